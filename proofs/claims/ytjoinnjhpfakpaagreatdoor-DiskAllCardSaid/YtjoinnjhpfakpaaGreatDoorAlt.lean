/-
  'Only these blocks, and new ones, have turned'; guard.Do in these words.
-/
import Derived.Test.YtjoinnjhpfakpaaGreatDoorMha
namespace Go.Proofs.YtjoinnjhpfakpaaGreatDoor
open Go.RowKit

/-- Of the blocks that were there, only those of R may have turned. -/
structure Alt (R : Nat → Prop) (w w' : World) : Prop where
  os : w'.os = w.os
  tape : w'.tape = w.tape
  output : w'.output = w.output
  size : w.heap.size ≤ w'.heap.size
  block : ∀ k, k < w.heap.size → ¬ R k → w'.heap[k]? = w.heap[k]?

section
variable {R R' : Nat → Prop} {w w' w'' : World} {B g : Nat} {t : TypeId} {cs : Array Value}
theorem Alt.refl (R : Nat → Prop) (w : World) : Alt R w w := ⟨rfl, rfl, rfl, Nat.le_refl _, fun _ _ _ => rfl⟩
theorem Alt.trans (h : Alt R w w') (k : Alt R w' w'') : Alt R w w'' :=
  ⟨k.os.trans h.os, k.tape.trans h.tape, k.output.trans h.output, Nat.le_trans h.size k.size, fun i hi hn => (k.block i (Nat.lt_of_lt_of_le hi h.size) hn).trans (h.block i hi hn)⟩
theorem Alt.mono (h : Alt R w w') (hr : ∀ k, k < w.heap.size → R k → R' k) : Alt R' w w' := ⟨h.os, h.tape, h.output, h.size, fun i hi hn => h.block i hi (fun e => hn (hr i hi e))⟩
/-- A later step may turn what was new at first. -/
theorem Alt.then (h : Alt R w w') (k : Alt R' w' w'') (hr : ∀ k, k < w.heap.size → R' k → R k) : Alt R w w'' :=
  ⟨k.os.trans h.os, k.tape.trans h.tape, k.output.trans h.output, Nat.le_trans h.size k.size, fun i hi hn => (k.block i (Nat.lt_of_lt_of_le hi h.size) (fun e => hn (hr i hi e))).trans (h.block i hi hn)⟩
theorem Alt.below (h : Alt R w w') (k : Below w'.heap.size w' w'') : Alt R w w'' :=
  ⟨k.os.trans h.os, k.tape.trans h.tape, k.output.trans h.output, Nat.le_trans h.size k.size, fun i hi hn => (k.block i (Nat.lt_of_lt_of_le hi h.size)).trans (h.block i hi hn)⟩
theorem Alt.of_below (k : Below w.heap.size w w') : Alt R w w' := (Alt.refl R w).below k
theorem Alt.of_grown {row : Option Nat} (k : w.grownBy w' row) (hr : ∀ j, row = some j → R j) : Alt R w w' :=
  ⟨k.os, k.tape, k.output, k.size, fun i hi hn => k.block i hi (fun e => hn (hr i e.symm))⟩
theorem Alt.grown {row : Option Nat} (h : Alt R w w') (k : w'.grownBy w'' row) (hr : ∀ j, row = some j → w.heap.size ≤ j ∨ R j) : Alt R w w'' :=
  ⟨k.os.trans h.os, k.tape.trans h.tape, k.output.trans h.output, Nat.le_trans h.size k.size, fun i hi hn => (k.block i (Nat.lt_of_lt_of_le hi h.size) (fun e => by
    rcases hr i e.symm with hj | hj
    · omega
    · exact hn hj)).trans (h.block i hi hn)⟩
theorem Alt.drew (h : Alt R w w') : Alt R w w'.drew := ⟨h.os, h.tape, h.output, h.size, h.block⟩
theorem Alt.drewN (h : Alt R w w') (n : Nat) : Alt R w (w'.drewN n) := ⟨h.os, h.tape, h.output, h.size, h.block⟩
theorem Alt.alloc (h : Alt R w w') (o : Obj) : Alt R w (w'.alloc o) := h.below ((Below.refl _ _).alloc (Nat.le_refl _) o)
theorem Alt.set (h : Alt R w w') {p : Addr} (hp : R p.block ∨ w.heap.size ≤ p.block) (u : Value) : Alt R w (w'.setCell p u) :=
  ⟨h.os, h.tape, h.output, by simpa [World.setCell] using h.size, fun i hi hn => (Below.heap_setCell w' p u i (by
    rintro rfl
    rcases hp with hp | hp
    · exact hn hp
    · omega)).trans (h.block i hi hn)⟩
theorem Alt.to (h : Alt R w w') (hr : ∀ k, R k → B ≤ k) (hB : B ≤ w.heap.size) : Below B w w' :=
  ⟨h.os, h.tape, h.output, h.size, fun k hk => h.block k (by omega) (fun e => by have := hr k e; omega)⟩
theorem Alt.none (h : Alt (fun _ => False) w w') : Below w.heap.size w w' := h.to (fun _ e => e.elim) (Nat.le_refl _)
theorem Whole.alt (hw : Whole w g t cs) (h : Alt R w w') (hn : ¬ R g) : Whole w' g t cs := (h.block g hw.lt hn).trans hw
theorem Alt.last {o : Obj} (h : Alt R (w.alloc o) w') : Alt R w w' := by
  refine ⟨h.os, h.tape, h.output, ?_, fun k hk hn => (h.block k (by simp; omega) hn).trans (Below.heap_alloc w o k hk)⟩
  have := h.size
  simp at this
  omega
end

section
variable (G : Nat) (caps : Array Value) (w : World) (R : Nat → Prop) (Q : World → Prop)
theorem do_ret_q (he : ∀ W, (callFunc G caps).run Tryz.prog W = .ok (.enter G caps) W) (hR : ¬ R w.heap.size)
    (hQ : ∀ w1 w2, w.heap.size < w1.heap.size → Q w1 → Alt (· = w.heap.size) w1 w2 → Q w2)
    (h : Calls Tryz.prog G caps (w.alloc (.cells #[.int .i64 0] 32)) fun e w' => e = .returned (.tuple #[]) ∧ Alt R (w.alloc (.cells #[.int .i64 0] 32)) w' ∧ Q w') :
    Calls Tryz.prog 106 #[.func (.func G) #[] caps] w fun e w' => e = .returned (.int .i64 0) ∧ Alt R w w' ∧ Q w' := by
  have hE := Whole.made w 32 #[.int .i64 0]
  refine (do_ret G caps w (fun w' => Alt R (w.alloc (.cells #[.int .i64 0] 32)) w' ∧ Q w') he ?_ h).mono ?_
  · rintro w' ⟨h2, -⟩
    have hE2 := hE.alt h2 hR
    exact ⟨0, (hE2.at_ 0).trans rfl, hE2.thawed 0⟩
  · rintro e w' ⟨rfl, w1, ⟨h1, hq⟩, rfl⟩
    have hs : w.heap.size < w1.heap.size := by have := h1.size; simp at this; omega
    exact ⟨rfl, h1.last.set (.inr (Nat.le_refl _)) _, hQ w1 _ hs hq (Alt.set (R := (· = w.heap.size)) (p := ⟨w.heap.size, 0, none⟩) (Alt.refl _ w1) (.inl rfl) _)⟩
theorem do_fault_q (c : Int) (he : ∀ W, (callFunc G caps).run Tryz.prog W = .ok (.enter G caps) W) (hR : ¬ R w.heap.size)
    (hQ : ∀ w1 w2, w.heap.size < w1.heap.size → Q w1 → Alt (· = w.heap.size) w1 w2 → Q w2)
    (h : Calls Tryz.prog G caps (w.alloc (.cells #[.int .i64 0] 32)) fun e w' => e = .panicked (fault c) ∧ Alt R (w.alloc (.cells #[.int .i64 0] 32)) w' ∧ Q w') :
    Calls Tryz.prog 106 #[.func (.func G) #[] caps] w fun e w' => e = .returned (.int .i64 c) ∧ Alt R w w' ∧ Q w' := by
  have hE := Whole.made w 32 #[.int .i64 0]
  refine (do_fault G caps w c (fun w' => Alt R (w.alloc (.cells #[.int .i64 0] 32)) w' ∧ Q w') he ?_ h).mono ?_
  · rintro w' ⟨h2, -⟩
    have hE2 := hE.alt h2 hR
    exact ⟨0, (hE2.at_ 0).trans rfl, hE2.thawed 0⟩
  · rintro e w' ⟨rfl, w1, w2, ⟨h1, hq⟩, hB, rfl⟩
    have hs : w.heap.size < w1.heap.size := by have := h1.size; simp at this; omega
    exact ⟨rfl, (h1.last.below hB).set (.inr (Nat.le_refl _)) _, hQ w1 _ hs hq (Alt.set (R := (· = w.heap.size)) (p := ⟨w.heap.size, 0, none⟩) ((Alt.refl _ w1).below hB) (.inl rfl) _)⟩
theorem do_other_q (v : Int) (he : ∀ W, (callFunc G caps).run Tryz.prog W = .ok (.enter G caps) W)
    (h : Calls Tryz.prog G caps (w.alloc (.cells #[.int .i64 0] 32)) fun e w' => e = .panicked [{ v := .iface 3 (.int .i64 v), recovered := false }] ∧ Alt R (w.alloc (.cells #[.int .i64 0] 32)) w') :
    Calls Tryz.prog 106 #[.func (.func G) #[] caps] w fun e w' => e = .panicked [{ v := .iface 3 (.int .i64 v), recovered := false }, { v := .iface 3 (.int .i64 v), recovered := true }] ∧ Alt R w w' := by
  refine (do_other G caps w v (fun w' => Alt R (w.alloc (.cells #[.int .i64 0] 32)) w') he h).mono ?_
  rintro e w' ⟨rfl, w1, h1, hB⟩
  exact ⟨rfl, h1.last.below hB⟩
end
end Go.Proofs.YtjoinnjhpfakpaaGreatDoor

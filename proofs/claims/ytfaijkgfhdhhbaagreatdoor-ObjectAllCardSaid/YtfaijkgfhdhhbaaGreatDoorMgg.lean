/-
  'Only these blocks, and new ones, have turned'; guard.Do in these words.
  Slices of bytes that came in; a copy of one's own.
  Slices that a row hands over, opened.
  Names (arrays of 32 bytes) that a row hands over by value, opened.
  Names as lists of 32 bytes; their order; lists of names that rise, each once.
  Entries of trees: which may be a tree's, their bytes, and back: the plain part.
-/
import Derived.Test.YtfaijkgfhdhhbaaGreatDoorMga
import Derived.Test.YtfaijkgfhdhhbaaGreatDoorBegB
import Derived.Maps.AppendAt
import Derived.Laws.AppendOwnNone
import Derived.Laws.OwnMore
import Derived.Test.YtfaijkgfhdhhbaaGreatDoorDoor
import Derived.Sort.LotA
import Derived.Lib.Bytealg
import Derived.Shelf.SlSortCmp.Insertion
namespace Go.Proofs.YtfaijkgfhdhhbaaGreatDoor
open Go.RowKit

/-- Of the blocks that were there, only those of R may have turned. -/
structure Alt (R : Nat → Prop) (w w' : World) : Prop where
  os : w'.os = w.os
  tape : w'.tape = w.tape
  output : w'.output = w.output
  size : w.heap.size ≤ w'.heap.size
  block : ∀ k, k < w.heap.size → ¬ R k → w'.heap[k]? = w.heap[k]?

section
variable {R R' : Nat → Prop} {w w' w'' : World} {B g : Nat} {t : TypeId} {cs : Array Value}
theorem Alt.refl (R : Nat → Prop) (w : World) : Alt R w w := ⟨rfl, rfl, rfl, Nat.le_refl _, fun _ _ _ => rfl⟩
theorem Alt.trans (h : Alt R w w') (k : Alt R w' w'') : Alt R w w'' :=
  ⟨k.os.trans h.os, k.tape.trans h.tape, k.output.trans h.output, Nat.le_trans h.size k.size, fun i hi hn => (k.block i (Nat.lt_of_lt_of_le hi h.size) hn).trans (h.block i hi hn)⟩
theorem Alt.mono (h : Alt R w w') (hr : ∀ k, k < w.heap.size → R k → R' k) : Alt R' w w' := ⟨h.os, h.tape, h.output, h.size, fun i hi hn => h.block i hi (fun e => hn (hr i hi e))⟩
/-- A later step may turn what was new at first. -/
theorem Alt.then (h : Alt R w w') (k : Alt R' w' w'') (hr : ∀ k, k < w.heap.size → R' k → R k) : Alt R w w'' :=
  ⟨k.os.trans h.os, k.tape.trans h.tape, k.output.trans h.output, Nat.le_trans h.size k.size, fun i hi hn => (k.block i (Nat.lt_of_lt_of_le hi h.size) (fun e => hn (hr i hi e))).trans (h.block i hi hn)⟩
theorem Alt.below (h : Alt R w w') (k : Below w'.heap.size w' w'') : Alt R w w'' :=
  ⟨k.os.trans h.os, k.tape.trans h.tape, k.output.trans h.output, Nat.le_trans h.size k.size, fun i hi hn => (k.block i (Nat.lt_of_lt_of_le hi h.size)).trans (h.block i hi hn)⟩
theorem Alt.of_below (k : Below w.heap.size w w') : Alt R w w' := (Alt.refl R w).below k
theorem Alt.of_grown {row : Option Nat} (k : w.grownBy w' row) (hr : ∀ j, row = some j → R j) : Alt R w w' :=
  ⟨k.os, k.tape, k.output, k.size, fun i hi hn => k.block i hi (fun e => hn (hr i e.symm))⟩
theorem Alt.grown {row : Option Nat} (h : Alt R w w') (k : w'.grownBy w'' row) (hr : ∀ j, row = some j → w.heap.size ≤ j ∨ R j) : Alt R w w'' :=
  ⟨k.os.trans h.os, k.tape.trans h.tape, k.output.trans h.output, Nat.le_trans h.size k.size, fun i hi hn => (k.block i (Nat.lt_of_lt_of_le hi h.size) (fun e => by
    rcases hr i e.symm with hj | hj
    · omega
    · exact hn hj)).trans (h.block i hi hn)⟩
theorem Alt.drew (h : Alt R w w') : Alt R w w'.drew := ⟨h.os, h.tape, h.output, h.size, h.block⟩
theorem Alt.drewN (h : Alt R w w') (n : Nat) : Alt R w (w'.drewN n) := ⟨h.os, h.tape, h.output, h.size, h.block⟩
theorem Alt.alloc (h : Alt R w w') (o : Obj) : Alt R w (w'.alloc o) := h.below ((Below.refl _ _).alloc (Nat.le_refl _) o)
theorem Alt.set (h : Alt R w w') {p : Addr} (hp : R p.block ∨ w.heap.size ≤ p.block) (u : Value) : Alt R w (w'.setCell p u) :=
  ⟨h.os, h.tape, h.output, by simpa [World.setCell] using h.size, fun i hi hn => (Below.heap_setCell w' p u i (by
    rintro rfl
    rcases hp with hp | hp
    · exact hn hp
    · omega)).trans (h.block i hi hn)⟩
theorem Alt.to (h : Alt R w w') (hr : ∀ k, R k → B ≤ k) (hB : B ≤ w.heap.size) : Below B w w' :=
  ⟨h.os, h.tape, h.output, h.size, fun k hk => h.block k (by omega) (fun e => by have := hr k e; omega)⟩
theorem Alt.none (h : Alt (fun _ => False) w w') : Below w.heap.size w w' := h.to (fun _ e => e.elim) (Nat.le_refl _)
theorem Whole.alt (hw : Whole w g t cs) (h : Alt R w w') (hn : ¬ R g) : Whole w' g t cs := (h.block g hw.lt hn).trans hw
theorem Alt.last {o : Obj} (h : Alt R (w.alloc o) w') : Alt R w w' := by
  refine ⟨h.os, h.tape, h.output, ?_, fun k hk hn => (h.block k (by simp; omega) hn).trans (Below.heap_alloc w o k hk)⟩
  have := h.size
  simp at this
  omega
end

section
variable (G : Nat) (caps : Array Value) (w : World) (R : Nat → Prop) (Q : World → Prop)
theorem do_ret_q (he : ∀ W, (callFunc G caps).run Tryz.prog W = .ok (.enter G caps) W) (hR : ¬ R w.heap.size)
    (hQ : ∀ w1 w2, w.heap.size < w1.heap.size → Q w1 → Alt (· = w.heap.size) w1 w2 → Q w2)
    (h : Calls Tryz.prog G caps (w.alloc (.cells #[.int .i64 0] 40)) fun e w' => e = .returned (.tuple #[]) ∧ Alt R (w.alloc (.cells #[.int .i64 0] 40)) w' ∧ Q w') :
    Calls Tryz.prog 51 #[.func (.func G) #[] caps] w fun e w' => e = .returned (.int .i64 0) ∧ Alt R w w' ∧ Q w' := by
  have hE := Whole.made w 40 #[.int .i64 0]
  refine (do_ret G caps w (fun w' => Alt R (w.alloc (.cells #[.int .i64 0] 40)) w' ∧ Q w') he ?_ h).mono ?_
  · rintro w' ⟨h2, -⟩
    have hE2 := hE.alt h2 hR
    exact ⟨0, (hE2.at_ 0).trans rfl, hE2.thawed 0⟩
  · rintro e w' ⟨rfl, w1, ⟨h1, hq⟩, rfl⟩
    have hs : w.heap.size < w1.heap.size := by have := h1.size; simp at this; omega
    exact ⟨rfl, h1.last.set (.inr (Nat.le_refl _)) _, hQ w1 _ hs hq (Alt.set (R := (· = w.heap.size)) (p := ⟨w.heap.size, 0, none⟩) (Alt.refl _ w1) (.inl rfl) _)⟩
theorem do_fault_q (c : Int) (he : ∀ W, (callFunc G caps).run Tryz.prog W = .ok (.enter G caps) W) (hR : ¬ R w.heap.size)
    (hQ : ∀ w1 w2, w.heap.size < w1.heap.size → Q w1 → Alt (· = w.heap.size) w1 w2 → Q w2)
    (h : Calls Tryz.prog G caps (w.alloc (.cells #[.int .i64 0] 40)) fun e w' => e = .panicked (fault c) ∧ Alt R (w.alloc (.cells #[.int .i64 0] 40)) w' ∧ Q w') :
    Calls Tryz.prog 51 #[.func (.func G) #[] caps] w fun e w' => e = .returned (.int .i64 c) ∧ Alt R w w' ∧ Q w' := by
  have hE := Whole.made w 40 #[.int .i64 0]
  refine (do_fault G caps w c (fun w' => Alt R (w.alloc (.cells #[.int .i64 0] 40)) w' ∧ Q w') he ?_ h).mono ?_
  · rintro w' ⟨h2, -⟩
    have hE2 := hE.alt h2 hR
    exact ⟨0, (hE2.at_ 0).trans rfl, hE2.thawed 0⟩
  · rintro e w' ⟨rfl, w1, w2, ⟨h1, hq⟩, hB, rfl⟩
    have hs : w.heap.size < w1.heap.size := by have := h1.size; simp at this; omega
    exact ⟨rfl, (h1.last.below hB).set (.inr (Nat.le_refl _)) _, hQ w1 _ hs hq (Alt.set (R := (· = w.heap.size)) (p := ⟨w.heap.size, 0, none⟩) ((Alt.refl _ w1).below hB) (.inl rfl) _)⟩
theorem do_other_q (v : Int) (he : ∀ W, (callFunc G caps).run Tryz.prog W = .ok (.enter G caps) W)
    (h : Calls Tryz.prog G caps (w.alloc (.cells #[.int .i64 0] 40)) fun e w' => e = .panicked [{ v := .iface 3 (.int .i64 v), recovered := false }] ∧ Alt R (w.alloc (.cells #[.int .i64 0] 40)) w') :
    Calls Tryz.prog 51 #[.func (.func G) #[] caps] w fun e w' => e = .panicked [{ v := .iface 3 (.int .i64 v), recovered := false }, { v := .iface 3 (.int .i64 v), recovered := true }] ∧ Alt R w w' := by
  refine (do_other G caps w v (fun w' => Alt R (w.alloc (.cells #[.int .i64 0] 40)) w') he h).mono ?_
  rintro e w' ⟨rfl, w1, h1, hB⟩
  exact ⟨rfl, h1.last.below hB⟩
end
end Go.Proofs.YtfaijkgfhdhhbaaGreatDoor
namespace Go.Proofs.YtfaijkgfhdhhbaaGreatDoor
open Go.RowKit

/-- A slice of values, as it came in. -/
def Arg (w : World) (A : Option Addr) (c : Nat) (vs : List Value) : Prop :=
  vs.length ≤ c ∧ c ≤ maxLen ∧ ((A = none ∧ c = 0) ∨ ∃ ad, A = some ad ∧ ∀ j u, vs[j]? = some u → w.cell? (ad.add j) = some u)
theorem Arg.nil {w : World} {c : Nat} {vs : List Value} (h : Arg w none c vs) : c = 0 ∧ vs = [] := by
  obtain ⟨h1, _, h2⟩ := h
  rcases h2 with ⟨-, rfl⟩ | ⟨ad, h, -⟩
  · exact ⟨rfl, List.length_eq_zero_iff.1 (by omega)⟩
  · cases h
theorem Arg.below {w w' : World} {A : Option Addr} {c : Nat} {vs : List Value} {B : Nat} (h : Arg w A c vs) (hb : Below B w w') (hB : w.heap.size ≤ B) : Arg w' A c vs := by
  obtain ⟨h1, h2, h4⟩ := h
  refine ⟨h1, h2, ?_⟩
  rcases h4 with h4 | ⟨ad, e, hc⟩
  · exact .inl h4
  · refine .inr ⟨ad, e, fun j u hu => (hb.cell ?_).trans (hc j u hu)⟩
    have := World.block_lt_of_cell? w _ (hc j u hu)
    omega
theorem Arg.spot {w : World} {A : Option Addr} {c : Nat} {vs : List Value} (h : Arg w A c vs) (h0 : 0 < vs.length) : ∃ g off, A = some ⟨g, off, none⟩ ∧ ∀ j u, vs[j]? = some u → w.cell? ⟨g, off + j, none⟩ = some u := by
  obtain ⟨h1, h2, h4⟩ := h
  rcases h4 with ⟨-, rfl⟩ | ⟨⟨g, off, sp⟩, rfl, hc⟩
  · omega
  · have hz := hc 0 vs[0] (List.getElem?_eq_getElem h0)
    obtain rfl : sp = none := by simpa [Addr.add] using World.cell?_spot hz
    refine ⟨g, off, rfl, fun j u hu => ?_⟩
    have := hc j u hu
    rw [Addr.add_mid] at this
    exact this
theorem Arg.take {w : World} {A : Option Addr} {c : Nat} {vs : List Value} (h : Arg w A c vs) (n : Nat) : Arg w A c (vs.take n) := by
  obtain ⟨h1, h2, h4⟩ := h
  refine ⟨by rw [List.length_take]; omega, h2, ?_⟩
  rcases h4 with h4 | ⟨ad, e, hc⟩
  · exact .inl h4
  · refine .inr ⟨ad, e, fun j u hu => hc j u ?_⟩
    rw [List.getElem?_take] at hu
    split at hu
    · exact hu
    · cases hu
theorem map_add0 (A : Option Addr) : A.map (fun a => a.add 0) = A := by
  cases A with
  | none => rfl
  | some a => simp [Addr.add]
theorem slice_to {P : Program} {A : Option Addr} {c : Nat} (T E m n : Nat) (hu : P.underlying T = some (.slice E)) (he : (P.info? E).map (·.size) = some 1) (hn : n ≤ c) (W : World) :
    (Instr.slice T (.slice A m c) none (some (.int .i64 (n : Int))) none).run P W = .ok (.slice A n c) W := by
  have hel : P.elem T = E := by simp [Program.elem, hu]
  have h := run_slice_h (P := P) (w := W) (t := T) (a := A) (len := m) (cap := c) (by rw [hel]; exact hu) .i64 (n : Int) (by omega) (by omega)
  rw [h, hel]
  cases hq : P.info? E with
  | none => simp [hq] at he
  | some i => simp [sizeOf, typeInfo, hq, sliced, map_add0]

theorem infoB : (Tryz.prog.info? 5).map (fun i => (i.zero, i.size, i.bytes)) = some (some (.int .u8 0), 1, 1) := by kernel_rfl
/-- append onto nil of a slice of bytes that came in, however it is: a row of the call's own. -/
theorem wpList_bcopy {ops : Array Oper} {rest : List Oper} {o : Oper} {a : Act} {w : World} {Q : Exit → Act → World → Prop} (hgd : o.guard = none) (s x : Operand)
    (ho : o.op = .call { callee := .builtin .append, args := #[s, x], argTypes := #[78, 78] }) (hs : a.eval s = .slice none 0 0)
    (A : Option Addr) (c : Nat) (bs : List UInt8) (hx : a.eval x = .slice A bs.length c) (hA : Arg w A c (bs.map Y)) (hl : bs.length ≤ 1048576)
    (h : ∀ v' w', w'.ownsRow w.heap.size 5 1 v' bs.length (bs.map Y) → Below w.heap.size w w' → wpList Tryz.prog ops Q rest (a.put o.dst v') w') : wpList Tryz.prog ops Q (o :: rest) a w := by
  obtain ⟨bi, hbi, hz0, hz1, hz2⟩ := info_parts infoB
  cases A with
  | none =>
    obtain ⟨rfl, hnil⟩ := hA.nil
    obtain rfl : bs = [] := by simpa using hnil
    refine wpList_append_own_none hgd s x 78 ho w.heap.size 5 bi 1 Tryz.underlying78 hbi (.slice none 0 0) 0 [] hs (World.ownsRow_nil _ _ _ _) hx ?_
    exact h _ _ (World.ownsRow_nil _ _ _ _) (Below.refl _ _)
  | some ad =>
    obtain ⟨h1, h2, h4⟩ := hA
    have hcell : ∀ j u, (bs.map Y)[j]? = some u → w.cell? (ad.add j) = some u := by
      rcases h4 with ⟨h4, -⟩ | ⟨ad', e, hc⟩
      · cases h4
      · cases e; exact hc
    refine wpList_append_own_at w hgd s x 78 ho w.heap.size 5 bi (.int .u8 0) 1 1 Tryz.underlying78 hbi hz0 hz1 hz2 rfl (by decide) (.slice none 0 0) 0 [] hs (World.ownsRow_nil _ _ _ _) ad bs.length c (bs.map Y) hx (by simp) hcell (ys_one bs) (by unfold maxLen; omega) (by omega) (Nat.le_refl _) ?_
    intro v' w' hown hgrow _ hloc
    rw [Nat.zero_add, List.nil_append] at hown
    refine h v' w' hown ?_
    exact ⟨hgrow.os, hgrow.tape, hgrow.output, hgrow.size, fun k hk => hgrow.block k hk (by simp [Value.ownBlock])⟩
/-- A row of bytes of the call's own: its block whole. -/
theorem own_bytes {w : World} {B : Nat} {v : Value} {bs : List UInt8} (h : w.ownsRow B 5 1 v bs.length (bs.map Y)) :
    ∃ A c, v = .slice A bs.length c ∧ bs.length ≤ c ∧ c ≤ maxLen ∧ ((bs = [] ∧ A = none ∧ c = 0) ∨ ∃ g sp, A = some ⟨g, 0, none⟩ ∧ B ≤ g ∧ Whole w g 5 (bs.map Y ++ sp).toArray ∧ bs.length + sp.length = c) := by
  rcases h.2 with ⟨rfl, h0⟩ | ⟨g, cap, cur, rfl, hB, hg, hn, hm, hs, ht⟩
  · obtain rfl : bs = [] := List.length_eq_zero_iff.1 h0
    exact ⟨none, 0, rfl, Nat.le_refl _, by unfold maxLen; omega, .inl ⟨rfl, rfl, rfl⟩⟩
  · rw [Nat.mul_one] at hs ht
    refine ⟨_, cap, rfl, hn, hm, .inr ⟨g, cur.toList.drop bs.length, rfl, hB, ?_, ?_⟩⟩
    · have e : (bs.map Y ++ cur.toList.drop bs.length).toArray = cur := by
        rw [← ht, List.take_append_drop]
      rw [e]
      exact hg
    · have := congrArg List.length ht
      simp at this ⊢
      omega
/-- Its cells, and what a reader of bytes wants. -/
theorem whole_bytes {w : World} {g : Nat} {bs : List UInt8} {sp : List Value} {c : Nat} (h : Whole w g 5 (bs.map Y ++ sp).toArray) (hc : bs.length ≤ c) (hm : c ≤ maxLen) : Bytes w (.slice (some ⟨g, 0, none⟩) bs.length c) bs := by
  refine ⟨_, _, rfl, hc, hm, fun _ => ⟨_, _, rfl, fun i hi => ?_⟩⟩
  rw [Nat.zero_add, h.at_, List.getElem?_toArray, List.getElem?_append_left (by simpa using hi), ← some_y _ _ hi]
theorem bytes_nil (w : World) : Bytes w (.slice none 0 0) [] := ⟨none, 0, rfl, Nat.le_refl _, by unfold maxLen; omega, fun h => absurd h (by simp)⟩
/-- One byte of it put. -/
theorem whole_put {w : World} {g : Nat} {bs : List UInt8} {sp : List Value} (h : Whole w g 5 (bs.map Y ++ sp).toArray) (i : Nat) (hi : i < bs.length) (c : UInt8) :
    Whole (w.setCell ⟨g, i, none⟩ (Y c)) g 5 ((bs.set i c).map Y ++ sp).toArray := by
  have h1 := h.put i (Y c)
  have e : (bs.map Y ++ sp).toArray.setIfInBounds i (Y c) = ((bs.set i c).map Y ++ sp).toArray := by
    rw [List.setIfInBounds_toArray, List.set_append_left _ _ (by simpa using hi), List.map_set]
  rw [e] at h1
  exact h1

/-- A slice of bytes of the call's own, nil let in. -/
def Row (w : World) (A : Option Addr) (c : Nat) (bs : List UInt8) : Prop :=
  bs.length ≤ c ∧ c ≤ maxLen ∧ (0 < bs.length → ∃ g, A = some ⟨g, 0, none⟩ ∧ g < w.heap.size ∧ ∀ i, i < bs.length → w.cell? ⟨g, i, none⟩ = some (Y (bs.getD i 0)) ∧ w.frozen? ⟨g, i, none⟩ = false)
/-- Its block. -/
def blockOf (A : Option Addr) (j : Nat) : Prop := ∃ a, A = some a ∧ a.block = j
section
variable {w w' : World} {A : Option Addr} {c : Nat} {bs : List UInt8} {R : Nat → Prop}
theorem Row.of_whole {g : Nat} {sp : List Value} (hw : Whole w g 5 (bs.map Y ++ sp).toArray) (h1 : bs.length ≤ c) (h2 : c ≤ maxLen) : Row w (some ⟨g, 0, none⟩) c bs :=
  ⟨h1, h2, fun _ => ⟨g, rfl, hw.lt, fun i hi => ⟨by rw [hw.at_, List.getElem?_toArray, List.getElem?_append_left (by simpa using hi), ← some_y _ _ hi], hw.thawed i⟩⟩⟩
theorem Row.nil {A : Option Addr} (hc : c ≤ maxLen) : Row w A c [] := ⟨Nat.zero_le _, hc, fun h => absurd h (by simp)⟩
theorem Row.of_own {B : Nat} {v : Value} (h : w.ownsRow B 5 1 v bs.length (bs.map Y)) : ∃ A c, v = .slice A bs.length c ∧ Row w A c bs ∧ ∀ j, blockOf A j → B ≤ j ∧ j < w.heap.size := by
  obtain ⟨A, c, rfl, h1, h2, h3⟩ := own_bytes h
  rcases h3 with ⟨rfl, rfl, rfl⟩ | ⟨g, sp, rfl, h4, h5, _⟩
  · exact ⟨_, _, rfl, Row.nil h2, by rintro j ⟨a, h, -⟩; cases h⟩
  · refine ⟨_, _, rfl, Row.of_whole h5 h1 h2, ?_⟩
    rintro j ⟨a, h, rfl⟩
    cases h
    exact ⟨h4, h5.lt⟩
theorem Row.bytes (h : Row w A c bs) : Bytes w (.slice A bs.length c) bs := by
  obtain ⟨h1, h2, h3⟩ := h
  refine ⟨A, c, rfl, h1, h2, fun h0 => ?_⟩
  obtain ⟨g, rfl, _, hc⟩ := h3 h0
  exact ⟨g, 0, rfl, fun i hi => by rw [Nat.zero_add]; exact (hc i hi).1⟩
theorem Row.at_ (h : Row w A c bs) {k : Nat} (hk : k < bs.length) : ∃ g, A = some ⟨g, 0, none⟩ ∧ g < w.heap.size ∧ w.cell? ⟨g, k, none⟩ = some (Y (bs.getD k 0)) ∧ w.frozen? ⟨g, k, none⟩ = false ∧ ∀ x, Row (w.setCell ⟨g, k, none⟩ (Y x)) A c (bs.set k x) := by
  obtain ⟨h1, h2, h3⟩ := h
  obtain ⟨g, rfl, hg, hc⟩ := h3 (by omega)
  refine ⟨g, rfl, hg, (hc k hk).1, (hc k hk).2, fun x => ⟨by simpa using h1, h2, fun _ => ⟨g, rfl, by simpa [World.setCell] using hg, fun i hi => ?_⟩⟩⟩
  rw [List.length_set] at hi
  refine ⟨?_, by rw [World.frozen?_setCell]; exact (hc i hi).2⟩
  by_cases hik : i = k
  · subst hik
    rw [World.cell?_setCell_same _ _ _ (hc i hi).1]
    simp [List.getD, hi]
  · rw [World.cell?_setCell_other _ _ _ _ (by intro e; injection e with _ e; exact hik e.symm), (hc i hi).1]
    simp [List.getD, List.getElem?_set_ne (show k ≠ i from fun e => hik e.symm)]
theorem Row.alt (h : Row w A c bs) (ha : Alt R w w') (hn : ∀ j, blockOf A j → ¬ R j) : Row w' A c bs := by
  obtain ⟨h1, h2, h3⟩ := h
  refine ⟨h1, h2, fun h0 => ?_⟩
  obtain ⟨g, rfl, hg, hc⟩ := h3 h0
  have hb := ha.block g hg (hn g ⟨_, rfl, rfl⟩)
  exact ⟨g, rfl, Nat.lt_of_lt_of_le hg ha.size, fun i hi => ⟨(World.cell?_of_block hb).trans (hc i hi).1, (World.frozen?_of_block hb).trans (hc i hi).2⟩⟩
theorem Row.below (h : Row w A c bs) (hb : Below w.heap.size w w') : Row w' A c bs := h.alt (R := fun _ => False) (Alt.of_below hb) (fun _ _ e => e)
theorem Row.past (h : Row w A c bs) (o : Obj) : Row (w.alloc o) A c bs := h.below ((Below.refl _ _).alloc (Nat.le_refl _) o)
end
end Go.Proofs.YtfaijkgfhdhhbaaGreatDoor
namespace Go.Proofs.YtfaijkgfhdhhbaaGreatDoor.Door
open Go.RowKit Go.ChangeShapes Go.WideShapes Go.ChangeAt

section
variable {H : Type} {enc : TypeId × Value → H} {W : World} {base : Nat} {v : Value} {d : DataW H} {p : List MemPlace}
set_option maxRecDepth 100000 in
theorem open_bytes (hval : Value.okWide Tryz.prog W .any base 78 v) (h : DataW.Trod enc Tryz.prog W 0 (fun _ => true) true 78 v d p) :
    ∃ A c bs, v = .slice A (List.length bs) c ∧ Arg W A c (bs.map Y) := by
  obtain ⟨a0, len, cap, rfl⟩ := okWide_slice Tryz.underlying78 hval
  obtain ⟨fuel, hf⟩ := h
  rcases open_ints Tryz.underlying78 Tryz.underlying5 ce8 hf with ⟨hcs, hx⟩ | ⟨a, len', cap', zs, hcs, _, hl, hm, hz, hx, hcell, hwz⟩
  · simp [Value.cells] at hcs
    obtain ⟨rfl, rfl, rfl⟩ := hcs
    exact ⟨none, 0, [], rfl, Nat.le_refl _, Nat.zero_le _, .inl ⟨rfl, rfl⟩⟩
  · simp [Value.cells] at hcs
    obtain ⟨rfl, rfl, rfl⟩ := hcs
    simp only [if_true] at hz
    have hy : ∀ z ∈ zs, Value.int .u8 z = Y (UInt8.ofNat z.toNat) := by
      intro z hz
      obtain ⟨b, rfl⟩ := wf_u8 (hwz z hz)
      simp [Y]
    refine ⟨some a, cap, (zs.take len).map fun z => UInt8.ofNat z.toNat, by rw [List.length_map, List.length_take, Nat.min_eq_left (by omega)], ?_, hm, .inr ⟨a, rfl, ?_⟩⟩
    · rw [List.length_map, List.length_map, List.length_take]; omega
    · intro j u hu
      rw [List.map_map, List.getElem?_map, Option.map_eq_some_iff] at hu
      obtain ⟨z, hzj, rfl⟩ := hu
      rw [List.getElem?_take] at hzj
      split at hzj
      · have hj : j < zs.length := by
          rw [List.getElem?_eq_some_iff] at hzj
          exact hzj.1
        rw [hcell j hj]
        have e : zs.getD j 0 = z := by simp [List.getD, hzj]
        rw [e]
        exact congrArg some (hy z (List.mem_of_getElem? hzj))
      · cases hzj
end
end Go.Proofs.YtfaijkgfhdhhbaaGreatDoor.Door
namespace Go.Proofs.YtfaijkgfhdhhbaaGreatDoor.Door
open Go.RowKit Go.ChangeShapes Go.WideShapes Go.ChangeAt

set_option maxRecDepth 100000 in
theorem ceId : Tryz.prog.cellsOf 24 = 32 := by kernel_rfl
def byteOf : Value → UInt8
  | .int _ n => UInt8.ofNat n.toNat
  | _ => 0
section
variable {H : Type} {enc : TypeId × Value → H} {W : World} {base : Nat} {v : Value} {d : DataW H} {p : List MemPlace}
set_option maxRecDepth 100000 in
theorem id_of_cells {cs : List Value} {sp : Nat → Bool} {held : Bool} {fuel : Nat} {x : DataW H × List MemPlace} {b : Nat} (hf : DataW.trod enc Tryz.prog W b sp held fuel 24 cs = some x) :
    ∃ id : List UInt8, id.length = 32 ∧ cs = id.map Y := by
  obtain ⟨xs, m, -, -, hl, hxl, hi⟩ := DataW.trod_array Tryz.underlying24 hf
  rw [ceId] at hl
  refine ⟨cs.map byteOf, by rw [List.length_map, hl], ?_⟩
  apply List.ext_getElem
  · simp
  intro i h1 h2
  have hi1 := hi i (by omega)
  rw [ce8, Nat.mul_one, List.getElem?_eq_getElem (by omega)] at hi1
  obtain ⟨n, hn, -, hwf⟩ := DataW.trod_int Tryz.underlying5 hi1
  have hc : cs[i] = .int .u8 n := by
    rw [List.drop_eq_getElem_cons h1, List.take_succ_cons] at hn
    exact (List.cons.inj hn).1
  obtain ⟨b, rfl⟩ := wf_u8 hwf
  rw [List.getElem_map, List.getElem_map, hc]
  simp [byteOf, Y]
set_option maxRecDepth 100000 in
theorem open_id (hval : Value.okWide Tryz.prog W .any base 24 v) (h : DataW.Trod enc Tryz.prog W 0 (fun _ => true) true 24 v d p) :
    ∃ id : List UInt8, id.length = 32 ∧ v = .agg (id.map Y).toArray := by
  simp only [Value.okWide, Tryz.underlying24] at hval
  obtain ⟨cs, rfl, -⟩ := hval
  obtain ⟨fuel, hf⟩ := h
  obtain ⟨id, hl, he⟩ := id_of_cells hf
  refine ⟨id, hl, ?_⟩
  rw [← he]
  simp [Value.cells]
end
end Go.Proofs.YtfaijkgfhdhhbaaGreatDoor.Door
namespace Go.Proofs.YtfaijkgfhdhhbaaGreatDoor
open Go.Lib Go.Sort

structure Nm where
  l : List UInt8
  h : l.length = 32
instance : Inhabited Nm := ⟨⟨List.replicate 32 0, List.length_replicate⟩⟩
theorem Nm.same {a b : Nm} (h : a.l = b.l) : a = b := by
  cases a
  cases b
  simp only at h
  subst h
  rfl
instance : DecidableEq Nm := fun a b => if h : a.l = b.l then .isTrue (Nm.same h) else .isFalse fun e => h (by rw [e])

theorem cb_lt : ∀ a b : List UInt8, compareBytes a b < 0 ↔ a < b
  | [], [] => by simp [compareBytes]
  | [], _ :: _ => by simp [compareBytes]
  | _ :: _, [] => by simp [compareBytes]
  | a :: l, b :: m => by
    unfold compareBytes
    rw [List.cons_lt_cons_iff]
    by_cases h : a < b
    · simp [h]
    · rw [if_neg h]
      by_cases h2 : b < a
      · have hne : a ≠ b := fun e => by subst e; exact absurd h2 (UInt8.lt_irrefl _)
        simp [h2, h, hne]
      · rw [if_neg h2, cb_lt l m]
        have he : a = b := UInt8.le_antisymm (UInt8.not_lt.1 h2) (UInt8.not_lt.1 h)
        simp [he, UInt8.lt_irrefl]

/-- The order of names. -/
def cmpN (x y : Nm) : Int := compareBytes x.l y.l
def ltN (x y : Nm) : Prop := x.l < y.l
instance (x y : Nm) : Decidable (ltN x y) := inferInstanceAs (Decidable (x.l < y.l))
theorem ltOf_cmpN (x y : Nm) : ltOf cmpN x y = decide (ltN x y) := by
  exact decide_eq_decide.2 (cb_lt x.l y.l)
theorem ltN_irrefl (x : Nm) : ¬ ltN x x := List.lt_irrefl x.l
theorem ltN_trans {x y z : Nm} (h : ltN x y) (k : ltN y z) : ltN x z := List.lt_trans h k
theorem ltN_total {x y : Nm} (h : ¬ ltN x y) (k : ¬ ltN y x) : x = y := Nm.same (List.le_antisymm (List.not_lt.1 k) (List.not_lt.1 h))
theorem ltN_of_not {x y : Nm} (h : ¬ ltN x y) (k : x ≠ y) : ltN y x := Decidable.byContradiction fun g => k (ltN_total h g)
theorem swoN : SWO (ltOf cmpN) where
  irrefl x := by rw [ltOf_cmpN]; simpa using ltN_irrefl x
  trans x y z h k := by
    rw [ltOf_cmpN] at *
    simp only [decide_eq_true_eq] at *
    exact ltN_trans h k
  ntrans x y z h k := by
    rw [ltOf_cmpN] at *
    simp only [decide_eq_false_iff_not] at *
    unfold ltN at *
    rw [List.not_lt] at *
    exact List.le_trans k h

/-- Rising, each once. -/
def Rise (l : List Nm) : Prop := l.Pairwise ltN
theorem rise_uniq : ∀ {s t : List Nm}, Rise s → Rise t → (∀ x, x ∈ s ↔ x ∈ t) → s = t
  | [], [], _, _, _ => rfl
  | [], b :: t, _, _, h => by have := (h b).2 (by simp); cases this
  | a :: s, [], _, _, h => by have := (h a).1 (by simp); cases this
  | a :: s, b :: t, hs, ht, h => by
    obtain ⟨hs1, hs2⟩ := List.pairwise_cons.1 hs
    obtain ⟨ht1, ht2⟩ := List.pairwise_cons.1 ht
    have hab : a = b := by
      have h1 := (h a).1 (by simp)
      have h2 := (h b).2 (by simp)
      rw [List.mem_cons] at h1 h2
      rcases h1 with h1 | h1
      · exact h1
      · rcases h2 with h2 | h2
        · exact h2.symm
        · exact absurd (ltN_trans (hs1 b h2) (ht1 a h1)) (ltN_irrefl a)
    subst hab
    rw [rise_uniq hs2 ht2 fun x => ?_]
    constructor
    · intro hx
      have := (h x).1 (by simp [hx])
      rw [List.mem_cons] at this
      rcases this with rfl | this
      · exact absurd (hs1 _ hx) (ltN_irrefl _)
      · exact this
    · intro hx
      have := (h x).2 (by simp [hx])
      rw [List.mem_cons] at this
      rcases this with rfl | this
      · exact absurd (ht1 _ hx) (ltN_irrefl _)
      · exact this
theorem Rise.at_ {s : List Nm} (h : Rise s) {i j : Nat} (hij : i < j) (hj : j < s.length) : ltN (s.getD i default) (s.getD j default) := by
  have := List.pairwise_iff_getElem.1 h i j (by omega) hj hij
  simpa [List.getD, List.getElem?_eq_getElem hj, List.getElem?_eq_getElem (show i < s.length by omega)] using this

/-- The first m of d, those that are as the one ahead of them left out. -/
def cptk (d : List Nm) : Nat → List Nm
  | 0 => []
  | m + 1 => if m ≠ 0 ∧ d.getD m default = d.getD (m - 1) default then cptk d m else cptk d m ++ [d.getD m default]
theorem cptk_len (d : List Nm) : ∀ m, (cptk d m).length ≤ m
  | 0 => Nat.le_refl _
  | m + 1 => by
    have := cptk_len d m
    unfold cptk
    split
    · omega
    · rw [List.length_append, List.length_singleton]; omega
theorem cptk_pos (d : List Nm) : ∀ m, 0 < m → 0 < (cptk d m).length
  | 0, h => absurd h (Nat.lt_irrefl _)
  | m + 1, _ => by
    unfold cptk
    split
    · rename_i h
      exact cptk_pos d m (by omega)
    · rw [List.length_append, List.length_singleton]; omega
theorem cptk_mem (d : List Nm) : ∀ m, m ≤ d.length → ∀ x, x ∈ cptk d m ↔ x ∈ d.take m
  | 0, _, x => by simp [cptk]
  | m + 1, h, x => by
    have ih := cptk_mem d m (by omega) x
    have hm : d.getD m default = d[m]'(by omega) := by simp [List.getD, List.getElem?_eq_getElem (show m < d.length by omega)]
    rw [List.take_succ_eq_append_getElem (by omega), List.mem_append, List.mem_singleton, ← hm]
    unfold cptk
    split
    · rename_i hh
      rw [ih]
      constructor
      · exact .inl
      · rintro (h1 | rfl)
        · exact h1
        · rw [hh.2]
          have h1 : m - 1 < (d.take m).length := by rw [List.length_take]; omega
          have : d.getD (m - 1) default = (d.take m)[m - 1] := by
            rw [List.getElem_take]
            simp [List.getD, List.getElem?_eq_getElem (show m - 1 < d.length by omega)]
          rw [this]
          exact List.getElem_mem h1
    · rw [List.mem_append, List.mem_singleton, ih]
/-- In order: none is less than one ahead of it. -/
def Ord (d : List Nm) : Prop := ∀ i j, i < j → j < d.length → ¬ ltN (d.getD j default) (d.getD i default)
theorem cptk_rise (d : List Nm) (hd : Ord d) : ∀ m, m ≤ d.length → Rise (cptk d m) ∧ (m ≠ 0 → (cptk d m).getLast? = some (d.getD (m - 1) default))
  | 0, _ => ⟨List.Pairwise.nil, fun h => absurd rfl h⟩
  | m + 1, h => by
    obtain ⟨h1, h2⟩ := cptk_rise d hd m (by omega)
    unfold cptk
    split
    · rename_i hh
      exact ⟨h1, fun _ => by rw [h2 hh.1, Nat.add_sub_cancel, hh.2]⟩
    · rename_i hh
      refine ⟨List.pairwise_append.2 ⟨h1, List.pairwise_singleton _ _, fun a ha b hb => ?_⟩, fun _ => by rw [List.getLast?_append, Nat.add_sub_cancel]; rfl⟩
      rw [List.mem_singleton] at hb
      subst hb
      have hm0 : m ≠ 0 := by
        rintro rfl
        simp [cptk] at ha
      have hne : d.getD m default ≠ d.getD (m - 1) default := fun e => hh ⟨hm0, e⟩
      have hlast := h2 hm0
      have hlt : ltN (d.getD (m - 1) default) (d.getD m default) := ltN_of_not (hd (m - 1) m (by omega) (by omega)) hne
      by_cases hal : a = d.getD (m - 1) default
      · rw [hal]; exact hlt
      · have hne2 : cptk d m ≠ [] := fun e => by rw [e] at ha; cases ha
        have hcat := List.dropLast_concat_getLast hne2
        have hgl : (cptk d m).getLast hne2 = d.getD (m - 1) default := by
          rw [List.getLast?_eq_some_getLast hne2] at hlast
          exact Option.some.inj hlast
        rw [← hcat, hgl] at ha h1
        rw [List.mem_append, List.mem_singleton] at ha
        rcases ha with ha | ha
        · exact ltN_trans ((List.pairwise_append.1 h1).2.2 a ha _ (by simp)) hlt
        · exact absurd ha hal
/-- Where no two beside one another are alike, all are there. -/
theorem cptk_all (d : List Nm) : ∀ m, m ≤ d.length → (∀ i, 0 < i → i < m → d.getD i default ≠ d.getD (i - 1) default) → cptk d m = d.take m
  | 0, _, _ => by simp [cptk]
  | m + 1, h, hh => by
    have ih := cptk_all d m (by omega) fun i h0 h1 => hh i h0 (by omega)
    unfold cptk
    rw [if_neg (fun e => hh m (by omega) (by omega) e.2), ih, List.take_succ_eq_append_getElem (by omega)]
    simp [List.getD, List.getElem?_eq_getElem (show m < d.length by omega)]
theorem cptk_step (d : List Nm) (m : Nat) (hm : 0 < m) : cptk d (m + 1) = if d.getD m default = d.getD (m - 1) default then cptk d m else cptk d m ++ [d.getD m default] := by
  rw [cptk]
  by_cases h : d.getD m default = d.getD (m - 1) default
  · rw [if_pos ⟨by omega, h⟩, if_pos h]
  · rw [if_neg (fun e => h e.2), if_neg h]
theorem rise_ins {s : List Nm} {x : Nm} {k : Nat} (hs : Rise s) (hk : k ≤ s.length) (h1 : ∀ i, i < k → ltN (s.getD i default) x) (h2 : k < s.length → ltN x (s.getD k default)) :
    Rise (s.take k ++ x :: s.drop k) := by
  have ht : ∀ y ∈ s.take k, ltN y x := by
    intro y hy
    obtain ⟨i, hi, rfl⟩ := List.mem_iff_getElem.1 hy
    rw [List.length_take] at hi
    have := h1 i (by omega)
    rw [List.getElem_take]
    simpa [List.getD, List.getElem?_eq_getElem (show i < s.length by omega)] using this
  have hd : ∀ y ∈ s.drop k, ltN x y := by
    intro y hy
    obtain ⟨i, hi, rfl⟩ := List.mem_iff_getElem.1 hy
    rw [List.length_drop] at hi
    have hk2 := h2 (by omega)
    rw [List.getElem_drop]
    rcases Nat.eq_zero_or_pos i with rfl | hpos
    · simpa [List.getD, List.getElem?_eq_getElem (show k < s.length by omega)] using hk2
    · have := hs.at_ (show k < k + i by omega) (show k + i < s.length by omega)
      have := ltN_trans hk2 this
      simpa [List.getD, List.getElem?_eq_getElem (show k + i < s.length by omega)] using this
  refine List.pairwise_append.2 ⟨List.Pairwise.sublist (List.take_sublist _ _) hs, List.pairwise_cons.2 ⟨hd, List.Pairwise.sublist (List.drop_sublist _ _) hs⟩, fun a ha b hb => ?_⟩
  rw [List.mem_cons] at hb
  rcases hb with rfl | hb
  · exact ht a ha
  · exact ltN_trans (ht a ha) (hd b hb)
theorem mem_ins (s : List Nm) (x : Nm) (k : Nat) (y : Nm) : y ∈ s.take k ++ x :: s.drop k ↔ y ∈ s ∨ y = x := by
  rw [List.mem_append, List.mem_cons]
  constructor
  · rintro (h | h | h)
    · exact .inl (List.mem_of_mem_take h)
    · exact .inr h
    · exact .inl (List.mem_of_mem_drop h)
  · rintro (h | h)
    · rw [← List.take_append_drop k s, List.mem_append] at h
      rcases h with h | h
      · exact .inl h
      · exact .inr (.inr h)
    · exact .inr (.inl h)
end Go.Proofs.YtfaijkgfhdhhbaaGreatDoor
namespace Go.Proofs.YtfaijkgfhdhhbaaGreatDoor

structure En where
  name : List UInt8
  dir : Bool
  id : Nm
instance : Inhabited En := ⟨⟨[], false, default⟩⟩
def okSign (b : UInt8) : Bool := (decide (97 ≤ b.toNat) && decide (b.toNat ≤ 122)) || (decide (48 ≤ b.toNat) && decide (b.toNat ≤ 57)) || b.toNat == 46 || b.toNat == 45 || b.toNat == 95
def okName (s : List UInt8) : Bool := decide (0 < s.length) && decide (s.length ≤ 20) && !(s == [46]) && !(s == [46, 46]) && s.all okSign
def okAt (es : List En) (j : Nat) : Bool := okName (es.getD j default).name && (decide (j = 0) || Op.bytesLess (es.getD (j - 1) default).name (es.getD j default).name)
def risesTo (es : List En) (k : Nat) : Bool := (List.range k).all (okAt es)
def mayT (es : List En) : Bool := decide (es.length ≤ 20) && risesTo es es.length
theorem risesTo_zero (es : List En) : risesTo es 0 = true := rfl
theorem risesTo_succ (es : List En) (k : Nat) : risesTo es (k + 1) = (risesTo es k && okAt es k) := by
  unfold risesTo
  rw [List.range_succ, List.all_append]
  simp
theorem risesTo_le (es : List En) {k n : Nat} (h : k ≤ n) (hn : risesTo es n = true) : risesTo es k = true := by
  unfold risesTo at *
  rw [List.all_eq_true] at *
  intro j hj
  exact hn j (List.mem_range.2 (by have := List.mem_range.1 hj; omega))
theorem risesTo_at (es : List En) {k j : Nat} (hn : risesTo es k = true) (h : j < k) : okAt es j = true := by
  unfold risesTo at hn
  rw [List.all_eq_true] at hn
  exact hn j (List.mem_range.2 h)
theorem risesTo_not (es : List En) {k n : Nat} (h : k < n) (hk : okAt es k = false) : risesTo es n = false := by
  cases hr : risesTo es n with
  | false => rfl
  | true =>
    rw [risesTo_at es hr h] at hk
    cases hk

/-- The bytes of an entry, of some. -/
def bytesE (e : En) : List UInt8 := [if e.dir then 100 else 102, 32] ++ e.name ++ [0] ++ e.id.l
def encT (es : List En) : List UInt8 := es.flatMap bytesE
theorem encT_snoc (es : List En) (e : En) : encT (es ++ [e]) = encT es ++ bytesE e := by simp [encT]
theorem bytesE_len (e : En) : (bytesE e).length = e.name.length + 35 := by
  simp only [bytesE, List.length_append, List.length_cons, List.length_nil, e.id.h]
  omega

def cutName : List UInt8 → Option (List UInt8 × List UInt8)
  | [] => none
  | b :: r => if b = 0 then some ([], r) else (cutName r).map fun p => (b :: p.1, p.2)
theorem ncut_at : ∀ (s : List UInt8) (k : Nat), (∀ j, j < k → s.getD j 0 ≠ 0) → k < s.length → s.getD k 0 = 0 → cutName s = some (s.take k, s.drop (k + 1))
  | [], k, _, h, _ => absurd h (Nat.not_lt_zero _)
  | b :: r, 0, _, _, h => by
    have h : b = 0 := h
    simp [cutName, h]
  | b :: r, k + 1, h1, h2, h3 => by
    have hb : b ≠ 0 := h1 0 (Nat.succ_pos _)
    have := ncut_at r k (fun j hj => h1 (j + 1) (by omega)) (by simpa using h2) (by simpa using h3)
    simp [cutName, hb, this]
theorem ncut_none : ∀ (s : List UInt8), (∀ j, j < s.length → s.getD j 0 ≠ 0) → cutName s = none
  | [], _ => rfl
  | b :: r, h => by
    have hb : b ≠ 0 := h 0 (Nat.succ_pos _)
    have := ncut_none r (fun j hj => h (j + 1) (by simpa using hj))
    simp [cutName, hb, this]
theorem cut_back : ∀ (s n t : List UInt8), cutName s = some (n, t) → s = n ++ 0 :: t
  | [], n, t, h => by cases h
  | b :: r, n, t, h => by
    unfold cutName at h
    by_cases hb : b = 0
    · rw [if_pos hb] at h
      injection h with h
      injection h with h1 h2
      subst h1 h2
      simp [hb]
    · rw [if_neg hb] at h
      cases hc : cutName r with
      | none => rw [hc] at h; cases h
      | some p =>
        rw [hc] at h
        injection h with h
        injection h with h1 h2
        subst h1 h2
        rw [List.cons_append, ← cut_back r p.1 p.2 hc]
theorem cut_put (n t : List UInt8) (h : (0 : UInt8) ∉ n) : cutName (n ++ 0 :: t) = some (n, t) := by
  induction n with
  | nil => simp [cutName]
  | cons b r ih =>
    have hb : b ≠ 0 := fun e => h (by simp [e])
    rw [List.cons_append]
    unfold cutName
    rw [if_neg hb, ih (fun hm => h (List.mem_cons_of_mem _ hm))]
    rfl
def rawEnt : List UInt8 → Option (En × List UInt8)
  | m :: sp :: r =>
    if (m = 100 ∨ m = 102) ∧ sp = 32 then
      match cutName r with
      | some (n, t) => if h : 32 ≤ t.length then some (⟨n, m == 100, ⟨t.take 32, by rw [List.length_take]; omega⟩⟩, t.drop 32) else none
      | none => none
    else none
  | _ => none
theorem raw_back (s : List UInt8) (e : En) (t : List UInt8) (h : rawEnt s = some (e, t)) : s = bytesE e ++ t := by
  match s, h with
  | [], h => cases h
  | [_], h => cases h
  | m :: sp :: r, h =>
    unfold rawEnt at h
    dsimp only at h
    by_cases hm : (m = 100 ∨ m = 102) ∧ sp = 32
    · rw [if_pos hm] at h
      cases hc : cutName r with
      | none => rw [hc] at h; cases h
      | some p =>
        obtain ⟨n, u⟩ := p
        rw [hc] at h
        simp only at h
        split at h
        · injection h with h
          injection h with h1 h2
          subst h1 h2
          rw [cut_back r n u hc]
          obtain ⟨hm1, rfl⟩ := hm
          rcases hm1 with rfl | rfl <;> simp [bytesE, List.take_append_drop]
        · cases h
    · rw [if_neg hm] at h
      cases h
theorem raw_less (s : List UInt8) (e : En) (t : List UInt8) (h : rawEnt s = some (e, t)) : t.length + 35 ≤ s.length := by
  rw [raw_back s e t h, List.length_append, bytesE_len]
  omega
theorem raw_put (e : En) (t : List UInt8) (h : (0 : UInt8) ∉ e.name) : rawEnt (bytesE e ++ t) = some (e, t) := by
  have hi := e.id.h
  have e1 : bytesE e ++ t = (if e.dir then 100 else 102) :: 32 :: (e.name ++ 0 :: (e.id.l ++ t)) := by simp [bytesE]
  rw [e1]
  unfold rawEnt
  dsimp only
  rw [if_pos ⟨by cases e.dir <;> simp, rfl⟩, cut_put _ _ h]
  simp only
  rw [dif_pos (by rw [List.length_append]; omega)]
  obtain ⟨n, d, ⟨l, hl⟩⟩ := e
  simp only at hl ⊢
  congr 2
  · congr 1
    · cases d <;> rfl
    · exact Nm.same (by show (l ++ t).take 32 = l; rw [← hl, List.take_left])
  · rw [← hl, List.drop_left]
def rawGo : Nat → List UInt8 → List En → Option (List En)
  | 0, _, _ => none
  | f + 1, s, acc =>
    if s = [] then some acc else
      match rawEnt s with
      | some (e, t) => rawGo f t (acc ++ [e])
      | none => none
def getT (s : List UInt8) : Option (List En) :=
  match rawGo (s.length + 1) s [] with
  | some es => if mayT es then some es else none
  | none => none
theorem rawGo_enc : ∀ (f : Nat) (s : List UInt8) (acc es : List En), rawGo f s acc = some es → encT es = encT acc ++ s
  | 0, s, acc, es, h => by cases h
  | f + 1, s, acc, es, h => by
    unfold rawGo at h
    by_cases hs : s = []
    · rw [if_pos hs] at h
      injection h with h
      rw [hs, h, List.append_nil]
    · rw [if_neg hs] at h
      cases hr : rawEnt s with
      | none => rw [hr] at h; cases h
      | some p =>
        obtain ⟨e, t⟩ := p
        rw [hr] at h
        rw [rawGo_enc f t _ es h, encT_snoc, List.append_assoc, ← raw_back s e t hr]
/-- What begins the list stays its beginning. -/
theorem rawGo_pre : ∀ (f : Nat) (s : List UInt8) (acc es : List En), rawGo f s acc = some es → ∃ more, es = acc ++ more ∧ (s ≠ [] → more ≠ [])
  | 0, s, acc, es, h => by cases h
  | f + 1, s, acc, es, h => by
    unfold rawGo at h
    by_cases hs : s = []
    · rw [if_pos hs] at h
      injection h with h
      exact ⟨[], by rw [h, List.append_nil], fun h => absurd hs h⟩
    · rw [if_neg hs] at h
      cases hr : rawEnt s with
      | none => rw [hr] at h; cases h
      | some p =>
        obtain ⟨e, t⟩ := p
        rw [hr] at h
        obtain ⟨more, rfl, -⟩ := rawGo_pre f t _ es h
        exact ⟨e :: more, by simp, fun _ => by simp⟩
/-- More fuel tells the same. -/
theorem rawGo_fuel : ∀ (f g : Nat) (s : List UInt8) (acc : List En), s.length < f → s.length < g → rawGo f s acc = rawGo g s acc
  | 0, _, _, _, h, _ => absurd h (Nat.not_lt_zero _)
  | _ + 1, 0, _, _, _, h => absurd h (Nat.not_lt_zero _)
  | f + 1, g + 1, s, acc, h1, h2 => by
    unfold rawGo
    by_cases hs : s = []
    · rw [if_pos hs, if_pos hs]
    · rw [if_neg hs, if_neg hs]
      cases hr : rawEnt s with
      | none => rfl
      | some p =>
        obtain ⟨e, t⟩ := p
        have := raw_less s e t hr
        exact rawGo_fuel f g t _ (by omega) (by omega)
theorem getT_enc (s : List UInt8) (es : List En) (h : getT s = some es) : encT es = s ∧ mayT es = true := by
  unfold getT at h
  cases hr : rawGo (s.length + 1) s [] with
  | none => rw [hr] at h; cases h
  | some l =>
    rw [hr] at h
    simp only at h
    split at h
    · rename_i hm
      injection h with h
      subst h
      exact ⟨by simpa [encT] using rawGo_enc _ _ _ _ hr, hm⟩
    · cases h
theorem okName_zero (s : List UInt8) (h : okName s = true) : (0 : UInt8) ∉ s := by
  intro hm
  simp only [okName, Bool.and_eq_true, List.all_eq_true] at h
  have := h.2 0 hm
  revert this
  decide
theorem rawGo_put : ∀ (es acc : List En) (f : Nat), (∀ e ∈ es, (0 : UInt8) ∉ e.name) → es.length < f → rawGo f (encT es) acc = some (acc ++ es)
  | [], acc, 0, _, h => absurd h (Nat.not_lt_zero _)
  | [], acc, f + 1, _, _ => by simp [rawGo, encT]
  | e :: es, acc, 0, _, h => absurd h (Nat.not_lt_zero _)
  | e :: es, acc, f + 1, h, hf => by
    have e1 : encT (e :: es) = bytesE e ++ encT es := by simp [encT]
    have hne : bytesE e ++ encT es ≠ [] := by simp [bytesE]
    unfold rawGo
    rw [e1, if_neg hne, raw_put e _ (h e (by simp))]
    simp only
    rw [rawGo_put es _ f (fun x hx => h x (by simp [hx])) (by simpa using hf)]
    simp
theorem encT_len_le (es : List En) : es.length ≤ (encT es).length := by
  induction es with
  | nil => simp
  | cons e l ih =>
    have : encT (e :: l) = bytesE e ++ encT l := by simp [encT]
    rw [this, List.length_append, bytesE_len, List.length_cons]
    omega
theorem mayT_zero (es : List En) (h : mayT es = true) : ∀ e ∈ es, (0 : UInt8) ∉ e.name := by
  intro e he
  obtain ⟨i, hi, rfl⟩ := List.mem_iff_getElem.1 he
  simp only [mayT, Bool.and_eq_true] at h
  have := risesTo_at es h.2 hi
  simp only [okAt, Bool.and_eq_true] at this
  have h1 := okName_zero _ this.1
  rwa [show es.getD i default = es[i] by simp [List.getD, List.getElem?_eq_getElem hi]] at h1
/-- Back again. -/
theorem getT_put (es : List En) (h : mayT es = true) : getT (encT es) = some es := by
  have := encT_len_le es
  unfold getT
  rw [rawGo_put es [] _ (mayT_zero es h) (by omega)]
  simp [h]

/-! ### As the program reads -/
def entV (s : List UInt8) : Option (En × List UInt8) :=
  match rawEnt s with
  | some (e, t) => if e.name.length ≤ 20 then some (e, t) else none
  | none => none
def entsGo : Nat → List UInt8 → List En → Option (List En)
  | 0, _, _ => none
  | f + 1, s, acc =>
    if s = [] then (if mayT acc then some acc else none) else
      if acc.length < 20 then
        match entV s with
        | some (e, t) => entsGo f t (acc ++ [e])
        | none => none
      else none
theorem okAt_pre (es more : List En) (j : Nat) (h : j < es.length) : okAt (es ++ more) j = okAt es j := by
  unfold okAt
  rw [show (es ++ more).getD j default = es.getD j default by simp [List.getD, List.getElem?_append_left h], show (es ++ more).getD (j - 1) default = es.getD (j - 1) default by simp [List.getD, List.getElem?_append_left (show j - 1 < es.length by omega)]]
theorem mayT_bad (acc more : List En) (e : En) (h : ¬ e.name.length ≤ 20) : mayT (acc ++ e :: more) = false := by
  unfold mayT
  rw [risesTo_not (acc ++ e :: more) (k := acc.length) (by simp) (by
    unfold okAt
    have : (acc ++ e :: more).getD acc.length default = e := by simp [List.getD]
    rw [this]
    simp [okName, h])]
  simp
theorem entsGo_is : ∀ (f : Nat) (s : List UInt8) (acc : List En), entsGo f s acc = (rawGo f s acc).bind fun es => if mayT es then some es else none
  | 0, _, _ => rfl
  | f + 1, s, acc => by
    unfold entsGo rawGo
    by_cases hs : s = []
    · rw [if_pos hs, if_pos hs]
      rfl
    · rw [if_neg hs, if_neg hs]
      cases hr : rawEnt s with
      | none => simp [entV, hr]
      | some p =>
        obtain ⟨e, t⟩ := p
        by_cases hl : acc.length < 20
        · rw [if_pos hl]
          by_cases hn : e.name.length ≤ 20
          · simp only [entV, hr, if_pos hn]
            exact entsGo_is f t _
          · simp only [entV, hr, if_neg hn]
            cases hg : rawGo f t (acc ++ [e]) with
            | none => rfl
            | some es =>
              obtain ⟨more, rfl, -⟩ := rawGo_pre _ _ _ _ hg
              rw [List.append_assoc, List.singleton_append]
              rw [Option.bind_some, if_neg (by rw [mayT_bad acc more e hn]; decide)]
        · rw [if_neg hl]
          simp only
          cases hg : rawGo f t (acc ++ [e]) with
          | none => rfl
          | some es =>
            obtain ⟨more, rfl, -⟩ := rawGo_pre _ _ _ _ hg
            have : mayT (acc ++ [e] ++ more) = false := by
              unfold mayT
              rw [decide_eq_false (by simp; omega)]
              rfl
            rw [Option.bind_some, if_neg (by rw [this]; decide)]
theorem entsGo_get (s : List UInt8) : entsGo (s.length + 1) s [] = getT s := by
  rw [entsGo_is]
  unfold getT
  cases rawGo (s.length + 1) s [] <;> rfl
end Go.Proofs.YtfaijkgfhdhhbaaGreatDoor

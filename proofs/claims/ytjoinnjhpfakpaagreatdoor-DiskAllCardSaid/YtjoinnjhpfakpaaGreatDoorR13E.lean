/-
  The document's disk in memory, beside the program's.
-/
import Derived.Test.YtjoinnjhpfakpaaGreatDoorR13D
import Derived.Test.YtjoinnjhpfakpaaGreatDoorDskP
import Derived.Maps.AppendAt
namespace Go.Proofs.YtjoinnjhpfakpaaGreatDoor
open Go.RowKit

theorem eltO : Elt 86 74 4 encP4 Ch.sy where
  len := fun x => by cases x <;> rfl
  one := fun x v hv => by
    cases x <;> (simp only [encP4, List.mem_cons, List.not_mem_nil, or_false] at hv; rcases hv with rfl | rfl | rfl | rfl <;> rfl)
  pos := by decide
  small := by decide
  und := Tryz.underlying74
  info := by
    have h : (Tryz.prog.info? 86).map (fun i => (i.zero, i.size, decide (i.bytes ≤ 4096))) = some (some (.agg (encP4 Ch.sy).toArray), 4, true) := by kernel_rfl
    cases hq : Tryz.prog.info? 86 with
    | none => rw [hq] at h; cases h
    | some i =>
      rw [hq] at h
      simp only [Option.map_some, Option.some.injEq, Prod.mk.injEq, decide_eq_true_eq] at h
      exact ⟨i, rfl, h.1, h.2.1, h.2.2⟩
  szo := Tryz.sizeOf86
  zero := fun w => by kernel_rfl
/-- The fuse, as the document's disk has it. -/
def DS.fuse (s : DS) : Int := if s.fused = true then s.left else -1
structure RP where
  A1 : Option Addr
  c1 : Nat
  A2 : Option Addr
  c2 : Nat
  O : Value
def RkW (w : World) (rb : Nat) (s : DS) (p : RP) : Prop :=
  Whole w rb 76 #[.slice p.A2 s.sure.length p.c2, p.O, .slice p.A1 s.now.length p.c1, .int .i64 s.fuse, .int .i64 (s.ops : Int), .bool s.down]
/-- In memory; N: the blocks that may turn. -/
structure RkP (w : World) (N : Nat → Prop) (rb : Nat) (s : DS) (p : RP) : Prop where
  nb : N rb
  nlt : ∀ j, N j → j < w.heap.size
  cells : RkW w rb s p
  now : ArgG encF noF 2 w p.A1 p.c1 s.now
  sure : ArgG encF noF 2 w p.A2 p.c2 s.sure
  own : w.ownsRow (rb + 1) 86 4 p.O s.since.length (s.since.flatMap encP4)
  no : ∀ j, p.O.ownBlock = some j → N j
  n1 : 0 < s.now.length → ∀ j, inBlk p.A1 j → ¬ N j
  n2 : 0 < s.sure.length → ∀ j, inBlk p.A2 j → ¬ N j
/-- What both disks keep. -/
structure Good (s : DS) : Prop where
  now : Rises s.now
  sure : Rises s.sure
  nowLen : s.now.length ≤ 100
  sureLen : s.sure.length ≤ 100
  ok : ∀ x ∈ s.since, okC x
  sinceLen : s.since.length ≤ 63
  ops : s.ops ≤ 1000
  left : s.fused = true → 0 ≤ s.left
  leftB : -(2 ^ 63) ≤ s.left ∧ s.left < 2 ^ 63
/-- The document's disk turns its own block and its list of operations. -/
def Ref (N : Nat → Prop) (rb : Nat) (j : Nat) : Prop := rb ≤ j ∧ N j
/-- More blocks may turn: new ones. -/
def More (N N' : Nat → Prop) (w : World) : Prop := (∀ j, N j → N' j) ∧ ∀ j, N' j → N j ∨ w.heap.size ≤ j
theorem More.refl (N : Nat → Prop) (w : World) : More N N w := ⟨fun _ h => h, fun _ h => .inl h⟩
theorem ownB_owns {w : World} {B T m n g : Nat} {v : Value} {xs : List Value} (h : w.ownsRow B T m v n xs) (hg : v.ownBlock = some g) : B ≤ g ∧ g < w.heap.size := h.lt g hg
theorem owns_alt {R : Nat → Prop} {w w' : World} {B T m n : Nat} {v : Value} {xs : List Value} (h : w.ownsRow B T m v n xs) (ha : Alt R w w') (hn : ∀ g, v.ownBlock = some g → ¬ R g) : w'.ownsRow B T m v n xs := by
  refine ⟨h.1, ?_⟩
  rcases h.2 with h0 | ⟨g, cap, cur, hv, hB, hg, rest⟩
  · exact .inl h0
  · exact .inr ⟨g, cap, cur, hv, hB, (ha.block g (Array.getElem?_eq_some_iff.1 hg).1 (hn g (by rw [hv]; rfl))).trans hg, rest⟩
/-- The document's disk while the other one turns. -/
theorem RkP.aside {w w' : World} {N : Nat → Prop} {rb b : Nat} {s : DS} {p : RP} (h : RkP w N rb s p) (ha : Alt (· = b) w w') (hb : b < rb) (hNb : N b) : RkP w' N rb s p := by
  have hN : Alt N w w' := ha.mono (fun k _ e => e ▸ hNb)
  refine ⟨h.nb, fun j hj => Nat.lt_of_lt_of_le (h.nlt j hj) ha.size, Whole.alt h.cells ha (by omega), h.now.alt' hN h.n1, h.sure.alt' hN h.n2, owns_alt h.own ha (fun g hg e => ?_), h.no, h.n1, h.n2⟩
  have := (ownB_owns h.own hg).1
  omega
/-- The program's disk while the document's turns. -/
theorem DkP.aside {w w' : World} {N N' : Nat → Prop} {rb b : Nat} {s : DS} {p : DP} (h : DkP w N b s p) (ha : Alt (Ref N rb) w w') (hb : b < rb) (hm : More N N' w) (hlt : ∀ j, N' j → j < w'.heap.size) : DkP w' N' b s p := by
  have hN : Alt N w w' := ha.mono (fun k _ e => e.2)
  have no : ∀ j, j < w.heap.size → ¬ N j → ¬ N' j := fun j hj hn h' => (hm.2 j h').elim hn (fun h => by omega)
  refine ⟨hm.1 _ h.nb, hlt, Whole.alt h.cells ha (fun e => by have := e.1; omega), h.now.alt' hN h.n1, h.sure.alt' hN h.n2, h.row.alt hN h.n3, h.len, fun i v x h1 h2 => ?_, fun h0 j hj => no j (h.now.lt eltF hj h0) (h.n1 h0 j hj), fun h0 j hj => no j (h.sure.lt eltF hj h0) (h.n2 h0 j hj), fun h0 j hj => no j ?_ (h.n3 h0 j hj), h.nowLen, h.sureLen, h.sinceLen, h.opsLt, h.left0⟩
  · have hs : ∀ g a, StrAt w N g a → StrAt w' N' g a := fun g a hg => by
      have h3 := hg.alt hN
      exact ⟨no g (World.block_lt_of_cell? w _ hg.2.1) hg.1, h3.2⟩
    have hc := h.ch i v x h1 h2
    cases x with
    | wr a c => obtain ⟨g1, g2, e, k1, k2⟩ := hc; exact ⟨g1, g2, e, hs _ _ k1, hs _ _ k2⟩
    | mv a c => obtain ⟨g1, g2, e, k1, k2⟩ := hc; exact ⟨g1, g2, e, hs _ _ k1, hs _ _ k2⟩
    | rm a => obtain ⟨g1, e, k1⟩ := hc; exact ⟨g1, e, hs _ _ k1⟩
    | sy => exact hc
  · obtain ⟨b3, o3, e, hr⟩ := h.row.2.2.2 h0
    obtain ⟨a, e2, rfl⟩ := hj
    rw [e] at e2
    injection e2 with e2
    subst e2
    exact World.block_lt_of_cell? w _ (hr 0 _ (List.getElem?_eq_getElem h0))
/-- One element appended: where it lies now. -/
theorem wp_appendG1 {α : Type} {enc : α → List Value} {d : α} {m : Nat} {T TS : TypeId} {w : World} {op : Oper} {a : Act} {K : Act → World → Prop} {Q : Exit → Act → World → Prop} (E : Elt T TS m enc d) (s x : Operand) (ho : op.op = .call { callee := .builtin .append, args := #[s, x], argTypes := #[TS, TS] })
    (B : Nat) (v : Value) (xs : List α) (hs : a.eval s = v) (hown : w.ownsRow B T m v xs.length (xs.flatMap enc)) (g : Nat) (y : α) (hx : a.eval x = .slice (some ⟨g, 0, none⟩) 1 1) (hy : w.rangeAt g 0 (enc y))
    (hB : B ≤ w.heap.size) (hl : xs.length ≤ 100000) (h : ∀ v' w', w'.ownsRow B T m v' (xs ++ [y]).length ((xs ++ [y]).flatMap enc) → w.grownBy w' v.ownBlock → (v'.ownBlock = v.ownBlock ∨ v'.ownBlock = some w.heap.size) → K (a.put op.dst v') w') : op.wp Tryz.prog a w K Q := by
  obtain ⟨i0, hq, h1, h2, h3⟩ := E.info
  have hbb : (xs.length + 1) * i0.bytes ≤ 140737488355328 := Nat.le_trans (Nat.mul_le_mul (show xs.length + 1 ≤ 100001 by omega) h3) (by decide)
  obtain ⟨v', w', hr, k2, k3, -, k5⟩ := run_append_own_at (P := Tryz.prog) w B TS op.type T i0 (.agg (enc d).toArray) m i0.bytes E.und hq h1 h2 rfl (by show (enc d).toArray.size = m; rw [List.size_toArray, E.len]) E.pos v xs.length (xs.flatMap enc) hown ⟨g, 0, none⟩ 1 1 (enc y) (by rw [E.len, Nat.one_mul]) (fun j u hu => by
    rw [Addr.add_mid]
    exact hy j u hu) (E.one y) (by unfold maxLen; omega) hbb hB
  unfold Oper.wp execOp
  simp only [ho, resolve, invoke, builtin, Sem.run_bind, Sem.run_pure, Result.andThen_ok, List.map_toArray, List.map_cons, List.map_nil, hs, hx, hr]
  exact h v' w' (by rw [List.length_append, List.flatMap_append, List.flatMap_cons, List.flatMap_nil, List.append_nil]; exact k2) k3 k5
end Go.Proofs.YtjoinnjhpfakpaaGreatDoor

/-
  Whose a slice's block is.
  Rows of elements of any kind: in memory, of the call's own, built of one, appended.
  A disk: how it holds a file's name against another.
  A disk's files: rows of them; where one of a name stands among them.
  A disk's files: the search for a name, walked.
  A disk's files: files.find, slices.Grow of nothing, slices.Concat of three lists, walked.
  A disk's files: slices.Concat of two lists; where files.write and files.remove can't be done.
  A disk's files: slices.Concat of two lists.
-/
import Derived.Test.YtjoinnjhpfakpaaGreatDoorMha
import Derived.Laws.AppendOwnNone
import Derived.Deep.MidRow
import Derived.Test.YtjoinnjhpfakpaaGreatDoorProg
import Derived.Handy
import Derived.WalkLawsBesides
import Derived.Test.YtjoinnjhpfakpaaGreatDoorMhc
import Derived.Lib.Bytealg
import Derived.Deep.LoopGhost
import Derived.Lib.AppendZeros
namespace Go.Proofs.YtjoinnjhpfakpaaGreatDoor
open Go.RowKit

/-- A slice's block. -/
def inBlk (A : Option Addr) (j : Nat) : Prop := ∃ a, A = some a ∧ a.block = j
theorem fold_set : ∀ (l : List Value) (k : Nat) (z : Array Value), k + l.length ≤ z.size → ((l.zipIdx k).foldl (fun cs (p : Value × Nat) => cs.setIfInBounds (0 + p.2) p.1) z).toList = z.toList.take k ++ l ++ z.toList.drop (k + l.length)
  | [], k, z, _ => by simp
  | c :: r, k, z, h => by
    rw [List.zipIdx_cons, List.foldl_cons, fold_set r (k + 1) _ (by simp at h ⊢; omega)]
    simp only [List.length_cons] at h
    have hk : k < z.toList.length := by simp; omega
    have e : (z.setIfInBounds (0 + k) c).toList = z.toList.set k c := by simp
    rw [e]
    have e1 : (z.toList.set k c).take (k + 1) = z.toList.take k ++ [c] := by
      rw [List.take_set, List.take_succ_eq_append_getElem hk, List.set_append_right _ _ (by simp; omega)]
      have : k - (z.toList.take k).length = 0 := by simp; omega
      rw [this]
      rfl
    have e2 : (z.toList.set k c).drop (k + 1 + r.length) = z.toList.drop (k + (r.length + 1)) := by
      rw [List.drop_set, if_pos (by omega)]
      congr 1
      omega
    rw [e1, e2, List.length_cons]
    simp
/-! ### Blocks that bear no frozen cell -/
def OwnB (w : World) (A : Option Addr) : Prop := ∀ j, inBlk A j → ∃ t cs, Whole w j t cs
theorem OwnB.nil (w : World) : OwnB w none := by rintro j ⟨a, e, -⟩; cases e
theorem OwnB.later {w w' : World} {A : Option Addr} (h : OwnB w A) (hb : Below w.heap.size w w') : OwnB w' A := by
  intro j hj
  obtain ⟨t, cs, hw⟩ := h j hj
  exact ⟨t, cs, hw.below hb hw.lt⟩
theorem OwnB.grown {w w' : World} {A : Option Addr} {row : Option Nat} (h : OwnB w A) (hg : w.grownBy w' row) (hn : ∀ j, inBlk A j → some j ≠ row) : OwnB w' A := by
  intro j hj
  obtain ⟨t, cs, hw⟩ := h j hj
  exact ⟨t, cs, hw.grown hg (hn j hj)⟩
theorem OwnB.set {w : World} {A : Option Addr} (h : OwnB w A) (g i : Nat) (v : Value) : OwnB (w.setCell ⟨g, i, none⟩ v) A := by
  intro j hj
  obtain ⟨t, cs, hw⟩ := h j hj
  by_cases e : j = g
  · subst e
    exact ⟨t, _, hw.put i v⟩
  · exact ⟨t, cs, hw.aside (p := ⟨g, i, none⟩) e v⟩
theorem own_blk {w : World} {B : Nat} {e : TypeId} {k n c : Nat} {A : Option Addr} {xs : List Value} (h : w.ownsRow B e k (.slice A n c) n xs) : OwnB w A := by
  rcases h.2 with ⟨h0, -⟩ | ⟨g, cap, cur, hv, hB, hg, -⟩
  · injection h0 with e1
    rw [e1]
    exact OwnB.nil w
  · injection hv with e1
    subst e1
    rintro j ⟨a, e, rfl⟩
    injection e with e
    subst e
    exact ⟨_, cur, hg⟩
/-- The call's own: behind what was there, and not frozen. -/
def Own2 (B : Nat) (w : World) (A : Option Addr) : Prop := (∀ j, inBlk A j → B ≤ j) ∧ OwnB w A
theorem Own2.nil (B : Nat) (w : World) : Own2 B w none := ⟨by (rintro j ⟨a, e, -⟩; cases e), OwnB.nil w⟩
end Go.Proofs.YtjoinnjhpfakpaaGreatDoor
namespace Go.Proofs.YtjoinnjhpfakpaaGreatDoor
open Go.RowKit

/-- What the program says of an element's type: T its number, TS its slices', m its cells. -/
structure Elt (T TS : TypeId) (m : Nat) {α : Type} (enc : α → List Value) (d : α) : Prop where
  len : ∀ x, (enc x).length = m
  one : ∀ x, ∀ v ∈ enc x, v.oneCell' = true
  pos : 0 < m
  small : m ≤ 100
  und : Tryz.prog.underlying TS = some (.slice T)
  info : ∃ i, Tryz.prog.info? T = some i ∧ i.zero = some (.agg (enc d).toArray) ∧ i.size = m ∧ i.bytes ≤ 4096
  szo : ∀ w, (sizeOf T).run Tryz.prog w = .ok m w
  zero : ∀ w, (zeroValue T).run Tryz.prog w = .ok (.agg (enc d).toArray) w
section
variable {α : Type} {enc : α → List Value} {d : α} {m : Nat} {T TS : TypeId} {w w' : World} {b o c : Nat} {A : Option Addr} {xs : List α}
def RowG (enc : α → List Value) (d : α) (m : Nat) (w : World) (b o : Nat) (xs : List α) : Prop := ∀ i, i < xs.length → w.rangeAt b (o + i * m) (enc (xs.getD i d))
/-- A slice of elements, as it came in or of the call's own. -/
def ArgG (enc : α → List Value) (d : α) (m : Nat) (w : World) (A : Option Addr) (c : Nat) (xs : List α) : Prop :=
  xs.length ≤ c ∧ c ≤ maxLen ∧ (A = none → c = 0) ∧ (0 < xs.length → ∃ b o, A = some ⟨b, o, none⟩ ∧ RowG enc d m w b o xs)
theorem ArgG.nil (h : ArgG enc d m w none c xs) : c = 0 ∧ xs = [] := by
  have h0 := h.2.2.1 rfl
  have h1 := h.1
  exact ⟨h0, List.length_eq_zero_iff.1 (by omega)⟩
theorem argG_nil (w : World) : ArgG enc d m w none 0 [] := ⟨Nat.le_refl _, Nat.zero_le _, fun _ => rfl, fun h => absurd h (Nat.lt_irrefl _)⟩
theorem RowG.lt (E : Elt T TS m enc d) (h : RowG enc d m w b o xs) (h0 : 0 < xs.length) : b < w.heap.size := by
  have h1 := h 0 h0 0 _ (List.getElem?_eq_getElem (by rw [E.len]; exact E.pos))
  exact World.block_lt_of_cell? w _ h1
theorem ArgG.lt (E : Elt T TS m enc d) (h : ArgG enc d m w A c xs) {j : Nat} (hj : inBlk A j) (h0 : 0 < xs.length) : j < w.heap.size := by
  obtain ⟨b', o, e, hr⟩ := h.2.2.2 h0
  obtain ⟨a, rfl, rfl⟩ := hj
  injection e with e
  subst e
  exact hr.lt E h0
theorem ArgG.below {B : Nat} (h : ArgG enc d m w A c xs) (hb : Below B w w') (hB : ∀ j, inBlk A j → 0 < xs.length → j < B) : ArgG enc d m w' A c xs := by
  obtain ⟨h1, h2, h3, h4⟩ := h
  refine ⟨h1, h2, h3, fun h0 => ?_⟩
  obtain ⟨b, o, e, hr⟩ := h4 h0
  exact ⟨b, o, e, fun i hi j v hv => (hb.cell (hB b ⟨_, e, rfl⟩ h0)).trans (hr i hi j v hv)⟩
theorem ArgG.later (E : Elt T TS m enc d) (h : ArgG enc d m w A c xs) (hb : Below w.heap.size w w') : ArgG enc d m w' A c xs := h.below hb fun _ hj h0 => h.lt E hj h0
theorem ArgG.grown (E : Elt T TS m enc d) {row : Option Nat} (h : ArgG enc d m w A c xs) (hg : w.grownBy w' row) (hn : ∀ j, inBlk A j → 0 < xs.length → some j ≠ row) : ArgG enc d m w' A c xs := by
  have h' := h
  obtain ⟨h1, h2, h3, h4⟩ := h
  refine ⟨h1, h2, h3, fun h0 => ?_⟩
  obtain ⟨b, o, e, hr⟩ := h4 h0
  have hk := hg.block b (h'.lt E ⟨_, e, rfl⟩ h0) (hn b ⟨_, e, rfl⟩ h0)
  refine ⟨b, o, e, fun i hi j v hv => ?_⟩
  have := hr i hi j v hv
  unfold World.cell? at *
  dsimp only at *
  rw [hk]
  exact this
theorem flatG_len (hl : ∀ x, (enc x).length = m) : ∀ xs : List α, (xs.flatMap enc).length = xs.length * m
  | [] => by simp
  | x :: l => by rw [List.flatMap_cons, List.length_append, flatG_len hl l, hl, List.length_cons, Nat.add_mul, Nat.one_mul, Nat.add_comm]
theorem flatG_at (hl : ∀ x, (enc x).length = m) (xs : List α) : ∀ i j, i < xs.length → j < m → (xs.flatMap enc)[i * m + j]? = (enc (xs.getD i d))[j]? := by
  induction xs with
  | nil => intro i j hi; exact absurd hi (Nat.not_lt_zero _)
  | cons x l ih =>
    intro i j hi hj
    rw [List.flatMap_cons]
    cases i with
    | zero =>
      rw [Nat.zero_mul, Nat.zero_add, List.getElem?_append_left (by rw [hl]; exact hj)]
      rfl
    | succ i =>
      rw [List.getElem?_append_right (by rw [hl, Nat.add_mul, Nat.one_mul]; omega), hl, show (i + 1) * m + j - m = i * m + j by rw [Nat.add_mul, Nat.one_mul]; omega, ih i j (by simpa using hi) hj]
      rfl
theorem row_flatG (E : Elt T TS m enc d) (h : RowG enc d m w b o xs) : ∀ j u, (xs.flatMap enc)[j]? = some u → w.cell? ⟨b, o + j, none⟩ = some u := by
  intro j u hu
  have hp := E.pos
  have hj : j < xs.length * m := by
    rw [← flatG_len E.len]
    exact (List.getElem?_eq_some_iff.1 hu).1
  have hq : j / m < xs.length := Nat.div_lt_of_lt_mul (by rw [Nat.mul_comm]; exact hj)
  have hr : j % m < m := Nat.mod_lt _ hp
  have hd : j / m * m + j % m = j := by rw [Nat.mul_comm]; exact Nat.div_add_mod j m
  rw [← hd, flatG_at (d := d) E.len xs _ _ hq hr] at hu
  have := h (j / m) hq (j % m) u hu
  rw [Nat.add_assoc, hd] at this
  exact this
theorem flatG_one (E : Elt T TS m enc d) (xs : List α) : ∀ u ∈ xs.flatMap enc, u.oneCell' = true := by
  intro u hu
  obtain ⟨x, -, hx⟩ := List.mem_flatMap.1 hu
  exact E.one x u hx
theorem own_rowG (E : Elt T TS m enc d) {B g : Nat} {n : Nat} (h : w.ownsRow B T m (.slice (some ⟨g, 0, none⟩) n c) xs.length (xs.flatMap enc)) : RowG enc d m w g 0 xs := by
  rcases h.2 with ⟨h0, -⟩ | ⟨g', cap, cur, hv, hB, hg, hn, hm, hs, ht⟩
  · cases h0
  · injection hv with e1 e2 e3
    injection e1 with e1
    injection e1 with e1
    subst e1
    intro i hi j v hv
    have hj : j < m := by
      have := (List.getElem?_eq_some_iff.1 hv).1
      rwa [E.len] at this
    have hx : (xs.flatMap enc)[i * m + j]? = some v := by rw [flatG_at (d := d) E.len xs i j hi hj]; exact hv
    have hlt : i * m + j < xs.length * m := by
      have : (i + 1) * m ≤ xs.length * m := Nat.mul_le_mul_right m hi
      rw [Nat.add_mul, Nat.one_mul] at this
      omega
    rw [← ht, List.getElem?_take_of_lt hlt] at hx
    rw [Nat.zero_add, cell_of_row _ _ _ _ _ _ hg]
    simpa using hx
theorem own_argG (E : Elt T TS m enc d) {B : Nat} {v : Value} (h : w.ownsRow B T m v xs.length (xs.flatMap enc)) : ∃ A c, v = .slice A xs.length c ∧ ArgG enc d m w A c xs ∧ Own2 B w A := by
  have h9 := h
  rcases h.2 with ⟨rfl, h0⟩ | ⟨g, cap, cur, rfl, hB, hg, hn, hm, hs, ht⟩
  · have he : xs = [] := List.length_eq_zero_iff.1 h0
    subst he
    exact ⟨none, 0, rfl, argG_nil w, Own2.nil _ _⟩
  · refine ⟨_, cap, rfl, ⟨hn, hm, (fun e => by cases e), fun _ => ⟨g, 0, rfl, own_rowG E h9⟩⟩, ?_, own_blk h9⟩
    rintro j ⟨a, e, rfl⟩
    injection e with e
    subst e
    exact hB
theorem run_build_G (E : Elt T TS m enc d) (x : α) (w : World) : (Instr.buildSlice TS 1 #[(0, .agg (enc x).toArray)]).run Tryz.prog w = .ok (.slice (some ⟨w.heap.size, 0, none⟩) 1 1) (w.alloc (.cells (enc x).toArray T)) := by
  have hx := E.len x
  have hxs : (enc x).toArray.size = m := by rw [List.size_toArray, hx]
  have hds : (enc d).toArray.size = m := by rw [List.size_toArray, E.len d]
  have hfill : ∀ z : Array Value, z.size = m → Instr.fill (fun i => some (i * m, m)) z [(0, Value.agg (enc x).toArray)] = some (enc x).toArray := by
    intro z hz
    have hc : (Value.agg (enc x).toArray).cells = (enc x).toArray := rfl
    simp only [Instr.fill, hc, hxs, hz, Nat.zero_mul, Nat.zero_add]
    rw [if_neg (by simp)]
    congr 1
    apply Array.toList_inj.1
    have := fold_set (enc x) 0 z (by omega)
    rw [hx, List.drop_of_length_le (by simp; omega)] at this
    simpa using this
  have hzs : ((Array.range (1 * m)).map (fun i => (Value.agg (enc d).toArray).cells[i % (Value.agg (enc d).toArray).cells.size]!)).size = m := by simp
  unfold Instr.buildSlice
  simp only [Sem.run_bind, run_underlying E.und, Result.andThen_ok, E.szo]
  rw [if_neg (by have := E.small; omega), if_neg (by have := E.pos; omega)]
  simp only [Sem.run_bind, E.zero, Result.andThen_ok, Sem.run_pure]
  rw [hfill _ hzs]
  rfl
theorem wp_buildG {op : Oper} {a : Act} {K : Act → World → Prop} {Q : Exit → Act → World → Prop} (E : Elt T TS m enc d) (t : Operand) (ho : op.op = .buildSlice TS 1 #[(0, t)]) (x : α) (hx : a.eval t = .agg (enc x).toArray)
    (h : K (a.put op.dst (.slice (some ⟨w.heap.size, 0, none⟩) 1 1)) (w.alloc (.cells (enc x).toArray T))) : op.wp Tryz.prog a w K Q := by
  have hb := run_build_G E x w
  unfold Oper.wp
  simp [execOp, ho, hx, hb, Result.andThen]
  exact h
theorem wpList_buildG {ops : Array Oper} {rest : List Oper} {op : Oper} {a : Act} {Q : Exit → Act → World → Prop} (E : Elt T TS m enc d) (hgd : op.guard = none) (t : Operand) (ho : op.op = .buildSlice TS 1 #[(0, t)]) (x : α) (hx : a.eval t = .agg (enc x).toArray)
    (h : wpList Tryz.prog ops Q rest (a.put op.dst (.slice (some ⟨w.heap.size, 0, none⟩) 1 1)) (w.alloc (.cells (enc x).toArray T))) : wpList Tryz.prog ops Q (op :: rest) a w :=
  wpList_plain hgd fun _ hK => wp_buildG E t ho x hx (hK _ _ h)
theorem argG_one {g : Nat} {x : α} (h : Whole w g T (enc x).toArray) : ArgG enc d m w (some ⟨g, 0, none⟩) 1 [x] := by
  refine ⟨Nat.le_refl _, by unfold maxLen; omega, (fun e => by cases e), fun _ => ⟨g, 0, rfl, fun i hi j v hv => ?_⟩⟩
  obtain rfl : i = 0 := by simpa using hi
  rw [show 0 + 0 * m + j = j by omega, h.at_, List.getElem?_toArray]
  exact hv
theorem ownG_one (E : Elt T TS m enc d) (W : World) (B : Nat) (hB : B ≤ W.heap.size) (y : α) : (W.alloc (.cells (enc y).toArray T)).ownsRow B T m (.slice (some ⟨W.heap.size, 0, none⟩) 1 1) [y].length ([y].flatMap enc) := by
  have h1 : ([y].flatMap enc) = enc y := by simp
  have h2 := E.len y
  rw [h1]
  refine ⟨by rw [h2]; simp, .inr ⟨W.heap.size, 1, _, rfl, hB, Whole.made W T (enc y).toArray, Nat.le_refl _, by unfold maxLen; omega, by rw [List.size_toArray, h2, Nat.one_mul], ?_⟩⟩
  exact List.take_of_length_le (by show (enc y).length ≤ _; rw [h2]; simp)
set_option maxRecDepth 100000 in
theorem wp_appendG {op : Oper} {a : Act} {K : Act → World → Prop} {Q : Exit → Act → World → Prop} (E : Elt T TS m enc d) (s x : Operand) (ho : op.op = .call { callee := .builtin .append, args := #[s, x], argTypes := #[TS, TS] })
    (B : Nat) (v : Value) (xs : List α) (hs : a.eval s = v) (hown : w.ownsRow B T m v xs.length (xs.flatMap enc)) (A : Option Addr) (n c : Nat) (ys : List α) (hn : ys.length = n) (hx : a.eval x = .slice A n c) (hy : ArgG enc d m w A c ys)
    (hB : B ≤ w.heap.size) (hl : xs.length + ys.length ≤ 10000000) (h : ∀ v' w', w'.ownsRow B T m v' (xs ++ ys).length ((xs ++ ys).flatMap enc) → Below B w w' → w.grownBy w' v.ownBlock → K (a.put op.dst v') w') : op.wp Tryz.prog a w K Q := by
  subst hn
  obtain ⟨i0, hq, h1, h2, h3⟩ := E.info
  cases A with
  | none =>
    obtain ⟨rfl, rfl⟩ := hy.nil
    have hrun := run_append_owned_none (P := Tryz.prog) (w := w) B TS op.type T i0 m E.und hq v xs.length (xs.flatMap enc) hown
    unfold Oper.wp
    simp [execOp, ho, resolve, invoke, builtin, hs, hx, hrun, Result.andThen]
    exact h v w (by simpa using hown) (Below.refl _ _) ⟨rfl, rfl, rfl, Nat.le_refl _, fun _ _ _ => rfl⟩
  | some ad =>
    have hbb : (xs.length + ys.length) * i0.bytes ≤ 140737488355328 := Nat.le_trans (Nat.mul_le_mul hl h3) (by decide)
    refine wp_append_own w s x TS ho B T i0 (.agg (enc d).toArray) m i0.bytes E.und hq h1 h2 rfl (by show (enc d).toArray.size = m; rw [List.size_toArray, E.len]) E.pos v xs.length (xs.flatMap enc) hs hown ad ys.length c (ys.flatMap enc) hx (flatG_len E.len ys) (fun j u hu => ?_) (flatG_one E ys) (by unfold maxLen; omega) hbb hB (fun v' w' h4 h5 _ => ?_)
    · have hj := (List.getElem?_eq_some_iff.1 hu).1
      rw [flatG_len E.len] at hj
      have hy0 : 0 < ys.length := by
        rcases Nat.eq_zero_or_pos ys.length with h0 | h0
        · rw [h0, Nat.zero_mul] at hj; omega
        · exact h0
      obtain ⟨b, off, e, hr⟩ := hy.2.2.2 hy0
      injection e with e
      subst e
      rw [Addr.add_mid]
      exact row_flatG E hr j u hu
    · refine h v' w' (by rw [List.length_append, List.flatMap_append]; exact h4) ?_ h5
      refine ⟨h5.os, h5.tape, h5.output, h5.size, fun k hk => h5.block k (by omega) ?_⟩
      intro e
      rcases hown.2 with ⟨rfl, -⟩ | ⟨g, cap, cur, rfl, hg, -⟩
      · cases e
      · simp [Value.ownBlock] at e
        omega
theorem wpList_appendG {ops : Array Oper} {rest : List Oper} {op : Oper} {a : Act} {Q : Exit → Act → World → Prop} (E : Elt T TS m enc d) (hg : op.guard = none) (s x : Operand) (ho : op.op = .call { callee := .builtin .append, args := #[s, x], argTypes := #[TS, TS] })
    (B : Nat) (v : Value) (xs : List α) (hs : a.eval s = v) (hown : w.ownsRow B T m v xs.length (xs.flatMap enc)) (A : Option Addr) (n c : Nat) (ys : List α) (hn : ys.length = n) (hx : a.eval x = .slice A n c) (hy : ArgG enc d m w A c ys)
    (hB : B ≤ w.heap.size) (hl : xs.length + ys.length ≤ 10000000) (h : ∀ v' w', w'.ownsRow B T m v' (xs ++ ys).length ((xs ++ ys).flatMap enc) → Below B w w' → w.grownBy w' v.ownBlock → wpList Tryz.prog ops Q rest (a.put op.dst v') w') : wpList Tryz.prog ops Q (op :: rest) a w :=
  wpList_plain hg fun _ hK => wp_appendG E s x ho B v xs hs hown A n c ys hn hx hy hB hl fun v' w' h1 h2 h3 => hK _ _ (h v' w' h1 h2 h3)
end
end Go.Proofs.YtjoinnjhpfakpaaGreatDoor
namespace Go.Proofs.YtjoinnjhpfakpaaGreatDoor
open Go.RowKit

theorem scmp_any (a b : List UInt8) (w : World) : Calls Tryz.prog 65 #[.string ⟨a.toArray⟩, .string ⟨b.toArray⟩] w fun e w' => e = .returned (.int .i64 (Lib.compareBytes a b)) ∧ w = w' := by
  have hx : ∀ W, (callFunc 150 #[.string ⟨a.toArray⟩, .string ⟨b.toArray⟩]).run Tryz.prog W = .ok (.value (.int .i64 (Lib.compareBytes a b))) W := fun W => by
    rw [run_callFunc_extern Tryz.func150 (by kernel_rfl) (by kernel_rfl) (by kernel_rfl) (e := Extern.BytealgCompare.compare) (by kernel_rfl), Lib.run_compareString]
    rfl
  have h2 : ∀ W, Calls Tryz.prog 104 #[.string ⟨a.toArray⟩, .string ⟨b.toArray⟩] W fun e w' => e = .returned (.int .i64 (Lib.compareBytes a b)) ∧ W = w' := fun W => by
    go_enter Tryz.func104, Tryz.ntmps104
    go_wp2
    go_ret
    exact ⟨rfl, rfl⟩
  have H2 := Lib.hid h2
  clear h2 hx
  go_enter Tryz.func65, Tryz.ntmps65
  go_wp2_with (go_at_call 104; refine (H2.out _).mono ?_; rintro e w' ⟨rfl, rfl⟩)
  go_ret
  exact ⟨rfl, rfl⟩
theorem find1_any (a b : List UInt8) (y : Value) (w : World) : Calls Tryz.prog 64 #[.agg #[.string ⟨a.toArray⟩, y], .string ⟨b.toArray⟩] w fun e w' => e = .returned (.int .i64 (Lib.compareBytes a b)) ∧ Below w.heap.size w w' := by
  have H2 := Lib.hid (scmp_any a b)
  go_enter Tryz.func64, Tryz.ntmps64
  go_wp2_with (go_at_call 65; refine (H2.out _).mono ?_; rintro e w' ⟨rfl, rfl⟩)
  go_ret
  exact ⟨rfl, (Below.refl _ _).alloc (Nat.le_refl _) _⟩
end Go.Proofs.YtjoinnjhpfakpaaGreatDoor
namespace Go.Proofs.YtjoinnjhpfakpaaGreatDoor
open Go.RowKit

/-- A file: its name, its text. -/
abbrev Fl := List UInt8 × List UInt8
def noF : Fl := ([], [])
def encF (f : Fl) : List Value := [.string ⟨f.1.toArray⟩, .string ⟨f.2.toArray⟩]
theorem encF_len (f : Fl) : (encF f).length = 2 := rfl
theorem encF_one (f : Fl) : ∀ v ∈ encF f, v.oneCell' = true := by
  intro v hv
  simp only [encF, List.mem_cons, List.not_mem_nil, or_false] at hv
  rcases hv with rfl | rfl <;> rfl
theorem eltF : Elt 92 69 2 encF noF where
  len := encF_len
  one := encF_one
  pos := by decide
  small := by decide
  und := Tryz.underlying69
  info := by
    have h : (Tryz.prog.info? 92).map (fun i => (i.zero, i.size, decide (i.bytes ≤ 4096))) = some (some (.agg (encF noF).toArray), 2, true) := by kernel_rfl
    cases hq : Tryz.prog.info? 92 with
    | none => rw [hq] at h; cases h
    | some i =>
      rw [hq] at h
      simp only [Option.map_some, Option.some.injEq, Prod.mk.injEq, decide_eq_true_eq] at h
      exact ⟨i, rfl, h.1, h.2.1, h.2.2⟩
  szo := Tryz.sizeOf92
  zero := fun w => by kernel_rfl
/-- Where the search for a name goes on, between two places. -/
def bsG (fs : List Fl) (nm : List UInt8) : Nat → Nat → Nat → Nat
  | 0, i, _ => i
  | f + 1, i, j => if i < j then (if Lib.compareBytes (fs.getD ((i + j) / 2) noF).1 nm < 0 then bsG fs nm f ((i + j) / 2 + 1) j else bsG fs nm f i ((i + j) / 2)) else i
def bsW (fs : List Fl) (nm : List UInt8) : Nat := bsG fs nm (fs.length + 1) 0 fs.length
def bsF (fs : List Fl) (nm : List UInt8) : Bool := decide (bsW fs nm < fs.length ∧ Lib.compareBytes (fs.getD (bsW fs nm) noF).1 nm = 0)
end Go.Proofs.YtjoinnjhpfakpaaGreatDoor
namespace Go.Proofs.YtjoinnjhpfakpaaGreatDoor
open Go.RowKit

theorem infoF (f : Fl) : (Tryz.prog.info? 92).map (·.size) = some (encF f).length := by show _ = some 2; kernel_rfl
theorem wpList_load_mid_on {P : Program} {ops : Array Oper} {rest : List Oper} {op : Oper} {a : Act} {w : World} {Q : Exit → Act → World → Prop} (hw : Region.wanted op (yielded ops a.tmps) = true) (ty : TypeId) (x : Operand) (ho : op.op = .load ty x)
    (b o : Nat) (hx : a.eval x = .pointer (some ⟨b, o, none⟩)) (cs : List Value) (d : TypeDesc) (hc : w.rangeAt b o cs) (hu : P.underlying ty = some d) (hd : d.isRow = true) (hi : (P.info? ty).map (·.size) = some cs.length)
    (h : wpList P ops Q rest (a.put op.dst (.agg cs.toArray)) w) : wpList P ops Q (op :: rest) a w := by
  unfold wpList
  rw [if_pos hw]
  exact .inl (wp_load_mid ty x ho b o hx cs d hc hu hd hi h)
set_option maxHeartbeats 2000000 in
theorem bsf_any (A : Option Addr) (c : Nat) (fs : List Fl) (nm : List UInt8) (w : World) (hA : ArgG encF noF 2 w A c fs) (hn : fs.length ≤ 100000) :
    Calls Tryz.prog 63 #[.slice A fs.length c, .string ⟨nm.toArray⟩, .func (.func 64) #[] #[]] w fun e w' => e = .returned (.tuple #[.int .i64 (bsW fs nm : Nat), .bool (bsF fs nm)]) ∧ Below w.heap.size w w' := by
  have HA := Lib.hid hA
  have HF := Lib.hid fun (y : Fl) W => find1_any y.1 nm (.string ⟨y.2.toArray⟩) W
  clear hA
  go_enter Tryz.func63, Tryz.ntmps63
  go_wp2
  go_loopg [9, 10, 11] fs.length (fun g s9 s10 _ wr => ∃ i j f : Nat, i ≤ j ∧ j ≤ fs.length ∧ j - i ≤ g ∧ s9 = .int .i64 i ∧ s10 = .int .i64 j ∧ Hid (Below w.heap.size w wr) ∧ Hid (j - i < f ∧ bsW fs nm = bsG fs nm f i j))
  case atStart => exact ⟨0, fs.length, fs.length + 1, by omega, by omega, by omega, rfl, rfl, Lib.hid (Below.refl _ _), Lib.hid ⟨by omega, rfl⟩⟩
  case round =>
    obtain ⟨i, j, f, hij, hj, hg, rfl, rfl, hwr, hbs⟩ := hrel
    by_cases hlt : i < j
    · have hlt' : (i : Int) < (j : Int) := by omega
      obtain ⟨bb, o, rfl, hr⟩ := (HA.out.later eltF hwr.out).2.2.2 (by omega)
      have hk : (i + j) / 2 < fs.length := by omega
      have hrk := hr ((i + j) / 2) hk
      obtain ⟨y, hy⟩ : ∃ y, y = fs.getD ((i + j) / 2) noF := ⟨_, rfl⟩
      rw [← hy] at hrk
      have HRK := Lib.hid hrk
      have HY := Lib.hid hy
      have HFY := Lib.hid (HF.out y)
      clear hr hrk hy
      obtain ⟨f', rfl⟩ : ∃ f', f = f' + 1 := ⟨f - 1, by have := hbs.out.1; omega⟩
      by_cases hc : Lib.compareBytes y.1 nm < 0
      · have hcd : decide (Lib.compareBytes y.1 nm < 0) = true := decide_eq_true hc
        go_wp2_with (first
          | (refine wpList_load_mid rfl 92 _ rfl bb (o + (i + j) / 2 * 2) rfl (encF y) _ HRK.out Tryz.underlying92 rfl (infoF y) ?_)
          | (go_at_call 64; refine (HFY.out _).mono ?_; rintro e w1 ⟨rfl, hB⟩; have HB1 := Lib.hid (hwr.out.trans (hB.mono hwr.out.size)); clear hB))
        go_roundg (j - ((i + j) / 2 + 1))
        case measure => omega
        case rel =>
          refine ⟨(i + j) / 2 + 1, j, f', by omega, hj, Nat.le_refl _, by go_num, rfl, HB1, Lib.hid ⟨by have := hbs.out.1; omega, ?_⟩⟩
          rw [hbs.out.2, bsG, if_pos hlt, ← HY.out, if_pos (by omega)]
      · have hcd : decide (Lib.compareBytes y.1 nm < 0) = false := decide_eq_false hc
        go_wp2_with (first
          | (refine wpList_load_mid rfl 92 _ rfl bb (o + (i + j) / 2 * 2) rfl (encF y) _ HRK.out Tryz.underlying92 rfl (infoF y) ?_)
          | (go_at_call 64; refine (HFY.out _).mono ?_; rintro e w1 ⟨rfl, hB⟩; have HB1 := Lib.hid (hwr.out.trans (hB.mono hwr.out.size)); clear hB))
        go_roundg ((i + j) / 2 - i)
        case measure => omega
        case rel =>
          refine ⟨i, (i + j) / 2, f', by omega, by omega, Nat.le_refl _, rfl, by go_num, HB1, Lib.hid ⟨by have := hbs.out.1; omega, ?_⟩⟩
          rw [hbs.out.2, bsG, if_pos hlt, ← HY.out, if_neg (by omega)]
    · obtain rfl : i = j := by omega
      have hres : bsW fs nm = i := by
        obtain ⟨h1, h2⟩ := hbs.out
        cases f with
        | zero => omega
        | succ f => rw [h2, bsG, if_neg (by omega)]
      by_cases hi : i < fs.length
      · have hi' : (i : Int) < (fs.length : Int) := by omega
        obtain ⟨bb, o, rfl, hr⟩ := (HA.out.later eltF hwr.out).2.2.2 (by omega)
        have hrk := hr i hi
        obtain ⟨y, hy⟩ : ∃ y, y = fs.getD i noF := ⟨_, rfl⟩
        rw [← hy] at hrk
        have HRK := Lib.hid hrk
        have HY := Lib.hid hy
        have HFY := Lib.hid (HF.out y)
        clear hr hrk hy
        go_wp2_with (first
          | (refine wpList_load_mid_on (by rfl) 92 _ rfl bb (o + i * 2) rfl (encF y) _ HRK.out Tryz.underlying92 rfl (infoF y) ?_)
          | (go_at_call 64; refine (HFY.out _).mono ?_; rintro e w1 ⟨rfl, hB⟩; have HB1 := Lib.hid (hwr.out.trans (hB.mono hwr.out.size)); clear hB))
        refine bodyPost_ret (results_tmp2 rfl _ _ _) rfl ⟨?_, HB1.out⟩
        have hf : bsF fs nm = (Lib.compareBytes y.1 nm == 0) := by
          unfold bsF
          rw [hres, ← HY.out]
          by_cases h0 : Lib.compareBytes y.1 nm = 0 <;> simp [hi, h0]
        rw [hf, hres]
        rfl
      · have hi' : ¬ (i : Int) < (fs.length : Int) := by omega
        go_wp2
        refine bodyPost_ret (results_tmp2 rfl _ _ _) rfl ⟨?_, hwr.out⟩
        have hf : bsF fs nm = false := by
          unfold bsF
          rw [hres]
          simp [hi]
        rw [hf]
        rfl
end Go.Proofs.YtjoinnjhpfakpaaGreatDoor
namespace Go.Proofs.YtjoinnjhpfakpaaGreatDoor
open Go.RowKit

theorem find_any (A : Option Addr) (c : Nat) (fs : List Fl) (nm : List UInt8) (w : World) (hA : ArgG encF noF 2 w A c fs) (hn : fs.length ≤ 100000) :
    Calls Tryz.prog 46 #[.slice A fs.length c, .string ⟨nm.toArray⟩] w fun e w' => e = .returned (.tuple #[.int .i64 (bsW fs nm : Nat), .bool (bsF fs nm)]) ∧ Below w.heap.size w w' := by
  have HB := Lib.hid (bsf_any A c fs nm w hA hn)
  clear hA
  go_enter Tryz.func46, Tryz.ntmps46
  go_wp2_with (go_at_call 63; refine HB.out.mono ?_; rintro e w1 ⟨rfl, hB⟩)
  exact bodyPost_ret (results_tmp2 rfl _ _ _) rfl ⟨rfl, hB⟩
theorem infoFz : ∃ i, Tryz.prog.info? 92 = some i ∧ i.zero = some (.agg (encF noF).toArray) ∧ i.size = 2 ∧ i.bytes ≤ 4096 := eltF.info
set_option maxRecDepth 100000 in
theorem fgrow_any (n : Nat) (w : World) (hn : n ≤ 1000000) :
    Calls Tryz.prog 103 #[.slice none 0 0, .int .i64 (n : Int)] w fun e w' => (∃ A c, e = .returned (.slice A 0 c) ∧ w'.ownsRow w.heap.size 92 2 (.slice A 0 c) 0 []) ∧ Below w.heap.size w w' := by
  obtain ⟨i0, hi, hz0, hz1, hz2⟩ := infoFz
  have k0 : decide ((n : Int) < 0) = false := decide_eq_false (by omega)
  by_cases h0 : n = 0
  · subst h0
    go_enter Tryz.func103, Tryz.ntmps103
    go_wp2
    go_ret
    exact ⟨⟨none, 0, rfl, World.ownsRow_nil _ _ _ _⟩, Below.refl _ _⟩
  · have k1 : decide ((n : Int) > 0) = true := decide_eq_true (by omega)
    have hbb : n * i0.bytes ≤ 1000000 * 4096 := Nat.mul_le_mul hn hz2
    have hr := fun ty => Lib.run_append_nil_zeros (P := Tryz.prog) w 69 3 ty 92 i0 (.agg (encF noF).toArray) .i64 .i64 Tryz.underlying69 Tryz.underlying3 hi hz0 n (by omega) (by rw [hz1]; decide) (by omega) (by omega)
    have hge := grownCap_ge w n 0 92
    have hle := grownCap_le_maxLen w n 0 92 (by unfold maxLen; omega)
    generalize grownCap w n 0 92 = c at *
    have hsz : (Builtin.zeroCells (Value.agg (encF noF).toArray).cells n ++ Builtin.zeroCells (Value.agg (encF noF).toArray).cells (c - n)).size = c * 2 := by
      have hz1 : (Value.agg (encF noF).toArray).cells.size = 2 := rfl
      simp only [Array.size_append, size_zeroCells, hz1]
      omega
    have HWW : Hid (Whole (w.drew.alloc (.cells (Builtin.zeroCells (Value.agg (encF noF).toArray).cells n ++ Builtin.zeroCells (Value.agg (encF noF).toArray).cells (c - n)) 92)) w.heap.size 92 (Builtin.zeroCells (Value.agg (encF noF).toArray).cells n ++ Builtin.zeroCells (Value.agg (encF noF).toArray).cells (c - n))) := Whole.made w.drew _ _
    have HB := Lib.hid ((Below.refl w.heap.size w).drew.alloc (Nat.le_refl _) (.cells (Builtin.zeroCells (Value.agg (encF noF).toArray).cells n ++ Builtin.zeroCells (Value.agg (encF noF).toArray).cells (c - n)) 92))
    generalize Builtin.zeroCells (Value.agg (encF noF).toArray).cells n ++ Builtin.zeroCells (Value.agg (encF noF).toArray).cells (c - n) = cur at *
    have HR := Lib.hid hr
    clear hr
    generalize w.drew.alloc (.cells cur 92) = w1 at *
    go_enter Tryz.func103, Tryz.ntmps103
    go_wp2_with (at_builtin; go_loud (refine Lib.wpList_append_run _ rfl _ _ 69 3 rfl _ _ rfl rfl _ _ (HR.out _) ?_))
    go_ret
    exact ⟨⟨_, _, rfl, rfl, .inr ⟨w.heap.size, c, cur, rfl, Nat.le_refl _, HWW.out, Nat.zero_le _, hle, hsz, rfl⟩⟩, HB.out⟩
def catF (a b d : List Fl) (k : Nat) : List Fl := if k = 0 then [] else if k = 1 then a else if k = 2 then a ++ b else a ++ b ++ d
theorem catF_le (a b d : List Fl) (k : Nat) : (catF a b d k).length ≤ a.length + b.length + d.length := by
  unfold catF
  split
  · simp
  · split
    · omega
    · split
      · simp
      · simp
        omega
set_option maxRecDepth 100000 in
set_option maxHeartbeats 2000000 in
theorem fcat_any (g : Nat) (A1 : Option Addr) (c1 : Nat) (xs1 : List Fl) (A2 : Option Addr) (c2 : Nat) (xs2 : List Fl) (A3 : Option Addr) (c3 : Nat) (xs3 : List Fl) (w : World) (h0 : w.cell? ⟨g, 0, none⟩ = some (.slice A1 xs1.length c1)) (h1 : w.cell? ⟨g, 1, none⟩ = some (.slice A2 xs2.length c2)) (h2 : w.cell? ⟨g, 2, none⟩ = some (.slice A3 xs3.length c3))
    (hA1 : ArgG encF noF 2 w A1 c1 xs1) (hA2 : ArgG encF noF 2 w A2 c2 xs2) (hA3 : ArgG encF noF 2 w A3 c3 xs3) (hl : xs1.length + xs2.length + xs3.length ≤ 100000) :
    Calls Tryz.prog 62 #[.slice (some ⟨g, 0, none⟩) 3 3] w fun e w' => (∃ A c, e = .returned (.slice A (xs1 ++ xs2 ++ xs3).length c) ∧ ArgG encF noF 2 w' A c (xs1 ++ xs2 ++ xs3) ∧ Own2 w.heap.size w' A) ∧ Below w.heap.size w w' := by
  have HA1 := Lib.hid hA1
  have HA2 := Lib.hid hA2
  have HA3 := Lib.hid hA3
  have hgl := World.block_lt_of_cell? w _ h0
  have HG := Lib.hid fun W => fgrow_any (xs1.length + xs2.length + xs3.length) W (by omega)
  clear hA1 hA2 hA3
  go_enter Tryz.func62, Tryz.ntmps62
  go_wp2
  go_loopg [3, 5, 11] 3 (fun g s3 _ s11 wr => ∃ k : Nat, k ≤ 3 ∧ 3 - k ≤ g ∧ s11 = .int .i64 (k : Int) ∧ s3 = .int .i64 ((if k = 0 then 0 else if k = 1 then xs1.length else if k = 2 then xs1.length + xs2.length else xs1.length + xs2.length + xs3.length : Nat) : Int) ∧ w = wr)
  case atStart => exact ⟨0, by omega, by omega, rfl, rfl, rfl⟩
  case round =>
    obtain ⟨k, hk, hg, rfl, rfl, rfl⟩ := hrel
    rcases (by omega : k = 0 ∨ k = 1 ∨ k = 2 ∨ k = 3) with rfl | rfl | rfl | rfl
    · have k0 : decide ((xs1.length : Int) < 0) = false := decide_eq_false (by omega)
      go_wp2
      go_roundg (2)
      case measure => omega
      case rel => exact ⟨1, by omega, by omega, rfl, rfl, rfl⟩
    · have k0 : decide ((xs1.length : Int) + (xs2.length : Int) < 0) = false := decide_eq_false (by omega)
      go_wp2
      go_roundg (1)
      case measure => omega
      case rel => exact ⟨2, by omega, by omega, rfl, by simp, rfl⟩
    · have k0 : decide ((xs1.length : Int) + (xs2.length : Int) + (xs3.length : Int) < 0) = false := decide_eq_false (by omega)
      go_wp2
      go_roundg (0)
      case measure => omega
      case rel => exact ⟨3, by omega, by omega, rfl, by simp, rfl⟩
    · rw [Int.natCast_add, Int.natCast_add] at HG
      go_wp2_with fail
      refine (HG.out w).mono ?_
      rintro e w1 ⟨⟨A0, c0, rfl, hown0⟩, hb0⟩
      have HB0 := Lib.hid hb0
      have hown0' : w1.ownsRow w.heap.size 92 2 (.slice A0 (catF xs1 xs2 xs3 0).length c0) (catF xs1 xs2 xs3 0).length ((catF xs1 xs2 xs3 0).flatMap encF) := hown0
      clear hb0 hown0 HG
      go_wp2
      go_loopg [6, 8, 27] 3 (fun g s6 _ s27 wr => ∃ (k : Nat) (A9 : Option Addr) (c9 : Nat), k ≤ 3 ∧ 3 - k ≤ g ∧ s27 = .int .i64 (k : Int) ∧ s6 = .slice A9 (catF xs1 xs2 xs3 k).length c9 ∧ wr.ownsRow w.heap.size 92 2 (.slice A9 (catF xs1 xs2 xs3 k).length c9) (catF xs1 xs2 xs3 k).length ((catF xs1 xs2 xs3 k).flatMap encF) ∧ Hid (Below w.heap.size w wr))
      case atStart => exact ⟨0, A0, c0, by omega, by omega, rfl, rfl, hown0', HB0⟩
      case round =>
        obtain ⟨k, A9, c9, hk, hg, rfl, rfl, hown, hwr⟩ := hrel
        have hc0 := (hwr.out.cell hgl).trans h0
        have hc1 := (hwr.out.cell hgl).trans h1
        have hc2 := (hwr.out.cell hgl).trans h2
        rcases (by omega : k = 0 ∨ k = 1 ∨ k = 2 ∨ k = 3) with rfl | rfl | rfl | rfl
        · have HAA := Lib.hid (HA1.out.later eltF hwr.out)
          have HLL : Hid ((catF xs1 xs2 xs3 0).length + xs1.length ≤ 10000000) := by show _ ≤ _; have := catF_le xs1 xs2 xs3 0; omega
          go_wp2_with (at_builtin; go_loud (refine wpList_appendG eltF rfl _ _ rfl w.heap.size (.slice A9 (catF xs1 xs2 xs3 0).length c9) (catF xs1 xs2 xs3 0) rfl ?_ A1 xs1.length c1 xs1 rfl rfl HAA.out hwr.out.size HLL.out ?_; exact hown; intro v' w6 hown' hB6 _; have HOW6 := Lib.hid hown'; have HB6 := Lib.hid (hwr.out.trans hB6); clear hown' hB6))
          have hcat : catF xs1 xs2 xs3 0 ++ xs1 = catF xs1 xs2 xs3 1 := by simp [catF]
          rw [hcat] at HOW6
          obtain ⟨A6, c6, rfl, -, -⟩ := own_argG eltF HOW6.out
          go_roundg (2)
          case measure => omega
          case rel => exact ⟨1, A6, c6, by omega, by omega, rfl, rfl, HOW6.out, HB6⟩
        · have HAA := Lib.hid (HA2.out.later eltF hwr.out)
          have HLL : Hid ((catF xs1 xs2 xs3 1).length + xs2.length ≤ 10000000) := by show _ ≤ _; have := catF_le xs1 xs2 xs3 1; omega
          go_wp2_with (at_builtin; go_loud (refine wpList_appendG eltF rfl _ _ rfl w.heap.size (.slice A9 (catF xs1 xs2 xs3 1).length c9) (catF xs1 xs2 xs3 1) rfl ?_ A2 xs2.length c2 xs2 rfl rfl HAA.out hwr.out.size HLL.out ?_; exact hown; intro v' w6 hown' hB6 _; have HOW6 := Lib.hid hown'; have HB6 := Lib.hid (hwr.out.trans hB6); clear hown' hB6))
          have hcat : catF xs1 xs2 xs3 1 ++ xs2 = catF xs1 xs2 xs3 2 := by simp [catF]
          rw [hcat] at HOW6
          obtain ⟨A6, c6, rfl, -, -⟩ := own_argG eltF HOW6.out
          go_roundg (1)
          case measure => omega
          case rel => exact ⟨2, A6, c6, by omega, by omega, rfl, rfl, HOW6.out, HB6⟩
        · have HAA := Lib.hid (HA3.out.later eltF hwr.out)
          have HLL : Hid ((catF xs1 xs2 xs3 2).length + xs3.length ≤ 10000000) := by show _ ≤ _; have := catF_le xs1 xs2 xs3 2; omega
          go_wp2_with (at_builtin; go_loud (refine wpList_appendG eltF rfl _ _ rfl w.heap.size (.slice A9 (catF xs1 xs2 xs3 2).length c9) (catF xs1 xs2 xs3 2) rfl ?_ A3 xs3.length c3 xs3 rfl rfl HAA.out hwr.out.size HLL.out ?_; exact hown; intro v' w6 hown' hB6 _; have HOW6 := Lib.hid hown'; have HB6 := Lib.hid (hwr.out.trans hB6); clear hown' hB6))
          have hcat : catF xs1 xs2 xs3 2 ++ xs3 = catF xs1 xs2 xs3 3 := by simp [catF]
          rw [hcat] at HOW6
          obtain ⟨A6, c6, rfl, -, -⟩ := own_argG eltF HOW6.out
          go_roundg (0)
          case measure => omega
          case rel => exact ⟨3, A6, c6, by omega, by omega, rfl, rfl, HOW6.out, HB6⟩
        · go_wp2
          go_ret
          have hown' : wr.ownsRow w.heap.size 92 2 (.slice A9 (xs1 ++ xs2 ++ xs3).length c9) (xs1 ++ xs2 ++ xs3).length ((xs1 ++ xs2 ++ xs3).flatMap encF) := hown
          obtain ⟨A6, c6, he, h6, h7⟩ := own_argG eltF hown'
          injection he with e1 e2 e3
          subst e1
          subst e3
          exact ⟨⟨_, _, rfl, h6, h7⟩, hwr.out⟩
end Go.Proofs.YtjoinnjhpfakpaaGreatDoor
namespace Go.Proofs.YtjoinnjhpfakpaaGreatDoor
open Go.RowKit

theorem fwrite_form (A : Option Addr) (c : Nat) (fs : List Fl) (nm tx : List UInt8) (w : World) (hb : nm = [] ∨ 100 < nm.length) (hl : nm.length < 2 ^ 63) :
    Calls Tryz.prog 36 #[.slice A fs.length c, .string ⟨nm.toArray⟩, .string ⟨tx.toArray⟩] w fun e w' => e = .returned (.tuple #[.slice none 0 0, .int .i64 1]) ∧ Below w.heap.size w w' := by
  rcases hb with rfl | hb
  · go_enter Tryz.func36, Tryz.ntmps36
    go_wp2
    exact bodyPost_ret (results_tmp2 rfl _ _ _) rfl ⟨rfl, Below.refl _ _⟩
  · have hne : nm.isEmpty = false := by cases nm with
      | nil => simp at hb
      | cons x l => rfl
    have k1 : decide ((nm.length : Int) > 100) = true := decide_eq_true (by omega)
    go_enter Tryz.func36, Tryz.ntmps36
    go_wp2
    exact bodyPost_ret (results_tmp2 rfl _ _ _) rfl ⟨rfl, Below.refl _ _⟩

theorem fremove_none (A : Option Addr) (c : Nat) (fs : List Fl) (nm : List UInt8) (w : World) (hA : ArgG encF noF 2 w A c fs) (hn : fs.length ≤ 100000) (hb : bsF fs nm = false) :
    Calls Tryz.prog 43 #[.slice A fs.length c, .string ⟨nm.toArray⟩] w fun e w' => e = .returned (.tuple #[.slice none 0 0, .int .i64 4]) ∧ Below w.heap.size w w' := by
  have HF := Lib.hid (find_any A c fs nm w hA hn)
  rw [hb] at HF
  clear hA
  go_enter Tryz.func43, Tryz.ntmps43
  go_wp2_with (go_at_call 46; refine HF.out.mono ?_; rintro e w1 ⟨rfl, hB⟩)
  exact bodyPost_ret (results_tmp2 rfl _ _ _) rfl ⟨rfl, hB⟩

theorem fwrite_full (A : Option Addr) (c : Nat) (fs : List Fl) (nm tx : List UInt8) (w : World) (hA : ArgG encF noF 2 w A c fs) (hn : fs.length ≤ 100000) (h0 : nm ≠ []) (hl : nm.length ≤ 100) (hb : bsF fs nm = false) (hf : 100 ≤ fs.length) :
    Calls Tryz.prog 36 #[.slice A fs.length c, .string ⟨nm.toArray⟩, .string ⟨tx.toArray⟩] w fun e w' => e = .returned (.tuple #[.slice none 0 0, .int .i64 5]) ∧ Below w.heap.size w w' := by
  have HF := Lib.hid (find_any A c fs nm w hA hn)
  rw [hb] at HF
  clear hA
  have hne : nm.isEmpty = false := by cases nm with
    | nil => exact absurd rfl h0
    | cons x l => rfl
  have k1 : decide ((nm.length : Int) > 100) = false := decide_eq_false (by omega)
  have k2 : decide ((fs.length : Int) ≥ 100) = true := decide_eq_true (by omega)
  go_enter Tryz.func36, Tryz.ntmps36
  go_wp2_with (go_at_call 46; refine HF.out.mono ?_; rintro e w1 ⟨rfl, hB⟩)
  exact bodyPost_ret (results_tmp2 rfl _ _ _) rfl ⟨rfl, hB⟩
end Go.Proofs.YtjoinnjhpfakpaaGreatDoor
namespace Go.Proofs.YtjoinnjhpfakpaaGreatDoor
open Go.RowKit

def catT (a b : List Fl) (k : Nat) : List Fl := if k = 0 then [] else if k = 1 then a else a ++ b
theorem catT_le (a b : List Fl) (k : Nat) : (catT a b k).length ≤ a.length + b.length := by
  unfold catT
  split
  · simp
  · split
    · omega
    · simp
set_option maxRecDepth 100000 in
set_option maxHeartbeats 2000000 in
theorem fcat2_any (g : Nat) (A1 : Option Addr) (c1 : Nat) (xs1 : List Fl) (A2 : Option Addr) (c2 : Nat) (xs2 : List Fl) (w : World) (h0 : w.cell? ⟨g, 0, none⟩ = some (.slice A1 xs1.length c1)) (h1 : w.cell? ⟨g, 1, none⟩ = some (.slice A2 xs2.length c2))
    (hA1 : ArgG encF noF 2 w A1 c1 xs1) (hA2 : ArgG encF noF 2 w A2 c2 xs2) (hl : xs1.length + xs2.length ≤ 100000) :
    Calls Tryz.prog 62 #[.slice (some ⟨g, 0, none⟩) 2 2] w fun e w' => (∃ A c, e = .returned (.slice A (xs1 ++ xs2).length c) ∧ ArgG encF noF 2 w' A c (xs1 ++ xs2) ∧ Own2 w.heap.size w' A) ∧ Below w.heap.size w w' := by
  have HA1 := Lib.hid hA1
  have HA2 := Lib.hid hA2
  have hgl := World.block_lt_of_cell? w _ h0
  have HG := Lib.hid fun W => fgrow_any (xs1.length + xs2.length) W (by omega)
  clear hA1 hA2
  go_enter Tryz.func62, Tryz.ntmps62
  go_wp2
  go_loopg [3, 5, 11] 2 (fun g s3 _ s11 wr => ∃ k : Nat, k ≤ 2 ∧ 2 - k ≤ g ∧ s11 = .int .i64 (k : Int) ∧ s3 = .int .i64 ((if k = 0 then 0 else if k = 1 then xs1.length else xs1.length + xs2.length : Nat) : Int) ∧ w = wr)
  case atStart => exact ⟨0, by omega, by omega, rfl, rfl, rfl⟩
  case round =>
    obtain ⟨k, hk, hg, rfl, rfl, rfl⟩ := hrel
    rcases (by omega : k = 0 ∨ k = 1 ∨ k = 2) with rfl | rfl | rfl
    · have k0 : decide ((xs1.length : Int) < 0) = false := decide_eq_false (by omega)
      go_wp2
      go_roundg (1)
      case measure => omega
      case rel => exact ⟨1, by omega, by omega, rfl, rfl, rfl⟩
    · have k0 : decide ((xs1.length : Int) + (xs2.length : Int) < 0) = false := decide_eq_false (by omega)
      go_wp2
      go_roundg (0)
      case measure => omega
      case rel => exact ⟨2, by omega, by omega, rfl, by simp, rfl⟩
    · rw [Int.natCast_add] at HG
      go_wp2_with fail
      refine (HG.out w).mono ?_
      rintro e w1 ⟨⟨A0, c0, rfl, hown0⟩, hb0⟩
      have HB0 := Lib.hid hb0
      have hown0' : w1.ownsRow w.heap.size 92 2 (.slice A0 (catT xs1 xs2 0).length c0) (catT xs1 xs2 0).length ((catT xs1 xs2 0).flatMap encF) := hown0
      clear hb0 hown0 HG
      go_wp2
      go_loopg [6, 8, 27] 2 (fun g s6 _ s27 wr => ∃ (k : Nat) (A9 : Option Addr) (c9 : Nat), k ≤ 2 ∧ 2 - k ≤ g ∧ s27 = .int .i64 (k : Int) ∧ s6 = .slice A9 (catT xs1 xs2 k).length c9 ∧ wr.ownsRow w.heap.size 92 2 (.slice A9 (catT xs1 xs2 k).length c9) (catT xs1 xs2 k).length ((catT xs1 xs2 k).flatMap encF) ∧ Hid (Below w.heap.size w wr))
      case atStart => exact ⟨0, A0, c0, by omega, by omega, rfl, rfl, hown0', HB0⟩
      case round =>
        obtain ⟨k, A9, c9, hk, hg, rfl, rfl, hown, hwr⟩ := hrel
        have hc0 := (hwr.out.cell hgl).trans h0
        have hc1 := (hwr.out.cell hgl).trans h1
        rcases (by omega : k = 0 ∨ k = 1 ∨ k = 2) with rfl | rfl | rfl
        · have HAA := Lib.hid (HA1.out.later eltF hwr.out)
          have HLL : Hid ((catT xs1 xs2 0).length + xs1.length ≤ 10000000) := by show _ ≤ _; have := catT_le xs1 xs2 0; omega
          go_wp2_with (at_builtin; go_loud (refine wpList_appendG eltF rfl _ _ rfl w.heap.size (.slice A9 (catT xs1 xs2 0).length c9) (catT xs1 xs2 0) rfl ?_ A1 xs1.length c1 xs1 rfl rfl HAA.out hwr.out.size HLL.out ?_; exact hown; intro v' w6 hown' hB6 _; have HOW6 := Lib.hid hown'; have HB6 := Lib.hid (hwr.out.trans hB6); clear hown' hB6))
          have hcat : catT xs1 xs2 0 ++ xs1 = catT xs1 xs2 1 := by simp [catT]
          rw [hcat] at HOW6
          obtain ⟨A6, c6, rfl, -, -⟩ := own_argG eltF HOW6.out
          go_roundg (1)
          case measure => omega
          case rel => exact ⟨1, A6, c6, by omega, by omega, rfl, rfl, HOW6.out, HB6⟩
        · have HAA := Lib.hid (HA2.out.later eltF hwr.out)
          have HLL : Hid ((catT xs1 xs2 1).length + xs2.length ≤ 10000000) := by show _ ≤ _; have := catT_le xs1 xs2 1; omega
          go_wp2_with (at_builtin; go_loud (refine wpList_appendG eltF rfl _ _ rfl w.heap.size (.slice A9 (catT xs1 xs2 1).length c9) (catT xs1 xs2 1) rfl ?_ A2 xs2.length c2 xs2 rfl rfl HAA.out hwr.out.size HLL.out ?_; exact hown; intro v' w6 hown' hB6 _; have HOW6 := Lib.hid hown'; have HB6 := Lib.hid (hwr.out.trans hB6); clear hown' hB6))
          have hcat : catT xs1 xs2 1 ++ xs2 = catT xs1 xs2 2 := by simp [catT]
          rw [hcat] at HOW6
          obtain ⟨A6, c6, rfl, -, -⟩ := own_argG eltF HOW6.out
          go_roundg (0)
          case measure => omega
          case rel => exact ⟨2, A6, c6, by omega, by omega, rfl, rfl, HOW6.out, HB6⟩
        · go_wp2
          go_ret
          have hown' : wr.ownsRow w.heap.size 92 2 (.slice A9 (xs1 ++ xs2).length c9) (xs1 ++ xs2).length ((xs1 ++ xs2).flatMap encF) := hown
          obtain ⟨A6, c6, he, h6, h7⟩ := own_argG eltF hown'
          injection he with e1 e2 e3
          subst e1
          subst e3
          exact ⟨⟨_, _, rfl, h6, h7⟩, hwr.out⟩
end Go.Proofs.YtjoinnjhpfakpaaGreatDoor

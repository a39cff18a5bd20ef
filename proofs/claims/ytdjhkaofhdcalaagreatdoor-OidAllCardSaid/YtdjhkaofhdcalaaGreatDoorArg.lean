/-
  Slices of bytes that came in; a copy of one's own.
-/
import Derived.Test.YtdjhkaofhdcalaaGreatDoorBegB
import Derived.Test.YtdjhkaofhdcalaaGreatDoorAlt
import Derived.Maps.AppendAt
import Derived.Laws.AppendOwnNone
import Derived.Laws.OwnMore
namespace Go.Proofs.YtdjhkaofhdcalaaGreatDoor
open Go.RowKit

/-- A slice of values, as it came in. -/
def Arg (w : World) (A : Option Addr) (c : Nat) (vs : List Value) : Prop :=
  vs.length ≤ c ∧ c ≤ maxLen ∧ ((A = none ∧ c = 0) ∨ ∃ ad, A = some ad ∧ ∀ j u, vs[j]? = some u → w.cell? (ad.add j) = some u)
theorem Arg.nil {w : World} {c : Nat} {vs : List Value} (h : Arg w none c vs) : c = 0 ∧ vs = [] := by
  obtain ⟨h1, _, h2⟩ := h
  rcases h2 with ⟨-, rfl⟩ | ⟨ad, h, -⟩
  · exact ⟨rfl, List.length_eq_zero_iff.1 (by omega)⟩
  · cases h
theorem Arg.below {w w' : World} {A : Option Addr} {c : Nat} {vs : List Value} {B : Nat} (h : Arg w A c vs) (hb : Below B w w') (hB : w.heap.size ≤ B) : Arg w' A c vs := by
  obtain ⟨h1, h2, h4⟩ := h
  refine ⟨h1, h2, ?_⟩
  rcases h4 with h4 | ⟨ad, e, hc⟩
  · exact .inl h4
  · refine .inr ⟨ad, e, fun j u hu => (hb.cell ?_).trans (hc j u hu)⟩
    have := World.block_lt_of_cell? w _ (hc j u hu)
    omega
theorem Arg.spot {w : World} {A : Option Addr} {c : Nat} {vs : List Value} (h : Arg w A c vs) (h0 : 0 < vs.length) : ∃ g off, A = some ⟨g, off, none⟩ ∧ ∀ j u, vs[j]? = some u → w.cell? ⟨g, off + j, none⟩ = some u := by
  obtain ⟨h1, h2, h4⟩ := h
  rcases h4 with ⟨-, rfl⟩ | ⟨⟨g, off, sp⟩, rfl, hc⟩
  · omega
  · have hz := hc 0 vs[0] (List.getElem?_eq_getElem h0)
    obtain rfl : sp = none := by simpa [Addr.add] using World.cell?_spot hz
    refine ⟨g, off, rfl, fun j u hu => ?_⟩
    have := hc j u hu
    rw [Addr.add_mid] at this
    exact this
theorem Arg.take {w : World} {A : Option Addr} {c : Nat} {vs : List Value} (h : Arg w A c vs) (n : Nat) : Arg w A c (vs.take n) := by
  obtain ⟨h1, h2, h4⟩ := h
  refine ⟨by rw [List.length_take]; omega, h2, ?_⟩
  rcases h4 with h4 | ⟨ad, e, hc⟩
  · exact .inl h4
  · refine .inr ⟨ad, e, fun j u hu => hc j u ?_⟩
    rw [List.getElem?_take] at hu
    split at hu
    · exact hu
    · cases hu
theorem map_add0 (A : Option Addr) : A.map (fun a => a.add 0) = A := by
  cases A with
  | none => rfl
  | some a => simp [Addr.add]
theorem slice_to {P : Program} {A : Option Addr} {c : Nat} (T E m n : Nat) (hu : P.underlying T = some (.slice E)) (he : (P.info? E).map (·.size) = some 1) (hn : n ≤ c) (W : World) :
    (Instr.slice T (.slice A m c) none (some (.int .i64 (n : Int))) none).run P W = .ok (.slice A n c) W := by
  have hel : P.elem T = E := by simp [Program.elem, hu]
  have h := run_slice_h (P := P) (w := W) (t := T) (a := A) (len := m) (cap := c) (by rw [hel]; exact hu) .i64 (n : Int) (by omega) (by omega)
  rw [h, hel]
  cases hq : P.info? E with
  | none => simp [hq] at he
  | some i => simp [sizeOf, typeInfo, hq, sliced, map_add0]

theorem infoB : (Tryz.prog.info? 5).map (fun i => (i.zero, i.size, i.bytes)) = some (some (.int .u8 0), 1, 1) := by kernel_rfl
/-- append onto nil of a slice of bytes that came in, however it is: a row of the call's own. -/
theorem wpList_bcopy {ops : Array Oper} {rest : List Oper} {o : Oper} {a : Act} {w : World} {Q : Exit → Act → World → Prop} (hgd : o.guard = none) (s x : Operand)
    (ho : o.op = .call { callee := .builtin .append, args := #[s, x], argTypes := #[39, 39] }) (hs : a.eval s = .slice none 0 0)
    (A : Option Addr) (c : Nat) (bs : List UInt8) (hx : a.eval x = .slice A bs.length c) (hA : Arg w A c (bs.map Y)) (hl : bs.length ≤ 1048576)
    (h : ∀ v' w', w'.ownsRow w.heap.size 5 1 v' bs.length (bs.map Y) → Below w.heap.size w w' → wpList Tryz.prog ops Q rest (a.put o.dst v') w') : wpList Tryz.prog ops Q (o :: rest) a w := by
  obtain ⟨bi, hbi, hz0, hz1, hz2⟩ := info_parts infoB
  cases A with
  | none =>
    obtain ⟨rfl, hnil⟩ := hA.nil
    obtain rfl : bs = [] := by simpa using hnil
    refine wpList_append_own_none hgd s x 39 ho w.heap.size 5 bi 1 Tryz.underlying39 hbi (.slice none 0 0) 0 [] hs (World.ownsRow_nil _ _ _ _) hx ?_
    exact h _ _ (World.ownsRow_nil _ _ _ _) (Below.refl _ _)
  | some ad =>
    obtain ⟨h1, h2, h4⟩ := hA
    have hcell : ∀ j u, (bs.map Y)[j]? = some u → w.cell? (ad.add j) = some u := by
      rcases h4 with ⟨h4, -⟩ | ⟨ad', e, hc⟩
      · cases h4
      · cases e; exact hc
    refine wpList_append_own_at w hgd s x 39 ho w.heap.size 5 bi (.int .u8 0) 1 1 Tryz.underlying39 hbi hz0 hz1 hz2 rfl (by decide) (.slice none 0 0) 0 [] hs (World.ownsRow_nil _ _ _ _) ad bs.length c (bs.map Y) hx (by simp) hcell (ys_one bs) (by unfold maxLen; omega) (by omega) (Nat.le_refl _) ?_
    intro v' w' hown hgrow _ hloc
    rw [Nat.zero_add, List.nil_append] at hown
    refine h v' w' hown ?_
    exact ⟨hgrow.os, hgrow.tape, hgrow.output, hgrow.size, fun k hk => hgrow.block k hk (by simp [Value.ownBlock])⟩
/-- A row of bytes of the call's own: its block whole. -/
theorem own_bytes {w : World} {B : Nat} {v : Value} {bs : List UInt8} (h : w.ownsRow B 5 1 v bs.length (bs.map Y)) :
    ∃ A c, v = .slice A bs.length c ∧ bs.length ≤ c ∧ c ≤ maxLen ∧ ((bs = [] ∧ A = none ∧ c = 0) ∨ ∃ g sp, A = some ⟨g, 0, none⟩ ∧ B ≤ g ∧ Whole w g 5 (bs.map Y ++ sp).toArray ∧ bs.length + sp.length = c) := by
  rcases h.2 with ⟨rfl, h0⟩ | ⟨g, cap, cur, rfl, hB, hg, hn, hm, hs, ht⟩
  · obtain rfl : bs = [] := List.length_eq_zero_iff.1 h0
    exact ⟨none, 0, rfl, Nat.le_refl _, by unfold maxLen; omega, .inl ⟨rfl, rfl, rfl⟩⟩
  · rw [Nat.mul_one] at hs ht
    refine ⟨_, cap, rfl, hn, hm, .inr ⟨g, cur.toList.drop bs.length, rfl, hB, ?_, ?_⟩⟩
    · have e : (bs.map Y ++ cur.toList.drop bs.length).toArray = cur := by
        rw [← ht, List.take_append_drop]
      rw [e]
      exact hg
    · have := congrArg List.length ht
      simp at this ⊢
      omega
/-- Its cells, and what a reader of bytes wants. -/
theorem whole_bytes {w : World} {g : Nat} {bs : List UInt8} {sp : List Value} {c : Nat} (h : Whole w g 5 (bs.map Y ++ sp).toArray) (hc : bs.length ≤ c) (hm : c ≤ maxLen) : Bytes w (.slice (some ⟨g, 0, none⟩) bs.length c) bs := by
  refine ⟨_, _, rfl, hc, hm, fun _ => ⟨_, _, rfl, fun i hi => ?_⟩⟩
  rw [Nat.zero_add, h.at_, List.getElem?_toArray, List.getElem?_append_left (by simpa using hi), ← some_y _ _ hi]
theorem bytes_nil (w : World) : Bytes w (.slice none 0 0) [] := ⟨none, 0, rfl, Nat.le_refl _, by unfold maxLen; omega, fun h => absurd h (by simp)⟩
/-- One byte of it put. -/
theorem whole_put {w : World} {g : Nat} {bs : List UInt8} {sp : List Value} (h : Whole w g 5 (bs.map Y ++ sp).toArray) (i : Nat) (hi : i < bs.length) (c : UInt8) :
    Whole (w.setCell ⟨g, i, none⟩ (Y c)) g 5 ((bs.set i c).map Y ++ sp).toArray := by
  have h1 := h.put i (Y c)
  have e : (bs.map Y ++ sp).toArray.setIfInBounds i (Y c) = ((bs.set i c).map Y ++ sp).toArray := by
    rw [List.setIfInBounds_toArray, List.set_append_left _ _ (by simpa using hi), List.map_set]
  rw [e] at h1
  exact h1

/-- A slice of bytes of the call's own, nil let in. -/
def Row (w : World) (A : Option Addr) (c : Nat) (bs : List UInt8) : Prop :=
  bs.length ≤ c ∧ c ≤ maxLen ∧ (0 < bs.length → ∃ g, A = some ⟨g, 0, none⟩ ∧ g < w.heap.size ∧ ∀ i, i < bs.length → w.cell? ⟨g, i, none⟩ = some (Y (bs.getD i 0)) ∧ w.frozen? ⟨g, i, none⟩ = false)
/-- Its block. -/
def blockOf (A : Option Addr) (j : Nat) : Prop := ∃ a, A = some a ∧ a.block = j
section
variable {w w' : World} {A : Option Addr} {c : Nat} {bs : List UInt8} {R : Nat → Prop}
theorem Row.of_whole {g : Nat} {sp : List Value} (hw : Whole w g 5 (bs.map Y ++ sp).toArray) (h1 : bs.length ≤ c) (h2 : c ≤ maxLen) : Row w (some ⟨g, 0, none⟩) c bs :=
  ⟨h1, h2, fun _ => ⟨g, rfl, hw.lt, fun i hi => ⟨by rw [hw.at_, List.getElem?_toArray, List.getElem?_append_left (by simpa using hi), ← some_y _ _ hi], hw.thawed i⟩⟩⟩
theorem Row.nil {A : Option Addr} (hc : c ≤ maxLen) : Row w A c [] := ⟨Nat.zero_le _, hc, fun h => absurd h (by simp)⟩
theorem Row.of_own {B : Nat} {v : Value} (h : w.ownsRow B 5 1 v bs.length (bs.map Y)) : ∃ A c, v = .slice A bs.length c ∧ Row w A c bs ∧ ∀ j, blockOf A j → B ≤ j ∧ j < w.heap.size := by
  obtain ⟨A, c, rfl, h1, h2, h3⟩ := own_bytes h
  rcases h3 with ⟨rfl, rfl, rfl⟩ | ⟨g, sp, rfl, h4, h5, _⟩
  · exact ⟨_, _, rfl, Row.nil h2, by rintro j ⟨a, h, -⟩; cases h⟩
  · refine ⟨_, _, rfl, Row.of_whole h5 h1 h2, ?_⟩
    rintro j ⟨a, h, rfl⟩
    cases h
    exact ⟨h4, h5.lt⟩
theorem Row.bytes (h : Row w A c bs) : Bytes w (.slice A bs.length c) bs := by
  obtain ⟨h1, h2, h3⟩ := h
  refine ⟨A, c, rfl, h1, h2, fun h0 => ?_⟩
  obtain ⟨g, rfl, _, hc⟩ := h3 h0
  exact ⟨g, 0, rfl, fun i hi => by rw [Nat.zero_add]; exact (hc i hi).1⟩
theorem Row.at_ (h : Row w A c bs) {k : Nat} (hk : k < bs.length) : ∃ g, A = some ⟨g, 0, none⟩ ∧ g < w.heap.size ∧ w.cell? ⟨g, k, none⟩ = some (Y (bs.getD k 0)) ∧ w.frozen? ⟨g, k, none⟩ = false ∧ ∀ x, Row (w.setCell ⟨g, k, none⟩ (Y x)) A c (bs.set k x) := by
  obtain ⟨h1, h2, h3⟩ := h
  obtain ⟨g, rfl, hg, hc⟩ := h3 (by omega)
  refine ⟨g, rfl, hg, (hc k hk).1, (hc k hk).2, fun x => ⟨by simpa using h1, h2, fun _ => ⟨g, rfl, by simpa [World.setCell] using hg, fun i hi => ?_⟩⟩⟩
  rw [List.length_set] at hi
  refine ⟨?_, by rw [World.frozen?_setCell]; exact (hc i hi).2⟩
  by_cases hik : i = k
  · subst hik
    rw [World.cell?_setCell_same _ _ _ (hc i hi).1]
    simp [List.getD, hi]
  · rw [World.cell?_setCell_other _ _ _ _ (by intro e; injection e with _ e; exact hik e.symm), (hc i hi).1]
    simp [List.getD, List.getElem?_set_ne (show k ≠ i from fun e => hik e.symm)]
theorem Row.alt (h : Row w A c bs) (ha : Alt R w w') (hn : ∀ j, blockOf A j → ¬ R j) : Row w' A c bs := by
  obtain ⟨h1, h2, h3⟩ := h
  refine ⟨h1, h2, fun h0 => ?_⟩
  obtain ⟨g, rfl, hg, hc⟩ := h3 h0
  have hb := ha.block g hg (hn g ⟨_, rfl, rfl⟩)
  exact ⟨g, rfl, Nat.lt_of_lt_of_le hg ha.size, fun i hi => ⟨(World.cell?_of_block hb).trans (hc i hi).1, (World.frozen?_of_block hb).trans (hc i hi).2⟩⟩
theorem Row.below (h : Row w A c bs) (hb : Below w.heap.size w w') : Row w' A c bs := h.alt (R := fun _ => False) (Alt.of_below hb) (fun _ _ e => e)
theorem Row.past (h : Row w A c bs) (o : Obj) : Row (w.alloc o) A c bs := h.below ((Below.refl _ _).alloc (Nat.le_refl _) o)
end
end Go.Proofs.YtdjhkaofhdcalaaGreatDoor

/-
  Names as lists of 32 bytes; their order; lists of names that rise, each once.
  Arrays of bytes held against each other.
  Names in memory: a row of them, 32 cells each; slices of them that came in.
  bytes.Compare, oid.compare, oid.Less, walked.
  slices.Compact of names, walked.
-/
import Derived.Sort.LotA
import Derived.Lib.Bytealg
import Derived.Shelf.SlSortCmp.Insertion
import Derived.Test.YtdjhkaofhdcalaaGreatDoorBase
import Derived.Test.YtdjhkaofhdcalaaGreatDoorProg
import Derived.ChangeKeysEq
import Derived.Laws.StructEq
import Derived.Test.YtdjhkaofhdcalaaGreatDoorQTail
import Derived.Deep.MidRow
import Derived.Lib.BytesEntry
import Derived.Sort.Grow
import Derived.Deep.LoopGhost
import Derived.Deep.Draws
namespace Go.Proofs.YtdjhkaofhdcalaaGreatDoor
open Go.Lib Go.Sort

structure Nm where
  l : List UInt8
  h : l.length = 32
instance : Inhabited Nm := ⟨⟨List.replicate 32 0, List.length_replicate⟩⟩
theorem Nm.same {a b : Nm} (h : a.l = b.l) : a = b := by
  cases a
  cases b
  simp only at h
  subst h
  rfl
instance : DecidableEq Nm := fun a b => if h : a.l = b.l then .isTrue (Nm.same h) else .isFalse fun e => h (by rw [e])

theorem cb_lt : ∀ a b : List UInt8, compareBytes a b < 0 ↔ a < b
  | [], [] => by simp [compareBytes]
  | [], _ :: _ => by simp [compareBytes]
  | _ :: _, [] => by simp [compareBytes]
  | a :: l, b :: m => by
    unfold compareBytes
    rw [List.cons_lt_cons_iff]
    by_cases h : a < b
    · simp [h]
    · rw [if_neg h]
      by_cases h2 : b < a
      · have hne : a ≠ b := fun e => by subst e; exact absurd h2 (UInt8.lt_irrefl _)
        simp [h2, h, hne]
      · rw [if_neg h2, cb_lt l m]
        have he : a = b := UInt8.le_antisymm (UInt8.not_lt.1 h2) (UInt8.not_lt.1 h)
        simp [he, UInt8.lt_irrefl]

/-- The order of names. -/
def cmpN (x y : Nm) : Int := compareBytes x.l y.l
def ltN (x y : Nm) : Prop := x.l < y.l
instance (x y : Nm) : Decidable (ltN x y) := inferInstanceAs (Decidable (x.l < y.l))
theorem ltOf_cmpN (x y : Nm) : ltOf cmpN x y = decide (ltN x y) := by
  exact decide_eq_decide.2 (cb_lt x.l y.l)
theorem ltN_irrefl (x : Nm) : ¬ ltN x x := List.lt_irrefl x.l
theorem ltN_trans {x y z : Nm} (h : ltN x y) (k : ltN y z) : ltN x z := List.lt_trans h k
theorem ltN_total {x y : Nm} (h : ¬ ltN x y) (k : ¬ ltN y x) : x = y := Nm.same (List.le_antisymm (List.not_lt.1 k) (List.not_lt.1 h))
theorem ltN_of_not {x y : Nm} (h : ¬ ltN x y) (k : x ≠ y) : ltN y x := Decidable.byContradiction fun g => k (ltN_total h g)
theorem swoN : SWO (ltOf cmpN) where
  irrefl x := by rw [ltOf_cmpN]; simpa using ltN_irrefl x
  trans x y z h k := by
    rw [ltOf_cmpN] at *
    simp only [decide_eq_true_eq] at *
    exact ltN_trans h k
  ntrans x y z h k := by
    rw [ltOf_cmpN] at *
    simp only [decide_eq_false_iff_not] at *
    unfold ltN at *
    rw [List.not_lt] at *
    exact List.le_trans k h

/-- Rising, each once. -/
def Rise (l : List Nm) : Prop := l.Pairwise ltN
theorem rise_uniq : ∀ {s t : List Nm}, Rise s → Rise t → (∀ x, x ∈ s ↔ x ∈ t) → s = t
  | [], [], _, _, _ => rfl
  | [], b :: t, _, _, h => by have := (h b).2 (by simp); cases this
  | a :: s, [], _, _, h => by have := (h a).1 (by simp); cases this
  | a :: s, b :: t, hs, ht, h => by
    obtain ⟨hs1, hs2⟩ := List.pairwise_cons.1 hs
    obtain ⟨ht1, ht2⟩ := List.pairwise_cons.1 ht
    have hab : a = b := by
      have h1 := (h a).1 (by simp)
      have h2 := (h b).2 (by simp)
      rw [List.mem_cons] at h1 h2
      rcases h1 with h1 | h1
      · exact h1
      · rcases h2 with h2 | h2
        · exact h2.symm
        · exact absurd (ltN_trans (hs1 b h2) (ht1 a h1)) (ltN_irrefl a)
    subst hab
    rw [rise_uniq hs2 ht2 fun x => ?_]
    constructor
    · intro hx
      have := (h x).1 (by simp [hx])
      rw [List.mem_cons] at this
      rcases this with rfl | this
      · exact absurd (hs1 _ hx) (ltN_irrefl _)
      · exact this
    · intro hx
      have := (h x).2 (by simp [hx])
      rw [List.mem_cons] at this
      rcases this with rfl | this
      · exact absurd (ht1 _ hx) (ltN_irrefl _)
      · exact this
theorem Rise.at_ {s : List Nm} (h : Rise s) {i j : Nat} (hij : i < j) (hj : j < s.length) : ltN (s.getD i default) (s.getD j default) := by
  have := List.pairwise_iff_getElem.1 h i j (by omega) hj hij
  simpa [List.getD, List.getElem?_eq_getElem hj, List.getElem?_eq_getElem (show i < s.length by omega)] using this

/-- The first m of d, those that are as the one ahead of them left out. -/
def cptk (d : List Nm) : Nat → List Nm
  | 0 => []
  | m + 1 => if m ≠ 0 ∧ d.getD m default = d.getD (m - 1) default then cptk d m else cptk d m ++ [d.getD m default]
theorem cptk_len (d : List Nm) : ∀ m, (cptk d m).length ≤ m
  | 0 => Nat.le_refl _
  | m + 1 => by
    have := cptk_len d m
    unfold cptk
    split
    · omega
    · rw [List.length_append, List.length_singleton]; omega
theorem cptk_pos (d : List Nm) : ∀ m, 0 < m → 0 < (cptk d m).length
  | 0, h => absurd h (Nat.lt_irrefl _)
  | m + 1, _ => by
    unfold cptk
    split
    · rename_i h
      exact cptk_pos d m (by omega)
    · rw [List.length_append, List.length_singleton]; omega
theorem cptk_mem (d : List Nm) : ∀ m, m ≤ d.length → ∀ x, x ∈ cptk d m ↔ x ∈ d.take m
  | 0, _, x => by simp [cptk]
  | m + 1, h, x => by
    have ih := cptk_mem d m (by omega) x
    have hm : d.getD m default = d[m]'(by omega) := by simp [List.getD, List.getElem?_eq_getElem (show m < d.length by omega)]
    rw [List.take_succ_eq_append_getElem (by omega), List.mem_append, List.mem_singleton, ← hm]
    unfold cptk
    split
    · rename_i hh
      rw [ih]
      constructor
      · exact .inl
      · rintro (h1 | rfl)
        · exact h1
        · rw [hh.2]
          have h1 : m - 1 < (d.take m).length := by rw [List.length_take]; omega
          have : d.getD (m - 1) default = (d.take m)[m - 1] := by
            rw [List.getElem_take]
            simp [List.getD, List.getElem?_eq_getElem (show m - 1 < d.length by omega)]
          rw [this]
          exact List.getElem_mem h1
    · rw [List.mem_append, List.mem_singleton, ih]
/-- In order: none is less than one ahead of it. -/
def Ord (d : List Nm) : Prop := ∀ i j, i < j → j < d.length → ¬ ltN (d.getD j default) (d.getD i default)
theorem cptk_rise (d : List Nm) (hd : Ord d) : ∀ m, m ≤ d.length → Rise (cptk d m) ∧ (m ≠ 0 → (cptk d m).getLast? = some (d.getD (m - 1) default))
  | 0, _ => ⟨List.Pairwise.nil, fun h => absurd rfl h⟩
  | m + 1, h => by
    obtain ⟨h1, h2⟩ := cptk_rise d hd m (by omega)
    unfold cptk
    split
    · rename_i hh
      exact ⟨h1, fun _ => by rw [h2 hh.1, Nat.add_sub_cancel, hh.2]⟩
    · rename_i hh
      refine ⟨List.pairwise_append.2 ⟨h1, List.pairwise_singleton _ _, fun a ha b hb => ?_⟩, fun _ => by rw [List.getLast?_append, Nat.add_sub_cancel]; rfl⟩
      rw [List.mem_singleton] at hb
      subst hb
      have hm0 : m ≠ 0 := by
        rintro rfl
        simp [cptk] at ha
      have hne : d.getD m default ≠ d.getD (m - 1) default := fun e => hh ⟨hm0, e⟩
      have hlast := h2 hm0
      have hlt : ltN (d.getD (m - 1) default) (d.getD m default) := ltN_of_not (hd (m - 1) m (by omega) (by omega)) hne
      by_cases hal : a = d.getD (m - 1) default
      · rw [hal]; exact hlt
      · have hne2 : cptk d m ≠ [] := fun e => by rw [e] at ha; cases ha
        have hcat := List.dropLast_concat_getLast hne2
        have hgl : (cptk d m).getLast hne2 = d.getD (m - 1) default := by
          rw [List.getLast?_eq_some_getLast hne2] at hlast
          exact Option.some.inj hlast
        rw [← hcat, hgl] at ha h1
        rw [List.mem_append, List.mem_singleton] at ha
        rcases ha with ha | ha
        · exact ltN_trans ((List.pairwise_append.1 h1).2.2 a ha _ (by simp)) hlt
        · exact absurd ha hal
/-- Where no two beside one another are alike, all are there. -/
theorem cptk_all (d : List Nm) : ∀ m, m ≤ d.length → (∀ i, 0 < i → i < m → d.getD i default ≠ d.getD (i - 1) default) → cptk d m = d.take m
  | 0, _, _ => by simp [cptk]
  | m + 1, h, hh => by
    have ih := cptk_all d m (by omega) fun i h0 h1 => hh i h0 (by omega)
    unfold cptk
    rw [if_neg (fun e => hh m (by omega) (by omega) e.2), ih, List.take_succ_eq_append_getElem (by omega)]
    simp [List.getD, List.getElem?_eq_getElem (show m < d.length by omega)]
theorem cptk_step (d : List Nm) (m : Nat) (hm : 0 < m) : cptk d (m + 1) = if d.getD m default = d.getD (m - 1) default then cptk d m else cptk d m ++ [d.getD m default] := by
  rw [cptk]
  by_cases h : d.getD m default = d.getD (m - 1) default
  · rw [if_pos ⟨by omega, h⟩, if_pos h]
  · rw [if_neg (fun e => h e.2), if_neg h]
theorem rise_ins {s : List Nm} {x : Nm} {k : Nat} (hs : Rise s) (hk : k ≤ s.length) (h1 : ∀ i, i < k → ltN (s.getD i default) x) (h2 : k < s.length → ltN x (s.getD k default)) :
    Rise (s.take k ++ x :: s.drop k) := by
  have ht : ∀ y ∈ s.take k, ltN y x := by
    intro y hy
    obtain ⟨i, hi, rfl⟩ := List.mem_iff_getElem.1 hy
    rw [List.length_take] at hi
    have := h1 i (by omega)
    rw [List.getElem_take]
    simpa [List.getD, List.getElem?_eq_getElem (show i < s.length by omega)] using this
  have hd : ∀ y ∈ s.drop k, ltN x y := by
    intro y hy
    obtain ⟨i, hi, rfl⟩ := List.mem_iff_getElem.1 hy
    rw [List.length_drop] at hi
    have hk2 := h2 (by omega)
    rw [List.getElem_drop]
    rcases Nat.eq_zero_or_pos i with rfl | hpos
    · simpa [List.getD, List.getElem?_eq_getElem (show k < s.length by omega)] using hk2
    · have := hs.at_ (show k < k + i by omega) (show k + i < s.length by omega)
      have := ltN_trans hk2 this
      simpa [List.getD, List.getElem?_eq_getElem (show k + i < s.length by omega)] using this
  refine List.pairwise_append.2 ⟨List.Pairwise.sublist (List.take_sublist _ _) hs, List.pairwise_cons.2 ⟨hd, List.Pairwise.sublist (List.drop_sublist _ _) hs⟩, fun a ha b hb => ?_⟩
  rw [List.mem_cons] at hb
  rcases hb with rfl | hb
  · exact ht a ha
  · exact ltN_trans (ht a ha) (hd b hb)
theorem mem_ins (s : List Nm) (x : Nm) (k : Nat) (y : Nm) : y ∈ s.take k ++ x :: s.drop k ↔ y ∈ s ∨ y = x := by
  rw [List.mem_append, List.mem_cons]
  constructor
  · rintro (h | h | h)
    · exact .inl (List.mem_of_mem_take h)
    · exact .inr h
    · exact .inl (List.mem_of_mem_drop h)
  · rintro (h | h)
    · rw [← List.take_append_drop k s, List.mem_append] at h
      rcases h with h | h
      · exact .inl h
      · exact .inr (.inr h)
    · exact .inr (.inl h)
end Go.Proofs.YtdjhkaofhdcalaaGreatDoor
namespace Go.Proofs.YtdjhkaofhdcalaaGreatDoor
open Go.RowKit

theorem part_byte (xs : List UInt8) (i : Nat) (hi : i < xs.length) (w : World) : (part 5 (xs.map Y).toArray i).run Tryz.prog w = .ok (Y (xs.getD i 0)) w := by
  have hagg : (isAgg 5).run Tryz.prog w = .ok false w := by
    unfold isAgg
    rw [Sem.run_bind, run_underlying Tryz.underlying5 w]
    rfl
  have hv : (xs.map Y).toArray[i]? = some (Y (xs.getD i 0)) := by simp [List.getElem?_eq_getElem hi]
  simp [part, hagg, hv, Y]
theorem eqItems_bytes (d : Nat) (xs ys : List UInt8) (w : World) : ∀ is : List Nat, (∀ i ∈ is, i < xs.length ∧ i < ys.length) →
    (Op.eqItems (d + 1) 5 1 (xs.map Y).toArray (ys.map Y).toArray is).run Tryz.prog w = .ok (is.all fun i => xs.getD i 0 == ys.getD i 0) w
  | [], _ => by simp [Op.eqItems]
  | i :: is, h => by
    obtain ⟨h1, h2⟩ := h i (by simp)
    have hp := part_byte xs i h1 w
    have hq := part_byte ys i h2 w
    have he : (Op.equalIn (d + 1) 5 (Y (xs.getD i 0)) (Y (ys.getD i 0))).run Tryz.prog w = .ok (((xs.getD i 0).toNat : Int) == ((ys.getD i 0).toNat : Int)) w := run_equalIn_int (P := Tryz.prog) w d 5 .u8 .u8 _ _ Tryz.underlying5
    have ih := eqItems_bytes d xs ys w is (fun j hj => h j (by simp [hj]))
    have hb : (((xs.getD i 0).toNat : Int) == ((ys.getD i 0).toNat : Int)) = (xs.getD i 0 == ys.getD i 0) := by
      rw [Bool.eq_iff_iff]
      simp only [beq_iff_eq]
      constructor
      · intro e
        exact UInt8.toNat_inj.1 (by omega)
      · intro e
        rw [e]
    simp only [Op.eqItems, Nat.mul_one, Sem.run_bind, hp, hq, Result.andThen_ok]
    rw [he, Result.andThen_ok, hb, List.all_cons]
    cases hc : (xs.getD i 0 == ys.getD i 0)
    · simp
    · simpa using ih
theorem all_range (xs ys : List UInt8) (n : Nat) (hx : xs.length = n) (hy : ys.length = n) : ((List.range n).all fun i => xs.getD i 0 == ys.getD i 0) = decide (xs = ys) := by
  rw [Bool.eq_iff_iff]
  simp only [List.all_eq_true, List.mem_range, beq_iff_eq, decide_eq_true_eq]
  constructor
  · intro h
    apply List.ext_getElem (by omega)
    intro i h1 h2
    have := h i (by omega)
    simpa [List.getD, List.getElem?_eq_getElem h1, List.getElem?_eq_getElem h2] using this
  · rintro rfl i _
    rfl
theorem equalIn_bytes (T n : Nat) (d : Nat) (hT : Tryz.prog.underlying T = some (.array n 5)) (xs ys : List UInt8) (hx : xs.length = n) (hy : ys.length = n) (w : World) :
    (Op.equalIn (d + 1 + 1) T (.agg (xs.map Y).toArray) (.agg (ys.map Y).toArray)).run Tryz.prog w = .ok (decide (xs = ys)) w := by
  have hc : Tryz.prog.cellsOf 5 = 1 := by kernel_rfl
  have hi : ∃ i, Tryz.prog.info? 5 = some i := by
    cases h : Tryz.prog.info? 5 with
    | some i => exact ⟨i, rfl⟩
    | none => exact absurd (show (Tryz.prog.info? 5).isSome = true by kernel_rfl) (by rw [h]; decide)
  obtain ⟨i, hi⟩ := hi
  rw [run_equalIn_array (P := Tryz.prog) w (d + 1) _ _ hT hi, hc, eqItems_bytes d xs ys w _ (by intro j hj; rw [List.mem_range] at hj; omega), all_range xs ys n hx hy]
theorem eql_bytes (T n : Nat) (hT : Tryz.prog.underlying T = some (.array n 5)) (xs ys : List UInt8) (hx : xs.length = n) (hy : ys.length = n) (w : World) :
    (binOp .eql T (.agg (xs.map Y).toArray) (.agg (ys.map Y).toArray)).run Tryz.prog w = .ok (.bool (decide (xs = ys))) w := by
  rw [run_eql_struct (P := Tryz.prog) w T, equalIn_bytes T n 9998 hT xs ys hx hy w]
  rfl
theorem neq_bytes (T n : Nat) (hT : Tryz.prog.underlying T = some (.array n 5)) (xs ys : List UInt8) (hx : xs.length = n) (hy : ys.length = n) (w : World) :
    (binOp .neq T (.agg (xs.map Y).toArray) (.agg (ys.map Y).toArray)).run Tryz.prog w = .ok (.bool (!decide (xs = ys))) w := by
  rw [run_neq_struct (P := Tryz.prog) w T, equalIn_bytes T n 9998 hT xs ys hx hy w]
  rfl
end Go.Proofs.YtdjhkaofhdcalaaGreatDoor
namespace Go.Proofs.YtdjhkaofhdcalaaGreatDoor
open Go.RowKit

/-- A name's cells. -/
def encN (x : Nm) : List Value := x.l.map Y
theorem encN_len (x : Nm) : (encN x).length = 32 := by rw [encN, List.length_map, x.h]
theorem encN_one (x : Nm) : ∀ v ∈ encN x, v.oneCell' = true := by
  intro v hv
  obtain ⟨_, _, rfl⟩ := List.mem_map.1 hv
  rfl
theorem encN_size (x : Nm) : (encN x).toArray.size = 32 := by rw [List.size_toArray, encN_len]
theorem encN_all (x : Nm) : (encN x).toArray.all (·.oneCell') = true := all_oneCell_toArray (encN_one x)
theorem infoN : (Tryz.prog.info? 23).map (·.size) = some 32 := by kernel_rfl
theorem eql_nm (x y : Nm) (w : World) : (binOp .eql 23 (.agg (encN x).toArray) (.agg (encN y).toArray)).run Tryz.prog w = .ok (.bool (decide (x = y))) w := by
  have h := eql_bytes 23 32 Tryz.underlying23 x.l y.l x.h y.h w
  rw [show decide (x.l = y.l) = decide (x = y) from decide_eq_decide.2 ⟨Nm.same, fun e => by rw [e]⟩] at h
  exact h
theorem neq_nm (x y : Nm) (w : World) : (binOp .neq 23 (.agg (encN x).toArray) (.agg (encN y).toArray)).run Tryz.prog w = .ok (.bool (!decide (x = y))) w := by
  have h := neq_bytes 23 32 Tryz.underlying23 x.l y.l x.h y.h w
  rw [show decide (x.l = y.l) = decide (x = y) from decide_eq_decide.2 ⟨Nm.same, fun e => by rw [e]⟩] at h
  exact h

/-- A row of names. -/
def RowN (w : World) (b o : Nat) (ids : List Nm) : Prop := ∀ i, i < ids.length → w.rangeAt b (o + i * 32) (encN (ids.getD i default))
section
variable {w w' : World} {b o B : Nat} {ids : List Nm} {R : Nat → Prop}
theorem RowN.cell (h : RowN w b o ids) {i j : Nat} {v : Value} (hi : i < ids.length) (hv : (encN (ids.getD i default))[j]? = some v) : w.cell? ⟨b, o + i * 32 + j, none⟩ = some v := h i hi j v hv
theorem RowN.lt (h : RowN w b o ids) (h0 : 0 < ids.length) : b < w.heap.size := by
  have hl := encN_len (ids.getD 0 default)
  have := h 0 h0 0 _ (List.getElem?_eq_getElem (show 0 < (encN (ids.getD 0 default)).length by omega))
  have := World.block_lt_of_cell? w _ this
  exact this
theorem RowN.below (h : RowN w b o ids) (hb : Below B w w') (hB : b < B) : RowN w' b o ids := fun i hi j v hv => (hb.cell hB).trans (h i hi j v hv)
theorem RowN.take (h : RowN w b o ids) (n : Nat) : RowN w b o (ids.take n) := fun i hi => by
  rw [List.length_take] at hi
  have e : (ids.take n).getD i default = ids.getD i default := by
    rw [List.getD_eq_getElem?_getD, List.getD_eq_getElem?_getD, List.getElem?_take_of_lt (by omega)]
  rw [e]
  exact h i (by omega)
end

/-- A slice's block. -/
def inBlk (A : Option Addr) (j : Nat) : Prop := ∃ a, A = some a ∧ a.block = j
/-- A slice of names, as it came in or of the call's own. -/
def ArgN (w : World) (A : Option Addr) (c : Nat) (ids : List Nm) : Prop :=
  ids.length ≤ c ∧ c ≤ maxLen ∧ (A = none → c = 0) ∧ (0 < ids.length → ∃ b o, A = some ⟨b, o, none⟩ ∧ RowN w b o ids)
theorem ArgN.nil {w : World} {c : Nat} {ids : List Nm} (h : ArgN w none c ids) : c = 0 ∧ ids = [] := by
  have h0 := h.2.2.1 rfl
  have h1 := h.1
  exact ⟨h0, List.length_eq_zero_iff.1 (by omega)⟩
theorem ArgN.below {w w' : World} {A : Option Addr} {c : Nat} {ids : List Nm} {B : Nat} (h : ArgN w A c ids) (hb : Below B w w') (hB : ∀ b, inBlk A b → 0 < ids.length → b < B) : ArgN w' A c ids := by
  obtain ⟨h1, h2, h3, h4⟩ := h
  refine ⟨h1, h2, h3, fun h0 => ?_⟩
  obtain ⟨b, o, e, hr⟩ := h4 h0
  exact ⟨b, o, e, hr.below hb (hB b ⟨_, e, rfl⟩ h0)⟩
theorem ArgN.lt {w : World} {A : Option Addr} {c : Nat} {ids : List Nm} (h : ArgN w A c ids) {b : Nat} (hb : inBlk A b) (h0 : 0 < ids.length) : b < w.heap.size := by
  obtain ⟨b', o, e, hr⟩ := h.2.2.2 h0
  obtain ⟨a, rfl, rfl⟩ := hb
  injection e with e
  subst e
  exact hr.lt h0
theorem ArgN.later {w w' : World} {A : Option Addr} {c : Nat} {ids : List Nm} (h : ArgN w A c ids) (hb : Below w.heap.size w w') : ArgN w' A c ids := h.below hb fun _ hj h0 => h.lt hj h0
theorem ArgN.take {w : World} {A : Option Addr} {c : Nat} {ids : List Nm} (h : ArgN w A c ids) (n : Nat) : ArgN w A c (ids.take n) := by
  obtain ⟨h1, h2, h3, h4⟩ := h
  refine ⟨by rw [List.length_take]; omega, h2, h3, fun h0 => ?_⟩
  rw [List.length_take] at h0
  obtain ⟨b, o, e, hr⟩ := h4 (by omega)
  exact ⟨b, o, e, hr.take n⟩

/-- A load of a range that every world of the class holds. -/
theorem q_loadm {P : Program} {ops : Array Oper} {C : World → Prop} {Q : Act → Prop} {a : Act} {o : Oper} {rest : List Oper} (ty : TypeId) (x : Operand) (ho : o.op = .load ty x) (hw : Region.wanted o (yielded ops a.tmps) = true) (b off : Nat) (cs : List Value)
    (hx : a.eval x = .pointer (some ⟨b, off, none⟩)) (d : TypeDesc) (hu : P.underlying ty = some d) (hd : d.isRow = true) (hi : (P.info? ty).map (·.size) = some cs.length) (hS : ∀ w, C w → w.rangeAt b off cs)
    (hk : wpQuiet P ops C Q rest (a.put o.dst (.agg cs.toArray))) : wpQuiet P ops C Q (o :: rest) a := by
  have hy := yieldsIf_load_mid (P := P) (S := C) hw ty x ho b off hx cs d hS hu hd hi
  rcases hy with ⟨-, h⟩ | ⟨h, -⟩
  · refine BigFrame.wpQuiet_want hw fun K hK => ⟨.agg cs.toArray, fun w hc => ?_, hK _ hk⟩
    unfold Oper.quietAt
    rw [h w hc]
    exact ⟨rfl, by simp⟩
  · rw [hw] at h
    cases h
end Go.Proofs.YtdjhkaofhdcalaaGreatDoor
namespace Go.Proofs.YtdjhkaofhdcalaaGreatDoor
open Go.RowKit

theorem bytes_back (xs : List UInt8) : Lib.bytesOf (xs.map fun b => (b.toNat : Int)) = xs := by
  unfold Lib.bytesOf
  rw [List.map_map]
  conv => rhs; rw [← List.map_id xs]
  apply List.map_congr_left
  intro b _
  simp
theorem load_row {P : Program} (w : World) (b o : Nat) (xs : List UInt8) (h : w.rangeAt b o (xs.map Y)) : (Extern.Bytes.loadBytes ⟨b, o, none⟩ xs.length .empty).run P w = .ok ⟨xs.toArray⟩ w := by
  have hl := Lib.run_loadBytesX (P := P) w (xs.map fun b => (b.toNat : Int)) ⟨b, o, none⟩ .empty (fun j x hj => by
    rw [Addr.add_mid]
    rw [List.getElem?_map, Option.map_eq_some_iff] at hj
    obtain ⟨c, hc, rfl⟩ := hj
    exact h j (Y c) (by rw [List.getElem?_map, hc]; rfl))
  rw [List.length_map, bytes_back] at hl
  rw [hl]
  congr 1
  apply ByteArray.ext
  show (#[] : Array UInt8) ++ xs.toArray = xs.toArray
  simp
theorem run_compare_rows {P : Program} (w : World) (b1 o1 n1 c1 b2 o2 n2 c2 : Nat) (xs ys : List UInt8) (h1 : xs.length = n1) (h2 : ys.length = n2) (hx : w.rangeAt b1 o1 (xs.map Y)) (hy : w.rangeAt b2 o2 (ys.map Y)) :
    (Extern.BytealgCompare.compare #[.slice (some ⟨b1, o1, none⟩) n1 c1, .slice (some ⟨b2, o2, none⟩) n2 c2]).run P w = .ok (.int .i64 (Lib.compareBytes xs ys)) w := by
  subst h1 h2
  have hl1 := load_row (P := P) w b1 o1 xs hx
  have hl2 := load_row (P := P) w b2 o2 ys hy
  change Sem.run P (do pure (goInt (Extern.BytealgCompare.cmp (← Extern.Bytes.bytesOf (.slice (some ⟨b1, o1, none⟩) xs.length c1)) (← Extern.Bytes.bytesOf (.slice (some ⟨b2, o2, none⟩) ys.length c2))))) w = _
  simp only [Extern.Bytes.bytesOf, Sem.run_bind, Sem.run_pure, Result.andThen, hl1, hl2]
  rw [Lib.cmp_eq]
  rfl
set_option maxRecDepth 100000 in
theorem bcmp_any (b1 o1 n1 c1 b2 o2 n2 c2 : Nat) (xs ys : List UInt8) (w : World) (h1 : xs.length = n1) (h2 : ys.length = n2) (hx : w.rangeAt b1 o1 (xs.map Y)) (hy : w.rangeAt b2 o2 (ys.map Y)) :
    Calls Tryz.prog 77 #[.slice (some ⟨b1, o1, none⟩) n1 c1, .slice (some ⟨b2, o2, none⟩) n2 c2] w fun e w' => e = .returned (.int .i64 (Lib.compareBytes xs ys)) ∧ w = w' := by
  have hrun := run_compare_rows (P := Tryz.prog) w b1 o1 n1 c1 b2 o2 n2 c2 xs ys h1 h2 hx hy
  clear hx hy
  go_enter Tryz.func77, Tryz.ntmps77
  go_wp2
  rw [run_callFunc_extern Tryz.func109 (by kernel_rfl) (by kernel_rfl) (by kernel_rfl) (e := Extern.BytealgCompare.compare) (by kernel_rfl), hrun]
  simp only [Result.andThen]
  rw [Oper.upon_value]
  go_wp2
  go_ret
  exact ⟨rfl, rfl⟩
set_option maxHeartbeats 1000000 in
theorem compare_any (x y : Nm) (w : World) : Calls Tryz.prog 47 #[.agg (encN x).toArray, .agg (encN y).toArray] w fun e w' => e = .returned (.int .i64 (cmpN x y)) ∧ ∃ q os, w' = Sort.grow (w.drewN q) os := by
  have hxl := x.h
  have hyl := y.h
  unfold cmpN encN
  generalize x.l = xs at *
  generalize y.l = ys at *
  obtain ⟨xc, hxc⟩ : ∃ xc, xc = (xs.map Y).toArray := ⟨_, rfl⟩
  obtain ⟨yc, hyc⟩ : ∃ yc, yc = (ys.map Y).toArray := ⟨_, rfl⟩
  rw [← hxc, ← hyc]
  have HB : Hid (∀ n, Calls Tryz.prog 77 #[.slice (some ⟨w.heap.size, 0, none⟩) 32 32, .slice (some ⟨w.heap.size + 1, 0, none⟩) 32 32] (((w.alloc (.cells xc 23)).alloc (.cells yc 23)).drewN n) fun e w' => e = .returned (.int .i64 (Lib.compareBytes xs ys)) ∧ ((w.alloc (.cells xc 23)).alloc (.cells yc 23)).drewN n = w') := by
    intro n
    have hwx := Whole.past (Whole.made w 23 xc) (.cells yc 23)
    have hwy := Whole.made (w.alloc (.cells xc 23)) 23 yc
    have hs : (w.alloc (.cells xc 23)).heap.size = w.heap.size + 1 := by simp
    rw [hs] at hwy
    refine bcmp_any _ _ _ _ _ _ _ _ xs ys _ hxl hyl (fun j v hv => ?_) (fun j v hv => ?_)
    · rw [Nat.zero_add, World.cell?_drewN, hwx.at_, hxc, List.getElem?_toArray]
      exact hv
    · rw [Nat.zero_add, World.cell?_drewN, hwy.at_, hyc, List.getElem?_toArray]
      exact hv
  clear hxc hyc hxl hyl
  generalize Lib.compareBytes xs ys = r at *
  go_enter Tryz.func47, Tryz.ntmps47
  go_wp2_with fail
  refine wp_region_quiet_lit (by kernel_rfl) (by kernel_rfl) ?_
  repeat (first
    | go_big_quiet_step ((first | (go_at_call 77; exact q_left (HB.out _)))))
  refine wpQuiet_nil ?_
  rintro W ⟨n, rfl⟩
  go_wp2
  go_ret
  exact ⟨rfl, n, _, by rw [Sort.alloc_eq_grow, Sort.alloc_eq_grow, Sort.grow_grow]; rfl⟩
theorem below_grow_drewN (w : World) (n : Nat) (os : Array Obj) : Below w.heap.size w (Sort.grow (w.drewN n) os) :=
  ⟨rfl, rfl, rfl, by simp [Sort.grow], fun k hk => by
    show (w.heap ++ os)[k]? = _
    rw [Array.getElem?_append_left hk]⟩
set_option maxHeartbeats 1000000 in
set_option maxRecDepth 100000 in
theorem less_nm (x y : Nm) (w : World) : Calls Tryz.prog 14 #[.agg (encN x).toArray, .agg (encN y).toArray] w fun e w' => e = .returned (.bool (decide (ltN x y))) ∧ Below w.heap.size w w' := by
  have hcmp := fun W => compare_any x y W
  have hneg : decide (cmpN x y < 0) = decide (ltN x y) := ltOf_cmpN x y
  generalize decide (ltN x y) = lt at *
  generalize cmpN x y = r at *
  have hxs := encN_size x
  have hys := encN_size y
  have HX : Hid ((Tryz.prog.info? 23).map (·.size) = some (encN x).toArray.size) := by show _ = _; rw [hxs]; exact infoN
  have HY : Hid ((Tryz.prog.info? 23).map (·.size) = some (encN y).toArray.size) := by show _ = _; rw [hys]; exact infoN
  have HC := Lib.hid hcmp
  clear hxs hys hcmp
  generalize (encN x).toArray = xc at *
  generalize (encN y).toArray = yc at *
  go_enter Tryz.func14, Tryz.ntmps14
  have HWX := Lib.hid (Whole.past (Whole.made w 23 xc) (.cells yc 23))
  have HWY : Hid (Whole ((w.alloc (.cells xc 23)).alloc (.cells yc 23)) (w.heap.size + 1) 23 yc) := by
    show Whole _ _ _ _
    have := Whole.made (w.alloc (.cells xc 23)) 23 yc
    simpa using this
  go_wp2_with (first
    | (refine wpList_load_row rfl 23 _ rfl w.heap.size rfl 23 xc (0, 0) _ HWX.out Tryz.underlying23 rfl HX.out ?_)
    | (refine wpList_load_row rfl 23 _ rfl (w.heap.size + 1) rfl 23 yc (0, 0) _ HWY.out Tryz.underlying23 rfl HY.out ?_)
    | (go_at_call 47; refine (HC.out _).mono ?_; rintro e w' ⟨rfl, q, os, rfl⟩))
  go_ret
  exact ⟨rfl, ((((Below.refl w.heap.size w).alloc (Nat.le_refl _) _).alloc (by simp) _).trans ((below_grow_drewN _ _ _).mono (by simp; omega)))⟩
end Go.Proofs.YtdjhkaofhdcalaaGreatDoor
namespace Go.Proofs.YtdjhkaofhdcalaaGreatDoor
open Go.RowKit

/-- A row, of which one name was put elsewhere. -/
theorem RowN.there {w : World} {b o : Nat} {d : List Nm} (h : RowN w b o d) (hf : ∀ i, i < d.length * 32 → w.frozen? ⟨b, o + i, none⟩ = false) {k : Nat} (hk : k < d.length) : w.there b (o + k * 32) 32 := by
  intro j hj
  have hl := encN_len (d.getD k default)
  refine ⟨?_, ?_⟩
  · rw [h k hk j _ (List.getElem?_eq_getElem (by omega))]
    rfl
  · rw [Nat.add_assoc]
    exact hf _ (by omega)
theorem RowN.set {w : World} {b o : Nat} {d : List Nm} (h : RowN w b o d) (hf : ∀ i, i < d.length * 32 → w.frozen? ⟨b, o + i, none⟩ = false) {k : Nat} (hk : k < d.length) (x : Nm) : RowN (w.setCells b (o + k * 32) (encN x)) b o (d.set k x) := by
  intro i hi
  rw [List.length_set] at hi
  by_cases e : i = k
  · subst e
    rw [List.getD_eq_getElem?_getD, List.getElem?_set_self hi, Option.getD_some]
    exact World.rangeAt_setCells_same _ _ _ _ (by rw [encN_len]; exact h.there hf hk)
  · rw [List.getD_eq_getElem?_getD, List.getElem?_set_ne (fun e' => e e'.symm), ← List.getD_eq_getElem?_getD]
    refine World.rangeAt_setCells_apart (h i hi) _ _ _ (.inr ?_)
    rw [encN_len, encN_len]
    omega
/-- clear of a slice whose elements are of several cells. -/
theorem run_clear_cells {P : Program} (w : World) (t e ty : TypeId) (z : Value) (ht : P.underlying t = some (.slice e)) (hv : (zeroValue e).run P w = .ok z w) (h1 : ∀ v ∈ z.cells, v.oneCell' = true) (b o n c : Nat) (hn : 0 < n)
    (hc : ∀ j, j < n * z.cells.size → (w.cell? ⟨b, o + j, none⟩).isSome = true) (hf : ∀ j, j < n * z.cells.size → w.frozen? ⟨b, o + j, none⟩ = false) :
    (Builtin.clear_ #[t] ty #[.slice (some ⟨b, o, none⟩) n c]).run P w = .ok (.tuple #[]) (w.setCells b o (Builtin.zeroCells z.cells n).toList) := by
  have hsz : (Builtin.zeroCells z.cells n).toList.length = n * z.cells.size := by simp [Builtin.zeroCells]
  have hst := run_storeCells_cells (P := P) b o (Builtin.zeroCells z.cells n).toList 0 w (fun j hj => by rw [Nat.add_zero]; exact hc j (by omega)) (fun j hj => by rw [Nat.add_zero]; exact hf j (by omega)) (by
    intro v hv'
    simp only [Builtin.zeroCells, Array.toList_map, List.mem_map, Array.toList_range, List.mem_range] at hv'
    obtain ⟨i, hi, rfl⟩ := hv'
    have hp : 0 < z.cells.size := by
      rcases Nat.eq_zero_or_pos z.cells.size with h | h
      · rw [h] at hi
        omega
      · exact h
    rw [getElem!_pos z.cells (i % z.cells.size) (Nat.mod_lt _ hp)]
    exact h1 _ (Array.getElem_mem _))
  rw [Nat.add_zero] at hst
  obtain ⟨m, rfl⟩ : ∃ m, n = m + 1 := ⟨n - 1, by omega⟩
  simp [Builtin.clear_, run_underlying ht, hv, hst]
theorem zero_nm (w : World) : (zeroValue 23).run Tryz.prog w = .ok (.agg (encN default).toArray) w := by
  kernel_rfl
theorem gr_cellsN {a : World} {g : Nat} : ∀ (vs : List Value) (o : Nat) (w : World), a.grownBy w (some g) → a.grownBy (w.setCells g o vs) (some g)
  | [], _, _, h => h
  | v :: vs, o, w, h => by
    rw [World.setCells]
    exact gr_cellsN vs (o + 1) _ (gr_set h (.inl rfl) v)
/-- The second loop's row: m names have been looked at; what is kept of them lies at the head; from there on it is as it was. -/
structure Half (w wr : World) (b : Nat) (d : List Nm) (m kk : Nat) : Prop where
  row : ∃ F : List Nm, F.length = d.length ∧ RowN wr b 0 F ∧ (∀ i, i < kk → F.getD i default = (cptk d m).getD i default) ∧ ∀ i, kk ≤ i → F.getD i default = d.getD i default
  len : (cptk d m).length = kk
  lt : kk < m
  gr : w.grownBy wr (some b)
  fr : ∀ i, i < d.length * 32 → wr.frozen? ⟨b, 0 + i, none⟩ = false
theorem Half.skip {w wr : World} {b m kk : Nat} {d : List Nm} (h : Half w wr b d m kk) (hm : 0 < m) (he : d.getD m default = d.getD (m - 1) default) (n : Nat) : Half w (wr.drewN n) b d (m + 1) kk := by
  obtain ⟨⟨F, h1, h2, h3, h4⟩, h5, h6, h7, h8⟩ := h
  have hc : cptk d (m + 1) = cptk d m := by rw [cptk_step d m hm, if_pos he]
  exact ⟨⟨F, h1, h2, by rw [hc]; exact h3, h4⟩, by rw [hc]; exact h5, by omega, gr_drewN h7 n, h8⟩
theorem Half.keep {w wr : World} {b m kk : Nat} {d : List Nm} (h : Half w wr b d m kk) (hm : 0 < m) (hl : m < d.length) (he : d.getD m default ≠ d.getD (m - 1) default) (n : Nat) : Half w ((wr.drewN n).setCells b (kk * 32) (encN (d.getD m default))) b d (m + 1) (kk + 1) := by
  obtain ⟨⟨F, h1, h2, h3, h4⟩, h5, h6, h7, h8⟩ := h
  have hc : cptk d (m + 1) = cptk d m ++ [d.getD m default] := by rw [cptk_step d m hm, if_neg he]
  refine ⟨⟨F.set kk (d.getD m default), by rw [List.length_set]; exact h1, ?_, ?_, ?_⟩, by rw [hc, List.length_append, h5]; rfl, by omega, gr_cellsN _ _ _ (gr_drewN h7 n), fun i hi => by rw [World.frozen?_setCells]; exact h8 i hi⟩
  · have := RowN.set (w := wr.drewN n) (b := b) (o := 0) (d := F) h2 (by rw [h1]; exact h8) (k := kk) (by omega) (d.getD m default)
    rw [Nat.zero_add] at this
    exact this
  · intro i hi
    rw [hc]
    by_cases e : i = kk
    · subst e
      generalize d.getD m default = x at *
      have e1 : (F.set i x)[i]? = some x := List.getElem?_set_self (by omega)
      have e2 : (cptk d m ++ [x])[i]? = some x := by
        rw [List.getElem?_append_right (by omega), h5, Nat.sub_self]
        rfl
      rw [List.getD_eq_getElem?_getD, e1, List.getD_eq_getElem?_getD, e2]
    · rw [List.getD_eq_getElem?_getD, List.getElem?_set_ne (fun e' => e e'.symm), ← List.getD_eq_getElem?_getD, h3 i (by omega), List.getD_eq_getElem?_getD, List.getD_eq_getElem?_getD, List.getElem?_append_left (by omega)]
  · intro i hi
    rw [List.getD_eq_getElem?_getD, List.getElem?_set_ne (by omega), ← List.getD_eq_getElem?_getD, h4 i (by omega)]
theorem Half.load {w wr : World} {b m kk : Nat} {d : List Nm} (h : Half w wr b d m kk) {i : Nat} (hi : kk ≤ i) (hl : i < d.length) : ∀ W, (∃ n, W = wr.drewN n) → W.rangeAt b (i * 32) (encN (d.getD i default)) := by
  rintro W ⟨n, rfl⟩
  obtain ⟨⟨F, h1, h2, h3, h4⟩, -⟩ := h
  have := h2 i (by omega)
  rw [Nat.zero_add, h4 i hi] at this
  exact this
theorem Half.there {w wr : World} {b m kk : Nat} {d : List Nm} (h : Half w wr b d m kk) (hl : kk < d.length) (n : Nat) : (wr.drewN n).there b (kk * 32) 32 := by
  obtain ⟨⟨F, h1, h2, h3, h4⟩, h5, h6, h7, h8⟩ := h
  have := RowN.there (w := wr.drewN n) (b := b) (o := 0) (d := F) h2 (by rw [h1]; exact h8) (k := kk) (by omega)
  rw [Nat.zero_add] at this
  exact this
theorem Half.done {w wr : World} {b m kk : Nat} {d : List Nm} (h : Half w wr b d m kk) (_ : m ≤ d.length) (vs : List Value) : w.grownBy (wr.setCells b (kk * 32) vs) (some b) ∧ RowN (wr.setCells b (kk * 32) vs) b 0 (cptk d m) := by
  obtain ⟨⟨F, h1, h2, h3, h4⟩, h5, h6, h7, h8⟩ := h
  refine ⟨gr_cellsN _ _ _ h7, fun i hi => ?_⟩
  rw [h5] at hi
  have := h2 i (by omega)
  rw [h3 i hi] at this
  refine World.rangeAt_setCells_apart this _ _ _ (.inr (.inl ?_))
  rw [encN_len]
  omega
theorem Half.rest {w wr : World} {b m kk : Nat} {d : List Nm} (h : Half w wr b d m kk) (_ : m ≤ d.length) : (∀ j, j < (d.length - kk) * 32 → (wr.cell? ⟨b, kk * 32 + j, none⟩).isSome = true) ∧ ∀ j, j < (d.length - kk) * 32 → wr.frozen? ⟨b, kk * 32 + j, none⟩ = false := by
  obtain ⟨⟨F, h1, h2, h3, h4⟩, h5, h6, h7, h8⟩ := h
  refine ⟨fun j hj => ?_, fun j hj => ?_⟩
  · have hi : kk + j / 32 < F.length := by omega
    have hl := encN_len (F.getD (kk + j / 32) default)
    have := h2 (kk + j / 32) hi (j % 32) _ (List.getElem?_eq_getElem (by omega))
    rw [show 0 + (kk + j / 32) * 32 + j % 32 = kk * 32 + j by omega] at this
    rw [this]
    rfl
  · have := h8 (kk * 32 + j) (by omega)
    rw [Nat.zero_add] at this
    exact this
set_option maxRecDepth 100000 in
set_option maxHeartbeats 8000000 in
theorem compact_nm (b c : Nat) (d : List Nm) (w : World) (hH : RowN w b 0 d) (hf : ∀ i, i < d.length * 32 → w.frozen? ⟨b, 0 + i, none⟩ = false) (hc : d.length ≤ c) (hm : d.length ≤ 1048576) :
    Calls Tryz.prog 48 #[.slice (some ⟨b, 0, none⟩) d.length c] w fun e w' => e = .returned (.slice (some ⟨b, 0, none⟩) (cptk d d.length).length c) ∧ w.grownBy w' (some b) ∧ RowN w' b 0 (cptk d d.length) := by
  have HH := Lib.hid hH
  have HF := Lib.hid hf
  clear hH hf
  by_cases h2 : d.length < 2
  · have hall : cptk d d.length = d := by
      rw [cptk_all d d.length (Nat.le_refl _) (fun i h0 h1 => by omega), List.take_length]
    have HALL := Lib.hid hall
    clear hall
    go_enter Tryz.func48, Tryz.ntmps48
    go_wp2
    go_ret
    rw [HALL.out]
    exact ⟨rfl, gr_refl _ _, HH.out⟩
  · go_enter Tryz.func48, Tryz.ntmps48
    go_wp2
    go_loopg [3] d.length (fun g s3 wr => ∃ k q : Nat, 1 ≤ k ∧ k ≤ d.length ∧ d.length - k ≤ g ∧ s3 = .int .i64 k ∧ Hid (wr = w.drewN q) ∧ Hid (∀ i, 0 < i → i < k → d.getD i default ≠ d.getD (i - 1) default))
    case atStart => exact ⟨1, 0, Nat.le_refl _, by omega, by omega, rfl, Lib.hid rfl, Lib.hid fun i h0 h1 => absurd h0 (by omega)⟩
    case round =>
      obtain ⟨k, q, hk1, hk, hg, rfl, hwr, hall⟩ := hrel
      by_cases hlt : k < d.length
      · have hlt' : (k : Int) < (d.length : Int) := by omega
        obtain ⟨x, hx⟩ : ∃ x, x = d.getD k default := ⟨_, rfl⟩
        obtain ⟨y, hy⟩ : ∃ y, y = d.getD (k - 1) default := ⟨_, rfl⟩
        have HLX : Hid (∀ W, (∃ n, W = wr.drewN n) → W.rangeAt b (k * 32) (encN x)) := by rintro W ⟨n, rfl⟩; have := HH.out k hlt; rw [Nat.zero_add, ← hx] at this; rw [hwr.out]; exact this
        have HLY : Hid (∀ W, (∃ n, W = wr.drewN n) → W.rangeAt b ((k - 1) * 32) (encN y)) := by rintro W ⟨n, rfl⟩; have := HH.out (k - 1) (by omega); rw [Nat.zero_add, ← hy] at this; rw [hwr.out]; exact this
        have hw1 : wrap64 ((k : Int) - 1) = ((k - 1 : Nat) : Int) := by unfold wrap64; omega
        have hb1 : k - 1 < d.length := by omega
        have heq := fun W => eql_nm x y W
        have HXI : Hid ((Tryz.prog.info? 23).map (·.size) = some (encN x).length) := by show _ = _; rw [encN_len]; exact infoN
        have HYI : Hid ((Tryz.prog.info? 23).map (·.size) = some (encN y).length) := by show _ = _; rw [encN_len]; exact infoN
        have HX := Lib.hid hx
        have HY := Lib.hid hy
        clear hx hy
        by_cases hdup : x = y
        · have hdd : decide (x = y) = true := by simp [hdup]
          rw [hdd] at heq
          clear hdd
          have HD := Lib.hid hdup
          clear hdup
          go_wp2_with fail
          refine wp_region_quiet_lit (by kernel_rfl) (by kernel_rfl) ?_
          repeat (first
            | go_big_quiet_step (fail)
            | (refine q_loadm _ _ rfl (by rfl) b (k * 32) (encN x) rfl _ Tryz.underlying23 rfl HXI.out HLX.out ?_; simp only [Act.put]; go_simp)
            | (refine q_loadm _ _ rfl (by rfl) b ((k - 1) * 32) (encN y) rfl _ Tryz.underlying23 rfl HYI.out HLY.out ?_; simp only [Act.put]; go_simp))
          refine wpQuiet_nil ?_
          intro nq
          have hst : Hid (Half w (wr.drewN nq) b d (k + 1) k) := by
            have he : d.getD k default = d.getD (k - 1) default := by rw [← HX.out, ← HY.out, HD.out]
            have hck : cptk d (k + 1) = d.take k := by rw [cptk_step d k (by omega), if_pos he, cptk_all d k (by omega) hall.out]
            rw [hwr.out]
            exact ⟨⟨d, rfl, HH.out, fun i hi => by rw [hck, List.getD_eq_getElem?_getD, List.getD_eq_getElem?_getD, List.getElem?_take_of_lt hi], fun i _ => rfl⟩, by rw [hck, List.length_take]; omega, by omega, gr_drewN (gr_drewN (gr_refl _ _) _) _, HF.out⟩
          generalize wr.drewN nq = wp at *
          go_wp2
          go_loopg [3, 5] d.length (fun g s3 s5 wr => ∃ (kk k2 : Nat), s3 = .int .i64 kk ∧ s5 = .int .i64 k2 ∧ 1 ≤ k2 ∧ k + k2 ≤ d.length ∧ d.length - (k + k2) ≤ g ∧ kk < k + k2 ∧ Hid (Half w wr b d (k + k2) kk))
          case atStart => exact ⟨k, 1, rfl, rfl, Nat.le_refl _, by omega, by omega, by omega, hst⟩
          case round =>
            obtain ⟨kk, k2, rfl, rfl, h1, hle, hg2, hkk, hI⟩ := hrel
            by_cases hlt2 : k + k2 < d.length
            · obtain ⟨u, hu⟩ : ∃ u, u = d.getD (k + k2) default := ⟨_, rfl⟩
              obtain ⟨v, hv⟩ : ∃ v, v = d.getD (k + k2 - 1) default := ⟨_, rfl⟩
              have hlu := hI.out.load (i := k + k2) (by omega) hlt2
              have hlv := hI.out.load (i := k + k2 - 1) (by omega) (by omega)
              rw [← hu, show (k + k2) * 32 = k * 32 + k2 * 32 by omega] at hlu
              rw [← hv, show (k + k2 - 1) * 32 = k * 32 + (k2 - 1) * 32 by omega] at hlv
              have HLU := Lib.hid hlu
              have HLV := Lib.hid hlv
              have hthr := hI.out.there (by omega)
              have HTH := Lib.hid hthr
              have hw2 : wrap64 ((k2 : Int) - 1) = ((k2 - 1 : Nat) : Int) := by unfold wrap64; omega
              have hb2 : k2 - 1 < d.length - k := by omega
              have hb3 : k2 < d.length - k := by omega
              have hb4 : (k2 : Int) < ((d.length - k : Nat) : Int) := by omega
              have hneq := fun W => neq_nm u v W
              have HUI : Hid ((Tryz.prog.info? 23).map (·.size) = some (encN u).length) := by show _ = _; rw [encN_len]; exact infoN
              have HVI : Hid ((Tryz.prog.info? 23).map (·.size) = some (encN v).length) := by show _ = _; rw [encN_len]; exact infoN
              have HU := Lib.hid hu
              have HV := Lib.hid hv
              clear hu hv hlu hlv hthr heq
              by_cases huv : u = v
              · have hdd : decide (u = v) = true := by simp [huv]
                rw [hdd] at hneq
                clear hdd
                have HUV := Lib.hid huv
                clear huv
                go_wp2_with fail
                refine wp_region_quiet_lit (by kernel_rfl) (by kernel_rfl) ?_
                repeat (first
                  | go_big_quiet_step (fail)
                  | (refine q_loadm _ _ rfl (by rfl) b (k * 32 + k2 * 32) (encN u) rfl _ Tryz.underlying23 rfl HUI.out HLU.out ?_; simp only [Act.put]; go_simp)
                  | (refine q_loadm _ _ rfl (by rfl) b (k * 32 + (k2 - 1) * 32) (encN v) rfl _ Tryz.underlying23 rfl HVI.out HLV.out ?_; simp only [Act.put]; go_simp))
                refine wpQuiet_nil ?_
                intro nq2
                go_wp2
                go_roundg (d.length - (k + (k2 + 1)))
                case measure => omega
                case rel =>
                  refine ⟨kk, k2 + 1, rfl, by go_num, by omega, by omega, Nat.le_refl _, by omega, Lib.hid ?_⟩
                  exact hI.out.skip (by omega) (by rw [← HU.out, ← HV.out]; exact HUV.out) nq2
              · have hdd : decide (u = v) = false := by simp [huv]
                rw [hdd] at hneq
                clear hdd
                have HUV := Lib.hid huv
                clear huv
                go_wp2_with fail
                refine wp_region_quiet_lit (by kernel_rfl) (by kernel_rfl) ?_
                repeat (first
                  | go_big_quiet_step (fail)
                  | (refine q_loadm _ _ rfl (by rfl) b (k * 32 + k2 * 32) (encN u) rfl _ Tryz.underlying23 rfl HUI.out HLU.out ?_; simp only [Act.put]; go_simp)
                  | (refine q_loadm _ _ rfl (by rfl) b (k * 32 + (k2 - 1) * 32) (encN v) rfl _ Tryz.underlying23 rfl HVI.out HLV.out ?_; simp only [Act.put]; go_simp))
                refine wpQuiet_nil ?_
                intro nq2
                go_wp2_with (first
                  | (refine wpList_load_mid rfl 23 _ rfl b (k * 32 + k2 * 32) rfl (encN u) _ (HLU.out _ ⟨nq2, rfl⟩) Tryz.underlying23 rfl HUI.out ?_)
                  | (refine wpList_store_mid rfl 23 _ _ rfl b (kk * 32) (encN u).toArray rfl rfl (by rw [encN_size]; exact HTH.out nq2) (by rw [encN_size]; exact infoN) (encN_all u) ?_))
                go_roundg (d.length - (k + (k2 + 1)))
                case measure => omega
                case rel =>
                  refine ⟨kk + 1, k2 + 1, by go_num, by go_num, by omega, by omega, Nat.le_refl _, by omega, Lib.hid ?_⟩
                  have := hI.out.keep (by omega) hlt2 (by rw [← HU.out, ← HV.out]; exact HUV.out) nq2
                  rw [← HU.out] at this
                  exact this
            · have hend : k + k2 = d.length := by omega
              have hlen := hI.out.len
              have hgone := hI.out.done (Nat.le_of_eq hend)
              obtain ⟨hr1, hr2⟩ := hI.out.rest (Nat.le_of_eq hend)
              rw [hend] at hlen hgone
              have hcl := fun ty => run_clear_cells (P := Tryz.prog) _ 24 23 ty _ Tryz.underlying24 (zero_nm _) (by
                intro v hv
                exact encN_one default v (by simpa [Value.cells] using hv)) b (kk * 32) (d.length - kk) (c - kk) (by omega) (fun j hj => hr1 j (by rw [show (Value.agg (encN default).toArray).cells.size = 32 from encN_size default] at hj; exact hj)) (fun j hj => hr2 j (by rw [show (Value.agg (encN default).toArray).cells.size = 32 from encN_size default] at hj; exact hj))
              have HG := Lib.hid (hgone (Builtin.zeroCells (Value.agg (encN default).toArray).cells (d.length - kk)).toList)
              have HLE := Lib.hid hlen
              generalize (Builtin.zeroCells (Value.agg (encN default).toArray).cells (d.length - kk)).toList = zs at *
              clear hlen hgone hr1 hr2 heq hI
              go_wp2
              go_ret
              rw [HLE.out]
              exact ⟨rfl, HG.out⟩
        · have hdd : decide (x = y) = false := by simp [hdup]
          rw [hdd] at heq
          clear hdd
          have HD := Lib.hid hdup
          clear hdup
          go_wp2_with fail
          refine wp_region_quiet_lit (by kernel_rfl) (by kernel_rfl) ?_
          repeat (first
            | go_big_quiet_step (fail)
            | (refine q_loadm _ _ rfl (by rfl) b (k * 32) (encN x) rfl _ Tryz.underlying23 rfl HXI.out HLX.out ?_; simp only [Act.put]; go_simp)
            | (refine q_loadm _ _ rfl (by rfl) b ((k - 1) * 32) (encN y) rfl _ Tryz.underlying23 rfl HYI.out HLY.out ?_; simp only [Act.put]; go_simp))
          refine wpQuiet_nil ?_
          intro nq
          go_wp2
          go_roundg (d.length - (k + 1))
          case measure => omega
          case rel =>
            refine ⟨k + 1, q + nq, by omega, by omega, Nat.le_refl _, by go_num, Lib.hid ?_, Lib.hid ?_⟩
            · rw [hwr.out, World.drewN_drewN]
            · intro i h0 h1
              by_cases e : i = k
              · subst e
                rw [← HX.out, ← HY.out]
                exact HD.out
              · exact hall.out i h0 (by omega)
      · have hk2 : k = d.length := by omega
        subst hk2
        have hc2 : cptk d d.length = d := by rw [cptk_all d d.length (Nat.le_refl _) hall.out, List.take_length]
        have HC := Lib.hid hc2
        clear hc2
        go_wp2
        go_ret
        rw [HC.out]
        refine ⟨rfl, ?_, ?_⟩
        · rw [hwr.out]
          exact gr_drewN (gr_refl _ _) _
        · rw [hwr.out]
          exact HH.out
end Go.Proofs.YtdjhkaofhdcalaaGreatDoor

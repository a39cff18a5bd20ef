/-
  Names as lists of 32 bytes; their order; lists of names that rise, each once.
-/
import Derived.Sort.LotA
import Derived.Lib.Bytealg
import Derived.Shelf.SlSortCmp.Insertion
namespace Go.Proofs.YtdjhkaofhdcalaaGreatDoor
open Go.Lib Go.Sort

structure Nm where
  l : List UInt8
  h : l.length = 32
instance : Inhabited Nm := ⟨⟨List.replicate 32 0, List.length_replicate⟩⟩
theorem Nm.same {a b : Nm} (h : a.l = b.l) : a = b := by
  cases a
  cases b
  simp only at h
  subst h
  rfl
instance : DecidableEq Nm := fun a b => if h : a.l = b.l then .isTrue (Nm.same h) else .isFalse fun e => h (by rw [e])

theorem cb_lt : ∀ a b : List UInt8, compareBytes a b < 0 ↔ a < b
  | [], [] => by simp [compareBytes]
  | [], _ :: _ => by simp [compareBytes]
  | _ :: _, [] => by simp [compareBytes]
  | a :: l, b :: m => by
    unfold compareBytes
    rw [List.cons_lt_cons_iff]
    by_cases h : a < b
    · simp [h]
    · rw [if_neg h]
      by_cases h2 : b < a
      · have hne : a ≠ b := fun e => by subst e; exact absurd h2 (UInt8.lt_irrefl _)
        simp [h2, h, hne]
      · rw [if_neg h2, cb_lt l m]
        have he : a = b := UInt8.le_antisymm (UInt8.not_lt.1 h2) (UInt8.not_lt.1 h)
        simp [he, UInt8.lt_irrefl]

/-- The order of names. -/
def cmpN (x y : Nm) : Int := compareBytes x.l y.l
def ltN (x y : Nm) : Prop := x.l < y.l
instance (x y : Nm) : Decidable (ltN x y) := inferInstanceAs (Decidable (x.l < y.l))
theorem ltOf_cmpN (x y : Nm) : ltOf cmpN x y = decide (ltN x y) := by
  exact decide_eq_decide.2 (cb_lt x.l y.l)
theorem ltN_irrefl (x : Nm) : ¬ ltN x x := List.lt_irrefl x.l
theorem ltN_trans {x y z : Nm} (h : ltN x y) (k : ltN y z) : ltN x z := List.lt_trans h k
theorem ltN_total {x y : Nm} (h : ¬ ltN x y) (k : ¬ ltN y x) : x = y := Nm.same (List.le_antisymm (List.not_lt.1 k) (List.not_lt.1 h))
theorem ltN_of_not {x y : Nm} (h : ¬ ltN x y) (k : x ≠ y) : ltN y x := Decidable.byContradiction fun g => k (ltN_total h g)
theorem swoN : SWO (ltOf cmpN) where
  irrefl x := by rw [ltOf_cmpN]; simpa using ltN_irrefl x
  trans x y z h k := by
    rw [ltOf_cmpN] at *
    simp only [decide_eq_true_eq] at *
    exact ltN_trans h k
  ntrans x y z h k := by
    rw [ltOf_cmpN] at *
    simp only [decide_eq_false_iff_not] at *
    unfold ltN at *
    rw [List.not_lt] at *
    exact List.le_trans k h

/-- Rising, each once. -/
def Rise (l : List Nm) : Prop := l.Pairwise ltN
theorem rise_uniq : ∀ {s t : List Nm}, Rise s → Rise t → (∀ x, x ∈ s ↔ x ∈ t) → s = t
  | [], [], _, _, _ => rfl
  | [], b :: t, _, _, h => by have := (h b).2 (by simp); cases this
  | a :: s, [], _, _, h => by have := (h a).1 (by simp); cases this
  | a :: s, b :: t, hs, ht, h => by
    obtain ⟨hs1, hs2⟩ := List.pairwise_cons.1 hs
    obtain ⟨ht1, ht2⟩ := List.pairwise_cons.1 ht
    have hab : a = b := by
      have h1 := (h a).1 (by simp)
      have h2 := (h b).2 (by simp)
      rw [List.mem_cons] at h1 h2
      rcases h1 with h1 | h1
      · exact h1
      · rcases h2 with h2 | h2
        · exact h2.symm
        · exact absurd (ltN_trans (hs1 b h2) (ht1 a h1)) (ltN_irrefl a)
    subst hab
    rw [rise_uniq hs2 ht2 fun x => ?_]
    constructor
    · intro hx
      have := (h x).1 (by simp [hx])
      rw [List.mem_cons] at this
      rcases this with rfl | this
      · exact absurd (hs1 _ hx) (ltN_irrefl _)
      · exact this
    · intro hx
      have := (h x).2 (by simp [hx])
      rw [List.mem_cons] at this
      rcases this with rfl | this
      · exact absurd (ht1 _ hx) (ltN_irrefl _)
      · exact this
theorem Rise.at_ {s : List Nm} (h : Rise s) {i j : Nat} (hij : i < j) (hj : j < s.length) : ltN (s.getD i default) (s.getD j default) := by
  have := List.pairwise_iff_getElem.1 h i j (by omega) hj hij
  simpa [List.getD, List.getElem?_eq_getElem hj, List.getElem?_eq_getElem (show i < s.length by omega)] using this

/-- The first m of d, those that are as the one ahead of them left out. -/
def cptk (d : List Nm) : Nat → List Nm
  | 0 => []
  | m + 1 => if m ≠ 0 ∧ d.getD m default = d.getD (m - 1) default then cptk d m else cptk d m ++ [d.getD m default]
theorem cptk_len (d : List Nm) : ∀ m, (cptk d m).length ≤ m
  | 0 => Nat.le_refl _
  | m + 1 => by
    have := cptk_len d m
    unfold cptk
    split
    · omega
    · rw [List.length_append, List.length_singleton]; omega
theorem cptk_pos (d : List Nm) : ∀ m, 0 < m → 0 < (cptk d m).length
  | 0, h => absurd h (Nat.lt_irrefl _)
  | m + 1, _ => by
    unfold cptk
    split
    · rename_i h
      exact cptk_pos d m (by omega)
    · rw [List.length_append, List.length_singleton]; omega
theorem cptk_mem (d : List Nm) : ∀ m, m ≤ d.length → ∀ x, x ∈ cptk d m ↔ x ∈ d.take m
  | 0, _, x => by simp [cptk]
  | m + 1, h, x => by
    have ih := cptk_mem d m (by omega) x
    have hm : d.getD m default = d[m]'(by omega) := by simp [List.getD, List.getElem?_eq_getElem (show m < d.length by omega)]
    rw [List.take_succ_eq_append_getElem (by omega), List.mem_append, List.mem_singleton, ← hm]
    unfold cptk
    split
    · rename_i hh
      rw [ih]
      constructor
      · exact .inl
      · rintro (h1 | rfl)
        · exact h1
        · rw [hh.2]
          have h1 : m - 1 < (d.take m).length := by rw [List.length_take]; omega
          have : d.getD (m - 1) default = (d.take m)[m - 1] := by
            rw [List.getElem_take]
            simp [List.getD, List.getElem?_eq_getElem (show m - 1 < d.length by omega)]
          rw [this]
          exact List.getElem_mem h1
    · rw [List.mem_append, List.mem_singleton, ih]
/-- In order: none is less than one ahead of it. -/
def Ord (d : List Nm) : Prop := ∀ i j, i < j → j < d.length → ¬ ltN (d.getD j default) (d.getD i default)
theorem cptk_rise (d : List Nm) (hd : Ord d) : ∀ m, m ≤ d.length → Rise (cptk d m) ∧ (m ≠ 0 → (cptk d m).getLast? = some (d.getD (m - 1) default))
  | 0, _ => ⟨List.Pairwise.nil, fun h => absurd rfl h⟩
  | m + 1, h => by
    obtain ⟨h1, h2⟩ := cptk_rise d hd m (by omega)
    unfold cptk
    split
    · rename_i hh
      exact ⟨h1, fun _ => by rw [h2 hh.1, Nat.add_sub_cancel, hh.2]⟩
    · rename_i hh
      refine ⟨List.pairwise_append.2 ⟨h1, List.pairwise_singleton _ _, fun a ha b hb => ?_⟩, fun _ => by rw [List.getLast?_append, Nat.add_sub_cancel]; rfl⟩
      rw [List.mem_singleton] at hb
      subst hb
      have hm0 : m ≠ 0 := by
        rintro rfl
        simp [cptk] at ha
      have hne : d.getD m default ≠ d.getD (m - 1) default := fun e => hh ⟨hm0, e⟩
      have hlast := h2 hm0
      have hlt : ltN (d.getD (m - 1) default) (d.getD m default) := ltN_of_not (hd (m - 1) m (by omega) (by omega)) hne
      by_cases hal : a = d.getD (m - 1) default
      · rw [hal]; exact hlt
      · have hne2 : cptk d m ≠ [] := fun e => by rw [e] at ha; cases ha
        have hcat := List.dropLast_concat_getLast hne2
        have hgl : (cptk d m).getLast hne2 = d.getD (m - 1) default := by
          rw [List.getLast?_eq_some_getLast hne2] at hlast
          exact Option.some.inj hlast
        rw [← hcat, hgl] at ha h1
        rw [List.mem_append, List.mem_singleton] at ha
        rcases ha with ha | ha
        · exact ltN_trans ((List.pairwise_append.1 h1).2.2 a ha _ (by simp)) hlt
        · exact absurd ha hal
/-- Where no two beside one another are alike, all are there. -/
theorem cptk_all (d : List Nm) : ∀ m, m ≤ d.length → (∀ i, 0 < i → i < m → d.getD i default ≠ d.getD (i - 1) default) → cptk d m = d.take m
  | 0, _, _ => by simp [cptk]
  | m + 1, h, hh => by
    have ih := cptk_all d m (by omega) fun i h0 h1 => hh i h0 (by omega)
    unfold cptk
    rw [if_neg (fun e => hh m (by omega) (by omega) e.2), ih, List.take_succ_eq_append_getElem (by omega)]
    simp [List.getD, List.getElem?_eq_getElem (show m < d.length by omega)]
theorem cptk_step (d : List Nm) (m : Nat) (hm : 0 < m) : cptk d (m + 1) = if d.getD m default = d.getD (m - 1) default then cptk d m else cptk d m ++ [d.getD m default] := by
  rw [cptk]
  by_cases h : d.getD m default = d.getD (m - 1) default
  · rw [if_pos ⟨by omega, h⟩, if_pos h]
  · rw [if_neg (fun e => h e.2), if_neg h]
theorem rise_ins {s : List Nm} {x : Nm} {k : Nat} (hs : Rise s) (hk : k ≤ s.length) (h1 : ∀ i, i < k → ltN (s.getD i default) x) (h2 : k < s.length → ltN x (s.getD k default)) :
    Rise (s.take k ++ x :: s.drop k) := by
  have ht : ∀ y ∈ s.take k, ltN y x := by
    intro y hy
    obtain ⟨i, hi, rfl⟩ := List.mem_iff_getElem.1 hy
    rw [List.length_take] at hi
    have := h1 i (by omega)
    rw [List.getElem_take]
    simpa [List.getD, List.getElem?_eq_getElem (show i < s.length by omega)] using this
  have hd : ∀ y ∈ s.drop k, ltN x y := by
    intro y hy
    obtain ⟨i, hi, rfl⟩ := List.mem_iff_getElem.1 hy
    rw [List.length_drop] at hi
    have hk2 := h2 (by omega)
    rw [List.getElem_drop]
    rcases Nat.eq_zero_or_pos i with rfl | hpos
    · simpa [List.getD, List.getElem?_eq_getElem (show k < s.length by omega)] using hk2
    · have := hs.at_ (show k < k + i by omega) (show k + i < s.length by omega)
      have := ltN_trans hk2 this
      simpa [List.getD, List.getElem?_eq_getElem (show k + i < s.length by omega)] using this
  refine List.pairwise_append.2 ⟨List.Pairwise.sublist (List.take_sublist _ _) hs, List.pairwise_cons.2 ⟨hd, List.Pairwise.sublist (List.drop_sublist _ _) hs⟩, fun a ha b hb => ?_⟩
  rw [List.mem_cons] at hb
  rcases hb with rfl | hb
  · exact ht a ha
  · exact ltN_trans (ht a ha) (hd b hb)
theorem mem_ins (s : List Nm) (x : Nm) (k : Nat) (y : Nm) : y ∈ s.take k ++ x :: s.drop k ↔ y ∈ s ∨ y = x := by
  rw [List.mem_append, List.mem_cons]
  constructor
  · rintro (h | h | h)
    · exact .inl (List.mem_of_mem_take h)
    · exact .inr h
    · exact .inl (List.mem_of_mem_drop h)
  · rintro (h | h)
    · rw [← List.take_append_drop k s, List.mem_append] at h
      rcases h with h | h
      · exact .inl h
      · exact .inr (.inr h)
    · exact .inr (.inl h)
end Go.Proofs.YtdjhkaofhdcalaaGreatDoor

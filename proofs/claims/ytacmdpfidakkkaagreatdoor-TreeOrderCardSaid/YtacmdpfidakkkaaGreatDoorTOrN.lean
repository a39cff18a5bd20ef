/-
  TreeOrder: the plain part: entries that rise, one put among them, two of them turned about.
-/
import Derived.Test.YtacmdpfidakkkaaGreatDoorMgg
namespace Go.Proofs.YtacmdpfidakkkaaGreatDoor

abbrev bl (x y : List UInt8) : Bool := Op.bytesLess x y
theorem bl_irr : ∀ x : List UInt8, bl x x = false
  | [] => rfl
  | a :: x => by
    have ih := bl_irr x
    show (decide (a < a) || (a == a && Op.bytesLess x x)) = false
    rw [show Op.bytesLess x x = false from ih]
    simp
theorem bl_trans : ∀ {x y z : List UInt8}, bl x y = true → bl y z = true → bl x z = true
  | x, [], z, h, _ => by cases x <;> cases h
  | x, b :: y, [], _, h => by cases h
  | [], b :: y, c :: z, _, _ => rfl
  | a :: x, b :: y, c :: z, h1, h2 => by
    have h1' : (decide (a < b) || (a == b && Op.bytesLess x y)) = true := h1
    have h2' : (decide (b < c) || (b == c && Op.bytesLess y z)) = true := h2
    show (decide (a < c) || (a == c && Op.bytesLess x z)) = true
    simp only [Bool.or_eq_true, Bool.and_eq_true, decide_eq_true_eq, beq_iff_eq] at *
    clear h1 h2
    rcases h1' with h3 | ⟨e3, h3⟩
    · rcases h2' with h4 | ⟨e4, h4⟩
      · exact .inl (UInt8.lt_trans h3 h4)
      · exact .inl (e4 ▸ h3)
    · rcases h2' with h4 | ⟨e4, h4⟩
      · exact .inl (e3 ▸ h4)
      · exact .inr ⟨e3.trans e4, bl_trans h3 h4⟩
theorem bl_tri : ∀ {x y : List UInt8}, bl x y = false → x ≠ y → bl y x = true
  | [], [], _, h => absurd rfl h
  | [], b :: y, h, _ => by cases h
  | a :: x, [], _, _ => rfl
  | a :: x, b :: y, h, hne => by
    have h' : (decide (a < b) || (a == b && Op.bytesLess x y)) = false := h
    show (decide (b < a) || (b == a && Op.bytesLess y x)) = true
    simp only [Bool.or_eq_false_iff, Bool.and_eq_false_iff, decide_eq_false_iff_not, beq_eq_false_iff_ne] at h'
    simp only [Bool.or_eq_true, Bool.and_eq_true, decide_eq_true_eq, beq_iff_eq]
    obtain ⟨h1, h2⟩ := h'
    by_cases hab : a = b
    · subst hab
      rcases h2 with h2 | h2
      · exact absurd rfl h2
      · exact .inr ⟨rfl, bl_tri h2 (fun e => hne (by rw [e]))⟩
    · refine .inl ?_
      rcases Nat.lt_trichotomy a.toNat b.toNat with h3 | h3 | h3
      · exact absurd (UInt8.lt_iff_toNat_lt.2 h3) h1
      · exact absurd (UInt8.toNat_inj.1 h3) hab
      · exact UInt8.lt_iff_toNat_lt.2 h3
/-- Entries that rise, with names that may be. -/
def Up (l : List En) : Prop := l.Pairwise (fun x y => bl x.name y.name = true) ∧ ∀ x ∈ l, okName x.name = true
theorem getD_at (l : List En) (i : Nat) (h : i < l.length) : l.getD i default = l[i] := by simp [List.getD, List.getElem?_eq_getElem h]
theorem up_rises {l : List En} (h : Up l) : risesTo l l.length = true := by
  unfold risesTo
  rw [List.all_eq_true]
  intro j hj
  rw [List.mem_range] at hj
  unfold okAt
  rw [getD_at l j hj, h.2 _ (List.getElem_mem hj), Bool.true_and]
  by_cases h0 : j = 0
  · simp [h0]
  · rw [getD_at l (j - 1) (by omega)]
    have := List.pairwise_iff_getElem.1 h.1 (j - 1) j (by omega) hj (by omega)
    rw [show Op.bytesLess l[j - 1].name l[j].name = true from this]
    simp
theorem rises_up {l : List En} (h : risesTo l l.length = true) : Up l := by
  have hat := fun j (hj : j < l.length) => risesTo_at l h hj
  refine ⟨?_, ?_⟩
  · rw [List.pairwise_iff_getElem]
    have key : ∀ d i (hi : i + d + 1 < l.length), bl (l[i]'(by omega)).name (l[i + d + 1]'hi).name = true := by
      intro d
      induction d with
      | zero =>
        intro i hi
        have := hat (i + 1) (by omega)
        unfold okAt at this
        rw [Bool.and_eq_true, show decide (i + 1 = 0) = false by simp, Bool.false_or, getD_at l _ (by omega), getD_at l _ (by omega)] at this
        exact this.2
      | succ d ih =>
        intro i hi
        have h1 := ih i (by omega)
        have := hat (i + d + 2) (by omega)
        unfold okAt at this
        rw [Bool.and_eq_true, show decide (i + d + 2 = 0) = false by simp, Bool.false_or, getD_at l _ (by omega), getD_at l _ (by omega)] at this
        exact bl_trans h1 this.2
    intro i j hi hj hij
    have := key (j - i - 1) i (by omega)
    have e : i + (j - i - 1) + 1 = j := by omega
    simp only [e] at this
    exact this
  · intro x hx
    obtain ⟨j, hj, rfl⟩ := List.mem_iff_getElem.1 hx
    have := hat j hj
    unfold okAt at this
    rw [Bool.and_eq_true, getD_at l j hj] at this
    exact this.1
theorem up_put {l : List En} {e : En} {a : Nat} (h : Up l) (ha : a ≤ l.length) (h1 : ∀ j, j < a → bl (l.getD j default).name e.name = true) (h2 : a < l.length → bl (l.getD a default).name e.name = false) (h3 : okName e.name = true) (h4 : a < l.length → (l.getD a default).name ≠ e.name) :
    Up (l.take a ++ [e] ++ l.drop a) := by
  have hlt : ∀ x ∈ l.take a, bl x.name e.name = true := by
    intro x hx
    obtain ⟨j, hj, rfl⟩ := List.mem_iff_getElem.1 hx
    rw [List.length_take] at hj
    rw [List.getElem_take, ← getD_at l j (by omega)]
    exact h1 j (by omega)
  have hgt : ∀ x ∈ l.drop a, bl e.name x.name = true := by
    intro x hx
    obtain ⟨j, hj, rfl⟩ := List.mem_iff_getElem.1 hx
    rw [List.length_drop] at hj
    rw [List.getElem_drop]
    have hb := bl_tri (h2 (by omega)) (h4 (by omega))
    rw [getD_at l a (by omega)] at hb
    cases j with
    | zero => exact hb
    | succ j => exact bl_trans hb (List.pairwise_iff_getElem.1 h.1 a (a + (j + 1)) (by omega) (by omega) (by omega))
  have hp := h.1
  rw [← List.take_append_drop a l, List.pairwise_append] at hp
  refine ⟨?_, fun x hx => ?_⟩
  · rw [List.pairwise_append, List.pairwise_append]
    refine ⟨⟨hp.1, by simp, fun x hx y hy => ?_⟩, hp.2.1, fun x hx y hy => ?_⟩
    · rw [List.mem_singleton] at hy
      subst hy
      exact hlt x hx
    · rw [List.mem_append, List.mem_singleton] at hx
      rcases hx with hx | rfl
      · exact hp.2.2 x hx y hy
      · exact hgt y hy
  · rw [List.mem_append, List.mem_append, List.mem_singleton] at hx
    rcases hx with (hx | rfl) | hx
    · exact h.2 x (List.mem_of_mem_take hx)
    · exact h3
    · exact h.2 x (List.mem_of_mem_drop hx)
/-- Two of them turned about. -/
def swapE (l : List En) (i k : Nat) : List En := (l.set i (l.getD k default)).set k (l.getD i default)
theorem swap_same (l : List En) (i : Nat) (h : i < l.length) : swapE l i i = l := by
  unfold swapE
  rw [getD_at l i h, List.set_set, List.set_getElem_self]
theorem swap_not {l : List En} {i k : Nat} (h : Up l) (hi : i < l.length) (hk : k < l.length) (hne : i ≠ k) : risesTo (swapE l i k) (swapE l i k).length = false := by
  cases hr : risesTo (swapE l i k) (swapE l i k).length with
  | false => rfl
  | true =>
    exfalso
    have hu := (rises_up hr).1
    have hl : (swapE l i k).length = l.length := by simp [swapE]
    have ei : (swapE l i k)[i]'(by omega) = l[k] := by
      unfold swapE
      rw [List.getElem_set_ne (by omega), List.getElem_set_self, getD_at l k hk]
    have ek : (swapE l i k)[k]'(by omega) = l[i] := by
      unfold swapE
      rw [List.getElem_set_self, getD_at l i hi]
    rcases Nat.lt_or_gt_of_ne hne with hlt | hlt
    · have h1 := List.pairwise_iff_getElem.1 hu i k (by omega) (by omega) hlt
      have h2 := List.pairwise_iff_getElem.1 h.1 i k hi hk hlt
      rw [ei, ek] at h1
      have := bl_trans h1 h2
      rw [bl_irr] at this
      cases this
    · have h1 := List.pairwise_iff_getElem.1 hu k i (by omega) (by omega) hlt
      have h2 := List.pairwise_iff_getElem.1 h.1 k i hk hi hlt
      rw [ei, ek] at h1
      have := bl_trans h1 h2
      rw [bl_irr] at this
      cases this
theorem up_may {l : List En} (h : Up l) (hl : l.length ≤ 20) : mayT l = true := by
  unfold mayT
  rw [up_rises h, decide_eq_true hl]
  rfl
theorem swap_may {l : List En} {i k : Nat} (h : Up l) (hl : l.length ≤ 20) (hi : i < l.length) (hk : k < l.length) : mayT (swapE l i k) = decide (i = k) := by
  by_cases hik : i = k
  · subst hik
    rw [swap_same l i hi, up_may h hl]
    simp
  · unfold mayT
    rw [swap_not h hi hk hik, Bool.and_false, decide_eq_false hik]
end Go.Proofs.YtacmdpfidakkkaaGreatDoor

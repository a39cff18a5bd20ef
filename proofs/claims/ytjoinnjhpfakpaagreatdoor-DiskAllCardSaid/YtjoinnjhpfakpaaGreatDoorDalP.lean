/-
  Files in order: names that rise; where the search ends; what is done keeps the order.
-/
import Derived.Test.YtjoinnjhpfakpaaGreatDoorDskM
namespace Go.Proofs.YtjoinnjhpfakpaaGreatDoor
open Go.RowKit

def lt2 (a b : List UInt8) : Prop := Lib.compareBytes a b < 0
instance (a b : List UInt8) : Decidable (lt2 a b) := inferInstanceAs (Decidable (_ < _))
theorem cmp_zero : ∀ a b : List UInt8, Lib.compareBytes a b = 0 ↔ a = b
  | [], [] => by simp [Lib.compareBytes]
  | [], _ :: _ => by simp [Lib.compareBytes]
  | _ :: _, [] => by simp [Lib.compareBytes]
  | a :: x, b :: y => by
    unfold Lib.compareBytes
    have ih := cmp_zero x y
    by_cases h1 : a < b
    · rw [if_pos h1]
      constructor
      · intro h; cases h
      · intro h
        injection h with h2
        subst h2
        exact absurd h1 (UInt8.lt_irrefl _)
    · rw [if_neg h1]
      by_cases h2 : b < a
      · rw [if_pos h2]
        constructor
        · intro h; cases h
        · intro h
          injection h with h3
          subst h3
          exact absurd h2 (UInt8.lt_irrefl _)
      · rw [if_neg h2, ih]
        have e : a = b := by
          apply UInt8.toNat_inj.1
          have h1' : ¬ a.toNat < b.toNat := fun h => h1 (UInt8.lt_iff_toNat_lt.2 h)
          have h2' : ¬ b.toNat < a.toNat := fun h => h2 (UInt8.lt_iff_toNat_lt.2 h)
          omega
        subst e
        simp
theorem lt2_irr (a : List UInt8) : ¬ lt2 a a := by
  unfold lt2
  rw [(cmp_zero a a).2 rfl]
  omega
theorem u8_or (a b : UInt8) : a < b ∨ a = b ∨ b < a := by
  have tr : ∀ {p q : UInt8}, p < q ↔ p.toNat < q.toNat := UInt8.lt_iff_toNat_lt
  rcases Nat.lt_trichotomy a.toNat b.toNat with h | h | h
  · exact .inl (tr.2 h)
  · exact .inr (.inl (UInt8.toNat_inj.1 h))
  · exact .inr (.inr (tr.2 h))
theorem lt2_cons (a b : UInt8) (x y : List UInt8) : lt2 (a :: x) (b :: y) ↔ a < b ∨ a = b ∧ lt2 x y := by
  unfold lt2
  rw [show Lib.compareBytes (a :: x) (b :: y) = if a < b then -1 else if b < a then 1 else Lib.compareBytes x y from rfl]
  by_cases h1 : a < b
  · simp [h1]
  · rw [if_neg h1]
    by_cases h2 : b < a
    · rw [if_pos h2]
      have hne : ¬ a = b := by
        rintro rfl
        exact UInt8.lt_irrefl _ h2
      simp [h1, hne]
    · rw [if_neg h2]
      have e : a = b := by rcases u8_or a b with h | h | h; exact absurd h h1; exact h; exact absurd h h2
      simp [e]
theorem lt2_trans : ∀ {a b c : List UInt8}, lt2 a b → lt2 b c → lt2 a c
  | [], [], _, h, _ => absurd h (lt2_irr _)
  | [], _ :: _, [], _, h => by simp [lt2, Lib.compareBytes] at h
  | [], _ :: _, _ :: _, _, _ => by simp [lt2, Lib.compareBytes]
  | _ :: _, [], _, h, _ => by simp [lt2, Lib.compareBytes] at h
  | _ :: _, _ :: _, [], _, h => by simp [lt2, Lib.compareBytes] at h
  | a :: x, b :: y, c :: z, h1, h2 => by
    have ih := @lt2_trans x y z
    rw [lt2_cons] at h1 h2 ⊢
    have tr : ∀ {p q : UInt8}, p < q ↔ p.toNat < q.toNat := UInt8.lt_iff_toNat_lt
    rcases h1 with h1 | ⟨rfl, h1⟩
    · rcases h2 with h2 | ⟨rfl, h2⟩
      · exact .inl (tr.2 (Nat.lt_trans (tr.1 h1) (tr.1 h2)))
      · exact .inl h1
    · rcases h2 with h2 | ⟨rfl, h2⟩
      · exact .inl h2
      · exact .inr ⟨rfl, ih h1 h2⟩
theorem lt2_or : ∀ a b : List UInt8, lt2 a b ∨ a = b ∨ lt2 b a
  | [], [] => .inr (.inl rfl)
  | [], _ :: _ => .inl (by simp [lt2, Lib.compareBytes])
  | _ :: _, [] => .inr (.inr (by simp [lt2, Lib.compareBytes]))
  | a :: x, b :: y => by
    have ih := lt2_or x y
    rw [lt2_cons, lt2_cons]
    rcases u8_or a b with h | rfl | h
    · exact .inl (.inl h)
    · rcases ih with h | h | h
      · exact .inl (.inr ⟨rfl, h⟩)
      · exact .inr (.inl (by rw [h]))
      · exact .inr (.inr (.inr ⟨rfl, h⟩))
    · exact .inr (.inr (.inl h))
theorem less_lt2 : ∀ a b : List UInt8, Op.bytesLess a b = decide (lt2 a b)
  | [], [] => (decide_eq_false (lt2_irr _)).symm
  | _ :: _, [] => (decide_eq_false (by simp [lt2, Lib.compareBytes])).symm
  | [], _ :: _ => (decide_eq_true (by simp [lt2, Lib.compareBytes])).symm
  | a :: x, b :: y => by
    have ih := less_lt2 x y
    unfold Op.bytesLess
    rw [ih]
    by_cases h : lt2 (a :: x) (b :: y)
    · rw [decide_eq_true h]
      rw [lt2_cons] at h
      rcases h with h | ⟨rfl, h⟩
      · simp [h]
      · simp [h]
    · rw [decide_eq_false h]
      rw [lt2_cons] at h
      by_cases h1 : a < b
      · exact absurd (.inl h1) h
      · by_cases h2 : a = b
        · have h3 : ¬ lt2 x y := fun h3 => h (.inr ⟨h2, h3⟩)
          simp [h1, h3]
        · simp [h1, h2]

/-! ### Names that rise -/
def Rises (fs : List Fl) : Prop := fs.Pairwise fun x y => lt2 x.1 y.1
theorem Rises.at_ {fs : List Fl} (h : Rises fs) {i j : Nat} (hij : i < j) (hj : j < fs.length) : lt2 (fs.getD i noF).1 (fs.getD j noF).1 := by
  have := List.pairwise_iff_getElem.1 h i j (by omega) hj hij
  rw [List.getD_eq_getElem?_getD, List.getD_eq_getElem?_getD, List.getElem?_eq_getElem (by omega), List.getElem?_eq_getElem hj]
  exact this
/-- All ahead of p are less, none from p on is. -/
def Split (fs : List Fl) (nm : List UInt8) (p : Nat) : Prop := p ≤ fs.length ∧ (∀ k, k < p → lt2 (fs.getD k noF).1 nm) ∧ ∀ k, p ≤ k → k < fs.length → ¬ lt2 (fs.getD k noF).1 nm
theorem bsG_split {fs : List Fl} (h : Rises fs) (nm : List UInt8) : ∀ f i j, i ≤ j → j ≤ fs.length → j - i < f → (∀ k, k < i → lt2 (fs.getD k noF).1 nm) → (∀ k, j ≤ k → k < fs.length → ¬ lt2 (fs.getD k noF).1 nm) → Split fs nm (bsG fs nm f i j)
  | 0, i, j, _, _, hf, _, _ => by omega
  | f + 1, i, j, hij, hj, hf, h1, h2 => by
    unfold bsG
    by_cases hlt : i < j
    · rw [if_pos hlt]
      by_cases hc : Lib.compareBytes (fs.getD ((i + j) / 2) noF).1 nm < 0
      · rw [if_pos hc]
        refine bsG_split h nm f _ _ (by omega) hj (by omega) (fun k hk => ?_) h2
        rcases Nat.lt_or_ge k ((i + j) / 2) with hk' | hk'
        · exact lt2_trans (h.at_ hk' (by omega)) hc
        · obtain rfl : k = (i + j) / 2 := by omega
          exact hc
      · rw [if_neg hc]
        refine bsG_split h nm f _ _ (by omega) (by omega) (by omega) h1 (fun k hk hl hlt' => ?_)
        rcases Nat.lt_or_ge ((i + j) / 2) k with hk' | hk'
        · exact hc (lt2_trans (h.at_ hk' hl) hlt')
        · obtain rfl : k = (i + j) / 2 := by omega
          exact hc hlt'
    · rw [if_neg hlt]
      obtain rfl : i = j := by omega
      exact ⟨hj, h1, h2⟩
theorem bsW_split {fs : List Fl} (h : Rises fs) (nm : List UInt8) : Split fs nm (bsW fs nm) :=
  bsG_split h nm _ _ _ (Nat.zero_le _) (Nat.le_refl _) (by omega) (fun k hk => absurd hk (Nat.not_lt_zero _)) (fun k hk hl => by omega)
theorem bsF_iff (fs : List Fl) (nm : List UInt8) : bsF fs nm = true ↔ bsW fs nm < fs.length ∧ (fs.getD (bsW fs nm) noF).1 = nm := by
  unfold bsF
  rw [decide_eq_true_iff, cmp_zero]
theorem mem_take {fs : List Fl} {p : Nat} {x : Fl} (h : x ∈ fs.take p) : ∃ k, k < p ∧ k < fs.length ∧ fs.getD k noF = x := by
  obtain ⟨k, hk, rfl⟩ := List.mem_iff_getElem.1 h
  rw [List.length_take] at hk
  refine ⟨k, by omega, by omega, ?_⟩
  rw [List.getElem_take, List.getD_eq_getElem?_getD, List.getElem?_eq_getElem (by omega)]
  rfl
theorem mem_drop {fs : List Fl} {p : Nat} {x : Fl} (h : x ∈ fs.drop p) : ∃ k, p ≤ k ∧ k < fs.length ∧ fs.getD k noF = x := by
  obtain ⟨k, hk, rfl⟩ := List.mem_iff_getElem.1 h
  rw [List.length_drop] at hk
  refine ⟨p + k, by omega, by omega, ?_⟩
  rw [List.getElem_drop, List.getD_eq_getElem?_getD, List.getElem?_eq_getElem (by omega)]
  rfl
theorem rises_put {fs : List Fl} (h : Rises fs) (nm tx : List UInt8) (p q : Nat) (hpq : p ≤ q) (h1 : ∀ k, k < p → k < fs.length → lt2 (fs.getD k noF).1 nm) (h2 : ∀ k, q ≤ k → k < fs.length → lt2 nm (fs.getD k noF).1) : Rises (fs.take p ++ [(nm, tx)] ++ fs.drop q) := by
  have ht : Rises (fs.take p) := h.sublist (List.take_sublist _ _)
  have hd : Rises (fs.drop q) := h.sublist (List.drop_sublist _ _)
  refine List.pairwise_append.2 ⟨List.pairwise_append.2 ⟨ht, List.pairwise_singleton _ _, fun a ha b hb => ?_⟩, hd, fun a ha b hb => ?_⟩
  · obtain ⟨k, hk, hl, rfl⟩ := mem_take ha
    obtain rfl : b = (nm, tx) := by simpa using hb
    exact h1 k hk hl
  · obtain ⟨j, hj, hl, rfl⟩ := mem_drop hb
    rcases List.mem_append.1 ha with ha | ha
    · obtain ⟨k, hk, hl', rfl⟩ := mem_take ha
      exact h.at_ (by omega) hl
    · obtain rfl : a = (nm, tx) := by simpa using ha
      exact h2 j hj hl
theorem rises_wr {fs : List Fl} (h : Rises fs) (nm tx : List UInt8) (hr : (wrF fs nm tx).1 = 0) : Rises (wrF fs nm tx).2 := by
  obtain ⟨hp, h1, h2⟩ := bsW_split h nm
  unfold wrF at hr ⊢
  split
  · next h0 => rw [if_pos h0] at hr; cases hr
  · next h0 =>
    rw [if_neg h0] at hr
    split
    · next hb =>
      obtain ⟨hlt, he⟩ := (bsF_iff fs nm).1 hb
      refine rises_put h nm tx _ _ (by omega) (fun k hk _ => h1 k hk) (fun k hk hl => ?_)
      have := h.at_ (show bsW fs nm < k by omega) hl
      rw [he] at this
      exact this
    · next hb =>
      rw [if_neg hb] at hr
      split
      · next hf => rw [if_pos hf] at hr; cases hr
      · refine rises_put h nm tx _ _ (Nat.le_refl _) (fun k hk _ => h1 k hk) (fun k hk hl => ?_)
        rcases lt2_or (fs.getD k noF).1 nm with h3 | h3 | h3
        · exact absurd h3 (h2 k hk hl)
        · rcases Nat.lt_or_ge (bsW fs nm) k with h4 | h4
          · have h5 := h.at_ h4 hl
            rw [h3] at h5
            exact absurd h5 (h2 _ (Nat.le_refl _) (by omega))
          · obtain rfl : k = bsW fs nm := by omega
            exact absurd ((bsF_iff fs nm).2 ⟨hl, h3⟩) hb
        · exact h3
theorem rises_rm {fs : List Fl} (h : Rises fs) (nm : List UInt8) (hr : (rmF fs nm).1 = 0) : Rises (rmF fs nm).2 := by
  unfold rmF at hr ⊢
  split
  · refine List.pairwise_append.2 ⟨h.sublist (List.take_sublist _ _), h.sublist (List.drop_sublist _ _), fun a ha b hb => ?_⟩
    obtain ⟨k, hk, hl, rfl⟩ := mem_take ha
    obtain ⟨j, hj, hl', rfl⟩ := mem_drop hb
    exact h.at_ (by omega) hl'
  · next hb => rw [if_neg hb] at hr; cases hr
theorem rises_run {fs : List Fl} (h : Rises fs) (x : Ch) (hr : (x.run fs).1 = 0) : Rises (x.run fs).2 := by
  cases x with
  | wr a b => exact rises_wr h a b hr
  | mv a b =>
    change (mvF fs a b).1 = 0 at hr
    show Rises (mvF fs a b).2
    unfold mvF at hr ⊢
    split
    · next hb =>
      rw [if_pos hb] at hr
      exact rises_wr (rises_rm h a (by unfold rmF; rw [if_pos hb])) _ _ hr
    · next hb => rw [if_neg hb] at hr; cases hr
  | rm a => exact rises_rm h a hr
  | sy => exact h

/-! ### What the document's disk does to files -/
def rdW (a b : List UInt8) (fs : List Fl) : List Fl := if bsF fs a = true then fs.take (bsW fs a) ++ [(a, b)] ++ fs.drop (bsW fs a + 1) else if 100 ≤ fs.length then fs else fs.take (bsW fs a) ++ [(a, b)] ++ fs.drop (bsW fs a)
def rdone : Ch → List Fl → List Fl
  | .wr a b, fs => rdW a b fs
  | .mv a b, fs => if bsF fs a = true then rdW b (fs.getD (bsW fs a) noF).2 (fs.take (bsW fs a) ++ fs.drop (bsW fs a + 1)) else fs
  | .rm a, fs => if bsF fs a = true then fs.take (bsW fs a) ++ fs.drop (bsW fs a + 1) else fs
  | .sy, fs => fs
/-- Changes that were found right when they were done. -/
def okC : Ch → Prop
  | .wr a _ => a ≠ [] ∧ a.length ≤ 100
  | .mv _ b => b ≠ [] ∧ b.length ≤ 100
  | .rm _ => True
  | .sy => False
theorem wr_done (fs : List Fl) (a b : List UInt8) (h : a ≠ [] ∧ a.length ≤ 100) : (if (wrF fs a b).1 = 0 then (wrF fs a b).2 else fs) = rdW a b fs ∧ ((wrF fs a b).1 = 0 ∨ bsF fs a = false ∧ 100 ≤ fs.length) := by
  have h0 : ¬ (a = [] ∨ 100 < a.length) := by rintro (h1 | h1); exact h.1 h1; omega
  unfold wrF rdW
  simp only [if_neg h0]
  by_cases hb : bsF fs a = true
  · simp [hb]
  · by_cases hf : 100 ≤ fs.length
    · simp [hb, hf]
    · simp [hb, hf]
theorem run_done (fs : List Fl) (x : Ch) (hx : okC x) (hl : fs.length ≤ 100) : (if (x.run fs).1 = 0 then (x.run fs).2 else fs) = rdone x fs := by
  cases x with
  | wr a b => exact (wr_done fs a b hx).1
  | mv a b =>
    show (if (mvF fs a b).1 = 0 then (mvF fs a b).2 else fs) = _
    unfold mvF
    by_cases hb : bsF fs a = true
    · have hlt := bsF_lt hb
      have hrm : (rmF fs a).2 = fs.take (bsW fs a) ++ fs.drop (bsW fs a + 1) := by simp only [rmF, if_pos hb]
      simp only [if_pos hb, hrm, rdone]
      obtain ⟨h1, h2⟩ := wr_done (fs.take (bsW fs a) ++ fs.drop (bsW fs a + 1)) b (fs.getD (bsW fs a) noF).2 hx
      rcases h2 with h2 | ⟨-, h2⟩
      · rw [if_pos h2] at h1 ⊢
        exact h1
      · rw [List.length_append, List.length_take, List.length_drop] at h2
        omega
    · simp [hb, rdone]
  | rm a =>
    show (if (rmF fs a).1 = 0 then (rmF fs a).2 else fs) = _
    unfold rmF rdone
    by_cases hb : bsF fs a = true
    · simp [hb]
    · simp [hb]
  | sy => rfl
end Go.Proofs.YtjoinnjhpfakpaaGreatDoor

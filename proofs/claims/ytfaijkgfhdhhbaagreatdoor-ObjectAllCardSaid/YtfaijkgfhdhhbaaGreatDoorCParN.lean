/-
  CommitParents: the plain part: names that are sorted, each once, are fewer just if two were alike; append of names as a step.
-/
import Derived.Test.YtfaijkgfhdhhbaaGreatDoorMgi
import Derived.Test.YtfaijkgfhdhhbaaGreatDoorMgo
import Derived.Test.YtfaijkgfhdhhbaaGreatDoorMgr
import Derived.Test.YtfaijkgfhdhhbaaGreatDoorMgg
namespace Go.Proofs.YtfaijkgfhdhhbaaGreatDoor
open Go.RowKit

theorem rise_nodup {s : List Nm} (h : Rise s) : s.Nodup := List.Pairwise.imp (fun {a b} hab e => by subst e; exact ltN_irrefl _ hab) h
theorem nodup_len : ∀ {s l : List Nm}, s.Nodup → (∀ x ∈ s, x ∈ l) → s.length ≤ l.length
  | [], _, _, _ => Nat.zero_le _
  | a :: s, l, hd, hs => by
    obtain ⟨h1, h2⟩ := List.nodup_cons.1 hd
    have ha := hs a (by simp)
    have ih := nodup_len (s := s) (l := l.erase a) h2 (fun x hx => by
      have hne : x ≠ a := fun e => h1 (e ▸ hx)
      exact (List.mem_erase_of_ne hne).2 (hs x (by simp [hx])))
    have hl := List.length_erase_of_mem ha
    have hp : 0 < l.length := List.length_pos_of_mem ha
    rw [List.length_cons]
    omega
theorem distN_nodup (ids : List Nm) : ∀ k, k ≤ ids.length → distN ids k = true → (ids.take k).Nodup
  | 0, _, _ => by simp
  | k + 1, hk, h => by
    rw [distN_succ, Bool.and_eq_true] at h
    have ih := distN_nodup ids k (by omega) h.1
    have hn := h.2
    unfold newAt at hn
    simp only [Bool.not_eq_true', decide_eq_false_iff_not] at hn
    rw [List.take_succ_eq_append_getElem (show k < ids.length by omega)]
    have e : ids.getD k default = ids[k] := by simp [List.getD, List.getElem?_eq_getElem (show k < ids.length by omega)]
    rw [e] at hn
    rw [List.nodup_append]
    refine ⟨ih, by simp, fun a ha b hb => ?_⟩
    simp only [List.mem_singleton] at hb
    subst hb
    intro e2
    subst e2
    exact hn ha
theorem distN_false (ids : List Nm) : ∀ k, k ≤ ids.length → distN ids k = false → ∃ i, i < k ∧ ids.getD i default ∈ ids.take i
  | 0, _, h => by cases h
  | k + 1, hk, h => by
    rw [distN_succ, Bool.and_eq_false_iff] at h
    rcases h with h | h
    · obtain ⟨i, hi, hm⟩ := distN_false ids k (by omega) h
      exact ⟨i, by omega, hm⟩
    · unfold newAt at h
      simp only [Bool.not_eq_false', decide_eq_true_eq] at h
      exact ⟨k, by omega, h⟩
theorem sort_twice {s ids : List Nm} (hr : Rise s) (hm : ∀ x, x ∈ s ↔ x ∈ ids) : ((s.length : Int) != (ids.length : Int)) = !distN ids ids.length := by
  have h1 := nodup_len (rise_nodup hr) (fun x hx => (hm x).1 hx)
  cases hd : distN ids ids.length with
  | true =>
    have h2 := distN_nodup ids _ (Nat.le_refl _) hd
    rw [List.take_length] at h2
    have h3 := nodup_len h2 (fun x hx => (hm x).2 hx)
    simp
    omega
  | false =>
    obtain ⟨i, hi, hmem⟩ := distN_false ids _ (Nat.le_refl _) hd
    have h3 : s.length ≤ (ids.take i ++ ids.drop (i + 1)).length := by
      refine nodup_len (rise_nodup hr) (fun x hx => ?_)
      have hx2 := (hm x).1 hx
      rw [← List.take_append_drop i ids, List.mem_append] at hx2
      rw [List.mem_append]
      rcases hx2 with h | h
      · exact .inl h
      · rw [List.drop_eq_getElem_cons hi, List.mem_cons] at h
        rcases h with h | h
        · have e : ids.getD i default = ids[i] := by simp [List.getD, List.getElem?_eq_getElem hi]
          rw [e] at hmem
          exact .inl (h ▸ hmem)
        · exact .inr h
    rw [List.length_append, List.length_take, List.length_drop] at h3
    simp
    omega
end Go.Proofs.YtfaijkgfhdhhbaaGreatDoor

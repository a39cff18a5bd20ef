/-
  The reference's paths: the plain part.
-/
import Derived.Test.YtacmdpfidakkkaaGreatDoorMgq
namespace Go.Proofs.YtacmdpfidakkkaaGreatDoor

theorem splitV_slash : ∀ (t : List UInt8), splitV (t ++ [47]) = splitV t ++ [[]]
  | [] => by simp [splitV]
  | c :: r => by
    have ih := splitV_slash r
    rw [List.cons_append, splitV, splitV, ih]
    by_cases hc : c = 47
    · rw [if_pos hc, if_pos hc, List.cons_append]
    · rw [if_neg hc, if_neg hc]
      cases hs : splitV r with
      | nil => exact absurd hs (splitV_ne r)
      | cons h tl => rfl
theorem splitV_sign : ∀ (t : List UInt8) (b : UInt8), b ≠ 47 → splitV (t ++ [b]) = (splitV t).set ((splitV t).length - 1) ((splitV t).getD ((splitV t).length - 1) [] ++ [b])
  | [], b, hb => by
    simp [splitV, hb]
  | c :: r, b, hb => by
    have ih := splitV_sign r b hb
    rw [List.cons_append, splitV, splitV, ih]
    cases hs : splitV r with
    | nil => exact absurd hs (splitV_ne r)
    | cons h tl =>
      by_cases hc : c = 47
      · rw [if_pos hc, if_pos hc]
        rfl
      · rw [if_neg hc, if_neg hc]
        cases tl with
        | nil => rfl
        | cons x tl2 => rfl
theorem splitV_pos (t : List UInt8) : 0 < (splitV t).length := by
  have := splitV_ne t
  cases h : splitV t with
  | nil => exact absurd h this
  | cons a b => simp
theorem splitV_part : ∀ (t : List UInt8) (j : Nat), ((splitV t).getD j []).length ≤ t.length
  | [], j => by
    cases j with
    | zero => simp [splitV]
    | succ j => simp [splitV]
  | c :: r, j => by
    have ih := splitV_part r
    rw [splitV]
    by_cases hc : c = 47
    · rw [if_pos hc]
      cases j with
      | zero => simp
      | succ j =>
        have := ih j
        simp only [List.getD_cons_succ, List.length_cons]
        omega
    · rw [if_neg hc]
      cases hs : splitV r with
      | nil => exact absurd hs (splitV_ne r)
      | cons h tl =>
        rw [hs] at ih
        cases j with
        | zero =>
          have := ih 0
          simp only [List.getD_cons_zero] at this
          simp only [List.getD_cons_zero, List.headD_cons, List.length_cons]
          omega
        | succ j =>
          have := ih (j + 1)
          simp only [List.getD_cons_succ] at this
          simp only [List.getD_cons_succ, List.tail_cons, List.length_cons]
          omega
end Go.Proofs.YtacmdpfidakkkaaGreatDoor

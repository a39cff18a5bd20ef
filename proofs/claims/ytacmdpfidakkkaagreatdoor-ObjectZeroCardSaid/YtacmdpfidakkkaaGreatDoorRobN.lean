/-
  The reference's objects: the plain part.
-/
import Derived.Test.YtacmdpfidakkkaaGreatDoorObF
namespace Go.Proofs.YtacmdpfidakkkaaGreatDoor
open Go.RowKit

theorem mayO_1 (x : Ob) (h : x.kind = 1) : mayO' x = (decide ((x.blob.length : Int) ≤ 1000) && (x.entries.length : Int) == 0 && eqC x.commit noC) := by
  obtain ⟨k, b, es, c⟩ := x
  obtain rfl : k = 1 := h
  unfold mayO' bodyO bareO eqO
  simp only [if_true]
  cases es with
  | nil => simp; congr 1; rw [decide_eq_decide]; omega
  | cons e l => simp; intro _; omega
theorem mayO_2 (x : Ob) (h : x.kind = 2) : mayO' x = (x.blob == [] && mayT x.entries && eqC x.commit noC) := by
  obtain ⟨k, b, es, c⟩ := x
  obtain rfl : k = 2 := h
  unfold mayO' bodyO bareO eqO
  rw [if_neg (show ¬ ((2 : Int) = 1) by decide), if_pos rfl, if_neg (show ¬ ((2 : Int) = 1) by decide), if_pos rfl]
  simp only [decide_true, Bool.true_and, Bool.and_true]
  cases b == [] <;> cases mayT es <;> cases eqC c noC <;> rfl
theorem mayO_3 (x : Ob) (h : x.kind = 3) : mayO' x = (x.blob == [] && (x.entries.length : Int) == 0 && mayC x.commit) := by
  obtain ⟨k, b, es, c⟩ := x
  obtain rfl : k = 3 := h
  unfold mayO' bodyO bareO eqO
  rw [if_neg (show ¬ ((3 : Int) = 1) by decide), if_neg (show ¬ ((3 : Int) = 2) by decide), if_pos rfl, if_neg (show ¬ ((3 : Int) = 1) by decide), if_neg (show ¬ ((3 : Int) = 2) by decide), if_pos rfl]
  simp only [decide_true, Bool.true_and, eqC_refl, Bool.and_true]
  have he : decide (es = []) = ((es.length : Int) == 0) := by
    cases es with
    | nil => rfl
    | cons e l => simp; omega
  rw [he]
  cases b == [] <;> cases (es.length : Int) == 0 <;> cases mayC c <;> rfl
theorem mayO_4 (x : Ob) (h1 : x.kind ≠ 1) (h2 : x.kind ≠ 2) (h3 : x.kind ≠ 3) : mayO' x = false := by
  unfold mayO' bodyO
  rw [if_neg h1, if_neg h2, if_neg h3, Bool.false_and]
/-- What an object leads to. -/
def linksO (x : Ob) : List Nm := if x.kind = 3 then x.commit.tree :: x.commit.parents else idsE x.entries
end Go.Proofs.YtacmdpfidakkkaaGreatDoor

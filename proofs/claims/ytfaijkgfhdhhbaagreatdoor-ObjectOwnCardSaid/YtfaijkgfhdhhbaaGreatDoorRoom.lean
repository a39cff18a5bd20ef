/-
  Room for stores in a slice of the call's own; what Get makes of what Put tells.
-/
import Derived.Test.YtfaijkgfhdhhbaaGreatDoorRObK
import Derived.Test.YtfaijkgfhdhhbaaGreatDoorMgu
namespace Go.Proofs.YtfaijkgfhdhhbaaGreatDoor
open Go.RowKit

/-- Each of n elements of m cells, n at A, has at least s cells in a block that bears no frozen cell. -/
def Room (w : World) (A : Option Addr) (n m s : Nat) : Prop := 0 < n → ∃ b o t cs, A = some ⟨b, o, none⟩ ∧ Whole w b t cs ∧ ∀ i, i < n → o + i * m + s ≤ cs.size
theorem Room.later {w w' : World} {A : Option Addr} {n m s : Nat} (h : Room w A n m s) (hb : Below w.heap.size w w') : Room w' A n m s := fun h0 => by
  obtain ⟨b, o, t, cs, e, hw, hs⟩ := h h0
  exact ⟨b, o, t, cs, e, hw.below hb hw.lt, hs⟩
theorem Room.set {w : World} {A : Option Addr} {n m s : Nat} (h : Room w A n m s) (g i : Nat) (v : Value) : Room (w.setCell ⟨g, i, none⟩ v) A n m s := fun h0 => by
  obtain ⟨b, o, t, cs, e, hw, hs⟩ := h h0
  by_cases hg : b = g
  · subst hg
    exact ⟨b, o, t, _, e, hw.put i v, fun j hj => by rw [Array.size_setIfInBounds]; exact hs j hj⟩
  · exact ⟨b, o, t, cs, e, hw.aside (p := ⟨g, i, none⟩) hg v, hs⟩
theorem Room.sets {A : Option Addr} {n m s : Nat} (g : Nat) : ∀ (vs : List Value) (i : Nat) (w : World), Room w A n m s → Room (w.setCells g i vs) A n m s
  | [], _, _, h => h
  | v :: vs, i, _, h => Room.sets g vs (i + 1) _ (h.set g i v)
theorem roomN {w : World} {A : Option Addr} {c : Nat} {ids : List Nm} (h : ArgN w A c ids) (ho : OwnB w A) : Room w A ids.length 32 32 := fun h0 => by
  obtain ⟨b, o, rfl, hr⟩ := h.2.2.2 h0
  obtain ⟨t, cs, hw⟩ := ho b ⟨_, rfl, rfl⟩
  refine ⟨b, o, t, cs, rfl, hw, fun i hi => ?_⟩
  have h1 := hr i hi 31 _ (List.getElem?_eq_getElem (by rw [encN_len]; omega))
  rw [hw.at_] at h1
  have := (Array.getElem?_eq_some_iff.1 h1).1
  omega
theorem roomE {w : World} {A : Option Addr} {c : Nat} {es : List En} (h : ArgE w A c es) (ho : OwnB w A) : Room w A es.length 34 1 := fun h0 => by
  obtain ⟨b, o, rfl, hr⟩ := h.2.2.2 h0
  obtain ⟨t, cs, hw⟩ := ho b ⟨_, rfl, rfl⟩
  refine ⟨b, o, t, cs, rfl, hw, fun i hi => ?_⟩
  have h1 := hr i hi 0 _ (List.getElem?_eq_getElem (by rw [encE_len]; omega))
  rw [hw.at_] at h1
  have := (Array.getElem?_eq_some_iff.1 h1).1
  omega
theorem Whole.there {w : World} {g : Nat} {t : TypeId} {cs : Array Value} (h : Whole w g t cs) (o n : Nat) (hs : o + n ≤ cs.size) : w.there g o n := by
  intro j hj
  refine ⟨?_, h.thawed _⟩
  rw [h.at_, Array.getElem?_eq_getElem (by omega)]
  rfl
/-- A name of which the first byte is 7. -/
def n7c : Array Value := #[.int .u8 7, .int .u8 0, .int .u8 0, .int .u8 0, .int .u8 0, .int .u8 0, .int .u8 0, .int .u8 0, .int .u8 0, .int .u8 0, .int .u8 0, .int .u8 0, .int .u8 0, .int .u8 0, .int .u8 0, .int .u8 0, .int .u8 0, .int .u8 0, .int .u8 0, .int .u8 0, .int .u8 0, .int .u8 0, .int .u8 0, .int .u8 0, .int .u8 0, .int .u8 0, .int .u8 0, .int .u8 0, .int .u8 0, .int .u8 0, .int .u8 0, .int .u8 0]
theorem n7c_i : (Tryz.prog.info? 24).map (·.size) = some n7c.size := by kernel_rfl
theorem n7c_a : n7c.all (·.oneCell') = true := by kernel_rfl
theorem n7c_s : n7c.size = 32 := rfl
theorem eqC_symm (a b : Cm) : eqC a b = eqC b a := by
  unfold eqC
  rw [decide_eq_decide.2 (show a.tree = b.tree ↔ b.tree = a.tree from ⟨Eq.symm, Eq.symm⟩), decide_eq_decide.2 (show a.parents = b.parents ↔ b.parents = a.parents from ⟨Eq.symm, Eq.symm⟩), Bool.beq_comm (a := bitsV a.time), Bool.beq_comm (a := a.note)]
theorem getOb_put (y : Ob) (hm : mayO' y = true) (ht : y.commit.time < 18446744073709551616) : ∃ y', getOb y.kind (bytesO y) = (y', 0) ∧ eqO y' y = true := by
  by_cases h1 : y.kind = 1
  · rw [mayO_1 y h1] at hm
    simp only [Bool.and_eq_true, decide_eq_true_eq, beq_iff_eq] at hm
    obtain ⟨⟨hb, he⟩, hc⟩ := hm
    have hel : y.entries = [] := List.length_eq_zero_iff.1 (by omega)
    refine ⟨⟨1, y.blob, [], noC⟩, ?_, ?_⟩
    · have hbo : bytesO y = y.blob := by unfold bytesO; rw [if_neg (by omega), if_neg (by omega)]
      rw [hbo]
      unfold getOb
      rw [if_pos h1, if_pos (by omega)]
    · unfold eqO
      rw [hel, eqC_symm, hc, h1]
      simp
  by_cases h2 : y.kind = 2
  · rw [mayO_2 y h2] at hm
    simp only [Bool.and_eq_true, beq_iff_eq] at hm
    obtain ⟨⟨hb, he⟩, hc⟩ := hm
    refine ⟨⟨2, [], y.entries, noC⟩, ?_, ?_⟩
    · have hbo : bytesO y = encT y.entries := by unfold bytesO; rw [if_pos h2]
      rw [hbo]
      unfold getOb
      rw [if_neg h1, if_pos h2, getT_put _ he]
    · unfold eqO
      rw [hb, eqC_symm, hc, h2]
      simp
  by_cases h3 : y.kind = 3
  · rw [mayO_3 y h3] at hm
    simp only [Bool.and_eq_true, beq_iff_eq] at hm
    obtain ⟨⟨hb, he⟩, hc⟩ := hm
    have hel : y.entries = [] := List.length_eq_zero_iff.1 (by omega)
    refine ⟨⟨3, [], [], y.commit⟩, ?_, ?_⟩
    · have hbo : bytesO y = bytesC y.commit := by unfold bytesO; rw [if_neg h2, if_pos h3]
      rw [hbo]
      unfold getOb
      rw [if_neg h1, if_neg h2, if_pos h3, readC_put _ ht hc]
    · unfold eqO
      rw [hb, hel, eqC_refl, h3]
      simp
  rw [mayO_4 y h1 h2 h3] at hm
  cases hm
end Go.Proofs.YtfaijkgfhdhhbaaGreatDoor

/-
  A text of which a byte is turned, taken out, put in: the three texts; a byte put into bytes.
-/
import Derived.Test.YtfaijkgfhdhhbaaGreatDoorMgd
import Derived.Test.YtfaijkgfhdhhbaaGreatDoorMgx
import Derived.Test.YtfaijkgfhdhhbaaGreatDoorMge
import Derived.Test.YtfaijkgfhdhhbaaGreatDoorMgv
import Derived.Test.YtfaijkgfhdhhbaaGreatDoorMgk
import Derived.Test.YtfaijkgfhdhhbaaGreatDoorMgf
namespace Go.Proofs.YtfaijkgfhdhhbaaGreatDoor
open Go.RowKit

/-- The three texts of a turn: a byte turned, taken out, put in. -/
def turns (T : List UInt8) (k : Nat) (b : UInt8) : List (List UInt8) := [T.set k b, T.take k ++ T.drop (k + 1), T.take k ++ b :: T.drop k]
theorem turns_len (T : List UInt8) (k : Nat) (b : UInt8) (i : Nat) : ((turns T k b).getD i []).length ≤ T.length + 1 := by
  unfold turns
  match i with
  | 0 => simp
  | 1 => simp; omega
  | 2 => simp; omega
  | _ + 3 => simp
theorem str_to (l : List UInt8) (n : Nat) (hn : n ≤ l.length) (w : World) : (Instr.slice 9 (.string ⟨l.toArray⟩) none (some (.int .i64 (n : Int))) none).run Tryz.prog w = .ok (.string ⟨(l.take n).toArray⟩) w := by
  have h := str_cut l 0 n (Nat.zero_le _) hn w
  rw [List.drop_zero] at h
  exact h
theorem text_z (l : List UInt8) (z : Int) (w : World) (hz : 0 ≤ z) : Calls Tryz.prog 7 #[.string ⟨l.toArray⟩, .int .i64 z] w fun e w' => e = .returned (.string ⟨(l.take z.toNat).toArray⟩) ∧ w = w' := by
  obtain ⟨n, rfl⟩ := Int.eq_ofNat_of_zero_le hz
  exact text_any l n w
theorem arg_nil (w : World) : Arg w none 0 [] := ⟨Nat.le_refl _, Nat.zero_le _, .inl ⟨rfl, rfl⟩⟩
theorem bytes_put {w : World} {g c : Nat} {l : List UInt8} (h : Bytes w (.slice (some ⟨g, 0, none⟩) l.length c) l) (k : Nat) (hk : k < l.length) (b : UInt8) : Bytes (w.setCell ⟨g, k, none⟩ (.int .u8 (b.toNat : Int))) (.slice (some ⟨g, 0, none⟩) l.length c) (l.set k b) := by
  obtain ⟨hc1, hc2⟩ : l.length ≤ c ∧ c ≤ maxLen := by
    obtain ⟨A9, c9, e9, hc1, hc2, -⟩ := h
    injection e9 with e91 e92 e93
    subst e93
    exact ⟨hc1, hc2⟩
  have hcl : ∀ j, j < l.length → w.cell? ⟨g, j, none⟩ = some (Y (l.getD j 0)) := fun j hj => by
    have := h.cellAt hj
    rwa [Nat.zero_add] at this
  refine ⟨_, c, by rw [List.length_set], by rw [List.length_set]; exact hc1, hc2, fun _ => ⟨_, _, rfl, fun j hj => ?_⟩⟩
  rw [List.length_set] at hj
  rw [Nat.zero_add]
  by_cases hji : j = k
  · subst hji
    rw [World.cell?_setCell_same _ _ _ (hcl j hj), List.getD_eq_getElem?_getD, List.getElem?_set_self hj]
    rfl
  · have hfar := Nat.lt_or_gt_of_ne hji
    rw [World.cell?_setCell_other _ _ _ _ (by rcases hfar with h | h; first | exact far_at _ _ _ h | exact (far_at _ _ _ h).symm; first | exact far_at _ _ _ h | exact (far_at _ _ _ h).symm), hcl j hj]
    rw [List.getD_eq_getElem?_getD, List.getD_eq_getElem?_getD, List.getElem?_set_ne (fun e => hji e.symm)]
end Go.Proofs.YtfaijkgfhdhhbaaGreatDoor

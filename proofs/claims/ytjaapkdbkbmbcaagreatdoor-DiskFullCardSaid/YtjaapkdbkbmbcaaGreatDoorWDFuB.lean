/-
  DiskFull, for any count.
-/
import Derived.Test.YtjaapkdbkbmbcaaGreatDoorDFa
import Derived.Test.YtjaapkdbkbmbcaaGreatDoorDFb
import Derived.Test.YtjaapkdbkbmbcaaGreatDoorDFc
import Derived.Test.YtjaapkdbkbmbcaaGreatDoorDFd
import Derived.Test.YtjaapkdbkbmbcaaGreatDoorDFe
import Derived.Test.YtjaapkdbkbmbcaaGreatDoorDFf
import Derived.Test.YtjaapkdbkbmbcaaGreatDoorDFg
import Derived.Test.YtjaapkdbkbmbcaaGreatDoorDFh
namespace Go.Proofs.YtjaapkdbkbmbcaaGreatDoor
open Go.RowKit
namespace Eng
theorem cnt_ok (x : Int) : ∃ r : Nat, r < 8 ∧ ∀ q, q ∈ cntR r → pv .i64 x q.1 = some q.2 := by
  have h1 := Int.tmod_lt_of_pos x (show (0 : Int) < 8 by decide)
  have h2 := Int.lt_tmod_of_pos x (show (0 : Int) < 8 by decide)
  obtain ⟨m, hm, hm1⟩ : ∃ m : Nat, x.tmod 8 = (m : Int) - 8 ∧ m < 16 := ⟨(x.tmod 8 + 8).toNat, by omega, by omega⟩
  have key : ∀ m : Nat, m < 16 → pv .i64 ((m : Int) - 8) [(.add, .i64, 8), (.rem, .i64, 8)] = some ((m % 8 : Nat) : Int) := by decide
  refine ⟨m % 8, Nat.mod_lt _ (by decide), fun q hq => ?_⟩
  simp only [cntR, List.mem_cons, List.not_mem_nil, or_false] at hq
  subst hq
  have hr : xii .rem .i64 x .i64 8 = some (.i .i64 (x.tmod 8)) := rfl
  rw [pv, hr]
  simp only [decide_true]
  rw [hm]
  exact key m hm1
end Eng
theorem wdful_any (x : Int) (W : World) (hE : Eng.GE W) : Calls Tryz.prog 8 #[.int .i64 x] W fun e W' => e = .returned (.bool true) ∧ Below W.heap.size W W' := by
  obtain ⟨r, hr8, hr⟩ := Eng.cnt_ok x
  have hv : ∀ j : Eng.J, (∀ id, 9 ≤ id → id < 10 → j id = (fun _ => some (Eng.symL (.int .i64 x))) id) → Eng.VRs j [.qi 9 .i64 [] (Eng.cntR r)] [.int .i64 x] := fun j hj => by
    have h9 := hj 9 (by decide) (by decide)
    refine .cons ?_ (.nil _)
    simp only [Eng.VR]
    exact ⟨_, x, x, h9, rfl, rfl, rfl, hr⟩
  have : r = 0 ∨ r = 1 ∨ r = 2 ∨ r = 3 ∨ r = 4 ∨ r = 5 ∨ r = 6 ∨ r = 7 := by omega
  rcases this with rfl | rfl | rfl | rfl | rfl | rfl | rfl | rfl
  · exact Eng.closedA (Eng.ec_ok Eng.hkF_ok) Eng.runDF0 hE (by decide) _ _ hv
  · exact Eng.closedA (Eng.ec_ok Eng.hkF_ok) Eng.runDF1 hE (by decide) _ _ hv
  · exact Eng.closedA (Eng.ec_ok Eng.hkF_ok) Eng.runDF2 hE (by decide) _ _ hv
  · exact Eng.closedA (Eng.ec_ok Eng.hkF_ok) Eng.runDF3 hE (by decide) _ _ hv
  · exact Eng.closedA (Eng.ec_ok Eng.hkF_ok) Eng.runDF4 hE (by decide) _ _ hv
  · exact Eng.closedA (Eng.ec_ok Eng.hkF_ok) Eng.runDF5 hE (by decide) _ _ hv
  · exact Eng.closedA (Eng.ec_ok Eng.hkF_ok) Eng.runDF6 hE (by decide) _ _ hv
  · exact Eng.closedA (Eng.ec_ok Eng.hkF_ok) Eng.runDF7 hE (by decide) _ _ hv
end Go.Proofs.YtjaapkdbkbmbcaaGreatDoor

/-
  The reference's Eq and Has of names, walked.
-/
import Derived.Test.YtdjhkaofhdcalaaGreatDoorHasN
namespace Go.Proofs.YtdjhkaofhdcalaaGreatDoor
open Go.RowKit

set_option maxRecDepth 100000 in
set_option maxHeartbeats 4000000 in
theorem req_nm (A : Option Addr) (c : Nat) (A2 : Option Addr) (c2 : Nat) (ids : List Nm) (w : World) (hA : ArgN w A c ids) (hA2 : ArgN w A2 c2 ids) (hl : ids.length ≤ 1048576) :
    Calls Tryz.prog 16 #[.slice A ids.length c, .slice A2 ids.length c2] w fun e w' => e = .returned (.bool true) ∧ Below w.heap.size w w' := by
  have HA := Lib.hid hA
  have HA2 := Lib.hid hA2
  have hlc := hA.1
  have hlc2 := hA2.1
  have HL : Hid (∀ y W, (binOp .neq 23 (.agg (encN y).toArray) (.agg (encN y).toArray)).run Tryz.prog W = .ok (.bool false) W) := by
    intro y W
    rw [neq_nm y y W]
    simp
  clear hA hA2
  go_enter Tryz.func16, Tryz.ntmps16
  go_wp2
  go_loopg [5] ids.length (fun g s5 wr => ∃ k q : Nat, k ≤ ids.length ∧ ids.length - k ≤ g ∧ s5 = .int .i64 k ∧ Hid (wr = w.drewN q))
  case atStart => exact ⟨0, 0, Nat.zero_le _, by omega, rfl, Lib.hid rfl⟩
  case round =>
    obtain ⟨k, q, hk, hg, rfl, hwr⟩ := hrel
    by_cases hlt : k < ids.length
    · have hlt' : (k : Int) < (ids.length : Int) := by omega
      obtain ⟨b, o, rfl, hr⟩ := HA.out.2.2.2 (by omega)
      obtain ⟨b2, o2, rfl, hr2⟩ := HA2.out.2.2.2 (by omega)
      have hrk := hr k hlt
      have hrk2 := hr2 k hlt
      obtain ⟨y, hy⟩ : ∃ y, y = ids.getD k default := ⟨_, rfl⟩
      rw [← hy] at hrk hrk2
      have HLX : Hid (∀ W, (∃ n, W = wr.drewN n) → W.rangeAt b (o + k * 32) (encN y)) := by rintro W ⟨n, rfl⟩; rw [hwr.out]; exact hrk
      have HLY : Hid (∀ W, (∃ n, W = wr.drewN n) → W.rangeAt b2 (o2 + k * 32) (encN y)) := by rintro W ⟨n, rfl⟩; rw [hwr.out]; exact hrk2
      have hneq := HL.out y
      have HYI := Lib.hid (infoX y)
      clear hy hr hrk hr2 hrk2
      go_wp2_with fail
      refine wp_region_quiet_lit (by kernel_rfl) (by kernel_rfl) ?_
      repeat (first
        | go_big_quiet_step (fail)
        | (refine q_loadm _ _ rfl (by rfl) b (o + k * 32) (encN y) rfl _ Tryz.underlying23 rfl HYI.out HLX.out ?_; simp only [Act.put]; go_simp)
        | (refine q_loadm _ _ rfl (by rfl) b2 (o2 + k * 32) (encN y) rfl _ Tryz.underlying23 rfl HYI.out HLY.out ?_; simp only [Act.put]; go_simp))
      refine wpQuiet_nil ?_
      intro nq
      go_wp2
      go_roundg (ids.length - (k + 1))
      case measure => omega
      case rel =>
        refine ⟨k + 1, q + nq, by omega, by omega, by go_num, Lib.hid ?_⟩
        rw [hwr.out, World.drewN_drewN]
    · have hk2 : k = ids.length := by omega
      subst hk2
      go_wp2
      go_ret
      refine ⟨rfl, ?_⟩
      rw [hwr.out]
      exact be_drewN (Below.refl _ _) _
end Go.Proofs.YtdjhkaofhdcalaaGreatDoor

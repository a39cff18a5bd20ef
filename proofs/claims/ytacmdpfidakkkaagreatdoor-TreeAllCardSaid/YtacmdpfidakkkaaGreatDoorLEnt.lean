/-
  Law 6's entries, walked: are two slices of entries the same?
-/
import Derived.Test.YtacmdpfidakkkaaGreatDoorMgo
namespace Go.Proofs.YtacmdpfidakkkaaGreatDoor
open Go.RowKit

set_option maxRecDepth 100000 in
set_option maxHeartbeats 4000000 in
theorem lents_any (A : Option Addr) (c : Nat) (A2 : Option Addr) (c2 : Nat) (a b : List En) (w : World) (hA : ArgE w A c a) (hA2 : ArgE w A2 c2 b) :
    Calls Tryz.prog 24 #[.slice A a.length c, .slice A2 b.length c2] w fun e w' => e = .returned (.bool (decide (a = b))) ∧ ∃ q, w' = w.drewN q := by
  have HA := Lib.hid hA
  have HA2 := Lib.hid hA2
  have hlc := hA.1
  have hlc2 := hA2.1
  have hcm := hA.2.1
  have hcm2 := hA2.2.1
  unfold maxLen at hcm hcm2
  clear hA hA2
  by_cases hll : a.length = b.length
  case neg =>
    have hd : (((a.length : Int) != (b.length : Int))) = true := by simp; omega
    have HF : Hid (decide (a = b) = false) := by show _ = _; exact decide_eq_false (fun e => hll (by rw [e]))
    clear hll
    go_enter Tryz.func24, Tryz.ntmps24
    go_wp2
    go_ret
    exact ⟨by rw [HF.out]; rfl, 0, rfl⟩
  have hd : (((a.length : Int) != (b.length : Int))) = false := by simp; omega
  have HLL := Lib.hid hll
  clear hll
  go_enter Tryz.func24, Tryz.ntmps24
  go_wp2
  go_loopg [5, 13] a.length (fun g _ s13 wr => ∃ k q : Nat, k ≤ a.length ∧ a.length - k ≤ g ∧ s13 = .int .i64 k ∧ Hid (wr = w.drewN q) ∧ Hid (a.take k = b.take k))
  case atStart => exact ⟨0, 0, Nat.zero_le _, by omega, rfl, Lib.hid rfl, Lib.hid rfl⟩
  case round =>
    obtain ⟨k, q, hk, hg, rfl, hwr, htk⟩ := hrel
    by_cases hlt : k < a.length
    · have hlt' : (k : Int) < (a.length : Int) := by omega
      have hlt2 : k < b.length := by have := HLL.out; omega
      have hlt3 : (k : Int) < (b.length : Int) := by omega
      obtain ⟨bb, o, rfl, hr⟩ := HA.out.2.2.2 (by omega)
      obtain ⟨bb2, o2, rfl, hr2⟩ := HA2.out.2.2.2 (by omega)
      have hrk := hr k hlt
      have hrk2 := hr2 k hlt2
      have HAT := Lib.hid (eqen_at a b k hlt hlt2 htk.out)
      obtain ⟨y, hy⟩ : ∃ y, y = a.getD k default := ⟨_, rfl⟩
      obtain ⟨z, hz⟩ : ∃ z, z = b.getD k default := ⟨_, rfl⟩
      rw [← hy] at hrk HAT
      rw [← hz] at hrk2 HAT
      have HLX : Hid (∀ W, (∃ n, W = wr.drewN n) → W.rangeAt bb (o + k * 34) (encE y)) := by rintro W ⟨n, rfl⟩; rw [hwr.out]; exact hrk
      have HLY : Hid (∀ W, (∃ n, W = wr.drewN n) → W.rangeAt bb2 (o2 + k * 34) (encE z)) := by rintro W ⟨n, rfl⟩; rw [hwr.out]; exact hrk2
      have hneq := neq_en y z
      have HYI := Lib.hid (infoE_l y)
      have HZI := Lib.hid (infoE_l z)
      clear hy hz hr hrk hr2 hrk2
      cases hq : decide (y = z) with
      | true =>
        rw [hq] at hneq
        have HN : Hid (a.take (k + 1) = b.take (k + 1)) := HAT.out.1 (by simpa using hq)
        clear hq
        go_wp2_with fail
        refine wp_region_quiet_lit (by kernel_rfl) (by kernel_rfl) ?_
        repeat (first
          | go_big_quiet_step (fail)
          | (refine q_loadm _ _ rfl (by rfl) bb (o + k * 34) (encE y) rfl _ Tryz.underlying42 rfl HYI.out HLX.out ?_; simp only [Act.put]; go_simp)
          | (refine q_loadm _ _ rfl (by rfl) bb2 (o2 + k * 34) (encE z) rfl _ Tryz.underlying42 rfl HZI.out HLY.out ?_; simp only [Act.put]; go_simp))
        refine wpQuiet_nil ?_
        intro nq
        go_wp2
        go_roundg (a.length - (k + 1))
        case measure => omega
        case rel =>
          refine ⟨k + 1, q + nq, by omega, by omega, by go_num, Lib.hid ?_, HN⟩
          rw [hwr.out, World.drewN_drewN]
      | false =>
        rw [hq] at hneq
        have HF : Hid (decide (a = b) = false) := by
          show _ = _
          refine decide_eq_false (fun e => ?_)
          have h9 := HAT.out.2 (by rw [e])
          simp [h9] at hq
        clear hq
        go_wp2_with fail
        refine wp_region_quiet_lit (by kernel_rfl) (by kernel_rfl) ?_
        repeat (first
          | go_big_quiet_step (fail)
          | (refine q_loadm _ _ rfl (by rfl) bb (o + k * 34) (encE y) rfl _ Tryz.underlying42 rfl HYI.out HLX.out ?_; simp only [Act.put]; go_simp)
          | (refine q_loadm _ _ rfl (by rfl) bb2 (o2 + k * 34) (encE z) rfl _ Tryz.underlying42 rfl HZI.out HLY.out ?_; simp only [Act.put]; go_simp))
        refine wpQuiet_nil ?_
        intro nq
        go_wp2
        go_ret
        refine ⟨by rw [HF.out]; rfl, q + nq, ?_⟩
        rw [hwr.out, World.drewN_drewN]
    · have hk2 : k = a.length := by omega
      have HT : Hid (decide (a = b) = true) := by
        show _ = _
        refine decide_eq_true ?_
        have h9 := htk.out
        rw [hk2, List.take_length, HLL.out, List.take_length] at h9
        exact h9
      clear htk
      subst hk2
      go_wp2
      go_ret
      exact ⟨by rw [HT.out]; rfl, q, hwr.out⟩
end Go.Proofs.YtacmdpfidakkkaaGreatDoor

/-
  The reference's Has of names, walked.
-/
import Derived.Test.YtacmdpfidakkkaaGreatDoorMgi
namespace Go.Proofs.YtacmdpfidakkkaaGreatDoor
open Go.RowKit

set_option maxRecDepth 100000 in
set_option maxHeartbeats 4000000 in
theorem rhas_nm (A : Option Addr) (c : Nat) (ids : List Nm) (x : Nm) (w : World) (hA : ArgN w A c ids) (hc : ids.length ≤ 1048576) :
    Calls Tryz.prog 71 #[.slice A ids.length c, .agg (encN x).toArray] w fun e w' => e = .returned (.bool (decide (x ∈ ids))) ∧ Below w.heap.size w w' := by
  have hlc := hA.1
  have HW0 := Lib.hid (whole_range (Whole.made w 40 (encN x).toArray))
  have HXI := Lib.hid (infoX x)
  have HB0 := Lib.hid ((Below.refl w.heap.size w).alloc (Nat.le_refl _) (.cells (encN x).toArray 40))
  have HL := Lib.hid fun y W => eql_nm y x W
  have HA0 := Lib.hid (hA.later HB0.out)
  clear hA
  go_enter Tryz.func71, Tryz.ntmps71
  go_wp2
  generalize w.alloc (.cells (encN x).toArray 40) = w0 at *
  go_loopg [5] ids.length (fun g s5 wr => ∃ k q : Nat, k ≤ ids.length ∧ ids.length - k ≤ g ∧ s5 = .int .i64 k ∧ Hid (wr = w0.drewN q) ∧ Hid (∀ i, i < k → ids.getD i default ≠ x))
  case atStart => exact ⟨0, 0, Nat.zero_le _, by omega, rfl, Lib.hid rfl, Lib.hid fun i hi => absurd hi (Nat.not_lt_zero _)⟩
  case round =>
    obtain ⟨k, q, hk, hg, rfl, hwr, hall⟩ := hrel
    by_cases hlt : k < ids.length
    · have hlt' : (k : Int) < (ids.length : Int) := by omega
      obtain ⟨b, o, rfl, hr⟩ := HA0.out.2.2.2 (by omega)
      have hrk := hr k hlt
      obtain ⟨y, hy⟩ : ∃ y, y = ids.getD k default := ⟨_, rfl⟩
      rw [← hy] at hrk
      have HLX : Hid (∀ W, (∃ n, W = wr.drewN n) → W.rangeAt w.heap.size 0 (encN x)) := by rintro W ⟨n, rfl⟩; rw [hwr.out]; exact HW0.out
      have HLY : Hid (∀ W, (∃ n, W = wr.drewN n) → W.rangeAt b (o + k * 32) (encN y)) := by rintro W ⟨n, rfl⟩; rw [hwr.out]; exact hrk
      have heq := HL.out y
      have HYI := Lib.hid (infoX y)
      have HY := Lib.hid hy
      clear hy hr hrk
      by_cases hd : y = x
      · have hdd : decide (y = x) = true := by simp [hd]
        rw [hdd] at heq
        clear hdd
        have HD := Lib.hid hd
        clear hd
        have HM : Hid (decide (x ∈ ids) = true) := by
          show _ = _
          have : x ∈ ids := by rw [← HD.out, HY.out]; exact at_mem ids k hlt
          simp [this]
        go_wp2_with fail
        refine wp_region_quiet_lit (by kernel_rfl) (by kernel_rfl) ?_
        repeat (first
          | go_big_quiet_step (fail)
          | (refine q_loadm _ _ rfl (by rfl) w.heap.size 0 (encN x) rfl _ Tryz.underlying40 rfl HXI.out HLX.out ?_; simp only [Act.put]; go_simp)
          | (refine q_loadm _ _ rfl (by rfl) b (o + k * 32) (encN y) rfl _ Tryz.underlying40 rfl HYI.out HLY.out ?_; simp only [Act.put]; go_simp))
        refine wpQuiet_nil ?_
        intro nq
        go_wp2
        go_ret
        refine ⟨by rw [HM.out]; rfl, ?_⟩
        rw [hwr.out]
        exact be_drewN (be_drewN HB0.out _) _
      · have hdd : decide (y = x) = false := by simp [hd]
        rw [hdd] at heq
        clear hdd
        have HD := Lib.hid hd
        clear hd
        go_wp2_with fail
        refine wp_region_quiet_lit (by kernel_rfl) (by kernel_rfl) ?_
        repeat (first
          | go_big_quiet_step (fail)
          | (refine q_loadm _ _ rfl (by rfl) w.heap.size 0 (encN x) rfl _ Tryz.underlying40 rfl HXI.out HLX.out ?_; simp only [Act.put]; go_simp)
          | (refine q_loadm _ _ rfl (by rfl) b (o + k * 32) (encN y) rfl _ Tryz.underlying40 rfl HYI.out HLY.out ?_; simp only [Act.put]; go_simp))
        refine wpQuiet_nil ?_
        intro nq
        go_wp2
        go_roundg (ids.length - (k + 1))
        case measure => omega
        case rel =>
          refine ⟨k + 1, q + nq, by omega, by omega, by go_num, Lib.hid ?_, Lib.hid ?_⟩
          · rw [hwr.out, World.drewN_drewN]
          · intro i hi
            by_cases e : i = k
            · subst e
              rw [← HY.out]
              exact HD.out
            · exact hall.out i (by omega)
    · have hk2 : k = ids.length := by omega
      subst hk2
      have HM : Hid (decide (x ∈ ids) = false) := by
        show _ = _
        simp [mem_at x ids hall.out]
      go_wp2
      go_ret
      refine ⟨by rw [HM.out]; rfl, ?_⟩
      rw [hwr.out]
      exact be_drewN HB0.out _
end Go.Proofs.YtacmdpfidakkkaaGreatDoor

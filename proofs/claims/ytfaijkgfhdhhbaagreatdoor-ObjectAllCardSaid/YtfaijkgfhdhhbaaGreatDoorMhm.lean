/-
  The reference's Has of names, walked.
  The reference's MayCommit, walked.
-/
import Derived.Test.YtfaijkgfhdhhbaaGreatDoorMgi
import Derived.Test.YtfaijkgfhdhhbaaGreatDoorMhf
namespace Go.Proofs.YtfaijkgfhdhhbaaGreatDoor
open Go.RowKit

set_option maxRecDepth 100000 in
set_option maxHeartbeats 4000000 in
theorem rhas_nm (A : Option Addr) (c : Nat) (ids : List Nm) (x : Nm) (w : World) (hA : ArgN w A c ids) (hc : ids.length ≤ 1048576) :
    Calls Tryz.prog 70 #[.slice A ids.length c, .agg (encN x).toArray] w fun e w' => e = .returned (.bool (decide (x ∈ ids))) ∧ Below w.heap.size w w' := by
  have hlc := hA.1
  have HW0 := Lib.hid (whole_range (Whole.made w 24 (encN x).toArray))
  have HXI := Lib.hid (infoX x)
  have HB0 := Lib.hid ((Below.refl w.heap.size w).alloc (Nat.le_refl _) (.cells (encN x).toArray 24))
  have HL := Lib.hid fun y W => eql_nm y x W
  have HA0 := Lib.hid (hA.later HB0.out)
  clear hA
  go_enter Tryz.func70, Tryz.ntmps70
  go_wp2
  generalize w.alloc (.cells (encN x).toArray 24) = w0 at *
  go_loopg [5] ids.length (fun g s5 wr => ∃ k q : Nat, k ≤ ids.length ∧ ids.length - k ≤ g ∧ s5 = .int .i64 k ∧ Hid (wr = w0.drewN q) ∧ Hid (∀ i, i < k → ids.getD i default ≠ x))
  case atStart => exact ⟨0, 0, Nat.zero_le _, by omega, rfl, Lib.hid rfl, Lib.hid fun i hi => absurd hi (Nat.not_lt_zero _)⟩
  case round =>
    obtain ⟨k, q, hk, hg, rfl, hwr, hall⟩ := hrel
    by_cases hlt : k < ids.length
    · have hlt' : (k : Int) < (ids.length : Int) := by omega
      obtain ⟨b, o, rfl, hr⟩ := HA0.out.2.2.2 (by omega)
      have hrk := hr k hlt
      obtain ⟨y, hy⟩ : ∃ y, y = ids.getD k default := ⟨_, rfl⟩
      rw [← hy] at hrk
      have HLX : Hid (∀ W, (∃ n, W = wr.drewN n) → W.rangeAt w.heap.size 0 (encN x)) := by rintro W ⟨n, rfl⟩; rw [hwr.out]; exact HW0.out
      have HLY : Hid (∀ W, (∃ n, W = wr.drewN n) → W.rangeAt b (o + k * 32) (encN y)) := by rintro W ⟨n, rfl⟩; rw [hwr.out]; exact hrk
      have heq := HL.out y
      have HYI := Lib.hid (infoX y)
      have HY := Lib.hid hy
      clear hy hr hrk
      by_cases hd : y = x
      · have hdd : decide (y = x) = true := by simp [hd]
        rw [hdd] at heq
        clear hdd
        have HD := Lib.hid hd
        clear hd
        have HM : Hid (decide (x ∈ ids) = true) := by
          show _ = _
          have : x ∈ ids := by rw [← HD.out, HY.out]; exact at_mem ids k hlt
          simp [this]
        go_wp2_with fail
        refine wp_region_quiet_lit (by kernel_rfl) (by kernel_rfl) ?_
        repeat (first
          | go_big_quiet_step (fail)
          | (refine q_loadm _ _ rfl (by rfl) w.heap.size 0 (encN x) rfl _ Tryz.underlying24 rfl HXI.out HLX.out ?_; simp only [Act.put]; go_simp)
          | (refine q_loadm _ _ rfl (by rfl) b (o + k * 32) (encN y) rfl _ Tryz.underlying24 rfl HYI.out HLY.out ?_; simp only [Act.put]; go_simp))
        refine wpQuiet_nil ?_
        intro nq
        go_wp2
        go_ret
        refine ⟨by rw [HM.out]; rfl, ?_⟩
        rw [hwr.out]
        exact be_drewN (be_drewN HB0.out _) _
      · have hdd : decide (y = x) = false := by simp [hd]
        rw [hdd] at heq
        clear hdd
        have HD := Lib.hid hd
        clear hd
        go_wp2_with fail
        refine wp_region_quiet_lit (by kernel_rfl) (by kernel_rfl) ?_
        repeat (first
          | go_big_quiet_step (fail)
          | (refine q_loadm _ _ rfl (by rfl) w.heap.size 0 (encN x) rfl _ Tryz.underlying24 rfl HXI.out HLX.out ?_; simp only [Act.put]; go_simp)
          | (refine q_loadm _ _ rfl (by rfl) b (o + k * 32) (encN y) rfl _ Tryz.underlying24 rfl HYI.out HLY.out ?_; simp only [Act.put]; go_simp))
        refine wpQuiet_nil ?_
        intro nq
        go_wp2
        go_roundg (ids.length - (k + 1))
        case measure => omega
        case rel =>
          refine ⟨k + 1, q + nq, by omega, by omega, by go_num, Lib.hid ?_, Lib.hid ?_⟩
          · rw [hwr.out, World.drewN_drewN]
          · intro i hi
            by_cases e : i = k
            · subst e
              rw [← HY.out]
              exact HD.out
            · exact hall.out i (by omega)
    · have hk2 : k = ids.length := by omega
      subst hk2
      have HM : Hid (decide (x ∈ ids) = false) := by
        show _ = _
        simp [mem_at x ids hall.out]
      go_wp2
      go_ret
      refine ⟨by rw [HM.out]; rfl, ?_⟩
      rw [hwr.out]
      exact be_drewN HB0.out _
end Go.Proofs.YtfaijkgfhdhhbaaGreatDoor
namespace Go.Proofs.YtfaijkgfhdhhbaaGreatDoor
open Go.RowKit

set_option maxRecDepth 100000 in
set_option maxHeartbeats 4000000 in
theorem rcmay_any (A : Option Addr) (c : Nat) (x : Cm) (w : World) (hA : ArgN w A c x.parents) (ht : x.time < 18446744073709551616) (hl : x.parents.length ≤ 1048576) :
    Calls Tryz.prog 33 #[.agg (encC A c x).toArray] w fun e w' => e = .returned (.bool (mayC x)) ∧ Below w.heap.size w w' := by
  have HW := Lib.hid (Whole.made w 28 (encC A c x).toArray)
  have HB := Lib.hid ((Below.refl w.heap.size w).alloc (Nat.le_refl _) (.cells (encC A c x).toArray 28))
  have HA := Lib.hid (hA.later HB.out)
  have HT := Lib.hid fun W => rmay_any x.time W ht
  have e32 := encC_32 A c x
  have e33 := encC_33 A c x
  have e34 := encC_34 A c x
  have HM : Hid (mayC x = (mayP x.parents && Flo.may x.time && decide (x.note.length ≤ 100))) := rfl
  have hlc := hA.1
  clear hA ht
  generalize mayC x = r at *
  generalize Flo.may x.time = q at *
  generalize x.parents = ids at *
  generalize x.note = nt at *
  generalize x.time = tm at *
  generalize (encC A c x).toArray = cs at *
  have HE := Lib.hid (And.intro e32 (And.intro e33 e34))
  clear e32 e33 e34
  go_enter Tryz.func33, Tryz.ntmps33
  go_wp2
  generalize w.alloc (.cells cs 28) = w0 at *
  go_loopg [3] ids.length (fun g s3 wr => ∃ k : Nat, k ≤ ids.length ∧ ids.length - k ≤ g ∧ s3 = .int .i64 k ∧ Hid (Below w0.heap.size w0 wr) ∧ Hid (distN ids k = true))
  case atStart => exact ⟨0, Nat.zero_le _, by omega, rfl, Lib.hid (Below.refl _ _), Lib.hid rfl⟩
  case round =>
    obtain ⟨k, hk, hg, rfl, hB, hall⟩ := hrel
    have hWr := HW.out.below hB.out HW.out.lt
    have c32 : ∀ W, Below wr.heap.size wr W → W.cell? ⟨w.heap.size, 32, none⟩ = some (.slice A ids.length c) := fun W hW => ((hWr.below hW hWr.lt).at_ 32).trans HE.out.1
    have c32' := c32 wr (Below.refl _ _)
    have HWR := Lib.hid hWr
    have HBF := Lib.hid (HB.out.trans (hB.out.mono HB.out.size))
    have C32 := Lib.hid c32
    clear hWr c32
    by_cases hlt : k < ids.length
    · have hlt' : (k : Int) < (ids.length : Int) := by omega
      have HAW := Lib.hid (HA.out.later hB.out)
      obtain ⟨b, o, rfl, hr⟩ := HAW.out.2.2.2 (by omega)
      have hbl := hr.lt (by omega)
      obtain ⟨y, hy⟩ : ∃ y, y = ids.getD k default := ⟨_, rfl⟩
      have HRY : Hid (∀ W, Below wr.heap.size wr W → W.rangeAt b (o + k * 32) (encN y)) := by
        intro W hW
        rw [hy]
        exact (hr.below hW hbl) k hlt
      have HXI := Lib.hid (infoX y)
      have HRS := Lib.hid (distN_succ ids k)
      have HNA : Hid (newAt ids k = !decide (y ∈ ids.take k)) := by show _ = _; rw [hy]; rfl
      have hsl := slice_toC (A := some ⟨b, o, none⟩) (c := c) ids.length k (by omega)
      have c32q : ∀ (p : Nat) (os : Array Obj), (Sort.grow (redrawn wr p) os).cell? ⟨w.heap.size, 32, none⟩ = some (.slice (some ⟨b, o, none⟩) ids.length c) := fun p os => C32.out _ (below_regrown _ _ _)
      have htk : (ids.take k).length = k := by rw [List.length_take]; omega
      have HHS : Hid (∀ W, Below wr.heap.size wr W → Calls Tryz.prog 70 #[.slice (some ⟨b, o, none⟩) k c, .agg (encN y).toArray] W fun e w' => e = .returned (.bool (decide (y ∈ ids.take k))) ∧ Below W.heap.size W w') := by
        intro W hW
        have h := rhas_nm (some ⟨b, o, none⟩) c (ids.take k) y W ((HAW.out.later hW).take k) (by omega)
        rw [htk] at h
        exact h
      clear htk hr hy
      cases hh : decide (y ∈ ids.take k) with
      | true =>
        rw [hh] at HHS
        have HF : Hid (r = false) := by
          show _ = _
          rw [HM.out]
          unfold mayP
          rw [distN_not ids hlt (by rw [HNA.out, hh]; rfl)]
          simp
        clear hh
        go_wp2_with fail
        refine wp_region_quiet_below (by kernel_rfl) (by kernel_rfl) ?_
        repeat (first
          | go_big_quiet_step ((go_at_call 70; exact Calls.regrown_of (HHS.out _ (below_regrown _ _ _))))
          | (refine q_loadm _ _ rfl (by rfl) b (o + k * 32) (encN y) rfl _ Tryz.underlying24 rfl HXI.out (fun W hC => HRY.out W (below_clsC hC)) ?_; simp only [Act.put]; go_simp))
        refine wpQuiet_nil ?_
        intro p
        have HWF := Lib.hid (hB.out.trans ((below_regrown wr p.d p.os).mono hB.out.size))
        have HBG := Lib.hid (HBF.out.trans ((below_regrown wr p.d p.os).mono HBF.out.size))
        generalize Sort.grow (redrawn wr p.d) p.os = wf at *
        go_wp2
        go_ret
        exact ⟨by rw [HF.out]; rfl, HBG.out⟩
      | false =>
        rw [hh] at HHS
        have HT : Hid (distN ids (k + 1) = true) := by show _ = _; rw [HRS.out, hall.out, HNA.out, hh]; rfl
        clear hh
        go_wp2_with fail
        refine wp_region_quiet_below (by kernel_rfl) (by kernel_rfl) ?_
        repeat (first
          | go_big_quiet_step ((go_at_call 70; exact Calls.regrown_of (HHS.out _ (below_regrown _ _ _))))
          | (refine q_loadm _ _ rfl (by rfl) b (o + k * 32) (encN y) rfl _ Tryz.underlying24 rfl HXI.out (fun W hC => HRY.out W (below_clsC hC)) ?_; simp only [Act.put]; go_simp))
        refine wpQuiet_nil ?_
        intro p
        have HWF := Lib.hid (hB.out.trans ((below_regrown wr p.d p.os).mono hB.out.size))
        have HBG := Lib.hid (HBF.out.trans ((below_regrown wr p.d p.os).mono HBF.out.size))
        generalize Sort.grow (redrawn wr p.d) p.os = wf at *
        go_wp2
        go_roundg (ids.length - (k + 1))
        case measure => omega
        case rel => exact ⟨k + 1, by omega, Nat.le_refl _, by go_num, HWF, HT⟩
    · obtain rfl : k = ids.length := by omega
      have c33 : wr.cell? ⟨w.heap.size, 33, none⟩ = some (.float .f64 tm) := (HWR.out.at_ 33).trans HE.out.2.1
      have c34 : ∀ n, (wr.drewN n).cell? ⟨w.heap.size, 34, none⟩ = some (.string ⟨nt.toArray⟩) := fun n => ((HWR.out.drewN n).at_ 34).trans HE.out.2.2
      have c34' := c34 0
      have HR : Hid (r = (decide ((ids.length : Int) ≤ 4) && q && decide ((nt.length : Int) ≤ 100))) := by
        show _ = _
        rw [HM.out]
        unfold mayP
        rw [hall.out, Bool.and_true, show decide (ids.length ≤ 4) = decide ((ids.length : Int) ≤ 4) by rw [decide_eq_decide]; omega, show decide (nt.length ≤ 100) = decide ((nt.length : Int) ≤ 100) by rw [decide_eq_decide]; omega]
      cases h4 : decide ((ids.length : Int) ≤ 4) with
      | false =>
        rw [h4] at HR
        have h4' : decide ((ids.length : Int) ≤ 4) = false := h4
        go_wp2
        go_ret
        exact ⟨by rw [HR.out]; rfl, HBF.out⟩
      | true =>
        rw [h4] at HR
        have h4' : decide ((ids.length : Int) ≤ 4) = true := h4
        go_wp2_with fail
        refine (HT.out _).mono ?_
        rintro e w2 ⟨rfl, nq, rfl⟩
        cases q with
        | false =>
          go_wp2
          go_ret
          exact ⟨by rw [HR.out]; rfl, be_drewN HBF.out nq⟩
        | true =>
          go_wp2
          go_ret
          exact ⟨by rw [HR.out]; rfl, be_drewN HBF.out nq⟩
end Go.Proofs.YtfaijkgfhdhhbaaGreatDoor

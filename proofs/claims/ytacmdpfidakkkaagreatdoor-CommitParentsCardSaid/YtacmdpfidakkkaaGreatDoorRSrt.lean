/-
  The reference's Sort of names, walked.
-/
import Derived.Test.YtacmdpfidakkkaaGreatDoorMgv
import Derived.Test.YtacmdpfidakkkaaGreatDoorMgr
import Derived.Test.YtacmdpfidakkkaaGreatDoorRHas
import Derived.Deep.RegionHeld
import Derived.Lib.QuietBelow
namespace Go.Proofs.YtacmdpfidakkkaaGreatDoor
open Go.RowKit

theorem below_clsS {w W : World} (h : ∃ p : Regrown, W = Sort.grow (redrawn w p.d) p.os) : Below w.heap.size w W := by
  obtain ⟨p, rfl⟩ := h
  exact below_regrown _ _ _
set_option maxRecDepth 100000 in
set_option maxHeartbeats 8000000 in
theorem rsort_nm (A : Option Addr) (c : Nat) (ids : List Nm) (w : World) (hA : ArgN w A c ids) (hl : ids.length ≤ 100) :
    Calls Tryz.prog 38 #[.slice A ids.length c] w fun e w' => ∃ A' c' s, e = .returned (.slice A' (List.length s) c') ∧ Rise s ∧ (∀ x, x ∈ s ↔ x ∈ ids) ∧ ArgN w' A' c' s ∧ Below w.heap.size w w' := by
  have hlc := hA.1
  have HA := Lib.hid hA
  clear hA
  go_enter Tryz.func38, Tryz.ntmps38
  go_wp2
  go_loopg [3, 4, 5] ids.length (fun g s3 s4 _ wr => ∃ (i : Nat) (A' : Option Addr) (c' : Nat) (s : List Nm), i ≤ ids.length ∧ ids.length - i ≤ g ∧ s3 = .slice A' s.length c' ∧ s4 = .int .i64 i ∧ s.length ≤ i ∧ Hid (Rise s) ∧ Hid (∀ x, x ∈ s ↔ x ∈ ids.take i) ∧ Hid (ArgN wr A' c' s) ∧ Hid (Below w.heap.size w wr))
  case atStart => exact ⟨0, none, 0, [], Nat.zero_le _, by omega, rfl, rfl, Nat.le_refl _, Lib.hid List.Pairwise.nil, Lib.hid fun x => Iff.rfl, Lib.hid ⟨Nat.le_refl _, Nat.zero_le _, fun _ => rfl, fun h => absurd h (Nat.lt_irrefl _)⟩, Lib.hid (Below.refl _ _)⟩
  case round =>
    obtain ⟨i, A', c', s, hi, hg, rfl, rfl, hsi, hri, hme, has, hB⟩ := hrel
    rename World => wo
    by_cases hlt : i < ids.length
    · have hlt' : (i : Int) < (ids.length : Int) := by omega
      obtain ⟨b, o, rfl, hr⟩ := HA.out.2.2.2 (by omega)
      obtain ⟨x, hx⟩ : ∃ x, x = ids.getD i default := ⟨_, rfl⟩
      have hbl := hr.lt (by omega)
      have HLX : Hid (∀ W, Below wo.heap.size wo W → W.rangeAt b (o + i * 32) (encN x)) := by
        intro W hW
        rw [hx]
        exact (hr.below (hB.out.trans (hW.mono hB.out.size)) hbl) i hlt
      have HXI := Lib.hid (infoX x)
      have HX := Lib.hid hx
      have hslc := has.out.1
      clear hx hr hbl
      go_wp2
      go_loopg [5] s.length (fun g s5 wr2 => ∃ k : Nat, k ≤ s.length ∧ s.length - k ≤ g ∧ s5 = .int .i64 k ∧ Hid (∀ j, j < k → ltN (s.getD j default) x) ∧ Hid (Below wo.heap.size wo wr2))
      case atStart => exact ⟨0, Nat.zero_le _, by omega, rfl, Lib.hid fun j hj => absurd hj (Nat.not_lt_zero _), Lib.hid (Below.refl _ _)⟩
      case round =>
        obtain ⟨k, hk, hg2, rfl, hpre, hwr⟩ := hrel
        have HB2 := Lib.hid (hB.out.trans (hwr.out.mono hB.out.size))
        have HLX2 : Hid (∀ W, Below wr.heap.size wr W → W.rangeAt b (o + i * 32) (encN x)) := fun W hW => HLX.out W (hwr.out.trans (hW.mono hwr.out.size))
        by_cases hlt2 : k < s.length
        · have hlt2' : (k : Int) < (s.length : Int) := by omega
          have hne2 : ((k : Int) == (s.length : Int)) = false := by simp; omega
          obtain ⟨b2, o2, rfl, hr2⟩ := has.out.2.2.2 (by omega)
          have hbl2 := hr2.lt (by omega)
          obtain ⟨y, hy⟩ : ∃ y, y = s.getD k default := ⟨_, rfl⟩
          have HLY : Hid (∀ W, Below wr.heap.size wr W → W.rangeAt b2 (o2 + k * 32) (encN y)) := by
            intro W hW
            rw [hy]
            exact (hr2.below (hwr.out.trans (hW.mono hwr.out.size)) hbl2) k hlt2
          have HYI := Lib.hid (infoX y)
          have HY := Lib.hid hy
          clear hy hr2 hbl2
          by_cases hyx : ltN y x
          · have HLS : Hid (∀ W, Below wr.heap.size wr W → Calls Tryz.prog 84 #[.agg (encN y).toArray, .agg (encN x).toArray] W fun e w' => e = .returned (.bool true) ∧ Below W.heap.size W w') := by
              intro W _
              have := rless_nm y x W
              rw [show decide (ltN y x) = true by simp [hyx]] at this
              exact this
            have HYX := Lib.hid hyx
            clear hyx
            go_wp2_with fail
            refine wp_region_quiet_below (by kernel_rfl) (by kernel_rfl) ?_
            repeat (first
              | go_big_quiet_step ((go_at_call 84; exact Calls.regrown_of (HLS.out _ (below_regrown _ _ _))))
              | (refine q_loadm _ _ rfl (by rfl) b (o + i * 32) (encN x) rfl _ Tryz.underlying40 rfl HXI.out (fun W hC => HLX2.out W (below_clsS hC)) ?_; simp only [Act.put]; go_simp)
              | (refine q_loadm _ _ rfl (by rfl) b2 (o2 + k * 32) (encN y) rfl _ Tryz.underlying40 rfl HYI.out (fun W hC => HLY.out W (below_clsS hC)) ?_; simp only [Act.put]; go_simp))
            refine wpQuiet_nil ?_
            intro p
            have HW := Lib.hid (below_regrown wr p.d p.os)
            generalize Sort.grow (redrawn wr p.d) p.os = W at *
            go_wp2
            go_roundg (s.length - (k + 1))
            case measure => omega
            case rel =>
              refine ⟨k + 1, by omega, Nat.le_refl _, by go_num, Lib.hid fun j hj => ?_, Lib.hid (hwr.out.trans (HW.out.mono hwr.out.size))⟩
              by_cases e : j = k
              · subst e
                rw [← HY.out]
                exact HYX.out
              · exact hpre.out j (by omega)
          · have HLS : Hid (∀ W, Below wr.heap.size wr W → Calls Tryz.prog 84 #[.agg (encN y).toArray, .agg (encN x).toArray] W fun e w' => e = .returned (.bool false) ∧ Below W.heap.size W w') := by
              intro W _
              have := rless_nm y x W
              rw [show decide (ltN y x) = false by simp [hyx]] at this
              exact this
            have HYX := Lib.hid hyx
            clear hyx
            have hneq := fun W => neq_nm y x W
            go_wp2_with fail
            refine wp_region_quiet_below (by kernel_rfl) (by kernel_rfl) ?_
            repeat (first
              | go_big_quiet_step ((go_at_call 84; exact Calls.regrown_of (HLS.out _ (below_regrown _ _ _))))
              | (refine q_loadm _ _ rfl (by rfl) b (o + i * 32) (encN x) rfl _ Tryz.underlying40 rfl HXI.out (fun W hC => HLX2.out W (below_clsS hC)) ?_; simp only [Act.put]; go_simp)
              | (refine q_loadm _ _ rfl (by rfl) b2 (o2 + k * 32) (encN y) rfl _ Tryz.underlying40 rfl HYI.out (fun W hC => HLY.out W (below_clsS hC)) ?_; simp only [Act.put]; go_simp))
            refine wpQuiet_nil ?_
            intro p
            have HW := Lib.hid (below_regrown wr p.d p.os)
            generalize Sort.grow (redrawn wr p.d) p.os = W at *
            have HWR := Lib.hid (hwr.out.trans (HW.out.mono hwr.out.size))
            by_cases hxy : y = x
            · have hdd : decide (y = x) = true := by simp [hxy]
              rw [hdd] at hneq
              clear hdd
              have HXY := Lib.hid hxy
              clear hxy
              go_wp2_with fail
              refine wp_region_quiet_lit (by kernel_rfl) (by kernel_rfl) ?_
              repeat (first
                | go_big_quiet_step (fail)
                | (refine q_loadm _ _ rfl (by rfl) b (o + i * 32) (encN x) rfl _ Tryz.underlying40 rfl HXI.out (by rintro W' ⟨n, rfl⟩; exact HLX.out _ (be_drewN HWR.out n)) ?_; simp only [Act.put]; go_simp)
                | (refine q_loadm _ _ rfl (by rfl) b2 (o2 + k * 32) (encN y) rfl _ Tryz.underlying40 rfl HYI.out (by rintro W' ⟨n, rfl⟩; exact HLY.out _ (be_drewN HW.out n)) ?_; simp only [Act.put]; go_simp))
              refine wpQuiet_nil ?_
              intro nq
              have hal := has.out.later (be_drewN HWR.out nq)
              have HAL := Lib.hid hal
              have HWF := Lib.hid (be_drewN HWR.out nq)
              clear hal
              generalize W.drewN nq = wz at *
              have HMEM : Hid (∀ z, z ∈ s ↔ z ∈ ids.take (i + 1)) := by
                intro z
                rw [hme.out, List.take_succ_eq_append_getElem hlt, List.mem_append, List.mem_singleton]
                constructor
                · exact .inl
                · rintro (h | h)
                  · exact h
                  · have e : ids[i] = x := by rw [HX.out]; simp [List.getD, List.getElem?_eq_getElem hlt]
                    rw [h, e, ← hme.out, ← HXY.out, HY.out]
                    exact at_mem s k hlt2
              go_wp2
              go_roundg (ids.length - (i + 1))
              case measure => omega
              case rel => exact ⟨i + 1, some ⟨b2, o2, none⟩, c', s, by omega, Nat.le_refl _, rfl, by go_num, by omega, hri, HMEM, HAL, Lib.hid (hB.out.trans (HWF.out.mono hB.out.size))⟩
            · have hdd : decide (y = x) = false := by simp [hxy]
              rw [hdd] at hneq
              clear hdd
              have HNX : Hid (k < s.length → ltN x (s.getD k default)) := fun _ => by rw [← HY.out]; exact ltN_of_not HYX.out hxy
              clear hxy
              go_wp2_with fail
              refine wp_region_quiet_lit (by kernel_rfl) (by kernel_rfl) ?_
              repeat (first
                | go_big_quiet_step (fail)
                | (refine q_loadm _ _ rfl (by rfl) b (o + i * 32) (encN x) rfl _ Tryz.underlying40 rfl HXI.out (by rintro W' ⟨n, rfl⟩; exact HLX.out _ (be_drewN HWR.out n)) ?_; simp only [Act.put]; go_simp)
                | (refine q_loadm _ _ rfl (by rfl) b2 (o2 + k * 32) (encN y) rfl _ Tryz.underlying40 rfl HYI.out (by rintro W' ⟨n, rfl⟩; exact HLY.out _ (be_drewN HW.out n)) ?_; simp only [Act.put]; go_simp))
              refine wpQuiet_nil ?_
              intro nq
              have HWZ := Lib.hid (be_drewN HWR.out nq)
              clear hneq
              generalize W.drewN nq = wz at *
              have hsl1 := slice_toM (P := Tryz.prog) (A := (some ⟨b2, o2, none⟩)) (c := c') 52 40 s.length k Tryz.underlying52 (by kernel_rfl) (by omega)
              obtain ⟨A2, hsl2, hAD⟩ := slice_fromN (has.out.later HWZ.out) k hk
              have HSD := Lib.hid hAD
              have HST : Hid (ArgN wz (some ⟨b2, o2, none⟩) c' (s.take k)) := (has.out.later HWZ.out).take k
              have hkt : (s.take k).length = k := by rw [List.length_take]; omega
              have HKT := Lib.hid hkt
              have hdt : (s.drop k).length ≤ 100 := by rw [List.length_drop]; omega
              have HDT := Lib.hid hdt
              have HRISE : Hid (Rise (s.take k ++ x :: s.drop k)) := rise_ins hri.out hk hpre.out HNX.out
              have HMEM : Hid (∀ y, y ∈ s.take k ++ x :: s.drop k ↔ y ∈ ids.take (i + 1)) := by
                intro y
                rw [mem_ins, hme.out, List.take_succ_eq_append_getElem hlt, List.mem_append, List.mem_singleton, HX.out]
                simp [List.getD, List.getElem?_eq_getElem hlt]
              have HLEN : Hid ((s.take k ++ x :: s.drop k).length ≤ i + 1) := by
                show _ ≤ _
                rw [List.length_append, List.length_cons, List.length_take, List.length_drop]
                omega
              clear hAD hkt hpre hdt
              go_wp2_with fail
              refine wp_region_held_drew (S := fun w' => Below wz.heap.size wz w') (by kernel_rfl) (Below.refl _ _).drew (fun hH => ?_)
              refine wpAnyH_take (i := 0) (oi := { dst := some 44, op := _, type := _, pos := _, after := _, guard := none }) (v := .slice (some ⟨b2, o2, none⟩) s.length c') rfl (by kernel_rfl) (by kernel_rfl) (by kernel_rfl) (fun _ _ _ h => h) (Or.inl ⟨by rfl, ?_⟩) hH ?_
              · intro W hSw
                go_simp
              refine wpAnyH_take (i := 1) (oi := { dst := some 45, op := _, type := _, pos := _, after := _, guard := none }) (v := .int .i64 (k : Int)) rfl (by kernel_rfl) (by kernel_rfl) (by kernel_rfl) (fun _ _ _ h => h) (Or.inl ⟨by rfl, ?_⟩) hH ?_
              · intro W hSw
                go_simp
              refine wpAnyH_take (i := 2) (oi := { dst := some 46, op := _, type := _, pos := _, after := _, guard := none }) (v := .slice (some ⟨b2, o2, none⟩) k c') rfl (by kernel_rfl) (by kernel_rfl) (by kernel_rfl) (fun _ _ _ h => h) (Or.inl ⟨by rfl, ?_⟩) hH ?_
              · intro W hSw
                go_simp
              refine wpAnyH_take (i := 4) (oi := { dst := some 48, op := _, type := _, pos := _, after := _, guard := none }) (v := .slice (some ⟨b, o, none⟩) ids.length c) rfl (by kernel_rfl) (by kernel_rfl) (by kernel_rfl) (fun _ _ _ h => h) (Or.inl ⟨by rfl, ?_⟩) hH ?_
              · intro W hSw
                go_simp
              refine wpAnyH_take (i := 5) (oi := { dst := some 49, op := _, type := _, pos := _, after := _, guard := none }) (v := .int .i64 (i : Int)) rfl (by kernel_rfl) (by kernel_rfl) (by kernel_rfl) (fun _ _ _ h => h) (Or.inl ⟨by rfl, ?_⟩) hH ?_
              · intro W hSw
                go_simp
              refine wpAnyH_take (i := 6) (oi := { dst := some 50, op := _, type := _, pos := _, after := _, guard := none }) (v := .pointer (some ⟨b, o + i * 32, none⟩)) rfl (by kernel_rfl) (by kernel_rfl) (by kernel_rfl) (fun _ _ _ h => h) (Or.inl ⟨by rfl, ?_⟩) hH ?_
              · intro W hSw
                go_simp
              refine wpAnyH_take (i := 7) (oi := _) (v := .agg (encN x).toArray) rfl (by kernel_rfl) (by kernel_rfl) (by kernel_rfl) (fun _ _ _ h => h) (yieldsIf_load_mid (by rfl) _ _ rfl b (o + i * 32) rfl (encN x) _ (fun W hW => HLX.out W (HWZ.out.trans (hW.mono HWZ.out.size))) Tryz.underlying40 rfl HXI.out) hH ?_
              refine wpAnyH_take (i := 10) (oi := { dst := some 54, op := _, type := _, pos := _, after := _, guard := none }) (v := .slice (some ⟨b2, o2, none⟩) s.length c') rfl (by kernel_rfl) (by kernel_rfl) (by kernel_rfl) (fun _ _ _ h => h) (Or.inl ⟨by rfl, ?_⟩) hH ?_
              · intro W hSw
                go_simp
              refine wpAnyH_take (i := 11) (oi := { dst := some 55, op := _, type := _, pos := _, after := _, guard := none }) (v := .int .i64 (k : Int)) rfl (by kernel_rfl) (by kernel_rfl) (by kernel_rfl) (fun _ _ _ h => h) (Or.inl ⟨by rfl, ?_⟩) hH ?_
              · intro W hSw
                go_simp
              refine wpAnyH_take (i := 12) (oi := { dst := some 56, op := _, type := _, pos := _, after := _, guard := none }) (v := .slice A2 (s.drop k).length (c' - k)) rfl (by kernel_rfl) (by kernel_rfl) (by kernel_rfl) (fun _ _ _ h => h) (Or.inl ⟨by rfl, ?_⟩) hH ?_
              · intro W hSw
                go_simp
              simp only [Act.put]
              go_simp
              refine wpAnyH_ready (rs := [3, 8]) (by kernel_rfl) (by simp) ?_
              refine AllReadyH.cons (o := _) rfl (fun K hK => ?_) (AllReadyH.cons (o := _) rfl (fun K hK => ?_) AllReadyH.nil)
              · rw [if_pos (by rfl)]
                refine wp_appendN _ _ rfl wz.heap.size (.slice none 0 0) [] rfl (World.ownsRow_nil _ _ _ _) (some ⟨b2, o2, none⟩) k c' (s.take k) HKT.out rfl (HST.out.later hH) hH.size (by rw [HKT.out]; simp; omega) (fun v1 w1 hown hbe => ?_)
                rw [List.nil_append] at hown
                refine hK.out _ _ (hH.trans hbe) (fun hH => ?_)
                refine wpAnyH_ready (rs := [8]) (by kernel_rfl) (by simp) ?_
                refine AllReadyH.cons (o := _) rfl (fun K hK => ?_) AllReadyH.nil
                rw [if_pos (by rfl)]
                refine wp_buildN _ rfl x rfl ?_
                refine hK.out _ _ (hH.alloc hH.size _) (fun hH => ?_)
                have hown := own_later hown ((Below.refl w1.heap.size w1).alloc (Nat.le_refl _) (.cells (encN x).toArray 40))
                have harg := arg_one (Whole.made w1 40 (encN x).toArray)
                generalize w1.heap.size = gb at *
                generalize w1.alloc (.cells (encN x).toArray 40) = w2 at *
                refine wpAnyH_ready (rs := [9]) (by kernel_rfl) (by simp) ?_
                refine AllReadyH.cons (o := _) rfl (fun K hK => ?_) AllReadyH.nil
                rw [if_pos (by rfl)]
                refine wp_appendN _ _ rfl wz.heap.size v1 (s.take k) rfl hown (some ⟨gb, 0, none⟩) 1 1 [x] rfl rfl harg hH.size (by rw [HKT.out]; simp; omega) (fun v2 w3 hown hbe => ?_)
                refine hK.out _ _ (hH.trans hbe) (fun hH => ?_)
                refine wpAnyH_ready (rs := [13]) (by kernel_rfl) (by simp) ?_
                refine AllReadyH.cons (o := _) rfl (fun K hK => ?_) AllReadyH.nil
                rw [if_pos (by rfl)]
                refine wp_appendN _ _ rfl wz.heap.size v2 (s.take k ++ [x]) rfl hown A2 (s.length - k) (c' - k) (s.drop k) List.length_drop rfl (HSD.out.later hH) hH.size (by rw [List.length_append, HKT.out]; have := HDT.out; simp; omega) (fun v3 w4 hown hbe => ?_)
                refine hK.out _ _ (hH.trans hbe) (fun hH => ?_)
                rw [List.append_assoc, List.singleton_append] at hown
                obtain ⟨A3, c3, rfl, harg3⟩ := own_arg hown
                have HARG3 := Lib.hid harg3
                have HWF := Lib.hid hH
                clear harg3 hown harg
                refine wpAnyH_take (i := 14) (oi := { dst := some 3, op := _, type := _, pos := _, after := _, guard := none }) (v := .slice A3 (s.take k ++ x :: s.drop k).length c3) rfl (by kernel_rfl) (by kernel_rfl) (by kernel_rfl) (fun _ _ _ h => h) (Or.inl ⟨by rfl, ?_⟩) hH ?_
                · intro W hSw
                  go_simp
                refine wpAnyH_done (by kernel_rfl) ?_ _
                generalize s.take k ++ x :: s.drop k = s3 at *
                go_wp2
                go_roundg (ids.length - (i + 1))
                case measure => omega
                case rel => exact ⟨i + 1, A3, c3, s3, by omega, Nat.le_refl _, rfl, by go_num, HLEN.out, HRISE, HMEM, HARG3, Lib.hid (hB.out.trans ((HWZ.out.trans (HWF.out.mono HWZ.out.size)).mono hB.out.size))⟩
              · rw [if_pos (by rfl)]
                refine wp_buildN _ rfl x rfl ?_
                refine hK.out _ _ (hH.alloc hH.size _) (fun hH => ?_)
                have harg := arg_one (Whole.made wz.drew 40 (encN x).toArray)
                generalize wz.drew.heap.size = gb at *
                generalize wz.drew.alloc (.cells (encN x).toArray 40) = w2 at *
                have hz2 := hH.size
                refine wpAnyH_ready (rs := [3]) (by kernel_rfl) (by simp) ?_
                refine AllReadyH.cons (o := _) rfl (fun K hK => ?_) AllReadyH.nil
                rw [if_pos (by rfl)]
                refine wp_appendN _ _ rfl w2.heap.size (.slice none 0 0) [] rfl (World.ownsRow_nil _ _ _ _) (some ⟨b2, o2, none⟩) k c' (s.take k) HKT.out rfl (HST.out.later hH) (Nat.le_refl _) (by rw [HKT.out]; simp; omega) (fun v1 w1 hown hbe => ?_)
                rw [List.nil_append] at hown
                refine hK.out _ _ (hH.trans (hbe.mono hz2)) (fun hH => ?_)
                have harg := harg.later hbe
                have hz3 := hbe.size
                refine wpAnyH_ready (rs := [9]) (by kernel_rfl) (by simp) ?_
                refine AllReadyH.cons (o := _) rfl (fun K hK => ?_) AllReadyH.nil
                rw [if_pos (by rfl)]
                refine wp_appendN _ _ rfl w2.heap.size v1 (s.take k) rfl hown (some ⟨gb, 0, none⟩) 1 1 [x] rfl rfl harg hz3 (by rw [HKT.out]; simp; omega) (fun v2 w3 hown hbe => ?_)
                have hz4 := Nat.le_trans hz3 hbe.size
                refine hK.out _ _ (hH.trans (hbe.mono hz2)) (fun hH => ?_)
                refine wpAnyH_ready (rs := [13]) (by kernel_rfl) (by simp) ?_
                refine AllReadyH.cons (o := _) rfl (fun K hK => ?_) AllReadyH.nil
                rw [if_pos (by rfl)]
                refine wp_appendN _ _ rfl w2.heap.size v2 (s.take k ++ [x]) rfl hown A2 (s.length - k) (c' - k) (s.drop k) List.length_drop rfl (HSD.out.later hH) hz4 (by rw [List.length_append, HKT.out]; have := HDT.out; simp; omega) (fun v3 w4 hown hbe => ?_)
                refine hK.out _ _ (hH.trans (hbe.mono hz2)) (fun hH => ?_)
                rw [List.append_assoc, List.singleton_append] at hown
                obtain ⟨A3, c3, rfl, harg3⟩ := own_arg hown
                have HARG3 := Lib.hid harg3
                have HWF := Lib.hid hH
                clear harg3 hown harg
                refine wpAnyH_take (i := 14) (oi := { dst := some 3, op := _, type := _, pos := _, after := _, guard := none }) (v := .slice A3 (s.take k ++ x :: s.drop k).length c3) rfl (by kernel_rfl) (by kernel_rfl) (by kernel_rfl) (fun _ _ _ h => h) (Or.inl ⟨by rfl, ?_⟩) hH ?_
                · intro W hSw
                  go_simp
                refine wpAnyH_done (by kernel_rfl) ?_ _
                generalize s.take k ++ x :: s.drop k = s3 at *
                go_wp2
                go_roundg (ids.length - (i + 1))
                case measure => omega
                case rel => exact ⟨i + 1, A3, c3, s3, by omega, Nat.le_refl _, rfl, by go_num, HLEN.out, HRISE, HMEM, HARG3, Lib.hid (hB.out.trans ((HWZ.out.trans (HWF.out.mono HWZ.out.size)).mono hB.out.size))⟩
        · have hke : k = s.length := by omega
          have e1 : decide ((k : Int) < (s.length : Int)) = false := decide_eq_false (by omega)
          have e2 : ((k : Int) == (s.length : Int)) = true := by simp [hke]
          have HKE := Lib.hid hke
          clear hke
          have HNX : Hid (k < s.length → ltN x (s.getD k default)) := fun h => absurd h hlt2
          go_wp2_with fail
          refine wp_region_quiet_below (by kernel_rfl) (by kernel_rfl) ?_
          repeat (first
            | go_big_quiet_step (fail))
          refine wpQuiet_nil ?_
          rintro _ ⟨p, rfl⟩
          have HW := Lib.hid (below_regrown wr p.d p.os)
          generalize Sort.grow (redrawn wr p.d) p.os = W at *
          have HWR := Lib.hid (hwr.out.trans (HW.out.mono hwr.out.size))
          go_wp2_with fail
          refine wp_region_quiet_lit (by kernel_rfl) (by kernel_rfl) ?_
          repeat (first
            | go_big_quiet_step (fail))
          refine wpQuiet_nil ?_
          rintro _ ⟨nq, rfl⟩
          have HWZ := Lib.hid (be_drewN HWR.out nq)
          generalize W.drewN nq = wz at *
          have hsl1 := slice_toM (P := Tryz.prog) (A := A') (c := c') 52 40 s.length k Tryz.underlying52 (by kernel_rfl) (by omega)
          obtain ⟨A2, hsl2, hAD⟩ := slice_fromN (has.out.later HWZ.out) k hk
          have HSD := Lib.hid hAD
          have HST : Hid (ArgN wz A' c' (s.take k)) := (has.out.later HWZ.out).take k
          have hkt : (s.take k).length = k := by rw [List.length_take]; omega
          have HKT := Lib.hid hkt
          have hdt : (s.drop k).length ≤ 100 := by rw [List.length_drop]; omega
          have HDT := Lib.hid hdt
          have HRISE : Hid (Rise (s.take k ++ x :: s.drop k)) := rise_ins hri.out hk hpre.out HNX.out
          have HMEM : Hid (∀ y, y ∈ s.take k ++ x :: s.drop k ↔ y ∈ ids.take (i + 1)) := by
            intro y
            rw [mem_ins, hme.out, List.take_succ_eq_append_getElem hlt, List.mem_append, List.mem_singleton, HX.out]
            simp [List.getD, List.getElem?_eq_getElem hlt]
          have HLEN : Hid ((s.take k ++ x :: s.drop k).length ≤ i + 1) := by
            show _ ≤ _
            rw [List.length_append, List.length_cons, List.length_take, List.length_drop]
            omega
          clear hAD hkt hpre hdt
          go_wp2_with fail
          refine wp_region_held_drew (S := fun w' => Below wz.heap.size wz w') (by kernel_rfl) (Below.refl _ _).drew (fun hH => ?_)
          refine wpAnyH_take (i := 0) (oi := { dst := some 44, op := _, type := _, pos := _, after := _, guard := none }) (v := .slice A' s.length c') rfl (by kernel_rfl) (by kernel_rfl) (by kernel_rfl) (fun _ _ _ h => h) (Or.inl ⟨by rfl, ?_⟩) hH ?_
          · intro W hSw
            go_simp
          refine wpAnyH_take (i := 1) (oi := { dst := some 45, op := _, type := _, pos := _, after := _, guard := none }) (v := .int .i64 (k : Int)) rfl (by kernel_rfl) (by kernel_rfl) (by kernel_rfl) (fun _ _ _ h => h) (Or.inl ⟨by rfl, ?_⟩) hH ?_
          · intro W hSw
            go_simp
          refine wpAnyH_take (i := 2) (oi := { dst := some 46, op := _, type := _, pos := _, after := _, guard := none }) (v := .slice A' k c') rfl (by kernel_rfl) (by kernel_rfl) (by kernel_rfl) (fun _ _ _ h => h) (Or.inl ⟨by rfl, ?_⟩) hH ?_
          · intro W hSw
            go_simp
          refine wpAnyH_take (i := 4) (oi := { dst := some 48, op := _, type := _, pos := _, after := _, guard := none }) (v := .slice (some ⟨b, o, none⟩) ids.length c) rfl (by kernel_rfl) (by kernel_rfl) (by kernel_rfl) (fun _ _ _ h => h) (Or.inl ⟨by rfl, ?_⟩) hH ?_
          · intro W hSw
            go_simp
          refine wpAnyH_take (i := 5) (oi := { dst := some 49, op := _, type := _, pos := _, after := _, guard := none }) (v := .int .i64 (i : Int)) rfl (by kernel_rfl) (by kernel_rfl) (by kernel_rfl) (fun _ _ _ h => h) (Or.inl ⟨by rfl, ?_⟩) hH ?_
          · intro W hSw
            go_simp
          refine wpAnyH_take (i := 6) (oi := { dst := some 50, op := _, type := _, pos := _, after := _, guard := none }) (v := .pointer (some ⟨b, o + i * 32, none⟩)) rfl (by kernel_rfl) (by kernel_rfl) (by kernel_rfl) (fun _ _ _ h => h) (Or.inl ⟨by rfl, ?_⟩) hH ?_
          · intro W hSw
            go_simp
          refine wpAnyH_take (i := 7) (oi := _) (v := .agg (encN x).toArray) rfl (by kernel_rfl) (by kernel_rfl) (by kernel_rfl) (fun _ _ _ h => h) (yieldsIf_load_mid (by rfl) _ _ rfl b (o + i * 32) rfl (encN x) _ (fun W hW => HLX.out W (HWZ.out.trans (hW.mono HWZ.out.size))) Tryz.underlying40 rfl HXI.out) hH ?_
          refine wpAnyH_take (i := 10) (oi := { dst := some 54, op := _, type := _, pos := _, after := _, guard := none }) (v := .slice A' s.length c') rfl (by kernel_rfl) (by kernel_rfl) (by kernel_rfl) (fun _ _ _ h => h) (Or.inl ⟨by rfl, ?_⟩) hH ?_
          · intro W hSw
            go_simp
          refine wpAnyH_take (i := 11) (oi := { dst := some 55, op := _, type := _, pos := _, after := _, guard := none }) (v := .int .i64 (k : Int)) rfl (by kernel_rfl) (by kernel_rfl) (by kernel_rfl) (fun _ _ _ h => h) (Or.inl ⟨by rfl, ?_⟩) hH ?_
          · intro W hSw
            go_simp
          refine wpAnyH_take (i := 12) (oi := { dst := some 56, op := _, type := _, pos := _, after := _, guard := none }) (v := .slice A2 (s.drop k).length (c' - k)) rfl (by kernel_rfl) (by kernel_rfl) (by kernel_rfl) (fun _ _ _ h => h) (Or.inl ⟨by rfl, ?_⟩) hH ?_
          · intro W hSw
            go_simp
          simp only [Act.put]
          go_simp
          refine wpAnyH_ready (rs := [3, 8]) (by kernel_rfl) (by simp) ?_
          refine AllReadyH.cons (o := _) rfl (fun K hK => ?_) (AllReadyH.cons (o := _) rfl (fun K hK => ?_) AllReadyH.nil)
          · rw [if_pos (by rfl)]
            refine wp_appendN _ _ rfl wz.heap.size (.slice none 0 0) [] rfl (World.ownsRow_nil _ _ _ _) A' k c' (s.take k) HKT.out rfl (HST.out.later hH) hH.size (by rw [HKT.out]; simp; omega) (fun v1 w1 hown hbe => ?_)
            rw [List.nil_append] at hown
            refine hK.out _ _ (hH.trans hbe) (fun hH => ?_)
            refine wpAnyH_ready (rs := [8]) (by kernel_rfl) (by simp) ?_
            refine AllReadyH.cons (o := _) rfl (fun K hK => ?_) AllReadyH.nil
            rw [if_pos (by rfl)]
            refine wp_buildN _ rfl x rfl ?_
            refine hK.out _ _ (hH.alloc hH.size _) (fun hH => ?_)
            have hown := own_later hown ((Below.refl w1.heap.size w1).alloc (Nat.le_refl _) (.cells (encN x).toArray 40))
            have harg := arg_one (Whole.made w1 40 (encN x).toArray)
            generalize w1.heap.size = gb at *
            generalize w1.alloc (.cells (encN x).toArray 40) = w2 at *
            refine wpAnyH_ready (rs := [9]) (by kernel_rfl) (by simp) ?_
            refine AllReadyH.cons (o := _) rfl (fun K hK => ?_) AllReadyH.nil
            rw [if_pos (by rfl)]
            refine wp_appendN _ _ rfl wz.heap.size v1 (s.take k) rfl hown (some ⟨gb, 0, none⟩) 1 1 [x] rfl rfl harg hH.size (by rw [HKT.out]; simp; omega) (fun v2 w3 hown hbe => ?_)
            refine hK.out _ _ (hH.trans hbe) (fun hH => ?_)
            refine wpAnyH_ready (rs := [13]) (by kernel_rfl) (by simp) ?_
            refine AllReadyH.cons (o := _) rfl (fun K hK => ?_) AllReadyH.nil
            rw [if_pos (by rfl)]
            refine wp_appendN _ _ rfl wz.heap.size v2 (s.take k ++ [x]) rfl hown A2 (s.length - k) (c' - k) (s.drop k) List.length_drop rfl (HSD.out.later hH) hH.size (by rw [List.length_append, HKT.out]; have := HDT.out; simp; omega) (fun v3 w4 hown hbe => ?_)
            refine hK.out _ _ (hH.trans hbe) (fun hH => ?_)
            rw [List.append_assoc, List.singleton_append] at hown
            obtain ⟨A3, c3, rfl, harg3⟩ := own_arg hown
            have HARG3 := Lib.hid harg3
            have HWF := Lib.hid hH
            clear harg3 hown harg
            refine wpAnyH_take (i := 14) (oi := { dst := some 3, op := _, type := _, pos := _, after := _, guard := none }) (v := .slice A3 (s.take k ++ x :: s.drop k).length c3) rfl (by kernel_rfl) (by kernel_rfl) (by kernel_rfl) (fun _ _ _ h => h) (Or.inl ⟨by rfl, ?_⟩) hH ?_
            · intro W hSw
              go_simp
            refine wpAnyH_done (by kernel_rfl) ?_ _
            generalize s.take k ++ x :: s.drop k = s3 at *
            go_wp2
            go_roundg (ids.length - (i + 1))
            case measure => omega
            case rel => exact ⟨i + 1, A3, c3, s3, by omega, Nat.le_refl _, rfl, by go_num, HLEN.out, HRISE, HMEM, HARG3, Lib.hid (hB.out.trans ((HWZ.out.trans (HWF.out.mono HWZ.out.size)).mono hB.out.size))⟩
          · rw [if_pos (by rfl)]
            refine wp_buildN _ rfl x rfl ?_
            refine hK.out _ _ (hH.alloc hH.size _) (fun hH => ?_)
            have harg := arg_one (Whole.made wz.drew 40 (encN x).toArray)
            generalize wz.drew.heap.size = gb at *
            generalize wz.drew.alloc (.cells (encN x).toArray 40) = w2 at *
            have hz2 := hH.size
            refine wpAnyH_ready (rs := [3]) (by kernel_rfl) (by simp) ?_
            refine AllReadyH.cons (o := _) rfl (fun K hK => ?_) AllReadyH.nil
            rw [if_pos (by rfl)]
            refine wp_appendN _ _ rfl w2.heap.size (.slice none 0 0) [] rfl (World.ownsRow_nil _ _ _ _) A' k c' (s.take k) HKT.out rfl (HST.out.later hH) (Nat.le_refl _) (by rw [HKT.out]; simp; omega) (fun v1 w1 hown hbe => ?_)
            rw [List.nil_append] at hown
            refine hK.out _ _ (hH.trans (hbe.mono hz2)) (fun hH => ?_)
            have harg := harg.later hbe
            have hz3 := hbe.size
            refine wpAnyH_ready (rs := [9]) (by kernel_rfl) (by simp) ?_
            refine AllReadyH.cons (o := _) rfl (fun K hK => ?_) AllReadyH.nil
            rw [if_pos (by rfl)]
            refine wp_appendN _ _ rfl w2.heap.size v1 (s.take k) rfl hown (some ⟨gb, 0, none⟩) 1 1 [x] rfl rfl harg hz3 (by rw [HKT.out]; simp; omega) (fun v2 w3 hown hbe => ?_)
            have hz4 := Nat.le_trans hz3 hbe.size
            refine hK.out _ _ (hH.trans (hbe.mono hz2)) (fun hH => ?_)
            refine wpAnyH_ready (rs := [13]) (by kernel_rfl) (by simp) ?_
            refine AllReadyH.cons (o := _) rfl (fun K hK => ?_) AllReadyH.nil
            rw [if_pos (by rfl)]
            refine wp_appendN _ _ rfl w2.heap.size v2 (s.take k ++ [x]) rfl hown A2 (s.length - k) (c' - k) (s.drop k) List.length_drop rfl (HSD.out.later hH) hz4 (by rw [List.length_append, HKT.out]; have := HDT.out; simp; omega) (fun v3 w4 hown hbe => ?_)
            refine hK.out _ _ (hH.trans (hbe.mono hz2)) (fun hH => ?_)
            rw [List.append_assoc, List.singleton_append] at hown
            obtain ⟨A3, c3, rfl, harg3⟩ := own_arg hown
            have HARG3 := Lib.hid harg3
            have HWF := Lib.hid hH
            clear harg3 hown harg
            refine wpAnyH_take (i := 14) (oi := { dst := some 3, op := _, type := _, pos := _, after := _, guard := none }) (v := .slice A3 (s.take k ++ x :: s.drop k).length c3) rfl (by kernel_rfl) (by kernel_rfl) (by kernel_rfl) (fun _ _ _ h => h) (Or.inl ⟨by rfl, ?_⟩) hH ?_
            · intro W hSw
              go_simp
            refine wpAnyH_done (by kernel_rfl) ?_ _
            generalize s.take k ++ x :: s.drop k = s3 at *
            go_wp2
            go_roundg (ids.length - (i + 1))
            case measure => omega
            case rel => exact ⟨i + 1, A3, c3, s3, by omega, Nat.le_refl _, rfl, by go_num, HLEN.out, HRISE, HMEM, HARG3, Lib.hid (hB.out.trans ((HWZ.out.trans (HWF.out.mono HWZ.out.size)).mono hB.out.size))⟩
    · obtain rfl : i = ids.length := by omega
      have HME : Hid (∀ x, x ∈ s ↔ x ∈ ids) := by
        have := hme.out
        rw [List.take_length] at this
        exact this
      go_wp2
      go_ret
      exact ⟨A', c', s, rfl, hri.out, HME.out, has.out, hB.out⟩
end Go.Proofs.YtacmdpfidakkkaaGreatDoor

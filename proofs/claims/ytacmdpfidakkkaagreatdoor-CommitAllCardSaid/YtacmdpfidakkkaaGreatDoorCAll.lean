/-
  CommitAll, walked.
-/
import Derived.Test.YtacmdpfidakkkaaGreatDoorCTur
import Derived.Test.YtacmdpfidakkkaaGreatDoorMhh
import Derived.Test.YtacmdpfidakkkaaGreatDoorComE
import Derived.Lib.QuietBelow
namespace Go.Proofs.YtacmdpfidakkkaaGreatDoor
open Go.RowKit

theorem below_clsA {w W : World} (h : ∃ p : Regrown, W = Sort.grow (redrawn w p.d) p.os) : Below w.heap.size w W := by
  obtain ⟨p, rfl⟩ := h
  exact below_regrown _ _ _
theorem ex_half (l : List UInt8) (n : Nat) : (ByteArray.mk l.toArray).extract 0 n = ⟨(l.take n).toArray⟩ := by
  rw [ByteArray.extract_mk]
  simp
set_option maxRecDepth 100000 in
set_option maxHeartbeats 8000000 in
theorem call_any (A : Option Addr) (c : Nat) (x : Cm) (A2 : Option Addr) (c2 : Nat) (y : Cm) (s : List UInt8) (w : World) (hE : Env w) (hT : Tens w) (hA : ArgN w A c x.parents) (ht : x.time < 18446744073709551616) (hA2 : ArgN w A2 c2 y.parents) (ht2 : y.time < 18446744073709551616) :
    Calls Tryz.prog 8 #[.agg (encC A c x).toArray, .agg (encC A2 c2 y).toArray, .string ⟨s.toArray⟩] w fun e w' => e = .returned (.bool true) ∧ Below w.heap.size w w' := by
  have HB := Lib.hid (((Below.refl w.heap.size w).alloc (Nat.le_refl _) (.cells (encC A c x).toArray 55)).alloc (by simp) (.cells (encC A2 c2 y).toArray 55))
  have HT := Lib.hid (hT.below HB.out)
  have HE := Lib.hid (hE.at_ HB.out)
  have HW := Lib.hid (Whole.past (Whole.made w 55 (encC A c x).toArray) (.cells (encC A2 c2 y).toArray 55))
  have HV : Hid (Whole ((w.alloc (.cells (encC A c x).toArray 55)).alloc (.cells (encC A2 c2 y).toArray 55)) (w.heap.size + 1) 55 (encC A2 c2 y).toArray) := by
    show Whole _ _ _ _
    have := Whole.made (w.alloc (.cells (encC A c x).toArray 55)) 55 (encC A2 c2 y).toArray
    simpa using this
  have hs0 : ((w.alloc (.cells (encC A c x).toArray 55)).alloc (.cells (encC A2 c2 y).toArray 55)).heap.size = w.heap.size + 2 := by simp
  have HA := Lib.hid (hA.later HB.out)
  have HA2 := Lib.hid (hA2.later HB.out)
  have HTM : Hid ((trimC x).time < 18446744073709551616) := ht
  have HTM2 : Hid ((trimC y).time < 18446744073709551616) := ht2
  have HXI := Lib.hid (infoC_l A c x)
  have HYI := Lib.hid (infoC_l A2 c2 y)
  have HXZ := Lib.hid (encC_s A c x)
  have HYZ := Lib.hid (encC_s A2 c2 y)
  have HTX : Hid (∀ W, Calls Tryz.prog 15 #[.string ⟨s.toArray⟩, .int .i64 200] W fun e w' => e = .returned (.string ⟨(s.take 200).toArray⟩) ∧ W = w') := fun W => text_any s 200 W
  clear hE hT hA hA2 ht ht2
  go_enter Tryz.func8, Tryz.ntmps8
  go_wp2_with fail
  generalize (w.alloc (.cells (encC A c x).toArray 55)).alloc (.cells (encC A2 c2 y).toArray 55) = w0 at *
  refine (begun6_any w0 HE.out HT.out).mono ?_
  rintro e w1 ⟨rfl, hb⟩
  have HB1 := Lib.hid (HB.out.trans (hb.drew.mono HB.out.size))
  have HW1 : Hid (Whole w1.drew w.heap.size 55 (encC A c x).toArray) := HW.out.below hb.drew (by omega)
  have HV1 : Hid (Whole w1.drew (w.heap.size + 1) 55 (encC A2 c2 y).toArray) := HV.out.below hb.drew (by omega)
  have HA1 := Lib.hid (HA.out.later hb.drew)
  have HA21 := Lib.hid (HA2.out.later hb.drew)
  have hs1 : w.heap.size + 2 ≤ w1.drew.heap.size := by have := hb.size; show _ ≤ w1.heap.size; omega
  clear hb HE HT HB HW HV HA HA2 hs0
  go_wp2_with fail
  refine wp_region_K (fun W => W.rangeAt (w.heap.size + 1) 0 (encC A2 c2 y)) 7 (by kernel_rfl) ?_
  change wpAnyK _ _ _ _ _ _ _ _ _ (World.drew w1)
  generalize World.drew w1 = w2 at *
  have hS0 : w2.rangeAt (w.heap.size + 1) 0 (encC A2 c2 y) := whole_range HV1.out
  refine wpAnyK_take0 (i := 4) (oi := { dst := some 24, op := _, type := _, pos := _, after := _, guard := none }) (v := .string ⟨s.toArray⟩) rfl (by kernel_rfl) (fun _ _ _ h => h) (Or.inl ⟨by rfl, fun W hW => ?_⟩) (fun _ => hS0) ?_
  · go_simp
  simp only [Act.put]
  go_simp
  refine wpAnyK_take (i := 2) (oi := _) (v := .agg (encC A2 c2 y).toArray) rfl (by kernel_rfl) (fun _ _ _ h => h) (yieldsIf_load_mid (by rfl) _ _ rfl (w.heap.size + 1) 0 rfl (encC A2 c2 y) _ (fun W hW => hW) Tryz.underlying55 rfl HYI.out) hS0 ?_
  simp only [Act.put]
  go_simp
  refine wpAnyK_ready (rs := [0]) (by kernel_rfl) (by simp) ?_
  refine AllReadyK.cons (o := _) rfl (fun K hK => ?_) AllReadyK.nil
  rw [if_pos (by rfl)]
  refine wp_load_mid 55 _ rfl w.heap.size 0 rfl (encC A c x) _ (whole_range HW1.out) Tryz.underlying55 rfl HXI.out ?_
  refine hK _ _ (fun _ => hS0) ?_
  clear hK K
  refine wpAnyK_ready (rs := [1]) (by kernel_rfl) (by simp) ?_
  refine AllReadyK.cons (o := _) rfl (fun K hK => ?_) AllReadyK.nil
  rw [if_pos (by rfl)]
  simp only [Act.put]
  go_simp
  refine (lcom_any A c x w2 HA1.out).mono ?_
  rintro e w3 ⟨⟨A3, c3, rfl, hn, hlo⟩, hb⟩
  have HB3 := Lib.hid (HB1.out.trans (hb.mono (by omega)))
  have HW3 := Lib.hid (HW1.out.below hb (by omega))
  have HV3 := Lib.hid (HV1.out.below hb (by omega))
  have HA23 := Lib.hid (HA21.out.later hb)
  have HN3 := Lib.hid hn
  have HLO3 : Hid (∀ j, inBlk A3 j → w.heap.size + 2 ≤ j) := fun j hj => by have := hlo j hj; omega
  have hs3 : w.heap.size + 2 ≤ w3.heap.size := by have := hb.size; omega
  have hS3 := whole_range HV3.out
  clear hb hn hlo hS0 HB1 HW1 HV1 HA1 HA21
  refine hK _ _ (fun _ => hS3) ?_
  clear hK K
  refine wpAnyK_ready (rs := [3]) (by kernel_rfl) (by simp) ?_
  refine AllReadyK.cons (o := _) rfl (fun K hK => ?_) AllReadyK.nil
  rw [if_pos (by rfl)]
  go_simp
  refine (lcom_any A2 c2 y w3 HA23.out).mono ?_
  rintro e w4 ⟨⟨A4, c4, rfl, hn, hlo⟩, hb⟩
  have HB4 := Lib.hid (HB3.out.trans (hb.mono (by omega)))
  have HW4 := Lib.hid (HW3.out.below hb (by omega))
  have HV4 := Lib.hid (HV3.out.below hb (by omega))
  have HN4 := Lib.hid (HN3.out.later hb)
  have HM4 := Lib.hid hn
  have HLO4 : Hid (∀ j, inBlk A4 j → w.heap.size + 2 ≤ j) := fun j hj => by have := hlo j hj; omega
  have hs4 : w.heap.size + 2 ≤ w4.heap.size := by have := hb.size; omega
  have hS4 := whole_range HV4.out
  clear hb hn hlo hS3 HB3 HW3 HV3 HA23 HN3
  refine hK _ _ (fun _ => hS4) ?_
  clear hK K
  refine wpAnyK_ready (rs := [5]) (by kernel_rfl) (by simp) ?_
  refine AllReadyK.cons (o := _) rfl (fun K hK => ?_) AllReadyK.nil
  rw [if_pos (by rfl)]
  go_simp
  refine (HTX.out _).mono ?_
  rintro e w' ⟨rfl, rfl⟩
  refine hK _ _ (fun _ => hS4) ?_
  clear hK K
  have hth : w4.there w.heap.size 0 (encC A3 c3 (trimC x)).toArray.size := by
    intro j hj
    rw [encC_s] at hj
    refine ⟨?_, HW4.out.thawed _⟩
    rw [HW4.out.at_, Array.getElem?_eq_getElem (by have := HXZ.out; omega)]
    rfl
  have hW5 := whole_setCells (encC A3 c3 (trimC x)).toArray.toList 0 w4 (encC A c x).toArray HW4.out (by have h1 := HXZ.out; have h2 := encC_len A3 c3 (trimC x); rw [h1]; simp; omega)
  rw [List.take_zero, List.nil_append] at hW5
  have hg5 := gr_setCells (g := w.heap.size) (encC A3 c3 (trimC x)).toArray.toList 0 w4 w4 (gr_refl _ _)
  have hV5 := HV4.out.grown hg5 (fun e => by injection e with e; omega)
  have hN5 := HN4.out.grown hg5 (fun j hj _ e => by injection e with e; have := HLO3.out j hj; omega)
  have hM5 := HM4.out.grown hg5 (fun j hj _ e => by injection e with e; have := HLO4.out j hj; omega)
  have hB5 := be_grown HB4.out hg5 (by have := HB4.out.size; exact this) (fun j hj => by injection hj with hj; omega)
  have hs5 : w.heap.size + 2 ≤ (w4.setCells w.heap.size 0 (encC A3 c3 (trimC x)).toArray.toList).heap.size := by have := hg5.size; omega
  have hS5 := whole_range hV5
  have HXS := Lib.hid (infoC_s A3 c3 (trimC x))
  have HYS := Lib.hid (infoC_s A4 c4 (trimC y))
  have HXO := Lib.hid (all_oneCell_toArray (encC_one A3 c3 (trimC x)))
  have HYO := Lib.hid (all_oneCell_toArray (encC_one A4 c4 (trimC y)))
  refine wpAnyK_ready (rs := [6]) (by kernel_rfl) (by simp) ?_
  refine AllReadyK.cons (o := _) rfl (fun K hK => ?_) AllReadyK.nil
  rw [if_pos (by rfl)]
  refine wp_store_mid 55 _ _ rfl w.heap.size 0 (encC A3 c3 (trimC x)).toArray rfl rfl hth HXS.out HXO.out ?_
  refine hK _ _ (fun _ => hS5) ?_
  clear hK K hth hg5 hS4
  generalize w4.setCells w.heap.size 0 (encC A3 c3 (trimC x)).toArray.toList = w5 at *
  have hth : w5.there (w.heap.size + 1) 0 (encC A4 c4 (trimC y)).toArray.size := by
    intro j hj
    rw [encC_s] at hj
    refine ⟨?_, hV5.thawed _⟩
    rw [hV5.at_, Array.getElem?_eq_getElem (by have := HYZ.out; omega)]
    rfl
  have hV6 := whole_setCells (encC A4 c4 (trimC y)).toArray.toList 0 w5 (encC A2 c2 y).toArray hV5 (by have h1 := HYZ.out; have h2 := encC_len A4 c4 (trimC y); rw [h1]; simp; omega)
  rw [List.take_zero, List.nil_append] at hV6
  have hg6 := gr_setCells (g := w.heap.size + 1) (encC A4 c4 (trimC y)).toArray.toList 0 w5 w5 (gr_refl _ _)
  have hW6 := hW5.grown hg6 (fun e => by injection e with e; omega)
  have hN6 := hN5.grown hg6 (fun j hj _ e => by injection e with e; have := HLO3.out j hj; omega)
  have hM6 := hM5.grown hg6 (fun j hj _ e => by injection e with e; have := HLO4.out j hj; omega)
  have hB6 := be_grown hB5 hg6 (by have := hB5.size; exact this) (fun j hj => by injection hj with hj; omega)
  have hs6 : w.heap.size + 2 ≤ (w5.setCells (w.heap.size + 1) 0 (encC A4 c4 (trimC y)).toArray.toList).heap.size := by have := hg6.size; omega
  refine wpAnyK_ready (rs := [7]) (by kernel_rfl) (by simp) ?_
  refine AllReadyK.cons (o := _) rfl (fun K hK => ?_) AllReadyK.nil
  rw [if_pos (by rfl)]
  refine wp_store_mid 55 _ _ rfl (w.heap.size + 1) 0 (encC A4 c4 (trimC y)).toArray rfl rfl hth HYS.out HYO.out ?_
  refine hK _ _ (fun h => by cases h) ?_
  clear hK K hth hg6 hS5 hW5 hN5 hM5 hB5 hV5 hs5
  generalize w5.setCells (w.heap.size + 1) 0 (encC A4 c4 (trimC y)).toArray.toList = w6 at *
  refine wpAnyK_ready (rs := [8]) (by kernel_rfl) (by simp) ?_
  refine AllReadyK.cons (o := _) rfl (fun K hK => ?_) AllReadyK.nil
  rw [if_pos (by rfl)]
  simp only [Act.put]
  go_simp
  refine hK _ _ (fun h => by cases h) ?_
  clear hK K
  refine wpAnyK_done (by kernel_rfl) ?_ _
  have HW6 := Lib.hid hW6
  have HV6 := Lib.hid hV6
  have HN6 := Lib.hid hN6
  have HM6 := Lib.hid hM6
  have HB6 := Lib.hid hB6
  have HXL := Lib.hid (infoC_l A3 c3 (trimC x))
  have HYL := Lib.hid (infoC_l A4 c4 (trimC y))
  clear hW6 hV6 hN6 hM6 hB6 HW4 HV4 HB4 HN4 HM4 HLO3 HLO4 HXS HYS HXO HYO HXI HYI HXZ HYZ HTX
  have hs200 : (s.take 200).length ≤ 200 := by rw [List.length_take]; omega
  generalize s.take 200 = s' at *
  have hpx : (trimC x).parents.length ≤ 6 := by show (x.parents.take 6).length ≤ 6; rw [List.length_take]; omega
  generalize trimC x = x' at *
  generalize trimC y = y' at *
  have hput := cput_any A3 c3 x' w6 HN6.out HTM.out
  obtain ⟨T, hT⟩ : ∃ T, T = if mayC x' then bytesC x' else [] := ⟨_, rfl⟩
  rw [← hT] at hput
  have hTl : T.length ≤ 1000 := by
    rw [hT]
    split
    · exact bytesC_le x' (by assumption)
    · simp
  have HPUT := Lib.hid hput
  have HTT := Lib.hid hT
  have HRX := Lib.hid (whole_range HW6.out)
  clear hput hT
  go_wp2_with (refine wpList_load_mid rfl 55 _ rfl w.heap.size 0 rfl (encC A3 c3 x') _ HRX.out Tryz.underlying55 rfl HXL.out ?_)
  refine HPUT.out.mono ?_
  rintro e w7 ⟨rfl, hb⟩
  have HB7 := Lib.hid (HB6.out.trans (hb.mono HB6.out.size))
  have HW7 := Lib.hid (HW6.out.below hb HW6.out.lt)
  have HV7 := Lib.hid (HV6.out.below hb HV6.out.lt)
  have HN7 := Lib.hid (HN6.out.later hb)
  have HM7 := Lib.hid (HM6.out.later hb)
  have HRX7 := Lib.hid (whole_range HW7.out)
  have HRM := Lib.hid (rcmay_any A3 c3 x' w7 HN7.out HTM.out (by omega))
  clear hb HPUT HB6 HW6 HV6 HN6 HM6 HRX
  go_wp2_with (refine wpList_load_mid rfl 55 _ rfl w.heap.size 0 rfl (encC A3 c3 x') _ HRX7.out Tryz.underlying55 rfl HXL.out ?_)
  refine HRM.out.mono ?_
  rintro e w8 ⟨rfl, hb⟩
  have HB8 := Lib.hid (HB7.out.trans (hb.mono HB7.out.size))
  have HW8 := Lib.hid (HW7.out.below hb HW7.out.lt)
  have HV8 := Lib.hid (HV7.out.below hb HV7.out.lt)
  have HN8 := Lib.hid (HN7.out.later hb)
  have HM8 := Lib.hid (HM7.out.later hb)
  clear hb HRM HRX7 HB7 HW7 HV7 HN7 HM7
  have HLX : Hid (∀ W, Below w8.heap.size w8 W → W.rangeAt w.heap.size 0 (encC A3 c3 x')) := fun W h => whole_range (HW8.out.below h HW8.out.lt)
  have HLY : Hid (∀ W, Below w8.heap.size w8 W → W.rangeAt (w.heap.size + 1) 0 (encC A4 c4 y')) := fun W h => whole_range (HV8.out.below h HV8.out.lt)
  have HMY := Lib.hid fun W (h : Below w8.heap.size w8 W) => cmay_any A3 c3 x' W (HN8.out.later h) HTM.out
  have HCQ := Lib.hid fun W (h : Below w8.heap.size w8 W) => ceq_any A3 c3 A4 c4 x' y' W (HN8.out.later h) (HM8.out.later h)
  have HRQ := Lib.hid fun W (h : Below w8.heap.size w8 W) => reqc_any A3 c3 A4 c4 x' y' W (HN8.out.later h) (HM8.out.later h) (by omega)
  have HRC : Hid (∀ W, Below w8.heap.size w8 W → mayC x' = true → Calls Tryz.prog 33 #[.agg (encC A3 c3 x').toArray] W fun e w' => e = .returned (.string ⟨T.toArray⟩) ∧ Below W.heap.size W w') := by
    intro W h hm
    rw [HTT.out, if_pos hm]
    exact rcommit_any A3 c3 x' W (HN8.out.later h) HTM.out hm
  have HTB : Hid (mayC x' = false → (T == []) = true) := by intro h; rw [HTT.out, h, if_neg (by decide)]; rfl
  have HTN : Hid (mayC x' = false → (T != []) = false) := by intro h; rw [HTT.out, h, if_neg (by decide)]; rfl
  clear HTT HW8 HV8 HN8 HM8 HTM HTM2 hpx
  generalize eqC x' y' = qe at *
  generalize encC A4 c4 y' = ly at *
  generalize encC A3 c3 x' = lx at *
  have hcl : ¬ (9223372036854775807 < T.length + s'.length) := by omega
  cases hmv : mayC x'
  all_goals
    rw [hmv] at HMY
    try have hTe := HTB.out hmv
    try have hTe2 := HTN.out hmv
    go_wp2_with fail
    refine wp_region_quiet_below (by kernel_rfl) (by kernel_rfl) ?_
    repeat (first
      | go_big_quiet_step ((first
        | (go_at_call 32; exact Calls.regrown_of (HMY.out _ (below_regrown _ _ _)))
        | (go_at_call 33; exact Calls.regrown_of (HRC.out _ (below_regrown _ _ _) hmv))
        | (go_at_call 34; exact Calls.regrown_of (HCQ.out _ (below_regrown _ _ _)))
        | (go_at_call 35; exact Calls.regrown_of (HRQ.out _ (below_regrown _ _ _)))))
      | (refine q_loadm _ _ rfl (by rfl) w.heap.size 0 lx rfl _ Tryz.underlying55 rfl HXL.out (fun W hC => HLX.out W (below_clsA hC)) ?_; simp only [Act.put]; go_simp)
      | (refine q_loadm _ _ rfl (by rfl) (w.heap.size + 1) 0 ly rfl _ Tryz.underlying55 rfl HYL.out (fun W hC => HLY.out W (below_clsA hC)) ?_; simp only [Act.put]; go_simp))
    refine wpQuiet_nil ?_
    intro pp
    have HB9 := Lib.hid (HB8.out.trans ((below_regrown w8 pp.d pp.os).mono HB8.out.size))
    clear HMY HRC HCQ HRQ HLX HLY HB8
    generalize Sort.grow (redrawn w8 pp.d) pp.os = w9 at *
    go_wp2
    rw [ex_half, ba_append']
    have hth : (T.take (T.length / 2)).length ≤ 1000 := by rw [List.length_take]; omega
    have htt : (T ++ s').length ≤ 1200 := by rw [List.length_append]; omega
    have hT2 : T.length ≤ 1200 := by omega
    have hs2 : s'.length ≤ 1200 := by omega
    try clear hTe hTe2
    clear hcl HTB HTN hTl hs200
    generalize T.take (T.length / 2) = u at *
    generalize T ++ s' = v at *
    obtain ⟨ts, hts0⟩ : ∃ ts, ts = [T, s', u, v] := ⟨_, rfl⟩
    have HTL : Hid (∀ i, (ts.getD i []).length ≤ 1200) := by
      intro i
      rw [hts0]
      match i with
      | 0 => exact hT2
      | 1 => exact hs2
      | 2 => exact (by show u.length ≤ 1200; omega)
      | 3 => exact htt
      | _ + 4 => simp
    have HTS : Hid (ts.length = 4) := by show _ = _; rw [hts0]; rfl
    have HRW : Hid (Whole (w9.alloc (.cells #[.string ⟨T.toArray⟩, .string ⟨s'.toArray⟩, .string ⟨u.toArray⟩, .string ⟨v.toArray⟩] 9)) w9.heap.size 9 (ts.map S1).toArray) := by
      show Whole _ _ _ _
      rw [hts0]
      exact Whole.made w9 9 _
    have HB10 := Lib.hid (HB9.out.alloc HB9.out.size (.cells #[.string ⟨T.toArray⟩, .string ⟨s'.toArray⟩, .string ⟨u.toArray⟩, .string ⟨v.toArray⟩] 9))
    clear hts0 HB9 hT2 hs2 hth htt
    generalize w9.alloc (.cells #[.string ⟨T.toArray⟩, .string ⟨s'.toArray⟩, .string ⟨u.toArray⟩, .string ⟨v.toArray⟩] 9) = w10 at *
    generalize w9.heap.size = g at *
    go_loopg [12, 13, 14, 15, 16, 80] 4 (fun g0 _ _ _ _ _ s80 wr => ∃ i : Nat, i ≤ 4 ∧ 4 - i ≤ g0 ∧ s80 = .int .i64 i ∧ Hid (Below w.heap.size w wr) ∧ Hid (Whole wr g 9 (ts.map S1).toArray))
    case atStart => exact ⟨0, by omega, by omega, rfl, HB10, HRW⟩
    case round =>
      rename World => wr
      obtain ⟨i, hi3, hg, rfl, hbw, hrow⟩ := hrel
      by_cases hlt : i < 4
      · have hlt' : (i : Int) < 4 := by omega
        have hcell : wr.cell? ⟨g, i, none⟩ = some (.string ⟨(ts.getD i []).toArray⟩) := by
          rw [hrow.out.at_, List.getElem?_toArray, List.getElem?_map]
          have := HTS.out
          simp [List.getD, List.getElem?_eq_getElem (show i < ts.length by omega), S1]
        have htl := HTL.out i
        generalize ts.getD i [] = t at *
        have hrt := hrow.out.lt
        cases hrd : readC t with
        | none =>
          have HRD := Lib.hid hrd
          clear hrd
          go_wp2_with fail
          refine (cget_any t wr (by omega)).mono ?_
          rintro e w8 ⟨hcase, hb⟩
          obtain ⟨A1, c1, rfl, ha1⟩ : ∃ A1 c1, e = .returned (.tuple #[.agg (encC A1 c1 noC).toArray, .int .i64 1]) ∧ ArgN w8 A1 c1 (noC : Cm).parents := by
            rcases hcase with ⟨x', A, c, h, -⟩ | ⟨h, he⟩
            · rw [HRD.out] at h
              cases h
            · exact ⟨none, 0, he, argN_nil w8⟩
          have HB8 := Lib.hid (hbw.out.trans (hb.mono hbw.out.size))
          have HR8 := Lib.hid (hrow.out.below hb hrt)
          have HA8 := Lib.hid ha1
          have HYI := Lib.hid (infoC_s A1 c1 noC)
          have HYO := Lib.hid (all_oneCell_toArray (encC_one A1 c1 noC))
          clear hb hcase ha1 hcell
          go_wp2_with (refine wpList_store_whole rfl 55 _ _ rfl w8.heap.size (encC A1 c1 noC).toArray rfl rfl 55 _ (Whole.made w8 _ _) HYI.out (by rw [encC_s]; kernel_rfl) HYO.out ?_; intro w9 hWn hGn; have HI9 := Lib.hid hWn; have HD9 := Lib.hid (made_below' hGn); clear hWn hGn)
          have HB9 := Lib.hid (HB8.out.trans (HD9.out.mono HB8.out.size))
          have HR9 := Lib.hid (HR8.out.below HD9.out HR8.out.lt)
          have HA9 := Lib.hid (HA8.out.later HD9.out)
          clear HB8 HR8 HA8 HD9
          refine (rgetc_any t w9 (by omega)).mono ?_
          rintro e w10 ⟨hcase, hb⟩
          obtain ⟨A2, c2, rfl, ha2⟩ : ∃ A2 c2, e = .returned (.tuple #[.agg (encC A2 c2 noC).toArray, .bool false]) ∧ ArgN w10 A2 c2 (noC : Cm).parents := by
            rcases hcase with ⟨x', A, c, h, -⟩ | ⟨h, he⟩
            · rw [← readC_refC, HRD.out] at h
              cases h
            · exact ⟨none, 0, he, argN_nil w10⟩
          have HB10 := Lib.hid (HB9.out.trans (hb.mono HB9.out.size))
          have HR10 := Lib.hid (HR9.out.below hb HR9.out.lt)
          have HA10 := Lib.hid (HA9.out.later hb)
          have HI10 := Lib.hid (HI9.out.below hb HI9.out.lt)
          have HA210 := Lib.hid ha2
          have HYI2 := Lib.hid (infoC_s A2 c2 noC)
          have HYO2 := Lib.hid (all_oneCell_toArray (encC_one A2 c2 noC))
          clear hb hcase ha2 HB9 HR9 HA9 HI9
          go_upto_region 14 with (refine wpList_store_whole rfl 55 _ _ rfl w10.heap.size (encC A2 c2 noC).toArray rfl rfl 55 _ (Whole.made w10 _ _) HYI2.out (by rw [encC_s]; kernel_rfl) HYO2.out ?_; intro w11 hWn hGn; have HJ11 := Lib.hid hWn; have HD11 := Lib.hid (made_below' hGn); clear hWn hGn)
          have HB11 := Lib.hid (HB10.out.trans (HD11.out.mono HB10.out.size))
          have HR11 := Lib.hid (HR10.out.below HD11.out HR10.out.lt)
          have HA11 := Lib.hid (HA10.out.later HD11.out)
          have HA211 := Lib.hid (HA210.out.later HD11.out)
          have HI11 := Lib.hid (HI10.out.below HD11.out HI10.out.lt)
          have HRI := Lib.hid (whole_range HI11.out)
          have HRJ := Lib.hid (whole_range HJ11.out)
          have HLI := Lib.hid (infoC_l A1 c1 noC)
          have HLJ := Lib.hid (infoC_l A2 c2 noC)
          clear HB10 HR10 HA10 HA210 HI10 HD11 HYI HYO HYI2 HYO2
          generalize w8.heap.size = g1 at *
          generalize w10.heap.size = g2 at *
          have hpl : (noC : Cm).parents.length ≤ 1048576 := by decide
          have heq := reqc_any A1 c1 A2 c2 noC noC w11 HA11.out HA211.out hpl
          rw [eqC_refl] at heq
          have HEQ := Lib.hid heq
          clear heq hpl
          go_wp2_with (first
            | (refine wpList_load_mid_on 55 _ rfl g1 0 rfl (by rfl) (encC A1 c1 noC) _ HRI.out Tryz.underlying55 rfl HLI.out ?_)
            | (refine wpList_load_mid_on 55 _ rfl g2 0 rfl (by rfl) (encC A2 c2 noC) _ HRJ.out Tryz.underlying55 rfl HLJ.out ?_))
          refine HEQ.out.mono ?_
          rintro e w12 ⟨rfl, hb⟩
          have HB12 := Lib.hid (HB11.out.trans (hb.mono HB11.out.size))
          have HR12 := Lib.hid (HR11.out.below hb HR11.out.lt)
          clear hb HB11 HR11 HA11 HI11 HRI HRJ HEQ
          go_wp2
          go_roundg (4 - (i + 1))
          case measure => omega
          case rel => exact ⟨i + 1, by omega, Nat.le_refl _, by go_num, HB12, HR12⟩
        | some x1 =>
          have HRD := Lib.hid hrd
          clear hrd
          go_wp2_with fail
          refine (cget_any t wr (by omega)).mono ?_
          rintro e w8 ⟨hcase, hb⟩
          obtain ⟨A1, c1, rfl, ha1⟩ : ∃ A1 c1, e = .returned (.tuple #[.agg (encC A1 c1 x1).toArray, .int .i64 0]) ∧ ArgN w8 A1 c1 (x1 : Cm).parents := by
            rcases hcase with ⟨x', A, c, h, he, ha, -⟩ | ⟨h, -⟩
            · rw [HRD.out] at h
              injection h with h
              subst h
              exact ⟨A, c, he, ha⟩
            · rw [HRD.out] at h
              cases h
          have HB8 := Lib.hid (hbw.out.trans (hb.mono hbw.out.size))
          have HR8 := Lib.hid (hrow.out.below hb hrt)
          have HA8 := Lib.hid ha1
          have HYI := Lib.hid (infoC_s A1 c1 x1)
          have HYO := Lib.hid (all_oneCell_toArray (encC_one A1 c1 x1))
          clear hb hcase ha1 hcell
          go_wp2_with (refine wpList_store_whole rfl 55 _ _ rfl w8.heap.size (encC A1 c1 x1).toArray rfl rfl 55 _ (Whole.made w8 _ _) HYI.out (by rw [encC_s]; kernel_rfl) HYO.out ?_; intro w9 hWn hGn; have HI9 := Lib.hid hWn; have HD9 := Lib.hid (made_below' hGn); clear hWn hGn)
          have HB9 := Lib.hid (HB8.out.trans (HD9.out.mono HB8.out.size))
          have HR9 := Lib.hid (HR8.out.below HD9.out HR8.out.lt)
          have HA9 := Lib.hid (HA8.out.later HD9.out)
          clear HB8 HR8 HA8 HD9
          refine (rgetc_any t w9 (by omega)).mono ?_
          rintro e w10 ⟨hcase, hb⟩
          obtain ⟨A2, c2, rfl, ha2⟩ : ∃ A2 c2, e = .returned (.tuple #[.agg (encC A2 c2 x1).toArray, .bool true]) ∧ ArgN w10 A2 c2 (x1 : Cm).parents := by
            rcases hcase with ⟨x', A, c, h, he, ha⟩ | ⟨h, -⟩
            · rw [← readC_refC, HRD.out] at h
              injection h with h
              subst h
              exact ⟨A, c, he, ha⟩
            · rw [← readC_refC, HRD.out] at h
              cases h
          have HB10 := Lib.hid (HB9.out.trans (hb.mono HB9.out.size))
          have HR10 := Lib.hid (HR9.out.below hb HR9.out.lt)
          have HA10 := Lib.hid (HA9.out.later hb)
          have HI10 := Lib.hid (HI9.out.below hb HI9.out.lt)
          have HA210 := Lib.hid ha2
          have HYI2 := Lib.hid (infoC_s A2 c2 x1)
          have HYO2 := Lib.hid (all_oneCell_toArray (encC_one A2 c2 x1))
          clear hb hcase ha2 HB9 HR9 HA9 HI9
          go_upto_region 14 with (refine wpList_store_whole rfl 55 _ _ rfl w10.heap.size (encC A2 c2 x1).toArray rfl rfl 55 _ (Whole.made w10 _ _) HYI2.out (by rw [encC_s]; kernel_rfl) HYO2.out ?_; intro w11 hWn hGn; have HJ11 := Lib.hid hWn; have HD11 := Lib.hid (made_below' hGn); clear hWn hGn)
          have HB11 := Lib.hid (HB10.out.trans (HD11.out.mono HB10.out.size))
          have HR11 := Lib.hid (HR10.out.below HD11.out HR10.out.lt)
          have HA11 := Lib.hid (HA10.out.later HD11.out)
          have HA211 := Lib.hid (HA210.out.later HD11.out)
          have HI11 := Lib.hid (HI10.out.below HD11.out HI10.out.lt)
          have HRI := Lib.hid (whole_range HI11.out)
          have HRJ := Lib.hid (whole_range HJ11.out)
          have HLI := Lib.hid (infoC_l A1 c1 x1)
          have HLJ := Lib.hid (infoC_l A2 c2 x1)
          clear HB10 HR10 HA10 HA210 HI10 HD11 HYI HYO HYI2 HYO2
          generalize w8.heap.size = g1 at *
          generalize w10.heap.size = g2 at *
          have hpl : (x1 : Cm).parents.length ≤ 1048576 := by have := parents_le (readC_may t x1 HRD.out); omega
          have heq := reqc_any A1 c1 A2 c2 x1 x1 w11 HA11.out HA211.out hpl
          rw [eqC_refl] at heq
          have HEQ := Lib.hid heq
          clear heq hpl
          go_wp2_with (first
            | (refine wpList_load_mid_on 55 _ rfl g1 0 rfl (by rfl) (encC A1 c1 x1) _ HRI.out Tryz.underlying55 rfl HLI.out ?_)
            | (refine wpList_load_mid_on 55 _ rfl g2 0 rfl (by rfl) (encC A2 c2 x1) _ HRJ.out Tryz.underlying55 rfl HLJ.out ?_))
          refine HEQ.out.mono ?_
          rintro e w12 ⟨rfl, hb⟩
          have HB12 := Lib.hid (HB11.out.trans (hb.mono HB11.out.size))
          have HR12 := Lib.hid (HR11.out.below hb HR11.out.lt)
          clear hb HB11 HR11 HA11 HI11 HRI HRJ HEQ
          go_wp2
          go_roundg (4 - (i + 1))
          case measure => omega
          case rel => exact ⟨i + 1, by omega, Nat.le_refl _, by go_num, HB12, HR12⟩
      · obtain rfl : i = 4 := by omega
        go_wp2
        go_ret
        exact ⟨rfl, hbw.out⟩
end Go.Proofs.YtacmdpfidakkkaaGreatDoor

/-
  ObjectOwn, walked.
-/
import Derived.Test.YtfaijkgfhdhhbaaGreatDoorBegS
import Derived.Test.YtfaijkgfhdhhbaaGreatDoorMhk
import Derived.Test.YtfaijkgfhdhhbaaGreatDoorRObM
import Derived.Test.YtfaijkgfhdhhbaaGreatDoorRoom
import Derived.Test.YtfaijkgfhdhhbaaGreatDoorMgp
namespace Go.Proofs.YtfaijkgfhdhhbaaGreatDoor
open Go.RowKit

set_option maxRecDepth 100000 in
set_option maxHeartbeats 2000000 in
theorem bown_any (A : Option Addr) (c : Nat) (A2 : Option Addr) (c2 : Nat) (x : Ob) (w : World) (hE : Env w) (hT : Tens w) (hA : ArgO w A c A2 c2 x) (hnl : ∀ e ∈ x.entries, e.name.length ≤ maxLen) (ht : x.commit.time < 18446744073709551616) :
    Calls Tryz.prog 4 #[.agg (encO A c A2 c2 x).toArray] w fun e w' => e = .returned (.bool true) ∧ Below w.heap.size w w' := by
  obtain ⟨hW, hB, hA0⟩ := obox A c A2 c2 x w hA
  have HT := Lib.hid (hT.below hB)
  have HE := Lib.hid (hE.at_ hB)
  have HW := Lib.hid hW
  have HB := Lib.hid hB
  have HA := Lib.hid hA0
  have HXI := Lib.hid (infoO_l A c A2 c2 x)
  have HXZ := Lib.hid (encO_s A c A2 c2 x)
  have HYT : Hid ((trimO x).commit.time < 18446744073709551616) := ht
  have HYE : Hid ((trimO x).entries.length ≤ 22) := by show (x.entries.take 22).length ≤ 22; rw [List.length_take]; omega
  have HYP : Hid ((trimO x).commit.parents.length ≤ 6) := by show (x.commit.parents.take 6).length ≤ 6; rw [List.length_take]; omega
  have HYN : Hid (∀ e ∈ (trimO x).entries, e.name.length ≤ 9223372036854775807) := fun e he => hnl e (List.mem_of_mem_take he)
  clear hE hT hW hB hA0 hA ht hnl
  go_enter Tryz.func4, Tryz.ntmps4
  go_wp2_with fail
  generalize w.alloc (.cells (encO A c A2 c2 x).toArray 30) = w0 at *
  refine (begun6_any w0 HE.out HT.out).mono ?_
  rintro e w1 ⟨rfl, hb⟩
  have HB1 := Lib.hid (HB.out.trans (hb.mono HB.out.size))
  have HW1 := Lib.hid (HW.out.below hb HW.out.lt)
  have HA1 := Lib.hid (HA.out.later hb)
  have HR1 := Lib.hid (whole_range HW1.out)
  clear hb HE HT HB HW HA
  go_wp2_with (refine wpList_load_mid rfl 30 _ rfl w.heap.size 0 rfl (encO A c A2 c2 x) _ HR1.out Tryz.underlying30 rfl HXI.out ?_)
  refine (lobj_any A c A2 c2 x w1 HA1.out).mono ?_
  rintro e w2 ⟨⟨A3, c3, B3, d3, rfl, ha, hlo, hlo2⟩, hb⟩
  have HB2 := Lib.hid (HB1.out.trans (hb.mono HB1.out.size))
  have HW2 := Lib.hid (HW1.out.below hb HW1.out.lt)
  have hs1 := HW1.out.lt
  have HLO : Hid (∀ j, inBlk A3 j → w.heap.size < j) := fun j hj => by have := hlo j hj; omega
  have HLO2 : Hid (∀ j, inBlk B3 j → w.heap.size < j) := fun j hj => by have := hlo2 j hj; omega
  have HA2 := Lib.hid ha
  clear hb ha hlo hlo2 HB1 HW1 HA1 HR1
  generalize trimO x = y at *
  have HYI := Lib.hid (infoO_s A3 c3 B3 d3 y)
  have HYL := Lib.hid (infoO_l A3 c3 B3 d3 y)
  have HYS := Lib.hid (encO_s A3 c3 B3 d3 y)
  have HYO := Lib.hid (encO_all A3 c3 B3 d3 y)
  go_upto_region 5 with (refine wpList_store_whole rfl 30 _ _ rfl w.heap.size (encO A3 c3 B3 d3 y).toArray rfl rfl 30 _ HW2.out HYI.out (by rw [HYS.out, HXZ.out]) HYO.out ?_; intro w3 hWn hGn; have HW3 := Lib.hid hWn; have HG3 := Lib.hid hGn; clear hWn hGn)
  have HB3 := Lib.hid (be_grown HB2.out HG3.out (by have := HB2.out.size; exact this) (fun j hj => by injection hj with hj; omega))
  have HA3 : Hid (ArgO w3 A3 c3 B3 d3 y) := ⟨HA2.out.1.grown HG3.out (fun j hj _ e => by injection e with e; have := HLO.out j hj; omega), HA2.out.2.grown HG3.out (fun j hj _ e => by injection e with e; have := HLO2.out j hj; omega)⟩
  have HR3 := Lib.hid (whole_range HW3.out)
  clear HB2 HW2 HA2 HG3 HXI HXZ
  go_wp2_with (refine wpList_load_mid rfl 30 _ rfl w.heap.size 0 rfl (encO A3 c3 B3 d3 y) _ HR3.out Tryz.underlying30 rfl HYL.out ?_)
  refine (rmayO_any A3 c3 B3 d3 y w3 HA3.out HYT.out (by have := HYE.out; omega) HYN.out (by have := HYP.out; omega)).mono ?_
  rintro e w4 ⟨rfl, hb⟩
  have HB4 := Lib.hid (HB3.out.trans (hb.mono HB3.out.size))
  have HW4 := Lib.hid (HW3.out.below hb HW3.out.lt)
  have HA4 := Lib.hid (HA3.out.later hb)
  clear hb HB3 HW3 HA3 HR3
  cases hmo : mayO' y with
  | false =>
    go_wp2
    go_ret
    exact ⟨rfl, HB4.out⟩
  | true =>
    have HMO := Lib.hid hmo
    have HPUT := Lib.hid (oput_any A3 c3 B3 d3 y w4 HA4.out HYT.out (by have := HYE.out; omega))
    rw [hmo, if_pos rfl] at HPUT
    have hbl := bytesO_le y hmo
    obtain ⟨y', hgo, heq⟩ := getOb_put y hmo HYT.out
    have HGO := Lib.hid hgo
    have HEQ := Lib.hid heq
    have HR4 := Lib.hid (whole_range HW4.out)
    clear hmo hgo heq HLO HLO2 HYI HYS HYO HYN
    generalize bytesO y = T at *
    go_wp2_with (refine wpList_load_mid rfl 30 _ rfl w.heap.size 0 rfl (encO A3 c3 B3 d3 y) _ HR4.out Tryz.underlying30 rfl HYL.out ?_)
    refine HPUT.out.mono ?_
    rintro e w5 ⟨rfl, hb⟩
    have HB5 := Lib.hid (HB4.out.trans (hb.mono HB4.out.size))
    have HW5 := Lib.hid (HW4.out.below hb HW4.out.lt)
    have HA5 := Lib.hid (HA4.out.later hb)
    have HR5 := Lib.hid (whole_range HW5.out)
    have hlt5 := HW5.out.lt
    have HLK := Lib.hid (olinksP_any A3 c3 B3 d3 y w5 HA5.out HMO.out)
    clear hb HB4 HW4 HA4 HR4 HPUT HMO
    generalize linksO y = ls at *
    go_wp2_with (refine wpList_load_mid rfl 30 _ rfl w.heap.size 0 rfl (encO A3 c3 B3 d3 y) _ HR5.out Tryz.underlying30 rfl HYL.out ?_)
    refine HLK.out.mono ?_
    rintro e w6 ⟨⟨AL, cl, rfl, harL, hlo, hob⟩, hb⟩
    have HB6 := Lib.hid hb
    have HRM := Lib.hid (roomN harL hob)
    have HLO := Lib.hid hlo
    have hlc := harL.1
    have hlm := harL.2.1
    unfold maxLen at hlm
    clear hb hlo hob harL HLK HR5
    have HNI := Lib.hid n7c_i
    have HNA := Lib.hid n7c_a
    have HNS := Lib.hid n7c_s
    go_wp2
    go_loopg [7, 31] ls.length (fun g _ s31 wr => ∃ k : Nat, k ≤ ls.length ∧ ls.length - k ≤ g ∧ s31 = .int .i64 k ∧ Hid (Below w5.heap.size w5 wr) ∧ Hid (Room wr AL ls.length 32 32))
    case atStart => exact ⟨0, Nat.zero_le _, by omega, rfl, HB6, HRM⟩
    case round =>
      obtain ⟨k, hk, hg, rfl, hwr, hrm⟩ := hrel
      by_cases hlt : k < ls.length
      · have hlt' : (k : Int) < (ls.length : Int) := by omega
        obtain ⟨b, o, t, cs, rfl, hW, hsz⟩ := hrm.out (by omega)
        have hth := hW.there (o + k * 32) n7c.size (by rw [HNS.out]; exact hsz k hlt)
        have HTH := Lib.hid hth
        have hbb : w5.heap.size ≤ b := HLO.out b ⟨_, rfl, rfl⟩
        have HBN := Lib.hid (be_grown hwr.out (gr_setCells (g := b) n7c.toList (o + k * 32) wr wr (gr_refl _ _)) hwr.out.size (fun j hj => by injection hj with hj; omega))
        have HRN := Lib.hid (Room.sets b n7c.toList (o + k * 32) wr hrm.out)
        clear hth hW hsz hrm
        go_wp2_with (refine wpList_store_mid rfl 24 _ _ rfl b (o + k * 32) n7c rfl rfl HTH.out HNI.out HNA.out ?_; generalize wr.setCells b (o + k * 32) n7c.toList = wn at *)
        go_roundg (ls.length - (k + 1))
        case measure => omega
        case rel => exact ⟨k + 1, by omega, Nat.le_refl _, by go_num, HBN, HRN⟩
      · obtain rfl : k = ls.length := by omega
        have HW7 := Lib.hid (HW5.out.below hwr.out hlt5)
        have e0 := (HW7.out.at_ 0).trans (encO_0 A3 c3 B3 d3 y)
        have HG := Lib.hid (ogetP_any y.kind T wr (by omega))
        rw [HGO.out] at HG
        have HB7 := Lib.hid hwr.out
        have hs7 := hwr.out.size
        clear hrm hwr HRM hlc hlm HLO HB6
        go_wp2_with fail
        refine HG.out.mono ?_
        rintro e w8 ⟨⟨A', c', A2', c2', rfl, ha, ho, ho2⟩, hb⟩
        have HB8 := Lib.hid (HB7.out.trans (hb.mono HB7.out.size))
        have HRE := Lib.hid (roomE ha.1 ho.2)
        have HRP := Lib.hid (roomN ha.2 ho2.2)
        have HOE : Hid (∀ j, inBlk A' j → w5.heap.size ≤ j ∧ j < w8.heap.size) := fun j hj => ⟨by have := ho.1 j hj; omega, by obtain ⟨t, cs, hw⟩ := ho.2 j hj; exact hw.lt⟩
        have HOP : Hid (∀ j, inBlk A2' j → w5.heap.size ≤ j ∧ j < w8.heap.size) := fun j hj => ⟨by have := ho2.1 j hj; omega, by obtain ⟨t, cs, hw⟩ := ho2.2 j hj; exact hw.lt⟩
        have hec := ha.1.1
        have hpc := ha.2.1
        have hecm := ha.1.2.1
        have hpcm := ha.2.2.1
        unfold maxLen at hecm hpcm
        have HPI := Lib.hid (infoO_s A' c' A2' c2' y')
        have HPA := Lib.hid (encO_all A' c' A2' c2' y')
        have P2 := Lib.hid (encO_2 A' c' A2' c2' y')
        have P35 := Lib.hid (encO_35 A' c' A2' c2' y')
        have hs8 := hb.size
        clear hb ha ho ho2 HG HB7 HW7 e0
        generalize hps : (encO A' c' A2' c2' y').toArray = ps at *
        have HPS : Hid (ps.size = 38) := by show _ = _; rw [← hps]; exact encO_s _ _ _ _ _
        clear hps
        go_wp2_with (refine wpList_store_whole rfl 30 _ _ rfl w8.heap.size ps rfl rfl 30 _ (Whole.made w8 _ _) HPI.out (by rw [HPS.out]; kernel_rfl) HPA.out ?_; intro w9 hWn hGn; have HP9 := Lib.hid hWn; have HD9 := Lib.hid (made_below' hGn); have p2 := (hWn.at_ 2).trans P2.out; clear hWn hGn)
        have HB9 := Lib.hid (HB8.out.trans (HD9.out.mono HB8.out.size))
        have HRE9 := Lib.hid (HRE.out.later HD9.out)
        have HRP9 := Lib.hid (HRP.out.later HD9.out)
        clear HB8 HRE HRP HD9 HPI HPA
        generalize w8.heap.size = g8 at *
        go_loopg [10, 49] y'.entries.length (fun g _ s49 wr => ∃ k : Nat, k ≤ y'.entries.length ∧ y'.entries.length - k ≤ g ∧ s49 = .int .i64 k ∧ Hid (Below w5.heap.size w5 wr) ∧ Hid (Whole wr g8 30 ps) ∧ Hid (Room wr A' y'.entries.length 34 1) ∧ Hid (Room wr A2' y'.commit.parents.length 32 32))
        case atStart => exact ⟨0, Nat.zero_le _, by omega, rfl, HB9, HP9, HRE9, HRP9⟩
        case round =>
          obtain ⟨k, hk, hg, rfl, hwr, hpw, hre, hrp⟩ := hrel
          have q2 := (hpw.out.at_ 2).trans P2.out
          have q35 := (hpw.out.at_ 35).trans P35.out
          by_cases hlt : k < y'.entries.length
          · have hlt' : (k : Int) < (y'.entries.length : Int) := by omega
            obtain ⟨b, o, t, cs, rfl, hW, hsz⟩ := hre.out (by omega)
            have hbb := HOE.out b ⟨_, rfl, rfl⟩
            have hlt9 : o + k * 34 < cs.size := by have := hsz k hlt; omega
            have hcell : wr.cell? ⟨b, o + k * 34, none⟩ = some cs[o + k * 34] := (hW.at_ _).trans (Array.getElem?_eq_getElem hlt9)
            have hfz := hW.thawed (o + k * 34)
            have HBN := Lib.hid (hwr.out.setCell (p := ⟨b, o + k * 34, none⟩) hbb.1 (.string ⟨#[116, 117, 114, 110, 101, 100]⟩))
            have HPN := Lib.hid (hpw.out.aside (p := ⟨b, o + k * 34, none⟩) (by show g8 ≠ b; omega) (.string ⟨#[116, 117, 114, 110, 101, 100]⟩))
            have HREN := Lib.hid (hre.out.set b (o + k * 34) (.string ⟨#[116, 117, 114, 110, 101, 100]⟩))
            have HRPN := Lib.hid (hrp.out.set b (o + k * 34) (.string ⟨#[116, 117, 114, 110, 101, 100]⟩))
            generalize cs[o + k * 34] = cv at *
            clear hW hsz hre hrp hlt9 hpw hwr
            go_wp2
            go_roundg (y'.entries.length - (k + 1))
            case measure => omega
            case rel => exact ⟨k + 1, by omega, Nat.le_refl _, by go_num, HBN, HPN, HREN, HRPN⟩
          · obtain rfl : k = y'.entries.length := by omega
            have HBA := Lib.hid hwr.out
            have HPA := Lib.hid hpw.out
            have HRPA := Lib.hid hrp.out
            clear hwr hpw hre hrp HB9 HP9 HRE9 HRP9
            go_wp2
            go_loopg [11, 62] y'.commit.parents.length (fun g _ s62 wr => ∃ k : Nat, k ≤ y'.commit.parents.length ∧ y'.commit.parents.length - k ≤ g ∧ s62 = .int .i64 k ∧ Hid (Below w5.heap.size w5 wr) ∧ Hid (Whole wr g8 30 ps) ∧ Hid (Room wr A2' y'.commit.parents.length 32 32))
            case atStart => exact ⟨0, Nat.zero_le _, by omega, rfl, HBA, HPA, HRPA⟩
            case round =>
              rename World => wr
              obtain ⟨k, hk, hg, rfl, hwr, hpw, hrp⟩ := hrel
              have q35 := (hpw.out.at_ 35).trans P35.out
              by_cases hlt : k < y'.commit.parents.length
              · have hlt' : (k : Int) < (y'.commit.parents.length : Int) := by omega
                obtain ⟨b, o, t, cs, rfl, hW, hsz⟩ := hrp.out (by omega)
                have hbb := HOP.out b ⟨_, rfl, rfl⟩
                have hth := hW.there (o + k * 32) n7c.size (by rw [HNS.out]; exact hsz k hlt)
                have HTH := Lib.hid hth
                have HBN := Lib.hid (be_grown hwr.out (gr_setCells (g := b) n7c.toList (o + k * 32) wr wr (gr_refl _ _)) hwr.out.size (fun j hj => by injection hj with hj; omega))
                have HPN := Lib.hid (hpw.out.grown (gr_setCells (g := b) n7c.toList (o + k * 32) wr wr (gr_refl _ _)) (fun e => by injection e with e; omega))
                have HRN := Lib.hid (Room.sets b n7c.toList (o + k * 32) wr hrp.out)
                clear hth hW hsz hrp hpw hwr
                go_wp2_with (refine wpList_store_mid rfl 24 _ _ rfl b (o + k * 32) n7c rfl rfl HTH.out HNI.out HNA.out ?_; generalize wr.setCells b (o + k * 32) n7c.toList = wn at *)
                go_roundg (y'.commit.parents.length - (k + 1))
                case measure => omega
                case rel => exact ⟨k + 1, by omega, Nat.le_refl _, by go_num, HBN, HPN, HRN⟩
              · obtain rfl : k = y'.commit.parents.length := by omega
                have HWF := Lib.hid (HW5.out.below hwr.out hlt5)
                have HAF := Lib.hid (HA5.out.later hwr.out)
                have f0 := (HWF.out.at_ 0).trans (encO_0 A3 c3 B3 d3 y)
                have HBF := Lib.hid (HB5.out.trans (hwr.out.mono HB5.out.size))
                have HG := Lib.hid (ogetO_any y.kind T wr (by omega))
                rw [HGO.out] at HG
                clear hwr hpw hrp HBA HPA HRPA
                go_wp2_with fail
                refine HG.out.mono ?_
                rintro e w10 ⟨⟨A9, c9, A29, c29, rfl, ha⟩, hb⟩
                have HB10 := Lib.hid (HBF.out.trans (hb.mono HBF.out.size))
                have HW10 := Lib.hid (HWF.out.below hb HWF.out.lt)
                have HA10 := Lib.hid (HAF.out.later hb)
                have HQ10 := Lib.hid ha
                have HQI := Lib.hid (infoO_s A9 c9 A29 c29 y')
                have HQL := Lib.hid (infoO_l A9 c9 A29 c29 y')
                have HQA := Lib.hid (encO_all A9 c9 A29 c29 y')
                have HQS := Lib.hid (encO_s A9 c9 A29 c29 y')
                clear hb ha HG HBF HWF HAF f0
                go_upto_region 26 with (refine wpList_store_whole rfl 30 _ _ rfl w10.heap.size (encO A9 c9 A29 c29 y').toArray rfl rfl 30 _ (Whole.made w10 _ _) HQI.out (by rw [HQS.out]; kernel_rfl) HQA.out ?_; intro w11 hWn hGn; have HX11 := Lib.hid hWn; have HD11 := Lib.hid (made_below' hGn); clear hWn hGn)
                have HB11 := Lib.hid (HB10.out.trans (HD11.out.mono HB10.out.size))
                have HRY := Lib.hid (whole_range (HW10.out.below HD11.out HW10.out.lt))
                have HRX := Lib.hid (whole_range HX11.out)
                have HE := Lib.hid (oeq_any A9 c9 A29 c29 y' A3 c3 B3 d3 y w11 (HQ10.out.later HD11.out) (HA10.out.later HD11.out))
                rw [HEQ.out] at HE
                clear HX11 HD11 HB10 HW10 HA10 HQ10
                generalize w10.heap.size = g10 at *
                go_wp2_with (first
                  | (refine wpList_load_mid_on 30 _ rfl g10 0 rfl (by rfl) (encO A9 c9 A29 c29 y') _ HRX.out Tryz.underlying30 rfl HQL.out ?_)
                  | (refine wpList_load_mid_on 30 _ rfl w.heap.size 0 rfl (by rfl) (encO A3 c3 B3 d3 y) _ HRY.out Tryz.underlying30 rfl HYL.out ?_))
                refine HE.out.mono ?_
                rintro e w12 ⟨rfl, hb⟩
                have HB12 := Lib.hid (HB11.out.trans (hb.mono HB11.out.size))
                clear hb
                go_wp2
                go_ret
                exact ⟨rfl, HB12.out⟩
end Go.Proofs.YtfaijkgfhdhhbaaGreatDoor

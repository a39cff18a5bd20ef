/-
  CommitParents, walked.
-/
import Derived.Test.YtacmdpfidakkkaaGreatDoorBegS
import Derived.Test.YtacmdpfidakkkaaGreatDoorLCom
import Derived.Test.YtacmdpfidakkkaaGreatDoorCParN
import Derived.Test.YtacmdpfidakkkaaGreatDoorRSrt
import Derived.Test.YtacmdpfidakkkaaGreatDoorMhf
import Derived.Test.YtacmdpfidakkkaaGreatDoorMhh
import Derived.Test.YtacmdpfidakkkaaGreatDoorTurN
namespace Go.Proofs.YtacmdpfidakkkaaGreatDoor
open Go.RowKit

def parC (x : Cm) (ps : List Nm) : Cm := ⟨x.tree, ps.take 6, x.time, (x.note.take 110).take 100⟩
theorem parC_may (x : Cm) (ps : List Nm) : mayC (parC x ps) = (decide ((ps.take 6).length ≤ 4) && distN (ps.take 6) (ps.take 6).length && Flo.may x.time) := by
  unfold mayC parC mayP
  have h : ((x.note.take 110).take 100).length ≤ 100 := by rw [List.length_take]; omega
  simp only [decide_eq_true h, Bool.and_true]
set_option maxRecDepth 100000 in
set_option maxHeartbeats 8000000 in
theorem cpar_any (A : Option Addr) (c : Nat) (x : Cm) (A2 : Option Addr) (c2 : Nat) (ps : List Nm) (w : World) (hE : Env w) (hT : Tens w) (hA : ArgN w A c x.parents) (ht : x.time < 18446744073709551616) (hA2 : ArgN w A2 c2 ps) :
    Calls Tryz.prog 10 #[.agg (encC A c x).toArray, .slice A2 ps.length c2] w fun e w' => e = .returned (.bool true) ∧ Below w.heap.size w w' := by
  have HT := Lib.hid (hT.below ((Below.refl w.heap.size w).alloc (Nat.le_refl _) (.cells (encC A c x).toArray 55)))
  have HE := Lib.hid (hE.at_ ((Below.refl w.heap.size w).alloc (Nat.le_refl _) (.cells (encC A c x).toArray 55)))
  have HW := Lib.hid (Whole.made w 55 (encC A c x).toArray)
  have HB := Lib.hid ((Below.refl w.heap.size w).alloc (Nat.le_refl _) (.cells (encC A c x).toArray 55))
  have HA := Lib.hid (hA.later HB.out)
  have HA2 := Lib.hid (hA2.later HB.out)
  have hlc := hA2.1
  have hs0 : (w.alloc (.cells (encC A c x).toArray 55)).heap.size = w.heap.size + 1 := by simp
  have HTM := Lib.hid ht
  have HNB := Lib.hid fun j (hj : inBlk A2 j) (h0 : 0 < ps.length) => hA2.lt hj h0
  clear hE hT hA hA2 ht
  obtain ⟨m, hm, hm1, hm6⟩ : ∃ m, m = min ps.length 6 ∧ m ≤ ps.length ∧ m ≤ 6 := ⟨_, rfl, Nat.min_le_left _ _, Nat.min_le_right _ _⟩
  have hmin : ∀ W, (Builtin.min_ #[3, 3] 3 #[.int .i64 (ps.length : Int), .int .i64 6]).run Tryz.prog W = .ok (.int .i64 (m : Int)) W := by
    intro W
    rw [run_min_int2]
    congr 2
    split <;> omega
  have hsl := slice_toC (A := A2) (c := c2) ps.length m (by omega)
  have HTK : Hid (ps.take m = ps.take 6) := by
    show _ = _
    rcases Nat.le_total ps.length 6 with h | h
    · rw [hm, Nat.min_eq_left h, List.take_length, List.take_of_length_le h]
    · rw [hm, Nat.min_eq_right h]
  have hml : (ps.take m).length = m := by rw [List.length_take]; omega
  have HML := Lib.hid hml
  have HTX : Hid (∀ W, Calls Tryz.prog 15 #[.string ⟨(trimC x).note.toArray⟩, .int .i64 100] W fun e w' => e = .returned (.string ⟨((trimC x).note.take 100).toArray⟩) ∧ W = w') := fun W => text_any (trimC x).note 100 W
  have HXI := Lib.hid (infoC_l A c x)
  have HR := Lib.hid (whole_range HW.out)
  clear hm hml
  go_enter Tryz.func10, Tryz.ntmps10
  go_wp2_with fail
  generalize w.alloc (.cells (encC A c x).toArray 55) = w0 at *
  refine (begun6_any w0 HE.out HT.out).mono ?_
  rintro e w1 ⟨rfl, hb⟩
  have HB1 := Lib.hid (HB.out.trans (hb.mono HB.out.size))
  have HW1 := Lib.hid (HW.out.below hb (by omega))
  have HA1 := Lib.hid (HA.out.later hb)
  have HA21 := Lib.hid (HA2.out.later hb)
  have hs1 : w.heap.size + 1 ≤ w1.heap.size := by have := hb.size; omega
  have HR1 := Lib.hid (whole_range HW1.out)
  clear hb HE HT HB HW HA HA2 HR hs0
  go_wp2_with (refine wpList_load_mid rfl 55 _ rfl w.heap.size 0 rfl (encC A c x) _ HR1.out Tryz.underlying55 rfl HXI.out ?_)
  refine (lcom_any A c x w1 HA1.out).mono ?_
  rintro e w2 ⟨⟨A3, c3, rfl, hn2, hlo2⟩, hb⟩
  have HB2 := Lib.hid (HB1.out.trans (hb.mono (by omega)))
  have HW2 := Lib.hid (HW1.out.below hb (by omega))
  have HA22 := Lib.hid (HA21.out.later hb)
  have hs2 : w.heap.size + 1 ≤ w2.heap.size := by have := hb.size; omega
  have HSS := Lib.hid (encC_s A c x)
  have HSZ := Lib.hid (encC_s A3 c3 (trimC x))
  have HIS := Lib.hid (infoC_s A3 c3 (trimC x))
  have HO1 := Lib.hid (encC_one A3 c3 (trimC x))
  clear hb HB1 HW1 HA1 HA21 HR1 HXI hn2 hlo2
  go_wp2_with (refine wpList_store_whole rfl 55 _ _ rfl w.heap.size (encC A3 c3 (trimC x)).toArray rfl rfl 55 _ HW2.out HIS.out (by rw [HSS.out, HSZ.out]) (all_oneCell_toArray HO1.out) ?_; intro w3 hWn hGn; have c34 := (hWn.at_ 34).trans (encC_34 A3 c3 (trimC x)); have f34 := hWn.thawed 34; have HW3 := Lib.hid hWn; have HG3 := Lib.hid hGn; clear hWn hGn)
  refine (HTX.out _).mono ?_
  rintro e w' ⟨rfl, rfl⟩
  have hg3 := HG3.out
  have hA23 := HA22.out.grown hg3 (fun j hj h0 e => by injection e with e; have := HNB.out j hj h0; omega)
  have hB3 := be_grown HB2.out hg3 (by have := HB2.out.size; exact this) (fun j hj => by injection hj with hj; omega)
  have hs3 : w.heap.size + 1 ≤ w3.heap.size := by have := hg3.size; omega
  go_upto_region 6 with fail
  have hW4 := HW3.out.put 34 (.string ⟨((trimC x).note.take 100).toArray⟩)
  rw [encC_set34] at hW4
  have hA24 := hA23.grown (gr_set (a := w3) (w := w3) (row := some w.heap.size) (gr_refl _ _) (p := ⟨w.heap.size, 34, none⟩) (.inl rfl) (.string ⟨((trimC x).note.take 100).toArray⟩)) (fun j hj h0 e => by injection e with e; have := HNB.out j hj h0; omega)
  have hB4 := hB3.setCell (p := ⟨w.heap.size, 34, none⟩) (Nat.le_refl _) (.string ⟨((trimC x).note.take 100).toArray⟩)
  have hs4 : w.heap.size + 1 ≤ (w3.setCell ⟨w.heap.size, 34, none⟩ (.string ⟨((trimC x).note.take 100).toArray⟩)).heap.size := by simpa using hs3
  generalize w3.setCell ⟨w.heap.size, 34, none⟩ (.string ⟨((trimC x).note.take 100).toArray⟩) = w4 at *
  have HW4 := Lib.hid hW4
  have HA24 := Lib.hid (hA24.take m)
  have HB4 := Lib.hid hB4
  clear hW4 hA24 hB4 hB3 hA23 hg3 c34 f34 HTX HW3 HG3 HSS HSZ HIS HO1 HW2 HB2 HA22
  have hg1 : w4.ownsRow (w.heap.size + 1) 40 32 (.slice none 0 0) ([] : List Nm).length (([] : List Nm).flatMap encN) := by simpa using World.ownsRow_nil _ _ _ _
  have hg5 : ([] : List Nm).length + (ps.take m).length ≤ 1000 := by rw [HML.out, List.length_nil]; omega
  have HAPP : Hid (∀ (v' : Value) (w5 : World), w5.ownsRow (w.heap.size + 1) 40 32 v' ([] ++ ps.take m).length (([] ++ ps.take m).flatMap encN) → Below (w.heap.size + 1) w4 w5 → ∃ A' c', v' = .slice A' m c' ∧ Hid (ArgN w5 A' c' (ps.take m)) ∧ Hid (∀ j, inBlk A' j → w.heap.size + 1 ≤ j) ∧ Hid (Whole w5 w.heap.size 55 (encC A3 c3 ⟨(trimC x).tree, (trimC x).parents, (trimC x).time, (trimC x).note.take 100⟩).toArray) ∧ Hid (Below w.heap.size w w5) ∧ w.heap.size + 1 ≤ w5.heap.size) := by
    intro v' w5 hown' hb5
    rw [List.nil_append] at hown'
    have hlow := fun A' n c' => own_low (A := A') (n := n) (c := c') hown'
    obtain ⟨A', c', rfl, harg⟩ := own_arg hown'
    have hlow' := hlow A' _ c' rfl
    refine ⟨A', c', by rw [HML.out], harg, hlow', HW4.out.below hb5 (by omega), HB4.out.trans (hb5.mono (by omega)), ?_⟩
    have := hb5.size
    omega
  have HG1 := Lib.hid hg1
  clear hg1
  go_upto_region 7 with (first
    | (at_builtin; go_loud (refine wpList_appendN rfl _ _ rfl (w.heap.size + 1) (.slice none 0 0) [] rfl HG1.out A2 m c2 (ps.take m) HML.out rfl HA24.out hs4 hg5 ?_; intro v' w5 hown' hb5; obtain ⟨A', c', rfl, HAR, HLO, HW5, HB5, hs5⟩ := HAPP.out v' w5 hown' hb5; have c32 := (HW5.out.at_ 32).trans (encC_32 _ _ _); have f32 := HW5.out.thawed 32; clear hown' hb5)))
  have hW6 := HW5.out.put 32 (.slice A' m c')
  have hse := encC_set32 A3 c3 A' c' ⟨(trimC x).tree, (trimC x).parents, (trimC x).time, (trimC x).note.take 100⟩ (ps.take m)
  rw [HML.out] at hse
  rw [hse] at hW6
  have hpc : (⟨(trimC x).tree, ps.take m, (trimC x).time, (trimC x).note.take 100⟩ : Cm) = parC x ps := by unfold parC; rw [HTK.out]; rfl
  rw [hpc] at hW6
  have hA6 := HAR.out.grown (gr_set (a := w5) (w := w5) (row := some w.heap.size) (gr_refl _ _) (p := ⟨w.heap.size, 32, none⟩) (.inl rfl) (.slice A' m c')) (fun j hj _ e => by injection e with e; have := HLO.out j hj; omega)
  have hB6 := HB5.out.setCell (p := ⟨w.heap.size, 32, none⟩) (Nat.le_refl _) (.slice A' m c')
  have hs6 : w.heap.size + 1 ≤ (w5.setCell ⟨w.heap.size, 32, none⟩ (.slice A' m c')).heap.size := by simpa using hs5
  have hyp : (parC x ps).parents = ps.take m := HTK.out.symm
  have hyl : (parC x ps).parents.length = m := by rw [hyp]; exact HML.out
  have hyt : (parC x ps).time < 18446744073709551616 := HTM.out
  have hym : mayC (parC x ps) = (decide ((parC x ps).parents.length ≤ 4) && distN (parC x ps).parents (parC x ps).parents.length && Flo.may (parC x ps).time) := parC_may x ps
  rw [← hyp] at hA6
  generalize w5.setCell ⟨w.heap.size, 32, none⟩ (.slice A' m c') = w6 at *
  clear hse hpc hyp c32 f32 HW5 HB5 HAR HG1 HAPP HTK HML HTM HW4 HA24 HB4 hsl hmin hg5
  generalize parC x ps = y at *
  have HW6 := Lib.hid hW6
  have HA6 := Lib.hid hA6
  have HB6 := Lib.hid hB6
  have HYT := Lib.hid hyt
  have HYM := Lib.hid hym
  have HYL := Lib.hid hyl
  clear hW6 hA6 hB6 hyt hym
  have HRY := Lib.hid (whole_range HW6.out)
  have HYI := Lib.hid (infoC_l A' c' y)
  have hput := cput_any A' c' y w6 HA6.out HYT.out
  obtain ⟨T, hT⟩ : ∃ T, T = if mayC y then bytesC y else [] := ⟨_, rfl⟩
  rw [← hT] at hput
  have HPUT := Lib.hid hput
  have HTT := Lib.hid hT
  clear hyl hput hT
  go_wp2_with (refine wpList_load_mid rfl 55 _ rfl w.heap.size 0 rfl (encC A' c' y) _ HRY.out Tryz.underlying55 rfl HYI.out ?_)
  refine HPUT.out.mono ?_
  rintro e w7 ⟨rfl, hb⟩
  have HB7 := Lib.hid (HB6.out.trans (hb.mono HB6.out.size))
  have HW7 := Lib.hid (HW6.out.below hb HW6.out.lt)
  have HA7 := Lib.hid (HA6.out.later hb)
  have hs7 : w.heap.size + 1 ≤ w7.heap.size := by have := hb.size; omega
  clear hb HPUT HRY HW6 HA6 HB6
  obtain ⟨my, hmy⟩ : ∃ my, my = mayC y := ⟨_, rfl⟩
  rw [← hmy] at HYM HTT
  rw [← hmy]
  have HMY := Lib.hid hmy
  clear hmy
  go_wp2_with fail
  refine wp_region_K (fun W => W.cell? ⟨w.heap.size, 32, none⟩ = some (.slice A' m c')) 8 (by kernel_rfl) ?_
  change wpAnyK _ _ _ _ _ _ _ _ _ (World.drew w7)
  have HWd : Hid (Whole w7.drew w.heap.size 55 (encC A' c' y).toArray) := HW7.out
  have HBd := Lib.hid HB7.out.drew
  have HAd := Lib.hid (HA7.out.later (Below.refl _ _).drew)
  have hsd : w.heap.size + 1 ≤ w7.drew.heap.size := hs7
  clear HW7 HB7 HA7 hs7
  generalize World.drew w7 = w8 at *
  have hS0 : w8.cell? ⟨w.heap.size, 32, none⟩ = some (.slice A' m c') := by
    have h := (HWd.out.at_ 32).trans (encC_32 A' c' y)
    rw [HYL.out] at h
    exact h
  refine wpAnyK_take0 (i := 0) (oi := { dst := some 32, op := _, type := _, pos := _, after := _, guard := none }) (v := .pointer (some ⟨w.heap.size, 32, none⟩)) rfl (by kernel_rfl) (fun _ _ _ h => h) (Or.inl ⟨by rfl, fun W hW => ?_⟩) (fun _ => hS0) ?_
  · go_simp
  refine wpAnyK_take (i := 1) (oi := { dst := some 33, op := _, type := _, pos := _, after := _, guard := none }) (v := .slice A' m c') rfl (by kernel_rfl) (fun _ _ _ h => h) (Or.inl ⟨by rfl, fun W hW => ?_⟩) hS0 ?_
  · go_simp
  refine wpAnyK_take0 (i := 4) (oi := { dst := some 36, op := _, type := _, pos := _, after := _, guard := none }) (v := .pointer (some ⟨w.heap.size, 32, none⟩)) rfl (by kernel_rfl) (fun _ _ _ h => h) (Or.inl ⟨by rfl, fun W hW => ?_⟩) (fun _ => hS0) ?_
  · go_simp
  refine wpAnyK_take (i := 5) (oi := { dst := some 37, op := _, type := _, pos := _, after := _, guard := none }) (v := .slice A' m c') rfl (by kernel_rfl) (fun _ _ _ h => h) (Or.inl ⟨by rfl, fun W hW => ?_⟩) hS0 ?_
  · go_simp
  refine wpAnyK_take0 (i := 6) (oi := { dst := some 38, op := _, type := _, pos := _, after := _, guard := none }) (v := .int .i64 (m : Int)) rfl (by kernel_rfl) (fun _ _ _ h => h) (Or.inl ⟨by rfl, fun W hW => ?_⟩) (fun _ => hS0) ?_
  · go_simp
  simp only [Act.put]
  go_simp
  have hsort := rsort_nm A' c' y.parents w8 HAd.out (by have := HYL.out; omega)
  rw [HYL.out] at hsort
  refine wpAnyK_ready (rs := [2]) (by kernel_rfl) (by simp) ?_
  refine AllReadyK.cons (o := _) rfl (fun K hK => ?_) AllReadyK.nil
  rw [if_pos (by rfl)]
  go_simp
  refine hsort.mono ?_
  rintro e w9 ⟨A9, c9, sl, rfl, hrise, hmem, -, hb⟩
  have htw := sort_twice hrise hmem
  rw [HYL.out] at htw
  have HTW := Lib.hid htw
  have HW9 := Lib.hid (HWd.out.below hb (by omega))
  have HA9 := Lib.hid (HAd.out.later hb)
  have HB9 := Lib.hid (HBd.out.trans (hb.mono (by omega)))
  have hs9 : w.heap.size + 1 ≤ w9.heap.size := by have := hb.size; omega
  have hS1 : w9.cell? ⟨w.heap.size, 32, none⟩ = some (.slice A' m c') := by
    have h := (HW9.out.at_ 32).trans (encC_32 A' c' y)
    rw [HYL.out] at h
    exact h
  clear hsort hrise hmem hb htw hS0 HWd HBd HAd
  refine hK _ _ (fun _ => hS1) ?_
  clear hK K
  refine wpAnyK_ready (rs := [3]) (by kernel_rfl) (by simp) ?_
  refine AllReadyK.cons (o := _) rfl (fun K hK => ?_) AllReadyK.nil
  rw [if_pos (by rfl)]
  go_simp
  refine hK _ _ (fun _ => hS1) ?_
  clear hK K
  refine wpAnyK_ready (rs := [7]) (by kernel_rfl) (by simp) ?_
  refine AllReadyK.cons (o := _) rfl (fun K hK => ?_) AllReadyK.nil
  rw [if_pos (by rfl)]
  go_simp
  refine hK _ _ (fun _ => hS1) ?_
  clear hK K
  refine wpAnyK_ready (rs := [8]) (by kernel_rfl) (by simp) ?_
  refine AllReadyK.cons (o := _) rfl (fun K hK => ?_) AllReadyK.nil
  rw [if_pos (by rfl)]
  go_simp
  refine hK _ _ (fun h => by cases h) ?_
  clear hK K
  refine wpAnyK_done (by kernel_rfl) ?_ _
  rw [HTW.out]
  have hym := HYM.out
  rw [HYL.out] at hym
  have c33 := (HW9.out.at_ 33).trans (encC_33 A' c' y)
  have HRM := Lib.hid fun W => rmay_any y.time W HYT.out
  have HTL : Hid (T.length ≤ 1048576) := by
    show _ ≤ _
    rw [HTT.out]
    split
    · have := bytesC_le y (by rw [← HMY.out]; assumption)
      omega
    · simp
  have HRD : Hid (my = true → readC T = some y) := by
    intro h
    rw [HTT.out, if_pos h]
    exact readC_put y HYT.out (by rw [← HMY.out]; exact h)
  clear HTW HYM HTT HMY
  obtain ⟨d, hd⟩ : ∃ d, d = distN y.parents m := ⟨_, rfl⟩
  obtain ⟨mt, hmt⟩ : ∃ mt, mt = Flo.may y.time := ⟨_, rfl⟩
  obtain ⟨ft, hft⟩ : ∃ ft, ft = y.time := ⟨_, rfl⟩
  rw [← hd, ← hmt] at hym
  rw [← hmt] at HRM
  rw [← hft] at HRM c33
  rw [← hd]
  clear hd hmt hft
  have HS := Lib.hid hS1
  cases hmyv : my
  case false =>
    subst hmyv
    cases mt
    all_goals cases d
    all_goals (rcases Nat.lt_or_ge 4 m with h4 | h4)
    all_goals (first | (have h4d : decide ((m : Int) ≤ 4) = true := by simp; omega) | (have h4d : decide ((m : Int) ≤ 4) = false := by simp; omega))
    all_goals (first | (exfalso; simp [h4] at hym; done) | skip)
    all_goals
      clear hym hS1
      go_wp2_with (first
        | (go_at_call 39; refine (HRM.out _).mono ?_; rintro e w10 ⟨rfl, q, hq⟩; have c32 : w10.cell? ⟨w.heap.size, 32, none⟩ = some (.slice A' m c') := (by rw [hq]; exact HS.out); have HQ := Lib.hid hq; clear hq))
      have HB10 : Hid (Below w.heap.size w w10) := by show Below _ _ _; rw [HQ.out]; exact be_drewN HB9.out q
      refine (cget_any T w10 HTL.out).mono ?_
      rintro e w11 ⟨hcase, hb⟩
      have HB11 := Lib.hid (HB10.out.trans (hb.mono HB10.out.size))
      obtain ⟨x5, A5, c5, en, rfl⟩ : ∃ x5 A5 c5 en, e = .returned (.tuple #[.agg (encC A5 c5 x5).toArray, .int .i64 en]) := by
        rcases hcase with ⟨x', A, c, -, he, -⟩ | ⟨-, he⟩
        · exact ⟨x', A, c, 0, he⟩
        · exact ⟨noC, none, 0, 1, he⟩
      clear hb hcase
      go_wp2_with (refine wpList_store_whole rfl 55 _ _ rfl w11.heap.size (encC A5 c5 x5).toArray rfl rfl 55 _ (Whole.made w11 _ _) (infoC_s A5 c5 x5) (by rw [encC_s]; kernel_rfl) (all_oneCell_toArray (encC_one A5 c5 x5)) ?_; intro w12 hWn hGn; have HD12 := Lib.hid (made_below' hGn); clear hWn hGn)
      go_ret
      exact ⟨rfl, HB11.out.trans (HD12.out.mono HB11.out.size)⟩
  case true =>
    subst hmyv
    obtain ⟨h4, hd, hmt⟩ : m ≤ 4 ∧ d = true ∧ mt = true := by
      have := hym.symm
      simp only [Bool.and_eq_true, decide_eq_true_eq] at this
      exact ⟨this.1.1, this.1.2, this.2⟩
    subst hd hmt
    have h4d : decide ((m : Int) ≤ 4) = true := by simp; omega
    have HRDY := Lib.hid (HRD.out rfl)
    clear hym hS1
    go_wp2_with (first
      | (go_at_call 39; refine (HRM.out _).mono ?_; rintro e w10 ⟨rfl, q, hq⟩; have c32 : w10.cell? ⟨w.heap.size, 32, none⟩ = some (.slice A' m c') := (by rw [hq]; exact HS.out); have HQ := Lib.hid hq; clear hq))
    have HB10 : Hid (Below w.heap.size w w10) := by show Below _ _ _; rw [HQ.out]; exact be_drewN HB9.out q
    have HW10 : Hid (Whole w10 w.heap.size 55 (encC A' c' y).toArray) := by show Whole _ _ _ _; rw [HQ.out]; exact HW9.out
    have HA10 : Hid (ArgN w10 A' c' y.parents) := by show ArgN _ _ _ _; rw [HQ.out]; exact HA9.out.later (be_drewN (Below.refl _ _) q)
    have hs10 : w.heap.size < w10.heap.size := HW10.out.lt
    clear c32 HQ HS HW9 HA9 HB9
    refine (cget_any T w10 HTL.out).mono ?_
    rintro e w11 ⟨(⟨x5, A5, c5, hrd, rfl, har, -⟩ | ⟨hrd, -⟩), hb⟩
    case inr =>
      rw [HRDY.out] at hrd
      cases hrd
    obtain rfl : y = x5 := by have := HRDY.out.symm.trans hrd; injection this
    have HB11 := Lib.hid (HB10.out.trans (hb.mono HB10.out.size))
    have HW11 := Lib.hid (HW10.out.below hb hs10)
    have HA11 := Lib.hid (HA10.out.later hb)
    have HA5 := Lib.hid har
    clear hb hrd har HW10 HA10 HB10
    have HPF : Hid (∀ (W : World) (g : Nat) A c, Whole W g 55 (encC A c y).toArray → W.rangeAt g 0 (encN y.tree)) := by
      intro W g A c h j v hv
      have h9 := whole_range h j v
      refine h9 ?_
      unfold encC
      rw [List.getElem?_append_left (List.getElem?_eq_some_iff.1 hv).1]
      exact hv
    have heq : ∀ W, (binOp .eql 40 (.agg (encN y.tree).toArray) (.agg (encN y.tree).toArray)).run Tryz.prog W = .ok (.bool true) W := by
      intro W
      rw [eql_nm]
      simp
    have HXN := Lib.hid (infoX y.tree)
    go_upto_region 12 with (refine wpList_store_whole rfl 55 _ _ rfl w11.heap.size (encC A5 c5 y).toArray rfl rfl 55 _ (Whole.made w11 _ _) (infoC_s A5 c5 y) (by rw [encC_s]; kernel_rfl) (all_oneCell_toArray (encC_one A5 c5 y)) ?_; intro w12 hWn hGn; have HW12 := Lib.hid hWn; have HD12 := Lib.hid (made_below' hGn); clear hWn hGn)
    have HB12 := Lib.hid (HB11.out.trans (HD12.out.mono HB11.out.size))
    have HY12 := Lib.hid (HW11.out.below HD12.out HW11.out.lt)
    have HA12 := Lib.hid (HA11.out.later HD12.out)
    have HA52 := Lib.hid (HA5.out.later HD12.out)
    have c1 : w12.cell? ⟨w.heap.size, 32, none⟩ = some (.slice A' m c') := by
      have h := (HY12.out.at_ 32).trans (encC_32 A' c' y)
      rw [HYL.out] at h
      exact h
    have c2' : w12.cell? ⟨w11.heap.size, 32, none⟩ = some (.slice A5 m c5) := by
      have h := (HW12.out.at_ 32).trans (encC_32 A5 c5 y)
      rw [HYL.out] at h
      exact h
    have hq2 := req2_nm A5 c5 A' c' y.parents y.parents w12 HA52.out HA12.out (by have := HYL.out; omega)
    rw [HYL.out, show decide (y.parents = y.parents) = true from decide_eq_true rfl] at hq2
    have HEQ := Lib.hid hq2
    clear hq2 HA52 HA12 HA5 HA11 HD12
    generalize w11.heap.size = g5 at *
    go_wp2_with (first
      | (go_at_call 40; refine HEQ.out.mono ?_; rintro e w13 ⟨rfl, q3, hq3⟩; have HT1 : Hid (w13.rangeAt g5 0 (encN y.tree)) := (by show World.rangeAt _ _ _ _; rw [hq3]; exact HPF.out _ _ _ _ HW12.out); have HT2 : Hid (w13.rangeAt w.heap.size 0 (encN y.tree)) := (by show World.rangeAt _ _ _ _; rw [hq3]; exact HPF.out _ _ _ _ HY12.out); have d1 : w13.cell? ⟨g5, 34, none⟩ = some (.string ⟨y.note.toArray⟩) := (by rw [hq3]; exact (HW12.out.at_ 34).trans (encC_34 A5 c5 y)); have d2 : w13.cell? ⟨w.heap.size, 34, none⟩ = some (.string ⟨y.note.toArray⟩) := (by rw [hq3]; exact (HY12.out.at_ 34).trans (encC_34 A' c' y)); have HQ3 := Lib.hid hq3; clear hq3)
      | (refine wpList_load_mid_on 40 _ rfl g5 0 rfl (by rfl) (encN y.tree) _ HT1.out Tryz.underlying40 rfl HXN.out ?_)
      | (refine wpList_load_mid_on 40 _ rfl w.heap.size 0 rfl (by rfl) (encN y.tree) _ HT2.out Tryz.underlying40 rfl HXN.out ?_))
    go_ret
    exact ⟨rfl, by rw [HQ3.out]; exact be_drewN HB12.out q3⟩
end Go.Proofs.YtacmdpfidakkkaaGreatDoor

/-
  Nothing: Sum of no Hash.
-/
import Derived.Test.YtbljoeeekhdjkaaGreatDoorShaG
namespace Go.Proofs.YtbljoeeekhdjkaaGreatDoor
open Go.RowKit
theorem calls_zero {P : Program} {f : FuncId} {args : Array Value} {K : Ending → World → Prop} (w : World) (A : Array Value) (h : ∀ w3, Below w.heap.size w w3 → HashAt w3 (w.heap.size + 1) 91 [] → Whole w3 w.heap.size 28 A → Calls P f args w3 K) :
    Calls P f args ((w.alloc (.cells A 28)).alloc (.cells Tryz.zeroCells91 91)) K :=
  h _ (((Below.refl _ _).alloc (Nat.le_refl _) _).alloc (by simp) _) (zero_hash w _) ((Whole.made w _ _).past _)
set_option maxRecDepth 100000 in
set_option maxHeartbeats 4000000 in
theorem hsum_nil (w : World) (hTab : Tabs w) :
    Calls Tryz.prog 18 #[.pointer none] w fun e w' => e = .returned (.agg ((ShaM.sha []).map Y).toArray) ∧ Below w.heap.size w w' := by
  have HTab := Lib.hid hTab
  clear hTab
  obtain ⟨X, hX⟩ : ∃ X : List UInt8, X = [] := ⟨_, rfl⟩
  have HXX := Lib.hid hX
  have HX0 : Hid ((X.length : Int) = 0) := by show _ = _; rw [hX]; rfl
  have hX : X.length < 2 ^ 59 := by rw [hX]; decide
  rw [← HXX.out]
  have z72 : ∀ h, Tryz.zeroCells91[72]'h = .int .u64 0 := fun h => by kernel_rfl
  go_enter Tryz.func18, Tryz.ntmps18
  go_wp2_with fail
  clear z72
  refine calls_zero w _ ?_
  intro w3 hB3 hH3 hZ0
  rw [← HXX.out] at hH3
  obtain ⟨z, hz, hZ⟩ : ∃ z : Array Value, z.size = 32 ∧ Whole w3 w.heap.size 28 z := ⟨_, rfl, hZ0⟩
  have HB3 := Lib.hid hB3
  have hs3 := hH3.lt
  have HH3 := Lib.hid hH3
  have HZ := Lib.hid hz
  have HZ3 := Lib.hid hZ
  clear hB3 hH3 hZ0 hz hZ
  have HT3 := Lib.hid (HTab.out.below HB3.out HTab.out.lt1 HTab.out.lt2)
  have hpd := padding_any X.length w3 (by omega)
  rw [HX0.out] at hpd
  have hk := ShaM.padN_bd X.length
  have HK := Lib.hid hk
  have HPL := Lib.hid (ShaM.pad_len X.length)
  obtain ⟨pc, hpc⟩ : ∃ pc, pc = ((ShaM.pad X.length ++ List.replicate (72 - ShaM.padN X.length) 0).map Y).toArray := ⟨_, rfl⟩
  have hpsz : pc.size = 72 := by rw [hpc, List.size_toArray, List.length_map, List.length_append, HPL.out, List.length_replicate]; omega
  have HPI : Hid ((Tryz.prog.info? 94).map (·.size) = some pc.size) := by show _ = _; rw [hpsz]; kernel_rfl
  have HPS := Lib.hid hpsz
  have HP1 : Hid (pc.all (·.oneCell') = true) := by show _ = _; rw [hpc]; exact ys_all _
  have HPA : Hid (∀ i, i < ShaM.padN X.length → pc[0 + i]? = some (Y ((ShaM.pad X.length).getD i 0))) := fun i hi => by
    rw [hpc, List.getElem?_toArray, List.map_append, List.getElem?_append_left (by rw [List.length_map, HPL.out]; omega), ← some_y _ _ (by rw [HPL.out]; omega), Nat.zero_add]
  rw [← hpc] at hpd
  clear hpc hpsz hk
  generalize ShaM.padN X.length = k at *
  have HPD := Lib.hid hpd
  clear hpd
  have hk0 : (0 : Int) ≤ (k : Int) := by omega
  have hk72 : (k : Int) ≤ 72 := by have := HK.out; omega
  refine HPD.out.mono ?_
  rintro e w4 ⟨rfl, hB4⟩
  have HB4 := Lib.hid hB4
  clear hB4
  go_wp2_with (refine wpList_store_whole rfl 94 _ _ rfl w4.heap.size pc rfl rfl 94 _ (Whole.made w4 _ _) HPI.out (by rw [HPS.out]; kernel_rfl) HP1.out ?_; intro w5 hW5 hG5; have HW5 := Lib.hid hW5; have HG5 := Lib.hid hG5; clear hW5 hG5)
  have HB5 := Lib.hid (be_grown ((HB3.out.trans (HB4.out.mono HB3.out.size)).alloc (Nat.le_trans HB3.out.size HB4.out.size) _) HG5.out (by have := HB3.out.size; have := HB4.out.size; simp; omega) (fun j hj => by injection hj with hj; have := HB3.out.size; have := HB4.out.size; omega))
  have HB35 : Hid (Below w3.heap.size w3 w5) := be_grown (HB4.out.alloc HB4.out.size _) HG5.out (by have := HB4.out.size; simp; omega) (fun j hj => by injection hj with hj; have := HB4.out.size; omega)
  have HH5 := Lib.hid (HH3.out.below HB35.out hs3)
  have HT5 := Lib.hid (HT3.out.below HB35.out HT3.out.lt1 HT3.out.lt2)
  have HZ5 := Lib.hid (HZ3.out.below HB35.out (by omega))
  have h4 : w3.heap.size ≤ w4.heap.size := HB4.out.size
  clear HG5 HB4 HPD HB35
  go_wp2_with fail
  have hby : Bytes w5 (.slice (some ⟨w4.heap.size, 0, none⟩) k 72) (ShaM.pad X.length) := ⟨_, 72, by rw [HPL.out], by rw [HPL.out]; omega, by unfold maxLen; omega, fun _ => ⟨_, _, rfl, fun i hi => (HW5.out.at_ (0 + i)).trans (HPA.out i (by rw [HPL.out] at hi; exact hi))⟩⟩
  have hl1 := HT3.out.lt1
  have hl2 := HT3.out.lt2
  have hl1' := HTab.out.lt1
  have hl2' := HTab.out.lt2
  refine (put_any (w.heap.size + 1) 91 _ X (ShaM.pad X.length) w5 HT5.out (by omega) (by omega) HH5.out (by omega) hby (fun _ h => by injection h with h; dsimp only at h; omega)).mono ?_
  rintro e w6 ⟨rfl, hG6, hH6⟩
  clear hby hl1 hl2 hl1' hl2'
  obtain ⟨s6, pt6, hp6, hW6, hs6, _⟩ := hH6
  have hs6' : s6 = ShaM.stOf (X ++ ShaM.pad X.length) := hs6 (fun h => by have := congrArg List.length h; rw [List.length_append, HPL.out, List.length_nil] at this; have := HK.out; omega)
  have HSH : Hid (ShaM.sha X = ShaM.out s6) := by rw [hs6']; rfl
  have HB6 := Lib.hid (be_grown HB5.out hG6 HB5.out.size (fun j hj => by injection hj with hj; omega))
  have HZ6 := Lib.hid (HZ5.out.grown hG6 (by simp))
  have hrg : w6.rangeAt (w.heap.size + 1) 0 (stl s6) := fun j v hv => by
    have hj : j < 8 := by
      rcases Nat.lt_or_ge j 8 with h | h
      · exact h
      · rw [List.getElem?_eq_none (by rw [stl_len]; omega)] at hv; cases hv
    rw [Nat.zero_add, hW6.at_ j, List.getElem?_toArray, hl, List.getElem?_append_left (by rw [stl_len]; exact hj)]
    exact hv
  have HRG := Lib.hid hrg
  have hs6s : w.heap.size + 1 < w6.heap.size := hW6.lt
  clear hs6 hs6' hG6 hW6 hp6 hrg HB5 HZ5 HH5 HT5 HW5
  go_wp2_with (refine wpList_load_mid rfl 88 _ rfl (w.heap.size + 1) 0 rfl (stl s6) _ (range_past HRG.out _) Tryz.underlying88 rfl (by kernel_rfl) ?_)
  go_loopw [25] (fun i wr => ∃ q : Nat, q ≤ 8 ∧ i = .int .i64 q ∧ Whole wr w6.heap.size 28 (oarr s6 q).toArray ∧ Below w6.heap.size w6 wr) (fun i _ => 8 - (intOf i).toNat)
  case atStart => exact ⟨0, by omega, rfl, Whole.made w6 _ _, (Below.refl _ _).alloc (Nat.le_refl _) _⟩
  case round =>
    obtain ⟨q, hq, rfl, hW, hB⟩ := hrel
    have HW := Lib.hid hW
    have HB := Lib.hid hB
    clear hW hB
    by_cases hlt : q < 8
    · have hidx := run_index_one 88 87 8 (stl s6).toArray q _ _ Tryz.underlying88 Tryz.underlying87 rfl (by kernel_rfl) hlt (stl_at s6 q hlt)
      have hsl := run_slice_arr (P := Tryz.prog) 28 5 32 w6.heap.size 0 (4 * q) Tryz.underlying28 (by kernel_rfl) (by omega)
      rw [show ((4 * q : Nat) : Int) = 4 * (q : Int) by omega, Nat.zero_add] at hsl
      unfold U at hidx
      go_wp2_with fail
      refine (putWord_at w6.heap.size (4 * q) _ _ _ (s6.at q) rfl 28 _ _ (by omega) HW.out (by rw [List.size_toArray, oarr_len _ _ (by omega)]; omega)).mono ?_
      rintro e w7 ⟨rfl, hG7, hW7⟩
      rw [oarr_step _ _ hlt] at hW7
      have HW7 := Lib.hid hW7
      have HB7 := Lib.hid (be_grown HB.out hG7 HB.out.size (fun j hj => by injection hj with hj; omega))
      clear hG7 hW7 hidx hsl
      go_wp2
      go_roundw
      case rel => exact ⟨q + 1, by omega, by go_num, HW7.out, HB7.out⟩
      case measure => simp [intOf]; omega
    · have hW8 : Whole wr w6.heap.size 28 ((ShaM.out s6).map Y).toArray := by
        have := HW.out
        rw [show q = 8 by omega, oarr_full] at this
        exact this
      obtain ⟨oc, hoc⟩ : ∃ oc, oc = ((ShaM.out s6).map Y).toArray := ⟨_, rfl⟩
      rw [← hoc] at hW8
      have hos : oc.size = 32 := by rw [hoc, List.size_toArray, List.length_map]; rfl
      have HOI : Hid ((Tryz.prog.info? 28).map (·.size) = some oc.size) := by show _ = _; rw [hos]; kernel_rfl
      have HO1 : Hid (oc.all (·.oneCell') = true) := by show _ = _; rw [hoc]; exact ys_all _
      have HOS : Hid (z.size = oc.size) := by show _ = _; rw [hos, HZ.out]
      have HOC := Lib.hid hoc
      have HW8 := Lib.hid hW8
      have HZ8 := Lib.hid (HZ6.out.below HB.out (by omega))
      have HB8 := Lib.hid (HB6.out.trans (HB.out.mono HB6.out.size))
      clear hoc hos hW8
      go_wp2_with (first
        | (refine wpList_load_row rfl 28 _ rfl w6.heap.size rfl 28 oc (0, 0) _ HW8.out Tryz.underlying28 rfl HOI.out ?_)
        | (refine wpList_store_whole rfl 28 _ _ rfl w.heap.size oc rfl rfl 28 z HZ8.out HOI.out HOS.out HO1.out ?_; intro w9 hW9 hG9; have HW9 := Lib.hid hW9; have HB9 := Lib.hid (be_grown HB8.out hG9 HB8.out.size (fun j hj => by injection hj with hj; omega)); clear hW9 hG9))
      refine bodyPost_ret (v := .agg oc) ?_ rfl ⟨by rw [HOC.out, HSH.out], HB9.out⟩
      exact results_cell_row (p := 2) (ty := 28) rfl _ _ w.heap.size 28 oc (0, 0) _ rfl HW9.out Tryz.underlying28 rfl HOI.out

end Go.Proofs.YtbljoeeekhdjkaaGreatDoor

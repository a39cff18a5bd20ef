/-
  (*sha.Hash).Sum, sha.Sum, walked.
-/
import Derived.Test.YtdjhkaofhdcalaaGreatDoorShaF
namespace Go.Proofs.YtdjhkaofhdcalaaGreatDoor
open Go.RowKit

/-- A store of a whole row; the world behind it is a variable. -/
theorem wpList_store_whole {P : Program} {ops : Array Oper} {rest : List Oper} {o : Oper} {a : Act} {w : World} {Q : Exit → Act → World → Prop} (hgd : o.guard = none) (ty : TypeId) (x y : Operand) (ho : o.op = .store ty x y)
    (g : Nat) (cells : Array Value) (hx : a.eval x = .pointer (some ⟨g, 0, none⟩)) (hy : a.eval y = .agg cells) (t : TypeId) (old : Array Value) (hg : Whole w g t old) (hi : (P.info? ty).map (·.size) = some cells.size)
    (hold : old.size = cells.size) (h1 : cells.all (·.oneCell') = true) (h : ∀ w', Whole w' g t cells → w.grownBy w' (some g) → wpList P ops Q rest (a.put o.dst undef) w') : wpList P ops Q (o :: rest) a w :=
  wpList_store_row hgd ty x y ho g cells hx hy t old hg hi hold h1 (h _ (setRow_heap w g old cells t _ hg) (gr_row (gr_refl _ _) _))
theorem gr_alloc2 {w w' : World} {a b : Obj} {g : Nat} (h : ((w.alloc a).alloc b).grownBy w' (some g)) (hg : w.heap.size ≤ g) : Below w.heap.size w w' :=
  be_grown (((Below.refl _ _).alloc (Nat.le_refl _) _).alloc (by simp) _) h (by simp; omega) (fun j hj => by injection hj with hj; omega)
theorem gr_size2 {w w' : World} {a b : Obj} {row : Option Nat} (h : ((w.alloc a).alloc b).grownBy w' row) : w.heap.size + 1 < w'.heap.size := by
  have := h.size
  simp at this
  omega

/-- The result's bytes as they are being laid. -/
def oarr (s : ShaM.St) (i : Nat) : List Value := (((ShaM.out s).take (4 * i)) ++ List.replicate (32 - 4 * i) 0).map Y
theorem oarr_len (s : ShaM.St) (i : Nat) (h : i ≤ 8) : (oarr s i).length = 32 := by
  simp only [oarr, List.length_map, List.length_append, List.length_take, ShaM.out_len, List.length_replicate]; omega
theorem oarr_full (s : ShaM.St) : oarr s 8 = (ShaM.out s).map Y := rfl
theorem stl_at (s : ShaM.St) (i : Nat) (h : i < 8) : (stl s).toArray[i]? = some (U (s.at i)) := by
  match i, h with
  | 0, _ => rfl
  | 1, _ => rfl
  | 2, _ => rfl
  | 3, _ => rfl
  | 4, _ => rfl
  | 5, _ => rfl
  | 6, _ => rfl
  | 7, _ => rfl
theorem out_take (s : ShaM.St) (i : Nat) (h : i < 8) : (ShaM.out s).take (4 * i + 4) = (ShaM.out s).take (4 * i) ++ ShaM.be4 (s.at i) := by
  match i, h with
  | 0, _ => rfl
  | 1, _ => rfl
  | 2, _ => rfl
  | 3, _ => rfl
  | 4, _ => rfl
  | 5, _ => rfl
  | 6, _ => rfl
  | 7, _ => rfl
theorem oarr_step (s : ShaM.St) (i : Nat) (h : i < 8) : set4 (oarr s i).toArray (4 * i) (s.at i) = (oarr s (i + 1)).toArray := by
  rw [set4_splice _ _ _ (by rw [oarr_len _ _ (by omega)]; omega)]
  congr 1
  have ht : ((ShaM.out s).take (4 * i)).length = 4 * i := by rw [List.length_take, ShaM.out_len]; omega
  simp only [oarr, splice, List.length_map]
  rw [show 4 * (i + 1) = 4 * i + 4 by omega, out_take s i h]
  rw [List.map_append, List.map_append, List.map_append, List.take_append_of_le_length (by rw [List.length_map, ht]; omega), List.take_of_length_le (by rw [List.length_map, ht]; omega)]
  rw [List.drop_append, List.length_map, ht, List.drop_of_length_le (by rw [List.length_map, ht]; omega), List.map_replicate, List.map_replicate, List.drop_replicate]
  have e : (ShaM.be4 (s.at i)).length = 4 := rfl
  rw [e, show 32 - 4 * i - (4 * i + 4 - 4 * i) = 32 - (4 * i + 4) by omega]
  simp
theorem range_past {w : World} {b o : Nat} {cs : List Value} (h : w.rangeAt b o cs) (x : Obj) : (w.alloc x).rangeAt b o cs := fun j v hv => by
  have h1 := h j v hv
  have h2 : b < w.heap.size := World.block_lt_of_cell? w ⟨b, o + j, none⟩ h1
  exact (World.cell?_alloc_lt w x ⟨b, o + j, none⟩ h2).trans h1
/-- Put into nothing. -/
theorem put_nil (v : Value) (w : World) :
    Calls Tryz.prog 39 #[.pointer none, v] w fun e w' => e = .returned (.tuple #[]) ∧ w = w' := by
  go_enter Tryz.func39, Tryz.ntmps39
  go_wp2
  exact bodyPost_ret (results_none rfl _ _ _) rfl ⟨rfl, rfl⟩

set_option maxRecDepth 100000 in
set_option maxHeartbeats 4000000 in
theorem hsum_any (b T : Nat) (X : List UInt8) (w : World) (hTab : Tabs w) (hH : HashAt w b T X) (hX : X.length < 2 ^ 59) :
    Calls Tryz.prog 42 #[.pointer (some ⟨b, 0, none⟩)] w fun e w' => e = .returned (.agg ((ShaM.sha X).map Y).toArray) ∧ Below w.heap.size w w' := by
  have hbw := hH.lt
  obtain ⟨s, pt, hp, hW, hs, ht⟩ := hH
  have HTab := Lib.hid hTab
  have hsz : (hl s pt X.length).toArray.size = 73 := hl_size _ _ _ hp
  have HI : Hid ((Tryz.prog.info? 81).map (·.size) = some (hl s pt X.length).toArray.size) := by show _ = _; rw [hsz]; kernel_rfl
  have H1 := Lib.hid (hl_one s pt X.length)
  have HSZ := Lib.hid hsz
  have hH1 : ∀ w' : World, Whole w' (w.heap.size + 1) 81 (hl s pt X.length).toArray → HashAt w' (w.heap.size + 1) 81 X := fun w' h => ⟨s, pt, hp, h, hs, ht⟩
  have HH1 := Lib.hid hH1
  have h72 : (hl s pt X.length).toArray[72]? = some (.int .u64 (X.length : Int)) := hl_sz _ _ _ hp
  have H72 := Lib.hid h72
  clear hTab hsz hH1 h72 hs ht hp
  have HW := Lib.hid hW
  clear hW
  generalize (hl s pt X.length).toArray = cs at *
  go_enter Tryz.func42, Tryz.ntmps42
  go_wp2_with (first
    | (refine wpList_load_row rfl 81 _ rfl b rfl T cs (0, 0) _ ((HW.out.past _).past _) Tryz.underlying81 rfl HI.out ?_)
    | (refine wpList_store_whole rfl 81 _ _ rfl (w.heap.size + 1) cs rfl rfl 81 _ (heap_alloc2_new w _ _) HI.out (by rw [HSZ.out]; kernel_rfl) H1.out ?_; intro w3 hW3 hG3; have HW3 := Lib.hid hW3; have HG3 := Lib.hid hG3; have c72 := (hW3.at_ 72).trans H72.out; clear hW3 hG3))
  have HB3 := Lib.hid (gr_alloc2 HG3.out (by omega))
  have hs3 := gr_size2 HG3.out
  obtain ⟨z, hz, hZ⟩ : ∃ z : Array Value, z.size = 32 ∧ Whole w3 w.heap.size 22 z := ⟨_, rfl, ((Whole.made w _ _).past _).grown HG3.out (by simp)⟩
  have HZ := Lib.hid hz
  have HZ3 := Lib.hid hZ
  have HH3 := Lib.hid (HH1.out w3 HW3.out)
  have HT3 := Lib.hid (HTab.out.below HB3.out HTab.out.lt1 HTab.out.lt2)
  clear hz hZ HG3 HH1 HI H1 HSZ H72 HW c72 HW3
  have hpd := padding_any X.length w3 (by omega)
  have hk := ShaM.padN_bd X.length
  have HK := Lib.hid hk
  have HPL := Lib.hid (ShaM.pad_len X.length)
  obtain ⟨pc, hpc⟩ : ∃ pc, pc = ((ShaM.pad X.length ++ List.replicate (72 - ShaM.padN X.length) 0).map Y).toArray := ⟨_, rfl⟩
  have hpsz : pc.size = 72 := by rw [hpc, List.size_toArray, List.length_map, List.length_append, HPL.out, List.length_replicate]; omega
  have HPI : Hid ((Tryz.prog.info? 101).map (·.size) = some pc.size) := by show _ = _; rw [hpsz]; kernel_rfl
  have HPS := Lib.hid hpsz
  have HP1 : Hid (pc.all (·.oneCell') = true) := by show _ = _; rw [hpc]; exact ys_all _
  have HPA : Hid (∀ i, i < ShaM.padN X.length → pc[0 + i]? = some (Y ((ShaM.pad X.length).getD i 0))) := fun i hi => by
    rw [hpc, List.getElem?_toArray, List.map_append, List.getElem?_append_left (by rw [List.length_map, HPL.out]; omega), ← some_y _ _ (by rw [HPL.out]; omega), Nat.zero_add]
  rw [← hpc] at hpd
  clear hpc hpsz hk
  generalize ShaM.padN X.length = k at *
  have HPD := Lib.hid hpd
  clear hpd
  have hk0 : (0 : Int) ≤ (k : Int) := by omega
  have hk72 : (k : Int) ≤ 72 := by have := HK.out; omega
  refine HPD.out.mono ?_
  rintro e w4 ⟨rfl, hB4⟩
  have HB4 := Lib.hid hB4
  clear hB4
  go_wp2_with (refine wpList_store_whole rfl 101 _ _ rfl w4.heap.size pc rfl rfl 101 _ (Whole.made w4 _ _) HPI.out (by rw [HPS.out]; kernel_rfl) HP1.out ?_; intro w5 hW5 hG5; have HW5 := Lib.hid hW5; have HG5 := Lib.hid hG5; clear hW5 hG5)
  have HB5 := Lib.hid (be_grown ((HB3.out.trans (HB4.out.mono HB3.out.size)).alloc (Nat.le_trans HB3.out.size HB4.out.size) _) HG5.out (by have := HB3.out.size; have := HB4.out.size; simp; omega) (fun j hj => by injection hj with hj; have := HB3.out.size; have := HB4.out.size; omega))
  have HB35 : Hid (Below w3.heap.size w3 w5) := be_grown (HB4.out.alloc HB4.out.size _) HG5.out (by have := HB4.out.size; simp; omega) (fun j hj => by injection hj with hj; have := HB4.out.size; omega)
  have HH5 := Lib.hid (HH3.out.below HB35.out hs3)
  have HT5 := Lib.hid (HT3.out.below HB35.out HT3.out.lt1 HT3.out.lt2)
  have HZ5 := Lib.hid (HZ3.out.below HB35.out (by omega))
  have h4 : w3.heap.size ≤ w4.heap.size := HB4.out.size
  clear HG5 HB4 HPD HB35
  go_wp2_with fail
  have hby : Bytes w5 (.slice (some ⟨w4.heap.size, 0, none⟩) k 72) (ShaM.pad X.length) := ⟨_, 72, by rw [HPL.out], by rw [HPL.out]; omega, by unfold maxLen; omega, fun _ => ⟨_, _, rfl, fun i hi => (HW5.out.at_ (0 + i)).trans (HPA.out i (by rw [HPL.out] at hi; exact hi))⟩⟩
  have hl1 := HT3.out.lt1
  have hl2 := HT3.out.lt2
  have hl1' := HTab.out.lt1
  have hl2' := HTab.out.lt2
  refine (put_any (w.heap.size + 1) 81 _ X (ShaM.pad X.length) w5 HT5.out (by omega) (by omega) HH5.out (by omega) hby (fun _ h => by injection h with h; dsimp only at h; omega)).mono ?_
  rintro e w6 ⟨rfl, hG6, hH6⟩
  clear hby hl1 hl2 hl1' hl2'
  obtain ⟨s6, pt6, hp6, hW6, hs6, _⟩ := hH6
  have hs6' : s6 = ShaM.stOf (X ++ ShaM.pad X.length) := hs6 (fun h => by have := congrArg List.length h; rw [List.length_append, HPL.out, List.length_nil] at this; have := HK.out; omega)
  have HSH : Hid (ShaM.sha X = ShaM.out s6) := by rw [hs6']; rfl
  have HB6 := Lib.hid (be_grown HB5.out hG6 HB5.out.size (fun j hj => by injection hj with hj; omega))
  have HZ6 := Lib.hid (HZ5.out.grown hG6 (by simp))
  have hrg : w6.rangeAt (w.heap.size + 1) 0 (stl s6) := fun j v hv => by
    have hj : j < 8 := by
      rcases Nat.lt_or_ge j 8 with h | h
      · exact h
      · rw [List.getElem?_eq_none (by rw [stl_len]; omega)] at hv; cases hv
    rw [Nat.zero_add, hW6.at_ j, List.getElem?_toArray, hl, List.getElem?_append_left (by rw [stl_len]; exact hj)]
    exact hv
  have HRG := Lib.hid hrg
  have hs6s : w.heap.size + 1 < w6.heap.size := hW6.lt
  clear hs6 hs6' hG6 hW6 hp6 hrg HB5 HZ5 HH5 HT5 HW5
  go_wp2_with (refine wpList_load_mid rfl 79 _ rfl (w.heap.size + 1) 0 rfl (stl s6) _ (range_past HRG.out _) Tryz.underlying79 rfl (by kernel_rfl) ?_)
  go_loopw [25] (fun i wr => ∃ q : Nat, q ≤ 8 ∧ i = .int .i64 q ∧ Whole wr w6.heap.size 22 (oarr s6 q).toArray ∧ Below w6.heap.size w6 wr) (fun i _ => 8 - (intOf i).toNat)
  case atStart => exact ⟨0, by omega, rfl, Whole.made w6 _ _, (Below.refl _ _).alloc (Nat.le_refl _) _⟩
  case round =>
    obtain ⟨q, hq, rfl, hW, hB⟩ := hrel
    have HW := Lib.hid hW
    have HB := Lib.hid hB
    clear hW hB
    by_cases hlt : q < 8
    · have hidx := run_index_one 79 78 8 (stl s6).toArray q _ _ Tryz.underlying79 Tryz.underlying78 rfl (by kernel_rfl) hlt (stl_at s6 q hlt)
      have hsl := run_slice_arr (P := Tryz.prog) 22 5 32 w6.heap.size 0 (4 * q) Tryz.underlying22 (by kernel_rfl) (by omega)
      rw [show ((4 * q : Nat) : Int) = 4 * (q : Int) by omega, Nat.zero_add] at hsl
      unfold U at hidx
      go_wp2_with fail
      refine (putWord_at w6.heap.size (4 * q) _ _ _ (s6.at q) rfl 22 _ _ (by omega) HW.out (by rw [List.size_toArray, oarr_len _ _ (by omega)]; omega)).mono ?_
      rintro e w7 ⟨rfl, hG7, hW7⟩
      rw [oarr_step _ _ hlt] at hW7
      have HW7 := Lib.hid hW7
      have HB7 := Lib.hid (be_grown HB.out hG7 HB.out.size (fun j hj => by injection hj with hj; omega))
      clear hG7 hW7 hidx hsl
      go_wp2
      go_roundw
      case rel => exact ⟨q + 1, by omega, by go_num, HW7.out, HB7.out⟩
      case measure => simp [intOf]; omega
    · have hW8 : Whole wr w6.heap.size 22 ((ShaM.out s6).map Y).toArray := by
        have := HW.out
        rw [show q = 8 by omega, oarr_full] at this
        exact this
      obtain ⟨oc, hoc⟩ : ∃ oc, oc = ((ShaM.out s6).map Y).toArray := ⟨_, rfl⟩
      rw [← hoc] at hW8
      have hos : oc.size = 32 := by rw [hoc, List.size_toArray, List.length_map]; rfl
      have HOI : Hid ((Tryz.prog.info? 22).map (·.size) = some oc.size) := by show _ = _; rw [hos]; kernel_rfl
      have HO1 : Hid (oc.all (·.oneCell') = true) := by show _ = _; rw [hoc]; exact ys_all _
      have HOS : Hid (z.size = oc.size) := by show _ = _; rw [hos, HZ.out]
      have HOC := Lib.hid hoc
      have HW8 := Lib.hid hW8
      have HZ8 := Lib.hid (HZ6.out.below HB.out (by omega))
      have HB8 := Lib.hid (HB6.out.trans (HB.out.mono HB6.out.size))
      clear hoc hos hW8
      go_wp2_with (first
        | (refine wpList_load_row rfl 22 _ rfl w6.heap.size rfl 22 oc (0, 0) _ HW8.out Tryz.underlying22 rfl HOI.out ?_)
        | (refine wpList_store_whole rfl 22 _ _ rfl w.heap.size oc rfl rfl 22 z HZ8.out HOI.out HOS.out HO1.out ?_; intro w9 hW9 hG9; have HW9 := Lib.hid hW9; have HB9 := Lib.hid (be_grown HB8.out hG9 HB8.out.size (fun j hj => by injection hj with hj; omega)); clear hW9 hG9))
      refine bodyPost_ret (v := .agg oc) ?_ rfl ⟨by rw [HOC.out, HSH.out], HB9.out⟩
      exact results_cell_row (p := 2) (ty := 22) rfl _ _ w.heap.size 22 oc (0, 0) _ rfl HW9.out Tryz.underlying22 rfl HOI.out

theorem zero_hash (w : World) (o : Obj) : HashAt ((w.alloc o).alloc (.cells Tryz.zeroCells81 81)) (w.heap.size + 1) 81 [] := by
  have e : Tryz.zeroCells81 = (hl ⟨0, 0, 0, 0, 0, 0, 0, 0⟩ (List.replicate 64 0) 0).toArray := by kernel_rfl
  rw [e]
  exact ⟨_, _, rfl, heap_alloc2_new w _ _, fun h => absurd rfl h, rfl⟩
theorem Bytes.below {w w' : World} {v : Value} {bs : List UInt8} {B : Nat} (h : Bytes w v bs) (hb : Below B w w') (hB : w.heap.size ≤ B) : Bytes w' v bs := by
  obtain ⟨A, c, rfl, hc, hcm, hcell⟩ := h
  refine ⟨A, c, rfl, hc, hcm, fun h0 => ?_⟩
  obtain ⟨g, off, rfl, hcl⟩ := hcell h0
  exact ⟨g, off, rfl, fun i hi => (hb.cell (Nat.lt_of_lt_of_le (World.block_lt_of_cell? w ⟨g, off + i, none⟩ (hcl i hi)) hB)).trans (hcl i hi)⟩
theorem Bytes.lt {w : World} {v : Value} {bs : List UInt8} (h : Bytes w v bs) (hn : bs ≠ []) : ∃ k, v.ownBlock = some k ∧ k < w.heap.size := by
  obtain ⟨A, c, rfl, hc, hcm, hcell⟩ := h
  have h0 : 0 < bs.length := List.length_pos_iff.2 hn
  obtain ⟨g, off, rfl, hcl⟩ := hcell h0
  exact ⟨g, rfl, World.block_lt_of_cell? w ⟨g, off + 0, none⟩ (hcl 0 h0)⟩

set_option maxRecDepth 100000 in
set_option maxHeartbeats 2000000 in
/-- sha.Sum. -/
theorem sum_any (v : Value) (bs : List UInt8) (w : World) (hTab : Tabs w) (hv : Bytes w v bs) (hX : bs.length < 2 ^ 59) :
    Calls Tryz.prog 20 #[v] w fun e w' => e = .returned (.agg ((ShaM.sha bs).map Y).toArray) ∧ Below w.heap.size w w' := by
  have hl1 := hTab.lt1
  have hl2 := hTab.lt2
  have HTab := Lib.hid hTab
  have HV := Lib.hid hv
  have hb2 : Hid (∀ o o' : Obj, Below w.heap.size w ((w.alloc o).alloc o')) := fun o o' => ((Below.refl _ _).alloc (Nat.le_refl _) _).alloc (by simp) _
  have hh : Hid (∀ o : Obj, HashAt ((w.alloc o).alloc (.cells Tryz.zeroCells81 81)) (w.heap.size + 1) 81 []) := fun o => zero_hash w o
  clear hTab hv
  go_enter Tryz.func20, Tryz.ntmps20
  go_wp2_with fail
  refine (put_any (w.heap.size + 1) 81 _ [] bs _ (HTab.out.below (hb2.out _ _) hl1 hl2) (by omega) (by omega) (hh.out _) (by simp) (HV.out.below (hb2.out _ _) (Nat.le_refl _)) (fun hn => by obtain ⟨k, hk, hlt⟩ := HV.out.lt hn; rw [hk]; intro h; injection h with h; omega)).mono ?_
  rintro e w3 ⟨rfl, hG3, hH3⟩
  rw [List.nil_append] at hH3
  have HB3 := Lib.hid (gr_alloc2 hG3 (by omega))
  have hs3 := gr_size2 hG3
  obtain ⟨z, hz, hZ⟩ : ∃ z : Array Value, z.size = 32 ∧ Whole w3 w.heap.size 22 z := ⟨_, rfl, ((Whole.made w _ _).past _).grown hG3 (by simp)⟩
  have HZ := Lib.hid hz
  have HZ3 := Lib.hid hZ
  have HH3 := Lib.hid hH3
  have HT3 := Lib.hid (HTab.out.below HB3.out hl1 hl2)
  clear hz hZ hG3 hH3
  go_wp2_with fail
  refine (hsum_any (w.heap.size + 1) _ bs w3 HT3.out HH3.out hX).mono ?_
  rintro e w4 ⟨rfl, hB4⟩
  obtain ⟨oc, hoc⟩ : ∃ oc, oc = ((ShaM.sha bs).map Y).toArray := ⟨_, rfl⟩
  rw [← hoc]
  have hos : oc.size = 32 := by rw [hoc, List.size_toArray, List.length_map]; rfl
  have HOI : Hid ((Tryz.prog.info? 22).map (·.size) = some oc.size) := by show _ = _; rw [hos]; kernel_rfl
  have HO1 : Hid (oc.all (·.oneCell') = true) := by show _ = _; rw [hoc]; exact ys_all _
  have HOS : Hid (z.size = oc.size) := by show _ = _; rw [hos, HZ.out]
  have HZ4 := Lib.hid (HZ3.out.below hB4 (by omega))
  have HB4 := Lib.hid (HB3.out.trans (hB4.mono HB3.out.size))
  have HOC := Lib.hid hoc
  clear hoc hos hB4
  go_wp2_with (refine wpList_store_whole rfl 22 _ _ rfl w.heap.size oc rfl rfl 22 z HZ4.out HOI.out HOS.out HO1.out ?_; intro w9 hW9 hG9; have HW9 := Lib.hid hW9; have HB9 := Lib.hid (be_grown HB4.out hG9 HB4.out.size (fun j hj => by injection hj with hj; omega)); clear hW9 hG9)
  refine bodyPost_ret (v := .agg oc) ?_ rfl ⟨by rw [HOC.out], HB9.out⟩
  exact results_cell_row (p := 2) (ty := 22) rfl _ _ w.heap.size 22 oc (0, 0) _ rfl HW9.out Tryz.underlying22 rfl HOI.out
end Go.Proofs.YtdjhkaofhdcalaaGreatDoor

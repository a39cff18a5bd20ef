/-
  The reference's Put, Id and Links of objects, walked; object.Links of objects that may be.
-/
import Derived.Test.YtfaijkgfhdhhbaaGreatDoorMhl
import Derived.Test.YtfaijkgfhdhhbaaGreatDoorMhh
import Derived.Test.YtfaijkgfhdhhbaaGreatDoorMgk
import Derived.Test.YtfaijkgfhdhhbaaGreatDoorMhi
import Derived.Test.YtfaijkgfhdhhbaaGreatDoorMgr
import Derived.Test.YtfaijkgfhdhhbaaGreatDoorHeldK
import Derived.Test.YtfaijkgfhdhhbaaGreatDoorMgp
namespace Go.Proofs.YtfaijkgfhdhhbaaGreatDoor
open Go.RowKit

theorem bytesO_le (x : Ob) (hm : mayO' x = true) : (bytesO x).length ≤ 1200 := by
  by_cases h1 : x.kind = 1
  · rw [mayO_1 x h1] at hm
    simp only [Bool.and_eq_true, decide_eq_true_eq] at hm
    unfold bytesO
    rw [if_neg (by omega), if_neg (by omega)]
    omega
  by_cases h2 : x.kind = 2
  · rw [mayO_2 x h2] at hm
    simp only [Bool.and_eq_true] at hm
    have := mayT_bytes _ hm.1.2
    unfold bytesO
    rw [if_pos h2]
    omega
  by_cases h3 : x.kind = 3
  · rw [mayO_3 x h3] at hm
    simp only [Bool.and_eq_true] at hm
    have := bytesC_le _ hm.2
    unfold bytesO
    rw [if_neg (by omega), if_pos h3]
    omega
  rw [mayO_4 x h1 h2 h3] at hm
  cases hm
set_option maxRecDepth 100000 in
set_option maxHeartbeats 4000000 in
theorem rputO_any (A : Option Addr) (c : Nat) (A2 : Option Addr) (c2 : Nat) (x : Ob) (w : World) (hA : ArgO w A c A2 c2 x) (ht : x.commit.time < 18446744073709551616) (hm : mayO' x = true) :
    Calls Tryz.prog 15 #[.agg (encO A c A2 c2 x).toArray] w fun e w' => e = .returned (.string ⟨(bytesO x).toArray⟩) ∧ Below w.heap.size w w' := by
  obtain ⟨hW, hB, hA0⟩ := obox A c A2 c2 x w hA
  have e0 := (hW.at_ 0).trans (encO_0 A c A2 c2 x)
  have e1 := (hW.at_ 1).trans (encO_1 A c A2 c2 x)
  have e2 := (hW.at_ 2).trans (encO_2 A c A2 c2 x)
  have HRC := Lib.hid (encO_commit A c A2 c2 x hW)
  have HXI := Lib.hid (infoC_l A2 c2 x.commit)
  have HB := Lib.hid hB
  have HA := Lib.hid hA0
  have HQ : Hid (bytesO x = if x.kind = 2 then encT x.entries else if x.kind = 3 then bytesC x.commit else x.blob) := rfl
  have HM := Lib.hid hm
  clear hW hB hA0 hA hm
  generalize (encO A c A2 c2 x).toArray = cs at *
  by_cases k1 : x.kind = 1
  · have b1 : (x.kind == 1) = true := by simpa using k1
    have HR : Hid (bytesO x = x.blob) := by show _ = _; rw [HQ.out, if_neg (by omega), if_neg (by omega)]
    clear k1 HQ HM
    go_enter Tryz.func15, Tryz.ntmps15
    go_wp2
    go_ret
    exact ⟨by rw [HR.out]; rfl, HB.out⟩
  by_cases k2 : x.kind = 2
  · have b1 : (x.kind == 1) = false := by simpa using k1
    have b2 : (x.kind == 2) = true := by simpa using k2
    have hm2 : mayT x.entries = true := by
      have := HM.out
      rw [mayO_2 x k2] at this
      simp only [Bool.and_eq_true] at this
      exact this.1.2
    have HR : Hid (bytesO x = encT x.entries) := by show _ = _; rw [HQ.out, if_pos k2]
    have HT := Lib.hid (rtree_any A c x.entries _ HA.out.1 hm2)
    clear k1 k2 hm2 HQ HM
    go_enter Tryz.func15, Tryz.ntmps15
    go_wp2_with fail
    refine HT.out.mono ?_
    rintro e w1 ⟨rfl, rfl⟩
    go_wp2
    go_ret
    exact ⟨by rw [HR.out]; rfl, HB.out⟩
  by_cases k3 : x.kind = 3
  · have b1 : (x.kind == 1) = false := by simpa using k1
    have b2 : (x.kind == 2) = false := by simpa using k2
    have hm3 : mayC x.commit = true := by
      have := HM.out
      rw [mayO_3 x k3] at this
      simp only [Bool.and_eq_true] at this
      exact this.2
    have HR : Hid (bytesO x = bytesC x.commit) := by show _ = _; rw [HQ.out, if_neg k2, if_pos k3]
    have HT := Lib.hid (rcommit_any A2 c2 x.commit _ HA.out.2 ht hm3)
    clear k1 k2 k3 hm3 HQ HM
    go_enter Tryz.func15, Tryz.ntmps15
    go_wp2_with (refine wpList_load_mid rfl 28 _ rfl w.heap.size 3 rfl (encC A2 c2 x.commit) _ HRC.out Tryz.underlying28 rfl HXI.out ?_)
    refine HT.out.mono ?_
    rintro e w1 ⟨rfl, hb⟩
    have HBF := Lib.hid (HB.out.trans (hb.mono HB.out.size))
    clear hb
    go_wp2
    go_ret
    exact ⟨by rw [HR.out]; rfl, HBF.out⟩
  have := HM.out
  rw [mayO_4 x k1 k2 k3] at this
  cases this
set_option maxRecDepth 100000 in
set_option maxHeartbeats 4000000 in
theorem ridO_any (A : Option Addr) (c : Nat) (A2 : Option Addr) (c2 : Nat) (x : Ob) (w : World) (hA : ArgO w A c A2 c2 x) (ht : x.commit.time < 18446744073709551616) (hm : mayO' x = true) :
    Calls Tryz.prog 16 #[.agg (encO A c A2 c2 x).toArray] w fun e w' => e = .returned (.agg (encN (idO x)).toArray) ∧ Below w.heap.size w w' := by
  obtain ⟨hW, hB, hA0⟩ := obox A c A2 c2 x w hA
  have hbl := bytesO_le x hm
  have hid : encN (idO x) = (ShaM.sha (named x.kind (bytesO x))).map Y := by unfold idO; rw [hm]; rfl
  have HRI := Lib.hid fun W => rid_any x.kind (bytesO x) W (by omega)
  rw [← hid] at HRI
  have HB := Lib.hid (hB.alloc (by simp) (.cells ((List.replicate 32 (0 : UInt8)).map Y).toArray 24))
  have HW := Lib.hid (hW.past (.cells ((List.replicate 32 (0 : UInt8)).map Y).toArray 24))
  have HA := Lib.hid (hA0.later ((Below.refl _ _).alloc (Nat.le_refl _) (.cells ((List.replicate 32 (0 : UInt8)).map Y).toArray 24)))
  have HZ := Lib.hid (Whole.made (w.alloc (.cells (encO A c A2 c2 x).toArray 30)) 24 ((List.replicate 32 (0 : UInt8)).map Y).toArray)
  have hgs : (w.alloc (.cells (encO A c A2 c2 x).toArray 30)).heap.size = w.heap.size + 1 := by simp
  rw [hgs] at HZ
  have hws : ((w.alloc (.cells (encO A c A2 c2 x).toArray 30)).alloc (.cells ((List.replicate 32 (0 : UInt8)).map Y).toArray 24)).heap.size = w.heap.size + 2 := by simp
  have HXL := Lib.hid (infoO_l A c A2 c2 x)
  have E0 := Lib.hid (encO_0 A c A2 c2 x)
  have HIX := Lib.hid (infoXs (idO x))
  have HIA := Lib.hid (encN_all (idO x))
  have HIS := Lib.hid (encN_size (idO x))
  have HPUT := Lib.hid fun W (h : ArgO W A c A2 c2 x) => rputO_any A c A2 c2 x W h ht hm
  clear hA hA0 hW hB ht hm hbl hid hgs
  go_enter Tryz.func16, Tryz.ntmps16
  go_wp2_with fail
  change Code.wp _ _ _ _ ((w.alloc (.cells (encO A c A2 c2 x).toArray 30)).alloc (.cells ((List.replicate 32 (0 : UInt8)).map Y).toArray 24))
  generalize (w.alloc (.cells (encO A c A2 c2 x).toArray 30)).alloc (.cells ((List.replicate 32 (0 : UInt8)).map Y).toArray 24) = w0 at *
  generalize hz : ((List.replicate 32 (0 : UInt8)).map Y).toArray = z at *
  have hzs : z.size = 32 := by rw [← hz]; simp
  have HZS := Lib.hid hzs
  clear hz hzs
  refine wp_region_K (fun W => Whole W w.heap.size 30 (encO A c A2 c2 x).toArray) 5 (by kernel_rfl) ?_
  change wpAnyK _ _ _ _ _ _ _ _ _ (World.drew w0)
  have hS0 : Whole w0.drew w.heap.size 30 (encO A c A2 c2 x).toArray := HW.out.drew
  have hZ0 : Whole w0.drew (w.heap.size + 1) 24 z := HZ.out.drew
  have hA0 : ArgO w0.drew A c A2 c2 x := HA.out.later (Below.refl _ _).drew
  have hB0 : Below w.heap.size w w0.drew := HB.out.drew
  have hs0 : w0.drew.heap.size = w.heap.size + 2 := hws
  clear hws HW HZ HA HB
  generalize World.drew w0 = w1 at *
  refine wpAnyK_take0 (i := 0) (oi := { dst := some 3, op := _, type := _, pos := _, after := _, guard := none }) (v := .pointer (some ⟨w.heap.size, 0, none⟩)) rfl (by kernel_rfl) (fun _ _ _ h => h) (Or.inl ⟨by rfl, fun W hW => ?_⟩) (fun _ => hS0) ?_
  · go_simp
  simp only [Act.put]
  go_simp
  refine wpAnyK_take (i := 1) (oi := { dst := some 4, op := _, type := _, pos := _, after := _, guard := none }) (v := .int .i64 x.kind) rfl (by kernel_rfl) (fun _ _ _ h => h) (Or.inl ⟨by rfl, fun W hW => ?_⟩) hS0 ?_
  · have hc := (hW.at_ 0).trans E0.out
    go_simp
  simp only [Act.put]
  go_simp
  refine wpAnyK_take (i := 2) (oi := _) (v := .agg (encO A c A2 c2 x).toArray) rfl (by kernel_rfl) (fun _ _ _ h => h) (yieldsIf_load_mid (by rfl) _ _ rfl w.heap.size 0 rfl (encO A c A2 c2 x) _ (fun W hW => whole_range hW) Tryz.underlying30 rfl HXL.out) hS0 ?_
  simp only [Act.put]
  go_simp
  refine wpAnyK_ready (rs := [3]) (by kernel_rfl) (by simp) ?_
  refine AllReadyK.cons (o := _) rfl (fun K hK => ?_) AllReadyK.nil
  rw [if_pos (by rfl)]
  go_simp
  refine (HPUT.out w1 hA0).mono ?_
  rintro e w2 ⟨rfl, hb⟩
  have hS2 := hS0.below hb hS0.lt
  have hZ2 := hZ0.below hb hZ0.lt
  have hB2 := hB0.trans (hb.mono hB0.size)
  have hs2 := hb.size
  clear hb HPUT hS0 hZ0 hB0 hA0
  refine hK _ _ (fun _ => hS2) ?_
  clear hK K
  refine wpAnyK_ready (rs := [4]) (by kernel_rfl) (by simp) ?_
  refine AllReadyK.cons (o := _) rfl (fun K hK => ?_) AllReadyK.nil
  rw [if_pos (by rfl)]
  go_simp
  refine (HRI.out w2).mono ?_
  rintro e w3 ⟨rfl, hb⟩
  have hS3 := hS2.below hb hS2.lt
  have HZ3 := Lib.hid (hZ2.below hb hZ2.lt)
  have HB3 := Lib.hid (hB2.trans (hb.mono hB2.size))
  clear hb HRI hS2 hZ2 hB2
  refine hK _ _ (fun _ => hS3) ?_
  clear hK K
  refine wpAnyK_ready (rs := [5]) (by kernel_rfl) (by simp) ?_
  refine AllReadyK.cons (o := _) rfl (fun K hK => ?_) AllReadyK.nil
  rw [if_pos (by rfl)]
  have hth : w3.there (w.heap.size + 1) 0 (encN (idO x)).toArray.size := by
    intro j hj
    rw [HIS.out] at hj
    refine ⟨?_, HZ3.out.thawed _⟩
    rw [HZ3.out.at_, Array.getElem?_eq_getElem (by have := HZS.out; omega)]
    rfl
  refine wp_store_mid 24 _ _ rfl (w.heap.size + 1) 0 (encN (idO x)).toArray rfl rfl hth HIX.out HIA.out ?_
  have hW4 := whole_setCells (encN (idO x)).toArray.toList 0 w3 z HZ3.out (by have h1 := HZS.out; have h2 := encN_len (idO x); rw [h1]; simp; omega)
  rw [List.take_zero, List.nil_append] at hW4
  have hB4 := be_grown HB3.out (gr_setCells (g := w.heap.size + 1) (encN (idO x)).toArray.toList 0 w3 w3 (gr_refl _ _)) HB3.out.size (fun j hj => by injection hj with hj; omega)
  generalize w3.setCells (w.heap.size + 1) 0 (encN (idO x)).toArray.toList = w4 at *
  refine hK _ _ (fun h => by cases h) ?_
  clear hK K hth
  refine wpAnyK_done (by kernel_rfl) ?_ _
  have HW4 := Lib.hid hW4
  have HB4 := Lib.hid hB4
  clear hW4 hB4 HB3 HZ3 hS3
  generalize hni : (encN (idO x)).toArray = ni at *
  go_wp2
  refine bodyPost_ret (v := .agg ni) ?_ rfl ⟨by rw [hni], HB4.out⟩
  exact results_cell_row (p := 2) (ty := 24) rfl _ _ (w.heap.size + 1) 24 ni (0, 0) _ rfl HW4.out Tryz.underlying24 rfl HIX.out
end Go.Proofs.YtfaijkgfhdhhbaaGreatDoor

/-
  The reference's Put, Id and Links of objects, walked; object.Links of objects that may be.
  object.Links and the reference's Links of objects, walked.
  Room for stores in a slice of the call's own; what Get makes of what Put tells.
-/
import Derived.Test.YtfaijkgfhdhhbaaGreatDoorMhl
import Derived.Test.YtfaijkgfhdhhbaaGreatDoorMhh
import Derived.Test.YtfaijkgfhdhhbaaGreatDoorMgk
import Derived.Test.YtfaijkgfhdhhbaaGreatDoorMhi
import Derived.Test.YtfaijkgfhdhhbaaGreatDoorMgr
import Derived.Test.YtfaijkgfhdhhbaaGreatDoorHeldK
import Derived.Test.YtfaijkgfhdhhbaaGreatDoorMgp
import Derived.Test.YtfaijkgfhdhhbaaGreatDoorMgu
namespace Go.Proofs.YtfaijkgfhdhhbaaGreatDoor
open Go.RowKit

theorem bytesO_le (x : Ob) (hm : mayO' x = true) : (bytesO x).length ≤ 1200 := by
  by_cases h1 : x.kind = 1
  · rw [mayO_1 x h1] at hm
    simp only [Bool.and_eq_true, decide_eq_true_eq] at hm
    unfold bytesO
    rw [if_neg (by omega), if_neg (by omega)]
    omega
  by_cases h2 : x.kind = 2
  · rw [mayO_2 x h2] at hm
    simp only [Bool.and_eq_true] at hm
    have := mayT_bytes _ hm.1.2
    unfold bytesO
    rw [if_pos h2]
    omega
  by_cases h3 : x.kind = 3
  · rw [mayO_3 x h3] at hm
    simp only [Bool.and_eq_true] at hm
    have := bytesC_le _ hm.2
    unfold bytesO
    rw [if_neg (by omega), if_pos h3]
    omega
  rw [mayO_4 x h1 h2 h3] at hm
  cases hm
set_option maxRecDepth 100000 in
set_option maxHeartbeats 4000000 in
theorem rputO_any (A : Option Addr) (c : Nat) (A2 : Option Addr) (c2 : Nat) (x : Ob) (w : World) (hA : ArgO w A c A2 c2 x) (ht : x.commit.time < 18446744073709551616) (hm : mayO' x = true) :
    Calls Tryz.prog 15 #[.agg (encO A c A2 c2 x).toArray] w fun e w' => e = .returned (.string ⟨(bytesO x).toArray⟩) ∧ Below w.heap.size w w' := by
  obtain ⟨hW, hB, hA0⟩ := obox A c A2 c2 x w hA
  have e0 := (hW.at_ 0).trans (encO_0 A c A2 c2 x)
  have e1 := (hW.at_ 1).trans (encO_1 A c A2 c2 x)
  have e2 := (hW.at_ 2).trans (encO_2 A c A2 c2 x)
  have HRC := Lib.hid (encO_commit A c A2 c2 x hW)
  have HXI := Lib.hid (infoC_l A2 c2 x.commit)
  have HB := Lib.hid hB
  have HA := Lib.hid hA0
  have HQ : Hid (bytesO x = if x.kind = 2 then encT x.entries else if x.kind = 3 then bytesC x.commit else x.blob) := rfl
  have HM := Lib.hid hm
  clear hW hB hA0 hA hm
  generalize (encO A c A2 c2 x).toArray = cs at *
  by_cases k1 : x.kind = 1
  · have b1 : (x.kind == 1) = true := by simpa using k1
    have HR : Hid (bytesO x = x.blob) := by show _ = _; rw [HQ.out, if_neg (by omega), if_neg (by omega)]
    clear k1 HQ HM
    go_enter Tryz.func15, Tryz.ntmps15
    go_wp2
    go_ret
    exact ⟨by rw [HR.out]; rfl, HB.out⟩
  by_cases k2 : x.kind = 2
  · have b1 : (x.kind == 1) = false := by simpa using k1
    have b2 : (x.kind == 2) = true := by simpa using k2
    have hm2 : mayT x.entries = true := by
      have := HM.out
      rw [mayO_2 x k2] at this
      simp only [Bool.and_eq_true] at this
      exact this.1.2
    have HR : Hid (bytesO x = encT x.entries) := by show _ = _; rw [HQ.out, if_pos k2]
    have HT := Lib.hid (rtree_any A c x.entries _ HA.out.1 hm2)
    clear k1 k2 hm2 HQ HM
    go_enter Tryz.func15, Tryz.ntmps15
    go_wp2_with fail
    refine HT.out.mono ?_
    rintro e w1 ⟨rfl, rfl⟩
    go_wp2
    go_ret
    exact ⟨by rw [HR.out]; rfl, HB.out⟩
  by_cases k3 : x.kind = 3
  · have b1 : (x.kind == 1) = false := by simpa using k1
    have b2 : (x.kind == 2) = false := by simpa using k2
    have hm3 : mayC x.commit = true := by
      have := HM.out
      rw [mayO_3 x k3] at this
      simp only [Bool.and_eq_true] at this
      exact this.2
    have HR : Hid (bytesO x = bytesC x.commit) := by show _ = _; rw [HQ.out, if_neg k2, if_pos k3]
    have HT := Lib.hid (rcommit_any A2 c2 x.commit _ HA.out.2 ht hm3)
    clear k1 k2 k3 hm3 HQ HM
    go_enter Tryz.func15, Tryz.ntmps15
    go_wp2_with (refine wpList_load_mid rfl 28 _ rfl w.heap.size 3 rfl (encC A2 c2 x.commit) _ HRC.out Tryz.underlying28 rfl HXI.out ?_)
    refine HT.out.mono ?_
    rintro e w1 ⟨rfl, hb⟩
    have HBF := Lib.hid (HB.out.trans (hb.mono HB.out.size))
    clear hb
    go_wp2
    go_ret
    exact ⟨by rw [HR.out]; rfl, HBF.out⟩
  have := HM.out
  rw [mayO_4 x k1 k2 k3] at this
  cases this
set_option maxRecDepth 100000 in
set_option maxHeartbeats 4000000 in
theorem ridO_any (A : Option Addr) (c : Nat) (A2 : Option Addr) (c2 : Nat) (x : Ob) (w : World) (hA : ArgO w A c A2 c2 x) (ht : x.commit.time < 18446744073709551616) (hm : mayO' x = true) :
    Calls Tryz.prog 16 #[.agg (encO A c A2 c2 x).toArray] w fun e w' => e = .returned (.agg (encN (idO x)).toArray) ∧ Below w.heap.size w w' := by
  obtain ⟨hW, hB, hA0⟩ := obox A c A2 c2 x w hA
  have hbl := bytesO_le x hm
  have hid : encN (idO x) = (ShaM.sha (named x.kind (bytesO x))).map Y := by unfold idO; rw [hm]; rfl
  have HRI := Lib.hid fun W => rid_any x.kind (bytesO x) W (by omega)
  rw [← hid] at HRI
  have HB := Lib.hid (hB.alloc (by simp) (.cells ((List.replicate 32 (0 : UInt8)).map Y).toArray 24))
  have HW := Lib.hid (hW.past (.cells ((List.replicate 32 (0 : UInt8)).map Y).toArray 24))
  have HA := Lib.hid (hA0.later ((Below.refl _ _).alloc (Nat.le_refl _) (.cells ((List.replicate 32 (0 : UInt8)).map Y).toArray 24)))
  have HZ := Lib.hid (Whole.made (w.alloc (.cells (encO A c A2 c2 x).toArray 30)) 24 ((List.replicate 32 (0 : UInt8)).map Y).toArray)
  have hgs : (w.alloc (.cells (encO A c A2 c2 x).toArray 30)).heap.size = w.heap.size + 1 := by simp
  rw [hgs] at HZ
  have hws : ((w.alloc (.cells (encO A c A2 c2 x).toArray 30)).alloc (.cells ((List.replicate 32 (0 : UInt8)).map Y).toArray 24)).heap.size = w.heap.size + 2 := by simp
  have HXL := Lib.hid (infoO_l A c A2 c2 x)
  have E0 := Lib.hid (encO_0 A c A2 c2 x)
  have HIX := Lib.hid (infoXs (idO x))
  have HIA := Lib.hid (encN_all (idO x))
  have HIS := Lib.hid (encN_size (idO x))
  have HPUT := Lib.hid fun W (h : ArgO W A c A2 c2 x) => rputO_any A c A2 c2 x W h ht hm
  clear hA hA0 hW hB ht hm hbl hid hgs
  go_enter Tryz.func16, Tryz.ntmps16
  go_wp2_with fail
  change Code.wp _ _ _ _ ((w.alloc (.cells (encO A c A2 c2 x).toArray 30)).alloc (.cells ((List.replicate 32 (0 : UInt8)).map Y).toArray 24))
  generalize (w.alloc (.cells (encO A c A2 c2 x).toArray 30)).alloc (.cells ((List.replicate 32 (0 : UInt8)).map Y).toArray 24) = w0 at *
  generalize hz : ((List.replicate 32 (0 : UInt8)).map Y).toArray = z at *
  have hzs : z.size = 32 := by rw [← hz]; simp
  have HZS := Lib.hid hzs
  clear hz hzs
  refine wp_region_K (fun W => Whole W w.heap.size 30 (encO A c A2 c2 x).toArray) 5 (by kernel_rfl) ?_
  change wpAnyK _ _ _ _ _ _ _ _ _ (World.drew w0)
  have hS0 : Whole w0.drew w.heap.size 30 (encO A c A2 c2 x).toArray := HW.out.drew
  have hZ0 : Whole w0.drew (w.heap.size + 1) 24 z := HZ.out.drew
  have hA0 : ArgO w0.drew A c A2 c2 x := HA.out.later (Below.refl _ _).drew
  have hB0 : Below w.heap.size w w0.drew := HB.out.drew
  have hs0 : w0.drew.heap.size = w.heap.size + 2 := hws
  clear hws HW HZ HA HB
  generalize World.drew w0 = w1 at *
  refine wpAnyK_take0 (i := 0) (oi := { dst := some 3, op := _, type := _, pos := _, after := _, guard := none }) (v := .pointer (some ⟨w.heap.size, 0, none⟩)) rfl (by kernel_rfl) (fun _ _ _ h => h) (Or.inl ⟨by rfl, fun W hW => ?_⟩) (fun _ => hS0) ?_
  · go_simp
  simp only [Act.put]
  go_simp
  refine wpAnyK_take (i := 1) (oi := { dst := some 4, op := _, type := _, pos := _, after := _, guard := none }) (v := .int .i64 x.kind) rfl (by kernel_rfl) (fun _ _ _ h => h) (Or.inl ⟨by rfl, fun W hW => ?_⟩) hS0 ?_
  · have hc := (hW.at_ 0).trans E0.out
    go_simp
  simp only [Act.put]
  go_simp
  refine wpAnyK_take (i := 2) (oi := _) (v := .agg (encO A c A2 c2 x).toArray) rfl (by kernel_rfl) (fun _ _ _ h => h) (yieldsIf_load_mid (by rfl) _ _ rfl w.heap.size 0 rfl (encO A c A2 c2 x) _ (fun W hW => whole_range hW) Tryz.underlying30 rfl HXL.out) hS0 ?_
  simp only [Act.put]
  go_simp
  refine wpAnyK_ready (rs := [3]) (by kernel_rfl) (by simp) ?_
  refine AllReadyK.cons (o := _) rfl (fun K hK => ?_) AllReadyK.nil
  rw [if_pos (by rfl)]
  go_simp
  refine (HPUT.out w1 hA0).mono ?_
  rintro e w2 ⟨rfl, hb⟩
  have hS2 := hS0.below hb hS0.lt
  have hZ2 := hZ0.below hb hZ0.lt
  have hB2 := hB0.trans (hb.mono hB0.size)
  have hs2 := hb.size
  clear hb HPUT hS0 hZ0 hB0 hA0
  refine hK _ _ (fun _ => hS2) ?_
  clear hK K
  refine wpAnyK_ready (rs := [4]) (by kernel_rfl) (by simp) ?_
  refine AllReadyK.cons (o := _) rfl (fun K hK => ?_) AllReadyK.nil
  rw [if_pos (by rfl)]
  go_simp
  refine (HRI.out w2).mono ?_
  rintro e w3 ⟨rfl, hb⟩
  have hS3 := hS2.below hb hS2.lt
  have HZ3 := Lib.hid (hZ2.below hb hZ2.lt)
  have HB3 := Lib.hid (hB2.trans (hb.mono hB2.size))
  clear hb HRI hS2 hZ2 hB2
  refine hK _ _ (fun _ => hS3) ?_
  clear hK K
  refine wpAnyK_ready (rs := [5]) (by kernel_rfl) (by simp) ?_
  refine AllReadyK.cons (o := _) rfl (fun K hK => ?_) AllReadyK.nil
  rw [if_pos (by rfl)]
  have hth : w3.there (w.heap.size + 1) 0 (encN (idO x)).toArray.size := by
    intro j hj
    rw [HIS.out] at hj
    refine ⟨?_, HZ3.out.thawed _⟩
    rw [HZ3.out.at_, Array.getElem?_eq_getElem (by have := HZS.out; omega)]
    rfl
  refine wp_store_mid 24 _ _ rfl (w.heap.size + 1) 0 (encN (idO x)).toArray rfl rfl hth HIX.out HIA.out ?_
  have hW4 := whole_setCells (encN (idO x)).toArray.toList 0 w3 z HZ3.out (by have h1 := HZS.out; have h2 := encN_len (idO x); rw [h1]; simp; omega)
  rw [List.take_zero, List.nil_append] at hW4
  have hB4 := be_grown HB3.out (gr_setCells (g := w.heap.size + 1) (encN (idO x)).toArray.toList 0 w3 w3 (gr_refl _ _)) HB3.out.size (fun j hj => by injection hj with hj; omega)
  generalize w3.setCells (w.heap.size + 1) 0 (encN (idO x)).toArray.toList = w4 at *
  refine hK _ _ (fun h => by cases h) ?_
  clear hK K hth
  refine wpAnyK_done (by kernel_rfl) ?_ _
  have HW4 := Lib.hid hW4
  have HB4 := Lib.hid hB4
  clear hW4 hB4 HB3 HZ3 hS3
  generalize hni : (encN (idO x)).toArray = ni at *
  go_wp2
  refine bodyPost_ret (v := .agg ni) ?_ rfl ⟨by rw [hni], HB4.out⟩
  exact results_cell_row (p := 2) (ty := 24) rfl _ _ (w.heap.size + 1) 24 ni (0, 0) _ rfl HW4.out Tryz.underlying24 rfl HIX.out
end Go.Proofs.YtfaijkgfhdhhbaaGreatDoor
namespace Go.Proofs.YtfaijkgfhdhhbaaGreatDoor
open Go.RowKit

theorem own_weak {w : World} {B B' : Nat} {v : Value} {n : Nat} {xs : List Value} {e : TypeId} {k : Nat} (h : w.ownsRow B e k v n xs) (hb : B' ≤ B) : w.ownsRow B' e k v n xs := by
  refine ⟨h.1, ?_⟩
  rcases h.2 with h0 | ⟨g, cap, cur, hv, hB, rest⟩
  · exact .inl h0
  · exact .inr ⟨g, cap, cur, hv, by omega, rest⟩
theorem own_one (W : World) (B : Nat) (hB : B ≤ W.heap.size) (y : Nm) : (W.alloc (.cells (encN y).toArray 24)).ownsRow B 24 32 (.slice (some ⟨W.heap.size, 0, none⟩) 1 1) [y].length ([y].flatMap encN) := by
  refine ⟨by simp [encN_len], .inr ⟨W.heap.size, 1, _, rfl, hB, Whole.made W 24 (encN y).toArray, Nat.le_refl _, by unfold maxLen; omega, by rw [encN_size], ?_⟩⟩
  have h1 : ([y].flatMap encN) = encN y := by simp
  rw [h1]
  exact List.take_of_length_le (by rw [encN_len]; exact Nat.le_refl _)
theorem range_id {w : World} {b o : Nat} {e : En} (h : w.rangeAt b o (encE e)) : w.rangeAt b (o + 2) (encN e.id) := by
  intro j v hv
  have := h (j + 2) v (by rw [show encE e = .string ⟨e.name.toArray⟩ :: .bool e.dir :: encN e.id from rfl, List.getElem?_cons_succ, List.getElem?_cons_succ]; exact hv)
  rw [show o + (j + 2) = o + 2 + j by omega] at this
  exact this
theorem range_tree {w : World} {b o : Nat} {A : Option Addr} {c : Nat} {x : Cm} (h : w.rangeAt b o (encC A c x)) : w.rangeAt b o (encN x.tree) := by
  intro j v hv
  exact h j v (by rw [encC, List.getElem?_append_left (List.getElem?_eq_some_iff.1 hv).1]; exact hv)
theorem encO_35 (A : Option Addr) (c : Nat) (A2 : Option Addr) (c2 : Nat) (x : Ob) : (encO A c A2 c2 x).toArray[35]? = some (.slice A2 x.commit.parents.length c2) := by
  simp [encO, encC, encN_len]
/-- What Links tells: a row of the call's own. -/
def OwnL (B : Nat) (ids : List Nm) (e : Ending) (w' : World) : Prop := ∃ A c, e = .returned (.slice A ids.length c) ∧ ArgN w' A c ids ∧ Own2 B w' A
theorem ownL_of {B : Nat} {ids : List Nm} {v : Value} {w' : World} (h : w'.ownsRow B 24 32 v ids.length (ids.flatMap encN)) : OwnL B ids (.returned v) w' := by
  obtain ⟨A, c, rfl, ha⟩ := own_arg h
  exact ⟨A, c, rfl, ha, by rintro j ⟨a, rfl, rfl⟩; exact (h.lt a.block rfl).1, own_blk h⟩
theorem linksO_3 (x : Ob) (h : x.kind = 3) : linksO x = [x.commit.tree] ++ x.commit.parents := by unfold linksO; rw [if_pos h]; rfl
theorem linksO_n (x : Ob) (h : ¬ x.kind = 3) : linksO x = idsE x.entries := by unfold linksO; rw [if_neg h]
set_option maxRecDepth 100000 in
set_option maxHeartbeats 4000000 in
theorem olinksP_any (A : Option Addr) (c : Nat) (A2 : Option Addr) (c2 : Nat) (x : Ob) (w : World) (hA : ArgO w A c A2 c2 x) (hm : mayO' x = true) :
    Calls Tryz.prog 18 #[.agg (encO A c A2 c2 x).toArray] w fun e w' => OwnL w.heap.size (linksO x) e w' ∧ Below w.heap.size w w' := by
  obtain ⟨hW, hB, hA0⟩ := obox A c A2 c2 x w hA
  have e0 := (hW.at_ 0).trans (encO_0 A c A2 c2 x)
  have e2 := (hW.at_ 2).trans (encO_2 A c A2 c2 x)
  have E35 := Lib.hid ((hW.past (.cells (encN x.commit.tree).toArray 24)).at_ 35 |>.trans (encO_35 A c A2 c2 x))
  have HRT := Lib.hid (range_tree (encO_commit A c A2 c2 x hW))
  have HTI := Lib.hid (infoX x.commit.tree)
  have HB := Lib.hid hB
  have HA := Lib.hid hA0
  have HM := Lib.hid hm
  have hs0 : w.heap.size ≤ (w.alloc (.cells (encO A c A2 c2 x).toArray 30)).heap.size := hB.size
  clear hW hB hA0 hA hm
  generalize (encO A c A2 c2 x).toArray = cs at *
  by_cases k2 : x.kind = 2
  · have b2 : (x.kind == 2) = true := by simpa using k2
    have hml : x.entries.length ≤ 1048576 := by
      have := HM.out
      rw [mayO_2 x k2] at this
      simp only [Bool.and_eq_true] at this
      have := (mayT_names _ this.1.2).1
      omega
    have HL := Lib.hid (linksO_n x (by omega))
    have HE := Lib.hid (eids_any A c x.entries _ HA.out.1 hml)
    have hil : (idsE x.entries).length = x.entries.length := by simp [idsE]
    have HIL := Lib.hid hil
    clear k2 HM hml hil
    go_enter Tryz.func18, Tryz.ntmps18
    go_wp2_with fail
    refine HE.out.mono ?_
    rintro e w1 ⟨⟨v, rfl, hown⟩, hb⟩
    rw [← HIL.out, ← HL.out] at hown
    have HOW := Lib.hid (ownL_of (own_weak hown hs0))
    have HBF := Lib.hid (HB.out.trans (hb.mono HB.out.size))
    clear hown hb
    go_wp2
    go_ret
    exact ⟨HOW.out, HBF.out⟩
  by_cases k3 : x.kind = 3
  · have b2 : (x.kind == 2) = false := by simpa using k2
    have b3 : (x.kind == 3) = true := by simpa using k3
    have hpl : [x.commit.tree].length + x.commit.parents.length ≤ 1000 := by
      have := HM.out
      rw [mayO_3 x k3] at this
      simp only [Bool.and_eq_true] at this
      have := parents_le this.2
      simp
      omega
    have HPL := Lib.hid hpl
    have HL := Lib.hid (linksO_3 x k3)
    clear k2 k3 HM hpl
    go_enter Tryz.func18, Tryz.ntmps18
    go_upto_region 5 with fail
    generalize w.alloc (.cells cs 30) = w0 at *
    have e35 := E35.out
    have HOW := Lib.hid (own_one w0 w.heap.size hs0 x.commit.tree)
    have HAR := Lib.hid (HA.out.2.later ((Below.refl w0.heap.size w0).alloc (Nat.le_refl _) (.cells (encN x.commit.tree).toArray 24)))
    have HB1 := Lib.hid (HB.out.alloc HB.out.size (.cells (encN x.commit.tree).toArray 24))
    go_wp2_with (first
      | (refine wpList_load_mid rfl 24 _ rfl w.heap.size 3 rfl (encN x.commit.tree) _ HRT.out Tryz.underlying24 rfl HTI.out ?_)
      | (refine wpList_buildN rfl _ rfl x.commit.tree rfl ?_)
      | (at_builtin; go_loud (refine wpList_appendN rfl _ _ rfl w.heap.size (.slice (some ⟨w0.heap.size, 0, none⟩) 1 1) [x.commit.tree] rfl HOW.out A2 x.commit.parents.length c2 x.commit.parents rfl rfl HAR.out HB1.out.size HPL.out ?_; intro v' w9 hown' hb9; have HOW9 := Lib.hid hown'; have HB9 := Lib.hid (HB1.out.trans hb9); clear hown' hb9)))
    go_wp2
    go_ret
    exact ⟨by rw [HL.out]; exact ownL_of HOW9.out, HB9.out⟩
  have b2 : (x.kind == 2) = false := by simpa using k2
  have b3 : (x.kind == 3) = false := by simpa using k3
  have HL : Hid (linksO x = []) := by
    show _ = _
    have hm := HM.out
    by_cases k1 : x.kind = 1
    · rw [mayO_1 x k1] at hm
      simp only [Bool.and_eq_true, beq_iff_eq] at hm
      have hel : x.entries = [] := List.length_eq_zero_iff.1 (by omega)
      rw [linksO_n x k3, hel]
      rfl
    · rw [mayO_4 x k1 k2 k3] at hm
      cases hm
  clear k2 k3 HM
  go_enter Tryz.func18, Tryz.ntmps18
  go_wp2
  go_ret
  exact ⟨by rw [HL.out]; exact ⟨none, 0, rfl, argN_nil _, Own2.nil _ _⟩, HB.out⟩
set_option maxRecDepth 100000 in
set_option maxHeartbeats 4000000 in
theorem rlinks_any (A : Option Addr) (c : Nat) (A2 : Option Addr) (c2 : Nat) (x : Ob) (w : World) (hA : ArgO w A c A2 c2 x) (hl : x.entries.length ≤ 900) (hpl : x.commit.parents.length ≤ 900) :
    Calls Tryz.prog 19 #[.agg (encO A c A2 c2 x).toArray] w fun e w' => OwnL w.heap.size (linksO x) e w' ∧ Below w.heap.size w w' := by
  obtain ⟨hW, hB, hA0⟩ := obox A c A2 c2 x w hA
  have E0 := Lib.hid (encO_0 A c A2 c2 x)
  have E2 := Lib.hid (encO_2 A c A2 c2 x)
  have E35 := Lib.hid (encO_35 A c A2 c2 x)
  have HRT := Lib.hid fun W (h : Whole W w.heap.size 30 (encO A c A2 c2 x).toArray) => range_tree (encO_commit A c A2 c2 x h)
  have HTI := Lib.hid (infoX x.commit.tree)
  have HB := Lib.hid hB
  have HAE := Lib.hid hA0.1
  have HAN := Lib.hid hA0.2
  have HW := Lib.hid hW
  have hs0 : w.heap.size < (w.alloc (.cells (encO A c A2 c2 x).toArray 30)).heap.size := by simp
  have H3 := Lib.hid (linksO_3 x)
  have HN := Lib.hid (linksO_n x)
  have hpl1 : [x.commit.tree].length + x.commit.parents.length ≤ 1000 := by simp; omega
  have HPL := Lib.hid hpl1
  clear hW hB hA0 hA hpl hpl1
  generalize (encO A c A2 c2 x).toArray = cs at *
  generalize x.entries = es at *
  go_enter Tryz.func19, Tryz.ntmps19
  go_wp2
  generalize w.alloc (.cells cs 30) = w0 at *
  go_loopg [3, 4] es.length (fun g s3 s4 wr => ∃ (k : Nat) (A9 : Option Addr) (c9 : Nat), s3 = .slice A9 k c9 ∧ k ≤ es.length ∧ es.length - k ≤ g ∧ s4 = .int .i64 k ∧ wr.ownsRow w0.heap.size 24 32 (.slice A9 k c9) k ((idsE (es.take k)).flatMap encN) ∧ Hid (Below w0.heap.size w0 wr))
  case atStart => exact ⟨0, none, 0, rfl, Nat.zero_le _, by omega, rfl, by simpa [idsE] using World.ownsRow_nil _ _ _ _, Lib.hid (Below.refl _ _)⟩
  case round =>
    obtain ⟨k, A9, c9, rfl, hk, hg, rfl, hown, hwr⟩ := hrel
    have HWr := Lib.hid (HW.out.below hwr.out hs0)
    have e0 := (HWr.out.at_ 0).trans E0.out
    have e2 := (HWr.out.at_ 2).trans E2.out
    have e35 := (HWr.out.at_ 35).trans E35.out
    have hlc := HAE.out.1
    by_cases hlt : k < es.length
    · have hlt' : (k : Int) < (es.length : Int) := by omega
      obtain ⟨bb, o, rfl, hr⟩ := (HAE.out.later hwr.out).2.2.2 (by omega)
      have hrk := range_id (hr k hlt)
      have HTK := Lib.hid (idsE_take es k hlt)
      obtain ⟨y, hy⟩ : ∃ y, y = es.getD k default := ⟨_, rfl⟩
      rw [← hy] at hrk HTK
      have HRK := Lib.hid hrk
      have HYI := Lib.hid (infoX y.id)
      have hkl : (idsE (es.take k)).length = k := by simp [idsE]; omega
      have HOW := Lib.hid (own_later hown ((Below.refl wr.heap.size wr).alloc (Nat.le_refl _) (.cells (encN y.id).toArray 24)))
      have HOW2 : Hid ((wr.alloc (.cells (encN y.id).toArray 24)).ownsRow w0.heap.size 24 32 (.slice A9 k c9) (idsE (es.take k)).length ((idsE (es.take k)).flatMap encN)) := by
        show World.ownsRow _ _ _ _ _ _ _
        rw [hkl]
        exact HOW.out
      have HONE := Lib.hid (arg_one (Whole.made wr 24 (encN y.id).toArray))
      have hsz := hwr.out.size
      have HSZ : Hid (w0.heap.size ≤ (wr.alloc (.cells (encN y.id).toArray 24)).heap.size) := by show _ ≤ _; simp; omega
      have HLL : Hid ((idsE (es.take k)).length + [y.id].length ≤ 1000) := by show _ ≤ _; rw [hkl]; simp; omega
      have HBA := Lib.hid (hwr.out.alloc hwr.out.size (.cells (encN y.id).toArray 24))
      have HKL := Lib.hid hkl
      clear hy hr hrk hown HOW hkl
      go_wp2_with (first
        | (refine wpList_load_mid rfl 24 _ rfl bb (o + k * 34 + 2) rfl (encN y.id) _ HRK.out Tryz.underlying24 rfl HYI.out ?_)
        | (refine wpList_buildN rfl _ rfl y.id rfl ?_)
        | (at_builtin; go_loud (refine wpList_appendN rfl _ _ rfl w0.heap.size (.slice A9 k c9) (idsE (es.take k)) rfl HOW2.out (some ⟨wr.heap.size, 0, none⟩) 1 1 [y.id] rfl rfl HONE.out HSZ.out HLL.out ?_; intro v' w4 hown' hb4; have HOW4 := Lib.hid hown'; have HB4 := Lib.hid (HBA.out.trans hb4); clear hown' hb4)))
      have how4 := HOW4.out
      rw [← HTK.out] at how4
      have hk1 : (idsE (es.take (k + 1))).length = k + 1 := by simp [idsE]; omega
      obtain ⟨A4, c4, rfl, -⟩ := own_arg how4
      rw [hk1] at how4
      have HOW5 := Lib.hid how4
      rw [hk1]
      clear how4 HOW4 hk1
      go_wp2
      go_roundg (es.length - (k + 1))
      case measure => omega
      case rel => exact ⟨k + 1, A4, c4, rfl, by omega, Nat.le_refl _, by go_num, HOW5.out, HB4⟩
    · obtain rfl : k = es.length := by omega
      rw [List.take_length] at hown
      have HOW := Lib.hid hown
      have hil : (idsE es).length = es.length := by simp [idsE]
      have HIL := Lib.hid hil
      have HBW := Lib.hid (HB.out.trans (hwr.out.mono HB.out.size))
      clear hown hil
      by_cases k3 : x.kind = 3
      · have b3 : (x.kind == 3) = true := by simpa using k3
        have HL := Lib.hid (H3.out k3)
        have HRW := Lib.hid (HRT.out wr HWr.out)
        have hsz := HBW.out.size
        have HO := Lib.hid (own_one wr w.heap.size hsz x.commit.tree)
        have HAR := Lib.hid ((HAN.out.later hwr.out).later ((Below.refl wr.heap.size wr).alloc (Nat.le_refl _) (.cells (encN x.commit.tree).toArray 24)))
        have e35' := ((HWr.out.past (.cells (encN x.commit.tree).toArray 24)).at_ 35).trans E35.out
        have HB1 := Lib.hid (HBW.out.alloc HBW.out.size (.cells (encN x.commit.tree).toArray 24))
        clear k3
        go_wp2_with (first
          | (refine wpList_load_mid rfl 24 _ rfl w.heap.size 3 rfl (encN x.commit.tree) _ HRW.out Tryz.underlying24 rfl HTI.out ?_)
          | (refine wpList_buildN rfl _ rfl x.commit.tree rfl ?_)
          | (at_builtin; go_loud (refine wpList_appendN rfl _ _ rfl w.heap.size (.slice (some ⟨wr.heap.size, 0, none⟩) 1 1) [x.commit.tree] rfl HO.out A2 x.commit.parents.length c2 x.commit.parents rfl rfl HAR.out HB1.out.size HPL.out ?_; intro v' w9 hown' hb9; have HOW9 := Lib.hid hown'; have HB9 := Lib.hid (HB1.out.trans hb9); clear hown' hb9)))
        go_wp2
        go_ret
        exact ⟨by rw [HL.out]; exact ownL_of HOW9.out, HB9.out⟩
      · have b3 : (x.kind == 3) = false := by simpa using k3
        have HL := Lib.hid (HN.out k3)
        clear k3
        go_wp2
        go_ret
        refine ⟨?_, HBW.out⟩
        rw [HL.out]
        have how := HOW.out
        rw [← HIL.out] at how
        have := ownL_of (own_weak how (Nat.le_of_lt hs0))
        rw [HIL.out] at this
        exact this
end Go.Proofs.YtfaijkgfhdhhbaaGreatDoor
namespace Go.Proofs.YtfaijkgfhdhhbaaGreatDoor
open Go.RowKit

/-- Each of n elements of m cells, n at A, has at least s cells in a block that bears no frozen cell. -/
def Room (w : World) (A : Option Addr) (n m s : Nat) : Prop := 0 < n → ∃ b o t cs, A = some ⟨b, o, none⟩ ∧ Whole w b t cs ∧ ∀ i, i < n → o + i * m + s ≤ cs.size
theorem Room.later {w w' : World} {A : Option Addr} {n m s : Nat} (h : Room w A n m s) (hb : Below w.heap.size w w') : Room w' A n m s := fun h0 => by
  obtain ⟨b, o, t, cs, e, hw, hs⟩ := h h0
  exact ⟨b, o, t, cs, e, hw.below hb hw.lt, hs⟩
theorem Room.set {w : World} {A : Option Addr} {n m s : Nat} (h : Room w A n m s) (g i : Nat) (v : Value) : Room (w.setCell ⟨g, i, none⟩ v) A n m s := fun h0 => by
  obtain ⟨b, o, t, cs, e, hw, hs⟩ := h h0
  by_cases hg : b = g
  · subst hg
    exact ⟨b, o, t, _, e, hw.put i v, fun j hj => by rw [Array.size_setIfInBounds]; exact hs j hj⟩
  · exact ⟨b, o, t, cs, e, hw.aside (p := ⟨g, i, none⟩) hg v, hs⟩
theorem Room.sets {A : Option Addr} {n m s : Nat} (g : Nat) : ∀ (vs : List Value) (i : Nat) (w : World), Room w A n m s → Room (w.setCells g i vs) A n m s
  | [], _, _, h => h
  | v :: vs, i, _, h => Room.sets g vs (i + 1) _ (h.set g i v)
theorem roomN {w : World} {A : Option Addr} {c : Nat} {ids : List Nm} (h : ArgN w A c ids) (ho : OwnB w A) : Room w A ids.length 32 32 := fun h0 => by
  obtain ⟨b, o, rfl, hr⟩ := h.2.2.2 h0
  obtain ⟨t, cs, hw⟩ := ho b ⟨_, rfl, rfl⟩
  refine ⟨b, o, t, cs, rfl, hw, fun i hi => ?_⟩
  have h1 := hr i hi 31 _ (List.getElem?_eq_getElem (by rw [encN_len]; omega))
  rw [hw.at_] at h1
  have := (Array.getElem?_eq_some_iff.1 h1).1
  omega
theorem roomE {w : World} {A : Option Addr} {c : Nat} {es : List En} (h : ArgE w A c es) (ho : OwnB w A) : Room w A es.length 34 1 := fun h0 => by
  obtain ⟨b, o, rfl, hr⟩ := h.2.2.2 h0
  obtain ⟨t, cs, hw⟩ := ho b ⟨_, rfl, rfl⟩
  refine ⟨b, o, t, cs, rfl, hw, fun i hi => ?_⟩
  have h1 := hr i hi 0 _ (List.getElem?_eq_getElem (by rw [encE_len]; omega))
  rw [hw.at_] at h1
  have := (Array.getElem?_eq_some_iff.1 h1).1
  omega
theorem Whole.there {w : World} {g : Nat} {t : TypeId} {cs : Array Value} (h : Whole w g t cs) (o n : Nat) (hs : o + n ≤ cs.size) : w.there g o n := by
  intro j hj
  refine ⟨?_, h.thawed _⟩
  rw [h.at_, Array.getElem?_eq_getElem (by omega)]
  rfl
/-- A name of which the first byte is 7. -/
def n7c : Array Value := #[.int .u8 7, .int .u8 0, .int .u8 0, .int .u8 0, .int .u8 0, .int .u8 0, .int .u8 0, .int .u8 0, .int .u8 0, .int .u8 0, .int .u8 0, .int .u8 0, .int .u8 0, .int .u8 0, .int .u8 0, .int .u8 0, .int .u8 0, .int .u8 0, .int .u8 0, .int .u8 0, .int .u8 0, .int .u8 0, .int .u8 0, .int .u8 0, .int .u8 0, .int .u8 0, .int .u8 0, .int .u8 0, .int .u8 0, .int .u8 0, .int .u8 0, .int .u8 0]
theorem n7c_i : (Tryz.prog.info? 24).map (·.size) = some n7c.size := by kernel_rfl
theorem n7c_a : n7c.all (·.oneCell') = true := by kernel_rfl
theorem n7c_s : n7c.size = 32 := rfl
theorem eqC_symm (a b : Cm) : eqC a b = eqC b a := by
  unfold eqC
  rw [decide_eq_decide.2 (show a.tree = b.tree ↔ b.tree = a.tree from ⟨Eq.symm, Eq.symm⟩), decide_eq_decide.2 (show a.parents = b.parents ↔ b.parents = a.parents from ⟨Eq.symm, Eq.symm⟩), Bool.beq_comm (a := bitsV a.time), Bool.beq_comm (a := a.note)]
theorem getOb_put (y : Ob) (hm : mayO' y = true) (ht : y.commit.time < 18446744073709551616) : ∃ y', getOb y.kind (bytesO y) = (y', 0) ∧ eqO y' y = true := by
  by_cases h1 : y.kind = 1
  · rw [mayO_1 y h1] at hm
    simp only [Bool.and_eq_true, decide_eq_true_eq, beq_iff_eq] at hm
    obtain ⟨⟨hb, he⟩, hc⟩ := hm
    have hel : y.entries = [] := List.length_eq_zero_iff.1 (by omega)
    refine ⟨⟨1, y.blob, [], noC⟩, ?_, ?_⟩
    · have hbo : bytesO y = y.blob := by unfold bytesO; rw [if_neg (by omega), if_neg (by omega)]
      rw [hbo]
      unfold getOb
      rw [if_pos h1, if_pos (by omega)]
    · unfold eqO
      rw [hel, eqC_symm, hc, h1]
      simp
  by_cases h2 : y.kind = 2
  · rw [mayO_2 y h2] at hm
    simp only [Bool.and_eq_true, beq_iff_eq] at hm
    obtain ⟨⟨hb, he⟩, hc⟩ := hm
    refine ⟨⟨2, [], y.entries, noC⟩, ?_, ?_⟩
    · have hbo : bytesO y = encT y.entries := by unfold bytesO; rw [if_pos h2]
      rw [hbo]
      unfold getOb
      rw [if_neg h1, if_pos h2, getT_put _ he]
    · unfold eqO
      rw [hb, eqC_symm, hc, h2]
      simp
  by_cases h3 : y.kind = 3
  · rw [mayO_3 y h3] at hm
    simp only [Bool.and_eq_true, beq_iff_eq] at hm
    obtain ⟨⟨hb, he⟩, hc⟩ := hm
    have hel : y.entries = [] := List.length_eq_zero_iff.1 (by omega)
    refine ⟨⟨3, [], [], y.commit⟩, ?_, ?_⟩
    · have hbo : bytesO y = bytesC y.commit := by unfold bytesO; rw [if_neg h2, if_pos h3]
      rw [hbo]
      unfold getOb
      rw [if_neg h1, if_neg h2, if_pos h3, readC_put _ ht hc]
    · unfold eqO
      rw [hb, hel, eqC_refl, h3]
      simp
  rw [mayO_4 y h1 h2 h3] at hm
  cases hm
end Go.Proofs.YtfaijkgfhdhhbaaGreatDoor

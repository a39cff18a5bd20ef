/-
  object.Links and the reference's Links of objects, walked.
-/
import Derived.Test.YtfaijkgfhdhhbaaGreatDoorRObL
import Derived.Test.YtfaijkgfhdhhbaaGreatDoorMgr
namespace Go.Proofs.YtfaijkgfhdhhbaaGreatDoor
open Go.RowKit

theorem own_weak {w : World} {B B' : Nat} {v : Value} {n : Nat} {xs : List Value} {e : TypeId} {k : Nat} (h : w.ownsRow B e k v n xs) (hb : B' ≤ B) : w.ownsRow B' e k v n xs := by
  refine ⟨h.1, ?_⟩
  rcases h.2 with h0 | ⟨g, cap, cur, hv, hB, rest⟩
  · exact .inl h0
  · exact .inr ⟨g, cap, cur, hv, by omega, rest⟩
theorem own_one (W : World) (B : Nat) (hB : B ≤ W.heap.size) (y : Nm) : (W.alloc (.cells (encN y).toArray 24)).ownsRow B 24 32 (.slice (some ⟨W.heap.size, 0, none⟩) 1 1) [y].length ([y].flatMap encN) := by
  refine ⟨by simp [encN_len], .inr ⟨W.heap.size, 1, _, rfl, hB, Whole.made W 24 (encN y).toArray, Nat.le_refl _, by unfold maxLen; omega, by rw [encN_size], ?_⟩⟩
  have h1 : ([y].flatMap encN) = encN y := by simp
  rw [h1]
  exact List.take_of_length_le (by rw [encN_len]; exact Nat.le_refl _)
theorem range_id {w : World} {b o : Nat} {e : En} (h : w.rangeAt b o (encE e)) : w.rangeAt b (o + 2) (encN e.id) := by
  intro j v hv
  have := h (j + 2) v (by rw [show encE e = .string ⟨e.name.toArray⟩ :: .bool e.dir :: encN e.id from rfl, List.getElem?_cons_succ, List.getElem?_cons_succ]; exact hv)
  rw [show o + (j + 2) = o + 2 + j by omega] at this
  exact this
theorem range_tree {w : World} {b o : Nat} {A : Option Addr} {c : Nat} {x : Cm} (h : w.rangeAt b o (encC A c x)) : w.rangeAt b o (encN x.tree) := by
  intro j v hv
  exact h j v (by rw [encC, List.getElem?_append_left (List.getElem?_eq_some_iff.1 hv).1]; exact hv)
theorem encO_35 (A : Option Addr) (c : Nat) (A2 : Option Addr) (c2 : Nat) (x : Ob) : (encO A c A2 c2 x).toArray[35]? = some (.slice A2 x.commit.parents.length c2) := by
  simp [encO, encC, encN_len]
/-- What Links tells: a row of the call's own. -/
def OwnL (B : Nat) (ids : List Nm) (e : Ending) (w' : World) : Prop := ∃ A c, e = .returned (.slice A ids.length c) ∧ ArgN w' A c ids ∧ Own2 B w' A
theorem ownL_of {B : Nat} {ids : List Nm} {v : Value} {w' : World} (h : w'.ownsRow B 24 32 v ids.length (ids.flatMap encN)) : OwnL B ids (.returned v) w' := by
  obtain ⟨A, c, rfl, ha⟩ := own_arg h
  exact ⟨A, c, rfl, ha, by rintro j ⟨a, rfl, rfl⟩; exact (h.lt a.block rfl).1, own_blk h⟩
theorem linksO_3 (x : Ob) (h : x.kind = 3) : linksO x = [x.commit.tree] ++ x.commit.parents := by unfold linksO; rw [if_pos h]; rfl
theorem linksO_n (x : Ob) (h : ¬ x.kind = 3) : linksO x = idsE x.entries := by unfold linksO; rw [if_neg h]
set_option maxRecDepth 100000 in
set_option maxHeartbeats 4000000 in
theorem olinksP_any (A : Option Addr) (c : Nat) (A2 : Option Addr) (c2 : Nat) (x : Ob) (w : World) (hA : ArgO w A c A2 c2 x) (hm : mayO' x = true) :
    Calls Tryz.prog 18 #[.agg (encO A c A2 c2 x).toArray] w fun e w' => OwnL w.heap.size (linksO x) e w' ∧ Below w.heap.size w w' := by
  obtain ⟨hW, hB, hA0⟩ := obox A c A2 c2 x w hA
  have e0 := (hW.at_ 0).trans (encO_0 A c A2 c2 x)
  have e2 := (hW.at_ 2).trans (encO_2 A c A2 c2 x)
  have E35 := Lib.hid ((hW.past (.cells (encN x.commit.tree).toArray 24)).at_ 35 |>.trans (encO_35 A c A2 c2 x))
  have HRT := Lib.hid (range_tree (encO_commit A c A2 c2 x hW))
  have HTI := Lib.hid (infoX x.commit.tree)
  have HB := Lib.hid hB
  have HA := Lib.hid hA0
  have HM := Lib.hid hm
  have hs0 : w.heap.size ≤ (w.alloc (.cells (encO A c A2 c2 x).toArray 30)).heap.size := hB.size
  clear hW hB hA0 hA hm
  generalize (encO A c A2 c2 x).toArray = cs at *
  by_cases k2 : x.kind = 2
  · have b2 : (x.kind == 2) = true := by simpa using k2
    have hml : x.entries.length ≤ 1048576 := by
      have := HM.out
      rw [mayO_2 x k2] at this
      simp only [Bool.and_eq_true] at this
      have := (mayT_names _ this.1.2).1
      omega
    have HL := Lib.hid (linksO_n x (by omega))
    have HE := Lib.hid (eids_any A c x.entries _ HA.out.1 hml)
    have hil : (idsE x.entries).length = x.entries.length := by simp [idsE]
    have HIL := Lib.hid hil
    clear k2 HM hml hil
    go_enter Tryz.func18, Tryz.ntmps18
    go_wp2_with fail
    refine HE.out.mono ?_
    rintro e w1 ⟨⟨v, rfl, hown⟩, hb⟩
    rw [← HIL.out, ← HL.out] at hown
    have HOW := Lib.hid (ownL_of (own_weak hown hs0))
    have HBF := Lib.hid (HB.out.trans (hb.mono HB.out.size))
    clear hown hb
    go_wp2
    go_ret
    exact ⟨HOW.out, HBF.out⟩
  by_cases k3 : x.kind = 3
  · have b2 : (x.kind == 2) = false := by simpa using k2
    have b3 : (x.kind == 3) = true := by simpa using k3
    have hpl : [x.commit.tree].length + x.commit.parents.length ≤ 1000 := by
      have := HM.out
      rw [mayO_3 x k3] at this
      simp only [Bool.and_eq_true] at this
      have := parents_le this.2
      simp
      omega
    have HPL := Lib.hid hpl
    have HL := Lib.hid (linksO_3 x k3)
    clear k2 k3 HM hpl
    go_enter Tryz.func18, Tryz.ntmps18
    go_upto_region 5 with fail
    generalize w.alloc (.cells cs 30) = w0 at *
    have e35 := E35.out
    have HOW := Lib.hid (own_one w0 w.heap.size hs0 x.commit.tree)
    have HAR := Lib.hid (HA.out.2.later ((Below.refl w0.heap.size w0).alloc (Nat.le_refl _) (.cells (encN x.commit.tree).toArray 24)))
    have HB1 := Lib.hid (HB.out.alloc HB.out.size (.cells (encN x.commit.tree).toArray 24))
    go_wp2_with (first
      | (refine wpList_load_mid rfl 24 _ rfl w.heap.size 3 rfl (encN x.commit.tree) _ HRT.out Tryz.underlying24 rfl HTI.out ?_)
      | (refine wpList_buildN rfl _ rfl x.commit.tree rfl ?_)
      | (at_builtin; go_loud (refine wpList_appendN rfl _ _ rfl w.heap.size (.slice (some ⟨w0.heap.size, 0, none⟩) 1 1) [x.commit.tree] rfl HOW.out A2 x.commit.parents.length c2 x.commit.parents rfl rfl HAR.out HB1.out.size HPL.out ?_; intro v' w9 hown' hb9; have HOW9 := Lib.hid hown'; have HB9 := Lib.hid (HB1.out.trans hb9); clear hown' hb9)))
    go_wp2
    go_ret
    exact ⟨by rw [HL.out]; exact ownL_of HOW9.out, HB9.out⟩
  have b2 : (x.kind == 2) = false := by simpa using k2
  have b3 : (x.kind == 3) = false := by simpa using k3
  have HL : Hid (linksO x = []) := by
    show _ = _
    have hm := HM.out
    by_cases k1 : x.kind = 1
    · rw [mayO_1 x k1] at hm
      simp only [Bool.and_eq_true, beq_iff_eq] at hm
      have hel : x.entries = [] := List.length_eq_zero_iff.1 (by omega)
      rw [linksO_n x k3, hel]
      rfl
    · rw [mayO_4 x k1 k2 k3] at hm
      cases hm
  clear k2 k3 HM
  go_enter Tryz.func18, Tryz.ntmps18
  go_wp2
  go_ret
  exact ⟨by rw [HL.out]; exact ⟨none, 0, rfl, argN_nil _, Own2.nil _ _⟩, HB.out⟩
set_option maxRecDepth 100000 in
set_option maxHeartbeats 4000000 in
theorem rlinks_any (A : Option Addr) (c : Nat) (A2 : Option Addr) (c2 : Nat) (x : Ob) (w : World) (hA : ArgO w A c A2 c2 x) (hl : x.entries.length ≤ 900) (hpl : x.commit.parents.length ≤ 900) :
    Calls Tryz.prog 19 #[.agg (encO A c A2 c2 x).toArray] w fun e w' => OwnL w.heap.size (linksO x) e w' ∧ Below w.heap.size w w' := by
  obtain ⟨hW, hB, hA0⟩ := obox A c A2 c2 x w hA
  have E0 := Lib.hid (encO_0 A c A2 c2 x)
  have E2 := Lib.hid (encO_2 A c A2 c2 x)
  have E35 := Lib.hid (encO_35 A c A2 c2 x)
  have HRT := Lib.hid fun W (h : Whole W w.heap.size 30 (encO A c A2 c2 x).toArray) => range_tree (encO_commit A c A2 c2 x h)
  have HTI := Lib.hid (infoX x.commit.tree)
  have HB := Lib.hid hB
  have HAE := Lib.hid hA0.1
  have HAN := Lib.hid hA0.2
  have HW := Lib.hid hW
  have hs0 : w.heap.size < (w.alloc (.cells (encO A c A2 c2 x).toArray 30)).heap.size := by simp
  have H3 := Lib.hid (linksO_3 x)
  have HN := Lib.hid (linksO_n x)
  have hpl1 : [x.commit.tree].length + x.commit.parents.length ≤ 1000 := by simp; omega
  have HPL := Lib.hid hpl1
  clear hW hB hA0 hA hpl hpl1
  generalize (encO A c A2 c2 x).toArray = cs at *
  generalize x.entries = es at *
  go_enter Tryz.func19, Tryz.ntmps19
  go_wp2
  generalize w.alloc (.cells cs 30) = w0 at *
  go_loopg [3, 4] es.length (fun g s3 s4 wr => ∃ (k : Nat) (A9 : Option Addr) (c9 : Nat), s3 = .slice A9 k c9 ∧ k ≤ es.length ∧ es.length - k ≤ g ∧ s4 = .int .i64 k ∧ wr.ownsRow w0.heap.size 24 32 (.slice A9 k c9) k ((idsE (es.take k)).flatMap encN) ∧ Hid (Below w0.heap.size w0 wr))
  case atStart => exact ⟨0, none, 0, rfl, Nat.zero_le _, by omega, rfl, by simpa [idsE] using World.ownsRow_nil _ _ _ _, Lib.hid (Below.refl _ _)⟩
  case round =>
    obtain ⟨k, A9, c9, rfl, hk, hg, rfl, hown, hwr⟩ := hrel
    have HWr := Lib.hid (HW.out.below hwr.out hs0)
    have e0 := (HWr.out.at_ 0).trans E0.out
    have e2 := (HWr.out.at_ 2).trans E2.out
    have e35 := (HWr.out.at_ 35).trans E35.out
    have hlc := HAE.out.1
    by_cases hlt : k < es.length
    · have hlt' : (k : Int) < (es.length : Int) := by omega
      obtain ⟨bb, o, rfl, hr⟩ := (HAE.out.later hwr.out).2.2.2 (by omega)
      have hrk := range_id (hr k hlt)
      have HTK := Lib.hid (idsE_take es k hlt)
      obtain ⟨y, hy⟩ : ∃ y, y = es.getD k default := ⟨_, rfl⟩
      rw [← hy] at hrk HTK
      have HRK := Lib.hid hrk
      have HYI := Lib.hid (infoX y.id)
      have hkl : (idsE (es.take k)).length = k := by simp [idsE]; omega
      have HOW := Lib.hid (own_later hown ((Below.refl wr.heap.size wr).alloc (Nat.le_refl _) (.cells (encN y.id).toArray 24)))
      have HOW2 : Hid ((wr.alloc (.cells (encN y.id).toArray 24)).ownsRow w0.heap.size 24 32 (.slice A9 k c9) (idsE (es.take k)).length ((idsE (es.take k)).flatMap encN)) := by
        show World.ownsRow _ _ _ _ _ _ _
        rw [hkl]
        exact HOW.out
      have HONE := Lib.hid (arg_one (Whole.made wr 24 (encN y.id).toArray))
      have hsz := hwr.out.size
      have HSZ : Hid (w0.heap.size ≤ (wr.alloc (.cells (encN y.id).toArray 24)).heap.size) := by show _ ≤ _; simp; omega
      have HLL : Hid ((idsE (es.take k)).length + [y.id].length ≤ 1000) := by show _ ≤ _; rw [hkl]; simp; omega
      have HBA := Lib.hid (hwr.out.alloc hwr.out.size (.cells (encN y.id).toArray 24))
      have HKL := Lib.hid hkl
      clear hy hr hrk hown HOW hkl
      go_wp2_with (first
        | (refine wpList_load_mid rfl 24 _ rfl bb (o + k * 34 + 2) rfl (encN y.id) _ HRK.out Tryz.underlying24 rfl HYI.out ?_)
        | (refine wpList_buildN rfl _ rfl y.id rfl ?_)
        | (at_builtin; go_loud (refine wpList_appendN rfl _ _ rfl w0.heap.size (.slice A9 k c9) (idsE (es.take k)) rfl HOW2.out (some ⟨wr.heap.size, 0, none⟩) 1 1 [y.id] rfl rfl HONE.out HSZ.out HLL.out ?_; intro v' w4 hown' hb4; have HOW4 := Lib.hid hown'; have HB4 := Lib.hid (HBA.out.trans hb4); clear hown' hb4)))
      have how4 := HOW4.out
      rw [← HTK.out] at how4
      have hk1 : (idsE (es.take (k + 1))).length = k + 1 := by simp [idsE]; omega
      obtain ⟨A4, c4, rfl, -⟩ := own_arg how4
      rw [hk1] at how4
      have HOW5 := Lib.hid how4
      rw [hk1]
      clear how4 HOW4 hk1
      go_wp2
      go_roundg (es.length - (k + 1))
      case measure => omega
      case rel => exact ⟨k + 1, A4, c4, rfl, by omega, Nat.le_refl _, by go_num, HOW5.out, HB4⟩
    · obtain rfl : k = es.length := by omega
      rw [List.take_length] at hown
      have HOW := Lib.hid hown
      have hil : (idsE es).length = es.length := by simp [idsE]
      have HIL := Lib.hid hil
      have HBW := Lib.hid (HB.out.trans (hwr.out.mono HB.out.size))
      clear hown hil
      by_cases k3 : x.kind = 3
      · have b3 : (x.kind == 3) = true := by simpa using k3
        have HL := Lib.hid (H3.out k3)
        have HRW := Lib.hid (HRT.out wr HWr.out)
        have hsz := HBW.out.size
        have HO := Lib.hid (own_one wr w.heap.size hsz x.commit.tree)
        have HAR := Lib.hid ((HAN.out.later hwr.out).later ((Below.refl wr.heap.size wr).alloc (Nat.le_refl _) (.cells (encN x.commit.tree).toArray 24)))
        have e35' := ((HWr.out.past (.cells (encN x.commit.tree).toArray 24)).at_ 35).trans E35.out
        have HB1 := Lib.hid (HBW.out.alloc HBW.out.size (.cells (encN x.commit.tree).toArray 24))
        clear k3
        go_wp2_with (first
          | (refine wpList_load_mid rfl 24 _ rfl w.heap.size 3 rfl (encN x.commit.tree) _ HRW.out Tryz.underlying24 rfl HTI.out ?_)
          | (refine wpList_buildN rfl _ rfl x.commit.tree rfl ?_)
          | (at_builtin; go_loud (refine wpList_appendN rfl _ _ rfl w.heap.size (.slice (some ⟨wr.heap.size, 0, none⟩) 1 1) [x.commit.tree] rfl HO.out A2 x.commit.parents.length c2 x.commit.parents rfl rfl HAR.out HB1.out.size HPL.out ?_; intro v' w9 hown' hb9; have HOW9 := Lib.hid hown'; have HB9 := Lib.hid (HB1.out.trans hb9); clear hown' hb9)))
        go_wp2
        go_ret
        exact ⟨by rw [HL.out]; exact ownL_of HOW9.out, HB9.out⟩
      · have b3 : (x.kind == 3) = false := by simpa using k3
        have HL := Lib.hid (HN.out k3)
        clear k3
        go_wp2
        go_ret
        refine ⟨?_, HBW.out⟩
        rw [HL.out]
        have how := HOW.out
        rw [← HIL.out] at how
        have := ownL_of (own_weak how (Nat.le_of_lt hs0))
        rw [HIL.out] at this
        exact this
end Go.Proofs.YtfaijkgfhdhhbaaGreatDoor

/-
  object.Get, walked: branch 3.
  object.Get, walked: branch 4.
  object.Get, whole.
-/
import Derived.Test.YtfaijkgfhdhhbaaGreatDoorObE
import Derived.Test.YtfaijkgfhdhhbaaGreatDoorMgt
namespace Go.Proofs.YtfaijkgfhdhhbaaGreatDoor
open Go.RowKit

set_option maxRecDepth 100000 in
set_option maxHeartbeats 8000000 in
theorem ogetO_3 (k : Int) (s : List UInt8) (w : World) (hl : s.length ≤ 1048576) (h1 : ¬ k = 1) (h2 : ¬ k = 2) (h3 : k = 3) :
    Calls Tryz.prog 14 #[.int .i64 k, .string ⟨s.toArray⟩] w fun e w' => (∃ A c A2 c2, e = .returned (.tuple #[.agg (encO A c A2 c2 (getOb k s).1).toArray, .int .i64 (getOb k s).2]) ∧ ArgO w' A c A2 c2 (getOb k s).1 ∧ Own2 w.heap.size w' A ∧ Own2 w.heap.size w' A2) ∧ Below w.heap.size w w' := by
  have HW0 := Lib.hid (Whole.made w 30 #[Value.int IntKind.i64 0, Value.string ⟨#[]⟩, Value.slice none 0 0, Value.int IntKind.u8 0, Value.int IntKind.u8 0, Value.int IntKind.u8 0, Value.int IntKind.u8 0, Value.int IntKind.u8 0, Value.int IntKind.u8 0, Value.int IntKind.u8 0, Value.int IntKind.u8 0, Value.int IntKind.u8 0, Value.int IntKind.u8 0, Value.int IntKind.u8 0, Value.int IntKind.u8 0, Value.int IntKind.u8 0, Value.int IntKind.u8 0, Value.int IntKind.u8 0, Value.int IntKind.u8 0, Value.int IntKind.u8 0, Value.int IntKind.u8 0, Value.int IntKind.u8 0, Value.int IntKind.u8 0, Value.int IntKind.u8 0, Value.int IntKind.u8 0, Value.int IntKind.u8 0, Value.int IntKind.u8 0, Value.int IntKind.u8 0, Value.int IntKind.u8 0, Value.int IntKind.u8 0, Value.int IntKind.u8 0, Value.int IntKind.u8 0, Value.int IntKind.u8 0, Value.int IntKind.u8 0, Value.int IntKind.u8 0, Value.slice none 0 0, Value.float FloatKind.f64 0, Value.string ⟨#[]⟩])
  have HB0 := Lib.hid ((Below.refl w.heap.size w).alloc (Nat.le_refl _) (.cells #[Value.int IntKind.i64 0, Value.string ⟨#[]⟩, Value.slice none 0 0, Value.int IntKind.u8 0, Value.int IntKind.u8 0, Value.int IntKind.u8 0, Value.int IntKind.u8 0, Value.int IntKind.u8 0, Value.int IntKind.u8 0, Value.int IntKind.u8 0, Value.int IntKind.u8 0, Value.int IntKind.u8 0, Value.int IntKind.u8 0, Value.int IntKind.u8 0, Value.int IntKind.u8 0, Value.int IntKind.u8 0, Value.int IntKind.u8 0, Value.int IntKind.u8 0, Value.int IntKind.u8 0, Value.int IntKind.u8 0, Value.int IntKind.u8 0, Value.int IntKind.u8 0, Value.int IntKind.u8 0, Value.int IntKind.u8 0, Value.int IntKind.u8 0, Value.int IntKind.u8 0, Value.int IntKind.u8 0, Value.int IntKind.u8 0, Value.int IntKind.u8 0, Value.int IntKind.u8 0, Value.int IntKind.u8 0, Value.int IntKind.u8 0, Value.int IntKind.u8 0, Value.int IntKind.u8 0, Value.int IntKind.u8 0, Value.slice none 0 0, Value.float FloatKind.f64 0, Value.string ⟨#[]⟩] 30))
  have hs0 : (w.alloc (.cells #[Value.int IntKind.i64 0, Value.string ⟨#[]⟩, Value.slice none 0 0, Value.int IntKind.u8 0, Value.int IntKind.u8 0, Value.int IntKind.u8 0, Value.int IntKind.u8 0, Value.int IntKind.u8 0, Value.int IntKind.u8 0, Value.int IntKind.u8 0, Value.int IntKind.u8 0, Value.int IntKind.u8 0, Value.int IntKind.u8 0, Value.int IntKind.u8 0, Value.int IntKind.u8 0, Value.int IntKind.u8 0, Value.int IntKind.u8 0, Value.int IntKind.u8 0, Value.int IntKind.u8 0, Value.int IntKind.u8 0, Value.int IntKind.u8 0, Value.int IntKind.u8 0, Value.int IntKind.u8 0, Value.int IntKind.u8 0, Value.int IntKind.u8 0, Value.int IntKind.u8 0, Value.int IntKind.u8 0, Value.int IntKind.u8 0, Value.int IntKind.u8 0, Value.int IntKind.u8 0, Value.int IntKind.u8 0, Value.int IntKind.u8 0, Value.int IntKind.u8 0, Value.int IntKind.u8 0, Value.int IntKind.u8 0, Value.slice none 0 0, Value.float FloatKind.f64 0, Value.string ⟨#[]⟩] 30)).heap.size = w.heap.size + 1 := by simp
  have HS0 := Lib.hid (infoO_s none 0 none 0 ⟨k, [], [], noC⟩)
  have HA0 := Lib.hid (encO_all none 0 none 0 ⟨k, [], [], noC⟩)
  have HZ0 : Hid (#[Value.int IntKind.i64 0, Value.string ⟨#[]⟩, Value.slice none 0 0, Value.int IntKind.u8 0, Value.int IntKind.u8 0, Value.int IntKind.u8 0, Value.int IntKind.u8 0, Value.int IntKind.u8 0, Value.int IntKind.u8 0, Value.int IntKind.u8 0, Value.int IntKind.u8 0, Value.int IntKind.u8 0, Value.int IntKind.u8 0, Value.int IntKind.u8 0, Value.int IntKind.u8 0, Value.int IntKind.u8 0, Value.int IntKind.u8 0, Value.int IntKind.u8 0, Value.int IntKind.u8 0, Value.int IntKind.u8 0, Value.int IntKind.u8 0, Value.int IntKind.u8 0, Value.int IntKind.u8 0, Value.int IntKind.u8 0, Value.int IntKind.u8 0, Value.int IntKind.u8 0, Value.int IntKind.u8 0, Value.int IntKind.u8 0, Value.int IntKind.u8 0, Value.int IntKind.u8 0, Value.int IntKind.u8 0, Value.int IntKind.u8 0, Value.int IntKind.u8 0, Value.int IntKind.u8 0, Value.int IntKind.u8 0, Value.slice none 0 0, Value.float FloatKind.f64 0, Value.string ⟨#[]⟩].size = (encO none 0 none 0 ⟨k, [], [], noC⟩).toArray.size) := rfl
  have HZZ : Hid (#[Value.int IntKind.i64 0, Value.string ⟨#[]⟩, Value.slice none 0 0, Value.int IntKind.u8 0, Value.int IntKind.u8 0, Value.int IntKind.u8 0, Value.int IntKind.u8 0, Value.int IntKind.u8 0, Value.int IntKind.u8 0, Value.int IntKind.u8 0, Value.int IntKind.u8 0, Value.int IntKind.u8 0, Value.int IntKind.u8 0, Value.int IntKind.u8 0, Value.int IntKind.u8 0, Value.int IntKind.u8 0, Value.int IntKind.u8 0, Value.int IntKind.u8 0, Value.int IntKind.u8 0, Value.int IntKind.u8 0, Value.int IntKind.u8 0, Value.int IntKind.u8 0, Value.int IntKind.u8 0, Value.int IntKind.u8 0, Value.int IntKind.u8 0, Value.int IntKind.u8 0, Value.int IntKind.u8 0, Value.int IntKind.u8 0, Value.int IntKind.u8 0, Value.int IntKind.u8 0, Value.int IntKind.u8 0, Value.int IntKind.u8 0, Value.int IntKind.u8 0, Value.int IntKind.u8 0, Value.int IntKind.u8 0, Value.slice none 0 0, Value.float FloatKind.f64 0, Value.string ⟨#[]⟩].size = 38) := rfl
  have HQ : Hid (getOb k s = (if k = 1 then (if s.length ≤ 1000 then (⟨1, s, [], noC⟩, 0) else (zO, 5))
  else if k = 2 then (match getT s with | some es => (⟨2, [], es, noC⟩, 0) | none => (zO, 1))
  else if k = 3 then (match readC s with | some x => (⟨3, [], [], x⟩, 0) | none => (zO, 1))
  else (zO, 1) : Ob × Int)) := rfl
  have HL := Lib.hid hl
  clear hl
  subst h3
  go_enter Tryz.func14, Tryz.ntmps14
  go_upto_region 1 with fail
  have HSI := Lib.hid hs0
  clear hs0
  generalize (w.alloc (.cells #[Value.int IntKind.i64 0, Value.string ⟨#[]⟩, Value.slice none 0 0, Value.int IntKind.u8 0, Value.int IntKind.u8 0, Value.int IntKind.u8 0, Value.int IntKind.u8 0, Value.int IntKind.u8 0, Value.int IntKind.u8 0, Value.int IntKind.u8 0, Value.int IntKind.u8 0, Value.int IntKind.u8 0, Value.int IntKind.u8 0, Value.int IntKind.u8 0, Value.int IntKind.u8 0, Value.int IntKind.u8 0, Value.int IntKind.u8 0, Value.int IntKind.u8 0, Value.int IntKind.u8 0, Value.int IntKind.u8 0, Value.int IntKind.u8 0, Value.int IntKind.u8 0, Value.int IntKind.u8 0, Value.int IntKind.u8 0, Value.int IntKind.u8 0, Value.int IntKind.u8 0, Value.int IntKind.u8 0, Value.int IntKind.u8 0, Value.int IntKind.u8 0, Value.int IntKind.u8 0, Value.int IntKind.u8 0, Value.int IntKind.u8 0, Value.int IntKind.u8 0, Value.int IntKind.u8 0, Value.int IntKind.u8 0, Value.slice none 0 0, Value.float FloatKind.f64 0, Value.string ⟨#[]⟩] 30)) = w0 at *
  go_wp2_with (refine wpList_store_whole rfl 30 _ _ rfl w0.heap.size (encO none 0 none 0 ⟨3, [], [], noC⟩).toArray rfl rfl 30 _ (Whole.made w0 _ _) HS0.out HZ0.out HA0.out ?_; intro w1 hWn hGn; have HW1 := Lib.hid hWn; have HG1 := Lib.hid hGn; clear hWn hGn)
  have HR1 := Lib.hid ((HW0.out.past (.cells #[Value.int IntKind.i64 0, Value.string ⟨#[]⟩, Value.slice none 0 0, Value.int IntKind.u8 0, Value.int IntKind.u8 0, Value.int IntKind.u8 0, Value.int IntKind.u8 0, Value.int IntKind.u8 0, Value.int IntKind.u8 0, Value.int IntKind.u8 0, Value.int IntKind.u8 0, Value.int IntKind.u8 0, Value.int IntKind.u8 0, Value.int IntKind.u8 0, Value.int IntKind.u8 0, Value.int IntKind.u8 0, Value.int IntKind.u8 0, Value.int IntKind.u8 0, Value.int IntKind.u8 0, Value.int IntKind.u8 0, Value.int IntKind.u8 0, Value.int IntKind.u8 0, Value.int IntKind.u8 0, Value.int IntKind.u8 0, Value.int IntKind.u8 0, Value.int IntKind.u8 0, Value.int IntKind.u8 0, Value.int IntKind.u8 0, Value.int IntKind.u8 0, Value.int IntKind.u8 0, Value.int IntKind.u8 0, Value.int IntKind.u8 0, Value.int IntKind.u8 0, Value.int IntKind.u8 0, Value.int IntKind.u8 0, Value.slice none 0 0, Value.float FloatKind.f64 0, Value.string ⟨#[]⟩] 30)).grown HG1.out (fun e => by injection e with e; have := HSI.out; omega))
  have HB1 := Lib.hid (be_grown (HB0.out.alloc HB0.out.size (.cells #[Value.int IntKind.i64 0, Value.string ⟨#[]⟩, Value.slice none 0 0, Value.int IntKind.u8 0, Value.int IntKind.u8 0, Value.int IntKind.u8 0, Value.int IntKind.u8 0, Value.int IntKind.u8 0, Value.int IntKind.u8 0, Value.int IntKind.u8 0, Value.int IntKind.u8 0, Value.int IntKind.u8 0, Value.int IntKind.u8 0, Value.int IntKind.u8 0, Value.int IntKind.u8 0, Value.int IntKind.u8 0, Value.int IntKind.u8 0, Value.int IntKind.u8 0, Value.int IntKind.u8 0, Value.int IntKind.u8 0, Value.int IntKind.u8 0, Value.int IntKind.u8 0, Value.int IntKind.u8 0, Value.int IntKind.u8 0, Value.int IntKind.u8 0, Value.int IntKind.u8 0, Value.int IntKind.u8 0, Value.int IntKind.u8 0, Value.int IntKind.u8 0, Value.int IntKind.u8 0, Value.int IntKind.u8 0, Value.int IntKind.u8 0, Value.int IntKind.u8 0, Value.int IntKind.u8 0, Value.int IntKind.u8 0, Value.slice none 0 0, Value.float FloatKind.f64 0, Value.string ⟨#[]⟩] 30)) HG1.out (by have := HB0.out.size; simp; omega) (fun j hj => by injection hj with hj; have := HSI.out; omega))
  have hlt1 : w0.heap.size < w1.heap.size := HW1.out.lt
  have hlt0 : w.heap.size < w0.heap.size := by have := HSI.out; omega
  refine (cgetO_any s w1 HL.out).mono ?_
  rintro e w2 ⟨(⟨x, A, c, hgt, rfl, har, hnb⟩ | ⟨hgt, rfl⟩), hb⟩
  · have HGO : Hid (getOb 3 s = (⟨3, [], [], x⟩, 0)) := by show _ = _; rw [HQ.out, if_neg (by decide), if_neg (by decide), if_pos (by trivial), hgt]
    have HB2 := Lib.hid (HB1.out.trans (hb.mono HB1.out.size))
    have HW2 := Lib.hid (HW1.out.below hb hlt1)
    have HR2 := Lib.hid (HR1.out.below hb (by omega))
    have hlt2 : w0.heap.size < w2.heap.size := HW2.out.lt
    have HAR := Lib.hid har
    have HNB := Lib.hid hnb.1
    have HOB := Lib.hid hnb.2
    clear hb har hnb hgt
    have HTH : Hid (w2.there w0.heap.size 3 (encC A c x).toArray.size) := by
      intro j hj
      rw [encC_s] at hj
      refine ⟨?_, HW2.out.thawed _⟩
      rw [HW2.out.at_, Array.getElem?_eq_getElem (by rw [encO_s]; omega)]
      rfl
    have HCX := Lib.hid (infoC_s A c x)
    have HCA := Lib.hid (encC_all A c x)
    have hw3 := whole_over (encC A c x).toArray.toList 3 w2 _ HW2.out (by rw [encO_s]; show 3 + (encC A c x).length ≤ 38; rw [encC_len]; exact Nat.le_refl _)
    rw [show (encC A c x).toArray.toList = encC A c x from rfl, encO_over] at hw3
    have HW3 := Lib.hid hw3
    have HR3 := Lib.hid (Whole.grown HR2.out (gr_setCells (g := w0.heap.size) (encC A c x) 3 w2 w2 (gr_refl _ _)) (fun e => by injection e with e; omega))
    have HB3 := Lib.hid (be_grown HB2.out (gr_setCells (g := w0.heap.size) (encC A c x) 3 w2 w2 (gr_refl _ _)) HB2.out.size (fun j hj => by injection hj with hj; omega))
    clear hw3
    have HAR3 := Lib.hid (HAR.out.grown (gr_setCells (g := w0.heap.size) (encC A c x) 3 w2 w2 (gr_refl _ _)) (fun j hj _ e => by injection e with e; have := HNB.out j hj; omega))
    have HOB3 := Lib.hid (HOB.out.grown (gr_setCells (g := w0.heap.size) (encC A c x) 3 w2 w2 (gr_refl _ _)) (fun j hj e => by injection e with e; have := HNB.out j hj; omega))
    have HXS := Lib.hid (infoO_s none 0 A c ⟨3, [], [], x⟩)
    have HAX := Lib.hid (encO_all none 0 A c ⟨3, [], [], x⟩)
    have HSX := Lib.hid (encO_s none 0 A c ⟨3, [], [], x⟩)
    generalize hcs : (encO none 0 A c ⟨3, [], [], x⟩).toArray = cs at *
    go_wp2_with (first
      | (refine wpList_store_mid rfl 28 _ _ rfl w0.heap.size 3 (encC A c x).toArray rfl rfl HTH.out HCX.out HCA.out ?_; rw [show (encC A c x).toArray.toList = encC A c x from rfl]; generalize w2.setCells w0.heap.size 3 (encC A c x) = w3 at *)
      | (refine wpList_load_row rfl 30 _ rfl w0.heap.size rfl 30 cs (0, 0) _ HW3.out Tryz.underlying30 rfl HXS.out ?_)
      | (refine wpList_store_whole rfl 30 _ _ rfl w.heap.size cs rfl rfl 30 _ HR3.out HXS.out (by rw [HSX.out]; rfl) HAX.out ?_; intro w9 hWn hGn; have HW9 := Lib.hid hWn; have HG9 := Lib.hid hGn; clear hWn hGn))
    have HB9 := Lib.hid (be_grown HB3.out HG9.out HB3.out.size (fun j hj => by injection hj with hj; omega))
    refine bodyPost_ret (v := .tuple #[.agg cs, .int .i64 0]) (results_orow rfl _ _ _ w.heap.size _ cs rfl rfl HW9.out HXS.out) rfl ⟨⟨none, 0, A, c, by rw [HGO.out, hcs], by rw [HGO.out]; exact ⟨(argO_zero 3 [] w9).1, HAR3.out.grown HG9.out (fun j hj _ e => by injection e with e; have := HNB.out j hj; omega)⟩, Own2.nil _ _, ⟨fun j hj => by have := HNB.out j hj; omega, HOB3.out.grown HG9.out (fun j hj e => by injection e with e; have := HNB.out j hj; omega)⟩⟩, HB9.out⟩
  · have HGO : Hid (getOb 3 s = (zO, 1)) := by show _ = _; rw [HQ.out, if_neg (by decide), if_neg (by decide), if_pos (by trivial), hgt]
    generalize noC = x0 at *
    have HB2 := Lib.hid (HB1.out.trans (hb.mono HB1.out.size))
    have HW2 := Lib.hid (HW1.out.below hb hlt1)
    have HR2 := Lib.hid (HR1.out.below hb (by omega))
    have hlt2 : w0.heap.size < w2.heap.size := HW2.out.lt
    clear hb hgt
    have HTH : Hid (w2.there w0.heap.size 3 (encC none 0 x0).toArray.size) := by
      intro j hj
      rw [encC_s] at hj
      refine ⟨?_, HW2.out.thawed _⟩
      rw [HW2.out.at_, Array.getElem?_eq_getElem (by rw [encO_s]; omega)]
      rfl
    have HCX := Lib.hid (infoC_s none 0 x0)
    have HCA := Lib.hid (encC_all none 0 x0)
    have hw3 := whole_over (encC none 0 x0).toArray.toList 3 w2 _ HW2.out (by rw [encO_s]; show 3 + (encC none 0 x0).length ≤ 38; rw [encC_len]; exact Nat.le_refl _)
    rw [show (encC none 0 x0).toArray.toList = encC none 0 x0 from rfl, encO_over] at hw3
    have HW3 := Lib.hid hw3
    have HR3 := Lib.hid (Whole.grown HR2.out (gr_setCells (g := w0.heap.size) (encC none 0 x0) 3 w2 w2 (gr_refl _ _)) (fun e => by injection e with e; omega))
    have HB3 := Lib.hid (be_grown HB2.out (gr_setCells (g := w0.heap.size) (encC none 0 x0) 3 w2 w2 (gr_refl _ _)) HB2.out.size (fun j hj => by injection hj with hj; omega))
    clear hw3
    have hzb := zO_build
    have HXS := Lib.hid (infoO_s none 0 none 0 zO)
    have HAX := Lib.hid (encO_all none 0 none 0 zO)
    go_wp2_with (first
      | (refine wpList_store_mid rfl 28 _ _ rfl w0.heap.size 3 (encC none 0 x0).toArray rfl rfl HTH.out HCX.out HCA.out ?_; rw [show (encC none 0 x0).toArray.toList = encC none 0 x0 from rfl]; generalize w2.setCells w0.heap.size 3 (encC none 0 x0) = w3 at *)
      | (refine wpList_store_whole rfl 30 _ _ rfl w.heap.size (encO none 0 none 0 zO).toArray rfl rfl 30 _ HR3.out HXS.out rfl HAX.out ?_; intro w9 hWn hGn; have HW9 := Lib.hid hWn; have HG9 := Lib.hid hGn; clear hWn hGn))
    have HB9 := Lib.hid (be_grown HB3.out HG9.out HB3.out.size (fun j hj => by injection hj with hj; omega))
    refine bodyPost_ret (v := .tuple #[.agg (encO none 0 none 0 zO).toArray, .int .i64 1]) (results_orow rfl _ _ _ w.heap.size _ _ rfl rfl HW9.out HXS.out) rfl ⟨⟨none, 0, none, 0, by rw [HGO.out], by rw [HGO.out]; exact argO_zero 0 [] w9, Own2.nil _ _, Own2.nil _ _⟩, HB9.out⟩
end Go.Proofs.YtfaijkgfhdhhbaaGreatDoor
namespace Go.Proofs.YtfaijkgfhdhhbaaGreatDoor
open Go.RowKit

set_option maxRecDepth 100000 in
set_option maxHeartbeats 8000000 in
theorem ogetO_4 (k : Int) (s : List UInt8) (w : World) (hl : s.length ≤ 1048576) (h1 : ¬ k = 1) (h2 : ¬ k = 2) (h3 : ¬ k = 3) :
    Calls Tryz.prog 14 #[.int .i64 k, .string ⟨s.toArray⟩] w fun e w' => (∃ A c A2 c2, e = .returned (.tuple #[.agg (encO A c A2 c2 (getOb k s).1).toArray, .int .i64 (getOb k s).2]) ∧ ArgO w' A c A2 c2 (getOb k s).1 ∧ Own2 w.heap.size w' A ∧ Own2 w.heap.size w' A2) ∧ Below w.heap.size w w' := by
  have HW0 := Lib.hid (Whole.made w 30 #[Value.int IntKind.i64 0, Value.string ⟨#[]⟩, Value.slice none 0 0, Value.int IntKind.u8 0, Value.int IntKind.u8 0, Value.int IntKind.u8 0, Value.int IntKind.u8 0, Value.int IntKind.u8 0, Value.int IntKind.u8 0, Value.int IntKind.u8 0, Value.int IntKind.u8 0, Value.int IntKind.u8 0, Value.int IntKind.u8 0, Value.int IntKind.u8 0, Value.int IntKind.u8 0, Value.int IntKind.u8 0, Value.int IntKind.u8 0, Value.int IntKind.u8 0, Value.int IntKind.u8 0, Value.int IntKind.u8 0, Value.int IntKind.u8 0, Value.int IntKind.u8 0, Value.int IntKind.u8 0, Value.int IntKind.u8 0, Value.int IntKind.u8 0, Value.int IntKind.u8 0, Value.int IntKind.u8 0, Value.int IntKind.u8 0, Value.int IntKind.u8 0, Value.int IntKind.u8 0, Value.int IntKind.u8 0, Value.int IntKind.u8 0, Value.int IntKind.u8 0, Value.int IntKind.u8 0, Value.int IntKind.u8 0, Value.slice none 0 0, Value.float FloatKind.f64 0, Value.string ⟨#[]⟩])
  have HB0 := Lib.hid ((Below.refl w.heap.size w).alloc (Nat.le_refl _) (.cells #[Value.int IntKind.i64 0, Value.string ⟨#[]⟩, Value.slice none 0 0, Value.int IntKind.u8 0, Value.int IntKind.u8 0, Value.int IntKind.u8 0, Value.int IntKind.u8 0, Value.int IntKind.u8 0, Value.int IntKind.u8 0, Value.int IntKind.u8 0, Value.int IntKind.u8 0, Value.int IntKind.u8 0, Value.int IntKind.u8 0, Value.int IntKind.u8 0, Value.int IntKind.u8 0, Value.int IntKind.u8 0, Value.int IntKind.u8 0, Value.int IntKind.u8 0, Value.int IntKind.u8 0, Value.int IntKind.u8 0, Value.int IntKind.u8 0, Value.int IntKind.u8 0, Value.int IntKind.u8 0, Value.int IntKind.u8 0, Value.int IntKind.u8 0, Value.int IntKind.u8 0, Value.int IntKind.u8 0, Value.int IntKind.u8 0, Value.int IntKind.u8 0, Value.int IntKind.u8 0, Value.int IntKind.u8 0, Value.int IntKind.u8 0, Value.int IntKind.u8 0, Value.int IntKind.u8 0, Value.int IntKind.u8 0, Value.slice none 0 0, Value.float FloatKind.f64 0, Value.string ⟨#[]⟩] 30))
  have hs0 : (w.alloc (.cells #[Value.int IntKind.i64 0, Value.string ⟨#[]⟩, Value.slice none 0 0, Value.int IntKind.u8 0, Value.int IntKind.u8 0, Value.int IntKind.u8 0, Value.int IntKind.u8 0, Value.int IntKind.u8 0, Value.int IntKind.u8 0, Value.int IntKind.u8 0, Value.int IntKind.u8 0, Value.int IntKind.u8 0, Value.int IntKind.u8 0, Value.int IntKind.u8 0, Value.int IntKind.u8 0, Value.int IntKind.u8 0, Value.int IntKind.u8 0, Value.int IntKind.u8 0, Value.int IntKind.u8 0, Value.int IntKind.u8 0, Value.int IntKind.u8 0, Value.int IntKind.u8 0, Value.int IntKind.u8 0, Value.int IntKind.u8 0, Value.int IntKind.u8 0, Value.int IntKind.u8 0, Value.int IntKind.u8 0, Value.int IntKind.u8 0, Value.int IntKind.u8 0, Value.int IntKind.u8 0, Value.int IntKind.u8 0, Value.int IntKind.u8 0, Value.int IntKind.u8 0, Value.int IntKind.u8 0, Value.int IntKind.u8 0, Value.slice none 0 0, Value.float FloatKind.f64 0, Value.string ⟨#[]⟩] 30)).heap.size = w.heap.size + 1 := by simp
  have HS0 := Lib.hid (infoO_s none 0 none 0 ⟨k, [], [], noC⟩)
  have HA0 := Lib.hid (encO_all none 0 none 0 ⟨k, [], [], noC⟩)
  have HZ0 : Hid (#[Value.int IntKind.i64 0, Value.string ⟨#[]⟩, Value.slice none 0 0, Value.int IntKind.u8 0, Value.int IntKind.u8 0, Value.int IntKind.u8 0, Value.int IntKind.u8 0, Value.int IntKind.u8 0, Value.int IntKind.u8 0, Value.int IntKind.u8 0, Value.int IntKind.u8 0, Value.int IntKind.u8 0, Value.int IntKind.u8 0, Value.int IntKind.u8 0, Value.int IntKind.u8 0, Value.int IntKind.u8 0, Value.int IntKind.u8 0, Value.int IntKind.u8 0, Value.int IntKind.u8 0, Value.int IntKind.u8 0, Value.int IntKind.u8 0, Value.int IntKind.u8 0, Value.int IntKind.u8 0, Value.int IntKind.u8 0, Value.int IntKind.u8 0, Value.int IntKind.u8 0, Value.int IntKind.u8 0, Value.int IntKind.u8 0, Value.int IntKind.u8 0, Value.int IntKind.u8 0, Value.int IntKind.u8 0, Value.int IntKind.u8 0, Value.int IntKind.u8 0, Value.int IntKind.u8 0, Value.int IntKind.u8 0, Value.slice none 0 0, Value.float FloatKind.f64 0, Value.string ⟨#[]⟩].size = (encO none 0 none 0 ⟨k, [], [], noC⟩).toArray.size) := rfl
  have HZZ : Hid (#[Value.int IntKind.i64 0, Value.string ⟨#[]⟩, Value.slice none 0 0, Value.int IntKind.u8 0, Value.int IntKind.u8 0, Value.int IntKind.u8 0, Value.int IntKind.u8 0, Value.int IntKind.u8 0, Value.int IntKind.u8 0, Value.int IntKind.u8 0, Value.int IntKind.u8 0, Value.int IntKind.u8 0, Value.int IntKind.u8 0, Value.int IntKind.u8 0, Value.int IntKind.u8 0, Value.int IntKind.u8 0, Value.int IntKind.u8 0, Value.int IntKind.u8 0, Value.int IntKind.u8 0, Value.int IntKind.u8 0, Value.int IntKind.u8 0, Value.int IntKind.u8 0, Value.int IntKind.u8 0, Value.int IntKind.u8 0, Value.int IntKind.u8 0, Value.int IntKind.u8 0, Value.int IntKind.u8 0, Value.int IntKind.u8 0, Value.int IntKind.u8 0, Value.int IntKind.u8 0, Value.int IntKind.u8 0, Value.int IntKind.u8 0, Value.int IntKind.u8 0, Value.int IntKind.u8 0, Value.int IntKind.u8 0, Value.slice none 0 0, Value.float FloatKind.f64 0, Value.string ⟨#[]⟩].size = 38) := rfl
  have HQ : Hid (getOb k s = (if k = 1 then (if s.length ≤ 1000 then (⟨1, s, [], noC⟩, 0) else (zO, 5))
  else if k = 2 then (match getT s with | some es => (⟨2, [], es, noC⟩, 0) | none => (zO, 1))
  else if k = 3 then (match readC s with | some x => (⟨3, [], [], x⟩, 0) | none => (zO, 1))
  else (zO, 1) : Ob × Int)) := rfl
  have HL := Lib.hid hl
  clear hl
  have g1 : (k == 1) = false := by simpa using h1
  have g2 : (k == 2) = false := by simpa using h2
  have g3 : (k == 3) = false := by simpa using h3
  have HGO : Hid (getOb k s = (zO, 1)) := by show _ = _; rw [HQ.out, if_neg h1, if_neg h2, if_neg h3]
  clear h1 h2 h3
  go_enter Tryz.func14, Tryz.ntmps14
  go_upto_region 1 with fail
  have HSI := Lib.hid hs0
  clear hs0
  generalize (w.alloc (.cells #[Value.int IntKind.i64 0, Value.string ⟨#[]⟩, Value.slice none 0 0, Value.int IntKind.u8 0, Value.int IntKind.u8 0, Value.int IntKind.u8 0, Value.int IntKind.u8 0, Value.int IntKind.u8 0, Value.int IntKind.u8 0, Value.int IntKind.u8 0, Value.int IntKind.u8 0, Value.int IntKind.u8 0, Value.int IntKind.u8 0, Value.int IntKind.u8 0, Value.int IntKind.u8 0, Value.int IntKind.u8 0, Value.int IntKind.u8 0, Value.int IntKind.u8 0, Value.int IntKind.u8 0, Value.int IntKind.u8 0, Value.int IntKind.u8 0, Value.int IntKind.u8 0, Value.int IntKind.u8 0, Value.int IntKind.u8 0, Value.int IntKind.u8 0, Value.int IntKind.u8 0, Value.int IntKind.u8 0, Value.int IntKind.u8 0, Value.int IntKind.u8 0, Value.int IntKind.u8 0, Value.int IntKind.u8 0, Value.int IntKind.u8 0, Value.int IntKind.u8 0, Value.int IntKind.u8 0, Value.int IntKind.u8 0, Value.slice none 0 0, Value.float FloatKind.f64 0, Value.string ⟨#[]⟩] 30)) = w0 at *
  go_upto_region 2 with (refine wpList_store_whole rfl 30 _ _ rfl w0.heap.size (encO none 0 none 0 ⟨k, [], [], noC⟩).toArray rfl rfl 30 _ (Whole.made w0 _ _) HS0.out HZ0.out HA0.out ?_; intro w1 hWn hGn; have HW1 := Lib.hid hWn; have HG1 := Lib.hid hGn; clear hWn hGn)
  have HR1 := Lib.hid ((HW0.out.past (.cells #[Value.int IntKind.i64 0, Value.string ⟨#[]⟩, Value.slice none 0 0, Value.int IntKind.u8 0, Value.int IntKind.u8 0, Value.int IntKind.u8 0, Value.int IntKind.u8 0, Value.int IntKind.u8 0, Value.int IntKind.u8 0, Value.int IntKind.u8 0, Value.int IntKind.u8 0, Value.int IntKind.u8 0, Value.int IntKind.u8 0, Value.int IntKind.u8 0, Value.int IntKind.u8 0, Value.int IntKind.u8 0, Value.int IntKind.u8 0, Value.int IntKind.u8 0, Value.int IntKind.u8 0, Value.int IntKind.u8 0, Value.int IntKind.u8 0, Value.int IntKind.u8 0, Value.int IntKind.u8 0, Value.int IntKind.u8 0, Value.int IntKind.u8 0, Value.int IntKind.u8 0, Value.int IntKind.u8 0, Value.int IntKind.u8 0, Value.int IntKind.u8 0, Value.int IntKind.u8 0, Value.int IntKind.u8 0, Value.int IntKind.u8 0, Value.int IntKind.u8 0, Value.int IntKind.u8 0, Value.int IntKind.u8 0, Value.slice none 0 0, Value.float FloatKind.f64 0, Value.string ⟨#[]⟩] 30)).grown HG1.out (fun e => by injection e with e; have := HSI.out; omega))
  have HB1 := Lib.hid (be_grown (HB0.out.alloc HB0.out.size (.cells #[Value.int IntKind.i64 0, Value.string ⟨#[]⟩, Value.slice none 0 0, Value.int IntKind.u8 0, Value.int IntKind.u8 0, Value.int IntKind.u8 0, Value.int IntKind.u8 0, Value.int IntKind.u8 0, Value.int IntKind.u8 0, Value.int IntKind.u8 0, Value.int IntKind.u8 0, Value.int IntKind.u8 0, Value.int IntKind.u8 0, Value.int IntKind.u8 0, Value.int IntKind.u8 0, Value.int IntKind.u8 0, Value.int IntKind.u8 0, Value.int IntKind.u8 0, Value.int IntKind.u8 0, Value.int IntKind.u8 0, Value.int IntKind.u8 0, Value.int IntKind.u8 0, Value.int IntKind.u8 0, Value.int IntKind.u8 0, Value.int IntKind.u8 0, Value.int IntKind.u8 0, Value.int IntKind.u8 0, Value.int IntKind.u8 0, Value.int IntKind.u8 0, Value.int IntKind.u8 0, Value.int IntKind.u8 0, Value.int IntKind.u8 0, Value.int IntKind.u8 0, Value.int IntKind.u8 0, Value.int IntKind.u8 0, Value.slice none 0 0, Value.float FloatKind.f64 0, Value.string ⟨#[]⟩] 30)) HG1.out (by have := HB0.out.size; simp; omega) (fun j hj => by injection hj with hj; have := HSI.out; omega))
  have hlt1 : w0.heap.size < w1.heap.size := HW1.out.lt
  have hlt0 : w.heap.size < w0.heap.size := by have := HSI.out; omega
  have hzb := zO_build
  have HXS := Lib.hid (infoO_s none 0 none 0 zO)
  have HAX := Lib.hid (encO_all none 0 none 0 zO)
  go_wp2_with (refine wpList_store_whole rfl 30 _ _ rfl w.heap.size (encO none 0 none 0 zO).toArray rfl rfl 30 _ HR1.out HXS.out rfl HAX.out ?_; intro w9 hWn hGn; have HW9 := Lib.hid hWn; have HG9 := Lib.hid hGn; clear hWn hGn)
  have HB9 := Lib.hid (be_grown HB1.out HG9.out HB1.out.size (fun j hj => by injection hj with hj; omega))
  refine bodyPost_ret (v := .tuple #[.agg (encO none 0 none 0 zO).toArray, .int .i64 1]) (results_orow rfl _ _ _ w.heap.size _ _ rfl rfl HW9.out HXS.out) rfl ⟨⟨none, 0, none, 0, by rw [HGO.out], by rw [HGO.out]; exact argO_zero 0 [] w9, Own2.nil _ _, Own2.nil _ _⟩, HB9.out⟩

end Go.Proofs.YtfaijkgfhdhhbaaGreatDoor
namespace Go.Proofs.YtfaijkgfhdhhbaaGreatDoor
open Go.RowKit

theorem ogetP_any (k : Int) (s : List UInt8) (w : World) (hl : s.length ≤ 1048576) :
    Calls Tryz.prog 14 #[.int .i64 k, .string ⟨s.toArray⟩] w fun e w' => (∃ A c A2 c2, e = .returned (.tuple #[.agg (encO A c A2 c2 (getOb k s).1).toArray, .int .i64 (getOb k s).2]) ∧ ArgO w' A c A2 c2 (getOb k s).1 ∧ Own2 w.heap.size w' A ∧ Own2 w.heap.size w' A2) ∧ Below w.heap.size w w' := by
  by_cases h1 : k = 1
  · exact ogetO_1 k s w hl h1
  by_cases h2 : k = 2
  · exact ogetO_2 k s w hl h1 h2
  by_cases h3 : k = 3
  · exact ogetO_3 k s w hl h1 h2 h3
  exact ogetO_4 k s w hl h1 h2 h3
theorem ogetO_any (k : Int) (s : List UInt8) (w : World) (hl : s.length ≤ 1048576) :
    Calls Tryz.prog 14 #[.int .i64 k, .string ⟨s.toArray⟩] w fun e w' => (∃ A c A2 c2, e = .returned (.tuple #[.agg (encO A c A2 c2 (getOb k s).1).toArray, .int .i64 (getOb k s).2]) ∧ ArgO w' A c A2 c2 (getOb k s).1) ∧ Below w.heap.size w w' := by
  refine (ogetP_any k s w hl).mono ?_
  rintro e w' ⟨⟨A, c, A2, c2, h1, h2, -⟩, hb⟩
  exact ⟨⟨A, c, A2, c2, h1, h2⟩, hb⟩
end Go.Proofs.YtfaijkgfhdhhbaaGreatDoor

/-
  object.Get, walked: branch 1.
  object.Get, walked: branch 2.
-/
import Derived.Test.YtfaijkgfhdhhbaaGreatDoorObE
namespace Go.Proofs.YtfaijkgfhdhhbaaGreatDoor
open Go.RowKit

set_option maxRecDepth 100000 in
set_option maxHeartbeats 8000000 in
theorem ogetO_1 (k : Int) (s : List UInt8) (w : World) (hl : s.length ≤ 1048576) (h1 : k = 1) :
    Calls Tryz.prog 14 #[.int .i64 k, .string ⟨s.toArray⟩] w fun e w' => (∃ A c A2 c2, e = .returned (.tuple #[.agg (encO A c A2 c2 (getOb k s).1).toArray, .int .i64 (getOb k s).2]) ∧ ArgO w' A c A2 c2 (getOb k s).1 ∧ Own2 w.heap.size w' A ∧ Own2 w.heap.size w' A2) ∧ Below w.heap.size w w' := by
  have HW0 := Lib.hid (Whole.made w 30 #[Value.int IntKind.i64 0, Value.string ⟨#[]⟩, Value.slice none 0 0, Value.int IntKind.u8 0, Value.int IntKind.u8 0, Value.int IntKind.u8 0, Value.int IntKind.u8 0, Value.int IntKind.u8 0, Value.int IntKind.u8 0, Value.int IntKind.u8 0, Value.int IntKind.u8 0, Value.int IntKind.u8 0, Value.int IntKind.u8 0, Value.int IntKind.u8 0, Value.int IntKind.u8 0, Value.int IntKind.u8 0, Value.int IntKind.u8 0, Value.int IntKind.u8 0, Value.int IntKind.u8 0, Value.int IntKind.u8 0, Value.int IntKind.u8 0, Value.int IntKind.u8 0, Value.int IntKind.u8 0, Value.int IntKind.u8 0, Value.int IntKind.u8 0, Value.int IntKind.u8 0, Value.int IntKind.u8 0, Value.int IntKind.u8 0, Value.int IntKind.u8 0, Value.int IntKind.u8 0, Value.int IntKind.u8 0, Value.int IntKind.u8 0, Value.int IntKind.u8 0, Value.int IntKind.u8 0, Value.int IntKind.u8 0, Value.slice none 0 0, Value.float FloatKind.f64 0, Value.string ⟨#[]⟩])
  have HB0 := Lib.hid ((Below.refl w.heap.size w).alloc (Nat.le_refl _) (.cells #[Value.int IntKind.i64 0, Value.string ⟨#[]⟩, Value.slice none 0 0, Value.int IntKind.u8 0, Value.int IntKind.u8 0, Value.int IntKind.u8 0, Value.int IntKind.u8 0, Value.int IntKind.u8 0, Value.int IntKind.u8 0, Value.int IntKind.u8 0, Value.int IntKind.u8 0, Value.int IntKind.u8 0, Value.int IntKind.u8 0, Value.int IntKind.u8 0, Value.int IntKind.u8 0, Value.int IntKind.u8 0, Value.int IntKind.u8 0, Value.int IntKind.u8 0, Value.int IntKind.u8 0, Value.int IntKind.u8 0, Value.int IntKind.u8 0, Value.int IntKind.u8 0, Value.int IntKind.u8 0, Value.int IntKind.u8 0, Value.int IntKind.u8 0, Value.int IntKind.u8 0, Value.int IntKind.u8 0, Value.int IntKind.u8 0, Value.int IntKind.u8 0, Value.int IntKind.u8 0, Value.int IntKind.u8 0, Value.int IntKind.u8 0, Value.int IntKind.u8 0, Value.int IntKind.u8 0, Value.int IntKind.u8 0, Value.slice none 0 0, Value.float FloatKind.f64 0, Value.string ⟨#[]⟩] 30))
  have hs0 : (w.alloc (.cells #[Value.int IntKind.i64 0, Value.string ⟨#[]⟩, Value.slice none 0 0, Value.int IntKind.u8 0, Value.int IntKind.u8 0, Value.int IntKind.u8 0, Value.int IntKind.u8 0, Value.int IntKind.u8 0, Value.int IntKind.u8 0, Value.int IntKind.u8 0, Value.int IntKind.u8 0, Value.int IntKind.u8 0, Value.int IntKind.u8 0, Value.int IntKind.u8 0, Value.int IntKind.u8 0, Value.int IntKind.u8 0, Value.int IntKind.u8 0, Value.int IntKind.u8 0, Value.int IntKind.u8 0, Value.int IntKind.u8 0, Value.int IntKind.u8 0, Value.int IntKind.u8 0, Value.int IntKind.u8 0, Value.int IntKind.u8 0, Value.int IntKind.u8 0, Value.int IntKind.u8 0, Value.int IntKind.u8 0, Value.int IntKind.u8 0, Value.int IntKind.u8 0, Value.int IntKind.u8 0, Value.int IntKind.u8 0, Value.int IntKind.u8 0, Value.int IntKind.u8 0, Value.int IntKind.u8 0, Value.int IntKind.u8 0, Value.slice none 0 0, Value.float FloatKind.f64 0, Value.string ⟨#[]⟩] 30)).heap.size = w.heap.size + 1 := by simp
  have HS0 := Lib.hid (infoO_s none 0 none 0 ⟨k, [], [], noC⟩)
  have HA0 := Lib.hid (encO_all none 0 none 0 ⟨k, [], [], noC⟩)
  have HZ0 : Hid (#[Value.int IntKind.i64 0, Value.string ⟨#[]⟩, Value.slice none 0 0, Value.int IntKind.u8 0, Value.int IntKind.u8 0, Value.int IntKind.u8 0, Value.int IntKind.u8 0, Value.int IntKind.u8 0, Value.int IntKind.u8 0, Value.int IntKind.u8 0, Value.int IntKind.u8 0, Value.int IntKind.u8 0, Value.int IntKind.u8 0, Value.int IntKind.u8 0, Value.int IntKind.u8 0, Value.int IntKind.u8 0, Value.int IntKind.u8 0, Value.int IntKind.u8 0, Value.int IntKind.u8 0, Value.int IntKind.u8 0, Value.int IntKind.u8 0, Value.int IntKind.u8 0, Value.int IntKind.u8 0, Value.int IntKind.u8 0, Value.int IntKind.u8 0, Value.int IntKind.u8 0, Value.int IntKind.u8 0, Value.int IntKind.u8 0, Value.int IntKind.u8 0, Value.int IntKind.u8 0, Value.int IntKind.u8 0, Value.int IntKind.u8 0, Value.int IntKind.u8 0, Value.int IntKind.u8 0, Value.int IntKind.u8 0, Value.slice none 0 0, Value.float FloatKind.f64 0, Value.string ⟨#[]⟩].size = (encO none 0 none 0 ⟨k, [], [], noC⟩).toArray.size) := rfl
  have HZZ : Hid (#[Value.int IntKind.i64 0, Value.string ⟨#[]⟩, Value.slice none 0 0, Value.int IntKind.u8 0, Value.int IntKind.u8 0, Value.int IntKind.u8 0, Value.int IntKind.u8 0, Value.int IntKind.u8 0, Value.int IntKind.u8 0, Value.int IntKind.u8 0, Value.int IntKind.u8 0, Value.int IntKind.u8 0, Value.int IntKind.u8 0, Value.int IntKind.u8 0, Value.int IntKind.u8 0, Value.int IntKind.u8 0, Value.int IntKind.u8 0, Value.int IntKind.u8 0, Value.int IntKind.u8 0, Value.int IntKind.u8 0, Value.int IntKind.u8 0, Value.int IntKind.u8 0, Value.int IntKind.u8 0, Value.int IntKind.u8 0, Value.int IntKind.u8 0, Value.int IntKind.u8 0, Value.int IntKind.u8 0, Value.int IntKind.u8 0, Value.int IntKind.u8 0, Value.int IntKind.u8 0, Value.int IntKind.u8 0, Value.int IntKind.u8 0, Value.int IntKind.u8 0, Value.int IntKind.u8 0, Value.int IntKind.u8 0, Value.slice none 0 0, Value.float FloatKind.f64 0, Value.string ⟨#[]⟩].size = 38) := rfl
  have HQ : Hid (getOb k s = (if k = 1 then (if s.length ≤ 1000 then (⟨1, s, [], noC⟩, 0) else (zO, 5))
  else if k = 2 then (match getT s with | some es => (⟨2, [], es, noC⟩, 0) | none => (zO, 1))
  else if k = 3 then (match readC s with | some x => (⟨3, [], [], x⟩, 0) | none => (zO, 1))
  else (zO, 1) : Ob × Int)) := rfl
  have HL := Lib.hid hl
  clear hl
  subst h1
  go_enter Tryz.func14, Tryz.ntmps14
  go_upto_region 1 with fail
  have HSI := Lib.hid hs0
  clear hs0
  generalize (w.alloc (.cells #[Value.int IntKind.i64 0, Value.string ⟨#[]⟩, Value.slice none 0 0, Value.int IntKind.u8 0, Value.int IntKind.u8 0, Value.int IntKind.u8 0, Value.int IntKind.u8 0, Value.int IntKind.u8 0, Value.int IntKind.u8 0, Value.int IntKind.u8 0, Value.int IntKind.u8 0, Value.int IntKind.u8 0, Value.int IntKind.u8 0, Value.int IntKind.u8 0, Value.int IntKind.u8 0, Value.int IntKind.u8 0, Value.int IntKind.u8 0, Value.int IntKind.u8 0, Value.int IntKind.u8 0, Value.int IntKind.u8 0, Value.int IntKind.u8 0, Value.int IntKind.u8 0, Value.int IntKind.u8 0, Value.int IntKind.u8 0, Value.int IntKind.u8 0, Value.int IntKind.u8 0, Value.int IntKind.u8 0, Value.int IntKind.u8 0, Value.int IntKind.u8 0, Value.int IntKind.u8 0, Value.int IntKind.u8 0, Value.int IntKind.u8 0, Value.int IntKind.u8 0, Value.int IntKind.u8 0, Value.int IntKind.u8 0, Value.slice none 0 0, Value.float FloatKind.f64 0, Value.string ⟨#[]⟩] 30)) = w0 at *
  go_wp2_with (refine wpList_store_whole rfl 30 _ _ rfl w0.heap.size (encO none 0 none 0 ⟨1, [], [], noC⟩).toArray rfl rfl 30 _ (Whole.made w0 _ _) HS0.out HZ0.out HA0.out ?_; intro w1 hWn hGn; have HW1 := Lib.hid hWn; have HG1 := Lib.hid hGn; clear hWn hGn)
  have HR1 := Lib.hid ((HW0.out.past (.cells #[Value.int IntKind.i64 0, Value.string ⟨#[]⟩, Value.slice none 0 0, Value.int IntKind.u8 0, Value.int IntKind.u8 0, Value.int IntKind.u8 0, Value.int IntKind.u8 0, Value.int IntKind.u8 0, Value.int IntKind.u8 0, Value.int IntKind.u8 0, Value.int IntKind.u8 0, Value.int IntKind.u8 0, Value.int IntKind.u8 0, Value.int IntKind.u8 0, Value.int IntKind.u8 0, Value.int IntKind.u8 0, Value.int IntKind.u8 0, Value.int IntKind.u8 0, Value.int IntKind.u8 0, Value.int IntKind.u8 0, Value.int IntKind.u8 0, Value.int IntKind.u8 0, Value.int IntKind.u8 0, Value.int IntKind.u8 0, Value.int IntKind.u8 0, Value.int IntKind.u8 0, Value.int IntKind.u8 0, Value.int IntKind.u8 0, Value.int IntKind.u8 0, Value.int IntKind.u8 0, Value.int IntKind.u8 0, Value.int IntKind.u8 0, Value.int IntKind.u8 0, Value.int IntKind.u8 0, Value.int IntKind.u8 0, Value.slice none 0 0, Value.float FloatKind.f64 0, Value.string ⟨#[]⟩] 30)).grown HG1.out (fun e => by injection e with e; have := HSI.out; omega))
  have HB1 := Lib.hid (be_grown (HB0.out.alloc HB0.out.size (.cells #[Value.int IntKind.i64 0, Value.string ⟨#[]⟩, Value.slice none 0 0, Value.int IntKind.u8 0, Value.int IntKind.u8 0, Value.int IntKind.u8 0, Value.int IntKind.u8 0, Value.int IntKind.u8 0, Value.int IntKind.u8 0, Value.int IntKind.u8 0, Value.int IntKind.u8 0, Value.int IntKind.u8 0, Value.int IntKind.u8 0, Value.int IntKind.u8 0, Value.int IntKind.u8 0, Value.int IntKind.u8 0, Value.int IntKind.u8 0, Value.int IntKind.u8 0, Value.int IntKind.u8 0, Value.int IntKind.u8 0, Value.int IntKind.u8 0, Value.int IntKind.u8 0, Value.int IntKind.u8 0, Value.int IntKind.u8 0, Value.int IntKind.u8 0, Value.int IntKind.u8 0, Value.int IntKind.u8 0, Value.int IntKind.u8 0, Value.int IntKind.u8 0, Value.int IntKind.u8 0, Value.int IntKind.u8 0, Value.int IntKind.u8 0, Value.int IntKind.u8 0, Value.int IntKind.u8 0, Value.int IntKind.u8 0, Value.slice none 0 0, Value.float FloatKind.f64 0, Value.string ⟨#[]⟩] 30)) HG1.out (by have := HB0.out.size; simp; omega) (fun j hj => by injection hj with hj; have := HSI.out; omega))
  have hlt1 : w0.heap.size < w1.heap.size := HW1.out.lt
  have hlt0 : w.heap.size < w0.heap.size := by have := HSI.out; omega
  refine (oblob_any s w1).mono ?_
  rintro e w2 ⟨rfl, hb⟩
  have HB2 := Lib.hid (HB1.out.trans (hb.mono HB1.out.size))
  have HW2 := Lib.hid (HW1.out.below hb hlt1)
  have HR2 := Lib.hid (HR1.out.below hb (by omega))
  have hlt2 : w0.heap.size < w2.heap.size := HW2.out.lt
  clear hb
  by_cases h1000 : s.length ≤ 1000
  · have HGO : Hid (getOb 1 s = (⟨1, s, [], noC⟩, 0)) := by show _ = _; rw [HQ.out, if_pos (by trivial), if_pos h1000]
    rw [if_pos h1000]
    clear h1000
    have e1 := (HW2.out.at_ 1).trans (encO_1 none 0 none 0 ⟨1, [], [], noC⟩)
    have f1 := HW2.out.thawed 1
    have hw3 := HW2.out.put 1 (.string ⟨s.toArray⟩)
    rw [encO_set1] at hw3
    have HW3 := Lib.hid hw3
    have HR3 := Lib.hid (HR2.out.aside (p := ⟨w0.heap.size, 1, none⟩) (by simp; omega) (.string ⟨s.toArray⟩))
    have HB3 := Lib.hid (HB2.out.setCell (p := ⟨w0.heap.size, 1, none⟩) (by simp; omega) (.string ⟨s.toArray⟩))
    clear hw3
    have HXS := Lib.hid (infoO_s none 0 none 0 ⟨1, s, [], noC⟩)
    have HAX := Lib.hid (encO_all none 0 none 0 ⟨1, s, [], noC⟩)
    have HSX := Lib.hid (encO_s none 0 none 0 ⟨1, s, [], noC⟩)
    generalize hcs : (encO none 0 none 0 ⟨1, s, [], noC⟩).toArray = cs at *
    go_wp2_with (first
      | (refine wpList_load_row rfl 30 _ rfl w0.heap.size rfl 30 cs (0, 0) _ HW3.out Tryz.underlying30 rfl HXS.out ?_)
      | (refine wpList_store_whole rfl 30 _ _ rfl w.heap.size cs rfl rfl 30 _ HR3.out HXS.out (by rw [HSX.out]; rfl) HAX.out ?_; intro w9 hWn hGn; have HW9 := Lib.hid hWn; have HG9 := Lib.hid hGn; clear hWn hGn))
    have HB9 := Lib.hid (be_grown HB3.out HG9.out HB3.out.size (fun j hj => by injection hj with hj; omega))
    refine bodyPost_ret (v := .tuple #[.agg cs, .int .i64 0]) (results_orow rfl _ _ _ w.heap.size _ cs rfl rfl HW9.out HXS.out) rfl ⟨⟨none, 0, none, 0, by rw [HGO.out, hcs], by rw [HGO.out]; exact argO_zero 1 s w9, Own2.nil _ _, Own2.nil _ _⟩, HB9.out⟩
  · have HGO : Hid (getOb 1 s = (zO, 5)) := by show _ = _; rw [HQ.out, if_pos (by trivial), if_neg h1000]
    rw [if_neg h1000]
    clear h1000
    have e1 := (HW2.out.at_ 1).trans (encO_1 none 0 none 0 ⟨1, [], [], noC⟩)
    have f1 := HW2.out.thawed 1
    have hw3 := HW2.out.put 1 (.string ⟨([] : List UInt8).toArray⟩)
    rw [encO_set1] at hw3
    have HW3 := Lib.hid hw3
    have HR3 := Lib.hid (HR2.out.aside (p := ⟨w0.heap.size, 1, none⟩) (by simp; omega) (.string ⟨([] : List UInt8).toArray⟩))
    have HB3 := Lib.hid (HB2.out.setCell (p := ⟨w0.heap.size, 1, none⟩) (by simp; omega) (.string ⟨([] : List UInt8).toArray⟩))
    clear hw3
    have hzb := zO_build
    have HXS := Lib.hid (infoO_s none 0 none 0 zO)
    have HAX := Lib.hid (encO_all none 0 none 0 zO)
    go_wp2_with (refine wpList_store_whole rfl 30 _ _ rfl w.heap.size (encO none 0 none 0 zO).toArray rfl rfl 30 _ HR3.out HXS.out rfl HAX.out ?_; intro w9 hWn hGn; have HW9 := Lib.hid hWn; have HG9 := Lib.hid hGn; clear hWn hGn)
    have HB9 := Lib.hid (be_grown HB3.out HG9.out HB3.out.size (fun j hj => by injection hj with hj; omega))
    refine bodyPost_ret (v := .tuple #[.agg (encO none 0 none 0 zO).toArray, .int .i64 5]) (results_orow rfl _ _ _ w.heap.size _ _ rfl rfl HW9.out HXS.out) rfl ⟨⟨none, 0, none, 0, by rw [HGO.out], by rw [HGO.out]; exact argO_zero 0 [] w9, Own2.nil _ _, Own2.nil _ _⟩, HB9.out⟩
end Go.Proofs.YtfaijkgfhdhhbaaGreatDoor
namespace Go.Proofs.YtfaijkgfhdhhbaaGreatDoor
open Go.RowKit

set_option maxRecDepth 100000 in
set_option maxHeartbeats 8000000 in
theorem ogetO_2 (k : Int) (s : List UInt8) (w : World) (hl : s.length ≤ 1048576) (h1 : ¬ k = 1) (h2 : k = 2) :
    Calls Tryz.prog 14 #[.int .i64 k, .string ⟨s.toArray⟩] w fun e w' => (∃ A c A2 c2, e = .returned (.tuple #[.agg (encO A c A2 c2 (getOb k s).1).toArray, .int .i64 (getOb k s).2]) ∧ ArgO w' A c A2 c2 (getOb k s).1 ∧ Own2 w.heap.size w' A ∧ Own2 w.heap.size w' A2) ∧ Below w.heap.size w w' := by
  have HW0 := Lib.hid (Whole.made w 30 #[Value.int IntKind.i64 0, Value.string ⟨#[]⟩, Value.slice none 0 0, Value.int IntKind.u8 0, Value.int IntKind.u8 0, Value.int IntKind.u8 0, Value.int IntKind.u8 0, Value.int IntKind.u8 0, Value.int IntKind.u8 0, Value.int IntKind.u8 0, Value.int IntKind.u8 0, Value.int IntKind.u8 0, Value.int IntKind.u8 0, Value.int IntKind.u8 0, Value.int IntKind.u8 0, Value.int IntKind.u8 0, Value.int IntKind.u8 0, Value.int IntKind.u8 0, Value.int IntKind.u8 0, Value.int IntKind.u8 0, Value.int IntKind.u8 0, Value.int IntKind.u8 0, Value.int IntKind.u8 0, Value.int IntKind.u8 0, Value.int IntKind.u8 0, Value.int IntKind.u8 0, Value.int IntKind.u8 0, Value.int IntKind.u8 0, Value.int IntKind.u8 0, Value.int IntKind.u8 0, Value.int IntKind.u8 0, Value.int IntKind.u8 0, Value.int IntKind.u8 0, Value.int IntKind.u8 0, Value.int IntKind.u8 0, Value.slice none 0 0, Value.float FloatKind.f64 0, Value.string ⟨#[]⟩])
  have HB0 := Lib.hid ((Below.refl w.heap.size w).alloc (Nat.le_refl _) (.cells #[Value.int IntKind.i64 0, Value.string ⟨#[]⟩, Value.slice none 0 0, Value.int IntKind.u8 0, Value.int IntKind.u8 0, Value.int IntKind.u8 0, Value.int IntKind.u8 0, Value.int IntKind.u8 0, Value.int IntKind.u8 0, Value.int IntKind.u8 0, Value.int IntKind.u8 0, Value.int IntKind.u8 0, Value.int IntKind.u8 0, Value.int IntKind.u8 0, Value.int IntKind.u8 0, Value.int IntKind.u8 0, Value.int IntKind.u8 0, Value.int IntKind.u8 0, Value.int IntKind.u8 0, Value.int IntKind.u8 0, Value.int IntKind.u8 0, Value.int IntKind.u8 0, Value.int IntKind.u8 0, Value.int IntKind.u8 0, Value.int IntKind.u8 0, Value.int IntKind.u8 0, Value.int IntKind.u8 0, Value.int IntKind.u8 0, Value.int IntKind.u8 0, Value.int IntKind.u8 0, Value.int IntKind.u8 0, Value.int IntKind.u8 0, Value.int IntKind.u8 0, Value.int IntKind.u8 0, Value.int IntKind.u8 0, Value.slice none 0 0, Value.float FloatKind.f64 0, Value.string ⟨#[]⟩] 30))
  have hs0 : (w.alloc (.cells #[Value.int IntKind.i64 0, Value.string ⟨#[]⟩, Value.slice none 0 0, Value.int IntKind.u8 0, Value.int IntKind.u8 0, Value.int IntKind.u8 0, Value.int IntKind.u8 0, Value.int IntKind.u8 0, Value.int IntKind.u8 0, Value.int IntKind.u8 0, Value.int IntKind.u8 0, Value.int IntKind.u8 0, Value.int IntKind.u8 0, Value.int IntKind.u8 0, Value.int IntKind.u8 0, Value.int IntKind.u8 0, Value.int IntKind.u8 0, Value.int IntKind.u8 0, Value.int IntKind.u8 0, Value.int IntKind.u8 0, Value.int IntKind.u8 0, Value.int IntKind.u8 0, Value.int IntKind.u8 0, Value.int IntKind.u8 0, Value.int IntKind.u8 0, Value.int IntKind.u8 0, Value.int IntKind.u8 0, Value.int IntKind.u8 0, Value.int IntKind.u8 0, Value.int IntKind.u8 0, Value.int IntKind.u8 0, Value.int IntKind.u8 0, Value.int IntKind.u8 0, Value.int IntKind.u8 0, Value.int IntKind.u8 0, Value.slice none 0 0, Value.float FloatKind.f64 0, Value.string ⟨#[]⟩] 30)).heap.size = w.heap.size + 1 := by simp
  have HS0 := Lib.hid (infoO_s none 0 none 0 ⟨k, [], [], noC⟩)
  have HA0 := Lib.hid (encO_all none 0 none 0 ⟨k, [], [], noC⟩)
  have HZ0 : Hid (#[Value.int IntKind.i64 0, Value.string ⟨#[]⟩, Value.slice none 0 0, Value.int IntKind.u8 0, Value.int IntKind.u8 0, Value.int IntKind.u8 0, Value.int IntKind.u8 0, Value.int IntKind.u8 0, Value.int IntKind.u8 0, Value.int IntKind.u8 0, Value.int IntKind.u8 0, Value.int IntKind.u8 0, Value.int IntKind.u8 0, Value.int IntKind.u8 0, Value.int IntKind.u8 0, Value.int IntKind.u8 0, Value.int IntKind.u8 0, Value.int IntKind.u8 0, Value.int IntKind.u8 0, Value.int IntKind.u8 0, Value.int IntKind.u8 0, Value.int IntKind.u8 0, Value.int IntKind.u8 0, Value.int IntKind.u8 0, Value.int IntKind.u8 0, Value.int IntKind.u8 0, Value.int IntKind.u8 0, Value.int IntKind.u8 0, Value.int IntKind.u8 0, Value.int IntKind.u8 0, Value.int IntKind.u8 0, Value.int IntKind.u8 0, Value.int IntKind.u8 0, Value.int IntKind.u8 0, Value.int IntKind.u8 0, Value.slice none 0 0, Value.float FloatKind.f64 0, Value.string ⟨#[]⟩].size = (encO none 0 none 0 ⟨k, [], [], noC⟩).toArray.size) := rfl
  have HZZ : Hid (#[Value.int IntKind.i64 0, Value.string ⟨#[]⟩, Value.slice none 0 0, Value.int IntKind.u8 0, Value.int IntKind.u8 0, Value.int IntKind.u8 0, Value.int IntKind.u8 0, Value.int IntKind.u8 0, Value.int IntKind.u8 0, Value.int IntKind.u8 0, Value.int IntKind.u8 0, Value.int IntKind.u8 0, Value.int IntKind.u8 0, Value.int IntKind.u8 0, Value.int IntKind.u8 0, Value.int IntKind.u8 0, Value.int IntKind.u8 0, Value.int IntKind.u8 0, Value.int IntKind.u8 0, Value.int IntKind.u8 0, Value.int IntKind.u8 0, Value.int IntKind.u8 0, Value.int IntKind.u8 0, Value.int IntKind.u8 0, Value.int IntKind.u8 0, Value.int IntKind.u8 0, Value.int IntKind.u8 0, Value.int IntKind.u8 0, Value.int IntKind.u8 0, Value.int IntKind.u8 0, Value.int IntKind.u8 0, Value.int IntKind.u8 0, Value.int IntKind.u8 0, Value.int IntKind.u8 0, Value.int IntKind.u8 0, Value.slice none 0 0, Value.float FloatKind.f64 0, Value.string ⟨#[]⟩].size = 38) := rfl
  have HQ : Hid (getOb k s = (if k = 1 then (if s.length ≤ 1000 then (⟨1, s, [], noC⟩, 0) else (zO, 5))
  else if k = 2 then (match getT s with | some es => (⟨2, [], es, noC⟩, 0) | none => (zO, 1))
  else if k = 3 then (match readC s with | some x => (⟨3, [], [], x⟩, 0) | none => (zO, 1))
  else (zO, 1) : Ob × Int)) := rfl
  have HL := Lib.hid hl
  clear hl
  subst h2
  go_enter Tryz.func14, Tryz.ntmps14
  go_upto_region 1 with fail
  have HSI := Lib.hid hs0
  clear hs0
  generalize (w.alloc (.cells #[Value.int IntKind.i64 0, Value.string ⟨#[]⟩, Value.slice none 0 0, Value.int IntKind.u8 0, Value.int IntKind.u8 0, Value.int IntKind.u8 0, Value.int IntKind.u8 0, Value.int IntKind.u8 0, Value.int IntKind.u8 0, Value.int IntKind.u8 0, Value.int IntKind.u8 0, Value.int IntKind.u8 0, Value.int IntKind.u8 0, Value.int IntKind.u8 0, Value.int IntKind.u8 0, Value.int IntKind.u8 0, Value.int IntKind.u8 0, Value.int IntKind.u8 0, Value.int IntKind.u8 0, Value.int IntKind.u8 0, Value.int IntKind.u8 0, Value.int IntKind.u8 0, Value.int IntKind.u8 0, Value.int IntKind.u8 0, Value.int IntKind.u8 0, Value.int IntKind.u8 0, Value.int IntKind.u8 0, Value.int IntKind.u8 0, Value.int IntKind.u8 0, Value.int IntKind.u8 0, Value.int IntKind.u8 0, Value.int IntKind.u8 0, Value.int IntKind.u8 0, Value.int IntKind.u8 0, Value.int IntKind.u8 0, Value.slice none 0 0, Value.float FloatKind.f64 0, Value.string ⟨#[]⟩] 30)) = w0 at *
  go_wp2_with (refine wpList_store_whole rfl 30 _ _ rfl w0.heap.size (encO none 0 none 0 ⟨2, [], [], noC⟩).toArray rfl rfl 30 _ (Whole.made w0 _ _) HS0.out HZ0.out HA0.out ?_; intro w1 hWn hGn; have HW1 := Lib.hid hWn; have HG1 := Lib.hid hGn; clear hWn hGn)
  have HR1 := Lib.hid ((HW0.out.past (.cells #[Value.int IntKind.i64 0, Value.string ⟨#[]⟩, Value.slice none 0 0, Value.int IntKind.u8 0, Value.int IntKind.u8 0, Value.int IntKind.u8 0, Value.int IntKind.u8 0, Value.int IntKind.u8 0, Value.int IntKind.u8 0, Value.int IntKind.u8 0, Value.int IntKind.u8 0, Value.int IntKind.u8 0, Value.int IntKind.u8 0, Value.int IntKind.u8 0, Value.int IntKind.u8 0, Value.int IntKind.u8 0, Value.int IntKind.u8 0, Value.int IntKind.u8 0, Value.int IntKind.u8 0, Value.int IntKind.u8 0, Value.int IntKind.u8 0, Value.int IntKind.u8 0, Value.int IntKind.u8 0, Value.int IntKind.u8 0, Value.int IntKind.u8 0, Value.int IntKind.u8 0, Value.int IntKind.u8 0, Value.int IntKind.u8 0, Value.int IntKind.u8 0, Value.int IntKind.u8 0, Value.int IntKind.u8 0, Value.int IntKind.u8 0, Value.int IntKind.u8 0, Value.int IntKind.u8 0, Value.int IntKind.u8 0, Value.slice none 0 0, Value.float FloatKind.f64 0, Value.string ⟨#[]⟩] 30)).grown HG1.out (fun e => by injection e with e; have := HSI.out; omega))
  have HB1 := Lib.hid (be_grown (HB0.out.alloc HB0.out.size (.cells #[Value.int IntKind.i64 0, Value.string ⟨#[]⟩, Value.slice none 0 0, Value.int IntKind.u8 0, Value.int IntKind.u8 0, Value.int IntKind.u8 0, Value.int IntKind.u8 0, Value.int IntKind.u8 0, Value.int IntKind.u8 0, Value.int IntKind.u8 0, Value.int IntKind.u8 0, Value.int IntKind.u8 0, Value.int IntKind.u8 0, Value.int IntKind.u8 0, Value.int IntKind.u8 0, Value.int IntKind.u8 0, Value.int IntKind.u8 0, Value.int IntKind.u8 0, Value.int IntKind.u8 0, Value.int IntKind.u8 0, Value.int IntKind.u8 0, Value.int IntKind.u8 0, Value.int IntKind.u8 0, Value.int IntKind.u8 0, Value.int IntKind.u8 0, Value.int IntKind.u8 0, Value.int IntKind.u8 0, Value.int IntKind.u8 0, Value.int IntKind.u8 0, Value.int IntKind.u8 0, Value.int IntKind.u8 0, Value.int IntKind.u8 0, Value.int IntKind.u8 0, Value.int IntKind.u8 0, Value.int IntKind.u8 0, Value.slice none 0 0, Value.float FloatKind.f64 0, Value.string ⟨#[]⟩] 30)) HG1.out (by have := HB0.out.size; simp; omega) (fun j hj => by injection hj with hj; have := HSI.out; omega))
  have hlt1 : w0.heap.size < w1.heap.size := HW1.out.lt
  have hlt0 : w.heap.size < w0.heap.size := by have := HSI.out; omega
  refine (tgetO_any s w1 (by have := HL.out; omega)).mono ?_
  rintro e w2 ⟨(⟨es, A, c, hgt, rfl, har, hnb⟩ | ⟨hgt, rfl⟩), hb⟩
  · have HGO : Hid (getOb 2 s = (⟨2, [], es, noC⟩, 0)) := by show _ = _; rw [HQ.out, if_neg (by decide), if_pos (by trivial), hgt]
    have HB2 := Lib.hid (HB1.out.trans (hb.mono HB1.out.size))
    have HW2 := Lib.hid (HW1.out.below hb hlt1)
    have HR2 := Lib.hid (HR1.out.below hb (by omega))
    have hlt2 : w0.heap.size < w2.heap.size := HW2.out.lt
    have HAR := Lib.hid har
    have HNB := Lib.hid hnb.1
    have HOB := Lib.hid hnb.2
    clear hb har hnb hgt
    have e1 := (HW2.out.at_ 2).trans (encO_2 none 0 none 0 ⟨2, [], [], noC⟩)
    have f1 := HW2.out.thawed 2
    have hw3 := HW2.out.put 2 (.slice A es.length c)
    rw [encO_set2] at hw3
    have HW3 := Lib.hid hw3
    have HR3 := Lib.hid (HR2.out.aside (p := ⟨w0.heap.size, 2, none⟩) (by simp; omega) (.slice A es.length c))
    have HB3 := Lib.hid (HB2.out.setCell (p := ⟨w0.heap.size, 2, none⟩) (by simp; omega) (.slice A es.length c))
    clear hw3
    have HAR3 := Lib.hid (HAR.out.grown (gr_set (a := w2) (w := w2) (row := some w0.heap.size) (gr_refl _ _) (p := ⟨w0.heap.size, 2, none⟩) (.inl rfl) (.slice A es.length c)) (fun j hj _ e => by injection e with e; have := HNB.out j hj; omega))
    have HOB3 := Lib.hid (HOB.out.set w0.heap.size 2 (.slice A es.length c))
    have HXS := Lib.hid (infoO_s A c none 0 ⟨2, [], es, noC⟩)
    have HAX := Lib.hid (encO_all A c none 0 ⟨2, [], es, noC⟩)
    have HSX := Lib.hid (encO_s A c none 0 ⟨2, [], es, noC⟩)
    generalize hcs : (encO A c none 0 ⟨2, [], es, noC⟩).toArray = cs at *
    go_wp2_with (first
      | (refine wpList_load_row rfl 30 _ rfl w0.heap.size rfl 30 cs (0, 0) _ HW3.out Tryz.underlying30 rfl HXS.out ?_)
      | (refine wpList_store_whole rfl 30 _ _ rfl w.heap.size cs rfl rfl 30 _ HR3.out HXS.out (by rw [HSX.out]; rfl) HAX.out ?_; intro w9 hWn hGn; have HW9 := Lib.hid hWn; have HG9 := Lib.hid hGn; clear hWn hGn))
    have HB9 := Lib.hid (be_grown HB3.out HG9.out HB3.out.size (fun j hj => by injection hj with hj; omega))
    refine bodyPost_ret (v := .tuple #[.agg cs, .int .i64 0]) (results_orow rfl _ _ _ w.heap.size _ cs rfl rfl HW9.out HXS.out) rfl ⟨⟨A, c, none, 0, by rw [HGO.out, hcs], by rw [HGO.out]; exact ⟨HAR3.out.grown HG9.out (fun j hj _ e => by injection e with e; have := HNB.out j hj; omega), (argO_zero 2 [] w9).2⟩, ⟨fun j hj => by have := HNB.out j hj; omega, HOB3.out.grown HG9.out (fun j hj e => by injection e with e; have := HNB.out j hj; omega)⟩, Own2.nil _ _⟩, HB9.out⟩
  · have HGO : Hid (getOb 2 s = (zO, 1)) := by show _ = _; rw [HQ.out, if_neg (by decide), if_pos (by trivial), hgt]
    have HB2 := Lib.hid (HB1.out.trans (hb.mono HB1.out.size))
    have HW2 := Lib.hid (HW1.out.below hb hlt1)
    have HR2 := Lib.hid (HR1.out.below hb (by omega))
    have hlt2 : w0.heap.size < w2.heap.size := HW2.out.lt
    clear hb hgt
    have e1 := (HW2.out.at_ 2).trans (encO_2 none 0 none 0 ⟨2, [], [], noC⟩)
    have f1 := HW2.out.thawed 2
    have hw3 := HW2.out.put 2 (.slice none ([] : List En).length 0)
    rw [encO_set2] at hw3
    have HW3 := Lib.hid hw3
    have HR3 := Lib.hid (HR2.out.aside (p := ⟨w0.heap.size, 2, none⟩) (by simp; omega) (.slice none ([] : List En).length 0))
    have HB3 := Lib.hid (HB2.out.setCell (p := ⟨w0.heap.size, 2, none⟩) (by simp; omega) (.slice none ([] : List En).length 0))
    clear hw3
    have hzb := zO_build
    have HXS := Lib.hid (infoO_s none 0 none 0 zO)
    have HAX := Lib.hid (encO_all none 0 none 0 zO)
    go_wp2_with (refine wpList_store_whole rfl 30 _ _ rfl w.heap.size (encO none 0 none 0 zO).toArray rfl rfl 30 _ HR3.out HXS.out rfl HAX.out ?_; intro w9 hWn hGn; have HW9 := Lib.hid hWn; have HG9 := Lib.hid hGn; clear hWn hGn)
    have HB9 := Lib.hid (be_grown HB3.out HG9.out HB3.out.size (fun j hj => by injection hj with hj; omega))
    refine bodyPost_ret (v := .tuple #[.agg (encO none 0 none 0 zO).toArray, .int .i64 1]) (results_orow rfl _ _ _ w.heap.size _ _ rfl rfl HW9.out HXS.out) rfl ⟨⟨none, 0, none, 0, by rw [HGO.out], by rw [HGO.out]; exact argO_zero 0 [] w9, Own2.nil _ _, Own2.nil _ _⟩, HB9.out⟩
end Go.Proofs.YtfaijkgfhdhhbaaGreatDoor

/-
  oid.Of, walked, whatever its word and its digits are; the words of trees and commits.
-/
import Derived.Test.YtjoinnjhpfakpaaGreatDoorOidA
namespace Go.Proofs.YtjoinnjhpfakpaaGreatDoor
open Go.RowKit

set_option maxRecDepth 100000 in
set_option maxHeartbeats 2000000 in
theorem of_within (kind : Int) (kw dec body : List UInt8) (w : World) (hTab : Tabs w) (hw : ∀ W, Calls Tryz.prog 166 #[.int .i64 kind] W fun e w' => e = .returned (.string ⟨kw.toArray⟩) ∧ W = w')
    (hd : ∀ W, Below w.heap.size w W → Calls Tryz.prog 167 #[.int .i64 (body.length : Int)] W fun e w' => e = .returned (.string ⟨dec.toArray⟩) ∧ Below W.heap.size W w') (hlen : kw.length + dec.length + body.length < 2 ^ 40) :
    Calls Tryz.prog 112 #[.int .i64 kind, .string ⟨body.toArray⟩] w fun e w' => e = .returned (.agg ((ShaM.sha (kw ++ [32] ++ dec ++ [0] ++ body)).map Y).toArray) ∧ Below w.heap.size w w' := by
  have hl1 := hTab.lt1
  have hl2 := hTab.lt2
  have HTab := Lib.hid hTab
  have HW := Lib.hid hw
  have HD := Lib.hid hd
  obtain ⟨L, hL⟩ : ∃ L, L = kw ++ [32] ++ dec ++ [0] := ⟨_, rfl⟩
  have hpre : L.length < 2 ^ 41 := by rw [hL]; simp; omega
  have hpre2 : L.length + body.length < 2 ^ 42 := by omega
  have HL := Lib.hid hL
  clear hTab hw hd hL
  go_enter Tryz.func112, Tryz.ntmps112
  go_wp2_with fail
  refine (new_any _).mono ?_
  rintro e w1 ⟨rfl, hB1, hH1, hs1⟩
  have hs1' : w1.heap.size = w.heap.size + 2 := by rw [hs1]; simp
  have HB1 := Lib.hid (((Below.refl w.heap.size w).alloc (Nat.le_refl _) _).trans (hB1.mono (by simp)))
  have HH1 : Hid (HashAt w1 (w.heap.size + 1) 201 []) := by show HashAt _ _ _ _; simpa using hH1
  obtain ⟨z, hz, hZ⟩ : ∃ z : Array Value, z.size = 32 ∧ Whole w1 w.heap.size 50 z := ⟨_, rfl, (Whole.made w _ _).below hB1 (by simp)⟩
  have HZ := Lib.hid hz
  have HZ1 := Lib.hid hZ
  clear hB1 hH1 hs1 hz hZ
  go_wp2_with fail
  refine (HW.out _).mono ?_
  rintro e w2 ⟨rfl, rfl⟩
  go_wp2_with fail
  refine (HD.out _ HB1.out).mono ?_
  rintro e w3 ⟨rfl, hB3⟩
  have HB3 := Lib.hid hB3
  have hs3 := hB3.size
  clear hB3
  go_wp2_with (refine wpList_of_string rfl 9 97 5 (.tmp 15) rfl _ L rfl (by rw [HL.out, ← ba_append, ← ba_append, ← ba_append]) Tryz.underlying9 Tryz.underlying97 Tryz.underlying5 (by unfold maxLen; omega) ?_; intro w4 c hby hfz hB4 hs4; have HBY := Lib.hid hby; have HB4 := Lib.hid hB4; clear hby hfz hB4)
  have HB04 : Hid (Below w.heap.size w w4) := (HB1.out.trans (HB3.out.mono (by omega))).trans (HB4.out.mono (by omega))
  have HB14 : Hid (Below w1.heap.size w1 w4) := HB3.out.trans (HB4.out.mono (by omega))
  refine (put_any (w.heap.size + 1) 201 _ [] L w4 (HTab.out.below HB04.out hl1 hl2) (by omega) (by omega) (HH1.out.below HB14.out (by omega)) (by simp) HBY.out (fun _ h => by injection h with h; dsimp only at h; omega)).mono ?_
  rintro e w5 ⟨rfl, hG5, hH5⟩
  rw [List.nil_append] at hH5
  have HH5 := Lib.hid hH5
  have HB5 := Lib.hid (be_grown HB04.out hG5 HB04.out.size (fun j hj => by injection hj with hj; omega))
  have HZ5 := Lib.hid ((HZ1.out.below HB14.out (by omega)).grown hG5 (by simp))
  have hs5 := hG5.size
  clear hG5 hH5
  go_wp2_with (refine wpList_of_string rfl 9 97 5 (.tmp 19) rfl _ body rfl rfl Tryz.underlying9 Tryz.underlying97 Tryz.underlying5 (by unfold maxLen; omega) ?_; intro w6 c6 hby hfz hB6 hs6; have HBY6 := Lib.hid hby; have HB6 := Lib.hid hB6; clear hby hfz hB6)
  have HB06 : Hid (Below w.heap.size w w6) := HB5.out.trans (HB6.out.mono (by omega))
  refine (put_any (w.heap.size + 1) 201 _ L body w6 (HTab.out.below HB06.out hl1 hl2) (by omega) (by omega) (HH5.out.below HB6.out (by omega)) (by omega) HBY6.out (fun _ h => by injection h with h; dsimp only at h; omega)).mono ?_
  rintro e w7 ⟨rfl, hG7, hH7⟩
  have HH7 := Lib.hid hH7
  have HB7 := Lib.hid (be_grown HB06.out hG7 HB06.out.size (fun j hj => by injection hj with hj; omega))
  have HZ7 := Lib.hid ((HZ5.out.below HB6.out (by omega)).grown hG7 (by simp))
  have hs7 := hG7.size
  clear hG7 hH7
  go_wp2_with fail
  refine (hsum_any (w.heap.size + 1) _ _ w7 (HTab.out.below HB7.out hl1 hl2) HH7.out (by rw [List.length_append]; omega)).mono ?_
  rintro e w8 ⟨rfl, hB8⟩
  obtain ⟨oc, hoc⟩ : ∃ oc, oc = ((ShaM.sha (L ++ body)).map Y).toArray := ⟨_, rfl⟩
  rw [← hoc]
  have hos : oc.size = 32 := by rw [hoc, List.size_toArray, List.length_map]; rfl
  have HOI : Hid ((Tryz.prog.info? 50).map (·.size) = some oc.size) := by show _ = _; rw [hos]; kernel_rfl
  have HO1 : Hid (oc.all (·.oneCell') = true) := by show _ = _; rw [hoc]; exact ys_all _
  have HOS : Hid (z.size = oc.size) := by show _ = _; rw [hos, HZ.out]
  have HZ8 := Lib.hid (HZ7.out.below hB8 (by omega))
  have HB8 := Lib.hid (HB7.out.trans (hB8.mono (by omega)))
  have HOC := Lib.hid hoc
  clear hoc hos hB8
  go_wp2_with (refine wpList_store_whole rfl 50 _ _ rfl w.heap.size oc rfl rfl 50 z HZ8.out HOI.out HOS.out HO1.out ?_; intro w9 hW9 hG9; have HW9 := Lib.hid hW9; have HB9 := Lib.hid (be_grown HB8.out hG9 HB8.out.size (fun j hj => by injection hj with hj; omega)); clear hW9 hG9)
  refine bodyPost_ret (v := .agg oc) ?_ rfl ⟨by rw [HOC.out, HL.out], HB9.out⟩
  exact results_cell_row (p := 4) (ty := 50) rfl _ _ w.heap.size 50 oc (0, 0) _ rfl HW9.out Tryz.underlying50 rfl HOI.out
theorem word_2 (w : World) : Calls Tryz.prog 166 #[.int .i64 2] w fun e w' => e = .returned (.string ⟨#[116, 114, 101, 101]⟩) ∧ w = w' := by
  go_enter Tryz.func166, Tryz.ntmps166
  go_wp2
  go_ret
  exact ⟨rfl, rfl⟩
theorem word_3 (w : World) : Calls Tryz.prog 166 #[.int .i64 3] w fun e w' => e = .returned (.string ⟨#[99, 111, 109, 109, 105, 116]⟩) ∧ w = w' := by
  go_enter Tryz.func166, Tryz.ntmps166
  go_wp2
  go_ret
  exact ⟨rfl, rfl⟩
end Go.Proofs.YtjoinnjhpfakpaaGreatDoor

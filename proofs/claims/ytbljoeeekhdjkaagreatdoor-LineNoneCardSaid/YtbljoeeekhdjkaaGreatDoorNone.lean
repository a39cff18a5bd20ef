/-
  LineNone, walked.
-/
import Derived.Test.YtbljoeeekhdjkaaGreatDoorNoneA
import Derived.Test.YtbljoeeekhdjkaaGreatDoorNoneB
import Derived.Test.YtbljoeeekhdjkaaGreatDoorGuaB
import Derived.Test.YtbljoeeekhdjkaaGreatDoorLinE
import Derived.Test.YtbljoeeekhdjkaaGreatDoorLineP
import Derived.Test.YtbljoeeekhdjkaaGreatDoorWhenC
import Derived.Test.YtbljoeeekhdjkaaGreatDoorWhenD
import Derived.Test.YtbljoeeekhdjkaaGreatDoorEql
import Derived.Test.YtbljoeeekhdjkaaGreatDoorWAll
namespace Go.Proofs.YtbljoeeekhdjkaaGreatDoor
open Go.RowKit

theorem non1_enters (caps : Array Value) (W : World) : (callFunc 70 caps).run Tryz.prog W = .ok (.enter 70 caps) W := enters_of Tryz.func70 (by kernel_rfl) rfl _ _
theorem non2_enters (caps : Array Value) (W : World) : (callFunc 71 caps).run Tryz.prog W = .ok (.enter 71 caps) W := enters_of Tryz.func71 (by kernel_rfl) rfl _ _
theorem non1_any (b t : Nat) (W : World) (h : Whole W b t #[.pointer none]) : Calls Tryz.prog 70 #[.pointer (some ⟨b, 0, none⟩)] W fun e w' => e = .panicked (fault 2) ∧ W = w' := by
  have hc : W.cell? ⟨b, 0, none⟩ = some (.pointer none) := (h.at_ 0).trans rfl
  clear h
  go_enter Tryz.func70, Tryz.ntmps70
  go_wp2_with fail
  refine (byte_nil _).mono ?_
  rintro e w' ⟨rfl, rfl⟩
  exact ⟨rfl, rfl, rfl⟩
theorem non2_any (b t : Nat) (W : World) (h : Whole W b t #[.pointer none]) : Calls Tryz.prog 71 #[.pointer (some ⟨b, 0, none⟩)] W fun e w' => e = .returned (.tuple #[]) ∧ Below W.heap.size W w' := by
  have hc : W.cell? ⟨b, 0, none⟩ = some (.pointer none) := (h.at_ 0).trans rfl
  clear h
  go_enter Tryz.func71, Tryz.ntmps71
  go_wp2_with fail
  refine (bytes_nil0 _).mono ?_
  rintro e w' ⟨⟨A, c, rfl⟩, hB⟩
  have HB := Lib.hid hB
  clear hB
  go_wp2
  exact bodyPost_end (results_none rfl _ _ _) rfl ⟨rfl, HB.out⟩
theorem none_inf (w : World) : Calls Tryz.prog 73 #[.int .i64 1] w fun e w' => e = .returned (.float .f64 9218868437227405312) ∧ w = w' := by
  have h3 := frombits_run 9218868437227405312
  rw [show ((9218868437227405312 : Nat) : Int) = 9218868437227405312 from rfl] at h3
  go_enter Tryz.func73, Tryz.ntmps73
  go_wp2
  go_ret
  exact ⟨rfl, rfl⟩
theorem none_put (w : World) : Calls Tryz.prog 42 #[.float .f64 9218868437227405312] w fun e w' => e = .returned (.string ⟨#[]⟩) ∧ Below w.heap.size w w' := by
  have h := wput_any 9218868437227405312 w (by decide)
  rw [show putV 9218868437227405312 = [] by decide] at h
  exact h
theorem nil_bytes (w : World) : Bytes w (.slice none 0 0) [] := ⟨none, 0, rfl, Nat.le_refl _, by unfold maxLen; decide, fun h => absurd h (by decide)⟩
set_option maxRecDepth 100000 in
set_option maxHeartbeats 4000000 in
theorem none_any (w : World) (hE : Env w) : Calls Tryz.prog 12 #[] w fun e w' => e = .returned (.bool true) ∧ Below w.heap.size w w' := by
  have hmf : ∀ (fn : Fn) (first cap : Array Value) (w : World), (Instr.makeFunc fn first cap).run Tryz.prog w = .ok (.func fn first cap) w := fun _ _ _ _ => rfl
  have HE := Lib.hid hE
  clear hE
  go_enter Tryz.func12, Tryz.ntmps12
  have hcv := Lib.run_convert_bytes_const (P := Tryz.prog) (w.alloc (.cells #[.pointer none] 40)) 22 5 #[.int .u8 120] 1 1 Tryz.underlying22 Tryz.underlying5
  have hsz0 : (w.alloc (.cells #[.pointer none] 40)).heap.size = w.heap.size + 1 := by simp
  rw [hsz0] at hcv
  go_wp2_with fail
  clear hcv hsz0
  refine (put_nil _ _).mono ?_
  rintro e w' ⟨rfl, rfl⟩
  have hP0 := (Whole.made w 40 #[.pointer none]).past (.cells #[.int .u8 120] 5 (1, 2))
  have hB0 := ((Below.refl w.heap.size w).alloc (Nat.le_refl _) (.cells #[.pointer none] 40)).alloc (by simp) (.cells #[.int .u8 120] 5 (1, 2))
  generalize (w.alloc (.cells #[.pointer none] 40)).alloc (.cells #[.int .u8 120] 5 (1, 2)) = W at *
  go_wp2_with fail
  refine (do_fault_q 70 _ W (fun _ => False) (fun _ => True) 2 (non1_enters _) (fun h => h) (fun _ _ _ _ _ => trivial) ((non1_any w.heap.size _ _ (hP0.past _)).mono ?_)).mono ?_
  · rintro e w' ⟨rfl, rfl⟩
    exact ⟨rfl, Alt.refl _ _, trivial⟩
  rintro e w2 ⟨rfl, hA, -⟩
  have HP2 := Lib.hid (hP0.alt hA (fun h => h))
  have HB2 := Lib.hid (hB0.trans (hA.none.mono hB0.size))
  clear hA hP0 hB0
  go_wp2_with fail
  refine (do_ret_q 71 _ w2 (fun _ => False) (fun _ => True) (non2_enters _) (fun h => h) (fun _ _ _ _ _ => trivial) ((non2_any w.heap.size _ _ (HP2.out.past _)).mono ?_)).mono ?_
  · rintro e w' ⟨rfl, hB⟩
    exact ⟨rfl, Alt.of_below hB, trivial⟩
  rintro e w3 ⟨rfl, hA, -⟩
  have hP3 := HP2.out.alt hA (fun h => h)
  have HB3 := Lib.hid (HB2.out.trans (hA.none.mono HB2.out.size))
  clear hA
  go_wp2_with fail
  refine (get_bad [] 2 _ (by rfl)).mono ?_
  rintro e w4 ⟨rfl, hB⟩
  have HB4 := Lib.hid (HB3.out.trans (hB.mono HB3.out.size))
  have HP4 := Lib.hid (hP3.below hB hP3.lt)
  clear hB hP3
  go_wp2_with fail
  refine (lput_bad [] _ (.inl rfl)).mono ?_
  rintro e w' ⟨rfl, rfl⟩
  go_wp2_with fail
  refine (wget_len [] _ (by decide)).mono ?_
  rintro e w' ⟨rfl, rfl⟩
  go_wp2_with fail
  refine (size_bad [] _ _ _ _ _ _ (by decide) (HE.out.at_ HB4.out).mx rfl rfl (by decide) (by decide)).mono ?_
  rintro e w5 ⟨rfl, hB⟩
  have HB5 := Lib.hid (HB4.out.trans (hB.mono HB4.out.size))
  have HP5 := Lib.hid (HP4.out.below hB HP4.out.lt)
  clear hB
  go_wp2_with fail
  refine (oget_nil _).mono ?_
  rintro e w6 ⟨⟨A, hA, h1, rfl⟩, hB⟩
  have HB6 := Lib.hid (HB5.out.trans (hB.mono HB5.out.size))
  have HP6 := Lib.hid (HP5.out.below hB HP5.out.lt)
  have HI : Hid ((Tryz.prog.info? 64).map (·.size) = some A.size) := by show _ = _; rw [hA]; kernel_rfl
  have HS := Lib.hid hA
  have H1 := Lib.hid h1
  clear hB hA h1
  go_wp2_with (refine wpList_store_whole rfl 64 _ _ rfl w6.heap.size A rfl rfl 64 _ (Whole.made w6 _ _) HI.out (by rw [HS.out]; kernel_rfl) H1.out ?_; intro w7 hW7 hG7; have HB67 := Lib.hid (be_grown ((Below.refl w6.heap.size w6).alloc (Nat.le_refl _) _) hG7 (by simp) (fun j hj => by injection hj with hj; omega)); clear hW7 hG7)
  have HB7 := Lib.hid (HB6.out.trans (HB67.out.mono HB6.out.size))
  have HP7 := Lib.hid (HP6.out.below HB67.out HP6.out.lt)
  clear HB67 HP6 HB6 HI HS H1
  have HSN : Hid (∀ W, Below w.heap.size w W → Calls Tryz.prog 18 #[.pointer none] W fun e w' => e = .returned (.agg ((ShaM.sha []).map Y).toArray) ∧ Below W.heap.size W w') := fun W hW => hsum_nil W (HE.out.at_ hW).tabs
  have HSS : Hid (∀ W, Below w.heap.size w W → Calls Tryz.prog 20 #[.slice none 0 0] W fun e w' => e = .returned (.agg ((ShaM.sha []).map Y).toArray) ∧ Below W.heap.size W w') := fun W hW => sum_any _ [] W (HE.out.at_ hW).tabs (nil_bytes W) (by decide)
  have hl : (ShaM.sha []).length = 32 := by rfl
  have heq : ∀ W, (binOp .eql 28 (.agg ((ShaM.sha []).map Y).toArray) (.agg ((ShaM.sha []).map Y).toArray)).run Tryz.prog W = .ok (.bool true) W := by
    intro W
    rw [eql_bytes 28 32 Tryz.underlying28 _ _ hl hl W]
    simp
  clear hl
  generalize ((ShaM.sha []).map Y).toArray = dg at *
  refine (begun_any _ (HE.out.at_ HB7.out)).mono ?_
  rintro e w8 ⟨rfl, hB⟩
  have HB8 := Lib.hid (HB7.out.trans (hB.mono HB7.out.size))
  have HP8 := Lib.hid (HP7.out.below hB HP7.out.lt)
  clear hB
  go_wp2_with fail
  refine (HSN.out _ HB8.out).mono ?_
  rintro e w9 ⟨rfl, hB⟩
  have HB9 := Lib.hid (HB8.out.trans (hB.mono HB8.out.size))
  have HP9 := Lib.hid (HP8.out.below hB HP8.out.lt)
  clear hB
  go_wp2_with fail
  refine (HSS.out _ HB9.out).mono ?_
  rintro e w10 ⟨rfl, hB⟩
  have HB10 := Lib.hid (HB9.out.trans (hB.mono HB9.out.size))
  have HP10 := Lib.hid (HP9.out.below hB HP9.out.lt)
  have c10 : w10.cell? ⟨w.heap.size, 0, none⟩ = some (.pointer none) := (HP10.out.at_ 0).trans rfl
  clear hB
  go_wp2_with fail
  refine (left_nil _).mono ?_
  rintro e w' ⟨rfl, rfl⟩
  go_wp2_with fail
  refine (osort_nil _).mono ?_
  rintro e w11 ⟨rfl, hB⟩
  have HB11 := Lib.hid (HB10.out.trans (hB.mono HB10.out.size))
  clear hB c10
  go_wp2_with fail
  refine (flush_any _).mono ?_
  rintro e w' ⟨rfl, rfl⟩
  go_wp2_with fail
  refine (delim_any _).mono ?_
  rintro e w' ⟨rfl, rfl⟩
  go_wp2_with fail
  refine (none_inf _).mono ?_
  rintro e w' ⟨rfl, rfl⟩
  go_wp2_with fail
  refine (none_put _).mono ?_
  rintro e w12 ⟨rfl, hB⟩
  have HB12 := Lib.hid (HB11.out.trans (hB.mono HB11.out.size))
  clear hB
  go_wp2
  go_ret
  exact ⟨rfl, HB12.out⟩
end Go.Proofs.YtbljoeeekhdjkaaGreatDoor

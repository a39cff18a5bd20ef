/-
  Law 6's begun, walked.
-/
import Derived.Test.YtfaijkgfhdhhbaaGreatDoorMgy
import Derived.Test.YtfaijkgfhdhhbaaGreatDoorBegB
import Derived.Test.YtfaijkgfhdhhbaaGreatDoorMgw
namespace Go.Proofs.YtfaijkgfhdhhbaaGreatDoor
open Go.RowKit

theorem begunL_any (w : World) (hE : Env w) : Calls Tryz.prog 27 #[] w fun e w' => e = .returned (.bool true) ∧ Below w.heap.size w w' := by
  have HE := Lib.hid hE
  clear hE
  go_enter Tryz.func27, Tryz.ntmps27
  go_wp2_with fail
  refine (begun_any _ HE.out).mono ?_
  rintro e w1 ⟨rfl, hB⟩
  have HB := Lib.hid hB
  clear hB
  go_wp2
  go_ret
  exact ⟨rfl, HB.out⟩
def csB : Array Value := #[Value.string ⟨#[97]⟩, Value.bool false, Value.int IntKind.u8 1, Value.int IntKind.u8 0, Value.int IntKind.u8 0, Value.int IntKind.u8 0, Value.int IntKind.u8 0, Value.int IntKind.u8 0, Value.int IntKind.u8 0, Value.int IntKind.u8 0, Value.int IntKind.u8 0, Value.int IntKind.u8 0, Value.int IntKind.u8 0, Value.int IntKind.u8 0, Value.int IntKind.u8 0, Value.int IntKind.u8 0, Value.int IntKind.u8 0, Value.int IntKind.u8 0, Value.int IntKind.u8 0, Value.int IntKind.u8 0, Value.int IntKind.u8 0, Value.int IntKind.u8 0, Value.int IntKind.u8 0, Value.int IntKind.u8 0, Value.int IntKind.u8 0, Value.int IntKind.u8 0, Value.int IntKind.u8 0, Value.int IntKind.u8 0, Value.int IntKind.u8 0, Value.int IntKind.u8 0, Value.int IntKind.u8 0, Value.int IntKind.u8 0, Value.int IntKind.u8 0, Value.int IntKind.u8 0, Value.string ⟨#[98]⟩, Value.bool true, Value.int IntKind.u8 2, Value.int IntKind.u8 0, Value.int IntKind.u8 0, Value.int IntKind.u8 0, Value.int IntKind.u8 0, Value.int IntKind.u8 0, Value.int IntKind.u8 0, Value.int IntKind.u8 0, Value.int IntKind.u8 0, Value.int IntKind.u8 0, Value.int IntKind.u8 0, Value.int IntKind.u8 0, Value.int IntKind.u8 0, Value.int IntKind.u8 0, Value.int IntKind.u8 0, Value.int IntKind.u8 0, Value.int IntKind.u8 0, Value.int IntKind.u8 0, Value.int IntKind.u8 0, Value.int IntKind.u8 0, Value.int IntKind.u8 0, Value.int IntKind.u8 0, Value.int IntKind.u8 0, Value.int IntKind.u8 0, Value.int IntKind.u8 0, Value.int IntKind.u8 0, Value.int IntKind.u8 0, Value.int IntKind.u8 0, Value.int IntKind.u8 0, Value.int IntKind.u8 0, Value.int IntKind.u8 0, Value.int IntKind.u8 0]
theorem csB_eq : csB = (esB.flatMap encE).toArray := by kernel_rfl
attribute [local irreducible] TB SB idB eB cmB obB esB nOf
set_option maxRecDepth 100000 in
set_option maxHeartbeats 8000000 in
theorem begun6_any (w : World) (hE : Env w) (hT : Tens w) : Calls Tryz.prog 5 #[] w fun e w' => e = .returned (.bool true) ∧ Below w.heap.size w w' := by
  have HE := Lib.hid hE
  have HT := Lib.hid hT
  clear hE hT
  go_enter Tryz.func5, Tryz.ntmps5
  go_upto_region 2 with fail
  generalize Value.agg #[Value.int IntKind.u8 1, Value.int IntKind.u8 0, Value.int IntKind.u8 0, Value.int IntKind.u8 0, Value.int IntKind.u8 0, Value.int IntKind.u8 0, Value.int IntKind.u8 0, Value.int IntKind.u8 0, Value.int IntKind.u8 0, Value.int IntKind.u8 0, Value.int IntKind.u8 0, Value.int IntKind.u8 0, Value.int IntKind.u8 0, Value.int IntKind.u8 0, Value.int IntKind.u8 0, Value.int IntKind.u8 0, Value.int IntKind.u8 0, Value.int IntKind.u8 0, Value.int IntKind.u8 0, Value.int IntKind.u8 0, Value.int IntKind.u8 0, Value.int IntKind.u8 0, Value.int IntKind.u8 0, Value.int IntKind.u8 0, Value.int IntKind.u8 0, Value.int IntKind.u8 0, Value.int IntKind.u8 0, Value.int IntKind.u8 0, Value.int IntKind.u8 0, Value.int IntKind.u8 0, Value.int IntKind.u8 0, Value.int IntKind.u8 0] = vA1
  generalize Value.agg #[Value.string ⟨#[97]⟩, Value.bool false, Value.int IntKind.u8 1, Value.int IntKind.u8 0, Value.int IntKind.u8 0, Value.int IntKind.u8 0, Value.int IntKind.u8 0, Value.int IntKind.u8 0, Value.int IntKind.u8 0, Value.int IntKind.u8 0, Value.int IntKind.u8 0, Value.int IntKind.u8 0, Value.int IntKind.u8 0, Value.int IntKind.u8 0, Value.int IntKind.u8 0, Value.int IntKind.u8 0, Value.int IntKind.u8 0, Value.int IntKind.u8 0, Value.int IntKind.u8 0, Value.int IntKind.u8 0, Value.int IntKind.u8 0, Value.int IntKind.u8 0, Value.int IntKind.u8 0, Value.int IntKind.u8 0, Value.int IntKind.u8 0, Value.int IntKind.u8 0, Value.int IntKind.u8 0, Value.int IntKind.u8 0, Value.int IntKind.u8 0, Value.int IntKind.u8 0, Value.int IntKind.u8 0, Value.int IntKind.u8 0, Value.int IntKind.u8 0, Value.int IntKind.u8 0] = vA2
  generalize Value.agg #[Value.int IntKind.u8 2, Value.int IntKind.u8 0, Value.int IntKind.u8 0, Value.int IntKind.u8 0, Value.int IntKind.u8 0, Value.int IntKind.u8 0, Value.int IntKind.u8 0, Value.int IntKind.u8 0, Value.int IntKind.u8 0, Value.int IntKind.u8 0, Value.int IntKind.u8 0, Value.int IntKind.u8 0, Value.int IntKind.u8 0, Value.int IntKind.u8 0, Value.int IntKind.u8 0, Value.int IntKind.u8 0, Value.int IntKind.u8 0, Value.int IntKind.u8 0, Value.int IntKind.u8 0, Value.int IntKind.u8 0, Value.int IntKind.u8 0, Value.int IntKind.u8 0, Value.int IntKind.u8 0, Value.int IntKind.u8 0, Value.int IntKind.u8 0, Value.int IntKind.u8 0, Value.int IntKind.u8 0, Value.int IntKind.u8 0, Value.int IntKind.u8 0, Value.int IntKind.u8 0, Value.int IntKind.u8 0, Value.int IntKind.u8 0] = vA3
  generalize Value.agg #[Value.string ⟨#[98]⟩, Value.bool true, Value.int IntKind.u8 2, Value.int IntKind.u8 0, Value.int IntKind.u8 0, Value.int IntKind.u8 0, Value.int IntKind.u8 0, Value.int IntKind.u8 0, Value.int IntKind.u8 0, Value.int IntKind.u8 0, Value.int IntKind.u8 0, Value.int IntKind.u8 0, Value.int IntKind.u8 0, Value.int IntKind.u8 0, Value.int IntKind.u8 0, Value.int IntKind.u8 0, Value.int IntKind.u8 0, Value.int IntKind.u8 0, Value.int IntKind.u8 0, Value.int IntKind.u8 0, Value.int IntKind.u8 0, Value.int IntKind.u8 0, Value.int IntKind.u8 0, Value.int IntKind.u8 0, Value.int IntKind.u8 0, Value.int IntKind.u8 0, Value.int IntKind.u8 0, Value.int IntKind.u8 0, Value.int IntKind.u8 0, Value.int IntKind.u8 0, Value.int IntKind.u8 0, Value.int IntKind.u8 0, Value.int IntKind.u8 0, Value.int IntKind.u8 0] = vA4
  have hcs : (#[Value.string ⟨#[97]⟩, Value.bool false, Value.int IntKind.u8 1, Value.int IntKind.u8 0, Value.int IntKind.u8 0, Value.int IntKind.u8 0, Value.int IntKind.u8 0, Value.int IntKind.u8 0, Value.int IntKind.u8 0, Value.int IntKind.u8 0, Value.int IntKind.u8 0, Value.int IntKind.u8 0, Value.int IntKind.u8 0, Value.int IntKind.u8 0, Value.int IntKind.u8 0, Value.int IntKind.u8 0, Value.int IntKind.u8 0, Value.int IntKind.u8 0, Value.int IntKind.u8 0, Value.int IntKind.u8 0, Value.int IntKind.u8 0, Value.int IntKind.u8 0, Value.int IntKind.u8 0, Value.int IntKind.u8 0, Value.int IntKind.u8 0, Value.int IntKind.u8 0, Value.int IntKind.u8 0, Value.int IntKind.u8 0, Value.int IntKind.u8 0, Value.int IntKind.u8 0, Value.int IntKind.u8 0, Value.int IntKind.u8 0, Value.int IntKind.u8 0, Value.int IntKind.u8 0, Value.string ⟨#[98]⟩, Value.bool true, Value.int IntKind.u8 2, Value.int IntKind.u8 0, Value.int IntKind.u8 0, Value.int IntKind.u8 0, Value.int IntKind.u8 0, Value.int IntKind.u8 0, Value.int IntKind.u8 0, Value.int IntKind.u8 0, Value.int IntKind.u8 0, Value.int IntKind.u8 0, Value.int IntKind.u8 0, Value.int IntKind.u8 0, Value.int IntKind.u8 0, Value.int IntKind.u8 0, Value.int IntKind.u8 0, Value.int IntKind.u8 0, Value.int IntKind.u8 0, Value.int IntKind.u8 0, Value.int IntKind.u8 0, Value.int IntKind.u8 0, Value.int IntKind.u8 0, Value.int IntKind.u8 0, Value.int IntKind.u8 0, Value.int IntKind.u8 0, Value.int IntKind.u8 0, Value.int IntKind.u8 0, Value.int IntKind.u8 0, Value.int IntKind.u8 0, Value.int IntKind.u8 0, Value.int IntKind.u8 0, Value.int IntKind.u8 0, Value.int IntKind.u8 0] : Array Value) = (esB.flatMap encE).toArray := csB_eq
  rw [hcs]
  have hW0 := Whole.made w 49 (esB.flatMap encE).toArray
  have hb0 := (Below.refl w.heap.size w).alloc (Nat.le_refl _) (.cells (esB.flatMap encE).toArray 49)
  have HR0 := Lib.hid (whole_argB hW0)
  generalize w.alloc (.cells (esB.flatMap encE).toArray 49) = w0 at *
  have T0 := Lib.hid hb0
  clear hb0 hW0 hcs
  go_wp2_with fail
  refine (b_put _ w0 HR0.out).mono ?_
  rintro e w1 ⟨rfl, hb⟩
  have B1 := Lib.hid hb
  have T1 := Lib.hid (T0.out.trans (hb.mono T0.out.size))
  clear hb
  go_wp2_with fail
  refine (b_get w1).mono ?_
  rintro e w2 ⟨⟨A2, c2, rfl, hr⟩, hb⟩
  have HR2 := Lib.hid hr
  have B2 := Lib.hid hb
  have T2 := Lib.hid (T1.out.trans (hb.mono T1.out.size))
  clear hb hr
  go_upto_region 5 with (first
    | (refine wpList_store_whole rfl 28 _ _ rfl (w2.heap.size + 1) (ccB w2.heap.size) rfl rfl 28 _ (made_on _ _ _) (ccB_info _) (ccB_s _) (ccB_all _) ?_; intro w3 hWn hGn; have HW3 := Lib.hid hWn; have HG3 := Lib.hid hGn; clear hWn hGn))
  have H4 : Hid (Whole (w2.alloc (.cells #[Value.int IntKind.u8 4, Value.int IntKind.u8 0, Value.int IntKind.u8 0, Value.int IntKind.u8 0, Value.int IntKind.u8 0, Value.int IntKind.u8 0, Value.int IntKind.u8 0, Value.int IntKind.u8 0, Value.int IntKind.u8 0, Value.int IntKind.u8 0, Value.int IntKind.u8 0, Value.int IntKind.u8 0, Value.int IntKind.u8 0, Value.int IntKind.u8 0, Value.int IntKind.u8 0, Value.int IntKind.u8 0, Value.int IntKind.u8 0, Value.int IntKind.u8 0, Value.int IntKind.u8 0, Value.int IntKind.u8 0, Value.int IntKind.u8 0, Value.int IntKind.u8 0, Value.int IntKind.u8 0, Value.int IntKind.u8 0, Value.int IntKind.u8 0, Value.int IntKind.u8 0, Value.int IntKind.u8 0, Value.int IntKind.u8 0, Value.int IntKind.u8 0, Value.int IntKind.u8 0, Value.int IntKind.u8 0, Value.int IntKind.u8 0] 24)) w2.heap.size 24 n4B) := Whole.made w2 24 n4B
  generalize Value.agg #[Value.int IntKind.u8 3, Value.int IntKind.u8 0, Value.int IntKind.u8 0, Value.int IntKind.u8 0, Value.int IntKind.u8 0, Value.int IntKind.u8 0, Value.int IntKind.u8 0, Value.int IntKind.u8 0, Value.int IntKind.u8 0, Value.int IntKind.u8 0, Value.int IntKind.u8 0, Value.int IntKind.u8 0, Value.int IntKind.u8 0, Value.int IntKind.u8 0, Value.int IntKind.u8 0, Value.int IntKind.u8 0, Value.int IntKind.u8 0, Value.int IntKind.u8 0, Value.int IntKind.u8 0, Value.int IntKind.u8 0, Value.int IntKind.u8 0, Value.int IntKind.u8 0, Value.int IntKind.u8 0, Value.int IntKind.u8 0, Value.int IntKind.u8 0, Value.int IntKind.u8 0, Value.int IntKind.u8 0, Value.int IntKind.u8 0, Value.int IntKind.u8 0, Value.int IntKind.u8 0, Value.int IntKind.u8 0, Value.int IntKind.u8 0] = vC3
  generalize Value.agg #[Value.int IntKind.u8 4, Value.int IntKind.u8 0, Value.int IntKind.u8 0, Value.int IntKind.u8 0, Value.int IntKind.u8 0, Value.int IntKind.u8 0, Value.int IntKind.u8 0, Value.int IntKind.u8 0, Value.int IntKind.u8 0, Value.int IntKind.u8 0, Value.int IntKind.u8 0, Value.int IntKind.u8 0, Value.int IntKind.u8 0, Value.int IntKind.u8 0, Value.int IntKind.u8 0, Value.int IntKind.u8 0, Value.int IntKind.u8 0, Value.int IntKind.u8 0, Value.int IntKind.u8 0, Value.int IntKind.u8 0, Value.int IntKind.u8 0, Value.int IntKind.u8 0, Value.int IntKind.u8 0, Value.int IntKind.u8 0, Value.int IntKind.u8 0, Value.int IntKind.u8 0, Value.int IntKind.u8 0, Value.int IntKind.u8 0, Value.int IntKind.u8 0, Value.int IntKind.u8 0, Value.int IntKind.u8 0, Value.int IntKind.u8 0] = vC4
  generalize (Value.agg #[Value.int IntKind.u8 3, Value.int IntKind.u8 0, Value.int IntKind.u8 0, Value.int IntKind.u8 0, Value.int IntKind.u8 0, Value.int IntKind.u8 0, Value.int IntKind.u8 0, Value.int IntKind.u8 0, Value.int IntKind.u8 0, Value.int IntKind.u8 0, Value.int IntKind.u8 0, Value.int IntKind.u8 0, Value.int IntKind.u8 0, Value.int IntKind.u8 0, Value.int IntKind.u8 0, Value.int IntKind.u8 0, Value.int IntKind.u8 0, Value.int IntKind.u8 0, Value.int IntKind.u8 0, Value.int IntKind.u8 0, Value.int IntKind.u8 0, Value.int IntKind.u8 0, Value.int IntKind.u8 0, Value.int IntKind.u8 0, Value.int IntKind.u8 0, Value.int IntKind.u8 0, Value.int IntKind.u8 0, Value.int IntKind.u8 0, Value.int IntKind.u8 0, Value.int IntKind.u8 0, Value.int IntKind.u8 0, Value.int IntKind.u8 0, .slice (some ⟨w2.heap.size, 0, none⟩) 1 1, .float .f64 4619567317775286272, .string ⟨#[110]⟩]) = vCC
  generalize #[Value.int IntKind.u8 4, Value.int IntKind.u8 0, Value.int IntKind.u8 0, Value.int IntKind.u8 0, Value.int IntKind.u8 0, Value.int IntKind.u8 0, Value.int IntKind.u8 0, Value.int IntKind.u8 0, Value.int IntKind.u8 0, Value.int IntKind.u8 0, Value.int IntKind.u8 0, Value.int IntKind.u8 0, Value.int IntKind.u8 0, Value.int IntKind.u8 0, Value.int IntKind.u8 0, Value.int IntKind.u8 0, Value.int IntKind.u8 0, Value.int IntKind.u8 0, Value.int IntKind.u8 0, Value.int IntKind.u8 0, Value.int IntKind.u8 0, Value.int IntKind.u8 0, Value.int IntKind.u8 0, Value.int IntKind.u8 0, Value.int IntKind.u8 0, Value.int IntKind.u8 0, Value.int IntKind.u8 0, Value.int IntKind.u8 0, Value.int IntKind.u8 0, Value.int IntKind.u8 0, Value.int IntKind.u8 0, Value.int IntKind.u8 0] = l4 at *
  have HR3 := Lib.hid (arg4B ((H4.out.past _).grown HG3.out (fun e => by injection e with e; omega)))
  have hb : Below w2.heap.size w2 w3 := be_grown (((Below.refl w2.heap.size w2).alloc (Nat.le_refl _) _).alloc (by simp) _) HG3.out (by simp; omega) (fun j hj => by injection hj with hj; omega)
  have B3 := Lib.hid hb
  have T3 := Lib.hid (T2.out.trans (hb.mono T2.out.size))
  rw [ccB_eq] at HW3
  clear hb H4 HG3
  have hlt : w2.heap.size + 1 < w3.heap.size := HW3.out.lt
  generalize hg6 : w2.heap.size + 1 = g6 at *
  go_wp2_with (refine wpList_load_row rfl 28 _ rfl g6 rfl 28 (encC (some ⟨w2.heap.size, 0, none⟩) 1 cmB).toArray (0, 0) _ HW3.out Tryz.underlying28 rfl (infoC_s _ _ _) ?_)
  refine (b_cput (some ⟨w2.heap.size, 0, none⟩) w3 HR3.out).mono ?_
  rintro e w4 ⟨rfl, hb⟩
  have B4 := Lib.hid hb
  have T4 := Lib.hid (T3.out.trans (hb.mono T3.out.size))
  clear hb
  go_wp2_with fail
  refine (b_cget w4).mono ?_
  rintro e v5 ⟨⟨A5, c5, rfl, hr⟩, hb⟩
  have HR5v := Lib.hid hr
  have B5v := Lib.hid hb
  clear hb hr
  go_upto_region 7 with (refine wpList_store_whole rfl 28 _ _ rfl v5.heap.size (encC A5 c5 cmB).toArray rfl rfl 28 _ (Whole.made v5 _ _) (infoC_s _ _ _) (by rw [encC_s]; rfl) (encC_all _ _ _) ?_; intro w5 hWn hGn; have HW5 := Lib.hid hWn; have HG5 := Lib.hid hGn; clear hWn hGn)
  have hv : Below v5.heap.size v5 w5 := be_grown ((Below.refl v5.heap.size v5).alloc (Nat.le_refl _) _) HG5.out (by simp) (fun j hj => by injection hj with hj; omega)
  have HR5 := Lib.hid (HR5v.out.later hv)
  have B5 := Lib.hid (B5v.out.trans (hv.mono B5v.out.size))
  have T5 := Lib.hid (T4.out.trans (B5.out.mono T4.out.size))
  clear hv HG5 HR5v
  go_upto_region 8 with (refine wpList_store_whole rfl 30 _ _ rfl w5.heap.size (ooB w.heap.size) rfl rfl 30 _ (Whole.made w5 _ _) (ooB_info _) (ooB_s _) (ooB_all _) ?_; intro w6 hWn hGn; have HW6 := Lib.hid hWn; have HG6 := Lib.hid hGn; clear hWn hGn)
  generalize (Value.agg #[.int .i64 2, .string ⟨#[]⟩, .slice (some ⟨w.heap.size, 0, none⟩) 2 2, Value.int IntKind.u8 0, Value.int IntKind.u8 0, Value.int IntKind.u8 0, Value.int IntKind.u8 0, Value.int IntKind.u8 0, Value.int IntKind.u8 0, Value.int IntKind.u8 0, Value.int IntKind.u8 0, Value.int IntKind.u8 0, Value.int IntKind.u8 0, Value.int IntKind.u8 0, Value.int IntKind.u8 0, Value.int IntKind.u8 0, Value.int IntKind.u8 0, Value.int IntKind.u8 0, Value.int IntKind.u8 0, Value.int IntKind.u8 0, Value.int IntKind.u8 0, Value.int IntKind.u8 0, Value.int IntKind.u8 0, Value.int IntKind.u8 0, Value.int IntKind.u8 0, Value.int IntKind.u8 0, Value.int IntKind.u8 0, Value.int IntKind.u8 0, Value.int IntKind.u8 0, Value.int IntKind.u8 0, Value.int IntKind.u8 0, Value.int IntKind.u8 0, Value.int IntKind.u8 0, Value.int IntKind.u8 0, Value.int IntKind.u8 0, .slice none 0 0, .float .f64 0, .string ⟨#[]⟩]) = vOO
  rw [ooB_eq] at HW6
  have hv : Below w5.heap.size w5 w6 := be_grown ((Below.refl w5.heap.size w5).alloc (Nat.le_refl _) _) HG6.out (by simp) (fun j hj => by injection hj with hj; omega)
  have B6 := Lib.hid hv
  have T6 := Lib.hid (T5.out.trans (hv.mono T5.out.size))
  have HRA6 := Lib.hid (((((((HR0.out.later B1.out).later B2.out).later B3.out).later B4.out).later B5.out).later B6.out))
  clear hv HG6
  go_wp2_with (refine wpList_load_row rfl 30 _ rfl w5.heap.size rfl 30 (encO (some ⟨w.heap.size, 0, none⟩) 2 none 0 obB).toArray (0, 0) _ HW6.out Tryz.underlying30 rfl (infoO_s _ _ _ _ _) ?_)
  refine (b_oput (some ⟨w.heap.size, 0, none⟩) w6 HRA6.out).mono ?_
  rintro e w7 ⟨rfl, hb⟩
  have B7 := Lib.hid hb
  have T7 := Lib.hid (T6.out.trans (hb.mono T6.out.size))
  have HF7 := Lib.hid (HW6.out.below hb HW6.out.lt)
  have HRA7 := Lib.hid (HRA6.out.later hb)
  clear hb
  go_wp2_with fail
  refine (b_oget w7).mono ?_
  rintro e v8 ⟨⟨A8, c8, B8, d8, rfl, hr⟩, hb⟩
  have HR8v := Lib.hid hr
  have B8v := Lib.hid hb
  clear hb hr
  go_upto_region 10 with (refine wpList_store_whole rfl 30 _ _ rfl v8.heap.size (encO A8 c8 B8 d8 obB).toArray rfl rfl 30 _ (Whole.made v8 _ _) (infoO_s _ _ _ _ _) (by rw [encO_s]; rfl) (encO_all _ _ _ _ _) ?_; intro w8 hWn hGn; have HW8 := Lib.hid hWn; have HG8 := Lib.hid hGn; clear hWn hGn)
  have hv : Below v8.heap.size v8 w8 := be_grown ((Below.refl v8.heap.size v8).alloc (Nat.le_refl _) _) HG8.out (by simp) (fun j hj => by injection hj with hj; omega)
  have HR8 := Lib.hid (HR8v.out.later hv)
  have B8x := Lib.hid (B8v.out.trans (hv.mono B8v.out.size))
  have T8 := Lib.hid (T7.out.trans (B8x.out.mono T7.out.size))
  have HF8 := Lib.hid (HF7.out.below B8x.out HF7.out.lt)
  have HRA8 := Lib.hid (HRA7.out.later B8x.out)
  clear hv HG8 HR8v
  go_wp2_with (refine wpList_load_row rfl 30 _ rfl w5.heap.size rfl 30 (encO (some ⟨w.heap.size, 0, none⟩) 2 none 0 obB).toArray (0, 0) _ HF8.out Tryz.underlying30 rfl (infoO_s _ _ _ _ _) ?_)
  refine (b_oid (some ⟨w.heap.size, 0, none⟩) w8 HRA8.out (HE.out.at_ T8.out).tabs (HT.out.below T8.out)).mono ?_
  rintro e v9 ⟨rfl, hb⟩
  have B9v := Lib.hid hb
  clear hb
  go_upto_region 11 with (refine wpList_store_whole rfl 24 _ _ rfl v9.heap.size (encN idB).toArray rfl rfl 24 _ (Whole.made v9 _ _) (by rw [encN_size]; exact infoN) (by rw [encN_size]; rfl) (encN_all idB) ?_; intro w9 hWn hGn; have HW9 := Lib.hid hWn; have HG9 := Lib.hid hGn; clear hWn hGn)
  have hv : Below v9.heap.size v9 w9 := be_grown ((Below.refl v9.heap.size v9).alloc (Nat.le_refl _) _) HG9.out (by simp) (fun j hj => by injection hj with hj; omega)
  have B9 := Lib.hid (B9v.out.trans (hv.mono B9v.out.size))
  have T9 := Lib.hid (T8.out.trans (B9.out.mono T8.out.size))
  have HF9 := Lib.hid (HF8.out.below B9.out HF8.out.lt)
  have HRA9 := Lib.hid (HRA8.out.later B9.out)
  clear hv HG9
  go_wp2_with (refine wpList_load_row rfl 30 _ rfl w5.heap.size rfl 30 (encO (some ⟨w.heap.size, 0, none⟩) 2 none 0 obB).toArray (0, 0) _ HF9.out Tryz.underlying30 rfl (infoO_s _ _ _ _ _) ?_)
  refine (b_links (some ⟨w.heap.size, 0, none⟩) w9 HRA9.out).mono ?_
  rintro e w10 ⟨⟨B10, d10, rfl, hr⟩, hb⟩
  have HR10 := Lib.hid hr
  have B10x := Lib.hid hb
  have T10 := Lib.hid (T9.out.trans (hb.mono T9.out.size))
  have HF10 := Lib.hid (HF9.out.below hb HF9.out.lt)
  have HRA10 := Lib.hid (HRA9.out.later hb)
  clear hb hr
  go_wp2_with fail
  refine (b_find (some ⟨w.heap.size, 0, none⟩) w10 HRA10.out).mono ?_
  rintro e v11 ⟨rfl, hb⟩
  have B11v := Lib.hid hb
  clear hb
  go_upto_region 13 with (refine wpList_store_whole rfl 49 _ _ rfl v11.heap.size (encE eB).toArray rfl rfl 49 _ (Whole.made v11 _ _) (infoE_s eB) (by rw [encE_size]; rfl) (encE_all eB) ?_; intro w11 hWn hGn; have HW11 := Lib.hid hWn; have HG11 := Lib.hid hGn; clear hWn hGn)
  have hv : Below v11.heap.size v11 w11 := be_grown ((Below.refl v11.heap.size v11).alloc (Nat.le_refl _) _) HG11.out (by simp) (fun j hj => by injection hj with hj; omega)
  have B11 := Lib.hid (B11v.out.trans (hv.mono B11v.out.size))
  have T11 := Lib.hid (T10.out.trans (B11.out.mono T10.out.size))
  clear hv HG11
  go_wp2_with fail
  refine (b_path w11).mono ?_
  rintro e w12 ⟨⟨A12, c12, rfl⟩, hb⟩
  have B12 := Lib.hid hb
  have T12 := Lib.hid (T11.out.trans (hb.mono T11.out.size))
  clear hb
  go_upto_region 14 with fail
  have K11 := Lib.hid B12.out
  have K10 := Lib.hid (B11.out.trans (K11.out.mono B11.out.size))
  have K9 := Lib.hid (B10x.out.trans (K10.out.mono B10x.out.size))
  have K8 := Lib.hid (B9.out.trans (K9.out.mono B9.out.size))
  have K7 := Lib.hid (B8x.out.trans (K8.out.mono B8x.out.size))
  have K6 := Lib.hid (B7.out.trans (K7.out.mono B7.out.size))
  have K5 := Lib.hid (B6.out.trans (K6.out.mono B6.out.size))
  have K4 := Lib.hid (B5.out.trans (K5.out.mono B5.out.size))
  have K3 := Lib.hid (B4.out.trans (K4.out.mono B4.out.size))
  have K2 := Lib.hid (B3.out.trans (K3.out.mono B3.out.size))
  have K1 := Lib.hid (B2.out.trans (K2.out.mono B2.out.size))
  have K0 := Lib.hid (B1.out.trans (K1.out.mono B1.out.size))
  obtain ⟨b2, o2, rfl⟩ := ent_some HR2.out
  obtain ⟨b3, o3, rfl⟩ := nm_some HR10.out
  have hC : ∀ W, (∃ p : Regrown, W = Sort.grow (redrawn w12 p.d) p.os) → Below w12.heap.size w12 W := fun W h => below_clsC h
  have L1 : Hid (∀ W, (∃ p : Regrown, W = Sort.grow (redrawn w12 p.d) p.os) → W.rangeAt b2 (o2 + 34) (encE eB)) := fun W h => (ent_range ((HR2.out.later K2.out).later (hC W h))).1
  have L2 : Hid (∀ W, (∃ p : Regrown, W = Sort.grow (redrawn w12 p.d) p.os) → W.rangeAt w.heap.size 34 (encE eB)) := fun W h => by
    have := (ent_range ((HRA10.out.later K10.out).later (hC W h))).1
    rwa [Nat.zero_add] at this
  have L3 : Hid (∀ W, (∃ p : Regrown, W = Sort.grow (redrawn w12 p.d) p.os) → W.rangeAt w.heap.size 36 (encN (nOf 2))) := fun W h => by
    have := (ent_range ((HRA10.out.later K10.out).later (hC W h))).2
    rwa [Nat.zero_add] at this
  have L4 : Hid (∀ W, (∃ p : Regrown, W = Sort.grow (redrawn w12 p.d) p.os) → W.rangeAt b3 (o3 + 32) (encN (nOf 2))) := fun W h => nm_range ((HR10.out.later K10.out).later (hC W h))
  have M := fun {g : Nat} {t : TypeId} {l : List Value} {v : World} (hw : Whole v g t l.toArray) (hk : Below v.heap.size v w12) (W : World) (h : ∃ p : Regrown, W = Sort.grow (redrawn w12 p.d) p.os) => show W.rangeAt g 0 l from whole_range ((hw.below hk hw.lt).below (hC W h) (hw.below hk hw.lt).lt)
  have L5 := Lib.hid (M HW3.out K3.out)
  have L6 := Lib.hid (M HW5.out K5.out)
  have L7 := Lib.hid (M HF10.out K10.out)
  have L8 := Lib.hid (M HW8.out K8.out)
  have L9 := Lib.hid (M HW9.out K9.out)
  have L10 := Lib.hid (M HW11.out K11.out)
  have X1 := Lib.hid fun W (h : Below w12.heap.size w12 W) => begunL_any W (HE.out.at_ (T12.out.trans (h.mono T12.out.size)))
  have X2 := Lib.hid fun W (h : Below w12.heap.size w12 W) => b_ceq (some ⟨w2.heap.size, 0, none⟩) 1 A5 c5 W ((HR3.out.later K3.out).later h) ((HR5.out.later K5.out).later h)
  have X3 := Lib.hid fun W (h : Below w12.heap.size w12 W) => b_oeq (some ⟨w.heap.size, 0, none⟩) 2 none 0 A8 c8 B8 d8 W (argB ((HRA10.out.later K10.out).later h)) ((HR8.out.later K8.out).later h)
  have X4 := Lib.hid fun W (_ : Below w12.heap.size w12 W) => b_rid W
  clear M hC
  have hTL := TB_len
  have hq1 := eql_eB
  have hq2 := eql_idB
  have hq3 := eql_n2
  have IC1 := Lib.hid (infoC_l (some ⟨w2.heap.size, 0, none⟩) 1 cmB)
  have IC2 := Lib.hid (infoC_l A5 c5 cmB)
  have IO1 := Lib.hid (infoO_l (some ⟨w.heap.size, 0, none⟩) 2 none 0 obB)
  have IO2 := Lib.hid (infoO_l A8 c8 B8 d8 obB)
  have II1 := Lib.hid (infoN_l idB)
  have II2 := Lib.hid (infoN_l (nOf 2))
  have IE := Lib.hid (infoE_l eB)
  generalize encC (some ⟨w2.heap.size, 0, none⟩) 1 cmB = lc1 at *
  generalize encC A5 c5 cmB = lc2 at *
  generalize encO (some ⟨w.heap.size, 0, none⟩) 2 none 0 obB = lo1 at *
  generalize encO A8 c8 B8 d8 obB = lo2 at *
  generalize encN idB = li at *
  generalize encN (nOf 2) = ln at *
  generalize encE eB = le at *
  change (Code.region _ ((_ :: _ :: _ :: _ :: _ :: _ :: _ :: _ :: _ :: _ :: _ :: _ :: _ :: _ :: _ :: _ :: _ :: _ :: _ :: _ :: _ :: _ :: _ :: _ :: _ :: _ :: _ :: _ :: _ :: _ :: _ :: _ :: _ :: _ :: _ :: _ :: _ :: _ :: _ :: _ :: _ :: _ :: _ :: _ :: _ :: _ :: _ :: _ :: _ :: _ :: _ :: _ :: _ :: _ :: _ :: _ :: _ :: _ :: _ :: _ :: _ :: _ :: _ :: _ :: _ :: _ :: _ :: _ :: _ :: _ :: _ :: _ :: _ :: _ :: _ :: _ :: _ :: _ :: _ :: _ :: _ :: _ :: _ :: _ :: _ :: _ :: _ :: _ :: _ :: _ :: _ :: _ :: _ :: _ :: _ :: _ :: _ :: _ :: _ :: []) : List Oper).toArray true).wp _ _ _ _
  refine wp_region_quiet_below (by kernel_rfl) (lexB_of_table tabB (by kernel_rfl) (by kernel_rfl) tabB_ok) ?_
  repeat (first
    | go_big_quiet_step ((first
      | (go_at_call 27; exact Calls.regrown_of (X1.out _ (below_regrown _ _ _)))
      | (go_at_call 28; exact Calls.regrown_of (X2.out _ (below_regrown _ _ _)))
      | (go_at_call 12; exact Calls.regrown_of (X3.out _ (below_regrown _ _ _)))
      | (go_at_call 29; exact Calls.regrown_of (X4.out _ (below_regrown _ _ _)))))
    | (refine q_loadm _ _ rfl (by rfl) b2 (o2 + 34) le rfl _ Tryz.underlying49 rfl IE.out L1.out ?_; simp only [Act.put]; go_simp)
    | (refine q_loadm _ _ rfl (by rfl) w.heap.size 34 le rfl _ Tryz.underlying49 rfl IE.out L2.out ?_; simp only [Act.put]; go_simp)
    | (refine q_loadm _ _ rfl (by rfl) w.heap.size 36 ln rfl _ Tryz.underlying24 rfl II2.out L3.out ?_; simp only [Act.put]; go_simp)
    | (refine q_loadm _ _ rfl (by rfl) b3 (o3 + 32) ln rfl _ Tryz.underlying24 rfl II2.out L4.out ?_; simp only [Act.put]; go_simp)
    | (refine q_loadm _ _ rfl (by rfl) g6 0 lc1 rfl _ Tryz.underlying28 rfl IC1.out L5.out ?_; simp only [Act.put]; go_simp)
    | (refine q_loadm _ _ rfl (by rfl) v5.heap.size 0 lc2 rfl _ Tryz.underlying28 rfl IC2.out L6.out ?_; simp only [Act.put]; go_simp)
    | (refine q_loadm _ _ rfl (by rfl) w5.heap.size 0 lo1 rfl _ Tryz.underlying30 rfl IO1.out L7.out ?_; simp only [Act.put]; go_simp)
    | (refine q_loadm _ _ rfl (by rfl) v8.heap.size 0 lo2 rfl _ Tryz.underlying30 rfl IO2.out L8.out ?_; simp only [Act.put]; go_simp)
    | (refine q_loadm _ _ rfl (by rfl) v9.heap.size 0 li rfl _ Tryz.underlying24 rfl II1.out L9.out ?_; simp only [Act.put]; go_simp)
    | (refine q_loadm _ _ rfl (by rfl) v11.heap.size 0 le rfl _ Tryz.underlying49 rfl IE.out L10.out ?_; simp only [Act.put]; go_simp))
  refine wpQuiet_nil ?_
  intro p
  have HBW := Lib.hid (below_regrown w12 p.d p.os)
  generalize Sort.grow (redrawn w12 p.d) p.os = W at *
  go_wp2
  go_ret
  exact ⟨rfl, T12.out.trans (HBW.out.mono T12.out.size)⟩
end Go.Proofs.YtfaijkgfhdhhbaaGreatDoor

/-
  ObjectNone, walked.
-/
import Derived.Test.YtdmafodppcbglaaGreatDoorBegS
namespace Go.Proofs.YtdmafodppcbglaaGreatDoor
open Go.RowKit

def bO : Ob := ⟨1, [], [], noC⟩
def nC : List Value := encC none 0 noC
theorem nC_info : (Tryz.prog.info? 57).map (·.size) = some nC.toArray.size := infoC_s none 0 noC
theorem nC_all : nC.toArray.all (·.oneCell') = true := encC_all none 0 noC
theorem nC_s : 35 = nC.toArray.size := (encC_s none 0 noC).symm
theorem nilE (w : World) : ArgE w none 0 [] := ⟨Nat.le_refl _, Nat.zero_le _, fun _ => rfl, fun h => absurd h (Nat.lt_irrefl _)⟩
theorem nilN (w : World) : ArgN w none 0 [] := ⟨Nat.le_refl _, Nat.zero_le _, fun _ => rfl, fun h => absurd h (Nat.lt_irrefl _)⟩
theorem n_tget (w : World) : Calls Tryz.prog 19 #[.string ⟨#[]⟩] w fun e w' => (∃ A c, e = .returned (.tuple #[.slice A 0 c, .int .i64 0])) ∧ Below w.heap.size w w' := by
  refine (tget_any [] w (by decide)).mono ?_
  rintro e w' ⟨h, hb⟩
  refine ⟨?_, hb⟩
  have hg0 : getT [] = some [] := by decide +kernel
  rcases h with ⟨es, A, c, hg, he, -⟩ | ⟨hg, -⟩
  · rw [hg0] at hg
    injection hg with hg
    subst hg
    exact ⟨A, c, he⟩
  · rw [hg0] at hg
    cases hg
theorem n_cget (w : World) : Calls Tryz.prog 32 #[.string ⟨#[]⟩] w fun e w' => e = .returned (.tuple #[.agg nC.toArray, .int .i64 1]) ∧ Below w.heap.size w w' := by
  refine (cget_any [] w (by decide)).mono ?_
  rintro e w' ⟨h, hb⟩
  refine ⟨?_, hb⟩
  have hg0 : readC [] = none := by decide +kernel
  rcases h with ⟨x, A, c, hg, -⟩ | ⟨-, he⟩
  · rw [hg0] at hg
    cases hg
  · exact he
theorem n_oget4 (w : World) : Calls Tryz.prog 36 #[.int .i64 4, .string ⟨#[]⟩] w fun e w' => (∃ A c A2 c2, e = .returned (.tuple #[.agg (encO A c A2 c2 zO).toArray, .int .i64 1])) ∧ Below w.heap.size w w' := by
  refine (ogetO_any 4 [] w (by decide)).mono ?_
  rintro e w' ⟨⟨A, c, A2, c2, he, -⟩, hb⟩
  exact ⟨⟨A, c, A2, c2, he⟩, hb⟩
theorem n_oget1 (w : World) : Calls Tryz.prog 36 #[.int .i64 1, .string ⟨#[]⟩] w fun e w' => (∃ A c A2 c2, e = .returned (.tuple #[.agg (encO A c A2 c2 bO).toArray, .int .i64 0]) ∧ ArgO w' A c A2 c2 bO) ∧ Below w.heap.size w w' := by
  refine (ogetO_any 1 [] w (by decide)).mono ?_
  rintro e w' ⟨⟨A, c, A2, c2, he, ha⟩, hb⟩
  exact ⟨⟨A, c, A2, c2, he, ha⟩, hb⟩
theorem n_omay (w : World) : Calls Tryz.prog 37 #[.agg #[Value.int IntKind.i64 0, Value.string ⟨#[]⟩, Value.slice none 0 0, Value.int IntKind.u8 0, Value.int IntKind.u8 0, Value.int IntKind.u8 0, Value.int IntKind.u8 0, Value.int IntKind.u8 0, Value.int IntKind.u8 0, Value.int IntKind.u8 0, Value.int IntKind.u8 0, Value.int IntKind.u8 0, Value.int IntKind.u8 0, Value.int IntKind.u8 0, Value.int IntKind.u8 0, Value.int IntKind.u8 0, Value.int IntKind.u8 0, Value.int IntKind.u8 0, Value.int IntKind.u8 0, Value.int IntKind.u8 0, Value.int IntKind.u8 0, Value.int IntKind.u8 0, Value.int IntKind.u8 0, Value.int IntKind.u8 0, Value.int IntKind.u8 0, Value.int IntKind.u8 0, Value.int IntKind.u8 0, Value.int IntKind.u8 0, Value.int IntKind.u8 0, Value.int IntKind.u8 0, Value.int IntKind.u8 0, Value.int IntKind.u8 0, Value.int IntKind.u8 0, Value.int IntKind.u8 0, Value.int IntKind.u8 0, Value.slice none 0 0, Value.float FloatKind.f64 0, Value.string ⟨#[]⟩]] w fun e w' => e = .returned (.bool false) ∧ Below w.heap.size w w' := by
  have h := omay_any none 0 none 0 zO w ⟨nilE w, nilN w⟩ (by decide) (by decide)
  rw [show mayO' zO = false by decide +kernel] at h
  exact h
theorem n_tmay (w : World) : Calls Tryz.prog 22 #[.slice none 0 0] w fun e w' => e = .returned (.bool true) ∧ Below w.heap.size w w' := by
  have h := tmay_any none 0 [] w (nilE w) (by decide)
  rw [show mayT [] = true by decide +kernel] at h
  exact h
theorem n_name (w : World) : Calls Tryz.prog 16 #[.string ⟨#[]⟩] w fun e w' => e = .returned (.bool false) ∧ w = w' := by
  have h := name_any [] w
  rw [show okName [] = false by decide +kernel] at h
  exact h
theorem n_cmay (w : World) : Calls Tryz.prog 39 #[.agg #[Value.int IntKind.u8 0, Value.int IntKind.u8 0, Value.int IntKind.u8 0, Value.int IntKind.u8 0, Value.int IntKind.u8 0, Value.int IntKind.u8 0, Value.int IntKind.u8 0, Value.int IntKind.u8 0, Value.int IntKind.u8 0, Value.int IntKind.u8 0, Value.int IntKind.u8 0, Value.int IntKind.u8 0, Value.int IntKind.u8 0, Value.int IntKind.u8 0, Value.int IntKind.u8 0, Value.int IntKind.u8 0, Value.int IntKind.u8 0, Value.int IntKind.u8 0, Value.int IntKind.u8 0, Value.int IntKind.u8 0, Value.int IntKind.u8 0, Value.int IntKind.u8 0, Value.int IntKind.u8 0, Value.int IntKind.u8 0, Value.int IntKind.u8 0, Value.int IntKind.u8 0, Value.int IntKind.u8 0, Value.int IntKind.u8 0, Value.int IntKind.u8 0, Value.int IntKind.u8 0, Value.int IntKind.u8 0, Value.int IntKind.u8 0, Value.slice none 0 0, Value.float FloatKind.f64 0, Value.string ⟨#[]⟩]] w fun e w' => e = .returned (.bool true) ∧ Below w.heap.size w w' := by
  have h := cmay_any none 0 noC w (nilN w) (by decide)
  rw [show mayC noC = true by decide +kernel] at h
  exact h
theorem n_olinks (A : Option Addr) (c : Nat) (A2 : Option Addr) (c2 : Nat) (w : World) (hA : ArgO w A c A2 c2 bO) : Calls Tryz.prog 38 #[.agg (encO A c A2 c2 bO).toArray] w fun e w' => e = .returned (.slice none 0 0) ∧ Below w.heap.size w w' := by
  obtain ⟨hW, hB, hA0⟩ := obox A c A2 c2 bO w hA
  have HB := Lib.hid hB
  have e0 : (w.alloc (.cells (encO A c A2 c2 bO).toArray 68)).cell? ⟨w.heap.size, 0, none⟩ = some (.int .i64 1) := (hW.at_ 0).trans (encO_0 A c A2 c2 bO)
  clear hW hB hA0 hA
  generalize (encO A c A2 c2 bO).toArray = cs at *
  go_enter Tryz.func38, Tryz.ntmps38
  go_wp2
  go_ret
  exact ⟨rfl, HB.out⟩
attribute [local irreducible] noC zO bO nC
set_option maxRecDepth 100000 in
set_option maxHeartbeats 8000000 in
theorem onone_any (w : World) (hE : Env w) (hT : Tens w) : Calls Tryz.prog 12 #[] w fun e w' => e = .returned (.bool true) ∧ Below w.heap.size w w' := by
  have HE := Lib.hid hE
  have HT := Lib.hid hT
  clear hE hT
  go_enter Tryz.func12, Tryz.ntmps12
  go_wp2_with fail
  refine (n_tget w).mono ?_
  rintro e w1 ⟨⟨A1, c1, rfl⟩, hb⟩
  have T1 := Lib.hid hb
  clear hb
  go_wp2_with fail
  refine (n_cget w1).mono ?_
  rintro e v2 ⟨rfl, hb⟩
  have T2v := Lib.hid (T1.out.trans (hb.mono T1.out.size))
  clear hb
  go_upto_region 3 with (refine wpList_store_whole rfl 57 _ _ rfl v2.heap.size nC.toArray rfl rfl 57 _ (Whole.made v2 _ _) nC_info nC_s nC_all ?_; intro w2 hWn hGn; have HG2 := Lib.hid hGn; clear hWn hGn)
  have hv : Below v2.heap.size v2 w2 := be_grown ((Below.refl v2.heap.size v2).alloc (Nat.le_refl _) _) HG2.out (by simp) (fun j hj => by injection hj with hj; omega)
  have T2 := Lib.hid (T2v.out.trans (hv.mono T2v.out.size))
  clear hv HG2
  go_wp2_with fail
  refine (n_oget4 w2).mono ?_
  rintro e v3 ⟨⟨A3, c3, B3, d3, rfl⟩, hb⟩
  have T3v := Lib.hid (T2.out.trans (hb.mono T2.out.size))
  clear hb
  go_upto_region 4 with (refine wpList_store_whole rfl 68 _ _ rfl v3.heap.size (encO A3 c3 B3 d3 zO).toArray rfl rfl 68 _ (Whole.made v3 _ _) (infoO_s _ _ _ _ _) (by rw [encO_s]; rfl) (encO_all _ _ _ _ _) ?_; intro w3 hWn hGn; have HG3 := Lib.hid hGn; clear hWn hGn)
  have hv : Below v3.heap.size v3 w3 := be_grown ((Below.refl v3.heap.size v3).alloc (Nat.le_refl _) _) HG3.out (by simp) (fun j hj => by injection hj with hj; omega)
  have T3 := Lib.hid (T3v.out.trans (hv.mono T3v.out.size))
  clear hv HG3
  go_wp2_with fail
  refine (n_oget1 w3).mono ?_
  rintro e v4 ⟨⟨A4, c4, B4, d4, rfl, hr⟩, hb⟩
  have HRv := Lib.hid hr
  have T4v := Lib.hid (T3.out.trans (hb.mono T3.out.size))
  clear hb hr
  go_upto_region 5 with (refine wpList_store_whole rfl 68 _ _ rfl v4.heap.size (encO A4 c4 B4 d4 bO).toArray rfl rfl 68 _ (Whole.made v4 _ _) (infoO_s _ _ _ _ _) (by rw [encO_s]; rfl) (encO_all _ _ _ _ _) ?_; intro w4 hWn hGn; have HW4 := Lib.hid hWn; have HG4 := Lib.hid hGn; clear hWn hGn)
  have hv : Below v4.heap.size v4 w4 := be_grown ((Below.refl v4.heap.size v4).alloc (Nat.le_refl _) _) HG4.out (by simp) (fun j hj => by injection hj with hj; omega)
  have T4 := Lib.hid (T4v.out.trans (hv.mono T4v.out.size))
  have HR4 := Lib.hid (HRv.out.later hv)
  clear hv HG4 HRv
  go_wp2_with fail
  refine (begun6_any w4 (HE.out.at_ T4.out) (HT.out.below T4.out)).mono ?_
  rintro e w5 ⟨rfl, hb⟩
  have T5 := Lib.hid (T4.out.trans (hb.mono T4.out.size))
  have HW5 := Lib.hid (HW4.out.below hb HW4.out.lt)
  have HR5 := Lib.hid (HR4.out.later hb)
  clear hb
  have e0 : w5.cell? ⟨v4.heap.size, 0, none⟩ = some (.int .i64 1) := by
    have h := (HW5.out.at_ 0).trans (encO_0 A4 c4 B4 d4 bO)
    rw [show bO.kind = 1 by unfold bO; rfl] at h
    exact h
  go_wp2_with fail
  refine (n_omay w5).mono ?_
  rintro e w6 ⟨rfl, hb⟩
  have T6 := Lib.hid (T5.out.trans (hb.mono T5.out.size))
  have HW6 := Lib.hid (HW5.out.below hb HW5.out.lt)
  have HR6 := Lib.hid (HR5.out.later hb)
  clear hb e0
  go_wp2_with (refine wpList_load_row_on 68 (.tmp 7) rfl v4.heap.size rfl rfl 68 (encO A4 c4 B4 d4 bO).toArray (0, 0) _ HW6.out Tryz.underlying68 rfl (infoO_s _ _ _ _ _) ?_)
  refine (n_olinks A4 c4 B4 d4 w6 HR6.out).mono ?_
  rintro e w7 ⟨rfl, hb⟩
  have T7 := Lib.hid (T6.out.trans (hb.mono T6.out.size))
  clear hb
  go_wp2_with fail
  refine (n_tmay w7).mono ?_
  rintro e w8 ⟨rfl, hb⟩
  have T8 := Lib.hid (T7.out.trans (hb.mono T7.out.size))
  clear hb
  go_wp2_with fail
  refine (n_name w8).mono ?_
  rintro e w9 ⟨rfl, rfl⟩
  go_wp2_with fail
  refine (n_cmay w8).mono ?_
  rintro e w9 ⟨rfl, hb⟩
  have T9 := Lib.hid (T8.out.trans (hb.mono T8.out.size))
  clear hb
  go_wp2
  go_ret
  exact ⟨rfl, T9.out⟩
end Go.Proofs.YtdmafodppcbglaaGreatDoor

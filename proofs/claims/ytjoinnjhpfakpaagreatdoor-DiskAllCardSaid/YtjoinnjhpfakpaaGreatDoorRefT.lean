/-
  The reference's turn and table, walked.
-/
import Derived.Test.YtjoinnjhpfakpaaGreatDoorMhc
import Derived.Test.YtjoinnjhpfakpaaGreatDoorRefS
namespace Go.Proofs.YtjoinnjhpfakpaaGreatDoor
open Go.RowKit

theorem rturn_any (x : BitVec 32) (i : Int) (h1 : 1 ≤ i) (h2 : i < 32) (w : World) :
    Calls Tryz.prog 202 #[.int .u32 (x.toNat : Int), .int .i64 i] w fun e w' => e = .returned (.int .u32 ((ShaM.rr x i.toNat).toNat : Int)) ∧ ∃ k, w' = w.drewN k := by
  obtain ⟨n, rfl⟩ : ∃ n : Nat, i = (n : Int) := ⟨i.toNat, by omega⟩
  rw [Int.toNat_natCast]
  have hs : IntKind.i64.wrap (32 - (n : Int)) = ((32 - n : Nat) : Int) := by rw [IntWalk.i64_in _ (by omega)]; omega
  have hn : (32 : Int) - (n : Int) = ((32 - n : Nat) : Int) := by omega
  have HF : Hid (∀ v : Int, v = ((x.toNat : Int) / 2 ^ n + (x.toNat : Int) * 2 ^ (32 - n) % 4294967296) % 4294967296 → v = ((ShaM.rr x n).toNat : Int)) := by
    intro v hv
    rw [hv, u_shl_mod, u_shr, u_add_mod, ShaM.turn_eq]
  go_enter Tryz.func202, Tryz.ntmps202
  go_wp2_with fail
  go_quiet (fail)
  go_wp2
  go_ret
  refine ⟨ret_int (HF.out _ ?_), _, rfl⟩
  rfl

/-- The table. -/
def tbl : Array Value := (ShaM.kk.map fun (n : Nat) => Value.int .u32 (n : Int)).toArray
theorem tbl_at (i : Nat) (h : i < 64) : tbl[i]? = some (U (ShaM.K i)) := by
  have hh : ∀ i : Fin 64, ((BitVec.ofNat 32 (ShaM.kk.getD i.val 0)).toNat) = ShaM.kk.getD i.val 0 := by decide +kernel
  have h2 := hh ⟨i, h⟩
  unfold tbl
  rw [List.getElem?_toArray, List.getElem?_map, List.getElem?_eq_getElem (by rw [ShaM.kk_len]; exact h), Option.map_some]
  unfold U ShaM.K
  rw [h2, List.getD_eq_getElem?_getD, List.getElem?_eq_getElem (by rw [ShaM.kk_len]; exact h), Option.getD_some]
set_option maxRecDepth 100000 in
set_option maxHeartbeats 1000000 in
theorem rtable_any (w : World) : Calls Tryz.prog 201 #[] w fun e w' => e = .returned (.agg tbl) ∧ Below w.heap.size w w' := by
  have HI : Hid ((Tryz.prog.info? 284).map (·.size) = some tbl.size) := by show _ = _; kernel_rfl
  have H1 : Hid (tbl.all (·.oneCell') = true) := by show _ = _; kernel_rfl
  go_enter Tryz.func201, Tryz.ntmps201
  go_wp2_with (refine wpList_store_whole rfl 284 _ _ rfl w.heap.size tbl rfl (by kernel_rfl) 284 _ (Whole.made w _ _) HI.out (by kernel_rfl) H1.out ?_; intro w3 hW3 hG3; have HW3 := Lib.hid hW3; have HB3 := Lib.hid (be_grown ((Below.refl w.heap.size w).alloc (Nat.le_refl _) _) hG3 (by simp) (fun j hj => by injection hj with hj; omega)); clear hW3 hG3)
  refine bodyPost_ret (v := .agg tbl) ?_ rfl ⟨rfl, HB3.out⟩
  exact results_cell_row (p := 0) (ty := 284) rfl _ _ w.heap.size 284 tbl (0, 0) _ rfl HW3.out Tryz.underlying284 rfl HI.out
end Go.Proofs.YtjoinnjhpfakpaaGreatDoor

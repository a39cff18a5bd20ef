/-
  Nothing: no text, no names, no reader.
-/
import Derived.Test.YtbljoeeekhdjkaaGreatDoorBegB
import Derived.Test.YtbljoeeekhdjkaaGreatDoorAlt
import Derived.Test.YtbljoeeekhdjkaaGreatDoorShelf
namespace Go.Proofs.YtbljoeeekhdjkaaGreatDoor
open Go.RowKit

theorem oget_end {fn : Func} (hr : fn.results = #[.cell 2 64, .tmp 3]) (a : Act) (w w3 : World) (A : Array Value) (hs : A.size = 32) (h1 : A.all (·.oneCell') = true) (h2 : a.tmps.getD 2 undef = .pointer (some ⟨w.heap.size, 0, none⟩)) (h3 : a.tmps.getD 3 undef = .bool false) (hd : a.defers = []) (hW : Whole w3 w.heap.size 64 A) (hB : Below w.heap.size w w3) :
    bodyPost Tryz.prog fn (fun e w' => (∃ A : Array Value, A.size = 32 ∧ A.all (·.oneCell') = true ∧ e = .returned (.tuple #[.agg A, .bool false])) ∧ Below w.heap.size w w') .ret a w3 := by
  refine bodyPost_ret (v := .tuple #[.agg A, .bool false]) ?_ hd ⟨⟨_, hs, h1, rfl⟩, hB⟩
  rw [← h3]
  exact results_row_tmp hr _ _ w.heap.size 64 A (0, 0) _ h2 hW Tryz.underlying64 rfl (by rw [hs]; kernel_rfl)
set_option maxRecDepth 100000 in
set_option maxRecDepth 100000 in
theorem oget_nil (w : World) : Calls Tryz.prog 54 #[.string ⟨#[]⟩] w fun e w' => (∃ A : Array Value, A.size = 32 ∧ A.all (·.oneCell') = true ∧ e = .returned (.tuple #[.agg A, .bool false])) ∧ Below w.heap.size w w' := by
  go_enter Tryz.func54, Tryz.ntmps54
  go_wp2_with (refine wpList_store_whole rfl 64 _ _ rfl w.heap.size _ rfl rfl 64 _ (Whole.made w _ _) (by kernel_rfl) (by kernel_rfl) (by kernel_rfl) ?_; intro w3 hW3 hG3; have HW3 := Lib.hid hW3; have HB3 := Lib.hid (be_grown ((Below.refl w.heap.size w).alloc (Nat.le_refl _) _) hG3 (by simp) (fun j hj => by injection hj with hj; omega)); clear hW3 hG3)
  exact oget_end Tryz.results54 _ w _ _ (by kernel_rfl) (by kernel_rfl) rfl rfl rfl HW3.out HB3.out
set_option maxRecDepth 100000 in
theorem bytes_nil0 (w : World) : Calls Tryz.prog 30 #[.pointer none, .int .i64 0] w fun e w' => (∃ A c, e = .returned (.slice A 0 c)) ∧ Below w.heap.size w w' := by
  go_enter Tryz.func30, Tryz.ntmps30
  go_wp2_with fail
  refine (take_nil0 _).mono ?_
  rintro e w' ⟨rfl, rfl⟩
  go_wp2_with (refine wpList_of_string rfl 9 22 5 _ rfl _ [] rfl rfl Tryz.underlying9 Tryz.underlying22 Tryz.underlying5 (by unfold maxLen; decide) ?_; intro W c hby hz hB hs; have HB := Lib.hid hB; clear hby hz hB hs)
  go_ret
  exact ⟨⟨_, _, rfl⟩, HB.out⟩
set_option maxRecDepth 100000 in
theorem sclone_nil (w : World) : Calls Tryz.prog 99 #[.slice none 0 0] w fun e w' => e = .returned (.slice none 0 0) ∧ w = w' := by
  have hq : (binOp .eql 65 (.slice none 0 0) (.slice none 0 0)).run Tryz.prog w = .ok (.bool true) w := by kernel_rfl
  go_enter Tryz.func99, Tryz.ntmps99
  go_wp2
  go_ret
  exact ⟨rfl, rfl⟩
theorem scompact_nil (w : World) : Calls Tryz.prog 102 #[.slice none 0 0] w fun e w' => e = .returned (.slice none 0 0) ∧ w = w' := by
  go_enter Tryz.func102, Tryz.ntmps102
  go_wp2
  go_ret
  exact ⟨rfl, rfl⟩
theorem sinsert_nil (G : Value) (w : World) : Calls Tryz.prog 141 #[.slice none 0 0, .int .i64 0, .int .i64 0, G] w fun e w' => e = .returned (.tuple #[]) ∧ w = w' := by
  go_enter Tryz.func141, Tryz.ntmps141
  go_wp2
  go_loopw [8] (fun i wr => i = .int .i64 1 ∧ wr = w) (fun _ _ => 0)
  case atStart => exact ⟨rfl, rfl⟩
  case round =>
    obtain ⟨rfl, rfl⟩ := hrel
    go_wp2
    exact bodyPost_end (results_none rfl _ _ _) rfl ⟨rfl, rfl⟩
set_option maxRecDepth 100000 in
theorem spdq_nil (G : Value) (n : Int) (w : World) : Calls Tryz.prog 120 #[.slice none 0 0, .int .i64 0, .int .i64 0, .int .i64 n, G] w fun e w' => e = .returned (.tuple #[]) ∧ w = w' := by
  go_enter Tryz.func120, Tryz.ntmps120
  go_wp2_with fail
  go_loopw [1, 2, 3, 10, 11] (fun a b _ _ _ wr => a = .int .i64 0 ∧ b = .int .i64 0 ∧ wr = w) (fun _ _ _ _ _ _ => 0)
  case atStart => exact ⟨rfl, rfl, rfl⟩
  case round =>
    obtain ⟨rfl, rfl, rfl⟩ := hrel
    go_wp2_with fail
    refine (sinsert_nil _ _).mono ?_
    rintro e w' ⟨rfl, rfl⟩
    go_wp2
    exact bodyPost_ret (results_none rfl _ _ _) rfl ⟨rfl, rfl⟩
theorem len_zero (w : World) : Calls Tryz.prog 121 #[.int .u64 0] w fun e w' => e = .returned (.int .i64 0) ∧ w = w' := by
  refine (Tryz.bits_Len 0 w (by decide) (by decide)).mono ?_
  rintro e w' h
  obtain ⟨rfl, rfl⟩ := h
  exact ⟨by rfl, rfl⟩
theorem ssort_nil (G : Value) (w : World) : Calls Tryz.prog 100 #[.slice none 0 0, G] w fun e w' => e = .returned (.tuple #[]) ∧ w = w' := by
  go_enter Tryz.func100, Tryz.ntmps100
  go_wp2_with fail
  refine (len_zero _).mono ?_
  rintro e w' ⟨rfl, rfl⟩
  go_wp2_with fail
  refine (spdq_nil _ _ _).mono ?_
  rintro e w' ⟨rfl, rfl⟩
  go_wp2
  exact bodyPost_end (results_none rfl _ _ _) rfl ⟨rfl, rfl⟩
theorem osort_nil (w : World) : Calls Tryz.prog 57 #[.slice none 0 0] w fun e w' => e = .returned (.slice none 0 0) ∧ Below w.heap.size w w' := by
  go_enter Tryz.func57, Tryz.ntmps57
  go_wp2_with fail
  refine (sclone_nil _).mono ?_
  rintro e w' ⟨rfl, rfl⟩
  go_wp2_with fail
  refine (ssort_nil _ _).mono ?_
  rintro e w' ⟨rfl, rfl⟩
  go_wp2_with fail
  refine (scompact_nil _).mono ?_
  rintro e w' ⟨rfl, rfl⟩
  go_wp2
  go_ret
  exact ⟨rfl, Below.refl _ _⟩
end Go.Proofs.YtbljoeeekhdjkaaGreatDoor

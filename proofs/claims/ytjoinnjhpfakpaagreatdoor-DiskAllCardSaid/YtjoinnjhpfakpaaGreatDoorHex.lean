/-
  Hexadecimal digits; when.Bits, when.Put, walked.
-/
import Derived.Test.YtjoinnjhpfakpaaGreatDoorMha
import Derived.Test.YtjoinnjhpfakpaaGreatDoorMhc
namespace Go.Proofs.YtjoinnjhpfakpaaGreatDoor
open Go.RowKit

/-- A digit; the k digits of a number. -/
def hx (d : Nat) : UInt8 := if d < 10 then UInt8.ofNat (48 + d) else UInt8.ofNat (87 + d)
def hexs : Nat → Nat → List UInt8
  | 0, _ => []
  | j + 1, v => hx (v / 16 ^ j % 16) :: hexs j v
theorem hexs_len (j v : Nat) : (hexs j v).length = j := by
  induction j with
  | zero => rfl
  | succ j ih => simp [hexs, ih]
def hexDigits : ByteArray := ⟨#[48, 49, 50, 51, 52, 53, 54, 55, 56, 57, 97, 98, 99, 100, 101, 102]⟩
theorem hx_run (k : IntKind) (d : Nat) (hd : d < 16) (w : World) : (Instr.index 9 (.string ⟨#[48, 49, 50, 51, 52, 53, 54, 55, 56, 57, 97, 98, 99, 100, 101, 102]⟩) (.int k (d : Int))).run Tryz.prog w = .ok (.int .u8 ((hx d).toNat : Int)) w := by
  have h : d = 0 ∨ d = 1 ∨ d = 2 ∨ d = 3 ∨ d = 4 ∨ d = 5 ∨ d = 6 ∨ d = 7 ∨ d = 8 ∨ d = 9 ∨ d = 10 ∨ d = 11 ∨ d = 12 ∨ d = 13 ∨ d = 14 ∨ d = 15 := by omega
  rcases h with rfl | rfl | rfl | rfl | rfl | rfl | rfl | rfl | rfl | rfl | rfl | rfl | rfl | rfl | rfl | rfl
  all_goals (show _ = _; kernel_rfl)

/-- What Bits tells. -/
def bitsV (n : Nat) : Nat := if Flo.isNaN n then 9221120237041090561 else n
theorem bits_any (n : Nat) (w : World) : Calls Tryz.prog 149 #[.float .f64 n] w fun e w' => e = .returned (.int .u64 (bitsV n : Int)) ∧ w = w' := by
  have hb := bits_run n
  have HV : Hid (bitsV n = if Flo.isNaN n then 9221120237041090561 else n) := rfl
  have hnan := isnan_any n w
  cases h1 : Flo.isNaN n
  all_goals
    have H1 := Lib.hid h1
    rw [h1] at hnan
    have HN := Lib.hid hnan
    clear h1 hnan
    go_enter Tryz.func149, Tryz.ntmps149
    go_wp2_with (go_at_call 206; refine HN.out.mono ?_; rintro e w' ⟨rfl, rfl⟩)
    go_ret
    refine ⟨?_, rfl⟩
    rw [HV.out, H1.out]
    rfl

/-- The digits as they are being laid. -/
def harr (v j : Nat) : List Value := (List.replicate (16 - j) 0 ++ hexs j v).map Y
theorem harr_step (v j : Nat) (h : j < 16) : (harr v j).toArray.setIfInBounds (15 - j) (Y (hx (v / 16 ^ j % 16))) = (harr v (j + 1)).toArray := by
  apply Array.ext'
  simp only [harr, Array.toList_setIfInBounds, hexs, List.map_append, List.map_cons]
  obtain ⟨m, hm⟩ : ∃ m, 16 - j = m + 1 := ⟨15 - j, by omega⟩
  rw [hm, show 15 - j = m by omega, show 16 - (j + 1) = m by omega, List.replicate_succ', List.map_append, List.append_assoc, List.set_append_right _ _ (by simp)]
  simp
theorem harr_at (v j i : Nat) (hj : j ≤ 16) (hi : i < 16) : ∃ x : Int, (harr v j).toArray[i]? = some (.int .u8 x) := by
  have hl : (List.replicate (16 - j) 0 ++ hexs j v).length = 16 := by rw [List.length_append, hexs_len, List.length_replicate]; omega
  have h2 : ((List.replicate (16 - j) 0 ++ hexs j v).map Y)[i]? = some (Y ((List.replicate (16 - j) 0 ++ hexs j v).getD i 0)) := by
    rw [List.getElem?_map, List.getElem?_eq_getElem (by rw [hl]; exact hi)]
    simp [List.getElem?_eq_getElem (show i < (List.replicate (16 - j) 0 ++ hexs j v).length by rw [hl]; exact hi)]
  exact ⟨_, by rw [List.getElem?_toArray]; exact h2⟩

theorem put_bad (n : Nat) (w : World) (h : n < 18446744073709551616) (hm : Flo.may n = false) : Calls Tryz.prog 221 #[.float .f64 n] w fun e w' => e = .returned (.string ⟨#[]⟩) ∧ w = w' := by
  have hmay := may_any n w h
  rw [hm] at hmay
  have HM := Lib.hid hmay
  clear hmay hm
  go_enter Tryz.func221, Tryz.ntmps221
  go_wp2_with (go_at_call 268; refine HM.out.mono ?_; rintro e w' ⟨rfl, rfl⟩)
  go_ret
  exact ⟨rfl, rfl⟩
set_option maxRecDepth 100000 in
set_option maxHeartbeats 1000000 in
theorem put_good (n : Nat) (w : World) (h : n < 18446744073709551616) (hm : Flo.may n = true) : Calls Tryz.prog 221 #[.float .f64 n] w fun e w' => e = .returned (.string ⟨(hexs 16 (bitsV n)).toArray⟩) ∧ Below w.heap.size w w' := by
  have hmay := may_any n w h
  rw [hm] at hmay
  have HM := Lib.hid hmay
  have hbv : bitsV n < 18446744073709551616 := by unfold bitsV; split <;> omega
  clear hmay hm h
  go_enter Tryz.func221, Tryz.ntmps221
  go_wp2_with (first
    | (go_at_call 268; refine HM.out.mono ?_; rintro e w' ⟨rfl, rfl⟩)
    | (go_at_call 149; refine (bits_any n _).mono ?_; rintro e w' ⟨rfl, rfl⟩))
  generalize hv : bitsV n = v at *
  have HVV := Lib.hid hv
  clear hv
  go_loopw [4, 5] (fun r i wr => ∃ j : Nat, j ≤ 16 ∧ i = .int .i64 (15 - (j : Int)) ∧ r = .int .u64 ((v / 16 ^ j : Nat) : Int) ∧ Whole wr w.heap.size 341 (harr v j).toArray ∧ Below w.heap.size w wr) (fun _ i _ => (intOf i + 1).toNat)
  case atStart => exact ⟨0, by omega, rfl, by simp, Whole.made _ _ _, (Below.refl _ _).alloc (Nat.le_refl _) _⟩
  case round =>
    obtain ⟨j, hj, rfl, rfl, hW, hB⟩ := hrel
    have HW := Lib.hid hW
    have HB := Lib.hid hB
    clear hW hB
    by_cases hlt : j < 16
    · have hr : v / 16 ^ j < 18446744073709551616 := Nat.lt_of_le_of_lt (Nat.div_le_self _ _) hbv
      have HR : Hid (v / 16 ^ (j + 1) = v / 16 ^ j / 16) := by show _ = _; rw [Nat.pow_succ, Nat.div_div_eq_div_mul]
      obtain ⟨x, hx⟩ := harr_at v j (15 - j) hj (by omega)
      have hc : wr.cell? ⟨w.heap.size, 15 - j, none⟩ = some (.int .u8 x) := (HW.out.at_ (15 - j)).trans hx
      have hz := HW.out.thawed (15 - j)
      have hst := Lib.hid (harr_step v j hlt)
      generalize v / 16 ^ j = r at *
      have hidx := hx_run .u64 (r % 16) (by omega)
      rw [show ((r % 16 : Nat) : Int) = (r : Int) % 16 by omega] at hidx
      clear hx
      go_wp2
      go_roundw
      case rel =>
        refine ⟨j + 1, by omega, ?_, ?_, ?_, ?_⟩
        · rw [show (15 : Int) - (j : Int) - 1 = 15 - ((j + 1 : Nat) : Int) by omega]
        · rw [HR.out]; rfl
        · rw [← hst.out]; exact HW.out.put _ _
        · exact HB.out.setCell (Nat.le_refl _) _
      case measure => simp [intOf]; omega
    · have hW16 : Whole wr w.heap.size 341 ((hexs 16 v).map Y).toArray := by
        have := HW.out
        rw [show j = 16 by omega] at this
        exact this
      have hby : Bytes wr (.slice (some ⟨w.heap.size, 0, none⟩) 16 16) (hexs 16 v) := ⟨_, 16, by rw [hexs_len], by rw [hexs_len]; decide, by decide, fun _ => ⟨_, _, rfl, fun i hi => by
        rw [Nat.zero_add, hW16.at_ i, List.getElem?_toArray, ← some_y _ _ hi]⟩⟩
      have hcv := bytes_str (P := Tryz.prog) 97 9 5 Tryz.underlying97 Tryz.underlying5 Tryz.underlying9 hby
      clear hW16 hby HW
      generalize hdg : (hexs 16 v).toArray = digits at *
      have HD := Lib.hid hdg
      clear hdg
      go_wp2
      go_ret
      exact ⟨by rw [HVV.out, HD.out]; rfl, HB.out⟩
end Go.Proofs.YtjoinnjhpfakpaaGreatDoor

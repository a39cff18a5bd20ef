/-
  Numbers in hexadecimal digits, at their shortest: strconv.FormatInt at base 16; line.Put, walked.
-/
import Derived.Test.YtdjhkaofhdcalaaGreatDoorOidB
import Derived.Test.YtdjhkaofhdcalaaGreatDoorShelf
namespace Go.Proofs.YtdjhkaofhdcalaaGreatDoor
open Go.RowKit

/-- What the table of trailing zeros holds where 16 looks. -/
def Tz (w : World) : Prop := w.cell? ⟨6, 15, none⟩ = some (.int .u8 4)
theorem Tz.lt {w : World} (h : Tz w) : 6 < w.heap.size := World.block_lt_of_cell? w _ h
theorem Tz.below {w w' : World} {B : Nat} (h : Tz w) (hb : Below B w w') (h1 : 6 < B) : Tz w' := (hb.cell (by exact h1)).trans h
theorem tz64_16 (w : World) (h : Tz w) : Calls Tryz.prog 147 #[.int .u64 16] w fun e w' => e = .returned (.int .i64 4) ∧ w = w' := by
  have hc : w.cell? ⟨6, 15, none⟩ = some (.int .u8 4) := h
  clear h
  have key : IntKind.u64.wrap (bits BinOp.and IntKind.u64 16 (IntKind.u64.wrap (-16)) * 285870213051353865) / 288230376151711744 = ((15 : Nat) : Int) := by kernel_rfl
  go_enter Tryz.func147, Tryz.ntmps147
  go_wp2_with (simp only [key])
  go_ret
  exact ⟨rfl, rfl⟩
theorem tz_16 (w : World) (h : Tz w) : Calls Tryz.prog 141 #[.int .u64 16] w fun e w' => e = .returned (.int .i64 4) ∧ w = w' := by
  go_enter Tryz.func141, Tryz.ntmps141
  go_wp2_with (go_at_call 147; refine (tz64_16 _ h).mono ?_; rintro e w' ⟨rfl, rfl⟩)
  go_ret
  exact ⟨rfl, rfl⟩
theorem pow2_16 (w : World) : Calls Tryz.prog 140 #[.int .i64 16] w fun e w' => e = .returned (.bool true) ∧ w = w' := by
  go_enter Tryz.func140, Tryz.ntmps140
  go_wp2
  go_ret
  exact ⟨rfl, rfl⟩

/-- A digit, as the library's text of all digits has it. -/
theorem hx_lib (d : Nat) (hd : d < 16) (w : World) : (Instr.index 9 (.string ⟨#[48, 49, 50, 51, 52, 53, 54, 55, 56, 57, 97, 98, 99, 100, 101, 102, 103, 104, 105, 106, 107, 108, 109, 110, 111, 112, 113, 114, 115, 116, 117, 118, 119, 120, 121, 122]⟩) (.int .u64 (d : Int))).run Tryz.prog w = .ok (.int .u8 ((hx d).toNat : Int)) w := by
  have h : d = 0 ∨ d = 1 ∨ d = 2 ∨ d = 3 ∨ d = 4 ∨ d = 5 ∨ d = 6 ∨ d = 7 ∨ d = 8 ∨ d = 9 ∨ d = 10 ∨ d = 11 ∨ d = 12 ∨ d = 13 ∨ d = 14 ∨ d = 15 := by omega
  rcases h with rfl | rfl | rfl | rfl | rfl | rfl | rfl | rfl | rfl | rfl | rfl | rfl | rfl | rfl | rfl | rfl
  all_goals (show _ = _; kernel_rfl)

/-- The digits as they are being laid from behind, in 65 bytes. -/
def farr (v j : Nat) : List Value := (List.replicate (65 - j) 0 ++ hexs j v).map Y
theorem farr_step (v j : Nat) (h : j < 65) : (farr v j).toArray.setIfInBounds (64 - j) (Y (hx (v / 16 ^ j % 16))) = (farr v (j + 1)).toArray := by
  apply Array.ext'
  simp only [farr, Array.toList_setIfInBounds, hexs, List.map_append, List.map_cons]
  obtain ⟨m, hm⟩ : ∃ m, 65 - j = m + 1 := ⟨64 - j, by omega⟩
  rw [hm, show 64 - j = m by omega, show 65 - (j + 1) = m by omega, List.replicate_succ', List.map_append, List.append_assoc, List.set_append_right _ _ (by simp)]
  simp
theorem farr_at (v j i : Nat) (hj : j ≤ 65) (hi : i < 65) : ∃ x : Int, (farr v j).toArray[i]? = some (.int .u8 x) := by
  have hl : (List.replicate (65 - j) 0 ++ hexs j v).length = 65 := by rw [List.length_append, hexs_len, List.length_replicate]; omega
  have h2 : ((List.replicate (65 - j) 0 ++ hexs j v).map Y)[i]? = some (Y ((List.replicate (65 - j) 0 ++ hexs j v).getD i 0)) := by
    rw [List.getElem?_map, List.getElem?_eq_getElem (by rw [hl]; exact hi)]
    simp [List.getElem?_eq_getElem (show i < (List.replicate (65 - j) 0 ++ hexs j v).length by rw [hl]; exact hi)]
  exact ⟨_, by rw [List.getElem?_toArray]; exact h2⟩
theorem and_15n (n : Nat) (h : n < 18446744073709551616) : bits .and .u64 (n : Int) 15 = ((n % 16 : Nat) : Int) := by
  have h1 := bits_and_u64_nat n 15 h (by decide)
  rw [show n &&& 15 = n % 16 from Nat.and_two_pow_sub_one_eq_mod n 4] at h1
  exact h1
theorem hexs_cell (v k i : Nat) (hi : i < k) (hk : k ≤ 65) : (farr v k).toArray[65 - k + i]? = some (Y ((hexs k v).getD i 0)) := by
  rw [List.getElem?_toArray]
  unfold farr
  rw [List.map_append, List.getElem?_append_right (by simp), List.length_map, List.length_replicate, show 65 - k + i - (65 - k) = i by omega]
  have := hexs_len k v
  rw [← some_y _ _ (by omega)]
/-- How many digits a number has. -/
def IsDigs (v k : Nat) : Prop := v < 16 ^ (k + 1) ∧ (k = 0 ∨ 16 ^ k ≤ v)
set_option maxRecDepth 100000 in
set_option maxHeartbeats 2000000 in
theorem fbits_any (v : Nat) (w : World) (hv : v < 18446744073709551616) (hT : Tz w) :
    Calls Tryz.prog 118 #[.slice none 0 0, .int .u64 (v : Int), .int .i64 16, .bool false, .bool false] w fun e w' => ∃ k, IsDigs v k ∧ k < 16 ∧ e = .returned (.tuple #[.slice none 0 0, .string ⟨(hexs (k + 1) v).toArray⟩]) ∧ Below w.heap.size w w' := by
  have HT := Lib.hid hT
  have hlt0 := hT.lt
  clear hT
  go_enter Tryz.func118, Tryz.ntmps118
  go_wp2_with (first
    | (go_at_call 140; refine (pow2_16 _).mono ?_; rintro e w' ⟨rfl, rfl⟩)
    | (go_at_call 141; refine (tz_16 _ (HT.out.below ((Below.refl _ _).alloc (Nat.le_refl _) _) hlt0)).mono ?_; rintro e w' ⟨rfl, rfl⟩))
  go_loopw [1, 13] (fun r i wr => ∃ j m : Nat, j + m = 64 ∧ j ≤ 15 ∧ (j = 0 ∨ 16 ^ j ≤ v) ∧ i = .int .i64 ((m : Int) + 1) ∧ r = .int .u64 ((v / 16 ^ j : Nat) : Int) ∧ Whole wr w.heap.size 164 (farr v j).toArray ∧ Below w.heap.size w wr) (fun _ i _ => (intOf i).toNat)
  case atStart => exact ⟨0, 64, rfl, by omega, .inl rfl, rfl, by simp, Whole.made _ _ _, (Below.refl _ _).alloc (Nat.le_refl _) _⟩
  case round =>
    obtain ⟨j, m, hjm, hj, hjv, rfl, rfl, hW, hB⟩ := hrel
    have HW := Lib.hid hW
    have HB := Lib.hid hB
    have hr : v / 16 ^ j < 18446744073709551616 := Nat.lt_of_le_of_lt (Nat.div_le_self _ _) hv
    have HR : Hid (v / 16 ^ (j + 1) = v / 16 ^ j / 16) := by show _ = _; rw [Nat.pow_succ, Nat.div_div_eq_div_mul]
    obtain ⟨x, hx⟩ := farr_at v j m (by omega) (by omega)
    have hc : wr.cell? ⟨w.heap.size, m, none⟩ = some (.int .u8 x) := (HW.out.at_ m).trans hx
    have hz := HW.out.thawed m
    have hst := farr_step v j (by omega)
    rw [show 64 - j = m by omega] at hst
    have HST := Lib.hid hst
    have HJV := Lib.hid hjv
    have hpos : 0 < 16 ^ j := Nat.pow_pos (by decide)
    have HGE : Hid (16 ≤ v / 16 ^ j → 16 ^ (j + 1) ≤ v) := fun h => by
      rw [Nat.pow_succ, Nat.mul_comm]
      exact (Nat.le_div_iff_mul_le hpos).1 h
    have HLT : Hid (v / 16 ^ j < 16 → v < 16 ^ (j + 1)) := fun h => by
      rw [Nat.pow_succ, Nat.mul_comm]
      exact (Nat.div_lt_iff_lt_mul hpos).1 h
    clear hx hst hjv hW hB hpos
    by_cases hge : 16 ≤ v / 16 ^ j
    · have HG := HGE.out hge
      have hj2 : j + 1 ≤ 15 := by
        have h1 : 16 ^ (j + 1) < 16 ^ 16 := Nat.lt_of_le_of_lt HG hv
        have := (Nat.pow_lt_pow_iff_right (a := 16) (by decide)).1 h1
        omega
      have HG2 := Lib.hid HG
      clear HG
      generalize v / 16 ^ j = r at *
      have hidx := hx_lib (r % 16) (by omega)
      rw [show ((r % 16 : Nat) : Int) = (r : Int) % 16 by omega] at hidx
      have hand := and_15n r hr
      rw [show ((r % 16 : Nat) : Int) = (r : Int) % 16 by omega] at hand
      go_wp2
      go_roundw
      case rel =>
        refine ⟨j + 1, m - 1, by omega, hj2, .inr HG2.out, ?_, ?_, ?_, ?_⟩
        · rw [show ((m - 1 : Nat) : Int) + 1 = (m : Int) by omega]
        · rw [HR.out]; rfl
        · rw [← HST.out]; exact HW.out.put _ _
        · exact HB.out.setCell (Nat.le_refl _) _
      case measure => simp [intOf]
    · have HL := Lib.hid (HLT.out (by omega))
      have HE : Hid ((Whole (wr.setCell ⟨w.heap.size, m, none⟩ (Y (hx (v / 16 ^ j)))) w.heap.size 164 (farr v (j + 1)).toArray)) := by
        show Whole _ _ _ _
        rw [← HST.out, Nat.mod_eq_of_lt (Nat.lt_of_not_le hge)]
        exact HW.out.put _ _
      have hby : Bytes (wr.setCell ⟨w.heap.size, m, none⟩ (Y (hx (v / 16 ^ j)))) (.slice (some ⟨w.heap.size, 0 + m, none⟩) (65 - m) (65 - m)) (hexs (j + 1) v) := ⟨_, 65 - m, by rw [hexs_len, show 65 - m = j + 1 by omega], by rw [hexs_len]; omega, by unfold maxLen; omega, fun _ => ⟨_, _, rfl, fun i hi => by
        rw [hexs_len] at hi
        have := hexs_cell v (j + 1) i hi (by omega)
        rw [show 65 - (j + 1) = m by omega] at this
        rw [Nat.zero_add, HE.out.at_ (m + i), this]⟩⟩
      have hcv := bytes_str (P := Tryz.prog) 39 9 5 Tryz.underlying39 Tryz.underlying5 Tryz.underlying9 hby
      have HD2 : Hid (IsDigs v j) := ⟨HL.out, HJV.out⟩
      clear hby HE
      generalize v / 16 ^ j = r at *
      have hidx := hx_lib r (by omega)
      have hsl := run_slice_arr (P := Tryz.prog) 164 5 65 w.heap.size 0 m Tryz.underlying164 (by kernel_rfl) (by omega)
      unfold Y at hcv
      rw [Nat.zero_add] at hsl hcv
      generalize hdg : (hexs (j + 1) v).toArray = digits at *
      have HDG := Lib.hid hdg
      clear hdg
      go_wp2
      go_ret2
      refine ⟨j, HD2.out, by omega, ?_, ?_⟩
      · rw [HDG.out]; rfl
      · exact HB.out.setCell (Nat.le_refl _) _
theorem ifmt_any (v : Nat) (w : World) (hv : v < 9223372036854775808) (hT : Tz w) :
    Calls Tryz.prog 84 #[.int .i64 (v : Int), .int .i64 16] w fun e w' => ∃ k, IsDigs v k ∧ k < 16 ∧ e = .returned (.string ⟨(hexs (k + 1) v).toArray⟩) ∧ Below w.heap.size w w' := by
  have HT := Lib.hid hT
  clear hT
  go_enter Tryz.func84, Tryz.ntmps84
  go_wp2_with fail
  refine (fbits_any v _ (by omega) HT.out).mono ?_
  rintro e w' ⟨k, hk, hk2, rfl, hB⟩
  have HK := Lib.hid hk
  have HK2 := Lib.hid hk2
  have HB := Lib.hid hB
  clear hk hk2 hB
  go_wp2
  go_ret
  exact ⟨k, HK.out, HK2.out, rfl, HB.out⟩
theorem fmt_any (v : Nat) (w : World) (hv : v < 9223372036854775808) (hT : Tz w) :
    Calls Tryz.prog 62 #[.int .i64 (v : Int), .int .i64 16] w fun e w' => ∃ k, IsDigs v k ∧ k < 16 ∧ e = .returned (.string ⟨(hexs (k + 1) v).toArray⟩) ∧ Below w.heap.size w w' := by
  have HT := Lib.hid hT
  clear hT
  go_enter Tryz.func62, Tryz.ntmps62
  go_wp2_with fail
  refine (ifmt_any v _ hv HT.out).mono ?_
  rintro e w' ⟨k, hk, hk2, rfl, hB⟩
  have HK := Lib.hid hk
  have HK2 := Lib.hid hk2
  have HB := Lib.hid hB
  clear hk hk2 hB
  go_wp2
  go_ret
  exact ⟨k, HK.out, HK2.out, rfl, HB.out⟩
theorem hexs_pad (v k m : Nat) (h : v < 16 ^ k) : hexs (m + k) v = List.replicate m 48 ++ hexs k v := by
  induction m with
  | zero => simp
  | succ m ih =>
    have hle : 16 ^ k ≤ 16 ^ (m + k) := Nat.pow_le_pow_right (by decide) (by omega)
    rw [show m + 1 + k = (m + k) + 1 by omega, hexs, ih, Nat.div_eq_of_lt (by omega), List.replicate_succ]
    rfl
theorem repeat_0 (m : Nat) : Lib.repeatL [48] m = List.replicate m 48 := by
  induction m with
  | zero => rfl
  | succ m ih => simp [Lib.repeatL, List.replicate_succ] at ih ⊢; exact ih

/-- line.Put. -/
theorem lput_bad (s : List UInt8) (w : World) (h : s = [] ∨ 1000 < s.length) : Calls Tryz.prog 27 #[.string ⟨s.toArray⟩] w fun e w' => e = .returned (.tuple #[.string ⟨#[]⟩, .bool false]) ∧ w = w' := by
  rcases h with rfl | h
  · go_enter Tryz.func27, Tryz.ntmps27
    go_wp2
    go_ret2
    exact ⟨rfl, rfl⟩
  · have he : s.isEmpty = false := by cases s with | nil => simp at h | cons => rfl
    have hd : decide (1000 < (s.length : Int)) = true := by simp; omega
    go_enter Tryz.func27, Tryz.ntmps27
    go_wp2
    go_ret2
    exact ⟨rfl, rfl⟩
theorem digs_4 (v k : Nat) (h : IsDigs v k) (hv : v < 16 ^ 4) : k < 4 ∧ List.replicate (4 - (k + 1)) 48 ++ hexs (k + 1) v = hexs 4 v := by
  have hk : k < 4 := by
    rcases h.2 with rfl | h2
    · decide
    · exact (Nat.pow_lt_pow_iff_right (a := 16) (by decide)).1 (Nat.lt_of_le_of_lt h2 hv)
  refine ⟨hk, ?_⟩
  rw [← hexs_pad v (k + 1) (4 - (k + 1)) h.1, show 4 - (k + 1) + (k + 1) = 4 by omega]
set_option maxHeartbeats 1000000 in
theorem lput_good (s : List UInt8) (w : World) (hT : Tz w) (h0 : s ≠ []) (h : s.length ≤ 1000) : Calls Tryz.prog 27 #[.string ⟨s.toArray⟩] w fun e w' => e = .returned (.tuple #[.string ⟨(hexs 4 (4 + s.length) ++ s).toArray⟩, .bool true]) ∧ Below w.heap.size w w' := by
  have HT := Lib.hid hT
  have he : s.isEmpty = false := by cases s with | nil => exact absurd rfl h0 | cons => rfl
  have hd : decide (1000 < (s.length : Int)) = false := by simp; omega
  clear h0 hT
  go_enter Tryz.func27, Tryz.ntmps27
  go_wp2_with fail
  have hf := fmt_any (4 + s.length) w (by omega) HT.out
  rw [show ((4 + s.length : Nat) : Int) = 4 + (s.length : Int) by omega] at hf
  refine hf.mono ?_
  rintro e w1 ⟨k, hk, -, rfl, hB⟩
  obtain ⟨hk4, hp⟩ := digs_4 _ _ hk (by omega)
  have hln := hexs_len (k + 1) (4 + s.length)
  have HB := Lib.hid hB
  generalize hdg : hexs (k + 1) (4 + s.length) = dg at *
  have hzl : (List.replicate (4 - (k + 1)) (48 : UInt8)).length = 4 - (k + 1) := List.length_replicate
  generalize hzs : List.replicate (4 - (k + 1)) (48 : UInt8) = zs at *
  have HP := Lib.hid hp
  have HZ := Lib.hid hzs
  clear hf hk hB hp hdg hzs
  have hrep := Tryz.strings_Repeat ⟨#[48]⟩ (4 - (k + 1)) w1 (by omega) (by show 1 * _ ≤ _; omega)
  rw [show (ByteArray.mk #[48]).data.toList = [48] from rfl, repeat_0, HZ.out, show ((4 - (k + 1) : Nat) : Int) = 4 - ((k : Int) + 1) by omega] at hrep
  have HR := Lib.hid hrep
  clear hrep
  go_wp2_with fail
  refine HR.out.mono ?_
  rintro e w2 ⟨rfl, hB2⟩
  have HB2 := Lib.hid (HB.out.trans (hB2.mono HB.out.size))
  clear hB2
  go_wp2
  go_ret2
  exact ⟨by rw [ba_append zs dg, ba_append (zs ++ dg) s, HP.out]; rfl, HB2.out⟩
end Go.Proofs.YtdjhkaofhdcalaaGreatDoor

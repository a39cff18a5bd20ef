/-
  Numbers in hexadecimal digits, at their shortest: strconv.FormatInt at base 16; line.Put, walked.
  line.length, line.first, walked.
  line.Get, line.All, walked.
  line.All, walked.
  line.All, walked, to its end.
-/
import Derived.Test.YtfaijkgfhdhhbaaGreatDoorMgd
import Derived.Test.YtfaijkgfhdhhbaaGreatDoorShelf
import Derived.Test.YtfaijkgfhdhhbaaGreatDoorMga
import Derived.Laws.DeepStrings4
import Derived.Maps.AppendAt
import Derived.OwnWalk
namespace Go.Proofs.YtfaijkgfhdhhbaaGreatDoor
open Go.RowKit

/-- What the table of trailing zeros holds where 16 looks. -/
def Tz (w : World) : Prop := w.cell? ⟨8, 15, none⟩ = some (.int .u8 4)
theorem Tz.lt {w : World} (h : Tz w) : 8 < w.heap.size := World.block_lt_of_cell? w _ h
theorem Tz.below {w w' : World} {B : Nat} (h : Tz w) (hb : Below B w w') (h1 : 8 < B) : Tz w' := (hb.cell (by exact h1)).trans h
theorem tz64_16 (w : World) (h : Tz w) : Calls Tryz.prog 192 #[.int .u64 16] w fun e w' => e = .returned (.int .i64 4) ∧ w = w' := by
  have hc : w.cell? ⟨8, 15, none⟩ = some (.int .u8 4) := h
  clear h
  have key : IntKind.u64.wrap (bits BinOp.and IntKind.u64 16 (IntKind.u64.wrap (-16)) * 285870213051353865) / 288230376151711744 = ((15 : Nat) : Int) := by kernel_rfl
  go_enter Tryz.func192, Tryz.ntmps192
  go_wp2_with (simp only [key])
  go_ret
  exact ⟨rfl, rfl⟩
theorem tz_16 (w : World) (h : Tz w) : Calls Tryz.prog 186 #[.int .u64 16] w fun e w' => e = .returned (.int .i64 4) ∧ w = w' := by
  go_enter Tryz.func186, Tryz.ntmps186
  go_wp2_with (go_at_call 192; refine (tz64_16 _ h).mono ?_; rintro e w' ⟨rfl, rfl⟩)
  go_ret
  exact ⟨rfl, rfl⟩
theorem pow2_16 (w : World) : Calls Tryz.prog 185 #[.int .i64 16] w fun e w' => e = .returned (.bool true) ∧ w = w' := by
  go_enter Tryz.func185, Tryz.ntmps185
  go_wp2
  go_ret
  exact ⟨rfl, rfl⟩

/-- A digit, as the library's text of all digits has it. -/
theorem hx_lib (d : Nat) (hd : d < 16) (w : World) : (Instr.index 9 (.string ⟨#[48, 49, 50, 51, 52, 53, 54, 55, 56, 57, 97, 98, 99, 100, 101, 102, 103, 104, 105, 106, 107, 108, 109, 110, 111, 112, 113, 114, 115, 116, 117, 118, 119, 120, 121, 122]⟩) (.int .u64 (d : Int))).run Tryz.prog w = .ok (.int .u8 ((hx d).toNat : Int)) w := by
  have h : d = 0 ∨ d = 1 ∨ d = 2 ∨ d = 3 ∨ d = 4 ∨ d = 5 ∨ d = 6 ∨ d = 7 ∨ d = 8 ∨ d = 9 ∨ d = 10 ∨ d = 11 ∨ d = 12 ∨ d = 13 ∨ d = 14 ∨ d = 15 := by omega
  rcases h with rfl | rfl | rfl | rfl | rfl | rfl | rfl | rfl | rfl | rfl | rfl | rfl | rfl | rfl | rfl | rfl
  all_goals (show _ = _; kernel_rfl)

/-- The digits as they are being laid from behind, in 65 bytes. -/
def farr (v j : Nat) : List Value := (List.replicate (65 - j) 0 ++ hexs j v).map Y
theorem farr_step (v j : Nat) (h : j < 65) : (farr v j).toArray.setIfInBounds (64 - j) (Y (hx (v / 16 ^ j % 16))) = (farr v (j + 1)).toArray := by
  apply Array.ext'
  simp only [farr, Array.toList_setIfInBounds, hexs, List.map_append, List.map_cons]
  obtain ⟨m, hm⟩ : ∃ m, 65 - j = m + 1 := ⟨64 - j, by omega⟩
  rw [hm, show 64 - j = m by omega, show 65 - (j + 1) = m by omega, List.replicate_succ', List.map_append, List.append_assoc, List.set_append_right _ _ (by simp)]
  simp
theorem farr_at (v j i : Nat) (hj : j ≤ 65) (hi : i < 65) : ∃ x : Int, (farr v j).toArray[i]? = some (.int .u8 x) := by
  have hl : (List.replicate (65 - j) 0 ++ hexs j v).length = 65 := by rw [List.length_append, hexs_len, List.length_replicate]; omega
  have h2 : ((List.replicate (65 - j) 0 ++ hexs j v).map Y)[i]? = some (Y ((List.replicate (65 - j) 0 ++ hexs j v).getD i 0)) := by
    rw [List.getElem?_map, List.getElem?_eq_getElem (by rw [hl]; exact hi)]
    simp [List.getElem?_eq_getElem (show i < (List.replicate (65 - j) 0 ++ hexs j v).length by rw [hl]; exact hi)]
  exact ⟨_, by rw [List.getElem?_toArray]; exact h2⟩
theorem and_15n (n : Nat) (h : n < 18446744073709551616) : bits .and .u64 (n : Int) 15 = ((n % 16 : Nat) : Int) := by
  have h1 := bits_and_u64_nat n 15 h (by decide)
  rw [show n &&& 15 = n % 16 from Nat.and_two_pow_sub_one_eq_mod n 4] at h1
  exact h1
theorem hexs_cell (v k i : Nat) (hi : i < k) (hk : k ≤ 65) : (farr v k).toArray[65 - k + i]? = some (Y ((hexs k v).getD i 0)) := by
  rw [List.getElem?_toArray]
  unfold farr
  rw [List.map_append, List.getElem?_append_right (by simp), List.length_map, List.length_replicate, show 65 - k + i - (65 - k) = i by omega]
  have := hexs_len k v
  rw [← some_y _ _ (by omega)]
/-- How many digits a number has. -/
def IsDigs (v k : Nat) : Prop := v < 16 ^ (k + 1) ∧ (k = 0 ∨ 16 ^ k ≤ v)
set_option maxRecDepth 100000 in
set_option maxHeartbeats 2000000 in
theorem fbits_any (v : Nat) (w : World) (hv : v < 18446744073709551616) (hT : Tz w) :
    Calls Tryz.prog 171 #[.slice none 0 0, .int .u64 (v : Int), .int .i64 16, .bool false, .bool false] w fun e w' => ∃ k, IsDigs v k ∧ k < 16 ∧ e = .returned (.tuple #[.slice none 0 0, .string ⟨(hexs (k + 1) v).toArray⟩]) ∧ Below w.heap.size w w' := by
  have HT := Lib.hid hT
  have hlt0 := hT.lt
  clear hT
  go_enter Tryz.func171, Tryz.ntmps171
  go_wp2_with (first
    | (go_at_call 185; refine (pow2_16 _).mono ?_; rintro e w' ⟨rfl, rfl⟩)
    | (go_at_call 186; refine (tz_16 _ (HT.out.below ((Below.refl _ _).alloc (Nat.le_refl _) _) hlt0)).mono ?_; rintro e w' ⟨rfl, rfl⟩))
  go_loopw [1, 13] (fun r i wr => ∃ j m : Nat, j + m = 64 ∧ j ≤ 15 ∧ (j = 0 ∨ 16 ^ j ≤ v) ∧ i = .int .i64 ((m : Int) + 1) ∧ r = .int .u64 ((v / 16 ^ j : Nat) : Int) ∧ Whole wr w.heap.size 207 (farr v j).toArray ∧ Below w.heap.size w wr) (fun _ i _ => (intOf i).toNat)
  case atStart => exact ⟨0, 64, rfl, by omega, .inl rfl, rfl, by simp, Whole.made _ _ _, (Below.refl _ _).alloc (Nat.le_refl _) _⟩
  case round =>
    obtain ⟨j, m, hjm, hj, hjv, rfl, rfl, hW, hB⟩ := hrel
    have HW := Lib.hid hW
    have HB := Lib.hid hB
    have hr : v / 16 ^ j < 18446744073709551616 := Nat.lt_of_le_of_lt (Nat.div_le_self _ _) hv
    have HR : Hid (v / 16 ^ (j + 1) = v / 16 ^ j / 16) := by show _ = _; rw [Nat.pow_succ, Nat.div_div_eq_div_mul]
    obtain ⟨x, hx⟩ := farr_at v j m (by omega) (by omega)
    have hc : wr.cell? ⟨w.heap.size, m, none⟩ = some (.int .u8 x) := (HW.out.at_ m).trans hx
    have hz := HW.out.thawed m
    have hst := farr_step v j (by omega)
    rw [show 64 - j = m by omega] at hst
    have HST := Lib.hid hst
    have HJV := Lib.hid hjv
    have hpos : 0 < 16 ^ j := Nat.pow_pos (by decide)
    have HGE : Hid (16 ≤ v / 16 ^ j → 16 ^ (j + 1) ≤ v) := fun h => by
      rw [Nat.pow_succ, Nat.mul_comm]
      exact (Nat.le_div_iff_mul_le hpos).1 h
    have HLT : Hid (v / 16 ^ j < 16 → v < 16 ^ (j + 1)) := fun h => by
      rw [Nat.pow_succ, Nat.mul_comm]
      exact (Nat.div_lt_iff_lt_mul hpos).1 h
    clear hx hst hjv hW hB hpos
    by_cases hge : 16 ≤ v / 16 ^ j
    · have HG := HGE.out hge
      have hj2 : j + 1 ≤ 15 := by
        have h1 : 16 ^ (j + 1) < 16 ^ 16 := Nat.lt_of_le_of_lt HG hv
        have := (Nat.pow_lt_pow_iff_right (a := 16) (by decide)).1 h1
        omega
      have HG2 := Lib.hid HG
      clear HG
      generalize v / 16 ^ j = r at *
      have hidx := hx_lib (r % 16) (by omega)
      rw [show ((r % 16 : Nat) : Int) = (r : Int) % 16 by omega] at hidx
      have hand := and_15n r hr
      rw [show ((r % 16 : Nat) : Int) = (r : Int) % 16 by omega] at hand
      go_wp2
      go_roundw
      case rel =>
        refine ⟨j + 1, m - 1, by omega, hj2, .inr HG2.out, ?_, ?_, ?_, ?_⟩
        · rw [show ((m - 1 : Nat) : Int) + 1 = (m : Int) by omega]
        · rw [HR.out]; rfl
        · rw [← HST.out]; exact HW.out.put _ _
        · exact HB.out.setCell (Nat.le_refl _) _
      case measure => simp [intOf]
    · have HL := Lib.hid (HLT.out (by omega))
      have HE : Hid ((Whole (wr.setCell ⟨w.heap.size, m, none⟩ (Y (hx (v / 16 ^ j)))) w.heap.size 207 (farr v (j + 1)).toArray)) := by
        show Whole _ _ _ _
        rw [← HST.out, Nat.mod_eq_of_lt (Nat.lt_of_not_le hge)]
        exact HW.out.put _ _
      have hby : Bytes (wr.setCell ⟨w.heap.size, m, none⟩ (Y (hx (v / 16 ^ j)))) (.slice (some ⟨w.heap.size, 0 + m, none⟩) (65 - m) (65 - m)) (hexs (j + 1) v) := ⟨_, 65 - m, by rw [hexs_len, show 65 - m = j + 1 by omega], by rw [hexs_len]; omega, by unfold maxLen; omega, fun _ => ⟨_, _, rfl, fun i hi => by
        rw [hexs_len] at hi
        have := hexs_cell v (j + 1) i hi (by omega)
        rw [show 65 - (j + 1) = m by omega] at this
        rw [Nat.zero_add, HE.out.at_ (m + i), this]⟩⟩
      have hcv := bytes_str (P := Tryz.prog) 78 9 5 Tryz.underlying78 Tryz.underlying5 Tryz.underlying9 hby
      have HD2 : Hid (IsDigs v j) := ⟨HL.out, HJV.out⟩
      clear hby HE
      generalize v / 16 ^ j = r at *
      have hidx := hx_lib r (by omega)
      have hsl := run_slice_arr (P := Tryz.prog) 207 5 65 w.heap.size 0 m Tryz.underlying207 (by kernel_rfl) (by omega)
      unfold Y at hcv
      rw [Nat.zero_add] at hsl hcv
      generalize hdg : (hexs (j + 1) v).toArray = digits at *
      have HDG := Lib.hid hdg
      clear hdg
      go_wp2
      go_ret2
      refine ⟨j, HD2.out, by omega, ?_, ?_⟩
      · rw [HDG.out]; rfl
      · exact HB.out.setCell (Nat.le_refl _) _
theorem ifmt_any (v : Nat) (w : World) (hv : v < 9223372036854775808) (hT : Tz w) :
    Calls Tryz.prog 149 #[.int .i64 (v : Int), .int .i64 16] w fun e w' => ∃ k, IsDigs v k ∧ k < 16 ∧ e = .returned (.string ⟨(hexs (k + 1) v).toArray⟩) ∧ Below w.heap.size w w' := by
  have HT := Lib.hid hT
  clear hT
  go_enter Tryz.func149, Tryz.ntmps149
  go_wp2_with fail
  refine (fbits_any v _ (by omega) HT.out).mono ?_
  rintro e w' ⟨k, hk, hk2, rfl, hB⟩
  have HK := Lib.hid hk
  have HK2 := Lib.hid hk2
  have HB := Lib.hid hB
  clear hk hk2 hB
  go_wp2
  go_ret
  exact ⟨k, HK.out, HK2.out, rfl, HB.out⟩
theorem fmt_any (v : Nat) (w : World) (hv : v < 9223372036854775808) (hT : Tz w) :
    Calls Tryz.prog 139 #[.int .i64 (v : Int), .int .i64 16] w fun e w' => ∃ k, IsDigs v k ∧ k < 16 ∧ e = .returned (.string ⟨(hexs (k + 1) v).toArray⟩) ∧ Below w.heap.size w w' := by
  have HT := Lib.hid hT
  clear hT
  go_enter Tryz.func139, Tryz.ntmps139
  go_wp2_with fail
  refine (ifmt_any v _ hv HT.out).mono ?_
  rintro e w' ⟨k, hk, hk2, rfl, hB⟩
  have HK := Lib.hid hk
  have HK2 := Lib.hid hk2
  have HB := Lib.hid hB
  clear hk hk2 hB
  go_wp2
  go_ret
  exact ⟨k, HK.out, HK2.out, rfl, HB.out⟩
theorem hexs_pad (v k m : Nat) (h : v < 16 ^ k) : hexs (m + k) v = List.replicate m 48 ++ hexs k v := by
  induction m with
  | zero => simp
  | succ m ih =>
    have hle : 16 ^ k ≤ 16 ^ (m + k) := Nat.pow_le_pow_right (by decide) (by omega)
    rw [show m + 1 + k = (m + k) + 1 by omega, hexs, ih, Nat.div_eq_of_lt (by omega), List.replicate_succ]
    rfl
theorem repeat_0 (m : Nat) : Lib.repeatL [48] m = List.replicate m 48 := by
  induction m with
  | zero => rfl
  | succ m ih => simp [Lib.repeatL, List.replicate_succ] at ih ⊢; exact ih

/-- line.Put. -/
theorem lput_bad (s : List UInt8) (w : World) (h : s = [] ∨ 1000 < s.length) : Calls Tryz.prog 104 #[.string ⟨s.toArray⟩] w fun e w' => e = .returned (.tuple #[.string ⟨#[]⟩, .bool false]) ∧ w = w' := by
  rcases h with rfl | h
  · go_enter Tryz.func104, Tryz.ntmps104
    go_wp2
    go_ret2
    exact ⟨rfl, rfl⟩
  · have he : s.isEmpty = false := by cases s with | nil => simp at h | cons => rfl
    have hd : decide (1000 < (s.length : Int)) = true := by simp; omega
    go_enter Tryz.func104, Tryz.ntmps104
    go_wp2
    go_ret2
    exact ⟨rfl, rfl⟩
theorem digs_4 (v k : Nat) (h : IsDigs v k) (hv : v < 16 ^ 4) : k < 4 ∧ List.replicate (4 - (k + 1)) 48 ++ hexs (k + 1) v = hexs 4 v := by
  have hk : k < 4 := by
    rcases h.2 with rfl | h2
    · decide
    · exact (Nat.pow_lt_pow_iff_right (a := 16) (by decide)).1 (Nat.lt_of_le_of_lt h2 hv)
  refine ⟨hk, ?_⟩
  rw [← hexs_pad v (k + 1) (4 - (k + 1)) h.1, show 4 - (k + 1) + (k + 1) = 4 by omega]
set_option maxHeartbeats 1000000 in
theorem lput_good (s : List UInt8) (w : World) (hT : Tz w) (h0 : s ≠ []) (h : s.length ≤ 1000) : Calls Tryz.prog 104 #[.string ⟨s.toArray⟩] w fun e w' => e = .returned (.tuple #[.string ⟨(hexs 4 (4 + s.length) ++ s).toArray⟩, .bool true]) ∧ Below w.heap.size w w' := by
  have HT := Lib.hid hT
  have he : s.isEmpty = false := by cases s with | nil => exact absurd rfl h0 | cons => rfl
  have hd : decide (1000 < (s.length : Int)) = false := by simp; omega
  clear h0 hT
  go_enter Tryz.func104, Tryz.ntmps104
  go_wp2_with fail
  have hf := fmt_any (4 + s.length) w (by omega) HT.out
  rw [show ((4 + s.length : Nat) : Int) = 4 + (s.length : Int) by omega] at hf
  refine hf.mono ?_
  rintro e w1 ⟨k, hk, -, rfl, hB⟩
  obtain ⟨hk4, hp⟩ := digs_4 _ _ hk (by omega)
  have hln := hexs_len (k + 1) (4 + s.length)
  have HB := Lib.hid hB
  generalize hdg : hexs (k + 1) (4 + s.length) = dg at *
  have hzl : (List.replicate (4 - (k + 1)) (48 : UInt8)).length = 4 - (k + 1) := List.length_replicate
  generalize hzs : List.replicate (4 - (k + 1)) (48 : UInt8) = zs at *
  have HP := Lib.hid hp
  have HZ := Lib.hid hzs
  clear hf hk hB hp hdg hzs
  have hrep := Tryz.strings_Repeat ⟨#[48]⟩ (4 - (k + 1)) w1 (by omega) (by show 1 * _ ≤ _; omega)
  rw [show (ByteArray.mk #[48]).data.toList = [48] from rfl, repeat_0, HZ.out, show ((4 - (k + 1) : Nat) : Int) = 4 - ((k : Int) + 1) by omega] at hrep
  have HR := Lib.hid hrep
  clear hrep
  go_wp2_with fail
  refine HR.out.mono ?_
  rintro e w2 ⟨rfl, hB2⟩
  have HB2 := Lib.hid (HB.out.trans (hB2.mono HB.out.size))
  clear hB2
  go_wp2
  go_ret2
  exact ⟨by rw [ba_append zs dg, ba_append (zs ++ dg) s, HP.out]; rfl, HB2.out⟩
end Go.Proofs.YtfaijkgfhdhhbaaGreatDoor
namespace Go.Proofs.YtfaijkgfhdhhbaaGreatDoor
open Go.RowKit

/-- What a sign stands for among the digits; below 0: nothing. -/
def hval (c : UInt8) : Int := Lib.indexByte [48, 49, 50, 51, 52, 53, 54, 55, 56, 57, 97, 98, 99, 100, 101, 102] c
theorem hval_lt (c : UInt8) : hval c < 16 := by
  have h : ∀ n, n < 256 → hval (UInt8.ofNat n) < 16 := by decide +kernel
  have := h c.toNat c.toNat_lt
  rwa [UInt8.ofNat_toNat] at this
theorem digit_any (c : UInt8) (w : World) : Calls Tryz.prog 154 #[.string ⟨#[48, 49, 50, 51, 52, 53, 54, 55, 56, 57, 97, 98, 99, 100, 101, 102]⟩, .int .u8 (c.toNat : Int)] w fun e w' => e = .returned (.int .i64 (hval c)) ∧ w = w' := by
  refine (Tryz.strings_IndexByte ⟨#[48, 49, 50, 51, 52, 53, 54, 55, 56, 57, 97, 98, 99, 100, 101, 102]⟩ (c.toNat : Int) w).mono ?_
  rintro e w' ⟨rfl, rfl⟩
  refine ⟨?_, rfl⟩
  rw [show ((c.toNat : Int).toNat.toUInt8) = c by simp]
  rfl
theorem str_at (l : List UInt8) (k : Nat) (h : k < l.length) (w : World) : (Instr.index 9 (.string ⟨l.toArray⟩) (.int .i64 (k : Int))).run Tryz.prog w = .ok (.int .u8 ((l.getD k 0).toNat : Int)) w := by
  rw [run_index_string (w := w) 9 _ _ _ Tryz.underlying9, dif_pos ⟨by omega, by show (k : Int) < ((l.toArray.size : Nat) : Int); simp; omega⟩]
  simp only [Int.toNat_natCast]
  have : (ByteArray.mk l.toArray)[k]'(by show k < l.toArray.size; simpa using h) = l.getD k 0 := by
    show l.toArray[k]'_ = _
    simp [List.getElem?_eq_getElem h]
  rw [this]
/-- What the signs say: a length, or an error. -/
def lenGo : Nat → Nat → List UInt8 → Nat ⊕ Int
  | 0, z, _ => .inl z
  | _ + 1, _, [] => .inr 2
  | f + 1, z, c :: r => if hval c < 0 then .inr 1 else if (z * 16 + (hval c).toNat) * 16 ^ f ≤ 1004 then lenGo f (z * 16 + (hval c).toNat) r else .inr 1
def lenE : Nat ⊕ Int → Ending → Prop
  | .inl n, e => e = .returned (.int .i64 (n : Int))
  | .inr c, e => e = .panicked (fault c)
theorem must_if (b : Bool) (c : Int) (w : World) : Calls Tryz.prog 87 #[.bool b, .int .i64 c] w fun e w' => e = (if b then .returned (.tuple #[]) else .panicked (fault c)) ∧ w = w' := by
  cases b
  · exact must_no c w
  · exact must_yes c w
theorem or_digit (z d : Nat) (hz : z < 1125899906842624) (hd : d < 16) : bits .or .i64 ((z : Int) * 16) (d : Int) = ((z * 16 + d : Nat) : Int) := by
  have hx : z * 16 ||| d < 2 ^ 63 := Nat.or_lt_two_pow (by omega) (by omega)
  have h1 : (BitVec.ofInt 64 ((z : Int) * 16)).toNat = z * 16 := by
    rw [show (z : Int) * 16 = ((z * 16 : Nat) : Int) by simp, BitVec.ofInt_natCast, BitVec.toNat_ofNat]; exact Nat.mod_eq_of_lt (by omega)
  have h2 : (BitVec.ofInt 64 (d : Int)).toNat = d := by
    rw [BitVec.ofInt_natCast, BitVec.toNat_ofNat]; exact Nat.mod_eq_of_lt (by omega)
  show IntKind.i64.wrap ((BitVec.ofInt 64 ((z : Int) * 16) ||| BitVec.ofInt 64 (d : Int)).toNat : Int) = _
  rw [BitVec.toNat_or, h1, h2, IntKind.wrap_i64]
  have e : z * 16 ||| d = z * 16 + d := by
    rw [show z * 16 = 2 ^ 4 * z by omega, ← Nat.two_pow_add_eq_or_of_lt (by omega)]
  rw [e] at hx ⊢
  omega
theorem sh_le (m d f : Nat) (hm : m ≤ 1004) (hd : d < 16) (hf : f < 4) : decide (wrap64 (((m : Int) * 16 + (d : Int)) * 2 ^ (4 * f)) ≤ 1004) = decide ((m * 16 + d) * 16 ^ f ≤ 1004) := by
  have h : f = 0 ∨ f = 1 ∨ f = 2 ∨ f = 3 := by omega
  rcases h with rfl | rfl | rfl | rfl <;> (simp only [wrap64]; rw [decide_eq_decide]; simp; omega)
theorem str_end (s : List UInt8) (k : Nat) : decide ((k : Int) < (s.length : Int)) = decide (k < s.length) := by
  simp
set_option maxHeartbeats 1000000 in
theorem length_any (s : List UInt8) (w : World) : Calls Tryz.prog 163 #[.string ⟨s.toArray⟩] w fun e w' => lenE (lenGo 4 0 s) e ∧ w = w' := by
  go_enter Tryz.func163, Tryz.ntmps163
  go_wp2_with fail
  go_loopw [3, 7] (fun z i wr => ∃ f k m : Nat, f + k = 4 ∧ i = .int .i64 (k : Int) ∧ z = .int .i64 (m : Int) ∧ (k = 0 ∧ m = 0 ∨ m * 16 ^ f ≤ 1004) ∧ wr = w ∧ lenGo 4 0 s = lenGo f m (s.drop k)) (fun _ i _ => 4 - (intOf i).toNat)
  case atStart => exact ⟨4, 0, 0, rfl, rfl, rfl, .inl ⟨rfl, rfl⟩, rfl, rfl⟩
  case round =>
    obtain ⟨f, k, m, hfk, rfl, rfl, hm, rfl, hgo⟩ := hrel
    have HM := Lib.hid hm
    have HGO := Lib.hid hgo
    clear hm hgo
    by_cases hk : k < 4
    · obtain ⟨f, rfl⟩ : ∃ g, f = g + 1 := ⟨f - 1, by omega⟩
      by_cases hks : k < s.length
      · have hdrop : s.drop k = s.getD k 0 :: s.drop (k + 1) := by
          rw [List.drop_eq_getElem_cons hks]
          simp [List.getElem?_eq_getElem hks]
        have hidx := str_at s k hks
        have HDR := Lib.hid hdrop
        clear hdrop
        generalize s.getD k 0 = c at *
        have hdg := digit_any c wr
        have hv := hval_lt c
        by_cases hneg : hval c < 0
        · have hres : lenGo 4 0 s = .inr 1 := by rw [HGO.out, HDR.out, lenGo, if_pos hneg]
          have hdd : decide (0 ≤ hval c) = false := by simp; omega
          have HD := Lib.hid hdg
          have HR := Lib.hid hres
          clear hdg hres
          generalize hval c = d at *
          go_wp2_with (first
            | (go_at_call 154; refine HD.out.mono ?_; rintro e w' ⟨rfl, rfl⟩)
            | (go_at_call 87; go_at_call_of 87 (Value.bool true); refine (must_yes _ _).mono ?_; rintro e w' ⟨rfl, rfl⟩)
            | (go_at_call 87; go_at_call_of 87 (Value.bool false); refine (must_no _ _).mono ?_; rintro e w' ⟨rfl, rfl⟩))
          exact ⟨rfl, by rw [HR.out]; exact rfl, rfl⟩
        · obtain ⟨d, hd⟩ : ∃ d : Nat, hval c = (d : Int) := ⟨(hval c).toNat, by omega⟩
          have hd16 : d < 16 := by omega
          have hstep : lenGo 4 0 s = if (m * 16 + d) * 16 ^ f ≤ 1004 then lenGo f (m * 16 + d) (s.drop (k + 1)) else .inr 1 := by
            rw [HGO.out, HDR.out, lenGo, if_neg hneg, hd]; rfl
          have hm1004 : m ≤ 1004 := by
            rcases HM.out with ⟨-, h⟩ | h
            · omega
            · exact Nat.le_trans (Nat.le_mul_of_pos_right _ (Nat.pow_pos (by decide))) h
          have hor := or_digit m d (by omega) hd16
          rw [hd] at hdg
          have HD := Lib.hid hdg
          clear hdg hd hneg hv
          have hf3 : (3 : Int) - (k : Int) = (f : Int) := by omega
          have hsl := sh_le m d f hm1004 hd16 (by omega)
          by_cases hle : (m * 16 + d) * 16 ^ f ≤ 1004
          · rw [decide_eq_true hle] at hsl
            rw [if_pos hle] at hstep
            have HL := Lib.hid hle
            have HST := Lib.hid hstep
            clear hle hstep
            go_wp2_with (first
              | (go_at_call 154; refine HD.out.mono ?_; rintro e w' ⟨rfl, rfl⟩)
              | (go_at_call 87; go_at_call_of 87 (Value.bool true); refine (must_yes _ _).mono ?_; rintro e w' ⟨rfl, rfl⟩))
            go_roundw
            case rel =>
              exact ⟨f, k + 1, m * 16 + d, by omega, by go_num, by go_num, .inr HL.out, trivial, HST.out⟩
            case measure => simp [intOf]; omega
          · rw [decide_eq_false hle] at hsl
            rw [if_neg hle] at hstep
            have HST := Lib.hid hstep
            clear hle hstep
            go_wp2_with (first
              | (go_at_call 154; refine HD.out.mono ?_; rintro e w' ⟨rfl, rfl⟩)
              | (go_at_call 87; go_at_call_of 87 (Value.bool true); refine (must_yes _ _).mono ?_; rintro e w' ⟨rfl, rfl⟩)
              | (go_at_call 87; go_at_call_of 87 (Value.bool false); refine (must_no _ _).mono ?_; rintro e w' ⟨rfl, rfl⟩))
            exact ⟨rfl, by rw [HST.out]; exact rfl, rfl⟩
      · have hres : lenGo 4 0 s = .inr 2 := by rw [HGO.out, List.drop_eq_nil_of_le (by omega), lenGo]
        have HR := Lib.hid hres
        clear hres
        go_wp2_with (go_at_call 87; go_at_call_of 87 (Value.bool false); refine (must_no _ _).mono ?_; rintro e w' ⟨rfl, rfl⟩)
        exact ⟨rfl, by rw [HR.out]; exact rfl, rfl⟩
    · obtain rfl : f = 0 := by omega
      go_wp2
      go_ret
      exact ⟨by rw [HGO.out]; exact rfl, rfl⟩

/-- strings.Clone. -/
theorem clone_any (l : List UInt8) (w : World) (h : l.length ≤ 281474976710656) : Calls Tryz.prog 34 #[.string ⟨l.toArray⟩] w fun e w' => e = .returned (.string ⟨l.toArray⟩) ∧ Below w.heap.size w w' := by
  go_enter Tryz.func34, Tryz.ntmps34
  go_wp2_with fail
  refine (Tryz.stringslite_Clone ⟨l.toArray⟩ w (by show l.toArray.size ≤ _; simpa using h)).mono ?_
  rintro e w' ⟨rfl, hB⟩
  have HB := Lib.hid hB
  clear hB
  go_wp2
  go_ret
  exact ⟨rfl, HB.out⟩

theorem str_cut (l : List UInt8) (a n : Nat) (ha : a ≤ n) (hn : n ≤ l.length) (w : World) : (Instr.slice 9 (.string ⟨l.toArray⟩) (some (.int .i64 (a : Int))) (some (.int .i64 (n : Int))) none).run Tryz.prog w = .ok (.string ⟨((l.take n).drop a).toArray⟩) w := by
  have hsz : (ByteArray.mk l.toArray).size = l.length := by simp [ByteArray.size]
  rw [run_slice_string_if (w := w) 9 _ .i64 .i64 _ _ Tryz.underlying9, if_pos ⟨by omega, by rw [hsz]; omega⟩, if_pos ⟨by omega, by omega⟩, ByteArray.extract_mk]
  simp [List.drop_take]
/-- What stands first: its kind, its text, how many bytes; or an error. -/
def firstV (s : List UInt8) : (Nat × List UInt8 × Nat) ⊕ Int :=
  match lenGo 4 0 s with
  | .inr c => .inr c
  | .inl n => if n = 0 then .inl (2, [], 4) else if n = 1 then .inl (3, [], 4) else if n ≤ 4 then .inr 1 else if s.length < n then .inr 2 else .inl (1, (s.take n).drop 4, n)
def tripE : (Nat × List UInt8 × Nat) ⊕ Int → Ending → Prop
  | .inl (k, t, n), e => e = .returned (.tuple #[.int .i64 (k : Int), .string ⟨t.toArray⟩, .int .i64 (n : Int)])
  | .inr c, e => e = .panicked (fault c)
theorem lenGo_le (f z : Nat) (s : List UInt8) (n : Nat) (h : lenGo f z s = .inl n) (hz : z ≤ 1004) : n ≤ 1004 := by
  induction f generalizing z s with
  | zero => injection h with h; omega
  | succ f ih =>
    cases s with
    | nil => exact nomatch h
    | cons c r =>
      rw [lenGo] at h
      split at h
      · exact nomatch h
      · split at h
        · rename_i hle
          exact ih _ _ h (Nat.le_trans (Nat.le_mul_of_pos_right _ (Nat.pow_pos (by decide))) hle)
        · exact nomatch h
set_option maxRecDepth 100000 in
set_option maxHeartbeats 1000000 in
theorem first_any (s : List UInt8) (w : World) : Calls Tryz.prog 142 #[.string ⟨s.toArray⟩] w fun e w' => tripE (firstV s) e ∧ Below w.heap.size w w' := by
  have hlen := length_any s w
  cases hv : lenGo 4 0 s with
  | inr c =>
    rw [hv] at hlen
    have hres : firstV s = .inr c := by unfold firstV; rw [hv]
    have HR := Lib.hid hres
    have HL := Lib.hid hlen
    clear hres hlen hv
    go_enter Tryz.func142, Tryz.ntmps142
    go_wp2_with fail
    refine HL.out.mono ?_
    rintro e w' ⟨he, rfl⟩
    obtain rfl : e = .panicked (fault c) := he
    exact ⟨rfl, by rw [HR.out]; exact rfl, Below.refl _ _⟩
  | inl n =>
    rw [hv] at hlen
    have hn := lenGo_le _ _ _ _ hv (by omega)
    have hlen' : Calls Tryz.prog 163 #[.string ⟨s.toArray⟩] w fun e w' => e = .returned (.int .i64 (n : Int)) ∧ w = w' := hlen
    have hres : firstV s = if n = 0 then .inl (2, [], 4) else if n = 1 then .inl (3, [], 4) else if n ≤ 4 then .inr 1 else if s.length < n then .inr 2 else .inl (1, (s.take n).drop 4, n) := by unfold firstV; rw [hv]
    have HL := Lib.hid hlen'
    clear hlen hlen' hv
    by_cases h0 : n = 0
    · rw [if_pos h0] at hres
      have HR := Lib.hid hres
      have hb : ((n : Int) == 0) = true := by simp [h0]
      clear hres h0
      go_enter Tryz.func142, Tryz.ntmps142
      go_wp2_with (go_at_call 163; refine HL.out.mono ?_; rintro e w' ⟨rfl, rfl⟩)
      go_ret3
      exact ⟨by rw [HR.out]; rfl, Below.refl _ _⟩
    · rw [if_neg h0] at hres
      have hb0 : ((n : Int) == 0) = false := beq_eq_false_iff_ne.2 (by omega)
      by_cases h1 : n = 1
      · rw [if_pos h1] at hres
        have HR := Lib.hid hres
        have hb : ((n : Int) == 1) = true := by simp [h1]
        clear hres h1
        go_enter Tryz.func142, Tryz.ntmps142
        go_wp2_with (go_at_call 163; refine HL.out.mono ?_; rintro e w' ⟨rfl, rfl⟩)
        go_ret3
        exact ⟨by rw [HR.out]; rfl, Below.refl _ _⟩
      · rw [if_neg h1] at hres
        have hb1 : ((n : Int) == 1) = false := beq_eq_false_iff_ne.2 (by omega)
        by_cases h4 : n ≤ 4
        · rw [if_pos h4] at hres
          have HR := Lib.hid hres
          have hd : decide (4 < (n : Int)) = false := by simp; omega
          clear hres h1 h0
          go_enter Tryz.func142, Tryz.ntmps142
          go_wp2_with (first
            | (go_at_call 163; refine HL.out.mono ?_; rintro e w' ⟨rfl, rfl⟩)
            | (go_at_call 87; refine (must_no _ _).mono ?_; rintro e w' ⟨rfl, rfl⟩))
          exact ⟨rfl, by rw [HR.out]; exact rfl, Below.refl _ _⟩
        · rw [if_neg h4] at hres
          have hd : decide (4 < (n : Int)) = true := by simp; omega
          by_cases hl : s.length < n
          · rw [if_pos hl] at hres
            have HR := Lib.hid hres
            have hd2 : decide (n ≤ s.length) = false := by simp; omega
            clear hres h1 h0
            go_enter Tryz.func142, Tryz.ntmps142
            go_wp2_with (first
              | (go_at_call 163; refine HL.out.mono ?_; rintro e w' ⟨rfl, rfl⟩)
              | (go_at_call 87; go_at_call_of 87 (Value.bool true); refine (must_yes _ _).mono ?_; rintro e w' ⟨rfl, rfl⟩)
              | (go_at_call 87; go_at_call_of 87 (Value.bool false); refine (must_no _ _).mono ?_; rintro e w' ⟨rfl, rfl⟩))
            exact ⟨rfl, by rw [HR.out]; exact rfl, Below.refl _ _⟩
          · rw [if_neg hl] at hres
            have HR := Lib.hid hres
            have hd2 : decide (n ≤ s.length) = true := by simp; omega
            have hc := clone_any ((s.take n).drop 4) w (by simp; omega)
            have HC := Lib.hid hc
            have hcut := str_cut s 4 n (by omega) (by omega)
            rw [show ((4 : Nat) : Int) = 4 from rfl] at hcut
            generalize hpt : (s.take n).drop 4 = pt at *
            have HPT := Lib.hid hpt
            clear hres h1 h0 hc hpt
            go_enter Tryz.func142, Tryz.ntmps142
            go_wp2_with (first
              | (go_at_call 163; refine HL.out.mono ?_; rintro e w' ⟨rfl, rfl⟩)
              | (go_at_call 87; go_at_call_of 87 (Value.bool true); refine (must_yes _ _).mono ?_; rintro e w' ⟨rfl, rfl⟩))
            refine HC.out.mono ?_
            rintro e w' ⟨rfl, hB⟩
            have HB := Lib.hid hB
            clear hB
            go_wp2
            go_ret3
            exact ⟨by rw [HR.out]; rfl, HB.out⟩
end Go.Proofs.YtfaijkgfhdhhbaaGreatDoor
namespace Go.Proofs.YtfaijkgfhdhhbaaGreatDoor
open Go.RowKit

theorem get1_ok (bs bk bt bn k n : Nat) (s t : List UInt8) (k0 t0 n0 : Value) (W : World) (hs : Whole W bs 9 #[.string ⟨s.toArray⟩]) (hk : Whole W bk 3 #[k0]) (ht : Whole W bt 9 #[t0]) (hn : Whole W bn 3 #[n0])
    (h1 : bk ≠ bt) (h2 : bk ≠ bn) (h3 : bt ≠ bn) (hv : firstV s = .inl (k, t, n)) :
    Calls Tryz.prog 141 #[.pointer (some ⟨bs, 0, none⟩), .pointer (some ⟨bk, 0, none⟩), .pointer (some ⟨bt, 0, none⟩), .pointer (some ⟨bn, 0, none⟩)] W fun e w' => e = .returned (.tuple #[]) ∧
      ∃ w1, Below W.heap.size W w1 ∧ w' = ((w1.setCell ⟨bk, 0, none⟩ (.int .i64 (k : Int))).setCell ⟨bt, 0, none⟩ (.string ⟨t.toArray⟩)).setCell ⟨bn, 0, none⟩ (.int .i64 (n : Int)) := by
  have hc : W.cell? ⟨bs, 0, none⟩ = some (.string ⟨s.toArray⟩) := (Whole.at_ hs 0).trans rfl
  have hf := first_any s W
  rw [hv] at hf
  have HF : Hid (Calls Tryz.prog 142 #[.string ⟨s.toArray⟩] W fun e w' => e = .returned (.tuple #[.int .i64 (k : Int), .string ⟨t.toArray⟩, .int .i64 (n : Int)]) ∧ Below W.heap.size W w') := hf
  have HK := Lib.hid hk
  have HT := Lib.hid ht
  have HN := Lib.hid hn
  clear hs hf hk ht hn hv
  go_enter Tryz.func141, Tryz.ntmps141
  go_wp2_with fail
  refine HF.out.mono ?_
  rintro e w1 ⟨rfl, hB⟩
  have HB := Lib.hid hB
  have K1 := HK.out.below hB HK.out.lt
  have T1 := HT.out.below hB HT.out.lt
  have N1 := HN.out.below hB HN.out.lt
  have ck : w1.cell? ⟨bk, 0, none⟩ = some k0 := (K1.at_ 0).trans rfl
  have ct : w1.cell? ⟨bt, 0, none⟩ = some t0 := (T1.at_ 0).trans rfl
  have cn : w1.cell? ⟨bn, 0, none⟩ = some n0 := (N1.at_ 0).trans rfl
  have zk := K1.thawed 0
  have zt := T1.thawed 0
  have zn := N1.thawed 0
  clear hB K1 T1 N1
  go_wp2
  exact bodyPost_end (results_none rfl _ _ _) rfl ⟨rfl, w1, HB.out, rfl⟩
theorem get1_bad (bs : Nat) (s : List UInt8) (c : Int) (pk pt pn : Value) (W : World) (hs : Whole W bs 9 #[.string ⟨s.toArray⟩]) (hv : firstV s = .inr c) :
    Calls Tryz.prog 141 #[.pointer (some ⟨bs, 0, none⟩), pk, pt, pn] W fun e w' => e = .panicked (fault c) ∧ Below W.heap.size W w' := by
  have hc : W.cell? ⟨bs, 0, none⟩ = some (.string ⟨s.toArray⟩) := (Whole.at_ hs 0).trans rfl
  have hf := first_any s W
  rw [hv] at hf
  have HF : Hid (Calls Tryz.prog 142 #[.string ⟨s.toArray⟩] W fun e w' => e = .panicked (fault c) ∧ Below W.heap.size W w') := hf
  clear hs hf hv
  go_enter Tryz.func141, Tryz.ntmps141
  go_wp2_with fail
  refine HF.out.mono ?_
  rintro e w1 ⟨rfl, hB⟩
  exact ⟨rfl, rfl, hB⟩

theorem get1_enters (caps : Array Value) (W : World) : (callFunc 141 caps).run Tryz.prog W = .ok (.enter 141 caps) W := enters_of Tryz.func141 (by kernel_rfl) rfl _ _
/-- Four blocks laid one behind the other. -/
theorem four (w : World) (a b c d : Array Value) (ta tb tc td : TypeId) : ∃ W, W = (((w.alloc (.cells a ta)).alloc (.cells b tb)).alloc (.cells c tc)).alloc (.cells d td) ∧ Below w.heap.size w W ∧ W.heap.size = w.heap.size + 4 ∧
    Whole W w.heap.size ta a ∧ Whole W (w.heap.size + 1) tb b ∧ Whole W (w.heap.size + 1 + 1) tc c ∧ Whole W (w.heap.size + 1 + 1 + 1) td d := by
  refine ⟨_, rfl, ((((Below.refl _ _).alloc (Nat.le_refl _) _).alloc (by simp) _).alloc (by simp; omega) _).alloc (by simp; omega) _, by simp, (((Whole.made _ _ _).past _).past _).past _, ?_, ?_, ?_⟩
  · have h := ((Whole.made (w.alloc (.cells a ta)) tb b).past (.cells c tc)).past (.cells d td)
    simpa using h
  · have h := (Whole.made ((w.alloc (.cells a ta)).alloc (.cells b tb)) tc c).past (.cells d td)
    simpa using h
  · have h := Whole.made (((w.alloc (.cells a ta)).alloc (.cells b tb)).alloc (.cells c tc)) td d
    simpa using h
set_option maxRecDepth 100000 in
set_option maxHeartbeats 1000000 in
theorem get_ok (k n : Nat) (s t : List UInt8) (w : World) (hv : firstV s = .inl (k, t, n)) :
    Calls Tryz.prog 105 #[.string ⟨s.toArray⟩] w fun e w' => e = .returned (.tuple #[.int .i64 (k : Int), .string ⟨t.toArray⟩, .int .i64 (n : Int), .int .i64 0]) ∧ Below w.heap.size w w' := by
  have hmf : ∀ (fn : Fn) (first cap : Array Value) (w : World), (Instr.makeFunc fn first cap).run Tryz.prog w = .ok (.func fn first cap) w := fun _ _ _ _ => rfl
  have HV := Lib.hid hv
  clear hv
  go_enter Tryz.func105, Tryz.ntmps105
  go_wp2_with fail
  obtain ⟨W, hW, hB, hsz, hS, hK, hT, hN⟩ := four w #[.string ⟨s.toArray⟩] #[.int .i64 0] #[.string ⟨#[]⟩] #[.int .i64 0] 9 3 9 3
  rw [← hW]
  have HB := Lib.hid hB
  have hS1 := hS.past (.cells #[.int .i64 0] 40)
  have hK1 := hK.past (.cells #[.int .i64 0] 40)
  have hT1 := hT.past (.cells #[.int .i64 0] 40)
  have hN1 := hN.past (.cells #[.int .i64 0] 40)
  have hE1 := Whole.made W 40 #[.int .i64 0]
  have hsz1 : (W.alloc (.cells #[.int .i64 0] 40)).heap.size = w.heap.size + 5 := by simp; omega
  have hB1 : Below w.heap.size w (W.alloc (.cells #[.int .i64 0] 40)) := hB.alloc (by omega) _
  have hcall := get1_ok w.heap.size (w.heap.size + 1) (w.heap.size + 1 + 1) (w.heap.size + 1 + 1 + 1) k n s t _ _ _ _ hS1 hK1 hT1 hN1 (by omega) (by omega) (by omega) HV.out
  generalize hW1 : W.alloc (.cells #[.int .i64 0] 40) = W1 at *
  refine (do_ret 141 _ W (fun w' => ∃ w1, Below W1.heap.size W1 w1 ∧ w' = ((w1.setCell ⟨w.heap.size + 1, 0, none⟩ (.int .i64 (k : Int))).setCell ⟨w.heap.size + 1 + 1, 0, none⟩ (.string ⟨t.toArray⟩)).setCell ⟨w.heap.size + 1 + 1 + 1, 0, none⟩ (.int .i64 (n : Int))) (get1_enters _) ?_ (by rw [hW1]; exact hcall)).mono ?_
  · rintro w' ⟨w1, hB2, rfl⟩
    have hE2 := (((hE1.below hB2 (by omega)).aside (p := ⟨w.heap.size + 1, 0, none⟩) (by simp; omega) (.int .i64 (k : Int))).aside (p := ⟨w.heap.size + 1 + 1, 0, none⟩) (by simp; omega) (.string ⟨t.toArray⟩)).aside (p := ⟨w.heap.size + 1 + 1 + 1, 0, none⟩) (by simp; omega) (.int .i64 (n : Int))
    exact ⟨0, (hE2.at_ 0).trans rfl, hE2.thawed 0⟩
  rintro e w' ⟨rfl, w2, ⟨w1, hB2, rfl⟩, rfl⟩
  have K2 := hK1.below hB2 (by omega)
  have T2 := hT1.below hB2 (by omega)
  have N2 := hN1.below hB2 (by omega)
  have K3 := (((K2.put 0 (.int .i64 (k : Int))).aside (p := ⟨w.heap.size + 1 + 1, 0, none⟩) (by show _ ≠ _; dsimp only; omega) (.string ⟨t.toArray⟩)).aside (p := ⟨w.heap.size + 1 + 1 + 1, 0, none⟩) (by show _ ≠ _; dsimp only; omega) (.int .i64 (n : Int))).aside (p := ⟨W.heap.size, 0, none⟩) (by show _ ≠ _; dsimp only; omega) (.int .i64 0)
  have T3 := (((T2.aside (p := ⟨w.heap.size + 1, 0, none⟩) (by show _ ≠ _; dsimp only; omega) (.int .i64 (k : Int))).put 0 (.string ⟨t.toArray⟩)).aside (p := ⟨w.heap.size + 1 + 1 + 1, 0, none⟩) (by show _ ≠ _; dsimp only; omega) (.int .i64 (n : Int))).aside (p := ⟨W.heap.size, 0, none⟩) (by show _ ≠ _; dsimp only; omega) (.int .i64 0)
  have N3 := (((N2.aside (p := ⟨w.heap.size + 1, 0, none⟩) (by show _ ≠ _; dsimp only; omega) (.int .i64 (k : Int))).aside (p := ⟨w.heap.size + 1 + 1, 0, none⟩) (by show _ ≠ _; dsimp only; omega) (.string ⟨t.toArray⟩)).put 0 (.int .i64 (n : Int))).aside (p := ⟨W.heap.size, 0, none⟩) (by show _ ≠ _; dsimp only; omega) (.int .i64 0)
  have B3 := ((((hB1.trans (hB2.mono (by omega))).setCell (p := ⟨w.heap.size + 1, 0, none⟩) (by simp) (.int .i64 (k : Int))).setCell (p := ⟨w.heap.size + 1 + 1, 0, none⟩) (by simp; omega) (.string ⟨t.toArray⟩)).setCell (p := ⟨w.heap.size + 1 + 1 + 1, 0, none⟩) (by simp; omega) (.int .i64 (n : Int))).setCell (p := ⟨W.heap.size, 0, none⟩) (by simp; omega) (.int .i64 0)
  generalize ((((w1.setCell ⟨w.heap.size + 1, 0, none⟩ (.int .i64 (k : Int))).setCell ⟨w.heap.size + 1 + 1, 0, none⟩ (.string ⟨t.toArray⟩)).setCell ⟨w.heap.size + 1 + 1 + 1, 0, none⟩ (.int .i64 (n : Int))).setCell ⟨W.heap.size, 0, none⟩ (.int .i64 0)) = V at *
  have HB3 := Lib.hid B3
  have HK3 := Lib.hid K3
  have HT3 := Lib.hid T3
  have HN3 := Lib.hid N3
  have ck : V.cell? ⟨w.heap.size + 1, 0, none⟩ = some (.int .i64 (k : Int)) := (K3.at_ 0).trans rfl
  have ct : V.cell? ⟨w.heap.size + 1 + 1, 0, none⟩ = some (.string ⟨t.toArray⟩) := (T3.at_ 0).trans rfl
  have cn : V.cell? ⟨w.heap.size + 1 + 1 + 1, 0, none⟩ = some (.int .i64 (n : Int)) := (N3.at_ 0).trans rfl
  have zk := K3.thawed 0
  have zt := T3.thawed 0
  have zn := N3.thawed 0
  clear hW hB hsz hS hK hT hN hS1 hK1 hT1 hN1 hE1 hsz1 hB1 hcall hW1 hB2 K2 T2 N2 K3 T3 N3 B3 HB
  go_wp2
  go_region
  have K4 := ((((HK3.out.put 0 (.int .i64 (k : Int))).aside (p := ⟨w.heap.size + 1 + 1, 0, none⟩) (by show _ ≠ _; dsimp only; omega) (.string ⟨t.toArray⟩)).aside (p := ⟨w.heap.size + 1 + 1 + 1, 0, none⟩) (by show _ ≠ _; dsimp only; omega) (.int .i64 (n : Int)))).drew
  have T4 := ((((HT3.out.aside (p := ⟨w.heap.size + 1, 0, none⟩) (by show _ ≠ _; dsimp only; omega) (.int .i64 (k : Int))).put 0 (.string ⟨t.toArray⟩)).aside (p := ⟨w.heap.size + 1 + 1 + 1, 0, none⟩) (by show _ ≠ _; dsimp only; omega) (.int .i64 (n : Int)))).drew
  have N4 := ((((HN3.out.aside (p := ⟨w.heap.size + 1, 0, none⟩) (by show _ ≠ _; dsimp only; omega) (.int .i64 (k : Int))).aside (p := ⟨w.heap.size + 1 + 1, 0, none⟩) (by show _ ≠ _; dsimp only; omega) (.string ⟨t.toArray⟩)).put 0 (.int .i64 (n : Int)))).drew
  have B4 := (((HB3.out.setCell (p := ⟨w.heap.size + 1, 0, none⟩) (by simp) (.int .i64 (k : Int))).setCell (p := ⟨w.heap.size + 1 + 1, 0, none⟩) (by simp; omega) (.string ⟨t.toArray⟩)).setCell (p := ⟨w.heap.size + 1 + 1 + 1, 0, none⟩) (by simp; omega) (.int .i64 (n : Int))).drew
  generalize (((V.setCell ⟨w.heap.size + 1, 0, none⟩ (.int .i64 (k : Int))).setCell ⟨w.heap.size + 1 + 1, 0, none⟩ (.string ⟨t.toArray⟩)).setCell ⟨w.heap.size + 1 + 1 + 1, 0, none⟩ (.int .i64 (n : Int))).drew = V' at *
  have ck4 : V'.cell? ⟨w.heap.size + 1, 0, none⟩ = some (.int .i64 (k : Int)) := (K4.at_ 0).trans rfl
  have ct4 : V'.cell? ⟨w.heap.size + 1 + 1, 0, none⟩ = some (.string ⟨t.toArray⟩) := (T4.at_ 0).trans rfl
  have cn4 : V'.cell? ⟨w.heap.size + 1 + 1 + 1, 0, none⟩ = some (.int .i64 (n : Int)) := (N4.at_ 0).trans rfl
  have HB4 := Lib.hid B4
  clear K4 T4 N4 B4
  go_wp2
  refine bodyPost_ret (v := .tuple #[.int .i64 (k : Int), .string ⟨t.toArray⟩, .int .i64 (n : Int), .int .i64 0]) ?_ rfl ⟨rfl, HB4.out⟩
  simp [results, Tryz.results105, go_sem, ck4, ct4, cn4]
set_option maxRecDepth 100000 in
set_option maxHeartbeats 1000000 in
theorem get_bad (s : List UInt8) (c : Int) (w : World) (hv : firstV s = .inr c) :
    Calls Tryz.prog 105 #[.string ⟨s.toArray⟩] w fun e w' => e = .returned (.tuple #[.int .i64 0, .string ⟨#[]⟩, .int .i64 0, .int .i64 c]) ∧ Below w.heap.size w w' := by
  have hmf : ∀ (fn : Fn) (first cap : Array Value) (w : World), (Instr.makeFunc fn first cap).run Tryz.prog w = .ok (.func fn first cap) w := fun _ _ _ _ => rfl
  have HV := Lib.hid hv
  clear hv
  go_enter Tryz.func105, Tryz.ntmps105
  go_wp2_with fail
  obtain ⟨W, hW, hB, hsz, hS, hK, hT, hN⟩ := four w #[.string ⟨s.toArray⟩] #[.int .i64 0] #[.string ⟨#[]⟩] #[.int .i64 0] 9 3 9 3
  rw [← hW]
  have HB := Lib.hid hB
  have hS1 := hS.past (.cells #[.int .i64 0] 40)
  have hK1 := hK.past (.cells #[.int .i64 0] 40)
  have hT1 := hT.past (.cells #[.int .i64 0] 40)
  have hN1 := hN.past (.cells #[.int .i64 0] 40)
  have hE1 := Whole.made W 40 #[.int .i64 0]
  have hsz1 : (W.alloc (.cells #[.int .i64 0] 40)).heap.size = w.heap.size + 5 := by simp; omega
  have hB1 : Below w.heap.size w (W.alloc (.cells #[.int .i64 0] 40)) := hB.alloc (by omega) _
  have hcall := get1_bad w.heap.size s c (.pointer (some ⟨w.heap.size + 1, 0, none⟩)) (.pointer (some ⟨w.heap.size + 1 + 1, 0, none⟩)) (.pointer (some ⟨w.heap.size + 1 + 1 + 1, 0, none⟩)) _ hS1 HV.out
  generalize hW1 : W.alloc (.cells #[.int .i64 0] 40) = W1 at *
  refine (do_fault 141 _ W c (fun w' => Below W1.heap.size W1 w') (get1_enters _) ?_ (by rw [hW1]; exact hcall)).mono ?_
  · rintro w' hB2
    have hE2 := hE1.below hB2 (by omega)
    exact ⟨0, (hE2.at_ 0).trans rfl, hE2.thawed 0⟩
  rintro e w' ⟨rfl, w1, w2, hB2, hB2', rfl⟩
  have hB2'' := hB2.trans (hB2'.mono hB2.size)
  have K3 := (hK1.below hB2'' (by omega)).aside (p := ⟨W.heap.size, 0, none⟩) (by show _ ≠ _; dsimp only; omega) (.int .i64 c)
  have T3 := (hT1.below hB2'' (by omega)).aside (p := ⟨W.heap.size, 0, none⟩) (by show _ ≠ _; dsimp only; omega) (.int .i64 c)
  have N3 := (hN1.below hB2'' (by omega)).aside (p := ⟨W.heap.size, 0, none⟩) (by show _ ≠ _; dsimp only; omega) (.int .i64 c)
  have B3 := (hB1.trans (hB2''.mono (by omega))).setCell (p := ⟨W.heap.size, 0, none⟩) (by simp; omega) (.int .i64 c)
  generalize w2.setCell ⟨W.heap.size, 0, none⟩ (.int .i64 c) = V at *
  have HB3 := Lib.hid B3
  have HK3 := Lib.hid K3
  have HT3 := Lib.hid T3
  have HN3 := Lib.hid N3
  have ck : V.cell? ⟨w.heap.size + 1, 0, none⟩ = some (.int .i64 0) := (K3.at_ 0).trans rfl
  have ct : V.cell? ⟨w.heap.size + 1 + 1, 0, none⟩ = some (.string ⟨#[]⟩) := (T3.at_ 0).trans rfl
  have cn : V.cell? ⟨w.heap.size + 1 + 1 + 1, 0, none⟩ = some (.int .i64 0) := (N3.at_ 0).trans rfl
  have zk := K3.thawed 0
  have zt := T3.thawed 0
  have zn := N3.thawed 0
  clear hW hB hsz hS hK hT hN hS1 hK1 hT1 hN1 hE1 hsz1 hB1 hcall hW1 hB2 hB2' hB2'' K3 T3 N3 B3 HB
  go_wp2
  go_region
  have K4 := ((((HK3.out.put 0 (.int .i64 0)).aside (p := ⟨w.heap.size + 1 + 1, 0, none⟩) (by show _ ≠ _; dsimp only; omega) (.string ⟨#[]⟩)).aside (p := ⟨w.heap.size + 1 + 1 + 1, 0, none⟩) (by show _ ≠ _; dsimp only; omega) (.int .i64 0))).drew
  have T4 := ((((HT3.out.aside (p := ⟨w.heap.size + 1, 0, none⟩) (by show _ ≠ _; dsimp only; omega) (.int .i64 0)).put 0 (.string ⟨#[]⟩)).aside (p := ⟨w.heap.size + 1 + 1 + 1, 0, none⟩) (by show _ ≠ _; dsimp only; omega) (.int .i64 0))).drew
  have N4 := ((((HN3.out.aside (p := ⟨w.heap.size + 1, 0, none⟩) (by show _ ≠ _; dsimp only; omega) (.int .i64 0)).aside (p := ⟨w.heap.size + 1 + 1, 0, none⟩) (by show _ ≠ _; dsimp only; omega) (.string ⟨#[]⟩)).put 0 (.int .i64 0))).drew
  have B4 := (((HB3.out.setCell (p := ⟨w.heap.size + 1, 0, none⟩) (by simp) (.int .i64 0)).setCell (p := ⟨w.heap.size + 1 + 1, 0, none⟩) (by simp; omega) (.string ⟨#[]⟩)).setCell (p := ⟨w.heap.size + 1 + 1 + 1, 0, none⟩) (by simp; omega) (.int .i64 0)).drew
  generalize (((V.setCell ⟨w.heap.size + 1, 0, none⟩ (.int .i64 0)).setCell ⟨w.heap.size + 1 + 1, 0, none⟩ (.string ⟨#[]⟩)).setCell ⟨w.heap.size + 1 + 1 + 1, 0, none⟩ (.int .i64 0)).drew = V' at *
  have ck4 : V'.cell? ⟨w.heap.size + 1, 0, none⟩ = some (.int .i64 0) := (K4.at_ 0).trans rfl
  have ct4 : V'.cell? ⟨w.heap.size + 1 + 1, 0, none⟩ = some (.string ⟨#[]⟩) := (T4.at_ 0).trans rfl
  have cn4 : V'.cell? ⟨w.heap.size + 1 + 1 + 1, 0, none⟩ = some (.int .i64 0) := (N4.at_ 0).trans rfl
  have HB4 := Lib.hid B4
  clear K4 T4 N4 B4
  go_wp2
  refine bodyPost_ret (v := .tuple #[.int .i64 0, .string ⟨#[]⟩, .int .i64 0, .int .i64 c]) ?_ rfl ⟨rfl, HB4.out⟩
  simp [results, Tryz.results105, go_sem, ck4, ct4, cn4]
end Go.Proofs.YtfaijkgfhdhhbaaGreatDoor
namespace Go.Proofs.YtfaijkgfhdhhbaaGreatDoor
open Go.RowKit

/-! ### Two worlds that part at two blocks alone -/
structure Two (a b : Nat) (w w' : World) : Prop where
  os : w'.os = w.os
  tape : w'.tape = w.tape
  output : w'.output = w.output
  size : w.heap.size ≤ w'.heap.size
  block : ∀ k, k < w.heap.size → k ≠ a → k ≠ b → w'.heap[k]? = w.heap[k]?
section
variable {a b B g : Nat} {w w' w'' : World} {t : TypeId} {cs : Array Value}
theorem Two.refl (a b : Nat) (w : World) : Two a b w w := ⟨rfl, rfl, rfl, Nat.le_refl _, fun _ _ _ _ => rfl⟩
theorem Two.trans (h : Two a b w w') (k : Two a b w' w'') : Two a b w w'' :=
  ⟨k.os.trans h.os, k.tape.trans h.tape, k.output.trans h.output, Nat.le_trans h.size k.size, fun i hi h1 h2 => (k.block i (Nat.lt_of_lt_of_le hi h.size) h1 h2).trans (h.block i hi h1 h2)⟩
theorem Two.below (h : Two a b w w') (k : Below w'.heap.size w' w'') : Two a b w w'' :=
  h.trans ⟨k.os, k.tape, k.output, k.size, fun i hi _ _ => k.block i hi⟩
theorem Two.drew (h : Two a b w w') : Two a b w w'.drew := ⟨h.os, h.tape, h.output, h.size, h.block⟩
theorem Two.alloc (h : Two a b w w') (o : Obj) : Two a b w (w'.alloc o) := h.below ((Below.refl _ _).alloc (Nat.le_refl _) o)
theorem Two.set (h : Two a b w w') {p : Addr} (hp : p.block = a ∨ p.block = b) (u : Value) : Two a b w (w'.setCell p u) :=
  ⟨h.os, h.tape, h.output, by simpa [World.setCell] using h.size, fun i hi h1 h2 => (Below.heap_setCell w' p u i (by
    rintro rfl
    rcases hp with hp | hp
    · exact h1 hp
    · exact h2 hp)).trans (h.block i hi h1 h2)⟩
theorem Two.grown (h : Two a b w w') {row : Option Nat} (k : w'.grownBy w'' row) (hr : ∀ j, row = some j → w.heap.size ≤ j) : Two a b w w'' :=
  ⟨k.os.trans h.os, k.tape.trans h.tape, k.output.trans h.output, Nat.le_trans h.size k.size, fun i hi h1 h2 => (k.block i (Nat.lt_of_lt_of_le hi h.size) (fun e => by
    have := hr i e.symm; omega)).trans (h.block i hi h1 h2)⟩
theorem Two.to (h : Two a b w w') (ha : B ≤ a) (hb : B ≤ b) (hB : B ≤ w.heap.size) : Below B w w' :=
  ⟨h.os, h.tape, h.output, h.size, fun i hi => h.block i (by omega) (by omega) (by omega)⟩
theorem Whole.two (hw : Whole w g t cs) (h : Two a b w w') (h1 : g ≠ a) (h2 : g ≠ b) : Whole w' g t cs := (h.block g hw.lt h1 h2).trans hw
end

/-! ### What All tells -/
def S (l : List UInt8) : Value := .string ⟨l.toArray⟩
def allGo : Nat → List UInt8 → Nat → List (List UInt8) → (List (List UInt8) × Nat) ⊕ Int
  | 0, _, _, _ => .inr 0
  | f + 1, s, r, acc =>
    match firstV (s.drop r) with
    | .inr c => .inr c
    | .inl (k, t, n) => if k = 2 then .inl (acc, r + n) else allGo f s (r + n) (acc ++ [t])
theorem lenGo_len (f z : Nat) (s : List UInt8) (n : Nat) (h : lenGo f z s = .inl n) : f ≤ s.length := by
  induction f generalizing z s with
  | zero => omega
  | succ f ih =>
    cases s with
    | nil => exact nomatch h
    | cons c r =>
      rw [lenGo] at h
      split at h
      · exact nomatch h
      · split at h
        · have := ih _ _ h; simp; omega
        · exact nomatch h
theorem firstV_le (s : List UInt8) (k n : Nat) (t : List UInt8) (h : firstV s = .inl (k, t, n)) : 4 ≤ n ∧ n ≤ s.length ∧ n ≤ 1004 := by
  unfold firstV at h
  split at h
  · exact nomatch h
  · rename_i m hm
    have h4 := lenGo_len _ _ _ _ hm
    have hle := lenGo_le _ _ _ _ hm (by omega)
    split at h
    · injection h with h; injection h with h1 h; injection h with h2 h; omega
    · split at h
      · injection h with h; injection h with h1 h; injection h with h2 h; omega
      · split at h
        · exact nomatch h
        · split at h
          · exact nomatch h
          · injection h with h; injection h with h1 h; injection h with h2 h; omega
theorem str_from (l : List UInt8) (a : Nat) (ha : a ≤ l.length) (w : World) : (Instr.slice 9 (.string ⟨l.toArray⟩) (some (.int .i64 (a : Int))) none none).run Tryz.prog w = .ok (.string ⟨(l.drop a).toArray⟩) w := by
  have hsz : (ByteArray.mk l.toArray).size = l.length := by simp [ByteArray.size]
  rw [run_slice_string_l (w := w) (ht := Tryz.underlying9) (kl := .i64) (h0 := by omega) (h1 := by rw [hsz]; omega), hsz, ByteArray.extract_mk]
  simp [List.take_of_length_le]

theorem infoS : (Tryz.prog.info? 9).map (fun i => (i.zero, i.size, i.bytes)) = some (some (.string ⟨#[]⟩), 1, 16) := by kernel_rfl
def AllE (W : World) (br bl : Nat) : (List (List UInt8) × Nat) ⊕ Int → Ending → World → Prop
  | .inl (l, r), e, w' => e = .returned (.tuple #[]) ∧ ∃ v, Whole w' br 3 #[.int .i64 (r : Int)] ∧ Whole w' bl 58 #[v] ∧ w'.ownsRow W.heap.size 9 1 v l.length (l.map S)
  | .inr c, e, _ => e = .panicked (fault c)
set_option maxRecDepth 100000 in
set_option maxHeartbeats 2000000 in
theorem all1_any (bs br bl : Nat) (s : List UInt8) (W : World) (hlen : s.length < 1099511627776) (hs : Whole W bs 9 #[.string ⟨s.toArray⟩]) (hr : Whole W br 3 #[.int .i64 0]) (hl : Whole W bl 58 #[.slice none 0 0])
    (h1 : bs ≠ br) (h2 : bs ≠ bl) (h3 : br ≠ bl) :
    Calls Tryz.prog 143 #[.pointer (some ⟨bs, 0, none⟩), .pointer (some ⟨br, 0, none⟩), .pointer (some ⟨bl, 0, none⟩)] W fun e w' => Two br bl W w' ∧ AllE W br bl (allGo (s.length + 1) s 0 []) e w' := by
  obtain ⟨fin, hfin⟩ : ∃ fin, fin = allGo (s.length + 1) s 0 [] := ⟨_, rfl⟩
  rw [← hfin]
  have HFIN := Lib.hid hfin
  have HS := Lib.hid hs
  have HR := Lib.hid hr
  have HL := Lib.hid hl
  clear hfin hs hr hl
  obtain ⟨si, hsi, hsz0, hsz1, hsz2⟩ := info_parts infoS
  go_enter Tryz.func143, Tryz.ntmps143
  go_wp2_with fail
  go_loopw [3] (fun _ wr => ∃ f r : Nat, ∃ acc v, r ≤ s.length ∧ s.length - r < f ∧ f ≤ s.length + 1 ∧ acc.length ≤ r ∧ fin = allGo f s r acc ∧ Two br bl W wr ∧ Whole wr br 3 #[.int .i64 (r : Int)] ∧ Whole wr bl 58 #[v] ∧ wr.ownsRow W.heap.size 9 1 v acc.length (acc.map S)) (fun _ wr => s.length - (intOf ((wr.cell? ⟨br, 0, none⟩).getD undef)).toNat)
  case atStart => exact ⟨s.length + 1, 0, [], .slice none 0 0, by omega, by omega, by omega, by simp, HFIN.out, Two.refl _ _ _, HR.out, HL.out, World.ownsRow_nil _ _ _ _⟩
  case round =>
    obtain ⟨f, r, acc, v, hr, hf, hf2, hacc, hgo, hT, hR, hL, hown⟩ := hrel
    obtain ⟨f, rfl⟩ : ∃ g, f = g + 1 := ⟨f - 1, by omega⟩
    have cs : wr.cell? ⟨bs, 0, none⟩ = some (.string ⟨s.toArray⟩) := ((HS.out.two hT h1 h2).at_ 0).trans rfl
    have cr : wr.cell? ⟨br, 0, none⟩ = some (.int .i64 (r : Int)) := (hR.at_ 0).trans rfl
    have hfr := str_from s r hr
    have hf1 := first_any (s.drop r) wr
    have HT := Lib.hid hT
    have HRD := Lib.hid hR
    have HLN := Lib.hid hL
    have HO := Lib.hid hown
    rw [allGo] at hgo
    cases hv : firstV (s.drop r) with
    | inr c =>
      rw [hv] at hgo hf1
      have HG := Lib.hid hgo
      have HF : Hid (Calls Tryz.prog 142 #[.string ⟨(s.drop r).toArray⟩] wr fun e w' => e = .panicked (fault c) ∧ Below wr.heap.size wr w') := hf1
      clear hgo hf1 hv hT hR hL hown
      generalize s.drop r = d at *
      go_wp2_with fail
      refine HF.out.mono ?_
      rintro e w1 ⟨rfl, hB⟩
      exact ⟨rfl, HT.out.below hB, by rw [HG.out]; exact rfl⟩
    | inl x =>
      obtain ⟨k, t, n⟩ := x
      obtain ⟨hn4, hnl, hn1⟩ := firstV_le _ _ _ _ hv
      rw [List.length_drop] at hnl
      rw [hv] at hgo hf1
      have HF : Hid (Calls Tryz.prog 142 #[.string ⟨(s.drop r).toArray⟩] wr fun e w' => e = .returned (.tuple #[.int .i64 (k : Int), .string ⟨t.toArray⟩, .int .i64 (n : Int)]) ∧ Below wr.heap.size wr w') := hf1
      have hgo' : fin = if k = 2 then .inl (acc, r + n) else allGo f s (r + n) (acc ++ [t]) := hgo
      clear hgo hf1 hv hT hR hL hown
      generalize s.drop r = d at *
      by_cases hk : k = 2
      · rw [if_pos hk] at hgo'
        have HG := Lib.hid hgo'
        have hb : ((k : Int) == 2) = true := by simp [hk]
        clear hgo' hk
        go_wp2_with fail
        refine HF.out.mono ?_
        rintro e w1 ⟨rfl, hB⟩
        have HB := Lib.hid hB
        have R1 := HRD.out.below hB HRD.out.lt
        have hbr := HR.out.lt
        have hbl := HL.out.lt
        have cr1 : w1.cell? ⟨br, 0, none⟩ = some (.int .i64 (r : Int)) := (R1.at_ 0).trans rfl
        have zr1 := R1.thawed 0
        clear hB R1
        go_wp2
        refine bodyPost_ret (results_none rfl _ _ _) rfl ⟨(HT.out.below HB.out).set (.inl rfl) _, ?_⟩
        rw [HG.out]
        refine ⟨rfl, v, ?_, (HLN.out.below HB.out HLN.out.lt).aside (by show _ ≠ _; dsimp only; omega) _, ?_⟩
        · have := (HRD.out.below HB.out HRD.out.lt).put 0 (.int .i64 ((r : Int) + (n : Int)))
          rw [show (r : Int) + (n : Int) = ((r + n : Nat) : Int) by omega] at this ⊢
          exact this
        · refine World.ownsRow.kept HO.out (row := some br) (gr_set (gr_below (gr_refl _ _) HB.out) (.inl rfl) _) ?_
          cases hob : v.ownBlock with
          | none => exact .inl rfl
          | some j => exact .inr (fun e => by have := (HO.out.lt j hob).1; injection e with e; omega)
      · rw [if_neg hk] at hgo'
        have HG := Lib.hid hgo'
        have hb : ((k : Int) == 2) = false := beq_eq_false_iff_ne.2 (by omega)
        clear hgo' hk
        go_wp2_with fail
        refine HF.out.mono ?_
        rintro e w1 ⟨rfl, hB⟩
        have HB := Lib.hid hB
        have R1 := HRD.out.below hB HRD.out.lt
        have cr1 : w1.cell? ⟨br, 0, none⟩ = some (.int .i64 (r : Int)) := (R1.at_ 0).trans rfl
        have zr1 := R1.thawed 0
        have L1 := (HLN.out.below hB HLN.out.lt)
        have cl1 : w1.cell? ⟨bl, 0, none⟩ = some v := (L1.at_ 0).trans rfl
        have zl1 := L1.thawed 0
        clear hB R1 L1
        have hlim : acc.length + 1 ≤ s.length := by omega
        have hob : ∀ j, v.ownBlock = some j → W.heap.size ≤ j := fun j hj => (HO.out.lt j hj).1
        have hbr := HR.out.lt
        have hbl := HL.out.lt
        have hWs := HT.out.size
        have hW1 := HB.out.size
        have HO2 : Hid ((w1.setCell ⟨br, 0, none⟩ (.int .i64 ((r : Int) + (n : Int)))).ownsRow W.heap.size 9 1 v acc.length (acc.map S)) := by
          refine World.ownsRow.kept HO.out (row := some br) (gr_set (gr_below (gr_refl _ _) HB.out) (.inl rfl) _) ?_
          cases hobb : v.ownBlock with
          | none => exact .inl rfl
          | some j => exact .inr (fun e => by have := hob j hobb; injection e with e; omega)
        have HR2 : Hid (Whole (w1.setCell ⟨br, 0, none⟩ (.int .i64 ((r : Int) + (n : Int)))) br 3 #[.int .i64 ((r : Int) + (n : Int))]) := (HRD.out.below HB.out HRD.out.lt).put 0 (.int .i64 ((r : Int) + (n : Int)))
        have HL2 : Hid (Whole (w1.setCell ⟨br, 0, none⟩ (.int .i64 ((r : Int) + (n : Int)))) bl 58 #[v]) := (HLN.out.below HB.out HLN.out.lt).aside (by show _ ≠ _; dsimp only; omega) _
        have HT2 : Hid (Two br bl W (w1.setCell ⟨br, 0, none⟩ (.int .i64 ((r : Int) + (n : Int))))) := (HT.out.below HB.out).set (.inl rfl) _
        have HC : Hid (∀ j u, [Value.string ⟨t.toArray⟩][j]? = some u → ((w1.setCell ⟨br, 0, none⟩ (.int .i64 ((r : Int) + (n : Int)))).alloc (.cells #[.string ⟨t.toArray⟩] 9)).cell? ((⟨w1.heap.size, 0, none⟩ : Addr).add j) = some u) := by
          intro j u hu
          have h := (Whole.made (w1.setCell ⟨br, 0, none⟩ (.int .i64 ((r : Int) + (n : Int)))) 9 #[.string ⟨t.toArray⟩]).at_ j
          rw [World.size_setCell] at h
          rw [Addr.add_mid, Nat.zero_add, h]
          simpa using hu
        have hsz6 : W.heap.size ≤ ((w1.setCell ⟨br, 0, none⟩ (.int .i64 ((r : Int) + (n : Int)))).alloc (.cells #[.string ⟨t.toArray⟩] 9)).heap.size := by simp; omega
        go_wp2_with (at_builtin; go_loud (refine wpList_append_own_at _ rfl _ _ 58 rfl W.heap.size 9 si (.string ⟨#[]⟩) 1 16 Tryz.underlying58 hsi hsz0 hsz1 hsz2 rfl (by decide) v acc.length (acc.map S) rfl (HO2.out.alloc _) ⟨w1.heap.size, 0, none⟩ 1 1 [.string ⟨t.toArray⟩] rfl rfl HC.out (by simp [Value.oneCell']) (by unfold maxLen; omega) (by omega) hsz6 ?_); intro v' w5 hown' hgrow hnil hloc; have HO5 := Lib.hid hown'; have HG5 := Lib.hid hgrow; have HBL5 := Lib.hid (((HL2.out.past _)).grown hgrow (fun e => by have := hob bl e.symm; omega)); have cl5 := (HBL5.out.at_ 0).trans (rfl : _ = some v); have zl5 := HBL5.out.thawed 0; obtain ⟨g5, cap5, rfl⟩ : ∃ g c, v' = Value.slice (some ⟨g, 0, none⟩) (acc.length + 1) c := (by rcases hown'.2 with ⟨-, h0⟩ | ⟨g, c, _, h, -⟩; exact absurd h0 (by omega); exact ⟨g, c, h⟩); clear hown' hgrow hnil hloc)
        have HR5 : Hid (Whole w5 br 3 #[.int .i64 (((r + n : Nat)) : Int)]) := by
          have := (HR2.out.past (.cells #[.string ⟨t.toArray⟩] 9)).grown HG5.out (fun e => by have := hob br e.symm; omega)
          rw [show (r : Int) + (n : Int) = ((r + n : Nat) : Int) by omega] at this
          exact this
        have HR6 : Hid (Whole (w5.setCell ⟨bl, 0, none⟩ (.slice (some ⟨g5, 0, none⟩) (acc.length + 1) cap5)) br 3 #[.int .i64 (((r + n : Nat)) : Int)]) := HR5.out.aside (by show _ ≠ _; dsimp only; omega) _
        have hgw := (HO5.out.lt g5 rfl).1
        refine ⟨⟨f, r + n, acc ++ [t], .slice (some ⟨g5, 0, none⟩) (acc.length + 1) cap5, by omega, by omega, by omega, by simp; omega, HG.out, ?_, HR6.out, ?_, ?_⟩, ?_⟩
        · exact ((HT2.out.alloc _).grown HG5.out hob).set (.inr rfl) _
        · have := HBL5.out.put 0 (.slice (some ⟨g5, 0, none⟩) (acc.length + 1) cap5)
          exact this
        · have := World.ownsRow.kept HO5.out (row := some bl) (gr_set (gr_refl w5 (some bl)) (p := ⟨bl, 0, none⟩) (.inl rfl) (.slice (some ⟨g5, 0, none⟩) (acc.length + 1) cap5)) (.inr (fun e => by have e : some g5 = some bl := e; injection e with e; omega))
          rw [List.map_append, List.length_append]
          exact this
        · rw [HR6.out.at_ 0, cr]
          simp [intOf]
          omega
end Go.Proofs.YtfaijkgfhdhhbaaGreatDoor
namespace Go.Proofs.YtfaijkgfhdhhbaaGreatDoor
open Go.RowKit

theorem owns_base {w : World} {B base : Nat} {e size : Nat} {v : Value} {n : Nat} {xs : List Value} (h : w.ownsRow base e size v n xs) (hb : B ≤ base) : w.ownsRow B e size v n xs := by
  refine ⟨h.1, ?_⟩
  rcases h.2 with hn | ⟨g, cap, cur, rfl, hg, rest⟩
  · exact .inl hn
  · exact .inr ⟨g, cap, cur, rfl, Nat.le_trans hb hg, rest⟩
theorem three (w : World) (a b c : Array Value) (ta tb tc : TypeId) : ∃ W, W = ((w.alloc (.cells a ta)).alloc (.cells b tb)).alloc (.cells c tc) ∧ Below w.heap.size w W ∧ W.heap.size = w.heap.size + 3 ∧
    Whole W w.heap.size ta a ∧ Whole W (w.heap.size + 1) tb b ∧ Whole W (w.heap.size + 1 + 1) tc c := by
  refine ⟨_, rfl, (((Below.refl _ _).alloc (Nat.le_refl _) _).alloc (by simp) _).alloc (by simp; omega) _, by simp, ((Whole.made _ _ _).past _).past _, ?_, ?_⟩
  · have h := (Whole.made (w.alloc (.cells a ta)) tb b).past (.cells c tc)
    simpa using h
  · have h := Whole.made ((w.alloc (.cells a ta)).alloc (.cells b tb)) tc c
    simpa using h
theorem all1_enters (caps : Array Value) (W : World) : (callFunc 143 caps).run Tryz.prog W = .ok (.enter 143 caps) W := enters_of Tryz.func143 (by kernel_rfl) rfl _ _
set_option maxRecDepth 100000 in
set_option maxHeartbeats 1000000 in
theorem all_ok (s : List UInt8) (l : List (List UInt8)) (r : Nat) (w : World) (hlen : s.length < 1099511627776) (hv : allGo (s.length + 1) s 0 [] = .inl (l, r)) :
    Calls Tryz.prog 106 #[.string ⟨s.toArray⟩] w fun e w' => ∃ v, e = .returned (.tuple #[v, .int .i64 (r : Int), .int .i64 0]) ∧ w'.ownsRow w.heap.size 9 1 v l.length (l.map S) ∧ Below w.heap.size w w' := by
  have hmf : ∀ (fn : Fn) (first cap : Array Value) (w : World), (Instr.makeFunc fn first cap).run Tryz.prog w = .ok (.func fn first cap) w := fun _ _ _ _ => rfl
  have HV := Lib.hid hv
  clear hv
  go_enter Tryz.func106, Tryz.ntmps106
  go_wp2_with fail
  obtain ⟨W, hW, hB, hsz, hS, hL, hR⟩ := three w #[.string ⟨s.toArray⟩] #[.slice none 0 0] #[.int .i64 0] 9 58 3
  rw [← hW]
  have hS1 := hS.past (.cells #[.int .i64 0] 40)
  have hL1 := hL.past (.cells #[.int .i64 0] 40)
  have hR1 := hR.past (.cells #[.int .i64 0] 40)
  have hE1 := Whole.made W 40 #[.int .i64 0]
  have hsz1 : (W.alloc (.cells #[.int .i64 0] 40)).heap.size = w.heap.size + 4 := by simp; omega
  have hB1 : Below w.heap.size w (W.alloc (.cells #[.int .i64 0] 40)) := hB.alloc (by omega) _
  have hcall := all1_any w.heap.size (w.heap.size + 1 + 1) (w.heap.size + 1) s _ hlen hS1 hR1 hL1 (by omega) (by omega) (by omega)
  rw [HV.out] at hcall
  generalize hW1 : W.alloc (.cells #[.int .i64 0] 40) = W1 at *
  refine (do_ret 143 _ W (fun w' => Two (w.heap.size + 1 + 1) (w.heap.size + 1) W1 w' ∧ ∃ v, Whole w' (w.heap.size + 1 + 1) 3 #[.int .i64 (r : Int)] ∧ Whole w' (w.heap.size + 1) 58 #[v] ∧ w'.ownsRow W1.heap.size 9 1 v l.length (l.map S)) (all1_enters _) ?_ (by rw [hW1]; exact hcall.mono (fun e w' ⟨h2, he, h3⟩ => ⟨he, h2, h3⟩))).mono ?_
  · rintro w' ⟨h2, -⟩
    have hE2 := hE1.two h2 (by omega) (by omega)
    exact ⟨0, (hE2.at_ 0).trans rfl, hE2.thawed 0⟩
  rintro e w' ⟨rfl, w2, ⟨h2, v, hR2, hL2, ho⟩, rfl⟩
  have R3 := hR2.aside (p := ⟨W.heap.size, 0, none⟩) (by show _ ≠ _; dsimp only; omega) (.int .i64 0)
  have L3 := hL2.aside (p := ⟨W.heap.size, 0, none⟩) (by show _ ≠ _; dsimp only; omega) (.int .i64 0)
  have B3 := (hB1.trans (h2.to (B := w.heap.size) (by omega) (by omega) (by omega))).setCell (p := ⟨W.heap.size, 0, none⟩) (by simp; omega) (.int .i64 0)
  have O3 := owns_base (B := w.heap.size) (World.ownsRow.kept ho (gr_set (gr_refl w2 (some W.heap.size)) (p := ⟨W.heap.size, 0, none⟩) (.inl rfl) (.int .i64 0)) (by
    cases hob : v.ownBlock with
    | none => exact .inl rfl
    | some j => exact .inr (fun e => by have := (ho.lt j hob).1; injection e with e; omega))) (by omega)
  generalize w2.setCell ⟨W.heap.size, 0, none⟩ (.int .i64 0) = V at *
  have HB3 := Lib.hid B3
  have HO3 := Lib.hid O3
  have cr : V.cell? ⟨w.heap.size + 1 + 1, 0, none⟩ = some (.int .i64 (r : Int)) := (R3.at_ 0).trans rfl
  have cl : V.cell? ⟨w.heap.size + 1, 0, none⟩ = some v := (L3.at_ 0).trans rfl
  clear hW hB hsz hS hL hR hS1 hL1 hR1 hE1 hsz1 hB1 hcall hW1 h2 hR2 hL2 ho R3 L3 B3 O3
  go_wp2
  go_region
  go_wp2
  go_ret3
  exact ⟨v, rfl, HO3.out.drew, HB3.out.drew⟩
set_option maxRecDepth 100000 in
set_option maxHeartbeats 1000000 in
theorem all_bad (s : List UInt8) (c : Int) (w : World) (hc : c ≠ 0) (hlen : s.length < 1099511627776) (hv : allGo (s.length + 1) s 0 [] = .inr c) :
    Calls Tryz.prog 106 #[.string ⟨s.toArray⟩] w fun e w' => e = .returned (.tuple #[.slice none 0 0, .int .i64 0, .int .i64 c]) ∧ Below w.heap.size w w' := by
  have hmf : ∀ (fn : Fn) (first cap : Array Value) (w : World), (Instr.makeFunc fn first cap).run Tryz.prog w = .ok (.func fn first cap) w := fun _ _ _ _ => rfl
  have HV := Lib.hid hv
  have hcc : (c == 0) = false := beq_eq_false_iff_ne.2 hc
  clear hv hc
  go_enter Tryz.func106, Tryz.ntmps106
  go_wp2_with fail
  obtain ⟨W, hW, hB, hsz, hS, hL, hR⟩ := three w #[.string ⟨s.toArray⟩] #[.slice none 0 0] #[.int .i64 0] 9 58 3
  rw [← hW]
  have hS1 := hS.past (.cells #[.int .i64 0] 40)
  have hL1 := hL.past (.cells #[.int .i64 0] 40)
  have hR1 := hR.past (.cells #[.int .i64 0] 40)
  have hE1 := Whole.made W 40 #[.int .i64 0]
  have hsz1 : (W.alloc (.cells #[.int .i64 0] 40)).heap.size = w.heap.size + 4 := by simp; omega
  have hB1 : Below w.heap.size w (W.alloc (.cells #[.int .i64 0] 40)) := hB.alloc (by omega) _
  have hcall := all1_any w.heap.size (w.heap.size + 1 + 1) (w.heap.size + 1) s _ hlen hS1 hR1 hL1 (by omega) (by omega) (by omega)
  rw [HV.out] at hcall
  generalize hW1 : W.alloc (.cells #[.int .i64 0] 40) = W1 at *
  refine (do_fault 143 _ W c (fun w' => Two (w.heap.size + 1 + 1) (w.heap.size + 1) W1 w') (all1_enters _) ?_ (by rw [hW1]; exact hcall.mono (fun e w' ⟨h2, he⟩ => ⟨he, h2⟩))).mono ?_
  · rintro w' h2
    have hE2 := hE1.two h2 (by omega) (by omega)
    exact ⟨0, (hE2.at_ 0).trans rfl, hE2.thawed 0⟩
  rintro e w' ⟨rfl, w1, w2, h2, hB2, rfl⟩
  have B3 := (hB1.trans ((h2.below hB2).to (B := w.heap.size) (by omega) (by omega) (by omega))).setCell (p := ⟨W.heap.size, 0, none⟩) (by simp; omega) (.int .i64 c)
  generalize w2.setCell ⟨W.heap.size, 0, none⟩ (.int .i64 c) = V at *
  have HB3 := Lib.hid B3
  clear hW hB hsz hS hL hR hS1 hL1 hR1 hE1 hsz1 hB1 hcall hW1 h2 hB2 B3
  go_wp2
  go_ret3
  exact ⟨rfl, HB3.out⟩
end Go.Proofs.YtfaijkgfhdhhbaaGreatDoor

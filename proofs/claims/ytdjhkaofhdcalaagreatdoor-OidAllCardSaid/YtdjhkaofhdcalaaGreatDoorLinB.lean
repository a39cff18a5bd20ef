/-
  line.length, line.first, walked.
-/
import Derived.Test.YtdjhkaofhdcalaaGreatDoorLinA
import Derived.Test.YtdjhkaofhdcalaaGreatDoorGuaA
import Derived.Laws.DeepStrings4
namespace Go.Proofs.YtdjhkaofhdcalaaGreatDoor
open Go.RowKit

/-- What a sign stands for among the digits; below 0: nothing. -/
def hval (c : UInt8) : Int := Lib.indexByte [48, 49, 50, 51, 52, 53, 54, 55, 56, 57, 97, 98, 99, 100, 101, 102] c
theorem hval_lt (c : UInt8) : hval c < 16 := by
  have h : ∀ n, n < 256 → hval (UInt8.ofNat n) < 16 := by decide +kernel
  have := h c.toNat c.toNat_lt
  rwa [UInt8.ofNat_toNat] at this
theorem digit_any (c : UInt8) (w : World) : Calls Tryz.prog 43 #[.string ⟨#[48, 49, 50, 51, 52, 53, 54, 55, 56, 57, 97, 98, 99, 100, 101, 102]⟩, .int .u8 (c.toNat : Int)] w fun e w' => e = .returned (.int .i64 (hval c)) ∧ w = w' := by
  refine (Tryz.strings_IndexByte ⟨#[48, 49, 50, 51, 52, 53, 54, 55, 56, 57, 97, 98, 99, 100, 101, 102]⟩ (c.toNat : Int) w).mono ?_
  rintro e w' ⟨rfl, rfl⟩
  refine ⟨?_, rfl⟩
  rw [show ((c.toNat : Int).toNat.toUInt8) = c by simp]
  rfl
theorem str_at (l : List UInt8) (k : Nat) (h : k < l.length) (w : World) : (Instr.index 9 (.string ⟨l.toArray⟩) (.int .i64 (k : Int))).run Tryz.prog w = .ok (.int .u8 ((l.getD k 0).toNat : Int)) w := by
  rw [run_index_string (w := w) 9 _ _ _ Tryz.underlying9, dif_pos ⟨by omega, by show (k : Int) < ((l.toArray.size : Nat) : Int); simp; omega⟩]
  simp only [Int.toNat_natCast]
  have : (ByteArray.mk l.toArray)[k]'(by show k < l.toArray.size; simpa using h) = l.getD k 0 := by
    show l.toArray[k]'_ = _
    simp [List.getElem?_eq_getElem h]
  rw [this]
/-- What the signs say: a length, or an error. -/
def lenGo : Nat → Nat → List UInt8 → Nat ⊕ Int
  | 0, z, _ => .inl z
  | _ + 1, _, [] => .inr 2
  | f + 1, z, c :: r => if hval c < 0 then .inr 1 else if (z * 16 + (hval c).toNat) * 16 ^ f ≤ 1004 then lenGo f (z * 16 + (hval c).toNat) r else .inr 1
def lenE : Nat ⊕ Int → Ending → Prop
  | .inl n, e => e = .returned (.int .i64 (n : Int))
  | .inr c, e => e = .panicked (fault c)
theorem must_if (b : Bool) (c : Int) (w : World) : Calls Tryz.prog 92 #[.bool b, .int .i64 c] w fun e w' => e = (if b then .returned (.tuple #[]) else .panicked (fault c)) ∧ w = w' := by
  cases b
  · exact must_no c w
  · exact must_yes c w
theorem or_digit (z d : Nat) (hz : z < 1125899906842624) (hd : d < 16) : bits .or .i64 ((z : Int) * 16) (d : Int) = ((z * 16 + d : Nat) : Int) := by
  have hx : z * 16 ||| d < 2 ^ 63 := Nat.or_lt_two_pow (by omega) (by omega)
  have h1 : (BitVec.ofInt 64 ((z : Int) * 16)).toNat = z * 16 := by
    rw [show (z : Int) * 16 = ((z * 16 : Nat) : Int) by simp, BitVec.ofInt_natCast, BitVec.toNat_ofNat]; exact Nat.mod_eq_of_lt (by omega)
  have h2 : (BitVec.ofInt 64 (d : Int)).toNat = d := by
    rw [BitVec.ofInt_natCast, BitVec.toNat_ofNat]; exact Nat.mod_eq_of_lt (by omega)
  show IntKind.i64.wrap ((BitVec.ofInt 64 ((z : Int) * 16) ||| BitVec.ofInt 64 (d : Int)).toNat : Int) = _
  rw [BitVec.toNat_or, h1, h2, IntKind.wrap_i64]
  have e : z * 16 ||| d = z * 16 + d := by
    rw [show z * 16 = 2 ^ 4 * z by omega, ← Nat.two_pow_add_eq_or_of_lt (by omega)]
  rw [e] at hx ⊢
  omega
theorem sh_le (m d f : Nat) (hm : m ≤ 1004) (hd : d < 16) (hf : f < 4) : decide (wrap64 (((m : Int) * 16 + (d : Int)) * 2 ^ (4 * f)) ≤ 1004) = decide ((m * 16 + d) * 16 ^ f ≤ 1004) := by
  have h : f = 0 ∨ f = 1 ∨ f = 2 ∨ f = 3 := by omega
  rcases h with rfl | rfl | rfl | rfl <;> (simp only [wrap64]; rw [decide_eq_decide]; simp; omega)
theorem str_end (s : List UInt8) (k : Nat) : decide ((k : Int) < (s.length : Int)) = decide (k < s.length) := by
  simp
set_option maxHeartbeats 1000000 in
theorem length_any (s : List UInt8) (w : World) : Calls Tryz.prog 91 #[.string ⟨s.toArray⟩] w fun e w' => lenE (lenGo 4 0 s) e ∧ w = w' := by
  go_enter Tryz.func91, Tryz.ntmps91
  go_wp2_with fail
  go_loopw [3, 7] (fun z i wr => ∃ f k m : Nat, f + k = 4 ∧ i = .int .i64 (k : Int) ∧ z = .int .i64 (m : Int) ∧ (k = 0 ∧ m = 0 ∨ m * 16 ^ f ≤ 1004) ∧ wr = w ∧ lenGo 4 0 s = lenGo f m (s.drop k)) (fun _ i _ => 4 - (intOf i).toNat)
  case atStart => exact ⟨4, 0, 0, rfl, rfl, rfl, .inl ⟨rfl, rfl⟩, rfl, rfl⟩
  case round =>
    obtain ⟨f, k, m, hfk, rfl, rfl, hm, rfl, hgo⟩ := hrel
    have HM := Lib.hid hm
    have HGO := Lib.hid hgo
    clear hm hgo
    by_cases hk : k < 4
    · obtain ⟨f, rfl⟩ : ∃ g, f = g + 1 := ⟨f - 1, by omega⟩
      by_cases hks : k < s.length
      · have hdrop : s.drop k = s.getD k 0 :: s.drop (k + 1) := by
          rw [List.drop_eq_getElem_cons hks]
          simp [List.getElem?_eq_getElem hks]
        have hidx := str_at s k hks
        have HDR := Lib.hid hdrop
        clear hdrop
        generalize s.getD k 0 = c at *
        have hdg := digit_any c wr
        have hv := hval_lt c
        by_cases hneg : hval c < 0
        · have hres : lenGo 4 0 s = .inr 1 := by rw [HGO.out, HDR.out, lenGo, if_pos hneg]
          have hdd : decide (0 ≤ hval c) = false := by simp; omega
          have HD := Lib.hid hdg
          have HR := Lib.hid hres
          clear hdg hres
          generalize hval c = d at *
          go_wp2_with (first
            | (go_at_call 43; refine HD.out.mono ?_; rintro e w' ⟨rfl, rfl⟩)
            | (go_at_call 92; go_at_call_of 92 (Value.bool true); refine (must_yes _ _).mono ?_; rintro e w' ⟨rfl, rfl⟩)
            | (go_at_call 92; go_at_call_of 92 (Value.bool false); refine (must_no _ _).mono ?_; rintro e w' ⟨rfl, rfl⟩))
          exact ⟨rfl, by rw [HR.out]; exact rfl, rfl⟩
        · obtain ⟨d, hd⟩ : ∃ d : Nat, hval c = (d : Int) := ⟨(hval c).toNat, by omega⟩
          have hd16 : d < 16 := by omega
          have hstep : lenGo 4 0 s = if (m * 16 + d) * 16 ^ f ≤ 1004 then lenGo f (m * 16 + d) (s.drop (k + 1)) else .inr 1 := by
            rw [HGO.out, HDR.out, lenGo, if_neg hneg, hd]; rfl
          have hm1004 : m ≤ 1004 := by
            rcases HM.out with ⟨-, h⟩ | h
            · omega
            · exact Nat.le_trans (Nat.le_mul_of_pos_right _ (Nat.pow_pos (by decide))) h
          have hor := or_digit m d (by omega) hd16
          rw [hd] at hdg
          have HD := Lib.hid hdg
          clear hdg hd hneg hv
          have hf3 : (3 : Int) - (k : Int) = (f : Int) := by omega
          have hsl := sh_le m d f hm1004 hd16 (by omega)
          by_cases hle : (m * 16 + d) * 16 ^ f ≤ 1004
          · rw [decide_eq_true hle] at hsl
            rw [if_pos hle] at hstep
            have HL := Lib.hid hle
            have HST := Lib.hid hstep
            clear hle hstep
            go_wp2_with (first
              | (go_at_call 43; refine HD.out.mono ?_; rintro e w' ⟨rfl, rfl⟩)
              | (go_at_call 92; go_at_call_of 92 (Value.bool true); refine (must_yes _ _).mono ?_; rintro e w' ⟨rfl, rfl⟩))
            go_roundw
            case rel =>
              exact ⟨f, k + 1, m * 16 + d, by omega, by go_num, by go_num, .inr HL.out, trivial, HST.out⟩
            case measure => simp [intOf]; omega
          · rw [decide_eq_false hle] at hsl
            rw [if_neg hle] at hstep
            have HST := Lib.hid hstep
            clear hle hstep
            go_wp2_with (first
              | (go_at_call 43; refine HD.out.mono ?_; rintro e w' ⟨rfl, rfl⟩)
              | (go_at_call 92; go_at_call_of 92 (Value.bool true); refine (must_yes _ _).mono ?_; rintro e w' ⟨rfl, rfl⟩)
              | (go_at_call 92; go_at_call_of 92 (Value.bool false); refine (must_no _ _).mono ?_; rintro e w' ⟨rfl, rfl⟩))
            exact ⟨rfl, by rw [HST.out]; exact rfl, rfl⟩
      · have hres : lenGo 4 0 s = .inr 2 := by rw [HGO.out, List.drop_eq_nil_of_le (by omega), lenGo]
        have HR := Lib.hid hres
        clear hres
        go_wp2_with (go_at_call 92; go_at_call_of 92 (Value.bool false); refine (must_no _ _).mono ?_; rintro e w' ⟨rfl, rfl⟩)
        exact ⟨rfl, by rw [HR.out]; exact rfl, rfl⟩
    · obtain rfl : f = 0 := by omega
      go_wp2
      go_ret
      exact ⟨by rw [HGO.out]; exact rfl, rfl⟩

/-- strings.Clone. -/
theorem clone_any (l : List UInt8) (w : World) (h : l.length ≤ 281474976710656) : Calls Tryz.prog 93 #[.string ⟨l.toArray⟩] w fun e w' => e = .returned (.string ⟨l.toArray⟩) ∧ Below w.heap.size w w' := by
  go_enter Tryz.func93, Tryz.ntmps93
  go_wp2_with fail
  refine (Tryz.stringslite_Clone ⟨l.toArray⟩ w (by show l.toArray.size ≤ _; simpa using h)).mono ?_
  rintro e w' ⟨rfl, hB⟩
  have HB := Lib.hid hB
  clear hB
  go_wp2
  go_ret
  exact ⟨rfl, HB.out⟩

theorem str_cut (l : List UInt8) (a n : Nat) (ha : a ≤ n) (hn : n ≤ l.length) (w : World) : (Instr.slice 9 (.string ⟨l.toArray⟩) (some (.int .i64 (a : Int))) (some (.int .i64 (n : Int))) none).run Tryz.prog w = .ok (.string ⟨((l.take n).drop a).toArray⟩) w := by
  have hsz : (ByteArray.mk l.toArray).size = l.length := by simp [ByteArray.size]
  rw [run_slice_string_if (w := w) 9 _ .i64 .i64 _ _ Tryz.underlying9, if_pos ⟨by omega, by rw [hsz]; omega⟩, if_pos ⟨by omega, by omega⟩, ByteArray.extract_mk]
  simp [List.drop_take]
/-- What stands first: its kind, its text, how many bytes; or an error. -/
def firstV (s : List UInt8) : (Nat × List UInt8 × Nat) ⊕ Int :=
  match lenGo 4 0 s with
  | .inr c => .inr c
  | .inl n => if n = 0 then .inl (2, [], 4) else if n = 1 then .inl (3, [], 4) else if n ≤ 4 then .inr 1 else if s.length < n then .inr 2 else .inl (1, (s.take n).drop 4, n)
def tripE : (Nat × List UInt8 × Nat) ⊕ Int → Ending → Prop
  | .inl (k, t, n), e => e = .returned (.tuple #[.int .i64 (k : Int), .string ⟨t.toArray⟩, .int .i64 (n : Int)])
  | .inr c, e => e = .panicked (fault c)
theorem lenGo_le (f z : Nat) (s : List UInt8) (n : Nat) (h : lenGo f z s = .inl n) (hz : z ≤ 1004) : n ≤ 1004 := by
  induction f generalizing z s with
  | zero => injection h with h; omega
  | succ f ih =>
    cases s with
    | nil => exact nomatch h
    | cons c r =>
      rw [lenGo] at h
      split at h
      · exact nomatch h
      · split at h
        · rename_i hle
          exact ih _ _ h (Nat.le_trans (Nat.le_mul_of_pos_right _ (Nat.pow_pos (by decide))) hle)
        · exact nomatch h
set_option maxRecDepth 100000 in
set_option maxHeartbeats 1000000 in
theorem first_any (s : List UInt8) (w : World) : Calls Tryz.prog 65 #[.string ⟨s.toArray⟩] w fun e w' => tripE (firstV s) e ∧ Below w.heap.size w w' := by
  have hlen := length_any s w
  cases hv : lenGo 4 0 s with
  | inr c =>
    rw [hv] at hlen
    have hres : firstV s = .inr c := by unfold firstV; rw [hv]
    have HR := Lib.hid hres
    have HL := Lib.hid hlen
    clear hres hlen hv
    go_enter Tryz.func65, Tryz.ntmps65
    go_wp2_with fail
    refine HL.out.mono ?_
    rintro e w' ⟨he, rfl⟩
    obtain rfl : e = .panicked (fault c) := he
    exact ⟨rfl, by rw [HR.out]; exact rfl, Below.refl _ _⟩
  | inl n =>
    rw [hv] at hlen
    have hn := lenGo_le _ _ _ _ hv (by omega)
    have hlen' : Calls Tryz.prog 91 #[.string ⟨s.toArray⟩] w fun e w' => e = .returned (.int .i64 (n : Int)) ∧ w = w' := hlen
    have hres : firstV s = if n = 0 then .inl (2, [], 4) else if n = 1 then .inl (3, [], 4) else if n ≤ 4 then .inr 1 else if s.length < n then .inr 2 else .inl (1, (s.take n).drop 4, n) := by unfold firstV; rw [hv]
    have HL := Lib.hid hlen'
    clear hlen hlen' hv
    by_cases h0 : n = 0
    · rw [if_pos h0] at hres
      have HR := Lib.hid hres
      have hb : ((n : Int) == 0) = true := by simp [h0]
      clear hres h0
      go_enter Tryz.func65, Tryz.ntmps65
      go_wp2_with (go_at_call 91; refine HL.out.mono ?_; rintro e w' ⟨rfl, rfl⟩)
      go_ret3
      exact ⟨by rw [HR.out]; rfl, Below.refl _ _⟩
    · rw [if_neg h0] at hres
      have hb0 : ((n : Int) == 0) = false := beq_eq_false_iff_ne.2 (by omega)
      by_cases h1 : n = 1
      · rw [if_pos h1] at hres
        have HR := Lib.hid hres
        have hb : ((n : Int) == 1) = true := by simp [h1]
        clear hres h1
        go_enter Tryz.func65, Tryz.ntmps65
        go_wp2_with (go_at_call 91; refine HL.out.mono ?_; rintro e w' ⟨rfl, rfl⟩)
        go_ret3
        exact ⟨by rw [HR.out]; rfl, Below.refl _ _⟩
      · rw [if_neg h1] at hres
        have hb1 : ((n : Int) == 1) = false := beq_eq_false_iff_ne.2 (by omega)
        by_cases h4 : n ≤ 4
        · rw [if_pos h4] at hres
          have HR := Lib.hid hres
          have hd : decide (4 < (n : Int)) = false := by simp; omega
          clear hres h1 h0
          go_enter Tryz.func65, Tryz.ntmps65
          go_wp2_with (first
            | (go_at_call 91; refine HL.out.mono ?_; rintro e w' ⟨rfl, rfl⟩)
            | (go_at_call 92; refine (must_no _ _).mono ?_; rintro e w' ⟨rfl, rfl⟩))
          exact ⟨rfl, by rw [HR.out]; exact rfl, Below.refl _ _⟩
        · rw [if_neg h4] at hres
          have hd : decide (4 < (n : Int)) = true := by simp; omega
          by_cases hl : s.length < n
          · rw [if_pos hl] at hres
            have HR := Lib.hid hres
            have hd2 : decide (n ≤ s.length) = false := by simp; omega
            clear hres h1 h0
            go_enter Tryz.func65, Tryz.ntmps65
            go_wp2_with (first
              | (go_at_call 91; refine HL.out.mono ?_; rintro e w' ⟨rfl, rfl⟩)
              | (go_at_call 92; go_at_call_of 92 (Value.bool true); refine (must_yes _ _).mono ?_; rintro e w' ⟨rfl, rfl⟩)
              | (go_at_call 92; go_at_call_of 92 (Value.bool false); refine (must_no _ _).mono ?_; rintro e w' ⟨rfl, rfl⟩))
            exact ⟨rfl, by rw [HR.out]; exact rfl, Below.refl _ _⟩
          · rw [if_neg hl] at hres
            have HR := Lib.hid hres
            have hd2 : decide (n ≤ s.length) = true := by simp; omega
            have hc := clone_any ((s.take n).drop 4) w (by simp; omega)
            have HC := Lib.hid hc
            have hcut := str_cut s 4 n (by omega) (by omega)
            rw [show ((4 : Nat) : Int) = 4 from rfl] at hcut
            generalize hpt : (s.take n).drop 4 = pt at *
            have HPT := Lib.hid hpt
            clear hres h1 h0 hc hpt
            go_enter Tryz.func65, Tryz.ntmps65
            go_wp2_with (first
              | (go_at_call 91; refine HL.out.mono ?_; rintro e w' ⟨rfl, rfl⟩)
              | (go_at_call 92; go_at_call_of 92 (Value.bool true); refine (must_yes _ _).mono ?_; rintro e w' ⟨rfl, rfl⟩))
            refine HC.out.mono ?_
            rintro e w' ⟨rfl, hB⟩
            have HB := Lib.hid hB
            clear hB
            go_wp2
            go_ret3
            exact ⟨by rw [HR.out]; rfl, HB.out⟩
end Go.Proofs.YtdjhkaofhdcalaaGreatDoor

/-
  WhenSize, walked.
-/
import Derived.Test.YtghpnjgglneecaaGreatDoorRSizB
import Derived.Test.YtghpnjgglneecaaGreatDoorText
import Derived.Test.YtghpnjgglneecaaGreatDoorBegB
namespace Go.Proofs.YtghpnjgglneecaaGreatDoor
open Go.RowKit

theorem one_byte (c : UInt8) (w : World) : (convert 22 9 (.slice (some ⟨w.heap.size, 0, none⟩) 1 1)).run Tryz.prog (w.alloc (.cells #[.int .u8 (c.toNat : Int)] 5)) = .ok (.string ⟨#[c]⟩) (w.alloc (.cells #[.int .u8 (c.toNat : Int)] 5)) := by
  have h := Whole.made w 5 #[.int .u8 (c.toNat : Int)]
  have hby : Bytes (w.alloc (.cells #[.int .u8 (c.toNat : Int)] 5)) (.slice (some ⟨w.heap.size, 0, none⟩) 1 1) [c] := ⟨_, 1, rfl, Nat.le_refl _, by unfold maxLen; omega, fun _ => ⟨_, _, rfl, fun i hi => by
    obtain rfl : i = 0 := by simpa using hi
    exact h.at_ 0⟩⟩
  exact bytes_str (P := Tryz.prog) 22 9 5 Tryz.underlying22 Tryz.underlying5 Tryz.underlying9 hby
/-- Some text, not too long. -/
def DecE (k : Nat) (e : Ending) : Prop := ∃ l : List UInt8, l.length ≤ k ∧ e = .returned (.string ⟨l.toArray⟩)
theorem dec_small (n : Nat) (h : n < 10) (w : World) : Calls Tryz.prog 18 #[.int .i64 (n : Int)] w fun e w' => DecE 1 e ∧ Below w.heap.size w w' := by
  have hd1 : decide ((n : Int) < 0) = false := by simp
  have hd2 : decide ((n : Int) < 10) = true := by simp; omega
  have hs := one_byte (UInt8.ofNat (48 + n)) w
  have hv : ((UInt8.ofNat (48 + n)).toNat : Int) = 48 + (n : Int) := by
    rw [UInt8.toNat_ofNat']
    omega
  rw [hv] at hs
  clear hv
  generalize UInt8.ofNat (48 + n) = c at *
  go_enter Tryz.func18, Tryz.ntmps18
  go_wp2
  go_ret
  exact ⟨⟨[c], Nat.le_refl _, rfl⟩, (Below.refl _ _).alloc (Nat.le_refl _) _⟩
theorem dec_any (k : Nat) : ∀ (n : Nat) (w : World), n < 10 ^ (k + 1) → k ≤ 10 → Calls Tryz.prog 18 #[.int .i64 (n : Int)] w fun e w' => DecE (k + 1) e ∧ Below w.heap.size w w' := by
  induction k with
  | zero => intro n w h _; exact dec_small n (by simpa using h) w
  | succ k ih =>
    intro n w h hk
    by_cases h10 : n < 10
    · exact (dec_small n h10 w).mono fun e w' ⟨⟨l, hl, he⟩, hb⟩ => ⟨⟨l, by omega, he⟩, hb⟩
    · have hd1 : decide ((n : Int) < 0) = false := by simp
      have hd2 : decide ((n : Int) < 10) = false := by simp; omega
      have hq : n / 10 < 10 ^ (k + 1) := by rw [Nat.pow_succ] at h; omega
      have hn : n < 1000000000000 := Nat.lt_of_lt_of_le h (by have := Nat.pow_le_pow_right (n := 10) (by decide) (show k + 1 + 1 ≤ 12 by omega); simpa using this)
      have H1 := Lib.hid fun W => ih (n / 10) W hq (by omega)
      have H2 := Lib.hid fun W => dec_small (n % 10) (by omega) W
      rw [show ((n / 10 : Nat) : Int) = (n : Int) / 10 by omega] at H1
      rw [show ((n % 10 : Nat) : Int) = (n : Int) % 10 by omega] at H2
      clear ih h hq
      go_enter Tryz.func18, Tryz.ntmps18
      go_wp2_with fail
      (with_reducible refine (H1.out _).mono ?_)
      rintro e w1 ⟨⟨l1, hl1, rfl⟩, hB1⟩
      have HB1 := Lib.hid hB1
      clear hB1
      go_wp2_with fail
      (with_reducible refine (H2.out _).mono ?_)
      rintro e w2 ⟨⟨l2, hl2, rfl⟩, hB2⟩
      have HB2 := Lib.hid (HB1.out.trans (hB2.mono HB1.out.size))
      have HAP := Lib.hid (ba_append l1 l2)
      clear hB2
      go_wp2
      go_ret
      exact ⟨⟨l1 ++ l2, by rw [List.length_append]; omega, by rw [← HAP.out]; rfl⟩, HB2.out⟩
theorem and_mask (x : Int) (m : Nat) (hm : m < 9223372036854775808) : ∃ r : Nat, r ≤ m ∧ bits .and .i64 x (m : Int) = (r : Int) := by
  have hmv : (BitVec.ofInt 64 (m : Int)).toNat = m := by
    rw [BitVec.ofInt_natCast, BitVec.toNat_ofNat]; exact Nat.mod_eq_of_lt (by omega)
  have h : (BitVec.ofInt 64 x &&& BitVec.ofInt 64 (m : Int)).toNat ≤ m := by
    rw [BitVec.toNat_and]
    exact Nat.le_trans Nat.and_le_right (by rw [hmv]; exact Nat.le_refl _)
  refine ⟨_, h, ?_⟩
  show IntKind.i64.wrap ((BitVec.ofInt 64 x &&& BitVec.ofInt 64 (m : Int)).toNat : Int) = _
  rw [IntKind.wrap_i64]
  omega
/-- Four texts, none too long. -/
def Strs4 (W : World) (g : Nat) : Prop := ∀ j, j < 4 → ∃ l : List UInt8, l.length ≤ 60 ∧ W.cell? ⟨g, j, none⟩ = some (.string ⟨l.toArray⟩)
set_option maxRecDepth 100000 in
set_option maxHeartbeats 4000000 in
theorem wsiz_any (s : List UInt8) (n m how : Int) (w : World) (hE : Env w) : Calls Tryz.prog 5 #[.string ⟨s.toArray⟩, .int .i64 n, .int .i64 m, .int .i64 how] w fun e w' => e = .returned (.bool true) ∧ Below w.heap.size w w' := by
  have HE := Lib.hid hE
  clear hE
  obtain ⟨a, ha, hna⟩ := and_mask n 1048575 (by decide)
  obtain ⟨b, hb, hmb⟩ := and_mask m 1023 (by decide)
  obtain ⟨i, hi, hhi⟩ := and_mask how 7 (by decide)
  rw [show ((1048575 : Nat) : Int) = 1048575 from rfl] at hna
  rw [show ((1023 : Nat) : Int) = 1023 from rfl] at hmb
  rw [show ((7 : Nat) : Int) = 7 from rfl] at hhi
  have HT := Lib.hid fun W => text_any s 15 W
  have hls : (s.take 15).length ≤ 15 := by rw [List.length_take]; omega
  have HDA := Lib.hid fun W => dec_any 6 a W (by omega) (by decide)
  have HDB := Lib.hid fun W => dec_any 3 b W (by omega) (by decide)
  generalize s.take 15 = s2 at *
  go_enter Tryz.func5, Tryz.ntmps5
  go_wp2_with fail
  refine (begun_any _ HE.out).mono ?_
  rintro e w1 ⟨rfl, hB⟩
  have HB1 := Lib.hid hB
  clear hB
  go_wp2_with fail
  refine (HT.out _).mono ?_
  rintro e w' ⟨rfl, rfl⟩
  go_wp2_with fail
  (with_reducible refine (HDB.out _).mono ?_)
  rintro e w2 ⟨⟨l1, hl1, rfl⟩, hB⟩
  have HB2 := Lib.hid (HB1.out.trans (hB.mono HB1.out.size))
  clear hB
  go_wp2_with fail
  (with_reducible refine (HDB.out _).mono ?_)
  rintro e w3 ⟨⟨l2, hl2, rfl⟩, hB⟩
  have HB3 := Lib.hid (HB2.out.trans (hB.mono HB2.out.size))
  clear hB
  go_wp2_with fail
  (with_reducible refine (HDB.out _).mono ?_)
  rintro e w4 ⟨⟨l3, hl3, rfl⟩, hB⟩
  have HB4 := Lib.hid (HB3.out.trans (hB.mono HB3.out.size))
  clear hB
  obtain ⟨tl, htl, hcell⟩ : ∃ tl : List UInt8, tl.length ≤ 10 ∧ (w4.alloc (.cells #[.string ⟨#[]⟩, .string ⟨#[107]⟩, .string ⟨#[109]⟩, .string ⟨#[120]⟩, .string ⟨#[46]⟩, .string (⟨#[46]⟩ ++ ⟨l1.toArray⟩), .string (⟨#[46]⟩ ++ ⟨l2.toArray⟩ ++ ⟨#[107]⟩), .string (⟨#[46]⟩ ++ ⟨l3.toArray⟩ ++ ⟨#[109]⟩)] 9)).cell? ⟨w4.heap.size, i, none⟩ = some (.string ⟨tl.toArray⟩) := by
    have h := Whole.made w4 9 #[.string ⟨#[]⟩, .string ⟨#[107]⟩, .string ⟨#[109]⟩, .string ⟨#[120]⟩, .string ⟨#[46]⟩, .string (⟨#[46]⟩ ++ ⟨l1.toArray⟩), .string (⟨#[46]⟩ ++ ⟨l2.toArray⟩ ++ ⟨#[107]⟩), .string (⟨#[46]⟩ ++ ⟨l3.toArray⟩ ++ ⟨#[109]⟩)]
    have e1 : (ByteArray.mk #[46] ++ ByteArray.mk l1.toArray) = ⟨([46] ++ l1).toArray⟩ := by rw [show (ByteArray.mk #[46]) = ⟨[46].toArray⟩ from rfl, ba_append]
    have e2 : (ByteArray.mk #[46] ++ ByteArray.mk l2.toArray ++ ByteArray.mk #[107]) = ⟨([46] ++ l2 ++ [107]).toArray⟩ := by rw [show (ByteArray.mk #[46]) = ⟨[46].toArray⟩ from rfl, show (ByteArray.mk #[107]) = ⟨[107].toArray⟩ from rfl, ba_append, ba_append]
    have e3 : (ByteArray.mk #[46] ++ ByteArray.mk l3.toArray ++ ByteArray.mk #[109]) = ⟨([46] ++ l3 ++ [109]).toArray⟩ := by rw [show (ByteArray.mk #[46]) = ⟨[46].toArray⟩ from rfl, show (ByteArray.mk #[109]) = ⟨[109].toArray⟩ from rfl, ba_append, ba_append]
    have hi8 : i = 0 ∨ i = 1 ∨ i = 2 ∨ i = 3 ∨ i = 4 ∨ i = 5 ∨ i = 6 ∨ i = 7 := by omega
    rcases hi8 with rfl | rfl | rfl | rfl | rfl | rfl | rfl | rfl
    · exact ⟨[], by decide, h.at_ 0⟩
    · exact ⟨[107], by decide, h.at_ 1⟩
    · exact ⟨[109], by decide, h.at_ 2⟩
    · exact ⟨[120], by decide, h.at_ 3⟩
    · exact ⟨[46], by decide, h.at_ 4⟩
    · exact ⟨[46] ++ l1, by simp; omega, by rw [← e1]; exact h.at_ 5⟩
    · exact ⟨[46] ++ l2 ++ [107], by simp; omega, by rw [← e2]; exact h.at_ 6⟩
    · exact ⟨[46] ++ l3 ++ [109], by simp; omega, by rw [← e3]; exact h.at_ 7⟩
  have hi0 : (0 : Int) ≤ (i : Int) := by omega
  have hi8 : (i : Int) < 8 := by omega
  have HB5 := Lib.hid (HB4.out.alloc HB4.out.size (.cells #[.string ⟨#[]⟩, .string ⟨#[107]⟩, .string ⟨#[109]⟩, .string ⟨#[120]⟩, .string ⟨#[46]⟩, .string (⟨#[46]⟩ ++ ⟨l1.toArray⟩), .string (⟨#[46]⟩ ++ ⟨l2.toArray⟩ ++ ⟨#[107]⟩), .string (⟨#[46]⟩ ++ ⟨l3.toArray⟩ ++ ⟨#[109]⟩)] 9))
  go_wp2_with fail
  generalize w4.alloc (.cells #[.string ⟨#[]⟩, .string ⟨#[107]⟩, .string ⟨#[109]⟩, .string ⟨#[120]⟩, .string ⟨#[46]⟩, .string (⟨#[46]⟩ ++ ⟨l1.toArray⟩), .string (⟨#[46]⟩ ++ ⟨l2.toArray⟩ ++ ⟨#[107]⟩), .string (⟨#[46]⟩ ++ ⟨l3.toArray⟩ ++ ⟨#[109]⟩)] 9) = w5 at *
  clear hcell
  (with_reducible refine (HDA.out _).mono ?_)
  rintro e w6 ⟨⟨m1, hm1, rfl⟩, hB⟩
  have HB6 := Lib.hid (HB5.out.trans (hB.mono HB5.out.size))
  clear hB
  go_wp2_with fail
  (with_reducible refine (HDA.out _).mono ?_)
  rintro e w7 ⟨⟨m2, hm2, rfl⟩, hB⟩
  have HB7 := Lib.hid (HB6.out.trans (hB.mono HB6.out.size))
  clear hB
  go_wp2_with fail
  (with_reducible refine (HDA.out _).mono ?_)
  rintro e w8 ⟨⟨m3, hm3, rfl⟩, hB⟩
  have HB8 := Lib.hid (HB7.out.trans (hB.mono HB7.out.size))
  clear hB
  have HC1 := Lib.hid (ba_append m1 tl)
  have HC2 := Lib.hid (ba_append [48] m2)
  have HC3 := Lib.hid (ba_append m3 tl)
  have HC4 := Lib.hid (ba_append (m3 ++ tl) tl)
  go_wp2_with fail
  have hs4 : Strs4 (w8.alloc (.cells #[.string ⟨s2.toArray⟩, .string (⟨m1.toArray⟩ ++ ⟨tl.toArray⟩), .string (⟨#[48]⟩ ++ ⟨m2.toArray⟩), .string (⟨m3.toArray⟩ ++ ⟨tl.toArray⟩ ++ ⟨tl.toArray⟩)] 9)) w8.heap.size := by
    have h := Whole.made w8 9 #[.string ⟨s2.toArray⟩, .string (⟨m1.toArray⟩ ++ ⟨tl.toArray⟩), .string (⟨#[48]⟩ ++ ⟨m2.toArray⟩), .string (⟨m3.toArray⟩ ++ ⟨tl.toArray⟩ ++ ⟨tl.toArray⟩)]
    intro j hj
    have hj4 : j = 0 ∨ j = 1 ∨ j = 2 ∨ j = 3 := by omega
    rcases hj4 with rfl | rfl | rfl | rfl
    · exact ⟨s2, by omega, h.at_ 0⟩
    · exact ⟨m1 ++ tl, by rw [List.length_append]; omega, by rw [← HC1.out]; exact h.at_ 1⟩
    · exact ⟨[48] ++ m2, by rw [List.length_append]; simp; omega, by rw [← HC2.out]; exact h.at_ 2⟩
    · exact ⟨m3 ++ tl ++ tl, by rw [List.length_append, List.length_append]; omega, by rw [← HC4.out, ← HC3.out]; exact h.at_ 3⟩
  have HS4 := Lib.hid hs4
  have HB9 := Lib.hid (HB8.out.alloc HB8.out.size (.cells #[.string ⟨s2.toArray⟩, .string (⟨m1.toArray⟩ ++ ⟨tl.toArray⟩), .string (⟨#[48]⟩ ++ ⟨m2.toArray⟩), .string (⟨m3.toArray⟩ ++ ⟨tl.toArray⟩ ++ ⟨tl.toArray⟩)] 9))
  have hlt9 : w8.heap.size < (w8.alloc (.cells #[.string ⟨s2.toArray⟩, .string (⟨m1.toArray⟩ ++ ⟨tl.toArray⟩), .string (⟨#[48]⟩ ++ ⟨m2.toArray⟩), .string (⟨m3.toArray⟩ ++ ⟨tl.toArray⟩ ++ ⟨tl.toArray⟩)] 9)).heap.size := by simp
  have HL9 := Lib.hid hlt9
  clear hs4 hlt9
  generalize w8.alloc (.cells #[.string ⟨s2.toArray⟩, .string (⟨m1.toArray⟩ ++ ⟨tl.toArray⟩), .string (⟨#[48]⟩ ++ ⟨m2.toArray⟩), .string (⟨m3.toArray⟩ ++ ⟨tl.toArray⟩ ++ ⟨tl.toArray⟩)] 9) = w9 at *
  go_loopw [58] (fun i wr => ∃ k : Nat, k ≤ 4 ∧ i = .int .i64 (k : Int) ∧ Below w9.heap.size w9 wr) (fun i _ => 4 - (intOf i).toNat)
  case atStart => exact ⟨0, by omega, rfl, Below.refl _ _⟩
  case round =>
    obtain ⟨k, hk, rfl, hbr⟩ := hrel
    have HBR := Lib.hid hbr
    have HBW := Lib.hid (HB9.out.trans (hbr.mono HB9.out.size))
    by_cases hlt : k < 4
    · obtain ⟨l, hl, hc9⟩ := HS4.out k hlt
      have hc : wr.cell? ⟨w8.heap.size, k, none⟩ = some (.string ⟨l.toArray⟩) := (hbr.cell (by exact HL9.out)).trans hc9
      have HG := Lib.hid (wsize_any l wr (by omega) (HE.out.at_ HBW.out).mx)
      have HRG := Lib.hid fun W => rsize_any l W (by omega)
      have hbv := bits_run (sizeV l).1
      have hkI : (k : Int) < 4 := by omega
      clear hbr hc9
      generalize (sizeV l).1 = gv at *
      generalize (sizeV l).2 = gb at *
      go_wp2_with fail
      refine HG.out.mono ?_
      rintro e w10 ⟨rfl, hB⟩
      have HB10 := Lib.hid (HBR.out.trans (hB.mono HBR.out.size))
      clear hB
      go_wp2_with fail
      (with_reducible refine (HRG.out _).mono ?_)
      rintro e w' ⟨rfl, q, rfl⟩
      go_wp2
      go_roundw
      case rel => exact ⟨k + 1, by omega, by go_num, be_drewN HB10.out q⟩
      case measure => simp [intOf]; omega
    · clear hbr
      go_wp2
      go_ret
      exact ⟨rfl, HBW.out⟩
end Go.Proofs.YtghpnjgglneecaaGreatDoor

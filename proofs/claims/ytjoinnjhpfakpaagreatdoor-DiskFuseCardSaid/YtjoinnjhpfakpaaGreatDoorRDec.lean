/-
  The reference's decimal digits, walked.
-/
import Derived.Test.YtjoinnjhpfakpaaGreatDoorMhc
import Derived.Lib.ItoaNum
namespace Go.Proofs.YtjoinnjhpfakpaaGreatDoor
open Go.RowKit

/-- string of one new byte. -/
theorem str_one (x : UInt8) (i : Int) (hi : i = (x.toNat : Int)) (W : World) : (convert 97 9 (.slice (some ⟨W.heap.size, 0, none⟩) 1 1)).run Tryz.prog (W.alloc (.cells #[.int .u8 i] 5)) = .ok (.string ⟨[x].toArray⟩) (W.alloc (.cells #[.int .u8 i] 5)) := by
  subst hi
  refine bytes_str (P := Tryz.prog) 97 9 5 Tryz.underlying97 Tryz.underlying5 Tryz.underlying9 (bs := [x]) ⟨_, 1, rfl, Nat.le_refl _, by unfold maxLen; omega, fun _ => ⟨_, 0, rfl, fun i hi => ?_⟩⟩
  obtain rfl : i = 0 := by simp at hi; exact hi
  exact ((Whole.made W 5 #[.int .u8 (x.toNat : Int)]).at_ 0).trans rfl
/-! ### Decimal digits -/
set_option maxHeartbeats 2000000 in
theorem rdec_one (n : Nat) (hn : n < 10) (w : World) : Calls Tryz.prog 24 #[.int .i64 (n : Int)] w fun e w' => e = .returned (.string ⟨[UInt8.ofNat (48 + n)].toArray⟩) ∧ Below w.heap.size w w' := by
  have hx : (48 : Int) + (n : Int) = ((UInt8.ofNat (48 + n)).toNat : Int) := by
    rw [UInt8.toNat_ofNat']
    omega
  have hcv := str_one (UInt8.ofNat (48 + n)) (48 + (n : Int)) hx w
  clear hx
  generalize UInt8.ofNat (48 + n) = x at *
  have hmod : (48 + (n : Int)) % 256 = 48 + (n : Int) := by omega
  have hw : wrap64 (48 + (n : Int)) = 48 + (n : Int) := by unfold wrap64; omega
  have k0 : decide ((n : Int) < 0) = false := decide_eq_false (by omega)
  have k1 : decide ((n : Int) < 10) = true := decide_eq_true (by omega)
  go_enter Tryz.func24, Tryz.ntmps24
  go_wp2
  go_ret
  exact ⟨rfl, (Below.refl _ _).alloc (Nat.le_refl _) _⟩
set_option maxHeartbeats 2000000 in
theorem rdec_step (n : Nat) (hn : 10 ≤ n) (hn2 : n < 1000000) (x y : List UInt8) (hlx : x.length ≤ 100) (hly : y.length ≤ 100) (hx : ∀ W, Calls Tryz.prog 24 #[.int .i64 ((n / 10 : Nat) : Int)] W fun e w' => e = .returned (.string ⟨x.toArray⟩) ∧ Below W.heap.size W w')
    (hy : ∀ W, Calls Tryz.prog 24 #[.int .i64 ((n % 10 : Nat) : Int)] W fun e w' => e = .returned (.string ⟨y.toArray⟩) ∧ Below W.heap.size W w') (w : World) :
    Calls Tryz.prog 24 #[.int .i64 (n : Int)] w fun e w' => e = .returned (.string ⟨(x ++ y).toArray⟩) ∧ Below w.heap.size w w' := by
  have HX := Lib.hid hx
  have HY := Lib.hid hy
  have k0 : decide ((n : Int) < 0) = false := decide_eq_false (by omega)
  have k1 : decide ((n : Int) < 10) = false := decide_eq_false (by omega)
  have e1 : (n : Int).tdiv 10 = ((n / 10 : Nat) : Int) := by rw [Int.tdiv_eq_ediv_of_nonneg (by omega)]; omega
  have e2 : (n : Int).tmod 10 = ((n % 10 : Nat) : Int) := by rw [Int.tmod_eq_emod_of_nonneg (by omega)]; omega
  have e3 : (n : Int) / 10 = ((n / 10 : Nat) : Int) := by omega
  have e4 : (n : Int) % 10 = ((n % 10 : Nat) : Int) := by omega
  have HAP := Lib.hid (ba_append x y)
  clear hx hy
  generalize n / 10 = q at *
  generalize n % 10 = r at *
  go_enter Tryz.func24, Tryz.ntmps24
  go_wp2_with fail
  refine (HX.out _).mono ?_
  rintro e w1 ⟨rfl, hB⟩
  have HB := Lib.hid hB
  clear hB
  go_wp2_with fail
  refine (HY.out _).mono ?_
  rintro e w2 ⟨rfl, hB⟩
  have HB2 := Lib.hid (HB.out.trans (hB.mono HB.out.size))
  clear hB
  go_wp2
  go_ret
  exact ⟨congrArg (fun s => Ending.returned (.string s)) HAP.out, HB2.out⟩
/-- The last digit, and those ahead of it. -/
theorem itoa_dec (n : Nat) : Lib.itoa (n : Nat) = Lib.decDigits n := by
  unfold Lib.itoa
  rw [if_neg (by omega), Int.toNat_natCast]
theorem itoa_one (n : Nat) (h : n < 10) : Lib.itoa (n : Nat) = [UInt8.ofNat (48 + n)] := by rw [itoa_dec, Lib.decDigits_one h]
theorem itoa_step (n : Nat) (h : 10 ≤ n) : Lib.itoa (n : Nat) = Lib.itoa ((n / 10 : Nat) : Int) ++ Lib.itoa ((n % 10 : Nat) : Int) := by
  rw [itoa_one (n % 10) (Nat.mod_lt _ (by decide)), itoa_dec, itoa_dec, Lib.decDigits, dif_neg (by omega)]
theorem itoa_len : ∀ (k n : Nat), n < 10 ^ (k + 1) → (Lib.itoa (n : Nat)).length ≤ k + 1
  | 0, n, h => by rw [itoa_one n (by simpa using h)]; simp
  | k + 1, n, h => by
    by_cases h1 : n < 10
    · rw [itoa_one n h1]; simp
    · have h2 := itoa_len k (n / 10) (by rw [Nat.pow_succ] at h; omega)
      rw [itoa_step n (by omega), itoa_one (n % 10) (Nat.mod_lt _ (by decide)), List.length_append, List.length_singleton]
      omega
theorem rdec_any : ∀ (n : Nat), n < 1000000 → ∀ (w : World), Calls Tryz.prog 24 #[.int .i64 (n : Int)] w fun e w' => e = .returned (.string ⟨(Lib.itoa (n : Nat)).toArray⟩) ∧ Below w.heap.size w w' := by
  intro n
  induction n using Nat.strongRecOn with
  | ind n ih =>
    intro hn w
    by_cases h1 : n < 10
    · rw [itoa_one n h1]
      exact rdec_one n h1 w
    · rw [itoa_step n (by omega)]
      have l1 := itoa_len 5 (n / 10) (by omega)
      have l2 := itoa_len 5 (n % 10) (by omega)
      exact rdec_step n (by omega) hn _ _ (by omega) (by omega) (fun W => ih (n / 10) (by omega) (by omega) W) (fun W => ih (n % 10) (by omega) (by omega) W) w
end Go.Proofs.YtjoinnjhpfakpaaGreatDoor

/-
  The reference's numbers out of digits, walked.
  The reference's digits, walked.
  The reference's decimal digits, Hex, LessId, Has, walked; oid.word.
-/
import Derived.Test.YtfaijkgfhdhhbaaGreatDoorMgl
import Derived.Test.YtfaijkgfhdhhbaaGreatDoorMgd
import Derived.Test.YtfaijkgfhdhhbaaGreatDoorMgi
import Derived.Lib.ItoaNum
namespace Go.Proofs.YtfaijkgfhdhhbaaGreatDoor
open Go.RowKit

theorem wrap_64u (n : Int) : IntKind.u64.wrap n = n % 18446744073709551616 := by simp [IntKind.wrap, IntKind.bits, IntKind.signed]
/-- A number out of digits, modulo 2^64; none of another sign. -/
def ngo : Nat → List UInt8 → Option Nat
  | z, [] => some z
  | z, c :: l => if hval c < 0 then none else ngo ((z * 16 + (hval c).toNat) % 18446744073709551616) l
theorem ngo_hgo (z k : Nat) (l : List UInt8) (hz : z < 16 ^ k) (hl : k + l.length ≤ 16) : ngo z l = hgo z l := by
  induction l generalizing z k with
  | nil => rfl
  | cons c l ih =>
    have hc := hval_lt c
    unfold ngo hgo
    split
    · rfl
    · have hlt : z * 16 + (hval c).toNat < 16 ^ (k + 1) := by rw [Nat.pow_succ]; omega
      have h64 : 16 ^ (k + 1) ≤ 18446744073709551616 := by
        have : 16 ^ (k + 1) ≤ 16 ^ 16 := Nat.pow_le_pow_right (by decide) (by simp at hl; omega)
        simpa using this
      rw [Nat.mod_eq_of_lt (by omega), ih _ (k + 1) hlt (by simp at hl; omega)]
theorem hval_dig (c : UInt8) (h1 : 48 ≤ c.toNat) (h2 : c.toNat ≤ 57) : hval c = (c.toNat : Int) - 48 := by
  have h : ∀ n, n < 256 → 48 ≤ n → n ≤ 57 → hval (UInt8.ofNat n) = (n : Int) - 48 := by decide +kernel
  have := h c.toNat c.toNat_lt h1 h2
  simpa using this
theorem hval_let (c : UInt8) (h1 : 97 ≤ c.toNat) (h2 : c.toNat ≤ 102) : hval c = (c.toNat : Int) - 87 := by
  have h : ∀ n, n < 256 → 97 ≤ n → n ≤ 102 → hval (UInt8.ofNat n) = (n : Int) - 87 := by decide +kernel
  have := h c.toNat c.toNat_lt h1 h2
  simpa using this
theorem hval_not (c : UInt8) (h1 : ¬ (48 ≤ c.toNat ∧ c.toNat ≤ 57)) (h2 : ¬ (97 ≤ c.toNat ∧ c.toNat ≤ 102)) : hval c = -1 := by
  have h : ∀ n, n < 256 → ¬ (48 ≤ n ∧ n ≤ 57) → ¬ (97 ≤ n ∧ n ≤ 102) → hval (UInt8.ofNat n) = -1 := by decide +kernel
  have := h c.toNat c.toNat_lt h1 h2
  simpa using this
def numO : Option Nat → Nat × Bool
  | some n => (n, true)
  | none => (0, false)
set_option maxHeartbeats 2000000 in
theorem rnum_any (l : List UInt8) (w : World) (hl : l.length ≤ 1048576) : Calls Tryz.prog 119 #[.string ⟨l.toArray⟩] w fun e w' => e = .returned (.tuple #[.int .u64 ((numO (ngo 0 l)).1 : Int), .bool (numO (ngo 0 l)).2]) ∧ w = w' := by
  obtain ⟨fin, hfin⟩ : ∃ fin, fin = ngo 0 l := ⟨_, rfl⟩
  rw [← hfin]
  have HF := Lib.hid hfin
  clear hfin
  go_enter Tryz.func119, Tryz.ntmps119
  go_wp2
  go_loopw [4, 5] (fun z i wr => ∃ k v : Nat, k ≤ l.length ∧ v < 18446744073709551616 ∧ i = .int .i64 (k : Int) ∧ z = .int .u64 (v : Int) ∧ wr = w ∧ fin = ngo v (l.drop k)) (fun _ i _ => l.length - (intOf i).toNat)
  case atStart => exact ⟨0, 0, by omega, by decide, rfl, rfl, rfl, HF.out⟩
  case round =>
    obtain ⟨k, v, hk, hv, rfl, rfl, rfl, hgo'⟩ := hrel
    by_cases hlt : k < l.length
    · have hidx := str_at l k hlt
      have hdrop : ngo v (l.drop k) = if hval (l.getD k 0) < 0 then none else ngo ((v * 16 + (hval (l.getD k 0)).toNat) % 18446744073709551616) (l.drop (k + 1)) := by
        rw [List.drop_eq_getElem_cons hlt, ngo]
        simp [List.getElem?_eq_getElem hlt]
      rw [hdrop] at hgo'
      clear hdrop
      generalize l.getD k 0 = c at *
      have hc256 := c.toNat_lt
      by_cases h1 : 48 ≤ c.toNat ∧ c.toNat ≤ 57
      · rw [hval_dig c h1.1 h1.2, if_neg (by omega)] at hgo'
        have HG := Lib.hid hgo'
        obtain ⟨d, hd⟩ : ∃ d, c.toNat = d + 48 := ⟨c.toNat - 48, by omega⟩
        have k1 : decide (48 ≤ (c.toNat : Int)) = true := by simp; omega
        have k2 : decide ((c.toNat : Int) ≤ 57) = true := by simp; omega
        obtain ⟨h1a, h1b⟩ := h1
        have HD := Lib.hid hd
        clear hgo' hd
        go_wp2
        go_roundw
        case rel =>
          refine ⟨k + 1, _, by omega, Nat.mod_lt _ (by decide), by go_num, ?_, trivial, HG.out⟩
          congr 1
          have := HD.out
          simp only [wrap_64u]
          omega
        case measure => simp [intOf]; omega
      · by_cases h2 : 97 ≤ c.toNat ∧ c.toNat ≤ 102
        · rw [hval_let c h2.1 h2.2, if_neg (by omega)] at hgo'
          have HG := Lib.hid hgo'
          have k2 : decide ((c.toNat : Int) ≤ 57) = false := by simp; omega
          have k1 : decide (48 ≤ (c.toNat : Int)) = true := by simp; omega
          have k3 : decide (97 ≤ (c.toNat : Int)) = true := by simp; omega
          have k4 : decide ((c.toNat : Int) ≤ 102) = true := by simp; omega
          obtain ⟨h2a, h2b⟩ := h2
          clear hgo' h1
          go_wp2
          go_roundw
          case rel =>
            refine ⟨k + 1, _, by omega, Nat.mod_lt _ (by decide), by go_num, ?_, trivial, HG.out⟩
            congr 1
            simp only [wrap_64u]
            omega
          case measure => simp [intOf]; omega
        · rw [hval_not c h1 h2, if_pos (by decide)] at hgo'
          have HG := Lib.hid hgo'
          clear hgo'
          by_cases g1 : 48 ≤ c.toNat
          · have k1 : decide (48 ≤ (c.toNat : Int)) = true := by simp; omega
            have k2 : decide ((c.toNat : Int) ≤ 57) = false := by simp; omega
            by_cases g2 : 97 ≤ c.toNat
            · have k3 : decide (97 ≤ (c.toNat : Int)) = true := by simp; omega
              have k4 : decide ((c.toNat : Int) ≤ 102) = false := by simp; omega
              clear h1 h2 g1 g2
              go_wp2
              go_ret2
              exact ⟨by rw [HG.out]; rfl, rfl⟩
            · have k3 : decide (97 ≤ (c.toNat : Int)) = false := by simp; omega
              clear h1 h2 g1 g2
              go_wp2
              go_ret2
              exact ⟨by rw [HG.out]; rfl, rfl⟩
          · have k1 : decide (48 ≤ (c.toNat : Int)) = false := by simp; omega
            have k3 : decide (97 ≤ (c.toNat : Int)) = false := by simp; omega
            clear h1 h2 g1
            go_wp2
            go_ret2
            exact ⟨by rw [HG.out]; rfl, rfl⟩
    · have hend : l.drop k = [] := List.drop_eq_nil_of_le (by omega)
      rw [hend] at hgo'
      have HG : Hid (fin = some v) := hgo'
      clear hgo' hend
      go_wp2
      go_ret2
      exact ⟨by rw [HG.out]; rfl, rfl⟩
end Go.Proofs.YtfaijkgfhdhhbaaGreatDoor
namespace Go.Proofs.YtfaijkgfhdhhbaaGreatDoor
open Go.RowKit

theorem hexs_back (i n : Nat) : hexs (i + 1) n = hx (n / 16 ^ i % 16) :: hexs i n := rfl
theorem hx_low (d : Nat) (h : d < 10) : (hx d).toNat = 48 + d := by
  have : ∀ d, d < 10 → (hx d).toNat = 48 + d := by decide
  exact this d h
theorem hx_high (d : Nat) (h1 : ¬ d < 10) (h : d < 16) : (hx d).toNat = 87 + d := by
  have : ∀ d, d < 16 → ¬ d < 10 → (hx d).toNat = 87 + d := by decide
  exact this d h h1
/-- string of one new byte. -/
theorem str_one (x : UInt8) (i : Int) (hi : i = (x.toNat : Int)) (W : World) : (convert 78 9 (.slice (some ⟨W.heap.size, 0, none⟩) 1 1)).run Tryz.prog (W.alloc (.cells #[.int .u8 i] 5)) = .ok (.string ⟨[x].toArray⟩) (W.alloc (.cells #[.int .u8 i] 5)) := by
  subst hi
  refine bytes_str (P := Tryz.prog) 78 9 5 Tryz.underlying78 Tryz.underlying5 Tryz.underlying9 (bs := [x]) ⟨_, 1, rfl, Nat.le_refl _, by unfold maxLen; omega, fun _ => ⟨_, 0, rfl, fun i hi => ?_⟩⟩
  obtain rfl : i = 0 := by simp at hi; exact hi
  exact ((Whole.made W 5 #[.int .u8 (x.toNat : Int)]).at_ 0).trans rfl
set_option maxHeartbeats 2000000 in
theorem rdigs_any (n k : Nat) (w : World) (hn : n < 18446744073709551616) (hk : k ≤ 16) : Calls Tryz.prog 118 #[.int .u64 (n : Int), .int .i64 (k : Int)] w fun e w' => e = .returned (.string ⟨(hexs k n).toArray⟩) ∧ Below w.heap.size w w' := by
  go_enter Tryz.func118, Tryz.ntmps118
  go_wp2
  go_loopw [0, 5, 6] (fun v s i wr => ∃ j : Nat, j ≤ k ∧ v = .int .u64 ((n / 16 ^ j : Nat) : Int) ∧ s = .string ⟨(hexs j n).toArray⟩ ∧ i = .int .i64 (j : Int) ∧ Below w.heap.size w wr) (fun _ _ i _ => k - (intOf i).toNat)
  case atStart => exact ⟨0, by omega, by simp, rfl, rfl, Below.refl _ _⟩
  case round =>
    obtain ⟨j, hj, rfl, rfl, rfl, hB⟩ := hrel
    have HB := Lib.hid hB
    clear hB
    by_cases hlt : j < k
    · have hln : (hexs j n).length ≤ 16 := by rw [hexs_len]; omega
      have HS := Lib.hid (hexs_back j n)
      have HQ : Hid (n / 16 ^ (j + 1) = n / 16 ^ j / 16) := by show _ = _; rw [Nat.pow_succ, Nat.div_div_eq_div_mul]
      have hq : n / 16 ^ j < 18446744073709551616 := Nat.lt_of_le_of_lt (Nat.div_le_self _ _) hn
      generalize n / 16 ^ j = q at *
      generalize hexs j n = l at *
      have hd : q % 16 < 16 := Nat.mod_lt _ (by decide)
      have e1 : (q : Int) % 16 % 256 = ((q % 16 : Nat) : Int) := by omega
      have e0 : (q : Int) % 16 = ((q % 16 : Nat) : Int) := by omega
      have e2 : (q : Int) / 16 = ((q / 16 : Nat) : Int) := by omega
      generalize q / 16 = q2 at *
      generalize q % 16 = d at *
      by_cases hd10 : d < 10
      · have hcv := str_one (hx d) (48 + (d : Int)) (by rw [hx_low d hd10]; omega) wr
        have k1 : decide ((d : Int) < 10) = true := by simp; omega
        have HD := Lib.hid hd10
        clear hd10
        go_wp2
        go_roundw
        case rel => exact ⟨j + 1, by omega, by rw [HQ.out], by rw [HS.out, ba_append [hx d] l]; rfl, by go_num, HB.out.alloc HB.out.size _⟩
        case measure => simp [intOf]; omega
      · have hcv := str_one (hx d) (97 + (d : Int) - 10) (by rw [hx_high d hd10 hd]; omega) wr
        have k1 : decide ((d : Int) < 10) = false := by simp; omega
        have HD := Lib.hid hd10
        clear hd10
        go_wp2
        go_roundw
        case rel => exact ⟨j + 1, by omega, by rw [HQ.out], by rw [HS.out, ba_append [hx d] l]; rfl, by go_num, HB.out.alloc HB.out.size _⟩
        case measure => simp [intOf]; omega
    · obtain rfl : j = k := by omega
      go_wp2
      go_ret
      exact ⟨rfl, HB.out⟩
end Go.Proofs.YtfaijkgfhdhhbaaGreatDoor
namespace Go.Proofs.YtfaijkgfhdhhbaaGreatDoor
open Go.RowKit

/-! ### Decimal digits -/
set_option maxHeartbeats 2000000 in
theorem rdec_one (n : Nat) (hn : n < 10) (w : World) : Calls Tryz.prog 67 #[.int .i64 (n : Int)] w fun e w' => e = .returned (.string ⟨[UInt8.ofNat (48 + n)].toArray⟩) ∧ Below w.heap.size w w' := by
  have hx : (48 : Int) + (n : Int) = ((UInt8.ofNat (48 + n)).toNat : Int) := by
    rw [UInt8.toNat_ofNat']
    omega
  have hcv := str_one (UInt8.ofNat (48 + n)) (48 + (n : Int)) hx w
  clear hx
  generalize UInt8.ofNat (48 + n) = x at *
  have hmod : (48 + (n : Int)) % 256 = 48 + (n : Int) := by omega
  have hw : wrap64 (48 + (n : Int)) = 48 + (n : Int) := by unfold wrap64; omega
  have k0 : decide ((n : Int) < 0) = false := decide_eq_false (by omega)
  have k1 : decide ((n : Int) < 10) = true := decide_eq_true (by omega)
  go_enter Tryz.func67, Tryz.ntmps67
  go_wp2
  go_ret
  exact ⟨rfl, (Below.refl _ _).alloc (Nat.le_refl _) _⟩
set_option maxHeartbeats 2000000 in
theorem rdec_step (n : Nat) (hn : 10 ≤ n) (hn2 : n < 1000000) (x y : List UInt8) (hlx : x.length ≤ 100) (hly : y.length ≤ 100) (hx : ∀ W, Calls Tryz.prog 67 #[.int .i64 ((n / 10 : Nat) : Int)] W fun e w' => e = .returned (.string ⟨x.toArray⟩) ∧ Below W.heap.size W w')
    (hy : ∀ W, Calls Tryz.prog 67 #[.int .i64 ((n % 10 : Nat) : Int)] W fun e w' => e = .returned (.string ⟨y.toArray⟩) ∧ Below W.heap.size W w') (w : World) :
    Calls Tryz.prog 67 #[.int .i64 (n : Int)] w fun e w' => e = .returned (.string ⟨(x ++ y).toArray⟩) ∧ Below w.heap.size w w' := by
  have HX := Lib.hid hx
  have HY := Lib.hid hy
  have k0 : decide ((n : Int) < 0) = false := decide_eq_false (by omega)
  have k1 : decide ((n : Int) < 10) = false := decide_eq_false (by omega)
  have e1 : (n : Int).tdiv 10 = ((n / 10 : Nat) : Int) := by rw [Int.tdiv_eq_ediv_of_nonneg (by omega)]; omega
  have e2 : (n : Int).tmod 10 = ((n % 10 : Nat) : Int) := by rw [Int.tmod_eq_emod_of_nonneg (by omega)]; omega
  have e3 : (n : Int) / 10 = ((n / 10 : Nat) : Int) := by omega
  have e4 : (n : Int) % 10 = ((n % 10 : Nat) : Int) := by omega
  have HAP := Lib.hid (ba_append x y)
  clear hx hy
  generalize n / 10 = q at *
  generalize n % 10 = r at *
  go_enter Tryz.func67, Tryz.ntmps67
  go_wp2_with fail
  refine (HX.out _).mono ?_
  rintro e w1 ⟨rfl, hB⟩
  have HB := Lib.hid hB
  clear hB
  go_wp2_with fail
  refine (HY.out _).mono ?_
  rintro e w2 ⟨rfl, hB⟩
  have HB2 := Lib.hid (HB.out.trans (hB.mono HB.out.size))
  clear hB
  go_wp2
  go_ret
  exact ⟨congrArg (fun s => Ending.returned (.string s)) HAP.out, HB2.out⟩
/-- The last digit, and those ahead of it. -/
theorem itoa_dec (n : Nat) : Lib.itoa (n : Nat) = Lib.decDigits n := by
  unfold Lib.itoa
  rw [if_neg (by omega), Int.toNat_natCast]
theorem itoa_one (n : Nat) (h : n < 10) : Lib.itoa (n : Nat) = [UInt8.ofNat (48 + n)] := by rw [itoa_dec, Lib.decDigits_one h]
theorem itoa_step (n : Nat) (h : 10 ≤ n) : Lib.itoa (n : Nat) = Lib.itoa ((n / 10 : Nat) : Int) ++ Lib.itoa ((n % 10 : Nat) : Int) := by
  rw [itoa_one (n % 10) (Nat.mod_lt _ (by decide)), itoa_dec, itoa_dec, Lib.decDigits, dif_neg (by omega)]
theorem itoa_len : ∀ (k n : Nat), n < 10 ^ (k + 1) → (Lib.itoa (n : Nat)).length ≤ k + 1
  | 0, n, h => by rw [itoa_one n (by simpa using h)]; simp
  | k + 1, n, h => by
    by_cases h1 : n < 10
    · rw [itoa_one n h1]; simp
    · have h2 := itoa_len k (n / 10) (by rw [Nat.pow_succ] at h; omega)
      rw [itoa_step n (by omega), itoa_one (n % 10) (Nat.mod_lt _ (by decide)), List.length_append, List.length_singleton]
      omega
theorem rdec_any : ∀ (n : Nat), n < 1000000 → ∀ (w : World), Calls Tryz.prog 67 #[.int .i64 (n : Int)] w fun e w' => e = .returned (.string ⟨(Lib.itoa (n : Nat)).toArray⟩) ∧ Below w.heap.size w w' := by
  intro n
  induction n using Nat.strongRecOn with
  | ind n ih =>
    intro hn w
    by_cases h1 : n < 10
    · rw [itoa_one n h1]
      exact rdec_one n h1 w
    · rw [itoa_step n (by omega)]
      have l1 := itoa_len 5 (n / 10) (by omega)
      have l2 := itoa_len 5 (n % 10) (by omega)
      exact rdec_step n (by omega) hn _ _ (by omega) (by omega) (fun W => ih (n / 10) (by omega) (by omega) W) (fun W => ih (n % 10) (by omega) (by omega) W) w

/-! ### Kinds -/
def kwd (kind : Int) : List UInt8 := if kind = 1 then [98, 108, 111, 98] else if kind = 2 then [116, 114, 101, 101] else if kind = 3 then [99, 111, 109, 109, 105, 116] else [63]
theorem kwd_len (kind : Int) : (kwd kind).length ≤ 6 := by
  unfold kwd
  split
  · decide
  · split
    · decide
    · split <;> decide
set_option maxHeartbeats 2000000 in
theorem oword_any (kind : Int) (w : World) : Calls Tryz.prog 75 #[.int .i64 kind] w fun e w' => e = .returned (.string ⟨(kwd kind).toArray⟩) ∧ w = w' := by
  unfold kwd
  by_cases h1 : kind = 1
  · rw [if_pos h1]
    have k1 : (kind == 1) = true := by simp [h1]
    clear h1
    go_enter Tryz.func75, Tryz.ntmps75
    go_wp2
    go_ret
    exact ⟨rfl, rfl⟩
  · rw [if_neg h1]
    have k1 : (kind == 1) = false := by simp [h1]
    by_cases h2 : kind = 2
    · rw [if_pos h2]
      have k2 : (kind == 2) = true := by simp [h2]
      clear h1 h2
      go_enter Tryz.func75, Tryz.ntmps75
      go_wp2
      go_ret
      exact ⟨rfl, rfl⟩
    · rw [if_neg h2]
      have k2 : (kind == 2) = false := by simp [h2]
      by_cases h3 : kind = 3
      · rw [if_pos h3]
        have k3 : (kind == 3) = true := by simp [h3]
        clear h1 h2 h3
        go_enter Tryz.func75, Tryz.ntmps75
        go_wp2
        go_ret
        exact ⟨rfl, rfl⟩
      · rw [if_neg h3]
        have k3 : (kind == 3) = false := by simp [h3]
        clear h1 h2 h3
        go_enter Tryz.func75, Tryz.ntmps75
        go_wp2
        go_ret
        exact ⟨rfl, rfl⟩

/-! ### Digits of a name -/
theorem hexs_two (b : UInt8) : hexs 2 b.toNat = [hx (b.toNat / 16), hx (b.toNat % 16)] := by
  have := b.toNat_lt
  simp only [hexs, Nat.pow_one, Nat.pow_zero, Nat.div_one]
  rw [Nat.mod_eq_of_lt (show b.toNat / 16 < 16 by omega)]
set_option maxRecDepth 100000 in
set_option maxHeartbeats 4000000 in
theorem rhex_any (x : Nm) (w : World) : Calls Tryz.prog 78 #[.agg (encN x).toArray] w fun e w' => e = .returned (.string ⟨(hexOf x.l).toArray⟩) ∧ Below w.heap.size w w' := by
  have HW0 := Lib.hid (Whole.made w 24 (encN x).toArray)
  have HB0 := Lib.hid ((Below.refl w.heap.size w).alloc (Nat.le_refl _) (.cells (encN x).toArray 24))
  have hs0 : (w.alloc (.cells (encN x).toArray 24)).heap.size = w.heap.size + 1 := by simp
  have hxl := x.h
  unfold encN at *
  generalize x.l = l at *
  have HXL := Lib.hid hxl
  have HCE : Hid (∀ i, i < 32 → ((l.map Y).toArray)[i]? = some (Y (l.getD i 0))) := fun i hi => by rw [List.getElem?_toArray, ← some_y _ _ (by omega)]
  generalize (l.map Y).toArray = cs at *
  go_enter Tryz.func78, Tryz.ntmps78
  go_wp2
  generalize w.alloc (.cells cs 24) = w0 at *
  go_loopg [3, 4] 32 (fun g s3 s4 wr => ∃ k : Nat, k ≤ 32 ∧ 32 - k ≤ g ∧ s3 = .string ⟨(hexOf (l.take k)).toArray⟩ ∧ s4 = .int .i64 k ∧ Hid (Below w0.heap.size w0 wr))
  case atStart => exact ⟨0, by omega, by omega, rfl, rfl, Lib.hid (Below.refl _ _)⟩
  case round =>
    obtain ⟨k, hk, hg, rfl, rfl, hwr⟩ := hrel
    by_cases hlt : k < 32
    · have hlt' : (k : Int) < 32 := by omega
      have hc := (((HW0.out.below hwr.out HW0.out.lt)).at_ k).trans (HCE.out k hlt)
      have hln : (hexOf (l.take k)).length ≤ 64 := by rw [hexOf_len, List.length_take]; omega
      have hb := (l.getD k 0).toNat_lt
      have HD := Lib.hid (fun W => rdigs_any (l.getD k 0).toNat 2 W (by omega) (by omega))
      rw [hexs_two] at HD
      have HS : Hid (hexOf (l.take k) ++ [hx ((l.getD k 0).toNat / 16), hx ((l.getD k 0).toNat % 16)] = hexOf (l.take (k + 1))) := by
        show _ = _
        rw [← hexOf_snoc, List.take_succ_eq_append_getElem (by omega)]
        congr 3
        simp [List.getD, List.getElem?_eq_getElem (show k < l.length by omega)]
      have HAP := Lib.hid (ba_append (hexOf (l.take k)) [hx ((l.getD k 0).toNat / 16), hx ((l.getD k 0).toNat % 16)])
      rw [HS.out] at HAP
      clear HS
      unfold Y at hc
      generalize hexOf (l.take k) = t at *
      generalize (l.getD k 0).toNat = b at *
      have hd : ([hx (b / 16), hx (b % 16)] : List UInt8).length = 2 := rfl
      generalize [hx (b / 16), hx (b % 16)] = ds at *
      go_wp2_with fail
      refine (HD.out _).mono ?_
      rintro e w1 ⟨rfl, hB⟩
      have HB1 := Lib.hid (hwr.out.trans (hB.mono hwr.out.size))
      clear hB
      go_wp2
      go_roundg (32 - (k + 1))
      case measure => omega
      case rel => exact ⟨k + 1, by omega, by omega, by rw [HAP.out], by go_num, HB1⟩
    · obtain rfl : k = 32 := by omega
      have HT : Hid (l.take 32 = l) := by show _ = _; rw [List.take_of_length_le (by rw [HXL.out]; omega)]
      go_wp2
      go_ret
      rw [HT.out]
      exact ⟨rfl, HB0.out.trans (hwr.out.mono HB0.out.size)⟩

end Go.Proofs.YtfaijkgfhdhhbaaGreatDoor

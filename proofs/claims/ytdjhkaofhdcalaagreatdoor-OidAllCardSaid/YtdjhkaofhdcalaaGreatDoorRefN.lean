/-
  The reference's numbers out of digits, walked.
-/
import Derived.Test.YtdjhkaofhdcalaaGreatDoorHexD
namespace Go.Proofs.YtdjhkaofhdcalaaGreatDoor
open Go.RowKit

theorem wrap_64u (n : Int) : IntKind.u64.wrap n = n % 18446744073709551616 := by simp [IntKind.wrap, IntKind.bits, IntKind.signed]
/-- A number out of digits, modulo 2^64; none of another sign. -/
def ngo : Nat → List UInt8 → Option Nat
  | z, [] => some z
  | z, c :: l => if hval c < 0 then none else ngo ((z * 16 + (hval c).toNat) % 18446744073709551616) l
theorem ngo_hgo (z k : Nat) (l : List UInt8) (hz : z < 16 ^ k) (hl : k + l.length ≤ 16) : ngo z l = hgo z l := by
  induction l generalizing z k with
  | nil => rfl
  | cons c l ih =>
    have hc := hval_lt c
    unfold ngo hgo
    split
    · rfl
    · have hlt : z * 16 + (hval c).toNat < 16 ^ (k + 1) := by rw [Nat.pow_succ]; omega
      have h64 : 16 ^ (k + 1) ≤ 18446744073709551616 := by
        have : 16 ^ (k + 1) ≤ 16 ^ 16 := Nat.pow_le_pow_right (by decide) (by simp at hl; omega)
        simpa using this
      rw [Nat.mod_eq_of_lt (by omega), ih _ (k + 1) hlt (by simp at hl; omega)]
theorem hval_dig (c : UInt8) (h1 : 48 ≤ c.toNat) (h2 : c.toNat ≤ 57) : hval c = (c.toNat : Int) - 48 := by
  have h : ∀ n, n < 256 → 48 ≤ n → n ≤ 57 → hval (UInt8.ofNat n) = (n : Int) - 48 := by decide +kernel
  have := h c.toNat c.toNat_lt h1 h2
  simpa using this
theorem hval_let (c : UInt8) (h1 : 97 ≤ c.toNat) (h2 : c.toNat ≤ 102) : hval c = (c.toNat : Int) - 87 := by
  have h : ∀ n, n < 256 → 97 ≤ n → n ≤ 102 → hval (UInt8.ofNat n) = (n : Int) - 87 := by decide +kernel
  have := h c.toNat c.toNat_lt h1 h2
  simpa using this
theorem hval_not (c : UInt8) (h1 : ¬ (48 ≤ c.toNat ∧ c.toNat ≤ 57)) (h2 : ¬ (97 ≤ c.toNat ∧ c.toNat ≤ 102)) : hval c = -1 := by
  have h : ∀ n, n < 256 → ¬ (48 ≤ n ∧ n ≤ 57) → ¬ (97 ≤ n ∧ n ≤ 102) → hval (UInt8.ofNat n) = -1 := by decide +kernel
  have := h c.toNat c.toNat_lt h1 h2
  simpa using this
def numO : Option Nat → Nat × Bool
  | some n => (n, true)
  | none => (0, false)
set_option maxHeartbeats 2000000 in
theorem rnum_any (l : List UInt8) (w : World) (hl : l.length ≤ 1048576) : Calls Tryz.prog 44 #[.string ⟨l.toArray⟩] w fun e w' => e = .returned (.tuple #[.int .u64 ((numO (ngo 0 l)).1 : Int), .bool (numO (ngo 0 l)).2]) ∧ w = w' := by
  obtain ⟨fin, hfin⟩ : ∃ fin, fin = ngo 0 l := ⟨_, rfl⟩
  rw [← hfin]
  have HF := Lib.hid hfin
  clear hfin
  go_enter Tryz.func44, Tryz.ntmps44
  go_wp2
  go_loopw [4, 5] (fun z i wr => ∃ k v : Nat, k ≤ l.length ∧ v < 18446744073709551616 ∧ i = .int .i64 (k : Int) ∧ z = .int .u64 (v : Int) ∧ wr = w ∧ fin = ngo v (l.drop k)) (fun _ i _ => l.length - (intOf i).toNat)
  case atStart => exact ⟨0, 0, by omega, by decide, rfl, rfl, rfl, HF.out⟩
  case round =>
    obtain ⟨k, v, hk, hv, rfl, rfl, rfl, hgo'⟩ := hrel
    by_cases hlt : k < l.length
    · have hidx := str_at l k hlt
      have hdrop : ngo v (l.drop k) = if hval (l.getD k 0) < 0 then none else ngo ((v * 16 + (hval (l.getD k 0)).toNat) % 18446744073709551616) (l.drop (k + 1)) := by
        rw [List.drop_eq_getElem_cons hlt, ngo]
        simp [List.getElem?_eq_getElem hlt]
      rw [hdrop] at hgo'
      clear hdrop
      generalize l.getD k 0 = c at *
      have hc256 := c.toNat_lt
      by_cases h1 : 48 ≤ c.toNat ∧ c.toNat ≤ 57
      · rw [hval_dig c h1.1 h1.2, if_neg (by omega)] at hgo'
        have HG := Lib.hid hgo'
        obtain ⟨d, hd⟩ : ∃ d, c.toNat = d + 48 := ⟨c.toNat - 48, by omega⟩
        have k1 : decide (48 ≤ (c.toNat : Int)) = true := by simp; omega
        have k2 : decide ((c.toNat : Int) ≤ 57) = true := by simp; omega
        obtain ⟨h1a, h1b⟩ := h1
        have HD := Lib.hid hd
        clear hgo' hd
        go_wp2
        go_roundw
        case rel =>
          refine ⟨k + 1, _, by omega, Nat.mod_lt _ (by decide), by go_num, ?_, trivial, HG.out⟩
          congr 1
          have := HD.out
          simp only [wrap_64u]
          omega
        case measure => simp [intOf]; omega
      · by_cases h2 : 97 ≤ c.toNat ∧ c.toNat ≤ 102
        · rw [hval_let c h2.1 h2.2, if_neg (by omega)] at hgo'
          have HG := Lib.hid hgo'
          have k2 : decide ((c.toNat : Int) ≤ 57) = false := by simp; omega
          have k1 : decide (48 ≤ (c.toNat : Int)) = true := by simp; omega
          have k3 : decide (97 ≤ (c.toNat : Int)) = true := by simp; omega
          have k4 : decide ((c.toNat : Int) ≤ 102) = true := by simp; omega
          obtain ⟨h2a, h2b⟩ := h2
          clear hgo' h1
          go_wp2
          go_roundw
          case rel =>
            refine ⟨k + 1, _, by omega, Nat.mod_lt _ (by decide), by go_num, ?_, trivial, HG.out⟩
            congr 1
            simp only [wrap_64u]
            omega
          case measure => simp [intOf]; omega
        · rw [hval_not c h1 h2, if_pos (by decide)] at hgo'
          have HG := Lib.hid hgo'
          clear hgo'
          by_cases g1 : 48 ≤ c.toNat
          · have k1 : decide (48 ≤ (c.toNat : Int)) = true := by simp; omega
            have k2 : decide ((c.toNat : Int) ≤ 57) = false := by simp; omega
            by_cases g2 : 97 ≤ c.toNat
            · have k3 : decide (97 ≤ (c.toNat : Int)) = true := by simp; omega
              have k4 : decide ((c.toNat : Int) ≤ 102) = false := by simp; omega
              clear h1 h2 g1 g2
              go_wp2
              go_ret2
              exact ⟨by rw [HG.out]; rfl, rfl⟩
            · have k3 : decide (97 ≤ (c.toNat : Int)) = false := by simp; omega
              clear h1 h2 g1 g2
              go_wp2
              go_ret2
              exact ⟨by rw [HG.out]; rfl, rfl⟩
          · have k1 : decide (48 ≤ (c.toNat : Int)) = false := by simp; omega
            have k3 : decide (97 ≤ (c.toNat : Int)) = false := by simp; omega
            clear h1 h2 g1
            go_wp2
            go_ret2
            exact ⟨by rw [HG.out]; rfl, rfl⟩
    · have hend : l.drop k = [] := List.drop_eq_nil_of_le (by omega)
      rw [hend] at hgo'
      have HG : Hid (fin = some v) := hgo'
      clear hgo' hend
      go_wp2
      go_ret2
      exact ⟨by rw [HG.out]; rfl, rfl⟩
end Go.Proofs.YtdjhkaofhdcalaaGreatDoor

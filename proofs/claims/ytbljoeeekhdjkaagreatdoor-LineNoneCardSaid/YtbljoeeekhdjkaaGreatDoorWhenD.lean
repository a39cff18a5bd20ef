/-
  when.Less, Of, Get, walked.
-/
import Derived.Test.YtbljoeeekhdjkaaGreatDoorWhenC
import Derived.Test.YtbljoeeekhdjkaaGreatDoorFloB
namespace Go.Proofs.YtbljoeeekhdjkaaGreatDoor
open Go.RowKit

theorem less_any (a b : Nat) (w : World) : Calls Tryz.prog 38 #[.float .f64 a, .float .f64 b] w fun e w' => e = .returned (.bool (Flo.lessB a b)) ∧ w = w' := by
  have hna : ∀ W, Calls Tryz.prog 88 #[.float .f64 a] W fun e w' => e = .returned (.bool (Flo.isNaN a)) ∧ W = w' := isnan_any a
  have hnb : ∀ W, Calls Tryz.prog 88 #[.float .f64 b] W fun e w' => e = .returned (.bool (Flo.isNaN b)) ∧ W = w' := isnan_any b
  cases n1 : Flo.isNaN a
  · rw [n1] at hna
    have HA := Lib.hid hna
    have N1 := Lib.hid n1
    cases n2 : Flo.isNaN b
    · rw [n2] at hnb
      have HB := Lib.hid hnb
      have N2 := Lib.hid n2
      have hla := isLowNought_any a
      cases z1 : Flo.isZ a
      · have hz1 : (FloatKind.f64.format.order a 0 == some Ordering.eq) = false := (Flo.zero_eq a).trans z1
        have HR : Hid ((FloatKind.f64.format.order a b == some Ordering.lt) = Flo.lessB a b) := Flo.less_lt a b n1 n2 (.inl z1)
        clear n1 n2 hna hnb z1 hla
        go_enter Tryz.func38, Tryz.ntmps38
        go_wp2_with fail
        refine (HA.out _).mono ?_
        rintro e w' ⟨rfl, rfl⟩
        go_wp2_with fail
        refine (HB.out _).mono ?_
        rintro e w' ⟨rfl, rfl⟩
        go_wp2
        go_ret
        exact ⟨by rw [← HR.out]; rfl, rfl⟩
      · have hz1 : (FloatKind.f64.format.order a 0 == some Ordering.eq) = true := (Flo.zero_eq a).trans z1
        cases z2 : Flo.isZ b
        · have hz2 : (FloatKind.f64.format.order b 0 == some Ordering.eq) = false := (Flo.zero_eq b).trans z2
          have HR : Hid ((FloatKind.f64.format.order a b == some Ordering.lt) = Flo.lessB a b) := Flo.less_lt a b n1 n2 (.inr z2)
          clear n1 n2 hna hnb z1 z2 hla
          go_enter Tryz.func38, Tryz.ntmps38
          go_wp2_with fail
          refine (HA.out _).mono ?_
          rintro e w' ⟨rfl, rfl⟩
          go_wp2_with fail
          refine (HB.out _).mono ?_
          rintro e w' ⟨rfl, rfl⟩
          go_wp2
          go_ret
          exact ⟨by rw [← HR.out]; rfl, rfl⟩
        · have hz2 : (FloatKind.f64.format.order b 0 == some Ordering.eq) = true := (Flo.zero_eq b).trans z2
          have hlb := isLowNought_any b
          have HR : Hid (Flo.lessB a b = (Flo.S a && !Flo.S b)) := Flo.less_zero a b z1 z2
          rw [z1, Bool.true_and] at hla
          rw [z2, Bool.true_and] at hlb
          have HLA := Lib.hid hla
          have HLB := Lib.hid hlb
          clear n1 n2 hna hnb z1 z2 hla hlb
          cases s1 : Flo.S a
          all_goals
            have S1 := Lib.hid s1
            have hl2 : ∀ W, Calls Tryz.prog 87 #[.float .f64 a] W fun e w' => e = .returned (.bool (Flo.S a)) ∧ W = w' := HLA.out
            rw [s1] at hl2
            have HL2 := Lib.hid hl2
            clear s1 hl2
            go_enter Tryz.func38, Tryz.ntmps38
            go_wp2_with fail
            refine (HA.out _).mono ?_
            rintro e w' ⟨rfl, rfl⟩
            go_wp2_with fail
            refine (HB.out _).mono ?_
            rintro e w' ⟨rfl, rfl⟩
            go_wp2_with fail
            refine (HL2.out _).mono ?_
            rintro e w' ⟨rfl, rfl⟩
          · go_wp2
            go_ret
            exact ⟨by rw [HR.out, S1.out]; rfl, rfl⟩
          · go_wp2_with fail
            refine (HLB.out _).mono ?_
            rintro e w' ⟨rfl, rfl⟩
            go_wp2
            go_ret
            exact ⟨by rw [HR.out, S1.out]; rfl, rfl⟩
    · rw [n2] at hnb
      have HB := Lib.hid hnb
      have HR : Hid (Flo.lessB a b = true) := Flo.less_nan_right a b n1 n2
      clear n1 n2 hna hnb
      go_enter Tryz.func38, Tryz.ntmps38
      go_wp2_with fail
      refine (HA.out _).mono ?_
      rintro e w' ⟨rfl, rfl⟩
      go_wp2_with fail
      refine (HB.out _).mono ?_
      rintro e w' ⟨rfl, rfl⟩
      go_wp2
      go_ret
      exact ⟨by rw [HR.out]; rfl, rfl⟩
  · rw [n1] at hna
    have HA := Lib.hid hna
    have HR : Hid (Flo.lessB a b = false) := Flo.less_nan_left a b n1
    clear n1 hna hnb
    go_enter Tryz.func38, Tryz.ntmps38
    go_wp2_with fail
    refine (HA.out _).mono ?_
    rintro e w' ⟨rfl, rfl⟩
    go_wp2
    go_ret
    exact ⟨by rw [HR.out]; rfl, rfl⟩

/-- What Of tells. -/
def ofV (n : Nat) : Nat := if Flo.may n then n else 0
theorem wof_any (n : Nat) (w : World) (h : n < 18446744073709551616) : Calls Tryz.prog 44 #[.int .u64 (n : Int)] w fun e w' => e = .returned (.tuple #[.float .f64 (ofV n), .bool (Flo.may n)]) ∧ w = w' := by
  have hf := frombits_run n
  have hm := may_any n w h
  have HV : Hid (ofV n = if Flo.may n then n else 0) := rfl
  cases m : Flo.may n
  all_goals
    rw [m] at hm
    have HM := Lib.hid hm
    have M := Lib.hid m
    clear m hm h
    go_enter Tryz.func44, Tryz.ntmps44
    go_wp2_with (go_at_call 35; refine HM.out.mono ?_; rintro e w' ⟨rfl, rfl⟩)
    go_ret2
    exact ⟨by rw [HV.out, M.out]; rfl, rfl⟩

/-- A number out of digits; none of another sign. -/
def hgo : Nat → List UInt8 → Option Nat
  | z, [] => some z
  | z, c :: l => if hval c < 0 then none else hgo (z * 16 + (hval c).toNat) l
def getO : Option Nat → Nat × Bool
  | some n => (ofV n, Flo.may n)
  | none => (0, false)
def getE (l : List UInt8) : Nat × Bool := getO (hgo 0 l)
set_option maxHeartbeats 1000000 in
theorem wget_any (l : List UInt8) (w : World) (hl : l.length = 16) : Calls Tryz.prog 46 #[.string ⟨l.toArray⟩] w fun e w' => e = .returned (.tuple #[.float .f64 (getE l).1, .bool (getE l).2]) ∧ w = w' := by
  have hb0 : ((l.length : Int) != 16) = false := by simp [hl]
  obtain ⟨fin, hfin⟩ : ∃ fin, fin = hgo 0 l := ⟨_, rfl⟩
  have HE : Hid (getE l = getO fin) := by show _ = _; rw [hfin]; rfl
  have HF := Lib.hid hfin
  have HL := Lib.hid hl
  clear hfin
  go_enter Tryz.func46, Tryz.ntmps46
  go_wp2
  go_loopw [4, 12] (fun z i wr => ∃ k v : Nat, k ≤ 16 ∧ v < 16 ^ k ∧ i = .int .i64 (k : Int) ∧ z = .int .u64 (v : Int) ∧ wr = w ∧ fin = hgo v (l.drop k)) (fun _ i _ => 16 - (intOf i).toNat)
  case atStart => exact ⟨0, 0, by omega, by decide, rfl, rfl, rfl, HF.out⟩
  case round =>
    obtain ⟨k, v, hk, hv, rfl, rfl, rfl, hgo'⟩ := hrel
    by_cases hlt : k < 16
    · have hidx := str_at l k (by omega)
      have hdrop : hgo v (l.drop k) = if hval (l.getD k 0) < 0 then none else hgo (v * 16 + (hval (l.getD k 0)).toNat) (l.drop (k + 1)) := by
        have hkl : k < l.length := by omega
        rw [List.drop_eq_getElem_cons hkl, hgo]
        simp [List.getElem?_eq_getElem hkl]
      rw [hdrop] at hgo'
      have hvb : v < 1152921504606846976 := by
        have : v < 16 ^ 15 := Nat.lt_of_lt_of_le hv (Nat.pow_le_pow_right (by decide) (by omega))
        simpa using this
      have hkk : decide ((k : Int) < (l.length : Int)) = true := by simp; omega
      have hpow : v * 16 + 15 < 16 ^ (k + 1) := by rw [Nat.pow_succ]; omega
      have HPOW := Lib.hid hpow
      clear hdrop hv hl hpow
      generalize l.getD k 0 = c at *
      have hc := hval_lt c
      have HD := Lib.hid (digit_any c)
      by_cases hneg : hval c < 0
      · rw [if_pos hneg] at hgo'
        have HG := Lib.hid hgo'
        clear hgo'
        go_wp2_with fail
        refine (HD.out _).mono ?_
        rintro e w' ⟨rfl, rfl⟩
        go_wp2
        go_ret2
        exact ⟨by rw [HE.out, HG.out]; rfl, rfl⟩
      · rw [if_neg hneg] at hgo'
        obtain ⟨d, hd⟩ : ∃ d : Nat, hval c = (d : Int) := ⟨(hval c).toNat, by omega⟩
        rw [hd] at hgo' hneg hc HD
        rw [Int.toNat_natCast] at hgo'
        have HG := Lib.hid hgo'
        have hs0 : (v : Int) * 16 % 18446744073709551616 = ((v * 16 : Nat) : Int) := by omega
        have hd0 : (d : Int) % 18446744073709551616 = (d : Int) := by omega
        clear hgo' hd
        go_wp2_with fail
        refine (HD.out _).mono ?_
        rintro e w' ⟨rfl, rfl⟩
        go_wp2
        go_roundw
        case rel => exact ⟨k + 1, v * 16 + d, by omega, by have := HPOW.out; omega, by go_num, by go_num, trivial, HG.out⟩
        case measure => simp [intOf]; omega
    · obtain rfl : k = 16 := by omega
      have hend : l.drop 16 = [] := List.drop_eq_nil_of_le (by omega)
      rw [hend] at hgo'
      have HG : Hid (fin = some v) := hgo'
      have hv2 : v < 18446744073709551616 := by simpa using hv
      have HO := Lib.hid (wof_any v wr hv2)
      clear hgo' hend hv
      go_wp2_with fail
      refine HO.out.mono ?_
      rintro e w' ⟨rfl, rfl⟩
      go_wp2
      go_ret2
      exact ⟨by rw [HE.out, HG.out]; rfl, rfl⟩
theorem wget_len (l : List UInt8) (w : World) (hl : l.length ≠ 16) : Calls Tryz.prog 46 #[.string ⟨l.toArray⟩] w fun e w' => e = .returned (.tuple #[.float .f64 0, .bool false]) ∧ w = w' := by
  have hb0 : ((l.length : Int) != 16) = true := by simp; omega
  clear hl
  go_enter Tryz.func46, Tryz.ntmps46
  go_wp2
  go_ret2
  exact ⟨rfl, rfl⟩

theorem hval_hx : ∀ d, d < 16 → hval (hx d) = (d : Int) := by decide +kernel
theorem hgo_hexs (j z v : Nat) : hgo z (hexs j v) = some (z * 16 ^ j + v % 16 ^ j) := by
  induction j generalizing z with
  | zero => simp [hexs, hgo, Nat.mod_one]
  | succ j ih =>
    have hd : v / 16 ^ j % 16 < 16 := Nat.mod_lt _ (by decide)
    rw [hexs, hgo, hval_hx _ hd, if_neg (by omega), Int.toNat_natCast, ih]
    congr 1
    have h1 : v % 16 ^ (j + 1) = v / 16 ^ j % 16 * 16 ^ j + v % 16 ^ j := by
      rw [Nat.pow_succ, Nat.mod_mul, Nat.mul_comm (16 ^ j), Nat.add_comm]
    rw [h1, Nat.add_mul, Nat.pow_succ]
    generalize 16 ^ j = q
    have : z * 16 * q = z * (q * 16) := by rw [Nat.mul_assoc, Nat.mul_comm 16 q]
    omega
theorem get_put (n : Nat) (h : n < 18446744073709551616) (hm : Flo.may n = true) : getE (hexs 16 n) = (n, true) := by
  have : hgo 0 (hexs 16 n) = some n := by rw [hgo_hexs, Nat.zero_mul, Nat.zero_add, Nat.mod_eq_of_lt (by simpa using h)]
  simp [getE, getO, this, ofV, hm]
end Go.Proofs.YtbljoeeekhdjkaaGreatDoor

/-
  The reference's Number and Size, walked.
-/
import Derived.Test.YtghpnjgglneecaaGreatDoorWhenC
import Derived.Test.YtghpnjgglneecaaGreatDoorLinB
import Derived.Test.YtghpnjgglneecaaGreatDoorFlo2
import Derived.Test.YtghpnjgglneecaaGreatDoorQTail
namespace Go.Proofs.YtghpnjgglneecaaGreatDoor
open Go.RowKit

/-- The first n signs: digits all? -/
theorem all_take (l : List UInt8) (k : Nat) (h : k < l.length) : (l.take (k + 1)).all isDig = ((l.take k).all isDig && isDig (l.getD k 0)) := by
  rw [List.take_succ_eq_append_getElem h, List.all_append, List.getD_eq_getElem?_getD, List.getElem?_eq_getElem h]
  simp
theorem whole_bad (l : List UInt8) (k : Nat) (h : k < l.length) (hd : isDig (l.getD k 0) = false) : whole l = false := by
  have : l.all isDig = false := by
    rw [List.all_eq_false]
    refine ⟨l[k], List.getElem_mem _, ?_⟩
    rw [List.getD_eq_getElem?_getD, List.getElem?_eq_getElem h, Option.getD_some] at hd
    simp [hd]
  simp [whole, digs, this]
theorem num_getD (l : List UInt8) (k : Nat) (hk : k < l.length) (hd : isDig (l.getD k 0) = true) : ∃ d : Nat, d ≤ 9 ∧ (l.getD k 0).toNat = d + 48 ∧ ∀ n, num n (l.take (k + 1)) = num n (l.take k) * 10 + d := by
  simp only [isDig, Bool.and_eq_true, decide_eq_true_eq] at hd
  refine ⟨(l.getD k 0).toNat - 48, by omega, by omega, fun n => ?_⟩
  rw [List.take_succ_eq_append_getElem hk, num_snoc]
  simp [List.getElem?_eq_getElem hk]
/-- What Number tells: the number is read only where there is one. -/
def numV (l : List UInt8) (n : Nat) (b : Bool) : Prop := b = whole l ∧ (b = true → n = num 0 l)
def NumE (l : List UInt8) (e : Ending) : Prop := ∃ n b, n < 1000000000 ∧ numV l n b ∧ e = .returned (.tuple #[.int .i64 ((n : Nat) : Int), .bool b])
set_option maxRecDepth 100000 in
set_option maxHeartbeats 4000000 in
theorem rnumber_any (l : List UInt8) (w : World) (hl : l.length ≤ 1048576) : Calls Tryz.prog 60 #[.string ⟨l.toArray⟩, .int .i64 6] w fun e w' => NumE l e ∧ ∃ q, w' = w.drewN q := by
  go_enter Tryz.func60, Tryz.ntmps60
  go_wp2_with fail
  go_loop [6, 7] (fun z i => ∃ k n : Nat, k ≤ l.length ∧ k ≤ 9 ∧ n < 10 ^ k ∧ i = .int .i64 (k : Int) ∧ z = .int .i64 (n : Int) ∧ n = num 0 (l.take k) ∧ (l.take k).all isDig = true) (fun _ i => 9 - (intOf i).toNat)
  case atStart => exact ⟨0, 0, by omega, by omega, by decide, rfl, rfl, rfl, rfl⟩
  case round =>
    obtain ⟨k, n, hk, hk9, hn, rfl, rfl, hnum, hall⟩ := hrel
    have HNUM := Lib.hid hnum
    have HALL := Lib.hid hall
    have hn9 : n < 1000000000 := Nat.lt_of_lt_of_le hn (by have := Nat.pow_le_pow_right (n := 10) (by decide) hk9; simpa using this)
    have HN := Lib.hid hn
    clear hnum hall hn
    by_cases hgo : k < l.length ∧ k < 9
    · obtain ⟨hlt, hlt9⟩ := hgo
      have k9 : decide ((k : Int) < 9) = true := by simp; omega
      have hidx := str_at l k hlt
      have hat := all_take l k hlt
      have hn8 : n < 100000000 := Nat.lt_of_lt_of_le HN.out (by have := Nat.pow_le_pow_right (n := 10) (by decide) (show k ≤ 8 by omega); simpa using this)
      cases hd : isDig (l.getD k 0) with
      | true =>
        obtain ⟨d, hd9, hde, hst⟩ := num_getD l k hlt hd
        have HST := Lib.hid (hst 0)
        have HAT : Hid ((l.take (k + 1)).all isDig = true) := by show _ = _; rw [hat, HALL.out, hd]; rfl
        rw [hde] at hidx
        have k1 : decide (((d + 48 : Nat) : Int) < 48) = false := by simp; omega
        have k2 : decide ((57 : Int) < ((d + 48 : Nat) : Int)) = false := by simp; omega
        have hdi : ((d + 48 : Nat) : Int) = (d : Int) + 48 := by omega
        rw [hdi] at hidx k1 k2
        have hpk : n * 10 + d < 10 ^ (k + 1) := by have := HN.out; rw [Nat.pow_succ]; omega
        have HPK := Lib.hid hpk
        clear hat hd hst hde hpk hdi
        go_wp2
        go_round
        case rel => exact ⟨k + 1, n * 10 + d, by omega, by omega, HPK.out, by go_num, by go_num, by rw [HST.out, ← HNUM.out], HAT.out⟩
        case measure => simp [intOf]; omega
      | false =>
        have HW := Lib.hid (whole_bad l k hlt hd)
        simp only [isDig, Bool.and_eq_false_iff, decide_eq_false_iff_not] at hd
        have HD := Lib.hid hd
        clear hat hd
        generalize l.getD k 0 = c at *
        by_cases h1 : c.toNat < 48
        · have k1 : decide ((c.toNat : Int) < 48) = true := by simp; omega
          go_wp2
          go_ret2
          exact ⟨⟨0, false, by decide, ⟨HW.out.symm, fun h => by cases h⟩, rfl⟩, 0, rfl⟩
        · have k1 : decide ((c.toNat : Int) < 48) = false := by simp; omega
          have k2 : decide ((57 : Int) < (c.toNat : Int)) = true := by have := HD.out; simp; omega
          go_wp2
          go_ret2
          exact ⟨⟨0, false, by decide, ⟨HW.out.symm, fun h => by cases h⟩, rfl⟩, 0, rfl⟩
    · have hk9' : k < l.length → decide ((k : Int) < 9) = false := fun h => by simp; omega
      rcases Nat.lt_or_ge k l.length with hlt | hge
      · have k9 := hk9' hlt
        have hW : Hid (whole l = false) := by
          show _ = _
          unfold whole digs
          rw [decide_eq_false (show ¬ l.length ≤ 6 by omega)]
          simp
        have d1 : decide (1 ≤ (l.length : Int)) = true := by simp; omega
        have d2 : decide ((l.length : Int) ≤ 6) = false := by simp; omega
        clear hk9'
        go_wp2_with fail
        go_quiet (fail)
        go_wp2
        go_ret2
        exact ⟨⟨n, false, hn9, ⟨hW.out.symm, fun h => by cases h⟩, rfl⟩, _, rfl⟩
      · obtain rfl : k = l.length := by omega
        have hlall : l.all isDig = true := by have := HALL.out; rwa [List.take_of_length_le (Nat.le_refl _)] at this
        have HNL : Hid (n = num 0 l) := by show _ = _; rw [HNUM.out, List.take_of_length_le (Nat.le_refl _)]
        have HLA := Lib.hid hlall
        clear hk9' hgo hge HALL HNUM hlall
        rcases Nat.eq_zero_or_pos l.length with h0 | h0
        · obtain rfl : l = [] := List.eq_nil_of_length_eq_zero h0
          have hW : Hid (whole ([] : List UInt8) = false) := rfl
          clear h0
          go_wp2_with fail
          go_quiet (fail)
          go_wp2
          go_ret2
          exact ⟨⟨n, false, hn9, ⟨hW.out.symm, fun h => by cases h⟩, rfl⟩, _, rfl⟩
        · have d1 : decide (1 ≤ (l.length : Int)) = true := by simp; omega
          by_cases h6 : l.length ≤ 6
          · have d2 : decide ((l.length : Int) ≤ 6) = true := by simp; omega
            have hi0 := str_at l 0 h0
            rw [show ((0 : Nat) : Int) = 0 from rfl] at hi0
            have hW : Hid (whole l = ((l == [48]) || (l.getD 0 0 != 48))) := by
              show _ = _
              unfold whole digs
              rw [decide_eq_true h6, HLA.out]
              have : l.isEmpty = false := by cases l with | nil => simp at h0 | cons => rfl
              rw [this]
              simp
            have hbn := byte_ne (l.getD 0 0)
            cases hb1 : (l == [48]) with
            | true =>
              rw [hb1] at hW
              have HW2 : Hid (whole l = true) := by show _ = _; rw [hW.out]; rfl
              clear hW hbn hi0
              go_wp2_with fail
              go_quiet (fail)
              go_wp2
              go_ret2
              exact ⟨⟨n, true, hn9, ⟨HW2.out.symm, fun _ => HNL.out⟩, rfl⟩, _, rfl⟩
            | false =>
              rw [hb1, Bool.false_or] at hW
              generalize l.getD 0 0 = c at *
              cases hb2 : (c != 48)
              all_goals
                rw [hb2] at hbn hW
                clear hb2
                go_wp2_with fail
                go_quiet (fail)
                go_wp2
                go_ret2
                exact ⟨⟨n, _, hn9, ⟨hW.out.symm, fun _ => HNL.out⟩, rfl⟩, _, rfl⟩
          · have hW : Hid (whole l = false) := by
              show _ = _
              unfold whole digs
              rw [decide_eq_false h6]
              simp
            have d2 : decide ((l.length : Int) ≤ 6) = false := by simp; omega
            go_wp2_with fail
            go_quiet (fail)
            go_wp2
            go_ret2
            exact ⟨⟨n, false, hn9, ⟨hW.out.symm, fun h => by cases h⟩, rfl⟩, _, rfl⟩
end Go.Proofs.YtghpnjgglneecaaGreatDoor

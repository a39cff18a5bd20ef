/-
  TreeName, walked.
-/
import Derived.Test.YtdmafodppcbglaaGreatDoorBegS
import Derived.Test.YtdmafodppcbglaaGreatDoorMgj
import Derived.Test.YtdmafodppcbglaaGreatDoorMgv
namespace Go.Proofs.YtdmafodppcbglaaGreatDoor
open Go.RowKit

theorem tn_len (n0 : Int) : ∃ m : Nat, m ≤ 24 ∧ (wrap64 (n0.tmod 25 + 25)).tmod 25 = (m : Int) := by
  have h1 := Int.tmod_lt_of_pos n0 (show (0 : Int) < 25 by decide)
  have h2 := Int.lt_tmod_of_pos n0 (show (0 : Int) < 25 by decide)
  generalize n0.tmod 25 = x at *
  have e : wrap64 (x + 25) = x + 25 := by unfold wrap64; omega
  rw [e]
  have e2 : (x + 25).tmod 25 = (x + 25) % 25 := Int.tmod_eq_emod_of_nonneg (by omega)
  rw [e2]
  exact ⟨((x + 25) % 25).toNat, by omega, by omega⟩
theorem tn_q : ∀ m : Nat, m < 25 → okName (List.replicate m 113) = (decide (1 ≤ m) && decide (m ≤ 20)) := by decide +kernel
theorem tn_a (c : UInt8) : okName [97, c] = okSign c := by
  unfold okName
  have h : okSign 97 = true := by decide
  simp [h]
theorem tn_1 : okName [46] = false := by decide
theorem tn_2 : okName [46, 46] = false := by decide
theorem tn_3 : okName [46, 46, 46] = true := by decide
def qq (k : Nat) : List UInt8 := List.replicate k 113
theorem tn_qq (m : Nat) (h : m < 25) : okName (qq m) = (decide (1 ≤ m) && decide (m ≤ 20)) := tn_q m h
theorem q_snoc (k : Nat) : (⟨(qq k).toArray⟩ ++ ⟨#[113]⟩ : ByteArray) = ⟨(qq (k + 1)).toArray⟩ := by
  refine ByteArray.ext ?_
  rw [ByteArray.data_append]
  show (List.replicate k (113 : UInt8)).toArray ++ [113].toArray = (List.replicate (k + 1) 113).toArray
  rw [List.append_toArray, ← List.replicate_succ']
set_option maxRecDepth 100000 in
set_option maxHeartbeats 4000000 in
theorem tnam_any (c : UInt8) (n0 : Int) (w : World) (hE : Env w) (hT : Tens w) : Calls Tryz.prog 3 #[.int .u8 (c.toNat : Int), .int .i64 n0] w fun e w' => e = .returned (.bool true) ∧ Below w.heap.size w w' := by
  have HE := Lib.hid hE
  have HT := Lib.hid hT
  clear hE hT
  obtain ⟨m, hm, hw2⟩ := tn_len n0
  have HM := Lib.hid hm
  go_enter Tryz.func3, Tryz.ntmps3
  go_wp2_with fail
  refine (begun6_any w HE.out HT.out).mono ?_
  rintro e w1 ⟨rfl, hb⟩
  have T1 := Lib.hid hb
  clear hb
  go_wp2_with fail
  go_loopw [6, 7] (fun s i wr => ∃ k : Nat, k ≤ m ∧ s = .string ⟨(qq k).toArray⟩ ∧ i = .int .i64 (k : Int) ∧ wr = w1) (fun _ i _ => m - (intOf i).toNat)
  case atStart => exact ⟨0, by omega, rfl, rfl, rfl⟩
  case round =>
    obtain ⟨k, hk, rfl, rfl, rfl⟩ := hrel
    by_cases hlt : k < m
    · have hql : (qq k).length = k := List.length_replicate
      go_wp2
      rw [q_snoc]
      go_roundw
      case rel => exact ⟨k + 1, by omega, rfl, by go_num, trivial⟩
      case measure => simp [intOf]; omega
    · obtain rfl : k = m := by omega
      have hcv := str_one c (c.toNat : Int) rfl wr
      have hc := c.toNat_lt
      have HQ := Lib.hid (tn_qq k (by omega))
      have HA := Lib.hid (tn_a c)
      have HOK : Hid (okSign c = ((decide (97 ≤ c.toNat) && decide (c.toNat ≤ 122)) || (decide (48 ≤ c.toNat) && decide (c.toNat ≤ 57)) || c.toNat == 46 || c.toNat == 45 || c.toNat == 95)) := rfl
      have HBW := Lib.hid ((Below.refl wr.heap.size wr).alloc (Nat.le_refl _) (.cells #[.int .u8 (c.toNat : Int)] 5))
      generalize c.toNat = n at *
      have hcl : (n < 45 ∨ n = 47) ∨ n = 46 ∨ n = 45 ∨ (48 ≤ n ∧ n ≤ 57) ∨ n = 95 ∨ (57 < n ∧ n < 97 ∧ n ≠ 95) ∨ (97 ≤ n ∧ n ≤ 122) ∨ 122 < n := by omega
      have hmc : k < 1 ∨ (1 ≤ k ∧ k ≤ 20) ∨ 20 < k := by omega
      rcases hcl with h | h | h | h | h | h | h | h
      · have d1 : decide ((97 : Int) ≤ (n : Int)) = false := by simp; omega
        have d2 : decide ((n : Int) ≤ 122) = true := by simp; omega
        have d3 : decide ((48 : Int) ≤ (n : Int)) = false := by simp; omega
        have d4 : decide ((n : Int) ≤ 57) = true := by simp; omega
        have e1 : ((n : Int) == 46) = false := by simp; omega
        have e2 : ((n : Int) == 45) = false := by simp; omega
        have e3 : ((n : Int) == 95) = false := by simp; omega
        have HK : Hid (okSign c = false) := by show _ = _; rw [HOK.out]; simp; omega
        clear h
        go_wp2_with fail
        refine (name_any [97, c] _).mono ?_
        rintro e w2 ⟨rfl, rfl⟩
        rw [HA.out, HK.out]
        go_wp2_with fail
        refine (name_any (qq k) _).mono ?_
        rintro e w2 ⟨rfl, rfl⟩
        rw [HQ.out]
        rcases hmc with h | h | h
        · have q1 : decide ((1 : Int) ≤ (k : Int)) = false := by simp; omega
          have q2 : decide ((k : Int) ≤ 20) = true := by simp; omega
          have q3 : decide (1 ≤ k) = false := by simp; omega
          have q4 : decide (k ≤ 20) = true := by simp; omega
          rw [q3, q4]
          clear h
          go_wp2_with fail
          refine (name_any [46] _).mono ?_
          rintro e w2 ⟨rfl, rfl⟩
          rw [tn_1]
          go_wp2_with fail
          refine (name_any [46, 46] _).mono ?_
          rintro e w2 ⟨rfl, rfl⟩
          rw [tn_2]
          go_wp2_with fail
          refine (name_any [46, 46, 46] _).mono ?_
          rintro e w2 ⟨rfl, rfl⟩
          rw [tn_3]
          go_wp2
          go_ret
          exact ⟨rfl, T1.out.trans (HBW.out.mono T1.out.size)⟩
        · have q1 : decide ((1 : Int) ≤ (k : Int)) = true := by simp; omega
          have q2 : decide ((k : Int) ≤ 20) = true := by simp; omega
          have q3 : decide (1 ≤ k) = true := by simp; omega
          have q4 : decide (k ≤ 20) = true := by simp; omega
          rw [q3, q4]
          clear h
          go_wp2_with fail
          refine (name_any [46] _).mono ?_
          rintro e w2 ⟨rfl, rfl⟩
          rw [tn_1]
          go_wp2_with fail
          refine (name_any [46, 46] _).mono ?_
          rintro e w2 ⟨rfl, rfl⟩
          rw [tn_2]
          go_wp2_with fail
          refine (name_any [46, 46, 46] _).mono ?_
          rintro e w2 ⟨rfl, rfl⟩
          rw [tn_3]
          go_wp2
          go_ret
          exact ⟨rfl, T1.out.trans (HBW.out.mono T1.out.size)⟩
        · have q1 : decide ((1 : Int) ≤ (k : Int)) = true := by simp; omega
          have q2 : decide ((k : Int) ≤ 20) = false := by simp; omega
          have q3 : decide (1 ≤ k) = true := by simp; omega
          have q4 : decide (k ≤ 20) = false := by simp; omega
          rw [q3, q4]
          clear h
          go_wp2_with fail
          refine (name_any [46] _).mono ?_
          rintro e w2 ⟨rfl, rfl⟩
          rw [tn_1]
          go_wp2_with fail
          refine (name_any [46, 46] _).mono ?_
          rintro e w2 ⟨rfl, rfl⟩
          rw [tn_2]
          go_wp2_with fail
          refine (name_any [46, 46, 46] _).mono ?_
          rintro e w2 ⟨rfl, rfl⟩
          rw [tn_3]
          go_wp2
          go_ret
          exact ⟨rfl, T1.out.trans (HBW.out.mono T1.out.size)⟩
      · have d1 : decide ((97 : Int) ≤ (n : Int)) = false := by simp; omega
        have d2 : decide ((n : Int) ≤ 122) = true := by simp; omega
        have d3 : decide ((48 : Int) ≤ (n : Int)) = false := by simp; omega
        have d4 : decide ((n : Int) ≤ 57) = true := by simp; omega
        have e1 : ((n : Int) == 46) = true := by simp; omega
        have e2 : ((n : Int) == 45) = false := by simp; omega
        have e3 : ((n : Int) == 95) = false := by simp; omega
        have HK : Hid (okSign c = true) := by show _ = _; rw [HOK.out]; simp; omega
        clear h
        go_wp2_with fail
        refine (name_any [97, c] _).mono ?_
        rintro e w2 ⟨rfl, rfl⟩
        rw [HA.out, HK.out]
        go_wp2_with fail
        refine (name_any (qq k) _).mono ?_
        rintro e w2 ⟨rfl, rfl⟩
        rw [HQ.out]
        rcases hmc with h | h | h
        · have q1 : decide ((1 : Int) ≤ (k : Int)) = false := by simp; omega
          have q2 : decide ((k : Int) ≤ 20) = true := by simp; omega
          have q3 : decide (1 ≤ k) = false := by simp; omega
          have q4 : decide (k ≤ 20) = true := by simp; omega
          rw [q3, q4]
          clear h
          go_wp2_with fail
          refine (name_any [46] _).mono ?_
          rintro e w2 ⟨rfl, rfl⟩
          rw [tn_1]
          go_wp2_with fail
          refine (name_any [46, 46] _).mono ?_
          rintro e w2 ⟨rfl, rfl⟩
          rw [tn_2]
          go_wp2_with fail
          refine (name_any [46, 46, 46] _).mono ?_
          rintro e w2 ⟨rfl, rfl⟩
          rw [tn_3]
          go_wp2
          go_ret
          exact ⟨rfl, T1.out.trans (HBW.out.mono T1.out.size)⟩
        · have q1 : decide ((1 : Int) ≤ (k : Int)) = true := by simp; omega
          have q2 : decide ((k : Int) ≤ 20) = true := by simp; omega
          have q3 : decide (1 ≤ k) = true := by simp; omega
          have q4 : decide (k ≤ 20) = true := by simp; omega
          rw [q3, q4]
          clear h
          go_wp2_with fail
          refine (name_any [46] _).mono ?_
          rintro e w2 ⟨rfl, rfl⟩
          rw [tn_1]
          go_wp2_with fail
          refine (name_any [46, 46] _).mono ?_
          rintro e w2 ⟨rfl, rfl⟩
          rw [tn_2]
          go_wp2_with fail
          refine (name_any [46, 46, 46] _).mono ?_
          rintro e w2 ⟨rfl, rfl⟩
          rw [tn_3]
          go_wp2
          go_ret
          exact ⟨rfl, T1.out.trans (HBW.out.mono T1.out.size)⟩
        · have q1 : decide ((1 : Int) ≤ (k : Int)) = true := by simp; omega
          have q2 : decide ((k : Int) ≤ 20) = false := by simp; omega
          have q3 : decide (1 ≤ k) = true := by simp; omega
          have q4 : decide (k ≤ 20) = false := by simp; omega
          rw [q3, q4]
          clear h
          go_wp2_with fail
          refine (name_any [46] _).mono ?_
          rintro e w2 ⟨rfl, rfl⟩
          rw [tn_1]
          go_wp2_with fail
          refine (name_any [46, 46] _).mono ?_
          rintro e w2 ⟨rfl, rfl⟩
          rw [tn_2]
          go_wp2_with fail
          refine (name_any [46, 46, 46] _).mono ?_
          rintro e w2 ⟨rfl, rfl⟩
          rw [tn_3]
          go_wp2
          go_ret
          exact ⟨rfl, T1.out.trans (HBW.out.mono T1.out.size)⟩
      · have d1 : decide ((97 : Int) ≤ (n : Int)) = false := by simp; omega
        have d2 : decide ((n : Int) ≤ 122) = true := by simp; omega
        have d3 : decide ((48 : Int) ≤ (n : Int)) = false := by simp; omega
        have d4 : decide ((n : Int) ≤ 57) = true := by simp; omega
        have e1 : ((n : Int) == 46) = false := by simp; omega
        have e2 : ((n : Int) == 45) = true := by simp; omega
        have e3 : ((n : Int) == 95) = false := by simp; omega
        have HK : Hid (okSign c = true) := by show _ = _; rw [HOK.out]; simp; omega
        clear h
        go_wp2_with fail
        refine (name_any [97, c] _).mono ?_
        rintro e w2 ⟨rfl, rfl⟩
        rw [HA.out, HK.out]
        go_wp2_with fail
        refine (name_any (qq k) _).mono ?_
        rintro e w2 ⟨rfl, rfl⟩
        rw [HQ.out]
        rcases hmc with h | h | h
        · have q1 : decide ((1 : Int) ≤ (k : Int)) = false := by simp; omega
          have q2 : decide ((k : Int) ≤ 20) = true := by simp; omega
          have q3 : decide (1 ≤ k) = false := by simp; omega
          have q4 : decide (k ≤ 20) = true := by simp; omega
          rw [q3, q4]
          clear h
          go_wp2_with fail
          refine (name_any [46] _).mono ?_
          rintro e w2 ⟨rfl, rfl⟩
          rw [tn_1]
          go_wp2_with fail
          refine (name_any [46, 46] _).mono ?_
          rintro e w2 ⟨rfl, rfl⟩
          rw [tn_2]
          go_wp2_with fail
          refine (name_any [46, 46, 46] _).mono ?_
          rintro e w2 ⟨rfl, rfl⟩
          rw [tn_3]
          go_wp2
          go_ret
          exact ⟨rfl, T1.out.trans (HBW.out.mono T1.out.size)⟩
        · have q1 : decide ((1 : Int) ≤ (k : Int)) = true := by simp; omega
          have q2 : decide ((k : Int) ≤ 20) = true := by simp; omega
          have q3 : decide (1 ≤ k) = true := by simp; omega
          have q4 : decide (k ≤ 20) = true := by simp; omega
          rw [q3, q4]
          clear h
          go_wp2_with fail
          refine (name_any [46] _).mono ?_
          rintro e w2 ⟨rfl, rfl⟩
          rw [tn_1]
          go_wp2_with fail
          refine (name_any [46, 46] _).mono ?_
          rintro e w2 ⟨rfl, rfl⟩
          rw [tn_2]
          go_wp2_with fail
          refine (name_any [46, 46, 46] _).mono ?_
          rintro e w2 ⟨rfl, rfl⟩
          rw [tn_3]
          go_wp2
          go_ret
          exact ⟨rfl, T1.out.trans (HBW.out.mono T1.out.size)⟩
        · have q1 : decide ((1 : Int) ≤ (k : Int)) = true := by simp; omega
          have q2 : decide ((k : Int) ≤ 20) = false := by simp; omega
          have q3 : decide (1 ≤ k) = true := by simp; omega
          have q4 : decide (k ≤ 20) = false := by simp; omega
          rw [q3, q4]
          clear h
          go_wp2_with fail
          refine (name_any [46] _).mono ?_
          rintro e w2 ⟨rfl, rfl⟩
          rw [tn_1]
          go_wp2_with fail
          refine (name_any [46, 46] _).mono ?_
          rintro e w2 ⟨rfl, rfl⟩
          rw [tn_2]
          go_wp2_with fail
          refine (name_any [46, 46, 46] _).mono ?_
          rintro e w2 ⟨rfl, rfl⟩
          rw [tn_3]
          go_wp2
          go_ret
          exact ⟨rfl, T1.out.trans (HBW.out.mono T1.out.size)⟩
      · have d1 : decide ((97 : Int) ≤ (n : Int)) = false := by simp; omega
        have d2 : decide ((n : Int) ≤ 122) = true := by simp; omega
        have d3 : decide ((48 : Int) ≤ (n : Int)) = true := by simp; omega
        have d4 : decide ((n : Int) ≤ 57) = true := by simp; omega
        have e1 : ((n : Int) == 46) = false := by simp; omega
        have e2 : ((n : Int) == 45) = false := by simp; omega
        have e3 : ((n : Int) == 95) = false := by simp; omega
        have HK : Hid (okSign c = true) := by show _ = _; rw [HOK.out]; simp; omega
        clear h
        go_wp2_with fail
        refine (name_any [97, c] _).mono ?_
        rintro e w2 ⟨rfl, rfl⟩
        rw [HA.out, HK.out]
        go_wp2_with fail
        refine (name_any (qq k) _).mono ?_
        rintro e w2 ⟨rfl, rfl⟩
        rw [HQ.out]
        rcases hmc with h | h | h
        · have q1 : decide ((1 : Int) ≤ (k : Int)) = false := by simp; omega
          have q2 : decide ((k : Int) ≤ 20) = true := by simp; omega
          have q3 : decide (1 ≤ k) = false := by simp; omega
          have q4 : decide (k ≤ 20) = true := by simp; omega
          rw [q3, q4]
          clear h
          go_wp2_with fail
          refine (name_any [46] _).mono ?_
          rintro e w2 ⟨rfl, rfl⟩
          rw [tn_1]
          go_wp2_with fail
          refine (name_any [46, 46] _).mono ?_
          rintro e w2 ⟨rfl, rfl⟩
          rw [tn_2]
          go_wp2_with fail
          refine (name_any [46, 46, 46] _).mono ?_
          rintro e w2 ⟨rfl, rfl⟩
          rw [tn_3]
          go_wp2
          go_ret
          exact ⟨rfl, T1.out.trans (HBW.out.mono T1.out.size)⟩
        · have q1 : decide ((1 : Int) ≤ (k : Int)) = true := by simp; omega
          have q2 : decide ((k : Int) ≤ 20) = true := by simp; omega
          have q3 : decide (1 ≤ k) = true := by simp; omega
          have q4 : decide (k ≤ 20) = true := by simp; omega
          rw [q3, q4]
          clear h
          go_wp2_with fail
          refine (name_any [46] _).mono ?_
          rintro e w2 ⟨rfl, rfl⟩
          rw [tn_1]
          go_wp2_with fail
          refine (name_any [46, 46] _).mono ?_
          rintro e w2 ⟨rfl, rfl⟩
          rw [tn_2]
          go_wp2_with fail
          refine (name_any [46, 46, 46] _).mono ?_
          rintro e w2 ⟨rfl, rfl⟩
          rw [tn_3]
          go_wp2
          go_ret
          exact ⟨rfl, T1.out.trans (HBW.out.mono T1.out.size)⟩
        · have q1 : decide ((1 : Int) ≤ (k : Int)) = true := by simp; omega
          have q2 : decide ((k : Int) ≤ 20) = false := by simp; omega
          have q3 : decide (1 ≤ k) = true := by simp; omega
          have q4 : decide (k ≤ 20) = false := by simp; omega
          rw [q3, q4]
          clear h
          go_wp2_with fail
          refine (name_any [46] _).mono ?_
          rintro e w2 ⟨rfl, rfl⟩
          rw [tn_1]
          go_wp2_with fail
          refine (name_any [46, 46] _).mono ?_
          rintro e w2 ⟨rfl, rfl⟩
          rw [tn_2]
          go_wp2_with fail
          refine (name_any [46, 46, 46] _).mono ?_
          rintro e w2 ⟨rfl, rfl⟩
          rw [tn_3]
          go_wp2
          go_ret
          exact ⟨rfl, T1.out.trans (HBW.out.mono T1.out.size)⟩
      · have d1 : decide ((97 : Int) ≤ (n : Int)) = false := by simp; omega
        have d2 : decide ((n : Int) ≤ 122) = true := by simp; omega
        have d3 : decide ((48 : Int) ≤ (n : Int)) = true := by simp; omega
        have d4 : decide ((n : Int) ≤ 57) = false := by simp; omega
        have e1 : ((n : Int) == 46) = false := by simp; omega
        have e2 : ((n : Int) == 45) = false := by simp; omega
        have e3 : ((n : Int) == 95) = true := by simp; omega
        have HK : Hid (okSign c = true) := by show _ = _; rw [HOK.out]; simp; omega
        clear h
        go_wp2_with fail
        refine (name_any [97, c] _).mono ?_
        rintro e w2 ⟨rfl, rfl⟩
        rw [HA.out, HK.out]
        go_wp2_with fail
        refine (name_any (qq k) _).mono ?_
        rintro e w2 ⟨rfl, rfl⟩
        rw [HQ.out]
        rcases hmc with h | h | h
        · have q1 : decide ((1 : Int) ≤ (k : Int)) = false := by simp; omega
          have q2 : decide ((k : Int) ≤ 20) = true := by simp; omega
          have q3 : decide (1 ≤ k) = false := by simp; omega
          have q4 : decide (k ≤ 20) = true := by simp; omega
          rw [q3, q4]
          clear h
          go_wp2_with fail
          refine (name_any [46] _).mono ?_
          rintro e w2 ⟨rfl, rfl⟩
          rw [tn_1]
          go_wp2_with fail
          refine (name_any [46, 46] _).mono ?_
          rintro e w2 ⟨rfl, rfl⟩
          rw [tn_2]
          go_wp2_with fail
          refine (name_any [46, 46, 46] _).mono ?_
          rintro e w2 ⟨rfl, rfl⟩
          rw [tn_3]
          go_wp2
          go_ret
          exact ⟨rfl, T1.out.trans (HBW.out.mono T1.out.size)⟩
        · have q1 : decide ((1 : Int) ≤ (k : Int)) = true := by simp; omega
          have q2 : decide ((k : Int) ≤ 20) = true := by simp; omega
          have q3 : decide (1 ≤ k) = true := by simp; omega
          have q4 : decide (k ≤ 20) = true := by simp; omega
          rw [q3, q4]
          clear h
          go_wp2_with fail
          refine (name_any [46] _).mono ?_
          rintro e w2 ⟨rfl, rfl⟩
          rw [tn_1]
          go_wp2_with fail
          refine (name_any [46, 46] _).mono ?_
          rintro e w2 ⟨rfl, rfl⟩
          rw [tn_2]
          go_wp2_with fail
          refine (name_any [46, 46, 46] _).mono ?_
          rintro e w2 ⟨rfl, rfl⟩
          rw [tn_3]
          go_wp2
          go_ret
          exact ⟨rfl, T1.out.trans (HBW.out.mono T1.out.size)⟩
        · have q1 : decide ((1 : Int) ≤ (k : Int)) = true := by simp; omega
          have q2 : decide ((k : Int) ≤ 20) = false := by simp; omega
          have q3 : decide (1 ≤ k) = true := by simp; omega
          have q4 : decide (k ≤ 20) = false := by simp; omega
          rw [q3, q4]
          clear h
          go_wp2_with fail
          refine (name_any [46] _).mono ?_
          rintro e w2 ⟨rfl, rfl⟩
          rw [tn_1]
          go_wp2_with fail
          refine (name_any [46, 46] _).mono ?_
          rintro e w2 ⟨rfl, rfl⟩
          rw [tn_2]
          go_wp2_with fail
          refine (name_any [46, 46, 46] _).mono ?_
          rintro e w2 ⟨rfl, rfl⟩
          rw [tn_3]
          go_wp2
          go_ret
          exact ⟨rfl, T1.out.trans (HBW.out.mono T1.out.size)⟩
      · have d1 : decide ((97 : Int) ≤ (n : Int)) = false := by simp; omega
        have d2 : decide ((n : Int) ≤ 122) = true := by simp; omega
        have d3 : decide ((48 : Int) ≤ (n : Int)) = true := by simp; omega
        have d4 : decide ((n : Int) ≤ 57) = false := by simp; omega
        have e1 : ((n : Int) == 46) = false := by simp; omega
        have e2 : ((n : Int) == 45) = false := by simp; omega
        have e3 : ((n : Int) == 95) = false := by simp; omega
        have HK : Hid (okSign c = false) := by show _ = _; rw [HOK.out]; simp; omega
        clear h
        go_wp2_with fail
        refine (name_any [97, c] _).mono ?_
        rintro e w2 ⟨rfl, rfl⟩
        rw [HA.out, HK.out]
        go_wp2_with fail
        refine (name_any (qq k) _).mono ?_
        rintro e w2 ⟨rfl, rfl⟩
        rw [HQ.out]
        rcases hmc with h | h | h
        · have q1 : decide ((1 : Int) ≤ (k : Int)) = false := by simp; omega
          have q2 : decide ((k : Int) ≤ 20) = true := by simp; omega
          have q3 : decide (1 ≤ k) = false := by simp; omega
          have q4 : decide (k ≤ 20) = true := by simp; omega
          rw [q3, q4]
          clear h
          go_wp2_with fail
          refine (name_any [46] _).mono ?_
          rintro e w2 ⟨rfl, rfl⟩
          rw [tn_1]
          go_wp2_with fail
          refine (name_any [46, 46] _).mono ?_
          rintro e w2 ⟨rfl, rfl⟩
          rw [tn_2]
          go_wp2_with fail
          refine (name_any [46, 46, 46] _).mono ?_
          rintro e w2 ⟨rfl, rfl⟩
          rw [tn_3]
          go_wp2
          go_ret
          exact ⟨rfl, T1.out.trans (HBW.out.mono T1.out.size)⟩
        · have q1 : decide ((1 : Int) ≤ (k : Int)) = true := by simp; omega
          have q2 : decide ((k : Int) ≤ 20) = true := by simp; omega
          have q3 : decide (1 ≤ k) = true := by simp; omega
          have q4 : decide (k ≤ 20) = true := by simp; omega
          rw [q3, q4]
          clear h
          go_wp2_with fail
          refine (name_any [46] _).mono ?_
          rintro e w2 ⟨rfl, rfl⟩
          rw [tn_1]
          go_wp2_with fail
          refine (name_any [46, 46] _).mono ?_
          rintro e w2 ⟨rfl, rfl⟩
          rw [tn_2]
          go_wp2_with fail
          refine (name_any [46, 46, 46] _).mono ?_
          rintro e w2 ⟨rfl, rfl⟩
          rw [tn_3]
          go_wp2
          go_ret
          exact ⟨rfl, T1.out.trans (HBW.out.mono T1.out.size)⟩
        · have q1 : decide ((1 : Int) ≤ (k : Int)) = true := by simp; omega
          have q2 : decide ((k : Int) ≤ 20) = false := by simp; omega
          have q3 : decide (1 ≤ k) = true := by simp; omega
          have q4 : decide (k ≤ 20) = false := by simp; omega
          rw [q3, q4]
          clear h
          go_wp2_with fail
          refine (name_any [46] _).mono ?_
          rintro e w2 ⟨rfl, rfl⟩
          rw [tn_1]
          go_wp2_with fail
          refine (name_any [46, 46] _).mono ?_
          rintro e w2 ⟨rfl, rfl⟩
          rw [tn_2]
          go_wp2_with fail
          refine (name_any [46, 46, 46] _).mono ?_
          rintro e w2 ⟨rfl, rfl⟩
          rw [tn_3]
          go_wp2
          go_ret
          exact ⟨rfl, T1.out.trans (HBW.out.mono T1.out.size)⟩
      · have d1 : decide ((97 : Int) ≤ (n : Int)) = true := by simp; omega
        have d2 : decide ((n : Int) ≤ 122) = true := by simp; omega
        have d3 : decide ((48 : Int) ≤ (n : Int)) = true := by simp; omega
        have d4 : decide ((n : Int) ≤ 57) = false := by simp; omega
        have e1 : ((n : Int) == 46) = false := by simp; omega
        have e2 : ((n : Int) == 45) = false := by simp; omega
        have e3 : ((n : Int) == 95) = false := by simp; omega
        have HK : Hid (okSign c = true) := by show _ = _; rw [HOK.out]; simp; omega
        clear h
        go_wp2_with fail
        refine (name_any [97, c] _).mono ?_
        rintro e w2 ⟨rfl, rfl⟩
        rw [HA.out, HK.out]
        go_wp2_with fail
        refine (name_any (qq k) _).mono ?_
        rintro e w2 ⟨rfl, rfl⟩
        rw [HQ.out]
        rcases hmc with h | h | h
        · have q1 : decide ((1 : Int) ≤ (k : Int)) = false := by simp; omega
          have q2 : decide ((k : Int) ≤ 20) = true := by simp; omega
          have q3 : decide (1 ≤ k) = false := by simp; omega
          have q4 : decide (k ≤ 20) = true := by simp; omega
          rw [q3, q4]
          clear h
          go_wp2_with fail
          refine (name_any [46] _).mono ?_
          rintro e w2 ⟨rfl, rfl⟩
          rw [tn_1]
          go_wp2_with fail
          refine (name_any [46, 46] _).mono ?_
          rintro e w2 ⟨rfl, rfl⟩
          rw [tn_2]
          go_wp2_with fail
          refine (name_any [46, 46, 46] _).mono ?_
          rintro e w2 ⟨rfl, rfl⟩
          rw [tn_3]
          go_wp2
          go_ret
          exact ⟨rfl, T1.out.trans (HBW.out.mono T1.out.size)⟩
        · have q1 : decide ((1 : Int) ≤ (k : Int)) = true := by simp; omega
          have q2 : decide ((k : Int) ≤ 20) = true := by simp; omega
          have q3 : decide (1 ≤ k) = true := by simp; omega
          have q4 : decide (k ≤ 20) = true := by simp; omega
          rw [q3, q4]
          clear h
          go_wp2_with fail
          refine (name_any [46] _).mono ?_
          rintro e w2 ⟨rfl, rfl⟩
          rw [tn_1]
          go_wp2_with fail
          refine (name_any [46, 46] _).mono ?_
          rintro e w2 ⟨rfl, rfl⟩
          rw [tn_2]
          go_wp2_with fail
          refine (name_any [46, 46, 46] _).mono ?_
          rintro e w2 ⟨rfl, rfl⟩
          rw [tn_3]
          go_wp2
          go_ret
          exact ⟨rfl, T1.out.trans (HBW.out.mono T1.out.size)⟩
        · have q1 : decide ((1 : Int) ≤ (k : Int)) = true := by simp; omega
          have q2 : decide ((k : Int) ≤ 20) = false := by simp; omega
          have q3 : decide (1 ≤ k) = true := by simp; omega
          have q4 : decide (k ≤ 20) = false := by simp; omega
          rw [q3, q4]
          clear h
          go_wp2_with fail
          refine (name_any [46] _).mono ?_
          rintro e w2 ⟨rfl, rfl⟩
          rw [tn_1]
          go_wp2_with fail
          refine (name_any [46, 46] _).mono ?_
          rintro e w2 ⟨rfl, rfl⟩
          rw [tn_2]
          go_wp2_with fail
          refine (name_any [46, 46, 46] _).mono ?_
          rintro e w2 ⟨rfl, rfl⟩
          rw [tn_3]
          go_wp2
          go_ret
          exact ⟨rfl, T1.out.trans (HBW.out.mono T1.out.size)⟩
      · have d1 : decide ((97 : Int) ≤ (n : Int)) = true := by simp; omega
        have d2 : decide ((n : Int) ≤ 122) = false := by simp; omega
        have d3 : decide ((48 : Int) ≤ (n : Int)) = true := by simp; omega
        have d4 : decide ((n : Int) ≤ 57) = false := by simp; omega
        have e1 : ((n : Int) == 46) = false := by simp; omega
        have e2 : ((n : Int) == 45) = false := by simp; omega
        have e3 : ((n : Int) == 95) = false := by simp; omega
        have HK : Hid (okSign c = false) := by show _ = _; rw [HOK.out]; simp; omega
        clear h
        go_wp2_with fail
        refine (name_any [97, c] _).mono ?_
        rintro e w2 ⟨rfl, rfl⟩
        rw [HA.out, HK.out]
        go_wp2_with fail
        refine (name_any (qq k) _).mono ?_
        rintro e w2 ⟨rfl, rfl⟩
        rw [HQ.out]
        rcases hmc with h | h | h
        · have q1 : decide ((1 : Int) ≤ (k : Int)) = false := by simp; omega
          have q2 : decide ((k : Int) ≤ 20) = true := by simp; omega
          have q3 : decide (1 ≤ k) = false := by simp; omega
          have q4 : decide (k ≤ 20) = true := by simp; omega
          rw [q3, q4]
          clear h
          go_wp2_with fail
          refine (name_any [46] _).mono ?_
          rintro e w2 ⟨rfl, rfl⟩
          rw [tn_1]
          go_wp2_with fail
          refine (name_any [46, 46] _).mono ?_
          rintro e w2 ⟨rfl, rfl⟩
          rw [tn_2]
          go_wp2_with fail
          refine (name_any [46, 46, 46] _).mono ?_
          rintro e w2 ⟨rfl, rfl⟩
          rw [tn_3]
          go_wp2
          go_ret
          exact ⟨rfl, T1.out.trans (HBW.out.mono T1.out.size)⟩
        · have q1 : decide ((1 : Int) ≤ (k : Int)) = true := by simp; omega
          have q2 : decide ((k : Int) ≤ 20) = true := by simp; omega
          have q3 : decide (1 ≤ k) = true := by simp; omega
          have q4 : decide (k ≤ 20) = true := by simp; omega
          rw [q3, q4]
          clear h
          go_wp2_with fail
          refine (name_any [46] _).mono ?_
          rintro e w2 ⟨rfl, rfl⟩
          rw [tn_1]
          go_wp2_with fail
          refine (name_any [46, 46] _).mono ?_
          rintro e w2 ⟨rfl, rfl⟩
          rw [tn_2]
          go_wp2_with fail
          refine (name_any [46, 46, 46] _).mono ?_
          rintro e w2 ⟨rfl, rfl⟩
          rw [tn_3]
          go_wp2
          go_ret
          exact ⟨rfl, T1.out.trans (HBW.out.mono T1.out.size)⟩
        · have q1 : decide ((1 : Int) ≤ (k : Int)) = true := by simp; omega
          have q2 : decide ((k : Int) ≤ 20) = false := by simp; omega
          have q3 : decide (1 ≤ k) = true := by simp; omega
          have q4 : decide (k ≤ 20) = false := by simp; omega
          rw [q3, q4]
          clear h
          go_wp2_with fail
          refine (name_any [46] _).mono ?_
          rintro e w2 ⟨rfl, rfl⟩
          rw [tn_1]
          go_wp2_with fail
          refine (name_any [46, 46] _).mono ?_
          rintro e w2 ⟨rfl, rfl⟩
          rw [tn_2]
          go_wp2_with fail
          refine (name_any [46, 46, 46] _).mono ?_
          rintro e w2 ⟨rfl, rfl⟩
          rw [tn_3]
          go_wp2
          go_ret
          exact ⟨rfl, T1.out.trans (HBW.out.mono T1.out.size)⟩
end Go.Proofs.YtdmafodppcbglaaGreatDoor

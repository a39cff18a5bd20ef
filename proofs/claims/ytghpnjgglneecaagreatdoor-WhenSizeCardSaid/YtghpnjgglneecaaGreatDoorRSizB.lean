/-
  The reference's Size, walked.
-/
import Derived.Test.YtghpnjgglneecaaGreatDoorRSiz
import Derived.Test.YtghpnjgglneecaaGreatDoorSizM
namespace Go.Proofs.YtghpnjgglneecaaGreatDoor
open Go.RowKit

theorem last_at (pre : List UInt8) (c : UInt8) (ss : List UInt8) (h : ss = pre ++ [c]) (w : World) : (Instr.index 9 (.string ⟨ss.toArray⟩) (.int .i64 ((ss.length : Int) - 1))).run Tryz.prog w = .ok (.int .u8 (c.toNat : Int)) w := by
  subst h
  have hl : (pre ++ [c]).length = pre.length + 1 := by simp
  have h1 := str_at (pre ++ [c]) pre.length (by omega) w
  rw [show (((pre ++ [c]).length : Nat) : Int) - 1 = (pre.length : Int) by omega, h1]
  have e : (pre ++ [c]).getD pre.length 0 = c := by simp
  rw [e]
theorem last_cut (pre : List UInt8) (c : UInt8) (ss : List UInt8) (h : ss = pre ++ [c]) : (ByteArray.mk ss.toArray).extract 0 (ss.length - 1) = ⟨pre.toArray⟩ := by
  subst h
  rw [ByteArray.extract_mk]
  simp
def scF : Nat → Nat
  | 0 => 4607182418800017408
  | 1 => 4621819117588971520
  | 2 => 4636737291354636288
  | _ => 4652007308841189376
theorem scF_mul (j : Nat) (h : j < 3) : floatBits .mul .f64 (scF j) 4621819117588971520 = some (scF (j + 1)) := by
  have hj : j = 0 ∨ j = 1 ∨ j = 2 := by omega
  rcases hj with rfl | rfl | rfl <;> decide +kernel
theorem scF_int (k : Nat) (h : k ≤ 3) : floatOfInt .f64 ((10 ^ k : Nat) : Int) = scF k := by
  have hk : k = 0 ∨ k = 1 ∨ k = 2 ∨ k = 3 := by omega
  rcases hk with rfl | rfl | rfl | rfl <;> decide +kernel
theorem digs_bad (l : List UInt8) (k : Nat) (h : k < l.length) (hd : isDig (l.getD k 0) = false) : digs l 3 = false := by
  have : l.all isDig = false := by
    rw [List.all_eq_false]
    refine ⟨l[k], List.getElem_mem _, ?_⟩
    rw [List.getD_eq_getElem?_getD, List.getElem?_eq_getElem h, Option.getD_some] at hd
    simp [hd]
  simp [digs, this]
theorem ex_to' (l : List UInt8) (n : Nat) : (ByteArray.mk l.toArray).extract 0 n = ⟨(l.take n).toArray⟩ := by
  rw [ByteArray.extract_mk]
  simp
theorem ex_from (l : List UInt8) (n : Nat) : (ByteArray.mk l.toArray).extract n l.length = ⟨(l.drop n).toArray⟩ := by
  rw [ByteArray.extract_mk]
  simp
  exact List.take_of_length_le (by rw [List.length_drop]; omega)
set_option maxRecDepth 100000 in
set_option maxHeartbeats 4000000 in
theorem rsize_any (s : List UInt8) (w : World) (hl : s.length ≤ 1048576) : Calls Tryz.prog 20 #[.string ⟨s.toArray⟩] w fun e w' => e = .returned (.tuple #[.float .f64 (sizeV s).1, .bool (sizeV s).2]) ∧ ∃ q, w' = w.drewN q := by
  obtain ⟨sv, hsv⟩ : ∃ sv, sv = sizeV s := ⟨_, rfl⟩
  rw [← hsv]
  obtain ⟨nm, hnm⟩ : ∃ nm, nm = (unitOf s).1 := ⟨_, rfl⟩
  obtain ⟨u, hu⟩ : ∃ u, u = (unitOf s).2 := ⟨_, rfl⟩
  obtain ⟨uv, huv⟩ : ∃ uv, uv = u := ⟨_, rfl⟩
  have HSV : Hid (sv = sizeC (Lib.cut nm [46]) uv) := by show _ = _; rw [hsv, hnm, huv, hu]; rfl
  have HUI := Lib.hid (unit_is s)
  rw [← hu, ← huv] at HUI
  have HUV := Lib.hid huv
  clear hsv huv
  have hnl := unit_len s
  rw [← hnm] at hnl
  have hcase : (s = [] ∧ nm = [] ∧ u = 4607182418800017408) ∨ (∃ pre c, s = pre ++ [c] ∧ c ≠ 107 ∧ c ≠ 109 ∧ nm = s ∧ u = 4607182418800017408) ∨ (∃ pre, s = pre ++ [107] ∧ nm = pre ∧ u = 4652218415073722368) ∨ (∃ pre, s = pre ++ [109] ∧ nm = pre ∧ u = 4697254411347427328) := by
    rcases List.eq_nil_or_concat s with rfl | ⟨pre, c, hs⟩
    · exact .inl ⟨rfl, hnm, hu⟩
    · rw [List.concat_eq_append] at hs
      subst hs
      by_cases h1 : c = 107
      · subst h1
        rw [unit_k] at hnm hu
        exact .inr (.inr (.inl ⟨pre, rfl, hnm, hu⟩))
      · by_cases h2 : c = 109
        · subst h2
          rw [unit_m] at hnm hu
          exact .inr (.inr (.inr ⟨pre, rfl, hnm, hu⟩))
        · rw [unit_other pre c h1 h2] at hnm hu
          exact .inr (.inl ⟨pre, c, rfl, h1, h2, hnm, hu⟩)
  clear hnm hu
  rcases hcase with ⟨hs0, hn0, rfl⟩ | ⟨pre, c, hs, h1, h2, hn, rfl⟩ | ⟨pre, hs, rfl, rfl⟩ | ⟨pre, hs, rfl, rfl⟩
  case' inr.inl =>
    have hne : s.isEmpty = false := by rw [hs]; simp
    have hi := last_at pre c s hs
    have e1 : ((c.toNat : Int) == 107) = false := beq_eq_false_iff_ne.2 (fun e => h1 (UInt8.toNat_inj.1 (show c.toNat = 107 by omega)))
    have e2 : ((c.toNat : Int) == 109) = false := beq_eq_false_iff_ne.2 (fun e => h2 (UInt8.toNat_inj.1 (show c.toNat = 109 by omega)))
    have hpos : 0 < s.length := by rw [hs]; simp
    rw [← hn] at *
    clear hs h1 h2 hn
  case' inr.inr.inl =>
    have hne : s.isEmpty = false := by rw [hs]; simp
    have hi := last_at nm 107 s hs
    have hex := last_cut nm 107 s hs
    have hpos : 0 < s.length := by rw [hs]; simp
    clear hs
  case' inr.inr.inr =>
    have hne : s.isEmpty = false := by rw [hs]; simp
    have hi := last_at nm 109 s hs
    have hex := last_cut nm 109 s hs
    have hpos : 0 < s.length := by rw [hs]; simp
    clear hs
  case' inl =>
    have hne : nm.isEmpty = true := by rw [hn0]; rfl
    obtain rfl : nm = s := hn0.trans hs0.symm
    clear hs0 hn0
  all_goals
    go_enter Tryz.func20, Tryz.ntmps20
    go_wp2_with fail
    go_loop [5] (fun i => ∃ k : Nat, k ≤ nm.length ∧ i = .int .i64 (k : Int) ∧ ∀ j, j < k → nm.getD j 0 ≠ 46) (fun i => nm.length - (intOf i).toNat)
    case atStart => exact ⟨0, Nat.zero_le _, rfl, fun j hj => by omega⟩
    case round =>
      obtain ⟨k, hk, rfl, hall⟩ := hrel
      have HALL := Lib.hid hall
      clear hall
      have HEX := Lib.hid (ex_to' nm k)
      have HNB := Lib.hid fun W => rnumber_any (nm.take k) W (by rw [List.length_take]; omega)
      by_cases hlt : k < nm.length
      · have hidx := str_at nm k hlt
        by_cases h46 : nm.getD k 0 = 46
        · have HC := Lib.hid (cut_at nm k hlt HALL.out h46)
          have e46 : (((nm.getD k 0).toNat : Int) != 46) = false := by rw [h46]; rfl
          have hex2 := ex_from nm (k + 1)
          have hfl : (nm.drop (k + 1)).length ≤ nm.length := by rw [List.length_drop]; omega
          generalize nm.drop (k + 1) = fr at *
          generalize nm.getD k 0 = c at *
          generalize nm.take k = wh at *
          clear h46 HALL
          go_wp2_with fail
          rw [HEX.out]
          (with_reducible refine (HNB.out _).mono ?_)
          rintro e w1 ⟨⟨n, b, hn9, hnv, rfl⟩, q, rfl⟩
          obtain ⟨hb, hnn⟩ := hnv
          cases b with
          | false =>
            have HR : Hid (sv = (0, false)) := by show _ = _; rw [HSV.out, HC.out]; unfold sizeC; dsimp only; rw [← hb]; rfl
            clear hb hnn
            go_wp2
            go_ret2
            exact ⟨by rw [HR.out]; rfl, q, rfl⟩
          | true =>
            have HN := Lib.hid (hnn rfl)
            have HWT := Lib.hid hb.symm
            clear hb hnn
            have HSC : Hid (sv = if digs fr 3 then (valB (num (num 0 wh) fr) fr.length uv, true) else (0, false)) := by
              show _ = _
              rw [HSV.out, HC.out]
              unfold sizeC
              dsimp only
              rw [HWT.out]
              rfl
            rcases Nat.eq_zero_or_pos fr.length with hf0 | hf0
            · have HR : Hid (sv = (0, false)) := by
                show _ = _
                rw [HSC.out]
                obtain rfl : fr = [] := List.eq_nil_of_length_eq_zero hf0
                rfl
              have f1 : decide ((fr.length : Int) < 1) = true := by simp; omega
              go_wp2
              go_ret2
              exact ⟨by rw [HR.out]; rfl, q, rfl⟩
            · have f1 : decide ((fr.length : Int) < 1) = false := by simp; omega
              by_cases hf3 : 3 < fr.length
              · have HR : Hid (sv = (0, false)) := by
                  show _ = _
                  rw [HSC.out]
                  unfold digs
                  rw [decide_eq_false (show ¬ fr.length ≤ 3 by omega)]
                  simp
                have f2 : decide ((3 : Int) < (fr.length : Int)) = true := by simp; omega
                go_wp2
                go_ret2
                exact ⟨by rw [HR.out]; rfl, q, rfl⟩
              · have f2 : decide ((3 : Int) < (fr.length : Int)) = false := by simp; omega
                go_wp2_with fail
                go_loop [6, 8, 10] (fun z d i => ∃ j m : Nat, j ≤ fr.length ∧ m < 1000000000 * 10 ^ j ∧ i = .int .i64 (j : Int) ∧ z = .int .i64 (m : Int) ∧ d = .float .f64 (scF j) ∧ m = num n (fr.take j) ∧ (fr.take j).all isDig = true) (fun _ _ i => fr.length - (intOf i).toNat)
                case atStart => exact ⟨0, n, Nat.zero_le _, by simpa using hn9, rfl, rfl, rfl, rfl, rfl⟩
                case round =>
                  obtain ⟨j, m, hj, hm, rfl, rfl, rfl, hnum, hall⟩ := hrel
                  have HNUM := Lib.hid hnum
                  have HALL := Lib.hid hall
                  have HM := Lib.hid hm
                  have hm12 : m < 1000000000000 := Nat.lt_of_lt_of_le hm (by have := Nat.pow_le_pow_right (n := 10) (by decide) (show j ≤ 3 by omega); omega)
                  clear hnum hall hm
                  by_cases hjl : j < fr.length
                  · have hidx := str_at fr j hjl
                    have hat := all_take fr j hjl
                    cases hd : isDig (fr.getD j 0) with
                    | true =>
                      obtain ⟨d, hd9, hde, hst⟩ := num_getD fr j hjl hd
                      have HST := Lib.hid (hst n)
                      have HAT : Hid ((fr.take (j + 1)).all isDig = true) := by show _ = _; rw [hat, HALL.out, hd]; rfl
                      have hmul := fun W => run_float_arith (P := Tryz.prog) W .mul 37 .f64 _ _ _ (scF_mul j (by omega))
                      rw [hde] at hidx
                      have k1 : decide (((d + 48 : Nat) : Int) < 48) = false := by simp; omega
                      have k2 : decide ((57 : Int) < ((d + 48 : Nat) : Int)) = false := by simp; omega
                      have hdi : ((d + 48 : Nat) : Int) = (d : Int) + 48 := by omega
                      rw [hdi] at hidx k1 k2
                      have HPK : Hid (m * 10 + d < 1000000000 * 10 ^ (j + 1)) := by
                        show _ < _
                        have := HM.out
                        rw [Nat.pow_succ]
                        omega
                      clear hat hd hst hde hdi
                      go_wp2
                      go_round
                      case rel => exact ⟨j + 1, m * 10 + d, by omega, HPK.out, by go_num, by go_num, rfl, by rw [HST.out, ← HNUM.out], HAT.out⟩
                      case measure => simp [intOf]; omega
                    | false =>
                      have HR : Hid (sv = (0, false)) := by show _ = _; rw [HSC.out, digs_bad fr j hjl hd]; rfl
                      simp only [isDig, Bool.and_eq_false_iff, decide_eq_false_iff_not] at hd
                      have HD := Lib.hid hd
                      clear hat hd
                      generalize fr.getD j 0 = cc at *
                      by_cases h1 : cc.toNat < 48
                      · have k1 : decide ((cc.toNat : Int) < 48) = true := by simp; omega
                        go_wp2
                        go_ret2
                        exact ⟨by rw [HR.out]; rfl, q, rfl⟩
                      · have k1 : decide ((cc.toNat : Int) < 48) = false := by simp; omega
                        have k2 : decide ((57 : Int) < (cc.toNat : Int)) = true := by have := HD.out; simp; omega
                        go_wp2
                        go_ret2
                        exact ⟨by rw [HR.out]; rfl, q, rfl⟩
                  · obtain rfl : j = fr.length := by omega
                    have hfall : fr.all isDig = true := by have := HALL.out; rwa [List.take_of_length_le (Nat.le_refl _)] at this
                    have hmn : m = num (num 0 wh) fr := by rw [HNUM.out, List.take_of_length_le (Nat.le_refl _), HN.out]
                    have HR : Hid (sv = (valB m fr.length uv, true)) := by
                      show _ = _
                      have hdg : digs fr 3 = true := by
                        have : fr.isEmpty = false := by cases fr with | nil => simp at hf0 | cons => rfl
                        unfold digs
                        rw [decide_eq_true (show fr.length ≤ 3 by omega), hfall, this]
                        rfl
                      rw [HSC.out, hdg, hmn]
                      rfl
                    obtain ⟨qq, hqq, hxx⟩ := val_some m fr.length uv (by omega) HUI.out
                    rw [scF_int fr.length (by omega)] at hqq
                    rw [HUV.out] at hxx HR
                    have hquo := fun W => run_float_arith (P := Tryz.prog) W .quo 37 .f64 _ _ _ hqq
                    have hmul := fun W => run_float_arith (P := Tryz.prog) W .mul 37 .f64 _ _ _ hxx
                    clear hfall hmn hqq hxx
                    go_wp2
                    go_ret2
                    exact ⟨by rw [HR.out]; rfl, q, rfl⟩
        · have e46 : (((nm.getD k 0).toNat : Int) != 46) = true := by
            rw [bne_iff_ne]
            exact fun e => h46 (UInt8.toNat_inj.1 (show (nm.getD k 0).toNat = 46 by omega))
          have HAL2 : Hid (∀ j, j < k + 1 → nm.getD j 0 ≠ 46) := fun j hj => by
            rcases Nat.lt_or_ge j k with h | h
            · exact HALL.out j h
            · obtain rfl : j = k := by omega
              exact h46
          clear h46 HALL
          generalize nm.getD k 0 = c at *
          go_wp2
          go_round
          case rel => exact ⟨k + 1, by omega, by go_num, HAL2.out⟩
          case measure => simp [intOf]; omega
      · obtain rfl : k = nm.length := by omega
        have HC := Lib.hid (cut_none nm HALL.out)
        rw [List.take_of_length_le (Nat.le_refl _)] at HEX HNB
        clear HALL
        go_wp2_with fail
        rw [HEX.out]
        (with_reducible refine (HNB.out _).mono ?_)
        rintro e w1 ⟨⟨n, b, hn9, hnv, rfl⟩, q, rfl⟩
        obtain ⟨hb, hnn⟩ := hnv
        cases b with
        | false =>
          have HR : Hid (sv = (0, false)) := by show _ = _; rw [HSV.out, HC.out]; unfold sizeC; dsimp only; rw [← hb]; rfl
          clear hb hnn
          go_wp2
          go_ret2
          exact ⟨by rw [HR.out]; rfl, q, rfl⟩
        | true =>
          have HR : Hid (sv = (valB n 0 uv, true)) := by
            show _ = _
            rw [HSV.out, HC.out]
            unfold sizeC
            dsimp only
            rw [← hb, hnn rfl]
            rfl
          obtain ⟨qq, hqq, hxx⟩ := val_some n 0 uv (by decide) HUI.out
          rw [scF_int 0 (by decide), show scF 0 = 4607182418800017408 from rfl] at hqq
          rw [HUV.out] at hxx HR
          have hquo := fun W => run_float_arith (P := Tryz.prog) W .quo 37 .f64 _ _ _ hqq
          have hmul := fun W => run_float_arith (P := Tryz.prog) W .mul 37 .f64 _ _ _ hxx
          clear hb hnn hqq hxx
          go_wp2
          go_ret2
          exact ⟨by rw [HR.out]; rfl, q, rfl⟩
end Go.Proofs.YtghpnjgglneecaaGreatDoor

/-
  when.Size, walked.
-/
import Derived.Test.YtdjhkaofhdcalaaGreatDoorWhenB
import Derived.Laws.FloatArith
namespace Go.Proofs.YtdjhkaofhdcalaaGreatDoor
open Go.RowKit

theorem Bytes.cellAt {w : World} {g o n c k : Nat} {l : List UInt8} (h : Bytes w (.slice (some ⟨g, o, none⟩) n c) l) (hk : k < l.length) : w.cell? ⟨g, o + k, none⟩ = some (Y (l.getD k 0)) := by
  obtain ⟨A, c', he, _, _, hc⟩ := h
  obtain ⟨g', o', rfl, hcell⟩ := hc (by omega)
  injection he with h1 h2 h3
  injection h1 with h1
  injection h1 with h1 h4
  subst h1 h4
  exact hcell k hk
theorem num_take (l : List UInt8) (k : Nat) (hk : k < l.length) (hd : l.all isDig = true) : ∃ d : Nat, d ≤ 9 ∧ (l.getD k 0).toNat = d + 48 ∧ ∀ n, num n (l.take (k + 1)) = num n (l.take k) * 10 + d := by
  have hmem : isDig (l.getD k 0) = true := by
    have h := List.all_eq_true.1 hd (l.getD k 0) (by simp [List.getElem?_eq_getElem hk])
    exact h
  simp only [isDig, Bool.and_eq_true, decide_eq_true_eq] at hmem
  refine ⟨(l.getD k 0).toNat - 48, by omega, by omega, fun n => ?_⟩
  rw [List.take_succ_eq_append_getElem hk, num_snoc]
  simp [List.getElem?_eq_getElem hk]
theorem num_take_lt (n : Nat) (l : List UInt8) (k : Nat) (hd : l.all isDig = true) : num n (l.take k) < (n + 1) * 10 ^ l.length := by
  have h1 := num_lt n (l.take k) (by
    rw [List.all_eq_true] at hd ⊢
    exact fun x hx => hd x (List.mem_of_mem_take hx))
  have h2 : 10 ^ (l.take k).length ≤ 10 ^ l.length := Nat.pow_le_pow_right (by decide) (by rw [List.length_take]; omega)
  exact Nat.lt_of_lt_of_le h1 (Nat.mul_le_mul_left _ h2)
set_option maxRecDepth 100000 in
set_option maxHeartbeats 2000000 in
theorem size_good (s nm wh fr : List UInt8) (u : Nat) (p : Bool) (w : World) (hl : s.length < 1099511627) (hM : Mx w) (hU : unitOf s = (nm, u)) (hC : Lib.cut nm [46] = (wh, fr, p)) (hn : nm.length ≤ s.length) (hw : whole wh = true) (hf : fr.all isDig = true) (hf3 : fr.length ≤ 3) (hp : p = true → digs fr 3 = true) (q x : Nat) (hq : floatBits .quo .f64 (floatOfInt .f64 ((num (num 0 wh) fr : Nat) : Int)) (floatOfInt .f64 ((10 ^ fr.length : Nat) : Int)) = some q) (hx : floatBits .mul .f64 q u = some x) :
    Calls Tryz.prog 26 #[.string ⟨s.toArray⟩] w fun e w' => e = .returned (.tuple #[.float .f64 x, .bool true]) ∧ Below w.heap.size w w' := by
  have hu := unit_any s w (by omega)
  rw [hU] at hu
  have HU := Lib.hid hu
  have hc := cut_any nm w (by omega) hM
  rw [hC] at hc
  have HC := Lib.hid hc
  have hwh := fun W => whole_any wh W
  rw [hw] at hwh
  have HWH := Lib.hid hwh
  have hdg : digs wh 6 = true := by
    unfold whole at hw
    rw [Bool.and_eq_true] at hw
    exact hw.1
  have hwl : wh.length ≤ 6 ∧ wh.all isDig = true := by
    unfold digs at hdg
    simp only [Bool.and_eq_true, decide_eq_true_eq] at hdg
    exact ⟨hdg.1.2, hdg.2⟩
  have hfr := fun W => digs_any fr 3 W (by decide)
  have HFR := Lib.hid hfr
  obtain ⟨hwl, hwd⟩ := hwl
  have HWD := Lib.hid hwd
  have HFD := Lib.hid hf
  have HP := Lib.hid hp
  have hq' := fun w => run_float_arith (P := Tryz.prog) w .quo 43 .f64 _ _ _ hq
  have hx' := fun w => run_float_arith (P := Tryz.prog) w .mul 43 .f64 _ _ _ hx
  have HQ := Lib.hid hq'
  have HX := Lib.hid hx'
  clear hq hx hq' hx'
  clear hU hC hM hu hc hwh hw hdg hfr hwd hf hp
  obtain ⟨fd, hfd⟩ : ∃ fd, fd = digs fr 3 := ⟨_, rfl⟩
  rw [← hfd] at HP HFR
  have hpd : p = false ∨ p = true ∧ fd = true := by
    cases p
    · exact .inl rfl
    · exact .inr ⟨rfl, HP.out rfl⟩
  clear HP hfd
  rcases hpd with rfl | ⟨rfl, rfl⟩
  all_goals
    go_enter Tryz.func26, Tryz.ntmps26
    go_wp2_with (first
      | (go_at_call 58; refine HU.out.mono ?_; rintro e w' ⟨rfl, rfl⟩)
      | (go_at_call 59; refine HC.out.mono ?_; rintro e w' ⟨rfl, n, rfl⟩)
      | (go_at_call 60; refine (HWH.out _).mono ?_; rintro e w' ⟨rfl, rfl⟩)
      | (go_at_call 61; refine (HFR.out _).mono ?_; rintro e w' ⟨rfl, rfl⟩)
      | (refine wpList_of_string rfl 9 39 5 (.tmp 37) rfl _ wh rfl rfl Tryz.underlying9 Tryz.underlying39 Tryz.underlying5 (by unfold maxLen; omega) ?_; intro w4 c hby hfz hB4 hs4; have HBY := Lib.hid hby; have HB4 := Lib.hid (show Below w.heap.size w w4 from (be_drewN (Below.refl _ _) n).trans hB4); clear hby hfz hB4 hs4))
    have hmw : ∀ k, num 0 (wh.take k) < 1000000 := fun k => Nat.lt_of_lt_of_le (num_take_lt 0 wh k HWD.out) (by
      have := Nat.pow_le_pow_right (n := 10) (by decide) hwl
      omega)
    go_loopw [9, 12, 40] (fun m _ i wr => ∃ k : Nat, k ≤ wh.length ∧ i = .int .i64 (k : Int) ∧ m = .int .i64 ((num 0 (wh.take k) : Nat) : Int) ∧ wr = w4) (fun _ _ i _ => wh.length - (intOf i).toNat)
    case atStart => exact ⟨0, by omega, rfl, rfl, rfl⟩
    case round =>
      obtain ⟨k, hk, rfl, rfl, rfl⟩ := hrel
      by_cases hlt : k < wh.length
      · have hcell := HBY.out.cellAt hlt
        obtain ⟨d, hd9, hdc, hdn⟩ := num_take wh k hlt HWD.out
        have hm := hmw k
        have HN := Lib.hid (hdn 0)
        unfold Y at hcell
        rw [hdc, Nat.zero_add] at hcell
        have hcell : wr.cell? ⟨w.heap.size, k, none⟩ = some (.int .u8 ((d + 48 : Nat) : Int)) := hcell
        generalize num 0 (wh.take k) = m at *
        clear hdn hdc
        go_wp2
        go_roundw
        case rel => exact ⟨k + 1, by omega, by go_num, by rw [HN.out]; go_num, trivial⟩
        case measure => simp [intOf]; omega
      · have HKW : Hid (k = wh.length) := by show _ = _; omega
        rw [show num 0 wh = num 0 (wh.take k) by rw [List.take_of_length_le (by omega)]] at HQ
        have hmf : ∀ j, num (num 0 (wh.take k)) (fr.take j) < 1000000000 := fun j => Nat.lt_of_lt_of_le (num_take_lt _ fr j HFD.out) (by
          have h1 := Nat.pow_le_pow_right (n := 10) (by decide) hf3
          have h2 := hmw k
          calc _ ≤ 1000000 * 10 ^ 3 := Nat.mul_le_mul (by omega) h1
            _ = _ := by decide)
        have hm0 := hmw k
        generalize num 0 (wh.take k) = m0 at *
        go_wp2_with (refine wpList_of_string rfl 9 39 5 (.tmp 51) rfl _ fr rfl rfl Tryz.underlying9 Tryz.underlying39 Tryz.underlying5 (by unfold maxLen; omega) ?_; intro w5 c5 hby hfz hB5 hs5; have HBY5 := Lib.hid hby; have HB5 := Lib.hid (HB4.out.trans (hB5.mono HB4.out.size)); clear hby hfz hB5 hs5)
        go_loopw [9, 10, 14, 54] (fun m sc _ i wr' => ∃ k : Nat, k ≤ fr.length ∧ i = .int .i64 (k : Int) ∧ m = .int .i64 ((num m0 (fr.take k) : Nat) : Int) ∧ sc = .int .i64 ((10 ^ k : Nat) : Int) ∧ wr' = w5) (fun _ _ _ i _ => fr.length - (intOf i).toNat)
        case atStart => exact ⟨0, by omega, rfl, rfl, rfl, rfl⟩
        case round =>
          obtain ⟨k2, hk2, rfl, rfl, rfl, rfl⟩ := hrel
          by_cases hlt2 : k2 < fr.length
          · have hcell := HBY5.out.cellAt hlt2
            obtain ⟨d, hd9, hdc, hdn⟩ := num_take fr k2 hlt2 HFD.out
            have hm := hmf k2
            have HN := Lib.hid (hdn m0)
            have h10 : 10 ^ k2 ≤ 1000 := by
              have := Nat.pow_le_pow_right (n := 10) (by decide) (show k2 ≤ 3 by omega)
              omega
            have HPW : Hid (10 ^ (k2 + 1) = 10 ^ k2 * 10) := Nat.pow_succ _ _
            unfold Y at hcell
            rw [hdc, Nat.zero_add] at hcell
            generalize num m0 (fr.take k2) = m at *
            generalize 10 ^ k2 = sc at *
            clear hdn hdc
            go_wp2
            go_roundw
            case rel => exact ⟨k2 + 1, by omega, by go_num, by rw [HN.out]; go_num, by rw [HPW.out]; go_num, trivial⟩
            case measure => simp [intOf]; omega
          · have HK : Hid (k2 = fr.length) := by show _ = _; omega
            have hq2 := HQ.out
            have hx2 := HX.out
            rw [show num m0 fr = num m0 (fr.take k2) by rw [List.take_of_length_le (by omega)], ← HK.out] at hq2
            generalize num m0 (fr.take k2) = m at *
            generalize 10 ^ k2 = sc at *
            go_wp2
            go_ret2
            exact ⟨rfl, HB5.out⟩
theorem size_bad (s nm wh fr : List UInt8) (u : Nat) (p : Bool) (w : World) (hl : s.length < 1099511627) (hM : Mx w) (hU : unitOf s = (nm, u)) (hC : Lib.cut nm [46] = (wh, fr, p)) (hn : nm.length ≤ s.length) (hb : whole wh = false ∨ whole wh = true ∧ p = true ∧ digs fr 3 = false) :
    Calls Tryz.prog 26 #[.string ⟨s.toArray⟩] w fun e w' => e = .returned (.tuple #[.float .f64 0, .bool false]) ∧ Below w.heap.size w w' := by
  have hu := unit_any s w (by omega)
  rw [hU] at hu
  have HU := Lib.hid hu
  have hc := cut_any nm w (by omega) hM
  rw [hC] at hc
  have hwh := fun W => whole_any wh W
  have hfr := fun W => digs_any fr 3 W (by decide)
  rcases hb with hb | ⟨hb, rfl, hb2⟩
  · rw [hb] at hwh
    have HC := Lib.hid hc
    have HWH := Lib.hid hwh
    clear hU hC hM hu hc hwh hfr hb
    cases p
    all_goals
      go_enter Tryz.func26, Tryz.ntmps26
      go_wp2_with (first
        | (go_at_call 58; refine HU.out.mono ?_; rintro e w' ⟨rfl, rfl⟩)
        | (go_at_call 59; refine HC.out.mono ?_; rintro e w' ⟨rfl, n, rfl⟩)
        | (go_at_call 60; refine (HWH.out _).mono ?_; rintro e w' ⟨rfl, rfl⟩))
      go_ret2
      exact ⟨rfl, be_drewN (Below.refl _ _) n⟩
  · rw [hb] at hwh
    rw [hb2] at hfr
    have HC := Lib.hid hc
    have HWH := Lib.hid hwh
    have HFR := Lib.hid hfr
    clear hU hC hM hu hc hwh hfr hb hb2
    go_enter Tryz.func26, Tryz.ntmps26
    go_wp2_with (first
      | (go_at_call 58; refine HU.out.mono ?_; rintro e w' ⟨rfl, rfl⟩)
      | (go_at_call 59; refine HC.out.mono ?_; rintro e w' ⟨rfl, n, rfl⟩)
      | (go_at_call 60; refine (HWH.out _).mono ?_; rintro e w' ⟨rfl, rfl⟩)
      | (go_at_call 61; refine (HFR.out _).mono ?_; rintro e w' ⟨rfl, rfl⟩))
    go_ret2
    exact ⟨rfl, be_drewN (Below.refl _ _) n⟩
end Go.Proofs.YtdjhkaofhdcalaaGreatDoor

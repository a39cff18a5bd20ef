/-
  when.isDigits, isWhole, cutUnit, Size, walked.
  when.Size, walked.
  What the statements' first call asks, at its own inputs.
  Text, walked.
-/
import Derived.Test.YtfaijkgfhdhhbaaGreatDoorMge
import Derived.Test.YtfaijkgfhdhhbaaGreatDoorMgd
import Derived.Laws.FloatArith
namespace Go.Proofs.YtfaijkgfhdhhbaaGreatDoor
open Go.RowKit

def isDig (c : UInt8) : Bool := 48 ≤ c.toNat && c.toNat ≤ 57
def digs (l : List UInt8) (most : Nat) : Bool := !l.isEmpty && decide (l.length ≤ most) && l.all isDig
set_option maxHeartbeats 1000000 in
theorem digs_any (l : List UInt8) (most : Nat) (w : World) (hmost : most < 1099511627776) : Calls Tryz.prog 138 #[.string ⟨l.toArray⟩, .int .i64 (most : Int)] w fun e w' => e = .returned (.bool (digs l most)) ∧ w = w' := by
  by_cases h0 : l = []
  · subst h0
    go_enter Tryz.func138, Tryz.ntmps138
    go_wp2
    go_ret
    exact ⟨rfl, rfl⟩
  · have hb0 : ((l.length : Int) == 0) = false := beq_eq_false_iff_ne.2 (by cases l with | nil => exact absurd rfl h0 | cons a r => simp; omega)
    have he : l.isEmpty = false := by cases l with | nil => exact absurd rfl h0 | cons => rfl
    by_cases hm : l.length ≤ most
    · have hd : decide (most < l.length) = false := by simp; omega
      have HD : Hid (digs l most = l.all isDig) := by show _ = _; simp [digs, he, hm]
      clear h0 he
      go_enter Tryz.func138, Tryz.ntmps138
      go_wp2
      go_loopw [17] (fun i wr => ∃ k : Nat, k ≤ l.length ∧ i = .int .i64 (k : Int) ∧ wr = w ∧ l.all isDig = (l.drop k).all isDig) (fun i _ => l.length - (intOf i).toNat)
      case atStart => exact ⟨0, by omega, rfl, rfl, rfl⟩
      case round =>
        obtain ⟨k, hk, rfl, rfl, hall⟩ := hrel
        have HA := Lib.hid hall
        clear hall
        by_cases hlt : k < l.length
        · have hidx := str_at l k hlt
          have hdrop : (l.drop k).all isDig = (isDig (l.getD k 0) && (l.drop (k + 1)).all isDig) := by
            rw [List.drop_eq_getElem_cons hlt, List.all_cons]
            simp [List.getElem?_eq_getElem hlt]
          have HDR := Lib.hid hdrop
          clear hdrop
          generalize l.getD k 0 = c at *
          have HC : Hid (isDig c = (decide (48 ≤ c.toNat) && decide (c.toNat ≤ 57))) := rfl
          by_cases hg : 48 ≤ c.toNat ∧ c.toNat ≤ 57
          · have h1 : decide ((c.toNat : Int) < 48) = false := by simp; omega
            have h2 : decide (57 < (c.toNat : Int)) = false := by simp; omega
            have HR : Hid (l.all isDig = (l.drop (k + 1)).all isDig) := by show _ = _; rw [HA.out, HDR.out, HC.out]; simp [hg.1, hg.2]
            clear hg
            go_wp2
            go_roundw
            case rel => exact ⟨k + 1, by omega, by go_num, trivial, HR.out⟩
            case measure => simp [intOf]; omega
          · have HR : Hid (l.all isDig = false) := by show _ = _; rw [HA.out, HDR.out, HC.out]; simp; omega
            by_cases h1 : c.toNat < 48
            · have h1 : decide ((c.toNat : Int) < 48) = true := by simp; omega
              clear hg
              go_wp2
              go_ret
              exact ⟨by rw [HD.out, HR.out]; rfl, rfl⟩
            · have h2 : decide ((c.toNat : Int) < 48) = false := by simp; omega
              have h2 : decide (57 < (c.toNat : Int)) = true := by simp; omega
              clear hg h1
              go_wp2
              go_ret
              exact ⟨by rw [HD.out, HR.out]; rfl, rfl⟩
        · have HR : Hid (l.all isDig = true) := by show _ = _; rw [HA.out, List.drop_eq_nil_of_le (by omega)]; rfl
          go_wp2
          go_ret
          exact ⟨by rw [HD.out, HR.out]; rfl, rfl⟩
    · have hd : decide (most < l.length) = true := by simp; omega
      have HD : Hid (digs l most = false) := by show _ = _; simp [digs, hm]
      clear h0 he hm
      go_enter Tryz.func138, Tryz.ntmps138
      go_wp2
      go_ret
      exact ⟨by rw [HD.out]; rfl, rfl⟩

def whole (l : List UInt8) : Bool := digs l 6 && (l == [48] || l.getD 0 0 != 48)
theorem byte_ne (c : UInt8) : ((c.toNat : Int) != 48) = (c != 48) := by
  rw [Bool.eq_iff_iff]
  simp only [bne_iff_ne, ne_eq, ← UInt8.toNat_inj]
  have : (48 : UInt8).toNat = 48 := rfl
  omega
theorem whole_any (l : List UInt8) (w : World) : Calls Tryz.prog 137 #[.string ⟨l.toArray⟩] w fun e w' => e = .returned (.bool (whole l)) ∧ w = w' := by
  have hd := digs_any l 6 w (by decide)
  rw [show ((6 : Nat) : Int) = 6 from rfl] at hd
  have HW : Hid (whole l = (digs l 6 && (l == [48] || l.getD 0 0 != 48))) := rfl
  cases h : digs l 6
  · rw [h] at hd
    have H := Lib.hid h
    have HD := Lib.hid hd
    clear h hd
    go_enter Tryz.func137, Tryz.ntmps137
    go_wp2_with (go_at_call 138; refine HD.out.mono ?_; rintro e w' ⟨rfl, rfl⟩)
    go_ret
    exact ⟨by rw [HW.out, H.out]; rfl, rfl⟩
  · have hne : 0 < l.length := by
      cases l with
      | nil => exact nomatch h
      | cons => simp
    rw [h] at hd
    have H := Lib.hid h
    have HD := Lib.hid hd
    have hidx := str_at l 0 hne
    rw [show ((0 : Nat) : Int) = 0 from rfl] at hidx
    have hbn := byte_ne (l.getD 0 0)
    generalize l.getD 0 0 = c at *
    clear h hd
    go_enter Tryz.func137, Tryz.ntmps137
    go_wp2_with (go_at_call 138; refine HD.out.mono ?_; rintro e w' ⟨rfl, rfl⟩)
    · rename_i hl
      go_ret
      exact ⟨by rw [HW.out, H.out, hl]; rfl, rfl⟩
    · go_ret
      refine ⟨?_, rfl⟩
      show Ending.returned (Value.bool (l == [48] || c != 48)) = _
      rw [HW.out, H.out, Bool.true_and]

/-- The letter at the end. -/
def unitOf (l : List UInt8) : List UInt8 × Nat :=
  if Lib.hasSuffix l [107] then (Lib.trimSuffix l [107], 4652218415073722368) else if Lib.hasSuffix l [109] then (Lib.trimSuffix l [109], 4697254411347427328) else (l, 4607182418800017408)
theorem cutsuf (l : List UInt8) (c : UInt8) (w : World) (hl : l.length < 1099511627776) : Calls Tryz.prog 158 #[.string ⟨l.toArray⟩, .string ⟨#[c]⟩] w fun e w' => e = .returned (.tuple #[.string ⟨(Lib.trimSuffix l [c]).toArray⟩, .bool (Lib.hasSuffix l [c])]) ∧ w = w' := by
  refine (Tryz.strings_CutSuffix ⟨l.toArray⟩ ⟨#[c]⟩ w (by show l.toArray.size ≤ _; simp; omega)).mono ?_
  rintro e w' ⟨rfl, rfl⟩
  exact ⟨rfl, rfl⟩
theorem unit_any (l : List UInt8) (w : World) (hl : l.length < 1099511627776) : Calls Tryz.prog 135 #[.string ⟨l.toArray⟩] w fun e w' => e = .returned (.tuple #[.string ⟨(unitOf l).1.toArray⟩, .float .f64 (unitOf l).2]) ∧ w = w' := by
  have hk := cutsuf l 107 w hl
  have hm := cutsuf l 109 w hl
  have HU : Hid (unitOf l = if Lib.hasSuffix l [107] then (Lib.trimSuffix l [107], 4652218415073722368) else if Lib.hasSuffix l [109] then (Lib.trimSuffix l [109], 4697254411347427328) else (l, 4607182418800017408)) := rfl
  cases h1 : Lib.hasSuffix l [107] <;> cases h2 : Lib.hasSuffix l [109]
  all_goals
    rw [h1] at hk
    rw [h2] at hm
    have HK := Lib.hid hk
    have HM := Lib.hid hm
    have H1 := Lib.hid h1
    have H2 := Lib.hid h2
    generalize Lib.trimSuffix l [107] = lk at *
    generalize Lib.trimSuffix l [109] = lm at *
    clear hk hm h1 h2
    go_enter Tryz.func135, Tryz.ntmps135
    go_wp2_with (first
      | (go_at_call 158; go_at_call_of 158 (Value.string ⟨#[107]⟩); refine HK.out.mono ?_; rintro e w' ⟨rfl, rfl⟩)
      | (go_at_call 158; go_at_call_of 158 (Value.string ⟨#[109]⟩); refine HM.out.mono ?_; rintro e w' ⟨rfl, rfl⟩))
    go_ret2
    refine ⟨?_, rfl⟩
    rw [HU.out, H1.out, H2.out]
    rfl

/-- What cuts read. -/
def Mx (w : World) : Prop := ∃ m : Int, w.cell? ⟨5, 0, none⟩ = some (.int .i64 m)
theorem Mx.lt {w : World} (h : Mx w) : 5 < w.heap.size := let ⟨_, hm⟩ := h; World.block_lt_of_cell? w _ hm
theorem Mx.below {w w' : World} {B : Nat} (h : Mx w) (hb : Below B w w') (h1 : 5 < B) : Mx w' := let ⟨m, hm⟩ := h; ⟨m, (hb.cell (by exact h1)).trans hm⟩
theorem cut_any (l : List UInt8) (w : World) (hl : l.length < 4294967281) (hM : Mx w) : Calls Tryz.prog 136 #[.string ⟨l.toArray⟩, .string ⟨#[46]⟩] w fun e w' => e = .returned (.tuple #[.string ⟨(Lib.cut l [46]).1.toArray⟩, .string ⟨(Lib.cut l [46]).2.1.toArray⟩, .bool (Lib.cut l [46]).2.2]) ∧ ∃ n, w' = w.drewN n := by
  obtain ⟨m, hm⟩ := hM
  exact Tryz.strings_Cut ⟨l.toArray⟩ ⟨#[46]⟩ m w (by show l.toArray.size < _; simpa using hl) hm

/-- What digits tell. -/
def num (n : Nat) (l : List UInt8) : Nat := l.foldl (fun n c => n * 10 + (c.toNat - 48)) n
theorem num_snoc (n : Nat) (l : List UInt8) (c : UInt8) : num n (l ++ [c]) = num n l * 10 + (c.toNat - 48) := by simp [num]
theorem num_lt (n : Nat) (l : List UInt8) (h : l.all isDig = true) : num n l < (n + 1) * 10 ^ l.length := by
  induction l generalizing n with
  | nil => simp [num]
  | cons c r ih =>
    rw [List.all_cons, Bool.and_eq_true] at h
    have h1 := ih (n * 10 + (c.toNat - 48)) h.2
    have h2 : c.toNat - 48 ≤ 9 := by
      have := h.1
      simp [isDig] at this
      omega
    show num (n * 10 + (c.toNat - 48)) r < _
    have h3 : (n * 10 + (c.toNat - 48) + 1) * 10 ^ r.length ≤ ((n + 1) * 10) * 10 ^ r.length := Nat.mul_le_mul_right _ (by omega)
    rw [List.length_cons, Nat.pow_succ]
    calc _ < _ := h1
      _ ≤ _ := h3
      _ = _ := by rw [Nat.mul_assoc, Nat.mul_comm 10]
end Go.Proofs.YtfaijkgfhdhhbaaGreatDoor
namespace Go.Proofs.YtfaijkgfhdhhbaaGreatDoor
open Go.RowKit

theorem Bytes.cellAt {w : World} {g o n c k : Nat} {l : List UInt8} (h : Bytes w (.slice (some ⟨g, o, none⟩) n c) l) (hk : k < l.length) : w.cell? ⟨g, o + k, none⟩ = some (Y (l.getD k 0)) := by
  obtain ⟨A, c', he, _, _, hc⟩ := h
  obtain ⟨g', o', rfl, hcell⟩ := hc (by omega)
  injection he with h1 h2 h3
  injection h1 with h1
  injection h1 with h1 h4
  subst h1 h4
  exact hcell k hk
theorem num_take (l : List UInt8) (k : Nat) (hk : k < l.length) (hd : l.all isDig = true) : ∃ d : Nat, d ≤ 9 ∧ (l.getD k 0).toNat = d + 48 ∧ ∀ n, num n (l.take (k + 1)) = num n (l.take k) * 10 + d := by
  have hmem : isDig (l.getD k 0) = true := by
    have h := List.all_eq_true.1 hd (l.getD k 0) (by simp [List.getElem?_eq_getElem hk])
    exact h
  simp only [isDig, Bool.and_eq_true, decide_eq_true_eq] at hmem
  refine ⟨(l.getD k 0).toNat - 48, by omega, by omega, fun n => ?_⟩
  rw [List.take_succ_eq_append_getElem hk, num_snoc]
  simp [List.getElem?_eq_getElem hk]
theorem num_take_lt (n : Nat) (l : List UInt8) (k : Nat) (hd : l.all isDig = true) : num n (l.take k) < (n + 1) * 10 ^ l.length := by
  have h1 := num_lt n (l.take k) (by
    rw [List.all_eq_true] at hd ⊢
    exact fun x hx => hd x (List.mem_of_mem_take hx))
  have h2 : 10 ^ (l.take k).length ≤ 10 ^ l.length := Nat.pow_le_pow_right (by decide) (by rw [List.length_take]; omega)
  exact Nat.lt_of_lt_of_le h1 (Nat.mul_le_mul_left _ h2)
set_option maxRecDepth 100000 in
set_option maxHeartbeats 2000000 in
theorem size_good (s nm wh fr : List UInt8) (u : Nat) (p : Bool) (w : World) (hl : s.length < 1099511627) (hM : Mx w) (hU : unitOf s = (nm, u)) (hC : Lib.cut nm [46] = (wh, fr, p)) (hn : nm.length ≤ s.length) (hw : whole wh = true) (hf : fr.all isDig = true) (hf3 : fr.length ≤ 3) (hp : p = true → digs fr 3 = true) (q x : Nat) (hq : floatBits .quo .f64 (floatOfInt .f64 ((num (num 0 wh) fr : Nat) : Int)) (floatOfInt .f64 ((10 ^ fr.length : Nat) : Int)) = some q) (hx : floatBits .mul .f64 q u = some x) :
    Calls Tryz.prog 103 #[.string ⟨s.toArray⟩] w fun e w' => e = .returned (.tuple #[.float .f64 x, .bool true]) ∧ Below w.heap.size w w' := by
  have hu := unit_any s w (by omega)
  rw [hU] at hu
  have HU := Lib.hid hu
  have hc := cut_any nm w (by omega) hM
  rw [hC] at hc
  have HC := Lib.hid hc
  have hwh := fun W => whole_any wh W
  rw [hw] at hwh
  have HWH := Lib.hid hwh
  have hdg : digs wh 6 = true := by
    unfold whole at hw
    rw [Bool.and_eq_true] at hw
    exact hw.1
  have hwl : wh.length ≤ 6 ∧ wh.all isDig = true := by
    unfold digs at hdg
    simp only [Bool.and_eq_true, decide_eq_true_eq] at hdg
    exact ⟨hdg.1.2, hdg.2⟩
  have hfr := fun W => digs_any fr 3 W (by decide)
  have HFR := Lib.hid hfr
  obtain ⟨hwl, hwd⟩ := hwl
  have HWD := Lib.hid hwd
  have HFD := Lib.hid hf
  have HP := Lib.hid hp
  have hq' := fun w => run_float_arith (P := Tryz.prog) w .quo 26 .f64 _ _ _ hq
  have hx' := fun w => run_float_arith (P := Tryz.prog) w .mul 26 .f64 _ _ _ hx
  have HQ := Lib.hid hq'
  have HX := Lib.hid hx'
  clear hq hx hq' hx'
  clear hU hC hM hu hc hwh hw hdg hfr hwd hf hp
  obtain ⟨fd, hfd⟩ : ∃ fd, fd = digs fr 3 := ⟨_, rfl⟩
  rw [← hfd] at HP HFR
  have hpd : p = false ∨ p = true ∧ fd = true := by
    cases p
    · exact .inl rfl
    · exact .inr ⟨rfl, HP.out rfl⟩
  clear HP hfd
  rcases hpd with rfl | ⟨rfl, rfl⟩
  all_goals
    go_enter Tryz.func103, Tryz.ntmps103
    go_wp2_with (first
      | (go_at_call 135; refine HU.out.mono ?_; rintro e w' ⟨rfl, rfl⟩)
      | (go_at_call 136; refine HC.out.mono ?_; rintro e w' ⟨rfl, n, rfl⟩)
      | (go_at_call 137; refine (HWH.out _).mono ?_; rintro e w' ⟨rfl, rfl⟩)
      | (go_at_call 138; refine (HFR.out _).mono ?_; rintro e w' ⟨rfl, rfl⟩)
      | (refine wpList_of_string rfl 9 78 5 (.tmp 37) rfl _ wh rfl rfl Tryz.underlying9 Tryz.underlying78 Tryz.underlying5 (by unfold maxLen; omega) ?_; intro w4 c hby hfz hB4 hs4; have HBY := Lib.hid hby; have HB4 := Lib.hid (show Below w.heap.size w w4 from (be_drewN (Below.refl _ _) n).trans hB4); clear hby hfz hB4 hs4))
    have hmw : ∀ k, num 0 (wh.take k) < 1000000 := fun k => Nat.lt_of_lt_of_le (num_take_lt 0 wh k HWD.out) (by
      have := Nat.pow_le_pow_right (n := 10) (by decide) hwl
      omega)
    go_loopw [9, 12, 40] (fun m _ i wr => ∃ k : Nat, k ≤ wh.length ∧ i = .int .i64 (k : Int) ∧ m = .int .i64 ((num 0 (wh.take k) : Nat) : Int) ∧ wr = w4) (fun _ _ i _ => wh.length - (intOf i).toNat)
    case atStart => exact ⟨0, by omega, rfl, rfl, rfl⟩
    case round =>
      obtain ⟨k, hk, rfl, rfl, rfl⟩ := hrel
      by_cases hlt : k < wh.length
      · have hcell := HBY.out.cellAt hlt
        obtain ⟨d, hd9, hdc, hdn⟩ := num_take wh k hlt HWD.out
        have hm := hmw k
        have HN := Lib.hid (hdn 0)
        unfold Y at hcell
        rw [hdc, Nat.zero_add] at hcell
        have hcell : wr.cell? ⟨w.heap.size, k, none⟩ = some (.int .u8 ((d + 48 : Nat) : Int)) := hcell
        generalize num 0 (wh.take k) = m at *
        clear hdn hdc
        go_wp2
        go_roundw
        case rel => exact ⟨k + 1, by omega, by go_num, by rw [HN.out]; go_num, trivial⟩
        case measure => simp [intOf]; omega
      · have HKW : Hid (k = wh.length) := by show _ = _; omega
        rw [show num 0 wh = num 0 (wh.take k) by rw [List.take_of_length_le (by omega)]] at HQ
        have hmf : ∀ j, num (num 0 (wh.take k)) (fr.take j) < 1000000000 := fun j => Nat.lt_of_lt_of_le (num_take_lt _ fr j HFD.out) (by
          have h1 := Nat.pow_le_pow_right (n := 10) (by decide) hf3
          have h2 := hmw k
          calc _ ≤ 1000000 * 10 ^ 3 := Nat.mul_le_mul (by omega) h1
            _ = _ := by decide)
        have hm0 := hmw k
        generalize num 0 (wh.take k) = m0 at *
        go_wp2_with (refine wpList_of_string rfl 9 78 5 (.tmp 51) rfl _ fr rfl rfl Tryz.underlying9 Tryz.underlying78 Tryz.underlying5 (by unfold maxLen; omega) ?_; intro w5 c5 hby hfz hB5 hs5; have HBY5 := Lib.hid hby; have HB5 := Lib.hid (HB4.out.trans (hB5.mono HB4.out.size)); clear hby hfz hB5 hs5)
        go_loopw [9, 10, 14, 54] (fun m sc _ i wr' => ∃ k : Nat, k ≤ fr.length ∧ i = .int .i64 (k : Int) ∧ m = .int .i64 ((num m0 (fr.take k) : Nat) : Int) ∧ sc = .int .i64 ((10 ^ k : Nat) : Int) ∧ wr' = w5) (fun _ _ _ i _ => fr.length - (intOf i).toNat)
        case atStart => exact ⟨0, by omega, rfl, rfl, rfl, rfl⟩
        case round =>
          obtain ⟨k2, hk2, rfl, rfl, rfl, rfl⟩ := hrel
          by_cases hlt2 : k2 < fr.length
          · have hcell := HBY5.out.cellAt hlt2
            obtain ⟨d, hd9, hdc, hdn⟩ := num_take fr k2 hlt2 HFD.out
            have hm := hmf k2
            have HN := Lib.hid (hdn m0)
            have h10 : 10 ^ k2 ≤ 1000 := by
              have := Nat.pow_le_pow_right (n := 10) (by decide) (show k2 ≤ 3 by omega)
              omega
            have HPW : Hid (10 ^ (k2 + 1) = 10 ^ k2 * 10) := Nat.pow_succ _ _
            unfold Y at hcell
            rw [hdc, Nat.zero_add] at hcell
            generalize num m0 (fr.take k2) = m at *
            generalize 10 ^ k2 = sc at *
            clear hdn hdc
            go_wp2
            go_roundw
            case rel => exact ⟨k2 + 1, by omega, by go_num, by rw [HN.out]; go_num, by rw [HPW.out]; go_num, trivial⟩
            case measure => simp [intOf]; omega
          · have HK : Hid (k2 = fr.length) := by show _ = _; omega
            have hq2 := HQ.out
            have hx2 := HX.out
            rw [show num m0 fr = num m0 (fr.take k2) by rw [List.take_of_length_le (by omega)], ← HK.out] at hq2
            generalize num m0 (fr.take k2) = m at *
            generalize 10 ^ k2 = sc at *
            go_wp2
            go_ret2
            exact ⟨rfl, HB5.out⟩
theorem size_bad (s nm wh fr : List UInt8) (u : Nat) (p : Bool) (w : World) (hl : s.length < 1099511627) (hM : Mx w) (hU : unitOf s = (nm, u)) (hC : Lib.cut nm [46] = (wh, fr, p)) (hn : nm.length ≤ s.length) (hb : whole wh = false ∨ whole wh = true ∧ p = true ∧ digs fr 3 = false) :
    Calls Tryz.prog 103 #[.string ⟨s.toArray⟩] w fun e w' => e = .returned (.tuple #[.float .f64 0, .bool false]) ∧ Below w.heap.size w w' := by
  have hu := unit_any s w (by omega)
  rw [hU] at hu
  have HU := Lib.hid hu
  have hc := cut_any nm w (by omega) hM
  rw [hC] at hc
  have hwh := fun W => whole_any wh W
  have hfr := fun W => digs_any fr 3 W (by decide)
  rcases hb with hb | ⟨hb, rfl, hb2⟩
  · rw [hb] at hwh
    have HC := Lib.hid hc
    have HWH := Lib.hid hwh
    clear hU hC hM hu hc hwh hfr hb
    cases p
    all_goals
      go_enter Tryz.func103, Tryz.ntmps103
      go_wp2_with (first
        | (go_at_call 135; refine HU.out.mono ?_; rintro e w' ⟨rfl, rfl⟩)
        | (go_at_call 136; refine HC.out.mono ?_; rintro e w' ⟨rfl, n, rfl⟩)
        | (go_at_call 137; refine (HWH.out _).mono ?_; rintro e w' ⟨rfl, rfl⟩))
      go_ret2
      exact ⟨rfl, be_drewN (Below.refl _ _) n⟩
  · rw [hb] at hwh
    rw [hb2] at hfr
    have HC := Lib.hid hc
    have HWH := Lib.hid hwh
    have HFR := Lib.hid hfr
    clear hU hC hM hu hc hwh hfr hb hb2
    go_enter Tryz.func103, Tryz.ntmps103
    go_wp2_with (first
      | (go_at_call 135; refine HU.out.mono ?_; rintro e w' ⟨rfl, rfl⟩)
      | (go_at_call 136; refine HC.out.mono ?_; rintro e w' ⟨rfl, n, rfl⟩)
      | (go_at_call 137; refine (HWH.out _).mono ?_; rintro e w' ⟨rfl, rfl⟩)
      | (go_at_call 138; refine (HFR.out _).mono ?_; rintro e w' ⟨rfl, rfl⟩))
    go_ret2
    exact ⟨rfl, be_drewN (Below.refl _ _) n⟩
end Go.Proofs.YtfaijkgfhdhhbaaGreatDoor
namespace Go.Proofs.YtfaijkgfhdhhbaaGreatDoor
open Go.RowKit

theorem copysign_any (w : World) : Calls Tryz.prog 102 #[.float .f64 0, .float .f64 13830554455654793216] w fun e w' => e = .returned (.float .f64 9223372036854775808) ∧ w = w' := by
  have h1 := bits_run 0
  have h2 := bits_run 13830554455654793216
  have h3 := frombits_run 9223372036854775808
  rw [show ((0 : Nat) : Int) = 0 from rfl] at h1
  rw [show ((13830554455654793216 : Nat) : Int) = 13830554455654793216 from rfl] at h2
  rw [show ((9223372036854775808 : Nat) : Int) = 9223372036854775808 from rfl] at h3
  have k1 : bits .andNot .u64 0 9223372036854775808 = 0 := by kernel_rfl
  have k2 : bits .and .u64 13830554455654793216 9223372036854775808 = 9223372036854775808 := by kernel_rfl
  have k3 : bits .or .u64 0 9223372036854775808 = 9223372036854775808 := by kernel_rfl
  go_enter Tryz.func102, Tryz.ntmps102
  go_wp2
  go_ret
  exact ⟨rfl, rfl⟩
theorem nan_any (w : World) : Calls Tryz.prog 110 #[] w fun e w' => e = .returned (.float .f64 9221120237041090561) ∧ w = w' := by
  have h3 := frombits_run 9221120237041090561
  rw [show ((9221120237041090561 : Nat) : Int) = 9221120237041090561 from rfl] at h3
  go_enter Tryz.func110, Tryz.ntmps110
  go_wp2
  go_ret
  exact ⟨rfl, rfl⟩
theorem norm_nought (w : World) : Calls Tryz.prog 101 #[.float .f64 9223372036854775808] w fun e w' => e = .returned (.tuple #[.float .f64 0, .bool true]) ∧ w = w' :=
  (norm_any 9223372036854775808 w (by decide)).mono fun e w' ⟨he, hw⟩ => ⟨he.trans (by kernel_rfl), hw⟩
theorem size_15 (w : World) (hM : Mx w) : Calls Tryz.prog 103 #[.string ⟨#[49, 46, 53, 107]⟩] w fun e w' => e = .returned (.tuple #[.float .f64 4654470214887407616, .bool true]) ∧ Below w.heap.size w w' :=
  size_good [49, 46, 53, 107] [49, 46, 53] [49] [53] 4652218415073722368 true w (by decide) hM (by decide) (by decide) (by decide) (by decide) (by decide) (by decide) (by decide) 4609434218613702656 4654470214887407616 (by kernel_rfl) (by kernel_rfl)
theorem of_x (w : World) (hT : Tabs w) : Calls Tryz.prog 35 #[.int .i64 1, .string ⟨#[120]⟩] w fun e w' => e = .returned (.agg ((ShaM.sha [98, 108, 111, 98, 32, 49, 0, 120]).map Y).toArray) ∧ Below w.heap.size w w' :=
  of_any 1 [98, 108, 111, 98] [49] [120] w hT word_1 (fun W => (itoa_1 W).mono fun e w' ⟨he, hw⟩ => ⟨he, hw ▸ Below.refl _ _⟩) (by decide)
theorem put_ab (w : World) (hT : Tz w) : Calls Tryz.prog 104 #[.string ⟨#[97, 98]⟩] w fun e w' => e = .returned (.tuple #[.string ⟨#[48, 48, 48, 54, 97, 98]⟩, .bool true]) ∧ Below w.heap.size w w' :=
  lput_good [97, 98] w hT (by decide) (by decide)
theorem get_ab (w : World) : Calls Tryz.prog 105 #[.string ⟨#[48, 48, 48, 54, 97, 98, 48, 48, 48, 48]⟩] w fun e w' => e = .returned (.tuple #[.int .i64 1, .string ⟨#[97, 98]⟩, .int .i64 6, .int .i64 0]) ∧ Below w.heap.size w w' :=
  get_ok 1 6 [48, 48, 48, 54, 97, 98, 48, 48, 48, 48] [97, 98] w (by decide)
theorem all_ab (w : World) : Calls Tryz.prog 106 #[.string ⟨#[48, 48, 48, 54, 97, 98, 48, 48, 48, 49, 48, 48, 48, 48, 122]⟩] w fun e w' => ∃ g c, e = .returned (.tuple #[.slice (some ⟨g, 0, none⟩) 2 c, .int .i64 14, .int .i64 0]) ∧ Below w.heap.size w w' := by
  refine (all_ok [48, 48, 48, 54, 97, 98, 48, 48, 48, 49, 48, 48, 48, 48, 122] [[97, 98], []] 14 w (by decide) (by decide)).mono ?_
  rintro e w' ⟨v, rfl, ho, hB⟩
  rcases ho.2 with ⟨-, h0⟩ | ⟨g, c, _, rfl, -⟩
  · exact absurd h0 (by decide)
  · exact ⟨g, c, rfl, hB⟩
theorem put_1 (w : World) : Calls Tryz.prog 58 #[.float .f64 4607182418800017408] w fun e w' => e = .returned (.string ⟨#[51, 102, 102, 48, 48, 48, 48, 48, 48, 48, 48, 48, 48, 48, 48, 48]⟩) ∧ Below w.heap.size w w' :=
  (put_good 4607182418800017408 w (by decide) (by kernel_rfl)).mono fun e w' ⟨he, hw⟩ => ⟨he.trans (by kernel_rfl), hw⟩
theorem may_nan (w : World) : Calls Tryz.prog 90 #[.float .f64 9221120237041090561] w fun e w' => e = .returned (.bool false) ∧ w = w' :=
  (may_any 9221120237041090561 w (by decide)).mono fun e w' ⟨he, hw⟩ => ⟨he.trans (by kernel_rfl), hw⟩
theorem flush_any (w : World) : Calls Tryz.prog 108 #[] w fun e w' => e = .returned (.string ⟨#[48, 48, 48, 48]⟩) ∧ w = w' := by
  go_enter Tryz.func108, Tryz.ntmps108
  go_wp2
  go_ret
  exact ⟨rfl, rfl⟩
theorem delim_any (w : World) : Calls Tryz.prog 107 #[] w fun e w' => e = .returned (.string ⟨#[48, 48, 48, 49]⟩) ∧ w = w' := by
  go_enter Tryz.func107, Tryz.ntmps107
  go_wp2
  go_ret
  exact ⟨rfl, rfl⟩
theorem begun1_any (w : World) : Calls Tryz.prog 99 #[] w fun e w' => e = .panicked (fault 3) ∧ w = w' := by
  go_enter Tryz.func99, Tryz.ntmps99
  go_wp2_with (go_at_call 100; refine (fail_any _ _).mono ?_; rintro e w' ⟨rfl, rfl⟩)
  exact ⟨rfl, rfl, rfl⟩
theorem begun1_enters (caps : Array Value) (W : World) : (callFunc 99 caps).run Tryz.prog W = .ok (.enter 99 caps) W := enters_of Tryz.func99 (by kernel_rfl) rfl _ _
theorem do3_any (w : World) : Calls Tryz.prog 51 #[.func (.func 99) #[] #[]] w fun e w' => e = .returned (.int .i64 3) ∧ Below w.heap.size w w' := by
  have hE := Whole.made w 40 #[.int .i64 0]
  refine (do_fault 99 #[] w 3 (fun w' => w.alloc (.cells #[.int .i64 0] 40) = w') (begun1_enters _) ?_ (begun1_any _)).mono ?_
  · rintro w' rfl
    exact ⟨0, (hE.at_ 0).trans rfl, hE.thawed 0⟩
  · rintro e w' ⟨rfl, w1, w2, rfl, hB, rfl⟩
    refine ⟨rfl, ((((Below.refl _ _).alloc (Nat.le_refl _) _).trans (hB.mono (by simp))).setCell (by simp) _)⟩
end Go.Proofs.YtfaijkgfhdhhbaaGreatDoor
namespace Go.Proofs.YtfaijkgfhdhhbaaGreatDoor
open Go.RowKit

theorem text_any (l : List UInt8) (n : Nat) (w : World) : Calls Tryz.prog 7 #[.string ⟨l.toArray⟩, .int .i64 (n : Int)] w fun e w' => e = .returned (.string ⟨(l.take n).toArray⟩) ∧ w = w' := by
  obtain ⟨m, hm, hm1⟩ : ∃ m, m = min l.length n ∧ m ≤ l.length := ⟨_, rfl, Nat.min_le_left _ _⟩
  have hmin : ∀ W, (Builtin.min_ #[3, 3] 3 #[.int .i64 (l.length : Int), .int .i64 (n : Int)]).run Tryz.prog W = .ok (.int .i64 (m : Int)) W := by
    intro W
    rw [run_min_int2]
    congr 2
    split <;> omega
  have HT : Hid (l.take n = l.take m) := by
    show _ = _
    rcases Nat.le_total l.length n with h | h
    · rw [List.take_of_length_le h, hm, Nat.min_eq_left h, List.take_length]
    · rw [hm, Nat.min_eq_right h]
  clear hm
  go_enter Tryz.func7, Tryz.ntmps7
  go_wp2
  go_ret
  refine ⟨?_, rfl⟩
  rw [HT.out, ByteArray.extract_mk]
  simp
end Go.Proofs.YtfaijkgfhdhhbaaGreatDoor

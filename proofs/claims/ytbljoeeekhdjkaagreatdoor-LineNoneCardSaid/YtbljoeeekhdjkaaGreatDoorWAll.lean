/-
  WhenAll, walked.
-/
import Derived.Test.YtbljoeeekhdjkaaGreatDoorBegB
import Derived.Test.YtbljoeeekhdjkaaGreatDoorRefF
namespace Go.Proofs.YtbljoeeekhdjkaaGreatDoor
open Go.RowKit

/-- What Put tells; what Get tells. -/
def putV (n : Nat) : List UInt8 := if Flo.may n then hexs 16 (bitsV n) else []
def getV (l : List UInt8) : Nat × Bool := if l.length = 16 then getE l else (0, false)
theorem putV_len (n : Nat) : (putV n).length ≤ 16 := by
  unfold putV
  split
  · rw [hexs_len]; omega
  · simp
theorem wput_any (n : Nat) (w : World) (h : n < 18446744073709551616) : Calls Tryz.prog 42 #[.float .f64 n] w fun e w' => e = .returned (.string ⟨(putV n).toArray⟩) ∧ Below w.heap.size w w' := by
  unfold putV
  cases hm : Flo.may n
  · exact (put_bad n w h hm).mono fun e w' ⟨he, hw⟩ => ⟨he, hw ▸ Below.refl _ _⟩
  · exact put_good n w h hm
theorem wgetV_any (l : List UInt8) (w : World) : Calls Tryz.prog 46 #[.string ⟨l.toArray⟩] w fun e w' => e = .returned (.tuple #[.float .f64 (getV l).1, .bool (getV l).2]) ∧ w = w' := by
  unfold getV
  by_cases h : l.length = 16
  · rw [if_pos h]
    exact wget_any l w h
  · rw [if_neg h]
    exact wget_len l w h
theorem bitsV_lt {n : Nat} (h : n < 18446744073709551616) : bitsV n < 18446744073709551616 := by
  unfold bitsV
  split <;> omega
theorem rput_any (n : Nat) (w : World) (h : n < 18446744073709551616) : Calls Tryz.prog 43 #[.float .f64 n] w fun e w' => e = .returned (.string ⟨(putV n).toArray⟩) ∧ Below w.heap.size w w' := by
  have HV : Hid (putV n = if Flo.may n then hexs 16 (bitsV n) else []) := rfl
  have hmay := rmay_any n w h
  have HD := Lib.hid fun W => rdigs_any (bitsV n) 16 W (bitsV_lt h) (by omega)
  have HB := Lib.hid fun W => rbits_any n W
  cases hm : Flo.may n
  · rw [hm] at hmay
    have HM := Lib.hid hmay
    have H1 := Lib.hid hm
    clear hm hmay h
    go_enter Tryz.func43, Tryz.ntmps43
    go_wp2_with fail
    refine HM.out.mono ?_
    rintro e w' ⟨rfl, k, rfl⟩
    go_wp2
    go_ret
    exact ⟨by rw [HV.out, H1.out]; rfl, be_drewN (Below.refl _ _) k⟩
  · rw [hm] at hmay
    have HM := Lib.hid hmay
    have H1 := Lib.hid hm
    clear hm hmay h
    go_enter Tryz.func43, Tryz.ntmps43
    go_wp2_with fail
    refine HM.out.mono ?_
    rintro e w' ⟨rfl, k, rfl⟩
    go_wp2_with fail
    refine (HB.out _).mono ?_
    rintro e w' ⟨rfl, rfl⟩
    go_wp2_with fail
    refine (HD.out _).mono ?_
    rintro e w2 ⟨rfl, hB⟩
    have HB2 := Lib.hid (be_drewN (Below.refl w.heap.size w) k |>.trans hB)
    clear hB
    go_wp2
    go_ret
    exact ⟨by rw [HV.out, H1.out]; rfl, HB2.out⟩
theorem hgo_lt (z k : Nat) (l : List UInt8) (v : Nat) (hz : z < 16 ^ k) (h : hgo z l = some v) : v < 16 ^ (k + l.length) := by
  induction l generalizing z k with
  | nil =>
    have e : some z = some v := h
    injection e with e
    subst e
    simpa using hz
  | cons c l ih =>
    have hc := hval_lt c
    unfold hgo at h
    split at h
    · cases h
    · have := ih (z * 16 + (hval c).toNat) (k + 1) (by rw [Nat.pow_succ]; omega) h
      rw [List.length_cons, show k + (l.length + 1) = k + 1 + l.length by omega]
      exact this
theorem rget_any (l : List UInt8) (w : World) (hl : l.length ≤ 1048576) : Calls Tryz.prog 47 #[.string ⟨l.toArray⟩] w fun e w' => e = .returned (.tuple #[.float .f64 (getV l).1, .bool (getV l).2]) ∧ ∃ k, w' = w.drewN k := by
  have hnum := rnum_any l w hl
  by_cases h16 : l.length = 16
  · have hg : getV l = getE l := by unfold getV; rw [if_pos h16]
    have hn : ngo 0 l = hgo 0 l := ngo_hgo 0 0 l (by decide) (by omega)
    rw [hn] at hnum
    have hb0 : ((l.length : Int) != 16) = false := by simp [h16]
    have HG := Lib.hid hg
    cases hh : hgo 0 l with
    | none =>
      rw [hh] at hnum
      have hfr := frombits_run 0
      rw [show ((0 : Nat) : Int) = 0 from rfl] at hfr
      have HN : Hid (Calls Tryz.prog 91 #[.string ⟨l.toArray⟩] w fun e w' => e = .returned (.tuple #[.int .u64 0, .bool false]) ∧ w = w') := hnum
      have HE : Hid (getE l = (0, false)) := by show _ = _; unfold getE; rw [hh]; rfl
      clear hnum hn hg h16 hh
      go_enter Tryz.func47, Tryz.ntmps47
      go_wp2_with fail
      refine HN.out.mono ?_
      rintro e w' ⟨rfl, rfl⟩
      go_wp2
      go_ret2
      exact ⟨by rw [HG.out, HE.out]; rfl, 0, rfl⟩
    | some v =>
      rw [hh] at hnum
      have hv : v < 18446744073709551616 := by
        have := hgo_lt 0 0 l v (by decide) hh
        rw [h16] at this
        simpa using this
      have hfr := frombits_run v
      have HN : Hid (Calls Tryz.prog 91 #[.string ⟨l.toArray⟩] w fun e w' => e = .returned (.tuple #[.int .u64 (v : Int), .bool true]) ∧ w = w') := hnum
      have HE : Hid (getE l = (ofV v, Flo.may v)) := by show _ = _; unfold getE; rw [hh]; rfl
      have HV : Hid (ofV v = if Flo.may v then v else 0) := rfl
      have hmay := rmay_any v w hv
      cases hm : Flo.may v
      all_goals
        rw [hm] at hmay
        have HM := Lib.hid hmay
        have H1 := Lib.hid hm
        clear hnum hn hg h16 hh hm hmay hv
        go_enter Tryz.func47, Tryz.ntmps47
        go_wp2_with fail
        refine HN.out.mono ?_
        rintro e w' ⟨rfl, rfl⟩
        go_wp2_with fail
        refine HM.out.mono ?_
        rintro e w' ⟨rfl, k, rfl⟩
        go_wp2
        go_ret2
        exact ⟨by rw [HG.out, HE.out, HV.out, H1.out]; rfl, k, rfl⟩
  · have hb0 : ((l.length : Int) != 16) = true := by simp; omega
    have HG : Hid (getV l = (0, false)) := by show _ = _; unfold getV; rw [if_neg h16]
    obtain ⟨v, b, hvb⟩ : ∃ v b, numO (ngo 0 l) = (v, b) := ⟨_, _, rfl⟩
    rw [hvb] at hnum
    have hfr := frombits_run v
    have HN : Hid (Calls Tryz.prog 91 #[.string ⟨l.toArray⟩] w fun e w' => e = .returned (.tuple #[.int .u64 (v : Int), .bool b]) ∧ w = w') := hnum
    clear hnum hvb h16
    go_enter Tryz.func47, Tryz.ntmps47
    go_wp2_with fail
    refine HN.out.mono ?_
    rintro e w' ⟨rfl, rfl⟩
    go_wp2
    go_ret2
    exact ⟨by rw [HG.out]; rfl, 0, rfl⟩
theorem text_any (l : List UInt8) (n : Nat) (w : World) : Calls Tryz.prog 32 #[.string ⟨l.toArray⟩, .int .i64 (n : Int)] w fun e w' => e = .returned (.string ⟨(l.take n).toArray⟩) ∧ w = w' := by
  obtain ⟨m, hm, hm1⟩ : ∃ m, m = min l.length n ∧ m ≤ l.length := ⟨_, rfl, Nat.min_le_left _ _⟩
  have hmin : ∀ W, (Builtin.min_ #[3, 3] 3 #[.int .i64 (l.length : Int), .int .i64 (n : Int)]).run Tryz.prog W = .ok (.int .i64 (m : Int)) W := by
    intro W
    rw [run_min_int2]
    congr 2
    split <;> omega
  have HT : Hid (l.take n = l.take m) := by
    show _ = _
    rcases Nat.le_total l.length n with h | h
    · rw [List.take_of_length_le h, hm, Nat.min_eq_left h, List.take_length]
    · rw [hm, Nat.min_eq_right h]
  clear hm
  go_enter Tryz.func32, Tryz.ntmps32
  go_wp2
  go_ret
  refine ⟨?_, rfl⟩
  rw [HT.out, ByteArray.extract_mk]
  simp
theorem getV_lt (l : List UInt8) : (getV l).1 < 18446744073709551616 := by
  unfold getV
  split
  · unfold getE
    cases hh : hgo 0 l with
    | none => decide
    | some v =>
      have hv : v < 18446744073709551616 := by
        have := hgo_lt 0 0 l v (by decide) hh
        rw [‹l.length = 16›] at this
        simpa using this
      show ofV v < _
      unfold ofV
      split <;> omega
  · decide
set_option maxRecDepth 100000 in
set_option maxHeartbeats 4000000 in
theorem wall_any (a b u : Nat) (s : List UInt8) (w : World) (hE : Env w) (ha : a < 18446744073709551616) (hb : b < 18446744073709551616) (hu : u < 18446744073709551616) :
    Calls Tryz.prog 7 #[.float .f64 a, .float .f64 b, .int .u64 (u : Int), .string ⟨s.toArray⟩] w fun e w' => e = .returned (.bool true) ∧ Below w.heap.size w w' := by
  have HE := Lib.hid hE
  have HT := Lib.hid fun W => text_any s 20 W
  have HNA := Lib.hid fun W => norm_any a W ha
  have HRN := Lib.hid fun W => rnorm_any a W
  have HMA := Lib.hid fun W => may_any a W ha
  have HRM := Lib.hid fun W => rmay_any a W ha
  have HLA := Lib.hid fun W => less_any a b W
  have HRL := Lib.hid fun W => rless_any a b W ha hb
  have HBA := Lib.hid fun W => bits_any a W
  have HRB := Lib.hid fun W => rbits_any a W
  have HPA := Lib.hid fun W => wput_any a W ha
  have HRP := Lib.hid fun W => rput_any a W ha
  have HPB := Lib.hid fun W => wput_any b W hb
  have HOU := Lib.hid fun W => wof_any u W hu
  have HRU := Lib.hid fun W => rmay_any u W hu
  have hfru := frombits_run u
  have hbn := bits_run (normV a)
  have hbo := bits_run (ofV u)
  have hdiv := fun w => run_float_arith (P := Tryz.prog) w .quo 45 .f64 4607182418800017408 0 9218868437227405312 (by kernel_rfl)
  have hls : (s.take 20).length ≤ 20 := by rw [List.length_take]; omega
  have hlp := putV_len a
  have hlq := putV_len b
  have HVU : Hid (ofV u = if Flo.may u then u else 0) := rfl
  clear hE ha hb hu
  generalize s.take 20 = s2 at *
  generalize putV a = pa at *
  generalize putV b = pb at *
  generalize normV a = na at *
  generalize Flo.isFin a = fa at *
  generalize Flo.may a = ma at *
  generalize Flo.lessB a b = lab at *
  generalize bitsV a = ba at *
  go_enter Tryz.func7, Tryz.ntmps7
  go_wp2_with fail
  refine (begun_any _ HE.out).mono ?_
  rintro e w1 ⟨rfl, hB⟩
  have HB1 := Lib.hid hB
  clear hB
  go_wp2_with fail
  refine (HT.out _).mono ?_
  rintro e w' ⟨rfl, rfl⟩
  go_wp2_with fail
  refine (HNA.out _).mono ?_
  rintro e w' ⟨rfl, rfl⟩
  go_wp2_with fail
  refine (HRN.out _).mono ?_
  rintro e w' ⟨rfl, k1, rfl⟩
  go_wp2_with fail
  refine (HMA.out _).mono ?_
  rintro e w' ⟨rfl, rfl⟩
  go_wp2_with fail
  refine (HRM.out _).mono ?_
  rintro e w' ⟨rfl, k2, rfl⟩
  go_wp2_with fail
  refine (HLA.out _).mono ?_
  rintro e w' ⟨rfl, rfl⟩
  go_wp2_with fail
  refine (HRL.out _).mono ?_
  rintro e w' ⟨rfl, rfl⟩
  go_wp2_with fail
  refine (HBA.out _).mono ?_
  rintro e w' ⟨rfl, rfl⟩
  go_wp2_with fail
  refine (HRB.out _).mono ?_
  rintro e w' ⟨rfl, rfl⟩
  go_wp2_with fail
  refine (HPA.out _).mono ?_
  rintro e w2 ⟨rfl, hB⟩
  have HB2 := Lib.hid ((be_drewN HB1.out (k1 + k2)).trans (hB.mono HB1.out.size))
  clear hB
  go_wp2_with fail
  refine (HRP.out _).mono ?_
  rintro e w3 ⟨rfl, hB⟩
  have HB3 := Lib.hid (HB2.out.trans (hB.mono HB2.out.size))
  clear hB
  go_wp2_with fail
  refine (HOU.out _).mono ?_
  rintro e w' ⟨rfl, rfl⟩
  go_wp2_with fail
  refine (HRU.out _).mono ?_
  rintro e w' ⟨rfl, k3, rfl⟩
  cases hm : Flo.may u
  all_goals
    have hov := HVU.out
    rw [hm] at hov
    simp only [Bool.false_eq_true, if_true, if_false] at hov
    rw [hov] at hbo ⊢
    clear hov hm
    go_wp2_with fail
    refine (HPA.out _).mono ?_
    rintro e w4 ⟨rfl, hB⟩
    have HB4 := Lib.hid ((be_drewN HB3.out k3).trans (hB.mono HB3.out.size))
    clear hB
    go_wp2_with fail
    refine (HPB.out _).mono ?_
    rintro e w5 ⟨rfl, hB⟩
    have HB5 := Lib.hid (HB4.out.trans (hB.mono HB4.out.size))
    clear hB
    go_wp2_with fail
    have hW := Whole.made w5 9 #[.string ⟨s2.toArray⟩, .string ⟨pa.toArray⟩, .string ⟨pb.toArray⟩]
    have hB6 := HB5.out.alloc HB5.out.size (.cells #[.string ⟨s2.toArray⟩, .string ⟨pa.toArray⟩, .string ⟨pb.toArray⟩] 9)
    generalize w5.alloc (.cells #[.string ⟨s2.toArray⟩, .string ⟨pa.toArray⟩, .string ⟨pb.toArray⟩] 9) = w6 at *
    have HW := Lib.hid hW
    have HB6 := Lib.hid hB6
    clear hW hB6
    go_loopw [118] (fun i wr => ∃ k : Nat, k ≤ 3 ∧ i = .int .i64 (k : Int) ∧ Below w.heap.size w wr ∧ Whole wr w5.heap.size 9 #[.string ⟨s2.toArray⟩, .string ⟨pa.toArray⟩, .string ⟨pb.toArray⟩]) (fun i _ => 3 - (intOf i).toNat)
    case atStart => exact ⟨0, by omega, rfl, HB6.out, HW.out⟩
    case round =>
      obtain ⟨k, hk, rfl, hbr, hwr⟩ := hrel
      have HBR := Lib.hid hbr
      have HWR := Lib.hid hwr
      by_cases hlt : k < 3
      · obtain ⟨l, hl, hc⟩ : ∃ l : List UInt8, l.length ≤ 20 ∧ wr.cell? ⟨w5.heap.size, k, none⟩ = some (.string ⟨l.toArray⟩) := by
          have hk3 : k = 0 ∨ k = 1 ∨ k = 2 := by omega
          rcases hk3 with rfl | rfl | rfl
          · exact ⟨s2, hls, hwr.at_ 0⟩
          · exact ⟨pa, by omega, hwr.at_ 1⟩
          · exact ⟨pb, by omega, hwr.at_ 2⟩
        have HG := Lib.hid fun W => wgetV_any l W
        have HRG := Lib.hid fun W => rget_any l W (by omega)
        have hbv := bits_run (getV l).1
        clear hbr hwr
        generalize (getV l).1 = gv at *
        generalize (getV l).2 = gb at *
        go_wp2_with fail
        refine (HG.out _).mono ?_
        rintro e w' ⟨rfl, rfl⟩
        go_wp2_with fail
        refine (HRG.out _).mono ?_
        rintro e w' ⟨rfl, q, rfl⟩
        go_wp2
        go_roundw
        case rel => exact ⟨k + 1, by omega, by go_num, be_drewN HBR.out q, HWR.out.drewN q⟩
        case measure => simp [intOf]; omega
      · clear hbr hwr
        go_wp2
        go_ret
        exact ⟨rfl, HBR.out⟩
end Go.Proofs.YtbljoeeekhdjkaaGreatDoor

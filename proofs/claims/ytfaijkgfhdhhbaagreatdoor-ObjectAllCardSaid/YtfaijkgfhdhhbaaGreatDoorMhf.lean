/-
  The reference's Bits of times, walked.
  The reference's May of times, walked.
  The reference's Put and Get of times, walked.
-/
import Derived.Test.YtfaijkgfhdhhbaaGreatDoorMgl
import Derived.Test.YtfaijkgfhdhhbaaGreatDoorMga
import Derived.Test.YtfaijkgfhdhhbaaGreatDoorMgv
import Derived.Test.YtfaijkgfhdhhbaaGreatDoorMgn
namespace Go.Proofs.YtfaijkgfhdhhbaaGreatDoor
open Go.RowKit

theorem rbits_any (n : Nat) (w : World) : Calls Tryz.prog 68 #[.float .f64 n] w fun e w' => e = .returned (.int .u64 (bitsV n : Int)) ∧ w = w' := by
  have hne : (FloatKind.f64.format.order n n != some Ordering.eq) = Flo.isNaN n := Flo.self_ne n
  have hb := bits_run n
  have HV : Hid (bitsV n = if Flo.isNaN n then 9221120237041090561 else n) := rfl
  cases hq : Flo.isNaN n
  all_goals
    rw [hq] at hne
    have HQ := Lib.hid hq
    clear hq
    go_enter Tryz.func68, Tryz.ntmps68
    go_wp2
    go_ret
    exact ⟨by rw [HV.out, HQ.out]; rfl, rfl⟩
end Go.Proofs.YtfaijkgfhdhhbaaGreatDoor
namespace Go.Proofs.YtfaijkgfhdhhbaaGreatDoor
open Go.RowKit

theorem cut_nan (t : Nat) : Flo.isNaN ((t % 2) * 2 ^ 63 + 0x7ff0000000000000 + 1 + (t / 2) % (2 ^ 52 - 1)) = true := by
  have hb : (t / 2) % (2 ^ 52 - 1) < 2 ^ 52 - 1 := Nat.mod_lt _ (by decide)
  have ha : t % 2 = 0 ∨ t % 2 = 1 := by omega
  apply decide_eq_true
  show 9218868437227405312 < _ % 9223372036854775808
  generalize (t / 2) % (2 ^ 52 - 1) = b at *
  rcases ha with ha | ha <;> rw [ha] <;> omega
/-- What is no finite float, less itself: some NaN. -/
theorem sub_inf_run (n : Nat) (h : Flo.isFin n = false) (w : World) : ∃ r, Flo.isNaN r = true ∧ (binOp .sub 26 (.float .f64 n) (.float .f64 n)).run Tryz.prog w = .ok (.float .f64 r) w.drew := by
  have hs : FloatKind.f64.format.sub n n = none := Flo.sub_none n (by simpa [Flo.isFin] using h)
  refine ⟨(Question.nanBits .f64 n n).cut (w.tape w.drawn (.nanBits .f64 n n)), ?_, ?_⟩
  · exact cut_nan _
  · simp [binOp, Op.floatArith, hs, Question.forced]
theorem nan_eq0 {r : Nat} (h : Flo.isNaN r = true) : (FloatKind.f64.format.order r 0 == some Ordering.eq) = false := by
  have h1 : Flo.inf < Flo.E r := by simpa [Flo.isNaN] using h
  have : FloatKind.f64.format.order r 0 = none := Flo.order_nan_left r 0 h1
  rw [this]; rfl
theorem zeros {n : Nat} (h : n < 18446744073709551616) (hz : Flo.isZ n = true) : n = 0 ∨ n = 9223372036854775808 := by
  have h0 : Flo.E n = 0 := by simpa [Flo.isZ] using hz
  unfold Flo.E at h0
  omega
theorem rmay_any (n : Nat) (w : World) (h : n < 18446744073709551616) : Calls Tryz.prog 71 #[.float .f64 n] w fun e w' => e = .returned (.bool (Flo.may n)) ∧ ∃ k, w' = w.drewN k := by
  have hself : (FloatKind.f64.format.order n n == some Ordering.eq) = !Flo.isNaN n := Flo.self_eq n
  cases hq : Flo.isNaN n
  · rw [hq] at hself
    cases hf : Flo.isFin n
    · obtain ⟨r, hr, hrun⟩ := sub_inf_run n hf w
      have h0 := nan_eq0 hr
      have HM : Hid (Flo.may n = false) := by show _ = _; simp [Flo.may, hf]
      clear hr hq hf h
      go_enter Tryz.func71, Tryz.ntmps71
      go_wp2
      go_ret
      exact ⟨by rw [HM.out]; rfl, 1, rfl⟩
    · have hsub := fun w => run_float_arith (P := Tryz.prog) w .sub 26 .f64 n n 0 (Flo.sub_fin n (by simpa [Flo.isFin] using hf))
      cases hz : Flo.isZ n
      · have hne0 : (FloatKind.f64.format.order n 0 != some Ordering.eq) = true := by show (!(FloatKind.f64.format.order n 0 == some Ordering.eq)) = true; rw [show (FloatKind.f64.format.order n 0 == some Ordering.eq) = Flo.isZ n from Flo.zero_eq n, hz]; rfl
        have HM : Hid (Flo.may n = true) := by show _ = _; simp [Flo.may, hf, hz]
        clear hz hq hf h
        go_enter Tryz.func71, Tryz.ntmps71
        go_wp2
        go_ret
        exact ⟨by rw [HM.out]; rfl, 0, rfl⟩
      · rcases zeros h hz with rfl | rfl
        · have hdiv := fun w => run_float_arith (P := Tryz.prog) w .quo 26 .f64 4607182418800017408 0 9218868437227405312 (by kernel_rfl)
          clear hz hq hf h hself
          go_enter Tryz.func71, Tryz.ntmps71
          go_wp2
          go_ret
          exact ⟨by kernel_rfl, 0, rfl⟩
        · have hdiv := fun w => run_float_arith (P := Tryz.prog) w .quo 26 .f64 4607182418800017408 9223372036854775808 18442240474082181120 (by kernel_rfl)
          clear hz hq hf h hself
          go_enter Tryz.func71, Tryz.ntmps71
          go_wp2
          go_ret
          exact ⟨by kernel_rfl, 0, rfl⟩
  · rw [hq] at hself
    have hfin : Flo.isFin n = false := by rw [← Flo.isFin_eq, hq]; rfl
    have HM : Hid (Flo.may n = false) := by show _ = _; simp [Flo.may, hfin]
    clear hq hfin h
    go_enter Tryz.func71, Tryz.ntmps71
    go_wp2
    go_ret
    exact ⟨by rw [HM.out]; rfl, 0, rfl⟩
end Go.Proofs.YtfaijkgfhdhhbaaGreatDoor
namespace Go.Proofs.YtfaijkgfhdhhbaaGreatDoor
open Go.RowKit

/-- What Put tells. -/
def putV (n : Nat) : List UInt8 := if Flo.may n then hexs 16 (bitsV n) else []
theorem putV_len (n : Nat) : (putV n).length ≤ 16 := by
  unfold putV
  split
  · rw [hexs_len]; omega
  · simp
theorem bitsV_lt {n : Nat} (h : n < 18446744073709551616) : bitsV n < 18446744073709551616 := by
  unfold bitsV
  split <;> omega
theorem rput_any (n : Nat) (w : World) (h : n < 18446744073709551616) : Calls Tryz.prog 79 #[.float .f64 n] w fun e w' => e = .returned (.string ⟨(putV n).toArray⟩) ∧ Below w.heap.size w w' := by
  have HV : Hid (putV n = if Flo.may n then hexs 16 (bitsV n) else []) := rfl
  have hmay := rmay_any n w h
  have HD := Lib.hid fun W => rdigs_any (bitsV n) 16 W (bitsV_lt h) (by omega)
  have HB := Lib.hid fun W => rbits_any n W
  cases hm : Flo.may n
  · rw [hm] at hmay
    have HM := Lib.hid hmay
    have H1 := Lib.hid hm
    clear hm hmay h
    go_enter Tryz.func79, Tryz.ntmps79
    go_wp2_with fail
    refine HM.out.mono ?_
    rintro e w' ⟨rfl, k, rfl⟩
    go_wp2
    go_ret
    exact ⟨by rw [HV.out, H1.out]; rfl, be_drewN (Below.refl _ _) k⟩
  · rw [hm] at hmay
    have HM := Lib.hid hmay
    have H1 := Lib.hid hm
    clear hm hmay h
    go_enter Tryz.func79, Tryz.ntmps79
    go_wp2_with fail
    refine HM.out.mono ?_
    rintro e w' ⟨rfl, k, rfl⟩
    go_wp2_with fail
    refine (HB.out _).mono ?_
    rintro e w' ⟨rfl, rfl⟩
    go_wp2_with fail
    refine (HD.out _).mono ?_
    rintro e w2 ⟨rfl, hB⟩
    have HB2 := Lib.hid (be_drewN (Below.refl w.heap.size w) k |>.trans hB)
    clear hB
    go_wp2
    go_ret
    exact ⟨by rw [HV.out, H1.out]; rfl, HB2.out⟩
theorem hgo_lt16 (z k : Nat) (l : List UInt8) (v : Nat) (hz : z < 16 ^ k) (h : hgo z l = some v) : v < 16 ^ (k + l.length) := by
  induction l generalizing z k with
  | nil =>
    have e : some z = some v := h
    injection e with e
    subst e
    simpa using hz
  | cons c l ih =>
    have hc := hval_lt c
    unfold hgo at h
    split at h
    · cases h
    · have := ih (z * 16 + (hval c).toNat) (k + 1) (by rw [Nat.pow_succ]; omega) h
      rw [List.length_cons, show k + (l.length + 1) = k + 1 + l.length by omega]
      exact this
theorem rget_any (l : List UInt8) (w : World) (hl : l.length ≤ 1048576) : Calls Tryz.prog 82 #[.string ⟨l.toArray⟩] w fun e w' => e = .returned (.tuple #[.float .f64 (getV l).1, .bool (getV l).2]) ∧ ∃ k, w' = w.drewN k := by
  have hnum := rnum_any l w hl
  by_cases h16 : l.length = 16
  · have hg : getV l = getE l := by unfold getV; rw [if_pos h16]
    have hn : ngo 0 l = hgo 0 l := ngo_hgo 0 0 l (by decide) (by omega)
    rw [hn] at hnum
    have hb0 : ((l.length : Int) != 16) = false := by simp [h16]
    have HG := Lib.hid hg
    cases hh : hgo 0 l with
    | none =>
      rw [hh] at hnum
      have hfr := frombits_run 0
      rw [show ((0 : Nat) : Int) = 0 from rfl] at hfr
      have HN : Hid (Calls Tryz.prog 119 #[.string ⟨l.toArray⟩] w fun e w' => e = .returned (.tuple #[.int .u64 0, .bool false]) ∧ w = w') := hnum
      have HE : Hid (getE l = (0, false)) := by show _ = _; unfold getE; rw [hh]; rfl
      clear hnum hn hg h16 hh
      go_enter Tryz.func82, Tryz.ntmps82
      go_wp2_with fail
      refine HN.out.mono ?_
      rintro e w' ⟨rfl, rfl⟩
      go_wp2
      go_ret2
      exact ⟨by rw [HG.out, HE.out]; rfl, 0, rfl⟩
    | some v =>
      rw [hh] at hnum
      have hv : v < 18446744073709551616 := by
        have := hgo_lt16 0 0 l v (by decide) hh
        rw [h16] at this
        simpa using this
      have hfr := frombits_run v
      have HN : Hid (Calls Tryz.prog 119 #[.string ⟨l.toArray⟩] w fun e w' => e = .returned (.tuple #[.int .u64 (v : Int), .bool true]) ∧ w = w') := hnum
      have HE : Hid (getE l = (ofV v, Flo.may v)) := by show _ = _; unfold getE; rw [hh]; rfl
      have HV : Hid (ofV v = if Flo.may v then v else 0) := rfl
      have hmay := rmay_any v w hv
      cases hm : Flo.may v
      all_goals
        rw [hm] at hmay
        have HM := Lib.hid hmay
        have H1 := Lib.hid hm
        clear hnum hn hg h16 hh hm hmay hv
        go_enter Tryz.func82, Tryz.ntmps82
        go_wp2_with fail
        refine HN.out.mono ?_
        rintro e w' ⟨rfl, rfl⟩
        go_wp2_with fail
        refine HM.out.mono ?_
        rintro e w' ⟨rfl, k, rfl⟩
        go_wp2
        go_ret2
        exact ⟨by rw [HG.out, HE.out, HV.out, H1.out]; rfl, k, rfl⟩
  · have hb0 : ((l.length : Int) != 16) = true := by simp; omega
    have HG : Hid (getV l = (0, false)) := by show _ = _; unfold getV; rw [if_neg h16]
    obtain ⟨v, b, hvb⟩ : ∃ v b, numO (ngo 0 l) = (v, b) := ⟨_, _, rfl⟩
    rw [hvb] at hnum
    have hfr := frombits_run v
    have HN : Hid (Calls Tryz.prog 119 #[.string ⟨l.toArray⟩] w fun e w' => e = .returned (.tuple #[.int .u64 (v : Int), .bool b]) ∧ w = w') := hnum
    clear hnum hvb h16
    go_enter Tryz.func82, Tryz.ntmps82
    go_wp2_with fail
    refine HN.out.mono ?_
    rintro e w' ⟨rfl, rfl⟩
    go_wp2
    go_ret2
    exact ⟨by rw [HG.out]; rfl, 0, rfl⟩
theorem getV_lt (l : List UInt8) : (getV l).1 < 18446744073709551616 := by
  unfold getV
  split
  · unfold getE
    cases hh : hgo 0 l with
    | none => decide
    | some v =>
      have hv : v < 18446744073709551616 := by
        have := hgo_lt16 0 0 l v (by decide) hh
        rw [‹l.length = 16›] at this
        simpa using this
      show ofV v < _
      unfold ofV
      split <;> omega
  · decide
end Go.Proofs.YtfaijkgfhdhhbaaGreatDoor

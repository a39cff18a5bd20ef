/-
  DiskFuse, walked.
-/
import Derived.Test.YtjoinnjhpfakpaaGreatDoorDskP
import Derived.Test.YtjoinnjhpfakpaaGreatDoorFusP
namespace Go.Proofs.YtjoinnjhpfakpaaGreatDoor
open Go.RowKit

theorem pick12 (n : Int) : ∃ p : Nat, p < 12 ∧ (n.tmod 12 + 12).tmod 12 = (p : Int) ∧ -100 ≤ n.tmod 12 ∧ n.tmod 12 ≤ 100 := by
  have h1 := Int.tmod_lt_of_pos n (show (0 : Int) < 12 by omega)
  have h2 := Int.lt_tmod_of_pos n (show (0 : Int) < 12 by omega)
  generalize n.tmod 12 = x at *
  rw [Int.tmod_eq_emod_of_nonneg (by omega)]
  refine ⟨((x + 12) % 12).toNat, ?_, ?_, by omega, by omega⟩
  · omega
  · omega
set_option maxRecDepth 100000 in
set_option maxHeartbeats 4000000 in
theorem wfus_any (n0 m0 : Int) (k : Nat) (hk : k < 2 ^ 64) (w : World) (hbeg : Calls Tryz.prog 5 #[] w fun e w' => e = .returned (.bool true) ∧ Below w.heap.size w w') :
    Calls Tryz.prog 4 #[.int .i64 n0, .int .i64 m0, .int .u64 (k : Int)] w fun e w' => e = .returned (.bool true) ∧ Below w.heap.size w w' := by
  have HBEG := Lib.hid hbeg
  clear hbeg
  obtain ⟨n, hn, hnm, hn1, hn2⟩ := pick12 n0
  obtain ⟨m, hm, hmm, hm1, hm2⟩ := pick12 m0
  generalize hx : n0.tmod 12 = x at *
  generalize hy : m0.tmod 12 = y at *
  go_enter Tryz.func4, Tryz.ntmps4
  go_wp2_with fail
  refine HBEG.out.mono ?_
  rintro e w1 ⟨rfl, hb⟩
  have B1 := Lib.hid hb
  clear hb HBEG
  go_wp2_with fail
  refine (dnew_any w1).mono ?_
  rintro e w2 ⟨rfl, hd, hb⟩
  have hb2 : w.heap.size ≤ w1.heap.size := B1.out.size
  have B2 := Lib.hid (B1.out.trans (hb.mono B1.out.size))
  have HF := Lib.hid (dfuse_dk w1.heap.size DS.new (n : Int) w2 hd rfl (by omega))
  clear hd hb
  generalize w1.heap.size = b at *
  go_wp2_with (go_at_call 17; refine HF.out.mono ?_; rintro e w3 ⟨rfl, hd, ha⟩)
  have h0 : ({ DS.new with fused := decide ((n : Int) ≥ 0), left := (n : Int) } : DS) = fuS n 0 := by
    simp [fuS, fuF, fuC, DS.new]
  rw [h0] at hd
  have B3 : Hid (Below w.heap.size w w3) := by
    exact ((Alt.of_below (R := (· = b)) (B2.out)).trans ha).to (fun j hj => by omega) (Nat.le_refl _)
  have D3 := Lib.hid hd
  clear hd ha h0 HF
  go_loopw [9] (fun s9 wr => ∃ i : Nat, i ≤ m ∧ s9 = .int .i64 (i : Int) ∧ Hid (Dk wr b (fuS n i)) ∧ Hid (Below w.heap.size w wr)) (fun i _ => m - (intOf i).toNat)
  case atStart => exact ⟨0, Nat.zero_le _, rfl, D3, B3⟩
  case round =>
    obtain ⟨i, hi, rfl, HD, HB⟩ := hrel
    by_cases hlt : i < m
    · have hlt' : (i : Int) < (m : Int) := by omega
      have hil := itoa_len 1 i (by omega)
      have HS := Lib.hid (fu_step n i hn)
      have HO : Hid ((fuS n i).ops + 1 < 2 ^ 61) := by
        show _ < _
        rw [fu_ops]
        have := Nat.min_le_left n i
        omega
      have HDEC := Lib.hid (rdec_any i (by omega) wr)
      generalize Lib.itoa (i : Int) = tx at *
      go_wp2_with fail
      refine HDEC.out.mono ?_
      rintro e w4 ⟨rfl, hb4⟩
      have HB4 := Lib.hid (HB.out.trans (hb4.mono HB.out.size))
      have HW := Lib.hid (dwrite_any b (fuS n i) [102] tx w4 (HD.out.below hb4) (by simp) (by omega) HO.out (fun _ => fu_fused n i))
      clear hb4 HB HDEC
      have fin : ∀ (w5 : World), Dk w5 b (fuS n (i + 1)) → Alt (· = b) w4 w5 → Hid (Dk w5 b (fuS n (i + 1))) ∧ Hid (Below w.heap.size w w5) := fun w5 h1 h2 => ⟨h1, ((Alt.of_below (R := (· = b)) HB4.out).trans h2).to (fun j hj => by omega) (Nat.le_refl _)⟩
      by_cases hin : i < n
      · have hin' : (i : Int) < (n : Int) := by omega
        have HS1 : Hid ((fuS n i).step (.wr [102] tx) = (0, fuS n (i + 1))) := by
          show _ = _
          rw [HS.out, if_pos hin]
        clear HS
        go_wp2_with fail
        refine HW.out.mono ?_
        rintro e w5 ⟨rfl, hd5, ha5⟩
        rw [HS1.out] at hd5 ⊢
        have HF := Lib.hid (fin w5 hd5 ha5)
        clear hd5 ha5 HW fin
        go_wp2
        go_roundw
        case rel => exact ⟨i + 1, hlt, by go_num, HF.out.1, HF.out.2⟩
        case measure => simp [intOf]; omega
      · have hin' : ¬ (i : Int) < (n : Int) := by omega
        have HS1 : Hid ((fuS n i).step (.wr [102] tx) = (6, fuS n (i + 1))) := by
          show _ = _
          rw [HS.out, if_neg hin]
        clear HS
        go_wp2_with fail
        refine HW.out.mono ?_
        rintro e w5 ⟨rfl, hd5, ha5⟩
        rw [HS1.out] at hd5 ⊢
        have HF := Lib.hid (fin w5 hd5 ha5)
        clear hd5 ha5 HW fin
        go_wp2
        go_roundw
        case rel => exact ⟨i + 1, hlt, by go_num, HF.out.1, HF.out.2⟩
        case measure => simp [intOf]; omega
    · obtain rfl : i = m := by omega
      have hlt' : ¬ (i : Int) < (i : Int) := Int.lt_irrefl _
      obtain ⟨q, hq⟩ : ∃ q, q = min n i := ⟨_, rfl⟩
      have hmin : ∀ W, (Builtin.min_ #[3, 3] 3 #[.int .i64 (n : Int), .int .i64 (i : Int)]).run Tryz.prog W = .ok (.int .i64 (q : Int)) W := by
        intro W
        rw [run_min_int2]
        congr 2
        split <;> omega
      have HDN := Lib.hid (ddown_dk b _ wr HD.out)
      have HOP := Lib.hid (dops_dk b _ wr HD.out)
      have HCR := Lib.hid (dcrash_any b _ k wr HD.out hk)
      rw [fu_down] at HDN
      rw [fu_ops, ← hq] at HOP
      rw [fu_crash, ← hq] at HCR
      have hqn : q ≤ n := by omega
      obtain ⟨rt, rc, hrd0⟩ : ∃ rt rc, DS.read ⟨fuF (lastK k q), fuF (lastK k q), [], q, false, 0, false⟩ [102] = (rt, rc) := ⟨_, _, rfl⟩
      have HREAD : Hid (∀ W, Dk W b ⟨fuF (lastK k q), fuF (lastK k q), [], q, false, 0, false⟩ → Calls Tryz.prog 21 #[.pointer (some ⟨b, 0, none⟩), .string ⟨[102].toArray⟩] W fun e w' => e = .returned (.tuple #[.string ⟨rt.toArray⟩, .int .i64 (rc : Int)]) ∧ Below W.heap.size W w') := fun W hW => by
        have := dread_disk b _ [102] W hW
        rw [hrd0] at this
        exact this
      have hrd := (fu_read (lastK k q) q).symm.trans hrd0
      clear HD hrd0
      by_cases hnm' : n < i
      · have hgt : (i : Int) > (n : Int) := by omega
        rw [decide_eq_true hnm'] at HDN
        go_wp2_with (first
          | (go_at_call 25; refine HDN.out.mono ?_; rintro e w4 ⟨rfl, rfl⟩)
          | (go_at_call 26; refine HOP.out.mono ?_; rintro e w4 ⟨rfl, rfl⟩)
          | (go_at_call 19; refine HCR.out.mono ?_; rintro e w5 ⟨rfl, hd5, ha5⟩; have HD5 := Lib.hid hd5; have HB5 := Lib.hid (((Alt.of_below (R := (· = b)) HB.out).trans ha5).to (fun j hj => by omega) (Nat.le_refl _)); clear hd5 ha5 HCR HOP HDN)
          | (go_at_call 21; refine (HREAD.out _ HD5.out).mono ?_; rintro e w6 ⟨rfl, hb6⟩; have HD6 := Lib.hid (HD5.out.below hb6); have HB6 := Lib.hid (HB5.out.trans (hb6.mono HB5.out.size)); clear hb6 HD5 HB5))
        go_loopw [12, 13] (fun s12 s13 wr => ∃ l : Nat, l ≤ q ∧ s12 = .int .i64 (lastK k l) ∧ s13 = .int .i64 (l : Int) ∧ Hid (Dk wr b ⟨fuF (lastK k q), fuF (lastK k q), [], q, false, 0, false⟩) ∧ Hid (Below w.heap.size w wr)) (fun _ l _ => q - (intOf l).toNat)
        case atStart => exact ⟨0, Nat.zero_le _, rfl, rfl, HD6, HB6⟩
        case round =>
          obtain ⟨l, hl, rfl, rfl, HD7, HB7⟩ := hrel
          clear HD6 HB6
          by_cases hlt2 : l < q
          · have hlt2' : (l : Int) < (q : Int) := by omega
            have kb0 := bit_at k l hk
            by_cases hbit : k.testBit l = true
            · rw [if_pos hbit] at kb0
              have HLK : Hid (lastK k (l + 1) = (l : Int)) := by
                show (if k.testBit l = true then (l : Int) else lastK k l) = _
                rw [if_pos hbit]
              clear hbit
              go_wp2
              go_roundw
              case rel => exact ⟨l + 1, hlt2, by rw [HLK.out], by go_num, HD7, HB7⟩
              case measure => simp [intOf]; omega
            · rw [if_neg hbit] at kb0
              have HLK : Hid (lastK k (l + 1) = lastK k l) := by
                show (if k.testBit l = true then (l : Int) else lastK k l) = _
                rw [if_neg hbit]
              clear hbit
              go_wp2
              go_roundw
              case rel => exact ⟨l + 1, hlt2, by rw [HLK.out], by go_num, HD7, HB7⟩
              case measure => simp [intOf]; omega
          · obtain rfl : l = q := by omega
            have hlt2' : ¬ (l : Int) < (l : Int) := Int.lt_irrefl _
            have HDN7 := Lib.hid (ddown_dk b _ wr HD7.out)
            have hjb := lastK_lt k l
            by_cases hj : lastK k l < 0
            · rw [if_pos hj] at hrd
              injection hrd with e1 e2
              subst e1
              subst e2
              generalize lastK k l = j at *
              go_wp2_with (first
                | (go_at_call 25; refine HDN7.out.mono ?_; rintro e w8 ⟨rfl, rfl⟩))
              go_ret
              exact ⟨rfl, HB7.out⟩
            · rw [if_neg hj] at hrd
              injection hrd with e1 e2
              subst e1
              subst e2
              obtain ⟨jn, hjn⟩ : ∃ jn : Nat, lastK k l = (jn : Int) := ⟨(lastK k l).toNat, by omega⟩
              have hjl : jn < 12 := by omega
              rw [hjn] at *
              have HDEC := Lib.hid (rdec_any jn (by omega) wr)
              generalize Lib.itoa (jn : Int) = tx at *
              go_wp2_with (first
                | (go_at_call 25; refine (ddown_dk b _ _ HD8.out).mono ?_; rintro e w9 ⟨rfl, rfl⟩)
                | (go_at_call 24; refine HDEC.out.mono ?_; rintro e w8 ⟨rfl, hb8⟩; have HD8 := Lib.hid (HD7.out.below hb8); have HB8 := Lib.hid (HB7.out.trans (hb8.mono HB7.out.size)); clear hb8))
              go_ret
              exact ⟨rfl, HB8.out⟩
      · have hgt : ¬ (i : Int) > (n : Int) := by omega
        rw [decide_eq_false hnm'] at HDN
        go_wp2_with (first
          | (go_at_call 25; refine HDN.out.mono ?_; rintro e w4 ⟨rfl, rfl⟩)
          | (go_at_call 26; refine HOP.out.mono ?_; rintro e w4 ⟨rfl, rfl⟩)
          | (go_at_call 19; refine HCR.out.mono ?_; rintro e w5 ⟨rfl, hd5, ha5⟩; have HD5 := Lib.hid hd5; have HB5 := Lib.hid (((Alt.of_below (R := (· = b)) HB.out).trans ha5).to (fun j hj => by omega) (Nat.le_refl _)); clear hd5 ha5 HCR HOP HDN)
          | (go_at_call 21; refine (HREAD.out _ HD5.out).mono ?_; rintro e w6 ⟨rfl, hb6⟩; have HD6 := Lib.hid (HD5.out.below hb6); have HB6 := Lib.hid (HB5.out.trans (hb6.mono HB5.out.size)); clear hb6 HD5 HB5))
        go_loopw [12, 13] (fun s12 s13 wr => ∃ l : Nat, l ≤ q ∧ s12 = .int .i64 (lastK k l) ∧ s13 = .int .i64 (l : Int) ∧ Hid (Dk wr b ⟨fuF (lastK k q), fuF (lastK k q), [], q, false, 0, false⟩) ∧ Hid (Below w.heap.size w wr)) (fun _ l _ => q - (intOf l).toNat)
        case atStart => exact ⟨0, Nat.zero_le _, rfl, rfl, HD6, HB6⟩
        case round =>
          obtain ⟨l, hl, rfl, rfl, HD7, HB7⟩ := hrel
          clear HD6 HB6
          by_cases hlt2 : l < q
          · have hlt2' : (l : Int) < (q : Int) := by omega
            have kb0 := bit_at k l hk
            by_cases hbit : k.testBit l = true
            · rw [if_pos hbit] at kb0
              have HLK : Hid (lastK k (l + 1) = (l : Int)) := by
                show (if k.testBit l = true then (l : Int) else lastK k l) = _
                rw [if_pos hbit]
              clear hbit
              go_wp2
              go_roundw
              case rel => exact ⟨l + 1, hlt2, by rw [HLK.out], by go_num, HD7, HB7⟩
              case measure => simp [intOf]; omega
            · rw [if_neg hbit] at kb0
              have HLK : Hid (lastK k (l + 1) = lastK k l) := by
                show (if k.testBit l = true then (l : Int) else lastK k l) = _
                rw [if_neg hbit]
              clear hbit
              go_wp2
              go_roundw
              case rel => exact ⟨l + 1, hlt2, by rw [HLK.out], by go_num, HD7, HB7⟩
              case measure => simp [intOf]; omega
          · obtain rfl : l = q := by omega
            have hlt2' : ¬ (l : Int) < (l : Int) := Int.lt_irrefl _
            have HDN7 := Lib.hid (ddown_dk b _ wr HD7.out)
            have hjb := lastK_lt k l
            by_cases hj : lastK k l < 0
            · rw [if_pos hj] at hrd
              injection hrd with e1 e2
              subst e1
              subst e2
              generalize lastK k l = j at *
              go_wp2_with (first
                | (go_at_call 25; refine HDN7.out.mono ?_; rintro e w8 ⟨rfl, rfl⟩))
              go_ret
              exact ⟨rfl, HB7.out⟩
            · rw [if_neg hj] at hrd
              injection hrd with e1 e2
              subst e1
              subst e2
              obtain ⟨jn, hjn⟩ : ∃ jn : Nat, lastK k l = (jn : Int) := ⟨(lastK k l).toNat, by omega⟩
              have hjl : jn < 12 := by omega
              rw [hjn] at *
              have HDEC := Lib.hid (rdec_any jn (by omega) wr)
              generalize Lib.itoa (jn : Int) = tx at *
              go_wp2_with (first
                | (go_at_call 25; refine (ddown_dk b _ _ HD8.out).mono ?_; rintro e w9 ⟨rfl, rfl⟩)
                | (go_at_call 24; refine HDEC.out.mono ?_; rintro e w8 ⟨rfl, hb8⟩; have HD8 := Lib.hid (HD7.out.below hb8); have HB8 := Lib.hid (HB7.out.trans (hb8.mono HB7.out.size)); clear hb8))
              go_ret
              exact ⟨rfl, HB8.out⟩
end Go.Proofs.YtjoinnjhpfakpaaGreatDoor

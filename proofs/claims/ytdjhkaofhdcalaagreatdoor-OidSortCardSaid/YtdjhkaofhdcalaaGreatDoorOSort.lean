/-
  OidSort, walked.
-/
import Derived.Test.YtdjhkaofhdcalaaGreatDoorSrt
import Derived.Test.YtdjhkaofhdcalaaGreatDoorReq
import Derived.Test.YtdjhkaofhdcalaaGreatDoorBegB
import Derived.Lib.QuietBelow
namespace Go.Proofs.YtdjhkaofhdcalaaGreatDoor
open Go.RowKit

theorem slice_toN {P : Program} {A : Option Addr} {c : Nat} (T E m n : Nat) (hu : P.underlying T = some (.slice E)) (he : (P.info? E).isSome = true) (hn : n ≤ c) (W : World) :
    (Instr.slice T (.slice A m c) none (some (.int .i64 (n : Int))) none).run P W = .ok (.slice A n c) W := by
  have hel : P.elem T = E := by simp [Program.elem, hu]
  have h := run_slice_h (P := P) (w := W) (t := T) (a := A) (len := m) (cap := c) (by rw [hel]; exact hu) .i64 (n : Int) (by omega) (by omega)
  rw [h, hel]
  cases hq : P.info? E with
  | none => simp [hq] at he
  | some i =>
    have hadd : A.map (fun a => a.add 0) = A := by
      cases A with
      | none => rfl
      | some a => simp [Addr.add]
    simp [sizeOf, typeInfo, hq, sliced, hadd]
theorem below_cls {w W : World} (h : ∃ p : Regrown, W = Sort.grow (redrawn w p.d) p.os) : Below w.heap.size w W := by
  obtain ⟨p, rfl⟩ := h
  exact below_regrown _ _ _
set_option maxRecDepth 100000 in
set_option maxHeartbeats 4000000 in
theorem osort_any (A : Option Addr) (c : Nat) (ids : List Nm) (w : World) (hE : Env w) (hA : ArgN w A c ids) :
    Calls Tryz.prog 4 #[.slice A ids.length c] w fun e w' => e = .returned (.bool true) ∧ Below w.heap.size w w' := by
  have HE := Lib.hid hE
  have HA := Lib.hid hA
  have hlc : ids.length ≤ c := hA.1
  obtain ⟨m, hm, hm1, hm2⟩ : ∃ m, m = min ids.length 20 ∧ m ≤ ids.length ∧ m ≤ 20 := ⟨_, rfl, by omega, by omega⟩
  have hmin : ∀ W, (Builtin.min_ #[3, 3] 3 #[.int .i64 (ids.length : Int), .int .i64 20]).run Tryz.prog W = .ok (.int .i64 (m : Int)) W := by
    intro W
    rw [run_min_int2]
    congr 2
    split <;> omega
  have hsl := slice_toN (P := Tryz.prog) (A := A) (c := c) 24 23 ids.length m Tryz.underlying24 (by kernel_rfl) (by omega)
  clear hE hA hm
  go_enter Tryz.func4, Tryz.ntmps4
  go_wp2_with fail
  refine (begun_any _ HE.out).mono ?_
  rintro e w1 ⟨rfl, hB⟩
  have HB1 := Lib.hid hB
  clear hB
  have HA1 := Lib.hid ((HA.out.take m).later HB1.out)
  have hbl : (ids.take m).length = m := by rw [List.length_take]; omega
  generalize ids.take m = l at *
  have HLL := Lib.hid hbl
  clear hbl
  go_wp2_with fail
  have HS := Lib.hid (sort_nm A c l w1 HA1.out (by rw [HLL.out]; omega))
  rw [HLL.out] at HS
  refine HS.out.mono ?_
  rintro e w2 ⟨A', c', s, rfl, hri, hme, hle, hAS, hbl, hB⟩
  have HB2 := Lib.hid (HB1.out.trans (hB.mono HB1.out.size))
  have HA2 := Lib.hid (HA1.out.later hB)
  have HRI := Lib.hid hri
  have HME := Lib.hid hme
  have HAS := Lib.hid hAS
  have hsl2 : s.length ≤ 20 := by omega
  clear hB hri hme hAS hbl hle hsl hmin HS HA1 HB1 HA
  go_wp2_with fail
  go_loopg [5, 19] s.length (fun g _ s19 wr => ∃ k : Nat, k ≤ s.length ∧ s.length - k ≤ g ∧ s19 = .int .i64 k ∧ Hid (Below w2.heap.size w2 wr))
  case atStart => exact ⟨0, Nat.zero_le _, by omega, rfl, Lib.hid (Below.refl _ _)⟩
  case round =>
    obtain ⟨k, hk, hg, rfl, hwr⟩ := hrel
    by_cases hlt : k < s.length
    · have hlt' : (k : Int) < (s.length : Int) := by omega
      obtain ⟨b, o, rfl, hr⟩ := HAS.out.2.2.2 (by omega)
      have HR := Lib.hid hr
      have HBW := Lib.hid (HB2.out.trans (hwr.out.mono HB2.out.size))
      obtain ⟨y, hy⟩ : ∃ y, y = s.getD k default := ⟨_, rfl⟩
      have hbl := hr.lt (by omega)
      have HLY : Hid (∀ W, Below wr.heap.size wr W → W.rangeAt b (o + k * 32) (encN y)) := by
        intro W hW
        rw [hy]
        exact (hr.below (hwr.out.trans (hW.mono hwr.out.size)) hbl) k hlt
      have HYI := Lib.hid (infoX y)
      have HHAS : Hid (∀ W, Below wr.heap.size wr W → Calls Tryz.prog 18 #[.slice A m c, .agg (encN y).toArray] W fun e w' => e = .returned (.bool true) ∧ Below W.heap.size W w') := by
        intro W hW
        have := has_nm A c l y W (HA2.out.later (hwr.out.trans (hW.mono hwr.out.size))) (by rw [HLL.out]; omega)
        rw [HLL.out] at this
        have hy2 : y ∈ l := by rw [← HME.out, hy]; exact at_mem s k hlt
        rw [show decide (y ∈ l) = true by simp [hy2]] at this
        exact this
      have HY := Lib.hid hy
      clear hr hy hbl
      by_cases hk0 : k = 0
      · subst hk0
        go_wp2_with fail
        refine wp_region_quiet_below (by kernel_rfl) (by kernel_rfl) ?_
        repeat (first
          | go_big_quiet_step ((go_at_call 18; exact Calls.regrown_of (HHAS.out _ (below_regrown _ _ _))))
          | (refine q_loadm _ _ rfl (by rfl) b (o + 0 * 32) (encN y) rfl _ Tryz.underlying23 rfl HYI.out (fun W hC => HLY.out W (below_cls hC)) ?_; simp only [Act.put]; go_simp))
        refine wpQuiet_nil ?_
        intro p
        have HW := Lib.hid (below_regrown wr p.d p.os)
        generalize Sort.grow (redrawn wr p.d) p.os = W at *
        go_wp2
        go_roundg (s.length - 1)
        case measure => omega
        case rel => exact ⟨1, by omega, Nat.le_refl _, by go_num, Lib.hid (hwr.out.trans (HW.out.mono hwr.out.size))⟩
      · obtain ⟨x, hx⟩ : ∃ x, x = s.getD (k - 1) default := ⟨_, rfl⟩
        have hbl := HR.out.lt (by omega)
        have HLX : Hid (∀ W, Below wr.heap.size wr W → W.rangeAt b (o + (k - 1) * 32) (encN x)) := by
          intro W hW
          rw [hx]
          exact (HR.out.below (hwr.out.trans (hW.mono hwr.out.size)) hbl) (k - 1) (by omega)
        have HXI := Lib.hid (infoX x)
        have HLS : Hid (∀ W, Below wr.heap.size wr W → Calls Tryz.prog 14 #[.agg (encN x).toArray, .agg (encN y).toArray] W fun e w' => e = .returned (.bool true) ∧ Below W.heap.size W w') := by
          intro W _
          have := less_nm x y W
          have hlt2 : ltN x y := by rw [hx, HY.out]; exact HRI.out.at_ (by omega) hlt
          rw [show decide (ltN x y) = true by simp [hlt2]] at this
          exact this
        have hw1 : wrap64 ((k : Int) - 1) = ((k - 1 : Nat) : Int) := by unfold wrap64; omega
        have hb1 : k - 1 < s.length := by omega
        have hgt0 : (0 : Int) < (k : Int) := by omega
        have hgt : 0 < k := by omega
        have hgt2 : decide ((k : Int) > 0) = true := by simp; omega
        clear hx hbl
        go_wp2_with fail
        refine wp_region_quiet_below (by kernel_rfl) (by kernel_rfl) ?_
        repeat (first
          | go_big_quiet_step ((first
            | (go_at_call 18; exact Calls.regrown_of (HHAS.out _ (below_regrown _ _ _)))
            | (go_at_call 14; exact Calls.regrown_of (HLS.out _ (below_regrown _ _ _)))))
          | (refine q_loadm _ _ rfl (by rfl) b (o + (k - 1) * 32) (encN x) rfl _ Tryz.underlying23 rfl HXI.out (fun W hC => HLX.out W (below_cls hC)) ?_; simp only [Act.put]; go_simp)
          | (refine q_loadm _ _ rfl (by rfl) b (o + k * 32) (encN y) rfl _ Tryz.underlying23 rfl HYI.out (fun W hC => HLY.out W (below_cls hC)) ?_; simp only [Act.put]; go_simp))
        refine wpQuiet_nil ?_
        intro p
        have HW := Lib.hid (below_regrown wr p.d p.os)
        generalize Sort.grow (redrawn wr p.d) p.os = W at *
        go_wp2
        go_roundg (s.length - (k + 1))
        case measure => omega
        case rel => exact ⟨k + 1, by omega, Nat.le_refl _, by go_num, Lib.hid (hwr.out.trans (HW.out.mono hwr.out.size))⟩
    · have hk2 : k = s.length := by omega
      subst hk2
      go_wp2_with fail
      go_loopg [6, 49] m (fun g _ s49 wr => ∃ k : Nat, k ≤ m ∧ m - k ≤ g ∧ s49 = .int .i64 k ∧ Hid (Below w2.heap.size w2 wr))
      case atStart => exact ⟨0, Nat.zero_le _, by omega, rfl, hwr⟩
      case round =>
        obtain ⟨k, hk, hg, rfl, hwr⟩ := hrel
        by_cases hlt : k < m
        · have hlt' : (k : Int) < (m : Int) := by omega
          obtain ⟨b, o, rfl, hr⟩ := HA2.out.2.2.2 (by rw [HLL.out]; omega)
          obtain ⟨y, hy⟩ : ∃ y, y = l.getD k default := ⟨_, rfl⟩
          have hbl := hr.lt (by rw [HLL.out]; omega)
          have hry := (hr.below hwr.out hbl) k (by rw [HLL.out]; exact hlt)
          rw [← hy] at hry
          have HRY := Lib.hid hry
          have HYI := Lib.hid (infoX y)
          have hHAS := has_nm A' c' s y wr (HAS.out.later hwr.out) (by omega)
          have hy2 : y ∈ s := by rw [HME.out, hy]; exact at_mem l k (by rw [HLL.out]; exact hlt)
          rw [show decide (y ∈ s) = true by simp [hy2]] at hHAS
          have HHAS := Lib.hid hHAS
          clear hy hr hry hbl hHAS hy2
          go_wp2_with (first
            | (refine wpList_load_mid rfl 23 _ rfl b (o + k * 32) rfl (encN y) _ HRY.out Tryz.underlying23 rfl HYI.out ?_)
            | (go_at_call 18; refine HHAS.out.mono ?_; rintro e w' ⟨rfl, hbe⟩))
          go_roundg (m - (k + 1))
          case measure => omega
          case rel => exact ⟨k + 1, by omega, Nat.le_refl _, by go_num, Lib.hid (hwr.out.trans (hbe.mono hwr.out.size))⟩
        · have hk3 : k = m := by omega
          subst hk3
          have hASr := HAS.out.later hwr.out
          have HB3 := Lib.hid (HB2.out.trans (hwr.out.mono HB2.out.size))
          have HS2 := Lib.hid (sort_nm A' c' s wr hASr (by omega))
          have HASr := Lib.hid hASr
          clear hASr
          go_wp2_with fail
          refine HS2.out.mono ?_
          rintro e w4 ⟨A4, c4, s4, rfl, hri, hme, hle, hAS4, hbl, hB⟩
          obtain rfl : s4 = s := rise_uniq hri HRI.out hme
          have HEQ := Lib.hid (req_nm A4 c4 A' c' s4 w4 hAS4 (HASr.out.later hB) (by omega))
          have HB4 := Lib.hid (HB3.out.trans (hB.mono HB3.out.size))
          clear hri hme hle hAS4 hbl hB HS2
          go_wp2_with fail
          refine HEQ.out.mono ?_
          rintro e w5 ⟨rfl, hB⟩
          have HB5 := Lib.hid (HB4.out.trans (hB.mono HB4.out.size))
          clear hB
          go_wp2
          go_ret
          exact ⟨rfl, HB5.out⟩
end Go.Proofs.YtdjhkaofhdcalaaGreatDoor

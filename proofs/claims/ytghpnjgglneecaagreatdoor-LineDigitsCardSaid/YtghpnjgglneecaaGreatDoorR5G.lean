/-
  The reference's Get of layer 5, walked, of texts of four signs and more.
-/
import Derived.Test.YtghpnjgglneecaaGreatDoorR5H
namespace Go.Proofs.YtghpnjgglneecaaGreatDoor
open Go.RowKit

def capN : Option Nat → Nat ⊕ Int
  | some n => if n ≤ 1004 then .inl n else .inr 1
  | none => .inr 1
theorem lenGo_four (c3 c2 c1 c0 : UInt8) (z : List UInt8) : lenGo 4 0 (c3 :: c2 :: c1 :: c0 :: z) = capN (hgo 0 [c3, c2, c1, c0]) := by
  have h3 := hval_lt c3
  have h2 := hval_lt c2
  have h1 := hval_lt c1
  have h0 := hval_lt c0
  simp only [lenGo, hgo]
  generalize hval c3 = a3 at *
  generalize hval c2 = a2 at *
  generalize hval c1 = a1 at *
  generalize hval c0 = a0 at *
  have fin : ∀ (o : Option Nat), (∀ n, o = some n → 1004 < n) → (Sum.inr 1 : Nat ⊕ Int) = capN o := by
    intro o ho
    cases o with
    | none => rfl
    | some n => have := ho n rfl; show _ = (if n ≤ 1004 then _ else _); rw [if_neg (by omega)]
  by_cases e3 : a3 < 0
  · rw [if_pos e3, if_pos e3]; rfl
  rw [if_neg e3, if_neg e3]
  by_cases l3 : (0 * 16 + a3.toNat) * 16 ^ 3 ≤ 1004
  case neg =>
    rw [if_neg l3]
    refine fin _ fun n hn => ?_
    split at hn
    · cases hn
    · split at hn
      · cases hn
      · split at hn
        · cases hn
        · injection hn with hn; omega
  rw [if_pos l3]
  by_cases e2 : a2 < 0
  · rw [if_pos e2, if_pos e2]; rfl
  rw [if_neg e2, if_neg e2]
  by_cases l2 : ((0 * 16 + a3.toNat) * 16 + a2.toNat) * 16 ^ 2 ≤ 1004
  case neg =>
    rw [if_neg l2]
    refine fin _ fun n hn => ?_
    split at hn
    · cases hn
    · split at hn
      · cases hn
      · injection hn with hn; omega
  rw [if_pos l2]
  by_cases e1 : a1 < 0
  · rw [if_pos e1, if_pos e1]; rfl
  rw [if_neg e1, if_neg e1]
  by_cases l1 : (((0 * 16 + a3.toNat) * 16 + a2.toNat) * 16 + a1.toNat) * 16 ^ 1 ≤ 1004
  case neg =>
    rw [if_neg l1]
    refine fin _ fun n hn => ?_
    split at hn
    · cases hn
    · injection hn with hn; omega
  rw [if_pos l1]
  by_cases e0 : a0 < 0
  · rw [if_pos e0, if_pos e0]; rfl
  rw [if_neg e0, if_neg e0]
  show _ = (if _ then _ else _)
  simp
theorem firstV_no (p z : List UInt8) (hp : p.length = 4) (h : mayV p = false) : firstV (p ++ z) = .inr 1 := by
  match p, hp with
  | [c3, c2, c1, c0], _ =>
    unfold mayV at h
    unfold firstV
    rw [show [c3, c2, c1, c0] ++ z = c3 :: c2 :: c1 :: c0 :: z from rfl, lenGo_four]
    cases hg : hgo 0 [c3, c2, c1, c0] with
    | none => rfl
    | some n =>
      rw [hg] at h
      dsimp only at h
      unfold capN
      dsimp only
      by_cases hn : n ≤ 1004
      · rw [if_pos hn]
        simp only [lenB, decide_eq_true hn, Bool.true_and, Bool.and_eq_false_iff, bne_eq_false_iff_eq] at h
        dsimp only
        rw [if_neg (by omega), if_neg (by omega), if_pos (by omega)]
      · rw [if_neg hn]
theorem firstV_yes (p z : List UInt8) (hp : p.length = 4) (h : mayV p = true) : ∃ n, hgo 0 p = some n ∧ n ≤ 1004 ∧ n ≠ 2 ∧ n ≠ 3 ∧ n ≠ 4 ∧
    firstV (p ++ z) = if n = 0 then .inl (2, [], 4) else if n = 1 then .inl (3, [], 4) else if n ≤ 4 then .inr 1 else if (p ++ z).length < n then .inr 2 else .inl (1, ((p ++ z).take n).drop 4, n) := by
  match p, hp with
  | [c3, c2, c1, c0], _ =>
    unfold mayV at h
    cases hg : hgo 0 [c3, c2, c1, c0] with
    | none => rw [hg] at h; cases h
    | some n =>
      rw [hg] at h
      simp only [lenB, Bool.and_eq_true, decide_eq_true_eq, bne_iff_ne] at h
      refine ⟨n, rfl, h.1, h.2.1, h.2.2.1, h.2.2.2, ?_⟩
      unfold firstV
      rw [show [c3, c2, c1, c0] ++ z = c3 :: c2 :: c1 :: c0 :: z from rfl, lenGo_four, hg]
      unfold capN
      dsimp only
      rw [if_pos h.1]
/-- What Get tells. -/
def fourE : (Nat × List UInt8 × Nat) ⊕ Int → Ending → Prop
  | .inl (k, t, n), e => e = .returned (.tuple #[.int .i64 (k : Int), .string ⟨t.toArray⟩, .int .i64 (n : Int), .int .i64 0])
  | .inr c, e => e = .returned (.tuple #[.int .i64 0, .string ⟨#[]⟩, .int .i64 0, .int .i64 c])
set_option maxRecDepth 100000 in
set_option maxHeartbeats 4000000 in
theorem r5get_any (p z : List UInt8) (w : World) (hp : p.length = 4) (hz : z.length ≤ 1048576) : Calls Tryz.prog 40 #[.string ⟨(p ++ z).toArray⟩] w fun e w' => fourE (firstV (p ++ z)) e ∧ ∃ q, w' = w.drewN q := by
  have hlen : (p ++ z).length = 4 + z.length := by rw [List.length_append, hp]
  have hex4 : (ByteArray.mk (p ++ z).toArray).extract 0 4 = ⟨p.toArray⟩ := by
    rw [ByteArray.extract_mk]
    simp
    rw [List.take_append_of_le_length (by omega), List.take_of_length_le (by omega)]
  have hmin : ∀ W, (Builtin.min_ #[3, 3] 3 #[.int .i64 ((p ++ z).length : Int), .int .i64 4]).run Tryz.prog W = .ok (.int .i64 4) W := by
    intro W
    rw [run_min_int2]
    congr 2
    split <;> omega
  have HMY := Lib.hid fun W => rmay_any p W hp
  have HHX := Lib.hid fun W => rhex_any p W (by omega)
  rw [hexV_eq] at HHX
  have hcut := fun n (h : 4 ≤ n) (h2 : n ≤ (p ++ z).length) W => str_cut (p ++ z) 4 n h h2 W
  have HCUT := Lib.hid hcut
  have h4 : 4 ≤ (p ++ z).length := by omega
  have hmx : (p ++ z).length ≤ 1048580 := by omega
  clear hlen
  cases hm : mayV p with
  | false =>
    have HR := Lib.hid (firstV_no p z hp hm)
    rw [hm] at HMY
    clear hm hcut
    generalize p ++ z = ss at *
    go_enter Tryz.func40, Tryz.ntmps40
    go_wp2_with fail
    (with_reducible refine (HMY.out _).mono ?_)
    rintro e w' ⟨rfl, q, rfl⟩
    go_wp2
    refine bodyPost_ret (v := .tuple #[.int .i64 0, .string ⟨#[]⟩, .int .i64 0, .int .i64 1]) (by simp [results, Tryz.results40, go_sem]) rfl ⟨by rw [HR.out]; rfl, _, rfl⟩
  | true =>
    obtain ⟨n, hg, hn1, hn2, hn3, hn4, hv⟩ := firstV_yes p z hp hm
    have HV := Lib.hid hv
    rw [hm] at HMY
    rw [hg] at HHX
    have HHX2 : Hid (∀ W, Calls Tryz.prog 77 #[.string ⟨p.toArray⟩] W fun e w' => e = .returned (.int .i64 (n : Int)) ∧ W = w') := HHX.out
    clear hm hv hg hcut HHX
    generalize p ++ z = ss at *
    by_cases h0 : n = 0
    · subst h0
      have HR : Hid (firstV ss = .inl (2, [], 4)) := by show _ = _; rw [HV.out]; rfl
      go_enter Tryz.func40, Tryz.ntmps40
      go_wp2_with fail
      (with_reducible refine (HMY.out _).mono ?_)
      rintro e w' ⟨rfl, q, rfl⟩
      go_wp2_with fail
      refine (HHX2.out _).mono ?_
      rintro e w' ⟨rfl, rfl⟩
      go_wp2
      refine bodyPost_ret (v := .tuple #[.int .i64 2, .string ⟨#[]⟩, .int .i64 4, .int .i64 0]) (by simp [results, Tryz.results40, go_sem]) rfl ⟨by rw [HR.out]; rfl, _, rfl⟩
    · have e0 : ((n : Int) == 0) = false := beq_eq_false_iff_ne.2 (by omega)
      by_cases h1 : n = 1
      · subst h1
        have HR : Hid (firstV ss = .inl (3, [], 4)) := by show _ = _; rw [HV.out]; rfl
        go_enter Tryz.func40, Tryz.ntmps40
        go_wp2_with fail
        (with_reducible refine (HMY.out _).mono ?_)
        rintro e w' ⟨rfl, q, rfl⟩
        go_wp2_with fail
        (with_reducible refine (HHX2.out _).mono ?_)
        rintro e w' ⟨rfl, rfl⟩
        go_wp2
        refine bodyPost_ret (v := .tuple #[.int .i64 3, .string ⟨#[]⟩, .int .i64 4, .int .i64 0]) (by simp [results, Tryz.results40, go_sem]) rfl ⟨by rw [HR.out]; rfl, _, rfl⟩
      · have e1 : ((n : Int) == 1) = false := beq_eq_false_iff_ne.2 (by omega)
        by_cases hl : ss.length < n
        · have HR : Hid (firstV ss = .inr 2) := by show _ = _; rw [HV.out, if_neg h0, if_neg h1, if_neg (by omega), if_pos hl]
          have hd : decide (ss.length < n) = true := by simpa using hl
          clear h0 h1
          go_enter Tryz.func40, Tryz.ntmps40
          go_wp2_with fail
          (with_reducible refine (HMY.out _).mono ?_)
          rintro e w' ⟨rfl, q, rfl⟩
          go_wp2_with fail
          (with_reducible refine (HHX2.out _).mono ?_)
          rintro e w' ⟨rfl, rfl⟩
          go_wp2
          refine bodyPost_ret (v := .tuple #[.int .i64 0, .string ⟨#[]⟩, .int .i64 0, .int .i64 2]) (by simp [results, Tryz.results40, go_sem]) rfl ⟨by rw [HR.out]; rfl, _, rfl⟩
        · have HR : Hid (firstV ss = .inl (1, (ss.take n).drop 4, n)) := by show _ = _; rw [HV.out, if_neg h0, if_neg h1, if_neg (by omega), if_neg hl]
          have hd : decide (ss.length < n) = false := by simpa using hl
          have hcut := HCUT.out n (by omega) (by omega)
          rw [show ((4 : Nat) : Int) = 4 from rfl] at hcut
          have hn5 : 4 ≤ n := by omega
          have hnl : n ≤ ss.length := by omega
          clear h0 h1 hl
          generalize (ss.take n).drop 4 = tt at *
          go_enter Tryz.func40, Tryz.ntmps40
          go_wp2_with fail
          (with_reducible refine (HMY.out _).mono ?_)
          rintro e w' ⟨rfl, q, rfl⟩
          go_wp2_with fail
          (with_reducible refine (HHX2.out _).mono ?_)
          rintro e w' ⟨rfl, rfl⟩
          go_wp2_with fail
          go_quiet (fail)
          rw [World.drewN_drewN]
          go_wp2
          refine bodyPost_ret (v := .tuple #[.int .i64 (1 : Int), .string ⟨tt.toArray⟩, .int .i64 (n : Int), .int .i64 0]) (by simp [results, Tryz.results40, go_sem]) rfl ⟨by rw [HR.out]; rfl, _, rfl⟩
end Go.Proofs.YtghpnjgglneecaaGreatDoor

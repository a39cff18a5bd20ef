/-
  The reference's hex and may of layer 5, walked at four signs.
-/
import Derived.Test.YtghpnjgglneecaaGreatDoorRefN
import Derived.Test.YtghpnjgglneecaaGreatDoorLineP
import Derived.Test.YtghpnjgglneecaaGreatDoorOHexM
import Derived.Test.YtghpnjgglneecaaGreatDoorQTail
namespace Go.Proofs.YtghpnjgglneecaaGreatDoor
open Go.RowKit

/-- A number out of digits; -1. -/
def hexV (l : List UInt8) : Int := match hgo 0 l with
  | some v => (v : Int)
  | none => -1
def hexO : Option Nat → Int
  | some v => (v : Int)
  | none => -1
theorem hexV_eq (l : List UInt8) : hexV l = hexO (hgo 0 l) := by
  unfold hexV
  cases hgo 0 l <;> rfl
set_option maxHeartbeats 2000000 in
theorem rhex_any (l : List UInt8) (w : World) (hl : l.length ≤ 4) : Calls Tryz.prog 77 #[.string ⟨l.toArray⟩] w fun e w' => e = .returned (.int .i64 (hexV l)) ∧ w = w' := by
  rw [hexV_eq]
  obtain ⟨fin, hfin⟩ : ∃ fin, fin = hgo 0 l := ⟨_, rfl⟩
  rw [← hfin]
  have HF := Lib.hid hfin
  clear hfin
  go_enter Tryz.func77, Tryz.ntmps77
  go_wp2
  go_loopw [3, 4] (fun z i wr => ∃ k v : Nat, k ≤ l.length ∧ v < 16 ^ k ∧ i = .int .i64 (k : Int) ∧ z = .int .i64 (v : Int) ∧ wr = w ∧ fin = hgo v (l.drop k)) (fun _ i _ => l.length - (intOf i).toNat)
  case atStart => exact ⟨0, 0, by omega, by decide, rfl, rfl, rfl, HF.out⟩
  case round =>
    obtain ⟨k, v, hk, hv, rfl, rfl, rfl, hgo'⟩ := hrel
    by_cases hlt : k < l.length
    · have hidx := str_at l k hlt
      have hv5 : v < 65536 := Nat.lt_of_lt_of_le hv (by have := Nat.pow_le_pow_right (n := 16) (by decide) (show k ≤ 4 by omega); simpa using this)
      have HVN : Hid (∀ d, d < 16 → v * 16 + d < 16 ^ (k + 1)) := fun d hd => by rw [Nat.pow_succ]; omega
      have hdrop : hgo v (l.drop k) = if hval (l.getD k 0) < 0 then none else hgo (v * 16 + (hval (l.getD k 0)).toNat) (l.drop (k + 1)) := by
        rw [List.drop_eq_getElem_cons hlt, hgo]
        simp [List.getElem?_eq_getElem hlt]
      rw [hdrop] at hgo'
      clear hdrop hv
      generalize l.getD k 0 = c at *
      have hc256 := c.toNat_lt
      by_cases h1 : 48 ≤ c.toNat ∧ c.toNat ≤ 57
      · rw [hval_dig c h1.1 h1.2, if_neg (by omega)] at hgo'
        have HG := Lib.hid hgo'
        obtain ⟨d, hd⟩ : ∃ d, c.toNat = d + 48 := ⟨c.toNat - 48, by omega⟩
        have k1 : decide (48 ≤ (c.toNat : Int)) = true := by simp; omega
        have k2 : decide ((c.toNat : Int) ≤ 57) = true := by simp; omega
        obtain ⟨h1a, h1b⟩ := h1
        have HD := Lib.hid hd
        have HV := HVN.out (c.toNat - 48) (by omega)
        clear hgo' hd HVN
        have HV := Lib.hid HV
        go_wp2
        go_roundw
        case rel =>
          refine ⟨k + 1, _, by omega, HV.out, by go_num, ?_, trivial, ?_⟩
          · congr 1
            have := HD.out
            omega
          · have := HG.out
            rw [show ((c.toNat : Int) - 48).toNat = c.toNat - 48 by omega] at this
            exact this
        case measure => simp [intOf]; omega
      · by_cases h2 : 97 ≤ c.toNat ∧ c.toNat ≤ 102
        · rw [hval_let c h2.1 h2.2, if_neg (by omega)] at hgo'
          have HG := Lib.hid hgo'
          have k2 : decide ((c.toNat : Int) ≤ 57) = false := by simp; omega
          have k1 : decide (48 ≤ (c.toNat : Int)) = true := by simp; omega
          have k3 : decide (97 ≤ (c.toNat : Int)) = true := by simp; omega
          have k4 : decide ((c.toNat : Int) ≤ 102) = true := by simp; omega
          obtain ⟨h2a, h2b⟩ := h2
          have HV := HVN.out (c.toNat - 87) (by omega)
          have HV := Lib.hid HV
          clear hgo' h1 HVN
          go_wp2
          go_roundw
          case rel =>
            refine ⟨k + 1, _, by omega, HV.out, by go_num, ?_, trivial, ?_⟩
            · congr 1
              omega
            · have := HG.out
              rw [show ((c.toNat : Int) - 87).toNat = c.toNat - 87 by omega] at this
              exact this
          case measure => simp [intOf]; omega
        · rw [hval_not c h1 h2, if_pos (by decide)] at hgo'
          have HG := Lib.hid hgo'
          clear hgo' HVN
          by_cases g1 : 48 ≤ c.toNat
          · have k1 : decide (48 ≤ (c.toNat : Int)) = true := by simp; omega
            have k2 : decide ((c.toNat : Int) ≤ 57) = false := by simp; omega
            by_cases g2 : 97 ≤ c.toNat
            · have k3 : decide (97 ≤ (c.toNat : Int)) = true := by simp; omega
              have k4 : decide ((c.toNat : Int) ≤ 102) = false := by simp; omega
              clear h1 h2 g1 g2
              go_wp2
              go_ret
              exact ⟨by rw [HG.out]; rfl, rfl⟩
            · have k3 : decide (97 ≤ (c.toNat : Int)) = false := by simp; omega
              clear h1 h2 g1 g2
              go_wp2
              go_ret
              exact ⟨by rw [HG.out]; rfl, rfl⟩
          · have k1 : decide (48 ≤ (c.toNat : Int)) = false := by simp; omega
            have k3 : decide (97 ≤ (c.toNat : Int)) = false := by simp; omega
            clear h1 h2 g1
            go_wp2
            go_ret
            exact ⟨by rw [HG.out]; rfl, rfl⟩
    · have hend : l.drop k = [] := List.drop_eq_nil_of_le (by omega)
      rw [hend] at hgo'
      have HG : Hid (fin = some v) := hgo'
      clear hgo' hend
      go_wp2
      go_ret
      exact ⟨by rw [HG.out]; rfl, rfl⟩

/-- Which lengths there are. -/
def lenB (n : Nat) : Bool := decide (n ≤ 1004) && (n != 2 && (n != 3 && n != 4))
def mayV (l : List UInt8) : Bool := match hgo 0 l with
  | some n => lenB n
  | none => false
theorem dig_cut (a : Nat) (ha : a < 16) (w : World) : (Instr.slice 9 (.string ⟨#[48, 49, 50, 51, 52, 53, 54, 55, 56, 57, 97, 98, 99, 100, 101, 102]⟩) (some (.int .i64 (a : Int))) (some (.int .i64 ((a : Int) + 1))) none).run Tryz.prog w = .ok (.string ⟨#[hx a]⟩) w := by
  have h : a = 0 ∨ a = 1 ∨ a = 2 ∨ a = 3 ∨ a = 4 ∨ a = 5 ∨ a = 6 ∨ a = 7 ∨ a = 8 ∨ a = 9 ∨ a = 10 ∨ a = 11 ∨ a = 12 ∨ a = 13 ∨ a = 14 ∨ a = 15 := by omega
  rcases h with rfl | rfl | rfl | rfl | rfl | rfl | rfl | rfl | rfl | rfl | rfl | rfl | rfl | rfl | rfl | rfl
  all_goals (show _ = _; kernel_rfl)
theorem four_digs (i : Nat) (h : i ≤ 1004) : (((ByteArray.mk #[48] ++ ByteArray.mk #[hx (i / 256 % 16)]) ++ ByteArray.mk #[hx (i / 16 % 16)]) ++ ByteArray.mk #[hx (i % 16)]) = ⟨(hexs 4 i).toArray⟩ := by
  have e : hexs 4 i = [hx (i / 4096 % 16), hx (i / 256 % 16), hx (i / 16 % 16), hx (i / 1 % 16)] := rfl
  rw [e, show i / 4096 % 16 = 0 by omega, Nat.div_one]
  rw [show (ByteArray.mk #[48]) = ⟨[48].toArray⟩ from rfl, show (ByteArray.mk #[hx (i / 256 % 16)]) = ⟨[hx (i / 256 % 16)].toArray⟩ from rfl, show (ByteArray.mk #[hx (i / 16 % 16)]) = ⟨[hx (i / 16 % 16)].toArray⟩ from rfl, show (ByteArray.mk #[hx (i % 16)]) = ⟨[hx (i % 16)].toArray⟩ from rfl]
  rw [ba_append, ba_append, ba_append]
  rfl
theorem hgo_some (l : List UInt8) : ∀ z v, hgo z l = some v → v < (z + 1) * 16 ^ l.length ∧ (∀ c, c ∈ l → 0 ≤ hval c) := by
  induction l with
  | nil => intro z v h; injection h with h; subst h; simp
  | cons c l ih =>
    intro z v h
    rw [hgo] at h
    split at h
    · cases h
    · rename_i hc
      obtain ⟨h1, h2⟩ := ih _ _ h
      have h16 := hval_lt c
      refine ⟨Nat.lt_of_lt_of_le h1 ?_, fun d hd => ?_⟩
      · rw [List.length_cons, Nat.pow_succ, Nat.mul_comm (16 ^ l.length), ← Nat.mul_assoc]
        exact Nat.mul_le_mul_right _ (by omega)
      · rcases List.mem_cons.1 hd with rfl | hd
        · omega
        · exact h2 d hd
/-- Digits that are digits are those of their number. -/
theorem hexs_hgo (l : List UInt8) (v : Nat) (h : hgo 0 l = some v) : hexs l.length v = l := by
  have key : ∀ (l : List UInt8) (z v : Nat), hgo z l = some v → hexs l.length v = l ∧ v / 16 ^ l.length = z := by
    intro l
    induction l with
    | nil => intro z v h; injection h with h; subst h; simp [hexs]
    | cons c l ih =>
      intro z v h
      rw [hgo] at h
      split at h
      · cases h
      · rename_i hc
        obtain ⟨h1, h2⟩ := ih _ _ h
        have h16 := hval_lt c
        have hx1 := hx_hval c (by omega)
        rw [List.length_cons, hexs, h1, h2]
        refine ⟨?_, ?_⟩
        · rw [show (z * 16 + (hval c).toNat) % 16 = (hval c).toNat by omega, hx1]
        · rw [Nat.pow_succ, ← Nat.div_div_eq_div_mul, h2]
          omega
  exact (key l 0 v h).1
theorem hexs_inj4 (i n : Nat) (hi : i < 65536) (hn : n < 65536) (h : hexs 4 i = hexs 4 n) : i = n := by
  have h1 := hgo_hexs 4 0 i
  have h2 := hgo_hexs 4 0 n
  rw [h, h2] at h1
  injection h1 with h1
  simp at h1
  omega
set_option maxRecDepth 100000 in
set_option maxHeartbeats 4000000 in
theorem rmay_any (s : List UInt8) (w : World) (hs : s.length = 4) : Calls Tryz.prog 76 #[.string ⟨s.toArray⟩] w fun e w' => e = .returned (.bool (mayV s)) ∧ ∃ k, w' = w.drewN k := by
  have HS := Lib.hid hs
  have hx := rhex_any s w (by omega)
  rw [hexV_eq] at hx
  cases hg : hgo 0 s with
  | none =>
    have HM : Hid (mayV s = false) := by show _ = _; unfold mayV; rw [hg]
    rw [hg] at hx
    have HX : Hid (Calls Tryz.prog 77 #[.string ⟨s.toArray⟩] w fun e w' => e = .returned (.int .i64 (-1)) ∧ w = w') := hx
    clear hx hg
    go_enter Tryz.func76, Tryz.ntmps76
    go_wp2_with fail
    refine HX.out.mono ?_
    rintro e w' ⟨rfl, rfl⟩
    go_wp2
    go_ret
    exact ⟨by rw [HM.out]; rfl, 0, rfl⟩
  | some n =>
    have HM : Hid (mayV s = lenB n) := by show _ = _; unfold mayV; rw [hg]
    rw [hg] at hx
    have HX : Hid (Calls Tryz.prog 77 #[.string ⟨s.toArray⟩] w fun e w' => e = .returned (.int .i64 (n : Int)) ∧ w = w') := hx
    have hn6 : n < 65536 := by have := (hgo_some s 0 n hg).1; rw [hs] at this; simpa using this
    have HSN : Hid (hexs 4 n = s) := by have := hexs_hgo s n hg; rwa [hs] at this
    clear hx hg
    go_enter Tryz.func76, Tryz.ntmps76
    go_wp2_with fail
    refine HX.out.mono ?_
    rintro e w' ⟨rfl, rfl⟩
    go_wp2_with fail
    go_loopw [3] (fun i wr => ∃ k q : Nat, k ≤ 1005 ∧ i = .int .i64 (k : Int) ∧ wr = w.drewN q ∧ ∀ j, j < k → lenB j = true → j ≠ n) (fun i _ => 1005 - (intOf i).toNat)
    case atStart => exact ⟨0, 0, by omega, rfl, rfl, fun j hj => by omega⟩
    case round =>
      obtain ⟨k, q, hk, rfl, rfl, hall⟩ := hrel
      have HALL := Lib.hid hall
      clear hall
      by_cases hlt : k ≤ 1004
      · have hnext : (lenB k = true → k ≠ n) → ∀ j, j < k + 1 → lenB j = true → j ≠ n := fun h j hj hb => by
          rcases Nat.lt_or_ge j k with h1 | h1
          · exact HALL.out j h1 hb
          · obtain rfl : j = k := by omega
            exact h hb
        by_cases h234 : k = 2 ∨ k = 3 ∨ k = 4
        · have HNX := Lib.hid (hnext (fun hb => by rcases h234 with rfl | rfl | rfl <;> cases hb))
          clear hnext
          rcases h234 with rfl | rfl | rfl
          · go_wp2
            go_roundw
            case rel => exact ⟨3, q, by omega, rfl, rfl, HNX.out⟩
            case measure => simp [intOf]
          · go_wp2
            go_roundw
            case rel => exact ⟨4, q, by omega, rfl, rfl, HNX.out⟩
            case measure => simp [intOf]
          · go_wp2
            go_roundw
            case rel => exact ⟨5, q, by omega, rfl, rfl, HNX.out⟩
            case measure => simp [intOf]
        · have e2 : ((k : Int) == 2) = false := beq_eq_false_iff_ne.2 (by omega)
          have e3 : ((k : Int) == 3) = false := beq_eq_false_iff_ne.2 (by omega)
          have e4 : ((k : Int) == 4) = false := beq_eq_false_iff_ne.2 (by omega)
          have hlb : Hid (lenB k = true) := by
            show _ = _
            simp only [lenB, Bool.and_eq_true, decide_eq_true_eq, bne_iff_ne]
            omega
          have d1 := dig_cut (k / 256 % 16) (by omega)
          have d2 := dig_cut (k / 16 % 16) (by omega)
          have d3 := dig_cut (k % 16) (by omega)
          rw [show ((k / 256 % 16 : Nat) : Int) = (k : Int) / 256 % 16 by omega] at d1
          rw [show ((k / 16 % 16 : Nat) : Int) = (k : Int) / 16 % 16 by omega] at d2
          rw [show ((k % 16 : Nat) : Int) = (k : Int) % 16 by omega] at d3
          have HF := Lib.hid (four_digs k hlt)
          have hk0 : (0 : Int) ≤ (k : Int) := by omega
          have hkm : (k : Int) ≤ 1004 := by omega
          go_wp2_with fail
          go_quiet (fail)
          rw [HF.out]
          have htl : (hexs 4 k).length = 4 := hexs_len 4 k
          have hex4 : (ByteArray.mk (hexs 4 k).toArray).extract 0 4 = ⟨(hexs 4 k).toArray⟩ := by
            rw [ByteArray.extract_mk]
            simp
            exact List.take_of_length_le (by omega)
          have hsI : (s.length : Int) = 4 := by rw [HS.out]; rfl
          have hs4 := HS.out
          rw [World.drewN_drewN]
          by_cases hkn : k = n
          · subst hkn
            have hb : (hexs 4 k == s) = true := by rw [HSN.out]; simp
            have HLB := Lib.hid (show lenB k = true from hlb.out)
            clear hnext hlb d1 d2 d3 HF h234
            generalize hexs 4 k = tl at *
            go_wp2
            go_ret
            exact ⟨by rw [HM.out, HLB.out]; rfl, q + nq, rfl⟩
          · have hb : (hexs 4 k == s) = false := by
              rw [beq_eq_false_iff_ne, ← HSN.out]
              exact fun e => hkn (hexs_inj4 k n (by omega) hn6 e)
            have HNX := Lib.hid (hnext (fun _ => hkn))
            clear hnext hlb d1 d2 d3 HF h234 hkn
            generalize hexs 4 k = tl at *
            go_wp2
            go_roundw
            case rel => exact ⟨k + 1, q + nq, by omega, by go_num, rfl, HNX.out⟩
            case measure => simp [intOf]; omega
      · obtain rfl : k = 1005 := by omega
        have hres : lenB n = false := by
          cases hb : lenB n with
          | false => rfl
          | true =>
            have hn : n < 1005 := by simp only [lenB, Bool.and_eq_true, decide_eq_true_eq] at hb; omega
            exact absurd rfl (HALL.out n hn hb)
        have HRES := Lib.hid hres
        clear hres
        go_wp2
        go_ret
        exact ⟨by rw [HM.out, HRES.out]; rfl, q, rfl⟩
end Go.Proofs.YtghpnjgglneecaaGreatDoor

/-
  tree.sign, tree.Name, the reference's Name, walked.
  tree.May, the reference's MayTree, walked.
  strings.Builder: what its writers do, at this program.
-/
import Derived.Test.YtfaijkgfhdhhbaaGreatDoorMgg
import Derived.Test.YtfaijkgfhdhhbaaGreatDoorMgh
import Derived.Test.YtfaijkgfhdhhbaaGreatDoorMga
import Derived.Test.YtfaijkgfhdhhbaaGreatDoorMgc
import Derived.Deep.LoopGhost
import Derived.Lib.Builder
import Derived.Laws.IdiomStrings
import Derived.Lib.AppendStr
import Derived.Lib.UnsafeStr
import Derived.Lib.OthersKept
import Derived.Maps.AppendAt
import Derived.Test.YtfaijkgfhdhhbaaGreatDoorShelf
namespace Go.Proofs.YtfaijkgfhdhhbaaGreatDoor
open Go.RowKit

theorem sign_any (c : UInt8) (w : World) : Calls Tryz.prog 97 #[.int .u8 (c.toNat : Int)] w fun e w' => e = .returned (.bool (okSign c)) ∧ w = w' := by
  have hb := c.toNat_lt
  have HOK : Hid (okSign c = ((decide (97 ≤ c.toNat) && decide (c.toNat ≤ 122)) || (decide (48 ≤ c.toNat) && decide (c.toNat ≤ 57)) || c.toNat == 46 || c.toNat == 45 || c.toNat == 95)) := rfl
  generalize okSign c = k at *
  generalize c.toNat = n at *
  by_cases h0 : n < 97
  · by_cases h1 : n < 48
    · by_cases h2 : n = 46
      · have d1 : decide ((97 : Int) ≤ (n : Int)) = false := by simp; omega
        have d2 : decide ((n : Int) ≤ 122) = true := by simp; omega
        have d3 : decide ((48 : Int) ≤ (n : Int)) = false := by simp; omega
        have d4 : decide ((n : Int) ≤ 57) = true := by simp; omega
        have e1 : ((n : Int) == 46) = true := by simp; omega
        have e2 : ((n : Int) == 45) = false := by simp; omega
        have e3 : ((n : Int) == 95) = false := by simp; omega
        have HK : Hid (k = true) := by show _ = _; rw [HOK.out]; simp; omega
        clear h0 h1 h2
        go_enter Tryz.func97, Tryz.ntmps97
        go_wp2
        go_ret
        exact ⟨by rw [HK.out]; rfl, rfl⟩
      · by_cases h3 : n = 45
        · have d1 : decide ((97 : Int) ≤ (n : Int)) = false := by simp; omega
          have d2 : decide ((n : Int) ≤ 122) = true := by simp; omega
          have d3 : decide ((48 : Int) ≤ (n : Int)) = false := by simp; omega
          have d4 : decide ((n : Int) ≤ 57) = true := by simp; omega
          have e1 : ((n : Int) == 46) = false := by simp; omega
          have e2 : ((n : Int) == 45) = true := by simp; omega
          have e3 : ((n : Int) == 95) = false := by simp; omega
          have HK : Hid (k = true) := by show _ = _; rw [HOK.out]; simp; omega
          clear h0 h1 h2 h3
          go_enter Tryz.func97, Tryz.ntmps97
          go_wp2
          go_ret
          exact ⟨by rw [HK.out]; rfl, rfl⟩
        · have d1 : decide ((97 : Int) ≤ (n : Int)) = false := by simp; omega
          have d2 : decide ((n : Int) ≤ 122) = true := by simp; omega
          have d3 : decide ((48 : Int) ≤ (n : Int)) = false := by simp; omega
          have d4 : decide ((n : Int) ≤ 57) = true := by simp; omega
          have e1 : ((n : Int) == 46) = false := by simp; omega
          have e2 : ((n : Int) == 45) = false := by simp; omega
          have e3 : ((n : Int) == 95) = false := by simp; omega
          have HK : Hid (k = false) := by show _ = _; rw [HOK.out]; simp; omega
          clear h0 h1 h2 h3
          go_enter Tryz.func97, Tryz.ntmps97
          go_wp2
          go_ret
          exact ⟨by rw [HK.out]; rfl, rfl⟩
    · by_cases h2 : n ≤ 57
      · have d1 : decide ((97 : Int) ≤ (n : Int)) = false := by simp; omega
        have d2 : decide ((n : Int) ≤ 122) = true := by simp; omega
        have d3 : decide ((48 : Int) ≤ (n : Int)) = true := by simp; omega
        have d4 : decide ((n : Int) ≤ 57) = true := by simp; omega
        have e1 : ((n : Int) == 46) = false := by simp; omega
        have e2 : ((n : Int) == 45) = false := by simp; omega
        have e3 : ((n : Int) == 95) = false := by simp; omega
        have HK : Hid (k = true) := by show _ = _; rw [HOK.out]; simp; omega
        clear h0 h1 h2
        go_enter Tryz.func97, Tryz.ntmps97
        go_wp2
        go_ret
        exact ⟨by rw [HK.out]; rfl, rfl⟩
      · by_cases h3 : n = 95
        · have d1 : decide ((97 : Int) ≤ (n : Int)) = false := by simp; omega
          have d2 : decide ((n : Int) ≤ 122) = true := by simp; omega
          have d3 : decide ((48 : Int) ≤ (n : Int)) = true := by simp; omega
          have d4 : decide ((n : Int) ≤ 57) = false := by simp; omega
          have e1 : ((n : Int) == 46) = false := by simp; omega
          have e2 : ((n : Int) == 45) = false := by simp; omega
          have e3 : ((n : Int) == 95) = true := by simp; omega
          have HK : Hid (k = true) := by show _ = _; rw [HOK.out]; simp; omega
          clear h0 h1 h2 h3
          go_enter Tryz.func97, Tryz.ntmps97
          go_wp2
          go_ret
          exact ⟨by rw [HK.out]; rfl, rfl⟩
        · have d1 : decide ((97 : Int) ≤ (n : Int)) = false := by simp; omega
          have d2 : decide ((n : Int) ≤ 122) = true := by simp; omega
          have d3 : decide ((48 : Int) ≤ (n : Int)) = true := by simp; omega
          have d4 : decide ((n : Int) ≤ 57) = false := by simp; omega
          have e1 : ((n : Int) == 46) = false := by simp; omega
          have e2 : ((n : Int) == 45) = false := by simp; omega
          have e3 : ((n : Int) == 95) = false := by simp; omega
          have HK : Hid (k = false) := by show _ = _; rw [HOK.out]; simp; omega
          clear h0 h1 h2 h3
          go_enter Tryz.func97, Tryz.ntmps97
          go_wp2
          go_ret
          exact ⟨by rw [HK.out]; rfl, rfl⟩
  · by_cases h1 : n ≤ 122
    · have d1 : decide ((97 : Int) ≤ (n : Int)) = true := by simp; omega
      have d2 : decide ((n : Int) ≤ 122) = true := by simp; omega
      have d3 : decide ((48 : Int) ≤ (n : Int)) = true := by simp; omega
      have d4 : decide ((n : Int) ≤ 57) = false := by simp; omega
      have e1 : ((n : Int) == 46) = false := by simp; omega
      have e2 : ((n : Int) == 45) = false := by simp; omega
      have e3 : ((n : Int) == 95) = false := by simp; omega
      have HK : Hid (k = true) := by show _ = _; rw [HOK.out]; simp; omega
      clear h0 h1
      go_enter Tryz.func97, Tryz.ntmps97
      go_wp2
      go_ret
      exact ⟨by rw [HK.out]; rfl, rfl⟩
    · have d1 : decide ((97 : Int) ≤ (n : Int)) = true := by simp; omega
      have d2 : decide ((n : Int) ≤ 122) = false := by simp; omega
      have d3 : decide ((48 : Int) ≤ (n : Int)) = true := by simp; omega
      have d4 : decide ((n : Int) ≤ 57) = false := by simp; omega
      have e1 : ((n : Int) == 46) = false := by simp; omega
      have e2 : ((n : Int) == 45) = false := by simp; omega
      have e3 : ((n : Int) == 95) = false := by simp; omega
      have HK : Hid (k = false) := by show _ = _; rw [HOK.out]; simp; omega
      clear h0 h1
      go_enter Tryz.func97, Tryz.ntmps97
      go_wp2
      go_ret
      exact ⟨by rw [HK.out]; rfl, rfl⟩
theorem okName_no (l : List UInt8) (h : l.all okSign = false) : okName l = false := by
  unfold okName
  rw [h, Bool.and_false]
theorem str_atN (l : List UInt8) (k : Nat) (h : k < l.length) (w : World) : (Instr.index 9 (.string ⟨l.toArray⟩) (.int .i64 (k : Int))).run Tryz.prog w = .ok (.int .u8 ((l.getD k 0).toNat : Int)) w := by
  rw [run_index_string (w := w) 9 _ _ _ Tryz.underlying9, dif_pos ⟨by omega, by show (k : Int) < ((l.toArray.size : Nat) : Int); simp; omega⟩]
  simp only [Int.toNat_natCast]
  have : (ByteArray.mk l.toArray)[k]'(by show k < l.toArray.size; simpa using h) = l.getD k 0 := by
    show l.toArray[k]'_ = _
    simp [List.getElem?_eq_getElem h]
  rw [this]
theorem all_drop (l : List UInt8) (k : Nat) (h : k < l.length) : (l.drop k).all okSign = (okSign (l.getD k 0) && (l.drop (k + 1)).all okSign) := by
  rw [List.drop_eq_getElem_cons h, List.all_cons]
  simp [List.getElem?_eq_getElem h]
set_option maxHeartbeats 1000000 in
theorem name_any (l : List UInt8) (w : World) : Calls Tryz.prog 62 #[.string ⟨l.toArray⟩] w fun e w' => e = .returned (.bool (okName l)) ∧ w = w' := by
  by_cases h0 : l = []
  · subst h0
    go_enter Tryz.func62, Tryz.ntmps62
    go_wp2
    go_ret
    exact ⟨rfl, rfl⟩
  by_cases h1 : l = [46]
  · subst h1
    go_enter Tryz.func62, Tryz.ntmps62
    go_wp2
    go_ret
    exact ⟨rfl, rfl⟩
  by_cases h2 : l = [46, 46]
  · subst h2
    go_enter Tryz.func62, Tryz.ntmps62
    go_wp2
    go_ret
    exact ⟨rfl, rfl⟩
  have f0 : (l == []) = false := by simp [h0]
  have f1 : (l == [46]) = false := by simp [h1]
  have f2 : (l == [46, 46]) = false := by simp [h2]
  by_cases hl : 20 < l.length
  · have HN : Hid (okName l = false) := by show _ = _; unfold okName; rw [decide_eq_false (show ¬ l.length ≤ 20 by omega)]; simp
    have hd : decide ((20 : Int) < (l.length : Int)) = true := by simp; omega
    clear h0 h1 h2 hl
    go_enter Tryz.func62, Tryz.ntmps62
    go_wp2
    go_ret
    exact ⟨by rw [HN.out]; rfl, rfl⟩
  have hp : 0 < l.length := List.length_pos_iff.2 h0
  have HN : Hid (okName l = l.all okSign) := by
    show _ = _
    unfold okName
    rw [f1, f2, decide_eq_true hp, decide_eq_true (show l.length ≤ 20 by omega)]
    rfl
  have hd : decide ((20 : Int) < (l.length : Int)) = false := by simp; omega
  clear h0 h1 h2
  go_enter Tryz.func62, Tryz.ntmps62
  go_wp2
  go_loopw [21] (fun i wr => ∃ k : Nat, k ≤ l.length ∧ i = .int .i64 (k : Int) ∧ wr = w ∧ l.all okSign = (l.drop k).all okSign) (fun i _ => l.length - (intOf i).toNat)
  case atStart => exact ⟨0, by omega, rfl, rfl, rfl⟩
  case round =>
    obtain ⟨k, hk, rfl, rfl, hall⟩ := hrel
    have HA := Lib.hid hall
    clear hall
    by_cases hlt : k < l.length
    · have hidx := str_atN l k hlt
      have HDR := Lib.hid (all_drop l k hlt)
      have HS := Lib.hid fun W => sign_any (l.getD k 0) W
      generalize l.getD k 0 = c at *
      generalize okSign c = b at *
      go_wp2_with fail
      refine (HS.out _).mono ?_
      rintro e w' ⟨rfl, rfl⟩
      cases b
      · go_wp2
        go_ret
        exact ⟨by rw [HN.out, HA.out, HDR.out]; rfl, rfl⟩
      · go_wp2
        go_roundw
        case rel => exact ⟨k + 1, by omega, by go_num, trivial, by rw [HA.out, HDR.out]; rfl⟩
        case measure => simp [intOf]; omega
    · have HR : Hid (l.all okSign = true) := by show _ = _; rw [HA.out, List.drop_eq_nil_of_le (by omega)]; rfl
      go_wp2
      go_ret
      exact ⟨by rw [HN.out, HR.out]; rfl, rfl⟩
set_option maxHeartbeats 4000000 in
theorem rname_any (l : List UInt8) (w : World) (hll : l.length ≤ 9223372036854775807) : Calls Tryz.prog 69 #[.string ⟨l.toArray⟩] w fun e w' => e = .returned (.bool (okName l)) ∧ w = w' := by
  go_enter Tryz.func69, Tryz.ntmps69
  go_wp2
  go_loopw [3, 4] (fun i _ wr => ∃ k : Nat, k ≤ l.length ∧ i = .int .i64 (k : Int) ∧ wr = w ∧ l.all okSign = (l.drop k).all okSign) (fun i _ _ => l.length - (intOf i).toNat)
  case atStart => exact ⟨0, by omega, rfl, rfl, rfl⟩
  case round =>
    obtain ⟨k, hk, rfl, rfl, hall⟩ := hrel
    have HA := Lib.hid hall
    clear hall
    by_cases hlt : k < l.length
    · have hlt' : (k : Int) < (l.length : Int) := by omega
      have hidx := str_atN l k hlt
      have HDR := Lib.hid (all_drop l k hlt)
      generalize l.getD k 0 = c at *
      have hb := c.toNat_lt
      have HOK : Hid (okSign c = ((decide (97 ≤ c.toNat) && decide (c.toNat ≤ 122)) || (decide (48 ≤ c.toNat) && decide (c.toNat ≤ 57)) || c.toNat == 46 || c.toNat == 45 || c.toNat == 95)) := rfl
      generalize c.toNat = n at *
      by_cases h0 : n < 97
      · by_cases h1 : n < 48
        · by_cases h2 : n = 46
          · have d1 : decide ((n : Int) < 97) = true := by simp; omega
            have d2 : decide ((122 : Int) < (n : Int)) = false := by simp; omega
            have d3 : decide ((n : Int) < 48) = true := by simp; omega
            have d4 : decide ((57 : Int) < (n : Int)) = false := by simp; omega
            have e1 : ((n : Int) != 46) = false := by simp; omega
            have e2 : ((n : Int) != 45) = true := by simp; omega
            have e3 : ((n : Int) != 95) = true := by simp; omega
            have HK : Hid (okSign c = true) := by show _ = _; rw [HOK.out]; simp; omega
            clear h0 h1 h2
            go_wp2
            go_roundw
            case rel => exact ⟨k + 1, by omega, by go_num, trivial, by rw [HA.out, HDR.out, HK.out]; rfl⟩
            case measure => simp [intOf]; omega
          · by_cases h3 : n = 45
            · have d1 : decide ((n : Int) < 97) = true := by simp; omega
              have d2 : decide ((122 : Int) < (n : Int)) = false := by simp; omega
              have d3 : decide ((n : Int) < 48) = true := by simp; omega
              have d4 : decide ((57 : Int) < (n : Int)) = false := by simp; omega
              have e1 : ((n : Int) != 46) = true := by simp; omega
              have e2 : ((n : Int) != 45) = false := by simp; omega
              have e3 : ((n : Int) != 95) = true := by simp; omega
              have HK : Hid (okSign c = true) := by show _ = _; rw [HOK.out]; simp; omega
              clear h0 h1 h2 h3
              go_wp2
              go_roundw
              case rel => exact ⟨k + 1, by omega, by go_num, trivial, by rw [HA.out, HDR.out, HK.out]; rfl⟩
              case measure => simp [intOf]; omega
            · have d1 : decide ((n : Int) < 97) = true := by simp; omega
              have d2 : decide ((122 : Int) < (n : Int)) = false := by simp; omega
              have d3 : decide ((n : Int) < 48) = true := by simp; omega
              have d4 : decide ((57 : Int) < (n : Int)) = false := by simp; omega
              have e1 : ((n : Int) != 46) = true := by simp; omega
              have e2 : ((n : Int) != 45) = true := by simp; omega
              have e3 : ((n : Int) != 95) = true := by simp; omega
              have HK : Hid (okSign c = false) := by show _ = _; rw [HOK.out]; simp; omega
              clear h0 h1 h2 h3
              go_wp2
              go_ret
              exact ⟨by rw [okName_no l (by rw [HA.out, HDR.out, HK.out]; rfl)]; rfl, rfl⟩
        · by_cases h2 : n ≤ 57
          · have d1 : decide ((n : Int) < 97) = true := by simp; omega
            have d2 : decide ((122 : Int) < (n : Int)) = false := by simp; omega
            have d3 : decide ((n : Int) < 48) = false := by simp; omega
            have d4 : decide ((57 : Int) < (n : Int)) = false := by simp; omega
            have e1 : ((n : Int) != 46) = true := by simp; omega
            have e2 : ((n : Int) != 45) = true := by simp; omega
            have e3 : ((n : Int) != 95) = true := by simp; omega
            have HK : Hid (okSign c = true) := by show _ = _; rw [HOK.out]; simp; omega
            clear h0 h1 h2
            go_wp2
            go_roundw
            case rel => exact ⟨k + 1, by omega, by go_num, trivial, by rw [HA.out, HDR.out, HK.out]; rfl⟩
            case measure => simp [intOf]; omega
          · by_cases h3 : n = 95
            · have d1 : decide ((n : Int) < 97) = true := by simp; omega
              have d2 : decide ((122 : Int) < (n : Int)) = false := by simp; omega
              have d3 : decide ((n : Int) < 48) = false := by simp; omega
              have d4 : decide ((57 : Int) < (n : Int)) = true := by simp; omega
              have e1 : ((n : Int) != 46) = true := by simp; omega
              have e2 : ((n : Int) != 45) = true := by simp; omega
              have e3 : ((n : Int) != 95) = false := by simp; omega
              have HK : Hid (okSign c = true) := by show _ = _; rw [HOK.out]; simp; omega
              clear h0 h1 h2 h3
              go_wp2
              go_roundw
              case rel => exact ⟨k + 1, by omega, by go_num, trivial, by rw [HA.out, HDR.out, HK.out]; rfl⟩
              case measure => simp [intOf]; omega
            · have d1 : decide ((n : Int) < 97) = true := by simp; omega
              have d2 : decide ((122 : Int) < (n : Int)) = false := by simp; omega
              have d3 : decide ((n : Int) < 48) = false := by simp; omega
              have d4 : decide ((57 : Int) < (n : Int)) = true := by simp; omega
              have e1 : ((n : Int) != 46) = true := by simp; omega
              have e2 : ((n : Int) != 45) = true := by simp; omega
              have e3 : ((n : Int) != 95) = true := by simp; omega
              have HK : Hid (okSign c = false) := by show _ = _; rw [HOK.out]; simp; omega
              clear h0 h1 h2 h3
              go_wp2
              go_ret
              exact ⟨by rw [okName_no l (by rw [HA.out, HDR.out, HK.out]; rfl)]; rfl, rfl⟩
      · by_cases h1 : n ≤ 122
        · have d1 : decide ((n : Int) < 97) = false := by simp; omega
          have d2 : decide ((122 : Int) < (n : Int)) = false := by simp; omega
          have d3 : decide ((n : Int) < 48) = false := by simp; omega
          have d4 : decide ((57 : Int) < (n : Int)) = true := by simp; omega
          have e1 : ((n : Int) != 46) = true := by simp; omega
          have e2 : ((n : Int) != 45) = true := by simp; omega
          have e3 : ((n : Int) != 95) = true := by simp; omega
          have HK : Hid (okSign c = true) := by show _ = _; rw [HOK.out]; simp; omega
          clear h0 h1
          go_wp2
          go_roundw
          case rel => exact ⟨k + 1, by omega, by go_num, trivial, by rw [HA.out, HDR.out, HK.out]; rfl⟩
          case measure => simp [intOf]; omega
        · have d1 : decide ((n : Int) < 97) = false := by simp; omega
          have d2 : decide ((122 : Int) < (n : Int)) = true := by simp; omega
          have d3 : decide ((n : Int) < 48) = false := by simp; omega
          have d4 : decide ((57 : Int) < (n : Int)) = true := by simp; omega
          have e1 : ((n : Int) != 46) = true := by simp; omega
          have e2 : ((n : Int) != 45) = true := by simp; omega
          have e3 : ((n : Int) != 95) = true := by simp; omega
          have HK : Hid (okSign c = false) := by show _ = _; rw [HOK.out]; simp; omega
          clear h0 h1
          go_wp2
          go_ret
          exact ⟨by rw [okName_no l (by rw [HA.out, HDR.out, HK.out]; rfl)]; rfl, rfl⟩
    · have HR : Hid (l.all okSign = true) := by show _ = _; rw [HA.out, List.drop_eq_nil_of_le (by omega)]; rfl
      obtain rfl : k = l.length := by omega
      clear hlt hk HA
      by_cases h0 : l = []
      · subst h0
        go_wp2
        go_ret
        exact ⟨rfl, rfl⟩
      by_cases h1 : l = [46]
      · subst h1
        go_wp2
        go_ret
        exact ⟨rfl, rfl⟩
      by_cases h2 : l = [46, 46]
      · subst h2
        go_wp2
        go_ret
        exact ⟨rfl, rfl⟩
      have f0 : (l == []) = false := by simp [h0]
      have f1 : (l == [46]) = false := by simp [h1]
      have f2 : (l == [46, 46]) = false := by simp [h2]
      have hp : 0 < l.length := List.length_pos_iff.2 h0
      have d1 : decide ((1 : Int) ≤ (l.length : Int)) = true := by simp; omega
      by_cases hl : 20 < l.length
      · have HN : Hid (okName l = false) := by show _ = _; unfold okName; rw [decide_eq_false (show ¬ l.length ≤ 20 by omega)]; simp
        have hd : decide ((l.length : Int) ≤ 20) = false := by simp; omega
        clear h0 h1 h2 hl
        go_wp2
        go_ret
        exact ⟨by rw [HN.out]; rfl, rfl⟩
      · have HN : Hid (okName l = true) := by
          show _ = _
          unfold okName
          rw [f1, f2, decide_eq_true hp, decide_eq_true (show l.length ≤ 20 by omega), HR.out]
          rfl
        have hd : decide ((l.length : Int) ≤ 20) = true := by simp; omega
        clear h0 h1 h2 hl
        go_wp2
        go_ret
        exact ⟨by rw [HN.out]; rfl, rfl⟩
end Go.Proofs.YtfaijkgfhdhhbaaGreatDoor
namespace Go.Proofs.YtfaijkgfhdhhbaaGreatDoor
open Go.RowKit

theorem q_same {P : Program} {f : FuncId} {args : Array Value} {w : World} {n : Nat} {v : Value}
    (h : Calls P f args (w.drewN n) fun e w' => e = .returned v ∧ w.drewN n = w') : Calls P f args (w.drewN n) fun e w'' => e = .returned v ∧ ∃ m, w'' = w.drewN m :=
  h.mono fun _ _ ⟨he, hw⟩ => ⟨he, n, hw.symm⟩
theorem okAt_zero (es : List En) : okAt es 0 = okName (es.getD 0 default).name := by simp [okAt]
theorem okAt_more (es : List En) (k : Nat) (h : 0 < k) : okAt es k = (okName (es.getD k default).name && Op.bytesLess (es.getD (k - 1) default).name (es.getD k default).name) := by
  have : k ≠ 0 := by omega
  simp [okAt, this]
set_option maxRecDepth 100000 in
set_option maxHeartbeats 4000000 in
theorem tmay_any (A : Option Addr) (c : Nat) (es : List En) (w : World) (hA : ArgE w A c es) (hl : es.length ≤ 1048576) :
    Calls Tryz.prog 45 #[.slice A es.length c] w fun e w' => e = .returned (.bool (mayT es)) ∧ Below w.heap.size w w' := by
  have HA := Lib.hid hA
  have hlc := hA.1
  clear hA
  by_cases hm : 20 < es.length
  · have HM : Hid (mayT es = false) := by show _ = _; unfold mayT; rw [decide_eq_false (by omega)]; rfl
    have hd : decide ((20 : Int) < (es.length : Int)) = true := by simp; omega
    clear hm
    go_enter Tryz.func45, Tryz.ntmps45
    go_wp2
    go_ret
    exact ⟨by rw [HM.out]; rfl, Below.refl _ _⟩
  have HM : Hid (mayT es = risesTo es es.length) := by show _ = _; unfold mayT; rw [decide_eq_true (by omega)]; rfl
  have hd : decide ((20 : Int) < (es.length : Int)) = false := by simp; omega
  go_enter Tryz.func45, Tryz.ntmps45
  go_wp2
  go_loopg [3, 4, 10] es.length (fun g _ _ s10 wr => ∃ k : Nat, k ≤ es.length ∧ es.length - k ≤ g ∧ s10 = .int .i64 k ∧ Hid (Below w.heap.size w wr) ∧ Hid (risesTo es k = true))
  case atStart => exact ⟨0, Nat.zero_le _, by omega, rfl, Lib.hid (Below.refl _ _), Lib.hid rfl⟩
  case round =>
    obtain ⟨k, hk, hg, rfl, hB, hall⟩ := hrel
    by_cases hlt : k < es.length
    · have hlt' : (k : Int) < (es.length : Int) := by omega
      obtain ⟨b, o, rfl, hr⟩ := (HA.out.later hB.out).2.2.2 (by omega)
      have hrk := hr k hlt
      have HR := Lib.hid hr
      obtain ⟨y, hy⟩ : ∃ y, y = es.getD k default := ⟨_, rfl⟩
      have HY := Lib.hid hy
      rw [← hy] at hrk
      have HRK := Lib.hid hrk
      have HRS := Lib.hid (risesTo_succ es k)
      clear hr hrk hy
      go_wp2_with (first
        | (refine wpList_load_mid rfl 49 _ rfl b (o + k * 34) rfl (encE y) _ HRK.out Tryz.underlying49 rfl (infoE_l y) ?_)
        | (refine wpList_store_whole rfl 49 _ _ rfl wr.heap.size (encE y).toArray rfl rfl 49 _ (Whole.made wr _ _) (infoE_s y) (by rw [encE_size]; kernel_rfl) (encE_all y) ?_; intro w2 hWn hGn; have HW2 := Lib.hid hWn; have D2 := Lib.hid (made_below' hGn); clear hWn hGn))
      simp only [Act.put]
      have HB2 := Lib.hid (hB.out.trans (D2.out.mono hB.out.size))
      have hnm : ∀ n, (w2.drewN n).cell? ⟨wr.heap.size, 0, none⟩ = some (.string ⟨y.name.toArray⟩) := fun n => whole_name (HW2.out.drewN n)
      have HN := Lib.hid fun W => name_any y.name W
      have HOY : Hid (okAt es k = (okName y.name && (decide (k = 0) || Op.bytesLess (es.getD (k - 1) default).name y.name))) := by show _ = _; rw [HY.out]; rfl
      cases hon : okName y.name with
      | false =>
        rw [hon] at HN
        have HF : Hid (risesTo es es.length = false) := risesTo_not es hlt (by rw [HOY.out, hon]; rfl)
        clear hon
        go_wp2_with fail
        refine wp_region_quiet_lit (by kernel_rfl) (by kernel_rfl) ?_
        repeat (first
          | go_big_quiet_step ((go_at_call 62; exact q_same (HN.out _))))
        refine wpQuiet_nil ?_
        rintro _ ⟨nq, rfl⟩
        go_wp2
        go_ret
        exact ⟨by rw [HM.out, HF.out]; rfl, be_drewN HB2.out nq⟩
      | true =>
        rw [hon] at HN
        by_cases hk0 : k = 0
        · subst hk0
          have HT : Hid (risesTo es 1 = true) := by show _ = _; rw [HRS.out, hall.out, HOY.out, hon]; rfl
          clear hon
          go_wp2_with fail
          refine wp_region_quiet_lit (by kernel_rfl) (by kernel_rfl) ?_
          repeat (first
            | go_big_quiet_step ((go_at_call 62; exact q_same (HN.out _))))
          refine wpQuiet_nil ?_
          rintro _ ⟨nq, rfl⟩
          go_wp2
          go_roundg (es.length - 1)
          case measure => omega
          case rel => exact ⟨1, by omega, Nat.le_refl _, by go_num, Lib.hid (be_drewN HB2.out nq), HT⟩
        · obtain ⟨x, hx⟩ : ∃ x, x = es.getD (k - 1) default := ⟨_, rfl⟩
          have hbl := HR.out.lt (by omega)
          have hxm : ∀ n, (w2.drewN n).cell? ⟨b, o + (k - 1) * 34, none⟩ = some (.string ⟨x.name.toArray⟩) := fun n => by
            rw [hx]
            exact ((HR.out.below D2.out hbl).below (be_drewN (Below.refl _ _) n) (Nat.lt_of_lt_of_le hbl D2.out.size)).name (by omega)
          have HX := Lib.hid hx
          have hw1 : wrap64 ((k : Int) - 1) = ((k - 1 : Nat) : Int) := by unfold wrap64; omega
          have hb1 : k - 1 < es.length := by omega
          have hgt0 : (0 : Int) < (k : Int) := by omega
          have hgt : 0 < k := by omega
          have HOZ : Hid (okAt es k = Op.bytesLess x.name y.name) := by show _ = _; rw [HOY.out, hon, decide_eq_false hk0, HX.out]; rfl
          clear hx hbl hon hk0
          cases hbl : Op.bytesLess x.name y.name with
          | false =>
            have HF : Hid (risesTo es es.length = false) := risesTo_not es hlt (by rw [HOZ.out, hbl])
            go_wp2_with fail
            refine wp_region_quiet_lit (by kernel_rfl) (by kernel_rfl) ?_
            repeat (first
              | go_big_quiet_step ((go_at_call 62; exact q_same (HN.out _))))
            refine wpQuiet_nil ?_
            rintro _ ⟨nq, rfl⟩
            go_wp2
            go_ret
            exact ⟨by rw [HM.out, HF.out]; rfl, be_drewN HB2.out nq⟩
          | true =>
            have HT : Hid (risesTo es (k + 1) = true) := by show _ = _; rw [HRS.out, hall.out, HOZ.out, hbl]; rfl
            go_wp2_with fail
            refine wp_region_quiet_lit (by kernel_rfl) (by kernel_rfl) ?_
            repeat (first
              | go_big_quiet_step ((go_at_call 62; exact q_same (HN.out _))))
            refine wpQuiet_nil ?_
            rintro _ ⟨nq, rfl⟩
            go_wp2
            go_roundg (es.length - (k + 1))
            case measure => omega
            case rel => exact ⟨k + 1, by omega, Nat.le_refl _, by go_num, Lib.hid (be_drewN HB2.out nq), HT⟩
    · obtain rfl : k = es.length := by omega
      go_wp2
      go_ret
      exact ⟨by rw [HM.out, hall.out]; rfl, hB.out⟩
set_option maxRecDepth 100000 in
set_option maxHeartbeats 4000000 in
theorem rtmay_any (A : Option Addr) (c : Nat) (es : List En) (w : World) (hA : ArgE w A c es) (hl : es.length ≤ 1048576) (hnl : ∀ e ∈ es, e.name.length ≤ 9223372036854775807) :
    Calls Tryz.prog 32 #[.slice A es.length c] w fun e w' => e = .returned (.bool (mayT es)) ∧ Below w.heap.size w w' := by
  have HA := Lib.hid hA
  have hlc := hA.1
  have HNL := Lib.hid hnl
  clear hA hnl
  go_enter Tryz.func32, Tryz.ntmps32
  go_wp2
  go_loopg [3] es.length (fun g s3 wr => ∃ k q : Nat, k ≤ es.length ∧ es.length - k ≤ g ∧ s3 = .int .i64 k ∧ Hid (wr = w.drewN q) ∧ Hid (risesTo es k = true))
  case atStart => exact ⟨0, 0, Nat.zero_le _, by omega, rfl, Lib.hid rfl, Lib.hid rfl⟩
  case round =>
    obtain ⟨k, q, hk, hg, rfl, hB, hall⟩ := hrel
    have hHB := hB.out
    subst hHB
    clear hB
    by_cases hlt : k < es.length
    · have hlt' : (k : Int) < (es.length : Int) := by omega
      obtain ⟨b, o, rfl, hr⟩ := HA.out.2.2.2 (by omega)
      have hr := hr.below (be_drewN (Below.refl w.heap.size w) q) (hr.lt (by omega))
      have HR := Lib.hid hr
      obtain ⟨y, hy⟩ : ∃ y, y = es.getD k default := ⟨_, rfl⟩
      have HY := Lib.hid hy
      have hbl := hr.lt (by omega)
      have hnm : ∀ n, ((w.drewN q).drewN n).cell? ⟨b, o + k * 34, none⟩ = some (.string ⟨y.name.toArray⟩) := fun n => by
        rw [hy]
        exact (HR.out.below (be_drewN (Below.refl _ _) n) hbl).name hlt
      have HRS := Lib.hid (risesTo_succ es k)
      have HN := Lib.hid fun W => rname_any y.name W (by rw [hy]; exact HNL.out _ (by simp [List.getD, List.getElem?_eq_getElem hlt]))
      have HOY : Hid (okAt es k = (okName y.name && (decide (k = 0) || Op.bytesLess (es.getD (k - 1) default).name y.name))) := by show _ = _; rw [HY.out]; rfl
      clear hr hy hbl
      generalize hW : w.drewN q = w2 at *
      have HW := Lib.hid hW
      clear hW
      cases hon : okName y.name with
      | false =>
        rw [hon] at HN
        have HF : Hid (risesTo es es.length = false) := risesTo_not es hlt (by rw [HOY.out, hon]; rfl)
        clear hon
        go_wp2_with fail
        refine wp_region_quiet_lit (by kernel_rfl) (by kernel_rfl) ?_
        repeat (first
          | go_big_quiet_step ((go_at_call 69; exact q_same (HN.out _))))
        refine wpQuiet_nil ?_
        rintro _ ⟨nq, rfl⟩
        go_wp2
        go_ret
        exact ⟨by unfold mayT; rw [HF.out, Bool.and_false]; rfl, by rw [← HW.out]; exact be_drewN (be_drewN (Below.refl _ _) q) nq⟩
      | true =>
        rw [hon] at HN
        by_cases hk0 : k = 0
        · subst hk0
          have hnm0 := hnm
          simp only [Nat.zero_mul, Nat.add_zero] at hnm0
          have hlt0 : (0 : Int) < (es.length : Int) := by omega
          have HT : Hid (risesTo es 1 = true) := by show _ = _; rw [HRS.out, hall.out, HOY.out, hon]; rfl
          clear hon
          go_wp2_with fail
          refine wp_region_quiet_lit (by kernel_rfl) (by kernel_rfl) ?_
          repeat (first
            | go_big_quiet_step ((go_at_call 69; exact q_same (HN.out _))))
          refine wpQuiet_nil ?_
          rintro _ ⟨nq, rfl⟩
          go_wp2
          go_roundg (es.length - 1)
          case measure => omega
          case rel => exact ⟨1, q + nq, by omega, Nat.le_refl _, by go_num, Lib.hid (by rw [← HW.out, World.drewN_drewN]), HT⟩
        · obtain ⟨x, hx⟩ : ∃ x, x = es.getD (k - 1) default := ⟨_, rfl⟩
          have hbl := HR.out.lt (by omega)
          have hxm : ∀ n, (w2.drewN n).cell? ⟨b, o + (k - 1) * 34, none⟩ = some (.string ⟨x.name.toArray⟩) := fun n => by
            rw [hx]
            exact (HR.out.below (be_drewN (Below.refl _ _) n) hbl).name (by omega)
          have HX := Lib.hid hx
          have hw1 : wrap64 ((k : Int) - 1) = ((k - 1 : Nat) : Int) := by unfold wrap64; omega
          have hb1 : k - 1 < es.length := by omega
          have hgt0 : (0 : Int) < (k : Int) := by omega
          have hgt : 0 < k := by omega
          have HOZ : Hid (okAt es k = Op.bytesLess x.name y.name) := by show _ = _; rw [HOY.out, hon, decide_eq_false hk0, HX.out]; rfl
          clear hx hbl hon hk0
          cases hbl : Op.bytesLess x.name y.name with
          | false =>
            have HF : Hid (risesTo es es.length = false) := risesTo_not es hlt (by rw [HOZ.out, hbl])
            go_wp2_with fail
            refine wp_region_quiet_lit (by kernel_rfl) (by kernel_rfl) ?_
            repeat (first
              | go_big_quiet_step ((go_at_call 69; exact q_same (HN.out _))))
            refine wpQuiet_nil ?_
            rintro _ ⟨nq, rfl⟩
            go_wp2
            go_ret
            exact ⟨by unfold mayT; rw [HF.out, Bool.and_false]; rfl, by rw [← HW.out]; exact be_drewN (be_drewN (Below.refl _ _) q) nq⟩
          | true =>
            have HT : Hid (risesTo es (k + 1) = true) := by show _ = _; rw [HRS.out, hall.out, HOZ.out, hbl]; rfl
            go_wp2_with fail
            refine wp_region_quiet_lit (by kernel_rfl) (by kernel_rfl) ?_
            repeat (first
              | go_big_quiet_step ((go_at_call 69; exact q_same (HN.out _))))
            refine wpQuiet_nil ?_
            rintro _ ⟨nq, rfl⟩
            go_wp2
            go_roundg (es.length - (k + 1))
            case measure => omega
            case rel => exact ⟨k + 1, q + nq, by omega, Nat.le_refl _, by go_num, Lib.hid (by rw [← HW.out, World.drewN_drewN]), HT⟩
    · obtain rfl : k = es.length := by omega
      have HM : Hid (mayT es = decide ((es.length : Int) ≤ 20)) := by
        show _ = _
        unfold mayT
        rw [hall.out, Bool.and_true, decide_eq_decide]
        omega
      go_wp2
      go_ret
      exact ⟨by rw [HM.out]; rfl, be_drewN (Below.refl _ _) q⟩
end Go.Proofs.YtfaijkgfhdhhbaaGreatDoor
namespace Go.Proofs.YtfaijkgfhdhhbaaGreatDoor
open Go.RowKit

abbrev BT : TypeId := 80
theorem bld_lies : liesAt Tryz.prog Tryz.prog.depth BT (2 / Tryz.prog.cellsOf BT) 0 BT 1 = true := by kernel_rfl
theorem cchk_fresh (b : Nat) (w : World) (h0 : w.cell? ⟨b, 0, none⟩ = some (.pointer none)) (hsh : w.shape? b = some (BT, 2)) (hz : w.frozen? ⟨b, 0, none⟩ = false) :
    Calls Tryz.prog 83 #[.pointer (some ⟨b, 0, none⟩)] w fun e w' => e = .returned (.tuple #[]) ∧ w' = w.setCell ⟨b, 0, none⟩ (.pointer (some ⟨b, 0, none⟩)) := by
  obtain ⟨j, hj⟩ : ∃ j, Tryz.prog.info? BT = some j := Option.isSome_iff_exists.1 (by kernel_rfl)
  have hjs : j.size ≠ 0 := by
    have : (Tryz.prog.info? BT).map (fun i => decide (i.size ≠ 0)) = some true := by kernel_rfl
    rw [hj] at this
    simpa using this
  have q1 := Lib.run_to_unsafe w (src := 77) (dst := 160) ⟨b, 0, none⟩ Tryz.underlying77 Tryz.underlying160 hj hjs hsh (by show 0 < 2; decide)
  have q2 := Lib.run_from_unsafe w (src := 160) (dst := 77) ⟨b, 0, none⟩ Tryz.underlying160 Tryz.underlying77 hj hsh bld_lies
  have q4 := fun W => Lib.run_neq_ptr_same (P := Tryz.prog) W (tp := 77) ⟨b, 0, none⟩ Tryz.underlying77 hj
  have q3 : (callFunc 121 #[.pointer (some ⟨b, 0, none⟩)]).run Tryz.prog w = .ok (.value (.pointer (some ⟨b, 0, none⟩))) w := by
    rw [run_callFunc_extern Tryz.func121 (by kernel_rfl) (by kernel_rfl) (by kernel_rfl) (e := Extern.AbiNoEscape.same) (by kernel_rfl), Lib.run_noEscape]
    rfl
  go_enter Tryz.func83, Tryz.ntmps83
  go_wp2
  go_end0
  exact ⟨rfl, rfl⟩
theorem cchk_used (b : Nat) (w : World) (h0 : w.cell? ⟨b, 0, none⟩ = some (.pointer (some ⟨b, 0, none⟩))) :
    Calls Tryz.prog 83 #[.pointer (some ⟨b, 0, none⟩)] w fun e w' => e = .returned (.tuple #[]) ∧ w' = w := by
  obtain ⟨j, hj⟩ : ∃ j, Tryz.prog.info? BT = some j := Option.isSome_iff_exists.1 (by kernel_rfl)
  have q4 := fun W => Lib.run_neq_ptr_same (P := Tryz.prog) W (tp := 77) ⟨b, 0, none⟩ Tryz.underlying77 hj
  go_enter Tryz.func83, Tryz.ntmps83
  go_wp2
  go_end0
  exact ⟨rfl, rfl⟩
/-- All but the builder's block and rows of bytes stands. -/
abbrev Kp (b : Nat) (w w' : World) : Prop := Lib.OthersKept 5 (some b) w w'
/-- A builder of the call's own that holds the bytes l. -/
def Bd (w : World) (B b : Nat) (l : List UInt8) : Prop := Lib.IsBuilder BT 5 B b (l.map Y) w
/-- .. written into. -/
def BdU (w : World) (B b : Nat) (l : List UInt8) : Prop := Lib.BuilderAt BT 5 B b (.pointer (some ⟨b, 0, none⟩)) (l.map Y) w
theorem BdU.bd {w : World} {B b : Nat} {l : List UInt8} (h : BdU w B b l) : Bd w B b l := .inr h
theorem cchk_any (B b : Nat) (l : List UInt8) (w : World) (h : Bd w B b l) :
    Calls Tryz.prog 83 #[.pointer (some ⟨b, 0, none⟩)] w fun e w' => e = .returned (.tuple #[]) ∧ BdU w' B b l ∧ Below B w w' ∧ Kp b w w' := by
  rcases h with h | h
  · refine (cchk_fresh b w h.cell0 h.shape h.frozen0).mono ?_
    rintro e w' ⟨rfl, rfl⟩
    exact ⟨rfl, h.used _, (Below.refl B w).setCell (p := ⟨b, 0, none⟩) h.1 _, (Lib.OthersKept.refl _ _ w).setCell ⟨b, 0, none⟩ rfl _⟩
  · refine (cchk_used b w h.cell0).mono ?_
    rintro e w' ⟨rfl, rfl⟩
    exact ⟨rfl, h, Below.refl B _, Lib.OthersKept.refl _ _ _⟩
theorem BdU.parts {w : World} {B b : Nat} {l : List UInt8} (h : BdU w B b l) : ∃ v, B ≤ b ∧ b < w.heap.size ∧ w.heap[b]? = some (.cells #[.pointer (some ⟨b, 0, none⟩), v] BT (0, 0)) ∧ w.ownsRow B 5 1 v l.length (l.map Y) ∧ v.ownBlock ≠ some b ∧ w.cell? ⟨b, 0, none⟩ = some (.pointer (some ⟨b, 0, none⟩)) ∧ w.cell? ⟨b, 1, none⟩ = some v := by
  have hlt := h.lt
  obtain ⟨hB, v, hbk, hown, hne⟩ := h
  rw [List.length_map] at hown
  exact ⟨v, hB, hlt, hbk, hown, hne, by rw [Lib.cell_of_heap hbk]; rfl, by rw [Lib.cell_of_heap hbk]; rfl⟩
theorem own_slice {w : World} {B : Nat} {e : TypeId} {v : Value} {n : Nat} {xs : List Value} (h : w.ownsRow B e 1 v n xs) : ∃ A c, v = .slice A n c := by
  rcases h.2 with ⟨rfl, h0⟩ | ⟨g, cap, cur, hv, _⟩
  · exact ⟨none, 0, by rw [h0]⟩
  · exact ⟨_, cap, hv⟩
theorem own_kind {w : World} {B : Nat} {e : TypeId} {v : Value} {n : Nat} {xs : List Value} (h : w.ownsRow B e 1 v n xs) : ∀ g, v.ownBlock = some g → ∃ c fz, w.heap[g]? = some (.cells c e fz) := by
  intro g hg
  rcases h.2 with ⟨rfl, _⟩ | ⟨g', cap, cur, rfl, _, hgg, _⟩
  · simp [Value.ownBlock] at hg
  · simp [Value.ownBlock] at hg
    subst hg
    exact ⟨cur, _, hgg⟩
theorem yb_one (l : List UInt8) : ∀ v ∈ l.map Y, v.oneCell' = true := by
  intro v hv
  obtain ⟨_, _, rfl⟩ := List.mem_map.1 hv
  rfl
theorem infoY : (Tryz.prog.info? 5).map (fun i => (i.zero, i.size, i.bytes)) = some (some (.int .u8 0), 1, 1) := by kernel_rfl
/-- Behind an append: the row laid into the builder. -/
theorem bd_put {w1 w2 : World} {B b : Nat} {v v' : Value} {l m : List UInt8} (hB : B ≤ b) (hlt : b < w1.heap.size) (hbk : w1.heap[b]? = some (.cells #[.pointer (some ⟨b, 0, none⟩), v] BT (0, 0))) (hne : v.ownBlock ≠ some b)
    (hown : w2.ownsRow B 5 1 v' (l.length + m.length) (l.map Y ++ m.map Y)) (hgr : w1.grownBy w2 v.ownBlock) :
    w2.cell? ⟨b, 0, none⟩ = some (.pointer (some ⟨b, 0, none⟩)) ∧ w2.cell? ⟨b, 1, none⟩ = some v ∧ w2.frozen? ⟨b, 1, none⟩ = false ∧ BdU (w2.setCell ⟨b, 1, none⟩ v') B b (l ++ m) := by
  have hb2 : w2.heap[b]? = some (.cells #[.pointer (some ⟨b, 0, none⟩), v] BT (0, 0)) := by
    rw [hgr.block b hlt (fun e => hne e.symm)]
    exact hbk
  refine ⟨by rw [Lib.cell_of_heap hb2]; rfl, by rw [Lib.cell_of_heap hb2]; rfl, Lib.frozen_of_heap hb2 1, ?_⟩
  refine Lib.BuilderAt.put (T := BT) (e := 5) hB hb2 (bs' := (l ++ m).map Y) ?_ (by decide)
  rw [List.length_map, List.length_append, List.map_append]
  exact hown
set_option maxRecDepth 100000 in
set_option maxHeartbeats 2000000 in
theorem wstr_any (B b : Nat) (l t : List UInt8) (w : World) (h : Bd w B b l) (hl : l.length + t.length ≤ 1099511627776) (hBw : B ≤ w.heap.size) :
    Calls Tryz.prog 48 #[.pointer (some ⟨b, 0, none⟩), .string ⟨t.toArray⟩] w fun e w' => e = .returned (.tuple #[.int .i64 (t.length : Int), .nilIface]) ∧ BdU w' B b (l ++ t) ∧ Below B w w' ∧ Kp b w w' := by
  obtain ⟨i0, hi, hz0, hz1, hz2⟩ := info_parts infoY
  have hts : (ByteArray.mk t.toArray).size = t.length := by simp [ByteArray.size]
  have HSC : Hid (Lib.strCells (ByteArray.mk t.toArray) = t.map Y) := rfl
  have HC := Lib.hid (cchk_any B b l w h)
  clear h
  go_enter Tryz.func48, Tryz.ntmps48
  go_wp2_with fail
  refine HC.out.mono ?_
  rintro e w1 ⟨rfl, hb, hB1, hK1⟩
  obtain ⟨v, hB, hlt, hbk, hown, hne, c0, c1⟩ := hb.parts
  have hsz := hB1.size
  have HB1 := Lib.hid hB1
  clear hB1 hb
  go_wp2_with (at_builtin; go_loud (refine Lib.wpList_append_own_string _ rfl _ _ 78 9 rfl B 5 i0 Tryz.underlying78 Tryz.underlying9 hi hz0 hz1 hz2 _ _ _ rfl hown ⟨t.toArray⟩ rfl (by rw [hts]; unfold maxLen; omega) (by rw [hts]; omega) (by omega) ?_))
  intro v' w2 hown' hgr _
  rw [HSC.out] at hown'
  obtain ⟨d0, d1, f1, hbd⟩ := bd_put hB hlt hbk hne hown' hgr
  obtain ⟨A', c', rfl⟩ := own_slice hown'
  have HBD := Lib.hid hbd
  have HK2 := Lib.hid ((hK1.grown hgr (own_kind hown)).setCell ⟨b, 1, none⟩ rfl (.slice A' (l.length + t.length) c'))
  have HB2 := Lib.hid ((HB1.out.grown hgr (by omega) (fun k hk => (hown.lt k hk).1)).setCell (p := ⟨b, 1, none⟩) hB (.slice A' (l.length + t.length) c'))
  clear hK1 hbd hown hown' hgr hbk hne HC
  go_wp2
  go_ret2
  exact ⟨rfl, HBD.out, HB2.out, HK2.out⟩
set_option maxRecDepth 100000 in
set_option maxHeartbeats 2000000 in
theorem wrow_any (B b : Nat) (l t : List UInt8) (ad : Addr) (c : Nat) (w : World) (h : Bd w B b l) (hl : l.length + t.length ≤ 1099511627776) (hBw : B ≤ w.heap.size)
    (hcl : ∀ w1, Below B w w1 → Kp b w w1 → ∀ j u, (t.map Y)[j]? = some u → w1.cell? (ad.add j) = some u) :
    Calls Tryz.prog 49 #[.pointer (some ⟨b, 0, none⟩), .slice (some ad) t.length c] w fun e w' => e = .returned (.tuple #[.int .i64 (t.length : Int), .nilIface]) ∧ BdU w' B b (l ++ t) ∧ Below B w w' ∧ Kp b w w' := by
  obtain ⟨i0, hi, hz0, hz1, hz2⟩ := info_parts infoY
  have HC := Lib.hid (cchk_any B b l w h)
  have HCELL := Lib.hid hcl
  clear h hcl
  go_enter Tryz.func49, Tryz.ntmps49
  go_wp2_with fail
  refine HC.out.mono ?_
  rintro e w1 ⟨rfl, hb, hB1, hK1⟩
  obtain ⟨v, hB, hlt, hbk, hown, hne, c0, c1⟩ := hb.parts
  have hsz := hB1.size
  have HB1 := Lib.hid hB1
  have hcell := HCELL.out w1 hB1 hK1
  clear hB1 hb
  go_wp2_with (at_builtin; go_loud (refine wpList_append_own_at _ rfl _ _ 78 rfl B 5 i0 (.int .u8 0) 1 1 Tryz.underlying78 hi hz0 hz1 hz2 rfl (by decide) _ _ _ rfl hown ad t.length c (t.map Y) rfl (by simp) hcell (yb_one t) (by unfold maxLen; omega) (by omega) (by omega) ?_))
  intro v' w2 hown' hgr _ _
  obtain ⟨d0, d1, f1, hbd⟩ := bd_put hB hlt hbk hne hown' hgr
  obtain ⟨A', c', rfl⟩ := own_slice hown'
  have HBD := Lib.hid hbd
  have HK2 := Lib.hid ((hK1.grown hgr (own_kind hown)).setCell ⟨b, 1, none⟩ rfl (.slice A' (l.length + t.length) c'))
  have HB2 := Lib.hid ((HB1.out.grown hgr (by omega) (fun k hk => (hown.lt k hk).1)).setCell (p := ⟨b, 1, none⟩) hB (.slice A' (l.length + t.length) c'))
  clear hK1 hbd hown hown' hgr hbk hne HC hcell
  go_wp2
  go_ret2
  exact ⟨rfl, HBD.out, HB2.out, HK2.out⟩
set_option maxRecDepth 100000 in
set_option maxHeartbeats 2000000 in
theorem wbyte_any (B b : Nat) (l : List UInt8) (x : UInt8) (i : Int) (hx : i = (x.toNat : Int)) (w : World) (h : Bd w B b l) (hl : l.length + 1 ≤ 1099511627776) (hBw : B ≤ w.heap.size) :
    Calls Tryz.prog 46 #[.pointer (some ⟨b, 0, none⟩), .int .u8 i] w fun e w' => e = .returned .nilIface ∧ BdU w' B b (l ++ [x]) ∧ Below B w w' ∧ Kp b w w' := by
  subst hx
  obtain ⟨i0, hi, hz0, hz1, hz2⟩ := info_parts infoY
  have HC := Lib.hid (cchk_any B b l w h)
  clear h
  go_enter Tryz.func46, Tryz.ntmps46
  go_wp2_with fail
  refine HC.out.mono ?_
  rintro e w1 ⟨rfl, hb, hB1, hK1⟩
  obtain ⟨v, hB, hlt, hbk, hown, hne, c0, c1⟩ := hb.parts
  have hsz := hB1.size
  have HB1 := Lib.hid hB1
  clear hB1 hb
  have hcell : ∀ j u, [Value.int .u8 (x.toNat : Int)][j]? = some u → (w1.alloc (.cells #[.int .u8 (x.toNat : Int)] 5)).cell? ((⟨w1.heap.size, 0, none⟩ : Addr).add j) = some u := by
    intro j u hu
    have h := (Whole.made w1 5 #[.int .u8 (x.toNat : Int)]).at_ j
    rw [Addr.add_mid, Nat.zero_add, h]
    simpa using hu
  go_wp2_with (at_builtin; go_loud (refine wpList_append_own_at _ rfl _ _ 78 rfl B 5 i0 (.int .u8 0) 1 1 Tryz.underlying78 hi hz0 hz1 hz2 rfl (by decide) _ _ _ rfl (hown.alloc _) ⟨w1.heap.size, 0, none⟩ 1 1 [.int .u8 (x.toNat : Int)] rfl (by simp) hcell (yb_one [x]) (by unfold maxLen; omega) (by omega) (by simp; omega) ?_))
  intro v' w2 hown' hgr _ _
  have hbk2 : (w1.alloc (.cells #[.int .u8 (x.toNat : Int)] 5)).heap[b]? = some (.cells #[.pointer (some ⟨b, 0, none⟩), v] BT (0, 0)) := by
    rw [Lib.alloc_old w1 _ b hlt]
    exact hbk
  obtain ⟨d0, d1, f1, hbd⟩ := bd_put (m := [x]) hB (by simp; omega) hbk2 hne hown' hgr
  obtain ⟨A', c', rfl⟩ := own_slice hown'
  have HBD := Lib.hid hbd
  have HK2 := Lib.hid (((hK1.alloc (.cells #[.int .u8 (x.toNat : Int)] 5)).grown hgr (own_kind (hown.alloc _))).setCell ⟨b, 1, none⟩ rfl (.slice A' (l.length + 1) c'))
  have HB2 := Lib.hid (((HB1.out.alloc (by omega) (.cells #[.int .u8 (x.toNat : Int)] 5)).grown hgr (by simp; omega) (fun k hk => (hown.lt k hk).1)).setCell (p := ⟨b, 1, none⟩) hB (.slice A' (l.length + 1) c'))
  clear hK1 hbd hown hown' hgr hbk hbk2 hne HC hcell
  go_wp2
  go_ret
  exact ⟨rfl, HBD.out, HB2.out, HK2.out⟩
theorem bstr_any (B b : Nat) (l : List UInt8) (w : World) (h : Bd w B b l) (hBw : B ≤ w.heap.size) :
    Calls Tryz.prog 50 #[.pointer (some ⟨b, 0, none⟩)] w fun e w' => e = .returned (.string ⟨l.toArray⟩) ∧ Below B w w' := Tryz.Builder_String_any B b l w h hBw
/-- A builder just made. -/
theorem bd_new (w : World) : Bd (w.alloc (.cells #[.pointer none, .slice none 0 0] BT)) w.heap.size w.heap.size [] := by
  refine .inl ⟨Nat.le_refl _, .slice none 0 0, ?_, World.ownsRow_nil _ _ _ _, by simp [Value.ownBlock]⟩
  show (w.heap.push _)[w.heap.size]? = _
  simp
end Go.Proofs.YtfaijkgfhdhhbaaGreatDoor

/-
  commit.id, walked.
  when.Of, Get, walked; Get of any text.
  commit.time, walked.
-/
import Derived.Test.YtfaijkgfhdhhbaaGreatDoorMgm
import Derived.Test.YtfaijkgfhdhhbaaGreatDoorMgk
import Derived.Test.YtfaijkgfhdhhbaaGreatDoorMgi
import Derived.Test.YtfaijkgfhdhhbaaGreatDoorShelf
import Derived.Test.YtfaijkgfhdhhbaaGreatDoorMgl
namespace Go.Proofs.YtfaijkgfhdhhbaaGreatDoor
open Go.RowKit

/-- What a line tells behind its word, if it begins with it. -/
def behind (tx wd : List UInt8) : List UInt8 := Lib.trimPrefix tx wd
def starts (tx wd : List UInt8) : Bool := Lib.hasPrefix tx wd
theorem cutp_any (tx wd : List UInt8) (w : World) : Calls Tryz.prog 127 #[.string ⟨tx.toArray⟩, .string ⟨wd.toArray⟩] w fun e w' => e = .returned (.tuple #[.string ⟨(behind tx wd).toArray⟩, .bool (starts tx wd)]) ∧ w' = w := Tryz.strings_CutPrefix ⟨tx.toArray⟩ ⟨wd.toArray⟩ w
set_option maxRecDepth 100000 in
set_option maxHeartbeats 2000000 in
theorem cid_any (tx wd : List UInt8) (w : World) : Calls Tryz.prog 91 #[.string ⟨tx.toArray⟩, .string ⟨wd.toArray⟩] w fun e w' => (if starts tx wd && (getId (behind tx wd)).2 then e = .returned (.agg (encN (getN (behind tx wd))).toArray) else e = .panicked (fault 1)) ∧ Below w.heap.size w w' := by
  have HC := Lib.hid fun W => cutp_any tx wd W
  have HG := Lib.hid fun W => oget_u (behind tx wd) W
  have HW0 := Lib.hid fun z => Whole.made w 24 z
  have HB0 := Lib.hid fun z => (Below.refl w.heap.size w).alloc (Nat.le_refl _) (.cells z 24)
  have HXS := Lib.hid (infoXs (getN (behind tx wd)))
  generalize getN (behind tx wd) = x at *
  generalize (getId (behind tx wd)).2 = ok at *
  generalize starts tx wd = st at *
  generalize behind tx wd = bh at *
  go_enter Tryz.func91, Tryz.ntmps91
  go_wp2_with fail
  refine (HC.out _).mono ?_
  rintro e w1 ⟨rfl, rfl⟩
  go_wp2_with fail
  obtain ⟨z, hz⟩ : ∃ z : Array Value, z = ((List.replicate 32 (0 : UInt8)).map Y).toArray := ⟨_, rfl⟩
  have hzs : z.size = 32 := by rw [hz]; simp
  rw [show (#[Value.int .u8 0, Value.int .u8 0, Value.int .u8 0, Value.int .u8 0, Value.int .u8 0, Value.int .u8 0, Value.int .u8 0, Value.int .u8 0, Value.int .u8 0, Value.int .u8 0, Value.int .u8 0, Value.int .u8 0, Value.int .u8 0, Value.int .u8 0, Value.int .u8 0, Value.int .u8 0, Value.int .u8 0, Value.int .u8 0, Value.int .u8 0, Value.int .u8 0, Value.int .u8 0, Value.int .u8 0, Value.int .u8 0, Value.int .u8 0, Value.int .u8 0, Value.int .u8 0, Value.int .u8 0, Value.int .u8 0, Value.int .u8 0, Value.int .u8 0, Value.int .u8 0, Value.int .u8 0] : Array Value) = z from hz.symm]
  have hW := HW0.out z
  have hB := HB0.out z
  clear hz HW0 HB0
  have hs1 := hB.size
  have HZS := Lib.hid hzs
  generalize w.alloc (.cells z 24) = w0 at *
  have hlt0 := hW.lt
  have HW := Lib.hid hW
  have HB := Lib.hid hB
  clear hW hB hzs
  refine (HG.out _).mono ?_
  rintro e w2 ⟨rfl, hb⟩
  have HB2 := Lib.hid (HB.out.trans (hb.mono hs1))
  have HW2 := Lib.hid (HW.out.below hb HW.out.lt)
  have hs2 := hb.size
  clear hb
  cases st
  · skip
    go_wp2_with (refine wpList_store_whole rfl 24 _ _ rfl w2.heap.size (encN x).toArray rfl rfl 24 _ (Whole.made w2 _ _) HXS.out (by rw [encN_size]; kernel_rfl) (encN_all x) ?_; intro w3 hWn hGn; have HN3 := Lib.hid hWn; have D3 := Lib.hid (made_belowC hGn); clear hWn hGn)
    refine (must_no _ _).mono ?_
    rintro e w' ⟨rfl, rfl⟩
    exact ⟨rfl, by rfl, HB2.out.trans (D3.out.mono HB2.out.size)⟩
  · skip
    go_wp2_with (refine wpList_store_whole rfl 24 _ _ rfl w2.heap.size (encN x).toArray rfl rfl 24 _ (Whole.made w2 _ _) HXS.out (by rw [encN_size]; kernel_rfl) (encN_all x) ?_; intro w3 hWn hGn; have HN3 := Lib.hid hWn; have D3 := Lib.hid (made_belowC hGn); clear hWn hGn)
    cases ok
    · refine (must_no _ _).mono ?_
      rintro e w' ⟨rfl, rfl⟩
      exact ⟨rfl, by rfl, HB2.out.trans (D3.out.mono HB2.out.size)⟩
    · refine (must_yes _ _).mono ?_
      rintro e w' ⟨rfl, rfl⟩
      have HW3 := Lib.hid (HW2.out.below D3.out HW2.out.lt)
      have HB3 := Lib.hid (HB2.out.trans (D3.out.mono HB2.out.size))
      go_wp2_with (first
        | (refine wpList_load_row rfl 24 _ rfl w2.heap.size rfl 24 (encN x).toArray (0, 0) _ HN3.out Tryz.underlying24 rfl HXS.out ?_)
        | (refine wpList_store_whole rfl 24 _ _ rfl w.heap.size (encN x).toArray rfl rfl 24 z HW3.out HXS.out (by rw [encN_size]; exact HZS.out) (encN_all x) ?_; intro w4 hWn hGn; have HW4 := Lib.hid hWn; have HB4 := Lib.hid (be_grown HB3.out hGn HB3.out.size (fun j hj => by injection hj with hj; omega)); clear hWn hGn))
      refine bodyPost_ret (v := .agg (encN x).toArray) ?_ rfl ⟨by rfl, HB4.out⟩
      exact results_cell_row (p := 4) (ty := 24) rfl _ _ w.heap.size 24 (encN x).toArray (0, 0) _ rfl HW4.out Tryz.underlying24 rfl HXS.out
end Go.Proofs.YtfaijkgfhdhhbaaGreatDoor
namespace Go.Proofs.YtfaijkgfhdhhbaaGreatDoor
open Go.RowKit

theorem wof_any (n : Nat) (w : World) (h : n < 18446744073709551616) : Calls Tryz.prog 155 #[.int .u64 (n : Int)] w fun e w' => e = .returned (.tuple #[.float .f64 (ofV n), .bool (Flo.may n)]) ∧ w = w' := by
  have hf := frombits_run n
  have hm := may_any n w h
  have HV : Hid (ofV n = if Flo.may n then n else 0) := rfl
  cases m : Flo.may n
  all_goals
    rw [m] at hm
    have HM := Lib.hid hm
    have M := Lib.hid m
    clear m hm h
    go_enter Tryz.func155, Tryz.ntmps155
    go_wp2_with (go_at_call 90; refine HM.out.mono ?_; rintro e w' ⟨rfl, rfl⟩)
    go_ret2
    exact ⟨by rw [HV.out, M.out]; rfl, rfl⟩

set_option maxHeartbeats 1000000 in
theorem wget_any (l : List UInt8) (w : World) (hl : l.length = 16) : Calls Tryz.prog 130 #[.string ⟨l.toArray⟩] w fun e w' => e = .returned (.tuple #[.float .f64 (getE l).1, .bool (getE l).2]) ∧ w = w' := by
  have hb0 : ((l.length : Int) != 16) = false := by simp [hl]
  obtain ⟨fin, hfin⟩ : ∃ fin, fin = hgo 0 l := ⟨_, rfl⟩
  have HE : Hid (getE l = getO fin) := by show _ = _; rw [hfin]; rfl
  have HF := Lib.hid hfin
  have HL := Lib.hid hl
  clear hfin
  go_enter Tryz.func130, Tryz.ntmps130
  go_wp2
  go_loopw [4, 12] (fun z i wr => ∃ k v : Nat, k ≤ 16 ∧ v < 16 ^ k ∧ i = .int .i64 (k : Int) ∧ z = .int .u64 (v : Int) ∧ wr = w ∧ fin = hgo v (l.drop k)) (fun _ i _ => 16 - (intOf i).toNat)
  case atStart => exact ⟨0, 0, by omega, by decide, rfl, rfl, rfl, HF.out⟩
  case round =>
    obtain ⟨k, v, hk, hv, rfl, rfl, rfl, hgo'⟩ := hrel
    by_cases hlt : k < 16
    · have hidx := str_at l k (by omega)
      have hdrop : hgo v (l.drop k) = if hval (l.getD k 0) < 0 then none else hgo (v * 16 + (hval (l.getD k 0)).toNat) (l.drop (k + 1)) := by
        have hkl : k < l.length := by omega
        rw [List.drop_eq_getElem_cons hkl, hgo]
        simp [List.getElem?_eq_getElem hkl]
      rw [hdrop] at hgo'
      have hvb : v < 1152921504606846976 := by
        have : v < 16 ^ 15 := Nat.lt_of_lt_of_le hv (Nat.pow_le_pow_right (by decide) (by omega))
        simpa using this
      have hkk : decide ((k : Int) < (l.length : Int)) = true := by simp; omega
      have hpow : v * 16 + 15 < 16 ^ (k + 1) := by rw [Nat.pow_succ]; omega
      have HPOW := Lib.hid hpow
      clear hdrop hv hl hpow
      generalize l.getD k 0 = c at *
      have hc := hval_lt c
      have HD := Lib.hid (digit_any c)
      by_cases hneg : hval c < 0
      · rw [if_pos hneg] at hgo'
        have HG := Lib.hid hgo'
        clear hgo'
        go_wp2_with fail
        refine (HD.out _).mono ?_
        rintro e w' ⟨rfl, rfl⟩
        go_wp2
        go_ret2
        exact ⟨by rw [HE.out, HG.out]; rfl, rfl⟩
      · rw [if_neg hneg] at hgo'
        obtain ⟨d, hd⟩ : ∃ d : Nat, hval c = (d : Int) := ⟨(hval c).toNat, by omega⟩
        rw [hd] at hgo' hneg hc HD
        rw [Int.toNat_natCast] at hgo'
        have HG := Lib.hid hgo'
        have hs0 : (v : Int) * 16 % 18446744073709551616 = ((v * 16 : Nat) : Int) := by omega
        have hd0 : (d : Int) % 18446744073709551616 = (d : Int) := by omega
        clear hgo' hd
        go_wp2_with fail
        refine (HD.out _).mono ?_
        rintro e w' ⟨rfl, rfl⟩
        go_wp2
        go_roundw
        case rel => exact ⟨k + 1, v * 16 + d, by omega, by have := HPOW.out; omega, by go_num, by go_num, trivial, HG.out⟩
        case measure => simp [intOf]; omega
    · obtain rfl : k = 16 := by omega
      have hend : l.drop 16 = [] := List.drop_eq_nil_of_le (by omega)
      rw [hend] at hgo'
      have HG : Hid (fin = some v) := hgo'
      have hv2 : v < 18446744073709551616 := by simpa using hv
      have HO := Lib.hid (wof_any v wr hv2)
      clear hgo' hend hv
      go_wp2_with fail
      refine HO.out.mono ?_
      rintro e w' ⟨rfl, rfl⟩
      go_wp2
      go_ret2
      exact ⟨by rw [HE.out, HG.out]; rfl, rfl⟩
theorem wget_len (l : List UInt8) (w : World) (hl : l.length ≠ 16) : Calls Tryz.prog 130 #[.string ⟨l.toArray⟩] w fun e w' => e = .returned (.tuple #[.float .f64 0, .bool false]) ∧ w = w' := by
  have hb0 : ((l.length : Int) != 16) = true := by simp; omega
  clear hl
  go_enter Tryz.func130, Tryz.ntmps130
  go_wp2
  go_ret2
  exact ⟨rfl, rfl⟩
/-- What Get tells. -/
def getV (l : List UInt8) : Nat × Bool := if l.length = 16 then getE l else (0, false)
theorem wgetV_any (l : List UInt8) (w : World) : Calls Tryz.prog 130 #[.string ⟨l.toArray⟩] w fun e w' => e = .returned (.tuple #[.float .f64 (getV l).1, .bool (getV l).2]) ∧ w = w' := by
  unfold getV
  by_cases h : l.length = 16
  · rw [if_pos h]
    exact wget_any l w h
  · rw [if_neg h]
    exact wget_len l w h
end Go.Proofs.YtfaijkgfhdhhbaaGreatDoor
namespace Go.Proofs.YtfaijkgfhdhhbaaGreatDoor
open Go.RowKit

/-- The word of a commit's time. -/
def whenW : List UInt8 := [119, 104, 101, 110, 32]
set_option maxRecDepth 100000 in
set_option maxHeartbeats 2000000 in
theorem ctime_any (tx : List UInt8) (w : World) : Calls Tryz.prog 94 #[.string ⟨tx.toArray⟩] w fun e w' => (if starts tx whenW && (getV (behind tx whenW)).2 then e = .returned (.float .f64 (getV (behind tx whenW)).1) else e = .panicked (fault 1)) ∧ w = w' := by
  have HC := Lib.hid fun W => cutp_any tx whenW W
  have HG := Lib.hid fun W => wgetV_any (behind tx whenW) W
  generalize (getV (behind tx whenW)).1 = x at *
  generalize (getV (behind tx whenW)).2 = ok at *
  generalize starts tx whenW = st at *
  generalize behind tx whenW = bh at *
  go_enter Tryz.func94, Tryz.ntmps94
  go_wp2_with fail
  refine (HC.out _).mono ?_
  rintro e w1 ⟨rfl, rfl⟩
  go_wp2_with fail
  refine (HG.out _).mono ?_
  rintro e w2 ⟨rfl, rfl⟩
  cases st
  · go_wp2_with fail
    refine (must_no _ _).mono ?_
    rintro e w' ⟨rfl, rfl⟩
    exact ⟨rfl, by rfl, rfl⟩
  · go_wp2_with fail
    cases ok
    · refine (must_no _ _).mono ?_
      rintro e w' ⟨rfl, rfl⟩
      exact ⟨rfl, by rfl, rfl⟩
    · refine (must_yes _ _).mono ?_
      rintro e w' ⟨rfl, rfl⟩
      go_wp2
      go_ret
      exact ⟨by rfl, rfl⟩
end Go.Proofs.YtfaijkgfhdhhbaaGreatDoor

/-
  GuardDo, walked.
-/
import Derived.Test.YtbljoeeekhdjkaaGreatDoorBegB
import Derived.Test.YtbljoeeekhdjkaaGreatDoorAlt
namespace Go.Proofs.YtbljoeeekhdjkaaGreatDoor
open Go.RowKit

/-! ### other -/
theorem oth1_any (p : Addr) (x : Value) (v : Int) (older : List PanicEntry) (w : World) (hc : w.cell? p = some x) (hz : w.frozen? p = false) :
    CallsD Tryz.prog 83 #[.pointer (some p)] (.panicking ({ v := .iface 3 (.int .i64 v), recovered := false } :: older)) w fun e u' w' =>
      e = .returned (.tuple #[]) ∧ u' = .panicking ({ v := .iface 3 (.int .i64 v), recovered := true } :: older) ∧ w' = w.setCell p (.int .i64 v) := by
  have hta : (Instr.typeAssert (.iface 3 (.int .i64 v)) 20 3 true).run Tryz.prog w = .ok (.tuple #[.int .i64 v, .bool true]) w := by kernel_rfl
  refine callsD_of_wpS Tryz.func83 rfl fun c₀ cs hu => ?_
  apply wpS_seq
  apply wpS_region
  simp [wpOpsS, go_sem, recoverD, hu, Tryz.ntmps83, Exit.thenS, hta]
  refine wpS_of_wp ?_
  have hfr : ∀ x y z, (#[Value.pointer (some p)] ++ (((((((Array.replicate 9 undef).setIfInBounds 3 x).setIfInBounds 4 y).setIfInBounds 2 y).setIfInBounds 5 z).setIfInBounds 6 (Value.bool true)).setIfInBounds 0 z).setIfInBounds 1 (Value.bool true)) =
    #[Value.pointer (some p), z, Value.bool true, y, x, y, z, Value.bool true, undef, undef] := fun _ _ _ => by kernel_rfl
  rw [hfr]
  clear hfr hta
  go_wp2
  exact ⟨rfl, _, rfl, _, results_none rfl _ _ _, rfl, rfl, rfl⟩
theorem oth2_any (b : Nat) (v : Int) (W : World) (h : Whole W b 3 #[.int .i64 v]) : Calls Tryz.prog 84 #[.pointer (some ⟨b, 0, none⟩)] W fun e w' => e = .panicked [{ v := .iface 3 (.int .i64 v), recovered := false }] ∧ W = w' := by
  have hc : W.cell? ⟨b, 0, none⟩ = some (.int .i64 v) := (h.at_ 0).trans rfl
  clear h
  go_enter Tryz.func84, Tryz.ntmps84
  go_wp2
  exact ⟨rfl, rfl, rfl⟩
theorem oth2_enters (caps : Array Value) (W : World) : (callFunc 84 caps).run Tryz.prog W = .ok (.enter 84 caps) W := enters_of Tryz.func84 (by kernel_rfl) rfl _ _
set_option maxRecDepth 100000 in
theorem other_any (v : Int) (w : World) : Calls Tryz.prog 25 #[.int .i64 v] w fun e w' => e = .returned (.int .i64 v) ∧ Below w.heap.size w w' := by
  have hmf : ∀ (fn : Fn) (first cap : Array Value) (w : World), (Instr.makeFunc fn first cap).run Tryz.prog w = .ok (.func fn first cap) w := fun _ _ _ _ => rfl
  go_enter_defers Tryz.func25, Tryz.ntmps25
  go_wp2_with fail
  have hb := Whole.made w 3 #[.int .i64 v]
  have hg := Whole.made (w.alloc (.cells #[.int .i64 v] 3)) 3 #[.int .i64 0]
  have hB : Below w.heap.size w ((w.alloc (.cells #[.int .i64 v] 3)).alloc (.cells #[.int .i64 0] 3)) := ((Below.refl _ _).alloc (Nat.le_refl _) _).alloc (by simp) _
  have hs : (w.alloc (.cells #[.int .i64 v] 3)).heap.size = w.heap.size + 1 := by simp
  rw [hs] at hg
  generalize hW : (w.alloc (.cells #[.int .i64 v] 3)).alloc (.cells #[.int .i64 0] 3) = W at *
  have hb1 := hb.past (.cells #[.int .i64 0] 3)
  rw [hW] at hb1
  have HG := Lib.hid hg
  have HB := Lib.hid hB
  refine (do_other_q 84 _ W (fun _ => False) v (oth2_enters _) ((oth2_any w.heap.size v _ (hb1.past _)).mono ?_)).mono ?_
  · rintro e w' ⟨rfl, rfl⟩
    exact ⟨rfl, Alt.refl _ _⟩
  rintro e w1 ⟨rfl, hA⟩
  have hg1 := HG.out.alt hA (fun h => h)
  have hc := (hg1.at_ 0).trans (rfl : _ = some (Value.int .i64 0))
  refine leaves_cons (f := 83) (args := #[.pointer (some ⟨w.heap.size + 1, 0, none⟩)]) (by simp) (by simp [go_sem]) ?_
  refine (oth1_any ⟨w.heap.size + 1, 0, none⟩ _ v [{ v := .iface 3 (.int .i64 v), recovered := true }] w1 hc (hg1.thawed 0)).mono ?_
  rintro e u' w'' ⟨rfl, rfl, rfl⟩
  have hcs := World.cell?_setCell_same w1 ⟨w.heap.size + 1, 0, none⟩ (.int .i64 v) hc
  simp [Leaves, settle, results, Tryz.results25, go_sem, hcs]
  exact (HB.out.trans (hA.none.mono HB.out.size)).setCell (by simp) _

/-! ### What Do is handed -/
theorem gdo1_enters (caps : Array Value) (W : World) : (callFunc 22 caps).run Tryz.prog W = .ok (.enter 22 caps) W := enters_of Tryz.func22 (by kernel_rfl) rfl _ _
theorem gdo1_bad (bh bc ba : Nat) (how c : Int) (W : World) (hh : Whole W bh 3 #[.int .i64 how]) (hc : Whole W bc 34 #[.int .i64 c]) (hr : how.tmod 3 = 0 ∨ how.tmod 3 = 1) :
    Calls Tryz.prog 22 #[.pointer (some ⟨bh, 0, none⟩), .pointer (some ⟨bc, 0, none⟩), .pointer (some ⟨ba, 0, none⟩)] W fun e w' => e = .panicked (fault c) ∧ W = w' := by
  have ch : W.cell? ⟨bh, 0, none⟩ = some (.int .i64 how) := (hh.at_ 0).trans rfl
  have cc : W.cell? ⟨bc, 0, none⟩ = some (.int .i64 c) := (hc.at_ 0).trans rfl
  clear hh hc
  rcases hr with hr | hr
  · have h1 : (how.tmod 3 != 0) = false := by rw [hr]; rfl
    clear hr
    go_enter Tryz.func22, Tryz.ntmps22
    go_wp2_with (go_at_call 23; refine (must_no _ _).mono ?_; rintro e w' ⟨rfl, rfl⟩)
    exact ⟨rfl, rfl, rfl⟩
  · have h1 : (how.tmod 3 != 0) = true := by rw [hr]; rfl
    have h2 : (how.tmod 3 == 1) = true := by rw [hr]; rfl
    clear hr
    go_enter Tryz.func22, Tryz.ntmps22
    go_wp2_with (first
      | (go_at_call 23; refine (must_yes _ _).mono ?_; rintro e w' ⟨rfl, rfl⟩)
      | (go_at_call 24; refine (fail_any _ _).mono ?_; rintro e w' ⟨rfl, rfl⟩))
    exact ⟨rfl, rfl, rfl⟩
theorem gdo1_ok (bh bc ba : Nat) (how c : Int) (W : World) (hh : Whole W bh 3 #[.int .i64 how]) (hc : Whole W bc 34 #[.int .i64 c]) (ha : Whole W ba 4 #[.bool false]) (h0 : how.tmod 3 ≠ 0) (h1 : how.tmod 3 ≠ 1) :
    Calls Tryz.prog 22 #[.pointer (some ⟨bh, 0, none⟩), .pointer (some ⟨bc, 0, none⟩), .pointer (some ⟨ba, 0, none⟩)] W fun e w' => e = .returned (.tuple #[]) ∧ Alt (· = ba) W w' ∧ Whole w' ba 4 #[.bool true] := by
  have ch : W.cell? ⟨bh, 0, none⟩ = some (.int .i64 how) := (hh.at_ 0).trans rfl
  have cc : W.cell? ⟨bc, 0, none⟩ = some (.int .i64 c) := (hc.at_ 0).trans rfl
  have ca : W.cell? ⟨ba, 0, none⟩ = some (.bool false) := (ha.at_ 0).trans rfl
  have za := ha.thawed 0
  have HA := Lib.hid ha
  have k0 : (how.tmod 3 != 0) = true := by simpa using h0
  have k1 : (how.tmod 3 == 1) = false := by simpa using h1
  clear hh hc ha h0 h1
  go_enter Tryz.func22, Tryz.ntmps22
  go_wp2_with (go_at_call 23; refine (must_yes _ _).mono ?_; rintro e w' ⟨rfl, rfl⟩)
  exact bodyPost_end (results_none rfl _ _ _) rfl ⟨rfl, Alt.set (R := (· = ba)) (p := ⟨ba, 0, none⟩) (Alt.refl _ _) (.inl rfl) _, HA.out.put 0 _⟩

theorem gdo_any (a how v : Int) (w : World) (hE : Env w) : Calls Tryz.prog 5 #[.int .i64 a, .int .i64 how, .int .i64 v] w fun e w' => e = .returned (.bool true) ∧ Below w.heap.size w w' := by
  have hmf : ∀ (fn : Fn) (first cap : Array Value) (w : World), (Instr.makeFunc fn first cap).run Tryz.prog w = .ok (.func fn first cap) w := fun _ _ _ _ => rfl
  have HE := Lib.hid hE
  have hcase : (how.tmod 3 = 0 ∨ how.tmod 3 = 1) ∨ (how.tmod 3 = 2 ∨ how.tmod 3 = -2 ∨ how.tmod 3 = -1) := by
    have h1 := Int.tmod_lt_of_pos how (show (0 : Int) < 3 by decide)
    have h2 := Int.lt_tmod_of_pos how (show (0 : Int) < 3 by decide)
    omega
  have HC := Lib.hid hcase
  clear hE hcase
  go_enter Tryz.func5, Tryz.ntmps5
  go_wp2_with fail
  have hB0 := (Below.refl w.heap.size w).alloc (Nat.le_refl _) (.cells #[.int .i64 how] 3)
  have hh0 := Whole.made w 3 #[.int .i64 how]
  refine (begun_any _ (HE.out.at_ hB0)).mono ?_
  rintro e w1 ⟨rfl, hB⟩
  have HH := Lib.hid (hh0.below hB (by simp))
  have HB := Lib.hid (hB0.trans (hB.mono (by simp)))
  clear hB hB0 hh0
  go_wp2_with fail
  generalize bits BinOp.and IntKind.i64 a 15 = c
  obtain ⟨W, hW, hBW, hsz, hh, hc, ha⟩ : ∃ W, W = (w1.alloc (.cells #[.int .i64 c] 34)).alloc (.cells #[.bool false] 4) ∧ Below w1.heap.size w1 W ∧ W.heap.size = w1.heap.size + 1 + 1 ∧ Whole W w.heap.size 3 #[.int .i64 how] ∧ Whole W w1.heap.size 34 #[.int .i64 c] ∧ Whole W (w1.heap.size + 1) 4 #[.bool false] := by
    refine ⟨_, rfl, ((Below.refl _ _).alloc (Nat.le_refl _) _).alloc (by simp) _, by simp, (HH.out.past _).past _, (Whole.made _ _ _).past _, ?_⟩
    have h := Whole.made (w1.alloc (.cells #[.int .i64 c] 34)) 4 #[.bool false]
    simpa using h
  rw [← hW]
  have hlt := HH.out.lt
  have hsB := HB.out.size
  rcases HC.out with hr | hr
  · refine (do_fault_q 22 _ W (fun _ => False) (fun _ => True) c (gdo1_enters _) (fun h => h) (fun _ _ _ _ _ => trivial) ((gdo1_bad w.heap.size w1.heap.size (w1.heap.size + 1) how c _ (hh.past _) (hc.past _) hr).mono ?_)).mono ?_
    · rintro e w' ⟨rfl, rfl⟩
      exact ⟨rfl, Alt.refl _ _, trivial⟩
    rintro e w2 ⟨rfl, hA, -⟩
    have ch2 : w2.cell? ⟨w.heap.size, 0, none⟩ = some (.int .i64 how) := ((hh.alt hA (fun h => h)).at_ 0).trans rfl
    have cc2 : w2.cell? ⟨w1.heap.size, 0, none⟩ = some (.int .i64 c) := ((hc.alt hA (fun h => h)).at_ 0).trans rfl
    have ca2 : w2.cell? ⟨w1.heap.size + 1, 0, none⟩ = some (.bool false) := ((ha.alt hA (fun h => h)).at_ 0).trans rfl
    have HB2 := Lib.hid (HB.out.trans ((hBW.trans (hA.none.mono hBW.size)).mono hsB))
    have k2 : (how.tmod 3 == 2) = false := by rcases hr with h | h <;> rw [h] <;> rfl
    have k3 : (how.tmod 3 == -2) = false := by rcases hr with h | h <;> rw [h] <;> rfl
    have k4 : (how.tmod 3 == -1) = false := by rcases hr with h | h <;> rw [h] <;> rfl
    clear hr hW hBW hsz hh hc ha hA hlt hsB
    go_wp2_with fail
    refine (other_any v w2).mono ?_
    rintro e w3 ⟨rfl, hB⟩
    have HB3 := Lib.hid (HB2.out.trans (hB.mono HB2.out.size))
    clear hB
    go_wp2
    go_ret
    exact ⟨rfl, HB3.out⟩
  · have h0 : how.tmod 3 ≠ 0 := by omega
    have h1 : how.tmod 3 ≠ 1 := by omega
    refine (do_ret_q 22 _ W (· = w1.heap.size + 1) (fun w' => Whole w' (w1.heap.size + 1) 4 #[.bool true]) (gdo1_enters _) (by omega) (fun u1 u2 _ hq hA => hq.alt hA (by omega)) (gdo1_ok w.heap.size w1.heap.size (w1.heap.size + 1) how c _ (hh.past _) (hc.past _) (ha.past _) h0 h1)).mono ?_
    rintro e w2 ⟨rfl, hA, ha2⟩
    have ch2 : w2.cell? ⟨w.heap.size, 0, none⟩ = some (.int .i64 how) := ((hh.alt hA (by omega)).at_ 0).trans rfl
    have ca2 : w2.cell? ⟨w1.heap.size + 1, 0, none⟩ = some (.bool true) := (ha2.at_ 0).trans rfl
    have HB2 := Lib.hid (HB.out.trans ((hBW.trans (hA.to (B := w1.heap.size) (by intro k hk; omega) (by omega))).mono hsB))
    have HV := Lib.hid (other_any v w2)
    rcases hr with hr | hr | hr
    · have k2 : (how.tmod 3 == 2) = true := by rw [hr]; rfl
      clear h0 h1 hr hW hBW hsz hh hc ha hA hlt hsB ha2
      go_wp2_with fail
      refine HV.out.mono ?_
      rintro e w3 ⟨rfl, hB⟩
      have HB3 := Lib.hid (HB2.out.trans (hB.mono HB2.out.size))
      clear hB
      go_wp2
      go_ret
      exact ⟨rfl, HB3.out⟩
    · have k2 : (how.tmod 3 == 2) = false := by rw [hr]; rfl
      have k3 : (how.tmod 3 == -2) = true := by rw [hr]; rfl
      clear h0 h1 hr hW hBW hsz hh hc ha hA hlt hsB ha2
      go_wp2_with fail
      refine HV.out.mono ?_
      rintro e w3 ⟨rfl, hB⟩
      have HB3 := Lib.hid (HB2.out.trans (hB.mono HB2.out.size))
      clear hB
      go_wp2
      go_ret
      exact ⟨rfl, HB3.out⟩
    · have k2 : (how.tmod 3 == 2) = false := by rw [hr]; rfl
      have k3 : (how.tmod 3 == -2) = false := by rw [hr]; rfl
      have k4 : (how.tmod 3 == -1) = true := by rw [hr]; rfl
      clear h0 h1 hr hW hBW hsz hh hc ha hA hlt hsB ha2
      go_wp2_with fail
      refine HV.out.mono ?_
      rintro e w3 ⟨rfl, hB⟩
      have HB3 := Lib.hid (HB2.out.trans (hB.mono HB2.out.size))
      clear hB
      go_wp2
      go_ret
      exact ⟨rfl, HB3.out⟩
end Go.Proofs.YtbljoeeekhdjkaaGreatDoor

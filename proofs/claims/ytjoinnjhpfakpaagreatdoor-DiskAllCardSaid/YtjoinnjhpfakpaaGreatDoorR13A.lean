/-
  The document's disk: at, may; its rows.
-/
import Derived.Test.YtjoinnjhpfakpaaGreatDoorDalP
import Derived.BigQuiet
namespace Go.Proofs.YtjoinnjhpfakpaaGreatDoor
open Go.RowKit

theorem eltR : Elt 94 73 2 encF noF where
  len := encF_len
  one := encF_one
  pos := by decide
  small := by decide
  und := Tryz.underlying73
  info := by
    have h : (Tryz.prog.info? 94).map (fun i => (i.zero, i.size, decide (i.bytes ≤ 4096))) = some (some (.agg (encF noF).toArray), 2, true) := by kernel_rfl
    cases hq : Tryz.prog.info? 94 with
    | none => rw [hq] at h; cases h
    | some i =>
      rw [hq] at h
      simp only [Option.map_some, Option.some.injEq, Prod.mk.injEq, decide_eq_true_eq] at h
      exact ⟨i, rfl, h.1, h.2.1, h.2.2⟩
  szo := Tryz.sizeOf94
  zero := fun w => by kernel_rfl
theorem getD_eq {fs : List Fl} {i : Nat} (hi : i < fs.length) : fs[i]? = some (fs.getD i noF) := by
  rw [List.getElem?_eq_getElem hi, List.getD_eq_getElem?_getD, List.getElem?_eq_getElem hi]
  rfl
set_option maxRecDepth 100000 in
theorem rat_any (A : Option Addr) (c : Nat) (fs : List Fl) (nm : List UInt8) (w : World) (hA : ArgG encF noF 2 w A c fs) (hr : Rises fs) (hn : fs.length ≤ 1000) :
    Calls Tryz.prog 37 #[.slice A fs.length c, .string ⟨nm.toArray⟩] w fun e w' => e = .returned (.tuple #[.int .i64 (bsW fs nm : Nat), .bool (bsF fs nm)]) ∧ Below w.heap.size w w' := by
  obtain ⟨hp, h1, h2⟩ := bsW_split hr nm
  have hF := bsF_iff fs nm
  generalize hpq : bsW fs nm = p at *
  generalize hbf : bsF fs nm = bf at *
  have HA := Lib.hid hA
  have H1 := Lib.hid h1
  have H2 := Lib.hid h2
  have HF := Lib.hid hF
  clear hA h1 h2 hF
  go_enter Tryz.func37, Tryz.ntmps37
  go_wp2
  go_loopw [6] (fun s6 wr => ∃ i : Nat, i ≤ p ∧ s6 = .int .i64 (i : Int) ∧ wr = w) (fun i _ => p - (intOf i).toNat)
  case atStart => exact ⟨0, Nat.zero_le _, rfl, rfl⟩
  case round =>
    obtain ⟨i, hi, rfl, rfl⟩ := hrel
    by_cases hlt : i < p
    · have hl : (i : Int) < (fs.length : Int) := by omega
      obtain ⟨bb, o, rfl, hrow⟩ := HA.out.2.2.2 (by omega)
      have hc := hrow i (by omega) 0 _ rfl
      simp only [Nat.add_zero] at hc
      have hb : Op.bytesLess (fs.getD i noF).1 nm = true := by rw [less_lt2]; exact decide_eq_true (H1.out i hlt)
      generalize (fs.getD i noF).1 = x at *
      go_wp2
      go_roundw
      case rel => exact ⟨i + 1, hlt, by go_num, trivial⟩
      case measure => simp [intOf]; omega
    · obtain rfl : i = p := by omega
      by_cases hl : i < fs.length
      · have hl' : (i : Int) < (fs.length : Int) := by omega
        obtain ⟨bb, o, rfl, hrow⟩ := HA.out.2.2.2 (by omega)
        have hc := hrow i hl 0 _ rfl
        simp only [Nat.add_zero] at hc
        have hb : Op.bytesLess (fs.getD i noF).1 nm = false := by rw [less_lt2]; exact decide_eq_false (H2.out i (Nat.le_refl _) hl)
        have HB : Hid (bf = ((fs.getD i noF).1 == nm)) := by
          show _ = _
          rw [Bool.eq_iff_iff, HF.out, beq_iff_eq]
          exact ⟨fun h => h.2, fun h => ⟨hl, h⟩⟩
        have hd : decide ((i : Int) < (fs.length : Int)) = true := decide_eq_true hl'
        generalize (fs.getD i noF).1 = x at *
        clear HF H1 H2 hrow
        go_wp2
        go_quiet (fail)
        go_wp2
        exact bodyPost_ret (results_tmp2 rfl _ _ _) rfl ⟨by rw [HB.out]; rfl, ⟨rfl, rfl, rfl, Nat.le_refl _, fun _ _ => rfl⟩⟩
      · have hl' : ¬ (i : Int) < (fs.length : Int) := by omega
        have hd : decide ((i : Int) < (fs.length : Int)) = false := decide_eq_false hl'
        have HB : Hid (bf = false) := by
          show _ = _
          rw [Bool.eq_false_iff, ne_eq, HF.out]
          exact fun h => hl h.1
        clear HF H1 H2
        go_wp2
        go_quiet (fail)
        go_wp2
        exact bodyPost_ret (results_tmp2 rfl _ _ _) rfl ⟨by rw [HB.out]; rfl, ⟨rfl, rfl, rfl, Nat.le_refl _, fun _ _ => rfl⟩⟩
theorem rmay13_any (nm : List UInt8) (w : World) (hl : nm.length < 2 ^ 63) : Calls Tryz.prog 38 #[.string ⟨nm.toArray⟩] w fun e w' => e = .returned (.bool (decide (nm ≠ [] ∧ nm.length ≤ 100))) ∧ w = w' := by
  by_cases h : nm = []
  · subst h
    rw [decide_eq_false (by simp)]
    go_enter Tryz.func38, Tryz.ntmps38
    go_wp2
    go_ret
    exact ⟨rfl, rfl⟩
  · have hne : (nm == []) = false := by simp [h]
    have hb : decide (nm ≠ [] ∧ nm.length ≤ 100) = decide ((nm.length : Int) ≤ 100) := by
      rw [Bool.eq_iff_iff, decide_eq_true_iff, decide_eq_true_iff]
      constructor
      · rintro ⟨-, h2⟩; omega
      · intro h2; exact ⟨h, by omega⟩
    rw [hb]
    clear hb
    go_enter Tryz.func38, Tryz.ntmps38
    go_wp2
    go_ret
    exact ⟨rfl, rfl⟩
end Go.Proofs.YtjoinnjhpfakpaaGreatDoor

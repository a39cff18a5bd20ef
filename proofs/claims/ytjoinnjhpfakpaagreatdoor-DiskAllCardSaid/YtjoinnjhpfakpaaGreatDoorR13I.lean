/-
  The document's disk: Write, Move, Remove, Sync.
-/
import Derived.Test.YtjoinnjhpfakpaaGreatDoorR13H
namespace Go.Proofs.YtjoinnjhpfakpaaGreatDoor
open Go.RowKit

set_option maxRecDepth 100000 in
theorem rwrite_any (N : Nat → Prop) (rb : Nat) (s : DS) (p : RP) (a b : List UInt8) (w : World) (h : RkP w N rb s p) (hg : Good s) (ha : a.length < 2 ^ 63) :
    Calls Tryz.prog 10 #[.pointer (some ⟨rb, 0, none⟩), .string ⟨a.toArray⟩, .string ⟨b.toArray⟩] w (RTold (s.step (.wr a b)) N rb w) := by
  rw [step_wr hg]
  have c2 : w.cell? ⟨rb, 2, none⟩ = some (.slice p.A1 s.now.length p.c1) := (Whole.at_ h.cells 2).trans rfl
  have HAT := Lib.hid (rat_any p.A1 p.c1 s.now a w h.now hg.now (by have := hg.nowLen; omega))
  have HMAY := Lib.hid fun W => rmay13_any a W ha
  have HDO := Lib.hid fun W (hW : Below w.heap.size w W) => (show may13 a → _ from fun hm => (rdo_any N rb s p (.wr a b) hm 1 a [] b rfl rfl W (h.below hW) hg))
  have H := Lib.hid h
  have HCC : Hid (∀ W, Below w.heap.size w W → W.cell? ⟨rb, 2, none⟩ = some (.slice p.A1 s.now.length p.c1) ∧ W.cell? ⟨rb, 5, none⟩ = some (.bool s.down)) := fun W hW => ⟨(Whole.at_ (h.below hW).cells 2).trans rfl, (Whole.at_ (h.below hW).cells 5).trans rfl⟩
  clear h
  cases hd : s.down with
  | true =>
    rw [if_pos rfl]
    rw [hd] at HCC
    go_enter Tryz.func10, Tryz.ntmps10
    go_wp2_with (go_at_call 37; refine HAT.out.mono ?_; rintro e w2 ⟨rfl, hB2⟩; have cc2 := (HCC.out w2 hB2).1; have cc5 := (HCC.out w2 hB2).2; have HB2 := Lib.hid hB2; clear hB2 HAT)
    go_ret
    exact ⟨rfl, rdid_same (H.out.below HB2.out), Alt.of_below HB2.out⟩
  | false =>
    rw [if_neg (by simp)]
    rw [hd] at HCC
    by_cases hm : may13 a
    · rw [if_neg (by simpa using hm)]
      replace HMAY : Hid (∀ W, Calls Tryz.prog 38 #[.string ⟨a.toArray⟩] W fun e w' => e = .returned (.bool true) ∧ W = w') := fun W => by have := HMAY.out W; rw [decide_eq_true (show a ≠ [] ∧ a.length ≤ 100 from hm)] at this; exact this
      by_cases hl : bsF s.now a = false ∧ 100 ≤ s.now.length
      · rw [if_pos hl]
        rw [hl.1] at HAT
        have hl' : (s.now.length : Int) ≥ 100 := by have := hl.2; omega
        go_enter Tryz.func10, Tryz.ntmps10
        go_wp2_with (first
          | (go_at_call 37; refine HAT.out.mono ?_; rintro e w2 ⟨rfl, hB2⟩; have cc2 := (HCC.out w2 hB2).1; have cc5 := (HCC.out w2 hB2).2; have HB2 := Lib.hid hB2; clear hB2 HAT)
          | (go_at_call 38; refine (HMAY.out _).mono ?_; rintro e w3 ⟨rfl, rfl⟩))
        go_ret
        exact ⟨rfl, rdid_same (H.out.below HB2.out), Alt.of_below HB2.out⟩
      · rw [if_neg hl]
        cases hb : bsF s.now a with
        | true =>
          rw [hb] at HAT
          go_enter Tryz.func10, Tryz.ntmps10
          go_wp2_with (first
            | (go_at_call 37; refine HAT.out.mono ?_; rintro e w2 ⟨rfl, hB2⟩; have cc2 := (HCC.out w2 hB2).1; have cc5 := (HCC.out w2 hB2).2; have HB2 := Lib.hid hB2; clear hB2 HAT)
            | (go_at_call 38; refine (HMAY.out _).mono ?_; rintro e w3 ⟨rfl, rfl⟩)
            | (go_at_call 39; refine (HDO.out _ HB2.out hm).mono ?_; rintro e w4 ⟨rfl, hd4, ha4⟩; have HT := Lib.hid (And.intro hd4 ha4); clear hd4 ha4))
          go_ret
          exact RTold.from ⟨rfl, HT.out.1, HT.out.2⟩ HB2.out
        | false =>
          rw [hb] at HAT
          have hl' : ¬ (s.now.length : Int) ≥ 100 := fun e => hl ⟨hb, by omega⟩
          go_enter Tryz.func10, Tryz.ntmps10
          go_wp2_with (first
            | (go_at_call 37; refine HAT.out.mono ?_; rintro e w2 ⟨rfl, hB2⟩; have cc2 := (HCC.out w2 hB2).1; have cc5 := (HCC.out w2 hB2).2; have HB2 := Lib.hid hB2; clear hB2 HAT)
            | (go_at_call 38; refine (HMAY.out _).mono ?_; rintro e w3 ⟨rfl, rfl⟩)
            | (go_at_call 39; refine (HDO.out _ HB2.out hm).mono ?_; rintro e w4 ⟨rfl, hd4, ha4⟩; have HT := Lib.hid (And.intro hd4 ha4); clear hd4 ha4))
          go_ret
          exact RTold.from ⟨rfl, HT.out.1, HT.out.2⟩ HB2.out
    · rw [if_pos hm]
      replace HMAY : Hid (∀ W, Calls Tryz.prog 38 #[.string ⟨a.toArray⟩] W fun e w' => e = .returned (.bool false) ∧ W = w') := fun W => by have := HMAY.out W; rw [decide_eq_false (show ¬ (a ≠ [] ∧ a.length ≤ 100) from hm)] at this; exact this
      go_enter Tryz.func10, Tryz.ntmps10
      go_wp2_with (first
        | (go_at_call 37; refine HAT.out.mono ?_; rintro e w2 ⟨rfl, hB2⟩; have cc2 := (HCC.out w2 hB2).1; have cc5 := (HCC.out w2 hB2).2; have HB2 := Lib.hid hB2; clear hB2 HAT)
        | (go_at_call 38; refine (HMAY.out _).mono ?_; rintro e w3 ⟨rfl, rfl⟩))
      go_ret
      exact ⟨rfl, rdid_same (H.out.below HB2.out), Alt.of_below HB2.out⟩
set_option maxRecDepth 100000 in
theorem rmove_any (N : Nat → Prop) (rb : Nat) (s : DS) (p : RP) (a b : List UInt8) (w : World) (h : RkP w N rb s p) (hg : Good s) (ha : b.length < 2 ^ 63) :
    Calls Tryz.prog 12 #[.pointer (some ⟨rb, 0, none⟩), .string ⟨a.toArray⟩, .string ⟨b.toArray⟩] w (RTold (s.step (.mv a b)) N rb w) := by
  rw [step_mv hg]
  have c2 : w.cell? ⟨rb, 2, none⟩ = some (.slice p.A1 s.now.length p.c1) := (Whole.at_ h.cells 2).trans rfl
  have HAT := Lib.hid (rat_any p.A1 p.c1 s.now a w h.now hg.now (by have := hg.nowLen; omega))
  have H := Lib.hid h
  have HCC : Hid (∀ W, Below w.heap.size w W → W.cell? ⟨rb, 2, none⟩ = some (.slice p.A1 s.now.length p.c1) ∧ W.cell? ⟨rb, 5, none⟩ = some (.bool s.down)) := fun W hW => ⟨(Whole.at_ (h.below hW).cells 2).trans rfl, (Whole.at_ (h.below hW).cells 5).trans rfl⟩
  have HMAY := Lib.hid fun W => rmay13_any b W ha
  have HDO := Lib.hid fun W (hW : Below w.heap.size w W) => (show may13 b → _ from fun hm => (rdo_any N rb s p (.mv a b) hm 2 a b [] rfl rfl W (h.below hW) hg))
  clear h
  cases hd : s.down with
  | true =>
    rw [if_pos rfl]
    rw [hd] at HCC
    go_enter Tryz.func12, Tryz.ntmps12
    go_wp2_with (first
      | (go_at_call 37; refine HAT.out.mono ?_; rintro e w2 ⟨rfl, hB2⟩; have cc2 := (HCC.out w2 hB2).1; have cc5 := (HCC.out w2 hB2).2; have HB2 := Lib.hid hB2; clear hB2 HAT))
    go_ret
    exact ⟨rfl, rdid_same (H.out.below HB2.out), Alt.of_below HB2.out⟩
  | false =>
    rw [if_neg (by simp)]
    rw [hd] at HCC
    cases hb : bsF s.now a with
    | false =>
      rw [if_pos rfl]
      rw [hb] at HAT
      go_enter Tryz.func12, Tryz.ntmps12
      go_wp2_with (first
        | (go_at_call 37; refine HAT.out.mono ?_; rintro e w2 ⟨rfl, hB2⟩; have cc2 := (HCC.out w2 hB2).1; have cc5 := (HCC.out w2 hB2).2; have HB2 := Lib.hid hB2; clear hB2 HAT))
      go_ret
      exact ⟨rfl, rdid_same (H.out.below HB2.out), Alt.of_below HB2.out⟩
    | true =>
      rw [if_neg (by simp)]
      rw [hb] at HAT
      by_cases hm : may13 b
      · rw [if_neg (by simpa using hm)]
        replace HMAY : Hid (∀ W, Calls Tryz.prog 38 #[.string ⟨b.toArray⟩] W fun e w' => e = .returned (.bool true) ∧ W = w') := fun W => by have := HMAY.out W; rw [decide_eq_true (show b ≠ [] ∧ b.length ≤ 100 from hm)] at this; exact this
        go_enter Tryz.func12, Tryz.ntmps12
        go_wp2_with (first
          | (go_at_call 37; refine HAT.out.mono ?_; rintro e w2 ⟨rfl, hB2⟩; have cc2 := (HCC.out w2 hB2).1; have cc5 := (HCC.out w2 hB2).2; have HB2 := Lib.hid hB2; clear hB2 HAT)
          | (go_at_call 38; refine (HMAY.out _).mono ?_; rintro e w3 ⟨rfl, rfl⟩)
          | (go_at_call 39; refine (HDO.out _ HB2.out hm).mono ?_; rintro e w4 ⟨rfl, hd4, ha4⟩; have HT := Lib.hid (And.intro hd4 ha4); clear hd4 ha4))
        go_ret
        exact RTold.from ⟨rfl, HT.out.1, HT.out.2⟩ HB2.out
      · rw [if_pos hm]
        replace HMAY : Hid (∀ W, Calls Tryz.prog 38 #[.string ⟨b.toArray⟩] W fun e w' => e = .returned (.bool false) ∧ W = w') := fun W => by have := HMAY.out W; rw [decide_eq_false (show ¬ (b ≠ [] ∧ b.length ≤ 100) from hm)] at this; exact this
        go_enter Tryz.func12, Tryz.ntmps12
        go_wp2_with (first
          | (go_at_call 37; refine HAT.out.mono ?_; rintro e w2 ⟨rfl, hB2⟩; have cc2 := (HCC.out w2 hB2).1; have cc5 := (HCC.out w2 hB2).2; have HB2 := Lib.hid hB2; clear hB2 HAT)
          | (go_at_call 38; refine (HMAY.out _).mono ?_; rintro e w3 ⟨rfl, rfl⟩))
        go_ret
        exact ⟨rfl, rdid_same (H.out.below HB2.out), Alt.of_below HB2.out⟩
set_option maxRecDepth 100000 in
theorem rremove_any (N : Nat → Prop) (rb : Nat) (s : DS) (p : RP) (a : List UInt8) (w : World) (h : RkP w N rb s p) (hg : Good s) :
    Calls Tryz.prog 14 #[.pointer (some ⟨rb, 0, none⟩), .string ⟨a.toArray⟩] w (RTold (s.step (.rm a)) N rb w) := by
  rw [step_rm hg]
  have c2 : w.cell? ⟨rb, 2, none⟩ = some (.slice p.A1 s.now.length p.c1) := (Whole.at_ h.cells 2).trans rfl
  have HAT := Lib.hid (rat_any p.A1 p.c1 s.now a w h.now hg.now (by have := hg.nowLen; omega))
  have H := Lib.hid h
  have HCC : Hid (∀ W, Below w.heap.size w W → W.cell? ⟨rb, 2, none⟩ = some (.slice p.A1 s.now.length p.c1) ∧ W.cell? ⟨rb, 5, none⟩ = some (.bool s.down)) := fun W hW => ⟨(Whole.at_ (h.below hW).cells 2).trans rfl, (Whole.at_ (h.below hW).cells 5).trans rfl⟩
  have HDO := Lib.hid fun W (hW : Below w.heap.size w W) => rdo_any N rb s p (.rm a) trivial 3 a [] [] rfl rfl W (h.below hW) hg
  clear h
  cases hd : s.down with
  | true =>
    rw [if_pos rfl]
    rw [hd] at HCC
    go_enter Tryz.func14, Tryz.ntmps14
    go_wp2_with (first
      | (go_at_call 37; refine HAT.out.mono ?_; rintro e w2 ⟨rfl, hB2⟩; have cc2 := (HCC.out w2 hB2).1; have cc5 := (HCC.out w2 hB2).2; have HB2 := Lib.hid hB2; clear hB2 HAT))
    go_ret
    exact ⟨rfl, rdid_same (H.out.below HB2.out), Alt.of_below HB2.out⟩
  | false =>
    rw [if_neg (by simp)]
    rw [hd] at HCC
    cases hb : bsF s.now a with
    | false =>
      rw [if_pos rfl]
      rw [hb] at HAT
      go_enter Tryz.func14, Tryz.ntmps14
      go_wp2_with (first
        | (go_at_call 37; refine HAT.out.mono ?_; rintro e w2 ⟨rfl, hB2⟩; have cc2 := (HCC.out w2 hB2).1; have cc5 := (HCC.out w2 hB2).2; have HB2 := Lib.hid hB2; clear hB2 HAT))
      go_ret
      exact ⟨rfl, rdid_same (H.out.below HB2.out), Alt.of_below HB2.out⟩
    | true =>
      rw [if_neg (by simp)]
      rw [hb] at HAT
      go_enter Tryz.func14, Tryz.ntmps14
      go_wp2_with (first
        | (go_at_call 37; refine HAT.out.mono ?_; rintro e w2 ⟨rfl, hB2⟩; have cc2 := (HCC.out w2 hB2).1; have cc5 := (HCC.out w2 hB2).2; have HB2 := Lib.hid hB2; clear hB2 HAT)
        | (go_at_call 39; refine (HDO.out _ HB2.out).mono ?_; rintro e w4 ⟨rfl, hd4, ha4⟩; have HT := Lib.hid (And.intro hd4 ha4); clear hd4 ha4))
      go_ret
      exact RTold.from ⟨rfl, HT.out.1, HT.out.2⟩ HB2.out
set_option maxRecDepth 100000 in
theorem rsync_any (N : Nat → Prop) (rb : Nat) (s : DS) (p : RP) (w : World) (h : RkP w N rb s p) (hg : Good s) :
    Calls Tryz.prog 16 #[.pointer (some ⟨rb, 0, none⟩)] w (RTold s.sync N rb w) := by
  rw [sync_ok hg]
  have c5 : w.cell? ⟨rb, 5, none⟩ = some (.bool s.down) := (Whole.at_ h.cells 5).trans rfl
  have HDO := Lib.hid (rdo_sync N rb s p w h hg)
  have H := Lib.hid h
  clear h
  cases hd : s.down with
  | true =>
    rw [if_pos rfl]
    rw [hd] at c5
    go_enter Tryz.func16, Tryz.ntmps16
    go_wp2
    go_ret
    exact ⟨rfl, rdid_same H.out, Alt.refl _ _⟩
  | false =>
    rw [if_neg (by simp)]
    rw [hd] at c5
    go_enter Tryz.func16, Tryz.ntmps16
    go_wp2_with (go_at_call 39; refine HDO.out.mono ?_; rintro e w4 ⟨rfl, hd4, ha4⟩; have HT := Lib.hid (And.intro hd4 ha4); clear hd4 ha4)
    go_ret
    exact ⟨rfl, HT.out.1, HT.out.2⟩
end Go.Proofs.YtjoinnjhpfakpaaGreatDoor

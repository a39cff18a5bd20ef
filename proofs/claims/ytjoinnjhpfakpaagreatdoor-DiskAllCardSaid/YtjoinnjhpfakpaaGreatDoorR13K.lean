/-
  Whether a disk tells what the document's does: law 13's same.
-/
import Derived.Test.YtjoinnjhpfakpaaGreatDoorDskQ
import Derived.BigQuiet
namespace Go.Proofs.YtjoinnjhpfakpaaGreatDoor
open Go.RowKit

theorem find_own {fs : List Fl} (h : Rises fs) {i : Nat} (hi : i < fs.length) : bsW fs (fs.getD i noF).1 = i ∧ bsF fs (fs.getD i noF).1 = true := by
  obtain ⟨hp, h1, h2⟩ := bsW_split h (fs.getD i noF).1
  have e : bsW fs (fs.getD i noF).1 = i := by
    rcases Nat.lt_trichotomy (bsW fs (fs.getD i noF).1) i with hl | hl | hl
    · exact absurd (h.at_ hl hi) (h2 _ (Nat.le_refl _) (by omega))
    · exact hl
    · exact absurd (h1 i hl) (lt2_irr _)
  exact ⟨e, (bsF_iff fs _).2 ⟨by omega, by rw [e]⟩⟩
theorem read_own {s : DS} (h : Rises s.now) (hd : s.down = false) {i : Nat} (hi : i < s.now.length) : s.read (s.now.getD i noF).1 = ((s.now.getD i noF).2, 0) := by
  obtain ⟨h1, h2⟩ := find_own h hi
  unfold DS.read
  rw [if_neg (by rw [hd]; simp), if_pos h2, h1]
theorem below_drewN (w : World) (n : Nat) : Below w.heap.size w (w.drewN n) := ⟨rfl, rfl, rfl, Nat.le_refl _, fun _ _ => rfl⟩
set_option maxRecDepth 100000 in
set_option maxHeartbeats 4000000 in
theorem same_any (N : Nat → Prop) (b rb : Nat) (s : DS) (p : RP) (w : World) (hD : Dk w N b s) (hR : RkP w N rb s p) (hg : Good s) :
    Calls Tryz.prog 23 #[.pointer (some ⟨b, 0, none⟩), .pointer (some ⟨rb, 0, none⟩)] w fun e w' => e = .returned (.bool true) ∧ Below w.heap.size w w' := by
  have HFI := Lib.hid (dfiles_any N b s w hD)
  have HD := Lib.hid hD
  have HR := Lib.hid hR
  clear hD hR
  cases hd : s.down with
  | true =>
    have hnm : s.names = [] := by unfold DS.names; rw [if_pos hd]
    rw [hnm] at HFI
    have HDN : Hid (∀ W, Below w.heap.size w W → Calls Tryz.prog 25 #[.pointer (some ⟨b, 0, none⟩)] W fun e w' => e = .returned (.bool true) ∧ W = w') := fun W hW => by have := ddown_dk N b s W (HD.out.below hW); rw [hd] at this; exact this
    have HOP := Lib.hid fun W (hW : Below w.heap.size w W) => dops_dk N b s W (HD.out.below hW)
    go_enter Tryz.func23, Tryz.ntmps23
    go_upto_region 2 with (go_at_call 47; refine HFI.out.mono ?_; rintro e w1 ⟨⟨A, c, rfl, hrow⟩, hB⟩; have HB1 := Lib.hid hB; have HW1 := Lib.hid (Whole.below HR.out.cells hB HR.out.cells.lt); clear hB HFI)
    have c5 : w1.cell? ⟨rb, 5, none⟩ = some (.bool true) := by rw [← hd]; exact (Whole.at_ HW1.out 5).trans rfl
    have c4 : w1.cell? ⟨rb, 4, none⟩ = some (.int .i64 (s.ops : Int)) := (Whole.at_ HW1.out 4).trans rfl
    have c2 : w1.cell? ⟨rb, 2, none⟩ = some (.slice p.A1 s.now.length p.c1) := (Whole.at_ HW1.out 2).trans rfl
    go_quiet ((first | (go_at_call 25; exact q_left (HDN.out _ (HB1.out.trans ((below_drewN w1 _).mono HB1.out.size)))) | (go_at_call 26; exact q_left (HOP.out _ (HB1.out.trans ((below_drewN w1 _).mono HB1.out.size))))))
    have HB2 := Lib.hid (HB1.out.trans ((below_drewN w1 nq).mono HB1.out.size))
    generalize w1.drewN nq = w2 at *
    clear c5 c4 c2
    go_wp2
    go_loopw [57] (fun s57 wr => s57 = .int .i64 0 ∧ wr = w2) (fun _ _ => 0)
    case atStart => exact ⟨rfl, rfl⟩
    case round =>
      obtain ⟨rfl, rfl⟩ := hrel
      go_wp2
      go_ret
      exact ⟨rfl, HB2.out⟩
  | false =>
    have hnm : s.names = nmV s.now := by unfold DS.names; rw [if_neg (by rw [hd]; simp)]
    rw [hnm, nmV_len] at HFI
    have HDN : Hid (∀ W, Below w.heap.size w W → Calls Tryz.prog 25 #[.pointer (some ⟨b, 0, none⟩)] W fun e w' => e = .returned (.bool false) ∧ W = w') := fun W hW => by have := ddown_dk N b s W (HD.out.below hW); rw [hd] at this; exact this
    have HOP := Lib.hid fun W (hW : Below w.heap.size w W) => dops_dk N b s W (HD.out.below hW)
    have hn100 := hg.nowLen
    go_enter Tryz.func23, Tryz.ntmps23
    go_upto_region 2 with (go_at_call 47; refine HFI.out.mono ?_; rintro e w1 ⟨⟨A, c, rfl, hrow⟩, hB⟩; have HB1 := Lib.hid hB; have HROW := Lib.hid hrow; have HW1 := Lib.hid (Whole.below HR.out.cells hB HR.out.cells.lt); clear hB HFI hrow)
    have c5 : w1.cell? ⟨rb, 5, none⟩ = some (.bool false) := by rw [← hd]; exact (Whole.at_ HW1.out 5).trans rfl
    have c4 : w1.cell? ⟨rb, 4, none⟩ = some (.int .i64 (s.ops : Int)) := (Whole.at_ HW1.out 4).trans rfl
    have c2 : w1.cell? ⟨rb, 2, none⟩ = some (.slice p.A1 s.now.length p.c1) := (Whole.at_ HW1.out 2).trans rfl
    go_quiet ((first | (go_at_call 25; exact q_left (HDN.out _ (HB1.out.trans ((below_drewN w1 _).mono HB1.out.size)))) | (go_at_call 26; exact q_left (HOP.out _ (HB1.out.trans ((below_drewN w1 _).mono HB1.out.size))))))
    have HB2 := Lib.hid (HB1.out.trans ((below_drewN w1 nq).mono HB1.out.size))
    have HROW2 := Lib.hid (HROW.out.alt (R := fun _ => False) (Alt.of_below (below_drewN w1 nq)) (fun _ _ _ e => e))
    generalize w1.drewN nq = w2 at *
    clear c5 c4 c2 HROW HW1
    go_wp2
    go_loopw [57] (fun s57 wr => ∃ i : Nat, i ≤ s.now.length ∧ s57 = .int .i64 (i : Int) ∧ Hid (Below w.heap.size w wr) ∧ Hid (RowV wr A c (nmV s.now))) (fun i _ => s.now.length - (intOf i).toNat)
    case atStart => exact ⟨0, Nat.zero_le _, rfl, HB2, HROW2⟩
    case round =>
      obtain ⟨i, hi, rfl, HB3, HROW3⟩ := hrel
      by_cases hlt : i < s.now.length
      · have hlt' : (i : Int) < (s.now.length : Int) := by omega
        obtain ⟨ba, oa, hAe, hra⟩ := HROW3.out.2.2.2 (by rw [nmV_len]; omega)
        have hca := hra i (.string ⟨(s.now.getD i noF).1.toArray⟩) (by unfold nmV; rw [List.getElem?_map, getD_eq hlt]; rfl)
        have HRD := Lib.hid fun W (hW : Below w.heap.size w W) => dread_disk N b s (s.now.getD i noF).1 W (HD.out.below hW)
        rw [read_own hg.now hd hlt] at HRD
        have hbel := HB3.out
        have hcl := Whole.below HR.out.cells hbel HR.out.cells.lt
        obtain ⟨b1, o1, hA1e, hr1⟩ := (HR.out.now.later eltR hbel).2.2.2 (by omega)
        have hn0 := hr1 i hlt 0 _ rfl
        have hn1 := hr1 i hlt 1 _ rfl
        simp only [Nat.add_zero] at hn0
        have hk2 : wr.cell? ⟨rb, 2, none⟩ = some (.slice (some ⟨b1, o1, none⟩) s.now.length p.c1) := by rw [← hA1e]; exact (Whole.at_ hcl 2).trans rfl
        generalize (s.now.getD i noF).1 = x at *
        generalize (s.now.getD i noF).2 = tx at *
        subst hAe
        have HCS : Hid (∀ W, Below wr.heap.size wr W → W.cell? ⟨rb, 2, none⟩ = some (.slice (some ⟨b1, o1, none⟩) s.now.length p.c1) ∧ W.cell? ⟨ba, oa + i, none⟩ = some (.string ⟨x.toArray⟩) ∧ W.cell? ⟨b1, o1 + i * 2, none⟩ = some (.string ⟨x.toArray⟩) ∧ W.cell? ⟨b1, o1 + i * 2 + 1, none⟩ = some (.string ⟨tx.toArray⟩)) := fun W hW => ⟨(hW.cell (World.block_lt_of_cell? _ _ hk2)).trans hk2, (hW.cell (World.block_lt_of_cell? _ _ hca)).trans hca, (hW.cell (World.block_lt_of_cell? _ _ hn0)).trans hn0, (hW.cell (World.block_lt_of_cell? _ _ hn1)).trans hn1⟩
        clear hra hr1 hcl hbel hk2 hn0 hn1 hA1e
        go_upto_region 8 with (go_at_call 21; refine (HRD.out _ HB3.out).mono ?_; rintro e w4 ⟨rfl, hB4⟩; have HB4 := Lib.hid (HB3.out.trans (hB4.mono HB3.out.size)); have HROW4 := Lib.hid (HROW3.out.alt (R := fun _ => False) (Alt.of_below hB4) (fun _ _ _ e => e)); have hcs := HCS.out _ hB4; have k1 := hcs.1; have k2 := hcs.2.1; have k3 := hcs.2.2.1; have k4 := hcs.2.2.2; clear hB4 hcs HCS HRD)
        go_quiet (fail)
        have HB5 := Lib.hid (HB4.out.trans ((below_drewN w4 nq).mono HB4.out.size))
        have HROW5 := Lib.hid (HROW4.out.alt (R := fun _ => False) (Alt.of_below (below_drewN w4 nq)) (fun _ _ _ e => e))
        generalize w4.drewN nq = w5 at *
        clear k1 k2 k3 k4
        go_wp2
        go_roundw
        case rel => exact ⟨i + 1, hlt, by go_num, HB5, HROW5⟩
        case measure => simp [intOf]; omega
      · obtain rfl : i = s.now.length := by omega
        have hlt' : ¬ (s.now.length : Int) < (s.now.length : Int) := Int.lt_irrefl _
        go_wp2
        go_ret
        exact ⟨rfl, HB3.out⟩
end Go.Proofs.YtjoinnjhpfakpaaGreatDoor

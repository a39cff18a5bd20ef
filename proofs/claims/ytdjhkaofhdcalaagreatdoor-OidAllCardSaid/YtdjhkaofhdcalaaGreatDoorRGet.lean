/-
  The reference's GetHex.
-/
import Derived.Test.YtdjhkaofhdcalaaGreatDoorOGet
import Derived.Test.YtdjhkaofhdcalaaGreatDoorRefN
namespace Go.Proofs.YtdjhkaofhdcalaaGreatDoor
open Go.RowKit
theorem idl_two (s : List UInt8) (k : Nat) : (idl s (2 * k)).set k (UInt8.ofNat (hd s (2 * k) * 16 + hd s (2 * k + 1))) = idl s (2 * (k + 1)) := by
  have h1 := idl_step s (2 * k)
  have h2 := idl_step s (2 * k + 1)
  rw [show 2 * k / 2 = k by omega] at h1
  rw [show (2 * k + 1) / 2 = k by omega, ← h1, List.set_set] at h2
  have h3 : idn s (2 * k + 1) k = hd s (2 * k) := by
    unfold idn
    rw [if_neg (by omega), if_pos (by omega)]
  rw [h3] at h2
  rw [h2]; rfl
theorem two_at (s : List UInt8) (k : Nat) (h : 2 * k + 2 ≤ s.length) : (s.take (2 * k + 2)).drop (2 * k) = [s.getD (2 * k) 0, s.getD (2 * k + 1) 0] := by
  have e1 : s.getD (2 * k) 0 = s[2 * k] := by rw [List.getD_eq_getElem?_getD, List.getElem?_eq_getElem (show 2 * k < s.length by omega), Option.getD_some]
  have e2 : s.getD (2 * k + 1) 0 = s[2 * k + 1] := by rw [List.getD_eq_getElem?_getD, List.getElem?_eq_getElem (show 2 * k + 1 < s.length by omega), Option.getD_some]
  rw [List.drop_take, show 2 * k + 2 - 2 * k = 2 by omega, e1, e2, List.drop_eq_getElem_cons (show 2 * k < s.length by omega), List.drop_eq_getElem_cons (show 2 * k + 1 < s.length by omega)]
  rfl
theorem not_good (s : List UInt8) (i : Nat) (hi : i < s.length) (h : hval (s.getD i 0) < 0) : getId s = (List.replicate 32 0, false) := by
  have : (s.all fun c => decide (0 ≤ hval c)) = false := by
    rw [List.all_eq_false]
    refine ⟨s[i], List.getElem_mem _, ?_⟩
    rw [List.getD_eq_getElem?_getD, List.getElem?_eq_getElem hi, Option.getD_some] at h
    simp; omega
  have hg : good s = false := by simp [good, this]
  rw [getId, hg]; rfl
set_option maxRecDepth 100000 in
set_option maxHeartbeats 2000000 in
theorem rgetid_64 (s : List UInt8) (w : World) (hl : s.length = 64) : Calls Tryz.prog 10 #[.string ⟨s.toArray⟩] w fun e w' => e = .returned (.tuple #[.agg ((getId s).1.map Y).toArray, .bool (getId s).2]) ∧ Below w.heap.size w w' := by
  have hb : ((s.length : Int) != 64) = false := by simp [hl]
  have HL := Lib.hid hl
  go_enter Tryz.func10, Tryz.ntmps10
  go_wp2_with fail
  go_loopw [5] (fun i wr => ∃ k : Nat, k ≤ 32 ∧ i = .int .i64 k ∧ Whole wr (w.heap.size + 1) 23 ((idl s (2 * k)).map Y).toArray ∧ Whole wr w.heap.size 23 ((List.replicate 32 (0 : UInt8)).map Y).toArray ∧ Below w.heap.size w wr ∧ ∀ j, j < 2 * k → 0 ≤ hval (s.getD j 0)) (fun i _ => 32 - (intOf i).toNat)
  case atStart =>
    refine ⟨0, by omega, rfl, ?_, (Whole.made w 23 ((List.replicate 32 (0 : UInt8)).map Y).toArray).past _, ((Below.refl _ _).alloc (Nat.le_refl _) _).alloc (by simp) _, fun j hj => absurd hj (by omega)⟩
    rw [idl_zero]
    exact heap_alloc2_new w _ _
  case round =>
    obtain ⟨k, hk, rfl, hW, hZ, hB, hall⟩ := hrel
    have HW := Lib.hid hW
    have HZ := Lib.hid hZ
    have HB := Lib.hid hB
    have HA := Lib.hid hall
    clear hW hZ hB hall
    by_cases hlt : k < 32
    · have hkk : decide ((k : Int) < 32) = true := by simp; omega
      have h2 := two_at s k (by omega)
      have w1 : IntKind.i64.wrap (2 * (k : Int)) = ((2 * k : Nat) : Int) := by rw [IntWalk.i64_in _ (by omega)]; omega
      have w2 : IntKind.i64.wrap (((2 * k : Nat) : Int) + 2) = ((2 * k + 2 : Nat) : Int) := by rw [IntWalk.i64_in _ (by omega)]; omega
      have hsl : ∀ W, (Instr.slice 9 (.string ⟨s.toArray⟩) (some (.int .i64 (2 * (k : Int)))) (some (.int .i64 (2 * (k : Int) + 2))) none).run Tryz.prog W = .ok (.string ⟨[s.getD (2 * k) 0, s.getD (2 * k + 1) 0].toArray⟩) W := by
        intro W
        have := str_cut s (2 * k) (2 * k + 2) (by omega) (by omega) W
        rw [show ((2 * k : Nat) : Int) = 2 * (k : Int) by omega, show ((2 * k + 2 : Nat) : Int) = 2 * (k : Int) + 2 by omega, h2] at this
        exact this
      have HN := Lib.hid fun W => rnum_any [s.getD (2 * k) 0, s.getD (2 * k + 1) 0] W (by simp)
      have hcs : hd s (2 * k) = (hval (s.getD (2 * k) 0)).toNat := rfl
      have hds : hd s (2 * k + 1) = (hval (s.getD (2 * k + 1) 0)).toNat := rfl
      have hc16 := hval_lt (s.getD (2 * k) 0)
      have hd16 := hval_lt (s.getD (2 * k + 1) 0)
      by_cases hbad : hval (s.getD (2 * k) 0) < 0 ∨ hval (s.getD (2 * k + 1) 0) < 0
      · have HG : Hid (getId s = (List.replicate 32 0, false)) := by
          rcases hbad with h | h
          · exact not_good s _ (by omega) h
          · exact not_good s _ (by omega) h
        have hno : numO (ngo 0 [s.getD (2 * k) 0, s.getD (2 * k + 1) 0]) = (0, false) := by
          rcases hbad with h | h
          · simp only [ngo, if_pos h, numO]
          · simp only [ngo]
            split <;> first | rfl | (rw [if_pos h]; rfl)
        rw [hno] at HN
        clear hno hbad hcs hds hc16 hd16 w1 w2 h2 hl
        generalize s.getD (2 * k) 0 = c at *
        generalize s.getD (2 * k + 1) 0 = d at *
        go_wp2_with fail
        refine (HN.out _).mono ?_
        rintro e w' ⟨rfl, rfl⟩
        go_wp2_with (refine wpList_store_whole rfl 23 _ _ rfl w.heap.size _ rfl rfl 23 _ HZ.out (by kernel_rfl) (by kernel_rfl) (by kernel_rfl) ?_; intro w3 hW3 hG3; have HW3 := Lib.hid hW3; have HB3 := Lib.hid (be_grown HB.out hG3 HB.out.size (fun j hj => by injection hj with hj; omega)); clear hW3 hG3)
        rw [HG.out]
        exact oget_endG Tryz.results10 false _ w _ _ (by kernel_rfl) rfl rfl rfl HW3.out HB3.out
      · have hall2 : Hid (∀ j, j < 2 * (k + 1) → 0 ≤ hval (s.getD j 0)) := fun j hj => by
          rcases Nat.lt_or_ge j (2 * k) with h | h
          · exact HA.out j h
          · have : j = 2 * k ∨ j = 2 * k + 1 := by omega
            rcases this with rfl | rfl <;> omega
        have hno : numO (ngo 0 [s.getD (2 * k) 0, s.getD (2 * k + 1) 0]) = (hd s (2 * k) * 16 + hd s (2 * k + 1), true) := by
          simp only [ngo]
          rw [if_neg (by omega), if_neg (by omega), ← hcs, ← hds]
          simp only [numO]
          have := hd_lt s (2 * k)
          have := hd_lt s (2 * k + 1)
          congr 1
          omega
        rw [hno] at HN
        have hst := idl_two s k
        have hn256 : hd s (2 * k) * 16 + hd s (2 * k + 1) < 256 := by
          have := hd_lt s (2 * k)
          have := hd_lt s (2 * k + 1)
          omega
        clear hno hbad hcs hds hc16 hd16 w1 w2 h2 hl
        generalize hd s (2 * k) * 16 + hd s (2 * k + 1) = n at *
        have hnew : Hid (∀ W, Whole W (w.heap.size + 1) 23 (((idl s (2 * k)).map Y).toArray.setIfInBounds k (.int .u8 (n : Int))) → Whole W (w.heap.size + 1) 23 ((idl s (2 * (k + 1))).map Y).toArray) := by
          intro W h
          have e : ((idl s (2 * k)).map Y).toArray.setIfInBounds k (.int .u8 (n : Int)) = ((idl s (2 * (k + 1))).map Y).toArray := by
            rw [← hst, List.map_set]
            have h2 := UInt8.toNat_ofNat_of_lt' (show n < 256 from hn256)
            have h3 : Y (UInt8.ofNat n) = .int .u8 (n : Int) := by unfold Y; rw [h2]
            rw [h3]
            simp
          rw [e] at h
          exact h
        obtain ⟨x0, hcell⟩ : ∃ x : Int, wr.cell? ⟨w.heap.size + 1, k, none⟩ = some (.int .u8 x) := by
          rw [HW.out.at_ k, List.getElem?_toArray, ← some_y _ _ (by rw [idl_len]; omega)]
          exact ⟨_, rfl⟩
        have z0 := HW.out.thawed k
        have hn0 : (n : Int) % 256 = (n : Int) := by omega
        clear hst
        generalize s.getD (2 * k) 0 = c at *
        generalize s.getD (2 * k + 1) 0 = d at *
        go_wp2_with fail
        refine (HN.out _).mono ?_
        rintro e w' ⟨rfl, rfl⟩
        go_wp2_with fail
        go_roundw
        case rel =>
          refine ⟨k + 1, by omega, by go_num, ?_, HZ.out.aside (by simp) _, HB.out.setCell (by simp) _, hall2.out⟩
          exact hnew.out _ (HW.out.put k _)
        case measure => simp [intOf]; omega
    · obtain rfl : k = 32 := by omega
      have hgood : good s = true := by
        simp only [good, HL.out, Bool.and_eq_true, beq_self_eq_true, true_and, List.all_eq_true, decide_eq_true_eq]
        intro c hc
        obtain ⟨j, hj, rfl⟩ := List.getElem_of_mem hc
        have := HA.out j (by omega)
        rwa [List.getD_eq_getElem?_getD, List.getElem?_eq_getElem hj, Option.getD_some] at this
      have HG : Hid (getId s = (idl s 64, true)) := by show _ = _; rw [getId, hgood]; rfl
      have hsz : ((idl s 64).map Y).toArray.size = 32 := by rw [List.size_toArray, List.length_map, idl_len]
      have HI : Hid ((Tryz.prog.info? 23).map (·.size) = some ((idl s 64).map Y).toArray.size) := by show _ = _; rw [hsz]; kernel_rfl
      have H1 : Hid (((idl s 64).map Y).toArray.all (·.oneCell') = true) := by
        show _ = _
        rw [Array.all_eq_true_iff_forall_mem]
        intro v hv
        obtain ⟨y, -, rfl⟩ := List.mem_map.1 (by simpa using hv)
        rfl
      have HS := Lib.hid hsz
      obtain ⟨cs, hcs⟩ : ∃ cs, cs = ((idl s 64).map Y).toArray := ⟨_, rfl⟩
      have HCS := Lib.hid hcs
      rw [show 2 * 32 = 64 from rfl, ← hcs] at HW
      rw [← hcs] at HI H1 HS
      clear hgood hsz hlt hcs
      go_wp2_with (first
        | (refine wpList_load_row rfl 23 _ rfl (w.heap.size + 1) rfl 23 cs (0, 0) _ HW.out Tryz.underlying23 rfl HI.out ?_)
        | (refine wpList_store_whole rfl 23 _ _ rfl w.heap.size cs rfl rfl 23 _ HZ.out HI.out (by rw [HS.out]; kernel_rfl) H1.out ?_; intro w3 hW3 hG3; have HW3 := Lib.hid hW3; have HB3 := Lib.hid (be_grown HB.out hG3 HB.out.size (fun j hj => by injection hj with hj; omega)); clear hW3 hG3))
      rw [HG.out, ← HCS.out]
      exact oget_endG Tryz.results10 true _ w _ _ HS.out rfl rfl rfl HW3.out HB3.out
end Go.Proofs.YtdjhkaofhdcalaaGreatDoor

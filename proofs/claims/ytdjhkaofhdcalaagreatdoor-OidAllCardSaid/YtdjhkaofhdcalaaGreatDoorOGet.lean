/-
  oid.Get.
-/
import Derived.Test.YtdjhkaofhdcalaaGreatDoorOGetM
import Derived.Test.YtdjhkaofhdcalaaGreatDoorShaG
namespace Go.Proofs.YtdjhkaofhdcalaaGreatDoor
open Go.RowKit
theorem or_low (x d : Nat) (hx : x < 16) (hd : d < 16) : bits .or .u8 ((x : Int) * 16) (d : Int) = ((x * 16 + d : Nat) : Int) := by
  have h : ∀ x : Fin 16, ∀ d : Fin 16, bits .or .u8 (((x.val : Nat) : Int) * 16) ((d.val : Nat) : Int) = ((x.val * 16 + d.val : Nat) : Int) := by decide +kernel
  exact h ⟨x, hx⟩ ⟨d, hd⟩
theorem oget_endG {fn : Func} (hr : fn.results = #[.cell 2 23, .tmp 3]) (b : Bool) (a : Act) (w w3 : World) (A : Array Value) (hs : A.size = 32) (h2 : a.tmps.getD 2 undef = .pointer (some ⟨w.heap.size, 0, none⟩)) (h3 : a.tmps.getD 3 undef = .bool b) (hd : a.defers = []) (hW : Whole w3 w.heap.size 23 A) (hB : Below w.heap.size w w3) :
    bodyPost Tryz.prog fn (fun e w' => e = .returned (.tuple #[.agg A, .bool b]) ∧ Below w.heap.size w w') .ret a w3 := by
  refine bodyPost_ret (v := .tuple #[.agg A, .bool b]) ?_ hd ⟨rfl, hB⟩
  rw [← h3]
  exact results_row_tmp hr _ _ w.heap.size 23 A (0, 0) _ h2 hW Tryz.underlying23 rfl (by rw [hs]; kernel_rfl)
set_option maxRecDepth 100000 in
theorem oget_len (s : List UInt8) (w : World) (hl : s.length ≠ 64) : Calls Tryz.prog 8 #[.string ⟨s.toArray⟩] w fun e w' => e = .returned (.tuple #[.agg ((List.replicate 32 0).map Y).toArray, .bool false]) ∧ Below w.heap.size w w' := by
  have hb : ((s.length : Int) != 64) = true := by simp; omega
  clear hl
  go_enter Tryz.func8, Tryz.ntmps8
  go_wp2_with (refine wpList_store_whole rfl 23 _ _ rfl w.heap.size _ rfl rfl 23 _ (Whole.made w _ _) (by kernel_rfl) (by kernel_rfl) (by kernel_rfl) ?_; intro w3 hW3 hG3; have HW3 := Lib.hid hW3; have HB3 := Lib.hid (be_grown ((Below.refl w.heap.size w).alloc (Nat.le_refl _) _) hG3 (by simp) (fun j hj => by injection hj with hj; omega)); clear hW3 hG3)
  exact oget_endG Tryz.results8 false _ w _ _ (by kernel_rfl) rfl rfl rfl HW3.out HB3.out
set_option maxRecDepth 100000 in
set_option maxHeartbeats 2000000 in
theorem oget_64 (s : List UInt8) (w : World) (hl : s.length = 64) : Calls Tryz.prog 8 #[.string ⟨s.toArray⟩] w fun e w' => e = .returned (.tuple #[.agg ((getId s).1.map Y).toArray, .bool (getId s).2]) ∧ Below w.heap.size w w' := by
  have hb : ((s.length : Int) != 64) = false := by simp [hl]
  have HL := Lib.hid hl
  go_enter Tryz.func8, Tryz.ntmps8
  go_wp2_with fail
  go_loopw [13] (fun i wr => ∃ k : Nat, k ≤ 64 ∧ i = .int .i64 k ∧ Whole wr (w.heap.size + 1) 23 ((idl s k).map Y).toArray ∧ Whole wr w.heap.size 23 ((List.replicate 32 (0 : UInt8)).map Y).toArray ∧ Below w.heap.size w wr ∧ ∀ j, j < k → 0 ≤ hval (s.getD j 0)) (fun i _ => 64 - (intOf i).toNat)
  case atStart =>
    refine ⟨0, by omega, rfl, ?_, (Whole.made w 23 ((List.replicate 32 (0 : UInt8)).map Y).toArray).past _, ((Below.refl _ _).alloc (Nat.le_refl _) _).alloc (by simp) _, fun j hj => absurd hj (by omega)⟩
    rw [idl_zero]
    exact heap_alloc2_new w _ _
  case round =>
    obtain ⟨k, hk, rfl, hW, hZ, hB, hall⟩ := hrel
    have HW := Lib.hid hW
    have HZ := Lib.hid hZ
    have HB := Lib.hid hB
    have HA := Lib.hid hall
    clear hW hZ hB hall
    by_cases hlt : k < 64
    · have hidx := str_at s k (by omega)
      have hkk : decide ((k : Int) < (s.length : Int)) = true := by simp; omega
      have hks : k < s.length := by omega
      have HD := Lib.hid (digit_any (s.getD k 0))
      have hc := hval_lt (s.getD k 0)
      by_cases hneg : hval (s.getD k 0) < 0
      · have hgood : good s = false := by
          have : (s.all fun c => decide (0 ≤ hval c)) = false := by
            rw [List.all_eq_false]
            refine ⟨s[k], List.getElem_mem _, ?_⟩
            rw [List.getD_eq_getElem?_getD, List.getElem?_eq_getElem hks, Option.getD_some] at hneg
            simp; omega
          simp [good, this]
        have HG : Hid (getId s = (List.replicate 32 0, false)) := by show _ = _; rw [getId, hgood]; rfl
        clear hgood hks hl
        generalize s.getD k 0 = c at *
        go_wp2_with fail
        refine (HD.out _).mono ?_
        rintro e w' ⟨rfl, rfl⟩
        go_wp2_with (refine wpList_store_whole rfl 23 _ _ rfl w.heap.size _ rfl rfl 23 _ HZ.out (by kernel_rfl) (by kernel_rfl) (by kernel_rfl) ?_; intro w3 hW3 hG3; have HW3 := Lib.hid hW3; have HB3 := Lib.hid (be_grown HB.out hG3 HB.out.size (fun j hj => by injection hj with hj; omega)); clear hW3 hG3)
        rw [HG.out]
        exact oget_endG Tryz.results8 false _ w _ _ (by kernel_rfl) rfl rfl rfl HW3.out HB3.out
      · obtain ⟨d, hdv⟩ : ∃ d : Nat, hval (s.getD k 0) = (d : Int) := ⟨(hval (s.getD k 0)).toNat, by omega⟩
        have hds : hd s k = d := by unfold hd; omega
        have hd16 : d < 16 := by omega
        have hx := idn_low s k
        have hst := idl_step s k
        rw [hds] at hst
        have hcell : wr.cell? ⟨w.heap.size + 1, k / 2, none⟩ = some (.int .u8 (idn s k (k / 2) : Int)) := by
          rw [HW.out.at_ (k / 2), List.getElem?_toArray, ← some_y _ _ (by rw [idl_len]; omega)]
          have : (idl s k).getD (k / 2) 0 = UInt8.ofNat (idn s k (k / 2)) := by
            rw [List.getD_eq_getElem?_getD, List.getElem?_eq_getElem (by rw [idl_len]; omega)]
            simp [idl]
          rw [this]
          have h2 := UInt8.toNat_ofNat_of_lt' (show idn s k (k / 2) < 256 from idn_lt s k (k / 2))
          unfold Y
          rw [h2]
        have z0 := HW.out.thawed (k / 2)
        have hnew : Hid (∀ W, Whole W (w.heap.size + 1) 23 (((idl s k).map Y).toArray.setIfInBounds (k / 2) (.int .u8 ((idn s k (k / 2) * 16 + d : Nat) : Int))) → Whole W (w.heap.size + 1) 23 ((idl s (k + 1)).map Y).toArray) := by
          intro W h
          have e : ((idl s k).map Y).toArray.setIfInBounds (k / 2) (.int .u8 ((idn s k (k / 2) * 16 + d : Nat) : Int)) = ((idl s (k + 1)).map Y).toArray := by
            rw [← hst, List.map_set]
            have h2 := UInt8.toNat_ofNat_of_lt' (show idn s k (k / 2) * 16 + d < 256 by omega)
            have h3 : Y (UInt8.ofNat (idn s k (k / 2) * 16 + d)) = .int .u8 ((idn s k (k / 2) * 16 + d : Nat) : Int) := by unfold Y; rw [h2]
            rw [h3]
            simp
          rw [e] at h
          exact h
        have hall2 : Hid (∀ j, j < k + 1 → 0 ≤ hval (s.getD j 0)) := fun j hj => by
          rcases Nat.lt_or_ge j k with h | h
          · exact HA.out j h
          · have : j = k := by omega
            subst this; omega
        have hq : (k : Int).tdiv 2 = ((k / 2 : Nat) : Int) := by rw [Int.tdiv_eq_ediv_of_nonneg (by omega)]; omega
        have hd0 : (d : Int) % 256 = (d : Int) := by omega
        have hor := or_low (idn s k (k / 2)) d hx hd16
        have hk2 : k / 2 < 32 := by omega
        have q1 : (0 : Int) ≤ ((k / 2 : Nat) : Int) := by omega
        have q2 : ((k / 2 : Nat) : Int) < 32 := by omega
        rw [hdv] at HD hneg
        have hg : decide ((d : Int) < 0) = false := by simp
        clear hst hds hks hl hc hdv hneg
        generalize s.getD k 0 = c at *
        generalize idn s k (k / 2) = x at *
        go_wp2_with fail
        refine (HD.out _).mono ?_
        rintro e w' ⟨rfl, rfl⟩
        go_wp2_with fail
        go_roundw
        case rel =>
          refine ⟨k + 1, by omega, by go_num, ?_, HZ.out.aside (by simp) _, HB.out.setCell (by simp) _, hall2.out⟩
          rw [show (x : Int) * 16 + (d : Int) = ((x * 16 + d : Nat) : Int) by omega]
          exact hnew.out _ (HW.out.put (k / 2) _)
        case measure => simp [intOf]; omega
    · obtain rfl : k = 64 := by omega
      have hgood : good s = true := by
        simp only [good, HL.out, Bool.and_eq_true, beq_self_eq_true, true_and, List.all_eq_true, decide_eq_true_eq]
        intro c hc
        obtain ⟨j, hj, rfl⟩ := List.getElem_of_mem hc
        have := HA.out j (by omega)
        rwa [List.getD_eq_getElem?_getD, List.getElem?_eq_getElem hj, Option.getD_some] at this
      have HG : Hid (getId s = (idl s 64, true)) := by show _ = _; rw [getId, hgood]; rfl
      have hsz : ((idl s 64).map Y).toArray.size = 32 := by rw [List.size_toArray, List.length_map, idl_len]
      have HI : Hid ((Tryz.prog.info? 23).map (·.size) = some ((idl s 64).map Y).toArray.size) := by show _ = _; rw [hsz]; kernel_rfl
      have H1 : Hid (((idl s 64).map Y).toArray.all (·.oneCell') = true) := by
        show _ = _
        rw [Array.all_eq_true_iff_forall_mem]
        intro v hv
        obtain ⟨y, -, rfl⟩ := List.mem_map.1 (by simpa using hv)
        rfl
      have HS := Lib.hid hsz
      have hkk : decide ((64 : Int) < (s.length : Int)) = false := by simp; omega
      obtain ⟨cs, hcs⟩ : ∃ cs, cs = ((idl s 64).map Y).toArray := ⟨_, rfl⟩
      have HCS := Lib.hid hcs
      rw [← hcs] at HW HI H1 HS
      clear hgood hsz hlt hcs
      go_wp2_with (first
        | (refine wpList_load_row rfl 23 _ rfl (w.heap.size + 1) rfl 23 cs (0, 0) _ HW.out Tryz.underlying23 rfl HI.out ?_)
        | (refine wpList_store_whole rfl 23 _ _ rfl w.heap.size cs rfl rfl 23 _ HZ.out HI.out (by rw [HS.out]; kernel_rfl) H1.out ?_; intro w3 hW3 hG3; have HW3 := Lib.hid hW3; have HB3 := Lib.hid (be_grown HB.out hG3 HB.out.size (fun j hj => by injection hj with hj; omega)); clear hW3 hG3))
      rw [HG.out, ← HCS.out]
      exact oget_endG Tryz.results8 true _ w _ _ HS.out rfl rfl rfl HW3.out HB3.out
end Go.Proofs.YtdjhkaofhdcalaaGreatDoor

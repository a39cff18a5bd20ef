/-
  sha.schedule, walked: the 64 words of a block.
-/
import Derived.Test.YtdjhkaofhdcalaaGreatDoorShaA
import Derived.LoopTactic
import Derived.Deep.RegionHeld3
namespace Go.Proofs.YtdjhkaofhdcalaaGreatDoor
open Go.RowKit

/-- An array of 64 words as it is being filled: the words so far, noughts behind them. -/
def warr (ws : List ShaM.Wd) : Array Value := ((ws ++ List.replicate (64 - ws.length) 0).map U).toArray
theorem warr_size (ws : List ShaM.Wd) (h : ws.length ≤ 64) : (warr ws).size = 64 := by simp [warr]; omega
theorem warr_at (ws : List ShaM.Wd) (i : Nat) (h : i < ws.length) : (warr ws)[i]? = some (U (ws.getD i 0)) := by
  simp only [warr, List.map_append, List.getElem?_toArray]
  rw [List.getElem?_append_left (by simpa using h)]
  simp [List.getElem?_eq_getElem h]
theorem warr_zero (ws : List ShaM.Wd) (h : ws.length < 64) : (warr ws)[ws.length]? = some (U 0) := by
  simp only [warr, List.map_append, List.getElem?_toArray]
  rw [List.getElem?_append_right (by simp)]
  obtain ⟨m, hm⟩ : ∃ m, 64 - ws.length = m + 1 := ⟨64 - ws.length - 1, by omega⟩
  simp [hm]
theorem warr_put (ws : List ShaM.Wd) (x : ShaM.Wd) (h : ws.length < 64) : (warr ws).setIfInBounds ws.length (U x) = warr (ws ++ [x]) := by
  apply Array.ext'
  obtain ⟨m, hm⟩ : ∃ m, 64 - ws.length = m + 1 := ⟨64 - ws.length - 1, by omega⟩
  have hm' : 64 - (ws ++ [x]).length = m := by simp; omega
  simp only [warr, Array.toList_setIfInBounds, hm, hm', List.replicate_succ, List.map_append, List.map_cons, List.map_nil]
  rw [List.set_append_right _ _ (by simp)]
  simp
theorem warr_full (ws : List ShaM.Wd) (h : ws.length = 64) : warr ws = (ws.map U).toArray := by simp [warr, h]

theorem words_one (ws : List ShaM.Wd) : (ws.map U).toArray.all (·.oneCell') = true := by
  rw [Array.all_eq_true_iff_forall_mem]
  intro x hx
  simp at hx
  obtain ⟨y, _, rfl⟩ := hx
  rfl
set_option maxRecDepth 100000 in
set_option maxHeartbeats 4000000 in
theorem schedule_any (b off n cap : Nat) (l : List UInt8) (w : World) (hn : 64 ≤ n) (hc : n ≤ cap) (hcap : cap ≤ maxLen) (hcell : ∀ i, i < 64 → w.cell? ⟨b, off + i, none⟩ = some (Y (l.getD i 0))) :
    Calls Tryz.prog 95 #[.slice (some ⟨b, off, none⟩) n cap] w fun e w' => e = .returned (.agg ((ShaM.wds l).map U).toArray) ∧ Below w.heap.size w w' := by
  unfold maxLen at hcap
  have hbw : b < w.heap.size := World.block_lt_of_cell? w ⟨b, off + 0, none⟩ (hcell 0 (by decide))
  have HC := Lib.hid hcell
  clear hcell
  go_enter Tryz.func95, Tryz.ntmps95
  go_wp2
  go_loopw [5] (fun i wr => ∃ k : Nat, k ≤ 16 ∧ i = .int .i64 k ∧ Whole wr w.heap.size 127 (warr (ShaM.mws l k)) ∧ Below w.heap.size w wr) (fun i _ => 16 - (intOf i).toNat)
  case atStart => exact ⟨0, by omega, rfl, Whole.made _ _ _, (Below.refl _ _).alloc (Nat.le_refl _) _⟩
  case round =>
    obtain ⟨k, hk, rfl, hW, hB⟩ := hrel
    by_cases hlt : k < 16
    · have HW := Lib.hid hW
      have HB := Lib.hid hB
      clear hW hB
      have c0 : wr.cell? ⟨w.heap.size, k, none⟩ = some (.int .u32 0) := by
        have := (HW.out).at_ k
        have e := warr_zero (ShaM.mws l k) (by rw [ShaM.mws_len]; omega)
        rw [ShaM.mws_len] at e
        rw [this, e]; rfl
      have z0 := HW.out.thawed k
      have hbr : ∀ i, i < 64 → wr.cell? ⟨b, off + i, none⟩ = some (Y (l.getD i 0)) := fun i hi => (HB.out.cell (by exact hbw)).trans (HC.out i hi)
      have HR := Lib.hid hbr
      clear hbr
      go_wp2_with fail
      refine (word_any b (off + 4 * k) (n - 4 * k) (cap - 4 * k) (l.getD (4 * k) 0) (l.getD (4 * k + 1) 0) (l.getD (4 * k + 2) 0) (l.getD (4 * k + 3) 0) _ (by omega)
        (HR.out (4 * k) (by omega)) (HR.out (4 * k + 1) (by omega)) (HR.out (4 * k + 2) (by omega)) (HR.out (4 * k + 3) (by omega))).mono ?_
      rintro e w' ⟨rfl, q, rfl⟩
      go_wp2
      go_roundw
      case rel =>
        refine ⟨k + 1, by omega, by go_num, ?_, ?_⟩
        · have e := warr_put (ShaM.mws l k) (ShaM.mw l k) (by rw [ShaM.mws_len]; omega)
          rw [ShaM.mws_len] at e
          rw [ShaM.mws_succ, ← e]
          exact (HW.out.put _ _).drewN _
        · exact be_drewN (HB.out.setCell (Nat.le_refl _) _) _
      case measure => simp [intOf]; omega
    · have HK := Lib.hid (show k = 16 by omega)
      go_wp2
      go_loopw [4] (fun i wr => ∃ t : Nat, 16 ≤ t ∧ t ≤ 64 ∧ i = .int .i64 t ∧ Whole wr w.heap.size 127 (warr (ShaM.sched (ShaM.mws l 16) (t - 16))) ∧ Below w.heap.size w wr) (fun i _ => 64 - (intOf i).toNat)
      case atStart => exact ⟨16, by omega, by omega, rfl, by rw [HK.out] at hW; exact hW, hB⟩
      case round =>
        clear hW hB
        obtain ⟨t, ht, ht', rfl, hW, hB⟩ := hrel
        have HW := Lib.hid hW
        have HB := Lib.hid hB
        clear hW hB
        by_cases hlt : t < 64
        · have hlen : (ShaM.sched (ShaM.mws l 16) (t - 16)).length = t := by rw [ShaM.sched_len, ShaM.mws_len]; omega
          have rd : ∀ j, j < t → wr.cell? ⟨w.heap.size, j, none⟩ = some (.int .u32 (((ShaM.sched (ShaM.mws l 16) (t - 16)).getD j 0).toNat : Int)) := fun j hj => by
            rw [HW.out.at_ j, warr_at _ _ (by rw [hlen]; exact hj)]; rfl
          have c2 := rd (t - 2) (by omega)
          have c7 := rd (t - 7) (by omega)
          have c15 := rd (t - 15) (by omega)
          have c16 := rd (t - 16) (by omega)
          have c0 : wr.cell? ⟨w.heap.size, t, none⟩ = some (.int .u32 0) := by
            have e := warr_zero (ShaM.sched (ShaM.mws l 16) (t - 16)) (by rw [hlen]; exact hlt)
            rw [hlen] at e
            rw [HW.out.at_ t, e]; rfl
          have z0 := HW.out.thawed t
          have hnew : ShaM.sched (ShaM.mws l 16) (t + 1 - 16) = ShaM.sched (ShaM.mws l 16) (t - 16) ++ [ShaM.s1 ((ShaM.sched (ShaM.mws l 16) (t - 16)).getD (t - 2) 0) + (ShaM.sched (ShaM.mws l 16) (t - 16)).getD (t - 7) 0 + ShaM.s0 ((ShaM.sched (ShaM.mws l 16) (t - 16)).getD (t - 15) 0) + (ShaM.sched (ShaM.mws l 16) (t - 16)).getD (t - 16) 0] := by
            have e : t + 1 - 16 = (t - 16) + 1 := by omega
            rw [e, ShaM.sched, ShaM.ext, hlen]
          have HN := Lib.hid hnew
          have HL := Lib.hid hlen
          clear rd hnew hlen
          generalize (ShaM.sched (ShaM.mws l 16) (t - 16)).getD (t - 2) 0 = x2 at c2 HN
          generalize (ShaM.sched (ShaM.mws l 16) (t - 16)).getD (t - 7) 0 = x7 at c7 HN
          generalize (ShaM.sched (ShaM.mws l 16) (t - 16)).getD (t - 15) 0 = x15 at c15 HN
          generalize (ShaM.sched (ShaM.mws l 16) (t - 16)).getD (t - 16) 0 = x16 at c16 HN
          have w2 : IntKind.i64.wrap ((t : Int) - 2) = (t : Int) - 2 := IntWalk.i64_in _ (by omega)
          have p2 : (0 : Int) ≤ (t : Int) - 2 := by omega
          have q2 : (2 : Int) ≤ (t : Int) := by omega
          have r2 : (t : Int) - 2 < 64 := by omega
          have d2 : t - 2 < t := by omega
          have n2 : ((t : Int) - 2).toNat = t - 2 := by omega
          have w7 : IntKind.i64.wrap ((t : Int) - 7) = (t : Int) - 7 := IntWalk.i64_in _ (by omega)
          have p7 : (0 : Int) ≤ (t : Int) - 7 := by omega
          have q7 : (7 : Int) ≤ (t : Int) := by omega
          have r7 : (t : Int) - 7 < 64 := by omega
          have d7 : t - 7 < t := by omega
          have n7 : ((t : Int) - 7).toNat = t - 7 := by omega
          have w15 : IntKind.i64.wrap ((t : Int) - 15) = (t : Int) - 15 := IntWalk.i64_in _ (by omega)
          have p15 : (0 : Int) ≤ (t : Int) - 15 := by omega
          have q15 : (15 : Int) ≤ (t : Int) := by omega
          have r15 : (t : Int) - 15 < 64 := by omega
          have d15 : t - 15 < t := by omega
          have n15 : ((t : Int) - 15).toNat = t - 15 := by omega
          have w16 : IntKind.i64.wrap ((t : Int) - 16) = (t : Int) - 16 := IntWalk.i64_in _ (by omega)
          have p16 : (0 : Int) ≤ (t : Int) - 16 := by omega
          have q16 : (16 : Int) ≤ (t : Int) := by omega
          have r16 : (t : Int) - 16 < 64 := by omega
          have d16 : t - 16 < t := by omega
          have n16 : ((t : Int) - 16).toNat = t - 16 := by omega
          go_wp2_with fail
          go_region_held3 (fun w' => w'.cell? ⟨w.heap.size, t - 2, none⟩ = some (.int .u32 (x2.toNat : Int)) ∧ w'.cell? ⟨w.heap.size, t - 7, none⟩ = some (.int .u32 (x7.toNat : Int)) ∧ w'.cell? ⟨w.heap.size, t - 15, none⟩ = some (.int .u32 (x15.toNat : Int)) ∧ w'.cell? ⟨w.heap.size, t - 16, none⟩ = some (.int .u32 (x16.toNat : Int)))
            (first | exact ⟨c2, c7, c15, c16⟩ | exact ⟨(World.cell?_setCell_other wr ⟨w.heap.size, t, none⟩ ⟨w.heap.size, t - 2, none⟩ _ (far_at _ _ _ d2).symm).trans c2, (World.cell?_setCell_other wr ⟨w.heap.size, t, none⟩ ⟨w.heap.size, t - 7, none⟩ _ (far_at _ _ _ d7).symm).trans c7, (World.cell?_setCell_other wr ⟨w.heap.size, t, none⟩ ⟨w.heap.size, t - 15, none⟩ _ (far_at _ _ _ d15).symm).trans c15, (World.cell?_setCell_other wr ⟨w.heap.size, t, none⟩ ⟨w.heap.size, t - 16, none⟩ _ (far_at _ _ _ d16).symm).trans c16⟩)
            (first
              | (go_at_call 126; refine (small1_any x2 _).mono ?_; rintro e w' ⟨rfl, rfl⟩)
              | (go_at_call 127; refine (small0_any x15 _).mono ?_; rintro e w' ⟨rfl, rfl⟩))
          clear w2 p2 q2 r2 n2 d2 c2 w7 p7 q7 r7 n7 d7 c7 w15 p15 q15 r15 n15 d15 c15 w16 p16 q16 r16 n16 d16 c16 c0 z0
          go_wp2
          go_roundw
          case rel =>
            refine ⟨t + 1, by omega, by omega, by go_num, ?_, ?_⟩
            · have e := warr_put (ShaM.sched (ShaM.mws l 16) (t - 16)) (ShaM.s1 x2 + x7 + ShaM.s0 x15 + x16) (by rw [HL.out]; exact hlt)
              rw [HL.out] at e
              rw [HN.out, ← e, u_add_mod, u_add_mod, u_add_mod]
              exact HW.out.put _ _
            · exact (HB.out.setCell (Nat.le_refl _) _).drew
          case measure => simp [intOf]; omega
        · have hW2 : Whole wr w.heap.size 127 ((ShaM.wds l).map U).toArray := by
            have e : t = 64 := by omega
            have := HW.out
            rw [e, warr_full _ (by rw [ShaM.sched_len, ShaM.mws_len])] at this
            exact this
          have hsz : ((ShaM.wds l).map U).toArray.size = 64 := by simp [ShaM.wds_len]
          have h1 : ((ShaM.wds l).map U).toArray.all (·.oneCell') = true := words_one _
          clear HW
          have HB2 := Lib.hid HB.out
          generalize hcs : ((ShaM.wds l).map U).toArray = cs at hW2 hsz h1
          have HCS := Lib.hid hcs
          clear hcs
          have hi : (Tryz.prog.info? 127).map (·.size) = some cs.size := by rw [hsz]; kernel_rfl
          have H1 := Lib.hid h1
          have HS := Lib.hid hsz
          have HW2 := Lib.hid hW2
          have HI := Lib.hid hi
          clear h1 hsz hW2 hi
          go_wp2_with (first
            | (refine wpList_load_row rfl 127 _ rfl w.heap.size rfl 127 cs (0, 0) _ HW2.out Tryz.underlying127 rfl HI.out ?_)
            | (refine wpList_store_row rfl 127 _ _ rfl w.heap.size cs rfl rfl 127 cs HW2.out HI.out rfl H1.out ?_))
          refine bodyPost_ret (v := .agg cs) ?_ ?_ ⟨by rw [HCS.out], be_setRow HB2.out (Nat.le_refl _) _⟩
          · exact results_cell_row (p := 2) (ty := 127) rfl _ _ w.heap.size 127 cs (0, 0) _ (by simp [Act.put]) (setRow_heap wr w.heap.size cs cs 127 (0, 0) HW2.out) Tryz.underlying127 rfl HI.out
          · rfl
end Go.Proofs.YtdjhkaofhdcalaaGreatDoor

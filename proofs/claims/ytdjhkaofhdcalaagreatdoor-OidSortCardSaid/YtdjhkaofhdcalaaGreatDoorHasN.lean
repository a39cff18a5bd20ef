/-
  slices.Index, slices.Contains, oid.Has of names, walked; the reference's Has, Eq.
-/
import Derived.Test.YtdjhkaofhdcalaaGreatDoorMid
import Derived.Deep.LoopGhost
import Derived.Deep.Draws
namespace Go.Proofs.YtdjhkaofhdcalaaGreatDoor
open Go.RowKit

theorem infoX (x : Nm) : (Tryz.prog.info? 23).map (·.size) = some (encN x).length := by rw [encN_len]; exact infoN
theorem infoXs (x : Nm) : (Tryz.prog.info? 23).map (·.size) = some (encN x).toArray.size := by rw [encN_size]; exact infoN
theorem whole_range {w : World} {g : Nat} {t : TypeId} {cs : List Value} (h : Whole w g t cs.toArray) : w.rangeAt g 0 cs := fun j v hv => by
  rw [Nat.zero_add, h.at_, List.getElem?_toArray, hv]
theorem mem_at (x : Nm) (ids : List Nm) (h : ∀ i, i < ids.length → ids.getD i default ≠ x) : x ∉ ids := by
  intro hm
  obtain ⟨i, hi, he⟩ := List.mem_iff_getElem.1 hm
  refine h i hi ?_
  simp [List.getD, List.getElem?_eq_getElem hi, he]
theorem at_mem (ids : List Nm) (i : Nat) (h : i < ids.length) : ids.getD i default ∈ ids := by
  simp [List.getD, List.getElem?_eq_getElem h]
set_option maxRecDepth 100000 in
set_option maxHeartbeats 4000000 in
theorem index_nm (A : Option Addr) (c : Nat) (ids : List Nm) (x : Nm) (w : World) (hA : ArgN w A c ids) (hc : ids.length ≤ 1048576) :
    Calls Tryz.prog 79 #[.slice A ids.length c, .agg (encN x).toArray] w fun e w' => (∃ r : Int, e = .returned (.int .i64 r) ∧ (decide (r ≥ 0)) = decide (x ∈ ids)) ∧ Below w.heap.size w w' := by
  have HA := Lib.hid hA
  have hlc := hA.1
  have HW0 := Lib.hid (whole_range (Whole.made w 23 (encN x).toArray))
  have HXI := Lib.hid (infoX x)
  have HB0 := Lib.hid ((Below.refl w.heap.size w).alloc (Nat.le_refl _) (.cells (encN x).toArray 23))
  have HL := Lib.hid fun y W => eql_nm x y W
  have HA0 := Lib.hid (hA.later HB0.out)
  clear hA
  go_enter Tryz.func79, Tryz.ntmps79
  go_wp2
  generalize w.alloc (.cells (encN x).toArray 23) = w0 at *
  go_loopg [5, 8] ids.length (fun g _ s8 wr => ∃ k q : Nat, k ≤ ids.length ∧ ids.length - k ≤ g ∧ s8 = .int .i64 k ∧ Hid (wr = w0.drewN q) ∧ Hid (∀ i, i < k → ids.getD i default ≠ x))
  case atStart => exact ⟨0, 0, Nat.zero_le _, by omega, rfl, Lib.hid rfl, Lib.hid fun i hi => absurd hi (Nat.not_lt_zero _)⟩
  case round =>
    obtain ⟨k, q, hk, hg, rfl, hwr, hall⟩ := hrel
    by_cases hlt : k < ids.length
    · have hlt' : (k : Int) < (ids.length : Int) := by omega
      obtain ⟨b, o, rfl, hr⟩ := HA0.out.2.2.2 (by omega)
      have hrk := hr k hlt
      obtain ⟨y, hy⟩ : ∃ y, y = ids.getD k default := ⟨_, rfl⟩
      rw [← hy] at hrk
      have HLX : Hid (∀ W, (∃ n, W = wr.drewN n) → W.rangeAt w.heap.size 0 (encN x)) := by rintro W ⟨n, rfl⟩; rw [hwr.out]; exact HW0.out
      have HLY : Hid (∀ W, (∃ n, W = wr.drewN n) → W.rangeAt b (o + k * 32) (encN y)) := by rintro W ⟨n, rfl⟩; rw [hwr.out]; exact hrk
      have heq := HL.out y
      have HYI := Lib.hid (infoX y)
      have HY := Lib.hid hy
      clear hy hr hrk
      by_cases hd : x = y
      · have hdd : decide (x = y) = true := by simp [hd]
        rw [hdd] at heq
        clear hdd
        have HD := Lib.hid hd
        clear hd
        go_wp2_with fail
        refine wp_region_quiet_lit (by kernel_rfl) (by kernel_rfl) ?_
        repeat (first
          | go_big_quiet_step (fail)
          | (refine q_loadm _ _ rfl (by rfl) w.heap.size 0 (encN x) rfl _ Tryz.underlying23 rfl HXI.out HLX.out ?_; simp only [Act.put]; go_simp)
          | (refine q_loadm _ _ rfl (by rfl) b (o + k * 32) (encN y) rfl _ Tryz.underlying23 rfl HYI.out HLY.out ?_; simp only [Act.put]; go_simp))
        refine wpQuiet_nil ?_
        intro nq
        go_wp2
        go_ret
        refine ⟨⟨k, rfl, ?_⟩, ?_⟩
        · have : x ∈ ids := by rw [HD.out, HY.out]; exact at_mem ids k hlt
          simp [this]
        · rw [hwr.out]
          exact be_drewN (be_drewN HB0.out _) _
      · have hdd : decide (x = y) = false := by simp [hd]
        rw [hdd] at heq
        clear hdd
        have HD := Lib.hid hd
        clear hd
        go_wp2_with fail
        refine wp_region_quiet_lit (by kernel_rfl) (by kernel_rfl) ?_
        repeat (first
          | go_big_quiet_step (fail)
          | (refine q_loadm _ _ rfl (by rfl) w.heap.size 0 (encN x) rfl _ Tryz.underlying23 rfl HXI.out HLX.out ?_; simp only [Act.put]; go_simp)
          | (refine q_loadm _ _ rfl (by rfl) b (o + k * 32) (encN y) rfl _ Tryz.underlying23 rfl HYI.out HLY.out ?_; simp only [Act.put]; go_simp))
        refine wpQuiet_nil ?_
        intro nq
        go_wp2
        go_roundg (ids.length - (k + 1))
        case measure => omega
        case rel =>
          refine ⟨k + 1, q + nq, by omega, by omega, by go_num, Lib.hid ?_, Lib.hid ?_⟩
          · rw [hwr.out, World.drewN_drewN]
          · intro i hi
            by_cases e : i = k
            · subst e
              rw [← HY.out]
              exact fun e => HD.out e.symm
            · exact hall.out i (by omega)
    · have hk2 : k = ids.length := by omega
      subst hk2
      go_wp2
      go_ret
      refine ⟨⟨-1, rfl, ?_⟩, ?_⟩
      · simp [mem_at x ids hall.out]
      · rw [hwr.out]
        exact be_drewN HB0.out _
set_option maxRecDepth 100000 in
set_option maxHeartbeats 4000000 in
theorem contains_nm (A : Option Addr) (c : Nat) (ids : List Nm) (x : Nm) (w : World) (hA : ArgN w A c ids) (hc : ids.length ≤ 1048576) :
    Calls Tryz.prog 52 #[.slice A ids.length c, .agg (encN x).toArray] w fun e w' => e = .returned (.bool (decide (x ∈ ids))) ∧ Below w.heap.size w w' := by
  have HW0 := Lib.hid (Whole.made w 23 (encN x).toArray)
  have HXI := Lib.hid (infoXs x)
  have HB0 := Lib.hid ((Below.refl w.heap.size w).alloc (Nat.le_refl _) (.cells (encN x).toArray 23))
  have HI := Lib.hid (index_nm A c ids x _ (hA.later HB0.out) hc)
  clear hA
  generalize decide (x ∈ ids) = r at *
  go_enter Tryz.func52, Tryz.ntmps52
  go_wp2_with (first
    | (refine wpList_load_row rfl 23 _ rfl w.heap.size rfl 23 (encN x).toArray (0, 0) _ HW0.out Tryz.underlying23 rfl HXI.out ?_)
    | (go_at_call 79; refine HI.out.mono ?_; rintro e w' ⟨⟨r', rfl, hr⟩, hb⟩))
  go_ret
  exact ⟨rfl, HB0.out.trans (hb.mono (by simp))⟩
set_option maxRecDepth 100000 in
set_option maxHeartbeats 4000000 in
theorem has_nm (A : Option Addr) (c : Nat) (ids : List Nm) (x : Nm) (w : World) (hA : ArgN w A c ids) (hc : ids.length ≤ 1048576) :
    Calls Tryz.prog 18 #[.slice A ids.length c, .agg (encN x).toArray] w fun e w' => e = .returned (.bool (decide (x ∈ ids))) ∧ Below w.heap.size w w' := by
  have HW0 := Lib.hid (Whole.made w 23 (encN x).toArray)
  have HXI := Lib.hid (infoXs x)
  have HB0 := Lib.hid ((Below.refl w.heap.size w).alloc (Nat.le_refl _) (.cells (encN x).toArray 23))
  have HI := Lib.hid (contains_nm A c ids x _ (hA.later HB0.out) hc)
  clear hA
  generalize decide (x ∈ ids) = r at *
  go_enter Tryz.func18, Tryz.ntmps18
  go_wp2_with (first
    | (refine wpList_load_row rfl 23 _ rfl w.heap.size rfl 23 (encN x).toArray (0, 0) _ HW0.out Tryz.underlying23 rfl HXI.out ?_)
    | (go_at_call 52; refine HI.out.mono ?_; rintro e w' ⟨rfl, hb⟩))
  go_ret
  exact ⟨rfl, HB0.out.trans (hb.mono (by simp))⟩
end Go.Proofs.YtdjhkaofhdcalaaGreatDoor

/-
  commit.Eq, walked.
-/
import Derived.Test.YtfaijkgfhdhhbaaGreatDoorMgo
import Derived.Test.YtfaijkgfhdhhbaaGreatDoorMgd
import Derived.Lib.QuietBelow
namespace Go.Proofs.YtfaijkgfhdhhbaaGreatDoor
open Go.RowKit

theorem encC_tree (A : Option Addr) (c : Nat) (x : Cm) {w : World} {g : Nat} {t : TypeId} (h : Whole w g t (encC A c x).toArray) : w.rangeAt g 0 (encN x.tree) := by
  intro j v hv
  have hj := (List.getElem?_eq_some_iff.1 hv).1
  rw [Nat.zero_add, h.at_, List.getElem?_toArray, encC, List.getElem?_append_left hj]
  exact hv
set_option maxRecDepth 100000 in
set_option maxHeartbeats 8000000 in
theorem ceq_any (A : Option Addr) (c : Nat) (A2 : Option Addr) (c2 : Nat) (x y : Cm) (w : World) (hA : ArgN w A c x.parents) (hA2 : ArgN w A2 c2 y.parents) :
    Calls Tryz.prog 28 #[.agg (encC A c x).toArray, .agg (encC A2 c2 y).toArray] w fun e w' => e = .returned (.bool (eqC x y)) ∧ Below w.heap.size w w' := by
  have hB := ((Below.refl w.heap.size w).alloc (Nat.le_refl _) (.cells (encC A c x).toArray 28)).alloc (by simp) (.cells (encC A2 c2 y).toArray 28)
  have hW1 := Whole.past (Whole.made w 28 (encC A c x).toArray) (.cells (encC A2 c2 y).toArray 28)
  have hW2 := Whole.made (w.alloc (.cells (encC A c x).toArray 28)) 28 (encC A2 c2 y).toArray
  have hs0 : (w.alloc (.cells (encC A c x).toArray 28)).heap.size = w.heap.size + 1 := by simp
  rw [hs0] at hW2
  clear hs0
  have HA := Lib.hid (hA.later hB)
  have HA2 := Lib.hid (hA2.later hB)
  have HQ : Hid (eqC x y = (decide (x.tree = y.tree) && decide (x.parents = y.parents) && (bitsV x.time == bitsV y.time) && (x.note == y.note))) := rfl
  have e32 := encC_32 A c x
  have e33 := encC_33 A c x
  have e34 := encC_34 A c x
  have f32 := encC_32 A2 c2 y
  have f33 := encC_33 A2 c2 y
  have f34 := encC_34 A2 c2 y
  have HTX := Lib.hid (encC_tree A c x hW1)
  have HTY := Lib.hid (encC_tree A2 c2 y hW2)
  have heq := eql_nm x.tree y.tree
  have HBX := Lib.hid (fun W => bits_any x.time W)
  have HBY := Lib.hid (fun W => bits_any y.time W)
  have HXI := Lib.hid (infoX x.tree)
  have HYI := Lib.hid (infoX y.tree)
  clear hA hA2
  generalize (encC A c x).toArray = cs at *
  generalize (encC A2 c2 y).toArray = ds at *
  generalize hw0 : (w.alloc (.cells cs 28)).alloc (.cells ds 28) = w0 at *
  have c32 : w0.cell? ⟨w.heap.size, 32, none⟩ = some (.slice A x.parents.length c) := (hW1.at_ 32).trans e32
  have c33 : w0.cell? ⟨w.heap.size, 33, none⟩ = some (.float .f64 x.time) := (hW1.at_ 33).trans e33
  have c34 : w0.cell? ⟨w.heap.size, 34, none⟩ = some (.string ⟨x.note.toArray⟩) := (hW1.at_ 34).trans e34
  have d32 : w0.cell? ⟨w.heap.size + 1, 32, none⟩ = some (.slice A2 y.parents.length c2) := (hW2.at_ 32).trans f32
  have d33 : w0.cell? ⟨w.heap.size + 1, 33, none⟩ = some (.float .f64 y.time) := (hW2.at_ 33).trans f33
  have d34 : w0.cell? ⟨w.heap.size + 1, 34, none⟩ = some (.string ⟨y.note.toArray⟩) := (hW2.at_ 34).trans f34
  have HB := Lib.hid hB
  have HPE : Hid (∀ n, Calls Tryz.prog 64 #[.slice A x.parents.length c, .slice A2 y.parents.length c2] (w0.drewN n) fun e w' => e = .returned (.bool (decide (x.parents = y.parents))) ∧ ∃ q, w' = (w0.drewN n).drewN q) :=
    fun n => eqnm_any A c A2 c2 x.parents y.parents (w0.drewN n) (HA.out.later (be_drewN (Below.refl _ _) n)) (HA2.out.later (be_drewN (Below.refl _ _) n))
  have HLX : Hid (∀ W, (∃ n, W = w0.drewN n) → W.rangeAt w.heap.size 0 (encN x.tree)) := by rintro W ⟨n, rfl⟩; exact HTX.out
  have HLY : Hid (∀ W, (∃ n, W = w0.drewN n) → W.rangeAt (w.heap.size + 1) 0 (encN y.tree)) := by rintro W ⟨n, rfl⟩; exact HTY.out
  clear hB hW1 hW2 e32 e33 e34 f32 f33 f34 HA HA2 HTX HTY
  have hbits : ((bitsV x.time : Int) == (bitsV y.time : Int)) = (bitsV x.time == bitsV y.time) := by
    rw [Bool.eq_iff_iff]
    simp only [beq_iff_eq]
    omega
  generalize (bitsV x.time == bitsV y.time) = b3 at *
  generalize decide (x.parents = y.parents) = b2 at *
  generalize decide (x.tree = y.tree) = b1 at *
  generalize encN x.tree = tx at *
  generalize encN y.tree = ty at *
  generalize bitsV x.time = vx at *
  generalize bitsV y.time = vy at *
  generalize x.time = timx at *
  generalize y.time = timy at *
  generalize x.parents.length = px at *
  generalize y.parents.length = py at *
  generalize x.note = nx at *
  generalize y.note = ny at *
  cases b1
  · skip
    go_enter Tryz.func28, Tryz.ntmps28
    go_wp2_with fail
    refine wp_region_quiet_lit (by kernel_rfl) (by kernel_rfl) ?_
    repeat (first
      | go_big_quiet_step ((first
        | (go_at_call 64; exact q_draw (HPE.out _))
        | (go_at_call_of 65 (Value.float FloatKind.f64 timx); exact q_left (HBX.out _))
        | (go_at_call_of 65 (Value.float FloatKind.f64 timy); exact q_left (HBY.out _))))
      | (refine q_loadm _ _ rfl (by rfl) w.heap.size 0 tx rfl _ Tryz.underlying24 rfl HXI.out HLX.out ?_; simp only [Act.put]; go_simp)
      | (refine q_loadm _ _ rfl (by rfl) (w.heap.size + 1) 0 ty rfl _ Tryz.underlying24 rfl HYI.out HLY.out ?_; simp only [Act.put]; go_simp))
    refine wpQuiet_nil ?_
    intro n
    go_wp2
    go_ret
    exact ⟨by rw [HQ.out]; rfl, be_drewN HB.out n⟩
  · cases b2
    · skip
      go_enter Tryz.func28, Tryz.ntmps28
      go_wp2_with fail
      refine wp_region_quiet_lit (by kernel_rfl) (by kernel_rfl) ?_
      repeat (first
        | go_big_quiet_step ((first
          | (go_at_call 64; exact q_draw (HPE.out _))
          | (go_at_call_of 65 (Value.float FloatKind.f64 timx); exact q_left (HBX.out _))
          | (go_at_call_of 65 (Value.float FloatKind.f64 timy); exact q_left (HBY.out _))))
        | (refine q_loadm _ _ rfl (by rfl) w.heap.size 0 tx rfl _ Tryz.underlying24 rfl HXI.out HLX.out ?_; simp only [Act.put]; go_simp)
        | (refine q_loadm _ _ rfl (by rfl) (w.heap.size + 1) 0 ty rfl _ Tryz.underlying24 rfl HYI.out HLY.out ?_; simp only [Act.put]; go_simp))
      refine wpQuiet_nil ?_
      intro n
      go_wp2
      go_ret
      exact ⟨by rw [HQ.out]; rfl, be_drewN HB.out n⟩
    · cases b3
      · skip
        go_enter Tryz.func28, Tryz.ntmps28
        go_wp2_with fail
        refine wp_region_quiet_lit (by kernel_rfl) (by kernel_rfl) ?_
        repeat (first
          | go_big_quiet_step ((first
            | (go_at_call 64; exact q_draw (HPE.out _))
            | (go_at_call_of 65 (Value.float FloatKind.f64 timx); exact q_left (HBX.out _))
            | (go_at_call_of 65 (Value.float FloatKind.f64 timy); exact q_left (HBY.out _))))
          | (refine q_loadm _ _ rfl (by rfl) w.heap.size 0 tx rfl _ Tryz.underlying24 rfl HXI.out HLX.out ?_; simp only [Act.put]; go_simp)
          | (refine q_loadm _ _ rfl (by rfl) (w.heap.size + 1) 0 ty rfl _ Tryz.underlying24 rfl HYI.out HLY.out ?_; simp only [Act.put]; go_simp))
        refine wpQuiet_nil ?_
        intro n
        go_wp2
        go_ret
        exact ⟨by rw [HQ.out]; rfl, be_drewN HB.out n⟩
      · skip
        go_enter Tryz.func28, Tryz.ntmps28
        go_wp2_with fail
        refine wp_region_quiet_lit (by kernel_rfl) (by kernel_rfl) ?_
        repeat (first
          | go_big_quiet_step ((first
            | (go_at_call 64; exact q_draw (HPE.out _))
            | (go_at_call_of 65 (Value.float FloatKind.f64 timx); exact q_left (HBX.out _))
            | (go_at_call_of 65 (Value.float FloatKind.f64 timy); exact q_left (HBY.out _))))
          | (refine q_loadm _ _ rfl (by rfl) w.heap.size 0 tx rfl _ Tryz.underlying24 rfl HXI.out HLX.out ?_; simp only [Act.put]; go_simp)
          | (refine q_loadm _ _ rfl (by rfl) (w.heap.size + 1) 0 ty rfl _ Tryz.underlying24 rfl HYI.out HLY.out ?_; simp only [Act.put]; go_simp))
        refine wpQuiet_nil ?_
        intro n
        go_wp2
        go_ret
        exact ⟨by rw [HQ.out]; rfl, be_drewN HB.out n⟩
end Go.Proofs.YtfaijkgfhdhhbaaGreatDoor

/-
  The reference's Eq of any names, walked.
  The reference's EqCommit, walked.
  The reference's Commit, walked.
-/
import Derived.Test.YtfaijkgfhdhhbaaGreatDoorMgi
import Derived.Test.YtfaijkgfhdhhbaaGreatDoorMgo
import Derived.Test.YtfaijkgfhdhhbaaGreatDoorComE
import Derived.Test.YtfaijkgfhdhhbaaGreatDoorMhf
import Derived.Lib.QuietBelow
import Derived.Test.YtfaijkgfhdhhbaaGreatDoorMgv
namespace Go.Proofs.YtfaijkgfhdhhbaaGreatDoor
open Go.RowKit

set_option maxRecDepth 100000 in
set_option maxHeartbeats 4000000 in
theorem req2_nm (A : Option Addr) (c : Nat) (A2 : Option Addr) (c2 : Nat) (a b : List Nm) (w : World) (hA : ArgN w A c a) (hA2 : ArgN w A2 c2 b) (hl : a.length ≤ 1048576) :
    Calls Tryz.prog 17 #[.slice A a.length c, .slice A2 b.length c2] w fun e w' => e = .returned (.bool (decide (a = b))) ∧ ∃ q, w' = w.drewN q := by
  have HA := Lib.hid hA
  have HA2 := Lib.hid hA2
  have hlc := hA.1
  have hlc2 := hA2.1
  clear hA hA2
  by_cases hlen : a.length = b.length
  · have hne0 : ((a.length : Int) != (b.length : Int)) = false := by simp [hlen]
    have HAB : Hid (a.take a.length = b.take a.length → decide (a = b) = true) := by
      intro h
      rw [List.take_length, hlen, List.take_length] at h
      exact decide_eq_true h
    have HNE : Hid (∀ k, a.getD k default ≠ b.getD k default → decide (a = b) = false) := fun k h => decide_eq_false (fun e => h (by rw [e]))
    have hlb : b.length ≤ 1048576 := by omega
    have HAT := Lib.hid (eqnm_at a b)
    have HLEN := Lib.hid hlen
    rw [← hlen] at hlc2 hlb hne0 ⊢
    clear hlen
    generalize decide (a = b) = r at *
    go_enter Tryz.func17, Tryz.ntmps17
    go_wp2
    go_loopg [5] a.length (fun g s5 wr => ∃ k q : Nat, k ≤ a.length ∧ a.length - k ≤ g ∧ s5 = .int .i64 k ∧ Hid (wr = w.drewN q) ∧ Hid (a.take k = b.take k))
    case atStart => exact ⟨0, 0, Nat.zero_le _, by omega, rfl, Lib.hid rfl, Lib.hid rfl⟩
    case round =>
      obtain ⟨k, q, hk, hg, rfl, hwr, htk⟩ := hrel
      by_cases hlt : k < a.length
      · have hlt' : (k : Int) < (a.length : Int) := by omega
        have hlt2 : k < b.length := by have := HLEN.out; omega
        obtain ⟨bb, o, rfl, hr⟩ := HA.out.2.2.2 (by omega)
        obtain ⟨b2, o2, rfl, hr2⟩ := HA2.out.2.2.2 (by omega)
        have HLT2 := Lib.hid hlt2
        have hrk := hr k hlt
        have hrk2 := hr2 k hlt2
        have HIFF := Lib.hid (HAT.out k hlt hlt2 htk.out)
        have HNK := Lib.hid (HNE.out k)
        obtain ⟨y, hy⟩ : ∃ y, y = a.getD k default := ⟨_, rfl⟩
        obtain ⟨z, hz⟩ : ∃ z, z = b.getD k default := ⟨_, rfl⟩
        rw [← hy] at hrk
        rw [← hz] at hrk2
        rw [← hy, ← hz] at HIFF HNK
        have HLX : Hid (∀ W, (∃ n, W = wr.drewN n) → W.rangeAt bb (o + k * 32) (encN y)) := by rintro W ⟨n, rfl⟩; rw [hwr.out]; exact hrk
        have HLY : Hid (∀ W, (∃ n, W = wr.drewN n) → W.rangeAt b2 (o2 + k * 32) (encN z)) := by rintro W ⟨n, rfl⟩; rw [hwr.out]; exact hrk2
        have HYI := Lib.hid (infoX y)
        have HZI := Lib.hid (infoX z)
        have hneq := neq_nm y z
        clear hy hz hr hrk hr2 hrk2 HAT HNE hlt2
        cases he : decide (y = z) with
        | true =>
          rw [he] at hneq
          have hneq' : ∀ W, (binOp .neq 24 (.agg (encN y).toArray) (.agg (encN z).toArray)).run Tryz.prog W = .ok (.bool false) W := hneq
          have HE := Lib.hid (HIFF.out.1 (of_decide_eq_true he))
          clear hneq he
          go_wp2_with fail
          refine wp_region_quiet_lit (by kernel_rfl) (by kernel_rfl) ?_
          repeat (first
            | go_big_quiet_step (fail)
            | (refine q_loadm _ _ rfl (by rfl) bb (o + k * 32) (encN y) rfl _ Tryz.underlying24 rfl HYI.out HLX.out ?_; simp only [Act.put]; go_simp)
            | (refine q_loadm _ _ rfl (by rfl) b2 (o2 + k * 32) (encN z) rfl _ Tryz.underlying24 rfl HZI.out HLY.out ?_; simp only [Act.put]; go_simp))
          refine wpQuiet_nil ?_
          intro nq
          go_wp2
          go_roundg (a.length - (k + 1))
          case measure => omega
          case rel =>
            refine ⟨k + 1, q + nq, by omega, by omega, by go_num, Lib.hid ?_, HE⟩
            rw [hwr.out, World.drewN_drewN]
        | false =>
          rw [he] at hneq
          have hneq' : ∀ W, (binOp .neq 24 (.agg (encN y).toArray) (.agg (encN z).toArray)).run Tryz.prog W = .ok (.bool true) W := hneq
          have HF := Lib.hid (HNK.out (of_decide_eq_false he))
          clear hneq he
          go_wp2_with fail
          refine wp_region_quiet_lit (by kernel_rfl) (by kernel_rfl) ?_
          repeat (first
            | go_big_quiet_step (fail)
            | (refine q_loadm _ _ rfl (by rfl) bb (o + k * 32) (encN y) rfl _ Tryz.underlying24 rfl HYI.out HLX.out ?_; simp only [Act.put]; go_simp)
            | (refine q_loadm _ _ rfl (by rfl) b2 (o2 + k * 32) (encN z) rfl _ Tryz.underlying24 rfl HZI.out HLY.out ?_; simp only [Act.put]; go_simp))
          refine wpQuiet_nil ?_
          intro nq
          go_wp2
          go_ret
          exact ⟨by rw [HF.out]; rfl, q + nq, by rw [hwr.out, World.drewN_drewN]⟩
      · obtain rfl : k = a.length := by omega
        have HT := Lib.hid (HAB.out htk.out)
        go_wp2
        go_ret
        exact ⟨by rw [HT.out]; rfl, q, hwr.out⟩
  · have hne0 : ((a.length : Int) != (b.length : Int)) = true := by simp; omega
    have HF : Hid (decide (a = b) = false) := decide_eq_false (fun e => hlen (by rw [e]))
    generalize decide (a = b) = r at *
    clear hlen
    go_enter Tryz.func17, Tryz.ntmps17
    go_wp2
    go_ret
    exact ⟨by rw [HF.out]; rfl, 0, rfl⟩
end Go.Proofs.YtfaijkgfhdhhbaaGreatDoor
namespace Go.Proofs.YtfaijkgfhdhhbaaGreatDoor
open Go.RowKit

set_option maxRecDepth 100000 in
set_option maxHeartbeats 8000000 in
theorem reqc_any (A : Option Addr) (c : Nat) (A2 : Option Addr) (c2 : Nat) (x y : Cm) (w : World) (hA : ArgN w A c x.parents) (hA2 : ArgN w A2 c2 y.parents) (hlx : x.parents.length ≤ 1048576) :
    Calls Tryz.prog 31 #[.agg (encC A c x).toArray, .agg (encC A2 c2 y).toArray] w fun e w' => e = .returned (.bool (eqC x y)) ∧ Below w.heap.size w w' := by
  have hB := ((Below.refl w.heap.size w).alloc (Nat.le_refl _) (.cells (encC A c x).toArray 28)).alloc (by simp) (.cells (encC A2 c2 y).toArray 28)
  have hW1 := Whole.past (Whole.made w 28 (encC A c x).toArray) (.cells (encC A2 c2 y).toArray 28)
  have hW2 := Whole.made (w.alloc (.cells (encC A c x).toArray 28)) 28 (encC A2 c2 y).toArray
  have hs0 : (w.alloc (.cells (encC A c x).toArray 28)).heap.size = w.heap.size + 1 := by simp
  rw [hs0] at hW2
  clear hs0
  have HA := Lib.hid (hA.later hB)
  have HA2 := Lib.hid (hA2.later hB)
  have HQ : Hid (eqC x y = (decide (x.tree = y.tree) && decide (x.parents = y.parents) && (bitsV x.time == bitsV y.time) && (x.note == y.note))) := rfl
  have e32 := encC_32 A c x
  have e33 := encC_33 A c x
  have e34 := encC_34 A c x
  have f32 := encC_32 A2 c2 y
  have f33 := encC_33 A2 c2 y
  have f34 := encC_34 A2 c2 y
  have HTX := Lib.hid (encC_tree A c x hW1)
  have HTY := Lib.hid (encC_tree A2 c2 y hW2)
  have heq := eql_nm x.tree y.tree
  have HBX := Lib.hid (fun W => rbits_any x.time W)
  have HBY := Lib.hid (fun W => rbits_any y.time W)
  have HXI := Lib.hid (infoX x.tree)
  have HYI := Lib.hid (infoX y.tree)
  clear hA hA2
  generalize (encC A c x).toArray = cs at *
  generalize (encC A2 c2 y).toArray = ds at *
  generalize hw0 : (w.alloc (.cells cs 28)).alloc (.cells ds 28) = w0 at *
  have c32 : w0.cell? ⟨w.heap.size, 32, none⟩ = some (.slice A x.parents.length c) := (hW1.at_ 32).trans e32
  have c33 : w0.cell? ⟨w.heap.size, 33, none⟩ = some (.float .f64 x.time) := (hW1.at_ 33).trans e33
  have c34 : w0.cell? ⟨w.heap.size, 34, none⟩ = some (.string ⟨x.note.toArray⟩) := (hW1.at_ 34).trans e34
  have d32 : w0.cell? ⟨w.heap.size + 1, 32, none⟩ = some (.slice A2 y.parents.length c2) := (hW2.at_ 32).trans f32
  have d33 : w0.cell? ⟨w.heap.size + 1, 33, none⟩ = some (.float .f64 y.time) := (hW2.at_ 33).trans f33
  have d34 : w0.cell? ⟨w.heap.size + 1, 34, none⟩ = some (.string ⟨y.note.toArray⟩) := (hW2.at_ 34).trans f34
  have HB := Lib.hid hB
  have HPE : Hid (∀ n, Calls Tryz.prog 17 #[.slice A x.parents.length c, .slice A2 y.parents.length c2] (w0.drewN n) fun e w' => e = .returned (.bool (decide (x.parents = y.parents))) ∧ ∃ q, w' = (w0.drewN n).drewN q) :=
    fun n => req2_nm A c A2 c2 x.parents y.parents (w0.drewN n) (HA.out.later (be_drewN (Below.refl _ _) n)) (HA2.out.later (be_drewN (Below.refl _ _) n)) hlx
  have HLX : Hid (∀ W, (∃ n, W = w0.drewN n) → W.rangeAt w.heap.size 0 (encN x.tree)) := by rintro W ⟨n, rfl⟩; exact HTX.out
  have HLY : Hid (∀ W, (∃ n, W = w0.drewN n) → W.rangeAt (w.heap.size + 1) 0 (encN y.tree)) := by rintro W ⟨n, rfl⟩; exact HTY.out
  clear hlx hB hW1 hW2 e32 e33 e34 f32 f33 f34 HA HA2 HTX HTY
  have hbits : ((bitsV x.time : Int) == (bitsV y.time : Int)) = (bitsV x.time == bitsV y.time) := by
    rw [Bool.eq_iff_iff]
    simp only [beq_iff_eq]
    omega
  generalize (bitsV x.time == bitsV y.time) = b3 at *
  generalize decide (x.parents = y.parents) = b2 at *
  generalize decide (x.tree = y.tree) = b1 at *
  generalize encN x.tree = tx at *
  generalize encN y.tree = ty at *
  generalize bitsV x.time = vx at *
  generalize bitsV y.time = vy at *
  generalize x.time = timx at *
  generalize y.time = timy at *
  generalize x.parents.length = px at *
  generalize y.parents.length = py at *
  generalize x.note = nx at *
  generalize y.note = ny at *
  cases b1
  · skip
    go_enter Tryz.func31, Tryz.ntmps31
    go_wp2_with fail
    refine wp_region_quiet_lit (by kernel_rfl) (by kernel_rfl) ?_
    repeat (first
      | go_big_quiet_step ((first
        | (go_at_call 17; exact q_draw (HPE.out _))
        | (go_at_call_of 68 (Value.float FloatKind.f64 timx); exact q_left (HBX.out _))
        | (go_at_call_of 68 (Value.float FloatKind.f64 timy); exact q_left (HBY.out _))))
      | (refine q_loadm _ _ rfl (by rfl) w.heap.size 0 tx rfl _ Tryz.underlying24 rfl HXI.out HLX.out ?_; simp only [Act.put]; go_simp)
      | (refine q_loadm _ _ rfl (by rfl) (w.heap.size + 1) 0 ty rfl _ Tryz.underlying24 rfl HYI.out HLY.out ?_; simp only [Act.put]; go_simp))
    refine wpQuiet_nil ?_
    intro n
    go_wp2
    go_ret
    exact ⟨by rw [HQ.out]; rfl, be_drewN HB.out n⟩
  · cases b2
    · skip
      go_enter Tryz.func31, Tryz.ntmps31
      go_wp2_with fail
      refine wp_region_quiet_lit (by kernel_rfl) (by kernel_rfl) ?_
      repeat (first
        | go_big_quiet_step ((first
          | (go_at_call 17; exact q_draw (HPE.out _))
          | (go_at_call_of 68 (Value.float FloatKind.f64 timx); exact q_left (HBX.out _))
          | (go_at_call_of 68 (Value.float FloatKind.f64 timy); exact q_left (HBY.out _))))
        | (refine q_loadm _ _ rfl (by rfl) w.heap.size 0 tx rfl _ Tryz.underlying24 rfl HXI.out HLX.out ?_; simp only [Act.put]; go_simp)
        | (refine q_loadm _ _ rfl (by rfl) (w.heap.size + 1) 0 ty rfl _ Tryz.underlying24 rfl HYI.out HLY.out ?_; simp only [Act.put]; go_simp))
      refine wpQuiet_nil ?_
      intro n
      go_wp2
      go_ret
      exact ⟨by rw [HQ.out]; rfl, be_drewN HB.out n⟩
    · cases b3
      · skip
        go_enter Tryz.func31, Tryz.ntmps31
        go_wp2_with fail
        refine wp_region_quiet_lit (by kernel_rfl) (by kernel_rfl) ?_
        repeat (first
          | go_big_quiet_step ((first
            | (go_at_call 17; exact q_draw (HPE.out _))
            | (go_at_call_of 68 (Value.float FloatKind.f64 timx); exact q_left (HBX.out _))
            | (go_at_call_of 68 (Value.float FloatKind.f64 timy); exact q_left (HBY.out _))))
          | (refine q_loadm _ _ rfl (by rfl) w.heap.size 0 tx rfl _ Tryz.underlying24 rfl HXI.out HLX.out ?_; simp only [Act.put]; go_simp)
          | (refine q_loadm _ _ rfl (by rfl) (w.heap.size + 1) 0 ty rfl _ Tryz.underlying24 rfl HYI.out HLY.out ?_; simp only [Act.put]; go_simp))
        refine wpQuiet_nil ?_
        intro n
        go_wp2
        go_ret
        exact ⟨by rw [HQ.out]; rfl, be_drewN HB.out n⟩
      · skip
        go_enter Tryz.func31, Tryz.ntmps31
        go_wp2_with fail
        refine wp_region_quiet_lit (by kernel_rfl) (by kernel_rfl) ?_
        repeat (first
          | go_big_quiet_step ((first
            | (go_at_call 17; exact q_draw (HPE.out _))
            | (go_at_call_of 68 (Value.float FloatKind.f64 timx); exact q_left (HBX.out _))
            | (go_at_call_of 68 (Value.float FloatKind.f64 timy); exact q_left (HBY.out _))))
          | (refine q_loadm _ _ rfl (by rfl) w.heap.size 0 tx rfl _ Tryz.underlying24 rfl HXI.out HLX.out ?_; simp only [Act.put]; go_simp)
          | (refine q_loadm _ _ rfl (by rfl) (w.heap.size + 1) 0 ty rfl _ Tryz.underlying24 rfl HYI.out HLY.out ?_; simp only [Act.put]; go_simp))
        refine wpQuiet_nil ?_
        intro n
        go_wp2
        go_ret
        exact ⟨by rw [HQ.out]; rfl, be_drewN HB.out n⟩
end Go.Proofs.YtfaijkgfhdhhbaaGreatDoor
namespace Go.Proofs.YtfaijkgfhdhhbaaGreatDoor
open Go.RowKit

theorem bap (a b : List UInt8) : (ByteArray.mk a.toArray) ++ (ByteArray.mk b.toArray) = ByteArray.mk (a ++ b).toArray := ba_append a b
set_option maxRecDepth 100000 in
set_option maxHeartbeats 4000000 in
theorem rcommit_any (A : Option Addr) (c : Nat) (x : Cm) (w : World) (hA : ArgN w A c x.parents) (ht : x.time < 18446744073709551616) (hm : mayC x = true) :
    Calls Tryz.prog 41 #[.agg (encC A c x).toArray] w fun e w' => e = .returned (.string ⟨(bytesC x).toArray⟩) ∧ Below w.heap.size w w' := by
  have HW := Lib.hid (Whole.made w 28 (encC A c x).toArray)
  have HB := Lib.hid ((Below.refl w.heap.size w).alloc (Nat.le_refl _) (.cells (encC A c x).toArray 28))
  have HA := Lib.hid (hA.later HB.out)
  have hlc := hA.1
  simp only [mayC, mayP, Bool.and_eq_true, decide_eq_true_eq] at hm
  obtain ⟨⟨⟨hp4, -⟩, hmt⟩, hnt⟩ := hm
  have hpv : putV x.time = hexs 16 (bitsV x.time) := by unfold putV; rw [if_pos hmt]
  have hput := fun W => rput_any x.time W ht
  rw [hpv] at hput
  have HPUT := Lib.hid hput
  have hxl := hexs_len 16 (bitsV x.time)
  have HBC : Hid (bytesC x = [116, 114, 101, 101, 32] ++ hexOf x.tree.l ++ [10] ++ x.parents.flatMap lineP ++ [119, 104, 101, 110, 32] ++ hexs 16 (bitsV x.time) ++ [10] ++ [10] ++ x.note) := rfl
  have HTR := Lib.hid (tree_range HW.out)
  have HXT := Lib.hid (infoX x.tree)
  have HE := Lib.hid (And.intro (encC_32 A c x) (And.intro (encC_33 A c x) (encC_34 A c x)))
  have HHX := Lib.hid (rhex_any x.tree)
  have hhl : (hexOf x.tree.l).length = 64 := by rw [hexOf_len, x.tree.h]
  clear hA ht hmt hpv hput
  generalize hexs 16 (bitsV x.time) = hx at *
  generalize hexOf x.tree.l = tx at *
  generalize x.tree = tr at *
  generalize x.parents = ps at *
  generalize x.note = nt at *
  generalize x.time = tm at *
  generalize bytesC x = bc at *
  generalize (encC A c x).toArray = cs at *
  go_enter Tryz.func41, Tryz.ntmps41
  go_wp2_with (refine wpList_load_mid rfl 24 _ rfl w.heap.size 0 rfl (encN tr) _ HTR.out Tryz.underlying24 rfl HXT.out ?_)
  generalize w.alloc (.cells cs 28) = w0 at *
  refine (HHX.out _).mono ?_
  rintro e w1 ⟨rfl, hb⟩
  have HB1 := Lib.hid (HB.out.trans (hb.mono HB.out.size))
  have HW1 := Lib.hid (HW.out.below hb HW.out.lt)
  have HA1 := Lib.hid (HA.out.later hb)
  clear hb
  obtain ⟨hd, hhd⟩ : ∃ hd, hd = [116, 114, 101, 101, 32] ++ tx ++ [10] := ⟨_, rfl⟩
  have HS1 : Hid ((ByteArray.mk #[116, 114, 101, 101, 32]) ++ (ByteArray.mk tx.toArray) ++ (ByteArray.mk #[10]) = ByteArray.mk hd.toArray) := by
    show _ = _
    rw [hhd, ← bap, ← bap]
  have hdl : hd.length = 70 := by rw [hhd]; simp; omega
  have HHD := Lib.hid hhd
  have HRX := Lib.hid fun y W => rhex_any y W
  clear hhd HHX HXT
  go_wp2
  go_loopg [3, 4] ps.length (fun g s3 s4 wr => ∃ k : Nat, k ≤ ps.length ∧ ps.length - k ≤ g ∧ s3 = .string ⟨(hd ++ (ps.take k).flatMap lineP).toArray⟩ ∧ s4 = .int .i64 k ∧ Hid (Below w.heap.size w wr) ∧ Hid (Whole wr w.heap.size 28 cs) ∧ Hid (ArgN wr A c ps))
  case atStart => exact ⟨0, Nat.zero_le _, by omega, by rw [HS1.out, List.take_zero, List.flatMap_nil, List.append_nil], rfl, HB1, HW1, HA1⟩
  case round =>
    obtain ⟨k, hk, hg, rfl, rfl, hwr, hwh, har⟩ := hrel
    have c32 : wr.cell? ⟨w.heap.size, 32, none⟩ = some (.slice A ps.length c) := (hwh.out.at_ 32).trans HE.out.1
    by_cases hlt : k < ps.length
    · have hlt' : (k : Int) < (ps.length : Int) := by omega
      obtain ⟨bb, o, rfl, hr⟩ := har.out.2.2.2 (by omega)
      have hrk := hr k hlt
      obtain ⟨y, hy⟩ : ∃ y, y = ps.getD k default := ⟨_, rfl⟩
      rw [← hy] at hrk
      have HRK := Lib.hid hrk
      have HLT := Lib.hid (linesP_take ps k hlt)
      rw [← hy] at HLT
      have hpl : ((ps.take k).flatMap lineP).length ≤ 288 := by rw [linesP_len, List.length_take]; omega
      have HXI := Lib.hid (infoX y)
      have hhy : (hexOf y.l).length = 64 := by rw [hexOf_len, y.h]
      have HRY := Lib.hid (HRX.out y)
      have HS2 : Hid ((ByteArray.mk (hd ++ (ps.take k).flatMap lineP).toArray) ++ ((ByteArray.mk #[112, 97, 114, 101, 110, 116, 32]) ++ (ByteArray.mk (hexOf y.l).toArray) ++ (ByteArray.mk #[10])) = ByteArray.mk (hd ++ (ps.take (k + 1)).flatMap lineP).toArray) := by
        show _ = _
        rw [HLT.out, show (ByteArray.mk #[112, 97, 114, 101, 110, 116, 32]) = ByteArray.mk [112, 97, 114, 101, 110, 116, 32].toArray from rfl, show (ByteArray.mk #[10]) = ByteArray.mk [10].toArray from rfl, bap, bap, bap]
        simp [lineP]
      clear hr hrk hy HLT
      have hpl2 : (hd ++ (ps.take k).flatMap lineP).length ≤ 400 := by rw [List.length_append]; omega
      generalize hd ++ (ps.take k).flatMap lineP = pre at *
      generalize hexOf y.l = hy at *
      go_wp2_with (refine wpList_load_mid rfl 24 _ rfl bb (o + k * 32) rfl (encN y) _ HRK.out Tryz.underlying24 rfl HXI.out ?_)
      refine (HRY.out _).mono ?_
      rintro e w2 ⟨rfl, hb⟩
      have HB2 := Lib.hid (hwr.out.trans (hb.mono hwr.out.size))
      have HW2 := Lib.hid (hwh.out.below hb hwh.out.lt)
      have HA2 := Lib.hid (har.out.later hb)
      clear hb
      go_wp2
      go_roundg (ps.length - (k + 1))
      case measure => omega
      case rel => exact ⟨k + 1, by omega, Nat.le_refl _, by rw [HS2.out], by go_num, HB2, HW2, HA2⟩
    · obtain rfl : k = ps.length := by omega
      rw [List.take_length]
      have hpl : (ps.flatMap lineP).length ≤ 288 := by rw [linesP_len]; omega
      have c33 : ∀ (p : Nat) (os : Array Obj), (Sort.grow (redrawn wr p) os).cell? ⟨w.heap.size, 33, none⟩ = some (.float .f64 tm) := fun p os => ((hwh.out.below (below_regrown wr p os) hwh.out.lt).at_ 33).trans HE.out.2.1
      have c34 : ∀ (p : Nat) (os : Array Obj), (Sort.grow (redrawn wr p) os).cell? ⟨w.heap.size, 34, none⟩ = some (.string ⟨nt.toArray⟩) := fun p os => ((hwh.out.below (below_regrown wr p os) hwh.out.lt).at_ 34).trans HE.out.2.2
      have HS3 : Hid ((ByteArray.mk (hd ++ ps.flatMap lineP).toArray) ++ (ByteArray.mk #[119, 104, 101, 110, 32]) ++ (ByteArray.mk hx.toArray) ++ (ByteArray.mk #[10, 10]) ++ (ByteArray.mk nt.toArray) = ByteArray.mk bc.toArray) := by
        show _ = _
        rw [HBC.out, HHD.out, show (ByteArray.mk #[119, 104, 101, 110, 32]) = ByteArray.mk [119, 104, 101, 110, 32].toArray from rfl, show (ByteArray.mk #[10, 10]) = ByteArray.mk [10, 10].toArray from rfl, bap, bap, bap, bap]
        simp
      have hpl2 : (hd ++ ps.flatMap lineP).length ≤ 400 := by rw [List.length_append]; omega
      generalize hd ++ ps.flatMap lineP = pre at *
      go_wp2_with fail
      refine wp_region_quiet_below (by kernel_rfl) (by kernel_rfl) ?_
      repeat (first
        | go_big_quiet_step ((go_at_call 79; exact Calls.regrown_of (HPUT.out _))))
      refine wpQuiet_nil ?_
      rintro _ ⟨p, rfl⟩
      have HBG := Lib.hid (hwr.out.trans ((below_regrown wr p.d p.os).mono hwr.out.size))
      generalize Sort.grow (redrawn wr p.d) p.os = wf at *
      rw [HS3.out]
      go_wp2
      go_ret
      exact ⟨rfl, HBG.out⟩
end Go.Proofs.YtfaijkgfhdhhbaaGreatDoor

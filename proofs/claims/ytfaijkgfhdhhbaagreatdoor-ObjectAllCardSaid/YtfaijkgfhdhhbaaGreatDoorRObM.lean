/-
  The reference's May of objects, walked.
-/
import Derived.Test.YtfaijkgfhdhhbaaGreatDoorMhl
import Derived.Test.YtfaijkgfhdhhbaaGreatDoorMhh
import Derived.Test.YtfaijkgfhdhhbaaGreatDoorMhm
import Derived.Test.YtfaijkgfhdhhbaaGreatDoorMgj
namespace Go.Proofs.YtfaijkgfhdhhbaaGreatDoor
open Go.RowKit

set_option maxRecDepth 100000 in
set_option maxHeartbeats 4000000 in
theorem rmayO_any (A : Option Addr) (c : Nat) (A2 : Option Addr) (c2 : Nat) (x : Ob) (w : World) (hA : ArgO w A c A2 c2 x) (ht : x.commit.time < 18446744073709551616) (hl : x.entries.length ≤ 1048576) (hnl : ∀ e ∈ x.entries, e.name.length ≤ 9223372036854775807) (hpl : x.commit.parents.length ≤ 1048576) :
    Calls Tryz.prog 8 #[.agg (encO A c A2 c2 x).toArray] w fun e w' => e = .returned (.bool (mayO' x)) ∧ Below w.heap.size w w' := by
  obtain ⟨hW, hB, hA0⟩ := obox A c A2 c2 x w hA
  have HW := Lib.hid hW
  have HB := Lib.hid hB
  have HA := Lib.hid hA0
  have hs0 : (w.alloc (.cells (encO A c A2 c2 x).toArray 30)).heap.size = w.heap.size + 1 := by simp
  have HXI := Lib.hid (infoC_l A2 c2 x.commit)
  have HRC := Lib.hid (encO_commit A c A2 c2 x hW)
  have HTM := Lib.hid ht
  have HNL := Lib.hid hnl
  have M1 := Lib.hid (mayO_1 x)
  have M2 := Lib.hid (mayO_2 x)
  have M3 := Lib.hid (mayO_3 x)
  have M4 := Lib.hid (mayO_4 x)
  have E0 := Lib.hid fun W (h : Whole W w.heap.size 30 (encO A c A2 c2 x).toArray) => (h.at_ 0).trans (encO_0 A c A2 c2 x)
  have E1 := Lib.hid fun W (h : Whole W w.heap.size 30 (encO A c A2 c2 x).toArray) => (h.at_ 1).trans (encO_1 A c A2 c2 x)
  have E2 := Lib.hid fun W (h : Whole W w.heap.size 30 (encO A c A2 c2 x).toArray) => (h.at_ 2).trans (encO_2 A c A2 c2 x)
  clear hW hB hA0 hA ht hnl
  go_enter Tryz.func8, Tryz.ntmps8
  go_wp2_with (refine wpList_load_mid rfl 28 _ rfl w.heap.size 3 rfl (encC A2 c2 x.commit) _ HRC.out Tryz.underlying28 rfl HXI.out ?_)
  rw [show (#[Value.int IntKind.u8 0, Value.int IntKind.u8 0, Value.int IntKind.u8 0, Value.int IntKind.u8 0, Value.int IntKind.u8 0, Value.int IntKind.u8 0, Value.int IntKind.u8 0, Value.int IntKind.u8 0, Value.int IntKind.u8 0, Value.int IntKind.u8 0, Value.int IntKind.u8 0, Value.int IntKind.u8 0, Value.int IntKind.u8 0, Value.int IntKind.u8 0, Value.int IntKind.u8 0, Value.int IntKind.u8 0, Value.int IntKind.u8 0, Value.int IntKind.u8 0, Value.int IntKind.u8 0, Value.int IntKind.u8 0, Value.int IntKind.u8 0, Value.int IntKind.u8 0, Value.int IntKind.u8 0, Value.int IntKind.u8 0, Value.int IntKind.u8 0, Value.int IntKind.u8 0, Value.int IntKind.u8 0, Value.int IntKind.u8 0, Value.int IntKind.u8 0, Value.int IntKind.u8 0, Value.int IntKind.u8 0, Value.int IntKind.u8 0, Value.slice none 0 0, Value.float FloatKind.f64 0, Value.string ⟨#[]⟩] : Array Value) = (encC none 0 noC).toArray by kernel_rfl]
  generalize w.alloc (.cells (encO A c A2 c2 x).toArray 30) = w0 at *
  refine (reqc_any A2 c2 none 0 x.commit noC w0 HA.out.2 ⟨Nat.le_refl _, Nat.zero_le _, fun _ => rfl, fun h => absurd h (Nat.lt_irrefl _)⟩ hpl).mono ?_
  rintro e w1 ⟨rfl, hb⟩
  have HB1 := Lib.hid (HB.out.trans (hb.mono HB.out.size))
  have HW1 := Lib.hid (HW.out.below hb HW.out.lt)
  have HA1 := Lib.hid (HA.out.later hb)
  have e0 := E0.out w1 HW1.out
  have e1 := E1.out w1 HW1.out
  have e2 := E2.out w1 HW1.out
  have HRC1 := Lib.hid (encO_commit A c A2 c2 x HW1.out)
  clear hb hs0 HRC HB HW HA E0 E1 E2
  obtain ⟨qn, hqn⟩ : ∃ qn, qn = eqC x.commit noC := ⟨_, rfl⟩
  rw [← hqn] at M1 M2
  rw [← hqn]
  clear hqn
  obtain ⟨q2, hq2⟩ : ∃ q2, ((x.entries.length : Int) == 0) = q2 := ⟨_, rfl⟩
  obtain ⟨qb, hqb⟩ : ∃ qb, (x.blob == []) = qb := ⟨_, rfl⟩
  obtain ⟨q1, hq1⟩ : ∃ q1, decide ((x.blob.length : Int) ≤ 1000) = q1 := ⟨_, rfl⟩
  rw [hq1, hq2] at M1
  rw [hqb] at M2 M3
  rw [hq2] at M3
  by_cases k1 : x.kind = 1
  · have b1 : (x.kind == 1) = true := by simpa using k1
    have HM := Lib.hid (M1.out k1)
    clear k1 hqb M1 M2 M3 M4
    cases q1 <;> cases q2 <;> cases qn
    all_goals
      go_wp2
      go_ret
      exact ⟨by rw [HM.out]; rfl, HB1.out⟩
  by_cases k2 : x.kind = 2
  · have b1 : (x.kind == 1) = false := by simp [k2]
    have b2 : (x.kind == 2) = true := by simpa using k2
    have HM := Lib.hid (M2.out k2)
    have HMT := Lib.hid (rtmay_any A c x.entries w1 HA1.out.1 hl HNL.out)
    clear k1 k2 hq1 hq2 M1 M2 M3 M4
    cases qb
    case false =>
      go_wp2
      go_ret
      exact ⟨by rw [HM.out]; rfl, HB1.out⟩
    case true =>
      obtain ⟨mt, hmt⟩ : ∃ mt, mt = mayT x.entries := ⟨_, rfl⟩
      rw [← hmt] at HMT HM
      clear hmt
      go_wp2_with fail
      refine HMT.out.mono ?_
      rintro e w2 ⟨rfl, hb⟩
      have HB2 := Lib.hid (HB1.out.trans (hb.mono HB1.out.size))
      clear hb
      cases mt <;> cases qn
      all_goals
        go_wp2
        go_ret
        exact ⟨by rw [HM.out]; rfl, HB2.out⟩
  by_cases k3 : x.kind = 3
  · have b1 : (x.kind == 1) = false := by simp [k3]
    have b2 : (x.kind == 2) = false := by simp [k3]
    have b3 : (x.kind == 3) = true := by simpa using k3
    have HM := Lib.hid (M3.out k3)
    have HMC := Lib.hid (rcmay_any A2 c2 x.commit w1 HA1.out.2 HTM.out hpl)
    clear k1 k2 k3 hq1 M1 M2 M3 M4
    cases qb
    case false =>
      go_wp2
      go_ret
      exact ⟨by rw [HM.out]; rfl, HB1.out⟩
    case true =>
      cases q2
      case false =>
        go_wp2
        go_ret
        exact ⟨by rw [HM.out]; rfl, HB1.out⟩
      case true =>
        obtain ⟨mc, hmc⟩ : ∃ mc, mc = mayC x.commit := ⟨_, rfl⟩
        rw [← hmc] at HMC HM
        clear hmc
        go_wp2_with (first
          | (refine wpList_load_mid_on 28 _ rfl w.heap.size 3 rfl (by rfl) (encC A2 c2 x.commit) _ HRC1.out Tryz.underlying28 rfl HXI.out ?_))
        refine HMC.out.mono ?_
        rintro e w2 ⟨rfl, hb⟩
        have HB2 := Lib.hid (HB1.out.trans (hb.mono HB1.out.size))
        clear hb
        go_wp2
        go_ret
        exact ⟨by rw [HM.out]; rfl, HB2.out⟩
  have b1 : (x.kind == 1) = false := by simpa using k1
  have b2 : (x.kind == 2) = false := by simpa using k2
  have b3 : (x.kind == 3) = false := by simpa using k3
  have HM := Lib.hid (M4.out k1 k2 k3)
  clear k1 k2 k3 M1 M2 M3 M4 hq1 hq2 hqb
  go_wp2
  go_ret
  exact ⟨by rw [HM.out]; rfl, HB1.out⟩
end Go.Proofs.YtfaijkgfhdhhbaaGreatDoor

/-
  object.Put, walked.
-/
import Derived.Test.YtfaijkgfhdhhbaaGreatDoorMgp
import Derived.Test.YtfaijkgfhdhhbaaGreatDoorMgq
import Derived.Test.YtfaijkgfhdhhbaaGreatDoorMgk
import Derived.Test.YtfaijkgfhdhhbaaGreatDoorMgo
namespace Go.Proofs.YtfaijkgfhdhhbaaGreatDoor
open Go.RowKit

set_option maxRecDepth 100000 in
set_option maxHeartbeats 8000000 in
theorem oput_any (A : Option Addr) (c : Nat) (A2 : Option Addr) (c2 : Nat) (x : Ob) (w : World) (hA : ArgO w A c A2 c2 x) (ht : x.commit.time < 18446744073709551616) (hl : x.entries.length ≤ 1048576) :
    Calls Tryz.prog 9 #[.agg (encO A c A2 c2 x).toArray] w fun e w' => e = .returned (.tuple #[.string ⟨(if mayO' x then bytesO x else []).toArray⟩, .bool (mayO' x)]) ∧ Below w.heap.size w w' := by
  obtain ⟨hW, hB, hA0⟩ := obox A c A2 c2 x w hA
  have HB := Lib.hid hB
  have HXS := Lib.hid (infoO_s A c A2 c2 x)
  have HOM := Lib.hid (omay_any A c A2 c2 x _ hA0 ht hl)
  have HW := Lib.hid hW
  cases hm : mayO' x with
  | false =>
    rw [hm] at HOM
    clear hm hW hB hA0 hA ht hl
    generalize (encO A c A2 c2 x).toArray = cs at *
    go_enter Tryz.func9, Tryz.ntmps9
    go_wp2_with (refine wpList_load_row rfl 30 _ rfl w.heap.size rfl 30 cs (0, 0) _ HW.out Tryz.underlying30 rfl HXS.out ?_)
    refine HOM.out.mono ?_
    rintro e w1 ⟨rfl, hb⟩
    have HB1 := Lib.hid (HB.out.trans (hb.mono HB.out.size))
    clear hb
    go_wp2
    go_ret2
    exact ⟨rfl, HB1.out⟩
  | true =>
    rw [hm] at HOM
    have hm1 : bodyO x = true := by
      unfold mayO' at hm
      simp only [Bool.and_eq_true] at hm
      exact hm.1
    have HA0 := Lib.hid hA0
    have HT := Lib.hid ht
    have HL := Lib.hid hl
    clear hm hB hA0 hA ht hl
    have HQ : Hid (bytesO x = if x.kind = 2 then encT x.entries else if x.kind = 3 then bytesC x.commit else x.blob) := rfl
    have HM : Hid (bodyO x = true) := hm1
    unfold bodyO at hm1
    have HTX := Lib.hid (encO_commit A c A2 c2 x hW)
    have HXI := Lib.hid (infoC_l A2 c2 x.commit)
    have E0 := Lib.hid (encO_0 A c A2 c2 x)
    have E1 := Lib.hid (encO_1 A c A2 c2 x)
    have E2 := Lib.hid (encO_2 A c A2 c2 x)
    clear hW
    generalize (encO A c A2 c2 x).toArray = cs at *
    go_enter Tryz.func9, Tryz.ntmps9
    go_wp2_with (refine wpList_load_row rfl 30 _ rfl w.heap.size rfl 30 cs (0, 0) _ HW.out Tryz.underlying30 rfl HXS.out ?_)
    generalize w.alloc (.cells cs 30) = w0 at *
    refine HOM.out.mono ?_
    rintro e w1 ⟨rfl, hb⟩
    have HB1 := Lib.hid (HB.out.trans (hb.mono HB.out.size))
    have hW1 := HW.out.below hb HW.out.lt
    have e0 := (hW1.at_ 0).trans E0.out
    have e1 := (hW1.at_ 1).trans E1.out
    have e2 := (hW1.at_ 2).trans E2.out
    have HA1 := Lib.hid (HA0.out.later hb)
    have HTX1 : Hid (w1.rangeAt w.heap.size 3 (encC A2 c2 x.commit)) := fun j v hv => (hb.cell (p := ⟨w.heap.size, 3 + j, none⟩) HW.out.lt).trans (HTX.out j v hv)
    clear hb hW1
    by_cases h2 : x.kind = 2
    · have hm2 : mayT x.entries = true := by
        rw [if_neg (by rw [h2]; decide), if_pos h2] at hm1
        exact hm1
      have HTP := Lib.hid (tput_any A c x.entries w1 HA1.out.1 HL.out)
      rw [hm2, if_pos rfl] at HTP
      have HQ2 : Hid (bytesO x = encT x.entries) := by show _ = _; rw [HQ.out, if_pos h2]
      rw [h2] at e0
      clear hm1 hm2 h2
      generalize encT x.entries = bt at *
      generalize x.entries.length = px at *
      go_wp2_with fail
      refine HTP.out.mono ?_
      rintro e w2 ⟨rfl, hb⟩
      have HB2 := Lib.hid (HB1.out.trans (hb.mono HB1.out.size))
      clear hb
      go_wp2
      go_ret2
      exact ⟨by rw [HQ2.out]; rfl, HB2.out⟩
    by_cases h3 : x.kind = 3
    · have hm2 : mayC x.commit = true := by
        rw [if_neg (by rw [h3]; decide), if_neg h2, if_pos h3] at hm1
        exact hm1
      have HTP := Lib.hid (cput_any A2 c2 x.commit w1 HA1.out.2 HT.out)
      rw [hm2, if_pos rfl] at HTP
      have HQ2 : Hid (bytesO x = bytesC x.commit) := by show _ = _; rw [HQ.out, if_neg h2, if_pos h3]
      rw [h3] at e0
      clear hm1 hm2 h2 h3
      generalize bytesC x.commit = bt at *
      generalize encC A2 c2 x.commit = tx at *
      go_wp2_with (refine wpList_load_mid rfl 28 _ rfl w.heap.size 3 rfl tx _ HTX1.out Tryz.underlying28 rfl HXI.out ?_)
      refine HTP.out.mono ?_
      rintro e w2 ⟨rfl, hb⟩
      have HB2 := Lib.hid (HB1.out.trans (hb.mono HB1.out.size))
      clear hb
      go_wp2
      go_ret2
      exact ⟨by rw [HQ2.out]; rfl, HB2.out⟩
    have hbl : x.blob.length ≤ 1000 := by
      by_cases h1 : x.kind = 1
      · rw [if_pos h1] at hm1
        simpa using hm1
      · rw [if_neg h1, if_neg h2, if_neg h3] at hm1
        cases hm1
    have HCL := Lib.hid (sclone_any x.blob w1 (by omega))
    have HQ2 : Hid (bytesO x = x.blob) := by show _ = _; rw [HQ.out, if_neg h2, if_neg h3]
    have g2 : (x.kind == 2) = false := by simpa using h2
    have g3 : (x.kind == 3) = false := by simpa using h3
    clear hm1 hbl h2 h3
    generalize x.blob = bt at *
    generalize x.kind = kx at *
    go_wp2_with fail
    refine HCL.out.mono ?_
    rintro e w2 ⟨rfl, hb⟩
    have HB2 := Lib.hid (HB1.out.trans (hb.mono HB1.out.size))
    clear hb
    go_wp2
    go_ret2
    exact ⟨by rw [HQ2.out]; rfl, HB2.out⟩
end Go.Proofs.YtfaijkgfhdhhbaaGreatDoor

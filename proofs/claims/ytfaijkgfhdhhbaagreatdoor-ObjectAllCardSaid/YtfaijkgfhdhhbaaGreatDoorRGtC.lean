/-
  The reference's GetCommit, walked.
-/
import Derived.Test.YtfaijkgfhdhhbaaGreatDoorMhg
import Derived.Test.YtfaijkgfhdhhbaaGreatDoorMhf
import Derived.Test.YtfaijkgfhdhhbaaGreatDoorMhl
import Derived.Test.YtfaijkgfhdhhbaaGreatDoorCParN
import Derived.Test.YtfaijkgfhdhhbaaGreatDoorMhk
import Derived.Test.YtfaijkgfhdhhbaaGreatDoorMhm
namespace Go.Proofs.YtfaijkgfhdhhbaaGreatDoor
open Go.RowKit

theorem rhex_u (s : List UInt8) (w : World) : Calls Tryz.prog 81 #[.string ⟨s.toArray⟩] w fun e w' => e = .returned (.tuple #[.agg (encN (getN s)).toArray, .bool (getId s).2]) ∧ Below w.heap.size w w' := by
  by_cases h : s.length = 64
  · exact rgetid_64 s w h
  · have := rgetid_len s w h
    have e : encN (getN s) = (List.replicate 32 (0 : UInt8)).map Y := by
      show (getId s).1.map Y = _
      rw [getId_off s h]
    rw [e, show (getId s).2 = false by rw [getId_off s h]]
    exact this
theorem wordT_yes {s wd t r : List UInt8} (h : wordT s wd = (t, r, true)) : wordV s wd = some (t, r) := by
  unfold wordT at h
  cases hv : wordV s wd with
  | none => rw [hv] at h; cases h
  | some p => rw [hv] at h; injection h with h1 h2; injection h2 with h2 h3; rw [← h1, ← h2]
theorem wordT_nay {s wd t r : List UInt8} (h : wordT s wd = (t, r, false)) : wordV s wd = none := by
  unfold wordT at h
  cases hv : wordV s wd with
  | none => rfl
  | some p => rw [hv] at h; injection h with h1 h2; injection h2 with h2 h3; cases h3
theorem refC_none1 {s : List UInt8} (h : wordV s treeW = none) : refC s = none := by unfold refC; rw [h]
theorem refC_none2 {s t r : List UInt8} (h : wordV s treeW = some (t, r)) (h2 : (getId t).2 = false) : refC s = none := by unfold refC; rw [h]; simp [h2]
theorem refC_some {s t r : List UInt8} (h : wordV s treeW = some (t, r)) (h2 : (getId t).2 = true) : refC s = (parR (r.length + 1) r []).bind fun q => tailR (getN t) q.1 q.2 := by
  unfold refC
  rw [h]
  dsimp only
  rw [if_pos h2]
  cases parR (r.length + 1) r [] <;> rfl
theorem parR_step (rest : List UInt8) (acc : List Nm) : parR (rest.length + 1) rest acc = match wordV rest parW with
    | none => some (acc, rest)
    | some p => if (getId p.1).2 = true then parR (p.2.length + 1) p.2 (acc ++ [getN p.1]) else none := by
  show (match wordV rest parW with | none => some (acc, rest) | some p => if (getId p.1).2 = true then parR rest.length p.2 (acc ++ [getN p.1]) else none) = _
  cases h : wordV rest parW with
  | none => rfl
  | some p =>
    have hl := wordV_less rest parW p.1 p.2 h
    dsimp only
    rw [parR_fuel rest.length (p.2.length + 1) p.2 _ hl (by omega)]
theorem wordV_par {rest t r : List UInt8} (h : wordV rest parW = some (t, r)) : r.length + 8 ≤ rest.length := by
  rw [(wordV_back rest parW t r h).1]
  simp [parW]
/-- What the reference's GetCommit tells. -/
def GotRC (s : List UInt8) (e : Ending) (w' : World) : Prop :=
  (∃ x A c, refC s = some x ∧ e = .returned (.tuple #[.agg (encC A c x).toArray, .bool true]) ∧ ArgN w' A c x.parents) ∨ (refC s = none ∧ e = .returned (.tuple #[.agg (encC none 0 noC).toArray, .bool false]))
def GotRCo (B : Nat) (s : List UInt8) (e : Ending) (w' : World) : Prop :=
  (∃ x A c, refC s = some x ∧ e = .returned (.tuple #[.agg (encC A c x).toArray, .bool true]) ∧ ArgN w' A c x.parents ∧ ∀ j, inBlk A j → B ≤ j) ∨ (refC s = none ∧ e = .returned (.tuple #[.agg (encC none 0 noC).toArray, .bool false]))
theorem gotRC_none {s : List UInt8} {w w' : World} {a : Act} {g : Nat} {t : TypeId} (h2 : a.tmps.getD 2 undef = .pointer (some ⟨g, 0, none⟩)) (h3 : a.tmps.getD 3 undef = .bool false) (hd : a.defers = []) (hW : Whole w' g t (encC none 0 noC).toArray) (hr : refC s = none) (hB : Below w.heap.size w w') :
    bodyPost Tryz.prog Tryz.f44 (fun e w' => GotRCo w.heap.size s e w' ∧ Below w.heap.size w w') .ret a w' := by
  refine bodyPost_ret (v := .tuple #[.agg (encC none 0 noC).toArray, .bool false]) (results_crow rfl _ _ _ g t _ h2 h3 hW (infoC_s _ _ _)) hd ⟨.inr ⟨hr, rfl⟩, hB⟩
set_option maxRecDepth 100000 in
set_option maxHeartbeats 8000000 in
theorem rgetcO_any (s : List UInt8) (w : World) (hl : s.length ≤ 4000) :
    Calls Tryz.prog 44 #[.string ⟨s.toArray⟩] w fun e w' => GotRCo w.heap.size s e w' ∧ Below w.heap.size w w' := by
  have HX2 := Lib.hid fun z => Whole.past (Whole.made w 28 z) (.cells z 28)
  have HX4 : Hid (∀ z, Whole ((w.alloc (.cells z 28)).alloc (.cells z 28)) (w.heap.size + 1) 28 z) := by
    intro z
    have := Whole.made (w.alloc (.cells z 28)) 28 z
    simpa using this
  have HXB := Lib.hid fun z => ((Below.refl w.heap.size w).alloc (Nat.le_refl _) (.cells z 28)).alloc (by simp) (.cells z 28)
  go_enter Tryz.func44, Tryz.ntmps44
  go_upto_region 2 with fail
  rw [show (#[Value.int IntKind.u8 0, Value.int IntKind.u8 0, Value.int IntKind.u8 0, Value.int IntKind.u8 0, Value.int IntKind.u8 0, Value.int IntKind.u8 0, Value.int IntKind.u8 0, Value.int IntKind.u8 0, Value.int IntKind.u8 0, Value.int IntKind.u8 0, Value.int IntKind.u8 0, Value.int IntKind.u8 0, Value.int IntKind.u8 0, Value.int IntKind.u8 0, Value.int IntKind.u8 0, Value.int IntKind.u8 0, Value.int IntKind.u8 0, Value.int IntKind.u8 0, Value.int IntKind.u8 0, Value.int IntKind.u8 0, Value.int IntKind.u8 0, Value.int IntKind.u8 0, Value.int IntKind.u8 0, Value.int IntKind.u8 0, Value.int IntKind.u8 0, Value.int IntKind.u8 0, Value.int IntKind.u8 0, Value.int IntKind.u8 0, Value.int IntKind.u8 0, Value.int IntKind.u8 0, Value.int IntKind.u8 0, Value.int IntKind.u8 0, Value.slice none 0 0, Value.float FloatKind.f64 0, Value.string ⟨#[]⟩] : Array Value) = (encC none 0 noC).toArray by kernel_rfl]
  have HC2 := Lib.hid (HX2.out (encC none 0 noC).toArray)
  have HC4 := Lib.hid (HX4.out (encC none 0 noC).toArray)
  have HB := Lib.hid (HXB.out (encC none 0 noC).toArray)
  have hs1 : w.heap.size + 2 ≤ ((w.alloc (.cells (encC none 0 noC).toArray 28)).alloc (.cells (encC none 0 noC).toArray 28)).heap.size := by simp
  have HZS := Lib.hid (encC_s none 0 noC)
  have HZI := Lib.hid (infoC_s none 0 noC)
  have HZO := Lib.hid (all_oneCell_toArray (encC_one none 0 noC))
  have hzb := zC_build
  have HT0 := Lib.hid (encC_tree0)
  clear HX2 HX4 HXB
  generalize (w.alloc (.cells (encC none 0 noC).toArray 28)).alloc (.cells (encC none 0 noC).toArray 28) = w1 at *
  obtain ⟨p0, hp0⟩ : ∃ p0, p0 = wordT s treeW := ⟨_, rfl⟩
  obtain ⟨t0, r0, b0⟩ := p0
  have HW1 : Hid (∀ W, Calls Tryz.prog 80 #[.string ⟨s.toArray⟩, .string ⟨#[116, 114, 101, 101, 32]⟩] W fun e w' => e = .returned (.tuple #[.string ⟨t0.toArray⟩, .string ⟨r0.toArray⟩, .bool b0]) ∧ ∃ k, w' = W.drewN k) := by
    intro W
    have h := rword_any s treeW W (by omega) (by decide)
    rw [← hp0] at h
    exact h
  have HP0 := Lib.hid hp0.symm
  clear hp0
  go_wp2_with fail
  refine (HW1.out _).mono ?_
  rintro e w2 ⟨rfl, q, hq⟩
  have HB2 : Hid (Below w.heap.size w w2) := by show Below _ _ _; rw [hq]; exact be_drewN HB.out q
  have HC22 : Hid (Whole w2 w.heap.size 28 (encC none 0 noC).toArray) := by show Whole _ _ _ _; rw [hq]; exact HC2.out
  have HC42 : Hid (Whole w2 (w.heap.size + 1) 28 (encC none 0 noC).toArray) := by show Whole _ _ _ _; rw [hq]; exact HC4.out
  have hs2 : w.heap.size + 2 ≤ w2.heap.size := by rw [hq]; simpa using hs1
  clear hq HB HC2 HC4 hs1 HW1
  have HGH := Lib.hid (rhex_u t0 w2)
  obtain ⟨tr, htr⟩ : ∃ tr, tr = getN t0 := ⟨_, rfl⟩
  obtain ⟨bi, hbi⟩ : ∃ bi, bi = (getId t0).2 := ⟨_, rfl⟩
  rw [← htr, ← hbi] at HGH
  have HTR := Lib.hid htr
  have HBI := Lib.hid hbi.symm
  clear htr hbi
  go_wp2_with fail
  refine HGH.out.mono ?_
  rintro e w3 ⟨rfl, hb⟩
  have HB3 := Lib.hid (HB2.out.trans (hb.mono (by omega)))
  have HC23 := Lib.hid (HC22.out.below hb (by omega))
  have HC43 := Lib.hid (HC42.out.below hb (by omega))
  have hs3 : w.heap.size + 2 ≤ w3.heap.size := by have := hb.size; omega
  clear hb HGH HB2 HC22 HC42
  have HXS := Lib.hid (infoXs tr)
  have HXL := Lib.hid (infoX tr)
  have HXZ := Lib.hid (encN_size tr)
  have HXO := Lib.hid (encN_all tr)
  go_upto_region 4 with (refine wpList_store_whole rfl 24 _ _ rfl w3.heap.size (encN tr).toArray rfl rfl 24 _ (Whole.made w3 _ _) HXS.out (by rw [HXZ.out]; kernel_rfl) HXO.out ?_; intro w4 hWn hGn; have HI4 := Lib.hid hWn; have HD4 := Lib.hid (made_below' hGn); clear hWn hGn)
  have HB4 := Lib.hid (HB3.out.trans (HD4.out.mono (by omega)))
  have HC24 := Lib.hid (HC23.out.below HD4.out (by omega))
  have HC44 := Lib.hid (HC43.out.below HD4.out (by omega))
  have hs4 : w.heap.size + 2 ≤ w4.heap.size := by have := HD4.out.size; omega
  clear HB3 HC23 HC43 HD4
  cases b0 with
  | false =>
    have HRF := Lib.hid (refC_none1 (wordT_nay HP0.out))
    go_wp2_with (refine wpList_store_whole rfl 28 _ _ rfl w.heap.size (encC none 0 noC).toArray rfl rfl 28 _ HC24.out HZI.out rfl HZO.out ?_; intro w5 hWn hGn; have HI5 := Lib.hid hWn; have HG5 := Lib.hid hGn; clear hWn hGn)
    exact gotRC_none rfl rfl rfl HI5.out HRF.out (be_grown HB4.out HG5.out (by have := HB4.out.size; exact this) (fun j hj => by injection hj with hj; omega))
  | true =>
    have HWV := Lib.hid (wordT_yes HP0.out)
    cases bi with
    | false =>
      have HRF := Lib.hid (refC_none2 HWV.out HBI.out)
      go_wp2_with (refine wpList_store_whole rfl 28 _ _ rfl w.heap.size (encC none 0 noC).toArray rfl rfl 28 _ HC24.out HZI.out rfl HZO.out ?_; intro w5 hWn hGn; have HI5 := Lib.hid hWn; have HG5 := Lib.hid hGn; clear hWn hGn)
      exact gotRC_none rfl rfl rfl HI5.out HRF.out (be_grown HB4.out HG5.out (by have := HB4.out.size; exact this) (fun j hj => by injection hj with hj; omega))
    | true =>
      have HRF := Lib.hid (refC_some HWV.out HBI.out)
      obtain ⟨R, hR⟩ : ∃ R, R = parR (r0.length + 1) r0 [] := ⟨_, rfl⟩
      rw [← hR] at HRF
      have HR := Lib.hid hR
      have hr0 : r0.length ≤ s.length := by
        have := wordV_less s treeW t0 r0 HWV.out
        omega
      clear hR
      rw [← HTR.out] at HRF
      have HTH : Hid (w4.there (w.heap.size + 1) 0 (encN tr).toArray.size) := by
        intro j hj
        rw [encN_size] at hj
        refine ⟨?_, HC44.out.thawed _⟩
        rw [Nat.zero_add, HC44.out.at_, Array.getElem?_eq_getElem (by rw [HZS.out]; omega)]
        rfl
      have HB5 : Hid (Below w.heap.size w (w4.setCells (w.heap.size + 1) 0 (encN tr).toArray.toList)) := be_grown HB4.out (gr_setCells (g := w.heap.size + 1) (encN tr).toArray.toList 0 w4 w4 (gr_refl _ _)) (by omega) (fun j hj => by injection hj with hj; omega)
      have HC25 : Hid (Whole (w4.setCells (w.heap.size + 1) 0 (encN tr).toArray.toList) w.heap.size 28 (encC none 0 noC).toArray) := HC24.out.grown (gr_setCells (g := w.heap.size + 1) (encN tr).toArray.toList 0 w4 w4 (gr_refl _ _)) (fun e => by injection e with e; omega)
      have HC45 : Hid (Whole (w4.setCells (w.heap.size + 1) 0 (encN tr).toArray.toList) (w.heap.size + 1) 28 (encC none 0 ⟨tr, [], 0, []⟩).toArray) := by
        show Whole _ _ _ _
        have h9 := whole_over (encN tr).toArray.toList 0 w4 (encC none 0 noC).toArray HC44.out (by have := encN_len tr; rw [HZS.out]; simp; omega)
        rw [← encC_tree0 tr]
        exact h9
      have hs5 : w.heap.size + 2 ≤ (w4.setCells (w.heap.size + 1) 0 (encN tr).toArray.toList).heap.size := by have := (gr_setCells (g := w.heap.size + 1) (encN tr).toArray.toList 0 w4 w4 (gr_refl _ _)).size; omega
      have HRI := Lib.hid (whole_range HI4.out)
      go_wp2_with (first
        | (refine wpList_load_mid rfl 24 _ rfl w3.heap.size 0 rfl (encN tr) _ HRI.out Tryz.underlying24 rfl HXL.out ?_)
        | (refine wpList_store_mid rfl 24 _ _ rfl (w.heap.size + 1) 0 (encN tr).toArray rfl rfl HTH.out HXS.out HXO.out ?_; generalize w4.setCells (w.heap.size + 1) 0 (encN tr).toArray.toList = w5 at *))
      clear HTH HRI HI4 HC24 HC44 HB4 hs4
      simp only [Act.put]
      go_loopg [6, 10, 11, 12, 13, 14] r0.length (fun g0 s6 _ _ _ _ _ wr => ∃ (rest : List UInt8) (acc : List Nm) (A0 : Option Addr) (c0 : Nat), rest.length ≤ g0 ∧ s6 = .string ⟨rest.toArray⟩ ∧ acc.length * 8 + rest.length ≤ s.length ∧ Hid (Below w.heap.size w wr) ∧ w.heap.size + 2 ≤ wr.heap.size ∧ Hid (Whole wr w.heap.size 28 (encC none 0 noC).toArray) ∧ Hid (Whole wr (w.heap.size + 1) 28 (encC A0 c0 ⟨tr, acc, 0, []⟩).toArray) ∧ Hid (wr.ownsRow (w.heap.size + 2) 24 32 (.slice A0 acc.length c0) acc.length (acc.flatMap encN)) ∧ Hid (R = parR (rest.length + 1) rest acc))
      case atStart => exact ⟨r0, [], none, 0, Nat.le_refl _, rfl, by simpa using hr0, HB5, hs5, HC25, HC45, Lib.hid (by simpa using World.ownsRow_nil _ _ _ _), HR⟩
      case round =>
        rename World => wr
        obtain ⟨rest, acc, A0, c0, hg, rfl, hle, hbr, hsr, hc2, hc4, hown, hgo⟩ := hrel
        obtain ⟨p1, hp1⟩ : ∃ p1, p1 = wordT rest parW := ⟨_, rfl⟩
        obtain ⟨t1, r1, b1⟩ := p1
        have HW2 : Hid (∀ W, Calls Tryz.prog 80 #[.string ⟨rest.toArray⟩, .string ⟨#[112, 97, 114, 101, 110, 116, 32]⟩] W fun e w' => e = .returned (.tuple #[.string ⟨t1.toArray⟩, .string ⟨r1.toArray⟩, .bool b1]) ∧ ∃ k, w' = W.drewN k) := by
          intro W
          have h := rword_any rest parW W (by omega) (by decide)
          rw [← hp1] at h
          exact h
        have HP1 := Lib.hid hp1.symm
        have HGO := Lib.hid (hgo.out.trans (parR_step rest acc))
        clear hp1
        go_wp2_with fail
        refine (HW2.out _).mono ?_
        rintro e w6 ⟨rfl, q6, hq6⟩
        have HB6 : Hid (Below w.heap.size w w6) := by show Below _ _ _; rw [hq6]; exact be_drewN hbr.out q6
        have HC26 : Hid (Whole w6 w.heap.size 28 (encC none 0 noC).toArray) := by show Whole _ _ _ _; rw [hq6]; exact hc2.out
        have HC46 : Hid (Whole w6 (w.heap.size + 1) 28 (encC A0 c0 ⟨tr, acc, 0, []⟩).toArray) := by show Whole _ _ _ _; rw [hq6]; exact hc4.out
        have HOW6 : Hid (w6.ownsRow (w.heap.size + 2) 24 32 (.slice A0 acc.length c0) acc.length (acc.flatMap encN)) := by show World.ownsRow _ _ _ _ _ _ _; rw [hq6]; exact own_later hown.out (be_drewN (Below.refl _ _) q6)
        have hs6 : w.heap.size + 2 ≤ w6.heap.size := by rw [hq6]; simpa using hsr
        clear hq6 HW2 hbr hc2 hc4 hown hsr
        cases b1 with
        | true =>
          have HV1 := Lib.hid (wordT_yes HP1.out)
          have hl8 := wordV_par HV1.out
          have HGH1 := Lib.hid (rhex_u t1 w6)
          obtain ⟨x, hx⟩ : ∃ x, x = getN t1 := ⟨_, rfl⟩
          obtain ⟨bi1, hbi1⟩ : ∃ bi1, bi1 = (getId t1).2 := ⟨_, rfl⟩
          have hgo1 := HGO.out
          rw [HV1.out] at hgo1
          dsimp only at hgo1
          rw [← hbi1, ← hx] at hgo1
          rw [← hx, ← hbi1] at HGH1
          have HG1 := Lib.hid hgo1
          clear hx hbi1 hgo1 HGO
          go_wp2_with fail
          refine HGH1.out.mono ?_
          rintro e w7 ⟨rfl, hb⟩
          have HB7 := Lib.hid (HB6.out.trans (hb.mono (by omega)))
          have HC27 := Lib.hid (HC26.out.below hb (by omega))
          have HC47 := Lib.hid (HC46.out.below hb (by omega))
          have HOW7 := Lib.hid (own_later HOW6.out hb)
          have hs7 : w.heap.size + 2 ≤ w7.heap.size := by have := hb.size; omega
          clear hb HGH1 HB6 HC26 HC46 HOW6 hs6
          have HXS1 := Lib.hid (infoXs x)
          have HXL1 := Lib.hid (infoX x)
          have HXZ1 := Lib.hid (encN_size x)
          have HXO1 := Lib.hid (encN_all x)
          go_upto_region 10 with (refine wpList_store_whole rfl 24 _ _ rfl w7.heap.size (encN x).toArray rfl rfl 24 _ (Whole.made w7 _ _) HXS1.out (by rw [HXZ1.out]; kernel_rfl) HXO1.out ?_; intro w8 hWn hGn; have HI8 := Lib.hid hWn; have HD8 := Lib.hid (made_below' hGn); clear hWn hGn)
          have HB8 := Lib.hid (HB7.out.trans (HD8.out.mono (by omega)))
          have HC28 := Lib.hid (HC27.out.below HD8.out (by omega))
          have HC48 := Lib.hid (HC47.out.below HD8.out (by omega))
          have HOW8 := Lib.hid (own_later HOW7.out HD8.out)
          have hs8 : w.heap.size + 2 ≤ w8.heap.size := by have := HD8.out.size; omega
          clear HB7 HC27 HC47 HOW7 HD8 hs7
          cases bi1 with
          | false =>
            have HRN : Hid (refC s = none) := by show _ = _; rw [HRF.out, HG1.out]; rfl
            go_wp2_with (refine wpList_store_whole rfl 28 _ _ rfl w.heap.size (encC none 0 noC).toArray rfl rfl 28 _ HC28.out HZI.out rfl HZO.out ?_; intro w9 hWn hGn; have HIw9 := Lib.hid hWn; have HGw9 := Lib.hid hGn; clear hWn hGn)
            exact gotRC_none rfl rfl rfl HIw9.out HRN.out (be_grown HB8.out HGw9.out (by have := HB8.out.size; exact this) (fun j hj => by injection hj with hj; omega))
          | true =>
            have HG2 : Hid (R = parR (r1.length + 1) r1 (acc ++ [x])) := by show _ = _; rw [HG1.out]; rfl
            have c32 := (HC48.out.at_ 32).trans (encC_32 A0 c0 ⟨tr, acc, 0, []⟩)
            have HRX := Lib.hid (whole_range HI8.out)
            have HBA := Lib.hid ((Below.refl w8.heap.size w8).alloc (Nat.le_refl _) (.cells (encN x).toArray 24))
            have HOWA := Lib.hid (own_later HOW8.out HBA.out)
            have HARG := Lib.hid (arg_one (Whole.made w8 24 (encN x).toArray))
            have hsa : w.heap.size + 2 ≤ (w8.alloc (.cells (encN x).toArray 24)).heap.size := by simp; omega
            have hla : acc.length + [x].length ≤ 1000 := by simp; omega
            obtain ⟨n1, hn1⟩ : ∃ n1, n1 = (acc ++ [x]).length := ⟨_, rfl⟩
            have hn2 : n1 = acc.length + 1 := by rw [hn1]; simp
            have HAPP : Hid (∀ (v' : Value) (w9 : World), w9.ownsRow (w.heap.size + 2) 24 32 v' (acc ++ [x]).length ((acc ++ [x]).flatMap encN) → Below (w.heap.size + 2) (w8.alloc (.cells (encN x).toArray 24)) w9 → ∃ A' c', v' = .slice A' n1 c' ∧ Hid (w9.ownsRow (w.heap.size + 2) 24 32 (.slice A' n1 c') n1 ((acc ++ [x]).flatMap encN)) ∧ Hid (Whole w9 w.heap.size 28 (encC none 0 noC).toArray) ∧ Hid (Whole w9 (w.heap.size + 1) 28 (encC A0 c0 ⟨tr, acc, 0, []⟩).toArray) ∧ Hid (Below w.heap.size w w9) ∧ w.heap.size + 2 ≤ w9.heap.size) := by
              intro v' w9 hown' hb9
              have hb := (HBA.out.mono hs8).trans hb9
              obtain ⟨A', c', rfl, -⟩ := own_arg hown'
              rw [hn1]
              exact ⟨A', c', rfl, hown', HC28.out.below hb (by omega), HC48.out.below hb (by omega), HB8.out.trans (hb.mono (by omega)), by have := hb.size; omega⟩
            have HN1 := Lib.hid hn1
            have HN2 := Lib.hid hn2
            clear hn1 hn2
            go_wp2_with (first
              | (refine wpList_load_mid rfl 24 _ rfl w7.heap.size 0 rfl (encN x) _ HRX.out Tryz.underlying24 rfl HXL1.out ?_)
              | (refine wpList_buildN rfl _ rfl x rfl ?_)
              | (at_builtin; go_loud (refine wpList_appendN rfl _ _ rfl (w.heap.size + 2) (.slice A0 acc.length c0) acc rfl HOWA.out (some ⟨w8.heap.size, 0, none⟩) 1 1 [x] rfl rfl HARG.out hsa hla ?_; intro v' w9 hown' hb9; obtain ⟨A', c', rfl, HOW9, HC29, HC49, HB9, hs9⟩ := HAPP.out v' w9 hown' hb9; clear hown' hb9; have d32 := (HC49.out.at_ 32).trans (encC_32 A0 c0 ⟨tr, acc, 0, []⟩); have e32 := HC49.out.thawed 32)))
            have hC4 := HC49.out.put 32 (.slice A' n1 c')
            rw [HN1.out, encC_set32 A0 c0 A' c' ⟨tr, acc, 0, []⟩ (acc ++ [x])] at hC4
            have hOW := HOW9.out.kept (gr_set (a := w9) (w := w9) (row := some (w.heap.size + 1)) (gr_refl _ _) (p := ⟨w.heap.size + 1, 32, none⟩) (.inl rfl) (.slice A' n1 c')) (by
              cases hq : (Value.slice A' n1 c').ownBlock with
              | none => exact .inl rfl
              | some r =>
                refine .inr (fun e => ?_)
                have h1 := (HOW9.out.lt r hq).1
                injection e with e
                omega)
            have hC2 := HC29.out.aside (p := ⟨w.heap.size + 1, 32, none⟩) (by simp) (.slice A' n1 c')
            have hB := HB9.out.setCell (p := ⟨w.heap.size + 1, 32, none⟩) (by simp) (.slice A' n1 c')
            have hsz : w.heap.size + 2 ≤ (w9.setCell ⟨w.heap.size + 1, 32, none⟩ (.slice A' n1 c')).heap.size := by simpa using hs9
            rw [HN1.out] at hOW hC2 hB hsz
            have HC4 := Lib.hid hC4
            have HOW := Lib.hid hOW
            have HC2 := Lib.hid hC2
            have HBN := Lib.hid hB
            have hle2 : (acc ++ [x]).length * 8 + r1.length ≤ s.length := by rw [← HN1.out, HN2.out]; omega
            rw [HN1.out]
            clear hC4 hOW hC2 hB d32 e32
            go_roundg (r1.length)
            case measure => omega
            case rel => exact ⟨r1, acc ++ [x], A', c', Nat.le_refl _, rfl, hle2, HBN, hsz, HC2, HC4, HOW, HG2⟩
        | false =>
          have HV1 := Lib.hid (wordT_nay HP1.out)
          have HRT : Hid (refC s = tailR tr acc rest) := by
            show _ = _
            rw [HRF.out, HGO.out, HV1.out]
            rfl
          obtain ⟨A3, c3, he3, harg⟩ := own_arg HOW6.out
          injection he3 with e1 e2 e3
          subst e1 e3
          have HARG := Lib.hid harg
          have HNL := Lib.hid (own_low HOW6.out rfl)
          clear e2 harg HGO HOW6
          obtain ⟨p2, hp2⟩ : ∃ p2, p2 = wordT rest whenW := ⟨_, rfl⟩
          obtain ⟨t2, r2, b2⟩ := p2
          have HW3 : Hid (∀ W, Calls Tryz.prog 80 #[.string ⟨rest.toArray⟩, .string ⟨#[119, 104, 101, 110, 32]⟩] W fun e w' => e = .returned (.tuple #[.string ⟨t2.toArray⟩, .string ⟨r2.toArray⟩, .bool b2]) ∧ ∃ k, w' = W.drewN k) := by
            intro W
            have h := rword_any rest whenW W (by omega) (by decide)
            rw [← hp2] at h
            exact h
          have HP2 := Lib.hid hp2.symm
          have ht2l : t2.length ≤ rest.length := by
            cases b2 with
            | true =>
              have h := (wordV_back rest whenW t2 r2 (wordT_yes HP2.out)).1
              rw [h]
              simp
              omega
            | false =>
              have h := HP2.out
              unfold wordT at h
              rw [wordT_nay HP2.out] at h
              injection h with h1 h2
              rw [← h1]
              exact Nat.zero_le _
          clear hp2
          go_wp2_with fail
          refine (HW3.out _).mono ?_
          rintro e w7 ⟨rfl, q7, hq7⟩
          have HB7 : Hid (Below w.heap.size w w7) := by show Below _ _ _; rw [hq7]; exact be_drewN HB6.out q7
          have HC27 : Hid (Whole w7 w.heap.size 28 (encC none 0 noC).toArray) := by show Whole _ _ _ _; rw [hq7]; exact HC26.out
          have HC47 : Hid (Whole w7 (w.heap.size + 1) 28 (encC A0 c0 ⟨tr, acc, 0, []⟩).toArray) := by show Whole _ _ _ _; rw [hq7]; exact HC46.out
          have HA7 : Hid (ArgN w7 A0 c0 acc) := by show ArgN _ _ _ _; rw [hq7]; exact HARG.out.later (be_drewN (Below.refl _ _) q7)
          clear hq7 HW3 HB6 HC26 HC46 HARG hs6
          have HGV := Lib.hid fun W => rget_any t2 W (by omega)
          obtain ⟨tv, htv⟩ : ∃ tv, tv = (getV t2).1 := ⟨_, rfl⟩
          obtain ⟨bv, hbv⟩ : ∃ bv, bv = (getV t2).2 := ⟨_, rfl⟩
          have HTV := Lib.hid htv.symm
          have HBV := Lib.hid hbv.symm
          have HVL : Hid (tv < 18446744073709551616) := by show _ < _; rw [htv]; exact getV_lt t2
          rw [← htv, ← hbv] at HGV
          clear htv hbv
          go_wp2_with fail
          refine (HGV.out _).mono ?_
          rintro e w8 ⟨rfl, q8, hq8⟩
          have HB8 : Hid (Below w.heap.size w w8) := by show Below _ _ _; rw [hq8]; exact be_drewN HB7.out q8
          have HC28 : Hid (Whole w8 w.heap.size 28 (encC none 0 noC).toArray) := by show Whole _ _ _ _; rw [hq8]; exact HC27.out
          have HC48 : Hid (Whole w8 (w.heap.size + 1) 28 (encC A0 c0 ⟨tr, acc, 0, []⟩).toArray) := by show Whole _ _ _ _; rw [hq8]; exact HC47.out
          have HA8 : Hid (ArgN w8 A0 c0 acc) := by show ArgN _ _ _ _; rw [hq8]; exact HA7.out.later (be_drewN (Below.refl _ _) q8)
          clear hq8 HGV HB7 HC27 HC47 HA7
          cases b2 with
          | false =>
            have HRN : Hid (refC s = none) := by show _ = _; rw [HRT.out]; unfold tailR; rw [wordT_nay HP2.out]
            go_wp2_with (refine wpList_store_whole rfl 28 _ _ rfl w.heap.size (encC none 0 noC).toArray rfl rfl 28 _ HC28.out HZI.out rfl HZO.out ?_; intro w9 hWn hGn; have HIw9 := Lib.hid hWn; have HGw9 := Lib.hid hGn; clear hWn hGn)
            exact gotRC_none rfl rfl rfl HIw9.out HRN.out (be_grown HB8.out HGw9.out (by have := HB8.out.size; exact this) (fun j hj => by injection hj with hj; omega))
          | true =>
            have HV2 := Lib.hid (wordT_yes HP2.out)
            cases bv with
            | false =>
              have HRN : Hid (refC s = none) := by show _ = _; rw [HRT.out]; unfold tailR; rw [HV2.out]; simp [HBV.out]
              go_wp2_with (refine wpList_store_whole rfl 28 _ _ rfl w.heap.size (encC none 0 noC).toArray rfl rfl 28 _ HC28.out HZI.out rfl HZO.out ?_; intro w9 hWn hGn; have HIw9 := Lib.hid hWn; have HGw9 := Lib.hid hGn; clear hWn hGn)
              exact gotRC_none rfl rfl rfl HIw9.out HRN.out (be_grown HB8.out HGw9.out (by have := HB8.out.size; exact this) (fun j hj => by injection hj with hj; omega))
            | true =>
              cases hr2 : r2 with
              | nil =>
                subst hr2
                have HRN : Hid (refC s = none) := by show _ = _; rw [HRT.out]; unfold tailR; rw [HV2.out]; simp
                go_wp2_with (refine wpList_store_whole rfl 28 _ _ rfl w.heap.size (encC none 0 noC).toArray rfl rfl 28 _ HC28.out HZI.out rfl HZO.out ?_; intro w9 hWn hGn; have HIw9 := Lib.hid hWn; have HGw9 := Lib.hid hGn; clear hWn hGn)
                exact gotRC_none rfl rfl rfl HIw9.out HRN.out (be_grown HB8.out HGw9.out (by have := HB8.out.size; exact this) (fun j hj => by injection hj with hj; omega))
              | cons ch r3 =>
                subst hr2
                have hne : ((ch :: r3) == []) = false := rfl
                have hidx : ∀ W, (Instr.index 9 (.string ⟨(ch :: r3).toArray⟩) (.int .i64 0)).run Tryz.prog W = .ok (.int .u8 (ch.toNat : Int)) W := fun W => str_atN (ch :: r3) 0 (by simp) W
                by_cases hch : ch = 10
                · subst hch
                  have c33 := (HC48.out.at_ 33).trans (encC_33 A0 c0 ⟨tr, acc, 0, []⟩)
                  have c34 := (HC48.out.at_ 34).trans (encC_34 A0 c0 ⟨tr, acc, 0, []⟩)
                  have f33 := HC48.out.thawed 33
                  have f34 := HC48.out.thawed 34
                  have hfr : ∀ W, (Instr.slice 9 (.string ⟨((10 : UInt8) :: r3).toArray⟩) (some (.int .i64 1)) none none).run Tryz.prog W = .ok (.string ⟨r3.toArray⟩) W := fun W => str_from (10 :: r3) 1 (by simp) W
                  have hcb : (((10 : UInt8).toNat : Int) != 10) = false := rfl
                  have HRS : Hid (refC s = if mayC ⟨tr, acc, tv, r3⟩ then some ⟨tr, acc, tv, r3⟩ else none) := by show _ = _; rw [HRT.out]; unfold tailR; rw [HV2.out]; simp [HBV.out, HTV.out]
                  have hst : (store ⟨w.heap.size + 1, 33, none⟩ (.float .f64 tv)).run Tryz.prog w8.drew = .ok () (w8.drew.setCell ⟨w.heap.size + 1, 33, none⟩ (.float .f64 tv)) := by
                    rw [run_store _ _ _ _ _ rfl]
                    simp [c33, f33]
                  go_wp2_with fail
                  go_region
                  have hw9 := (HC48.out.put 33 (.float .f64 tv)).put 34 (.string ⟨r3.toArray⟩)
                  rw [encC_set33, encC_set34] at hw9
                  have hA0 : ∀ j, inBlk A0 j → 0 < acc.length → some j ≠ some (w.heap.size + 1) := fun j hj h0 e => by
                    injection e with e
                    have := HNL.out j hj
                    omega
                  have hA9 := ((HA8.out.grown (gr_set (a := w8) (w := w8) (row := some (w.heap.size + 1)) (gr_refl _ _) (p := ⟨w.heap.size + 1, 33, none⟩) (.inl rfl) (.float .f64 tv)) hA0).grown (gr_set (row := some (w.heap.size + 1)) (gr_refl _ _) (p := ⟨w.heap.size + 1, 34, none⟩) (.inl rfl) (.string ⟨r3.toArray⟩)) hA0).later (Below.refl _ _).drew
                  have hB9 := ((HB8.out.setCell (p := ⟨w.heap.size + 1, 33, none⟩) (by simp) (.float .f64 tv)).setCell (p := ⟨w.heap.size + 1, 34, none⟩) (by simp) (.string ⟨r3.toArray⟩)).drew
                  have hC9 := (HC28.out.aside (p := ⟨w.heap.size + 1, 33, none⟩) (by simp) (.float .f64 tv)).aside (p := ⟨w.heap.size + 1, 34, none⟩) (by simp) (.string ⟨r3.toArray⟩)
                  have hW9 : Whole ((w8.setCell ⟨w.heap.size + 1, 33, none⟩ (.float .f64 tv)).setCell ⟨w.heap.size + 1, 34, none⟩ (.string ⟨r3.toArray⟩)).drew (w.heap.size + 1) 28 (encC A0 c0 ⟨tr, acc, tv, r3⟩).toArray := hw9
                  have hZ9 : Whole ((w8.setCell ⟨w.heap.size + 1, 33, none⟩ (.float .f64 tv)).setCell ⟨w.heap.size + 1, 34, none⟩ (.string ⟨r3.toArray⟩)).drew w.heap.size 28 (encC none 0 noC).toArray := hC9
                  clear hw9 hC9 c33 c34 f33 f34 hst hcb hfr hidx hne
                  generalize ((w8.setCell ⟨w.heap.size + 1, 33, none⟩ (.float .f64 tv)).setCell ⟨w.heap.size + 1, 34, none⟩ (.string ⟨r3.toArray⟩)).drew = w9 at *
                  have HW9 := Lib.hid hW9
                  have HZ9 := Lib.hid hZ9
                  have HA9 := Lib.hid hA9
                  have HB9 := Lib.hid hB9
                  clear hW9 hZ9 hA9 hB9 hA0
                  obtain ⟨y, hy⟩ : ∃ y : Cm, y = ⟨tr, acc, tv, r3⟩ := ⟨_, rfl⟩
                  have hyp : y.parents = acc := by rw [hy]
                  have hyt : y.time = tv := by rw [hy]
                  rw [← hy] at HRS HW9
                  have HYP := Lib.hid hyp
                  have HYT : Hid (y.time < 18446744073709551616) := by show _ < _; rw [hyt]; exact HVL.out
                  clear hy hyp hyt
                  have HRY := Lib.hid (whole_range HW9.out)
                  have HYI := Lib.hid (infoC_l A0 c0 y)
                  have HMY := Lib.hid (rcmay_any A0 c0 y w9 (by rw [HYP.out]; exact HA9.out) HYT.out (by rw [HYP.out]; omega))
                  go_wp2_with (refine wpList_load_mid rfl 28 _ rfl (w.heap.size + 1) 0 rfl (encC A0 c0 y) _ HRY.out Tryz.underlying28 rfl HYI.out ?_)
                  refine HMY.out.mono ?_
                  rintro e w10 ⟨rfl, hb⟩
                  have HB10 := Lib.hid (HB9.out.trans (hb.mono HB9.out.size))
                  have HZ10 := Lib.hid (HZ9.out.below hb HZ9.out.lt)
                  have HW10 := Lib.hid (HW9.out.below hb HW9.out.lt)
                  have HA10 := Lib.hid (HA9.out.later hb)
                  have HRY10 := Lib.hid (whole_range HW10.out)
                  clear hb HMY HRY HB9 HZ9 HW9 HA9
                  cases hmy : mayC y with
                  | false =>
                    have HRN : Hid (refC s = none) := by show _ = _; rw [HRS.out, hmy]; rfl
                    go_wp2_with (refine wpList_store_whole rfl 28 _ _ rfl w.heap.size (encC none 0 noC).toArray rfl rfl 28 _ HZ10.out HZI.out rfl HZO.out ?_; intro w11 hWn hGn; have HIw11 := Lib.hid hWn; have HGw11 := Lib.hid hGn; clear hWn hGn)
                    exact gotRC_none rfl rfl rfl HIw11.out HRN.out (be_grown HB10.out HGw11.out (by have := HB10.out.size; exact this) (fun j hj => by injection hj with hj; omega))
                  | true =>
                    have HRN : Hid (refC s = some y) := by show _ = _; rw [HRS.out, hmy]; rfl
                    have HYS := Lib.hid (infoC_s A0 c0 y)
                    have HYZ := Lib.hid (encC_s A0 c0 y)
                    have HYO := Lib.hid (all_oneCell_toArray (encC_one A0 c0 y))
                    go_wp2_with (first
                      | (refine wpList_load_mid rfl 28 _ rfl (w.heap.size + 1) 0 rfl (encC A0 c0 y) _ HRY10.out Tryz.underlying28 rfl HYI.out ?_)
                      | (refine wpList_store_whole rfl 28 _ _ rfl w.heap.size (encC A0 c0 y).toArray rfl rfl 28 _ HZ10.out HYS.out (by rw [HYZ.out, HZS.out]) HYO.out ?_; intro w11 hWn hGn; have HI11 := Lib.hid hWn; have HG11 := Lib.hid hGn; clear hWn hGn))
                    have HB11 := Lib.hid (be_grown HB10.out HG11.out (by have := HB10.out.size; exact this) (fun j hj => by injection hj with hj; omega))
                    have HA11 : Hid (ArgN w11 A0 c0 y.parents) := by
                      show ArgN _ _ _ _
                      rw [HYP.out]
                      exact HA10.out.grown HG11.out (fun j hj h0 e => by injection e with e; have := HNL.out j hj; omega)
                    exact bodyPost_ret (v := .tuple #[.agg (encC A0 c0 y).toArray, .bool true]) (results_crow rfl _ _ _ w.heap.size _ _ rfl rfl HI11.out HYS.out) rfl ⟨.inl ⟨y, A0, c0, HRN.out, rfl, HA11.out, fun j hj => by have := HNL.out j hj; omega⟩, HB11.out⟩
                · have hcb : ((ch.toNat : Int) != 10) = true := by
                    simp only [bne_iff_ne, ne_eq]
                    intro h
                    exact hch (UInt8.toNat_inj.1 (show ch.toNat = 10 by omega))
                  have HRN : Hid (refC s = none) := by show _ = _; rw [HRT.out]; unfold tailR; rw [HV2.out]; simp [hch]
                  go_wp2_with (refine wpList_store_whole rfl 28 _ _ rfl w.heap.size (encC none 0 noC).toArray rfl rfl 28 _ HC28.out HZI.out rfl HZO.out ?_; intro w9 hWn hGn; have HIw9 := Lib.hid hWn; have HGw9 := Lib.hid hGn; clear hWn hGn)
                  exact gotRC_none rfl rfl rfl HIw9.out HRN.out (be_grown HB8.out HGw9.out (by have := HB8.out.size; exact this) (fun j hj => by injection hj with hj; omega))
theorem rgetc_any (s : List UInt8) (w : World) (hl : s.length ≤ 4000) :
    Calls Tryz.prog 44 #[.string ⟨s.toArray⟩] w fun e w' => GotRC s e w' ∧ Below w.heap.size w w' := by
  refine (rgetcO_any s w hl).mono ?_
  rintro e w' ⟨⟨x, A, c, h1, h2, h3, -⟩ | h, hb⟩
  · exact ⟨.inl ⟨x, A, c, h1, h2, h3⟩, hb⟩
  · exact ⟨.inr h, hb⟩
end Go.Proofs.YtfaijkgfhdhhbaaGreatDoor

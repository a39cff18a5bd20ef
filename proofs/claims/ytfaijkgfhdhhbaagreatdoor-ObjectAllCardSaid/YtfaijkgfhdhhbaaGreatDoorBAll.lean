/-
  ObjectAll, walked.
-/
import Derived.Test.YtfaijkgfhdhhbaaGreatDoorBegS
import Derived.Test.YtfaijkgfhdhhbaaGreatDoorMhk
import Derived.Test.YtfaijkgfhdhhbaaGreatDoorRObM
import Derived.Test.YtfaijkgfhdhhbaaGreatDoorMho
import Derived.Test.YtfaijkgfhdhhbaaGreatDoorMhn
import Derived.Test.YtfaijkgfhdhhbaaGreatDoorTurN
import Derived.Lib.QuietBelow
namespace Go.Proofs.YtfaijkgfhdhhbaaGreatDoor
open Go.RowKit

theorem below_clsB {w W : World} (h : ∃ p : Regrown, W = Sort.grow (redrawn w p.d) p.os) : Below w.heap.size w W := by
  obtain ⟨p, rfl⟩ := h
  exact below_regrown _ _ _
theorem getOb_le (k : Int) (s : List UInt8) : (getOb k s).1.entries.length ≤ 1048576 ∧ (getOb k s).1.commit.parents.length ≤ 1048576 := by
  by_cases h1 : k = 1
  · subst h1
    by_cases h : s.length ≤ 1000
    · rw [getOb_1 s h]; exact ⟨by simp, by show (noC : Cm).parents.length ≤ 1048576; decide⟩
    · rw [getOb_1n s h]; exact ⟨by decide, by decide⟩
  by_cases h2 : k = 2
  · subst h2
    cases h : getT s with
    | none => rw [getOb_2n s h]; exact ⟨by decide, by decide⟩
    | some es => rw [getOb_2 s es h]; exact ⟨by have := (mayT_names es (getT_enc s es h).2).1; simp only; omega, by show (noC : Cm).parents.length ≤ 1048576; decide⟩
  by_cases h3 : k = 3
  · subst h3
    cases h : readC s with
    | none => rw [getOb_3n s h]; exact ⟨by decide, by decide⟩
    | some c => rw [getOb_3 s c h]; exact ⟨by simp, by have := parents_le (readC_may s c h); simp only; omega⟩
  rw [getOb_4 k s h1 h2 h3]
  exact ⟨by decide, by decide⟩
set_option maxRecDepth 100000 in
set_option maxHeartbeats 4000000 in
theorem ball_any (A0 : Option Addr) (c0 : Nat) (B0 : Option Addr) (d0 : Nat) (x : Ob) (A1 : Option Addr) (c1 : Nat) (B1 : Option Addr) (d1 : Nat) (y : Ob) (k : Int) (s : List UInt8) (w : World) (hE : Env w) (hT : Tens w) (hA : ArgO w A0 c0 B0 d0 x) (hnl : ∀ e ∈ x.entries, e.name.length ≤ maxLen) (ht : x.commit.time < 18446744073709551616) (hA2 : ArgO w A1 c1 B1 d1 y) (_ : ∀ e ∈ y.entries, e.name.length ≤ maxLen) (_ : y.commit.time < 18446744073709551616) :
    Calls Tryz.prog 3 #[.agg (encO A0 c0 B0 d0 x).toArray, .agg (encO A1 c1 B1 d1 y).toArray, .int .i64 k, .string ⟨s.toArray⟩] w fun e w' => e = .returned (.bool true) ∧ Below w.heap.size w w' := by
  have HB := Lib.hid (((Below.refl w.heap.size w).alloc (Nat.le_refl _) (.cells (encO A0 c0 B0 d0 x).toArray 30)).alloc (by simp) (.cells (encO A1 c1 B1 d1 y).toArray 30))
  have HT0 := Lib.hid hT
  have HE0 := Lib.hid hE
  have HT := Lib.hid (hT.below HB.out)
  have HE := Lib.hid (hE.at_ HB.out)
  have HW := Lib.hid (Whole.past (Whole.made w 30 (encO A0 c0 B0 d0 x).toArray) (.cells (encO A1 c1 B1 d1 y).toArray 30))
  have HV : Hid (Whole ((w.alloc (.cells (encO A0 c0 B0 d0 x).toArray 30)).alloc (.cells (encO A1 c1 B1 d1 y).toArray 30)) (w.heap.size + 1) 30 (encO A1 c1 B1 d1 y).toArray) := by
    show Whole _ _ _ _
    have := Whole.made (w.alloc (.cells (encO A0 c0 B0 d0 x).toArray 30)) 30 (encO A1 c1 B1 d1 y).toArray
    simpa using this
  have hs0 : ((w.alloc (.cells (encO A0 c0 B0 d0 x).toArray 30)).alloc (.cells (encO A1 c1 B1 d1 y).toArray 30)).heap.size = w.heap.size + 2 := by simp
  have HA := Lib.hid (hA.later HB.out)
  have HA2 := Lib.hid (hA2.later HB.out)
  have HTM : Hid ((trimO x).commit.time < 18446744073709551616) := ht
  have HXI := Lib.hid (infoO_l A0 c0 B0 d0 x)
  have HYI := Lib.hid (infoO_l A1 c1 B1 d1 y)
  have HXZ := Lib.hid (encO_s A0 c0 B0 d0 x)
  have HYZ := Lib.hid (encO_s A1 c1 B1 d1 y)
  have HXN : Hid (∀ e ∈ (trimO x).entries, e.name.length ≤ 9223372036854775807) := fun e he => hnl e (List.mem_of_mem_take he)
  have HXE : Hid ((trimO x).entries.length ≤ 22) := by show (x.entries.take 22).length ≤ 22; rw [List.length_take]; omega
  have HXP : Hid ((trimO x).commit.parents.length ≤ 6) := by show (x.commit.parents.take 6).length ≤ 6; rw [List.length_take]; omega
  have HTX : Hid (∀ W, Calls Tryz.prog 7 #[.string ⟨s.toArray⟩, .int .i64 1010] W fun e w' => e = .returned (.string ⟨(s.take 1010).toArray⟩) ∧ W = w') := fun W => text_any s 1010 W
  clear hE hT hA hA2 ht hnl
  go_enter Tryz.func3, Tryz.ntmps3
  go_wp2_with fail
  generalize (w.alloc (.cells (encO A0 c0 B0 d0 x).toArray 30)).alloc (.cells (encO A1 c1 B1 d1 y).toArray 30) = w0 at *
  refine (begun6_any w0 HE.out HT.out).mono ?_
  rintro e w1 ⟨rfl, hb⟩
  have HB1 := Lib.hid (HB.out.trans (hb.drew.mono HB.out.size))
  have HW1 : Hid (Whole w1.drew w.heap.size 30 (encO A0 c0 B0 d0 x).toArray) := HW.out.below hb.drew (by omega)
  have HV1 : Hid (Whole w1.drew (w.heap.size + 1) 30 (encO A1 c1 B1 d1 y).toArray) := HV.out.below hb.drew (by omega)
  have HA1 := Lib.hid (HA.out.later hb.drew)
  have HA21 := Lib.hid (HA2.out.later hb.drew)
  have hs1 : w.heap.size + 2 ≤ w1.drew.heap.size := by have := hb.size; show _ ≤ w1.heap.size; omega
  clear hb HE HT HB HW HV HA HA2 hs0
  go_wp2_with fail
  refine wp_region_K (fun W => W.rangeAt (w.heap.size + 1) 0 (encO A1 c1 B1 d1 y)) 7 (by kernel_rfl) ?_
  change wpAnyK _ _ _ _ _ _ _ _ _ (World.drew w1)
  generalize World.drew w1 = w2 at *
  have hS0 : w2.rangeAt (w.heap.size + 1) 0 (encO A1 c1 B1 d1 y) := whole_range HV1.out
  refine wpAnyK_take0 (i := 4) (oi := { dst := some 28, op := _, type := _, pos := _, after := _, guard := none }) (v := .string ⟨s.toArray⟩) rfl (by kernel_rfl) (fun _ _ _ h => h) (Or.inl ⟨by rfl, fun W hW => ?_⟩) (fun _ => hS0) ?_
  · go_simp
  simp only [Act.put]
  go_simp
  refine wpAnyK_take (i := 2) (oi := _) (v := .agg (encO A1 c1 B1 d1 y).toArray) rfl (by kernel_rfl) (fun _ _ _ h => h) (yieldsIf_load_mid (by rfl) _ _ rfl (w.heap.size + 1) 0 rfl (encO A1 c1 B1 d1 y) _ (fun W hW => hW) Tryz.underlying30 rfl HYI.out) hS0 ?_
  simp only [Act.put]
  go_simp
  refine wpAnyK_ready (rs := [0]) (by kernel_rfl) (by simp) ?_
  refine AllReadyK.cons (o := _) rfl (fun K hK => ?_) AllReadyK.nil
  rw [if_pos (by rfl)]
  refine wp_load_mid 30 _ rfl w.heap.size 0 rfl (encO A0 c0 B0 d0 x) _ (whole_range HW1.out) Tryz.underlying30 rfl HXI.out ?_
  refine hK _ _ (fun _ => hS0) ?_
  clear hK K
  refine wpAnyK_ready (rs := [1]) (by kernel_rfl) (by simp) ?_
  refine AllReadyK.cons (o := _) rfl (fun K hK => ?_) AllReadyK.nil
  rw [if_pos (by rfl)]
  simp only [Act.put]
  go_simp
  refine (lobj_any A0 c0 B0 d0 x w2 HA1.out).mono ?_
  rintro e w3 ⟨⟨A3, c3, B3, d3, rfl, hn, hlo, hlo2⟩, hb⟩
  have HB3 := Lib.hid (HB1.out.trans (hb.mono (by omega)))
  have HW3 := Lib.hid (HW1.out.below hb (by omega))
  have HV3 := Lib.hid (HV1.out.below hb (by omega))
  have HA23 := Lib.hid (HA21.out.later hb)
  have HN3 := Lib.hid hn
  have HLO3 : Hid (∀ j, inBlk A3 j ∨ inBlk B3 j → w.heap.size + 2 ≤ j) := fun j hj => by rcases hj with hj | hj; (have := hlo j hj; omega); (have := hlo2 j hj; omega)
  have hs3 : w.heap.size + 2 ≤ w3.heap.size := by have := hb.size; omega
  have hS3 := whole_range HV3.out
  clear hb hn hlo hlo2 hS0 HB1 HW1 HV1 HA1 HA21
  refine hK _ _ (fun _ => hS3) ?_
  clear hK K
  refine wpAnyK_ready (rs := [3]) (by kernel_rfl) (by simp) ?_
  refine AllReadyK.cons (o := _) rfl (fun K hK => ?_) AllReadyK.nil
  rw [if_pos (by rfl)]
  go_simp
  refine (lobj_any A1 c1 B1 d1 y w3 HA23.out).mono ?_
  rintro e w4 ⟨⟨A4, c4, B4, d4, rfl, hn, hlo, hlo2⟩, hb⟩
  have HB4 := Lib.hid (HB3.out.trans (hb.mono (by omega)))
  have HW4 := Lib.hid (HW3.out.below hb (by omega))
  have HV4 := Lib.hid (HV3.out.below hb (by omega))
  have HN4 := Lib.hid (HN3.out.later hb)
  have HM4 := Lib.hid hn
  have HLO4 : Hid (∀ j, inBlk A4 j ∨ inBlk B4 j → w.heap.size + 2 ≤ j) := fun j hj => by rcases hj with hj | hj; (have := hlo j hj; omega); (have := hlo2 j hj; omega)
  have hs4 : w.heap.size + 2 ≤ w4.heap.size := by have := hb.size; omega
  have hS4 := whole_range HV4.out
  clear hb hn hlo hlo2 hS3 HB3 HW3 HV3 HA23 HN3
  refine hK _ _ (fun _ => hS4) ?_
  clear hK K
  refine wpAnyK_ready (rs := [5]) (by kernel_rfl) (by simp) ?_
  refine AllReadyK.cons (o := _) rfl (fun K hK => ?_) AllReadyK.nil
  rw [if_pos (by rfl)]
  go_simp
  refine (HTX.out _).mono ?_
  rintro e w' ⟨rfl, rfl⟩
  refine hK _ _ (fun _ => hS4) ?_
  clear hK K
  have hth := HW4.out.there 0 (encO A3 c3 B3 d3 (trimO x)).toArray.size (by have := HXZ.out; rw [encO_s]; omega)
  have hW5 := whole_setCells (encO A3 c3 B3 d3 (trimO x)).toArray.toList 0 w4 (encO A0 c0 B0 d0 x).toArray HW4.out (by have h1 := HXZ.out; have h2 := encO_len A3 c3 B3 d3 (trimO x); rw [h1]; simp; omega)
  rw [List.take_zero, List.nil_append] at hW5
  have hg5 := gr_setCells (g := w.heap.size) (encO A3 c3 B3 d3 (trimO x)).toArray.toList 0 w4 w4 (gr_refl _ _)
  have hV5 := HV4.out.grown hg5 (fun e => by injection e with e; omega)
  have hN5 : ArgO _ A3 c3 B3 d3 (trimO x) := ⟨HN4.out.1.grown hg5 (fun j hj _ e => by injection e with e; have := HLO3.out j (.inl hj); omega), HN4.out.2.grown hg5 (fun j hj _ e => by injection e with e; have := HLO3.out j (.inr hj); omega)⟩
  have hM5 : ArgO _ A4 c4 B4 d4 (trimO y) := ⟨HM4.out.1.grown hg5 (fun j hj _ e => by injection e with e; have := HLO4.out j (.inl hj); omega), HM4.out.2.grown hg5 (fun j hj _ e => by injection e with e; have := HLO4.out j (.inr hj); omega)⟩
  have hB5 := be_grown HB4.out hg5 (by have := HB4.out.size; exact this) (fun j hj => by injection hj with hj; omega)
  have hs5 : w.heap.size + 2 ≤ (w4.setCells w.heap.size 0 (encO A3 c3 B3 d3 (trimO x)).toArray.toList).heap.size := by have := hg5.size; omega
  have hS5 := whole_range hV5
  have HXS := Lib.hid (infoO_s A3 c3 B3 d3 (trimO x))
  have HYS := Lib.hid (infoO_s A4 c4 B4 d4 (trimO y))
  have HXO := Lib.hid (encO_all A3 c3 B3 d3 (trimO x))
  have HYO := Lib.hid (encO_all A4 c4 B4 d4 (trimO y))
  refine wpAnyK_ready (rs := [6]) (by kernel_rfl) (by simp) ?_
  refine AllReadyK.cons (o := _) rfl (fun K hK => ?_) AllReadyK.nil
  rw [if_pos (by rfl)]
  refine wp_store_mid 30 _ _ rfl w.heap.size 0 (encO A3 c3 B3 d3 (trimO x)).toArray rfl rfl hth HXS.out HXO.out ?_
  refine hK _ _ (fun _ => hS5) ?_
  clear hK K hth hg5 hS4
  generalize w4.setCells w.heap.size 0 (encO A3 c3 B3 d3 (trimO x)).toArray.toList = w5 at *
  have hth := hV5.there 0 (encO A4 c4 B4 d4 (trimO y)).toArray.size (by have := HYZ.out; rw [encO_s]; omega)
  have hV6 := whole_setCells (encO A4 c4 B4 d4 (trimO y)).toArray.toList 0 w5 (encO A1 c1 B1 d1 y).toArray hV5 (by have h1 := HYZ.out; have h2 := encO_len A4 c4 B4 d4 (trimO y); rw [h1]; simp; omega)
  rw [List.take_zero, List.nil_append] at hV6
  have hg6 := gr_setCells (g := w.heap.size + 1) (encO A4 c4 B4 d4 (trimO y)).toArray.toList 0 w5 w5 (gr_refl _ _)
  have hW6 := hW5.grown hg6 (fun e => by injection e with e; omega)
  have hN6 : ArgO _ A3 c3 B3 d3 (trimO x) := ⟨hN5.1.grown hg6 (fun j hj _ e => by injection e with e; have := HLO3.out j (.inl hj); omega), hN5.2.grown hg6 (fun j hj _ e => by injection e with e; have := HLO3.out j (.inr hj); omega)⟩
  have hM6 : ArgO _ A4 c4 B4 d4 (trimO y) := ⟨hM5.1.grown hg6 (fun j hj _ e => by injection e with e; have := HLO4.out j (.inl hj); omega), hM5.2.grown hg6 (fun j hj _ e => by injection e with e; have := HLO4.out j (.inr hj); omega)⟩
  have hB6 := be_grown hB5 hg6 (by have := hB5.size; exact this) (fun j hj => by injection hj with hj; omega)
  refine wpAnyK_ready (rs := [7]) (by kernel_rfl) (by simp) ?_
  refine AllReadyK.cons (o := _) rfl (fun K hK => ?_) AllReadyK.nil
  rw [if_pos (by rfl)]
  refine wp_store_mid 30 _ _ rfl (w.heap.size + 1) 0 (encO A4 c4 B4 d4 (trimO y)).toArray rfl rfl hth HYS.out HYO.out ?_
  refine hK _ _ (fun h => by cases h) ?_
  clear hK K hth hg6 hS5 hW5 hN5 hM5 hB5 hV5 hs5
  generalize w5.setCells (w.heap.size + 1) 0 (encO A4 c4 B4 d4 (trimO y)).toArray.toList = w6 at *
  refine wpAnyK_ready (rs := [8]) (by kernel_rfl) (by simp) ?_
  refine AllReadyK.cons (o := _) rfl (fun K hK => ?_) AllReadyK.nil
  rw [if_pos (by rfl)]
  simp only [Act.put]
  go_simp
  refine hK _ _ (fun h => by cases h) ?_
  clear hK K
  refine wpAnyK_done (by kernel_rfl) ?_ _
  have HW6 := Lib.hid hW6
  have HV6 := Lib.hid hV6
  have HN6 := Lib.hid hN6
  have HM6 := Lib.hid hM6
  have HB6 := Lib.hid hB6
  have HXL := Lib.hid (infoO_l A3 c3 B3 d3 (trimO x))
  have HYL := Lib.hid (infoO_l A4 c4 B4 d4 (trimO y))
  clear hW6 hV6 hN6 hM6 hB6 HW4 HV4 HB4 HN4 HM4 HLO3 HLO4 HXS HYS HXO HYO HXI HYI HXZ HYZ HTX
  have hs1010 : (s.take 1010).length ≤ 1010 := by rw [List.length_take]; omega
  generalize s.take 1010 = s' at *
  generalize trimO x = x' at *
  generalize trimO y = y' at *
  have hg6 := HW6.out.lt
  have HRX6 := Lib.hid (whole_range HW6.out)
  have HRM := Lib.hid (rmayO_any A3 c3 B3 d3 x' w6 HN6.out HTM.out (by have := HXE.out; omega) HXN.out (by have := HXP.out; omega))
  go_wp2_with (refine wpList_load_mid rfl 30 _ rfl w.heap.size 0 rfl (encO A3 c3 B3 d3 x') _ HRX6.out Tryz.underlying30 rfl HXL.out ?_)
  refine HRM.out.mono ?_
  rintro e w7 ⟨rfl, hb⟩
  have HB7 := Lib.hid (HB6.out.trans (hb.mono HB6.out.size))
  have HW7 := Lib.hid (HW6.out.below hb HW6.out.lt)
  have HV7 := Lib.hid (HV6.out.below hb HV6.out.lt)
  have HN7 := Lib.hid (HN6.out.later hb)
  have HM7 := Lib.hid (HM6.out.later hb)
  have HRX7 := Lib.hid (whole_range HW7.out)
  have hpt := oput_any A3 c3 B3 d3 x' w7 HN7.out HTM.out (by have := HXE.out; omega)
  obtain ⟨T, hT⟩ : ∃ T, T = if mayO' x' then bytesO x' else [] := ⟨_, rfl⟩
  rw [← hT] at hpt
  have HPT := Lib.hid hpt
  have HTT := Lib.hid hT
  clear hpt hT
  clear hb HRM HB6 HW6 HV6 HN6 HM6 HRX6 hg6
  go_wp2_with (refine wpList_load_mid rfl 30 _ rfl w.heap.size 0 rfl (encO A3 c3 B3 d3 x') _ HRX7.out Tryz.underlying30 rfl HXL.out ?_)
  refine HPT.out.mono ?_
  rintro e w8 ⟨rfl, hb⟩
  have HB8 := Lib.hid (HB7.out.trans (hb.mono HB7.out.size))
  have HW8 := Lib.hid (HW7.out.below hb HW7.out.lt)
  have HV8 := Lib.hid (HV7.out.below hb HV7.out.lt)
  have HN8 := Lib.hid (HN7.out.later hb)
  have HM8 := Lib.hid (HM7.out.later hb)
  have HRX8 := Lib.hid (whole_range HW8.out)
  have HID := Lib.hid (oid_any A3 c3 B3 d3 x' w8 HN8.out HTM.out (by have := HXE.out; omega) (HE0.out.at_ HB8.out).tabs (HT0.out.below HB8.out) (fun h => by have := bytesO_le x' h; omega))
  clear hb HPT HB7 HW7 HV7 HN7 HM7 HRX7
  go_wp2_with (refine wpList_load_mid rfl 30 _ rfl w.heap.size 0 rfl (encO A3 c3 B3 d3 x') _ HRX8.out Tryz.underlying30 rfl HXL.out ?_)
  refine HID.out.mono ?_
  rintro e w9 ⟨rfl, hb⟩
  have HB9 := Lib.hid (HB8.out.trans (hb.mono HB8.out.size))
  have HW9 := Lib.hid (HW8.out.below hb HW8.out.lt)
  have HV9 := Lib.hid (HV8.out.below hb HV8.out.lt)
  have HN9 := Lib.hid (HN8.out.later hb)
  have HM9 := Lib.hid (HM8.out.later hb)
  have HIX := Lib.hid (infoXs (idO x'))
  have HIL := Lib.hid (infoX (idO x'))
  have HIA := Lib.hid (encN_all (idO x'))
  have HIS := Lib.hid (encN_size (idO x'))
  clear hb HID HB8 HW8 HV8 HN8 HM8 HRX8
  go_upto_region 8 with (refine wpList_store_whole rfl 24 _ _ rfl w9.heap.size (encN (idO x')).toArray rfl rfl 24 _ (Whole.made w9 _ _) HIX.out (by rw [HIS.out]; kernel_rfl) HIA.out ?_; intro w10 hWn hGn; have HI10 := Lib.hid hWn; have HD10 := Lib.hid (made_below' hGn); clear hWn hGn)
  have HB10 := Lib.hid (HB9.out.trans (HD10.out.mono HB9.out.size))
  have HW10 := Lib.hid (HW9.out.below HD10.out HW9.out.lt)
  have HV10 := Lib.hid (HV9.out.below HD10.out HV9.out.lt)
  have HN10 := Lib.hid (HN9.out.later HD10.out)
  have HM10 := Lib.hid (HM9.out.later HD10.out)
  clear HB9 HW9 HV9 HN9 HM9 HD10 HIX HIA HIS
  generalize w9.heap.size = g9 at *
  have HLX : Hid (∀ W, Below w10.heap.size w10 W → W.rangeAt w.heap.size 0 (encO A3 c3 B3 d3 x')) := fun W h => whole_range (HW10.out.below h HW10.out.lt)
  have HLY : Hid (∀ W, Below w10.heap.size w10 W → W.rangeAt (w.heap.size + 1) 0 (encO A4 c4 B4 d4 y')) := fun W h => whole_range (HV10.out.below h HV10.out.lt)
  have HMY := Lib.hid fun W (h : Below w10.heap.size w10 W) => omay_any A3 c3 B3 d3 x' W (HN10.out.later h) HTM.out (by have := HXE.out; omega)
  have HCQ := Lib.hid fun W (h : Below w10.heap.size w10 W) => oeq_any A3 c3 B3 d3 x' A4 c4 B4 d4 y' W (HN10.out.later h) (HM10.out.later h)
  have HRQ := Lib.hid fun W (h : Below w10.heap.size w10 W) => reqO_any A3 c3 B3 d3 x' A4 c4 B4 d4 y' W (HN10.out.later h) (HM10.out.later h) (by have := HXE.out; omega) (by have := HXP.out; omega)
  obtain ⟨qe, hqe⟩ : ∃ qe, qe = eqO x' y' := ⟨_, rfl⟩
  rw [← hqe] at HCQ HRQ
  obtain ⟨lx, hlx⟩ : ∃ lx, lx = encO A3 c3 B3 d3 x' := ⟨_, rfl⟩
  obtain ⟨ly, hly⟩ : ∃ ly, ly = encO A4 c4 B4 d4 y' := ⟨_, rfl⟩
  rw [← hlx] at HLX HXL HMY HCQ HRQ
  rw [← hly] at HLY HYL HCQ HRQ
  have HLE := Lib.hid hlx
  clear hqe hly hlx
  cases hmv : mayO' x'
  all_goals
    rw [hmv] at HMY
    go_wp2_with fail
    refine wp_region_quiet_below (by kernel_rfl) (by kernel_rfl) ?_
    repeat (first
      | go_big_quiet_step ((first
        | (go_at_call 11; exact Calls.regrown_of (HMY.out _ (below_regrown _ _ _)))
        | (go_at_call 12; exact Calls.regrown_of (HCQ.out _ (below_regrown _ _ _)))
        | (go_at_call 13; exact Calls.regrown_of (HRQ.out _ (below_regrown _ _ _)))))
      | (refine q_loadm _ _ rfl (by rfl) w.heap.size 0 lx rfl _ Tryz.underlying30 rfl HXL.out (fun W hC => HLX.out W (below_clsB hC)) ?_; simp only [Act.put]; go_simp)
      | (refine q_loadm _ _ rfl (by rfl) (w.heap.size + 1) 0 ly rfl _ Tryz.underlying30 rfl HYL.out (fun W hC => HLY.out W (below_clsB hC)) ?_; simp only [Act.put]; go_simp))
    refine wpQuiet_nil ?_
    intro pp
    have HB11 := Lib.hid (HB10.out.trans ((below_regrown w10 pp.d pp.os).mono HB10.out.size))
    have HW11 := Lib.hid (HW10.out.below (below_regrown w10 pp.d pp.os) HW10.out.lt)
    have HI11 := Lib.hid (HI10.out.below (below_regrown w10 pp.d pp.os) HI10.out.lt)
    have HN11 := Lib.hid (HN10.out.later (below_regrown w10 pp.d pp.os))
    clear HMY HCQ HRQ HLX HLY HB10 HW10 HV10 HN10 HM10 HI10
    generalize Sort.grow (redrawn w10 pp.d) pp.os = w11 at *
  case false =>
    have HBT := HB11
    clear HB11 HW11 HI11 HN11 HXL HYL HIL HLE HTT hmv
    have HGA := Lib.hid (ogetO_any k s' w11 (by omega))
    go_wp2_with fail
    refine HGA.out.mono ?_
    rintro e w20 ⟨⟨A5, c5, B5, d5, rfl, ha⟩, hb⟩
    have HB20 := Lib.hid (HBT.out.trans (hb.mono HBT.out.size))
    have HQ20 := Lib.hid ha
    have HQI := Lib.hid (infoO_s A5 c5 B5 d5 (getOb k s').1)
    have HQL := Lib.hid (infoO_l A5 c5 B5 d5 (getOb k s').1)
    have HQA := Lib.hid (encO_all A5 c5 B5 d5 (getOb k s').1)
    have HQS := Lib.hid (encO_s A5 c5 B5 d5 (getOb k s').1)
    clear hb ha HGA
    go_upto_region 15 with (refine wpList_store_whole rfl 30 _ _ rfl w20.heap.size (encO A5 c5 B5 d5 (getOb k s').1).toArray rfl rfl 30 _ (Whole.made w20 _ _) HQI.out (by rw [HQS.out]; kernel_rfl) HQA.out ?_; intro w21 hWn hGn; have HX21 := Lib.hid hWn; have HD21 := Lib.hid (made_below' hGn); clear hWn hGn)
    have HB21 := Lib.hid (HB20.out.trans (HD21.out.mono HB20.out.size))
    have HQ21 := Lib.hid (HQ20.out.later HD21.out)
    clear HB20 HQ20 HD21 HQI HQA HQS HBT
    generalize w20.heap.size = g20 at *
    have HGB := Lib.hid (rgetO_any k s' w21 (by omega))
    go_wp2_with fail
    refine HGB.out.mono ?_
    rintro e w22 ⟨⟨A6, c6, B6, d6, rfl, ha⟩, hb⟩
    have HB22 := Lib.hid (HB21.out.trans (hb.mono HB21.out.size))
    have HQ22 := Lib.hid (HQ21.out.later hb)
    have HX22 := Lib.hid (HX21.out.below hb HX21.out.lt)
    have HZ22 := Lib.hid ha
    have HZI := Lib.hid (infoO_s A6 c6 B6 d6 (getOb k s').1)
    have HZL := Lib.hid (infoO_l A6 c6 B6 d6 (getOb k s').1)
    have HZA := Lib.hid (encO_all A6 c6 B6 d6 (getOb k s').1)
    have HZS := Lib.hid (encO_s A6 c6 B6 d6 (getOb k s').1)
    clear hb ha HGB HB21 HQ21 HX21
    go_upto_region 16 with (refine wpList_store_whole rfl 30 _ _ rfl w22.heap.size (encO A6 c6 B6 d6 (getOb k s').1).toArray rfl rfl 30 _ (Whole.made w22 _ _) HZI.out (by rw [HZS.out]; kernel_rfl) HZA.out ?_; intro w23 hWn hGn; have HY23 := Lib.hid hWn; have HD23 := Lib.hid (made_below' hGn); clear hWn hGn)
    have HB23 := Lib.hid (HB22.out.trans (HD23.out.mono HB22.out.size))
    have HRX := Lib.hid (whole_range (HX22.out.below HD23.out HX22.out.lt))
    have HRY := Lib.hid (whole_range HY23.out)
    have hle := getOb_le k s'
    have heq := reqO_any A5 c5 B5 d5 (getOb k s').1 A6 c6 B6 d6 (getOb k s').1 w23 (HQ22.out.later HD23.out) (HZ22.out.later HD23.out) hle.1 hle.2
    rw [eqO_refl] at heq
    have HEQ := Lib.hid heq
    clear heq hle HB22 HQ22 HX22 HZ22 HD23 HY23 HZI HZA HZS
    generalize w22.heap.size = g22 at *
    generalize (getOb k s').1 = q at *
    generalize (getOb k s').2 = qc at *
    go_wp2_with (first
      | (refine wpList_load_mid_on 30 _ rfl g20 0 rfl (by rfl) (encO A5 c5 B5 d5 q) _ HRX.out Tryz.underlying30 rfl HQL.out ?_)
      | (refine wpList_load_mid_on 30 _ rfl g22 0 rfl (by rfl) (encO A6 c6 B6 d6 q) _ HRY.out Tryz.underlying30 rfl HZL.out ?_))
    refine HEQ.out.mono ?_
    rintro e w24 ⟨rfl, hb⟩
    have HB24 := Lib.hid (HB23.out.trans (hb.mono HB23.out.size))
    clear hb
    go_wp2
    go_ret
    exact ⟨rfl, HB24.out⟩
  case true =>
    have HMV := Lib.hid hmv
    have hTe : bytesO x' = T := by rw [HTT.out, hmv, if_pos rfl]
    have hbl := bytesO_le x' hmv
    obtain ⟨x2, hgo, hqo⟩ := getOb_put x' hmv HTM.out
    rw [hTe] at hbl hgo
    have HQO := Lib.hid hqo
    have hg := ogetO_any x'.kind T w11 (by omega)
    rw [hgo] at hg
    have HG := Lib.hid hg
    have e0 := (HW11.out.at_ 0).trans (encO_0 A3 c3 B3 d3 x')
    have HRP : Hid (∀ W, ArgO W A3 c3 B3 d3 x' → Calls Tryz.prog 15 #[.agg (encO A3 c3 B3 d3 x').toArray] W fun e w' => e = .returned (.string ⟨T.toArray⟩) ∧ Below W.heap.size W w') := fun W h => by rw [← hTe]; exact rputO_any A3 c3 B3 d3 x' W h HTM.out HMV.out
    clear hmv hgo hqo hg hTe HTT
    go_wp2_with fail
    refine HG.out.mono ?_
    rintro e w12 ⟨⟨A7, c7, B7, d7, rfl, ha⟩, hb⟩
    have HB12 := Lib.hid (HB11.out.trans (hb.mono HB11.out.size))
    have HW12 := Lib.hid (HW11.out.below hb HW11.out.lt)
    have HI12 := Lib.hid (HI11.out.below hb HI11.out.lt)
    have HN12 := Lib.hid (HN11.out.later hb)
    have HP12 := Lib.hid ha
    have HPI := Lib.hid (infoO_s A7 c7 B7 d7 x2)
    have HPL := Lib.hid (infoO_l A7 c7 B7 d7 x2)
    have HPA := Lib.hid (encO_all A7 c7 B7 d7 x2)
    have HPS := Lib.hid (encO_s A7 c7 B7 d7 x2)
    clear hb ha HG HB11 HW11 HI11 HN11 e0
    go_upto_region 12 with (refine wpList_store_whole rfl 30 _ _ rfl w12.heap.size (encO A7 c7 B7 d7 x2).toArray rfl rfl 30 _ (Whole.made w12 _ _) HPI.out (by rw [HPS.out]; kernel_rfl) HPA.out ?_; intro w13 hWn hGn; have HX13 := Lib.hid hWn; have HD13 := Lib.hid (made_below' hGn); clear hWn hGn)
    have HB13 := Lib.hid (HB12.out.trans (HD13.out.mono HB12.out.size))
    have HW13 := Lib.hid (HW12.out.below HD13.out HW12.out.lt)
    have HI13 := Lib.hid (HI12.out.below HD13.out HI12.out.lt)
    have HN13 := Lib.hid (HN12.out.later HD13.out)
    have HP13 := Lib.hid (HP12.out.later HD13.out)
    clear HB12 HW12 HI12 HN12 HP12 HD13 HPI HPA HPS
    generalize w12.heap.size = g12 at *
    have HLX : Hid (∀ W, Below w13.heap.size w13 W → W.rangeAt w.heap.size 0 lx) := fun W h => by rw [HLE.out]; exact whole_range (HW13.out.below h HW13.out.lt)
    have HLI : Hid (∀ W, Below w13.heap.size w13 W → W.rangeAt g9 0 (encN (idO x'))) := fun W h => whole_range (HI13.out.below h HI13.out.lt)
    have HLP : Hid (∀ W, Below w13.heap.size w13 W → W.rangeAt g12 0 (encO A7 c7 B7 d7 x2)) := fun W h => whole_range (HX13.out.below h HX13.out.lt)
    have HC1 : Hid (∀ W, Below w13.heap.size w13 W → Calls Tryz.prog 15 #[.agg lx.toArray] W fun e w' => e = .returned (.string ⟨T.toArray⟩) ∧ Below W.heap.size W w') := fun W h => by rw [HLE.out]; exact HRP.out W (HN13.out.later h)
    have HC2 : Hid (∀ W, Below w13.heap.size w13 W → Calls Tryz.prog 16 #[.agg lx.toArray] W fun e w' => e = .returned (.agg (encN (idO x')).toArray) ∧ Below W.heap.size W w') := fun W h => by rw [HLE.out]; exact ridO_any A3 c3 B3 d3 x' W (HN13.out.later h) HTM.out HMV.out
    have HC3 : Hid (∀ W, Below w13.heap.size w13 W → Calls Tryz.prog 12 #[.agg (encO A7 c7 B7 d7 x2).toArray, .agg lx.toArray] W fun e w' => e = .returned (.bool true) ∧ Below W.heap.size W w') := fun W h => by rw [HLE.out, ← HQO.out]; exact oeq_any A7 c7 B7 d7 x2 A3 c3 B3 d3 x' W (HP13.out.later h) (HN13.out.later h)
    have HC4 : Hid (∀ W, Below w13.heap.size w13 W → Calls Tryz.prog 18 #[.agg lx.toArray] W fun e w' => OwnL W.heap.size (linksO x') e w' ∧ Below W.heap.size W w') := fun W h => by rw [HLE.out]; exact olinksP_any A3 c3 B3 d3 x' W (HN13.out.later h) HMV.out
    have HC5 : Hid (∀ W, Below w13.heap.size w13 W → Calls Tryz.prog 19 #[.agg lx.toArray] W fun e w' => OwnL W.heap.size (linksO x') e w' ∧ Below W.heap.size W w') := fun W h => by rw [HLE.out]; exact rlinks_any A3 c3 B3 d3 x' W (HN13.out.later h) (by have := HXE.out; omega) (by have := HXP.out; omega)
    have HLL : Hid ((linksO x').length ≤ 1048576) := by
      show _ ≤ _
      have h1 := HXE.out
      have h2 := HXP.out
      unfold linksO idsE
      split
      · simp; omega
      · simp; omega
    have hnq : ∀ W, (binOp .neq 24 (.agg (encN (idO x')).toArray) (.agg (encN (idO x')).toArray)).run Tryz.prog W = .ok (.bool false) W := fun W => by rw [neq_nm]; simp
    clear HW13 HI13 HX13 HN13 HP13 HRP HLE HMV HTM HQO
    generalize encN (idO x') = li at *
    generalize encO A7 c7 B7 d7 x2 = lp at *
    generalize linksO x' = ls at *
    go_wp2_with fail
    refine wp_region_headG (C := fun w' => ∃ p : Regrown, w' = Sort.grow (redrawn w13 p.d) p.os) 21 (Array.replicate 21 true ++ Array.replicate 7 false) (by kernel_rfl) (by kernel_rfl) ⟨⟨w13.drawn + 1, #[]⟩, by rw [Sort.grow_empty]; rfl⟩ ?_
    simp only [List.take_succ_cons, List.take_zero]
    go_simp
    repeat (first
      | go_big_quiet_step ((first
        | (go_at_call 15; exact Calls.regrown_of (HC1.out _ (below_regrown _ _ _)))
        | (go_at_call 16; exact Calls.regrown_of (HC2.out _ (below_regrown _ _ _)))
        | (go_at_call 12; exact Calls.regrown_of (HC3.out _ (below_regrown _ _ _)))))
      | (refine q_loadm _ _ rfl (by rfl) w.heap.size 0 lx rfl _ Tryz.underlying30 rfl HXL.out (fun W hC => HLX.out W (below_clsB hC)) ?_; simp only [Act.put]; go_simp)
      | (refine q_loadm _ _ rfl (by rfl) g9 0 li rfl _ Tryz.underlying24 rfl HIL.out (fun W hC => HLI.out W (below_clsB hC)) ?_; simp only [Act.put]; go_simp)
      | (refine q_loadm _ _ rfl (by rfl) g12 0 lp rfl _ Tryz.underlying30 rfl HPL.out (fun W hC => HLP.out W (below_clsB hC)) ?_; simp only [Act.put]; go_simp))
    refine wpQuiet_nil ?_
    intro p
    have hq := below_regrown w13 p.d p.os
    generalize Sort.grow (redrawn w13 p.d) p.os = wq at *
    have hS := HLX.out wq hq
    refine wpAny_of_K (S := fun W => W.rangeAt w.heap.size 0 lx) (k := 24) _ _ _ _ ?_
    refine wpAnyK_take (i := 23) (oi := _) (v := .agg lx.toArray) rfl (by kernel_rfl) (fun _ _ _ h => h) (yieldsIf_load_mid (by rfl) _ _ rfl w.heap.size 0 rfl lx _ (fun W hW => hW) Tryz.underlying30 rfl HXL.out) hS ?_
    simp only [Act.put]
    go_simp
    refine wpAnyK_ready (rs := [21]) (by kernel_rfl) (by simp) ?_
    refine AllReadyK.cons (o := _) rfl (fun K hK => ?_) AllReadyK.nil
    rw [if_pos (by rfl)]
    refine wp_load_mid 30 _ rfl w.heap.size 0 rfl lx _ hS Tryz.underlying30 rfl HXL.out ?_
    refine hK _ _ (fun _ => hS) ?_
    clear hK K
    refine wpAnyK_ready (rs := [22]) (by kernel_rfl) (by simp) ?_
    refine AllReadyK.cons (o := _) rfl (fun K hK => ?_) AllReadyK.nil
    rw [if_pos (by rfl)]
    simp only [Act.put]
    go_simp
    refine (HC4.out wq hq).mono ?_
    rintro e w14 ⟨⟨A8, c8, rfl, har, -⟩, hb⟩
    have hq14 := hq.trans (hb.mono hq.size)
    have hS14 := HLX.out w14 hq14
    refine hK _ _ (fun _ => hS14) ?_
    clear hK K hb hS hq
    refine wpAnyK_ready (rs := [24]) (by kernel_rfl) (by simp) ?_
    refine AllReadyK.cons (o := _) rfl (fun K hK => ?_) AllReadyK.nil
    rw [if_pos (by rfl)]
    try simp only [Act.put]
    go_simp
    refine (HC5.out w14 hq14).mono ?_
    rintro e w15 ⟨⟨A9, c9, rfl, har9, -⟩, hb⟩
    have hq15 := hq14.trans (hb.mono hq14.size)
    have HLQ := Lib.hid (req2_nm A8 c8 A9 c9 ls ls w15 (har.later hb) har9 HLL.out)
    rw [decide_eq_true (rfl : ls = ls)] at HLQ
    refine hK _ _ (fun h => by cases h) ?_
    clear hK K hb har har9 hS14 hq14
    refine wpAnyK_ready (rs := [25]) (by kernel_rfl) (by simp) ?_
    refine AllReadyK.cons (o := _) rfl (fun K hK => ?_) AllReadyK.nil
    rw [if_pos (by rfl)]
    try simp only [Act.put]
    go_simp
    refine HLQ.out.mono ?_
    rintro e w16 ⟨rfl, nq, rfl⟩
    have HBT := Lib.hid (HB13.out.trans ((be_drewN hq15 nq).mono HB13.out.size))
    generalize w15.drewN nq = w16 at *
    refine hK _ _ (fun h => by cases h) ?_
    clear hK K hq15 HLQ
    refine wpAnyK_ready (rs := [26]) (by kernel_rfl) (by simp) ?_
    refine AllReadyK.cons (o := _) rfl (fun K hK => ?_) AllReadyK.nil
    rw [if_pos (by rfl)]
    try simp only [Act.put]
    go_simp
    refine hK _ _ (fun h => by cases h) ?_
    clear hK K
    refine wpAnyK_ready (rs := [27]) (by kernel_rfl) (by simp) ?_
    refine AllReadyK.cons (o := _) rfl (fun K hK => ?_) AllReadyK.nil
    rw [if_pos (by rfl)]
    try simp only [Act.put]
    go_simp
    refine hK _ _ (fun h => by cases h) ?_
    clear hK K
    refine wpAnyK_done (by kernel_rfl) ?_ _
    clear HLX HLI HLP HC1 HC2 HC3 HC4 HC5 HLL hnq HB13 HXL HYL HIL HPL
    have HGA := Lib.hid (ogetO_any k s' w16 (by omega))
    go_wp2_with fail
    refine HGA.out.mono ?_
    rintro e w20 ⟨⟨A5, c5, B5, d5, rfl, ha⟩, hb⟩
    have HB20 := Lib.hid (HBT.out.trans (hb.mono HBT.out.size))
    have HQ20 := Lib.hid ha
    have HQI := Lib.hid (infoO_s A5 c5 B5 d5 (getOb k s').1)
    have HQL := Lib.hid (infoO_l A5 c5 B5 d5 (getOb k s').1)
    have HQA := Lib.hid (encO_all A5 c5 B5 d5 (getOb k s').1)
    have HQS := Lib.hid (encO_s A5 c5 B5 d5 (getOb k s').1)
    clear hb ha HGA
    go_upto_region 15 with (refine wpList_store_whole rfl 30 _ _ rfl w20.heap.size (encO A5 c5 B5 d5 (getOb k s').1).toArray rfl rfl 30 _ (Whole.made w20 _ _) HQI.out (by rw [HQS.out]; kernel_rfl) HQA.out ?_; intro w21 hWn hGn; have HX21 := Lib.hid hWn; have HD21 := Lib.hid (made_below' hGn); clear hWn hGn)
    have HB21 := Lib.hid (HB20.out.trans (HD21.out.mono HB20.out.size))
    have HQ21 := Lib.hid (HQ20.out.later HD21.out)
    clear HB20 HQ20 HD21 HQI HQA HQS HBT
    generalize w20.heap.size = g20 at *
    have HGB := Lib.hid (rgetO_any k s' w21 (by omega))
    go_wp2_with fail
    refine HGB.out.mono ?_
    rintro e w22 ⟨⟨A6, c6, B6, d6, rfl, ha⟩, hb⟩
    have HB22 := Lib.hid (HB21.out.trans (hb.mono HB21.out.size))
    have HQ22 := Lib.hid (HQ21.out.later hb)
    have HX22 := Lib.hid (HX21.out.below hb HX21.out.lt)
    have HZ22 := Lib.hid ha
    have HZI := Lib.hid (infoO_s A6 c6 B6 d6 (getOb k s').1)
    have HZL := Lib.hid (infoO_l A6 c6 B6 d6 (getOb k s').1)
    have HZA := Lib.hid (encO_all A6 c6 B6 d6 (getOb k s').1)
    have HZS := Lib.hid (encO_s A6 c6 B6 d6 (getOb k s').1)
    clear hb ha HGB HB21 HQ21 HX21
    go_upto_region 16 with (refine wpList_store_whole rfl 30 _ _ rfl w22.heap.size (encO A6 c6 B6 d6 (getOb k s').1).toArray rfl rfl 30 _ (Whole.made w22 _ _) HZI.out (by rw [HZS.out]; kernel_rfl) HZA.out ?_; intro w23 hWn hGn; have HY23 := Lib.hid hWn; have HD23 := Lib.hid (made_below' hGn); clear hWn hGn)
    have HB23 := Lib.hid (HB22.out.trans (HD23.out.mono HB22.out.size))
    have HRX := Lib.hid (whole_range (HX22.out.below HD23.out HX22.out.lt))
    have HRY := Lib.hid (whole_range HY23.out)
    have hle := getOb_le k s'
    have heq := reqO_any A5 c5 B5 d5 (getOb k s').1 A6 c6 B6 d6 (getOb k s').1 w23 (HQ22.out.later HD23.out) (HZ22.out.later HD23.out) hle.1 hle.2
    rw [eqO_refl] at heq
    have HEQ := Lib.hid heq
    clear heq hle HB22 HQ22 HX22 HZ22 HD23 HY23 HZI HZA HZS
    generalize w22.heap.size = g22 at *
    generalize (getOb k s').1 = q at *
    generalize (getOb k s').2 = qc at *
    go_wp2_with (first
      | (refine wpList_load_mid_on 30 _ rfl g20 0 rfl (by rfl) (encO A5 c5 B5 d5 q) _ HRX.out Tryz.underlying30 rfl HQL.out ?_)
      | (refine wpList_load_mid_on 30 _ rfl g22 0 rfl (by rfl) (encO A6 c6 B6 d6 q) _ HRY.out Tryz.underlying30 rfl HZL.out ?_))
    refine HEQ.out.mono ?_
    rintro e w24 ⟨rfl, hb⟩
    have HB24 := Lib.hid (HB23.out.trans (hb.mono HB23.out.size))
    clear hb
    go_wp2
    go_ret
    exact ⟨rfl, HB24.out⟩
end Go.Proofs.YtfaijkgfhdhhbaaGreatDoor

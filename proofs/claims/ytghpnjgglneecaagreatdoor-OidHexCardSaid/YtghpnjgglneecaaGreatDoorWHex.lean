/-
  OidHex, walked.
-/
import Derived.Test.YtghpnjgglneecaaGreatDoorRGet
import Derived.Test.YtghpnjgglneecaaGreatDoorOHexM
import Derived.Test.YtghpnjgglneecaaGreatDoorArg
import Derived.Test.YtghpnjgglneecaaGreatDoorEql
import Derived.Test.YtghpnjgglneecaaGreatDoorQTail
import Derived.Deep.MidRow
namespace Go.Proofs.YtghpnjgglneecaaGreatDoor
open Go.RowKit
theorem getId_len (p : List UInt8) : (getId p).1.length = 32 := by
  unfold getId
  split
  · exact idl_len p 64
  · exact List.length_replicate
theorem ex_to (l : List UInt8) (n : Nat) : (ByteArray.mk l.toArray).extract 0 n = ⟨(l.take n).toArray⟩ := by
  rw [ByteArray.extract_mk]
  simp
set_option maxRecDepth 100000 in
set_option maxHeartbeats 4000000 in
theorem ohex_any (id : List UInt8) (at_ : Int) (b : UInt8) (w : World) (hE : Env w) (hid : id.length = 32) (ha1 : -9223372036854775808 ≤ at_) (ha2 : at_ ≤ 9223372036854775807) : Calls Tryz.prog 9 #[.agg (id.map Y).toArray, .int .i64 at_, .int .u8 (b.toNat : Int)] w fun e w' => e = .returned (.bool true) ∧ Below w.heap.size w w' := by
  have HE := Lib.hid hE
  have HID := Lib.hid hid
  have hhl : (hexOf id).length = 64 := by rw [hexOf_len, hid]
  have HHL := Lib.hid hhl
  have HHX := Lib.hid fun W => hex_any id W hid
  have hcsz : ((id.map Y).toArray).size = 32 := by simp [hid]
  have HI : Hid ((Tryz.prog.info? 43).map (·.size) = some ((id.map Y).toArray).size) := by show _ = _; rw [hcsz]; kernel_rfl
  clear hE hid hcsz
  obtain ⟨cs, hcs⟩ : ∃ cs, cs = (id.map Y).toArray := ⟨_, rfl⟩
  have HCS := Lib.hid hcs
  rw [← hcs] at HHX HI
  rw [← hcs]
  clear hcs
  obtain ⟨s, hs⟩ : ∃ s, s = hexOf id := ⟨_, rfl⟩
  have HSS := Lib.hid hs
  rw [← hs] at HHX HHL hhl
  clear hs
  go_enter Tryz.func9, Tryz.ntmps9
  go_wp2_with fail
  have hB0 := (Below.refl w.heap.size w).alloc (Nat.le_refl _) (.cells cs 43)
  have hW0 := Whole.made w 43 cs
  refine (begun_any _ (HE.out.at_ hB0)).mono ?_
  rintro e w1 ⟨rfl, hB⟩
  have HW1 := Lib.hid (hW0.below hB hW0.lt)
  have HB1 := Lib.hid (hB0.trans (hB.mono (by simp)))
  clear hB hB0 hW0
  go_wp2_with (refine wpList_load_row rfl 43 _ rfl w.heap.size rfl 43 cs (0, 0) _ HW1.out Tryz.underlying43 rfl HI.out ?_)
  refine (HHX.out _).mono ?_
  rintro e w2 ⟨rfl, hB⟩
  have HW2 := Lib.hid (HW1.out.below hB HW1.out.lt)
  have HB2 := Lib.hid (HB1.out.trans (hB.mono HB1.out.size))
  clear hB
  have hn : ((s.length : Int) != 64) = false := by simp [hhl]
  by_cases hneg : at_ < 0
  · have hd : decide (at_ < 0) = true := by simp; omega
    go_wp2_with fail
    go_ret
    exact ⟨rfl, HB2.out⟩
  · have hd : decide (at_ < 0) = false := by simp; omega
    have hm : at_.tmod 64 = ((at_.toNat % 64 : Nat) : Int) := by rw [Int.tmod_eq_emod_of_nonneg (by omega)]; omega
    have hi0 : (0 : Int) ≤ ((at_.toNat % 64 : Nat) : Int) := by omega
    have hi1 : ((at_.toNat % 64 : Nat) : Int) < 64 := by omega
    have hi2 : at_.toNat % 64 < 64 := by omega
    have hbb : b.toNat < 256 := b.toNat_lt
    clear hneg
    generalize at_.toNat % 64 = i at *
    go_wp2_with (refine wpList_of_string rfl 9 22 5 _ rfl ⟨s.toArray⟩ s rfl rfl Tryz.underlying9 Tryz.underlying22 Tryz.underlying5 (by rw [HHL.out]; unfold maxLen; omega) ?_; intro w3 c hby hzz hbe hsz; have HBY := Lib.hid hby; have HZ := Lib.hid hzz; have HBE := Lib.hid hbe; have hci := Bytes.cellAt hby (show i < s.length by omega); have hzi := hzz i (by omega); rw [Nat.zero_add] at hci; clear hby hzz hbe)
    have hpl : (s.set i b).length = 64 := by rw [List.length_set, HHL.out]
    obtain ⟨hc1, hc2⟩ : s.length ≤ c ∧ c ≤ maxLen := by
      obtain ⟨A9, c9, e9, hc1, hc2, -⟩ := HBY.out
      injection e9 with e91 e92 e93
      subst e93
      exact ⟨hc1, hc2⟩
    have hcl : ∀ j, j < 64 → w3.cell? ⟨w2.heap.size, j, none⟩ = some (Y (s.getD j 0)) := fun j hj => by
      have := HBY.out.cellAt (show j < s.length by rw [HHL.out]; exact hj)
      rwa [Nat.zero_add] at this
    have hby4 : Bytes (w3.setCell ⟨w2.heap.size, i, none⟩ (.int .u8 (b.toNat : Int))) (.slice (some ⟨w2.heap.size, 0, none⟩) 64 c) (s.set i b) := by
      refine ⟨_, c, by rw [hpl], by rw [hpl]; rw [HHL.out] at hc1; exact hc1, hc2, fun _ => ⟨_, _, rfl, fun j hj => ?_⟩⟩
      rw [hpl] at hj
      rw [Nat.zero_add]
      by_cases hji : j = i
      · subst hji
        rw [World.cell?_setCell_same _ _ _ (hcl j hj), List.getD_eq_getElem?_getD, List.getElem?_set_self (by rw [HHL.out]; exact hj)]
        rfl
      · have hfar := Nat.lt_or_gt_of_ne hji
        rw [World.cell?_setCell_other _ _ _ _ (by rcases hfar with h | h; first | exact far_at _ _ _ h | exact (far_at _ _ _ h).symm; first | exact far_at _ _ _ h | exact (far_at _ _ _ h).symm), hcl j hj]
        rw [List.getD_eq_getElem?_getD, List.getD_eq_getElem?_getD, List.getElem?_set_ne (fun e => hji e.symm)]
    have hlt2 : w.heap.size < w2.heap.size := HW2.out.lt
    have HB4 := Lib.hid ((HB2.out.trans (HBE.out.mono HB2.out.size)).setCell (p := ⟨w2.heap.size, i, none⟩) (Nat.le_of_lt hlt2) (.int .u8 (b.toNat : Int)))
    have HW4 := Lib.hid ((HW2.out.below HBE.out hlt2).aside (p := ⟨w2.heap.size, i, none⟩) (Nat.ne_of_lt hlt2) (.int .u8 (b.toNat : Int)))
    generalize w3.setCell ⟨w2.heap.size, i, none⟩ (.int .u8 (b.toNat : Int)) = w4 at *
    have HBY4 := Lib.hid hby4
    have hcv : ∀ W, Below w4.heap.size w4 W → (convert 22 9 (.slice (some ⟨w2.heap.size, 0, none⟩) 64 c)).run Tryz.prog W = .ok (.string ⟨(s.set i b).toArray⟩) W := fun W hW => bytes_str 22 9 5 Tryz.underlying22 Tryz.underlying5 Tryz.underlying9 (hby4.below hW (Nat.le_refl _))
    have HCV := Lib.hid hcv
    have hcv4 := hcv w4 (Below.refl _ _)
    have HOG := Lib.hid fun W => oget_64 (s.set i b) W hpl
    have HRG := Lib.hid fun W => rgetid_64 (s.set i b) W hpl
    clear hby4 hcl hci hzi hc1 hc2 hcv hsz hi0 hi1 hi2 hbb hd hm hn ha1 ha2
    generalize s.set i b = p at *
    rw [hcv4]
    go_simp
    go_wp2_with fail
    refine (HOG.out _).mono ?_
    rintro e w5 ⟨rfl, hB5⟩
    have HB5 := Lib.hid hB5
    clear hB5
    obtain ⟨xs, hxs⟩ : ∃ xs, xs = (getId p).1 := ⟨_, rfl⟩
    have hxl : xs.length = 32 := by rw [hxs]; exact getId_len p
    rw [← hxs]
    have HXS := Lib.hid hxs
    have HXL := Lib.hid hxl
    obtain ⟨xc, hxc⟩ : ∃ xc, xc = (xs.map Y).toArray := ⟨_, rfl⟩
    have hxz : xc.size = 32 := by rw [hxc]; simp [hxl]
    have HXI : Hid ((Tryz.prog.info? 43).map (·.size) = some xc.size) := by show _ = _; rw [hxz]; kernel_rfl
    have HXZ := Lib.hid hxz
    have HX1 : Hid (xc.all (·.oneCell') = true) := by show _ = _; rw [hxc]; exact ys_all _
    rw [← hxc]
    rw [← hxs, ← hxc] at HRG
    have HXC := Lib.hid hxc
    obtain ⟨zc, hzc⟩ : ∃ zc, zc = ((List.replicate 32 (0 : UInt8)).map Y).toArray := ⟨_, rfl⟩
    have hzz : zc.size = 32 := by rw [hzc]; simp
    have HZI : Hid ((Tryz.prog.info? 43).map (·.size) = some zc.size) := by show _ = _; rw [hzz]; kernel_rfl
    have HZZ := Lib.hid hzz
    have HZ1 : Hid (zc.all (·.oneCell') = true) := by show _ = _; rw [hzc]; exact ys_all _
    have hp0 := hhl
    have HO63 := Lib.hid fun W => oget_len (s.take 63) W (by rw [List.length_take]; omega)
    have HO65 := Lib.hid fun W => oget_len (s ++ [48]) W (by rw [List.length_append]; simp; omega)
    rw [← hzc] at HO63 HO65
    have H65 := Lib.hid (ba_append s [48])
    have H63 := Lib.hid (ex_to s 63)
    have HB5t := Lib.hid (HB4.out.trans (HB5.out.mono HB4.out.size))
    have HW5 := Lib.hid (HW4.out.below HB5.out HW4.out.lt)
    have HGB : Hid ((getId p).2 = true → decide (xs = id) = decide (p = s)) := by
      intro hg
      have hgood : good p = true := by
        unfold getId at hg
        by_cases hgd : good p = true
        · exact hgd
        · rw [if_neg hgd] at hg
          cases hg
      have hx : xs = idl p 64 := by
        rw [HXS.out, getId, if_pos hgood]
      rw [hx, HSS.out, decide_eq_decide]
      exact id_is p id hgood
    generalize (getId p).2 = gb at *
    clear hxs hxl hxc hxz hzc hzz hp0
    go_wp2_with (refine wpList_store_whole rfl 43 _ _ rfl w5.heap.size xc rfl rfl 43 _ (Whole.made w5 _ _) HXI.out (by rw [HXZ.out]; kernel_rfl) HX1.out ?_; intro w6 hW6 hG6; have HX6 := Lib.hid hW6; have HG6 := Lib.hid hG6; have hcv6 := HCV.out w6 (be_grown (HB5.out.alloc HB5.out.size _) hG6 (Nat.le_trans HB5.out.size (by simp)) (fun j hj => by injection hj with hj; have := HB5.out.size; omega)); clear hW6 hG6)
    have HB6 := Lib.hid (be_grown (HB5t.out.alloc HB5t.out.size _) HG6.out (Nat.le_trans HB5t.out.size (by simp)) (fun j hj => by injection hj with hj; have := HB5t.out.size; omega))
    have HB46 := Lib.hid (be_grown (HB5.out.alloc HB5.out.size _) HG6.out (Nat.le_trans HB5.out.size (by simp)) (fun j hj => by injection hj with hj; have := HB5.out.size; omega))
    have HW6 := Lib.hid ((HW5.out.past _).grown HG6.out (fun e => by injection e with e; have := HW5.out.lt; omega))
    clear hcv6
    refine (HRG.out _).mono ?_
    rintro e w7 ⟨rfl, hB⟩
    have HB7 := Lib.hid (HB6.out.trans (hB.mono HB6.out.size))
    have HB47 := Lib.hid (HB46.out.trans (hB.mono HB46.out.size))
    have HW7 := Lib.hid (HW6.out.below hB HW6.out.lt)
    have HX7 := Lib.hid (HX6.out.below hB HX6.out.lt)
    clear hB
    go_wp2_with (refine wpList_store_whole rfl 43 _ _ rfl w7.heap.size xc rfl rfl 43 _ (Whole.made w7 _ _) HXI.out (by rw [HXZ.out]; kernel_rfl) HX1.out ?_; intro w8 hWn hGn; have HNw8 := Lib.hid hWn; have HGw8 := Lib.hid hGn; clear hWn hGn)
    have HB78 := Lib.hid (be_grown ((Below.refl w7.heap.size w7).alloc (Nat.le_refl _) _) HGw8.out (by simp) (fun j hj => by injection hj with hj; omega))
    have HB8 := Lib.hid (HB7.out.trans (HB78.out.mono HB7.out.size))
    have HB48 := Lib.hid (HB47.out.trans (HB78.out.mono HB47.out.size))
    have HW8 := Lib.hid (HW7.out.below HB78.out HW7.out.lt)
    have HX8 := Lib.hid (HX7.out.below HB78.out HX7.out.lt)
    rw [H63.out]
    (with_reducible refine (HO63.out _).mono ?_)
    rintro e w9 ⟨rfl, hB⟩
    have HB89 := Lib.hid hB
    clear hB
    go_wp2_with (refine wpList_store_whole rfl 43 _ _ rfl w9.heap.size zc rfl rfl 43 _ (Whole.made w9 _ _) HZI.out (by rw [HZZ.out]; kernel_rfl) HZ1.out ?_; intro w10 hWn hGn; have HNw10 := Lib.hid hWn; have HGw10 := Lib.hid hGn; clear hWn hGn)
    have HB910 := Lib.hid (be_grown ((Below.refl w9.heap.size w9).alloc (Nat.le_refl _) _) HGw10.out (by simp) (fun j hj => by injection hj with hj; omega))
    have HB810 := Lib.hid (HB89.out.trans (HB910.out.mono HB89.out.size))
    rw [show (ByteArray.mk #[48]) = ⟨[48].toArray⟩ from rfl, H65.out]
    (with_reducible refine (HO65.out _).mono ?_)
    rintro e w11 ⟨rfl, hB⟩
    have HB811 := Lib.hid (HB810.out.trans (hB.mono HB810.out.size))
    clear hB
    go_wp2_with (refine wpList_store_whole rfl 43 _ _ rfl w11.heap.size zc rfl rfl 43 _ (Whole.made w11 _ _) HZI.out (by rw [HZZ.out]; kernel_rfl) HZ1.out ?_; intro w12 hWn hGn; have HNw12 := Lib.hid hWn; have HGw12 := Lib.hid hGn; clear hWn hGn)
    have HB1112 := Lib.hid (be_grown ((Below.refl w11.heap.size w11).alloc (Nat.le_refl _) _) HGw12.out (by simp) (fun j hj => by injection hj with hj; omega))
    have HB812 := Lib.hid (HB811.out.trans (HB1112.out.mono HB811.out.size))
    have HB12 := Lib.hid (HB8.out.trans (HB812.out.mono HB8.out.size))
    have HB412 := Lib.hid (HB48.out.trans (HB812.out.mono HB48.out.size))
    have hI := Tryz.underlying43
    have HLX : Hid (∀ W, (∃ n, W = w12.drewN n) → ∀ i, W.cell? ⟨w5.heap.size, i, none⟩ = xc[i]?) := by rintro W ⟨n, rfl⟩ i; exact (HX8.out.below HB812.out HX8.out.lt).at_ i
    have HLY : Hid (∀ W, (∃ n, W = w12.drewN n) → ∀ i, W.cell? ⟨w7.heap.size, i, none⟩ = xc[i]?) := by rintro W ⟨n, rfl⟩ i; exact (HNw8.out.below HB812.out HNw8.out.lt).at_ i
    have HLA : Hid (∀ W, (∃ n, W = w12.drewN n) → ∀ i, W.cell? ⟨w.heap.size, i, none⟩ = cs[i]?) := by rintro W ⟨n, rfl⟩ i; exact (HW8.out.below HB812.out HW8.out.lt).at_ i
    have hcv12 := fun n => HCV.out (w12.drewN n) (be_drewN HB412.out n)
    have hexx : ∀ W, (binOp .eql 43 (.agg xc) (.agg xc)).run Tryz.prog W = .ok (.bool true) W := fun W => by
      have := eql_bytes 43 32 Tryz.underlying43 xs xs HXL.out HXL.out W
      rw [← HXC.out] at this
      rw [this]; simp
    have hexa := fun W => eql_bytes 43 32 Tryz.underlying43 xs id HXL.out HID.out W
    rw [← HXC.out, ← HCS.out] at hexa
    have hes : (p == s) = decide (p = s) := by rw [Bool.eq_iff_iff]; simp
    clear hI
    cases gb
    · clear hexa hes
      refine wp_region_quiet_lit (by kernel_rfl) (by kernel_rfl) ?_
      repeat (first
        | go_big_quiet_step (fail)
        | (refine q_load _ _ rfl (by rfl) w5.heap.size xc rfl _ Tryz.underlying43 rfl HXI.out HLX.out ?_; simp only [Act.put]; go_simp)
        | (refine q_load _ _ rfl (by rfl) w7.heap.size xc rfl _ Tryz.underlying43 rfl HXI.out HLY.out ?_; simp only [Act.put]; go_simp)
        | (refine q_load _ _ rfl (by rfl) w.heap.size cs rfl _ Tryz.underlying43 rfl HI.out HLA.out ?_; simp only [Act.put]; go_simp))
      refine wpQuiet_nil ?_
      intro nq
      go_wp2
      go_ret
      exact ⟨rfl, be_drewN HB12.out nq⟩
    · have hq := HGB.out rfl
      rw [hq] at hexa
      generalize decide (p = s) = qb at *
      clear hq
      cases qb
      all_goals
        refine wp_region_quiet_lit (by kernel_rfl) (by kernel_rfl) ?_
        repeat (first
          | go_big_quiet_step (fail)
          | (refine q_load _ _ rfl (by rfl) w5.heap.size xc rfl _ Tryz.underlying43 rfl HXI.out HLX.out ?_; simp only [Act.put]; go_simp)
          | (refine q_load _ _ rfl (by rfl) w7.heap.size xc rfl _ Tryz.underlying43 rfl HXI.out HLY.out ?_; simp only [Act.put]; go_simp)
          | (refine q_load _ _ rfl (by rfl) w.heap.size cs rfl _ Tryz.underlying43 rfl HI.out HLA.out ?_; simp only [Act.put]; go_simp))
        refine wpQuiet_nil ?_
        intro nq
        go_wp2
        go_ret
        exact ⟨rfl, be_drewN HB12.out nq⟩
end Go.Proofs.YtghpnjgglneecaaGreatDoor

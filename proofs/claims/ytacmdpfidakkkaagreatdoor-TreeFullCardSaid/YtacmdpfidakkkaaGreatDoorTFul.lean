/-
  TreeFull, walked.
-/
import Derived.Test.YtacmdpfidakkkaaGreatDoorTFulN
import Derived.Test.YtacmdpfidakkkaaGreatDoorMgh
namespace Go.Proofs.YtacmdpfidakkkaaGreatDoor
open Go.RowKit

theorem grow0 (w : World) : ∃ p : Regrown, { w with drawn := w.drawn + 1 } = Sort.grow (redrawn w p.d) p.os := ⟨⟨w.drawn + 1, #[]⟩, by rw [Sort.grow_empty]; rfl⟩
theorem below_cls9 {w W : World} (h : ∃ p : Regrown, W = Sort.grow (redrawn w p.d) p.os) : Below w.heap.size w W := by
  obtain ⟨p, rfl⟩ := h
  exact below_regrown _ _ _
set_option maxRecDepth 100000 in
set_option maxHeartbeats 4000000 in
theorem tful_any (n0 : Int) (id : Nm) (w : World) (hE : Env w) (hT : Tens w) : Calls Tryz.prog 6 #[.int .i64 n0, .agg (encN id).toArray] w fun e w' => e = .returned (.bool true) ∧ Below w.heap.size w w' := by
  obtain ⟨i0, hi, hz0, hz1, hz2⟩ := info_parts info34
  obtain ⟨m, hm, hw2⟩ := tf_len n0
  have HE := Lib.hid hE
  have HT := Lib.hid hT
  have HW := Lib.hid (Whole.made w 40 (encN id).toArray)
  have HB := Lib.hid ((Below.refl w.heap.size w).alloc (Nat.le_refl _) (.cells (encN id).toArray 40))
  have hs0 : (w.alloc (.cells (encN id).toArray 40)).heap.size = w.heap.size + 1 := by simp
  have hil := encN_len id
  have HIL := Lib.hid hil
  have HXI := Lib.hid (infoX id)
  clear hE hT hil
  go_enter Tryz.func6, Tryz.ntmps6
  go_wp2_with fail
  generalize w.alloc (.cells (encN id).toArray 40) = w0 at *
  refine (begun6_any w0 (HE.out.at_ HB.out) (HT.out.below HB.out)).mono ?_
  rintro e w1 ⟨rfl, hb⟩
  have HB1 := Lib.hid (HB.out.trans (hb.mono HB.out.size))
  have HW1 := Lib.hid (HW.out.below hb HW.out.lt)
  have hs1 : w.heap.size + 1 ≤ w1.heap.size := by have := hb.size; omega
  clear hb hs0 HB HW HE HT
  go_wp2
  go_loopg [6, 7] m (fun g s6 s7 wr => ∃ (k : Nat) (A9 : Option Addr) (c9 : Nat), s6 = .slice A9 k c9 ∧ k ≤ m ∧ m - k ≤ g ∧ s7 = .int .i64 k ∧ wr.ownsRow (w.heap.size + 1) 42 34 (.slice A9 k c9) k ((full id k).flatMap encE) ∧ Hid (Below w.heap.size w wr) ∧ w.heap.size + 1 ≤ wr.heap.size ∧ Hid (Whole wr w.heap.size 40 (encN id).toArray))
  case atStart => exact ⟨0, none, 0, rfl, Nat.zero_le _, by omega, rfl, by simpa [full] using World.ownsRow_nil _ _ _ _, HB1, hs1, HW1⟩
  case round =>
    obtain ⟨k, A9, c9, rfl, hk, hg, rfl, hown, hwr, hsz, hwi⟩ := hrel
    have HOWN := Lib.hid hown
    clear hown
    by_cases hlt : k < m
    · have hlt' : (k : Int) < (m : Int) := by omega
      have HNM := Lib.hid fun W => lname_any k W (by omega)
      have HFS := Lib.hid (full_succ id k)
      have HEN : Hid (ent id k = ⟨nm2 k, k % 2 == 0, id⟩) := rfl
      have HLD : Hid (∀ W, Below wr.heap.size wr W → W.rangeAt w.heap.size 0 (encN id)) := fun W h => whole_range (hwi.out.below h hwi.out.lt)
      have hbe := build_ent ⟨(nm2 k).toArray⟩ (k % 2 == 0) (encN id) HIL.out
      have hrem : ((k : Int).tmod 2 == 0) = (k % 2 == 0) := by
        rw [Int.tmod_eq_emod_of_nonneg (by omega), Bool.eq_iff_iff]
        simp only [beq_iff_eq]
        omega
      have hrem2 : ((k : Int) % 2 == 0) = (k % 2 == 0) := by
        rw [Bool.eq_iff_iff]
        simp only [beq_iff_eq]
        omega
      have hEC : encE (ent id k) = .string ⟨(nm2 k).toArray⟩ :: .bool (k % 2 == 0) :: encN id := rfl
      rw [← hEC] at hbe
      clear hEC
      generalize (k % 2 == 0) = d at *
      generalize nm2 k = nm at *
      go_wp2_with fail
      refine wp_region_qtail1 (C := fun W => ∃ p : Regrown, W = Sort.grow (redrawn wr p.d) p.os) 7 _ (by kernel_rfl) rfl rfl (by kernel_rfl) (by kernel_rfl) (by kernel_rfl) (fun _ _ _ h => h) (grow0 wr) ?_
      simp only [List.take_succ_cons, List.take_zero, List.drop_succ_cons, List.drop_zero, Act.put]
      go_simp
      repeat (first
        | go_big_quiet_step ((go_at_call 28; exact Calls.regrown_of (HNM.out _)))
        | (refine q_loadm _ _ rfl (by rfl) w.heap.size 0 (encN id) rfl _ Tryz.underlying40 rfl HXI.out (fun W hC => HLD.out W (below_cls9 hC)) ?_; simp only [Act.put]; go_simp))
      refine q_build 42 _ rfl (by rfl) (.agg (encE (ent id k)).toArray) #[(0, .string ⟨nm.toArray⟩), (1, .bool d), (2, .agg (encN id).toArray)] rfl hbe ?_
      simp only [Act.put]
      go_simp
      refine wpQuiet_nil ?_
      intro p
      have HB2 := Lib.hid (hwr.out.trans ((below_regrown wr p.d p.os).mono hwr.out.size))
      have HOW2 := Lib.hid (own_later' HOWN.out (below_regrown wr p.d p.os))
      have HW2 := Lib.hid (hwi.out.below (below_regrown wr p.d p.os) hwi.out.lt)
      have hs2 : w.heap.size + 1 ≤ (Sort.grow (redrawn wr p.d) p.os).heap.size := by have := (below_regrown wr p.d p.os).size; omega
      have hrow : ∀ j, (Value.slice A9 k c9).ownBlock = some j → w.heap.size + 1 ≤ j := fun j hj => (HOWN.out.lt j hj).1
      have HROW := Lib.hid hrow
      clear hrow HOWN hwr hwi hsz HLD hbe HEN
      generalize Sort.grow (redrawn wr p.d) p.os = w2 at *
      generalize ent id k = en at *
      have hcell : ∀ j v, (encE en)[j]? = some v → (w2.alloc (.cells (encE en).toArray 42)).cell? ((⟨w2.heap.size, 0, none⟩ : Addr).add j) = some v := by
        intro j v hv
        have h := (Whole.made w2 42 (encE en).toArray).at_ j
        rw [Addr.add_mid, Nat.zero_add, h, List.getElem?_toArray]
        exact hv
      have HCELL := Lib.hid hcell
      clear hcell
      go_wp2_with (first
        | (refine wpList_buildE rfl _ rfl en rfl ?_)
        | (at_builtin; go_loud (refine wpList_append_own_at _ rfl _ _ 22 rfl (w.heap.size + 1) 42 i0 (.agg (encE zE).toArray) 34 56 Tryz.underlying22 hi hz0 hz1 hz2 (encE_size zE) (by decide) _ _ _ rfl (HOW2.out.alloc _) ⟨w2.heap.size, 0, none⟩ 1 1 (encE en) rfl (by rw [encE_len]) HCELL.out (encE_one en) (by unfold maxLen; omega) (by omega) (by simp; omega) ?_)))
      intro v' w3 hown' hgr _ _
      have how3 : w3.ownsRow (w.heap.size + 1) 42 34 v' (k + 1) ((full id (k + 1)).flatMap encE) := by
        rw [HFS.out, List.flatMap_append]
        simpa using hown'
      have HB3 := Lib.hid ((HB2.out.alloc HB2.out.size (.cells (encE en).toArray 42)).grown hgr (by simp; omega) (fun j hj => by have := HROW.out j hj; omega))
      have hs3 : w.heap.size + 1 ≤ w3.heap.size := by have := hgr.size; simp at this; omega
      have HW3 := Lib.hid ((HW2.out.past (.cells (encE en).toArray 42)).grown hgr (fun e => by have := HROW.out _ e.symm; omega))
      obtain ⟨A4, c4, rfl⟩ : ∃ A4 c4, v' = .slice A4 (k + 1) c4 := by
        rcases how3.2 with ⟨rfl, h0⟩ | ⟨g', cap, cur, rfl, -⟩
        · omega
        · exact ⟨_, _, rfl⟩
      have HOW4 := Lib.hid how3
      clear hown' hgr how3
      go_wp2
      go_roundg (m - (k + 1))
      case measure => omega
      case rel => exact ⟨k + 1, A4, c4, rfl, by omega, Nat.le_refl _, by go_num, HOW4.out, HB3, hs3, HW3⟩
    · obtain rfl : k = m := by omega
      have hmlt : k < 25 := by omega
      have HMAY := Lib.hid (full_may id k hmlt)
      have hfl := full_len id k
      have HBY := Lib.hid (full_bytes id k)
      have HFIND := Lib.hid (fun i hi => full_find id k i hi hmlt)
      have HAT := Lib.hid (fun i hi => full_at id k i hi)
      have HOWA := HOWN.out
      rw [show ((full id k).flatMap encE) = ((full id k).flatMap encE) from rfl] at HOWA
      have hoa : ∃ A c, Value.slice A9 k c9 = .slice A (full id k).length c ∧ ArgE wr A c (full id k) := own_argE (by rw [hfl]; exact HOWA)
      obtain ⟨A5, c5, he5, harg⟩ := hoa
      injection he5 with e1 e2 e3
      subst e1 e3
      have HARG := Lib.hid harg
      have HFL := Lib.hid hfl
      clear e2 harg hfl HOWA
      generalize full id k = es at *
      have hput := tput_any A9 c9 es wr HARG.out (by have := HFL.out; omega)
      rw [HFL.out, HMAY.out] at hput
      by_cases h20 : k ≤ 20
      · have hd : decide (k ≤ 20) = true := by simp [h20]
        have hgt : decide ((20 : Int) < (k : Int)) = false := by simp; omega
        rw [hd, if_pos rfl] at hput
        have HPUT := Lib.hid hput
        have HGP : Hid (getT (encT es) = some es) := getT_put es (by rw [HMAY.out]; exact hd)
        have hbl := HBY.out
        have hbi : ((encT es).length : Int) == (k : Int) * 37 := by rw [hbl]; simp
        clear hput hd HMAY HBY
        generalize encT es = T at *
        have HBL := Lib.hid hbl
        have HBI := Lib.hid hbi
        clear hbl hbi
        go_wp2_with fail
        refine HPUT.out.mono ?_
        rintro e w2 ⟨rfl, hb⟩
        have HB2 := Lib.hid (hwr.out.trans (hb.mono hwr.out.size))
        have HA2 := Lib.hid (HARG.out.later hb)
        clear hb
        go_wp2_with fail
        refine (tget_any T w2 (by have := HBL.out; omega)).mono ?_
        rintro e w3 ⟨(⟨es', A6, c6, hg, rfl, hA6, -⟩ | ⟨hg, -⟩), hb⟩
        case inr =>
          rw [HGP.out] at hg
          cases hg
        obtain rfl : es = es' := by have := HGP.out.symm.trans hg; injection this
        have HB3 := Lib.hid (HB2.out.trans (hb.mono HB2.out.size))
        have HA3 := Lib.hid (HA2.out.later hb)
        have HA6 := Lib.hid hA6
        rw [HFL.out]
        clear hb hA6 hg
        have hkl : k ≤ c9 := by have := HARG.out.1; have := HFL.out; omega
        go_wp2
        go_loopg [12, 13, 14, 57] k (fun g _ _ _ s57 wq => ∃ i : Nat, i ≤ k ∧ k - i ≤ g ∧ s57 = .int .i64 i ∧ Hid (Below w.heap.size w wq) ∧ Hid (ArgE wq A9 c9 es) ∧ Hid (ArgE wq A6 c6 es))
        case atStart => exact ⟨0, Nat.zero_le _, by omega, rfl, HB3, HA3, HA6⟩
        case round =>
          rename_i wq
          obtain ⟨i, hi2, hg2, rfl, hbq, ha9, ha6⟩ := hrel
          by_cases hlt2 : i < k
          · have hlt2' : (i : Int) < (k : Int) := by omega
            have HNI := Lib.hid fun W => lname_any i W (by omega)
            have HFI : Hid (∀ W, ArgE W A6 c6 es → Calls Tryz.prog 27 #[.slice A6 k c6, .string ⟨(nm2 i).toArray⟩] W fun e w' => e = .returned (.tuple #[.agg (encE (ent id i)).toArray, .bool true]) ∧ Below W.heap.size W w') := by
              intro W hW
              have h := tfind_any A6 c6 es (nm2 i) W hW (by have := HFL.out; omega)
              rw [HFIND.out i hlt2, HFL.out] at h
              exact h
            have HAI := Lib.hid (HAT.out i hlt2)
            have hneq : ∀ W, (binOp .neq 42 (.agg (encE (ent id i)).toArray) (.agg (encE (ent id i)).toArray)).run Tryz.prog W = .ok (.bool false) W := by
              intro W
              rw [neq_en]
              simp
            generalize nm2 i = nm at *
            generalize ent id i = en at *
            go_wp2_with fail
            refine (HNI.out _).mono ?_
            rintro e w4 ⟨rfl, hb⟩
            have HB4 := Lib.hid (hbq.out.trans (hb.mono hbq.out.size))
            have HA94 := Lib.hid (ha9.out.later hb)
            have HA64 := Lib.hid (ha6.out.later hb)
            clear hb
            go_wp2_with fail
            refine (HFI.out _ HA64.out).mono ?_
            rintro e w5 ⟨rfl, hb⟩
            have HB5 := Lib.hid (HB4.out.trans (hb.mono HB4.out.size))
            have HA95 := Lib.hid (HA94.out.later hb)
            have HA65 := Lib.hid (HA64.out.later hb)
            clear hb HA94 HA64 HB4
            go_wp2_with (refine wpList_store_whole rfl 42 _ _ rfl w5.heap.size (encE en).toArray rfl rfl 42 _ (Whole.made w5 _ _) (infoE_s en) (by rw [encE_size]; kernel_rfl) (encE_all en) ?_; intro w6 hWn hGn; have HW6 := Lib.hid hWn; have D6 := Lib.hid (made_below' hGn); clear hWn hGn)
            have HB6 := Lib.hid (HB5.out.trans (D6.out.mono HB5.out.size))
            have HA96 := Lib.hid (HA95.out.later D6.out)
            have HA66 := Lib.hid (HA65.out.later D6.out)
            obtain ⟨bb, o, rfl, hr⟩ := HA96.out.2.2.2 (by have := HFL.out; omega)
            have hrk := hr i (by have := HFL.out; omega)
            rw [HAI.out] at hrk
            have HR1 : Hid (∀ W, (∃ n, W = w6.drewN n) → W.rangeAt bb (o + i * 34) (encE en)) := by rintro W ⟨n, rfl⟩; exact hrk
            have HR2 : Hid (∀ W, (∃ n, W = w6.drewN n) → W.rangeAt w5.heap.size 0 (encE en)) := by rintro W ⟨n, rfl⟩; exact whole_range HW6.out
            have HXE := Lib.hid (infoE_l en)
            clear hr hrk
            refine wp_region_quiet_lit (by kernel_rfl) (by kernel_rfl) ?_
            repeat (first
              | go_big_quiet_step (fail)
              | (refine q_loadm _ _ rfl (by rfl) w5.heap.size 0 (encE en) rfl _ Tryz.underlying42 rfl HXE.out HR2.out ?_; simp only [Act.put]; go_simp)
              | (refine q_loadm _ _ rfl (by rfl) bb (o + i * 34) (encE en) rfl _ Tryz.underlying42 rfl HXE.out HR1.out ?_; simp only [Act.put]; go_simp))
            refine wpQuiet_nil ?_
            intro nq
            have HB7 := Lib.hid (be_drewN HB6.out nq)
            have HA97 : Hid (ArgE (w6.drewN nq) (some ⟨bb, o, none⟩) c9 es) := HA96.out.later (be_drewN (Below.refl _ _) nq)
            have HA67 : Hid (ArgE (w6.drewN nq) A6 c6 es) := HA66.out.later (be_drewN (Below.refl _ _) nq)
            generalize w6.drewN nq = w7 at *
            go_wp2
            go_roundg (k - (i + 1))
            case measure => omega
            case rel => exact ⟨i + 1, by omega, Nat.le_refl _, by go_num, HB7, HA97, HA67⟩
          · obtain rfl : i = k := by omega
            have hbi := HBI.out
            go_wp2
            go_ret
            exact ⟨rfl, hbq.out⟩
      · have hd : decide (k ≤ 20) = false := by simp [h20]
        have hgt : decide ((20 : Int) < (k : Int)) = true := by simp; omega
        rw [hd, if_neg (by decide)] at hput
        have HPUT := Lib.hid hput
        clear hput hd HMAY HBY h20
        go_wp2_with fail
        refine HPUT.out.mono ?_
        rintro e w2 ⟨rfl, hb⟩
        have HB2 := Lib.hid (hwr.out.trans (hb.mono hwr.out.size))
        clear hb
        go_wp2
        go_ret
        exact ⟨rfl, HB2.out⟩
end Go.Proofs.YtacmdpfidakkkaaGreatDoor

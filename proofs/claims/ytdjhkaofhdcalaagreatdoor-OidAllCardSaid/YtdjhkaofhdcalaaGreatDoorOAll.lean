/-
  OidAll, walked.
-/
import Derived.Test.YtdjhkaofhdcalaaGreatDoorRSrt
import Derived.Test.YtdjhkaofhdcalaaGreatDoorMrg5
import Derived.Test.YtdjhkaofhdcalaaGreatDoorMrg4
import Derived.Test.YtdjhkaofhdcalaaGreatDoorText
namespace Go.Proofs.YtdjhkaofhdcalaaGreatDoor
open Go.RowKit

theorem made_below {w w' : World} {o : Obj} (h : (w.alloc o).grownBy w' (some w.heap.size)) : Below w.heap.size w w' :=
  be_grown ((Below.refl w.heap.size w).alloc (Nat.le_refl _) _) h (by simp) (fun j hj => by injection hj with hj; omega)
theorem range_cls {w w0 : World} {g : Nat} {x : Nm} (h : Whole w0 g 23 (encN x).toArray) (hb : Below w0.heap.size w0 w) : ∀ W, Below w.heap.size w W → W.rangeAt g 0 (encN x) := fun _ hW =>
  whole_range (h.below (hb.trans (hW.mono hb.size)) h.lt)
set_option maxRecDepth 100000 in
set_option maxHeartbeats 8000000 in
theorem oall_any (kind : Int) (body s : List UInt8) (a b : Nm) (A : Option Addr) (c : Nat) (ids : List Nm) (w : World) (hE : Env w) (hT : Tens w) (hA : ArgN w A c ids) :
    Calls Tryz.prog 3 #[.int .i64 kind, .string ⟨body.toArray⟩, .string ⟨s.toArray⟩, .agg (encN a).toArray, .agg (encN b).toArray, .slice A ids.length c] w fun e w' => e = .returned (.bool true) ∧ Below w.heap.size w w' := by
  have HE := Lib.hid hE
  have HTE := Lib.hid hT
  have HA := Lib.hid hA
  have hlc : ids.length ≤ c := hA.1
  obtain ⟨m, hm, hm1, hm2⟩ : ∃ m, m = min ids.length 12 ∧ m ≤ ids.length ∧ m ≤ 12 := ⟨_, rfl, by omega, by omega⟩
  have hmin : ∀ W, (Builtin.min_ #[3, 3] 3 #[.int .i64 (ids.length : Int), .int .i64 12]).run Tryz.prog W = .ok (.int .i64 (m : Int)) W := by
    intro W
    rw [run_min_int2]
    congr 2
    split <;> omega
  have hsl := slice_toN (P := Tryz.prog) (A := A) (c := c) 24 23 ids.length m Tryz.underlying24 (by kernel_rfl) (by omega)
  have HTB := Lib.hid fun W => text_any body 200 W
  have HTS := Lib.hid fun W => text_any s 70 W
  have hbl : (body.take 200).length ≤ 200 := by rw [List.length_take]; omega
  generalize body.take 200 = bd at *
  generalize s.take 70 = st at *
  have HOF := Lib.hid fun W h1 h2 => oof_nm kind bd W h1 h2 hbl
  have HRI := Lib.hid fun W => rid_nm kind bd W hbl
  generalize nameN kind bd = nm at *
  have HHX := Lib.hid fun W => hex_nm a W
  have HRH := Lib.hid fun W => rhex_any a W
  have HGH := Lib.hid fun W => oget_hex a W
  generalize hexOf a.l = hs at *
  have HOG := Lib.hid fun W => oget_u st W
  have HRG := Lib.hid fun W => rget_u st W
  generalize getN st = y at *
  generalize (getId st).2 = gb at *
  have HLS := Lib.hid fun W => less_nm a b W
  have HRL := Lib.hid fun W => rless_nm a b W
  generalize decide (ltN a b) = lb at *
  have HXA := Lib.hid (infoX a)
  have HXB := Lib.hid (infoX b)
  have HXN := Lib.hid (infoX nm)
  have HXY := Lib.hid (infoX y)
  have HB0 := Lib.hid (((Below.refl w.heap.size w).alloc (Nat.le_refl _) (.cells (encN a).toArray 23)).alloc (by simp) (.cells (encN b).toArray 23))
  have HWA0 := Lib.hid ((Whole.made w 23 (encN a).toArray).past (.cells (encN b).toArray 23))
  have HWB0 : Hid (Whole ((w.alloc (.cells (encN a).toArray 23)).alloc (.cells (encN b).toArray 23)) (w.heap.size + 1) 23 (encN b).toArray) := by
    show Whole _ _ _ _
    have := Whole.made (w.alloc (.cells (encN a).toArray 23)) 23 (encN b).toArray
    simpa using this
  clear hE hT hA hm hbl
  go_enter Tryz.func3, Tryz.ntmps3
  go_wp2_with fail
  generalize (w.alloc (.cells (encN a).toArray 23)).alloc (.cells (encN b).toArray 23) = w0 at *
  refine (begun_any _ (HE.out.at_ HB0.out)).mono ?_
  rintro e w1 ⟨rfl, hB⟩
  have HB1 := Lib.hid (HB0.out.trans (hB.mono HB0.out.size))
  have HWA1 := Lib.hid (HWA0.out.below hB HWA0.out.lt)
  have HWB1 := Lib.hid (HWB0.out.below hB HWB0.out.lt)
  have HA1 := Lib.hid ((HA.out.take m).later HB1.out)
  have hll : (ids.take m).length = m := by rw [List.length_take]; omega
  generalize ids.take m = l at *
  have HLL := Lib.hid hll
  clear hB hll HWA0 HWB0 HB0
  go_wp2_with fail
  refine (HTB.out _).mono ?_
  rintro e w' ⟨rfl, rfl⟩
  go_wp2_with fail
  refine (HTS.out _).mono ?_
  rintro e w' ⟨rfl, rfl⟩
  go_wp2_with fail
  refine (HOF.out _ (HE.out.at_ HB1.out).tabs (HTE.out.below HB1.out)).mono ?_
  rintro e w2 ⟨rfl, hB⟩
  have D1 := Lib.hid hB
  clear hB hmin hsl
  go_wp2_with (first
    | (refine wpList_store_whole rfl 23 _ _ rfl w2.heap.size (encN nm).toArray rfl rfl 23 _ (Whole.made w2 _ _) (infoXs nm) (by rw [encN_size]; kernel_rfl) (encN_all nm) ?_; intro w3 hWn hGn; have HN3 := Lib.hid hWn; have D2 := Lib.hid (made_below hGn); clear hWn hGn; have HWA3 := Lib.hid (HWA1.out.below (D1.out.trans (D2.out.mono D1.out.size)) HWA1.out.lt))
    | (refine wpList_load_row rfl 23 _ rfl w.heap.size rfl 23 (encN a).toArray (0, 0) _ HWA3.out Tryz.underlying23 rfl (infoXs a) ?_))
  refine (HHX.out _).mono ?_
  rintro e w4 ⟨rfl, hB⟩
  have D3 := Lib.hid hB
  clear hB HWA3
  go_wp2_with fail
  refine (HGH.out _).mono ?_
  rintro e w5 ⟨rfl, hB⟩
  have D4 := Lib.hid hB
  clear hB
  go_wp2_with (refine wpList_store_whole rfl 23 _ _ rfl w5.heap.size (encN a).toArray rfl rfl 23 _ (Whole.made w5 _ _) (infoXs a) (by rw [encN_size]; kernel_rfl) (encN_all a) ?_; intro w6 hWn hGn; have HX6 := Lib.hid hWn; have D5 := Lib.hid (made_below hGn); clear hWn hGn)
  refine (HOG.out _).mono ?_
  rintro e w7 ⟨rfl, hB⟩
  have D6 := Lib.hid hB
  clear hB
  go_wp2_with (refine wpList_store_whole rfl 23 _ _ rfl w7.heap.size (encN y).toArray rfl rfl 23 _ (Whole.made w7 _ _) (infoXs y) (by rw [encN_size]; kernel_rfl) (encN_all y) ?_; intro w8 hWn hGn; have HY8 := Lib.hid hWn; have D7 := Lib.hid (made_below hGn); clear hWn hGn)
  refine (HRG.out _).mono ?_
  rintro e w9 ⟨rfl, hB⟩
  have D8 := Lib.hid hB
  clear hB
  have F2 := D1.out.trans (D2.out.mono D1.out.size)
  have F3 := F2.trans (D3.out.mono F2.size)
  have F4 := F3.trans (D4.out.mono F3.size)
  have F5 := F4.trans (D5.out.mono F4.size)
  have F6 := F5.trans (D6.out.mono F5.size)
  have F7 := F6.trans (D7.out.mono F6.size)
  have F8 := F7.trans (D8.out.mono F7.size)
  have F8 := Lib.hid F8
  clear F2 F3 F4 F5 F6 F7
  have HSO : Hid (∀ W, Below w9.heap.size w9 W → Calls Tryz.prog 11 #[.slice A m c] W fun e w' => ∃ A' c' s, e = .returned (.slice A' (List.length s) c') ∧ Rise s ∧ (∀ x, x ∈ s ↔ x ∈ l) ∧ s.length ≤ m ∧ ArgN w' A' c' s ∧ (∀ j, inBlk A' j → W.heap.size ≤ j) ∧ Below W.heap.size W w') := by
    intro W hW
    have := sort_nm A c l W (HA1.out.later (F8.out.trans (hW.mono F8.out.size))) (by rw [HLL.out]; omega)
    rw [HLL.out] at this
    exact this
  go_wp2_with (refine wpList_store_whole rfl 23 _ _ rfl w9.heap.size (encN y).toArray rfl rfl 23 _ (Whole.made w9 _ _) (infoXs y) (by rw [encN_size]; kernel_rfl) (encN_all y) ?_; intro w10 hWn hGn; have HZ10 := Lib.hid hWn; have D9 := Lib.hid (made_below hGn); clear hWn hGn)
  refine (HSO.out _ D9.out).mono ?_
  rintro e w11 ⟨A1, c1, s1, rfl, hri, hme, hle, hAS, -, hB⟩
  have D10 := Lib.hid hB
  have HRI1 := Lib.hid hri
  have HME := Lib.hid hme
  have HAS := Lib.hid hAS
  have hl1 : s1.length ≤ 12 := by omega
  clear hB hri hme hAS hle HSO F8
  have E9 := Lib.hid (D9.out.trans (D10.out.mono D9.out.size))
  have E8 := Lib.hid (D8.out.trans (E9.out.mono D8.out.size))
  have E7 := Lib.hid (D7.out.trans (E8.out.mono D7.out.size))
  have E6 := Lib.hid (D6.out.trans (E7.out.mono D6.out.size))
  have E5 := Lib.hid (D5.out.trans (E6.out.mono D5.out.size))
  have E4 := Lib.hid (D4.out.trans (E5.out.mono D4.out.size))
  have E3 := Lib.hid (D3.out.trans (E4.out.mono D3.out.size))
  have E2 := Lib.hid (D2.out.trans (E3.out.mono D2.out.size))
  have E1 := Lib.hid (D1.out.trans (E2.out.mono D1.out.size))
  have HBA := Lib.hid (HB1.out.trans (E1.out.mono HB1.out.size))
  have HAR := Lib.hid (HA1.out.later E1.out)
  have HLA := Lib.hid (range_cls HWA1.out E1.out)
  have HLB := Lib.hid (range_cls HWB1.out E1.out)
  have HLN := Lib.hid (range_cls HN3.out E3.out)
  have HLX := Lib.hid (range_cls HX6.out E6.out)
  have HLY := Lib.hid (range_cls HY8.out E8.out)
  have HLZ := Lib.hid (range_cls HZ10.out D10.out)
  clear D1 D2 D3 D4 D5 D6 D7 D8 D9 D10 E1 E2 E3 E4 E5 E6 E7 E8 E9 HB1 HWA1 HWB1 HA1 HN3 HX6 HY8 HZ10 HOF HGH HOG HRG HTB HTS
  have heqn : ∀ W, (binOp .eql 23 (.agg (encN nm).toArray) (.agg (encN nm).toArray)).run Tryz.prog W = .ok (.bool true) W := fun W => by rw [eql_nm nm nm W]; simp
  have heqa : ∀ W, (binOp .eql 23 (.agg (encN a).toArray) (.agg (encN a).toArray)).run Tryz.prog W = .ok (.bool true) W := fun W => by rw [eql_nm a a W]; simp
  have heqy : ∀ W, (binOp .eql 23 (.agg (encN y).toArray) (.agg (encN y).toArray)).run Tryz.prog W = .ok (.bool true) W := fun W => by rw [eql_nm y y W]; simp
  have HRS : Hid (∀ W, Below w11.heap.size w11 W → Calls Tryz.prog 17 #[.slice A m c] W fun e w' => ∃ A' c' s, e = .returned (.slice A' (List.length s) c') ∧ Rise s ∧ (∀ x, x ∈ s ↔ x ∈ l) ∧ ArgN w' A' c' s ∧ Below W.heap.size W w') := by
    intro W hW
    have := rsort_nm A c l W (HAR.out.later hW) (by rw [HLL.out]; omega)
    rw [HLL.out] at this
    exact this
  obtain ⟨hb, HHS, HRA⟩ : ∃ hb, Hid (∀ W, Below w11.heap.size w11 W → Calls Tryz.prog 18 #[.slice A m c, .agg (encN a).toArray] W fun e w' => e = .returned (.bool hb) ∧ Below W.heap.size W w') ∧ Hid (∀ W, Below w11.heap.size w11 W → Calls Tryz.prog 19 #[.slice A m c, .agg (encN a).toArray] W fun e w' => e = .returned (.bool hb) ∧ Below W.heap.size W w') := by
    refine ⟨decide (a ∈ l), Lib.hid fun W hW => ?_, Lib.hid fun W hW => ?_⟩
    · have := has_nm A c l a W (HAR.out.later hW) (by rw [HLL.out]; omega)
      rw [HLL.out] at this
      exact this
    · have := rhas_nm A c l a W (HAR.out.later hW) (by rw [HLL.out]; omega)
      rw [HLL.out] at this
      exact this
  go_wp2_with fail
  refine wp_region_headG (C := fun w' => ∃ p : Regrown, w' = Sort.grow (redrawn w11 p.d) p.os) 40 (Array.replicate 40 true ++ Array.replicate 15 false) (by kernel_rfl) (by kernel_rfl) ⟨⟨w11.drawn + 1, #[]⟩, by rw [Sort.grow_empty]; rfl⟩ ?_
  simp only [List.take_succ_cons, List.take_zero]
  go_simp
  repeat (first
    | go_big_quiet_step ((first
      | (go_at_call 12; exact Calls.regrown_of (HRI.out _))
      | (go_at_call 9; exact Calls.regrown_of (HHX.out _))
      | (go_at_call 13; exact Calls.regrown_of (HRH.out _))
      | (go_at_call 14; exact Calls.regrown_of (HLS.out _))
      | (go_at_call 15; exact Calls.regrown_of (HRL.out _))))
    | (refine q_loadm _ _ rfl (by rfl) w2.heap.size 0 (encN nm) rfl _ Tryz.underlying23 rfl HXN.out (fun W hC => HLN.out W (below_cls hC)) ?_; simp only [Act.put]; go_simp)
    | (refine q_loadm _ _ rfl (by rfl) w.heap.size 0 (encN a) rfl _ Tryz.underlying23 rfl HXA.out (fun W hC => HLA.out W (below_cls hC)) ?_; simp only [Act.put]; go_simp)
    | (refine q_loadm _ _ rfl (by rfl) (w.heap.size + 1) 0 (encN b) rfl _ Tryz.underlying23 rfl HXB.out (fun W hC => HLB.out W (below_cls hC)) ?_; simp only [Act.put]; go_simp)
    | (refine q_loadm _ _ rfl (by rfl) w5.heap.size 0 (encN a) rfl _ Tryz.underlying23 rfl HXA.out (fun W hC => HLX.out W (below_cls hC)) ?_; simp only [Act.put]; go_simp)
    | (refine q_loadm _ _ rfl (by rfl) w7.heap.size 0 (encN y) rfl _ Tryz.underlying23 rfl HXY.out (fun W hC => HLY.out W (below_cls hC)) ?_; simp only [Act.put]; go_simp)
    | (refine q_loadm _ _ rfl (by rfl) w9.heap.size 0 (encN y) rfl _ Tryz.underlying23 rfl HXY.out (fun W hC => HLZ.out W (below_cls hC)) ?_; simp only [Act.put]; go_simp))
  refine wpQuiet_nil ?_
  intro p
  have HQ := Lib.hid (below_regrown w11 p.d p.os)
  generalize Sort.grow (redrawn w11 p.d) p.os = wq at *
  refine wpAny_take (i := 40) (oi := { dst := some 95, op := _, type := _, pos := _, after := _, guard := _ }) (v := .slice A1 s1.length c1) rfl (by kernel_rfl) (by kernel_rfl) (by kernel_rfl) (fun _ _ _ h => h) (Or.inl ⟨by rfl, fun W => ?_⟩) ?_
  · go_simp
  refine wpAny_take (i := 41) (oi := { dst := some 96, op := _, type := _, pos := _, after := _, guard := _ }) (v := .slice A m c) rfl (by kernel_rfl) (by kernel_rfl) (by kernel_rfl) (fun _ _ _ h => h) (Or.inl ⟨by rfl, fun W => ?_⟩) ?_
  · go_simp
  refine wpAny_ready (rs := [42]) (by kernel_rfl) (by simp) ?_
  refine AllReady.cons rfl (fun K hK => ?_) AllReady.nil
  go_simp
  refine (HRS.out wq HQ.out).mono ?_
  rintro e w13 ⟨A2, c2, s2, rfl, hri, hme, hAS2, hB⟩
  obtain rfl : s2 = s1 := rise_uniq hri HRI1.out (fun x => (hme x).trans (HME.out x).symm)
  have HQ13 := Lib.hid (HQ.out.trans (hB.mono HQ.out.size))
  have HEQ := Lib.hid (req_nm A1 c1 A2 c2 s2 w13 (HAS.out.later HQ13.out) hAS2 (by omega))
  clear hri hme hAS2 hB
  refine hK _ _ ?_
  clear hK K
  refine wpAny_ready (rs := [43]) (by kernel_rfl) (by simp) ?_
  refine AllReady.cons rfl (fun K hK => ?_) AllReady.nil
  go_simp
  refine HEQ.out.mono ?_
  rintro e w14 ⟨rfl, hB⟩
  have HQ14 := Lib.hid (HQ13.out.trans (hB.mono HQ13.out.size))
  clear hB HEQ
  refine hK _ _ ?_
  clear hK K
  refine wpAny_take (i := 44) (oi := { dst := some 99, op := _, type := _, pos := _, after := _, guard := _ }) (v := .bool true) rfl (by kernel_rfl) (by kernel_rfl) (by kernel_rfl) (fun _ _ _ h => h) (Or.inl ⟨by rfl, fun W => ?_⟩) ?_
  · go_simp
  have HHS2 : Hid (∀ W, Below w14.heap.size w14 W → Calls Tryz.prog 18 #[.slice A m c, .agg (encN a).toArray] W fun e w' => e = .returned (.bool hb) ∧ Below W.heap.size W w') := fun W hW => HHS.out W (HQ14.out.trans (hW.mono HQ14.out.size))
  have HRA2 : Hid (∀ W, Below w14.heap.size w14 W → Calls Tryz.prog 19 #[.slice A m c, .agg (encN a).toArray] W fun e w' => e = .returned (.bool hb) ∧ Below W.heap.size W w') := fun W hW => HRA.out W (HQ14.out.trans (hW.mono HQ14.out.size))
  have HLA2 : Hid (∀ W, Below w14.heap.size w14 W → W.rangeAt w.heap.size 0 (encN a)) := fun W hW => HLA.out W (HQ14.out.trans (hW.mono HQ14.out.size))
  refine any_qtail (m := 45) (n := 54) (C := fun w' => ∃ p : Regrown, w' = Sort.grow (redrawn w14 p.d) p.os) (by kernel_rfl) (headInv_of (by kernel_rfl)) ⟨⟨w14.drawn, #[]⟩, by rw [Sort.grow_empty]; rfl⟩ ?_
  simp only [List.take_succ_cons, List.take_zero, List.drop_succ_cons, List.drop_zero]
  go_simp
  repeat (first
    | go_big_quiet_step ((first
      | (go_at_call 18; exact Calls.regrown_of (HHS2.out _ (below_regrown _ _ _)))
      | (go_at_call 19; exact Calls.regrown_of (HRA2.out _ (below_regrown _ _ _)))))
    | (refine q_loadm _ _ rfl (by rfl) w.heap.size 0 (encN a) rfl _ Tryz.underlying23 rfl HXA.out (fun W hC => HLA2.out W (below_cls hC)) ?_; simp only [Act.put]; go_simp))
  refine wpQuiet_nil ?_
  intro p2
  have HF := Lib.hid (HQ14.out.trans ((below_regrown w14 p2.d p2.os).mono HQ14.out.size))
  generalize Sort.grow (redrawn w14 p2.d) p2.os = wf at *
  go_wp2
  go_ret
  exact ⟨rfl, HBA.out.trans (HF.out.mono HBA.out.size)⟩
end Go.Proofs.YtdjhkaofhdcalaaGreatDoor

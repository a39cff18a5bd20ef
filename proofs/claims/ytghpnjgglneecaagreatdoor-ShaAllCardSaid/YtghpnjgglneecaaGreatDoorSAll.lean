/-
  ShaAll, walked.
-/
import Derived.Test.YtghpnjgglneecaaGreatDoorRefU
import Derived.Test.YtghpnjgglneecaaGreatDoorRowS
import Derived.Test.YtghpnjgglneecaaGreatDoorEql
namespace Go.Proofs.YtghpnjgglneecaaGreatDoor
open Go.RowKit

theorem HashAt.alt {R : Nat → Prop} {w w' : World} {b T : Nat} {X : List UInt8} (h : HashAt w b T X) (ha : Alt R w w') (hn : ¬ R b) : HashAt w' b T X := by
  obtain ⟨s, pt, hp, hW, hs, ht⟩ := h
  exact ⟨s, pt, hp, hW.alt ha hn, hs, ht⟩
theorem cut_len (n : Int) : ∃ p : Nat, p ≤ 99 ∧ (wrap64 (n.tmod 100 + 100)).tmod 100 = (p : Int) := by
  have h1 := Int.tmod_lt_of_pos n (show (0 : Int) < 100 by decide)
  have h2 := Int.lt_tmod_of_pos n (show (0 : Int) < 100 by decide)
  generalize n.tmod 100 = x at *
  have e : wrap64 (x + 100) = x + 100 := by unfold wrap64; omega
  rw [e]
  have e2 : (x + 100).tmod 100 = (x + 100) % 100 := Int.tmod_eq_emod_of_nonneg (by omega)
  rw [e2]
  exact ⟨((x + 100) % 100).toNat, by omega, by omega⟩
theorem min_run (a b : Nat) : ∀ W, (Builtin.min_ #[3, 3] 3 #[.int .i64 (a : Int), .int .i64 (b : Int)]).run Tryz.prog W = .ok (.int .i64 ((min a b : Nat) : Int)) W := by
  intro W
  rw [run_min_int2]
  congr 2
  split <;> omega
theorem below_of_class {w W : World} (h : ∃ p : Regrown, W = Sort.grow (redrawn w p.d) p.os) : Below w.heap.size w W := by
  obtain ⟨p, rfl⟩ := h
  exact below_regrown _ _ _
theorem take_two (l : List UInt8) (a q : Nat) : l.take a ++ (l.drop a).take q = l.take (a + q) := by
  rw [List.take_add]
set_option maxRecDepth 100000 in
set_option maxHeartbeats 4000000 in
theorem sall_any (A : Option Addr) (c : Nat) (bs : List UInt8) (A1 : Option Addr) (c1 : Nat) (ns : List Int) (w : World) (hE : Env w) (hA : Arg w A c (bs.map Y)) (hN : Arg w A1 c1 (ns.map (Value.int .i64))) :
    Calls Tryz.prog 3 #[.slice A bs.length c, .slice A1 ns.length c1] w fun e w' => e = .returned (.bool true) ∧ Below w.heap.size w w' := by
  have HE := Lib.hid hE
  have HA := Lib.hid hA
  have HN := Lib.hid hN
  have hlc : bs.length ≤ c := by have := hA.1; simpa using this
  obtain ⟨m, hm, hm1, hm2⟩ : ∃ m, m = min bs.length 300 ∧ m ≤ bs.length ∧ m ≤ 300 := ⟨_, rfl, by omega, by omega⟩
  have hmin : ∀ W, (Builtin.min_ #[3, 3] 3 #[.int .i64 (bs.length : Int), .int .i64 300]).run Tryz.prog W = .ok (.int .i64 (m : Int)) W := by
    intro W
    rw [run_min_int2]
    congr 2
    split <;> omega
  have hsl := slice_to (P := Tryz.prog) (A := A) (c := c) 22 5 bs.length m Tryz.underlying22 (by kernel_rfl) (by omega)
  clear hE hA hm hN
  go_enter Tryz.func3, Tryz.ntmps3
  go_wp2_with fail
  refine (begun_any _ HE.out).mono ?_
  rintro e w1 ⟨rfl, hB⟩
  have HB := Lib.hid hB
  clear hB
  have HA1 := Lib.hid ((HA.out.take m).below HB.out (Nat.le_refl _))
  have hbl : (bs.take m).length = m := by rw [List.length_take]; omega
  rw [← List.map_take] at HA1
  generalize bs.take m = l at *
  have HL := Lib.hid hbl
  clear hbl
  go_wp2_with (at_builtin; refine wpList_bcopy rfl _ _ rfl rfl A c l (by rw [HL.out]; rfl) HA1.out (by rw [HL.out]; omega) ?_; intro v' w2 hown hbe; obtain ⟨A2, c2, rfl, hrow, hge⟩ := Row.of_own hown; have HROW := Lib.hid hrow; have HGE := Lib.hid hge; have HB2 := Lib.hid (HB.out.trans (hbe.mono HB.out.size)); have hs2 := hbe.size; rw [HL.out]; clear hown hrow hge hbe)
  refine (new_any w2).mono ?_
  rintro e w3 ⟨rfl, hbe, hh, hs3⟩
  have HROW3 := Lib.hid (HROW.out.below hbe)
  have HB3 := Lib.hid (HB2.out.trans (hbe.mono HB2.out.size))
  have HH3 := Lib.hid hh
  have hw2s := HB2.out.size
  have hh3l := hh.lt
  have ht1 := HE.out.tabs.lt1
  have ht2 := HE.out.tabs.lt2
  have hA2 : Hid (∀ j, blockOf A2 j → w.heap.size ≤ j ∧ j ≠ w2.heap.size) := by
    intro j hj
    have := HGE.out j hj
    have := HB.out.size
    exact ⟨by omega, by omega⟩
  clear hbe hh hsl hmin HGE HROW hs2
  generalize w2.heap.size = hb at *
  go_wp2_with fail
  go_loopw [7, 8] (fun a i wr => ∃ k at_ : Nat, k ≤ ns.length ∧ k ≤ 6 ∧ at_ ≤ m ∧ a = .int .i64 (at_ : Int) ∧ i = .int .i64 (k : Int) ∧ Alt (· = hb) w3 wr ∧ HashAt wr hb 82 (l.take at_)) (fun _ i _ => 6 - (intOf i).toNat)
  case atStart => exact ⟨0, 0, by omega, by omega, by omega, rfl, rfl, Alt.refl _ _, HH3.out⟩
  case round =>
    obtain ⟨k, at_, hk, hk6, hat, rfl, rfl, halt, hrd⟩ := hrel
    have HALT := Lib.hid halt
    have HH := Lib.hid hrd
    have HROW1 := Lib.hid (HROW3.out.alt halt (by intro j hj; exact (hA2.out j hj).2))
    have HBW := Lib.hid (HB3.out.trans (halt.to (B := w.heap.size) (by intro j hj; omega) HB3.out.size))
    clear halt hrd
    by_cases hgo : k < ns.length ∧ k < 6
    · obtain ⟨hlt, hlt6⟩ := hgo
      have k6 : decide ((k : Int) < 6) = true := by simp; omega
      obtain ⟨g, off, rfl, hcell⟩ := (HN.out.below HBW.out (Nat.le_refl _)).spot (by simp; omega)
      have hcn : wr.cell? ⟨g, off + k, none⟩ = some (.int .i64 (ns.getD k 0)) := hcell k _ (by simp [List.getElem?_eq_getElem hlt])
      clear hcell
      generalize ns.getD k 0 = n at *
      obtain ⟨p, hp, hpn⟩ := cut_len n
      have hmn := min_run p (m - at_)
      rw [show ((m - at_ : Nat) : Int) = (m : Int) - (at_ : Int) by omega] at hmn
      have hq : min p (m - at_) ≤ m - at_ := Nat.min_le_right _ _
      generalize min p (m - at_) = q at *
      obtain ⟨v, hcut, hby, hob⟩ := row_cut HROW1.out HL.out at_ q (by omega)
      have HBY := Lib.hid hby
      have HOB := Lib.hid hob
      clear hby hob
      go_wp2_with fail
      have hlen : (l.take at_).length < 2 ^ 60 := by rw [List.length_take]; omega
      refine (put_any hb _ v (l.take at_) ((l.drop at_).take q) wr (HE.out.at_ HBW.out).tabs (by omega) (by omega) HH.out hlen HBY.out (fun _ hb2 => (hA2.out _ (HOB.out _ hb2)).2 rfl)).mono ?_
      rintro e w5 ⟨rfl, hG, hh⟩
      rw [take_two] at hh
      have HALT5 := Lib.hid (HALT.out.grown hG (fun j hj => by injection hj with hj; exact .inr hj.symm))
      have HH5 := Lib.hid hh
      have HROW5 := Lib.hid (HROW3.out.alt HALT5.out (by intro j hj; exact (hA2.out j hj).2))
      have HBW5 := Lib.hid (HB3.out.trans (HALT5.out.to (B := w.heap.size) (by intro j hj; omega) HB3.out.size))
      have hh5 := hh.lt
      have hat2 : at_ + q ≤ m := by omega
      obtain ⟨hhd, -⟩ := row_head HROW5.out HL.out (at_ + q) hat2
      have hcv : ∀ d os, (convert 22 9 (.slice A2 (at_ + q) c2)).run Tryz.prog (Sort.grow (redrawn w5 d) os) = .ok (.string ⟨(l.take (at_ + q)).toArray⟩) (Sort.grow (redrawn w5 d) os) := fun d os => (row_head (HROW5.out.below (below_regrown w5 d os)) HL.out (at_ + q) hat2).2
      have hdl : (ShaM.sha (l.take (at_ + q))).length = 32 := ShaM.sha_len _
      have hneq : ∀ W, (binOp .neq 28 (.agg ((ShaM.sha (l.take (at_ + q))).map Y).toArray) (.agg ((ShaM.sha (l.take (at_ + q))).map Y).toArray)).run Tryz.prog W = .ok (.bool false) W := fun W => by
        rw [neq_bytes 28 32 Tryz.underlying28 _ _ hdl hdl W]
        simp
      have HS : Hid (∀ W, Below w5.heap.size w5 W → Calls Tryz.prog 14 #[.pointer (some ⟨hb, 0, none⟩)] W fun e w' => e = .returned (.agg ((ShaM.sha (l.take (at_ + q))).map Y).toArray) ∧ Below W.heap.size W w') :=
        fun W hW => hsum_any hb _ _ W (HE.out.at_ (HBW5.out.trans (hW.mono HBW5.out.size))).tabs (HH5.out.below hW hh5) (by rw [List.length_take]; omega)
      have HRS : Hid (∀ W, Below w5.heap.size w5 W → Calls Tryz.prog 15 #[.string ⟨(l.take (at_ + q)).toArray⟩] W fun e w' => e = .returned (.agg ((ShaM.sha (l.take (at_ + q))).map Y).toArray) ∧ Below W.heap.size W w') := fun W _ => rsum_any _ W (by rw [List.length_take]; omega)
      have hs5 : ((at_ + q : Nat) : Int) = (at_ : Int) + (q : Int) := by omega
      rw [hs5] at hhd
      clear hdl hlen hG hh hcut hmn hpn HH HALT HROW1 HBW HBY HOB hcn hs5
      generalize ((ShaM.sha (l.take (at_ + q))).map Y).toArray = dg at *
      go_wp2_with fail
      refine wp_region_quiet_below (by kernel_rfl) (by kernel_rfl) ?_
      repeat (first
        | go_big_quiet_step ((first
          | (go_at_call 14; exact Calls.regrown_of (HS.out _ (below_regrown _ _ _)))
          | (go_at_call 15; exact Calls.regrown_of (HRS.out _ (below_regrown _ _ _))))))
      refine wpQuiet_nil ?_
      intro W hW
      have HW := Lib.hid (below_of_class hW)
      clear hW
      go_wp2
      go_roundw
      case rel => exact ⟨k + 1, at_ + q, by omega, by omega, hat2, by go_num, by go_num, HALT5.out.below HW.out, HH5.out.below HW.out hh5⟩
      case measure => simp [intOf]; omega
    · obtain ⟨v, hfr, hby, hob⟩ := row_from HROW1.out HL.out at_ hat
      have HBY := Lib.hid hby
      have HOB := Lib.hid hob
      have hlen : (l.take at_).length < 2 ^ 60 := by rw [List.length_take]; omega
      have HPUT := Lib.hid (put_any hb _ v (l.take at_) (l.drop at_) wr (HE.out.at_ HBW.out).tabs (by omega) (by omega) HH.out hlen HBY.out (fun _ hb2 => (hA2.out _ (HOB.out _ hb2)).2 rfl))
      rw [List.take_append_drop] at HPUT
      have hk6' : k < ns.length → decide ((k : Int) < 6) = false := fun h => by simp; omega
      clear hby hob hlen
      by_cases hlt : k < ns.length
      case' pos => have k6 := hk6' hlt
      all_goals
        clear hk6'
        go_wp2_with fail
        refine HPUT.out.mono ?_
        rintro e w5 ⟨rfl, hG, hh⟩
        have HALT5 := Lib.hid (HALT.out.grown hG (fun j hj => by injection hj with hj; exact .inr hj.symm))
        have HROW5 := Lib.hid (HROW3.out.alt HALT5.out (by intro j hj; exact (hA2.out j hj).2))
        have HBW5 := Lib.hid (HB3.out.trans (HALT5.out.to (B := w.heap.size) (by intro j hj; omega) HB3.out.size))
        have HH5 := Lib.hid hh
        have hh5 := hh.lt
        have hcv : ∀ d os, (convert 22 9 (.slice A2 m c2)).run Tryz.prog (Sort.grow (redrawn w5 d) os) = .ok (.string ⟨l.toArray⟩) (Sort.grow (redrawn w5 d) os) := fun d os => by
          have h2 := bytes_str (P := Tryz.prog) 22 9 5 Tryz.underlying22 Tryz.underlying5 Tryz.underlying9 (HROW5.out.below (below_regrown w5 d os)).bytes
          rw [HL.out] at h2
          exact h2
        have hdl : (ShaM.sha l).length = 32 := ShaM.sha_len _
        have heql : ∀ W, (binOp .eql 28 (.agg ((ShaM.sha l).map Y).toArray) (.agg ((ShaM.sha l).map Y).toArray)).run Tryz.prog W = .ok (.bool true) W := fun W => by
          rw [eql_bytes 28 32 Tryz.underlying28 _ _ hdl hdl W]
          simp
        have HHS : Hid (∀ W, Below w5.heap.size w5 W → Calls Tryz.prog 14 #[.pointer (some ⟨hb, 0, none⟩)] W fun e w' => e = .returned (.agg ((ShaM.sha l).map Y).toArray) ∧ Below W.heap.size W w') :=
          fun W hW => hsum_any hb _ _ W (HE.out.at_ (HBW5.out.trans (hW.mono HBW5.out.size))).tabs (HH5.out.below hW hh5) (by rw [HL.out]; omega)
        have HRS : Hid (∀ W, Below w5.heap.size w5 W → Calls Tryz.prog 15 #[.string ⟨l.toArray⟩] W fun e w' => e = .returned (.agg ((ShaM.sha l).map Y).toArray) ∧ Below W.heap.size W w') := fun W _ => rsum_any _ W (by rw [HL.out]; omega)
        have HSS : Hid (∀ W, Below w5.heap.size w5 W → Calls Tryz.prog 16 #[.slice A2 m c2] W fun e w' => e = .returned (.agg ((ShaM.sha l).map Y).toArray) ∧ Below W.heap.size W w') := by
          intro W hW
          have hby := (HROW5.out.below hW).bytes
          rw [HL.out] at hby
          exact sum_any _ l W (HE.out.at_ (HBW5.out.trans (hW.mono HBW5.out.size))).tabs hby (by rw [HL.out]; omega)
        clear hdl hG hh hfr HPUT HH HALT HROW1 HBW HBY HOB
        generalize ((ShaM.sha l).map Y).toArray = dg at *
        go_wp2_with fail
        refine wp_region_quiet_below (by kernel_rfl) (by kernel_rfl) ?_
        repeat (first
          | go_big_quiet_step ((first
            | (go_at_call 14; exact Calls.regrown_of (HHS.out _ (below_regrown _ _ _)))
            | (go_at_call 16; exact Calls.regrown_of (HSS.out _ (below_regrown _ _ _)))
            | (go_at_call 15; exact Calls.regrown_of (HRS.out _ (below_regrown _ _ _))))))
        refine wpQuiet_nil ?_
        intro W hW
        have HW := Lib.hid (below_of_class hW)
        clear hW
        go_wp2
        go_ret
        exact ⟨rfl, HBW5.out.trans (HW.out.mono HBW5.out.size)⟩
end Go.Proofs.YtghpnjgglneecaaGreatDoor

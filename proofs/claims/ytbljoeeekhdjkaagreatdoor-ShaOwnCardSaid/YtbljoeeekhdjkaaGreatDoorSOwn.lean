/-
  ShaOwn, walked.
-/
import Derived.Test.YtbljoeeekhdjkaaGreatDoorArg
import Derived.Test.YtbljoeeekhdjkaaGreatDoorEql
import Derived.Deep.RegionHeld3
namespace Go.Proofs.YtbljoeeekhdjkaaGreatDoor
open Go.RowKit

theorem xorb_byte (c d : UInt8) : bits .xor .u8 (c.toNat : Int) (d.toNat : Int) = ((c ^^^ d).toNat : Int) := by
  have h := u8_xor_nat c.toNat d.toNat c.toNat_lt d.toNat_lt
  rw [h, UInt8.toNat_xor]
theorem xor_90 (c : UInt8) : bits .xor .u8 (c.toNat : Int) 90 = ((c ^^^ 90).toNat : Int) := xorb_byte c 90
/-- An array of 32 bytes, loaded. -/
theorem load_32 (b : Nat) (T : TypeId) (xs : List UInt8) (hl : xs.length = 32) : ∀ W, Whole W b T (xs.map Y).toArray → (loadVar 28 ⟨b, 0, none⟩).run Tryz.prog W = .ok (.agg (xs.map Y).toArray) W := by
  intro W hW
  exact run_loadVar_row (P := Tryz.prog) W b T 28 (xs.map Y).toArray (0, 0) _ hW Tryz.underlying28 rfl (by rw [List.size_toArray, List.length_map, hl]; kernel_rfl)
set_option maxRecDepth 100000 in
set_option maxHeartbeats 4000000 in
theorem sown_any (A : Option Addr) (c : Nat) (bs : List UInt8) (w : World) (hE : Env w) (hA : Arg w A c (bs.map Y)) : Calls Tryz.prog 13 #[.slice A bs.length c] w fun e w' => e = .returned (.bool true) ∧ Below w.heap.size w w' := by
  have HE := Lib.hid hE
  have HA := Lib.hid hA
  have hlc : bs.length ≤ c := by have := hA.1; simpa using this
  obtain ⟨m, hm, hm1, hm2⟩ : ∃ m, m = min bs.length 150 ∧ m ≤ bs.length ∧ m ≤ 150 := ⟨_, rfl, by omega, by omega⟩
  have hmin : ∀ W, (Builtin.min_ #[3, 3] 3 #[.int .i64 (bs.length : Int), .int .i64 150]).run Tryz.prog W = .ok (.int .i64 (m : Int)) W := by
    intro W
    rw [run_min_int2]
    congr 2
    split <;> omega
  have hsl := slice_to (P := Tryz.prog) (A := A) (c := c) 22 5 bs.length m Tryz.underlying22 (by kernel_rfl) (by omega)
  clear hE hA hm
  go_enter Tryz.func13, Tryz.ntmps13
  go_wp2_with fail
  refine (begun_any _ HE.out).mono ?_
  rintro e w1 ⟨rfl, hB⟩
  have HB := Lib.hid hB
  clear hB
  have HA1 := Lib.hid ((HA.out.take m).below HB.out (Nat.le_refl _))
  have hbl : (bs.take m).length = m := by rw [List.length_take]; omega
  rw [← List.map_take] at HA1
  generalize bs.take m = l at *
  have HL := Lib.hid hbl
  clear hbl
  go_wp2_with (at_builtin; refine wpList_bcopy rfl _ _ rfl rfl A c l (by rw [HL.out]; rfl) HA1.out (by rw [HL.out]; omega) ?_; intro v' w2 hown hbe; obtain ⟨A2, c2, rfl, hrow, hge⟩ := Row.of_own hown; have HROW := Lib.hid hrow; have HGE := Lib.hid hge; have HB2 := Lib.hid (HB.out.trans (hbe.mono HB.out.size)); have hs2 := hbe.size; rw [HL.out]; clear hown hrow hge hbe)
  have hby2 := HROW.out.bytes
  have hs02 := HB2.out.size
  have hs01 := HB.out.size
  have hsum := sum_any _ l w2 (HE.out.at_ HB2.out).tabs hby2 (by rw [HL.out]; omega)
  rw [HL.out] at hsum
  obtain ⟨dg, hdg⟩ : ∃ dg, dg = ShaM.sha l := ⟨_, rfl⟩
  have hdl : dg.length = 32 := by rw [hdg, ShaM.sha_len]
  rw [← hdg] at hsum
  have HDG := Lib.hid hdg
  have HDL := Lib.hid hdl
  have HS := Lib.hid hsum
  have HEQ := Lib.hid (eql_bytes 28 32 Tryz.underlying28 dg dg hdl hdl)
  have HLD := Lib.hid fun b => load_32 b 28 dg hdl
  have HI32 : Hid ((Tryz.prog.info? 28).map (·.size) = some (dg.map Y).toArray.size) := by show _ = _; rw [List.size_toArray, List.length_map, hdl]; kernel_rfl
  have H32 : Hid (32 = (dg.map Y).toArray.size) := by show _ = _; rw [List.size_toArray, List.length_map, hdl]
  have HONE : Hid ((dg.map Y).toArray.all (·.oneCell') = true) := ys_all _
  clear hdg hdl hsum hby2 hsl hmin
  have hun32 : Tryz.prog.underlying 28 = some (.array 32 5) := Tryz.underlying28
  obtain ⟨cl, hcl⟩ : ∃ cl, dg.map Y = cl := ⟨_, rfl⟩
  have hil : (Tryz.prog.info? 28).map (·.size) = some cl.length := by have := HI32.out; rw [hcl] at this; simpa using this
  have HIL := Lib.hid hil
  have HUN := Lib.hid hun32
  clear hil hun32
  have hcs : (dg.map Y).toArray = cl.toArray := by rw [hcl]
  obtain ⟨cs, hcsd⟩ : ∃ cs, cs = cl.toArray := ⟨_, rfl⟩
  rw [hcs] at HS HI32 H32 HONE
  have HCS := Lib.hid hcs
  have HEQ2 : Hid (∀ W, (binOp .eql 28 (.agg cl.toArray) (.agg cl.toArray)).run Tryz.prog W = .ok (.bool true) W) := by
    intro W
    have := HEQ.out W
    rw [hcs] at this
    rw [this]
    simp
  clear hcs hcl
  rw [← hcsd] at HS HI32 H32 HONE
  have HCD := Lib.hid hcsd
  clear hcsd
  go_wp2_with fail
  refine HS.out.mono ?_
  rintro e w3 ⟨rfl, hbe⟩
  have HROW3 := Lib.hid (HROW.out.below hbe)
  have HB3 := Lib.hid (HB2.out.trans (hbe.mono hs02))
  have hs3 := hbe.size
  clear hbe HS
  go_wp2_with (refine wpList_store_whole rfl 28 _ _ rfl w3.heap.size cs rfl rfl 28 _ (Whole.made w3 _ _) HI32.out H32.out HONE.out ?_; intro w4 hW4 hG4; have HW4 := Lib.hid hW4; have HB4 := Lib.hid (be_grown (HB3.out.alloc (by omega) _) hG4 (by simp; omega) (fun j hj => by injection hj with hj; omega)); have HROW4 := Lib.hid ((HROW3.out.past _).alt (Alt.of_grown (R := (· = w3.heap.size)) hG4 (fun j hj => by injection hj with hj; exact hj.symm)) (by intro j hj hk; have := (HGE.out j hj).2; omega)); have hs4 := hG4.size; clear hW4 hG4)
  refine (new_any w4).mono ?_
  rintro e w5 ⟨rfl, hbe, hh, hs5⟩
  have HW5 := Lib.hid (HW4.out.below hbe HW4.out.lt)
  have HROW5 := Lib.hid (HROW4.out.below hbe)
  have HB5 := Lib.hid (HB4.out.trans (hbe.mono HB4.out.size))
  have HH5 := Lib.hid hh
  have ht1 := HE.out.tabs.lt1
  have ht2 := HE.out.tabs.lt2
  have h4w := HB4.out.size
  have hw3l := HW4.out.lt
  clear hbe hh
  have hput := put_any w4.heap.size _ _ [] l w5 (HE.out.at_ HB5.out).tabs (by omega) (by omega) HH5.out (by simp) HROW5.out.bytes (by
    intro hne hob
    have : blockOf A2 w4.heap.size := by
      cases hA2 : A2 with
      | none => rw [hA2] at hob; simp [Value.ownBlock] at hob
      | some a => rw [hA2] at hob; simp [Value.ownBlock] at hob; exact ⟨a, rfl, hob⟩
    have := (HGE.out _ this).2
    omega)
  rw [HL.out, List.nil_append] at hput
  have HP := Lib.hid hput
  clear hput
  go_wp2_with fail
  refine HP.out.mono ?_
  rintro e w6 ⟨rfl, hG6, hh6⟩
  have a6 : Alt (· = w4.heap.size) w5 w6 := Alt.of_grown hG6 (fun j hj => by injection hj with hj; exact hj.symm)
  have HW6 := Lib.hid (HW5.out.alt a6 (by omega))
  have HROW6 := Lib.hid (HROW5.out.alt a6 (by intro j hj hk; have := (HGE.out j hj).2; omega))
  have HH6 := Lib.hid hh6
  have HB6 := Lib.hid (HB5.out.trans (a6.to (B := w.heap.size) (by intro k hk; omega) HB5.out.size))
  clear hG6 hh6 a6 HP HH5
  go_wp2_with fail
  go_loopw [24] (fun i wr => ∃ k bk, k ≤ m ∧ i = .int .i64 ((k : Nat) : Int) ∧ List.length bk = m ∧ Row wr A2 c2 bk ∧ Alt (blockOf A2) w6 wr) (fun i _ => m - (intOf i).toNat)
  case atStart => exact ⟨0, l, by omega, rfl, HL.out, HROW6.out, Alt.refl _ _⟩
  case round =>
    obtain ⟨k, bk, hk, rfl, hbl, hrow, halt⟩ := hrel
    have HBL := Lib.hid hbl
    have HR := Lib.hid hrow
    have HALT := Lib.hid halt
    by_cases hlt : k < m
    · obtain ⟨g, rfl, hgl, hc, hz, hput⟩ := hrow.at_ (show k < bk.length by omega)
      have hx := xor_90 (bk.getD k 0)
      have HPUT := Lib.hid (hput (bk.getD k 0 ^^^ 90))
      have hc' : wr.cell? ⟨g, k, none⟩ = some (.int .u8 ((bk.getD k 0).toNat : Int)) := hc
      clear hbl hrow halt hput hc
      generalize bk.getD k 0 ^^^ 90 = y at *
      generalize bk.getD k 0 = x at *
      go_wp2
      go_roundw
      case rel => exact ⟨k + 1, bk.set k y, by omega, by go_num, by rw [List.length_set]; exact HBL.out, HPUT.out, Alt.set (R := blockOf (some ⟨g, 0, none⟩)) (p := ⟨g, k, none⟩) HALT.out (.inl ⟨_, rfl, rfl⟩) _⟩
      case measure => simp [intOf]; omega
    · obtain rfl : k = m := by omega
      have HB7 := Lib.hid (HB6.out.trans (halt.to (B := w.heap.size) (fun j hj => by have := (HGE.out j hj).1; omega) HB6.out.size))
      have HW7 := Lib.hid (HW6.out.alt halt (by intro hb; have := (HGE.out _ hb).2; omega))
      have HH7 : Hid (HashAt wr w4.heap.size 91 l) := by
        obtain ⟨s, pt, hp, hW, hs, ht⟩ := HH6.out
        exact ⟨s, pt, hp, hW.alt halt (by intro hb; have := (HGE.out _ hb).2; omega), hs, ht⟩
      have hrange : ∀ W, Below wr.heap.size wr W → W.rangeAt w3.heap.size 0 cl := by
        intro W hW j v hv
        have := (HW7.out.below hW HW7.out.lt).at_ j
        rw [Nat.zero_add, this, HCD.out, List.getElem?_toArray]
        exact hv
      have HSUM : Hid (∀ W, Below wr.heap.size wr W → Calls Tryz.prog 18 #[.pointer (some ⟨w4.heap.size, 0, none⟩)] W fun e w' => e = .returned (.agg cl.toArray) ∧ Below wr.heap.size wr w') := by
        intro W hW
        have h := hsum_any w4.heap.size _ l W (HE.out.at_ (HB7.out.trans (hW.mono HB7.out.size))).tabs (HH7.out.below hW HH7.out.lt) (by rw [HL.out]; omega)
        rw [← HDG.out, HCS.out] at h
        exact h.mono fun e w' ⟨he, hb⟩ => ⟨he, hW.trans (hb.mono hW.size)⟩
      have hld : ∀ W, Below wr.heap.size wr W → (loadVar 28 ⟨w3.heap.size, 0, none⟩).run Tryz.prog W = .ok (.agg cl.toArray) W := fun W hW => run_loadVar_mid (P := Tryz.prog) W w3.heap.size 0 28 cl _ (hrange W hW) HUN.out rfl HIL.out
      have hla : ∀ W, Below wr.heap.size wr W → (Instr.loadAt 28 (.pointer (some ⟨w3.heap.size, 0, none⟩))).run Tryz.prog W = .ok (.agg cl.toArray) W := fun W hW => run_loadAt_mid (P := Tryz.prog) W w3.heap.size 0 28 cl _ (hrange W hW) HUN.out rfl HIL.out
      have hla0 := hla _ (Below.refl wr.heap.size wr).drew
      have hld0 : (loadVar 28 ⟨w3.heap.size, 0, none⟩).run Tryz.prog wr.drew = .ok (.agg cl.toArray) wr.drew := hld _ (Below.refl _ _).drew
      have heq := HEQ2.out
      have hS0 := (Below.refl wr.heap.size wr).drew
      have HRG := Lib.hid hrange
      clear hbl hrow halt hrange
      go_wp2_with fail
      refine wp_region_held_drew (S := fun w' => Below wr.heap.size wr w') (by kernel_rfl) (Below.refl _ _).drew (fun hH => ?_)
      refine wpAnyH_take (i := 0) (oi := { dst := some 34, op := _, type := _, pos := _, after := _, guard := none }) (v := .pointer (some ⟨w4.heap.size, 0, none⟩)) rfl (by kernel_rfl) (by kernel_rfl) (by kernel_rfl) (fun _ _ _ h => h) (Or.inl ⟨by rfl, ?_⟩) hH ?_
      · intro W hSw
        go_simp
      refine wpAnyH_take (i := 2) (oi := _) (v := .agg cl.toArray) rfl (by kernel_rfl) (by kernel_rfl) (by kernel_rfl) (fun _ _ _ h => h) (yieldsIf_load_mid (by rfl) _ _ rfl _ _ rfl _ _ (fun W hW => HRG.out W hW) HUN.out rfl HIL.out) hH ?_
      refine wpAnyH_ready (rs := [1]) (by kernel_rfl) (by simp) ?_
      refine AllReadyH.cons (o := _) rfl (fun K hK => ?_) AllReadyH.nil
      rw [if_pos (by rfl)]
      go_simp
      refine (HSUM.out _ hH).mono ?_
      rintro e w' ⟨rfl, hS⟩
      go_simp
      refine hK.out _ _ hS (fun hH => ?_)
      refine wpAnyH_take (i := 3) (oi := { dst := some 37, op := _, type := _, pos := _, after := _, guard := none }) (v := .bool true) rfl (by kernel_rfl) (by kernel_rfl) (by kernel_rfl) (fun _ _ _ h => h) (Or.inl ⟨by rfl, ?_⟩) hH ?_
      · intro W hSw
        go_simp
      refine wpAnyH_take (i := 4) (oi := { dst := some 38, op := _, type := _, pos := _, after := _, guard := none }) (v := .bool true) rfl (by kernel_rfl) (by kernel_rfl) (by kernel_rfl) (fun _ _ _ h => h) (Or.inl ⟨by rfl, ?_⟩) hH ?_
      · intro W hSw
        go_simp
      refine wpAnyH_take (i := 5) (oi := { dst := some 39, op := _, type := _, pos := _, after := _, guard := some (4, true) }) (v := .pointer (some ⟨w4.heap.size, 0, none⟩)) rfl (by kernel_rfl) (by kernel_rfl) (by kernel_rfl) (fun _ _ _ h => h) (Or.inl ⟨by rfl, ?_⟩) hH ?_
      · intro W hSw
        go_simp
      refine wpAnyH_take (i := 7) (oi := _) (v := .agg cl.toArray) rfl (by kernel_rfl) (by kernel_rfl) (by kernel_rfl) (fun _ _ _ h => h) (yieldsIf_load_mid (by rfl) _ _ rfl _ _ rfl _ _ (fun W hW => HRG.out W hW) HUN.out rfl HIL.out) hH ?_
      refine wpAnyH_ready (rs := [6]) (by kernel_rfl) (by simp) ?_
      refine AllReadyH.cons (o := _) rfl (fun K hK => ?_) AllReadyH.nil
      rw [if_pos (by rfl)]
      go_simp
      refine (HSUM.out _ hH).mono ?_
      rintro e w' ⟨rfl, hS⟩
      go_simp
      refine hK.out _ _ hS (fun hH => ?_)
      refine wpAnyH_take (i := 8) (oi := { dst := some 42, op := _, type := _, pos := _, after := _, guard := some (4, true) }) (v := .bool true) rfl (by kernel_rfl) (by kernel_rfl) (by kernel_rfl) (fun _ _ _ h => h) (Or.inl ⟨by rfl, ?_⟩) hH ?_
      · intro W hSw
        go_simp
      refine wpAnyH_take (i := 9) (oi := { dst := some 43, op := _, type := _, pos := _, after := _, guard := none }) (v := .bool true) rfl (by kernel_rfl) (by kernel_rfl) (by kernel_rfl) (fun _ _ _ h => h) (Or.inl ⟨by rfl, ?_⟩) hH ?_
      · intro W hSw
        go_simp
      refine wpAnyH_take (i := 10) (oi := { dst := some 2, op := _, type := _, pos := _, after := _, guard := none }) (v := .bool true) rfl (by kernel_rfl) (by kernel_rfl) (by kernel_rfl) (fun _ _ _ h => h) (Or.inl ⟨by rfl, ?_⟩) hH ?_
      · intro W hSw
        go_simp
      refine wpAnyH_done (by kernel_rfl) ?_ _
      go_wp2
      go_ret
      exact ⟨rfl, HB7.out.trans (hH.mono HB7.out.size)⟩
end Go.Proofs.YtbljoeeekhdjkaaGreatDoor

/-
  DiskAll, walked.
-/
import Derived.Test.YtjoinnjhpfakpaaGreatDoorR13L
import Derived.Test.YtjoinnjhpfakpaaGreatDoorText
namespace Go.Proofs.YtjoinnjhpfakpaaGreatDoor
open Go.RowKit

/-- Both disks in memory, alike. -/
structure Both (W w : World) (b rb : Nat) (s : DS) (N : Nat → Prop) (p : RP) : Prop where
  dk : Dk W N b s
  rk : RkP W N rb s p
  low : ∀ j, N j → w.heap.size ≤ j
  bel : Below w.heap.size w W
theorem Both.later {W W' w : World} {b rb : Nat} {s : DS} {N : Nat → Prop} {p : RP} (h : Both W w b rb s N p) (hb : Below W.heap.size W W') : Both W' w b rb s N p :=
  ⟨h.dk.below hb, h.rk.below hb, h.low, h.bel.trans (hb.mono h.bel.size)⟩
/-- The program's disk has turned, the document's not yet. -/
structure Half (W w : World) (b rb : Nat) (s s' : DS) (N : Nat → Prop) (p : RP) : Prop where
  dk : Dk W N b s'
  rk : RkP W N rb s p
  low : ∀ j, N j → w.heap.size ≤ j
  bel : Below w.heap.size w W
theorem Both.half {W W' w : World} {b rb : Nat} {s s' : DS} {N : Nat → Prop} {p : RP} (h : Both W w b rb s N p) (hbr : b < rb) (hd : Dk W' N b s') (ha : Alt (· = b) W W') : Half W' w b rb s s' N p := by
  have hnb := h.dk.choose_spec.nb
  exact ⟨hd, h.rk.aside ha hbr hnb, h.low, ((Alt.of_below (R := (· = b)) h.bel).trans ha).to (fun j hj => by have := h.low b hnb; omega) (Nat.le_refl _)⟩
theorem Half.later {W W' w : World} {b rb : Nat} {s s' : DS} {N : Nat → Prop} {p : RP} (h : Half W w b rb s s' N p) (hb : Below W.heap.size W W') : Half W' w b rb s s' N p :=
  ⟨h.dk.below hb, h.rk.below hb, h.low, h.bel.trans (hb.mono h.bel.size)⟩
theorem Half.both {W W' w : World} {b rb : Nat} {s s' : DS} {N : Nat → Prop} {p : RP} (h : Half W w b rb s s' N p) (hbr : b < rb) (hr : RDid N rb s' W W') (ha : Alt (Ref N rb) W W') : ∃ N' p', Both W' w b rb s' N' p' := by
  obtain ⟨N', hm, p', hp⟩ := hr
  obtain ⟨pd, hd⟩ := h.dk
  refine ⟨N', p', ⟨pd, hd.aside ha hbr hm hp.nlt⟩, hp, fun j hj => (hm.2 j hj).elim (h.low j) (fun e => Nat.le_trans h.bel.size e), ((Alt.of_below (R := Ref N rb) h.bel).trans ha).to (fun j hj => h.low j hj.2) (Nat.le_refl _)⟩
/-- An operation's own variable. -/
def OpAt (W : World) (g : Nat) (q : Qo) (fn dn tn : List UInt8) : Prop := Whole W g 30 #[.int .i64 q.kind, .int .i64 q.n, .string ⟨fn.toArray⟩, .string ⟨dn.toArray⟩, .string ⟨tn.toArray⟩, .int .u64 (q.keep : Int)]
set_option maxRecDepth 100000 in
set_option maxHeartbeats 8000000 in
theorem wdall_any (A0 : Option Addr) (c0 : Nat) (qs : List Qo) (w : World) (hA : ArgG encQ noQ 6 w A0 c0 qs) (hq : ∀ q ∈ qs, (-(2 ^ 63) ≤ q.n ∧ q.n < 2 ^ 63) ∧ q.keep < 2 ^ 64) (hbeg : Calls Tryz.prog 5 #[] w fun e w' => e = .returned (.bool true) ∧ Below w.heap.size w w') :
    Calls Tryz.prog 3 #[.slice A0 qs.length c0] w fun e w' => e = .returned (.bool true) ∧ Below w.heap.size w w' := by
  have HBEG := Lib.hid hbeg
  have HA := Lib.hid hA
  have HQ := Lib.hid hq
  clear hbeg hA hq
  go_enter Tryz.func3, Tryz.ntmps3
  go_wp2_with fail
  refine HBEG.out.mono ?_
  rintro e w1 ⟨rfl, hb⟩
  have B1 := Lib.hid hb
  clear hb HBEG
  go_wp2_with fail
  refine (dnew_any (· = w1.heap.size) w1 rfl (fun j hj => Nat.le_of_eq hj)).mono ?_
  rintro e w2 ⟨rfl, hd2, hb2⟩
  have hbw : w1.heap.size < w2.heap.size := hd2.choose_spec.cells.lt
  have hlo : w.heap.size ≤ w1.heap.size := B1.out.size
  have D2 := Lib.hid hd2
  have B2 := Lib.hid (B1.out.trans (hb2.mono hlo))
  clear hd2 hb2
  generalize w1.heap.size = b at *
  go_wp2_with fail
  refine (rnew_any (fun j => j = b ∨ j = w2.heap.size) w2 (.inr rfl) (fun j hj => by omega)).mono ?_
  rintro e w3 ⟨rfl, ⟨p0, hr3⟩, hb3⟩
  have hlo2 : w.heap.size ≤ w2.heap.size := B2.out.size
  have BO3 : Hid (∃ N p, Both w3 w b w2.heap.size DS.new N p) := by
    obtain ⟨pd, hd⟩ := D2.out
    exact ⟨fun j => j = b ∨ j = w2.heap.size, p0, ⟨pd, hd.aside (Alt.of_below (R := Ref (· = b) w2.heap.size) hb3) hbw ⟨fun j hj => .inl hj, fun j hj => hj.elim .inl (fun e => .inr (Nat.le_of_eq e.symm))⟩ hr3.nlt⟩, hr3, fun j hj => by omega, B2.out.trans (hb3.mono hlo2)⟩
  clear hr3 hb3 D2 B2 B1
  generalize w2.heap.size = rb at *
  go_wp2_with fail
  go_loopw [6] (fun s6 wr => ∃ i : Nat, i ≤ qs.length ∧ i ≤ 60 ∧ s6 = .int .i64 (i : Int) ∧ Hid (∃ s N p, Both wr w b rb s N p ∧ GoodI s i)) (fun i _ => qs.length - (intOf i).toNat)
  case atStart =>
    obtain ⟨N, p, h⟩ := BO3.out
    exact ⟨0, Nat.zero_le _, by omega, rfl, DS.new, N, p, h, goodI_new⟩
  case round =>
    obtain ⟨i, hi, hi60, rfl, ⟨s, N, p, hB, hG⟩⟩ := hrel
    have HBO := Lib.hid hB
    have HG := Lib.hid hG
    clear hB hG BO3
    by_cases hlt : i < qs.length ∧ i < 60
    · have hlt1 : (i : Int) < (qs.length : Int) := by omega
      have hlt2 : (i : Int) < 60 := by omega
      obtain ⟨bq, oq, hAe, hrow⟩ := (HA.out.later eltQ HBO.out.bel).2.2.2 (by omega)
      have HRX := Lib.hid (hrow i hlt.1)
      have hqm : qs.getD i noQ ∈ qs := by
        rw [List.getD_eq_getElem?_getD, List.getElem?_eq_getElem hlt.1]
        exact List.getElem_mem hlt.1
      have HQI := Lib.hid (HQ.out _ hqm)
      generalize qs.getD i noQ = q at *
      have hNg : ¬ N wr.heap.size := fun e => Nat.lt_irrefl _ (HBO.out.rk.nlt _ e)
      have HINFO : Hid ((Tryz.prog.info? 30).map (·.size) = some (encQ q).length) := by show _ = _; rw [eltQ.len]; kernel_rfl
      have hWx := Whole.made wr 30 (encQ noQ).toArray
      have HWX := Lib.hid hWx
      clear hrow hqm hWx
      subst hAe
      go_upto_region 9 with (first
        | (refine wpList_load_mid rfl 30 _ rfl bq (oq + i * 6) rfl (encQ q) _ HRX.out Tryz.underlying30 rfl HINFO.out ?_)
        | ((refine wpList_store_whole rfl 30 _ _ rfl wr.heap.size (encQ q).toArray rfl rfl 30 _ HWX.out (by rw [List.size_toArray]; exact HINFO.out) (by simp [encQ, noQ]) (by simp [encQ, Value.oneCell']) ?_); intro w4 hWn hGn; have HW4 := Lib.hid hWn; have HG4 := Lib.hid hGn; clear hWn hGn))
      have hb4 : Below wr.heap.size wr w4 := ((Alt.of_below (R := fun _ => False) ((Below.refl wr.heap.size wr).alloc (Nat.le_refl _) (.cells (encQ noQ).toArray 30))).then (Alt.of_grown (R := (· = wr.heap.size)) HG4.out (fun j hj => (Option.some.inj hj).symm)) (fun k hk e => by omega)).none
      have HB4 := Lib.hid hb4
      clear hb4 HG4 HWX HINFO HRX
      refine wp_region_K (fun W => W.cell? ⟨wr.heap.size, 2, none⟩ = some (.string ⟨q.file.toArray⟩) ∧ W.cell? ⟨wr.heap.size, 3, none⟩ = some (.string ⟨q.dest.toArray⟩) ∧ W.cell? ⟨wr.heap.size, 4, none⟩ = some (.string ⟨q.b.toArray⟩)) 10 (by kernel_rfl) ?_
      change wpAnyK _ _ _ _ _ _ _ _ _ (World.drew w4)
      have hw5 : Whole (World.drew w4) wr.heap.size 30 (encQ q).toArray := HW4.out
      have hb5 : Below wr.heap.size wr (World.drew w4) := HB4.out.drew
      clear HW4 HB4
      generalize World.drew w4 = w5 at *
      have HW5 := Lib.hid hw5
      have HB5 := Lib.hid hb5
      have hS0 : w5.cell? ⟨wr.heap.size, 2, none⟩ = some (.string ⟨q.file.toArray⟩) ∧ w5.cell? ⟨wr.heap.size, 3, none⟩ = some (.string ⟨q.dest.toArray⟩) ∧ w5.cell? ⟨wr.heap.size, 4, none⟩ = some (.string ⟨q.b.toArray⟩) := ⟨(hw5.at_ 2).trans rfl, (hw5.at_ 3).trans rfl, (hw5.at_ 4).trans rfl⟩
      have z2 := hw5.thawed 2
      have z3 := hw5.thawed 3
      have z4 := hw5.thawed 4
      obtain ⟨d2, d3, d4⟩ := hS0
      have hS0 : w5.cell? ⟨wr.heap.size, 2, none⟩ = some (.string ⟨q.file.toArray⟩) ∧ w5.cell? ⟨wr.heap.size, 3, none⟩ = some (.string ⟨q.dest.toArray⟩) ∧ w5.cell? ⟨wr.heap.size, 4, none⟩ = some (.string ⟨q.b.toArray⟩) := ⟨d2, d3, d4⟩
      clear hw5 hb5
      refine wpAnyK_take0 (i := 0) (oi := { dst := some 32, op := _, type := _, pos := _, after := _, guard := none }) (v := .pointer (some ⟨wr.heap.size, 2, none⟩)) rfl (by kernel_rfl) (fun _ _ _ h => h) (Or.inl ⟨by rfl, fun W hW => ?_⟩) (fun _ => hS0) ?_
      · go_simp
      refine wpAnyK_take0 (i := 3) (oi := { dst := some 35, op := _, type := _, pos := _, after := _, guard := none }) (v := .pointer (some ⟨wr.heap.size, 3, none⟩)) rfl (by kernel_rfl) (fun _ _ _ h => h) (Or.inl ⟨by rfl, fun W hW => ?_⟩) (fun _ => hS0) ?_
      · go_simp
      refine wpAnyK_take0 (i := 6) (oi := { dst := some 38, op := _, type := _, pos := _, after := _, guard := none }) (v := .pointer (some ⟨wr.heap.size, 4, none⟩)) rfl (by kernel_rfl) (fun _ _ _ h => h) (Or.inl ⟨by rfl, fun W hW => ?_⟩) (fun _ => hS0) ?_
      · go_simp
      try simp only [Act.put]
      try go_simp
      refine wpAnyK_take (i := 1) (oi := { dst := some 33, op := _, type := _, pos := _, after := _, guard := none }) (v := .string ⟨q.file.toArray⟩) rfl (by kernel_rfl) (fun _ _ _ h => h) (Or.inl ⟨by rfl, fun W hW => ?_⟩) hS0 ?_
      · obtain ⟨s0, s1, s2⟩ := hW
        go_simp
      refine wpAnyK_take (i := 4) (oi := { dst := some 36, op := _, type := _, pos := _, after := _, guard := none }) (v := .string ⟨q.dest.toArray⟩) rfl (by kernel_rfl) (fun _ _ _ h => h) (Or.inl ⟨by rfl, fun W hW => ?_⟩) hS0 ?_
      · obtain ⟨s0, s1, s2⟩ := hW
        go_simp
      refine wpAnyK_take (i := 7) (oi := { dst := some 39, op := _, type := _, pos := _, after := _, guard := none }) (v := .string ⟨q.b.toArray⟩) rfl (by kernel_rfl) (fun _ _ _ h => h) (Or.inl ⟨by rfl, fun W hW => ?_⟩) hS0 ?_
      · obtain ⟨s0, s1, s2⟩ := hW
        go_simp
      try simp only [Act.put]
      try go_simp
      refine wpAnyK_ready (rs := [2]) (by kernel_rfl) (by simp) ?_
      refine AllReadyK.cons (o := _) rfl (fun K hK => ?_) AllReadyK.nil
      rw [if_pos (by rfl)]
      go_simp
      refine (text_any q.file 110 _).mono ?_
      rintro e w' ⟨rfl, rfl⟩
      refine hK _ _ (fun _ => hS0) ?_
      clear hK K
      refine wpAnyK_take0 (i := 9) (oi := { dst := some 41, op := _, type := _, pos := _, after := _, guard := none }) (v := .pointer (some ⟨wr.heap.size, 2, none⟩)) rfl (by kernel_rfl) (fun _ _ _ h => h) (Or.inl ⟨by rfl, fun W hW => ?_⟩) (fun _ => hS0) ?_
      · go_simp
      refine wpAnyK_ready (rs := [5]) (by kernel_rfl) (by simp) ?_
      refine AllReadyK.cons (o := _) rfl (fun K hK => ?_) AllReadyK.nil
      rw [if_pos (by rfl)]
      go_simp
      refine (text_any q.dest 110 _).mono ?_
      rintro e w' ⟨rfl, rfl⟩
      refine hK _ _ (fun _ => hS0) ?_
      clear hK K
      refine wpAnyK_ready (rs := [8]) (by kernel_rfl) (by simp) ?_
      refine AllReadyK.cons (o := _) rfl (fun K hK => ?_) AllReadyK.nil
      rw [if_pos (by rfl)]
      go_simp
      refine (text_any q.b 30 _).mono ?_
      rintro e w' ⟨rfl, rfl⟩
      refine hK _ _ (fun _ => hS0) ?_
      clear hK K
      obtain ⟨fn, hfn⟩ : ∃ fn, fn = q.file.take 110 := ⟨_, rfl⟩
      obtain ⟨dn, hdn⟩ : ∃ dn, dn = q.dest.take 110 := ⟨_, rfl⟩
      obtain ⟨tn, htn⟩ : ∃ tn, tn = q.b.take 30 := ⟨_, rfl⟩
      have hfl : fn.length ≤ 110 := by rw [hfn]; exact List.length_take_le _ _
      have hdl : dn.length ≤ 110 := by rw [hdn]; exact List.length_take_le _ _
      have htl : tn.length ≤ 30 := by rw [htn]; exact List.length_take_le _ _
      rw [← hfn, ← hdn, ← htn]
      clear hfn hdn htn
      refine wpAnyK_ready (rs := [10]) (by kernel_rfl) (by simp) ?_
      refine AllReadyK.cons (o := _) rfl (fun K hK => ?_) AllReadyK.nil
      rw [if_pos (by rfl)]
      go_simp
      refine hK _ _ (fun h => by cases h) ?_
      clear hK K
      refine wpAnyK_ready (rs := [11]) (by kernel_rfl) (by simp) ?_
      refine AllReadyK.cons (o := _) rfl (fun K hK => ?_) AllReadyK.nil
      rw [if_pos (by rfl)]
      go_simp
      refine hK _ _ (fun h => by cases h) ?_
      clear hK K
      refine wpAnyK_ready (rs := [12]) (by kernel_rfl) (by simp) ?_
      refine AllReadyK.cons (o := _) rfl (fun K hK => ?_) AllReadyK.nil
      rw [if_pos (by rfl)]
      go_simp
      refine hK _ _ (fun h => by cases h) ?_
      clear hK K
      refine wpAnyK_ready (rs := [13]) (by kernel_rfl) (by simp) ?_
      refine AllReadyK.cons (o := _) rfl (fun K hK => ?_) AllReadyK.nil
      rw [if_pos (by rfl)]
      go_simp
      refine hK _ _ (fun h => by cases h) ?_
      clear hK K
      refine wpAnyK_ready (rs := [14]) (by kernel_rfl) (by simp) ?_
      refine AllReadyK.cons (o := _) rfl (fun K hK => ?_) AllReadyK.nil
      rw [if_pos (by rfl)]
      go_simp
      refine hK _ _ (fun h => by cases h) ?_
      clear hK K
      refine wpAnyK_done (by kernel_rfl) ?_ _
      try simp only [Act.put]
      try go_simp
      have hw6 : Whole (((w5.setCell ⟨wr.heap.size, 2, none⟩ (.string ⟨fn.toArray⟩)).setCell ⟨wr.heap.size, 3, none⟩ (.string ⟨dn.toArray⟩)).setCell ⟨wr.heap.size, 4, none⟩ (.string ⟨tn.toArray⟩)) wr.heap.size 30 #[.int .i64 q.kind, .int .i64 q.n, .string ⟨fn.toArray⟩, .string ⟨dn.toArray⟩, .string ⟨tn.toArray⟩, .int .u64 (q.keep : Int)] := ((HW5.out.put 2 _).put 3 _).put 4 _
      have hb6 : Below wr.heap.size wr (((w5.setCell ⟨wr.heap.size, 2, none⟩ (.string ⟨fn.toArray⟩)).setCell ⟨wr.heap.size, 3, none⟩ (.string ⟨dn.toArray⟩)).setCell ⟨wr.heap.size, 4, none⟩ (.string ⟨tn.toArray⟩)) := ((((Alt.of_below (R := fun _ => False) HB5.out).set (p := ⟨wr.heap.size, 2, none⟩) (.inr (Nat.le_refl _)) _).set (p := ⟨wr.heap.size, 3, none⟩) (.inr (Nat.le_refl _)) _).set (p := ⟨wr.heap.size, 4, none⟩) (.inr (Nat.le_refl _)) _).none
      have HB6 := Lib.hid (HBO.out.later hb6)
      have hgb : b < wr.heap.size := HBO.out.dk.choose_spec.nlt b HBO.out.dk.choose_spec.nb
      have hgr : rb < wr.heap.size := HBO.out.rk.nlt rb HBO.out.rk.nb
      clear hb6 z2 z3 z4 hS0 d2 d3 d4 HB5 HW5 HBO
      generalize ((w5.setCell ⟨wr.heap.size, 2, none⟩ (.string ⟨fn.toArray⟩)).setCell ⟨wr.heap.size, 3, none⟩ (.string ⟨dn.toArray⟩)).setCell ⟨wr.heap.size, 4, none⟩ (.string ⟨tn.toArray⟩) = w6 at *
      have HW6 := Lib.hid hw6
      have o0 : w6.cell? ⟨wr.heap.size, 0, none⟩ = some (.int .i64 q.kind) := (hw6.at_ 0).trans rfl
      have o1 : w6.cell? ⟨wr.heap.size, 1, none⟩ = some (.int .i64 q.n) := (hw6.at_ 1).trans rfl
      have o2 : w6.cell? ⟨wr.heap.size, 2, none⟩ = some (.string ⟨fn.toArray⟩) := (hw6.at_ 2).trans rfl
      have o5 : w6.cell? ⟨wr.heap.size, 5, none⟩ = some (.int .u64 (q.keep : Int)) := (hw6.at_ 5).trans rfl
      clear hw6
      have HBG : Hid (Good s) := HG.out.good (by omega)
      by_cases hk0 : q.kind = 0
      · have e0 : (q.kind == 0) = true := by simp [hk0]
        go_upto_region 16 with fail
        refine wp_region_K (fun W => W.cell? ⟨wr.heap.size, 2, none⟩ = some (.string ⟨fn.toArray⟩) ∧ W.cell? ⟨wr.heap.size, 4, none⟩ = some (.string ⟨tn.toArray⟩)) 13 (by kernel_rfl) ?_
        change wpAnyK _ _ _ _ _ _ _ _ _ (World.drew w6)
        have hw7 : Whole (World.drew w6) wr.heap.size 30 #[.int .i64 q.kind, .int .i64 q.n, .string ⟨fn.toArray⟩, .string ⟨dn.toArray⟩, .string ⟨tn.toArray⟩, .int .u64 (q.keep : Int)] := HW6.out
        have HB7 : Hid (Both (World.drew w6) w b rb s N p) := HB6.out.later (Below.refl _ _).drew
        clear HW6 HB6 o0 o1 o2 o5
        generalize World.drew w6 = w7 at *
        have HW7 := Lib.hid hw7
        have hS0 : w7.cell? ⟨wr.heap.size, 2, none⟩ = some (.string ⟨fn.toArray⟩) ∧ w7.cell? ⟨wr.heap.size, 4, none⟩ = some (.string ⟨tn.toArray⟩) := ⟨(hw7.at_ 2).trans rfl, (hw7.at_ 4).trans rfl⟩
        clear hw7
        refine wpAnyK_take0 (i := 0) (oi := { dst := some 70, op := _, type := _, pos := _, after := _, guard := none }) (v := .pointer (some ⟨b, 0, none⟩)) rfl (by kernel_rfl) (fun _ _ _ h => h) (Or.inl ⟨by rfl, fun W hW => ?_⟩) (fun _ => hS0) ?_
        · go_simp
        refine wpAnyK_take0 (i := 1) (oi := { dst := some 71, op := _, type := _, pos := _, after := _, guard := none }) (v := .pointer (some ⟨wr.heap.size, 2, none⟩)) rfl (by kernel_rfl) (fun _ _ _ h => h) (Or.inl ⟨by rfl, fun W hW => ?_⟩) (fun _ => hS0) ?_
        · go_simp
        refine wpAnyK_take0 (i := 3) (oi := { dst := some 73, op := _, type := _, pos := _, after := _, guard := none }) (v := .pointer (some ⟨wr.heap.size, 4, none⟩)) rfl (by kernel_rfl) (fun _ _ _ h => h) (Or.inl ⟨by rfl, fun W hW => ?_⟩) (fun _ => hS0) ?_
        · go_simp
        refine wpAnyK_take0 (i := 6) (oi := { dst := some 76, op := _, type := _, pos := _, after := _, guard := none }) (v := .pointer (some ⟨rb, 0, none⟩)) rfl (by kernel_rfl) (fun _ _ _ h => h) (Or.inl ⟨by rfl, fun W hW => ?_⟩) (fun _ => hS0) ?_
        · go_simp
        refine wpAnyK_take0 (i := 7) (oi := { dst := some 77, op := _, type := _, pos := _, after := _, guard := none }) (v := .pointer (some ⟨wr.heap.size, 2, none⟩)) rfl (by kernel_rfl) (fun _ _ _ h => h) (Or.inl ⟨by rfl, fun W hW => ?_⟩) (fun _ => hS0) ?_
        · go_simp
        refine wpAnyK_take0 (i := 9) (oi := { dst := some 79, op := _, type := _, pos := _, after := _, guard := none }) (v := .pointer (some ⟨wr.heap.size, 4, none⟩)) rfl (by kernel_rfl) (fun _ _ _ h => h) (Or.inl ⟨by rfl, fun W hW => ?_⟩) (fun _ => hS0) ?_
        · go_simp
        try simp only [Act.put]
        try go_simp
        refine wpAnyK_take (i := 2) (oi := { dst := some 72, op := _, type := _, pos := _, after := _, guard := none }) (v := .string ⟨fn.toArray⟩) rfl (by kernel_rfl) (fun _ _ _ h => h) (Or.inl ⟨by rfl, fun W hW => ?_⟩) hS0 ?_
        · obtain ⟨s0, s1⟩ := hW
          go_simp
        refine wpAnyK_take (i := 4) (oi := { dst := some 74, op := _, type := _, pos := _, after := _, guard := none }) (v := .string ⟨tn.toArray⟩) rfl (by kernel_rfl) (fun _ _ _ h => h) (Or.inl ⟨by rfl, fun W hW => ?_⟩) hS0 ?_
        · obtain ⟨s0, s1⟩ := hW
          go_simp
        refine wpAnyK_take (i := 8) (oi := { dst := some 78, op := _, type := _, pos := _, after := _, guard := none }) (v := .string ⟨fn.toArray⟩) rfl (by kernel_rfl) (fun _ _ _ h => h) (Or.inl ⟨by rfl, fun W hW => ?_⟩) hS0 ?_
        · obtain ⟨s0, s1⟩ := hW
          go_simp
        refine wpAnyK_take (i := 10) (oi := { dst := some 80, op := _, type := _, pos := _, after := _, guard := none }) (v := .string ⟨tn.toArray⟩) rfl (by kernel_rfl) (fun _ _ _ h => h) (Or.inl ⟨by rfl, fun W hW => ?_⟩) hS0 ?_
        · obtain ⟨s0, s1⟩ := hW
          go_simp
        try simp only [Act.put]
        try go_simp
        refine wpAnyK_ready (rs := [5]) (by kernel_rfl) (by simp) ?_
        refine AllReadyK.cons (o := _) rfl (fun K hK => ?_) AllReadyK.nil
        rw [if_pos (by rfl)]
        go_simp
        refine (dwrite_any N b s fn tn w7 HB7.out.dk  (by omega) (by omega) (by have := HBG.out.ops; omega) HBG.out.left).mono ?_
        rintro e w8 ⟨rfl, hd8, ha8⟩
        have hw8 := Whole.alt HW7.out ha8 (fun e => by omega)
        have HH8 := Lib.hid (HB7.out.half hbw hd8 ha8)
        have hs8 : w7.heap.size ≤ w8.heap.size := ha8.size
        have HW8 := Lib.hid hw8
        have hS8 : w8.cell? ⟨wr.heap.size, 2, none⟩ = some (.string ⟨fn.toArray⟩) ∧ w8.cell? ⟨wr.heap.size, 4, none⟩ = some (.string ⟨tn.toArray⟩) := ⟨(hw8.at_ 2).trans rfl, (hw8.at_ 4).trans rfl⟩
        refine hK _ _ (fun _ => hS8) ?_
        clear hK K hd8 ha8 hw8 hS0 HW7 HB7
        refine wpAnyK_ready (rs := [11]) (by kernel_rfl) (by simp) ?_
        refine AllReadyK.cons (o := _) rfl (fun K hK => ?_) AllReadyK.nil
        rw [if_pos (by rfl)]
        go_simp
        refine (rwrite_any N rb s p fn tn w8 HH8.out.rk HBG.out (by omega)).mono ?_
        rintro e w9 ⟨rfl, hr9, ha9⟩
        have hw9 := Whole.alt HW8.out ha9 (fun e => hNg e.2)
        have hS9 : w9.cell? ⟨wr.heap.size, 2, none⟩ = some (.string ⟨fn.toArray⟩) ∧ w9.cell? ⟨wr.heap.size, 4, none⟩ = some (.string ⟨tn.toArray⟩) := ⟨(hw9.at_ 2).trans rfl, (hw9.at_ 4).trans rfl⟩
        obtain ⟨N', p', hbx⟩ := HH8.out.both hbw hr9 ha9
        have HBX := Lib.hid hbx
        have HGX := Lib.hid (goodI_step HG.out (.wr fn tn) (by simp))
        refine hK _ _ (fun _ => hS9) ?_
        clear hK K hr9 ha9 hw9 hS8 HW8 HH8 hbx
        generalize s.step (.wr fn tn) = r at *
        obtain ⟨cd, s'⟩ := r
        simp only at *
        refine wpAnyK_ready (rs := [12]) (by kernel_rfl) (by simp) ?_
        refine AllReadyK.cons (o := _) rfl (fun K hK => ?_) AllReadyK.nil
        rw [if_pos (by rfl)]
        go_simp
        refine hK _ _ (fun _ => hS9) ?_
        clear hK K
        refine wpAnyK_ready (rs := [13]) (by kernel_rfl) (by simp) ?_
        refine AllReadyK.cons (o := _) rfl (fun K hK => ?_) AllReadyK.nil
        rw [if_pos (by rfl)]
        go_simp
        refine hK _ _ (fun h => by cases h) ?_
        clear hK K hS9
        refine wpAnyK_done (by kernel_rfl) ?_ _
        try simp only [Act.put]
        try go_simp
        go_wp2_with (go_at_call 23; refine (same_any N' b rb s' p' _ HBX.out.dk HBX.out.rk (HGX.out.good (by omega))).mono ?_; rintro e w9 ⟨rfl, hb9⟩; have HB9 := Lib.hid (HBX.out.later hb9); clear hb9)
        go_roundw
        case rel => exact ⟨i + 1, hlt.1, by omega, by go_num, s', N', p', HB9.out, HGX.out⟩
        case measure => simp [intOf]; omega
      · by_cases hk1 : q.kind = 1
        · have e0 : (q.kind == 0) = false := by simp [hk0]
          have e1 : (q.kind == 1) = true := by simp [hk1]
          go_upto_region 18 with fail
          refine wp_region_K (fun W => W.cell? ⟨wr.heap.size, 2, none⟩ = some (.string ⟨fn.toArray⟩) ∧ W.cell? ⟨wr.heap.size, 3, none⟩ = some (.string ⟨dn.toArray⟩)) 13 (by kernel_rfl) ?_
          change wpAnyK _ _ _ _ _ _ _ _ _ (World.drew w6)
          have hw7 : Whole (World.drew w6) wr.heap.size 30 #[.int .i64 q.kind, .int .i64 q.n, .string ⟨fn.toArray⟩, .string ⟨dn.toArray⟩, .string ⟨tn.toArray⟩, .int .u64 (q.keep : Int)] := HW6.out
          have HB7 : Hid (Both (World.drew w6) w b rb s N p) := HB6.out.later (Below.refl _ _).drew
          clear HW6 HB6 o0 o1 o2 o5
          generalize World.drew w6 = w7 at *
          have HW7 := Lib.hid hw7
          have hS0 : w7.cell? ⟨wr.heap.size, 2, none⟩ = some (.string ⟨fn.toArray⟩) ∧ w7.cell? ⟨wr.heap.size, 3, none⟩ = some (.string ⟨dn.toArray⟩) := ⟨(hw7.at_ 2).trans rfl, (hw7.at_ 3).trans rfl⟩
          clear hw7
          refine wpAnyK_take0 (i := 0) (oi := { dst := some 85, op := _, type := _, pos := _, after := _, guard := none }) (v := .pointer (some ⟨b, 0, none⟩)) rfl (by kernel_rfl) (fun _ _ _ h => h) (Or.inl ⟨by rfl, fun W hW => ?_⟩) (fun _ => hS0) ?_
          · go_simp
          refine wpAnyK_take0 (i := 1) (oi := { dst := some 86, op := _, type := _, pos := _, after := _, guard := none }) (v := .pointer (some ⟨wr.heap.size, 2, none⟩)) rfl (by kernel_rfl) (fun _ _ _ h => h) (Or.inl ⟨by rfl, fun W hW => ?_⟩) (fun _ => hS0) ?_
          · go_simp
          refine wpAnyK_take0 (i := 3) (oi := { dst := some 88, op := _, type := _, pos := _, after := _, guard := none }) (v := .pointer (some ⟨wr.heap.size, 3, none⟩)) rfl (by kernel_rfl) (fun _ _ _ h => h) (Or.inl ⟨by rfl, fun W hW => ?_⟩) (fun _ => hS0) ?_
          · go_simp
          refine wpAnyK_take0 (i := 6) (oi := { dst := some 91, op := _, type := _, pos := _, after := _, guard := none }) (v := .pointer (some ⟨rb, 0, none⟩)) rfl (by kernel_rfl) (fun _ _ _ h => h) (Or.inl ⟨by rfl, fun W hW => ?_⟩) (fun _ => hS0) ?_
          · go_simp
          refine wpAnyK_take0 (i := 7) (oi := { dst := some 92, op := _, type := _, pos := _, after := _, guard := none }) (v := .pointer (some ⟨wr.heap.size, 2, none⟩)) rfl (by kernel_rfl) (fun _ _ _ h => h) (Or.inl ⟨by rfl, fun W hW => ?_⟩) (fun _ => hS0) ?_
          · go_simp
          refine wpAnyK_take0 (i := 9) (oi := { dst := some 94, op := _, type := _, pos := _, after := _, guard := none }) (v := .pointer (some ⟨wr.heap.size, 3, none⟩)) rfl (by kernel_rfl) (fun _ _ _ h => h) (Or.inl ⟨by rfl, fun W hW => ?_⟩) (fun _ => hS0) ?_
          · go_simp
          try simp only [Act.put]
          try go_simp
          refine wpAnyK_take (i := 2) (oi := { dst := some 87, op := _, type := _, pos := _, after := _, guard := none }) (v := .string ⟨fn.toArray⟩) rfl (by kernel_rfl) (fun _ _ _ h => h) (Or.inl ⟨by rfl, fun W hW => ?_⟩) hS0 ?_
          · obtain ⟨s0, s1⟩ := hW
            go_simp
          refine wpAnyK_take (i := 4) (oi := { dst := some 89, op := _, type := _, pos := _, after := _, guard := none }) (v := .string ⟨dn.toArray⟩) rfl (by kernel_rfl) (fun _ _ _ h => h) (Or.inl ⟨by rfl, fun W hW => ?_⟩) hS0 ?_
          · obtain ⟨s0, s1⟩ := hW
            go_simp
          refine wpAnyK_take (i := 8) (oi := { dst := some 93, op := _, type := _, pos := _, after := _, guard := none }) (v := .string ⟨fn.toArray⟩) rfl (by kernel_rfl) (fun _ _ _ h => h) (Or.inl ⟨by rfl, fun W hW => ?_⟩) hS0 ?_
          · obtain ⟨s0, s1⟩ := hW
            go_simp
          refine wpAnyK_take (i := 10) (oi := { dst := some 95, op := _, type := _, pos := _, after := _, guard := none }) (v := .string ⟨dn.toArray⟩) rfl (by kernel_rfl) (fun _ _ _ h => h) (Or.inl ⟨by rfl, fun W hW => ?_⟩) hS0 ?_
          · obtain ⟨s0, s1⟩ := hW
            go_simp
          try simp only [Act.put]
          try go_simp
          refine wpAnyK_ready (rs := [5]) (by kernel_rfl) (by simp) ?_
          refine AllReadyK.cons (o := _) rfl (fun K hK => ?_) AllReadyK.nil
          rw [if_pos (by rfl)]
          go_simp
          refine (dmove_any N b s fn dn w7 HB7.out.dk  (by omega) (by omega) (by have := HBG.out.ops; omega) HBG.out.left).mono ?_
          rintro e w8 ⟨rfl, hd8, ha8⟩
          have hw8 := Whole.alt HW7.out ha8 (fun e => by omega)
          have HH8 := Lib.hid (HB7.out.half hbw hd8 ha8)
          have hs8 : w7.heap.size ≤ w8.heap.size := ha8.size
          have HW8 := Lib.hid hw8
          have hS8 : w8.cell? ⟨wr.heap.size, 2, none⟩ = some (.string ⟨fn.toArray⟩) ∧ w8.cell? ⟨wr.heap.size, 3, none⟩ = some (.string ⟨dn.toArray⟩) := ⟨(hw8.at_ 2).trans rfl, (hw8.at_ 3).trans rfl⟩
          refine hK _ _ (fun _ => hS8) ?_
          clear hK K hd8 ha8 hw8 hS0 HW7 HB7
          refine wpAnyK_ready (rs := [11]) (by kernel_rfl) (by simp) ?_
          refine AllReadyK.cons (o := _) rfl (fun K hK => ?_) AllReadyK.nil
          rw [if_pos (by rfl)]
          go_simp
          refine (rmove_any N rb s p fn dn w8 HH8.out.rk HBG.out (by omega)).mono ?_
          rintro e w9 ⟨rfl, hr9, ha9⟩
          have hw9 := Whole.alt HW8.out ha9 (fun e => hNg e.2)
          have hS9 : w9.cell? ⟨wr.heap.size, 2, none⟩ = some (.string ⟨fn.toArray⟩) ∧ w9.cell? ⟨wr.heap.size, 3, none⟩ = some (.string ⟨dn.toArray⟩) := ⟨(hw9.at_ 2).trans rfl, (hw9.at_ 3).trans rfl⟩
          obtain ⟨N', p', hbx⟩ := HH8.out.both hbw hr9 ha9
          have HBX := Lib.hid hbx
          have HGX := Lib.hid (goodI_step HG.out (.mv fn dn) (by simp))
          refine hK _ _ (fun _ => hS9) ?_
          clear hK K hr9 ha9 hw9 hS8 HW8 HH8 hbx
          generalize s.step (.mv fn dn) = r at *
          obtain ⟨cd, s'⟩ := r
          simp only at *
          refine wpAnyK_ready (rs := [12]) (by kernel_rfl) (by simp) ?_
          refine AllReadyK.cons (o := _) rfl (fun K hK => ?_) AllReadyK.nil
          rw [if_pos (by rfl)]
          go_simp
          refine hK _ _ (fun _ => hS9) ?_
          clear hK K
          refine wpAnyK_ready (rs := [13]) (by kernel_rfl) (by simp) ?_
          refine AllReadyK.cons (o := _) rfl (fun K hK => ?_) AllReadyK.nil
          rw [if_pos (by rfl)]
          go_simp
          refine hK _ _ (fun h => by cases h) ?_
          clear hK K hS9
          refine wpAnyK_done (by kernel_rfl) ?_ _
          try simp only [Act.put]
          try go_simp
          go_wp2_with (go_at_call 23; refine (same_any N' b rb s' p' _ HBX.out.dk HBX.out.rk (HGX.out.good (by omega))).mono ?_; rintro e w9 ⟨rfl, hb9⟩; have HB9 := Lib.hid (HBX.out.later hb9); clear hb9)
          go_roundw
          case rel => exact ⟨i + 1, hlt.1, by omega, by go_num, s', N', p', HB9.out, HGX.out⟩
          case measure => simp [intOf]; omega
        · by_cases hk2 : q.kind = 2
          · have e0 : (q.kind == 0) = false := by simp [hk0]
            have e1 : (q.kind == 1) = false := by simp [hk1]
            have e2 : (q.kind == 2) = true := by simp [hk2]
            go_upto_region 20 with fail
            refine wp_region_K (fun W => W.cell? ⟨wr.heap.size, 2, none⟩ = some (.string ⟨fn.toArray⟩)) 9 (by kernel_rfl) ?_
            change wpAnyK _ _ _ _ _ _ _ _ _ (World.drew w6)
            have hw7 : Whole (World.drew w6) wr.heap.size 30 #[.int .i64 q.kind, .int .i64 q.n, .string ⟨fn.toArray⟩, .string ⟨dn.toArray⟩, .string ⟨tn.toArray⟩, .int .u64 (q.keep : Int)] := HW6.out
            have HB7 : Hid (Both (World.drew w6) w b rb s N p) := HB6.out.later (Below.refl _ _).drew
            clear HW6 HB6 o0 o1 o2 o5
            generalize World.drew w6 = w7 at *
            have HW7 := Lib.hid hw7
            have hS0 : w7.cell? ⟨wr.heap.size, 2, none⟩ = some (.string ⟨fn.toArray⟩) := (hw7.at_ 2).trans rfl
            clear hw7
            refine wpAnyK_take0 (i := 0) (oi := { dst := some 100, op := _, type := _, pos := _, after := _, guard := none }) (v := .pointer (some ⟨b, 0, none⟩)) rfl (by kernel_rfl) (fun _ _ _ h => h) (Or.inl ⟨by rfl, fun W hW => ?_⟩) (fun _ => hS0) ?_
            · go_simp
            refine wpAnyK_take0 (i := 1) (oi := { dst := some 101, op := _, type := _, pos := _, after := _, guard := none }) (v := .pointer (some ⟨wr.heap.size, 2, none⟩)) rfl (by kernel_rfl) (fun _ _ _ h => h) (Or.inl ⟨by rfl, fun W hW => ?_⟩) (fun _ => hS0) ?_
            · go_simp
            refine wpAnyK_take0 (i := 4) (oi := { dst := some 104, op := _, type := _, pos := _, after := _, guard := none }) (v := .pointer (some ⟨rb, 0, none⟩)) rfl (by kernel_rfl) (fun _ _ _ h => h) (Or.inl ⟨by rfl, fun W hW => ?_⟩) (fun _ => hS0) ?_
            · go_simp
            refine wpAnyK_take0 (i := 5) (oi := { dst := some 105, op := _, type := _, pos := _, after := _, guard := none }) (v := .pointer (some ⟨wr.heap.size, 2, none⟩)) rfl (by kernel_rfl) (fun _ _ _ h => h) (Or.inl ⟨by rfl, fun W hW => ?_⟩) (fun _ => hS0) ?_
            · go_simp
            try simp only [Act.put]
            try go_simp
            refine wpAnyK_take (i := 2) (oi := { dst := some 102, op := _, type := _, pos := _, after := _, guard := none }) (v := .string ⟨fn.toArray⟩) rfl (by kernel_rfl) (fun _ _ _ h => h) (Or.inl ⟨by rfl, fun W hW => ?_⟩) hS0 ?_
            · go_simp
            refine wpAnyK_take (i := 6) (oi := { dst := some 106, op := _, type := _, pos := _, after := _, guard := none }) (v := .string ⟨fn.toArray⟩) rfl (by kernel_rfl) (fun _ _ _ h => h) (Or.inl ⟨by rfl, fun W hW => ?_⟩) hS0 ?_
            · go_simp
            try simp only [Act.put]
            try go_simp
            refine wpAnyK_ready (rs := [3]) (by kernel_rfl) (by simp) ?_
            refine AllReadyK.cons (o := _) rfl (fun K hK => ?_) AllReadyK.nil
            rw [if_pos (by rfl)]
            go_simp
            refine (dremove_any N b s fn w7 HB7.out.dk  (by omega) (by have := HBG.out.ops; omega) HBG.out.left).mono ?_
            rintro e w8 ⟨rfl, hd8, ha8⟩
            have hw8 := Whole.alt HW7.out ha8 (fun e => by omega)
            have HH8 := Lib.hid (HB7.out.half hbw hd8 ha8)
            have hs8 : w7.heap.size ≤ w8.heap.size := ha8.size
            have HW8 := Lib.hid hw8
            have hS8 : w8.cell? ⟨wr.heap.size, 2, none⟩ = some (.string ⟨fn.toArray⟩) := (hw8.at_ 2).trans rfl
            refine hK _ _ (fun _ => hS8) ?_
            clear hK K hd8 ha8 hw8 hS0 HW7 HB7
            refine wpAnyK_ready (rs := [7]) (by kernel_rfl) (by simp) ?_
            refine AllReadyK.cons (o := _) rfl (fun K hK => ?_) AllReadyK.nil
            rw [if_pos (by rfl)]
            go_simp
            refine (rremove_any N rb s p fn w8 HH8.out.rk HBG.out).mono ?_
            rintro e w9 ⟨rfl, hr9, ha9⟩
            have hw9 := Whole.alt HW8.out ha9 (fun e => hNg e.2)
            have hS9 : w9.cell? ⟨wr.heap.size, 2, none⟩ = some (.string ⟨fn.toArray⟩) := (hw9.at_ 2).trans rfl
            obtain ⟨N', p', hbx⟩ := HH8.out.both hbw hr9 ha9
            have HBX := Lib.hid hbx
            have HGX := Lib.hid (goodI_step HG.out (.rm fn) (by simp))
            refine hK _ _ (fun _ => hS9) ?_
            clear hK K hr9 ha9 hw9 hS8 HW8 HH8 hbx
            generalize s.step (.rm fn) = r at *
            obtain ⟨cd, s'⟩ := r
            simp only at *
            refine wpAnyK_ready (rs := [8]) (by kernel_rfl) (by simp) ?_
            refine AllReadyK.cons (o := _) rfl (fun K hK => ?_) AllReadyK.nil
            rw [if_pos (by rfl)]
            go_simp
            refine hK _ _ (fun _ => hS9) ?_
            clear hK K
            refine wpAnyK_ready (rs := [9]) (by kernel_rfl) (by simp) ?_
            refine AllReadyK.cons (o := _) rfl (fun K hK => ?_) AllReadyK.nil
            rw [if_pos (by rfl)]
            go_simp
            refine hK _ _ (fun h => by cases h) ?_
            clear hK K hS9
            refine wpAnyK_done (by kernel_rfl) ?_ _
            try simp only [Act.put]
            try go_simp
            go_wp2_with (go_at_call 23; refine (same_any N' b rb s' p' _ HBX.out.dk HBX.out.rk (HGX.out.good (by omega))).mono ?_; rintro e w9 ⟨rfl, hb9⟩; have HB9 := Lib.hid (HBX.out.later hb9); clear hb9)
            go_roundw
            case rel => exact ⟨i + 1, hlt.1, by omega, by go_num, s', N', p', HB9.out, HGX.out⟩
            case measure => simp [intOf]; omega
          · by_cases hk3 : q.kind = 3
            · have e0 : (q.kind == 0) = false := by simp [hk0]
              have e1 : (q.kind == 1) = false := by simp [hk1]
              have e2 : (q.kind == 2) = false := by simp [hk2]
              have e3 : (q.kind == 3) = true := by simp [hk3]
              have HDS := Lib.hid (dsync_any N b s w6 HB6.out.dk (by have := HBG.out.ops; omega) HBG.out.left)
              have HGX0 := Lib.hid (goodI_sync HG.out (by omega))
              have HRS : Hid (∀ W, RkP W N rb s p → Calls Tryz.prog 16 #[.pointer (some ⟨rb, 0, none⟩)] W (RTold s.sync N rb W)) := fun W hW => rsync_any N rb s p W hW HBG.out
              generalize s.sync = r at *
              obtain ⟨cd, s'⟩ := r
              have HGX : Hid (GoodI s' (i + 1)) := HGX0.out
              clear HGX0
              go_wp2_with (first
                | (go_at_call 15; refine HDS.out.mono ?_; rintro e w8 ⟨rfl, hd8, ha8⟩; have HH8 := Lib.hid (HB6.out.half hbw hd8 ha8); clear hd8 ha8 HDS)
                | (go_at_call 16; refine (HRS.out _ HH8.out.rk).mono ?_; rintro e w9 ⟨rfl, hr9, ha9⟩; obtain ⟨N', p', hbx⟩ := HH8.out.both hbw hr9 ha9; have HBX := Lib.hid hbx; clear hr9 ha9 hbx HH8 HRS)
                | (go_at_call 23; refine (same_any N' b rb s' p' _ HBX.out.dk HBX.out.rk (HGX.out.good (by omega))).mono ?_; rintro e w9 ⟨rfl, hb9⟩; have HB9 := Lib.hid (HBX.out.later hb9); clear hb9))
              go_roundw
              case rel => exact ⟨i + 1, hlt.1, by omega, by go_num, s', N', p', HB9.out, HGX.out⟩
              case measure => simp [intOf]; omega
            · by_cases hk5 : q.kind = 5
              · have e0 : (q.kind == 0) = false := by simp [hk0]
                have e1 : (q.kind == 1) = false := by simp [hk1]
                have e2 : (q.kind == 2) = false := by simp [hk2]
                have e3 : (q.kind == 3) = false := by simp [hk3]
                have e5 : (q.kind == 5) = true := by simp [hk5]
                have HDS := Lib.hid (dfuse_all N b s q.n w6 HB6.out.dk HQI.out.1)
                have HGX := Lib.hid (goodI_fuse HG.out q.n HQI.out.1)
                have HRS := Lib.hid fun W (hW : RkP W N rb s p) => rfuse_any N rb s p q.n W hW
                generalize hse : s.setFuse q.n = s' at *
                have N'e : ∃ N', N' = N := ⟨N, rfl⟩
                go_wp2_with (first
                  | (go_at_call 17; refine HDS.out.mono ?_; rintro e w8 ⟨rfl, hd8, ha8⟩; have o1b : w8.cell? ⟨wr.heap.size, 1, none⟩ = some (.int .i64 q.n) := ((Whole.alt HW6.out ha8 (fun e => by omega)).at_ 1).trans rfl; have HH8 := Lib.hid (HB6.out.half hbw hd8 ha8); clear hd8 ha8 HDS)
                  | (go_at_call 18; refine (HRS.out _ HH8.out.rk).mono ?_; rintro e w9 ⟨rfl, hr9, ha9⟩; obtain ⟨N', p', hbx⟩ := HH8.out.both hbw (rdid_same hr9) ha9; have HBX := Lib.hid hbx; clear hr9 ha9 hbx HH8 HRS)
                  | (go_at_call 23; refine (same_any N' b rb s' p' _ HBX.out.dk HBX.out.rk (HGX.out.good (by omega))).mono ?_; rintro e w9 ⟨rfl, hb9⟩; have HB9 := Lib.hid (HBX.out.later hb9); clear hb9))
                go_roundw
                case rel => exact ⟨i + 1, hlt.1, by omega, by go_num, s', N', p', HB9.out, HGX.out⟩
                case measure => simp [intOf]; omega
              · by_cases hk6 : q.kind = 6
                · have e0 : (q.kind == 0) = false := by simp [hk0]
                  have e1 : (q.kind == 1) = false := by simp [hk1]
                  have e2 : (q.kind == 2) = false := by simp [hk2]
                  have e3 : (q.kind == 3) = false := by simp [hk3]
                  have e5 : (q.kind == 5) = false := by simp [hk5]
                  have e6 : (q.kind == 6) = true := by simp [hk6]
                  have HDS := Lib.hid (dcrash_any N b s q.keep w6 HB6.out.dk HQI.out.2)
                  have HGX := Lib.hid (goodI_crash HG.out q.keep)
                  have HRS := Lib.hid fun W (hW : RkP W N rb s p) => rcrash_any N rb s p q.keep W hW HBG.out HQI.out.2
                  generalize hse : s.crash q.keep = s' at *
                  go_wp2_with (first
                    | (go_at_call 19; refine HDS.out.mono ?_; rintro e w8 ⟨rfl, hd8, ha8⟩; have o5b : w8.cell? ⟨wr.heap.size, 5, none⟩ = some (.int .u64 (q.keep : Int)) := ((Whole.alt HW6.out ha8 (fun e => by omega)).at_ 5).trans rfl; have HH8 := Lib.hid (HB6.out.half hbw hd8 ha8); clear hd8 ha8 HDS)
                    | (go_at_call 20; refine (HRS.out _ HH8.out.rk).mono ?_; rintro e w9 ⟨rfl, ⟨p9, hr9⟩, ha9⟩; obtain ⟨N', p', hbx⟩ := HH8.out.both hbw (rdid_same hr9) ha9; have HBX := Lib.hid hbx; clear hr9 ha9 hbx HH8 HRS)
                    | (go_at_call 23; refine (same_any N' b rb s' p' _ HBX.out.dk HBX.out.rk (HGX.out.good (by omega))).mono ?_; rintro e w9 ⟨rfl, hb9⟩; have HB9 := Lib.hid (HBX.out.later hb9); clear hb9))
                  go_roundw
                  case rel => exact ⟨i + 1, hlt.1, by omega, by go_num, s', N', p', HB9.out, HGX.out⟩
                  case measure => simp [intOf]; omega
                · have e0 : (q.kind == 0) = false := by simp [hk0]
                  have e1 : (q.kind == 1) = false := by simp [hk1]
                  have e2 : (q.kind == 2) = false := by simp [hk2]
                  have e3 : (q.kind == 3) = false := by simp [hk3]
                  have e5 : (q.kind == 5) = false := by simp [hk5]
                  have e6 : (q.kind == 6) = false := by simp [hk6]
                  have HDS := Lib.hid (dread_disk N b s fn w6 HB6.out.dk)
                  have HRS := Lib.hid fun W (hW : RkP W N rb s p) => rread_any N rb s p fn W hW HBG.out
                  generalize s.read fn = r at *
                  obtain ⟨rt, rc⟩ := r
                  have HGX : Hid (GoodI s (i + 1)) := HG.out.up
                  obtain ⟨s', hs'⟩ : ∃ s', s' = s := ⟨_, rfl⟩
                  obtain ⟨N', hN'⟩ : ∃ N' : Nat → Prop, N' = N := ⟨_, rfl⟩
                  obtain ⟨p', hp'⟩ : ∃ p', p' = p := ⟨_, rfl⟩
                  rw [← hs', ← hN', ← hp'] at HB6
                  rw [← hs', ← hN', ← hp'] at HRS
                  rw [← hs'] at HGX
                  clear hs' hN' hp'
                  go_wp2_with (first
                    | (go_at_call 21; refine HDS.out.mono ?_; rintro e w8 ⟨rfl, hb8⟩; have o2b : w8.cell? ⟨wr.heap.size, 2, none⟩ = some (.string ⟨fn.toArray⟩) := (hb8.cell (World.block_lt_of_cell? _ _ o2)).trans o2; have HB8 := Lib.hid (HB6.out.later hb8); clear hb8 HDS)
                    | (go_at_call 22; refine (HRS.out _ HB8.out.rk).mono ?_; rintro e w10 ⟨rfl, hb10⟩; have HBX := Lib.hid (HB8.out.later hb10); clear hb10 HRS)
                    | (go_at_call 23; refine (same_any N' b rb s' p' _ HBX.out.dk HBX.out.rk (HGX.out.good (by omega))).mono ?_; rintro e w9 ⟨rfl, hb9⟩; have HB9 := Lib.hid (HBX.out.later hb9); clear hb9))
                  go_roundw
                  case rel => exact ⟨i + 1, hlt.1, by omega, by go_num, s', N', p', HB9.out, HGX.out⟩
                  case measure => simp [intOf]; omega
    · by_cases hl : i < qs.length
      · have hlt1 : (i : Int) < (qs.length : Int) := by omega
        have hlt2 : ¬ (i : Int) < 60 := by omega
        have HDS := Lib.hid (dcrash_any N b s 5 wr HBO.out.dk (by decide))
        have HGX := Lib.hid (goodI_crash0 HG.out 5)
        have HRS := Lib.hid fun W (hW : RkP W N rb s p) => rcrash_any N rb s p 5 W hW (HG.out.good hi60) (by decide)
        generalize hse : s.crash 5 = s' at *
        go_wp2_with (first
          | (go_at_call 19; refine HDS.out.mono ?_; rintro e w8 ⟨rfl, hd8, ha8⟩; have HH8 := Lib.hid (HBO.out.half hbw hd8 ha8); clear hd8 ha8 HDS)
          | (go_at_call 20; refine (HRS.out _ HH8.out.rk).mono ?_; rintro e w9 ⟨rfl, ⟨p9, hr9⟩, ha9⟩; obtain ⟨N', p', hbx⟩ := HH8.out.both hbw (rdid_same hr9) ha9; have HBX := Lib.hid hbx; clear hr9 ha9 hbx HH8 HRS)
          | (go_at_call 23; refine (same_any N' b rb s' p' _ HBX.out.dk HBX.out.rk (HGX.out.good hi60)).mono ?_; rintro e w9 ⟨rfl, hb9⟩; have HB9 := Lib.hid (HBX.out.later hb9); clear hb9))
        go_ret
        exact ⟨rfl, HB9.out.bel⟩
      · have hlt1 : ¬ (i : Int) < (qs.length : Int) := by omega
        have HDS := Lib.hid (dcrash_any N b s 5 wr HBO.out.dk (by decide))
        have HGX := Lib.hid (goodI_crash0 HG.out 5)
        have HRS := Lib.hid fun W (hW : RkP W N rb s p) => rcrash_any N rb s p 5 W hW (HG.out.good hi60) (by decide)
        generalize hse : s.crash 5 = s' at *
        go_wp2_with (first
          | (go_at_call 19; refine HDS.out.mono ?_; rintro e w8 ⟨rfl, hd8, ha8⟩; have HH8 := Lib.hid (HBO.out.half hbw hd8 ha8); clear hd8 ha8 HDS)
          | (go_at_call 20; refine (HRS.out _ HH8.out.rk).mono ?_; rintro e w9 ⟨rfl, ⟨p9, hr9⟩, ha9⟩; obtain ⟨N', p', hbx⟩ := HH8.out.both hbw (rdid_same hr9) ha9; have HBX := Lib.hid hbx; clear hr9 ha9 hbx HH8 HRS)
          | (go_at_call 23; refine (same_any N' b rb s' p' _ HBX.out.dk HBX.out.rk (HGX.out.good hi60)).mono ?_; rintro e w9 ⟨rfl, hb9⟩; have HB9 := Lib.hid (HBX.out.later hb9); clear hb9))
        go_ret
        exact ⟨rfl, HB9.out.bel⟩
end Go.Proofs.YtjoinnjhpfakpaaGreatDoor

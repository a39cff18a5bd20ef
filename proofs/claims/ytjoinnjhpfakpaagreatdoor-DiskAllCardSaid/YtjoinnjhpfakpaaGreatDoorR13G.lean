/-
  The document's disk: do, of what changes files.
-/
import Derived.Test.YtjoinnjhpfakpaaGreatDoorR13F
namespace Go.Proofs.YtjoinnjhpfakpaaGreatDoor
open Go.RowKit

/-- The document's disk behind an operation; more blocks may turn. -/
def RDid (N : Nat → Prop) (rb : Nat) (s : DS) (w w' : World) : Prop := ∃ N', More N N' w ∧ ∃ p, RkP w' N' rb s p
theorem infoO (v1 v2 v3 v4 : Value) : (Tryz.prog.info? 86).map (·.size) = some ([v1, v2, v3, v4] : List Value).length := by show _ = some 4; kernel_rfl
set_option maxRecDepth 100000 in
set_option maxHeartbeats 4000000 in
theorem rdo_done_p (N : Nat → Prop) (rb : Nat) (s : DS) (p : RP) (x : Ch) (hx : okC x) (k : Int) (a t u : List UInt8) (hxe : encP4 x = [.int .i64 k, .string ⟨a.toArray⟩, .string ⟨t.toArray⟩, .string ⟨u.toArray⟩]) (hk : (k == 0) = false) (w : World) (h : RkP w N rb s p) (hf : 0 < s.fuse) (hl : -(2 ^ 63) ≤ s.left ∧ s.left < 2 ^ 63) (ho : s.ops ≤ 1000) (hr : Rises s.now) (hn : s.now.length ≤ 100) (hsl : s.since.length ≤ 1000) (hfb : s.burnt.fuse = (s.fuse - 1)) :
    Calls Tryz.prog 39 #[.pointer (some ⟨rb, 0, none⟩), .agg #[.int .i64 k, .string ⟨a.toArray⟩, .string ⟨t.toArray⟩, .string ⟨u.toArray⟩]] w fun e w' => e = .returned (.int .i64 0) ∧ RDid N rb { s.burnt with now := rdone x s.now, since := s.since ++ [x] } w w' ∧ Alt (Ref N rb) w w' := by
  have hbx : Below w.heap.size w (w.alloc (.cells #[.int .i64 k, .string ⟨a.toArray⟩, .string ⟨t.toArray⟩, .string ⟨u.toArray⟩] 86)) := (Below.refl _ _).alloc (Nat.le_refl _) _
  have hk1 := Whole.below h.cells hbx h.cells.lt
  have hop := (Whole.made w 86 #[.int .i64 k, .string ⟨a.toArray⟩, .string ⟨t.toArray⟩, .string ⟨u.toArray⟩])
  have hrbw : rb < w.heap.size := h.cells.lt
  have hne : ¬ w.heap.size = rb := by omega
  have co := (hop.at_ 0).trans rfl
  have c3 := (Whole.at_ hk1 3).trans rfl
  have c4 := (Whole.at_ hk1 4).trans rfl
  have z3 := Whole.thawed hk1 3
  have z4 := Whole.thawed hk1 4
  have hf0 : (s.fuse == 0) = false := by simp; omega
  have hf1 : s.fuse > 0 := by omega
  have hub : s.fuse < 2 ^ 63 := by unfold DS.fuse; split <;> omega
  have kl : IntKind.i64.wrap (s.fuse - 1) = s.fuse - 1 := IntWalk.i64_in _ (by omega)
  have ko : IntKind.i64.wrap ((s.ops : Int) + 1) = (s.ops : Int) + 1 := IntWalk.i64_in _ (by omega)
  have HB := Lib.hid hbx
  have HK := Lib.hid hk1
  have H := Lib.hid h
  have HOP := Lib.hid hop
  have HFB := Lib.hid hfb
  have HXE := Lib.hid hxe
  have HR := Lib.hid hr
  have HN := Lib.hid hn
  have hsw1 : w.heap.size < (w.alloc (.cells #[.int .i64 k, .string ⟨a.toArray⟩, .string ⟨t.toArray⟩, .string ⟨u.toArray⟩] 86)).heap.size := by simp
  generalize hw1 : w.alloc (.cells #[.int .i64 k, .string ⟨a.toArray⟩, .string ⟨t.toArray⟩, .string ⟨u.toArray⟩] 86) = w1 at *
  clear hbx hk1 h hfb hop hl hub hxe hr hn
  go_enter Tryz.func39, Tryz.ntmps39
  go_upto_region 10 with fail
  have k0 : Whole (w1.setCell ⟨rb, 3, none⟩ (.int .i64 (s.fuse - 1))) rb 76 #[.slice p.A2 s.sure.length p.c2, p.O, .slice p.A1 s.now.length p.c1, .int .i64 (s.fuse - 1), .int .i64 (s.ops : Int), .bool s.down] := Whole.put HK.out 3 _
  have a0 : Alt (· = rb) w1 (w1.setCell ⟨rb, 3, none⟩ (.int .i64 (s.fuse - 1))) := (Alt.refl (· = rb) w1).set (.inl rfl) _
  have k1 : Whole ((w1.setCell ⟨rb, 3, none⟩ (.int .i64 (s.fuse - 1))).setCell ⟨rb, 4, none⟩ (.int .i64 ((s.ops : Int) + 1))) rb 76 #[.slice p.A2 s.sure.length p.c2, p.O, .slice p.A1 s.now.length p.c1, .int .i64 (s.fuse - 1), .int .i64 ((s.ops : Int) + 1), .bool s.down] := Whole.put k0 4 _
  have a1 : Alt (· = rb) w1 ((w1.setCell ⟨rb, 3, none⟩ (.int .i64 (s.fuse - 1))).setCell ⟨rb, 4, none⟩ (.int .i64 ((s.ops : Int) + 1))) := a0.set (p := ⟨rb, 4, none⟩) (.inl rfl) _
  have b1 := Whole.alt HOP.out a1 hne
  have hA1 := (Alt.of_below (R := (· = rb)) HB.out).trans a1
  have hsz1 : w.heap.size < ((w1.setCell ⟨rb, 3, none⟩ (.int .i64 (s.fuse - 1))).setCell ⟨rb, 4, none⟩ (.int .i64 ((s.ops : Int) + 1))).heap.size := Nat.lt_of_lt_of_le hsw1 a1.size
  have o1 := owns_alt H.out.own hA1 (fun g hg e => by have := (ownB_owns H.out.own hg).1; omega)
  refine wp_region_K (fun W => W.cell? ⟨rb, 1, none⟩ = some p.O ∧ W.rangeAt w.heap.size 0 [.int .i64 k, .string ⟨a.toArray⟩, .string ⟨t.toArray⟩, .string ⟨u.toArray⟩]) 10 (by kernel_rfl) ?_
  change wpAnyK _ _ _ _ _ _ _ _ _ (World.drew ((w1.setCell ⟨rb, 3, none⟩ (.int .i64 (s.fuse - 1))).setCell ⟨rb, 4, none⟩ (.int .i64 ((s.ops : Int) + 1))))
  have hk3 : Whole (World.drew ((w1.setCell ⟨rb, 3, none⟩ (.int .i64 (s.fuse - 1))).setCell ⟨rb, 4, none⟩ (.int .i64 ((s.ops : Int) + 1)))) rb 76 #[.slice p.A2 s.sure.length p.c2, p.O, .slice p.A1 s.now.length p.c1, .int .i64 (s.fuse - 1), .int .i64 ((s.ops : Int) + 1), .bool s.down] := k1
  have hb3 : Whole (World.drew ((w1.setCell ⟨rb, 3, none⟩ (.int .i64 (s.fuse - 1))).setCell ⟨rb, 4, none⟩ (.int .i64 ((s.ops : Int) + 1)))) w.heap.size 86 #[.int .i64 k, .string ⟨a.toArray⟩, .string ⟨t.toArray⟩, .string ⟨u.toArray⟩] := b1
  have ho3 : (World.drew ((w1.setCell ⟨rb, 3, none⟩ (.int .i64 (s.fuse - 1))).setCell ⟨rb, 4, none⟩ (.int .i64 ((s.ops : Int) + 1)))).ownsRow (rb + 1) 86 4 p.O s.since.length (s.since.flatMap encP4) := o1
  have hA3 : Alt (· = rb) w (World.drew ((w1.setCell ⟨rb, 3, none⟩ (.int .i64 (s.fuse - 1))).setCell ⟨rb, 4, none⟩ (.int .i64 ((s.ops : Int) + 1)))) := hA1.drew
  have hsz3 : w.heap.size < (World.drew ((w1.setCell ⟨rb, 3, none⟩ (.int .i64 (s.fuse - 1))).setCell ⟨rb, 4, none⟩ (.int .i64 ((s.ops : Int) + 1)))).heap.size := hsz1
  clear k0 a0 k1 a1 b1 hA1 hsz1 o1 co c3 c4 z3 z4
  generalize World.drew ((w1.setCell ⟨rb, 3, none⟩ (.int .i64 (s.fuse - 1))).setCell ⟨rb, 4, none⟩ (.int .i64 ((s.ops : Int) + 1))) = w3 at *
  have HK3 := Lib.hid hk3
  have HB3 := Lib.hid hb3
  have HO3 := Lib.hid ho3
  have HA3 := Lib.hid hA3
  have hS0 : w3.cell? ⟨rb, 1, none⟩ = some p.O ∧ w3.rangeAt w.heap.size 0 [.int .i64 k, .string ⟨a.toArray⟩, .string ⟨t.toArray⟩, .string ⟨u.toArray⟩] := ⟨(Whole.at_ hk3 1).trans rfl, fun j v hv => by rw [Nat.zero_add, hb3.at_, List.getElem?_toArray]; exact hv⟩
  clear hk3 hb3 ho3 hA3
  refine wpAnyK_take0 (i := 0) (oi := { dst := some 45, op := _, type := _, pos := _, after := _, guard := none }) (v := .pointer (some ⟨rb, 0, none⟩)) rfl (by kernel_rfl) (fun _ _ _ h => h) (Or.inl ⟨by rfl, fun W hW => ?_⟩) (fun _ => hS0) ?_
  · go_simp
  refine wpAnyK_take0 (i := 1) (oi := { dst := some 46, op := _, type := _, pos := _, after := _, guard := none }) (v := .pointer (some ⟨rb, 0, none⟩)) rfl (by kernel_rfl) (fun _ _ _ h => h) (Or.inl ⟨by rfl, fun W hW => ?_⟩) (fun _ => hS0) ?_
  · go_simp
  try simp only [Act.put]
  try go_simp
  refine wpAnyK_take0 (i := 2) (oi := { dst := some 47, op := _, type := _, pos := _, after := _, guard := none }) (v := .pointer (some ⟨rb, 0, none⟩)) rfl (by kernel_rfl) (fun _ _ _ h => h) (Or.inl ⟨by rfl, fun W hW => ?_⟩) (fun _ => hS0) ?_
  · go_simp
  try simp only [Act.put]
  try go_simp
  refine wpAnyK_take0 (i := 3) (oi := { dst := some 48, op := _, type := _, pos := _, after := _, guard := none }) (v := .pointer (some ⟨rb, 1, none⟩)) rfl (by kernel_rfl) (fun _ _ _ h => h) (Or.inl ⟨by rfl, fun W hW => ?_⟩) (fun _ => hS0) ?_
  · go_simp
  try simp only [Act.put]
  try go_simp
  refine wpAnyK_take (i := 4) (oi := { dst := some 49, op := _, type := _, pos := _, after := _, guard := none }) (v := p.O) rfl (by kernel_rfl) (fun _ _ _ h => h) (Or.inl ⟨by rfl, fun W hW => ?_⟩) hS0 ?_
  · obtain ⟨s0, s1⟩ := hW
    go_simp
  refine wpAnyK_take (i := 5) (oi := _) (v := .agg #[.int .i64 k, .string ⟨a.toArray⟩, .string ⟨t.toArray⟩, .string ⟨u.toArray⟩]) rfl (by kernel_rfl) (fun _ _ _ h => h) (yieldsIf_load_mid (by rfl) _ _ rfl w.heap.size (0) rfl ([.int .i64 k, .string ⟨a.toArray⟩, .string ⟨t.toArray⟩, .string ⟨u.toArray⟩]) _ (fun W hW => hW.2) Tryz.underlying86 rfl (infoO _ _ _ _)) hS0 ?_
  try simp only [Act.put]
  try go_simp
  refine wpAnyK_ready (rs := [6]) (by kernel_rfl) (by simp) ?_
  refine AllReadyK.cons (o := _) rfl (fun K hK => ?_) AllReadyK.nil
  rw [if_pos (by rfl)]
  refine wp_buildG eltO _ rfl x (by show Value.agg _ = _; rw [HXE.out]) ?_
  have hb4 := (Below.refl w3.heap.size w3).alloc (Nat.le_refl _) (.cells (encP4 x).toArray 86)
  have ho4 : (w3.alloc (.cells (encP4 x).toArray 86)).ownsRow (rb + 1) 86 4 p.O s.since.length (s.since.flatMap encP4) := HO3.out.alloc _
  have hw4 := Whole.made w3 86 (encP4 x).toArray
  have hy4 : (w3.alloc (.cells (encP4 x).toArray 86)).rangeAt w3.heap.size 0 (encP4 x) := fun j v hv => by rw [Nat.zero_add, hw4.at_, List.getElem?_toArray]; exact hv
  have hS4 : (w3.alloc (.cells (encP4 x).toArray 86)).cell? ⟨rb, 1, none⟩ = some p.O ∧ (w3.alloc (.cells (encP4 x).toArray 86)).rangeAt w.heap.size 0 [.int .i64 k, .string ⟨a.toArray⟩, .string ⟨t.toArray⟩, .string ⟨u.toArray⟩] := ⟨(hb4.cell (by show rb < _; omega)).trans hS0.1, fun j v hv => (hb4.cell (by show w.heap.size < _; omega)).trans (hS0.2 j v hv)⟩
  have HA4 := Lib.hid (HA3.out.below hb4)
  have HK4 := Lib.hid (HK3.out.below hb4 (by omega))
  have HB4 := Lib.hid (HB3.out.below hb4 hsz3)
  have hsz4 : w3.heap.size < (w3.alloc (.cells (encP4 x).toArray 86)).heap.size := by simp
  refine hK _ _ (fun _ => hS4) ?_
  clear hK K hb4 hw4 hS0 HK3 HB3 HO3 HA3
  generalize w3.alloc (.cells (encP4 x).toArray 86) = w4 at *
  have HO4 := Lib.hid ho4
  have HY4 := Lib.hid hy4
  clear ho4 hy4
  refine wpAnyK_ready (rs := [7]) (by kernel_rfl) (by simp) ?_
  refine AllReadyK.cons (o := _) rfl (fun K hK => ?_) AllReadyK.nil
  rw [if_pos (by rfl)]
  refine wp_appendG1 eltO _ _ rfl (rb + 1) p.O s.since rfl HO4.out w3.heap.size x rfl HY4.out (by omega) (by omega) (fun v' w5 hown hgr hat => ?_)
  have hln : (s.since ++ [x]).length = s.since.length + 1 := by simp
  obtain ⟨Av, cv, hv, -, -⟩ := own_argG eltO hown
  rw [hln] at hv hown
  subst hv
  have HLN := Lib.hid hln
  clear hln
  have hOlt : ∀ g, p.O.ownBlock = some g → rb < g ∧ g < w.heap.size := fun g hg => ⟨(ownB_owns H.out.own hg).1, (ownB_owns H.out.own hg).2⟩
  have hcell : ∀ ad : Addr, ad.block < w4.heap.size → p.O.ownBlock ≠ some ad.block → w5.cell? ad = w4.cell? ad := fun ad h1 h2 => by
    have hk := hgr.block ad.block h1 (fun e => h2 e.symm)
    unfold World.cell?
    rw [hk]
  have hS5 : w5.cell? ⟨rb, 1, none⟩ = some p.O ∧ w5.rangeAt w.heap.size 0 [.int .i64 k, .string ⟨a.toArray⟩, .string ⟨t.toArray⟩, .string ⟨u.toArray⟩] := ⟨(hcell _ (by show rb < _; omega) (fun e => by have := (hOlt _ e).1; exact absurd this (Nat.lt_irrefl _))).trans hS4.1, fun j v hv => (hcell _ (by show w.heap.size < _; omega) (fun e => by have := (hOlt _ e).2; exact absurd this (Nat.lt_irrefl _))).trans (hS4.2 j v hv)⟩
  have hk5 := HK4.out.grown hgr (fun e => by have := (hOlt _ e.symm).1; exact absurd this (Nat.lt_irrefl _))
  have hb5 := HB4.out.grown hgr (fun e => by have := (hOlt _ e.symm).2; exact absurd this (Nat.lt_irrefl _))
  have HA5 : Hid (Alt (fun j => j = rb ∨ p.O.ownBlock = some j) w w5) := (HA4.out.mono (fun j _ e => .inl e)).then (Alt.of_grown (R := fun j => p.O.ownBlock = some j) hgr (fun j hj => hj)) (fun j _ e => .inr e)
  have HOW5 := Lib.hid hown
  have HAT5 : Hid ((Value.slice Av (s.since.length + 1) cv).ownBlock = p.O.ownBlock ∨ ∀ g, (Value.slice Av (s.since.length + 1) cv).ownBlock = some g → w.heap.size ≤ g) := by
    rcases hat with e | e
    · exact .inl e
    · exact .inr (fun g hg => by rw [e] at hg; injection hg with hg; omega)
  have HK5 := Lib.hid hk5
  have HB5 := Lib.hid hb5
  have hsz5 : w.heap.size < w5.heap.size := by have := hgr.size; omega
  have c1 := (Whole.at_ hk5 1).trans rfl
  have z1 := Whole.thawed hk5 1
  refine hK _ _ (fun _ => hS5) ?_
  clear hK K hown hgr hat hcell hS4 hS5 hk5 hb5 HO4 HY4 HA4 HK4 HB4 hOlt
  refine wpAnyK_ready (rs := [8]) (by kernel_rfl) (by simp) ?_
  refine AllReadyK.cons (o := _) rfl (fun K hK => ?_) AllReadyK.nil
  rw [if_pos (by rfl)]
  go_simp
  refine hK _ _ (fun _ => ⟨(Whole.at_ HK5.out 1).trans rfl, fun j v hv => by rw [Nat.zero_add, HB5.out.at_, List.getElem?_toArray]; exact hv⟩) ?_
  clear hK K
  refine wpAnyK_ready (rs := [9]) (by kernel_rfl) (by simp) ?_
  refine AllReadyK.cons (o := _) rfl (fun K hK => ?_) AllReadyK.nil
  rw [if_pos (by rfl)]
  go_simp
  refine hK _ _ (fun _ => ⟨(Whole.at_ HK5.out 1).trans rfl, fun j v hv => by rw [Nat.zero_add, HB5.out.at_, List.getElem?_toArray]; exact hv⟩) ?_
  clear hK K
  refine wpAnyK_ready (rs := [10]) (by kernel_rfl) (by simp) ?_
  refine AllReadyK.cons (o := _) rfl (fun K hK => ?_) AllReadyK.nil
  rw [if_pos (by rfl)]
  go_simp
  have hk6 : Whole (w5.setCell ⟨rb, 1, none⟩ (.slice Av (s.since.length + 1) cv)) rb 76 #[.slice p.A2 s.sure.length p.c2, .slice Av (s.since.length + 1) cv, .slice p.A1 s.now.length p.c1, .int .i64 (s.fuse - 1), .int .i64 ((s.ops : Int) + 1), .bool s.down] := Whole.put HK5.out 1 _
  have a6 : Alt (· = rb) w5 (w5.setCell ⟨rb, 1, none⟩ (.slice Av (s.since.length + 1) cv)) := (Alt.refl (· = rb) w5).set (.inl rfl) _
  have hb6 := Whole.alt HB5.out a6 hne
  have HA6 : Hid (Alt (fun j => j = rb ∨ p.O.ownBlock = some j) w (w5.setCell ⟨rb, 1, none⟩ (.slice Av (s.since.length + 1) cv))) := HA5.out.then a6 (fun j _ e => .inl e)
  have ho6 := owns_alt HOW5.out a6 (fun g hg e => by have := (ownB_owns HOW5.out hg).1; omega)
  have hsz6 : w.heap.size < (w5.setCell ⟨rb, 1, none⟩ (.slice Av (s.since.length + 1) cv)).heap.size := Nat.lt_of_lt_of_le hsz5 a6.size
  refine hK _ _ (fun h => by cases h) ?_
  clear hK K a6 c1 z1 HK5 HB5 HA5 HOW5
  have HK6 := Lib.hid hk6
  have HB6 := Lib.hid hb6
  have HO6 := Lib.hid ho6
  clear hk6 hb6 ho6
  generalize w5.setCell ⟨rb, 1, none⟩ (.slice Av (s.since.length + 1) cv) = w6 at *
  refine wpAnyK_done (by kernel_rfl) ?_ _
  try simp only [Act.put]
  try go_simp
  go_upto_region 11 with fail
  refine wp_region_K (fun W => W.cell? ⟨rb, 2, none⟩ = some (.slice p.A1 s.now.length p.c1) ∧ W.rangeAt w.heap.size 0 [.int .i64 k, .string ⟨a.toArray⟩, .string ⟨t.toArray⟩, .string ⟨u.toArray⟩]) 9 (by kernel_rfl) ?_
  change wpAnyK _ _ _ _ _ _ _ _ _ (World.drew w6)
  have hk7 : Whole (World.drew w6) rb 76 #[.slice p.A2 s.sure.length p.c2, .slice Av (s.since.length + 1) cv, .slice p.A1 s.now.length p.c1, .int .i64 (s.fuse - 1), .int .i64 ((s.ops : Int) + 1), .bool s.down] := HK6.out
  have hb7 : Whole (World.drew w6) w.heap.size 86 #[.int .i64 k, .string ⟨a.toArray⟩, .string ⟨t.toArray⟩, .string ⟨u.toArray⟩] := HB6.out
  have ho7 : (World.drew w6).ownsRow (rb + 1) 86 4 (.slice Av (s.since.length + 1) cv) (s.since.length + 1) ((s.since ++ [x]).flatMap encP4) := HO6.out
  have hA7 : Alt (fun j => j = rb ∨ p.O.ownBlock = some j) w (World.drew w6) := HA6.out.drew
  have hsz7 : w.heap.size < (World.drew w6).heap.size := hsz6
  clear HK6 HB6 HO6 HA6 hsz6
  generalize World.drew w6 = w7 at *
  have HK7 := Lib.hid hk7
  have HB7 := Lib.hid hb7
  have HO7 := Lib.hid ho7
  have HA7 := Lib.hid hA7
  have hS0 : w7.cell? ⟨rb, 2, none⟩ = some (.slice p.A1 s.now.length p.c1) ∧ w7.rangeAt w.heap.size 0 [.int .i64 k, .string ⟨a.toArray⟩, .string ⟨t.toArray⟩, .string ⟨u.toArray⟩] := ⟨(Whole.at_ hk7 2).trans rfl, fun j v hv => by rw [Nat.zero_add, hb7.at_, List.getElem?_toArray]; exact hv⟩
  have hOno : ∀ g, p.O.ownBlock = some g → N g := H.out.no
  have hNR : ∀ j, j = rb ∨ p.O.ownBlock = some j → N j := fun j e => e.elim (fun e => e ▸ H.out.nb) (hOno j)
  have HNOW7 := Lib.hid (H.out.now.alt' hA7 (fun h0 j hj e => H.out.n1 h0 j hj (hNR j e)))
  have HSURE7 := Lib.hid (H.out.sure.alt' hA7 (fun h0 j hj e => H.out.n2 h0 j hj (hNR j e)))
  have HCALL := Lib.hid (rdone_any x hx p.A1 p.c1 s.now w7 HNOW7.out HR.out HN.out)
  rw [HXE.out] at HCALL
  clear hk7 hb7 ho7 hA7
  refine wpAnyK_take0 (i := 0) (oi := { dst := some 55, op := _, type := _, pos := _, after := _, guard := none }) (v := .pointer (some ⟨rb, 0, none⟩)) rfl (by kernel_rfl) (fun _ _ _ h => h) (Or.inl ⟨by rfl, fun W hW => ?_⟩) (fun _ => hS0) ?_
  · go_simp
  refine wpAnyK_take0 (i := 1) (oi := { dst := some 56, op := _, type := _, pos := _, after := _, guard := none }) (v := .pointer (some ⟨rb, 0, none⟩)) rfl (by kernel_rfl) (fun _ _ _ h => h) (Or.inl ⟨by rfl, fun W hW => ?_⟩) (fun _ => hS0) ?_
  · go_simp
  try simp only [Act.put]
  try go_simp
  refine wpAnyK_take0 (i := 2) (oi := { dst := some 57, op := _, type := _, pos := _, after := _, guard := none }) (v := .pointer (some ⟨rb, 0, none⟩)) rfl (by kernel_rfl) (fun _ _ _ h => h) (Or.inl ⟨by rfl, fun W hW => ?_⟩) (fun _ => hS0) ?_
  · go_simp
  try simp only [Act.put]
  try go_simp
  refine wpAnyK_take0 (i := 3) (oi := { dst := some 58, op := _, type := _, pos := _, after := _, guard := none }) (v := .pointer (some ⟨rb, 2, none⟩)) rfl (by kernel_rfl) (fun _ _ _ h => h) (Or.inl ⟨by rfl, fun W hW => ?_⟩) (fun _ => hS0) ?_
  · go_simp
  try simp only [Act.put]
  try go_simp
  refine wpAnyK_take (i := 4) (oi := { dst := some 59, op := _, type := _, pos := _, after := _, guard := none }) (v := .slice p.A1 s.now.length p.c1) rfl (by kernel_rfl) (fun _ _ _ h => h) (Or.inl ⟨by rfl, fun W hW => ?_⟩) hS0 ?_
  · obtain ⟨s0, s1⟩ := hW
    go_simp
  refine wpAnyK_take (i := 5) (oi := _) (v := .agg #[.int .i64 k, .string ⟨a.toArray⟩, .string ⟨t.toArray⟩, .string ⟨u.toArray⟩]) rfl (by kernel_rfl) (fun _ _ _ h => h) (yieldsIf_load_mid (by rfl) _ _ rfl w.heap.size (0) rfl ([.int .i64 k, .string ⟨a.toArray⟩, .string ⟨t.toArray⟩, .string ⟨u.toArray⟩]) _ (fun W hW => hW.2) Tryz.underlying86 rfl (infoO _ _ _ _)) hS0 ?_
  try simp only [Act.put]
  try go_simp
  refine wpAnyK_ready (rs := [6]) (by kernel_rfl) (by simp) ?_
  refine AllReadyK.cons (o := _) rfl (fun K hK => ?_) AllReadyK.nil
  rw [if_pos (by rfl)]
  go_simp
  refine HCALL.out.mono ?_
  rintro e w8 ⟨⟨A8, c8, rfl, hA8, hlo8⟩, hb8⟩
  have HNOW8 := Lib.hid hA8
  have HLO8 := Lib.hid hlo8
  have hb8' : Below w7.heap.size w7 w8 := hb8
  have HK8 := Lib.hid (HK7.out.below hb8' (by omega))
  have HB8 := Lib.hid (HB7.out.below hb8' hsz7)
  have HO8 := Lib.hid (owns_alt HO7.out (Alt.of_below (R := fun _ => False) hb8') (fun _ _ e => e))
  have HA8 := Lib.hid (HA7.out.below hb8')
  have HSURE8 := Lib.hid (HSURE7.out.later eltR hb8')
  have hsz8 : w.heap.size < w8.heap.size := by have := hb8'.size; omega
  have h78 : w.heap.size ≤ w7.heap.size := Nat.le_of_lt hsz7
  have c2 := (Whole.at_ HK8.out 2).trans rfl
  have z2 := Whole.thawed HK8.out 2
  refine hK _ _ (fun _ => ⟨(Whole.at_ HK8.out 2).trans rfl, fun j v hv => by rw [Nat.zero_add, HB8.out.at_, List.getElem?_toArray]; exact hv⟩) ?_
  clear hK K hA8 hlo8 hb8 hb8' HCALL hS0
  refine wpAnyK_ready (rs := [7]) (by kernel_rfl) (by simp) ?_
  refine AllReadyK.cons (o := _) rfl (fun K hK => ?_) AllReadyK.nil
  rw [if_pos (by rfl)]
  go_simp
  refine hK _ _ (fun _ => ⟨(Whole.at_ HK8.out 2).trans rfl, fun j v hv => by rw [Nat.zero_add, HB8.out.at_, List.getElem?_toArray]; exact hv⟩) ?_
  clear hK K
  refine wpAnyK_ready (rs := [8]) (by kernel_rfl) (by simp) ?_
  refine AllReadyK.cons (o := _) rfl (fun K hK => ?_) AllReadyK.nil
  rw [if_pos (by rfl)]
  go_simp
  refine hK _ _ (fun _ => ⟨(Whole.at_ HK8.out 2).trans rfl, fun j v hv => by rw [Nat.zero_add, HB8.out.at_, List.getElem?_toArray]; exact hv⟩) ?_
  clear hK K
  refine wpAnyK_ready (rs := [9]) (by kernel_rfl) (by simp) ?_
  refine AllReadyK.cons (o := _) rfl (fun K hK => ?_) AllReadyK.nil
  rw [if_pos (by rfl)]
  go_simp
  have hk9 : Whole (w8.setCell ⟨rb, 2, none⟩ (.slice A8 (rdone x s.now).length c8)) rb 76 #[.slice p.A2 s.sure.length p.c2, .slice Av (s.since.length + 1) cv, .slice A8 (rdone x s.now).length c8, .int .i64 (s.fuse - 1), .int .i64 ((s.ops : Int) + 1), .bool s.down] := Whole.put HK8.out 2 _
  have a9 : Alt (· = rb) w8 (w8.setCell ⟨rb, 2, none⟩ (.slice A8 (rdone x s.now).length c8)) := (Alt.refl (· = rb) w8).set (.inl rfl) _
  have hA9 : Alt (fun j => j = rb ∨ p.O.ownBlock = some j) w (w8.setCell ⟨rb, 2, none⟩ (.slice A8 (rdone x s.now).length c8)) := HA8.out.then a9 (fun j _ e => .inl e)
  have ho9 := owns_alt HO8.out a9 (fun g hg e => by have := (ownB_owns HO8.out hg).1; omega)
  have hn9 : ArgG encF noF 2 (w8.setCell ⟨rb, 2, none⟩ (.slice A8 (rdone x s.now).length c8)) A8 c8 (rdone x s.now) := HNOW8.out.alt' a9 (fun h0 j hj e => by
    rcases HLO8.out j hj with h1 | ⟨h1, h2⟩
    · have := HK8.out.lt
      omega
    · rw [h2] at h0
      exact H.out.n1 h0 j h1 (by rw [e]; exact H.out.nb))
  have hs9 := HSURE8.out.alt' a9 (fun h0 j hj e => H.out.n2 h0 j hj (by rw [e]; exact H.out.nb))
  refine hK _ _ (fun h => by cases h) ?_
  clear hK K c2 z2 HK8 HB8 HO8 HA8 HSURE8
  generalize w8.setCell ⟨rb, 2, none⟩ (.slice A8 (rdone x s.now).length c8) = w9 at *
  have HK9 := Lib.hid hk9
  have HO9 := Lib.hid ho9
  have HA9 := Lib.hid hA9
  have HN9 := Lib.hid hn9
  have HS9 := Lib.hid hs9
  clear hk9 ho9 hA9 hn9 hs9
  refine wpAnyK_done (by kernel_rfl) ?_ _
  try simp only [Act.put]
  try go_simp
  go_wp2
  go_ret
  have hN' : ∀ j, (Value.slice Av (s.since.length + 1) cv).ownBlock = some j → N j ∨ w.heap.size ≤ j := fun j e => by
    rcases HAT5.out with h1 | h1
    · rw [h1] at e
      exact .inl (hOno j e)
    · exact .inr (h1 j e)
  refine ⟨rfl, ⟨fun j => N j ∨ (Value.slice Av (s.since.length + 1) cv).ownBlock = some j, ⟨fun j hj => .inl hj, fun j hj => hj.elim .inl (hN' j)⟩, ⟨A8, c8, p.A2, p.c2, .slice Av (s.since.length + 1) cv⟩, ⟨.inl H.out.nb, fun j hj => ?_, ?_, HN9.out, HS9.out, by have h9 := HO9.out; rw [← HLN.out] at h9; exact (by rw [HLN.out] at h9 ⊢; exact h9), fun j hj => .inr hj, fun h0 j hj hNj => ?_, fun h0 j hj hNj => ?_⟩⟩, HA9.out.mono (fun j _ e => ?_)⟩
  · rcases hj with hj | hj
    · exact Nat.lt_of_lt_of_le (H.out.nlt j hj) HA9.out.size
    · exact (ownB_owns HO9.out hj).2
  · show Whole w9 rb _ #[.slice p.A2 s.sure.length p.c2, .slice Av (s.since.length + 1) cv, .slice A8 (rdone x s.now).length c8, .int .i64 s.burnt.fuse, .int .i64 ((s.ops + 1 : Nat) : Int), .bool s.down]
    rw [HFB.out]
    exact HK9.out
  · rcases HLO8.out j hj with h1 | ⟨h1, h2⟩
    · rcases hNj with hNj | hNj
      · have := H.out.nlt j hNj
        omega
      · have := (ownB_owns HO7.out hNj).2
        omega
    · have h0' : 0 < s.now.length := by rw [← h2]; exact h0
      have hjw := H.out.now.lt eltF h1 h0'
      rcases hNj with hNj | hNj
      · exact H.out.n1 h0' j h1 hNj
      · rcases hN' j hNj with h3 | h3
        · exact H.out.n1 h0' j h1 h3
        · omega
  · have hjw := H.out.sure.lt eltF hj h0
    rcases hNj with hNj | hNj
    · exact H.out.n2 h0 j hj hNj
    · rcases hN' j hNj with h3 | h3
      · exact H.out.n2 h0 j hj h3
      · omega
  · rcases e with rfl | e
    · exact ⟨Nat.le_refl _, H.out.nb⟩
    · exact ⟨Nat.le_of_lt (ownB_owns H.out.own e).1, hOno j e⟩
set_option maxRecDepth 100000 in
set_option maxHeartbeats 4000000 in
theorem rdo_done_n (N : Nat → Prop) (rb : Nat) (s : DS) (p : RP) (x : Ch) (hx : okC x) (k : Int) (a t u : List UInt8) (hxe : encP4 x = [.int .i64 k, .string ⟨a.toArray⟩, .string ⟨t.toArray⟩, .string ⟨u.toArray⟩]) (hk : (k == 0) = false) (w : World) (h : RkP w N rb s p) (hf : s.fuse = -1) (hl : -(2 ^ 63) ≤ s.left ∧ s.left < 2 ^ 63) (ho : s.ops ≤ 1000) (hr : Rises s.now) (hn : s.now.length ≤ 100) (hsl : s.since.length ≤ 1000) (hfb : s.burnt.fuse = s.fuse) :
    Calls Tryz.prog 39 #[.pointer (some ⟨rb, 0, none⟩), .agg #[.int .i64 k, .string ⟨a.toArray⟩, .string ⟨t.toArray⟩, .string ⟨u.toArray⟩]] w fun e w' => e = .returned (.int .i64 0) ∧ RDid N rb { s.burnt with now := rdone x s.now, since := s.since ++ [x] } w w' ∧ Alt (Ref N rb) w w' := by
  have hbx : Below w.heap.size w (w.alloc (.cells #[.int .i64 k, .string ⟨a.toArray⟩, .string ⟨t.toArray⟩, .string ⟨u.toArray⟩] 86)) := (Below.refl _ _).alloc (Nat.le_refl _) _
  have hk1 := Whole.below h.cells hbx h.cells.lt
  have hop := (Whole.made w 86 #[.int .i64 k, .string ⟨a.toArray⟩, .string ⟨t.toArray⟩, .string ⟨u.toArray⟩])
  have hrbw : rb < w.heap.size := h.cells.lt
  have hne : ¬ w.heap.size = rb := by omega
  have co := (hop.at_ 0).trans rfl
  have c3 := (Whole.at_ hk1 3).trans rfl
  have c4 := (Whole.at_ hk1 4).trans rfl
  have z3 := Whole.thawed hk1 3
  have z4 := Whole.thawed hk1 4
  have hf0 : (s.fuse == 0) = false := by simp; omega
  have hf1 : ¬ s.fuse > 0 := by omega
  have hub : s.fuse < 2 ^ 63 := by unfold DS.fuse; split <;> omega
  have kl : IntKind.i64.wrap (s.fuse - 1) = s.fuse - 1 := IntWalk.i64_in _ (by omega)
  have ko : IntKind.i64.wrap ((s.ops : Int) + 1) = (s.ops : Int) + 1 := IntWalk.i64_in _ (by omega)
  have HB := Lib.hid hbx
  have HK := Lib.hid hk1
  have H := Lib.hid h
  have HOP := Lib.hid hop
  have HFB := Lib.hid hfb
  have HXE := Lib.hid hxe
  have HR := Lib.hid hr
  have HN := Lib.hid hn
  have hsw1 : w.heap.size < (w.alloc (.cells #[.int .i64 k, .string ⟨a.toArray⟩, .string ⟨t.toArray⟩, .string ⟨u.toArray⟩] 86)).heap.size := by simp
  generalize hw1 : w.alloc (.cells #[.int .i64 k, .string ⟨a.toArray⟩, .string ⟨t.toArray⟩, .string ⟨u.toArray⟩] 86) = w1 at *
  clear hbx hk1 h hfb hop hl hub hxe hr hn
  go_enter Tryz.func39, Tryz.ntmps39
  go_upto_region 10 with fail
  have k0 : Whole (w1) rb 76 #[.slice p.A2 s.sure.length p.c2, p.O, .slice p.A1 s.now.length p.c1, .int .i64 s.fuse, .int .i64 (s.ops : Int), .bool s.down] := HK.out
  have a0 : Alt (· = rb) w1 (w1) := Alt.refl _ _
  have k1 : Whole (w1.setCell ⟨rb, 4, none⟩ (.int .i64 ((s.ops : Int) + 1))) rb 76 #[.slice p.A2 s.sure.length p.c2, p.O, .slice p.A1 s.now.length p.c1, .int .i64 s.fuse, .int .i64 ((s.ops : Int) + 1), .bool s.down] := Whole.put k0 4 _
  have a1 : Alt (· = rb) w1 (w1.setCell ⟨rb, 4, none⟩ (.int .i64 ((s.ops : Int) + 1))) := a0.set (p := ⟨rb, 4, none⟩) (.inl rfl) _
  have b1 := Whole.alt HOP.out a1 hne
  have hA1 := (Alt.of_below (R := (· = rb)) HB.out).trans a1
  have hsz1 : w.heap.size < (w1.setCell ⟨rb, 4, none⟩ (.int .i64 ((s.ops : Int) + 1))).heap.size := Nat.lt_of_lt_of_le hsw1 a1.size
  have o1 := owns_alt H.out.own hA1 (fun g hg e => by have := (ownB_owns H.out.own hg).1; omega)
  refine wp_region_K (fun W => W.cell? ⟨rb, 1, none⟩ = some p.O ∧ W.rangeAt w.heap.size 0 [.int .i64 k, .string ⟨a.toArray⟩, .string ⟨t.toArray⟩, .string ⟨u.toArray⟩]) 10 (by kernel_rfl) ?_
  change wpAnyK _ _ _ _ _ _ _ _ _ (World.drew (w1.setCell ⟨rb, 4, none⟩ (.int .i64 ((s.ops : Int) + 1))))
  have hk3 : Whole (World.drew (w1.setCell ⟨rb, 4, none⟩ (.int .i64 ((s.ops : Int) + 1)))) rb 76 #[.slice p.A2 s.sure.length p.c2, p.O, .slice p.A1 s.now.length p.c1, .int .i64 s.fuse, .int .i64 ((s.ops : Int) + 1), .bool s.down] := k1
  have hb3 : Whole (World.drew (w1.setCell ⟨rb, 4, none⟩ (.int .i64 ((s.ops : Int) + 1)))) w.heap.size 86 #[.int .i64 k, .string ⟨a.toArray⟩, .string ⟨t.toArray⟩, .string ⟨u.toArray⟩] := b1
  have ho3 : (World.drew (w1.setCell ⟨rb, 4, none⟩ (.int .i64 ((s.ops : Int) + 1)))).ownsRow (rb + 1) 86 4 p.O s.since.length (s.since.flatMap encP4) := o1
  have hA3 : Alt (· = rb) w (World.drew (w1.setCell ⟨rb, 4, none⟩ (.int .i64 ((s.ops : Int) + 1)))) := hA1.drew
  have hsz3 : w.heap.size < (World.drew (w1.setCell ⟨rb, 4, none⟩ (.int .i64 ((s.ops : Int) + 1)))).heap.size := hsz1
  clear k0 a0 k1 a1 b1 hA1 hsz1 o1 co c3 c4 z3 z4
  generalize World.drew (w1.setCell ⟨rb, 4, none⟩ (.int .i64 ((s.ops : Int) + 1))) = w3 at *
  have HK3 := Lib.hid hk3
  have HB3 := Lib.hid hb3
  have HO3 := Lib.hid ho3
  have HA3 := Lib.hid hA3
  have hS0 : w3.cell? ⟨rb, 1, none⟩ = some p.O ∧ w3.rangeAt w.heap.size 0 [.int .i64 k, .string ⟨a.toArray⟩, .string ⟨t.toArray⟩, .string ⟨u.toArray⟩] := ⟨(Whole.at_ hk3 1).trans rfl, fun j v hv => by rw [Nat.zero_add, hb3.at_, List.getElem?_toArray]; exact hv⟩
  clear hk3 hb3 ho3 hA3
  refine wpAnyK_take0 (i := 0) (oi := { dst := some 45, op := _, type := _, pos := _, after := _, guard := none }) (v := .pointer (some ⟨rb, 0, none⟩)) rfl (by kernel_rfl) (fun _ _ _ h => h) (Or.inl ⟨by rfl, fun W hW => ?_⟩) (fun _ => hS0) ?_
  · go_simp
  refine wpAnyK_take0 (i := 1) (oi := { dst := some 46, op := _, type := _, pos := _, after := _, guard := none }) (v := .pointer (some ⟨rb, 0, none⟩)) rfl (by kernel_rfl) (fun _ _ _ h => h) (Or.inl ⟨by rfl, fun W hW => ?_⟩) (fun _ => hS0) ?_
  · go_simp
  try simp only [Act.put]
  try go_simp
  refine wpAnyK_take0 (i := 2) (oi := { dst := some 47, op := _, type := _, pos := _, after := _, guard := none }) (v := .pointer (some ⟨rb, 0, none⟩)) rfl (by kernel_rfl) (fun _ _ _ h => h) (Or.inl ⟨by rfl, fun W hW => ?_⟩) (fun _ => hS0) ?_
  · go_simp
  try simp only [Act.put]
  try go_simp
  refine wpAnyK_take0 (i := 3) (oi := { dst := some 48, op := _, type := _, pos := _, after := _, guard := none }) (v := .pointer (some ⟨rb, 1, none⟩)) rfl (by kernel_rfl) (fun _ _ _ h => h) (Or.inl ⟨by rfl, fun W hW => ?_⟩) (fun _ => hS0) ?_
  · go_simp
  try simp only [Act.put]
  try go_simp
  refine wpAnyK_take (i := 4) (oi := { dst := some 49, op := _, type := _, pos := _, after := _, guard := none }) (v := p.O) rfl (by kernel_rfl) (fun _ _ _ h => h) (Or.inl ⟨by rfl, fun W hW => ?_⟩) hS0 ?_
  · obtain ⟨s0, s1⟩ := hW
    go_simp
  refine wpAnyK_take (i := 5) (oi := _) (v := .agg #[.int .i64 k, .string ⟨a.toArray⟩, .string ⟨t.toArray⟩, .string ⟨u.toArray⟩]) rfl (by kernel_rfl) (fun _ _ _ h => h) (yieldsIf_load_mid (by rfl) _ _ rfl w.heap.size (0) rfl ([.int .i64 k, .string ⟨a.toArray⟩, .string ⟨t.toArray⟩, .string ⟨u.toArray⟩]) _ (fun W hW => hW.2) Tryz.underlying86 rfl (infoO _ _ _ _)) hS0 ?_
  try simp only [Act.put]
  try go_simp
  refine wpAnyK_ready (rs := [6]) (by kernel_rfl) (by simp) ?_
  refine AllReadyK.cons (o := _) rfl (fun K hK => ?_) AllReadyK.nil
  rw [if_pos (by rfl)]
  refine wp_buildG eltO _ rfl x (by show Value.agg _ = _; rw [HXE.out]) ?_
  have hb4 := (Below.refl w3.heap.size w3).alloc (Nat.le_refl _) (.cells (encP4 x).toArray 86)
  have ho4 : (w3.alloc (.cells (encP4 x).toArray 86)).ownsRow (rb + 1) 86 4 p.O s.since.length (s.since.flatMap encP4) := HO3.out.alloc _
  have hw4 := Whole.made w3 86 (encP4 x).toArray
  have hy4 : (w3.alloc (.cells (encP4 x).toArray 86)).rangeAt w3.heap.size 0 (encP4 x) := fun j v hv => by rw [Nat.zero_add, hw4.at_, List.getElem?_toArray]; exact hv
  have hS4 : (w3.alloc (.cells (encP4 x).toArray 86)).cell? ⟨rb, 1, none⟩ = some p.O ∧ (w3.alloc (.cells (encP4 x).toArray 86)).rangeAt w.heap.size 0 [.int .i64 k, .string ⟨a.toArray⟩, .string ⟨t.toArray⟩, .string ⟨u.toArray⟩] := ⟨(hb4.cell (by show rb < _; omega)).trans hS0.1, fun j v hv => (hb4.cell (by show w.heap.size < _; omega)).trans (hS0.2 j v hv)⟩
  have HA4 := Lib.hid (HA3.out.below hb4)
  have HK4 := Lib.hid (HK3.out.below hb4 (by omega))
  have HB4 := Lib.hid (HB3.out.below hb4 hsz3)
  have hsz4 : w3.heap.size < (w3.alloc (.cells (encP4 x).toArray 86)).heap.size := by simp
  refine hK _ _ (fun _ => hS4) ?_
  clear hK K hb4 hw4 hS0 HK3 HB3 HO3 HA3
  generalize w3.alloc (.cells (encP4 x).toArray 86) = w4 at *
  have HO4 := Lib.hid ho4
  have HY4 := Lib.hid hy4
  clear ho4 hy4
  refine wpAnyK_ready (rs := [7]) (by kernel_rfl) (by simp) ?_
  refine AllReadyK.cons (o := _) rfl (fun K hK => ?_) AllReadyK.nil
  rw [if_pos (by rfl)]
  refine wp_appendG1 eltO _ _ rfl (rb + 1) p.O s.since rfl HO4.out w3.heap.size x rfl HY4.out (by omega) (by omega) (fun v' w5 hown hgr hat => ?_)
  have hln : (s.since ++ [x]).length = s.since.length + 1 := by simp
  obtain ⟨Av, cv, hv, -, -⟩ := own_argG eltO hown
  rw [hln] at hv hown
  subst hv
  have HLN := Lib.hid hln
  clear hln
  have hOlt : ∀ g, p.O.ownBlock = some g → rb < g ∧ g < w.heap.size := fun g hg => ⟨(ownB_owns H.out.own hg).1, (ownB_owns H.out.own hg).2⟩
  have hcell : ∀ ad : Addr, ad.block < w4.heap.size → p.O.ownBlock ≠ some ad.block → w5.cell? ad = w4.cell? ad := fun ad h1 h2 => by
    have hk := hgr.block ad.block h1 (fun e => h2 e.symm)
    unfold World.cell?
    rw [hk]
  have hS5 : w5.cell? ⟨rb, 1, none⟩ = some p.O ∧ w5.rangeAt w.heap.size 0 [.int .i64 k, .string ⟨a.toArray⟩, .string ⟨t.toArray⟩, .string ⟨u.toArray⟩] := ⟨(hcell _ (by show rb < _; omega) (fun e => by have := (hOlt _ e).1; exact absurd this (Nat.lt_irrefl _))).trans hS4.1, fun j v hv => (hcell _ (by show w.heap.size < _; omega) (fun e => by have := (hOlt _ e).2; exact absurd this (Nat.lt_irrefl _))).trans (hS4.2 j v hv)⟩
  have hk5 := HK4.out.grown hgr (fun e => by have := (hOlt _ e.symm).1; exact absurd this (Nat.lt_irrefl _))
  have hb5 := HB4.out.grown hgr (fun e => by have := (hOlt _ e.symm).2; exact absurd this (Nat.lt_irrefl _))
  have HA5 : Hid (Alt (fun j => j = rb ∨ p.O.ownBlock = some j) w w5) := (HA4.out.mono (fun j _ e => .inl e)).then (Alt.of_grown (R := fun j => p.O.ownBlock = some j) hgr (fun j hj => hj)) (fun j _ e => .inr e)
  have HOW5 := Lib.hid hown
  have HAT5 : Hid ((Value.slice Av (s.since.length + 1) cv).ownBlock = p.O.ownBlock ∨ ∀ g, (Value.slice Av (s.since.length + 1) cv).ownBlock = some g → w.heap.size ≤ g) := by
    rcases hat with e | e
    · exact .inl e
    · exact .inr (fun g hg => by rw [e] at hg; injection hg with hg; omega)
  have HK5 := Lib.hid hk5
  have HB5 := Lib.hid hb5
  have hsz5 : w.heap.size < w5.heap.size := by have := hgr.size; omega
  have c1 := (Whole.at_ hk5 1).trans rfl
  have z1 := Whole.thawed hk5 1
  refine hK _ _ (fun _ => hS5) ?_
  clear hK K hown hgr hat hcell hS4 hS5 hk5 hb5 HO4 HY4 HA4 HK4 HB4 hOlt
  refine wpAnyK_ready (rs := [8]) (by kernel_rfl) (by simp) ?_
  refine AllReadyK.cons (o := _) rfl (fun K hK => ?_) AllReadyK.nil
  rw [if_pos (by rfl)]
  go_simp
  refine hK _ _ (fun _ => ⟨(Whole.at_ HK5.out 1).trans rfl, fun j v hv => by rw [Nat.zero_add, HB5.out.at_, List.getElem?_toArray]; exact hv⟩) ?_
  clear hK K
  refine wpAnyK_ready (rs := [9]) (by kernel_rfl) (by simp) ?_
  refine AllReadyK.cons (o := _) rfl (fun K hK => ?_) AllReadyK.nil
  rw [if_pos (by rfl)]
  go_simp
  refine hK _ _ (fun _ => ⟨(Whole.at_ HK5.out 1).trans rfl, fun j v hv => by rw [Nat.zero_add, HB5.out.at_, List.getElem?_toArray]; exact hv⟩) ?_
  clear hK K
  refine wpAnyK_ready (rs := [10]) (by kernel_rfl) (by simp) ?_
  refine AllReadyK.cons (o := _) rfl (fun K hK => ?_) AllReadyK.nil
  rw [if_pos (by rfl)]
  go_simp
  have hk6 : Whole (w5.setCell ⟨rb, 1, none⟩ (.slice Av (s.since.length + 1) cv)) rb 76 #[.slice p.A2 s.sure.length p.c2, .slice Av (s.since.length + 1) cv, .slice p.A1 s.now.length p.c1, .int .i64 s.fuse, .int .i64 ((s.ops : Int) + 1), .bool s.down] := Whole.put HK5.out 1 _
  have a6 : Alt (· = rb) w5 (w5.setCell ⟨rb, 1, none⟩ (.slice Av (s.since.length + 1) cv)) := (Alt.refl (· = rb) w5).set (.inl rfl) _
  have hb6 := Whole.alt HB5.out a6 hne
  have HA6 : Hid (Alt (fun j => j = rb ∨ p.O.ownBlock = some j) w (w5.setCell ⟨rb, 1, none⟩ (.slice Av (s.since.length + 1) cv))) := HA5.out.then a6 (fun j _ e => .inl e)
  have ho6 := owns_alt HOW5.out a6 (fun g hg e => by have := (ownB_owns HOW5.out hg).1; omega)
  have hsz6 : w.heap.size < (w5.setCell ⟨rb, 1, none⟩ (.slice Av (s.since.length + 1) cv)).heap.size := Nat.lt_of_lt_of_le hsz5 a6.size
  refine hK _ _ (fun h => by cases h) ?_
  clear hK K a6 c1 z1 HK5 HB5 HA5 HOW5
  have HK6 := Lib.hid hk6
  have HB6 := Lib.hid hb6
  have HO6 := Lib.hid ho6
  clear hk6 hb6 ho6
  generalize w5.setCell ⟨rb, 1, none⟩ (.slice Av (s.since.length + 1) cv) = w6 at *
  refine wpAnyK_done (by kernel_rfl) ?_ _
  try simp only [Act.put]
  try go_simp
  go_upto_region 11 with fail
  refine wp_region_K (fun W => W.cell? ⟨rb, 2, none⟩ = some (.slice p.A1 s.now.length p.c1) ∧ W.rangeAt w.heap.size 0 [.int .i64 k, .string ⟨a.toArray⟩, .string ⟨t.toArray⟩, .string ⟨u.toArray⟩]) 9 (by kernel_rfl) ?_
  change wpAnyK _ _ _ _ _ _ _ _ _ (World.drew w6)
  have hk7 : Whole (World.drew w6) rb 76 #[.slice p.A2 s.sure.length p.c2, .slice Av (s.since.length + 1) cv, .slice p.A1 s.now.length p.c1, .int .i64 s.fuse, .int .i64 ((s.ops : Int) + 1), .bool s.down] := HK6.out
  have hb7 : Whole (World.drew w6) w.heap.size 86 #[.int .i64 k, .string ⟨a.toArray⟩, .string ⟨t.toArray⟩, .string ⟨u.toArray⟩] := HB6.out
  have ho7 : (World.drew w6).ownsRow (rb + 1) 86 4 (.slice Av (s.since.length + 1) cv) (s.since.length + 1) ((s.since ++ [x]).flatMap encP4) := HO6.out
  have hA7 : Alt (fun j => j = rb ∨ p.O.ownBlock = some j) w (World.drew w6) := HA6.out.drew
  have hsz7 : w.heap.size < (World.drew w6).heap.size := hsz6
  clear HK6 HB6 HO6 HA6 hsz6
  generalize World.drew w6 = w7 at *
  have HK7 := Lib.hid hk7
  have HB7 := Lib.hid hb7
  have HO7 := Lib.hid ho7
  have HA7 := Lib.hid hA7
  have hS0 : w7.cell? ⟨rb, 2, none⟩ = some (.slice p.A1 s.now.length p.c1) ∧ w7.rangeAt w.heap.size 0 [.int .i64 k, .string ⟨a.toArray⟩, .string ⟨t.toArray⟩, .string ⟨u.toArray⟩] := ⟨(Whole.at_ hk7 2).trans rfl, fun j v hv => by rw [Nat.zero_add, hb7.at_, List.getElem?_toArray]; exact hv⟩
  have hOno : ∀ g, p.O.ownBlock = some g → N g := H.out.no
  have hNR : ∀ j, j = rb ∨ p.O.ownBlock = some j → N j := fun j e => e.elim (fun e => e ▸ H.out.nb) (hOno j)
  have HNOW7 := Lib.hid (H.out.now.alt' hA7 (fun h0 j hj e => H.out.n1 h0 j hj (hNR j e)))
  have HSURE7 := Lib.hid (H.out.sure.alt' hA7 (fun h0 j hj e => H.out.n2 h0 j hj (hNR j e)))
  have HCALL := Lib.hid (rdone_any x hx p.A1 p.c1 s.now w7 HNOW7.out HR.out HN.out)
  rw [HXE.out] at HCALL
  clear hk7 hb7 ho7 hA7
  refine wpAnyK_take0 (i := 0) (oi := { dst := some 55, op := _, type := _, pos := _, after := _, guard := none }) (v := .pointer (some ⟨rb, 0, none⟩)) rfl (by kernel_rfl) (fun _ _ _ h => h) (Or.inl ⟨by rfl, fun W hW => ?_⟩) (fun _ => hS0) ?_
  · go_simp
  refine wpAnyK_take0 (i := 1) (oi := { dst := some 56, op := _, type := _, pos := _, after := _, guard := none }) (v := .pointer (some ⟨rb, 0, none⟩)) rfl (by kernel_rfl) (fun _ _ _ h => h) (Or.inl ⟨by rfl, fun W hW => ?_⟩) (fun _ => hS0) ?_
  · go_simp
  try simp only [Act.put]
  try go_simp
  refine wpAnyK_take0 (i := 2) (oi := { dst := some 57, op := _, type := _, pos := _, after := _, guard := none }) (v := .pointer (some ⟨rb, 0, none⟩)) rfl (by kernel_rfl) (fun _ _ _ h => h) (Or.inl ⟨by rfl, fun W hW => ?_⟩) (fun _ => hS0) ?_
  · go_simp
  try simp only [Act.put]
  try go_simp
  refine wpAnyK_take0 (i := 3) (oi := { dst := some 58, op := _, type := _, pos := _, after := _, guard := none }) (v := .pointer (some ⟨rb, 2, none⟩)) rfl (by kernel_rfl) (fun _ _ _ h => h) (Or.inl ⟨by rfl, fun W hW => ?_⟩) (fun _ => hS0) ?_
  · go_simp
  try simp only [Act.put]
  try go_simp
  refine wpAnyK_take (i := 4) (oi := { dst := some 59, op := _, type := _, pos := _, after := _, guard := none }) (v := .slice p.A1 s.now.length p.c1) rfl (by kernel_rfl) (fun _ _ _ h => h) (Or.inl ⟨by rfl, fun W hW => ?_⟩) hS0 ?_
  · obtain ⟨s0, s1⟩ := hW
    go_simp
  refine wpAnyK_take (i := 5) (oi := _) (v := .agg #[.int .i64 k, .string ⟨a.toArray⟩, .string ⟨t.toArray⟩, .string ⟨u.toArray⟩]) rfl (by kernel_rfl) (fun _ _ _ h => h) (yieldsIf_load_mid (by rfl) _ _ rfl w.heap.size (0) rfl ([.int .i64 k, .string ⟨a.toArray⟩, .string ⟨t.toArray⟩, .string ⟨u.toArray⟩]) _ (fun W hW => hW.2) Tryz.underlying86 rfl (infoO _ _ _ _)) hS0 ?_
  try simp only [Act.put]
  try go_simp
  refine wpAnyK_ready (rs := [6]) (by kernel_rfl) (by simp) ?_
  refine AllReadyK.cons (o := _) rfl (fun K hK => ?_) AllReadyK.nil
  rw [if_pos (by rfl)]
  go_simp
  refine HCALL.out.mono ?_
  rintro e w8 ⟨⟨A8, c8, rfl, hA8, hlo8⟩, hb8⟩
  have HNOW8 := Lib.hid hA8
  have HLO8 := Lib.hid hlo8
  have hb8' : Below w7.heap.size w7 w8 := hb8
  have HK8 := Lib.hid (HK7.out.below hb8' (by omega))
  have HB8 := Lib.hid (HB7.out.below hb8' hsz7)
  have HO8 := Lib.hid (owns_alt HO7.out (Alt.of_below (R := fun _ => False) hb8') (fun _ _ e => e))
  have HA8 := Lib.hid (HA7.out.below hb8')
  have HSURE8 := Lib.hid (HSURE7.out.later eltR hb8')
  have hsz8 : w.heap.size < w8.heap.size := by have := hb8'.size; omega
  have h78 : w.heap.size ≤ w7.heap.size := Nat.le_of_lt hsz7
  have c2 := (Whole.at_ HK8.out 2).trans rfl
  have z2 := Whole.thawed HK8.out 2
  refine hK _ _ (fun _ => ⟨(Whole.at_ HK8.out 2).trans rfl, fun j v hv => by rw [Nat.zero_add, HB8.out.at_, List.getElem?_toArray]; exact hv⟩) ?_
  clear hK K hA8 hlo8 hb8 hb8' HCALL hS0
  refine wpAnyK_ready (rs := [7]) (by kernel_rfl) (by simp) ?_
  refine AllReadyK.cons (o := _) rfl (fun K hK => ?_) AllReadyK.nil
  rw [if_pos (by rfl)]
  go_simp
  refine hK _ _ (fun _ => ⟨(Whole.at_ HK8.out 2).trans rfl, fun j v hv => by rw [Nat.zero_add, HB8.out.at_, List.getElem?_toArray]; exact hv⟩) ?_
  clear hK K
  refine wpAnyK_ready (rs := [8]) (by kernel_rfl) (by simp) ?_
  refine AllReadyK.cons (o := _) rfl (fun K hK => ?_) AllReadyK.nil
  rw [if_pos (by rfl)]
  go_simp
  refine hK _ _ (fun _ => ⟨(Whole.at_ HK8.out 2).trans rfl, fun j v hv => by rw [Nat.zero_add, HB8.out.at_, List.getElem?_toArray]; exact hv⟩) ?_
  clear hK K
  refine wpAnyK_ready (rs := [9]) (by kernel_rfl) (by simp) ?_
  refine AllReadyK.cons (o := _) rfl (fun K hK => ?_) AllReadyK.nil
  rw [if_pos (by rfl)]
  go_simp
  have hk9 : Whole (w8.setCell ⟨rb, 2, none⟩ (.slice A8 (rdone x s.now).length c8)) rb 76 #[.slice p.A2 s.sure.length p.c2, .slice Av (s.since.length + 1) cv, .slice A8 (rdone x s.now).length c8, .int .i64 s.fuse, .int .i64 ((s.ops : Int) + 1), .bool s.down] := Whole.put HK8.out 2 _
  have a9 : Alt (· = rb) w8 (w8.setCell ⟨rb, 2, none⟩ (.slice A8 (rdone x s.now).length c8)) := (Alt.refl (· = rb) w8).set (.inl rfl) _
  have hA9 : Alt (fun j => j = rb ∨ p.O.ownBlock = some j) w (w8.setCell ⟨rb, 2, none⟩ (.slice A8 (rdone x s.now).length c8)) := HA8.out.then a9 (fun j _ e => .inl e)
  have ho9 := owns_alt HO8.out a9 (fun g hg e => by have := (ownB_owns HO8.out hg).1; omega)
  have hn9 : ArgG encF noF 2 (w8.setCell ⟨rb, 2, none⟩ (.slice A8 (rdone x s.now).length c8)) A8 c8 (rdone x s.now) := HNOW8.out.alt' a9 (fun h0 j hj e => by
    rcases HLO8.out j hj with h1 | ⟨h1, h2⟩
    · have := HK8.out.lt
      omega
    · rw [h2] at h0
      exact H.out.n1 h0 j h1 (by rw [e]; exact H.out.nb))
  have hs9 := HSURE8.out.alt' a9 (fun h0 j hj e => H.out.n2 h0 j hj (by rw [e]; exact H.out.nb))
  refine hK _ _ (fun h => by cases h) ?_
  clear hK K c2 z2 HK8 HB8 HO8 HA8 HSURE8
  generalize w8.setCell ⟨rb, 2, none⟩ (.slice A8 (rdone x s.now).length c8) = w9 at *
  have HK9 := Lib.hid hk9
  have HO9 := Lib.hid ho9
  have HA9 := Lib.hid hA9
  have HN9 := Lib.hid hn9
  have HS9 := Lib.hid hs9
  clear hk9 ho9 hA9 hn9 hs9
  refine wpAnyK_done (by kernel_rfl) ?_ _
  try simp only [Act.put]
  try go_simp
  go_wp2
  go_ret
  have hN' : ∀ j, (Value.slice Av (s.since.length + 1) cv).ownBlock = some j → N j ∨ w.heap.size ≤ j := fun j e => by
    rcases HAT5.out with h1 | h1
    · rw [h1] at e
      exact .inl (hOno j e)
    · exact .inr (h1 j e)
  refine ⟨rfl, ⟨fun j => N j ∨ (Value.slice Av (s.since.length + 1) cv).ownBlock = some j, ⟨fun j hj => .inl hj, fun j hj => hj.elim .inl (hN' j)⟩, ⟨A8, c8, p.A2, p.c2, .slice Av (s.since.length + 1) cv⟩, ⟨.inl H.out.nb, fun j hj => ?_, ?_, HN9.out, HS9.out, by have h9 := HO9.out; rw [← HLN.out] at h9; exact (by rw [HLN.out] at h9 ⊢; exact h9), fun j hj => .inr hj, fun h0 j hj hNj => ?_, fun h0 j hj hNj => ?_⟩⟩, HA9.out.mono (fun j _ e => ?_)⟩
  · rcases hj with hj | hj
    · exact Nat.lt_of_lt_of_le (H.out.nlt j hj) HA9.out.size
    · exact (ownB_owns HO9.out hj).2
  · show Whole w9 rb _ #[.slice p.A2 s.sure.length p.c2, .slice Av (s.since.length + 1) cv, .slice A8 (rdone x s.now).length c8, .int .i64 s.burnt.fuse, .int .i64 ((s.ops + 1 : Nat) : Int), .bool s.down]
    rw [HFB.out]
    exact HK9.out
  · rcases HLO8.out j hj with h1 | ⟨h1, h2⟩
    · rcases hNj with hNj | hNj
      · have := H.out.nlt j hNj
        omega
      · have := (ownB_owns HO7.out hNj).2
        omega
    · have h0' : 0 < s.now.length := by rw [← h2]; exact h0
      have hjw := H.out.now.lt eltF h1 h0'
      rcases hNj with hNj | hNj
      · exact H.out.n1 h0' j h1 hNj
      · rcases hN' j hNj with h3 | h3
        · exact H.out.n1 h0' j h1 h3
        · omega
  · have hjw := H.out.sure.lt eltF hj h0
    rcases hNj with hNj | hNj
    · exact H.out.n2 h0 j hj hNj
    · rcases hN' j hNj with h3 | h3
      · exact H.out.n2 h0 j hj h3
      · omega
  · rcases e with rfl | e
    · exact ⟨Nat.le_refl _, H.out.nb⟩
    · exact ⟨Nat.le_of_lt (ownB_owns H.out.own e).1, hOno j e⟩
end Go.Proofs.YtjoinnjhpfakpaaGreatDoor

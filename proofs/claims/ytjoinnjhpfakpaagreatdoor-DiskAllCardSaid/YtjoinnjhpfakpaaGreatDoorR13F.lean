/-
  The document's disk: do.
-/
import Derived.Test.YtjoinnjhpfakpaaGreatDoorR13E
namespace Go.Proofs.YtjoinnjhpfakpaaGreatDoor
open Go.RowKit

/-- An operation of the document's disk that was found right. -/
def DS.burnt (s : DS) : DS := { s with ops := s.ops + 1, left := if s.fused = true then s.left - 1 else s.left }
theorem fuse_burnt (s : DS) (hf : s.fuse ≠ 0) (hl : s.fused = true → 0 ≤ s.left) : s.burnt.fuse = if 0 < s.fuse then s.fuse - 1 else s.fuse := by
  unfold DS.fuse at *
  unfold DS.burnt
  cases hff : s.fused with
  | true =>
    rw [hff, if_pos rfl] at hf
    have := hl hff
    simp only [if_true]
    rw [if_pos (by omega)]
  | false =>
    simp only [Bool.false_eq_true, if_false]
    rw [if_neg (by omega)]
theorem RkP.turn {w w' : World} {N : Nat → Prop} {rb : Nat} {s s' : DS} {p : RP} (h : RkP w N rb s p) (ha : Alt (· = rb) w w') (hc : RkW w' rb s' p) (e1 : s'.now = s.now) (e2 : s'.sure = s.sure) (e3 : s'.since = s.since) : RkP w' N rb s' p := by
  have hN : Alt N w w' := ha.mono (fun k _ e => e ▸ h.nb)
  refine ⟨h.nb, fun j hj => Nat.lt_of_lt_of_le (h.nlt j hj) ha.size, hc, by rw [e1]; exact h.now.alt' hN h.n1, by rw [e2]; exact h.sure.alt' hN h.n2, ?_, h.no, by rw [e1]; exact h.n1, by rw [e2]; exact h.n2⟩
  rw [e3]
  exact owns_alt h.own ha (fun g hg e => by have := (ownB_owns h.own hg).1; omega)
theorem ref_one {w w' : World} {N : Nat → Prop} {rb : Nat} (ha : Alt (· = rb) w w') (hn : N rb) : Alt (Ref N rb) w w' := ha.mono (fun k _ e => by subst e; exact ⟨Nat.le_refl _, hn⟩)
set_option maxRecDepth 100000 in
theorem rdo_blown (N : Nat → Prop) (rb : Nat) (s : DS) (p : RP) (k : Int) (a t u : List UInt8) (w : World) (h : RkP w N rb s p) (hf : s.fuse = 0) :
    Calls Tryz.prog 39 #[.pointer (some ⟨rb, 0, none⟩), .agg #[.int .i64 k, .string ⟨a.toArray⟩, .string ⟨t.toArray⟩, .string ⟨u.toArray⟩]] w fun e w' => e = .returned (.int .i64 6) ∧ RkP w' N rb { s with down := true } p ∧ Alt (Ref N rb) w w' := by
  have hbx : Below w.heap.size w (w.alloc (.cells #[.int .i64 k, .string ⟨a.toArray⟩, .string ⟨t.toArray⟩, .string ⟨u.toArray⟩] 86)) := (Below.refl _ _).alloc (Nat.le_refl _) _
  have hk1 := Whole.below h.cells hbx h.cells.lt
  have c3 := (Whole.at_ hk1 3).trans rfl
  rw [hf] at c3
  have c5 := (Whole.at_ hk1 5).trans rfl
  have z5 := Whole.thawed hk1 5
  have HB := Lib.hid hbx
  have HK := Lib.hid hk1
  have H := Lib.hid h
  generalize hw1 : w.alloc (.cells #[.int .i64 k, .string ⟨a.toArray⟩, .string ⟨t.toArray⟩, .string ⟨u.toArray⟩] 86) = w1 at *
  clear hbx hk1 h
  go_enter Tryz.func39, Tryz.ntmps39
  go_wp2
  go_ret
  have hk2 : RkW (w1.setCell ⟨rb, 5, none⟩ (.bool true)) rb { s with down := true } p := Whole.put HK.out 5 _
  have ha2 : Alt (· = rb) w1 (w1.setCell ⟨rb, 5, none⟩ (.bool true)) := (Alt.refl (· = rb) w1).set (.inl rfl) _
  have hA := (Alt.of_below (R := (· = rb)) HB.out).trans ha2
  exact ⟨rfl, H.out.turn hA hk2 rfl rfl rfl, ref_one hA H.out.nb⟩
set_option maxRecDepth 100000 in
theorem rdo_sync_p (N : Nat → Prop) (rb : Nat) (s : DS) (p : RP) (a t u : List UInt8) (w : World) (h : RkP w N rb s p) (hf : 0 < s.fuse) (hl : -(2 ^ 63) ≤ s.left ∧ s.left < 2 ^ 63) (ho : s.ops ≤ 1000) (hfb : s.burnt.fuse = (s.fuse - 1)) :
    Calls Tryz.prog 39 #[.pointer (some ⟨rb, 0, none⟩), .agg #[.int .i64 0, .string ⟨a.toArray⟩, .string ⟨t.toArray⟩, .string ⟨u.toArray⟩]] w fun e w' => e = .returned (.int .i64 0) ∧ (∃ p', RkP w' N rb { s.burnt with sure := s.now, since := [] } p') ∧ Alt (Ref N rb) w w' := by
  have hbx : Below w.heap.size w (w.alloc (.cells #[.int .i64 0, .string ⟨a.toArray⟩, .string ⟨t.toArray⟩, .string ⟨u.toArray⟩] 86)) := (Below.refl _ _).alloc (Nat.le_refl _) _
  have hk1 := Whole.below h.cells hbx h.cells.lt
  have hop := (Whole.made w 86 #[.int .i64 0, .string ⟨a.toArray⟩, .string ⟨t.toArray⟩, .string ⟨u.toArray⟩])
  have hne : w.heap.size ≠ rb := by have := h.cells.lt; omega
  have co := (hop.at_ 0).trans rfl
  have cc0 := (Whole.at_ hk1 0).trans rfl
  have cc1 := (Whole.at_ hk1 1).trans rfl
  have c2 := (Whole.at_ hk1 2).trans rfl
  have c3 := (Whole.at_ hk1 3).trans rfl
  have c4 := (Whole.at_ hk1 4).trans rfl
  have z0 := Whole.thawed hk1 0
  have z1 := Whole.thawed hk1 1
  have z3 := Whole.thawed hk1 3
  have z4 := Whole.thawed hk1 4
  have hf0 : (s.fuse == 0) = false := by simp; omega
  have hf1 : s.fuse > 0 := by omega
  have hub : s.fuse < 2 ^ 63 := by unfold DS.fuse; split <;> omega
  have kl : IntKind.i64.wrap (s.fuse - 1) = s.fuse - 1 := IntWalk.i64_in _ (by omega)
  have ko : IntKind.i64.wrap ((s.ops : Int) + 1) = (s.ops : Int) + 1 := IntWalk.i64_in _ (by omega)
  have HB := Lib.hid hbx
  have HK := Lib.hid hk1
  have H := Lib.hid h
  have HFB := Lib.hid hfb
  generalize hw1 : w.alloc (.cells #[.int .i64 0, .string ⟨a.toArray⟩, .string ⟨t.toArray⟩, .string ⟨u.toArray⟩] 86) = w1 at *
  clear hbx hk1 h hfb hop hl hub
  go_enter Tryz.func39, Tryz.ntmps39
  go_wp2
  go_ret
  have k0 : Whole (w1.setCell ⟨rb, 3, none⟩ (.int .i64 (s.fuse - 1))) rb 76 #[.slice p.A2 s.sure.length p.c2, p.O, .slice p.A1 s.now.length p.c1, .int .i64 (s.fuse - 1), .int .i64 (s.ops : Int), .bool s.down] := Whole.put HK.out 3 _
  have a0 : Alt (· = rb) w1 (w1.setCell ⟨rb, 3, none⟩ (.int .i64 (s.fuse - 1))) := (Alt.refl (· = rb) w1).set (.inl rfl) _
  have k1 : Whole ((w1.setCell ⟨rb, 3, none⟩ (.int .i64 (s.fuse - 1))).setCell ⟨rb, 4, none⟩ (.int .i64 ((s.ops : Int) + 1))) rb 76 #[.slice p.A2 s.sure.length p.c2, p.O, .slice p.A1 s.now.length p.c1, .int .i64 (s.fuse - 1), .int .i64 ((s.ops : Int) + 1), .bool s.down] := Whole.put k0 4 _
  have k2 : Whole (((w1.setCell ⟨rb, 3, none⟩ (.int .i64 (s.fuse - 1))).setCell ⟨rb, 4, none⟩ (.int .i64 ((s.ops : Int) + 1))).setCell ⟨rb, 0, none⟩ (.slice p.A1 s.now.length p.c1)) rb 76 #[.slice p.A1 s.now.length p.c1, p.O, .slice p.A1 s.now.length p.c1, .int .i64 (s.fuse - 1), .int .i64 ((s.ops : Int) + 1), .bool s.down] := Whole.put k1 0 _
  have k3 : Whole ((((w1.setCell ⟨rb, 3, none⟩ (.int .i64 (s.fuse - 1))).setCell ⟨rb, 4, none⟩ (.int .i64 ((s.ops : Int) + 1))).setCell ⟨rb, 0, none⟩ (.slice p.A1 s.now.length p.c1)).setCell ⟨rb, 1, none⟩ (.slice none 0 0)) rb 76 #[.slice p.A1 s.now.length p.c1, .slice none 0 0, .slice p.A1 s.now.length p.c1, .int .i64 (s.fuse - 1), .int .i64 ((s.ops : Int) + 1), .bool s.down] := Whole.put k2 1 _
  have a3 : Alt (· = rb) w1 ((((w1.setCell ⟨rb, 3, none⟩ (.int .i64 (s.fuse - 1))).setCell ⟨rb, 4, none⟩ (.int .i64 ((s.ops : Int) + 1))).setCell ⟨rb, 0, none⟩ (.slice p.A1 s.now.length p.c1)).setCell ⟨rb, 1, none⟩ (.slice none 0 0)) := ((a0.set (p := ⟨rb, 4, none⟩) (.inl rfl) _).set (p := ⟨rb, 0, none⟩) (.inl rfl) _).set (p := ⟨rb, 1, none⟩) (.inl rfl) _
  clear k0 k1 k2 a0
  generalize (((w1.setCell ⟨rb, 3, none⟩ (.int .i64 (s.fuse - 1))).setCell ⟨rb, 4, none⟩ (.int .i64 ((s.ops : Int) + 1))).setCell ⟨rb, 0, none⟩ (.slice p.A1 s.now.length p.c1)).setCell ⟨rb, 1, none⟩ (.slice none 0 0) = w3 at *
  have hA := (Alt.of_below (R := (· = rb)) HB.out).trans a3
  have hN : Alt N w w3 := hA.mono (fun k _ e => e ▸ H.out.nb)
  have hn := H.out.now.alt' hN H.out.n1
  refine ⟨rfl, ⟨⟨p.A1, p.c1, p.A1, p.c1, .slice none 0 0⟩, ⟨H.out.nb, fun j hj => Nat.lt_of_lt_of_le (H.out.nlt j hj) hA.size, ?_, hn, hn, World.ownsRow_nil _ _ _ _, (fun j e => by cases e), H.out.n1, H.out.n1⟩⟩, ref_one hA H.out.nb⟩
  show Whole w3 rb _ #[.slice p.A1 s.now.length p.c1, .slice none 0 0, .slice p.A1 s.now.length p.c1, .int .i64 s.burnt.fuse, .int .i64 ((s.ops + 1 : Nat) : Int), .bool s.down]
  rw [HFB.out]
  exact k3
set_option maxRecDepth 100000 in
theorem rdo_sync_n (N : Nat → Prop) (rb : Nat) (s : DS) (p : RP) (a t u : List UInt8) (w : World) (h : RkP w N rb s p) (hf : s.fuse = -1) (hl : -(2 ^ 63) ≤ s.left ∧ s.left < 2 ^ 63) (ho : s.ops ≤ 1000) (hfb : s.burnt.fuse = s.fuse) :
    Calls Tryz.prog 39 #[.pointer (some ⟨rb, 0, none⟩), .agg #[.int .i64 0, .string ⟨a.toArray⟩, .string ⟨t.toArray⟩, .string ⟨u.toArray⟩]] w fun e w' => e = .returned (.int .i64 0) ∧ (∃ p', RkP w' N rb { s.burnt with sure := s.now, since := [] } p') ∧ Alt (Ref N rb) w w' := by
  have hbx : Below w.heap.size w (w.alloc (.cells #[.int .i64 0, .string ⟨a.toArray⟩, .string ⟨t.toArray⟩, .string ⟨u.toArray⟩] 86)) := (Below.refl _ _).alloc (Nat.le_refl _) _
  have hk1 := Whole.below h.cells hbx h.cells.lt
  have hop := (Whole.made w 86 #[.int .i64 0, .string ⟨a.toArray⟩, .string ⟨t.toArray⟩, .string ⟨u.toArray⟩])
  have hne : w.heap.size ≠ rb := by have := h.cells.lt; omega
  have co := (hop.at_ 0).trans rfl
  have cc0 := (Whole.at_ hk1 0).trans rfl
  have cc1 := (Whole.at_ hk1 1).trans rfl
  have c2 := (Whole.at_ hk1 2).trans rfl
  have c3 := (Whole.at_ hk1 3).trans rfl
  have c4 := (Whole.at_ hk1 4).trans rfl
  have z0 := Whole.thawed hk1 0
  have z1 := Whole.thawed hk1 1
  have z3 := Whole.thawed hk1 3
  have z4 := Whole.thawed hk1 4
  have hf0 : (s.fuse == 0) = false := by simp; omega
  have hf1 : ¬ s.fuse > 0 := by omega
  have hub : s.fuse < 2 ^ 63 := by unfold DS.fuse; split <;> omega
  have kl : IntKind.i64.wrap (s.fuse - 1) = s.fuse - 1 := IntWalk.i64_in _ (by omega)
  have ko : IntKind.i64.wrap ((s.ops : Int) + 1) = (s.ops : Int) + 1 := IntWalk.i64_in _ (by omega)
  have HB := Lib.hid hbx
  have HK := Lib.hid hk1
  have H := Lib.hid h
  have HFB := Lib.hid hfb
  generalize hw1 : w.alloc (.cells #[.int .i64 0, .string ⟨a.toArray⟩, .string ⟨t.toArray⟩, .string ⟨u.toArray⟩] 86) = w1 at *
  clear hbx hk1 h hfb hop hl hub
  go_enter Tryz.func39, Tryz.ntmps39
  go_wp2
  go_ret
  have k0 : Whole (w1) rb 76 #[.slice p.A2 s.sure.length p.c2, p.O, .slice p.A1 s.now.length p.c1, .int .i64 s.fuse, .int .i64 (s.ops : Int), .bool s.down] := HK.out
  have a0 : Alt (· = rb) w1 (w1) := Alt.refl _ _
  have k1 : Whole (w1.setCell ⟨rb, 4, none⟩ (.int .i64 ((s.ops : Int) + 1))) rb 76 #[.slice p.A2 s.sure.length p.c2, p.O, .slice p.A1 s.now.length p.c1, .int .i64 s.fuse, .int .i64 ((s.ops : Int) + 1), .bool s.down] := Whole.put k0 4 _
  have k2 : Whole ((w1.setCell ⟨rb, 4, none⟩ (.int .i64 ((s.ops : Int) + 1))).setCell ⟨rb, 0, none⟩ (.slice p.A1 s.now.length p.c1)) rb 76 #[.slice p.A1 s.now.length p.c1, p.O, .slice p.A1 s.now.length p.c1, .int .i64 s.fuse, .int .i64 ((s.ops : Int) + 1), .bool s.down] := Whole.put k1 0 _
  have k3 : Whole (((w1.setCell ⟨rb, 4, none⟩ (.int .i64 ((s.ops : Int) + 1))).setCell ⟨rb, 0, none⟩ (.slice p.A1 s.now.length p.c1)).setCell ⟨rb, 1, none⟩ (.slice none 0 0)) rb 76 #[.slice p.A1 s.now.length p.c1, .slice none 0 0, .slice p.A1 s.now.length p.c1, .int .i64 s.fuse, .int .i64 ((s.ops : Int) + 1), .bool s.down] := Whole.put k2 1 _
  have a3 : Alt (· = rb) w1 (((w1.setCell ⟨rb, 4, none⟩ (.int .i64 ((s.ops : Int) + 1))).setCell ⟨rb, 0, none⟩ (.slice p.A1 s.now.length p.c1)).setCell ⟨rb, 1, none⟩ (.slice none 0 0)) := ((a0.set (p := ⟨rb, 4, none⟩) (.inl rfl) _).set (p := ⟨rb, 0, none⟩) (.inl rfl) _).set (p := ⟨rb, 1, none⟩) (.inl rfl) _
  clear k0 k1 k2 a0
  generalize ((w1.setCell ⟨rb, 4, none⟩ (.int .i64 ((s.ops : Int) + 1))).setCell ⟨rb, 0, none⟩ (.slice p.A1 s.now.length p.c1)).setCell ⟨rb, 1, none⟩ (.slice none 0 0) = w3 at *
  have hA := (Alt.of_below (R := (· = rb)) HB.out).trans a3
  have hN : Alt N w w3 := hA.mono (fun k _ e => e ▸ H.out.nb)
  have hn := H.out.now.alt' hN H.out.n1
  refine ⟨rfl, ⟨⟨p.A1, p.c1, p.A1, p.c1, .slice none 0 0⟩, ⟨H.out.nb, fun j hj => Nat.lt_of_lt_of_le (H.out.nlt j hj) hA.size, ?_, hn, hn, World.ownsRow_nil _ _ _ _, (fun j e => by cases e), H.out.n1, H.out.n1⟩⟩, ref_one hA H.out.nb⟩
  show Whole w3 rb _ #[.slice p.A1 s.now.length p.c1, .slice none 0 0, .slice p.A1 s.now.length p.c1, .int .i64 s.burnt.fuse, .int .i64 ((s.ops + 1 : Nat) : Int), .bool s.down]
  rw [HFB.out]
  exact k3
end Go.Proofs.YtjoinnjhpfakpaaGreatDoor

/-
  A disk: New, Write, Move, Remove, Sync, Read.
-/
import Derived.Test.YtjoinnjhpfakpaaGreatDoorDskN
namespace Go.Proofs.YtjoinnjhpfakpaaGreatDoor
open Go.RowKit

def DS.new : DS := ⟨[], [], [], 0, false, 0, false⟩
theorem dnew_any (N : Nat → Prop) (w : World) (h1 : N w.heap.size) (h2 : ∀ j, N j → j ≤ w.heap.size) : Calls Tryz.prog 6 #[] w fun e w' => e = .returned (.pointer (some ⟨w.heap.size, 0, none⟩)) ∧ Dk w' N w.heap.size DS.new ∧ Below w.heap.size w w' := by
  go_enter Tryz.func6, Tryz.ntmps6
  go_wp2
  go_ret
  refine ⟨rfl, ⟨⟨none, 0, none, 0, none, 0, []⟩, ⟨h1, fun j hj => by have := h2 j hj; simp; omega, Whole.made w _ _, argG_nil _, argG_nil _, rowV_nil _, rfl, fun i v x h => by simp at h, fun h => by simp [DS.new] at h, fun h => by simp [DS.new] at h, fun h => by simp at h, by simp [DS.new], by simp [DS.new], by simp [DS.new], by simp [DS.new], by simp [DS.new]⟩⟩, (Below.refl _ _).alloc (Nat.le_refl _) _⟩
/-- What an operation tells. -/
def Did (s : DS) (x : Ch) (N : Nat → Prop) (b : Nat) (w : World) (e : Ending) (w' : World) : Prop := e = .returned (.int .i64 ((s.step x).1 : Int)) ∧ Dk w' N b (s.step x).2 ∧ Alt (· = b) w w'
set_option maxRecDepth 100000 in
theorem dwrite_any (N : Nat → Prop) (b : Nat) (s : DS) (a c : List UInt8) (w : World) (h : Dk w N b s) (ha : a.length < 2 ^ 63) (hc : c.length < 2 ^ 63) (ho : s.ops + 1 < 2 ^ 61) (hl : s.fused = true → 0 ≤ s.left) :
    Calls Tryz.prog 9 #[.pointer (some ⟨b, 0, none⟩), .string ⟨a.toArray⟩, .string ⟨c.toArray⟩] w (Did s (.wr a c) N b w) := by
  have hnlt := h.choose_spec.nlt
  have hb1 : Below w.heap.size w (w.alloc (.cells #[.string ⟨a.toArray⟩] 9)) := (Below.refl _ _).alloc (Nat.le_refl _) _
  have hb2 := hb1.alloc (by simp) (.cells #[.string ⟨c.toArray⟩] 9)
  have hw1 := Whole.made w 9 #[.string ⟨a.toArray⟩]
  have hw1' := hw1.past (.cells #[.string ⟨c.toArray⟩] 9)
  have HIS : Hid (IsCh ((w.alloc (.cells #[.string ⟨a.toArray⟩] 9)).alloc (.cells #[.string ⟨c.toArray⟩] 9)) N (fnV 35 [w.heap.size, w.heap.size + 1]) (.wr a c)) := ⟨_, _, rfl, ⟨fun e => by have := hnlt _ e; omega, (hw1'.at_ 0).trans rfl, ha⟩, ⟨fun e => by have := hnlt _ e; omega, by simp, hc⟩⟩
  have HD := Lib.hid (ddo_any N b s _ (.wr a c) _ (h.below hb2) HIS.out ho hl)
  have HB := Lib.hid hb2
  clear hb1 hb2 hw1 hw1' h
  go_enter Tryz.func9, Tryz.ntmps9
  go_wp2_with fail
  refine HD.out.mono ?_
  rintro e w1 ⟨rfl, hd, ha1⟩
  have HR : Hid (Did s (.wr a c) N b w (.returned (.int .i64 ((s.step (.wr a c)).1 : Int))) w1) := ⟨rfl, hd, (Alt.of_below HB.out).trans ha1⟩
  clear HD HB hd ha1
  go_wp2
  go_ret
  exact HR.out
set_option maxRecDepth 100000 in
theorem dmove_any (N : Nat → Prop) (b : Nat) (s : DS) (a c : List UInt8) (w : World) (h : Dk w N b s) (ha : a.length < 2 ^ 63) (hc : c.length < 2 ^ 63) (ho : s.ops + 1 < 2 ^ 61) (hl : s.fused = true → 0 ≤ s.left) :
    Calls Tryz.prog 11 #[.pointer (some ⟨b, 0, none⟩), .string ⟨a.toArray⟩, .string ⟨c.toArray⟩] w (Did s (.mv a c) N b w) := by
  have hnlt := h.choose_spec.nlt
  have hb1 : Below w.heap.size w (w.alloc (.cells #[.string ⟨a.toArray⟩] 9)) := (Below.refl _ _).alloc (Nat.le_refl _) _
  have hb2 := hb1.alloc (by simp) (.cells #[.string ⟨c.toArray⟩] 9)
  have hw1 := Whole.made w 9 #[.string ⟨a.toArray⟩]
  have hw1' := hw1.past (.cells #[.string ⟨c.toArray⟩] 9)
  have HIS : Hid (IsCh ((w.alloc (.cells #[.string ⟨a.toArray⟩] 9)).alloc (.cells #[.string ⟨c.toArray⟩] 9)) N (fnV 40 [w.heap.size, w.heap.size + 1]) (.mv a c)) := ⟨_, _, rfl, ⟨fun e => by have := hnlt _ e; omega, (hw1'.at_ 0).trans rfl, ha⟩, ⟨fun e => by have := hnlt _ e; omega, by simp, hc⟩⟩
  have HD := Lib.hid (ddo_any N b s _ (.mv a c) _ (h.below hb2) HIS.out ho hl)
  have HB := Lib.hid hb2
  clear hb1 hb2 hw1 hw1' h
  go_enter Tryz.func11, Tryz.ntmps11
  go_wp2_with fail
  refine HD.out.mono ?_
  rintro e w1 ⟨rfl, hd, ha1⟩
  have HR : Hid (Did s (.mv a c) N b w (.returned (.int .i64 ((s.step (.mv a c)).1 : Int))) w1) := ⟨rfl, hd, (Alt.of_below HB.out).trans ha1⟩
  clear HD HB hd ha1
  go_wp2
  go_ret
  exact HR.out
set_option maxRecDepth 100000 in
theorem dremove_any (N : Nat → Prop) (b : Nat) (s : DS) (a : List UInt8) (w : World) (h : Dk w N b s) (ha : a.length < 2 ^ 63) (ho : s.ops + 1 < 2 ^ 61) (hl : s.fused = true → 0 ≤ s.left) :
    Calls Tryz.prog 13 #[.pointer (some ⟨b, 0, none⟩), .string ⟨a.toArray⟩] w (Did s (.rm a) N b w) := by
  have hnlt := h.choose_spec.nlt
  have hb1 : Below w.heap.size w (w.alloc (.cells #[.string ⟨a.toArray⟩] 9)) := (Below.refl _ _).alloc (Nat.le_refl _) _
  have hw1 := Whole.made w 9 #[.string ⟨a.toArray⟩]
  have HIS : Hid (IsCh (w.alloc (.cells #[.string ⟨a.toArray⟩] 9)) N (fnV 42 [w.heap.size]) (.rm a)) := ⟨_, rfl, ⟨fun e => by have := hnlt _ e; omega, (hw1.at_ 0).trans rfl, ha⟩⟩
  have HD := Lib.hid (ddo_any N b s _ (.rm a) _ (h.below hb1) HIS.out ho hl)
  have HB := Lib.hid hb1
  clear hb1 hw1 h
  go_enter Tryz.func13, Tryz.ntmps13
  go_wp2_with fail
  refine HD.out.mono ?_
  rintro e w1 ⟨rfl, hd, ha1⟩
  have HR : Hid (Did s (.rm a) N b w (.returned (.int .i64 ((s.step (.rm a)).1 : Int))) w1) := ⟨rfl, hd, (Alt.of_below HB.out).trans ha1⟩
  clear HD HB hd ha1
  go_wp2
  go_ret
  exact HR.out
/-- Sync: what is now is sure. -/
def DS.sync (s : DS) : Nat × DS := if (s.step .sy).1 = 0 then (0, { (s.step .sy).2 with sure := (s.step .sy).2.now, since := [] }) else s.step .sy
set_option maxRecDepth 100000 in
theorem dsync_any (N : Nat → Prop) (b : Nat) (s : DS) (w : World) (h : Dk w N b s) (ho : s.ops + 1 < 2 ^ 61) (hl : s.fused = true → 0 ≤ s.left) :
    Calls Tryz.prog 15 #[.pointer (some ⟨b, 0, none⟩)] w fun e w' => e = .returned (.int .i64 (s.sync.1 : Int)) ∧ Dk w' N b s.sync.2 ∧ Alt (· = b) w w' := by
  have HD := Lib.hid (ddo_any N b s (fnV 44 []) .sy w h rfl ho hl)
  unfold DS.sync
  generalize s.step .sy = r at *
  obtain ⟨k, s'⟩ := r
  simp only at *
  by_cases hk : k = 0
  · subst hk
    rw [if_pos rfl]
    go_enter Tryz.func15, Tryz.ntmps15
    go_wp2_with fail
    refine HD.out.mono ?_
    rintro e w1 ⟨rfl, ⟨p, hp⟩, ha1⟩
    have HP := Lib.hid hp
    have HA := Lib.hid ha1
    have hc0 : w1.cell? ⟨b, 0, none⟩ = some (.slice p.A1 s'.now.length p.c1) := (Whole.at_ hp.cells 0).trans rfl
    have hc1 : w1.cell? ⟨b, 1, none⟩ = some (.slice p.A2 s'.sure.length p.c2) := (Whole.at_ hp.cells 1).trans rfl
    have hc2 : w1.cell? ⟨b, 2, none⟩ = some (.slice p.A3 s'.since.length p.c3) := (Whole.at_ hp.cells 2).trans rfl
    have hz1 := Whole.thawed hp.cells 1
    have hz2 := Whole.thawed hp.cells 2
    clear hp ha1 HD h
    go_wp2
    go_ret
    have hk1 : DkW (w1.setCell ⟨b, 1, none⟩ (.slice p.A1 s'.now.length p.c1)) b (.slice p.A1 s'.now.length p.c1) (.slice p.A1 s'.now.length p.c1) (.slice p.A3 s'.since.length p.c3) (s'.ops : Int) s'.fused s'.left s'.down := Whole.put HP.out.cells 1 _
    have hk2 : DkW ((w1.setCell ⟨b, 1, none⟩ (.slice p.A1 s'.now.length p.c1)).setCell ⟨b, 2, none⟩ (.slice none 0 0)) b (.slice p.A1 s'.now.length p.c1) (.slice p.A1 s'.now.length p.c1) (.slice none 0 0) (s'.ops : Int) s'.fused s'.left s'.down := Whole.put hk1 2 _
    have hA2 : Alt (· = b) w1 ((w1.setCell ⟨b, 1, none⟩ (.slice p.A1 s'.now.length p.c1)).setCell ⟨b, 2, none⟩ (.slice none 0 0)) := ((Alt.refl (· = b) w1).set (.inl rfl) _).set (.inl rfl) _
    generalize (w1.setCell ⟨b, 1, none⟩ (.slice p.A1 s'.now.length p.c1)).setCell ⟨b, 2, none⟩ (.slice none 0 0) = w2 at *
    have hN2 : Alt N w1 w2 := hA2.mono (fun k _ e => e ▸ HP.out.nb)
    have hn := HP.out.now.alt' hN2 HP.out.n1
    exact ⟨rfl, ⟨⟨p.A1, p.c1, p.A1, p.c1, none, 0, []⟩, ⟨HP.out.nb, fun j hj => Nat.lt_of_lt_of_le (HP.out.nlt j hj) hA2.size, hk2, hn, hn, rowV_nil _, rfl, fun i v x h => by simp at h, HP.out.n1, HP.out.n1, (fun h => by simp at h), HP.out.nowLen, HP.out.nowLen, Nat.zero_le _, HP.out.opsLt, HP.out.left0⟩⟩, HA.out.trans hA2⟩
  · rw [if_neg hk]
    have hk' : ¬ (k : Int) = 0 := by omega
    go_enter Tryz.func15, Tryz.ntmps15
    go_wp2_with fail
    refine HD.out.mono ?_
    rintro e w1 ⟨rfl, hd, ha1⟩
    have HR := Lib.hid (And.intro hd ha1)
    clear HD hd ha1
    go_wp2
    go_ret
    exact ⟨rfl, HR.out.1, HR.out.2⟩
/-- What Read tells. -/
def DS.read (s : DS) (nm : List UInt8) : List UInt8 × Nat := if s.down = true then ([], 6) else if bsF s.now nm = true then ((s.now.getD (bsW s.now nm) noF).2, 0) else ([], 4)
set_option maxRecDepth 100000 in
theorem dread_disk (N : Nat → Prop) (b : Nat) (s : DS) (nm : List UInt8) (w : World) (h : Dk w N b s) :
    Calls Tryz.prog 21 #[.pointer (some ⟨b, 0, none⟩), .string ⟨nm.toArray⟩] w fun e w' => e = .returned (.tuple #[.string ⟨(s.read nm).1.toArray⟩, .int .i64 ((s.read nm).2 : Int)]) ∧ Below w.heap.size w w' := by
  obtain ⟨p, hp⟩ := h
  have HP := Lib.hid hp
  have HD := Lib.hid (ddown_any b _ _ _ _ _ _ _ w hp.cells)
  have HF := Lib.hid (find_any p.A1 p.c1 s.now nm w hp.now (by have := hp.nowLen; omega))
  have hc0 : w.cell? ⟨b, 0, none⟩ = some (.slice p.A1 s.now.length p.c1) := (Whole.at_ hp.cells 0).trans rfl
  clear hp
  unfold DS.read
  cases hd : s.down with
  | true =>
    rw [hd] at HD
    rw [if_pos rfl]
    clear HF hc0
    go_enter Tryz.func21, Tryz.ntmps21
    go_wp2_with (go_at_call 25; refine HD.out.mono ?_; rintro e w1 ⟨rfl, rfl⟩)
    exact bodyPost_ret (results_tmp2 rfl _ _ _) rfl ⟨rfl, Below.refl _ _⟩
  | false =>
    rw [hd] at HD
    rw [if_neg (by simp)]
    cases hb : bsF s.now nm with
    | false =>
      rw [hb] at HF
      rw [if_neg (by simp)]
      go_enter Tryz.func21, Tryz.ntmps21
      go_wp2_with (first
        | (go_at_call 25; refine HD.out.mono ?_; rintro e w1 ⟨rfl, rfl⟩)
        | (go_at_call 46; refine HF.out.mono ?_; rintro e w2 ⟨rfl, hB⟩; have HB := Lib.hid hB; clear hB))
      exact bodyPost_ret (results_tmp2 rfl _ _ _) rfl ⟨rfl, HB.out⟩
    | true =>
      rw [hb] at HF
      rw [if_pos rfl]
      have hlt := bsF_lt hb
      obtain ⟨bb, o, he, -⟩ := HP.out.now.2.2.2 (by omega)
      have HC : Hid (∀ W, Below w.heap.size w W → W.cell? ⟨bb, o + bsW s.now nm * 2 + 1, none⟩ = some (.string ⟨(s.now.getD (bsW s.now nm) noF).2.toArray⟩)) := fun W hW => by
        obtain ⟨b2, o2, he2, hr⟩ := (HP.out.now.later eltF hW).2.2.2 (by omega)
        rw [he] at he2
        injection he2 with he2
        injection he2 with e1 e2 e3
        subst e1
        subst e2
        exact hr (bsW s.now nm) hlt 1 _ rfl
      have HC0 : Hid (∀ W, Below w.heap.size w W → W.cell? ⟨b, 0, none⟩ = some (.slice (some ⟨bb, o, none⟩) s.now.length p.c1)) := fun W hW => (hW.cell (World.block_lt_of_cell? w _ hc0)).trans (by rw [hc0, he])
      rw [he] at hc0 HF
      generalize (s.now.getD (bsW s.now nm) noF).2 = tx at *
      generalize bsW s.now nm = q at *
      have hlt' : (q : Int) < (s.now.length : Int) := by omega
      have hlen := HP.out.nowLen
      clear HP
      go_enter Tryz.func21, Tryz.ntmps21
      go_wp2_with (first
        | (go_at_call 25; refine HD.out.mono ?_; rintro e w1 ⟨rfl, rfl⟩)
        | (go_at_call 46; refine HF.out.mono ?_; rintro e w2 ⟨rfl, hB⟩; have hc1 := HC.out _ hB; have hc2 := HC0.out _ hB; have HB := Lib.hid hB; clear hB HF HD))
      exact bodyPost_ret (results_tmp2 rfl _ _ _) rfl ⟨rfl, HB.out⟩
end Go.Proofs.YtjoinnjhpfakpaaGreatDoor

/-
  The document's disk: what its operations tell, in the words of the program's; Write, Move, Remove, Sync.
-/
import Derived.Test.YtjoinnjhpfakpaaGreatDoorR13G
namespace Go.Proofs.YtjoinnjhpfakpaaGreatDoor
open Go.RowKit

/-- An operation that was found right. -/
def DS.rop (s : DS) (x : Ch) : Nat × DS := if s.fuse = 0 then (6, { s with down := true }) else (0, { s.burnt with now := rdone x s.now, since := s.since ++ [x] })
def DS.rsync (s : DS) : Nat × DS := if s.fuse = 0 then (6, { s with down := true }) else (0, { s.burnt with sure := s.now, since := [] })
def may13 (a : List UInt8) : Prop := a ≠ [] ∧ a.length ≤ 100
instance (a : List UInt8) : Decidable (may13 a) := inferInstanceAs (Decidable (_ ∧ _))
theorem fuse_zero {s : DS} : s.fuse = 0 ↔ s.fused = true ∧ s.left = 0 := by
  unfold DS.fuse
  cases hf : s.fused with
  | true => simp
  | false => simp
theorem step_ok {s : DS} (h : Good s) (hd : s.down = false) (x : Ch) (hx : okC x) (h0 : (x.run s.now).1 = 0) : s.step x = s.rop x := by
  have hr : rdone x s.now = (x.run s.now).2 := by rw [← run_done s.now x hx h.nowLen, if_pos h0]
  unfold DS.step DS.rop
  rw [if_neg (by rw [hd]; simp), if_neg (by simp [h0])]
  by_cases hf : s.fuse = 0
  · rw [if_pos hf, if_pos (fuse_zero.1 hf)]
  · rw [if_neg hf, if_neg (fun e => hf (fuse_zero.2 e)), hr]
    have hl : s.since.length < 64 := by have := h.sinceLen; omega
    unfold DS.burnt
    simp only [hl, if_true]
theorem step_wr {s : DS} (h : Good s) (a b : List UInt8) : s.step (.wr a b) = if s.down = true then (6, s) else if ¬ may13 a then (1, s) else if bsF s.now a = false ∧ 100 ≤ s.now.length then (5, s) else s.rop (.wr a b) := by
  by_cases hd : s.down = true
  · unfold DS.step
    rw [if_pos hd, if_pos hd]
  · rw [if_neg hd]
    have hd' : s.down = false := by simpa using hd
    by_cases hm : may13 a
    · rw [if_neg (by simpa using hm)]
      have hm0 : ¬ (a = [] ∨ 100 < a.length) := by rintro (e | e); exact hm.1 e; exact absurd hm.2 (by omega)
      by_cases hl : bsF s.now a = false ∧ 100 ≤ s.now.length
      · rw [if_pos hl]
        have h1 : (Ch.run (.wr a b) s.now).1 = 5 := by
          show (wrF s.now a b).1 = 5
          unfold wrF
          rw [if_neg hm0, if_neg (by rw [hl.1]; simp), if_pos hl.2]
        unfold DS.step
        rw [if_neg hd, if_pos (by rw [h1]; simp), h1]
      · rw [if_neg hl]
        refine step_ok h hd' _ hm ?_
        show (wrF s.now a b).1 = 0
        unfold wrF
        rw [if_neg hm0]
        by_cases hb : bsF s.now a = true
        · rw [if_pos hb]
        · rw [if_neg hb, if_neg (fun e => hl ⟨by simpa using hb, e⟩)]
    · rw [if_pos hm]
      have hm0 : a = [] ∨ 100 < a.length := by
        rcases Nat.lt_or_ge 100 a.length with e | e
        · exact .inr e
        · exact .inl (Decidable.byContradiction fun e' => hm ⟨e', e⟩)
      have h1 : (Ch.run (.wr a b) s.now).1 = 1 := by
        show (wrF s.now a b).1 = 1
        unfold wrF
        rw [if_pos hm0]
      unfold DS.step
      rw [if_neg hd, if_pos (by rw [h1]; simp), h1]
theorem step_mv {s : DS} (h : Good s) (a b : List UInt8) : s.step (.mv a b) = if s.down = true then (6, s) else if bsF s.now a = false then (4, s) else if ¬ may13 b then (1, s) else s.rop (.mv a b) := by
  by_cases hd : s.down = true
  · unfold DS.step
    rw [if_pos hd, if_pos hd]
  · rw [if_neg hd]
    have hd' : s.down = false := by simpa using hd
    by_cases hb : bsF s.now a = true
    · rw [if_neg (by rw [hb]; simp)]
      have hlt := bsF_lt hb
      have hrm : (rmF s.now a).2 = s.now.take (bsW s.now a) ++ s.now.drop (bsW s.now a + 1) := by unfold rmF; rw [if_pos hb]
      have hrl : (rmF s.now a).2.length + 1 = s.now.length := by rw [hrm, List.length_append, List.length_take, List.length_drop]; omega
      have hmv : (Ch.run (.mv a b) s.now).1 = (wrF (rmF s.now a).2 b (s.now.getD (bsW s.now a) noF).2).1 := by
        show (mvF s.now a b).1 = _
        unfold mvF
        rw [if_pos hb]
      by_cases hm : may13 b
      · rw [if_neg (by simpa using hm)]
        have hm0 : ¬ (b = [] ∨ 100 < b.length) := by rintro (e | e); exact hm.1 e; exact absurd hm.2 (by omega)
        refine step_ok h hd' _ hm ?_
        rw [hmv]
        unfold wrF
        rw [if_neg hm0]
        split
        · rfl
        · rw [if_neg (by have := h.nowLen; omega)]
      · rw [if_pos hm]
        have hm0 : b = [] ∨ 100 < b.length := by
          rcases Nat.lt_or_ge 100 b.length with e | e
          · exact .inr e
          · exact .inl (Decidable.byContradiction fun e' => hm ⟨e', e⟩)
        have h1 : (Ch.run (.mv a b) s.now).1 = 1 := by
          rw [hmv]
          unfold wrF
          rw [if_pos hm0]
        unfold DS.step
        rw [if_neg hd, if_pos (by rw [h1]; simp), h1]
    · have hb' : bsF s.now a = false := by simpa using hb
      rw [if_pos hb']
      have h1 : (Ch.run (.mv a b) s.now).1 = 4 := by
        show (mvF s.now a b).1 = 4
        unfold mvF
        rw [if_neg hb]
      unfold DS.step
      rw [if_neg hd, if_pos (by rw [h1]; simp), h1]
theorem step_rm {s : DS} (h : Good s) (a : List UInt8) : s.step (.rm a) = if s.down = true then (6, s) else if bsF s.now a = false then (4, s) else s.rop (.rm a) := by
  by_cases hd : s.down = true
  · unfold DS.step
    rw [if_pos hd, if_pos hd]
  · rw [if_neg hd]
    have hd' : s.down = false := by simpa using hd
    by_cases hb : bsF s.now a = true
    · rw [if_neg (by rw [hb]; simp)]
      refine step_ok h hd' _ trivial ?_
      show (rmF s.now a).1 = 0
      unfold rmF
      rw [if_pos hb]
    · have hb' : bsF s.now a = false := by simpa using hb
      rw [if_pos hb']
      have h1 : (Ch.run (.rm a) s.now).1 = 4 := by
        show (rmF s.now a).1 = 4
        unfold rmF
        rw [if_neg hb]
      unfold DS.step
      rw [if_neg hd, if_pos (by rw [h1]; simp), h1]
theorem sync_ok {s : DS} (h : Good s) : s.sync = if s.down = true then (6, s) else s.rsync := by
  have hl : s.since.length < 64 := by have := h.sinceLen; omega
  unfold DS.sync DS.step DS.rsync
  by_cases hd : s.down = true
  · simp [hd]
  · have hd' : s.down = false := by simpa using hd
    rw [if_neg hd]
    have hr : Ch.run .sy s.now = (0, s.now) := rfl
    simp only [hr, hd', Bool.false_eq_true, if_false, ne_eq, not_true_eq_false]
    by_cases hf : s.fuse = 0
    · simp [hf, fuse_zero.1 hf]
    · rw [if_neg (fun e => hf (fuse_zero.2 e)), if_neg hf]
      simp [DS.burnt, hd']

theorem RkP.below {w w' : World} {N : Nat → Prop} {rb : Nat} {s : DS} {p : RP} (h : RkP w N rb s p) (hb : Below w.heap.size w w') : RkP w' N rb s p :=
  h.turn (Alt.of_below hb) (Whole.below h.cells hb h.cells.lt) rfl rfl rfl
theorem rdid_same {w w' : World} {N : Nat → Prop} {rb : Nat} {s : DS} {p : RP} (h : RkP w' N rb s p) : RDid N rb s w w' := ⟨N, More.refl N w, p, h⟩
theorem RDid.from {w w1 w' : World} {N : Nat → Prop} {rb : Nat} {s : DS} (h : RDid N rb s w1 w') (hs : w.heap.size ≤ w1.heap.size) : RDid N rb s w w' := by
  obtain ⟨N', hm, p, hp⟩ := h
  exact ⟨N', ⟨hm.1, fun j hj => (hm.2 j hj).elim .inl (fun e => .inr (Nat.le_trans hs e))⟩, p, hp⟩
/-- What an operation tells and leaves. -/
def RTold (r : Nat × DS) (N : Nat → Prop) (rb : Nat) (w : World) (e : Ending) (w' : World) : Prop := e = .returned (.int .i64 (r.1 : Int)) ∧ RDid N rb r.2 w w' ∧ Alt (Ref N rb) w w'
theorem RTold.from {r : Nat × DS} {w w1 w' : World} {N : Nat → Prop} {rb : Nat} {e : Ending} (h : RTold r N rb w1 e w') (hb : Below w.heap.size w w1) : RTold r N rb w e w' :=
  ⟨h.1, h.2.1.from hb.size, (Alt.of_below hb).trans h.2.2⟩
theorem rdo_any (N : Nat → Prop) (rb : Nat) (s : DS) (p : RP) (x : Ch) (hx : okC x) (k : Int) (a t u : List UInt8) (hxe : encP4 x = [.int .i64 k, .string ⟨a.toArray⟩, .string ⟨t.toArray⟩, .string ⟨u.toArray⟩]) (hk : (k == 0) = false) (w : World) (h : RkP w N rb s p) (hg : Good s) :
    Calls Tryz.prog 39 #[.pointer (some ⟨rb, 0, none⟩), .agg #[.int .i64 k, .string ⟨a.toArray⟩, .string ⟨t.toArray⟩, .string ⟨u.toArray⟩]] w (RTold (s.rop x) N rb w) := by
  unfold DS.rop
  by_cases hf : s.fuse = 0
  · rw [if_pos hf]
    refine (rdo_blown N rb s p k a t u w h hf).mono ?_
    rintro e w' ⟨rfl, h1, h2⟩
    exact ⟨rfl, rdid_same h1, h2⟩
  · rw [if_neg hf]
    have hfb := fuse_burnt s hf hg.left
    have hsl : s.since.length ≤ 1000 := by have := hg.sinceLen; omega
    by_cases hp : 0 < s.fuse
    · rw [if_pos hp] at hfb
      refine (rdo_done_p N rb s p x hx k a t u hxe hk w h hp hg.leftB hg.ops hg.now hg.nowLen hsl hfb).mono ?_
      rintro e w' ⟨rfl, h1, h2⟩
      exact ⟨rfl, h1, h2⟩
    · rw [if_neg hp] at hfb
      have hm : s.fuse = -1 := by
        unfold DS.fuse at *
        cases hff : s.fused with
        | true => rw [hff, if_pos rfl] at hf hp; have := hg.left hff; omega
        | false => simp
      refine (rdo_done_n N rb s p x hx k a t u hxe hk w h hm hg.leftB hg.ops hg.now hg.nowLen hsl hfb).mono ?_
      rintro e w' ⟨rfl, h1, h2⟩
      exact ⟨rfl, h1, h2⟩
theorem rdo_sync (N : Nat → Prop) (rb : Nat) (s : DS) (p : RP) (w : World) (h : RkP w N rb s p) (hg : Good s) :
    Calls Tryz.prog 39 #[.pointer (some ⟨rb, 0, none⟩), .agg #[.int .i64 0, .string ⟨#[]⟩, .string ⟨#[]⟩, .string ⟨#[]⟩]] w (RTold s.rsync N rb w) := by
  unfold DS.rsync
  by_cases hf : s.fuse = 0
  · rw [if_pos hf]
    refine (rdo_blown N rb s p 0 [] [] [] w h hf).mono ?_
    rintro e w' ⟨rfl, h1, h2⟩
    exact ⟨rfl, rdid_same h1, h2⟩
  · rw [if_neg hf]
    have hfb := fuse_burnt s hf hg.left
    by_cases hp : 0 < s.fuse
    · rw [if_pos hp] at hfb
      refine (rdo_sync_p N rb s p [] [] [] w h hp hg.leftB hg.ops hfb).mono ?_
      rintro e w' ⟨rfl, ⟨p', h1⟩, h2⟩
      exact ⟨rfl, rdid_same h1, h2⟩
    · rw [if_neg hp] at hfb
      have hm : s.fuse = -1 := by
        unfold DS.fuse at *
        cases hff : s.fused with
        | true => rw [hff, if_pos rfl] at hf hp; have := hg.left hff; omega
        | false => simp
      refine (rdo_sync_n N rb s p [] [] [] w h hm hg.leftB hg.ops hfb).mono ?_
      rintro e w' ⟨rfl, ⟨p', h1⟩, h2⟩
      exact ⟨rfl, rdid_same h1, h2⟩
end Go.Proofs.YtjoinnjhpfakpaaGreatDoor

/-
  What both disks keep, step by step.
-/
import Derived.Test.YtjoinnjhpfakpaaGreatDoorR13K
namespace Go.Proofs.YtjoinnjhpfakpaaGreatDoor
open Go.RowKit

structure GoodI (s : DS) (i : Nat) : Prop where
  now : Rises s.now
  sure : Rises s.sure
  nowLen : s.now.length ≤ 100
  sureLen : s.sure.length ≤ 100
  ok : ∀ x ∈ s.since, okC x
  sinceLen : s.since.length ≤ i
  ops : s.ops ≤ i
  left : s.fused = true → 0 ≤ s.left
  leftB : -(2 ^ 63) ≤ s.left ∧ s.left < 2 ^ 63
theorem GoodI.good {s : DS} {i : Nat} (h : GoodI s i) (hi : i ≤ 60) : Good s :=
  ⟨h.now, h.sure, h.nowLen, h.sureLen, h.ok, Nat.le_trans h.sinceLen (by omega), Nat.le_trans h.ops (by omega), h.left, h.leftB⟩
theorem GoodI.up {s : DS} {i : Nat} (h : GoodI s i) : GoodI s (i + 1) :=
  ⟨h.now, h.sure, h.nowLen, h.sureLen, h.ok, Nat.le_succ_of_le h.sinceLen, Nat.le_succ_of_le h.ops, h.left, h.leftB⟩
theorem goodI_new : GoodI DS.new 0 := ⟨.nil, .nil, by simp [DS.new], by simp [DS.new], by simp [DS.new], by simp [DS.new], by simp [DS.new], by simp [DS.new], by simp [DS.new]⟩
theorem run_okC {x : Ch} {fs : List Fl} (hx : x ≠ .sy) (h : (x.run fs).1 = 0) : okC x := by
  have wr0 : ∀ (fs : List Fl) (a b : List UInt8), (wrF fs a b).1 = 0 → a ≠ [] ∧ a.length ≤ 100 := by
    intro fs a b h
    unfold wrF at h
    by_cases h0 : a = [] ∨ 100 < a.length
    · rw [if_pos h0] at h
      cases h
    · exact ⟨fun e => h0 (.inl e), Nat.le_of_not_lt fun e => h0 (.inr e)⟩
  cases x with
  | wr a b => exact wr0 fs a b h
  | mv a b =>
    change (mvF fs a b).1 = 0 at h
    unfold mvF at h
    by_cases hb : bsF fs a = true
    · rw [if_pos hb] at h
      exact wr0 _ _ _ h
    · rw [if_neg hb] at h
      cases h
  | rm a => trivial
  | sy => exact absurd rfl hx
theorem goodI_left {s : DS} (hl : s.fused = true → 0 ≤ s.left) (hb : -(2 ^ 63) ≤ s.left ∧ s.left < 2 ^ 63) (hf : ¬ (s.fused = true ∧ s.left = 0)) :
    (s.fused = true → 0 ≤ (if s.fused = true then s.left - 1 else s.left)) ∧ -(2 ^ 63) ≤ (if s.fused = true then s.left - 1 else s.left) ∧ (if s.fused = true then s.left - 1 else s.left) < 2 ^ 63 := by
  by_cases h : s.fused = true
  · have := hl h
    have h0 : ¬ s.left = 0 := fun e => hf ⟨h, e⟩
    rw [if_pos h]
    exact ⟨fun _ => by omega, by omega, by omega⟩
  · rw [if_neg h]
    exact ⟨fun e => absurd e h, hb.1, hb.2⟩
theorem goodI_step {s : DS} {i : Nat} (h : GoodI s i) (x : Ch) (hx : x ≠ .sy) : GoodI (s.step x).2 (i + 1) := by
  unfold DS.step
  by_cases hd : s.down = true
  · rw [if_pos hd]; exact h.up
  · rw [if_neg hd]
    by_cases hk : (x.run s.now).1 ≠ 0
    · rw [if_pos hk]; exact h.up
    · rw [if_neg hk]
      have hk : (x.run s.now).1 = 0 := by simpa using hk
      by_cases hf : s.fused = true ∧ s.left = 0
      · rw [if_pos hf]
        have := h.up
        exact ⟨this.now, this.sure, this.nowLen, this.sureLen, this.ok, this.sinceLen, this.ops, this.left, this.leftB⟩
      · rw [if_neg hf]
        obtain ⟨l1, l2, l3⟩ := goodI_left h.left h.leftB hf
        refine ⟨rises_run h.now x hk, h.sure, x.len s.now h.nowLen, h.sureLen, ?_, ?_, Nat.succ_le_succ h.ops, l1, l2, l3⟩
        · intro y hy
          by_cases h64 : s.since.length < 64
          · simp only [if_pos h64] at hy
            rcases List.mem_append.1 hy with hy | hy
            · exact h.ok y hy
            · obtain rfl : y = x := by simpa using hy
              exact run_okC hx hk
          · simp only [if_neg h64] at hy
            exact h.ok y hy
        · have := h.sinceLen
          show (if s.since.length < 64 then s.since ++ [x] else s.since).length ≤ i + 1
          split
          · rw [List.length_append, List.length_singleton]; omega
          · omega
theorem goodI_sync {s : DS} {i : Nat} (h : GoodI s i) (hi : i ≤ 60) : GoodI s.sync.2 (i + 1) := by
  rw [sync_ok (h.good hi)]
  by_cases hd : s.down = true
  · rw [if_pos hd]; exact h.up
  · rw [if_neg hd]
    unfold DS.rsync
    by_cases hf : s.fuse = 0
    · rw [if_pos hf]
      have := h.up
      exact ⟨this.now, this.sure, this.nowLen, this.sureLen, this.ok, this.sinceLen, this.ops, this.left, this.leftB⟩
    · rw [if_neg hf]
      obtain ⟨l1, l2, l3⟩ := goodI_left h.left h.leftB (fun e => hf (fuse_zero.2 e))
      exact ⟨h.now, h.now, h.nowLen, h.nowLen, fun y hy => by simp at hy, Nat.zero_le _, Nat.succ_le_succ h.ops, l1, l2, l3⟩
theorem goodI_fuse {s : DS} {i : Nat} (h : GoodI s i) (k : Int) (hk : -(2 ^ 63) ≤ k ∧ k < 2 ^ 63) : GoodI (s.setFuse k) (i + 1) := by
  unfold DS.setFuse
  by_cases hd : s.down = true
  · rw [if_pos hd]; exact h.up
  · rw [if_neg hd]
    have := h.up
    exact ⟨this.now, this.sure, this.nowLen, this.sureLen, this.ok, this.sinceLen, this.ops, fun e => of_decide_eq_true e, hk⟩
theorem goodI_crash0 {s : DS} {i : Nat} (h : GoodI s i) (k : Nat) : GoodI (s.crash k) i :=
  ⟨keep_rises k s.since 0 s.sure h.sure, keep_rises k s.since 0 s.sure h.sure, keep_len k s.since 0 s.sure h.sureLen, keep_len k s.since 0 s.sure h.sureLen, fun y hy => by simp [DS.crash] at hy, Nat.zero_le _, h.ops, fun e => by simp [DS.crash] at e, by simp [DS.crash]⟩
theorem goodI_crash {s : DS} {i : Nat} (h : GoodI s i) (k : Nat) : GoodI (s.crash k) (i + 1) := (goodI_crash0 h k).up
set_option maxRecDepth 100000 in
theorem dfuse_down (b : Nat) (n s c : Value) (o l k : Int) (f : Bool) (w : World) (h : DkW w b n s c o f l true) :
    Calls Tryz.prog 17 #[.pointer (some ⟨b, 0, none⟩), .int .i64 k] w fun e w' => e = .returned (.tuple #[]) ∧ w = w' := by
  have HD := Lib.hid (ddown_any b n s c o l f true w h)
  clear h
  go_enter Tryz.func17, Tryz.ntmps17
  go_wp2_with (go_at_call 25; refine HD.out.mono ?_; rintro e w1 ⟨rfl, rfl⟩)
  exact bodyPost_end (v := .tuple #[]) (by simp [results, show Tryz.func17.results = #[] from rfl]) rfl ⟨rfl, rfl⟩
theorem dfuse_all (N : Nat → Prop) (b : Nat) (s : DS) (k : Int) (w : World) (h : Dk w N b s) (hk : -(2 ^ 63) ≤ k ∧ k < 2 ^ 63) : Calls Tryz.prog 17 #[.pointer (some ⟨b, 0, none⟩), .int .i64 k] w fun e w' => e = .returned (.tuple #[]) ∧ Dk w' N b (s.setFuse k) ∧ Alt (· = b) w w' := by
  unfold DS.setFuse
  by_cases hd : s.down = true
  · rw [if_pos hd]
    obtain ⟨p, hp⟩ := h
    have hc := hp.cells
    rw [hd] at hc
    refine (dfuse_down b _ _ _ _ _ k _ w hc).mono ?_
    rintro e w' ⟨rfl, rfl⟩
    exact ⟨rfl, ⟨p, hp⟩, Alt.refl _ _⟩
  · rw [if_neg hd]
    exact dfuse_dk N b s k w h (by simpa using hd) hk

/-! ### What is to be done -/
structure Qo where
  kind : Int
  n : Int
  file : List UInt8
  dest : List UInt8
  b : List UInt8
  keep : Nat
def encQ (q : Qo) : List Value := [.int .i64 q.kind, .int .i64 q.n, .string ⟨q.file.toArray⟩, .string ⟨q.dest.toArray⟩, .string ⟨q.b.toArray⟩, .int .u64 (q.keep : Int)]
def noQ : Qo := ⟨0, 0, [], [], [], 0⟩
theorem eltQ : Elt 30 22 6 encQ noQ where
  len := fun _ => rfl
  one := fun x v hv => by
    simp only [encQ, List.mem_cons, List.not_mem_nil, or_false] at hv
    rcases hv with rfl | rfl | rfl | rfl | rfl | rfl <;> rfl
  pos := by decide
  small := by decide
  und := Tryz.underlying22
  info := by
    have h : (Tryz.prog.info? 30).map (fun i => (i.zero, i.size, decide (i.bytes ≤ 4096))) = some (some (.agg (encQ noQ).toArray), 6, true) := by kernel_rfl
    cases hq : Tryz.prog.info? 30 with
    | none => rw [hq] at h; cases h
    | some i =>
      rw [hq] at h
      simp only [Option.map_some, Option.some.injEq, Prod.mk.injEq, decide_eq_true_eq] at h
      exact ⟨i, rfl, h.1, h.2.1, h.2.2⟩
  szo := Tryz.sizeOf30
  zero := fun w => by kernel_rfl
end Go.Proofs.YtjoinnjhpfakpaaGreatDoor

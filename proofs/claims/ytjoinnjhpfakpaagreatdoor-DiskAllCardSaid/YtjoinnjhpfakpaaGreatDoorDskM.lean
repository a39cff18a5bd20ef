/-
  A disk's changes: what each does to files; function values that lie in memory; a disk with all that hangs on it.
-/
import Derived.Test.YtjoinnjhpfakpaaGreatDoorMdkb
import Derived.Test.YtjoinnjhpfakpaaGreatDoorAlt
namespace Go.Proofs.YtjoinnjhpfakpaaGreatDoor
open Go.RowKit

/-- What an operation does to files. -/
inductive Ch where
  | wr (a b : List UInt8)
  | mv (a b : List UInt8)
  | rm (a : List UInt8)
  | sy
def Ch.run : Ch → List Fl → Nat × List Fl
  | .wr a b, fs => wrF fs a b
  | .mv a b, fs => mvF fs a b
  | .rm a, fs => rmF fs a
  | .sy, fs => (0, fs)
theorem bsG_ge (fs : List Fl) (nm : List UInt8) : ∀ f i j, i ≤ bsG fs nm f i j
  | 0, _, _ => Nat.le_refl _
  | f + 1, i, j => by
    unfold bsG
    split
    · split
      · exact Nat.le_trans (by omega) (bsG_ge fs nm f _ _)
      · exact bsG_ge fs nm f _ _
    · exact Nat.le_refl _
theorem bsF_lt {fs : List Fl} {nm : List UInt8} (h : bsF fs nm = true) : bsW fs nm < fs.length := by
  unfold bsF at h
  exact (of_decide_eq_true h).1
theorem wrF_len (fs : List Fl) (a b : List UInt8) (h : fs.length ≤ 100) : (wrF fs a b).2.length ≤ 100 := by
  have hl := bsW_le fs a
  unfold wrF
  split
  · simp
  split
  · next hb =>
    have := bsF_lt hb
    simp only [List.length_append, List.length_take, List.length_drop, List.length_singleton]
    omega
  split
  · simp
  · simp only [List.length_append, List.length_take, List.length_drop, List.length_singleton]
    omega
theorem rmF_len (fs : List Fl) (a : List UInt8) (h : fs.length ≤ 100) : (rmF fs a).2.length ≤ 100 := by
  have hl := bsW_le fs a
  unfold rmF
  split
  · simp only [List.length_append, List.length_take, List.length_drop]
    omega
  · simp
theorem Ch.len (x : Ch) (fs : List Fl) (h : fs.length ≤ 100) : (x.run fs).2.length ≤ 100 := by
  cases x with
  | wr a b => exact wrF_len fs a b h
  | mv a b =>
    show (mvF fs a b).2.length ≤ 100
    unfold mvF
    split
    · exact wrF_len _ _ _ (rmF_len fs a h)
    · simp
  | rm a => exact rmF_len fs a h
  | sy => exact h

/-! ### Function values -/
def ptr0 (g : Nat) : Value := .pointer (some ⟨g, 0, none⟩)
def fnV (G : Nat) (gs : List Nat) : Value := .func (.func G) #[] (gs.map ptr0).toArray
/-- A block with a string in it, none of N. -/
def StrAt (w : World) (N : Nat → Prop) (g : Nat) (a : List UInt8) : Prop := ¬ N g ∧ w.cell? ⟨g, 0, none⟩ = some (.string ⟨a.toArray⟩) ∧ a.length < 2 ^ 63
/-- A function value that does a change. -/
def IsCh (w : World) (N : Nat → Prop) (v : Value) : Ch → Prop
  | .wr a c => ∃ g1 g2, v = fnV 35 [g1, g2] ∧ StrAt w N g1 a ∧ StrAt w N g2 c
  | .mv a c => ∃ g1 g2, v = fnV 40 [g1, g2] ∧ StrAt w N g1 a ∧ StrAt w N g2 c
  | .rm a => ∃ g1, v = fnV 42 [g1] ∧ StrAt w N g1 a
  | .sy => v = fnV 44 []
theorem StrAt.alt {w w' : World} {N : Nat → Prop} {g : Nat} {a : List UInt8} (h : StrAt w N g a) (ha : Alt N w w') : StrAt w' N g a := by
  refine ⟨h.1, ?_, h.2.2⟩
  have hk := ha.block g (World.block_lt_of_cell? w _ h.2.1) h.1
  have := h.2.1
  unfold World.cell? at *
  dsimp only at *
  rw [hk]
  exact this
theorem IsCh.alt {w w' : World} {N : Nat → Prop} {v : Value} {x : Ch} (h : IsCh w N v x) (ha : Alt N w w') : IsCh w' N v x := by
  cases x with
  | wr a c => obtain ⟨g1, g2, e, h1, h2⟩ := h; exact ⟨g1, g2, e, h1.alt ha, h2.alt ha⟩
  | mv a c => obtain ⟨g1, g2, e, h1, h2⟩ := h; exact ⟨g1, g2, e, h1.alt ha, h2.alt ha⟩
  | rm a => obtain ⟨g1, e, h1⟩ := h; exact ⟨g1, e, h1.alt ha⟩
  | sy => exact h
/-- A list of files told with an error's number: the call's own, or the one that came in. -/
def Told2 (r : Nat × List Fl) (fs : List Fl) (A0 : Option Addr) (B : Nat) (e : Ending) (w : World) : Prop :=
  ∃ A c, e = .returned (.tuple #[.slice A r.2.length c, .int .i64 (r.1 : Int)]) ∧ ArgG encF noF 2 w A c r.2 ∧ ∀ j, inBlk A j → B ≤ j ∨ inBlk A0 j ∧ r.2 = fs
theorem ToldF.two {r : Nat × List Fl} {fs : List Fl} {A0 : Option Addr} {B : Nat} {e : Ending} {w : World} (h : ToldF r B e w) : Told2 r fs A0 B e w := by
  obtain ⟨A, c, he, hA, hO⟩ := h
  exact ⟨A, c, he, hA, fun j hj => .inl (hO.1 j hj)⟩
/-- What calling it does. -/
theorem IsCh.call {w : World} {N : Nat → Prop} {v : Value} {x : Ch} (h : IsCh w N v x) : ∃ G caps, v = .func (.func G) #[] caps ∧ (∀ W a, (callFunc G (#[a] ++ caps)).run Tryz.prog W = .ok (.enter G (#[a] ++ caps)) W) ∧ ∀ W, Alt N w W → ∀ A c fs, ArgG encF noF 2 W A c fs → fs.length ≤ 1000 →
    Calls Tryz.prog G (#[.slice A fs.length c] ++ caps) W fun e w' => Told2 (x.run fs) fs A W.heap.size e w' ∧ Below W.heap.size W w' := by
  cases x with
  | wr a c =>
    obtain ⟨g1, g2, rfl, h1, h2⟩ := h
    refine ⟨_, _, rfl, fun _ _ => by kernel_rfl, fun W hW A c fs hA hn => ?_⟩
    exact (write1_any A c fs a _ g1 g2 W hA hn h1.2.2 (h1.alt hW).2.1 (h2.alt hW).2.1).mono fun e w' h => ⟨h.1.two, h.2⟩
  | mv a c =>
    obtain ⟨g1, g2, rfl, h1, h2⟩ := h
    refine ⟨_, _, rfl, fun _ _ => by kernel_rfl, fun W hW A c fs hA hn => ?_⟩
    exact (move1_any A c fs a _ g1 g2 W hA hn h2.2.2 (h1.alt hW).2.1 (h2.alt hW).2.1).mono fun e w' h => ⟨h.1.two, h.2⟩
  | rm a =>
    obtain ⟨g1, rfl, h1⟩ := h
    refine ⟨_, _, rfl, fun _ _ => by kernel_rfl, fun W hW A c fs hA hn => ?_⟩
    exact (remove1_any A c fs a g1 W hA hn (h1.alt hW).2.1).mono fun e w' h => ⟨h.1.two, h.2⟩
  | sy =>
    refine ⟨_, _, h, fun _ _ => by kernel_rfl, fun W hW A c fs hA hn => ?_⟩
    refine (sync1_any A c fs.length W).mono ?_
    rintro e w' ⟨rfl, rfl⟩
    exact ⟨⟨A, c, rfl, hA, fun j hj => .inr ⟨hj, rfl⟩⟩, Below.refl _ _⟩

/-! ### Rows of function values -/
/-- A slice of values of one cell each. -/
def RowV (w : World) (A : Option Addr) (c : Nat) (vs : List Value) : Prop :=
  vs.length ≤ c ∧ c ≤ maxLen ∧ (A = none → c = 0) ∧ (0 < vs.length → ∃ b o, A = some ⟨b, o, none⟩ ∧ ∀ j u, vs[j]? = some u → w.cell? ⟨b, o + j, none⟩ = some u)
theorem rowV_nil (w : World) : RowV w none 0 [] := ⟨Nat.le_refl _, Nat.zero_le _, fun _ => rfl, fun h => absurd h (Nat.lt_irrefl _)⟩
theorem RowV.alt {R : Nat → Prop} {w w' : World} {A : Option Addr} {c : Nat} {vs : List Value} (h : RowV w A c vs) (ha : Alt R w w') (hn : 0 < vs.length → ∀ j, inBlk A j → ¬ R j) : RowV w' A c vs := by
  obtain ⟨h1, h2, h3, h4⟩ := h
  refine ⟨h1, h2, h3, fun h0 => ?_⟩
  obtain ⟨b, o, rfl, hr⟩ := h4 h0
  refine ⟨b, o, rfl, fun j u hu => ?_⟩
  have hc := hr j u hu
  have hk := ha.block b (World.block_lt_of_cell? w _ hc) (hn h0 b ⟨_, rfl, rfl⟩)
  unfold World.cell? at *
  dsimp only at *
  rw [hk]
  exact hc
theorem ArgG.alt' {α : Type} {enc : α → List Value} {d : α} {m : Nat} {R : Nat → Prop} {w w' : World} {A : Option Addr} {c : Nat} {xs : List α} (h : ArgG enc d m w A c xs) (ha : Alt R w w') (hn : 0 < xs.length → ∀ j, inBlk A j → ¬ R j) : ArgG enc d m w' A c xs := by
  obtain ⟨h1, h2, h3, h4⟩ := h
  refine ⟨h1, h2, h3, fun h0 => ?_⟩
  obtain ⟨b, o, rfl, hr⟩ := h4 h0
  refine ⟨b, o, rfl, fun i hi j v hv => ?_⟩
  have hc := hr i hi j v hv
  have hk := ha.block b (World.block_lt_of_cell? w _ hc) (hn h0 b ⟨_, rfl, rfl⟩)
  unfold World.cell? at *
  dsimp only at *
  rw [hk]
  exact hc

/-! ### A disk -/
structure DS where
  now : List Fl
  sure : List Fl
  since : List Ch
  ops : Nat
  fused : Bool
  left : Int
  down : Bool
/-- Where the disk's lists lie. -/
structure DP where
  A1 : Option Addr
  c1 : Nat
  A2 : Option Addr
  c2 : Nat
  A3 : Option Addr
  c3 : Nat
  vs : List Value
/-- In memory; N: the blocks that may turn, none of which the lists lie in. -/
structure DkP (w : World) (N : Nat → Prop) (b : Nat) (s : DS) (p : DP) : Prop where
  nb : N b
  nlt : ∀ j, N j → j < w.heap.size
  cells : DkW w b (.slice p.A1 s.now.length p.c1) (.slice p.A2 s.sure.length p.c2) (.slice p.A3 s.since.length p.c3) (s.ops : Int) s.fused s.left s.down
  now : ArgG encF noF 2 w p.A1 p.c1 s.now
  sure : ArgG encF noF 2 w p.A2 p.c2 s.sure
  row : RowV w p.A3 p.c3 p.vs
  len : p.vs.length = s.since.length
  ch : ∀ (i : Nat) (v : Value) (x : Ch), p.vs[i]? = some v → s.since[i]? = some x → IsCh w N v x
  n1 : 0 < s.now.length → ∀ j, inBlk p.A1 j → ¬ N j
  n2 : 0 < s.sure.length → ∀ j, inBlk p.A2 j → ¬ N j
  n3 : 0 < p.vs.length → ∀ j, inBlk p.A3 j → ¬ N j
  nowLen : s.now.length ≤ 100
  sureLen : s.sure.length ≤ 100
  sinceLen : s.since.length ≤ 64
  opsLt : s.ops < 2 ^ 61
  left0 : -(2 ^ 63) ≤ s.left ∧ s.left < 2 ^ 63
def Dk (w : World) (N : Nat → Prop) (b : Nat) (s : DS) : Prop := ∃ p, DkP w N b s p
theorem DkP.below {w w' : World} {N : Nat → Prop} {b : Nat} {s : DS} {p : DP} (h : DkP w N b s p) (hb : Below w.heap.size w w') : DkP w' N b s p := by
  have ha : Alt (fun _ => False) w w' := Alt.of_below hb
  have hb' : Alt N w w' := Alt.of_below hb
  exact ⟨h.nb, fun j hj => Nat.lt_of_lt_of_le (h.nlt j hj) hb.size, h.cells.below hb h.cells.lt, h.now.alt' ha (fun _ _ _ e => e), h.sure.alt' ha (fun _ _ _ e => e), h.row.alt ha (fun _ _ _ e => e), h.len, fun i v x h1 h2 => (h.ch i v x h1 h2).alt hb', h.n1, h.n2, h.n3, h.nowLen, h.sureLen, h.sinceLen, h.opsLt, h.left0⟩
theorem Dk.below {w w' : World} {N : Nat → Prop} {b : Nat} {s : DS} (h : Dk w N b s) (hb : Below w.heap.size w w') : Dk w' N b s := ⟨h.choose, h.choose_spec.below hb⟩
/-- Its seven cells turned, all else as it was. -/
theorem DkP.turn {w w' : World} {N : Nat → Prop} {b : Nat} {s s' : DS} {p : DP} (h : DkP w N b s p) (ha : Alt (· = b) w w') (hc : DkW w' b (.slice p.A1 s'.now.length p.c1) (.slice p.A2 s'.sure.length p.c2) (.slice p.A3 s'.since.length p.c3) (s'.ops : Int) s'.fused s'.left s'.down)
    (e1 : s'.now = s.now) (e2 : s'.sure = s.sure) (e3 : s'.since = s.since) (ho : s'.ops < 2 ^ 61) (hl : -(2 ^ 63) ≤ s'.left ∧ s'.left < 2 ^ 63) : DkP w' N b s' p := by
  have hN : Alt N w w' := ha.mono (fun k _ e => e ▸ h.nb)
  refine ⟨h.nb, fun j hj => Nat.lt_of_lt_of_le (h.nlt j hj) ha.size, hc, ?_, ?_, h.row.alt hN h.n3, by rw [e3]; exact h.len, ?_, by rw [e1]; exact h.n1, by rw [e2]; exact h.n2, h.n3, by rw [e1]; exact h.nowLen, by rw [e2]; exact h.sureLen, by rw [e3]; exact h.sinceLen, ho, hl⟩
  · rw [e1]; exact h.now.alt' hN h.n1
  · rw [e2]; exact h.sure.alt' hN h.n2
  · rw [e3]; exact fun i v x h1 h2 => (h.ch i v x h1 h2).alt hN

/-! ### What it does -/
/-- An operation of a disk: the error's number, the disk behind it. -/
def DS.step (s : DS) (x : Ch) : Nat × DS :=
  if s.down = true then (6, s)
  else if (x.run s.now).1 ≠ 0 then ((x.run s.now).1, s)
  else if s.fused = true ∧ s.left = 0 then (6, { s with down := true })
  else (0, { s with now := (x.run s.now).2, since := if s.since.length < 64 then s.since ++ [x] else s.since, ops := s.ops + 1, left := if s.fused = true then s.left - 1 else s.left })
/-- One change more of those that a crash keeps. -/
def keep1 (k : Nat) (i : Nat) (x : Ch) (fs : List Fl) : List Fl := if k.testBit i = true ∧ (x.run fs).1 = 0 then (x.run fs).2 else fs
def keepGo (k : Nat) : List Ch → Nat → List Fl → List Fl
  | [], _, fs => fs
  | x :: l, i, fs => keepGo k l (i + 1) (keep1 k i x fs)
theorem keepGo_snoc (k : Nat) (x : Ch) : ∀ (l : List Ch) (i : Nat) (fs : List Fl), keepGo k (l ++ [x]) i fs = keep1 k (i + l.length) x (keepGo k l i fs)
  | [], i, fs => rfl
  | y :: l, i, fs => by
    show keepGo k (l ++ [x]) (i + 1) _ = _
    rw [keepGo_snoc k x l (i + 1) _, List.length_cons, show i + 1 + l.length = i + (l.length + 1) by omega]
    rfl
def DS.crash (s : DS) (k : Nat) : DS := ⟨keepGo k s.since 0 s.sure, keepGo k s.since 0 s.sure, [], s.ops, false, 0, false⟩
end Go.Proofs.YtjoinnjhpfakpaaGreatDoor

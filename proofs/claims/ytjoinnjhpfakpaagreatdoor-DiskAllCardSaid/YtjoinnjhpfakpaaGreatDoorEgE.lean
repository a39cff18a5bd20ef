/-
  A closed run, reckoned: regions whose operations come in any order.
  A closed run, reckoned: a region in any order, by what each operation does at the memory that it finds.
  A closed run, reckoned: calls, code, functions.
  A closed run, reckoned: the executor of regions, code, functions.
  A closed run, reckoned: that the executor is right: frames, regions in the text's order.
  A closed run, reckoned: that the executor is right: code, functions.
-/
import Derived.Test.YtjoinnjhpfakpaaGreatDoorEgA
import Derived.Orders
import Derived.OrdersIn
import Derived.Test.YtjoinnjhpfakpaaGreatDoorEgD
import Derived.RangeFuncSeq
import Derived.RangeFuncLeaves
import Derived.Tactics
namespace Go.Proofs.YtjoinnjhpfakpaaGreatDoor
namespace Eng
open Go.RowKit

section
variable {G base n n' : Nat} {j j' : J} {A A' Bg : Mem} {w w' : World}
theorem Rel.sub (h : Rel G base j Bg w) (hs : ∀ id b, A id = some b → Bg id = some b) : Rel G base j A w :=
  ⟨fun id b q => h.ok id b (hs _ _ q), fun id b l a q => h.glob id b l a (hs _ _ q), fun id b l a q => h.own id b l a (hs _ _ q), fun _ _ _ _ _ _ q r => h.inj _ _ _ _ _ _ (hs _ _ q) (hs _ _ r)⟩
/-- A memory with another laid over it, in place of a third. -/
def over (Bg A A' : Mem) : Mem := fun id => match A' id with | some b => some b | none => match A id with | some _ => none | none => Bg id
theorem over_cases {id : Nat} {b : B} (h : over Bg A A' id = some b) : A' id = some b ∨ (A' id = none ∧ A id = none ∧ Bg id = some b) := by
  unfold over at h
  split at h
  · rename_i c hc; injection h with h; subst h; exact .inl hc
  · rename_i hc
    split at h
    · cases h
    · rename_i hd; exact .inr ⟨hc, hd, h⟩
theorem over_new {id : Nat} {b : B} (h : A' id = some b) : over Bg A A' id = some b := by simp [over, h]
theorem over_old {id : Nat} {b : B} (h1 : A' id = none) (h2 : A id = none) (h : Bg id = some b) : over Bg A A' id = some b := by simp [over, h1, h2, h]
/-- What a part of memory turns to, within all of it. -/
structure PostW (G base : Nat) (j : J) (M : Mem) (w : World) (j' : J) (M' : Mem) (w' : World) : Prop where
  le : Le j j'
  rel : Rel G base j' M' w'
  frm : Frm G j M w w'
  img : ∀ id b l, M' id = some b → j' id = some l → (∃ id0 b0 l0, M id0 = some b0 ∧ j id0 = some l0 ∧ l0.g = l.g ∧ (G ≤ id → G ≤ id0)) ∨ w.heap.size ≤ l.g
theorem PostW.refl (h : Rel G base j A w) : PostW G base j A w j A w := ⟨.refl j, h, .refl G j A w, fun id b l h1 h2 => .inl ⟨id, b, l, h1, h2, rfl, fun h => h⟩⟩
theorem PostW.trans {j1 j2 : J} {M M1 M2 : Mem} {w1 w2 : World} (h : PostW G base j M w j1 M1 w1) (k : PostW G base j1 M1 w1 j2 M2 w2) : PostW G base j M w j2 M2 w2 where
  le := h.le.trans k.le
  rel := k.rel
  frm := by
    refine ⟨k.frm.os.trans h.frm.os, k.frm.tape.trans h.frm.tape, k.frm.output.trans h.frm.output, Nat.le_trans h.frm.size k.frm.size, fun g hg hn => ?_⟩
    refine (k.frm.block g (Nat.lt_of_lt_of_le hg h.frm.size) fun id b l hG hb hl e => ?_).trans (h.frm.block g hg hn)
    rcases h.img id b l hb hl with ⟨id0, b0, l0, a1, a2, a3, a4⟩ | h1
    · exact hn id0 b0 l0 (a4 hG) a1 a2 (a3.trans e)
    · omega
  img id b l hb hl := by
    rcases k.img id b l hb hl with ⟨id0, b0, l0, a1, a2, a3, a4⟩ | h1
    · rcases h.img id0 b0 l0 a1 a2 with ⟨id1, b1, l1, c1, c2, c3, c4⟩ | h2
      · exact .inl ⟨id1, b1, l1, c1, c2, c3.trans a3, fun e => c4 (a4 e)⟩
      · exact .inr (a3 ▸ h2)
    · exact .inr (Nat.le_trans h.frm.size h1)
theorem post_frame (h : Post G base n n' j A w j' A' w') (hb : Rel G base j Bg w) (hs : ∀ id b, A id = some b → Bg id = some b) : PostW G base j Bg w j' (over Bg A A') w' := by
  have old : ∀ id b, A id = none → Bg id = some b → ∃ l, j id = some l ∧ j' id = some l ∧ BR j l w b ∧ l.g < w.heap.size ∧ w'.heap[l.g]? = w.heap[l.g]? ∧ (∀ id0 b0 l0, A id0 = some b0 → j id0 = some l0 → l0.g ≠ l.g) := fun id b h1 h2 => by
    obtain ⟨l, a1, a2⟩ := hb.ok id b h2
    have hne : ∀ id0 b0 l0, A id0 = some b0 → j id0 = some l0 → l0.g ≠ l.g := fun id0 b0 l0 q1 q2 e => by
      have := hb.inj id0 id b0 b l0 l (hs _ _ q1) h2 q2 a1 e
      subst this
      rw [h1] at q1; cases q1
    exact ⟨l, a1, h.le _ _ a1, a2, a2.lt, h.frm.block l.g a2.lt fun id0 b0 l0 _ q1 q2 => hne id0 b0 l0 q1 q2, hne⟩
  have far : ∀ id b l id2 b2 l2, A' id = some b → j' id = some l → A id2 = none → Bg id2 = some b2 → j' id2 = some l2 → l.g ≠ l2.g := fun id b l id2 b2 l2 h1 h2 h3 h4 h5 e => by
    obtain ⟨k, a1, a2, a3, a4, a5, a6⟩ := old id2 b2 h3 h4
    rw [a2] at h5
    injection h5 with h5
    subst h5
    rcases h.img id b l h1 h2 with ⟨id0, b0, l0, c1, c2, c3, c4⟩ | h6
    · exact a6 id0 b0 l0 c1 c2 (c3.trans e)
    · omega
  refine ⟨h.le, ⟨fun id b q => ?_, fun id b l a q r => ?_, fun id b l a q r => ?_, fun id id2 b b2 l l2 q r s t e => ?_⟩, ⟨h.frm.os, h.frm.tape, h.frm.output, h.frm.size, fun g hg hn => h.frm.block g hg fun id b l hG q r => hn id b l hG (hs _ _ q) r⟩, fun id b l q r => ?_⟩
  · rcases over_cases q with q | ⟨q1, q2, q3⟩
    · exact h.rel.ok id b q
    · obtain ⟨l, a1, a2, a3, a4, a5, a6⟩ := old id b q2 q3
      exact ⟨l, a2, (a3.mono h.le).world a5⟩
  · rcases over_cases q with q | ⟨q1, q2, q3⟩
    · exact h.rel.glob id b l a q r
    · obtain ⟨l', a1, a2, a3, a4, a5, a6⟩ := old id b q2 q3
      rw [a2] at r; injection r with r; subst r
      exact hb.glob id b _ a q3 a1
  · rcases over_cases q with q | ⟨q1, q2, q3⟩
    · exact h.rel.own id b l a q r
    · obtain ⟨l', a1, a2, a3, a4, a5, a6⟩ := old id b q2 q3
      rw [a2] at r; injection r with r; subst r
      exact hb.own id b _ a q3 a1
  · rcases over_cases q with q | ⟨q1, q2, q3⟩ <;> rcases over_cases r with r | ⟨r1, r2, r3⟩
    · exact h.rel.inj id id2 b b2 l l2 q r s t e
    · exact absurd e (far id b l id2 b2 l2 q s r2 r3 t)
    · exact absurd e.symm (far id2 b2 l2 id b l r t q2 q3 s)
    · obtain ⟨l', a1, a2, a3, a4, a5, a6⟩ := old id b q2 q3
      obtain ⟨l'', c1, c2, c3, c4, c5, c6⟩ := old id2 b2 r2 r3
      rw [a2] at s; injection s with s; subst s
      rw [c2] at t; injection t with t; subst t
      exact hb.inj id id2 b b2 _ _ q3 r3 a1 c1 e
  · rcases over_cases q with q | ⟨q1, q2, q3⟩
    · rcases h.img id b l q r with ⟨id0, b0, l0, c1, c2, c3, c4⟩ | h6
      · exact .inl ⟨id0, b0, l0, hs _ _ c1, c2, c3, c4⟩
      · exact .inr h6
    · obtain ⟨l', a1, a2, a3, a4, a5, a6⟩ := old id b q2 q3
      rw [a2] at r; injection r with r; subst r
      exact .inl ⟨id, b, _, q3, a1, rfl, fun h => h⟩
/-- What is made anew is none of what was there. -/
theorem frame_fresh (h : Post G base n n' j A w j' A' w') (hb : Rel G base j Bg w) (hs : ∀ id b, A id = some b → Bg id = some b) {id : Nat} {b b' : B} (h1 : A id = none) (h2 : Bg id = some b) (h3 : A' id = some b') : False := by
  obtain ⟨l, a1, a2⟩ := hb.ok id b h2
  have a3 := h.le _ _ a1
  rcases h.img id b' l h3 a3 with ⟨id0, b0, l0, c1, c2, c3, c4⟩ | h6
  · have := hb.inj id0 id b0 b l0 l (hs _ _ c1) h2 c2 a1 c3
    subst this
    rw [h1] at c1; cases c1
  · have := a2.lt; omega
end
end Eng
end Go.Proofs.YtjoinnjhpfakpaaGreatDoor
namespace Go.Proofs.YtjoinnjhpfakpaaGreatDoor
namespace Eng
open Go.RowKit

/-- How many operations are not listed yet. -/
def left (N : Nat) (l : Array Bool) : Nat := ((List.range N).filter fun i => !l.getD i true).length
theorem filter_set (l : Array Bool) (i : Nat) : ∀ (L : List Nat), L.Nodup → i ∈ L → l.getD i true = false → i < l.size →
    ((L.filter fun k => !l.getD k true).length = (L.filter fun k => !(l.setIfInBounds i true).getD k true).length + 1)
  | [], _, h, _, _ => by simp at h
  | x :: L, hn, h, hi, hs => by
    have hx : ∀ k, k ≠ i → (l.setIfInBounds i true).getD k true = l.getD k true := fun k hk => by
      simp only [Array.getD_eq_getD_getElem?, Array.getElem?_setIfInBounds_ne (Ne.symm hk)]
    have hii : (l.setIfInBounds i true).getD i true = true := by
      simp [Array.getD_eq_getD_getElem?, hs]
    have hnot : ∀ (L : List Nat), i ∉ L → (L.filter fun k => !l.getD k true) = (L.filter fun k => !(l.setIfInBounds i true).getD k true) := fun L hL => by
      apply List.filter_congr
      intro k hk
      rw [hx k fun e => hL (e ▸ hk)]
    obtain ⟨hn1, hn2⟩ := List.nodup_cons.1 hn
    by_cases e : x = i
    · subst e
      rw [List.filter_cons_of_pos (by simp [hi]), List.filter_cons_of_neg (by simp [hii]), List.length_cons, hnot L hn1]
    · have hm : i ∈ L := by
        rcases List.mem_cons.1 h with h | h
        · exact absurd h.symm e
        · exact h
      have ih := filter_set l i L hn2 hm hi hs
      cases hg : l.getD x true with
      | true => rw [List.filter_cons_of_neg (by simp [hg]), List.filter_cons_of_neg (by rw [hx x e]; simp [hg])]; exact ih
      | false => rw [List.filter_cons_of_pos (by simp [hg]), List.filter_cons_of_pos (by rw [hx x e]; simp [hg]), List.length_cons, List.length_cons, ih]
theorem left_set {N : Nat} {l : Array Bool} {i : Nat} (hi : l.getD i true = false) (hN : i < N) (hs : i < l.size) : left N l = left N (l.setIfInBounds i true) + 1 :=
  filter_set l i _ List.nodup_range (List.mem_range.2 hN) hi hs
theorem left_zero {N : Nat} {l : Array Bool} (h : left N l = 0) (i : Nat) (hi : i < N) : l.getD i true = true := by
  unfold left at h
  have := List.length_eq_zero_iff.1 h
  rw [List.filter_eq_nil_iff] at this
  simpa using this i (List.mem_range.2 hi)
theorem left_pos {N : Nat} {l : Array Bool} (h : left N l ≠ 0) : ∃ i, i < N ∧ l.getD i true = false := by
  unfold left at h
  obtain ⟨i, hi⟩ := List.exists_mem_of_length_pos (Nat.pos_of_ne_zero h)
  obtain ⟨h1, h2⟩ := List.mem_filter.1 hi
  exact ⟨i, List.mem_range.1 h1, by simpa using h2⟩

structure Data where
  anc : Nat → Nat → Prop
  val : Nat → V
  nn : Nat → Nat
  isE : Nat → Prop
  isF : Nat → Prop
  lab : Nat → Nat
  blk : Nat → B
  A : Nat → Option Nat → Mem
  A' : Nat → Option Nat → Mem
  Ma : Nat → Mem
  M0 : Mem
  ts0 : Nat → Option V
  rd : Nat → Nat → Option V
  nt : Nat
def Data.H (D : Data) (c : Option Nat) : Mem := match c with | none => D.M0 | some c => D.Ma c
/-- c may be the last of the chain when i's turn comes. -/
structure Data.Adm (D : Data) (N i : Nat) (c : Option Nat) : Prop where
  lst : ∀ q, c = some q → q < N ∧ D.isE q ∧ ¬ D.anc q i ∧ q ≠ i
  anc : ∀ e, e < N → D.isE e → D.anc i e → ∃ q, c = some q ∧ (e = q ∨ D.anc q e)
  self : D.isE i → ∀ e, e < N → D.isE e → e < i → ∃ q, c = some q ∧ (e = q ∨ D.anc q e)
/-- In a round, or in none. -/
def WR (rd : Option Nat) : Fence := { Fence.wide with round := rd }
def dstOf (ops : Array Oper) (i : Nat) : Option Tmp := (ops[i]?).bind (·.dst)
/-- What is read is there. -/
structure Data.Opnd (D : Data) (G i : Nat) (j : J) (a : Act) : Prop where
  glob : ∀ g b, g < G → D.M0 g = some b → ∃ l, j g = some l ∧ l.g = g ∧ l.d = 0
  size : a.tmps.size = D.nt
  rd : ∀ t v, D.rd i t = some v → ∃ y, a.tmps[t]? = some y ∧ VR j v y

structure RegOk (P : Program) (G base : Nat) (ops : Array Oper) (Q : Exit → Act → World → Prop) (D : Data) : Prop where
  edge : ∀ i o, ops[i]? = some o → ∀ e ∈ o.after, Region.binds .any e = true → e.on < i
  anc_edge : ∀ i k, i < ops.size → D.anc i k → ∃ o, ops[i]? = some o ∧ ∃ e ∈ o.after, Region.binds .any e = true ∧ (e.on = k ∨ D.anc e.on k)
  trans : ∀ a b c, a < ops.size → D.anc a b → D.anc b c → D.anc a c
  chain : ∀ i k, k < ops.size → D.isE i → D.isE k → i < k → D.anc k i
  mono : ∀ i, D.nn i ≤ D.nn (i + 1)
  dst : ∀ i k d, dstOf ops i = some d → dstOf ops k = some d → i = k
  dlt : ∀ i d, dstOf ops i = some d → d < D.nt
  ef : ∀ i, D.isE i → ¬ D.isF i
  sub : ∀ i c, i < ops.size → D.Adm ops.size i c → ∀ id b, D.A i c id = some b → D.H c id = some b ∨ ∃ f, f < ops.size ∧ D.isF f ∧ D.anc i f ∧ (∀ q, c = some q → ¬ D.anc q f) ∧ D.lab f = id ∧ D.blk f = b
  keep : ∀ i c, i < ops.size → D.Adm ops.size i c → ¬ D.isE i → ∀ id b, D.A i c id = some b → D.A' i c id = some b
  mkF : ∀ i c, i < ops.size → D.Adm ops.size i c → D.isF i → D.A' i c (D.lab i) = some (D.blk i)
  mkE : ∀ i c, i < ops.size → D.Adm ops.size i c → D.isE i → ∀ id b, D.Ma i id = some b → D.A' i c id = some b
  safe : ∀ i c f, i < ops.size → D.Adm ops.size i c → D.isE i → f < ops.size → D.isF f → ¬ D.anc i f → D.A i c (D.lab f) = none
  rdOk : ∀ i t v, i < ops.size → D.rd i t = some v → (∃ k, k < ops.size ∧ D.anc i k ∧ dstOf ops k = some t ∧ D.val k = v) ∨ (D.ts0 t = some v ∧ ∀ k, k < ops.size → dstOf ops k = some t → k ≠ i → D.anc k i)
  stp : ∀ i c, i < ops.size → D.Adm ops.size i c → ∀ (j : J) (w : World) (a : Act), Rel G base j (D.A i c) w → base ≤ w.heap.size → Free (D.nn i) (D.nn (i + 1)) j → D.Opnd G i j a →
    ∀ (rd : Option Nat) (K : Act → World → Prop), (∀ y w' j', Post G base (D.nn i) (D.nn (i + 1)) j (D.A i c) w j' (D.A' i c) w' → VR j' (D.val i) y → K (a.put (dstOf ops i) y) w') → wpOpIn (WR rd) 0 P ops Q i K a w

/-- What stands when some are listed. -/
structure Inv (G base : Nat) (ops : Array Oper) (D : Data) (j0 : J) (w0 : World) (d0 : List Deferred) (l : Array Bool) (c : Option Nat) (j : J) (Bg : Mem) (a : Act) (w : World) : Prop where
  size : l.size = ops.size
  post : PostW G base j0 D.M0 w0 j Bg w
  out : ∀ id, ¬ (D.nn 0 ≤ id ∧ id < D.nn ops.size) → j id = j0 id
  need : ∀ id b, D.H c id = some b → Bg id = some b
  needF : ∀ f, f < ops.size → D.isF f → l.getD f true = true → (∀ q, c = some q → ¬ D.anc q f) → Bg (D.lab f) = some (D.blk f)
  fresh : ∀ id, D.nn 0 ≤ id → id < D.nn ops.size → j id ≠ none → ∃ i, i < ops.size ∧ l.getD i true = true ∧ D.nn i ≤ id ∧ id < D.nn (i + 1)
  tsize : a.tmps.size = D.nt
  ds : a.defers = d0
  ta : ∀ i, i < ops.size → l.getD i true = true → ∀ d, dstOf ops i = some d → ∃ y, a.tmps[d]? = some y ∧ VR j (D.val i) y
  tb : ∀ t v, D.ts0 t = some v → (∀ i, i < ops.size → l.getD i true = true → dstOf ops i ≠ some t) → ∃ y, a.tmps[t]? = some y ∧ VR j v y
  closed : ∀ i, i < ops.size → l.getD i true = true → ∀ k, D.anc i k → k < ops.size ∧ l.getD k true = true
  last : ∀ q, c = some q → q < ops.size ∧ D.isE q ∧ l.getD q true = true
  most : ∀ e, e < ops.size → D.isE e → l.getD e true = true → ∃ q, c = some q ∧ (e = q ∨ D.anc q e)

section
variable {P : Program} {G base : Nat} {ops : Array Oper} {Q : Exit → Act → World → Prop} {D : Data} {j0 : J} {w0 : World} {d0 : List Deferred} {rd : Option Nat}
theorem nn_le (h : RegOk P G base ops Q D) : ∀ {i k : Nat}, i ≤ k → D.nn i ≤ D.nn k := by
  intro i k hk
  induction k with
  | zero => rw [Nat.le_zero.1 hk]; exact Nat.le_refl _
  | succ k ih =>
    by_cases e : i = k + 1
    · subst e; exact Nat.le_refl _
    · exact Nat.le_trans (ih (by omega)) (h.mono k)
theorem put_at {a : Act} {d : Option Tmp} {y : Value} {t : Nat} (h : d ≠ some t) : (a.put d y).tmps[t]? = a.tmps[t]? := by
  cases d with
  | none => rfl
  | some d => exact Array.getElem?_setIfInBounds_ne (fun e => h (by rw [e]))
theorem region_any (h : RegOk P G base ops Q D) (h0 : ∀ g b, g < G → D.M0 g = some b → ∃ l, j0 g = some l ∧ l.g = g ∧ l.d = 0) (hb : base ≤ w0.heap.size) (fin : ∀ l c j Bg a w, Inv G base ops D j0 w0 d0 l c j Bg a w → (∀ i, i < ops.size → l.getD i true = true) → Q .normal a w) :
    ∀ (fuel : Nat) (l : Array Bool) (c : Option Nat) (j : J) (Bg : Mem) (a : Act) (w : World), left ops.size l = fuel → Inv G base ops D j0 w0 d0 l c j Bg a w → wpAnyIn (WR rd) 0 P .any ops Q fuel l a w := by
  intro fuel
  have rdy : ∀ (l : Array Bool) (i : Nat), i ∈ Region.ready .any ops l → i < ops.size ∧ l.getD i true = false ∧ ∃ o, ops[i]? = some o ∧ ∀ e ∈ o.after, Region.binds .any e = true → l.getD e.on false = true := by
    intro l i hi
    unfold Region.ready at hi
    obtain ⟨h1, h2⟩ := List.mem_filter.1 hi
    have h1 := List.mem_range.1 h1
    refine ⟨h1, by simpa using (Bool.and_eq_true_iff.1 h2).1, ops[i], Array.getElem?_eq_getElem h1, fun e he hbd => ?_⟩
    have h3 := (Bool.and_eq_true_iff.1 h2).2
    rw [Array.getElem?_eq_getElem h1, Option.map_some, Option.getD_some] at h3
    have := Array.all_eq_true_iff_forall_mem.1 h3 e he
    simpa [hbd] using this
  induction fuel with
  | zero =>
    intro l c j Bg a w hl hI
    have hall := left_zero hl
    refine ⟨?_, fin l c j Bg a w hI hall⟩
    cases hr : Region.ready .any ops l with
    | nil => rfl
    | cons i r =>
      obtain ⟨h1, h2, _⟩ := rdy l i (by rw [hr]; simp)
      rw [hall i h1] at h2; cases h2
  | succ fuel ih =>
    intro l c j Bg a w hl hI
    refine ⟨fun hr => ?_, fun i hi => ?_⟩
    · exfalso
      obtain ⟨i, h1, h2⟩ := left_pos (l := l) (N := ops.size) (by omega)
      -- the least that is not listed is ready
      have : ∀ n i, i < n → i < ops.size → l.getD i true = false → False := by
        intro n
        induction n with
        | zero => intro i hi; omega
        | succ n ihn =>
          intro i hi hN hf
          have hnot : i ∉ Region.ready .any ops l := by rw [hr]; simp
          apply hnot
          unfold Region.ready
          refine List.mem_filter.2 ⟨List.mem_range.2 hN, ?_⟩
          rw [hf, Array.getElem?_eq_getElem hN, Option.map_some, Option.getD_some]
          simp only [Bool.not_false, Bool.true_and]
          rw [Array.all_eq_true_iff_forall_mem]
          intro e he
          cases hbd : Region.binds .any e with
          | false => simp
          | true =>
            have hlt := h.edge i _ (Array.getElem?_eq_getElem hN) e he hbd
            have hlt2 : e.on < l.size := by rw [hI.size]; omega
            cases hg : l.getD e.on true with
            | true =>
              have : l.getD e.on false = true := by
                simp only [Array.getD_eq_getD_getElem?, Array.getElem?_eq_getElem hlt2, Option.getD_some] at hg ⊢
                exact hg
              simp [this]
            | false => exact (ihn e.on (by omega) (by omega) hg).elim
      exact this (i + 1) i (by omega) h1 h2
    · obtain ⟨hN, hf, o, ho, hed⟩ := rdy l i hi
      have lt : ∀ k, l.getD k false = true → k < l.size ∧ l.getD k true = true := fun k hk => by
        by_cases hs : k < l.size
        · refine ⟨hs, ?_⟩
          simp only [Array.getD_eq_getD_getElem?, Array.getElem?_eq_getElem hs, Option.getD_some] at hk ⊢
          exact hk
        · rw [Array.getD_eq_getD_getElem?, Array.getElem?_eq_none (by omega)] at hk
          cases hk
      have hanc : ∀ k, D.anc i k → k < ops.size ∧ l.getD k true = true := fun k hk => by
        obtain ⟨o', ho', e, he, hbd, hor⟩ := h.anc_edge i k hN hk
        rw [ho] at ho'; injection ho' with ho'; subst ho'
        obtain ⟨s1, s2⟩ := lt _ (hed e he hbd)
        rw [hI.size] at s1
        rcases hor with rfl | hor
        · exact ⟨s1, s2⟩
        · exact hI.closed e.on s1 s2 k hor
      have noanc : ∀ k, k < ops.size → l.getD k true = true → ¬ D.anc k i := fun k h1 h2 h3 => by
        have := (hI.closed k h1 h2 i h3).2
        rw [hf] at this; cases this
      have hadm : D.Adm ops.size i c := by
        refine ⟨fun q hq => ?_, fun e he hE ha => hI.most e he hE (hanc e ha).2, fun hE e he hE2 hlt => hI.most e he hE2 (hanc e (h.chain e i hN hE2 hE hlt)).2⟩
        obtain ⟨a1, a2, a3⟩ := hI.last q hq
        exact ⟨a1, a2, noanc q a1 a3, fun e => by subst e; rw [hf] at a3; cases a3⟩
      have hsub : ∀ id b, D.A i c id = some b → Bg id = some b := fun id b hq => by
        rcases h.sub i c hN hadm id b hq with h1 | ⟨f, f1, f2, f3, f4, rfl, rfl⟩
        · exact hI.need id b h1
        · exact hI.needF f f1 f2 (hanc f f3).2 f4
      have hfree : Free (D.nn i) (D.nn (i + 1)) j := fun id h1 h2 => by
        cases hj : j id with
        | none => rfl
        | some lq =>
          exfalso
          have b1 := nn_le h (Nat.zero_le i)
          have b2 := nn_le h (show i + 1 ≤ ops.size by omega)
          obtain ⟨k, k1, k2, k3, k4⟩ := hI.fresh id (by omega) (by omega) (by rw [hj]; simp)
          have hne : k ≠ i := fun e => by subst e; rw [hf] at k2; cases k2
          rcases Nat.lt_or_ge k i with hk | hk
          · have := nn_le h (show k + 1 ≤ i by omega); omega
          · have := nn_le h (show i + 1 ≤ k by omega); omega
      have hopn : D.Opnd G i j a := ⟨fun g b hg hm => by
          obtain ⟨l, l1, l2⟩ := h0 g b hg hm
          exact ⟨l, hI.post.le _ _ l1, l2⟩, hI.tsize, fun t v hv => by
        rcases h.rdOk i t v hN hv with ⟨k, k1, k2, k3, rfl⟩ | ⟨k1, k2⟩
        · exact hI.ta k k1 (hanc k k2).2 t k3
        · refine hI.tb t v k1 fun k hk hl2 hd => ?_
          refine noanc k hk hl2 (k2 k hk hd fun e => ?_)
          subst e; rw [hf] at hl2; cases hl2⟩
      refine h.stp i c hN hadm j w a (hI.post.rel.sub hsub) (Nat.le_trans hb hI.post.frm.size) hfree hopn rd _ fun y w' j' hp hv => ?_
      have hW := post_frame hp hI.post.rel hsub
      have hset : ∀ k, k ≠ i → (l.setIfInBounds i true).getD k true = l.getD k true := fun k hk => by
        simp only [Array.getD_eq_getD_getElem?, Array.getElem?_setIfInBounds_ne (Ne.symm hk)]
      have hseti : (l.setIfInBounds i true).getD i true = true := by
        simp [Array.getD_eq_getD_getElem?, hI.size, hN]
      have keepBg : ¬ D.isE i → ∀ id b, Bg id = some b → over Bg (D.A i c) (D.A' i c) id = some b := fun hE id b hq => by
        cases hA : D.A i c id with
        | some b' =>
          have := hsub id b' hA
          rw [hq] at this; injection this with this; subst this
          exact over_new (h.keep i c hN hadm hE id _ hA)
        | none =>
          cases hA' : D.A' i c id with
          | some b' => exact (frame_fresh hp hI.post.rel hsub hA hq hA').elim
          | none => exact over_old hA' hA hq
      have hle : Le j j' := hp.le
      have hleft : left ops.size (l.setIfInBounds i true) = fuel := by rw [left_set hf hN (by rw [hI.size]; exact hN)] at hl; omega
      have hsz : (l.setIfInBounds i true).size = ops.size := by rw [Array.size_setIfInBounds, hI.size]
      have hout : ∀ id, ¬ (D.nn 0 ≤ id ∧ id < D.nn ops.size) → j' id = j0 id := fun id hid => by
        have b1 := nn_le h (Nat.zero_le i)
        have b2 := nn_le h (show i + 1 ≤ ops.size by omega)
        rw [hp.out id (by omega), hI.out id hid]
      have hfresh : ∀ id, D.nn 0 ≤ id → id < D.nn ops.size → j' id ≠ none → ∃ k, k < ops.size ∧ (l.setIfInBounds i true).getD k true = true ∧ D.nn k ≤ id ∧ id < D.nn (k + 1) := fun id h1 h2 h3 => by
        by_cases hr : D.nn i ≤ id ∧ id < D.nn (i + 1)
        · exact ⟨i, hN, hseti, hr.1, hr.2⟩
        · rw [hp.out id hr] at h3
          obtain ⟨k, k1, k2, k3, k4⟩ := hI.fresh id h1 h2 h3
          exact ⟨k, k1, by rw [hset k fun e => by subst e; rw [hf] at k2; cases k2]; exact k2, k3, k4⟩
      have hta : ∀ k, k < ops.size → (l.setIfInBounds i true).getD k true = true → ∀ d, dstOf ops k = some d → ∃ y', (a.put (dstOf ops i) y).tmps[d]? = some y' ∧ VR j' (D.val k) y' := fun k k1 k2 d hd => by
        by_cases e : k = i
        · subst e
          refine ⟨y, ?_, hv⟩
          rw [hd]
          have := h.dlt k d hd
          simp [Act.put, hI.tsize, this]
        · rw [hset k e] at k2
          obtain ⟨y', p1, p2⟩ := hI.ta k k1 k2 d hd
          exact ⟨y', by rw [put_at fun q => e (h.dst k i d hd q)]; exact p1, p2.mono hle⟩
      have htb : ∀ t v, D.ts0 t = some v → (∀ k, k < ops.size → (l.setIfInBounds i true).getD k true = true → dstOf ops k ≠ some t) → ∃ y', (a.put (dstOf ops i) y).tmps[t]? = some y' ∧ VR j' v y' := fun t v ht hk => by
        obtain ⟨y', p1, p2⟩ := hI.tb t v ht fun k k1 k2 => by
          by_cases e : k = i
          · subst e; exact hk k k1 hseti
          · exact hk k k1 (by rw [hset k e]; exact k2)
        exact ⟨y', by rw [put_at (hk i hN hseti)]; exact p1, p2.mono hle⟩
      have hclosed : ∀ k, k < ops.size → (l.setIfInBounds i true).getD k true = true → ∀ q, D.anc k q → q < ops.size ∧ (l.setIfInBounds i true).getD q true = true := fun k k1 k2 q hq => by
        have : q < ops.size ∧ l.getD q true = true := by
          by_cases e : k = i
          · subst e; exact hanc q hq
          · rw [hset k e] at k2; exact hI.closed k k1 k2 q hq
        refine ⟨this.1, ?_⟩
        rw [hset q fun e => by subst e; rw [hf] at this; cases this.2]
        exact this.2
      have hpsize : (a.put (dstOf ops i) y).tmps.size = D.nt := by
        rw [← hI.tsize]
        cases dstOf ops i <;> simp [Act.put]
      have hpds : (a.put (dstOf ops i) y).defers = d0 := by
        rw [← hI.ds]
        cases dstOf ops i <;> rfl
      by_cases hE : D.isE i
      · refine ih _ (some i) j' (over Bg (D.A i c) (D.A' i c)) (a.put (dstOf ops i) y) w' hleft ⟨hsz, hI.post.trans hW, hout, fun id b hq => over_new (h.mkE i c hN hadm hE id b hq), fun f f1 f2 f3 f4 => ?_, hfresh, hpsize, hpds, hta, htb, hclosed, fun q hq => ?_, fun e e1 e2 e3 => ⟨i, rfl, ?_⟩⟩
        · have hne : f ≠ i := fun e => by subst e; exact h.ef f hE f2
          rw [hset f hne] at f3
          have hna := f4 i rfl
          have hB := hI.needF f f1 f2 f3 fun q hq ha => by
            obtain ⟨q1, q2, q3⟩ := hI.last q hq
            rcases Nat.lt_trichotomy q i with hlt | heq | hgt
            · exact hna (h.trans i q f hN (h.chain q i hN q2 hE hlt) ha)
            · subst heq; rw [hf] at q3; cases q3
            · exact noanc q q1 q3 (h.chain i q q1 hE q2 hgt)
          have hA := h.safe i c f hN hadm hE f1 f2 hna
          cases hA' : D.A' i c (D.lab f) with
          | some b' => exact (frame_fresh hp hI.post.rel hsub hA hB hA').elim
          | none => exact over_old hA' hA hB
        · injection hq with hq; subst hq; exact ⟨hN, hE, hseti⟩
        · by_cases e4 : e = i
          · exact .inl e4
          · rw [hset e e4] at e3
            right
            rcases Nat.lt_or_ge e i with hlt | hge
            · exact h.chain e i hN e2 hE hlt
            · exact (noanc e e1 e3 (h.chain i e e1 hE e2 (by omega))).elim
      · refine ih _ c j' (over Bg (D.A i c) (D.A' i c)) (a.put (dstOf ops i) y) w' hleft ⟨hsz, hI.post.trans hW, hout, fun id b hq => keepBg hE id b (hI.need id b hq), fun f f1 f2 f3 f4 => ?_, hfresh, hpsize, hpds, hta, htb, hclosed, fun q hq => ?_, fun e e1 e2 e3 => ?_⟩
        · by_cases e : f = i
          · subst e; exact over_new (h.mkF f c hN hadm f2)
          · rw [hset f e] at f3
            exact keepBg hE _ _ (hI.needF f f1 f2 f3 f4)
        · obtain ⟨q1, q2, q3⟩ := hI.last q hq
          exact ⟨q1, q2, by rw [hset q fun e => by subst e; exact hE q2]; exact q3⟩
        · have hne : e ≠ i := fun q => by subst q; exact hE e2
          rw [hset e hne] at e3
          exact hI.most e e1 e2 e3
end
end Eng
end Go.Proofs.YtjoinnjhpfakpaaGreatDoor
namespace Go.Proofs.YtjoinnjhpfakpaaGreatDoor
namespace Eng
open Go.RowKit

inductive Rs where
  | ok (v : V) (M : H) (n : Nat) | pan (v : V) (M : H) (n : Nat)
/-- What is called: a function; the rest of a range over a function. -/
inductive Cal where
  | f (g : FuncId) | y (id : Nat)
abbrev CallT := Cal → List V → H → Nat → Option Rs
def Rs.M : Rs → H | .ok _ M _ | .pan _ M _ => M
def Rs.n : Rs → Nat | .ok _ _ n | .pan _ _ n => n
def Enters (P : Program) (f : FuncId) : Prop := ∃ fn c, P.funcs[f]? = some fn ∧ (fn.name == "runtime.NumGoroutine") = false ∧ fn.body = some c
/-- What a call tells. -/
def EndR (j : J) : Rs → Ending → Prop
  | .ok v _ _, e => ∃ y, e = .returned y ∧ VR j v y
  | .pan v _ _, e => ∃ y, e = .panicked [{ v := y, recovered := false }] ∧ VR j v y
structure CallOk (P : Program) (G base : Nat) (call : CallT) : Prop where
  fn : ∀ f vs M n r, call (.f f) vs M n = some r → Enters P f ∧ n ≤ r.n ∧ ∀ j w ys, Ctx G base n j M w → Free n r.n j → VRs j vs ys →
    Calls P f ys.toArray w fun e w' => ∃ j', Post G base n r.n j M w j' r.M w' ∧ EndR j' r e
  yd : ∀ id vs M n r, call (.y id) vs M n = some r → n ≤ r.n ∧ ∀ j w ys, Ctx G base n j M w → Free n r.n j → VRs j vs ys → ∀ l, j id = some l →
    YieldAt Fence.wide 0 P l.g ys.toArray w fun e w' => ∃ j', Post G base n r.n j M w j' r.M w' ∧ EndR j' r e
/-- What a function without a body does. -/
abbrev ExtT := FuncId → List V → H → Nat → R
def ExtOk (P : Program) (ext : ExtT) : Prop := ∀ f vs M n v M' n', ext f vs M n = some (v, M', n') → n ≤ n' ∧ ∀ G base j w ys, Ctx G base n j M w → Free n n' j → VRs j vs ys →
  ∃ y w' j', (callFunc f ys.toArray).run P w = .ok (.value y) w' ∧ VR j' v y ∧ Post G base n n' j M w j' M' w'

noncomputable def xop (P : Program) (G : Nat) (call : CallT) (ext : ExtT) (ρ : Operand → Option V) (o : Op) (M : H) (n : Nat) : Option Rs :=
  match o with
  | .call ⟨.value f, xs, _⟩ => (match ρ f, rs ρ xs.toList with
    | some (.fn g cs), some vs => (match ext g (vs ++ cs) M n with
      | some (v, M, n) => some (.ok v M n)
      | none => call (.f g) (vs ++ cs) M n)
    | some (.yf id), some vs => call (.y id) vs M n
    | _, _ => none)
  | .panic x => (match ρ x with
    | some (.ic t v) => some (.pan (.ic t v) M n)
    | _ => none)
  | o => (match xval P G ρ o M n with | some (v, M, n) => some (.ok v M n) | none => none)

section
variable {P : Program} {G base n n' nt : Nat} {j : J} {M M' : H} {w : World} {call : CallT} {ext : ExtT}
theorem up_in {o : Oper} {a : Act} {K : Act → World → Prop} {Q : Exit → Act → World → Prop} {rd : Option Nat} (h : o.wp P a w K Q) (hd : ∀ c, o.op ≠ .defer c) : o.wpIn (WR rd) 0 P a w K Q := by
  refine ⟨fun _ _ => trivial, ?_⟩
  have e : o.semAt (WR rd).round a.eval = execOp a.eval o := by
    unfold Oper.semAt
    split
    · rename_i l c _ hc; exact absurd hc (hd c)
    · rfl
  rw [e]
  unfold Oper.wp at h
  generalize (execOp a.eval o).run P w = r at h
  cases r with
  | ok x w' =>
    cases x <;> first | exact h | exact h.elim | skip
    · exact ⟨fun q => (by cases q), callsIn_wide.2 h⟩
    · exact ⟨fun q => (by cases q), fun c cs _ => let ⟨v, w', r, s⟩ := h c cs; ⟨v, w', r, stepsIn_wide.2 s⟩⟩
  | halt x w' => cases x <;> first | exact h | exact h.elim
theorem xop_ok {rd : Option Nat} {ρ : Operand → Option V} {o : Oper} {r : Rs} {a : Act} {K : Act → World → Prop} {Q : Exit → Act → World → Prop} (h : xop P G call ext ρ o.op M n = some r) (hc : CallOk P G base call) (he : ExtOk P ext) :
    n ≤ r.n ∧ (Ctx G base n j M w → Free n r.n j → (∀ x v, ρ x = some v → VR j v (a.eval x)) →
    (∀ v, r = .ok v r.M r.n → ∀ y w' j', Post G base n r.n j M w j' r.M w' → VR j' v y → K (a.put o.dst y) w') →
    (∀ v, r = .pan v r.M r.n → ∀ y w' j', Post G base n r.n j M w j' r.M w' → VR j' v y → Q (.panic [{ v := y, recovered := false }]) a w') → o.wpIn (WR rd) 0 P a w K Q) := by
  unfold xop at h
  split at h
  · rename_i f xs ts ho
    split at h
    · rename_i g cs vs hf hvs
      split at h
      · rename_i v M' n' hx
        injection h with h
        subst h
        obtain ⟨hnn, hx⟩ := he _ _ _ _ _ _ _ hx
        refine ⟨hnn, fun c hfr hr hK _ => ?_⟩
        have h1 := hr _ _ hf
        simp only [VR] at h1
        obtain ⟨ycs, h2, h3⟩ := h1
        have h4 := rs_ok hr hvs
        obtain ⟨y, w', j', h5, h6, h7⟩ := hx G base j w _ c hfr (h4.app h2)
        have hrun : (execOp a.eval o).run P w = .ok (.value y) w' := by
          obtain ⟨dst, op, ty, pos, after, guard⟩ := o
          simp only at ho
          subst ho
          have he : (xs.toList.map a.eval ++ ycs).toArray = (xs.map a.eval) ++ ycs.toArray := by apply Array.ext'; simp
          rw [he] at h5
          simpa [execOp, resolve, h3, Deferred.ofValue, invoke] using h5
        refine up_in ?_ (fun c' hc' => by rw [ho] at hc'; cases hc')
        unfold Oper.wp
        rw [hrun]
        exact hK v rfl y w' j' h7 h6
      · obtain ⟨⟨fn, body, g1, g2, g3⟩, hn, hcall⟩ := hc.fn _ _ _ _ _ h
        refine ⟨hn, fun c hfr hr hK hQ => ?_⟩
        have h1 := hr _ _ hf
        simp only [VR] at h1
        obtain ⟨ycs, h2, h3⟩ := h1
        have h4 := rs_ok hr hvs
        have hrun : (execOp a.eval o).run P w = .ok (.enter g ((xs.map a.eval) ++ ycs.toArray)) w := by
          obtain ⟨dst, op, ty, pos, after, guard⟩ := o
          simp only at ho
          subst ho
          have g2' : ¬ fn.name = "runtime.NumGoroutine" := by simpa using g2
          simp [execOp, resolve, h3, Deferred.ofValue, invoke, callFunc, g1, g2', g3]
        have he : (xs.toList.map a.eval ++ ycs).toArray = (xs.map a.eval) ++ ycs.toArray := by apply Array.ext'; simp
        have := hcall j w _ c hfr (h4.app h2)
        rw [he] at this
        refine up_in ?_ (fun c' hc' => by rw [ho] at hc'; cases hc')
        unfold Oper.wp
        rw [hrun, Oper.upon_enter]
        refine this.mono fun e w' hq => ?_
        obtain ⟨j', hp, hend⟩ := hq
        cases r with
        | ok v M' n' =>
          obtain ⟨y, rfl, hy⟩ := hend
          exact hK v rfl y w' j' hp hy
        | pan v M' n' =>
          obtain ⟨y, rfl, hy⟩ := hend
          exact hQ v rfl y w' j' hp hy
    · rename_i id vs hf hvs
      obtain ⟨hn, hcall⟩ := hc.yd _ _ _ _ _ h
      refine ⟨hn, fun c hfr hr hK hQ => ?_⟩
      have h1 := hr _ _ hf
      simp only [VR] at h1
      obtain ⟨l, hl, h3⟩ := h1
      have h4 := rs_ok hr hvs
      obtain ⟨fn, tmps, asg, body, hy, hrd⟩ := hcall j w _ c hfr h4 l hl
      have hrun : (execOp a.eval o).run P w = .ok (.round l.g fn tmps asg body) w := by
        obtain ⟨dst, op, ty, pos, after, guard⟩ := o
        simp only at ho
        subst ho
        have he : (xs.toList.map a.eval).toArray = xs.map a.eval := by apply Array.ext'; simp
        rw [he] at hy
        simpa [execOp, resolve, h3, Deferred.ofValue, invoke] using hy
      have hsem : o.semAt (WR rd).round a.eval = execOp a.eval o := by
        unfold Oper.semAt
        split
        · rename_i l c _ hc'; rw [ho] at hc'; cases hc'
        · rfl
      refine ⟨fun _ _ => trivial, ?_⟩
      rw [hsem, hrun, Oper.uponIn_round]
      refine ⟨fun q => (by cases q), ?_⟩
      refine RoundIn.mono (F := WR rd) (n := 0) hrd fun e w' hq => ?_
      obtain ⟨j', hp, hend⟩ := hq
      cases r with
      | ok v M' n' =>
        obtain ⟨y, rfl, hy⟩ := hend
        exact hK v rfl y w' j' hp hy
      | pan v M' n' =>
        obtain ⟨y, rfl, hy⟩ := hend
        exact hQ v rfl y w' j' hp hy
    · cases h
  · rename_i x ho
    split at h
    · rename_i t v hv
      injection h with h
      subst h
      refine ⟨Nat.le_refl _, fun c hfr hr _ hQ => ?_⟩
      have hy := hr _ _ hv
      have hy' := hy
      simp only [VR] at hy
      obtain ⟨y0, hy0, he⟩ := hy
      rw [he] at hy'
      have hrun : (execOp a.eval o).run P w = .halt (.panic (.iface t y0)) w := by
        obtain ⟨dst, op, ty, pos, after, guard⟩ := o
        simp only at ho
        subst ho
        simp [execOp, he, Instr.panic, goPanic]
      refine up_in ?_ (fun c' hc' => by rw [ho] at hc'; cases hc')
      unfold Oper.wp
      rw [hrun]
      exact hQ _ rfl _ w j (.refl c.rel _) hy'
    · cases h
  · split at h
    · rename_i v M' n' hr'
      injection h with h
      subst h
      have hnn : n ≤ n' := xval_n hr'
      refine ⟨hnn, fun c hfr hr hK _ => ?_⟩
      obtain ⟨y, w', j', h1, h2, h3, h4⟩ := xval_ok (e := a.eval) hr' c hfr hr
      refine up_in ?_ (fun c' hc' => by rw [hc', xval_eq] at hr'; cases hr')
      unfold Oper.wp
      rcases h1 with h1 | ⟨h1, rfl⟩ <;> rw [h1] <;> exact hK v rfl _ w' j' h3 h2
    · cases h
end
end Eng
end Go.Proofs.YtjoinnjhpfakpaaGreatDoor
namespace Go.Proofs.YtjoinnjhpfakpaaGreatDoor
namespace Eng
open Go.RowKit

/-! ### Forcing -/
noncomputable def fN {α : Type} (n : Nat) (k : Nat → α) : α := Nat.rec (k 0) (fun m _ => k (m + 1)) n
theorem fN_eq {α : Type} (n : Nat) (k : Nat → α) : fN n k = k n := by cases n <;> rfl
noncomputable def fI {α : Type} (n : Int) (k : Int → α) : α := Int.rec (fun m => fN m fun m => k (.ofNat m)) (fun m => fN m fun m => k (.negSucc m)) n
theorem fI_eq {α : Type} (n : Int) (k : Int → α) : fI n k = k n := by
  cases n with
  | ofNat m => exact fN_eq m fun m => k (.ofNat m)
  | negSucc m => exact fN_eq m fun m => k (.negSucc m)
noncomputable def fB {α : Type} (n : Bool) (k : Bool → α) : α := Bool.rec (k false) (k true) n
theorem fB_eq {α : Type} (n : Bool) (k : Bool → α) : fB n k = k n := by cases n <;> rfl
noncomputable def fV {α : Type} (v : V) (k : V → α) : α :=
  match v with
  | .b x => fB x fun x => k (.b x)
  | .i kk n => fI n fun n => k (.i kk n)
  | .p (some q) => fN q.1 fun a => fN q.2 fun b => k (.p (some (a, b)))
  | .sl (some q) n c => fN q.1 fun a => fN q.2 fun b => fN n fun n => (match c with | .x c => fN c fun c => k (.sl (some (a, b)) n (.x c)) | .u z => k (.sl (some (a, b)) n (.u z)))
  | v => k v
theorem fV_eq {α : Type} (v : V) (k : V → α) : fV v k = k v := by
  unfold fV
  split
  · exact fB_eq _ _
  · exact fI_eq _ _
  · rw [fN_eq, fN_eq]
  · rw [fN_eq, fN_eq, fN_eq]
    split
    · rw [fN_eq]
    · rfl
  · rfl

/-! ### Frames -/
noncomputable def opd (G : Nat) (ts : T V) (M : H) (x : Operand) : Option V :=
  match x with
  | .tmp t => ts.get t
  | .const v => ofC v
  | .global g => (match Nat.blt g G, M.get g with | true, some (.c _ _ _) => some (.p (some (g, 0))) | _, _ => none)
  | .func f => some (.fn f [])
noncomputable def tput (nt : Nat) (ts : T V) (d : Option Tmp) (v : V) : Option (T V) :=
  match d with
  | none => some ts
  | some d => (match Nat.blt d nt with | true => fV v fun v => some (T.set 24 ts d (some v)) | false => none)
/-- Is the operation wanted? -/
noncomputable def want (ops : Array Oper) (ts : T V) (o : Oper) : Option Bool :=
  match o.guard with
  | none => some true
  | some (g, b) => (match ops[g]? with
    | none => some false
    | some og => (match og.dst with
      | none => some false
      | some d => (match ts.get d with
        | some (.b x) => some (x == b)
        | some (.t _) => some false
        | _ => none)))
inductive Ex where
  | n | x (id : Nat) | r | p (v : V)
abbrev Out := Option (Ex × T V × H × Nat)
abbrev RunT := Code → Nat → T V → H → Nat → Out

section
variable (P : Program) (G : Nat) (call : CallT) (ext : ExtT) (nt : Nat)
noncomputable def seqR (ops : Array Oper) (l : List Oper) : T V → H → Nat → Out :=
  List.rec (fun ts M n => some (.n, ts, M, n)) (fun o _ ih ts M n =>
    match want ops ts o with
    | some true => (match xop P G call ext (opd G ts M) o.op M n with
      | some (.ok v M n) => (match tput nt ts o.dst v with | some ts => ih ts M n | none => none)
      | some (.pan v M n) => some (.p v, ts, M, n)
      | none => none)
    | some false => (match tput nt ts o.dst (.t []) with | some ts => ih ts M n | none => none)
    | none => none) l

/-! ### Any order -/
def nthN : List Nat → Nat → Option Nat
  | [], _ => none
  | v :: _, 0 => some v
  | _ :: vs, k + 1 => nthN vs k
def mask (acc : List Nat) (i : Nat) : List Edge → Option Nat
  | [] => some 0
  | e :: es =>
    match Region.binds .any e with
    | false => mask acc i es
    | true => (match Nat.blt e.on i, nthN acc e.on, mask acc i es with
      | true, some m', some m => some (Nat.lor (Nat.lor m m') (2 ^ e.on))
      | _, _, _ => none)
noncomputable def masks : List Oper → List Nat → Option (List Nat)
  | [], acc => some acc
  | o :: l, acc => (match mask acc acc.length o.after.toList with | some m => fN m fun m => masks l (acc ++ [m]) | none => none)
def tmpsOf : List Operand → List Nat
  | [] => []
  | .tmp t :: l => t :: tmpsOf l
  | _ :: l => tmpsOf l
/-- The temporaries that an operation reads. -/
def uses (ops : Array Oper) (o : Oper) : List Nat :=
  (match o.guard with | none => [] | some (g, _) => (match ops[g]? with | some og => (match og.dst with | some d => [d] | none => []) | none => [])) ++ tmpsOf o.op.operands.toList
noncomputable def memN (t : Nat) (l : List Nat) : Bool := List.rec false (fun x _ ih => Bool.rec ih true (Nat.beq x t)) l
def bit (m i : Nat) : Bool := Nat.testBit m i
def dsts (ops : List Oper) : List (Option Nat) := ops.map (·.dst)
/-- Whoever writes what the i-th reads comes surely ahead of it, or surely behind. -/
noncomputable def wrOk (A : List Nat) (i m : Nat) (us : List Nat) : Nat → List (Option Nat) → Bool
  | _, [] => true
  | k, d :: ds => (match d with
    | none => true
    | some t => (match memN t us with
      | false => true
      | true => (match Nat.beq k i with
        | true => true
        | false => (match Nat.blt k i with | true => bit m k | false => (match nthN A k with | some mk => bit mk i | none => false))))) && wrOk A i m us (k + 1) ds
def isN (t : Nat) : Option Nat → Bool
  | some u => Nat.beq t u
  | none => false
def noDup (nt : Nat) : List (Option Nat) → Bool
  | [] => true
  | none :: ds => noDup nt ds
  | some t :: ds => Nat.blt t nt && !(ds.any (isN t)) && noDup nt ds
noncomputable def allWr (ops : Array Oper) (A : List Nat) : Nat → List Oper → Bool
  | _, [] => true
  | i, o :: l => (match nthN A i with | some m => wrOk A i m (uses ops o) 0 (dsts ops.toList) | none => false) && allWr ops A (i + 1) l
noncomputable def static (nt : Nat) (ops : Array Oper) : Option (List Nat) :=
  match masks ops.toList [] with
  | some A => (match noDup nt (dsts ops.toList), allWr ops A 0 ops.toList with | true, true => some A | _, _ => none)
  | none => none

inductive Kls where
  | p | f | r | e
def plain (P : Program) (t : TypeId) : Bool := match P.underlying t with | some (.slice _) | none => false | _ => true
def kls (P : Program) (o : Op) : Kls :=
  match o with
  | .move _ | .assign _ | .pick .. | .build .. | .nilCheck _ | .binOp .. | .unOp .. | .sliceToArrayPointer .. | .makeInterface .. | .makeFunc .. | .slice .. | .fieldAddr .. | .field .. | .indexAddr .. | .index .. | .extract .. => .p
  | .convert s d _ => (match plain P s, plain P d with | true, true => .p | _, _ => .e)
  | .call ⟨.builtin .len, _, ts⟩ => (match ts[0]? with | some t => (match P.underlying t with | some (.map _ _) => .e | _ => .p) | none => .e)
  | .call ⟨.builtin .cap, _, _⟩ | .call ⟨.builtin .min, _, _⟩ | .call ⟨.builtin .max, _, _⟩ => .p
  | .alloc _ | .box .. | .buildSlice .. | .makeSlice .. | .makeMap .. => .f
  | .load .. => .r
  | _ => .e
/-- What came of an operation: at itself; what was new in memory; what was read, by which type, at which address; memory ahead of a link of the chain, and behind it. -/
inductive Rc where
  | p (v : V) | f (v : V) (lab : Nat) (b : B) | r (v : V) (t : TypeId) (a : V) | e (v : V) (Mb Ma : H)
def Rc.v : Rc → V | .p v | .f v _ _ | .r v _ _ | .e v _ _ => v
structure Fs where
  i : Nat
  lab : Nat
  b : B
/-- Memory with what is new and stands ahead of one (mi), but not ahead of another (mc). -/
noncomputable def att (mi mc : Nat) (fs : List Fs) (M : H) : H :=
  List.rec M (fun f _ ih => Bool.rec ih (Bool.rec (T.set 24 ih f.lab (some f.b)) ih (bit mc f.i)) (bit mi f.i)) fs
noncomputable def opdU (us : List Nat) (ts : T V) (M : H) (x : Operand) : Option V :=
  match x with
  | .tmp t => (match memN t us with | true => ts.get t | false => none)
  | x => opd G ts M x
/-- One operation: its record, memory behind it, the next id. -/
noncomputable def one (M0 : H) (ops : Array Oper) (o : Oper) (m mc : Nat) (lastE : Option Nat) (fs : List Fs) (ts : T V) (M : H) (n : Nat) : Option (Rc × H × Nat) :=
  match want ops ts o with
  | none => none
  | some false => some (.p (.t []), M, n)
  | some true =>
    match kls P o.op with
    | .p => (match xval P G (opdU G (uses ops o) ts M0) o.op .e n with
      | some (v, _, n') => (match Nat.beq n' n with | true => some (.p v, M, n) | false => none)
      | none => none)
    | .f => (match xval P G (opdU G (uses ops o) ts M0) o.op .e n with
      | some (v, M1, n') => (match M1.get n with | some b => some (.f v n b, M, n') | none => none)
      | none => none)
    | .r => (match o.op with
      | .load t x => (match opdU G (uses ops o) ts M0 x with
        | some a => (match xload P t a (att m mc fs M) with | some v => some (.r v t a, M, n) | none => none)
        | none => none)
      | _ => none)
    | .e => (match (match lastE with | none => true | some c => bit m c) with
      | true => (match xop P G call ext (opdU G (uses ops o) ts M0) o.op (att m mc fs M) n with
        | some (.ok v Ma n') => some (.e v (att m mc fs M) Ma, Ma, n')
        | _ => none)
      | false => none)
structure St where
  rcs : List (Rc × Nat)
  fs : List Fs
  ts : T V
  M : H
  n : Nat
  lastE : Option Nat
  mc : Nat
/-- All of them, in the order of the text: records (with the id at which each began), the newest first. -/
noncomputable def goA (M0 : H) (ops : Array Oper) (l : List Oper) : List Nat → Nat → St → Option St :=
  List.rec (fun _ _ s => some s) (fun o _ ih A i s => List.rec none (fun m A _ =>
    St.rec (fun rcs fs ts M n lastE mc =>
      match one P G call ext M0 ops o m mc lastE fs ts M n with
      | none => none
      | some (rc, M', n') => fN n' fun n' => fN (i + 1) fun i' => fV rc.v fun v =>
        (match tput nt ts o.dst v with
        | none => none
        | some ts' => (match rc with
          | .p _ => ih A i' ⟨(.p v, n) :: rcs, fs, ts', M, n', lastE, mc⟩
          | .f _ lab b => ih A i' ⟨(.f v lab b, n) :: rcs, ⟨i, lab, b⟩ :: fs, ts', M, n', lastE, mc⟩
          | .r _ t a => ih A i' ⟨(.r v t a, n) :: rcs, fs, ts', M, n', lastE, mc⟩
          | .e _ Mb Ma => ih A i' ⟨(.e v Mb Ma, n) :: rcs, fs, ts', M', n', some i, m⟩))) s) A) l

def eqRs : List (List (BinOp × IntKind × Int) × Int) → List (List (BinOp × IntKind × Int) × Int) → Bool
  | [], [] => true
  | a :: l, b :: m => (match eqPs a.1 b.1, decide (a.2 = b.2) with | true, true => eqRs l m | _, _ => false)
  | _, _ => false
mutual
def eqV : V → V → Bool
  | .b x, .b y => x == y
  | .i k n, .i k' n' => decide (k = k') && decide (n = n')
  | .f k n, .f k' n' => decide (k = k') && Nat.beq n n'
  | .s l, .s l' => eqS l l'
  | .p none, .p none => true
  | .p (some q), .p (some q') => Nat.beq q.1 q'.1 && Nat.beq q.2 q'.2
  | .sl none n (.x c), .sl none n' (.x c') => Nat.beq n n' && Nat.beq c c'
  | .sl (some q) n (.x c), .sl (some q') n' (.x c') => Nat.beq q.1 q'.1 && Nat.beq q.2 q'.2 && Nat.beq n n' && Nat.beq c c'
  | .sl (some q) n (.u c), .sl (some q') n' (.u c') => Nat.beq q.1 q'.1 && Nat.beq q.2 q'.2 && Nat.beq n n' && Nat.beq c c'
  | .mp none, .mp none => true
  | .mp (some q), .mp (some q') => Nat.beq q q'
  | .fn f cs, .fn f' cs' => Nat.beq f f' && eqVs cs cs'
  | .qs a, .qs b => Nat.beq a b
  | .qi a k ps rs, .qi b k' ps' rs' => Nat.beq a b && decide (k = k') && eqPs ps ps' && eqRs rs rs'
  | .nf, .nf => true
  | .ic t v, .ic t' v' => Nat.beq t t' && eqV v v'
  | .ni, .ni => true
  | .a l, .a l' => eqVs l l'
  | .t l, .t l' => eqVs l l'
  | _, _ => false
def eqVs : List V → List V → Bool
  | [], [] => true
  | v :: l, v' :: l' => eqV v v' && eqVs l l'
  | _, _ => false
end
/-- The links of the chain: place, mask, memory behind. -/
structure Es where
  i : Nat
  m : Nat
  M : H
noncomputable def links (A : List Nat) : Nat → List Rc → List Es
  | _, [] => []
  | i, rc :: l => (match rc, nthN A i with
    | .e _ _ Ma, some m => ⟨i, m, Ma⟩ :: links A (i + 1) l
    | _, _ => links A (i + 1) l)
/-- May the read at i (mask m) come when c is the chain's last? -/
def admR (es : List Es) (i m : Nat) (c : Option Es) : Bool :=
  match c with
  | none => es.all fun e => !bit m e.i
  | some c => !bit c.m i && !Nat.beq c.i i && es.all fun e => !bit m e.i || Nat.beq e.i c.i || bit c.m e.i
noncomputable def readOk (M0 : H) (es : List Es) (fs : List Fs) (i m : Nat) (v : V) (t : TypeId) (a : V) (c : Option Es) : Bool :=
  match admR es i m c with
  | false => true
  | true => (match xload P t a (match c with | none => att m 0 fs M0 | some c => att m c.m fs c.M) with
    | some u => eqV u v
    | none => false)
noncomputable def safeE (fs : List Fs) (m : Nat) (Mb : H) : Bool := fs.all fun f => bit m f.i || (match Mb.get f.lab with | none => true | some _ => false)
noncomputable def checks (M0 : H) (A : List Nat) (es : List Es) (fs : List Fs) : Nat → List Rc → Bool
  | _, [] => true
  | i, rc :: l => (match nthN A i with
    | none => false
    | some m => (match rc with
      | .r v t a => readOk P M0 es fs i m v t a none && es.all fun c => readOk P M0 es fs i m v t a (some c)
      | .e _ Mb _ => safeE fs m Mb
      | _ => true)) && checks M0 A es fs (i + 1) l
noncomputable def anyR (ops : Array Oper) (ts : T V) (M : H) (n : Nat) : Out :=
  match static nt ops with
  | none => none
  | some A =>
    match goA P G call ext nt M ops ops.toList A 0 ⟨[], [], ts, M, n, none, 0⟩ with
    | none => none
    | some s =>
      (match checks P M A (links A 0 (s.rcs.map (·.1)).reverse) s.fs 0 (s.rcs.map (·.1)).reverse with
      | true => some (.n, s.ts, att (2 ^ ops.size - 1) s.mc s.fs s.M, s.n)
      | false => none)
end

section
variable (P : Program) (G : Nat) (hook : CallT → CallT) (ext : ExtT)
noncomputable def ins : List V → Nat → T V → T V
  | [], _, ts => ts
  | v :: l, i, ts => ins l (i + 1) (T.set 24 ts i (some v))
noncomputable def xrs (ts : T V) (M : H) : List ResultVar → Option (List V)
  | [] => some []
  | .tmp t :: l => (match ts.get t, xrs ts M l with | some v, some vs => some (v :: vs) | _, _ => none)
  | .cell a t :: l => (match ts.get a, xrs ts M l with
    | some p, some vs => (match xload P t p M with | some v => some (v :: vs) | none => none)
    | _, _ => none)
def tup : List V → V
  | [v] => v
  | vs => .t vs
/-- No range over a function within. -/
def flat : Code → Bool
  | .rangeFunc _ _ _ _ => false
  | .seq a b => flat a && flat b
  | .cond _ a b => flat a && flat b
  | .block _ b => flat b
  | .loop b => flat b
  | .scope b => flat b
  | _ => true
noncomputable def insP (nt : Nat) : List Tmp → List V → T V → Option (T V)
  | [], [], ts => some ts
  | p :: ps, v :: vs, ts => (match Nat.blt p nt with | true => insP nt ps vs (T.set 24 ts p (some v)) | false => none)
  | _, _, _ => none
def stJ (jump : Option Code) : LoopState := match jump with | none => .ready | some _ => .done
noncomputable def finR (id : Nat) (jump : Option Code) (M : H) (n : Nat) : Option Rs :=
  match M.get id with
  | some (.lp _ _ ts nt ps asg body) => some (.ok (.b jump.isNone) (T.set 24 M id (some (.lp (stJ jump) jump ts nt ps asg body))) n)
  | _ => none
/-- A round. -/
noncomputable def rnd (run : RunT) (id : Nat) (vs : List V) (M : H) (n : Nat) : Option Rs :=
  match M.get id, Nat.ble G id with
  | some (.lp .ready _ ts nt ps asg body), true => (match flat asg, flat body, insP nt ps vs ts with
    | true, true, some ts0 => (match run asg nt ts0 M n with
      | some (.n, ts1, M1, n1) => (match M1.get id with
        | some (.lp .ready pd tx nx px ax bx) => (match run body nt ts1 (T.set 24 M1 id (some (.lp .busy pd tx nx px ax bx))) n1 with
          | some (.n, _, M2, n2) => finR id none M2 n2
          | some (.x k, _, M2, n2) => finR id (some (.exit k)) M2 n2
          | some (.r, _, M2, n2) => finR id (some .ret) M2 n2
          | _ => none)
        | _ => none)
      | _ => none)
    | _, _, _ => none)
  | _, _ => none
noncomputable def callB (run : RunT) : CallT := fun F vs M n =>
  match F with
  | .y id => rnd G run id vs M n
  | .f f => match P.funcs[f]? with
  | none => none
  | some fn => (match fn.name == "runtime.NumGoroutine", fn.body with
    | false, some c => (match run c (vs.length + (fn.ntmps - vs.length)) (ins vs 0 .e) M n with
      | some (.n, ts, M', n') => (match xrs P ts M' fn.results.toList with | some rs => some (.ok (tup rs) M' n') | none => none)
      | some (.r, ts, M', n') => (match xrs P ts M' fn.results.toList with | some rs => some (.ok (tup rs) M' n') | none => none)
      | some (.p v, _, M', n') => some (.pan v M' n')
      | _ => none)
    | _, _ => none)
noncomputable def callF (run : RunT) : CallT := fun F vs M n =>
  match hook (callB P G run) F vs M n with
  | some r => some r
  | none => callB P G run F vs M n
noncomputable def step (ih : RunT) (c : Code) (nt : Nat) (ts : T V) (M : H) (n : Nat) : Out :=
  match c with
  | .skip => some (.n, ts, M, n)
  | .label _ => some (.n, ts, M, n)
  | .region _ ops false => seqR P G (callF P G hook ih) ext nt ops ops.toList ts M n
  | .region _ ops true => anyR P G (callF P G hook ih) ext nt ops ts M n
  | .seq a b => (match ih a nt ts M n with | some (.n, ts, M, n) => ih b nt ts M n | r => r)
  | .cond c a b => (match opd G ts M c with | some (.b true) => ih a nt ts M n | some (.b false) => ih b nt ts M n | _ => none)
  | .block id b => (match ih b nt ts M n with
    | some (.x k, ts, M, n) => (match Nat.beq k id with | true => some (.n, ts, M, n) | false => some (.x k, ts, M, n))
    | r => r)
  | .loop b => (match ih b nt ts M n with | some (.n, ts, M, n) => ih (.loop b) nt ts M n | r => r)
  | .exit id => some (.x id, ts, M, n)
  | .ret => some (.r, ts, M, n)
  | .rangeFunc g ps asg body => (match opd G ts M g with
    | some (.fn f cs) => (match callF P G hook ih (.f f) (.yf n :: cs) (T.set 24 M n (some (.lp .ready none ts nt ps.toList asg body))) (n + 1) with
      | some (.ok _ M1 n1) => (match M1.get n with
        | some (.lp .ready none tx nx px ax bx) => some (.n, ts, T.set 24 M1 n (some (.lp .exhausted none tx nx px ax bx)), n1)
        | some (.lp .done (some (.exit k)) tx nx px ax bx) => some (.x k, ts, T.set 24 M1 n (some (.lp .exhausted (some (.exit k)) tx nx px ax bx)), n1)
        | some (.lp .done (some .ret) tx nx px ax bx) => some (.r, ts, T.set 24 M1 n (some (.lp .exhausted (some .ret) tx nx px ax bx)), n1)
        | _ => none)
      | _ => none)
    | _ => none)
  | _ => none
noncomputable def run (f : Nat) : RunT := Nat.rec (fun _ _ _ _ _ => none) (fun _ ih c nt ts M n => step P G hook ext ih c nt ts M n) f
noncomputable def exec (f : Nat) : CallT := callF P G hook (run P G hook ext f)
end
end Eng
end Go.Proofs.YtjoinnjhpfakpaaGreatDoor
namespace Go.Proofs.YtjoinnjhpfakpaaGreatDoor
namespace Eng
open Go.RowKit

/-- What a frame holds. -/
structure TR (d0 : List Deferred) (j : J) (ts : T V) (nt : Nat) (a : Act) : Prop where
  size : a.tmps.size = nt
  ds : a.defers = d0
  rd : ∀ t v, ts.get t = some v → ∃ y, a.tmps[t]? = some y ∧ VR j v y
theorem TR.mono {d0 : List Deferred} {j j' : J} {ts : T V} {nt : Nat} {a : Act} (h : TR d0 j ts nt a) (k : Le j j') : TR d0 j' ts nt a :=
  ⟨h.size, h.ds, fun t v q => let ⟨y, h1, h2⟩ := h.rd t v q; ⟨y, h1, h2.mono k⟩⟩
def ExR (j : J) : Ex → Exit → Prop
  | .n, e => e = .normal
  | .x id, e => e = .exit id
  | .r, e => e = .ret
  | .p v, e => ∃ y, e = .panic [{ v := y, recovered := false }] ∧ VR j v y
/-- What a region leaves. -/
def Left0 (d0 : List Deferred) (G base n : Nat) (j : J) (M : H) (w : World) (nt : Nat) (ex : Ex) (ts : T V) (M' : H) (n' : Nat) (e : Exit) (a : Act) (w' : World) : Prop :=
  ∃ j', Post G base n n' j M w j' M' w' ∧ ExR j' ex e ∧ TR d0 j' ts nt a
def mark (D : Nat) : Deferred := { target := .collected D, args := #[] }
/-- What ranges over functions left behind: blocks of no calls, none of them older than B0. -/
def Mk (B0 : Nat) (j : J) (M : Mem) (w : World) (ds : List Deferred) : Prop :=
  B0 ≤ w.heap.size ∧ ∃ L : List Nat, ds = L.map mark ∧ L.Nodup ∧ ∀ D, D ∈ L → B0 ≤ D ∧ w.heap[D]? = some (.deferred (some [])) ∧ ∀ id b l, M id = some b → j id = some l → l.g ≠ D
/-- What a piece of code leaves. -/
def Left (B0 G base n : Nat) (j : J) (M : H) (w : World) (nt : Nat) (ex : Ex) (ts : T V) (M' : H) (n' : Nat) (e : Exit) (a : Act) (w' : World) : Prop :=
  ∃ j' d', Post G base n n' j M w j' M' w' ∧ ExR j' ex e ∧ TR d' j' ts nt a ∧ Mk B0 j' M' w' d'
/-- A loop that ends behind at most so many rounds. -/
def U (P : Program) (rd : Option Nat) (b : Code) (Q : Exit → Act → World → Prop) : Nat → Act → World → Prop
  | 0, _, _ => False
  | m + 1, a, w => b.wpIn (WR rd) 0 P (Exit.then (U P rd b Q m) Q) a w
def CodeOk (P : Program) (G base : Nat) (run : RunT) : Prop :=
  ∀ c nt ts M n ex ts' M' n', run c nt ts M n = some (ex, ts', M', n') → n ≤ n' ∧
    (∀ B0 rd j w a d0, (rd = none ∨ flat c = true) → Ctx G base n j M w → Free n n' j → TR d0 j ts nt a → Mk B0 j M w d0 → ∀ Q : Exit → Act → World → Prop, (∀ e a' w', Left B0 G base n j M w nt ex ts' M' n' e a' w' → Q e a' w') → c.wpIn (WR rd) 0 P Q a w) ∧
    ∀ b, c = .loop b → ∃ m, ∀ B0 rd j w a d0, (rd = none ∨ flat c = true) → Ctx G base n j M w → Free n n' j → TR d0 j ts nt a → Mk B0 j M w d0 → ∀ Q : Exit → Act → World → Prop, (∀ e a' w', Left B0 G base n j M w nt ex ts' M' n' e a' w' → Q e a' w') → U P rd b Q m a w

section
variable {P : Program} {G base n n' nt : Nat} {j : J} {M M' : H} {w : World} {call : CallT} {ext : ExtT} {d0 : List Deferred} {rd : Option Nat}
theorem ofC_eval {x : Value} {v : V} (h : ofC x = some v) (j : J) : VR j v x := ofC_rel j x v h
theorem opd_ok {ts : T V} {a : Act} {x : Operand} {v : V} (h : opd G ts M x = some v) (hr : Rel G base j M w) (ht : ∀ t v, ts.get t = some v → ∃ y, a.tmps[t]? = some y ∧ VR j v y) : VR j v (a.eval x) := by
  unfold opd at h
  split at h
  · obtain ⟨y, h1, h2⟩ := ht _ _ h
    simp only [Act.eval]
    rw [Array.getD_eq_getD_getElem?, h1]
    exact h2
  · exact ofC_rel j _ _ h
  · rename_i g
    split at h
    · rename_i cs e fz hg hb
      injection h with h
      subst h
      obtain ⟨l, h1, h2⟩ := hr.ok g _ hb
      rw [Nat.blt_eq] at hg
      obtain ⟨h3, h4⟩ := hr.glob g _ l hg hb h1
      simp only [VR]
      exact ⟨l, h1, by simp [Act.eval, h3, h4]⟩
    · cases h
  · injection h with h
    subst h
    simp only [VR]
    exact ⟨[], .nil j, rfl⟩
theorem tput_ok {ts ts' : T V} {d : Option Tmp} {v : V} {a : Act} {y : Value} (h : tput nt ts d v = some ts') (hv : VR j v y) (hT : TR d0 j ts nt a) : TR d0 j ts' nt (a.put d y) := by
  unfold tput at h
  split at h
  · injection h with h; subst h; exact hT
  · rename_i d
    split at h
    · rename_i hd
      rw [Nat.blt_eq] at hd
      rw [fV_eq] at h
      injection h with h
      subst h
      refine ⟨by simp [Act.put, hT.size], hT.ds, fun t u ht => ?_⟩
      rcases T.set_get ht with ⟨rfl, e⟩ | ⟨hne, e⟩
      · injection e with e
        subst e
        exact ⟨y, by simp [Act.put, hT.size, hd], hv⟩
      · obtain ⟨z, h1, h2⟩ := hT.rd t u e
        exact ⟨z, by simp only [Act.put]; rw [Array.getElem?_setIfInBounds_ne (Ne.symm hne)]; exact h1, h2⟩
    · cases h
theorem want_ok {ops : Array Oper} {ts : T V} {o : Oper} {b : Bool} {a : Act} (h : want ops ts o = some b) (ht : ∀ g q og d, o.guard = some (g, q) → ops[g]? = some og → og.dst = some d → ∀ v, ts.get d = some v → ∃ y, a.tmps[d]? = some y ∧ VR j v y) : Region.wanted o (yielded ops a.tmps) = b := by
  unfold want at h
  unfold Region.wanted
  split at h
  · rename_i hg
    injection h with h
    rw [hg]; exact h
  · rename_i g q hg
    rw [hg]
    simp only
    unfold yielded
    split at h
    · rename_i ho
      injection h with h
      subst h
      rw [ho]
      rfl
    · rename_i og ho
      rw [ho]
      simp only [Option.bind_some]
      split at h
      · rename_i hd
        injection h with h
        subst h
        rw [hd]
        rfl
      · rename_i d hd
        rw [hd]
        simp only [Option.bind_some]
        split at h
        · rename_i x hx
          obtain ⟨y, h1, h2⟩ := ht g q og d hg ho hd _ hx
          simp only [VR] at h2
          subst h2
          injection h with h
          rw [← h, h1]
          cases x <;> cases q <;> rfl
        · rename_i u hx
          obtain ⟨y, h1, h2⟩ := ht g q og d hg ho hd _ hx
          simp only [VR] at h2
          obtain ⟨ys, _, rfl⟩ := h2
          injection h with h
          rw [← h, h1]
          rfl
        · cases h
theorem Mk.post {B0 : Nat} {j' : J} {w' : World} {ds : List Deferred} (h : Mk B0 j M w ds) (p : Post G base n n' j M w j' M' w') : Mk B0 j' M' w' ds := by
  obtain ⟨h0, L, h1, h2, h3⟩ := h
  refine ⟨Nat.le_trans h0 p.frm.size, L, h1, h2, fun D hD => ?_⟩
  obtain ⟨k0, k1, k2⟩ := h3 D hD
  have hlt : D < w.heap.size := (Array.getElem?_eq_some_iff.1 k1).1
  refine ⟨k0, (p.frm.block D hlt fun id b l _ hb hl => k2 id b l hb hl).trans k1, fun id b l hb hl e => ?_⟩
  rcases p.img id b l hb hl with ⟨i0, b0, l0, a1, a2, a3, _⟩ | h5
  · exact k2 i0 b0 l0 a1 a2 (a3.trans e)
  · omega
theorem Left0.left {B0 : Nat} {w' : World} {ts : T V} {ex : Ex} {e : Exit} {a : Act} (h : Left0 d0 G base n j M w nt ex ts M' n' e a w') (k : Mk B0 j M w d0) : Left B0 G base n j M w nt ex ts M' n' e a w' := by
  obtain ⟨j', h1, h2, h3⟩ := h
  exact ⟨j', d0, h1, h2, h3, k.post h1⟩
theorem seqR_ok (hc : CallOk P G base call) (he : ExtOk P ext) (ops : Array Oper) : ∀ (l : List Oper) (ts : T V) (M : H) (n : Nat) (ex : Ex) (ts' : T V) (M' : H) (n' : Nat), seqR P G call ext nt ops l ts M n = some (ex, ts', M', n') →
    n ≤ n' ∧ ∀ j w a, Ctx G base n j M w → Free n n' j → TR d0 j ts nt a → ∀ Q : Exit → Act → World → Prop, (∀ e a w', Left0 d0 G base n j M w nt ex ts' M' n' e a w' → Q e a w') → wpListIn (WR rd) 0 P ops Q l a w
  | [], ts, M, n, ex, ts', M', n', h => by
    have h : some (Ex.n, ts, M, n) = some (ex, ts', M', n') := h
    injection h with h
    injection h with e1 h
    injection h with e2 h
    injection h with e3 e4
    subst e1; subst e2; subst e3; subst e4
    exact ⟨Nat.le_refl _, fun j w a c _ hT Q hQ => wpListIn_nil (hQ _ _ _ ⟨j, .refl c.rel _, rfl, hT⟩)⟩
  | o :: l, ts, M, n, ex, ts', M', n', h => by
    have h : (match want ops ts o with
    | some true => (match xop P G call ext (opd G ts M) o.op M n with
      | some (.ok v M n) => (match tput nt ts o.dst v with | some ts => seqR P G call ext nt ops l ts M n | none => none)
      | some (.pan v M n) => some (.p v, ts, M, n)
      | none => none)
    | some false => (match tput nt ts o.dst (.t []) with | some ts => seqR P G call ext nt ops l ts M n | none => none)
    | none => none) = some (ex, ts', M', n') := h
    split at h
    · rename_i hw
      split at h
      · rename_i v M1 n1 hx
        split at h
        · rename_i ts1 ht
          obtain ⟨k1, k2⟩ := seqR_ok hc he ops l ts1 M1 n1 ex ts' M' n' h
          have hx1 := fun (j : J) (w : World) (a : Act) K Q => xop_ok (rd := rd) (j := j) (w := w) (a := a) (K := K) (Q := Q) hx hc he
          refine ⟨Nat.le_trans (hx1 (fun _ => none) default ⟨#[], []⟩ (fun _ _ => True) (fun _ _ _ => True)).1 k1, fun j w a c hf hT Q hQ => wpListIn_step fun K hK => ?_⟩
          rw [if_pos (want_ok hw fun g q og d _ _ _ v hv => hT.rd d v hv)]
          obtain ⟨q1, q2⟩ := hx1 j w a K Q
          refine q2 c (hf.sub k1) (fun x v hv => opd_ok hv c.rel hT.rd) (fun u hu y w' j' hp hv => hK _ _ ?_) (fun u hu => by cases hu)
          injection hu with hu
          subst hu
          exact k2 j' w' (a.put o.dst y) (c.post hp q1) (hf.after hp.out q1) (tput_ok ht hv (hT.mono hp.le)) Q fun e a w ⟨j2, p1, p2, p3⟩ => hQ e a w ⟨j2, hp.trans p1 q1 k1, p2, p3⟩
        · cases h
      · rename_i v M1 n1 hx
        injection h with h
        injection h with e1 h
        injection h with e2 h
        injection h with e3 e4
        subst e1; subst e2; subst e3; subst e4
        have hx1 := fun (j : J) (w : World) (a : Act) K Q => xop_ok (rd := rd) (j := j) (w := w) (a := a) (K := K) (Q := Q) hx hc he
        refine ⟨(hx1 (fun _ => none) default ⟨#[], []⟩ (fun _ _ => True) (fun _ _ _ => True)).1, fun j w a c hf hT Q hQ => wpListIn_step fun K hK => ?_⟩
        rw [if_pos (want_ok hw fun g q og d _ _ _ v hv => hT.rd d v hv)]
        obtain ⟨q1, q2⟩ := hx1 j w a K Q
        refine q2 c hf (fun x v hv => opd_ok hv c.rel hT.rd) (fun u hu => by cases hu) fun u hu y w' j' hp hv => ?_
        injection hu with hu
        subst hu
        exact hQ _ _ _ ⟨j', hp, ⟨y, rfl, hv⟩, hT.mono hp.le⟩
      · cases h
    · rename_i hw
      split at h
      · rename_i ts1 ht
        obtain ⟨k1, k2⟩ := seqR_ok hc he ops l ts1 M n ex ts' M' n' h
        refine ⟨k1, fun j w a c hf hT Q hQ => wpListIn_step fun K hK => ?_⟩
        rw [if_neg (by rw [want_ok hw fun g q og d _ _ _ v hv => hT.rd d v hv]; simp)]
        exact ⟨fun _ _ => trivial, hK _ _ (k2 j w _ c hf (tput_ok ht (by simp only [VR, VRs]; exact ⟨[], rfl, rfl⟩) hT) Q hQ)⟩
      · cases h
    · cases h
end
end Eng
end Go.Proofs.YtjoinnjhpfakpaaGreatDoor
namespace Go.Proofs.YtjoinnjhpfakpaaGreatDoor
namespace Eng
open Go.RowKit

theorem least {p : Nat → Prop} (h : ∃ m, p m) : ∃ m, p m ∧ ∀ k, p k → m ≤ k := by
  obtain ⟨m, hm⟩ := h
  induction m using Nat.strongRecOn with
  | _ m ih =>
    by_cases hk : ∃ k, k < m ∧ p k
    · obtain ⟨k, h1, h2⟩ := hk
      exact ih k h1 h2
    · exact ⟨m, hm, fun k hp => Nat.le_of_not_lt fun hl => hk ⟨k, hl, hp⟩⟩
section
variable {P : Program} {G base n n' nt : Nat} {j : J} {M M' : H} {w : World} {call : CallT} {ext : ExtT} {rd : Option Nat}
open Classical in
theorem loop_U {b : Code} {Q : Exit → Act → World → Prop} {m : Nat} {a : Act} {w : World} (h : U P rd b Q m a w) : (Code.loop b).wpIn (WR rd) 0 P Q a w := by
  refine wpIn_loop (fun a w => ∃ m, U P rd b Q m a w) (fun a w => if h : ∃ m, U P rd b Q m a w then Classical.choose (least h) else 0) ⟨m, h⟩ fun a w hI => ?_
  have hs := Classical.choose_spec (least hI)
  simp only [dif_pos hI]
  generalize Classical.choose (least hI) = k at hs
  obtain ⟨h1, _⟩ := hs
  cases k with
  | zero => exact h1.elim
  | succ k =>
    refine wpIn_mono h1 (fun e a' w' q => ?_)
    cases e with
    | normal =>
      have q : U P rd b Q k a' w' := q
      refine ⟨⟨k, q⟩, ?_⟩
      have hI' : ∃ m, U P rd b Q m a' w' := ⟨k, q⟩
      simp only [dif_pos hI']
      have := (Classical.choose_spec (least hI')).2 k q
      omega
    | _ => exact q
theorem ins_get : ∀ (vs : List V) (i : Nat) (ts : T V) (t : Nat) (v : V), (ins vs i ts).get t = some v → (i ≤ t ∧ vs[t - i]? = some v) ∨ ts.get t = some v
  | [], _, _, _, _, h => .inr h
  | u :: vs, i, ts, t, v, h => by
    rw [ins] at h
    rcases ins_get vs (i + 1) _ t v h with ⟨h1, h2⟩ | h1
    · refine .inl ⟨by omega, ?_⟩
      rw [show t - i = (t - (i + 1)) + 1 by omega]
      exact h2
    · rcases T.set_get h1 with ⟨rfl, e⟩ | ⟨_, e⟩
      · injection e with e
        subst e
        exact .inl ⟨Nat.le_refl _, by simp⟩
      · exact .inr e
def rv (a : Act) : ResultVar → Sem Value
  | .tmp t => pure (a.tmps.getD t undef)
  | .cell b t => do loadVar t (← asAddr (a.tmps.getD b undef))
theorem xrs_ok {ts : T V} {a : Act} (hr : Rel G base j M w) (hg : G ≤ n) (hb : base ≤ w.heap.size) (hT : ∀ t v, ts.get t = some v → ∃ y, a.tmps[t]? = some y ∧ VR j v y) : ∀ {l : List ResultVar} {vs : List V}, xrs P ts M l = some vs →
    ∃ ys : List Value, VRs j vs ys ∧ (l.mapM (rv a)).run P w = .ok ys w
  | [], vs, h => by injection h with h; subst h; exact ⟨[], .nil j, rfl⟩
  | .tmp t :: l, vs, h => by
    unfold xrs at h
    split at h
    · rename_i v us h1 h2
      injection h with h
      subst h
      obtain ⟨ys, k1, k2⟩ := xrs_ok hr hg hb hT h2
      obtain ⟨y, p1, p2⟩ := hT t v h1
      refine ⟨y :: ys, .cons p2 k1, ?_⟩
      rw [List.mapM_cons]
      simp [rv, Array.getD_eq_getD_getElem?, p1, k2]
    · cases h
  | .cell b t :: l, vs, h => by
    unfold xrs at h
    split at h
    · rename_i p us h1 h2
      split at h
      · rename_i v hv
        injection h with h
        subst h
        obtain ⟨ys, k1, k2⟩ := xrs_ok hr hg hb hT h2
        obtain ⟨y, p1, p2⟩ := hT b p h1
        obtain ⟨z, q1, q2⟩ := xload_ok (P := P) (n := n) hv ⟨hr, hg, hb⟩ p2
        refine ⟨z :: ys, .cons q2 k1, ?_⟩
        have hz : ∃ ad, y = .pointer (some ad) := by
          unfold xload at hv
          split at hv
          · simp only [VR] at p2
            obtain ⟨l, _, e⟩ := p2
            exact ⟨_, e⟩
          · cases hv
        obtain ⟨ad, rfl⟩ := hz
        have q3 : (loadVar t ad).run P w = .ok z w := by simpa [Instr.loadAt, Instr.sureAddr] using q1
        rw [List.mapM_cons]
        simp [rv, Array.getD_eq_getD_getElem?, p1, k2, asAddr, q3]
      · cases h
    · cases h
theorem run_results {fn : Func} {a : Act} {ys : List Value} (h : (fn.results.toList.mapM (rv a)).run P w = .ok ys w) :
    (results fn a.tmps).run P w = .ok (if h : ys.length = 1 then ys[0] else .tuple ys.toArray) w := by
  have hr : results fn a.tmps = (do let vs ← fn.results.mapM (rv a); pure (if h : vs.size = 1 then vs[0] else .tuple vs)) := by
    unfold results
    congr 1
  rw [hr, Array.mapM_eq_mapM_toList]
  simp [h]
theorem tup_rel {vs : List V} {ys : List Value} (h : VRs j vs ys) : VR j (tup vs) (if h : ys.length = 1 then ys[0] else .tuple ys.toArray) := by
  have hl := h.len
  unfold tup
  split
  · simp only [VRs] at h
    obtain ⟨z, zs, h1, rfl, rfl⟩ := h
    simpa using h1
  · rename_i hne
    have : ¬ ys.length = 1 := fun e => by
      rw [hl] at e
      obtain ⟨v, hv⟩ := List.length_eq_one_iff.1 e
      exact hne v hv
    rw [dif_neg this]
    simp only [VR]
    exact ⟨ys, h, rfl⟩
theorem post_quiet {w' : World} (c : Ctx G base n j M w) (hb : Below w.heap.size w w') : Post G base n n j M w j M w' where
  le := .refl j
  out _ _ := rfl
  rel := ⟨fun id b h1 => let ⟨l, k1, k2⟩ := c.rel.ok id b h1; ⟨l, k1, k2.world (hb.block _ k2.lt)⟩, c.rel.glob, c.rel.own, c.rel.inj⟩
  frm := ⟨hb.os, hb.tape, hb.output, hb.size, fun g hg _ => hb.block g hg⟩
  img id b l h1 h2 := .inl ⟨id, b, l, h1, h2, rfl, fun h => h⟩
/-- A block of no id turned, that was not there at first. -/
theorem post_take {j' : J} {w1 : World} {D : Nat} {o : Obj} (h : Post G base n n' j M w j' M' w1) (hD : w.heap.size ≤ D) (hn : ∀ id b l, M'.get id = some b → j' id = some l → l.g ≠ D) : Post G base n n' j M w j' M' (w1.putObj D o) where
  le := h.le
  out := h.out
  rel := ⟨fun id b hb => let ⟨l, k1, k2⟩ := h.rel.ok id b hb; ⟨l, k1, k2.world (World.putObj_heap_other (hn id b l hb k1))⟩, h.rel.glob, h.rel.own, h.rel.inj⟩
  frm := ⟨h.frm.os, h.frm.tape, h.frm.output, by simpa [World.putObj] using h.frm.size, fun g hg hq => (World.putObj_heap_other (by omega)).trans (h.frm.block g hg hq)⟩
  img := h.img
theorem leavesM {j' : J} {fn : Func} {tmps : Array Value} {R : Ending → World → Prop} {u : FrameMode} (hu : u ≠ .run) : ∀ (L : List Nat) (w1 : World), Post G base n n' j M w j' M' w1 → L.Nodup →
    (∀ D, D ∈ L → w.heap.size ≤ D ∧ w1.heap[D]? = some (.deferred (some [])) ∧ ∀ id b l, M'.get id = some b → j' id = some l → l.g ≠ D) →
    (∀ w2, Post G base n n' j M w j' M' w2 → LeavesInM Fence.wide 0 P fn tmps R [] u w2) → LeavesInM Fence.wide 0 P fn tmps R (L.map mark) u w1
  | [], w1, hp, _, _, hf => hf w1 hp
  | D :: L, w1, hp, hnd, hL, hf => by
    obtain ⟨k0, k1, k2⟩ := hL D (by simp)
    obtain ⟨n1, n2⟩ := List.nodup_cons.1 hnd
    refine ⟨hu, .inl ⟨D, w1.putObj D (.deferred none), rfl, run_takeDeferred k1, leavesM hu L _ (post_take hp k0 k2) n2 (fun E hE => ?_) hf⟩⟩
    obtain ⟨e0, e1, e2⟩ := hL E (by simp [hE])
    exact ⟨e0, (World.putObj_heap_other (fun e => by subst e; exact n1 hE)).trans e1, e2⟩
theorem insP_ok : ∀ {ps : List Tmp} {vs : List V} {ys : List Value} {ts ts0 : T V} {tmps : Array Value}, insP nt ps vs ts = some ts0 → VRs j vs ys → tmps.size = nt → (∀ t v, ts.get t = some v → ∃ y, tmps[t]? = some y ∧ VR j v y) →
    ys.length = ps.length ∧ ((ps.zip ys).foldl (fun tmps (t, a) => tmps.setIfInBounds t a) tmps).size = nt ∧ ∀ t v, ts0.get t = some v → ∃ y, ((ps.zip ys).foldl (fun tmps (t, a) => tmps.setIfInBounds t a) tmps)[t]? = some y ∧ VR j v y
  | [], [], ys, ts, ts0, tmps, h, hv, hs, hr => by
    injection h with h
    subst h
    simp only [VRs] at hv
    subst hv
    exact ⟨rfl, hs, hr⟩
  | p :: ps, v :: vs, ys, ts, ts0, tmps, h, hv, hs, hr => by
    simp only [VRs] at hv
    obtain ⟨y, zs, h1, h2, rfl⟩ := hv
    unfold insP at h
    split at h
    · rename_i hp
      rw [Nat.blt_eq] at hp
      obtain ⟨k1, k2, k3⟩ := insP_ok (tmps := tmps.setIfInBounds p y) h h2 (by simpa using hs) (fun t u ht => by
        rcases T.set_get ht with ⟨rfl, e⟩ | ⟨hne, e⟩
        · injection e with e
          subst e
          exact ⟨y, by simp [hs, hp], h1⟩
        · obtain ⟨z, e1, e2⟩ := hr t u e
          exact ⟨z, by rw [Array.getElem?_setIfInBounds_ne (Ne.symm hne)]; exact e1, e2⟩)
      exact ⟨by simp [k1], k2, k3⟩
    · cases h
  | [], _ :: _, _, _, _, _, h, _, _, _ => by cases h
  | _ :: _, [], _, _, _, _, h, _, _, _ => by cases h
theorem loopAt {id : Nat} {l : Loc} {st : LoopState} {pd : Option Code} {ts : T V} {nx : Nat} {ps : List Tmp} {asg body : Code} (c : Rel G base j M w) (hM : M.get id = some (.lp st pd ts nx ps asg body)) (hl : j id = some l) :
    ∃ fn tmps D, w.heap[l.g]? = some (.loop { state := st, pending := pd, fn, tmps, params := ps.toArray, assign := asg, body, defers := D }) ∧ tmps.size = nx ∧ ∀ t v, ts.get t = some v → ∃ y, tmps[t]? = some y ∧ VR j v y := by
  obtain ⟨l', k1, k2⟩ := c.ok id _ hM
  rw [hl] at k1
  injection k1 with k1
  subst k1
  exact k2
/-- A range over a function, its state turned. -/
theorem post_loop {id : Nat} {l : Loc} {st st' : LoopState} {pd pd' : Option Code} {ts : T V} {nx : Nat} {ps : List Tmp} {asg body : Code} {fn : FuncId} {tmps : Array Value} {D : Nat} (c : Rel G base j M w) (hM : M.get id = some (.lp st pd ts nx ps asg body)) (hl : j id = some l) (hG : G ≤ id)
    (hh : w.heap[l.g]? = some (.loop { state := st, pending := pd, fn, tmps, params := ps.toArray, assign := asg, body, defers := D })) (hs : tmps.size = nx) (hr : ∀ t v, ts.get t = some v → ∃ y, tmps[t]? = some y ∧ VR j v y) :
    Post G base n n j M w j (T.set 24 M id (some (.lp st' pd' ts nx ps asg body))) (w.putObj l.g (.loop { state := st', pending := pd', fn, tmps, params := ps.toArray, assign := asg, body, defers := D })) :=
  post_turn c hM hl hG rfl rfl rfl (by simp [World.putObj]) (fun g hg => World.putObj_heap_other hg) ⟨fn, tmps, D, World.putObj_heap_same (Array.getElem?_eq_some_iff.1 hh).1, hs, hr⟩
theorem finR_ok {id : Nat} {jump : Option Code} {r : Rs} (h : finR id jump M n = some r) : n = r.n ∧ ∀ j w l, Rel G base j M w → j id = some l → G ≤ id →
    ∃ v w', (Instr.endRound l.g jump).run P w = .ok v w' ∧ Post G base n n j M w j r.M w' ∧ EndR j r (.returned v) := by
  unfold finR at h
  split at h
  · rename_i st pd ts nx ps asg body hM
    injection h with h
    subst h
    refine ⟨rfl, fun j w l c hl hG => ?_⟩
    obtain ⟨fn, tmps, D, h1, h2, h3⟩ := loopAt c hM hl
    refine ⟨_, _, run_endRound jump h1, ?_, _, rfl, by simp only [VR]⟩
    have := post_loop (n := n) (st' := stJ jump) (pd' := jump) c hM hl hG h1 h2 h3
    cases jump <;> exact this
  · cases h
theorem rnd_ok {run : RunT} (hc : CodeOk P G base run) {id : Nat} {vs : List V} {M : H} {n : Nat} {r : Rs} (h : rnd G run id vs M n = some r) :
    n ≤ r.n ∧ ∀ j w ys, Ctx G base n j M w → Free n r.n j → VRs j vs ys → ∀ l, j id = some l → YieldAt Fence.wide 0 P l.g ys.toArray w fun e w' => ∃ j', Post G base n r.n j M w j' r.M w' ∧ EndR j' r e := by
  unfold rnd at h
  split at h
  case h_2 => cases h
  rename_i pd ts nx ps asg body hM hG
  have hG := Nat.le_of_ble_eq_true hG
  split at h
  case h_2 => cases h
  rename_i ts0 fa fb hins
  split at h
  case h_2 => cases h
  rename_i ts1 M1 n1 hr1
  split at h
  case h_2 => cases h
  rename_i pd1 tx nx1 px ax bx hM1
  obtain ⟨a1, a2, _⟩ := hc _ _ _ _ _ _ _ _ _ hr1
  -- what the body tells
  have key : ∀ ex ts2 M2 n2 jump, run body nx ts1 (T.set 24 M1 id (some (.lp .busy pd1 tx nx1 px ax bx))) n1 = some (ex, ts2, M2, n2) → finR id jump M2 n2 = some r →
      (∀ l w R a, (∃ v w', (Instr.endRound l jump).run P w = .ok v w' ∧ R (.returned v) w') → ∀ j' e, ExR j' ex e → roundPost P l R e a w) →
      n ≤ r.n ∧ ∀ j w ys, Ctx G base n j M w → Free n r.n j → VRs j vs ys → ∀ l, j id = some l → YieldAt Fence.wide 0 P l.g ys.toArray w fun e w' => ∃ j', Post G base n r.n j M w j' r.M w' ∧ EndR j' r e := by
    intro ex ts2 M2 n2 jump hr2 hf hx
    obtain ⟨b1, b2, _⟩ := hc _ _ _ _ _ _ _ _ _ hr2
    obtain ⟨f1, f2⟩ := finR_ok (P := P) (G := G) (base := base) hf
    refine ⟨by omega, fun j w ys c hfr hv l hl => ?_⟩
    obtain ⟨fn, tmps, D, h1, h2, h3⟩ := loopAt c.rel hM hl
    obtain ⟨p1, p2, p3⟩ := insP_ok (tmps := tmps) hins hv h2 h3
    refine ⟨fn, _, asg, body, run_yield (args := ys.toArray) h1 (by simp [p1]), roundIn_of_wpIn trivial ?_⟩
    have hz : (ps.toArray.zip ys.toArray).foldl (fun tmps (x : Tmp × Value) => tmps.setIfInBounds x.1 x.2) tmps = (ps.zip ys).foldl (fun tmps (x : Tmp × Value) => tmps.setIfInBounds x.1 x.2) tmps := by simp
    refine a2 w.heap.size (some l.g) j w _ [] (.inr fa) c (hfr.sub (by omega)) ⟨?_, rfl, fun t v ht => ?_⟩ ⟨Nat.le_refl _, [], rfl, List.nodup_nil, fun D hD => by cases hD⟩ _ fun e a' w1 hL => ?_
    · exact (congrArg Array.size hz).trans p2
    · obtain ⟨y, q1, q2⟩ := p3 t v ht
      exact ⟨y, (congrArg (·[t]?) hz).trans q1, q2⟩
    obtain ⟨j1, d1, hp1, hx1, hT1, hk1⟩ := hL
    simp only [ExR] at hx1
    subst hx1
    have c1 := c.post hp1 a1
    have hl1 := hp1.le _ _ hl
    obtain ⟨fn1, tmps1, D1, g1, g2, g3⟩ := loopAt c1.rel hM1 hl1
    have hp2 := post_loop (n := n1) (st' := .busy) (pd' := pd1) c1.rel hM1 hl1 hG g1 g2 g3
    have c2 := c1.post hp2 (Nat.le_refl _)
    have hfr1 := hfr.after hp1.out a1
    refine ⟨_, run_beginRound g1 rfl, ?_⟩
    refine b2 w.heap.size (some l.g) j1 _ a' d1 (.inr fb) c2 (hfr1.sub (by omega)) hT1 (hk1.post hp2) _ fun e2 a2' w2 hL2 => ?_
    obtain ⟨j2, d2, hp3, hx2, _, _⟩ := hL2
    have c3 := c2.post hp3 b1
    obtain ⟨v, w3, e1, e2', e3⟩ := f2 j2 w2 l c3.rel (hp3.le _ _ hl1) hG
    refine hx l.g w2 _ _ ⟨v, w3, e1, j2, ?_, e3⟩ j2 e2 hx2
    have := (((hp1.trans hp2 a1 (Nat.le_refl _)).trans hp3 a1 b1).trans e2' (Nat.le_trans a1 b1) (Nat.le_refl _))
    rwa [f1] at this
  split at h
  · rename_i ts2 M2 n2 hr2
    exact key _ _ _ _ _ hr2 h fun l w R a hq j' e he => by simp only [ExR] at he; subst he; exact hq
  · rename_i k ts2 M2 n2 hr2
    exact key _ _ _ _ _ hr2 h fun l w R a hq j' e he => by simp only [ExR] at he; subst he; exact hq
  · rename_i ts2 M2 n2 hr2
    exact key _ _ _ _ _ hr2 h fun l w R a hq j' e he => by simp only [ExR] at he; subst he; exact hq
  · cases h
theorem callB_ok {run : RunT} (hc : CodeOk P G base run) : CallOk P G base (callB P G run) where
  yd id vs M n r h := rnd_ok hc h
  fn f vs M n r h := by
    unfold callB at h
    simp only at h
    split at h
    · cases h
    · rename_i fn hf
      split at h
      · rename_i c hn hb
        have key : ∀ ex ts M' n', run c (vs.length + (fn.ntmps - vs.length)) (ins vs 0 .e) M n = some (ex, ts, M', n') → n ≤ n' ∧ ∀ j w ys, Ctx G base n j M w → Free n n' j → VRs j vs ys → ∀ R : Ending → World → Prop,
            (∀ e (a : Act) w' j' w2, Post G base n n' j M w j' M' w' → Post G base n n' j M w j' M' w2 → ExR j' ex e → (∀ t v, ts.get t = some v → ∃ y, a.tmps[t]? = some y ∧ VR j' v y) → bodyPostM Fence.wide 0 P fn R e { a with defers := [] } w2) → Calls P f ys.toArray w R := fun ex ts M' n' hr => by
          obtain ⟨h1, h2, _⟩ := hc _ _ _ _ _ _ _ _ _ hr
          refine ⟨h1, fun j w ys c hfr hv R hR => callsIn_wide.1 (callsIn_of_wp_marks (n := 0) hf hb trivial (h2 w.heap.size none j w _ [] (.inl rfl) c hfr ⟨?_, rfl, fun t v ht => ?_⟩ ⟨Nat.le_refl _, [], rfl, List.nodup_nil, fun D hD => by cases hD⟩ _ fun e a w' hL => ?_))⟩
          · simp [hv.len]
          · rcases ins_get _ _ _ _ _ ht with ⟨_, h3⟩ | h3
            · obtain ⟨y, h4, h5⟩ := hv.at_ h3
              refine ⟨y, ?_, h5⟩
              rw [Array.getElem?_append_left (by have := (List.getElem?_eq_some_iff.1 h4).1; simpa using this)]
              simpa using h4
            · cases h3
          · obtain ⟨j', d', hp, hx, hT, _, L, hL1, hL2, hL3⟩ := hL
            have hgo := fun w2 hp2 => hR e a w' j' w2 hp hp2 hx hT.rd
            have hd : a.defers = L.map mark := hT.ds.trans hL1
            cases e with
            | normal =>
              show LeavesInM Fence.wide 0 P fn a.tmps R a.defers .returning w'
              rw [hd]
              exact leavesM (by simp) L w' hp hL2 hL3 hgo
            | ret =>
              show LeavesInM Fence.wide 0 P fn a.tmps R a.defers .returning w'
              rw [hd]
              exact leavesM (by simp) L w' hp hL2 hL3 hgo
            | panic ch =>
              show LeavesInM Fence.wide 0 P fn a.tmps R a.defers (.panicking ch) w'
              rw [hd]
              exact leavesM (by simp) L w' hp hL2 hL3 hgo
            | outgrown => exact hgo w' hp
            | exit id => exact hgo w' hp
            | goto t => exact hgo w' hp
        have ent : Enters P f := ⟨fn, c, hf, hn, hb⟩
        split at h
        · rename_i ts M' n' hr
          split at h
          · rename_i rs hrs
            injection h with h
            subst h
            obtain ⟨h1, h2⟩ := key _ _ _ _ hr
            refine ⟨ent, h1, fun j w ys cx hfr hv => h2 j w ys cx hfr hv _ fun e a w' j' w2 _ hp hx hT => ?_⟩
            simp only [ExR] at hx
            subst hx
            have cx' := cx.post hp h1
            obtain ⟨zs, k1, k2⟩ := xrs_ok (P := P) cx'.rel cx'.g cx'.base hT hrs
            exact ⟨_, run_results k2, j', hp, _, rfl, tup_rel k1⟩
          · cases h
        · rename_i ts M' n' hr
          split at h
          · rename_i rs hrs
            injection h with h
            subst h
            obtain ⟨h1, h2⟩ := key _ _ _ _ hr
            refine ⟨ent, h1, fun j w ys cx hfr hv => h2 j w ys cx hfr hv _ fun e a w' j' w2 _ hp hx hT => ?_⟩
            simp only [ExR] at hx
            subst hx
            have cx' := cx.post hp h1
            obtain ⟨zs, k1, k2⟩ := xrs_ok (P := P) cx'.rel cx'.g cx'.base hT hrs
            exact ⟨_, run_results k2, j', hp, _, rfl, tup_rel k1⟩
          · cases h
        · rename_i v ts M' n' hr
          injection h with h
          subst h
          obtain ⟨h1, h2⟩ := key _ _ _ _ hr
          refine ⟨ent, h1, fun j w ys cx hfr hv => h2 j w ys cx hfr hv _ fun e a w' j' w2 _ hp hx hT => ?_⟩
          obtain ⟨y, rfl, hy⟩ := hx
          exact ⟨j', hp, y, rfl, hy⟩
        · cases h
      · cases h
def HookOk (P : Program) (G base : Nat) (hook : CallT → CallT) : Prop := ∀ call, CallOk P G base call → CallOk P G base (hook call)
theorem callF_ok {run : RunT} {hook : CallT → CallT} (hc : CodeOk P G base run) (hh : HookOk P G base hook) : CallOk P G base (callF P G hook run) where
  fn f vs M n r h := by
    unfold callF at h
    split at h
    · rename_i r' hr
      injection h with h
      subst h
      exact (hh _ (callB_ok hc)).fn f vs M n _ hr
    · exact (callB_ok hc).fn f vs M n r h
  yd id vs M n r h := by
    unfold callF at h
    split at h
    · rename_i r' hr
      injection h with h
      subst h
      exact (hh _ (callB_ok hc)).yd id vs M n _ hr
    · exact (callB_ok hc).yd id vs M n r h
/-- What a region in any order owes. -/
def AnyOk (P : Program) (G base : Nat) (ext : ExtT) : Prop :=
  ∀ call, CallOk P G base call → ∀ nt ops ts M n ex ts' M' n', anyR P G call ext nt ops ts M n = some (ex, ts', M', n') → n ≤ n' ∧ ∀ rd j w a d0, Ctx G base n j M w → Free n n' j → TR d0 j ts nt a →
    ∀ Q : Exit → Act → World → Prop, (∀ e a' w', Left0 d0 G base n j M w nt ex ts' M' n' e a' w' → Q e a' w') → ∀ id, (Code.region id ops true).wpIn (WR rd) 0 P Q a w
theorem mark_inj : ∀ {L L' : List Nat}, L.map mark = L'.map mark → L = L'
  | [], [], _ => rfl
  | [], _ :: _, h => by cases h
  | _ :: _, [], h => by cases h
  | x :: xs, y :: ys, h => by
    injection h with h1 h2
    injection h1 with h1
    injection h1 with h1
    rw [h1, mark_inj h2]
theorem flat2 {a b : Bool} (h : (a && b) = true) : a = true ∧ b = true := by simpa using h
theorem step_ok {run : RunT} {hook : CallT → CallT} (hc : CodeOk P G base run) (hh : HookOk P G base hook) (he : ExtOk P ext) (ha : AnyOk P G base ext) : CodeOk P G base (step P G hook ext run) := by
  intro c nt ts M n ex ts' M' n' h
  have same : ∀ {ex0 : Ex}, some (ex0, ts, M, n) = some (ex, ts', M', n') → n ≤ n' ∧ ∀ B0 j w a d0, Ctx G base n j M w → Free n n' j → TR d0 j ts nt a → Mk B0 j M w d0 → ∀ e0, ExR j ex0 e0 → Left B0 G base n j M w nt ex ts' M' n' e0 a w := fun q => by
    injection q with q
    injection q with e1 q
    injection q with e2 q
    injection q with e3 e4
    subst e1; subst e2; subst e3; subst e4
    exact ⟨Nat.le_refl _, fun B0 j w a d0 cx _ hT hk e0 he0 => ⟨j, d0, .refl cx.rel _, he0, hT, hk⟩⟩
  have hcall := callF_ok (hook := hook) hc hh
  unfold step at h
  split at h
  · obtain ⟨h1, h2⟩ := same h
    exact ⟨h1, fun B0 rd j w a d0 fl cx hf hT mk0 Q hQ => wpIn_skip (hQ _ _ _ (h2 B0 j w a d0 cx hf hT mk0 .normal rfl)), fun b e => by cases e⟩
  · obtain ⟨h1, h2⟩ := same h
    exact ⟨h1, fun B0 rd j w a d0 fl cx hf hT mk0 Q hQ => wpIn_label (hQ _ _ _ (h2 B0 j w a d0 cx hf hT mk0 .normal rfl)), fun b e => by cases e⟩
  · have hs := fun rd d0 => seqR_ok (rd := rd) (d0 := d0) (base := base) hcall he _ _ _ _ _ _ _ _ _ h
    have h1 := (hs none []).1
    have h2 := fun rd d0 => (hs rd d0).2
    exact ⟨h1, fun B0 rd j w a d0 fl cx hf hT mk0 Q hQ => wpIn_region_list (h2 rd d0 j w a cx hf hT Q fun e a' w' hL => hQ e a' w' (hL.left mk0)), fun b e => by cases e⟩
  · obtain ⟨h1, h2⟩ := ha _ hcall _ _ _ _ _ _ _ _ _ h
    exact ⟨h1, fun B0 rd j w a d0 fl cx hf hT mk0 Q hQ => h2 rd j w a d0 cx hf hT Q (fun e a' w' hL => hQ e a' w' (hL.left mk0)) _, fun b e => by cases e⟩
  · -- seq
    rename_i x y
    split at h
    · rename_i ts1 M1 n1 hx
      obtain ⟨h1, h2⟩ := hc _ _ _ _ _ _ _ _ _ hx
      obtain ⟨h3, h4⟩ := hc _ _ _ _ _ _ _ _ _ h
      refine ⟨Nat.le_trans h1 h3, fun B0 rd j w a d0 fl cx hf hT mk0 Q hQ => wpIn_seq (h2.1 B0 rd j w a d0 (fl.imp id fun f => (flat2 f).1) cx (hf.sub h3) hT mk0 _ fun e a' w' hL => ?_), fun b e => by cases e⟩
      obtain ⟨j', d', hp, hx', hT', hk'⟩ := hL
      simp only [ExR] at hx'
      subst hx'
      exact h4.1 B0 rd j' w' a' d' (fl.imp id fun f => (flat2 f).2) (cx.post hp h1) (hf.after hp.out h1) hT' hk' Q fun e a2 w2 ⟨j2, d2, p1, p2, p3, p4⟩ => hQ e a2 w2 ⟨j2, d2, hp.trans p1 h1 h3, p2, p3, p4⟩
    · rename_i hne
      obtain ⟨h1, h2⟩ := hc _ _ _ _ _ _ _ _ _ h
      refine ⟨h1, fun B0 rd j w a d0 fl cx hf hT mk0 Q hQ => wpIn_seq (h2.1 B0 rd j w a d0 (fl.imp id fun f => (flat2 f).1) cx hf hT mk0 _ fun e a' w' hL => ?_), fun b e => by cases e⟩
      have hQ' := hQ e a' w' hL
      obtain ⟨j', d', hp, hx', hT', hk'⟩ := hL
      cases ex with
      | n => exact absurd h (hne _ _ _)
      | x id => simp only [ExR] at hx'; subst hx'; exact hQ'
      | r => simp only [ExR] at hx'; subst hx'; exact hQ'
      | p v => obtain ⟨y, rfl, _⟩ := hx'; exact hQ'
  · -- cond
    rename_i o x y
    split at h
    · rename_i hv
      obtain ⟨h1, h2⟩ := hc _ _ _ _ _ _ _ _ _ h
      refine ⟨h1, fun B0 rd j w a d0 fl cx hf hT mk0 Q hQ => wpIn_cond_true ?_ (h2.1 B0 rd j w a d0 (fl.imp id fun f => (flat2 f).1) cx hf hT mk0 Q hQ), fun b e => by cases e⟩
      have := opd_ok (a := a) hv cx.rel hT.rd
      simpa only [VR] using this
    · rename_i hv
      obtain ⟨h1, h2⟩ := hc _ _ _ _ _ _ _ _ _ h
      refine ⟨h1, fun B0 rd j w a d0 fl cx hf hT mk0 Q hQ => wpIn_cond_false ?_ (h2.1 B0 rd j w a d0 (fl.imp id fun f => (flat2 f).2) cx hf hT mk0 Q hQ), fun b e => by cases e⟩
      have := opd_ok (a := a) hv cx.rel hT.rd
      simpa only [VR] using this
    · cases h
  · -- block
    rename_i id b
    split at h
    · rename_i k ts1 M1 n1 hx
      obtain ⟨h1, h2⟩ := hc _ _ _ _ _ _ _ _ _ hx
      split at h
      · rename_i hk
        have hk := Nat.eq_of_beq_eq_true hk
        injection h with h
        injection h with e1 h
        injection h with e2 h
        injection h with e3 e4
        subst e1; subst e2; subst e3; subst e4
        refine ⟨h1, fun B0 rd j w a d0 fl cx hf hT mk0 Q hQ => wpIn_block (h2.1 B0 rd j w a d0 fl cx hf hT mk0 _ fun e a' w' hL => ?_), fun b e => by cases e⟩
        obtain ⟨j', d', hp, hx', hT', hk'⟩ := hL
        simp only [ExR] at hx'
        subst hx'
        simp only [Exit.inBlock, hk, if_true]
        exact hQ _ _ _ ⟨j', d', hp, rfl, hT', hk'⟩
      · rename_i hk
        have hk : ¬ k = id := fun e => by subst e; rw [Nat.beq_refl] at hk; cases hk
        injection h with h
        injection h with e1 h
        injection h with e2 h
        injection h with e3 e4
        subst e1; subst e2; subst e3; subst e4
        refine ⟨h1, fun B0 rd j w a d0 fl cx hf hT mk0 Q hQ => wpIn_block (h2.1 B0 rd j w a d0 fl cx hf hT mk0 _ fun e a' w' hL => ?_), fun b e => by cases e⟩
        have hQ' := hQ e a' w' hL
        obtain ⟨j', d', hp, hx', hT', hk'⟩ := hL
        simp only [ExR] at hx'
        subst hx'
        simp only [Exit.inBlock, hk, if_false]
        exact hQ'
    · rename_i hne
      obtain ⟨h1, h2⟩ := hc _ _ _ _ _ _ _ _ _ h
      refine ⟨h1, fun B0 rd j w a d0 fl cx hf hT mk0 Q hQ => wpIn_block (h2.1 B0 rd j w a d0 fl cx hf hT mk0 _ fun e a' w' hL => ?_), fun b e => by cases e⟩
      have hQ' := hQ e a' w' hL
      obtain ⟨j', d', hp, hx', hT', hk'⟩ := hL
      cases ex with
      | n => simp only [ExR] at hx'; subst hx'; exact hQ'
      | x k => exact absurd h (hne _ _ _ _)
      | r => simp only [ExR] at hx'; subst hx'; exact hQ'
      | p v => obtain ⟨y, rfl, _⟩ := hx'; exact hQ'
  · -- loop
    rename_i b
    split at h
    · rename_i ts1 M1 n1 hx
      obtain ⟨h1, h2, _⟩ := hc _ _ _ _ _ _ _ _ _ hx
      obtain ⟨h3, _, h4⟩ := hc _ _ _ _ _ _ _ _ _ h
      obtain ⟨m, h4⟩ := h4 b rfl
      have hU : ∀ B0 rd j w a d0, (rd = none ∨ flat (.loop b) = true) → Ctx G base n j M w → Free n n' j → TR d0 j ts nt a → Mk B0 j M w d0 → ∀ Q : Exit → Act → World → Prop, (∀ e a' w', Left B0 G base n j M w nt ex ts' M' n' e a' w' → Q e a' w') → U P rd b Q (m + 1) a w := fun B0 rd j w a d0 fl cx hf hT mk0 Q hQ => by
        refine h2 B0 rd j w a d0 fl cx (hf.sub h3) hT mk0 _ fun e a' w' hL => ?_
        obtain ⟨j', d', hp, hx', hT', hk'⟩ := hL
        simp only [ExR] at hx'
        subst hx'
        exact h4 B0 rd j' w' a' d' fl (cx.post hp h1) (hf.after hp.out h1) hT' hk' Q fun e a2 w2 ⟨j2, d2, p1, p2, p3, p4⟩ => hQ e a2 w2 ⟨j2, d2, hp.trans p1 h1 h3, p2, p3, p4⟩
      exact ⟨Nat.le_trans h1 h3, fun B0 rd j w a d0 fl cx hf hT mk0 Q hQ => loop_U (hU B0 rd j w a d0 fl cx hf hT mk0 Q hQ), fun b' e => by injection e with e; subst e; exact ⟨m + 1, hU⟩⟩
    · rename_i hne
      obtain ⟨h1, h2, _⟩ := hc _ _ _ _ _ _ _ _ _ h
      have hU : ∀ B0 rd j w a d0, (rd = none ∨ flat (.loop b) = true) → Ctx G base n j M w → Free n n' j → TR d0 j ts nt a → Mk B0 j M w d0 → ∀ Q : Exit → Act → World → Prop, (∀ e a' w', Left B0 G base n j M w nt ex ts' M' n' e a' w' → Q e a' w') → U P rd b Q 1 a w := fun B0 rd j w a d0 fl cx hf hT mk0 Q hQ => by
        refine h2 B0 rd j w a d0 fl cx hf hT mk0 _ fun e a' w' hL => ?_
        have hQ' := hQ e a' w' hL
        obtain ⟨j', d', hp, hx', hT', hk'⟩ := hL
        cases ex with
        | n => exact absurd h (hne _ _ _)
        | x k => simp only [ExR] at hx'; subst hx'; exact hQ'
        | r => simp only [ExR] at hx'; subst hx'; exact hQ'
        | p v => obtain ⟨y, rfl, _⟩ := hx'; exact hQ'
      exact ⟨h1, fun B0 rd j w a d0 fl cx hf hT mk0 Q hQ => loop_U (hU B0 rd j w a d0 fl cx hf hT mk0 Q hQ), fun b' e => by injection e with e; subst e; exact ⟨1, hU⟩⟩
  · obtain ⟨h1, h2⟩ := same h
    exact ⟨h1, fun B0 rd j w a d0 fl cx hf hT mk0 Q hQ => wpIn_exit (hQ _ _ _ (h2 B0 j w a d0 cx hf hT mk0 (.exit _) rfl)), fun b e => by cases e⟩
  · obtain ⟨h1, h2⟩ := same h
    exact ⟨h1, fun B0 rd j w a d0 fl cx hf hT mk0 Q hQ => wpIn_ret (hQ _ _ _ (h2 B0 j w a d0 cx hf hT mk0 .ret rfl)), fun b e => by cases e⟩
  · -- range over a function
    rename_i g ps asg body
    split at h
    case h_2 => cases h
    rename_i f cs hg
    split at h
    case h_2 => cases h
    rename_i v M1 n1 hcl
    obtain ⟨⟨fn', body', en1, en2, en3⟩, c1, c2⟩ := hcall.fn _ _ _ _ _ hcl
    have c1 : n + 1 ≤ n1 := c1
    have key : ∀ st jump tx nx px ax bx, M1.get n = some (.lp st jump tx nx px ax bx) → st ≠ .busy → n1 = n' → M' = T.set 24 M1 n (some (.lp .exhausted jump tx nx px ax bx)) → ts = ts' →
        (∀ Q : Exit → Act → World → Prop, ∀ a w, (∀ e, (∀ j, ExR j ex e) → Q e a w) → match (jump : Option Code) with | none => Q .normal a w | some c => c.wpIn (WR none) 0 P Q a w) →
        n ≤ n' ∧ (∀ B0 rd j w a d0, (rd = none ∨ flat (.rangeFunc g ps asg body) = true) → Ctx G base n j M w → Free n n' j → TR d0 j ts nt a → Mk B0 j M w d0 → ∀ Q : Exit → Act → World → Prop, (∀ e a' w', Left B0 G base n j M w nt ex ts' M' n' e a' w' → Q e a' w') → (Code.rangeFunc g ps asg body).wpIn (WR rd) 0 P Q a w) ∧
        ∀ b, Code.rangeFunc g ps asg body = .loop b → ∃ m, ∀ B0 rd j w a d0, (rd = none ∨ flat (.rangeFunc g ps asg body) = true) → Ctx G base n j M w → Free n n' j → TR d0 j ts nt a → Mk B0 j M w d0 → ∀ Q : Exit → Act → World → Prop, (∀ e a' w', Left B0 G base n j M w nt ex ts' M' n' e a' w' → Q e a' w') → U P rd b Q m a w := by
      intro st jump tx nx px ax bx hM1 hst e1 e2 e3 hj
      subst e1; subst e2; subst e3
      refine ⟨by omega, fun B0 rd j w a d0 fl cx hf hT mk0 Q hQ => ?_, fun b e => by cases e⟩
      have hrd : rd = none := fl.resolve_right (by simp [flat])
      subst hrd
      refine wpIn_rangeFunc fun fn _ => ?_
      obtain ⟨ycs, y1, y2⟩ : ∃ ycs, VRs j cs ycs ∧ a.eval g = .func (.func f) #[] ycs.toArray := by
        have := opd_ok (a := a) hg cx.rel hT.rd
        simpa only [VR] using this
      -- the record
      have hq := post_quiet cx (w' := w.alloc (.deferred (some []))) ((Below.refl _ w).alloc (Nat.le_refl _) _)
      have cq := cx.post hq (Nat.le_refl _)
      have hjn := hf n (Nat.le_refl _) (by omega)
      have hnew := post_new (n := n) (d := 0) (lim := 0) (o := .loop { state := .ready, pending := none, fn, tmps := a.tmps, params := ps, assign := asg, body, defers := w.heap.size }) (b := .lp .ready none ts nt ps.toList asg body) (M' := T.set 24 M n (some (.lp .ready none ts nt ps.toList asg body))) cq.rel (fun _ _ hb => T.set_get (f := 24) hb) hjn cq.g cq.base
        ⟨fn, a.tmps, w.heap.size, by rw [Array.toArray_toList]; exact World.alloc_heap_new _ _, hT.size, fun t v ht => let ⟨y, k1, k2⟩ := hT.rd t v ht; ⟨y, k1, k2.mono (J.put_le hjn)⟩⟩
      have hs1 : (w.alloc (.deferred (some []))).heap.size = w.heap.size + 1 := by simp
      rw [hs1] at hnew
      have hp1 := hq.trans hnew (Nat.le_refl _) (by omega)
      have cx1 := cx.post hp1 (by omega)
      have hl1 := J.put_at j n ⟨w.heap.size + 1, 0, 0⟩
      have hmk : Mk B0 (j.put n ⟨w.heap.size + 1, 0, 0⟩) (T.set 24 M n (some (.lp .ready none ts nt ps.toList asg body))).get ((w.alloc (.deferred (some []))).alloc (.loop { state := .ready, pending := none, fn, tmps := a.tmps, params := ps, assign := asg, body, defers := w.heap.size })) (mark w.heap.size :: d0) := by
        obtain ⟨m0, L, m1, m2, m3⟩ := mk0.post hp1
        refine ⟨m0, w.heap.size :: L, by rw [m1]; rfl, List.nodup_cons.2 ⟨fun hm => ?_, m2⟩, fun D hD => ?_⟩
        · obtain ⟨_, L', k1, _, k3⟩ := mk0
          have : L' = L := by
            have e : L'.map mark = L.map mark := k1.symm.trans m1
            exact mark_inj e
          subst this
          have := (Array.getElem?_eq_some_iff.1 (k3 _ hm).2.1).1
          omega
        · rcases List.mem_cons.1 hD with rfl | hD
          · refine ⟨mk0.1, ?_, fun id b l hb hl e => ?_⟩
            · exact (Below.heap_alloc _ _ _ (by simp)).trans (World.alloc_heap_new w _)
            · rcases T.set_get hb with ⟨rfl, _⟩ | ⟨hne, hb⟩
              · rw [J.put_at] at hl
                injection hl with hl
                subst hl
                simp only at e
                omega
              · rw [J.put_ne _ hne] at hl
                obtain ⟨l', q1, q2⟩ := cx.rel.ok id b hb
                rw [hl] at q1
                injection q1 with q1
                subst q1
                have := q2.lt
                omega
          · exact m3 D hD
      have hres := c2 (j.put n ⟨w.heap.size + 1, 0, 0⟩) _ (.func (.yield (w.heap.size + 1)) #[] #[] :: ycs) cx1 (fun id i1 i2 => by
          rw [J.put_ne _ (by omega)]
          exact hf id (by omega) i2) (.cons (by simp only [VR]; exact ⟨_, hl1, rfl⟩) (y1.mono (J.put_le hjn)))
      refine ⟨w.heap.size + 1, [mark w.heap.size], ((w.alloc (.deferred (some []))).alloc (.loop { state := .ready, pending := none, fn, tmps := a.tmps, params := ps, assign := asg, body, defers := w.heap.size })), { target := .fn (.func f) ycs.toArray, args := #[.func (.yield (w.heap.size + 1)) #[] #[]] }, ((w.alloc (.deferred (some []))).alloc (.loop { state := .ready, pending := none, fn, tmps := a.tmps, params := ps, assign := asg, body, defers := w.heap.size })), f, #[.func (.yield (w.heap.size + 1)) #[] #[]] ++ ycs.toArray, ((w.alloc (.deferred (some []))).alloc (.loop { state := .ready, pending := none, fn, tmps := a.tmps, params := ps, assign := asg, body, defers := w.heap.size })), run_enterLoop_outer _ _ _ _ _, ?_, fun _ _ => trivial, ?_, fun q => (by cases q), ?_⟩
      · simp only [resolve, y2]
        simp [Deferred.ofValue, Act.eval]
      · have en2' : ¬ fn'.name = "runtime.NumGoroutine" := by simpa using en2
        simp [invoke, callFunc, en1, en2', en3]
      · have hargs : (Value.func (.yield (w.heap.size + 1)) #[] #[] :: ycs).toArray = #[.func (.yield (w.heap.size + 1)) #[] #[]] ++ ycs.toArray := by apply Array.ext'; simp
        rw [hargs] at hres
        refine callsIn_wide.2 (hres.mono fun e w3 hq => ?_)
        obtain ⟨j3, hp2, y, rfl, _⟩ := hq
        have cx3 := cx1.post hp2 c1
        have hl3 := hp2.le _ _ hl1
        obtain ⟨fn1, tmps1, D1, g1, g2, g3⟩ := loopAt cx3.rel hM1 hl3
        have hp3 := post_loop (n := n1) (st' := .exhausted) (pd' := jump) cx3.rel hM1 hl3 cx.g g1 g2 g3
        have hend := run_endLoop (P := P) g1 hst
        refine ⟨jump, _, hend, ?_⟩
        have hfin := fun e he => hQ e { a with defers := mark w.heap.size :: d0 } _ ⟨j3, mark w.heap.size :: d0, (hp1.trans hp2 (by omega) c1).trans hp3 (by omega) (Nat.le_refl _), he, ⟨hT.size, rfl, fun t v ht => let ⟨y, k1, k2⟩ := hT.rd t v ht; ⟨y, k1, (k2.mono (J.put_le hjn)).mono hp2.le⟩⟩, (hmk.post hp2).post hp3⟩
        have := hj Q { a with defers := mark w.heap.size :: d0 } (w3.putObj (w.heap.size + 1) (.loop { state := .exhausted, pending := jump, fn := fn1, tmps := tmps1, params := px.toArray, assign := ax, body := bx, defers := D1 })) (fun e he => hfin e (he j3))
        rw [show [mark w.heap.size] ++ a.defers = mark w.heap.size :: d0 by rw [hT.ds]; rfl]
        cases jump <;> exact this
    split at h
    · rename_i tx nx px ax bx hM1
      injection h with h
      injection h with e1 h
      injection h with e2 h
      injection h with e3 e4
      subst e1
      exact key _ _ _ _ _ _ _ hM1 (by simp) e4 e3.symm e2 fun Q a w hq => hq .normal fun _ => rfl
    · rename_i k tx nx px ax bx hM1
      injection h with h
      injection h with e1 h
      injection h with e2 h
      injection h with e3 e4
      subst e1
      exact key _ _ _ _ _ _ _ hM1 (by simp) e4 e3.symm e2 fun Q a w hq => wpIn_exit (hq (.exit k) fun _ => rfl)
    · rename_i tx nx px ax bx hM1
      injection h with h
      injection h with e1 h
      injection h with e2 h
      injection h with e3 e4
      subst e1
      exact key _ _ _ _ _ _ _ hM1 (by simp) e4 e3.symm e2 fun Q a w hq => wpIn_ret (hq .ret fun _ => rfl)
    · cases h
  · cases h
theorem run_ok {hook : CallT → CallT} (hh : HookOk P G base hook) (he : ExtOk P ext) (ha : AnyOk P G base ext) : ∀ f, CodeOk P G base (run P G hook ext f)
  | 0 => fun c nt ts M n ex ts' M' n' h => by cases h
  | f + 1 => step_ok (run_ok hh he ha f) hh he ha
theorem exec_ok {hook : CallT → CallT} (hh : HookOk P G base hook) (he : ExtOk P ext) (ha : AnyOk P G base ext) (f : Nat) : CallOk P G base (exec P G hook ext f) := callF_ok (run_ok hh he ha f) hh
end
end Eng
end Go.Proofs.YtjoinnjhpfakpaaGreatDoor

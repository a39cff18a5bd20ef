/-
  A range over a function whose iterator keeps state of its own in one cell: the law that the loop's walk goes by.
  Paths: the parts between slashes: the plain part.
  strings.SplitSeq at a slash: the iterator's contract; strings.Clone.
-/
import Derived.RangeFuncNested
import Derived.RangeFuncBound
import Derived.RangeFuncCalls
import Derived.RangeFuncLeaves
import Derived.RangeFuncFrom
import Derived.RangeFuncBox
import Derived.Test.YtfaijkgfhdhhbaaGreatDoorMga
import Derived.Lib.Bytealg
import Derived.Test.YtfaijkgfhdhhbaaGreatDoorMgg
import Derived.Test.YtfaijkgfhdhhbaaGreatDoorShelf
import Derived.Shelf.Abstract
import Derived.Shelf.RegionOpen
import Derived.WalkKit
import Derived.OwnWalkIn
import Derived.TacticsInMore
import Derived.LoopNIn
import Derived.LoopIn
namespace Go.Proofs.YtfaijkgfhdhhbaaGreatDoor
open Go.RowKit

/-- What is said of a world bears new blocks and a turn of block B0. -/
def Bears {β : Type} (B0 : Nat) (J : β → World → Prop) : Prop := ∀ s A B row, J s A → A.grownBy B row → (∀ r, row = some r → r = B0) → J s B
/-- An iterator of values of α that turns, of what was there, block B0 alone; at most N rounds. -/
def SeqC {α : Type} (F : Fence) (n : Nat) (P : Program) (g : Nat) (lb : Array Value) (encs : α → Array Value) (Kp : World → World → Prop) (S Sp : List α → Prop) (N B0 : Nat) (Ok : α → Prop) (w : World) : Prop :=
  ∀ (l : Nat) (J Jx : List α → World → Prop) (W : World), Below w.heap.size w W → Bears B0 J → Bears B0 Jx →
    (∀ pre x W1, J pre W1 → pre.length < N → Ok x → YieldAt F (n - 1) P l (encs x) W1 fun e W' => (e = .returned (.bool true) ∧ J (pre ++ [x]) W' ∧ Kp W1 W') ∨ (e = .returned (.bool false) ∧ Jx (pre ++ [x]) W')) →
    J [] W → CallsIn F n P g (#[.func (.yield l) #[] #[]] ++ lb) W fun e W' => (∃ v, e = .returned v) ∧ ((∃ xs, S xs ∧ J xs W') ∨ (∃ pre, Sp pre ∧ Jx pre W'))

theorem stays {W W' : World} {row : Option Nat} {k : Nat} {o : Obj} (h : W.heap[k]? = some o) (hg : W.grownBy W' row) (hn : some k ≠ row) : W'.heap[k]? = some o := (hg.block k (Array.getElem?_eq_some_iff.1 h).1 hn).trans h
/-- The law. -/
theorem range_cell {α : Type} {F : Fence} {n : Nat} {P : Program} {g : Operand} {ps : Array Tmp} {assign body : Code} {Q : Exit → Act → World → Prop} {a : Act} {w : World} (hro : F.round = none) (h1 : 1 ≤ n) {gf : Nat} {lb : Array Value}
    (hg : a.eval g = .func (.func gf) #[] lb) (hFg : F.fn gf) (eg : ∀ args w, (callFunc gf args).run P w = .ok (.enter gf args) w) {encs : α → Array Value} {Kp : World → World → Prop} {S Sp : List α → Prop} {N B0 : Nat} {Ok : α → Prop} (hB0 : B0 < w.heap.size)
    (hseq : SeqC F (n - 1) P gf lb encs Kp S Sp N B0 Ok w) (hKt : ∀ {A B C : World}, Kp A B → Kp B C → Kp A C) (hKb : ∀ (W : World) (l : Nat) (o' : Obj), w.heap.size ≤ l → l < W.heap.size → Kp W (W.putObj l o')) (hps : ∀ x, (encs x).size = ps.size)
    (I : List α → World → Prop) (Ix : Code → List α → World → Prop) (hI : OwnFrom w.heap.size I) (hIx : ∀ c, OwnFrom w.heap.size (Ix c)) (hIb : Bears B0 I) (hIxb : ∀ c, Bears B0 (Ix c)) (h0 : I [] w) (a₁ : α → Act)
    (hassign : ∀ (l : Nat) (x : α) (W : World) (K : Act → World → Prop), K (a₁ x) W →
      assign.wpIn (F.inRound l) (n - 1 - 1) P (Exit.then K (fun _ _ _ => False)) { tmps := (ps.zip (encs x)).foldl (fun t (p, v) => t.setIfInBounds p v) a.tmps, defers := [] } W)
    (hbody : ∀ (l : Nat) (pre : List α) (x : α) (W : World), w.heap.size < W.heap.size → I pre W → pre.length < N → Ok x → body.wpIn (F.inRound l) (n - 1 - 1) P (ownPostK Kp I Ix (pre ++ [x]) W) (a₁ x) W)
    (hdone : ∀ (D : Nat) (xs : List α) (W : World), w.heap.size ≤ D → S xs → I xs W → W.heap[D]? = some (.deferred (some [])) → Q .normal { a with defers := { target := .collected D, args := #[] } :: a.defers } W)
    (hstop : ∀ (D : Nat) (c : Code) (pre : List α) (W : World), w.heap.size ≤ D → Sp pre → Ix c pre W → W.heap[D]? = some (.deferred (some [])) → c.wpIn F n P Q { a with defers := { target := .collected D, args := #[] } :: a.defers } W) :
    (Code.rangeFunc g ps assign body).wpIn F n P Q a w := by
  refine wpIn_rangeFunc fun fn hfn => ?_
  rw [hro]
  let R : LoopState → Option Code → Loop := fun st pe => { state := st, pending := pe, fn, tmps := a.tmps, params := ps, assign, body, defers := w.heap.size }
  obtain ⟨D, hD⟩ : ∃ D, D = w.heap.size := ⟨_, rfl⟩
  have hR : ∀ st pe, R st pe = { state := st, pending := pe, fn, tmps := a.tmps, params := ps, assign, body, defers := w.heap.size } := fun _ _ => rfl
  clear_value R
  obtain ⟨U, hU⟩ : ∃ U, U = (w.alloc (.deferred (some []))).alloc (.loop (R .ready none)) := ⟨_, rfl⟩
  have sU : U.heap.size = D + 2 := by rw [hU, hD]; simp
  have uL : U.heap[D + 1]? = some (.loop (R .ready none)) := by
    have h := World.alloc_heap_new (w.alloc (.deferred (some []))) (.loop (R .ready none))
    rw [World.size_alloc, ← hD, ← hU] at h
    exact h
  have uD : U.heap[D]? = some (.deferred (some [])) := by
    rw [hU, hD]
    exact (Below.heap_alloc _ _ _ (by simp)).trans (World.alloc_heap_new w _)
  have uI : I [] U := by rw [hU]; exact hI.alloc _ (hI.alloc _ h0)
  have uB : Below w.heap.size w U := by rw [hU]; exact ((Below.refl _ w).alloc (Nat.le_refl _) _).alloc (by simp) _
  have hne1 : ∀ {row : Option Nat}, (∀ r, row = some r → r = B0) → some (D + 1) ≠ row := fun hr e => by have := hr _ e.symm; omega
  have hne0 : ∀ {row : Option Nat}, (∀ r, row = some r → r = B0) → some D ≠ row := fun hr e => by have := hr _ e.symm; omega
  refine ⟨D + 1, [{ target := .collected D, args := #[] }], U, { target := .fn (.func gf) lb, args := #[.func (.yield (D + 1)) #[] #[]] }, U, gf, #[.func (.yield (D + 1)) #[] #[]] ++ lb, U, ?_, ?_, ?_, ?_, fun _ => h1, ?_⟩
  · rw [hU, hD, hR]
    exact run_enterLoop_outer _ _ _ _ _
  · simp only [resolve, hg]
    simp [go_sem]
  · intro f' hf'
    simp [Target.leads] at hf'
    subst hf'
    exact hFg
  · simp [invoke, go_sem, eg]
  · refine (hseq (D + 1) (fun pre W => I pre W ∧ W.heap[D + 1]? = some (.loop (R .ready none)) ∧ W.heap[D]? = some (.deferred (some [])))
      (fun pre W => ∃ c, Ix c pre W ∧ W.heap[D + 1]? = some (.loop (R .done (some c))) ∧ W.heap[D]? = some (.deferred (some []))) U uB
      (fun s A B row h k hr => ⟨hIb s A B row h.1 k hr, stays h.2.1 k (hne1 hr), stays h.2.2 k (hne0 hr)⟩)
      (fun s A B row h k hr => by
        obtain ⟨c, hc, h2, h3⟩ := h
        exact ⟨c, hIxb c s A B row hc k hr, stays h2 k (hne1 hr), stays h3 k (hne0 hr)⟩) ?_ ⟨uI, uL, uD⟩).mono ?_
    · rintro pre x W ⟨hi, hl, hk⟩ hlen hok
      have hlt : D + 1 < W.heap.size := (Array.getElem?_eq_some_iff.1 hl).1
      have hy := run_yield (P := P) (args := encs x) hl (by rw [hR]; exact hps x)
      rw [hR] at hy
      refine ⟨fn, _, assign, body, hy, roundIn_of_wpIn hfn (hassign _ x W _ ⟨_, run_beginRound hl (by rw [hR]), ?_⟩)⟩
      obtain ⟨V, hV⟩ : ∃ V, V = W.putObj (D + 1) (.loop { R .ready none with state := .busy }) := ⟨_, rfl⟩
      rw [← hV]
      have vL : V.heap[D + 1]? = some (.loop { R .ready none with state := .busy }) := by rw [hV]; exact World.putObj_heap_same hlt
      have vD : V.heap[D]? = some (.deferred (some [])) := by rw [hV]; exact (World.putObj_heap_other (by omega)).trans hk
      have vK : Kp W V := by rw [hV]; exact hKb _ _ _ (by omega) hlt
      have vI : I pre V := by rw [hV]; exact hI.putObj _ hi (by omega) hl rfl
      have vS : w.heap.size < V.heap.size := by have := (Array.getElem?_eq_some_iff.1 vL).1; omega
      refine wpIn_mono (hbody _ pre x V vS vI hlen hok) ?_
      have fin : ∀ (jump : Option Code) (X : World), KeepsOthers V X → (Instr.endRound (D + 1) jump).run P X = .ok (.bool jump.isNone) (X.putObj (D + 1) (.loop (R (if jump.isNone then .ready else .done) jump))) ∧
          X.heap[D + 1]? = some (.loop { R .ready none with state := .busy }) ∧ (X.putObj (D + 1) (.loop (R (if jump.isNone then .ready else .done) jump))).heap[D + 1]? = some (.loop (R (if jump.isNone then .ready else .done) jump)) ∧
          (X.putObj (D + 1) (.loop (R (if jump.isNone then .ready else .done) jump))).heap[D]? = some (.deferred (some [])) := by
        intro jump X hX
        have xL := hX.same _ _ vL rfl
        have xE := run_endRound (P := P) jump xL
        simp only [hR] at xE xL ⊢
        exact ⟨xE, xL, World.putObj_heap_same (Array.getElem?_eq_some_iff.1 xL).1, (World.putObj_heap_other (by omega)).trans (hX.same _ _ vD rfl)⟩
      have out : ∀ (c : Code) (X : World), KeepsOthers V X → Ix c (pre ++ [x]) X → ∃ b Y, (Instr.endRound (D + 1) (some c)).run P X = .ok (.bool b) Y ∧ b = false ∧ Ix c (pre ++ [x]) Y ∧ Y.heap[D + 1]? = some (.loop (R .done (some c))) ∧ Y.heap[D]? = some (.deferred (some [])) := by
        intro c X hX hi3
        obtain ⟨e1, e2, e3, e4⟩ := fin (some c) X hX
        exact ⟨_, _, e1, rfl, (hIx c).putObj _ hi3 (by omega) e2 rfl, e3, e4⟩
      rintro e a3 X hp
      cases e with
      | normal =>
        obtain ⟨hX, hKX, hi3⟩ := hp
        obtain ⟨e1, e2, e3, e4⟩ := fin none X hX
        have hlx : D + 1 < X.heap.size := (Array.getElem?_eq_some_iff.1 e2).1
        exact ⟨_, _, e1, .inl ⟨rfl, ⟨hI.putObj _ hi3 (by omega) e2 rfl, e3, e4⟩, hKt (hKt vK hKX) (hKb _ _ _ (by omega) hlx)⟩⟩
      | ret =>
        obtain ⟨b, Y, e1, rfl, h5, h6, h7⟩ := out .ret X hp.1 hp.2
        exact ⟨_, _, e1, .inr ⟨rfl, .ret, h5, h6, h7⟩⟩
      | exit id =>
        obtain ⟨b, Y, e1, rfl, h5, h6, h7⟩ := out (.exit id) X hp.1 hp.2
        exact ⟨_, _, e1, .inr ⟨rfl, .exit id, h5, h6, h7⟩⟩
      | goto t =>
        obtain ⟨b, Y, e1, rfl, h5, h6, h7⟩ := out (.goto t) X hp.1 hp.2
        exact ⟨_, _, e1, .inr ⟨rfl, .goto t, h5, h6, h7⟩⟩
      | panic ch => exact hp.elim
      | outgrown => exact hp.elim
    · rintro e X ⟨⟨v, rfl⟩, (⟨xs, hS, hi, hl, hk⟩ | ⟨pre, hSp, c, hi, hl, hk⟩)⟩
      · have he := run_endLoop (P := P) hl (by rw [hR]; simp)
        rw [hR] at he
        exact ⟨none, _, he, hdone D xs _ (by omega) hS (hI.putObj _ hi (by omega) hl rfl) ((World.putObj_heap_other (by omega)).trans hk)⟩
      · have he := run_endLoop (P := P) hl (by rw [hR]; simp)
        rw [hR] at he
        exact ⟨some c, _, he, hstop D c pre _ (by omega) hSp ((hIx c).putObj _ hi (by omega) hl rfl) ((World.putObj_heap_other (by omega)).trans hk)⟩
end Go.Proofs.YtfaijkgfhdhhbaaGreatDoor
namespace Go.Proofs.YtfaijkgfhdhhbaaGreatDoor

def splitV : List UInt8 → List (List UInt8)
  | [] => [[]]
  | b :: r => if b = 47 then [] :: splitV r else (b :: (splitV r).headD []) :: (splitV r).tail
theorem splitV_ne : ∀ t, splitV t ≠ []
  | [], h => by cases h
  | b :: r, h => by
    unfold splitV at h
    split at h <;> cases h
theorem splitV_none (t : List UInt8) (h : (47 : UInt8) ∉ t) : splitV t = [t] := by
  induction t with
  | nil => rfl
  | cons b r ih =>
    have hb : b ≠ 47 := fun e => h (by simp [e])
    unfold splitV
    rw [if_neg hb, ih (fun hm => h (List.mem_cons_of_mem _ hm))]
    rfl
theorem splitV_cut (p r : List UInt8) (h : (47 : UInt8) ∉ p) : splitV (p ++ 47 :: r) = p :: splitV r := by
  induction p with
  | nil => simp [splitV]
  | cons b p ih =>
    have hb : b ≠ 47 := fun e => h (by simp [e])
    rw [List.cons_append, splitV, if_neg hb, ih (fun hm => h (List.mem_cons_of_mem _ hm))]
    simp
theorem splitV_len : ∀ t, (splitV t).length ≤ t.length + 1
  | [] => Nat.le_refl _
  | b :: r => by
    have ih := splitV_len r
    unfold splitV
    split
    · simp; omega
    · simp; omega
/-- Where the first slash stands. -/
theorem index_slash : ∀ t : List UInt8, (Lib.indexByte t 47 = -1 ∧ (47 : UInt8) ∉ t) ∨ ∃ p r, t = p ++ 47 :: r ∧ (47 : UInt8) ∉ p ∧ Lib.indexByte t 47 = (p.length : Int)
  | [] => .inl ⟨by simp [Lib.indexByte], by simp⟩
  | b :: l => by
    by_cases hb : b = 47
    · subst hb
      exact .inr ⟨[], l, rfl, by simp, by simp [Lib.indexByte]⟩
    · have hb' : ¬ (47 : UInt8) = b := fun e => hb e.symm
      have hq : (b == 47) = false := by simpa using hb
      rcases index_slash l with ⟨h1, h2⟩ | ⟨p, r, h1, h2, h3⟩
      · refine .inl ⟨?_, by simp [hb', h2]⟩
        unfold Lib.indexByte
        rw [hq, h1]
        rfl
      · refine .inr ⟨b :: p, r, by rw [h1]; rfl, by simp [hb', h2], ?_⟩
        unfold Lib.indexByte
        rw [hq, h3]
        have : ((p.length : Int) == -1) = false := by rw [beq_eq_false_iff_ne]; omega
        simp [this]
/-- The parts of a path. -/
def pathV (s : List UInt8) : Option (List (List UInt8)) := if s = [] then some [] else if (splitV s).all okName then some (splitV s) else none
end Go.Proofs.YtfaijkgfhdhhbaaGreatDoor
namespace Go.Proofs.YtfaijkgfhdhhbaaGreatDoor
open Go.RowKit Go.Shelf

attribute [local go_sem] Oper.semAt_some

theorem sx_to (l : List UInt8) (n : Nat) : (ByteArray.mk l.toArray).extract 0 n = ⟨(l.take n).toArray⟩ := by
  rw [ByteArray.extract_mk]
  simp
theorem sx_from (l : List UInt8) (n m : Nat) (h : m = l.length) : (ByteArray.mk l.toArray).extract n m = ⟨(l.drop n).toArray⟩ := by
  subst h
  rw [ByteArray.extract_mk]
  congr 1
  apply Array.ext'
  simp
  exact List.take_of_length_le (by rw [List.length_drop]; omega)
theorem index_sl (t : List UInt8) (w : World) : Calls Tryz.prog 134 #[.string ⟨t.toArray⟩, .string ⟨#[47]⟩] w fun e w' => e = .returned (.int .i64 (Lib.indexByte t 47)) ∧ w' = w := Tryz.strings_Index_one ⟨t.toArray⟩ 47 w
theorem sclone_any (t : List UInt8) (w : World) (hl : t.length ≤ 281474976710656) : Calls Tryz.prog 34 #[.string ⟨t.toArray⟩] w fun e w' => e = .returned (.string ⟨t.toArray⟩) ∧ Below w.heap.size w w' := by
  have HC := Lib.hid (Tryz.stringslite_Clone ⟨t.toArray⟩ w (by show t.toArray.size ≤ _; simpa using hl))
  clear hl
  go_enter Tryz.func34, Tryz.ntmps34
  go_wp2_with fail
  refine HC.out.mono ?_
  rintro e w1 ⟨rfl, hB⟩
  have HB := Lib.hid hB
  clear hB
  go_wp2
  go_ret
  exact ⟨rfl, HB.out⟩
/-- The iterator's own blocks are as they were. -/
def KpR (H : Nat) (W W' : World) : Prop := W.heap.size ≤ W'.heap.size ∧ ∀ k, H ≤ k → k < H + 3 → W'.heap[k]? = W.heap[k]?
theorem KpR.box {H k : Nat} {W W' : World} {t : TypeId} {v : Value} (h : KpR H W W') (b : Boxed W k t v) (h1 : H ≤ k) (h2 : k < H + 3) : Boxed W' k t v := (h.2 k h1 h2).trans b
def szS : Option Value → Nat
  | some (.string b) => b.size
  | _ => 0
set_option maxRecDepth 100000 in
set_option maxHeartbeats 4000000 in
theorem seq1_in (l H : Nat) (s : List UInt8) (hl : s.length ≤ 1048576) (n : Nat) (hn : 2 ≤ n) (J Jx : List (List UInt8) → World → Prop) (hJ : Bears H J)
    (hY : ∀ pre x W, J pre W → pre.length < s.length + 1 → x.length ≤ s.length → YieldAt Fence.wide (n - 1) Tryz.prog l #[.string ⟨x.toArray⟩] W fun e W' => (e = .returned (.bool true) ∧ J (pre ++ [x]) W' ∧ KpR H W W') ∨ (e = .returned (.bool false) ∧ Jx (pre ++ [x]) W'))
    (W : World) (h1 : Boxed W (H + 1) 9 (.string ⟨#[47]⟩)) (h0 : Boxed W H 9 (.string ⟨s.toArray⟩)) (h2 : Boxed W (H + 2) 3 (.int .i64 0)) (hJ0 : J [] W) :
    CallsIn Fence.wide n Tryz.prog 132 #[.func (.yield l) #[] #[], .pointer (some ⟨H + 1, 0, none⟩), .pointer (some ⟨H, 0, none⟩), .pointer (some ⟨H + 2, 0, none⟩)] W fun e W' =>
      (∃ v, e = .returned v) ∧ ((∃ xs, xs = splitV s ∧ J xs W') ∨ (∃ pre, pre <+: splitV s ∧ Jx pre W')) := by
  have HB1 := Lib.hid h1
  have HB0 := Lib.hid h0
  have HB2 := Lib.hid h2
  have HJ0 := Lib.hid hJ0
  have HJ := Lib.hid hJ
  have HY := Lib.hid hY
  have c1 := h1.cell
  have hn1 : 1 ≤ n := by omega
  clear h1 h0 h2 hJ0 hJ hY
  refine callsIn_of_wp Tryz.func132 rfl trivial ?_ rfl
  simp only [Tryz.ntmps132, List.size_toArray, List.length_cons, List.length_nil, Nat.reduceAdd, Nat.reduceSub, Array.replicate_succ, Array.replicate_zero, List.push_toArray, List.append_toArray, List.nil_append, List.cons_append]
  gi_wp2
  clear c1
  gi_loopw [7, 8] (fun s7 s8 wr => ∃ (pre : List (List UInt8)) (t : List UInt8), splitV s = pre ++ splitV t ∧ pre.length + t.length ≤ s.length ∧ Hid (Boxed wr (H + 1) 9 (.string ⟨#[47]⟩)) ∧ Hid (Boxed wr H 9 (.string ⟨t.toArray⟩)) ∧ Hid (Boxed wr (H + 2) 3 (.int .i64 0)) ∧ Hid (J pre wr)) (fun _ _ wr => szS (wr.cell? ⟨H, 0, none⟩))
  case atStart => exact ⟨[], s, rfl, by simp, HB1, HB0, HB2, HJ0⟩
  case round =>
    obtain ⟨pre, t, hs, hlen, b1, b0, b2, hj⟩ := hrel
    have c1 := b1.out.cell
    have c0 := b0.out.cell
    have c2 := b2.out.cell
    have HIX := Lib.hid (index_sl t wr)
    have HS := Lib.hid hs
    clear hs
    rcases index_slash t with ⟨hi, hno⟩ | ⟨p, r, ht, hp, hi⟩
    · rw [hi] at HIX
      have HNO := Lib.hid hno
      obtain ⟨fn, tmps, assign, body, hy, hR⟩ := HY.out pre t wr hj.out (by omega) (by omega)
      have HRR := Lib.hid hR
      clear hno hi hR
      gi_wp2_with (refine ⟨trivial, ?_⟩; gi_at_call 134; refine (callsIn_wide.2 HIX.out).mono ?_; rintro e w' ⟨rfl, rfl⟩)
      refine HRR.out.mono ?_
      rintro e W3 (⟨rfl, hJ3, hk3⟩ | ⟨rfl, hJx3⟩)
      · have HF := Lib.hid hJ3
        clear hJ3
        gi_wp2
        go_end0
        exact ⟨⟨_, rfl⟩, .inl ⟨_, by rw [HS.out, splitV_none t HNO.out], HF.out⟩⟩
      · have HF := Lib.hid hJx3
        clear hJx3
        gi_wp2
        go_end0
        exact ⟨⟨_, rfl⟩, .inr ⟨_, by rw [HS.out, splitV_none t HNO.out]; exact List.prefix_refl _, HF.out⟩⟩
    · rw [hi] at HIX
      have htl : t.length = p.length + 1 + r.length := by rw [ht]; simp; omega
      have e1 : (ByteArray.mk t.toArray).extract 0 p.length = ⟨p.toArray⟩ := by rw [sx_to, ht, List.take_left]
      have HSZ : Hid (szS (wr.cell? ⟨H, 0, none⟩) = t.length) := by
        show _ = _
        rw [c0]
        show t.toArray.size = t.length
        simp
      have e2 : (ByteArray.mk t.toArray).extract (p.length + 1) (p.length + 1 + r.length) = ⟨r.toArray⟩ := by
        rw [sx_from t _ _ htl.symm, ht, show p ++ 47 :: r = (p ++ [47]) ++ r by simp, show p.length + 1 = (p ++ [47]).length by simp, List.drop_left]
      have HSP : Hid (splitV s = (pre ++ [p]) ++ splitV r) := by
        show _ = _
        rw [HS.out, ht, splitV_cut p r hp]
        simp
      obtain ⟨fn, tmps, assign, body, hy, hR⟩ := HY.out pre p wr hj.out (by omega) (by omega)
      have HRR := Lib.hid hR
      clear hi hp ht hR
      gi_wp2_with (refine ⟨trivial, ?_⟩; gi_at_call 134; refine (callsIn_wide.2 HIX.out).mono ?_; rintro e w' ⟨rfl, rfl⟩)
      refine HRR.out.mono ?_
      rintro e W3 (⟨rfl, hJ3, hk3⟩ | ⟨rfl, hJx3⟩)
      · have b13 := hk3.box b1.out (by omega) (by omega)
        have b03 := hk3.box b0.out (by omega) (by omega)
        have b23 := hk3.box b2.out (by omega) (by omega)
        have c1 := b13.cell
        have c0 := b03.cell
        have f0 := b03.frozen
        have HB1 := Lib.hid (b13.kept (grownBy_setCell' W3 H (.string ⟨r.toArray⟩)) (fun e => by injection e with e; omega))
        have HB0 := Lib.hid (b03.set (.string ⟨r.toArray⟩))
        have HB2 := Lib.hid (b23.kept (grownBy_setCell' W3 H (.string ⟨r.toArray⟩)) (fun e => by injection e with e; omega))
        have HJN := Lib.hid (HJ.out _ _ _ _ hJ3 (grownBy_setCell' W3 H (.string ⟨r.toArray⟩)) (fun r e => by injection e with e; exact e.symm))
        have HM : Hid (szS ((W3.setCell ⟨H, 0, none⟩ (.string ⟨r.toArray⟩)).cell? ⟨H, 0, none⟩) < t.length) := by
          show _ < _
          rw [HB0.out.cell]
          show r.toArray.size < t.length
          simp
          omega
        clear b13 b03 b23 hJ3 hk3 hy
        gi_wp2
        go_roundw
        case rel => exact ⟨pre ++ [p], r, HSP.out, by simp; omega, HB1, HB0, HB2, HJN⟩
        case measure =>
          rw [HSZ.out]
          exact HM.out
      · have HF := Lib.hid hJx3
        clear hJx3
        gi_wp2
        refine bodyPost_ret (results_none rfl _ _ _) rfl ?_
        exact ⟨⟨_, rfl⟩, .inr ⟨_, by rw [HSP.out]; exact List.prefix_append _ _, HF.out⟩⟩
/-- strings.SplitSeq: three boxes, a function value. -/
theorem seq_any (s : List UInt8) (w : World) : Calls Tryz.prog 61 #[.string ⟨s.toArray⟩, .string ⟨#[47]⟩] w fun e w' => e = .returned (.func (.func 132) #[] #[.pointer (some ⟨w.heap.size + 1, 0, none⟩), .pointer (some ⟨w.heap.size, 0, none⟩), .pointer (some ⟨w.heap.size + 2, 0, none⟩)]) ∧
    w' = ((w.alloc (.cells #[.string ⟨s.toArray⟩] 9)).alloc (.cells #[.string ⟨#[47]⟩] 9)).alloc (.cells #[.int .i64 0] 3) := by
  have h : Calls Tryz.prog 96 #[.string ⟨s.toArray⟩, .string ⟨#[47]⟩, .int .i64 0] w fun e w' => e = .returned (.func (.func 132) #[] #[.pointer (some ⟨w.heap.size + 1, 0, none⟩), .pointer (some ⟨w.heap.size, 0, none⟩), .pointer (some ⟨w.heap.size + 2, 0, none⟩)]) ∧
      w' = ((w.alloc (.cells #[.string ⟨s.toArray⟩] 9)).alloc (.cells #[.string ⟨#[47]⟩] 9)).alloc (.cells #[.int .i64 0] 3) := by
    have hmf : ∀ (fn : Fn) (first cap : Array Value) (w : World), (Instr.makeFunc fn first cap).run Tryz.prog w = .ok (.func fn first cap) w := fun _ _ _ _ => rfl
    go_enter Tryz.func96, Tryz.ntmps96
    go_wp2
    go_ret
    exact ⟨rfl, rfl⟩
  have H := Lib.hid h
  clear h
  go_enter Tryz.func61, Tryz.ntmps61
  go_wp2_with fail
  refine H.out.mono ?_
  rintro e w' ⟨rfl, rfl⟩
  go_wp2
  go_ret
  exact ⟨rfl, rfl⟩
theorem seq_stops (s : List UInt8) (hl : s.length ≤ 1048576) (n : Nat) (hn : 2 ≤ n) (H : Nat) (w : World) (h0 : Boxed w H 9 (.string ⟨s.toArray⟩)) (h1 : Boxed w (H + 1) 9 (.string ⟨#[47]⟩)) (h2 : Boxed w (H + 2) 3 (.int .i64 0)) :
    SeqC Fence.wide n Tryz.prog 132 #[.pointer (some ⟨H + 1, 0, none⟩), .pointer (some ⟨H, 0, none⟩), .pointer (some ⟨H + 2, 0, none⟩)] (fun x : List UInt8 => #[Value.string ⟨x.toArray⟩]) (KpR H) (fun xs => xs = splitV s) (fun pre => pre <+: splitV s) (s.length + 1) H (fun x => x.length ≤ s.length) w :=
  fun l J Jx W hW hJ _ hY hJ0 => seq1_in l H s hl n hn J Jx hJ hY W ((hW.block _ h1.lt).trans h1) ((hW.block _ h0.lt).trans h0) ((hW.block _ h2.lt).trans h2) hJ0
end Go.Proofs.YtfaijkgfhdhhbaaGreatDoor

/-
  A region that draws its order: a head that only reads (its callees may draw, or lay blocks of their own: a class of worlds), then a tail in one forced order. The head is walked once.
-/
import Derived.StillTail
import Derived.Deep.QuietTactic
import Derived.BigQuiet
import Derived.Lib.QuietBelow
import Derived.Deep.MidRow
namespace Go.Proofs.YtjoinnjhpfakpaaGreatDoor
section
variable {P : Program} {ops : Array Oper} {md : Region.Mode} {C : World → Prop}
/-- Each operation of the head from m on has one behind it that waits for it. -/
def sinkF (md : Region.Mode) (ops : Array Oper) (m n : Nat) : Bool :=
  (List.range n).all fun i => decide (i < m) || (List.range (n + 1)).any fun j => decide (i < j) && Region.waitsFor md ops j i
theorem tail_waitsF {m n : Nat} {up : Array Bool} (hs : sinkF md ops m n = true) (hc : Region.chainB md ops n = true) (hn : n < ops.size) (inv : HeadInv md ops n up) (d : Nat) :
    ∀ i, n - i = d → m ≤ i → i < n → up.getD i true = false → ∀ t, n ≤ t → t ∉ Region.ready md ops up := by
  induction d using Nat.strongRecOn with
  | ind d ih =>
    intro i hd hm hi hun t ht hr
    obtain ⟨-, ot, hot, hall⟩ := mem_ready.1 hr
    have hts : t < ops.size := (Array.getElem?_eq_some_iff.1 hot).1
    rcases Nat.lt_or_ge n t with hgt | hle
    · have h1 := List.all_eq_true.1 hc t (List.mem_range.2 hts)
      simp only [Bool.or_eq_true, decide_eq_true_eq] at h1
      obtain ⟨o', ho', e, he, hb, hon⟩ := Region.waitsFor_spec (h1.resolve_left (by omega))
      obtain rfl : o' = ot := Option.some.inj (ho'.symm.trans hot)
      have h2 := hall e he hb
      rw [hon, getD_both (inv.tail (t - 1) (by omega) (by omega))] at h2
      cases h2
    · obtain rfl : t = n := Nat.le_antisymm hle ht
      have h1 := List.all_eq_true.1 hs i (List.mem_range.2 hi)
      simp only [Bool.or_eq_true, decide_eq_true_eq, List.any_eq_true, Bool.and_eq_true, List.mem_range] at h1
      obtain ⟨j, hj, hij, hw⟩ := h1.resolve_left (by omega)
      obtain ⟨oj, hoj, e, he, hb, hon⟩ := Region.waitsFor_spec hw
      rcases Nat.lt_or_ge j t with hjt | hjt
      · cases hl : up.getD j false with
        | true =>
          have h2 := inv.closed j oj hoj hl e he hb
          rw [hon, getD_both hun] at h2
          cases h2
        | false => exact ih (t - j) (by omega) j rfl (by omega) hjt (getD_in (by rw [inv.size]; omega) hl) t (Nat.le_refl _) hr
      · obtain rfl : j = t := by omega
        obtain rfl : oj = ot := Option.some.inj (hoj.symm.trans hot)
        have h2 := hall e he hb
        rw [hon, getD_both hun] at h2
        cases h2
/-- f operations of the head come up, in whatever order; then L. -/
def AnyHead (P : Program) (md : Region.Mode) (ops : Array Oper) (C : World → Prop) (n : Nat) (L : Array Bool → Act → Prop) : Nat → Array Bool → Act → Prop
  | 0 => L
  | f + 1 => fun up a => Region.ready md ops up ≠ [] ∧ ∀ i, i ∈ Region.ready md ops up → i < n ∧ qOp P ops C i (AnyHead P md ops C n L f (up.setIfInBounds i true)) a
theorem any_of_head {n g : Nat} {L : Array Bool → Act → Prop} {Q : Exit → Act → World → Prop} (hL : ∀ up a w, C w → L up a → wpAny P md ops Q g up a w) (f : Nat) :
    ∀ up a w, C w → AnyHead P md ops C n L f up a → wpAny P md ops Q (f + g) up a w := by
  induction f with
  | zero =>
    intro up a w hw h
    rw [Nat.zero_add]
    exact hL up a w hw h
  | succ f ih =>
    intro up a w hw h
    rw [Nat.succ_add]
    refine ⟨fun e => absurd e h.1, fun i hi => ?_⟩
    exact wpOp_of_qOp hw (fun a' w' hw' h' => ih _ a' w' hw' h') (h.2 i hi).2
theorem head_below {m n i j : Nat} {up : Array Bool} (hs : sinkF md ops m n = true) (hc : Region.chainB md ops n = true) (hn : n < ops.size) (him : m ≤ i) (hin : i < n) (inv : HeadInv md ops n up)
    (hi : i ∈ Region.ready md ops up) (hj : j ∈ Region.ready md ops up) : j < n := by
  rcases Nat.lt_or_ge j n with h | h
  · exact h
  · exact absurd hj (tail_waitsF hs hc hn inv (n - i) i rfl him hin (mem_ready.1 hi).1 j h)
theorem head_first {m n i : Nat} {oi : Oper} {v : Value} {L : Array Bool → Act → Prop} (hi : ops[i]? = some oi) (hsel : ∀ (j : Nat) (o : Oper) cs b, ops[j]? = some o → o.op ≠ .select cs b)
    (hs : sinkF md ops m n = true) (hc : Region.chainB md ops n = true) (hn : n < ops.size) (him : m ≤ i) (hin : i < n) (hdone : ∀ up a, L up a → ∀ j, j ∈ Region.ready md ops up → n ≤ j) (f : Nat) :
    ∀ up a, HeadInv md ops n up → (∀ j oj, ops[j]? = some oj → j ≠ i → up.getD j true = false → (∀ e ∈ oj.after, Region.binds md e = true → e.on ≠ i) → oi.apart ops oj = true) →
      i ∈ Region.ready md ops up → YieldsIn P ops C oi v a → AnyHead P md ops C n L f (up.setIfInBounds i true) (a.put oi.dst v) → AnyHead P md ops C n L (f + 1) up a := by
  induction f with
  | zero =>
    intro up a inv _ hr hy H
    refine ⟨List.ne_nil_of_mem hr, fun j hj => ⟨head_below hs hc hn him hin inv hr hj, ?_⟩⟩
    rcases Nat.decEq j i with hji | rfl
    · have h1 := hdone _ _ H j (ready_mono hj hji)
      have h2 := head_below hs hc hn him hin inv hr hj
      omega
    · exact hy.qOp hi H
  | succ f ih =>
    intro up a inv hfree hr hy H
    refine ⟨List.ne_nil_of_mem hr, fun j hj => ⟨head_below hs hc hn him hin inv hr hj, ?_⟩⟩
    rcases Nat.decEq j i with hji | rfl
    · obtain ⟨hjun, oj, hoj, hall⟩ := mem_ready.1 hj
      have hun := (mem_ready.1 hr).1
      have hnot : ∀ e ∈ oj.after, Region.binds md e = true → e.on ≠ i := by
        rintro e he hb rfl
        have := hall e he hb
        rw [getD_both hun] at this
        cases this
      have h1 := qOp_put hoj (hfree j oj hoj hji hjun hnot) (fun cs b => hsel i oi cs b hi) (fun cs b => hsel j oj cs b hoj) hy (H.2 j (ready_mono hj hji)).2
      refine qOp_mono (fun a' h2 => ih (up.setIfInBounds j true) a' (inv.set hj (head_below hs hc hn him hin inv hr hj)) ?_ (ready_mono hr (Ne.symm hji)) h2.1 (by rw [Array.setIfInBounds_comm _ _ hji]; exact h2.2)) h1
      intro k ok hk hki hku hno
      refine hfree k ok hk hki ?_ hno
      rcases Nat.decEq j k with hjk | rfl
      · rwa [getD_set_ne true hjk] at hku
      · exact hjun
    · exact hy.qOp hi H
theorem head_lex {m n g : Nat} {T : Act → Prop} (hsel : Region.noSelect ops = true) (hs : sinkF md ops m n = true) (hc : Region.chainB md ops n = true) (hn : n < ops.size) (l : List Oper) :
    ∀ k up a, m ≤ k → (∀ j, j < l.length → l[j]? = ops[k + j]?) → k + l.length = n → HeadInv md ops n up → Region.lexHead md ops g l.length k up = true → wpQuiet P ops C T l a →
      AnyHead P md ops C n (fun up' a' => Region.seqB md ops g n up' = true ∧ T a') l.length up a := by
  induction l with
  | nil =>
    intro k up a _ _ hk _ hB h
    obtain rfl : k = n := hk
    exact ⟨hB, h⟩
  | cons o l ih =>
    intro k up a hmk hl hk inv hB h
    have h0 : ops[k]? = some o := (hl 0 (Nat.zero_lt_succ _)).symm
    simp only [List.length_cons] at hk
    simp only [List.length_cons, Region.lexHead, Bool.and_eq_true] at hB
    have hkn : k < n := by omega
    have hr : k ∈ Region.ready md ops up := by simpa using hB.1.1
    have hq : qOp P ops C k (wpQuiet P ops C T l) a := by
      unfold qOp
      rw [h0]
      exact h
    obtain ⟨v, hy, hK⟩ := yieldsIn_of_qOp h0 hq
    refine head_first h0 (Region.noSelect_spec hsel) hs hc hn hmk hkn (fun _ _ hL => seqB_ready hL.1) l.length up a inv (Region.free_spec h0 hB.1.2) hr hy ?_
    refine ih (k + 1) _ _ (by omega) (fun j hj => ?_) (by omega) (inv.set hr hkn) hB.2 hK
    have := hl (j + 1) (Nat.succ_lt_succ hj)
    rw [List.getElem?_cons_succ] at this
    rw [this, Nat.add_assoc, Nat.add_comm 1 j]
def lexTailF (md : Region.Mode) (ops : Array Oper) (m n : Nat) (up : Array Bool) : Bool :=
  Region.noSelect ops && decide (m ≤ n) && decide (n < ops.size) && sinkF md ops m n && Region.chainB md ops n && Region.lexHead md ops (ops.size - n) (n - m) m up
theorem any_qtail {m n : Nat} {Q : Exit → Act → World → Prop} {a : Act} {w : World} {l : List Oper} {up : Array Bool} (hB : lexTailF .any l.toArray m n up = true) (inv : HeadInv .any l.toArray n up)
    (hC : C w) (h : wpQuiet P l.toArray C (fun a' => ∀ w', C w' → wpList P l.toArray Q (l.drop n) a' w') ((l.take n).drop m) a) : wpAny P .any l.toArray Q (l.length - m) up a w := by
  simp only [lexTailF, Bool.and_eq_true, decide_eq_true_eq] at hB
  obtain ⟨⟨⟨⟨⟨hsel, hmn⟩, hn⟩, hs⟩, hc⟩, hlex⟩ := hB
  have hn' : n < l.length := by simpa using hn
  have htl : ((l.take n).drop m).length = n - m := by rw [List.length_drop, List.length_take]; omega
  have hdl : (l.drop n).length = l.toArray.size - n := by rw [List.length_drop, List.size_toArray]
  have H := head_lex (md := .any) (g := l.toArray.size - n) hsel hs hc hn ((l.take n).drop m) m up a (Nat.le_refl _) (by
    intro j hj
    rw [htl] at hj
    rw [List.getElem?_drop, List.getElem?_take_of_lt (by omega), List.getElem?_toArray]) (by omega) inv (by rw [htl]; exact hlex) h
  have key := any_of_head (Q := Q) (g := l.toArray.size - n) (by
    intro up a' w' hw' hL
    have := wpAny_of_seq (md := .any) (Q' := Q) (l.drop n) n up a' w' (fun j => by simp [List.getElem?_drop]) (by rw [hdl]; exact hL.1) (hL.2 w' hw')
    rwa [hdl] at this) _ _ _ _ hC H
  rw [htl, List.size_toArray, show n - m + (l.length - n) = l.length - m by omega] at key
  exact key
theorem inv_none {n : Nat} : HeadInv md ops n (Array.replicate ops.size false) where
  size := by simp
  closed := by
    intro j oj _ hl
    rw [getD_replicate_false] at hl
    cases hl
  tail := fun t _ ht => getD_in (by simpa using ht) (getD_replicate_false _ _)
/-- The head, walked once, in a class of worlds; the tail, from every world of the class. -/
theorem wp_region_qtail {id : Nat} {Q : Exit → Act → World → Prop} {a : Act} {w : World} {l : List Oper} (n : Nat) (hm : P.follows .mixedOrders = true) (hB : lexTailF .any l.toArray 0 n (Array.replicate l.toArray.size false) = true)
    (hC : C { w with drawn := w.drawn + 1 }) (h : wpQuiet P l.toArray C (fun a' => ∀ w', C w' → wpList P l.toArray Q (l.drop n) a' w') (l.take n) a) : (Code.region id l.toArray true).wp P Q a w :=
  wp_region_any hm (by
    have := any_qtail (C := C) (Q := Q) hB inv_none hC (by simpa using h)
    simpa using this)
/-- The same; the first operation, which hands a slot on, may stay behind the tail's beginning: it is taken first. -/
theorem wp_region_qtail1 {id : Nat} {Q : Exit → Act → World → Prop} {a : Act} {w : World} {o : Oper} {l : List Oper} (n : Nat) (x : Operand) (hm : P.follows .mixedOrders = true) (ho : o.op = .move x) (hg : o.guard = none)
    (hf : Region.free .any (o :: l).toArray (Array.replicate (l.length + 1) false) 0 = true) (hr : (Region.ready .any (o :: l).toArray (Array.replicate (l.length + 1) false)).contains 0 = true)
    (hB : lexTailF .any (o :: l).toArray 1 (n + 1) ((Array.replicate (l.length + 1) false).setIfInBounds 0 true) = true)
    (hQ : ∀ c b w, Q (.panic c) (b.put o.dst (a.eval x)) w → Q (.panic c) b w)
    (hC : C { w with drawn := w.drawn + 1 }) (h : wpQuiet P (o :: l).toArray C (fun a' => ∀ w', C w' → wpList P (o :: l).toArray Q (l.drop n) a' w') (l.take n) (a.put o.dst (a.eval x))) : (Code.region id (o :: l).toArray true).wp P Q a w := by
  refine wp_region_any hm ?_
  have hs : Region.noSelect (o :: l).toArray = true := by
    simp only [lexTailF, Bool.and_eq_true] at hB
    exact hB.1.1.1.1.1
  have hn : n + 1 < (o :: l).toArray.size := by
    simp only [lexTailF, Bool.and_eq_true, decide_eq_true_eq] at hB
    exact hB.1.1.1.2
  have key := any_qtail (C := C) (Q := Q) (w := { w with drawn := w.drawn + 1 }) hB ((inv_none (md := .any) (ops := (o :: l).toArray) (n := n + 1)).set (by simpa using hr) (by omega)) hC (by simpa using h)
  have e : (o :: l).toArray.size = l.length + 1 := by simp
  rw [e]
  refine wpAny_take (i := 0) (oi := o) (v := a.eval x) rfl hs hf hr hQ (.inl ⟨by unfold Region.wanted; rw [hg], fun w => BigFrame.run_move x ho w⟩) ?_
  simpa using key
/-- A load of a row that every world of the class holds. -/
theorem q_load {Q : Act → Prop} {a : Act} {o : Oper} {rest : List Oper} (ty : TypeId) (x : Operand) (ho : o.op = .load ty x) (hw : Region.wanted o (yielded ops a.tmps) = true) (b : Nat) (cs : Array Value)
    (hx : a.eval x = .pointer (some ⟨b, 0, none⟩)) (d : TypeDesc) (hu : P.underlying ty = some d) (hd : d.isRow = true) (hi : (P.info? ty).map (·.size) = some cs.size) (hS : ∀ w, C w → ∀ i, w.cell? ⟨b, i, none⟩ = cs[i]?)
    (hk : wpQuiet P ops C Q rest (a.put o.dst (.agg cs))) : wpQuiet P ops C Q (o :: rest) a := by
  have hy := yieldsIf_load_mid (P := P) (S := C) hw ty x ho b 0 hx cs.toList d (fun w h j v hv => by rw [Nat.zero_add, hS w h, ← hv]; simp) hu hd (by simpa using hi)
  rcases hy with ⟨-, h⟩ | ⟨h, -⟩
  · refine BigFrame.wpQuiet_want hw fun K hK => ⟨.agg cs, fun w hc => ?_, hK _ hk⟩
    unfold Oper.quietAt
    rw [h w hc]
    exact ⟨rfl, by simp⟩
  · rw [hw] at h
    cases h
end
end Go.Proofs.YtjoinnjhpfakpaaGreatDoor

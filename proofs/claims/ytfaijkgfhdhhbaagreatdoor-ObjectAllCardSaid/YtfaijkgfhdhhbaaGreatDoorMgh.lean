/-
  Arrays of bytes held against each other.
  A region that draws its order: a head that only reads (its callees may draw, or lay blocks of their own: a class of worlds), then a tail in one forced order. The head is walked once.
  Names in memory: a row of them, 32 cells each; slices of them that came in.
  Entries in memory: a row of them, 34 cells each; slices of them that came in.
  Slices of entries that a row hands over, opened.
  Slices of names that a row hands over, opened.
-/
import Derived.Test.YtfaijkgfhdhhbaaGreatDoorMga
import Derived.Test.YtfaijkgfhdhhbaaGreatDoorProg
import Derived.ChangeKeysEq
import Derived.Laws.StructEq
import Derived.StillTail
import Derived.Deep.QuietTactic
import Derived.BigQuiet
import Derived.Lib.QuietBelow
import Derived.Deep.MidRow
import Derived.Test.YtfaijkgfhdhhbaaGreatDoorMgg
import Derived.Deep.Slices
import Derived.Deep.Strs
namespace Go.Proofs.YtfaijkgfhdhhbaaGreatDoor
open Go.RowKit

theorem part_byte (xs : List UInt8) (i : Nat) (hi : i < xs.length) (w : World) : (part 5 (xs.map Y).toArray i).run Tryz.prog w = .ok (Y (xs.getD i 0)) w := by
  have hagg : (isAgg 5).run Tryz.prog w = .ok false w := by
    unfold isAgg
    rw [Sem.run_bind, run_underlying Tryz.underlying5 w]
    rfl
  have hv : (xs.map Y).toArray[i]? = some (Y (xs.getD i 0)) := by simp [List.getElem?_eq_getElem hi]
  simp [part, hagg, hv, Y]
theorem eqItems_bytes (d : Nat) (xs ys : List UInt8) (w : World) : ∀ is : List Nat, (∀ i ∈ is, i < xs.length ∧ i < ys.length) →
    (Op.eqItems (d + 1) 5 1 (xs.map Y).toArray (ys.map Y).toArray is).run Tryz.prog w = .ok (is.all fun i => xs.getD i 0 == ys.getD i 0) w
  | [], _ => by simp [Op.eqItems]
  | i :: is, h => by
    obtain ⟨h1, h2⟩ := h i (by simp)
    have hp := part_byte xs i h1 w
    have hq := part_byte ys i h2 w
    have he : (Op.equalIn (d + 1) 5 (Y (xs.getD i 0)) (Y (ys.getD i 0))).run Tryz.prog w = .ok (((xs.getD i 0).toNat : Int) == ((ys.getD i 0).toNat : Int)) w := run_equalIn_int (P := Tryz.prog) w d 5 .u8 .u8 _ _ Tryz.underlying5
    have ih := eqItems_bytes d xs ys w is (fun j hj => h j (by simp [hj]))
    have hb : (((xs.getD i 0).toNat : Int) == ((ys.getD i 0).toNat : Int)) = (xs.getD i 0 == ys.getD i 0) := by
      rw [Bool.eq_iff_iff]
      simp only [beq_iff_eq]
      constructor
      · intro e
        exact UInt8.toNat_inj.1 (by omega)
      · intro e
        rw [e]
    simp only [Op.eqItems, Nat.mul_one, Sem.run_bind, hp, hq, Result.andThen_ok]
    rw [he, Result.andThen_ok, hb, List.all_cons]
    cases hc : (xs.getD i 0 == ys.getD i 0)
    · simp
    · simpa using ih
theorem all_range (xs ys : List UInt8) (n : Nat) (hx : xs.length = n) (hy : ys.length = n) : ((List.range n).all fun i => xs.getD i 0 == ys.getD i 0) = decide (xs = ys) := by
  rw [Bool.eq_iff_iff]
  simp only [List.all_eq_true, List.mem_range, beq_iff_eq, decide_eq_true_eq]
  constructor
  · intro h
    apply List.ext_getElem (by omega)
    intro i h1 h2
    have := h i (by omega)
    simpa [List.getD, List.getElem?_eq_getElem h1, List.getElem?_eq_getElem h2] using this
  · rintro rfl i _
    rfl
theorem equalIn_bytes (T n : Nat) (d : Nat) (hT : Tryz.prog.underlying T = some (.array n 5)) (xs ys : List UInt8) (hx : xs.length = n) (hy : ys.length = n) (w : World) :
    (Op.equalIn (d + 1 + 1) T (.agg (xs.map Y).toArray) (.agg (ys.map Y).toArray)).run Tryz.prog w = .ok (decide (xs = ys)) w := by
  have hc : Tryz.prog.cellsOf 5 = 1 := by kernel_rfl
  have hi : ∃ i, Tryz.prog.info? 5 = some i := by
    cases h : Tryz.prog.info? 5 with
    | some i => exact ⟨i, rfl⟩
    | none => exact absurd (show (Tryz.prog.info? 5).isSome = true by kernel_rfl) (by rw [h]; decide)
  obtain ⟨i, hi⟩ := hi
  rw [run_equalIn_array (P := Tryz.prog) w (d + 1) _ _ hT hi, hc, eqItems_bytes d xs ys w _ (by intro j hj; rw [List.mem_range] at hj; omega), all_range xs ys n hx hy]
theorem eql_bytes (T n : Nat) (hT : Tryz.prog.underlying T = some (.array n 5)) (xs ys : List UInt8) (hx : xs.length = n) (hy : ys.length = n) (w : World) :
    (binOp .eql T (.agg (xs.map Y).toArray) (.agg (ys.map Y).toArray)).run Tryz.prog w = .ok (.bool (decide (xs = ys))) w := by
  rw [run_eql_struct (P := Tryz.prog) w T, equalIn_bytes T n 9998 hT xs ys hx hy w]
  rfl
theorem neq_bytes (T n : Nat) (hT : Tryz.prog.underlying T = some (.array n 5)) (xs ys : List UInt8) (hx : xs.length = n) (hy : ys.length = n) (w : World) :
    (binOp .neq T (.agg (xs.map Y).toArray) (.agg (ys.map Y).toArray)).run Tryz.prog w = .ok (.bool (!decide (xs = ys))) w := by
  rw [run_neq_struct (P := Tryz.prog) w T, equalIn_bytes T n 9998 hT xs ys hx hy w]
  rfl
end Go.Proofs.YtfaijkgfhdhhbaaGreatDoor
namespace Go.Proofs.YtfaijkgfhdhhbaaGreatDoor
section
variable {P : Program} {ops : Array Oper} {md : Region.Mode} {C : World → Prop}
/-- Each operation of the head from m on has one behind it that waits for it. -/
def sinkF (md : Region.Mode) (ops : Array Oper) (m n : Nat) : Bool :=
  (List.range n).all fun i => decide (i < m) || (List.range (n + 1)).any fun j => decide (i < j) && Region.waitsFor md ops j i
theorem tail_waitsF {m n : Nat} {up : Array Bool} (hs : sinkF md ops m n = true) (hc : Region.chainB md ops n = true) (hn : n < ops.size) (inv : HeadInv md ops n up) (d : Nat) :
    ∀ i, n - i = d → m ≤ i → i < n → up.getD i true = false → ∀ t, n ≤ t → t ∉ Region.ready md ops up := by
  induction d using Nat.strongRecOn with
  | ind d ih =>
    intro i hd hm hi hun t ht hr
    obtain ⟨-, ot, hot, hall⟩ := mem_ready.1 hr
    have hts : t < ops.size := (Array.getElem?_eq_some_iff.1 hot).1
    rcases Nat.lt_or_ge n t with hgt | hle
    · have h1 := List.all_eq_true.1 hc t (List.mem_range.2 hts)
      simp only [Bool.or_eq_true, decide_eq_true_eq] at h1
      obtain ⟨o', ho', e, he, hb, hon⟩ := Region.waitsFor_spec (h1.resolve_left (by omega))
      obtain rfl : o' = ot := Option.some.inj (ho'.symm.trans hot)
      have h2 := hall e he hb
      rw [hon, getD_both (inv.tail (t - 1) (by omega) (by omega))] at h2
      cases h2
    · obtain rfl : t = n := Nat.le_antisymm hle ht
      have h1 := List.all_eq_true.1 hs i (List.mem_range.2 hi)
      simp only [Bool.or_eq_true, decide_eq_true_eq, List.any_eq_true, Bool.and_eq_true, List.mem_range] at h1
      obtain ⟨j, hj, hij, hw⟩ := h1.resolve_left (by omega)
      obtain ⟨oj, hoj, e, he, hb, hon⟩ := Region.waitsFor_spec hw
      rcases Nat.lt_or_ge j t with hjt | hjt
      · cases hl : up.getD j false with
        | true =>
          have h2 := inv.closed j oj hoj hl e he hb
          rw [hon, getD_both hun] at h2
          cases h2
        | false => exact ih (t - j) (by omega) j rfl (by omega) hjt (getD_in (by rw [inv.size]; omega) hl) t (Nat.le_refl _) hr
      · obtain rfl : j = t := by omega
        obtain rfl : oj = ot := Option.some.inj (hoj.symm.trans hot)
        have h2 := hall e he hb
        rw [hon, getD_both hun] at h2
        cases h2
/-- f operations of the head come up, in whatever order; then L. -/
def AnyHead (P : Program) (md : Region.Mode) (ops : Array Oper) (C : World → Prop) (n : Nat) (L : Array Bool → Act → Prop) : Nat → Array Bool → Act → Prop
  | 0 => L
  | f + 1 => fun up a => Region.ready md ops up ≠ [] ∧ ∀ i, i ∈ Region.ready md ops up → i < n ∧ qOp P ops C i (AnyHead P md ops C n L f (up.setIfInBounds i true)) a
theorem any_of_head {n g : Nat} {L : Array Bool → Act → Prop} {Q : Exit → Act → World → Prop} (hL : ∀ up a w, C w → L up a → wpAny P md ops Q g up a w) (f : Nat) :
    ∀ up a w, C w → AnyHead P md ops C n L f up a → wpAny P md ops Q (f + g) up a w := by
  induction f with
  | zero =>
    intro up a w hw h
    rw [Nat.zero_add]
    exact hL up a w hw h
  | succ f ih =>
    intro up a w hw h
    rw [Nat.succ_add]
    refine ⟨fun e => absurd e h.1, fun i hi => ?_⟩
    exact wpOp_of_qOp hw (fun a' w' hw' h' => ih _ a' w' hw' h') (h.2 i hi).2
theorem head_below {m n i j : Nat} {up : Array Bool} (hs : sinkF md ops m n = true) (hc : Region.chainB md ops n = true) (hn : n < ops.size) (him : m ≤ i) (hin : i < n) (inv : HeadInv md ops n up)
    (hi : i ∈ Region.ready md ops up) (hj : j ∈ Region.ready md ops up) : j < n := by
  rcases Nat.lt_or_ge j n with h | h
  · exact h
  · exact absurd hj (tail_waitsF hs hc hn inv (n - i) i rfl him hin (mem_ready.1 hi).1 j h)
theorem head_first {m n i : Nat} {oi : Oper} {v : Value} {L : Array Bool → Act → Prop} (hi : ops[i]? = some oi) (hsel : ∀ (j : Nat) (o : Oper) cs b, ops[j]? = some o → o.op ≠ .select cs b)
    (hs : sinkF md ops m n = true) (hc : Region.chainB md ops n = true) (hn : n < ops.size) (him : m ≤ i) (hin : i < n) (hdone : ∀ up a, L up a → ∀ j, j ∈ Region.ready md ops up → n ≤ j) (f : Nat) :
    ∀ up a, HeadInv md ops n up → (∀ j oj, ops[j]? = some oj → j ≠ i → up.getD j true = false → (∀ e ∈ oj.after, Region.binds md e = true → e.on ≠ i) → oi.apart ops oj = true) →
      i ∈ Region.ready md ops up → YieldsIn P ops C oi v a → AnyHead P md ops C n L f (up.setIfInBounds i true) (a.put oi.dst v) → AnyHead P md ops C n L (f + 1) up a := by
  induction f with
  | zero =>
    intro up a inv _ hr hy H
    refine ⟨List.ne_nil_of_mem hr, fun j hj => ⟨head_below hs hc hn him hin inv hr hj, ?_⟩⟩
    rcases Nat.decEq j i with hji | rfl
    · have h1 := hdone _ _ H j (ready_mono hj hji)
      have h2 := head_below hs hc hn him hin inv hr hj
      omega
    · exact hy.qOp hi H
  | succ f ih =>
    intro up a inv hfree hr hy H
    refine ⟨List.ne_nil_of_mem hr, fun j hj => ⟨head_below hs hc hn him hin inv hr hj, ?_⟩⟩
    rcases Nat.decEq j i with hji | rfl
    · obtain ⟨hjun, oj, hoj, hall⟩ := mem_ready.1 hj
      have hun := (mem_ready.1 hr).1
      have hnot : ∀ e ∈ oj.after, Region.binds md e = true → e.on ≠ i := by
        rintro e he hb rfl
        have := hall e he hb
        rw [getD_both hun] at this
        cases this
      have h1 := qOp_put hoj (hfree j oj hoj hji hjun hnot) (fun cs b => hsel i oi cs b hi) (fun cs b => hsel j oj cs b hoj) hy (H.2 j (ready_mono hj hji)).2
      refine qOp_mono (fun a' h2 => ih (up.setIfInBounds j true) a' (inv.set hj (head_below hs hc hn him hin inv hr hj)) ?_ (ready_mono hr (Ne.symm hji)) h2.1 (by rw [Array.setIfInBounds_comm _ _ hji]; exact h2.2)) h1
      intro k ok hk hki hku hno
      refine hfree k ok hk hki ?_ hno
      rcases Nat.decEq j k with hjk | rfl
      · rwa [getD_set_ne true hjk] at hku
      · exact hjun
    · exact hy.qOp hi H
theorem head_lex {m n g : Nat} {T : Act → Prop} (hsel : Region.noSelect ops = true) (hs : sinkF md ops m n = true) (hc : Region.chainB md ops n = true) (hn : n < ops.size) (l : List Oper) :
    ∀ k up a, m ≤ k → (∀ j, j < l.length → l[j]? = ops[k + j]?) → k + l.length = n → HeadInv md ops n up → Region.lexHead md ops g l.length k up = true → wpQuiet P ops C T l a →
      AnyHead P md ops C n (fun up' a' => Region.seqB md ops g n up' = true ∧ T a') l.length up a := by
  induction l with
  | nil =>
    intro k up a _ _ hk _ hB h
    obtain rfl : k = n := hk
    exact ⟨hB, h⟩
  | cons o l ih =>
    intro k up a hmk hl hk inv hB h
    have h0 : ops[k]? = some o := (hl 0 (Nat.zero_lt_succ _)).symm
    simp only [List.length_cons] at hk
    simp only [List.length_cons, Region.lexHead, Bool.and_eq_true] at hB
    have hkn : k < n := by omega
    have hr : k ∈ Region.ready md ops up := by simpa using hB.1.1
    have hq : qOp P ops C k (wpQuiet P ops C T l) a := by
      unfold qOp
      rw [h0]
      exact h
    obtain ⟨v, hy, hK⟩ := yieldsIn_of_qOp h0 hq
    refine head_first h0 (Region.noSelect_spec hsel) hs hc hn hmk hkn (fun _ _ hL => seqB_ready hL.1) l.length up a inv (Region.free_spec h0 hB.1.2) hr hy ?_
    refine ih (k + 1) _ _ (by omega) (fun j hj => ?_) (by omega) (inv.set hr hkn) hB.2 hK
    have := hl (j + 1) (Nat.succ_lt_succ hj)
    rw [List.getElem?_cons_succ] at this
    rw [this, Nat.add_assoc, Nat.add_comm 1 j]
def lexTailF (md : Region.Mode) (ops : Array Oper) (m n : Nat) (up : Array Bool) : Bool :=
  Region.noSelect ops && decide (m ≤ n) && decide (n < ops.size) && sinkF md ops m n && Region.chainB md ops n && Region.lexHead md ops (ops.size - n) (n - m) m up
theorem any_qtail {m n : Nat} {Q : Exit → Act → World → Prop} {a : Act} {w : World} {l : List Oper} {up : Array Bool} (hB : lexTailF .any l.toArray m n up = true) (inv : HeadInv .any l.toArray n up)
    (hC : C w) (h : wpQuiet P l.toArray C (fun a' => ∀ w', C w' → wpList P l.toArray Q (l.drop n) a' w') ((l.take n).drop m) a) : wpAny P .any l.toArray Q (l.length - m) up a w := by
  simp only [lexTailF, Bool.and_eq_true, decide_eq_true_eq] at hB
  obtain ⟨⟨⟨⟨⟨hsel, hmn⟩, hn⟩, hs⟩, hc⟩, hlex⟩ := hB
  have hn' : n < l.length := by simpa using hn
  have htl : ((l.take n).drop m).length = n - m := by rw [List.length_drop, List.length_take]; omega
  have hdl : (l.drop n).length = l.toArray.size - n := by rw [List.length_drop, List.size_toArray]
  have H := head_lex (md := .any) (g := l.toArray.size - n) hsel hs hc hn ((l.take n).drop m) m up a (Nat.le_refl _) (by
    intro j hj
    rw [htl] at hj
    rw [List.getElem?_drop, List.getElem?_take_of_lt (by omega), List.getElem?_toArray]) (by omega) inv (by rw [htl]; exact hlex) h
  have key := any_of_head (Q := Q) (g := l.toArray.size - n) (by
    intro up a' w' hw' hL
    have := wpAny_of_seq (md := .any) (Q' := Q) (l.drop n) n up a' w' (fun j => by simp [List.getElem?_drop]) (by rw [hdl]; exact hL.1) (hL.2 w' hw')
    rwa [hdl] at this) _ _ _ _ hC H
  rw [htl, List.size_toArray, show n - m + (l.length - n) = l.length - m by omega] at key
  exact key
theorem inv_none {n : Nat} : HeadInv md ops n (Array.replicate ops.size false) where
  size := by simp
  closed := by
    intro j oj _ hl
    rw [getD_replicate_false] at hl
    cases hl
  tail := fun t _ ht => getD_in (by simpa using ht) (getD_replicate_false _ _)
/-- The head, walked once, in a class of worlds; the tail, from every world of the class. -/
theorem wp_region_qtail {id : Nat} {Q : Exit → Act → World → Prop} {a : Act} {w : World} {l : List Oper} (n : Nat) (hm : P.follows .mixedOrders = true) (hB : lexTailF .any l.toArray 0 n (Array.replicate l.toArray.size false) = true)
    (hC : C { w with drawn := w.drawn + 1 }) (h : wpQuiet P l.toArray C (fun a' => ∀ w', C w' → wpList P l.toArray Q (l.drop n) a' w') (l.take n) a) : (Code.region id l.toArray true).wp P Q a w :=
  wp_region_any hm (by
    have := any_qtail (C := C) (Q := Q) hB inv_none hC (by simpa using h)
    simpa using this)
/-- The same; the first operation, which hands a slot on, may stay behind the tail's beginning: it is taken first. -/
theorem wp_region_qtail1 {id : Nat} {Q : Exit → Act → World → Prop} {a : Act} {w : World} {o : Oper} {l : List Oper} (n : Nat) (x : Operand) (hm : P.follows .mixedOrders = true) (ho : o.op = .move x) (hg : o.guard = none)
    (hf : Region.free .any (o :: l).toArray (Array.replicate (l.length + 1) false) 0 = true) (hr : (Region.ready .any (o :: l).toArray (Array.replicate (l.length + 1) false)).contains 0 = true)
    (hB : lexTailF .any (o :: l).toArray 1 (n + 1) ((Array.replicate (l.length + 1) false).setIfInBounds 0 true) = true)
    (hQ : ∀ c b w, Q (.panic c) (b.put o.dst (a.eval x)) w → Q (.panic c) b w)
    (hC : C { w with drawn := w.drawn + 1 }) (h : wpQuiet P (o :: l).toArray C (fun a' => ∀ w', C w' → wpList P (o :: l).toArray Q (l.drop n) a' w') (l.take n) (a.put o.dst (a.eval x))) : (Code.region id (o :: l).toArray true).wp P Q a w := by
  refine wp_region_any hm ?_
  have hs : Region.noSelect (o :: l).toArray = true := by
    simp only [lexTailF, Bool.and_eq_true] at hB
    exact hB.1.1.1.1.1
  have hn : n + 1 < (o :: l).toArray.size := by
    simp only [lexTailF, Bool.and_eq_true, decide_eq_true_eq] at hB
    exact hB.1.1.1.2
  have key := any_qtail (C := C) (Q := Q) (w := { w with drawn := w.drawn + 1 }) hB ((inv_none (md := .any) (ops := (o :: l).toArray) (n := n + 1)).set (by simpa using hr) (by omega)) hC (by simpa using h)
  have e : (o :: l).toArray.size = l.length + 1 := by simp
  rw [e]
  refine wpAny_take (i := 0) (oi := o) (v := a.eval x) rfl hs hf hr hQ (.inl ⟨by unfold Region.wanted; rw [hg], fun w => BigFrame.run_move x ho w⟩) ?_
  simpa using key
/-- A load of a row that every world of the class holds. -/
theorem q_load {Q : Act → Prop} {a : Act} {o : Oper} {rest : List Oper} (ty : TypeId) (x : Operand) (ho : o.op = .load ty x) (hw : Region.wanted o (yielded ops a.tmps) = true) (b : Nat) (cs : Array Value)
    (hx : a.eval x = .pointer (some ⟨b, 0, none⟩)) (d : TypeDesc) (hu : P.underlying ty = some d) (hd : d.isRow = true) (hi : (P.info? ty).map (·.size) = some cs.size) (hS : ∀ w, C w → ∀ i, w.cell? ⟨b, i, none⟩ = cs[i]?)
    (hk : wpQuiet P ops C Q rest (a.put o.dst (.agg cs))) : wpQuiet P ops C Q (o :: rest) a := by
  have hy := yieldsIf_load_mid (P := P) (S := C) hw ty x ho b 0 hx cs.toList d (fun w h j v hv => by rw [Nat.zero_add, hS w h, ← hv]; simp) hu hd (by simpa using hi)
  rcases hy with ⟨-, h⟩ | ⟨h, -⟩
  · refine BigFrame.wpQuiet_want hw fun K hK => ⟨.agg cs, fun w hc => ?_, hK _ hk⟩
    unfold Oper.quietAt
    rw [h w hc]
    exact ⟨rfl, by simp⟩
  · rw [hw] at h
    cases h
end
end Go.Proofs.YtfaijkgfhdhhbaaGreatDoor
namespace Go.Proofs.YtfaijkgfhdhhbaaGreatDoor
open Go.RowKit

/-- A name's cells. -/
def encN (x : Nm) : List Value := x.l.map Y
theorem encN_len (x : Nm) : (encN x).length = 32 := by rw [encN, List.length_map, x.h]
theorem encN_one (x : Nm) : ∀ v ∈ encN x, v.oneCell' = true := by
  intro v hv
  obtain ⟨_, _, rfl⟩ := List.mem_map.1 hv
  rfl
theorem encN_size (x : Nm) : (encN x).toArray.size = 32 := by rw [List.size_toArray, encN_len]
theorem encN_all (x : Nm) : (encN x).toArray.all (·.oneCell') = true := all_oneCell_toArray (encN_one x)
theorem infoN : (Tryz.prog.info? 24).map (·.size) = some 32 := by kernel_rfl
theorem eql_nm (x y : Nm) (w : World) : (binOp .eql 24 (.agg (encN x).toArray) (.agg (encN y).toArray)).run Tryz.prog w = .ok (.bool (decide (x = y))) w := by
  have h := eql_bytes 24 32 Tryz.underlying24 x.l y.l x.h y.h w
  rw [show decide (x.l = y.l) = decide (x = y) from decide_eq_decide.2 ⟨Nm.same, fun e => by rw [e]⟩] at h
  exact h
theorem neq_nm (x y : Nm) (w : World) : (binOp .neq 24 (.agg (encN x).toArray) (.agg (encN y).toArray)).run Tryz.prog w = .ok (.bool (!decide (x = y))) w := by
  have h := neq_bytes 24 32 Tryz.underlying24 x.l y.l x.h y.h w
  rw [show decide (x.l = y.l) = decide (x = y) from decide_eq_decide.2 ⟨Nm.same, fun e => by rw [e]⟩] at h
  exact h

/-- A row of names. -/
def RowN (w : World) (b o : Nat) (ids : List Nm) : Prop := ∀ i, i < ids.length → w.rangeAt b (o + i * 32) (encN (ids.getD i default))
section
variable {w w' : World} {b o B : Nat} {ids : List Nm} {R : Nat → Prop}
theorem RowN.cell (h : RowN w b o ids) {i j : Nat} {v : Value} (hi : i < ids.length) (hv : (encN (ids.getD i default))[j]? = some v) : w.cell? ⟨b, o + i * 32 + j, none⟩ = some v := h i hi j v hv
theorem RowN.lt (h : RowN w b o ids) (h0 : 0 < ids.length) : b < w.heap.size := by
  have hl := encN_len (ids.getD 0 default)
  have := h 0 h0 0 _ (List.getElem?_eq_getElem (show 0 < (encN (ids.getD 0 default)).length by omega))
  have := World.block_lt_of_cell? w _ this
  exact this
theorem RowN.below (h : RowN w b o ids) (hb : Below B w w') (hB : b < B) : RowN w' b o ids := fun i hi j v hv => (hb.cell hB).trans (h i hi j v hv)
theorem RowN.take (h : RowN w b o ids) (n : Nat) : RowN w b o (ids.take n) := fun i hi => by
  rw [List.length_take] at hi
  have e : (ids.take n).getD i default = ids.getD i default := by
    rw [List.getD_eq_getElem?_getD, List.getD_eq_getElem?_getD, List.getElem?_take_of_lt (by omega)]
  rw [e]
  exact h i (by omega)
end

/-- A slice's block. -/
def inBlk (A : Option Addr) (j : Nat) : Prop := ∃ a, A = some a ∧ a.block = j
/-- A slice of names, as it came in or of the call's own. -/
def ArgN (w : World) (A : Option Addr) (c : Nat) (ids : List Nm) : Prop :=
  ids.length ≤ c ∧ c ≤ maxLen ∧ (A = none → c = 0) ∧ (0 < ids.length → ∃ b o, A = some ⟨b, o, none⟩ ∧ RowN w b o ids)
theorem ArgN.nil {w : World} {c : Nat} {ids : List Nm} (h : ArgN w none c ids) : c = 0 ∧ ids = [] := by
  have h0 := h.2.2.1 rfl
  have h1 := h.1
  exact ⟨h0, List.length_eq_zero_iff.1 (by omega)⟩
theorem ArgN.below {w w' : World} {A : Option Addr} {c : Nat} {ids : List Nm} {B : Nat} (h : ArgN w A c ids) (hb : Below B w w') (hB : ∀ b, inBlk A b → 0 < ids.length → b < B) : ArgN w' A c ids := by
  obtain ⟨h1, h2, h3, h4⟩ := h
  refine ⟨h1, h2, h3, fun h0 => ?_⟩
  obtain ⟨b, o, e, hr⟩ := h4 h0
  exact ⟨b, o, e, hr.below hb (hB b ⟨_, e, rfl⟩ h0)⟩
theorem ArgN.lt {w : World} {A : Option Addr} {c : Nat} {ids : List Nm} (h : ArgN w A c ids) {b : Nat} (hb : inBlk A b) (h0 : 0 < ids.length) : b < w.heap.size := by
  obtain ⟨b', o, e, hr⟩ := h.2.2.2 h0
  obtain ⟨a, rfl, rfl⟩ := hb
  injection e with e
  subst e
  exact hr.lt h0
theorem ArgN.later {w w' : World} {A : Option Addr} {c : Nat} {ids : List Nm} (h : ArgN w A c ids) (hb : Below w.heap.size w w') : ArgN w' A c ids := h.below hb fun _ hj h0 => h.lt hj h0
theorem ArgN.take {w : World} {A : Option Addr} {c : Nat} {ids : List Nm} (h : ArgN w A c ids) (n : Nat) : ArgN w A c (ids.take n) := by
  obtain ⟨h1, h2, h3, h4⟩ := h
  refine ⟨by rw [List.length_take]; omega, h2, h3, fun h0 => ?_⟩
  rw [List.length_take] at h0
  obtain ⟨b, o, e, hr⟩ := h4 (by omega)
  exact ⟨b, o, e, hr.take n⟩

/-- A load of a range that every world of the class holds. -/
theorem q_loadm {P : Program} {ops : Array Oper} {C : World → Prop} {Q : Act → Prop} {a : Act} {o : Oper} {rest : List Oper} (ty : TypeId) (x : Operand) (ho : o.op = .load ty x) (hw : Region.wanted o (yielded ops a.tmps) = true) (b off : Nat) (cs : List Value)
    (hx : a.eval x = .pointer (some ⟨b, off, none⟩)) (d : TypeDesc) (hu : P.underlying ty = some d) (hd : d.isRow = true) (hi : (P.info? ty).map (·.size) = some cs.length) (hS : ∀ w, C w → w.rangeAt b off cs)
    (hk : wpQuiet P ops C Q rest (a.put o.dst (.agg cs.toArray))) : wpQuiet P ops C Q (o :: rest) a := by
  have hy := yieldsIf_load_mid (P := P) (S := C) hw ty x ho b off hx cs d hS hu hd hi
  rcases hy with ⟨-, h⟩ | ⟨h, -⟩
  · refine BigFrame.wpQuiet_want hw fun K hK => ⟨.agg cs.toArray, fun w hc => ?_, hK _ hk⟩
    unfold Oper.quietAt
    rw [h w hc]
    exact ⟨rfl, by simp⟩
  · rw [hw] at h
    cases h
end Go.Proofs.YtfaijkgfhdhhbaaGreatDoor
namespace Go.Proofs.YtfaijkgfhdhhbaaGreatDoor
open Go.RowKit

/-- An entry's cells. -/
def encE (e : En) : List Value := .string ⟨e.name.toArray⟩ :: .bool e.dir :: encN e.id
theorem encE_len (e : En) : (encE e).length = 34 := by simp [encE, encN_len]
theorem encE_one (e : En) : ∀ v ∈ encE e, v.oneCell' = true := by
  intro v hv
  simp only [encE, List.mem_cons] at hv
  rcases hv with rfl | rfl | hv
  · rfl
  · rfl
  · exact encN_one _ v hv
theorem encE_size (e : En) : (encE e).toArray.size = 34 := by rw [List.size_toArray, encE_len]
theorem encE_all (e : En) : (encE e).toArray.all (·.oneCell') = true := all_oneCell_toArray (encE_one e)
theorem infoE : (Tryz.prog.info? 49).map (·.size) = some 34 := by kernel_rfl
theorem infoE_l (e : En) : (Tryz.prog.info? 49).map (·.size) = some (encE e).length := by rw [encE_len]; exact infoE
theorem infoE_s (e : En) : (Tryz.prog.info? 49).map (·.size) = some (encE e).toArray.size := by rw [encE_size]; exact infoE

/-- A row of entries. -/
def RowE (w : World) (b o : Nat) (es : List En) : Prop := ∀ i, i < es.length → w.rangeAt b (o + i * 34) (encE (es.getD i default))
section
variable {w w' : World} {b o B : Nat} {es : List En} {R : Nat → Prop}
theorem RowE.lt (h : RowE w b o es) (h0 : 0 < es.length) : b < w.heap.size := by
  have hl := encE_len (es.getD 0 default)
  have := h 0 h0 0 _ (List.getElem?_eq_getElem (show 0 < (encE (es.getD 0 default)).length by omega))
  have := World.block_lt_of_cell? w _ this
  exact this
theorem RowE.below (h : RowE w b o es) (hb : Below B w w') (hB : b < B) : RowE w' b o es := fun i hi j v hv => (hb.cell hB).trans (h i hi j v hv)
theorem RowE.take (h : RowE w b o es) (n : Nat) : RowE w b o (es.take n) := fun i hi => by
  rw [List.length_take] at hi
  have e : (es.take n).getD i default = es.getD i default := by
    rw [List.getD_eq_getElem?_getD, List.getD_eq_getElem?_getD, List.getElem?_take_of_lt (by omega)]
  rw [e]
  exact h i (by omega)
/-- The name of an entry of a row. -/
theorem RowE.name (h : RowE w b o es) {i : Nat} (hi : i < es.length) : w.cell? ⟨b, o + i * 34, none⟩ = some (.string ⟨(es.getD i default).name.toArray⟩) := by
  have := h i hi 0 _ (show (encE (es.getD i default))[0]? = some _ from rfl)
  simpa using this
theorem RowE.dir (h : RowE w b o es) {i : Nat} (hi : i < es.length) : w.cell? ⟨b, o + i * 34 + 1, none⟩ = some (.bool (es.getD i default).dir) := h i hi 1 _ (show (encE (es.getD i default))[1]? = some _ from rfl)
end
/-- A slice of entries, as it came in or of the call's own. -/
def ArgE (w : World) (A : Option Addr) (c : Nat) (es : List En) : Prop :=
  es.length ≤ c ∧ c ≤ maxLen ∧ (A = none → c = 0) ∧ (0 < es.length → ∃ b o, A = some ⟨b, o, none⟩ ∧ RowE w b o es)
theorem ArgE.nil {w : World} {c : Nat} {es : List En} (h : ArgE w none c es) : c = 0 ∧ es = [] := by
  have h0 := h.2.2.1 rfl
  have h1 := h.1
  exact ⟨h0, List.length_eq_zero_iff.1 (by omega)⟩
theorem ArgE.below {w w' : World} {A : Option Addr} {c : Nat} {es : List En} {B : Nat} (h : ArgE w A c es) (hb : Below B w w') (hB : ∀ b, inBlk A b → 0 < es.length → b < B) : ArgE w' A c es := by
  obtain ⟨h1, h2, h3, h4⟩ := h
  refine ⟨h1, h2, h3, fun h0 => ?_⟩
  obtain ⟨b, o, e, hr⟩ := h4 h0
  exact ⟨b, o, e, hr.below hb (hB b ⟨_, e, rfl⟩ h0)⟩
theorem ArgE.lt {w : World} {A : Option Addr} {c : Nat} {es : List En} (h : ArgE w A c es) {b : Nat} (hb : inBlk A b) (h0 : 0 < es.length) : b < w.heap.size := by
  obtain ⟨b', o, e, hr⟩ := h.2.2.2 h0
  obtain ⟨a, rfl, rfl⟩ := hb
  injection e with e
  subst e
  exact hr.lt h0
theorem ArgE.later {w w' : World} {A : Option Addr} {c : Nat} {es : List En} (h : ArgE w A c es) (hb : Below w.heap.size w w') : ArgE w' A c es := h.below hb fun _ hj h0 => h.lt hj h0
theorem ArgE.take {w : World} {A : Option Addr} {c : Nat} {es : List En} (h : ArgE w A c es) (n : Nat) : ArgE w A c (es.take n) := by
  obtain ⟨h1, h2, h3, h4⟩ := h
  refine ⟨by rw [List.length_take]; omega, h2, h3, fun h0 => ?_⟩
  rw [List.length_take] at h0
  obtain ⟨b, o, e, hr⟩ := h4 (by omega)
  exact ⟨b, o, e, hr.take n⟩
/-- A whole entry in a block of its own. -/
theorem whole_name {w : World} {g : Nat} {t : TypeId} {e : En} (h : Whole w g t (encE e).toArray) : w.cell? ⟨g, 0, none⟩ = some (.string ⟨e.name.toArray⟩) := (h.at_ 0).trans rfl
theorem whole_dir {w : World} {g : Nat} {t : TypeId} {e : En} (h : Whole w g t (encE e).toArray) : w.cell? ⟨g, 1, none⟩ = some (.bool e.dir) := (h.at_ 1).trans rfl
theorem made_below' {w w' : World} {o : Obj} (h : (w.alloc o).grownBy w' (some w.heap.size)) : Below w.heap.size w w' :=
  be_grown ((Below.refl w.heap.size w).alloc (Nat.le_refl _) _) h (by simp) (fun j hj => by injection hj with hj; omega)
/-! ### Blocks that bear no frozen cell -/
def OwnB (w : World) (A : Option Addr) : Prop := ∀ j, inBlk A j → ∃ t cs, Whole w j t cs
theorem OwnB.nil (w : World) : OwnB w none := by rintro j ⟨a, e, -⟩; cases e
theorem OwnB.later {w w' : World} {A : Option Addr} (h : OwnB w A) (hb : Below w.heap.size w w') : OwnB w' A := by
  intro j hj
  obtain ⟨t, cs, hw⟩ := h j hj
  exact ⟨t, cs, hw.below hb hw.lt⟩
theorem OwnB.grown {w w' : World} {A : Option Addr} {row : Option Nat} (h : OwnB w A) (hg : w.grownBy w' row) (hn : ∀ j, inBlk A j → some j ≠ row) : OwnB w' A := by
  intro j hj
  obtain ⟨t, cs, hw⟩ := h j hj
  exact ⟨t, cs, hw.grown hg (hn j hj)⟩
theorem OwnB.set {w : World} {A : Option Addr} (h : OwnB w A) (g i : Nat) (v : Value) : OwnB (w.setCell ⟨g, i, none⟩ v) A := by
  intro j hj
  obtain ⟨t, cs, hw⟩ := h j hj
  by_cases e : j = g
  · subst e
    exact ⟨t, _, hw.put i v⟩
  · exact ⟨t, cs, hw.aside (p := ⟨g, i, none⟩) e v⟩
theorem own_blk {w : World} {B : Nat} {e : TypeId} {k n c : Nat} {A : Option Addr} {xs : List Value} (h : w.ownsRow B e k (.slice A n c) n xs) : OwnB w A := by
  rcases h.2 with ⟨h0, -⟩ | ⟨g, cap, cur, hv, hB, hg, -⟩
  · injection h0 with e1
    rw [e1]
    exact OwnB.nil w
  · injection hv with e1
    subst e1
    rintro j ⟨a, e, rfl⟩
    injection e with e
    subst e
    exact ⟨_, cur, hg⟩
/-- The call's own: behind what was there, and not frozen. -/
def Own2 (B : Nat) (w : World) (A : Option Addr) : Prop := (∀ j, inBlk A j → B ≤ j) ∧ OwnB w A
theorem Own2.nil (B : Nat) (w : World) : Own2 B w none := ⟨by (rintro j ⟨a, e, -⟩; cases e), OwnB.nil w⟩
end Go.Proofs.YtfaijkgfhdhhbaaGreatDoor
namespace Go.Proofs.YtfaijkgfhdhhbaaGreatDoor.Door
open Go.RowKit Go.ChangeShapes Go.WideShapes Go.ChangeAt

theorem ceEntry : Tryz.prog.cellsOf 49 = 34 := by kernel_rfl
theorem ceStr : Tryz.prog.cellsOf 9 = 1 := by kernel_rfl
theorem ceBool : Tryz.prog.cellsOf 4 = 1 := by kernel_rfl
section
variable {H : Type} {enc : TypeId × Value → H} {W : World} {base : Nat} {v : Value} {d : DataW H} {p : List MemPlace}
set_option maxRecDepth 100000 in
theorem entry_of_cells {cs : List Value} {sp : Nat → Bool} {held : Bool} {fuel : Nat} {x : DataW H × List MemPlace} {b : Nat} (hf : DataW.trod enc Tryz.prog W b sp held fuel 49 cs = some x) :
    ∃ e : En, cs = encE e ∧ e.name.length ≤ maxLen := by
  obtain ⟨y0, y1, y2, n, -, hl, h0, h1, h2⟩ := Go.Deep.trod_struct3 Tryz.underlying49 hf
  rw [ceEntry] at hl
  obtain ⟨s, e0, -, hs⟩ := DataW.trod_string Tryz.underlying9 h0
  obtain ⟨dr, e1, -⟩ := DataW.trod_bool Tryz.underlying4 h1
  obtain ⟨id, hid, e2⟩ := id_of_cells h2
  simp only [ceStr, ceBool, ceId] at e0 e1 e2
  have e : cs = cs.take 1 ++ ((cs.drop 1).take 1 ++ (cs.drop 2).take 32) := by
    have a2 : (cs.drop 2).take 32 = cs.drop 2 := List.take_of_length_le (by rw [List.length_drop]; omega)
    rw [a2, show cs.drop 2 = (cs.drop 1).drop 1 by rw [List.drop_drop], List.take_append_drop, List.take_append_drop]
  refine ⟨⟨s.data.toList, dr, ⟨id, hid⟩⟩, ?_, by show s.data.toList.length ≤ maxLen; rw [Array.length_toList]; exact hs⟩
  rw [e, e1, e2]
  rw [List.drop_zero] at e0
  rw [e0]
  show _ = Value.string ⟨s.data.toList.toArray⟩ :: Value.bool dr :: (id.map Y)
  simp
set_option maxRecDepth 100000 in
theorem open_entries (hval : Value.okWide Tryz.prog W .any base 22 v) (h : DataW.Trod enc Tryz.prog W 0 (fun _ => true) true 22 v d p) :
    ∃ A c es, v = .slice A (List.length es) c ∧ ArgE W A c es ∧ ∀ e ∈ es, e.name.length ≤ maxLen := by
  obtain ⟨a0, len, cap, rfl⟩ := okWide_slice Tryz.underlying22 hval
  obtain ⟨fuel, hf⟩ := h
  rcases Go.Deep.open_slice Tryz.underlying22 hf with ⟨hcs, hx⟩ | ⟨a, len', cap', m, n, D, Pl, hcs, _, hl, hm, hmm, hx, hcell⟩
  · simp [Value.cells] at hcs
    obtain ⟨rfl, rfl, rfl⟩ := hcs
    exact ⟨none, 0, [], rfl, ⟨Nat.le_refl _, Nat.zero_le _, fun _ => rfl, fun h => absurd h (Nat.lt_irrefl _)⟩, fun e h => by cases h⟩
  · simp [Value.cells] at hcs
    obtain ⟨rfl, rfl, rfl⟩ := hcs
    simp only [if_true] at hmm
    subst hmm
    obtain ⟨f, hf⟩ := Go.Deep.choose_lt (α := En) (n := len) (p := fun i x => (∀ j v, (encE x)[j]? = some v → W.cell? ((a.add (i * 34)).add j) = some v) ∧ x.name.length ≤ maxLen) (fun i hi => by
      obtain ⟨cs', h1, h2⟩ := hcell i (by omega)
      obtain ⟨e, rfl, hn⟩ := entry_of_cells h2
      rw [ceEntry] at h1
      obtain ⟨_, h3, h4⟩ := World.cells?_some h1
      refine ⟨e, fun j v hv => ?_, hn⟩
      have hj : j < 34 := by
        have := (List.getElem?_eq_some_iff.1 hv).1
        rwa [encE_len] at this
      exact (h4 j hj).trans hv)
    refine ⟨some a, m, (List.range len).map f, by simp, ⟨by simpa using hl, hm, (fun e => by cases e), fun h0 => ?_⟩, fun e he => ?_⟩
    · simp only [List.length_map, List.length_range] at h0
      obtain ⟨b, o, sp⟩ := a
      have hz := (hf 0 h0).1 0 _ (List.getElem?_eq_getElem (by rw [encE_len]; omega))
      obtain rfl : sp = none := by simpa [Addr.add] using World.cell?_spot hz
      refine ⟨b, o, rfl, fun i hi j v hv => ?_⟩
      simp only [List.length_map, List.length_range] at hi
      have e : ((List.range len).map f).getD i default = f i := by simp [List.getD, hi]
      rw [e] at hv
      have := (hf i hi).1 j v hv
      rw [Addr.add_mid, Addr.add_mid] at this
      exact this
    · obtain ⟨i, hi, rfl⟩ := List.mem_map.1 he
      exact (hf i (List.mem_range.1 hi)).2
set_option maxRecDepth 100000 in
theorem entries_of_cells {cs : List Value} {fuel : Nat} {x : DataW H × List MemPlace} (hf : DataW.trod enc Tryz.prog W 0 (fun _ => true) true fuel 22 cs = some x) :
    ∃ A c es, cs = [.slice A (List.length es) c] ∧ ArgE W A c es ∧ ∀ e ∈ es, e.name.length ≤ maxLen := by
  rcases Go.Deep.open_slice Tryz.underlying22 hf with ⟨hcs, hx⟩ | ⟨a, len', cap', m, n, D, Pl, hcs, _, hl, hm, hmm, hx, hcell⟩
  · exact ⟨none, 0, [], hcs, ⟨Nat.le_refl _, Nat.zero_le _, fun _ => rfl, fun h => absurd h (Nat.lt_irrefl _)⟩, fun e h => by cases h⟩
  · simp only [if_true] at hmm
    subst hmm
    obtain ⟨f, hf⟩ := Go.Deep.choose_lt (α := En) (n := len') (p := fun i x => (∀ j v, (encE x)[j]? = some v → W.cell? ((a.add (i * 34)).add j) = some v) ∧ x.name.length ≤ maxLen) (fun i hi => by
      obtain ⟨cs', h1, h2⟩ := hcell i (by omega)
      obtain ⟨e, rfl, hn⟩ := entry_of_cells h2
      rw [ceEntry] at h1
      obtain ⟨_, h3, h4⟩ := World.cells?_some h1
      refine ⟨e, fun j v hv => ?_, hn⟩
      have hj : j < 34 := by
        have := (List.getElem?_eq_some_iff.1 hv).1
        rwa [encE_len] at this
      exact (h4 j hj).trans hv)
    refine ⟨some a, m, (List.range len').map f, by simpa using hcs, ⟨by simpa using hl, hm, (fun e => by cases e), fun h0 => ?_⟩, fun e he => ?_⟩
    · simp only [List.length_map, List.length_range] at h0
      obtain ⟨b, o, sp⟩ := a
      have hz := (hf 0 h0).1 0 _ (List.getElem?_eq_getElem (by rw [encE_len]; omega))
      obtain rfl : sp = none := by simpa [Addr.add] using World.cell?_spot hz
      refine ⟨b, o, rfl, fun i hi j v hv => ?_⟩
      simp only [List.length_map, List.length_range] at hi
      have e : ((List.range len').map f).getD i default = f i := by simp [List.getD, hi]
      rw [e] at hv
      have := (hf i hi).1 j v hv
      rw [Addr.add_mid, Addr.add_mid] at this
      exact this
    · obtain ⟨i, hi, rfl⟩ := List.mem_map.1 he
      exact (hf i (List.mem_range.1 hi)).2
end
end Go.Proofs.YtfaijkgfhdhhbaaGreatDoor.Door
namespace Go.Proofs.YtfaijkgfhdhhbaaGreatDoor.Door
open Go.RowKit Go.ChangeShapes Go.WideShapes Go.ChangeAt

section
variable {H : Type} {enc : TypeId × Value → H} {W : World} {base : Nat} {v : Value} {d : DataW H} {p : List MemPlace}
set_option maxRecDepth 100000 in
theorem open_ids (hval : Value.okWide Tryz.prog W .any base 25 v) (h : DataW.Trod enc Tryz.prog W 0 (fun _ => true) true 25 v d p) :
    ∃ A c ids, v = .slice A (List.length ids) c ∧ ArgN W A c ids := by
  obtain ⟨a0, len, cap, rfl⟩ := okWide_slice Tryz.underlying25 hval
  obtain ⟨fuel, hf⟩ := h
  rcases Go.Deep.open_slice Tryz.underlying25 hf with ⟨hcs, hx⟩ | ⟨a, len', cap', m, n, D, Pl, hcs, _, hl, hm, hmm, hx, hcell⟩
  · simp [Value.cells] at hcs
    obtain ⟨rfl, rfl, rfl⟩ := hcs
    exact ⟨none, 0, [], rfl, Nat.le_refl _, Nat.zero_le _, fun _ => rfl, fun h => absurd h (Nat.lt_irrefl _)⟩
  · simp [Value.cells] at hcs
    obtain ⟨rfl, rfl, rfl⟩ := hcs
    simp only [if_true] at hmm
    subst hmm
    obtain ⟨f, hf⟩ := Go.Deep.choose_lt (α := Nm) (n := len) (p := fun i x => ∀ j v, (encN x)[j]? = some v → W.cell? ((a.add (i * 32)).add j) = some v) (fun i hi => by
      obtain ⟨cs', h1, h2⟩ := hcell i (by omega)
      obtain ⟨id, hil, rfl⟩ := id_of_cells h2
      rw [ceId] at h1
      obtain ⟨_, h3, h4⟩ := World.cells?_some h1
      refine ⟨⟨id, hil⟩, fun j v hv => ?_⟩
      have hj : j < 32 := by
        have := (List.getElem?_eq_some_iff.1 hv).1
        rwa [encN_len] at this
      exact (h4 j hj).trans hv)
    refine ⟨some a, m, (List.range len).map f, by simp, by simpa using hl, hm, (fun e => by cases e), fun h0 => ?_⟩
    simp only [List.length_map, List.length_range] at h0
    obtain ⟨b, o, sp⟩ := a
    have hz := hf 0 h0 0 _ (List.getElem?_eq_getElem (by rw [encN_len]; omega))
    obtain rfl : sp = none := by simpa [Addr.add] using World.cell?_spot hz
    refine ⟨b, o, rfl, fun i hi j v hv => ?_⟩
    simp only [List.length_map, List.length_range] at hi
    have e : ((List.range len).map f).getD i default = f i := by simp [List.getD, hi]
    rw [e] at hv
    have := hf i hi j v hv
    rw [Addr.add_mid, Addr.add_mid] at this
    exact this
end
end Go.Proofs.YtfaijkgfhdhhbaaGreatDoor.Door

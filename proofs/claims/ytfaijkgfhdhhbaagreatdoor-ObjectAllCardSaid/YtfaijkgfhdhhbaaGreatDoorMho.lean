/-
  A region that draws its order: a head that only reads (a class of worlds), walked once; what is left goes in whatever order.
  The reference's Eq of objects, walked.
  The reference's Get of objects, walked.
-/
import Derived.Test.YtfaijkgfhdhhbaaGreatDoorMgh
import Derived.Test.YtfaijkgfhdhhbaaGreatDoorMhl
import Derived.Test.YtfaijkgfhdhhbaaGreatDoorMhh
import Derived.Test.YtfaijkgfhdhhbaaGreatDoorMgo
import Derived.Test.YtfaijkgfhdhhbaaGreatDoorMgp
import Derived.Test.YtfaijkgfhdhhbaaGreatDoorObE
import Derived.Test.YtfaijkgfhdhhbaaGreatDoorMhi
import Derived.Test.YtfaijkgfhdhhbaaGreatDoorRGtC
namespace Go.Proofs.YtfaijkgfhdhhbaaGreatDoor
section
variable {P : Program} {ops : Array Oper} {md : Region.Mode} {C : World → Prop}
/-- Each operation of the head, but the last, has one of the head behind it that waits for it. -/
def sinkG (md : Region.Mode) (ops : Array Oper) (m n : Nat) : Bool :=
  (List.range (n - 1)).all fun i => decide (i < m) || (List.range n).any fun j => decide (i < j) && Region.waitsFor md ops j i
/-- Each operation behind the head waits for the head's last, or for another behind it. -/
def tailG (md : Region.Mode) (ops : Array Oper) (n : Nat) : Bool :=
  (List.range ops.size).all fun t => decide (t < n) || (List.range t).any fun j => decide (n - 1 ≤ j) && Region.waitsFor md ops t j
theorem last_not {m n : Nat} {up : Array Bool} (hs : sinkG md ops m n = true) (inv : HeadInv md ops n up) (d : Nat) :
    ∀ i, n - i = d → m ≤ i → i < n → up.getD i true = false → up.getD (n - 1) true = false := by
  induction d using Nat.strongRecOn with
  | ind d ih =>
    intro i hd hm hi hun
    rcases Nat.lt_or_ge i (n - 1) with hlt | hge
    · have h1 := List.all_eq_true.1 hs i (List.mem_range.2 hlt)
      simp only [Bool.or_eq_true, decide_eq_true_eq, List.any_eq_true, Bool.and_eq_true, List.mem_range] at h1
      obtain ⟨j, hj, hij, hw⟩ := h1.resolve_left (by omega)
      obtain ⟨oj, hoj, e, he, hb, hon⟩ := Region.waitsFor_spec hw
      cases hl : up.getD j false with
      | true =>
        have h2 := inv.closed j oj hoj hl e he hb
        rw [hon, getD_both hun] at h2
        cases h2
      | false =>
        have hop : j < ops.size := (Array.getElem?_eq_some_iff.1 hoj).1
        exact ih (n - j) (by omega) j rfl (by omega) hj (getD_in (by rw [inv.size]; exact hop) hl)
    · obtain rfl : i = n - 1 := by omega
      exact hun
theorem tail_waitsG {m n : Nat} {up : Array Bool} (hs : sinkG md ops m n = true) (hc : tailG md ops n = true) (inv : HeadInv md ops n up) (i : Nat) (hm : m ≤ i) (hi : i < n) (hun : up.getD i true = false) : ∀ t, n ≤ t → t ∉ Region.ready md ops up := by
  have hlast := last_not hs inv (n - i) i rfl hm hi hun
  intro t ht hr
  obtain ⟨-, ot, hot, hall⟩ := mem_ready.1 hr
  have hts : t < ops.size := (Array.getElem?_eq_some_iff.1 hot).1
  have h1 := List.all_eq_true.1 hc t (List.mem_range.2 hts)
  simp only [Bool.or_eq_true, decide_eq_true_eq, List.any_eq_true, Bool.and_eq_true, List.mem_range] at h1
  obtain ⟨j, hj, hij, hw⟩ := h1.resolve_left (by omega)
  obtain ⟨o', ho', e, he, hb, hon⟩ := Region.waitsFor_spec hw
  obtain rfl : o' = ot := Option.some.inj (ho'.symm.trans hot)
  have h2 := hall e he hb
  rw [hon] at h2
  rcases Nat.lt_or_ge j n with hjn | hjn
  · obtain rfl : j = n - 1 := by omega
    rw [getD_both hlast] at h2
    cases h2
  · rw [getD_both (inv.tail j hjn (by omega))] at h2
    cases h2
theorem head_belowG {m n i j : Nat} {up : Array Bool} (hs : sinkG md ops m n = true) (hc : tailG md ops n = true) (him : m ≤ i) (hin : i < n) (inv : HeadInv md ops n up)
    (hi : i ∈ Region.ready md ops up) (hj : j ∈ Region.ready md ops up) : j < n := by
  rcases Nat.lt_or_ge j n with h | h
  · exact h
  · exact absurd hj (tail_waitsG hs hc inv i him hin (mem_ready.1 hi).1 j h)
theorem head_firstG {m n i : Nat} {oi : Oper} {v : Value} {L : Array Bool → Act → Prop} (hi : ops[i]? = some oi) (hsel : ∀ (j : Nat) (o : Oper) cs b, ops[j]? = some o → o.op ≠ .select cs b)
    (hs : sinkG md ops m n = true) (hc : tailG md ops n = true) (him : m ≤ i) (hin : i < n) (hdone : ∀ up a, L up a → ∀ j, j ∈ Region.ready md ops up → n ≤ j) (f : Nat) :
    ∀ up a, HeadInv md ops n up → (∀ j oj, ops[j]? = some oj → j ≠ i → up.getD j true = false → (∀ e ∈ oj.after, Region.binds md e = true → e.on ≠ i) → oi.apart ops oj = true) →
      i ∈ Region.ready md ops up → YieldsIn P ops C oi v a → AnyHead P md ops C n L f (up.setIfInBounds i true) (a.put oi.dst v) → AnyHead P md ops C n L (f + 1) up a := by
  induction f with
  | zero =>
    intro up a inv _ hr hy H
    refine ⟨List.ne_nil_of_mem hr, fun j hj => ⟨head_belowG hs hc him hin inv hr hj, ?_⟩⟩
    rcases Nat.decEq j i with hji | rfl
    · have h1 := hdone _ _ H j (ready_mono hj hji)
      have h2 := head_belowG hs hc him hin inv hr hj
      omega
    · exact hy.qOp hi H
  | succ f ih =>
    intro up a inv hfree hr hy H
    refine ⟨List.ne_nil_of_mem hr, fun j hj => ⟨head_belowG hs hc him hin inv hr hj, ?_⟩⟩
    rcases Nat.decEq j i with hji | rfl
    · obtain ⟨hjun, oj, hoj, hall⟩ := mem_ready.1 hj
      have hun := (mem_ready.1 hr).1
      have hnot : ∀ e ∈ oj.after, Region.binds md e = true → e.on ≠ i := by
        rintro e he hb rfl
        have := hall e he hb
        rw [getD_both hun] at this
        cases this
      have h1 := qOp_put hoj (hfree j oj hoj hji hjun hnot) (fun cs b => hsel i oi cs b hi) (fun cs b => hsel j oj cs b hoj) hy (H.2 j (ready_mono hj hji)).2
      refine qOp_mono (fun a' h2 => ih (up.setIfInBounds j true) a' (inv.set hj (head_belowG hs hc him hin inv hr hj)) ?_ (ready_mono hr (Ne.symm hji)) h2.1 (by rw [Array.setIfInBounds_comm _ _ hji]; exact h2.2)) h1
      intro k ok hk hki hku hno
      refine hfree k ok hk hki ?_ hno
      rcases Nat.decEq j k with hjk | rfl
      · rwa [getD_set_ne true hjk] at hku
      · exact hjun
    · exact hy.qOp hi H
/-- The operations from k on, one after the other, as the text has them: each may come up and is apart from what may come up beside it; U is what is listed behind them. -/
def lexG (md : Region.Mode) (ops : Array Oper) : Nat → Nat → Array Bool → Array Bool → Bool
  | 0, _, up, U => up == U
  | f + 1, k, up, U => (Region.ready md ops up).contains k && Region.free md ops up k && lexG md ops f (k + 1) (up.setIfInBounds k true) U
theorem head_lexG {m n : Nat} {U : Array Bool} {T : Act → Prop} (hsel : Region.noSelect ops = true) (hs : sinkG md ops m n = true) (hc : tailG md ops n = true) (hU : (Region.ready md ops U).all (fun j => decide (n ≤ j)) = true) (l : List Oper) :
    ∀ k up a, m ≤ k → (∀ j, j < l.length → l[j]? = ops[k + j]?) → k + l.length = n → HeadInv md ops n up → lexG md ops l.length k up U = true → wpQuiet P ops C T l a →
      AnyHead P md ops C n (fun up' a' => up' = U ∧ T a') l.length up a := by
  induction l with
  | nil =>
    intro k up a _ _ hk _ hB h
    exact ⟨by simpa [lexG] using hB, h⟩
  | cons o l ih =>
    intro k up a hmk hl hk inv hB h
    have h0 : ops[k]? = some o := (hl 0 (Nat.zero_lt_succ _)).symm
    simp only [List.length_cons] at hk
    simp only [List.length_cons, lexG, Bool.and_eq_true] at hB
    have hkn : k < n := by omega
    have hr : k ∈ Region.ready md ops up := by simpa using hB.1.1
    have hq : qOp P ops C k (wpQuiet P ops C T l) a := by
      unfold qOp
      rw [h0]
      exact h
    obtain ⟨v, hy, hK⟩ := yieldsIn_of_qOp h0 hq
    refine head_firstG h0 (Region.noSelect_spec hsel) hs hc hmk hkn (fun up' a' hL j hj => ?_) l.length up a inv (Region.free_spec h0 hB.1.2) hr hy ?_
    · rw [hL.1] at hj
      simpa using List.all_eq_true.1 hU j hj
    refine ih (k + 1) _ _ (by omega) (fun j hj => ?_) (by omega) (inv.set hr hkn) hB.2 hK
    have := hl (j + 1) (Nat.succ_lt_succ hj)
    rw [List.getElem?_cons_succ] at this
    rw [this, Nat.add_assoc, Nat.add_comm 1 j]
def headG (md : Region.Mode) (ops : Array Oper) (m n : Nat) (up U : Array Bool) : Bool :=
  Region.noSelect ops && decide (m ≤ n) && decide (n ≤ ops.size) && sinkG md ops m n && tailG md ops n && (Region.ready md ops U).all (fun j => decide (n ≤ j)) && lexG md ops (n - m) m up U
theorem any_headG {m n : Nat} {Q : Exit → Act → World → Prop} {a : Act} {w : World} {l : List Oper} {up U : Array Bool} (hB : headG .any l.toArray m n up U = true) (inv : HeadInv .any l.toArray n up)
    (hC : C w) (h : wpQuiet P l.toArray C (fun a' => ∀ w', C w' → wpAny P .any l.toArray Q (l.length - n) U a' w') ((l.take n).drop m) a) : wpAny P .any l.toArray Q (l.length - m) up a w := by
  simp only [headG, Bool.and_eq_true, decide_eq_true_eq] at hB
  obtain ⟨⟨⟨⟨⟨⟨hsel, hmn⟩, hn⟩, hs⟩, hc⟩, hU⟩, hlex⟩ := hB
  have hn' : n ≤ l.length := by simpa using hn
  have htl : ((l.take n).drop m).length = n - m := by rw [List.length_drop, List.length_take]; omega
  have H := head_lexG (md := .any) hsel hs hc hU ((l.take n).drop m) m up a (Nat.le_refl _) (by
    intro j hj
    rw [htl] at hj
    rw [List.getElem?_drop, List.getElem?_take_of_lt (by omega), List.getElem?_toArray]) (by omega) inv (by rw [htl]; exact hlex) h
  have key := any_of_head (Q := Q) (g := l.length - n) (by
    intro up a' w' hw' hL
    rw [hL.1]
    exact hL.2 w' hw') _ _ _ _ hC H
  rw [htl, show n - m + (l.length - n) = l.length - m by omega] at key
  exact key
theorem wp_region_headG {id : Nat} {Q : Exit → Act → World → Prop} {a : Act} {w : World} {l : List Oper} (n : Nat) (U : Array Bool) (hm : P.follows .mixedOrders = true) (hB : headG .any l.toArray 0 n (Array.replicate l.toArray.size false) U = true)
    (hC : C { w with drawn := w.drawn + 1 }) (h : wpQuiet P l.toArray C (fun a' => ∀ w', C w' → wpAny P .any l.toArray Q (l.length - n) U a' w') (l.take n) a) : (Code.region id l.toArray true).wp P Q a w :=
  wp_region_any hm (by
    have := any_headG (C := C) (Q := Q) hB inv_none hC (by simpa using h)
    simpa using this)
/-- What is listed: closed, of the head alone. -/
def headInvB (md : Region.Mode) (ops : Array Oper) (n : Nat) (up : Array Bool) : Bool :=
  up.size == ops.size && ((List.range ops.size).all fun j => !(up.getD j false) || ((ops[j]?).any fun o => o.after.all fun e => !(Region.binds md e) || up.getD e.on false)) && ((List.range ops.size).all fun t => decide (t < n) || !(up.getD t true))
theorem headInv_of {n : Nat} {up : Array Bool} (h : headInvB md ops n up = true) : HeadInv md ops n up := by
  simp only [headInvB, Bool.and_eq_true, beq_iff_eq] at h
  obtain ⟨⟨h1, h2⟩, h3⟩ := h
  refine ⟨h1, fun j oj hoj hl e he hb => ?_, fun t ht hts => ?_⟩
  · have hj := (Array.getElem?_eq_some_iff.1 hoj).1
    have h4 := List.all_eq_true.1 h2 j (List.mem_range.2 hj)
    rw [hl, hoj] at h4
    have h5 : (oj.after.all fun e => !(Region.binds md e) || up.getD e.on false) = true := h4
    have h6 := (Array.all_eq_true'.1 h5) e he
    rw [hb] at h6
    exact h6
  · have h4 := List.all_eq_true.1 h3 t (List.mem_range.2 hts)
    simp only [Bool.or_eq_true, decide_eq_true_eq, Bool.not_eq_true'] at h4
    exact h4.resolve_left (by omega)
end
end Go.Proofs.YtfaijkgfhdhhbaaGreatDoor
namespace Go.Proofs.YtfaijkgfhdhhbaaGreatDoor
open Go.RowKit

set_option maxRecDepth 100000 in
set_option maxHeartbeats 8000000 in
theorem reqO_any (A : Option Addr) (c : Nat) (A2 : Option Addr) (c2 : Nat) (x : Ob) (B : Option Addr) (d : Nat) (B2 : Option Addr) (d2 : Nat) (y : Ob) (w : World) (hA : ArgO w A c A2 c2 x) (hA2 : ArgO w B d B2 d2 y) (hl : x.entries.length ≤ 1048576) (hpl : x.commit.parents.length ≤ 1048576) :
    Calls Tryz.prog 13 #[.agg (encO A c A2 c2 x).toArray, .agg (encO B d B2 d2 y).toArray] w fun e w' => e = .returned (.bool (eqO x y)) ∧ Below w.heap.size w w' := by
  have hB := ((Below.refl w.heap.size w).alloc (Nat.le_refl _) (.cells (encO A c A2 c2 x).toArray 30)).alloc (by simp) (.cells (encO B d B2 d2 y).toArray 30)
  have hW1 := Whole.past (Whole.made w 30 (encO A c A2 c2 x).toArray) (.cells (encO B d B2 d2 y).toArray 30)
  have hW2 := Whole.made (w.alloc (.cells (encO A c A2 c2 x).toArray 30)) 30 (encO B d B2 d2 y).toArray
  have hs0 : (w.alloc (.cells (encO A c A2 c2 x).toArray 30)).heap.size = w.heap.size + 1 := by simp
  rw [hs0] at hW2
  clear hs0
  have HAE := Lib.hid (hA.later hB).1
  have HA2E := Lib.hid (hA2.later hB).1
  have HQ : Hid (eqO x y = (decide (x.kind = y.kind) && (x.blob == y.blob) && decide (x.entries = y.entries) && eqC x.commit y.commit)) := rfl
  have HTX := Lib.hid (encO_commit A c A2 c2 x hW1)
  have HTY := Lib.hid (encO_commit B d B2 d2 y hW2)
  have HXI := Lib.hid (infoC_l A2 c2 x.commit)
  have HYI := Lib.hid (infoC_l B2 d2 y.commit)
  have e0 := (hW1.at_ 0).trans (encO_0 A c A2 c2 x)
  have e1 := (hW1.at_ 1).trans (encO_1 A c A2 c2 x)
  have e2 := (hW1.at_ 2).trans (encO_2 A c A2 c2 x)
  have f0 := (hW2.at_ 0).trans (encO_0 B d B2 d2 y)
  have f1 := (hW2.at_ 1).trans (encO_1 B d B2 d2 y)
  have f2 := (hW2.at_ 2).trans (encO_2 B d B2 d2 y)
  have E2 := Lib.hid (encO_2 A c A2 c2 x)
  have F2 := Lib.hid (encO_2 B d B2 d2 y)
  have HB := Lib.hid hB
  have HW1 := Lib.hid hW1
  have HW2 := Lib.hid hW2
  have HCE := Lib.hid (reqc_any A2 c2 B2 d2 x.commit y.commit _ (hA.later hB).2 (hA2.later hB).2 hpl)
  clear hB hW1 hW2 hA hA2 hpl
  generalize (encO A c A2 c2 x).toArray = cs at *
  generalize (encO B d B2 d2 y).toArray = ds at *
  generalize hw0 : (w.alloc (.cells cs 30)).alloc (.cells ds 30) = w0 at *
  have hkind : ((x.kind : Int) != y.kind) = !decide (x.kind = y.kind) := by rw [Bool.eq_iff_iff]; simp
  have hblob : (x.blob == y.blob) = decide (x.blob = y.blob) := by rw [Bool.eq_iff_iff]; simp
  generalize eqC x.commit y.commit = b4 at *
  generalize x.commit = xc at *
  generalize y.commit = yc at *
  generalize encC A2 c2 xc = tx at *
  generalize encC B2 d2 yc = ty at *
  generalize x.entries = es at *
  generalize y.entries = fs at *
  generalize decide (x.kind = y.kind) = b1 at *
  generalize x.blob = nx at *
  generalize y.blob = ny at *
  generalize x.kind = kx at *
  generalize y.kind = ky at *
  cases b1
  · skip
    go_enter Tryz.func13, Tryz.ntmps13
    go_wp2
    go_ret
    exact ⟨by rw [HQ.out]; rfl, HB.out⟩
  by_cases hbl : nx = ny
  case neg =>
    have HBL : Hid ((nx == ny) = false) := by show _ = _; rw [hblob]; exact decide_eq_false hbl
    go_enter Tryz.func13, Tryz.ntmps13
    go_wp2
    go_ret
    exact ⟨by rw [HQ.out, HBL.out]; rfl, HB.out⟩
  subst hbl
  have HBL : Hid ((nx == nx) = true) := by show _ = _; rw [hblob]; simp
  clear hblob
  by_cases hlen : es.length = fs.length
  case neg =>
    have hne : ((es.length : Int) != (fs.length : Int)) = true := by simp; omega
    have HNE : Hid (decide (es = fs) = false) := decide_eq_false (fun e => hlen (by rw [e]))
    clear hlen
    go_enter Tryz.func13, Tryz.ntmps13
    go_wp2
    go_ret
    exact ⟨by rw [HQ.out, HBL.out, HNE.out]; rfl, HB.out⟩
  have hne0 : ((es.length : Int) != (fs.length : Int)) = false := by simp [hlen]
  cases b4
  · skip
    go_enter Tryz.func13, Tryz.ntmps13
    go_wp2_with (first
      | (refine wpList_load_mid_on 28 _ rfl w.heap.size 3 rfl (by rfl) tx _ HTX.out Tryz.underlying28 rfl HXI.out ?_)
      | (refine wpList_load_mid_on 28 _ rfl (w.heap.size + 1) 3 rfl (by rfl) ty _ HTY.out Tryz.underlying28 rfl HYI.out ?_))
    refine HCE.out.mono ?_
    rintro e w2 ⟨rfl, hb⟩
    have HB2 := Lib.hid (HB.out.trans (hb.mono HB.out.size))
    clear hb
    go_wp2
    go_ret
    exact ⟨by rw [HQ.out, Bool.and_false]; rfl, HB2.out⟩
  have HAB : Hid (es.take es.length = fs.take es.length → decide (es = fs) = true) := by
    intro h
    rw [List.take_length, hlen, List.take_length] at h
    exact decide_eq_true h
  have HNE : Hid (∀ k, es.getD k default ≠ fs.getD k default → decide (es = fs) = false) := fun k h => decide_eq_false (fun e => h (by rw [e]))
  have HAT := Lib.hid (eqen_at es fs)
  have hlc := HAE.out.1
  have hlc2 := HA2E.out.1
  have hlb : fs.length ≤ 1048576 := by omega
  have HLEN := Lib.hid hlen
  rw [← hlen] at hlc2 hlb hne0 f2 F2
  clear hlen
  generalize decide (es = fs) = r at *
  go_enter Tryz.func13, Tryz.ntmps13
  go_wp2_with (first
    | (refine wpList_load_mid_on 28 _ rfl w.heap.size 3 rfl (by rfl) tx _ HTX.out Tryz.underlying28 rfl HXI.out ?_)
    | (refine wpList_load_mid_on 28 _ rfl (w.heap.size + 1) 3 rfl (by rfl) ty _ HTY.out Tryz.underlying28 rfl HYI.out ?_))
  refine HCE.out.mono ?_
  rintro e w2 ⟨rfl, hb⟩
  have HB2 := Lib.hid (HB.out.trans (hb.mono HB.out.size))
  have HA1 := Lib.hid (HAE.out.later hb)
  have HA21 := Lib.hid (HA2E.out.later hb)
  have e2' := ((HW1.out.below hb HW1.out.lt).at_ 2).trans E2.out
  have f2' := ((HW2.out.below hb HW2.out.lt).at_ 2).trans F2.out
  clear hb e0 e1 e2 f0 f1 f2 HTX HTY HCE HAE HA2E HW1 HW2
  go_wp2
  go_loopg [5] es.length (fun g s5 wr => ∃ k q : Nat, k ≤ es.length ∧ es.length - k ≤ g ∧ s5 = .int .i64 k ∧ Hid (wr = w2.drewN q) ∧ Hid (es.take k = fs.take k))
  case atStart => exact ⟨0, 0, Nat.zero_le _, by omega, rfl, Lib.hid rfl, Lib.hid rfl⟩
  case round =>
    obtain ⟨k, q, hk, hg, rfl, hwr, htk⟩ := hrel
    have g2 : wr.cell? ⟨w.heap.size, 2, none⟩ = some (.slice A es.length c) := by rw [hwr.out]; exact e2'
    have i2 : wr.cell? ⟨w.heap.size + 1, 2, none⟩ = some (.slice B es.length d) := by rw [hwr.out]; exact f2'
    by_cases hlt : k < es.length
    · have hlt' : (k : Int) < (es.length : Int) := by omega
      have hlt2 : k < fs.length := by have := HLEN.out; omega
      obtain ⟨bb, o, rfl, hr⟩ := HA1.out.2.2.2 (by omega)
      obtain ⟨b2, o2, rfl, hr2⟩ := HA21.out.2.2.2 (by omega)
      have HLT2 := Lib.hid hlt2
      have hrk := hr k hlt
      have hrk2 := hr2 k hlt2
      have HIFF := Lib.hid (HAT.out k hlt hlt2 htk.out)
      have HNK := Lib.hid (HNE.out k)
      obtain ⟨y, hy⟩ : ∃ y, y = es.getD k default := ⟨_, rfl⟩
      obtain ⟨z, hz⟩ : ∃ z, z = fs.getD k default := ⟨_, rfl⟩
      rw [← hy] at hrk
      rw [← hz] at hrk2
      rw [← hy, ← hz] at HIFF HNK
      have HLX : Hid (∀ W, (∃ n, W = wr.drewN n) → W.rangeAt bb (o + k * 34) (encE y)) := by rintro W ⟨n, rfl⟩; rw [hwr.out]; exact hrk
      have HLY : Hid (∀ W, (∃ n, W = wr.drewN n) → W.rangeAt b2 (o2 + k * 34) (encE z)) := by rintro W ⟨n, rfl⟩; rw [hwr.out]; exact hrk2
      have HEI := Lib.hid (infoE_l y)
      have HZI := Lib.hid (infoE_l z)
      have hneq := neq_en y z
      clear hy hz hr hrk hr2 hrk2 HAT HNE hlt2 e2' f2'
      cases he : decide (y = z) with
      | true =>
        rw [he] at hneq
        have hneq' : ∀ W, (binOp .neq 49 (.agg (encE y).toArray) (.agg (encE z).toArray)).run Tryz.prog W = .ok (.bool false) W := hneq
        have HE := Lib.hid (HIFF.out.1 (of_decide_eq_true he))
        clear hneq he
        go_wp2_with fail
        refine wp_region_quiet_lit (by kernel_rfl) (by kernel_rfl) ?_
        repeat (first
          | go_big_quiet_step (fail)
          | (refine q_loadm _ _ rfl (by rfl) bb (o + k * 34) (encE y) rfl _ Tryz.underlying49 rfl HEI.out HLX.out ?_; simp only [Act.put]; go_simp)
          | (refine q_loadm _ _ rfl (by rfl) b2 (o2 + k * 34) (encE z) rfl _ Tryz.underlying49 rfl HZI.out HLY.out ?_; simp only [Act.put]; go_simp))
        refine wpQuiet_nil ?_
        intro nq
        go_wp2
        go_roundg (es.length - (k + 1))
        case measure => omega
        case rel =>
          refine ⟨k + 1, q + nq, by omega, by omega, by go_num, Lib.hid ?_, HE⟩
          rw [hwr.out, World.drewN_drewN]
      | false =>
        rw [he] at hneq
        have hneq' : ∀ W, (binOp .neq 49 (.agg (encE y).toArray) (.agg (encE z).toArray)).run Tryz.prog W = .ok (.bool true) W := hneq
        have HR : Hid (r = false) := HNK.out (fun e => by rw [e] at he; simp at he)
        clear hneq he
        go_wp2_with fail
        refine wp_region_quiet_lit (by kernel_rfl) (by kernel_rfl) ?_
        repeat (first
          | go_big_quiet_step (fail)
          | (refine q_loadm _ _ rfl (by rfl) bb (o + k * 34) (encE y) rfl _ Tryz.underlying49 rfl HEI.out HLX.out ?_; simp only [Act.put]; go_simp)
          | (refine q_loadm _ _ rfl (by rfl) b2 (o2 + k * 34) (encE z) rfl _ Tryz.underlying49 rfl HZI.out HLY.out ?_; simp only [Act.put]; go_simp))
        refine wpQuiet_nil ?_
        intro nq
        go_wp2
        go_ret
        refine ⟨by rw [HQ.out, HR.out, Bool.and_false, Bool.false_and]; rfl, ?_⟩
        rw [hwr.out]
        exact be_drewN (be_drewN HB2.out q) nq
    · obtain rfl : k = es.length := by omega
      have HR : Hid (r = true) := HAB.out htk.out
      go_wp2
      go_ret
      refine ⟨by rw [HQ.out, HBL.out, HR.out]; rfl, ?_⟩
      rw [hwr.out]
      exact be_drewN HB2.out q
end Go.Proofs.YtfaijkgfhdhhbaaGreatDoor
namespace Go.Proofs.YtfaijkgfhdhhbaaGreatDoor
open Go.RowKit

def zc : Array Value := (encO none 0 none 0 zO).toArray
set_option maxRecDepth 100000 in
theorem zc_lit : (#[Value.int IntKind.i64 0, Value.string ⟨#[]⟩, Value.slice none 0 0, Value.int IntKind.u8 0, Value.int IntKind.u8 0, Value.int IntKind.u8 0, Value.int IntKind.u8 0, Value.int IntKind.u8 0, Value.int IntKind.u8 0, Value.int IntKind.u8 0, Value.int IntKind.u8 0, Value.int IntKind.u8 0, Value.int IntKind.u8 0, Value.int IntKind.u8 0, Value.int IntKind.u8 0, Value.int IntKind.u8 0, Value.int IntKind.u8 0, Value.int IntKind.u8 0, Value.int IntKind.u8 0, Value.int IntKind.u8 0, Value.int IntKind.u8 0, Value.int IntKind.u8 0, Value.int IntKind.u8 0, Value.int IntKind.u8 0, Value.int IntKind.u8 0, Value.int IntKind.u8 0, Value.int IntKind.u8 0, Value.int IntKind.u8 0, Value.int IntKind.u8 0, Value.int IntKind.u8 0, Value.int IntKind.u8 0, Value.int IntKind.u8 0, Value.int IntKind.u8 0, Value.int IntKind.u8 0, Value.int IntKind.u8 0, Value.slice none 0 0, Value.float FloatKind.f64 0, Value.string ⟨#[]⟩] : Array Value) = zc := by kernel_rfl
def GotO (k : Int) (s : List UInt8) (e : Ending) (w' : World) : Prop := ∃ A c A2 c2, e = .returned (.tuple #[.agg (encO A c A2 c2 (getOb k s).1).toArray, .int .i64 (getOb k s).2]) ∧ ArgO w' A c A2 c2 (getOb k s).1
theorem getOb_def (k : Int) (s : List UInt8) : getOb k s = (if k = 1 then (if s.length ≤ 1000 then (⟨1, s, [], noC⟩, 0) else (zO, 5))
  else if k = 2 then (match getT s with | some es => (⟨2, [], es, noC⟩, 0) | none => (zO, 1))
  else if k = 3 then (match readC s with | some x => (⟨3, [], [], x⟩, 0) | none => (zO, 1))
  else (zO, 1) : Ob × Int) := rfl
theorem getOb_1 (s : List UInt8) (h : s.length ≤ 1000) : getOb 1 s = (⟨1, s, [], noC⟩, 0) := by rw [getOb_def, if_pos rfl, if_pos h]
theorem getOb_1n (s : List UInt8) (h : ¬ s.length ≤ 1000) : getOb 1 s = (zO, 5) := by rw [getOb_def, if_pos rfl, if_neg h]
theorem getOb_2 (s : List UInt8) (es : List En) (h : getT s = some es) : getOb 2 s = (⟨2, [], es, noC⟩, 0) := by rw [getOb_def, if_neg (by decide), if_pos rfl, h]
theorem getOb_2n (s : List UInt8) (h : getT s = none) : getOb 2 s = (zO, 1) := by rw [getOb_def, if_neg (by decide), if_pos rfl, h]
theorem getOb_3 (s : List UInt8) (x : Cm) (h : readC s = some x) : getOb 3 s = (⟨3, [], [], x⟩, 0) := by rw [getOb_def, if_neg (by decide), if_neg (by decide), if_pos rfl, h]
theorem getOb_3n (s : List UInt8) (h : readC s = none) : getOb 3 s = (zO, 1) := by rw [getOb_def, if_neg (by decide), if_neg (by decide), if_pos rfl, h]
theorem getOb_4 (k : Int) (s : List UInt8) (h1 : k ≠ 1) (h2 : k ≠ 2) (h3 : k ≠ 3) : getOb k s = (zO, 1) := by rw [getOb_def, if_neg h1, if_neg h2, if_neg h3]
theorem zc_s : zc.size = 38 := encO_s none 0 none 0 zO
set_option maxRecDepth 100000 in
set_option maxHeartbeats 8000000 in
theorem rgetO_1 (k : Int) (s : List UInt8) (w : World) (hl : s.length ≤ 4000) (h1 : k = 1) :
    Calls Tryz.prog 20 #[.int .i64 k, .string ⟨s.toArray⟩] w fun e w' => GotO k s e w' ∧ Below w.heap.size w w' := by
  have HW0 := Lib.hid (Whole.made w 30 zc)
  have HB0 := Lib.hid ((Below.refl w.heap.size w).alloc (Nat.le_refl _) (.cells zc 30))
  have hs0 : (w.alloc (.cells zc 30)).heap.size = w.heap.size + 1 := by simp
  have HS0 := Lib.hid (infoO_s none 0 none 0 ⟨1, [], [], noC⟩)
  have HA0 := Lib.hid (encO_all none 0 none 0 ⟨1, [], [], noC⟩)
  have HZ0 := Lib.hid zc_s
  have HZ1 := Lib.hid (encO_s none 0 none 0 ⟨1, [], [], noC⟩)
  have HL := Lib.hid hl
  clear hl
  subst h1
  by_cases h1000 : s.length ≤ 1000
  · have HGO := Lib.hid (getOb_1 s h1000)
    have hd : decide ((1000 : Int) < (s.length : Int)) = false := by simp; omega
    clear h1000
    go_enter Tryz.func20, Tryz.ntmps20
    go_upto_region 1 with fail
    rw [zc_lit]
    have HSI := Lib.hid hs0
    clear hs0
    generalize w.alloc (.cells zc 30) = w0 at *
    go_upto_region 2 with (refine wpList_store_whole rfl 30 _ _ rfl w0.heap.size (encO none 0 none 0 ⟨1, [], [], noC⟩).toArray rfl rfl 30 _ (Whole.made w0 _ _) HS0.out (by rw [HZ1.out]; rfl) HA0.out ?_; intro w1 hWn hGn; have HW1 := Lib.hid hWn; have HG1 := Lib.hid hGn; clear hWn hGn)
    have HR1 := Lib.hid (Whole.grown (Whole.past HW0.out _) HG1.out (fun e => by injection e with e; have := HSI.out; omega))
    have HB1 := Lib.hid (be_grown (HB0.out.alloc HB0.out.size _) HG1.out (by have := HSI.out; simp; omega) (fun j hj => by injection hj with hj; have := HSI.out; omega))
    have hlt1 : w0.heap.size < w1.heap.size := HW1.out.lt
    have hlt0 : w.heap.size < w0.heap.size := by have := HSI.out; omega
    clear HG1
    have e1 := (HW1.out.at_ 1).trans (encO_1 none 0 none 0 ⟨1, [], [], noC⟩)
    have f1 := HW1.out.thawed 1
    have hw3 := HW1.out.put 1 (.string ⟨s.toArray⟩)
    rw [encO_set1] at hw3
    have HW3 := Lib.hid hw3
    have HR3 := Lib.hid (HR1.out.aside (p := ⟨w0.heap.size, 1, none⟩) (by simp; omega) (.string ⟨s.toArray⟩))
    have HB3 := Lib.hid (HB1.out.setCell (p := ⟨w0.heap.size, 1, none⟩) (by simp; omega) (.string ⟨s.toArray⟩))
    clear hw3
    have HXS := Lib.hid (infoO_s none 0 none 0 ⟨1, s, [], noC⟩)
    have HAX := Lib.hid (encO_all none 0 none 0 ⟨1, s, [], noC⟩)
    have HSX := Lib.hid (encO_s none 0 none 0 ⟨1, s, [], noC⟩)
    generalize hcs : (encO none 0 none 0 ⟨1, s, [], noC⟩).toArray = cs at *
    go_wp2_with (first
      | (refine wpList_load_row rfl 30 _ rfl w0.heap.size rfl 30 cs (0, 0) _ HW3.out Tryz.underlying30 rfl HXS.out ?_)
      | (refine wpList_store_whole rfl 30 _ _ rfl w.heap.size cs rfl rfl 30 _ HR3.out HXS.out (by rw [HSX.out, HZ0.out]) HAX.out ?_; intro w9 hWn hGn; have HW9 := Lib.hid hWn; have HG9 := Lib.hid hGn; clear hWn hGn))
    have HB9 := Lib.hid (be_grown HB3.out HG9.out HB3.out.size (fun j hj => by injection hj with hj; omega))
    refine bodyPost_ret (v := .tuple #[.agg cs, .int .i64 0]) (results_orow rfl _ _ _ w.heap.size _ cs rfl rfl HW9.out HXS.out) rfl ⟨⟨none, 0, none, 0, by rw [HGO.out, hcs], by rw [HGO.out]; exact argO_zero 1 s w9⟩, HB9.out⟩
  · have HGO := Lib.hid (getOb_1n s h1000)
    have hd : decide ((1000 : Int) < (s.length : Int)) = true := by simp; omega
    clear h1000
    go_enter Tryz.func20, Tryz.ntmps20
    go_upto_region 1 with fail
    rw [zc_lit]
    have HSI := Lib.hid hs0
    clear hs0
    generalize w.alloc (.cells zc 30) = w0 at *
    go_upto_region 2 with (refine wpList_store_whole rfl 30 _ _ rfl w0.heap.size (encO none 0 none 0 ⟨1, [], [], noC⟩).toArray rfl rfl 30 _ (Whole.made w0 _ _) HS0.out (by rw [HZ1.out]; rfl) HA0.out ?_; intro w1 hWn hGn; have HW1 := Lib.hid hWn; have HG1 := Lib.hid hGn; clear hWn hGn)
    have HR1 := Lib.hid (Whole.grown (Whole.past HW0.out _) HG1.out (fun e => by injection e with e; have := HSI.out; omega))
    have HB1 := Lib.hid (be_grown (HB0.out.alloc HB0.out.size _) HG1.out (by have := HSI.out; simp; omega) (fun j hj => by injection hj with hj; have := HSI.out; omega))
    have hlt1 : w0.heap.size < w1.heap.size := HW1.out.lt
    have hlt0 : w.heap.size < w0.heap.size := by have := HSI.out; omega
    clear HG1
    have hzb := zO_build
    have HXS := Lib.hid (infoO_s none 0 none 0 zO)
    have HAX := Lib.hid (encO_all none 0 none 0 zO)
    go_wp2_with (refine wpList_store_whole rfl 30 _ _ rfl w.heap.size (encO none 0 none 0 zO).toArray rfl rfl 30 _ HR1.out HXS.out (by rw [HZ0.out]; rfl) HAX.out ?_; intro w9 hWn hGn; have HW9 := Lib.hid hWn; have HG9 := Lib.hid hGn; clear hWn hGn)
    have HB9 := Lib.hid (be_grown HB1.out HG9.out HB1.out.size (fun j hj => by injection hj with hj; omega))
    refine bodyPost_ret (v := .tuple #[.agg (encO none 0 none 0 zO).toArray, .int .i64 5]) (results_orow rfl _ _ _ w.heap.size _ _ rfl rfl HW9.out HXS.out) rfl ⟨⟨none, 0, none, 0, by rw [HGO.out], by rw [HGO.out]; exact argO_zero 0 [] w9⟩, HB9.out⟩
set_option maxRecDepth 100000 in
set_option maxHeartbeats 8000000 in
theorem rgetO_2 (k : Int) (s : List UInt8) (w : World) (hl : s.length ≤ 4000) (h2 : k = 2) :
    Calls Tryz.prog 20 #[.int .i64 k, .string ⟨s.toArray⟩] w fun e w' => GotO k s e w' ∧ Below w.heap.size w w' := by
  have HW0 := Lib.hid (Whole.made w 30 zc)
  have HB0 := Lib.hid ((Below.refl w.heap.size w).alloc (Nat.le_refl _) (.cells zc 30))
  have hs0 : (w.alloc (.cells zc 30)).heap.size = w.heap.size + 1 := by simp
  have HS0 := Lib.hid (infoO_s none 0 none 0 ⟨2, [], [], noC⟩)
  have HA0 := Lib.hid (encO_all none 0 none 0 ⟨2, [], [], noC⟩)
  have HZ0 := Lib.hid zc_s
  have HZ1 := Lib.hid (encO_s none 0 none 0 ⟨2, [], [], noC⟩)
  have HL := Lib.hid hl
  clear hl
  subst h2
  go_enter Tryz.func20, Tryz.ntmps20
  go_upto_region 1 with fail
  rw [zc_lit]
  have HSI := Lib.hid hs0
  clear hs0
  generalize w.alloc (.cells zc 30) = w0 at *
  go_upto_region 2 with (refine wpList_store_whole rfl 30 _ _ rfl w0.heap.size (encO none 0 none 0 ⟨2, [], [], noC⟩).toArray rfl rfl 30 _ (Whole.made w0 _ _) HS0.out (by rw [HZ1.out]; rfl) HA0.out ?_; intro w1 hWn hGn; have HW1 := Lib.hid hWn; have HG1 := Lib.hid hGn; clear hWn hGn)
  have HR1 := Lib.hid (Whole.grown (Whole.past HW0.out _) HG1.out (fun e => by injection e with e; have := HSI.out; omega))
  have HB1 := Lib.hid (be_grown (HB0.out.alloc HB0.out.size _) HG1.out (by have := HSI.out; simp; omega) (fun j hj => by injection hj with hj; have := HSI.out; omega))
  have hlt1 : w0.heap.size < w1.heap.size := HW1.out.lt
  have hlt0 : w.heap.size < w0.heap.size := by have := HSI.out; omega
  clear HG1
  go_wp2_with fail
  refine (rgettO_any s w1 (by have := HL.out; omega)).mono ?_
  rintro e w2 ⟨(⟨es, A, c, hgt, rfl, har, hnb⟩ | ⟨hgt, rfl⟩), hb⟩
  · have HGO := Lib.hid (getOb_2 s es hgt)
    have HB2 := Lib.hid (HB1.out.trans (hb.mono HB1.out.size))
    have HW2 := Lib.hid (HW1.out.below hb hlt1)
    have HR2 := Lib.hid (HR1.out.below hb (by omega))
    have hlt2 : w0.heap.size < w2.heap.size := HW2.out.lt
    have HAR := Lib.hid har
    have HNB := Lib.hid hnb
    clear hb har hgt hnb
    have e1 := (HW2.out.at_ 2).trans (encO_2 none 0 none 0 ⟨2, [], [], noC⟩)
    have f1 := HW2.out.thawed 2
    have hw3 := HW2.out.put 2 (.slice A es.length c)
    rw [encO_set2] at hw3
    have HW3 := Lib.hid hw3
    have HR3 := Lib.hid (HR2.out.aside (p := ⟨w0.heap.size, 2, none⟩) (by simp; omega) (.slice A es.length c))
    have HB3 := Lib.hid (HB2.out.setCell (p := ⟨w0.heap.size, 2, none⟩) (by simp; omega) (.slice A es.length c))
    clear hw3
    have HAR3 := Lib.hid (HAR.out.grown (gr_set (a := w2) (w := w2) (row := some w0.heap.size) (gr_refl _ _) (p := ⟨w0.heap.size, 2, none⟩) (.inl rfl) (.slice A es.length c)) (fun j hj _ e => by injection e with e; have := HNB.out j hj; omega))
    have HXS := Lib.hid (infoO_s A c none 0 ⟨2, [], es, noC⟩)
    have HAX := Lib.hid (encO_all A c none 0 ⟨2, [], es, noC⟩)
    have HSX := Lib.hid (encO_s A c none 0 ⟨2, [], es, noC⟩)
    generalize hcs : (encO A c none 0 ⟨2, [], es, noC⟩).toArray = cs at *
    go_wp2_with (first
      | (refine wpList_load_row rfl 30 _ rfl w0.heap.size rfl 30 cs (0, 0) _ HW3.out Tryz.underlying30 rfl HXS.out ?_)
      | (refine wpList_store_whole rfl 30 _ _ rfl w.heap.size cs rfl rfl 30 _ HR3.out HXS.out (by rw [HSX.out, HZ0.out]) HAX.out ?_; intro w9 hWn hGn; have HW9 := Lib.hid hWn; have HG9 := Lib.hid hGn; clear hWn hGn))
    have HB9 := Lib.hid (be_grown HB3.out HG9.out HB3.out.size (fun j hj => by injection hj with hj; omega))
    refine bodyPost_ret (v := .tuple #[.agg cs, .int .i64 0]) (results_orow rfl _ _ _ w.heap.size _ cs rfl rfl HW9.out HXS.out) rfl ⟨⟨A, c, none, 0, by rw [HGO.out, hcs], by rw [HGO.out]; exact ⟨HAR3.out.grown HG9.out (fun j hj _ e => by injection e with e; have := HNB.out j hj; omega), (argO_zero 2 [] w9).2⟩⟩, HB9.out⟩
  · have HGO := Lib.hid (getOb_2n s hgt)
    have HB2 := Lib.hid (HB1.out.trans (hb.mono HB1.out.size))
    have HW2 := Lib.hid (HW1.out.below hb hlt1)
    have HR2 := Lib.hid (HR1.out.below hb (by omega))
    have hlt2 : w0.heap.size < w2.heap.size := HW2.out.lt
    clear hb hgt
    have e1 := (HW2.out.at_ 2).trans (encO_2 none 0 none 0 ⟨2, [], [], noC⟩)
    have f1 := HW2.out.thawed 2
    have HR3 := Lib.hid (HR2.out.aside (p := ⟨w0.heap.size, 2, none⟩) (by simp; omega) (.slice none ([] : List En).length 0))
    have HB3 := Lib.hid (HB2.out.setCell (p := ⟨w0.heap.size, 2, none⟩) (by simp; omega) (.slice none ([] : List En).length 0))
    have hzb := zO_build
    have HXS := Lib.hid (infoO_s none 0 none 0 zO)
    have HAX := Lib.hid (encO_all none 0 none 0 zO)
    go_wp2_with (refine wpList_store_whole rfl 30 _ _ rfl w.heap.size (encO none 0 none 0 zO).toArray rfl rfl 30 _ HR3.out HXS.out (by rw [HZ0.out]; rfl) HAX.out ?_; intro w9 hWn hGn; have HW9 := Lib.hid hWn; have HG9 := Lib.hid hGn; clear hWn hGn)
    have HB9 := Lib.hid (be_grown HB3.out HG9.out HB3.out.size (fun j hj => by injection hj with hj; omega))
    refine bodyPost_ret (v := .tuple #[.agg (encO none 0 none 0 zO).toArray, .int .i64 1]) (results_orow rfl _ _ _ w.heap.size _ _ rfl rfl HW9.out HXS.out) rfl ⟨⟨none, 0, none, 0, by rw [HGO.out], by rw [HGO.out]; exact argO_zero 0 [] w9⟩, HB9.out⟩
set_option maxRecDepth 100000 in
set_option maxHeartbeats 8000000 in
theorem rgetO_3 (k : Int) (s : List UInt8) (w : World) (hl : s.length ≤ 4000) (h3 : k = 3) :
    Calls Tryz.prog 20 #[.int .i64 k, .string ⟨s.toArray⟩] w fun e w' => GotO k s e w' ∧ Below w.heap.size w w' := by
  have HW0 := Lib.hid (Whole.made w 30 zc)
  have HB0 := Lib.hid ((Below.refl w.heap.size w).alloc (Nat.le_refl _) (.cells zc 30))
  have hs0 : (w.alloc (.cells zc 30)).heap.size = w.heap.size + 1 := by simp
  have HS0 := Lib.hid (infoO_s none 0 none 0 ⟨3, [], [], noC⟩)
  have HA0 := Lib.hid (encO_all none 0 none 0 ⟨3, [], [], noC⟩)
  have HZ0 := Lib.hid zc_s
  have HZ1 := Lib.hid (encO_s none 0 none 0 ⟨3, [], [], noC⟩)
  have HL := Lib.hid hl
  clear hl
  subst h3
  go_enter Tryz.func20, Tryz.ntmps20
  go_upto_region 1 with fail
  rw [zc_lit]
  have HSI := Lib.hid hs0
  clear hs0
  generalize w.alloc (.cells zc 30) = w0 at *
  go_upto_region 2 with (refine wpList_store_whole rfl 30 _ _ rfl w0.heap.size (encO none 0 none 0 ⟨3, [], [], noC⟩).toArray rfl rfl 30 _ (Whole.made w0 _ _) HS0.out (by rw [HZ1.out]; rfl) HA0.out ?_; intro w1 hWn hGn; have HW1 := Lib.hid hWn; have HG1 := Lib.hid hGn; clear hWn hGn)
  have HR1 := Lib.hid (Whole.grown (Whole.past HW0.out _) HG1.out (fun e => by injection e with e; have := HSI.out; omega))
  have HB1 := Lib.hid (be_grown (HB0.out.alloc HB0.out.size _) HG1.out (by have := HSI.out; simp; omega) (fun j hj => by injection hj with hj; have := HSI.out; omega))
  have hlt1 : w0.heap.size < w1.heap.size := HW1.out.lt
  have hlt0 : w.heap.size < w0.heap.size := by have := HSI.out; omega
  clear HG1
  go_wp2_with fail
  refine (rgetcO_any s w1 HL.out).mono ?_
  rintro e w2 ⟨(⟨x, A, c, hgt, rfl, har, hnb⟩ | ⟨hgt, rfl⟩), hb⟩
  · have HGO := Lib.hid (getOb_3 s x (by rw [readC_refC]; exact hgt))
    have HB2 := Lib.hid (HB1.out.trans (hb.mono HB1.out.size))
    have HW2 := Lib.hid (HW1.out.below hb hlt1)
    have HR2 := Lib.hid (HR1.out.below hb (by omega))
    have hlt2 : w0.heap.size < w2.heap.size := HW2.out.lt
    have HAR := Lib.hid har
    have HNB := Lib.hid hnb
    clear hb har hnb hgt
    have HTH : Hid (w2.there w0.heap.size 3 (encC A c x).toArray.size) := by
      intro j hj
      rw [encC_s] at hj
      refine ⟨?_, HW2.out.thawed _⟩
      rw [HW2.out.at_, Array.getElem?_eq_getElem (by rw [encO_s]; omega)]
      rfl
    have HCX := Lib.hid (infoC_s A c x)
    have HCA := Lib.hid (encC_all A c x)
    have hw3 := whole_over (encC A c x).toArray.toList 3 w2 _ HW2.out (by rw [encO_s]; show 3 + (encC A c x).length ≤ 38; rw [encC_len]; exact Nat.le_refl _)
    rw [show (encC A c x).toArray.toList = encC A c x from rfl, encO_over] at hw3
    have HW3 := Lib.hid hw3
    have HR3 := Lib.hid (Whole.grown HR2.out (gr_setCells (g := w0.heap.size) (encC A c x) 3 w2 w2 (gr_refl _ _)) (fun e => by injection e with e; omega))
    have HB3 := Lib.hid (be_grown HB2.out (gr_setCells (g := w0.heap.size) (encC A c x) 3 w2 w2 (gr_refl _ _)) HB2.out.size (fun j hj => by injection hj with hj; omega))
    clear hw3
    have HAR3 := Lib.hid (HAR.out.grown (gr_setCells (g := w0.heap.size) (encC A c x) 3 w2 w2 (gr_refl _ _)) (fun j hj _ e => by injection e with e; have := HNB.out j hj; omega))
    have HXS := Lib.hid (infoO_s none 0 A c ⟨3, [], [], x⟩)
    have HAX := Lib.hid (encO_all none 0 A c ⟨3, [], [], x⟩)
    have HSX := Lib.hid (encO_s none 0 A c ⟨3, [], [], x⟩)
    generalize hcs : (encO none 0 A c ⟨3, [], [], x⟩).toArray = cs at *
    go_wp2_with (first
      | (refine wpList_load_row rfl 30 _ rfl w0.heap.size rfl 30 cs (0, 0) _ HW3.out Tryz.underlying30 rfl HXS.out ?_)
      | (refine wpList_store_whole rfl 30 _ _ rfl w.heap.size cs rfl rfl 30 _ HR3.out HXS.out (by rw [HSX.out, HZ0.out]) HAX.out ?_; intro w9 hWn hGn; have HW9 := Lib.hid hWn; have HG9 := Lib.hid hGn; clear hWn hGn)
      | (refine wpList_store_mid rfl 28 _ _ rfl w0.heap.size 3 (encC A c x).toArray rfl rfl HTH.out HCX.out HCA.out ?_; rw [show (encC A c x).toArray.toList = encC A c x from rfl]; generalize w2.setCells w0.heap.size 3 (encC A c x) = w3 at *))
    have HB9 := Lib.hid (be_grown HB3.out HG9.out HB3.out.size (fun j hj => by injection hj with hj; omega))
    refine bodyPost_ret (v := .tuple #[.agg cs, .int .i64 0]) (results_orow rfl _ _ _ w.heap.size _ cs rfl rfl HW9.out HXS.out) rfl ⟨⟨none, 0, A, c, by rw [HGO.out, hcs], by rw [HGO.out]; exact ⟨(argO_zero 3 [] w9).1, HAR3.out.grown HG9.out (fun j hj _ e => by injection e with e; have := HNB.out j hj; omega)⟩⟩, HB9.out⟩
  · have HGO := Lib.hid (getOb_3n s (by rw [readC_refC]; exact hgt))
    generalize noC = x0 at *
    have HB2 := Lib.hid (HB1.out.trans (hb.mono HB1.out.size))
    have HW2 := Lib.hid (HW1.out.below hb hlt1)
    have HR2 := Lib.hid (HR1.out.below hb (by omega))
    have hlt2 : w0.heap.size < w2.heap.size := HW2.out.lt
    clear hb hgt
    have HTH : Hid (w2.there w0.heap.size 3 (encC none 0 x0).toArray.size) := by
      intro j hj
      rw [encC_s] at hj
      refine ⟨?_, HW2.out.thawed _⟩
      rw [HW2.out.at_, Array.getElem?_eq_getElem (by rw [encO_s]; omega)]
      rfl
    have HCX := Lib.hid (infoC_s none 0 x0)
    have HCA := Lib.hid (encC_all none 0 x0)
    have hw3 := whole_over (encC none 0 x0).toArray.toList 3 w2 _ HW2.out (by rw [encO_s]; show 3 + (encC none 0 x0).length ≤ 38; rw [encC_len]; exact Nat.le_refl _)
    rw [show (encC none 0 x0).toArray.toList = encC none 0 x0 from rfl, encO_over] at hw3
    have HW3 := Lib.hid hw3
    have HR3 := Lib.hid (Whole.grown HR2.out (gr_setCells (g := w0.heap.size) (encC none 0 x0) 3 w2 w2 (gr_refl _ _)) (fun e => by injection e with e; omega))
    have HB3 := Lib.hid (be_grown HB2.out (gr_setCells (g := w0.heap.size) (encC none 0 x0) 3 w2 w2 (gr_refl _ _)) HB2.out.size (fun j hj => by injection hj with hj; omega))
    clear hw3
    have hzb := zO_build
    have HXS := Lib.hid (infoO_s none 0 none 0 zO)
    have HAX := Lib.hid (encO_all none 0 none 0 zO)
    go_wp2_with (first
      | (refine wpList_store_mid rfl 28 _ _ rfl w0.heap.size 3 (encC none 0 x0).toArray rfl rfl HTH.out HCX.out HCA.out ?_; rw [show (encC none 0 x0).toArray.toList = encC none 0 x0 from rfl]; generalize w2.setCells w0.heap.size 3 (encC none 0 x0) = w3 at *)
      | (refine wpList_store_whole rfl 30 _ _ rfl w.heap.size (encO none 0 none 0 zO).toArray rfl rfl 30 _ HR3.out HXS.out (by rw [HZ0.out]; rfl) HAX.out ?_; intro w9 hWn hGn; have HW9 := Lib.hid hWn; have HG9 := Lib.hid hGn; clear hWn hGn))
    have HB9 := Lib.hid (be_grown HB3.out HG9.out HB3.out.size (fun j hj => by injection hj with hj; omega))
    refine bodyPost_ret (v := .tuple #[.agg (encO none 0 none 0 zO).toArray, .int .i64 1]) (results_orow rfl _ _ _ w.heap.size _ _ rfl rfl HW9.out HXS.out) rfl ⟨⟨none, 0, none, 0, by rw [HGO.out], by rw [HGO.out]; exact argO_zero 0 [] w9⟩, HB9.out⟩
set_option maxRecDepth 100000 in
set_option maxHeartbeats 8000000 in
theorem rgetO_4 (k : Int) (s : List UInt8) (w : World) (hl : s.length ≤ 4000) (h1 : ¬ k = 1) (h2 : ¬ k = 2) (h3 : ¬ k = 3) :
    Calls Tryz.prog 20 #[.int .i64 k, .string ⟨s.toArray⟩] w fun e w' => GotO k s e w' ∧ Below w.heap.size w w' := by
  have HW0 := Lib.hid (Whole.made w 30 zc)
  have HB0 := Lib.hid ((Below.refl w.heap.size w).alloc (Nat.le_refl _) (.cells zc 30))
  have hs0 : (w.alloc (.cells zc 30)).heap.size = w.heap.size + 1 := by simp
  have HS0 := Lib.hid (infoO_s none 0 none 0 ⟨k, [], [], noC⟩)
  have HA0 := Lib.hid (encO_all none 0 none 0 ⟨k, [], [], noC⟩)
  have HZ0 := Lib.hid zc_s
  have HZ1 := Lib.hid (encO_s none 0 none 0 ⟨k, [], [], noC⟩)
  have HL := Lib.hid hl
  clear hl
  have g1 : (k == 1) = false := by simpa using h1
  have g2 : (k == 2) = false := by simpa using h2
  have g3 : (k == 3) = false := by simpa using h3
  have HGO := Lib.hid (getOb_4 k s h1 h2 h3)
  clear h1 h2 h3
  go_enter Tryz.func20, Tryz.ntmps20
  go_upto_region 1 with fail
  rw [zc_lit]
  have HSI := Lib.hid hs0
  clear hs0
  generalize w.alloc (.cells zc 30) = w0 at *
  go_upto_region 2 with (refine wpList_store_whole rfl 30 _ _ rfl w0.heap.size (encO none 0 none 0 ⟨k, [], [], noC⟩).toArray rfl rfl 30 _ (Whole.made w0 _ _) HS0.out (by rw [HZ1.out]; rfl) HA0.out ?_; intro w1 hWn hGn; have HW1 := Lib.hid hWn; have HG1 := Lib.hid hGn; clear hWn hGn)
  have HR1 := Lib.hid (Whole.grown (Whole.past HW0.out _) HG1.out (fun e => by injection e with e; have := HSI.out; omega))
  have HB1 := Lib.hid (be_grown (HB0.out.alloc HB0.out.size _) HG1.out (by have := HSI.out; simp; omega) (fun j hj => by injection hj with hj; have := HSI.out; omega))
  have hlt1 : w0.heap.size < w1.heap.size := HW1.out.lt
  have hlt0 : w.heap.size < w0.heap.size := by have := HSI.out; omega
  clear HG1
  have hzb := zO_build
  have HXS := Lib.hid (infoO_s none 0 none 0 zO)
  have HAX := Lib.hid (encO_all none 0 none 0 zO)
  go_wp2_with (refine wpList_store_whole rfl 30 _ _ rfl w.heap.size (encO none 0 none 0 zO).toArray rfl rfl 30 _ HR1.out HXS.out (by rw [HZ0.out]; rfl) HAX.out ?_; intro w9 hWn hGn; have HW9 := Lib.hid hWn; have HG9 := Lib.hid hGn; clear hWn hGn)
  have HB9 := Lib.hid (be_grown HB1.out HG9.out HB1.out.size (fun j hj => by injection hj with hj; omega))
  refine bodyPost_ret (v := .tuple #[.agg (encO none 0 none 0 zO).toArray, .int .i64 1]) (results_orow rfl _ _ _ w.heap.size _ _ rfl rfl HW9.out HXS.out) rfl ⟨⟨none, 0, none, 0, by rw [HGO.out], by rw [HGO.out]; exact argO_zero 0 [] w9⟩, HB9.out⟩
theorem rgetO_any (k : Int) (s : List UInt8) (w : World) (hl : s.length ≤ 4000) :
    Calls Tryz.prog 20 #[.int .i64 k, .string ⟨s.toArray⟩] w fun e w' => GotO k s e w' ∧ Below w.heap.size w w' := by
  by_cases h1 : k = 1
  · exact rgetO_1 k s w hl h1
  by_cases h2 : k = 2
  · exact rgetO_2 k s w hl h2
  by_cases h3 : k = 3
  · exact rgetO_3 k s w hl h3
  exact rgetO_4 k s w hl h1 h2 h3
end Go.Proofs.YtfaijkgfhdhhbaaGreatDoor

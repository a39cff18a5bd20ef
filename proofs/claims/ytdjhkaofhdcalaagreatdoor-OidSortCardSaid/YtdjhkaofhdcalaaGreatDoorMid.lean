/-
  Names in memory: a row of them, 32 cells each; slices of them that came in.
-/
import Derived.Test.YtdjhkaofhdcalaaGreatDoorNm
import Derived.Test.YtdjhkaofhdcalaaGreatDoorEql
import Derived.Test.YtdjhkaofhdcalaaGreatDoorQTail
import Derived.Deep.MidRow
namespace Go.Proofs.YtdjhkaofhdcalaaGreatDoor
open Go.RowKit

/-- A name's cells. -/
def encN (x : Nm) : List Value := x.l.map Y
theorem encN_len (x : Nm) : (encN x).length = 32 := by rw [encN, List.length_map, x.h]
theorem encN_one (x : Nm) : ∀ v ∈ encN x, v.oneCell' = true := by
  intro v hv
  obtain ⟨_, _, rfl⟩ := List.mem_map.1 hv
  rfl
theorem encN_size (x : Nm) : (encN x).toArray.size = 32 := by rw [List.size_toArray, encN_len]
theorem encN_all (x : Nm) : (encN x).toArray.all (·.oneCell') = true := all_oneCell_toArray (encN_one x)
theorem infoN : (Tryz.prog.info? 23).map (·.size) = some 32 := by kernel_rfl
theorem eql_nm (x y : Nm) (w : World) : (binOp .eql 23 (.agg (encN x).toArray) (.agg (encN y).toArray)).run Tryz.prog w = .ok (.bool (decide (x = y))) w := by
  have h := eql_bytes 23 32 Tryz.underlying23 x.l y.l x.h y.h w
  rw [show decide (x.l = y.l) = decide (x = y) from decide_eq_decide.2 ⟨Nm.same, fun e => by rw [e]⟩] at h
  exact h
theorem neq_nm (x y : Nm) (w : World) : (binOp .neq 23 (.agg (encN x).toArray) (.agg (encN y).toArray)).run Tryz.prog w = .ok (.bool (!decide (x = y))) w := by
  have h := neq_bytes 23 32 Tryz.underlying23 x.l y.l x.h y.h w
  rw [show decide (x.l = y.l) = decide (x = y) from decide_eq_decide.2 ⟨Nm.same, fun e => by rw [e]⟩] at h
  exact h

/-- A row of names. -/
def RowN (w : World) (b o : Nat) (ids : List Nm) : Prop := ∀ i, i < ids.length → w.rangeAt b (o + i * 32) (encN (ids.getD i default))
section
variable {w w' : World} {b o B : Nat} {ids : List Nm} {R : Nat → Prop}
theorem RowN.cell (h : RowN w b o ids) {i j : Nat} {v : Value} (hi : i < ids.length) (hv : (encN (ids.getD i default))[j]? = some v) : w.cell? ⟨b, o + i * 32 + j, none⟩ = some v := h i hi j v hv
theorem RowN.lt (h : RowN w b o ids) (h0 : 0 < ids.length) : b < w.heap.size := by
  have hl := encN_len (ids.getD 0 default)
  have := h 0 h0 0 _ (List.getElem?_eq_getElem (show 0 < (encN (ids.getD 0 default)).length by omega))
  have := World.block_lt_of_cell? w _ this
  exact this
theorem RowN.below (h : RowN w b o ids) (hb : Below B w w') (hB : b < B) : RowN w' b o ids := fun i hi j v hv => (hb.cell hB).trans (h i hi j v hv)
theorem RowN.take (h : RowN w b o ids) (n : Nat) : RowN w b o (ids.take n) := fun i hi => by
  rw [List.length_take] at hi
  have e : (ids.take n).getD i default = ids.getD i default := by
    rw [List.getD_eq_getElem?_getD, List.getD_eq_getElem?_getD, List.getElem?_take_of_lt (by omega)]
  rw [e]
  exact h i (by omega)
end

/-- A slice's block. -/
def inBlk (A : Option Addr) (j : Nat) : Prop := ∃ a, A = some a ∧ a.block = j
/-- A slice of names, as it came in or of the call's own. -/
def ArgN (w : World) (A : Option Addr) (c : Nat) (ids : List Nm) : Prop :=
  ids.length ≤ c ∧ c ≤ maxLen ∧ (A = none → c = 0) ∧ (0 < ids.length → ∃ b o, A = some ⟨b, o, none⟩ ∧ RowN w b o ids)
theorem ArgN.nil {w : World} {c : Nat} {ids : List Nm} (h : ArgN w none c ids) : c = 0 ∧ ids = [] := by
  have h0 := h.2.2.1 rfl
  have h1 := h.1
  exact ⟨h0, List.length_eq_zero_iff.1 (by omega)⟩
theorem ArgN.below {w w' : World} {A : Option Addr} {c : Nat} {ids : List Nm} {B : Nat} (h : ArgN w A c ids) (hb : Below B w w') (hB : ∀ b, inBlk A b → 0 < ids.length → b < B) : ArgN w' A c ids := by
  obtain ⟨h1, h2, h3, h4⟩ := h
  refine ⟨h1, h2, h3, fun h0 => ?_⟩
  obtain ⟨b, o, e, hr⟩ := h4 h0
  exact ⟨b, o, e, hr.below hb (hB b ⟨_, e, rfl⟩ h0)⟩
theorem ArgN.lt {w : World} {A : Option Addr} {c : Nat} {ids : List Nm} (h : ArgN w A c ids) {b : Nat} (hb : inBlk A b) (h0 : 0 < ids.length) : b < w.heap.size := by
  obtain ⟨b', o, e, hr⟩ := h.2.2.2 h0
  obtain ⟨a, rfl, rfl⟩ := hb
  injection e with e
  subst e
  exact hr.lt h0
theorem ArgN.later {w w' : World} {A : Option Addr} {c : Nat} {ids : List Nm} (h : ArgN w A c ids) (hb : Below w.heap.size w w') : ArgN w' A c ids := h.below hb fun _ hj h0 => h.lt hj h0
theorem ArgN.take {w : World} {A : Option Addr} {c : Nat} {ids : List Nm} (h : ArgN w A c ids) (n : Nat) : ArgN w A c (ids.take n) := by
  obtain ⟨h1, h2, h3, h4⟩ := h
  refine ⟨by rw [List.length_take]; omega, h2, h3, fun h0 => ?_⟩
  rw [List.length_take] at h0
  obtain ⟨b, o, e, hr⟩ := h4 (by omega)
  exact ⟨b, o, e, hr.take n⟩

/-- A load of a range that every world of the class holds. -/
theorem q_loadm {P : Program} {ops : Array Oper} {C : World → Prop} {Q : Act → Prop} {a : Act} {o : Oper} {rest : List Oper} (ty : TypeId) (x : Operand) (ho : o.op = .load ty x) (hw : Region.wanted o (yielded ops a.tmps) = true) (b off : Nat) (cs : List Value)
    (hx : a.eval x = .pointer (some ⟨b, off, none⟩)) (d : TypeDesc) (hu : P.underlying ty = some d) (hd : d.isRow = true) (hi : (P.info? ty).map (·.size) = some cs.length) (hS : ∀ w, C w → w.rangeAt b off cs)
    (hk : wpQuiet P ops C Q rest (a.put o.dst (.agg cs.toArray))) : wpQuiet P ops C Q (o :: rest) a := by
  have hy := yieldsIf_load_mid (P := P) (S := C) hw ty x ho b off hx cs d hS hu hd hi
  rcases hy with ⟨-, h⟩ | ⟨h, -⟩
  · refine BigFrame.wpQuiet_want hw fun K hK => ⟨.agg cs.toArray, fun w hc => ?_, hK _ hk⟩
    unfold Oper.quietAt
    rw [h w hc]
    exact ⟨rfl, by simp⟩
  · rw [hw] at h
    cases h
end Go.Proofs.YtdjhkaofhdcalaaGreatDoor

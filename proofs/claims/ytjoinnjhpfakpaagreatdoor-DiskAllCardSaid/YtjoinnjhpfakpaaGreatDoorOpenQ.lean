/-
  Slices of a disk's operations that a row hands over, opened.
-/
import Derived.Test.YtjoinnjhpfakpaaGreatDoorDoorE
import Derived.Test.YtjoinnjhpfakpaaGreatDoorR13L
import Derived.Deep.Slices
import Derived.Deep.Strs
namespace Go.Proofs.YtjoinnjhpfakpaaGreatDoor.Door
open Go.RowKit Go.ChangeShapes Go.WideShapes Go.ChangeAt

theorem ceQ : Tryz.prog.cellsOf 30 = 6 := by kernel_rfl
theorem ceQs : Tryz.prog.cellsOf 9 = 1 := by kernel_rfl
theorem ceQi : Tryz.prog.cellsOf 3 = 1 := by kernel_rfl
theorem ceQu : Tryz.prog.cellsOf 28 = 1 := by kernel_rfl
theorem trod_struct6 {H : Type} {enc : TypeId × Value → H} {P : Program} {w : World} {base : Nat} {spare : Nat → Bool} {held : Bool} {t : TypeId} {f0 f1 f2 f3 f4 f5 : Field} {fuel : Nat} {cs : List Value} {x : DataW H × List MemPlace} (ht : P.underlying t = some (.struct #[f0, f1, f2, f3, f4, f5])) (h : DataW.trod enc P w base spare held fuel t cs = some x) :
    ∃ y0 y1 y2 y3 y4 y5 n, cs.length = P.cellsOf t ∧ DataW.trod enc P w base spare held n f0.type ((cs.drop f0.offset).take (P.cellsOf f0.type)) = some y0 ∧ DataW.trod enc P w base spare held n f1.type ((cs.drop f1.offset).take (P.cellsOf f1.type)) = some y1 ∧
      DataW.trod enc P w base spare held n f2.type ((cs.drop f2.offset).take (P.cellsOf f2.type)) = some y2 ∧ DataW.trod enc P w base spare held n f3.type ((cs.drop f3.offset).take (P.cellsOf f3.type)) = some y3 ∧
      DataW.trod enc P w base spare held n f4.type ((cs.drop f4.offset).take (P.cellsOf f4.type)) = some y4 ∧ DataW.trod enc P w base spare held n f5.type ((cs.drop f5.offset).take (P.cellsOf f5.type)) = some y5 := by
  obtain ⟨xs, n, _, rfl, hl, hlen, hf⟩ := DataW.trod_struct ht h
  match xs, hlen with
  | [y0, y1, y2, y3, y4, y5], _ => exact ⟨y0, y1, y2, y3, y4, y5, n, hl, by simpa using hf 0 f0 rfl, by simpa using hf 1 f1 rfl, by simpa using hf 2 f2 rfl, by simpa using hf 3 f3 rfl, by simpa using hf 4 f4 rfl, by simpa using hf 5 f5 rfl⟩
section
variable {H : Type} {enc : TypeId × Value → H} {W : World} {base : Nat} {v : Value} {d : DataW H} {p : List MemPlace}
def OkQ (q : Qo) : Prop := (-(2 ^ 63) ≤ q.n ∧ q.n < 2 ^ 63) ∧ q.keep < 2 ^ 64
set_option maxRecDepth 100000 in
theorem qo_of_cells {cs : List Value} {sp : Nat → Bool} {held : Bool} {fuel : Nat} {x : DataW H × List MemPlace} {b : Nat} (hf : DataW.trod enc Tryz.prog W b sp held fuel 30 cs = some x) :
    ∃ q : Qo, cs = encQ q ∧ OkQ q := by
  obtain ⟨y0, y1, y2, y3, y4, y5, n, hl, h0, h1, h2, h3, h4, h5⟩ := trod_struct6 Tryz.underlying30 hf
  rw [ceQ] at hl
  obtain ⟨k, e0, -, -⟩ := DataW.trod_int Tryz.underlying3 h0
  obtain ⟨m, e1, -, w1⟩ := DataW.trod_int Tryz.underlying3 h1
  obtain ⟨s2, e2, -, -⟩ := DataW.trod_string Tryz.underlying9 h2
  obtain ⟨s3, e3, -, -⟩ := DataW.trod_string Tryz.underlying9 h3
  obtain ⟨s4, e4, -, -⟩ := DataW.trod_string Tryz.underlying9 h4
  obtain ⟨u, e5, -, w5⟩ := DataW.trod_int Tryz.underlying28 h5
  obtain ⟨un, rfl, hun⟩ := wf_u64 w5
  have hm := wf_i64 w1
  simp only [ceQs, ceQi, ceQu] at e0 e1 e2 e3 e4 e5
  match cs, hl with
  | [v0, v1, v2, v3, v4, v5], _ =>
    simp at e0 e1 e2 e3 e4 e5
    subst e0 e1 e2 e3 e4 e5
    exact ⟨⟨k, m, s2.data.toList, s3.data.toList, s4.data.toList, un⟩, by simp [encQ], ⟨by show -(2 ^ 63) ≤ m ∧ m < 2 ^ 63; omega, by show un < 2 ^ 64; omega⟩⟩
set_option maxRecDepth 100000 in
theorem open_qos (hval : Value.okWide Tryz.prog W .any base 22 v) (h : DataW.Trod enc Tryz.prog W 0 (fun _ => true) true 22 v d p) :
    ∃ A c es, v = .slice A (List.length es) c ∧ ArgG encQ noQ 6 W A c es ∧ ∀ e ∈ es, OkQ e := by
  obtain ⟨a0, len, cap, rfl⟩ := okWide_slice Tryz.underlying22 hval
  obtain ⟨fuel, hf⟩ := h
  rcases Go.Deep.open_slice Tryz.underlying22 hf with ⟨hcs, hx⟩ | ⟨a, len', cap', m, n, D, Pl, hcs, _, hl, hm, hmm, hx, hcell⟩
  · simp [Value.cells] at hcs
    obtain ⟨rfl, rfl, rfl⟩ := hcs
    exact ⟨none, 0, [], rfl, argG_nil W, fun e h => by cases h⟩
  · simp [Value.cells] at hcs
    obtain ⟨rfl, rfl, rfl⟩ := hcs
    simp only [if_true] at hmm
    subst hmm
    have : Inhabited Qo := ⟨noQ⟩
    obtain ⟨f, hf⟩ := Go.Deep.choose_lt (α := Qo) (n := len) (p := fun i x => (∀ j v, (encQ x)[j]? = some v → W.cell? ((a.add (i * 6)).add j) = some v) ∧ OkQ x) (fun i hi => by
      obtain ⟨cs', h1, h2⟩ := hcell i (by omega)
      obtain ⟨e, rfl, hn⟩ := qo_of_cells h2
      rw [ceQ] at h1
      obtain ⟨_, h3, h4⟩ := World.cells?_some h1
      refine ⟨e, fun j v hv => ?_, hn⟩
      have hj : j < 6 := (List.getElem?_eq_some_iff.1 hv).1
      exact (h4 j hj).trans hv)
    refine ⟨some a, m, (List.range len).map f, by simp, ⟨by simpa using hl, hm, (fun e => by cases e), fun h0 => ?_⟩, fun e he => ?_⟩
    · simp only [List.length_map, List.length_range] at h0
      obtain ⟨b, o, sp⟩ := a
      have hz := (hf 0 h0).1 0 _ rfl
      obtain rfl : sp = none := by simpa [Addr.add] using World.cell?_spot hz
      refine ⟨b, o, rfl, fun i hi j v hv => ?_⟩
      simp only [List.length_map, List.length_range] at hi
      have e : ((List.range len).map f).getD i noQ = f i := by simp [List.getD, hi]
      rw [e] at hv
      have := (hf i hi).1 j v hv
      rw [Addr.add_mid, Addr.add_mid] at this
      exact this
    · obtain ⟨i, hi, rfl⟩ := List.mem_map.1 he
      exact (hf i (List.mem_range.1 hi)).2
end
end Go.Proofs.YtjoinnjhpfakpaaGreatDoor.Door

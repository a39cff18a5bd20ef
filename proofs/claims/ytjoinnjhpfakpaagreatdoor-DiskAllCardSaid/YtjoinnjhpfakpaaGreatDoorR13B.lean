/-
  The document's disk: done, of a write.
-/
import Derived.Test.YtjoinnjhpfakpaaGreatDoorR13A
import Derived.Lib.SmallJoins
namespace Go.Proofs.YtjoinnjhpfakpaaGreatDoor
open Go.RowKit

def sv (l : List UInt8) : Value := .string ⟨l.toArray⟩
/-- An operation, as the document's disk keeps it. -/
def encP4 : Ch → List Value
  | .wr a b => [.int .i64 1, sv a, sv [], sv b]
  | .mv a b => [.int .i64 2, sv a, sv b, sv []]
  | .rm a => [.int .i64 3, sv a, sv [], sv []]
  | .sy => [.int .i64 0, sv [], sv [], sv []]
/-- A told list: the call's own, or the one that came in. -/
def ToldR (xs fs : List Fl) (A0 : Option Addr) (B : Nat) (e : Ending) (w : World) : Prop :=
  ∃ A c, e = .returned (.slice A xs.length c) ∧ ArgG encF noF 2 w A c xs ∧ ∀ j, inBlk A j → B ≤ j ∨ inBlk A0 j ∧ xs = fs
theorem getD_set {fs : List Fl} {p : Nat} {x : Fl} (hp : p < fs.length) (i : Nat) : (fs.take p ++ [x] ++ fs.drop (p + 1)).getD i noF = if i = p then x else fs.getD i noF := by
  have e : fs.take p ++ [x] ++ fs.drop (p + 1) = fs.set p x := by rw [List.set_eq_take_append_cons_drop, if_pos hp, List.append_assoc]; rfl
  rw [e, List.getD_eq_getElem?_getD, List.getElem?_set]
  by_cases h : i = p
  · subst h
    simp [hp]
  · rw [if_neg (fun e => h e.symm), if_neg h, List.getD_eq_getElem?_getD]
theorem own_text {w : World} {B T g c : Nat} {fs : List Fl} {p : Nat} {tx : List UInt8} (hT : Elt T 73 2 encF noF) (h : w.ownsRow B T 2 (.slice (some ⟨g, 0, none⟩) fs.length c) fs.length (fs.flatMap encF)) (hp : p < fs.length) :
    w.cell? ⟨g, p * 2 + 1, none⟩ = some (.string ⟨(fs.getD p noF).2.toArray⟩) ∧ w.frozen? ⟨g, p * 2 + 1, none⟩ = false ∧ ArgG encF noF 2 (w.setCell ⟨g, p * 2 + 1, none⟩ (sv tx)) (some ⟨g, 0, none⟩) c (fs.take p ++ [((fs.getD p noF).1, tx)] ++ fs.drop (p + 1)) ∧ B ≤ g := by
  have hrow := own_rowG hT h
  have hlen : (fs.take p ++ [((fs.getD p noF).1, tx)] ++ fs.drop (p + 1)).length = fs.length := by
    simp only [List.length_append, List.length_take, List.length_drop, List.length_singleton]
    omega
  have hc1 : w.cell? ⟨g, p * 2 + 1, none⟩ = some (sv (fs.getD p noF).2) := by
    have := hrow p hp 1 _ rfl
    rw [Nat.zero_add] at this
    exact this
  obtain ⟨A, c', e, hA, hO⟩ := own_argG hT h
  injection e with e1 e2 e3
  subst e1
  subst e3
  refine ⟨hc1, ?_, ⟨by rw [hlen]; exact hA.1, hA.2.1, (fun e => by cases e), fun _ => ⟨g, 0, rfl, fun i hi j v hv => ?_⟩⟩, hO.1 g ⟨_, rfl, rfl⟩⟩
  · obtain ⟨t, cs, hw⟩ := hO.2 g ⟨_, rfl, rfl⟩
    exact hw.thawed _
  · rw [hlen] at hi
    rw [getD_set hp] at hv
    rw [Nat.zero_add]
    have hj : j < 2 := (List.getElem?_eq_some_iff.1 hv).1
    by_cases hip : i = p
    · subst hip
      rw [if_pos rfl] at hv
      rcases (show j = 0 ∨ j = 1 by omega) with rfl | rfl
      · rw [World.cell?_setCell_other _ _ _ _ (fun e => by injection e with e1 e2; omega)]
        have := hrow i hi 0 v (by simpa [encF] using hv)
        simpa using this
      · rw [World.cell?_setCell_same _ _ _ hc1]
        simpa [encF, sv] using hv
    · rw [if_neg hip] at hv
      rw [World.cell?_setCell_other _ _ _ _ (fun e => by injection e with e1 e2; omega)]
      have := hrow i hi j v hv
      simpa using this
abbrev opW (a b : List UInt8) : Array Value := #[.int .i64 1, .string ⟨a.toArray⟩, .string ⟨#[]⟩, .string ⟨b.toArray⟩]
set_option maxRecDepth 100000 in
theorem rdone_full (A : Option Addr) (c : Nat) (fs : List Fl) (a b : List UInt8) (w : World) (hA : ArgG encF noF 2 w A c fs) (hr : Rises fs) (hn : fs.length ≤ 100) (hb : bsF fs a = false) (hf : 100 ≤ fs.length) :
    Calls Tryz.prog 45 #[.slice A fs.length c, .agg #[.int .i64 1, .string ⟨a.toArray⟩, .string ⟨#[]⟩, .string ⟨b.toArray⟩]] w fun e w' => ToldR fs fs A w.heap.size e w' ∧ Below w.heap.size w w' := by
  have hbx : Below w.heap.size w (w.alloc (.cells (opW a b) 86)) := (Below.refl _ _).alloc (Nat.le_refl _) _
  have hwx := Whole.made w 86 (opW a b)
  have HAT := Lib.hid (rat_any A c fs a _ (hA.later eltR hbx) hr (by omega))
  rw [hb] at HAT
  have HB := Lib.hid hbx
  have HA := Lib.hid hA
  have HC0 := Lib.hid fun W (hW : Below _ _ W) => (hW.cell (World.block_lt_of_cell? _ _ (hwx.at_ 0))).trans (hwx.at_ 0)
  have hf' : (fs.length : Int) ≥ 100 := by omega
  clear hbx hwx hA
  go_enter Tryz.func45, Tryz.ntmps45
  go_wp2_with (go_at_call 37; refine HAT.out.mono ?_; rintro e w2 ⟨rfl, hB2⟩; have c0 := HC0.out w2 hB2; have HB2 := Lib.hid (HB.out.trans (hB2.mono HB.out.size)); clear hB2 HAT HC0 HB)
  go_ret
  exact ⟨⟨A, c, rfl, HA.out.later eltR HB2.out, fun j hj => .inr ⟨hj, rfl⟩⟩, HB2.out⟩
set_option maxRecDepth 100000 in
theorem rdone_over (A : Option Addr) (c : Nat) (fs : List Fl) (a b : List UInt8) (w : World) (hA : ArgG encF noF 2 w A c fs) (hr : Rises fs) (hn : fs.length ≤ 100) (hb : bsF fs a = true) :
    Calls Tryz.prog 45 #[.slice A fs.length c, .agg #[.int .i64 1, .string ⟨a.toArray⟩, .string ⟨#[]⟩, .string ⟨b.toArray⟩]] w fun e w' => ToldR (fs.take (bsW fs a) ++ [(a, b)] ++ fs.drop (bsW fs a + 1)) fs A w.heap.size e w' ∧ Below w.heap.size w w' := by
  have hbx : Below w.heap.size w (w.alloc (.cells (opW a b) 86)) := (Below.refl _ _).alloc (Nat.le_refl _) _
  have hwx := Whole.made w 86 (opW a b)
  have HAT := Lib.hid (rat_any A c fs a _ (hA.later eltR hbx) hr (by omega))
  rw [hb] at HAT
  have HB := Lib.hid hbx
  have HA := Lib.hid hA
  have HWX := Lib.hid hwx
  have hlt := bsF_lt hb
  have hnm : (fs.getD (bsW fs a) noF).1 = a := ((bsF_iff fs a).1 hb).2
  have hres : fs.take (bsW fs a) ++ [(a, b)] ++ fs.drop (bsW fs a + 1) = fs.take (bsW fs a) ++ [((fs.getD (bsW fs a) noF).1, b)] ++ fs.drop (bsW fs a + 1) := by rw [hnm]
  rw [hres]
  have hll : (fs.take (bsW fs a) ++ [((fs.getD (bsW fs a) noF).1, b)] ++ fs.drop (bsW fs a + 1)).length = fs.length := by
    simp only [List.length_append, List.length_take, List.length_drop, List.length_singleton]
    omega
  have HLL := Lib.hid hll
  clear hnm hres hll
  generalize hp : bsW fs a = p at *
  have hlt' : (p : Int) < (fs.length : Int) := by omega
  clear hbx hwx hA hp
  go_enter Tryz.func45, Tryz.ntmps45
  go_wp2_with (first
    | (go_at_call 37; refine HAT.out.mono ?_; rintro e w2 ⟨rfl, hB2⟩; have hwx := HWX.out.below hB2 HWX.out.lt; have c0 : w2.cell? ⟨w.heap.size, 0, none⟩ = some (.int .i64 1) := (hwx.at_ 0).trans rfl; have c3 : w2.cell? ⟨w.heap.size, 3, none⟩ = some (.string ⟨b.toArray⟩) := (hwx.at_ 3).trans rfl; have HA2 := Lib.hid (HA.out.later eltR (HB.out.trans (hB2.mono HB.out.size))); have HB2 := Lib.hid (HB.out.trans (hB2.mono HB.out.size)); have hsz : w.heap.size < w2.heap.size := World.block_lt_of_cell? _ _ c0; clear hB2 HAT HWX HB hwx)
    | (at_builtin; go_loud (refine wpList_appendG eltR rfl _ _ rfl w2.heap.size (.slice none 0 0) [] rfl (World.ownsRow_nil _ _ _ _) A fs.length c fs rfl rfl HA2.out (Nat.le_refl _) (by simp; omega) ?_)))
  intro v' w3 hown hb3 hgr3
  obtain ⟨g, c3', rfl⟩ := Go.Joins.ownsRow_form hown (by omega)
  obtain ⟨hh1, hh2, hh3, hh4⟩ := own_text (tx := b) eltR hown hlt
  have HOT := Lib.hid hh3
  have HG := Lib.hid hh4
  have HB3 := Lib.hid (HB2.out.trans (hb3.mono (Nat.le_of_lt hsz)))
  have c3b : w3.cell? ⟨w.heap.size, 3, none⟩ = some (.string ⟨b.toArray⟩) := (hb3.cell hsz).trans c3
  clear hown hb3 hgr3 hh3 hh4
  go_wp2
  go_ret
  exact ⟨⟨some ⟨g, 0, none⟩, c3', by rw [HLL.out]; rfl, HOT.out, fun j hj => by obtain ⟨x, e, rfl⟩ := hj; injection e with e; subst e; exact .inl (Nat.le_trans (Nat.le_of_lt hsz) HG.out)⟩, ((Alt.of_below (R := fun _ => False) HB3.out).set (p := ⟨g, p * 2 + 1, none⟩) (.inr (Nat.le_trans (Nat.le_of_lt hsz) HG.out)) _).none⟩
end Go.Proofs.YtjoinnjhpfakpaaGreatDoor

/-
  object.blob, Get, walked.
-/
import Derived.Test.YtfaijkgfhdhhbaaGreatDoorObD
import Derived.Test.YtfaijkgfhdhhbaaGreatDoorComJ
namespace Go.Proofs.YtfaijkgfhdhhbaaGreatDoor
open Go.RowKit

def zO : Ob := ⟨0, [], [], noC⟩
/-- What Get tells. -/
def getOb (k : Int) (s : List UInt8) : Ob × Int :=
  if k = 1 then (if s.length ≤ 1000 then (⟨1, s, [], noC⟩, 0) else (zO, 5))
  else if k = 2 then (match getT s with | some es => (⟨2, [], es, noC⟩, 0) | none => (zO, 1))
  else if k = 3 then (match readC s with | some x => (⟨3, [], [], x⟩, 0) | none => (zO, 1))
  else (zO, 1)
theorem oblob_any (s : List UInt8) (w : World) : Calls Tryz.prog 39 #[.string ⟨s.toArray⟩] w fun e w' => e = .returned (if s.length ≤ 1000 then .tuple #[.string ⟨s.toArray⟩, .int .i64 0] else .tuple #[.string ⟨#[]⟩, .int .i64 5]) ∧ Below w.heap.size w w' := by
  by_cases h : s.length ≤ 1000
  · have HC := Lib.hid (sclone_any s w (by omega))
    have hd : decide ((1000 : Int) < (s.length : Int)) = false := by simp; omega
    have H := Lib.hid h
    clear h
    go_enter Tryz.func39, Tryz.ntmps39
    go_wp2_with fail
    refine HC.out.mono ?_
    rintro e w1 ⟨rfl, hb⟩
    have HB := Lib.hid hb
    clear hb
    go_wp2
    go_ret2
    exact ⟨rfl, HB.out⟩
  · have hd : decide ((1000 : Int) < (s.length : Int)) = true := by simp; omega
    have H := Lib.hid h
    clear h
    go_enter Tryz.func39, Tryz.ntmps39
    go_wp2
    go_ret2
    exact ⟨rfl, Below.refl _ _⟩
theorem zO_build (w : World) : (Instr.build 30 #[]).run Tryz.prog w = .ok (.agg (encO none 0 none 0 zO).toArray) w := by kernel_rfl
theorem argO_zero (k : Int) (b : List UInt8) (w : World) : ArgO w none 0 none 0 ⟨k, b, [], noC⟩ :=
  ⟨⟨Nat.le_refl _, Nat.zero_le _, fun _ => rfl, fun h => absurd h (Nat.lt_irrefl _)⟩, ⟨Nat.le_refl _, Nat.zero_le _, fun _ => rfl, fun h => absurd h (Nat.lt_irrefl _)⟩⟩
theorem results_orow {fn : Func} (hr : fn.results = #[.cell 4 30, .tmp 5]) (v : Value) (a : Act) (w : World) (g : Nat) (t : TypeId) (cs : Array Value) (h2 : a.tmps.getD 4 undef = .pointer (some ⟨g, 0, none⟩)) (h3 : a.tmps.getD 5 undef = v) (hW : Whole w g t cs) (hi : (Tryz.prog.info? 30).map (·.size) = some cs.size) :
    (results fn a.tmps).run Tryz.prog w = .ok (.tuple #[.agg cs, v]) w := by
  rw [← h3]
  exact results_row_tmp hr _ _ g t cs (0, 0) _ h2 hW Tryz.underlying30 rfl hi
theorem ArgE.grown {w w' : World} {A : Option Addr} {c : Nat} {es : List En} {row : Option Nat} (h : ArgE w A c es) (hg : w.grownBy w' row) (hn : ∀ j, inBlk A j → 0 < es.length → some j ≠ row) : ArgE w' A c es := by
  have h' := h
  obtain ⟨h1, h2, h3, h4⟩ := h
  refine ⟨h1, h2, h3, fun h0 => ?_⟩
  obtain ⟨b, o, e, hr⟩ := h4 h0
  have hk := hg.block b (h'.lt ⟨_, e, rfl⟩ h0) (hn b ⟨_, e, rfl⟩ h0)
  refine ⟨b, o, e, fun i hi j v hv => ?_⟩
  have := hr i hi j v hv
  unfold World.cell? at *
  dsimp only at *
  rw [hk]
  exact this
theorem encO_set1 (A : Option Addr) (c : Nat) (A2 : Option Addr) (c2 : Nat) (x : Ob) (b : List UInt8) : (encO A c A2 c2 x).toArray.setIfInBounds 1 (.string ⟨b.toArray⟩) = (encO A c A2 c2 ⟨x.kind, b, x.entries, x.commit⟩).toArray := by
  apply Array.ext'
  simp [encO]
theorem encO_set2 (A : Option Addr) (c : Nat) (A2 : Option Addr) (c2 : Nat) (x : Ob) (A' : Option Addr) (c' : Nat) (es : List En) : (encO A c A2 c2 x).toArray.setIfInBounds 2 (.slice A' es.length c') = (encO A' c' A2 c2 ⟨x.kind, x.blob, es, x.commit⟩).toArray := by
  apply Array.ext'
  simp [encO]
theorem encO_over (A : Option Addr) (c : Nat) (A2 : Option Addr) (c2 : Nat) (x : Ob) (B : Option Addr) (d : Nat) (y : Cm) : ((encO A c A2 c2 x).toArray.toList.take 3 ++ (encC B d y) ++ (encO A c A2 c2 x).toArray.toList.drop (3 + (encC B d y).length)) = encO A c B d ⟨x.kind, x.blob, x.entries, y⟩ := by
  rw [encC_len]
  have h : (encO A c A2 c2 x).toArray.toList.drop (3 + 35) = [] := List.drop_eq_nil_of_le (by show (encO A c A2 c2 x).length ≤ 38; rw [encO_len]; exact Nat.le_refl _)
  rw [h, List.append_nil]
  rfl
end Go.Proofs.YtfaijkgfhdhhbaaGreatDoor

/-
  Slices of names that a row hands over, opened.
-/
import Derived.Test.YtdjhkaofhdcalaaGreatDoorOpenI
import Derived.Test.YtdjhkaofhdcalaaGreatDoorMrg3
import Derived.Deep.Slices
namespace Go.Proofs.YtdjhkaofhdcalaaGreatDoor.Door
open Go.RowKit Go.ChangeShapes Go.WideShapes Go.ChangeAt

section
variable {H : Type} {enc : TypeId × Value → H} {W : World} {base : Nat} {v : Value} {d : DataW H} {p : List MemPlace}
set_option maxRecDepth 100000 in
theorem open_ids (hval : Value.okWide Tryz.prog W .any base 24 v) (h : DataW.Trod enc Tryz.prog W 0 (fun _ => true) true 24 v d p) :
    ∃ A c ids, v = .slice A (List.length ids) c ∧ ArgN W A c ids := by
  obtain ⟨a0, len, cap, rfl⟩ := okWide_slice Tryz.underlying24 hval
  obtain ⟨fuel, hf⟩ := h
  rcases Go.Deep.open_slice Tryz.underlying24 hf with ⟨hcs, hx⟩ | ⟨a, len', cap', m, n, D, Pl, hcs, _, hl, hm, hmm, hx, hcell⟩
  · simp [Value.cells] at hcs
    obtain ⟨rfl, rfl, rfl⟩ := hcs
    exact ⟨none, 0, [], rfl, Nat.le_refl _, Nat.zero_le _, fun _ => rfl, fun h => absurd h (Nat.lt_irrefl _)⟩
  · simp [Value.cells] at hcs
    obtain ⟨rfl, rfl, rfl⟩ := hcs
    simp only [if_true] at hmm
    subst hmm
    obtain ⟨f, hf⟩ := Go.Deep.choose_lt (α := Nm) (n := len) (p := fun i x => ∀ j v, (encN x)[j]? = some v → W.cell? ((a.add (i * 32)).add j) = some v) (fun i hi => by
      obtain ⟨cs', h1, h2⟩ := hcell i (by omega)
      obtain ⟨id, hil, rfl⟩ := id_of_cells h2
      rw [ceId] at h1
      obtain ⟨_, h3, h4⟩ := World.cells?_some h1
      refine ⟨⟨id, hil⟩, fun j v hv => ?_⟩
      have hj : j < 32 := by
        have := (List.getElem?_eq_some_iff.1 hv).1
        rwa [encN_len] at this
      exact (h4 j hj).trans hv)
    refine ⟨some a, m, (List.range len).map f, by simp, by simpa using hl, hm, (fun e => by cases e), fun h0 => ?_⟩
    simp only [List.length_map, List.length_range] at h0
    obtain ⟨b, o, sp⟩ := a
    have hz := hf 0 h0 0 _ (List.getElem?_eq_getElem (by rw [encN_len]; omega))
    obtain rfl : sp = none := by simpa [Addr.add] using World.cell?_spot hz
    refine ⟨b, o, rfl, fun i hi j v hv => ?_⟩
    simp only [List.length_map, List.length_range] at hi
    have e : ((List.range len).map f).getD i default = f i := by simp [List.getD, hi]
    rw [e] at hv
    have := hf i hi j v hv
    rw [Addr.add_mid, Addr.add_mid] at this
    exact this
end
end Go.Proofs.YtdjhkaofhdcalaaGreatDoor.Door

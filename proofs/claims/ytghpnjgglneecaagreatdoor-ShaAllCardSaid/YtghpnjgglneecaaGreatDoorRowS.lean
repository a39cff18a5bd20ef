/-
  Parts of a row of bytes of the call's own.
-/
import Derived.Test.YtghpnjgglneecaaGreatDoorArg
namespace Go.Proofs.YtghpnjgglneecaaGreatDoor
open Go.RowKit

theorem sliced_own {A : Option Addr} {a n c : Nat} {j : Nat} (h : (Value.slice (if c = a then A else A.map (·.add a)) n (c - a)).ownBlock = some j) : blockOf A j := by
  cases A with
  | none => simp [Value.ownBlock] at h
  | some ad =>
    refine ⟨ad, rfl, ?_⟩
    have e : ∀ k, (ad.add k).block = ad.block := fun k => by unfold Addr.add; split <;> rfl
    split at h
    · simpa [Value.ownBlock] using h
    · simpa [Value.ownBlock, e] using h
theorem row_part {w : World} {A : Option Addr} {c m : Nat} {l : List UInt8} (h : Row w A c l) (hm : l.length = m) (a n : Nat) (hn : a + n ≤ m) : Bytes w (.slice (if c = a then A else A.map (·.add a)) n (c - a)) ((l.drop a).take n) := by
  obtain ⟨h1, h2, h3⟩ := h
  have hlt : ((l.drop a).take n).length = n := by rw [List.length_take, List.length_drop]; omega
  refine ⟨_, _, by rw [hlt], by rw [hlt]; omega, by omega, fun h0 => ?_⟩
  rw [hlt] at h0
  obtain ⟨g, rfl, hg, hc⟩ := h3 (by omega)
  have hca : ¬ c = a := by omega
  refine ⟨g, a, by rw [if_neg hca]; simp [Addr.add]; omega, fun i hi => ?_⟩
  rw [hlt] at hi
  rw [(hc (a + i) (by omega)).1]
  congr 2
  simp only [List.getD, List.getElem?_take, if_pos hi, List.getElem?_drop]
set_option maxRecDepth 100000 in
theorem row_cut {w : World} {A : Option Addr} {c m : Nat} {l : List UInt8} (h : Row w A c l) (hm : l.length = m) (a n : Nat) (hn : a + n ≤ m) :
    ∃ v, (∀ W, (Instr.slice 22 (.slice A m c) (some (.int .i64 (a : Int))) (some (.int .i64 ((a : Int) + (n : Int)))) none).run Tryz.prog W = .ok v W) ∧ Bytes w v ((l.drop a).take n) ∧ ∀ j, v.ownBlock = some j → blockOf A j := by
  refine ⟨_, fun W => ?_, row_part h hm a n hn, fun j hj => sliced_own hj⟩
  obtain ⟨h1, h2, h3⟩ := h
  have hel : Tryz.prog.elem 22 = 5 := by simp [Program.elem, Tryz.underlying22]
  have h := run_slice_lh (P := Tryz.prog) (w := W) (t := 22) (a := A) (len := m) (cap := c) (by rw [hel]; exact Tryz.underlying22) .i64 .i64 (a : Int) ((a : Int) + (n : Int)) (by omega) (by omega) (by omega)
  rw [h, hel]
  obtain ⟨bi, hbi, hz0, hz1, hz2⟩ := info_parts infoB
  have e1 : ((a : Int) + (n : Int)).toNat = a + n := by omega
  simp [sizeOf, typeInfo, hbi, hz1, sliced, e1]
set_option maxRecDepth 100000 in
theorem row_from {w : World} {A : Option Addr} {c m : Nat} {l : List UInt8} (h : Row w A c l) (hm : l.length = m) (a : Nat) (hn : a ≤ m) :
    ∃ v, (∀ W, (Instr.slice 22 (.slice A m c) (some (.int .i64 (a : Int))) none none).run Tryz.prog W = .ok v W) ∧ Bytes w v (l.drop a) ∧ ∀ j, v.ownBlock = some j → blockOf A j := by
  have hp := row_part h hm a (m - a) (by omega)
  rw [List.take_of_length_le (by rw [List.length_drop]; omega)] at hp
  refine ⟨_, fun W => ?_, hp, fun j hj => sliced_own hj⟩
  obtain ⟨h1, h2, h3⟩ := h
  have hel : Tryz.prog.elem 22 = 5 := by simp [Program.elem, Tryz.underlying22]
  have h := run_slice_l (P := Tryz.prog) (w := W) (t := 22) (a := A) (len := m) (cap := c) (by rw [hel]; exact Tryz.underlying22) .i64 (a : Int) (by omega) (by omega)
  rw [h, hel]
  obtain ⟨bi, hbi, hz0, hz1, hz2⟩ := info_parts infoB
  simp [sizeOf, typeInfo, hbi, hz1, sliced]
/-- The first bytes of it, as a string. -/
theorem row_head {w : World} {A : Option Addr} {c m : Nat} {l : List UInt8} (h : Row w A c l) (hm : l.length = m) (a : Nat) (ha : a ≤ m) :
    (∀ W, (Instr.slice 22 (.slice A m c) none (some (.int .i64 (a : Int))) none).run Tryz.prog W = .ok (.slice A a c) W) ∧ (convert 22 9 (.slice A a c)).run Tryz.prog w = .ok (.string ⟨(l.take a).toArray⟩) w := by
  refine ⟨slice_to (P := Tryz.prog) (A := A) (c := c) 22 5 m a Tryz.underlying22 (by kernel_rfl) (by have := h.1; omega), ?_⟩
  obtain ⟨h1, h2, h3⟩ := h
  have hl : (l.take a).length = a := by rw [List.length_take]; omega
  have hby : Bytes w (.slice A a c) (l.take a) := by
    refine ⟨A, c, by rw [hl], by rw [hl]; omega, h2, fun h0 => ?_⟩
    rw [hl] at h0
    obtain ⟨g, rfl, hg, hc⟩ := h3 (by omega)
    refine ⟨g, 0, rfl, fun i hi => ?_⟩
    rw [hl] at hi
    rw [Nat.zero_add, (hc i (by omega)).1]
    congr 2
    simp only [List.getD, List.getElem?_take, if_pos hi]
  exact bytes_str (P := Tryz.prog) 22 9 5 Tryz.underlying22 Tryz.underlying5 Tryz.underlying9 hby
end Go.Proofs.YtghpnjgglneecaaGreatDoor

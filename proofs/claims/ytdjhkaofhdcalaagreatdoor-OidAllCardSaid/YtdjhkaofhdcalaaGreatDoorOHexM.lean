/-
  A name and its digits: the model.
-/
import Derived.Test.YtdjhkaofhdcalaaGreatDoorOGetM
namespace Go.Proofs.YtdjhkaofhdcalaaGreatDoor
open Go.RowKit
theorem hx_hval (c : UInt8) (h : 0 ≤ hval c) : hx (hval c).toNat = c := by
  have hh : ∀ n, n < 256 → 0 ≤ hval (UInt8.ofNat n) → hx (hval (UInt8.ofNat n)).toNat = UInt8.ofNat n := by decide +kernel
  have := hh c.toNat c.toNat_lt
  rw [UInt8.ofNat_toNat] at this
  exact this h
theorem hx_inj (a b : Nat) (ha : a < 16) (hb : b < 16) (h : hx a = hx b) : a = b := by
  have hh : ∀ a, a < 16 → ∀ b, b < 16 → hx a = hx b → a = b := by decide +kernel
  exact hh a ha b hb h
theorem hexOf_inj : ∀ a b : List UInt8, hexOf a = hexOf b → a = b
  | [], [], _ => rfl
  | [], _ :: _, h => by simp [hexOf] at h
  | _ :: _, [], h => by simp [hexOf] at h
  | x :: a, y :: b, h => by
    simp only [hexOf, List.cons.injEq] at h
    obtain ⟨h1, h2, h3⟩ := h
    have hx1 := hx_inj _ _ (by have := x.toNat_lt; omega) (by have := y.toNat_lt; omega) h1
    have hx2 := hx_inj _ _ (by omega) (by omega) h2
    rw [hexOf_inj a b h3, show x = y from UInt8.toNat_inj.1 (by omega)]
/-- The digits of pairs, from any place on. -/
theorem hexOf_pairs (p : List UInt8) (hp : ∀ j, j < p.length → 0 ≤ hval (p.getD j 0)) : ∀ (m j : Nat), 2 * (j + m) = p.length →
    hexOf ((List.range' j m).map fun i => UInt8.ofNat (hd p (2 * i) * 16 + hd p (2 * i + 1))) = p.drop (2 * j)
  | 0, j, h => by
    rw [List.drop_eq_nil_of_le (by omega)]; rfl
  | m + 1, j, h => by
    have l1 := hd_lt p (2 * j)
    have l2 := hd_lt p (2 * j + 1)
    have e := UInt8.toNat_ofNat_of_lt' (show hd p (2 * j) * 16 + hd p (2 * j + 1) < 256 by omega)
    rw [List.range'_succ, List.map_cons, hexOf, e, hexOf_pairs p hp m (j + 1) (by omega), show (hd p (2 * j) * 16 + hd p (2 * j + 1)) / 16 = hd p (2 * j) by omega, show (hd p (2 * j) * 16 + hd p (2 * j + 1)) % 16 = hd p (2 * j + 1) by omega]
    have e1 : p.getD (2 * j) 0 = p[2 * j] := by rw [List.getD_eq_getElem?_getD, List.getElem?_eq_getElem (show 2 * j < p.length by omega), Option.getD_some]
    have e2 : p.getD (2 * j + 1) 0 = p[2 * j + 1] := by rw [List.getD_eq_getElem?_getD, List.getElem?_eq_getElem (show 2 * j + 1 < p.length by omega), Option.getD_some]
    have k1 := hx_hval _ (hp (2 * j) (by omega))
    have k2 := hx_hval _ (hp (2 * j + 1) (by omega))
    unfold hd
    rw [k1, k2, e1, e2, List.drop_eq_getElem_cons (show 2 * j < p.length by omega), List.drop_eq_getElem_cons (show 2 * j + 1 < p.length by omega)]
    rfl
theorem hexOf_idl (p : List UInt8) (h : good p = true) : hexOf (idl p 64) = p := by
  simp only [good, Bool.and_eq_true, beq_iff_eq, List.all_eq_true, decide_eq_true_eq] at h
  obtain ⟨hl, ha⟩ := h
  have e : idl p 64 = (List.range' 0 32).map fun i => UInt8.ofNat (hd p (2 * i) * 16 + hd p (2 * i + 1)) := by
    apply List.ext_getElem
    · simp [idl]
    · intro j h1 h2
      have hj : j < 32 := by simpa [idl] using h1
      simp only [idl, List.getElem_map, List.getElem_range, List.getElem_range']
      unfold idn
      rw [if_pos (by omega)]
      simp
  rw [e, hexOf_pairs p (fun j hj => by
    rw [List.getD_eq_getElem?_getD, List.getElem?_eq_getElem hj, Option.getD_some]
    exact ha _ (List.getElem_mem _)) 32 0 (by omega)]
  rfl
theorem id_is (p a : List UInt8) (h : good p = true) : idl p 64 = a ↔ p = hexOf a := by
  constructor
  · rintro rfl; exact (hexOf_idl p h).symm
  · intro e
    have := hexOf_idl p h
    rw [e] at this
    rw [e]
    exact hexOf_inj _ _ this
end Go.Proofs.YtdjhkaofhdcalaaGreatDoor

/-
  Arrays of bytes held against each other.
-/
import Derived.Test.YtdjhkaofhdcalaaGreatDoorBase
import Derived.Test.YtdjhkaofhdcalaaGreatDoorProg
import Derived.ChangeKeysEq
import Derived.Laws.StructEq
namespace Go.Proofs.YtdjhkaofhdcalaaGreatDoor
open Go.RowKit

theorem part_byte (xs : List UInt8) (i : Nat) (hi : i < xs.length) (w : World) : (part 5 (xs.map Y).toArray i).run Tryz.prog w = .ok (Y (xs.getD i 0)) w := by
  have hagg : (isAgg 5).run Tryz.prog w = .ok false w := by
    unfold isAgg
    rw [Sem.run_bind, run_underlying Tryz.underlying5 w]
    rfl
  have hv : (xs.map Y).toArray[i]? = some (Y (xs.getD i 0)) := by simp [List.getElem?_eq_getElem hi]
  simp [part, hagg, hv, Y]
theorem eqItems_bytes (d : Nat) (xs ys : List UInt8) (w : World) : ∀ is : List Nat, (∀ i ∈ is, i < xs.length ∧ i < ys.length) →
    (Op.eqItems (d + 1) 5 1 (xs.map Y).toArray (ys.map Y).toArray is).run Tryz.prog w = .ok (is.all fun i => xs.getD i 0 == ys.getD i 0) w
  | [], _ => by simp [Op.eqItems]
  | i :: is, h => by
    obtain ⟨h1, h2⟩ := h i (by simp)
    have hp := part_byte xs i h1 w
    have hq := part_byte ys i h2 w
    have he : (Op.equalIn (d + 1) 5 (Y (xs.getD i 0)) (Y (ys.getD i 0))).run Tryz.prog w = .ok (((xs.getD i 0).toNat : Int) == ((ys.getD i 0).toNat : Int)) w := run_equalIn_int (P := Tryz.prog) w d 5 .u8 .u8 _ _ Tryz.underlying5
    have ih := eqItems_bytes d xs ys w is (fun j hj => h j (by simp [hj]))
    have hb : (((xs.getD i 0).toNat : Int) == ((ys.getD i 0).toNat : Int)) = (xs.getD i 0 == ys.getD i 0) := by
      rw [Bool.eq_iff_iff]
      simp only [beq_iff_eq]
      constructor
      · intro e
        exact UInt8.toNat_inj.1 (by omega)
      · intro e
        rw [e]
    simp only [Op.eqItems, Nat.mul_one, Sem.run_bind, hp, hq, Result.andThen_ok]
    rw [he, Result.andThen_ok, hb, List.all_cons]
    cases hc : (xs.getD i 0 == ys.getD i 0)
    · simp
    · simpa using ih
theorem all_range (xs ys : List UInt8) (n : Nat) (hx : xs.length = n) (hy : ys.length = n) : ((List.range n).all fun i => xs.getD i 0 == ys.getD i 0) = decide (xs = ys) := by
  rw [Bool.eq_iff_iff]
  simp only [List.all_eq_true, List.mem_range, beq_iff_eq, decide_eq_true_eq]
  constructor
  · intro h
    apply List.ext_getElem (by omega)
    intro i h1 h2
    have := h i (by omega)
    simpa [List.getD, List.getElem?_eq_getElem h1, List.getElem?_eq_getElem h2] using this
  · rintro rfl i _
    rfl
theorem equalIn_bytes (T n : Nat) (d : Nat) (hT : Tryz.prog.underlying T = some (.array n 5)) (xs ys : List UInt8) (hx : xs.length = n) (hy : ys.length = n) (w : World) :
    (Op.equalIn (d + 1 + 1) T (.agg (xs.map Y).toArray) (.agg (ys.map Y).toArray)).run Tryz.prog w = .ok (decide (xs = ys)) w := by
  have hc : Tryz.prog.cellsOf 5 = 1 := by kernel_rfl
  have hi : ∃ i, Tryz.prog.info? 5 = some i := by
    cases h : Tryz.prog.info? 5 with
    | some i => exact ⟨i, rfl⟩
    | none => exact absurd (show (Tryz.prog.info? 5).isSome = true by kernel_rfl) (by rw [h]; decide)
  obtain ⟨i, hi⟩ := hi
  rw [run_equalIn_array (P := Tryz.prog) w (d + 1) _ _ hT hi, hc, eqItems_bytes d xs ys w _ (by intro j hj; rw [List.mem_range] at hj; omega), all_range xs ys n hx hy]
theorem eql_bytes (T n : Nat) (hT : Tryz.prog.underlying T = some (.array n 5)) (xs ys : List UInt8) (hx : xs.length = n) (hy : ys.length = n) (w : World) :
    (binOp .eql T (.agg (xs.map Y).toArray) (.agg (ys.map Y).toArray)).run Tryz.prog w = .ok (.bool (decide (xs = ys))) w := by
  rw [run_eql_struct (P := Tryz.prog) w T, equalIn_bytes T n 9998 hT xs ys hx hy w]
  rfl
theorem neq_bytes (T n : Nat) (hT : Tryz.prog.underlying T = some (.array n 5)) (xs ys : List UInt8) (hx : xs.length = n) (hy : ys.length = n) (w : World) :
    (binOp .neq T (.agg (xs.map Y).toArray) (.agg (ys.map Y).toArray)).run Tryz.prog w = .ok (.bool (!decide (xs = ys))) w := by
  rw [run_neq_struct (P := Tryz.prog) w T, equalIn_bytes T n 9998 hT xs ys hx hy w]
  rfl
end Go.Proofs.YtdjhkaofhdcalaaGreatDoor

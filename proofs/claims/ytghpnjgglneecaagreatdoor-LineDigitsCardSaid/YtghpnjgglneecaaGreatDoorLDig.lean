/-
  LineDigits, walked.
-/
import Derived.Test.YtghpnjgglneecaaGreatDoorR5G
import Derived.Test.YtghpnjgglneecaaGreatDoorLinC
import Derived.Test.YtghpnjgglneecaaGreatDoorMake
import Derived.Deep.RegionHeld3
namespace Go.Proofs.YtghpnjgglneecaaGreatDoor
open Go.RowKit

def signs : List UInt8 := [48, 49, 50, 51, 52, 53, 54, 55, 56, 57, 97, 98, 99, 100, 101, 102, 65, 32, 103]
theorem sign_at (a : UInt8) (w : World) : (Instr.index 9 (.string ⟨#[48, 49, 50, 51, 52, 53, 54, 55, 56, 57, 97, 98, 99, 100, 101, 102, 65, 32, 103]⟩) (.int .i64 ((a.toNat : Int) % 19))).run Tryz.prog w = .ok (.int .u8 ((signs.getD (a.toNat % 19) 0).toNat : Int)) w := by
  have h := str_at signs (a.toNat % 19) (by show _ < 19; omega) w
  rw [show ((a.toNat % 19 : Nat) : Int) = (a.toNat : Int) % 19 by omega] at h
  exact h
theorem and_1023 (n : Int) : ∃ m : Nat, m ≤ 1023 ∧ bits .and .i64 n 1023 = (m : Int) := by
  refine ⟨(BitVec.ofInt 64 n &&& BitVec.ofInt 64 1023).toNat, ?_, ?_⟩
  · rw [BitVec.toNat_and]
    exact Nat.le_trans Nat.and_le_right (by decide)
  · show IntKind.i64.wrap ((BitVec.ofInt 64 n &&& BitVec.ofInt 64 1023).toNat : Int) = _
    have h : (BitVec.ofInt 64 n &&& BitVec.ofInt 64 1023).toNat ≤ 1023 := by
      rw [BitVec.toNat_and]
      exact Nat.le_trans Nat.and_le_right (by decide)
    rw [IntKind.wrap_i64]
    omega
theorem conv_whole {W : World} {g : Nat} {bs : List UInt8} (h : Whole W g 5 (bs.map Y ++ []).toArray) (n : Nat) (hn : bs.length = n) (hm : n ≤ 1048576) : (convert 22 9 (.slice (some ⟨g, 0, none⟩) n n)).run Tryz.prog W = .ok (.string ⟨bs.toArray⟩) W := by
  subst hn
  exact bytes_str (P := Tryz.prog) 22 9 5 Tryz.underlying22 Tryz.underlying5 Tryz.underlying9 (whole_bytes h (Nat.le_refl _) (by unfold maxLen; omega))
set_option maxRecDepth 100000 in
set_option maxHeartbeats 4000000 in
theorem ldig_any (a b c d : UInt8) (n : Int) (w : World) (hE : Env w) : Calls Tryz.prog 10 #[.int .u8 (a.toNat : Int), .int .u8 (b.toNat : Int), .int .u8 (c.toNat : Int), .int .u8 (d.toNat : Int), .int .i64 n] w fun e w' => e = .returned (.bool true) ∧ Below w.heap.size w w' := by
  have HE := Lib.hid hE
  clear hE
  obtain ⟨m, hm, hmb⟩ := and_1023 n
  have hmk := make_bytes m (by omega)
  have i3 := sign_at a
  have i2 := sign_at b
  have i1 := sign_at c
  have i0 := sign_at d
  generalize signs.getD (a.toNat % 19) 0 = x3 at *
  generalize signs.getD (b.toNat % 19) 0 = x2 at *
  generalize signs.getD (c.toNat % 19) 0 = x1 at *
  generalize signs.getD (d.toNat % 19) 0 = x0 at *
  have la := a.toNat_lt
  have lb := b.toNat_lt
  have lc := c.toNat_lt
  have ld := d.toNat_lt
  have t3 : (a.toNat : Int).tmod 19 = (a.toNat : Int) % 19 := Int.tmod_eq_emod_of_nonneg (by omega)
  have t2 : (b.toNat : Int).tmod 19 = (b.toNat : Int) % 19 := Int.tmod_eq_emod_of_nonneg (by omega)
  have t1 : (c.toNat : Int).tmod 19 = (c.toNat : Int) % 19 := Int.tmod_eq_emod_of_nonneg (by omega)
  have t0 : (d.toNat : Int).tmod 19 = (d.toNat : Int) % 19 := Int.tmod_eq_emod_of_nonneg (by omega)
  go_enter Tryz.func10, Tryz.ntmps10
  go_wp2_with fail
  refine (begun_any _ HE.out).mono ?_
  rintro e w1 ⟨rfl, hB⟩
  have HB := Lib.hid hB
  clear hB
  go_wp2_with fail
  have hF1 : Whole (w1.alloc (.cells #[.int .u8 (x3.toNat : Int), .int .u8 (x2.toNat : Int), .int .u8 (x1.toNat : Int), .int .u8 (x0.toNat : Int)] 5)) w1.heap.size 5 (([x3, x2, x1, x0].map Y) ++ []).toArray := Whole.made w1 _ _
  have hZ1 : Whole (w1.alloc (.cells (zcells m) 5)) w1.heap.size 5 (((List.replicate m (0 : UInt8)).map Y) ++ []).toArray := Whole.made w1 _ _
  have hF2 : Whole ((w1.alloc (.cells (zcells m) 5)).alloc (.cells #[.int .u8 (x3.toNat : Int), .int .u8 (x2.toNat : Int), .int .u8 (x1.toNat : Int), .int .u8 (x0.toNat : Int)] 5)) (w1.heap.size + 1) 5 (([x3, x2, x1, x0].map Y) ++ []).toArray := heap_alloc2_new w1 _ _
  have hZ2 : Whole ((w1.alloc (.cells #[.int .u8 (x3.toNat : Int), .int .u8 (x2.toNat : Int), .int .u8 (x1.toNat : Int), .int .u8 (x0.toNat : Int)] 5)).alloc (.cells (zcells m) 5)) (w1.heap.size + 1) 5 (((List.replicate m (0 : UInt8)).map Y) ++ []).toArray := heap_alloc2_new w1 _ _
  have hml : (List.replicate m (0 : UInt8)).length = m := List.length_replicate
  have c1 := conv_whole hF1.drew 4 rfl (by decide)
  have c2 := conv_whole (hF1.past (.cells (zcells m) 5)).drew 4 rfl (by decide)
  have c3 := conv_whole hZ2.drew m hml (by omega)
  have c4 := conv_whole hZ1.drew m hml (by omega)
  have c5 := conv_whole (hZ1.past (.cells #[.int .u8 (x3.toNat : Int), .int .u8 (x2.toNat : Int), .int .u8 (x1.toNat : Int), .int .u8 (x0.toNat : Int)] 5)).drew m hml (by omega)
  have c6 := conv_whole hF2.drew 4 rfl (by decide)
  have HBa := Lib.hid ((HB.out.alloc HB.out.size (.cells #[.int .u8 (x3.toNat : Int), .int .u8 (x2.toNat : Int), .int .u8 (x1.toNat : Int), .int .u8 (x0.toNat : Int)] 5)).alloc (by simp; have := HB.out.size; omega) (.cells (zcells m) 5)).drew
  have HBb := Lib.hid ((HB.out.alloc HB.out.size (.cells (zcells m) 5)).alloc (by simp; have := HB.out.size; omega) (.cells #[.int .u8 (x3.toNat : Int), .int .u8 (x2.toNat : Int), .int .u8 (x1.toNat : Int), .int .u8 (x0.toNat : Int)] 5)).drew
  have HML := Lib.hid hml
  clear hF1 hZ1 hF2 hZ2 hml
  generalize List.replicate m (0 : UInt8) = zr at *
  have hzr : zr.length ≤ 1023 := by rw [HML.out]; exact hm
  have HSUM : Hid ((ByteArray.mk #[x3, x2, x1, x0] ++ ByteArray.mk zr.toArray) = ⟨([x3, x2, x1, x0] ++ zr).toArray⟩) := by show _ = _; rw [show (ByteArray.mk #[x3, x2, x1, x0]) = ⟨[x3, x2, x1, x0].toArray⟩ from rfl, ba_append]
  have HRR := Lib.hid fun W => r5get_any [x3, x2, x1, x0] zr W rfl (by omega)
  have HGO := Lib.hid fun k n t (h : firstV ([x3, x2, x1, x0] ++ zr) = .inl (k, t, n)) W => get_ok k n _ t W h
  have HGB := Lib.hid fun c (h : firstV ([x3, x2, x1, x0] ++ zr) = .inr c) W => get_bad _ c W h
  generalize [x3, x2, x1, x0] ++ zr = ss at *
  cases hv : firstV ss with
  | inr c =>
    have HG := Lib.hid (HGB.out c hv)
    have HR : Hid (∀ W, Calls Tryz.prog 40 #[.string ⟨ss.toArray⟩] W fun e w' => e = .returned (.tuple #[.int .i64 0, .string ⟨#[]⟩, .int .i64 0, .int .i64 c]) ∧ ∃ q, w' = W.drewN q) := fun W => by
      have := HRR.out W
      rw [hv] at this
      exact this
    clear hv
    go_region
    all_goals
      go_wp2_with fail
      rw [HSUM.out]
      (with_reducible refine (HG.out _).mono ?_)
      rintro e w3 ⟨rfl, hB⟩
      have HB3 : Hid (Below w.heap.size w w3) := by
        show Below _ _ _
        first
          | exact HBa.out.trans (hB.mono HBa.out.size)
          | exact HBb.out.trans (hB.mono HBb.out.size)
      clear hB
      go_wp2_with fail
      (with_reducible refine (HR.out _).mono ?_)
      rintro e w4 ⟨rfl, q, rfl⟩
      go_wp2
      go_ret
      exact ⟨rfl, be_drewN HB3.out q⟩
  | inl v =>
    obtain ⟨k, t, n0⟩ := v
    have HG := Lib.hid (HGO.out k n0 t hv)
    have HR : Hid (∀ W, Calls Tryz.prog 40 #[.string ⟨ss.toArray⟩] W fun e w' => e = .returned (.tuple #[.int .i64 (k : Int), .string ⟨t.toArray⟩, .int .i64 (n0 : Int), .int .i64 0]) ∧ ∃ q, w' = W.drewN q) := fun W => by
      have := HRR.out W
      rw [hv] at this
      exact this
    clear hv
    go_region
    all_goals
      go_wp2_with fail
      rw [HSUM.out]
      (with_reducible refine (HG.out _).mono ?_)
      rintro e w3 ⟨rfl, hB⟩
      have HB3 : Hid (Below w.heap.size w w3) := by
        show Below _ _ _
        first
          | exact HBa.out.trans (hB.mono HBa.out.size)
          | exact HBb.out.trans (hB.mono HBb.out.size)
      clear hB
      go_wp2_with fail
      (with_reducible refine (HR.out _).mono ?_)
      rintro e w4 ⟨rfl, q, rfl⟩
      go_wp2
      go_ret
      exact ⟨rfl, be_drewN HB3.out q⟩
end Go.Proofs.YtghpnjgglneecaaGreatDoor

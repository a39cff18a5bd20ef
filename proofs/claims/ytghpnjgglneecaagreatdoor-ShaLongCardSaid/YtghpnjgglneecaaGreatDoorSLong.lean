/-
  ShaLong, walked.
-/
import Derived.Test.YtghpnjgglneecaaGreatDoorRefU
import Derived.Test.YtghpnjgglneecaaGreatDoorMake
import Derived.Test.YtghpnjgglneecaaGreatDoorEql
namespace Go.Proofs.YtghpnjgglneecaaGreatDoor
open Go.RowKit

theorem long_len (n0 : Int) : ∃ m : Nat, m ≤ 139 ∧ (wrap64 (n0.tmod 140 + 140)).tmod 140 = (m : Int) := by
  have h1 := Int.tmod_lt_of_pos n0 (show (0 : Int) < 140 by decide)
  have h2 := Int.lt_tmod_of_pos n0 (show (0 : Int) < 140 by decide)
  generalize n0.tmod 140 = x at *
  have e : wrap64 (x + 140) = x + 140 := by unfold wrap64; omega
  rw [e]
  have e2 : (x + 140).tmod 140 = (x + 140) % 140 := Int.tmod_eq_emod_of_nonneg (by omega)
  rw [e2]
  exact ⟨((x + 140) % 140).toNat, by omega, by omega⟩
set_option maxRecDepth 100000 in
set_option maxHeartbeats 2000000 in
theorem slong_any (n0 : Int) (c : UInt8) (w : World) (hE : Env w) : Calls Tryz.prog 4 #[.int .i64 n0, .int .u8 (c.toNat : Int)] w fun e w' => e = .returned (.bool true) ∧ Below w.heap.size w w' := by
  have HE := Lib.hid hE
  clear hE
  obtain ⟨m, hm2, hm⟩ := long_len n0
  have hmk := make_bytes m (by omega)
  go_enter Tryz.func4, Tryz.ntmps4
  go_wp2_with fail
  refine (begun_any _ HE.out).mono ?_
  rintro e w1 ⟨rfl, hB⟩
  have HB := Lib.hid hB
  clear hB
  go_wp2_with fail
  clear hmk hm
  have hW0 := Whole.made w1 5 (zcells m)
  have hBW := (Below.refl w1.heap.size w1).alloc (Nat.le_refl _) (.cells (zcells m) 5)
  generalize hWe : w1.alloc (.cells (zcells m) 5) = W at *
  have HR0 := Lib.hid (Row.of_whole (c := m) (bs := List.replicate m 0) (sp := []) hW0 (by simp) (by unfold maxLen; omega))
  have HBW := Lib.hid (HB.out.trans (hBW.mono HB.out.size))
  have hsW : w1.heap.size < W.heap.size := hW0.lt
  clear hW0 hBW hWe
  go_loopw [19] (fun i wr => ∃ k bs, k ≤ m ∧ bs.length = m ∧ i = .int .i64 ((k : Nat) : Int) ∧ Row wr (some ⟨w1.heap.size, 0, none⟩) m bs ∧ Alt (· = w1.heap.size) W wr) (fun i _ => m - (intOf i).toNat)
  case atStart => exact ⟨0, List.replicate m 0, by omega, by simp, rfl, HR0.out, Alt.refl _ _⟩
  case round =>
    obtain ⟨k, bs, hk, hlen, rfl, hrow, halt⟩ := hrel
    have HLEN := Lib.hid hlen
    have HROW := Lib.hid hrow
    have HALT := Lib.hid halt
    by_cases hlt : k < m
    · obtain ⟨g, hg, hgl, hc, hz, hput⟩ := hrow.at_ (show k < bs.length by omega)
      obtain rfl : w1.heap.size = g := by injection hg with hg; injection hg
      have HPUT := Lib.hid (hput (UInt8.ofNat (c.toNat + k)))
      have hcl := c.toNat_lt
      have HV : Hid (Value.int .u8 (((c.toNat : Int) + (k : Int)) % 256) = Y (UInt8.ofNat (c.toNat + k))) := by
        show _ = _
        exact Y_int (by omega)
      clear hlen hrow halt hg hput
      go_wp2
      rw [HV.out]
      go_roundw
      case rel => exact ⟨k + 1, bs.set k (UInt8.ofNat (c.toNat + k)), by omega, by rw [List.length_set]; exact HLEN.out, by go_num, HPUT.out, Alt.set (R := (· = w1.heap.size)) (p := ⟨w1.heap.size, k, none⟩) HALT.out (.inl rfl) _⟩
      case measure => simp [intOf]; omega
    · obtain rfl : k = m := by omega
      have HBR := Lib.hid (HBW.out.trans ((halt.to (B := w1.heap.size) (by intro j hj; omega) (by omega)).mono HB.out.size))
      have hdl : (ShaM.sha bs).length = 32 := ShaM.sha_len bs
      have heq : ∀ W, (binOp .eql 28 (.agg ((ShaM.sha bs).map Y).toArray) (.agg ((ShaM.sha bs).map Y).toArray)).run Tryz.prog W = .ok (.bool true) W := fun W => by
        rw [eql_bytes 28 32 Tryz.underlying28 _ _ hdl hdl W]
        simp
      have HS : Hid (∀ W, Below wr.heap.size wr W → Calls Tryz.prog 16 #[.slice (some ⟨w1.heap.size, 0, none⟩) k k] W fun e w' => e = .returned (.agg ((ShaM.sha bs).map Y).toArray) ∧ Below W.heap.size W w') := by
        intro W hW
        have hby := (HROW.out.below hW).bytes
        rw [HLEN.out] at hby
        exact sum_any _ bs W (HE.out.at_ (HBR.out.trans (hW.mono HBR.out.size))).tabs hby (by rw [HLEN.out]; omega)
      have HRS : Hid (∀ W, Below wr.heap.size wr W → Calls Tryz.prog 15 #[.string ⟨bs.toArray⟩] W fun e w' => e = .returned (.agg ((ShaM.sha bs).map Y).toArray) ∧ Below W.heap.size W w') := fun W _ => rsum_any bs W (by rw [HLEN.out]; omega)
      have hcv : ∀ d os, (convert 22 9 (.slice (some ⟨w1.heap.size, 0, none⟩) k k)).run Tryz.prog (Sort.grow (redrawn wr d) os) = .ok (.string ⟨bs.toArray⟩) (Sort.grow (redrawn wr d) os) := by
        intro d os
        have h2 := bytes_str (P := Tryz.prog) 22 9 5 Tryz.underlying22 Tryz.underlying5 Tryz.underlying9 (HROW.out.below (below_regrown wr d os)).bytes
        rw [HLEN.out] at h2
        exact h2
      clear hlen hrow halt hdl
      generalize ((ShaM.sha bs).map Y).toArray = dg at *
      go_wp2_with fail
      refine wp_region_quiet_below (by kernel_rfl) (by kernel_rfl) ?_
      repeat (first
        | go_big_quiet_step ((first
          | (go_at_call 16; exact Calls.regrown_of (HS.out _ (below_regrown _ _ _)))
          | (go_at_call 15; exact Calls.regrown_of (HRS.out _ (below_regrown _ _ _))))))
      refine wpQuiet_nil ?_
      intro W hW
      have HBW2 : Hid (Below wr.heap.size wr W) := by
        show Below _ _ _
        obtain ⟨p, rfl⟩ := hW
        exact below_regrown _ _ _
      clear hW
      go_wp2
      go_ret
      exact ⟨rfl, HBR.out.trans (HBW2.out.mono HBR.out.size)⟩
end Go.Proofs.YtghpnjgglneecaaGreatDoor

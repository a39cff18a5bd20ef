/-
  sha.padding, (*sha.Hash).Sum, sha.New, sha.Sum, walked.
-/
import Derived.Test.YtdjhkaofhdcalaaGreatDoorShaE
import Derived.Laws.ResultCell
namespace Go.Proofs.YtdjhkaofhdcalaaGreatDoor
open Go.RowKit

theorem new_any (w : World) : Calls Tryz.prog 38 #[] w fun e w' => e = .returned (.pointer (some ⟨w.heap.size, 0, none⟩)) ∧ Below w.heap.size w w' ∧ HashAt w' w.heap.size 81 [] ∧ w'.heap.size = w.heap.size + 1 := by
  go_enter Tryz.func38, Tryz.ntmps38
  go_wp2
  refine bodyPost_ret (results_tmp rfl _ _ _) rfl ⟨rfl, (Below.refl _ _).alloc (Nat.le_refl _) _, ⟨⟨0, 0, 0, 0, 0, 0, 0, 0⟩, List.replicate 64 0, rfl, Whole.made _ _ _, fun h => absurd rfl h, rfl⟩, by simp⟩

/-! ### The padding's bytes -/
theorem set4_splice (l : List Value) (off : Nat) (x : ShaM.Wd) (h : off + 4 ≤ l.length) : set4 l.toArray off x = (splice l off ((ShaM.be4 x).map Y)).toArray := by
  apply Array.ext'
  simp only [set4, Array.toList_setIfInBounds, splice, ShaM.be4, List.map_cons, List.map_nil, List.length_cons, List.length_nil]
  obtain ⟨a, d, rfl, ha⟩ : ∃ a d, l = a ++ d ∧ a.length = off := ⟨l.take off, l.drop off, (List.take_append_drop _ _).symm, by simp; omega⟩
  subst ha
  rw [List.length_append] at h
  match d, h with
  | v0 :: v1 :: v2 :: v3 :: r, _ =>
    rw [List.set_append_right _ _ (by omega), List.set_append_right _ _ (by omega), List.set_append_right _ _ (by omega), List.set_append_right _ _ (by omega)]
    simp [show a.length + 1 - a.length = 1 by omega, show a.length + 2 - a.length = 2 by omega, show a.length + 3 - a.length = 3 by omega, List.drop_append]
  | [], h => exfalso; simp only [List.length_nil] at h; omega
  | [_], h => exfalso; simp only [List.length_cons, List.length_nil] at h; omega
  | [_, _], h => exfalso; simp only [List.length_cons, List.length_nil] at h; omega
  | [_, _, _], h => exfalso; simp only [List.length_cons, List.length_nil] at h; omega
theorem u8_ofNat {a b : Nat} (h : a % 256 = b % 256) : UInt8.ofNat a = UInt8.ofNat b := by
  apply UInt8.toNat_inj.1
  simpa using h
theorem be8_split (n : Nat) (h : n < 2 ^ 60) : ShaM.be8 (n * 8) = ShaM.be4 (BitVec.ofNat 32 (n / 536870912)) ++ ShaM.be4 (BitVec.ofNat 32 (n * 8)) := by
  simp only [ShaM.be8, ShaM.be4, BitVec.toNat_ofNat, List.cons_append, List.nil_append]
  congr 1
  · exact u8_ofNat (by omega)
  congr 1
  · exact u8_ofNat (by omega)
  congr 1
  · exact u8_ofNat (by omega)
  congr 1
  · exact u8_ofNat (by omega)
  congr 1
  · exact u8_ofNat (by omega)
  congr 1
  · exact u8_ofNat (by omega)
  congr 1
  · exact u8_ofNat (by omega)
  congr 1
  exact u8_ofNat (by omega)
theorem pad_cells (n m : Nat) (h : n < 2 ^ 60) (hm : m = 71) : set4 (set4 (Y 128 :: List.replicate m (Y 0)).toArray (ShaM.padN n - 8) (BitVec.ofNat 32 (n / 536870912))) (ShaM.padN n - 4) (BitVec.ofNat 32 (n * 8)) =
    ((ShaM.pad n ++ List.replicate (72 - ShaM.padN n) 0).map Y).toArray := by
  have hk := ShaM.padN_bd n
  rw [ShaM.pad, be8_split n h]
  generalize ShaM.padN n = k at *
  obtain ⟨j, rfl⟩ : ∃ j, k = j + 9 := ⟨k - 9, by omega⟩
  have e1 : j + 9 - 8 = j + 1 := by omega
  have e2 : j + 9 - 4 = j + 5 := by omega
  have e3 : j + 9 - 9 = j := by omega
  rw [e1, e2, e3]
  have hL : (Y 128 :: List.replicate m (Y 0)).length = 72 := by rw [List.length_cons, List.length_replicate]; omega
  have l1 : (ShaM.be4 (BitVec.ofNat 32 (n / 536870912))).length = 4 := rfl
  have l2 : (ShaM.be4 (BitVec.ofNat 32 (n * 8))).length = 4 := rfl
  rw [set4_splice (Y 128 :: List.replicate m (Y 0)) (j + 1) _ (by omega), set4_splice _ (j + 5) _ (by rw [length_splice _ _ _ (by rw [List.length_map]; omega)]; omega)]
  generalize (ShaM.be4 (BitVec.ofNat 32 (n / 536870912))) = w1 at *
  generalize (ShaM.be4 (BitVec.ofNat 32 (n * 8))) = w2 at *
  congr 1
  have s1 : splice (Y 128 :: List.replicate m (Y 0)) (j + 1) (w1.map Y) = (Y 128 :: List.replicate j (Y 0)) ++ (w1.map Y ++ List.replicate (67 - j) (Y 0)) := by
    simp only [splice, List.length_map, l1, List.take_succ_cons, List.take_replicate]
    rw [show min j m = j by omega, show j + 1 + 4 = (j + 4) + 1 by omega, List.drop_succ_cons, List.drop_replicate, show m - (j + 4) = 67 - j by omega]
  rw [s1]
  simp only [splice, List.length_map, l2]
  have ha : (Y 128 :: List.replicate j (Y 0)).length = j + 1 := by simp
  have hw : (w1.map Y).length = 4 := by rw [List.length_map]; exact l1
  rw [List.take_append, List.take_append, ha, hw, List.take_of_length_le (by omega), List.take_of_length_le (by omega), List.drop_append, List.drop_of_length_le (by omega), List.drop_append, ha, hw, List.drop_of_length_le (by omega), List.drop_replicate,
    show j + 5 - (j + 1) - 4 = 0 by omega, List.take_zero, show 67 - j - (j + 5 + 4 - (j + 1) - 4) = 72 - (j + 9) by omega]
  simp
theorem results_row_tmp {P : Program} {fn : Func} {p u : Tmp} {ty : TypeId} (h : fn.results = #[.cell p ty, .tmp u]) (tmps : Array Value) (w : World) (g t : Nat) (cs : Array Value) (fr : Nat × Nat) (d : TypeDesc)
    (hp : tmps.getD p undef = .pointer (some ⟨g, 0, none⟩)) (hg : w.heap[g]? = some (.cells cs t fr)) (hu : P.underlying ty = some d) (hd : (match d with | .struct _ | .array _ _ => true | _ => false) = true)
    (hi : (P.info? ty).map (·.size) = some cs.size) : (results fn tmps).run P w = .ok (.tuple #[.agg cs, tmps.getD u undef]) w := by
  rw [results_cell_tmp h, hp]
  simp [asAddr, run_loadVar_row w g t ty cs fr d hg hu hd hi, Result.andThen]
theorem ys_all (bs : List UInt8) : (bs.map Y).toArray.all (·.oneCell') = true := by
  rw [Array.all_eq_true_iff_forall_mem]
  intro x hx
  obtain ⟨y, _, rfl⟩ := List.mem_map.1 (List.mem_toArray.1 hx)
  rfl

set_option maxRecDepth 100000 in
set_option maxHeartbeats 2000000 in
theorem pad_lo (n : Nat) (w : World) (hn : n < 2 ^ 60) (hr : n % 64 < 56) :
    Calls Tryz.prog 72 #[.int .u64 (n : Int)] w fun e w' => e = .returned (.tuple #[.agg ((ShaM.pad n ++ List.replicate (72 - ShaM.padN n) 0).map Y).toArray, .int .i64 (ShaM.padN n : Int)]) ∧ Below w.heap.size w w' := by
  have hk : Hid ((ShaM.padN n : Int) = 64 - (n : Int) % 64) := by show _ = _; unfold ShaM.padN; rw [if_pos hr]; omega
  have hbd := Lib.hid (ShaM.padN_bd n)
  have hp := Lib.hid (pad_cells n 71 hn rfl)
  have h1 : ¬ (64 - (n : Int) % 64 < 9) := by omega
  have z0 : Whole (w.alloc (.cells (Tryz.zeroCells101.setIfInBounds 0 (.int .u8 128)) 101)) w.heap.size 101 (Y 128 :: List.replicate 71 (Y 0)).toArray := by
    have e : Tryz.zeroCells101.setIfInBounds 0 (.int .u8 128) = (Y 128 :: List.replicate 71 (Y 0)).toArray := by kernel_rfl
    rw [← e]
    exact Whole.made _ _ _
  have hB0 : Below w.heap.size w (w.alloc (.cells (Tryz.zeroCells101.setIfInBounds 0 (.int .u8 128)) 101)) := (Below.refl _ _).alloc (Nat.le_refl _) _
  have HB0 := Lib.hid hB0
  have HZ0 := Lib.hid z0
  have s8 := run_slice_arr (P := Tryz.prog) 101 5 72 w.heap.size 0 (ShaM.padN n - 8) Tryz.underlying101 (by kernel_rfl) (by have := hbd.out; omega)
  have s4 := run_slice_arr (P := Tryz.prog) 101 5 72 w.heap.size 0 (ShaM.padN n - 4) Tryz.underlying101 (by kernel_rfl) (by have := hbd.out; omega)
  rw [show ((ShaM.padN n - 8 : Nat) : Int) = 64 - (n : Int) % 64 - 8 by have := hk.out; have := hbd.out; omega, Nat.zero_add] at s8
  rw [show ((ShaM.padN n - 4 : Nat) : Int) = 64 - (n : Int) % 64 - 4 by have := hk.out; have := hbd.out; omega, Nat.zero_add] at s4
  clear hB0 z0
  generalize hkk : ShaM.padN n = k at *
  clear hkk
  go_enter Tryz.func72, Tryz.ntmps72
  go_wp2_with fail
  refine (putWord_at w.heap.size (k - 8) _ _ _ (BitVec.ofNat 32 (n / 536870912)) (by rw [BitVec.toNat_ofNat]; omega) 101 _ _ (by have := hbd.out; omega) HZ0.out (by rw [List.size_toArray, List.length_cons, List.length_replicate]; have := hbd.out; omega)).mono ?_
  rintro e w1 ⟨rfl, hG1, hW1⟩
  have HB1 := Lib.hid (be_grown HB0.out hG1 HB0.out.size (fun j hj => by injection hj with hj; omega))
  have HW1 := Lib.hid hW1
  clear hG1 hW1
  go_wp2_with fail
  refine (putWord_at w.heap.size (k - 4) _ _ _ (BitVec.ofNat 32 (n * 8)) (by rw [BitVec.toNat_ofNat]; omega) 101 _ _ (by have := hbd.out; omega) HW1.out (by rw [set4_size, List.size_toArray, List.length_cons, List.length_replicate]; have := hbd.out; omega)).mono ?_
  rintro e w2 ⟨rfl, hG2, hW2⟩
  have HB2 := Lib.hid (be_grown HB1.out hG2 HB1.out.size (fun j hj => by injection hj with hj; omega))
  rw [hp.out] at hW2
  obtain ⟨cs, hcs⟩ : ∃ cs, cs = ((ShaM.pad n ++ List.replicate (72 - k) 0).map Y).toArray := ⟨_, rfl⟩
  have hsz : cs.size = 72 := by
    have h2 := congrArg Array.size hp.out
    rw [← hcs, set4_size, set4_size, List.size_toArray, List.length_cons, List.length_replicate] at h2
    omega
  have HI : Hid ((Tryz.prog.info? 101).map (·.size) = some cs.size) := by show _ = _; rw [hsz]; kernel_rfl
  have H1 : Hid (cs.all (·.oneCell') = true) := by show _ = _; rw [hcs]; exact ys_all _
  rw [← hcs] at hW2
  have HCS := Lib.hid hcs
  have HW2 := Lib.hid hW2
  clear hsz hcs hW2 hG2
  go_wp2_with (first
    | (refine wpList_load_row rfl 101 _ rfl w.heap.size rfl 101 cs (0, 0) _ HW2.out Tryz.underlying101 rfl HI.out ?_)
    | (refine wpList_store_row rfl 101 _ _ rfl w.heap.size cs rfl rfl 101 cs HW2.out HI.out rfl H1.out ?_))
  refine bodyPost_ret (v := .tuple #[.agg cs, .int .i64 (64 - (n : Int) % 64)]) ?_ rfl ⟨by rw [HCS.out, hk.out], be_setRow HB2.out (Nat.le_refl _) _⟩
  exact results_row_tmp (p := 2) (u := 3) (ty := 101) rfl _ _ w.heap.size 101 cs (0, 0) _ rfl (setRow_heap w2 w.heap.size cs cs 101 (0, 0) HW2.out) Tryz.underlying101 rfl HI.out

set_option maxRecDepth 100000 in
set_option maxHeartbeats 2000000 in
theorem pad_hi (n : Nat) (w : World) (hn : n < 2 ^ 60) (hr : ¬ n % 64 < 56) :
    Calls Tryz.prog 72 #[.int .u64 (n : Int)] w fun e w' => e = .returned (.tuple #[.agg ((ShaM.pad n ++ List.replicate (72 - ShaM.padN n) 0).map Y).toArray, .int .i64 (ShaM.padN n : Int)]) ∧ Below w.heap.size w w' := by
  have hk : Hid ((ShaM.padN n : Int) = 64 - (n : Int) % 64 + 64) := by show _ = _; unfold ShaM.padN; rw [if_neg hr]; omega
  have hbd := Lib.hid (ShaM.padN_bd n)
  have hp := Lib.hid (pad_cells n 71 hn rfl)
  have h1 : 64 - (n : Int) % 64 < 9 := by omega
  have z0 : Whole (w.alloc (.cells (Tryz.zeroCells101.setIfInBounds 0 (.int .u8 128)) 101)) w.heap.size 101 (Y 128 :: List.replicate 71 (Y 0)).toArray := by
    have e : Tryz.zeroCells101.setIfInBounds 0 (.int .u8 128) = (Y 128 :: List.replicate 71 (Y 0)).toArray := by kernel_rfl
    rw [← e]
    exact Whole.made _ _ _
  have hB0 : Below w.heap.size w (w.alloc (.cells (Tryz.zeroCells101.setIfInBounds 0 (.int .u8 128)) 101)) := (Below.refl _ _).alloc (Nat.le_refl _) _
  have HB0 := Lib.hid hB0
  have HZ0 := Lib.hid z0
  have s8 := run_slice_arr (P := Tryz.prog) 101 5 72 w.heap.size 0 (ShaM.padN n - 8) Tryz.underlying101 (by kernel_rfl) (by have := hbd.out; omega)
  have s4 := run_slice_arr (P := Tryz.prog) 101 5 72 w.heap.size 0 (ShaM.padN n - 4) Tryz.underlying101 (by kernel_rfl) (by have := hbd.out; omega)
  rw [show ((ShaM.padN n - 8 : Nat) : Int) = 64 - (n : Int) % 64 + 64 - 8 by have := hk.out; have := hbd.out; omega, Nat.zero_add] at s8
  rw [show ((ShaM.padN n - 4 : Nat) : Int) = 64 - (n : Int) % 64 + 64 - 4 by have := hk.out; have := hbd.out; omega, Nat.zero_add] at s4
  clear hB0 z0
  generalize hkk : ShaM.padN n = k at *
  clear hkk
  go_enter Tryz.func72, Tryz.ntmps72
  go_wp2_with fail
  refine (putWord_at w.heap.size (k - 8) _ _ _ (BitVec.ofNat 32 (n / 536870912)) (by rw [BitVec.toNat_ofNat]; omega) 101 _ _ (by have := hbd.out; omega) HZ0.out (by rw [List.size_toArray, List.length_cons, List.length_replicate]; have := hbd.out; omega)).mono ?_
  rintro e w1 ⟨rfl, hG1, hW1⟩
  have HB1 := Lib.hid (be_grown HB0.out hG1 HB0.out.size (fun j hj => by injection hj with hj; omega))
  have HW1 := Lib.hid hW1
  clear hG1 hW1
  go_wp2_with fail
  refine (putWord_at w.heap.size (k - 4) _ _ _ (BitVec.ofNat 32 (n * 8)) (by rw [BitVec.toNat_ofNat]; omega) 101 _ _ (by have := hbd.out; omega) HW1.out (by rw [set4_size, List.size_toArray, List.length_cons, List.length_replicate]; have := hbd.out; omega)).mono ?_
  rintro e w2 ⟨rfl, hG2, hW2⟩
  have HB2 := Lib.hid (be_grown HB1.out hG2 HB1.out.size (fun j hj => by injection hj with hj; omega))
  rw [hp.out] at hW2
  obtain ⟨cs, hcs⟩ : ∃ cs, cs = ((ShaM.pad n ++ List.replicate (72 - k) 0).map Y).toArray := ⟨_, rfl⟩
  have hsz : cs.size = 72 := by
    have h2 := congrArg Array.size hp.out
    rw [← hcs, set4_size, set4_size, List.size_toArray, List.length_cons, List.length_replicate] at h2
    omega
  have HI : Hid ((Tryz.prog.info? 101).map (·.size) = some cs.size) := by show _ = _; rw [hsz]; kernel_rfl
  have H1 : Hid (cs.all (·.oneCell') = true) := by show _ = _; rw [hcs]; exact ys_all _
  rw [← hcs] at hW2
  have HCS := Lib.hid hcs
  have HW2 := Lib.hid hW2
  clear hsz hcs hW2 hG2
  go_wp2_with (first
    | (refine wpList_load_row rfl 101 _ rfl w.heap.size rfl 101 cs (0, 0) _ HW2.out Tryz.underlying101 rfl HI.out ?_)
    | (refine wpList_store_row rfl 101 _ _ rfl w.heap.size cs rfl rfl 101 cs HW2.out HI.out rfl H1.out ?_))
  refine bodyPost_ret (v := .tuple #[.agg cs, .int .i64 (64 - (n : Int) % 64 + 64)]) ?_ rfl ⟨by rw [HCS.out, hk.out], be_setRow HB2.out (Nat.le_refl _) _⟩
  exact results_row_tmp (p := 2) (u := 3) (ty := 101) rfl _ _ w.heap.size 101 cs (0, 0) _ rfl (setRow_heap w2 w.heap.size cs cs 101 (0, 0) HW2.out) Tryz.underlying101 rfl HI.out

/-- The padding of a text of n bytes. -/
theorem padding_any (n : Nat) (w : World) (hn : n < 2 ^ 60) :
    Calls Tryz.prog 72 #[.int .u64 (n : Int)] w fun e w' => e = .returned (.tuple #[.agg ((ShaM.pad n ++ List.replicate (72 - ShaM.padN n) 0).map Y).toArray, .int .i64 (ShaM.padN n : Int)]) ∧ Below w.heap.size w w' := by
  by_cases h : n % 64 < 56
  · exact pad_lo n w hn h
  · exact pad_hi n w hn h
end Go.Proofs.YtdjhkaofhdcalaaGreatDoor

/-
  sha.padding, (*sha.Hash).Sum, sha.New, sha.Sum, walked.
  (*sha.Hash).Sum, sha.Sum, walked.
  Strings: a byte, a part, one behind the other; bytes as a string.
  The readers of package guard, walked: New, Left, take, Byte, Bytes.
-/
import Derived.Test.YtjoinnjhpfakpaaGreatDoorShaE
import Derived.Laws.ResultCell
import Derived.Laws.DeepStrings4
import Derived.Laws.IdiomStrings
import Derived.Lib.ConvBytes
import Derived.Test.YtjoinnjhpfakpaaGreatDoorMha
namespace Go.Proofs.YtjoinnjhpfakpaaGreatDoor
open Go.RowKit

theorem new_any (w : World) : Calls Tryz.prog 165 #[] w fun e w' => e = .returned (.pointer (some ⟨w.heap.size, 0, none⟩)) ∧ Below w.heap.size w w' ∧ HashAt w' w.heap.size 201 [] ∧ w'.heap.size = w.heap.size + 1 := by
  go_enter Tryz.func165, Tryz.ntmps165
  go_wp2
  refine bodyPost_ret (results_tmp rfl _ _ _) rfl ⟨rfl, (Below.refl _ _).alloc (Nat.le_refl _) _, ⟨⟨0, 0, 0, 0, 0, 0, 0, 0⟩, List.replicate 64 0, rfl, Whole.made _ _ _, fun h => absurd rfl h, rfl⟩, by simp⟩

/-! ### The padding's bytes -/
theorem set4_splice (l : List Value) (off : Nat) (x : ShaM.Wd) (h : off + 4 ≤ l.length) : set4 l.toArray off x = (splice l off ((ShaM.be4 x).map Y)).toArray := by
  apply Array.ext'
  simp only [set4, Array.toList_setIfInBounds, splice, ShaM.be4, List.map_cons, List.map_nil, List.length_cons, List.length_nil]
  obtain ⟨a, d, rfl, ha⟩ : ∃ a d, l = a ++ d ∧ a.length = off := ⟨l.take off, l.drop off, (List.take_append_drop _ _).symm, by simp; omega⟩
  subst ha
  rw [List.length_append] at h
  match d, h with
  | v0 :: v1 :: v2 :: v3 :: r, _ =>
    rw [List.set_append_right _ _ (by omega), List.set_append_right _ _ (by omega), List.set_append_right _ _ (by omega), List.set_append_right _ _ (by omega)]
    simp [show a.length + 1 - a.length = 1 by omega, show a.length + 2 - a.length = 2 by omega, show a.length + 3 - a.length = 3 by omega, List.drop_append]
  | [], h => exfalso; simp only [List.length_nil] at h; omega
  | [_], h => exfalso; simp only [List.length_cons, List.length_nil] at h; omega
  | [_, _], h => exfalso; simp only [List.length_cons, List.length_nil] at h; omega
  | [_, _, _], h => exfalso; simp only [List.length_cons, List.length_nil] at h; omega
theorem u8_ofNat {a b : Nat} (h : a % 256 = b % 256) : UInt8.ofNat a = UInt8.ofNat b := by
  apply UInt8.toNat_inj.1
  simpa using h
theorem be8_split (n : Nat) (h : n < 2 ^ 60) : ShaM.be8 (n * 8) = ShaM.be4 (BitVec.ofNat 32 (n / 536870912)) ++ ShaM.be4 (BitVec.ofNat 32 (n * 8)) := by
  simp only [ShaM.be8, ShaM.be4, BitVec.toNat_ofNat, List.cons_append, List.nil_append]
  congr 1
  · exact u8_ofNat (by omega)
  congr 1
  · exact u8_ofNat (by omega)
  congr 1
  · exact u8_ofNat (by omega)
  congr 1
  · exact u8_ofNat (by omega)
  congr 1
  · exact u8_ofNat (by omega)
  congr 1
  · exact u8_ofNat (by omega)
  congr 1
  · exact u8_ofNat (by omega)
  congr 1
  exact u8_ofNat (by omega)
theorem pad_cells (n m : Nat) (h : n < 2 ^ 60) (hm : m = 71) : set4 (set4 (Y 128 :: List.replicate m (Y 0)).toArray (ShaM.padN n - 8) (BitVec.ofNat 32 (n / 536870912))) (ShaM.padN n - 4) (BitVec.ofNat 32 (n * 8)) =
    ((ShaM.pad n ++ List.replicate (72 - ShaM.padN n) 0).map Y).toArray := by
  have hk := ShaM.padN_bd n
  rw [ShaM.pad, be8_split n h]
  generalize ShaM.padN n = k at *
  obtain ⟨j, rfl⟩ : ∃ j, k = j + 9 := ⟨k - 9, by omega⟩
  have e1 : j + 9 - 8 = j + 1 := by omega
  have e2 : j + 9 - 4 = j + 5 := by omega
  have e3 : j + 9 - 9 = j := by omega
  rw [e1, e2, e3]
  have hL : (Y 128 :: List.replicate m (Y 0)).length = 72 := by rw [List.length_cons, List.length_replicate]; omega
  have l1 : (ShaM.be4 (BitVec.ofNat 32 (n / 536870912))).length = 4 := rfl
  have l2 : (ShaM.be4 (BitVec.ofNat 32 (n * 8))).length = 4 := rfl
  rw [set4_splice (Y 128 :: List.replicate m (Y 0)) (j + 1) _ (by omega), set4_splice _ (j + 5) _ (by rw [length_splice _ _ _ (by rw [List.length_map]; omega)]; omega)]
  generalize (ShaM.be4 (BitVec.ofNat 32 (n / 536870912))) = w1 at *
  generalize (ShaM.be4 (BitVec.ofNat 32 (n * 8))) = w2 at *
  congr 1
  have s1 : splice (Y 128 :: List.replicate m (Y 0)) (j + 1) (w1.map Y) = (Y 128 :: List.replicate j (Y 0)) ++ (w1.map Y ++ List.replicate (67 - j) (Y 0)) := by
    simp only [splice, List.length_map, l1, List.take_succ_cons, List.take_replicate]
    rw [show min j m = j by omega, show j + 1 + 4 = (j + 4) + 1 by omega, List.drop_succ_cons, List.drop_replicate, show m - (j + 4) = 67 - j by omega]
  rw [s1]
  simp only [splice, List.length_map, l2]
  have ha : (Y 128 :: List.replicate j (Y 0)).length = j + 1 := by simp
  have hw : (w1.map Y).length = 4 := by rw [List.length_map]; exact l1
  rw [List.take_append, List.take_append, ha, hw, List.take_of_length_le (by omega), List.take_of_length_le (by omega), List.drop_append, List.drop_of_length_le (by omega), List.drop_append, ha, hw, List.drop_of_length_le (by omega), List.drop_replicate,
    show j + 5 - (j + 1) - 4 = 0 by omega, List.take_zero, show 67 - j - (j + 5 + 4 - (j + 1) - 4) = 72 - (j + 9) by omega]
  simp
theorem results_row_tmp {P : Program} {fn : Func} {p u : Tmp} {ty : TypeId} (h : fn.results = #[.cell p ty, .tmp u]) (tmps : Array Value) (w : World) (g t : Nat) (cs : Array Value) (fr : Nat × Nat) (d : TypeDesc)
    (hp : tmps.getD p undef = .pointer (some ⟨g, 0, none⟩)) (hg : w.heap[g]? = some (.cells cs t fr)) (hu : P.underlying ty = some d) (hd : (match d with | .struct _ | .array _ _ => true | _ => false) = true)
    (hi : (P.info? ty).map (·.size) = some cs.size) : (results fn tmps).run P w = .ok (.tuple #[.agg cs, tmps.getD u undef]) w := by
  rw [results_cell_tmp h, hp]
  simp [asAddr, run_loadVar_row w g t ty cs fr d hg hu hd hi, Result.andThen]
theorem ys_all (bs : List UInt8) : (bs.map Y).toArray.all (·.oneCell') = true := by
  rw [Array.all_eq_true_iff_forall_mem]
  intro x hx
  obtain ⟨y, _, rfl⟩ := List.mem_map.1 (List.mem_toArray.1 hx)
  rfl

set_option maxRecDepth 100000 in
set_option maxHeartbeats 2000000 in
theorem pad_lo (n : Nat) (w : World) (hn : n < 2 ^ 60) (hr : n % 64 < 56) :
    Calls Tryz.prog 180 #[.int .u64 (n : Int)] w fun e w' => e = .returned (.tuple #[.agg ((ShaM.pad n ++ List.replicate (72 - ShaM.padN n) 0).map Y).toArray, .int .i64 (ShaM.padN n : Int)]) ∧ Below w.heap.size w w' := by
  have hk : Hid ((ShaM.padN n : Int) = 64 - (n : Int) % 64) := by show _ = _; unfold ShaM.padN; rw [if_pos hr]; omega
  have hbd := Lib.hid (ShaM.padN_bd n)
  have hp := Lib.hid (pad_cells n 71 hn rfl)
  have h1 : ¬ (64 - (n : Int) % 64 < 9) := by omega
  have z0 : Whole (w.alloc (.cells (Tryz.zeroCells255.setIfInBounds 0 (.int .u8 128)) 255)) w.heap.size 255 (Y 128 :: List.replicate 71 (Y 0)).toArray := by
    have e : Tryz.zeroCells255.setIfInBounds 0 (.int .u8 128) = (Y 128 :: List.replicate 71 (Y 0)).toArray := by kernel_rfl
    rw [← e]
    exact Whole.made _ _ _
  have hB0 : Below w.heap.size w (w.alloc (.cells (Tryz.zeroCells255.setIfInBounds 0 (.int .u8 128)) 255)) := (Below.refl _ _).alloc (Nat.le_refl _) _
  have HB0 := Lib.hid hB0
  have HZ0 := Lib.hid z0
  have s8 := run_slice_arr (P := Tryz.prog) 255 5 72 w.heap.size 0 (ShaM.padN n - 8) Tryz.underlying255 (by kernel_rfl) (by have := hbd.out; omega)
  have s4 := run_slice_arr (P := Tryz.prog) 255 5 72 w.heap.size 0 (ShaM.padN n - 4) Tryz.underlying255 (by kernel_rfl) (by have := hbd.out; omega)
  rw [show ((ShaM.padN n - 8 : Nat) : Int) = 64 - (n : Int) % 64 - 8 by have := hk.out; have := hbd.out; omega, Nat.zero_add] at s8
  rw [show ((ShaM.padN n - 4 : Nat) : Int) = 64 - (n : Int) % 64 - 4 by have := hk.out; have := hbd.out; omega, Nat.zero_add] at s4
  clear hB0 z0
  generalize hkk : ShaM.padN n = k at *
  clear hkk
  go_enter Tryz.func180, Tryz.ntmps180
  go_wp2_with fail
  refine (putWord_at w.heap.size (k - 8) _ _ _ (BitVec.ofNat 32 (n / 536870912)) (by rw [BitVec.toNat_ofNat]; omega) 255 _ _ (by have := hbd.out; omega) HZ0.out (by rw [List.size_toArray, List.length_cons, List.length_replicate]; have := hbd.out; omega)).mono ?_
  rintro e w1 ⟨rfl, hG1, hW1⟩
  have HB1 := Lib.hid (be_grown HB0.out hG1 HB0.out.size (fun j hj => by injection hj with hj; omega))
  have HW1 := Lib.hid hW1
  clear hG1 hW1
  go_wp2_with fail
  refine (putWord_at w.heap.size (k - 4) _ _ _ (BitVec.ofNat 32 (n * 8)) (by rw [BitVec.toNat_ofNat]; omega) 255 _ _ (by have := hbd.out; omega) HW1.out (by rw [set4_size, List.size_toArray, List.length_cons, List.length_replicate]; have := hbd.out; omega)).mono ?_
  rintro e w2 ⟨rfl, hG2, hW2⟩
  have HB2 := Lib.hid (be_grown HB1.out hG2 HB1.out.size (fun j hj => by injection hj with hj; omega))
  rw [hp.out] at hW2
  obtain ⟨cs, hcs⟩ : ∃ cs, cs = ((ShaM.pad n ++ List.replicate (72 - k) 0).map Y).toArray := ⟨_, rfl⟩
  have hsz : cs.size = 72 := by
    have h2 := congrArg Array.size hp.out
    rw [← hcs, set4_size, set4_size, List.size_toArray, List.length_cons, List.length_replicate] at h2
    omega
  have HI : Hid ((Tryz.prog.info? 255).map (·.size) = some cs.size) := by show _ = _; rw [hsz]; kernel_rfl
  have H1 : Hid (cs.all (·.oneCell') = true) := by show _ = _; rw [hcs]; exact ys_all _
  rw [← hcs] at hW2
  have HCS := Lib.hid hcs
  have HW2 := Lib.hid hW2
  clear hsz hcs hW2 hG2
  go_wp2_with (first
    | (refine wpList_load_row rfl 255 _ rfl w.heap.size rfl 255 cs (0, 0) _ HW2.out Tryz.underlying255 rfl HI.out ?_)
    | (refine wpList_store_row rfl 255 _ _ rfl w.heap.size cs rfl rfl 255 cs HW2.out HI.out rfl H1.out ?_))
  refine bodyPost_ret (v := .tuple #[.agg cs, .int .i64 (64 - (n : Int) % 64)]) ?_ rfl ⟨by rw [HCS.out, hk.out], be_setRow HB2.out (Nat.le_refl _) _⟩
  exact results_row_tmp (p := 2) (u := 3) (ty := 255) rfl _ _ w.heap.size 255 cs (0, 0) _ rfl (setRow_heap w2 w.heap.size cs cs 255 (0, 0) HW2.out) Tryz.underlying255 rfl HI.out

set_option maxRecDepth 100000 in
set_option maxHeartbeats 2000000 in
theorem pad_hi (n : Nat) (w : World) (hn : n < 2 ^ 60) (hr : ¬ n % 64 < 56) :
    Calls Tryz.prog 180 #[.int .u64 (n : Int)] w fun e w' => e = .returned (.tuple #[.agg ((ShaM.pad n ++ List.replicate (72 - ShaM.padN n) 0).map Y).toArray, .int .i64 (ShaM.padN n : Int)]) ∧ Below w.heap.size w w' := by
  have hk : Hid ((ShaM.padN n : Int) = 64 - (n : Int) % 64 + 64) := by show _ = _; unfold ShaM.padN; rw [if_neg hr]; omega
  have hbd := Lib.hid (ShaM.padN_bd n)
  have hp := Lib.hid (pad_cells n 71 hn rfl)
  have h1 : 64 - (n : Int) % 64 < 9 := by omega
  have z0 : Whole (w.alloc (.cells (Tryz.zeroCells255.setIfInBounds 0 (.int .u8 128)) 255)) w.heap.size 255 (Y 128 :: List.replicate 71 (Y 0)).toArray := by
    have e : Tryz.zeroCells255.setIfInBounds 0 (.int .u8 128) = (Y 128 :: List.replicate 71 (Y 0)).toArray := by kernel_rfl
    rw [← e]
    exact Whole.made _ _ _
  have hB0 : Below w.heap.size w (w.alloc (.cells (Tryz.zeroCells255.setIfInBounds 0 (.int .u8 128)) 255)) := (Below.refl _ _).alloc (Nat.le_refl _) _
  have HB0 := Lib.hid hB0
  have HZ0 := Lib.hid z0
  have s8 := run_slice_arr (P := Tryz.prog) 255 5 72 w.heap.size 0 (ShaM.padN n - 8) Tryz.underlying255 (by kernel_rfl) (by have := hbd.out; omega)
  have s4 := run_slice_arr (P := Tryz.prog) 255 5 72 w.heap.size 0 (ShaM.padN n - 4) Tryz.underlying255 (by kernel_rfl) (by have := hbd.out; omega)
  rw [show ((ShaM.padN n - 8 : Nat) : Int) = 64 - (n : Int) % 64 + 64 - 8 by have := hk.out; have := hbd.out; omega, Nat.zero_add] at s8
  rw [show ((ShaM.padN n - 4 : Nat) : Int) = 64 - (n : Int) % 64 + 64 - 4 by have := hk.out; have := hbd.out; omega, Nat.zero_add] at s4
  clear hB0 z0
  generalize hkk : ShaM.padN n = k at *
  clear hkk
  go_enter Tryz.func180, Tryz.ntmps180
  go_wp2_with fail
  refine (putWord_at w.heap.size (k - 8) _ _ _ (BitVec.ofNat 32 (n / 536870912)) (by rw [BitVec.toNat_ofNat]; omega) 255 _ _ (by have := hbd.out; omega) HZ0.out (by rw [List.size_toArray, List.length_cons, List.length_replicate]; have := hbd.out; omega)).mono ?_
  rintro e w1 ⟨rfl, hG1, hW1⟩
  have HB1 := Lib.hid (be_grown HB0.out hG1 HB0.out.size (fun j hj => by injection hj with hj; omega))
  have HW1 := Lib.hid hW1
  clear hG1 hW1
  go_wp2_with fail
  refine (putWord_at w.heap.size (k - 4) _ _ _ (BitVec.ofNat 32 (n * 8)) (by rw [BitVec.toNat_ofNat]; omega) 255 _ _ (by have := hbd.out; omega) HW1.out (by rw [set4_size, List.size_toArray, List.length_cons, List.length_replicate]; have := hbd.out; omega)).mono ?_
  rintro e w2 ⟨rfl, hG2, hW2⟩
  have HB2 := Lib.hid (be_grown HB1.out hG2 HB1.out.size (fun j hj => by injection hj with hj; omega))
  rw [hp.out] at hW2
  obtain ⟨cs, hcs⟩ : ∃ cs, cs = ((ShaM.pad n ++ List.replicate (72 - k) 0).map Y).toArray := ⟨_, rfl⟩
  have hsz : cs.size = 72 := by
    have h2 := congrArg Array.size hp.out
    rw [← hcs, set4_size, set4_size, List.size_toArray, List.length_cons, List.length_replicate] at h2
    omega
  have HI : Hid ((Tryz.prog.info? 255).map (·.size) = some cs.size) := by show _ = _; rw [hsz]; kernel_rfl
  have H1 : Hid (cs.all (·.oneCell') = true) := by show _ = _; rw [hcs]; exact ys_all _
  rw [← hcs] at hW2
  have HCS := Lib.hid hcs
  have HW2 := Lib.hid hW2
  clear hsz hcs hW2 hG2
  go_wp2_with (first
    | (refine wpList_load_row rfl 255 _ rfl w.heap.size rfl 255 cs (0, 0) _ HW2.out Tryz.underlying255 rfl HI.out ?_)
    | (refine wpList_store_row rfl 255 _ _ rfl w.heap.size cs rfl rfl 255 cs HW2.out HI.out rfl H1.out ?_))
  refine bodyPost_ret (v := .tuple #[.agg cs, .int .i64 (64 - (n : Int) % 64 + 64)]) ?_ rfl ⟨by rw [HCS.out, hk.out], be_setRow HB2.out (Nat.le_refl _) _⟩
  exact results_row_tmp (p := 2) (u := 3) (ty := 255) rfl _ _ w.heap.size 255 cs (0, 0) _ rfl (setRow_heap w2 w.heap.size cs cs 255 (0, 0) HW2.out) Tryz.underlying255 rfl HI.out

/-- The padding of a text of n bytes. -/
theorem padding_any (n : Nat) (w : World) (hn : n < 2 ^ 60) :
    Calls Tryz.prog 180 #[.int .u64 (n : Int)] w fun e w' => e = .returned (.tuple #[.agg ((ShaM.pad n ++ List.replicate (72 - ShaM.padN n) 0).map Y).toArray, .int .i64 (ShaM.padN n : Int)]) ∧ Below w.heap.size w w' := by
  by_cases h : n % 64 < 56
  · exact pad_lo n w hn h
  · exact pad_hi n w hn h
end Go.Proofs.YtjoinnjhpfakpaaGreatDoor
namespace Go.Proofs.YtjoinnjhpfakpaaGreatDoor
open Go.RowKit

/-- A store of a whole row; the world behind it is a variable. -/
theorem wpList_store_whole {P : Program} {ops : Array Oper} {rest : List Oper} {o : Oper} {a : Act} {w : World} {Q : Exit → Act → World → Prop} (hgd : o.guard = none) (ty : TypeId) (x y : Operand) (ho : o.op = .store ty x y)
    (g : Nat) (cells : Array Value) (hx : a.eval x = .pointer (some ⟨g, 0, none⟩)) (hy : a.eval y = .agg cells) (t : TypeId) (old : Array Value) (hg : Whole w g t old) (hi : (P.info? ty).map (·.size) = some cells.size)
    (hold : old.size = cells.size) (h1 : cells.all (·.oneCell') = true) (h : ∀ w', Whole w' g t cells → w.grownBy w' (some g) → wpList P ops Q rest (a.put o.dst undef) w') : wpList P ops Q (o :: rest) a w :=
  wpList_store_row hgd ty x y ho g cells hx hy t old hg hi hold h1 (h _ (setRow_heap w g old cells t _ hg) (gr_row (gr_refl _ _) _))
theorem gr_alloc2 {w w' : World} {a b : Obj} {g : Nat} (h : ((w.alloc a).alloc b).grownBy w' (some g)) (hg : w.heap.size ≤ g) : Below w.heap.size w w' :=
  be_grown (((Below.refl _ _).alloc (Nat.le_refl _) _).alloc (by simp) _) h (by simp; omega) (fun j hj => by injection hj with hj; omega)
theorem gr_size2 {w w' : World} {a b : Obj} {row : Option Nat} (h : ((w.alloc a).alloc b).grownBy w' row) : w.heap.size + 1 < w'.heap.size := by
  have := h.size
  simp at this
  omega

/-- The result's bytes as they are being laid. -/
def oarr (s : ShaM.St) (i : Nat) : List Value := (((ShaM.out s).take (4 * i)) ++ List.replicate (32 - 4 * i) 0).map Y
theorem oarr_len (s : ShaM.St) (i : Nat) (h : i ≤ 8) : (oarr s i).length = 32 := by
  simp only [oarr, List.length_map, List.length_append, List.length_take, ShaM.out_len, List.length_replicate]; omega
theorem oarr_full (s : ShaM.St) : oarr s 8 = (ShaM.out s).map Y := rfl
theorem stl_at (s : ShaM.St) (i : Nat) (h : i < 8) : (stl s).toArray[i]? = some (U (s.at i)) := by
  match i, h with
  | 0, _ => rfl
  | 1, _ => rfl
  | 2, _ => rfl
  | 3, _ => rfl
  | 4, _ => rfl
  | 5, _ => rfl
  | 6, _ => rfl
  | 7, _ => rfl
theorem out_take (s : ShaM.St) (i : Nat) (h : i < 8) : (ShaM.out s).take (4 * i + 4) = (ShaM.out s).take (4 * i) ++ ShaM.be4 (s.at i) := by
  match i, h with
  | 0, _ => rfl
  | 1, _ => rfl
  | 2, _ => rfl
  | 3, _ => rfl
  | 4, _ => rfl
  | 5, _ => rfl
  | 6, _ => rfl
  | 7, _ => rfl
theorem oarr_step (s : ShaM.St) (i : Nat) (h : i < 8) : set4 (oarr s i).toArray (4 * i) (s.at i) = (oarr s (i + 1)).toArray := by
  rw [set4_splice _ _ _ (by rw [oarr_len _ _ (by omega)]; omega)]
  congr 1
  have ht : ((ShaM.out s).take (4 * i)).length = 4 * i := by rw [List.length_take, ShaM.out_len]; omega
  simp only [oarr, splice, List.length_map]
  rw [show 4 * (i + 1) = 4 * i + 4 by omega, out_take s i h]
  rw [List.map_append, List.map_append, List.map_append, List.take_append_of_le_length (by rw [List.length_map, ht]; omega), List.take_of_length_le (by rw [List.length_map, ht]; omega)]
  rw [List.drop_append, List.length_map, ht, List.drop_of_length_le (by rw [List.length_map, ht]; omega), List.map_replicate, List.map_replicate, List.drop_replicate]
  have e : (ShaM.be4 (s.at i)).length = 4 := rfl
  rw [e, show 32 - 4 * i - (4 * i + 4 - 4 * i) = 32 - (4 * i + 4) by omega]
  simp
theorem range_past {w : World} {b o : Nat} {cs : List Value} (h : w.rangeAt b o cs) (x : Obj) : (w.alloc x).rangeAt b o cs := fun j v hv => by
  have h1 := h j v hv
  have h2 : b < w.heap.size := World.block_lt_of_cell? w ⟨b, o + j, none⟩ h1
  exact (World.cell?_alloc_lt w x ⟨b, o + j, none⟩ h2).trans h1
/-- Put into nothing. -/
theorem put_nil (v : Value) (w : World) :
    Calls Tryz.prog 126 #[.pointer none, v] w fun e w' => e = .returned (.tuple #[]) ∧ w = w' := by
  go_enter Tryz.func126, Tryz.ntmps126
  go_wp2
  exact bodyPost_ret (results_none rfl _ _ _) rfl ⟨rfl, rfl⟩

set_option maxRecDepth 100000 in
set_option maxHeartbeats 4000000 in
theorem hsum_any (b T : Nat) (X : List UInt8) (w : World) (hTab : Tabs w) (hH : HashAt w b T X) (hX : X.length < 2 ^ 59) :
    Calls Tryz.prog 127 #[.pointer (some ⟨b, 0, none⟩)] w fun e w' => e = .returned (.agg ((ShaM.sha X).map Y).toArray) ∧ Below w.heap.size w w' := by
  have hbw := hH.lt
  obtain ⟨s, pt, hp, hW, hs, ht⟩ := hH
  have HTab := Lib.hid hTab
  have hsz : (hl s pt X.length).toArray.size = 73 := hl_size _ _ _ hp
  have HI : Hid ((Tryz.prog.info? 201).map (·.size) = some (hl s pt X.length).toArray.size) := by show _ = _; rw [hsz]; kernel_rfl
  have H1 := Lib.hid (hl_one s pt X.length)
  have HSZ := Lib.hid hsz
  have hH1 : ∀ w' : World, Whole w' (w.heap.size + 1) 201 (hl s pt X.length).toArray → HashAt w' (w.heap.size + 1) 201 X := fun w' h => ⟨s, pt, hp, h, hs, ht⟩
  have HH1 := Lib.hid hH1
  have h72 : (hl s pt X.length).toArray[72]? = some (.int .u64 (X.length : Int)) := hl_sz _ _ _ hp
  have H72 := Lib.hid h72
  clear hTab hsz hH1 h72 hs ht hp
  have HW := Lib.hid hW
  clear hW
  generalize (hl s pt X.length).toArray = cs at *
  go_enter Tryz.func127, Tryz.ntmps127
  go_wp2_with (first
    | (refine wpList_load_row rfl 201 _ rfl b rfl T cs (0, 0) _ ((HW.out.past _).past _) Tryz.underlying201 rfl HI.out ?_)
    | (refine wpList_store_whole rfl 201 _ _ rfl (w.heap.size + 1) cs rfl rfl 201 _ (heap_alloc2_new w _ _) HI.out (by rw [HSZ.out]; kernel_rfl) H1.out ?_; intro w3 hW3 hG3; have HW3 := Lib.hid hW3; have HG3 := Lib.hid hG3; have c72 := (hW3.at_ 72).trans H72.out; clear hW3 hG3))
  have HB3 := Lib.hid (gr_alloc2 HG3.out (by omega))
  have hs3 := gr_size2 HG3.out
  obtain ⟨z, hz, hZ⟩ : ∃ z : Array Value, z.size = 32 ∧ Whole w3 w.heap.size 49 z := ⟨_, rfl, ((Whole.made w _ _).past _).grown HG3.out (by simp)⟩
  have HZ := Lib.hid hz
  have HZ3 := Lib.hid hZ
  have HH3 := Lib.hid (HH1.out w3 HW3.out)
  have HT3 := Lib.hid (HTab.out.below HB3.out HTab.out.lt1 HTab.out.lt2)
  clear hz hZ HG3 HH1 HI H1 HSZ H72 HW c72 HW3
  have hpd := padding_any X.length w3 (by omega)
  have hk := ShaM.padN_bd X.length
  have HK := Lib.hid hk
  have HPL := Lib.hid (ShaM.pad_len X.length)
  obtain ⟨pc, hpc⟩ : ∃ pc, pc = ((ShaM.pad X.length ++ List.replicate (72 - ShaM.padN X.length) 0).map Y).toArray := ⟨_, rfl⟩
  have hpsz : pc.size = 72 := by rw [hpc, List.size_toArray, List.length_map, List.length_append, HPL.out, List.length_replicate]; omega
  have HPI : Hid ((Tryz.prog.info? 255).map (·.size) = some pc.size) := by show _ = _; rw [hpsz]; kernel_rfl
  have HPS := Lib.hid hpsz
  have HP1 : Hid (pc.all (·.oneCell') = true) := by show _ = _; rw [hpc]; exact ys_all _
  have HPA : Hid (∀ i, i < ShaM.padN X.length → pc[0 + i]? = some (Y ((ShaM.pad X.length).getD i 0))) := fun i hi => by
    rw [hpc, List.getElem?_toArray, List.map_append, List.getElem?_append_left (by rw [List.length_map, HPL.out]; omega), ← some_y _ _ (by rw [HPL.out]; omega), Nat.zero_add]
  rw [← hpc] at hpd
  clear hpc hpsz hk
  generalize ShaM.padN X.length = k at *
  have HPD := Lib.hid hpd
  clear hpd
  have hk0 : (0 : Int) ≤ (k : Int) := by omega
  have hk72 : (k : Int) ≤ 72 := by have := HK.out; omega
  refine HPD.out.mono ?_
  rintro e w4 ⟨rfl, hB4⟩
  have HB4 := Lib.hid hB4
  clear hB4
  go_wp2_with (refine wpList_store_whole rfl 255 _ _ rfl w4.heap.size pc rfl rfl 255 _ (Whole.made w4 _ _) HPI.out (by rw [HPS.out]; kernel_rfl) HP1.out ?_; intro w5 hW5 hG5; have HW5 := Lib.hid hW5; have HG5 := Lib.hid hG5; clear hW5 hG5)
  have HB5 := Lib.hid (be_grown ((HB3.out.trans (HB4.out.mono HB3.out.size)).alloc (Nat.le_trans HB3.out.size HB4.out.size) _) HG5.out (by have := HB3.out.size; have := HB4.out.size; simp; omega) (fun j hj => by injection hj with hj; have := HB3.out.size; have := HB4.out.size; omega))
  have HB35 : Hid (Below w3.heap.size w3 w5) := be_grown (HB4.out.alloc HB4.out.size _) HG5.out (by have := HB4.out.size; simp; omega) (fun j hj => by injection hj with hj; have := HB4.out.size; omega)
  have HH5 := Lib.hid (HH3.out.below HB35.out hs3)
  have HT5 := Lib.hid (HT3.out.below HB35.out HT3.out.lt1 HT3.out.lt2)
  have HZ5 := Lib.hid (HZ3.out.below HB35.out (by omega))
  have h4 : w3.heap.size ≤ w4.heap.size := HB4.out.size
  clear HG5 HB4 HPD HB35
  go_wp2_with fail
  have hby : Bytes w5 (.slice (some ⟨w4.heap.size, 0, none⟩) k 72) (ShaM.pad X.length) := ⟨_, 72, by rw [HPL.out], by rw [HPL.out]; omega, by unfold maxLen; omega, fun _ => ⟨_, _, rfl, fun i hi => (HW5.out.at_ (0 + i)).trans (HPA.out i (by rw [HPL.out] at hi; exact hi))⟩⟩
  have hl1 := HT3.out.lt1
  have hl2 := HT3.out.lt2
  have hl1' := HTab.out.lt1
  have hl2' := HTab.out.lt2
  refine (put_any (w.heap.size + 1) 201 _ X (ShaM.pad X.length) w5 HT5.out (by omega) (by omega) HH5.out (by omega) hby (fun _ h => by injection h with h; dsimp only at h; omega)).mono ?_
  rintro e w6 ⟨rfl, hG6, hH6⟩
  clear hby hl1 hl2 hl1' hl2'
  obtain ⟨s6, pt6, hp6, hW6, hs6, _⟩ := hH6
  have hs6' : s6 = ShaM.stOf (X ++ ShaM.pad X.length) := hs6 (fun h => by have := congrArg List.length h; rw [List.length_append, HPL.out, List.length_nil] at this; have := HK.out; omega)
  have HSH : Hid (ShaM.sha X = ShaM.out s6) := by rw [hs6']; rfl
  have HB6 := Lib.hid (be_grown HB5.out hG6 HB5.out.size (fun j hj => by injection hj with hj; omega))
  have HZ6 := Lib.hid (HZ5.out.grown hG6 (by simp))
  have hrg : w6.rangeAt (w.heap.size + 1) 0 (stl s6) := fun j v hv => by
    have hj : j < 8 := by
      rcases Nat.lt_or_ge j 8 with h | h
      · exact h
      · rw [List.getElem?_eq_none (by rw [stl_len]; omega)] at hv; cases hv
    rw [Nat.zero_add, hW6.at_ j, List.getElem?_toArray, hl, List.getElem?_append_left (by rw [stl_len]; exact hj)]
    exact hv
  have HRG := Lib.hid hrg
  have hs6s : w.heap.size + 1 < w6.heap.size := hW6.lt
  clear hs6 hs6' hG6 hW6 hp6 hrg HB5 HZ5 HH5 HT5 HW5
  go_wp2_with (refine wpList_load_mid rfl 199 _ rfl (w.heap.size + 1) 0 rfl (stl s6) _ (range_past HRG.out _) Tryz.underlying199 rfl (by kernel_rfl) ?_)
  go_loopw [25] (fun i wr => ∃ q : Nat, q ≤ 8 ∧ i = .int .i64 q ∧ Whole wr w6.heap.size 49 (oarr s6 q).toArray ∧ Below w6.heap.size w6 wr) (fun i _ => 8 - (intOf i).toNat)
  case atStart => exact ⟨0, by omega, rfl, Whole.made w6 _ _, (Below.refl _ _).alloc (Nat.le_refl _) _⟩
  case round =>
    obtain ⟨q, hq, rfl, hW, hB⟩ := hrel
    have HW := Lib.hid hW
    have HB := Lib.hid hB
    clear hW hB
    by_cases hlt : q < 8
    · have hidx := run_index_one 199 198 8 (stl s6).toArray q _ _ Tryz.underlying199 Tryz.underlying198 rfl (by kernel_rfl) hlt (stl_at s6 q hlt)
      have hsl := run_slice_arr (P := Tryz.prog) 49 5 32 w6.heap.size 0 (4 * q) Tryz.underlying49 (by kernel_rfl) (by omega)
      rw [show ((4 * q : Nat) : Int) = 4 * (q : Int) by omega, Nat.zero_add] at hsl
      unfold U at hidx
      go_wp2_with fail
      refine (putWord_at w6.heap.size (4 * q) _ _ _ (s6.at q) rfl 49 _ _ (by omega) HW.out (by rw [List.size_toArray, oarr_len _ _ (by omega)]; omega)).mono ?_
      rintro e w7 ⟨rfl, hG7, hW7⟩
      rw [oarr_step _ _ hlt] at hW7
      have HW7 := Lib.hid hW7
      have HB7 := Lib.hid (be_grown HB.out hG7 HB.out.size (fun j hj => by injection hj with hj; omega))
      clear hG7 hW7 hidx hsl
      go_wp2
      go_roundw
      case rel => exact ⟨q + 1, by omega, by go_num, HW7.out, HB7.out⟩
      case measure => simp [intOf]; omega
    · have hW8 : Whole wr w6.heap.size 49 ((ShaM.out s6).map Y).toArray := by
        have := HW.out
        rw [show q = 8 by omega, oarr_full] at this
        exact this
      obtain ⟨oc, hoc⟩ : ∃ oc, oc = ((ShaM.out s6).map Y).toArray := ⟨_, rfl⟩
      rw [← hoc] at hW8
      have hos : oc.size = 32 := by rw [hoc, List.size_toArray, List.length_map]; rfl
      have HOI : Hid ((Tryz.prog.info? 49).map (·.size) = some oc.size) := by show _ = _; rw [hos]; kernel_rfl
      have HO1 : Hid (oc.all (·.oneCell') = true) := by show _ = _; rw [hoc]; exact ys_all _
      have HOS : Hid (z.size = oc.size) := by show _ = _; rw [hos, HZ.out]
      have HOC := Lib.hid hoc
      have HW8 := Lib.hid hW8
      have HZ8 := Lib.hid (HZ6.out.below HB.out (by omega))
      have HB8 := Lib.hid (HB6.out.trans (HB.out.mono HB6.out.size))
      clear hoc hos hW8
      go_wp2_with (first
        | (refine wpList_load_row rfl 49 _ rfl w6.heap.size rfl 49 oc (0, 0) _ HW8.out Tryz.underlying49 rfl HOI.out ?_)
        | (refine wpList_store_whole rfl 49 _ _ rfl w.heap.size oc rfl rfl 49 z HZ8.out HOI.out HOS.out HO1.out ?_; intro w9 hW9 hG9; have HW9 := Lib.hid hW9; have HB9 := Lib.hid (be_grown HB8.out hG9 HB8.out.size (fun j hj => by injection hj with hj; omega)); clear hW9 hG9))
      refine bodyPost_ret (v := .agg oc) ?_ rfl ⟨by rw [HOC.out, HSH.out], HB9.out⟩
      exact results_cell_row (p := 2) (ty := 49) rfl _ _ w.heap.size 49 oc (0, 0) _ rfl HW9.out Tryz.underlying49 rfl HOI.out

theorem zero_hash (w : World) (o : Obj) : HashAt ((w.alloc o).alloc (.cells Tryz.zeroCells201 201)) (w.heap.size + 1) 201 [] := by
  have e : Tryz.zeroCells201 = (hl ⟨0, 0, 0, 0, 0, 0, 0, 0⟩ (List.replicate 64 0) 0).toArray := by kernel_rfl
  rw [e]
  exact ⟨_, _, rfl, heap_alloc2_new w _ _, fun h => absurd rfl h, rfl⟩
theorem Bytes.below {w w' : World} {v : Value} {bs : List UInt8} {B : Nat} (h : Bytes w v bs) (hb : Below B w w') (hB : w.heap.size ≤ B) : Bytes w' v bs := by
  obtain ⟨A, c, rfl, hc, hcm, hcell⟩ := h
  refine ⟨A, c, rfl, hc, hcm, fun h0 => ?_⟩
  obtain ⟨g, off, rfl, hcl⟩ := hcell h0
  exact ⟨g, off, rfl, fun i hi => (hb.cell (Nat.lt_of_lt_of_le (World.block_lt_of_cell? w ⟨g, off + i, none⟩ (hcl i hi)) hB)).trans (hcl i hi)⟩
theorem Bytes.lt {w : World} {v : Value} {bs : List UInt8} (h : Bytes w v bs) (hn : bs ≠ []) : ∃ k, v.ownBlock = some k ∧ k < w.heap.size := by
  obtain ⟨A, c, rfl, hc, hcm, hcell⟩ := h
  have h0 : 0 < bs.length := List.length_pos_iff.2 hn
  obtain ⟨g, off, rfl, hcl⟩ := hcell h0
  exact ⟨g, rfl, World.block_lt_of_cell? w ⟨g, off + 0, none⟩ (hcl 0 h0)⟩

set_option maxRecDepth 100000 in
set_option maxHeartbeats 2000000 in
/-- sha.Sum. -/
theorem sum_any (v : Value) (bs : List UInt8) (w : World) (hTab : Tabs w) (hv : Bytes w v bs) (hX : bs.length < 2 ^ 59) :
    Calls Tryz.prog 80 #[v] w fun e w' => e = .returned (.agg ((ShaM.sha bs).map Y).toArray) ∧ Below w.heap.size w w' := by
  have hl1 := hTab.lt1
  have hl2 := hTab.lt2
  have HTab := Lib.hid hTab
  have HV := Lib.hid hv
  have hb2 : Hid (∀ o o' : Obj, Below w.heap.size w ((w.alloc o).alloc o')) := fun o o' => ((Below.refl _ _).alloc (Nat.le_refl _) _).alloc (by simp) _
  have hh : Hid (∀ o : Obj, HashAt ((w.alloc o).alloc (.cells Tryz.zeroCells201 201)) (w.heap.size + 1) 201 []) := fun o => zero_hash w o
  clear hTab hv
  go_enter Tryz.func80, Tryz.ntmps80
  go_wp2_with fail
  refine (put_any (w.heap.size + 1) 201 _ [] bs _ (HTab.out.below (hb2.out _ _) hl1 hl2) (by omega) (by omega) (hh.out _) (by simp) (HV.out.below (hb2.out _ _) (Nat.le_refl _)) (fun hn => by obtain ⟨k, hk, hlt⟩ := HV.out.lt hn; rw [hk]; intro h; injection h with h; omega)).mono ?_
  rintro e w3 ⟨rfl, hG3, hH3⟩
  rw [List.nil_append] at hH3
  have HB3 := Lib.hid (gr_alloc2 hG3 (by omega))
  have hs3 := gr_size2 hG3
  obtain ⟨z, hz, hZ⟩ : ∃ z : Array Value, z.size = 32 ∧ Whole w3 w.heap.size 49 z := ⟨_, rfl, ((Whole.made w _ _).past _).grown hG3 (by simp)⟩
  have HZ := Lib.hid hz
  have HZ3 := Lib.hid hZ
  have HH3 := Lib.hid hH3
  have HT3 := Lib.hid (HTab.out.below HB3.out hl1 hl2)
  clear hz hZ hG3 hH3
  go_wp2_with fail
  refine (hsum_any (w.heap.size + 1) _ bs w3 HT3.out HH3.out hX).mono ?_
  rintro e w4 ⟨rfl, hB4⟩
  obtain ⟨oc, hoc⟩ : ∃ oc, oc = ((ShaM.sha bs).map Y).toArray := ⟨_, rfl⟩
  rw [← hoc]
  have hos : oc.size = 32 := by rw [hoc, List.size_toArray, List.length_map]; rfl
  have HOI : Hid ((Tryz.prog.info? 49).map (·.size) = some oc.size) := by show _ = _; rw [hos]; kernel_rfl
  have HO1 : Hid (oc.all (·.oneCell') = true) := by show _ = _; rw [hoc]; exact ys_all _
  have HOS : Hid (z.size = oc.size) := by show _ = _; rw [hos, HZ.out]
  have HZ4 := Lib.hid (HZ3.out.below hB4 (by omega))
  have HB4 := Lib.hid (HB3.out.trans (hB4.mono HB3.out.size))
  have HOC := Lib.hid hoc
  clear hoc hos hB4
  go_wp2_with (refine wpList_store_whole rfl 49 _ _ rfl w.heap.size oc rfl rfl 49 z HZ4.out HOI.out HOS.out HO1.out ?_; intro w9 hW9 hG9; have HW9 := Lib.hid hW9; have HB9 := Lib.hid (be_grown HB4.out hG9 HB4.out.size (fun j hj => by injection hj with hj; omega)); clear hW9 hG9)
  refine bodyPost_ret (v := .agg oc) ?_ rfl ⟨by rw [HOC.out], HB9.out⟩
  exact results_cell_row (p := 2) (ty := 49) rfl _ _ w.heap.size 49 oc (0, 0) _ rfl HW9.out Tryz.underlying49 rfl HOI.out
end Go.Proofs.YtjoinnjhpfakpaaGreatDoor
namespace Go.Proofs.YtjoinnjhpfakpaaGreatDoor
open Go.RowKit

theorem str_at (l : List UInt8) (k : Nat) (h : k < l.length) (w : World) : (Instr.index 9 (.string ⟨l.toArray⟩) (.int .i64 (k : Int))).run Tryz.prog w = .ok (.int .u8 ((l.getD k 0).toNat : Int)) w := by
  rw [run_index_string (w := w) 9 _ _ _ Tryz.underlying9, dif_pos ⟨by omega, by show (k : Int) < ((l.toArray.size : Nat) : Int); simp; omega⟩]
  simp only [Int.toNat_natCast]
  have : (ByteArray.mk l.toArray)[k]'(by show k < l.toArray.size; simpa using h) = l.getD k 0 := by
    show l.toArray[k]'_ = _
    simp [List.getElem?_eq_getElem h]
  rw [this]
theorem str_cut (l : List UInt8) (a n : Nat) (ha : a ≤ n) (hn : n ≤ l.length) (w : World) : (Instr.slice 9 (.string ⟨l.toArray⟩) (some (.int .i64 (a : Int))) (some (.int .i64 (n : Int))) none).run Tryz.prog w = .ok (.string ⟨((l.take n).drop a).toArray⟩) w := by
  have hsz : (ByteArray.mk l.toArray).size = l.length := by simp [ByteArray.size]
  rw [run_slice_string_if (w := w) 9 _ .i64 .i64 _ _ Tryz.underlying9, if_pos ⟨by omega, by rw [hsz]; omega⟩, if_pos ⟨by omega, by omega⟩, ByteArray.extract_mk]
  simp [List.drop_take]
theorem ba_append (a b : List UInt8) : (ByteArray.mk a.toArray) ++ (ByteArray.mk b.toArray) = ByteArray.mk (a ++ b).toArray := by
  apply ByteArray.ext
  simp
/-- string(b), b's bytes known. -/
theorem bytes_str {P : Program} {w : World} {v : Value} {bs : List UInt8} (src dst e : TypeId) (hs : P.underlying src = some (.slice e)) (he : P.underlying e = some (.int .u8)) (hd : P.underlying dst = some .string) (h : Bytes w v bs) :
    (convert src dst v).run P w = .ok (.string ⟨bs.toArray⟩) w := by
  obtain ⟨A, c, rfl, hc, hcm, hcell⟩ := h
  rcases Nat.eq_zero_or_pos bs.length with h0 | h0
  · obtain rfl : bs = [] := List.eq_nil_of_length_eq_zero h0
    rcases A with _ | a
    · exact run_convert_bytes_nil w src e hs he _ _ dst hd
    · exact run_convert_bytes_back w src dst e a c [] hs he hd (fun j hj => absurd hj (by simp))
  · obtain ⟨g, off, rfl, hcl⟩ := hcell h0
    refine run_convert_bytes_back w src dst e ⟨g, off, none⟩ c bs hs he hd (fun j hj => ?_)
    rw [Addr.add_mid, hcl j hj]
    simp [Y, List.getElem?_eq_getElem hj]
end Go.Proofs.YtjoinnjhpfakpaaGreatDoor
namespace Go.Proofs.YtjoinnjhpfakpaaGreatDoor
open Go.RowKit

/-- A reader of the bytes s, at block b. -/
def Rd (w : World) (b : Nat) (s : List UInt8) : Prop := Whole w b 232 #[.string ⟨s.toArray⟩]

theorem gnew_any (v : Value) (bs : List UInt8) (w : World) (hv : Bytes w v bs) :
    Calls Tryz.prog 109 #[v] w fun e w' => e = .returned (.pointer (some ⟨w.heap.size, 0, none⟩)) ∧ Below w.heap.size w w' ∧ Rd w' w.heap.size bs ∧ w'.heap.size = w.heap.size + 1 := by
  have hcv := bytes_str (P := Tryz.prog) 97 9 5 Tryz.underlying97 Tryz.underlying5 Tryz.underlying9 hv
  go_enter Tryz.func109, Tryz.ntmps109
  go_wp2
  go_ret
  exact ⟨rfl, (Below.refl _ _).alloc (Nat.le_refl _) _, Whole.made _ _ _, by simp⟩

theorem left_any (b : Nat) (s : List UInt8) (w : World) (h : Rd w b s) : Calls Tryz.prog 155 #[.pointer (some ⟨b, 0, none⟩)] w fun e w' => e = .returned (.int .i64 (s.length : Int)) ∧ w = w' := by
  have hc : w.cell? ⟨b, 0, none⟩ = some (.string ⟨s.toArray⟩) := (Whole.at_ h 0).trans rfl
  clear h
  go_enter Tryz.func155, Tryz.ntmps155
  go_wp2
  go_ret
  exact ⟨rfl, rfl⟩
theorem left_nil (w : World) : Calls Tryz.prog 155 #[.pointer none] w fun e w' => e = .returned (.int .i64 0) ∧ w = w' := by
  go_enter Tryz.func155, Tryz.ntmps155
  go_wp2
  go_ret
  exact ⟨rfl, rfl⟩

/-- take of fewer than none. -/
theorem take_neg (p : Value) (n : Int) (w : World) (hn : n < 0) : Calls Tryz.prog 209 #[p, .int .i64 n] w fun e w' => e = .panicked (fault 1) ∧ w = w' := by
  have hd : decide (0 ≤ n) = false := by simp; omega
  go_enter Tryz.func209, Tryz.ntmps209
  go_wp2_with (go_at_call 158; refine (must_no _ _).mono ?_; rintro e w' ⟨rfl, rfl⟩)
  exact ⟨rfl, rfl, rfl⟩
theorem take_more (b : Nat) (s : List UInt8) (n : Int) (w : World) (h : Rd w b s) (hn : (s.length : Int) < n) : Calls Tryz.prog 209 #[.pointer (some ⟨b, 0, none⟩), .int .i64 n] w fun e w' => e = .panicked (fault 2) ∧ w = w' := by
  have hd : decide (0 ≤ n) = true := by simp; omega
  have hd2 : decide (n ≤ (s.length : Int)) = false := by simp; omega
  have H := Lib.hid h
  clear h
  go_enter Tryz.func209, Tryz.ntmps209
  go_wp2_with (first
    | (go_at_call 155; refine (left_any b s _ H.out).mono ?_; rintro e w' ⟨rfl, rfl⟩)
    | (go_at_call 158; go_at_call_of 158 (Value.bool true); refine (must_yes _ _).mono ?_; rintro e w' ⟨rfl, rfl⟩)
    | (go_at_call 158; go_at_call_of 158 (Value.bool false); refine (must_no _ _).mono ?_; rintro e w' ⟨rfl, rfl⟩))
  exact ⟨rfl, rfl, rfl⟩
theorem take_none (b : Nat) (s : List UInt8) (w : World) (h : Rd w b s) : Calls Tryz.prog 209 #[.pointer (some ⟨b, 0, none⟩), .int .i64 0] w fun e w' => e = .returned (.string ⟨#[]⟩) ∧ w = w' := by
  have hd2 : decide ((0 : Int) ≤ (s.length : Int)) = true := by simp
  have H := Lib.hid h
  clear h
  go_enter Tryz.func209, Tryz.ntmps209
  go_wp2_with (first
    | (go_at_call 155; refine (left_any b s _ H.out).mono ?_; rintro e w' ⟨rfl, rfl⟩)
    | (go_at_call 158; refine (must_yes _ _).mono ?_; rintro e w' ⟨rfl, rfl⟩))
  go_ret
  exact ⟨rfl, rfl⟩
theorem take_nil0 (w : World) : Calls Tryz.prog 209 #[.pointer none, .int .i64 0] w fun e w' => e = .returned (.string ⟨#[]⟩) ∧ w = w' := by
  go_enter Tryz.func209, Tryz.ntmps209
  go_wp2_with (first
    | (go_at_call 155; refine (left_nil _).mono ?_; rintro e w' ⟨rfl, rfl⟩)
    | (go_at_call 158; refine (must_yes _ _).mono ?_; rintro e w' ⟨rfl, rfl⟩))
  go_ret
  exact ⟨rfl, rfl⟩
theorem take_nil1 (w : World) : Calls Tryz.prog 209 #[.pointer none, .int .i64 1] w fun e w' => e = .panicked (fault 2) ∧ w = w' := by
  go_enter Tryz.func209, Tryz.ntmps209
  go_wp2_with (first
    | (go_at_call 155; refine (left_nil _).mono ?_; rintro e w' ⟨rfl, rfl⟩)
    | (go_at_call 158; go_at_call_of 158 (Value.bool true); refine (must_yes _ _).mono ?_; rintro e w' ⟨rfl, rfl⟩)
    | (go_at_call 158; go_at_call_of 158 (Value.bool false); refine (must_no _ _).mono ?_; rintro e w' ⟨rfl, rfl⟩))
  exact ⟨rfl, rfl, rfl⟩
theorem take_some (b : Nat) (s : List UInt8) (n : Nat) (w : World) (h : Rd w b s) (hn : 0 < n) (hl : n ≤ s.length) : Calls Tryz.prog 209 #[.pointer (some ⟨b, 0, none⟩), .int .i64 (n : Int)] w fun e w' => e = .returned (.string ⟨(s.take n).toArray⟩) ∧ w.grownBy w' (some b) ∧ Rd w' b (s.drop n) := by
  have hd2 : decide ((n : Int) ≤ (s.length : Int)) = true := by simp; omega
  have hd3 : ((n : Int) == 0) = false := beq_eq_false_iff_ne.2 (by omega)
  have hc : w.cell? ⟨b, 0, none⟩ = some (.string ⟨s.toArray⟩) := (Whole.at_ h 0).trans rfl
  have hz := Whole.thawed h 0
  have H := Lib.hid h
  clear h
  go_enter Tryz.func209, Tryz.ntmps209
  go_wp2_with (first
    | (go_at_call 155; refine (left_any b s _ H.out).mono ?_; rintro e w' ⟨rfl, rfl⟩)
    | (go_at_call 158; refine (must_yes _ _).mono ?_; rintro e w' ⟨rfl, rfl⟩))
  go_ret
  rw [ByteArray.extract_mk, ByteArray.extract_mk]
  refine ⟨by simp, gr_set (gr_refl _ _) (.inl rfl) _, ?_⟩
  have := Whole.put H.out 0 (.string ⟨(s.drop n).toArray⟩)
  rw [List.take_of_length_le (by simp)]
  exact this

/-- Byte. -/
theorem byte_some (b : Nat) (x : UInt8) (s : List UInt8) (w : World) (h : Rd w b (x :: s)) : Calls Tryz.prog 211 #[.pointer (some ⟨b, 0, none⟩)] w fun e w' => e = .returned (.int .u8 (x.toNat : Int)) ∧ w.grownBy w' (some b) ∧ Rd w' b s := by
  have H := Lib.hid h
  clear h
  go_enter Tryz.func211, Tryz.ntmps211
  go_wp2_with fail
  refine (take_some b (x :: s) 1 _ H.out (by decide) (by simp)).mono ?_
  rintro e w' ⟨rfl, hG, hR⟩
  have HG := Lib.hid hG
  have HR := Lib.hid hR
  clear hG hR
  go_wp2
  go_ret
  exact ⟨rfl, HG.out, HR.out⟩
theorem byte_more (b : Nat) (w : World) (h : Rd w b []) : Calls Tryz.prog 211 #[.pointer (some ⟨b, 0, none⟩)] w fun e w' => e = .panicked (fault 2) ∧ w = w' := by
  have H := Lib.hid h
  clear h
  go_enter Tryz.func211, Tryz.ntmps211
  go_wp2_with fail
  refine (take_more b [] 1 _ H.out (by decide)).mono ?_
  rintro e w' ⟨rfl, rfl⟩
  exact ⟨rfl, rfl, rfl⟩
theorem byte_nil (w : World) : Calls Tryz.prog 211 #[.pointer none] w fun e w' => e = .panicked (fault 2) ∧ w = w' := by
  go_enter Tryz.func211, Tryz.ntmps211
  go_wp2_with fail
  refine (take_nil1 _).mono ?_
  rintro e w' ⟨rfl, rfl⟩
  exact ⟨rfl, rfl, rfl⟩
end Go.Proofs.YtjoinnjhpfakpaaGreatDoor

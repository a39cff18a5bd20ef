/-
  The statements' first call, walked: it tells true.
-/
import Derived.Test.YtfaijkgfhdhhbaaGreatDoorMgf
import Derived.Lib.SlBytesConst
import Derived.Deep.Cut
namespace Go.Proofs.YtfaijkgfhdhhbaaGreatDoor
open Go.RowKit

/-- What the calls read of variables. -/
structure Env (w : World) : Prop where
  tabs : Tabs w
  tz : Tz w
  mx : Mx w
theorem Env.below {w0 w w' : World} {B : Nat} (h0 : Env w0) (h : Env w) (hs : w0.heap.size ≤ B) (hb : Below B w w') : Env w' :=
  ⟨h.tabs.below hb (by have := h0.tabs.lt1; omega) (by have := h0.tabs.lt2; omega), h.tz.below hb (by have := h0.tz.lt; omega), h.mx.below hb (by have := h0.mx.lt; omega)⟩
theorem Env.at_ {w0 w' : World} (h0 : Env w0) (hb : Below w0.heap.size w0 w') : Env w' := h0.below h0 (Nat.le_refl _) hb
/-- The cells of a new row of bytes. -/
theorem bytes_new (w : World) (t : TypeId) (l : List UInt8) (fr : Nat × Nat) (hm : l.length ≤ maxLen) : Bytes (w.alloc (.cells (l.map Y).toArray t fr)) (.slice (some ⟨w.heap.size, 0, none⟩) l.length l.length) l := by
  refine ⟨_, _, rfl, Nat.le_refl _, hm, fun _ => ⟨_, _, rfl, fun i hi => ?_⟩⟩
  rw [Nat.zero_add, World.cell?_alloc_mark, List.getElem?_toArray, ← some_y _ _ hi]
/-- A whole row loaded by an operation that a guard lets run. -/
theorem wpList_load_row_on {P : Program} {ops : Array Oper} {rest : List Oper} {o : Oper} {a : Act} {w : World} {Q : Exit → Act → World → Prop} (ty : TypeId) (x : Operand) (ho : o.op = .load ty x)
    (g : Nat) (hx : a.eval x = .pointer (some ⟨g, 0, none⟩)) (hwant : Region.wanted o (yielded ops a.tmps) = true) (t : TypeId) (cs : Array Value) (fr : Nat × Nat) (d : TypeDesc) (hg : w.heap[g]? = some (.cells cs t fr))
    (hu : P.underlying ty = some d) (hd : (match d with | .struct _ | .array _ _ => true | _ => false) = true) (hi : (P.info? ty).map (·.size) = some cs.size)
    (h : wpList P ops Q rest (a.put o.dst (.agg cs)) w) : wpList P ops Q (o :: rest) a w := by
  unfold wpList
  rw [if_pos hwant]
  exact .inl (wp_load_row ty x ho g hx t cs fr d hg hu hd hi h)
/-- A region's list parted in two. -/
def QC (Q : Exit → Act → World → Prop) (R : Act → World → Prop) : Exit → Act → World → Prop
  | .normal => R
  | e => Q e
theorem qc_normal {Q : Exit → Act → World → Prop} {R : Act → World → Prop} {a : Act} {w : World} (h : R a w) : QC Q R .normal a w := h
theorem upon_qc {P : Program} {o : Oper} {a : Act} {Q : Exit → Act → World → Prop} {R K K' : Act → World → Prop} (h : ∀ a w, K a w → K' a w) (r : Result Next) (hh : o.upon P a K (QC Q R) r) : o.upon P a K' Q r := by
  cases r with
  | ok n w' =>
    cases n <;> simp only [Oper.upon] at hh ⊢ <;>
      first
        | exact h _ _ hh
        | exact Calls.mono hh (fun e w'' he => by cases e <;> first | exact h _ _ he | exact he)
        | exact Rows.mono hh (fun _ _ he => h _ _ he)
  | halt x w' => cases x <;> simp only [Oper.upon] at hh ⊢ <;> exact hh
theorem wpList_split {P : Program} {ops : Array Oper} {Q : Exit → Act → World → Prop} (l1 l2 : List Oper) {a : Act} {w : World} (h : wpList P ops (QC Q (wpList P ops Q l2)) l1 a w) : wpList P ops Q (l1 ++ l2) a w := by
  induction l1 generalizing a w with
  | nil => exact h
  | cons o l1 ih =>
    rw [List.cons_append]
    unfold wpList at h ⊢
    split
    · rename_i hw
      rw [if_pos hw] at h
      rcases h with h | ⟨h1, h2⟩
      · exact .inl (upon_qc (fun a w k => ih k) _ h)
      · exact .inr ⟨h1, h2⟩
    · rename_i hw
      rw [if_neg hw] at h
      exact ih h
theorem wp_region_at (n : Nat) {P : Program} {id : Nat} {l : List Oper} {Q : Exit → Act → World → Prop} {a : Act} {w : World} (h : wpList P l.toArray (QC Q (wpList P l.toArray Q (l.drop n))) (l.take n) a w) : (Code.region id l.toArray false).wp P Q a w :=
  wp_region_lit (by have := wpList_split (l.take n) (l.drop n) h; rwa [List.take_append_drop] at this)
set_option maxRecDepth 100000 in
set_option maxHeartbeats 4000000 in
theorem begun_any (w : World) (hE : Env w) : Calls Tryz.prog 63 #[] w fun e w' => e = .returned (.bool true) ∧ Below w.heap.size w w' := by
  have HE := Lib.hid hE
  clear hE
  go_enter Tryz.func63, Tryz.ntmps63
  have hcv := Lib.run_convert_bytes_const (P := Tryz.prog) w 78 5 #[.int .u8 97, .int .u8 98, .int .u8 99] 3 3 Tryz.underlying78 Tryz.underlying5
  go_wp2_with fail
  have hby : Bytes (w.alloc (.cells #[.int .u8 97, .int .u8 98, .int .u8 99] 5 (3, 4))) (.slice (some ⟨w.heap.size, 0, none⟩) 3 3) [97, 98, 99] := bytes_new w 5 [97, 98, 99] (3, 4) (by unfold maxLen; decide)
  have hB0 := (Below.refl w.heap.size w).alloc (Nat.le_refl _) (.cells #[.int .u8 97, .int .u8 98, .int .u8 99] 5 (3, 4))
  refine (sum_any _ [97, 98, 99] _ (HE.out.at_ hB0).tabs hby (by decide)).mono ?_
  rintro e w1 ⟨rfl, hB1⟩
  have HB1 := Lib.hid (hB0.trans (hB1.mono (by simp)))
  have hs1 : w.heap.size + 1 ≤ w1.heap.size := by have := hB1.size; simpa using this
  rw [ShaM.sha_abc]
  obtain ⟨oc, hoc⟩ : ∃ oc : Array Value, oc = ((([0xba, 0x78, 0x16, 0xbf, 0x8f, 0x01, 0xcf, 0xea, 0x41, 0x41, 0x40, 0xde, 0x5d, 0xae, 0x22, 0x23, 0xb0, 0x03, 0x61, 0xa3, 0x96, 0x17, 0x7a, 0x9c, 0xb4, 0x10, 0xff, 0x61, 0xf2, 0x00, 0x15, 0xad] : List UInt8).map Y).toArray) := ⟨_, rfl⟩
  rw [← hoc]
  have HOI : Hid ((Tryz.prog.info? 23).map (·.size) = some oc.size) := by show _ = _; rw [hoc]; kernel_rfl
  have HO1 : Hid (oc.all (·.oneCell') = true) := by show _ = _; rw [hoc]; exact ys_all _
  have HOS : Hid (32 = oc.size) := by show _ = _; rw [hoc]; rfl
  have HC0 : Hid (oc[0]? = some (.int .u8 186)) := by show _ = _; rw [hoc]; rfl
  have HC1 : Hid (oc[1]? = some (.int .u8 120)) := by show _ = _; rw [hoc]; rfl
  have HC2 : Hid (oc[31]? = some (.int .u8 173)) := by show _ = _; rw [hoc]; rfl
  clear hby hB0 hB1 hoc hcv
  go_wp2_with (refine wpList_store_whole rfl 23 _ _ rfl w1.heap.size oc rfl rfl 23 _ (Whole.made w1 _ _) HOI.out HOS.out HO1.out ?_; intro w2 hW2 hG2; have HW2 := Lib.hid hW2; have HB2 := Lib.hid (be_grown (HB1.out.alloc (by omega) _) hG2 (by simp; omega) (fun j hj => by injection hj with hj; omega)); have hs2 := hG2.size; clear hW2 hG2)
  refine (do3_any w2).mono ?_
  rintro e w3 ⟨rfl, hB⟩
  have HW3 := Lib.hid (HW2.out.below hB HW2.out.lt)
  have HB3 := Lib.hid (HB2.out.trans (hB.mono HB2.out.size))
  clear hB
  go_wp2_with (first
    | (go_at_call 102; refine (copysign_any _).mono ?_; rintro e w' ⟨rfl, rfl⟩)
    | (go_at_call 101; refine (norm_nought _).mono ?_; rintro e w' ⟨rfl, rfl⟩))
  refine (size_15 w3 (HE.out.at_ HB3.out).mx).mono ?_
  rintro e w4 ⟨rfl, hB⟩
  have HW4 := Lib.hid (HW3.out.below hB HW3.out.lt)
  have HB4 := Lib.hid (HB3.out.trans (hB.mono HB3.out.size))
  clear hB
  go_wp2_with fail
  refine (of_x w4 (HE.out.at_ HB4.out).tabs).mono ?_
  rintro e w5 ⟨rfl, hB⟩
  have HW5 := Lib.hid (HW4.out.below hB HW4.out.lt)
  have HB5 := Lib.hid (HB4.out.trans (hB.mono HB4.out.size))
  have hs5 := HB5.out.size
  clear hB
  obtain ⟨id, hid⟩ : ∃ id : List UInt8, id = ShaM.sha [98, 108, 111, 98, 32, 49, 0, 120] := ⟨_, rfl⟩
  rw [← hid]
  have HIL : Hid (id.length = 32) := by show _ = _; rw [hid]; decide +kernel
  have HII : Hid ((Tryz.prog.info? 24).map (·.size) = some ((id.map Y).toArray).size) := by
    show _ = _
    rw [List.size_toArray, List.length_map, HIL.out]
    kernel_rfl
  have HIS : Hid (32 = ((id.map Y).toArray).size) := by show _ = _; rw [List.size_toArray, List.length_map, HIL.out]
  have HIO : Hid (((id.map Y).toArray).all (·.oneCell') = true) := ys_all _
  clear hid
  obtain ⟨ic, hic⟩ : ∃ ic, ic = (id.map Y).toArray := ⟨_, rfl⟩
  rw [← hic] at HII HIS HIO ⊢
  have HIC := Lib.hid hic
  clear hic
  go_wp2_with (refine wpList_store_whole rfl 24 _ _ rfl w5.heap.size ic rfl rfl 24 _ (Whole.made w5 _ _) HII.out HIS.out HIO.out ?_; intro w6 hW6 hG6; have HI6 := Lib.hid hW6; have HB6 := Lib.hid (be_grown (HB5.out.alloc (by omega) _) hG6 (by simp; omega) (fun j hj => by injection hj with hj; omega)); have HW6 := Lib.hid ((HW5.out.past _).grown hG6 (fun e => by have h := HW5.out.lt; injection e with e; omega)); clear hW6 hG6)
  refine (put_ab w6 (HE.out.at_ HB6.out).tz).mono ?_
  rintro e w7 ⟨rfl, hB⟩
  have HW7 := Lib.hid (HW6.out.below hB HW6.out.lt)
  have HI7 := Lib.hid (HI6.out.below hB HI6.out.lt)
  have HB7 := Lib.hid (HB6.out.trans (hB.mono HB6.out.size))
  clear hB
  go_wp2_with fail
  refine (get_ab w7).mono ?_
  rintro e w8 ⟨rfl, hB⟩
  have HW8 := Lib.hid (HW7.out.below hB HW7.out.lt)
  have HI8 := Lib.hid (HI7.out.below hB HI7.out.lt)
  have HB8 := Lib.hid (HB7.out.trans (hB.mono HB7.out.size))
  clear hB
  go_wp2_with (first
    | (go_at_call 107; refine (delim_any _).mono ?_; rintro e w' ⟨rfl, rfl⟩)
    | (go_at_call 108; refine (flush_any _).mono ?_; rintro e w' ⟨rfl, rfl⟩))
  refine (all_ab w8).mono ?_
  rintro e w9 ⟨g9, c9, rfl, hB⟩
  have HW9 := Lib.hid (HW8.out.below hB HW8.out.lt)
  have HI9 := Lib.hid (HI8.out.below hB HI8.out.lt)
  have HB9 := Lib.hid (HB8.out.trans (hB.mono HB8.out.size))
  have hs9 := HB9.out.size
  clear hB
  go_wp2_with fail
  have hby : Bytes (w9.alloc (.cells #[.int .u8 7, .int .u8 8] 5)) (.slice (some ⟨w9.heap.size, 0, none⟩) 2 2) [7, 8] := bytes_new w9 5 [7, 8] (0, 0) (by unfold maxLen; decide)
  refine (gnew_any _ [7, 8] _ hby).mono ?_
  rintro e w10 ⟨rfl, hB, hR, -⟩
  have hszA : (w9.alloc (.cells #[.int .u8 7, .int .u8 8] 5)).heap.size = w9.heap.size + 1 := by simp
  rw [hszA] at hR hB ⊢
  have HR10 := Lib.hid hR
  have HW10 := Lib.hid ((HW9.out.past _).below hB (by have := HW9.out.lt; omega))
  have HI10 := Lib.hid ((HI9.out.past _).below hB (by have := HI9.out.lt; omega))
  have HB10 := Lib.hid ((HB9.out.alloc (by omega) _).trans (hB.mono (by omega)))
  clear hB hR hby hszA
  have c0 : w10.cell? ⟨w1.heap.size, 0, none⟩ = some (.int .u8 186) := (HW10.out.at_ 0).trans HC0.out
  have c1 : w10.cell? ⟨w1.heap.size, 1, none⟩ = some (.int .u8 120) := (HW10.out.at_ 1).trans HC1.out
  have c31 : w10.cell? ⟨w1.heap.size, 31, none⟩ = some (.int .u8 173) := (HW10.out.at_ 31).trans HC2.out
  have hdiv := fun w => run_float_arith (P := Tryz.prog) w .quo 26 .f64 4607182418800017408 0 9218868437227405312 (by kernel_rfl)
  have hhx := hex_any id w10 HIL.out
  rw [← HIC.out] at hhx
  have HHX := Lib.hid hhx
  clear hhx
  go_upto_region 12 with fail
  refine wp_region_at 37 ?_
  change wpList _ _ _ [_, _, _, _, _, _, _, _, _, _, _, _, _, _, _, _, _, _, _, _, _, _, _, _, _, _, _, _, _, _, _, _, _, _, _, _, _] _ _
  go_wp2_with (refine qc_normal ?_; change wpList _ _ _ (_ :: _) _ _; refine wpList_load_row_on 24 (.tmp 7) rfl w5.heap.size rfl rfl 24 ic (0, 0) _ HI10.out Tryz.underlying24 rfl HII.out ?_)
  refine HHX.out.mono ?_
  rintro e w11 ⟨rfl, hB⟩
  have HR11 : Hid (Rd w11 (w9.heap.size + 1) [7, 8]) := Whole.below HR10.out hB HR10.out.lt
  have HB11 := Lib.hid (HB10.out.trans (hB.mono HB10.out.size))
  have h64 : (hexOf id).length = 64 := by rw [hexOf_len, HIL.out]
  have hsR := HR10.out.lt
  generalize hexOf id = ht at *
  clear hB
  go_wp2_with (first
    | (go_at_call 86; refine (left_any (w9.heap.size + 1) [7, 8] _ HR11.out).mono ?_; rintro e w' ⟨rfl, rfl⟩))
  refine (byte_some (w9.heap.size + 1) 7 [8] w11 HR11.out).mono ?_
  rintro e w12 ⟨rfl, hG, -⟩
  have HB12 := Lib.hid (be_grown HB11.out hG HB11.out.size (fun j hj => by injection hj with hj; omega))
  clear hG
  go_wp2_with fail
  refine (put_1 w12).mono ?_
  rintro e w13 ⟨rfl, hB⟩
  have HB13 := Lib.hid (HB12.out.trans (hB.mono HB12.out.size))
  clear hB
  go_wp2_with (first
    | (go_at_call 110; refine (nan_any _).mono ?_; rintro e w' ⟨rfl, rfl⟩)
    | (go_at_call 90; refine (may_nan _).mono ?_; rintro e w' ⟨rfl, rfl⟩))
  go_ret
  exact ⟨rfl, HB13.out⟩
end Go.Proofs.YtfaijkgfhdhhbaaGreatDoor

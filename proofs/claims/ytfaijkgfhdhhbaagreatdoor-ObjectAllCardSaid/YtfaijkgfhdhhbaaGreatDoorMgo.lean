/-
  commit.putLine, commit.Put, walked.
  Commits read: the plain part.
  slices.Equal of names and of entries, walked.
  Objects: the plain part.
-/
import Derived.Test.YtfaijkgfhdhhbaaGreatDoorMgi
import Derived.Test.YtfaijkgfhdhhbaaGreatDoorMgk
import Derived.Test.YtfaijkgfhdhhbaaGreatDoorMgd
import Derived.Test.YtfaijkgfhdhhbaaGreatDoorMgl
import Derived.Test.YtfaijkgfhdhhbaaGreatDoorMgn
import Derived.Test.YtfaijkgfhdhhbaaGreatDoorMgh
import Derived.Laws.StructEq
namespace Go.Proofs.YtfaijkgfhdhhbaaGreatDoor
open Go.RowKit

set_option maxRecDepth 100000 in
theorem cline_any (B b : Nat) (l wd tx : List UInt8) (w : World) (h : Bd w B b l) (hl : l.length + wd.length + tx.length ≤ 1048576) (hBw : B ≤ w.heap.size) :
    Calls Tryz.prog 56 #[.pointer (some ⟨b, 0, none⟩), .string ⟨wd.toArray⟩, .string ⟨tx.toArray⟩] w fun e w' => e = .returned (.tuple #[]) ∧ BdU w' B b (l ++ wd ++ tx ++ [10]) ∧ Below B w w' ∧ Kp b w w' := by
  have H1 := Lib.hid (wstr_any B b l wd w h (by omega) hBw)
  clear h
  go_enter Tryz.func56, Tryz.ntmps56
  go_wp2_with fail
  refine H1.out.mono ?_
  rintro e w1 ⟨rfl, hb, hB1, hK1⟩
  have H2 := Lib.hid (wstr_any B b _ tx w1 hb.bd (by simp; omega) (Nat.le_trans hBw hB1.size))
  have HBK := Lib.hid (And.intro hB1 hK1)
  clear hb hB1 hK1 H1
  go_wp2_with fail
  refine H2.out.mono ?_
  rintro e w2 ⟨rfl, hb, hB2, hK2⟩
  have H3 := Lib.hid (wbyte_any B b _ 10 _ rfl w2 hb.bd (by simp; omega) (Nat.le_trans hBw (Nat.le_trans HBK.out.1.size hB2.size)))
  have HBK2 := Lib.hid (And.intro (HBK.out.1.trans hB2) (HBK.out.2.trans hK2))
  clear hb hB2 hK2 H2 HBK
  go_wp2_with fail
  refine H3.out.mono ?_
  rintro e w3 ⟨rfl, hb, hB3, hK3⟩
  have HF := Lib.hid (And.intro hb (And.intro (HBK2.out.1.trans hB3) (HBK2.out.2.trans hK3)))
  clear hb hB3 hK3 H3
  go_wp2
  go_end0
  exact ⟨rfl, HF.out⟩
def lineP (x : Nm) : List UInt8 := [112, 97, 114, 101, 110, 116, 32] ++ hexOf x.l ++ [10]
/-- A commit's bytes. -/
def bytesC (x : Cm) : List UInt8 := [116, 114, 101, 101, 32] ++ hexOf x.tree.l ++ [10] ++ x.parents.flatMap lineP ++ [119, 104, 101, 110, 32] ++ hexs 16 (bitsV x.time) ++ [10] ++ [10] ++ x.note
theorem lineP_len (x : Nm) : (lineP x).length = 72 := by simp [lineP, hexOf_len, x.h]
theorem linesP_len (l : List Nm) : (l.flatMap lineP).length = l.length * 72 := by
  induction l with
  | nil => rfl
  | cons x l ih => rw [List.flatMap_cons, List.length_append, ih, lineP_len, List.length_cons]; omega
theorem linesP_take (l : List Nm) (k : Nat) (h : k < l.length) : (l.take (k + 1)).flatMap lineP = (l.take k).flatMap lineP ++ lineP (l.getD k default) := by
  rw [List.take_succ_eq_append_getElem h, List.flatMap_append]
  simp [List.getD, List.getElem?_eq_getElem h]
theorem tree_range {w : World} {g : Nat} {A : Option Addr} {c : Nat} {x : Cm} (h : Whole w g 28 (encC A c x).toArray) : w.rangeAt g 0 (encN x.tree) := by
  intro j v hv
  have hj := (List.getElem?_eq_some_iff.1 hv).1
  rw [Nat.zero_add, h.at_, List.getElem?_toArray, encC, List.getElem?_append_left hj]
  exact hv
theorem infoC_s (A : Option Addr) (c : Nat) (x : Cm) : (Tryz.prog.info? 28).map (·.size) = some (encC A c x).toArray.size := by rw [List.size_toArray, encC_len]; exact infoC
set_option maxRecDepth 100000 in
set_option maxHeartbeats 4000000 in
theorem cput_any (A : Option Addr) (c : Nat) (x : Cm) (w : World) (hA : ArgN w A c x.parents) (ht : x.time < 18446744073709551616) :
    Calls Tryz.prog 23 #[.agg (encC A c x).toArray] w fun e w' => e = .returned (.tuple #[.string ⟨(if mayC x then bytesC x else []).toArray⟩, .bool (mayC x)]) ∧ Below w.heap.size w w' := by
  have HW := Lib.hid (Whole.made w 28 (encC A c x).toArray)
  have HB := Lib.hid ((Below.refl w.heap.size w).alloc (Nat.le_refl _) (.cells (encC A c x).toArray 28))
  have HA := Lib.hid (hA.later HB.out)
  have HMC := Lib.hid (cmay_any A c x _ HA.out ht)
  have HIC := Lib.hid (infoC_s A c x)
  have hs0 : (w.alloc (.cells (encC A c x).toArray 28)).heap.size = w.heap.size + 1 := by simp
  have hlc := hA.1
  have HAO := Lib.hid hA
  clear hA
  cases hm : mayC x with
  | false =>
    rw [hm] at HMC
    clear hm
    go_enter Tryz.func23, Tryz.ntmps23
    go_wp2_with (refine wpList_load_row rfl 28 _ rfl w.heap.size rfl 28 (encC A c x).toArray (0, 0) _ HW.out Tryz.underlying28 rfl HIC.out ?_)
    refine HMC.out.mono ?_
    rintro e w1 ⟨rfl, hB1⟩
    have HBF := Lib.hid (HB.out.trans (hB1.mono HB.out.size))
    clear hB1
    go_wp2
    go_ret2
    exact ⟨rfl, HBF.out⟩
  | true =>
    rw [hm] at HMC
    have hm' := hm
    simp only [mayC, mayP, Bool.and_eq_true, decide_eq_true_eq] at hm'
    obtain ⟨⟨⟨hp4, -⟩, hmt⟩, hnt⟩ := hm'
    have HPUT := Lib.hid fun W => put_good x.time W ht hmt
    clear hm hmt
    go_enter Tryz.func23, Tryz.ntmps23
    go_wp2_with (refine wpList_load_row rfl 28 _ rfl w.heap.size rfl 28 (encC A c x).toArray (0, 0) _ HW.out Tryz.underlying28 rfl HIC.out ?_)
    refine HMC.out.mono ?_
    rintro e w1 ⟨rfl, hB1⟩
    have HW1 := Lib.hid (HW.out.below hB1 HW.out.lt)
    have HB1 := Lib.hid (HB.out.trans (hB1.mono HB.out.size))
    have HA1 := Lib.hid (HA.out.later hB1)
    have hg1 : w.heap.size < w1.heap.size := HW1.out.lt
    clear hB1 HMC
    obtain ⟨b, hb⟩ : ∃ b, b = w1.heap.size := ⟨_, rfl⟩
    have HBD2 : Hid (Bd (w1.alloc (.cells #[.pointer none, .slice none 0 0] 80)) b b []) := by rw [hb]; exact bd_new w1
    have HB2 := Lib.hid (HB1.out.alloc HB1.out.size (.cells #[.pointer none, .slice none 0 0] 80))
    have HW2 := Lib.hid (HW1.out.past (.cells #[.pointer none, .slice none 0 0] 80))
    have HA2 := Lib.hid (HA1.out.later ((Below.refl w1.heap.size w1).alloc (Nat.le_refl _) (.cells #[.pointer none, .slice none 0 0] 80)))
    have hs2 : (w1.alloc (.cells #[.pointer none, .slice none 0 0] 80)).heap.size = b + 1 := by rw [hb]; simp
    have HTR2 := Lib.hid (tree_range HW2.out)
    have HXT := Lib.hid (infoX x.tree)
    rw [← hb] at hg1
    have hgb : w.heap.size ≠ b := by omega
    go_wp2_with (refine wpList_load_mid rfl 24 _ rfl w.heap.size 0 rfl (encN x.tree) _ HTR2.out Tryz.underlying24 rfl HXT.out ?_)
    rw [← hb]
    generalize w1.alloc (.cells #[.pointer none, .slice none 0 0] 80) = w2 at *
    clear hb
    refine (hex_any x.tree.l _ x.tree.h).mono ?_
    rintro e w3 ⟨rfl, hB3⟩
    have HB3 := Lib.hid (HB2.out.trans (hB3.mono HB2.out.size))
    have HW3 := Lib.hid (HW2.out.below hB3 HW2.out.lt)
    have HA3 := Lib.hid (HA2.out.later hB3)
    have hs3 : b < w3.heap.size := by have := hB3.size; omega
    have hhl : (hexOf x.tree.l).length = 64 := by rw [hexOf_len, x.tree.h]
    have HCL := Lib.hid (cline_any b b [] [116, 114, 101, 101, 32] (hexOf x.tree.l) w3 (HBD2.out.later hB3) (by simp; omega) (by omega))
    clear hB3 HBD2
    generalize hht : hexOf x.tree.l = ht at *
    have HHT := Lib.hid hht
    clear hht
    go_wp2_with fail
    refine HCL.out.mono ?_
    rintro e w4 ⟨rfl, hbd, hB4, hK4⟩
    have HB4 := Lib.hid (HB3.out.trans (hB4.mono (Nat.le_of_lt hg1)))
    have HW4 := Lib.hid (HW3.out.kept hK4 hgb (by decide))
    have HBD4 := Lib.hid hbd.bd
    have hs4 : b < w4.heap.size := by have := hB4.size; omega
    clear hbd hB4 hK4 HCL HB3 HW3 HA3 HB2 HW2 HA2 HTR2
    have c32 : w4.cell? ⟨w.heap.size, 32, none⟩ = some (.slice A x.parents.length c) := (HW4.out.at_ 32).trans (encC_32 A c x)
    obtain ⟨hd, hhd⟩ : ∃ hd, hd = [] ++ [116, 114, 101, 101, 32] ++ ht ++ [10] := ⟨_, rfl⟩
    have hdl : hd.length ≤ 100 := by rw [hhd]; simp; omega
    have HHD := Lib.hid hhd
    rw [← hhd] at HBD4
    clear hhd
    go_wp2
    go_loopg [6, 17] x.parents.length (fun g _ s17 wr => ∃ k : Nat, k ≤ x.parents.length ∧ x.parents.length - k ≤ g ∧ s17 = .int .i64 k ∧ Hid (Below w.heap.size w wr) ∧ b < wr.heap.size ∧ Hid (Whole wr w.heap.size 28 (encC A c x).toArray) ∧ Hid (Bd wr b b (hd ++ (x.parents.take k).flatMap lineP)))
    case atStart => exact ⟨0, Nat.zero_le _, by omega, rfl, HB4, hs4, HW4, Lib.hid (by rw [List.take_zero, List.flatMap_nil, List.append_nil]; exact HBD4.out)⟩
    case round =>
      obtain ⟨k, hk, hg, rfl, hwr, hsz, hwh, hbd⟩ := hrel
      by_cases hlt : k < x.parents.length
      · have hlt' : (k : Int) < (x.parents.length : Int) := by omega
        obtain ⟨bb, o, rfl, hr⟩ := (HAO.out.later hwr.out).2.2.2 (by omega)
        obtain ⟨y, hy⟩ : ∃ y, y = x.parents.getD k default := ⟨_, rfl⟩
        have hrk := hr k hlt
        rw [← hy] at hrk
        have HRK := Lib.hid hrk
        have HLT := Lib.hid (linesP_take x.parents k hlt)
        rw [← hy] at HLT
        have hpl : ((x.parents.take k).flatMap lineP).length ≤ 288 := by rw [linesP_len, List.length_take]; omega
        have HXI := Lib.hid (infoX y)
        have HXS := Lib.hid (infoXs y)
        clear hr hrk hy
        generalize (x.parents.take k).flatMap lineP = pre at *
        go_wp2_with (first
          | (refine wpList_load_mid rfl 24 _ rfl bb (o + k * 32) rfl (encN y) _ HRK.out Tryz.underlying24 rfl HXI.out ?_)
          | (refine wpList_store_whole rfl 24 _ _ rfl wr.heap.size (encN y).toArray rfl rfl 24 _ (Whole.made wr _ _) HXS.out (by rw [encN_size]; kernel_rfl) (encN_all y) ?_; intro w5 hWn hGn; have HW5 := Lib.hid hWn; have D5 := Lib.hid (made_belowC hGn); clear hWn hGn)
          | (refine wpList_load_row rfl 24 _ rfl wr.heap.size rfl 24 (encN y).toArray (0, 0) _ HW5.out Tryz.underlying24 rfl HXS.out ?_))
        refine (hex_any y.l _ y.h).mono ?_
        rintro e w6 ⟨rfl, hB6⟩
        have HD6 := Lib.hid (D5.out.trans (hB6.mono D5.out.size))
        have HB6 := Lib.hid (hwr.out.trans (HD6.out.mono hwr.out.size))
        have HW6 := Lib.hid (hwh.out.below HD6.out hwh.out.lt)
        have hs6 : b < w6.heap.size := by have := HD6.out.size; omega
        have hhy : (hexOf y.l).length = 64 := by rw [hexOf_len, y.h]
        have HCL := Lib.hid (cline_any b b (hd ++ pre) [112, 97, 114, 101, 110, 116, 32] (hexOf y.l) w6 (hbd.out.later HD6.out) (by simp; omega) (by omega))
        have HLN : Hid (hd ++ pre ++ [112, 97, 114, 101, 110, 116, 32] ++ hexOf y.l ++ [10] = hd ++ (x.parents.take (k + 1)).flatMap lineP) := by
          show _ = _
          rw [HLT.out]
          simp [lineP]
        clear hB6
        generalize hexOf y.l = hy at *
        go_wp2_with fail
        refine HCL.out.mono ?_
        rintro e w7 ⟨rfl, hbd7, hB7, hK7⟩
        have HB7 := Lib.hid (HB6.out.trans (hB7.mono (Nat.le_of_lt hg1)))
        have HW7 := Lib.hid (HW6.out.kept hK7 hgb (by decide))
        have hs7 : b < w7.heap.size := by have := hB7.size; omega
        have hbd8 := hbd7.bd
        rw [HLN.out] at hbd8
        have HBD8 := Lib.hid hbd8
        clear hbd7 hB7 hK7 hbd8 HCL
        go_wp2
        go_roundg (x.parents.length - (k + 1))
        case measure => omega
        case rel => exact ⟨k + 1, by omega, Nat.le_refl _, by go_num, HB7, hs7, HW7, HBD8⟩
      · obtain rfl : k = x.parents.length := by omega
        rw [List.take_length] at hbd
        have hpl : (x.parents.flatMap lineP).length ≤ 288 := by rw [linesP_len]; omega
        generalize hPP : x.parents.flatMap lineP = pp at *
        have HPP := Lib.hid hPP
        have c33 : wr.cell? ⟨w.heap.size, 33, none⟩ = some (.float .f64 x.time) := (hwh.out.at_ 33).trans (encC_33 A c x)
        clear hPP
        go_wp2_with fail
        refine (HPUT.out _).mono ?_
        rintro e w5 ⟨rfl, hB5⟩
        have HB5 := Lib.hid (hwr.out.trans (hB5.mono hwr.out.size))
        have HW5 := Lib.hid (hwh.out.below hB5 hwh.out.lt)
        have hs5 : b < w5.heap.size := by have := hB5.size; omega
        have hxl := hexs_len 16 (bitsV x.time)
        have HCL := Lib.hid (cline_any b b (hd ++ pp) [119, 104, 101, 110, 32] (hexs 16 (bitsV x.time)) w5 (hbd.out.later hB5) (by simp; omega) (by omega))
        clear hB5 c33
        generalize hHX : hexs 16 (bitsV x.time) = hx at *
        have HHX := Lib.hid hHX
        clear hHX
        go_wp2_with fail
        refine HCL.out.mono ?_
        rintro e w6 ⟨rfl, hbd6, hB6, hK6⟩
        have HB6 := Lib.hid (HB5.out.trans (hB6.mono (Nat.le_of_lt hg1)))
        have HW6 := Lib.hid (HW5.out.kept hK6 hgb (by decide))
        have hs6 : b < w6.heap.size := by have := hB6.size; omega
        have HCL2 := Lib.hid (cline_any b b _ [] [] w6 hbd6.bd (by simp; omega) (by omega))
        clear hB6 hK6 hbd6 HCL
        go_wp2_with fail
        refine HCL2.out.mono ?_
        rintro e w7 ⟨rfl, hbd7, hB7, hK7⟩
        have HB7 := Lib.hid (HB6.out.trans (hB7.mono (Nat.le_of_lt hg1)))
        have hW7 := HW6.out.kept hK7 hgb (by decide)
        have hs7 : b < w7.heap.size := by have := hB7.size; omega
        have c34 : w7.cell? ⟨w.heap.size, 34, none⟩ = some (.string ⟨x.note.toArray⟩) := (hW7.at_ 34).trans (encC_34 A c x)
        have HWS := Lib.hid (wstr_any b b _ x.note w7 hbd7.bd (by simp; omega) (by omega))
        clear hB7 hK7 hbd7 HCL2 hW7
        go_wp2_with fail
        refine HWS.out.mono ?_
        rintro e w8 ⟨rfl, hbd8, hB8, -⟩
        have HB8 := Lib.hid (HB7.out.trans (hB8.mono (Nat.le_of_lt hg1)))
        have hs8 : b < w8.heap.size := by have := hB8.size; omega
        have HSS := Lib.hid (bstr_any b b _ w8 hbd8.bd (by omega))
        clear hbd8 hB8 HWS
        go_wp2_with fail
        refine HSS.out.mono ?_
        rintro e w9 ⟨rfl, hB9⟩
        have HB9 := Lib.hid (HB8.out.trans (hB9.mono (Nat.le_of_lt hg1)))
        have HLE : Hid (hd ++ pp ++ [119, 104, 101, 110, 32] ++ hx ++ [10] ++ [] ++ [] ++ [10] ++ x.note = bytesC x) := by
          show _ = _
          unfold bytesC
          rw [HHT.out, HPP.out, HHX.out, HHD.out]
          simp
        rw [HLE.out]
        clear hB9
        go_wp2
        go_ret2
        exact ⟨rfl, HB9.out⟩
theorem bytesC_le (x : Cm) (h : mayC x = true) : (bytesC x).length ≤ 1000 := by
  simp only [mayC, mayP, Bool.and_eq_true, decide_eq_true_eq] at h
  have h1 := linesP_len x.parents
  have h2 := hexOf_len x.tree.l
  have h3 := x.tree.h
  have h4 := hexs_len 16 (bitsV x.time)
  simp only [bytesC, List.length_append, List.length_cons, List.length_nil]
  omega
theorem argN_nil (w : World) : ArgN w none 0 [] := ⟨Nat.le_refl _, Nat.zero_le _, fun _ => rfl, fun h => absurd h (Nat.lt_irrefl _)⟩
theorem parents_le {x : Cm} (h : mayC x = true) : x.parents.length ≤ 4 := by
  simp only [mayC, mayP, Bool.and_eq_true, decide_eq_true_eq] at h
  exact h.1.1.1
end Go.Proofs.YtfaijkgfhdhhbaaGreatDoor
namespace Go.Proofs.YtfaijkgfhdhhbaaGreatDoor
open Go.RowKit

def noC : Cm := ⟨⟨List.replicate 32 0, List.length_replicate⟩, [], 0, []⟩
def treeW : List UInt8 := [116, 114, 101, 101, 32]
def parW : List UInt8 := [112, 97, 114, 101, 110, 116, 32]
/-- The name, the time that a line tells. -/
def idV (tx wd : List UInt8) : Option Nm := if starts tx wd && (getId (behind tx wd)).2 then some (getN (behind tx wd)) else none
def timV (tx : List UInt8) : Option Nat := if starts tx whenW && (getV (behind tx whenW)).2 then some (getV (behind tx whenW)).1 else none
/-- Parents' lines: the names, the line behind them, what is left. -/
def parGo : Nat → List UInt8 → List UInt8 → List Nm → Option (List Nm × List UInt8 × List UInt8)
  | 0, _, _, _ => none
  | f + 1, tx, s, acc =>
    if starts tx parW then
      if acc.length < 4 then
        match idV tx parW with
        | some x =>
          match lineV s with
          | some p => parGo f p.1 p.2 (acc ++ [x])
          | none => none
        | none => none
      else none
    else some (acc, tx, s)
def readC (s : List UInt8) : Option Cm :=
  match lineV s with
  | none => none
  | some p0 =>
    match idV p0.1 treeW with
    | none => none
    | some tr =>
      match lineV p0.2 with
      | none => none
      | some p1 =>
        match parGo 5 p1.1 p1.2 [] with
        | none => none
        | some q =>
          match timV q.2.1 with
          | none => none
          | some tm =>
            match lineV q.2.2 with
            | none => none
            | some p2 => if p2.1 = [] then (if mayC ⟨tr, q.1, tm, p2.2⟩ then some ⟨tr, q.1, tm, p2.2⟩ else none) else none
theorem starts_put (wd r : List UInt8) : starts (wd ++ r) wd = true := by
  unfold starts Lib.hasPrefix
  rw [List.isPrefixOf_iff_prefix]
  exact ⟨r, rfl⟩
theorem behind_put (wd r : List UInt8) : behind (wd ++ r) wd = r := by
  unfold behind Lib.trimPrefix
  rw [if_pos (show Lib.hasPrefix (wd ++ r) wd = true from starts_put wd r), List.drop_left]
theorem starts_back (tx wd : List UInt8) (h : starts tx wd = true) : tx = wd ++ behind tx wd := by
  have h' := h
  unfold starts Lib.hasPrefix at h
  rw [List.isPrefixOf_iff_prefix] at h
  obtain ⟨r, rfl⟩ := h
  rw [behind_put]
theorem idV_put (x : Nm) (wd : List UInt8) : idV (wd ++ hexOf x.l) wd = some x := by
  unfold idV
  rw [starts_put, behind_put, getId_hex x.l x.h, getN_hex]
  rfl
theorem may_bits (t : Nat) (h : Flo.may t = true) : bitsV t = t := by
  unfold bitsV
  rw [if_neg]
  intro hn
  unfold Flo.may Flo.isFin at h
  unfold Flo.isNaN at hn
  simp only [Bool.and_eq_true, decide_eq_true_eq] at h hn
  omega
theorem timV_put (t : Nat) (h : t < 18446744073709551616) (hm : Flo.may t = true) : timV (whenW ++ hexs 16 (bitsV t)) = some t := by
  unfold timV
  rw [starts_put, behind_put, may_bits t hm]
  unfold getV
  rw [if_pos (hexs_len 16 t), get_put t h hm]
  rfl
theorem hex_no10 (l : List UInt8) : (10 : UInt8) ∉ hexOf l := by
  intro h
  have := hexOf_digits l 10 h
  revert this
  decide +kernel
theorem hexs_no10 : ∀ (j v : Nat), (10 : UInt8) ∉ hexs j v
  | 0, _, h => by cases h
  | j + 1, v, h => by
    unfold hexs at h
    rcases List.mem_cons.1 h with h | h
    · have : ∀ d, d < 16 → hx d ≠ 10 := by decide +kernel
      exact this _ (Nat.mod_lt _ (by decide)) h.symm
    · exact hexs_no10 j v h
theorem lines_put (hs z : List UInt8) (h10 : (10 : UInt8) ∉ hs) (hl : hs.length ≤ 60) : ∀ (ps : List Nm), ∃ tx s, lineV (ps.flatMap lineP ++ whenW ++ hs ++ 10 :: z) = some (tx, s) ∧ ∀ (f : Nat) (acc : List Nm), ps.length < f → acc.length + ps.length ≤ 4 → parGo f tx s acc = some (acc ++ ps, whenW ++ hs, z)
  | [] => by
    refine ⟨whenW ++ hs, z, ?_, fun f acc hf _ => ?_⟩
    · have := lineV_put (whenW ++ hs) z (by
        intro h
        rcases List.mem_append.1 h with h | h
        · revert h
          decide
        · exact h10 h) (by rw [List.length_append]; show 5 + _ ≤ 71; omega)
      simpa using this
    · cases f with
      | zero => exact absurd hf (Nat.not_lt_zero _)
      | succ f =>
        unfold parGo
        rw [if_neg (by
          show ¬ (starts (119 :: ([104, 101, 110, 32] ++ hs)) (112 :: [97, 114, 101, 110, 116, 32])) = true
          unfold starts Lib.hasPrefix
          simp [List.isPrefixOf])]
        simp
  | x :: ps => by
    obtain ⟨tx, s, h1, h2⟩ := lines_put hs z h10 hl ps
    refine ⟨parW ++ hexOf x.l, ps.flatMap lineP ++ whenW ++ hs ++ 10 :: z, ?_, fun f acc hf ha => ?_⟩
    · have := lineV_put (parW ++ hexOf x.l) (ps.flatMap lineP ++ whenW ++ hs ++ 10 :: z) (by
        intro h
        rcases List.mem_append.1 h with h | h
        · revert h
          decide
        · exact hex_no10 _ h) (by rw [List.length_append, hexOf_len, x.h]; decide)
      rw [← this]
      congr 1
      rw [List.flatMap_cons]
      simp [lineP, parW]
    · cases f with
      | zero => exact absurd hf (Nat.not_lt_zero _)
      | succ f =>
        rw [List.length_cons] at hf ha
        unfold parGo
        rw [if_pos (starts_put _ _), if_pos (by omega), idV_put]
        dsimp only
        rw [h1]
        dsimp only
        rw [h2 f (acc ++ [x]) (by omega) (by rw [List.length_append]; simp; omega)]
        simp
/-- What Put told is read. -/
theorem readC_put (x : Cm) (ht : x.time < 18446744073709551616) (hm : mayC x = true) : readC (bytesC x) = some x := by
  have hm' := hm
  unfold mayC at hm
  simp only [Bool.and_eq_true] at hm
  obtain ⟨⟨hp, hf⟩, -⟩ := hm
  unfold mayP at hp
  simp only [Bool.and_eq_true, decide_eq_true_eq] at hp
  have hp4 := hp.1
  obtain ⟨tx, s, h1, h2⟩ := lines_put (hexs 16 (bitsV x.time)) (10 :: x.note) (hexs_no10 _ _) (by rw [hexs_len]; decide) x.parents
  have h0 := lineV_put (treeW ++ hexOf x.tree.l) (x.parents.flatMap lineP ++ whenW ++ hexs 16 (bitsV x.time) ++ 10 :: 10 :: x.note) (by
    intro h
    rcases List.mem_append.1 h with h | h
    · revert h
      decide
    · exact hex_no10 _ h) (by rw [List.length_append, hexOf_len, x.tree.h]; decide)
  have e0 : bytesC x = (treeW ++ hexOf x.tree.l) ++ 10 :: (x.parents.flatMap lineP ++ whenW ++ hexs 16 (bitsV x.time) ++ 10 :: 10 :: x.note) := by
    unfold bytesC treeW whenW
    simp
  have h3 := lineV_put [] x.note (by simp) (by simp)
  rw [List.nil_append] at h3
  unfold readC
  rw [e0, h0]
  dsimp only
  rw [idV_put]
  dsimp only
  rw [h1]
  dsimp only
  rw [h2 5 [] (by omega) (by simpa using hp4)]
  dsimp only
  rw [timV_put x.time ht hf]
  dsimp only
  rw [h3]
  dsimp only
  rw [if_pos rfl, List.nil_append, if_pos hm']
theorem readC_may (s : List UInt8) (x : Cm) (h : readC s = some x) : mayC x = true := by
  unfold readC at h
  cases h0 : lineV s with
  | none => simp [h0] at h
  | some p0 =>
    simp only [h0] at h
    cases h1 : idV p0.1 treeW with
    | none => simp [h1] at h
    | some tr =>
      simp only [h1] at h
      cases h2 : lineV p0.2 with
      | none => simp [h2] at h
      | some p1 =>
        simp only [h2] at h
        cases h3 : parGo 5 p1.1 p1.2 [] with
        | none => simp [h3] at h
        | some q =>
          simp only [h3] at h
          cases h4 : timV q.2.1 with
          | none => simp [h4] at h
          | some tm =>
            simp only [h4] at h
            cases h5 : lineV q.2.2 with
            | none => simp [h5] at h
            | some p2 =>
              simp only [h5] at h
              by_cases h6 : p2.1 = []
              · rw [if_pos h6] at h
                by_cases h7 : mayC ⟨tr, q.1, tm, p2.2⟩ = true
                · rw [if_pos h7] at h
                  injection h with h
                  rw [← h]
                  exact h7
                · rw [if_neg h7] at h
                  cases h
              · rw [if_neg h6] at h
                cases h
theorem cid_opt (tx wd : List UInt8) (w : World) : Calls Tryz.prog 91 #[.string ⟨tx.toArray⟩, .string ⟨wd.toArray⟩] w fun e w' => ((∃ x, idV tx wd = some x ∧ e = .returned (.agg (encN x).toArray)) ∨ (idV tx wd = none ∧ e = .panicked (fault 1))) ∧ Below w.heap.size w w' := by
  refine (cid_any tx wd w).mono ?_
  rintro e w' ⟨he, hb⟩
  refine ⟨?_, hb⟩
  unfold idV
  by_cases h : (starts tx wd && (getId (behind tx wd)).2) = true
  · rw [if_pos h] at he ⊢
    exact .inl ⟨_, rfl, he⟩
  · rw [if_neg h] at he ⊢
    exact .inr ⟨rfl, he⟩
theorem ctime_opt (tx : List UInt8) (w : World) : Calls Tryz.prog 94 #[.string ⟨tx.toArray⟩] w fun e w' => ((∃ t, timV tx = some t ∧ e = .returned (.float .f64 t)) ∨ (timV tx = none ∧ e = .panicked (fault 1))) ∧ w = w' := by
  refine (ctime_any tx w).mono ?_
  rintro e w' ⟨he, hb⟩
  refine ⟨?_, hb⟩
  unfold timV
  by_cases h : (starts tx whenW && (getV (behind tx whenW)).2) = true
  · rw [if_pos h] at he ⊢
    exact .inl ⟨_, rfl, he⟩
  · rw [if_neg h] at he ⊢
    exact .inr ⟨rfl, he⟩
end Go.Proofs.YtfaijkgfhdhhbaaGreatDoor
namespace Go.Proofs.YtfaijkgfhdhhbaaGreatDoor
open Go.RowKit

instance : DecidableEq En := fun a b =>
  if h : a.name = b.name ∧ a.dir = b.dir ∧ a.id = b.id then isTrue (by obtain ⟨h1, h2, h3⟩ := h; cases a; cases b; simp_all) else isFalse (fun e => h (by rw [e]; exact ⟨rfl, rfl, rfl⟩))
theorem part_id (e : En) (w : World) : (part 24 (encE e).toArray 2).run Tryz.prog w = .ok (.agg (encN e.id).toArray) w := by
  have hagg : (isAgg 24).run Tryz.prog w = .ok true w := Tryz.isAgg24 w
  have hl : List.take 32 (List.drop 2 (encE e)) = encN e.id := by
    show (encN e.id).take 32 = encN e.id
    exact List.take_of_length_le (by rw [encN_len]; exact Nat.le_refl _)
  simp [part, hagg, Tryz.sizeOf24, encE_len]
  exact hl
theorem eqParts (x y : En) : ((x.name == y.name) && ((x.dir == y.dir) && decide (x.id.l = y.id.l))) = decide (x = y) := by
  rw [Bool.eq_iff_iff]
  simp only [Bool.and_eq_true, beq_iff_eq, decide_eq_true_eq]
  constructor
  · rintro ⟨h1, h2, h3⟩
    have h3 := Nm.same h3
    cases x; cases y
    simp_all
  · rintro rfl
    exact ⟨rfl, rfl, rfl⟩
theorem equalIn_en (x y : En) (w : World) : (Op.equalIn 10000 49 (.agg (encE x).toArray) (.agg (encE y).toArray)).run Tryz.prog w = .ok (decide (x = y)) w := by
  have hS : Tryz.prog.underlying 49 = some (.struct (Tryz.prog.fieldsOf 49)) := by kernel_rfl
  have hp : Tryz.prog.stoodInHeld 49 = false := by kernel_rfl
  have p0 : ∀ (e : En) (w : World), (part 9 (encE e).toArray 0).run Tryz.prog w = .ok (.string ⟨e.name.toArray⟩) w := by
    intro e w
    have hagg : (isAgg 9).run Tryz.prog w = .ok false w := by unfold isAgg; rw [Sem.run_bind, run_underlying Tryz.underlying9 w]; rfl
    have h0 : (encE e).toArray[0]? = some (.string ⟨e.name.toArray⟩) := rfl
    simp [part, hagg, h0]
  have p1 : ∀ (e : En) (w : World), (part 4 (encE e).toArray 1).run Tryz.prog w = .ok (.bool e.dir) w := by
    intro e w
    have hagg : (isAgg 4).run Tryz.prog w = .ok false w := by unfold isAgg; rw [Sem.run_bind, run_underlying Tryz.underlying4 w]; rfl
    have h0 : (encE e).toArray[1]? = some (.bool e.dir) := rfl
    simp [part, hagg, h0]
  have q0 : (Op.equalIn 9999 9 (.string ⟨x.name.toArray⟩) (.string ⟨y.name.toArray⟩)).run Tryz.prog w = .ok (x.name == y.name) w := by
    have := run_equalIn_string (P := Tryz.prog) w 9998 9 ⟨x.name.toArray⟩ ⟨y.name.toArray⟩ Tryz.underlying9
    rw [this]
    simp [ByteArray.toList_eq]
  have q1 : (Op.equalIn 9999 4 (.bool x.dir) (.bool y.dir)).run Tryz.prog w = .ok (x.dir == y.dir) w := run_equalIn_bool' (P := Tryz.prog) w 9998 4 x.dir y.dir Tryz.underlying4
  have q2 := equalIn_bytes 24 32 9997 Tryz.underlying24 x.id.l y.id.l x.id.h y.id.h w
  rw [show (10000 : Nat) = 9999 + 1 from rfl, run_equalIn_agg (P := Tryz.prog) w 9999 49 _ _ hS hp, ← eqParts]
  simp only [Program.fieldsOf, Tryz.underlying49]
  generalize (x.name == y.name) = b0 at *
  generalize (x.dir == y.dir) = b1 at *
  have q2 : (Op.equalIn 9999 24 (.agg (encN x.id).toArray) (.agg (encN y.id).toArray)).run Tryz.prog w = .ok (decide (x.id.l = y.id.l)) w := q2
  generalize decide (x.id.l = y.id.l) = b2 at *
  cases b0 <;> cases b1 <;> cases b2 <;> simp [Op.eqFields, Sem.run_bind, p0, p1, part_id, q0, q1, q2]
theorem neq_en (x y : En) (w : World) : (binOp .neq 49 (.agg (encE x).toArray) (.agg (encE y).toArray)).run Tryz.prog w = .ok (.bool (!decide (x = y))) w := by
  rw [run_neq_struct (P := Tryz.prog) w, equalIn_en x y w]
  rfl
theorem eql_en (x y : En) (w : World) : (binOp .eql 49 (.agg (encE x).toArray) (.agg (encE y).toArray)).run Tryz.prog w = .ok (.bool (decide (x = y))) w := by
  rw [run_eql_struct (P := Tryz.prog) w, equalIn_en x y w]
  rfl
theorem eqnm_at (a b : List Nm) (k : Nat) (h1 : k < a.length) (h2 : k < b.length) (h : a.take k = b.take k) : (a.getD k default = b.getD k default ↔ a.take (k + 1) = b.take (k + 1)) := by
  have e1 : a.getD k default = a[k] := by simp [List.getD, List.getElem?_eq_getElem h1]
  have e2 : b.getD k default = b[k] := by simp [List.getD, List.getElem?_eq_getElem h2]
  rw [List.take_succ_eq_append_getElem h1, List.take_succ_eq_append_getElem h2, h, e1, e2]
  constructor
  · intro e
    rw [e]
  · intro e
    have := List.append_cancel_left e
    injection this
set_option maxRecDepth 100000 in
set_option maxHeartbeats 4000000 in
theorem eqnm_any (A : Option Addr) (c : Nat) (A2 : Option Addr) (c2 : Nat) (a b : List Nm) (w : World) (hA : ArgN w A c a) (hA2 : ArgN w A2 c2 b) :
    Calls Tryz.prog 64 #[.slice A a.length c, .slice A2 b.length c2] w fun e w' => e = .returned (.bool (decide (a = b))) ∧ ∃ q, w' = w.drewN q := by
  have HA := Lib.hid hA
  have HA2 := Lib.hid hA2
  have hlc := hA.1
  have hlc2 := hA2.1
  have hcm := hA.2.1
  have hcm2 := hA2.2.1
  unfold maxLen at hcm hcm2
  clear hA hA2
  by_cases hll : a.length = b.length
  case neg =>
    have hd : (((a.length : Int) != (b.length : Int))) = true := by simp; omega
    have HF : Hid (decide (a = b) = false) := by show _ = _; exact decide_eq_false (fun e => hll (by rw [e]))
    clear hll
    go_enter Tryz.func64, Tryz.ntmps64
    go_wp2
    go_ret
    exact ⟨by rw [HF.out]; rfl, 0, rfl⟩
  have hd : (((a.length : Int) != (b.length : Int))) = false := by simp; omega
  have HLL := Lib.hid hll
  clear hll
  go_enter Tryz.func64, Tryz.ntmps64
  go_wp2
  go_loopg [5, 13] a.length (fun g _ s13 wr => ∃ k q : Nat, k ≤ a.length ∧ a.length - k ≤ g ∧ s13 = .int .i64 k ∧ Hid (wr = w.drewN q) ∧ Hid (a.take k = b.take k))
  case atStart => exact ⟨0, 0, Nat.zero_le _, by omega, rfl, Lib.hid rfl, Lib.hid rfl⟩
  case round =>
    obtain ⟨k, q, hk, hg, rfl, hwr, htk⟩ := hrel
    by_cases hlt : k < a.length
    · have hlt' : (k : Int) < (a.length : Int) := by omega
      have hlt2 : k < b.length := by have := HLL.out; omega
      have hlt3 : (k : Int) < (b.length : Int) := by omega
      obtain ⟨bb, o, rfl, hr⟩ := HA.out.2.2.2 (by omega)
      obtain ⟨bb2, o2, rfl, hr2⟩ := HA2.out.2.2.2 (by omega)
      have hrk := hr k hlt
      have hrk2 := hr2 k hlt2
      have HAT := Lib.hid (eqnm_at a b k hlt hlt2 htk.out)
      obtain ⟨y, hy⟩ : ∃ y, y = a.getD k default := ⟨_, rfl⟩
      obtain ⟨z, hz⟩ : ∃ z, z = b.getD k default := ⟨_, rfl⟩
      rw [← hy] at hrk HAT
      rw [← hz] at hrk2 HAT
      have HLX : Hid (∀ W, (∃ n, W = wr.drewN n) → W.rangeAt bb (o + k * 32) (encN y)) := by rintro W ⟨n, rfl⟩; rw [hwr.out]; exact hrk
      have HLY : Hid (∀ W, (∃ n, W = wr.drewN n) → W.rangeAt bb2 (o2 + k * 32) (encN z)) := by rintro W ⟨n, rfl⟩; rw [hwr.out]; exact hrk2
      have hneq := neq_nm y z
      have HYI := Lib.hid (infoX y)
      have HZI := Lib.hid (infoX z)
      clear hy hz hr hrk hr2 hrk2
      cases hq : decide (y = z) with
      | true =>
        rw [hq] at hneq
        have HN : Hid (a.take (k + 1) = b.take (k + 1)) := HAT.out.1 (by simpa using hq)
        clear hq
        go_wp2_with fail
        refine wp_region_quiet_lit (by kernel_rfl) (by kernel_rfl) ?_
        repeat (first
          | go_big_quiet_step (fail)
          | (refine q_loadm _ _ rfl (by rfl) bb (o + k * 32) (encN y) rfl _ Tryz.underlying24 rfl HYI.out HLX.out ?_; simp only [Act.put]; go_simp)
          | (refine q_loadm _ _ rfl (by rfl) bb2 (o2 + k * 32) (encN z) rfl _ Tryz.underlying24 rfl HZI.out HLY.out ?_; simp only [Act.put]; go_simp))
        refine wpQuiet_nil ?_
        intro nq
        go_wp2
        go_roundg (a.length - (k + 1))
        case measure => omega
        case rel =>
          refine ⟨k + 1, q + nq, by omega, by omega, by go_num, Lib.hid ?_, HN⟩
          rw [hwr.out, World.drewN_drewN]
      | false =>
        rw [hq] at hneq
        have HF : Hid (decide (a = b) = false) := by
          show _ = _
          refine decide_eq_false (fun e => ?_)
          have h9 := HAT.out.2 (by rw [e])
          simp [h9] at hq
        clear hq
        go_wp2_with fail
        refine wp_region_quiet_lit (by kernel_rfl) (by kernel_rfl) ?_
        repeat (first
          | go_big_quiet_step (fail)
          | (refine q_loadm _ _ rfl (by rfl) bb (o + k * 32) (encN y) rfl _ Tryz.underlying24 rfl HYI.out HLX.out ?_; simp only [Act.put]; go_simp)
          | (refine q_loadm _ _ rfl (by rfl) bb2 (o2 + k * 32) (encN z) rfl _ Tryz.underlying24 rfl HZI.out HLY.out ?_; simp only [Act.put]; go_simp))
        refine wpQuiet_nil ?_
        intro nq
        go_wp2
        go_ret
        refine ⟨by rw [HF.out]; rfl, q + nq, ?_⟩
        rw [hwr.out, World.drewN_drewN]
    · have hk2 : k = a.length := by omega
      have HT : Hid (decide (a = b) = true) := by
        show _ = _
        refine decide_eq_true ?_
        have h9 := htk.out
        rw [hk2, List.take_length, HLL.out, List.take_length] at h9
        exact h9
      clear htk
      subst hk2
      go_wp2
      go_ret
      exact ⟨by rw [HT.out]; rfl, q, hwr.out⟩
theorem eqen_at (a b : List En) (k : Nat) (h1 : k < a.length) (h2 : k < b.length) (h : a.take k = b.take k) : (a.getD k default = b.getD k default ↔ a.take (k + 1) = b.take (k + 1)) := by
  have e1 : a.getD k default = a[k] := by simp [List.getD, List.getElem?_eq_getElem h1]
  have e2 : b.getD k default = b[k] := by simp [List.getD, List.getElem?_eq_getElem h2]
  rw [List.take_succ_eq_append_getElem h1, List.take_succ_eq_append_getElem h2, h, e1, e2]
  constructor
  · intro e
    rw [e]
  · intro e
    have := List.append_cancel_left e
    injection this
set_option maxRecDepth 100000 in
set_option maxHeartbeats 4000000 in
theorem eqen_any (A : Option Addr) (c : Nat) (A2 : Option Addr) (c2 : Nat) (a b : List En) (w : World) (hA : ArgE w A c a) (hA2 : ArgE w A2 c2 b) :
    Calls Tryz.prog 38 #[.slice A a.length c, .slice A2 b.length c2] w fun e w' => e = .returned (.bool (decide (a = b))) ∧ ∃ q, w' = w.drewN q := by
  have HA := Lib.hid hA
  have HA2 := Lib.hid hA2
  have hlc := hA.1
  have hlc2 := hA2.1
  have hcm := hA.2.1
  have hcm2 := hA2.2.1
  unfold maxLen at hcm hcm2
  clear hA hA2
  by_cases hll : a.length = b.length
  case neg =>
    have hd : (((a.length : Int) != (b.length : Int))) = true := by simp; omega
    have HF : Hid (decide (a = b) = false) := by show _ = _; exact decide_eq_false (fun e => hll (by rw [e]))
    clear hll
    go_enter Tryz.func38, Tryz.ntmps38
    go_wp2
    go_ret
    exact ⟨by rw [HF.out]; rfl, 0, rfl⟩
  have hd : (((a.length : Int) != (b.length : Int))) = false := by simp; omega
  have HLL := Lib.hid hll
  clear hll
  go_enter Tryz.func38, Tryz.ntmps38
  go_wp2
  go_loopg [5, 13] a.length (fun g _ s13 wr => ∃ k q : Nat, k ≤ a.length ∧ a.length - k ≤ g ∧ s13 = .int .i64 k ∧ Hid (wr = w.drewN q) ∧ Hid (a.take k = b.take k))
  case atStart => exact ⟨0, 0, Nat.zero_le _, by omega, rfl, Lib.hid rfl, Lib.hid rfl⟩
  case round =>
    obtain ⟨k, q, hk, hg, rfl, hwr, htk⟩ := hrel
    by_cases hlt : k < a.length
    · have hlt' : (k : Int) < (a.length : Int) := by omega
      have hlt2 : k < b.length := by have := HLL.out; omega
      have hlt3 : (k : Int) < (b.length : Int) := by omega
      obtain ⟨bb, o, rfl, hr⟩ := HA.out.2.2.2 (by omega)
      obtain ⟨bb2, o2, rfl, hr2⟩ := HA2.out.2.2.2 (by omega)
      have hrk := hr k hlt
      have hrk2 := hr2 k hlt2
      have HAT := Lib.hid (eqen_at a b k hlt hlt2 htk.out)
      obtain ⟨y, hy⟩ : ∃ y, y = a.getD k default := ⟨_, rfl⟩
      obtain ⟨z, hz⟩ : ∃ z, z = b.getD k default := ⟨_, rfl⟩
      rw [← hy] at hrk HAT
      rw [← hz] at hrk2 HAT
      have HLX : Hid (∀ W, (∃ n, W = wr.drewN n) → W.rangeAt bb (o + k * 34) (encE y)) := by rintro W ⟨n, rfl⟩; rw [hwr.out]; exact hrk
      have HLY : Hid (∀ W, (∃ n, W = wr.drewN n) → W.rangeAt bb2 (o2 + k * 34) (encE z)) := by rintro W ⟨n, rfl⟩; rw [hwr.out]; exact hrk2
      have hneq := neq_en y z
      have HYI := Lib.hid (infoE_l y)
      have HZI := Lib.hid (infoE_l z)
      clear hy hz hr hrk hr2 hrk2
      cases hq : decide (y = z) with
      | true =>
        rw [hq] at hneq
        have HN : Hid (a.take (k + 1) = b.take (k + 1)) := HAT.out.1 (by simpa using hq)
        clear hq
        go_wp2_with fail
        refine wp_region_quiet_lit (by kernel_rfl) (by kernel_rfl) ?_
        repeat (first
          | go_big_quiet_step (fail)
          | (refine q_loadm _ _ rfl (by rfl) bb (o + k * 34) (encE y) rfl _ Tryz.underlying49 rfl HYI.out HLX.out ?_; simp only [Act.put]; go_simp)
          | (refine q_loadm _ _ rfl (by rfl) bb2 (o2 + k * 34) (encE z) rfl _ Tryz.underlying49 rfl HZI.out HLY.out ?_; simp only [Act.put]; go_simp))
        refine wpQuiet_nil ?_
        intro nq
        go_wp2
        go_roundg (a.length - (k + 1))
        case measure => omega
        case rel =>
          refine ⟨k + 1, q + nq, by omega, by omega, by go_num, Lib.hid ?_, HN⟩
          rw [hwr.out, World.drewN_drewN]
      | false =>
        rw [hq] at hneq
        have HF : Hid (decide (a = b) = false) := by
          show _ = _
          refine decide_eq_false (fun e => ?_)
          have h9 := HAT.out.2 (by rw [e])
          simp [h9] at hq
        clear hq
        go_wp2_with fail
        refine wp_region_quiet_lit (by kernel_rfl) (by kernel_rfl) ?_
        repeat (first
          | go_big_quiet_step (fail)
          | (refine q_loadm _ _ rfl (by rfl) bb (o + k * 34) (encE y) rfl _ Tryz.underlying49 rfl HYI.out HLX.out ?_; simp only [Act.put]; go_simp)
          | (refine q_loadm _ _ rfl (by rfl) bb2 (o2 + k * 34) (encE z) rfl _ Tryz.underlying49 rfl HZI.out HLY.out ?_; simp only [Act.put]; go_simp))
        refine wpQuiet_nil ?_
        intro nq
        go_wp2
        go_ret
        refine ⟨by rw [HF.out]; rfl, q + nq, ?_⟩
        rw [hwr.out, World.drewN_drewN]
    · have hk2 : k = a.length := by omega
      have HT : Hid (decide (a = b) = true) := by
        show _ = _
        refine decide_eq_true ?_
        have h9 := htk.out
        rw [hk2, List.take_length, HLL.out, List.take_length] at h9
        exact h9
      clear htk
      subst hk2
      go_wp2
      go_ret
      exact ⟨by rw [HT.out]; rfl, q, hwr.out⟩
end Go.Proofs.YtfaijkgfhdhhbaaGreatDoor
namespace Go.Proofs.YtfaijkgfhdhhbaaGreatDoor
open Go.RowKit

/-- The same commits; the same objects. -/
def eqC (a b : Cm) : Bool := decide (a.tree = b.tree) && decide (a.parents = b.parents) && (bitsV a.time == bitsV b.time) && (a.note == b.note)
def eqO (a b : Ob) : Bool := decide (a.kind = b.kind) && (a.blob == b.blob) && decide (a.entries = b.entries) && eqC a.commit b.commit
/-- What is of the kind may be so. -/
def bodyO (x : Ob) : Bool := if x.kind = 1 then decide (x.blob.length ≤ 1000) else if x.kind = 2 then mayT x.entries else if x.kind = 3 then mayC x.commit else false
/-- An object without what is not of its kind. -/
def bareO (x : Ob) : Ob := if x.kind = 1 then ⟨x.kind, x.blob, [], noC⟩ else if x.kind = 2 then ⟨x.kind, [], x.entries, noC⟩ else if x.kind = 3 then ⟨x.kind, [], [], x.commit⟩ else ⟨x.kind, [], [], noC⟩
def mayO' (x : Ob) : Bool := bodyO x && eqO x (bareO x)
def bytesO (x : Ob) : List UInt8 := if x.kind = 2 then encT x.entries else if x.kind = 3 then bytesC x.commit else x.blob
theorem eqC_refl (a : Cm) : eqC a a = true := by simp [eqC]
theorem eqO_refl (a : Ob) : eqO a a = true := by simp [eqO, eqC_refl]
end Go.Proofs.YtfaijkgfhdhhbaaGreatDoor

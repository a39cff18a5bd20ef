/-
  tree.mark, tree.Put, walked.
  The reference's Tree, walked.
  tree.name, isTree, walked: what is read of an entry; faults of whatever number.
-/
import Derived.Test.YtfaijkgfhdhhbaaGreatDoorMgj
import Derived.Test.YtfaijkgfhdhhbaaGreatDoorMgc
import Derived.Test.YtfaijkgfhdhhbaaGreatDoorMgg
namespace Go.Proofs.YtfaijkgfhdhhbaaGreatDoor
open Go.RowKit

def markOf (d : Bool) : UInt8 := if d then 100 else 102
set_option maxRecDepth 100000 in
theorem mark_any (e : En) (w : World) : Calls Tryz.prog 47 #[.agg (encE e).toArray] w fun r w' => r = .returned (.int .u8 ((markOf e.dir).toNat : Int)) ∧ Below w.heap.size w w' := by
  have hd := whole_dir (Whole.made w 49 (encE e).toArray)
  have HB := Lib.hid ((Below.refl w.heap.size w).alloc (Nat.le_refl _) (.cells (encE e).toArray 49))
  generalize (encE e).toArray = cs at *
  cases hed : e.dir with
  | true =>
    rw [hed] at hd
    clear hed
    go_enter Tryz.func47, Tryz.ntmps47
    go_wp2
    go_ret
    exact ⟨rfl, HB.out⟩
  | false =>
    rw [hed] at hd
    clear hed
    go_enter Tryz.func47, Tryz.ntmps47
    go_wp2
    go_ret
    exact ⟨rfl, HB.out⟩
theorem own_later' {w w' : World} {B : Nat} {v : Value} {n : Nat} {xs : List Value} {e : TypeId} {k : Nat} (h : w.ownsRow B e k v n xs) (hb : Below w.heap.size w w') : w'.ownsRow B e k v n xs := by
  refine ⟨h.1, ?_⟩
  rcases h.2 with h0 | ⟨g, cap, cur, hv, hB, hg, rest⟩
  · exact .inl h0
  · exact .inr ⟨g, cap, cur, hv, hB, (hb.block g (Array.getElem?_eq_some_iff.1 hg).1).trans hg, rest⟩
theorem bat_later {w w' : World} {B b : Nat} {p : Value} {bs : List Value} (h : Lib.BuilderAt BT 5 B b p bs w) (hb : Below w.heap.size w w') : Lib.BuilderAt BT 5 B b p bs w' := by
  have hlt := h.lt
  obtain ⟨hB, v, hbk, hown, hne⟩ := h
  exact ⟨hB, v, (hb.block b hlt).trans hbk, own_later' hown hb, hne⟩
theorem Bd.later {w w' : World} {B b : Nat} {l : List UInt8} (h : Bd w B b l) (hb : Below w.heap.size w w') : Bd w' B b l := by
  rcases h with h | h
  · exact .inl (bat_later h hb)
  · exact .inr (bat_later h hb)
theorem Whole.kept {w w' : World} {g b : Nat} {t : TypeId} {cs : Array Value} (hw : Whole w g t cs) (hk : Kp b w w') (hg : g ≠ b) (ht : t ≠ 5) : Whole w' g t cs :=
  hk g _ hw (fun e => hg (by injection e)) (fun c fz e => ht (by injection e))
theorem encT_take (es : List En) (k : Nat) (h : k < es.length) : encT (es.take (k + 1)) = encT (es.take k) ++ bytesE (es.getD k default) := by
  rw [List.take_succ_eq_append_getElem h, encT_snoc]
  simp [List.getD, List.getElem?_eq_getElem h]
set_option maxRecDepth 100000 in
set_option maxHeartbeats 4000000 in
theorem tput_any (A : Option Addr) (c : Nat) (es : List En) (w : World) (hA : ArgE w A c es) (hl : es.length ≤ 1048576) :
    Calls Tryz.prog 21 #[.slice A es.length c] w fun e w' => e = .returned (.tuple #[.string ⟨(if mayT es then encT es else []).toArray⟩, .bool (mayT es)]) ∧ Below w.heap.size w w' := by
  have HM := Lib.hid (tmay_any A c es w hA hl)
  have HA := Lib.hid hA
  have hlc := hA.1
  clear hA
  cases hm : mayT es with
  | false =>
    rw [hm] at HM
    clear hm
    go_enter Tryz.func21, Tryz.ntmps21
    go_wp2_with fail
    refine HM.out.mono ?_
    rintro e w1 ⟨rfl, hB⟩
    have HB := Lib.hid hB
    clear hB HM
    go_wp2
    go_ret2
    exact ⟨rfl, HB.out⟩
  | true =>
    have hlen : es.length ≤ 20 := by simp [mayT] at hm; exact hm.1
    have hnl : ∀ k, k < es.length → (es.getD k default).name.length ≤ 20 := by
      intro k hk
      simp only [mayT, Bool.and_eq_true] at hm
      have := risesTo_at es hm.2 hk
      simp only [okAt, okName, Bool.and_eq_true, decide_eq_true_eq] at this
      exact this.1.1.1.1.2
    have HNL := Lib.hid hnl
    rw [hm] at HM
    clear hm hnl
    have HEL : Hid (∀ k, k ≤ es.length → (encT (es.take k)).length ≤ k * 55) := by
      intro k
      induction k with
      | zero => intro _; simp [encT]
      | succ k ih =>
        intro h
        rw [encT_take es k (by omega), List.length_append, bytesE_len]
        have := ih (by omega)
        have := HNL.out k (by omega)
        omega
    go_enter Tryz.func21, Tryz.ntmps21
    go_wp2_with fail
    refine HM.out.mono ?_
    rintro e w1 ⟨rfl, hB⟩
    have HB := Lib.hid hB
    clear hB HM
    have hsb := HB.out.size
    obtain ⟨b, hb⟩ : ∃ b, b = w1.heap.size := ⟨_, rfl⟩
    have HBD0 : Hid (Bd (w1.alloc (.cells #[.pointer none, .slice none 0 0] 80)) b b []) := by rw [hb]; exact bd_new w1
    have HB0 := Lib.hid (HB.out.alloc HB.out.size (.cells #[.pointer none, .slice none 0 0] 80))
    have hs2 : (w1.alloc (.cells #[.pointer none, .slice none 0 0] 80)).heap.size = b + 1 := by rw [hb]; simp
    rw [← hb] at hsb
    go_wp2
    rw [← hb]
    generalize w1.alloc (.cells #[.pointer none, .slice none 0 0] 80) = w2 at *
    clear hb HB
    go_loopg [6, 12] es.length (fun g _ s12 wr => ∃ k : Nat, k ≤ es.length ∧ es.length - k ≤ g ∧ s12 = .int .i64 k ∧ Hid (Below w.heap.size w wr) ∧ b < wr.heap.size ∧ Hid (Bd wr b b (encT (es.take k))))
    case atStart => exact ⟨0, Nat.zero_le _, by omega, rfl, HB0, by omega, HBD0⟩
    case round =>
      obtain ⟨k, hk, hg, rfl, hwr, hsz, hbd⟩ := hrel
      by_cases hlt : k < es.length
      · have hlt' : (k : Int) < (es.length : Int) := by omega
        obtain ⟨bb, o, rfl, hr⟩ := (HA.out.later hwr.out).2.2.2 (by omega)
        obtain ⟨y, hy⟩ : ∃ y, y = es.getD k default := ⟨_, rfl⟩
        have hrk := hr k hlt
        rw [← hy] at hrk
        have HRK := Lib.hid hrk
        have HET := Lib.hid (encT_take es k hlt)
        have hle := HEL.out k hk
        have hnl := HNL.out k hlt
        rw [← hy] at HET hnl
        clear hr hrk hy
        generalize encT (es.take k) = pre at *
        go_wp2_with (first
          | (refine wpList_load_mid rfl 49 _ rfl bb (o + k * 34) rfl (encE y) _ HRK.out Tryz.underlying49 rfl (infoE_l y) ?_)
          | (refine wpList_store_whole rfl 49 _ _ rfl wr.heap.size (encE y).toArray rfl rfl 49 _ (Whole.made wr _ _) (infoE_s y) (by rw [encE_size]; kernel_rfl) (encE_all y) ?_; intro w3 hWn hGn; have HW3 := Lib.hid hWn; have D3 := Lib.hid (made_below' hGn); clear hWn hGn)
          | (refine wpList_load_row rfl 49 _ rfl wr.heap.size rfl 49 (encE y).toArray (0, 0) _ HW3.out Tryz.underlying49 rfl (infoE_s y) ?_))
        refine (mark_any y _).mono ?_
        rintro e w4 ⟨rfl, hB4⟩
        have hgb : wr.heap.size ≠ b := by omega
        have HBD4 := Lib.hid ((hbd.out.later D3.out).later hB4)
        have HW4 := Lib.hid (HW3.out.below hB4 HW3.out.lt)
        have HB4 := Lib.hid (hwr.out.trans ((D3.out.trans (hB4.mono D3.out.size)).mono hwr.out.size))
        have hs4 : b < w4.heap.size := by have := D3.out.size; have := hB4.size; omega
        clear hB4
        go_wp2_with fail
        refine (wbyte_any b b pre (markOf y.dir) _ rfl w4 HBD4.out (by omega) (by omega)).mono ?_
        rintro e w5 ⟨rfl, hbd5, hB5, hK5⟩
        have HBD5 := Lib.hid hbd5.bd
        have HW5 := Lib.hid (HW4.out.kept hK5 hgb (by decide))
        have HB5 := Lib.hid (HB4.out.trans (hB5.mono hsb))
        have hs5 : b < w5.heap.size := by have := hB5.size; omega
        clear hB5 hbd5 hK5
        go_wp2_with fail
        refine (wbyte_any b b _ 32 _ rfl w5 HBD5.out (by simp; omega) (by omega)).mono ?_
        rintro e w6 ⟨rfl, hbd5, hB5, hK5⟩
        have HBD6 := Lib.hid hbd5.bd
        have HW6 := Lib.hid (HW5.out.kept hK5 hgb (by decide))
        have HB6 := Lib.hid (HB5.out.trans (hB5.mono hsb))
        have hs6 : b < w6.heap.size := by have := hB5.size; omega
        have hnm6 := whole_name HW6.out
        clear hB5 hbd5 hK5
        go_wp2_with fail
        refine (wstr_any b b _ y.name w6 HBD6.out (by simp; omega) (by omega)).mono ?_
        rintro e w7 ⟨rfl, hbd5, hB5, hK5⟩
        have HBD7 := Lib.hid hbd5.bd
        have HW7 := Lib.hid (HW6.out.kept hK5 hgb (by decide))
        have HB7 := Lib.hid (HB6.out.trans (hB5.mono hsb))
        have hs7 : b < w7.heap.size := by have := hB5.size; omega
        clear hB5 hbd5 hK5 hnm6
        go_wp2_with fail
        refine (wbyte_any b b _ 0 _ rfl w7 HBD7.out (by simp; omega) (by omega)).mono ?_
        rintro e w8 ⟨rfl, hbd5, hB5, hK5⟩
        have HBD8 := Lib.hid hbd5.bd
        have HW8 := Lib.hid (HW7.out.kept hK5 hgb (by decide))
        have HB8 := Lib.hid (HB7.out.trans (hB5.mono hsb))
        have hs8 : b < w8.heap.size := by have := hB5.size; omega
        clear hB5 hbd5 hK5
        have HWR := Lib.hid (wrow_any b b _ y.id.l ⟨wr.heap.size, 2, none⟩ 32 w8 HBD8.out (by have := y.id.h; simp; omega) (by omega) (by
          intro w9 _ hK9 j u hu
          have h9 := (HW8.out.kept hK9 hgb (by decide)).at_ (2 + j)
          rw [Addr.add_mid, h9, List.getElem?_toArray]
          rw [show (2 + j) = j + 1 + 1 by omega]
          exact hu))
        rw [y.id.h] at HWR
        go_wp2_with fail
        refine HWR.out.mono ?_
        rintro e w9 ⟨rfl, hbd5, hB5, hK5⟩
        have HB9 := Lib.hid (HB8.out.trans (hB5.mono hsb))
        have hs9 : b < w9.heap.size := by have := hB5.size; omega
        have HBD9 : Hid (Bd w9 b b (encT (es.take (k + 1)))) := by
          show Bd _ _ _ _
          rw [HET.out]
          have h9 := hbd5.bd
          have e9 : pre ++ [markOf y.dir] ++ [32] ++ y.name ++ [0] ++ y.id.l = pre ++ bytesE y := by simp [bytesE, markOf]
          rw [e9] at h9
          exact h9
        clear hB5 hbd5 hK5 HWR
        go_wp2
        go_roundg (es.length - (k + 1))
        case measure => omega
        case rel => exact ⟨k + 1, by omega, Nat.le_refl _, by go_num, HB9, hs9, HBD9⟩
      · obtain rfl : k = es.length := by omega
        rw [List.take_length] at hbd
        go_wp2_with fail
        refine (bstr_any b b (encT es) wr hbd.out (by omega)).mono ?_
        rintro e w9 ⟨rfl, hB9⟩
        have HB9 := Lib.hid (hwr.out.trans (hB9.mono hsb))
        clear hB9
        go_wp2
        go_ret2
        exact ⟨rfl, HB9.out⟩
end Go.Proofs.YtfaijkgfhdhhbaaGreatDoor
namespace Go.Proofs.YtfaijkgfhdhhbaaGreatDoor
open Go.RowKit

theorem ba_append' (a b : List UInt8) : (ByteArray.mk a.toArray) ++ (ByteArray.mk b.toArray) = ByteArray.mk (a ++ b).toArray := by
  apply ByteArray.ext
  simp
theorem take_snoc' (l : List UInt8) (k : Nat) (h : k < l.length) : l.take (k + 1) = l.take k ++ [l.getD k 0] := by
  rw [List.take_succ_eq_append_getElem h]
  simp [List.getD, List.getElem?_eq_getElem h]
theorem encE_id (y : En) (k : Nat) (hk : k < y.id.l.length) : (encE y)[k + 2]? = some (Y (y.id.l.getD k 0)) := by
  unfold encE encN
  rw [List.getElem?_cons_succ, List.getElem?_cons_succ]
  simp [List.getElem?_eq_getElem hk]
theorem id_cell {w : World} {bb o : Nat} {y : En} (h : w.rangeAt bb o (encE y)) (k : Nat) (hk : k < 32) : w.cell? ⟨bb, o + 2 + k, none⟩ = some (Y (y.id.l.getD k 0)) := by
  have h1 := h (k + 2) (Y (y.id.l.getD k 0)) (encE_id y k (by rw [y.id.h]; exact hk))
  rw [show o + (k + 2) = o + 2 + k by omega] at h1
  exact h1
theorem alen32 : Tryz.prog.arrayLen 24 = 32 := by kernel_rfl
theorem elemId : Tryz.prog.elem 24 = 5 := by kernel_rfl
theorem slice_one (bb o k : Nat) (hk : k < 32) (W : World) : (Instr.sliceAt 24 (.pointer (some ⟨bb, o, none⟩)) (some (.int .i64 (k : Int))) (some (.int .i64 ((k : Int) + 1))) none).run Tryz.prog W = .ok (.slice (some ⟨bb, o + k, none⟩) 1 (32 - k)) W := by
  have h := run_sliceAt_array_lh (P := Tryz.prog) W 24 ⟨bb, o, none⟩ (by rw [alen32, elemId]; exact Tryz.underlying24) .i64 .i64 (k : Int) ((k : Int) + 1) (by omega) (by omega) (by rw [alen32]; omega)
  rw [h, elemId, Tryz.sizeOf5, alen32]
  have e1 : ((k : Int) + 1).toNat = k + 1 := by omega
  simp only [Result.andThen, slicedAt, Int.toNat_natCast, e1, Nat.mul_one]
  rw [if_neg (by omega), Addr.add_mid, show k + 1 - k = 1 by omega]
theorem wpList_slice_one {ops : Array Oper} {rest : List Oper} {op : Oper} {a : Act} {w : World} {Q : Exit → Act → World → Prop} (hgd : op.guard = none) (x lo hi : Operand) (ho : op.op = .slice 24 x (some lo) (some hi) none) (bb o k : Nat) (hk : k < 32) (z : Int) (hz : z = (k : Int) + 1)
    (hx : a.eval x = .pointer (some ⟨bb, o, none⟩)) (hlo : a.eval lo = .int .i64 (k : Int)) (hhi : a.eval hi = .int .i64 z) (h : wpList Tryz.prog ops Q rest (a.put op.dst (.slice (some ⟨bb, o + k, none⟩) 1 (32 - k))) w) : wpList Tryz.prog ops Q (op :: rest) a w := by
  subst hz
  refine wpList_plain hgd fun K hK => ?_
  unfold Oper.wp execOp
  simp only [ho, hx, hlo, hhi, Option.map_some, Option.map_none, Sem.run_bind, slice_one bb o k hk w, Result.andThen_ok]
  exact hK _ _ h
theorem conv_one {w : World} (bb o c : Nat) (x : UInt8) (h1 : 1 ≤ c) (h2 : c ≤ maxLen) (h : w.cell? ⟨bb, o, none⟩ = some (Y x)) : (convert 78 9 (.slice (some ⟨bb, o, none⟩) 1 c)).run Tryz.prog w = .ok (.string ⟨#[x]⟩) w := by
  refine bytes_str (P := Tryz.prog) 78 9 5 Tryz.underlying78 Tryz.underlying5 Tryz.underlying9 (bs := [x]) ⟨_, c, rfl, h1, h2, fun _ => ⟨_, _, rfl, fun i hi => ?_⟩⟩
  obtain rfl : i = 0 := by simp at hi; exact hi
  exact h
theorem conv_id {w : World} {bb o : Nat} {y : En} (h : w.rangeAt bb o (encE y)) (k : Nat) (hk : k < 32) : (convert 78 9 (.slice (some ⟨bb, o + 2 + k, none⟩) 1 (32 - k))).run Tryz.prog w = .ok (.string ⟨#[y.id.l.getD k 0]⟩) w :=
  conv_one bb (o + 2 + k) (32 - k) _ (by omega) (by unfold maxLen; omega) (id_cell h k hk)
theorem acc_id (hd : List UInt8) (y : En) (k : Nat) (hk : k < 32) : (ByteArray.mk (hd ++ y.id.l.take k).toArray) ++ (ByteArray.mk #[y.id.l.getD k 0]) = ByteArray.mk (hd ++ y.id.l.take (k + 1)).toArray := by
  rw [show (ByteArray.mk #[y.id.l.getD k 0]) = ByteArray.mk [y.id.l.getD k 0].toArray from rfl, ba_append', take_snoc' _ k (by rw [y.id.h]; exact hk), List.append_assoc]
set_option maxRecDepth 100000 in
set_option maxHeartbeats 4000000 in
theorem rtree_any (A : Option Addr) (c : Nat) (es : List En) (w : World) (hA : ArgE w A c es) (hm : mayT es = true) :
    Calls Tryz.prog 40 #[.slice A es.length c] w fun e w' => e = .returned (.string ⟨(encT es).toArray⟩) ∧ w = w' := by
  have HA := Lib.hid hA
  have hlc := hA.1
  clear hA
  have hlen : es.length ≤ 20 := by simp [mayT] at hm; exact hm.1
  have hnl : ∀ k, k < es.length → (es.getD k default).name.length ≤ 20 := by
    intro k hk
    simp only [mayT, Bool.and_eq_true] at hm
    have := risesTo_at es hm.2 hk
    simp only [okAt, okName, Bool.and_eq_true, decide_eq_true_eq] at this
    exact this.1.1.1.1.2
  have HNL := Lib.hid hnl
  clear hm hnl
  have HEL : Hid (∀ k, k ≤ es.length → (encT (es.take k)).length ≤ k * 55) := by
    intro k
    induction k with
    | zero => intro _; simp [encT]
    | succ k ih =>
      intro h
      rw [encT_take es k (by omega), List.length_append, bytesE_len]
      have := ih (by omega)
      have := HNL.out k (by omega)
      omega
  go_enter Tryz.func40, Tryz.ntmps40
  go_wp2
  go_loopg [3, 4, 5] es.length (fun g s3 s4 _ wr => ∃ k : Nat, k ≤ es.length ∧ es.length - k ≤ g ∧ s3 = .string ⟨(encT (es.take k)).toArray⟩ ∧ s4 = .int .i64 k ∧ wr = w)
  case atStart => exact ⟨0, Nat.zero_le _, by omega, rfl, rfl, rfl⟩
  case round =>
    obtain ⟨i, hi, hg, rfl, rfl, rfl⟩ := hrel
    by_cases hlt : i < es.length
    · have hlt' : (i : Int) < (es.length : Int) := by omega
      obtain ⟨bb, o, rfl, hr⟩ := HA.out.2.2.2 (by omega)
      obtain ⟨y, hy⟩ : ∃ y, y = es.getD i default := ⟨_, rfl⟩
      have hdr := hr.dir hlt
      have hnm := hr.name hlt
      have hrk := hr i hlt
      rw [← hy] at hrk hdr hnm
      have HRK := Lib.hid hrk
      have HET := Lib.hid (encT_take es i hlt)
      have hle := HEL.out i hi
      have hnl := HNL.out i hlt
      rw [← hy] at HET hnl
      clear hr hrk hy
      generalize encT (es.take i) = pre at *
      obtain ⟨hd, hhd⟩ : ∃ hd, hd = pre ++ [markOf y.dir, 32] ++ y.name ++ [0] := ⟨_, rfl⟩
      have hhl : hd.length ≤ 1200 := by rw [hhd]; simp; omega
      have HS1 : Hid (∀ d, y.dir = d → (ByteArray.mk pre.toArray) ++ (ByteArray.mk #[markOf d, 32]) ++ ((ByteArray.mk y.name.toArray) ++ (ByteArray.mk #[0])) = ByteArray.mk hd.toArray) := by
        rintro d rfl
        rw [hhd, show (ByteArray.mk #[markOf y.dir, 32]) = ByteArray.mk [markOf y.dir, 32].toArray from rfl, show (ByteArray.mk #[0]) = ByteArray.mk [0].toArray from rfl, ba_append', ba_append', ba_append', ← List.append_assoc]
      have HHD := Lib.hid hhd
      have hyi := y.id.h
      clear hhd
      cases hdir : y.dir with
      | true =>
        rw [hdir] at hdr
        have HS2 : Hid ((ByteArray.mk pre.toArray) ++ (ByteArray.mk #[100, 32]) ++ ((ByteArray.mk y.name.toArray) ++ (ByteArray.mk #[0])) = ByteArray.mk hd.toArray) := by
          show _ = _
          have h := HS1.out true hdir
          rw [show markOf true = 100 from rfl] at h
          exact h
        clear HS1
        go_wp2
        go_loopg [3, 5] 32 (fun g s3 s5 wr2 => ∃ k : Nat, k ≤ 32 ∧ 32 - k ≤ g ∧ s3 = .string ⟨(hd ++ y.id.l.take k).toArray⟩ ∧ s5 = .int .i64 k ∧ wr2 = wr)
        case atStart => exact ⟨0, Nat.zero_le _, by omega, by rw [List.take_zero, List.append_nil, HS2.out], rfl, rfl⟩
        case round =>
          obtain ⟨k, hk, hg2, rfl, rfl, rfl⟩ := hrel
          by_cases hlt2 : k < 32
          · have hlt2' : (k : Int) < 32 := by omega
            have hll : (hd ++ y.id.l.take k).length ≤ 1300 := by rw [List.length_append, List.length_take]; omega
            have HAP := Lib.hid (acc_id hd y k hlt2)
            have hcv := conv_id HRK.out k hlt2
            clear HS2
            generalize y.id.l.getD k 0 = x at *
            generalize hd ++ y.id.l.take k = acc at *
            go_wp2_with (refine wpList_slice_one rfl _ _ _ rfl bb (o + i * 34 + 2) k hlt2 _ (by first | rfl | (unfold wrap64; omega)) rfl rfl rfl ?_)
            go_roundg (32 - (k + 1))
            case measure => omega
            case rel => exact ⟨k + 1, by omega, Nat.le_refl _, by rw [HAP.out], by go_num, rfl⟩
          · obtain rfl : k = 32 := by omega
            have HFI : Hid (hd ++ y.id.l.take 32 = encT (es.take (i + 1))) := by
              show _ = _
              rw [HET.out, HHD.out, List.take_of_length_le (by omega)]
              simp [bytesE, markOf]
            rw [HFI.out]
            go_wp2
            go_roundg (es.length - (i + 1))
            case measure => omega
            case rel => exact ⟨i + 1, by omega, Nat.le_refl _, rfl, by go_num, rfl⟩
      | false =>
        rw [hdir] at hdr
        have HS2 : Hid ((ByteArray.mk pre.toArray) ++ (ByteArray.mk #[102, 32]) ++ ((ByteArray.mk y.name.toArray) ++ (ByteArray.mk #[0])) = ByteArray.mk hd.toArray) := by
          show _ = _
          have h := HS1.out false hdir
          rw [show markOf false = 102 from rfl] at h
          exact h
        clear HS1
        go_wp2
        go_loopg [3, 5] 32 (fun g s3 s5 wr2 => ∃ k : Nat, k ≤ 32 ∧ 32 - k ≤ g ∧ s3 = .string ⟨(hd ++ y.id.l.take k).toArray⟩ ∧ s5 = .int .i64 k ∧ wr2 = wr)
        case atStart => exact ⟨0, Nat.zero_le _, by omega, by rw [List.take_zero, List.append_nil, HS2.out], rfl, rfl⟩
        case round =>
          obtain ⟨k, hk, hg2, rfl, rfl, rfl⟩ := hrel
          by_cases hlt2 : k < 32
          · have hlt2' : (k : Int) < 32 := by omega
            have hll : (hd ++ y.id.l.take k).length ≤ 1300 := by rw [List.length_append, List.length_take]; omega
            have HAP := Lib.hid (acc_id hd y k hlt2)
            have hcv := conv_id HRK.out k hlt2
            clear HS2
            generalize y.id.l.getD k 0 = x at *
            generalize hd ++ y.id.l.take k = acc at *
            go_wp2_with (refine wpList_slice_one rfl _ _ _ rfl bb (o + i * 34 + 2) k hlt2 _ (by first | rfl | (unfold wrap64; omega)) rfl rfl rfl ?_)
            go_roundg (32 - (k + 1))
            case measure => omega
            case rel => exact ⟨k + 1, by omega, Nat.le_refl _, by rw [HAP.out], by go_num, rfl⟩
          · obtain rfl : k = 32 := by omega
            have HFI : Hid (hd ++ y.id.l.take 32 = encT (es.take (i + 1))) := by
              show _ = _
              rw [HET.out, HHD.out, List.take_of_length_le (by omega)]
              simp [bytesE, markOf]
            rw [HFI.out]
            go_wp2
            go_roundg (es.length - (i + 1))
            case measure => omega
            case rel => exact ⟨i + 1, by omega, Nat.le_refl _, rfl, by go_num, rfl⟩
    · obtain rfl : i = es.length := by omega
      rw [List.take_length]
      go_wp2
      go_ret
      exact ⟨rfl, rfl⟩
end Go.Proofs.YtfaijkgfhdhhbaaGreatDoor
namespace Go.Proofs.YtfaijkgfhdhhbaaGreatDoor
open Go.RowKit

/-- A fault of some number; of what was there only R's blocks have turned. -/
def Fell (R : Nat → Prop) (w : World) (e : Ending) (w' : World) : Prop := ∃ c : Int, c ≠ 0 ∧ e = .panicked (fault c) ∧ Alt R w w'
theorem own_byt {w : World} {B : Nat} {v : Value} {bs : List UInt8} (h : w.ownsRow B 5 1 v bs.length (bs.map Y)) : Bytes w v bs := by
  rcases h.2 with ⟨rfl, h0⟩ | ⟨g, cap, cur, rfl, hB, hg, hn, hm, hs, ht⟩
  · exact ⟨none, 0, by rw [h0], by omega, by unfold maxLen; omega, fun h => absurd h (by omega)⟩
  · refine ⟨_, cap, rfl, hn, hm, fun _ => ⟨g, 0, rfl, fun i hi => ?_⟩⟩
    have hx : (bs.map Y)[i]? = some (Y (bs.getD i 0)) := by simp [List.getElem?_eq_getElem hi]
    rw [← ht, List.getElem?_take_of_lt (by omega)] at hx
    rw [Nat.zero_add, cell_of_row _ _ _ _ _ _ hg]
    simpa using hx
theorem drop_cons' (s : List UInt8) (k : Nat) (h : k < s.length) : s.drop k = s.getD k 0 :: s.drop (k + 1) := by
  rw [List.drop_eq_getElem_cons h]
  simp [List.getD, List.getElem?_eq_getElem h]
set_option maxRecDepth 100000 in
set_option maxHeartbeats 4000000 in
theorem rdname_ok (b m : Nat) (s : List UInt8) (w : World) (h : Rd w b s) (h1 : ∀ j, j < m → s.getD j 0 ≠ 0) (h2 : m < s.length) (h3 : s.getD m 0 = 0) (h4 : m ≤ 20) :
    Calls Tryz.prog 123 #[.pointer (some ⟨b, 0, none⟩)] w fun e w' => e = .returned (.string ⟨(s.take m).toArray⟩) ∧ Alt (· = b) w w' ∧ Rd w' b (s.drop (m + 1)) := by
  obtain ⟨i0, hi, hz0, hz1, hz2⟩ := info_parts infoY
  have hbl : b < w.heap.size := h.lt
  have HB := Lib.hid (byte_some b (s.getD 0 0) (s.drop 1) w (by rw [← drop_cons' s 0 (by omega)]; exact h))
  have H1 := Lib.hid h1
  have H3 := Lib.hid h3
  clear h h1 h3
  go_enter Tryz.func123, Tryz.ntmps123
  go_wp2_with fail
  refine HB.out.mono ?_
  rintro e w1 ⟨rfl, hG, hR⟩
  have HR := Lib.hid hR
  have HA := Lib.hid (Alt.of_grown (R := (· = b)) hG (fun j hj => by injection hj with hj; exact hj.symm))
  have hs1 := hG.size
  clear hG hR HB
  go_wp2
  go_loopg [3, 4] m (fun g s3 s4 wr => ∃ k : Nat, k ≤ m ∧ m - k ≤ g ∧ s4 = .int .u8 ((s.getD k 0).toNat : Int) ∧ wr.ownsRow w.heap.size 5 1 s3 k ((s.take k).map Y) ∧ Hid (Alt (· = b) w wr) ∧ w.heap.size ≤ wr.heap.size ∧ Hid (Rd wr b (s.drop (k + 1))))
  case atStart => exact ⟨0, by omega, by omega, rfl, by simpa using World.ownsRow_nil _ _ _ _, HA, hs1, HR⟩
  case round =>
    obtain ⟨k, hk, hg, rfl, hown, hal, hsz, hrd⟩ := hrel
    by_cases hlt : k < m
    · have hne : (((s.getD k 0).toNat : Int) != 0) = true := by
        have h0 := H1.out k hlt
        simp only [bne_iff_ne, ne_eq]
        intro e
        exact h0 (UInt8.toNat_inj.1 (by simpa using e))
      have hd20 : decide ((k : Int) < 20) = true := by simp; omega
      obtain ⟨A9, c9, rfl⟩ := own_slice hown
      have HNB := Lib.hid (fun W (h : Rd W b (s.drop (k + 1))) => byte_some b (s.getD (k + 1) 0) (s.drop (k + 2)) W (by rw [← drop_cons' s (k + 1) (by omega)]; exact h))
      have HTK : Hid ((s.take (k + 1)).map Y = (s.take k).map Y ++ [.int .u8 ((s.getD k 0).toNat : Int)]) := by
        show _ = _
        rw [take_snoc' s k (by omega), List.map_append]
        rfl
      generalize s.getD k 0 = x at *
      have hcell : ∀ j u, [Value.int .u8 (x.toNat : Int)][j]? = some u → (wr.alloc (.cells #[.int .u8 (x.toNat : Int)] 5)).cell? ((⟨wr.heap.size, 0, none⟩ : Addr).add j) = some u := by
        intro j u hu
        have h := (Whole.made wr 5 #[.int .u8 (x.toNat : Int)]).at_ j
        rw [Addr.add_mid, Nat.zero_add, h]
        simpa using hu
      go_wp2_with (first
        | (go_at_call 87; refine (must_yes _ _).mono ?_; rintro e w' ⟨rfl, rfl⟩)
        | (at_builtin; go_loud (refine wpList_append_own_at _ rfl _ _ 78 rfl w.heap.size 5 i0 (.int .u8 0) 1 1 Tryz.underlying78 hi hz0 hz1 hz2 rfl (by decide) _ _ _ rfl (hown.alloc _) ⟨wr.heap.size, 0, none⟩ 1 1 [.int .u8 (x.toNat : Int)] rfl (by simp) hcell (yb_one [x]) (by unfold maxLen; omega) (by omega) (by simp; omega) ?_)))
      intro v' w2 hown' hgr _ _
      have hown' : w2.ownsRow w.heap.size 5 1 v' (k + 1) ((s.take (k + 1)).map Y) := by rw [HTK.out, List.map_take]; exact hown'
      have HOW := Lib.hid hown'
      obtain ⟨A', c', rfl⟩ := own_slice hown'
      have hvb : (Value.slice A' (k + 1) c').ownBlock ≠ some b := by
        intro e
        have := (hown'.lt b e).1
        omega
      have HVB := Lib.hid hvb
      have hrow : ∀ j, (Value.slice A9 k c9).ownBlock = some j → w.heap.size ≤ j := fun j hj => (hown.lt j hj).1
      have HAL := Lib.hid ((hal.out.alloc (.cells #[.int .u8 (x.toNat : Int)] 5)).grown hgr (fun j hj => .inl (hrow j hj)))
      have HRD : Hid (Rd w2 b (s.drop (k + 1))) := by
        have h9 := Whole.past hrd.out (.cells #[.int .u8 (x.toNat : Int)] 5)
        exact Whole.grown h9 hgr (fun e => by have := hrow b e.symm; omega)
      have hs2 : w.heap.size ≤ w2.heap.size := HAL.out.size
      clear hown hown' hgr hcell hvb hrow
      go_wp2_with fail
      refine (HNB.out w2 HRD.out).mono ?_
      rintro e w3 ⟨rfl, hG, hR⟩
      have HAL3 := Lib.hid (HAL.out.grown hG (fun j hj => by injection hj with hj; exact .inr hj.symm))
      have how3 : w3.ownsRow w.heap.size 5 1 (.slice A' (k + 1) c') (k + 1) ((s.take (k + 1)).map Y) := HOW.out.kept hG (.inr (fun e => HVB.out e))
      have HR3 := Lib.hid hR
      have hs3 : w.heap.size ≤ w3.heap.size := HAL3.out.size
      clear hG hR
      go_wp2
      go_roundg (m - (k + 1))
      case measure => omega
      case rel => exact ⟨k + 1, by omega, Nat.le_refl _, rfl, how3, HAL3, hs3, HR3⟩
    · obtain rfl : k = m := by omega
      have htl : (s.take k).length = k := by rw [List.length_take]; omega
      have hcv := bytes_str (P := Tryz.prog) 78 9 5 Tryz.underlying78 Tryz.underlying5 Tryz.underlying9 (own_byt (bs := s.take k) (by rw [htl]; exact hown))
      obtain ⟨A9, c9, rfl⟩ := own_slice hown
      rw [H3.out]
      generalize hn : s.take k = n at *
      have HN := Lib.hid hn
      clear hown htl hn
      go_wp2
      go_ret
      exact ⟨by rw [HN.out]; rfl, hal.out, hrd.out⟩
set_option maxRecDepth 100000 in
set_option maxHeartbeats 4000000 in
theorem rdname_bad (b : Nat) (s : List UInt8) (w : World) (h : Rd w b s) (h1 : ∀ j, j < s.length → j ≤ 20 → s.getD j 0 ≠ 0) :
    Calls Tryz.prog 123 #[.pointer (some ⟨b, 0, none⟩)] w fun e w' => Fell (· = b) w e w' := by
  obtain ⟨i0, hi, hz0, hz1, hz2⟩ := info_parts infoY
  have hbl : b < w.heap.size := h.lt
  have H1 := Lib.hid h1
  by_cases h0 : s.length = 0
  · have HB := Lib.hid (byte_more b w (by rw [← List.length_eq_zero_iff.1 h0]; exact h))
    clear h h1
    go_enter Tryz.func123, Tryz.ntmps123
    go_wp2_with fail
    refine HB.out.mono ?_
    rintro e w1 ⟨rfl, rfl⟩
    exact ⟨rfl, 2, by decide, rfl, Alt.refl _ _⟩
  have HB := Lib.hid (byte_some b (s.getD 0 0) (s.drop 1) w (by rw [← drop_cons' s 0 (by omega)]; exact h))
  clear h h1
  go_enter Tryz.func123, Tryz.ntmps123
  go_wp2_with fail
  refine HB.out.mono ?_
  rintro e w1 ⟨rfl, hG, hR⟩
  have HR := Lib.hid hR
  have HA := Lib.hid (Alt.of_grown (R := (· = b)) hG (fun j hj => by injection hj with hj; exact hj.symm))
  have hs1 := hG.size
  clear hG hR HB
  go_wp2
  go_loopg [3, 4] 20 (fun g s3 s4 wr => ∃ k : Nat, k ≤ 20 ∧ k < s.length ∧ 20 - k ≤ g ∧ s4 = .int .u8 ((s.getD k 0).toNat : Int) ∧ wr.ownsRow w.heap.size 5 1 s3 k ((s.take k).map Y) ∧ Hid (Alt (· = b) w wr) ∧ w.heap.size ≤ wr.heap.size ∧ Hid (Rd wr b (s.drop (k + 1))))
  case atStart => exact ⟨0, by omega, by omega, by omega, rfl, by simpa using World.ownsRow_nil _ _ _ _, HA, hs1, HR⟩
  case round =>
    obtain ⟨k, hk, hks, hg, rfl, hown, hal, hsz, hrd⟩ := hrel
    have hne : (((s.getD k 0).toNat : Int) != 0) = true := by
      have h0 := H1.out k hks hk
      simp only [bne_iff_ne, ne_eq]
      intro e
      exact h0 (UInt8.toNat_inj.1 (by simpa using e))
    by_cases hlt : k < 20
    · have hd20 : decide ((k : Int) < 20) = true := by simp; omega
      obtain ⟨A9, c9, rfl⟩ := own_slice hown
      have HTK : Hid ((s.take (k + 1)).map Y = (s.take k).map Y ++ [.int .u8 ((s.getD k 0).toNat : Int)]) := by
        show _ = _
        rw [take_snoc' s k (by omega), List.map_append]
        rfl
      have HNB := Lib.hid (fun W (hn : k + 1 < s.length) (h : Rd W b (s.drop (k + 1))) => byte_some b (s.getD (k + 1) 0) (s.drop (k + 2)) W (by rw [← drop_cons' s (k + 1) hn]; exact h))
      have HNE := Lib.hid (fun W (hn : ¬ k + 1 < s.length) (h : Rd W b (s.drop (k + 1))) => byte_more b W (by rw [List.drop_eq_nil_of_le (by omega)] at h; exact h))
      generalize s.getD k 0 = x at *
      have hcell : ∀ j u, [Value.int .u8 (x.toNat : Int)][j]? = some u → (wr.alloc (.cells #[.int .u8 (x.toNat : Int)] 5)).cell? ((⟨wr.heap.size, 0, none⟩ : Addr).add j) = some u := by
        intro j u hu
        have h := (Whole.made wr 5 #[.int .u8 (x.toNat : Int)]).at_ j
        rw [Addr.add_mid, Nat.zero_add, h]
        simpa using hu
      go_wp2_with (first
        | (go_at_call 87; refine (must_yes _ _).mono ?_; rintro e w' ⟨rfl, rfl⟩)
        | (at_builtin; go_loud (refine wpList_append_own_at _ rfl _ _ 78 rfl w.heap.size 5 i0 (.int .u8 0) 1 1 Tryz.underlying78 hi hz0 hz1 hz2 rfl (by decide) _ _ _ rfl (hown.alloc _) ⟨wr.heap.size, 0, none⟩ 1 1 [.int .u8 (x.toNat : Int)] rfl (by simp) hcell (yb_one [x]) (by unfold maxLen; omega) (by omega) (by simp; omega) ?_)))
      intro v' w2 hown' hgr _ _
      have hown' : w2.ownsRow w.heap.size 5 1 v' (k + 1) ((s.take (k + 1)).map Y) := by rw [HTK.out, List.map_take]; exact hown'
      have HOW := Lib.hid hown'
      obtain ⟨A', c', rfl⟩ := own_slice hown'
      have hvb : (Value.slice A' (k + 1) c').ownBlock ≠ some b := by
        intro e
        have := (hown'.lt b e).1
        omega
      have HVB := Lib.hid hvb
      have hrow : ∀ j, (Value.slice A9 k c9).ownBlock = some j → w.heap.size ≤ j := fun j hj => (hown.lt j hj).1
      have HAL := Lib.hid ((hal.out.alloc (.cells #[.int .u8 (x.toNat : Int)] 5)).grown hgr (fun j hj => .inl (hrow j hj)))
      have HRD : Hid (Rd w2 b (s.drop (k + 1))) := by
        have h9 := Whole.past hrd.out (.cells #[.int .u8 (x.toNat : Int)] 5)
        exact Whole.grown h9 hgr (fun e => by have := hrow b e.symm; omega)
      have hs2 : w.heap.size ≤ w2.heap.size := HAL.out.size
      clear hown hown' hgr hcell hvb hrow
      by_cases hnx : k + 1 < s.length
      · go_wp2_with fail
        refine (HNB.out w2 hnx HRD.out).mono ?_
        rintro e w3 ⟨rfl, hG, hR⟩
        have HAL3 := Lib.hid (HAL.out.grown hG (fun j hj => by injection hj with hj; exact .inr hj.symm))
        have how3 : w3.ownsRow w.heap.size 5 1 (.slice A' (k + 1) c') (k + 1) ((s.take (k + 1)).map Y) := HOW.out.kept hG (.inr (fun e => HVB.out e))
        have HR3 := Lib.hid hR
        have hs3 : w.heap.size ≤ w3.heap.size := HAL3.out.size
        clear hG hR
        go_wp2
        go_roundg (20 - (k + 1))
        case measure => omega
        case rel => exact ⟨k + 1, by omega, hnx, Nat.le_refl _, by simp [List.getElem?_eq_getElem hnx], how3, HAL3, hs3, HR3⟩
      · go_wp2_with fail
        refine (HNE.out w2 hnx HRD.out).mono ?_
        rintro e w3 ⟨rfl, rfl⟩
        exact ⟨rfl, 2, by decide, rfl, HAL.out⟩
    · obtain rfl : k = 20 := by omega
      obtain ⟨A9, c9, rfl⟩ := own_slice hown
      generalize s.getD 20 0 = x at *
      go_wp2_with (go_at_call 87; refine (must_no _ _).mono ?_; rintro e w' ⟨rfl, rfl⟩)
      exact ⟨rfl, 1, by decide, rfl, hal.out⟩
end Go.Proofs.YtfaijkgfhdhhbaaGreatDoor

/-
  Hexadecimal digits; when.Bits, when.Put, walked.
  oid.word, oid.Of, walked; Itoa of one digit.
  oid.Hex, walked.
-/
import Derived.Test.YtfaijkgfhdhhbaaGreatDoorMga
import Derived.Test.YtfaijkgfhdhhbaaGreatDoorMgc
namespace Go.Proofs.YtfaijkgfhdhhbaaGreatDoor
open Go.RowKit

/-- A digit; the k digits of a number. -/
def hx (d : Nat) : UInt8 := if d < 10 then UInt8.ofNat (48 + d) else UInt8.ofNat (87 + d)
def hexs : Nat → Nat → List UInt8
  | 0, _ => []
  | j + 1, v => hx (v / 16 ^ j % 16) :: hexs j v
theorem hexs_len (j v : Nat) : (hexs j v).length = j := by
  induction j with
  | zero => rfl
  | succ j ih => simp [hexs, ih]
def hexDigits : ByteArray := ⟨#[48, 49, 50, 51, 52, 53, 54, 55, 56, 57, 97, 98, 99, 100, 101, 102]⟩
theorem hx_run (k : IntKind) (d : Nat) (hd : d < 16) (w : World) : (Instr.index 9 (.string ⟨#[48, 49, 50, 51, 52, 53, 54, 55, 56, 57, 97, 98, 99, 100, 101, 102]⟩) (.int k (d : Int))).run Tryz.prog w = .ok (.int .u8 ((hx d).toNat : Int)) w := by
  have h : d = 0 ∨ d = 1 ∨ d = 2 ∨ d = 3 ∨ d = 4 ∨ d = 5 ∨ d = 6 ∨ d = 7 ∨ d = 8 ∨ d = 9 ∨ d = 10 ∨ d = 11 ∨ d = 12 ∨ d = 13 ∨ d = 14 ∨ d = 15 := by omega
  rcases h with rfl | rfl | rfl | rfl | rfl | rfl | rfl | rfl | rfl | rfl | rfl | rfl | rfl | rfl | rfl | rfl
  all_goals (show _ = _; kernel_rfl)

/-- What Bits tells. -/
def bitsV (n : Nat) : Nat := if Flo.isNaN n then 9221120237041090561 else n
theorem bits_any (n : Nat) (w : World) : Calls Tryz.prog 65 #[.float .f64 n] w fun e w' => e = .returned (.int .u64 (bitsV n : Int)) ∧ w = w' := by
  have hb := bits_run n
  have HV : Hid (bitsV n = if Flo.isNaN n then 9221120237041090561 else n) := rfl
  have hnan := isnan_any n w
  cases h1 : Flo.isNaN n
  all_goals
    have H1 := Lib.hid h1
    rw [h1] at hnan
    have HN := Lib.hid hnan
    clear h1 hnan
    go_enter Tryz.func65, Tryz.ntmps65
    go_wp2_with (go_at_call 111; refine HN.out.mono ?_; rintro e w' ⟨rfl, rfl⟩)
    go_ret
    refine ⟨?_, rfl⟩
    rw [HV.out, H1.out]
    rfl

/-- The digits as they are being laid. -/
def harr (v j : Nat) : List Value := (List.replicate (16 - j) 0 ++ hexs j v).map Y
theorem harr_step (v j : Nat) (h : j < 16) : (harr v j).toArray.setIfInBounds (15 - j) (Y (hx (v / 16 ^ j % 16))) = (harr v (j + 1)).toArray := by
  apply Array.ext'
  simp only [harr, Array.toList_setIfInBounds, hexs, List.map_append, List.map_cons]
  obtain ⟨m, hm⟩ : ∃ m, 16 - j = m + 1 := ⟨15 - j, by omega⟩
  rw [hm, show 15 - j = m by omega, show 16 - (j + 1) = m by omega, List.replicate_succ', List.map_append, List.append_assoc, List.set_append_right _ _ (by simp)]
  simp
theorem harr_at (v j i : Nat) (hj : j ≤ 16) (hi : i < 16) : ∃ x : Int, (harr v j).toArray[i]? = some (.int .u8 x) := by
  have hl : (List.replicate (16 - j) 0 ++ hexs j v).length = 16 := by rw [List.length_append, hexs_len, List.length_replicate]; omega
  have h2 : ((List.replicate (16 - j) 0 ++ hexs j v).map Y)[i]? = some (Y ((List.replicate (16 - j) 0 ++ hexs j v).getD i 0)) := by
    rw [List.getElem?_map, List.getElem?_eq_getElem (by rw [hl]; exact hi)]
    simp [List.getElem?_eq_getElem (show i < (List.replicate (16 - j) 0 ++ hexs j v).length by rw [hl]; exact hi)]
  exact ⟨_, by rw [List.getElem?_toArray]; exact h2⟩

theorem put_bad (n : Nat) (w : World) (h : n < 18446744073709551616) (hm : Flo.may n = false) : Calls Tryz.prog 58 #[.float .f64 n] w fun e w' => e = .returned (.string ⟨#[]⟩) ∧ w = w' := by
  have hmay := may_any n w h
  rw [hm] at hmay
  have HM := Lib.hid hmay
  clear hmay hm
  go_enter Tryz.func58, Tryz.ntmps58
  go_wp2_with (go_at_call 90; refine HM.out.mono ?_; rintro e w' ⟨rfl, rfl⟩)
  go_ret
  exact ⟨rfl, rfl⟩
set_option maxRecDepth 100000 in
set_option maxHeartbeats 1000000 in
theorem put_good (n : Nat) (w : World) (h : n < 18446744073709551616) (hm : Flo.may n = true) : Calls Tryz.prog 58 #[.float .f64 n] w fun e w' => e = .returned (.string ⟨(hexs 16 (bitsV n)).toArray⟩) ∧ Below w.heap.size w w' := by
  have hmay := may_any n w h
  rw [hm] at hmay
  have HM := Lib.hid hmay
  have hbv : bitsV n < 18446744073709551616 := by unfold bitsV; split <;> omega
  clear hmay hm h
  go_enter Tryz.func58, Tryz.ntmps58
  go_wp2_with (first
    | (go_at_call 90; refine HM.out.mono ?_; rintro e w' ⟨rfl, rfl⟩)
    | (go_at_call 65; refine (bits_any n _).mono ?_; rintro e w' ⟨rfl, rfl⟩))
  generalize hv : bitsV n = v at *
  have HVV := Lib.hid hv
  clear hv
  go_loopw [4, 5] (fun r i wr => ∃ j : Nat, j ≤ 16 ∧ i = .int .i64 (15 - (j : Int)) ∧ r = .int .u64 ((v / 16 ^ j : Nat) : Int) ∧ Whole wr w.heap.size 126 (harr v j).toArray ∧ Below w.heap.size w wr) (fun _ i _ => (intOf i + 1).toNat)
  case atStart => exact ⟨0, by omega, rfl, by simp, Whole.made _ _ _, (Below.refl _ _).alloc (Nat.le_refl _) _⟩
  case round =>
    obtain ⟨j, hj, rfl, rfl, hW, hB⟩ := hrel
    have HW := Lib.hid hW
    have HB := Lib.hid hB
    clear hW hB
    by_cases hlt : j < 16
    · have hr : v / 16 ^ j < 18446744073709551616 := Nat.lt_of_le_of_lt (Nat.div_le_self _ _) hbv
      have HR : Hid (v / 16 ^ (j + 1) = v / 16 ^ j / 16) := by show _ = _; rw [Nat.pow_succ, Nat.div_div_eq_div_mul]
      obtain ⟨x, hx⟩ := harr_at v j (15 - j) hj (by omega)
      have hc : wr.cell? ⟨w.heap.size, 15 - j, none⟩ = some (.int .u8 x) := (HW.out.at_ (15 - j)).trans hx
      have hz := HW.out.thawed (15 - j)
      have hst := Lib.hid (harr_step v j hlt)
      generalize v / 16 ^ j = r at *
      have hidx := hx_run .u64 (r % 16) (by omega)
      rw [show ((r % 16 : Nat) : Int) = (r : Int) % 16 by omega] at hidx
      clear hx
      go_wp2
      go_roundw
      case rel =>
        refine ⟨j + 1, by omega, ?_, ?_, ?_, ?_⟩
        · rw [show (15 : Int) - (j : Int) - 1 = 15 - ((j + 1 : Nat) : Int) by omega]
        · rw [HR.out]; rfl
        · rw [← hst.out]; exact HW.out.put _ _
        · exact HB.out.setCell (Nat.le_refl _) _
      case measure => simp [intOf]; omega
    · have hW16 : Whole wr w.heap.size 126 ((hexs 16 v).map Y).toArray := by
        have := HW.out
        rw [show j = 16 by omega] at this
        exact this
      have hby : Bytes wr (.slice (some ⟨w.heap.size, 0, none⟩) 16 16) (hexs 16 v) := ⟨_, 16, by rw [hexs_len], by rw [hexs_len]; decide, by decide, fun _ => ⟨_, _, rfl, fun i hi => by
        rw [Nat.zero_add, hW16.at_ i, List.getElem?_toArray, ← some_y _ _ hi]⟩⟩
      have hcv := bytes_str (P := Tryz.prog) 78 9 5 Tryz.underlying78 Tryz.underlying5 Tryz.underlying9 hby
      clear hW16 hby HW
      generalize hdg : (hexs 16 v).toArray = digits at *
      have HD := Lib.hid hdg
      clear hdg
      go_wp2
      go_ret
      exact ⟨by rw [HVV.out, HD.out]; rfl, HB.out⟩
end Go.Proofs.YtfaijkgfhdhhbaaGreatDoor
namespace Go.Proofs.YtfaijkgfhdhhbaaGreatDoor
open Go.RowKit

/-- []byte(s): a new row; the world behind it is a variable. -/
theorem wpList_of_string {P : Program} {ops : Array Oper} {rest : List Oper} {o : Oper} {a : Act} {w : World} {Q : Exit → Act → World → Prop} (hgd : o.guard = none) (src dst e : TypeId) (x : Operand) (ho : o.op = .convert src dst x) (s : ByteArray) (l : List UInt8) (hx : a.eval x = .string s) (hsl : s = ⟨l.toArray⟩)
    (hs : P.underlying src = some .string) (hd : P.underlying dst = some (.slice e)) (he : P.underlying e = some (.int .u8)) (hlen : l.length ≤ maxLen)
    (h : ∀ w' c, Bytes w' (.slice (some ⟨w.heap.size, 0, none⟩) l.length c) l → (∀ i, i < l.length → w'.frozen? ⟨w.heap.size, i, none⟩ = false) → Below w.heap.size w w' → w'.heap.size = w.heap.size + 1 → wpList P ops Q rest (a.put o.dst (.slice (some ⟨w.heap.size, 0, none⟩) l.length c)) w') :
    wpList P ops Q (o :: rest) a w := by
  subst hsl
  refine wpList_plain hgd fun K hK => ?_
  have hrun := run_bytes_of_string (P := P) w src dst e ⟨l.toArray⟩ hs hd he
  have hsz : (ByteArray.mk l.toArray).size = l.length := by simp [ByteArray.size]
  have hge := grownCap_ge w (ByteArray.mk l.toArray).size 0 e
  have hle := grownCap_le_maxLen w (ByteArray.mk l.toArray).size 0 e (by rw [hsz]; exact hlen)
  rw [hsz] at hrun hge hle
  generalize grownCap w l.length 0 e = c at *
  have hrl : (bytesRow ⟨l.toArray⟩ c).size = c := by simp [bytesRow, hsz]; omega
  unfold Oper.wp execOp
  simp only [ho, hx, hrun, Sem.run_bind, Result.andThen_ok]
  refine hK _ _ (h _ c ⟨_, c, rfl, hge, hle, fun _ => ⟨_, _, rfl, fun i hi => ?_⟩⟩ (fun i hi => ?_) ?_ ?_)
  · rw [Nat.zero_add]
    have hh : (w.drew.alloc (.cells (bytesRow ⟨l.toArray⟩ c) e ((bytesRow ⟨l.toArray⟩ c).size, (bytesRow ⟨l.toArray⟩ c).size + 1))).heap[w.heap.size]? = some (.cells (bytesRow ⟨l.toArray⟩ c) e ((bytesRow ⟨l.toArray⟩ c).size, (bytesRow ⟨l.toArray⟩ c).size + 1)) := by
      show (w.heap.push _)[w.heap.size]? = _
      simp
    rw [cell_of_row _ _ i _ _ _ hh]
    simp only [bytesRow]
    rw [Array.getElem?_append_left (by simpa using hi)]
    simp [Y, List.getElem?_eq_getElem hi]
  · have hh : (w.drew.alloc (.cells (bytesRow ⟨l.toArray⟩ c) e ((bytesRow ⟨l.toArray⟩ c).size, (bytesRow ⟨l.toArray⟩ c).size + 1))).heap[w.heap.size]? = some (.cells (bytesRow ⟨l.toArray⟩ c) e ((bytesRow ⟨l.toArray⟩ c).size, (bytesRow ⟨l.toArray⟩ c).size + 1)) := by
      show (w.heap.push _)[w.heap.size]? = _
      simp
    unfold World.frozen?
    rw [hh, hrl]
    simp; omega
  · exact ((Below.refl _ _).drew).alloc (Nat.le_refl _) _
  · show (w.heap.push _).size = _
    simp

theorem ba_append (a b : List UInt8) : (ByteArray.mk a.toArray) ++ (ByteArray.mk b.toArray) = ByteArray.mk (a ++ b).toArray := by
  apply ByteArray.ext
  simp

theorem itoa_1 (w : World) : Calls Tryz.prog 76 #[.int .i64 1] w fun e w' => e = .returned (.string ⟨#[49]⟩) ∧ w = w' := by
  go_enter Tryz.func76, Tryz.ntmps76
  go_wp2
  go_ret
  exact ⟨rfl, rfl⟩
theorem word_1 (w : World) : Calls Tryz.prog 75 #[.int .i64 1] w fun e w' => e = .returned (.string ⟨#[98, 108, 111, 98]⟩) ∧ w = w' := by
  go_enter Tryz.func75, Tryz.ntmps75
  go_wp2
  go_ret
  exact ⟨rfl, rfl⟩

set_option maxRecDepth 100000 in
set_option maxHeartbeats 2000000 in
theorem of_any (kind : Int) (kw dec body : List UInt8) (w : World) (hTab : Tabs w) (hw : ∀ W, Calls Tryz.prog 75 #[.int .i64 kind] W fun e w' => e = .returned (.string ⟨kw.toArray⟩) ∧ W = w')
    (hd : ∀ W, Calls Tryz.prog 76 #[.int .i64 (body.length : Int)] W fun e w' => e = .returned (.string ⟨dec.toArray⟩) ∧ Below W.heap.size W w') (hlen : kw.length + dec.length + body.length < 2 ^ 40) :
    Calls Tryz.prog 35 #[.int .i64 kind, .string ⟨body.toArray⟩] w fun e w' => e = .returned (.agg ((ShaM.sha (kw ++ [32] ++ dec ++ [0] ++ body)).map Y).toArray) ∧ Below w.heap.size w w' := by
  have hl1 := hTab.lt1
  have hl2 := hTab.lt2
  have HTab := Lib.hid hTab
  have HW := Lib.hid hw
  have HD := Lib.hid hd
  obtain ⟨L, hL⟩ : ∃ L, L = kw ++ [32] ++ dec ++ [0] := ⟨_, rfl⟩
  have hpre : L.length < 2 ^ 41 := by rw [hL]; simp; omega
  have hpre2 : L.length + body.length < 2 ^ 42 := by omega
  have HL := Lib.hid hL
  clear hTab hw hd hL
  go_enter Tryz.func35, Tryz.ntmps35
  go_wp2_with fail
  refine (new_any _).mono ?_
  rintro e w1 ⟨rfl, hB1, hH1, hs1⟩
  have hs1' : w1.heap.size = w.heap.size + 2 := by rw [hs1]; simp
  have HB1 := Lib.hid (((Below.refl w.heap.size w).alloc (Nat.le_refl _) _).trans (hB1.mono (by simp)))
  have HH1 : Hid (HashAt w1 (w.heap.size + 1) 149 []) := by show HashAt _ _ _ _; simpa using hH1
  obtain ⟨z, hz, hZ⟩ : ∃ z : Array Value, z.size = 32 ∧ Whole w1 w.heap.size 24 z := ⟨_, rfl, (Whole.made w _ _).below hB1 (by simp)⟩
  have HZ := Lib.hid hz
  have HZ1 := Lib.hid hZ
  clear hB1 hH1 hs1 hz hZ
  go_wp2_with fail
  refine (HW.out _).mono ?_
  rintro e w2 ⟨rfl, rfl⟩
  go_wp2_with fail
  refine (HD.out _).mono ?_
  rintro e w3 ⟨rfl, hB3⟩
  have HB3 := Lib.hid hB3
  have hs3 := hB3.size
  clear hB3
  go_wp2_with (refine wpList_of_string rfl 9 78 5 (.tmp 15) rfl _ L rfl (by rw [HL.out, ← ba_append, ← ba_append, ← ba_append]) Tryz.underlying9 Tryz.underlying78 Tryz.underlying5 (by unfold maxLen; omega) ?_; intro w4 c hby hfz hB4 hs4; have HBY := Lib.hid hby; have HB4 := Lib.hid hB4; clear hby hfz hB4)
  have HB04 : Hid (Below w.heap.size w w4) := (HB1.out.trans (HB3.out.mono (by omega))).trans (HB4.out.mono (by omega))
  have HB14 : Hid (Below w1.heap.size w1 w4) := HB3.out.trans (HB4.out.mono (by omega))
  refine (put_any (w.heap.size + 1) 149 _ [] L w4 (HTab.out.below HB04.out hl1 hl2) (by omega) (by omega) (HH1.out.below HB14.out (by omega)) (by simp) HBY.out (fun _ h => by injection h with h; dsimp only at h; omega)).mono ?_
  rintro e w5 ⟨rfl, hG5, hH5⟩
  rw [List.nil_append] at hH5
  have HH5 := Lib.hid hH5
  have HB5 := Lib.hid (be_grown HB04.out hG5 HB04.out.size (fun j hj => by injection hj with hj; omega))
  have HZ5 := Lib.hid ((HZ1.out.below HB14.out (by omega)).grown hG5 (by simp))
  have hs5 := hG5.size
  clear hG5 hH5
  go_wp2_with (refine wpList_of_string rfl 9 78 5 (.tmp 19) rfl _ body rfl rfl Tryz.underlying9 Tryz.underlying78 Tryz.underlying5 (by unfold maxLen; omega) ?_; intro w6 c6 hby hfz hB6 hs6; have HBY6 := Lib.hid hby; have HB6 := Lib.hid hB6; clear hby hfz hB6)
  have HB06 : Hid (Below w.heap.size w w6) := HB5.out.trans (HB6.out.mono (by omega))
  refine (put_any (w.heap.size + 1) 149 _ L body w6 (HTab.out.below HB06.out hl1 hl2) (by omega) (by omega) (HH5.out.below HB6.out (by omega)) (by omega) HBY6.out (fun _ h => by injection h with h; dsimp only at h; omega)).mono ?_
  rintro e w7 ⟨rfl, hG7, hH7⟩
  have HH7 := Lib.hid hH7
  have HB7 := Lib.hid (be_grown HB06.out hG7 HB06.out.size (fun j hj => by injection hj with hj; omega))
  have HZ7 := Lib.hid ((HZ5.out.below HB6.out (by omega)).grown hG7 (by simp))
  have hs7 := hG7.size
  clear hG7 hH7
  go_wp2_with fail
  refine (hsum_any (w.heap.size + 1) _ _ w7 (HTab.out.below HB7.out hl1 hl2) HH7.out (by rw [List.length_append]; omega)).mono ?_
  rintro e w8 ⟨rfl, hB8⟩
  obtain ⟨oc, hoc⟩ : ∃ oc, oc = ((ShaM.sha (L ++ body)).map Y).toArray := ⟨_, rfl⟩
  rw [← hoc]
  have hos : oc.size = 32 := by rw [hoc, List.size_toArray, List.length_map]; rfl
  have HOI : Hid ((Tryz.prog.info? 24).map (·.size) = some oc.size) := by show _ = _; rw [hos]; kernel_rfl
  have HO1 : Hid (oc.all (·.oneCell') = true) := by show _ = _; rw [hoc]; exact ys_all _
  have HOS : Hid (z.size = oc.size) := by show _ = _; rw [hos, HZ.out]
  have HZ8 := Lib.hid (HZ7.out.below hB8 (by omega))
  have HB8 := Lib.hid (HB7.out.trans (hB8.mono (by omega)))
  have HOC := Lib.hid hoc
  clear hoc hos hB8
  go_wp2_with (refine wpList_store_whole rfl 24 _ _ rfl w.heap.size oc rfl rfl 24 z HZ8.out HOI.out HOS.out HO1.out ?_; intro w9 hW9 hG9; have HW9 := Lib.hid hW9; have HB9 := Lib.hid (be_grown HB8.out hG9 HB8.out.size (fun j hj => by injection hj with hj; omega)); clear hW9 hG9)
  refine bodyPost_ret (v := .agg oc) ?_ rfl ⟨by rw [HOC.out, HL.out], HB9.out⟩
  exact results_cell_row (p := 4) (ty := 24) rfl _ _ w.heap.size 24 oc (0, 0) _ rfl HW9.out Tryz.underlying24 rfl HOI.out
end Go.Proofs.YtfaijkgfhdhhbaaGreatDoor
namespace Go.Proofs.YtfaijkgfhdhhbaaGreatDoor
open Go.RowKit

/-- The digits of bytes. -/
def hexOf : List UInt8 → List UInt8
  | [] => []
  | b :: r => hx (b.toNat / 16) :: hx (b.toNat % 16) :: hexOf r
theorem hexOf_len (l : List UInt8) : (hexOf l).length = 2 * l.length := by
  induction l with
  | nil => rfl
  | cons b r ih => simp [hexOf, ih]; omega
theorem hexOf_snoc (l : List UInt8) (b : UInt8) : hexOf (l ++ [b]) = hexOf l ++ [hx (b.toNat / 16), hx (b.toNat % 16)] := by
  induction l with
  | nil => rfl
  | cons c r ih => simp [hexOf, ih]
/-- The text as it is being laid. -/
def htarr (l : List UInt8) : List Value := (hexOf l ++ List.replicate (64 - 2 * l.length) 0).map Y
theorem htarr_len (l : List UInt8) (h : l.length ≤ 32) : (htarr l).length = 64 := by simp [htarr, hexOf_len]; omega
theorem htarr_step (l : List UInt8) (b : UInt8) (h : l.length < 32) : ((htarr l).toArray.setIfInBounds (2 * l.length) (Y (hx (b.toNat / 16)))).setIfInBounds (2 * l.length + 1) (Y (hx (b.toNat % 16))) = (htarr (l ++ [b])).toArray := by
  apply Array.ext'
  obtain ⟨m, hm⟩ : ∃ m, 64 - 2 * l.length = m + 2 := ⟨62 - 2 * l.length, by omega⟩
  have hm2 : 64 - 2 * (l.length + 1) = m := by omega
  simp only [htarr, Array.toList_setIfInBounds, hexOf_snoc, List.map_append, List.length_append, List.length_cons, List.length_nil, hm, hm2, List.replicate_succ, List.map_cons]
  rw [List.set_append_right _ _ (by simp [hexOf_len]), List.set_append_right _ _ (by simp [hexOf_len])]
  simp [hexOf_len, show 2 * l.length + 1 - 2 * l.length = 1 by omega]
theorem htarr_at (l : List UInt8) (i : Nat) (h : l.length ≤ 32) (hi : i < 64) : ∃ x : Int, (htarr l).toArray[i]? = some (.int .u8 x) := by
  have hl := htarr_len l h
  obtain ⟨v, hv⟩ : ∃ v, (htarr l)[i]? = some v := ⟨_, List.getElem?_eq_getElem (by rw [hl]; exact hi)⟩
  have hm := List.mem_of_getElem? hv
  unfold htarr at hm
  obtain ⟨y, _, rfl⟩ := List.mem_map.1 hm
  exact ⟨_, by rw [List.getElem?_toArray, hv]; rfl⟩
theorem and_15 (b : UInt8) : bits .and .u8 (b.toNat : Int) 15 = (b.toNat : Int) % 16 := by
  have h := u8_and_nat b.toNat 15 b.toNat_lt (by decide)
  have e : b.toNat &&& 15 = b.toNat % 16 := Nat.and_two_pow_sub_one_eq_mod b.toNat 4
  rw [e] at h
  rw [show ((15 : Nat) : Int) = 15 from rfl] at h
  rw [h]; omega

set_option maxRecDepth 100000 in
set_option maxHeartbeats 1000000 in
theorem hex_any (id : List UInt8) (w : World) (hid : id.length = 32) : Calls Tryz.prog 57 #[.agg (id.map Y).toArray] w fun e w' => e = .returned (.string ⟨(hexOf id).toArray⟩) ∧ Below w.heap.size w w' := by
  have hcs : ((id.map Y).toArray).size = 32 := by simp [hid]
  have hat : ∀ i, i < 32 → ((id.map Y).toArray)[i]? = some (Y (id.getD i 0)) := fun i hi => by rw [List.getElem?_toArray, ← some_y _ _ (by omega)]
  have HI : Hid ((Tryz.prog.info? 24).map (·.size) = some ((id.map Y).toArray).size) := by show _ = _; rw [hcs]; kernel_rfl
  have HAT := Lib.hid hat
  have HID := Lib.hid hid
  clear hcs hat hid
  generalize (id.map Y).toArray = cs at *
  go_enter Tryz.func57, Tryz.ntmps57
  go_wp2_with (refine wpList_load_row rfl 24 _ rfl w.heap.size rfl 24 cs (0, 0) _ ((Whole.made w _ _).past _) Tryz.underlying24 rfl HI.out ?_)
  go_loopw [7] (fun i wr => ∃ k : Nat, k ≤ 32 ∧ i = .int .i64 k ∧ Whole wr (w.heap.size + 1) 124 (htarr (id.take k)).toArray ∧ Below w.heap.size w wr) (fun i _ => 32 - (intOf i).toNat)
  case atStart => exact ⟨0, by omega, rfl, heap_alloc2_new w _ _, ((Below.refl _ _).alloc (Nat.le_refl _) _).alloc (by simp) _⟩
  case round =>
    obtain ⟨k, hk, rfl, hW, hB⟩ := hrel
    have HW := Lib.hid hW
    have HB := Lib.hid hB
    clear hW hB
    by_cases hlt : k < 32
    · have hl : (id.take k).length = k := by rw [List.length_take, HID.out]; omega
      have hidx := run_index_one 24 5 32 cs k _ _ Tryz.underlying24 Tryz.underlying5 rfl (by kernel_rfl) hlt (HAT.out k hlt)
      have htk : id.take (k + 1) = id.take k ++ [id.getD k 0] := by
        rw [List.take_succ_eq_append_getElem (by rw [HID.out]; exact hlt)]
        simp [List.getElem?_eq_getElem (show k < id.length by rw [HID.out]; exact hlt)]
      have hst := htarr_step (id.take k) (id.getD k 0) (by rw [hl]; exact hlt)
      rw [hl, ← htk] at hst
      obtain ⟨x0, h0⟩ := htarr_at (id.take k) (2 * k) (by rw [hl]; exact hk) (by omega)
      obtain ⟨x1, h1⟩ := htarr_at (id.take k) (2 * k + 1) (by rw [hl]; exact hk) (by omega)
      have c0 : wr.cell? ⟨w.heap.size + 1, 2 * k, none⟩ = some (.int .u8 x0) := (HW.out.at_ _).trans h0
      have c1 : wr.cell? ⟨w.heap.size + 1, 2 * k + 1, none⟩ = some (.int .u8 x1) := (HW.out.at_ _).trans h1
      have z0 := HW.out.thawed (2 * k)
      have z1 := HW.out.thawed (2 * k + 1)
      have HST := Lib.hid hst
      generalize id.getD k 0 = b at *
      have hbl := b.toNat_lt
      have i0 := hx_run .u8 (b.toNat / 16) (by omega)
      have i1 := hx_run .u8 (b.toNat % 16) (by omega)
      rw [show ((b.toNat / 16 : Nat) : Int) = (b.toNat : Int) / 16 by omega] at i0
      rw [show ((b.toNat % 16 : Nat) : Int) = (b.toNat : Int) % 16 by omega] at i1
      have ha := and_15 b
      unfold Y at hidx
      clear hst h0 h1 hl htk
      go_wp2
      go_roundw
      case rel =>
        refine ⟨k + 1, by omega, by go_num, ?_, ?_⟩
        · rw [← HST.out]; exact (HW.out.put _ _).put _ _
        · exact (HB.out.setCell (by simp) _).setCell (by simp) _
      case measure => simp [intOf]; omega
    · have hW2 : Whole wr (w.heap.size + 1) 124 ((hexOf id).map Y).toArray := by
        have := HW.out
        rw [List.take_of_length_le (by rw [HID.out]; omega)] at this
        unfold htarr at this
        rw [HID.out] at this
        simpa using this
      have hby : Bytes wr (.slice (some ⟨w.heap.size + 1, 0, none⟩) 64 64) (hexOf id) := ⟨_, 64, by rw [hexOf_len, HID.out], by rw [hexOf_len, HID.out]; decide, by decide, fun _ => ⟨_, _, rfl, fun i hi => by
        rw [Nat.zero_add, hW2.at_ i, List.getElem?_toArray, ← some_y _ _ hi]⟩⟩
      have hcv := bytes_str (P := Tryz.prog) 78 9 5 Tryz.underlying78 Tryz.underlying5 Tryz.underlying9 hby
      clear hW2 hby HW
      generalize hdg : (hexOf id).toArray = digits at hcv
      have HD := Lib.hid hdg
      clear hdg
      go_wp2
      go_ret
      exact ⟨by rw [HD.out]; rfl, HB.out⟩
end Go.Proofs.YtfaijkgfhdhhbaaGreatDoor

/-
  Reader.Bytes; GuardOwn, walked.
-/
import Derived.Test.YtbljoeeekhdjkabGreatDoorArg
namespace Go.Proofs.YtbljoeeekhdjkabGreatDoor
open Go.RowKit

theorem Row.of_bytes {w : World} {g c : Nat} {l : List UInt8} (h : Bytes w (.slice (some ⟨g, 0, none⟩) l.length c) l) (hg : g < w.heap.size) (hz : ∀ i, i < l.length → w.frozen? ⟨g, i, none⟩ = false) : Row w (some ⟨g, 0, none⟩) c l := by
  obtain ⟨A, c', e, h1, h2, h3⟩ := h
  injection e with e1 _ e3
  subst e1 e3
  refine ⟨h1, h2, fun h0 => ⟨g, rfl, hg, fun i hi => ?_⟩⟩
  obtain ⟨g', off, e, hc⟩ := h3 h0
  injection e with e
  injection e with e1 e2
  subst e1 e2
  have := hc i hi
  rw [Nat.zero_add] at this
  exact ⟨this, hz i hi⟩
/-- Bytes, what there is. -/
theorem rbytes_some (b : Nat) (s : List UInt8) (n : Nat) (w : World) (h : Rd w b s) (hl : n ≤ s.length) (hn : n ≤ 1048576) : Calls Tryz.prog 13 #[.pointer (some ⟨b, 0, none⟩), .int .i64 (n : Int)] w fun e w' =>
    ∃ g c, e = .returned (.slice (some ⟨g, 0, none⟩) n c) ∧ Row w' (some ⟨g, 0, none⟩) c (s.take n) ∧ Alt (· = b) w w' ∧ Rd w' b (s.drop n) ∧ w.heap.size ≤ g := by
  have HT : Hid (Calls Tryz.prog 48 #[.pointer (some ⟨b, 0, none⟩), .int .i64 (n : Int)] w fun e w' => e = .returned (.string ⟨(s.take n).toArray⟩) ∧ w.grownBy w' (some b) ∧ Rd w' b (s.drop n)) := by
    by_cases h0 : n = 0
    · subst h0
      refine (take_none b s w h).mono ?_
      rintro e w' ⟨rfl, rfl⟩
      exact ⟨rfl, gr_refl _ _, h⟩
    · exact take_some b s n w h (by omega) hl
  have hlen : (s.take n).length = n := by rw [List.length_take]; omega
  have HL := Lib.hid hlen
  clear h hl hlen
  generalize s.take n = l at *
  go_enter Tryz.func13, Tryz.ntmps13
  go_wp2_with fail
  refine HT.out.mono ?_
  rintro e w1 ⟨rfl, hG, hR⟩
  have HG := Lib.hid hG
  have HR := Lib.hid hR
  have hb : b < w1.heap.size := hR.lt
  clear hG hR
  go_wp2_with (refine wpList_of_string rfl 9 22 5 _ rfl ⟨l.toArray⟩ l rfl rfl Tryz.underlying9 Tryz.underlying22 Tryz.underlying5 (by rw [HL.out]; unfold maxLen; omega) ?_; intro w2 c hby hzz hbe hsz; have HBY := Lib.hid hby; have HZ := Lib.hid hzz; have HBE := Lib.hid hbe; clear hby hzz hbe)
  go_ret
  refine ⟨w1.heap.size, c, by rw [HL.out]; rfl, Row.of_bytes HBY.out (by omega) HZ.out, ?_, HR.out.below HBE.out hb, HG.out.size⟩
  exact (Alt.of_grown HG.out (fun j hj => by injection hj with hj; exact hj.symm)).below HBE.out

/-- Turned once in all bits. -/
def flip (l : List UInt8) (k : Nat) : List UInt8 := (l.take k).map (fun c => c ^^^ 255) ++ l.drop k
theorem flip_len (l : List UInt8) (k : Nat) (h : k ≤ l.length) : (flip l k).length = l.length := by simp [flip]; omega
theorem flip_at (l : List UInt8) (k : Nat) (h : k < l.length) : (flip l k).getD k 0 = l.getD k 0 := by
  simp [flip, List.getD, List.getElem?_append, Nat.min_eq_left (Nat.le_of_lt h)]
theorem flip_set (l : List UInt8) (k : Nat) (h : k < l.length) : (flip l k).set k (l.getD k 0 ^^^ 255) = flip l (k + 1) := by
  unfold flip
  rw [List.take_succ_eq_append_getElem h, List.map_append, List.drop_eq_getElem_cons h, List.set_append_right _ _ (by simp; omega)]
  have e : k - ((l.take k).map fun c => c ^^^ 255).length = 0 := by simp; omega
  rw [e, List.set_cons_zero]
  simp [List.getD, List.getElem?_eq_getElem h]
theorem xor_byte (c d : UInt8) : bits .xor .u8 (c.toNat : Int) (d.toNat : Int) = ((c ^^^ d).toNat : Int) := by
  have h := u8_xor_nat c.toNat d.toNat c.toNat_lt d.toNat_lt
  rw [h, UInt8.toNat_xor]
theorem str_own {w : World} {A : Option Addr} {c n : Nat} {l : List UInt8} (h : Row w A c l) (hn : l.length = n) : (convert 22 9 (.slice A n c)).run Tryz.prog w = .ok (.string ⟨l.toArray⟩) w := by
  subst hn
  exact bytes_str (P := Tryz.prog) 22 9 5 Tryz.underlying22 Tryz.underlying5 Tryz.underlying9 h.bytes
theorem xor_255 (c : UInt8) : bits .xor .u8 (c.toNat : Int) 255 = ((c ^^^ 255).toNat : Int) := xor_byte c 255
theorem set_take (l : List UInt8) (k : Nat) : (l.set k 9).length = l.length := by simp

set_option maxRecDepth 100000 in
set_option maxHeartbeats 2000000 in
theorem gown_any (A : Option Addr) (c : Nat) (bs : List UInt8) (w : World) (hE : Env w) (hA : Arg w A c (bs.map Y)) : Calls Tryz.prog 3 #[.slice A bs.length c] w fun e w' => e = .returned (.bool true) ∧ Below w.heap.size w w' := by
  have HE := Lib.hid hE
  have HA := Lib.hid hA
  have hlc : bs.length ≤ c := by have := hA.1; simpa using this
  obtain ⟨m, hm, hm1, hm2⟩ : ∃ m, m = min bs.length 40 ∧ m ≤ bs.length ∧ m ≤ 40 := ⟨_, rfl, by omega, by omega⟩
  have hmin : ∀ W, (Builtin.min_ #[3, 3] 3 #[.int .i64 (bs.length : Int), .int .i64 40]).run Tryz.prog W = .ok (.int .i64 (m : Int)) W := by
    intro W
    rw [run_min_int2]
    congr 2
    split <;> omega
  have hsl := slice_to (P := Tryz.prog) (A := A) (c := c) 22 5 bs.length m Tryz.underlying22 (by kernel_rfl) (by omega)
  clear hE hA hm
  go_enter Tryz.func3, Tryz.ntmps3
  go_wp2_with fail
  refine (begun_any _ HE.out).mono ?_
  rintro e w1 ⟨rfl, hB⟩
  have HB := Lib.hid hB
  clear hB
  have HA1 := Lib.hid ((HA.out.take m).below HB.out (Nat.le_refl _))
  have hbl : (bs.take m).length = m := by rw [List.length_take]; omega
  rw [← List.map_take] at HA1
  generalize bs.take m = l at *
  have HL := Lib.hid hbl
  clear hbl
  go_wp2_with (at_builtin; refine wpList_bcopy rfl _ _ rfl rfl A c l (by rw [HL.out]; rfl) HA1.out (by rw [HL.out]; omega) ?_; intro v' w2 hown hbe; obtain ⟨A2, c2, rfl, hrow, hge⟩ := Row.of_own hown; have HROW := Lib.hid hrow; have HGE := Lib.hid hge; have HB2 := Lib.hid (HB.out.trans (hbe.mono HB.out.size)); have hs2 := hbe.size; have hcv := str_own hrow rfl; rw [HL.out] at hcv ⊢; clear hown hrow hge hbe)
  have hby2 := HROW.out.bytes
  rw [HL.out] at hby2
  refine (gnew_any _ l _ (by rw [← HL.out] at hby2 ⊢; exact hby2)).mono ?_
  rintro e w3 ⟨rfl, hbe, hrd, hs3⟩
  have HRD := Lib.hid hrd
  have HROW3 := Lib.hid (HROW.out.below hbe)
  have HB3 := Lib.hid (HB2.out.trans (hbe.mono HB2.out.size))
  clear hbe hrd hcv hby2 hsl hmin
  go_wp2_with fail
  go_loopw [25] (fun i wr => ∃ k bk, k ≤ m ∧ i = .int .i64 ((k : Nat) : Int) ∧ List.length bk = m ∧ Row wr A2 c2 bk ∧ Alt (blockOf A2) w3 wr) (fun i _ => m - (intOf i).toNat)
  case atStart => exact ⟨0, l, by omega, rfl, HL.out, HROW3.out, Alt.refl _ _⟩
  case round =>
    obtain ⟨k, bk, hk, rfl, hbl, hrow, halt⟩ := hrel
    have HBL := Lib.hid hbl
    have HR := Lib.hid hrow
    have HALT := Lib.hid halt
    by_cases hlt : k < m
    · obtain ⟨g, rfl, hgl, hc, hz, hput⟩ := hrow.at_ (show k < bk.length by omega)
      have hx := xor_255 (bk.getD k 0)
      have HPUT := Lib.hid (hput (bk.getD k 0 ^^^ 255))
      have hc' : wr.cell? ⟨g, k, none⟩ = some (.int .u8 ((bk.getD k 0).toNat : Int)) := hc
      clear hbl hrow halt hput hc
      generalize bk.getD k 0 ^^^ 255 = y at *
      generalize bk.getD k 0 = x at *
      go_wp2
      go_roundw
      case rel => exact ⟨k + 1, bk.set k y, by omega, by go_num, by rw [List.length_set]; exact HBL.out, HPUT.out, Alt.set (R := blockOf (some ⟨g, 0, none⟩)) (p := ⟨g, k, none⟩) HALT.out (.inl ⟨_, rfl, rfl⟩) _⟩
      case measure => simp [intOf]; omega
    · obtain rfl : k = m := by omega
      have HRDr := Lib.hid (Whole.alt HRD.out halt (by intro hb; have := (HGE.out _ hb).2; omega))
      have HBr := Lib.hid (HB3.out.trans ((halt.to (B := w1.heap.size) (fun j hj => (HGE.out j hj).1) (by have := halt.size; omega)).mono HB.out.size))
      obtain ⟨q, hq, hq2⟩ : ∃ q : Nat, q = k / 2 ∧ q ≤ k := ⟨_, rfl, Nat.div_le_self _ _⟩
      have hdiv : (k : Int) / 2 = (q : Int) := by omega
      have HRB := Lib.hid (rbytes_some _ l q _ HRDr.out (by rw [HL.out]; omega) (by omega))
      have hl1 : (l.take q).length = q := by rw [List.length_take, HL.out]; omega
      have hl2 : (l.drop q).length = k - q := by rw [List.length_drop, HL.out]
      have hll : l.take q ++ l.drop q = l := List.take_append_drop _ _
      have HL1 := Lib.hid hl1
      have HL2 := Lib.hid hl2
      have HLL := Lib.hid hll
      clear hbl hrow halt hl1 hl2 hll hq HROW HROW3
      generalize l.take q = l1 at *
      generalize l.drop q = l2 at *
      go_wp2_with fail
      refine HRB.out.mono ?_
      rintro e w5 ⟨g, ch, rfl, hrow5, halt5, hrd5, hg5⟩
      have HROW5 := Lib.hid hrow5
      have HRD5 := Lib.hid hrd5
      have HB5 := Lib.hid (HBr.out.trans (halt5.to (B := w.heap.size) (by intro j hj; have := HB2.out.size; omega) HBr.out.size))
      have hcv5 := str_own hrow5 HL1.out
      clear hrow5 halt5 hrd5
      go_wp2_with fail
      go_loopw [44] (fun i wl => ∃ k bk, k ≤ q ∧ i = .int .i64 ((k : Nat) : Int) ∧ List.length bk = q ∧ Row wl (some ⟨g, 0, none⟩) ch bk ∧ Alt (· = g) w5 wl) (fun i _ => q - (intOf i).toNat)
      case atStart => exact ⟨0, l1, by omega, rfl, HL1.out, HROW5.out, Alt.refl _ _⟩
      case round =>
        obtain ⟨k2, bk2, hk2, rfl, hbl2, hrow2, halt2⟩ := hrel
        have HBL2 := Lib.hid hbl2
        have HR2 := Lib.hid hrow2
        have HALT2 := Lib.hid halt2
        by_cases hlt : k2 < q
        · obtain ⟨g', hg', hgl, hc, hz, hput⟩ := hrow2.at_ (show k2 < bk2.length by omega)
          obtain rfl : g = g' := by injection hg' with hg'; injection hg'
          have HPUT := Lib.hid (hput 9)
          have hc' : wr.cell? ⟨g, k2, none⟩ = some (.int .u8 ((bk2.getD k2 0).toNat : Int)) := hc
          clear hbl2 hrow2 halt2 hput hc hg'
          generalize bk2.getD k2 0 = x at *
          go_wp2
          go_roundw
          case rel => exact ⟨k2 + 1, bk2.set k2 9, by omega, by go_num, by rw [List.length_set]; exact HBL2.out, HPUT.out, Alt.set (R := (· = g)) (p := ⟨g, k2, none⟩) HALT2.out (.inl rfl) _⟩
          case measure => simp [intOf]; omega
        · obtain rfl : k2 = q := by omega
          have HRD6 := Lib.hid (Whole.alt HRD5.out halt2 (by intro hb; have := HRDr.out.lt; omega))
          have HB6 := Lib.hid (HB5.out.trans (halt2.to (B := w.heap.size) (by intro j hj; have := HBr.out.size; omega) HB5.out.size))
          have HRB6 := Lib.hid (rbytes_some _ l2 l2.length _ HRD6.out (Nat.le_refl _) (by rw [HL2.out]; omega))
          clear hbl2 hrow2 halt2 hcv5
          go_wp2_with (go_at_call 14; refine (left_any _ l2 _ HRD6.out).mono ?_; rintro e w' ⟨rfl, rfl⟩)
          refine HRB6.out.mono ?_
          rintro e w7 ⟨g7, c7, rfl, hrow7, halt7, hrd7, hg7⟩
          rw [List.drop_length] at hrd7
          rw [List.take_length] at hrow7
          have HRD7 := Lib.hid hrd7
          have HB7 := Lib.hid (HB6.out.trans (halt7.to (B := w.heap.size) (by intro j hj; have := HB2.out.size; omega) HB6.out.size))
          have hcv7 := str_own hrow7 rfl
          have hcat : (ByteArray.mk l1.toArray) ++ (ByteArray.mk l2.toArray) = ByteArray.mk l.toArray := by rw [ba_append, HLL.out]
          have hb1 : l1.length ≤ 40 := by rw [HL1.out]; omega
          have hb2 : l2.length ≤ 40 := by rw [HL2.out]; omega
          clear hrow7 halt7 hrd7
          go_wp2_with fail
          refine (left_any _ [] _ HRD7.out).mono ?_
          rintro e w' ⟨rfl, rfl⟩
          go_wp2
          go_ret
          exact ⟨rfl, HB7.out⟩
end Go.Proofs.YtbljoeeekhdjkabGreatDoor

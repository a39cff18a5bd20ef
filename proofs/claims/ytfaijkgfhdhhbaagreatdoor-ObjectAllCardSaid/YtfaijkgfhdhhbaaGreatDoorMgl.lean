/-
  commit.line, walked: what is read of a head's line.
  A head's line, read or a fault.
  An order of all floats, as a number of each. No program is named here.
  Numbers out of digits: no walk.
-/
import Derived.Test.YtfaijkgfhdhhbaaGreatDoorMgk
import Derived.Test.YtfaijkgfhdhhbaaGreatDoorMga
import Derived.Test.YtfaijkgfhdhhbaaGreatDoorMgf
namespace Go.Proofs.YtfaijkgfhdhhbaaGreatDoor
open Go.RowKit

set_option maxRecDepth 100000 in
set_option maxHeartbeats 4000000 in
theorem rdline_ok (b m : Nat) (s : List UInt8) (w : World) (h : Rd w b s) (h1 : ∀ j, j < m → s.getD j 0 ≠ 10) (h2 : m < s.length) (h3 : s.getD m 0 = 10) (h4 : m ≤ 71) :
    Calls Tryz.prog 92 #[.pointer (some ⟨b, 0, none⟩)] w fun e w' => e = .returned (.string ⟨(s.take m).toArray⟩) ∧ Alt (· = b) w w' ∧ Rd w' b (s.drop (m + 1)) := by
  obtain ⟨i0, hi, hz0, hz1, hz2⟩ := info_parts infoY
  have hbl : b < w.heap.size := h.lt
  have HB := Lib.hid (byte_some b (s.getD 0 0) (s.drop 1) w (by rw [← drop_cons' s 0 (by omega)]; exact h))
  have H1 := Lib.hid h1
  have H3 := Lib.hid h3
  clear h h1 h3
  go_enter Tryz.func92, Tryz.ntmps92
  go_wp2_with fail
  refine HB.out.mono ?_
  rintro e w1 ⟨rfl, hG, hR⟩
  have HR := Lib.hid hR
  have HA := Lib.hid (Alt.of_grown (R := (· = b)) hG (fun j hj => by injection hj with hj; exact hj.symm))
  have hs1 := hG.size
  clear hG hR HB
  go_wp2
  go_loopg [3, 4] m (fun g s3 s4 wr => ∃ k : Nat, k ≤ m ∧ m - k ≤ g ∧ s4 = .int .u8 ((s.getD k 0).toNat : Int) ∧ wr.ownsRow w.heap.size 5 1 s3 k ((s.take k).map Y) ∧ Hid (Alt (· = b) w wr) ∧ w.heap.size ≤ wr.heap.size ∧ Hid (Rd wr b (s.drop (k + 1))))
  case atStart => exact ⟨0, by omega, by omega, rfl, by simpa using World.ownsRow_nil _ _ _ _, HA, hs1, HR⟩
  case round =>
    obtain ⟨k, hk, hg, rfl, hown, hal, hsz, hrd⟩ := hrel
    by_cases hlt : k < m
    · have hne : (((s.getD k 0).toNat : Int) != 10) = true := by
        have h0 := H1.out k hlt
        simp only [bne_iff_ne, ne_eq]
        intro e
        exact h0 (UInt8.toNat_inj.1 (show _ = ((10 : UInt8)).toNat by have : (10 : UInt8).toNat = 10 := rfl; omega))
      have hd71 : decide ((k : Int) < 71) = true := by simp; omega
      obtain ⟨A9, c9, rfl⟩ := own_slice hown
      have HNB := Lib.hid (fun W (h : Rd W b (s.drop (k + 1))) => byte_some b (s.getD (k + 1) 0) (s.drop (k + 2)) W (by rw [← drop_cons' s (k + 1) (by omega)]; exact h))
      have HTK : Hid ((s.take (k + 1)).map Y = (s.take k).map Y ++ [.int .u8 ((s.getD k 0).toNat : Int)]) := by
        show _ = _
        rw [take_snoc' s k (by omega), List.map_append]
        rfl
      generalize s.getD k 0 = x at *
      have hcell : ∀ j u, [Value.int .u8 (x.toNat : Int)][j]? = some u → (wr.alloc (.cells #[.int .u8 (x.toNat : Int)] 5)).cell? ((⟨wr.heap.size, 0, none⟩ : Addr).add j) = some u := by
        intro j u hu
        have h := (Whole.made wr 5 #[.int .u8 (x.toNat : Int)]).at_ j
        rw [Addr.add_mid, Nat.zero_add, h]
        simpa using hu
      go_wp2_with (first
        | (go_at_call 87; refine (must_yes _ _).mono ?_; rintro e w' ⟨rfl, rfl⟩)
        | (at_builtin; go_loud (refine wpList_append_own_at _ rfl _ _ 78 rfl w.heap.size 5 i0 (.int .u8 0) 1 1 Tryz.underlying78 hi hz0 hz1 hz2 rfl (by decide) _ _ _ rfl (hown.alloc _) ⟨wr.heap.size, 0, none⟩ 1 1 [.int .u8 (x.toNat : Int)] rfl (by simp) hcell (yb_one [x]) (by unfold maxLen; omega) (by omega) (by simp; omega) ?_)))
      intro v' w2 hown' hgr _ _
      have hown' : w2.ownsRow w.heap.size 5 1 v' (k + 1) ((s.take (k + 1)).map Y) := by rw [HTK.out, List.map_take]; exact hown'
      have HOW := Lib.hid hown'
      obtain ⟨A', c', rfl⟩ := own_slice hown'
      have hvb : (Value.slice A' (k + 1) c').ownBlock ≠ some b := by
        intro e
        have := (hown'.lt b e).1
        omega
      have HVB := Lib.hid hvb
      have hrow : ∀ j, (Value.slice A9 k c9).ownBlock = some j → w.heap.size ≤ j := fun j hj => (hown.lt j hj).1
      have HAL := Lib.hid ((hal.out.alloc (.cells #[.int .u8 (x.toNat : Int)] 5)).grown hgr (fun j hj => .inl (hrow j hj)))
      have HRD : Hid (Rd w2 b (s.drop (k + 1))) := by
        have h9 := Whole.past hrd.out (.cells #[.int .u8 (x.toNat : Int)] 5)
        exact Whole.grown h9 hgr (fun e => by have := hrow b e.symm; omega)
      have hs2 : w.heap.size ≤ w2.heap.size := HAL.out.size
      clear hown hown' hgr hcell hvb hrow
      go_wp2_with fail
      refine (HNB.out w2 HRD.out).mono ?_
      rintro e w3 ⟨rfl, hG, hR⟩
      have HAL3 := Lib.hid (HAL.out.grown hG (fun j hj => by injection hj with hj; exact .inr hj.symm))
      have how3 : w3.ownsRow w.heap.size 5 1 (.slice A' (k + 1) c') (k + 1) ((s.take (k + 1)).map Y) := HOW.out.kept hG (.inr (fun e => HVB.out e))
      have HR3 := Lib.hid hR
      have hs3 : w.heap.size ≤ w3.heap.size := HAL3.out.size
      clear hG hR
      go_wp2
      go_roundg (m - (k + 1))
      case measure => omega
      case rel => exact ⟨k + 1, by omega, Nat.le_refl _, rfl, how3, HAL3, hs3, HR3⟩
    · obtain rfl : k = m := by omega
      have htl : (s.take k).length = k := by rw [List.length_take]; omega
      have hcv := bytes_str (P := Tryz.prog) 78 9 5 Tryz.underlying78 Tryz.underlying5 Tryz.underlying9 (own_byt (bs := s.take k) (by rw [htl]; exact hown))
      obtain ⟨A9, c9, rfl⟩ := own_slice hown
      rw [H3.out]
      generalize hn : s.take k = n at *
      have HN := Lib.hid hn
      clear hown htl hn
      go_wp2
      go_ret
      exact ⟨by rw [HN.out]; rfl, hal.out, hrd.out⟩
set_option maxRecDepth 100000 in
set_option maxHeartbeats 4000000 in
theorem rdline_bad (b : Nat) (s : List UInt8) (w : World) (h : Rd w b s) (h1 : ∀ j, j < s.length → j ≤ 71 → s.getD j 0 ≠ 10) :
    Calls Tryz.prog 92 #[.pointer (some ⟨b, 0, none⟩)] w fun e w' => Fell (· = b) w e w' := by
  obtain ⟨i0, hi, hz0, hz1, hz2⟩ := info_parts infoY
  have hbl : b < w.heap.size := h.lt
  have H1 := Lib.hid h1
  by_cases h0 : s.length = 0
  · have HB := Lib.hid (byte_more b w (by rw [← List.length_eq_zero_iff.1 h0]; exact h))
    clear h h1
    go_enter Tryz.func92, Tryz.ntmps92
    go_wp2_with fail
    refine HB.out.mono ?_
    rintro e w1 ⟨rfl, rfl⟩
    exact ⟨rfl, 2, by decide, rfl, Alt.refl _ _⟩
  have HB := Lib.hid (byte_some b (s.getD 0 0) (s.drop 1) w (by rw [← drop_cons' s 0 (by omega)]; exact h))
  clear h h1
  go_enter Tryz.func92, Tryz.ntmps92
  go_wp2_with fail
  refine HB.out.mono ?_
  rintro e w1 ⟨rfl, hG, hR⟩
  have HR := Lib.hid hR
  have HA := Lib.hid (Alt.of_grown (R := (· = b)) hG (fun j hj => by injection hj with hj; exact hj.symm))
  have hs1 := hG.size
  clear hG hR HB
  go_wp2
  go_loopg [3, 4] 71 (fun g s3 s4 wr => ∃ k : Nat, k ≤ 71 ∧ k < s.length ∧ 71 - k ≤ g ∧ s4 = .int .u8 ((s.getD k 0).toNat : Int) ∧ wr.ownsRow w.heap.size 5 1 s3 k ((s.take k).map Y) ∧ Hid (Alt (· = b) w wr) ∧ w.heap.size ≤ wr.heap.size ∧ Hid (Rd wr b (s.drop (k + 1))))
  case atStart => exact ⟨0, by omega, by omega, by omega, rfl, by simpa using World.ownsRow_nil _ _ _ _, HA, hs1, HR⟩
  case round =>
    obtain ⟨k, hk, hks, hg, rfl, hown, hal, hsz, hrd⟩ := hrel
    have hne : (((s.getD k 0).toNat : Int) != 10) = true := by
      have h0 := H1.out k hks hk
      simp only [bne_iff_ne, ne_eq]
      intro e
      exact h0 (UInt8.toNat_inj.1 (show _ = ((10 : UInt8)).toNat by have : (10 : UInt8).toNat = 10 := rfl; omega))
    by_cases hlt : k < 71
    · have hd71 : decide ((k : Int) < 71) = true := by simp; omega
      obtain ⟨A9, c9, rfl⟩ := own_slice hown
      have HTK : Hid ((s.take (k + 1)).map Y = (s.take k).map Y ++ [.int .u8 ((s.getD k 0).toNat : Int)]) := by
        show _ = _
        rw [take_snoc' s k (by omega), List.map_append]
        rfl
      have HNB := Lib.hid (fun W (hn : k + 1 < s.length) (h : Rd W b (s.drop (k + 1))) => byte_some b (s.getD (k + 1) 0) (s.drop (k + 2)) W (by rw [← drop_cons' s (k + 1) hn]; exact h))
      have HNE := Lib.hid (fun W (hn : ¬ k + 1 < s.length) (h : Rd W b (s.drop (k + 1))) => byte_more b W (by rw [List.drop_eq_nil_of_le (by omega)] at h; exact h))
      generalize s.getD k 0 = x at *
      have hcell : ∀ j u, [Value.int .u8 (x.toNat : Int)][j]? = some u → (wr.alloc (.cells #[.int .u8 (x.toNat : Int)] 5)).cell? ((⟨wr.heap.size, 0, none⟩ : Addr).add j) = some u := by
        intro j u hu
        have h := (Whole.made wr 5 #[.int .u8 (x.toNat : Int)]).at_ j
        rw [Addr.add_mid, Nat.zero_add, h]
        simpa using hu
      go_wp2_with (first
        | (go_at_call 87; refine (must_yes _ _).mono ?_; rintro e w' ⟨rfl, rfl⟩)
        | (at_builtin; go_loud (refine wpList_append_own_at _ rfl _ _ 78 rfl w.heap.size 5 i0 (.int .u8 0) 1 1 Tryz.underlying78 hi hz0 hz1 hz2 rfl (by decide) _ _ _ rfl (hown.alloc _) ⟨wr.heap.size, 0, none⟩ 1 1 [.int .u8 (x.toNat : Int)] rfl (by simp) hcell (yb_one [x]) (by unfold maxLen; omega) (by omega) (by simp; omega) ?_)))
      intro v' w2 hown' hgr _ _
      have hown' : w2.ownsRow w.heap.size 5 1 v' (k + 1) ((s.take (k + 1)).map Y) := by rw [HTK.out, List.map_take]; exact hown'
      have HOW := Lib.hid hown'
      obtain ⟨A', c', rfl⟩ := own_slice hown'
      have hvb : (Value.slice A' (k + 1) c').ownBlock ≠ some b := by
        intro e
        have := (hown'.lt b e).1
        omega
      have HVB := Lib.hid hvb
      have hrow : ∀ j, (Value.slice A9 k c9).ownBlock = some j → w.heap.size ≤ j := fun j hj => (hown.lt j hj).1
      have HAL := Lib.hid ((hal.out.alloc (.cells #[.int .u8 (x.toNat : Int)] 5)).grown hgr (fun j hj => .inl (hrow j hj)))
      have HRD : Hid (Rd w2 b (s.drop (k + 1))) := by
        have h9 := Whole.past hrd.out (.cells #[.int .u8 (x.toNat : Int)] 5)
        exact Whole.grown h9 hgr (fun e => by have := hrow b e.symm; omega)
      have hs2 : w.heap.size ≤ w2.heap.size := HAL.out.size
      clear hown hown' hgr hcell hvb hrow
      by_cases hnx : k + 1 < s.length
      · go_wp2_with fail
        refine (HNB.out w2 hnx HRD.out).mono ?_
        rintro e w3 ⟨rfl, hG, hR⟩
        have HAL3 := Lib.hid (HAL.out.grown hG (fun j hj => by injection hj with hj; exact .inr hj.symm))
        have how3 : w3.ownsRow w.heap.size 5 1 (.slice A' (k + 1) c') (k + 1) ((s.take (k + 1)).map Y) := HOW.out.kept hG (.inr (fun e => HVB.out e))
        have HR3 := Lib.hid hR
        have hs3 : w.heap.size ≤ w3.heap.size := HAL3.out.size
        clear hG hR
        go_wp2
        go_roundg (71 - (k + 1))
        case measure => omega
        case rel => exact ⟨k + 1, by omega, hnx, Nat.le_refl _, by simp [List.getElem?_eq_getElem hnx], how3, HAL3, hs3, HR3⟩
      · go_wp2_with fail
        refine (HNE.out w2 hnx HRD.out).mono ?_
        rintro e w3 ⟨rfl, rfl⟩
        exact ⟨rfl, 2, by decide, rfl, HAL.out⟩
    · obtain rfl : k = 71 := by omega
      obtain ⟨A9, c9, rfl⟩ := own_slice hown
      generalize s.getD 71 0 = x at *
      go_wp2_with (go_at_call 87; refine (must_no _ _).mono ?_; rintro e w' ⟨rfl, rfl⟩)
      exact ⟨rfl, 1, by decide, rfl, hal.out⟩
end Go.Proofs.YtfaijkgfhdhhbaaGreatDoor
namespace Go.Proofs.YtfaijkgfhdhhbaaGreatDoor
open Go.RowKit

/-- Where the first newline stands. -/
def nlAt : List UInt8 → Option Nat
  | [] => none
  | b :: r => if b = 10 then some 0 else (nlAt r).map (· + 1)
theorem nlAt_some : ∀ (s : List UInt8) (m : Nat), nlAt s = some m → m < s.length ∧ s.getD m 0 = 10 ∧ ∀ j, j < m → s.getD j 0 ≠ 10
  | [], _, h => by cases h
  | b :: r, m, h => by
    unfold nlAt at h
    by_cases hb : b = 10
    · rw [if_pos hb] at h
      injection h with h
      subst h
      exact ⟨by simp, by simpa using hb, fun j hj => absurd hj (Nat.not_lt_zero _)⟩
    · rw [if_neg hb] at h
      cases hr : nlAt r with
      | none => rw [hr] at h; cases h
      | some k =>
        rw [hr] at h
        obtain rfl : k + 1 = m := by injection h
        obtain ⟨h1, h2, h3⟩ := nlAt_some r k hr
        refine ⟨by simp; omega, by simpa using h2, fun j hj => ?_⟩
        cases j with
        | zero => simpa using hb
        | succ j => simpa using h3 j (by omega)
theorem nlAt_none : ∀ (s : List UInt8), nlAt s = none → ∀ j, j < s.length → s.getD j 0 ≠ 10
  | [], _, j, hj => absurd hj (Nat.not_lt_zero _)
  | b :: r, h, j, hj => by
    unfold nlAt at h
    by_cases hb : b = 10
    · rw [if_pos hb] at h
      cases h
    · rw [if_neg hb] at h
      cases hr : nlAt r with
      | some k => rw [hr] at h; cases h
      | none =>
        cases j with
        | zero => simpa using hb
        | succ j => simpa using nlAt_none r hr j (by simpa using hj)
theorem nlAt_put (t r : List UInt8) (h : (10 : UInt8) ∉ t) : nlAt (t ++ 10 :: r) = some t.length := by
  induction t with
  | nil => simp [nlAt]
  | cons b u ih =>
    have hb : b ≠ 10 := fun e => h (by simp [e])
    rw [List.cons_append]
    unfold nlAt
    rw [if_neg hb, ih (fun hm => h (List.mem_cons_of_mem _ hm))]
    rfl
/-- A line, and what is behind it. -/
def lineV (s : List UInt8) : Option (List UInt8 × List UInt8) :=
  match nlAt s with
  | some m => if m ≤ 71 then some (s.take m, s.drop (m + 1)) else none
  | none => none
theorem lineV_put (t r : List UInt8) (h : (10 : UInt8) ∉ t) (hl : t.length ≤ 71) : lineV (t ++ 10 :: r) = some (t, r) := by
  unfold lineV
  rw [nlAt_put t r h]
  dsimp only
  rw [if_pos hl, List.take_left]
  congr 2
  rw [show t ++ 10 :: r = (t ++ [10]) ++ r by simp, show t.length + 1 = (t ++ [10]).length by simp, List.drop_left]
theorem lineV_back (s t r : List UInt8) (h : lineV s = some (t, r)) : s = t ++ 10 :: r ∧ t.length ≤ 71 := by
  unfold lineV at h
  cases hm : nlAt s with
  | none => rw [hm] at h; cases h
  | some m =>
    rw [hm] at h
    dsimp only at h
    obtain ⟨h1, h2, -⟩ := nlAt_some s m hm
    by_cases h71 : m ≤ 71
    · rw [if_pos h71] at h
      injection h with h
      injection h with ha hb
      subst ha hb
      refine ⟨?_, by rw [List.length_take]; omega⟩
      have h2' : s[m] = 10 := by simpa [List.getD, List.getElem?_eq_getElem h1] using h2
      rw [← h2', ← List.drop_eq_getElem_cons h1, List.take_append_drop]
    · rw [if_neg h71] at h
      cases h
theorem lineV_less (s t r : List UInt8) (h : lineV s = some (t, r)) : r.length < s.length := by
  rw [(lineV_back s t r h).1]
  simp
  omega
theorem rdline_any (b : Nat) (s : List UInt8) (w : World) (h : Rd w b s) :
    Calls Tryz.prog 92 #[.pointer (some ⟨b, 0, none⟩)] w fun e w' => (∃ t r, lineV s = some (t, r) ∧ e = .returned (.string ⟨t.toArray⟩) ∧ Alt (· = b) w w' ∧ Rd w' b r) ∨ (lineV s = none ∧ Fell (· = b) w e w') := by
  cases hm : nlAt s with
  | none =>
    have hv : lineV s = none := by unfold lineV; rw [hm]
    exact (rdline_bad b s w h (fun j hj _ => nlAt_none s hm j hj)).mono fun _ _ hf => .inr ⟨hv, hf⟩
  | some m =>
    obtain ⟨h1, h2, h3⟩ := nlAt_some s m hm
    by_cases h71 : m ≤ 71
    · have hv : lineV s = some (s.take m, s.drop (m + 1)) := by unfold lineV; rw [hm]; dsimp only; rw [if_pos h71]
      refine (rdline_ok b m s w h h3 h1 h2 h71).mono ?_
      rintro e w' ⟨rfl, ha, hr⟩
      exact .inl ⟨_, _, hv, rfl, ha, hr⟩
    · have hv : lineV s = none := by unfold lineV; rw [hm]; dsimp only; rw [if_neg h71]
      exact (rdline_bad b s w h (fun j _ hj => h3 j (by omega))).mono fun _ _ hf => .inr ⟨hv, hf⟩
end Go.Proofs.YtfaijkgfhdhhbaaGreatDoor
namespace Go.Proofs.YtfaijkgfhdhhbaaGreatDoor.Flo
open Ieee

/-- A float's place among all. -/
def rk (n : Nat) : Int := if isNaN n then 18446744073709551616 else if S n then -(E n : Int) - 1 else (E n : Int)
def lessB (a b : Nat) : Bool := decide (rk a < rk b)
def bitsC (n : Nat) : Nat := if isNaN n then 9221120237041090561 else n

theorem rk_nan {a : Nat} (h : isNaN a = true) : rk a = 18446744073709551616 := by simp [rk, h]
theorem rk_num {a : Nat} (h : isNaN a = false) : rk a = if S a then -(E a : Int) - 1 else (E a : Int) := by simp [rk, h]
theorem rk_le (a : Nat) : rk a ≤ 18446744073709551616 := by
  have := E_lt a
  unfold rk
  split
  · omega
  · split <;> omega
theorem rk_lt {a : Nat} (h : isNaN a = false) : rk a < 9223372036854775808 := by
  have := E_lt a
  rw [rk_num h]
  split <;> omega
theorem less_nan_left (a b : Nat) (h : isNaN a = true) : lessB a b = false := by
  have := rk_le b
  unfold lessB
  rw [rk_nan h]
  simp; omega
theorem less_nan_right (a b : Nat) (h : isNaN a = false) (k : isNaN b = true) : lessB a b = true := by
  have := rk_lt h
  unfold lessB
  rw [rk_nan k]
  simp; omega
theorem less_zero (a b : Nat) (ha : isZ a = true) (hb : isZ b = true) : lessB a b = (S a && !S b) := by
  have h1 : E a = 0 := by simpa [isZ] using ha
  have h2 : E b = 0 := by simpa [isZ] using hb
  have n1 : isNaN a = false := by simp [isNaN, h1]
  have n2 : isNaN b = false := by simp [isNaN, h2]
  unfold lessB
  rw [rk_num n1, rk_num n2, h1, h2]
  cases S a <;> cases S b <;> rfl
theorem less_num (a b : Nat) (n1 : isNaN a = false) (n2 : isNaN b = false) (hz : isZ a = false ∨ isZ b = false) : lessB a b = decide (key a < key b) := by
  have hz' : E a ≠ 0 ∨ E b ≠ 0 := by
    rcases hz with h | h
    · exact .inl (by simpa [isZ] using h)
    · exact .inr (by simpa [isZ] using h)
  unfold lessB
  rw [rk_num n1, rk_num n2]
  unfold key
  cases S a <;> cases S b <;> (rw [Bool.eq_iff_iff]; simp only [decide_eq_true_eq, Bool.false_eq_true, if_true, if_false]; try omega)
theorem nan_le {a : Nat} (h : isNaN a = false) : E a ≤ inf := by
  have : ¬ inf < E a := by simpa [isNaN] using h
  omega
theorem less_lt (a b : Nat) (n1 : isNaN a = false) (n2 : isNaN b = false) (hz : isZ a = false ∨ isZ b = false) : (double.order a b == some .lt) = lessB a b := by
  rw [lt_num a b (nan_le n1) (nan_le n2), less_num a b n1 n2 hz]
theorem rk_inj {a b : Nat} (ha : a < 18446744073709551616) (hb : b < 18446744073709551616) : decide (rk a = rk b) = decide (bitsC a = bitsC b) := by
  cases n1 : isNaN a <;> cases n2 : isNaN b
  · rw [rk_num n1, rk_num n2]
    have e1 : bitsC a = a := by simp [bitsC, n1]
    have e2 : bitsC b = b := by simp [bitsC, n2]
    rw [e1, e2]
    congr 1
    apply propext
    cases s1 : S a <;> cases s2 : S b <;> simp only [S, beq_eq_false_iff_ne, beq_iff_eq] at s1 s2 <;> simp only [E] <;> simp <;> omega
  · have h := rk_lt n1
    rw [rk_nan n2]
    have e1 : bitsC a = a := by simp [bitsC, n1]
    have e2 : bitsC b = 9221120237041090561 := by simp [bitsC, n2]
    have hne : a ≠ 9221120237041090561 := by
      rintro rfl
      exact absurd n1 (by decide)
    rw [e1, e2, decide_eq_false hne]
    simp; omega
  · have h := rk_lt n2
    rw [rk_nan n1]
    have e2 : bitsC b = b := by simp [bitsC, n2]
    have e1 : bitsC a = 9221120237041090561 := by simp [bitsC, n1]
    have hne : ¬ 9221120237041090561 = b := by
      rintro rfl
      exact absurd n2 (by decide)
    rw [e1, e2, decide_eq_false hne]
    simp; omega
  · rw [rk_nan n1, rk_nan n2]
    simp [bitsC, n1, n2]
end Go.Proofs.YtfaijkgfhdhhbaaGreatDoor.Flo
namespace Go.Proofs.YtfaijkgfhdhhbaaGreatDoor
open Go.RowKit

/-- What Of tells. -/
def ofV (n : Nat) : Nat := if Flo.may n then n else 0

/-- A number out of digits; none of another sign. -/
def hgo : Nat → List UInt8 → Option Nat
  | z, [] => some z
  | z, c :: l => if hval c < 0 then none else hgo (z * 16 + (hval c).toNat) l
def getO : Option Nat → Nat × Bool
  | some n => (ofV n, Flo.may n)
  | none => (0, false)
def getE (l : List UInt8) : Nat × Bool := getO (hgo 0 l)
theorem hval_hx : ∀ d, d < 16 → hval (hx d) = (d : Int) := by decide +kernel
theorem hgo_hexs (j z v : Nat) : hgo z (hexs j v) = some (z * 16 ^ j + v % 16 ^ j) := by
  induction j generalizing z with
  | zero => simp [hexs, hgo, Nat.mod_one]
  | succ j ih =>
    have hd : v / 16 ^ j % 16 < 16 := Nat.mod_lt _ (by decide)
    rw [hexs, hgo, hval_hx _ hd, if_neg (by omega), Int.toNat_natCast, ih]
    congr 1
    have h1 : v % 16 ^ (j + 1) = v / 16 ^ j % 16 * 16 ^ j + v % 16 ^ j := by
      rw [Nat.pow_succ, Nat.mod_mul, Nat.mul_comm (16 ^ j), Nat.add_comm]
    rw [h1, Nat.add_mul, Nat.pow_succ]
    generalize 16 ^ j = q
    have : z * 16 * q = z * (q * 16) := by rw [Nat.mul_assoc, Nat.mul_comm 16 q]
    omega
theorem get_put (n : Nat) (h : n < 18446744073709551616) (hm : Flo.may n = true) : getE (hexs 16 n) = (n, true) := by
  have : hgo 0 (hexs 16 n) = some n := by rw [hgo_hexs, Nat.zero_mul, Nat.zero_add, Nat.mod_eq_of_lt (by simpa using h)]
  simp [getE, getO, this, ofV, hm]
end Go.Proofs.YtfaijkgfhdhhbaaGreatDoor

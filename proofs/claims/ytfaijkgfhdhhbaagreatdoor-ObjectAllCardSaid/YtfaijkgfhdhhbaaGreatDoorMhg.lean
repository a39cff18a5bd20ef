/-
  The reference's reading of commits: the plain part; commits read are those written.
  The reference's word, walked.
-/
import Derived.Test.YtfaijkgfhdhhbaaGreatDoorMgo
import Derived.Test.YtfaijkgfhdhhbaaGreatDoorMgm
import Derived.Test.YtfaijkgfhdhhbaaGreatDoorMge
import Derived.Test.YtfaijkgfhdhhbaaGreatDoorMgj
import Derived.BigQuiet
import Derived.Deep.QuietTactic
namespace Go.Proofs.YtfaijkgfhdhhbaaGreatDoor
open Go.RowKit

theorem getId_back (t : List UInt8) (h : (getId t).2 = true) : hexOf (getN t).l = t := by
  show hexOf (getId t).1 = t
  unfold getId at *
  by_cases hg : good t = true
  · rw [if_pos hg]
    exact hexOf_idl t hg
  · rw [if_neg hg] at h
    cases h
theorem hexs_hgo : ∀ (l : List UInt8) (z v : Nat), hgo z l = some v → z * 16 ^ l.length ≤ v ∧ v < (z + 1) * 16 ^ l.length ∧ hexs l.length v = l
  | [], z, v, h => by
    have e : some z = some v := h
    injection e with e
    subst e
    exact ⟨by simp, by simp, rfl⟩
  | c :: r, z, v, h => by
    have hc := hval_lt c
    unfold hgo at h
    split at h
    · cases h
    · rename_i hn
      obtain ⟨h1, h2, h3⟩ := hexs_hgo r _ v h
      have hx0 := hx_hval c (by omega)
      obtain ⟨m, hm⟩ : ∃ m, m = (hval c).toNat := ⟨_, rfl⟩
      have hm16 : m < 16 := by omega
      rw [← hm] at h1 h2 hx0
      rw [List.length_cons]
      have hp : 0 < 16 ^ r.length := Nat.pow_pos (by decide)
      have hs : hexs (r.length + 1) v = hx (v / 16 ^ r.length % 16) :: hexs r.length v := rfl
      have hd : v / 16 ^ r.length = z * 16 + m := Nat.div_eq_of_lt_le h1 h2
      rw [hs, hd, show (z * 16 + m) % 16 = m by omega, hx0, h3, Nat.pow_succ]
      generalize 16 ^ r.length = P at *
      have e1 : z * (P * 16) = z * 16 * P := by rw [Nat.mul_comm P 16, Nat.mul_assoc]
      have e2 : (z + 1) * (P * 16) = (z * 16 + 16) * P := by rw [Nat.mul_comm P 16, ← Nat.mul_assoc]; congr 1; omega
      refine ⟨?_, ?_, rfl⟩
      · rw [e1]
        exact Nat.le_trans (Nat.mul_le_mul_right P (by omega)) h1
      · rw [e2]
        exact Nat.lt_of_lt_of_le h2 (Nat.mul_le_mul_right P (by omega))
theorem getV_back (t : List UInt8) (h : (getV t).2 = true) : hexs 16 (bitsV (getV t).1) = t ∧ Flo.may (getV t).1 = true ∧ (getV t).1 < 18446744073709551616 := by
  unfold getV at *
  by_cases h16 : t.length = 16
  · rw [if_pos h16] at h ⊢
    unfold getE at *
    cases hh : hgo 0 t with
    | none => rw [hh] at h; cases h
    | some v =>
      rw [hh] at h
      have hm : Flo.may v = true := h
      obtain ⟨-, h2, h3⟩ := hexs_hgo t 0 v hh
      rw [h16] at h2 h3
      have ho : (getO (some v)).1 = v := by
        show ofV v = v
        unfold ofV
        rw [if_pos hm]
      rw [ho]
      exact ⟨by rw [may_bits v hm, h3], hm, by simpa using h2⟩
  · rw [if_neg h16] at h
    cases h
/-! ### A line behind a word -/
def wordV (s wd : List UInt8) : Option (List UInt8 × List UInt8) :=
  if starts s wd = true then
    match nlAt (behind s wd) with
    | some m => some ((behind s wd).take m, (behind s wd).drop (m + 1))
    | none => none
  else none
theorem nl_split (s : List UInt8) (m : Nat) (h : nlAt s = some m) : s = s.take m ++ 10 :: s.drop (m + 1) ∧ (10 : UInt8) ∉ s.take m := by
  obtain ⟨h1, h2, h3⟩ := nlAt_some s m h
  have h2' : s[m] = 10 := by simpa [List.getD, List.getElem?_eq_getElem h1] using h2
  refine ⟨by rw [← h2', ← List.drop_eq_getElem_cons h1, List.take_append_drop], fun hm => ?_⟩
  obtain ⟨i, hi, e⟩ := List.mem_iff_getElem.1 hm
  rw [List.length_take] at hi
  rw [List.getElem_take] at e
  exact h3 i (by omega) (by simpa [List.getD, List.getElem?_eq_getElem (show i < s.length by omega)] using e)
theorem wordV_back (s wd t r : List UInt8) (h : wordV s wd = some (t, r)) : s = wd ++ t ++ 10 :: r ∧ (10 : UInt8) ∉ t := by
  unfold wordV at h
  by_cases hs : starts s wd = true
  · rw [if_pos hs] at h
    have hb := starts_back s wd hs
    obtain ⟨u, hu⟩ : ∃ u, u = behind s wd := ⟨_, rfl⟩
    rw [← hu] at h hb
    cases hn : nlAt u with
    | none => rw [hn] at h; cases h
    | some m =>
      rw [hn] at h
      injection h with h
      injection h with ha hb2
      obtain ⟨e1, e2⟩ := nl_split u m hn
      rw [ha, hb2] at e1
      rw [ha] at e2
      exact ⟨by rw [hb, e1, List.append_assoc], e2⟩
  · rw [if_neg hs] at h
    cases h
theorem wordV_put (wd t r : List UInt8) (h : (10 : UInt8) ∉ t) : wordV (wd ++ (t ++ 10 :: r)) wd = some (t, r) := by
  unfold wordV
  rw [if_pos (starts_put _ _), behind_put, nlAt_put t r h]
  dsimp only
  rw [List.take_left]
  congr 2
  rw [show t ++ 10 :: r = (t ++ [10]) ++ r by simp, show t.length + 1 = (t ++ [10]).length by simp, List.drop_left]
theorem wordV_less (s wd t r : List UInt8) (h : wordV s wd = some (t, r)) : r.length < s.length := by
  rw [(wordV_back s wd t r h).1]
  simp
  omega
theorem wordV_not (s wd : List UInt8) (h : starts s wd = false) : wordV s wd = none := by
  unfold wordV
  rw [if_neg (by rw [h]; decide)]
/-! ### The reference's way -/
def parR : Nat → List UInt8 → List Nm → Option (List Nm × List UInt8)
  | 0, _, _ => none
  | f + 1, rest, acc =>
    match wordV rest parW with
    | none => some (acc, rest)
    | some p => if (getId p.1).2 = true then parR f p.2 (acc ++ [getN p.1]) else none
theorem parR_fuel : ∀ (f g : Nat) (s : List UInt8) (acc : List Nm), s.length < f → s.length < g → parR f s acc = parR g s acc
  | 0, _, _, _, h, _ => absurd h (Nat.not_lt_zero _)
  | _ + 1, 0, _, _, _, h => absurd h (Nat.not_lt_zero _)
  | f + 1, g + 1, s, acc, h1, h2 => by
    unfold parR
    cases hr : wordV s parW with
    | none => rfl
    | some p =>
      have := wordV_less s parW p.1 p.2 hr
      dsimp only
      rw [parR_fuel f g p.2 _ (by omega) (by omega)]
def tailR (tr : Nm) (ps : List Nm) (rest : List UInt8) : Option Cm :=
  match wordV rest whenW with
  | none => none
  | some p => if (getV p.1).2 = true ∧ p.2.head? = some 10 then (if mayC ⟨tr, ps, (getV p.1).1, p.2.drop 1⟩ then some ⟨tr, ps, (getV p.1).1, p.2.drop 1⟩ else none) else none
def refC (s : List UInt8) : Option Cm :=
  match wordV s treeW with
  | none => none
  | some p => if (getId p.1).2 = true then (match parR (p.2.length + 1) p.2 [] with | none => none | some q => tailR (getN p.1) q.1 q.2) else none
theorem lineP_at (t r : List UInt8) (h : (getId t).2 = true) : parW ++ t ++ 10 :: r = lineP (getN t) ++ r := by
  unfold lineP
  rw [getId_back t h]
  simp [parW]
theorem parR_enc : ∀ (f : Nat) (rest : List UInt8) (acc : List Nm) (q : List Nm × List UInt8), parR f rest acc = some q → ∃ more, q.1 = acc ++ more ∧ rest = more.flatMap lineP ++ q.2
  | 0, _, _, _, h => by cases h
  | f + 1, rest, acc, q, h => by
    unfold parR at h
    cases hr : wordV rest parW with
    | none =>
      rw [hr] at h
      injection h with h
      subst h
      exact ⟨[], by simp, by simp⟩
    | some p =>
      rw [hr] at h
      dsimp only at h
      by_cases hg : (getId p.1).2 = true
      · rw [if_pos hg] at h
        obtain ⟨more, h1, h2⟩ := parR_enc f p.2 _ q h
        refine ⟨getN p.1 :: more, by rw [h1]; simp, ?_⟩
        rw [(wordV_back rest parW p.1 p.2 hr).1, lineP_at p.1 p.2 hg, List.flatMap_cons, List.append_assoc, ← h2]
      · rw [if_neg hg] at h
        cases h
theorem bytesC_parts (x : Cm) : bytesC x = treeW ++ (hexOf x.tree.l ++ 10 :: (x.parents.flatMap lineP ++ (whenW ++ (hexs 16 (bitsV x.time) ++ 10 :: (10 :: x.note))))) := by
  simp [bytesC, treeW, whenW]
theorem refC_enc (s : List UInt8) (x : Cm) (h : refC s = some x) : bytesC x = s ∧ mayC x = true ∧ x.time < 18446744073709551616 := by
  unfold refC at h
  cases h0 : wordV s treeW with
  | none => rw [h0] at h; cases h
  | some p =>
    rw [h0] at h
    dsimp only at h
    by_cases hg : (getId p.1).2 = true
    · rw [if_pos hg] at h
      cases h1 : parR (p.2.length + 1) p.2 [] with
      | none => rw [h1] at h; cases h
      | some q =>
        rw [h1] at h
        dsimp only at h
        unfold tailR at h
        cases h2 : wordV q.2 whenW with
        | none => rw [h2] at h; cases h
        | some r =>
          rw [h2] at h
          dsimp only at h
          by_cases hc : (getV r.1).2 = true ∧ r.2.head? = some 10
          · rw [if_pos hc] at h
            split at h
            · rename_i hm
              injection h with h
              obtain ⟨more, hq1, hq2⟩ := parR_enc _ _ _ _ h1
              rw [List.nil_append] at hq1
              obtain ⟨hv1, hv2, hv3⟩ := getV_back r.1 hc.1
              have hn : r.2 = 10 :: r.2.drop 1 := by
                have := hc.2
                cases hr2 : r.2 with
                | nil => rw [hr2] at this; cases this
                | cons a b => rw [hr2] at this; injection this with this; rw [this]; rfl
              refine ⟨?_, by rw [← h]; exact hm, by rw [← h]; exact hv3⟩
              rw [← h, bytesC_parts]
              dsimp only
              rw [hv1, getId_back p.1 hg, ← hn, hq1, (wordV_back s treeW p.1 p.2 h0).1, List.append_assoc, hq2, (wordV_back q.2 whenW r.1 r.2 h2).1, List.append_assoc]
            · cases h
          · rw [if_neg hc] at h
            cases h
    · rw [if_neg hg] at h
      cases h
theorem getId_put (x : Nm) : (getId (hexOf x.l)).2 = true := by rw [getId_hex x.l x.h]
theorem parR_put (z : List UInt8) (hz : wordV z parW = none) : ∀ (ps acc : List Nm) (f : Nat), ps.length < f → parR f (ps.flatMap lineP ++ z) acc = some (acc ++ ps, z)
  | [], acc, 0, h => absurd h (Nat.not_lt_zero _)
  | [], acc, f + 1, _ => by
    rw [List.flatMap_nil, List.nil_append]
    unfold parR
    rw [hz, List.append_nil]
  | p :: ps, acc, 0, h => absurd h (Nat.not_lt_zero _)
  | p :: ps, acc, f + 1, h => by
    have e : (p :: ps).flatMap lineP ++ z = parW ++ (hexOf p.l ++ 10 :: (ps.flatMap lineP ++ z)) := by simp [lineP, parW]
    rw [e]
    unfold parR
    rw [wordV_put parW _ _ (hex_no10 p.l)]
    dsimp only
    rw [if_pos (getId_put p), getN_hex, parR_put z hz ps (acc ++ [p]) f (by simpa using h)]
    simp
theorem refC_put (x : Cm) (ht : x.time < 18446744073709551616) (hm : mayC x = true) : refC (bytesC x) = some x := by
  have hmt : Flo.may x.time = true := by
    simp only [mayC, Bool.and_eq_true] at hm
    exact hm.1.2
  have hgv : getV (hexs 16 (bitsV x.time)) = (x.time, true) := by
    rw [may_bits _ hmt]
    unfold getV
    rw [if_pos (hexs_len 16 _), get_put _ ht hmt]
  have hst : ∀ u, starts (whenW ++ u) parW = false := by
    intro u
    simp [starts, Lib.hasPrefix, whenW, parW, List.isPrefixOf]
  rw [bytesC_parts]
  unfold refC
  rw [wordV_put treeW _ _ (hex_no10 _)]
  dsimp only
  rw [if_pos (getId_put _), getN_hex, parR_put _ (wordV_not _ _ (hst _)) x.parents [] _ (by rw [List.length_append, linesP_len]; omega)]
  dsimp only
  unfold tailR
  rw [wordV_put whenW _ _ (hexs_no10 _ _)]
  dsimp only
  rw [hgv]
  dsimp only
  rw [if_pos ⟨rfl, rfl⟩, List.nil_append]
  show (if mayC x then some x else none) = some x
  rw [if_pos hm]
/-! ### As the program reads -/
theorem idV_enc (tx wd : List UInt8) (x : Nm) (h : idV tx wd = some x) : tx = wd ++ hexOf x.l := by
  unfold idV at h
  by_cases hs : (starts tx wd && (getId (behind tx wd)).2) = true
  · rw [if_pos hs] at h
    injection h with h
    rw [Bool.and_eq_true] at hs
    have h1 := starts_back tx wd hs.1
    rw [← getId_back _ hs.2, h] at h1
    exact h1
  · rw [if_neg hs] at h
    cases h
theorem timV_enc (tx : List UInt8) (t : Nat) (h : timV tx = some t) : tx = whenW ++ hexs 16 (bitsV t) ∧ t < 18446744073709551616 := by
  unfold timV at h
  by_cases hs : (starts tx whenW && (getV (behind tx whenW)).2) = true
  · rw [if_pos hs] at h
    injection h with h
    rw [Bool.and_eq_true] at hs
    have h1 := starts_back tx whenW hs.1
    obtain ⟨h2, -, h3⟩ := getV_back _ hs.2
    rw [← h2, h] at h1
    rw [h] at h3
    exact ⟨h1, h3⟩
  · rw [if_neg hs] at h
    cases h
theorem parGo_enc : ∀ (f : Nat) (tx s : List UInt8) (acc : List Nm) (q : List Nm × List UInt8 × List UInt8), parGo f tx s acc = some q → ∃ more, q.1 = acc ++ more ∧ tx ++ 10 :: s = more.flatMap lineP ++ (q.2.1 ++ 10 :: q.2.2)
  | 0, _, _, _, _, h => by cases h
  | f + 1, tx, s, acc, q, h => by
    unfold parGo at h
    by_cases hs : starts tx parW = true
    · rw [if_pos hs] at h
      split at h
      · cases hi : idV tx parW with
        | none => rw [hi] at h; cases h
        | some x =>
          rw [hi] at h
          dsimp only at h
          cases hl : lineV s with
          | none => rw [hl] at h; cases h
          | some p =>
            rw [hl] at h
            dsimp only at h
            obtain ⟨more, h1, h2⟩ := parGo_enc f p.1 p.2 _ q h
            refine ⟨x :: more, by rw [h1]; simp, ?_⟩
            rw [List.flatMap_cons, List.append_assoc, ← h2, (lineV_back s p.1 p.2 hl).1, idV_enc tx parW x hi]
            simp [lineP, parW]
      · cases h
    · rw [if_neg hs] at h
      injection h with h
      subst h
      exact ⟨[], by simp, by simp⟩
theorem readC_enc (s : List UInt8) (x : Cm) (h : readC s = some x) : bytesC x = s ∧ mayC x = true ∧ x.time < 18446744073709551616 := by
  have hm := readC_may s x h
  unfold readC at h
  cases h0 : lineV s with
  | none => rw [h0] at h; cases h
  | some p0 =>
    rw [h0] at h
    dsimp only at h
    cases h1 : idV p0.1 treeW with
    | none => rw [h1] at h; cases h
    | some tr =>
      rw [h1] at h
      dsimp only at h
      cases h2 : lineV p0.2 with
      | none => rw [h2] at h; cases h
      | some p1 =>
        rw [h2] at h
        dsimp only at h
        cases h3 : parGo 5 p1.1 p1.2 [] with
        | none => rw [h3] at h; cases h
        | some q =>
          rw [h3] at h
          dsimp only at h
          cases h4 : timV q.2.1 with
          | none => rw [h4] at h; cases h
          | some tm =>
            rw [h4] at h
            dsimp only at h
            cases h5 : lineV q.2.2 with
            | none => rw [h5] at h; cases h
            | some p2 =>
              rw [h5] at h
              dsimp only at h
              by_cases h6 : p2.1 = []
              · rw [if_pos h6] at h
                split at h
                · injection h with h
                  obtain ⟨more, hq1, hq2⟩ := parGo_enc _ _ _ _ _ h3
                  rw [List.nil_append] at hq1
                  obtain ⟨ht1, ht2⟩ := timV_enc _ _ h4
                  refine ⟨?_, hm, by rw [← h]; exact ht2⟩
                  have e0 := (lineV_back s p0.1 p0.2 h0).1
                  have e2 := (lineV_back p0.2 p1.1 p1.2 h2).1
                  have e5 := (lineV_back q.2.2 p2.1 p2.2 h5).1
                  rw [h6, List.nil_append] at e5
                  rw [← h, bytesC_parts]
                  dsimp only
                  rw [e0, e2, hq2, ht1, e5, idV_enc _ _ _ h1, hq1]
                  simp
                · cases h
              · rw [if_neg h6] at h
                cases h
/-- The program and the reference read alike. -/
theorem readC_refC (s : List UInt8) : readC s = refC s := by
  cases h : readC s with
  | some x =>
    obtain ⟨h1, h2, h3⟩ := readC_enc s x h
    rw [← h1, refC_put x h3 h2]
  | none =>
    cases h' : refC s with
    | none => rfl
    | some x =>
      obtain ⟨h1, h2, h3⟩ := refC_enc s x h'
      rw [← h1, readC_put x h3 h2] at h
      cases h
end Go.Proofs.YtfaijkgfhdhhbaaGreatDoor
namespace Go.Proofs.YtfaijkgfhdhhbaaGreatDoor
open Go.RowKit

def wordT (s wd : List UInt8) : List UInt8 × List UInt8 × Bool :=
  match wordV s wd with
  | some p => (p.1, p.2, true)
  | none => ([], [], false)
theorem starts_take (s wd : List UInt8) : starts s wd = decide (s.take wd.length = wd) := by
  rw [Bool.eq_iff_iff]
  unfold starts Lib.hasPrefix
  rw [List.isPrefixOf_iff_prefix, List.prefix_iff_eq_take, decide_eq_true_iff]
  exact eq_comm
theorem behind_drop (s wd : List UInt8) (h : starts s wd = true) : behind s wd = s.drop wd.length := by
  obtain ⟨u, hu⟩ : ∃ u, u = behind s wd := ⟨_, rfl⟩
  have hb := starts_back s wd h
  rw [← hu] at hb ⊢
  rw [hb, List.drop_left]
theorem nlAt_at (u : List UInt8) (m : Nat) (h1 : ∀ j, j < m → u.getD j 0 ≠ 10) (h2 : m < u.length) (h3 : u.getD m 0 = 10) : nlAt u = some m := by
  cases h : nlAt u with
  | none => exact absurd h3 (nlAt_none u h m h2)
  | some q =>
    obtain ⟨a, b, c⟩ := nlAt_some u q h
    rcases Nat.lt_trichotomy q m with hlt | rfl | hgt
    · exact absurd b (h1 q hlt)
    · rfl
    · exact absurd h3 (c m hgt)
theorem nlAt_no (u : List UInt8) (h1 : ∀ j, j < u.length → u.getD j 0 ≠ 10) : nlAt u = none := by
  cases h : nlAt u with
  | none => rfl
  | some q =>
    obtain ⟨a, b, -⟩ := nlAt_some u q h
    exact absurd b (h1 q a)
theorem getD_drop (s : List UInt8) (n j : Nat) : (s.drop n).getD j 0 = s.getD (n + j) 0 := by simp [List.getD, List.getElem?_drop]
theorem wordT_at (s wd : List UInt8) (k : Nat) (hs : starts s wd = true) (hn : wd.length ≤ k) (hk : k < s.length) (h1 : ∀ j, wd.length ≤ j → j < k → s.getD j 0 ≠ 10) (h3 : s.getD k 0 = 10) : wordT s wd = ((s.take k).drop wd.length, s.drop (k + 1), true) := by
  have h : nlAt (s.drop wd.length) = some (k - wd.length) := nlAt_at _ _ (fun j hj => by rw [getD_drop]; exact h1 _ (by omega) (by omega)) (by rw [List.length_drop]; omega) (by rw [getD_drop, show wd.length + (k - wd.length) = k by omega]; exact h3)
  unfold wordT wordV
  rw [if_pos hs, behind_drop s wd hs, h]
  dsimp only
  rw [List.drop_take, List.drop_drop, show wd.length + (k - wd.length + 1) = k + 1 by omega]
theorem wordT_no (s wd : List UInt8) (h1 : ∀ j, wd.length ≤ j → j < s.length → s.getD j 0 ≠ 10) : wordT s wd = ([], [], false) := by
  unfold wordT wordV
  by_cases hs : starts s wd = true
  · rw [if_pos hs, behind_drop s wd hs, nlAt_no _ (fun j hj => by rw [getD_drop]; rw [List.length_drop] at hj; exact h1 _ (by omega) (by omega))]
  · rw [if_neg hs]
theorem wordT_not (s wd : List UInt8) (hs : starts s wd = false) : wordT s wd = ([], [], false) := by
  unfold wordT
  rw [wordV_not s wd hs]
set_option maxHeartbeats 2000000 in
theorem rword_any (s wd : List UInt8) (w : World) (hl : s.length ≤ 1048576) (hwl : wd.length ≤ 100) : Calls Tryz.prog 80 #[.string ⟨s.toArray⟩, .string ⟨wd.toArray⟩] w fun e w' => e = .returned (.tuple #[.string ⟨(wordT s wd).1.toArray⟩, .string ⟨(wordT s wd).2.1.toArray⟩, .bool (wordT s wd).2.2]) ∧ ∃ k, w' = w.drewN k := by
  by_cases hlen : s.length < wd.length
  · have hst : starts s wd = false := by
      rw [starts_take]
      refine decide_eq_false (fun e => ?_)
      have := congrArg List.length e
      rw [List.length_take] at this
      omega
    rw [wordT_not s wd hst]
    clear hst
    go_enter Tryz.func80, Tryz.ntmps80
    go_wp2
    go_ret3
    exact ⟨rfl, 0, rfl⟩
  · have hlen' : wd.length ≤ s.length := by omega
    have hd0 : decide (s.length < wd.length) = false := by simp; omega
    have hd1 : decide ((s.length : Int) < (wd.length : Int)) = false := by simp; omega
    have htk : ∀ W, (Instr.slice 9 (.string ⟨s.toArray⟩) none (some (.int .i64 (wd.length : Int))) none).run Tryz.prog W = .ok (.string ⟨(s.take wd.length).toArray⟩) W := by
      intro W
      have h := str_cut s 0 wd.length (Nat.zero_le _) hlen' W
      rw [List.drop_zero] at h
      exact h
    obtain ⟨p, hp⟩ : ∃ p, p = s.take wd.length := ⟨_, rfl⟩
    rw [← hp] at htk
    have hst : starts s wd = decide (p = wd) := by rw [hp]; exact starts_take s wd
    have HPL : Hid (p.length = wd.length) := by show _ = _; rw [hp, List.length_take]; omega
    clear hp hlen
    by_cases hpw : p = wd
    · have hpb : (p == wd) = true := by simp [hpw]
      have HST : Hid (starts s wd = true) := by show _ = _; rw [hst]; exact decide_eq_true hpw
      clear hst hpw HPL
      obtain ⟨r, hr⟩ : ∃ r, r = wordT s wd := ⟨_, rfl⟩
      rw [← hr]
      have HR := Lib.hid hr
      clear hr
      go_enter Tryz.func80, Tryz.ntmps80
      go_wp2
      go_loopg [7] s.length (fun g s7 wr => ∃ k : Nat, k ≤ s.length ∧ wd.length ≤ k ∧ s.length - k ≤ g ∧ s7 = .int .i64 k ∧ wr = w ∧ Hid (∀ j, wd.length ≤ j → j < k → s.getD j 0 ≠ 10))
      case atStart => exact ⟨wd.length, hlen', Nat.le_refl _, by omega, rfl, rfl, Lib.hid fun j h1 h2 => by omega⟩
      case round =>
        obtain ⟨k, hk, hwk, hg, rfl, rfl, hall⟩ := hrel
        by_cases hlt : k < s.length
        · have hlt' : (k : Int) < (s.length : Int) := by omega
          have hidx := str_atN s k hlt
          by_cases h10 : s.getD k 0 = 10
          · have hq : (((s.getD k 0).toNat : Int) == 10) = true := by rw [h10]; rfl
            have HF : Hid (r = ((s.take k).drop wd.length, s.drop (k + 1), true)) := by show _ = _; rw [HR.out]; exact wordT_at s wd k HST.out hwk hlt hall.out h10
            have hc1 : ∀ W, (Instr.slice 9 (.string ⟨s.toArray⟩) (some (.int .i64 (wd.length : Int))) (some (.int .i64 (k : Int))) none).run Tryz.prog W = .ok (.string ⟨((s.take k).drop wd.length).toArray⟩) W := fun W => str_cut s wd.length k hwk hk W
            have hc2 : ∀ W, (Instr.slice 9 (.string ⟨s.toArray⟩) (some (.int .i64 ((k : Int) + 1))) none none).run Tryz.prog W = .ok (.string ⟨(s.drop (k + 1)).toArray⟩) W := by
              intro W
              have h := str_from s (k + 1) (by omega) W
              rw [show ((k + 1 : Nat) : Int) = (k : Int) + 1 by omega] at h
              exact h
            clear h10 hpb
            generalize (s.take k).drop wd.length = t at *
            generalize s.drop (k + 1) = u at *
            generalize s.getD k 0 = ch at *
            go_wp2_with fail
            go_quiet (fail)
            go_wp2
            go_ret3
            rw [HF.out]
            exact ⟨rfl, nq, rfl⟩
          · have hq : (((s.getD k 0).toNat : Int) == 10) = false := by
              have : (s.getD k 0).toNat ≠ 10 := fun e => h10 (UInt8.toNat_inj.1 e)
              rw [beq_eq_false_iff_ne]
              omega
            have HNX : Hid (∀ j, wd.length ≤ j → j < k + 1 → s.getD j 0 ≠ 10) := fun j h1 h2 => by
              by_cases e : j = k
              · rw [e]; exact h10
              · exact hall.out j h1 (by omega)
            clear h10 hpb
            generalize s.getD k 0 = ch at *
            go_wp2
            go_roundg (s.length - (k + 1))
            case measure => omega
            case rel => exact ⟨k + 1, by omega, by omega, Nat.le_refl _, by go_num, rfl, HNX⟩
        · obtain rfl : k = s.length := by omega
          have HF : Hid (r = ([], [], false)) := by show _ = _; rw [HR.out]; exact wordT_no s wd hall.out
          go_wp2
          go_ret3
          rw [HF.out]
          exact ⟨rfl, 0, rfl⟩
    · have hpb : (p == wd) = false := by simp [hpw]
      have hsf : starts s wd = false := by rw [hst]; exact decide_eq_false hpw
      rw [wordT_not s wd hsf]
      clear hst hsf hpw HPL
      go_enter Tryz.func80, Tryz.ntmps80
      go_wp2
      go_ret3
      exact ⟨rfl, 0, rfl⟩
end Go.Proofs.YtfaijkgfhdhhbaaGreatDoor

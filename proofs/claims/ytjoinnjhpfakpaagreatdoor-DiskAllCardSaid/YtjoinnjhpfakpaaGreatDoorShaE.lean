/-
  (*sha.Hash).Put, walked.
-/
import Derived.Test.YtjoinnjhpfakpaaGreatDoorMhb
namespace Go.Proofs.YtjoinnjhpfakpaaGreatDoor
open Go.RowKit

/-- A slice value's bytes: nothing is asked of an empty one. -/
def Bytes (w : World) (v : Value) (bs : List UInt8) : Prop :=
  ∃ (A : Option Addr) (c : Nat), v = .slice A bs.length c ∧ bs.length ≤ c ∧ c ≤ maxLen ∧ (0 < bs.length → ∃ g off, A = some ⟨g, off, none⟩ ∧ ∀ i, i < bs.length → w.cell? ⟨g, off + i, none⟩ = some (Y (bs.getD i 0)))

theorem put_nothing (b : Nat) (A : Option Addr) (c : Nat) (w : World) :
    Calls Tryz.prog 126 #[.pointer (some ⟨b, 0, none⟩), .slice A 0 c] w fun e w' => e = .returned (.tuple #[]) ∧ w = w' := by
  go_enter Tryz.func126, Tryz.ntmps126
  go_wp2
  refine bodyPost_ret (results_none rfl _ _ _) rfl ⟨rfl, rfl⟩

theorem hash_short (b T : Nat) (X bs : List UInt8) (s : ShaM.St) (pt : List UInt8) (w : World) (hp : pt.length = 64) (hW : Whole w b T (splice (hl s pt (X.length + bs.length)) (8 + X.length % 64) (bs.map Y)).toArray)
    (hs : X ≠ [] → s = ShaM.stOf X) (ht : pt.take (X.length % 64) = ShaM.tl X) (h0 : 0 < X.length % 64) (h64 : X.length % 64 + bs.length < 64) : HashAt w b T (X ++ bs) := by
  have hX : X ≠ [] := by rintro rfl; simp at h0
  rw [hl_splice _ _ _ _ _ (by omega)] at hW
  refine ⟨s, lay pt (X.length % 64) bs, by rw [lay_len _ _ _ (by omega), hp], by rw [List.length_append]; exact hW, fun _ => by rw [ShaM.stOf_short _ _ h64]; exact hs hX, ?_⟩
  have e : (X ++ bs).length % 64 = X.length % 64 + bs.length := by simp; omega
  rw [e, lay_take _ _ _ (by omega), ht, ShaM.tl_short _ _ h64]

set_option maxRecDepth 100000 in
set_option maxHeartbeats 1000000 in
theorem put_short (b T g off c : Nat) (X bs : List UInt8) (w : World) (hH : HashAt w b T X) (hX : X.length < 2 ^ 60) (hm : 0 < bs.length) (hc : bs.length ≤ c) (hcm : c ≤ maxLen) (h0 : 0 < X.length % 64) (h64 : X.length % 64 + bs.length < 64)
    (hcell : ∀ i, i < bs.length → w.cell? ⟨g, off + i, none⟩ = some (Y (bs.getD i 0))) (hgb : g ≠ b) :
    Calls Tryz.prog 126 #[.pointer (some ⟨b, 0, none⟩), .slice (some ⟨g, off, none⟩) bs.length c] w fun e w' => e = .returned (.tuple #[]) ∧ w.grownBy w' (some b) ∧ HashAt w' b T (X ++ bs) := by
  obtain ⟨s, pt, hp, hW, hs, ht⟩ := hH
  unfold maxLen at hcm
  have HC := Lib.hid hcell
  have HP := Lib.hid hp
  have HS := Lib.hid hs
  have HT := Lib.hid ht
  have HW := Lib.hid hW
  have c72 : w.cell? ⟨b, 72, none⟩ = some (.int .u64 (X.length : Int)) := (hW.at_ 72).trans (hl_sz s pt _ hp)
  have z72 := hW.thawed 72
  have hw2 : Whole (w.setCell ⟨b, 72, none⟩ (.int .u64 ((X.length : Int) + (bs.length : Int)))) b T (hl s pt (X.length + bs.length)).toArray := by
    rw [← hl_resize s pt X.length _ hp, Int.natCast_add]; exact hW.put _ _
  have HW2 := Lib.hid hw2
  have hg : w.grownBy (w.setCell ⟨b, 72, none⟩ (.int .u64 ((X.length : Int) + (bs.length : Int)))) (some b) := gr_set (gr_refl _ _) (.inl rfl) _
  have HG := Lib.hid hg
  have hne : ((X.length : Int) == 0) = false := beq_eq_false_iff_ne.2 (by omega)
  have hsl := run_slice_arr (P := Tryz.prog) 192 5 64 b 8 (X.length % 64) Tryz.underlying192 (by kernel_rfl) (by omega)
  rw [show ((X.length % 64 : Nat) : Int) = (X.length : Int) % 64 by omega] at hsl
  clear hcell hp hs ht hW hw2 hg
  go_enter Tryz.func126, Tryz.ntmps126
  go_wp2_with (refine wpList_copy_whole rfl (.tmp 44) (.tmp 45) 97 97 rfl 5 Tryz.underlying97 (by kernel_rfl) (some ⟨g, off, none⟩) (64 - X.length % 64) (64 - X.length % 64) bs.length c b (8 + X.length % 64) rfl rfl (hl s pt (X.length + bs.length)) T HW2.out (bs.map Y) ?c1 ?c2 ?c3 (ys_one bs) ?_)
  case c1 => show (bs.map Y).length = min _ _; simp; omega
  case c2 =>
    intro _
    refine ⟨_, rfl, fun j v hv => ?_⟩
    have hj : j < bs.length := by
      rcases Nat.lt_or_ge j bs.length with h | h
      · exact h
      · simp [List.getElem?_eq_none (show (bs.map Y).length ≤ j by simpa using h)] at hv
    rw [Addr.add_mid, World.cell?_setCell_other _ _ _ _ (fun e => hgb (by injection e with e _; exact e.symm)), HC.out j hj, ← hv]
    simp [List.getElem?_eq_getElem hj]
  case c3 => rw [hl_len _ _ _ HP.out]; simp; omega
  intro w2 hW2 hG2
  have HW3 := Lib.hid hW2
  have HG3 := Lib.hid (gr_trans HG.out hG2)
  clear hW2 hG2
  go_wp2
  all_goals exact bodyPost_ret (results_none rfl _ _ _) rfl ⟨rfl, HG3.out, hash_short b T X bs s pt w2 HP.out HW3.out HS.out HT.out h0 h64⟩

/-- The length of a slice value. -/
def lenOf : Value → Nat | .slice _ n _ => n | _ => 0

theorem stOf_step (X bs : List UInt8) (j : Nat) (hm : (X.length + j) % 64 = 0) (hj : j + 64 ≤ bs.length) : ShaM.stOf (X ++ bs.take (j + 64)) = ShaM.comp (ShaM.stOf (X ++ bs.take j)) ((bs.drop j).take 64) := by
  have hl : (X ++ bs.take j).length = X.length + j := by simp; omega
  have e : X ++ bs.take (j + 64) = (X ++ bs.take j) ++ (bs.drop j).take 64 := by rw [List.take_add, List.append_assoc]
  have ht : ShaM.tl (X ++ bs.take j) = [] := by
    apply List.eq_nil_of_length_eq_zero
    rw [ShaM.tl_len, hl]; exact hm
  rw [e, ShaM.stOf_full _ _ (by rw [hl]; simp; omega), ht, List.nil_append]
theorem src_rest {w : World} (g off j o : Nat) (bs : List UInt8) (hc : ∀ i, i < bs.length → w.cell? ⟨g, off + i, none⟩ = some (Y (bs.getD i 0))) (ho : o = off + j) :
    ∀ i, i < bs.length - j → w.cell? ⟨g, o + i, none⟩ = some (Y ((bs.drop j).getD i 0)) := fun i hi => by
  subst ho
  rw [Nat.add_assoc, hc (j + i) (by omega)]
  simp
theorem some_y (l : List UInt8) (k : Nat) (h : k < l.length) : some (Y (l.getD k 0)) = (l.map Y)[k]? := by simp [List.getElem?_eq_getElem h]
theorem hash_rest (b T : Nat) (X bs : List UInt8) (j : Nat) (pt : List UInt8) (w : World) (hp : pt.length = 64) (hj : j ≤ bs.length) (hm : (X.length + j) % 64 = 0) (hlt : (bs.drop j).length < 64)
    (hW : Whole w b T (splice (hl (ShaM.stOf (X ++ bs.take j)) pt (X.length + bs.length)) 8 ((bs.drop j).map Y)).toArray) : HashAt w b T (X ++ bs) := by
  have hl' : (X ++ bs.take j).length = X.length + j := by simp; omega
  have e : X ++ bs = (X ++ bs.take j) ++ bs.drop j := by rw [List.append_assoc, List.take_append_drop]
  have ht : ShaM.tl (X ++ bs.take j) = [] := by
    apply List.eq_nil_of_length_eq_zero
    rw [ShaM.tl_len, hl']; exact hm
  have hs : (X ++ bs.take j).length % 64 + (bs.drop j).length < 64 := by rw [hl', hm]; omega
  have hW2 := hl_splice (ShaM.stOf (X ++ bs.take j)) pt (X.length + bs.length) 0 (bs.drop j) (by omega)
  rw [show 8 + 0 = 8 from rfl] at hW2
  rw [hW2] at hW
  refine ⟨_, lay pt 0 (bs.drop j), by rw [lay_len _ _ _ (by omega), hp], by rw [List.length_append]; exact hW, fun _ => by rw [e, ShaM.stOf_short _ _ hs], ?_⟩
  have e2 : (X ++ bs).length % 64 = 0 + (bs.drop j).length := by rw [List.length_append]; rw [List.length_drop] at *; omega
  rw [e2, lay_take _ _ _ (by omega), e, ShaM.tl_short _ _ hs, ht, List.take_zero]
theorem lay_all (pt X bs : List UInt8) (k : Nat) (hp : pt.length = 64) (ht : pt.take (X.length % 64) = ShaM.tl X) (hk : k + X.length % 64 = 64) (hkm : k ≤ bs.length) : lay pt (X.length % 64) (bs.take k) = ShaM.tl X ++ bs.take k := by
  have h := lay_take pt (X.length % 64) (bs.take k) (by simp; omega)
  rw [ht, List.take_of_length_le (by rw [lay_len _ _ _ (by simp; omega)]; simp; omega)] at h
  exact h
theorem src_at {w : World} (g off j o : Nat) (bs : List UInt8) (hc : ∀ i, i < bs.length → w.cell? ⟨g, off + i, none⟩ = some (Y (bs.getD i 0))) (ho : o = off + j) (hj : j + 64 ≤ bs.length) :
    ∀ i, i < 64 → w.cell? ⟨g, o + i, none⟩ = some (Y (((bs.drop j).take 64).getD i 0)) := fun i hi => by
  subst ho
  rw [Nat.add_assoc, hc (j + i) (by omega)]
  simp [hi]

set_option maxRecDepth 100000 in
set_option maxHeartbeats 4000000 in
theorem put_even (b T g off c : Nat) (X bs : List UInt8) (w : World) (hTab : Tabs w) (hb1 : 1 ≠ b) (hb2 : 2 ≠ b) (hH : HashAt w b T X) (hX : X.length < 2 ^ 60) (hm : 0 < bs.length) (hc : bs.length ≤ c) (hcm : c ≤ maxLen) (hne0 : X ≠ []) (h0 : X.length % 64 = 0)
    (hcell : ∀ i, i < bs.length → w.cell? ⟨g, off + i, none⟩ = some (Y (bs.getD i 0))) (hgb : g ≠ b) :
    Calls Tryz.prog 126 #[.pointer (some ⟨b, 0, none⟩), .slice (some ⟨g, off, none⟩) bs.length c] w fun e w' => e = .returned (.tuple #[]) ∧ w.grownBy w' (some b) ∧ HashAt w' b T (X ++ bs) := by
  obtain ⟨s, pt, hp, hW, hs, ht⟩ := hH
  obtain rfl := hs hne0
  unfold maxLen at hcm
  have HTab := Lib.hid hTab
  have HC := Lib.hid hcell
  have HP := Lib.hid hp
  have c72 : w.cell? ⟨b, 72, none⟩ = some (.int .u64 (X.length : Int)) := (hW.at_ 72).trans (hl_sz _ pt _ hp)
  have z72 := hW.thawed 72
  have hw2 : Whole (w.setCell ⟨b, 72, none⟩ (.int .u64 ((X.length : Int) + (bs.length : Int)))) b T (hl (ShaM.stOf X) pt (X.length + bs.length)).toArray := by
    rw [← hl_resize _ pt X.length _ hp, Int.natCast_add]; exact hW.put _ _
  have HW2 := Lib.hid hw2
  have hg : w.grownBy (w.setCell ⟨b, 72, none⟩ (.int .u64 ((X.length : Int) + (bs.length : Int)))) (some b) := gr_set (gr_refl _ _) (.inl rfl) _
  have HG := Lib.hid hg
  have hpos : 0 < X.length := List.length_pos_iff.2 hne0
  have hne : ((X.length : Int) == 0) = false := beq_eq_false_iff_ne.2 (by omega)
  have hne2 : ((bs.length : Int) == 0) = false := beq_eq_false_iff_ne.2 (by omega)
  have hrem : (X.length : Int) % 64 = 0 := by omega
  have H0 := Lib.hid h0
  clear hcell hp hs ht hW hw2 hg hTab h0 hpos hne0
  go_enter Tryz.func126, Tryz.ntmps126
  go_wp2
  clear hrem c72 z72
  go_loopw [1] (fun v wr => ∃ j o cp pt', v = .slice (some ⟨g, o, none⟩) (bs.length - j) cp ∧ bs.length - j ≤ cp ∧ cp ≤ 9223372036854775807 ∧ j ≤ bs.length ∧ (X.length + j) % 64 = 0 ∧ (0 < bs.length - j → o = off + j) ∧ pt'.length = 64 ∧
      Whole wr b T (hl (ShaM.stOf (X ++ bs.take j)) pt' (X.length + bs.length)).toArray ∧ w.grownBy wr (some b)) (fun v _ => lenOf v)
  case atStart => exact ⟨0, off, c, pt, rfl, hc, hcm, Nat.zero_le _, H0.out, fun _ => rfl, HP.out, by rw [List.take_zero, List.append_nil]; exact HW2.out, HG.out⟩
  case round =>
    obtain ⟨j, o, cp, pt', rfl, hjc, hcp, hj, hmod, ho, hp', hW', hG'⟩ := hrel
    have HW' := Lib.hid hW'
    have HG' := Lib.hid hG'
    have HP' := Lib.hid hp'
    have HO := Lib.hid ho
    have HM := Lib.hid hmod
    clear hW' hG' hp' ho hmod
    obtain ⟨m, hm2⟩ : ∃ m, m = bs.length - j := ⟨_, rfl⟩
    have HM2 := Lib.hid hm2
    rw [← hm2]
    rw [← hm2] at hjc
    clear hm2
    by_cases h64 : 64 ≤ m
    · have hr : Hid (∀ i, i < 64 → wr.cell? ⟨g, o + i, none⟩ = some (Y (((bs.drop j).take 64).getD i 0))) :=
        src_at g off j o bs (fun i hi => HG'.out.cell (HC.out i hi) (by simpa using hgb)) (HO.out (by have := HM2.out; omega)) (by have := HM2.out; omega)
      have hTr := Lib.hid (HTab.out.grown HG'.out (by simpa using hb1) (by simpa using hb2))
      have k64 : (64 : Int) ≤ (cp : Int) := by omega
      have k0 : (64 : Int) ≤ (m : Int) := by omega
      by_cases hcc : cp = 64
      all_goals
        try subst hcc
        go_wp2_with fail
        go_region_held3 (fun _ => True) (trivial) (first | (go_at_call 179; refine (mix_any b T g o 64 _ _ (ShaM.stOf (X ++ bs.take j)) ((bs.drop j).take 64) wr.drew (by omega) (by omega) (by unfold maxLen; omega) hTr.out.drew HW'.out.drew (hl_isSt _ _ _) hr.out).mono ?_; rintro e w2 ⟨rfl, hG2, hW2⟩))
        have HW3 : Hid (Whole w2 b T (hl (ShaM.stOf (X ++ bs.take (j + 64))) pt' (X.length + bs.length)).toArray) := by
          rw [hl_set] at hW2
          rw [stOf_step X bs j HM.out (by have := HM2.out; omega)]
          exact hW2
        have HG3 := Lib.hid (gr_trans (gr_drew HG'.out) hG2)
        clear hW2 hG2
        have hm3 : Hid (bs.length - (j + 64) = m - 64) := by have := HM2.out; show _ = _; omega
        go_wp2
        go_roundw
        case rel =>
          first
            | exact ⟨j + 64, o, 0, pt', by rw [hm3.out, show m - 64 = 0 by omega], by have := hm3.out; omega, by omega, by have := HM2.out; omega, by have := HM.out; omega, fun h => by have := hm3.out; omega, HP'.out, HW3.out, HG3.out⟩
            | exact ⟨j + 64, o + 64, _, pt', by rw [hm3.out], by have := hm3.out; omega, by omega, by have := HM2.out; omega, by have := HM.out; omega, fun h => by have := HO.out (by have := HM2.out; omega); omega, HP'.out, HW3.out, HG3.out⟩
        case measure => simp [lenOf]; omega
    · have hmm : (m : Int) < 64 := by omega
      have hsrc : Hid (∀ i, i < m → wr.cell? ⟨g, o + i, none⟩ = some (Y ((bs.drop j).getD i 0))) := fun i hi =>
        src_rest g off j o bs (fun i hi => HG'.out.cell (HC.out i hi) (by simpa using hgb)) (HO.out (by have := HM2.out; omega)) i (by have := HM2.out; omega)
      have hlen : Hid ((bs.drop j).length = m) := by show _ = _; rw [List.length_drop]; exact HM2.out.symm
      go_wp2_with (refine wpList_copy_whole rfl (.tmp 76) (.tmp 77) 97 97 rfl 5 Tryz.underlying97 (by kernel_rfl) (some ⟨g, o, none⟩) 64 64 m cp b 8 rfl rfl (hl (ShaM.stOf (X ++ bs.take j)) pt' (X.length + bs.length)) T HW'.out ((bs.drop j).map Y) ?c1 ?c2 ?c3 (ys_one _) ?_)
      case c1 => show ((bs.drop j).map Y).length = min _ _; rw [List.length_map, hlen.out]; omega
      case c2 =>
        intro _
        refine ⟨_, rfl, fun k v hv => ?_⟩
        have hk : k < m := by
          rcases Nat.lt_or_ge k m with h | h
          · exact h
          · rw [List.getElem?_eq_none (by rw [List.length_map, hlen.out]; exact h)] at hv; cases hv
        rw [Addr.add_mid, hsrc.out k hk, ← hv]
        exact some_y _ _ (by rw [hlen.out]; exact hk)
      case c3 => rw [hl_len _ _ _ HP'.out, List.length_map, hlen.out]; omega
      intro w2 hW2 hG2
      have HW3 := Lib.hid hW2
      have HG3 := Lib.hid (gr_trans HG'.out hG2)
      clear hW2 hG2
      go_wp2
      exact bodyPost_end (results_none rfl _ _ _) rfl ⟨rfl, HG3.out, hash_rest b T X bs j pt' w2 HP'.out hj HM.out (by rw [hlen.out]; omega) (by rw [List.map_drop]; exact HW3.out)⟩

set_option maxRecDepth 100000 in
set_option maxHeartbeats 4000000 in
theorem put_first (b T g off c : Nat) (X bs : List UInt8) (w : World) (hTab : Tabs w) (hb1 : 1 ≠ b) (hb2 : 2 ≠ b) (hH : HashAt w b T X) (hm : 0 < bs.length) (hc : bs.length ≤ c) (hcm : c ≤ maxLen) (hX0 : X = [])
    (hcell : ∀ i, i < bs.length → w.cell? ⟨g, off + i, none⟩ = some (Y (bs.getD i 0))) (hgb : g ≠ b) :
    Calls Tryz.prog 126 #[.pointer (some ⟨b, 0, none⟩), .slice (some ⟨g, off, none⟩) bs.length c] w fun e w' => e = .returned (.tuple #[]) ∧ w.grownBy w' (some b) ∧ HashAt w' b T (X ++ bs) := by
  obtain ⟨s, pt, hp, hW, hs, ht⟩ := hH
  clear hs
  unfold maxLen at hcm
  have HTab := Lib.hid hTab
  have HC := Lib.hid hcell
  have HP := Lib.hid hp
  have hx0 : X.length = 0 := by rw [hX0]; rfl
  have hw1 : Whole (w.setCells b 0 (stl ShaM.H0)) b T (hl ShaM.H0 pt 0).toArray := by
    have := Whole.cells (stl ShaM.H0) 0 _ w hW (by rw [stl_len, hl_len _ _ _ hp]; omega)
    rw [hl_state, hx0] at this
    exact this
  have hg1 : w.grownBy (w.setCells b 0 (stl ShaM.H0)) (some b) := gr_cells _ _ _ (gr_refl _ _)
  have hthere : w.there b 0 8 := fun j hj => ⟨by rw [hW.at_ (0 + j), Array.getElem?_eq_getElem (by rw [hl_size _ _ _ hp]; omega)]; rfl, hW.thawed _⟩
  have hrange : w.rangeAt 1 0 (stl ShaM.H0) := fun j v hv => by
    have hj : j < 8 := by
      rcases Nat.lt_or_ge j 8 with h | h
      · exact h
      · rw [List.getElem?_eq_none (by rw [stl_len]; omega)] at hv; cases hv
    rw [Nat.zero_add, hTab.start j hj, ← hv]
    match j, hj with
    | 0, _ => rfl
    | 1, _ => rfl
    | 2, _ => rfl
    | 3, _ => rfl
    | 4, _ => rfl
    | 5, _ => rfl
    | 6, _ => rfl
    | 7, _ => rfl
  have HW1 := Lib.hid hw1
  have HG1 := Lib.hid hg1
  have HTH := Lib.hid hthere
  have HRG := Lib.hid hrange
  have c72 : w.cell? ⟨b, 72, none⟩ = some (.int .u64 0) := by
    have := (hW.at_ 72).trans (hl_sz s pt _ hp)
    rw [hx0] at this
    exact this
  have d72 : (w.setCells b 0 (stl ShaM.H0)).cell? ⟨b, 72, none⟩ = some (.int .u64 0) := (hw1.at_ 72).trans (hl_sz _ pt _ hp)
  have z72 := hw1.thawed 72
  have hw2 : Whole ((w.setCells b 0 (stl ShaM.H0)).setCell ⟨b, 72, none⟩ (.int .u64 (bs.length : Int))) b T (hl ShaM.H0 pt bs.length).toArray := by
    rw [← hl_resize _ pt 0 _ hp]; exact hw1.put _ _
  have HW2 := Lib.hid hw2
  have hg : w.grownBy ((w.setCells b 0 (stl ShaM.H0)).setCell ⟨b, 72, none⟩ (.int .u64 (bs.length : Int))) (some b) := gr_set hg1 (.inl rfl) _
  have HG := Lib.hid hg
  have hne2 : ((bs.length : Int) == 0) = false := beq_eq_false_iff_ne.2 (by omega)
  have HX0 := Lib.hid hX0
  clear hcell hp ht hW hw2 hg hTab hX0 hx0 hw1 hg1 hthere hrange
  have hone : Hid ((stl ShaM.H0).toArray.all (·.oneCell') = true) := by show _ = true; simp [stl, U]; exact ⟨rfl, rfl, rfl, rfl, rfl, rfl, rfl, rfl⟩
  generalize hst : stl ShaM.H0 = st at *
  have HST := Lib.hid hst
  have hlen8 : Hid (st.length = 8) := by show _ = _; rw [← hst]; rfl
  clear hst
  go_enter Tryz.func126, Tryz.ntmps126
  go_wp2_with (first
    | (refine wpList_load_mid rfl 199 _ rfl 1 0 rfl st _ HRG.out Tryz.underlying199 rfl (by rw [hlen8.out]; kernel_rfl) ?_)
    | (refine wpList_store_mid rfl 199 _ _ rfl b 0 st.toArray rfl rfl (by rw [List.size_toArray, hlen8.out]; exact HTH.out) (by rw [List.size_toArray, hlen8.out]; kernel_rfl) hone.out ?_))
  go_loopw [1] (fun v wr => ∃ j o cp pt', v = .slice (some ⟨g, o, none⟩) (bs.length - j) cp ∧ bs.length - j ≤ cp ∧ cp ≤ 9223372036854775807 ∧ j ≤ bs.length ∧ (X.length + j) % 64 = 0 ∧ (0 < bs.length - j → o = off + j) ∧ pt'.length = 64 ∧
      Whole wr b T (hl (ShaM.stOf (X ++ bs.take j)) pt' (X.length + bs.length)).toArray ∧ w.grownBy wr (some b)) (fun v _ => lenOf v)
  case atStart => exact ⟨0, off, c, pt, rfl, hc, hcm, Nat.zero_le _, by rw [HX0.out]; rfl, fun _ => rfl, HP.out, by rw [HX0.out, List.take_zero, List.append_nil, List.length_nil, Nat.zero_add]; exact HW2.out, HG.out⟩
  case round =>
    obtain ⟨j, o, cp, pt', rfl, hjc, hcp, hj, hmod, ho, hp', hW', hG'⟩ := hrel
    have HW' := Lib.hid hW'
    have HG' := Lib.hid hG'
    have HP' := Lib.hid hp'
    have HO := Lib.hid ho
    have HM := Lib.hid hmod
    clear hW' hG' hp' ho hmod
    obtain ⟨m, hm2⟩ : ∃ m, m = bs.length - j := ⟨_, rfl⟩
    have HM2 := Lib.hid hm2
    rw [← hm2]
    rw [← hm2] at hjc
    clear hm2
    by_cases h64 : 64 ≤ m
    · have hr : Hid (∀ i, i < 64 → wr.cell? ⟨g, o + i, none⟩ = some (Y (((bs.drop j).take 64).getD i 0))) :=
        src_at g off j o bs (fun i hi => HG'.out.cell (HC.out i hi) (by simpa using hgb)) (HO.out (by have := HM2.out; omega)) (by have := HM2.out; omega)
      have hTr := Lib.hid (HTab.out.grown HG'.out (by simpa using hb1) (by simpa using hb2))
      have k64 : (64 : Int) ≤ (cp : Int) := by omega
      have k0 : (64 : Int) ≤ (m : Int) := by omega
      by_cases hcc : cp = 64
      all_goals
        try subst hcc
        go_wp2_with fail
        go_region_held3 (fun _ => True) (trivial) (first | (go_at_call 179; refine (mix_any b T g o 64 _ _ (ShaM.stOf (X ++ bs.take j)) ((bs.drop j).take 64) wr.drew (by omega) (by omega) (by unfold maxLen; omega) hTr.out.drew HW'.out.drew (hl_isSt _ _ _) hr.out).mono ?_; rintro e w2 ⟨rfl, hG2, hW2⟩))
        have HW3 : Hid (Whole w2 b T (hl (ShaM.stOf (X ++ bs.take (j + 64))) pt' (X.length + bs.length)).toArray) := by
          rw [hl_set] at hW2
          rw [stOf_step X bs j HM.out (by have := HM2.out; omega)]
          exact hW2
        have HG3 := Lib.hid (gr_trans (gr_drew HG'.out) hG2)
        clear hW2 hG2
        have hm3 : Hid (bs.length - (j + 64) = m - 64) := by have := HM2.out; show _ = _; omega
        go_wp2
        go_roundw
        case rel =>
          first
            | exact ⟨j + 64, o, 0, pt', by rw [hm3.out, show m - 64 = 0 by omega], by have := hm3.out; omega, by omega, by have := HM2.out; omega, by have := HM.out; omega, fun h => by have := hm3.out; omega, HP'.out, HW3.out, HG3.out⟩
            | exact ⟨j + 64, o + 64, _, pt', by rw [hm3.out], by have := hm3.out; omega, by omega, by have := HM2.out; omega, by have := HM.out; omega, fun h => by have := HO.out (by have := HM2.out; omega); omega, HP'.out, HW3.out, HG3.out⟩
        case measure => simp [lenOf]; omega
    · have hmm : (m : Int) < 64 := by omega
      have hsrc : Hid (∀ i, i < m → wr.cell? ⟨g, o + i, none⟩ = some (Y ((bs.drop j).getD i 0))) := fun i hi =>
        src_rest g off j o bs (fun i hi => HG'.out.cell (HC.out i hi) (by simpa using hgb)) (HO.out (by have := HM2.out; omega)) i (by have := HM2.out; omega)
      have hlen : Hid ((bs.drop j).length = m) := by show _ = _; rw [List.length_drop]; exact HM2.out.symm
      go_wp2_with (refine wpList_copy_whole rfl (.tmp 76) (.tmp 77) 97 97 rfl 5 Tryz.underlying97 (by kernel_rfl) (some ⟨g, o, none⟩) 64 64 m cp b 8 rfl rfl (hl (ShaM.stOf (X ++ bs.take j)) pt' (X.length + bs.length)) T HW'.out ((bs.drop j).map Y) ?c1 ?c2 ?c3 (ys_one _) ?_)
      case c1 => show ((bs.drop j).map Y).length = min _ _; rw [List.length_map, hlen.out]; omega
      case c2 =>
        intro _
        refine ⟨_, rfl, fun k v hv => ?_⟩
        have hk : k < m := by
          rcases Nat.lt_or_ge k m with h | h
          · exact h
          · rw [List.getElem?_eq_none (by rw [List.length_map, hlen.out]; exact h)] at hv; cases hv
        rw [Addr.add_mid, hsrc.out k hk, ← hv]
        exact some_y _ _ (by rw [hlen.out]; exact hk)
      case c3 => rw [hl_len _ _ _ HP'.out, List.length_map, hlen.out]; omega
      intro w2 hW2 hG2
      have HW3 := Lib.hid hW2
      have HG3 := Lib.hid (gr_trans HG'.out hG2)
      clear hW2 hG2
      go_wp2
      exact bodyPost_end (results_none rfl _ _ _) rfl ⟨rfl, HG3.out, hash_rest b T X bs j pt' w2 HP'.out hj HM.out (by rw [hlen.out]; omega) (by rw [List.map_drop]; exact HW3.out)⟩

set_option maxRecDepth 100000 in
set_option maxHeartbeats 4000000 in
theorem put_odd (b T g off c k : Nat) (X bs : List UInt8) (w : World) (hTab : Tabs w) (hb1 : 1 ≠ b) (hb2 : 2 ≠ b) (hH : HashAt w b T X) (hX : X.length < 2 ^ 60) (h0 : 0 < X.length % 64) (hk : k + X.length % 64 = 64) (hkm : k ≤ bs.length) (hc : bs.length ≤ c) (hcm : c ≤ maxLen) (hck : ¬ c = k)
    (hcell : ∀ i, i < bs.length → w.cell? ⟨g, off + i, none⟩ = some (Y (bs.getD i 0))) (hgb : g ≠ b) :
    Calls Tryz.prog 126 #[.pointer (some ⟨b, 0, none⟩), .slice (some ⟨g, off, none⟩) bs.length c] w fun e w' => e = .returned (.tuple #[]) ∧ w.grownBy w' (some b) ∧ HashAt w' b T (X ++ bs) := by
  obtain ⟨s, pt, hp, hW, hs, ht⟩ := hH
  have hne0 : X ≠ [] := by rintro rfl; simp at h0
  obtain rfl := hs hne0
  unfold maxLen at hcm
  have HTab := Lib.hid hTab
  have HC := Lib.hid hcell
  have HP := Lib.hid hp
  have HT := Lib.hid ht
  have c72 : w.cell? ⟨b, 72, none⟩ = some (.int .u64 (X.length : Int)) := (hW.at_ 72).trans (hl_sz _ pt _ hp)
  have z72 := hW.thawed 72
  have hw2 : Whole (w.setCell ⟨b, 72, none⟩ (.int .u64 ((X.length : Int) + (bs.length : Int)))) b T (hl (ShaM.stOf X) pt (X.length + bs.length)).toArray := by
    rw [← hl_resize _ pt X.length _ hp, Int.natCast_add]; exact hW.put _ _
  have HW2 := Lib.hid hw2
  have hg : w.grownBy (w.setCell ⟨b, 72, none⟩ (.int .u64 ((X.length : Int) + (bs.length : Int)))) (some b) := gr_set (gr_refl _ _) (.inl rfl) _
  have HG := Lib.hid hg
  have hpos : 0 < X.length := List.length_pos_iff.2 hne0
  have hne : ((X.length : Int) == 0) = false := beq_eq_false_iff_ne.2 (by omega)
  have hne2 : ((bs.length : Int) == 0) = false := beq_eq_false_iff_ne.2 (by omega)
  have hrem : (0 : Int) < (X.length : Int) % 64 := by omega
  have hge : (64 : Int) ≤ (X.length : Int) % 64 + (k : Int) := by omega
  have hk64 : (k : Int) ≤ 64 := by omega
  have hsl := run_slice_arr (P := Tryz.prog) 192 5 64 b 8 (X.length % 64) Tryz.underlying192 (by kernel_rfl) (by omega)
  rw [show ((X.length % 64 : Nat) : Int) = (X.length : Int) % 64 by omega, show 64 - X.length % 64 = k by omega] at hsl
  have HK := Lib.hid hk
  have H0 := Lib.hid h0
  obtain ⟨cs, hcs⟩ : ∃ cs, cs = (bs.take k).map Y := ⟨_, rfl⟩
  have hcl : cs.length = k := by rw [hcs]; simp; omega
  have HCS := Lib.hid hcs
  clear hcell hp hs ht hW hw2 hg hTab h0 hpos hne0 hk hcs
  go_enter Tryz.func126, Tryz.ntmps126
  go_wp2_with (refine wpList_copy_whole rfl (.tmp 44) (.tmp 45) 97 97 rfl 5 Tryz.underlying97 (by kernel_rfl) (some ⟨g, off, none⟩) k k bs.length c b (8 + X.length % 64) rfl rfl (hl (ShaM.stOf X) pt (X.length + bs.length)) T HW2.out cs ?c1 ?c2 ?c3 (by rw [HCS.out]; exact ys_one _) ?_)
  case c1 => show cs.length = min _ _; rw [hcl]; omega
  case c2 =>
    intro _
    refine ⟨_, rfl, fun j v hv => ?_⟩
    have hj : j < k := by
      rcases Nat.lt_or_ge j k with h | h
      · exact h
      · rw [List.getElem?_eq_none (by rw [hcl]; exact h)] at hv; cases hv
    rw [Addr.add_mid, World.cell?_setCell_other _ _ _ _ (fun e => hgb (by injection e with e _; exact e.symm)), HC.out j (by omega), ← hv, HCS.out, ← some_y _ _ (by simp; omega)]
    simp [hj]
  case c3 => rw [hl_len _ _ _ HP.out, hcl]; have := HK.out; omega
  intro w2 hW2 hG2
  have HG3 := Lib.hid (gr_trans HG.out hG2)
  have HW3 : Hid (Whole w2 b T (hl (ShaM.stOf X) (lay pt (X.length % 64) (bs.take k)) (X.length + bs.length)).toArray) := by
    have := HK.out
    rw [HCS.out, hl_splice _ _ _ _ _ (by rw [HP.out]; simp; omega)] at hW2
    exact hW2
  have hTr := Lib.hid (HTab.out.grown HG3.out (by simpa using hb1) (by simpa using hb2))
  clear hW2 hG2
  have hl64 : Hid ((lay pt (X.length % 64) (bs.take k)).length = 64) := by
    have := HK.out
    show _ = _
    rw [lay_len _ _ _ (by rw [HP.out]; simp; omega), HP.out]
  have hblk : Hid (∀ i, i < 64 → w2.cell? ⟨b, 8 + i, none⟩ = some (Y ((lay pt (X.length % 64) (bs.take k)).getD i 0))) := fun i hi => (HW3.out.at_ (8 + i)).trans (hl_part _ _ _ _ (by rw [hl64.out]; exact hi))
  have hlay : Hid (lay pt (X.length % 64) (bs.take k) = ShaM.tl X ++ bs.take k) := lay_all pt X bs k HP.out HT.out HK.out hkm
  generalize lay pt (X.length % 64) (bs.take k) = pt2 at HW3 hl64 hblk hlay
  go_wp2_with fail
  go_region_held3 (fun _ => True) (trivial) (first | (go_at_call 179; refine (mix_any b T b 8 64 64 _ (ShaM.stOf X) pt2 w2.drew (by omega) (by omega) (by unfold maxLen; omega) hTr.out.drew HW3.out.drew (hl_isSt _ _ _) hblk.out).mono ?_; rintro e w3 ⟨rfl, hG4, hW4⟩))
  have HW5 : Hid (Whole w3 b T (hl (ShaM.stOf (X ++ bs.take k)) pt2 (X.length + bs.length)).toArray) := by
    rw [hl_set, hlay.out, ← ShaM.stOf_full X (bs.take k) (by have := HK.out; simp; omega), ← hlay.out] at hW4
    exact hW4
  have HG5 := Lib.hid (gr_trans (gr_drew HG3.out) hG4)
  clear hW4 hG4 hsl hge hrem
  have hmodk : Hid ((X.length + k) % 64 = 0) := by have := HK.out; show _ = _; omega
  go_wp2
  go_loopw [1] (fun v wr => ∃ j o cp pt', v = .slice (some ⟨g, o, none⟩) (bs.length - j) cp ∧ bs.length - j ≤ cp ∧ cp ≤ 9223372036854775807 ∧ j ≤ bs.length ∧ (X.length + j) % 64 = 0 ∧ (0 < bs.length - j → o = off + j) ∧ pt'.length = 64 ∧
      Whole wr b T (hl (ShaM.stOf (X ++ bs.take j)) pt' (X.length + bs.length)).toArray ∧ w.grownBy wr (some b)) (fun v _ => lenOf v)
  case atStart => exact ⟨k, off + k, _, pt2, rfl, by omega, by omega, hkm, hmodk.out, fun _ => rfl, hl64.out, HW5.out, HG5.out⟩
  case round =>
    obtain ⟨j, o, cp, pt', rfl, hjc, hcp, hj, hmod, ho, hp', hW', hG'⟩ := hrel
    have HW' := Lib.hid hW'
    have HG' := Lib.hid hG'
    have HP' := Lib.hid hp'
    have HO := Lib.hid ho
    have HM := Lib.hid hmod
    clear hW' hG' hp' ho hmod
    obtain ⟨m, hm2⟩ : ∃ m, m = bs.length - j := ⟨_, rfl⟩
    have HM2 := Lib.hid hm2
    rw [← hm2]
    rw [← hm2] at hjc
    clear hm2
    by_cases h64 : 64 ≤ m
    · have hr : Hid (∀ i, i < 64 → wr.cell? ⟨g, o + i, none⟩ = some (Y (((bs.drop j).take 64).getD i 0))) :=
        src_at g off j o bs (fun i hi => HG'.out.cell (HC.out i hi) (by simpa using hgb)) (HO.out (by have := HM2.out; omega)) (by have := HM2.out; omega)
      have hTr := Lib.hid (HTab.out.grown HG'.out (by simpa using hb1) (by simpa using hb2))
      have k64 : (64 : Int) ≤ (cp : Int) := by omega
      have k0 : (64 : Int) ≤ (m : Int) := by omega
      by_cases hcc : cp = 64
      all_goals
        try subst hcc
        go_wp2_with fail
        go_region_held3 (fun _ => True) (trivial) (first | (go_at_call 179; refine (mix_any b T g o 64 _ _ (ShaM.stOf (X ++ bs.take j)) ((bs.drop j).take 64) wr.drew (by omega) (by omega) (by unfold maxLen; omega) hTr.out.drew HW'.out.drew (hl_isSt _ _ _) hr.out).mono ?_; rintro e w2 ⟨rfl, hG2, hW2⟩))
        have HW3 : Hid (Whole w2 b T (hl (ShaM.stOf (X ++ bs.take (j + 64))) pt' (X.length + bs.length)).toArray) := by
          rw [hl_set] at hW2
          rw [stOf_step X bs j HM.out (by have := HM2.out; omega)]
          exact hW2
        have HG3 := Lib.hid (gr_trans (gr_drew HG'.out) hG2)
        clear hW2 hG2
        have hm3 : Hid (bs.length - (j + 64) = m - 64) := by have := HM2.out; show _ = _; omega
        go_wp2
        go_roundw
        case rel =>
          first
            | exact ⟨j + 64, o, 0, pt', by rw [hm3.out, show m - 64 = 0 by omega], by have := hm3.out; omega, by omega, by have := HM2.out; omega, by have := HM.out; omega, fun h => by have := hm3.out; omega, HP'.out, HW3.out, HG3.out⟩
            | exact ⟨j + 64, o + 64, _, pt', by rw [hm3.out], by have := hm3.out; omega, by omega, by have := HM2.out; omega, by have := HM.out; omega, fun h => by have := HO.out (by have := HM2.out; omega); omega, HP'.out, HW3.out, HG3.out⟩
        case measure => simp [lenOf]; omega
    · have hmm : (m : Int) < 64 := by omega
      have hsrc : Hid (∀ i, i < m → wr.cell? ⟨g, o + i, none⟩ = some (Y ((bs.drop j).getD i 0))) := fun i hi =>
        src_rest g off j o bs (fun i hi => HG'.out.cell (HC.out i hi) (by simpa using hgb)) (HO.out (by have := HM2.out; omega)) i (by have := HM2.out; omega)
      have hlen : Hid ((bs.drop j).length = m) := by show _ = _; rw [List.length_drop]; exact HM2.out.symm
      go_wp2_with (refine wpList_copy_whole rfl (.tmp 76) (.tmp 77) 97 97 rfl 5 Tryz.underlying97 (by kernel_rfl) (some ⟨g, o, none⟩) 64 64 m cp b 8 rfl rfl (hl (ShaM.stOf (X ++ bs.take j)) pt' (X.length + bs.length)) T HW'.out ((bs.drop j).map Y) ?c1 ?c2 ?c3 (ys_one _) ?_)
      case c1 => show ((bs.drop j).map Y).length = min _ _; rw [List.length_map, hlen.out]; omega
      case c2 =>
        intro _
        refine ⟨_, rfl, fun k v hv => ?_⟩
        have hk : k < m := by
          rcases Nat.lt_or_ge k m with h | h
          · exact h
          · rw [List.getElem?_eq_none (by rw [List.length_map, hlen.out]; exact h)] at hv; cases hv
        rw [Addr.add_mid, hsrc.out k hk, ← hv]
        exact some_y _ _ (by rw [hlen.out]; exact hk)
      case c3 => rw [hl_len _ _ _ HP'.out, List.length_map, hlen.out]; omega
      intro w2 hW2 hG2
      have HW3 := Lib.hid hW2
      have HG3 := Lib.hid (gr_trans HG'.out hG2)
      clear hW2 hG2
      go_wp2
      exact bodyPost_end (results_none rfl _ _ _) rfl ⟨rfl, HG3.out, hash_rest b T X bs j pt' w2 HP'.out hj HM.out (by rw [hlen.out]; omega) (by rw [List.map_drop]; exact HW3.out)⟩
set_option maxRecDepth 100000 in
set_option maxHeartbeats 4000000 in
theorem put_odd_just (b T g off k : Nat) (X bs : List UInt8) (w : World) (hTab : Tabs w) (hb1 : 1 ≠ b) (hb2 : 2 ≠ b) (hH : HashAt w b T X) (hX : X.length < 2 ^ 60) (h0 : 0 < X.length % 64) (hk : k + X.length % 64 = 64) (hkm : k ≤ bs.length) (hc : bs.length ≤ k) (hcm : k ≤ maxLen)
    (hcell : ∀ i, i < bs.length → w.cell? ⟨g, off + i, none⟩ = some (Y (bs.getD i 0))) (hgb : g ≠ b) :
    Calls Tryz.prog 126 #[.pointer (some ⟨b, 0, none⟩), .slice (some ⟨g, off, none⟩) bs.length k] w fun e w' => e = .returned (.tuple #[]) ∧ w.grownBy w' (some b) ∧ HashAt w' b T (X ++ bs) := by
  obtain ⟨s, pt, hp, hW, hs, ht⟩ := hH
  have hne0 : X ≠ [] := by rintro rfl; simp at h0
  obtain rfl := hs hne0
  unfold maxLen at hcm
  have HTab := Lib.hid hTab
  have HC := Lib.hid hcell
  have HP := Lib.hid hp
  have HT := Lib.hid ht
  have c72 : w.cell? ⟨b, 72, none⟩ = some (.int .u64 (X.length : Int)) := (hW.at_ 72).trans (hl_sz _ pt _ hp)
  have z72 := hW.thawed 72
  have hw2 : Whole (w.setCell ⟨b, 72, none⟩ (.int .u64 ((X.length : Int) + (bs.length : Int)))) b T (hl (ShaM.stOf X) pt (X.length + bs.length)).toArray := by
    rw [← hl_resize _ pt X.length _ hp, Int.natCast_add]; exact hW.put _ _
  have HW2 := Lib.hid hw2
  have hg : w.grownBy (w.setCell ⟨b, 72, none⟩ (.int .u64 ((X.length : Int) + (bs.length : Int)))) (some b) := gr_set (gr_refl _ _) (.inl rfl) _
  have HG := Lib.hid hg
  have hpos : 0 < X.length := List.length_pos_iff.2 hne0
  have hne : ((X.length : Int) == 0) = false := beq_eq_false_iff_ne.2 (by omega)
  have hne2 : ((bs.length : Int) == 0) = false := beq_eq_false_iff_ne.2 (by omega)
  have hrem : (0 : Int) < (X.length : Int) % 64 := by omega
  have hge : (64 : Int) ≤ (X.length : Int) % 64 + (k : Int) := by omega
  have hk64 : (k : Int) ≤ 64 := by omega
  have hsl := run_slice_arr (P := Tryz.prog) 192 5 64 b 8 (X.length % 64) Tryz.underlying192 (by kernel_rfl) (by omega)
  rw [show ((X.length % 64 : Nat) : Int) = (X.length : Int) % 64 by omega, show 64 - X.length % 64 = k by omega] at hsl
  have HK := Lib.hid hk
  have H0 := Lib.hid h0
  obtain ⟨cs, hcs⟩ : ∃ cs, cs = (bs.take k).map Y := ⟨_, rfl⟩
  have hcl : cs.length = k := by rw [hcs]; simp; omega
  have HCS := Lib.hid hcs
  clear hcell hp hs ht hW hw2 hg hTab h0 hpos hne0 hk hcs
  go_enter Tryz.func126, Tryz.ntmps126
  go_wp2_with (refine wpList_copy_whole rfl (.tmp 44) (.tmp 45) 97 97 rfl 5 Tryz.underlying97 (by kernel_rfl) (some ⟨g, off, none⟩) k k bs.length k b (8 + X.length % 64) rfl rfl (hl (ShaM.stOf X) pt (X.length + bs.length)) T HW2.out cs ?c1 ?c2 ?c3 (by rw [HCS.out]; exact ys_one _) ?_)
  case c1 => show cs.length = min _ _; rw [hcl]; omega
  case c2 =>
    intro _
    refine ⟨_, rfl, fun j v hv => ?_⟩
    have hj : j < k := by
      rcases Nat.lt_or_ge j k with h | h
      · exact h
      · rw [List.getElem?_eq_none (by rw [hcl]; exact h)] at hv; cases hv
    rw [Addr.add_mid, World.cell?_setCell_other _ _ _ _ (fun e => hgb (by injection e with e _; exact e.symm)), HC.out j (by omega), ← hv, HCS.out, ← some_y _ _ (by simp; omega)]
    simp [hj]
  case c3 => rw [hl_len _ _ _ HP.out, hcl]; have := HK.out; omega
  intro w2 hW2 hG2
  have HG3 := Lib.hid (gr_trans HG.out hG2)
  have HW3 : Hid (Whole w2 b T (hl (ShaM.stOf X) (lay pt (X.length % 64) (bs.take k)) (X.length + bs.length)).toArray) := by
    have := HK.out
    rw [HCS.out, hl_splice _ _ _ _ _ (by rw [HP.out]; simp; omega)] at hW2
    exact hW2
  have hTr := Lib.hid (HTab.out.grown HG3.out (by simpa using hb1) (by simpa using hb2))
  clear hW2 hG2
  have hl64 : Hid ((lay pt (X.length % 64) (bs.take k)).length = 64) := by
    have := HK.out
    show _ = _
    rw [lay_len _ _ _ (by rw [HP.out]; simp; omega), HP.out]
  have hblk : Hid (∀ i, i < 64 → w2.cell? ⟨b, 8 + i, none⟩ = some (Y ((lay pt (X.length % 64) (bs.take k)).getD i 0))) := fun i hi => (HW3.out.at_ (8 + i)).trans (hl_part _ _ _ _ (by rw [hl64.out]; exact hi))
  have hlay : Hid (lay pt (X.length % 64) (bs.take k) = ShaM.tl X ++ bs.take k) := lay_all pt X bs k HP.out HT.out HK.out hkm
  generalize lay pt (X.length % 64) (bs.take k) = pt2 at HW3 hl64 hblk hlay
  go_wp2_with fail
  go_region_held3 (fun _ => True) (trivial) (first | (go_at_call 179; refine (mix_any b T b 8 64 64 _ (ShaM.stOf X) pt2 w2.drew (by omega) (by omega) (by unfold maxLen; omega) hTr.out.drew HW3.out.drew (hl_isSt _ _ _) hblk.out).mono ?_; rintro e w3 ⟨rfl, hG4, hW4⟩))
  have HW5 : Hid (Whole w3 b T (hl (ShaM.stOf (X ++ bs.take k)) pt2 (X.length + bs.length)).toArray) := by
    rw [hl_set, hlay.out, ← ShaM.stOf_full X (bs.take k) (by have := HK.out; simp; omega), ← hlay.out] at hW4
    exact hW4
  have HG5 := Lib.hid (gr_trans (gr_drew HG3.out) hG4)
  clear hW4 hG4 hsl hge hrem
  have hmodk : Hid ((X.length + k) % 64 = 0) := by have := HK.out; show _ = _; omega
  go_wp2
  go_loopw [1] (fun v wr => ∃ j o cp pt', v = .slice (some ⟨g, o, none⟩) (bs.length - j) cp ∧ bs.length - j ≤ cp ∧ cp ≤ 9223372036854775807 ∧ j ≤ bs.length ∧ (X.length + j) % 64 = 0 ∧ (0 < bs.length - j → o = off + j) ∧ pt'.length = 64 ∧
      Whole wr b T (hl (ShaM.stOf (X ++ bs.take j)) pt' (X.length + bs.length)).toArray ∧ w.grownBy wr (some b)) (fun v _ => lenOf v)
  case atStart => exact ⟨k, off, 0, pt2, by rw [show bs.length - k = 0 by omega], by omega, by omega, hkm, hmodk.out, fun h => by omega, hl64.out, HW5.out, HG5.out⟩
  case round =>
    obtain ⟨j, o, cp, pt', rfl, hjc, hcp, hj, hmod, ho, hp', hW', hG'⟩ := hrel
    have HW' := Lib.hid hW'
    have HG' := Lib.hid hG'
    have HP' := Lib.hid hp'
    have HO := Lib.hid ho
    have HM := Lib.hid hmod
    clear hW' hG' hp' ho hmod
    obtain ⟨m, hm2⟩ : ∃ m, m = bs.length - j := ⟨_, rfl⟩
    have HM2 := Lib.hid hm2
    rw [← hm2]
    rw [← hm2] at hjc
    clear hm2
    by_cases h64 : 64 ≤ m
    · have hr : Hid (∀ i, i < 64 → wr.cell? ⟨g, o + i, none⟩ = some (Y (((bs.drop j).take 64).getD i 0))) :=
        src_at g off j o bs (fun i hi => HG'.out.cell (HC.out i hi) (by simpa using hgb)) (HO.out (by have := HM2.out; omega)) (by have := HM2.out; omega)
      have hTr := Lib.hid (HTab.out.grown HG'.out (by simpa using hb1) (by simpa using hb2))
      have k64 : (64 : Int) ≤ (cp : Int) := by omega
      have k0 : (64 : Int) ≤ (m : Int) := by omega
      by_cases hcc : cp = 64
      all_goals
        try subst hcc
        go_wp2_with fail
        go_region_held3 (fun _ => True) (trivial) (first | (go_at_call 179; refine (mix_any b T g o 64 _ _ (ShaM.stOf (X ++ bs.take j)) ((bs.drop j).take 64) wr.drew (by omega) (by omega) (by unfold maxLen; omega) hTr.out.drew HW'.out.drew (hl_isSt _ _ _) hr.out).mono ?_; rintro e w2 ⟨rfl, hG2, hW2⟩))
        have HW3 : Hid (Whole w2 b T (hl (ShaM.stOf (X ++ bs.take (j + 64))) pt' (X.length + bs.length)).toArray) := by
          rw [hl_set] at hW2
          rw [stOf_step X bs j HM.out (by have := HM2.out; omega)]
          exact hW2
        have HG3 := Lib.hid (gr_trans (gr_drew HG'.out) hG2)
        clear hW2 hG2
        have hm3 : Hid (bs.length - (j + 64) = m - 64) := by have := HM2.out; show _ = _; omega
        go_wp2
        go_roundw
        case rel =>
          first
            | exact ⟨j + 64, o, 0, pt', by rw [hm3.out, show m - 64 = 0 by omega], by have := hm3.out; omega, by omega, by have := HM2.out; omega, by have := HM.out; omega, fun h => by have := hm3.out; omega, HP'.out, HW3.out, HG3.out⟩
            | exact ⟨j + 64, o + 64, _, pt', by rw [hm3.out], by have := hm3.out; omega, by omega, by have := HM2.out; omega, by have := HM.out; omega, fun h => by have := HO.out (by have := HM2.out; omega); omega, HP'.out, HW3.out, HG3.out⟩
        case measure => simp [lenOf]; omega
    · have hmm : (m : Int) < 64 := by omega
      have hsrc : Hid (∀ i, i < m → wr.cell? ⟨g, o + i, none⟩ = some (Y ((bs.drop j).getD i 0))) := fun i hi =>
        src_rest g off j o bs (fun i hi => HG'.out.cell (HC.out i hi) (by simpa using hgb)) (HO.out (by have := HM2.out; omega)) i (by have := HM2.out; omega)
      have hlen : Hid ((bs.drop j).length = m) := by show _ = _; rw [List.length_drop]; exact HM2.out.symm
      go_wp2_with (refine wpList_copy_whole rfl (.tmp 76) (.tmp 77) 97 97 rfl 5 Tryz.underlying97 (by kernel_rfl) (some ⟨g, o, none⟩) 64 64 m cp b 8 rfl rfl (hl (ShaM.stOf (X ++ bs.take j)) pt' (X.length + bs.length)) T HW'.out ((bs.drop j).map Y) ?c1 ?c2 ?c3 (ys_one _) ?_)
      case c1 => show ((bs.drop j).map Y).length = min _ _; rw [List.length_map, hlen.out]; omega
      case c2 =>
        intro _
        refine ⟨_, rfl, fun k v hv => ?_⟩
        have hk : k < m := by
          rcases Nat.lt_or_ge k m with h | h
          · exact h
          · rw [List.getElem?_eq_none (by rw [List.length_map, hlen.out]; exact h)] at hv; cases hv
        rw [Addr.add_mid, hsrc.out k hk, ← hv]
        exact some_y _ _ (by rw [hlen.out]; exact hk)
      case c3 => rw [hl_len _ _ _ HP'.out, List.length_map, hlen.out]; omega
      intro w2 hW2 hG2
      have HW3 := Lib.hid hW2
      have HG3 := Lib.hid (gr_trans HG'.out hG2)
      clear hW2 hG2
      go_wp2
      exact bodyPost_end (results_none rfl _ _ _) rfl ⟨rfl, HG3.out, hash_rest b T X bs j pt' w2 HP'.out hj HM.out (by rw [hlen.out]; omega) (by rw [List.map_drop]; exact HW3.out)⟩

/-- Put: the hash of X becomes the hash of X and the bytes put. -/
theorem put_any (b T : Nat) (v : Value) (X bs : List UInt8) (w : World) (hTab : Tabs w) (hb1 : 1 ≠ b) (hb2 : 2 ≠ b) (hH : HashAt w b T X) (hX : X.length < 2 ^ 60) (hv : Bytes w v bs) (hn : bs ≠ [] → v.ownBlock ≠ some b) :
    Calls Tryz.prog 126 #[.pointer (some ⟨b, 0, none⟩), v] w fun e w' => e = .returned (.tuple #[]) ∧ w.grownBy w' (some b) ∧ HashAt w' b T (X ++ bs) := by
  obtain ⟨A, c, rfl, hc, hcm, hcell⟩ := hv
  rcases Nat.eq_zero_or_pos bs.length with h0 | h0
  · obtain rfl : bs = [] := List.eq_nil_of_length_eq_zero h0
    exact (put_nothing b A c w).mono fun e w' ⟨he, hw⟩ => ⟨he, by subst hw; exact gr_refl _ _, by subst hw; rw [List.append_nil]; exact hH⟩
  · obtain ⟨g, off, rfl, hcl⟩ := hcell h0
    have hgb : g ≠ b := fun e => hn (by rintro rfl; simp at h0) (by rw [e]; rfl)
    rcases Nat.eq_zero_or_pos (X.length % 64) with hr | hr
    · by_cases hX0 : X = []
      · exact put_first b T g off c X bs w hTab hb1 hb2 hH h0 hc hcm hX0 hcl hgb
      · exact put_even b T g off c X bs w hTab hb1 hb2 hH hX h0 hc hcm hX0 hr hcl hgb
    · by_cases hs : X.length % 64 + bs.length < 64
      · exact put_short b T g off c X bs w hH hX h0 hc hcm hr hs hcl hgb
      · by_cases hck : c = 64 - X.length % 64
        · subst hck
          exact put_odd_just b T g off (64 - X.length % 64) X bs w hTab hb1 hb2 hH hX hr (by omega) (by omega) hc hcm hcl hgb
        · exact put_odd b T g off c (64 - X.length % 64) X bs w hTab hb1 hb2 hH hX hr (by omega) (by omega) hc hcm hck hcl hgb
end Go.Proofs.YtjoinnjhpfakpaaGreatDoor

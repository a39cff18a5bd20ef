/-
  (*sha.Hash).Put, walked.
  sha.padding, (*sha.Hash).Sum, sha.New, sha.Sum, walked.
  (*sha.Hash).Sum, sha.Sum, walked.
  The readers of package guard, walked: New, Left, take, Byte, Bytes.
-/
import Derived.Test.YtfaijkgfhdhhbaaGreatDoorMgb
import Derived.Laws.ResultCell
import Derived.Test.YtfaijkgfhdhhbaaGreatDoorMga
import Derived.Laws.IdiomStrings
import Derived.Lib.ConvBytes
namespace Go.Proofs.YtfaijkgfhdhhbaaGreatDoor
open Go.RowKit

/-- A slice value's bytes: nothing is asked of an empty one. -/
def Bytes (w : World) (v : Value) (bs : List UInt8) : Prop :=
  ∃ (A : Option Addr) (c : Nat), v = .slice A bs.length c ∧ bs.length ≤ c ∧ c ≤ maxLen ∧ (0 < bs.length → ∃ g off, A = some ⟨g, off, none⟩ ∧ ∀ i, i < bs.length → w.cell? ⟨g, off + i, none⟩ = some (Y (bs.getD i 0)))

theorem put_nothing (b : Nat) (A : Option Addr) (c : Nat) (w : World) :
    Calls Tryz.prog 74 #[.pointer (some ⟨b, 0, none⟩), .slice A 0 c] w fun e w' => e = .returned (.tuple #[]) ∧ w = w' := by
  go_enter Tryz.func74, Tryz.ntmps74
  go_wp2
  refine bodyPost_ret (results_none rfl _ _ _) rfl ⟨rfl, rfl⟩

theorem hash_short (b T : Nat) (X bs : List UInt8) (s : ShaM.St) (pt : List UInt8) (w : World) (hp : pt.length = 64) (hW : Whole w b T (splice (hl s pt (X.length + bs.length)) (8 + X.length % 64) (bs.map Y)).toArray)
    (hs : X ≠ [] → s = ShaM.stOf X) (ht : pt.take (X.length % 64) = ShaM.tl X) (h0 : 0 < X.length % 64) (h64 : X.length % 64 + bs.length < 64) : HashAt w b T (X ++ bs) := by
  have hX : X ≠ [] := by rintro rfl; simp at h0
  rw [hl_splice _ _ _ _ _ (by omega)] at hW
  refine ⟨s, lay pt (X.length % 64) bs, by rw [lay_len _ _ _ (by omega), hp], by rw [List.length_append]; exact hW, fun _ => by rw [ShaM.stOf_short _ _ h64]; exact hs hX, ?_⟩
  have e : (X ++ bs).length % 64 = X.length % 64 + bs.length := by simp; omega
  rw [e, lay_take _ _ _ (by omega), ht, ShaM.tl_short _ _ h64]

set_option maxRecDepth 100000 in
set_option maxHeartbeats 1000000 in
theorem put_short (b T g off c : Nat) (X bs : List UInt8) (w : World) (hH : HashAt w b T X) (hX : X.length < 2 ^ 60) (hm : 0 < bs.length) (hc : bs.length ≤ c) (hcm : c ≤ maxLen) (h0 : 0 < X.length % 64) (h64 : X.length % 64 + bs.length < 64)
    (hcell : ∀ i, i < bs.length → w.cell? ⟨g, off + i, none⟩ = some (Y (bs.getD i 0))) (hgb : g ≠ b) :
    Calls Tryz.prog 74 #[.pointer (some ⟨b, 0, none⟩), .slice (some ⟨g, off, none⟩) bs.length c] w fun e w' => e = .returned (.tuple #[]) ∧ w.grownBy w' (some b) ∧ HashAt w' b T (X ++ bs) := by
  obtain ⟨s, pt, hp, hW, hs, ht⟩ := hH
  unfold maxLen at hcm
  have HC := Lib.hid hcell
  have HP := Lib.hid hp
  have HS := Lib.hid hs
  have HT := Lib.hid ht
  have HW := Lib.hid hW
  have c72 : w.cell? ⟨b, 72, none⟩ = some (.int .u64 (X.length : Int)) := (hW.at_ 72).trans (hl_sz s pt _ hp)
  have z72 := hW.thawed 72
  have hw2 : Whole (w.setCell ⟨b, 72, none⟩ (.int .u64 ((X.length : Int) + (bs.length : Int)))) b T (hl s pt (X.length + bs.length)).toArray := by
    rw [← hl_resize s pt X.length _ hp, Int.natCast_add]; exact hW.put _ _
  have HW2 := Lib.hid hw2
  have hg : w.grownBy (w.setCell ⟨b, 72, none⟩ (.int .u64 ((X.length : Int) + (bs.length : Int)))) (some b) := gr_set (gr_refl _ _) (.inl rfl) _
  have HG := Lib.hid hg
  have hne : ((X.length : Int) == 0) = false := beq_eq_false_iff_ne.2 (by omega)
  have hsl := run_slice_arr (P := Tryz.prog) 124 5 64 b 8 (X.length % 64) Tryz.underlying124 (by kernel_rfl) (by omega)
  rw [show ((X.length % 64 : Nat) : Int) = (X.length : Int) % 64 by omega] at hsl
  clear hcell hp hs ht hW hw2 hg
  go_enter Tryz.func74, Tryz.ntmps74
  go_wp2_with (refine wpList_copy_whole rfl (.tmp 44) (.tmp 45) 78 78 rfl 5 Tryz.underlying78 (by kernel_rfl) (some ⟨g, off, none⟩) (64 - X.length % 64) (64 - X.length % 64) bs.length c b (8 + X.length % 64) rfl rfl (hl s pt (X.length + bs.length)) T HW2.out (bs.map Y) ?c1 ?c2 ?c3 (ys_one bs) ?_)
  case c1 => show (bs.map Y).length = min _ _; simp; omega
  case c2 =>
    intro _
    refine ⟨_, rfl, fun j v hv => ?_⟩
    have hj : j < bs.length := by
      rcases Nat.lt_or_ge j bs.length with h | h
      · exact h
      · simp [List.getElem?_eq_none (show (bs.map Y).length ≤ j by simpa using h)] at hv
    rw [Addr.add_mid, World.cell?_setCell_other _ _ _ _ (fun e => hgb (by injection e with e _; exact e.symm)), HC.out j hj, ← hv]
    simp [List.getElem?_eq_getElem hj]
  case c3 => rw [hl_len _ _ _ HP.out]; simp; omega
  intro w2 hW2 hG2
  have HW3 := Lib.hid hW2
  have HG3 := Lib.hid (gr_trans HG.out hG2)
  clear hW2 hG2
  go_wp2
  all_goals exact bodyPost_ret (results_none rfl _ _ _) rfl ⟨rfl, HG3.out, hash_short b T X bs s pt w2 HP.out HW3.out HS.out HT.out h0 h64⟩

/-- The length of a slice value. -/
def lenOf : Value → Nat | .slice _ n _ => n | _ => 0

theorem stOf_step (X bs : List UInt8) (j : Nat) (hm : (X.length + j) % 64 = 0) (hj : j + 64 ≤ bs.length) : ShaM.stOf (X ++ bs.take (j + 64)) = ShaM.comp (ShaM.stOf (X ++ bs.take j)) ((bs.drop j).take 64) := by
  have hl : (X ++ bs.take j).length = X.length + j := by simp; omega
  have e : X ++ bs.take (j + 64) = (X ++ bs.take j) ++ (bs.drop j).take 64 := by rw [List.take_add, List.append_assoc]
  have ht : ShaM.tl (X ++ bs.take j) = [] := by
    apply List.eq_nil_of_length_eq_zero
    rw [ShaM.tl_len, hl]; exact hm
  rw [e, ShaM.stOf_full _ _ (by rw [hl]; simp; omega), ht, List.nil_append]
theorem src_rest {w : World} (g off j o : Nat) (bs : List UInt8) (hc : ∀ i, i < bs.length → w.cell? ⟨g, off + i, none⟩ = some (Y (bs.getD i 0))) (ho : o = off + j) :
    ∀ i, i < bs.length - j → w.cell? ⟨g, o + i, none⟩ = some (Y ((bs.drop j).getD i 0)) := fun i hi => by
  subst ho
  rw [Nat.add_assoc, hc (j + i) (by omega)]
  simp
theorem some_y (l : List UInt8) (k : Nat) (h : k < l.length) : some (Y (l.getD k 0)) = (l.map Y)[k]? := by simp [List.getElem?_eq_getElem h]
theorem hash_rest (b T : Nat) (X bs : List UInt8) (j : Nat) (pt : List UInt8) (w : World) (hp : pt.length = 64) (hj : j ≤ bs.length) (hm : (X.length + j) % 64 = 0) (hlt : (bs.drop j).length < 64)
    (hW : Whole w b T (splice (hl (ShaM.stOf (X ++ bs.take j)) pt (X.length + bs.length)) 8 ((bs.drop j).map Y)).toArray) : HashAt w b T (X ++ bs) := by
  have hl' : (X ++ bs.take j).length = X.length + j := by simp; omega
  have e : X ++ bs = (X ++ bs.take j) ++ bs.drop j := by rw [List.append_assoc, List.take_append_drop]
  have ht : ShaM.tl (X ++ bs.take j) = [] := by
    apply List.eq_nil_of_length_eq_zero
    rw [ShaM.tl_len, hl']; exact hm
  have hs : (X ++ bs.take j).length % 64 + (bs.drop j).length < 64 := by rw [hl', hm]; omega
  have hW2 := hl_splice (ShaM.stOf (X ++ bs.take j)) pt (X.length + bs.length) 0 (bs.drop j) (by omega)
  rw [show 8 + 0 = 8 from rfl] at hW2
  rw [hW2] at hW
  refine ⟨_, lay pt 0 (bs.drop j), by rw [lay_len _ _ _ (by omega), hp], by rw [List.length_append]; exact hW, fun _ => by rw [e, ShaM.stOf_short _ _ hs], ?_⟩
  have e2 : (X ++ bs).length % 64 = 0 + (bs.drop j).length := by rw [List.length_append]; rw [List.length_drop] at *; omega
  rw [e2, lay_take _ _ _ (by omega), e, ShaM.tl_short _ _ hs, ht, List.take_zero]
theorem lay_all (pt X bs : List UInt8) (k : Nat) (hp : pt.length = 64) (ht : pt.take (X.length % 64) = ShaM.tl X) (hk : k + X.length % 64 = 64) (hkm : k ≤ bs.length) : lay pt (X.length % 64) (bs.take k) = ShaM.tl X ++ bs.take k := by
  have h := lay_take pt (X.length % 64) (bs.take k) (by simp; omega)
  rw [ht, List.take_of_length_le (by rw [lay_len _ _ _ (by simp; omega)]; simp; omega)] at h
  exact h
theorem src_at {w : World} (g off j o : Nat) (bs : List UInt8) (hc : ∀ i, i < bs.length → w.cell? ⟨g, off + i, none⟩ = some (Y (bs.getD i 0))) (ho : o = off + j) (hj : j + 64 ≤ bs.length) :
    ∀ i, i < 64 → w.cell? ⟨g, o + i, none⟩ = some (Y (((bs.drop j).take 64).getD i 0)) := fun i hi => by
  subst ho
  rw [Nat.add_assoc, hc (j + i) (by omega)]
  simp [hi]

set_option maxRecDepth 100000 in
set_option maxHeartbeats 4000000 in
theorem put_even (b T g off c : Nat) (X bs : List UInt8) (w : World) (hTab : Tabs w) (hb1 : 0 ≠ b) (hb2 : 2 ≠ b) (hH : HashAt w b T X) (hX : X.length < 2 ^ 60) (hm : 0 < bs.length) (hc : bs.length ≤ c) (hcm : c ≤ maxLen) (hne0 : X ≠ []) (h0 : X.length % 64 = 0)
    (hcell : ∀ i, i < bs.length → w.cell? ⟨g, off + i, none⟩ = some (Y (bs.getD i 0))) (hgb : g ≠ b) :
    Calls Tryz.prog 74 #[.pointer (some ⟨b, 0, none⟩), .slice (some ⟨g, off, none⟩) bs.length c] w fun e w' => e = .returned (.tuple #[]) ∧ w.grownBy w' (some b) ∧ HashAt w' b T (X ++ bs) := by
  obtain ⟨s, pt, hp, hW, hs, ht⟩ := hH
  obtain rfl := hs hne0
  unfold maxLen at hcm
  have HTab := Lib.hid hTab
  have HC := Lib.hid hcell
  have HP := Lib.hid hp
  have c72 : w.cell? ⟨b, 72, none⟩ = some (.int .u64 (X.length : Int)) := (hW.at_ 72).trans (hl_sz _ pt _ hp)
  have z72 := hW.thawed 72
  have hw2 : Whole (w.setCell ⟨b, 72, none⟩ (.int .u64 ((X.length : Int) + (bs.length : Int)))) b T (hl (ShaM.stOf X) pt (X.length + bs.length)).toArray := by
    rw [← hl_resize _ pt X.length _ hp, Int.natCast_add]; exact hW.put _ _
  have HW2 := Lib.hid hw2
  have hg : w.grownBy (w.setCell ⟨b, 72, none⟩ (.int .u64 ((X.length : Int) + (bs.length : Int)))) (some b) := gr_set (gr_refl _ _) (.inl rfl) _
  have HG := Lib.hid hg
  have hpos : 0 < X.length := List.length_pos_iff.2 hne0
  have hne : ((X.length : Int) == 0) = false := beq_eq_false_iff_ne.2 (by omega)
  have hne2 : ((bs.length : Int) == 0) = false := beq_eq_false_iff_ne.2 (by omega)
  have hrem : (X.length : Int) % 64 = 0 := by omega
  have H0 := Lib.hid h0
  clear hcell hp hs ht hW hw2 hg hTab h0 hpos hne0
  go_enter Tryz.func74, Tryz.ntmps74
  go_wp2
  clear hrem c72 z72
  go_loopw [1] (fun v wr => ∃ j o cp pt', v = .slice (some ⟨g, o, none⟩) (bs.length - j) cp ∧ bs.length - j ≤ cp ∧ cp ≤ 9223372036854775807 ∧ j ≤ bs.length ∧ (X.length + j) % 64 = 0 ∧ (0 < bs.length - j → o = off + j) ∧ pt'.length = 64 ∧
      Whole wr b T (hl (ShaM.stOf (X ++ bs.take j)) pt' (X.length + bs.length)).toArray ∧ w.grownBy wr (some b)) (fun v _ => lenOf v)
  case atStart => exact ⟨0, off, c, pt, rfl, hc, hcm, Nat.zero_le _, H0.out, fun _ => rfl, HP.out, by rw [List.take_zero, List.append_nil]; exact HW2.out, HG.out⟩
  case round =>
    obtain ⟨j, o, cp, pt', rfl, hjc, hcp, hj, hmod, ho, hp', hW', hG'⟩ := hrel
    have HW' := Lib.hid hW'
    have HG' := Lib.hid hG'
    have HP' := Lib.hid hp'
    have HO := Lib.hid ho
    have HM := Lib.hid hmod
    clear hW' hG' hp' ho hmod
    obtain ⟨m, hm2⟩ : ∃ m, m = bs.length - j := ⟨_, rfl⟩
    have HM2 := Lib.hid hm2
    rw [← hm2]
    rw [← hm2] at hjc
    clear hm2
    by_cases h64 : 64 ≤ m
    · have hr : Hid (∀ i, i < 64 → wr.cell? ⟨g, o + i, none⟩ = some (Y (((bs.drop j).take 64).getD i 0))) :=
        src_at g off j o bs (fun i hi => HG'.out.cell (HC.out i hi) (by simpa using hgb)) (HO.out (by have := HM2.out; omega)) (by have := HM2.out; omega)
      have hTr := Lib.hid (HTab.out.grown HG'.out (by simpa using hb1) (by simpa using hb2))
      have k64 : (64 : Int) ≤ (cp : Int) := by omega
      have k0 : (64 : Int) ≤ (m : Int) := by omega
      by_cases hcc : cp = 64
      all_goals
        try subst hcc
        go_wp2_with fail
        go_region_held3 (fun _ => True) (trivial) (first | (go_at_call 114; refine (mix_any b T g o 64 _ _ (ShaM.stOf (X ++ bs.take j)) ((bs.drop j).take 64) wr.drew (by omega) (by omega) (by unfold maxLen; omega) hTr.out.drew HW'.out.drew (hl_isSt _ _ _) hr.out).mono ?_; rintro e w2 ⟨rfl, hG2, hW2⟩))
        have HW3 : Hid (Whole w2 b T (hl (ShaM.stOf (X ++ bs.take (j + 64))) pt' (X.length + bs.length)).toArray) := by
          rw [hl_set] at hW2
          rw [stOf_step X bs j HM.out (by have := HM2.out; omega)]
          exact hW2
        have HG3 := Lib.hid (gr_trans (gr_drew HG'.out) hG2)
        clear hW2 hG2
        have hm3 : Hid (bs.length - (j + 64) = m - 64) := by have := HM2.out; show _ = _; omega
        go_wp2
        go_roundw
        case rel =>
          first
            | exact ⟨j + 64, o, 0, pt', by rw [hm3.out, show m - 64 = 0 by omega], by have := hm3.out; omega, by omega, by have := HM2.out; omega, by have := HM.out; omega, fun h => by have := hm3.out; omega, HP'.out, HW3.out, HG3.out⟩
            | exact ⟨j + 64, o + 64, _, pt', by rw [hm3.out], by have := hm3.out; omega, by omega, by have := HM2.out; omega, by have := HM.out; omega, fun h => by have := HO.out (by have := HM2.out; omega); omega, HP'.out, HW3.out, HG3.out⟩
        case measure => simp [lenOf]; omega
    · have hmm : (m : Int) < 64 := by omega
      have hsrc : Hid (∀ i, i < m → wr.cell? ⟨g, o + i, none⟩ = some (Y ((bs.drop j).getD i 0))) := fun i hi =>
        src_rest g off j o bs (fun i hi => HG'.out.cell (HC.out i hi) (by simpa using hgb)) (HO.out (by have := HM2.out; omega)) i (by have := HM2.out; omega)
      have hlen : Hid ((bs.drop j).length = m) := by show _ = _; rw [List.length_drop]; exact HM2.out.symm
      go_wp2_with (refine wpList_copy_whole rfl (.tmp 76) (.tmp 77) 78 78 rfl 5 Tryz.underlying78 (by kernel_rfl) (some ⟨g, o, none⟩) 64 64 m cp b 8 rfl rfl (hl (ShaM.stOf (X ++ bs.take j)) pt' (X.length + bs.length)) T HW'.out ((bs.drop j).map Y) ?c1 ?c2 ?c3 (ys_one _) ?_)
      case c1 => show ((bs.drop j).map Y).length = min _ _; rw [List.length_map, hlen.out]; omega
      case c2 =>
        intro _
        refine ⟨_, rfl, fun k v hv => ?_⟩
        have hk : k < m := by
          rcases Nat.lt_or_ge k m with h | h
          · exact h
          · rw [List.getElem?_eq_none (by rw [List.length_map, hlen.out]; exact h)] at hv; cases hv
        rw [Addr.add_mid, hsrc.out k hk, ← hv]
        exact some_y _ _ (by rw [hlen.out]; exact hk)
      case c3 => rw [hl_len _ _ _ HP'.out, List.length_map, hlen.out]; omega
      intro w2 hW2 hG2
      have HW3 := Lib.hid hW2
      have HG3 := Lib.hid (gr_trans HG'.out hG2)
      clear hW2 hG2
      go_wp2
      exact bodyPost_end (results_none rfl _ _ _) rfl ⟨rfl, HG3.out, hash_rest b T X bs j pt' w2 HP'.out hj HM.out (by rw [hlen.out]; omega) (by rw [List.map_drop]; exact HW3.out)⟩

set_option maxRecDepth 100000 in
set_option maxHeartbeats 4000000 in
theorem put_first (b T g off c : Nat) (X bs : List UInt8) (w : World) (hTab : Tabs w) (hb1 : 0 ≠ b) (hb2 : 2 ≠ b) (hH : HashAt w b T X) (hm : 0 < bs.length) (hc : bs.length ≤ c) (hcm : c ≤ maxLen) (hX0 : X = [])
    (hcell : ∀ i, i < bs.length → w.cell? ⟨g, off + i, none⟩ = some (Y (bs.getD i 0))) (hgb : g ≠ b) :
    Calls Tryz.prog 74 #[.pointer (some ⟨b, 0, none⟩), .slice (some ⟨g, off, none⟩) bs.length c] w fun e w' => e = .returned (.tuple #[]) ∧ w.grownBy w' (some b) ∧ HashAt w' b T (X ++ bs) := by
  obtain ⟨s, pt, hp, hW, hs, ht⟩ := hH
  clear hs
  unfold maxLen at hcm
  have HTab := Lib.hid hTab
  have HC := Lib.hid hcell
  have HP := Lib.hid hp
  have hx0 : X.length = 0 := by rw [hX0]; rfl
  have hw1 : Whole (w.setCells b 0 (stl ShaM.H0)) b T (hl ShaM.H0 pt 0).toArray := by
    have := Whole.cells (stl ShaM.H0) 0 _ w hW (by rw [stl_len, hl_len _ _ _ hp]; omega)
    rw [hl_state, hx0] at this
    exact this
  have hg1 : w.grownBy (w.setCells b 0 (stl ShaM.H0)) (some b) := gr_cells _ _ _ (gr_refl _ _)
  have hthere : w.there b 0 8 := fun j hj => ⟨by rw [hW.at_ (0 + j), Array.getElem?_eq_getElem (by rw [hl_size _ _ _ hp]; omega)]; rfl, hW.thawed _⟩
  have hrange : w.rangeAt 0 0 (stl ShaM.H0) := fun j v hv => by
    have hj : j < 8 := by
      rcases Nat.lt_or_ge j 8 with h | h
      · exact h
      · rw [List.getElem?_eq_none (by rw [stl_len]; omega)] at hv; cases hv
    rw [Nat.zero_add, hTab.start j hj, ← hv]
    match j, hj with
    | 0, _ => rfl
    | 1, _ => rfl
    | 2, _ => rfl
    | 3, _ => rfl
    | 4, _ => rfl
    | 5, _ => rfl
    | 6, _ => rfl
    | 7, _ => rfl
  have HW1 := Lib.hid hw1
  have HG1 := Lib.hid hg1
  have HTH := Lib.hid hthere
  have HRG := Lib.hid hrange
  have c72 : w.cell? ⟨b, 72, none⟩ = some (.int .u64 0) := by
    have := (hW.at_ 72).trans (hl_sz s pt _ hp)
    rw [hx0] at this
    exact this
  have d72 : (w.setCells b 0 (stl ShaM.H0)).cell? ⟨b, 72, none⟩ = some (.int .u64 0) := (hw1.at_ 72).trans (hl_sz _ pt _ hp)
  have z72 := hw1.thawed 72
  have hw2 : Whole ((w.setCells b 0 (stl ShaM.H0)).setCell ⟨b, 72, none⟩ (.int .u64 (bs.length : Int))) b T (hl ShaM.H0 pt bs.length).toArray := by
    rw [← hl_resize _ pt 0 _ hp]; exact hw1.put _ _
  have HW2 := Lib.hid hw2
  have hg : w.grownBy ((w.setCells b 0 (stl ShaM.H0)).setCell ⟨b, 72, none⟩ (.int .u64 (bs.length : Int))) (some b) := gr_set hg1 (.inl rfl) _
  have HG := Lib.hid hg
  have hne2 : ((bs.length : Int) == 0) = false := beq_eq_false_iff_ne.2 (by omega)
  have HX0 := Lib.hid hX0
  clear hcell hp ht hW hw2 hg hTab hX0 hx0 hw1 hg1 hthere hrange
  have hone : Hid ((stl ShaM.H0).toArray.all (·.oneCell') = true) := by show _ = true; simp [stl, U]; exact ⟨rfl, rfl, rfl, rfl, rfl, rfl, rfl, rfl⟩
  generalize hst : stl ShaM.H0 = st at *
  have HST := Lib.hid hst
  have hlen8 : Hid (st.length = 8) := by show _ = _; rw [← hst]; rfl
  clear hst
  go_enter Tryz.func74, Tryz.ntmps74
  go_wp2_with (first
    | (refine wpList_load_mid rfl 146 _ rfl 0 0 rfl st _ HRG.out Tryz.underlying146 rfl (by rw [hlen8.out]; kernel_rfl) ?_)
    | (refine wpList_store_mid rfl 146 _ _ rfl b 0 st.toArray rfl rfl (by rw [List.size_toArray, hlen8.out]; exact HTH.out) (by rw [List.size_toArray, hlen8.out]; kernel_rfl) hone.out ?_))
  go_loopw [1] (fun v wr => ∃ j o cp pt', v = .slice (some ⟨g, o, none⟩) (bs.length - j) cp ∧ bs.length - j ≤ cp ∧ cp ≤ 9223372036854775807 ∧ j ≤ bs.length ∧ (X.length + j) % 64 = 0 ∧ (0 < bs.length - j → o = off + j) ∧ pt'.length = 64 ∧
      Whole wr b T (hl (ShaM.stOf (X ++ bs.take j)) pt' (X.length + bs.length)).toArray ∧ w.grownBy wr (some b)) (fun v _ => lenOf v)
  case atStart => exact ⟨0, off, c, pt, rfl, hc, hcm, Nat.zero_le _, by rw [HX0.out]; rfl, fun _ => rfl, HP.out, by rw [HX0.out, List.take_zero, List.append_nil, List.length_nil, Nat.zero_add]; exact HW2.out, HG.out⟩
  case round =>
    obtain ⟨j, o, cp, pt', rfl, hjc, hcp, hj, hmod, ho, hp', hW', hG'⟩ := hrel
    have HW' := Lib.hid hW'
    have HG' := Lib.hid hG'
    have HP' := Lib.hid hp'
    have HO := Lib.hid ho
    have HM := Lib.hid hmod
    clear hW' hG' hp' ho hmod
    obtain ⟨m, hm2⟩ : ∃ m, m = bs.length - j := ⟨_, rfl⟩
    have HM2 := Lib.hid hm2
    rw [← hm2]
    rw [← hm2] at hjc
    clear hm2
    by_cases h64 : 64 ≤ m
    · have hr : Hid (∀ i, i < 64 → wr.cell? ⟨g, o + i, none⟩ = some (Y (((bs.drop j).take 64).getD i 0))) :=
        src_at g off j o bs (fun i hi => HG'.out.cell (HC.out i hi) (by simpa using hgb)) (HO.out (by have := HM2.out; omega)) (by have := HM2.out; omega)
      have hTr := Lib.hid (HTab.out.grown HG'.out (by simpa using hb1) (by simpa using hb2))
      have k64 : (64 : Int) ≤ (cp : Int) := by omega
      have k0 : (64 : Int) ≤ (m : Int) := by omega
      by_cases hcc : cp = 64
      all_goals
        try subst hcc
        go_wp2_with fail
        go_region_held3 (fun _ => True) (trivial) (first | (go_at_call 114; refine (mix_any b T g o 64 _ _ (ShaM.stOf (X ++ bs.take j)) ((bs.drop j).take 64) wr.drew (by omega) (by omega) (by unfold maxLen; omega) hTr.out.drew HW'.out.drew (hl_isSt _ _ _) hr.out).mono ?_; rintro e w2 ⟨rfl, hG2, hW2⟩))
        have HW3 : Hid (Whole w2 b T (hl (ShaM.stOf (X ++ bs.take (j + 64))) pt' (X.length + bs.length)).toArray) := by
          rw [hl_set] at hW2
          rw [stOf_step X bs j HM.out (by have := HM2.out; omega)]
          exact hW2
        have HG3 := Lib.hid (gr_trans (gr_drew HG'.out) hG2)
        clear hW2 hG2
        have hm3 : Hid (bs.length - (j + 64) = m - 64) := by have := HM2.out; show _ = _; omega
        go_wp2
        go_roundw
        case rel =>
          first
            | exact ⟨j + 64, o, 0, pt', by rw [hm3.out, show m - 64 = 0 by omega], by have := hm3.out; omega, by omega, by have := HM2.out; omega, by have := HM.out; omega, fun h => by have := hm3.out; omega, HP'.out, HW3.out, HG3.out⟩
            | exact ⟨j + 64, o + 64, _, pt', by rw [hm3.out], by have := hm3.out; omega, by omega, by have := HM2.out; omega, by have := HM.out; omega, fun h => by have := HO.out (by have := HM2.out; omega); omega, HP'.out, HW3.out, HG3.out⟩
        case measure => simp [lenOf]; omega
    · have hmm : (m : Int) < 64 := by omega
      have hsrc : Hid (∀ i, i < m → wr.cell? ⟨g, o + i, none⟩ = some (Y ((bs.drop j).getD i 0))) := fun i hi =>
        src_rest g off j o bs (fun i hi => HG'.out.cell (HC.out i hi) (by simpa using hgb)) (HO.out (by have := HM2.out; omega)) i (by have := HM2.out; omega)
      have hlen : Hid ((bs.drop j).length = m) := by show _ = _; rw [List.length_drop]; exact HM2.out.symm
      go_wp2_with (refine wpList_copy_whole rfl (.tmp 76) (.tmp 77) 78 78 rfl 5 Tryz.underlying78 (by kernel_rfl) (some ⟨g, o, none⟩) 64 64 m cp b 8 rfl rfl (hl (ShaM.stOf (X ++ bs.take j)) pt' (X.length + bs.length)) T HW'.out ((bs.drop j).map Y) ?c1 ?c2 ?c3 (ys_one _) ?_)
      case c1 => show ((bs.drop j).map Y).length = min _ _; rw [List.length_map, hlen.out]; omega
      case c2 =>
        intro _
        refine ⟨_, rfl, fun k v hv => ?_⟩
        have hk : k < m := by
          rcases Nat.lt_or_ge k m with h | h
          · exact h
          · rw [List.getElem?_eq_none (by rw [List.length_map, hlen.out]; exact h)] at hv; cases hv
        rw [Addr.add_mid, hsrc.out k hk, ← hv]
        exact some_y _ _ (by rw [hlen.out]; exact hk)
      case c3 => rw [hl_len _ _ _ HP'.out, List.length_map, hlen.out]; omega
      intro w2 hW2 hG2
      have HW3 := Lib.hid hW2
      have HG3 := Lib.hid (gr_trans HG'.out hG2)
      clear hW2 hG2
      go_wp2
      exact bodyPost_end (results_none rfl _ _ _) rfl ⟨rfl, HG3.out, hash_rest b T X bs j pt' w2 HP'.out hj HM.out (by rw [hlen.out]; omega) (by rw [List.map_drop]; exact HW3.out)⟩

set_option maxRecDepth 100000 in
set_option maxHeartbeats 4000000 in
theorem put_odd (b T g off c k : Nat) (X bs : List UInt8) (w : World) (hTab : Tabs w) (hb1 : 0 ≠ b) (hb2 : 2 ≠ b) (hH : HashAt w b T X) (hX : X.length < 2 ^ 60) (h0 : 0 < X.length % 64) (hk : k + X.length % 64 = 64) (hkm : k ≤ bs.length) (hc : bs.length ≤ c) (hcm : c ≤ maxLen) (hck : ¬ c = k)
    (hcell : ∀ i, i < bs.length → w.cell? ⟨g, off + i, none⟩ = some (Y (bs.getD i 0))) (hgb : g ≠ b) :
    Calls Tryz.prog 74 #[.pointer (some ⟨b, 0, none⟩), .slice (some ⟨g, off, none⟩) bs.length c] w fun e w' => e = .returned (.tuple #[]) ∧ w.grownBy w' (some b) ∧ HashAt w' b T (X ++ bs) := by
  obtain ⟨s, pt, hp, hW, hs, ht⟩ := hH
  have hne0 : X ≠ [] := by rintro rfl; simp at h0
  obtain rfl := hs hne0
  unfold maxLen at hcm
  have HTab := Lib.hid hTab
  have HC := Lib.hid hcell
  have HP := Lib.hid hp
  have HT := Lib.hid ht
  have c72 : w.cell? ⟨b, 72, none⟩ = some (.int .u64 (X.length : Int)) := (hW.at_ 72).trans (hl_sz _ pt _ hp)
  have z72 := hW.thawed 72
  have hw2 : Whole (w.setCell ⟨b, 72, none⟩ (.int .u64 ((X.length : Int) + (bs.length : Int)))) b T (hl (ShaM.stOf X) pt (X.length + bs.length)).toArray := by
    rw [← hl_resize _ pt X.length _ hp, Int.natCast_add]; exact hW.put _ _
  have HW2 := Lib.hid hw2
  have hg : w.grownBy (w.setCell ⟨b, 72, none⟩ (.int .u64 ((X.length : Int) + (bs.length : Int)))) (some b) := gr_set (gr_refl _ _) (.inl rfl) _
  have HG := Lib.hid hg
  have hpos : 0 < X.length := List.length_pos_iff.2 hne0
  have hne : ((X.length : Int) == 0) = false := beq_eq_false_iff_ne.2 (by omega)
  have hne2 : ((bs.length : Int) == 0) = false := beq_eq_false_iff_ne.2 (by omega)
  have hrem : (0 : Int) < (X.length : Int) % 64 := by omega
  have hge : (64 : Int) ≤ (X.length : Int) % 64 + (k : Int) := by omega
  have hk64 : (k : Int) ≤ 64 := by omega
  have hsl := run_slice_arr (P := Tryz.prog) 124 5 64 b 8 (X.length % 64) Tryz.underlying124 (by kernel_rfl) (by omega)
  rw [show ((X.length % 64 : Nat) : Int) = (X.length : Int) % 64 by omega, show 64 - X.length % 64 = k by omega] at hsl
  have HK := Lib.hid hk
  have H0 := Lib.hid h0
  obtain ⟨cs, hcs⟩ : ∃ cs, cs = (bs.take k).map Y := ⟨_, rfl⟩
  have hcl : cs.length = k := by rw [hcs]; simp; omega
  have HCS := Lib.hid hcs
  clear hcell hp hs ht hW hw2 hg hTab h0 hpos hne0 hk hcs
  go_enter Tryz.func74, Tryz.ntmps74
  go_wp2_with (refine wpList_copy_whole rfl (.tmp 44) (.tmp 45) 78 78 rfl 5 Tryz.underlying78 (by kernel_rfl) (some ⟨g, off, none⟩) k k bs.length c b (8 + X.length % 64) rfl rfl (hl (ShaM.stOf X) pt (X.length + bs.length)) T HW2.out cs ?c1 ?c2 ?c3 (by rw [HCS.out]; exact ys_one _) ?_)
  case c1 => show cs.length = min _ _; rw [hcl]; omega
  case c2 =>
    intro _
    refine ⟨_, rfl, fun j v hv => ?_⟩
    have hj : j < k := by
      rcases Nat.lt_or_ge j k with h | h
      · exact h
      · rw [List.getElem?_eq_none (by rw [hcl]; exact h)] at hv; cases hv
    rw [Addr.add_mid, World.cell?_setCell_other _ _ _ _ (fun e => hgb (by injection e with e _; exact e.symm)), HC.out j (by omega), ← hv, HCS.out, ← some_y _ _ (by simp; omega)]
    simp [hj]
  case c3 => rw [hl_len _ _ _ HP.out, hcl]; have := HK.out; omega
  intro w2 hW2 hG2
  have HG3 := Lib.hid (gr_trans HG.out hG2)
  have HW3 : Hid (Whole w2 b T (hl (ShaM.stOf X) (lay pt (X.length % 64) (bs.take k)) (X.length + bs.length)).toArray) := by
    have := HK.out
    rw [HCS.out, hl_splice _ _ _ _ _ (by rw [HP.out]; simp; omega)] at hW2
    exact hW2
  have hTr := Lib.hid (HTab.out.grown HG3.out (by simpa using hb1) (by simpa using hb2))
  clear hW2 hG2
  have hl64 : Hid ((lay pt (X.length % 64) (bs.take k)).length = 64) := by
    have := HK.out
    show _ = _
    rw [lay_len _ _ _ (by rw [HP.out]; simp; omega), HP.out]
  have hblk : Hid (∀ i, i < 64 → w2.cell? ⟨b, 8 + i, none⟩ = some (Y ((lay pt (X.length % 64) (bs.take k)).getD i 0))) := fun i hi => (HW3.out.at_ (8 + i)).trans (hl_part _ _ _ _ (by rw [hl64.out]; exact hi))
  have hlay : Hid (lay pt (X.length % 64) (bs.take k) = ShaM.tl X ++ bs.take k) := lay_all pt X bs k HP.out HT.out HK.out hkm
  generalize lay pt (X.length % 64) (bs.take k) = pt2 at HW3 hl64 hblk hlay
  go_wp2_with fail
  go_region_held3 (fun _ => True) (trivial) (first | (go_at_call 114; refine (mix_any b T b 8 64 64 _ (ShaM.stOf X) pt2 w2.drew (by omega) (by omega) (by unfold maxLen; omega) hTr.out.drew HW3.out.drew (hl_isSt _ _ _) hblk.out).mono ?_; rintro e w3 ⟨rfl, hG4, hW4⟩))
  have HW5 : Hid (Whole w3 b T (hl (ShaM.stOf (X ++ bs.take k)) pt2 (X.length + bs.length)).toArray) := by
    rw [hl_set, hlay.out, ← ShaM.stOf_full X (bs.take k) (by have := HK.out; simp; omega), ← hlay.out] at hW4
    exact hW4
  have HG5 := Lib.hid (gr_trans (gr_drew HG3.out) hG4)
  clear hW4 hG4 hsl hge hrem
  have hmodk : Hid ((X.length + k) % 64 = 0) := by have := HK.out; show _ = _; omega
  go_wp2
  go_loopw [1] (fun v wr => ∃ j o cp pt', v = .slice (some ⟨g, o, none⟩) (bs.length - j) cp ∧ bs.length - j ≤ cp ∧ cp ≤ 9223372036854775807 ∧ j ≤ bs.length ∧ (X.length + j) % 64 = 0 ∧ (0 < bs.length - j → o = off + j) ∧ pt'.length = 64 ∧
      Whole wr b T (hl (ShaM.stOf (X ++ bs.take j)) pt' (X.length + bs.length)).toArray ∧ w.grownBy wr (some b)) (fun v _ => lenOf v)
  case atStart => exact ⟨k, off + k, _, pt2, rfl, by omega, by omega, hkm, hmodk.out, fun _ => rfl, hl64.out, HW5.out, HG5.out⟩
  case round =>
    obtain ⟨j, o, cp, pt', rfl, hjc, hcp, hj, hmod, ho, hp', hW', hG'⟩ := hrel
    have HW' := Lib.hid hW'
    have HG' := Lib.hid hG'
    have HP' := Lib.hid hp'
    have HO := Lib.hid ho
    have HM := Lib.hid hmod
    clear hW' hG' hp' ho hmod
    obtain ⟨m, hm2⟩ : ∃ m, m = bs.length - j := ⟨_, rfl⟩
    have HM2 := Lib.hid hm2
    rw [← hm2]
    rw [← hm2] at hjc
    clear hm2
    by_cases h64 : 64 ≤ m
    · have hr : Hid (∀ i, i < 64 → wr.cell? ⟨g, o + i, none⟩ = some (Y (((bs.drop j).take 64).getD i 0))) :=
        src_at g off j o bs (fun i hi => HG'.out.cell (HC.out i hi) (by simpa using hgb)) (HO.out (by have := HM2.out; omega)) (by have := HM2.out; omega)
      have hTr := Lib.hid (HTab.out.grown HG'.out (by simpa using hb1) (by simpa using hb2))
      have k64 : (64 : Int) ≤ (cp : Int) := by omega
      have k0 : (64 : Int) ≤ (m : Int) := by omega
      by_cases hcc : cp = 64
      all_goals
        try subst hcc
        go_wp2_with fail
        go_region_held3 (fun _ => True) (trivial) (first | (go_at_call 114; refine (mix_any b T g o 64 _ _ (ShaM.stOf (X ++ bs.take j)) ((bs.drop j).take 64) wr.drew (by omega) (by omega) (by unfold maxLen; omega) hTr.out.drew HW'.out.drew (hl_isSt _ _ _) hr.out).mono ?_; rintro e w2 ⟨rfl, hG2, hW2⟩))
        have HW3 : Hid (Whole w2 b T (hl (ShaM.stOf (X ++ bs.take (j + 64))) pt' (X.length + bs.length)).toArray) := by
          rw [hl_set] at hW2
          rw [stOf_step X bs j HM.out (by have := HM2.out; omega)]
          exact hW2
        have HG3 := Lib.hid (gr_trans (gr_drew HG'.out) hG2)
        clear hW2 hG2
        have hm3 : Hid (bs.length - (j + 64) = m - 64) := by have := HM2.out; show _ = _; omega
        go_wp2
        go_roundw
        case rel =>
          first
            | exact ⟨j + 64, o, 0, pt', by rw [hm3.out, show m - 64 = 0 by omega], by have := hm3.out; omega, by omega, by have := HM2.out; omega, by have := HM.out; omega, fun h => by have := hm3.out; omega, HP'.out, HW3.out, HG3.out⟩
            | exact ⟨j + 64, o + 64, _, pt', by rw [hm3.out], by have := hm3.out; omega, by omega, by have := HM2.out; omega, by have := HM.out; omega, fun h => by have := HO.out (by have := HM2.out; omega); omega, HP'.out, HW3.out, HG3.out⟩
        case measure => simp [lenOf]; omega
    · have hmm : (m : Int) < 64 := by omega
      have hsrc : Hid (∀ i, i < m → wr.cell? ⟨g, o + i, none⟩ = some (Y ((bs.drop j).getD i 0))) := fun i hi =>
        src_rest g off j o bs (fun i hi => HG'.out.cell (HC.out i hi) (by simpa using hgb)) (HO.out (by have := HM2.out; omega)) i (by have := HM2.out; omega)
      have hlen : Hid ((bs.drop j).length = m) := by show _ = _; rw [List.length_drop]; exact HM2.out.symm
      go_wp2_with (refine wpList_copy_whole rfl (.tmp 76) (.tmp 77) 78 78 rfl 5 Tryz.underlying78 (by kernel_rfl) (some ⟨g, o, none⟩) 64 64 m cp b 8 rfl rfl (hl (ShaM.stOf (X ++ bs.take j)) pt' (X.length + bs.length)) T HW'.out ((bs.drop j).map Y) ?c1 ?c2 ?c3 (ys_one _) ?_)
      case c1 => show ((bs.drop j).map Y).length = min _ _; rw [List.length_map, hlen.out]; omega
      case c2 =>
        intro _
        refine ⟨_, rfl, fun k v hv => ?_⟩
        have hk : k < m := by
          rcases Nat.lt_or_ge k m with h | h
          · exact h
          · rw [List.getElem?_eq_none (by rw [List.length_map, hlen.out]; exact h)] at hv; cases hv
        rw [Addr.add_mid, hsrc.out k hk, ← hv]
        exact some_y _ _ (by rw [hlen.out]; exact hk)
      case c3 => rw [hl_len _ _ _ HP'.out, List.length_map, hlen.out]; omega
      intro w2 hW2 hG2
      have HW3 := Lib.hid hW2
      have HG3 := Lib.hid (gr_trans HG'.out hG2)
      clear hW2 hG2
      go_wp2
      exact bodyPost_end (results_none rfl _ _ _) rfl ⟨rfl, HG3.out, hash_rest b T X bs j pt' w2 HP'.out hj HM.out (by rw [hlen.out]; omega) (by rw [List.map_drop]; exact HW3.out)⟩
set_option maxRecDepth 100000 in
set_option maxHeartbeats 4000000 in
theorem put_odd_just (b T g off k : Nat) (X bs : List UInt8) (w : World) (hTab : Tabs w) (hb1 : 0 ≠ b) (hb2 : 2 ≠ b) (hH : HashAt w b T X) (hX : X.length < 2 ^ 60) (h0 : 0 < X.length % 64) (hk : k + X.length % 64 = 64) (hkm : k ≤ bs.length) (hc : bs.length ≤ k) (hcm : k ≤ maxLen)
    (hcell : ∀ i, i < bs.length → w.cell? ⟨g, off + i, none⟩ = some (Y (bs.getD i 0))) (hgb : g ≠ b) :
    Calls Tryz.prog 74 #[.pointer (some ⟨b, 0, none⟩), .slice (some ⟨g, off, none⟩) bs.length k] w fun e w' => e = .returned (.tuple #[]) ∧ w.grownBy w' (some b) ∧ HashAt w' b T (X ++ bs) := by
  obtain ⟨s, pt, hp, hW, hs, ht⟩ := hH
  have hne0 : X ≠ [] := by rintro rfl; simp at h0
  obtain rfl := hs hne0
  unfold maxLen at hcm
  have HTab := Lib.hid hTab
  have HC := Lib.hid hcell
  have HP := Lib.hid hp
  have HT := Lib.hid ht
  have c72 : w.cell? ⟨b, 72, none⟩ = some (.int .u64 (X.length : Int)) := (hW.at_ 72).trans (hl_sz _ pt _ hp)
  have z72 := hW.thawed 72
  have hw2 : Whole (w.setCell ⟨b, 72, none⟩ (.int .u64 ((X.length : Int) + (bs.length : Int)))) b T (hl (ShaM.stOf X) pt (X.length + bs.length)).toArray := by
    rw [← hl_resize _ pt X.length _ hp, Int.natCast_add]; exact hW.put _ _
  have HW2 := Lib.hid hw2
  have hg : w.grownBy (w.setCell ⟨b, 72, none⟩ (.int .u64 ((X.length : Int) + (bs.length : Int)))) (some b) := gr_set (gr_refl _ _) (.inl rfl) _
  have HG := Lib.hid hg
  have hpos : 0 < X.length := List.length_pos_iff.2 hne0
  have hne : ((X.length : Int) == 0) = false := beq_eq_false_iff_ne.2 (by omega)
  have hne2 : ((bs.length : Int) == 0) = false := beq_eq_false_iff_ne.2 (by omega)
  have hrem : (0 : Int) < (X.length : Int) % 64 := by omega
  have hge : (64 : Int) ≤ (X.length : Int) % 64 + (k : Int) := by omega
  have hk64 : (k : Int) ≤ 64 := by omega
  have hsl := run_slice_arr (P := Tryz.prog) 124 5 64 b 8 (X.length % 64) Tryz.underlying124 (by kernel_rfl) (by omega)
  rw [show ((X.length % 64 : Nat) : Int) = (X.length : Int) % 64 by omega, show 64 - X.length % 64 = k by omega] at hsl
  have HK := Lib.hid hk
  have H0 := Lib.hid h0
  obtain ⟨cs, hcs⟩ : ∃ cs, cs = (bs.take k).map Y := ⟨_, rfl⟩
  have hcl : cs.length = k := by rw [hcs]; simp; omega
  have HCS := Lib.hid hcs
  clear hcell hp hs ht hW hw2 hg hTab h0 hpos hne0 hk hcs
  go_enter Tryz.func74, Tryz.ntmps74
  go_wp2_with (refine wpList_copy_whole rfl (.tmp 44) (.tmp 45) 78 78 rfl 5 Tryz.underlying78 (by kernel_rfl) (some ⟨g, off, none⟩) k k bs.length k b (8 + X.length % 64) rfl rfl (hl (ShaM.stOf X) pt (X.length + bs.length)) T HW2.out cs ?c1 ?c2 ?c3 (by rw [HCS.out]; exact ys_one _) ?_)
  case c1 => show cs.length = min _ _; rw [hcl]; omega
  case c2 =>
    intro _
    refine ⟨_, rfl, fun j v hv => ?_⟩
    have hj : j < k := by
      rcases Nat.lt_or_ge j k with h | h
      · exact h
      · rw [List.getElem?_eq_none (by rw [hcl]; exact h)] at hv; cases hv
    rw [Addr.add_mid, World.cell?_setCell_other _ _ _ _ (fun e => hgb (by injection e with e _; exact e.symm)), HC.out j (by omega), ← hv, HCS.out, ← some_y _ _ (by simp; omega)]
    simp [hj]
  case c3 => rw [hl_len _ _ _ HP.out, hcl]; have := HK.out; omega
  intro w2 hW2 hG2
  have HG3 := Lib.hid (gr_trans HG.out hG2)
  have HW3 : Hid (Whole w2 b T (hl (ShaM.stOf X) (lay pt (X.length % 64) (bs.take k)) (X.length + bs.length)).toArray) := by
    have := HK.out
    rw [HCS.out, hl_splice _ _ _ _ _ (by rw [HP.out]; simp; omega)] at hW2
    exact hW2
  have hTr := Lib.hid (HTab.out.grown HG3.out (by simpa using hb1) (by simpa using hb2))
  clear hW2 hG2
  have hl64 : Hid ((lay pt (X.length % 64) (bs.take k)).length = 64) := by
    have := HK.out
    show _ = _
    rw [lay_len _ _ _ (by rw [HP.out]; simp; omega), HP.out]
  have hblk : Hid (∀ i, i < 64 → w2.cell? ⟨b, 8 + i, none⟩ = some (Y ((lay pt (X.length % 64) (bs.take k)).getD i 0))) := fun i hi => (HW3.out.at_ (8 + i)).trans (hl_part _ _ _ _ (by rw [hl64.out]; exact hi))
  have hlay : Hid (lay pt (X.length % 64) (bs.take k) = ShaM.tl X ++ bs.take k) := lay_all pt X bs k HP.out HT.out HK.out hkm
  generalize lay pt (X.length % 64) (bs.take k) = pt2 at HW3 hl64 hblk hlay
  go_wp2_with fail
  go_region_held3 (fun _ => True) (trivial) (first | (go_at_call 114; refine (mix_any b T b 8 64 64 _ (ShaM.stOf X) pt2 w2.drew (by omega) (by omega) (by unfold maxLen; omega) hTr.out.drew HW3.out.drew (hl_isSt _ _ _) hblk.out).mono ?_; rintro e w3 ⟨rfl, hG4, hW4⟩))
  have HW5 : Hid (Whole w3 b T (hl (ShaM.stOf (X ++ bs.take k)) pt2 (X.length + bs.length)).toArray) := by
    rw [hl_set, hlay.out, ← ShaM.stOf_full X (bs.take k) (by have := HK.out; simp; omega), ← hlay.out] at hW4
    exact hW4
  have HG5 := Lib.hid (gr_trans (gr_drew HG3.out) hG4)
  clear hW4 hG4 hsl hge hrem
  have hmodk : Hid ((X.length + k) % 64 = 0) := by have := HK.out; show _ = _; omega
  go_wp2
  go_loopw [1] (fun v wr => ∃ j o cp pt', v = .slice (some ⟨g, o, none⟩) (bs.length - j) cp ∧ bs.length - j ≤ cp ∧ cp ≤ 9223372036854775807 ∧ j ≤ bs.length ∧ (X.length + j) % 64 = 0 ∧ (0 < bs.length - j → o = off + j) ∧ pt'.length = 64 ∧
      Whole wr b T (hl (ShaM.stOf (X ++ bs.take j)) pt' (X.length + bs.length)).toArray ∧ w.grownBy wr (some b)) (fun v _ => lenOf v)
  case atStart => exact ⟨k, off, 0, pt2, by rw [show bs.length - k = 0 by omega], by omega, by omega, hkm, hmodk.out, fun h => by omega, hl64.out, HW5.out, HG5.out⟩
  case round =>
    obtain ⟨j, o, cp, pt', rfl, hjc, hcp, hj, hmod, ho, hp', hW', hG'⟩ := hrel
    have HW' := Lib.hid hW'
    have HG' := Lib.hid hG'
    have HP' := Lib.hid hp'
    have HO := Lib.hid ho
    have HM := Lib.hid hmod
    clear hW' hG' hp' ho hmod
    obtain ⟨m, hm2⟩ : ∃ m, m = bs.length - j := ⟨_, rfl⟩
    have HM2 := Lib.hid hm2
    rw [← hm2]
    rw [← hm2] at hjc
    clear hm2
    by_cases h64 : 64 ≤ m
    · have hr : Hid (∀ i, i < 64 → wr.cell? ⟨g, o + i, none⟩ = some (Y (((bs.drop j).take 64).getD i 0))) :=
        src_at g off j o bs (fun i hi => HG'.out.cell (HC.out i hi) (by simpa using hgb)) (HO.out (by have := HM2.out; omega)) (by have := HM2.out; omega)
      have hTr := Lib.hid (HTab.out.grown HG'.out (by simpa using hb1) (by simpa using hb2))
      have k64 : (64 : Int) ≤ (cp : Int) := by omega
      have k0 : (64 : Int) ≤ (m : Int) := by omega
      by_cases hcc : cp = 64
      all_goals
        try subst hcc
        go_wp2_with fail
        go_region_held3 (fun _ => True) (trivial) (first | (go_at_call 114; refine (mix_any b T g o 64 _ _ (ShaM.stOf (X ++ bs.take j)) ((bs.drop j).take 64) wr.drew (by omega) (by omega) (by unfold maxLen; omega) hTr.out.drew HW'.out.drew (hl_isSt _ _ _) hr.out).mono ?_; rintro e w2 ⟨rfl, hG2, hW2⟩))
        have HW3 : Hid (Whole w2 b T (hl (ShaM.stOf (X ++ bs.take (j + 64))) pt' (X.length + bs.length)).toArray) := by
          rw [hl_set] at hW2
          rw [stOf_step X bs j HM.out (by have := HM2.out; omega)]
          exact hW2
        have HG3 := Lib.hid (gr_trans (gr_drew HG'.out) hG2)
        clear hW2 hG2
        have hm3 : Hid (bs.length - (j + 64) = m - 64) := by have := HM2.out; show _ = _; omega
        go_wp2
        go_roundw
        case rel =>
          first
            | exact ⟨j + 64, o, 0, pt', by rw [hm3.out, show m - 64 = 0 by omega], by have := hm3.out; omega, by omega, by have := HM2.out; omega, by have := HM.out; omega, fun h => by have := hm3.out; omega, HP'.out, HW3.out, HG3.out⟩
            | exact ⟨j + 64, o + 64, _, pt', by rw [hm3.out], by have := hm3.out; omega, by omega, by have := HM2.out; omega, by have := HM.out; omega, fun h => by have := HO.out (by have := HM2.out; omega); omega, HP'.out, HW3.out, HG3.out⟩
        case measure => simp [lenOf]; omega
    · have hmm : (m : Int) < 64 := by omega
      have hsrc : Hid (∀ i, i < m → wr.cell? ⟨g, o + i, none⟩ = some (Y ((bs.drop j).getD i 0))) := fun i hi =>
        src_rest g off j o bs (fun i hi => HG'.out.cell (HC.out i hi) (by simpa using hgb)) (HO.out (by have := HM2.out; omega)) i (by have := HM2.out; omega)
      have hlen : Hid ((bs.drop j).length = m) := by show _ = _; rw [List.length_drop]; exact HM2.out.symm
      go_wp2_with (refine wpList_copy_whole rfl (.tmp 76) (.tmp 77) 78 78 rfl 5 Tryz.underlying78 (by kernel_rfl) (some ⟨g, o, none⟩) 64 64 m cp b 8 rfl rfl (hl (ShaM.stOf (X ++ bs.take j)) pt' (X.length + bs.length)) T HW'.out ((bs.drop j).map Y) ?c1 ?c2 ?c3 (ys_one _) ?_)
      case c1 => show ((bs.drop j).map Y).length = min _ _; rw [List.length_map, hlen.out]; omega
      case c2 =>
        intro _
        refine ⟨_, rfl, fun k v hv => ?_⟩
        have hk : k < m := by
          rcases Nat.lt_or_ge k m with h | h
          · exact h
          · rw [List.getElem?_eq_none (by rw [List.length_map, hlen.out]; exact h)] at hv; cases hv
        rw [Addr.add_mid, hsrc.out k hk, ← hv]
        exact some_y _ _ (by rw [hlen.out]; exact hk)
      case c3 => rw [hl_len _ _ _ HP'.out, List.length_map, hlen.out]; omega
      intro w2 hW2 hG2
      have HW3 := Lib.hid hW2
      have HG3 := Lib.hid (gr_trans HG'.out hG2)
      clear hW2 hG2
      go_wp2
      exact bodyPost_end (results_none rfl _ _ _) rfl ⟨rfl, HG3.out, hash_rest b T X bs j pt' w2 HP'.out hj HM.out (by rw [hlen.out]; omega) (by rw [List.map_drop]; exact HW3.out)⟩

/-- Put: the hash of X becomes the hash of X and the bytes put. -/
theorem put_any (b T : Nat) (v : Value) (X bs : List UInt8) (w : World) (hTab : Tabs w) (hb1 : 0 ≠ b) (hb2 : 2 ≠ b) (hH : HashAt w b T X) (hX : X.length < 2 ^ 60) (hv : Bytes w v bs) (hn : bs ≠ [] → v.ownBlock ≠ some b) :
    Calls Tryz.prog 74 #[.pointer (some ⟨b, 0, none⟩), v] w fun e w' => e = .returned (.tuple #[]) ∧ w.grownBy w' (some b) ∧ HashAt w' b T (X ++ bs) := by
  obtain ⟨A, c, rfl, hc, hcm, hcell⟩ := hv
  rcases Nat.eq_zero_or_pos bs.length with h0 | h0
  · obtain rfl : bs = [] := List.eq_nil_of_length_eq_zero h0
    exact (put_nothing b A c w).mono fun e w' ⟨he, hw⟩ => ⟨he, by subst hw; exact gr_refl _ _, by subst hw; rw [List.append_nil]; exact hH⟩
  · obtain ⟨g, off, rfl, hcl⟩ := hcell h0
    have hgb : g ≠ b := fun e => hn (by rintro rfl; simp at h0) (by rw [e]; rfl)
    rcases Nat.eq_zero_or_pos (X.length % 64) with hr | hr
    · by_cases hX0 : X = []
      · exact put_first b T g off c X bs w hTab hb1 hb2 hH h0 hc hcm hX0 hcl hgb
      · exact put_even b T g off c X bs w hTab hb1 hb2 hH hX h0 hc hcm hX0 hr hcl hgb
    · by_cases hs : X.length % 64 + bs.length < 64
      · exact put_short b T g off c X bs w hH hX h0 hc hcm hr hs hcl hgb
      · by_cases hck : c = 64 - X.length % 64
        · subst hck
          exact put_odd_just b T g off (64 - X.length % 64) X bs w hTab hb1 hb2 hH hX hr (by omega) (by omega) hc hcm hcl hgb
        · exact put_odd b T g off c (64 - X.length % 64) X bs w hTab hb1 hb2 hH hX hr (by omega) (by omega) hc hcm hck hcl hgb
end Go.Proofs.YtfaijkgfhdhhbaaGreatDoor
namespace Go.Proofs.YtfaijkgfhdhhbaaGreatDoor
open Go.RowKit

theorem new_any (w : World) : Calls Tryz.prog 73 #[] w fun e w' => e = .returned (.pointer (some ⟨w.heap.size, 0, none⟩)) ∧ Below w.heap.size w w' ∧ HashAt w' w.heap.size 149 [] ∧ w'.heap.size = w.heap.size + 1 := by
  go_enter Tryz.func73, Tryz.ntmps73
  go_wp2
  refine bodyPost_ret (results_tmp rfl _ _ _) rfl ⟨rfl, (Below.refl _ _).alloc (Nat.le_refl _) _, ⟨⟨0, 0, 0, 0, 0, 0, 0, 0⟩, List.replicate 64 0, rfl, Whole.made _ _ _, fun h => absurd rfl h, rfl⟩, by simp⟩

/-! ### The padding's bytes -/
theorem set4_splice (l : List Value) (off : Nat) (x : ShaM.Wd) (h : off + 4 ≤ l.length) : set4 l.toArray off x = (splice l off ((ShaM.be4 x).map Y)).toArray := by
  apply Array.ext'
  simp only [set4, Array.toList_setIfInBounds, splice, ShaM.be4, List.map_cons, List.map_nil, List.length_cons, List.length_nil]
  obtain ⟨a, d, rfl, ha⟩ : ∃ a d, l = a ++ d ∧ a.length = off := ⟨l.take off, l.drop off, (List.take_append_drop _ _).symm, by simp; omega⟩
  subst ha
  rw [List.length_append] at h
  match d, h with
  | v0 :: v1 :: v2 :: v3 :: r, _ =>
    rw [List.set_append_right _ _ (by omega), List.set_append_right _ _ (by omega), List.set_append_right _ _ (by omega), List.set_append_right _ _ (by omega)]
    simp [show a.length + 1 - a.length = 1 by omega, show a.length + 2 - a.length = 2 by omega, show a.length + 3 - a.length = 3 by omega, List.drop_append]
  | [], h => exfalso; simp only [List.length_nil] at h; omega
  | [_], h => exfalso; simp only [List.length_cons, List.length_nil] at h; omega
  | [_, _], h => exfalso; simp only [List.length_cons, List.length_nil] at h; omega
  | [_, _, _], h => exfalso; simp only [List.length_cons, List.length_nil] at h; omega
theorem u8_ofNat {a b : Nat} (h : a % 256 = b % 256) : UInt8.ofNat a = UInt8.ofNat b := by
  apply UInt8.toNat_inj.1
  simpa using h
theorem be8_split (n : Nat) (h : n < 2 ^ 60) : ShaM.be8 (n * 8) = ShaM.be4 (BitVec.ofNat 32 (n / 536870912)) ++ ShaM.be4 (BitVec.ofNat 32 (n * 8)) := by
  simp only [ShaM.be8, ShaM.be4, BitVec.toNat_ofNat, List.cons_append, List.nil_append]
  congr 1
  · exact u8_ofNat (by omega)
  congr 1
  · exact u8_ofNat (by omega)
  congr 1
  · exact u8_ofNat (by omega)
  congr 1
  · exact u8_ofNat (by omega)
  congr 1
  · exact u8_ofNat (by omega)
  congr 1
  · exact u8_ofNat (by omega)
  congr 1
  · exact u8_ofNat (by omega)
  congr 1
  exact u8_ofNat (by omega)
theorem pad_cells (n m : Nat) (h : n < 2 ^ 60) (hm : m = 71) : set4 (set4 (Y 128 :: List.replicate m (Y 0)).toArray (ShaM.padN n - 8) (BitVec.ofNat 32 (n / 536870912))) (ShaM.padN n - 4) (BitVec.ofNat 32 (n * 8)) =
    ((ShaM.pad n ++ List.replicate (72 - ShaM.padN n) 0).map Y).toArray := by
  have hk := ShaM.padN_bd n
  rw [ShaM.pad, be8_split n h]
  generalize ShaM.padN n = k at *
  obtain ⟨j, rfl⟩ : ∃ j, k = j + 9 := ⟨k - 9, by omega⟩
  have e1 : j + 9 - 8 = j + 1 := by omega
  have e2 : j + 9 - 4 = j + 5 := by omega
  have e3 : j + 9 - 9 = j := by omega
  rw [e1, e2, e3]
  have hL : (Y 128 :: List.replicate m (Y 0)).length = 72 := by rw [List.length_cons, List.length_replicate]; omega
  have l1 : (ShaM.be4 (BitVec.ofNat 32 (n / 536870912))).length = 4 := rfl
  have l2 : (ShaM.be4 (BitVec.ofNat 32 (n * 8))).length = 4 := rfl
  rw [set4_splice (Y 128 :: List.replicate m (Y 0)) (j + 1) _ (by omega), set4_splice _ (j + 5) _ (by rw [length_splice _ _ _ (by rw [List.length_map]; omega)]; omega)]
  generalize (ShaM.be4 (BitVec.ofNat 32 (n / 536870912))) = w1 at *
  generalize (ShaM.be4 (BitVec.ofNat 32 (n * 8))) = w2 at *
  congr 1
  have s1 : splice (Y 128 :: List.replicate m (Y 0)) (j + 1) (w1.map Y) = (Y 128 :: List.replicate j (Y 0)) ++ (w1.map Y ++ List.replicate (67 - j) (Y 0)) := by
    simp only [splice, List.length_map, l1, List.take_succ_cons, List.take_replicate]
    rw [show min j m = j by omega, show j + 1 + 4 = (j + 4) + 1 by omega, List.drop_succ_cons, List.drop_replicate, show m - (j + 4) = 67 - j by omega]
  rw [s1]
  simp only [splice, List.length_map, l2]
  have ha : (Y 128 :: List.replicate j (Y 0)).length = j + 1 := by simp
  have hw : (w1.map Y).length = 4 := by rw [List.length_map]; exact l1
  rw [List.take_append, List.take_append, ha, hw, List.take_of_length_le (by omega), List.take_of_length_le (by omega), List.drop_append, List.drop_of_length_le (by omega), List.drop_append, ha, hw, List.drop_of_length_le (by omega), List.drop_replicate,
    show j + 5 - (j + 1) - 4 = 0 by omega, List.take_zero, show 67 - j - (j + 5 + 4 - (j + 1) - 4) = 72 - (j + 9) by omega]
  simp
theorem results_row_tmp {P : Program} {fn : Func} {p u : Tmp} {ty : TypeId} (h : fn.results = #[.cell p ty, .tmp u]) (tmps : Array Value) (w : World) (g t : Nat) (cs : Array Value) (fr : Nat × Nat) (d : TypeDesc)
    (hp : tmps.getD p undef = .pointer (some ⟨g, 0, none⟩)) (hg : w.heap[g]? = some (.cells cs t fr)) (hu : P.underlying ty = some d) (hd : (match d with | .struct _ | .array _ _ => true | _ => false) = true)
    (hi : (P.info? ty).map (·.size) = some cs.size) : (results fn tmps).run P w = .ok (.tuple #[.agg cs, tmps.getD u undef]) w := by
  rw [results_cell_tmp h, hp]
  simp [asAddr, run_loadVar_row w g t ty cs fr d hg hu hd hi, Result.andThen]
theorem ys_all (bs : List UInt8) : (bs.map Y).toArray.all (·.oneCell') = true := by
  rw [Array.all_eq_true_iff_forall_mem]
  intro x hx
  obtain ⟨y, _, rfl⟩ := List.mem_map.1 (List.mem_toArray.1 hx)
  rfl

set_option maxRecDepth 100000 in
set_option maxHeartbeats 2000000 in
theorem pad_lo (n : Nat) (w : World) (hn : n < 2 ^ 60) (hr : n % 64 < 56) :
    Calls Tryz.prog 116 #[.int .u64 (n : Int)] w fun e w' => e = .returned (.tuple #[.agg ((ShaM.pad n ++ List.replicate (72 - ShaM.padN n) 0).map Y).toArray, .int .i64 (ShaM.padN n : Int)]) ∧ Below w.heap.size w w' := by
  have hk : Hid ((ShaM.padN n : Int) = 64 - (n : Int) % 64) := by show _ = _; unfold ShaM.padN; rw [if_pos hr]; omega
  have hbd := Lib.hid (ShaM.padN_bd n)
  have hp := Lib.hid (pad_cells n 71 hn rfl)
  have h1 : ¬ (64 - (n : Int) % 64 < 9) := by omega
  have z0 : Whole (w.alloc (.cells (Tryz.zeroCells152.setIfInBounds 0 (.int .u8 128)) 152)) w.heap.size 152 (Y 128 :: List.replicate 71 (Y 0)).toArray := by
    have e : Tryz.zeroCells152.setIfInBounds 0 (.int .u8 128) = (Y 128 :: List.replicate 71 (Y 0)).toArray := by kernel_rfl
    rw [← e]
    exact Whole.made _ _ _
  have hB0 : Below w.heap.size w (w.alloc (.cells (Tryz.zeroCells152.setIfInBounds 0 (.int .u8 128)) 152)) := (Below.refl _ _).alloc (Nat.le_refl _) _
  have HB0 := Lib.hid hB0
  have HZ0 := Lib.hid z0
  have s8 := run_slice_arr (P := Tryz.prog) 152 5 72 w.heap.size 0 (ShaM.padN n - 8) Tryz.underlying152 (by kernel_rfl) (by have := hbd.out; omega)
  have s4 := run_slice_arr (P := Tryz.prog) 152 5 72 w.heap.size 0 (ShaM.padN n - 4) Tryz.underlying152 (by kernel_rfl) (by have := hbd.out; omega)
  rw [show ((ShaM.padN n - 8 : Nat) : Int) = 64 - (n : Int) % 64 - 8 by have := hk.out; have := hbd.out; omega, Nat.zero_add] at s8
  rw [show ((ShaM.padN n - 4 : Nat) : Int) = 64 - (n : Int) % 64 - 4 by have := hk.out; have := hbd.out; omega, Nat.zero_add] at s4
  clear hB0 z0
  generalize hkk : ShaM.padN n = k at *
  clear hkk
  go_enter Tryz.func116, Tryz.ntmps116
  go_wp2_with fail
  refine (putWord_at w.heap.size (k - 8) _ _ _ (BitVec.ofNat 32 (n / 536870912)) (by rw [BitVec.toNat_ofNat]; omega) 152 _ _ (by have := hbd.out; omega) HZ0.out (by rw [List.size_toArray, List.length_cons, List.length_replicate]; have := hbd.out; omega)).mono ?_
  rintro e w1 ⟨rfl, hG1, hW1⟩
  have HB1 := Lib.hid (be_grown HB0.out hG1 HB0.out.size (fun j hj => by injection hj with hj; omega))
  have HW1 := Lib.hid hW1
  clear hG1 hW1
  go_wp2_with fail
  refine (putWord_at w.heap.size (k - 4) _ _ _ (BitVec.ofNat 32 (n * 8)) (by rw [BitVec.toNat_ofNat]; omega) 152 _ _ (by have := hbd.out; omega) HW1.out (by rw [set4_size, List.size_toArray, List.length_cons, List.length_replicate]; have := hbd.out; omega)).mono ?_
  rintro e w2 ⟨rfl, hG2, hW2⟩
  have HB2 := Lib.hid (be_grown HB1.out hG2 HB1.out.size (fun j hj => by injection hj with hj; omega))
  rw [hp.out] at hW2
  obtain ⟨cs, hcs⟩ : ∃ cs, cs = ((ShaM.pad n ++ List.replicate (72 - k) 0).map Y).toArray := ⟨_, rfl⟩
  have hsz : cs.size = 72 := by
    have h2 := congrArg Array.size hp.out
    rw [← hcs, set4_size, set4_size, List.size_toArray, List.length_cons, List.length_replicate] at h2
    omega
  have HI : Hid ((Tryz.prog.info? 152).map (·.size) = some cs.size) := by show _ = _; rw [hsz]; kernel_rfl
  have H1 : Hid (cs.all (·.oneCell') = true) := by show _ = _; rw [hcs]; exact ys_all _
  rw [← hcs] at hW2
  have HCS := Lib.hid hcs
  have HW2 := Lib.hid hW2
  clear hsz hcs hW2 hG2
  go_wp2_with (first
    | (refine wpList_load_row rfl 152 _ rfl w.heap.size rfl 152 cs (0, 0) _ HW2.out Tryz.underlying152 rfl HI.out ?_)
    | (refine wpList_store_row rfl 152 _ _ rfl w.heap.size cs rfl rfl 152 cs HW2.out HI.out rfl H1.out ?_))
  refine bodyPost_ret (v := .tuple #[.agg cs, .int .i64 (64 - (n : Int) % 64)]) ?_ rfl ⟨by rw [HCS.out, hk.out], be_setRow HB2.out (Nat.le_refl _) _⟩
  exact results_row_tmp (p := 2) (u := 3) (ty := 152) rfl _ _ w.heap.size 152 cs (0, 0) _ rfl (setRow_heap w2 w.heap.size cs cs 152 (0, 0) HW2.out) Tryz.underlying152 rfl HI.out

set_option maxRecDepth 100000 in
set_option maxHeartbeats 2000000 in
theorem pad_hi (n : Nat) (w : World) (hn : n < 2 ^ 60) (hr : ¬ n % 64 < 56) :
    Calls Tryz.prog 116 #[.int .u64 (n : Int)] w fun e w' => e = .returned (.tuple #[.agg ((ShaM.pad n ++ List.replicate (72 - ShaM.padN n) 0).map Y).toArray, .int .i64 (ShaM.padN n : Int)]) ∧ Below w.heap.size w w' := by
  have hk : Hid ((ShaM.padN n : Int) = 64 - (n : Int) % 64 + 64) := by show _ = _; unfold ShaM.padN; rw [if_neg hr]; omega
  have hbd := Lib.hid (ShaM.padN_bd n)
  have hp := Lib.hid (pad_cells n 71 hn rfl)
  have h1 : 64 - (n : Int) % 64 < 9 := by omega
  have z0 : Whole (w.alloc (.cells (Tryz.zeroCells152.setIfInBounds 0 (.int .u8 128)) 152)) w.heap.size 152 (Y 128 :: List.replicate 71 (Y 0)).toArray := by
    have e : Tryz.zeroCells152.setIfInBounds 0 (.int .u8 128) = (Y 128 :: List.replicate 71 (Y 0)).toArray := by kernel_rfl
    rw [← e]
    exact Whole.made _ _ _
  have hB0 : Below w.heap.size w (w.alloc (.cells (Tryz.zeroCells152.setIfInBounds 0 (.int .u8 128)) 152)) := (Below.refl _ _).alloc (Nat.le_refl _) _
  have HB0 := Lib.hid hB0
  have HZ0 := Lib.hid z0
  have s8 := run_slice_arr (P := Tryz.prog) 152 5 72 w.heap.size 0 (ShaM.padN n - 8) Tryz.underlying152 (by kernel_rfl) (by have := hbd.out; omega)
  have s4 := run_slice_arr (P := Tryz.prog) 152 5 72 w.heap.size 0 (ShaM.padN n - 4) Tryz.underlying152 (by kernel_rfl) (by have := hbd.out; omega)
  rw [show ((ShaM.padN n - 8 : Nat) : Int) = 64 - (n : Int) % 64 + 64 - 8 by have := hk.out; have := hbd.out; omega, Nat.zero_add] at s8
  rw [show ((ShaM.padN n - 4 : Nat) : Int) = 64 - (n : Int) % 64 + 64 - 4 by have := hk.out; have := hbd.out; omega, Nat.zero_add] at s4
  clear hB0 z0
  generalize hkk : ShaM.padN n = k at *
  clear hkk
  go_enter Tryz.func116, Tryz.ntmps116
  go_wp2_with fail
  refine (putWord_at w.heap.size (k - 8) _ _ _ (BitVec.ofNat 32 (n / 536870912)) (by rw [BitVec.toNat_ofNat]; omega) 152 _ _ (by have := hbd.out; omega) HZ0.out (by rw [List.size_toArray, List.length_cons, List.length_replicate]; have := hbd.out; omega)).mono ?_
  rintro e w1 ⟨rfl, hG1, hW1⟩
  have HB1 := Lib.hid (be_grown HB0.out hG1 HB0.out.size (fun j hj => by injection hj with hj; omega))
  have HW1 := Lib.hid hW1
  clear hG1 hW1
  go_wp2_with fail
  refine (putWord_at w.heap.size (k - 4) _ _ _ (BitVec.ofNat 32 (n * 8)) (by rw [BitVec.toNat_ofNat]; omega) 152 _ _ (by have := hbd.out; omega) HW1.out (by rw [set4_size, List.size_toArray, List.length_cons, List.length_replicate]; have := hbd.out; omega)).mono ?_
  rintro e w2 ⟨rfl, hG2, hW2⟩
  have HB2 := Lib.hid (be_grown HB1.out hG2 HB1.out.size (fun j hj => by injection hj with hj; omega))
  rw [hp.out] at hW2
  obtain ⟨cs, hcs⟩ : ∃ cs, cs = ((ShaM.pad n ++ List.replicate (72 - k) 0).map Y).toArray := ⟨_, rfl⟩
  have hsz : cs.size = 72 := by
    have h2 := congrArg Array.size hp.out
    rw [← hcs, set4_size, set4_size, List.size_toArray, List.length_cons, List.length_replicate] at h2
    omega
  have HI : Hid ((Tryz.prog.info? 152).map (·.size) = some cs.size) := by show _ = _; rw [hsz]; kernel_rfl
  have H1 : Hid (cs.all (·.oneCell') = true) := by show _ = _; rw [hcs]; exact ys_all _
  rw [← hcs] at hW2
  have HCS := Lib.hid hcs
  have HW2 := Lib.hid hW2
  clear hsz hcs hW2 hG2
  go_wp2_with (first
    | (refine wpList_load_row rfl 152 _ rfl w.heap.size rfl 152 cs (0, 0) _ HW2.out Tryz.underlying152 rfl HI.out ?_)
    | (refine wpList_store_row rfl 152 _ _ rfl w.heap.size cs rfl rfl 152 cs HW2.out HI.out rfl H1.out ?_))
  refine bodyPost_ret (v := .tuple #[.agg cs, .int .i64 (64 - (n : Int) % 64 + 64)]) ?_ rfl ⟨by rw [HCS.out, hk.out], be_setRow HB2.out (Nat.le_refl _) _⟩
  exact results_row_tmp (p := 2) (u := 3) (ty := 152) rfl _ _ w.heap.size 152 cs (0, 0) _ rfl (setRow_heap w2 w.heap.size cs cs 152 (0, 0) HW2.out) Tryz.underlying152 rfl HI.out

/-- The padding of a text of n bytes. -/
theorem padding_any (n : Nat) (w : World) (hn : n < 2 ^ 60) :
    Calls Tryz.prog 116 #[.int .u64 (n : Int)] w fun e w' => e = .returned (.tuple #[.agg ((ShaM.pad n ++ List.replicate (72 - ShaM.padN n) 0).map Y).toArray, .int .i64 (ShaM.padN n : Int)]) ∧ Below w.heap.size w w' := by
  by_cases h : n % 64 < 56
  · exact pad_lo n w hn h
  · exact pad_hi n w hn h
end Go.Proofs.YtfaijkgfhdhhbaaGreatDoor
namespace Go.Proofs.YtfaijkgfhdhhbaaGreatDoor
open Go.RowKit

/-- A store of a whole row; the world behind it is a variable. -/
theorem wpList_store_whole {P : Program} {ops : Array Oper} {rest : List Oper} {o : Oper} {a : Act} {w : World} {Q : Exit → Act → World → Prop} (hgd : o.guard = none) (ty : TypeId) (x y : Operand) (ho : o.op = .store ty x y)
    (g : Nat) (cells : Array Value) (hx : a.eval x = .pointer (some ⟨g, 0, none⟩)) (hy : a.eval y = .agg cells) (t : TypeId) (old : Array Value) (hg : Whole w g t old) (hi : (P.info? ty).map (·.size) = some cells.size)
    (hold : old.size = cells.size) (h1 : cells.all (·.oneCell') = true) (h : ∀ w', Whole w' g t cells → w.grownBy w' (some g) → wpList P ops Q rest (a.put o.dst undef) w') : wpList P ops Q (o :: rest) a w :=
  wpList_store_row hgd ty x y ho g cells hx hy t old hg hi hold h1 (h _ (setRow_heap w g old cells t _ hg) (gr_row (gr_refl _ _) _))
theorem gr_alloc2 {w w' : World} {a b : Obj} {g : Nat} (h : ((w.alloc a).alloc b).grownBy w' (some g)) (hg : w.heap.size ≤ g) : Below w.heap.size w w' :=
  be_grown (((Below.refl _ _).alloc (Nat.le_refl _) _).alloc (by simp) _) h (by simp; omega) (fun j hj => by injection hj with hj; omega)
theorem gr_size2 {w w' : World} {a b : Obj} {row : Option Nat} (h : ((w.alloc a).alloc b).grownBy w' row) : w.heap.size + 1 < w'.heap.size := by
  have := h.size
  simp at this
  omega

/-- The result's bytes as they are being laid. -/
def oarr (s : ShaM.St) (i : Nat) : List Value := (((ShaM.out s).take (4 * i)) ++ List.replicate (32 - 4 * i) 0).map Y
theorem oarr_len (s : ShaM.St) (i : Nat) (h : i ≤ 8) : (oarr s i).length = 32 := by
  simp only [oarr, List.length_map, List.length_append, List.length_take, ShaM.out_len, List.length_replicate]; omega
theorem oarr_full (s : ShaM.St) : oarr s 8 = (ShaM.out s).map Y := rfl
theorem stl_at (s : ShaM.St) (i : Nat) (h : i < 8) : (stl s).toArray[i]? = some (U (s.at i)) := by
  match i, h with
  | 0, _ => rfl
  | 1, _ => rfl
  | 2, _ => rfl
  | 3, _ => rfl
  | 4, _ => rfl
  | 5, _ => rfl
  | 6, _ => rfl
  | 7, _ => rfl
theorem out_take (s : ShaM.St) (i : Nat) (h : i < 8) : (ShaM.out s).take (4 * i + 4) = (ShaM.out s).take (4 * i) ++ ShaM.be4 (s.at i) := by
  match i, h with
  | 0, _ => rfl
  | 1, _ => rfl
  | 2, _ => rfl
  | 3, _ => rfl
  | 4, _ => rfl
  | 5, _ => rfl
  | 6, _ => rfl
  | 7, _ => rfl
theorem oarr_step (s : ShaM.St) (i : Nat) (h : i < 8) : set4 (oarr s i).toArray (4 * i) (s.at i) = (oarr s (i + 1)).toArray := by
  rw [set4_splice _ _ _ (by rw [oarr_len _ _ (by omega)]; omega)]
  congr 1
  have ht : ((ShaM.out s).take (4 * i)).length = 4 * i := by rw [List.length_take, ShaM.out_len]; omega
  simp only [oarr, splice, List.length_map]
  rw [show 4 * (i + 1) = 4 * i + 4 by omega, out_take s i h]
  rw [List.map_append, List.map_append, List.map_append, List.take_append_of_le_length (by rw [List.length_map, ht]; omega), List.take_of_length_le (by rw [List.length_map, ht]; omega)]
  rw [List.drop_append, List.length_map, ht, List.drop_of_length_le (by rw [List.length_map, ht]; omega), List.map_replicate, List.map_replicate, List.drop_replicate]
  have e : (ShaM.be4 (s.at i)).length = 4 := rfl
  rw [e, show 32 - 4 * i - (4 * i + 4 - 4 * i) = 32 - (4 * i + 4) by omega]
  simp
theorem range_past {w : World} {b o : Nat} {cs : List Value} (h : w.rangeAt b o cs) (x : Obj) : (w.alloc x).rangeAt b o cs := fun j v hv => by
  have h1 := h j v hv
  have h2 : b < w.heap.size := World.block_lt_of_cell? w ⟨b, o + j, none⟩ h1
  exact (World.cell?_alloc_lt w x ⟨b, o + j, none⟩ h2).trans h1
/-- Put into nothing. -/
theorem put_nil (v : Value) (w : World) :
    Calls Tryz.prog 74 #[.pointer none, v] w fun e w' => e = .returned (.tuple #[]) ∧ w = w' := by
  go_enter Tryz.func74, Tryz.ntmps74
  go_wp2
  exact bodyPost_ret (results_none rfl _ _ _) rfl ⟨rfl, rfl⟩

set_option maxRecDepth 100000 in
set_option maxHeartbeats 4000000 in
theorem hsum_any (b T : Nat) (X : List UInt8) (w : World) (hTab : Tabs w) (hH : HashAt w b T X) (hX : X.length < 2 ^ 59) :
    Calls Tryz.prog 77 #[.pointer (some ⟨b, 0, none⟩)] w fun e w' => e = .returned (.agg ((ShaM.sha X).map Y).toArray) ∧ Below w.heap.size w w' := by
  have hbw := hH.lt
  obtain ⟨s, pt, hp, hW, hs, ht⟩ := hH
  have HTab := Lib.hid hTab
  have hsz : (hl s pt X.length).toArray.size = 73 := hl_size _ _ _ hp
  have HI : Hid ((Tryz.prog.info? 149).map (·.size) = some (hl s pt X.length).toArray.size) := by show _ = _; rw [hsz]; kernel_rfl
  have H1 := Lib.hid (hl_one s pt X.length)
  have HSZ := Lib.hid hsz
  have hH1 : ∀ w' : World, Whole w' (w.heap.size + 1) 149 (hl s pt X.length).toArray → HashAt w' (w.heap.size + 1) 149 X := fun w' h => ⟨s, pt, hp, h, hs, ht⟩
  have HH1 := Lib.hid hH1
  have h72 : (hl s pt X.length).toArray[72]? = some (.int .u64 (X.length : Int)) := hl_sz _ _ _ hp
  have H72 := Lib.hid h72
  clear hTab hsz hH1 h72 hs ht hp
  have HW := Lib.hid hW
  clear hW
  generalize (hl s pt X.length).toArray = cs at *
  go_enter Tryz.func77, Tryz.ntmps77
  go_wp2_with (first
    | (refine wpList_load_row rfl 149 _ rfl b rfl T cs (0, 0) _ ((HW.out.past _).past _) Tryz.underlying149 rfl HI.out ?_)
    | (refine wpList_store_whole rfl 149 _ _ rfl (w.heap.size + 1) cs rfl rfl 149 _ (heap_alloc2_new w _ _) HI.out (by rw [HSZ.out]; kernel_rfl) H1.out ?_; intro w3 hW3 hG3; have HW3 := Lib.hid hW3; have HG3 := Lib.hid hG3; have c72 := (hW3.at_ 72).trans H72.out; clear hW3 hG3))
  have HB3 := Lib.hid (gr_alloc2 HG3.out (by omega))
  have hs3 := gr_size2 HG3.out
  obtain ⟨z, hz, hZ⟩ : ∃ z : Array Value, z.size = 32 ∧ Whole w3 w.heap.size 23 z := ⟨_, rfl, ((Whole.made w _ _).past _).grown HG3.out (by simp)⟩
  have HZ := Lib.hid hz
  have HZ3 := Lib.hid hZ
  have HH3 := Lib.hid (HH1.out w3 HW3.out)
  have HT3 := Lib.hid (HTab.out.below HB3.out HTab.out.lt1 HTab.out.lt2)
  clear hz hZ HG3 HH1 HI H1 HSZ H72 HW c72 HW3
  have hpd := padding_any X.length w3 (by omega)
  have hk := ShaM.padN_bd X.length
  have HK := Lib.hid hk
  have HPL := Lib.hid (ShaM.pad_len X.length)
  obtain ⟨pc, hpc⟩ : ∃ pc, pc = ((ShaM.pad X.length ++ List.replicate (72 - ShaM.padN X.length) 0).map Y).toArray := ⟨_, rfl⟩
  have hpsz : pc.size = 72 := by rw [hpc, List.size_toArray, List.length_map, List.length_append, HPL.out, List.length_replicate]; omega
  have HPI : Hid ((Tryz.prog.info? 152).map (·.size) = some pc.size) := by show _ = _; rw [hpsz]; kernel_rfl
  have HPS := Lib.hid hpsz
  have HP1 : Hid (pc.all (·.oneCell') = true) := by show _ = _; rw [hpc]; exact ys_all _
  have HPA : Hid (∀ i, i < ShaM.padN X.length → pc[0 + i]? = some (Y ((ShaM.pad X.length).getD i 0))) := fun i hi => by
    rw [hpc, List.getElem?_toArray, List.map_append, List.getElem?_append_left (by rw [List.length_map, HPL.out]; omega), ← some_y _ _ (by rw [HPL.out]; omega), Nat.zero_add]
  rw [← hpc] at hpd
  clear hpc hpsz hk
  generalize ShaM.padN X.length = k at *
  have HPD := Lib.hid hpd
  clear hpd
  have hk0 : (0 : Int) ≤ (k : Int) := by omega
  have hk72 : (k : Int) ≤ 72 := by have := HK.out; omega
  refine HPD.out.mono ?_
  rintro e w4 ⟨rfl, hB4⟩
  have HB4 := Lib.hid hB4
  clear hB4
  go_wp2_with (refine wpList_store_whole rfl 152 _ _ rfl w4.heap.size pc rfl rfl 152 _ (Whole.made w4 _ _) HPI.out (by rw [HPS.out]; kernel_rfl) HP1.out ?_; intro w5 hW5 hG5; have HW5 := Lib.hid hW5; have HG5 := Lib.hid hG5; clear hW5 hG5)
  have HB5 := Lib.hid (be_grown ((HB3.out.trans (HB4.out.mono HB3.out.size)).alloc (Nat.le_trans HB3.out.size HB4.out.size) _) HG5.out (by have := HB3.out.size; have := HB4.out.size; simp; omega) (fun j hj => by injection hj with hj; have := HB3.out.size; have := HB4.out.size; omega))
  have HB35 : Hid (Below w3.heap.size w3 w5) := be_grown (HB4.out.alloc HB4.out.size _) HG5.out (by have := HB4.out.size; simp; omega) (fun j hj => by injection hj with hj; have := HB4.out.size; omega)
  have HH5 := Lib.hid (HH3.out.below HB35.out hs3)
  have HT5 := Lib.hid (HT3.out.below HB35.out HT3.out.lt1 HT3.out.lt2)
  have HZ5 := Lib.hid (HZ3.out.below HB35.out (by omega))
  have h4 : w3.heap.size ≤ w4.heap.size := HB4.out.size
  clear HG5 HB4 HPD HB35
  go_wp2_with fail
  have hby : Bytes w5 (.slice (some ⟨w4.heap.size, 0, none⟩) k 72) (ShaM.pad X.length) := ⟨_, 72, by rw [HPL.out], by rw [HPL.out]; omega, by unfold maxLen; omega, fun _ => ⟨_, _, rfl, fun i hi => (HW5.out.at_ (0 + i)).trans (HPA.out i (by rw [HPL.out] at hi; exact hi))⟩⟩
  have hl1 := HT3.out.lt1
  have hl2 := HT3.out.lt2
  have hl1' := HTab.out.lt1
  have hl2' := HTab.out.lt2
  refine (put_any (w.heap.size + 1) 149 _ X (ShaM.pad X.length) w5 HT5.out (by omega) (by omega) HH5.out (by omega) hby (fun _ h => by injection h with h; dsimp only at h; omega)).mono ?_
  rintro e w6 ⟨rfl, hG6, hH6⟩
  clear hby hl1 hl2 hl1' hl2'
  obtain ⟨s6, pt6, hp6, hW6, hs6, _⟩ := hH6
  have hs6' : s6 = ShaM.stOf (X ++ ShaM.pad X.length) := hs6 (fun h => by have := congrArg List.length h; rw [List.length_append, HPL.out, List.length_nil] at this; have := HK.out; omega)
  have HSH : Hid (ShaM.sha X = ShaM.out s6) := by rw [hs6']; rfl
  have HB6 := Lib.hid (be_grown HB5.out hG6 HB5.out.size (fun j hj => by injection hj with hj; omega))
  have HZ6 := Lib.hid (HZ5.out.grown hG6 (by simp))
  have hrg : w6.rangeAt (w.heap.size + 1) 0 (stl s6) := fun j v hv => by
    have hj : j < 8 := by
      rcases Nat.lt_or_ge j 8 with h | h
      · exact h
      · rw [List.getElem?_eq_none (by rw [stl_len]; omega)] at hv; cases hv
    rw [Nat.zero_add, hW6.at_ j, List.getElem?_toArray, hl, List.getElem?_append_left (by rw [stl_len]; exact hj)]
    exact hv
  have HRG := Lib.hid hrg
  have hs6s : w.heap.size + 1 < w6.heap.size := hW6.lt
  clear hs6 hs6' hG6 hW6 hp6 hrg HB5 HZ5 HH5 HT5 HW5
  go_wp2_with (refine wpList_load_mid rfl 146 _ rfl (w.heap.size + 1) 0 rfl (stl s6) _ (range_past HRG.out _) Tryz.underlying146 rfl (by kernel_rfl) ?_)
  go_loopw [25] (fun i wr => ∃ q : Nat, q ≤ 8 ∧ i = .int .i64 q ∧ Whole wr w6.heap.size 23 (oarr s6 q).toArray ∧ Below w6.heap.size w6 wr) (fun i _ => 8 - (intOf i).toNat)
  case atStart => exact ⟨0, by omega, rfl, Whole.made w6 _ _, (Below.refl _ _).alloc (Nat.le_refl _) _⟩
  case round =>
    obtain ⟨q, hq, rfl, hW, hB⟩ := hrel
    have HW := Lib.hid hW
    have HB := Lib.hid hB
    clear hW hB
    by_cases hlt : q < 8
    · have hidx := run_index_one 146 145 8 (stl s6).toArray q _ _ Tryz.underlying146 Tryz.underlying145 rfl (by kernel_rfl) hlt (stl_at s6 q hlt)
      have hsl := run_slice_arr (P := Tryz.prog) 23 5 32 w6.heap.size 0 (4 * q) Tryz.underlying23 (by kernel_rfl) (by omega)
      rw [show ((4 * q : Nat) : Int) = 4 * (q : Int) by omega, Nat.zero_add] at hsl
      unfold U at hidx
      go_wp2_with fail
      refine (putWord_at w6.heap.size (4 * q) _ _ _ (s6.at q) rfl 23 _ _ (by omega) HW.out (by rw [List.size_toArray, oarr_len _ _ (by omega)]; omega)).mono ?_
      rintro e w7 ⟨rfl, hG7, hW7⟩
      rw [oarr_step _ _ hlt] at hW7
      have HW7 := Lib.hid hW7
      have HB7 := Lib.hid (be_grown HB.out hG7 HB.out.size (fun j hj => by injection hj with hj; omega))
      clear hG7 hW7 hidx hsl
      go_wp2
      go_roundw
      case rel => exact ⟨q + 1, by omega, by go_num, HW7.out, HB7.out⟩
      case measure => simp [intOf]; omega
    · have hW8 : Whole wr w6.heap.size 23 ((ShaM.out s6).map Y).toArray := by
        have := HW.out
        rw [show q = 8 by omega, oarr_full] at this
        exact this
      obtain ⟨oc, hoc⟩ : ∃ oc, oc = ((ShaM.out s6).map Y).toArray := ⟨_, rfl⟩
      rw [← hoc] at hW8
      have hos : oc.size = 32 := by rw [hoc, List.size_toArray, List.length_map]; rfl
      have HOI : Hid ((Tryz.prog.info? 23).map (·.size) = some oc.size) := by show _ = _; rw [hos]; kernel_rfl
      have HO1 : Hid (oc.all (·.oneCell') = true) := by show _ = _; rw [hoc]; exact ys_all _
      have HOS : Hid (z.size = oc.size) := by show _ = _; rw [hos, HZ.out]
      have HOC := Lib.hid hoc
      have HW8 := Lib.hid hW8
      have HZ8 := Lib.hid (HZ6.out.below HB.out (by omega))
      have HB8 := Lib.hid (HB6.out.trans (HB.out.mono HB6.out.size))
      clear hoc hos hW8
      go_wp2_with (first
        | (refine wpList_load_row rfl 23 _ rfl w6.heap.size rfl 23 oc (0, 0) _ HW8.out Tryz.underlying23 rfl HOI.out ?_)
        | (refine wpList_store_whole rfl 23 _ _ rfl w.heap.size oc rfl rfl 23 z HZ8.out HOI.out HOS.out HO1.out ?_; intro w9 hW9 hG9; have HW9 := Lib.hid hW9; have HB9 := Lib.hid (be_grown HB8.out hG9 HB8.out.size (fun j hj => by injection hj with hj; omega)); clear hW9 hG9))
      refine bodyPost_ret (v := .agg oc) ?_ rfl ⟨by rw [HOC.out, HSH.out], HB9.out⟩
      exact results_cell_row (p := 2) (ty := 23) rfl _ _ w.heap.size 23 oc (0, 0) _ rfl HW9.out Tryz.underlying23 rfl HOI.out

theorem zero_hash (w : World) (o : Obj) : HashAt ((w.alloc o).alloc (.cells Tryz.zeroCells149 149)) (w.heap.size + 1) 149 [] := by
  have e : Tryz.zeroCells149 = (hl ⟨0, 0, 0, 0, 0, 0, 0, 0⟩ (List.replicate 64 0) 0).toArray := by kernel_rfl
  rw [e]
  exact ⟨_, _, rfl, heap_alloc2_new w _ _, fun h => absurd rfl h, rfl⟩
theorem Bytes.below {w w' : World} {v : Value} {bs : List UInt8} {B : Nat} (h : Bytes w v bs) (hb : Below B w w') (hB : w.heap.size ≤ B) : Bytes w' v bs := by
  obtain ⟨A, c, rfl, hc, hcm, hcell⟩ := h
  refine ⟨A, c, rfl, hc, hcm, fun h0 => ?_⟩
  obtain ⟨g, off, rfl, hcl⟩ := hcell h0
  exact ⟨g, off, rfl, fun i hi => (hb.cell (Nat.lt_of_lt_of_le (World.block_lt_of_cell? w ⟨g, off + i, none⟩ (hcl i hi)) hB)).trans (hcl i hi)⟩
theorem Bytes.lt {w : World} {v : Value} {bs : List UInt8} (h : Bytes w v bs) (hn : bs ≠ []) : ∃ k, v.ownBlock = some k ∧ k < w.heap.size := by
  obtain ⟨A, c, rfl, hc, hcm, hcell⟩ := h
  have h0 : 0 < bs.length := List.length_pos_iff.2 hn
  obtain ⟨g, off, rfl, hcl⟩ := hcell h0
  exact ⟨g, rfl, World.block_lt_of_cell? w ⟨g, off + 0, none⟩ (hcl 0 h0)⟩

set_option maxRecDepth 100000 in
set_option maxHeartbeats 2000000 in
/-- sha.Sum. -/
theorem sum_any (v : Value) (bs : List UInt8) (w : World) (hTab : Tabs w) (hv : Bytes w v bs) (hX : bs.length < 2 ^ 59) :
    Calls Tryz.prog 98 #[v] w fun e w' => e = .returned (.agg ((ShaM.sha bs).map Y).toArray) ∧ Below w.heap.size w w' := by
  have hl1 := hTab.lt1
  have hl2 := hTab.lt2
  have HTab := Lib.hid hTab
  have HV := Lib.hid hv
  have hb2 : Hid (∀ o o' : Obj, Below w.heap.size w ((w.alloc o).alloc o')) := fun o o' => ((Below.refl _ _).alloc (Nat.le_refl _) _).alloc (by simp) _
  have hh : Hid (∀ o : Obj, HashAt ((w.alloc o).alloc (.cells Tryz.zeroCells149 149)) (w.heap.size + 1) 149 []) := fun o => zero_hash w o
  clear hTab hv
  go_enter Tryz.func98, Tryz.ntmps98
  go_wp2_with fail
  refine (put_any (w.heap.size + 1) 149 _ [] bs _ (HTab.out.below (hb2.out _ _) hl1 hl2) (by omega) (by omega) (hh.out _) (by simp) (HV.out.below (hb2.out _ _) (Nat.le_refl _)) (fun hn => by obtain ⟨k, hk, hlt⟩ := HV.out.lt hn; rw [hk]; intro h; injection h with h; omega)).mono ?_
  rintro e w3 ⟨rfl, hG3, hH3⟩
  rw [List.nil_append] at hH3
  have HB3 := Lib.hid (gr_alloc2 hG3 (by omega))
  have hs3 := gr_size2 hG3
  obtain ⟨z, hz, hZ⟩ : ∃ z : Array Value, z.size = 32 ∧ Whole w3 w.heap.size 23 z := ⟨_, rfl, ((Whole.made w _ _).past _).grown hG3 (by simp)⟩
  have HZ := Lib.hid hz
  have HZ3 := Lib.hid hZ
  have HH3 := Lib.hid hH3
  have HT3 := Lib.hid (HTab.out.below HB3.out hl1 hl2)
  clear hz hZ hG3 hH3
  go_wp2_with fail
  refine (hsum_any (w.heap.size + 1) _ bs w3 HT3.out HH3.out hX).mono ?_
  rintro e w4 ⟨rfl, hB4⟩
  obtain ⟨oc, hoc⟩ : ∃ oc, oc = ((ShaM.sha bs).map Y).toArray := ⟨_, rfl⟩
  rw [← hoc]
  have hos : oc.size = 32 := by rw [hoc, List.size_toArray, List.length_map]; rfl
  have HOI : Hid ((Tryz.prog.info? 23).map (·.size) = some oc.size) := by show _ = _; rw [hos]; kernel_rfl
  have HO1 : Hid (oc.all (·.oneCell') = true) := by show _ = _; rw [hoc]; exact ys_all _
  have HOS : Hid (z.size = oc.size) := by show _ = _; rw [hos, HZ.out]
  have HZ4 := Lib.hid (HZ3.out.below hB4 (by omega))
  have HB4 := Lib.hid (HB3.out.trans (hB4.mono HB3.out.size))
  have HOC := Lib.hid hoc
  clear hoc hos hB4
  go_wp2_with (refine wpList_store_whole rfl 23 _ _ rfl w.heap.size oc rfl rfl 23 z HZ4.out HOI.out HOS.out HO1.out ?_; intro w9 hW9 hG9; have HW9 := Lib.hid hW9; have HB9 := Lib.hid (be_grown HB4.out hG9 HB4.out.size (fun j hj => by injection hj with hj; omega)); clear hW9 hG9)
  refine bodyPost_ret (v := .agg oc) ?_ rfl ⟨by rw [HOC.out], HB9.out⟩
  exact results_cell_row (p := 2) (ty := 23) rfl _ _ w.heap.size 23 oc (0, 0) _ rfl HW9.out Tryz.underlying23 rfl HOI.out
end Go.Proofs.YtfaijkgfhdhhbaaGreatDoor
namespace Go.Proofs.YtfaijkgfhdhhbaaGreatDoor
open Go.RowKit

/-- string(b), b's bytes known. -/
theorem bytes_str {P : Program} {w : World} {v : Value} {bs : List UInt8} (src dst e : TypeId) (hs : P.underlying src = some (.slice e)) (he : P.underlying e = some (.int .u8)) (hd : P.underlying dst = some .string) (h : Bytes w v bs) :
    (convert src dst v).run P w = .ok (.string ⟨bs.toArray⟩) w := by
  obtain ⟨A, c, rfl, hc, hcm, hcell⟩ := h
  rcases Nat.eq_zero_or_pos bs.length with h0 | h0
  · obtain rfl : bs = [] := List.eq_nil_of_length_eq_zero h0
    rcases A with _ | a
    · exact run_convert_bytes_nil w src e hs he _ _ dst hd
    · exact run_convert_bytes_back w src dst e a c [] hs he hd (fun j hj => absurd hj (by simp))
  · obtain ⟨g, off, rfl, hcl⟩ := hcell h0
    refine run_convert_bytes_back w src dst e ⟨g, off, none⟩ c bs hs he hd (fun j hj => ?_)
    rw [Addr.add_mid, hcl j hj]
    simp [Y, List.getElem?_eq_getElem hj]

/-- A reader of the bytes s, at block b. -/
def Rd (w : World) (b : Nat) (s : List UInt8) : Prop := Whole w b 122 #[.string ⟨s.toArray⟩]

theorem gnew_any (v : Value) (bs : List UInt8) (w : World) (hv : Bytes w v bs) :
    Calls Tryz.prog 54 #[v] w fun e w' => e = .returned (.pointer (some ⟨w.heap.size, 0, none⟩)) ∧ Below w.heap.size w w' ∧ Rd w' w.heap.size bs ∧ w'.heap.size = w.heap.size + 1 := by
  have hcv := bytes_str (P := Tryz.prog) 78 9 5 Tryz.underlying78 Tryz.underlying5 Tryz.underlying9 hv
  go_enter Tryz.func54, Tryz.ntmps54
  go_wp2
  go_ret
  exact ⟨rfl, (Below.refl _ _).alloc (Nat.le_refl _) _, Whole.made _ _ _, by simp⟩

theorem left_any (b : Nat) (s : List UInt8) (w : World) (h : Rd w b s) : Calls Tryz.prog 86 #[.pointer (some ⟨b, 0, none⟩)] w fun e w' => e = .returned (.int .i64 (s.length : Int)) ∧ w = w' := by
  have hc : w.cell? ⟨b, 0, none⟩ = some (.string ⟨s.toArray⟩) := (Whole.at_ h 0).trans rfl
  clear h
  go_enter Tryz.func86, Tryz.ntmps86
  go_wp2
  go_ret
  exact ⟨rfl, rfl⟩
theorem left_nil (w : World) : Calls Tryz.prog 86 #[.pointer none] w fun e w' => e = .returned (.int .i64 0) ∧ w = w' := by
  go_enter Tryz.func86, Tryz.ntmps86
  go_wp2
  go_ret
  exact ⟨rfl, rfl⟩

/-- take of fewer than none. -/
theorem take_neg (p : Value) (n : Int) (w : World) (hn : n < 0) : Calls Tryz.prog 131 #[p, .int .i64 n] w fun e w' => e = .panicked (fault 1) ∧ w = w' := by
  have hd : decide (0 ≤ n) = false := by simp; omega
  go_enter Tryz.func131, Tryz.ntmps131
  go_wp2_with (go_at_call 87; refine (must_no _ _).mono ?_; rintro e w' ⟨rfl, rfl⟩)
  exact ⟨rfl, rfl, rfl⟩
theorem take_more (b : Nat) (s : List UInt8) (n : Int) (w : World) (h : Rd w b s) (hn : (s.length : Int) < n) : Calls Tryz.prog 131 #[.pointer (some ⟨b, 0, none⟩), .int .i64 n] w fun e w' => e = .panicked (fault 2) ∧ w = w' := by
  have hd : decide (0 ≤ n) = true := by simp; omega
  have hd2 : decide (n ≤ (s.length : Int)) = false := by simp; omega
  have H := Lib.hid h
  clear h
  go_enter Tryz.func131, Tryz.ntmps131
  go_wp2_with (first
    | (go_at_call 86; refine (left_any b s _ H.out).mono ?_; rintro e w' ⟨rfl, rfl⟩)
    | (go_at_call 87; go_at_call_of 87 (Value.bool true); refine (must_yes _ _).mono ?_; rintro e w' ⟨rfl, rfl⟩)
    | (go_at_call 87; go_at_call_of 87 (Value.bool false); refine (must_no _ _).mono ?_; rintro e w' ⟨rfl, rfl⟩))
  exact ⟨rfl, rfl, rfl⟩
theorem take_none (b : Nat) (s : List UInt8) (w : World) (h : Rd w b s) : Calls Tryz.prog 131 #[.pointer (some ⟨b, 0, none⟩), .int .i64 0] w fun e w' => e = .returned (.string ⟨#[]⟩) ∧ w = w' := by
  have hd2 : decide ((0 : Int) ≤ (s.length : Int)) = true := by simp
  have H := Lib.hid h
  clear h
  go_enter Tryz.func131, Tryz.ntmps131
  go_wp2_with (first
    | (go_at_call 86; refine (left_any b s _ H.out).mono ?_; rintro e w' ⟨rfl, rfl⟩)
    | (go_at_call 87; refine (must_yes _ _).mono ?_; rintro e w' ⟨rfl, rfl⟩))
  go_ret
  exact ⟨rfl, rfl⟩
theorem take_nil0 (w : World) : Calls Tryz.prog 131 #[.pointer none, .int .i64 0] w fun e w' => e = .returned (.string ⟨#[]⟩) ∧ w = w' := by
  go_enter Tryz.func131, Tryz.ntmps131
  go_wp2_with (first
    | (go_at_call 86; refine (left_nil _).mono ?_; rintro e w' ⟨rfl, rfl⟩)
    | (go_at_call 87; refine (must_yes _ _).mono ?_; rintro e w' ⟨rfl, rfl⟩))
  go_ret
  exact ⟨rfl, rfl⟩
theorem take_nil1 (w : World) : Calls Tryz.prog 131 #[.pointer none, .int .i64 1] w fun e w' => e = .panicked (fault 2) ∧ w = w' := by
  go_enter Tryz.func131, Tryz.ntmps131
  go_wp2_with (first
    | (go_at_call 86; refine (left_nil _).mono ?_; rintro e w' ⟨rfl, rfl⟩)
    | (go_at_call 87; go_at_call_of 87 (Value.bool true); refine (must_yes _ _).mono ?_; rintro e w' ⟨rfl, rfl⟩)
    | (go_at_call 87; go_at_call_of 87 (Value.bool false); refine (must_no _ _).mono ?_; rintro e w' ⟨rfl, rfl⟩))
  exact ⟨rfl, rfl, rfl⟩
theorem take_some (b : Nat) (s : List UInt8) (n : Nat) (w : World) (h : Rd w b s) (hn : 0 < n) (hl : n ≤ s.length) : Calls Tryz.prog 131 #[.pointer (some ⟨b, 0, none⟩), .int .i64 (n : Int)] w fun e w' => e = .returned (.string ⟨(s.take n).toArray⟩) ∧ w.grownBy w' (some b) ∧ Rd w' b (s.drop n) := by
  have hd2 : decide ((n : Int) ≤ (s.length : Int)) = true := by simp; omega
  have hd3 : ((n : Int) == 0) = false := beq_eq_false_iff_ne.2 (by omega)
  have hc : w.cell? ⟨b, 0, none⟩ = some (.string ⟨s.toArray⟩) := (Whole.at_ h 0).trans rfl
  have hz := Whole.thawed h 0
  have H := Lib.hid h
  clear h
  go_enter Tryz.func131, Tryz.ntmps131
  go_wp2_with (first
    | (go_at_call 86; refine (left_any b s _ H.out).mono ?_; rintro e w' ⟨rfl, rfl⟩)
    | (go_at_call 87; refine (must_yes _ _).mono ?_; rintro e w' ⟨rfl, rfl⟩))
  go_ret
  rw [ByteArray.extract_mk, ByteArray.extract_mk]
  refine ⟨by simp, gr_set (gr_refl _ _) (.inl rfl) _, ?_⟩
  have := Whole.put H.out 0 (.string ⟨(s.drop n).toArray⟩)
  rw [List.take_of_length_le (by simp)]
  exact this

/-- Byte. -/
theorem byte_some (b : Nat) (x : UInt8) (s : List UInt8) (w : World) (h : Rd w b (x :: s)) : Calls Tryz.prog 109 #[.pointer (some ⟨b, 0, none⟩)] w fun e w' => e = .returned (.int .u8 (x.toNat : Int)) ∧ w.grownBy w' (some b) ∧ Rd w' b s := by
  have H := Lib.hid h
  clear h
  go_enter Tryz.func109, Tryz.ntmps109
  go_wp2_with fail
  refine (take_some b (x :: s) 1 _ H.out (by decide) (by simp)).mono ?_
  rintro e w' ⟨rfl, hG, hR⟩
  have HG := Lib.hid hG
  have HR := Lib.hid hR
  clear hG hR
  go_wp2
  go_ret
  exact ⟨rfl, HG.out, HR.out⟩
theorem byte_more (b : Nat) (w : World) (h : Rd w b []) : Calls Tryz.prog 109 #[.pointer (some ⟨b, 0, none⟩)] w fun e w' => e = .panicked (fault 2) ∧ w = w' := by
  have H := Lib.hid h
  clear h
  go_enter Tryz.func109, Tryz.ntmps109
  go_wp2_with fail
  refine (take_more b [] 1 _ H.out (by decide)).mono ?_
  rintro e w' ⟨rfl, rfl⟩
  exact ⟨rfl, rfl, rfl⟩
theorem byte_nil (w : World) : Calls Tryz.prog 109 #[.pointer none] w fun e w' => e = .panicked (fault 2) ∧ w = w' := by
  go_enter Tryz.func109, Tryz.ntmps109
  go_wp2_with fail
  refine (take_nil1 _).mono ?_
  rintro e w' ⟨rfl, rfl⟩
  exact ⟨rfl, rfl, rfl⟩
end Go.Proofs.YtfaijkgfhdhhbaaGreatDoor

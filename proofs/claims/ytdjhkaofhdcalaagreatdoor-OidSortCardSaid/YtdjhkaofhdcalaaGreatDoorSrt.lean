/-
  oid.Sort, walked: a copy, sorted, each once.
-/
import Derived.Test.YtdjhkaofhdcalaaGreatDoorCmpN
import Derived.Test.YtdjhkaofhdcalaaGreatDoorCpt
import Derived.Test.YtdjhkaofhdcalaaGreatDoorSlShelf
namespace Go.Proofs.YtdjhkaofhdcalaaGreatDoor
open Go.RowKit Go.Sort

theorem flat_len (ids : List Nm) : (ids.flatMap encN).length = ids.length * 32 := by
  induction ids with
  | nil => rfl
  | cons x l ih => rw [List.flatMap_cons, List.length_append, ih, encN_len, List.length_cons]; omega
theorem flat_at (ids : List Nm) : ∀ i j, i < ids.length → j < 32 → (ids.flatMap encN)[i * 32 + j]? = (encN (ids.getD i default))[j]? := by
  induction ids with
  | nil => intro i j hi; exact absurd hi (Nat.not_lt_zero _)
  | cons x l ih =>
    intro i j hi hj
    rw [List.flatMap_cons]
    cases i with
    | zero =>
      rw [Nat.zero_mul, Nat.zero_add, List.getElem?_append_left (by rw [encN_len]; exact hj)]
      rfl
    | succ i =>
      rw [List.getElem?_append_right (by rw [encN_len]; omega), encN_len, show (i + 1) * 32 + j - 32 = i * 32 + j by omega, ih i j (by simpa using hi) hj]
      rfl
theorem row_flat {w : World} {b o : Nat} {ids : List Nm} (h : RowN w b o ids) : ∀ j u, (ids.flatMap encN)[j]? = some u → w.cell? ⟨b, o + j, none⟩ = some u := by
  intro j u hu
  have hj : j < ids.length * 32 := by
    rw [← flat_len]
    exact (List.getElem?_eq_some_iff.1 hu).1
  rw [show j = j / 32 * 32 + j % 32 by omega, flat_at ids _ _ (by omega) (by omega)] at hu
  have := h (j / 32) (by omega) (j % 32) u hu
  rw [show o + j / 32 * 32 + j % 32 = o + j by omega] at this
  exact this
theorem getI (d : List Nm) (i : Nat) (h : i < d.length) : (d.toArray)[i]! = d.getD i default := by
  rw [getElem!_pos d.toArray i (by simpa using h)]
  simp [List.getD, List.getElem?_eq_getElem h]
theorem holds_row {w : World} {b o : Nat} {d : List Nm} (h : HoldsK encN 32 w b o d.toArray) : RowN w b o d ∧ ∀ i, i < d.length * 32 → w.frozen? ⟨b, o + i, none⟩ = false := by
  refine ⟨fun i hi j v hv => ?_, fun i hi => ?_⟩
  · have hj : j < 32 := by
      have := (List.getElem?_eq_some_iff.1 hv).1
      rwa [encN_len] at this
    have := (h.cell (i := i) (c := j) (by simpa using hi) hj).1
    rw [this, getI d i hi, getElem!_pos _ _ (by rw [encN_len]; exact hj)]
    rw [List.getElem?_eq_getElem (by rw [encN_len]; exact hj)] at hv
    exact hv
  · have := (h.cell (i := i / 32) (c := i % 32) (by simp; omega) (by omega)).2
    rw [show o + i / 32 * 32 + i % 32 = o + i by omega] at this
    exact this
theorem row_holds {w : World} {b o : Nat} {d : List Nm} (h : RowN w b o d) (hf : ∀ i, i < d.length * 32 → w.frozen? ⟨b, o + i, none⟩ = false) : HoldsK encN 32 w b o d.toArray := by
  intro t ht
  have ht' : t < d.length * 32 := by simpa using ht
  rw [get_flatK _ _ _ _ (by simpa using ht')]
  refine ⟨?_, hf t ht'⟩
  have hl := encN_len (d.getD (t / 32) default)
  have := h (t / 32) (by omega) (t % 32) _ (List.getElem?_eq_getElem (by omega))
  rw [show o + t / 32 * 32 + t % 32 = o + t by omega] at this
  rw [this, getI d _ (by omega)]
  show _ = some (encN _)[_]!
  rw [getElem!_pos _ _ (by rw [encN_len]; omega)]
/-- A slice of names of the call's own: its row, not frozen. -/
theorem own_nm {w : World} {B : Nat} {v : Value} {ids : List Nm} (h : w.ownsRow B 23 32 v ids.length (ids.flatMap encN)) (hn : 0 < ids.length) :
    ∃ g c, v = .slice (some ⟨g, 0, none⟩) ids.length c ∧ B ≤ g ∧ g < w.heap.size ∧ ids.length ≤ c ∧ c ≤ maxLen ∧ RowN w g 0 ids ∧ ∀ i, i < ids.length * 32 → w.frozen? ⟨g, 0 + i, none⟩ = false := by
  rcases h.2 with ⟨rfl, h0⟩ | ⟨g, cap, cur, rfl, hB, hg, hn, hm, hs, ht⟩
  · omega
  · refine ⟨g, cap, rfl, hB, (Array.getElem?_eq_some_iff.1 hg).1, hn, hm, fun i hi j v hv => ?_, fun i hi => ?_⟩
    · have hj : j < 32 := by
        have := (List.getElem?_eq_some_iff.1 hv).1
        rwa [encN_len] at this
      have hx : (ids.flatMap encN)[i * 32 + j]? = some v := by rw [flat_at ids i j hi hj]; exact hv
      rw [← ht, List.getElem?_take_of_lt (by omega)] at hx
      rw [Nat.zero_add, cell_of_row _ _ _ _ _ _ hg]
      simpa using hx
    · unfold World.frozen?
      rw [hg]
      simp
theorem info23 : (Tryz.prog.info? 23).map (fun i => (i.zero, i.size, i.bytes)) = some (some (.agg (encN default).toArray), 32, 32) := by kernel_rfl
theorem clone_nm (b o c : Nat) (ids : List Nm) (w : World) (h : RowN w b o ids) (hl : ids.length ≤ 1048576) :
    Calls Tryz.prog 45 #[.slice (some ⟨b, o, none⟩) ids.length c] w fun e w' => ∃ v', e = .returned v' ∧ w'.ownsRow w.heap.size 23 32 v' ids.length (ids.flatMap encN) ∧ Below w.heap.size w w' := by
  cases hq : Tryz.prog.info? 23 with
  | none =>
    have := info23
    rw [hq] at this
    cases this
  | some i0 =>
    have hi := info23
    rw [hq] at hi
    simp only [Option.map_some, Option.some.injEq, Prod.mk.injEq] at hi
    obtain ⟨h1, h2, h3⟩ := hi
    have := AnyE.slices_Clone Tryz.clnId i0 (.agg (encN default).toArray) 32 32 hq h1 h2 h3 (encN_size default) (by decide) Tryz.sizeOf23 b o ids.length c (ids.flatMap encN) w (flat_len ids) (by unfold maxLen; omega) (by omega) (row_flat h) (by
      intro u hu
      obtain ⟨x, -, hx⟩ := List.mem_flatMap.1 hu
      exact encN_one x u hx)
    exact this.mono fun e w' ⟨v', h1, h2, _, h4⟩ => ⟨v', h1, h2, h4⟩
theorem clone_nil (w : World) : Calls Tryz.prog 45 #[.slice none 0 0] w fun e w' => e = .returned (.slice none 0 0) ∧ w' = w := AnyE.slices_Clone_nil Tryz.clnId 0 0 w
theorem sortf_nm (g cap : Nat) (ids : List Nm) (w : World) (h : RowN w g 0 ids) (hf : ∀ i, i < ids.length * 32 → w.frozen? ⟨g, 0 + i, none⟩ = false) (hg : g < w.heap.size) (hl : ids.length ≤ 1048576) :
    Calls Tryz.prog 46 #[.slice (some ⟨g, 0, none⟩) ids.length cap, .func (.func 47) #[] #[]] w fun e w' => e = .returned (.tuple #[]) ∧
      ∃ d : List Nm, d.Perm ids ∧ Ord d ∧ RowN w' g 0 d ∧ (∀ i, i < ids.length * 32 → w'.frozen? ⟨g, 0 + i, none⟩ = false) ∧ w.grownBy w' (some g) := by
  have eg : ∀ args w, (callFunc 47 args).run Tryz.prog w = .ok (.enter 47 args) w := enters_of Tryz.func47 (by kernel_rfl) rfl
  have hH := row_holds h hf
  have := AnyQ.slices_SortFunc Tryz.srtId 32 Tryz.isAgg23 Tryz.sizeOf23 encN encN_len encN_one cmpN swoN 47 #[] g 0 cap ids.toArray w eg (fun _ _ _ _ x y => compare_any x y _) hH hg (by simp; omega)
  refine this.mono ?_
  rintro e w' ⟨rfl, d', n, os, hp, hs, rfl⟩
  obtain ⟨hsz, -, hperm⟩ := hp
  rw [show ids.toArray.size = d'.size from hsz.symm, Array.extract_size, show d'.size = ids.toArray.size from hsz, Array.extract_size] at hperm
  have hlen : d'.toList.length = ids.length := by simpa using hsz
  have hput : HoldsK encN 32 (putRowK encN 32 (Sort.ahead w n) g 0 d') g 0 d' := holdsK_putRowK encN 32 (Sort.ahead w n) g 0 ids.toArray d' (holdsK_ahead encN 32 w n g 0 _ hH) hsz
  have hgr : w.grownBy (sortWorldK encN 32 w g 0 n d' os) (some g) := by
    refine ⟨rfl, rfl, rfl, by simp [sortWorldK, putRowK], fun k hk hne => ?_⟩
    unfold sortWorldK putRowK
    rw [heap_grow_old _ _ (by simpa using hk)]
    have : g ≠ k := fun e => hne (by rw [e])
    simp [putRow, mapBlock, Sort.ahead, Array.getElem?_modify, this]
  have hgl : g < (putRowK encN 32 (Sort.ahead w n) g 0 d').heap.size := by
    simpa [putRowK] using hg
  have hhold : HoldsK encN 32 (sortWorldK encN 32 w g 0 n d' os) g 0 d'.toList.toArray := by
    rw [Array.toArray_toList]
    exact holdsK_grow encN 32 _ os g 0 d' hgl hput
  obtain ⟨hrow, hfz⟩ := holds_row hhold
  refine ⟨rfl, d'.toList, by simpa using hperm, fun i j hij hj => ?_, hrow, by rw [← hlen]; exact hfz, hgr⟩
  have := hs i j (Nat.zero_le _) hij (by rw [← hsz]; simpa using hj)
  rw [ltOf_cmpN, decide_eq_false_iff_not] at this
  have e : ∀ i, i < d'.toList.length → d'[i]! = d'.toList.getD i default := fun i hi => by
    have := getI d'.toList i hi
    rwa [Array.toArray_toList] at this
  rwa [e i (by omega), e j hj] at this
set_option maxRecDepth 100000 in
set_option maxHeartbeats 4000000 in
theorem clone_zero (A : Option Addr) (c : Nat) (w : World) (h0 : A = none → c = 0) :
    Calls Tryz.prog 45 #[.slice A 0 c] w fun e w' => ∃ A' c', e = .returned (.slice A' 0 c') ∧ (A' = none → c' = 0) ∧ c' ≤ maxLen ∧ (∀ j, inBlk A' j → w.heap.size ≤ j) ∧ Below w.heap.size w w' := by
  cases A with
  | none =>
    obtain rfl := h0 rfl
    refine (clone_nil w).mono ?_
    rintro e w' ⟨rfl, rfl⟩
    exact ⟨none, 0, rfl, fun _ => rfl, by unfold maxLen; omega, (fun j ⟨a, e, _⟩ => by cases e), Below.refl _ _⟩
  | some ad =>
    have q22 : ∀ (w : World) (a : Option Addr) (n c n' c' : Nat), (binOp .eql 24 (.slice a n c) (.slice none n' c')).run Tryz.prog w = .ok (.bool a.isNone) w := fun w a n c n' c' => Lib.run_eql_slice_nil w _ _ a n c n' c' Tryz.underlying24
    go_enter Tryz.func45, Tryz.ntmps45
    go_wp2
    go_ret
    refine ⟨some ⟨w.heap.size, 0, none⟩, 0, rfl, fun _ => rfl, by unfold maxLen; omega, ?_, (Below.refl _ w).alloc (Nat.le_refl _) _⟩
    rintro j ⟨a, e, rfl⟩
    injection e with e
    subst e
    exact Nat.le_refl _
set_option maxRecDepth 100000 in
theorem compact_small (A : Option Addr) (c : Nat) (w : World) :
    Calls Tryz.prog 48 #[.slice A 0 c] w fun e w' => e = .returned (.slice A 0 c) ∧ w = w' := by
  go_enter Tryz.func48, Tryz.ntmps48
  go_wp2
  go_ret
  exact ⟨rfl, rfl⟩
set_option maxRecDepth 100000 in
set_option maxHeartbeats 4000000 in
theorem sort_nm (A : Option Addr) (c : Nat) (ids : List Nm) (w : World) (hA : ArgN w A c ids) (hl : ids.length ≤ 1048576) :
    Calls Tryz.prog 11 #[.slice A ids.length c] w fun e w' => ∃ A' c' s, e = .returned (.slice A' (List.length s) c') ∧ Rise s ∧ (∀ x, x ∈ s ↔ x ∈ ids) ∧ s.length ≤ ids.length ∧ ArgN w' A' c' s ∧ (∀ j, inBlk A' j → w.heap.size ≤ j) ∧ Below w.heap.size w w' := by
  by_cases h0 : ids.length = 0
  · obtain rfl : ids = [] := List.length_eq_zero_iff.1 h0
    have HC := Lib.hid (clone_zero A c w hA.2.2.1)
    have HCP := Lib.hid fun A c w => compact_small A c w
    have HSN : Hid (∀ (p : Option Addr) (cap : Nat) (fv : Value) (w : World), Calls Tryz.prog 46 #[.slice p 0 cap, fv] w fun e w' => e = .returned (.tuple #[]) ∧ w' = w) := fun p cap fv w => AnyF.slices_SortFunc_none Tryz.srtId p cap fv w
    clear hA h0 hl
    go_enter Tryz.func11, Tryz.ntmps11
    go_wp2_with fail
    refine HC.out.mono ?_
    rintro e w1 ⟨A', c', rfl, hz, hm, hbl, hB⟩
    have HZ := Lib.hid hz
    have HM := Lib.hid hm
    have HBL := Lib.hid hbl
    have HB := Lib.hid hB
    clear hz hm hbl hB
    go_wp2_with fail
    refine (HSN.out _ _ _ _).mono ?_
    rintro e w2 ⟨rfl, rfl⟩
    go_wp2_with fail
    refine (HCP.out _ _ _).mono ?_
    rintro e w3 ⟨rfl, rfl⟩
    go_wp2
    go_ret
    exact ⟨A', c', [], rfl, List.Pairwise.nil, fun x => Iff.rfl, Nat.le_refl _, ⟨Nat.zero_le _, HM.out, HZ.out, fun h => absurd h (Nat.lt_irrefl _)⟩, HBL.out, HB.out⟩
  · obtain ⟨b, o, rfl, hr⟩ := hA.2.2.2 (by omega)
    have HCL := Lib.hid (clone_nm b o c ids w hr hl)
    have HL := Lib.hid hl
    clear hr hA hl
    go_enter Tryz.func11, Tryz.ntmps11
    go_wp2_with fail
    refine HCL.out.mono ?_
    rintro e w1 ⟨v1, rfl, hown, hB1⟩
    obtain ⟨g, c1, rfl, hg1, hg2, hc1, hc2, hrow, hfz⟩ := own_nm hown (by omega)
    have HB1 := Lib.hid hB1
    have HS := Lib.hid (sortf_nm g c1 ids w1 hrow hfz hg2 HL.out)
    have HG := Lib.hid hg1
    have HC := Lib.hid (And.intro hc1 hc2)
    clear hown hB1 hrow hfz hg1 hg2 hc1 hc2 HCL
    go_wp2_with fail
    refine HS.out.mono ?_
    rintro e w2 ⟨rfl, d, hperm, hord, hrow, hfz, hgr⟩
    have hdl : d.length = ids.length := hperm.length_eq
    have HCP := Lib.hid (compact_nm g c1 d w2 hrow (by rw [hdl]; exact hfz) (by rw [hdl]; exact HC.out.1) (by rw [hdl]; exact HL.out))
    have HB2 := Lib.hid (be_grown HB1.out hgr HB1.out.size (fun j hj => by injection hj with hj; rw [← hj]; exact HG.out))
    have HRI := Lib.hid (cptk_rise d hord d.length (Nat.le_refl _)).1
    have HME : Hid (∀ x, x ∈ cptk d d.length ↔ x ∈ ids) := by
      intro x
      rw [cptk_mem d d.length (Nat.le_refl _), List.take_length, hperm.mem_iff]
    have HLE : Hid ((cptk d d.length).length ≤ ids.length) := by
      show _ ≤ _
      rw [← hdl]
      exact cptk_len d _
    rw [hdl] at HCP HRI HME HLE
    clear hperm hord hrow hfz hgr hdl HS HB1
    generalize cptk d ids.length = s at *
    go_wp2_with fail
    refine HCP.out.mono ?_
    rintro e w3 ⟨rfl, hgr, hrow⟩
    have HB3 := Lib.hid (be_grown HB2.out hgr HB2.out.size (fun j hj => by injection hj with hj; rw [← hj]; exact HG.out))
    have HR := Lib.hid hrow
    clear hgr hrow HCP
    go_wp2
    go_ret
    refine ⟨some ⟨g, 0, none⟩, c1, s, rfl, HRI.out, HME.out, HLE.out, ⟨Nat.le_trans HLE.out HC.out.1, HC.out.2, (fun e => by cases e), fun _ => ⟨g, 0, rfl, HR.out⟩⟩, ?_, HB3.out⟩
    rintro j ⟨a, e, rfl⟩
    injection e with e
    subst e
    exact HG.out
end Go.Proofs.YtdjhkaofhdcalaaGreatDoor

/-
  slices.Index, slices.Contains, oid.Has of names, walked; the reference's Has, Eq.
  oid.Sort, walked: a copy, sorted, each once.
  append of names; parts of a slice of names.
  The reference's Eq and Has of names, walked.
  OidSort, walked.
-/
import Derived.Test.YtdjhkaofhdcalaaGreatDoorMrg3
import Derived.Deep.LoopGhost
import Derived.Deep.Draws
import Derived.Test.YtdjhkaofhdcalaaGreatDoorSlShelf
import Derived.Laws.AppendOwnNone
import Derived.Test.YtdjhkaofhdcalaaGreatDoorBegB
import Derived.Lib.QuietBelow
namespace Go.Proofs.YtdjhkaofhdcalaaGreatDoor
open Go.RowKit

theorem infoX (x : Nm) : (Tryz.prog.info? 23).map (·.size) = some (encN x).length := by rw [encN_len]; exact infoN
theorem infoXs (x : Nm) : (Tryz.prog.info? 23).map (·.size) = some (encN x).toArray.size := by rw [encN_size]; exact infoN
theorem whole_range {w : World} {g : Nat} {t : TypeId} {cs : List Value} (h : Whole w g t cs.toArray) : w.rangeAt g 0 cs := fun j v hv => by
  rw [Nat.zero_add, h.at_, List.getElem?_toArray, hv]
theorem mem_at (x : Nm) (ids : List Nm) (h : ∀ i, i < ids.length → ids.getD i default ≠ x) : x ∉ ids := by
  intro hm
  obtain ⟨i, hi, he⟩ := List.mem_iff_getElem.1 hm
  refine h i hi ?_
  simp [List.getD, List.getElem?_eq_getElem hi, he]
theorem at_mem (ids : List Nm) (i : Nat) (h : i < ids.length) : ids.getD i default ∈ ids := by
  simp [List.getD, List.getElem?_eq_getElem h]
set_option maxRecDepth 100000 in
set_option maxHeartbeats 4000000 in
theorem index_nm (A : Option Addr) (c : Nat) (ids : List Nm) (x : Nm) (w : World) (hA : ArgN w A c ids) (hc : ids.length ≤ 1048576) :
    Calls Tryz.prog 79 #[.slice A ids.length c, .agg (encN x).toArray] w fun e w' => (∃ r : Int, e = .returned (.int .i64 r) ∧ (decide (r ≥ 0)) = decide (x ∈ ids)) ∧ Below w.heap.size w w' := by
  have HA := Lib.hid hA
  have hlc := hA.1
  have HW0 := Lib.hid (whole_range (Whole.made w 23 (encN x).toArray))
  have HXI := Lib.hid (infoX x)
  have HB0 := Lib.hid ((Below.refl w.heap.size w).alloc (Nat.le_refl _) (.cells (encN x).toArray 23))
  have HL := Lib.hid fun y W => eql_nm x y W
  have HA0 := Lib.hid (hA.later HB0.out)
  clear hA
  go_enter Tryz.func79, Tryz.ntmps79
  go_wp2
  generalize w.alloc (.cells (encN x).toArray 23) = w0 at *
  go_loopg [5, 8] ids.length (fun g _ s8 wr => ∃ k q : Nat, k ≤ ids.length ∧ ids.length - k ≤ g ∧ s8 = .int .i64 k ∧ Hid (wr = w0.drewN q) ∧ Hid (∀ i, i < k → ids.getD i default ≠ x))
  case atStart => exact ⟨0, 0, Nat.zero_le _, by omega, rfl, Lib.hid rfl, Lib.hid fun i hi => absurd hi (Nat.not_lt_zero _)⟩
  case round =>
    obtain ⟨k, q, hk, hg, rfl, hwr, hall⟩ := hrel
    by_cases hlt : k < ids.length
    · have hlt' : (k : Int) < (ids.length : Int) := by omega
      obtain ⟨b, o, rfl, hr⟩ := HA0.out.2.2.2 (by omega)
      have hrk := hr k hlt
      obtain ⟨y, hy⟩ : ∃ y, y = ids.getD k default := ⟨_, rfl⟩
      rw [← hy] at hrk
      have HLX : Hid (∀ W, (∃ n, W = wr.drewN n) → W.rangeAt w.heap.size 0 (encN x)) := by rintro W ⟨n, rfl⟩; rw [hwr.out]; exact HW0.out
      have HLY : Hid (∀ W, (∃ n, W = wr.drewN n) → W.rangeAt b (o + k * 32) (encN y)) := by rintro W ⟨n, rfl⟩; rw [hwr.out]; exact hrk
      have heq := HL.out y
      have HYI := Lib.hid (infoX y)
      have HY := Lib.hid hy
      clear hy hr hrk
      by_cases hd : x = y
      · have hdd : decide (x = y) = true := by simp [hd]
        rw [hdd] at heq
        clear hdd
        have HD := Lib.hid hd
        clear hd
        go_wp2_with fail
        refine wp_region_quiet_lit (by kernel_rfl) (by kernel_rfl) ?_
        repeat (first
          | go_big_quiet_step (fail)
          | (refine q_loadm _ _ rfl (by rfl) w.heap.size 0 (encN x) rfl _ Tryz.underlying23 rfl HXI.out HLX.out ?_; simp only [Act.put]; go_simp)
          | (refine q_loadm _ _ rfl (by rfl) b (o + k * 32) (encN y) rfl _ Tryz.underlying23 rfl HYI.out HLY.out ?_; simp only [Act.put]; go_simp))
        refine wpQuiet_nil ?_
        intro nq
        go_wp2
        go_ret
        refine ⟨⟨k, rfl, ?_⟩, ?_⟩
        · have : x ∈ ids := by rw [HD.out, HY.out]; exact at_mem ids k hlt
          simp [this]
        · rw [hwr.out]
          exact be_drewN (be_drewN HB0.out _) _
      · have hdd : decide (x = y) = false := by simp [hd]
        rw [hdd] at heq
        clear hdd
        have HD := Lib.hid hd
        clear hd
        go_wp2_with fail
        refine wp_region_quiet_lit (by kernel_rfl) (by kernel_rfl) ?_
        repeat (first
          | go_big_quiet_step (fail)
          | (refine q_loadm _ _ rfl (by rfl) w.heap.size 0 (encN x) rfl _ Tryz.underlying23 rfl HXI.out HLX.out ?_; simp only [Act.put]; go_simp)
          | (refine q_loadm _ _ rfl (by rfl) b (o + k * 32) (encN y) rfl _ Tryz.underlying23 rfl HYI.out HLY.out ?_; simp only [Act.put]; go_simp))
        refine wpQuiet_nil ?_
        intro nq
        go_wp2
        go_roundg (ids.length - (k + 1))
        case measure => omega
        case rel =>
          refine ⟨k + 1, q + nq, by omega, by omega, by go_num, Lib.hid ?_, Lib.hid ?_⟩
          · rw [hwr.out, World.drewN_drewN]
          · intro i hi
            by_cases e : i = k
            · subst e
              rw [← HY.out]
              exact fun e => HD.out e.symm
            · exact hall.out i (by omega)
    · have hk2 : k = ids.length := by omega
      subst hk2
      go_wp2
      go_ret
      refine ⟨⟨-1, rfl, ?_⟩, ?_⟩
      · simp [mem_at x ids hall.out]
      · rw [hwr.out]
        exact be_drewN HB0.out _
set_option maxRecDepth 100000 in
set_option maxHeartbeats 4000000 in
theorem contains_nm (A : Option Addr) (c : Nat) (ids : List Nm) (x : Nm) (w : World) (hA : ArgN w A c ids) (hc : ids.length ≤ 1048576) :
    Calls Tryz.prog 52 #[.slice A ids.length c, .agg (encN x).toArray] w fun e w' => e = .returned (.bool (decide (x ∈ ids))) ∧ Below w.heap.size w w' := by
  have HW0 := Lib.hid (Whole.made w 23 (encN x).toArray)
  have HXI := Lib.hid (infoXs x)
  have HB0 := Lib.hid ((Below.refl w.heap.size w).alloc (Nat.le_refl _) (.cells (encN x).toArray 23))
  have HI := Lib.hid (index_nm A c ids x _ (hA.later HB0.out) hc)
  clear hA
  generalize decide (x ∈ ids) = r at *
  go_enter Tryz.func52, Tryz.ntmps52
  go_wp2_with (first
    | (refine wpList_load_row rfl 23 _ rfl w.heap.size rfl 23 (encN x).toArray (0, 0) _ HW0.out Tryz.underlying23 rfl HXI.out ?_)
    | (go_at_call 79; refine HI.out.mono ?_; rintro e w' ⟨⟨r', rfl, hr⟩, hb⟩))
  go_ret
  exact ⟨rfl, HB0.out.trans (hb.mono (by simp))⟩
set_option maxRecDepth 100000 in
set_option maxHeartbeats 4000000 in
theorem has_nm (A : Option Addr) (c : Nat) (ids : List Nm) (x : Nm) (w : World) (hA : ArgN w A c ids) (hc : ids.length ≤ 1048576) :
    Calls Tryz.prog 18 #[.slice A ids.length c, .agg (encN x).toArray] w fun e w' => e = .returned (.bool (decide (x ∈ ids))) ∧ Below w.heap.size w w' := by
  have HW0 := Lib.hid (Whole.made w 23 (encN x).toArray)
  have HXI := Lib.hid (infoXs x)
  have HB0 := Lib.hid ((Below.refl w.heap.size w).alloc (Nat.le_refl _) (.cells (encN x).toArray 23))
  have HI := Lib.hid (contains_nm A c ids x _ (hA.later HB0.out) hc)
  clear hA
  generalize decide (x ∈ ids) = r at *
  go_enter Tryz.func18, Tryz.ntmps18
  go_wp2_with (first
    | (refine wpList_load_row rfl 23 _ rfl w.heap.size rfl 23 (encN x).toArray (0, 0) _ HW0.out Tryz.underlying23 rfl HXI.out ?_)
    | (go_at_call 52; refine HI.out.mono ?_; rintro e w' ⟨rfl, hb⟩))
  go_ret
  exact ⟨rfl, HB0.out.trans (hb.mono (by simp))⟩
end Go.Proofs.YtdjhkaofhdcalaaGreatDoor
namespace Go.Proofs.YtdjhkaofhdcalaaGreatDoor
open Go.RowKit Go.Sort

theorem flat_len (ids : List Nm) : (ids.flatMap encN).length = ids.length * 32 := by
  induction ids with
  | nil => rfl
  | cons x l ih => rw [List.flatMap_cons, List.length_append, ih, encN_len, List.length_cons]; omega
theorem flat_at (ids : List Nm) : ∀ i j, i < ids.length → j < 32 → (ids.flatMap encN)[i * 32 + j]? = (encN (ids.getD i default))[j]? := by
  induction ids with
  | nil => intro i j hi; exact absurd hi (Nat.not_lt_zero _)
  | cons x l ih =>
    intro i j hi hj
    rw [List.flatMap_cons]
    cases i with
    | zero =>
      rw [Nat.zero_mul, Nat.zero_add, List.getElem?_append_left (by rw [encN_len]; exact hj)]
      rfl
    | succ i =>
      rw [List.getElem?_append_right (by rw [encN_len]; omega), encN_len, show (i + 1) * 32 + j - 32 = i * 32 + j by omega, ih i j (by simpa using hi) hj]
      rfl
theorem row_flat {w : World} {b o : Nat} {ids : List Nm} (h : RowN w b o ids) : ∀ j u, (ids.flatMap encN)[j]? = some u → w.cell? ⟨b, o + j, none⟩ = some u := by
  intro j u hu
  have hj : j < ids.length * 32 := by
    rw [← flat_len]
    exact (List.getElem?_eq_some_iff.1 hu).1
  rw [show j = j / 32 * 32 + j % 32 by omega, flat_at ids _ _ (by omega) (by omega)] at hu
  have := h (j / 32) (by omega) (j % 32) u hu
  rw [show o + j / 32 * 32 + j % 32 = o + j by omega] at this
  exact this
theorem getI (d : List Nm) (i : Nat) (h : i < d.length) : (d.toArray)[i]! = d.getD i default := by
  rw [getElem!_pos d.toArray i (by simpa using h)]
  simp [List.getD, List.getElem?_eq_getElem h]
theorem holds_row {w : World} {b o : Nat} {d : List Nm} (h : HoldsK encN 32 w b o d.toArray) : RowN w b o d ∧ ∀ i, i < d.length * 32 → w.frozen? ⟨b, o + i, none⟩ = false := by
  refine ⟨fun i hi j v hv => ?_, fun i hi => ?_⟩
  · have hj : j < 32 := by
      have := (List.getElem?_eq_some_iff.1 hv).1
      rwa [encN_len] at this
    have := (h.cell (i := i) (c := j) (by simpa using hi) hj).1
    rw [this, getI d i hi, getElem!_pos _ _ (by rw [encN_len]; exact hj)]
    rw [List.getElem?_eq_getElem (by rw [encN_len]; exact hj)] at hv
    exact hv
  · have := (h.cell (i := i / 32) (c := i % 32) (by simp; omega) (by omega)).2
    rw [show o + i / 32 * 32 + i % 32 = o + i by omega] at this
    exact this
theorem row_holds {w : World} {b o : Nat} {d : List Nm} (h : RowN w b o d) (hf : ∀ i, i < d.length * 32 → w.frozen? ⟨b, o + i, none⟩ = false) : HoldsK encN 32 w b o d.toArray := by
  intro t ht
  have ht' : t < d.length * 32 := by simpa using ht
  rw [get_flatK _ _ _ _ (by simpa using ht')]
  refine ⟨?_, hf t ht'⟩
  have hl := encN_len (d.getD (t / 32) default)
  have := h (t / 32) (by omega) (t % 32) _ (List.getElem?_eq_getElem (by omega))
  rw [show o + t / 32 * 32 + t % 32 = o + t by omega] at this
  rw [this, getI d _ (by omega)]
  show _ = some (encN _)[_]!
  rw [getElem!_pos _ _ (by rw [encN_len]; omega)]
/-- A slice of names of the call's own: its row, not frozen. -/
theorem own_nm {w : World} {B : Nat} {v : Value} {ids : List Nm} (h : w.ownsRow B 23 32 v ids.length (ids.flatMap encN)) (hn : 0 < ids.length) :
    ∃ g c, v = .slice (some ⟨g, 0, none⟩) ids.length c ∧ B ≤ g ∧ g < w.heap.size ∧ ids.length ≤ c ∧ c ≤ maxLen ∧ RowN w g 0 ids ∧ ∀ i, i < ids.length * 32 → w.frozen? ⟨g, 0 + i, none⟩ = false := by
  rcases h.2 with ⟨rfl, h0⟩ | ⟨g, cap, cur, rfl, hB, hg, hn, hm, hs, ht⟩
  · omega
  · refine ⟨g, cap, rfl, hB, (Array.getElem?_eq_some_iff.1 hg).1, hn, hm, fun i hi j v hv => ?_, fun i hi => ?_⟩
    · have hj : j < 32 := by
        have := (List.getElem?_eq_some_iff.1 hv).1
        rwa [encN_len] at this
      have hx : (ids.flatMap encN)[i * 32 + j]? = some v := by rw [flat_at ids i j hi hj]; exact hv
      rw [← ht, List.getElem?_take_of_lt (by omega)] at hx
      rw [Nat.zero_add, cell_of_row _ _ _ _ _ _ hg]
      simpa using hx
    · unfold World.frozen?
      rw [hg]
      simp
theorem info23 : (Tryz.prog.info? 23).map (fun i => (i.zero, i.size, i.bytes)) = some (some (.agg (encN default).toArray), 32, 32) := by kernel_rfl
theorem clone_nm (b o c : Nat) (ids : List Nm) (w : World) (h : RowN w b o ids) (hl : ids.length ≤ 1048576) :
    Calls Tryz.prog 45 #[.slice (some ⟨b, o, none⟩) ids.length c] w fun e w' => ∃ v', e = .returned v' ∧ w'.ownsRow w.heap.size 23 32 v' ids.length (ids.flatMap encN) ∧ Below w.heap.size w w' := by
  cases hq : Tryz.prog.info? 23 with
  | none =>
    have := info23
    rw [hq] at this
    cases this
  | some i0 =>
    have hi := info23
    rw [hq] at hi
    simp only [Option.map_some, Option.some.injEq, Prod.mk.injEq] at hi
    obtain ⟨h1, h2, h3⟩ := hi
    have := AnyE.slices_Clone Tryz.clnId i0 (.agg (encN default).toArray) 32 32 hq h1 h2 h3 (encN_size default) (by decide) Tryz.sizeOf23 b o ids.length c (ids.flatMap encN) w (flat_len ids) (by unfold maxLen; omega) (by omega) (row_flat h) (by
      intro u hu
      obtain ⟨x, -, hx⟩ := List.mem_flatMap.1 hu
      exact encN_one x u hx)
    exact this.mono fun e w' ⟨v', h1, h2, _, h4⟩ => ⟨v', h1, h2, h4⟩
theorem clone_nil (w : World) : Calls Tryz.prog 45 #[.slice none 0 0] w fun e w' => e = .returned (.slice none 0 0) ∧ w' = w := AnyE.slices_Clone_nil Tryz.clnId 0 0 w
theorem sortf_nm (g cap : Nat) (ids : List Nm) (w : World) (h : RowN w g 0 ids) (hf : ∀ i, i < ids.length * 32 → w.frozen? ⟨g, 0 + i, none⟩ = false) (hg : g < w.heap.size) (hl : ids.length ≤ 1048576) :
    Calls Tryz.prog 46 #[.slice (some ⟨g, 0, none⟩) ids.length cap, .func (.func 47) #[] #[]] w fun e w' => e = .returned (.tuple #[]) ∧
      ∃ d : List Nm, d.Perm ids ∧ Ord d ∧ RowN w' g 0 d ∧ (∀ i, i < ids.length * 32 → w'.frozen? ⟨g, 0 + i, none⟩ = false) ∧ w.grownBy w' (some g) := by
  have eg : ∀ args w, (callFunc 47 args).run Tryz.prog w = .ok (.enter 47 args) w := enters_of Tryz.func47 (by kernel_rfl) rfl
  have hH := row_holds h hf
  have := AnyQ.slices_SortFunc Tryz.srtId 32 Tryz.isAgg23 Tryz.sizeOf23 encN encN_len encN_one cmpN swoN 47 #[] g 0 cap ids.toArray w eg (fun _ _ _ _ x y => compare_any x y _) hH hg (by simp; omega)
  refine this.mono ?_
  rintro e w' ⟨rfl, d', n, os, hp, hs, rfl⟩
  obtain ⟨hsz, -, hperm⟩ := hp
  rw [show ids.toArray.size = d'.size from hsz.symm, Array.extract_size, show d'.size = ids.toArray.size from hsz, Array.extract_size] at hperm
  have hlen : d'.toList.length = ids.length := by simpa using hsz
  have hput : HoldsK encN 32 (putRowK encN 32 (Sort.ahead w n) g 0 d') g 0 d' := holdsK_putRowK encN 32 (Sort.ahead w n) g 0 ids.toArray d' (holdsK_ahead encN 32 w n g 0 _ hH) hsz
  have hgr : w.grownBy (sortWorldK encN 32 w g 0 n d' os) (some g) := by
    refine ⟨rfl, rfl, rfl, by simp [sortWorldK, putRowK], fun k hk hne => ?_⟩
    unfold sortWorldK putRowK
    rw [heap_grow_old _ _ (by simpa using hk)]
    have : g ≠ k := fun e => hne (by rw [e])
    simp [putRow, mapBlock, Sort.ahead, Array.getElem?_modify, this]
  have hgl : g < (putRowK encN 32 (Sort.ahead w n) g 0 d').heap.size := by
    simpa [putRowK] using hg
  have hhold : HoldsK encN 32 (sortWorldK encN 32 w g 0 n d' os) g 0 d'.toList.toArray := by
    rw [Array.toArray_toList]
    exact holdsK_grow encN 32 _ os g 0 d' hgl hput
  obtain ⟨hrow, hfz⟩ := holds_row hhold
  refine ⟨rfl, d'.toList, by simpa using hperm, fun i j hij hj => ?_, hrow, by rw [← hlen]; exact hfz, hgr⟩
  have := hs i j (Nat.zero_le _) hij (by rw [← hsz]; simpa using hj)
  rw [ltOf_cmpN, decide_eq_false_iff_not] at this
  have e : ∀ i, i < d'.toList.length → d'[i]! = d'.toList.getD i default := fun i hi => by
    have := getI d'.toList i hi
    rwa [Array.toArray_toList] at this
  rwa [e i (by omega), e j hj] at this
set_option maxRecDepth 100000 in
set_option maxHeartbeats 4000000 in
theorem clone_zero (A : Option Addr) (c : Nat) (w : World) (h0 : A = none → c = 0) :
    Calls Tryz.prog 45 #[.slice A 0 c] w fun e w' => ∃ A' c', e = .returned (.slice A' 0 c') ∧ (A' = none → c' = 0) ∧ c' ≤ maxLen ∧ (∀ j, inBlk A' j → w.heap.size ≤ j) ∧ Below w.heap.size w w' := by
  cases A with
  | none =>
    obtain rfl := h0 rfl
    refine (clone_nil w).mono ?_
    rintro e w' ⟨rfl, rfl⟩
    exact ⟨none, 0, rfl, fun _ => rfl, by unfold maxLen; omega, (fun j ⟨a, e, _⟩ => by cases e), Below.refl _ _⟩
  | some ad =>
    have q22 : ∀ (w : World) (a : Option Addr) (n c n' c' : Nat), (binOp .eql 24 (.slice a n c) (.slice none n' c')).run Tryz.prog w = .ok (.bool a.isNone) w := fun w a n c n' c' => Lib.run_eql_slice_nil w _ _ a n c n' c' Tryz.underlying24
    go_enter Tryz.func45, Tryz.ntmps45
    go_wp2
    go_ret
    refine ⟨some ⟨w.heap.size, 0, none⟩, 0, rfl, fun _ => rfl, by unfold maxLen; omega, ?_, (Below.refl _ w).alloc (Nat.le_refl _) _⟩
    rintro j ⟨a, e, rfl⟩
    injection e with e
    subst e
    exact Nat.le_refl _
set_option maxRecDepth 100000 in
theorem compact_small (A : Option Addr) (c : Nat) (w : World) :
    Calls Tryz.prog 48 #[.slice A 0 c] w fun e w' => e = .returned (.slice A 0 c) ∧ w = w' := by
  go_enter Tryz.func48, Tryz.ntmps48
  go_wp2
  go_ret
  exact ⟨rfl, rfl⟩
set_option maxRecDepth 100000 in
set_option maxHeartbeats 4000000 in
theorem sort_nm (A : Option Addr) (c : Nat) (ids : List Nm) (w : World) (hA : ArgN w A c ids) (hl : ids.length ≤ 1048576) :
    Calls Tryz.prog 11 #[.slice A ids.length c] w fun e w' => ∃ A' c' s, e = .returned (.slice A' (List.length s) c') ∧ Rise s ∧ (∀ x, x ∈ s ↔ x ∈ ids) ∧ s.length ≤ ids.length ∧ ArgN w' A' c' s ∧ (∀ j, inBlk A' j → w.heap.size ≤ j) ∧ Below w.heap.size w w' := by
  by_cases h0 : ids.length = 0
  · obtain rfl : ids = [] := List.length_eq_zero_iff.1 h0
    have HC := Lib.hid (clone_zero A c w hA.2.2.1)
    have HCP := Lib.hid fun A c w => compact_small A c w
    have HSN : Hid (∀ (p : Option Addr) (cap : Nat) (fv : Value) (w : World), Calls Tryz.prog 46 #[.slice p 0 cap, fv] w fun e w' => e = .returned (.tuple #[]) ∧ w' = w) := fun p cap fv w => AnyF.slices_SortFunc_none Tryz.srtId p cap fv w
    clear hA h0 hl
    go_enter Tryz.func11, Tryz.ntmps11
    go_wp2_with fail
    refine HC.out.mono ?_
    rintro e w1 ⟨A', c', rfl, hz, hm, hbl, hB⟩
    have HZ := Lib.hid hz
    have HM := Lib.hid hm
    have HBL := Lib.hid hbl
    have HB := Lib.hid hB
    clear hz hm hbl hB
    go_wp2_with fail
    refine (HSN.out _ _ _ _).mono ?_
    rintro e w2 ⟨rfl, rfl⟩
    go_wp2_with fail
    refine (HCP.out _ _ _).mono ?_
    rintro e w3 ⟨rfl, rfl⟩
    go_wp2
    go_ret
    exact ⟨A', c', [], rfl, List.Pairwise.nil, fun x => Iff.rfl, Nat.le_refl _, ⟨Nat.zero_le _, HM.out, HZ.out, fun h => absurd h (Nat.lt_irrefl _)⟩, HBL.out, HB.out⟩
  · obtain ⟨b, o, rfl, hr⟩ := hA.2.2.2 (by omega)
    have HCL := Lib.hid (clone_nm b o c ids w hr hl)
    have HL := Lib.hid hl
    clear hr hA hl
    go_enter Tryz.func11, Tryz.ntmps11
    go_wp2_with fail
    refine HCL.out.mono ?_
    rintro e w1 ⟨v1, rfl, hown, hB1⟩
    obtain ⟨g, c1, rfl, hg1, hg2, hc1, hc2, hrow, hfz⟩ := own_nm hown (by omega)
    have HB1 := Lib.hid hB1
    have HS := Lib.hid (sortf_nm g c1 ids w1 hrow hfz hg2 HL.out)
    have HG := Lib.hid hg1
    have HC := Lib.hid (And.intro hc1 hc2)
    clear hown hB1 hrow hfz hg1 hg2 hc1 hc2 HCL
    go_wp2_with fail
    refine HS.out.mono ?_
    rintro e w2 ⟨rfl, d, hperm, hord, hrow, hfz, hgr⟩
    have hdl : d.length = ids.length := hperm.length_eq
    have HCP := Lib.hid (compact_nm g c1 d w2 hrow (by rw [hdl]; exact hfz) (by rw [hdl]; exact HC.out.1) (by rw [hdl]; exact HL.out))
    have HB2 := Lib.hid (be_grown HB1.out hgr HB1.out.size (fun j hj => by injection hj with hj; rw [← hj]; exact HG.out))
    have HRI := Lib.hid (cptk_rise d hord d.length (Nat.le_refl _)).1
    have HME : Hid (∀ x, x ∈ cptk d d.length ↔ x ∈ ids) := by
      intro x
      rw [cptk_mem d d.length (Nat.le_refl _), List.take_length, hperm.mem_iff]
    have HLE : Hid ((cptk d d.length).length ≤ ids.length) := by
      show _ ≤ _
      rw [← hdl]
      exact cptk_len d _
    rw [hdl] at HCP HRI HME HLE
    clear hperm hord hrow hfz hgr hdl HS HB1
    generalize cptk d ids.length = s at *
    go_wp2_with fail
    refine HCP.out.mono ?_
    rintro e w3 ⟨rfl, hgr, hrow⟩
    have HB3 := Lib.hid (be_grown HB2.out hgr HB2.out.size (fun j hj => by injection hj with hj; rw [← hj]; exact HG.out))
    have HR := Lib.hid hrow
    clear hgr hrow HCP
    go_wp2
    go_ret
    refine ⟨some ⟨g, 0, none⟩, c1, s, rfl, HRI.out, HME.out, HLE.out, ⟨Nat.le_trans HLE.out HC.out.1, HC.out.2, (fun e => by cases e), fun _ => ⟨g, 0, rfl, HR.out⟩⟩, ?_, HB3.out⟩
    rintro j ⟨a, e, rfl⟩
    injection e with e
    subst e
    exact HG.out
end Go.Proofs.YtdjhkaofhdcalaaGreatDoor
namespace Go.Proofs.YtdjhkaofhdcalaaGreatDoor
open Go.RowKit

theorem slice_toM {P : Program} {A : Option Addr} {c : Nat} (T E m n : Nat) (hu : P.underlying T = some (.slice E)) (he : (P.info? E).isSome = true) (hn : n ≤ c) (W : World) :
    (Instr.slice T (.slice A m c) none (some (.int .i64 (n : Int))) none).run P W = .ok (.slice A n c) W := by
  have hel : P.elem T = E := by simp [Program.elem, hu]
  have h := run_slice_h (P := P) (w := W) (t := T) (a := A) (len := m) (cap := c) (by rw [hel]; exact hu) .i64 (n : Int) (by omega) (by omega)
  rw [h, hel]
  cases hq : P.info? E with
  | none => simp [hq] at he
  | some i =>
    have hadd : A.map (fun a => a.add 0) = A := by
      cases A with
      | none => rfl
      | some a => simp [Addr.add]
    simp [sizeOf, typeInfo, hq, sliced, hadd]
theorem slice_fromN {w : World} {A : Option Addr} {c : Nat} {ids : List Nm} (h : ArgN w A c ids) (k : Nat) (hk : k ≤ ids.length) :
    ∃ A', (∀ W, (Instr.slice 24 (.slice A ids.length c) (some (.int .i64 (k : Int))) none none).run Tryz.prog W = .ok (.slice A' (ids.drop k).length (c - k)) W) ∧ ArgN w A' (c - k) (ids.drop k) := by
  obtain ⟨h1, h2, h3, h4⟩ := h
  refine ⟨if c = k then A else A.map (·.add (k * 32)), fun W => ?_, ?_⟩
  · have hel : Tryz.prog.elem 24 = 23 := by simp [Program.elem, Tryz.underlying24]
    have h := run_slice_l (P := Tryz.prog) (w := W) (t := 24) (a := A) (len := ids.length) (cap := c) (by rw [hel]; exact Tryz.underlying24) .i64 (k : Int) (by omega) (by omega)
    rw [h, hel, Tryz.sizeOf23]
    simp [sliced]
  · refine ⟨by rw [List.length_drop]; omega, by omega, fun e => ?_, fun h0 => ?_⟩
    · split at e
      · omega
      · cases A with
        | none => have := h3 rfl; omega
        | some a => cases e
    · rw [List.length_drop] at h0
      obtain ⟨b, o, rfl, hr⟩ := h4 (by omega)
      have hca : ¬ c = k := by omega
      refine ⟨b, o + k * 32, by rw [if_neg hca]; simp [Addr.add_mid], fun i hi => ?_⟩
      rw [List.length_drop] at hi
      have := hr (k + i) (by omega)
      have e : (ids.drop k).getD i default = ids.getD (k + i) default := by simp [List.getD, List.getElem?_drop]
      rw [e]
      rw [show o + k * 32 + i * 32 = o + (k + i) * 32 by omega]
      exact this
theorem flat_one (ids : List Nm) : ∀ u ∈ ids.flatMap encN, u.oneCell' = true := by
  intro u hu
  obtain ⟨x, -, hx⟩ := List.mem_flatMap.1 hu
  exact encN_one x u hx

set_option maxRecDepth 100000 in
theorem wp_appendN {o : Oper} {a : Act} {w : World} {K : Act → World → Prop} {Q : Exit → Act → World → Prop} (s x : Operand) (ho : o.op = .call { callee := .builtin .append, args := #[s, x], argTypes := #[24, 24] })
    (B : Nat) (v : Value) (xs : List Nm) (hs : a.eval s = v) (hown : w.ownsRow B 23 32 v xs.length (xs.flatMap encN)) (A : Option Addr) (n c : Nat) (ys : List Nm) (hn : ys.length = n) (hx : a.eval x = .slice A n c) (hy : ArgN w A c ys)
    (hB : B ≤ w.heap.size) (hl : xs.length + ys.length ≤ 1000) (h : ∀ v' w', w'.ownsRow B 23 32 v' (xs ++ ys).length ((xs ++ ys).flatMap encN) → Below B w w' → K (a.put o.dst v') w') : o.wp Tryz.prog a w K Q := by
  subst hn
  cases hq : Tryz.prog.info? 23 with
  | none =>
    have := info23
    rw [hq] at this
    cases this
  | some i0 =>
    have hi := info23
    rw [hq] at hi
    simp only [Option.map_some, Option.some.injEq, Prod.mk.injEq] at hi
    obtain ⟨h1, h2, h3⟩ := hi
    cases A with
    | none =>
      obtain ⟨rfl, rfl⟩ := hy.nil
      have hrun := run_append_owned_none (P := Tryz.prog) (w := w) B 24 o.type 23 i0 32 Tryz.underlying24 hq v xs.length (xs.flatMap encN) hown
      unfold Oper.wp
      simp [execOp, ho, resolve, invoke, builtin, hs, hx, hrun, Result.andThen]
      exact h v w (by simpa using hown) (Below.refl _ _)
    | some ad =>
      refine wp_append_own w s x 24 ho B 23 i0 (.agg (encN default).toArray) 32 32 Tryz.underlying24 hq h1 h2 h3 (encN_size default) (by decide) v xs.length (xs.flatMap encN) hs hown ad ys.length c (ys.flatMap encN) hx (flat_len ys) (fun j u hu => ?_) (flat_one ys) (by unfold maxLen; omega) (by omega) hB (fun v' w' h4 h5 _ => ?_)
      · have hj := (List.getElem?_eq_some_iff.1 hu).1
        rw [flat_len] at hj
        obtain ⟨b, off, e, hr⟩ := hy.2.2.2 (by omega)
        injection e with e
        subst e
        rw [Addr.add_mid]
        exact row_flat hr j u hu
      · refine h v' w' (by rw [List.length_append, List.flatMap_append]; exact h4) ?_
        refine ⟨h5.os, h5.tape, h5.output, h5.size, fun k hk => h5.block k (by omega) ?_⟩
        intro e
        rcases hown.2 with ⟨rfl, -⟩ | ⟨g, cap, cur, rfl, hg, -⟩
        · cases e
        · simp [Value.ownBlock] at e
          omega
/-- A row of the call's own is a slice of names. -/
theorem own_arg {w : World} {B : Nat} {v : Value} {ids : List Nm} (h : w.ownsRow B 23 32 v ids.length (ids.flatMap encN)) : ∃ A c, v = .slice A ids.length c ∧ ArgN w A c ids := by
  rcases Nat.eq_zero_or_pos ids.length with h0 | h0
  · rcases h.2 with ⟨rfl, -⟩ | ⟨g, cap, cur, rfl, hB, hg, hn, hm, hs, ht⟩
    · exact ⟨none, 0, by rw [h0], by omega, by unfold maxLen; omega, fun _ => rfl, fun h => by omega⟩
    · exact ⟨_, cap, rfl, hn, hm, (fun e => by cases e), fun h => by omega⟩
  · obtain ⟨g, c, rfl, hB, hg, hc1, hc2, hr, -⟩ := own_nm h h0
    exact ⟨_, c, rfl, hc1, hc2, (fun e => by cases e), fun _ => ⟨g, 0, rfl, hr⟩⟩
theorem fold_set : ∀ (l : List Value) (k : Nat) (z : Array Value), k + l.length ≤ z.size → ((l.zipIdx k).foldl (fun cs (p : Value × Nat) => cs.setIfInBounds (0 + p.2) p.1) z).toList = z.toList.take k ++ l ++ z.toList.drop (k + l.length)
  | [], k, z, _ => by simp
  | c :: r, k, z, h => by
    rw [List.zipIdx_cons, List.foldl_cons, fold_set r (k + 1) _ (by simp at h ⊢; omega)]
    simp only [List.length_cons] at h
    have hk : k < z.toList.length := by simp; omega
    have e : (z.setIfInBounds (0 + k) c).toList = z.toList.set k c := by simp
    rw [e]
    have e1 : (z.toList.set k c).take (k + 1) = z.toList.take k ++ [c] := by
      rw [List.take_set, List.take_succ_eq_append_getElem hk, List.set_append_right _ _ (by simp; omega)]
      have : k - (z.toList.take k).length = 0 := by simp; omega
      rw [this]
      rfl
    have e2 : (z.toList.set k c).drop (k + 1 + r.length) = z.toList.drop (k + (r.length + 1)) := by
      rw [List.drop_set, if_pos (by omega)]
      congr 1
      omega
    rw [e1, e2, List.length_cons]
    simp
set_option maxRecDepth 100000 in
theorem run_build_nm (x : Nm) (w : World) : (Instr.buildSlice 24 1 #[(0, .agg (encN x).toArray)]).run Tryz.prog w = .ok (.slice (some ⟨w.heap.size, 0, none⟩) 1 1) (w.alloc (.cells (encN x).toArray 23)) := by
  have hfill : ∀ z : Array Value, z.size = 32 → Instr.fill (fun i => some (i * 32, 32)) z [(0, Value.agg (encN x).toArray)] = some (encN x).toArray := by
    intro z hz
    have hs := encN_size x
    have hc : (Value.agg (encN x).toArray).cells = (encN x).toArray := rfl
    simp only [Instr.fill, hc, hs, hz]
    rw [if_neg (by decide)]
    congr 1
    apply Array.toList_inj.1
    have := fold_set (encN x) 0 z (by rw [encN_len]; omega)
    rw [encN_len, List.drop_of_length_le (by simp; omega)] at this
    simpa using this
  have hzs : ((Array.range (1 * 32)).map (fun i => (Value.agg (encN default).toArray).cells[i % (Value.agg (encN default).toArray).cells.size]!)).size = 32 := by simp
  unfold Instr.buildSlice
  simp only [Sem.run_bind, run_underlying Tryz.underlying24, Result.andThen_ok, Tryz.sizeOf23]
  rw [if_neg (by decide), if_neg (by decide)]
  simp only [Sem.run_bind, zero_nm, Result.andThen_ok, Sem.run_pure]
  rw [hfill _ hzs]
  rfl
theorem wp_buildN {o : Oper} {a : Act} {w : World} {K : Act → World → Prop} {Q : Exit → Act → World → Prop} (t : Operand) (ho : o.op = .buildSlice 24 1 #[(0, t)]) (x : Nm) (hx : a.eval t = .agg (encN x).toArray)
    (h : K (a.put o.dst (.slice (some ⟨w.heap.size, 0, none⟩) 1 1)) (w.alloc (.cells (encN x).toArray 23))) : o.wp Tryz.prog a w K Q := by
  have hb := run_build_nm x w
  unfold Oper.wp
  simp [execOp, ho, hx, hb, Result.andThen]
  exact h
theorem own_later {w w' : World} {B : Nat} {v : Value} {n : Nat} {xs : List Value} {e : TypeId} {k : Nat} (h : w.ownsRow B e k v n xs) (hb : Below w.heap.size w w') : w'.ownsRow B e k v n xs := by
  refine ⟨h.1, ?_⟩
  rcases h.2 with h0 | ⟨g, cap, cur, hv, hB, hg, rest⟩
  · exact .inl h0
  · exact .inr ⟨g, cap, cur, hv, hB, (hb.block g (Array.getElem?_eq_some_iff.1 hg).1).trans hg, rest⟩
theorem arg_one {w : World} {g : Nat} {x : Nm} (h : Whole w g 23 (encN x).toArray) : ArgN w (some ⟨g, 0, none⟩) 1 [x] := by
  refine ⟨Nat.le_refl _, by unfold maxLen; omega, (fun e => by cases e), fun _ => ⟨g, 0, rfl, fun i hi j v hv => ?_⟩⟩
  obtain rfl : i = 0 := by simpa using hi
  rw [show 0 + 0 * 32 + j = j by omega, h.at_, List.getElem?_toArray]
  exact hv
end Go.Proofs.YtdjhkaofhdcalaaGreatDoor
namespace Go.Proofs.YtdjhkaofhdcalaaGreatDoor
open Go.RowKit

set_option maxRecDepth 100000 in
set_option maxHeartbeats 4000000 in
theorem req_nm (A : Option Addr) (c : Nat) (A2 : Option Addr) (c2 : Nat) (ids : List Nm) (w : World) (hA : ArgN w A c ids) (hA2 : ArgN w A2 c2 ids) (hl : ids.length ≤ 1048576) :
    Calls Tryz.prog 16 #[.slice A ids.length c, .slice A2 ids.length c2] w fun e w' => e = .returned (.bool true) ∧ Below w.heap.size w w' := by
  have HA := Lib.hid hA
  have HA2 := Lib.hid hA2
  have hlc := hA.1
  have hlc2 := hA2.1
  have HL : Hid (∀ y W, (binOp .neq 23 (.agg (encN y).toArray) (.agg (encN y).toArray)).run Tryz.prog W = .ok (.bool false) W) := by
    intro y W
    rw [neq_nm y y W]
    simp
  clear hA hA2
  go_enter Tryz.func16, Tryz.ntmps16
  go_wp2
  go_loopg [5] ids.length (fun g s5 wr => ∃ k q : Nat, k ≤ ids.length ∧ ids.length - k ≤ g ∧ s5 = .int .i64 k ∧ Hid (wr = w.drewN q))
  case atStart => exact ⟨0, 0, Nat.zero_le _, by omega, rfl, Lib.hid rfl⟩
  case round =>
    obtain ⟨k, q, hk, hg, rfl, hwr⟩ := hrel
    by_cases hlt : k < ids.length
    · have hlt' : (k : Int) < (ids.length : Int) := by omega
      obtain ⟨b, o, rfl, hr⟩ := HA.out.2.2.2 (by omega)
      obtain ⟨b2, o2, rfl, hr2⟩ := HA2.out.2.2.2 (by omega)
      have hrk := hr k hlt
      have hrk2 := hr2 k hlt
      obtain ⟨y, hy⟩ : ∃ y, y = ids.getD k default := ⟨_, rfl⟩
      rw [← hy] at hrk hrk2
      have HLX : Hid (∀ W, (∃ n, W = wr.drewN n) → W.rangeAt b (o + k * 32) (encN y)) := by rintro W ⟨n, rfl⟩; rw [hwr.out]; exact hrk
      have HLY : Hid (∀ W, (∃ n, W = wr.drewN n) → W.rangeAt b2 (o2 + k * 32) (encN y)) := by rintro W ⟨n, rfl⟩; rw [hwr.out]; exact hrk2
      have hneq := HL.out y
      have HYI := Lib.hid (infoX y)
      clear hy hr hrk hr2 hrk2
      go_wp2_with fail
      refine wp_region_quiet_lit (by kernel_rfl) (by kernel_rfl) ?_
      repeat (first
        | go_big_quiet_step (fail)
        | (refine q_loadm _ _ rfl (by rfl) b (o + k * 32) (encN y) rfl _ Tryz.underlying23 rfl HYI.out HLX.out ?_; simp only [Act.put]; go_simp)
        | (refine q_loadm _ _ rfl (by rfl) b2 (o2 + k * 32) (encN y) rfl _ Tryz.underlying23 rfl HYI.out HLY.out ?_; simp only [Act.put]; go_simp))
      refine wpQuiet_nil ?_
      intro nq
      go_wp2
      go_roundg (ids.length - (k + 1))
      case measure => omega
      case rel =>
        refine ⟨k + 1, q + nq, by omega, by omega, by go_num, Lib.hid ?_⟩
        rw [hwr.out, World.drewN_drewN]
    · have hk2 : k = ids.length := by omega
      subst hk2
      go_wp2
      go_ret
      refine ⟨rfl, ?_⟩
      rw [hwr.out]
      exact be_drewN (Below.refl _ _) _
end Go.Proofs.YtdjhkaofhdcalaaGreatDoor
namespace Go.Proofs.YtdjhkaofhdcalaaGreatDoor
open Go.RowKit

theorem slice_toN {P : Program} {A : Option Addr} {c : Nat} (T E m n : Nat) (hu : P.underlying T = some (.slice E)) (he : (P.info? E).isSome = true) (hn : n ≤ c) (W : World) :
    (Instr.slice T (.slice A m c) none (some (.int .i64 (n : Int))) none).run P W = .ok (.slice A n c) W := by
  have hel : P.elem T = E := by simp [Program.elem, hu]
  have h := run_slice_h (P := P) (w := W) (t := T) (a := A) (len := m) (cap := c) (by rw [hel]; exact hu) .i64 (n : Int) (by omega) (by omega)
  rw [h, hel]
  cases hq : P.info? E with
  | none => simp [hq] at he
  | some i =>
    have hadd : A.map (fun a => a.add 0) = A := by
      cases A with
      | none => rfl
      | some a => simp [Addr.add]
    simp [sizeOf, typeInfo, hq, sliced, hadd]
theorem below_cls {w W : World} (h : ∃ p : Regrown, W = Sort.grow (redrawn w p.d) p.os) : Below w.heap.size w W := by
  obtain ⟨p, rfl⟩ := h
  exact below_regrown _ _ _
set_option maxRecDepth 100000 in
set_option maxHeartbeats 4000000 in
theorem osort_any (A : Option Addr) (c : Nat) (ids : List Nm) (w : World) (hE : Env w) (hA : ArgN w A c ids) :
    Calls Tryz.prog 4 #[.slice A ids.length c] w fun e w' => e = .returned (.bool true) ∧ Below w.heap.size w w' := by
  have HE := Lib.hid hE
  have HA := Lib.hid hA
  have hlc : ids.length ≤ c := hA.1
  obtain ⟨m, hm, hm1, hm2⟩ : ∃ m, m = min ids.length 20 ∧ m ≤ ids.length ∧ m ≤ 20 := ⟨_, rfl, by omega, by omega⟩
  have hmin : ∀ W, (Builtin.min_ #[3, 3] 3 #[.int .i64 (ids.length : Int), .int .i64 20]).run Tryz.prog W = .ok (.int .i64 (m : Int)) W := by
    intro W
    rw [run_min_int2]
    congr 2
    split <;> omega
  have hsl := slice_toN (P := Tryz.prog) (A := A) (c := c) 24 23 ids.length m Tryz.underlying24 (by kernel_rfl) (by omega)
  clear hE hA hm
  go_enter Tryz.func4, Tryz.ntmps4
  go_wp2_with fail
  refine (begun_any _ HE.out).mono ?_
  rintro e w1 ⟨rfl, hB⟩
  have HB1 := Lib.hid hB
  clear hB
  have HA1 := Lib.hid ((HA.out.take m).later HB1.out)
  have hbl : (ids.take m).length = m := by rw [List.length_take]; omega
  generalize ids.take m = l at *
  have HLL := Lib.hid hbl
  clear hbl
  go_wp2_with fail
  have HS := Lib.hid (sort_nm A c l w1 HA1.out (by rw [HLL.out]; omega))
  rw [HLL.out] at HS
  refine HS.out.mono ?_
  rintro e w2 ⟨A', c', s, rfl, hri, hme, hle, hAS, hbl, hB⟩
  have HB2 := Lib.hid (HB1.out.trans (hB.mono HB1.out.size))
  have HA2 := Lib.hid (HA1.out.later hB)
  have HRI := Lib.hid hri
  have HME := Lib.hid hme
  have HAS := Lib.hid hAS
  have hsl2 : s.length ≤ 20 := by omega
  clear hB hri hme hAS hbl hle hsl hmin HS HA1 HB1 HA
  go_wp2_with fail
  go_loopg [5, 19] s.length (fun g _ s19 wr => ∃ k : Nat, k ≤ s.length ∧ s.length - k ≤ g ∧ s19 = .int .i64 k ∧ Hid (Below w2.heap.size w2 wr))
  case atStart => exact ⟨0, Nat.zero_le _, by omega, rfl, Lib.hid (Below.refl _ _)⟩
  case round =>
    obtain ⟨k, hk, hg, rfl, hwr⟩ := hrel
    by_cases hlt : k < s.length
    · have hlt' : (k : Int) < (s.length : Int) := by omega
      obtain ⟨b, o, rfl, hr⟩ := HAS.out.2.2.2 (by omega)
      have HR := Lib.hid hr
      have HBW := Lib.hid (HB2.out.trans (hwr.out.mono HB2.out.size))
      obtain ⟨y, hy⟩ : ∃ y, y = s.getD k default := ⟨_, rfl⟩
      have hbl := hr.lt (by omega)
      have HLY : Hid (∀ W, Below wr.heap.size wr W → W.rangeAt b (o + k * 32) (encN y)) := by
        intro W hW
        rw [hy]
        exact (hr.below (hwr.out.trans (hW.mono hwr.out.size)) hbl) k hlt
      have HYI := Lib.hid (infoX y)
      have HHAS : Hid (∀ W, Below wr.heap.size wr W → Calls Tryz.prog 18 #[.slice A m c, .agg (encN y).toArray] W fun e w' => e = .returned (.bool true) ∧ Below W.heap.size W w') := by
        intro W hW
        have := has_nm A c l y W (HA2.out.later (hwr.out.trans (hW.mono hwr.out.size))) (by rw [HLL.out]; omega)
        rw [HLL.out] at this
        have hy2 : y ∈ l := by rw [← HME.out, hy]; exact at_mem s k hlt
        rw [show decide (y ∈ l) = true by simp [hy2]] at this
        exact this
      have HY := Lib.hid hy
      clear hr hy hbl
      by_cases hk0 : k = 0
      · subst hk0
        go_wp2_with fail
        refine wp_region_quiet_below (by kernel_rfl) (by kernel_rfl) ?_
        repeat (first
          | go_big_quiet_step ((go_at_call 18; exact Calls.regrown_of (HHAS.out _ (below_regrown _ _ _))))
          | (refine q_loadm _ _ rfl (by rfl) b (o + 0 * 32) (encN y) rfl _ Tryz.underlying23 rfl HYI.out (fun W hC => HLY.out W (below_cls hC)) ?_; simp only [Act.put]; go_simp))
        refine wpQuiet_nil ?_
        intro p
        have HW := Lib.hid (below_regrown wr p.d p.os)
        generalize Sort.grow (redrawn wr p.d) p.os = W at *
        go_wp2
        go_roundg (s.length - 1)
        case measure => omega
        case rel => exact ⟨1, by omega, Nat.le_refl _, by go_num, Lib.hid (hwr.out.trans (HW.out.mono hwr.out.size))⟩
      · obtain ⟨x, hx⟩ : ∃ x, x = s.getD (k - 1) default := ⟨_, rfl⟩
        have hbl := HR.out.lt (by omega)
        have HLX : Hid (∀ W, Below wr.heap.size wr W → W.rangeAt b (o + (k - 1) * 32) (encN x)) := by
          intro W hW
          rw [hx]
          exact (HR.out.below (hwr.out.trans (hW.mono hwr.out.size)) hbl) (k - 1) (by omega)
        have HXI := Lib.hid (infoX x)
        have HLS : Hid (∀ W, Below wr.heap.size wr W → Calls Tryz.prog 14 #[.agg (encN x).toArray, .agg (encN y).toArray] W fun e w' => e = .returned (.bool true) ∧ Below W.heap.size W w') := by
          intro W _
          have := less_nm x y W
          have hlt2 : ltN x y := by rw [hx, HY.out]; exact HRI.out.at_ (by omega) hlt
          rw [show decide (ltN x y) = true by simp [hlt2]] at this
          exact this
        have hw1 : wrap64 ((k : Int) - 1) = ((k - 1 : Nat) : Int) := by unfold wrap64; omega
        have hb1 : k - 1 < s.length := by omega
        have hgt0 : (0 : Int) < (k : Int) := by omega
        have hgt : 0 < k := by omega
        have hgt2 : decide ((k : Int) > 0) = true := by simp; omega
        clear hx hbl
        go_wp2_with fail
        refine wp_region_quiet_below (by kernel_rfl) (by kernel_rfl) ?_
        repeat (first
          | go_big_quiet_step ((first
            | (go_at_call 18; exact Calls.regrown_of (HHAS.out _ (below_regrown _ _ _)))
            | (go_at_call 14; exact Calls.regrown_of (HLS.out _ (below_regrown _ _ _)))))
          | (refine q_loadm _ _ rfl (by rfl) b (o + (k - 1) * 32) (encN x) rfl _ Tryz.underlying23 rfl HXI.out (fun W hC => HLX.out W (below_cls hC)) ?_; simp only [Act.put]; go_simp)
          | (refine q_loadm _ _ rfl (by rfl) b (o + k * 32) (encN y) rfl _ Tryz.underlying23 rfl HYI.out (fun W hC => HLY.out W (below_cls hC)) ?_; simp only [Act.put]; go_simp))
        refine wpQuiet_nil ?_
        intro p
        have HW := Lib.hid (below_regrown wr p.d p.os)
        generalize Sort.grow (redrawn wr p.d) p.os = W at *
        go_wp2
        go_roundg (s.length - (k + 1))
        case measure => omega
        case rel => exact ⟨k + 1, by omega, Nat.le_refl _, by go_num, Lib.hid (hwr.out.trans (HW.out.mono hwr.out.size))⟩
    · have hk2 : k = s.length := by omega
      subst hk2
      go_wp2_with fail
      go_loopg [6, 49] m (fun g _ s49 wr => ∃ k : Nat, k ≤ m ∧ m - k ≤ g ∧ s49 = .int .i64 k ∧ Hid (Below w2.heap.size w2 wr))
      case atStart => exact ⟨0, Nat.zero_le _, by omega, rfl, hwr⟩
      case round =>
        obtain ⟨k, hk, hg, rfl, hwr⟩ := hrel
        by_cases hlt : k < m
        · have hlt' : (k : Int) < (m : Int) := by omega
          obtain ⟨b, o, rfl, hr⟩ := HA2.out.2.2.2 (by rw [HLL.out]; omega)
          obtain ⟨y, hy⟩ : ∃ y, y = l.getD k default := ⟨_, rfl⟩
          have hbl := hr.lt (by rw [HLL.out]; omega)
          have hry := (hr.below hwr.out hbl) k (by rw [HLL.out]; exact hlt)
          rw [← hy] at hry
          have HRY := Lib.hid hry
          have HYI := Lib.hid (infoX y)
          have hHAS := has_nm A' c' s y wr (HAS.out.later hwr.out) (by omega)
          have hy2 : y ∈ s := by rw [HME.out, hy]; exact at_mem l k (by rw [HLL.out]; exact hlt)
          rw [show decide (y ∈ s) = true by simp [hy2]] at hHAS
          have HHAS := Lib.hid hHAS
          clear hy hr hry hbl hHAS hy2
          go_wp2_with (first
            | (refine wpList_load_mid rfl 23 _ rfl b (o + k * 32) rfl (encN y) _ HRY.out Tryz.underlying23 rfl HYI.out ?_)
            | (go_at_call 18; refine HHAS.out.mono ?_; rintro e w' ⟨rfl, hbe⟩))
          go_roundg (m - (k + 1))
          case measure => omega
          case rel => exact ⟨k + 1, by omega, Nat.le_refl _, by go_num, Lib.hid (hwr.out.trans (hbe.mono hwr.out.size))⟩
        · have hk3 : k = m := by omega
          subst hk3
          have hASr := HAS.out.later hwr.out
          have HB3 := Lib.hid (HB2.out.trans (hwr.out.mono HB2.out.size))
          have HS2 := Lib.hid (sort_nm A' c' s wr hASr (by omega))
          have HASr := Lib.hid hASr
          clear hASr
          go_wp2_with fail
          refine HS2.out.mono ?_
          rintro e w4 ⟨A4, c4, s4, rfl, hri, hme, hle, hAS4, hbl, hB⟩
          obtain rfl : s4 = s := rise_uniq hri HRI.out hme
          have HEQ := Lib.hid (req_nm A4 c4 A' c' s4 w4 hAS4 (HASr.out.later hB) (by omega))
          have HB4 := Lib.hid (HB3.out.trans (hB.mono HB3.out.size))
          clear hri hme hle hAS4 hbl hB HS2
          go_wp2_with fail
          refine HEQ.out.mono ?_
          rintro e w5 ⟨rfl, hB⟩
          have HB5 := Lib.hid (HB4.out.trans (hB.mono HB4.out.size))
          clear hB
          go_wp2
          go_ret
          exact ⟨rfl, HB5.out⟩
end Go.Proofs.YtdjhkaofhdcalaaGreatDoor

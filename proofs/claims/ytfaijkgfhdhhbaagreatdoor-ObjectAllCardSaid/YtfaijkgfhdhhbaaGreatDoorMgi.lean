/-
  slices.Index, slices.Contains, oid.Has of names, walked; the reference's Has, Eq.
  commit.mayParents, walked.
  Commits in memory; commit.May, walked.
  Commits that a row hands over by value, opened.
  Objects in memory; objects that a row hands over by value, opened.
-/
import Derived.Test.YtfaijkgfhdhhbaaGreatDoorMgh
import Derived.Deep.LoopGhost
import Derived.Deep.Draws
import Derived.Test.YtfaijkgfhdhhbaaGreatDoorMgc
import Derived.Lib.QuietBelow
import Derived.Test.YtfaijkgfhdhhbaaGreatDoorMga
import Derived.Deep.Strs
namespace Go.Proofs.YtfaijkgfhdhhbaaGreatDoor
open Go.RowKit

theorem infoX (x : Nm) : (Tryz.prog.info? 24).map (·.size) = some (encN x).length := by rw [encN_len]; exact infoN
theorem infoXs (x : Nm) : (Tryz.prog.info? 24).map (·.size) = some (encN x).toArray.size := by rw [encN_size]; exact infoN
theorem whole_range {w : World} {g : Nat} {t : TypeId} {cs : List Value} (h : Whole w g t cs.toArray) : w.rangeAt g 0 cs := fun j v hv => by
  rw [Nat.zero_add, h.at_, List.getElem?_toArray, hv]
theorem mem_at (x : Nm) (ids : List Nm) (h : ∀ i, i < ids.length → ids.getD i default ≠ x) : x ∉ ids := by
  intro hm
  obtain ⟨i, hi, he⟩ := List.mem_iff_getElem.1 hm
  refine h i hi ?_
  simp [List.getD, List.getElem?_eq_getElem hi, he]
theorem at_mem (ids : List Nm) (i : Nat) (h : i < ids.length) : ids.getD i default ∈ ids := by
  simp [List.getD, List.getElem?_eq_getElem h]
set_option maxRecDepth 100000 in
set_option maxHeartbeats 4000000 in
theorem index_nm (A : Option Addr) (c : Nat) (ids : List Nm) (x : Nm) (w : World) (hA : ArgN w A c ids) (hc : ids.length ≤ 1048576) :
    Calls Tryz.prog 172 #[.slice A ids.length c, .agg (encN x).toArray] w fun e w' => (∃ r : Int, e = .returned (.int .i64 r) ∧ (decide (r ≥ 0)) = decide (x ∈ ids)) ∧ Below w.heap.size w w' := by
  have HA := Lib.hid hA
  have hlc := hA.1
  have HW0 := Lib.hid (whole_range (Whole.made w 24 (encN x).toArray))
  have HXI := Lib.hid (infoX x)
  have HB0 := Lib.hid ((Below.refl w.heap.size w).alloc (Nat.le_refl _) (.cells (encN x).toArray 24))
  have HL := Lib.hid fun y W => eql_nm x y W
  have HA0 := Lib.hid (hA.later HB0.out)
  clear hA
  go_enter Tryz.func172, Tryz.ntmps172
  go_wp2
  generalize w.alloc (.cells (encN x).toArray 24) = w0 at *
  go_loopg [5, 8] ids.length (fun g _ s8 wr => ∃ k q : Nat, k ≤ ids.length ∧ ids.length - k ≤ g ∧ s8 = .int .i64 k ∧ Hid (wr = w0.drewN q) ∧ Hid (∀ i, i < k → ids.getD i default ≠ x))
  case atStart => exact ⟨0, 0, Nat.zero_le _, by omega, rfl, Lib.hid rfl, Lib.hid fun i hi => absurd hi (Nat.not_lt_zero _)⟩
  case round =>
    obtain ⟨k, q, hk, hg, rfl, hwr, hall⟩ := hrel
    by_cases hlt : k < ids.length
    · have hlt' : (k : Int) < (ids.length : Int) := by omega
      obtain ⟨b, o, rfl, hr⟩ := HA0.out.2.2.2 (by omega)
      have hrk := hr k hlt
      obtain ⟨y, hy⟩ : ∃ y, y = ids.getD k default := ⟨_, rfl⟩
      rw [← hy] at hrk
      have HLX : Hid (∀ W, (∃ n, W = wr.drewN n) → W.rangeAt w.heap.size 0 (encN x)) := by rintro W ⟨n, rfl⟩; rw [hwr.out]; exact HW0.out
      have HLY : Hid (∀ W, (∃ n, W = wr.drewN n) → W.rangeAt b (o + k * 32) (encN y)) := by rintro W ⟨n, rfl⟩; rw [hwr.out]; exact hrk
      have heq := HL.out y
      have HYI := Lib.hid (infoX y)
      have HY := Lib.hid hy
      clear hy hr hrk
      by_cases hd : x = y
      · have hdd : decide (x = y) = true := by simp [hd]
        rw [hdd] at heq
        clear hdd
        have HD := Lib.hid hd
        clear hd
        go_wp2_with fail
        refine wp_region_quiet_lit (by kernel_rfl) (by kernel_rfl) ?_
        repeat (first
          | go_big_quiet_step (fail)
          | (refine q_loadm _ _ rfl (by rfl) w.heap.size 0 (encN x) rfl _ Tryz.underlying24 rfl HXI.out HLX.out ?_; simp only [Act.put]; go_simp)
          | (refine q_loadm _ _ rfl (by rfl) b (o + k * 32) (encN y) rfl _ Tryz.underlying24 rfl HYI.out HLY.out ?_; simp only [Act.put]; go_simp))
        refine wpQuiet_nil ?_
        intro nq
        go_wp2
        go_ret
        refine ⟨⟨k, rfl, ?_⟩, ?_⟩
        · have : x ∈ ids := by rw [HD.out, HY.out]; exact at_mem ids k hlt
          simp [this]
        · rw [hwr.out]
          exact be_drewN (be_drewN HB0.out _) _
      · have hdd : decide (x = y) = false := by simp [hd]
        rw [hdd] at heq
        clear hdd
        have HD := Lib.hid hd
        clear hd
        go_wp2_with fail
        refine wp_region_quiet_lit (by kernel_rfl) (by kernel_rfl) ?_
        repeat (first
          | go_big_quiet_step (fail)
          | (refine q_loadm _ _ rfl (by rfl) w.heap.size 0 (encN x) rfl _ Tryz.underlying24 rfl HXI.out HLX.out ?_; simp only [Act.put]; go_simp)
          | (refine q_loadm _ _ rfl (by rfl) b (o + k * 32) (encN y) rfl _ Tryz.underlying24 rfl HYI.out HLY.out ?_; simp only [Act.put]; go_simp))
        refine wpQuiet_nil ?_
        intro nq
        go_wp2
        go_roundg (ids.length - (k + 1))
        case measure => omega
        case rel =>
          refine ⟨k + 1, q + nq, by omega, by omega, by go_num, Lib.hid ?_, Lib.hid ?_⟩
          · rw [hwr.out, World.drewN_drewN]
          · intro i hi
            by_cases e : i = k
            · subst e
              rw [← HY.out]
              exact fun e => HD.out e.symm
            · exact hall.out i (by omega)
    · have hk2 : k = ids.length := by omega
      subst hk2
      go_wp2
      go_ret
      refine ⟨⟨-1, rfl, ?_⟩, ?_⟩
      · simp [mem_at x ids hall.out]
      · rw [hwr.out]
        exact be_drewN HB0.out _
set_option maxRecDepth 100000 in
set_option maxHeartbeats 4000000 in
theorem contains_nm (A : Option Addr) (c : Nat) (ids : List Nm) (x : Nm) (w : World) (hA : ArgN w A c ids) (hc : ids.length ≤ 1048576) :
    Calls Tryz.prog 150 #[.slice A ids.length c, .agg (encN x).toArray] w fun e w' => e = .returned (.bool (decide (x ∈ ids))) ∧ Below w.heap.size w w' := by
  have HW0 := Lib.hid (Whole.made w 24 (encN x).toArray)
  have HXI := Lib.hid (infoXs x)
  have HB0 := Lib.hid ((Below.refl w.heap.size w).alloc (Nat.le_refl _) (.cells (encN x).toArray 24))
  have HI := Lib.hid (index_nm A c ids x _ (hA.later HB0.out) hc)
  clear hA
  generalize decide (x ∈ ids) = r at *
  go_enter Tryz.func150, Tryz.ntmps150
  go_wp2_with (first
    | (refine wpList_load_row rfl 24 _ rfl w.heap.size rfl 24 (encN x).toArray (0, 0) _ HW0.out Tryz.underlying24 rfl HXI.out ?_)
    | (go_at_call 172; refine HI.out.mono ?_; rintro e w' ⟨⟨r', rfl, hr⟩, hb⟩))
  go_ret
  exact ⟨rfl, HB0.out.trans (hb.mono (by simp))⟩
set_option maxRecDepth 100000 in
set_option maxHeartbeats 4000000 in
theorem has_nm (A : Option Addr) (c : Nat) (ids : List Nm) (x : Nm) (w : World) (hA : ArgN w A c ids) (hc : ids.length ≤ 1048576) :
    Calls Tryz.prog 124 #[.slice A ids.length c, .agg (encN x).toArray] w fun e w' => e = .returned (.bool (decide (x ∈ ids))) ∧ Below w.heap.size w w' := by
  have HW0 := Lib.hid (Whole.made w 24 (encN x).toArray)
  have HXI := Lib.hid (infoXs x)
  have HB0 := Lib.hid ((Below.refl w.heap.size w).alloc (Nat.le_refl _) (.cells (encN x).toArray 24))
  have HI := Lib.hid (contains_nm A c ids x _ (hA.later HB0.out) hc)
  clear hA
  generalize decide (x ∈ ids) = r at *
  go_enter Tryz.func124, Tryz.ntmps124
  go_wp2_with (first
    | (refine wpList_load_row rfl 24 _ rfl w.heap.size rfl 24 (encN x).toArray (0, 0) _ HW0.out Tryz.underlying24 rfl HXI.out ?_)
    | (go_at_call 150; refine HI.out.mono ?_; rintro e w' ⟨rfl, hb⟩))
  go_ret
  exact ⟨rfl, HB0.out.trans (hb.mono (by simp))⟩
end Go.Proofs.YtfaijkgfhdhhbaaGreatDoor
namespace Go.Proofs.YtfaijkgfhdhhbaaGreatDoor
open Go.RowKit

def newAt (ids : List Nm) (i : Nat) : Bool := !decide (ids.getD i default ∈ ids.take i)
def distN (ids : List Nm) (k : Nat) : Bool := (List.range k).all (newAt ids)
theorem distN_succ (ids : List Nm) (k : Nat) : distN ids (k + 1) = (distN ids k && newAt ids k) := by
  unfold distN
  rw [List.range_succ, List.all_append]
  simp
theorem distN_not (ids : List Nm) {k n : Nat} (h : k < n) (hk : newAt ids k = false) : distN ids n = false := by
  cases hr : distN ids n with
  | false => rfl
  | true =>
    unfold distN at hr
    rw [List.all_eq_true] at hr
    rw [hr k (List.mem_range.2 h)] at hk
    cases hk
/-- Parents that may be. -/
def mayP (ids : List Nm) : Bool := decide (ids.length ≤ 4) && distN ids ids.length
theorem slice_toC {A : Option Addr} {c : Nat} (m n : Nat) (hn : n ≤ c) (W : World) :
    (Instr.slice 25 (.slice A m c) none (some (.int .i64 (n : Int))) none).run Tryz.prog W = .ok (.slice A n c) W := by
  have hel : Tryz.prog.elem 25 = 24 := by simp [Program.elem, Tryz.underlying25]
  have h := run_slice_h (P := Tryz.prog) (w := W) (t := 25) (a := A) (len := m) (cap := c) (by rw [hel]; exact Tryz.underlying25) .i64 (n : Int) (by omega) (by omega)
  rw [h, hel, Tryz.sizeOf24]
  have hadd : A.map (fun a => a.add 0) = A := by
    cases A with
    | none => rfl
    | some a => simp [Addr.add]
  simp [sliced, hadd]
theorem made_belowC {w w' : World} {o : Obj} (h : (w.alloc o).grownBy w' (some w.heap.size)) : Below w.heap.size w w' :=
  be_grown ((Below.refl w.heap.size w).alloc (Nat.le_refl _) _) h (by simp) (fun j hj => by injection hj with hj; omega)
theorem below_clsC {w W : World} (h : ∃ p : Regrown, W = Sort.grow (redrawn w p.d) p.os) : Below w.heap.size w W := by
  obtain ⟨p, rfl⟩ := h
  exact below_regrown _ _ _
set_option maxRecDepth 100000 in
set_option maxHeartbeats 4000000 in
theorem mayP_any (A : Option Addr) (c : Nat) (ids : List Nm) (w : World) (hA : ArgN w A c ids) :
    Calls Tryz.prog 89 #[.slice A ids.length c] w fun e w' => e = .returned (.bool (mayP ids)) ∧ Below w.heap.size w w' := by
  have HA := Lib.hid hA
  have hlc := hA.1
  have hcm : c ≤ maxLen := hA.2.1
  unfold maxLen at hcm
  clear hA
  by_cases hm : 4 < ids.length
  · have HM : Hid (mayP ids = false) := by show _ = _; unfold mayP; rw [decide_eq_false (by omega)]; rfl
    have hd : decide ((4 : Int) < (ids.length : Int)) = true := by simp; omega
    clear hm hcm
    go_enter Tryz.func89, Tryz.ntmps89
    go_wp2
    go_ret
    exact ⟨by rw [HM.out]; rfl, Below.refl _ _⟩
  have HM : Hid (mayP ids = distN ids ids.length) := by show _ = _; unfold mayP; rw [decide_eq_true (by omega)]; rfl
  have hd : decide ((4 : Int) < (ids.length : Int)) = false := by simp; omega
  clear hcm
  go_enter Tryz.func89, Tryz.ntmps89
  go_wp2
  go_loopg [3, 4, 10] ids.length (fun g _ _ s10 wr => ∃ k : Nat, k ≤ ids.length ∧ ids.length - k ≤ g ∧ s10 = .int .i64 k ∧ Hid (Below w.heap.size w wr) ∧ Hid (distN ids k = true))
  case atStart => exact ⟨0, Nat.zero_le _, by omega, rfl, Lib.hid (Below.refl _ _), Lib.hid rfl⟩
  case round =>
    obtain ⟨k, hk, hg, rfl, hB, hall⟩ := hrel
    by_cases hlt : k < ids.length
    · have hlt' : (k : Int) < (ids.length : Int) := by omega
      have HAW := Lib.hid (HA.out.later hB.out)
      obtain ⟨b, o, rfl, hr⟩ := HAW.out.2.2.2 (by omega)
      have hrk := hr k hlt
      obtain ⟨y, hy⟩ : ∃ y, y = ids.getD k default := ⟨_, rfl⟩
      rw [← hy] at hrk
      have HRK := Lib.hid hrk
      have HRS := Lib.hid (distN_succ ids k)
      have HNA : Hid (newAt ids k = !decide (y ∈ ids.take k)) := by show _ = _; rw [hy]; rfl
      have hsl := slice_toC (A := some ⟨b, o, none⟩) (c := c) ids.length k (by omega)
      clear hr hrk hy
      go_wp2_with (first
        | (refine wpList_load_mid rfl 24 _ rfl b (o + k * 32) rfl (encN y) _ HRK.out Tryz.underlying24 rfl (infoX y) ?_)
        | (refine wpList_store_whole rfl 24 _ _ rfl wr.heap.size (encN y).toArray rfl rfl 24 _ (Whole.made wr _ _) (infoXs y) (by rw [encN_size]; kernel_rfl) (encN_all y) ?_; intro w2 hWn hGn; have HW2 := Lib.hid hWn; have D2 := Lib.hid (made_belowC hGn); clear hWn hGn))
      simp only [Act.put]
      have HB2 := Lib.hid (hB.out.trans (D2.out.mono hB.out.size))
      have HLY : Hid (∀ W, Below w2.heap.size w2 W → W.rangeAt wr.heap.size 0 (encN y)) := fun W hW => whole_range (HW2.out.below hW HW2.out.lt)
      have HXI := Lib.hid (infoX y)
      have htk : (ids.take k).length = k := by rw [List.length_take]; omega
      have HHS : Hid (∀ W, Below w2.heap.size w2 W → Calls Tryz.prog 124 #[.slice (some ⟨b, o, none⟩) k c, .agg (encN y).toArray] W fun e w' => e = .returned (.bool (decide (y ∈ ids.take k))) ∧ Below W.heap.size W w') := by
        intro W hW
        have h := has_nm (some ⟨b, o, none⟩) c (ids.take k) y W (((HAW.out.later D2.out).later hW).take k) (by omega)
        rw [htk] at h
        exact h
      clear htk
      cases hh : decide (y ∈ ids.take k) with
      | true =>
        rw [hh] at HHS
        have HF : Hid (distN ids ids.length = false) := distN_not ids hlt (by rw [HNA.out, hh]; rfl)
        clear hh
        go_wp2_with fail
        refine wp_region_quiet_below (by kernel_rfl) (by kernel_rfl) ?_
        repeat (first
          | go_big_quiet_step ((go_at_call 124; exact Calls.regrown_of (HHS.out _ (below_regrown _ _ _))))
          | (refine q_loadm _ _ rfl (by rfl) wr.heap.size 0 (encN y) rfl _ Tryz.underlying24 rfl HXI.out (fun W hC => HLY.out W (below_clsC hC)) ?_; simp only [Act.put]; go_simp))
        refine wpQuiet_nil ?_
        intro p
        have HWF := Lib.hid (HB2.out.trans ((below_regrown w2 p.d p.os).mono HB2.out.size))
        generalize Sort.grow (redrawn w2 p.d) p.os = wf at *
        go_wp2
        go_ret
        exact ⟨by rw [HM.out, HF.out]; rfl, HWF.out⟩
      | false =>
        rw [hh] at HHS
        have HT : Hid (distN ids (k + 1) = true) := by show _ = _; rw [HRS.out, hall.out, HNA.out, hh]; rfl
        clear hh
        go_wp2_with fail
        refine wp_region_quiet_below (by kernel_rfl) (by kernel_rfl) ?_
        repeat (first
          | go_big_quiet_step ((go_at_call 124; exact Calls.regrown_of (HHS.out _ (below_regrown _ _ _))))
          | (refine q_loadm _ _ rfl (by rfl) wr.heap.size 0 (encN y) rfl _ Tryz.underlying24 rfl HXI.out (fun W hC => HLY.out W (below_clsC hC)) ?_; simp only [Act.put]; go_simp))
        refine wpQuiet_nil ?_
        intro p
        have HWF := Lib.hid (HB2.out.trans ((below_regrown w2 p.d p.os).mono HB2.out.size))
        generalize Sort.grow (redrawn w2 p.d) p.os = wf at *
        go_wp2
        go_roundg (ids.length - (k + 1))
        case measure => omega
        case rel => exact ⟨k + 1, by omega, Nat.le_refl _, by go_num, HWF, HT⟩
    · obtain rfl : k = ids.length := by omega
      go_wp2
      go_ret
      exact ⟨by rw [HM.out, hall.out]; rfl, hB.out⟩
end Go.Proofs.YtfaijkgfhdhhbaaGreatDoor
namespace Go.Proofs.YtfaijkgfhdhhbaaGreatDoor
open Go.RowKit

structure Cm where
  tree : Nm
  parents : List Nm
  time : Nat
  note : List UInt8
/-- A commit's cells; its parents lie in a row. -/
def encC (A : Option Addr) (c : Nat) (x : Cm) : List Value := encN x.tree ++ [.slice A x.parents.length c, .float .f64 x.time, .string ⟨x.note.toArray⟩]
theorem encC_len (A : Option Addr) (c : Nat) (x : Cm) : (encC A c x).length = 35 := by simp [encC, encN_len]
theorem encC_one (A : Option Addr) (c : Nat) (x : Cm) : ∀ v ∈ encC A c x, v.oneCell' = true := by
  intro v hv
  simp only [encC, List.mem_append, List.mem_cons, List.not_mem_nil, or_false] at hv
  rcases hv with hv | rfl | rfl | rfl
  · exact encN_one _ v hv
  · rfl
  · rfl
  · rfl
theorem encC_32 (A : Option Addr) (c : Nat) (x : Cm) : (encC A c x).toArray[32]? = some (.slice A x.parents.length c) := by
  rw [List.getElem?_toArray, encC, List.getElem?_append_right (by rw [encN_len]; exact Nat.le_refl _), encN_len]
  rfl
theorem encC_33 (A : Option Addr) (c : Nat) (x : Cm) : (encC A c x).toArray[33]? = some (.float .f64 x.time) := by
  rw [List.getElem?_toArray, encC, List.getElem?_append_right (by rw [encN_len]; decide), encN_len]
  rfl
theorem encC_34 (A : Option Addr) (c : Nat) (x : Cm) : (encC A c x).toArray[34]? = some (.string ⟨x.note.toArray⟩) := by
  rw [List.getElem?_toArray, encC, List.getElem?_append_right (by rw [encN_len]; decide), encN_len]
  rfl
theorem infoC : (Tryz.prog.info? 28).map (·.size) = some 35 := by kernel_rfl
/-- What may be a commit. -/
def mayC (x : Cm) : Bool := mayP x.parents && Flo.may x.time && decide (x.note.length ≤ 100)
set_option maxRecDepth 100000 in
set_option maxHeartbeats 2000000 in
theorem cmay_any (A : Option Addr) (c : Nat) (x : Cm) (w : World) (hA : ArgN w A c x.parents) (ht : x.time < 18446744073709551616) :
    Calls Tryz.prog 55 #[.agg (encC A c x).toArray] w fun e w' => e = .returned (.bool (mayC x)) ∧ Below w.heap.size w w' := by
  have HW := Lib.hid (Whole.made w 28 (encC A c x).toArray)
  have HB := Lib.hid ((Below.refl w.heap.size w).alloc (Nat.le_refl _) (.cells (encC A c x).toArray 28))
  have HP := Lib.hid (mayP_any A c x.parents _ (hA.later HB.out))
  have HT := Lib.hid fun W => may_any x.time W ht
  have e32 := encC_32 A c x
  have e33 := encC_33 A c x
  have e34 := encC_34 A c x
  have HM : Hid (mayC x = (mayP x.parents && Flo.may x.time && decide (x.note.length ≤ 100))) := rfl
  clear hA ht
  have c32 : (w.alloc (.cells (encC A c x).toArray 28)).cell? ⟨w.heap.size, 32, none⟩ = some (.slice A x.parents.length c) := (HW.out.at_ 32).trans e32
  generalize mayC x = r at *
  generalize mayP x.parents = p at *
  generalize Flo.may x.time = q at *
  generalize x.parents = ps at *
  generalize x.note = nt at *
  generalize x.time = tm at *
  generalize (encC A c x).toArray = cs at *
  have HE := Lib.hid (And.intro e33 e34)
  clear e32 e33 e34
  go_enter Tryz.func55, Tryz.ntmps55
  go_wp2_with fail
  generalize w.alloc (.cells cs 28) = w0 at *
  refine HP.out.mono ?_
  rintro e w1 ⟨rfl, hB1⟩
  have hW1 := HW.out.below hB1 HW.out.lt
  have HBF := Lib.hid (HB.out.trans (hB1.mono HB.out.size))
  have c33 : w1.cell? ⟨w.heap.size, 33, none⟩ = some (.float .f64 tm) := (hW1.at_ 33).trans HE.out.1
  have c34 : w1.cell? ⟨w.heap.size, 34, none⟩ = some (.string ⟨nt.toArray⟩) := (hW1.at_ 34).trans HE.out.2
  clear hB1 hW1 HP
  cases p with
  | false =>
    go_wp2
    go_ret
    exact ⟨by rw [HM.out]; rfl, HBF.out⟩
  | true =>
    go_wp2_with fail
    refine (HT.out _).mono ?_
    rintro e w2 ⟨rfl, rfl⟩
    cases q with
    | false =>
      go_wp2
      go_ret
      exact ⟨by rw [HM.out]; rfl, HBF.out⟩
    | true =>
      have HD : Hid (decide (nt.length ≤ 100) = decide ((nt.length : Int) ≤ 100)) := by show _ = _; rw [decide_eq_decide]; omega
      go_wp2
      go_ret
      exact ⟨by rw [HM.out, HD.out]; rfl, HBF.out⟩
end Go.Proofs.YtfaijkgfhdhhbaaGreatDoor
namespace Go.Proofs.YtfaijkgfhdhhbaaGreatDoor.Door
open Go.RowKit Go.ChangeShapes Go.WideShapes Go.ChangeAt

theorem ceC : Tryz.prog.cellsOf 28 = 35 := by kernel_rfl
theorem ceIds : Tryz.prog.cellsOf 25 = 1 := by kernel_rfl
theorem ceF64 : Tryz.prog.cellsOf 26 = 1 := by kernel_rfl
theorem ceS1 : Tryz.prog.cellsOf 9 = 1 := by kernel_rfl
section
variable {H : Type} {enc : TypeId × Value → H} {W : World} {base : Nat} {v : Value} {d : DataW H} {p : List MemPlace}
set_option maxRecDepth 100000 in
theorem ids_of_cells {cs : List Value} {fuel : Nat} {x : DataW H × List MemPlace} (hf : DataW.trod enc Tryz.prog W 0 (fun _ => true) true fuel 25 cs = some x) :
    ∃ A c ids, cs = [.slice A (List.length ids) c] ∧ ArgN W A c ids := by
  rcases Go.Deep.open_slice Tryz.underlying25 hf with ⟨hcs, hx⟩ | ⟨a, len', cap', m, n, D, Pl, hcs, _, hl, hm, hmm, hx, hcell⟩
  · exact ⟨none, 0, [], hcs, Nat.le_refl _, Nat.zero_le _, fun _ => rfl, fun h => absurd h (Nat.lt_irrefl _)⟩
  · simp only [if_true] at hmm
    subst hmm
    obtain ⟨f, hf⟩ := Go.Deep.choose_lt (α := Nm) (n := len') (p := fun i x => ∀ j v, (encN x)[j]? = some v → W.cell? ((a.add (i * 32)).add j) = some v) (fun i hi => by
      obtain ⟨cs', h1, h2⟩ := hcell i (by omega)
      obtain ⟨id, hil, rfl⟩ := id_of_cells h2
      rw [ceId] at h1
      obtain ⟨_, h3, h4⟩ := World.cells?_some h1
      refine ⟨⟨id, hil⟩, fun j v hv => ?_⟩
      have hj : j < 32 := by
        have := (List.getElem?_eq_some_iff.1 hv).1
        rwa [encN_len] at this
      exact (h4 j hj).trans hv)
    refine ⟨some a, m, (List.range len').map f, by simpa using hcs, by simpa using hl, hm, (fun e => by cases e), fun h0 => ?_⟩
    simp only [List.length_map, List.length_range] at h0
    obtain ⟨b, o, sp⟩ := a
    have hz := hf 0 h0 0 _ (List.getElem?_eq_getElem (by rw [encN_len]; omega))
    obtain rfl : sp = none := by simpa [Addr.add] using World.cell?_spot hz
    refine ⟨b, o, rfl, fun i hi j v hv => ?_⟩
    simp only [List.length_map, List.length_range] at hi
    have e : ((List.range len').map f).getD i default = f i := by simp [List.getD, hi]
    rw [e] at hv
    have := hf i hi j v hv
    rw [Addr.add_mid, Addr.add_mid] at this
    exact this
set_option maxRecDepth 100000 in
theorem commit_of_cells {cs : List Value} {fuel : Nat} {x : DataW H × List MemPlace} (hf : DataW.trod enc Tryz.prog W 0 (fun _ => true) true fuel 28 cs = some x) :
    ∃ A c, ∃ y : Cm, cs = encC A c y ∧ ArgN W A c y.parents ∧ y.time < 18446744073709551616 ∧ y.note.length ≤ maxLen := by
  obtain ⟨xs, n, -, -, hl, hxl, hi⟩ := DataW.trod_struct Tryz.underlying28 hf
  rw [ceC] at hl
  have h0 := hi 0 _ rfl
  have h1 := hi 1 _ rfl
  have h2 := hi 2 _ rfl
  have h3 := hi 3 _ rfl
  rw [List.getElem?_eq_getElem (by rw [hxl]; decide)] at h0 h1 h2 h3
  obtain ⟨id, hid, e0⟩ := id_of_cells h0
  obtain ⟨A, c, ids, e1, ha⟩ := ids_of_cells h1
  obtain ⟨s, e3, -, hs⟩ := DataW.trod_string Tryz.underlying9 h3
  have e0 : (cs.drop 0).take 32 = id.map Y := e0
  have e1 : (cs.drop 32).take 1 = [.slice A ids.length c] := e1
  have e3 : (cs.drop 34).take 1 = [.string s] := e3
  obtain ⟨y2, h2⟩ : ∃ y2, DataW.trod enc Tryz.prog W 0 (fun _ => true) true n 26 ((cs.drop 33).take 1) = some y2 := ⟨_, h2⟩
  obtain ⟨u, hu⟩ : ∃ u, (cs.drop 33).take 1 = [u] := by
    refine ⟨cs[33], ?_⟩
    rw [List.drop_eq_getElem_cons (by omega), List.take_succ_cons, List.take_zero]
  obtain ⟨tm, e2, ht⟩ : ∃ tm, (cs.drop 33).take 1 = [.float .f64 tm] ∧ tm < 18446744073709551616 := by
    rw [hu] at h2
    rw [hu]
    clear h0 h1 h3 hi e0 e1 e3 hu
    cases n with
    | zero => simp [DataW.trod] at h2
    | succ m =>
      unfold DataW.trod at h2
      rw [Tryz.underlying26] at h2
      cases u <;> simp at h2
      obtain ⟨⟨rfl, hw⟩, -⟩ := h2
      exact ⟨_, rfl, by simpa [Lit.wf] using hw⟩
  have e : cs = cs.take 32 ++ ((cs.drop 32).take 1 ++ ((cs.drop 33).take 1 ++ (cs.drop 34).take 1)) := by
    have a4 : (cs.drop 34).take 1 = cs.drop 34 := List.take_of_length_le (by rw [List.length_drop]; omega)
    rw [a4, show cs.drop 34 = (cs.drop 33).drop 1 by rw [List.drop_drop], List.take_append_drop, show cs.drop 33 = (cs.drop 32).drop 1 by rw [List.drop_drop], List.take_append_drop, List.take_append_drop]
  refine ⟨A, c, ⟨⟨id, hid⟩, ids, tm, s.data.toList⟩, ?_, ha, ht, by show s.data.toList.length ≤ maxLen; rw [Array.length_toList]; exact hs⟩
  rw [List.drop_zero] at e0
  rw [e, e0, e1, e2, e3]
  show _ = id.map Y ++ [.slice A ids.length c, .float .f64 tm, .string ⟨s.data.toList.toArray⟩]
  simp
set_option maxRecDepth 100000 in
theorem open_commit (hval : Value.okWide Tryz.prog W .any base 28 v) (h : DataW.Trod enc Tryz.prog W 0 (fun _ => true) true 28 v d p) :
    ∃ A c, ∃ y : Cm, v = .agg (encC A c y).toArray ∧ ArgN W A c y.parents ∧ y.time < 18446744073709551616 ∧ y.note.length ≤ maxLen := by
  simp only [Value.okWide, Tryz.underlying28] at hval
  obtain ⟨cs, rfl, -⟩ := hval
  obtain ⟨fuel, hf⟩ := h
  obtain ⟨A, c, y, he, ha, ht, hn⟩ := commit_of_cells hf
  refine ⟨A, c, y, ?_, ha, ht, hn⟩
  rw [← he]
  simp [Value.cells]
end
end Go.Proofs.YtfaijkgfhdhhbaaGreatDoor.Door
namespace Go.Proofs.YtfaijkgfhdhhbaaGreatDoor
open Go.RowKit

structure Ob where
  kind : Int
  blob : List UInt8
  entries : List En
  commit : Cm
/-- An object's cells; its entries, its commit's parents lie in rows. -/
def encO (A : Option Addr) (c : Nat) (A2 : Option Addr) (c2 : Nat) (x : Ob) : List Value := [.int .i64 x.kind, .string ⟨x.blob.toArray⟩, .slice A x.entries.length c] ++ encC A2 c2 x.commit
theorem encO_len (A : Option Addr) (c : Nat) (A2 : Option Addr) (c2 : Nat) (x : Ob) : (encO A c A2 c2 x).length = 38 := by simp [encO, encC_len]
namespace Door
open Go.ChangeShapes Go.WideShapes Go.ChangeAt

theorem ceO : Tryz.prog.cellsOf 30 = 38 := by kernel_rfl
section
variable {H : Type} {enc : TypeId × Value → H} {W : World} {base : Nat} {v : Value} {d : DataW H} {p : List MemPlace}
set_option maxRecDepth 100000 in
theorem open_object (hval : Value.okWide Tryz.prog W .any base 30 v) (h : DataW.Trod enc Tryz.prog W 0 (fun _ => true) true 30 v d p) :
    ∃ A c A2 c2, ∃ y : Ob, v = .agg (encO A c A2 c2 y).toArray ∧ (Lit.int .i64 y.kind).wf = true ∧ y.blob.length ≤ maxLen ∧ ArgE W A c y.entries ∧ (∀ e ∈ y.entries, e.name.length ≤ maxLen) ∧ ArgN W A2 c2 y.commit.parents ∧ y.commit.time < 18446744073709551616 ∧ y.commit.note.length ≤ maxLen := by
  simp only [Value.okWide, Tryz.underlying30] at hval
  obtain ⟨cv, rfl, -⟩ := hval
  obtain ⟨fuel, hf⟩ := h
  obtain ⟨cs, hcs⟩ : ∃ cs, cs = (Value.agg cv).cells.toList := ⟨_, rfl⟩
  have hcv : cv = cs.toArray := by rw [hcs]; simp [Value.cells]
  rw [← hcs] at hf
  obtain ⟨xs, n, -, -, hl, hxl, hi⟩ := DataW.trod_struct Tryz.underlying30 hf
  rw [ceO] at hl
  have h0 := hi 0 _ rfl
  have h1 := hi 1 _ rfl
  have h2 := hi 2 _ rfl
  have h3 := hi 3 _ rfl
  rw [List.getElem?_eq_getElem (by rw [hxl]; decide)] at h0 h1 h2 h3
  obtain ⟨k, e0, -, hk⟩ := DataW.trod_int Tryz.underlying3 h0
  obtain ⟨s, e1, -, hs⟩ := DataW.trod_string Tryz.underlying9 h1
  obtain ⟨A, c, es, e2, ha, hn⟩ := entries_of_cells h2
  obtain ⟨A2, c2, y, e3, hp, ht, hnt⟩ := commit_of_cells h3
  have e0 : (cs.drop 0).take 1 = [.int .i64 k] := e0
  have e1 : (cs.drop 1).take 1 = [.string s] := e1
  have e2 : (cs.drop 2).take 1 = [.slice A es.length c] := e2
  have e3 : (cs.drop 3).take 35 = encC A2 c2 y := e3
  have e : cs = cs.take 1 ++ ((cs.drop 1).take 1 ++ ((cs.drop 2).take 1 ++ (cs.drop 3).take 35)) := by
    have a4 : (cs.drop 3).take 35 = cs.drop 3 := List.take_of_length_le (by rw [List.length_drop]; omega)
    rw [a4, show cs.drop 3 = (cs.drop 2).drop 1 by rw [List.drop_drop], List.take_append_drop, show cs.drop 2 = (cs.drop 1).drop 1 by rw [List.drop_drop], List.take_append_drop, List.take_append_drop]
  refine ⟨A, c, A2, c2, ⟨k, s.data.toList, es, y⟩, ?_, hk, by show s.data.toList.length ≤ maxLen; rw [Array.length_toList]; exact hs, ha, hn, hp, ht, hnt⟩
  rw [List.drop_zero] at e0
  rw [hcv, e, e0, e1, e2, e3]
  show _ = Value.agg ([Value.int .i64 k, Value.string ⟨s.data.toList.toArray⟩, Value.slice A es.length c] ++ encC A2 c2 y).toArray
  simp
end
end Door
end Go.Proofs.YtfaijkgfhdhhbaaGreatDoor

/-
  TreePath, walked.
-/
import Derived.Test.YtacmdpfidakkkaaGreatDoorBegS
import Derived.Test.YtacmdpfidakkkaaGreatDoorRPth
import Derived.Test.YtacmdpfidakkkaaGreatDoorMgf
import Derived.Test.YtacmdpfidakkkaaGreatDoorMgr
namespace Go.Proofs.YtacmdpfidakkkaaGreatDoor
open Go.RowKit

theorem splitV_back : ∀ (t r : List UInt8), (47 : UInt8) ∉ r → splitV (t ++ 47 :: r) = splitV t ++ [r]
  | [], r, h => by
    have e : splitV (47 :: r) = [] :: splitV r := by simp [splitV]
    rw [List.nil_append, e, splitV_none r h]
    rfl
  | c :: t, r, h => by
    have ih := splitV_back t r h
    rw [List.cons_append, splitV, splitV, ih]
    by_cases hc : c = 47
    · rw [if_pos hc, if_pos hc, List.cons_append]
    · rw [if_neg hc, if_neg hc]
      cases hs : splitV t with
      | nil => exact absurd hs (splitV_ne t)
      | cons h tl => rfl
def cutQ (ls : List (List UInt8)) (k : Nat) : List UInt8 := (ls.getD k []).take 25
def joinK (ls : List (List UInt8)) : Nat → List UInt8
  | 0 => []
  | k + 1 => (if 0 < k then joinK ls k ++ [47] else joinK ls k) ++ cutQ ls k
def okK (ls : List (List UInt8)) (k : Nat) : Bool := (List.range k).all fun i => okName (cutQ ls i)
theorem okK_succ (ls : List (List UInt8)) (k : Nat) : okK ls (k + 1) = (okK ls k && okName (cutQ ls k)) := by
  unfold okK
  rw [List.range_succ, List.all_append]
  simp
theorem okK_at (ls : List (List UInt8)) {k i : Nat} (h : okK ls k = true) (hi : i < k) : okName (cutQ ls i) = true := List.all_eq_true.1 h i (List.mem_range.2 hi)
theorem joinK_len (ls : List (List UInt8)) (k : Nat) : (joinK ls k).length ≤ k * 26 := by
  induction k with
  | zero => simp [joinK]
  | succ k ih =>
    have : (cutQ ls k).length ≤ 25 := by unfold cutQ; rw [List.length_take]; omega
    unfold joinK
    split <;> simp only [List.length_append, List.length_cons, List.length_nil] <;> omega
theorem okName_slash (s : List UInt8) (h : okName s = true) : (47 : UInt8) ∉ s := by
  intro hm
  simp only [okName, Bool.and_eq_true, List.all_eq_true] at h
  have := h.2 47 hm
  revert this
  decide
theorem okName_len (s : List UInt8) (h : okName s = true) : 0 < s.length ∧ s.length ≤ 20 := by
  simp only [okName, Bool.and_eq_true, decide_eq_true_eq] at h
  exact ⟨h.1.1.1.1, h.1.1.1.2⟩
theorem cutQ_ok (ls : List (List UInt8)) (k : Nat) (h : okName (cutQ ls k) = true) : cutQ ls k = ls.getD k [] := by
  have := (okName_len _ h).2
  unfold cutQ at *
  rw [List.length_take] at this
  exact List.take_of_length_le (by omega)
theorem joinK_split (ls : List (List UInt8)) : ∀ k, k + 1 ≤ ls.length → okK ls (k + 1) = true → splitV (joinK ls (k + 1)) = ls.take (k + 1)
  | 0, hl, h => by
    have h0 := okK_at ls h (Nat.zero_lt_one)
    unfold joinK
    rw [if_neg (by decide)]
    show splitV ([] ++ cutQ ls 0) = _
    rw [List.nil_append, splitV_none _ (okName_slash _ h0), cutQ_ok ls 0 h0, List.take_succ_eq_append_getElem (by omega)]
    simp [List.getD, List.getElem?_eq_getElem (show 0 < ls.length by omega)]
  | k + 1, hl, h => by
    have h' := h
    rw [okK_succ, Bool.and_eq_true] at h'
    have ih := joinK_split ls k (by omega) h'.1
    rw [joinK, if_pos (by omega), List.append_assoc, List.singleton_append, splitV_back _ _ (okName_slash _ h'.2), ih, cutQ_ok ls _ h'.2, List.take_succ_eq_append_getElem (show k + 1 < ls.length by omega)]
    simp [List.getD, List.getElem?_eq_getElem (show k + 1 < ls.length by omega)]
theorem joinK_path (ls : List (List UInt8)) (m : Nat) (hl : m ≤ ls.length) (hne : joinK ls m ≠ []) (h : okK ls m = true) : pathV (joinK ls m) = some (ls.take m) := by
  cases m with
  | zero => exact absurd rfl hne
  | succ k =>
    unfold pathV
    rw [if_neg hne, joinK_split ls k hl h, if_pos]
    rw [List.all_eq_true]
    intro p hp
    obtain ⟨i, hi, rfl⟩ := List.mem_iff_getElem.1 hp
    rw [List.length_take] at hi
    have h1 := okK_at ls h (show i < k + 1 by omega)
    have h2 := cutQ_ok ls i h1
    rw [h2] at h1
    rw [List.getElem_take]
    simpa [List.getD, List.getElem?_eq_getElem (show i < ls.length by omega)] using h1
set_option maxRecDepth 100000 in
set_option maxHeartbeats 4000000 in
theorem tpat_any (A : Option Addr) (c : Nat) (ls : List (List UInt8)) (w : World) (hE : Env w) (hT : Tens w) (hA : Arg w A c (ls.map S1)) : Calls Tryz.prog 7 #[.slice A ls.length c] w fun e w' => e = .returned (.bool true) ∧ Below w.heap.size w w' := by
  have HE := Lib.hid hE
  have HT := Lib.hid hT
  have HA := Lib.hid hA
  have hlc : ls.length ≤ c := by have := hA.1; rwa [List.length_map] at this
  clear hE hT hA
  obtain ⟨m, hm, hm1, hm5⟩ : ∃ m, m = min ls.length 5 ∧ m ≤ ls.length ∧ m ≤ 5 := ⟨_, rfl, Nat.min_le_left _ _, Nat.min_le_right _ _⟩
  have hmin : ∀ W, (Builtin.min_ #[3, 3] 3 #[.int .i64 (ls.length : Int), .int .i64 5]).run Tryz.prog W = .ok (.int .i64 (m : Int)) W := by
    intro W
    rw [run_min_int2]
    congr 2
    split <;> omega
  have hsl := slice_toM (P := Tryz.prog) (A := A) (c := c) 30 9 ls.length m Tryz.underlying30 (by kernel_rfl) (by omega)
  clear hm
  go_enter Tryz.func7, Tryz.ntmps7
  go_wp2_with fail
  refine (begun6_any w HE.out HT.out).mono ?_
  rintro e w1 ⟨rfl, hb⟩
  have HB1 := Lib.hid hb
  have HA1 := Lib.hid (HA.out.below hb (Nat.le_refl _))
  clear hb HA
  go_wp2
  go_loopg [4, 5, 6, 7, 23] m (fun g s4 s5 _ _ s23 wr => ∃ k : Nat, k ≤ m ∧ m - k ≤ g ∧ s4 = .string ⟨(joinK ls k).toArray⟩ ∧ s5 = .bool (okK ls k) ∧ s23 = .int .i64 k ∧ wr = w1)
  case atStart => exact ⟨0, Nat.zero_le _, by omega, rfl, rfl, rfl, rfl⟩
  case round =>
    obtain ⟨k, hk, hg, rfl, rfl, rfl, rfl⟩ := hrel
    have hjl := joinK_len ls k
    by_cases hlt : k < m
    · have hlt' : (k : Int) < (m : Int) := by omega
      obtain ⟨g1, o1, rfl, hr⟩ := HA1.out.spot (by rw [List.length_map]; omega)
      have hck : wr.cell? ⟨g1, o1 + k, none⟩ = some (.string ⟨(ls.getD k []).toArray⟩) := by
        refine hr k _ ?_
        rw [List.getElem?_map]
        simp [List.getD, List.getElem?_eq_getElem (show k < ls.length by omega), S1]
      have HTX : Hid (∀ W, Calls Tryz.prog 15 #[.string ⟨(ls.getD k []).toArray⟩, .int .i64 25] W fun e w' => e = .returned (.string ⟨(cutQ ls k).toArray⟩) ∧ W = w') := fun W => text_any (ls.getD k []) 25 W
      have hql : (cutQ ls k).length ≤ 25 := by unfold cutQ; rw [List.length_take]; omega
      have HNM := Lib.hid fun W => rname_any (cutQ ls k) W (by omega)
      have HJ : Hid (joinK ls (k + 1) = (if 0 < k then joinK ls k ++ [47] else joinK ls k) ++ cutQ ls k) := rfl
      have HOK := Lib.hid (okK_succ ls k)
      clear hr
      generalize ls.getD k [] = p at *
      generalize cutQ ls k = q at *
      generalize joinK ls k = t at *
      by_cases hk0 : 0 < k
      · have hd0 : decide ((0 : Int) < (k : Int)) = true := by simp; omega
        have HS : Hid ((ByteArray.mk t.toArray) ++ (ByteArray.mk #[47]) ++ (ByteArray.mk q.toArray) = ByteArray.mk (joinK ls (k + 1)).toArray) := by
          show _ = _
          rw [HJ.out, if_pos hk0, show (ByteArray.mk #[47]) = ByteArray.mk [47].toArray from rfl, ba_append', ba_append']
        clear HJ
        cases hok : okK ls k with
        | true =>
          rw [hok] at HOK
          clear hok
          generalize okName q = nq at *
          go_wp2_with (first
            | (go_at_call 15; refine (HTX.out _).mono ?_; rintro e w' ⟨rfl, rfl⟩)
            | (go_at_call 20; refine (HNM.out _).mono ?_; rintro e w' ⟨rfl, rfl⟩))
          go_roundg (m - (k + 1))
          case measure => omega
          case rel => exact ⟨k + 1, by omega, Nat.le_refl _, by rw [HS.out], by rw [HOK.out]; rfl, by go_num, rfl⟩
        | false =>
          rw [hok] at HOK
          clear hok
          go_wp2_with (first
            | (go_at_call 15; refine (HTX.out _).mono ?_; rintro e w' ⟨rfl, rfl⟩))
          go_roundg (m - (k + 1))
          case measure => omega
          case rel => exact ⟨k + 1, by omega, Nat.le_refl _, by rw [HS.out], by rw [HOK.out]; rfl, by go_num, rfl⟩
      · have hd0 : decide ((0 : Int) < (k : Int)) = false := by simp; omega
        have HS : Hid ((ByteArray.mk t.toArray) ++ (ByteArray.mk q.toArray) = ByteArray.mk (joinK ls (k + 1)).toArray) := by
          show _ = _
          rw [HJ.out, if_neg hk0, ba_append']
        clear HJ
        cases hok : okK ls k with
        | true =>
          rw [hok] at HOK
          clear hok
          generalize okName q = nq at *
          go_wp2_with (first
            | (go_at_call 15; refine (HTX.out _).mono ?_; rintro e w' ⟨rfl, rfl⟩)
            | (go_at_call 20; refine (HNM.out _).mono ?_; rintro e w' ⟨rfl, rfl⟩))
          go_roundg (m - (k + 1))
          case measure => omega
          case rel => exact ⟨k + 1, by omega, Nat.le_refl _, by rw [HS.out], by rw [HOK.out]; rfl, by go_num, rfl⟩
        | false =>
          rw [hok] at HOK
          clear hok
          go_wp2_with (first
            | (go_at_call 15; refine (HTX.out _).mono ?_; rintro e w' ⟨rfl, rfl⟩))
          go_roundg (m - (k + 1))
          case measure => omega
          case rel => exact ⟨k + 1, by omega, Nat.le_refl _, by rw [HS.out], by rw [HOK.out]; rfl, by go_num, rfl⟩
    · obtain rfl : k = m := by omega
      have HJP := Lib.hid (joinK_path ls k hm1)
      generalize joinK ls k = t at *
      generalize okK ls k = ok at *
      have HTP := Lib.hid (tpath_any t wr (by omega))
      go_wp2_with fail
      refine HTP.out.mono ?_
      rintro e w2 ⟨hcase, hb⟩
      have HB2 := Lib.hid (HB1.out.trans (hb.mono HB1.out.size))
      have HA2 := Lib.hid (HA1.out.below hb (Nat.le_refl _))
      clear hb
      by_cases ht : t = []
      · subst ht
        rcases hcase with ⟨ps, A9, c9, hp, rfl, harg⟩ | ⟨hp, -⟩
        · have hps : ps = [] := by
            unfold pathV at hp
            rw [if_pos rfl] at hp
            injection hp with hp
            exact hp.symm
          subst hps
          clear hp harg
          go_wp2
          go_ret
          exact ⟨rfl, HB2.out⟩
        · unfold pathV at hp
          rw [if_pos rfl] at hp
          cases hp
      · have htb : (t == []) = false := by simp [ht]
        have HNE := Lib.hid ht
        clear ht
        cases ok with
        | false =>
          rcases hcase with ⟨ps, A9, c9, hp, rfl, harg⟩ | ⟨hp, rfl⟩
          · have HP := Lib.hid hp
            clear hp harg
            go_wp2_with fail
            refine (rpath_any t w2 (by omega)).mono ?_
            rintro e w3 ⟨(⟨ps', A8, c8, hp8, rfl, -⟩ | ⟨hp8, -⟩), hb⟩
            case inr =>
              rw [HP.out] at hp8
              cases hp8
            obtain rfl : ps = ps' := by have := HP.out.symm.trans hp8; injection this
            have HB3 := Lib.hid (HB2.out.trans (hb.mono HB2.out.size))
            clear hb hp8
            go_wp2
            go_ret
            exact ⟨rfl, HB3.out⟩
          · have HP := Lib.hid hp
            clear hp
            go_wp2_with fail
            refine (rpath_any t w2 (by omega)).mono ?_
            rintro e w3 ⟨(⟨ps', A8, c8, hp8, -, -⟩ | ⟨hp8, rfl⟩), hb⟩
            case inl =>
              rw [HP.out] at hp8
              cases hp8
            have HB3 := Lib.hid (HB2.out.trans (hb.mono HB2.out.size))
            clear hb hp8
            go_wp2
            go_ret
            exact ⟨rfl, HB3.out⟩
        | true =>
          have hpv := HJP.out HNE.out rfl
          rcases hcase with ⟨ps, A9, c9, hp, rfl, harg⟩ | ⟨hp, -⟩
          case inr =>
            rw [hpv] at hp
            cases hp
          obtain rfl : ls.take k = ps := by have := hpv.symm.trans hp; injection this
          have hpl : (ls.take k).length = k := by rw [List.length_take]; omega
          rw [hpl]
          have HAR := Lib.hid harg
          have hkc : k ≤ c9 := by have := harg.1; rw [List.length_map] at this; omega
          clear hp hpv harg hpl
          go_wp2
          go_loopg [12, 76] k (fun g _ s76 wq => ∃ i n : Nat, i ≤ k ∧ k - i ≤ g ∧ s76 = .int .i64 i ∧ Hid (wq = w2.drewN n))
          case atStart => exact ⟨0, 0, Nat.zero_le _, by omega, rfl, Lib.hid rfl⟩
          case round =>
            rename World => wq
            obtain ⟨i, n, hi2, hg2, rfl, hwq⟩ := hrel
            by_cases hlt2 : i < k
            · have hlt2' : (i : Int) < (k : Int) := by omega
              obtain ⟨g1, o1, rfl, hr1⟩ := HA2.out.spot (by rw [List.length_map]; omega)
              obtain ⟨g2, o2, rfl, hr2⟩ := HAR.out.spot (by rw [List.length_map, List.length_take]; omega)
              have hq1 : w2.cell? ⟨g1, o1 + i, none⟩ = some (.string ⟨(ls.getD i []).toArray⟩) := by
                refine hr1 i _ ?_
                rw [List.getElem?_map]
                simp [List.getD, List.getElem?_eq_getElem (show i < ls.length by omega), S1]
              have hq2 : w2.cell? ⟨g2, o2 + i, none⟩ = some (.string ⟨(ls.getD i []).toArray⟩) := by
                refine hr2 i _ ?_
                rw [List.getElem?_map, List.getElem?_take_of_lt hlt2]
                simp [List.getD, List.getElem?_eq_getElem (show i < ls.length by omega), S1]
              have c1 : wq.cell? ⟨g1, o1 + i, none⟩ = some (.string ⟨(ls.getD i []).toArray⟩) := by rw [hwq.out]; exact hq1
              have c2 : wq.cell? ⟨g2, o2 + i, none⟩ = some (.string ⟨(ls.getD i []).toArray⟩) := by rw [hwq.out]; exact hq2
              have hkk : (k : Int) ≤ (c9 : Int) := by omega
              clear hr1 hr2 hq1 hq2
              generalize ls.getD i [] = p at *
              go_wp2_with fail
              go_quiet (fail)
              go_wp2
              go_roundg (k - (i + 1))
              case measure => omega
              case rel => exact ⟨i + 1, n + nq, by omega, Nat.le_refl _, by go_num, Lib.hid (by rw [hwq.out, World.drewN_drewN])⟩
            · obtain rfl : i = k := by omega
              go_wp2
              go_ret
              exact ⟨rfl, by rw [hwq.out]; exact be_drewN HB2.out n⟩
end Go.Proofs.YtacmdpfidakkkaaGreatDoor

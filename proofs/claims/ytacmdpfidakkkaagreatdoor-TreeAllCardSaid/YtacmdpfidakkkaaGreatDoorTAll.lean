/-
  TreeAll, walked.
-/
import Derived.Test.YtacmdpfidakkkaaGreatDoorBegS
import Derived.Test.YtacmdpfidakkkaaGreatDoorLEnt
import Derived.Test.YtacmdpfidakkkaaGreatDoorMhi
import Derived.Test.YtacmdpfidakkkaaGreatDoorTTur
import Derived.Test.YtacmdpfidakkkaaGreatDoorMhj
import Derived.Test.YtacmdpfidakkkaaGreatDoorMgf
namespace Go.Proofs.YtacmdpfidakkkaaGreatDoor
open Go.RowKit

theorem ex_half (l : List UInt8) (n : Nat) : (ByteArray.mk l.toArray).extract 0 n = ⟨(l.take n).toArray⟩ := by
  rw [ByteArray.extract_mk]
  simp
/-- What Path tells, in one form. -/
def PathT (s : List UInt8) (e : Ending) (w' : World) : Prop := ∃ A c, e = .returned (.tuple #[.slice A (((pathV s).getD []).length) c, .bool (pathV s).isSome]) ∧ Arg w' A c (((pathV s).getD []).map S1)
theorem pathT_of {s : List UInt8} {e : Ending} {w' : World} (h : (∃ ps A c, pathV s = some ps ∧ e = .returned (.tuple #[.slice A (List.length ps) c, .bool true]) ∧ Arg w' A c (ps.map S1)) ∨ (pathV s = none ∧ e = .returned (.tuple #[.slice none 0 0, .bool false]))) : PathT s e w' := by
  rcases h with ⟨ps, A, c, hp, he, ha⟩ | ⟨hp, he⟩
  · exact ⟨A, c, by rw [hp]; exact he, by rw [hp]; exact ha⟩
  · refine ⟨none, 0, by rw [hp]; exact he, ?_⟩
    rw [hp]
    exact arg_nil w'
set_option maxRecDepth 100000 in
set_option maxHeartbeats 8000000 in
theorem tall_any (A : Option Addr) (c : Nat) (es : List En) (s nm : List UInt8) (w : World) (hE : Env w) (hT : Tens w) (hA : ArgE w A c es) (hnl : ∀ e ∈ es, e.name.length ≤ maxLen) :
    Calls Tryz.prog 3 #[.slice A es.length c, .string ⟨s.toArray⟩, .string ⟨nm.toArray⟩] w fun e w' => e = .returned (.bool true) ∧ Below w.heap.size w w' := by
  have HE := Lib.hid hE
  have HT := Lib.hid hT
  have HA := Lib.hid hA
  have hlc := hA.1
  have HNL := Lib.hid hnl
  clear hE hT hA hnl
  obtain ⟨m, hm, hm1, hm22⟩ : ∃ m, m = min es.length 22 ∧ m ≤ es.length ∧ m ≤ 22 := ⟨_, rfl, Nat.min_le_left _ _, Nat.min_le_right _ _⟩
  have hmin : ∀ W, (Builtin.min_ #[3, 3] 3 #[.int .i64 (es.length : Int), .int .i64 22]).run Tryz.prog W = .ok (.int .i64 (m : Int)) W := by
    intro W
    rw [run_min_int2]
    congr 2
    split <;> omega
  have hsl := slice_toM (P := Tryz.prog) (A := A) (c := c) 22 42 es.length m Tryz.underlying22 (by kernel_rfl) (by omega)
  clear hm
  go_enter Tryz.func3, Tryz.ntmps3
  go_wp2_with fail
  refine (begun6_any w HE.out HT.out).mono ?_
  rintro e w1 ⟨rfl, hb⟩
  have HB1 := Lib.hid hb
  have HA1 := Lib.hid ((HA.out.later hb).take m)
  clear hb HA HE HT
  obtain ⟨l, hl⟩ : ∃ l, l = es.take m := ⟨_, rfl⟩
  have hll : l.length = m := by rw [hl, List.length_take]; omega
  have HNM : Hid (∀ e ∈ l, e.name.length ≤ 9223372036854775807) := by
    intro e he
    rw [hl] at he
    have := HNL.out e (List.mem_of_mem_take he)
    unfold maxLen at this
    exact this
  rw [← hl] at HA1
  have HLL := Lib.hid hll
  clear hl hll HNL
  go_wp2_with fail
  refine wp_region_quiet_lit (by kernel_rfl) (by kernel_rfl) ?_
  repeat (first
    | go_big_quiet_step ((go_at_call 15; exact q_same (text_z _ _ _ (by decide)))))
  refine wpQuiet_nil ?_
  rintro _ ⟨nq, rfl⟩
  have HB2 := Lib.hid (be_drewN HB1.out nq)
  have HA2 : Hid (ArgE (w1.drewN nq) A c l) := HA1.out.later (be_drewN (Below.refl _ _) nq)
  have hs120 : (s.take 120).length ≤ 120 := by rw [List.length_take]; omega
  have hn50 : (nm.take 50).length ≤ 50 := by rw [List.length_take]; omega
  clear HB1 HA1 hmin hsl
  generalize w1.drewN nq = w2 at *
  rw [show (120 : Int).toNat = 120 from rfl, show (50 : Int).toNat = 50 from rfl]
  generalize s.take 120 = s' at *
  generalize nm.take 50 = nm' at *
  have hput := tput_any A c l w2 HA2.out (by have := HLL.out; omega)
  have hrm := fun W hW => rtmay_any A c l W hW (by have := HLL.out; omega) HNM.out
  have hmy := fun W hW => tmay_any A c l W hW (by have := HLL.out; omega)
  have hfi := fun W hW => tfind_any A c l nm' W hW (by have := HLL.out; omega)
  have hrt := fun W hW => rtree_any A c l W hW
  have HNA := Lib.hid fun W => name_any nm' W
  have HRN := Lib.hid fun W => rname_any nm' W (by omega)
  rw [HLL.out] at hput hrm hmy hfi hrt
  obtain ⟨T, hT⟩ : ∃ T, T = if mayT l then encT l else [] := ⟨_, rfl⟩
  have hTl : T.length ≤ 1100 := by
    rw [hT]
    split
    · exact mayT_bytes l (by assumption)
    · simp
  rw [← hT] at hput
  have HPUT := Lib.hid hput
  have HRM := Lib.hid hrm
  have HMY := Lib.hid hmy
  have HFI := Lib.hid hfi
  have HRT : Hid (∀ W, ArgE W A c l → mayT l = true → Calls Tryz.prog 21 #[.slice A m c] W fun e w' => e = .returned (.string ⟨T.toArray⟩) ∧ W = w') := by
    intro W hW hm9
    have h := hrt W hW hm9
    rw [hT, if_pos hm9]
    exact h
  have HTB : Hid (mayT l = false → (T == []) = true) := by intro h; rw [hT, h, if_neg (by decide)]; rfl
  have HTN : Hid (mayT l = false → (T != []) = false) := by intro h; rw [hT, h, if_neg (by decide)]; rfl
  clear hput hrm hmy hfi hrt hT
  go_wp2_with fail
  refine HPUT.out.mono ?_
  rintro e w3 ⟨rfl, hb⟩
  have HB3 := Lib.hid (HB2.out.trans (hb.mono HB2.out.size))
  have HA3 := Lib.hid (HA2.out.later hb)
  clear hb HPUT HA2 HB2
  go_wp2_with fail
  refine (HRM.out _ HA3.out).mono ?_
  rintro e w4 ⟨rfl, hb⟩
  have HB4 := Lib.hid (HB3.out.trans (hb.mono HB3.out.size))
  have HA4 := Lib.hid (HA3.out.later hb)
  clear hb HRM HA3 HB3
  have HCV : Hid (∀ W, (Instr.slice 9 (.string ⟨T.toArray⟩) none (some (.int .i64 ((T.length : Int) / 2))) none).run Tryz.prog W = .ok (.string ⟨(T.take (T.length / 2)).toArray⟩) W) := fun W => str_to T (T.length / 2) (by omega) W
  generalize okName nm' = okn at *
  cases hmv : mayT l
  all_goals
    rw [hmv] at HMY
    try have hTe := HTB.out hmv
    try have hTe2 := HTN.out hmv
    go_wp2_with fail
    refine (HMY.out _ HA4.out).mono ?_
    rintro e w5 ⟨rfl, hb⟩
    have HB5 := Lib.hid (HB4.out.trans (hb.mono HB4.out.size))
    have HA5 := Lib.hid (HA4.out.later hb)
    clear hb HMY HA4 HB4
    go_wp2_with (first
      | (go_at_call 19; refine (HNA.out _).mono ?_; rintro e w' ⟨rfl, rfl⟩)
      | (go_at_call 20; refine (HRN.out _).mono ?_; rintro e w' ⟨rfl, rfl⟩)
      | (go_at_call 21; refine (HRT.out _ HA5.out hmv).mono ?_; rintro e w' ⟨rfl, rfl⟩))
    rw [ex_half]
    have hth : (T.take (T.length / 2)).length ≤ 1100 := by rw [List.length_take]; omega
    have hsl : s'.length ≤ 1100 := by omega
    clear HCV hs120
    try clear hTe hTe2
    clear HTB HTN HRT HNA HRN
    generalize T.take (T.length / 2) = u at *
    obtain ⟨ts, hts0⟩ : ∃ ts, ts = [T, s', u] := ⟨_, rfl⟩
    have HTL : Hid (∀ i, (ts.getD i []).length ≤ 1100) := by
      intro i
      rw [hts0]
      match i with
      | 0 => exact hTl
      | 1 => exact hsl
      | 2 => exact hth
      | _ + 3 => simp
    have HTS : Hid (ts.length = 3) := by show _ = _; rw [hts0]; rfl
    have HRW : Hid (Whole (w5.alloc (.cells #[.string ⟨T.toArray⟩, .string ⟨s'.toArray⟩, .string ⟨u.toArray⟩] 9)) w5.heap.size 9 (ts.map S1).toArray) := by
      show Whole _ _ _ _
      rw [hts0]
      exact Whole.made w5 9 _
    have HB6 := Lib.hid (HB5.out.alloc HB5.out.size (.cells #[.string ⟨T.toArray⟩, .string ⟨s'.toArray⟩, .string ⟨u.toArray⟩] 9))
    have HA6 := Lib.hid (HA5.out.later ((Below.refl w5.heap.size w5).alloc (Nat.le_refl _) (.cells #[.string ⟨T.toArray⟩, .string ⟨s'.toArray⟩, .string ⟨u.toArray⟩] 9)))
    clear hts0 HB5 HA5 hTl hsl hth
    generalize w5.alloc (.cells #[.string ⟨T.toArray⟩, .string ⟨s'.toArray⟩, .string ⟨u.toArray⟩] 9) = w6 at *
    generalize w5.heap.size = g at *
    go_loopg [12, 13, 14, 15, 16, 86] 3 (fun g0 _ _ _ _ _ s86 wr => ∃ i : Nat, i ≤ 3 ∧ 3 - i ≤ g0 ∧ s86 = .int .i64 i ∧ Hid (Below w.heap.size w wr) ∧ Hid (ArgE wr A c l) ∧ Hid (Whole wr g 9 (ts.map S1).toArray))
    case atStart => exact ⟨0, by omega, by omega, rfl, HB6, HA6, HRW⟩
    case round =>
      rename World => wr
      obtain ⟨i, hi3, hg, rfl, hbw, haw, hrow⟩ := hrel
      by_cases hlt : i < 3
      · have hlt' : (i : Int) < 3 := by omega
        have hcell : wr.cell? ⟨g, i, none⟩ = some (.string ⟨(ts.getD i []).toArray⟩) := by
          rw [hrow.out.at_, List.getElem?_toArray, List.getElem?_map]
          have := HTS.out
          simp [List.getD, List.getElem?_eq_getElem (show i < ts.length by omega), S1]
        have htl := HTL.out i
        generalize ts.getD i [] = t at *
        have hrt := hrow.out.lt
        go_wp2_with fail
        refine (tget_any t wr (by omega)).mono ?_
        rintro e w8 ⟨hcase, hb⟩
        have HB8 := Lib.hid (hbw.out.trans (hb.mono hbw.out.size))
        have HL8 := Lib.hid (haw.out.later hb)
        have HR8 := Lib.hid (hrow.out.below hb hrt)
        clear hb hcell
        rcases hcase with ⟨es1, A1, c1, hg1, rfl, ha1, -⟩ | ⟨hg1, rfl⟩
        · have HG1 := Lib.hid hg1
          have HA8 := Lib.hid ha1
          clear hg1 ha1
          go_wp2_with fail
          refine (rgett_any t w8 (by omega)).mono ?_
          rintro e w9 ⟨(⟨es2, A2, c2, hg2, rfl, ha2⟩ | ⟨hg2, -⟩), hb⟩
          case inr =>
            rw [HG1.out] at hg2
            cases hg2
          obtain rfl : es1 = es2 := by have := HG1.out.symm.trans hg2; injection this
          have HB9 := Lib.hid (HB8.out.trans (hb.mono HB8.out.size))
          have HL9 := Lib.hid (HL8.out.later hb)
          have HR9 := Lib.hid (HR8.out.below hb HR8.out.lt)
          have HA9 := Lib.hid (HA8.out.later hb)
          have HA2 := Lib.hid ha2
          have hlents := lents_any A1 c1 A2 c2 es1 es1 w9 HA9.out HA2.out
          rw [show decide (es1 = es1) = true from decide_eq_true rfl] at hlents
          have HLE := Lib.hid hlents
          clear hb hg2 ha2 hlents
          go_wp2_with (first
            | (go_at_call 24; refine HLE.out.mono ?_; rintro e w10 ⟨rfl, q, hq⟩; have HQ := Lib.hid hq; clear hq))
          have HB10 : Hid (Below w.heap.size w w10) := by show Below _ _ _; rw [HQ.out]; exact be_drewN HB9.out q
          have HL10 : Hid (ArgE w10 A c l) := by show ArgE _ _ _ _; rw [HQ.out]; exact HL9.out.later (be_drewN (Below.refl _ _) q)
          have HR10 : Hid (Whole w10 g 9 (ts.map S1).toArray) := by show Whole _ _ _ _; rw [HQ.out]; exact HR9.out
          go_roundg (3 - (i + 1))
          case measure => omega
          case rel => exact ⟨i + 1, by omega, Nat.le_refl _, by go_num, HB10, HL10, HR10⟩
        · have HG1 := Lib.hid hg1
          clear hg1
          go_wp2_with fail
          refine (rgett_any t w8 (by omega)).mono ?_
          rintro e w9 ⟨(⟨es2, A2, c2, hg2, -, -⟩ | ⟨hg2, rfl⟩), hb⟩
          case inl =>
            rw [HG1.out] at hg2
            cases hg2
          have HB9 := Lib.hid (HB8.out.trans (hb.mono HB8.out.size))
          have HL9 := Lib.hid (HL8.out.later hb)
          have HR9 := Lib.hid (HR8.out.below hb HR8.out.lt)
          have hnil : ArgE w9 none 0 [] := ⟨Nat.le_refl _, Nat.zero_le _, fun _ => rfl, fun h => absurd h (Nat.lt_irrefl _)⟩
          have HLE := Lib.hid (lents_any none 0 none 0 [] [] w9 hnil hnil)
          clear hb hg2 hnil
          go_wp2_with (first
            | (go_at_call 24; refine HLE.out.mono ?_; rintro e w10 ⟨rfl, q, hq⟩; have HQ := Lib.hid hq; clear hq))
          have HB10 : Hid (Below w.heap.size w w10) := by show Below _ _ _; rw [HQ.out]; exact be_drewN HB9.out q
          have HL10 : Hid (ArgE w10 A c l) := by show ArgE _ _ _ _; rw [HQ.out]; exact HL9.out.later (be_drewN (Below.refl _ _) q)
          have HR10 : Hid (Whole w10 g 9 (ts.map S1).toArray) := by show Whole _ _ _ _; rw [HQ.out]; exact HR9.out
          go_roundg (3 - (i + 1))
          case measure => omega
          case rel => exact ⟨i + 1, by omega, Nat.le_refl _, by go_num, HB10, HL10, HR10⟩
      · obtain rfl : i = 3 := by omega
        clear HTL HTS HRW HB6 HA6 hrow
        go_wp2_with fail
        refine (tpath_any nm' wr (by omega)).mono ?_
        rintro e w7 ⟨hp, hb⟩
        obtain ⟨A7, c7, rfl, ha7⟩ := pathT_of hp
        have HB7 := Lib.hid (hbw.out.trans (hb.mono hbw.out.size))
        have HL7 := Lib.hid (haw.out.later hb)
        have HA7 := Lib.hid ha7
        clear hp hb ha7
        have HRP := Lib.hid (rpath_any nm' w7 (by omega))
        obtain ⟨ps, hps⟩ : ∃ ps, ps = (pathV nm').getD [] := ⟨_, rfl⟩
        obtain ⟨pb, hpb⟩ : ∃ pb, pb = (pathV nm').isSome := ⟨_, rfl⟩
        rw [← hps, ← hpb]
        rw [← hps] at HA7
        have HPS := Lib.hid hps
        have HPB := Lib.hid hpb
        clear hps hpb
        go_wp2_with fail
        refine HRP.out.mono ?_
        rintro e w8 ⟨hp, hb⟩
        obtain ⟨A8, c8, rfl, ha8⟩ := pathT_of hp
        rw [← HPS.out, ← HPB.out]
        rw [← HPS.out] at ha8
        have HB8 := Lib.hid (HB7.out.trans (hb.mono HB7.out.size))
        have HL8 := Lib.hid (HL7.out.later hb)
        have HA78 := Lib.hid (HA7.out.below hb (Nat.le_refl _))
        have HA8 := Lib.hid ha8
        have hpl : ps.length ≤ 9223372036854775807 := by
          have h1 := ha8.1
          have h2 := ha8.2.1
          rw [List.length_map] at h1
          unfold maxLen at h2
          omega
        have hkc7 : (ps.length : Int) ≤ (c7 : Int) := by have := HA7.out.1; rw [List.length_map] at this; omega
        have hkc8 : (ps.length : Int) ≤ (c8 : Int) := by have := HA8.out.1; rw [List.length_map] at this; omega
        clear hp hb ha8 HRP HPS HPB HA7
        go_wp2
        go_loopg [21, 141] ps.length (fun g0 _ s141 wq => ∃ i n : Nat, i ≤ ps.length ∧ ps.length - i ≤ g0 ∧ s141 = .int .i64 i ∧ Hid (wq = w8.drewN n))
        case atStart => exact ⟨0, 0, Nat.zero_le _, by omega, rfl, Lib.hid rfl⟩
        case round =>
          rename World => wq
          obtain ⟨i, n, hi2, hg2, rfl, hwq⟩ := hrel
          by_cases hlt2 : i < ps.length
          · have hlt2' : (i : Int) < (ps.length : Int) := by omega
            obtain ⟨g1, o1, rfl, hr1⟩ := HA78.out.spot (by rw [List.length_map]; omega)
            obtain ⟨g2, o2, rfl, hr2⟩ := HA8.out.spot (by rw [List.length_map]; omega)
            have hq1 : w8.cell? ⟨g1, o1 + i, none⟩ = some (.string ⟨(ps.getD i []).toArray⟩) := by
              refine hr1 i _ ?_
              rw [List.getElem?_map]
              simp [List.getD, List.getElem?_eq_getElem hlt2, S1]
            have hq2 : w8.cell? ⟨g2, o2 + i, none⟩ = some (.string ⟨(ps.getD i []).toArray⟩) := by
              refine hr2 i _ ?_
              rw [List.getElem?_map]
              simp [List.getD, List.getElem?_eq_getElem hlt2, S1]
            have c1 : wq.cell? ⟨g1, o1 + i, none⟩ = some (.string ⟨(ps.getD i []).toArray⟩) := by rw [hwq.out]; exact hq1
            have c2 : wq.cell? ⟨g2, o2 + i, none⟩ = some (.string ⟨(ps.getD i []).toArray⟩) := by rw [hwq.out]; exact hq2
            clear hr1 hr2 hq1 hq2
            generalize ps.getD i [] = p at *
            go_wp2_with fail
            go_quiet (fail)
            go_wp2
            go_roundg (ps.length - (i + 1))
            case measure => omega
            case rel => exact ⟨i + 1, n + nq, by omega, Nat.le_refl _, by go_num, Lib.hid (by rw [hwq.out, World.drewN_drewN])⟩
          · obtain rfl : i = ps.length := by omega
            have HB9 : Hid (Below w.heap.size w wq) := by show Below _ _ _; rw [hwq.out]; exact be_drewN HB8.out n
            have HL9 : Hid (ArgE wq A c l) := by show ArgE _ _ _ _; rw [hwq.out]; exact HL8.out.later (be_drewN (Below.refl _ _) n)
            clear hwq HA78 HA8 HB8 HL8
            obtain ⟨fo, hfo⟩ : ∃ fo, fo = findE l nm' := ⟨_, rfl⟩
            rw [← hfo] at HFI
            have HFO := Lib.hid hfo
            clear hfo
            go_wp2_with fail
            refine (HFI.out _ HL9.out).mono ?_
            rintro e w10 ⟨rfl, hb⟩
            have HB10 := Lib.hid (HB9.out.trans (hb.mono HB9.out.size))
            have HL10 := Lib.hid (HL9.out.later hb)
            clear hb HFI HL9 HB9
            obtain ⟨en, hen⟩ : ∃ en, en = fo.getD zE := ⟨_, rfl⟩
            obtain ⟨fb, hfb⟩ : ∃ fb, fb = fo.isSome := ⟨_, rfl⟩
            rw [← hen, ← hfb]
            have HEN := Lib.hid hen
            have HFB := Lib.hid hfb
            clear hen hfb
            go_wp2_with (refine wpList_store_whole rfl 42 _ _ rfl w10.heap.size (encE en).toArray rfl rfl 42 _ (Whole.made w10 _ _) (infoE_s en) (by rw [encE_size]; kernel_rfl) (encE_all en) ?_; intro w11 hWn hGn; have HW11 := Lib.hid hWn; have D11 := Lib.hid (made_below' hGn); clear hWn hGn)
            have HB11 := Lib.hid (HB10.out.trans (D11.out.mono HB10.out.size))
            have HL11 := Lib.hid (HL10.out.later D11.out)
            have HXE := Lib.hid (infoE_l en)
            have HRE := Lib.hid (whole_range HW11.out)
            clear D11 HB10 HL10
            generalize w10.heap.size = ge at *
            go_loopg [24, 162] m (fun g0 _ s162 wq => ∃ i : Nat, i ≤ m ∧ m - i ≤ g0 ∧ s162 = .int .i64 i ∧ wq = w11 ∧ Hid (fo = findE (l.drop i) nm'))
            case atStart => exact ⟨0, Nat.zero_le _, by omega, rfl, rfl, HFO⟩
            case round =>
              obtain ⟨i, hi2, hg2, rfl, rfl, hfk⟩ := hrel
              by_cases hlt2 : i < m
              · have hlt2' : (i : Int) < (m : Int) := by omega
                have hil : i < l.length := by have := HLL.out; omega
                obtain ⟨bb, o, rfl, hr⟩ := HL11.out.2.2.2 (by omega)
                have hrk := hr i hil
                have hnm := RowE.name hr hil
                have HFD := Lib.hid (findE_drop l nm' i hil)
                generalize l.getD i default = y at *
                have HRK := Lib.hid hrk
                have HYE := Lib.hid (infoE_l y)
                clear hr hrk
                cases hq : y.name == nm' with
                | true =>
                  have hfs : fo = some y := by rw [hfk.out, HFD.out, hq]; rfl
                  have hey : en = y := by rw [HEN.out, hfs]; rfl
                  have hft : fb = true := by rw [HFB.out, hfs]; rfl
                  subst hey hft
                  have heq : ∀ W, (binOp .eql 42 (.agg (encE en).toArray) (.agg (encE en).toArray)).run Tryz.prog W = .ok (.bool true) W := by
                    intro W
                    rw [eql_en]
                    simp
                  have HR1 : Hid (∀ W, (∃ n, W = wr.drewN n) → W.rangeAt bb (o + i * 34) (encE en)) := by rintro W ⟨n, rfl⟩; exact HRK.out
                  have HR2 : Hid (∀ W, (∃ n, W = wr.drewN n) → W.rangeAt ge 0 (encE en)) := by rintro W ⟨n, rfl⟩; exact HRE.out
                  clear hfs
                  go_wp2_with fail
                  refine wp_region_quiet_lit (by kernel_rfl) (by kernel_rfl) ?_
                  repeat (first
                    | go_big_quiet_step (fail)
                    | (refine q_loadm _ _ rfl (by rfl) ge 0 (encE en) rfl _ Tryz.underlying42 rfl HXE.out HR2.out ?_; simp only [Act.put]; go_simp)
                    | (refine q_loadm _ _ rfl (by rfl) bb (o + i * 34) (encE en) rfl _ Tryz.underlying42 rfl HXE.out HR1.out ?_; simp only [Act.put]; go_simp))
                  refine wpQuiet_nil ?_
                  intro nq
                  go_wp2
                  go_ret
                  exact ⟨rfl, be_drewN HB11.out nq⟩
                | false =>
                  have HF : Hid (fo = findE (l.drop (i + 1)) nm') := by show _ = _; rw [hfk.out, HFD.out, hq]; rfl
                  go_wp2
                  go_roundg (m - (i + 1))
                  case measure => omega
                  case rel => exact ⟨i + 1, by omega, Nat.le_refl _, by go_num, rfl, HF⟩
              · obtain rfl : i = m := by omega
                have hfn : fo = none := by
                  rw [hfk.out, List.drop_eq_nil_of_le (by have := HLL.out; omega)]
                  rfl
                have hez : en = zE := by rw [HEN.out, hfn]; rfl
                have hff : fb = false := by rw [HFB.out, hfn]; rfl
                subst hez hff
                have hlit : (encE zE).toArray = (#[Value.string ⟨#[]⟩, Value.bool false, Value.int IntKind.u8 0, Value.int IntKind.u8 0, Value.int IntKind.u8 0, Value.int IntKind.u8 0, Value.int IntKind.u8 0, Value.int IntKind.u8 0, Value.int IntKind.u8 0, Value.int IntKind.u8 0, Value.int IntKind.u8 0, Value.int IntKind.u8 0, Value.int IntKind.u8 0, Value.int IntKind.u8 0, Value.int IntKind.u8 0, Value.int IntKind.u8 0, Value.int IntKind.u8 0, Value.int IntKind.u8 0, Value.int IntKind.u8 0, Value.int IntKind.u8 0, Value.int IntKind.u8 0, Value.int IntKind.u8 0, Value.int IntKind.u8 0, Value.int IntKind.u8 0, Value.int IntKind.u8 0, Value.int IntKind.u8 0, Value.int IntKind.u8 0, Value.int IntKind.u8 0, Value.int IntKind.u8 0, Value.int IntKind.u8 0, Value.int IntKind.u8 0, Value.int IntKind.u8 0, Value.int IntKind.u8 0, Value.int IntKind.u8 0] : Array Value) := by kernel_rfl
                have heq : ∀ W, (binOp .eql 42 (.agg (encE zE).toArray) (.agg #[Value.string ⟨#[]⟩, Value.bool false, Value.int IntKind.u8 0, Value.int IntKind.u8 0, Value.int IntKind.u8 0, Value.int IntKind.u8 0, Value.int IntKind.u8 0, Value.int IntKind.u8 0, Value.int IntKind.u8 0, Value.int IntKind.u8 0, Value.int IntKind.u8 0, Value.int IntKind.u8 0, Value.int IntKind.u8 0, Value.int IntKind.u8 0, Value.int IntKind.u8 0, Value.int IntKind.u8 0, Value.int IntKind.u8 0, Value.int IntKind.u8 0, Value.int IntKind.u8 0, Value.int IntKind.u8 0, Value.int IntKind.u8 0, Value.int IntKind.u8 0, Value.int IntKind.u8 0, Value.int IntKind.u8 0, Value.int IntKind.u8 0, Value.int IntKind.u8 0, Value.int IntKind.u8 0, Value.int IntKind.u8 0, Value.int IntKind.u8 0, Value.int IntKind.u8 0, Value.int IntKind.u8 0, Value.int IntKind.u8 0, Value.int IntKind.u8 0, Value.int IntKind.u8 0])).run Tryz.prog W = .ok (.bool true) W := by
                  intro W
                  rw [← hlit, eql_en]
                  simp
                clear hlit
                go_wp2_with (first
                  | (refine wpList_load_mid_on 42 _ rfl ge 0 rfl (by rfl) (encE zE) _ HRE.out Tryz.underlying42 rfl HXE.out ?_)
                  | (refine wpList_load_mid rfl 42 _ rfl ge 0 rfl (encE zE) _ HRE.out Tryz.underlying42 rfl HXE.out ?_))
                go_ret
                exact ⟨rfl, HB11.out⟩
end Go.Proofs.YtacmdpfidakkkaaGreatDoor

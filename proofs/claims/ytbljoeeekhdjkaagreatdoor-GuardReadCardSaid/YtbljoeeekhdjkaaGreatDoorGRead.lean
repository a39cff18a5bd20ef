/-
  GuardRead, walked.
-/
import Derived.Test.YtbljoeeekhdjkaaGreatDoorArg
import Derived.Test.YtbljoeeekhdjkaaGreatDoorRBytes
import Derived.Deep.QuietTactic
import Derived.BigQuiet
namespace Go.Proofs.YtbljoeeekhdjkaaGreatDoor
open Go.RowKit

theorem rbytes_neg (b : Nat) (n : Int) (w : World) (hn : n < 0) : Calls Tryz.prog 30 #[.pointer (some ⟨b, 0, none⟩), .int .i64 n] w fun e w' => e = .panicked (fault 1) ∧ w = w' := by
  have HT := Lib.hid (take_neg (.pointer (some ⟨b, 0, none⟩)) n w hn)
  clear hn
  go_enter Tryz.func30, Tryz.ntmps30
  go_wp2_with fail
  refine HT.out.mono ?_
  rintro e w' ⟨rfl, rfl⟩
  exact ⟨rfl, rfl, rfl⟩
theorem rbytes_more (b : Nat) (s : List UInt8) (n : Int) (w : World) (h : Rd w b s) (hn : (s.length : Int) < n) : Calls Tryz.prog 30 #[.pointer (some ⟨b, 0, none⟩), .int .i64 n] w fun e w' => e = .panicked (fault 2) ∧ w = w' := by
  have HT := Lib.hid (take_more b s n w h hn)
  clear hn h
  go_enter Tryz.func30, Tryz.ntmps30
  go_wp2_with fail
  refine HT.out.mono ?_
  rintro e w' ⟨rfl, rfl⟩
  exact ⟨rfl, rfl, rfl⟩

/-- What reading so many of these bytes tells. -/
def readV (n : Int) (s : List UInt8) : Int := if n < 0 then 1 else if (s.length : Int) < n then 2 else 0
theorem gr1_enters (caps : Array Value) (W : World) : (callFunc 27 caps).run Tryz.prog W = .ok (.enter 27 caps) W := enters_of Tryz.func27 (by kernel_rfl) rfl _ _
theorem gr2_enters (caps : Array Value) (W : World) : (callFunc 29 caps).run Tryz.prog W = .ok (.enter 29 caps) W := enters_of Tryz.func29 (by kernel_rfl) rfl _ _

/-- What stands behind a read that went well. -/
structure Got (W w' : World) (rb bg : Nat) (t s : List UInt8) : Prop where
  alt : Alt (fun j => j = rb ∨ j = bg) W w'
  rd : Rd w' rb s
  got : ∃ g c, Whole w' bg 22 #[.slice (some ⟨g, 0, none⟩) t.length c] ∧ Row w' (some ⟨g, 0, none⟩) c t ∧ W.heap.size ≤ g
theorem bad1 (br rb bg : Nat) (W : World) (hb : Whole W br 40 #[.pointer (some ⟨rb, 0, none⟩)]) (hr : Rd W rb []) :
    Calls Tryz.prog 27 #[.pointer (some ⟨br, 0, none⟩), .pointer (some ⟨bg, 0, none⟩)] W fun e w' => e = .panicked (fault 2) ∧ W = w' := by
  have hc : W.cell? ⟨br, 0, none⟩ = some (.pointer (some ⟨rb, 0, none⟩)) := (hb.at_ 0).trans rfl
  have HR := Lib.hid (byte_more rb W hr)
  clear hb hr
  go_enter Tryz.func27, Tryz.ntmps27
  go_wp2_with fail
  refine HR.out.mono ?_
  rintro e w' ⟨rfl, rfl⟩
  exact ⟨rfl, rfl, rfl⟩
theorem good1 (br rb bg : Nat) (v0 : Value) (x : UInt8) (s : List UInt8) (W : World) (hb : Whole W br 40 #[.pointer (some ⟨rb, 0, none⟩)]) (hr : Rd W rb (x :: s)) (hg : Whole W bg 22 #[v0]) (h1 : rb ≠ bg) :
    Calls Tryz.prog 27 #[.pointer (some ⟨br, 0, none⟩), .pointer (some ⟨bg, 0, none⟩)] W fun e w' => e = .returned (.tuple #[]) ∧ Got W w' rb bg [x] s := by
  have hc : W.cell? ⟨br, 0, none⟩ = some (.pointer (some ⟨rb, 0, none⟩)) := (hb.at_ 0).trans rfl
  have HR := Lib.hid (byte_some rb x s W hr)
  have HG := Lib.hid hg
  have hglt := hg.lt
  clear hb hr hg
  go_enter Tryz.func27, Tryz.ntmps27
  go_wp2_with fail
  refine HR.out.mono ?_
  rintro e w1 ⟨rfl, hgr, hrd⟩
  have HGR := Lib.hid hgr
  have HRD := Lib.hid hrd
  have HG1 := Lib.hid (HG.out.grown hgr (by intro e; injection e with e; exact h1 e.symm))
  have hsz := hgr.size
  have hc1 := ((HG1.out.past (.cells #[.int .u8 (x.toNat : Int)] 5)).at_ 0).trans (rfl : _ = some v0)
  have hz1 := (HG1.out.past (.cells #[.int .u8 (x.toNat : Int)] 5)).thawed 0
  clear hgr hrd
  go_wp2
  have hrb := HRD.out.lt
  refine bodyPost_end (results_none rfl _ _ _) rfl ⟨rfl, ?_, ?_, ?_⟩
  · have a1 : Alt (fun j => j = rb ∨ j = bg) W w1 := Alt.of_grown HGR.out (fun j hj => by injection hj with hj; exact .inl hj.symm)
    exact Alt.set (p := ⟨bg, 0, none⟩) (a1.alloc _) (.inl (.inr rfl)) _
  · exact Whole.aside (Whole.past HRD.out _) (by show _ ≠ _; dsimp only; exact h1) _
  · refine ⟨_, _, (HG1.out.past _).put 0 _, ?_, hsz⟩
    have hm := (Whole.made w1 5 #[.int .u8 (x.toNat : Int)]).aside (p := ⟨bg, 0, none⟩) (by show _ ≠ _; dsimp only; have := HG1.out.lt; omega) (.slice (some ⟨w1.heap.size, 0, none⟩) 1 1)
    exact Row.of_whole (bs := [x]) (sp := []) (c := 1) hm (Nat.le_refl _) (by unfold maxLen; omega)

theorem bad2 (br rb bn bg : Nat) (n : Int) (s : List UInt8) (W : World) (hb : Whole W br 40 #[.pointer (some ⟨rb, 0, none⟩)]) (hr : Rd W rb s) (hn : Whole W bn 3 #[.int .i64 n]) (hne : readV n s ≠ 0) :
    Calls Tryz.prog 29 #[.pointer (some ⟨br, 0, none⟩), .pointer (some ⟨bn, 0, none⟩), .pointer (some ⟨bg, 0, none⟩)] W fun e w' => e = .panicked (fault (readV n s)) ∧ W = w' := by
  have hc : W.cell? ⟨br, 0, none⟩ = some (.pointer (some ⟨rb, 0, none⟩)) := (hb.at_ 0).trans rfl
  have hcn : W.cell? ⟨bn, 0, none⟩ = some (.int .i64 n) := (hn.at_ 0).trans rfl
  have HR : Hid (Calls Tryz.prog 30 #[.pointer (some ⟨rb, 0, none⟩), .int .i64 n] W fun e w' => e = .panicked (fault (readV n s)) ∧ W = w') := by
    unfold readV at hne ⊢
    by_cases h1 : n < 0
    · rw [if_pos h1]
      exact rbytes_neg rb n W h1
    · rw [if_neg h1] at hne ⊢
      by_cases h2 : (s.length : Int) < n
      · rw [if_pos h2]
        exact rbytes_more rb s n W hr h2
      · rw [if_neg h2] at hne
        exact absurd rfl hne
  clear hb hr hn hne
  generalize readV n s = c at *
  go_enter Tryz.func29, Tryz.ntmps29
  go_wp2_with fail
  refine HR.out.mono ?_
  rintro e w' ⟨rfl, rfl⟩
  exact ⟨rfl, rfl, rfl⟩
theorem good2 (br rb bn bg n : Nat) (v0 : Value) (s : List UInt8) (W : World) (hb : Whole W br 40 #[.pointer (some ⟨rb, 0, none⟩)]) (hr : Rd W rb s) (hn : Whole W bn 3 #[.int .i64 (n : Int)]) (hg : Whole W bg 22 #[v0])
    (hl : n ≤ s.length) (hl2 : n ≤ 1048576) (h1 : rb ≠ bg) :
    Calls Tryz.prog 29 #[.pointer (some ⟨br, 0, none⟩), .pointer (some ⟨bn, 0, none⟩), .pointer (some ⟨bg, 0, none⟩)] W fun e w' => e = .returned (.tuple #[]) ∧ Got W w' rb bg (s.take n) (s.drop n) := by
  have hc : W.cell? ⟨br, 0, none⟩ = some (.pointer (some ⟨rb, 0, none⟩)) := (hb.at_ 0).trans rfl
  have hcn : W.cell? ⟨bn, 0, none⟩ = some (.int .i64 (n : Int)) := (hn.at_ 0).trans rfl
  have HR := Lib.hid (rbytes_some rb s n W hr hl hl2)
  have HG := Lib.hid hg
  have hglt := hg.lt
  have HLT : Hid ((s.take n).length = n) := by show _ = _; rw [List.length_take]; omega
  clear hb hr hg hn hl
  generalize s.take n = t at *
  generalize s.drop n = s2 at *
  go_enter Tryz.func29, Tryz.ntmps29
  go_wp2_with fail
  refine HR.out.mono ?_
  rintro e w1 ⟨g, c, rfl, hrow, halt, hrd, hge⟩
  have HROW := Lib.hid hrow
  have HALT := Lib.hid halt
  have HRD := Lib.hid hrd
  have HG1 := Lib.hid (HG.out.alt halt (fun e => h1 e.symm))
  have hc1 := (HG1.out.at_ 0).trans (rfl : _ = some v0)
  have hz1 := HG1.out.thawed 0
  clear hrow halt hrd
  go_wp2
  have a1 : Alt (fun j => j = rb ∨ j = bg) W w1 := HALT.out.mono (fun k _ e => .inl e)
  refine bodyPost_end (results_none rfl _ _ _) rfl ⟨rfl, Alt.set (p := ⟨bg, 0, none⟩) a1 (.inl (.inr rfl)) _, Whole.aside HRD.out (by show _ ≠ _; dsimp only; exact h1) _, ?_⟩
  refine ⟨g, c, by rw [HLT.out]; exact HG1.out.put 0 _, ?_, hge⟩
  exact HROW.out.alt (R := (· = bg)) (Alt.set (R := (· = bg)) (p := ⟨bg, 0, none⟩) (Alt.refl _ w1) (.inl rfl) (.slice (some ⟨g, 0, none⟩) n c)) (by
    rintro j ⟨a, ha, rfl⟩ hj
    cases ha
    have hj' : g = bg := hj
    omega)

section
variable (G : Nat) (caps : Array Value) (w : World) (he : ∀ W, (callFunc G caps).run Tryz.prog W = .ok (.enter G caps) W)
include he
theorem do_bad (c : Int) (h : Calls Tryz.prog G caps (w.alloc (.cells #[.int .i64 0] 34)) fun e w' => e = .panicked (fault c) ∧ w.alloc (.cells #[.int .i64 0] 34) = w') :
    Calls Tryz.prog 21 #[.func (.func G) #[] caps] w fun e w' => e = .returned (.int .i64 c) ∧ Below w.heap.size w w' := by
  refine (do_fault_q G caps w (fun _ => False) (fun _ => True) c he (fun h => h) (fun _ _ _ _ _ => trivial) (h.mono ?_)).mono ?_
  · rintro e w' ⟨rfl, rfl⟩
    exact ⟨rfl, Alt.refl _ _, trivial⟩
  · rintro e w' ⟨rfl, hA, -⟩
    exact ⟨rfl, hA.none⟩
theorem do_got (rb bg : Nat) (t s : List UInt8) (h1 : rb < w.heap.size) (h2 : bg < w.heap.size)
    (h : Calls Tryz.prog G caps (w.alloc (.cells #[.int .i64 0] 34)) fun e w' => e = .returned (.tuple #[]) ∧ Got (w.alloc (.cells #[.int .i64 0] 34)) w' rb bg t s) :
    Calls Tryz.prog 21 #[.func (.func G) #[] caps] w fun e w' => e = .returned (.int .i64 0) ∧ Got w w' rb bg t s := by
  refine (do_ret_q G caps w (fun j => j = rb ∨ j = bg) (fun w' => Rd w' rb s ∧ ∃ g c, Whole w' bg 22 #[.slice (some ⟨g, 0, none⟩) t.length c] ∧ Row w' (some ⟨g, 0, none⟩) c t ∧ w.heap.size < g) he (by omega) ?_ (h.mono ?_)).mono ?_
  · rintro u1 u2 _ ⟨hr, g, c, hw, hrow, hg⟩ hA
    refine ⟨Whole.alt hr hA (by omega), g, c, hw.alt hA (by omega), hrow.alt hA ?_, hg⟩
    rintro j ⟨a, ha, rfl⟩ hj
    cases ha
    have hj' : g = w.heap.size := hj
    omega
  · rintro e w' ⟨rfl, hG⟩
    obtain ⟨g, c, hw, hrow, hg⟩ := hG.got
    exact ⟨rfl, hG.alt, hG.rd, g, c, hw, hrow, by simp at hg; omega⟩
  · rintro e w' ⟨rfl, hA, hr, g, c, hw, hrow, hg⟩
    exact ⟨rfl, hA, hr, g, c, hw, hrow, Nat.le_of_lt hg⟩
end

set_option maxRecDepth 100000 in
theorem row_sub {w : World} {A : Option Addr} {c m : Nat} {l : List UInt8} (h : Row w A c l) (hm : l.length = m) (a n : Nat) (hn : a + n ≤ m) :
    ∃ v, (∀ W, (Instr.slice 22 (.slice A m c) (some (.int .i64 (a : Int))) (some (.int .i64 ((a : Int) + (n : Int)))) none).run Tryz.prog W = .ok v W) ∧ Bytes w v ((l.drop a).take n) := by
  obtain ⟨h1, h2, h3⟩ := h
  have hlt : ((l.drop a).take n).length = n := by rw [List.length_take, List.length_drop]; omega
  have hel : Tryz.prog.elem 22 = 5 := by simp [Program.elem, Tryz.underlying22]
  have hrun : ∀ W, (Instr.slice 22 (.slice A m c) (some (.int .i64 (a : Int))) (some (.int .i64 ((a : Int) + (n : Int)))) none).run Tryz.prog W = .ok (.slice (if c = a then A else A.map (·.add a)) n (c - a)) W := by
    intro W
    have h := run_slice_lh (P := Tryz.prog) (w := W) (t := 22) (a := A) (len := m) (cap := c) (by rw [hel]; exact Tryz.underlying22) .i64 .i64 (a : Int) ((a : Int) + (n : Int)) (by omega) (by omega) (by omega)
    rw [h, hel]
    obtain ⟨bi, hbi, hz0, hz1, hz2⟩ := info_parts infoB
    have e1 : ((a : Int) + (n : Int)).toNat = a + n := by omega
    simp [sizeOf, typeInfo, hbi, hz1, sliced, e1]
  refine ⟨_, hrun, _, _, by rw [hlt], by rw [hlt]; omega, by omega, fun h0 => ?_⟩
  rw [hlt] at h0
  obtain ⟨g, rfl, hg, hc⟩ := h3 (by omega)
  have hca : ¬ c = a := by omega
  refine ⟨g, a, by rw [if_neg hca]; simp [Addr.add]; omega, fun i hi => ?_⟩
  rw [hlt] at hi
  rw [(hc (a + i) (by omega)).1]
  congr 2
  simp only [List.getD, List.getElem?_take, if_pos hi, List.getElem?_drop]
set_option maxRecDepth 100000 in
set_option maxHeartbeats 4000000 in
theorem gread_any (A : Option Addr) (c : Nat) (bs : List UInt8) (A1 : Option Addr) (c1 : Nat) (ns : List Int) (w : World) (hE : Env w) (hA : Arg w A c (bs.map Y)) (hN : Arg w A1 c1 (ns.map (Value.int .i64))) :
    Calls Tryz.prog 6 #[.slice A bs.length c, .slice A1 ns.length c1] w fun e w' => e = .returned (.bool true) ∧ Below w.heap.size w w' := by
  have hmf : ∀ (fn : Fn) (first cap : Array Value) (w : World), (Instr.makeFunc fn first cap).run Tryz.prog w = .ok (.func fn first cap) w := fun _ _ _ _ => rfl
  have HE := Lib.hid hE
  have HA := Lib.hid hA
  have HN := Lib.hid hN
  have hlc : bs.length ≤ c := by have := hA.1; simpa using this
  obtain ⟨m, hm, hm1, hm2⟩ : ∃ m, m = min bs.length 60 ∧ m ≤ bs.length ∧ m ≤ 60 := ⟨_, rfl, by omega, by omega⟩
  have hmin : ∀ W, (Builtin.min_ #[3, 3] 3 #[.int .i64 (bs.length : Int), .int .i64 60]).run Tryz.prog W = .ok (.int .i64 (m : Int)) W := by
    intro W
    rw [run_min_int2]
    congr 2
    split <;> omega
  have hsl := slice_to (P := Tryz.prog) (A := A) (c := c) 22 5 bs.length m Tryz.underlying22 (by kernel_rfl) (by omega)
  clear hE hA hm hN
  go_enter Tryz.func6, Tryz.ntmps6
  go_wp2_with fail
  refine (begun_any _ HE.out).mono ?_
  rintro e w1 ⟨rfl, hB⟩
  have HB := Lib.hid hB
  clear hB
  have HA1 := Lib.hid ((HA.out.take m).below HB.out (Nat.le_refl _))
  have hbl : (bs.take m).length = m := by rw [List.length_take]; omega
  rw [← List.map_take] at HA1
  generalize bs.take m = l at *
  have HL := Lib.hid hbl
  clear hbl
  go_wp2_with (at_builtin; refine wpList_bcopy rfl _ _ rfl rfl A c l (by rw [HL.out]; rfl) HA1.out (by rw [HL.out]; omega) ?_; intro v' w2 hown hbe; obtain ⟨A2, c2, rfl, hrow, hge⟩ := Row.of_own hown; have HROW := Lib.hid hrow; have HGE := Lib.hid hge; have HB2 := Lib.hid (HB.out.trans (hbe.mono HB.out.size)); have hs2 := hbe.size; rw [HL.out]; clear hown hrow hge hbe)
  have hby2 := HROW.out.bytes
  rw [HL.out] at hby2
  refine (gnew_any _ l _ (by rw [← HL.out] at hby2 ⊢; exact hby2)).mono ?_
  rintro e w3 ⟨rfl, hbe, hrd, hs3⟩
  have HRD := Lib.hid hrd
  have HROW3 := Lib.hid (HROW.out.below hbe)
  have HB3 := Lib.hid (HB2.out.trans (hbe.mono HB2.out.size))
  clear hbe hrd hby2 hsl hmin
  go_wp2_with fail
  have hbr := Whole.made w3 40 #[.pointer (some ⟨w2.heap.size, 0, none⟩)]
  have hB4 := (Below.refl w3.heap.size w3).alloc (Nat.le_refl _) (.cells #[.pointer (some ⟨w2.heap.size, 0, none⟩)] 40)
  have hrd4 := HRD.out.past (.cells #[.pointer (some ⟨w2.heap.size, 0, none⟩)] 40)
  have hrow4 := HROW3.out.past (.cells #[.pointer (some ⟨w2.heap.size, 0, none⟩)] 40)
  have hs4 : (w3.alloc (.cells #[.pointer (some ⟨w2.heap.size, 0, none⟩)] 40)).heap.size = w2.heap.size + 1 + 1 := by simp; omega
  rw [hs3] at hbr hB4
  generalize w3.alloc (.cells #[.pointer (some ⟨w2.heap.size, 0, none⟩)] 40) = w4 at *
  have HBR := Lib.hid hbr
  have HRD4 : Hid (Rd w4 w2.heap.size l) := hrd4
  have HROW4 := Lib.hid hrow4
  have hs0 := HB3.out.size
  have hs0' := HB2.out.size
  have HB4 := Lib.hid (HB3.out.trans (hB4.mono (by omega)))
  clear hbr hB4 hrd4 hrow4 HRD HROW3 HROW
  go_loopw [7, 8] (fun a i wr => ∃ k at_ : Nat, k ≤ ns.length ∧ k ≤ 40 ∧ at_ ≤ m ∧ a = .int .i64 (at_ : Int) ∧ i = .int .i64 (k : Int) ∧ Alt (· = w2.heap.size) w4 wr ∧ Rd wr w2.heap.size (l.drop at_)) (fun _ i _ => 40 - (intOf i).toNat)
  case atStart => exact ⟨0, 0, by omega, by omega, by omega, rfl, rfl, Alt.refl _ _, HRD4.out⟩
  case round =>
    obtain ⟨k, at_, hk, hk40, hat, rfl, rfl, halt, hrd⟩ := hrel
    have HALT := Lib.hid halt
    have HRD := Lib.hid hrd
    have HBR1 := Lib.hid (HBR.out.alt halt (by omega))
    have HROW1 := Lib.hid (HROW4.out.alt halt (by intro j hj; have := (HGE.out j hj).2; omega))
    have HBW := Lib.hid (HB4.out.trans (halt.to (B := w.heap.size) (by intro j hj; omega) (by omega)))
    have hwr := halt.size
    clear halt hrd
    by_cases hlt : k < ns.length
    · by_cases hlt40 : k < 40
      · obtain ⟨g, off, rfl, hcell⟩ := (HN.out.below HBW.out (Nat.le_refl _)).spot (by simp; omega)
        have hcn : wr.cell? ⟨g, off + k, none⟩ = some (.int .i64 (ns.getD k 0)) := hcell k _ (by simp [List.getElem?_eq_getElem hlt])
        clear hcell
        generalize ns.getD k 0 = n at *
        obtain ⟨wb, hwb, hbn, hbg, hbB, hbs⟩ : ∃ wb, wb = (wr.alloc (.cells #[.int .i64 n] 3)).alloc (.cells #[.slice none 0 0] 22) ∧ Whole wb wr.heap.size 3 #[.int .i64 n] ∧ Whole wb (wr.heap.size + 1) 22 #[.slice none 0 0] ∧ Below wr.heap.size wr wb ∧ wb.heap.size = wr.heap.size + 1 + 1 := by
          refine ⟨_, rfl, (Whole.made _ _ _).past _, ?_, ((Below.refl _ _).alloc (Nat.le_refl _) _).alloc (by simp) _, by simp⟩
          have h := Whole.made (wr.alloc (.cells #[.int .i64 n] 3)) 22 #[.slice none 0 0]
          simpa using h
        have hrb := HRD.out.below hbB HRD.out.lt
        have hbr := HBR1.out.below hbB HBR1.out.lt
        have hbrlt := HBR1.out.lt
        have HRb := Lib.hid hrb
        have HBRb := Lib.hid hbr
        have HROWb := Lib.hid (HROW1.out.below hbB)
        have hsl : (l.drop at_).length = m - at_ := by rw [List.length_drop, HL.out]
        have k40 : decide ((k : Int) < 40) = true := by simp; omega
        have HALTb := Lib.hid (HALT.out.below hbB)
        have HBN := Lib.hid hbn
        have HBG := Lib.hid hbg
        clear hrb hbr hbB hbn hbg HRD
        have HDR : Hid (∀ n : Nat, (l.drop at_).drop n = l.drop (at_ + n)) := fun n => by rw [List.drop_drop]
        obtain ⟨s, hse⟩ : ∃ s, s = l.drop at_ := ⟨_, rfl⟩
        rw [← hse] at HRb HDR hsl
        have HSE := Lib.hid hse
        clear hse
        by_cases hneg : n < 0
        · have HD := Lib.hid (do_bad 29 #[.pointer (some ⟨w2.heap.size + 1, 0, none⟩), .pointer (some ⟨wr.heap.size, 0, none⟩), .pointer (some ⟨wr.heap.size + 1, 0, none⟩)] wb (gr2_enters _) _ (bad2 _ _ _ _ n _ _ (HBRb.out.past _) (Whole.past HRb.out _) (HBN.out.past _) (by simp [readV, hneg])))
          rw [show readV n s = 1 by simp [readV, hneg]] at HD
          have hn1 : (n == 1) = false := beq_eq_false_iff_ne.2 (by omega)
          have hlen2 : ((s.length : Int) != (m : Int) - (at_ : Int)) = false := by rw [hsl]; simp; omega
          clear hsl
          go_wp2_with fail
          rw [← hwb]
          refine HD.out.mono ?_
          rintro e w6 ⟨rfl, hB6⟩
          have HN6 := Lib.hid (HBN.out.below hB6 HBN.out.lt)
          have HBR6 := Lib.hid (HBRb.out.below hB6 HBRb.out.lt)
          have HRD6 := Lib.hid (Whole.below HRb.out hB6 HRb.out.lt)
          have HALT6 := Lib.hid (HALTb.out.below hB6)
          have cn6 : w6.cell? ⟨wr.heap.size, 0, none⟩ = some (.int .i64 n) := (HN6.out.at_ 0).trans rfl
          have cr6 : w6.cell? ⟨w2.heap.size + 1, 0, none⟩ = some (.pointer (some ⟨w2.heap.size, 0, none⟩)) := (HBR6.out.at_ 0).trans rfl
          clear hB6 hwb
          go_wp2_with fail
          go_quiet (fail)
          go_wp2_with fail
          refine (left_any w2.heap.size s _ (Whole.drewN HRD6.out _)).mono ?_
          rintro e w' ⟨rfl, rfl⟩
          go_wp2
          go_roundw
          case rel => exact ⟨k + 1, at_, by omega, by omega, hat, rfl, by go_num, HALT6.out.drewN _, by rw [← HSE.out]; exact Whole.drewN HRD6.out _⟩
          case measure => simp [intOf]; omega
        · by_cases hmore : (s.length : Int) < n
          · have hr2 : readV n s = 2 := by simp [readV, hneg, hmore]
            have hlen2 : ((s.length : Int) != (m : Int) - (at_ : Int)) = false := by rw [hsl]; simp; omega
            have hmore2 : (m : Int) - (at_ : Int) < n := by omega
            by_cases h1 : n = 1
            · subst h1
              obtain rfl : s = [] := List.length_eq_zero_iff.1 (by omega)
              have HD := Lib.hid (do_bad 27 #[.pointer (some ⟨w2.heap.size + 1, 0, none⟩), .pointer (some ⟨wr.heap.size + 1, 0, none⟩)] wb (gr1_enters _) _ (bad1 (w2.heap.size + 1) w2.heap.size (wr.heap.size + 1) _ (HBRb.out.past _) (Whole.past HRb.out _)))
              clear hr2 hsl hmore hneg
              go_wp2_with fail
              rw [← hwb]
              refine HD.out.mono ?_
              rintro e w6 ⟨rfl, hB6⟩
              have HN6 := Lib.hid (HBN.out.below hB6 HBN.out.lt)
              have HBR6 := Lib.hid (HBRb.out.below hB6 HBRb.out.lt)
              have HRD6 := Lib.hid (Whole.below HRb.out hB6 HRb.out.lt)
              have HALT6 := Lib.hid (HALTb.out.below hB6)
              have cn6 : w6.cell? ⟨wr.heap.size, 0, none⟩ = some (.int .i64 1) := (HN6.out.at_ 0).trans rfl
              have cr6 : w6.cell? ⟨w2.heap.size + 1, 0, none⟩ = some (.pointer (some ⟨w2.heap.size, 0, none⟩)) := (HBR6.out.at_ 0).trans rfl
              clear hB6 hwb
              go_wp2_with fail
              go_quiet (fail)
              go_wp2_with fail
              refine (left_any w2.heap.size [] _ (Whole.drewN HRD6.out _)).mono ?_
              rintro e w' ⟨rfl, rfl⟩
              go_wp2
              go_roundw
              case rel => exact ⟨k + 1, at_, by omega, by omega, hat, rfl, by go_num, HALT6.out.drewN _, by rw [← HSE.out]; exact Whole.drewN HRD6.out _⟩
              case measure => simp [intOf]; omega
            · have HD := Lib.hid (do_bad 29 #[.pointer (some ⟨w2.heap.size + 1, 0, none⟩), .pointer (some ⟨wr.heap.size, 0, none⟩), .pointer (some ⟨wr.heap.size + 1, 0, none⟩)] wb (gr2_enters _) _ (bad2 _ _ _ _ n _ _ (HBRb.out.past _) (Whole.past HRb.out _) (HBN.out.past _) (by rw [hr2]; decide)))
              rw [hr2] at HD
              have hn1 : (n == 1) = false := beq_eq_false_iff_ne.2 h1
              clear hr2 hsl hmore h1
              go_wp2_with fail
              rw [← hwb]
              refine HD.out.mono ?_
              rintro e w6 ⟨rfl, hB6⟩
              have HN6 := Lib.hid (HBN.out.below hB6 HBN.out.lt)
              have HBR6 := Lib.hid (HBRb.out.below hB6 HBRb.out.lt)
              have HRD6 := Lib.hid (Whole.below HRb.out hB6 HRb.out.lt)
              have HALT6 := Lib.hid (HALTb.out.below hB6)
              have cn6 : w6.cell? ⟨wr.heap.size, 0, none⟩ = some (.int .i64 n) := (HN6.out.at_ 0).trans rfl
              have cr6 : w6.cell? ⟨w2.heap.size + 1, 0, none⟩ = some (.pointer (some ⟨w2.heap.size, 0, none⟩)) := (HBR6.out.at_ 0).trans rfl
              clear hB6 hwb
              go_wp2_with fail
              go_quiet (fail)
              go_wp2_with fail
              refine (left_any w2.heap.size s _ (Whole.drewN HRD6.out _)).mono ?_
              rintro e w' ⟨rfl, rfl⟩
              go_wp2
              go_roundw
              case rel => exact ⟨k + 1, at_, by omega, by omega, hat, rfl, by go_num, HALT6.out.drewN _, by rw [← HSE.out]; exact Whole.drewN HRD6.out _⟩
              case measure => simp [intOf]; omega
          · obtain ⟨nn, rfl⟩ : ∃ nn : Nat, n = (nn : Int) := ⟨n.toNat, by omega⟩
            have hnn : nn ≤ s.length := by omega
            have HS2' := HDR.out nn
            have hle : ¬ (m : Int) - (at_ : Int) < (nn : Int) := by omega
            have hnl : at_ + nn ≤ m := by omega
            have hneg2 : ¬ (nn : Int) < 0 := hneg
            by_cases h1 : nn = 1
            · obtain ⟨x, s2, rfl⟩ : ∃ x s2, s = x :: s2 := by
                cases s with
                | nil => simp at hnn; omega
                | cons x s2 => exact ⟨x, s2, rfl⟩
              obtain ⟨t, ht⟩ : ∃ t, t = [x] := ⟨_, rfl⟩
              have HTK : Hid ((x :: s2).take nn = t) := by show _ = _; rw [h1, ht]; rfl
              have HS2 : Hid (s2 = l.drop (at_ + nn)) := by show _ = _; rw [← HS2', h1]; rfl
              have hlen2 : ((s2.length : Int) != (m : Int) - ((at_ : Int) + (nn : Int))) = false := by simp at hsl ⊢; omega
              have HD := Lib.hid (do_got 27 #[.pointer (some ⟨w2.heap.size + 1, 0, none⟩), .pointer (some ⟨wr.heap.size + 1, 0, none⟩)] wb (gr1_enters _) w2.heap.size (wr.heap.size + 1) [x] s2 HRb.out.lt HBG.out.lt (good1 (w2.heap.size + 1) w2.heap.size (wr.heap.size + 1) _ x s2 _ (HBRb.out.past _) (Whole.past HRb.out _) (HBG.out.past _) (by omega)))
              rw [← ht] at HD
              have hn1 : ((nn : Int) == 1) = true := by simp; omega
              clear hsl hmore hneg ht hnn h1 HS2'
              go_wp2_with fail
              rw [← hwb]
              refine HD.out.mono ?_
              rintro e w6 ⟨rfl, hgot⟩
              have HN6 := Lib.hid (HBN.out.alt hgot.alt (by omega))
              have HBR6 := Lib.hid (HBRb.out.alt hgot.alt (by omega))
              have HRD6 := Lib.hid hgot.rd
              have HROW6 := Lib.hid (HROWb.out.alt hgot.alt (by intro j hj; have := (HGE.out j hj).2; omega))
              have HALT6 : Hid (Alt (· = w2.heap.size) w4 w6) := HALTb.out.then hgot.alt (by intro j hj hk; omega)
              obtain ⟨gg, gc, hgw, hgrow, hgge⟩ := hgot.got
              obtain ⟨vs, hvs, hvb⟩ := row_sub HROW6.out HL.out at_ nn (by omega)
              have hst : (l.drop at_).take nn = t := by rw [← HSE.out]; exact HTK.out
              rw [hst] at hvb
              have hcva : ∀ j, (convert 22 9 (.slice (some ⟨gg, 0, none⟩) t.length gc)).run Tryz.prog (w6.drewN j) = .ok (.string ⟨t.toArray⟩) (w6.drewN j) := fun j => bytes_str (P := Tryz.prog) (w := w6.drewN j) 22 9 5 Tryz.underlying22 Tryz.underlying5 Tryz.underlying9 hgrow.bytes
              have hcvb : ∀ j, (convert 22 9 vs).run Tryz.prog (w6.drewN j) = .ok (.string ⟨t.toArray⟩) (w6.drewN j) := fun j => bytes_str (P := Tryz.prog) (w := w6.drewN j) 22 9 5 Tryz.underlying22 Tryz.underlying5 Tryz.underlying9 hvb
              have cn6 : w6.cell? ⟨wr.heap.size, 0, none⟩ = some (.int .i64 (nn : Int)) := (HN6.out.at_ 0).trans rfl
              have cr6 : w6.cell? ⟨w2.heap.size + 1, 0, none⟩ = some (.pointer (some ⟨w2.heap.size, 0, none⟩)) := (HBR6.out.at_ 0).trans rfl
              have cg6 : w6.cell? ⟨wr.heap.size + 1, 0, none⟩ = some (.slice (some ⟨gg, 0, none⟩) t.length gc) := (hgw.at_ 0).trans rfl
              have hsum1 : IntKind.i64.wrap ((at_ : Int) + (nn : Int)) = (at_ : Int) + (nn : Int) := by rw [IntKind.wrap_i64]; omega
              clear hgot hwb hgw hgrow hgge hvb hst
              go_wp2_with fail
              go_quiet (fail)
              go_wp2_with fail
              refine (left_any w2.heap.size s2 _ (Whole.drewN HRD6.out _)).mono ?_
              rintro e w' ⟨rfl, rfl⟩
              go_wp2
              go_roundw
              case rel => exact ⟨k + 1, at_ + nn, by omega, by omega, by omega, by go_num, by go_num, HALT6.out.drewN _, by rw [← HS2.out]; exact Whole.drewN HRD6.out _⟩
              case measure => simp [intOf]; omega
            · obtain ⟨t, ht⟩ : ∃ t, t = s.take nn := ⟨_, rfl⟩
              obtain ⟨s2, hs2⟩ : ∃ s2, s2 = s.drop nn := ⟨_, rfl⟩
              have hl2 : s2.length = m - at_ - nn := by rw [hs2, List.length_drop, hsl]
              have HTK : Hid (s.take nn = t) := ht.symm
              have HS2 : Hid (s2 = l.drop (at_ + nn)) := by show _ = _; rw [← HS2', hs2]
              have hlen2 : ((s2.length : Int) != (m : Int) - ((at_ : Int) + (nn : Int))) = false := by simp; omega
              have HD := Lib.hid (do_got 29 #[.pointer (some ⟨w2.heap.size + 1, 0, none⟩), .pointer (some ⟨wr.heap.size, 0, none⟩), .pointer (some ⟨wr.heap.size + 1, 0, none⟩)] wb (gr2_enters _) w2.heap.size (wr.heap.size + 1) (s.take nn) (s.drop nn) HRb.out.lt HBG.out.lt (good2 (w2.heap.size + 1) w2.heap.size wr.heap.size (wr.heap.size + 1) nn _ s _ (HBRb.out.past _) (Whole.past HRb.out _) (HBN.out.past _) (HBG.out.past _) hnn (by omega) (by omega)))
              rw [← ht, ← hs2] at HD
              have hn1 : ((nn : Int) == 1) = false := beq_eq_false_iff_ne.2 (by omega)
              clear hsl hmore hneg ht hnn h1 HS2' hs2 hl2
              go_wp2_with fail
              rw [← hwb]
              refine HD.out.mono ?_
              rintro e w6 ⟨rfl, hgot⟩
              have HN6 := Lib.hid (HBN.out.alt hgot.alt (by omega))
              have HBR6 := Lib.hid (HBRb.out.alt hgot.alt (by omega))
              have HRD6 := Lib.hid hgot.rd
              have HROW6 := Lib.hid (HROWb.out.alt hgot.alt (by intro j hj; have := (HGE.out j hj).2; omega))
              have HALT6 : Hid (Alt (· = w2.heap.size) w4 w6) := HALTb.out.then hgot.alt (by intro j hj hk; omega)
              obtain ⟨gg, gc, hgw, hgrow, hgge⟩ := hgot.got
              obtain ⟨vs, hvs, hvb⟩ := row_sub HROW6.out HL.out at_ nn (by omega)
              have hst : (l.drop at_).take nn = t := by rw [← HSE.out]; exact HTK.out
              rw [hst] at hvb
              have hcva : ∀ j, (convert 22 9 (.slice (some ⟨gg, 0, none⟩) t.length gc)).run Tryz.prog (w6.drewN j) = .ok (.string ⟨t.toArray⟩) (w6.drewN j) := fun j => bytes_str (P := Tryz.prog) (w := w6.drewN j) 22 9 5 Tryz.underlying22 Tryz.underlying5 Tryz.underlying9 hgrow.bytes
              have hcvb : ∀ j, (convert 22 9 vs).run Tryz.prog (w6.drewN j) = .ok (.string ⟨t.toArray⟩) (w6.drewN j) := fun j => bytes_str (P := Tryz.prog) (w := w6.drewN j) 22 9 5 Tryz.underlying22 Tryz.underlying5 Tryz.underlying9 hvb
              have cn6 : w6.cell? ⟨wr.heap.size, 0, none⟩ = some (.int .i64 (nn : Int)) := (HN6.out.at_ 0).trans rfl
              have cr6 : w6.cell? ⟨w2.heap.size + 1, 0, none⟩ = some (.pointer (some ⟨w2.heap.size, 0, none⟩)) := (HBR6.out.at_ 0).trans rfl
              have cg6 : w6.cell? ⟨wr.heap.size + 1, 0, none⟩ = some (.slice (some ⟨gg, 0, none⟩) t.length gc) := (hgw.at_ 0).trans rfl
              have hsum1 : IntKind.i64.wrap ((at_ : Int) + (nn : Int)) = (at_ : Int) + (nn : Int) := by rw [IntKind.wrap_i64]; omega
              clear hgot hwb hgw hgrow hgge hvb hst
              go_wp2_with fail
              go_quiet (fail)
              go_wp2_with fail
              refine (left_any w2.heap.size s2 _ (Whole.drewN HRD6.out _)).mono ?_
              rintro e w' ⟨rfl, rfl⟩
              go_wp2
              go_roundw
              case rel => exact ⟨k + 1, at_ + nn, by omega, by omega, by omega, by go_num, by go_num, HALT6.out.drewN _, by rw [← HS2.out]; exact Whole.drewN HRD6.out _⟩
              case measure => simp [intOf]; omega
      · obtain rfl : k = 40 := by omega
        clear hlt40
        go_wp2
        go_ret
        exact ⟨rfl, HBW.out⟩
    · obtain rfl : k = ns.length := by omega
      clear hlt
      go_wp2
      go_ret
      exact ⟨rfl, HBW.out⟩
end Go.Proofs.YtbljoeeekhdjkaaGreatDoor

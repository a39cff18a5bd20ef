/-
  The reference's paths: the plain part.
  The reference's Path, walked.
-/
import Derived.Test.YtacmdpfidakkkaaGreatDoorMgq
import Derived.Test.YtacmdpfidakkkaaGreatDoorMgx
import Derived.Deep.RegionHeld3
import Derived.Deep.AppendLies
import Derived.Test.YtacmdpfidakkkaaGreatDoorMgh
import Derived.IntWalk
namespace Go.Proofs.YtacmdpfidakkkaaGreatDoor

theorem splitV_slash : ∀ (t : List UInt8), splitV (t ++ [47]) = splitV t ++ [[]]
  | [] => by simp [splitV]
  | c :: r => by
    have ih := splitV_slash r
    rw [List.cons_append, splitV, splitV, ih]
    by_cases hc : c = 47
    · rw [if_pos hc, if_pos hc, List.cons_append]
    · rw [if_neg hc, if_neg hc]
      cases hs : splitV r with
      | nil => exact absurd hs (splitV_ne r)
      | cons h tl => rfl
theorem splitV_sign : ∀ (t : List UInt8) (b : UInt8), b ≠ 47 → splitV (t ++ [b]) = (splitV t).set ((splitV t).length - 1) ((splitV t).getD ((splitV t).length - 1) [] ++ [b])
  | [], b, hb => by
    simp [splitV, hb]
  | c :: r, b, hb => by
    have ih := splitV_sign r b hb
    rw [List.cons_append, splitV, splitV, ih]
    cases hs : splitV r with
    | nil => exact absurd hs (splitV_ne r)
    | cons h tl =>
      by_cases hc : c = 47
      · rw [if_pos hc, if_pos hc]
        rfl
      · rw [if_neg hc, if_neg hc]
        cases tl with
        | nil => rfl
        | cons x tl2 => rfl
theorem splitV_pos (t : List UInt8) : 0 < (splitV t).length := by
  have := splitV_ne t
  cases h : splitV t with
  | nil => exact absurd h this
  | cons a b => simp
theorem splitV_part : ∀ (t : List UInt8) (j : Nat), ((splitV t).getD j []).length ≤ t.length
  | [], j => by
    cases j with
    | zero => simp [splitV]
    | succ j => simp [splitV]
  | c :: r, j => by
    have ih := splitV_part r
    rw [splitV]
    by_cases hc : c = 47
    · rw [if_pos hc]
      cases j with
      | zero => simp
      | succ j =>
        have := ih j
        simp only [List.getD_cons_succ, List.length_cons]
        omega
    · rw [if_neg hc]
      cases hs : splitV r with
      | nil => exact absurd hs (splitV_ne r)
      | cons h tl =>
        rw [hs] at ih
        cases j with
        | zero =>
          have := ih 0
          simp only [List.getD_cons_zero] at this
          simp only [List.getD_cons_zero, List.headD_cons, List.length_cons]
          omega
        | succ j =>
          have := ih (j + 1)
          simp only [List.getD_cons_succ] at this
          simp only [List.getD_cons_succ, List.tail_cons, List.length_cons]
          omega
end Go.Proofs.YtacmdpfidakkkaaGreatDoor
namespace Go.Proofs.YtacmdpfidakkkaaGreatDoor
open Go.RowKit

theorem take_put (s : List UInt8) (k : Nat) (h : k < s.length) : s.take (k + 1) = s.take k ++ [s.getD k 0] := by
  rw [List.take_succ_eq_append_getElem h]
  simp [List.getD, List.getElem?_eq_getElem h]
theorem parts_set (l : List (List UInt8)) (n : Nat) (x : List UInt8) : (l.set n x).map S1 = (l.map S1).set n (S1 x) := by rw [List.map_set]
set_option maxRecDepth 100000 in
set_option maxHeartbeats 4000000 in
theorem rpath_any (s : List UInt8) (w : World) (hl : s.length ≤ 1048576) :
    Calls Tryz.prog 26 #[.string ⟨s.toArray⟩] w fun e w' => ((∃ ps A c, pathV s = some ps ∧ e = .returned (.tuple #[.slice A (List.length ps) c, .bool true]) ∧ Arg w' A c (ps.map S1)) ∨ (pathV s = none ∧ e = .returned (.tuple #[.slice none 0 0, .bool false]))) ∧ Below w.heap.size w w' := by
  obtain ⟨i0, hi, hz0, hz1, hz2⟩ := info_parts infoS
  by_cases hne : s = []
  · subst hne
    go_enter Tryz.func26, Tryz.ntmps26
    go_wp2
    go_ret2
    exact ⟨.inl ⟨[], none, 0, rfl, rfl, Nat.le_refl _, Nat.zero_le _, .inl ⟨rfl, rfl⟩⟩, Below.refl _ _⟩
  · have hf : (s == []) = false := by simp [hne]
    have HPV : Hid (pathV s = if (splitV s).all okName then some (splitV s) else none) := by show _ = _; unfold pathV; rw [if_neg hne]
    have hrow : (w.alloc (.cells #[.string ⟨#[]⟩] 9)).ownsRow w.heap.size 9 1 (.slice (some ⟨w.heap.size, 0, none⟩) 1 1) 1 [S1 []] := World.ownsRow_lit w #[.string ⟨#[]⟩] 1 (Nat.le_refl _) (by unfold maxLen; omega) rfl
    have HROW := Lib.hid hrow
    have HB := Lib.hid ((Below.refl w.heap.size w).alloc (Nat.le_refl _) (.cells #[.string ⟨#[]⟩] 9))
    have hs0 : (w.alloc (.cells #[.string ⟨#[]⟩] 9)).heap.size = w.heap.size + 1 := by simp
    clear hne hrow
    go_enter Tryz.func26, Tryz.ntmps26
    go_wp2
    generalize w.alloc (.cells #[.string ⟨#[]⟩] 9) = w0 at *
    go_loopg [4, 5] s.length (fun g s4 s5 wr => ∃ (k gb c : Nat), k ≤ s.length ∧ s.length - k ≤ g ∧ s4 = .slice (some ⟨gb, 0, none⟩) (splitV (s.take k)).length c ∧ s5 = .int .i64 k ∧ wr.ownsRow w.heap.size 9 1 s4 (splitV (s.take k)).length ((splitV (s.take k)).map S1) ∧ Hid (Below w.heap.size w wr) ∧ w.heap.size + 1 ≤ wr.heap.size)
    case atStart => exact ⟨0, w.heap.size, 1, Nat.zero_le _, by omega, rfl, rfl, HROW.out, HB, by omega⟩
    case round =>
      obtain ⟨k, gb, c, hk, hg, rfl, rfl, hown, hwr, hsz⟩ := hrel
      have hpl := splitV_len (s.take k)
      have hp0 := splitV_pos (s.take k)
      have hpp := splitV_part (s.take k)
      have htl : (s.take k).length = k := by rw [List.length_take]; omega
      rw [htl] at hpl hpp
      have HPP := Lib.hid hpp
      have HOWN := Lib.hid hown
      clear hown hpp htl
      by_cases hlt : k < s.length
      · have hlt' : (k : Int) < (s.length : Int) := by omega
        have hidx := str_atN s k hlt
        have HTP := Lib.hid (take_put s k hlt)
        by_cases h47 : s.getD k 0 = 47
        · have hq : (((s.getD k 0).toNat : Int) == 47) = true := by rw [h47]; rfl
          have HSP : Hid ((splitV (s.take (k + 1))).map S1 = (splitV (s.take k)).map S1 ++ [S1 []] ∧ (splitV (s.take (k + 1))).length = (splitV (s.take k)).length + 1) := by
            show _ ∧ _
            rw [HTP.out, h47, splitV_slash, List.map_append, List.length_append]
            exact ⟨rfl, rfl⟩
          have hrw : ∀ j, (Value.slice (some ⟨gb, 0, none⟩) (splitV (s.take k)).length c).ownBlock = some j → w.heap.size ≤ j := fun j hj => (HOWN.out.lt j hj).1
          have HRW := Lib.hid hrw
          clear h47 hrw HTP
          generalize s.getD k 0 = ch at *
          generalize hn : (splitV (s.take k)).length = n at *
          generalize (splitV (s.take k)).map S1 = xs at *
          clear hn
          have hcell : ∀ j v, [S1 []][j]? = some v → (wr.alloc (.cells #[.string ⟨#[]⟩] 9)).cell? ((⟨wr.heap.size, 0, none⟩ : Addr).add j) = some v := by
            intro j v hv
            have h := (Whole.made wr 9 #[.string ⟨#[]⟩]).at_ j
            rw [Addr.add_mid, Nat.zero_add, h]
            simpa [S1] using hv
          have HCELL := Lib.hid hcell
          clear hcell
          go_wp2_with (at_builtin; go_loud (refine wpList_append_own_at _ rfl _ _ 30 rfl w.heap.size 9 i0 (.string ⟨#[]⟩) 1 16 Tryz.underlying30 hi hz0 hz1 hz2 rfl (by decide) _ n xs rfl (HOWN.out.alloc _) ⟨wr.heap.size, 0, none⟩ 1 1 [S1 []] rfl rfl HCELL.out (by simp [Value.oneCell', S1]) (by unfold maxLen; omega) (by omega) (by simp; omega) ?_); intro v' w5 hown' hgrow hnil hloc; have HO5 := Lib.hid hown'; have HG5 := Lib.hid hgrow; clear hown' hgrow hnil hloc)
          obtain ⟨g5, c5, rfl⟩ : ∃ g5 c5, v' = .slice (some ⟨g5, 0, none⟩) (n + 1) c5 := by
            rcases HO5.out.2 with ⟨rfl, h0⟩ | ⟨g', cap, cur, rfl, -⟩
            · omega
            · exact ⟨_, _, rfl⟩
          have HB5 := Lib.hid ((hwr.out.alloc hwr.out.size (.cells #[.string ⟨#[]⟩] 9)).grown HG5.out (by simp; omega) (fun j hj => HRW.out j hj))
          have hs5 : w.heap.size + 1 ≤ w5.heap.size := by have := HG5.out.size; simp at this; omega
          go_roundg (s.length - (k + 1))
          case measure => omega
          case rel => exact ⟨k + 1, g5, c5, by omega, Nat.le_refl _, by rw [HSP.out.2], by go_num, by rw [HSP.out.1, HSP.out.2]; exact HO5.out, HB5, hs5⟩
        · have hq : (((s.getD k 0).toNat : Int) == 47) = false := by
            have : (s.getD k 0).toNat ≠ 47 := fun e => h47 (UInt8.toNat_inj.1 e)
            rw [beq_eq_false_iff_ne]
            omega
          have HSP : Hid ((splitV (s.take (k + 1))).map S1 = ((splitV (s.take k)).map S1).set ((splitV (s.take k)).length - 1) (S1 ((splitV (s.take k)).getD ((splitV (s.take k)).length - 1) [] ++ [s.getD k 0])) ∧ (splitV (s.take (k + 1))).length = (splitV (s.take k)).length) := by
            show _ ∧ _
            rw [HTP.out, splitV_sign _ _ h47, parts_set, List.length_set]
            exact ⟨rfl, rfl⟩
          have hcut : ∀ W, (Instr.slice 9 (.string ⟨s.toArray⟩) (some (.int .i64 (k : Int))) (some (.int .i64 ((k : Int) + 1))) none).run Tryz.prog W = .ok (.string ⟨[s.getD k 0].toArray⟩) W := by
            intro W
            have h := str_cut s k (k + 1) (by omega) (by omega) W
            rw [show ((k + 1 : Nat) : Int) = (k : Int) + 1 by omega] at h
            rw [h, HTP.out, List.drop_append_of_le_length (by rw [List.length_take]; omega), List.drop_of_length_le (by rw [List.length_take]; omega), List.nil_append]
          have hlast := HPP.out ((splitV (s.take k)).length - 1)
          have hcl : wr.cell? ⟨gb, (splitV (s.take k)).length - 1, none⟩ = some (S1 ((splitV (s.take k)).getD ((splitV (s.take k)).length - 1) [])) := by
            rw [HOWN.out.cellAt _ (by omega), List.getElem?_map]
            simp [List.getD, List.getElem?_eq_getElem (show (splitV (s.take k)).length - 1 < (splitV (s.take k)).length by omega)]
          have hfz := HOWN.out.frozenAt ((splitV (s.take k)).length - 1)
          have HST := Lib.hid (HOWN.out.stored ((splitV (s.take k)).length - 1) (S1 ((splitV (s.take k)).getD ((splitV (s.take k)).length - 1) [] ++ [s.getD k 0])))
          have hlow := (HOWN.out.lt gb rfl)
          clear h47 HTP HPP
          generalize (splitV (s.take k)).getD ((splitV (s.take k)).length - 1) [] = last at *
          generalize s.getD k 0 = ch at *
          generalize hn : (splitV (s.take k)).length = n at *
          generalize (splitV (s.take k)).map S1 = xs at *
          clear hn
          unfold S1 at hcl
          have k0 : (0 : Int) ≤ (n : Int) - 1 := by omega
          have k1 : (n : Int) - 1 < (n : Int) := by omega
          have k2 : ((n : Int) - 1).toNat = n - 1 := by omega
          have k3 : IntKind.i64.wrap ((n : Int) - 1) = (n : Int) - 1 := IntWalk.i64_in _ (by omega)
          have k4 : IntKind.i64.wrap ((k : Int) + 1) = (k : Int) + 1 := IntWalk.i64_in _ (by omega)
          go_wp2_with fail
          refine wp_region_qtail (C := fun W => ∃ m, W = wr.drewN m) 12 (by kernel_rfl) (by kernel_rfl) ⟨1, rfl⟩ ?_
          simp only [List.take_succ_cons, List.take_zero, List.drop_succ_cons, List.drop_zero]
          go_simp
          repeat (go_big_quiet_step (fail))
          refine wpQuiet_nil ?_
          intro nq
          have HO3 : Hid ((wr.drewN nq).ownsRow w.heap.size 9 1 (.slice (some ⟨gb, 0, none⟩) n c) n xs) := HOWN.out
          have HB3 := Lib.hid (be_drewN hwr.out nq)
          have hcl3 : (wr.drewN nq).cell? ⟨gb, n - 1, none⟩ = some (.string ⟨last.toArray⟩) := hcl
          have hfz3 : (wr.drewN nq).frozen? ⟨gb, n - 1, none⟩ = false := hfz
          have hs3 : w.heap.size + 1 ≤ (wr.drewN nq).heap.size := hsz
          clear HST hcl hfz HOWN k3 k4
          generalize wr.drewN nq = w3 at *
          rw [show (ByteArray.mk last.toArray) ++ (ByteArray.mk #[ch]) = ByteArray.mk (last ++ [ch]).toArray from ba_append' last [ch]]
          have HST := Lib.hid (HO3.out.stored (n - 1) (S1 (last ++ [ch])))
          have HB4 := Lib.hid (Below.setCell (p := ⟨gb, n - 1, none⟩) HB3.out hlow.1 (S1 (last ++ [ch])))
          unfold S1 at HST HB4
          generalize hll : last ++ [ch] = ll at *
          have HLL := Lib.hid hll
          clear hll hlow
          go_wp2
          go_roundg (s.length - (k + 1))
          case measure => omega
          case rel => exact ⟨k + 1, gb, c, by omega, Nat.le_refl _, by rw [HSP.out.2], by go_num, by rw [HSP.out.1, HSP.out.2]; exact HST.out.1, HB4, by simpa using hs3⟩
      · obtain rfl : k = s.length := by omega
        rw [List.take_length] at HOWN HPP hpl hp0 ⊢
        have hbnd : ∀ j, (splitV s).getD j [] = (splitV s).getD j [] ∧ ((splitV s).getD j []).length ≤ s.length := fun j => ⟨rfl, HPP.out j⟩
        have HBND := Lib.hid hbnd
        clear hbnd HPP
        generalize splitV s = ps at *
        go_wp2
        go_loopg [6] ps.length (fun g s6 wr2 => ∃ k : Nat, k ≤ ps.length ∧ ps.length - k ≤ g ∧ s6 = .int .i64 k ∧ wr2 = wr ∧ Hid ((ps.take k).all okName = true))
        case atStart => exact ⟨0, Nat.zero_le _, by omega, rfl, rfl, Lib.hid rfl⟩
        case round =>
          obtain ⟨k, hk2, hg2, rfl, rfl, hall⟩ := hrel
          by_cases hlt2 : k < ps.length
          · have hlt2' : (k : Int) < (ps.length : Int) := by omega
            have hck : wr.cell? ⟨gb, k, none⟩ = some (.string ⟨(ps.getD k []).toArray⟩) := by
              rw [HOWN.out.cellAt _ (by omega), List.getElem?_map]
              simp [List.getD, List.getElem?_eq_getElem hlt2, S1]
            have HN := Lib.hid (fun W => rname_any (ps.getD k []) W (by have := (HBND.out k).2; omega))
            have HAK : Hid ((ps.take (k + 1)).all okName = ((ps.take k).all okName && okName (ps.getD k []))) := by
              show _ = _
              rw [List.take_succ_eq_append_getElem hlt2, List.all_append]
              simp [List.getD, List.getElem?_eq_getElem hlt2]
            have HNO : Hid (okName (ps.getD k []) = false → ps.all okName = false) := by
              intro h
              rw [List.all_eq_false]
              refine ⟨ps.getD k [], ?_, by rw [h]; decide⟩
              simp [List.getD, List.getElem?_eq_getElem hlt2]
            generalize ps.getD k [] = p at *
            cases hp : okName p with
            | true =>
              rw [hp] at HN
              have HT : Hid ((ps.take (k + 1)).all okName = true) := by show _ = _; rw [HAK.out, hall.out, hp]; rfl
              clear hp
              go_wp2_with (go_at_call 20; refine (HN.out _).mono ?_; rintro e w' ⟨rfl, rfl⟩)
              go_roundg (ps.length - (k + 1))
              case measure => omega
              case rel => exact ⟨k + 1, by omega, Nat.le_refl _, by go_num, rfl, HT⟩
            | false =>
              rw [hp] at HN
              have HF : Hid (pathV s = none) := by show _ = _; rw [HPV.out, HNO.out hp]; rfl
              clear hp
              go_wp2_with (go_at_call 20; refine (HN.out _).mono ?_; rintro e w' ⟨rfl, rfl⟩)
              go_ret2
              exact ⟨.inr ⟨HF.out, rfl⟩, hwr.out⟩
          · obtain rfl : k = ps.length := by omega
            rw [List.take_length] at hall
            have HF : Hid (pathV s = some ps) := by show _ = _; rw [HPV.out, hall.out]; rfl
            have hlm : (ps.map S1).length = ps.length := List.length_map ..
            obtain ⟨A9, c9, he9, harg⟩ := own_vals hlm HOWN.out
            injection he9 with e1 e2 e3
            subst e1 e3
            have HAR := Lib.hid harg
            clear harg hlm e2
            go_wp2
            go_ret2
            exact ⟨.inl ⟨ps, _, _, HF.out, rfl, HAR.out⟩, hwr.out⟩
end Go.Proofs.YtacmdpfidakkkaaGreatDoor

/-
  The reference's GetHex.
  The table of tens, laid.
  The reference's Id, GetHex of other lengths, Has, walked; oid.Of of any kind.
-/
import Derived.Test.YtfaijkgfhdhhbaaGreatDoorMgm
import Derived.Test.YtfaijkgfhdhhbaaGreatDoorMgv
import Derived.Test.YtfaijkgfhdhhbaaGreatDoorDoor
import Derived.Test.YtfaijkgfhdhhbaaGreatDoorShelf
import Derived.Test.YtfaijkgfhdhhbaaGreatDoorMhe
namespace Go.Proofs.YtfaijkgfhdhhbaaGreatDoor
open Go.RowKit
theorem idl_two (s : List UInt8) (k : Nat) : (idl s (2 * k)).set k (UInt8.ofNat (hd s (2 * k) * 16 + hd s (2 * k + 1))) = idl s (2 * (k + 1)) := by
  have h1 := idl_step s (2 * k)
  have h2 := idl_step s (2 * k + 1)
  rw [show 2 * k / 2 = k by omega] at h1
  rw [show (2 * k + 1) / 2 = k by omega, ← h1, List.set_set] at h2
  have h3 : idn s (2 * k + 1) k = hd s (2 * k) := by
    unfold idn
    rw [if_neg (by omega), if_pos (by omega)]
  rw [h3] at h2
  rw [h2]; rfl
theorem two_at (s : List UInt8) (k : Nat) (h : 2 * k + 2 ≤ s.length) : (s.take (2 * k + 2)).drop (2 * k) = [s.getD (2 * k) 0, s.getD (2 * k + 1) 0] := by
  have e1 : s.getD (2 * k) 0 = s[2 * k] := by rw [List.getD_eq_getElem?_getD, List.getElem?_eq_getElem (show 2 * k < s.length by omega), Option.getD_some]
  have e2 : s.getD (2 * k + 1) 0 = s[2 * k + 1] := by rw [List.getD_eq_getElem?_getD, List.getElem?_eq_getElem (show 2 * k + 1 < s.length by omega), Option.getD_some]
  rw [List.drop_take, show 2 * k + 2 - 2 * k = 2 by omega, e1, e2, List.drop_eq_getElem_cons (show 2 * k < s.length by omega), List.drop_eq_getElem_cons (show 2 * k + 1 < s.length by omega)]
  rfl
theorem not_good (s : List UInt8) (i : Nat) (hi : i < s.length) (h : hval (s.getD i 0) < 0) : getId s = (List.replicate 32 0, false) := by
  have : (s.all fun c => decide (0 ≤ hval c)) = false := by
    rw [List.all_eq_false]
    refine ⟨s[i], List.getElem_mem _, ?_⟩
    rw [List.getD_eq_getElem?_getD, List.getElem?_eq_getElem hi, Option.getD_some] at h
    simp; omega
  have hg : good s = false := by simp [good, this]
  rw [getId, hg]; rfl
set_option maxRecDepth 100000 in
set_option maxHeartbeats 2000000 in
theorem rgetid_64 (s : List UInt8) (w : World) (hl : s.length = 64) : Calls Tryz.prog 81 #[.string ⟨s.toArray⟩] w fun e w' => e = .returned (.tuple #[.agg ((getId s).1.map Y).toArray, .bool (getId s).2]) ∧ Below w.heap.size w w' := by
  have hb : ((s.length : Int) != 64) = false := by simp [hl]
  have HL := Lib.hid hl
  go_enter Tryz.func81, Tryz.ntmps81
  go_wp2_with fail
  go_loopw [5] (fun i wr => ∃ k : Nat, k ≤ 32 ∧ i = .int .i64 k ∧ Whole wr (w.heap.size + 1) 24 ((idl s (2 * k)).map Y).toArray ∧ Whole wr w.heap.size 24 ((List.replicate 32 (0 : UInt8)).map Y).toArray ∧ Below w.heap.size w wr ∧ ∀ j, j < 2 * k → 0 ≤ hval (s.getD j 0)) (fun i _ => 32 - (intOf i).toNat)
  case atStart =>
    refine ⟨0, by omega, rfl, ?_, (Whole.made w 24 ((List.replicate 32 (0 : UInt8)).map Y).toArray).past _, ((Below.refl _ _).alloc (Nat.le_refl _) _).alloc (by simp) _, fun j hj => absurd hj (by omega)⟩
    rw [idl_zero]
    exact heap_alloc2_new w _ _
  case round =>
    obtain ⟨k, hk, rfl, hW, hZ, hB, hall⟩ := hrel
    have HW := Lib.hid hW
    have HZ := Lib.hid hZ
    have HB := Lib.hid hB
    have HA := Lib.hid hall
    clear hW hZ hB hall
    by_cases hlt : k < 32
    · have hkk : decide ((k : Int) < 32) = true := by simp; omega
      have h2 := two_at s k (by omega)
      have w1 : IntKind.i64.wrap (2 * (k : Int)) = ((2 * k : Nat) : Int) := by rw [IntWalk.i64_in _ (by omega)]; omega
      have w2 : IntKind.i64.wrap (((2 * k : Nat) : Int) + 2) = ((2 * k + 2 : Nat) : Int) := by rw [IntWalk.i64_in _ (by omega)]; omega
      have hsl : ∀ W, (Instr.slice 9 (.string ⟨s.toArray⟩) (some (.int .i64 (2 * (k : Int)))) (some (.int .i64 (2 * (k : Int) + 2))) none).run Tryz.prog W = .ok (.string ⟨[s.getD (2 * k) 0, s.getD (2 * k + 1) 0].toArray⟩) W := by
        intro W
        have := str_cut s (2 * k) (2 * k + 2) (by omega) (by omega) W
        rw [show ((2 * k : Nat) : Int) = 2 * (k : Int) by omega, show ((2 * k + 2 : Nat) : Int) = 2 * (k : Int) + 2 by omega, h2] at this
        exact this
      have HN := Lib.hid fun W => rnum_any [s.getD (2 * k) 0, s.getD (2 * k + 1) 0] W (by simp)
      have hcs : hd s (2 * k) = (hval (s.getD (2 * k) 0)).toNat := rfl
      have hds : hd s (2 * k + 1) = (hval (s.getD (2 * k + 1) 0)).toNat := rfl
      have hc16 := hval_lt (s.getD (2 * k) 0)
      have hd16 := hval_lt (s.getD (2 * k + 1) 0)
      by_cases hbad : hval (s.getD (2 * k) 0) < 0 ∨ hval (s.getD (2 * k + 1) 0) < 0
      · have HG : Hid (getId s = (List.replicate 32 0, false)) := by
          rcases hbad with h | h
          · exact not_good s _ (by omega) h
          · exact not_good s _ (by omega) h
        have hno : numO (ngo 0 [s.getD (2 * k) 0, s.getD (2 * k + 1) 0]) = (0, false) := by
          rcases hbad with h | h
          · simp only [ngo, if_pos h, numO]
          · simp only [ngo]
            split <;> first | rfl | (rw [if_pos h]; rfl)
        rw [hno] at HN
        clear hno hbad hcs hds hc16 hd16 w1 w2 h2 hl
        generalize s.getD (2 * k) 0 = c at *
        generalize s.getD (2 * k + 1) 0 = d at *
        go_wp2_with fail
        refine (HN.out _).mono ?_
        rintro e w' ⟨rfl, rfl⟩
        go_wp2_with (refine wpList_store_whole rfl 24 _ _ rfl w.heap.size _ rfl rfl 24 _ HZ.out (by kernel_rfl) (by kernel_rfl) (by kernel_rfl) ?_; intro w3 hW3 hG3; have HW3 := Lib.hid hW3; have HB3 := Lib.hid (be_grown HB.out hG3 HB.out.size (fun j hj => by injection hj with hj; omega)); clear hW3 hG3)
        rw [HG.out]
        exact oget_endG Tryz.results81 false _ w _ _ (by kernel_rfl) rfl rfl rfl HW3.out HB3.out
      · have hall2 : Hid (∀ j, j < 2 * (k + 1) → 0 ≤ hval (s.getD j 0)) := fun j hj => by
          rcases Nat.lt_or_ge j (2 * k) with h | h
          · exact HA.out j h
          · have : j = 2 * k ∨ j = 2 * k + 1 := by omega
            rcases this with rfl | rfl <;> omega
        have hno : numO (ngo 0 [s.getD (2 * k) 0, s.getD (2 * k + 1) 0]) = (hd s (2 * k) * 16 + hd s (2 * k + 1), true) := by
          simp only [ngo]
          rw [if_neg (by omega), if_neg (by omega), ← hcs, ← hds]
          simp only [numO]
          have := hd_lt s (2 * k)
          have := hd_lt s (2 * k + 1)
          congr 1
          omega
        rw [hno] at HN
        have hst := idl_two s k
        have hn256 : hd s (2 * k) * 16 + hd s (2 * k + 1) < 256 := by
          have := hd_lt s (2 * k)
          have := hd_lt s (2 * k + 1)
          omega
        clear hno hbad hcs hds hc16 hd16 w1 w2 h2 hl
        generalize hd s (2 * k) * 16 + hd s (2 * k + 1) = n at *
        have hnew : Hid (∀ W, Whole W (w.heap.size + 1) 24 (((idl s (2 * k)).map Y).toArray.setIfInBounds k (.int .u8 (n : Int))) → Whole W (w.heap.size + 1) 24 ((idl s (2 * (k + 1))).map Y).toArray) := by
          intro W h
          have e : ((idl s (2 * k)).map Y).toArray.setIfInBounds k (.int .u8 (n : Int)) = ((idl s (2 * (k + 1))).map Y).toArray := by
            rw [← hst, List.map_set]
            have h2 := UInt8.toNat_ofNat_of_lt' (show n < 256 from hn256)
            have h3 : Y (UInt8.ofNat n) = .int .u8 (n : Int) := by unfold Y; rw [h2]
            rw [h3]
            simp
          rw [e] at h
          exact h
        obtain ⟨x0, hcell⟩ : ∃ x : Int, wr.cell? ⟨w.heap.size + 1, k, none⟩ = some (.int .u8 x) := by
          rw [HW.out.at_ k, List.getElem?_toArray, ← some_y _ _ (by rw [idl_len]; omega)]
          exact ⟨_, rfl⟩
        have z0 := HW.out.thawed k
        have hn0 : (n : Int) % 256 = (n : Int) := by omega
        clear hst
        generalize s.getD (2 * k) 0 = c at *
        generalize s.getD (2 * k + 1) 0 = d at *
        go_wp2_with fail
        refine (HN.out _).mono ?_
        rintro e w' ⟨rfl, rfl⟩
        go_wp2_with fail
        go_roundw
        case rel =>
          refine ⟨k + 1, by omega, by go_num, ?_, HZ.out.aside (by simp) _, HB.out.setCell (by simp) _, hall2.out⟩
          exact hnew.out _ (HW.out.put k _)
        case measure => simp [intOf]; omega
    · obtain rfl : k = 32 := by omega
      have hgood : good s = true := by
        simp only [good, HL.out, Bool.and_eq_true, beq_self_eq_true, true_and, List.all_eq_true, decide_eq_true_eq]
        intro c hc
        obtain ⟨j, hj, rfl⟩ := List.getElem_of_mem hc
        have := HA.out j (by omega)
        rwa [List.getD_eq_getElem?_getD, List.getElem?_eq_getElem hj, Option.getD_some] at this
      have HG : Hid (getId s = (idl s 64, true)) := by show _ = _; rw [getId, hgood]; rfl
      have hsz : ((idl s 64).map Y).toArray.size = 32 := by rw [List.size_toArray, List.length_map, idl_len]
      have HI : Hid ((Tryz.prog.info? 24).map (·.size) = some ((idl s 64).map Y).toArray.size) := by show _ = _; rw [hsz]; kernel_rfl
      have H1 : Hid (((idl s 64).map Y).toArray.all (·.oneCell') = true) := by
        show _ = _
        rw [Array.all_eq_true_iff_forall_mem]
        intro v hv
        obtain ⟨y, -, rfl⟩ := List.mem_map.1 (by simpa using hv)
        rfl
      have HS := Lib.hid hsz
      obtain ⟨cs, hcs⟩ : ∃ cs, cs = ((idl s 64).map Y).toArray := ⟨_, rfl⟩
      have HCS := Lib.hid hcs
      rw [show 2 * 32 = 64 from rfl, ← hcs] at HW
      rw [← hcs] at HI H1 HS
      clear hgood hsz hlt hcs
      go_wp2_with (first
        | (refine wpList_load_row rfl 24 _ rfl (w.heap.size + 1) rfl 24 cs (0, 0) _ HW.out Tryz.underlying24 rfl HI.out ?_)
        | (refine wpList_store_whole rfl 24 _ _ rfl w.heap.size cs rfl rfl 24 _ HZ.out HI.out (by rw [HS.out]; kernel_rfl) H1.out ?_; intro w3 hW3 hG3; have HW3 := Lib.hid hW3; have HB3 := Lib.hid (be_grown HB.out hG3 HB.out.size (fun j hj => by injection hj with hj; omega)); clear hW3 hG3))
      rw [HG.out, ← HCS.out]
      exact oget_endG Tryz.results81 true _ w _ _ HS.out rfl rfl rfl HW3.out HB3.out
end Go.Proofs.YtfaijkgfhdhhbaaGreatDoor
namespace Go.Proofs.YtfaijkgfhdhhbaaGreatDoor
open Go.RowKit

/-- The table of tens, where strconv looks. -/
def Tens (w : World) : Prop := Lib.TabIs Tryz.prog w "internal/strconv.uint64pow10" .u64 Lib.pow10Tab
theorem Tens.below {w w' : World} (h : Tens w) (hb : Below w.heap.size w w') : Tens w' := by
  unfold Tens Lib.TabIs World.var? at *
  cases hg : Tryz.prog.globalNamed "internal/strconv.uint64pow10" with
  | none => rw [hg] at h; cases h
  | some g =>
    rw [hg] at h
    simp only [Option.bind_some] at h ⊢
    have hlt : g < w.heap.size := by
      rcases Nat.lt_or_ge g w.heap.size with hl | hl
      · exact hl
      · rw [Array.getElem?_eq_none hl] at h
        cases h
    rw [hb.block g hlt]
    exact h
namespace Door
theorem g5 : Tryz.prog.globalNamed "internal/strconv.uint64pow10" = some 6 := by kernel_rfl
theorem ty5 : (Tryz.prog.globals[6]?).map (·.type) = some 206 := by kernel_rfl
theorem ce64 : Tryz.prog.cellsOf 101 = 1 := by kernel_rfl
theorem ca20 : Tryz.prog.cellsOf 206 = 20 := by kernel_rfl
set_option maxRecDepth 100000 in
theorem tens_ofH {W : World} (h : laidMetH Tryz.prog [("math/bits.deBruijn32tab", Rows.laid_math_bits_deBruijn32tab), ("math/bits.deBruijn64tab", Rows.laid_math_bits_deBruijn64tab), ("colporteur/sha.start", Rows.laid_colporteur_sha_start), ("colporteur/sha.roots", Rows.laid_colporteur_sha_roots), ("internal/strconv.uint64pow10", Rows.laid_internal_strconv_uint64pow10)] W) : Tens W := by
  have h' : laidMet Tryz.prog [("math/bits.deBruijn32tab", Rows.laid_math_bits_deBruijn32tab), ("math/bits.deBruijn64tab", Rows.laid_math_bits_deBruijn64tab), ("colporteur/sha.start", Rows.laid_colporteur_sha_start), ("colporteur/sha.roots", Rows.laid_colporteur_sha_roots), ("internal/strconv.uint64pow10", Rows.laid_internal_strconv_uint64pow10)] W := h
  exact Lib.tabIs_of_head (k := .u64) (zs := Lib.pow10Tab) g5 ty5 Tryz.underlying206 Tryz.underlying101 ce64 ca20 h'.tail.tail.tail.tail
end Door
theorem itoa_any (n : Nat) (w : World) (hT : Tens w) (hn : n < 1000000) : Calls Tryz.prog 76 #[.int .i64 (n : Int)] w fun e w' => e = .returned (.string ⟨(Lib.itoa (n : Nat)).toArray⟩) ∧ Below w.heap.size w w' := by
  refine (Tryz.strconv_Itoa (n : Int) (by omega) (by omega) w hT).mono ?_
  rintro e w' ⟨rfl, k, os, rfl⟩
  refine ⟨rfl, rfl, rfl, rfl, by simp [Sort.grow], fun i hi => ?_⟩
  show (w.heap ++ os)[i]? = _
  rw [Array.getElem?_append_left hi]
end Go.Proofs.YtfaijkgfhdhhbaaGreatDoor
namespace Go.Proofs.YtfaijkgfhdhhbaaGreatDoor
open Go.RowKit

theorem arg_eq (wd dec body : List UInt8) : (ByteArray.mk wd.toArray ++ ByteArray.mk dec.toArray ++ ByteArray.mk #[0] ++ ByteArray.mk body.toArray) = ByteArray.mk (wd ++ dec ++ [0] ++ body).toArray := by
  rw [show (ByteArray.mk #[0]) = ByteArray.mk [0].toArray from rfl, ba_append, ba_append, ba_append]
/-- What is hashed. -/
def named (kind : Int) (body : List UInt8) : List UInt8 := kwd kind ++ [32] ++ Lib.itoa (body.length : Nat) ++ [0] ++ body
theorem named_len (kind : Int) (body : List UInt8) (h : body.length < 1000000) : (named kind body).length ≤ 1000100 := by
  have h1 := kwd_len kind
  have h2 := itoa_len 5 body.length h
  simp only [named, List.length_append, List.length_cons, List.length_nil]
  omega
set_option maxRecDepth 100000 in
set_option maxHeartbeats 2000000 in
theorem of_within (kind : Int) (kw dec body : List UInt8) (w : World) (hTab : Tabs w) (hw : ∀ W, Calls Tryz.prog 75 #[.int .i64 kind] W fun e w' => e = .returned (.string ⟨kw.toArray⟩) ∧ W = w')
    (hd : ∀ W, Below w.heap.size w W → Calls Tryz.prog 76 #[.int .i64 (body.length : Int)] W fun e w' => e = .returned (.string ⟨dec.toArray⟩) ∧ Below W.heap.size W w') (hlen : kw.length + dec.length + body.length < 2 ^ 40) :
    Calls Tryz.prog 35 #[.int .i64 kind, .string ⟨body.toArray⟩] w fun e w' => e = .returned (.agg ((ShaM.sha (kw ++ [32] ++ dec ++ [0] ++ body)).map Y).toArray) ∧ Below w.heap.size w w' := by
  have hl1 := hTab.lt1
  have hl2 := hTab.lt2
  have HTab := Lib.hid hTab
  have HW := Lib.hid hw
  have HD := Lib.hid hd
  obtain ⟨L, hL⟩ : ∃ L, L = kw ++ [32] ++ dec ++ [0] := ⟨_, rfl⟩
  have hpre : L.length < 2 ^ 41 := by rw [hL]; simp; omega
  have hpre2 : L.length + body.length < 2 ^ 42 := by omega
  have HL := Lib.hid hL
  clear hTab hw hd hL
  go_enter Tryz.func35, Tryz.ntmps35
  go_wp2_with fail
  refine (new_any _).mono ?_
  rintro e w1 ⟨rfl, hB1, hH1, hs1⟩
  have hs1' : w1.heap.size = w.heap.size + 2 := by rw [hs1]; simp
  have HB1 := Lib.hid (((Below.refl w.heap.size w).alloc (Nat.le_refl _) _).trans (hB1.mono (by simp)))
  have HH1 : Hid (HashAt w1 (w.heap.size + 1) 149 []) := by show HashAt _ _ _ _; simpa using hH1
  obtain ⟨z, hz, hZ⟩ : ∃ z : Array Value, z.size = 32 ∧ Whole w1 w.heap.size 24 z := ⟨_, rfl, (Whole.made w _ _).below hB1 (by simp)⟩
  have HZ := Lib.hid hz
  have HZ1 := Lib.hid hZ
  clear hB1 hH1 hs1 hz hZ
  go_wp2_with fail
  refine (HW.out _).mono ?_
  rintro e w2 ⟨rfl, rfl⟩
  go_wp2_with fail
  refine (HD.out _ HB1.out).mono ?_
  rintro e w3 ⟨rfl, hB3⟩
  have HB3 := Lib.hid hB3
  have hs3 := hB3.size
  clear hB3
  go_wp2_with (refine wpList_of_string rfl 9 78 5 (.tmp 15) rfl _ L rfl (by rw [HL.out, ← ba_append, ← ba_append, ← ba_append]) Tryz.underlying9 Tryz.underlying78 Tryz.underlying5 (by unfold maxLen; omega) ?_; intro w4 c hby hfz hB4 hs4; have HBY := Lib.hid hby; have HB4 := Lib.hid hB4; clear hby hfz hB4)
  have HB04 : Hid (Below w.heap.size w w4) := (HB1.out.trans (HB3.out.mono (by omega))).trans (HB4.out.mono (by omega))
  have HB14 : Hid (Below w1.heap.size w1 w4) := HB3.out.trans (HB4.out.mono (by omega))
  refine (put_any (w.heap.size + 1) 149 _ [] L w4 (HTab.out.below HB04.out hl1 hl2) (by omega) (by omega) (HH1.out.below HB14.out (by omega)) (by simp) HBY.out (fun _ h => by injection h with h; dsimp only at h; omega)).mono ?_
  rintro e w5 ⟨rfl, hG5, hH5⟩
  rw [List.nil_append] at hH5
  have HH5 := Lib.hid hH5
  have HB5 := Lib.hid (be_grown HB04.out hG5 HB04.out.size (fun j hj => by injection hj with hj; omega))
  have HZ5 := Lib.hid ((HZ1.out.below HB14.out (by omega)).grown hG5 (by simp))
  have hs5 := hG5.size
  clear hG5 hH5
  go_wp2_with (refine wpList_of_string rfl 9 78 5 (.tmp 19) rfl _ body rfl rfl Tryz.underlying9 Tryz.underlying78 Tryz.underlying5 (by unfold maxLen; omega) ?_; intro w6 c6 hby hfz hB6 hs6; have HBY6 := Lib.hid hby; have HB6 := Lib.hid hB6; clear hby hfz hB6)
  have HB06 : Hid (Below w.heap.size w w6) := HB5.out.trans (HB6.out.mono (by omega))
  refine (put_any (w.heap.size + 1) 149 _ L body w6 (HTab.out.below HB06.out hl1 hl2) (by omega) (by omega) (HH5.out.below HB6.out (by omega)) (by omega) HBY6.out (fun _ h => by injection h with h; dsimp only at h; omega)).mono ?_
  rintro e w7 ⟨rfl, hG7, hH7⟩
  have HH7 := Lib.hid hH7
  have HB7 := Lib.hid (be_grown HB06.out hG7 HB06.out.size (fun j hj => by injection hj with hj; omega))
  have HZ7 := Lib.hid ((HZ5.out.below HB6.out (by omega)).grown hG7 (by simp))
  have hs7 := hG7.size
  clear hG7 hH7
  go_wp2_with fail
  refine (hsum_any (w.heap.size + 1) _ _ w7 (HTab.out.below HB7.out hl1 hl2) HH7.out (by rw [List.length_append]; omega)).mono ?_
  rintro e w8 ⟨rfl, hB8⟩
  obtain ⟨oc, hoc⟩ : ∃ oc, oc = ((ShaM.sha (L ++ body)).map Y).toArray := ⟨_, rfl⟩
  rw [← hoc]
  have hos : oc.size = 32 := by rw [hoc, List.size_toArray, List.length_map]; rfl
  have HOI : Hid ((Tryz.prog.info? 24).map (·.size) = some oc.size) := by show _ = _; rw [hos]; kernel_rfl
  have HO1 : Hid (oc.all (·.oneCell') = true) := by show _ = _; rw [hoc]; exact ys_all _
  have HOS : Hid (z.size = oc.size) := by show _ = _; rw [hos, HZ.out]
  have HZ8 := Lib.hid (HZ7.out.below hB8 (by omega))
  have HB8 := Lib.hid (HB7.out.trans (hB8.mono (by omega)))
  have HOC := Lib.hid hoc
  clear hoc hos hB8
  go_wp2_with (refine wpList_store_whole rfl 24 _ _ rfl w.heap.size oc rfl rfl 24 z HZ8.out HOI.out HOS.out HO1.out ?_; intro w9 hW9 hG9; have HW9 := Lib.hid hW9; have HB9 := Lib.hid (be_grown HB8.out hG9 HB8.out.size (fun j hj => by injection hj with hj; omega)); clear hW9 hG9)
  refine bodyPost_ret (v := .agg oc) ?_ rfl ⟨by rw [HOC.out, HL.out], HB9.out⟩
  exact results_cell_row (p := 4) (ty := 24) rfl _ _ w.heap.size 24 oc (0, 0) _ rfl HW9.out Tryz.underlying24 rfl HOI.out
theorem oof_any (kind : Int) (body : List UInt8) (w : World) (hTab : Tabs w) (hT : Tens w) (hl : body.length ≤ 100000) :
    Calls Tryz.prog 35 #[.int .i64 kind, .string ⟨body.toArray⟩] w fun e w' => e = .returned (.agg ((ShaM.sha (named kind body)).map Y).toArray) ∧ Below w.heap.size w w' := by
  have h1 := kwd_len kind
  have h2 := itoa_len 5 body.length (by omega)
  exact of_within kind (kwd kind) (Lib.itoa (body.length : Nat)) body w hTab (fun W => oword_any kind W) (fun W hW => itoa_any body.length W (hT.below hW) (by omega)) (by omega)
set_option maxRecDepth 100000 in
set_option maxHeartbeats 4000000 in
theorem rid_any (kind : Int) (body : List UInt8) (w : World) (hl : body.length ≤ 100000) :
    Calls Tryz.prog 29 #[.int .i64 kind, .string ⟨body.toArray⟩] w fun e w' => e = .returned (.agg ((ShaM.sha (named kind body)).map Y).toArray) ∧ Below w.heap.size w w' := by
  have HD := Lib.hid fun W => rdec_any body.length (by omega) W
  have hdl := itoa_len 5 body.length (by omega)
  have HLE := Lib.hid (named_len kind body (by omega))
  have HW0 := Lib.hid (Whole.made w 24 ((List.replicate 32 (0 : UInt8)).map Y).toArray)
  have hB0 := (Below.refl w.heap.size w).alloc (Nat.le_refl _) (.cells ((List.replicate 32 (0 : UInt8)).map Y).toArray 24)
  unfold named at *
  generalize Lib.itoa (body.length : Nat) = dec at *
  by_cases h1 : kind = 1
  · have k1 : (kind == 1) = true := by simp [h1]
    have hk : kwd kind ++ [32] = [98, 108, 111, 98, 32] := by simp [kwd, h1]
    rw [hk] at HLE ⊢
    have HARG := Lib.hid (arg_eq [98, 108, 111, 98, 32] dec body)
    clear h1 hk
    go_enter Tryz.func29, Tryz.ntmps29
    go_wp2_with fail
    refine (HD.out _).mono ?_
    rintro e w1 ⟨rfl, hB⟩
    have HB1 := Lib.hid (hB0.trans (hB.mono (by simp)))
    have HW1 := Lib.hid (HW0.out.below hB HW0.out.lt)
    clear hB hB0
    go_wp2_with fail
    rw [HARG.out]
    refine (rsum_any _ w1 (by have := HLE.out; omega)).mono ?_
    rintro e w2 ⟨rfl, hB⟩
    have HB2 := Lib.hid (HB1.out.trans (hB.mono HB1.out.size))
    have HW2 := Lib.hid (HW1.out.below hB HW1.out.lt)
    clear hB
    obtain ⟨oc, hoc⟩ : ∃ oc, oc = ((ShaM.sha ([98, 108, 111, 98, 32] ++ dec ++ [0] ++ body)).map Y).toArray := ⟨_, rfl⟩
    rw [← hoc]
    have hos : oc.size = 32 := by rw [hoc, List.size_toArray, List.length_map]; exact ShaM.sha_len _
    have HOI : Hid ((Tryz.prog.info? 24).map (·.size) = some oc.size) := by show _ = _; rw [hos]; kernel_rfl
    have HO1 : Hid (oc.all (·.oneCell') = true) := by show _ = _; rw [hoc]; exact ys_all _
    have HOS : Hid ((((List.replicate 32 (0 : UInt8)).map Y).toArray).size = oc.size) := by show _ = _; rw [hos]; simp
    have HOC := Lib.hid hoc
    clear hoc hos
    go_wp2_with (refine wpList_store_whole rfl 24 _ _ rfl w.heap.size oc rfl rfl 24 _ HW2.out HOI.out HOS.out HO1.out ?_; intro w9 hW9 hG9; have HW9 := Lib.hid hW9; have HB9 := Lib.hid (be_grown HB2.out hG9 HB2.out.size (fun j hj => by injection hj with hj; omega)); clear hW9 hG9)
    refine bodyPost_ret (v := .agg oc) ?_ rfl ⟨by rw [HOC.out]; rfl, HB9.out⟩
    exact results_cell_row (p := 4) (ty := 24) rfl _ _ w.heap.size 24 oc (0, 0) _ rfl HW9.out Tryz.underlying24 rfl HOI.out
  · skip
    by_cases h2 : kind = 2
    · have k1 : (kind == 1) = false := by simp [h1]
      have k2 : (kind == 2) = true := by simp [h2]
      have hk : kwd kind ++ [32] = [116, 114, 101, 101, 32] := by simp [kwd, h2]
      rw [hk] at HLE ⊢
      have HARG := Lib.hid (arg_eq [116, 114, 101, 101, 32] dec body)
      clear h1 h2 hk
      go_enter Tryz.func29, Tryz.ntmps29
      go_wp2_with fail
      refine (HD.out _).mono ?_
      rintro e w1 ⟨rfl, hB⟩
      have HB1 := Lib.hid (hB0.trans (hB.mono (by simp)))
      have HW1 := Lib.hid (HW0.out.below hB HW0.out.lt)
      clear hB hB0
      go_wp2_with fail
      rw [HARG.out]
      refine (rsum_any _ w1 (by have := HLE.out; omega)).mono ?_
      rintro e w2 ⟨rfl, hB⟩
      have HB2 := Lib.hid (HB1.out.trans (hB.mono HB1.out.size))
      have HW2 := Lib.hid (HW1.out.below hB HW1.out.lt)
      clear hB
      obtain ⟨oc, hoc⟩ : ∃ oc, oc = ((ShaM.sha ([116, 114, 101, 101, 32] ++ dec ++ [0] ++ body)).map Y).toArray := ⟨_, rfl⟩
      rw [← hoc]
      have hos : oc.size = 32 := by rw [hoc, List.size_toArray, List.length_map]; exact ShaM.sha_len _
      have HOI : Hid ((Tryz.prog.info? 24).map (·.size) = some oc.size) := by show _ = _; rw [hos]; kernel_rfl
      have HO1 : Hid (oc.all (·.oneCell') = true) := by show _ = _; rw [hoc]; exact ys_all _
      have HOS : Hid ((((List.replicate 32 (0 : UInt8)).map Y).toArray).size = oc.size) := by show _ = _; rw [hos]; simp
      have HOC := Lib.hid hoc
      clear hoc hos
      go_wp2_with (refine wpList_store_whole rfl 24 _ _ rfl w.heap.size oc rfl rfl 24 _ HW2.out HOI.out HOS.out HO1.out ?_; intro w9 hW9 hG9; have HW9 := Lib.hid hW9; have HB9 := Lib.hid (be_grown HB2.out hG9 HB2.out.size (fun j hj => by injection hj with hj; omega)); clear hW9 hG9)
      refine bodyPost_ret (v := .agg oc) ?_ rfl ⟨by rw [HOC.out]; rfl, HB9.out⟩
      exact results_cell_row (p := 4) (ty := 24) rfl _ _ w.heap.size 24 oc (0, 0) _ rfl HW9.out Tryz.underlying24 rfl HOI.out
    · skip
      by_cases h3 : kind = 3
      · have k1 : (kind == 1) = false := by simp [h1]
        have k2 : (kind == 2) = false := by simp [h2]
        have k3 : (kind == 3) = true := by simp [h3]
        have hk : kwd kind ++ [32] = [99, 111, 109, 109, 105, 116, 32] := by simp [kwd, h3]
        rw [hk] at HLE ⊢
        have HARG := Lib.hid (arg_eq [99, 111, 109, 109, 105, 116, 32] dec body)
        clear h1 h2 h3 hk
        go_enter Tryz.func29, Tryz.ntmps29
        go_wp2_with fail
        refine (HD.out _).mono ?_
        rintro e w1 ⟨rfl, hB⟩
        have HB1 := Lib.hid (hB0.trans (hB.mono (by simp)))
        have HW1 := Lib.hid (HW0.out.below hB HW0.out.lt)
        clear hB hB0
        go_wp2_with fail
        rw [HARG.out]
        refine (rsum_any _ w1 (by have := HLE.out; omega)).mono ?_
        rintro e w2 ⟨rfl, hB⟩
        have HB2 := Lib.hid (HB1.out.trans (hB.mono HB1.out.size))
        have HW2 := Lib.hid (HW1.out.below hB HW1.out.lt)
        clear hB
        obtain ⟨oc, hoc⟩ : ∃ oc, oc = ((ShaM.sha ([99, 111, 109, 109, 105, 116, 32] ++ dec ++ [0] ++ body)).map Y).toArray := ⟨_, rfl⟩
        rw [← hoc]
        have hos : oc.size = 32 := by rw [hoc, List.size_toArray, List.length_map]; exact ShaM.sha_len _
        have HOI : Hid ((Tryz.prog.info? 24).map (·.size) = some oc.size) := by show _ = _; rw [hos]; kernel_rfl
        have HO1 : Hid (oc.all (·.oneCell') = true) := by show _ = _; rw [hoc]; exact ys_all _
        have HOS : Hid ((((List.replicate 32 (0 : UInt8)).map Y).toArray).size = oc.size) := by show _ = _; rw [hos]; simp
        have HOC := Lib.hid hoc
        clear hoc hos
        go_wp2_with (refine wpList_store_whole rfl 24 _ _ rfl w.heap.size oc rfl rfl 24 _ HW2.out HOI.out HOS.out HO1.out ?_; intro w9 hW9 hG9; have HW9 := Lib.hid hW9; have HB9 := Lib.hid (be_grown HB2.out hG9 HB2.out.size (fun j hj => by injection hj with hj; omega)); clear hW9 hG9)
        refine bodyPost_ret (v := .agg oc) ?_ rfl ⟨by rw [HOC.out]; rfl, HB9.out⟩
        exact results_cell_row (p := 4) (ty := 24) rfl _ _ w.heap.size 24 oc (0, 0) _ rfl HW9.out Tryz.underlying24 rfl HOI.out
      · skip
        have k1 : (kind == 1) = false := by simp [h1]
        have k2 : (kind == 2) = false := by simp [h2]
        have k3 : (kind == 3) = false := by simp [h3]
        have hk : kwd kind ++ [32] = [63, 32] := by simp [kwd, h1, h2, h3]
        rw [hk] at HLE ⊢
        have HARG := Lib.hid (arg_eq [63, 32] dec body)
        clear h1 h2 h3 hk
        go_enter Tryz.func29, Tryz.ntmps29
        go_wp2_with fail
        refine (HD.out _).mono ?_
        rintro e w1 ⟨rfl, hB⟩
        have HB1 := Lib.hid (hB0.trans (hB.mono (by simp)))
        have HW1 := Lib.hid (HW0.out.below hB HW0.out.lt)
        clear hB hB0
        go_wp2_with fail
        rw [HARG.out]
        refine (rsum_any _ w1 (by have := HLE.out; omega)).mono ?_
        rintro e w2 ⟨rfl, hB⟩
        have HB2 := Lib.hid (HB1.out.trans (hB.mono HB1.out.size))
        have HW2 := Lib.hid (HW1.out.below hB HW1.out.lt)
        clear hB
        obtain ⟨oc, hoc⟩ : ∃ oc, oc = ((ShaM.sha ([63, 32] ++ dec ++ [0] ++ body)).map Y).toArray := ⟨_, rfl⟩
        rw [← hoc]
        have hos : oc.size = 32 := by rw [hoc, List.size_toArray, List.length_map]; exact ShaM.sha_len _
        have HOI : Hid ((Tryz.prog.info? 24).map (·.size) = some oc.size) := by show _ = _; rw [hos]; kernel_rfl
        have HO1 : Hid (oc.all (·.oneCell') = true) := by show _ = _; rw [hoc]; exact ys_all _
        have HOS : Hid ((((List.replicate 32 (0 : UInt8)).map Y).toArray).size = oc.size) := by show _ = _; rw [hos]; simp
        have HOC := Lib.hid hoc
        clear hoc hos
        go_wp2_with (refine wpList_store_whole rfl 24 _ _ rfl w.heap.size oc rfl rfl 24 _ HW2.out HOI.out HOS.out HO1.out ?_; intro w9 hW9 hG9; have HW9 := Lib.hid hW9; have HB9 := Lib.hid (be_grown HB2.out hG9 HB2.out.size (fun j hj => by injection hj with hj; omega)); clear hW9 hG9)
        refine bodyPost_ret (v := .agg oc) ?_ rfl ⟨by rw [HOC.out]; rfl, HB9.out⟩
        exact results_cell_row (p := 4) (ty := 24) rfl _ _ w.heap.size 24 oc (0, 0) _ rfl HW9.out Tryz.underlying24 rfl HOI.out
set_option maxRecDepth 100000 in
theorem rgetid_len (s : List UInt8) (w : World) (hl : s.length ≠ 64) : Calls Tryz.prog 81 #[.string ⟨s.toArray⟩] w fun e w' => e = .returned (.tuple #[.agg ((List.replicate 32 0).map Y).toArray, .bool false]) ∧ Below w.heap.size w w' := by
  have hb : ((s.length : Int) != 64) = true := by simp; omega
  clear hl
  go_enter Tryz.func81, Tryz.ntmps81
  go_wp2_with (refine wpList_store_whole rfl 24 _ _ rfl w.heap.size _ rfl rfl 24 _ (((Whole.made w _ _).past _)) (by kernel_rfl) (by kernel_rfl) (by kernel_rfl) ?_; intro w3 hW3 hG3; have HW3 := Lib.hid hW3; have HB3 := Lib.hid (be_grown (((Below.refl w.heap.size w).alloc (Nat.le_refl _) _).alloc (by simp) _) hG3 (by simp; omega) (fun j hj => by injection hj with hj; omega)); clear hW3 hG3)
  exact oget_endG Tryz.results81 false _ w _ _ (by kernel_rfl) rfl rfl rfl HW3.out HB3.out
end Go.Proofs.YtfaijkgfhdhhbaaGreatDoor

/-
  LineEdge, walked.
-/
import Derived.Test.YtbljoeeekhdjkabGreatDoorArg
import Derived.Test.YtbljoeeekhdjkabGreatDoorLineP
import Derived.Laws.MakeOwn
namespace Go.Proofs.YtbljoeeekhdjkabGreatDoor
open Go.RowKit

/-- Noughts. -/
def zcells (n : Nat) : Array Value := ((List.replicate n (0 : UInt8)).map Y ++ []).toArray
theorem made_bytes (n : Nat) : madeCells (Value.int .u8 0).cells n = zcells n := by
  unfold zcells
  apply Array.ext
  · simp [size_madeCells]
  · intro i h1 h2
    simp [madeCells, Value.cells, Nat.mod_one, Y]
theorem make_bytes (n : Nat) (hn : n ≤ 1048576) (W : World) : (Instr.makeSlice 22 (.int .i64 (n : Int)) (.int .i64 (n : Int))).run Tryz.prog W =
    .ok (.slice (some ⟨W.heap.size, 0, none⟩) n n) (W.alloc (.cells (zcells n) 5)) := by
  obtain ⟨bi, hbi, hz0, hz1, hz2⟩ := info_parts infoB
  have h := run_make (P := Tryz.prog) W 22 5 bi (.int .u8 0) Tryz.underlying22 hbi hz0 .i64 .i64 (n : Int) (n : Int) (by omega) (by omega) (by rw [hz2]; omega) (by omega)
  rw [hz1, Int.toNat_natCast, Nat.mul_one] at h
  rw [h]
  exact congrArg (fun cs => Result.ok (Value.slice (some ⟨W.heap.size, 0, none⟩) n n) (W.alloc (.cells cs 5))) (made_bytes n)
theorem edge_len (n0 : Int) : ∃ m : Nat, 990 ≤ m ∧ m ≤ 1009 ∧ wrap64 (990 + (wrap64 (n0.tmod 20 + 20)).tmod 20) = (m : Int) := by
  have h1 := Int.tmod_lt_of_pos n0 (show (0 : Int) < 20 by decide)
  have h2 := Int.lt_tmod_of_pos n0 (show (0 : Int) < 20 by decide)
  generalize n0.tmod 20 = x at *
  have e : wrap64 (x + 20) = x + 20 := by unfold wrap64; omega
  rw [e]
  have e2 : (x + 20).tmod 20 = (x + 20) % 20 := Int.tmod_eq_emod_of_nonneg (by omega)
  rw [e2]
  refine ⟨(990 + (x + 20) % 20).toNat, by omega, by omega, ?_⟩
  unfold wrap64
  omega
theorem take_set (bs : List UInt8) (k : Nat) (c : UInt8) (hk : k < bs.length) (h : bs.take k = List.replicate k c) : (bs.set k c).take (k + 1) = List.replicate (k + 1) c := by
  rw [List.take_succ_eq_append_getElem (by simpa using hk), List.replicate_succ', ← h]
  simp [List.take_set_of_le]
set_option maxRecDepth 100000 in
set_option maxHeartbeats 2000000 in
theorem ledge_any (n0 : Int) (c : UInt8) (w : World) (hE : Env w) : Calls Tryz.prog 9 #[.int .i64 n0, .int .u8 (c.toNat : Int)] w fun e w' => e = .returned (.bool true) ∧ Below w.heap.size w w' := by
  have HE := Lib.hid hE
  clear hE
  obtain ⟨m, hm1, hm2, hm⟩ := edge_len n0
  have hmk := make_bytes m (by omega)
  go_enter Tryz.func9, Tryz.ntmps9
  go_wp2_with fail
  refine (begun_any _ HE.out).mono ?_
  rintro e w1 ⟨rfl, hB⟩
  have HB := Lib.hid hB
  clear hB
  go_wp2_with fail
  rw [hm]
  clear hmk hm
  have hW0 := Whole.made w1 5 (zcells m)
  have hBW := (Below.refl w1.heap.size w1).alloc (Nat.le_refl _) (.cells (zcells m) 5)
  generalize hWe : w1.alloc (.cells (zcells m) 5) = W at *
  have HR0 := Lib.hid (Row.of_whole (c := m) (bs := List.replicate m 0) (sp := []) hW0 (by simp) (by unfold maxLen; omega))
  have HBW := Lib.hid (HB.out.trans (hBW.mono HB.out.size))
  have hsW : w1.heap.size < W.heap.size := hW0.lt
  clear hW0 hBW hWe
  go_loopw [26] (fun i wr => ∃ k bs, k ≤ m ∧ bs.length = m ∧ bs.take k = List.replicate k c ∧ i = .int .i64 ((k : Nat) : Int) ∧ Row wr (some ⟨w1.heap.size, 0, none⟩) m bs ∧ Alt (· = w1.heap.size) W wr) (fun i _ => m - (intOf i).toNat)
  case atStart => exact ⟨0, List.replicate m 0, by omega, by simp, rfl, rfl, HR0.out, Alt.refl _ _⟩
  case round =>
    obtain ⟨k, bs, hk, hlen, htk, rfl, hrow, halt⟩ := hrel
    have HLEN := Lib.hid hlen
    have HTK := Lib.hid htk
    have HROW := Lib.hid hrow
    have HALT := Lib.hid halt
    by_cases hlt : k < m
    · obtain ⟨g, hg, hgl, hc, hz, hput⟩ := hrow.at_ (show k < bs.length by omega)
      obtain rfl : w1.heap.size = g := by injection hg with hg; injection hg
      have HPUT := Lib.hid (hput c)
      have HT2 := Lib.hid (take_set bs k c (by omega) htk)
      clear hlen htk hrow halt hg hput
      go_wp2
      go_roundw
      case rel => exact ⟨k + 1, bs.set k c, by omega, by rw [List.length_set]; exact HLEN.out, HT2.out, by go_num, HPUT.out, Alt.set (R := (· = w1.heap.size)) (p := ⟨w1.heap.size, k, none⟩) HALT.out (.inl rfl) _⟩
      case measure => simp [intOf]; omega
    · obtain rfl : k = m := by omega
      have hbs : bs = List.replicate k c := by rw [← htk, List.take_of_length_le (by omega)]
      subst hbs
      have HBR := Lib.hid (HBW.out.trans ((halt.to (B := w1.heap.size) (by intro j hj; omega) (by omega)).mono HB.out.size))
      have hcv := bytes_str (P := Tryz.prog) 22 9 5 Tryz.underlying22 Tryz.underlying5 Tryz.underlying9 hrow.bytes
      rw [List.length_replicate] at hcv
      clear hlen htk hrow halt
      by_cases hbig : 1000 < k
      · have HP := Lib.hid (lput_bad (List.replicate k c) wr (.inr (by simpa using hbig)))
        go_wp2_with fail
        refine HP.out.mono ?_
        rintro e w' ⟨rfl, rfl⟩
        go_wp2
        go_ret
        exact ⟨rfl, HBR.out⟩
      · have hne : List.replicate k c ≠ [] := by intro e; have := congrArg List.length e; simp at this; omega
        have HP := Lib.hid (lput_good (List.replicate k c) wr (HE.out.at_ HBR.out).tz hne (by simp; omega))
        have hfv := firstV_line (List.replicate k c) [] hne (by simp; omega)
        rw [List.append_nil] at hfv
        have HG := Lib.hid fun W => get_ok 1 _ _ _ W hfv
        have hlp : (hexs 4 (4 + (List.replicate k c).length) ++ List.replicate k c).length = k + 4 := by rw [List.length_append, hexs_len, List.length_replicate]; omega
        have hcv2 : ∀ W2, Below wr.heap.size wr W2 → (convert 22 9 (.slice (some ⟨w1.heap.size, 0, none⟩) k k)).run Tryz.prog W2 = .ok (.string ⟨(List.replicate k c).toArray⟩) W2 := by
          intro W2 hb2
          have h2 := bytes_str (P := Tryz.prog) 22 9 5 Tryz.underlying22 Tryz.underlying5 Tryz.underlying9 (HROW.out.below hb2).bytes
          rw [List.length_replicate] at h2
          exact h2
        have HCV2 := Lib.hid hcv2
        have hrl : (List.replicate k c).length = k := List.length_replicate
        clear hfv hne hcv2
        generalize List.replicate k c = rl at *
        generalize hexs 4 (4 + rl.length) ++ rl = pl at *
        have HLP : Hid (pl.length = k + 4) := hlp
        rw [hrl] at HG
        have HB2 := HBR
        clear hrl hlp HTK HROW HR0
        go_wp2_with fail
        refine HP.out.mono ?_
        rintro e w2 ⟨rfl, hB2⟩
        have HB2 := Lib.hid hB2
        clear hB2
        go_wp2_with fail
        refine (HG.out _).mono ?_
        rintro e w3 ⟨rfl, hB3⟩
        have HB3 := Lib.hid (HB2.out.trans (hB3.mono HB2.out.size))
        have hcv3 := HCV2.out w3 HB3.out
        have hl1 : ((pl.length : Int) == (k : Int) + 4) = true := by rw [HLP.out]; simp
        have hl2 : (((4 + k : Nat) : Int) == (k : Int) + 4) = true := by simp; omega
        clear hB3
        go_wp2
        go_ret
        exact ⟨rfl, HBR.out.trans (HB3.out.mono HBR.out.size)⟩
end Go.Proofs.YtbljoeeekhdjkabGreatDoor

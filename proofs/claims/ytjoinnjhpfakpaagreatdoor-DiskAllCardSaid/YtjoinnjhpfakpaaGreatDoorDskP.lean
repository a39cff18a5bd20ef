/-
  A disk: Crash.
-/
import Derived.Test.YtjoinnjhpfakpaaGreatDoorDskO
namespace Go.Proofs.YtjoinnjhpfakpaaGreatDoor
open Go.RowKit

theorem keep_len (k : Nat) : ∀ (l : List Ch) (i : Nat) (fs : List Fl), fs.length ≤ 100 → (keepGo k l i fs).length ≤ 100
  | [], _, _, h => h
  | x :: l, i, fs, h => by
    refine keep_len k l (i + 1) _ ?_
    unfold keep1
    split
    · exact x.len fs h
    · exact h
theorem keep_take (k : Nat) (l : List Ch) (i : Nat) (x : Ch) (fs : List Fl) (h : l[i]? = some x) : keepGo k (l.take (i + 1)) 0 fs = keep1 k i x (keepGo k (l.take i) 0 fs) := by
  have hi := (List.getElem?_eq_some_iff.1 h).1
  have e : l.take (i + 1) = l.take i ++ [x] := by
    rw [List.take_succ_eq_append_getElem hi]
    congr 2
    exact (List.getElem?_eq_some_iff.1 h).2
  rw [e, keepGo_snoc, List.length_take, Nat.zero_add, Nat.min_eq_left (by omega)]
theorem bit_at (k i : Nat) (hk : k < 2 ^ 64) : bits .and .u64 ((k : Int) / 2 ^ i) 1 = if k.testBit i = true then 1 else 0 := by
  have e : (k : Int) / 2 ^ i = ((k / 2 ^ i : Nat) : Int) := by norm_cast
  have hl : k / 2 ^ i < 18446744073709551616 := Nat.lt_of_le_of_lt (Nat.div_le_self _ _) hk
  rw [e, show (1 : Int) = ((1 : Nat) : Int) from rfl, u64_and_nat _ _ hl (by decide), Nat.and_one_is_mod, Nat.testBit_eq_decide_div_mod_eq]
  by_cases h : k / 2 ^ i % 2 = 1
  · simp [h]
  · have h0 : k / 2 ^ i % 2 = 0 := by omega
    simp [h0]
set_option maxRecDepth 100000 in
theorem dcrash_any (N : Nat → Prop) (b : Nat) (s : DS) (k : Nat) (w : World) (h : Dk w N b s) (hk : k < 2 ^ 64) :
    Calls Tryz.prog 19 #[.pointer (some ⟨b, 0, none⟩), .int .u64 (k : Int)] w fun e w' => e = .returned (.tuple #[]) ∧ Dk w' N b (s.crash k) ∧ Alt (· = b) w w' := by
  obtain ⟨p, hp⟩ := h
  have HP := Lib.hid hp
  have hc1 : w.cell? ⟨b, 1, none⟩ = some (.slice p.A2 s.sure.length p.c2) := (Whole.at_ hp.cells 1).trans rfl
  have hc2 : w.cell? ⟨b, 2, none⟩ = some (.slice p.A3 s.since.length p.c3) := (Whole.at_ hp.cells 2).trans rfl
  clear hp
  go_enter Tryz.func19, Tryz.ntmps19
  go_wp2
  go_loopw [4, 20] (fun s4 s20 wr => ∃ (i : Nat) (A : Option Addr) (c : Nat), i ≤ s.since.length ∧ s4 = .slice A (keepGo k (s.since.take i) 0 s.sure).length c ∧ s20 = .int .i64 (i : Int) ∧ ArgG encF noF 2 wr A c (keepGo k (s.since.take i) 0 s.sure) ∧ (0 < (keepGo k (s.since.take i) 0 s.sure).length → ∀ j, inBlk A j → ¬ N j) ∧ Below w.heap.size w wr) (fun _ i _ => s.since.length - (intOf i).toNat)
  case atStart => exact ⟨0, p.A2, p.c2, Nat.zero_le _, rfl, rfl, HP.out.sure, HP.out.n2, Below.refl _ _⟩
  case round =>
    obtain ⟨i, A, c, hi, rfl, rfl, hA, hn, hB⟩ := hrel
    have HA := Lib.hid hA
    have HN := Lib.hid hn
    have HB := Lib.hid hB
    have HL := Lib.hid (keep_len k (s.since.take i) 0 s.sure HP.out.sureLen)
    clear hA hn hB
    by_cases hlt : i < s.since.length
    · obtain ⟨x, hx⟩ : ∃ x, s.since[i]? = some x := ⟨_, List.getElem?_eq_getElem hlt⟩
      have HS := Lib.hid (keep_take k s.since i x s.sure hx)
      have hlv := HP.out.len
      obtain ⟨v, hv⟩ : ∃ v, p.vs[i]? = some v := ⟨_, List.getElem?_eq_getElem (by omega)⟩
      have hch := HP.out.ch i v x hv hx
      obtain ⟨G, caps, rfl, he, hcall⟩ := hch.call
      obtain ⟨b3, o3, he3, hr3⟩ := HP.out.row.2.2.2 (by omega)
      have hcv := hr3 i _ hv
      have hcw := (HB.out.cell (World.block_lt_of_cell? w _ hcv)).trans hcv
      have hlt' : (i : Int) < (s.since.length : Int) := by omega
      have hl64 := HP.out.sinceLen
      rw [he3] at *
      generalize keepGo k (s.since.take i) 0 s.sure = fs at *
      clear hv hch hr3 hcv
      have kb0 := bit_at k i hk
      by_cases hbit : k.testBit i = true
      · rw [if_pos hbit] at kb0
        have HK1 : Hid (keep1 k i x fs = if (x.run fs).1 = 0 then (x.run fs).2 else fs) := by
          show _ = _
          unfold keep1
          simp only [hbit, true_and]
        have HC := Lib.hid (hcall wr (Alt.of_below HB.out) A c fs HA.out (by have := HL.out; omega))
        generalize x.run fs = r at *
        obtain ⟨e0, fs'⟩ := r
        by_cases h0 : e0 = 0
        · have hee : ((e0 : Int) == 0) = true := by simp [h0]
          rw [if_pos h0] at HK1
          clear hbit hcall h0
          go_wp2_with fail
          refine HC.out.mono ?_
          rintro e w1 ⟨⟨A4, c4, rfl, hA4, hO4⟩, hB⟩
          have HA4 := Lib.hid hA4
          have HO4 : Hid (0 < fs'.length → ∀ j, inBlk A4 j → ¬ N j) := fun h0 j hj hNj => (hO4 j hj).elim (fun h => by have := HP.out.nlt j hNj; have := HB.out.size; omega) (fun h => HN.out (by have := h.2; simp only at this; rw [← this]; exact h0) j h.1 hNj)
          have HB1 := Lib.hid (HB.out.trans (hB.mono HB.out.size))
          clear hA4 hO4 hB HC
          go_wp2
          go_roundw
          case rel => exact ⟨i + 1, A4, c4, hlt, by rw [HS.out, HK1.out], by go_num, by rw [HS.out, HK1.out]; exact HA4.out, by rw [HS.out, HK1.out]; exact HO4.out, HB1.out⟩
          case measure => simp [intOf]; omega
        · have hee : ((e0 : Int) == 0) = false := by simp [h0]
          rw [if_neg h0] at HK1
          clear hbit hcall h0
          go_wp2_with fail
          refine HC.out.mono ?_
          rintro e w1 ⟨⟨A4, c4, rfl, hA4, hO4⟩, hB⟩
          have HA1 := Lib.hid (HA.out.later eltF hB)
          have HB1 := Lib.hid (HB.out.trans (hB.mono HB.out.size))
          clear hA4 hO4 hB HC
          go_wp2
          go_roundw
          case rel => exact ⟨i + 1, A, c, hlt, by rw [HS.out, HK1.out], by go_num, by rw [HS.out, HK1.out]; exact HA1.out, by rw [HS.out, HK1.out]; exact HN.out, HB1.out⟩
          case measure => simp [intOf]; omega
      · rw [if_neg hbit] at kb0
        have HK1 : Hid (keep1 k i x fs = fs) := by
          show _ = _
          unfold keep1
          rw [if_neg (fun h => hbit h.1)]
        clear hbit hcall
        go_wp2
        go_roundw
        case rel => exact ⟨i + 1, A, c, hlt, by rw [HS.out, HK1.out], by go_num, by rw [HS.out, HK1.out]; exact HA.out, by rw [HS.out, HK1.out]; exact HN.out, HB.out⟩
        case measure => simp [intOf]; omega
    · obtain rfl : i = s.since.length := by omega
      have hlt' : ¬ (s.since.length : Int) < (s.since.length : Int) := Int.lt_irrefl _
      rw [List.take_length] at *
      have HKW := Lib.hid (HP.out.cells.below HB.out HP.out.cells.lt)
      have hc3 : wr.cell? ⟨b, 3, none⟩ = some (.int .i64 (s.ops : Int)) := (Whole.at_ HKW.out 3).trans rfl
      have HF : Hid (keepGo k s.since 0 s.sure = (s.crash k).now) := rfl
      generalize keepGo k s.since 0 s.sure = fs at *
      go_wp2_with ((refine wpList_store_whole rfl 72 _ _ rfl b #[.slice A fs.length c, .slice A fs.length c, .slice none 0 0, .int .i64 (s.ops : Int), .bool false, .int .i64 0, .bool false] rfl rfl 72 _ HKW.out (by kernel_rfl) rfl (by simp [Value.oneCell']) ?_); intro w3 hWn hGn; have HW3 := Lib.hid hWn; have HG3 := Lib.hid hGn; clear hWn hGn)
      have hA3 : Alt (· = b) wr w3 := Alt.of_grown HG3.out (fun j hj => (Option.some.inj hj).symm)
      have hN3 : Alt N wr w3 := hA3.mono (fun k _ e => e ▸ HP.out.nb)
      have hn := HA.out.alt' hN3 HN.out
      refine bodyPost_end (v := .tuple #[]) (by simp [results, show Tryz.func19.results = #[] from rfl]) rfl ⟨rfl, ⟨⟨A, c, A, c, none, 0, []⟩, ?_⟩, (Alt.of_below HB.out).trans hA3⟩
      have hcr : s.crash k = ⟨fs, fs, [], s.ops, false, 0, false⟩ := by rw [HF.out]; rfl
      rw [hcr]
      exact ⟨HP.out.nb, fun j hj => Nat.lt_of_lt_of_le (HP.out.nlt j hj) (Nat.le_trans HB.out.size hA3.size), HW3.out, hn, hn, rowV_nil _, rfl, fun i v x h => by simp at h, HN.out, HN.out, (fun h => by simp at h), HL.out, HL.out, Nat.zero_le _, HP.out.opsLt, (by constructor <;> simp)⟩
theorem ddown_dk (N : Nat → Prop) (b : Nat) (s : DS) (w : World) (h : Dk w N b s) : Calls Tryz.prog 25 #[.pointer (some ⟨b, 0, none⟩)] w fun e w' => e = .returned (.bool s.down) ∧ w = w' :=
  h.elim fun _ hp => ddown_any b _ _ _ _ _ _ _ w hp.cells
theorem dops_dk (N : Nat → Prop) (b : Nat) (s : DS) (w : World) (h : Dk w N b s) : Calls Tryz.prog 26 #[.pointer (some ⟨b, 0, none⟩)] w fun e w' => e = .returned (.int .i64 (s.ops : Int)) ∧ w = w' :=
  h.elim fun _ hp => dops_any b _ _ _ _ _ _ _ w hp.cells
theorem dfuse_dk (N : Nat → Prop) (b : Nat) (s : DS) (k : Int) (w : World) (h : Dk w N b s) (hd : s.down = false) (hk : -(2 ^ 63) ≤ k ∧ k < 2 ^ 63) : Calls Tryz.prog 17 #[.pointer (some ⟨b, 0, none⟩), .int .i64 k] w fun e w' => e = .returned (.tuple #[]) ∧ Dk w' N b { s with fused := decide (k ≥ 0), left := k } ∧ Alt (· = b) w w' := by
  obtain ⟨p, hp⟩ := h
  have hc := hp.cells
  rw [hd] at hc
  refine (fuse_any b _ _ _ _ _ k _ w hc).mono ?_
  rintro e w' ⟨rfl, hk', hg⟩
  have ha : Alt (· = b) w w' := Alt.of_grown hg (fun j hj => (Option.some.inj hj).symm)
  refine ⟨rfl, ⟨p, hp.turn ha ?_ rfl rfl rfl hp.opsLt hk⟩, ha⟩
  show DkW w' b _ _ _ _ _ _ s.down
  rw [hd]
  exact hk'
end Go.Proofs.YtjoinnjhpfakpaaGreatDoor

/-
  The document's disk: New, Read, Fuse, Crash.
-/
import Derived.Test.YtjoinnjhpfakpaaGreatDoorR13I
namespace Go.Proofs.YtjoinnjhpfakpaaGreatDoor
open Go.RowKit

theorem rnew_any (N : Nat → Prop) (w : World) (h1 : N w.heap.size) (h2 : ∀ j, N j → j ≤ w.heap.size) : Calls Tryz.prog 7 #[] w fun e w' => e = .returned (.pointer (some ⟨w.heap.size, 0, none⟩)) ∧ (∃ p, RkP w' N w.heap.size DS.new p) ∧ Below w.heap.size w w' := by
  go_enter Tryz.func7, Tryz.ntmps7
  go_wp2
  go_ret
  exact ⟨rfl, ⟨⟨none, 0, none, 0, .slice none 0 0⟩, ⟨h1, fun j hj => by have := h2 j hj; simp; omega, Whole.made w _ _, argG_nil _, argG_nil _, World.ownsRow_nil _ _ _ _, (fun j e => by cases e), fun h => by simp [DS.new] at h, fun h => by simp [DS.new] at h⟩⟩, (Below.refl _ _).alloc (Nat.le_refl _) _⟩
set_option maxRecDepth 100000 in
theorem rread_any (N : Nat → Prop) (rb : Nat) (s : DS) (p : RP) (nm : List UInt8) (w : World) (h : RkP w N rb s p) (hg : Good s) :
    Calls Tryz.prog 22 #[.pointer (some ⟨rb, 0, none⟩), .string ⟨nm.toArray⟩] w fun e w' => e = .returned (.tuple #[.string ⟨(s.read nm).1.toArray⟩, .int .i64 ((s.read nm).2 : Int)]) ∧ Below w.heap.size w w' := by
  have c2 : w.cell? ⟨rb, 2, none⟩ = some (.slice p.A1 s.now.length p.c1) := (Whole.at_ h.cells 2).trans rfl
  have HAT := Lib.hid (rat_any p.A1 p.c1 s.now nm w h.now hg.now (by have := hg.nowLen; omega))
  have HCC : Hid (∀ W, Below w.heap.size w W → W.cell? ⟨rb, 2, none⟩ = some (.slice p.A1 s.now.length p.c1) ∧ W.cell? ⟨rb, 5, none⟩ = some (.bool s.down)) := fun W hW => ⟨(Whole.at_ (h.below hW).cells 2).trans rfl, (Whole.at_ (h.below hW).cells 5).trans rfl⟩
  have H := Lib.hid h
  clear h
  unfold DS.read
  cases hd : s.down with
  | true =>
    rw [if_pos rfl]
    rw [hd] at HCC
    go_enter Tryz.func22, Tryz.ntmps22
    go_wp2_with (go_at_call 37; refine HAT.out.mono ?_; rintro e w2 ⟨rfl, hB2⟩; have cc2 := (HCC.out w2 hB2).1; have cc5 := (HCC.out w2 hB2).2; have HB2 := Lib.hid hB2; clear hB2 HAT)
    exact bodyPost_ret (results_tmp2 rfl _ _ _) rfl ⟨rfl, HB2.out⟩
  | false =>
    rw [if_neg (by simp)]
    rw [hd] at HCC
    cases hb : bsF s.now nm with
    | false =>
      rw [if_neg (by simp)]
      rw [hb] at HAT
      go_enter Tryz.func22, Tryz.ntmps22
      go_wp2_with (go_at_call 37; refine HAT.out.mono ?_; rintro e w2 ⟨rfl, hB2⟩; have cc2 := (HCC.out w2 hB2).1; have cc5 := (HCC.out w2 hB2).2; have HB2 := Lib.hid hB2; clear hB2 HAT)
      exact bodyPost_ret (results_tmp2 rfl _ _ _) rfl ⟨rfl, HB2.out⟩
    | true =>
      rw [if_pos rfl]
      rw [hb] at HAT
      have hlt := bsF_lt hb
      obtain ⟨bb, o, he, hrow⟩ := H.out.now.2.2.2 (by omega)
      have hct := hrow (bsW s.now nm) hlt 1 _ rfl
      generalize htx : (s.now.getD (bsW s.now nm) noF).2 = tx at *
      generalize hp : bsW s.now nm = q at *
      have hlt' : (q : Int) < (s.now.length : Int) := by omega
      rw [he] at HAT HCC c2
      have HCT : Hid (∀ W, Below w.heap.size w W → W.cell? ⟨bb, o + q * 2 + 1, none⟩ = some (.string ⟨tx.toArray⟩)) := fun W hW => (hW.cell (World.block_lt_of_cell? _ _ hct)).trans hct
      clear hrow H hct
      go_enter Tryz.func22, Tryz.ntmps22
      go_wp2_with (go_at_call 37; refine HAT.out.mono ?_; rintro e w2 ⟨rfl, hB2⟩; have cc2 := (HCC.out w2 hB2).1; have cc5 := (HCC.out w2 hB2).2; have cct := HCT.out w2 hB2; have HB2 := Lib.hid hB2; clear hB2 HAT)
      exact bodyPost_ret (results_tmp2 rfl _ _ _) rfl ⟨rfl, HB2.out⟩
/-- The disk behind Fuse. -/
def DS.setFuse (s : DS) (k : Int) : DS := if s.down = true then s else { s with fused := decide (k ≥ 0), left := k }
set_option maxRecDepth 100000 in
theorem rfuse_any (N : Nat → Prop) (rb : Nat) (s : DS) (p : RP) (k : Int) (w : World) (h : RkP w N rb s p) :
    Calls Tryz.prog 18 #[.pointer (some ⟨rb, 0, none⟩), .int .i64 k] w fun e w' => e = .returned (.tuple #[]) ∧ RkP w' N rb (s.setFuse k) p ∧ Alt (Ref N rb) w w' := by
  have c5 : w.cell? ⟨rb, 5, none⟩ = some (.bool s.down) := (Whole.at_ h.cells 5).trans rfl
  have c3 : w.cell? ⟨rb, 3, none⟩ = some (.int .i64 s.fuse) := (Whole.at_ h.cells 3).trans rfl
  have z3 := Whole.thawed h.cells 3
  obtain ⟨q, hq⟩ : ∃ q, q = if k ≥ 0 then k else -1 := ⟨_, rfl⟩
  have hmax : ∀ W, (Builtin.max_ #[3, 3] 3 #[.int .i64 k, .int .i64 (-1)]).run Tryz.prog W = .ok (.int .i64 q) W := by
    intro W
    rw [run_max_int2, hq]
    congr 2
    split <;> split <;> omega
  have H := Lib.hid h
  have HQ := Lib.hid hq
  clear h hq
  unfold DS.setFuse
  cases hd : s.down with
  | true =>
    rw [hd] at c5
    rw [if_pos rfl]
    go_enter Tryz.func18, Tryz.ntmps18
    go_wp2
    exact bodyPost_end (v := .tuple #[]) (by simp [results, show Tryz.func18.results = #[] from rfl]) rfl ⟨rfl, H.out, Alt.refl _ _⟩
  | false =>
    rw [hd] at c5
    rw [if_neg (by simp)]
    go_enter Tryz.func18, Tryz.ntmps18
    go_wp2
    have hk2 : Whole (w.setCell ⟨rb, 3, none⟩ (.int .i64 q)) rb 76 #[.slice p.A2 s.sure.length p.c2, p.O, .slice p.A1 s.now.length p.c1, .int .i64 q, .int .i64 (s.ops : Int), .bool s.down] := Whole.put H.out.cells 3 _
    have ha2 : Alt (· = rb) w (w.setCell ⟨rb, 3, none⟩ (.int .i64 q)) := (Alt.refl (· = rb) w).set (.inl rfl) _
    refine bodyPost_end (v := .tuple #[]) (by simp [results, show Tryz.func18.results = #[] from rfl]) rfl ⟨rfl, H.out.turn ha2 ?_ rfl rfl rfl, ref_one ha2 H.out.nb⟩
    have hf : DS.fuse { now := s.now, sure := s.sure, since := s.since, ops := s.ops, fused := decide (k ≥ 0), left := k, down := false } = q := by
      rw [HQ.out]
      unfold DS.fuse
      by_cases h0 : k ≥ 0
      · simp [h0]
      · simp [h0]
    show Whole _ rb _ #[.slice p.A2 s.sure.length p.c2, p.O, .slice p.A1 s.now.length p.c1, .int .i64 (DS.fuse { now := s.now, sure := s.sure, since := s.since, ops := s.ops, fused := decide (k ≥ 0), left := k, down := false }), .int .i64 (s.ops : Int), .bool false]
    rw [hf]
    rw [hd] at hk2
    exact hk2
/-! ### Crash -/
theorem keep_rd (k i : Nat) (x : Ch) (fs : List Fl) (hx : okC x) (hl : fs.length ≤ 100) : keep1 k i x fs = if k.testBit i = true then rdone x fs else fs := by
  unfold keep1
  rw [← run_done fs x hx hl]
  by_cases h : k.testBit i = true
  · simp [h]
  · simp [h]
theorem keep_rises (k : Nat) : ∀ (l : List Ch) (i : Nat) (fs : List Fl), Rises fs → Rises (keepGo k l i fs)
  | [], _, _, h => h
  | x :: l, i, fs, h => by
    refine keep_rises k l (i + 1) _ ?_
    unfold keep1
    split
    · next hh => exact rises_run h x hh.2
    · exact h
set_option maxRecDepth 100000 in
set_option maxHeartbeats 4000000 in
theorem rcrash_any (N : Nat → Prop) (rb : Nat) (s : DS) (p : RP) (k : Nat) (w : World) (h : RkP w N rb s p) (hg : Good s) (hk : k < 2 ^ 64) :
    Calls Tryz.prog 20 #[.pointer (some ⟨rb, 0, none⟩), .int .u64 (k : Int)] w fun e w' => e = .returned (.tuple #[]) ∧ (∃ p', RkP w' N rb (s.crash k) p') ∧ Alt (Ref N rb) w w' := by
  have c0 : w.cell? ⟨rb, 0, none⟩ = some (.slice p.A2 s.sure.length p.c2) := (Whole.at_ h.cells 0).trans rfl
  obtain ⟨Ao, co, hO, hOA, -⟩ := own_argG eltO h.own
  have H := Lib.hid h
  have HOA := Lib.hid hOA
  have hl63 := hg.sinceLen
  clear h hOA
  go_enter Tryz.func20, Tryz.ntmps20
  go_wp2
  go_loopw [4, 5] (fun s4 s5 wr => ∃ (i : Nat) (A : Option Addr) (c : Nat), i ≤ s.since.length ∧ s4 = .slice A (keepGo k (s.since.take i) 0 s.sure).length c ∧ s5 = .int .i64 (i : Int) ∧ ArgG encF noF 2 wr A c (keepGo k (s.since.take i) 0 s.sure) ∧ (0 < (keepGo k (s.since.take i) 0 s.sure).length → ∀ j, inBlk A j → ¬ N j) ∧ Below w.heap.size w wr) (fun _ i _ => s.since.length - (intOf i).toNat)
  case atStart => exact ⟨0, p.A2, p.c2, Nat.zero_le _, rfl, rfl, H.out.sure, H.out.n2, Below.refl _ _⟩
  case round =>
    obtain ⟨i, A, c, hi, rfl, rfl, hA, hn, hB⟩ := hrel
    have HA := Lib.hid hA
    have HN := Lib.hid hn
    have HB := Lib.hid hB
    have HL := Lib.hid (keep_len k (s.since.take i) 0 s.sure hg.sureLen)
    have HR := Lib.hid (keep_rises k (s.since.take i) 0 s.sure hg.sure)
    have hcw := Whole.below H.out.cells hB H.out.cells.lt
    have c1 : wr.cell? ⟨rb, 1, none⟩ = some (.slice Ao s.since.length co) := by
      have := (Whole.at_ hcw 1).trans rfl
      rw [← hO]
      exact this
    have HCW := Lib.hid hcw
    clear hA hn hB hcw
    by_cases hlt : i < s.since.length
    · obtain ⟨x, hx⟩ : ∃ x, s.since[i]? = some x := ⟨_, List.getElem?_eq_getElem hlt⟩
      have HS := Lib.hid (keep_take k s.since i x s.sure hx)
      have hok := hg.ok x (List.mem_of_getElem? hx)
      obtain ⟨bo, oo, hAo, hrow⟩ := (HOA.out.later eltO HB.out).2.2.2 (by omega)
      have hrx := hrow i hlt
      rw [List.getD_eq_getElem?_getD, hx, Option.getD_some] at hrx
      have HRX := Lib.hid hrx
      rw [hAo] at c1
      have hlt' : (i : Int) < (s.since.length : Int) := by omega
      have h64 : (i : Int) < 64 := by omega
      have HRD := Lib.hid (keep_rd k i x (keepGo k (s.since.take i) 0 s.sure) hok HL.out)
      generalize keepGo k (s.since.take i) 0 s.sure = fs at *
      have kb0 := bit_at k i hk
      clear hrow hrx hx
      by_cases hbit : k.testBit i = true
      · rw [if_pos hbit] at kb0
        have HRD2 : Hid (keep1 k i x fs = rdone x fs) := by show _ = _; rw [HRD.out, if_pos hbit]
        have HC := Lib.hid (rdone_any x hok A c fs wr HA.out HR.out HL.out)
        have HIO : Hid ((Tryz.prog.info? 86).map (·.size) = some (encP4 x).length) := by show _ = _; rw [eltO.len]; kernel_rfl
        clear hbit
        go_wp2_with (first
          | (refine wpList_load_mid rfl 86 _ rfl bo (oo + i * 4) rfl (encP4 x) _ HRX.out Tryz.underlying86 rfl HIO.out ?_)
          | (go_at_call 45; refine HC.out.mono ?_; rintro e w1 ⟨⟨A4, c4, rfl, hA4, hO4⟩, hB4⟩; have HA4 := Lib.hid hA4; have HO4 := Lib.hid hO4; have HB1 := Lib.hid (HB.out.trans (hB4.mono HB.out.size)); clear hA4 hO4 hB4))
        go_roundw
        case rel =>
          refine ⟨i + 1, A4, c4, hlt, by rw [HS.out, HRD2.out], by go_num, by rw [HS.out, HRD2.out]; exact HA4.out, ?_, HB1.out⟩
          rw [HS.out, HRD2.out]
          intro h0 j hj hNj
          rcases HO4.out j hj with h1 | ⟨h1, h2⟩
          · have := H.out.nlt j hNj
            have := HB.out.size
            omega
          · rw [h2] at h0
            exact HN.out h0 j h1 hNj
        case measure => simp [intOf]; omega
      · rw [if_neg hbit] at kb0
        have HRD2 : Hid (keep1 k i x fs = fs) := by show _ = _; rw [HRD.out, if_neg hbit]
        clear hbit
        go_wp2
        go_roundw
        case rel => exact ⟨i + 1, A, c, hlt, by rw [HS.out, HRD2.out], by go_num, by rw [HS.out, HRD2.out]; exact HA.out, by rw [HS.out, HRD2.out]; exact HN.out, HB.out⟩
        case measure => simp [intOf]; omega
    · obtain rfl : i = s.since.length := by omega
      have hlt' : ¬ (s.since.length : Int) < (s.since.length : Int) := Int.lt_irrefl _
      rw [List.take_length] at *
      have cc0 := (Whole.at_ HCW.out 0).trans rfl
      have cc2 := (Whole.at_ HCW.out 2).trans rfl
      have cc3 := (Whole.at_ HCW.out 3).trans rfl
      have cc5 := (Whole.at_ HCW.out 5).trans rfl
      have z0 := Whole.thawed HCW.out 0
      have z1 := Whole.thawed HCW.out 1
      have z2 := Whole.thawed HCW.out 2
      have z3 := Whole.thawed HCW.out 3
      have z5 := Whole.thawed HCW.out 5
      have HF : Hid (keepGo k s.since 0 s.sure = (s.crash k).now) := rfl
      generalize keepGo k s.since 0 s.sure = fs at *
      go_wp2
      have k1 : Whole (wr.setCell ⟨rb, 0, none⟩ (.slice A fs.length c)) rb 76 #[.slice A fs.length c, p.O, .slice p.A1 s.now.length p.c1, .int .i64 s.fuse, .int .i64 (s.ops : Int), .bool s.down] := Whole.put HCW.out 0 _
      have k2 : Whole ((wr.setCell ⟨rb, 0, none⟩ (.slice A fs.length c)).setCell ⟨rb, 2, none⟩ (.slice A fs.length c)) rb 76 #[.slice A fs.length c, p.O, .slice A fs.length c, .int .i64 s.fuse, .int .i64 (s.ops : Int), .bool s.down] := Whole.put k1 2 _
      have k3 : Whole (((wr.setCell ⟨rb, 0, none⟩ (.slice A fs.length c)).setCell ⟨rb, 2, none⟩ (.slice A fs.length c)).setCell ⟨rb, 1, none⟩ (.slice none 0 0)) rb 76 #[.slice A fs.length c, .slice none 0 0, .slice A fs.length c, .int .i64 s.fuse, .int .i64 (s.ops : Int), .bool s.down] := Whole.put k2 1 _
      have k4 : Whole ((((wr.setCell ⟨rb, 0, none⟩ (.slice A fs.length c)).setCell ⟨rb, 2, none⟩ (.slice A fs.length c)).setCell ⟨rb, 1, none⟩ (.slice none 0 0)).setCell ⟨rb, 3, none⟩ (.int .i64 (-1))) rb 76 #[.slice A fs.length c, .slice none 0 0, .slice A fs.length c, .int .i64 (-1), .int .i64 (s.ops : Int), .bool s.down] := Whole.put k3 3 _
      have k5 : Whole (((((wr.setCell ⟨rb, 0, none⟩ (.slice A fs.length c)).setCell ⟨rb, 2, none⟩ (.slice A fs.length c)).setCell ⟨rb, 1, none⟩ (.slice none 0 0)).setCell ⟨rb, 3, none⟩ (.int .i64 (-1))).setCell ⟨rb, 5, none⟩ (.bool false)) rb 76 #[.slice A fs.length c, .slice none 0 0, .slice A fs.length c, .int .i64 (-1), .int .i64 (s.ops : Int), .bool false] := Whole.put k4 5 _
      have a5 : Alt (· = rb) wr (((((wr.setCell ⟨rb, 0, none⟩ (.slice A fs.length c)).setCell ⟨rb, 2, none⟩ (.slice A fs.length c)).setCell ⟨rb, 1, none⟩ (.slice none 0 0)).setCell ⟨rb, 3, none⟩ (.int .i64 (-1))).setCell ⟨rb, 5, none⟩ (.bool false)) := (((((Alt.refl (· = rb) wr).set (p := ⟨rb, 0, none⟩) (.inl rfl) _).set (p := ⟨rb, 2, none⟩) (.inl rfl) _).set (p := ⟨rb, 1, none⟩) (.inl rfl) _).set (p := ⟨rb, 3, none⟩) (.inl rfl) _).set (p := ⟨rb, 5, none⟩) (.inl rfl) _
      clear k1 k2 k3 k4
      generalize ((((wr.setCell ⟨rb, 0, none⟩ (.slice A fs.length c)).setCell ⟨rb, 2, none⟩ (.slice A fs.length c)).setCell ⟨rb, 1, none⟩ (.slice none 0 0)).setCell ⟨rb, 3, none⟩ (.int .i64 (-1))).setCell ⟨rb, 5, none⟩ (.bool false) = w5 at *
      have hA5 := (Alt.of_below (R := (· = rb)) HB.out).trans a5
      have hN5 : Alt N wr w5 := a5.mono (fun k _ e => e ▸ H.out.nb)
      have hn5 := HA.out.alt' hN5 HN.out
      refine bodyPost_end (v := .tuple #[]) (by simp [results, show Tryz.func20.results = #[] from rfl]) rfl ⟨rfl, ⟨⟨A, c, A, c, .slice none 0 0⟩, ?_⟩, ref_one hA5 H.out.nb⟩
      have hcr : s.crash k = ⟨fs, fs, [], s.ops, false, 0, false⟩ := by rw [HF.out]; rfl
      rw [hcr]
      exact ⟨H.out.nb, fun j hj => Nat.lt_of_lt_of_le (H.out.nlt j hj) hA5.size, k5, hn5, hn5, World.ownsRow_nil _ _ _ _, (fun j e => by cases e), HN.out, HN.out⟩
end Go.Proofs.YtjoinnjhpfakpaaGreatDoor

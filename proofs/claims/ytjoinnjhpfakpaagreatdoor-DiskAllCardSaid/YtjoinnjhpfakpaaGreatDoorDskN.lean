/-
  A disk: do, where nothing is done.
-/
import Derived.Test.YtjoinnjhpfakpaaGreatDoorDskM
namespace Go.Proofs.YtjoinnjhpfakpaaGreatDoor
open Go.RowKit

set_option maxRecDepth 100000 in
theorem ddo_down (N : Nat → Prop) (b : Nat) (s : DS) (v : Value) (w : World) (h : Dk w N b s) (hd : s.down = true) :
    Calls Tryz.prog 34 #[.pointer (some ⟨b, 0, none⟩), v] w fun e w' => e = .returned (.int .i64 6) ∧ w = w' := by
  obtain ⟨p, hp⟩ := h
  have HD := Lib.hid (ddown_any b _ _ _ _ _ _ _ w hp.cells)
  rw [hd] at HD
  go_enter Tryz.func34, Tryz.ntmps34
  go_wp2_with (go_at_call 25; refine HD.out.mono ?_; rintro e w1 ⟨rfl, rfl⟩)
  go_ret
  exact ⟨rfl, rfl⟩
set_option maxRecDepth 100000 in
theorem ddo_no (N : Nat → Prop) (b : Nat) (s : DS) (v : Value) (x : Ch) (w : World) (h : Dk w N b s) (hx : IsCh w N v x) (hd : s.down = false) (hk : (x.run s.now).1 ≠ 0) :
    Calls Tryz.prog 34 #[.pointer (some ⟨b, 0, none⟩), v] w fun e w' => e = .returned (.int .i64 ((x.run s.now).1 : Int)) ∧ Below w.heap.size w w' := by
  obtain ⟨p, hp⟩ := h
  obtain ⟨G, caps, rfl, he, hcall⟩ := hx.call
  have HD := Lib.hid (ddown_any b _ _ _ _ _ _ _ w hp.cells)
  rw [hd] at HD
  have HC := Lib.hid (hcall w (Alt.refl _ _) p.A1 p.c1 s.now hp.now (by have := hp.nowLen; omega))
  have hc0 : w.cell? ⟨b, 0, none⟩ = some (.slice p.A1 s.now.length p.c1) := (Whole.at_ hp.cells 0).trans rfl
  generalize x.run s.now = r at *
  obtain ⟨k, fs'⟩ := r
  simp only at hk
  have hk' : ((k : Int) != 0) = true := by simp; omega
  clear hx hcall hp hk
  go_enter Tryz.func34, Tryz.ntmps34
  go_wp2_with (go_at_call 25; refine HD.out.mono ?_; rintro e w1 ⟨rfl, rfl⟩)
  refine HC.out.mono ?_
  rintro e w1 ⟨⟨A4, c4, rfl, hA4, hO4⟩, hB⟩
  have HB := Lib.hid hB
  clear hB hA4 HC hc0 HD
  go_wp2
  go_ret
  exact ⟨rfl, HB.out⟩
set_option maxRecDepth 100000 in
theorem ddo_blown (N : Nat → Prop) (b : Nat) (s : DS) (v : Value) (x : Ch) (w : World) (h : Dk w N b s) (hx : IsCh w N v x) (hd : s.down = false) (hk : (x.run s.now).1 = 0) (hf : s.fused = true) (hl : s.left = 0) :
    Calls Tryz.prog 34 #[.pointer (some ⟨b, 0, none⟩), v] w fun e w' => e = .returned (.int .i64 6) ∧ Dk w' N b { s with down := true } ∧ Alt (· = b) w w' := by
  obtain ⟨p, hp⟩ := h
  obtain ⟨G, caps, rfl, he, hcall⟩ := hx.call
  have HD := Lib.hid (ddown_any b _ _ _ _ _ _ _ w hp.cells)
  rw [hd] at HD
  have HC := Lib.hid (hcall w (Alt.refl _ _) p.A1 p.c1 s.now hp.now (by have := hp.nowLen; omega))
  have hc0 : w.cell? ⟨b, 0, none⟩ = some (.slice p.A1 s.now.length p.c1) := (Whole.at_ hp.cells 0).trans rfl
  have HP := Lib.hid hp
  obtain ⟨fs', hr⟩ : ∃ fs', x.run s.now = (0, fs') := ⟨(x.run s.now).2, Prod.ext hk rfl⟩
  rw [hr] at HC
  clear hx hcall hp hk hr
  go_enter Tryz.func34, Tryz.ntmps34
  go_wp2_with (go_at_call 25; refine HD.out.mono ?_; rintro e w1 ⟨rfl, rfl⟩)
  refine HC.out.mono ?_
  rintro e w1 ⟨⟨A4, c4, rfl, hA4, hO4⟩, hB⟩
  have HB := Lib.hid hB
  have HP1 := Lib.hid (HP.out.below hB)
  have hcl := HP1.out.cells
  rw [hd, hf, hl] at hcl
  have HU := Lib.hid (burn_out b _ _ _ _ _ w1 hcl)
  clear hB hcl hA4 HC hc0 HD HP
  go_wp2_with (go_at_call 60; refine HU.out.mono ?_; rintro e w2 ⟨rfl, hk2, hg2⟩; have HK2 := Lib.hid hk2; have HA2 := Lib.hid ((Alt.of_below (R := (· = b)) HB.out).grown hg2 (fun j hj => .inr (Option.some.inj hj).symm)); have HG2 := Lib.hid (Alt.of_grown (R := (· = b)) hg2 (fun j hj => (Option.some.inj hj).symm)); clear hk2 hg2)
  go_ret
  refine ⟨rfl, ⟨p, HP1.out.turn HG2.out ?_ rfl rfl rfl HP1.out.opsLt HP1.out.left0⟩, HA2.out⟩
  show DkW w2 b _ _ _ _ s.fused s.left true
  rw [hf, hl]
  exact HK2.out
theorem own_rowV {w : World} {B T n : Nat} {v : Value} {xs : List Value} (h : w.ownsRow B T 1 v n xs) : ∃ A c, v = .slice A n c ∧ RowV w A c xs ∧ (∀ j, inBlk A j → B ≤ j) ∧ xs.length = n := by
  have hl := h.1
  rw [Nat.mul_one] at hl
  rcases h.2 with ⟨rfl, rfl⟩ | ⟨g, cap, cur, rfl, hB, hg, hn, hm, hs, ht⟩
  · obtain rfl : xs = [] := List.length_eq_zero_iff.1 hl
    exact ⟨none, 0, rfl, rowV_nil w, (by rintro j ⟨a, e, -⟩; cases e), rfl⟩
  · refine ⟨_, cap, rfl, ⟨by omega, hm, (fun e => by cases e), fun _ => ⟨g, 0, rfl, fun j u hu => ?_⟩⟩, ?_, hl⟩
    · have hj : j < xs.length := (List.getElem?_eq_some_iff.1 hu).1
      rw [← ht, List.getElem?_take_of_lt (by omega)] at hu
      rw [Nat.zero_add, cell_of_row _ _ _ _ _ _ hg]
      simpa using hu
    · rintro j ⟨a, e, rfl⟩
      injection e with e
      subst e
      exact hB
set_option maxRecDepth 100000 in
theorem ddo_done (N : Nat → Prop) (b : Nat) (s : DS) (v : Value) (x : Ch) (w : World) (h : Dk w N b s) (hx : IsCh w N v x) (hd : s.down = false) (hk : (x.run s.now).1 = 0) (hf : s.fused = true → 0 < s.left) (ho : s.ops + 1 < 2 ^ 61) (l : Int) (hl : l = if s.fused = true then s.left - 1 else s.left) (sn : List Ch) (hsn : sn = if s.since.length < 64 then s.since ++ [x] else s.since) :
    Calls Tryz.prog 34 #[.pointer (some ⟨b, 0, none⟩), v] w fun e w' => e = .returned (.int .i64 0) ∧ Dk w' N b { s with now := (x.run s.now).2, since := sn, ops := s.ops + 1, left := l } ∧ Alt (· = b) w w' := by
  obtain ⟨p, hp⟩ := h
  have HX := Lib.hid hx
  obtain ⟨G, caps, rfl, he, hcall⟩ := hx.call
  have HD := Lib.hid (ddown_any b _ _ _ _ _ _ _ w hp.cells)
  rw [hd] at HD
  have HC := Lib.hid (hcall w (Alt.refl _ _) p.A1 p.c1 s.now hp.now (by have := hp.nowLen; omega))
  have hc0 : w.cell? ⟨b, 0, none⟩ = some (.slice p.A1 s.now.length p.c1) := (Whole.at_ hp.cells 0).trans rfl
  have HP := Lib.hid hp
  have HLEN := Lib.hid (x.len s.now hp.nowLen)
  obtain ⟨fs', hr⟩ : ∃ fs', x.run s.now = (0, fs') := ⟨(x.run s.now).2, Prod.ext hk rfl⟩
  rw [hr] at HC HLEN
  rw [show (x.run s.now).2 = fs' by rw [hr]]
  have hbw : b < w.heap.size := hp.cells.lt
  clear hcall hp hk hr
  go_enter Tryz.func34, Tryz.ntmps34
  go_wp2_with (go_at_call 25; refine HD.out.mono ?_; rintro e w1 ⟨rfl, rfl⟩)
  refine HC.out.mono ?_
  rintro e w1 ⟨⟨A4, c4, rfl, hA4, hO4⟩, hB⟩
  have HB := Lib.hid hB
  have HP1 := Lib.hid (HP.out.below hB)
  have HA4 := Lib.hid hA4
  have HN4 : Hid (0 < fs'.length → ∀ j, inBlk A4 j → ¬ N j) := fun h0 j hj hNj => (hO4 j hj).elim (fun h => by have := HP.out.nlt j hNj; omega) (fun h => HP.out.n1 (by have := h.2; simp only at this; rw [← this]; exact h0) j h.1 hNj)
  have hcl := HP1.out.cells
  rw [hd] at hcl
  have HU : Hid (Calls Tryz.prog 60 #[.pointer (some ⟨b, 0, none⟩)] w1 fun e w' => e = .returned (.bool true) ∧ DkW w' b (.slice p.A1 s.now.length p.c1) (.slice p.A2 s.sure.length p.c2) (.slice p.A3 s.since.length p.c3) ((s.ops + 1 : Nat) : Int) s.fused l false ∧ w1.grownBy w' (some b)) := by
    have h0 := HP.out.left0
    have ho' := HP.out.opsLt
    cases hff : s.fused with
    | true =>
      rw [hff] at hcl hl
      rw [hl]
      exact burn_more b _ _ _ _ _ _ w1 hcl (by omega) ⟨hf hff, by omega⟩
    | false =>
      rw [hff] at hcl hl
      rw [hl]
      exact burn_free b _ _ _ _ _ _ w1 hcl (by omega)
  clear hB hcl hA4 hO4 HC hc0 HD HP
  have hlt := HP1.out.sinceLen
  by_cases h64 : s.since.length < 64
  · rw [if_pos h64] at hsn
    have h64' : (s.since.length : Int) < 64 := by omega
    go_wp2_with (first
      | (go_at_call 60; refine HU.out.mono ?_; rintro e w2 ⟨rfl, hk2, hg2⟩; have hz0 := Whole.thawed hk2 0; have hc2 : w2.cell? ⟨b, 2, none⟩ = some (.slice p.A3 s.since.length p.c3) := (Whole.at_ hk2 2).trans rfl; have hc0 : w2.cell? ⟨b, 0, none⟩ = some (.slice p.A1 s.now.length p.c1) := (Whole.at_ hk2 0).trans rfl; have HK2 := Lib.hid hk2; have HA2 := Lib.hid ((Alt.of_below (R := (· = b)) HB.out).grown hg2 (fun j hj => .inr (Option.some.inj hj).symm)); have HG2 := Lib.hid (Alt.of_grown (R := (· = b)) hg2 (fun j hj => (Option.some.inj hj).symm)); clear hk2 hg2))
    refine (clip_any p.A3 s.since.length p.c3 _ (by rw [← HP1.out.len]; exact HP1.out.row.1)).mono ?_
    rintro e w3 ⟨rfl, hw3⟩
    have hk3 : DkW w3 b (.slice A4 fs'.length c4) (.slice p.A2 s.sure.length p.c2) (.slice p.A3 s.since.length p.c3) ((s.ops + 1 : Nat) : Int) s.fused l false := by rw [← hw3]; exact Whole.put HK2.out 0 _
    have ha23 : Alt (· = b) w2 w3 := by rw [← hw3]; exact (Alt.refl (· = b) w2).set (.inl rfl) _
    have hA3 : Alt (· = b) w w3 := HA2.out.trans ha23
    have hG3 : Alt (· = b) w1 w3 := HG2.out.trans ha23
    clear hw3 HK2 HA2 HG2 hz0 hc2 hc0 ha23
    have hs3 : w.heap.size ≤ w3.heap.size := hA3.size
    have HA3 := Lib.hid hA3
    have HG3 := Lib.hid hG3
    have hrow3 : RowV w3 p.A3 p.c3 p.vs := HP1.out.row.alt hG3 (fun h0 j hj e => HP1.out.n3 h0 j hj (e ▸ HP1.out.nb))
    obtain ⟨wf, hwf⟩ : ∃ wf, wf = w3.alloc (.cells #[.func (.func G) #[] caps] 88) := ⟨_, rfl⟩
    have hfb : Below w3.heap.size w3 wf := by rw [hwf]; exact (Below.refl _ _).alloc (Nat.le_refl _) _
    have hrowf : RowV wf p.A3 p.c3 p.vs := hrow3.alt (R := fun _ => False) (Alt.of_below hfb) (fun _ _ _ e => e)
    have hkf := hk3.below hfb hk3.lt
    have hone : wf.cell? ⟨w3.heap.size, 0, none⟩ = some (.func (.func G) #[] caps) := by rw [hwf]; exact ((Whole.made w3 88 #[.func (.func G) #[] caps]).at_ 0).trans rfl
    have hlen := HP1.out.len
    have hholds : ∀ a : Addr, p.A3 = some a → ∀ (j : Nat) (u : Value), p.vs[j]? = some u → wf.cell? (a.add j) = some u := by
      intro a ha j u hu
      have hj : 0 < p.vs.length := Nat.lt_of_le_of_lt (Nat.zero_le _) (List.getElem?_eq_some_iff.1 hu).1
      obtain ⟨b2, o2, e, hr⟩ := hrowf.2.2.2 hj
      rw [ha] at e
      injection e with e
      subst e
      rw [Addr.add_mid]
      exact hr j u hu
    have hnone : p.A3 = none → s.since.length = 0 ∧ s.since.length = 0 := by
      intro e
      have h0 := hrowf.2.2.1 e
      have h1 := hrowf.1
      omega
    have hnews : ∀ (j : Nat) (u : Value), [Value.func (.func G) #[] caps][j]? = some u → wf.cell? ((⟨w3.heap.size, 0, none⟩ : Addr).add j) = some u := by
      intro j u hu
      obtain rfl : j = 0 := by have := (List.getElem?_eq_some_iff.1 hu).1; simpa using this
      injection hu with hu
      subst hu
      rw [Addr.add_mid]
      exact hone
    have HHOLDS := Lib.hid hholds
    have HNONE := Lib.hid hnone
    have HNEWS := Lib.hid hnews
    have HKF := Lib.hid hkf
    have HFB := Lib.hid hfb
    have HLEN2 : Hid (p.vs.length = s.since.length * 1) := by show _ = _; omega
    clear hk3 hA3 hG3 hrow3 hfb hone hrowf hkf hholds hnone hnews
    subst hwf
    obtain ⟨i0, hi0, hi1, hi2, hi3⟩ := info_parts (show (Tryz.prog.info? 88).map (fun i => (i.zero, i.size, i.bytes)) = some (some .nilFunc, 1, 8) by kernel_rfl)
    go_wp2_with (first
      | (at_builtin; go_loud (refine wpList_append_grows _ rfl _ _ 70 rfl 88 i0 .nilFunc 1 8 Tryz.underlying70 hi0 hi1 hi2 hi3 rfl (by decide) p.A3 s.since.length s.since.length p.vs rfl HNONE.out HLEN2.out HHOLDS.out ⟨w3.heap.size, 0, none⟩ 1 1 [.func (.func G) #[] caps] rfl rfl HNEWS.out (by simp [Value.oneCell']) (by omega) (by unfold maxLen; omega) (by omega) ?_)))
    intro v' w5 hown hgr
    obtain ⟨A5, c5, rfl, hrow5, hlo5, hl5⟩ := own_rowV hown
    have ha5 : Alt (fun _ => False) (w3.alloc (.cells #[.func (.func G) #[] caps] 88)) w5 := Alt.of_grown hgr (fun j hj => by cases hj)
    have hk5 := HKF.out.grown hgr (by simp)
    have hz2 := Whole.thawed hk5 2
    have hc2 : w5.cell? ⟨b, 2, none⟩ = some (.slice p.A3 s.since.length p.c3) := (Whole.at_ hk5 2).trans rfl
    have hA5 : Alt (· = b) w w5 := (HA3.out.below HFB.out).then ha5 (fun _ _ e => e.elim)
    have hG5 : Alt (· = b) w1 w5 := (HG3.out.below HFB.out).then ha5 (fun _ _ e => e.elim)
    have HA5 := Lib.hid hA5
    have HG5 := Lib.hid hG5
    have HK5 := Lib.hid hk5
    have HROW5 := Lib.hid hrow5
    have HLO5 : Hid (∀ j, inBlk A5 j → ¬ N j) := fun j hj hNj => by
      have := hlo5 j hj
      have := HP1.out.nlt j hNj
      have := HG3.out.size
      omega
    clear hown hgr hrow5 hlo5 ha5 hk5 hA5 hG5
    go_wp2
    go_ret
    have hk6 : DkW (w5.setCell ⟨b, 2, none⟩ (.slice A5 (s.since.length + 1) c5)) b (.slice A4 fs'.length c4) (.slice p.A2 s.sure.length p.c2) (.slice A5 (s.since.length + 1) c5) ((s.ops + 1 : Nat) : Int) s.fused l false := Whole.put HK5.out 2 _
    have ha56 : Alt (· = b) w5 (w5.setCell ⟨b, 2, none⟩ (.slice A5 (s.since.length + 1) c5)) := (Alt.refl (· = b) w5).set (.inl rfl) _
    have hG6 := HG5.out.trans ha56
    have hA6 := HA5.out.trans ha56
    generalize w5.setCell ⟨b, 2, none⟩ (.slice A5 (s.since.length + 1) c5) = w6 at *
    have hG6' : Alt N w1 w6 := hG6.mono (fun k _ e => e ▸ HP1.out.nb)
    have ha56' : Alt N w5 w6 := ha56.mono (fun k _ e => e ▸ HP1.out.nb)
    have hA6' : Alt N w w6 := hA6.mono (fun k _ e => e ▸ HP1.out.nb)
    subst hsn
    refine ⟨rfl, ⟨⟨A4, c4, p.A2, p.c2, A5, c5, p.vs ++ [.func (.func G) #[] caps]⟩, ⟨HP1.out.nb, fun j hj => Nat.lt_of_lt_of_le (HP1.out.nlt j hj) hG6.size, ?_, HA4.out.alt' hG6' HN4.out, HP1.out.sure.alt' hG6' HP1.out.n2, HROW5.out.alt ha56' (fun _ => HLO5.out), ?_, ?_, HN4.out, HP1.out.n2, fun _ => HLO5.out, HLEN.out, HP1.out.sureLen, ?_, ho, ?_⟩⟩, hA6⟩
    · show DkW w6 b _ _ (.slice A5 (s.since ++ [x]).length c5) _ _ _ s.down
      rw [List.length_append, List.length_singleton, hd]
      exact hk6
    · show (p.vs ++ [_]).length = (s.since ++ [x]).length
      rw [List.length_append, List.length_append, HP1.out.len]
      rfl
    · intro i v y hv hy
      have hA := hA6'
      have hlen' := HP1.out.len
      rcases Nat.lt_or_ge i s.since.length with hi | hi
      · change (p.vs ++ _)[i]? = _ at hv
        change (s.since ++ _)[i]? = _ at hy
        rw [List.getElem?_append_left (by omega)] at hv
        rw [List.getElem?_append_left hi] at hy
        exact (HP1.out.ch i v y hv hy).alt hG6'
      · change (p.vs ++ _)[i]? = _ at hv
        change (s.since ++ _)[i]? = _ at hy
        rw [List.getElem?_append_right (by omega)] at hv
        rw [List.getElem?_append_right hi] at hy
        rw [hlen'] at hv
        obtain h0 : i - s.since.length = 0 := by
          have := (List.getElem?_eq_some_iff.1 hy).1
          simpa using this
        rw [h0] at hv hy
        injection hv with hv
        injection hy with hy
        subst hv
        subst hy
        exact HX.out.alt hA
    · show (s.since ++ [x]).length ≤ 64
      rw [List.length_append, List.length_singleton]
      omega
    · have h0 := HP1.out.left0
      show -(2 ^ 63) ≤ l ∧ l < 2 ^ 63
      rw [hl]
      split
      · next h => have := hf h; omega
      · exact h0
  · rw [if_neg h64] at hsn
    have h64' : ¬ (s.since.length : Int) < 64 := by omega
    go_wp2_with (first
      | (go_at_call 60; refine HU.out.mono ?_; rintro e w2 ⟨rfl, hk2, hg2⟩; have hz0 := Whole.thawed hk2 0; have hc2 : w2.cell? ⟨b, 2, none⟩ = some (.slice p.A3 s.since.length p.c3) := (Whole.at_ hk2 2).trans rfl; have hc0 : w2.cell? ⟨b, 0, none⟩ = some (.slice p.A1 s.now.length p.c1) := (Whole.at_ hk2 0).trans rfl; have HK2 := Lib.hid hk2; have HA2 := Lib.hid ((Alt.of_below (R := (· = b)) HB.out).grown hg2 (fun j hj => .inr (Option.some.inj hj).symm)); have HG2 := Lib.hid (Alt.of_grown (R := (· = b)) hg2 (fun j hj => (Option.some.inj hj).symm)); clear hk2 hg2))
    go_ret
    have hk6 : DkW (w2.setCell ⟨b, 0, none⟩ (.slice A4 fs'.length c4)) b (.slice A4 fs'.length c4) (.slice p.A2 s.sure.length p.c2) (.slice p.A3 s.since.length p.c3) ((s.ops + 1 : Nat) : Int) s.fused l false := Whole.put HK2.out 0 _
    have ha56 : Alt (· = b) w2 (w2.setCell ⟨b, 0, none⟩ (.slice A4 fs'.length c4)) := (Alt.refl (· = b) w2).set (.inl rfl) _
    have hG6 := HG2.out.trans ha56
    have hA6 := HA2.out.trans ha56
    generalize w2.setCell ⟨b, 0, none⟩ (.slice A4 fs'.length c4) = w6 at *
    have hG6' : Alt N w1 w6 := hG6.mono (fun k _ e => e ▸ HP1.out.nb)
    subst hsn
    refine ⟨rfl, ⟨⟨A4, c4, p.A2, p.c2, p.A3, p.c3, p.vs⟩, ⟨HP1.out.nb, fun j hj => Nat.lt_of_lt_of_le (HP1.out.nlt j hj) hG6.size, ?_, HA4.out.alt' hG6' HN4.out, HP1.out.sure.alt' hG6' HP1.out.n2, HP1.out.row.alt hG6' HP1.out.n3, HP1.out.len, fun i v y hv hy => (HP1.out.ch i v y hv hy).alt hG6', HN4.out, HP1.out.n2, HP1.out.n3, HLEN.out, HP1.out.sureLen, HP1.out.sinceLen, ho, ?_⟩⟩, hA6⟩
    · show DkW w6 b _ _ _ _ _ _ s.down
      rw [hd]
      exact hk6
    · have h0 := HP1.out.left0
      show -(2 ^ 63) ≤ l ∧ l < 2 ^ 63
      rw [hl]
      split
      · next h => have := hf h; omega
      · exact h0
theorem ddo_any (N : Nat → Prop) (b : Nat) (s : DS) (v : Value) (x : Ch) (w : World) (h : Dk w N b s) (hx : IsCh w N v x) (ho : s.ops + 1 < 2 ^ 61) (hl : s.fused = true → 0 ≤ s.left) :
    Calls Tryz.prog 34 #[.pointer (some ⟨b, 0, none⟩), v] w fun e w' => e = .returned (.int .i64 ((s.step x).1 : Int)) ∧ Dk w' N b (s.step x).2 ∧ Alt (· = b) w w' := by
  unfold DS.step
  by_cases hd : s.down = true
  · rw [if_pos hd]
    refine (ddo_down N b s v w h hd).mono ?_
    rintro e w' ⟨rfl, rfl⟩
    exact ⟨rfl, h, Alt.refl _ _⟩
  · rw [if_neg hd]
    have hd : s.down = false := by simpa using hd
    by_cases hk : (x.run s.now).1 ≠ 0
    · rw [if_pos hk]
      refine (ddo_no N b s v x w h hx hd hk).mono ?_
      rintro e w' ⟨rfl, hb⟩
      exact ⟨rfl, h.below hb, Alt.of_below hb⟩
    · rw [if_neg hk]
      have hk : (x.run s.now).1 = 0 := by simpa using hk
      by_cases hf : s.fused = true ∧ s.left = 0
      · rw [if_pos hf]
        exact ddo_blown N b s v x w h hx hd hk hf.1 hf.2
      · rw [if_neg hf]
        exact ddo_done N b s v x w h hx hd hk (fun e => by have := hl e; have : ¬ s.left = 0 := fun e' => hf ⟨e, e'⟩; omega) ho _ rfl _ rfl
end Go.Proofs.YtjoinnjhpfakpaaGreatDoor

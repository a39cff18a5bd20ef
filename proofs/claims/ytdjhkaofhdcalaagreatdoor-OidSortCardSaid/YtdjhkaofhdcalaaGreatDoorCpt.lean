/-
  slices.Compact of names, walked.
-/
import Derived.Test.YtdjhkaofhdcalaaGreatDoorMid
import Derived.Deep.LoopGhost
import Derived.Deep.Draws
namespace Go.Proofs.YtdjhkaofhdcalaaGreatDoor
open Go.RowKit

/-- A row, of which one name was put elsewhere. -/
theorem RowN.there {w : World} {b o : Nat} {d : List Nm} (h : RowN w b o d) (hf : ∀ i, i < d.length * 32 → w.frozen? ⟨b, o + i, none⟩ = false) {k : Nat} (hk : k < d.length) : w.there b (o + k * 32) 32 := by
  intro j hj
  have hl := encN_len (d.getD k default)
  refine ⟨?_, ?_⟩
  · rw [h k hk j _ (List.getElem?_eq_getElem (by omega))]
    rfl
  · rw [Nat.add_assoc]
    exact hf _ (by omega)
theorem RowN.set {w : World} {b o : Nat} {d : List Nm} (h : RowN w b o d) (hf : ∀ i, i < d.length * 32 → w.frozen? ⟨b, o + i, none⟩ = false) {k : Nat} (hk : k < d.length) (x : Nm) : RowN (w.setCells b (o + k * 32) (encN x)) b o (d.set k x) := by
  intro i hi
  rw [List.length_set] at hi
  by_cases e : i = k
  · subst e
    rw [List.getD_eq_getElem?_getD, List.getElem?_set_self hi, Option.getD_some]
    exact World.rangeAt_setCells_same _ _ _ _ (by rw [encN_len]; exact h.there hf hk)
  · rw [List.getD_eq_getElem?_getD, List.getElem?_set_ne (fun e' => e e'.symm), ← List.getD_eq_getElem?_getD]
    refine World.rangeAt_setCells_apart (h i hi) _ _ _ (.inr ?_)
    rw [encN_len, encN_len]
    omega
/-- clear of a slice whose elements are of several cells. -/
theorem run_clear_cells {P : Program} (w : World) (t e ty : TypeId) (z : Value) (ht : P.underlying t = some (.slice e)) (hv : (zeroValue e).run P w = .ok z w) (h1 : ∀ v ∈ z.cells, v.oneCell' = true) (b o n c : Nat) (hn : 0 < n)
    (hc : ∀ j, j < n * z.cells.size → (w.cell? ⟨b, o + j, none⟩).isSome = true) (hf : ∀ j, j < n * z.cells.size → w.frozen? ⟨b, o + j, none⟩ = false) :
    (Builtin.clear_ #[t] ty #[.slice (some ⟨b, o, none⟩) n c]).run P w = .ok (.tuple #[]) (w.setCells b o (Builtin.zeroCells z.cells n).toList) := by
  have hsz : (Builtin.zeroCells z.cells n).toList.length = n * z.cells.size := by simp [Builtin.zeroCells]
  have hst := run_storeCells_cells (P := P) b o (Builtin.zeroCells z.cells n).toList 0 w (fun j hj => by rw [Nat.add_zero]; exact hc j (by omega)) (fun j hj => by rw [Nat.add_zero]; exact hf j (by omega)) (by
    intro v hv'
    simp only [Builtin.zeroCells, Array.toList_map, List.mem_map, Array.toList_range, List.mem_range] at hv'
    obtain ⟨i, hi, rfl⟩ := hv'
    have hp : 0 < z.cells.size := by
      rcases Nat.eq_zero_or_pos z.cells.size with h | h
      · rw [h] at hi
        omega
      · exact h
    rw [getElem!_pos z.cells (i % z.cells.size) (Nat.mod_lt _ hp)]
    exact h1 _ (Array.getElem_mem _))
  rw [Nat.add_zero] at hst
  obtain ⟨m, rfl⟩ : ∃ m, n = m + 1 := ⟨n - 1, by omega⟩
  simp [Builtin.clear_, run_underlying ht, hv, hst]
theorem zero_nm (w : World) : (zeroValue 23).run Tryz.prog w = .ok (.agg (encN default).toArray) w := by
  kernel_rfl
theorem gr_cellsN {a : World} {g : Nat} : ∀ (vs : List Value) (o : Nat) (w : World), a.grownBy w (some g) → a.grownBy (w.setCells g o vs) (some g)
  | [], _, _, h => h
  | v :: vs, o, w, h => by
    rw [World.setCells]
    exact gr_cellsN vs (o + 1) _ (gr_set h (.inl rfl) v)
/-- The second loop's row: m names have been looked at; what is kept of them lies at the head; from there on it is as it was. -/
structure Half (w wr : World) (b : Nat) (d : List Nm) (m kk : Nat) : Prop where
  row : ∃ F : List Nm, F.length = d.length ∧ RowN wr b 0 F ∧ (∀ i, i < kk → F.getD i default = (cptk d m).getD i default) ∧ ∀ i, kk ≤ i → F.getD i default = d.getD i default
  len : (cptk d m).length = kk
  lt : kk < m
  gr : w.grownBy wr (some b)
  fr : ∀ i, i < d.length * 32 → wr.frozen? ⟨b, 0 + i, none⟩ = false
theorem Half.skip {w wr : World} {b m kk : Nat} {d : List Nm} (h : Half w wr b d m kk) (hm : 0 < m) (he : d.getD m default = d.getD (m - 1) default) (n : Nat) : Half w (wr.drewN n) b d (m + 1) kk := by
  obtain ⟨⟨F, h1, h2, h3, h4⟩, h5, h6, h7, h8⟩ := h
  have hc : cptk d (m + 1) = cptk d m := by rw [cptk_step d m hm, if_pos he]
  exact ⟨⟨F, h1, h2, by rw [hc]; exact h3, h4⟩, by rw [hc]; exact h5, by omega, gr_drewN h7 n, h8⟩
theorem Half.keep {w wr : World} {b m kk : Nat} {d : List Nm} (h : Half w wr b d m kk) (hm : 0 < m) (hl : m < d.length) (he : d.getD m default ≠ d.getD (m - 1) default) (n : Nat) : Half w ((wr.drewN n).setCells b (kk * 32) (encN (d.getD m default))) b d (m + 1) (kk + 1) := by
  obtain ⟨⟨F, h1, h2, h3, h4⟩, h5, h6, h7, h8⟩ := h
  have hc : cptk d (m + 1) = cptk d m ++ [d.getD m default] := by rw [cptk_step d m hm, if_neg he]
  refine ⟨⟨F.set kk (d.getD m default), by rw [List.length_set]; exact h1, ?_, ?_, ?_⟩, by rw [hc, List.length_append, h5]; rfl, by omega, gr_cellsN _ _ _ (gr_drewN h7 n), fun i hi => by rw [World.frozen?_setCells]; exact h8 i hi⟩
  · have := RowN.set (w := wr.drewN n) (b := b) (o := 0) (d := F) h2 (by rw [h1]; exact h8) (k := kk) (by omega) (d.getD m default)
    rw [Nat.zero_add] at this
    exact this
  · intro i hi
    rw [hc]
    by_cases e : i = kk
    · subst e
      generalize d.getD m default = x at *
      have e1 : (F.set i x)[i]? = some x := List.getElem?_set_self (by omega)
      have e2 : (cptk d m ++ [x])[i]? = some x := by
        rw [List.getElem?_append_right (by omega), h5, Nat.sub_self]
        rfl
      rw [List.getD_eq_getElem?_getD, e1, List.getD_eq_getElem?_getD, e2]
    · rw [List.getD_eq_getElem?_getD, List.getElem?_set_ne (fun e' => e e'.symm), ← List.getD_eq_getElem?_getD, h3 i (by omega), List.getD_eq_getElem?_getD, List.getD_eq_getElem?_getD, List.getElem?_append_left (by omega)]
  · intro i hi
    rw [List.getD_eq_getElem?_getD, List.getElem?_set_ne (by omega), ← List.getD_eq_getElem?_getD, h4 i (by omega)]
theorem Half.load {w wr : World} {b m kk : Nat} {d : List Nm} (h : Half w wr b d m kk) {i : Nat} (hi : kk ≤ i) (hl : i < d.length) : ∀ W, (∃ n, W = wr.drewN n) → W.rangeAt b (i * 32) (encN (d.getD i default)) := by
  rintro W ⟨n, rfl⟩
  obtain ⟨⟨F, h1, h2, h3, h4⟩, -⟩ := h
  have := h2 i (by omega)
  rw [Nat.zero_add, h4 i hi] at this
  exact this
theorem Half.there {w wr : World} {b m kk : Nat} {d : List Nm} (h : Half w wr b d m kk) (hl : kk < d.length) (n : Nat) : (wr.drewN n).there b (kk * 32) 32 := by
  obtain ⟨⟨F, h1, h2, h3, h4⟩, h5, h6, h7, h8⟩ := h
  have := RowN.there (w := wr.drewN n) (b := b) (o := 0) (d := F) h2 (by rw [h1]; exact h8) (k := kk) (by omega)
  rw [Nat.zero_add] at this
  exact this
theorem Half.done {w wr : World} {b m kk : Nat} {d : List Nm} (h : Half w wr b d m kk) (_ : m ≤ d.length) (vs : List Value) : w.grownBy (wr.setCells b (kk * 32) vs) (some b) ∧ RowN (wr.setCells b (kk * 32) vs) b 0 (cptk d m) := by
  obtain ⟨⟨F, h1, h2, h3, h4⟩, h5, h6, h7, h8⟩ := h
  refine ⟨gr_cellsN _ _ _ h7, fun i hi => ?_⟩
  rw [h5] at hi
  have := h2 i (by omega)
  rw [h3 i hi] at this
  refine World.rangeAt_setCells_apart this _ _ _ (.inr (.inl ?_))
  rw [encN_len]
  omega
theorem Half.rest {w wr : World} {b m kk : Nat} {d : List Nm} (h : Half w wr b d m kk) (_ : m ≤ d.length) : (∀ j, j < (d.length - kk) * 32 → (wr.cell? ⟨b, kk * 32 + j, none⟩).isSome = true) ∧ ∀ j, j < (d.length - kk) * 32 → wr.frozen? ⟨b, kk * 32 + j, none⟩ = false := by
  obtain ⟨⟨F, h1, h2, h3, h4⟩, h5, h6, h7, h8⟩ := h
  refine ⟨fun j hj => ?_, fun j hj => ?_⟩
  · have hi : kk + j / 32 < F.length := by omega
    have hl := encN_len (F.getD (kk + j / 32) default)
    have := h2 (kk + j / 32) hi (j % 32) _ (List.getElem?_eq_getElem (by omega))
    rw [show 0 + (kk + j / 32) * 32 + j % 32 = kk * 32 + j by omega] at this
    rw [this]
    rfl
  · have := h8 (kk * 32 + j) (by omega)
    rw [Nat.zero_add] at this
    exact this
set_option maxRecDepth 100000 in
set_option maxHeartbeats 8000000 in
theorem compact_nm (b c : Nat) (d : List Nm) (w : World) (hH : RowN w b 0 d) (hf : ∀ i, i < d.length * 32 → w.frozen? ⟨b, 0 + i, none⟩ = false) (hc : d.length ≤ c) (hm : d.length ≤ 1048576) :
    Calls Tryz.prog 48 #[.slice (some ⟨b, 0, none⟩) d.length c] w fun e w' => e = .returned (.slice (some ⟨b, 0, none⟩) (cptk d d.length).length c) ∧ w.grownBy w' (some b) ∧ RowN w' b 0 (cptk d d.length) := by
  have HH := Lib.hid hH
  have HF := Lib.hid hf
  clear hH hf
  by_cases h2 : d.length < 2
  · have hall : cptk d d.length = d := by
      rw [cptk_all d d.length (Nat.le_refl _) (fun i h0 h1 => by omega), List.take_length]
    have HALL := Lib.hid hall
    clear hall
    go_enter Tryz.func48, Tryz.ntmps48
    go_wp2
    go_ret
    rw [HALL.out]
    exact ⟨rfl, gr_refl _ _, HH.out⟩
  · go_enter Tryz.func48, Tryz.ntmps48
    go_wp2
    go_loopg [3] d.length (fun g s3 wr => ∃ k q : Nat, 1 ≤ k ∧ k ≤ d.length ∧ d.length - k ≤ g ∧ s3 = .int .i64 k ∧ Hid (wr = w.drewN q) ∧ Hid (∀ i, 0 < i → i < k → d.getD i default ≠ d.getD (i - 1) default))
    case atStart => exact ⟨1, 0, Nat.le_refl _, by omega, by omega, rfl, Lib.hid rfl, Lib.hid fun i h0 h1 => absurd h0 (by omega)⟩
    case round =>
      obtain ⟨k, q, hk1, hk, hg, rfl, hwr, hall⟩ := hrel
      by_cases hlt : k < d.length
      · have hlt' : (k : Int) < (d.length : Int) := by omega
        obtain ⟨x, hx⟩ : ∃ x, x = d.getD k default := ⟨_, rfl⟩
        obtain ⟨y, hy⟩ : ∃ y, y = d.getD (k - 1) default := ⟨_, rfl⟩
        have HLX : Hid (∀ W, (∃ n, W = wr.drewN n) → W.rangeAt b (k * 32) (encN x)) := by rintro W ⟨n, rfl⟩; have := HH.out k hlt; rw [Nat.zero_add, ← hx] at this; rw [hwr.out]; exact this
        have HLY : Hid (∀ W, (∃ n, W = wr.drewN n) → W.rangeAt b ((k - 1) * 32) (encN y)) := by rintro W ⟨n, rfl⟩; have := HH.out (k - 1) (by omega); rw [Nat.zero_add, ← hy] at this; rw [hwr.out]; exact this
        have hw1 : wrap64 ((k : Int) - 1) = ((k - 1 : Nat) : Int) := by unfold wrap64; omega
        have hb1 : k - 1 < d.length := by omega
        have heq := fun W => eql_nm x y W
        have HXI : Hid ((Tryz.prog.info? 23).map (·.size) = some (encN x).length) := by show _ = _; rw [encN_len]; exact infoN
        have HYI : Hid ((Tryz.prog.info? 23).map (·.size) = some (encN y).length) := by show _ = _; rw [encN_len]; exact infoN
        have HX := Lib.hid hx
        have HY := Lib.hid hy
        clear hx hy
        by_cases hdup : x = y
        · have hdd : decide (x = y) = true := by simp [hdup]
          rw [hdd] at heq
          clear hdd
          have HD := Lib.hid hdup
          clear hdup
          go_wp2_with fail
          refine wp_region_quiet_lit (by kernel_rfl) (by kernel_rfl) ?_
          repeat (first
            | go_big_quiet_step (fail)
            | (refine q_loadm _ _ rfl (by rfl) b (k * 32) (encN x) rfl _ Tryz.underlying23 rfl HXI.out HLX.out ?_; simp only [Act.put]; go_simp)
            | (refine q_loadm _ _ rfl (by rfl) b ((k - 1) * 32) (encN y) rfl _ Tryz.underlying23 rfl HYI.out HLY.out ?_; simp only [Act.put]; go_simp))
          refine wpQuiet_nil ?_
          intro nq
          have hst : Hid (Half w (wr.drewN nq) b d (k + 1) k) := by
            have he : d.getD k default = d.getD (k - 1) default := by rw [← HX.out, ← HY.out, HD.out]
            have hck : cptk d (k + 1) = d.take k := by rw [cptk_step d k (by omega), if_pos he, cptk_all d k (by omega) hall.out]
            rw [hwr.out]
            exact ⟨⟨d, rfl, HH.out, fun i hi => by rw [hck, List.getD_eq_getElem?_getD, List.getD_eq_getElem?_getD, List.getElem?_take_of_lt hi], fun i _ => rfl⟩, by rw [hck, List.length_take]; omega, by omega, gr_drewN (gr_drewN (gr_refl _ _) _) _, HF.out⟩
          generalize wr.drewN nq = wp at *
          go_wp2
          go_loopg [3, 5] d.length (fun g s3 s5 wr => ∃ (kk k2 : Nat), s3 = .int .i64 kk ∧ s5 = .int .i64 k2 ∧ 1 ≤ k2 ∧ k + k2 ≤ d.length ∧ d.length - (k + k2) ≤ g ∧ kk < k + k2 ∧ Hid (Half w wr b d (k + k2) kk))
          case atStart => exact ⟨k, 1, rfl, rfl, Nat.le_refl _, by omega, by omega, by omega, hst⟩
          case round =>
            obtain ⟨kk, k2, rfl, rfl, h1, hle, hg2, hkk, hI⟩ := hrel
            by_cases hlt2 : k + k2 < d.length
            · obtain ⟨u, hu⟩ : ∃ u, u = d.getD (k + k2) default := ⟨_, rfl⟩
              obtain ⟨v, hv⟩ : ∃ v, v = d.getD (k + k2 - 1) default := ⟨_, rfl⟩
              have hlu := hI.out.load (i := k + k2) (by omega) hlt2
              have hlv := hI.out.load (i := k + k2 - 1) (by omega) (by omega)
              rw [← hu, show (k + k2) * 32 = k * 32 + k2 * 32 by omega] at hlu
              rw [← hv, show (k + k2 - 1) * 32 = k * 32 + (k2 - 1) * 32 by omega] at hlv
              have HLU := Lib.hid hlu
              have HLV := Lib.hid hlv
              have hthr := hI.out.there (by omega)
              have HTH := Lib.hid hthr
              have hw2 : wrap64 ((k2 : Int) - 1) = ((k2 - 1 : Nat) : Int) := by unfold wrap64; omega
              have hb2 : k2 - 1 < d.length - k := by omega
              have hb3 : k2 < d.length - k := by omega
              have hb4 : (k2 : Int) < ((d.length - k : Nat) : Int) := by omega
              have hneq := fun W => neq_nm u v W
              have HUI : Hid ((Tryz.prog.info? 23).map (·.size) = some (encN u).length) := by show _ = _; rw [encN_len]; exact infoN
              have HVI : Hid ((Tryz.prog.info? 23).map (·.size) = some (encN v).length) := by show _ = _; rw [encN_len]; exact infoN
              have HU := Lib.hid hu
              have HV := Lib.hid hv
              clear hu hv hlu hlv hthr heq
              by_cases huv : u = v
              · have hdd : decide (u = v) = true := by simp [huv]
                rw [hdd] at hneq
                clear hdd
                have HUV := Lib.hid huv
                clear huv
                go_wp2_with fail
                refine wp_region_quiet_lit (by kernel_rfl) (by kernel_rfl) ?_
                repeat (first
                  | go_big_quiet_step (fail)
                  | (refine q_loadm _ _ rfl (by rfl) b (k * 32 + k2 * 32) (encN u) rfl _ Tryz.underlying23 rfl HUI.out HLU.out ?_; simp only [Act.put]; go_simp)
                  | (refine q_loadm _ _ rfl (by rfl) b (k * 32 + (k2 - 1) * 32) (encN v) rfl _ Tryz.underlying23 rfl HVI.out HLV.out ?_; simp only [Act.put]; go_simp))
                refine wpQuiet_nil ?_
                intro nq2
                go_wp2
                go_roundg (d.length - (k + (k2 + 1)))
                case measure => omega
                case rel =>
                  refine ⟨kk, k2 + 1, rfl, by go_num, by omega, by omega, Nat.le_refl _, by omega, Lib.hid ?_⟩
                  exact hI.out.skip (by omega) (by rw [← HU.out, ← HV.out]; exact HUV.out) nq2
              · have hdd : decide (u = v) = false := by simp [huv]
                rw [hdd] at hneq
                clear hdd
                have HUV := Lib.hid huv
                clear huv
                go_wp2_with fail
                refine wp_region_quiet_lit (by kernel_rfl) (by kernel_rfl) ?_
                repeat (first
                  | go_big_quiet_step (fail)
                  | (refine q_loadm _ _ rfl (by rfl) b (k * 32 + k2 * 32) (encN u) rfl _ Tryz.underlying23 rfl HUI.out HLU.out ?_; simp only [Act.put]; go_simp)
                  | (refine q_loadm _ _ rfl (by rfl) b (k * 32 + (k2 - 1) * 32) (encN v) rfl _ Tryz.underlying23 rfl HVI.out HLV.out ?_; simp only [Act.put]; go_simp))
                refine wpQuiet_nil ?_
                intro nq2
                go_wp2_with (first
                  | (refine wpList_load_mid rfl 23 _ rfl b (k * 32 + k2 * 32) rfl (encN u) _ (HLU.out _ ⟨nq2, rfl⟩) Tryz.underlying23 rfl HUI.out ?_)
                  | (refine wpList_store_mid rfl 23 _ _ rfl b (kk * 32) (encN u).toArray rfl rfl (by rw [encN_size]; exact HTH.out nq2) (by rw [encN_size]; exact infoN) (encN_all u) ?_))
                go_roundg (d.length - (k + (k2 + 1)))
                case measure => omega
                case rel =>
                  refine ⟨kk + 1, k2 + 1, by go_num, by go_num, by omega, by omega, Nat.le_refl _, by omega, Lib.hid ?_⟩
                  have := hI.out.keep (by omega) hlt2 (by rw [← HU.out, ← HV.out]; exact HUV.out) nq2
                  rw [← HU.out] at this
                  exact this
            · have hend : k + k2 = d.length := by omega
              have hlen := hI.out.len
              have hgone := hI.out.done (Nat.le_of_eq hend)
              obtain ⟨hr1, hr2⟩ := hI.out.rest (Nat.le_of_eq hend)
              rw [hend] at hlen hgone
              have hcl := fun ty => run_clear_cells (P := Tryz.prog) _ 24 23 ty _ Tryz.underlying24 (zero_nm _) (by
                intro v hv
                exact encN_one default v (by simpa [Value.cells] using hv)) b (kk * 32) (d.length - kk) (c - kk) (by omega) (fun j hj => hr1 j (by rw [show (Value.agg (encN default).toArray).cells.size = 32 from encN_size default] at hj; exact hj)) (fun j hj => hr2 j (by rw [show (Value.agg (encN default).toArray).cells.size = 32 from encN_size default] at hj; exact hj))
              have HG := Lib.hid (hgone (Builtin.zeroCells (Value.agg (encN default).toArray).cells (d.length - kk)).toList)
              have HLE := Lib.hid hlen
              generalize (Builtin.zeroCells (Value.agg (encN default).toArray).cells (d.length - kk)).toList = zs at *
              clear hlen hgone hr1 hr2 heq hI
              go_wp2
              go_ret
              rw [HLE.out]
              exact ⟨rfl, HG.out⟩
        · have hdd : decide (x = y) = false := by simp [hdup]
          rw [hdd] at heq
          clear hdd
          have HD := Lib.hid hdup
          clear hdup
          go_wp2_with fail
          refine wp_region_quiet_lit (by kernel_rfl) (by kernel_rfl) ?_
          repeat (first
            | go_big_quiet_step (fail)
            | (refine q_loadm _ _ rfl (by rfl) b (k * 32) (encN x) rfl _ Tryz.underlying23 rfl HXI.out HLX.out ?_; simp only [Act.put]; go_simp)
            | (refine q_loadm _ _ rfl (by rfl) b ((k - 1) * 32) (encN y) rfl _ Tryz.underlying23 rfl HYI.out HLY.out ?_; simp only [Act.put]; go_simp))
          refine wpQuiet_nil ?_
          intro nq
          go_wp2
          go_roundg (d.length - (k + 1))
          case measure => omega
          case rel =>
            refine ⟨k + 1, q + nq, by omega, by omega, Nat.le_refl _, by go_num, Lib.hid ?_, Lib.hid ?_⟩
            · rw [hwr.out, World.drewN_drewN]
            · intro i h0 h1
              by_cases e : i = k
              · subst e
                rw [← HX.out, ← HY.out]
                exact HD.out
              · exact hall.out i h0 (by omega)
      · have hk2 : k = d.length := by omega
        subst hk2
        have hc2 : cptk d d.length = d := by rw [cptk_all d d.length (Nat.le_refl _) hall.out, List.take_length]
        have HC := Lib.hid hc2
        clear hc2
        go_wp2
        go_ret
        rw [HC.out]
        refine ⟨rfl, ?_, ?_⟩
        · rw [hwr.out]
          exact gr_drewN (gr_refl _ _) _
        · rw [hwr.out]
          exact HH.out
end Go.Proofs.YtdjhkaofhdcalaaGreatDoor

/-
  Rows of names of the call's own; a slice built of one name.
  append of names; parts of a slice of names.
  Reader.Bytes, walked.
  tree.isTree, tree.entry, walked.
-/
import Derived.Test.YtfaijkgfhdhhbaaGreatDoorMgh
import Derived.Laws.AppendOwnNone
import Derived.Test.YtfaijkgfhdhhbaaGreatDoorMgg
import Derived.Test.YtfaijkgfhdhhbaaGreatDoorMgk
import Derived.Laws.Cover3
namespace Go.Proofs.YtfaijkgfhdhhbaaGreatDoor
open Go.RowKit

theorem zero_nm (w : World) : (zeroValue 24).run Tryz.prog w = .ok (.agg (encN default).toArray) w := by
  kernel_rfl
theorem flat_len (ids : List Nm) : (ids.flatMap encN).length = ids.length * 32 := by
  induction ids with
  | nil => rfl
  | cons x l ih => rw [List.flatMap_cons, List.length_append, ih, encN_len, List.length_cons]; omega
theorem flat_at (ids : List Nm) : ∀ i j, i < ids.length → j < 32 → (ids.flatMap encN)[i * 32 + j]? = (encN (ids.getD i default))[j]? := by
  induction ids with
  | nil => intro i j hi; exact absurd hi (Nat.not_lt_zero _)
  | cons x l ih =>
    intro i j hi hj
    rw [List.flatMap_cons]
    cases i with
    | zero =>
      rw [Nat.zero_mul, Nat.zero_add, List.getElem?_append_left (by rw [encN_len]; exact hj)]
      rfl
    | succ i =>
      rw [List.getElem?_append_right (by rw [encN_len]; omega), encN_len, show (i + 1) * 32 + j - 32 = i * 32 + j by omega, ih i j (by simpa using hi) hj]
      rfl
theorem row_flat {w : World} {b o : Nat} {ids : List Nm} (h : RowN w b o ids) : ∀ j u, (ids.flatMap encN)[j]? = some u → w.cell? ⟨b, o + j, none⟩ = some u := by
  intro j u hu
  have hj : j < ids.length * 32 := by
    rw [← flat_len]
    exact (List.getElem?_eq_some_iff.1 hu).1
  rw [show j = j / 32 * 32 + j % 32 by omega, flat_at ids _ _ (by omega) (by omega)] at hu
  have := h (j / 32) (by omega) (j % 32) u hu
  rw [show o + j / 32 * 32 + j % 32 = o + j by omega] at this
  exact this
/-- A slice of names of the call's own: its row, not frozen. -/
theorem own_nm {w : World} {B : Nat} {v : Value} {ids : List Nm} (h : w.ownsRow B 24 32 v ids.length (ids.flatMap encN)) (hn : 0 < ids.length) :
    ∃ g c, v = .slice (some ⟨g, 0, none⟩) ids.length c ∧ B ≤ g ∧ g < w.heap.size ∧ ids.length ≤ c ∧ c ≤ maxLen ∧ RowN w g 0 ids ∧ ∀ i, i < ids.length * 32 → w.frozen? ⟨g, 0 + i, none⟩ = false := by
  rcases h.2 with ⟨rfl, h0⟩ | ⟨g, cap, cur, rfl, hB, hg, hn, hm, hs, ht⟩
  · omega
  · refine ⟨g, cap, rfl, hB, (Array.getElem?_eq_some_iff.1 hg).1, hn, hm, fun i hi j v hv => ?_, fun i hi => ?_⟩
    · have hj : j < 32 := by
        have := (List.getElem?_eq_some_iff.1 hv).1
        rwa [encN_len] at this
      have hx : (ids.flatMap encN)[i * 32 + j]? = some v := by rw [flat_at ids i j hi hj]; exact hv
      rw [← ht, List.getElem?_take_of_lt (by omega)] at hx
      rw [Nat.zero_add, cell_of_row _ _ _ _ _ _ hg]
      simpa using hx
    · unfold World.frozen?
      rw [hg]
      simp
theorem info23 : (Tryz.prog.info? 24).map (fun i => (i.zero, i.size, i.bytes)) = some (some (.agg (encN default).toArray), 32, 32) := by kernel_rfl
theorem flat_one (ids : List Nm) : ∀ u ∈ ids.flatMap encN, u.oneCell' = true := by
  intro u hu
  obtain ⟨x, -, hx⟩ := List.mem_flatMap.1 hu
  exact encN_one x u hx

/-- A row of the call's own is a slice of names. -/
theorem own_arg {w : World} {B : Nat} {v : Value} {ids : List Nm} (h : w.ownsRow B 24 32 v ids.length (ids.flatMap encN)) : ∃ A c, v = .slice A ids.length c ∧ ArgN w A c ids := by
  rcases Nat.eq_zero_or_pos ids.length with h0 | h0
  · rcases h.2 with ⟨rfl, -⟩ | ⟨g, cap, cur, rfl, hB, hg, hn, hm, hs, ht⟩
    · exact ⟨none, 0, by rw [h0], by omega, by unfold maxLen; omega, fun _ => rfl, fun h => by omega⟩
    · exact ⟨_, cap, rfl, hn, hm, (fun e => by cases e), fun h => by omega⟩
  · obtain ⟨g, c, rfl, hB, hg, hc1, hc2, hr, -⟩ := own_nm h h0
    exact ⟨_, c, rfl, hc1, hc2, (fun e => by cases e), fun _ => ⟨g, 0, rfl, hr⟩⟩
theorem fold_set : ∀ (l : List Value) (k : Nat) (z : Array Value), k + l.length ≤ z.size → ((l.zipIdx k).foldl (fun cs (p : Value × Nat) => cs.setIfInBounds (0 + p.2) p.1) z).toList = z.toList.take k ++ l ++ z.toList.drop (k + l.length)
  | [], k, z, _ => by simp
  | c :: r, k, z, h => by
    rw [List.zipIdx_cons, List.foldl_cons, fold_set r (k + 1) _ (by simp at h ⊢; omega)]
    simp only [List.length_cons] at h
    have hk : k < z.toList.length := by simp; omega
    have e : (z.setIfInBounds (0 + k) c).toList = z.toList.set k c := by simp
    rw [e]
    have e1 : (z.toList.set k c).take (k + 1) = z.toList.take k ++ [c] := by
      rw [List.take_set, List.take_succ_eq_append_getElem hk, List.set_append_right _ _ (by simp; omega)]
      have : k - (z.toList.take k).length = 0 := by simp; omega
      rw [this]
      rfl
    have e2 : (z.toList.set k c).drop (k + 1 + r.length) = z.toList.drop (k + (r.length + 1)) := by
      rw [List.drop_set, if_pos (by omega)]
      congr 1
      omega
    rw [e1, e2, List.length_cons]
    simp
set_option maxRecDepth 100000 in
theorem run_build_nm (x : Nm) (w : World) : (Instr.buildSlice 25 1 #[(0, .agg (encN x).toArray)]).run Tryz.prog w = .ok (.slice (some ⟨w.heap.size, 0, none⟩) 1 1) (w.alloc (.cells (encN x).toArray 24)) := by
  have hfill : ∀ z : Array Value, z.size = 32 → Instr.fill (fun i => some (i * 32, 32)) z [(0, Value.agg (encN x).toArray)] = some (encN x).toArray := by
    intro z hz
    have hs := encN_size x
    have hc : (Value.agg (encN x).toArray).cells = (encN x).toArray := rfl
    simp only [Instr.fill, hc, hs, hz]
    rw [if_neg (by decide)]
    congr 1
    apply Array.toList_inj.1
    have := fold_set (encN x) 0 z (by rw [encN_len]; omega)
    rw [encN_len, List.drop_of_length_le (by simp; omega)] at this
    simpa using this
  have hzs : ((Array.range (1 * 32)).map (fun i => (Value.agg (encN default).toArray).cells[i % (Value.agg (encN default).toArray).cells.size]!)).size = 32 := by simp
  unfold Instr.buildSlice
  simp only [Sem.run_bind, run_underlying Tryz.underlying25, Result.andThen_ok, Tryz.sizeOf24]
  rw [if_neg (by decide), if_neg (by decide)]
  simp only [Sem.run_bind, zero_nm, Result.andThen_ok, Sem.run_pure]
  rw [hfill _ hzs]
  rfl
theorem wp_buildN {o : Oper} {a : Act} {w : World} {K : Act → World → Prop} {Q : Exit → Act → World → Prop} (t : Operand) (ho : o.op = .buildSlice 25 1 #[(0, t)]) (x : Nm) (hx : a.eval t = .agg (encN x).toArray)
    (h : K (a.put o.dst (.slice (some ⟨w.heap.size, 0, none⟩) 1 1)) (w.alloc (.cells (encN x).toArray 24))) : o.wp Tryz.prog a w K Q := by
  have hb := run_build_nm x w
  unfold Oper.wp
  simp [execOp, ho, hx, hb, Result.andThen]
  exact h
theorem own_later {w w' : World} {B : Nat} {v : Value} {n : Nat} {xs : List Value} {e : TypeId} {k : Nat} (h : w.ownsRow B e k v n xs) (hb : Below w.heap.size w w') : w'.ownsRow B e k v n xs := by
  refine ⟨h.1, ?_⟩
  rcases h.2 with h0 | ⟨g, cap, cur, hv, hB, hg, rest⟩
  · exact .inl h0
  · exact .inr ⟨g, cap, cur, hv, hB, (hb.block g (Array.getElem?_eq_some_iff.1 hg).1).trans hg, rest⟩
theorem arg_one {w : World} {g : Nat} {x : Nm} (h : Whole w g 24 (encN x).toArray) : ArgN w (some ⟨g, 0, none⟩) 1 [x] := by
  refine ⟨Nat.le_refl _, by unfold maxLen; omega, (fun e => by cases e), fun _ => ⟨g, 0, rfl, fun i hi j v hv => ?_⟩⟩
  obtain rfl : i = 0 := by simpa using hi
  rw [show 0 + 0 * 32 + j = j by omega, h.at_, List.getElem?_toArray]
  exact hv
end Go.Proofs.YtfaijkgfhdhhbaaGreatDoor
namespace Go.Proofs.YtfaijkgfhdhhbaaGreatDoor
open Go.RowKit

theorem slice_toM {P : Program} {A : Option Addr} {c : Nat} (T E m n : Nat) (hu : P.underlying T = some (.slice E)) (he : (P.info? E).isSome = true) (hn : n ≤ c) (W : World) :
    (Instr.slice T (.slice A m c) none (some (.int .i64 (n : Int))) none).run P W = .ok (.slice A n c) W := by
  have hel : P.elem T = E := by simp [Program.elem, hu]
  have h := run_slice_h (P := P) (w := W) (t := T) (a := A) (len := m) (cap := c) (by rw [hel]; exact hu) .i64 (n : Int) (by omega) (by omega)
  rw [h, hel]
  cases hq : P.info? E with
  | none => simp [hq] at he
  | some i =>
    have hadd : A.map (fun a => a.add 0) = A := by
      cases A with
      | none => rfl
      | some a => simp [Addr.add]
    simp [sizeOf, typeInfo, hq, sliced, hadd]
theorem slice_fromN {w : World} {A : Option Addr} {c : Nat} {ids : List Nm} (h : ArgN w A c ids) (k : Nat) (hk : k ≤ ids.length) :
    ∃ A', (∀ W, (Instr.slice 25 (.slice A ids.length c) (some (.int .i64 (k : Int))) none none).run Tryz.prog W = .ok (.slice A' (ids.drop k).length (c - k)) W) ∧ ArgN w A' (c - k) (ids.drop k) := by
  obtain ⟨h1, h2, h3, h4⟩ := h
  refine ⟨if c = k then A else A.map (·.add (k * 32)), fun W => ?_, ?_⟩
  · have hel : Tryz.prog.elem 25 = 24 := by simp [Program.elem, Tryz.underlying25]
    have h := run_slice_l (P := Tryz.prog) (w := W) (t := 25) (a := A) (len := ids.length) (cap := c) (by rw [hel]; exact Tryz.underlying25) .i64 (k : Int) (by omega) (by omega)
    rw [h, hel, Tryz.sizeOf24]
    simp [sliced]
  · refine ⟨by rw [List.length_drop]; omega, by omega, fun e => ?_, fun h0 => ?_⟩
    · split at e
      · omega
      · cases A with
        | none => have := h3 rfl; omega
        | some a => cases e
    · rw [List.length_drop] at h0
      obtain ⟨b, o, rfl, hr⟩ := h4 (by omega)
      have hca : ¬ c = k := by omega
      refine ⟨b, o + k * 32, by rw [if_neg hca]; simp [Addr.add_mid], fun i hi => ?_⟩
      rw [List.length_drop] at hi
      have := hr (k + i) (by omega)
      have e : (ids.drop k).getD i default = ids.getD (k + i) default := by simp [List.getD, List.getElem?_drop]
      rw [e]
      rw [show o + k * 32 + i * 32 = o + (k + i) * 32 by omega]
      exact this
set_option maxRecDepth 100000 in
theorem wp_appendN {o : Oper} {a : Act} {w : World} {K : Act → World → Prop} {Q : Exit → Act → World → Prop} (s x : Operand) (ho : o.op = .call { callee := .builtin .append, args := #[s, x], argTypes := #[25, 25] })
    (B : Nat) (v : Value) (xs : List Nm) (hs : a.eval s = v) (hown : w.ownsRow B 24 32 v xs.length (xs.flatMap encN)) (A : Option Addr) (n c : Nat) (ys : List Nm) (hn : ys.length = n) (hx : a.eval x = .slice A n c) (hy : ArgN w A c ys)
    (hB : B ≤ w.heap.size) (hl : xs.length + ys.length ≤ 1000) (h : ∀ v' w', w'.ownsRow B 24 32 v' (xs ++ ys).length ((xs ++ ys).flatMap encN) → Below B w w' → K (a.put o.dst v') w') : o.wp Tryz.prog a w K Q := by
  subst hn
  cases hq : Tryz.prog.info? 24 with
  | none =>
    have := info23
    rw [hq] at this
    cases this
  | some i0 =>
    have hi := info23
    rw [hq] at hi
    simp only [Option.map_some, Option.some.injEq, Prod.mk.injEq] at hi
    obtain ⟨h1, h2, h3⟩ := hi
    cases A with
    | none =>
      obtain ⟨rfl, rfl⟩ := hy.nil
      have hrun := run_append_owned_none (P := Tryz.prog) (w := w) B 25 o.type 24 i0 32 Tryz.underlying25 hq v xs.length (xs.flatMap encN) hown
      unfold Oper.wp
      simp [execOp, ho, resolve, invoke, builtin, hs, hx, hrun, Result.andThen]
      exact h v w (by simpa using hown) (Below.refl _ _)
    | some ad =>
      refine wp_append_own w s x 25 ho B 24 i0 (.agg (encN default).toArray) 32 32 Tryz.underlying25 hq h1 h2 h3 (encN_size default) (by decide) v xs.length (xs.flatMap encN) hs hown ad ys.length c (ys.flatMap encN) hx (flat_len ys) (fun j u hu => ?_) (flat_one ys) (by unfold maxLen; omega) (by omega) hB (fun v' w' h4 h5 _ => ?_)
      · have hj := (List.getElem?_eq_some_iff.1 hu).1
        rw [flat_len] at hj
        obtain ⟨b, off, e, hr⟩ := hy.2.2.2 (by omega)
        injection e with e
        subst e
        rw [Addr.add_mid]
        exact row_flat hr j u hu
      · refine h v' w' (by rw [List.length_append, List.flatMap_append]; exact h4) ?_
        refine ⟨h5.os, h5.tape, h5.output, h5.size, fun k hk => h5.block k (by omega) ?_⟩
        intro e
        rcases hown.2 with ⟨rfl, -⟩ | ⟨g, cap, cur, rfl, hg, -⟩
        · cases e
        · simp [Value.ownBlock] at e
          omega
theorem wpList_appendN {ops : Array Oper} {rest : List Oper} {o : Oper} {a : Act} {w : World} {Q : Exit → Act → World → Prop} (hg : o.guard = none) (s x : Operand) (ho : o.op = .call { callee := .builtin .append, args := #[s, x], argTypes := #[25, 25] })
    (B : Nat) (v : Value) (xs : List Nm) (hs : a.eval s = v) (hown : w.ownsRow B 24 32 v xs.length (xs.flatMap encN)) (A : Option Addr) (n c : Nat) (ys : List Nm) (hn : ys.length = n) (hx : a.eval x = .slice A n c) (hy : ArgN w A c ys)
    (hB : B ≤ w.heap.size) (hl : xs.length + ys.length ≤ 1000) (h : ∀ v' w', w'.ownsRow B 24 32 v' (xs ++ ys).length ((xs ++ ys).flatMap encN) → Below B w w' → wpList Tryz.prog ops Q rest (a.put o.dst v') w') : wpList Tryz.prog ops Q (o :: rest) a w :=
  wpList_plain hg fun _ hK => wp_appendN s x ho B v xs hs hown A n c ys hn hx hy hB hl fun v' w' h1 h2 => hK _ _ (h v' w' h1 h2)
end Go.Proofs.YtfaijkgfhdhhbaaGreatDoor
namespace Go.Proofs.YtfaijkgfhdhhbaaGreatDoor
open Go.RowKit

theorem Row.of_bytes {w : World} {g c : Nat} {l : List UInt8} (h : Bytes w (.slice (some ⟨g, 0, none⟩) l.length c) l) (hg : g < w.heap.size) (hz : ∀ i, i < l.length → w.frozen? ⟨g, i, none⟩ = false) : Row w (some ⟨g, 0, none⟩) c l := by
  obtain ⟨A, c', e, h1, h2, h3⟩ := h
  injection e with e1 _ e3
  subst e1 e3
  refine ⟨h1, h2, fun h0 => ⟨g, rfl, hg, fun i hi => ?_⟩⟩
  obtain ⟨g', off, e, hc⟩ := h3 h0
  injection e with e
  injection e with e1 e2
  subst e1 e2
  have := hc i hi
  rw [Nat.zero_add] at this
  exact ⟨this, hz i hi⟩
/-- Bytes, what there is. -/
theorem rbytes_some (b : Nat) (s : List UInt8) (n : Nat) (w : World) (h : Rd w b s) (hl : n ≤ s.length) (hn : n ≤ 1048576) : Calls Tryz.prog 95 #[.pointer (some ⟨b, 0, none⟩), .int .i64 (n : Int)] w fun e w' =>
    ∃ g c, e = .returned (.slice (some ⟨g, 0, none⟩) n c) ∧ Row w' (some ⟨g, 0, none⟩) c (s.take n) ∧ Alt (· = b) w w' ∧ Rd w' b (s.drop n) ∧ w.heap.size ≤ g := by
  have HT : Hid (Calls Tryz.prog 131 #[.pointer (some ⟨b, 0, none⟩), .int .i64 (n : Int)] w fun e w' => e = .returned (.string ⟨(s.take n).toArray⟩) ∧ w.grownBy w' (some b) ∧ Rd w' b (s.drop n)) := by
    by_cases h0 : n = 0
    · subst h0
      refine (take_none b s w h).mono ?_
      rintro e w' ⟨rfl, rfl⟩
      exact ⟨rfl, gr_refl _ _, h⟩
    · exact take_some b s n w h (by omega) hl
  have hlen : (s.take n).length = n := by rw [List.length_take]; omega
  have HL := Lib.hid hlen
  clear h hl hlen
  generalize s.take n = l at *
  go_enter Tryz.func95, Tryz.ntmps95
  go_wp2_with fail
  refine HT.out.mono ?_
  rintro e w1 ⟨rfl, hG, hR⟩
  have HG := Lib.hid hG
  have HR := Lib.hid hR
  have hb : b < w1.heap.size := hR.lt
  clear hG hR
  go_wp2_with (refine wpList_of_string rfl 9 78 5 _ rfl ⟨l.toArray⟩ l rfl rfl Tryz.underlying9 Tryz.underlying78 Tryz.underlying5 (by rw [HL.out]; unfold maxLen; omega) ?_; intro w2 c hby hzz hbe hsz; have HBY := Lib.hid hby; have HZ := Lib.hid hzz; have HBE := Lib.hid hbe; clear hby hzz hbe)
  go_ret
  refine ⟨w1.heap.size, c, by rw [HL.out]; rfl, Row.of_bytes HBY.out (by omega) HZ.out, ?_, HR.out.below HBE.out hb, HG.out.size⟩
  exact (Alt.of_grown HG.out (fun j hj => by injection hj with hj; exact hj.symm)).below HBE.out

end Go.Proofs.YtfaijkgfhdhhbaaGreatDoor
namespace Go.Proofs.YtfaijkgfhdhhbaaGreatDoor
open Go.RowKit

theorem istree_ok (m : UInt8) (h : m = 100 ∨ m = 102) (w : World) : Calls Tryz.prog 122 #[.int .u8 (m.toNat : Int)] w fun e w' => e = .returned (.bool (m == 100)) ∧ w = w' := by
  rcases h with rfl | rfl
  · go_enter Tryz.func122, Tryz.ntmps122
    go_wp2_with (go_at_call 87; refine (must_yes _ _).mono ?_; rintro e w' ⟨rfl, rfl⟩)
    go_ret
    exact ⟨rfl, rfl⟩
  · go_enter Tryz.func122, Tryz.ntmps122
    go_wp2_with (go_at_call 87; refine (must_yes _ _).mono ?_; rintro e w' ⟨rfl, rfl⟩)
    go_ret
    exact ⟨rfl, rfl⟩
theorem istree_bad (m : UInt8) (h : ¬ (m = 100 ∨ m = 102)) (w : World) : Calls Tryz.prog 122 #[.int .u8 (m.toNat : Int)] w fun e w' => e = .panicked (fault 1) ∧ w = w' := by
  have e1 : ((m.toNat : Int) == 100) = false := by
    rw [beq_eq_false_iff_ne]
    intro e
    exact h (.inl (UInt8.toNat_inj.1 (show m.toNat = ((100 : UInt8)).toNat by have : (100 : UInt8).toNat = 100 := rfl; omega)))
  have e2 : ((m.toNat : Int) == 102) = false := by
    rw [beq_eq_false_iff_ne]
    intro e
    exact h (.inr (UInt8.toNat_inj.1 (show m.toNat = ((102 : UInt8)).toNat by have : (102 : UInt8).toNat = 102 := rfl; omega)))
  clear h
  go_enter Tryz.func122, Tryz.ntmps122
  go_wp2_with (go_at_call 87; refine (must_no _ _).mono ?_; rintro e w' ⟨rfl, rfl⟩)
  exact ⟨rfl, rfl, rfl⟩
/-- Cells stored one behind the other, up to a block's end. -/
theorem whole_setCells {g : Nat} {t : TypeId} : ∀ (vs : List Value) (o : Nat) (w : World) (cs : Array Value), Whole w g t cs → o + vs.length = cs.size → Whole (w.setCells g o vs) g t (cs.toList.take o ++ vs).toArray
  | [], o, w, cs, h, hs => by
    rw [List.append_nil, List.take_of_length_le (by simp at hs ⊢; omega)]
    simpa [World.setCells] using h
  | v :: r, o, w, cs, h, hs => by
    rw [World.setCells]
    have h1 := whole_setCells r (o + 1) _ _ (h.put o v) (by simp at hs ⊢; omega)
    have ho : o < cs.toList.length := by simp at hs ⊢; omega
    have e : (cs.setIfInBounds o v).toList.take (o + 1) ++ r = cs.toList.take o ++ v :: r := by
      rw [Array.toList_setIfInBounds, List.take_set, List.take_succ_eq_append_getElem ho, List.set_append_right _ _ (by simp; omega)]
      have : o - (cs.toList.take o).length = 0 := by simp; omega
      rw [this]
      simp
    rw [e] at h1
    exact h1
theorem gr_setCells {g : Nat} : ∀ (vs : List Value) (o : Nat) (w w0 : World), w0.grownBy w (some g) → w0.grownBy (w.setCells g o vs) (some g)
  | [], _, _, _, h => h
  | v :: r, o, w, w0, h => by
    rw [World.setCells]
    exact gr_setCells r (o + 1) _ _ (gr_set h (.inl rfl) _)
theorem cut_no : ∀ (r n u : List UInt8), cutName r = some (n, u) → (0 : UInt8) ∉ n
  | [], n, u, h => by cases h
  | b :: r, n, u, h => by
    unfold cutName at h
    by_cases hb : b = 0
    · rw [if_pos hb] at h
      injection h with h
      injection h with h1 h2
      subst h1
      simp
    · rw [if_neg hb] at h
      cases hc : cutName r with
      | none => rw [hc] at h; cases h
      | some p =>
        rw [hc] at h
        injection h with h
        injection h with h1 h2
        subst h1 h2
        have := cut_no r p.1 p.2 hc
        intro hm
        rcases List.mem_cons.1 hm with e | e
        · exact hb e.symm
        · exact this e
theorem rdname_cut (b : Nat) (r n u : List UInt8) (w : World) (h : Rd w b r) (hc : cutName r = some (n, u)) (hn : n.length ≤ 20) :
    Calls Tryz.prog 123 #[.pointer (some ⟨b, 0, none⟩)] w fun e w' => e = .returned (.string ⟨n.toArray⟩) ∧ Alt (· = b) w w' ∧ Rd w' b u := by
  have hb := cut_back r n u hc
  have h0 := cut_no r n u hc
  have key := rdname_ok b n.length r w h (fun j hj e => h0 (by
    rw [hb] at e
    rw [List.getD_eq_getElem?_getD, List.getElem?_append_left hj, List.getElem?_eq_getElem hj] at e
    rw [← show n[j] = 0 from e]
    exact List.getElem_mem hj)) (by rw [hb]; simp) (by rw [hb]; simp [List.getD]) hn
  rw [hb] at key
  simpa using key
theorem rdname_fell (b : Nat) (r : List UInt8) (w : World) (h : Rd w b r) (hb : ∀ n u, cutName r = some (n, u) → ¬ n.length ≤ 20) :
    Calls Tryz.prog 123 #[.pointer (some ⟨b, 0, none⟩)] w fun e w' => Fell (· = b) w e w' := by
  refine rdname_bad b r w h ?_
  -- the first nought
  by_cases hz : ∃ k, k < r.length ∧ r.getD k 0 = 0 ∧ ∀ j, j < k → r.getD j 0 ≠ 0
  · obtain ⟨k, hk, hk0, hkj⟩ := hz
    have := hb _ _ (ncut_at r k hkj hk hk0)
    rw [List.length_take] at this
    intro j _ hj
    exact hkj j (by omega)
  · intro j hj hj20 e
    refine hz ?_
    clear hb h
    induction j using Nat.strongRecOn with
    | ind j ih =>
      by_cases ha : ∀ i, i < j → r.getD i 0 ≠ 0
      · exact ⟨j, hj, e, ha⟩
      · have ⟨i, hi⟩ := Classical.not_forall.1 ha
        have hi1 : i < j := Classical.byContradiction fun h => hi (fun h2 => absurd h2 h)
        have hi2 : r.getD i 0 = 0 := Classical.byContradiction fun h => hi (fun _ => h)
        exact ih i hi1 (by omega) (by omega) hi2
theorem row_range {w : World} {g c : Nat} {l : List UInt8} (h : Row w (some ⟨g, 0, none⟩) c l) : w.rangeAt g 0 (l.map Y) := by
  intro j v hv
  have hj : j < l.length := by simpa using (List.getElem?_eq_some_iff.1 hv).1
  obtain ⟨g', e, hg, hc⟩ := h.2.2 (by omega)
  injection e with e
  injection e with e1 e2
  subst e1
  rw [Nat.zero_add, (hc j hj).1, ← hv]
  simp [List.getElem?_eq_getElem hj]
set_option maxRecDepth 100000 in
set_option maxHeartbeats 4000000 in
theorem entry_ok (b : Nat) (m : UInt8) (r n u : List UInt8) (x : Nm) (w : World) (hm : m = 100 ∨ m = 102) (h : Rd w b (m :: 32 :: r)) (hc : cutName r = some (n, u)) (hn : n.length ≤ 20) (hu : 32 ≤ u.length) (hx : x.l = u.take 32) :
    Calls Tryz.prog 88 #[.pointer (some ⟨b, 0, none⟩)] w fun e w' => e = .returned (.agg (encE ⟨n, m == 100, x⟩).toArray) ∧ Alt (· = b) w w' ∧ Rd w' b (u.drop 32) := by
  have hbl : b < w.heap.size := h.lt
  have HIS := Lib.hid fun W => istree_ok m hm W
  have HNM := Lib.hid fun W (h : Rd W b r) => rdname_cut b r n u W h hc hn
  have HBY := Lib.hid fun W (h : Rd W b u) => rbytes_some b u 32 W h hu (by decide)
  have HX := Lib.hid hx
  generalize (m == 100) = dr at *
  have HR0 := Lib.hid fun z => Whole.past (Whole.past h (.cells z 49)) (.cells z 49)
  have HB0 := Lib.hid fun z => ((Alt.refl (· = b) w).alloc (.cells z 49)).alloc (.cells z 49)
  have HG0 := Lib.hid fun z => Whole.past (Whole.made w 49 z) (.cells z 49)
  have HG1 : Hid (∀ z, Whole ((w.alloc (.cells z 49)).alloc (.cells z 49)) (w.heap.size + 1) 49 z) := by
    intro z
    have := Whole.made (w.alloc (.cells z 49)) 49 z
    simpa using this
  clear h hm hc hx
  go_enter Tryz.func88, Tryz.ntmps88
  go_wp2_with fail
  generalize hz : (#[Value.string ⟨#[]⟩, Value.bool false, Value.int IntKind.u8 0, Value.int IntKind.u8 0, Value.int IntKind.u8 0, Value.int IntKind.u8 0, Value.int IntKind.u8 0, Value.int IntKind.u8 0, Value.int IntKind.u8 0, Value.int IntKind.u8 0, Value.int IntKind.u8 0, Value.int IntKind.u8 0, Value.int IntKind.u8 0, Value.int IntKind.u8 0, Value.int IntKind.u8 0, Value.int IntKind.u8 0, Value.int IntKind.u8 0, Value.int IntKind.u8 0, Value.int IntKind.u8 0, Value.int IntKind.u8 0, Value.int IntKind.u8 0, Value.int IntKind.u8 0, Value.int IntKind.u8 0, Value.int IntKind.u8 0, Value.int IntKind.u8 0, Value.int IntKind.u8 0, Value.int IntKind.u8 0, Value.int IntKind.u8 0, Value.int IntKind.u8 0, Value.int IntKind.u8 0, Value.int IntKind.u8 0, Value.int IntKind.u8 0, Value.int IntKind.u8 0, Value.int IntKind.u8 0] : Array Value) = z at *
  have hz0 : z[0]? = some (.string ⟨#[]⟩) := by rw [← hz]; rfl
  have hz1 : z[1]? = some (.bool false) := by rw [← hz]; rfl
  have hzs : z.size = 34 := by rw [← hz]; rfl
  have hR := HR0.out z
  have hB := HB0.out z
  have hG0 := HG0.out z
  have hG1 := HG1.out z
  clear hz HR0 HB0 HG0 HG1
  generalize (w.alloc (.cells z 49)).alloc (.cells z 49) = w0 at *
  refine (byte_some b m (32 :: r) _ hR).mono ?_
  rintro e w1 ⟨rfl, hG, hR1⟩
  have HA1 := Lib.hid (hB.grown hG (fun j hj => by injection hj with hj; exact .inr hj.symm))
  have HG01 := Lib.hid (hG0.grown hG (fun e => by injection e with e; omega))
  have hG11 := hG1.grown hG (fun e => by injection e with e; omega)
  have HR1 := Lib.hid hR1
  have hc1 : w1.cell? ⟨w.heap.size + 1, 1, none⟩ = some (.bool false) := (hG11.at_ 1).trans hz1
  have hf1 := hG11.thawed 1
  have HG11 := Lib.hid hG11
  clear hR hB hG0 hG1 hG hR1 hG11
  go_wp2_with fail
  refine (HIS.out _).mono ?_
  rintro e w2 ⟨rfl, rfl⟩
  go_wp2_with fail
  have HA2 := Lib.hid (HA1.out.set (p := ⟨w.heap.size + 1, 1, none⟩) (.inr (by simp)) (.bool dr))
  have HG02 := Lib.hid (HG01.out.aside (p := ⟨w.heap.size + 1, 1, none⟩) (by simp) (.bool dr))
  have HG12 := Lib.hid (HG11.out.put 1 (.bool dr))
  have hR2 := Whole.aside HR1.out (p := ⟨w.heap.size + 1, 1, none⟩) (by simp; omega) (.bool dr)
  clear hc1 hf1 HA1 HG01 HG11 HR1
  generalize w1.setCell ⟨w.heap.size + 1, 1, none⟩ (.bool dr) = w2 at *
  have hz10 : (z.setIfInBounds 1 (.bool dr))[0]? = some (.string ⟨#[]⟩) := by simp [hz0]
  have hz11 : (z.setIfInBounds 1 (.bool dr))[1]? = some (.bool dr) := Array.getElem?_setIfInBounds_self_of_lt (by omega)
  have hz1s : (z.setIfInBounds 1 (.bool dr)).size = 34 := by simpa using hzs
  generalize z.setIfInBounds 1 (.bool dr) = z1 at *
  refine (byte_some b 32 r _ hR2).mono ?_
  rintro e w3 ⟨rfl, hG, hR3⟩
  have HA3 := Lib.hid (HA2.out.grown hG (fun j hj => by injection hj with hj; exact .inr hj.symm))
  have HG03 := Lib.hid (HG02.out.grown hG (fun e => by injection e with e; omega))
  have HG13 := Lib.hid (HG12.out.grown hG (fun e => by injection e with e; omega))
  have HR3 := Lib.hid hR3
  clear hG hR2 hR3 HA2 HG02 HG12
  go_wp2_with (go_at_call 87; refine (must_yes _ _).mono ?_; rintro e w' ⟨rfl, rfl⟩)
  refine (HNM.out _ HR3.out).mono ?_
  rintro e w4 ⟨rfl, hal, hR4⟩
  have HA4 := Lib.hid (HA3.out.trans hal)
  have HG04 := Lib.hid (HG03.out.alt hal (by omega))
  have hG14 := HG13.out.alt hal (by omega)
  have HR4 := Lib.hid hR4
  have hc0 : w4.cell? ⟨w.heap.size + 1, 0, none⟩ = some (.string ⟨#[]⟩) := (hG14.at_ 0).trans hz10
  have hf0 := hG14.thawed 0
  have HG14 := Lib.hid hG14
  clear hal hR4 hG14 HA3 HG03 HG13 HR3 HNM
  go_wp2_with fail
  have HA5 := Lib.hid (HA4.out.set (p := ⟨w.heap.size + 1, 0, none⟩) (.inr (by simp)) (.string ⟨n.toArray⟩))
  have HG05 := Lib.hid (HG04.out.aside (p := ⟨w.heap.size + 1, 0, none⟩) (by simp) (.string ⟨n.toArray⟩))
  have HG15 := Lib.hid (HG14.out.put 0 (.string ⟨n.toArray⟩))
  have hR5 := Whole.aside HR4.out (p := ⟨w.heap.size + 1, 0, none⟩) (by simp; omega) (.string ⟨n.toArray⟩)
  clear hc0 hf0 HA4 HG04 HG14 HR4
  generalize w4.setCell ⟨w.heap.size + 1, 0, none⟩ (.string ⟨n.toArray⟩) = w5 at *
  have hz20 : (z1.setIfInBounds 0 (.string ⟨n.toArray⟩))[0]? = some (.string ⟨n.toArray⟩) := Array.getElem?_setIfInBounds_self_of_lt (by omega)
  have hz21 : (z1.setIfInBounds 0 (.string ⟨n.toArray⟩))[1]? = some (.bool dr) := by simp [hz11]
  have hz2s : (z1.setIfInBounds 0 (.string ⟨n.toArray⟩)).size = 34 := by simpa using hz1s
  generalize z1.setIfInBounds 0 (.string ⟨n.toArray⟩) = z2 at *
  have hEQ : (z2.toList.take 2 ++ (encN x).toArray.toList).toArray = (encE ⟨n, dr, x⟩).toArray := by
    have e2 : z2.toList.take 2 = [.string ⟨n.toArray⟩, .bool dr] := by
      rw [List.take_succ_eq_append_getElem (by simp; omega), List.take_succ_eq_append_getElem (by simp; omega)]
      simp only [List.take_zero, List.nil_append, Array.getElem_toList]
      have a0 := (Array.getElem?_eq_some_iff.1 hz20).2
      have a1 := (Array.getElem?_eq_some_iff.1 hz21).2
      rw [a0, a1]
      rfl
    rw [e2]
    rfl
  have HEQ := Lib.hid hEQ
  have HZS := Lib.hid hzs
  clear hz0 hz1 hzs hz10 hz11 hz1s hz20 hz21 hEQ
  refine (HBY.out _ hR5).mono ?_
  rintro e w6 ⟨gr, cr, rfl, hrow, hal, hR6, hgr⟩
  have HA6 := Lib.hid (HA5.out.trans hal)
  have HG06 := Lib.hid (HG05.out.alt hal (by omega))
  have HG16 := Lib.hid (HG15.out.alt hal (by omega))
  have HR6 := Lib.hid hR6
  have HRW : Hid (w6.rangeAt gr 0 (encN x)) := by
    show World.rangeAt _ _ _ _
    unfold encN
    rw [HX.out]
    exact row_range hrow
  have hg1 : w.heap.size + 1 < w5.heap.size := HG15.out.lt
  have harr := fun W => run_arrayAt (P := Tryz.prog) W 24 5 32 (some ⟨gr, 0, none⟩) 32 cr Tryz.underlying24 (Nat.le_refl _)
  clear hal hR6 hR5 hrow HA5 HG05 HG15 HBY
  have HXI : Hid ((Tryz.prog.info? 24).map (·.size) = some (encN x).toArray.size) := by show _ = _; rw [encN_size]; exact infoN
  have HTH : Hid (w6.there (w.heap.size + 1) 2 (encN x).toArray.size) := by
    intro j hj
    rw [encN_size] at hj
    refine ⟨?_, HG16.out.thawed _⟩
    rw [HG16.out.at_, Array.getElem?_eq_getElem (by omega)]
    rfl
  have HA7 : Hid (Alt (· = b) w (w6.setCells (w.heap.size + 1) 2 (encN x).toArray.toList)) := Alt.grown HA6.out (gr_setCells (g := w.heap.size + 1) _ 2 w6 w6 (gr_refl _ _)) (fun j hj => by injection hj with hj; exact .inl (by omega))
  have HG07 : Hid (Whole (w6.setCells (w.heap.size + 1) 2 (encN x).toArray.toList) w.heap.size 49 z) := Whole.grown HG06.out (gr_setCells (g := w.heap.size + 1) _ 2 w6 w6 (gr_refl _ _)) (fun e => by injection e with e; omega)
  have HR7 : Hid (Rd (w6.setCells (w.heap.size + 1) 2 (encN x).toArray.toList) b (u.drop 32)) := Whole.grown HR6.out (gr_setCells (g := w.heap.size + 1) _ 2 w6 w6 (gr_refl _ _)) (fun e => by injection e with e; omega)
  have HG17 : Hid (Whole (w6.setCells (w.heap.size + 1) 2 (encN x).toArray.toList) (w.heap.size + 1) 49 (encE ⟨n, dr, x⟩).toArray) := by
    show Whole _ _ _ _
    have h9 := whole_setCells (encN x).toArray.toList 2 w6 z2 HG16.out (by have := encN_len x; simp; omega)
    rw [HEQ.out] at h9
    exact h9
  go_wp2_with (first
    | (refine wpList_load_mid rfl 24 _ rfl gr 0 rfl (encN x) _ HRW.out Tryz.underlying24 rfl (by rw [encN_len]; exact infoN) ?_)
    | (refine wpList_store_mid rfl 24 _ _ rfl (w.heap.size + 1) 2 (encN x).toArray rfl rfl HTH.out HXI.out (encN_all x) ?_; generalize w6.setCells (w.heap.size + 1) 2 (encN x).toArray.toList = w7 at *)
    | (refine wpList_load_row rfl 49 _ rfl (w.heap.size + 1) rfl 49 (encE ⟨n, dr, x⟩).toArray (0, 0) _ HG17.out Tryz.underlying49 rfl (infoE_s _) ?_)
    | (refine wpList_store_whole rfl 49 _ _ rfl w.heap.size (encE ⟨n, dr, x⟩).toArray rfl rfl 49 _ HG07.out (infoE_s _) (by rw [encE_size]; exact HZS.out) (encE_all _) ?_; intro w8 hWn hGn; have HW8 := Lib.hid hWn; have HG8 := Lib.hid hGn; clear hWn hGn))
  have HA8 := Lib.hid (HA7.out.grown HG8.out (fun j hj => by injection hj with hj; exact .inl (by omega)))
  have HR8 := Lib.hid (Whole.grown HR7.out HG8.out (fun e => by injection e with e; omega))
  refine bodyPost_ret (v := .agg (encE ⟨n, dr, x⟩).toArray) ?_ rfl ⟨rfl, HA8.out, HR8.out⟩
  exact results_cell_row (p := 2) (ty := 49) rfl _ _ w.heap.size 49 (encE ⟨n, dr, x⟩).toArray (0, 0) _ rfl HW8.out Tryz.underlying49 rfl (infoE_s _)
theorem rby_more (b : Nat) (s : List UInt8) (n : Int) (w : World) (h : Rd w b s) (hn : (s.length : Int) < n) : Calls Tryz.prog 95 #[.pointer (some ⟨b, 0, none⟩), .int .i64 n] w fun e w' => e = .panicked (fault 2) ∧ w = w' := by
  have HT := Lib.hid (take_more b s n w h hn)
  clear h hn
  go_enter Tryz.func95, Tryz.ntmps95
  go_wp2_with fail
  refine HT.out.mono ?_
  rintro e w' ⟨rfl, rfl⟩
  exact ⟨rfl, rfl, rfl⟩
set_option maxRecDepth 100000 in
set_option maxHeartbeats 4000000 in
theorem entry_bad (b : Nat) (s : List UInt8) (w : World) (h : Rd w b s) (hv : entV s = none) :
    Calls Tryz.prog 88 #[.pointer (some ⟨b, 0, none⟩)] w fun e w' => Fell (· = b) w e w' := by
  have hbl : b < w.heap.size := h.lt
  have HV := Lib.hid hv
  clear hv
  have HR0 := Lib.hid fun z => Whole.past (Whole.past h (.cells z 49)) (.cells z 49)
  have HB0 := Lib.hid fun z => ((Alt.refl (· = b) w).alloc (.cells z 49)).alloc (.cells z 49)
  have HG0 := Lib.hid fun z => Whole.past (Whole.made w 49 z) (.cells z 49)
  have HG1 : Hid (∀ z, Whole ((w.alloc (.cells z 49)).alloc (.cells z 49)) (w.heap.size + 1) 49 z) := by
    intro z
    have := Whole.made (w.alloc (.cells z 49)) 49 z
    simpa using this
  clear h
  go_enter Tryz.func88, Tryz.ntmps88
  go_wp2_with fail
  generalize hz : (#[Value.string ⟨#[]⟩, Value.bool false, Value.int IntKind.u8 0, Value.int IntKind.u8 0, Value.int IntKind.u8 0, Value.int IntKind.u8 0, Value.int IntKind.u8 0, Value.int IntKind.u8 0, Value.int IntKind.u8 0, Value.int IntKind.u8 0, Value.int IntKind.u8 0, Value.int IntKind.u8 0, Value.int IntKind.u8 0, Value.int IntKind.u8 0, Value.int IntKind.u8 0, Value.int IntKind.u8 0, Value.int IntKind.u8 0, Value.int IntKind.u8 0, Value.int IntKind.u8 0, Value.int IntKind.u8 0, Value.int IntKind.u8 0, Value.int IntKind.u8 0, Value.int IntKind.u8 0, Value.int IntKind.u8 0, Value.int IntKind.u8 0, Value.int IntKind.u8 0, Value.int IntKind.u8 0, Value.int IntKind.u8 0, Value.int IntKind.u8 0, Value.int IntKind.u8 0, Value.int IntKind.u8 0, Value.int IntKind.u8 0, Value.int IntKind.u8 0, Value.int IntKind.u8 0] : Array Value) = z at *
  have hz0 : z[0]? = some (.string ⟨#[]⟩) := by rw [← hz]; rfl
  have hz1 : z[1]? = some (.bool false) := by rw [← hz]; rfl
  have hzs : z.size = 34 := by rw [← hz]; rfl
  have hR := HR0.out z
  have hB := HB0.out z
  have hG0 := HG0.out z
  have hG1 := HG1.out z
  clear hz HR0 HB0 HG0 HG1
  generalize (w.alloc (.cells z 49)).alloc (.cells z 49) = w0 at *
  cases s with
  | nil =>
    refine (byte_more b _ hR).mono ?_
    rintro e w1 ⟨rfl, rfl⟩
    exact ⟨rfl, 2, by decide, rfl, hB⟩
  | cons m s' =>
  refine (byte_some b m s' _ hR).mono ?_
  rintro e w1 ⟨rfl, hG, hR1⟩
  have HA1 := Lib.hid (hB.grown hG (fun j hj => by injection hj with hj; exact .inr hj.symm))
  have hG11 := hG1.grown hG (fun e => by injection e with e; omega)
  have HR1 := Lib.hid hR1
  have hc1 : w1.cell? ⟨w.heap.size + 1, 1, none⟩ = some (.bool false) := (hG11.at_ 1).trans hz1
  have hf1 := hG11.thawed 1
  have HG11 := Lib.hid hG11
  clear hR hB hG0 hG1 hG hR1 hG11
  by_cases hm : m = 100 ∨ m = 102
  · have HIS := Lib.hid fun W => istree_ok m hm W
    have HM := Lib.hid hm
    clear hm
    generalize (m == 100) = dr at *
    go_wp2_with fail
    refine (HIS.out _).mono ?_
    rintro e w2 ⟨rfl, rfl⟩
    go_wp2_with fail
    have HA2 := Lib.hid (HA1.out.set (p := ⟨w.heap.size + 1, 1, none⟩) (.inr (by simp)) (.bool dr))
    have HG12 := Lib.hid (HG11.out.put 1 (.bool dr))
    have hR2 := Whole.aside HR1.out (p := ⟨w.heap.size + 1, 1, none⟩) (by simp; omega) (.bool dr)
    clear hc1 hf1 HA1 HG11 HR1
    generalize w1.setCell ⟨w.heap.size + 1, 1, none⟩ (.bool dr) = w2 at *
    have hz10 : (z.setIfInBounds 1 (.bool dr))[0]? = some (.string ⟨#[]⟩) := by simp [hz0]
    generalize z.setIfInBounds 1 (.bool dr) = z1 at *
    cases s' with
    | nil =>
      refine (byte_more b _ hR2).mono ?_
      rintro e w3 ⟨rfl, rfl⟩
      exact ⟨rfl, 2, by decide, rfl, HA2.out⟩
    | cons sp r =>
    refine (byte_some b sp r _ hR2).mono ?_
    rintro e w3 ⟨rfl, hG, hR3⟩
    have HA3 := Lib.hid (HA2.out.grown hG (fun j hj => by injection hj with hj; exact .inr hj.symm))
    have HG13 := Lib.hid (HG12.out.grown hG (fun e => by injection e with e; omega))
    have HR3 := Lib.hid hR3
    clear hG hR2 hR3 HA2 HG12
    by_cases hsp : sp = 32
    · subst hsp
      go_wp2_with (go_at_call 87; refine (must_yes _ _).mono ?_; rintro e w' ⟨rfl, rfl⟩)
      by_cases hnm : ∃ n u, cutName r = some (n, u) ∧ n.length ≤ 20
      · obtain ⟨n, u, hc, hn⟩ := hnm
        have HU : Hid (u.length < 32) := by
          show _ < _
          refine Classical.byContradiction fun hu => ?_
          have h9 := HV.out
          unfold entV rawEnt at h9
          dsimp only at h9
          rw [if_pos ⟨HM.out, rfl⟩, hc] at h9
          dsimp only at h9
          rw [dif_pos (by omega)] at h9
          dsimp only at h9
          rw [if_pos hn] at h9
          cases h9
        refine (rdname_cut b r n u _ HR3.out hc hn).mono ?_
        rintro e w4 ⟨rfl, hal, hR4⟩
        have HA4 := Lib.hid (HA3.out.trans hal)
        have hG14 := HG13.out.alt hal (by omega)
        have HR4 := Lib.hid hR4
        have hc0 : w4.cell? ⟨w.heap.size + 1, 0, none⟩ = some (.string ⟨#[]⟩) := (hG14.at_ 0).trans hz10
        have hf0 := hG14.thawed 0
        clear hal hR4 hG14 HA3 HG13 HR3 hc hn
        go_wp2_with fail
        have HA5 := Lib.hid (HA4.out.set (p := ⟨w.heap.size + 1, 0, none⟩) (.inr (by simp)) (.string ⟨n.toArray⟩))
        have hR5 := Whole.aside HR4.out (p := ⟨w.heap.size + 1, 0, none⟩) (by simp; omega) (.string ⟨n.toArray⟩)
        clear hc0 hf0 HA4 HR4
        generalize w4.setCell ⟨w.heap.size + 1, 0, none⟩ (.string ⟨n.toArray⟩) = w5 at *
        refine (rby_more b u 32 _ hR5 (by have := HU.out; omega)).mono ?_
        rintro e w6 ⟨rfl, rfl⟩
        exact ⟨rfl, 2, by decide, rfl, HA5.out⟩
      · refine (rdname_fell b r _ HR3.out (fun n u hc hn => hnm ⟨n, u, hc, hn⟩)).mono ?_
        rintro e w4 ⟨c, hc, rfl, hal⟩
        exact ⟨rfl, c, hc, rfl, HA3.out.trans hal⟩
    · have e1 : ((sp.toNat : Int) == 32) = false := by
        rw [beq_eq_false_iff_ne]
        intro e
        exact hsp (UInt8.toNat_inj.1 (show sp.toNat = ((32 : UInt8)).toNat by have : (32 : UInt8).toNat = 32 := rfl; omega))
      clear hsp
      go_wp2_with (go_at_call 87; refine (must_no _ _).mono ?_; rintro e w' ⟨rfl, rfl⟩)
      exact ⟨rfl, 1, by decide, rfl, HA3.out⟩
  · have HIS := Lib.hid fun W => istree_bad m hm W
    clear hm
    go_wp2_with fail
    refine (HIS.out _).mono ?_
    rintro e w2 ⟨rfl, rfl⟩
    exact ⟨rfl, 1, by decide, rfl, HA1.out⟩
end Go.Proofs.YtfaijkgfhdhhbaaGreatDoor

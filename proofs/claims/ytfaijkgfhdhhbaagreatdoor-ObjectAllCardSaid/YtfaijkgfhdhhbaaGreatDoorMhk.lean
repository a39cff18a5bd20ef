/-
  Law 6's Commit, walked: a commit of the draws, not too long.
  append of entries to a slice of the call's own, in a region that draws.
  Law 6's Object, walked: an object of the draws, not too long.
-/
import Derived.Test.YtfaijkgfhdhhbaaGreatDoorHeldK
import Derived.Test.YtfaijkgfhdhhbaaGreatDoorBegS
import Derived.Test.YtfaijkgfhdhhbaaGreatDoorMgf
import Derived.Test.YtfaijkgfhdhhbaaGreatDoorMgr
import Derived.Test.YtfaijkgfhdhhbaaGreatDoorMgs
import Derived.Test.YtfaijkgfhdhhbaaGreatDoorObE
import Derived.Test.YtfaijkgfhdhhbaaGreatDoorTurN
namespace Go.Proofs.YtfaijkgfhdhhbaaGreatDoor
open Go.RowKit

def trimC (x : Cm) : Cm := ⟨x.tree, x.parents.take 6, x.time, x.note.take 110⟩
theorem own_low {w : World} {B : Nat} {v : Value} {ids : List Nm} {A : Option Addr} {n c : Nat} (h : w.ownsRow B 24 32 v ids.length (ids.flatMap encN)) (e : v = .slice A n c) : ∀ j, inBlk A j → B ≤ j := by
  rintro j ⟨a, rfl, rfl⟩
  subst e
  rcases h.2 with ⟨h0, -⟩ | ⟨g, cap, cur, hv, hB, -⟩
  · cases h0
  · injection hv with e1 e2 e3
    injection e1 with e1
    subst e1
    exact hB
theorem encC_trim (A : Option Addr) (c : Nat) (A' : Option Addr) (c' : Nat) (x : Cm) (ps : List Nm) (nt : List UInt8) : (((encC A c x).toArray.setIfInBounds 32 (.slice A' ps.length c')).setIfInBounds 34 (.string ⟨nt.toArray⟩)) = (encC A' c' ⟨x.tree, ps, x.time, nt⟩).toArray := by
  simp [encC, encN_len]
set_option maxRecDepth 100000 in
set_option maxHeartbeats 4000000 in
theorem lcom_any (A : Option Addr) (c : Nat) (x : Cm) (w : World) (hA : ArgN w A c x.parents) : Calls Tryz.prog 30 #[.agg (encC A c x).toArray] w fun e w' => (∃ A' c', e = .returned (.agg (encC A' c' (trimC x)).toArray) ∧ ArgN w' A' c' (trimC x).parents ∧ ∀ j, inBlk A' j → w.heap.size ≤ j) ∧ Below w.heap.size w w' := by
  have HW0 := Lib.hid fun z => Whole.past (Whole.made w 28 (encC A c x).toArray) (.cells z 28)
  have HZ0 : Hid (∀ z, Whole ((w.alloc (.cells (encC A c x).toArray 28)).alloc (.cells z 28)) (w.heap.size + 1) 28 z) := by
    intro z
    have := Whole.made (w.alloc (.cells (encC A c x).toArray 28)) 28 z
    simpa using this
  have HB0 := Lib.hid fun z => ((Below.refl w.heap.size w).alloc (Nat.le_refl _) (.cells (encC A c x).toArray 28)).alloc (by simp) (.cells z 28)
  have HA := Lib.hid hA
  have hlc := hA.1
  obtain ⟨m, hm, hm1, hm6⟩ : ∃ m, m = min x.parents.length 6 ∧ m ≤ x.parents.length ∧ m ≤ 6 := ⟨_, rfl, Nat.min_le_left _ _, Nat.min_le_right _ _⟩
  have hmin : ∀ W, (Builtin.min_ #[3, 3] 3 #[.int .i64 (x.parents.length : Int), .int .i64 6]).run Tryz.prog W = .ok (.int .i64 (m : Int)) W := by
    intro W
    rw [run_min_int2]
    congr 2
    split <;> omega
  have hsl := slice_toC (A := A) (c := c) x.parents.length m (by omega)
  have HTK : Hid (x.parents.take m = x.parents.take 6) := by
    show _ = _
    rcases Nat.le_total x.parents.length 6 with h | h
    · rw [hm, Nat.min_eq_left h, List.take_length, List.take_of_length_le h]
    · rw [hm, Nat.min_eq_right h]
  have hml : (x.parents.take m).length = m := by rw [List.length_take]; omega
  have HML := Lib.hid hml
  have HTX : Hid (∀ W, Calls Tryz.prog 7 #[.string ⟨x.note.toArray⟩, .int .i64 110] W fun e w' => e = .returned (.string ⟨(x.note.take 110).toArray⟩) ∧ W = w') := fun W => text_any x.note 110 W
  have E32 := Lib.hid (encC_32 A c x)
  have E34 := Lib.hid (encC_34 A c x)
  have HIC := Lib.hid (infoC_s A c x)
  have HXS := Lib.hid (encC_s A c x)
  have HOC : Hid (∀ A' c' nt, (((encC A c x).toArray.setIfInBounds 32 (.slice A' m c')).setIfInBounds 34 (.string ⟨nt⟩)) = (encC A c x).toArray → True) := fun _ _ _ _ => trivial
  clear hA hm hml HOC
  go_enter Tryz.func30, Tryz.ntmps30
  go_upto_region 1 with fail
  obtain ⟨z, hz⟩ : ∃ z : Array Value, z = (encC none 0 noC).toArray := ⟨_, rfl⟩
  rw [show (#[Value.int IntKind.u8 0, Value.int IntKind.u8 0, Value.int IntKind.u8 0, Value.int IntKind.u8 0, Value.int IntKind.u8 0, Value.int IntKind.u8 0, Value.int IntKind.u8 0, Value.int IntKind.u8 0, Value.int IntKind.u8 0, Value.int IntKind.u8 0, Value.int IntKind.u8 0, Value.int IntKind.u8 0, Value.int IntKind.u8 0, Value.int IntKind.u8 0, Value.int IntKind.u8 0, Value.int IntKind.u8 0, Value.int IntKind.u8 0, Value.int IntKind.u8 0, Value.int IntKind.u8 0, Value.int IntKind.u8 0, Value.int IntKind.u8 0, Value.int IntKind.u8 0, Value.int IntKind.u8 0, Value.int IntKind.u8 0, Value.int IntKind.u8 0, Value.int IntKind.u8 0, Value.int IntKind.u8 0, Value.int IntKind.u8 0, Value.int IntKind.u8 0, Value.int IntKind.u8 0, Value.int IntKind.u8 0, Value.int IntKind.u8 0, Value.slice none 0 0, Value.float FloatKind.f64 0, Value.string ⟨#[]⟩] : Array Value) = z from hz.symm]
  have hzs : z.size = 35 := by rw [hz]; exact encC_s _ _ _
  have HZS := Lib.hid hzs
  clear hz hzs
  have HW := Lib.hid (HW0.out z)
  have HZ := Lib.hid (HZ0.out z)
  have HB := Lib.hid (HB0.out z)
  have hs1 : ((w.alloc (.cells (encC A c x).toArray 28)).alloc (.cells z 28)).heap.size = w.heap.size + 2 := by simp
  clear HW0 HZ0 HB0
  generalize (w.alloc (.cells (encC A c x).toArray 28)).alloc (.cells z 28) = w1 at *
  have HA1 := Lib.hid (HA.out.later HB.out.drew)
  have HWd : Hid (Whole w1.drew w.heap.size 28 (encC A c x).toArray) := HW.out
  have HZd : Hid (Whole w1.drew (w.heap.size + 1) 28 z) := HZ.out
  have HBd := Lib.hid HB.out.drew
  have hs2 : w.heap.size + 2 ≤ w1.drew.heap.size := by show w.heap.size + 2 ≤ w1.heap.size; omega
  clear HW HZ HB HA
  refine wp_region_K (fun W => W.cell? ⟨w.heap.size, 32, none⟩ = some (.slice A x.parents.length c) ∧ W.cell? ⟨w.heap.size, 34, none⟩ = some (.string ⟨x.note.toArray⟩)) 12 (by kernel_rfl) ?_
  change wpAnyK _ _ _ _ _ _ _ _ _ (World.drew w1)
  generalize World.drew w1 = w2 at *
  have hS0 : w2.cell? ⟨w.heap.size, 32, none⟩ = some (.slice A x.parents.length c) ∧ w2.cell? ⟨w.heap.size, 34, none⟩ = some (.string ⟨x.note.toArray⟩) := ⟨(HWd.out.at_ 32).trans E32.out, (HWd.out.at_ 34).trans E34.out⟩
  refine wpAnyK_take (i := 0) (oi := { dst := some 3, op := _, type := _, pos := _, after := _, guard := none }) (v := .pointer (some ⟨w.heap.size, 32, none⟩)) rfl (by kernel_rfl) (fun _ _ _ h => h) (Or.inl ⟨by rfl, fun W hW => ?_⟩) hS0 ?_
  · go_simp
  refine wpAnyK_take (i := 1) (oi := { dst := some 4, op := _, type := _, pos := _, after := _, guard := none }) (v := .slice A x.parents.length c) rfl (by kernel_rfl) (fun _ _ _ h => h) (Or.inl ⟨by rfl, fun W hW => ?_⟩) hS0 ?_
  · obtain ⟨s1, s2⟩ := hW
    go_simp
  refine wpAnyK_take (i := 2) (oi := { dst := some 5, op := _, type := _, pos := _, after := _, guard := none }) (v := .pointer (some ⟨w.heap.size, 32, none⟩)) rfl (by kernel_rfl) (fun _ _ _ h => h) (Or.inl ⟨by rfl, fun W hW => ?_⟩) hS0 ?_
  · go_simp
  refine wpAnyK_take (i := 3) (oi := { dst := some 6, op := _, type := _, pos := _, after := _, guard := none }) (v := .slice A x.parents.length c) rfl (by kernel_rfl) (fun _ _ _ h => h) (Or.inl ⟨by rfl, fun W hW => ?_⟩) hS0 ?_
  · obtain ⟨s1, s2⟩ := hW
    go_simp
  refine wpAnyK_take (i := 4) (oi := { dst := some 7, op := _, type := _, pos := _, after := _, guard := none }) (v := .int .i64 (x.parents.length : Int)) rfl (by kernel_rfl) (fun _ _ _ h => h) (Or.inl ⟨by rfl, fun W hW => ?_⟩) hS0 ?_
  · go_simp
  refine wpAnyK_take (i := 5) (oi := { dst := some 8, op := _, type := _, pos := _, after := _, guard := none }) (v := .int .i64 (m : Int)) rfl (by kernel_rfl) (fun _ _ _ h => h) (Or.inl ⟨by rfl, fun W hW => ?_⟩) hS0 ?_
  · go_simp
  refine wpAnyK_take (i := 6) (oi := { dst := some 9, op := _, type := _, pos := _, after := _, guard := none }) (v := .slice A m c) rfl (by kernel_rfl) (fun _ _ _ h => h) (Or.inl ⟨by rfl, fun W hW => ?_⟩) hS0 ?_
  · go_simp
  refine wpAnyK_take (i := 8) (oi := { dst := some 11, op := _, type := _, pos := _, after := _, guard := none }) (v := .pointer (some ⟨w.heap.size, 34, none⟩)) rfl (by kernel_rfl) (fun _ _ _ h => h) (Or.inl ⟨by rfl, fun W hW => ?_⟩) hS0 ?_
  · go_simp
  refine wpAnyK_take (i := 9) (oi := { dst := some 12, op := _, type := _, pos := _, after := _, guard := none }) (v := .string ⟨x.note.toArray⟩) rfl (by kernel_rfl) (fun _ _ _ h => h) (Or.inl ⟨by rfl, fun W hW => ?_⟩) hS0 ?_
  · obtain ⟨s1, s2⟩ := hW
    go_simp
  simp only [Act.put]
  go_simp
  have HAT := Lib.hid (HA1.out.take m)
  refine wpAnyK_ready (rs := [7]) (by kernel_rfl) (by simp) ?_
  refine AllReadyK.cons (o := _) rfl (fun K hK => ?_) AllReadyK.nil
  rw [if_pos (by rfl)]
  refine wp_appendN _ _ rfl w2.heap.size (.slice none 0 0) [] rfl (by simpa using World.ownsRow_nil _ _ _ _) A m c (x.parents.take m) HML.out rfl HAT.out (Nat.le_refl _) (by have := HML.out; simp; omega) (fun v' w3 hown' hb3 => ?_)
  rw [List.nil_append] at hown'
  have hlow := fun A' n c' => own_low (A := A') (n := n) (c := c') hown'
  obtain ⟨A', c', rfl, harg⟩ := own_arg hown'
  have hlow' := hlow A' _ c' rfl
  have HAR := Lib.hid harg
  have HLO : Hid (∀ j, inBlk A' j → w.heap.size + 2 ≤ j) := fun j hj => by have := hlow' j hj; omega
  have HW3 := Lib.hid (HWd.out.below hb3 (by omega))
  have HZ3 := Lib.hid (HZd.out.below hb3 (by omega))
  have HB3 := Lib.hid (HBd.out.trans (hb3.mono (by omega)))
  have hs3 : w.heap.size + 2 ≤ w3.heap.size := by have := hb3.size; omega
  have c32 : w3.cell? ⟨w.heap.size, 32, none⟩ = some (.slice A x.parents.length c) := (HW3.out.at_ 32).trans E32.out
  have c34 : w3.cell? ⟨w.heap.size, 34, none⟩ = some (.string ⟨x.note.toArray⟩) := (HW3.out.at_ 34).trans E34.out
  have f32 := HW3.out.thawed 32
  have f34 := HW3.out.thawed 34
  rw [HML.out]
  clear hown' hlow hlow' harg hb3 hS0
  refine hK _ _ (fun _ => ⟨c32, c34⟩) ?_
  clear hK K
  have hS0 : w3.cell? ⟨w.heap.size, 32, none⟩ = some (.slice A x.parents.length c) ∧ w3.cell? ⟨w.heap.size, 34, none⟩ = some (.string ⟨x.note.toArray⟩) := ⟨c32, c34⟩
  refine wpAnyK_take0 (i := 11) (oi := { dst := some 14, op := _, type := _, pos := _, after := _, guard := none }) (v := .pointer (some ⟨w.heap.size, 32, none⟩)) rfl (by kernel_rfl) (fun _ _ _ h => h) (Or.inl ⟨by rfl, fun W hW => ?_⟩) (fun _ => hS0) ?_
  · go_simp
  simp only [Act.put]
  go_simp
  refine wpAnyK_ready (rs := [10]) (by kernel_rfl) (by simp) ?_
  refine AllReadyK.cons (o := _) rfl (fun K hK => ?_) AllReadyK.nil
  rw [if_pos (by rfl)]
  go_simp
  refine (HTX.out _).mono ?_
  rintro e w4 ⟨rfl, rfl⟩
  refine hK _ _ (fun _ => hS0) ?_
  clear hK K
  refine wpAnyK_ready (rs := [12]) (by kernel_rfl) (by simp) ?_
  refine AllReadyK.cons (o := _) rfl (fun K hK => ?_) AllReadyK.nil
  rw [if_pos (by rfl)]
  go_simp
  refine hK _ _ (fun h => by cases h) ?_
  clear hK K
  refine wpAnyK_take0 (i := 13) (oi := { dst := some 15, op := _, type := _, pos := _, after := _, guard := none }) (v := .pointer (some ⟨w.heap.size, 34, none⟩)) rfl (by kernel_rfl) (fun _ _ _ h => h) (Or.inl ⟨by rfl, fun W hW => ?_⟩) (fun h => by cases h) ?_
  · go_simp
  simp only [Act.put]
  go_simp
  refine wpAnyK_ready (rs := [14]) (by kernel_rfl) (by simp) ?_
  refine AllReadyK.cons (o := _) rfl (fun K hK => ?_) AllReadyK.nil
  rw [if_pos (by rfl)]
  go_simp
  refine hK _ _ (fun h => by cases h) ?_
  clear hK K
  refine wpAnyK_done (by kernel_rfl) ?_ _
  have hW5 := (HW3.out.put 32 (.slice A' m c')).put 34 (.string ⟨(x.note.take 110).toArray⟩)
  have het := encC_trim A c A' c' x (x.parents.take 6) (x.note.take 110)
  rw [← HTK.out, HML.out] at het
  have hTC : (⟨x.tree, x.parents.take m, x.time, x.note.take 110⟩ : Cm) = trimC x := by unfold trimC; rw [HTK.out]
  rw [het, hTC] at hW5
  have hZ5 := (HZ3.out.aside (p := ⟨w.heap.size, 32, none⟩) (by simp) (.slice A' m c')).aside (p := ⟨w.heap.size, 34, none⟩) (by simp) (.string ⟨(x.note.take 110).toArray⟩)
  have hB5 := (HB3.out.setCell (p := ⟨w.heap.size, 32, none⟩) (Nat.le_refl _) (.slice A' m c')).setCell (p := ⟨w.heap.size, 34, none⟩) (Nat.le_refl _) (.string ⟨(x.note.take 110).toArray⟩)
  have hn5 : ∀ j, inBlk A' j → 0 < (x.parents.take m).length → some j ≠ some w.heap.size := fun j hj _ e => by injection e with e; have := HLO.out j hj; omega
  have hA5 := (HAR.out.grown (gr_set (a := w3) (w := w3) (row := some w.heap.size) (gr_refl _ _) (p := ⟨w.heap.size, 32, none⟩) (.inl rfl) (.slice A' m c')) hn5).grown (gr_set (row := some w.heap.size) (gr_refl _ _) (p := ⟨w.heap.size, 34, none⟩) (.inl rfl) (.string ⟨(x.note.take 110).toArray⟩)) hn5
  generalize (w3.setCell ⟨w.heap.size, 32, none⟩ (.slice A' m c')).setCell ⟨w.heap.size, 34, none⟩ (.string ⟨(x.note.take 110).toArray⟩) = w5 at *
  have HW5 := Lib.hid hW5
  have HZ5 := Lib.hid hZ5
  have HB5 := Lib.hid hB5
  have HA5 := Lib.hid hA5
  clear hW5 hZ5 hB5 hA5 het c32 c34 f32 f34 hS0 hn5
  have HR5 := Lib.hid (whole_range HW5.out)
  have HI5 := Lib.hid (infoC_l A' c' (trimC x))
  have HS5 := Lib.hid (infoC_s A' c' (trimC x))
  have HO5 := Lib.hid (encC_one A' c' (trimC x))
  have HPT : Hid ((trimC x).parents = x.parents.take m) := HTK.out.symm
  go_wp2_with (first
    | (refine wpList_load_mid rfl 28 _ rfl w.heap.size 0 rfl (encC A' c' (trimC x)) _ HR5.out Tryz.underlying28 rfl HI5.out ?_)
    | (refine wpList_store_whole rfl 28 _ _ rfl (w.heap.size + 1) (encC A' c' (trimC x)).toArray rfl rfl 28 _ HZ5.out HS5.out (by rw [HZS.out, encC_s]) (all_oneCell_toArray HO5.out) ?_; intro w6 hWn hGn; have HW6 := Lib.hid hWn; have HG6 := Lib.hid hGn; clear hWn hGn))
  have HB6 := Lib.hid (be_grown HB5.out HG6.out (by have := HB5.out.size; exact this) (fun j hj => by injection hj with hj; omega))
  have HA6 : Hid (ArgN w6 A' c' (trimC x).parents) := by
    show ArgN _ _ _ _
    rw [HPT.out]
    exact HA5.out.grown HG6.out (fun j hj _ e => by injection e with e; have := HLO.out j hj; omega)
  have HL6 : Hid (∀ j, inBlk A' j → w.heap.size ≤ j) := fun j hj => by have := HLO.out j hj; omega
  refine bodyPost_ret (v := .agg (encC A' c' (trimC x)).toArray) ?_ rfl ⟨⟨A', c', rfl, HA6.out, HL6.out⟩, HB6.out⟩
  exact results_cell_row (p := 2) (ty := 28) rfl _ _ (w.heap.size + 1) 28 (encC A' c' (trimC x)).toArray (0, 0) _ rfl HW6.out Tryz.underlying28 rfl HS5.out
end Go.Proofs.YtfaijkgfhdhhbaaGreatDoor
namespace Go.Proofs.YtfaijkgfhdhhbaaGreatDoor
open Go.RowKit

theorem row_flatE {w : World} {b o : Nat} {es : List En} (h : RowE w b o es) : ∀ j u, (es.flatMap encE)[j]? = some u → w.cell? ⟨b, o + j, none⟩ = some u := by
  intro j u hu
  have hj : j < es.length * 34 := by
    rw [← flatE_len]
    exact (List.getElem?_eq_some_iff.1 hu).1
  rw [show j = j / 34 * 34 + j % 34 by omega, flatE_at es _ _ (by omega) (by omega)] at hu
  have := h (j / 34) (by omega) (j % 34) u hu
  rw [show o + j / 34 * 34 + j % 34 = o + j by omega] at this
  exact this
theorem flatE_one (es : List En) : ∀ u ∈ es.flatMap encE, u.oneCell' = true := by
  intro u hu
  obtain ⟨x, -, hx⟩ := List.mem_flatMap.1 hu
  exact encE_one x u hx
theorem own_lowE {w : World} {B : Nat} {v : Value} {es : List En} {A : Option Addr} {n c : Nat} (h : w.ownsRow B 49 34 v es.length (es.flatMap encE)) (e : v = .slice A n c) : ∀ j, inBlk A j → B ≤ j := by
  rintro j ⟨a, rfl, rfl⟩
  subst e
  rcases h.2 with ⟨h0, -⟩ | ⟨g, cap, cur, hv, hB, -⟩
  · cases h0
  · injection hv with e1 e2 e3
    injection e1 with e1
    subst e1
    exact hB
set_option maxRecDepth 100000 in
theorem wp_appendE {o : Oper} {a : Act} {w : World} {K : Act → World → Prop} {Q : Exit → Act → World → Prop} (s x : Operand) (ho : o.op = .call { callee := .builtin .append, args := #[s, x], argTypes := #[22, 22] })
    (B : Nat) (v : Value) (xs : List En) (hs : a.eval s = v) (hown : w.ownsRow B 49 34 v xs.length (xs.flatMap encE)) (A : Option Addr) (n c : Nat) (ys : List En) (hn : ys.length = n) (hx : a.eval x = .slice A n c) (hy : ArgE w A c ys)
    (hB : B ≤ w.heap.size) (hl : xs.length + ys.length ≤ 1000) (h : ∀ v' w', w'.ownsRow B 49 34 v' (xs ++ ys).length ((xs ++ ys).flatMap encE) → Below B w w' → K (a.put o.dst v') w') : o.wp Tryz.prog a w K Q := by
  subst hn
  cases hq : Tryz.prog.info? 49 with
  | none =>
    have := info34
    rw [hq] at this
    cases this
  | some i0 =>
    have hi := info34
    rw [hq] at hi
    simp only [Option.map_some, Option.some.injEq, Prod.mk.injEq] at hi
    obtain ⟨h1, h2, h3⟩ := hi
    cases A with
    | none =>
      obtain ⟨rfl, rfl⟩ := hy.nil
      have hrun := run_append_owned_none (P := Tryz.prog) (w := w) B 22 o.type 49 i0 34 Tryz.underlying22 hq v xs.length (xs.flatMap encE) hown
      unfold Oper.wp
      simp [execOp, ho, resolve, invoke, builtin, hs, hx, hrun, Result.andThen]
      exact h v w (by simpa using hown) (Below.refl _ _)
    | some ad =>
      refine wp_append_own w s x 22 ho B 49 i0 (.agg (encE zE).toArray) 34 56 Tryz.underlying22 hq h1 h2 h3 (encE_size zE) (by decide) v xs.length (xs.flatMap encE) hs hown ad ys.length c (ys.flatMap encE) hx (flatE_len ys) (fun j u hu => ?_) (flatE_one ys) (by unfold maxLen; omega) (by omega) hB (fun v' w' h4 h5 _ => ?_)
      · have hj := (List.getElem?_eq_some_iff.1 hu).1
        rw [flatE_len] at hj
        obtain ⟨b, off, e, hr⟩ := hy.2.2.2 (by omega)
        injection e with e
        subst e
        rw [Addr.add_mid]
        exact row_flatE hr j u hu
      · refine h v' w' (by rw [List.length_append, List.flatMap_append]; exact h4) ?_
        refine ⟨h5.os, h5.tape, h5.output, h5.size, fun k hk => h5.block k (by omega) ?_⟩
        intro e
        rcases hown.2 with ⟨rfl, -⟩ | ⟨g, cap, cur, rfl, hg, -⟩
        · cases e
        · simp [Value.ownBlock] at e
          omega
end Go.Proofs.YtfaijkgfhdhhbaaGreatDoor
namespace Go.Proofs.YtfaijkgfhdhhbaaGreatDoor
open Go.RowKit

def trimO (x : Ob) : Ob := ⟨x.kind, x.blob.take 1010, x.entries.take 22, trimC x.commit⟩
theorem build_O4 (k : Int) (b : ByteArray) (A : Option Addr) (n c : Nat) (cs : List Value) (h : cs.length = 35) (w : World) : (Instr.build 30 #[(0, .int .i64 k), (1, .string b), (2, .slice A n c), (3, .agg cs.toArray)]).run Tryz.prog w = .ok (.agg (.int .i64 k :: .string b :: .slice A n c :: cs).toArray) w := by
  have hpl : ((match Tryz.prog.underlying 30 with | some (.struct fs) => fs | _ => #[]).mapM (fun (f : Field) => do pure (f.offset, ← sizeOf f.type)) : Sem (Array (Nat × Nat))).run Tryz.prog w = .ok #[(0, 1), (1, 1), (2, 1), (3, 35)] w := by kernel_rfl
  simp only [Tryz.underlying30] at hpl
  unfold Instr.build
  simp only [Sem.run_bind, zeroO_run, Result.andThen_ok, run_underlying Tryz.underlying30, hpl]
  have hz : (encC none 0 noC).length = 35 := encC_len _ _ _
  generalize encC none 0 noC = zs at *
  simp [Instr.fill, Value.cells, h, hz]
  apply Array.toList_inj.1
  have h9 := fold_off cs 0 3 (Value.int .i64 k :: Value.string b :: Value.slice A n c :: zs).toArray (by simp; omega)
  rw [h9]
  simp
  omega
theorem wp_buildO4 {o : Oper} {a : Act} {w : World} {K : Act → World → Prop} {Q : Exit → Act → World → Prop} (x1 x2 x3 x4 : Operand) (ho : o.op = .build 30 #[(0, x1), (1, x2), (2, x3), (3, x4)]) (k : Int) (b : ByteArray) (A : Option Addr) (n c : Nat) (cs : List Value) (h1 : a.eval x1 = .int .i64 k) (h2 : a.eval x2 = .string b) (h3 : a.eval x3 = .slice A n c) (h4 : a.eval x4 = .agg cs.toArray) (hl : cs.length = 35)
    (h : K (a.put o.dst (.agg (.int .i64 k :: .string b :: .slice A n c :: cs).toArray)) w) : o.wp Tryz.prog a w K Q := by
  have hb := build_O4 k b A n c cs hl w
  unfold Oper.wp
  simp [execOp, ho, h1, h2, h3, h4, hb, Result.andThen]
  exact h
set_option maxRecDepth 100000 in
set_option maxHeartbeats 8000000 in
theorem lobj_any (A : Option Addr) (c : Nat) (A2 : Option Addr) (c2 : Nat) (x : Ob) (w : World) (hA : ArgO w A c A2 c2 x) : Calls Tryz.prog 6 #[.agg (encO A c A2 c2 x).toArray] w fun e w' => (∃ B d B2 d2, e = .returned (.agg (encO B d B2 d2 (trimO x)).toArray) ∧ ArgO w' B d B2 d2 (trimO x) ∧ (∀ j, inBlk B j → w.heap.size ≤ j) ∧ ∀ j, inBlk B2 j → w.heap.size ≤ j) ∧ Below w.heap.size w w' := by
  have HW0 := Lib.hid fun z => Whole.past (Whole.made w 30 (encO A c A2 c2 x).toArray) (.cells z 30)
  have HZ0 : Hid (∀ z, Whole ((w.alloc (.cells (encO A c A2 c2 x).toArray 30)).alloc (.cells z 30)) (w.heap.size + 1) 30 z) := by
    intro z
    have := Whole.made (w.alloc (.cells (encO A c A2 c2 x).toArray 30)) 30 z
    simpa using this
  have HB0 := Lib.hid fun z => ((Below.refl w.heap.size w).alloc (Nat.le_refl _) (.cells (encO A c A2 c2 x).toArray 30)).alloc (by simp) (.cells z 30)
  have HA := Lib.hid hA
  have hlc := hA.1.1
  obtain ⟨m, hm, hm1, hm22⟩ : ∃ m, m = min x.entries.length 22 ∧ m ≤ x.entries.length ∧ m ≤ 22 := ⟨_, rfl, Nat.min_le_left _ _, Nat.min_le_right _ _⟩
  have hmin : ∀ W, (Builtin.min_ #[3, 3] 3 #[.int .i64 (x.entries.length : Int), .int .i64 22]).run Tryz.prog W = .ok (.int .i64 (m : Int)) W := by
    intro W
    rw [run_min_int2]
    congr 2
    split <;> omega
  have hsl := slice_toM (P := Tryz.prog) (A := A) (c := c) 22 49 x.entries.length m Tryz.underlying22 (by kernel_rfl) (by omega)
  have HTK : Hid (x.entries.take m = x.entries.take 22) := by
    show _ = _
    rcases Nat.le_total x.entries.length 22 with h | h
    · rw [hm, Nat.min_eq_left h, List.take_length, List.take_of_length_le h]
    · rw [hm, Nat.min_eq_right h]
  have hml : (x.entries.take m).length = m := by rw [List.length_take]; omega
  have HML := Lib.hid hml
  have HTX : Hid (∀ W, Calls Tryz.prog 7 #[.string ⟨x.blob.toArray⟩, .int .i64 1010] W fun e w' => e = .returned (.string ⟨(x.blob.take 1010).toArray⟩) ∧ W = w') := fun W => text_any x.blob 1010 W
  have E0 := Lib.hid (encO_0 A c A2 c2 x)
  have E1 := Lib.hid (encO_1 A c A2 c2 x)
  have E2 := Lib.hid (encO_2 A c A2 c2 x)
  have HXI := Lib.hid (infoC_l A2 c2 x.commit)
  clear hA hm hml
  go_enter Tryz.func6, Tryz.ntmps6
  go_upto_region 1 with fail
  obtain ⟨z, hz⟩ : ∃ z : Array Value, z = (encO none 0 none 0 zO).toArray := ⟨_, rfl⟩
  rw [show (#[Value.int IntKind.i64 0, Value.string ⟨#[]⟩, Value.slice none 0 0, Value.int IntKind.u8 0, Value.int IntKind.u8 0, Value.int IntKind.u8 0, Value.int IntKind.u8 0, Value.int IntKind.u8 0, Value.int IntKind.u8 0, Value.int IntKind.u8 0, Value.int IntKind.u8 0, Value.int IntKind.u8 0, Value.int IntKind.u8 0, Value.int IntKind.u8 0, Value.int IntKind.u8 0, Value.int IntKind.u8 0, Value.int IntKind.u8 0, Value.int IntKind.u8 0, Value.int IntKind.u8 0, Value.int IntKind.u8 0, Value.int IntKind.u8 0, Value.int IntKind.u8 0, Value.int IntKind.u8 0, Value.int IntKind.u8 0, Value.int IntKind.u8 0, Value.int IntKind.u8 0, Value.int IntKind.u8 0, Value.int IntKind.u8 0, Value.int IntKind.u8 0, Value.int IntKind.u8 0, Value.int IntKind.u8 0, Value.int IntKind.u8 0, Value.int IntKind.u8 0, Value.int IntKind.u8 0, Value.int IntKind.u8 0, Value.slice none 0 0, Value.float FloatKind.f64 0, Value.string ⟨#[]⟩] : Array Value) = z from hz.symm]
  have hzs : z.size = 38 := by rw [hz]; exact encO_s _ _ _ _ _
  have HZS := Lib.hid hzs
  clear hz hzs
  have HW := Lib.hid (HW0.out z)
  have HZ := Lib.hid (HZ0.out z)
  have HB := Lib.hid (HB0.out z)
  have hs1 : ((w.alloc (.cells (encO A c A2 c2 x).toArray 30)).alloc (.cells z 30)).heap.size = w.heap.size + 2 := by simp
  clear HW0 HZ0 HB0
  generalize (w.alloc (.cells (encO A c A2 c2 x).toArray 30)).alloc (.cells z 30) = w1 at *
  have HA1 := Lib.hid (HA.out.later HB.out.drew)
  have HWd : Hid (Whole w1.drew w.heap.size 30 (encO A c A2 c2 x).toArray) := HW.out
  have HZd : Hid (Whole w1.drew (w.heap.size + 1) 30 z) := HZ.out
  have HBd := Lib.hid HB.out.drew
  have hs2 : w.heap.size + 2 ≤ w1.drew.heap.size := by show w.heap.size + 2 ≤ w1.heap.size; omega
  clear HW HZ HB HA
  refine wp_region_K (fun W => W.cell? ⟨w.heap.size, 0, none⟩ = some (.int .i64 x.kind) ∧ W.cell? ⟨w.heap.size, 1, none⟩ = some (.string ⟨x.blob.toArray⟩) ∧ W.cell? ⟨w.heap.size, 2, none⟩ = some (.slice A x.entries.length c) ∧ W.rangeAt w.heap.size 3 (encC A2 c2 x.commit)) 17 (by kernel_rfl) ?_
  change wpAnyK _ _ _ _ _ _ _ _ _ (World.drew w1)
  generalize World.drew w1 = w2 at *
  have HS : Hid (∀ W, Whole W w.heap.size 30 (encO A c A2 c2 x).toArray → W.cell? ⟨w.heap.size, 0, none⟩ = some (.int .i64 x.kind) ∧ W.cell? ⟨w.heap.size, 1, none⟩ = some (.string ⟨x.blob.toArray⟩) ∧ W.cell? ⟨w.heap.size, 2, none⟩ = some (.slice A x.entries.length c) ∧ W.rangeAt w.heap.size 3 (encC A2 c2 x.commit)) := fun W h => ⟨(h.at_ 0).trans E0.out, (h.at_ 1).trans E1.out, (h.at_ 2).trans E2.out, encO_commit A c A2 c2 x h⟩
  have hS0 := HS.out w2 HWd.out
  refine wpAnyK_take0 (i := 0) (oi := { dst := some 3, op := _, type := _, pos := _, after := _, guard := none }) (v := .pointer (some ⟨w.heap.size, 0, none⟩)) rfl (by kernel_rfl) (fun _ _ _ h => h) (Or.inl ⟨by rfl, fun W hW => ?_⟩) (fun _ => hS0) ?_
  · go_simp
  refine wpAnyK_take (i := 1) (oi := { dst := some 4, op := _, type := _, pos := _, after := _, guard := none }) (v := .int .i64 x.kind) rfl (by kernel_rfl) (fun _ _ _ h => h) (Or.inl ⟨by rfl, fun W hW => ?_⟩) hS0 ?_
  · obtain ⟨s0, s1, s2, s3⟩ := hW
    go_simp
  refine wpAnyK_take0 (i := 2) (oi := { dst := some 5, op := _, type := _, pos := _, after := _, guard := none }) (v := .pointer (some ⟨w.heap.size, 1, none⟩)) rfl (by kernel_rfl) (fun _ _ _ h => h) (Or.inl ⟨by rfl, fun W hW => ?_⟩) (fun _ => hS0) ?_
  · go_simp
  refine wpAnyK_take (i := 3) (oi := { dst := some 6, op := _, type := _, pos := _, after := _, guard := none }) (v := .string ⟨x.blob.toArray⟩) rfl (by kernel_rfl) (fun _ _ _ h => h) (Or.inl ⟨by rfl, fun W hW => ?_⟩) hS0 ?_
  · obtain ⟨s0, s1, s2, s3⟩ := hW
    go_simp
  refine wpAnyK_take0 (i := 5) (oi := { dst := some 8, op := _, type := _, pos := _, after := _, guard := none }) (v := .pointer (some ⟨w.heap.size, 2, none⟩)) rfl (by kernel_rfl) (fun _ _ _ h => h) (Or.inl ⟨by rfl, fun W hW => ?_⟩) (fun _ => hS0) ?_
  · go_simp
  refine wpAnyK_take (i := 6) (oi := { dst := some 9, op := _, type := _, pos := _, after := _, guard := none }) (v := .slice A x.entries.length c) rfl (by kernel_rfl) (fun _ _ _ h => h) (Or.inl ⟨by rfl, fun W hW => ?_⟩) hS0 ?_
  · obtain ⟨s0, s1, s2, s3⟩ := hW
    go_simp
  refine wpAnyK_take0 (i := 7) (oi := { dst := some 10, op := _, type := _, pos := _, after := _, guard := none }) (v := .pointer (some ⟨w.heap.size, 2, none⟩)) rfl (by kernel_rfl) (fun _ _ _ h => h) (Or.inl ⟨by rfl, fun W hW => ?_⟩) (fun _ => hS0) ?_
  · go_simp
  refine wpAnyK_take (i := 8) (oi := { dst := some 11, op := _, type := _, pos := _, after := _, guard := none }) (v := .slice A x.entries.length c) rfl (by kernel_rfl) (fun _ _ _ h => h) (Or.inl ⟨by rfl, fun W hW => ?_⟩) hS0 ?_
  · obtain ⟨s0, s1, s2, s3⟩ := hW
    go_simp
  refine wpAnyK_take0 (i := 9) (oi := { dst := some 12, op := _, type := _, pos := _, after := _, guard := none }) (v := .int .i64 (x.entries.length : Int)) rfl (by kernel_rfl) (fun _ _ _ h => h) (Or.inl ⟨by rfl, fun W hW => ?_⟩) (fun _ => hS0) ?_
  · go_simp
  refine wpAnyK_take0 (i := 10) (oi := { dst := some 13, op := _, type := _, pos := _, after := _, guard := none }) (v := .int .i64 (m : Int)) rfl (by kernel_rfl) (fun _ _ _ h => h) (Or.inl ⟨by rfl, fun W hW => ?_⟩) (fun _ => hS0) ?_
  · go_simp
  refine wpAnyK_take0 (i := 11) (oi := { dst := some 14, op := _, type := _, pos := _, after := _, guard := none }) (v := .slice A m c) rfl (by kernel_rfl) (fun _ _ _ h => h) (Or.inl ⟨by rfl, fun W hW => ?_⟩) (fun _ => hS0) ?_
  · go_simp
  refine wpAnyK_take0 (i := 13) (oi := { dst := some 16, op := _, type := _, pos := _, after := _, guard := none }) (v := .pointer (some ⟨w.heap.size, 3, none⟩)) rfl (by kernel_rfl) (fun _ _ _ h => h) (Or.inl ⟨by rfl, fun W hW => ?_⟩) (fun _ => hS0) ?_
  · go_simp
  simp only [Act.put]
  go_simp
  refine wpAnyK_take (i := 14) (oi := _) (v := .agg (encC A2 c2 x.commit).toArray) rfl (by kernel_rfl) (fun _ _ _ h => h) (yieldsIf_load_mid (by rfl) _ _ rfl w.heap.size 3 rfl (encC A2 c2 x.commit) _ (fun W hW => hW.2.2.2) Tryz.underlying28 rfl HXI.out) hS0 ?_
  simp only [Act.put]
  go_simp
  have HAT := Lib.hid (HA1.out.1.take m)
  refine wpAnyK_ready (rs := [4]) (by kernel_rfl) (by simp) ?_
  refine AllReadyK.cons (o := _) rfl (fun K hK => ?_) AllReadyK.nil
  rw [if_pos (by rfl)]
  go_simp
  refine (HTX.out _).mono ?_
  rintro e w' ⟨rfl, rfl⟩
  refine hK _ _ (fun _ => hS0) ?_
  clear hK K
  refine wpAnyK_ready (rs := [12]) (by kernel_rfl) (by simp) ?_
  refine AllReadyK.cons (o := _) rfl (fun K hK => ?_) AllReadyK.nil
  rw [if_pos (by rfl)]
  refine wp_appendE _ _ rfl w2.heap.size (.slice none 0 0) [] rfl (by simpa using World.ownsRow_nil _ _ _ _) A m c (x.entries.take m) HML.out rfl HAT.out (Nat.le_refl _) (by have := HML.out; simp; omega) (fun v' w3 hown' hb3 => ?_)
  rw [List.nil_append] at hown'
  have hlow := fun A' n c' => own_lowE (A := A') (n := n) (c := c') hown'
  obtain ⟨A', c', rfl, harg⟩ := own_argE hown'
  have hlow' := hlow A' _ c' rfl
  have HAR := Lib.hid harg
  have HLO : Hid (∀ j, inBlk A' j → w.heap.size + 2 ≤ j) := fun j hj => by have := hlow' j hj; omega
  have HW3 := Lib.hid (HWd.out.below hb3 (by omega))
  have HZ3 := Lib.hid (HZd.out.below hb3 (by omega))
  have HB3 := Lib.hid (HBd.out.trans (hb3.mono (by omega)))
  have HN3 := Lib.hid (HA1.out.2.later hb3)
  have hs3 : w.heap.size + 2 ≤ w3.heap.size := by have := hb3.size; omega
  have hS3 := HS.out w3 HW3.out
  rw [HML.out]
  clear hown' hlow hlow' harg hb3 hS0
  refine hK _ _ (fun _ => hS3) ?_
  clear hK K
  refine wpAnyK_ready (rs := [15]) (by kernel_rfl) (by simp) ?_
  refine AllReadyK.cons (o := _) rfl (fun K hK => ?_) AllReadyK.nil
  rw [if_pos (by rfl)]
  go_simp
  refine (lcom_any A2 c2 x.commit w3 HN3.out).mono ?_
  rintro e w4 ⟨⟨B2, d2, rfl, hn4, hlo4⟩, hb4⟩
  have HW4 := Lib.hid (HW3.out.below hb4 (by omega))
  have HZ4 := Lib.hid (HZ3.out.below hb4 (by omega))
  have HB4 := Lib.hid (HB3.out.trans (hb4.mono (by omega)))
  have HE4 := Lib.hid (HAR.out.later hb4)
  have HN4 := Lib.hid hn4
  have HLO4 : Hid (∀ j, inBlk B2 j → w.heap.size + 2 ≤ j) := fun j hj => by have := hlo4 j hj; omega
  have hs4 : w.heap.size + 2 ≤ w4.heap.size := by have := hb4.size; omega
  have hS4 := HS.out w4 HW4.out
  clear hb4 hn4 hlo4 hS3
  refine hK _ _ (fun _ => hS4) ?_
  clear hK K
  refine wpAnyK_ready (rs := [16]) (by kernel_rfl) (by simp) ?_
  refine AllReadyK.cons (o := _) rfl (fun K hK => ?_) AllReadyK.nil
  rw [if_pos (by rfl)]
  refine wp_buildO4 _ _ _ _ rfl x.kind ⟨(x.blob.take 1010).toArray⟩ A' m c' (encC B2 d2 (trimC x.commit)) rfl rfl rfl rfl (encC_len _ _ _) ?_
  refine hK _ _ (fun _ => hS4) ?_
  clear hK K
  have HQ : Hid ((Value.int .i64 x.kind :: Value.string ⟨(x.blob.take 1010).toArray⟩ :: Value.slice A' m c' :: encC B2 d2 (trimC x.commit)) = encO A' c' B2 d2 (trimO x)) := by
    show _ = _
    unfold encO trimO
    rw [← HTK.out, HML.out]
    rfl
  rw [HQ.out]
  have HEN : Hid ((trimO x).entries = x.entries.take m) := HTK.out.symm
  have hth : w4.there (w.heap.size + 1) 0 (encO A' c' B2 d2 (trimO x)).toArray.size := by
    intro j hj
    rw [encO_s] at hj
    refine ⟨?_, HZ4.out.thawed _⟩
    rw [HZ4.out.at_, Array.getElem?_eq_getElem (by have := HZS.out; omega)]
    rfl
  have hW5 := whole_setCells (encO A' c' B2 d2 (trimO x)).toArray.toList 0 w4 z HZ4.out (by have h1 := HZS.out; have h2 := encO_len A' c' B2 d2 (trimO x); simp; omega)
  rw [List.take_zero, List.nil_append] at hW5
  have hg5 := gr_setCells (g := w.heap.size + 1) (encO A' c' B2 d2 (trimO x)).toArray.toList 0 w4 w4 (gr_refl _ _)
  have hE5 := HE4.out.grown hg5 (fun j hj _ e => by injection e with e; have := HLO.out j hj; omega)
  have hN5 := HN4.out.grown hg5 (fun j hj _ e => by injection e with e; have := HLO4.out j hj; omega)
  have hB5 := be_grown HB4.out hg5 (by have := HB4.out.size; omega) (fun j hj => by injection hj with hj; omega)
  refine wpAnyK_ready (rs := [17]) (by kernel_rfl) (by simp) ?_
  refine AllReadyK.cons (o := _) rfl (fun K hK => ?_) AllReadyK.nil
  rw [if_pos (by rfl)]
  refine wp_store_mid 30 _ _ rfl (w.heap.size + 1) 0 (encO A' c' B2 d2 (trimO x)).toArray rfl rfl hth (infoO_s _ _ _ _ _) (encO_all _ _ _ _ _) ?_
  refine hK _ _ (fun h => by cases h) ?_
  clear hK K hth hg5
  generalize w4.setCells (w.heap.size + 1) 0 (encO A' c' B2 d2 (trimO x)).toArray.toList = w5 at *
  refine wpAnyK_done (by kernel_rfl) ?_ _
  simp only [Act.put]
  go_simp
  go_wp2
  refine bodyPost_ret (v := .agg (encO A' c' B2 d2 (trimO x)).toArray) ?_ rfl ⟨⟨A', c', B2, d2, rfl, ⟨by rw [HEN.out]; exact hE5, hN5⟩, fun j hj => by have := HLO.out j hj; omega, fun j hj => by have := HLO4.out j hj; omega⟩, hB5⟩
  exact results_cell_row (p := 2) (ty := 30) rfl _ _ (w.heap.size + 1) 30 (encO A' c' B2 d2 (trimO x)).toArray (0, 0) _ rfl hW5 Tryz.underlying30 rfl (infoO_s _ _ _ _ _)
end Go.Proofs.YtfaijkgfhdhhbaaGreatDoor

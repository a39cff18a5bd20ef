/-
  Law 6's Commit, walked: a commit of the draws, not too long.
-/
import Derived.Test.YtacmdpfidakkkaaGreatDoorHeldK
import Derived.Test.YtacmdpfidakkkaaGreatDoorBegS
import Derived.Test.YtacmdpfidakkkaaGreatDoorMgf
import Derived.Test.YtacmdpfidakkkaaGreatDoorMgr
namespace Go.Proofs.YtacmdpfidakkkaaGreatDoor
open Go.RowKit

def trimC (x : Cm) : Cm := ⟨x.tree, x.parents.take 6, x.time, x.note.take 110⟩
theorem own_low {w : World} {B : Nat} {v : Value} {ids : List Nm} {A : Option Addr} {n c : Nat} (h : w.ownsRow B 40 32 v ids.length (ids.flatMap encN)) (e : v = .slice A n c) : ∀ j, inBlk A j → B ≤ j := by
  rintro j ⟨a, rfl, rfl⟩
  subst e
  rcases h.2 with ⟨h0, -⟩ | ⟨g, cap, cur, hv, hB, -⟩
  · cases h0
  · injection hv with e1 e2 e3
    injection e1 with e1
    subst e1
    exact hB
theorem encC_trim (A : Option Addr) (c : Nat) (A' : Option Addr) (c' : Nat) (x : Cm) (ps : List Nm) (nt : List UInt8) : (((encC A c x).toArray.setIfInBounds 32 (.slice A' ps.length c')).setIfInBounds 34 (.string ⟨nt.toArray⟩)) = (encC A' c' ⟨x.tree, ps, x.time, nt⟩).toArray := by
  simp [encC, encN_len]
set_option maxRecDepth 100000 in
set_option maxHeartbeats 4000000 in
theorem lcom_any (A : Option Addr) (c : Nat) (x : Cm) (w : World) (hA : ArgN w A c x.parents) : Calls Tryz.prog 29 #[.agg (encC A c x).toArray] w fun e w' => (∃ A' c', e = .returned (.agg (encC A' c' (trimC x)).toArray) ∧ ArgN w' A' c' (trimC x).parents ∧ ∀ j, inBlk A' j → w.heap.size ≤ j) ∧ Below w.heap.size w w' := by
  have HW0 := Lib.hid fun z => Whole.past (Whole.made w 55 (encC A c x).toArray) (.cells z 55)
  have HZ0 : Hid (∀ z, Whole ((w.alloc (.cells (encC A c x).toArray 55)).alloc (.cells z 55)) (w.heap.size + 1) 55 z) := by
    intro z
    have := Whole.made (w.alloc (.cells (encC A c x).toArray 55)) 55 z
    simpa using this
  have HB0 := Lib.hid fun z => ((Below.refl w.heap.size w).alloc (Nat.le_refl _) (.cells (encC A c x).toArray 55)).alloc (by simp) (.cells z 55)
  have HA := Lib.hid hA
  have hlc := hA.1
  obtain ⟨m, hm, hm1, hm6⟩ : ∃ m, m = min x.parents.length 6 ∧ m ≤ x.parents.length ∧ m ≤ 6 := ⟨_, rfl, Nat.min_le_left _ _, Nat.min_le_right _ _⟩
  have hmin : ∀ W, (Builtin.min_ #[3, 3] 3 #[.int .i64 (x.parents.length : Int), .int .i64 6]).run Tryz.prog W = .ok (.int .i64 (m : Int)) W := by
    intro W
    rw [run_min_int2]
    congr 2
    split <;> omega
  have hsl := slice_toC (A := A) (c := c) x.parents.length m (by omega)
  have HTK : Hid (x.parents.take m = x.parents.take 6) := by
    show _ = _
    rcases Nat.le_total x.parents.length 6 with h | h
    · rw [hm, Nat.min_eq_left h, List.take_length, List.take_of_length_le h]
    · rw [hm, Nat.min_eq_right h]
  have hml : (x.parents.take m).length = m := by rw [List.length_take]; omega
  have HML := Lib.hid hml
  have HTX : Hid (∀ W, Calls Tryz.prog 15 #[.string ⟨x.note.toArray⟩, .int .i64 110] W fun e w' => e = .returned (.string ⟨(x.note.take 110).toArray⟩) ∧ W = w') := fun W => text_any x.note 110 W
  have E32 := Lib.hid (encC_32 A c x)
  have E34 := Lib.hid (encC_34 A c x)
  have HIC := Lib.hid (infoC_s A c x)
  have HXS := Lib.hid (encC_s A c x)
  have HOC : Hid (∀ A' c' nt, (((encC A c x).toArray.setIfInBounds 32 (.slice A' m c')).setIfInBounds 34 (.string ⟨nt⟩)) = (encC A c x).toArray → True) := fun _ _ _ _ => trivial
  clear hA hm hml HOC
  go_enter Tryz.func29, Tryz.ntmps29
  go_upto_region 1 with fail
  obtain ⟨z, hz⟩ : ∃ z : Array Value, z = (encC none 0 noC).toArray := ⟨_, rfl⟩
  rw [show (#[Value.int IntKind.u8 0, Value.int IntKind.u8 0, Value.int IntKind.u8 0, Value.int IntKind.u8 0, Value.int IntKind.u8 0, Value.int IntKind.u8 0, Value.int IntKind.u8 0, Value.int IntKind.u8 0, Value.int IntKind.u8 0, Value.int IntKind.u8 0, Value.int IntKind.u8 0, Value.int IntKind.u8 0, Value.int IntKind.u8 0, Value.int IntKind.u8 0, Value.int IntKind.u8 0, Value.int IntKind.u8 0, Value.int IntKind.u8 0, Value.int IntKind.u8 0, Value.int IntKind.u8 0, Value.int IntKind.u8 0, Value.int IntKind.u8 0, Value.int IntKind.u8 0, Value.int IntKind.u8 0, Value.int IntKind.u8 0, Value.int IntKind.u8 0, Value.int IntKind.u8 0, Value.int IntKind.u8 0, Value.int IntKind.u8 0, Value.int IntKind.u8 0, Value.int IntKind.u8 0, Value.int IntKind.u8 0, Value.int IntKind.u8 0, Value.slice none 0 0, Value.float FloatKind.f64 0, Value.string ⟨#[]⟩] : Array Value) = z from hz.symm]
  have hzs : z.size = 35 := by rw [hz]; exact encC_s _ _ _
  have HZS := Lib.hid hzs
  clear hz hzs
  have HW := Lib.hid (HW0.out z)
  have HZ := Lib.hid (HZ0.out z)
  have HB := Lib.hid (HB0.out z)
  have hs1 : ((w.alloc (.cells (encC A c x).toArray 55)).alloc (.cells z 55)).heap.size = w.heap.size + 2 := by simp
  clear HW0 HZ0 HB0
  generalize (w.alloc (.cells (encC A c x).toArray 55)).alloc (.cells z 55) = w1 at *
  have HA1 := Lib.hid (HA.out.later HB.out.drew)
  have HWd : Hid (Whole w1.drew w.heap.size 55 (encC A c x).toArray) := HW.out
  have HZd : Hid (Whole w1.drew (w.heap.size + 1) 55 z) := HZ.out
  have HBd := Lib.hid HB.out.drew
  have hs2 : w.heap.size + 2 ≤ w1.drew.heap.size := by show w.heap.size + 2 ≤ w1.heap.size; omega
  clear HW HZ HB HA
  refine wp_region_K (fun W => W.cell? ⟨w.heap.size, 32, none⟩ = some (.slice A x.parents.length c) ∧ W.cell? ⟨w.heap.size, 34, none⟩ = some (.string ⟨x.note.toArray⟩)) 12 (by kernel_rfl) ?_
  change wpAnyK _ _ _ _ _ _ _ _ _ (World.drew w1)
  generalize World.drew w1 = w2 at *
  have hS0 : w2.cell? ⟨w.heap.size, 32, none⟩ = some (.slice A x.parents.length c) ∧ w2.cell? ⟨w.heap.size, 34, none⟩ = some (.string ⟨x.note.toArray⟩) := ⟨(HWd.out.at_ 32).trans E32.out, (HWd.out.at_ 34).trans E34.out⟩
  refine wpAnyK_take (i := 0) (oi := { dst := some 3, op := _, type := _, pos := _, after := _, guard := none }) (v := .pointer (some ⟨w.heap.size, 32, none⟩)) rfl (by kernel_rfl) (fun _ _ _ h => h) (Or.inl ⟨by rfl, fun W hW => ?_⟩) hS0 ?_
  · go_simp
  refine wpAnyK_take (i := 1) (oi := { dst := some 4, op := _, type := _, pos := _, after := _, guard := none }) (v := .slice A x.parents.length c) rfl (by kernel_rfl) (fun _ _ _ h => h) (Or.inl ⟨by rfl, fun W hW => ?_⟩) hS0 ?_
  · obtain ⟨s1, s2⟩ := hW
    go_simp
  refine wpAnyK_take (i := 2) (oi := { dst := some 5, op := _, type := _, pos := _, after := _, guard := none }) (v := .pointer (some ⟨w.heap.size, 32, none⟩)) rfl (by kernel_rfl) (fun _ _ _ h => h) (Or.inl ⟨by rfl, fun W hW => ?_⟩) hS0 ?_
  · go_simp
  refine wpAnyK_take (i := 3) (oi := { dst := some 6, op := _, type := _, pos := _, after := _, guard := none }) (v := .slice A x.parents.length c) rfl (by kernel_rfl) (fun _ _ _ h => h) (Or.inl ⟨by rfl, fun W hW => ?_⟩) hS0 ?_
  · obtain ⟨s1, s2⟩ := hW
    go_simp
  refine wpAnyK_take (i := 4) (oi := { dst := some 7, op := _, type := _, pos := _, after := _, guard := none }) (v := .int .i64 (x.parents.length : Int)) rfl (by kernel_rfl) (fun _ _ _ h => h) (Or.inl ⟨by rfl, fun W hW => ?_⟩) hS0 ?_
  · go_simp
  refine wpAnyK_take (i := 5) (oi := { dst := some 8, op := _, type := _, pos := _, after := _, guard := none }) (v := .int .i64 (m : Int)) rfl (by kernel_rfl) (fun _ _ _ h => h) (Or.inl ⟨by rfl, fun W hW => ?_⟩) hS0 ?_
  · go_simp
  refine wpAnyK_take (i := 6) (oi := { dst := some 9, op := _, type := _, pos := _, after := _, guard := none }) (v := .slice A m c) rfl (by kernel_rfl) (fun _ _ _ h => h) (Or.inl ⟨by rfl, fun W hW => ?_⟩) hS0 ?_
  · go_simp
  refine wpAnyK_take (i := 8) (oi := { dst := some 11, op := _, type := _, pos := _, after := _, guard := none }) (v := .pointer (some ⟨w.heap.size, 34, none⟩)) rfl (by kernel_rfl) (fun _ _ _ h => h) (Or.inl ⟨by rfl, fun W hW => ?_⟩) hS0 ?_
  · go_simp
  refine wpAnyK_take (i := 9) (oi := { dst := some 12, op := _, type := _, pos := _, after := _, guard := none }) (v := .string ⟨x.note.toArray⟩) rfl (by kernel_rfl) (fun _ _ _ h => h) (Or.inl ⟨by rfl, fun W hW => ?_⟩) hS0 ?_
  · obtain ⟨s1, s2⟩ := hW
    go_simp
  simp only [Act.put]
  go_simp
  have HAT := Lib.hid (HA1.out.take m)
  refine wpAnyK_ready (rs := [7]) (by kernel_rfl) (by simp) ?_
  refine AllReadyK.cons (o := _) rfl (fun K hK => ?_) AllReadyK.nil
  rw [if_pos (by rfl)]
  refine wp_appendN _ _ rfl w2.heap.size (.slice none 0 0) [] rfl (by simpa using World.ownsRow_nil _ _ _ _) A m c (x.parents.take m) HML.out rfl HAT.out (Nat.le_refl _) (by have := HML.out; simp; omega) (fun v' w3 hown' hb3 => ?_)
  rw [List.nil_append] at hown'
  have hlow := fun A' n c' => own_low (A := A') (n := n) (c := c') hown'
  obtain ⟨A', c', rfl, harg⟩ := own_arg hown'
  have hlow' := hlow A' _ c' rfl
  have HAR := Lib.hid harg
  have HLO : Hid (∀ j, inBlk A' j → w.heap.size + 2 ≤ j) := fun j hj => by have := hlow' j hj; omega
  have HW3 := Lib.hid (HWd.out.below hb3 (by omega))
  have HZ3 := Lib.hid (HZd.out.below hb3 (by omega))
  have HB3 := Lib.hid (HBd.out.trans (hb3.mono (by omega)))
  have hs3 : w.heap.size + 2 ≤ w3.heap.size := by have := hb3.size; omega
  have c32 : w3.cell? ⟨w.heap.size, 32, none⟩ = some (.slice A x.parents.length c) := (HW3.out.at_ 32).trans E32.out
  have c34 : w3.cell? ⟨w.heap.size, 34, none⟩ = some (.string ⟨x.note.toArray⟩) := (HW3.out.at_ 34).trans E34.out
  have f32 := HW3.out.thawed 32
  have f34 := HW3.out.thawed 34
  rw [HML.out]
  clear hown' hlow hlow' harg hb3 hS0
  refine hK _ _ (fun _ => ⟨c32, c34⟩) ?_
  clear hK K
  have hS0 : w3.cell? ⟨w.heap.size, 32, none⟩ = some (.slice A x.parents.length c) ∧ w3.cell? ⟨w.heap.size, 34, none⟩ = some (.string ⟨x.note.toArray⟩) := ⟨c32, c34⟩
  refine wpAnyK_take0 (i := 11) (oi := { dst := some 14, op := _, type := _, pos := _, after := _, guard := none }) (v := .pointer (some ⟨w.heap.size, 32, none⟩)) rfl (by kernel_rfl) (fun _ _ _ h => h) (Or.inl ⟨by rfl, fun W hW => ?_⟩) (fun _ => hS0) ?_
  · go_simp
  simp only [Act.put]
  go_simp
  refine wpAnyK_ready (rs := [10]) (by kernel_rfl) (by simp) ?_
  refine AllReadyK.cons (o := _) rfl (fun K hK => ?_) AllReadyK.nil
  rw [if_pos (by rfl)]
  go_simp
  refine (HTX.out _).mono ?_
  rintro e w4 ⟨rfl, rfl⟩
  refine hK _ _ (fun _ => hS0) ?_
  clear hK K
  refine wpAnyK_ready (rs := [12]) (by kernel_rfl) (by simp) ?_
  refine AllReadyK.cons (o := _) rfl (fun K hK => ?_) AllReadyK.nil
  rw [if_pos (by rfl)]
  go_simp
  refine hK _ _ (fun h => by cases h) ?_
  clear hK K
  refine wpAnyK_take0 (i := 13) (oi := { dst := some 15, op := _, type := _, pos := _, after := _, guard := none }) (v := .pointer (some ⟨w.heap.size, 34, none⟩)) rfl (by kernel_rfl) (fun _ _ _ h => h) (Or.inl ⟨by rfl, fun W hW => ?_⟩) (fun h => by cases h) ?_
  · go_simp
  simp only [Act.put]
  go_simp
  refine wpAnyK_ready (rs := [14]) (by kernel_rfl) (by simp) ?_
  refine AllReadyK.cons (o := _) rfl (fun K hK => ?_) AllReadyK.nil
  rw [if_pos (by rfl)]
  go_simp
  refine hK _ _ (fun h => by cases h) ?_
  clear hK K
  refine wpAnyK_done (by kernel_rfl) ?_ _
  have hW5 := (HW3.out.put 32 (.slice A' m c')).put 34 (.string ⟨(x.note.take 110).toArray⟩)
  have het := encC_trim A c A' c' x (x.parents.take 6) (x.note.take 110)
  rw [← HTK.out, HML.out] at het
  have hTC : (⟨x.tree, x.parents.take m, x.time, x.note.take 110⟩ : Cm) = trimC x := by unfold trimC; rw [HTK.out]
  rw [het, hTC] at hW5
  have hZ5 := (HZ3.out.aside (p := ⟨w.heap.size, 32, none⟩) (by simp) (.slice A' m c')).aside (p := ⟨w.heap.size, 34, none⟩) (by simp) (.string ⟨(x.note.take 110).toArray⟩)
  have hB5 := (HB3.out.setCell (p := ⟨w.heap.size, 32, none⟩) (Nat.le_refl _) (.slice A' m c')).setCell (p := ⟨w.heap.size, 34, none⟩) (Nat.le_refl _) (.string ⟨(x.note.take 110).toArray⟩)
  have hn5 : ∀ j, inBlk A' j → 0 < (x.parents.take m).length → some j ≠ some w.heap.size := fun j hj _ e => by injection e with e; have := HLO.out j hj; omega
  have hA5 := (HAR.out.grown (gr_set (a := w3) (w := w3) (row := some w.heap.size) (gr_refl _ _) (p := ⟨w.heap.size, 32, none⟩) (.inl rfl) (.slice A' m c')) hn5).grown (gr_set (row := some w.heap.size) (gr_refl _ _) (p := ⟨w.heap.size, 34, none⟩) (.inl rfl) (.string ⟨(x.note.take 110).toArray⟩)) hn5
  generalize (w3.setCell ⟨w.heap.size, 32, none⟩ (.slice A' m c')).setCell ⟨w.heap.size, 34, none⟩ (.string ⟨(x.note.take 110).toArray⟩) = w5 at *
  have HW5 := Lib.hid hW5
  have HZ5 := Lib.hid hZ5
  have HB5 := Lib.hid hB5
  have HA5 := Lib.hid hA5
  clear hW5 hZ5 hB5 hA5 het c32 c34 f32 f34 hS0 hn5
  have HR5 := Lib.hid (whole_range HW5.out)
  have HI5 := Lib.hid (infoC_l A' c' (trimC x))
  have HS5 := Lib.hid (infoC_s A' c' (trimC x))
  have HO5 := Lib.hid (encC_one A' c' (trimC x))
  have HPT : Hid ((trimC x).parents = x.parents.take m) := HTK.out.symm
  go_wp2_with (first
    | (refine wpList_load_mid rfl 55 _ rfl w.heap.size 0 rfl (encC A' c' (trimC x)) _ HR5.out Tryz.underlying55 rfl HI5.out ?_)
    | (refine wpList_store_whole rfl 55 _ _ rfl (w.heap.size + 1) (encC A' c' (trimC x)).toArray rfl rfl 55 _ HZ5.out HS5.out (by rw [HZS.out, encC_s]) (all_oneCell_toArray HO5.out) ?_; intro w6 hWn hGn; have HW6 := Lib.hid hWn; have HG6 := Lib.hid hGn; clear hWn hGn))
  have HB6 := Lib.hid (be_grown HB5.out HG6.out (by have := HB5.out.size; exact this) (fun j hj => by injection hj with hj; omega))
  have HA6 : Hid (ArgN w6 A' c' (trimC x).parents) := by
    show ArgN _ _ _ _
    rw [HPT.out]
    exact HA5.out.grown HG6.out (fun j hj _ e => by injection e with e; have := HLO.out j hj; omega)
  have HL6 : Hid (∀ j, inBlk A' j → w.heap.size ≤ j) := fun j hj => by have := HLO.out j hj; omega
  refine bodyPost_ret (v := .agg (encC A' c' (trimC x)).toArray) ?_ rfl ⟨⟨A', c', rfl, HA6.out, HL6.out⟩, HB6.out⟩
  exact results_cell_row (p := 2) (ty := 55) rfl _ _ (w.heap.size + 1) 55 (encC A' c' (trimC x)).toArray (0, 0) _ rfl HW6.out Tryz.underlying55 rfl HS5.out
end Go.Proofs.YtacmdpfidakkkaaGreatDoor

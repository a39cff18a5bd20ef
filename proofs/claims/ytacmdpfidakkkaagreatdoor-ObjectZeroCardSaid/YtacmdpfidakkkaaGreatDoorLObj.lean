/-
  Law 6's Object, walked: an object of the draws, not too long.
-/
import Derived.Test.YtacmdpfidakkkaaGreatDoorLCom
import Derived.Test.YtacmdpfidakkkaaGreatDoorAppE
import Derived.Test.YtacmdpfidakkkaaGreatDoorObE
import Derived.Test.YtacmdpfidakkkaaGreatDoorTurN
namespace Go.Proofs.YtacmdpfidakkkaaGreatDoor
open Go.RowKit

def trimO (x : Ob) : Ob := ⟨x.kind, x.blob.take 1010, x.entries.take 22, trimC x.commit⟩
theorem build_O4 (k : Int) (b : ByteArray) (A : Option Addr) (n c : Nat) (cs : List Value) (h : cs.length = 35) (w : World) : (Instr.build 72 #[(0, .int .i64 k), (1, .string b), (2, .slice A n c), (3, .agg cs.toArray)]).run Tryz.prog w = .ok (.agg (.int .i64 k :: .string b :: .slice A n c :: cs).toArray) w := by
  have hpl : ((match Tryz.prog.underlying 72 with | some (.struct fs) => fs | _ => #[]).mapM (fun (f : Field) => do pure (f.offset, ← sizeOf f.type)) : Sem (Array (Nat × Nat))).run Tryz.prog w = .ok #[(0, 1), (1, 1), (2, 1), (3, 35)] w := by kernel_rfl
  simp only [Tryz.underlying72] at hpl
  unfold Instr.build
  simp only [Sem.run_bind, zeroO_run, Result.andThen_ok, run_underlying Tryz.underlying72, hpl]
  have hz : (encC none 0 noC).length = 35 := encC_len _ _ _
  generalize encC none 0 noC = zs at *
  simp [Instr.fill, Value.cells, h, hz]
  apply Array.toList_inj.1
  have h9 := fold_off cs 0 3 (Value.int .i64 k :: Value.string b :: Value.slice A n c :: zs).toArray (by simp; omega)
  rw [h9]
  simp
  omega
theorem wp_buildO4 {o : Oper} {a : Act} {w : World} {K : Act → World → Prop} {Q : Exit → Act → World → Prop} (x1 x2 x3 x4 : Operand) (ho : o.op = .build 72 #[(0, x1), (1, x2), (2, x3), (3, x4)]) (k : Int) (b : ByteArray) (A : Option Addr) (n c : Nat) (cs : List Value) (h1 : a.eval x1 = .int .i64 k) (h2 : a.eval x2 = .string b) (h3 : a.eval x3 = .slice A n c) (h4 : a.eval x4 = .agg cs.toArray) (hl : cs.length = 35)
    (h : K (a.put o.dst (.agg (.int .i64 k :: .string b :: .slice A n c :: cs).toArray)) w) : o.wp Tryz.prog a w K Q := by
  have hb := build_O4 k b A n c cs hl w
  unfold Oper.wp
  simp [execOp, ho, h1, h2, h3, h4, hb, Result.andThen]
  exact h
set_option maxRecDepth 100000 in
set_option maxHeartbeats 8000000 in
theorem lobj_any (A : Option Addr) (c : Nat) (A2 : Option Addr) (c2 : Nat) (x : Ob) (w : World) (hA : ArgO w A c A2 c2 x) : Calls Tryz.prog 41 #[.agg (encO A c A2 c2 x).toArray] w fun e w' => (∃ B d B2 d2, e = .returned (.agg (encO B d B2 d2 (trimO x)).toArray) ∧ ArgO w' B d B2 d2 (trimO x) ∧ (∀ j, inBlk B j → w.heap.size ≤ j) ∧ ∀ j, inBlk B2 j → w.heap.size ≤ j) ∧ Below w.heap.size w w' := by
  have HW0 := Lib.hid fun z => Whole.past (Whole.made w 72 (encO A c A2 c2 x).toArray) (.cells z 72)
  have HZ0 : Hid (∀ z, Whole ((w.alloc (.cells (encO A c A2 c2 x).toArray 72)).alloc (.cells z 72)) (w.heap.size + 1) 72 z) := by
    intro z
    have := Whole.made (w.alloc (.cells (encO A c A2 c2 x).toArray 72)) 72 z
    simpa using this
  have HB0 := Lib.hid fun z => ((Below.refl w.heap.size w).alloc (Nat.le_refl _) (.cells (encO A c A2 c2 x).toArray 72)).alloc (by simp) (.cells z 72)
  have HA := Lib.hid hA
  have hlc := hA.1.1
  obtain ⟨m, hm, hm1, hm22⟩ : ∃ m, m = min x.entries.length 22 ∧ m ≤ x.entries.length ∧ m ≤ 22 := ⟨_, rfl, Nat.min_le_left _ _, Nat.min_le_right _ _⟩
  have hmin : ∀ W, (Builtin.min_ #[3, 3] 3 #[.int .i64 (x.entries.length : Int), .int .i64 22]).run Tryz.prog W = .ok (.int .i64 (m : Int)) W := by
    intro W
    rw [run_min_int2]
    congr 2
    split <;> omega
  have hsl := slice_toM (P := Tryz.prog) (A := A) (c := c) 22 42 x.entries.length m Tryz.underlying22 (by kernel_rfl) (by omega)
  have HTK : Hid (x.entries.take m = x.entries.take 22) := by
    show _ = _
    rcases Nat.le_total x.entries.length 22 with h | h
    · rw [hm, Nat.min_eq_left h, List.take_length, List.take_of_length_le h]
    · rw [hm, Nat.min_eq_right h]
  have hml : (x.entries.take m).length = m := by rw [List.length_take]; omega
  have HML := Lib.hid hml
  have HTX : Hid (∀ W, Calls Tryz.prog 15 #[.string ⟨x.blob.toArray⟩, .int .i64 1010] W fun e w' => e = .returned (.string ⟨(x.blob.take 1010).toArray⟩) ∧ W = w') := fun W => text_any x.blob 1010 W
  have E0 := Lib.hid (encO_0 A c A2 c2 x)
  have E1 := Lib.hid (encO_1 A c A2 c2 x)
  have E2 := Lib.hid (encO_2 A c A2 c2 x)
  have HXI := Lib.hid (infoC_l A2 c2 x.commit)
  clear hA hm hml
  go_enter Tryz.func41, Tryz.ntmps41
  go_upto_region 1 with fail
  obtain ⟨z, hz⟩ : ∃ z : Array Value, z = (encO none 0 none 0 zO).toArray := ⟨_, rfl⟩
  rw [show (#[Value.int IntKind.i64 0, Value.string ⟨#[]⟩, Value.slice none 0 0, Value.int IntKind.u8 0, Value.int IntKind.u8 0, Value.int IntKind.u8 0, Value.int IntKind.u8 0, Value.int IntKind.u8 0, Value.int IntKind.u8 0, Value.int IntKind.u8 0, Value.int IntKind.u8 0, Value.int IntKind.u8 0, Value.int IntKind.u8 0, Value.int IntKind.u8 0, Value.int IntKind.u8 0, Value.int IntKind.u8 0, Value.int IntKind.u8 0, Value.int IntKind.u8 0, Value.int IntKind.u8 0, Value.int IntKind.u8 0, Value.int IntKind.u8 0, Value.int IntKind.u8 0, Value.int IntKind.u8 0, Value.int IntKind.u8 0, Value.int IntKind.u8 0, Value.int IntKind.u8 0, Value.int IntKind.u8 0, Value.int IntKind.u8 0, Value.int IntKind.u8 0, Value.int IntKind.u8 0, Value.int IntKind.u8 0, Value.int IntKind.u8 0, Value.int IntKind.u8 0, Value.int IntKind.u8 0, Value.int IntKind.u8 0, Value.slice none 0 0, Value.float FloatKind.f64 0, Value.string ⟨#[]⟩] : Array Value) = z from hz.symm]
  have hzs : z.size = 38 := by rw [hz]; exact encO_s _ _ _ _ _
  have HZS := Lib.hid hzs
  clear hz hzs
  have HW := Lib.hid (HW0.out z)
  have HZ := Lib.hid (HZ0.out z)
  have HB := Lib.hid (HB0.out z)
  have hs1 : ((w.alloc (.cells (encO A c A2 c2 x).toArray 72)).alloc (.cells z 72)).heap.size = w.heap.size + 2 := by simp
  clear HW0 HZ0 HB0
  generalize (w.alloc (.cells (encO A c A2 c2 x).toArray 72)).alloc (.cells z 72) = w1 at *
  have HA1 := Lib.hid (HA.out.later HB.out.drew)
  have HWd : Hid (Whole w1.drew w.heap.size 72 (encO A c A2 c2 x).toArray) := HW.out
  have HZd : Hid (Whole w1.drew (w.heap.size + 1) 72 z) := HZ.out
  have HBd := Lib.hid HB.out.drew
  have hs2 : w.heap.size + 2 ≤ w1.drew.heap.size := by show w.heap.size + 2 ≤ w1.heap.size; omega
  clear HW HZ HB HA
  refine wp_region_K (fun W => W.cell? ⟨w.heap.size, 0, none⟩ = some (.int .i64 x.kind) ∧ W.cell? ⟨w.heap.size, 1, none⟩ = some (.string ⟨x.blob.toArray⟩) ∧ W.cell? ⟨w.heap.size, 2, none⟩ = some (.slice A x.entries.length c) ∧ W.rangeAt w.heap.size 3 (encC A2 c2 x.commit)) 17 (by kernel_rfl) ?_
  change wpAnyK _ _ _ _ _ _ _ _ _ (World.drew w1)
  generalize World.drew w1 = w2 at *
  have HS : Hid (∀ W, Whole W w.heap.size 72 (encO A c A2 c2 x).toArray → W.cell? ⟨w.heap.size, 0, none⟩ = some (.int .i64 x.kind) ∧ W.cell? ⟨w.heap.size, 1, none⟩ = some (.string ⟨x.blob.toArray⟩) ∧ W.cell? ⟨w.heap.size, 2, none⟩ = some (.slice A x.entries.length c) ∧ W.rangeAt w.heap.size 3 (encC A2 c2 x.commit)) := fun W h => ⟨(h.at_ 0).trans E0.out, (h.at_ 1).trans E1.out, (h.at_ 2).trans E2.out, encO_commit A c A2 c2 x h⟩
  have hS0 := HS.out w2 HWd.out
  refine wpAnyK_take0 (i := 0) (oi := { dst := some 3, op := _, type := _, pos := _, after := _, guard := none }) (v := .pointer (some ⟨w.heap.size, 0, none⟩)) rfl (by kernel_rfl) (fun _ _ _ h => h) (Or.inl ⟨by rfl, fun W hW => ?_⟩) (fun _ => hS0) ?_
  · go_simp
  refine wpAnyK_take (i := 1) (oi := { dst := some 4, op := _, type := _, pos := _, after := _, guard := none }) (v := .int .i64 x.kind) rfl (by kernel_rfl) (fun _ _ _ h => h) (Or.inl ⟨by rfl, fun W hW => ?_⟩) hS0 ?_
  · obtain ⟨s0, s1, s2, s3⟩ := hW
    go_simp
  refine wpAnyK_take0 (i := 2) (oi := { dst := some 5, op := _, type := _, pos := _, after := _, guard := none }) (v := .pointer (some ⟨w.heap.size, 1, none⟩)) rfl (by kernel_rfl) (fun _ _ _ h => h) (Or.inl ⟨by rfl, fun W hW => ?_⟩) (fun _ => hS0) ?_
  · go_simp
  refine wpAnyK_take (i := 3) (oi := { dst := some 6, op := _, type := _, pos := _, after := _, guard := none }) (v := .string ⟨x.blob.toArray⟩) rfl (by kernel_rfl) (fun _ _ _ h => h) (Or.inl ⟨by rfl, fun W hW => ?_⟩) hS0 ?_
  · obtain ⟨s0, s1, s2, s3⟩ := hW
    go_simp
  refine wpAnyK_take0 (i := 5) (oi := { dst := some 8, op := _, type := _, pos := _, after := _, guard := none }) (v := .pointer (some ⟨w.heap.size, 2, none⟩)) rfl (by kernel_rfl) (fun _ _ _ h => h) (Or.inl ⟨by rfl, fun W hW => ?_⟩) (fun _ => hS0) ?_
  · go_simp
  refine wpAnyK_take (i := 6) (oi := { dst := some 9, op := _, type := _, pos := _, after := _, guard := none }) (v := .slice A x.entries.length c) rfl (by kernel_rfl) (fun _ _ _ h => h) (Or.inl ⟨by rfl, fun W hW => ?_⟩) hS0 ?_
  · obtain ⟨s0, s1, s2, s3⟩ := hW
    go_simp
  refine wpAnyK_take0 (i := 7) (oi := { dst := some 10, op := _, type := _, pos := _, after := _, guard := none }) (v := .pointer (some ⟨w.heap.size, 2, none⟩)) rfl (by kernel_rfl) (fun _ _ _ h => h) (Or.inl ⟨by rfl, fun W hW => ?_⟩) (fun _ => hS0) ?_
  · go_simp
  refine wpAnyK_take (i := 8) (oi := { dst := some 11, op := _, type := _, pos := _, after := _, guard := none }) (v := .slice A x.entries.length c) rfl (by kernel_rfl) (fun _ _ _ h => h) (Or.inl ⟨by rfl, fun W hW => ?_⟩) hS0 ?_
  · obtain ⟨s0, s1, s2, s3⟩ := hW
    go_simp
  refine wpAnyK_take0 (i := 9) (oi := { dst := some 12, op := _, type := _, pos := _, after := _, guard := none }) (v := .int .i64 (x.entries.length : Int)) rfl (by kernel_rfl) (fun _ _ _ h => h) (Or.inl ⟨by rfl, fun W hW => ?_⟩) (fun _ => hS0) ?_
  · go_simp
  refine wpAnyK_take0 (i := 10) (oi := { dst := some 13, op := _, type := _, pos := _, after := _, guard := none }) (v := .int .i64 (m : Int)) rfl (by kernel_rfl) (fun _ _ _ h => h) (Or.inl ⟨by rfl, fun W hW => ?_⟩) (fun _ => hS0) ?_
  · go_simp
  refine wpAnyK_take0 (i := 11) (oi := { dst := some 14, op := _, type := _, pos := _, after := _, guard := none }) (v := .slice A m c) rfl (by kernel_rfl) (fun _ _ _ h => h) (Or.inl ⟨by rfl, fun W hW => ?_⟩) (fun _ => hS0) ?_
  · go_simp
  refine wpAnyK_take0 (i := 13) (oi := { dst := some 16, op := _, type := _, pos := _, after := _, guard := none }) (v := .pointer (some ⟨w.heap.size, 3, none⟩)) rfl (by kernel_rfl) (fun _ _ _ h => h) (Or.inl ⟨by rfl, fun W hW => ?_⟩) (fun _ => hS0) ?_
  · go_simp
  simp only [Act.put]
  go_simp
  refine wpAnyK_take (i := 14) (oi := _) (v := .agg (encC A2 c2 x.commit).toArray) rfl (by kernel_rfl) (fun _ _ _ h => h) (yieldsIf_load_mid (by rfl) _ _ rfl w.heap.size 3 rfl (encC A2 c2 x.commit) _ (fun W hW => hW.2.2.2) Tryz.underlying55 rfl HXI.out) hS0 ?_
  simp only [Act.put]
  go_simp
  have HAT := Lib.hid (HA1.out.1.take m)
  refine wpAnyK_ready (rs := [4]) (by kernel_rfl) (by simp) ?_
  refine AllReadyK.cons (o := _) rfl (fun K hK => ?_) AllReadyK.nil
  rw [if_pos (by rfl)]
  go_simp
  refine (HTX.out _).mono ?_
  rintro e w' ⟨rfl, rfl⟩
  refine hK _ _ (fun _ => hS0) ?_
  clear hK K
  refine wpAnyK_ready (rs := [12]) (by kernel_rfl) (by simp) ?_
  refine AllReadyK.cons (o := _) rfl (fun K hK => ?_) AllReadyK.nil
  rw [if_pos (by rfl)]
  refine wp_appendE _ _ rfl w2.heap.size (.slice none 0 0) [] rfl (by simpa using World.ownsRow_nil _ _ _ _) A m c (x.entries.take m) HML.out rfl HAT.out (Nat.le_refl _) (by have := HML.out; simp; omega) (fun v' w3 hown' hb3 => ?_)
  rw [List.nil_append] at hown'
  have hlow := fun A' n c' => own_lowE (A := A') (n := n) (c := c') hown'
  obtain ⟨A', c', rfl, harg⟩ := own_argE hown'
  have hlow' := hlow A' _ c' rfl
  have HAR := Lib.hid harg
  have HLO : Hid (∀ j, inBlk A' j → w.heap.size + 2 ≤ j) := fun j hj => by have := hlow' j hj; omega
  have HW3 := Lib.hid (HWd.out.below hb3 (by omega))
  have HZ3 := Lib.hid (HZd.out.below hb3 (by omega))
  have HB3 := Lib.hid (HBd.out.trans (hb3.mono (by omega)))
  have HN3 := Lib.hid (HA1.out.2.later hb3)
  have hs3 : w.heap.size + 2 ≤ w3.heap.size := by have := hb3.size; omega
  have hS3 := HS.out w3 HW3.out
  rw [HML.out]
  clear hown' hlow hlow' harg hb3 hS0
  refine hK _ _ (fun _ => hS3) ?_
  clear hK K
  refine wpAnyK_ready (rs := [15]) (by kernel_rfl) (by simp) ?_
  refine AllReadyK.cons (o := _) rfl (fun K hK => ?_) AllReadyK.nil
  rw [if_pos (by rfl)]
  go_simp
  refine (lcom_any A2 c2 x.commit w3 HN3.out).mono ?_
  rintro e w4 ⟨⟨B2, d2, rfl, hn4, hlo4⟩, hb4⟩
  have HW4 := Lib.hid (HW3.out.below hb4 (by omega))
  have HZ4 := Lib.hid (HZ3.out.below hb4 (by omega))
  have HB4 := Lib.hid (HB3.out.trans (hb4.mono (by omega)))
  have HE4 := Lib.hid (HAR.out.later hb4)
  have HN4 := Lib.hid hn4
  have HLO4 : Hid (∀ j, inBlk B2 j → w.heap.size + 2 ≤ j) := fun j hj => by have := hlo4 j hj; omega
  have hs4 : w.heap.size + 2 ≤ w4.heap.size := by have := hb4.size; omega
  have hS4 := HS.out w4 HW4.out
  clear hb4 hn4 hlo4 hS3
  refine hK _ _ (fun _ => hS4) ?_
  clear hK K
  refine wpAnyK_ready (rs := [16]) (by kernel_rfl) (by simp) ?_
  refine AllReadyK.cons (o := _) rfl (fun K hK => ?_) AllReadyK.nil
  rw [if_pos (by rfl)]
  refine wp_buildO4 _ _ _ _ rfl x.kind ⟨(x.blob.take 1010).toArray⟩ A' m c' (encC B2 d2 (trimC x.commit)) rfl rfl rfl rfl (encC_len _ _ _) ?_
  refine hK _ _ (fun _ => hS4) ?_
  clear hK K
  have HQ : Hid ((Value.int .i64 x.kind :: Value.string ⟨(x.blob.take 1010).toArray⟩ :: Value.slice A' m c' :: encC B2 d2 (trimC x.commit)) = encO A' c' B2 d2 (trimO x)) := by
    show _ = _
    unfold encO trimO
    rw [← HTK.out, HML.out]
    rfl
  rw [HQ.out]
  have HEN : Hid ((trimO x).entries = x.entries.take m) := HTK.out.symm
  have hth : w4.there (w.heap.size + 1) 0 (encO A' c' B2 d2 (trimO x)).toArray.size := by
    intro j hj
    rw [encO_s] at hj
    refine ⟨?_, HZ4.out.thawed _⟩
    rw [HZ4.out.at_, Array.getElem?_eq_getElem (by have := HZS.out; omega)]
    rfl
  have hW5 := whole_setCells (encO A' c' B2 d2 (trimO x)).toArray.toList 0 w4 z HZ4.out (by have h1 := HZS.out; have h2 := encO_len A' c' B2 d2 (trimO x); simp; omega)
  rw [List.take_zero, List.nil_append] at hW5
  have hg5 := gr_setCells (g := w.heap.size + 1) (encO A' c' B2 d2 (trimO x)).toArray.toList 0 w4 w4 (gr_refl _ _)
  have hE5 := HE4.out.grown hg5 (fun j hj _ e => by injection e with e; have := HLO.out j hj; omega)
  have hN5 := HN4.out.grown hg5 (fun j hj _ e => by injection e with e; have := HLO4.out j hj; omega)
  have hB5 := be_grown HB4.out hg5 (by have := HB4.out.size; omega) (fun j hj => by injection hj with hj; omega)
  refine wpAnyK_ready (rs := [17]) (by kernel_rfl) (by simp) ?_
  refine AllReadyK.cons (o := _) rfl (fun K hK => ?_) AllReadyK.nil
  rw [if_pos (by rfl)]
  refine wp_store_mid 72 _ _ rfl (w.heap.size + 1) 0 (encO A' c' B2 d2 (trimO x)).toArray rfl rfl hth (infoO_s _ _ _ _ _) (encO_all _ _ _ _ _) ?_
  refine hK _ _ (fun h => by cases h) ?_
  clear hK K hth hg5
  generalize w4.setCells (w.heap.size + 1) 0 (encO A' c' B2 d2 (trimO x)).toArray.toList = w5 at *
  refine wpAnyK_done (by kernel_rfl) ?_ _
  simp only [Act.put]
  go_simp
  go_wp2
  refine bodyPost_ret (v := .agg (encO A' c' B2 d2 (trimO x)).toArray) ?_ rfl ⟨⟨A', c', B2, d2, rfl, ⟨by rw [HEN.out]; exact hE5, hN5⟩, fun j hj => by have := HLO.out j hj; omega, fun j hj => by have := HLO4.out j hj; omega⟩, hB5⟩
  exact results_cell_row (p := 2) (ty := 72) rfl _ _ (w.heap.size + 1) 72 (encO A' c' B2 d2 (trimO x)).toArray (0, 0) _ rfl hW5 Tryz.underlying72 rfl (infoO_s _ _ _ _ _)
end Go.Proofs.YtacmdpfidakkkaaGreatDoor

/-
  TreeFull: the plain part; an entry of its parts.
-/
import Derived.Test.YtacmdpfidakkkaaGreatDoorLNam
import Derived.Test.YtacmdpfidakkkaaGreatDoorMgx
import Derived.Test.YtacmdpfidakkkaaGreatDoorMgp
import Derived.Test.YtacmdpfidakkkaaGreatDoorMgs
namespace Go.Proofs.YtacmdpfidakkkaaGreatDoor
open Go.RowKit

def ent (id : Nm) (i : Nat) : En := ⟨nm2 i, i % 2 == 0, id⟩
def full (id : Nm) (n : Nat) : List En := (List.range n).map (ent id)
theorem full_len (id : Nm) (n : Nat) : (full id n).length = n := by simp [full]
theorem full_succ (id : Nm) (n : Nat) : full id (n + 1) = full id n ++ [ent id n] := by simp [full, List.range_succ]
theorem full_at (id : Nm) (n i : Nat) (h : i < n) : (full id n).getD i default = ent id i := by simp [full, List.getD, h]
theorem nm2_ok : ∀ j, j < 25 → (okName (nm2 j) && (decide (j = 0) || Op.bytesLess (nm2 (j - 1)) (nm2 j))) = true := by decide +kernel
theorem nm2_inj : ∀ i, i < 25 → ∀ j, j < 25 → nm2 i = nm2 j → i = j := by decide +kernel
theorem full_may (id : Nm) (n : Nat) (hn : n < 25) : mayT (full id n) = decide (n ≤ 20) := by
  unfold mayT
  rw [full_len]
  have : risesTo (full id n) n = true := by
    unfold risesTo
    rw [List.all_eq_true]
    intro j hj
    have hj := List.mem_range.1 hj
    unfold okAt
    rw [full_at id n j hj, full_at id n (j - 1) (by omega)]
    exact nm2_ok j (by omega)
  rw [this, Bool.and_true]
theorem full_bytes (id : Nm) (n : Nat) : (encT (full id n)).length = n * 37 := by
  induction n with
  | zero => rfl
  | succ n ih =>
    rw [full_succ, encT_snoc, List.length_append, ih, bytesE_len]
    show _ + (2 + 35) = _
    omega
theorem full_find (id : Nm) (n i : Nat) (hi : i < n) (hn : n < 25) : findE (full id n) (nm2 i) = some (ent id i) := by
  unfold findE
  rw [List.find?_eq_some_iff_getElem]
  refine ⟨by simp [ent], i, by rw [full_len]; exact hi, by simp [full], fun j hj => ?_⟩
  have hne : nm2 j ≠ nm2 i := fun e => by have := nm2_inj j (by omega) i (by omega) e; omega
  simp [full, ent, hne]
theorem build_ent (nm : ByteArray) (d : Bool) (cs : List Value) (h : cs.length = 32) (w : World) : (Instr.build 42 #[(0, .string nm), (1, .bool d), (2, .agg cs.toArray)]).run Tryz.prog w = .ok (.agg (.string nm :: .bool d :: cs).toArray) w := by
  have hpl : ((match Tryz.prog.underlying 42 with | some (.struct fs) => fs | _ => #[]).mapM (fun (f : Field) => do pure (f.offset, ← sizeOf f.type)) : Sem (Array (Nat × Nat))).run Tryz.prog w = .ok #[(0, 1), (1, 1), (2, 32)] w := by kernel_rfl
  simp only [Tryz.underlying42] at hpl
  have hz0 : (zeroValue 42).run Tryz.prog w = .ok (.agg (.string ⟨#[]⟩ :: .bool false :: encN zE.id).toArray) w := by kernel_rfl
  unfold Instr.build
  simp only [Sem.run_bind, hz0, Result.andThen_ok, run_underlying Tryz.underlying42, hpl]
  have hz : (encN zE.id).length = 32 := encN_len _
  generalize encN zE.id = zs at *
  simp [Instr.fill, Value.cells, h, hz]
  apply Array.toList_inj.1
  have h9 := fold_off cs 0 2 (Value.string nm :: Value.bool d :: zs).toArray (by simp; omega)
  rw [h9]
  simp
  omega
theorem q_build {P : Program} {ops : Array Oper} {C : World → Prop} {Q : Act → Prop} {a : Act} {o : Oper} {rest : List Oper} (ty : TypeId) (parts : Array (Nat × Operand)) (ho : o.op = .build ty parts) (hw : Region.wanted o (yielded ops a.tmps) = true) (v : Value)
    (vals : Array (Nat × Value)) (hp : parts.toList.map (fun x => (x.1, a.eval x.2)) = vals.toList) (hrun : ∀ w, (Instr.build ty vals).run P w = .ok v w) (hk : wpQuiet P ops C Q rest (a.put o.dst v)) : wpQuiet P ops C Q (o :: rest) a := by
  refine BigFrame.wpQuiet_want hw fun K hK => ⟨v, fun w hc => ?_, hK _ hk⟩
  have h : (execOp a.eval o).run P w = .ok (.value v) w := by
    have e : (parts.map fun x => (x.1, a.eval x.2)) = vals := by
      apply Array.toList_inj.1
      rw [Array.toList_map]
      exact hp
    unfold execOp
    simp [ho, e, hrun w, Result.andThen]
  unfold Oper.quietAt
  rw [h]
  exact ⟨rfl, by simp⟩
theorem tf_len (n0 : Int) : ∃ m : Nat, m ≤ 24 ∧ (wrap64 (n0.tmod 25 + 25)).tmod 25 = (m : Int) := by
  have h1 := Int.tmod_lt_of_pos n0 (show (0 : Int) < 25 by decide)
  have h2 := Int.lt_tmod_of_pos n0 (show (0 : Int) < 25 by decide)
  generalize n0.tmod 25 = x at *
  have e : wrap64 (x + 25) = x + 25 := by unfold wrap64; omega
  rw [e]
  have e2 : (x + 25).tmod 25 = (x + 25) % 25 := Int.tmod_eq_emod_of_nonneg (by omega)
  rw [e2]
  exact ⟨((x + 25) % 25).toNat, by omega, by omega⟩
end Go.Proofs.YtacmdpfidakkkaaGreatDoor

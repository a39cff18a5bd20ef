/-
  DiskFuse returns true.
  For every input, in every world that a row of this seat speaks of: the listed tables hold what the program's text lays there, the library's MaxLen holds some int.
-/
import Derived.Test.YtjoinnjhpfakpaaGreatDoorDoorE
import Derived.Test.YtjoinnjhpfakpaaGreatDoorFacE
import Derived.Test.YtjoinnjhpfakpaaGreatDoorWDFus
namespace Go.Proofs.YtjoinnjhpfakpaaGreatDoor.diskFuse
open Go.RowKit Go.ChangeShapes Go.WideShapes Go.ChangeAt

set_option maxRecDepth 100000 in
theorem contract (H : Type) (enc : TypeId × Value → H) (W : World) (base : Nat) (args : Array Value) (ds gs : List (DataW H)) (before : List MemPlace)
    (hval0 : ∀ (j : Nat) t v, Tryz.f4.params[j]? = some t → args[j]? = some v → Value.okWide Tryz.prog W .any base t v)
    (hW : DataW.Whole enc Tryz.prog Tryz.f4.params.toList Rows.diskFuseSpec.vars false W args.toList ds gs before) (hL : laidMetH Tryz.prog Rows.diskFuseRow.laid W) (hS : W.ShapedOpen Tryz.prog) :
    Calls Tryz.prog 4 args W fun e W' => ∃ v, e = .returned v ∧ Rows.diskFuseSpec.post enc Tryz.prog Tryz.f4 false true false false W args v W' := by
  have hE : Eng.GE W := Door.ge_ofH7 hL hS
  have hW' := hW
  have hval := hval0
  obtain ⟨p, q, hA0, hV, rfl, hfz, hnd⟩ := hW
  have hA : DataW.TrodAll enc Tryz.prog W 0 (fun _ => true) true Tryz.f4.params.toList args.toList ds p := hA0
  rw [Tryz.params4] at hA hval
  obtain ⟨v0, vs0, d0, ds0, p0, q0, hargs, rfl, rfl, h0, r0⟩ := trodAll_cons hA
  obtain ⟨v1, vs1, d1, ds1, p1, q1, rfl, rfl, rfl, h1, r1⟩ := trodAll_cons r0
  obtain ⟨v2, vs2, d2, ds2, p2, q2, rfl, rfl, rfl, h2, r2⟩ := trodAll_cons r1
  obtain ⟨rfl, rfl, rfl⟩ := trodAll_nil r2
  obtain rfl : args = #[v0, v1, v2] := by cases args; simp_all
  clear hA0 hval0
  obtain ⟨n, rfl, rfl, rfl, wn⟩ := open_int Tryz.underlying3 (hval 0 3 v0 rfl rfl) h0
  obtain ⟨m, rfl, rfl, rfl, wm⟩ := open_int Tryz.underlying3 (hval 1 3 v1 rfl rfl) h1
  obtain ⟨zx, rfl, rfl, rfl, wx⟩ := open_int Tryz.underlying28 (hval 2 28 v2 rfl rfl) h2
  obtain ⟨x, rfl, bx⟩ := Door.wf_u64 wx
  refine (wdfus_any n m x W hE bx).mono fun e W' ⟨he, hb⟩ => ?_
  subst he
  exact ⟨_, rfl, Door.law_post Door.laidOut rfl (by kernel_rfl) rfl Tryz.underlying4 hW' (by rintro _ rfl; rfl) hb⟩

theorem reads (os : Os) {H : Type} (enc : TypeId × Value → H) : ∃ d places, DataW.whole enc Tryz.prog ((Door.laidWorld7 os).forCall (fun _ _ => 0) ⟨#[], #[.int .i64 0, .int .i64 0, .int .u64 0], []⟩).memory Tryz.f4.params.toList Rows.diskFuseSpec.vars false #[.int .i64 0, .int .i64 0, .int .u64 0].toList 8 = some (d, [], places) :=
  Door.reads_of (by kernel_rfl)

set_option maxRecDepth 100000 in
theorem lifted (os : Os) (started : os.Started) (H : Type) (enc : TypeId × Value → H) (F : Stop.Interp) :
    ReturnsInHanded {} Tryz.checked os 4 .any ((OpenSpec.ofChange Rows.diskFuseSpec).preRow enc Tryz.prog Tryz.f4 Rows.diskFuseRow.domain false Rows.diskFuseRow.laid) (((OpenSpec.ofChange Rows.diskFuseSpec).at F).post enc Tryz.prog Tryz.f4 false true false false) := by
  obtain ⟨d, places, hx⟩ := reads os enc
  refine returnsInHanded_of_row (C := Tryz.checked) (s := OpenSpec.ofChange Rows.diskFuseSpec) Door.own started (by kernel_rfl) Tryz.func4
    (witness_row_at (enc := enc) (C := Tryz.checked) false (Door.laidWorld7 os) #[.int .i64 0, .int .i64 0, .int .u64 0] rfl (Door.vars07 os _) (Door.rest07 os _) (by kernel_rfl)
      (OpenSpec.preRow_of_cond 8 hx (by kernel_rfl) (fun k hk => by cases hk) (by kernel_rfl) (Door.laid_met7 os _))) ?_
  intro W base args ds gs before hval hW _ _ _ hL hS _
  exact contract H enc W base args ds gs before hval hW hL hS

theorem fPlace : (Rows.diskFuseRow.inPlace == Tryz.prog.inPlace 4) = true := by kernel_rfl
theorem fUnf : (Rows.diskFuseRow.unfollowed == Tryz.prog.unfollowed 4) = true := by kernel_rfl
theorem fRec : (Rows.diskFuseRow.recurses == Tryz.prog.recurses 4) = true := by kernel_rfl
theorem fNam : (Rows.diskFuseRow.named == Tryz.prog.varsNamed 4) = true := by kernel_rfl
theorem fGoes : false = Rows.diskFuseRow.goesBy Tryz.prog := by kernel_rfl
theorem closed : joinedFacts Tryz.prog 4 Tryz.f4 (OpenSpec.ofChange Rows.diskFuseSpec).bare Rows.diskFuseRow = true := by
  unfold joinedFacts
  exact (and2 (and2 (and2 (and2 (and2 (and2 (and2 (and2 (and2 (and2 (and2 (and2 (and2 (and2 (and2 (and2 (and2 (and2 (and2 (and2 (and2 (and2 (and2 (and2 (and2 (and2 (and2 (and2 (and2 (and2 (and2 (by kernel_rfl) fLaid) fMaps) (by kernel_rfl)) (by kernel_rfl)) (by kernel_rfl)) (by kernel_rfl)) (by kernel_rfl)) (by kernel_rfl)) fPlace) fUnf) fRec) fNam) (by kernel_rfl)) (by kernel_rfl)) (by kernel_rfl)) (by kernel_rfl)) (by kernel_rfl)) (by kernel_rfl)) (by kernel_rfl)) (by kernel_rfl)) (by kernel_rfl)) (by kernel_rfl)) (by kernel_rfl)) fHeard) fEnter) (by show (Rows.diskFuseRow.lifted == Tryz.prog.liftsFinal) = true; rw [fLift]; kernel_rfl)) (by show (Tryz.prog.make == some Rows.diskFuseRow.make) = true; rw [fMake]; kernel_rfl)) (by kernel_rfl)) (by kernel_rfl)) (by kernel_rfl)) (by kernel_rfl))

theorem said : Rows.DiskFuseSaid :=
  OpenClaim.holds_of_cond 4 Tryz.f4 rfl rfl rfl rfl rfl rfl rfl ⟨rfl, rfl, rfl, rfl, rfl⟩ rfl rfl rfl rfl rfl (by kernel_rfl) Tryz.func4 closed
    (of_decide_eq_true (by kernel_rfl)) (by unfold Func.isWrapper; first | (rw [if_pos (by decide +kernel)]; kernel_rfl) | (rw [if_neg (by decide +kernel)]; exact ⟨rfl, rfl⟩))
    (fun os started H enc _ F => by rw [OpenClaim.pre_eq_preRow]; exact lifted os started H enc F)

theorem plain (f : FuncId) (fn : Func) (hf : Tryz.pinned.checked.prog.funcNamed "colporteur/colporteurlaw13.DiskFuse" = some f) (hfn : Tryz.pinned.checked.prog.funcs[f]? = some fn) :
    true = Tryz.pinned.checked.prog.looks [] ∧ ∀ (j : Nat) t, fn.params[j]? = some t → Tryz.pinned.checked.prog.wantsStandIn t = false := by
  obtain rfl : f = 4 := Option.some.inj ((show Tryz.prog.funcNamed "colporteur/colporteurlaw13.DiskFuse" = some 4 by kernel_rfl).symm.trans hf) |>.symm
  obtain rfl : fn = Tryz.f4 := (Option.some.inj (Tryz.func4.symm.trans hfn)).symm
  refine ⟨Door.looks0, fun j t ht => ?_⟩
  rw [Tryz.params4] at ht
  have hm : t ∈ [3, 3, 28] := by simpa using Array.mem_of_getElem? ht
  have hall : ([3, 3, 28].all fun t => !Tryz.prog.wantsStandIn t) = true := by kernel_rfl
  have h1 : (!Tryz.prog.wantsStandIn t) = true := List.all_eq_true.1 hall t hm
  have h2 : Tryz.prog.wantsStandIn t = false := by simpa using h1
  exact h2

theorem card : Rows.DiskFuseCardSaid :=
  Claim7.holds_tied_plain_at .later [] _ _ _ _ said (fun _ h => by cases h) (by kernel_rfl) (fun _ h => by cases h) diskFuse_row_tie rfl ⟨rfl, rfl⟩ fMain rfl plain fGoes
end Go.Proofs.YtjoinnjhpfakpaaGreatDoor.diskFuse

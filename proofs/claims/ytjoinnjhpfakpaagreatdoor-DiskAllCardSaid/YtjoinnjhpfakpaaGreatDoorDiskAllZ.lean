/-
  DiskAll returns true.
  For every input, in every world that a row of this seat speaks of: the listed tables hold what the program's text lays there, the library's MaxLen holds some int.
-/
import Derived.Test.YtjoinnjhpfakpaaGreatDoorDoorE
import Derived.Test.YtjoinnjhpfakpaaGreatDoorFacE
import Derived.Test.YtjoinnjhpfakpaaGreatDoorOpenQ
import Derived.Test.YtjoinnjhpfakpaaGreatDoorWDAlB
namespace Go.Proofs.YtjoinnjhpfakpaaGreatDoor.diskAll
open Go.RowKit Go.ChangeShapes Go.WideShapes Go.ChangeAt

set_option maxRecDepth 100000 in
theorem contract (H : Type) (enc : TypeId × Value → H) (W : World) (base : Nat) (args : Array Value) (ds gs : List (DataW H)) (before : List MemPlace)
    (hval0 : ∀ (j : Nat) t v, Tryz.f3.params[j]? = some t → args[j]? = some v → Value.okWide Tryz.prog W .any base t v)
    (hW : DataW.Whole enc Tryz.prog Tryz.f3.params.toList Rows.diskAllSpec.vars false W args.toList ds gs before) (hL : laidMetH Tryz.prog Rows.diskAllRow.laid W) (hS : W.ShapedOpen Tryz.prog) :
    Calls Tryz.prog 3 args W fun e W' => ∃ v, e = .returned v ∧ Rows.diskAllSpec.post enc Tryz.prog Tryz.f3 false true false false W args v W' := by
  have hE : Eng.GE W := Door.ge_ofH7 hL hS
  have hW' := hW
  have hval := hval0
  obtain ⟨p, q, hA0, hV, rfl, hfz, hnd⟩ := hW
  have hA : DataW.TrodAll enc Tryz.prog W 0 (fun _ => true) true Tryz.f3.params.toList args.toList ds p := hA0
  rw [Tryz.params3] at hA hval
  obtain ⟨v0, vs0, d0, ds0, p0, q0, hargs, rfl, rfl, h0, r0⟩ := trodAll_cons hA
  obtain ⟨rfl, rfl, rfl⟩ := trodAll_nil r0
  obtain rfl : args = #[v0] := by cases args; simp_all
  clear hA0 hval0
  obtain ⟨A0, c0, es, rfl, ar0, ok0⟩ := Door.open_qos (hval 0 22 v0 rfl rfl) h0
  refine (wdalb_any A0 c0 es W hE ar0 ok0).mono fun e W' ⟨he, hb⟩ => ?_
  subst he
  exact ⟨_, rfl, Door.law_post Door.laidOut rfl (by kernel_rfl) rfl Tryz.underlying4 hW' (by rintro _ rfl; rfl) hb⟩

theorem reads (os : Os) {H : Type} (enc : TypeId × Value → H) : ∃ d places, DataW.whole enc Tryz.prog ((Door.laidWorld7 os).forCall (fun _ _ => 0) ⟨#[], #[.slice none 0 0], []⟩).memory Tryz.f3.params.toList Rows.diskAllSpec.vars false #[.slice none 0 0].toList 8 = some (d, [], places) :=
  Door.reads_of (by kernel_rfl)

set_option maxRecDepth 100000 in
theorem lifted (os : Os) (started : os.Started) (H : Type) (enc : TypeId × Value → H) (F : Stop.Interp) :
    ReturnsInHanded {} Tryz.checked os 3 .any ((OpenSpec.ofChange Rows.diskAllSpec).preRow enc Tryz.prog Tryz.f3 Rows.diskAllRow.domain false Rows.diskAllRow.laid) (((OpenSpec.ofChange Rows.diskAllSpec).at F).post enc Tryz.prog Tryz.f3 false true false false) := by
  obtain ⟨d, places, hx⟩ := reads os enc
  refine returnsInHanded_of_row (C := Tryz.checked) (s := OpenSpec.ofChange Rows.diskAllSpec) Door.own started (by kernel_rfl) Tryz.func3
    (witness_row_at (enc := enc) (C := Tryz.checked) false (Door.laidWorld7 os) #[.slice none 0 0] rfl (Door.vars07 os _) (Door.rest07 os _) (by kernel_rfl)
      (OpenSpec.preRow_of_cond 8 hx (by kernel_rfl) (fun k hk => by cases hk) (by kernel_rfl) (Door.laid_met7 os _))) ?_
  intro W base args ds gs before hval hW _ _ _ hL hS _
  exact contract H enc W base args ds gs before hval hW hL hS

theorem fPlace : (Rows.diskAllRow.inPlace == Tryz.prog.inPlace 3) = true := by kernel_rfl
theorem fUnf : (Rows.diskAllRow.unfollowed == Tryz.prog.unfollowed 3) = true := by kernel_rfl
theorem fRec : (Rows.diskAllRow.recurses == Tryz.prog.recurses 3) = true := by kernel_rfl
theorem fNam : (Rows.diskAllRow.named == Tryz.prog.varsNamed 3) = true := by kernel_rfl
theorem fGoes : false = Rows.diskAllRow.goesBy Tryz.prog := by kernel_rfl
theorem closed : joinedFacts Tryz.prog 3 Tryz.f3 (OpenSpec.ofChange Rows.diskAllSpec).bare Rows.diskAllRow = true := by
  unfold joinedFacts
  exact (and2 (and2 (and2 (and2 (and2 (and2 (and2 (and2 (and2 (and2 (and2 (and2 (and2 (and2 (and2 (and2 (and2 (and2 (and2 (and2 (and2 (and2 (and2 (and2 (and2 (and2 (and2 (and2 (and2 (and2 (and2 (by kernel_rfl) fLaid) fMaps) (by kernel_rfl)) (by kernel_rfl)) (by kernel_rfl)) (by kernel_rfl)) (by kernel_rfl)) (by kernel_rfl)) fPlace) fUnf) fRec) fNam) (by kernel_rfl)) (by kernel_rfl)) (by kernel_rfl)) (by kernel_rfl)) (by kernel_rfl)) (by kernel_rfl)) (by kernel_rfl)) (by kernel_rfl)) (by kernel_rfl)) (by kernel_rfl)) (by kernel_rfl)) fHeard) fEnter) (by show (Rows.diskAllRow.lifted == Tryz.prog.liftsFinal) = true; rw [fLift]; kernel_rfl)) (by show (Tryz.prog.make == some Rows.diskAllRow.make) = true; rw [fMake]; kernel_rfl)) (by kernel_rfl)) (by kernel_rfl)) (by kernel_rfl)) (by kernel_rfl))

theorem said : Rows.DiskAllSaid :=
  OpenClaim.holds_of_cond 3 Tryz.f3 rfl rfl rfl rfl rfl rfl rfl ⟨rfl, rfl, rfl, rfl, rfl⟩ rfl rfl rfl rfl rfl (by kernel_rfl) Tryz.func3 closed
    (of_decide_eq_true (by kernel_rfl)) (by unfold Func.isWrapper; first | (rw [if_pos (by decide +kernel)]; kernel_rfl) | (rw [if_neg (by decide +kernel)]; exact ⟨rfl, rfl⟩))
    (fun os started H enc _ F => by rw [OpenClaim.pre_eq_preRow]; exact lifted os started H enc F)

theorem plain (f : FuncId) (fn : Func) (hf : Tryz.pinned.checked.prog.funcNamed "colporteur/colporteurlaw13.DiskAll" = some f) (hfn : Tryz.pinned.checked.prog.funcs[f]? = some fn) :
    true = Tryz.pinned.checked.prog.looks [] ∧ ∀ (j : Nat) t, fn.params[j]? = some t → Tryz.pinned.checked.prog.wantsStandIn t = false := by
  obtain rfl : f = 3 := Option.some.inj ((show Tryz.prog.funcNamed "colporteur/colporteurlaw13.DiskAll" = some 3 by kernel_rfl).symm.trans hf) |>.symm
  obtain rfl : fn = Tryz.f3 := (Option.some.inj (Tryz.func3.symm.trans hfn)).symm
  refine ⟨Door.looks0, fun j t ht => ?_⟩
  rw [Tryz.params3] at ht
  have hm : t ∈ [22] := by simpa using Array.mem_of_getElem? ht
  have hall : ([22].all fun t => !Tryz.prog.wantsStandIn t) = true := by kernel_rfl
  have h1 : (!Tryz.prog.wantsStandIn t) = true := List.all_eq_true.1 hall t hm
  have h2 : Tryz.prog.wantsStandIn t = false := by simpa using h1
  exact h2

theorem card : Rows.DiskAllCardSaid :=
  Claim7.holds_tied_plain_at .later [] _ _ _ _ said (fun _ h => by cases h) (by kernel_rfl) (fun _ h => by cases h) diskAll_row_tie rfl ⟨rfl, rfl⟩ fMain rfl plain fGoes
end Go.Proofs.YtjoinnjhpfakpaaGreatDoor.diskAll

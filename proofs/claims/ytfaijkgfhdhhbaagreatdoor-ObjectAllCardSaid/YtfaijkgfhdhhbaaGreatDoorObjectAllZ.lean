/-
  ObjectAll returns true.
  For every input, in every world that a row of this seat speaks of: the listed tables hold what the program's text lays there, the library's MaxLen holds some int.
-/
import Derived.Test.YtfaijkgfhdhhbaaGreatDoorDoor7
import Derived.Test.YtfaijkgfhdhhbaaGreatDoorMgi
import Derived.Test.YtfaijkgfhdhhbaaGreatDoorBAll
namespace Go.Proofs.YtfaijkgfhdhhbaaGreatDoor.objectAll
open Go.RowKit Go.ChangeShapes Go.WideShapes Go.ChangeAt

set_option maxRecDepth 100000 in
theorem contract (H : Type) (enc : TypeId × Value → H) (W : World) (base : Nat) (args : Array Value) (ds gs : List (DataW H)) (before : List MemPlace)
    (hval0 : ∀ (j : Nat) t v, Tryz.f3.params[j]? = some t → args[j]? = some v → Value.okWide Tryz.prog W .any base t v)
    (hW : DataW.Whole enc Tryz.prog Tryz.f3.params.toList Rows.objectAllSpec.vars false W args.toList ds gs before) (hL : laidMetH Tryz.prog Rows.objectAllRow.laid W) (hS : W.ShapedOpen Tryz.prog) :
    Calls Tryz.prog 3 args W fun e W' => ∃ v, e = .returned v ∧ Rows.objectAllSpec.post enc Tryz.prog Tryz.f3 false true false false W args v W' := by
  have hE : Env W := Door.env_ofH7 hL hS
  have hW' := hW
  have hval := hval0
  obtain ⟨p, q, hA0, hV, rfl, hfz, hnd⟩ := hW
  have hA : DataW.TrodAll enc Tryz.prog W 0 (fun _ => true) true Tryz.f3.params.toList args.toList ds p := hA0
  rw [Tryz.params3] at hA hval
  obtain ⟨v0, vs0, d0, ds0, p0, q0, hargs, rfl, rfl, h0, r0⟩ := trodAll_cons hA
  obtain ⟨v1, vs1, d1, ds1, p1, q1, rfl, rfl, rfl, h1, r1⟩ := trodAll_cons r0
  obtain ⟨v2, vs2, d2, ds2, p2, q2, rfl, rfl, rfl, h2, r2⟩ := trodAll_cons r1
  obtain ⟨v3, vs3, d3, ds3, p3, q3, rfl, rfl, rfl, h3, r3⟩ := trodAll_cons r2
  obtain ⟨rfl, rfl, rfl⟩ := trodAll_nil r3
  obtain rfl : args = #[v0, v1, v2, v3] := by cases args; simp_all
  clear hA0 hval0
  obtain ⟨A0, c0, B0, d0, x, rfl, kd0, bl0, ar0, nl0, pr0, tm0, nt0⟩ := Door.open_object (hval 0 30 v0 rfl rfl) h0
  obtain ⟨A1, c1, B1, d1, y, rfl, kd1, bl1, ar1, nl1, pr1, tm1, nt1⟩ := Door.open_object (hval 1 30 v1 rfl rfl) h1
  obtain ⟨k, rfl, rfl, rfl, wk⟩ := open_int Tryz.underlying3 (hval 2 3 v2 rfl rfl) h2
  obtain ⟨ts, rfl, rfl, rfl, ws⟩ := Go.ChangeMaps.open_string Tryz.underlying9 (hval 3 9 v3 rfl rfl) h3
  obtain ⟨s, rfl⟩ : ∃ l : List UInt8, ts = ⟨l.toArray⟩ := ⟨ts.data.toList, by cases ts; simp⟩
  refine (ball_any A0 c0 B0 d0 x A1 c1 B1 d1 y k s W hE (Door.tens_ofH7 hL) ⟨ar0, pr0⟩ nl0 tm0 ⟨ar1, pr1⟩ nl1 tm1).mono fun e W' ⟨he, hb⟩ => ?_
  subst he
  exact ⟨_, rfl, Door.law_post Door.laidOut rfl (by kernel_rfl) rfl Tryz.underlying4 hW' (by rintro _ rfl; rfl) hb⟩

theorem reads (os : Os) {H : Type} (enc : TypeId × Value → H) : ∃ d places, DataW.whole enc Tryz.prog ((Door.laidWorld7 os).forCall (fun _ _ => 0) ⟨#[], #[.agg (encO none 0 none 0 zO).toArray, .agg (encO none 0 none 0 zO).toArray, .int .i64 0, .string ⟨#[]⟩], []⟩).memory Tryz.f3.params.toList Rows.objectAllSpec.vars false #[.agg (encO none 0 none 0 zO).toArray, .agg (encO none 0 none 0 zO).toArray, .int .i64 0, .string ⟨#[]⟩].toList 8 = some (d, [], places) :=
  Door.reads_of (by kernel_rfl)

set_option maxRecDepth 100000 in
theorem lifted (os : Os) (started : os.Started) (H : Type) (enc : TypeId × Value → H) (F : Stop.Interp) :
    ReturnsInHanded {} Tryz.checked os 3 .any ((OpenSpec.ofChange Rows.objectAllSpec).preRow enc Tryz.prog Tryz.f3 Rows.objectAllRow.domain false Rows.objectAllRow.laid) (((OpenSpec.ofChange Rows.objectAllSpec).at F).post enc Tryz.prog Tryz.f3 false true false false) := by
  obtain ⟨d, places, hx⟩ := reads os enc
  refine returnsInHanded_of_row (C := Tryz.checked) (s := OpenSpec.ofChange Rows.objectAllSpec) Door.own started (by kernel_rfl) Tryz.func3
    (witness_row_at (enc := enc) (C := Tryz.checked) false (Door.laidWorld7 os) #[.agg (encO none 0 none 0 zO).toArray, .agg (encO none 0 none 0 zO).toArray, .int .i64 0, .string ⟨#[]⟩] rfl (Door.vars07 os _) (Door.rest07 os _) (by kernel_rfl)
      (OpenSpec.preRow_of_cond 8 hx (by kernel_rfl) (fun k hk => by cases hk) (by kernel_rfl) (Door.laid_met7 os _))) ?_
  intro W base args ds gs before hval hW _ _ _ hL hS _
  exact contract H enc W base args ds gs before hval hW hL hS

theorem said : Rows.ObjectAllSaid :=
  OpenClaim.holds_of_cond 3 Tryz.f3 rfl rfl rfl rfl rfl rfl rfl ⟨rfl, rfl, rfl, rfl, rfl⟩ rfl rfl rfl rfl rfl (by kernel_rfl) Tryz.func3 (by kernel_rfl)
    (of_decide_eq_true (by kernel_rfl)) (by unfold Func.isWrapper; first | (rw [if_pos (by decide +kernel)]; kernel_rfl) | (rw [if_neg (by decide +kernel)]; exact ⟨rfl, rfl⟩))
    (fun os started H enc _ F => by rw [OpenClaim.pre_eq_preRow]; exact lifted os started H enc F)

theorem plain (f : FuncId) (fn : Func) (hf : Tryz.pinned.checked.prog.funcNamed "colporteur/colporteurlaw6.ObjectAll" = some f) (hfn : Tryz.pinned.checked.prog.funcs[f]? = some fn) :
    true = Tryz.pinned.checked.prog.looks [] ∧ ∀ (j : Nat) t, fn.params[j]? = some t → Tryz.pinned.checked.prog.wantsStandIn t = false := by
  obtain rfl : f = 3 := Option.some.inj ((show Tryz.prog.funcNamed "colporteur/colporteurlaw6.ObjectAll" = some 3 by kernel_rfl).symm.trans hf) |>.symm
  obtain rfl : fn = Tryz.f3 := (Option.some.inj (Tryz.func3.symm.trans hfn)).symm
  refine ⟨Door.looks0, fun j t ht => ?_⟩
  rw [Tryz.params3] at ht
  have hm : t ∈ [30, 30, 3, 9] := by simpa using Array.mem_of_getElem? ht
  have hall : ([30, 30, 3, 9].all fun t => !Tryz.prog.wantsStandIn t) = true := by kernel_rfl
  have h1 : (!Tryz.prog.wantsStandIn t) = true := List.all_eq_true.1 hall t hm
  have h2 : Tryz.prog.wantsStandIn t = false := by simpa using h1
  exact h2

theorem card : Rows.ObjectAllCardSaid :=
  Claim7.holds_tied_plain_at .later [] _ _ _ _ said (fun _ h => by cases h) (by kernel_rfl) (fun _ h => by cases h) objectAll_row_tie rfl ⟨rfl, rfl⟩ (by kernel_rfl) rfl plain (by kernel_rfl)
end Go.Proofs.YtfaijkgfhdhhbaaGreatDoor.objectAll

/-
  From what a row gives to what the walks ask, and from a walk's end to what a row asks: of no statement in particular.
-/
import Derived.Test.YtfaijkgfhdhhbaaGreatDoorCards
import Derived.Test.YtfaijkgfhdhhbaaGreatDoorTie
import Derived.Test.YtfaijkgfhdhhbaaGreatDoorBegB
import Derived.ProofKit
import Derived.OpenShut
import Derived.Deep.DeepHandedRow
import Derived.Lib.LaidTab
import Derived.Carry
import Derived.ChangeSame
import Derived.Stop.LaidErr
import Derived.Shelf.Vars
namespace Go.Proofs.YtfaijkgfhdhhbaaGreatDoor
open Go.RowKit Go.ChangeShapes Go.WideShapes Go.ChangeAt

namespace Door
theorem own : ownKnob Tryz.prog.godebug = none := by kernel_rfl
theorem laidOut : laidOutB Tryz.prog = true := by kernel_rfl

/-! ### The tables -/
theorem g1 : Tryz.prog.globalNamed "math/bits.deBruijn32tab" = some 7 := by kernel_rfl
theorem g2 : Tryz.prog.globalNamed "math/bits.deBruijn64tab" = some 8 := by kernel_rfl
theorem g3 : Tryz.prog.globalNamed "colporteur/sha.start" = some 0 := by kernel_rfl
theorem g4 : Tryz.prog.globalNamed "colporteur/sha.roots" = some 2 := by kernel_rfl
theorem ty2 : (Tryz.prog.globals[8]?).map (·.type) = some 124 := by kernel_rfl
theorem ty3 : (Tryz.prog.globals[0]?).map (·.type) = some 146 := by kernel_rfl
theorem ty4 : (Tryz.prog.globals[2]?).map (·.type) = some 175 := by kernel_rfl
theorem ce8 : Tryz.prog.cellsOf 5 = 1 := by kernel_rfl
theorem ce32 : Tryz.prog.cellsOf 145 = 1 := by kernel_rfl
theorem ca64 : Tryz.prog.cellsOf 124 = 64 := by kernel_rfl
theorem ca8w : Tryz.prog.cellsOf 146 = 8 := by kernel_rfl
theorem ca64w : Tryz.prog.cellsOf 175 = 64 := by kernel_rfl

def tz64 : List Int := [0, 1, 56, 2, 57, 49, 28, 3, 61, 58, 42, 50, 38, 29, 17, 4, 62, 47, 59, 36, 45, 43, 51, 22, 53, 39, 33, 30, 24, 18, 12, 5, 63, 55, 48, 27, 60, 41, 37, 16, 46, 35, 44, 21, 52, 32, 23, 11, 54, 26, 40, 15, 34, 20, 31, 10, 25, 14, 19, 9, 13, 8, 7, 6]
def st8 : List Int := [0x6a09e667, 0xbb67ae85, 0x3c6ef372, 0xa54ff53a, 0x510e527f, 0x9b05688c, 0x1f83d9ab, 0x5be0cd19]
def rt64 : List Int := ShaM.kk.map Int.ofNat
theorem st_at : ∀ i, i < 8 → st8.getD i 0 = ((ShaM.H0.at i).toNat : Int) := by decide +kernel
theorem rt_at : ∀ i, i < 64 → rt64.getD i 0 = ((ShaM.K i).toNat : Int) := by decide +kernel

theorem env_of {W : World} {r : List (String × DataW Unit)} (h : laidMet Tryz.prog (("math/bits.deBruijn32tab", Rows.laid_math_bits_deBruijn32tab) :: ("math/bits.deBruijn64tab", Rows.laid_math_bits_deBruijn64tab) :: ("colporteur/sha.start", Rows.laid_colporteur_sha_start) :: ("colporteur/sha.roots", Rows.laid_colporteur_sha_roots) :: r) W)
    (hS : W.ShapedOpen Tryz.prog) : Env W := by
  have h2 := Lib.tabIs_of_head (k := .u8) (zs := tz64) g2 ty2 Tryz.underlying124 Tryz.underlying5 ce8 ca64 h.tail
  have h3 := Lib.tabIs_of_head (k := .u32) (zs := st8) g3 ty3 Tryz.underlying146 Tryz.underlying145 ce32 ca8w h.tail.tail
  have h4 := Lib.tabIs_of_head (k := .u32) (zs := rt64) g4 ty4 Tryz.underlying175 Tryz.underlying145 ce32 ca64w h.tail.tail.tail
  refine ⟨⟨fun i hi => ?_, fun i hi => ?_⟩, ?_, ?_⟩
  · rw [h3.cell g3 i (by simpa [st8] using hi), st_at i hi]; rfl
  · rw [h4.cell g4 i (by rw [rt64, List.length_map, ShaM.kk_len]; exact hi), rt_at i hi]; rfl
  · exact h2.cell g2 15 (by decide)
  · exact cell_of_shapedOpen_int (t := 3) (zero := #[.int .i64 0]) hS (of_decide_eq_true (by kernel_rfl)) (by kernel_rfl) rfl (by kernel_rfl) (by kernel_rfl) Tryz.underlying3

set_option maxRecDepth 100000 in
theorem env_ofH {W : World} (h : laidMetH Tryz.prog [("math/bits.deBruijn32tab", Rows.laid_math_bits_deBruijn32tab), ("math/bits.deBruijn64tab", Rows.laid_math_bits_deBruijn64tab), ("colporteur/sha.start", Rows.laid_colporteur_sha_start), ("colporteur/sha.roots", Rows.laid_colporteur_sha_roots), ("internal/strconv.uint64pow10", Rows.laid_internal_strconv_uint64pow10)] W)
    (hS : W.ShapedOpen Tryz.prog) : Env W := env_of (r := [("internal/strconv.uint64pow10", Rows.laid_internal_strconv_uint64pow10)]) h hS

/-! ### The world of the witness: the settled one, its tables laid -/
def setBlock (h : Array Obj) (g : Nat) (cs : Array Value) : Array Obj := h.modify g fun
  | .cells _ t frozen => .cells cs t frozen
  | o => o
noncomputable def heap0 (os : Os) : Array Obj := (World.holding Tryz.prog os ⟨#[], #[], []⟩).heap
noncomputable def heap1 (os : Os) : Array Obj := setBlock (heap0 os) 7 #[.int .u8 0, .int .u8 1, .int .u8 28, .int .u8 2, .int .u8 29, .int .u8 14, .int .u8 24, .int .u8 3, .int .u8 30, .int .u8 22, .int .u8 20, .int .u8 15, .int .u8 25, .int .u8 17, .int .u8 4, .int .u8 8, .int .u8 31, .int .u8 27, .int .u8 13, .int .u8 23, .int .u8 21, .int .u8 19, .int .u8 16, .int .u8 7, .int .u8 26, .int .u8 12, .int .u8 18, .int .u8 6, .int .u8 11, .int .u8 5, .int .u8 10, .int .u8 9]
noncomputable def heap2 (os : Os) : Array Obj := setBlock (heap1 os) 8 (tz64.map (Value.int .u8)).toArray
noncomputable def heap3 (os : Os) : Array Obj := setBlock (heap2 os) 0 (st8.map (Value.int .u32)).toArray
noncomputable def heap4 (os : Os) : Array Obj := setBlock (heap3 os) 2 (rt64.map (Value.int .u32)).toArray
noncomputable def heap5 (os : Os) : Array Obj := setBlock (heap4 os) 6 ((List.range 20).map fun i => Value.int .u64 ((10 ^ i : Nat) : Int)).toArray
noncomputable def laidWorld (os : Os) : World := { World.holding Tryz.prog os ⟨#[], #[], []⟩ with heap := heap5 os }

set_option maxRecDepth 100000 in
theorem laid_met (os : Os) (args : Array Value) : laidMet Tryz.prog [("math/bits.deBruijn32tab", Rows.laid_math_bits_deBruijn32tab), ("math/bits.deBruijn64tab", Rows.laid_math_bits_deBruijn64tab), ("colporteur/sha.start", Rows.laid_colporteur_sha_start), ("colporteur/sha.roots", Rows.laid_colporteur_sha_roots), ("internal/strconv.uint64pow10", Rows.laid_internal_strconv_uint64pow10)] ((laidWorld os).forCall (fun _ _ => 0) ⟨#[], args, []⟩).memory :=
  laidMet_of_run' 8 (by kernel_rfl) (by kernel_rfl)
theorem vars0 (os : Os) (args : Array Value) : ((laidWorld os).forCall (fun _ _ => 0) ⟨#[], args, []⟩).variablesB Tryz.checked.prog = true := by kernel_rfl
theorem rest0 (os : Os) (args : Array Value) : (((laidWorld os).forCall (fun _ _ => 0) ⟨#[], args, []⟩).heap.toList.drop Tryz.checked.prog.globals.size).take ((begin Tryz.checked.prog (fun _ _ => 0) default).world.heap.size - Tryz.checked.prog.globals.size) =
      (begin Tryz.checked.prog (fun _ _ => 0) default).world.heap.toList.drop Tryz.checked.prog.globals.size := by kernel_rfl
theorem looks0 : true = Tryz.pinned.checked.prog.looks [] := by kernel_rfl

/-! ### Arguments read again -/
section
variable {H : Type} {enc : TypeId × Value → H} {P : Program} {W W' : World}
theorem trodAll_below (hl : laidOutB P = true) (hb : Below W.heap.size W W') : ∀ {ts : List TypeId} {vs : List Value} {ds : List (DataW H)} {ps : List MemPlace}, (∀ t ∈ ts, P.readableRec t = true ∧ t < P.types.size) →
    DataW.TrodAll enc P W 0 (fun _ => true) true ts vs ds ps → (∀ x ∈ ps, x.block < W.heap.size) → DataW.TrodAll enc P W' 0 (fun b => decide (b < W.heap.size)) true ts vs ds ps
  | [], vs, ds, ps, _, h, _ => by
    obtain ⟨rfl, rfl, rfl⟩ := trodAll_nil h
    exact trodAll_mk0
  | t :: ts, vs, ds, ps, ht, h, hp => by
    obtain ⟨v0, vs0, d0, ds0, p0, q0, rfl, rfl, rfl, h0, r0⟩ := trodAll_cons h
    exact trodAll_cons_mk (Below.trod hl (ht t (by simp)).1 (ht t (by simp)).2 h0 hb (fun x hx => hp x (by simp [hx]))) (trodAll_below hl hb (fun t' h' => ht t' (by simp [h'])) r0 (fun x hx => hp x (by simp [hx])))
theorem law_post {f : Func} {s : ChangeSpec} {args : Array Value} {ds gs : List (DataW H)} {before : List MemPlace} (hl : laidOutB P = true) (hv : s.vars = []) (ht0 : (f.params.toList.all fun t => P.readableRec t && decide (t < P.types.size)) = true)
    {tb : TypeId} (hr : f.resultTypes = #[tb]) (hb1 : P.underlying tb = some .bool) (hW : DataW.Whole enc P f.params.toList s.vars false W args.toList ds gs before) (hfn : ∀ gs, gs = [] → s.fn H (ds ++ gs) = { results := [.lit (.bool true)], args := ds }) (hb : Below W.heap.size W W') :
    s.post enc P f false true false false W args (.bool true) W' := by
  have ht : ∀ t ∈ f.params.toList, P.readableRec t = true ∧ t < P.types.size := fun t h => by have := List.all_eq_true.1 ht0 t h; simpa using this
  have hW0 := hW
  obtain ⟨p, q, hA, hV, rfl, _, _⟩ := hW
  rw [hv] at hV
  obtain ⟨rfl, rfl⟩ := trodVars_none hV
  have hfn' := hfn _ rfl
  have hlt : ∀ x ∈ p, x.block < W.heap.size := fun x hx => hW0.lt x (by simp [hx])
  refine ⟨ds, [], p ++ [], [], p, [], hW0, ?_, ?_, ?_, hb.frame _, fun h => by cases h⟩
  · rw [hfn', hr]
    exact trodAll_mk1 (shut_bool hb1 true)
  · rw [hfn']
    exact trodAll_below hl hb ht hA hlt
  · rw [hfn', hv]
    exact rfl
theorem open_float {w : World} {base : Nat} {spare : Nat → Bool} {held : Bool} {r : Reach} {b0 : Nat} {t : TypeId} {v : Value} {d : DataW H} {ps : List MemPlace} (ht : P.underlying t = some (.float .f64)) (hval : Value.okWide P w r b0 t v) (hd : DataW.Trod enc P w base spare held t v d ps) :
    ∃ n, v = .float .f64 n ∧ n < 18446744073709551616 := by
  have hv : ∃ n, v = .float .f64 n := by
    simp only [Value.okWide, ht, Cell.okWide] at hval
    cases v <;> simp_all [Cell.ok]
  obtain ⟨n, rfl⟩ := hv
  obtain ⟨fuel, hf⟩ := hd
  refine ⟨n, rfl, ?_⟩
  cases fuel with
  | zero => simp [DataW.trod] at hf
  | succ m =>
    unfold DataW.trod at hf
    rw [ht] at hf
    simp [Value.cells, Lit.wf] at hf
    have := hf.1
    simpa using this
theorem wf_u64 {x : Int} (h : (Lit.int .u64 x).wf = true) : ∃ n : Nat, x = (n : Int) ∧ n < 18446744073709551616 := by
  simp [Lit.wf, IntKind.min, IntKind.max, IntKind.signed, IntKind.bits] at h
  exact ⟨x.toNat, by omega, by omega⟩
theorem wf_u8 {x : Int} (h : (Lit.int .u8 x).wf = true) : ∃ c : UInt8, x = (c.toNat : Int) := by
  simp [Lit.wf, IntKind.min, IntKind.max, IntKind.signed, IntKind.bits] at h
  refine ⟨UInt8.ofNat x.toNat, ?_⟩
  simp
  omega
theorem wf_i64 {x : Int} (h : (Lit.int .i64 x).wf = true) : -9223372036854775808 ≤ x ∧ x ≤ 9223372036854775807 := by
  simp [Lit.wf, IntKind.min, IntKind.max, IntKind.signed, IntKind.bits] at h
  omega
theorem reads_of {x : Option (List (DataW H) × List (DataW H) × List MemPlace)} (h : (x.map fun y => y.2.1.length) = some 0) : ∃ d places, x = some (d, [], places) := by
  rcases x with _ | ⟨d, g, ps⟩
  · cases h
  · obtain rfl : g = [] := by simpa using h
    exact ⟨d, ps, rfl⟩
end
end Door
end Go.Proofs.YtfaijkgfhdhhbaaGreatDoor

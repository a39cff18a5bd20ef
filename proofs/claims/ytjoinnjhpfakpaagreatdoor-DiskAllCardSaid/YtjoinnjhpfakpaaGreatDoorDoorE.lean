/-
  From what a row gives to what a reckoned run asks, and from its end to what a row asks: of no statement in particular; seven tables laid.
-/
import Derived.Test.YtjoinnjhpfakpaaGreatDoorCards
import Derived.Test.YtjoinnjhpfakpaaGreatDoorTie
import Derived.Test.YtjoinnjhpfakpaaGreatDoorEgG
import Derived.ProofKit
import Derived.OpenShut
import Derived.Deep.DeepHandedRow
import Derived.Lib.LaidTab
import Derived.Carry
import Derived.ChangeSame
import Derived.Stop.LaidErr
import Derived.Shelf.Vars
namespace Go.Proofs.YtjoinnjhpfakpaaGreatDoor
open Go.RowKit Go.ChangeShapes Go.WideShapes Go.ChangeAt

namespace Door
theorem own : ownKnob Tryz.prog.godebug = none := by kernel_rfl
theorem laidOut : laidOutB Tryz.prog = true := by kernel_rfl

/-! ### The tables -/
theorem g1 : Tryz.prog.globalNamed "math/bits.deBruijn32tab" = some 5 := by kernel_rfl
theorem g2 : Tryz.prog.globalNamed "math/bits.deBruijn64tab" = some 6 := by kernel_rfl
theorem g3 : Tryz.prog.globalNamed "colporteur/sha.start" = some 1 := by kernel_rfl
theorem g4 : Tryz.prog.globalNamed "colporteur/sha.roots" = some 2 := by kernel_rfl
theorem ty2 : (Tryz.prog.globals[6]?).map (·.type) = some 192 := by kernel_rfl
theorem ty3 : (Tryz.prog.globals[1]?).map (·.type) = some 199 := by kernel_rfl
theorem ty4 : (Tryz.prog.globals[2]?).map (·.type) = some 284 := by kernel_rfl
theorem ce8 : Tryz.prog.cellsOf 5 = 1 := by kernel_rfl
theorem ce32 : Tryz.prog.cellsOf 198 = 1 := by kernel_rfl
theorem ca64 : Tryz.prog.cellsOf 192 = 64 := by kernel_rfl
theorem ca8w : Tryz.prog.cellsOf 199 = 8 := by kernel_rfl
theorem ca64w : Tryz.prog.cellsOf 284 = 64 := by kernel_rfl

def tz64 : List Int := [0, 1, 56, 2, 57, 49, 28, 3, 61, 58, 42, 50, 38, 29, 17, 4, 62, 47, 59, 36, 45, 43, 51, 22, 53, 39, 33, 30, 24, 18, 12, 5, 63, 55, 48, 27, 60, 41, 37, 16, 46, 35, 44, 21, 52, 32, 23, 11, 54, 26, 40, 15, 34, 20, 31, 10, 25, 14, 19, 9, 13, 8, 7, 6]
def st8 : List Int := [0x6a09e667, 0xbb67ae85, 0x3c6ef372, 0xa54ff53a, 0x510e527f, 0x9b05688c, 0x1f83d9ab, 0x5be0cd19]
def rt64 : List Int := ShaM.kk.map Int.ofNat
theorem st_at : ∀ i, i < 8 → st8.getD i 0 = ((ShaM.H0.at i).toNat : Int) := by decide +kernel
theorem rt_at : ∀ i, i < 64 → rt64.getD i 0 = ((ShaM.K i).toNat : Int) := by decide +kernel

theorem g5 : Tryz.prog.globalNamed "internal/strconv.uint64pow10" = some 4 := by kernel_rfl
theorem ty5 : (Tryz.prog.globals[4]?).map (·.type) = some 382 := by kernel_rfl
theorem ce64 : Tryz.prog.cellsOf 28 = 1 := by kernel_rfl
theorem ca20 : Tryz.prog.cellsOf 382 = 20 := by kernel_rfl

abbrev laid7 : List (String × DataW Unit) := [("math/bits.deBruijn32tab", Rows.laid_math_bits_deBruijn32tab), ("math/bits.deBruijn64tab", Rows.laid_math_bits_deBruijn64tab), ("colporteur/sha.start", Rows.laid_colporteur_sha_start), ("colporteur/sha.roots", Rows.laid_colporteur_sha_roots), ("internal/strconv.uint64pow10", Rows.laid_internal_strconv_uint64pow10), ("unicode/utf8.acceptRanges", Rows.laid_unicode_utf8_acceptRanges), ("unicode/utf8.first", Rows.laid_unicode_utf8_first)]

/-- A row of ints, where a table is. -/
theorem row_rel {W : World} {g t : Nat} {k : IntKind} {zs : List Int} {n : Nat} {cs : List Eng.V} {j : Eng.J} (hS : W.ShapedOpen Tryz.prog) (hg : g < Tryz.prog.globals.size) {zero : Array Value} (hrow : (((begin Tryz.prog (fun _ _ => 0) default).world.heap[g]?).bind Obj.row?) = some (zero, t)) (hn : zero.size = n)
    (hc : ∀ i, i < n → W.cell? ⟨g, i, none⟩ = some (.int k (zs.getD i 0))) (hv : ∀ (i : Nat) (v : Eng.V), cs[i]? = some v → i < n ∧ Eng.VR j v (.int k (zs.getD i 0))) : ∃ lim, Eng.BR j ⟨g, 0, lim⟩ W (.c cs t .s) := by
  obtain ⟨arr, h1, h2, _⟩ := hS.1 g zero t hg hrow
  refine ⟨n, arr, (0, 0), h1, h2.trans hn, fun i v hi => ?_, .inl rfl⟩
  obtain ⟨k1, k2⟩ := hv i v hi
  have := hc i k1
  simp only [World.cell?, h1] at this
  exact ⟨_, by simpa using this, k2⟩
def ten20 : List Int := [1, 10, 100, 1000, 10000, 100000, 1000000, 10000000, 100000000, 1000000000, 10000000000, 100000000000, 1000000000000, 10000000000000, 100000000000000, 1000000000000000, 10000000000000000, 100000000000000000, 1000000000000000000, 10000000000000000000]
set_option maxRecDepth 100000 in
theorem ge_ofH7 {W : World} (h : laidMetH Tryz.prog laid7 W) (hS : W.ShapedOpen Tryz.prog) : Eng.GE W := by
  have h' : laidMet Tryz.prog laid7 W := h
  have h2 := Lib.tabIs_of_head (k := .u8) (zs := tz64) g2 ty2 Tryz.underlying192 Tryz.underlying5 ce8 ca64 h'.tail
  have h3 := Lib.tabIs_of_head (k := .u32) (zs := st8) g3 ty3 Tryz.underlying199 Tryz.underlying198 ce32 ca8w h'.tail.tail
  have h4 := Lib.tabIs_of_head (k := .u32) (zs := rt64) g4 ty4 Tryz.underlying284 Tryz.underlying198 ce32 ca64w h'.tail.tail.tail
  have h5 := Lib.tabIs_of_head (k := .u64) (zs := ten20) g5 ty5 Tryz.underlying382 Tryz.underlying28 ce64 ca20 h'.tail.tail.tail.tail
  have c2 := fun i (hi : i < 64) => h2.cell g2 i hi
  have c3 := fun i (hi : i < 8) => h3.cell g3 i hi
  have c4 := fun i (hi : i < 64) => h4.cell g4 i (by rw [rt64, List.length_map, ShaM.kk_len]; exact hi)
  have c5 := fun i (hi : i < 20) => h5.cell g5 i hi
  have intV : ∀ {j : Eng.J} {k : IntKind} {n : Nat} {zs : List Int} {ms : List Nat}, (∀ i, i < n → zs.getD i 0 = (ms.getD i 0 : Nat)) → ms.length = n → ∀ (i : Nat) (v : Eng.V), (ms.map fun m => Eng.V.i k (Int.ofNat m))[i]? = some v → i < n ∧ Eng.VR j v (.int k (zs.getD i 0)) := fun hz hl i v hv => by
    rw [List.getElem?_map] at hv
    cases hq : (_ : List Nat)[i]? with
    | none => rw [hq] at hv; cases hv
    | some m =>
      rw [hq] at hv
      injection hv with hv
      subst hv
      have hlt := (List.getElem?_eq_some_iff.1 hq).1
      rw [hl] at hlt
      refine ⟨hlt, ?_⟩
      rw [hz i hlt]
      simp only [Eng.VR, List.getD, hq, Option.getD_some]
      rfl
  have j0 : Eng.J := fun _ => none
  obtain ⟨n3, b3⟩ := row_rel (j := j0) (zs := st8) (zero := (List.replicate 8 (Value.int .u32 0)).toArray) (t := 199) (cs := Eng.u32s Eng.startL) hS (by decide +kernel) (by kernel_rfl) rfl c3 (intV (by decide) rfl)
  obtain ⟨n4, b4⟩ := row_rel (j := j0) (zs := rt64) (zero := (List.replicate 64 (Value.int .u32 0)).toArray) (t := 284) (cs := Eng.u32s ShaM.kk) hS (by decide +kernel) (by kernel_rfl) rfl c4 (intV (by decide +kernel) rfl)
  obtain ⟨n5, b5⟩ := row_rel (j := j0) (zs := ten20) (zero := (List.replicate 20 (Value.int .u64 0)).toArray) (t := 382) (cs := Eng.tenL) hS (by decide +kernel) (by kernel_rfl) rfl c5 (intV (ms := (List.range 20).map fun i => 10 ^ i) (by decide +kernel) rfl)
  obtain ⟨n2, b2⟩ := row_rel (j := j0) (zs := tz64) (n := 64) (zero := (List.replicate 64 (Value.int .u8 0)).toArray) (t := 192) (cs := Eng.bruL) hS (by decide +kernel) (by kernel_rfl) rfl c2 (fun i v hv => by
    have hlt : i < 16 := (List.getElem?_eq_some_iff.1 hv).1
    refine ⟨by omega, ?_⟩
    have key : ∀ i, i < 16 → Eng.bruL[i]? = some (if i = 15 then Eng.V.i .u8 (tz64.getD i 0) else Eng.V.un) := fun i hi => by
      rcases Nat.lt_or_ge i 15 with h | h
      · rw [if_neg (by omega)]
        rw [Eng.bruL, List.getElem?_append_left (by simpa using h), List.getElem?_replicate, if_pos h]
      · obtain rfl : i = 15 := by omega
        rfl
    rw [key i hlt] at hv
    injection hv with hv
    subst hv
    split
    · simp only [Eng.VR]
    · simp only [Eng.VR]; rfl)
  let J : Eng.J := fun id => if id = 1 then some ⟨1, 0, n3⟩ else if id = 2 then some ⟨2, 0, n4⟩ else if id = 4 then some ⟨4, 0, n5⟩ else if id = 6 then some ⟨6, 0, n2⟩ else none
  have JJ : ∀ id l, J id = some l → l.g = id ∧ l.d = 0 := fun id l hl => by
    simp only [J] at hl
    split at hl
    · injection hl with hl; subst hl; exact ⟨‹id = _›.symm, rfl⟩
    split at hl
    · injection hl with hl; subst hl; exact ⟨‹id = _›.symm, rfl⟩
    split at hl
    · injection hl with hl; subst hl; exact ⟨‹id = _›.symm, rfl⟩
    split at hl
    · injection hl with hl; subst hl; exact ⟨‹id = _›.symm, rfl⟩
    · cases hl
  refine ⟨J, fun id b hb => ?_, fun id b l _ _ hl => JJ id l hl, fun id b l hi hb => absurd (Eng.glob_lt hb) (by omega), fun id id' b b' l l' _ _ h1 h2 h3 => ?_⟩
  · have hb' := hb
    rcases Eng.glob_get hb with ⟨rfl, rfl⟩ | ⟨rfl, rfl⟩ | ⟨rfl, rfl⟩ | ⟨rfl, rfl⟩
    · exact ⟨_, rfl, Eng.glob_br hb' b2⟩
    · exact ⟨_, rfl, Eng.glob_br hb' b5⟩
    · exact ⟨_, rfl, Eng.glob_br hb' b4⟩
    · exact ⟨_, rfl, Eng.glob_br hb' b3⟩
  · rw [← (JJ id l h1).1, ← (JJ id' l' h2).1, h3]

/-! ### The world of the witness: the settled one, its tables laid -/
def setBlock (h : Array Obj) (g : Nat) (cs : Array Value) : Array Obj := h.modify g fun
  | .cells _ t frozen => .cells cs t frozen
  | o => o
noncomputable def heap0 (os : Os) : Array Obj := (World.holding Tryz.prog os ⟨#[], #[], []⟩).heap
noncomputable def heap1 (os : Os) : Array Obj := setBlock (heap0 os) 5 #[.int .u8 0, .int .u8 1, .int .u8 28, .int .u8 2, .int .u8 29, .int .u8 14, .int .u8 24, .int .u8 3, .int .u8 30, .int .u8 22, .int .u8 20, .int .u8 15, .int .u8 25, .int .u8 17, .int .u8 4, .int .u8 8, .int .u8 31, .int .u8 27, .int .u8 13, .int .u8 23, .int .u8 21, .int .u8 19, .int .u8 16, .int .u8 7, .int .u8 26, .int .u8 12, .int .u8 18, .int .u8 6, .int .u8 11, .int .u8 5, .int .u8 10, .int .u8 9]
noncomputable def heap2 (os : Os) : Array Obj := setBlock (heap1 os) 6 (tz64.map (Value.int .u8)).toArray
noncomputable def heap3 (os : Os) : Array Obj := setBlock (heap2 os) 1 (st8.map (Value.int .u32)).toArray
noncomputable def heap4 (os : Os) : Array Obj := setBlock (heap3 os) 2 (rt64.map (Value.int .u32)).toArray
noncomputable def heap5 (os : Os) : Array Obj := setBlock (heap4 os) 4 ((List.range 20).map fun i => Value.int .u64 ((10 ^ i : Nat) : Int)).toArray
noncomputable def laidWorld (os : Os) : World := { World.holding Tryz.prog os ⟨#[], #[], []⟩ with heap := heap5 os }

def litVal {H : Type} : DataW H → List Value
  | .lit (.int k x) => [.int k x]
  | _ => []
def aggVals {H : Type} : DataW H → List Value
  | .agg l => l.flatMap litVal
  | _ => []
def aggVals2 {H : Type} : DataW H → List Value
  | .agg l => l.flatMap aggVals
  | _ => []
noncomputable def heap6 (os : Os) : Array Obj := setBlock (heap5 os) 8 (aggVals2 (Rows.laid_unicode_utf8_acceptRanges (H := Unit))).toArray
noncomputable def heap7 (os : Os) : Array Obj := setBlock (heap6 os) 7 (aggVals Rows.laid_unicode_utf8_first).toArray
noncomputable def laidWorld7 (os : Os) : World := { World.holding Tryz.prog os ⟨#[], #[], []⟩ with heap := heap7 os }
set_option maxRecDepth 100000 in
theorem laid_met7 (os : Os) (args : Array Value) : laidMet Tryz.prog laid7 ((laidWorld7 os).forCall (fun _ _ => 0) ⟨#[], args, []⟩).memory :=
  laidMet_of_run' 8 (by kernel_rfl) (by kernel_rfl)
theorem vars07 (os : Os) (args : Array Value) : ((laidWorld7 os).forCall (fun _ _ => 0) ⟨#[], args, []⟩).variablesB Tryz.checked.prog = true := by kernel_rfl
theorem rest07 (os : Os) (args : Array Value) : (((laidWorld7 os).forCall (fun _ _ => 0) ⟨#[], args, []⟩).heap.toList.drop Tryz.checked.prog.globals.size).take ((begin Tryz.checked.prog (fun _ _ => 0) default).world.heap.size - Tryz.checked.prog.globals.size) =
      (begin Tryz.checked.prog (fun _ _ => 0) default).world.heap.toList.drop Tryz.checked.prog.globals.size := by kernel_rfl

theorem looks0 : true = Tryz.pinned.checked.prog.looks [] := by kernel_rfl

/-! ### Arguments read again -/
section
variable {H : Type} {enc : TypeId × Value → H} {P : Program} {W W' : World}
theorem trodAll_below (hl : laidOutB P = true) (hb : Below W.heap.size W W') : ∀ {ts : List TypeId} {vs : List Value} {ds : List (DataW H)} {ps : List MemPlace}, (∀ t ∈ ts, P.readableRec t = true ∧ t < P.types.size) →
    DataW.TrodAll enc P W 0 (fun _ => true) true ts vs ds ps → (∀ x ∈ ps, x.block < W.heap.size) → DataW.TrodAll enc P W' 0 (fun b => decide (b < W.heap.size)) true ts vs ds ps
  | [], vs, ds, ps, _, h, _ => by
    obtain ⟨rfl, rfl, rfl⟩ := trodAll_nil h
    exact trodAll_mk0
  | t :: ts, vs, ds, ps, ht, h, hp => by
    obtain ⟨v0, vs0, d0, ds0, p0, q0, rfl, rfl, rfl, h0, r0⟩ := trodAll_cons h
    exact trodAll_cons_mk (Below.trod hl (ht t (by simp)).1 (ht t (by simp)).2 h0 hb (fun x hx => hp x (by simp [hx]))) (trodAll_below hl hb (fun t' h' => ht t' (by simp [h'])) r0 (fun x hx => hp x (by simp [hx])))
theorem law_post {f : Func} {s : ChangeSpec} {args : Array Value} {ds gs : List (DataW H)} {before : List MemPlace} (hl : laidOutB P = true) (hv : s.vars = []) (ht0 : (f.params.toList.all fun t => P.readableRec t && decide (t < P.types.size)) = true)
    {tb : TypeId} (hr : f.resultTypes = #[tb]) (hb1 : P.underlying tb = some .bool) (hW : DataW.Whole enc P f.params.toList s.vars false W args.toList ds gs before) (hfn : ∀ gs, gs = [] → s.fn H (ds ++ gs) = { results := [.lit (.bool true)], args := ds }) (hb : Below W.heap.size W W') :
    s.post enc P f false true false false W args (.bool true) W' := by
  have ht : ∀ t ∈ f.params.toList, P.readableRec t = true ∧ t < P.types.size := fun t h => by have := List.all_eq_true.1 ht0 t h; simpa using this
  have hW0 := hW
  obtain ⟨p, q, hA, hV, rfl, _, _⟩ := hW
  rw [hv] at hV
  obtain ⟨rfl, rfl⟩ := trodVars_none hV
  have hfn' := hfn _ rfl
  have hlt : ∀ x ∈ p, x.block < W.heap.size := fun x hx => hW0.lt x (by simp [hx])
  refine ⟨ds, [], p ++ [], [], p, [], hW0, ?_, ?_, ?_, hb.frame _, fun h => by cases h⟩
  · rw [hfn', hr]
    exact trodAll_mk1 (shut_bool hb1 true)
  · rw [hfn']
    exact trodAll_below hl hb ht hA hlt
  · rw [hfn', hv]
    exact rfl
theorem open_float {w : World} {base : Nat} {spare : Nat → Bool} {held : Bool} {r : Reach} {b0 : Nat} {t : TypeId} {v : Value} {d : DataW H} {ps : List MemPlace} (ht : P.underlying t = some (.float .f64)) (hval : Value.okWide P w r b0 t v) (hd : DataW.Trod enc P w base spare held t v d ps) :
    ∃ n, v = .float .f64 n ∧ n < 18446744073709551616 := by
  have hv : ∃ n, v = .float .f64 n := by
    simp only [Value.okWide, ht, Cell.okWide] at hval
    cases v <;> simp_all [Cell.ok]
  obtain ⟨n, rfl⟩ := hv
  obtain ⟨fuel, hf⟩ := hd
  refine ⟨n, rfl, ?_⟩
  cases fuel with
  | zero => simp [DataW.trod] at hf
  | succ m =>
    unfold DataW.trod at hf
    rw [ht] at hf
    simp [Value.cells, Lit.wf] at hf
    have := hf.1
    simpa using this
theorem wf_u64 {x : Int} (h : (Lit.int .u64 x).wf = true) : ∃ n : Nat, x = (n : Int) ∧ n < 18446744073709551616 := by
  simp [Lit.wf, IntKind.min, IntKind.max, IntKind.signed, IntKind.bits] at h
  exact ⟨x.toNat, by omega, by omega⟩
theorem wf_u8 {x : Int} (h : (Lit.int .u8 x).wf = true) : ∃ c : UInt8, x = (c.toNat : Int) := by
  simp [Lit.wf, IntKind.min, IntKind.max, IntKind.signed, IntKind.bits] at h
  refine ⟨UInt8.ofNat x.toNat, ?_⟩
  simp
  omega
theorem wf_i64 {x : Int} (h : (Lit.int .i64 x).wf = true) : -9223372036854775808 ≤ x ∧ x ≤ 9223372036854775807 := by
  simp [Lit.wf, IntKind.min, IntKind.max, IntKind.signed, IntKind.bits] at h
  omega
theorem reads_of {x : Option (List (DataW H) × List (DataW H) × List MemPlace)} (h : (x.map fun y => y.2.1.length) = some 0) : ∃ d places, x = some (d, [], places) := by
  rcases x with _ | ⟨d, g, ps⟩
  · cases h
  · obtain rfl : g = [] := by simpa using h
    exact ⟨d, ps, rfl⟩
end
end Door
end Go.Proofs.YtjoinnjhpfakpaaGreatDoor

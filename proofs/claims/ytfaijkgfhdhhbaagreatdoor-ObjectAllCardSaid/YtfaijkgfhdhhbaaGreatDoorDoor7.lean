/-
  The door for the rows whose laid list has seven tables.
-/
import Derived.Test.YtfaijkgfhdhhbaaGreatDoorMgw
namespace Go.Proofs.YtfaijkgfhdhhbaaGreatDoor
open Go.RowKit Go.ChangeShapes Go.WideShapes Go.ChangeAt

namespace Door
abbrev laid7 : List (String × DataW Unit) := [("math/bits.deBruijn32tab", Rows.laid_math_bits_deBruijn32tab), ("math/bits.deBruijn64tab", Rows.laid_math_bits_deBruijn64tab), ("colporteur/sha.start", Rows.laid_colporteur_sha_start), ("colporteur/sha.roots", Rows.laid_colporteur_sha_roots), ("internal/strconv.uint64pow10", Rows.laid_internal_strconv_uint64pow10), ("unicode/utf8.acceptRanges", Rows.laid_unicode_utf8_acceptRanges), ("unicode/utf8.first", Rows.laid_unicode_utf8_first)]
set_option maxRecDepth 100000 in
theorem env_ofH7 {W : World} (h : laidMetH Tryz.prog laid7 W) (hS : W.ShapedOpen Tryz.prog) : Env W :=
  env_of (r := [("internal/strconv.uint64pow10", Rows.laid_internal_strconv_uint64pow10), ("unicode/utf8.acceptRanges", Rows.laid_unicode_utf8_acceptRanges), ("unicode/utf8.first", Rows.laid_unicode_utf8_first)]) h hS
set_option maxRecDepth 100000 in
theorem tens_ofH7 {W : World} (h : laidMetH Tryz.prog laid7 W) : Tens W := by
  have h' : laidMet Tryz.prog laid7 W := h
  exact Lib.tabIs_of_head (k := .u64) (zs := Lib.pow10Tab) g5 ty5 Tryz.underlying206 Tryz.underlying101 ce64 ca20 h'.tail.tail.tail.tail

def litVal {H : Type} : DataW H → List Value
  | .lit (.int k x) => [.int k x]
  | _ => []
def aggVals {H : Type} : DataW H → List Value
  | .agg l => l.flatMap litVal
  | _ => []
def aggVals2 {H : Type} : DataW H → List Value
  | .agg l => l.flatMap aggVals
  | _ => []
noncomputable def heap6 (os : Os) : Array Obj := setBlock (heap5 os) 4 (aggVals2 (Rows.laid_unicode_utf8_acceptRanges (H := Unit))).toArray
noncomputable def heap7 (os : Os) : Array Obj := setBlock (heap6 os) 3 (aggVals Rows.laid_unicode_utf8_first).toArray
noncomputable def laidWorld7 (os : Os) : World := { World.holding Tryz.prog os ⟨#[], #[], []⟩ with heap := heap7 os }
set_option maxRecDepth 100000 in
theorem laid_met7 (os : Os) (args : Array Value) : laidMet Tryz.prog laid7 ((laidWorld7 os).forCall (fun _ _ => 0) ⟨#[], args, []⟩).memory :=
  laidMet_of_run' 8 (by kernel_rfl) (by kernel_rfl)
theorem vars07 (os : Os) (args : Array Value) : ((laidWorld7 os).forCall (fun _ _ => 0) ⟨#[], args, []⟩).variablesB Tryz.checked.prog = true := by kernel_rfl
theorem rest07 (os : Os) (args : Array Value) : (((laidWorld7 os).forCall (fun _ _ => 0) ⟨#[], args, []⟩).heap.toList.drop Tryz.checked.prog.globals.size).take ((begin Tryz.checked.prog (fun _ _ => 0) default).world.heap.size - Tryz.checked.prog.globals.size) =
      (begin Tryz.checked.prog (fun _ _ => 0) default).world.heap.toList.drop Tryz.checked.prog.globals.size := by kernel_rfl
end Door
end Go.Proofs.YtfaijkgfhdhhbaaGreatDoor

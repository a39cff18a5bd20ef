/-
  NARROWER THAN 'FOR EVERY INPUT', by the rows' own cells (each row's printed sentence says how): DeltaMake: laid · PackLoop: laid · ThinAll: laid · PackNone: laid · VaryEdges: laid · DeltaParts: laid · DeltaSelf: laid · PackMany: laid · PackBehind: laid · PackKind: laid · ThinSame: laid.
  DERIVED. THE GIVEN ROWS OF THIS SEAT. 11 by the template 'for every input the law returns true; each argument reads behind the call as it read before'; 0 by the template 'total and deterministic' (their statements: YtlfmooihcigolaaGreatDoorTotals.lean).
  GIVEN WITH THE SEED: the statements are not yours to turn. If you find one false, say at which input.
  Laid BY PROGRAM, IN A SANDBOX (cutbox-rows.mjs): the forced cells as the released guide's own fill.sh prints them over the translation 29c598dd8adf3104… (all of the seat's roots in one cut). By AI agents, Wed Nov 11 2026. No macro, syntax, notation, axiom, sorry.
-/
import Derived.Test.YtlfmooihcigolaaGreatDoorChecked
import GoSem.PinnedTables
import GoSem.Claim
import GoSem.ClaimJoined
import GoSem.ClaimMapViews
import Derived.JoinedTies
import Derived.KernelRfl
namespace Go.Proofs.YtlfmooihcigolaaGreatDoor
/- THE CELL 'sum', in the pinned program and in every row, IS THE sha256 OF THE DUMP (.gsa) THAT YtlfmooihcigolaaGreatDoorProg.lean LOADS. Nothing in Lean hashes anything: it is a label: what it is worth is what the hold of that sum in a sandbox is worth. -/
noncomputable def Tryz.pinned : Pinned := { name := "ytlfmooihcigolaagreatdoor", sum := "29c598dd8adf31042051879c4e38785572a44fe861163dd1db3069bed98fa7e8", checked := Tryz.checked }
namespace Rows
def none {H : Type} : Left H := { results := [], args := [] }

/- WHAT THE LISTED PACKAGE-LEVEL VARIABLES READ AS WHEN THE CALL BEGINS. Each datum BY PROGRAM (the guide's laid-datum.mjs) off the statement by which the dump's own 'gosem.cut.vars' lays the variable. In a bare row this is a premise. The card (YtlfmooihcigolaaGreatDoorCards.lean) ties it to the program's text. -/
def laid_math_bits_deBruijn32tab {H : Type} : DataW H := .agg [.lit (.int .u8 0), .lit (.int .u8 1), .lit (.int .u8 28), .lit (.int .u8 2), .lit (.int .u8 29), .lit (.int .u8 14), .lit (.int .u8 24), .lit (.int .u8 3), .lit (.int .u8 30), .lit (.int .u8 22), .lit (.int .u8 20), .lit (.int .u8 15), .lit (.int .u8 25), .lit (.int .u8 17), .lit (.int .u8 4), .lit (.int .u8 8), .lit (.int .u8 31), .lit (.int .u8 27), .lit (.int .u8 13), .lit (.int .u8 23), .lit (.int .u8 21), .lit (.int .u8 19), .lit (.int .u8 16), .lit (.int .u8 7), .lit (.int .u8 26), .lit (.int .u8 12), .lit (.int .u8 18), .lit (.int .u8 6), .lit (.int .u8 11), .lit (.int .u8 5), .lit (.int .u8 10), .lit (.int .u8 9)]
def laid_math_bits_deBruijn64tab {H : Type} : DataW H := .agg [.lit (.int .u8 0), .lit (.int .u8 1), .lit (.int .u8 56), .lit (.int .u8 2), .lit (.int .u8 57), .lit (.int .u8 49), .lit (.int .u8 28), .lit (.int .u8 3), .lit (.int .u8 61), .lit (.int .u8 58), .lit (.int .u8 42), .lit (.int .u8 50), .lit (.int .u8 38), .lit (.int .u8 29), .lit (.int .u8 17), .lit (.int .u8 4), .lit (.int .u8 62), .lit (.int .u8 47), .lit (.int .u8 59), .lit (.int .u8 36), .lit (.int .u8 45), .lit (.int .u8 43), .lit (.int .u8 51), .lit (.int .u8 22), .lit (.int .u8 53), .lit (.int .u8 39), .lit (.int .u8 33), .lit (.int .u8 30), .lit (.int .u8 24), .lit (.int .u8 18), .lit (.int .u8 12), .lit (.int .u8 5), .lit (.int .u8 63), .lit (.int .u8 55), .lit (.int .u8 48), .lit (.int .u8 27), .lit (.int .u8 60), .lit (.int .u8 41), .lit (.int .u8 37), .lit (.int .u8 16), .lit (.int .u8 46), .lit (.int .u8 35), .lit (.int .u8 44), .lit (.int .u8 21), .lit (.int .u8 52), .lit (.int .u8 32), .lit (.int .u8 23), .lit (.int .u8 11), .lit (.int .u8 54), .lit (.int .u8 26), .lit (.int .u8 40), .lit (.int .u8 15), .lit (.int .u8 34), .lit (.int .u8 20), .lit (.int .u8 31), .lit (.int .u8 10), .lit (.int .u8 25), .lit (.int .u8 14), .lit (.int .u8 19), .lit (.int .u8 9), .lit (.int .u8 13), .lit (.int .u8 8), .lit (.int .u8 7), .lit (.int .u8 6)]
def laid_colporteur_sha_start {H : Type} : DataW H := .agg [.lit (.int .u32 1779033703), .lit (.int .u32 3144134277), .lit (.int .u32 1013904242), .lit (.int .u32 2773480762), .lit (.int .u32 1359893119), .lit (.int .u32 2600822924), .lit (.int .u32 528734635), .lit (.int .u32 1541459225)]
def laid_colporteur_sha_roots {H : Type} : DataW H := .agg [.lit (.int .u32 1116352408), .lit (.int .u32 1899447441), .lit (.int .u32 3049323471), .lit (.int .u32 3921009573), .lit (.int .u32 961987163), .lit (.int .u32 1508970993), .lit (.int .u32 2453635748), .lit (.int .u32 2870763221), .lit (.int .u32 3624381080), .lit (.int .u32 310598401), .lit (.int .u32 607225278), .lit (.int .u32 1426881987), .lit (.int .u32 1925078388), .lit (.int .u32 2162078206), .lit (.int .u32 2614888103), .lit (.int .u32 3248222580), .lit (.int .u32 3835390401), .lit (.int .u32 4022224774), .lit (.int .u32 264347078), .lit (.int .u32 604807628), .lit (.int .u32 770255983), .lit (.int .u32 1249150122), .lit (.int .u32 1555081692), .lit (.int .u32 1996064986), .lit (.int .u32 2554220882), .lit (.int .u32 2821834349), .lit (.int .u32 2952996808), .lit (.int .u32 3210313671), .lit (.int .u32 3336571891), .lit (.int .u32 3584528711), .lit (.int .u32 113926993), .lit (.int .u32 338241895), .lit (.int .u32 666307205), .lit (.int .u32 773529912), .lit (.int .u32 1294757372), .lit (.int .u32 1396182291), .lit (.int .u32 1695183700), .lit (.int .u32 1986661051), .lit (.int .u32 2177026350), .lit (.int .u32 2456956037), .lit (.int .u32 2730485921), .lit (.int .u32 2820302411), .lit (.int .u32 3259730800), .lit (.int .u32 3345764771), .lit (.int .u32 3516065817), .lit (.int .u32 3600352804), .lit (.int .u32 4094571909), .lit (.int .u32 275423344), .lit (.int .u32 430227734), .lit (.int .u32 506948616), .lit (.int .u32 659060556), .lit (.int .u32 883997877), .lit (.int .u32 958139571), .lit (.int .u32 1322822218), .lit (.int .u32 1537002063), .lit (.int .u32 1747873779), .lit (.int .u32 1955562222), .lit (.int .u32 2024104815), .lit (.int .u32 2227730452), .lit (.int .u32 2361852424), .lit (.int .u32 2428436474), .lit (.int .u32 2756734187), .lit (.int .u32 3204031479), .lit (.int .u32 3329325298)]
def laid_internal_strconv_uint64pow10 {H : Type} : DataW H := .agg [.lit (.int .u64 1), .lit (.int .u64 10), .lit (.int .u64 100), .lit (.int .u64 1000), .lit (.int .u64 10000), .lit (.int .u64 100000), .lit (.int .u64 1000000), .lit (.int .u64 10000000), .lit (.int .u64 100000000), .lit (.int .u64 1000000000), .lit (.int .u64 10000000000), .lit (.int .u64 100000000000), .lit (.int .u64 1000000000000), .lit (.int .u64 10000000000000), .lit (.int .u64 100000000000000), .lit (.int .u64 1000000000000000), .lit (.int .u64 10000000000000000), .lit (.int .u64 100000000000000000), .lit (.int .u64 1000000000000000000), .lit (.int .u64 10000000000000000000)]
def laid_unicode_utf8_acceptRanges {H : Type} : DataW H := .agg [.agg [.lit (.int .u8 128), .lit (.int .u8 191)], .agg [.lit (.int .u8 160), .lit (.int .u8 191)], .agg [.lit (.int .u8 128), .lit (.int .u8 159)], .agg [.lit (.int .u8 144), .lit (.int .u8 191)], .agg [.lit (.int .u8 128), .lit (.int .u8 143)], .agg [.lit (.int .u8 0), .lit (.int .u8 0)], .agg [.lit (.int .u8 0), .lit (.int .u8 0)], .agg [.lit (.int .u8 0), .lit (.int .u8 0)], .agg [.lit (.int .u8 0), .lit (.int .u8 0)], .agg [.lit (.int .u8 0), .lit (.int .u8 0)], .agg [.lit (.int .u8 0), .lit (.int .u8 0)], .agg [.lit (.int .u8 0), .lit (.int .u8 0)], .agg [.lit (.int .u8 0), .lit (.int .u8 0)], .agg [.lit (.int .u8 0), .lit (.int .u8 0)], .agg [.lit (.int .u8 0), .lit (.int .u8 0)], .agg [.lit (.int .u8 0), .lit (.int .u8 0)]]
/-- One of Go's own tables, pinned by name: the form's constant. -/
def laid_unicode_utf8_first : DataW Unit := Go.Pinned.utf8First

/-- 'colporteurlaw9.DeltaMake': WHATEVER THE INPUT: true; the input reads as it did. -/
def deltaMakeSpec : ChangeSpec := { name := "deltaMake", fn := fun _ => fun
  | [d1, d2, d3, d4] => { results := [.lit (.bool true)], args := [d1, d2, d3, d4] }
  | _ => none }
def deltaMakeRow : OpenClaim := { program := "ytlfmooihcigolaagreatdoor", sum := "29c598dd8adf31042051879c4e38785572a44fe861163dd1db3069bed98fa7e8", func := "colporteur/colporteurlaw9.DeltaMake", spec := "deltaMake", inPlace := ["internal/abi.NoEscape", "internal/bytealg.MakeNoZero", "math.Float64bits", "math.Float64frombits", "internal/bytealg.IndexByteString", "internal/bytealg.Compare", "internal/bytealg.IndexString"], unfollowed := true, recurses := true, named := ["colporteur/sha.start", "colporteur/sha.roots", "internal/strconv.uint64pow10", "math/bits.deBruijn32tab", "math/bits.deBruijn64tab", "unicode/utf8.first", "unicode/utf8.acceptRanges", "internal/bytealg.MaxLen"], plainKeys := false, apart := false, laid := [("math/bits.deBruijn32tab", laid_math_bits_deBruijn32tab), ("math/bits.deBruijn64tab", laid_math_bits_deBruijn64tab), ("colporteur/sha.start", laid_colporteur_sha_start), ("colporteur/sha.roots", laid_colporteur_sha_roots), ("internal/strconv.uint64pow10", laid_internal_strconv_uint64pow10), ("unicode/utf8.acceptRanges", laid_unicode_utf8_acceptRanges), ("unicode/utf8.first", laid_unicode_utf8_first)] }
def DeltaMakeSaid : Prop := deltaMakeRow.holds Tryz.pinned (OpenSpec.ofChange deltaMakeSpec)

/-- ITS FALSE NEIGHBOUR: 'it returns false'. Refute it at one input. -/
def deltaMakeWrong : ChangeSpec := { name := "deltaMake", fn := fun _ => fun
  | [d1, d2, d3, d4] => { results := [.lit (.bool false)], args := [d1, d2, d3, d4] }
  | _ => none }
def DeltaMakeWrongFalsely : Prop := deltaMakeRow.holds Tryz.pinned (OpenSpec.ofChange deltaMakeWrong)

/-- 'colporteurlaw9.PackLoop': WHATEVER THE INPUT: true; the input reads as it did. -/
def packLoopSpec : ChangeSpec := { name := "packLoop", fn := fun _ => fun
  | [d1, d2, d3] => { results := [.lit (.bool true)], args := [d1, d2, d3] }
  | _ => none }
def packLoopRow : OpenClaim := { program := "ytlfmooihcigolaagreatdoor", sum := "29c598dd8adf31042051879c4e38785572a44fe861163dd1db3069bed98fa7e8", func := "colporteur/colporteurlaw9.PackLoop", spec := "packLoop", inPlace := ["internal/abi.NoEscape", "internal/bytealg.MakeNoZero", "math.Float64bits", "math.Float64frombits", "internal/bytealg.IndexByteString", "internal/bytealg.Compare", "internal/bytealg.IndexString"], unfollowed := true, recurses := true, named := ["colporteur/sha.start", "colporteur/sha.roots", "internal/strconv.uint64pow10", "math/bits.deBruijn32tab", "math/bits.deBruijn64tab", "unicode/utf8.first", "unicode/utf8.acceptRanges", "internal/bytealg.MaxLen"], plainKeys := false, apart := false, laid := [("math/bits.deBruijn32tab", laid_math_bits_deBruijn32tab), ("math/bits.deBruijn64tab", laid_math_bits_deBruijn64tab), ("colporteur/sha.start", laid_colporteur_sha_start), ("colporteur/sha.roots", laid_colporteur_sha_roots), ("internal/strconv.uint64pow10", laid_internal_strconv_uint64pow10), ("unicode/utf8.acceptRanges", laid_unicode_utf8_acceptRanges), ("unicode/utf8.first", laid_unicode_utf8_first)] }
def PackLoopSaid : Prop := packLoopRow.holds Tryz.pinned (OpenSpec.ofChange packLoopSpec)

/-- ITS FALSE NEIGHBOUR: 'it returns false'. Refute it at one input. -/
def packLoopWrong : ChangeSpec := { name := "packLoop", fn := fun _ => fun
  | [d1, d2, d3] => { results := [.lit (.bool false)], args := [d1, d2, d3] }
  | _ => none }
def PackLoopWrongFalsely : Prop := packLoopRow.holds Tryz.pinned (OpenSpec.ofChange packLoopWrong)

/-- 'colporteurlaw9.ThinAll': WHATEVER THE INPUT: true; the input reads as it did. -/
def thinAllSpec : ChangeSpec := { name := "thinAll", fn := fun _ => fun
  | [d1, d2, d3] => { results := [.lit (.bool true)], args := [d1, d2, d3] }
  | _ => none }
def thinAllRow : OpenClaim := { program := "ytlfmooihcigolaagreatdoor", sum := "29c598dd8adf31042051879c4e38785572a44fe861163dd1db3069bed98fa7e8", func := "colporteur/colporteurlaw9.ThinAll", spec := "thinAll", inPlace := ["internal/abi.NoEscape", "internal/bytealg.MakeNoZero", "math.Float64bits", "math.Float64frombits", "internal/bytealg.IndexByteString", "internal/bytealg.Compare", "internal/bytealg.IndexString"], unfollowed := true, recurses := true, named := ["colporteur/sha.start", "colporteur/sha.roots", "internal/strconv.uint64pow10", "math/bits.deBruijn32tab", "math/bits.deBruijn64tab", "unicode/utf8.first", "unicode/utf8.acceptRanges", "internal/bytealg.MaxLen"], plainKeys := false, apart := false, laid := [("math/bits.deBruijn32tab", laid_math_bits_deBruijn32tab), ("math/bits.deBruijn64tab", laid_math_bits_deBruijn64tab), ("colporteur/sha.start", laid_colporteur_sha_start), ("colporteur/sha.roots", laid_colporteur_sha_roots), ("internal/strconv.uint64pow10", laid_internal_strconv_uint64pow10), ("unicode/utf8.acceptRanges", laid_unicode_utf8_acceptRanges), ("unicode/utf8.first", laid_unicode_utf8_first)] }
def ThinAllSaid : Prop := thinAllRow.holds Tryz.pinned (OpenSpec.ofChange thinAllSpec)

/-- ITS FALSE NEIGHBOUR: 'it returns false'. Refute it at one input. -/
def thinAllWrong : ChangeSpec := { name := "thinAll", fn := fun _ => fun
  | [d1, d2, d3] => { results := [.lit (.bool false)], args := [d1, d2, d3] }
  | _ => none }
def ThinAllWrongFalsely : Prop := thinAllRow.holds Tryz.pinned (OpenSpec.ofChange thinAllWrong)

/-- 'colporteurlaw9.PackNone': WHATEVER THE INPUT: true; the input reads as it did. -/
def packNoneSpec : ChangeSpec := { name := "packNone", fn := fun _ => fun
  | [] => { results := [.lit (.bool true)], args := [] }
  | _ => none }
def packNoneRow : OpenClaim := { program := "ytlfmooihcigolaagreatdoor", sum := "29c598dd8adf31042051879c4e38785572a44fe861163dd1db3069bed98fa7e8", func := "colporteur/colporteurlaw9.PackNone", spec := "packNone", inPlace := ["internal/abi.NoEscape", "math.Float64bits", "math.Float64frombits", "internal/bytealg.MakeNoZero", "internal/bytealg.IndexByteString", "internal/bytealg.Compare", "internal/bytealg.IndexString"], unfollowed := true, recurses := true, named := ["colporteur/sha.start", "colporteur/sha.roots", "internal/strconv.uint64pow10", "math/bits.deBruijn32tab", "math/bits.deBruijn64tab", "unicode/utf8.first", "unicode/utf8.acceptRanges", "internal/bytealg.MaxLen"], plainKeys := false, apart := false, laid := [("math/bits.deBruijn32tab", laid_math_bits_deBruijn32tab), ("math/bits.deBruijn64tab", laid_math_bits_deBruijn64tab), ("colporteur/sha.start", laid_colporteur_sha_start), ("colporteur/sha.roots", laid_colporteur_sha_roots), ("internal/strconv.uint64pow10", laid_internal_strconv_uint64pow10), ("unicode/utf8.acceptRanges", laid_unicode_utf8_acceptRanges), ("unicode/utf8.first", laid_unicode_utf8_first)] }
def PackNoneSaid : Prop := packNoneRow.holds Tryz.pinned (OpenSpec.ofChange packNoneSpec)

/-- ITS FALSE NEIGHBOUR: 'it returns false'. Refute it at one input. -/
def packNoneWrong : ChangeSpec := { name := "packNone", fn := fun _ => fun
  | [] => { results := [.lit (.bool false)], args := [] }
  | _ => none }
def PackNoneWrongFalsely : Prop := packNoneRow.holds Tryz.pinned (OpenSpec.ofChange packNoneWrong)

/-- 'colporteurlaw9.VaryEdges': WHATEVER THE INPUT: true; the input reads as it did. -/
def varyEdgesSpec : ChangeSpec := { name := "varyEdges", fn := fun _ => fun
  | [d1, d2] => { results := [.lit (.bool true)], args := [d1, d2] }
  | _ => none }
def varyEdgesRow : OpenClaim := { program := "ytlfmooihcigolaagreatdoor", sum := "29c598dd8adf31042051879c4e38785572a44fe861163dd1db3069bed98fa7e8", func := "colporteur/colporteurlaw9.VaryEdges", spec := "varyEdges", inPlace := ["internal/abi.NoEscape", "internal/bytealg.MakeNoZero", "math.Float64bits", "math.Float64frombits", "internal/bytealg.IndexByteString", "internal/bytealg.Compare", "internal/bytealg.IndexString"], unfollowed := true, recurses := true, named := ["colporteur/sha.start", "colporteur/sha.roots", "internal/strconv.uint64pow10", "math/bits.deBruijn32tab", "math/bits.deBruijn64tab", "unicode/utf8.first", "unicode/utf8.acceptRanges", "internal/bytealg.MaxLen"], plainKeys := false, apart := false, laid := [("math/bits.deBruijn32tab", laid_math_bits_deBruijn32tab), ("math/bits.deBruijn64tab", laid_math_bits_deBruijn64tab), ("colporteur/sha.start", laid_colporteur_sha_start), ("colporteur/sha.roots", laid_colporteur_sha_roots), ("internal/strconv.uint64pow10", laid_internal_strconv_uint64pow10), ("unicode/utf8.acceptRanges", laid_unicode_utf8_acceptRanges), ("unicode/utf8.first", laid_unicode_utf8_first)] }
def VaryEdgesSaid : Prop := varyEdgesRow.holds Tryz.pinned (OpenSpec.ofChange varyEdgesSpec)

/-- ITS FALSE NEIGHBOUR: 'it returns false'. Refute it at one input. -/
def varyEdgesWrong : ChangeSpec := { name := "varyEdges", fn := fun _ => fun
  | [d1, d2] => { results := [.lit (.bool false)], args := [d1, d2] }
  | _ => none }
def VaryEdgesWrongFalsely : Prop := varyEdgesRow.holds Tryz.pinned (OpenSpec.ofChange varyEdgesWrong)

/-- 'colporteurlaw9.DeltaParts': WHATEVER THE INPUT: true; the input reads as it did. -/
def deltaPartsSpec : ChangeSpec := { name := "deltaParts", fn := fun _ => fun
  | [d1, d2, d3] => { results := [.lit (.bool true)], args := [d1, d2, d3] }
  | _ => none }
def deltaPartsRow : OpenClaim := { program := "ytlfmooihcigolaagreatdoor", sum := "29c598dd8adf31042051879c4e38785572a44fe861163dd1db3069bed98fa7e8", func := "colporteur/colporteurlaw9.DeltaParts", spec := "deltaParts", inPlace := ["internal/abi.NoEscape", "internal/bytealg.MakeNoZero", "math.Float64bits", "math.Float64frombits", "internal/bytealg.IndexByteString", "internal/bytealg.Compare", "internal/bytealg.IndexString"], unfollowed := true, recurses := true, named := ["colporteur/sha.start", "colporteur/sha.roots", "internal/strconv.uint64pow10", "math/bits.deBruijn32tab", "math/bits.deBruijn64tab", "unicode/utf8.first", "unicode/utf8.acceptRanges", "internal/bytealg.MaxLen"], plainKeys := false, apart := false, laid := [("math/bits.deBruijn32tab", laid_math_bits_deBruijn32tab), ("math/bits.deBruijn64tab", laid_math_bits_deBruijn64tab), ("colporteur/sha.start", laid_colporteur_sha_start), ("colporteur/sha.roots", laid_colporteur_sha_roots), ("internal/strconv.uint64pow10", laid_internal_strconv_uint64pow10), ("unicode/utf8.acceptRanges", laid_unicode_utf8_acceptRanges), ("unicode/utf8.first", laid_unicode_utf8_first)] }
def DeltaPartsSaid : Prop := deltaPartsRow.holds Tryz.pinned (OpenSpec.ofChange deltaPartsSpec)

/-- ITS FALSE NEIGHBOUR: 'it returns false'. Refute it at one input. -/
def deltaPartsWrong : ChangeSpec := { name := "deltaParts", fn := fun _ => fun
  | [d1, d2, d3] => { results := [.lit (.bool false)], args := [d1, d2, d3] }
  | _ => none }
def DeltaPartsWrongFalsely : Prop := deltaPartsRow.holds Tryz.pinned (OpenSpec.ofChange deltaPartsWrong)

/-- 'colporteurlaw9.DeltaSelf': WHATEVER THE INPUT: true; the input reads as it did. -/
def deltaSelfSpec : ChangeSpec := { name := "deltaSelf", fn := fun _ => fun
  | [d1, d2] => { results := [.lit (.bool true)], args := [d1, d2] }
  | _ => none }
def deltaSelfRow : OpenClaim := { program := "ytlfmooihcigolaagreatdoor", sum := "29c598dd8adf31042051879c4e38785572a44fe861163dd1db3069bed98fa7e8", func := "colporteur/colporteurlaw9.DeltaSelf", spec := "deltaSelf", inPlace := ["internal/abi.NoEscape", "internal/bytealg.MakeNoZero", "math.Float64bits", "math.Float64frombits", "internal/bytealg.IndexByteString", "internal/bytealg.Compare", "internal/bytealg.IndexString"], unfollowed := true, recurses := true, named := ["colporteur/sha.start", "colporteur/sha.roots", "internal/strconv.uint64pow10", "math/bits.deBruijn32tab", "math/bits.deBruijn64tab", "unicode/utf8.first", "unicode/utf8.acceptRanges", "internal/bytealg.MaxLen"], plainKeys := false, apart := false, laid := [("math/bits.deBruijn32tab", laid_math_bits_deBruijn32tab), ("math/bits.deBruijn64tab", laid_math_bits_deBruijn64tab), ("colporteur/sha.start", laid_colporteur_sha_start), ("colporteur/sha.roots", laid_colporteur_sha_roots), ("internal/strconv.uint64pow10", laid_internal_strconv_uint64pow10), ("unicode/utf8.acceptRanges", laid_unicode_utf8_acceptRanges), ("unicode/utf8.first", laid_unicode_utf8_first)] }
def DeltaSelfSaid : Prop := deltaSelfRow.holds Tryz.pinned (OpenSpec.ofChange deltaSelfSpec)

/-- ITS FALSE NEIGHBOUR: 'it returns false'. Refute it at one input. -/
def deltaSelfWrong : ChangeSpec := { name := "deltaSelf", fn := fun _ => fun
  | [d1, d2] => { results := [.lit (.bool false)], args := [d1, d2] }
  | _ => none }
def DeltaSelfWrongFalsely : Prop := deltaSelfRow.holds Tryz.pinned (OpenSpec.ofChange deltaSelfWrong)

/-- 'colporteurlaw9.PackMany': WHATEVER THE INPUT: true; the input reads as it did. -/
def packManySpec : ChangeSpec := { name := "packMany", fn := fun _ => fun
  | [d] => { results := [.lit (.bool true)], args := [d] }
  | _ => none }
def packManyRow : OpenClaim := { program := "ytlfmooihcigolaagreatdoor", sum := "29c598dd8adf31042051879c4e38785572a44fe861163dd1db3069bed98fa7e8", func := "colporteur/colporteurlaw9.PackMany", spec := "packMany", inPlace := ["internal/abi.NoEscape", "internal/bytealg.MakeNoZero", "math.Float64bits", "math.Float64frombits", "internal/bytealg.IndexByteString", "internal/bytealg.Compare", "internal/bytealg.IndexString"], unfollowed := true, recurses := true, named := ["colporteur/sha.start", "colporteur/sha.roots", "internal/strconv.uint64pow10", "math/bits.deBruijn32tab", "math/bits.deBruijn64tab", "unicode/utf8.first", "unicode/utf8.acceptRanges", "internal/bytealg.MaxLen"], plainKeys := false, apart := false, laid := [("math/bits.deBruijn32tab", laid_math_bits_deBruijn32tab), ("math/bits.deBruijn64tab", laid_math_bits_deBruijn64tab), ("colporteur/sha.start", laid_colporteur_sha_start), ("colporteur/sha.roots", laid_colporteur_sha_roots), ("internal/strconv.uint64pow10", laid_internal_strconv_uint64pow10), ("unicode/utf8.acceptRanges", laid_unicode_utf8_acceptRanges), ("unicode/utf8.first", laid_unicode_utf8_first)] }
def PackManySaid : Prop := packManyRow.holds Tryz.pinned (OpenSpec.ofChange packManySpec)

/-- ITS FALSE NEIGHBOUR: 'it returns false'. Refute it at one input. -/
def packManyWrong : ChangeSpec := { name := "packMany", fn := fun _ => fun
  | [d] => { results := [.lit (.bool false)], args := [d] }
  | _ => none }
def PackManyWrongFalsely : Prop := packManyRow.holds Tryz.pinned (OpenSpec.ofChange packManyWrong)

/-- 'colporteurlaw9.PackBehind': WHATEVER THE INPUT: true; the input reads as it did. -/
def packBehindSpec : ChangeSpec := { name := "packBehind", fn := fun _ => fun
  | [d1, d2] => { results := [.lit (.bool true)], args := [d1, d2] }
  | _ => none }
def packBehindRow : OpenClaim := { program := "ytlfmooihcigolaagreatdoor", sum := "29c598dd8adf31042051879c4e38785572a44fe861163dd1db3069bed98fa7e8", func := "colporteur/colporteurlaw9.PackBehind", spec := "packBehind", inPlace := ["internal/abi.NoEscape", "internal/bytealg.MakeNoZero", "math.Float64bits", "math.Float64frombits", "internal/bytealg.IndexByteString", "internal/bytealg.Compare", "internal/bytealg.IndexString"], unfollowed := true, recurses := true, named := ["colporteur/sha.start", "colporteur/sha.roots", "internal/strconv.uint64pow10", "math/bits.deBruijn32tab", "math/bits.deBruijn64tab", "unicode/utf8.first", "unicode/utf8.acceptRanges", "internal/bytealg.MaxLen"], plainKeys := false, apart := false, laid := [("math/bits.deBruijn32tab", laid_math_bits_deBruijn32tab), ("math/bits.deBruijn64tab", laid_math_bits_deBruijn64tab), ("colporteur/sha.start", laid_colporteur_sha_start), ("colporteur/sha.roots", laid_colporteur_sha_roots), ("internal/strconv.uint64pow10", laid_internal_strconv_uint64pow10), ("unicode/utf8.acceptRanges", laid_unicode_utf8_acceptRanges), ("unicode/utf8.first", laid_unicode_utf8_first)] }
def PackBehindSaid : Prop := packBehindRow.holds Tryz.pinned (OpenSpec.ofChange packBehindSpec)

/-- ITS FALSE NEIGHBOUR: 'it returns false'. Refute it at one input. -/
def packBehindWrong : ChangeSpec := { name := "packBehind", fn := fun _ => fun
  | [d1, d2] => { results := [.lit (.bool false)], args := [d1, d2] }
  | _ => none }
def PackBehindWrongFalsely : Prop := packBehindRow.holds Tryz.pinned (OpenSpec.ofChange packBehindWrong)

/-- 'colporteurlaw9.PackKind': WHATEVER THE INPUT: true; the input reads as it did. -/
def packKindSpec : ChangeSpec := { name := "packKind", fn := fun _ => fun
  | [d1, d2] => { results := [.lit (.bool true)], args := [d1, d2] }
  | _ => none }
def packKindRow : OpenClaim := { program := "ytlfmooihcigolaagreatdoor", sum := "29c598dd8adf31042051879c4e38785572a44fe861163dd1db3069bed98fa7e8", func := "colporteur/colporteurlaw9.PackKind", spec := "packKind", inPlace := ["internal/abi.NoEscape", "internal/bytealg.MakeNoZero", "math.Float64bits", "math.Float64frombits", "internal/bytealg.IndexByteString", "internal/bytealg.Compare", "internal/bytealg.IndexString"], unfollowed := true, recurses := true, named := ["colporteur/sha.start", "colporteur/sha.roots", "internal/strconv.uint64pow10", "math/bits.deBruijn32tab", "math/bits.deBruijn64tab", "unicode/utf8.first", "unicode/utf8.acceptRanges", "internal/bytealg.MaxLen"], plainKeys := false, apart := false, laid := [("math/bits.deBruijn32tab", laid_math_bits_deBruijn32tab), ("math/bits.deBruijn64tab", laid_math_bits_deBruijn64tab), ("colporteur/sha.start", laid_colporteur_sha_start), ("colporteur/sha.roots", laid_colporteur_sha_roots), ("internal/strconv.uint64pow10", laid_internal_strconv_uint64pow10), ("unicode/utf8.acceptRanges", laid_unicode_utf8_acceptRanges), ("unicode/utf8.first", laid_unicode_utf8_first)] }
def PackKindSaid : Prop := packKindRow.holds Tryz.pinned (OpenSpec.ofChange packKindSpec)

/-- ITS FALSE NEIGHBOUR: 'it returns false'. Refute it at one input. -/
def packKindWrong : ChangeSpec := { name := "packKind", fn := fun _ => fun
  | [d1, d2] => { results := [.lit (.bool false)], args := [d1, d2] }
  | _ => none }
def PackKindWrongFalsely : Prop := packKindRow.holds Tryz.pinned (OpenSpec.ofChange packKindWrong)

/-- 'colporteurlaw9.ThinSame': WHATEVER THE INPUT: true; the input reads as it did. -/
def thinSameSpec : ChangeSpec := { name := "thinSame", fn := fun _ => fun
  | [d] => { results := [.lit (.bool true)], args := [d] }
  | _ => none }
def thinSameRow : OpenClaim := { program := "ytlfmooihcigolaagreatdoor", sum := "29c598dd8adf31042051879c4e38785572a44fe861163dd1db3069bed98fa7e8", func := "colporteur/colporteurlaw9.ThinSame", spec := "thinSame", inPlace := ["internal/abi.NoEscape", "internal/bytealg.MakeNoZero", "math.Float64bits", "math.Float64frombits", "internal/bytealg.IndexByteString", "internal/bytealg.Compare", "internal/bytealg.IndexString"], unfollowed := true, recurses := true, named := ["colporteur/sha.start", "colporteur/sha.roots", "internal/strconv.uint64pow10", "math/bits.deBruijn32tab", "math/bits.deBruijn64tab", "unicode/utf8.first", "unicode/utf8.acceptRanges", "internal/bytealg.MaxLen"], plainKeys := false, apart := false, laid := [("math/bits.deBruijn32tab", laid_math_bits_deBruijn32tab), ("math/bits.deBruijn64tab", laid_math_bits_deBruijn64tab), ("colporteur/sha.start", laid_colporteur_sha_start), ("colporteur/sha.roots", laid_colporteur_sha_roots), ("internal/strconv.uint64pow10", laid_internal_strconv_uint64pow10), ("unicode/utf8.acceptRanges", laid_unicode_utf8_acceptRanges), ("unicode/utf8.first", laid_unicode_utf8_first)] }
def ThinSameSaid : Prop := thinSameRow.holds Tryz.pinned (OpenSpec.ofChange thinSameSpec)

/-- ITS FALSE NEIGHBOUR: 'it returns false'. Refute it at one input. -/
def thinSameWrong : ChangeSpec := { name := "thinSame", fn := fun _ => fun
  | [d] => { results := [.lit (.bool false)], args := [d] }
  | _ => none }
def ThinSameWrongFalsely : Prop := thinSameRow.holds Tryz.pinned (OpenSpec.ofChange thinSameWrong)

/- THE SECOND FORM. 'bulk': how many values and letters a reading holds, each counted each time it is reached (what is shared counts as often as it is met; a slice's spare places count too). A statement '..UptoSaid' is the law's where the arguments, and the package variables that the reading takes, are together of bulk at most 1048576: NARROWER than '..Said'. Prove '..Said' where nothing that the law and all that it calls make is longer than what came in: it says more and counts as full. Else prove '..UptoSaid'. A law counts once. -/
mutual
def uptoBulk {H : Type} : DataW H → Nat
  | .lit (.string bytes) => bytes.length + 1
  | .lit _ => 1
  | .nil => 1
  | .ptr d => uptoBulk d + 1
  | .slice elems spare => uptoBulkAll elems + uptoBulkAll spare + 1
  | .agg parts => uptoBulkAll parts + 1
  | .iface _ d => uptoBulk d + 1
  | .map entries => uptoBulkEntries entries + 1
  | .held _ => 1
def uptoBulkAll {H : Type} : List (DataW H) → Nat
  | [] => 0
  | d :: r => uptoBulk d + uptoBulkAll r
def uptoBulkEntries {H : Type} : List (Lit × DataW H) → Nat
  | [] => 0
  | x :: r => uptoBulkEntry x + uptoBulkEntries r
def uptoBulkEntry {H : Type} : Lit × DataW H → Nat
  | (.string bytes, d) => bytes.length + uptoBulk d + 1
  | (_, d) => uptoBulk d + 1
 end
def uptoSmall : (H : Type) → List (DataW H) → Bool := fun _ ds => decide (uptoBulkAll ds ≤ 1048576)
def OpenSpec.upto (s : _root_.Go.ChangeSpec) : _root_.Go.OpenSpec := { _root_.Go.OpenSpec.ofChange s with cond := some uptoSmall }

/-- 'colporteurlaw9.DeltaMake', WHERE WHAT IT READS IS OF BULK AT MOST 1048576: true; the input reads as it did. -/
def deltaMakeUptoRow : OpenClaim := { program := "ytlfmooihcigolaagreatdoor", sum := "29c598dd8adf31042051879c4e38785572a44fe861163dd1db3069bed98fa7e8", func := "colporteur/colporteurlaw9.DeltaMake", spec := "deltaMake", inPlace := ["internal/abi.NoEscape", "internal/bytealg.MakeNoZero", "math.Float64bits", "math.Float64frombits", "internal/bytealg.IndexByteString", "internal/bytealg.Compare", "internal/bytealg.IndexString"], unfollowed := true, recurses := true, named := ["colporteur/sha.start", "colporteur/sha.roots", "internal/strconv.uint64pow10", "math/bits.deBruijn32tab", "math/bits.deBruijn64tab", "unicode/utf8.first", "unicode/utf8.acceptRanges", "internal/bytealg.MaxLen"], plainKeys := false, apart := false, laid := [("math/bits.deBruijn32tab", laid_math_bits_deBruijn32tab), ("math/bits.deBruijn64tab", laid_math_bits_deBruijn64tab), ("colporteur/sha.start", laid_colporteur_sha_start), ("colporteur/sha.roots", laid_colporteur_sha_roots), ("internal/strconv.uint64pow10", laid_internal_strconv_uint64pow10), ("unicode/utf8.acceptRanges", laid_unicode_utf8_acceptRanges), ("unicode/utf8.first", laid_unicode_utf8_first)], narrowed := true }
def DeltaMakeUptoSaid : Prop := deltaMakeUptoRow.holds Tryz.pinned (OpenSpec.upto deltaMakeSpec)

/-- 'colporteurlaw9.PackLoop', WHERE WHAT IT READS IS OF BULK AT MOST 1048576: true; the input reads as it did. -/
def packLoopUptoRow : OpenClaim := { program := "ytlfmooihcigolaagreatdoor", sum := "29c598dd8adf31042051879c4e38785572a44fe861163dd1db3069bed98fa7e8", func := "colporteur/colporteurlaw9.PackLoop", spec := "packLoop", inPlace := ["internal/abi.NoEscape", "internal/bytealg.MakeNoZero", "math.Float64bits", "math.Float64frombits", "internal/bytealg.IndexByteString", "internal/bytealg.Compare", "internal/bytealg.IndexString"], unfollowed := true, recurses := true, named := ["colporteur/sha.start", "colporteur/sha.roots", "internal/strconv.uint64pow10", "math/bits.deBruijn32tab", "math/bits.deBruijn64tab", "unicode/utf8.first", "unicode/utf8.acceptRanges", "internal/bytealg.MaxLen"], plainKeys := false, apart := false, laid := [("math/bits.deBruijn32tab", laid_math_bits_deBruijn32tab), ("math/bits.deBruijn64tab", laid_math_bits_deBruijn64tab), ("colporteur/sha.start", laid_colporteur_sha_start), ("colporteur/sha.roots", laid_colporteur_sha_roots), ("internal/strconv.uint64pow10", laid_internal_strconv_uint64pow10), ("unicode/utf8.acceptRanges", laid_unicode_utf8_acceptRanges), ("unicode/utf8.first", laid_unicode_utf8_first)], narrowed := true }
def PackLoopUptoSaid : Prop := packLoopUptoRow.holds Tryz.pinned (OpenSpec.upto packLoopSpec)

/-- 'colporteurlaw9.ThinAll', WHERE WHAT IT READS IS OF BULK AT MOST 1048576: true; the input reads as it did. -/
def thinAllUptoRow : OpenClaim := { program := "ytlfmooihcigolaagreatdoor", sum := "29c598dd8adf31042051879c4e38785572a44fe861163dd1db3069bed98fa7e8", func := "colporteur/colporteurlaw9.ThinAll", spec := "thinAll", inPlace := ["internal/abi.NoEscape", "internal/bytealg.MakeNoZero", "math.Float64bits", "math.Float64frombits", "internal/bytealg.IndexByteString", "internal/bytealg.Compare", "internal/bytealg.IndexString"], unfollowed := true, recurses := true, named := ["colporteur/sha.start", "colporteur/sha.roots", "internal/strconv.uint64pow10", "math/bits.deBruijn32tab", "math/bits.deBruijn64tab", "unicode/utf8.first", "unicode/utf8.acceptRanges", "internal/bytealg.MaxLen"], plainKeys := false, apart := false, laid := [("math/bits.deBruijn32tab", laid_math_bits_deBruijn32tab), ("math/bits.deBruijn64tab", laid_math_bits_deBruijn64tab), ("colporteur/sha.start", laid_colporteur_sha_start), ("colporteur/sha.roots", laid_colporteur_sha_roots), ("internal/strconv.uint64pow10", laid_internal_strconv_uint64pow10), ("unicode/utf8.acceptRanges", laid_unicode_utf8_acceptRanges), ("unicode/utf8.first", laid_unicode_utf8_first)], narrowed := true }
def ThinAllUptoSaid : Prop := thinAllUptoRow.holds Tryz.pinned (OpenSpec.upto thinAllSpec)

/-- 'colporteurlaw9.PackNone', WHERE WHAT IT READS IS OF BULK AT MOST 1048576: true; the input reads as it did. -/
def packNoneUptoRow : OpenClaim := { program := "ytlfmooihcigolaagreatdoor", sum := "29c598dd8adf31042051879c4e38785572a44fe861163dd1db3069bed98fa7e8", func := "colporteur/colporteurlaw9.PackNone", spec := "packNone", inPlace := ["internal/abi.NoEscape", "math.Float64bits", "math.Float64frombits", "internal/bytealg.MakeNoZero", "internal/bytealg.IndexByteString", "internal/bytealg.Compare", "internal/bytealg.IndexString"], unfollowed := true, recurses := true, named := ["colporteur/sha.start", "colporteur/sha.roots", "internal/strconv.uint64pow10", "math/bits.deBruijn32tab", "math/bits.deBruijn64tab", "unicode/utf8.first", "unicode/utf8.acceptRanges", "internal/bytealg.MaxLen"], plainKeys := false, apart := false, laid := [("math/bits.deBruijn32tab", laid_math_bits_deBruijn32tab), ("math/bits.deBruijn64tab", laid_math_bits_deBruijn64tab), ("colporteur/sha.start", laid_colporteur_sha_start), ("colporteur/sha.roots", laid_colporteur_sha_roots), ("internal/strconv.uint64pow10", laid_internal_strconv_uint64pow10), ("unicode/utf8.acceptRanges", laid_unicode_utf8_acceptRanges), ("unicode/utf8.first", laid_unicode_utf8_first)], narrowed := true }
def PackNoneUptoSaid : Prop := packNoneUptoRow.holds Tryz.pinned (OpenSpec.upto packNoneSpec)

/-- 'colporteurlaw9.VaryEdges', WHERE WHAT IT READS IS OF BULK AT MOST 1048576: true; the input reads as it did. -/
def varyEdgesUptoRow : OpenClaim := { program := "ytlfmooihcigolaagreatdoor", sum := "29c598dd8adf31042051879c4e38785572a44fe861163dd1db3069bed98fa7e8", func := "colporteur/colporteurlaw9.VaryEdges", spec := "varyEdges", inPlace := ["internal/abi.NoEscape", "internal/bytealg.MakeNoZero", "math.Float64bits", "math.Float64frombits", "internal/bytealg.IndexByteString", "internal/bytealg.Compare", "internal/bytealg.IndexString"], unfollowed := true, recurses := true, named := ["colporteur/sha.start", "colporteur/sha.roots", "internal/strconv.uint64pow10", "math/bits.deBruijn32tab", "math/bits.deBruijn64tab", "unicode/utf8.first", "unicode/utf8.acceptRanges", "internal/bytealg.MaxLen"], plainKeys := false, apart := false, laid := [("math/bits.deBruijn32tab", laid_math_bits_deBruijn32tab), ("math/bits.deBruijn64tab", laid_math_bits_deBruijn64tab), ("colporteur/sha.start", laid_colporteur_sha_start), ("colporteur/sha.roots", laid_colporteur_sha_roots), ("internal/strconv.uint64pow10", laid_internal_strconv_uint64pow10), ("unicode/utf8.acceptRanges", laid_unicode_utf8_acceptRanges), ("unicode/utf8.first", laid_unicode_utf8_first)], narrowed := true }
def VaryEdgesUptoSaid : Prop := varyEdgesUptoRow.holds Tryz.pinned (OpenSpec.upto varyEdgesSpec)

/-- 'colporteurlaw9.DeltaParts', WHERE WHAT IT READS IS OF BULK AT MOST 1048576: true; the input reads as it did. -/
def deltaPartsUptoRow : OpenClaim := { program := "ytlfmooihcigolaagreatdoor", sum := "29c598dd8adf31042051879c4e38785572a44fe861163dd1db3069bed98fa7e8", func := "colporteur/colporteurlaw9.DeltaParts", spec := "deltaParts", inPlace := ["internal/abi.NoEscape", "internal/bytealg.MakeNoZero", "math.Float64bits", "math.Float64frombits", "internal/bytealg.IndexByteString", "internal/bytealg.Compare", "internal/bytealg.IndexString"], unfollowed := true, recurses := true, named := ["colporteur/sha.start", "colporteur/sha.roots", "internal/strconv.uint64pow10", "math/bits.deBruijn32tab", "math/bits.deBruijn64tab", "unicode/utf8.first", "unicode/utf8.acceptRanges", "internal/bytealg.MaxLen"], plainKeys := false, apart := false, laid := [("math/bits.deBruijn32tab", laid_math_bits_deBruijn32tab), ("math/bits.deBruijn64tab", laid_math_bits_deBruijn64tab), ("colporteur/sha.start", laid_colporteur_sha_start), ("colporteur/sha.roots", laid_colporteur_sha_roots), ("internal/strconv.uint64pow10", laid_internal_strconv_uint64pow10), ("unicode/utf8.acceptRanges", laid_unicode_utf8_acceptRanges), ("unicode/utf8.first", laid_unicode_utf8_first)], narrowed := true }
def DeltaPartsUptoSaid : Prop := deltaPartsUptoRow.holds Tryz.pinned (OpenSpec.upto deltaPartsSpec)

/-- 'colporteurlaw9.DeltaSelf', WHERE WHAT IT READS IS OF BULK AT MOST 1048576: true; the input reads as it did. -/
def deltaSelfUptoRow : OpenClaim := { program := "ytlfmooihcigolaagreatdoor", sum := "29c598dd8adf31042051879c4e38785572a44fe861163dd1db3069bed98fa7e8", func := "colporteur/colporteurlaw9.DeltaSelf", spec := "deltaSelf", inPlace := ["internal/abi.NoEscape", "internal/bytealg.MakeNoZero", "math.Float64bits", "math.Float64frombits", "internal/bytealg.IndexByteString", "internal/bytealg.Compare", "internal/bytealg.IndexString"], unfollowed := true, recurses := true, named := ["colporteur/sha.start", "colporteur/sha.roots", "internal/strconv.uint64pow10", "math/bits.deBruijn32tab", "math/bits.deBruijn64tab", "unicode/utf8.first", "unicode/utf8.acceptRanges", "internal/bytealg.MaxLen"], plainKeys := false, apart := false, laid := [("math/bits.deBruijn32tab", laid_math_bits_deBruijn32tab), ("math/bits.deBruijn64tab", laid_math_bits_deBruijn64tab), ("colporteur/sha.start", laid_colporteur_sha_start), ("colporteur/sha.roots", laid_colporteur_sha_roots), ("internal/strconv.uint64pow10", laid_internal_strconv_uint64pow10), ("unicode/utf8.acceptRanges", laid_unicode_utf8_acceptRanges), ("unicode/utf8.first", laid_unicode_utf8_first)], narrowed := true }
def DeltaSelfUptoSaid : Prop := deltaSelfUptoRow.holds Tryz.pinned (OpenSpec.upto deltaSelfSpec)

/-- 'colporteurlaw9.PackMany', WHERE WHAT IT READS IS OF BULK AT MOST 1048576: true; the input reads as it did. -/
def packManyUptoRow : OpenClaim := { program := "ytlfmooihcigolaagreatdoor", sum := "29c598dd8adf31042051879c4e38785572a44fe861163dd1db3069bed98fa7e8", func := "colporteur/colporteurlaw9.PackMany", spec := "packMany", inPlace := ["internal/abi.NoEscape", "internal/bytealg.MakeNoZero", "math.Float64bits", "math.Float64frombits", "internal/bytealg.IndexByteString", "internal/bytealg.Compare", "internal/bytealg.IndexString"], unfollowed := true, recurses := true, named := ["colporteur/sha.start", "colporteur/sha.roots", "internal/strconv.uint64pow10", "math/bits.deBruijn32tab", "math/bits.deBruijn64tab", "unicode/utf8.first", "unicode/utf8.acceptRanges", "internal/bytealg.MaxLen"], plainKeys := false, apart := false, laid := [("math/bits.deBruijn32tab", laid_math_bits_deBruijn32tab), ("math/bits.deBruijn64tab", laid_math_bits_deBruijn64tab), ("colporteur/sha.start", laid_colporteur_sha_start), ("colporteur/sha.roots", laid_colporteur_sha_roots), ("internal/strconv.uint64pow10", laid_internal_strconv_uint64pow10), ("unicode/utf8.acceptRanges", laid_unicode_utf8_acceptRanges), ("unicode/utf8.first", laid_unicode_utf8_first)], narrowed := true }
def PackManyUptoSaid : Prop := packManyUptoRow.holds Tryz.pinned (OpenSpec.upto packManySpec)

/-- 'colporteurlaw9.PackBehind', WHERE WHAT IT READS IS OF BULK AT MOST 1048576: true; the input reads as it did. -/
def packBehindUptoRow : OpenClaim := { program := "ytlfmooihcigolaagreatdoor", sum := "29c598dd8adf31042051879c4e38785572a44fe861163dd1db3069bed98fa7e8", func := "colporteur/colporteurlaw9.PackBehind", spec := "packBehind", inPlace := ["internal/abi.NoEscape", "internal/bytealg.MakeNoZero", "math.Float64bits", "math.Float64frombits", "internal/bytealg.IndexByteString", "internal/bytealg.Compare", "internal/bytealg.IndexString"], unfollowed := true, recurses := true, named := ["colporteur/sha.start", "colporteur/sha.roots", "internal/strconv.uint64pow10", "math/bits.deBruijn32tab", "math/bits.deBruijn64tab", "unicode/utf8.first", "unicode/utf8.acceptRanges", "internal/bytealg.MaxLen"], plainKeys := false, apart := false, laid := [("math/bits.deBruijn32tab", laid_math_bits_deBruijn32tab), ("math/bits.deBruijn64tab", laid_math_bits_deBruijn64tab), ("colporteur/sha.start", laid_colporteur_sha_start), ("colporteur/sha.roots", laid_colporteur_sha_roots), ("internal/strconv.uint64pow10", laid_internal_strconv_uint64pow10), ("unicode/utf8.acceptRanges", laid_unicode_utf8_acceptRanges), ("unicode/utf8.first", laid_unicode_utf8_first)], narrowed := true }
def PackBehindUptoSaid : Prop := packBehindUptoRow.holds Tryz.pinned (OpenSpec.upto packBehindSpec)

/-- 'colporteurlaw9.PackKind', WHERE WHAT IT READS IS OF BULK AT MOST 1048576: true; the input reads as it did. -/
def packKindUptoRow : OpenClaim := { program := "ytlfmooihcigolaagreatdoor", sum := "29c598dd8adf31042051879c4e38785572a44fe861163dd1db3069bed98fa7e8", func := "colporteur/colporteurlaw9.PackKind", spec := "packKind", inPlace := ["internal/abi.NoEscape", "internal/bytealg.MakeNoZero", "math.Float64bits", "math.Float64frombits", "internal/bytealg.IndexByteString", "internal/bytealg.Compare", "internal/bytealg.IndexString"], unfollowed := true, recurses := true, named := ["colporteur/sha.start", "colporteur/sha.roots", "internal/strconv.uint64pow10", "math/bits.deBruijn32tab", "math/bits.deBruijn64tab", "unicode/utf8.first", "unicode/utf8.acceptRanges", "internal/bytealg.MaxLen"], plainKeys := false, apart := false, laid := [("math/bits.deBruijn32tab", laid_math_bits_deBruijn32tab), ("math/bits.deBruijn64tab", laid_math_bits_deBruijn64tab), ("colporteur/sha.start", laid_colporteur_sha_start), ("colporteur/sha.roots", laid_colporteur_sha_roots), ("internal/strconv.uint64pow10", laid_internal_strconv_uint64pow10), ("unicode/utf8.acceptRanges", laid_unicode_utf8_acceptRanges), ("unicode/utf8.first", laid_unicode_utf8_first)], narrowed := true }
def PackKindUptoSaid : Prop := packKindUptoRow.holds Tryz.pinned (OpenSpec.upto packKindSpec)

/-- 'colporteurlaw9.ThinSame', WHERE WHAT IT READS IS OF BULK AT MOST 1048576: true; the input reads as it did. -/
def thinSameUptoRow : OpenClaim := { program := "ytlfmooihcigolaagreatdoor", sum := "29c598dd8adf31042051879c4e38785572a44fe861163dd1db3069bed98fa7e8", func := "colporteur/colporteurlaw9.ThinSame", spec := "thinSame", inPlace := ["internal/abi.NoEscape", "internal/bytealg.MakeNoZero", "math.Float64bits", "math.Float64frombits", "internal/bytealg.IndexByteString", "internal/bytealg.Compare", "internal/bytealg.IndexString"], unfollowed := true, recurses := true, named := ["colporteur/sha.start", "colporteur/sha.roots", "internal/strconv.uint64pow10", "math/bits.deBruijn32tab", "math/bits.deBruijn64tab", "unicode/utf8.first", "unicode/utf8.acceptRanges", "internal/bytealg.MaxLen"], plainKeys := false, apart := false, laid := [("math/bits.deBruijn32tab", laid_math_bits_deBruijn32tab), ("math/bits.deBruijn64tab", laid_math_bits_deBruijn64tab), ("colporteur/sha.start", laid_colporteur_sha_start), ("colporteur/sha.roots", laid_colporteur_sha_roots), ("internal/strconv.uint64pow10", laid_internal_strconv_uint64pow10), ("unicode/utf8.acceptRanges", laid_unicode_utf8_acceptRanges), ("unicode/utf8.first", laid_unicode_utf8_first)], narrowed := true }
def ThinSameUptoSaid : Prop := thinSameUptoRow.holds Tryz.pinned (OpenSpec.upto thinSameSpec)

end Rows
end Go.Proofs.YtlfmooihcigolaaGreatDoor

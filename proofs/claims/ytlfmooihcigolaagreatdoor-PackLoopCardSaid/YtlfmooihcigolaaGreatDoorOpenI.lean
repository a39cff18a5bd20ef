/-
  Names (arrays of 32 bytes) that a row hands over by value, opened.
-/
import Derived.Test.YtlfmooihcigolaaGreatDoorOpen
set_option maxRecDepth 100000
set_option maxHeartbeats 8000000
namespace Go.Proofs.YtlfmooihcigolaaGreatDoor.Door
open Go.RowKit Go.ChangeShapes Go.WideShapes Go.ChangeAt
theorem ceId:Tryz.prog.cellsOf 30 = 32:=by kernel_rfl
def byteOf:Value → UInt8
 | .int _ n=>UInt8.ofNat n.toNat
 | _=>0
section
variable {H:Type} {enc:TypeId × Value → H} {W:World} {base:Nat} {v:Value} {d:DataW H} {p:List MemPlace}
theorem id_of_cells {cs:List Value} {sp:Nat → Bool} {held:Bool} {fuel:Nat} {x:DataW H × List MemPlace} {b:Nat} (hf:DataW.trod enc Tryz.prog W b sp held fuel 30 cs = some x) :
  ∃ id:List UInt8,id.length = 32 ∧ cs = id.map Y:=by
 obtain ⟨xs,m,-,-,hl,hxl,hi⟩:=DataW.trod_array Tryz.underlying30 hf
 rw [ceId] at hl
 refine ⟨cs.map byteOf,by rw [List.length_map,hl],?_⟩
 apply List.ext_getElem
 ·simp
 intro i h1 h2
 have hi1:=hi i (by omega)
 rw [ce8,Nat.mul_one,List.getElem?_eq_getElem (by omega)] at hi1
 obtain ⟨n,hn,-,hwf⟩:=DataW.trod_int Tryz.underlying5 hi1
 have hc:cs[i] = .int .u8 n:=by
  rw [List.drop_eq_getElem_cons h1,List.take_succ_cons] at hn
  exact (List.cons.inj hn).1
 obtain ⟨b,rfl⟩:=wf_u8 hwf
 rw [List.getElem_map,List.getElem_map,hc]
 simp [byteOf,Y]
theorem open_id (hval:Value.okWide Tryz.prog W .any base 30 v) (h:DataW.Trod enc Tryz.prog W 0 (fun _=>true) true 30 v d p) :
  ∃ id:List UInt8,id.length = 32 ∧ v = .agg (id.map Y).toArray:=by
 simp only [Value.okWide,Tryz.underlying30] at hval
 obtain ⟨cs,rfl,-⟩:=hval
 obtain ⟨fuel,hf⟩:=h
 obtain ⟨id,hl,he⟩:=id_of_cells hf
 refine ⟨id,hl,?_⟩
 rw [← he]
 simp [Value.cells]
end
end Go.Proofs.YtlfmooihcigolaaGreatDoor.Door

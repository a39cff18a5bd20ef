/-
  Slices that a row hands over, opened.
-/
import Derived.Test.YtlfmooihcigolaaGreatDoorMau
set_option maxRecDepth 100000
set_option maxHeartbeats 8000000
namespace Go.Proofs.YtlfmooihcigolaaGreatDoor.Door
open Go.RowKit Go.ChangeShapes Go.WideShapes Go.ChangeAt
section
variable {H:Type} {enc:TypeId × Value → H} {W:World} {base:Nat} {v:Value} {d:DataW H} {p:List MemPlace}
theorem open_bytes (hval:Value.okWide Tryz.prog W .any base 63 v) (h:DataW.Trod enc Tryz.prog W 0 (fun _=>true) true 63 v d p) :
  ∃ A c bs,v = .slice A (List.length bs) c ∧ Arg W A c (bs.map Y):=by
 obtain ⟨a0,len,cap,rfl⟩:=okWide_slice Tryz.underlying63 hval
 obtain ⟨fuel,hf⟩:=h
 rcases open_ints Tryz.underlying63 Tryz.underlying5 ce8 hf with ⟨hcs,hx⟩ | ⟨a,len',cap',zs,hcs,_,hl,hm,hz,hx,hcell,hwz⟩
 ·simp [Value.cells] at hcs
  obtain ⟨rfl,rfl,rfl⟩:=hcs
  exact ⟨none,0,[],rfl,Nat.le_refl _,Nat.zero_le _,.inl ⟨rfl,rfl⟩⟩
 ·simp [Value.cells] at hcs
  obtain ⟨rfl,rfl,rfl⟩:=hcs
  simp only [if_true] at hz
  have hy:∀ z ∈ zs,.int .u8 z = Y (UInt8.ofNat z.toNat):=by
   intro z hz
   obtain ⟨b,rfl⟩:=wf_u8 (hwz z hz)
   simp [Y]
  refine ⟨some a,cap,(zs.take len).map fun z=>UInt8.ofNat z.toNat,by rw [List.length_map,List.length_take,Nat.min_eq_left (by omega)],?_,hm,.inr ⟨a,rfl,?_⟩⟩
  ·rw [List.length_map,List.length_map,List.length_take]; omega
  ·intro j u hu
   rw [List.map_map,List.getElem?_map,Option.map_eq_some_iff] at hu
   obtain ⟨z,hzj,rfl⟩:=hu
   rw [List.getElem?_take] at hzj
   split at hzj
   ·have hj:j < zs.length:=by
     rw [List.getElem?_eq_some_iff] at hzj
     exact hzj.1
    rw [hcell j hj]
    have e:zs.getD j 0 = z:=by simp [List.getD,hzj]
    rw [e]
    exact congrArg some (hy z (List.mem_of_getElem? hzj))
   ·cases hzj
end
end Go.Proofs.YtlfmooihcigolaaGreatDoor.Door

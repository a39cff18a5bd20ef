/-
  EqN, ObP, ComE, ObA.
-/
import Derived.Test.YtlfmooihcigolaaGreatDoorMaw
set_option maxRecDepth 100000
set_option maxHeartbeats 8000000
namespace Go.Proofs.YtlfmooihcigolaaGreatDoor
open Go.RowKit
instance:DecidableEq En:=fun a b=>
 if h:a.name = b.name ∧ a.dir = b.dir ∧ a.id = b.id then isTrue (by obtain ⟨h1,h2,h3⟩:=h; cases a; cases b; simp_all) else isFalse (fun e=>h (by rw [e]; exact ⟨rfl,rfl,rfl⟩))
theorem part_id (e:En) (w:World):(part 30 (encE e).toArray 2).run Tryz.prog w = .ok (.agg (encN e.id).toArray) w:=by
 have hagg:(isAgg 30).run Tryz.prog w = .ok true w:=Tryz.isAgg30 w
 have hl:List.take 32 (List.drop 2 (encE e)) = encN e.id:=by
  show (encN e.id).take 32 = encN e.id
  exact List.take_of_length_le (by rw [encN_len]; exact Nat.le_refl _)
 simp [part,hagg,Tryz.sizeOf30,encE_len]
 exact hl
theorem eqParts (x y:En):((x.name == y.name) && ((x.dir == y.dir) && decide (x.id.l = y.id.l))) = decide (x = y):=by
 rw [Bool.eq_iff_iff]
 simp only [Bool.and_eq_true,beq_iff_eq,decide_eq_true_eq]
 constructor
 ·rintro ⟨h1,h2,h3⟩
  have h3:=Nm.same h3
  cases x; cases y
  simp_all
 ·rintro rfl
  exact ⟨rfl,rfl,rfl⟩
theorem equalIn_en (x y:En) (w:World):(Op.equalIn 10000 156 (.agg (encE x).toArray) (.agg (encE y).toArray)).run Tryz.prog w = .ok (decide (x = y)) w:=by
 have hS:Tryz.prog.underlying 156 = some (.struct (Tryz.prog.fieldsOf 156)):=by kernel_rfl
 have hp:Tryz.prog.stoodInHeld 156 = false:=by kernel_rfl
 have p0:∀ (e:En) (w:World),(part 9 (encE e).toArray 0).run Tryz.prog w = .ok (.string ⟨e.name.toArray⟩) w:=by
  intro e w
  have hagg:(isAgg 9).run Tryz.prog w = .ok false w:=by unfold isAgg; rw [Sem.run_bind,run_underlying Tryz.underlying9 w]; rfl
  have h0:(encE e).toArray[0]? = some (.string ⟨e.name.toArray⟩):=rfl
  simp [part,hagg,h0]
 have p1:∀ (e:En) (w:World),(part 4 (encE e).toArray 1).run Tryz.prog w = .ok (.bool e.dir) w:=by
  intro e w
  have hagg:(isAgg 4).run Tryz.prog w = .ok false w:=by unfold isAgg; rw [Sem.run_bind,run_underlying Tryz.underlying4 w]; rfl
  have h0:(encE e).toArray[1]? = some (.bool e.dir):=rfl
  simp [part,hagg,h0]
 have q0:(Op.equalIn 9999 9 (.string ⟨x.name.toArray⟩) (.string ⟨y.name.toArray⟩)).run Tryz.prog w = .ok (x.name == y.name) w:=by
  have:=run_equalIn_string (P:=Tryz.prog) w 9998 9 ⟨x.name.toArray⟩ ⟨y.name.toArray⟩ Tryz.underlying9
  rw [this]
  simp [ByteArray.toList_eq]
 have q1:(Op.equalIn 9999 4 (.bool x.dir) (.bool y.dir)).run Tryz.prog w = .ok (x.dir == y.dir) w:=run_equalIn_bool' (P:=Tryz.prog) w 9998 4 x.dir y.dir Tryz.underlying4
 have q2:=equalIn_bytes 30 32 9997 Tryz.underlying30 x.id.l y.id.l x.id.h y.id.h w
 rw [show (10000:Nat) = 9999 + 1 from rfl,run_equalIn_agg (P:=Tryz.prog) w 9999 156 _ _ hS hp,← eqParts]
 simp only [Program.fieldsOf,Tryz.underlying156]
 generalize (x.name == y.name) = b0 at *
 generalize (x.dir == y.dir) = b1 at *
 have q2:(Op.equalIn 9999 30 (.agg (encN x.id).toArray) (.agg (encN y.id).toArray)).run Tryz.prog w = .ok (decide (x.id.l = y.id.l)) w:=q2
 generalize decide (x.id.l = y.id.l) = b2 at *
 cases b0 <;> cases b1 <;> cases b2 <;> simp [Op.eqFields,Sem.run_bind,p0,p1,part_id,q0,q1,q2]
theorem neq_en (x y:En) (w:World):(binOp .neq 156 (.agg (encE x).toArray) (.agg (encE y).toArray)).run Tryz.prog w = .ok (.bool (!decide (x = y))) w:=by
 rw [run_neq_struct (P:=Tryz.prog) w,equalIn_en x y w]
 rfl
theorem eql_en (x y:En) (w:World):(binOp .eql 156 (.agg (encE x).toArray) (.agg (encE y).toArray)).run Tryz.prog w = .ok (.bool (decide (x = y))) w:=by
 rw [run_eql_struct (P:=Tryz.prog) w,equalIn_en x y w]
 rfl
theorem eqnm_at (a b:List Nm) (k:Nat) (h1:k < a.length) (h2:k < b.length) (h:a.take k = b.take k):(a.getD k default = b.getD k default ↔ a.take (k + 1) = b.take (k + 1)):=by
 have e1:a.getD k default = a[k]:=by simp [List.getD,List.getElem?_eq_getElem h1]
 have e2:b.getD k default = b[k]:=by simp [List.getD,List.getElem?_eq_getElem h2]
 rw [List.take_succ_eq_append_getElem h1,List.take_succ_eq_append_getElem h2,h,e1,e2]
 constructor
 ·intro e
  rw [e]
 ·intro e
  have:=List.append_cancel_left e
  injection this
theorem eqnm_any (A:Option Addr) (c:Nat) (A2:Option Addr) (c2:Nat) (a b:List Nm) (w:World) (hA:ArgN w A c a) (hA2:ArgN w A2 c2 b) :
  Calls Tryz.prog 202 #[.slice A a.length c,.slice A2 b.length c2] w fun e w'=>e = .returned (.bool (decide (a = b))) ∧ ∃ q,w' = w.drewN q:=by
 have HA:=Hy hA
 have HA2:=Hy hA2
 have hlc:=hA.1
 have hlc2:=hA2.1
 have hcm:=hA.2.1
 have hcm2:=hA2.2.1
 unfold maxLen at hcm hcm2
 clear hA hA2
 by_cases hll:a.length = b.length
 case neg=>
  have hd:(((a.length:Int) != (b.length:Int))) = true:=by simp; omega
  have HF:Hid (decide (a = b) = false):=by show _ = _; exact decide_eq_false (fun e=>hll (by rw [e]))
  clear hll
  go_enter Tryz.func202,Tryz.ntmps202
  go_wp2
  go_ret
  exact ⟨by rw [HF.out]; rfl,0,rfl⟩
 have hd:(((a.length:Int) != (b.length:Int))) = false:=by simp; omega
 have HLL:=Hy hll
 clear hll
 go_enter Tryz.func202,Tryz.ntmps202
 go_wp2
 go_loopg [5,13] a.length (fun g _ s13 wr=>∃ k q:Nat,k ≤ a.length ∧ a.length - k ≤ g ∧ s13 = .int .i64 k ∧ Hid (wr = w.drewN q) ∧ Hid (a.take k = b.take k))
 case atStart=>exact ⟨0,0,Nat.zero_le _,by omega,rfl,Hy rfl,Hy rfl⟩
 case round=>
  obtain ⟨k,q,hk,hg,rfl,hwr,htk⟩:=hrel
  by_cases hlt:k < a.length
  ·have hlt':(k:Int) < (a.length:Int):=by omega
   have hlt2:k < b.length:=by have:=HLL.out; omega
   have hlt3:(k:Int) < (b.length:Int):=by omega
   obtain ⟨bb,o,rfl,hr⟩:=HA.out.2.2.2 (by omega)
   obtain ⟨bb2,o2,rfl,hr2⟩:=HA2.out.2.2.2 (by omega)
   have hrk:=hr k hlt
   have hrk2:=hr2 k hlt2
   have HAT:=Hy (eqnm_at a b k hlt hlt2 htk.out)
   obtain ⟨y,hy⟩:∃ y,y = a.getD k default:=⟨_,rfl⟩
   obtain ⟨z,hz⟩:∃ z,z = b.getD k default:=⟨_,rfl⟩
   rw [← hy] at hrk HAT
   rw [← hz] at hrk2 HAT
   have HLX:Hid (∀ W,(∃ n,W = wr.drewN n) → W.rangeAt bb (o + k * 32) (encN y)):=by rintro W ⟨n,rfl⟩; rw [hwr.out]; exact hrk
   have HLY:Hid (∀ W,(∃ n,W = wr.drewN n) → W.rangeAt bb2 (o2 + k * 32) (encN z)):=by rintro W ⟨n,rfl⟩; rw [hwr.out]; exact hrk2
   have hneq:=neq_nm y z
   have HYI:=Hy (infoX y)
   have HZI:=Hy (infoX z)
   clear hy hz hr hrk hr2 hrk2
   cases hq:decide (y = z) with
   | true=>
    rw [hq] at hneq
    have HN:Hid (a.take (k + 1) = b.take (k + 1)):=HAT.out.1 (by simpa using hq)
    clear hq
    go_wp2_with fail
    refine wp_region_quiet_lit (by kernel_rfl) (by kernel_rfl) ?_
    repeat (first
     | go_big_quiet_step (fail)
     | (refine q_loadm _ _ rfl (by rfl) bb (o + k * 32) (encN y) rfl _ Tryz.underlying30 rfl HYI.out HLX.out ?_; simp only [Act.put]; go_simp)
     | (refine q_loadm _ _ rfl (by rfl) bb2 (o2 + k * 32) (encN z) rfl _ Tryz.underlying30 rfl HZI.out HLY.out ?_; simp only [Act.put]; go_simp))
    refine wpQuiet_nil ?_
    intro nq
    go_wp2
    go_roundg (a.length - (k + 1))
    case measure=>omega
    case rel=>
     refine ⟨k + 1,q + nq,by omega,by omega,by go_num,Hy ?_,HN⟩
     rw [hwr.out,World.drewN_drewN]
   | false=>
    rw [hq] at hneq
    have HF:Hid (decide (a = b) = false):=by
     show _ = _
     refine decide_eq_false (fun e=>?_)
     have h9:=HAT.out.2 (by rw [e])
     simp [h9] at hq
    clear hq
    go_wp2_with fail
    refine wp_region_quiet_lit (by kernel_rfl) (by kernel_rfl) ?_
    repeat (first
     | go_big_quiet_step (fail)
     | (refine q_loadm _ _ rfl (by rfl) bb (o + k * 32) (encN y) rfl _ Tryz.underlying30 rfl HYI.out HLX.out ?_; simp only [Act.put]; go_simp)
     | (refine q_loadm _ _ rfl (by rfl) bb2 (o2 + k * 32) (encN z) rfl _ Tryz.underlying30 rfl HZI.out HLY.out ?_; simp only [Act.put]; go_simp))
    refine wpQuiet_nil ?_
    intro nq
    go_wp2
    go_ret
    refine ⟨by rw [HF.out]; rfl,q + nq,?_⟩
    rw [hwr.out,World.drewN_drewN]
  ·have hk2:k = a.length:=by omega
   have HT:Hid (decide (a = b) = true):=by
    show _ = _
    refine decide_eq_true ?_
    have h9:=htk.out
    rw [hk2,List.take_length,HLL.out,List.take_length] at h9
    exact h9
   clear htk
   subst hk2
   go_wp2
   go_ret
   exact ⟨by rw [HT.out]; rfl,q,hwr.out⟩
theorem eqen_at (a b:List En) (k:Nat) (h1:k < a.length) (h2:k < b.length) (h:a.take k = b.take k):(a.getD k default = b.getD k default ↔ a.take (k + 1) = b.take (k + 1)):=by
 have e1:a.getD k default = a[k]:=by simp [List.getD,List.getElem?_eq_getElem h1]
 have e2:b.getD k default = b[k]:=by simp [List.getD,List.getElem?_eq_getElem h2]
 rw [List.take_succ_eq_append_getElem h1,List.take_succ_eq_append_getElem h2,h,e1,e2]
 constructor
 ·intro e
  rw [e]
 ·intro e
  have:=List.append_cancel_left e
  injection this
theorem eqen_any (A:Option Addr) (c:Nat) (A2:Option Addr) (c2:Nat) (a b:List En) (w:World) (hA:ArgE w A c a) (hA2:ArgE w A2 c2 b) :
  Calls Tryz.prog 204 #[.slice A a.length c,.slice A2 b.length c2] w fun e w'=>e = .returned (.bool (decide (a = b))) ∧ ∃ q,w' = w.drewN q:=by
 have HA:=Hy hA
 have HA2:=Hy hA2
 have hlc:=hA.1
 have hlc2:=hA2.1
 have hcm:=hA.2.1
 have hcm2:=hA2.2.1
 unfold maxLen at hcm hcm2
 clear hA hA2
 by_cases hll:a.length = b.length
 case neg=>
  have hd:(((a.length:Int) != (b.length:Int))) = true:=by simp; omega
  have HF:Hid (decide (a = b) = false):=by show _ = _; exact decide_eq_false (fun e=>hll (by rw [e]))
  clear hll
  go_enter Tryz.func204,Tryz.ntmps204
  go_wp2
  go_ret
  exact ⟨by rw [HF.out]; rfl,0,rfl⟩
 have hd:(((a.length:Int) != (b.length:Int))) = false:=by simp; omega
 have HLL:=Hy hll
 clear hll
 go_enter Tryz.func204,Tryz.ntmps204
 go_wp2
 go_loopg [5,13] a.length (fun g _ s13 wr=>∃ k q:Nat,k ≤ a.length ∧ a.length - k ≤ g ∧ s13 = .int .i64 k ∧ Hid (wr = w.drewN q) ∧ Hid (a.take k = b.take k))
 case atStart=>exact ⟨0,0,Nat.zero_le _,by omega,rfl,Hy rfl,Hy rfl⟩
 case round=>
  obtain ⟨k,q,hk,hg,rfl,hwr,htk⟩:=hrel
  by_cases hlt:k < a.length
  ·have hlt':(k:Int) < (a.length:Int):=by omega
   have hlt2:k < b.length:=by have:=HLL.out; omega
   have hlt3:(k:Int) < (b.length:Int):=by omega
   obtain ⟨bb,o,rfl,hr⟩:=HA.out.2.2.2 (by omega)
   obtain ⟨bb2,o2,rfl,hr2⟩:=HA2.out.2.2.2 (by omega)
   have hrk:=hr k hlt
   have hrk2:=hr2 k hlt2
   have HAT:=Hy (eqen_at a b k hlt hlt2 htk.out)
   obtain ⟨y,hy⟩:∃ y,y = a.getD k default:=⟨_,rfl⟩
   obtain ⟨z,hz⟩:∃ z,z = b.getD k default:=⟨_,rfl⟩
   rw [← hy] at hrk HAT
   rw [← hz] at hrk2 HAT
   have HLX:Hid (∀ W,(∃ n,W = wr.drewN n) → W.rangeAt bb (o + k * 34) (encE y)):=by rintro W ⟨n,rfl⟩; rw [hwr.out]; exact hrk
   have HLY:Hid (∀ W,(∃ n,W = wr.drewN n) → W.rangeAt bb2 (o2 + k * 34) (encE z)):=by rintro W ⟨n,rfl⟩; rw [hwr.out]; exact hrk2
   have hneq:=neq_en y z
   have HYI:=Hy (infoE_l y)
   have HZI:=Hy (infoE_l z)
   clear hy hz hr hrk hr2 hrk2
   cases hq:decide (y = z) with
   | true=>
    rw [hq] at hneq
    have HN:Hid (a.take (k + 1) = b.take (k + 1)):=HAT.out.1 (by simpa using hq)
    clear hq
    go_wp2_with fail
    refine wp_region_quiet_lit (by kernel_rfl) (by kernel_rfl) ?_
    repeat (first
     | go_big_quiet_step (fail)
     | (refine q_loadm _ _ rfl (by rfl) bb (o + k * 34) (encE y) rfl _ Tryz.underlying156 rfl HYI.out HLX.out ?_; simp only [Act.put]; go_simp)
     | (refine q_loadm _ _ rfl (by rfl) bb2 (o2 + k * 34) (encE z) rfl _ Tryz.underlying156 rfl HZI.out HLY.out ?_; simp only [Act.put]; go_simp))
    refine wpQuiet_nil ?_
    intro nq
    go_wp2
    go_roundg (a.length - (k + 1))
    case measure=>omega
    case rel=>
     refine ⟨k + 1,q + nq,by omega,by omega,by go_num,Hy ?_,HN⟩
     rw [hwr.out,World.drewN_drewN]
   | false=>
    rw [hq] at hneq
    have HF:Hid (decide (a = b) = false):=by
     show _ = _
     refine decide_eq_false (fun e=>?_)
     have h9:=HAT.out.2 (by rw [e])
     simp [h9] at hq
    clear hq
    go_wp2_with fail
    refine wp_region_quiet_lit (by kernel_rfl) (by kernel_rfl) ?_
    repeat (first
     | go_big_quiet_step (fail)
     | (refine q_loadm _ _ rfl (by rfl) bb (o + k * 34) (encE y) rfl _ Tryz.underlying156 rfl HYI.out HLX.out ?_; simp only [Act.put]; go_simp)
     | (refine q_loadm _ _ rfl (by rfl) bb2 (o2 + k * 34) (encE z) rfl _ Tryz.underlying156 rfl HZI.out HLY.out ?_; simp only [Act.put]; go_simp))
    refine wpQuiet_nil ?_
    intro nq
    go_wp2
    go_ret
    refine ⟨by rw [HF.out]; rfl,q + nq,?_⟩
    rw [hwr.out,World.drewN_drewN]
  ·have hk2:k = a.length:=by omega
   have HT:Hid (decide (a = b) = true):=by
    show _ = _
    refine decide_eq_true ?_
    have h9:=htk.out
    rw [hk2,List.take_length,HLL.out,List.take_length] at h9
    exact h9
   clear htk
   subst hk2
   go_wp2
   go_ret
   exact ⟨by rw [HT.out]; rfl,q,hwr.out⟩
def eqC (a b:Cm):Bool:=decide (a.tree = b.tree) && decide (a.parents = b.parents) && (bitsV a.time == bitsV b.time) && (a.note == b.note)
def eqO (a b:Ob):Bool:=decide (a.kind = b.kind) && (a.blob == b.blob) && decide (a.entries = b.entries) && eqC a.commit b.commit
def bodyO (x:Ob):Bool:=if x.kind = 1 then decide (x.blob.length ≤ 1000) else if x.kind = 2 then mayT x.entries else if x.kind = 3 then mayC x.commit else false
def bareO (x:Ob):Ob:=if x.kind = 1 then ⟨x.kind,x.blob,[],noC⟩ else if x.kind = 2 then ⟨x.kind,[],x.entries,noC⟩ else if x.kind = 3 then ⟨x.kind,[],[],x.commit⟩ else ⟨x.kind,[],[],noC⟩
def mayO' (x:Ob):Bool:=bodyO x && eqO x (bareO x)
def bytesO (x:Ob):List UInt8:=if x.kind = 2 then encT x.entries else if x.kind = 3 then bytesC x.commit else x.blob
theorem eqC_refl (a:Cm):eqC a a = true:=by simp [eqC]
theorem encC_tree (A:Option Addr) (c:Nat) (x:Cm) {w:World} {g:Nat} {t:TypeId} (h:Whole w g t (encC A c x).toArray):w.rangeAt g 0 (encN x.tree):=by
 intro j v hv
 have hj:=(List.getElem?_eq_some_iff.1 hv).1
 rw [Nat.zero_add,h.at_,List.getElem?_toArray,encC,List.getElem?_append_left hj]
 exact hv
theorem ceq_any (A:Option Addr) (c:Nat) (A2:Option Addr) (c2:Nat) (x y:Cm) (w:World) (hA:ArgN w A c x.parents) (hA2:ArgN w A2 c2 y.parents) :
  Calls Tryz.prog 155 #[.agg (encC A c x).toArray,.agg (encC A2 c2 y).toArray] w fun e w'=>e = .returned (.bool (eqC x y)) ∧ Below w.heap.size w w':=by
 have hB:=((Below.refl w.heap.size w).alloc (Nat.le_refl _) (.cells (encC A c x).toArray 47)).alloc (by simp) (.cells (encC A2 c2 y).toArray 47)
 have hW1:=Whole.past (Whole.made w 47 (encC A c x).toArray) (.cells (encC A2 c2 y).toArray 47)
 have hW2:=Whole.made (w.alloc (.cells (encC A c x).toArray 47)) 47 (encC A2 c2 y).toArray
 have hs0:(w.alloc (.cells (encC A c x).toArray 47)).heap.size = w.heap.size + 1:=by simp
 rw [hs0] at hW2
 clear hs0
 have HA:=Hy (hA.later hB)
 have HA2:=Hy (hA2.later hB)
 have HQ:Hid (eqC x y = (decide (x.tree = y.tree) && decide (x.parents = y.parents) && (bitsV x.time == bitsV y.time) && (x.note == y.note))):=rfl
 have e32:=encC_32 A c x
 have e33:=encC_33 A c x
 have e34:=encC_34 A c x
 have f32:=encC_32 A2 c2 y
 have f33:=encC_33 A2 c2 y
 have f34:=encC_34 A2 c2 y
 have HTX:=Hy (encC_tree A c x hW1)
 have HTY:=Hy (encC_tree A2 c2 y hW2)
 have heq:=eql_nm x.tree y.tree
 have HBX:=Hy (fun W=>bits_any x.time W)
 have HBY:=Hy (fun W=>bits_any y.time W)
 have HXI:=Hy (infoX x.tree)
 have HYI:=Hy (infoX y.tree)
 clear hA hA2
 generalize (encC A c x).toArray = cs at *
 generalize (encC A2 c2 y).toArray = ds at *
 generalize hw0:(w.alloc (.cells cs 47)).alloc (.cells ds 47) = w0 at *
 have c32:w0.cell? ⟨w.heap.size,32,none⟩ = some (.slice A x.parents.length c):=(hW1.at_ 32).trans e32
 have c33:w0.cell? ⟨w.heap.size,33,none⟩ = some (.float .f64 x.time):=(hW1.at_ 33).trans e33
 have c34:w0.cell? ⟨w.heap.size,34,none⟩ = some (.string ⟨x.note.toArray⟩):=(hW1.at_ 34).trans e34
 have d32:w0.cell? ⟨w.heap.size + 1,32,none⟩ = some (.slice A2 y.parents.length c2):=(hW2.at_ 32).trans f32
 have d33:w0.cell? ⟨w.heap.size + 1,33,none⟩ = some (.float .f64 y.time):=(hW2.at_ 33).trans f33
 have d34:w0.cell? ⟨w.heap.size + 1,34,none⟩ = some (.string ⟨y.note.toArray⟩):=(hW2.at_ 34).trans f34
 have HB:=Hy hB
 have HPE:Hid (∀ n,Calls Tryz.prog 202 #[.slice A x.parents.length c,.slice A2 y.parents.length c2] (w0.drewN n) fun e w'=>e = .returned (.bool (decide (x.parents = y.parents))) ∧ ∃ q,w' = (w0.drewN n).drewN q):=
  fun n=>eqnm_any A c A2 c2 x.parents y.parents (w0.drewN n) (HA.out.later (be_drewN (Below.refl _ _) n)) (HA2.out.later (be_drewN (Below.refl _ _) n))
 have HLX:Hid (∀ W,(∃ n,W = w0.drewN n) → W.rangeAt w.heap.size 0 (encN x.tree)):=by rintro W ⟨n,rfl⟩; exact HTX.out
 have HLY:Hid (∀ W,(∃ n,W = w0.drewN n) → W.rangeAt (w.heap.size + 1) 0 (encN y.tree)):=by rintro W ⟨n,rfl⟩; exact HTY.out
 clear hB hW1 hW2 e32 e33 e34 f32 f33 f34 HA HA2 HTX HTY
 have hbits:((bitsV x.time:Int) == (bitsV y.time:Int)) = (bitsV x.time == bitsV y.time):=by
  rw [Bool.eq_iff_iff]
  simp only [beq_iff_eq]
  omega
 generalize (bitsV x.time == bitsV y.time) = b3 at *
 generalize decide (x.parents = y.parents) = b2 at *
 generalize decide (x.tree = y.tree) = b1 at *
 generalize encN x.tree = tx at *
 generalize encN y.tree = ty at *
 generalize bitsV x.time = vx at *
 generalize bitsV y.time = vy at *
 generalize x.time = timx at *
 generalize y.time = timy at *
 generalize x.parents.length = px at *
 generalize y.parents.length = py at *
 generalize x.note = nx at *
 generalize y.note = ny at *
 cases b1
 ·skip
  go_enter Tryz.func155,Tryz.ntmps155
  go_wp2_with fail
  refine wp_region_quiet_lit (by kernel_rfl) (by kernel_rfl) ?_
  repeat (first
   | go_big_quiet_step ((first
    | (go_at_call 202; exact q_draw (HPE.out _))
    | (go_at_call_of 203 (Value.float FloatKind.f64 timx); exact q_left (HBX.out _))
    | (go_at_call_of 203 (Value.float FloatKind.f64 timy); exact q_left (HBY.out _))))
   | (refine q_loadm _ _ rfl (by rfl) w.heap.size 0 tx rfl _ Tryz.underlying30 rfl HXI.out HLX.out ?_; simp only [Act.put]; go_simp)
   | (refine q_loadm _ _ rfl (by rfl) (w.heap.size + 1) 0 ty rfl _ Tryz.underlying30 rfl HYI.out HLY.out ?_; simp only [Act.put]; go_simp))
  refine wpQuiet_nil ?_
  intro n
  go_wp2
  go_ret
  exact ⟨by rw [HQ.out]; rfl,be_drewN HB.out n⟩
 ·cases b2
  ·skip
   go_enter Tryz.func155,Tryz.ntmps155
   go_wp2_with fail
   refine wp_region_quiet_lit (by kernel_rfl) (by kernel_rfl) ?_
   repeat (first
    | go_big_quiet_step ((first
     | (go_at_call 202; exact q_draw (HPE.out _))
     | (go_at_call_of 203 (Value.float FloatKind.f64 timx); exact q_left (HBX.out _))
     | (go_at_call_of 203 (Value.float FloatKind.f64 timy); exact q_left (HBY.out _))))
    | (refine q_loadm _ _ rfl (by rfl) w.heap.size 0 tx rfl _ Tryz.underlying30 rfl HXI.out HLX.out ?_; simp only [Act.put]; go_simp)
    | (refine q_loadm _ _ rfl (by rfl) (w.heap.size + 1) 0 ty rfl _ Tryz.underlying30 rfl HYI.out HLY.out ?_; simp only [Act.put]; go_simp))
   refine wpQuiet_nil ?_
   intro n
   go_wp2
   go_ret
   exact ⟨by rw [HQ.out]; rfl,be_drewN HB.out n⟩
  ·cases b3
   ·skip
    go_enter Tryz.func155,Tryz.ntmps155
    go_wp2_with fail
    refine wp_region_quiet_lit (by kernel_rfl) (by kernel_rfl) ?_
    repeat (first
     | go_big_quiet_step ((first
      | (go_at_call 202; exact q_draw (HPE.out _))
      | (go_at_call_of 203 (Value.float FloatKind.f64 timx); exact q_left (HBX.out _))
      | (go_at_call_of 203 (Value.float FloatKind.f64 timy); exact q_left (HBY.out _))))
     | (refine q_loadm _ _ rfl (by rfl) w.heap.size 0 tx rfl _ Tryz.underlying30 rfl HXI.out HLX.out ?_; simp only [Act.put]; go_simp)
     | (refine q_loadm _ _ rfl (by rfl) (w.heap.size + 1) 0 ty rfl _ Tryz.underlying30 rfl HYI.out HLY.out ?_; simp only [Act.put]; go_simp))
    refine wpQuiet_nil ?_
    intro n
    go_wp2
    go_ret
    exact ⟨by rw [HQ.out]; rfl,be_drewN HB.out n⟩
   ·skip
    go_enter Tryz.func155,Tryz.ntmps155
    go_wp2_with fail
    refine wp_region_quiet_lit (by kernel_rfl) (by kernel_rfl) ?_
    repeat (first
     | go_big_quiet_step ((first
      | (go_at_call 202; exact q_draw (HPE.out _))
      | (go_at_call_of 203 (Value.float FloatKind.f64 timx); exact q_left (HBX.out _))
      | (go_at_call_of 203 (Value.float FloatKind.f64 timy); exact q_left (HBY.out _))))
     | (refine q_loadm _ _ rfl (by rfl) w.heap.size 0 tx rfl _ Tryz.underlying30 rfl HXI.out HLX.out ?_; simp only [Act.put]; go_simp)
     | (refine q_loadm _ _ rfl (by rfl) (w.heap.size + 1) 0 ty rfl _ Tryz.underlying30 rfl HYI.out HLY.out ?_; simp only [Act.put]; go_simp))
    refine wpQuiet_nil ?_
    intro n
    go_wp2
    go_ret
    exact ⟨by rw [HQ.out]; rfl,be_drewN HB.out n⟩
section
open Go.RowKit
theorem wpList_load_mid_on {P:Program} {ops:Array Oper} {rest:List Oper} {op:Oper} {a:Act} {w:World} {Q:Exit → Act → World → Prop} (ty:TypeId) (x:Operand) (ho:op.op = .load ty x)
  (b o:Nat) (hx:a.eval x = .pointer (some ⟨b,o,none⟩)) (hwant:Region.wanted op (yielded ops a.tmps) = true) (cs:List Value) (d:TypeDesc) (hc:w.rangeAt b o cs)
  (hu:P.underlying ty = some d) (hd:d.isRow = true) (hi:(P.info? ty).map (·.size) = some cs.length)
  (h:wpList P ops Q rest (a.put op.dst (.agg cs.toArray)) w):wpList P ops Q (op :: rest) a w:=by
 unfold wpList
 rw [if_pos hwant]
 exact .inl (wp_load_mid ty x ho b o hx cs d hc hu hd hi h)
section
variable (A : Option Addr) (c : Nat) (A2 : Option Addr) (c2 : Nat) (x : Ob)
theorem encO_0:(encO A c A2 c2 x).toArray[0]? = some (.int .i64 x.kind):=rfl
theorem encO_1:(encO A c A2 c2 x).toArray[1]? = some (.string ⟨x.blob.toArray⟩):=rfl
theorem encO_2:(encO A c A2 c2 x).toArray[2]? = some (.slice A x.entries.length c):=rfl
theorem encO_drop:(encO A c A2 c2 x).drop 3 = encC A2 c2 x.commit:=rfl
theorem encO_s:(encO A c A2 c2 x).toArray.size = 38:=by rw [List.size_toArray,encO_len]
theorem encO_one:∀ v ∈ encO A c A2 c2 x,v.oneCell' = true:=by
 intro v hv
 simp only [encO,List.mem_append,List.mem_cons,List.not_mem_nil,or_false] at hv
 rcases hv with (rfl | rfl | rfl) | hv
 ·rfl
 ·rfl
 ·rfl
 ·exact encC_one _ _ _ v hv
theorem encO_all:(encO A c A2 c2 x).toArray.all (·.oneCell') = true:=all_oneCell_toArray (encO_one A c A2 c2 x)
theorem infoO:(Tryz.prog.info? 49).map (·.size) = some 38:=by kernel_rfl
theorem infoO_s:(Tryz.prog.info? 49).map (·.size) = some (encO A c A2 c2 x).toArray.size:=by rw [encO_s]; exact infoO
theorem infoC_l (A:Option Addr) (c:Nat) (x:Cm):(Tryz.prog.info? 47).map (·.size) = some (encC A c x).length:=by rw [encC_len]; exact infoC
theorem encO_commit {w:World} {g:Nat} {t:TypeId} (h:Whole w g t (encO A c A2 c2 x).toArray):w.rangeAt g 3 (encC A2 c2 x.commit):=by
 intro j v hv
 rw [h.at_,List.getElem?_toArray,← hv,← encO_drop A c A2 c2 x,List.getElem?_drop]
end
def ArgO (w:World) (A:Option Addr) (c:Nat) (A2:Option Addr) (c2:Nat) (x:Ob):Prop:=ArgE w A c x.entries ∧ ArgN w A2 c2 x.commit.parents
theorem ArgO.later {w w':World} {A:Option Addr} {c:Nat} {A2:Option Addr} {c2:Nat} {x:Ob} (h:ArgO w A c A2 c2 x) (hb:Below w.heap.size w w'):ArgO w' A c A2 c2 x:=⟨h.1.later hb,h.2.later hb⟩
theorem oeq_any (A:Option Addr) (c:Nat) (A2:Option Addr) (c2:Nat) (x:Ob) (B:Option Addr) (d:Nat) (B2:Option Addr) (d2:Nat) (y:Ob) (w:World) (hA:ArgO w A c A2 c2 x) (hA2:ArgO w B d B2 d2 y) :
  Calls Tryz.prog 156 #[.agg (encO A c A2 c2 x).toArray,.agg (encO B d B2 d2 y).toArray] w fun e w'=>e = .returned (.bool (eqO x y)) ∧ Below w.heap.size w w':=by
 have hB:=((Below.refl w.heap.size w).alloc (Nat.le_refl _) (.cells (encO A c A2 c2 x).toArray 49)).alloc (by simp) (.cells (encO B d B2 d2 y).toArray 49)
 have hW1:=Whole.past (Whole.made w 49 (encO A c A2 c2 x).toArray) (.cells (encO B d B2 d2 y).toArray 49)
 have hW2:=Whole.made (w.alloc (.cells (encO A c A2 c2 x).toArray 49)) 49 (encO B d B2 d2 y).toArray
 have hs0:(w.alloc (.cells (encO A c A2 c2 x).toArray 49)).heap.size = w.heap.size + 1:=by simp
 rw [hs0] at hW2
 clear hs0
 have HA:=Hy (hA.later hB)
 have HA2:=Hy (hA2.later hB)
 have HQ:Hid (eqO x y = (decide (x.kind = y.kind) && (x.blob == y.blob) && decide (x.entries = y.entries) && eqC x.commit y.commit)):=rfl
 have HTX:=Hy (encO_commit A c A2 c2 x hW1)
 have HTY:=Hy (encO_commit B d B2 d2 y hW2)
 have e0:=(hW1.at_ 0).trans (encO_0 A c A2 c2 x)
 have e1:=(hW1.at_ 1).trans (encO_1 A c A2 c2 x)
 have e2:=(hW1.at_ 2).trans (encO_2 A c A2 c2 x)
 have f0:=(hW2.at_ 0).trans (encO_0 B d B2 d2 y)
 have f1:=(hW2.at_ 1).trans (encO_1 B d B2 d2 y)
 have f2:=(hW2.at_ 2).trans (encO_2 B d B2 d2 y)
 have HXI:=Hy (infoC_l A2 c2 x.commit)
 have HYI:=Hy (infoC_l B2 d2 y.commit)
 clear hA hA2 hW1 hW2
 generalize (encO A c A2 c2 x).toArray = cs at *
 generalize (encO B d B2 d2 y).toArray = ds at *
 generalize hw0:(w.alloc (.cells cs 49)).alloc (.cells ds 49) = w0 at *
 have HB:=Hy hB
 have HPE:=Hy (eqen_any A c B d x.entries y.entries w0 HA.out.1 HA2.out.1)
 have HCE:Hid (∀ W,Below w0.heap.size w0 W → Calls Tryz.prog 155 #[.agg (encC A2 c2 x.commit).toArray,.agg (encC B2 d2 y.commit).toArray] W fun e w'=>e = .returned (.bool (eqC x.commit y.commit)) ∧ Below W.heap.size W w'):=
  fun W hW=>ceq_any A2 c2 B2 d2 x.commit y.commit W (HA.out.2.later hW) (HA2.out.2.later hW)
 clear hB HA HA2
 have hkind:((x.kind:Int) == y.kind) = decide (x.kind = y.kind):=by rw [Bool.eq_iff_iff]; simp
 generalize eqC x.commit y.commit = b4 at *
 generalize decide (x.entries = y.entries) = b3 at *
 generalize decide (x.kind = y.kind) = b1 at *
 generalize encC A2 c2 x.commit = tx at *
 generalize encC B2 d2 y.commit = ty at *
 generalize x.entries.length = px at *
 generalize y.entries.length = py at *
 generalize x.blob = nx at *
 generalize y.blob = ny at *
 generalize x.kind = kx at *
 generalize y.kind = ky at *
 cases b1
 ·skip
  go_enter Tryz.func156,Tryz.ntmps156
  go_wp2
  go_ret
  exact ⟨by rw [HQ.out]; rfl,HB.out⟩
 ·cases hbl:(nx == ny)
  ·skip
   go_enter Tryz.func156,Tryz.ntmps156
   go_wp2
   go_ret
   exact ⟨by rw [HQ.out,hbl]; rfl,HB.out⟩
  ·cases b3
   ·skip
    go_enter Tryz.func156,Tryz.ntmps156
    go_wp2_with fail
    refine HPE.out.mono ?_
    rintro e w1 ⟨rfl,q,rfl⟩
    have HB1:=Hy (be_drewN HB.out q)
    have HD:=Hy (be_drewN (Below.refl w0.heap.size w0) q)
    have HTX1:Hid ((w0.drewN q).rangeAt w.heap.size 3 tx):=HTX.out
    have HTY1:Hid ((w0.drewN q).rangeAt (w.heap.size + 1) 3 ty):=HTY.out
    generalize w0.drewN q = w1 at *
    go_wp2
    go_ret
    exact ⟨by rw [HQ.out,hbl]; rfl,HB1.out⟩
   ·skip
    go_enter Tryz.func156,Tryz.ntmps156
    go_wp2_with fail
    refine HPE.out.mono ?_
    rintro e w1 ⟨rfl,q,rfl⟩
    have HB1:=Hy (be_drewN HB.out q)
    have HD:=Hy (be_drewN (Below.refl w0.heap.size w0) q)
    have HTX1:Hid ((w0.drewN q).rangeAt w.heap.size 3 tx):=HTX.out
    have HTY1:Hid ((w0.drewN q).rangeAt (w.heap.size + 1) 3 ty):=HTY.out
    generalize w0.drewN q = w1 at *
    go_wp2_with (first
     | (refine wpList_load_mid_on 47 _ rfl w.heap.size 3 rfl (by rfl) tx _ HTX1.out Tryz.underlying47 rfl HXI.out ?_)
     | (refine wpList_load_mid_on 47 _ rfl (w.heap.size + 1) 3 rfl (by rfl) ty _ HTY1.out Tryz.underlying47 rfl HYI.out ?_))
    refine (HCE.out _ HD.out).mono ?_
    rintro e w2 ⟨rfl,hb⟩
    have HB2:=Hy (hTr HB1 hb)
    clear hb
    go_wp2
    go_ret
    exact ⟨by rw [HQ.out,hbl]; rfl,HB2.out⟩
end
end Go.Proofs.YtlfmooihcigolaaGreatDoor

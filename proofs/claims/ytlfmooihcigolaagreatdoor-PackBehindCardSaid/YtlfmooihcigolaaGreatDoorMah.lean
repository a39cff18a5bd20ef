/-
  VarB, Alt, VarC, OwnN.
-/
import Derived.Test.YtlfmooihcigolaaGreatDoorMag
import Derived.Lib.SmallJoins
import Derived.Laws.AppendOwnNone
import Derived.Laws.OwnMore
import Derived.Maps.AppendAt
import Derived.OwnWalkIn
import Derived.TacticsInMore
import Derived.LoopNIn
set_option maxRecDepth 100000
set_option maxHeartbeats 8000000
namespace Go.Proofs.YtlfmooihcigolaaGreatDoor
open Go.RowKit
theorem infoY8:(Tryz.prog.info? 5).map (fun i=>(i.zero,i.size,i.bytes)) = some (some (.int .u8 0),1,1):=by kernel_rfl
theorem ofNat_y (x:Nat) (h:x < 256):Y (UInt8.ofNat x) = .int .u8 (x:Int):=by
 show Value.int .u8 ((UInt8.ofNat x).toNat:Int) = _
 rw [UInt8.toNat_ofNat',Nat.mod_eq_of_lt h]
theorem own_bytV {w:World} {B:Nat} {v:Value} {bs:List UInt8} (h:w.ownsRow B 5 1 v bs.length (bs.map Y)):Bytes w v bs:=by
 rcases h.2 with ⟨rfl,h0⟩ | ⟨g,cap,cur,rfl,hB,hg,hn,hm,hs,ht⟩
 ·exact ⟨none,0,by rw [h0],by omega,by unfold maxLen; omega,fun h=>absurd h (by omega)⟩
 ·refine ⟨_,cap,rfl,hn,hm,fun _=>⟨g,0,rfl,fun i hi=>?_⟩⟩
  have hx:(bs.map Y)[i]? = some (Y (bs.getD i 0)):=by simp [List.getElem?_eq_getElem hi]
  rw [← ht,List.getElem?_take_of_lt (by omega)] at hx
  rw [Nat.zero_add,cell_of_row _ _ _ _ _ _ hg]
  simpa using hx
theorem vtext_any (f r:Nat) (hf:f < 128) (hr:r ≤ 1000000) (w:World) :
  Calls Tryz.prog 71 #[.int .i64 (f:Int),.int .i64 (r:Int)] w fun e w'=>e = .returned (.string ⟨(textV f r).toArray⟩) ∧ Below w.heap.size w w':=by
 obtain ⟨i0,hi,hz0,hz1,hz2⟩:=info_parts infoY8
 have hf8:(f:Int) % 256 = (f:Int):=by omega
 have HL:=Hy (textV_le 3 f r (by omega))
 have HOW0:=Hy (World.ownsRow_lit (base:=w.heap.size) (e:=5) (size:=1) w #[.int .u8 (f:Int)] 1 (Nat.le_refl _) (by unfold maxLen; omega) rfl)
 have HB0:=Hy ((Below.refl w.heap.size w).alloc (Nat.le_refl _) (.cells #[.int .u8 (f:Int)] 5))
 obtain ⟨T,hT⟩:∃ T,T = textV f r:=⟨_,rfl⟩
 rw [← hT] at HL ⊢
 have HT0:Hid (([]:List UInt8) ++ textV f r = T):=hT.symm
 clear hT
 go_enter Tryz.func71,Tryz.ntmps71
 go_wp2
 generalize w.alloc (.cells #[.int .u8 (f:Int)] 5) = w1 at *
 go_loopg [1,5] r (fun g s1 s5 wr=>∃ (pre:List UInt8) (x q:Nat) (A:Option Addr) (c:Nat),q ≤ g ∧ q ≤ 1000000 ∧ x < 128 ∧ s1 = .int .i64 (q:Int) ∧ s5 = .slice A (pre.length + 1) c ∧ wr.ownsRow w.heap.size 5 1 (.slice A (pre.length + 1) c) (pre.length + 1) (pre.map Y ++ [.int .u8 (x:Int)]) ∧ Hid (Below w.heap.size w wr) ∧ Hid (pre ++ textV x q = T))
 case atStart=>exact ⟨[],f,r,_,_,Nat.le_refl _,hr,hf,rfl,rfl,HOW0.out,HB0,HT0⟩
 case round=>
  obtain ⟨pre,x,q,A,c,hqg,hq6,hx,rfl,rfl,hown,hwr,heq⟩:=hrel
  have hpl:pre.length ≤ 3:=by
   have h1:=congrArg List.length heq.out
   have h2:=textV_pos x q
   have h3:=HL.out
   rw [List.length_append] at h1
   omega
  by_cases h0:q = 0
  ·subst h0
   have HE:Hid (T = pre ++ [UInt8.ofNat x]):=by show _ = _; rw [← heq.out,textV_zero]
   have hby:Bytes wr (.slice A (pre.length + 1) c) (pre ++ [UInt8.ofNat x]):=by
    refine own_bytV (B:=w.heap.size) ?_
    rw [List.map_append,List.length_append,List.length_singleton,List.map_cons,List.map_nil,ofNat_y x (by omega)]
    exact hown
   have hcv:=bytes_str (P:=Tryz.prog) 63 9 5 Tryz.underlying63 Tryz.underlying5 Tryz.underlying9 hby
   clear hown hby
   go_wp2
   go_ret
   exact ⟨by rw [HE.out]; rfl,hwr.out⟩
  ·have hq0:decide ((0:Int) < (q:Int)) = true:=by simp; omega
   obtain ⟨g,cap,hv⟩:=Go.Joins.ownsRow_form hown (by omega)
   injection hv with e1 _ e2
   subst e1 e2
   have hcell:=hown.cellAt pre.length (by omega)
   have hc1:(pre.map Y ++ [Value.int .u8 (x:Int)])[pre.length]? = some (.int .u8 (x:Int)):=by
    rw [List.getElem?_append_right (by simp)]
    simp
   rw [hc1] at hcell
   have hfz:=hown.frozenAt pre.length
   have hor:=u8_or128_right (x:Int) (by omega) (by omega)
   obtain ⟨hst,hsg⟩:=hown.stored pre.length (.int .u8 ((x:Int) + 128))
   have hgl:=(hown.lt g rfl).1
   have hsx:((pre.map Y ++ [Value.int .u8 (x:Int)]).set pre.length (.int .u8 ((x:Int) + 128))) = (pre ++ [UInt8.ofNat (x + 128)]).map Y:=by
    rw [List.set_append_right _ _ (by simp)]
    simp only [List.length_map,Nat.sub_self,List.set_cons_zero,List.map_append,List.map_cons,List.map_nil]
    rw [ofNat_y (x + 128) (by omega)]
    norm_cast
   rw [hsx] at hst
   have HE:Hid (pre ++ [UInt8.ofNat (x + 128)] ++ textV (q % 128) (q / 128) = T):=by
    show _ = _
    rw [← heq.out,textV_more x q (by omega),List.append_assoc]
    rfl
   have e3:(q:Int) / 128 = ((q / 128:Nat):Int):=by omega
   have e4:(q:Int) % 128 = ((q % 128:Nat):Int):=by omega
   have e5:((q % 128:Nat):Int) % 256 = ((q % 128:Nat):Int):=by omega
   have hq1:q / 128 ≤ 1000000:=by omega
   have hq2:q / 128 < q:=by omega
   have hx1:q % 128 < 128:=Nat.mod_lt _ (by decide)
   have HB2:=Hy (hwr.out.setCell (p:=⟨g,pre.length,none⟩) hgl (.int .u8 ((x:Int) + 128)))
   have HLOW:=Hy fun W=>vlow7_any (q:Int) W
   have hpm:pre.length + 1 - 1 = pre.length:=by omega
   clear hown hc1 hsx heq hsg hwr
   generalize q % 128 = x1 at *
   generalize q / 128 = q1 at *
   go_wp2_with fail
   generalize wr.setCell ⟨g,pre.length,none⟩ (.int .u8 ((x:Int) + 128)) = w2 at *
   refine (HLOW.out _).mono ?_
   rintro e w' ⟨rfl,rfl⟩
   have hcell2:∀ j u,[Value.int .u8 (x1:Int)][j]? = some u → (w2.alloc (.cells #[.int .u8 (x1:Int)] 5)).cell? ((⟨w2.heap.size,0,none⟩:Addr).add j) = some u:=by
    intro j u hu
    have h:=(Whole.made w2 5 #[.int .u8 (x1:Int)]).at_ j
    rw [Addr.add_mid,Nat.zero_add,h]
    simpa using hu
   have HB3:=Hy (HB2.out.alloc HB2.out.size (.cells #[.int .u8 (x1:Int)] 5))
   have hs2:=HB2.out.size
   go_wp2_with (at_builtin; go_loud (refine wpList_append_own_at _ rfl _ _ 63 rfl w.heap.size 5 i0 (.int .u8 0) 1 1 Tryz.underlying63 hi hz0 hz1 hz2 rfl (by decide) _ _ _ rfl (hst.alloc _) ⟨w2.heap.size,0,none⟩ 1 1 [.int .u8 (x1:Int)] rfl (by simp) hcell2 (by intro v hv; rw [List.mem_singleton] at hv; rw [hv]; rfl) (by unfold maxLen; omega) (by omega) (by simp; omega) ?_; intro v' w3 hown' hgr _ _))
   obtain ⟨g',cap',rfl⟩:=Go.Joins.ownsRow_form hown' (by omega)
   have HB4:=Hy (HB3.out.grown hgr (by simp; omega) (fun j hj=>(hst.lt j hj).1))
   have hown4:w3.ownsRow w.heap.size 5 1 (.slice (some ⟨g',0,none⟩) ((pre ++ [UInt8.ofNat (x + 128)]).length + 1) cap') ((pre ++ [UInt8.ofNat (x + 128)]).length + 1) ((pre ++ [UInt8.ofNat (x + 128)]).map Y ++ [.int .u8 (x1:Int)]):=by
    rw [List.length_append,List.length_singleton]
    exact hown'
   have hle:(pre ++ [UInt8.ofNat (x + 128)]).length = pre.length + 1:=by rw [List.length_append,List.length_singleton]
   clear hown' hgr hst HB3
   go_roundg q1
   case measure=>omega
   case rel=>exact ⟨pre ++ [UInt8.ofNat (x + 128)],x1,q1,some ⟨g',0,none⟩,cap',Nat.le_refl _,hq1,hx1,rfl,by rw [hle],hown4,HB4,HE⟩
theorem vput_any (n:Nat) (h:n ≤ 1000000) (w:World):Calls Tryz.prog 29 #[.int .i64 (n:Int)] w fun e w'=>e = .returned (.tuple #[.string ⟨(numV n).toArray⟩,.bool true]) ∧ Below w.heap.size w w':=by
 have HM:=Hy fun W=>vmay_in n h W
 have HLOW:=Hy fun W=>vlow7_any (n:Int) W
 have HT:Hid (∀ W,Calls Tryz.prog 71 #[.int .i64 ((n % 128:Nat):Int),.int .i64 ((n / 128:Nat):Int)] W fun e w'=>e = .returned (.string ⟨(numV n).toArray⟩) ∧ Below W.heap.size W w'):=fun W=>vtext_any (n % 128) (n / 128) (Nat.mod_lt _ (by decide)) (by omega) W
 have e3:(n:Int) / 128 = ((n / 128:Nat):Int):=by omega
 have e4:(n:Int) % 128 = ((n % 128:Nat):Int):=by omega
 generalize n % 128 = x1 at *
 generalize n / 128 = q1 at *
 go_enter Tryz.func29,Tryz.ntmps29
 go_wp2_with fail
 refine (HM.out _).mono ?_
 rintro e w' ⟨rfl,rfl⟩
 go_wp2_with fail
 refine (HLOW.out _).mono ?_
 rintro e w' ⟨rfl,rfl⟩
 go_wp2_with fail
 refine (HT.out _).mono ?_
 rintro e w1 ⟨rfl,hb⟩
 have HB:=Hy hb
 clear hb
 go_wp2
 go_ret2
 exact ⟨rfl,HB.out⟩
section
open Go.RowKit
structure Alt (R:Nat → Prop) (w w':World):Prop where
 os:w'.os = w.os
 tape:w'.tape = w.tape
 output:w'.output = w.output
 size:w.heap.size ≤ w'.heap.size
 block:∀ k,k < w.heap.size → ¬ R k → w'.heap[k]? = w.heap[k]?
section
variable {R R' : Nat → Prop} {w w' w'' : World} {B g : Nat} {t : TypeId} {cs : Array Value}
theorem Alt.refl (R:Nat → Prop) (w:World):Alt R w w:=⟨rfl,rfl,rfl,Nat.le_refl _,fun _ _ _=>rfl⟩
theorem Alt.trans (h:Alt R w w') (k:Alt R w' w''):Alt R w w'':=
 ⟨k.os.trans h.os,k.tape.trans h.tape,k.output.trans h.output,Nat.le_trans h.size k.size,fun i hi hn=>(k.block i (Nat.lt_of_lt_of_le hi h.size) hn).trans (h.block i hi hn)⟩
theorem Alt.mono (h:Alt R w w') (hr:∀ k,k < w.heap.size → R k → R' k):Alt R' w w':=⟨h.os,h.tape,h.output,h.size,fun i hi hn=>h.block i hi (fun e=>hn (hr i hi e))⟩
theorem Alt.then (h:Alt R w w') (k:Alt R' w' w'') (hr:∀ k,k < w.heap.size → R' k → R k):Alt R w w'':=
 ⟨k.os.trans h.os,k.tape.trans h.tape,k.output.trans h.output,Nat.le_trans h.size k.size,fun i hi hn=>(k.block i (Nat.lt_of_lt_of_le hi h.size) (fun e=>hn (hr i hi e))).trans (h.block i hi hn)⟩
theorem Alt.below (h:Alt R w w') (k:Below w'.heap.size w' w''):Alt R w w'':=
 ⟨k.os.trans h.os,k.tape.trans h.tape,k.output.trans h.output,Nat.le_trans h.size k.size,fun i hi hn=>(k.block i (Nat.lt_of_lt_of_le hi h.size)).trans (h.block i hi hn)⟩
theorem Alt.of_below (k:Below w.heap.size w w'):Alt R w w':=(Alt.refl R w).below k
theorem Alt.of_grown {row:Option Nat} (k:w.grownBy w' row) (hr:∀ j,row = some j → R j):Alt R w w':=
 ⟨k.os,k.tape,k.output,k.size,fun i hi hn=>k.block i hi (fun e=>hn (hr i e.symm))⟩
theorem Alt.grown {row:Option Nat} (h:Alt R w w') (k:w'.grownBy w'' row) (hr:∀ j,row = some j → w.heap.size ≤ j ∨ R j):Alt R w w'':=
 ⟨k.os.trans h.os,k.tape.trans h.tape,k.output.trans h.output,Nat.le_trans h.size k.size,fun i hi hn=>(k.block i (Nat.lt_of_lt_of_le hi h.size) (fun e=>by
  rcases hr i e.symm with hj | hj
  ·omega
  ·exact hn hj)).trans (h.block i hi hn)⟩
theorem Alt.alloc (h:Alt R w w') (o:Obj):Alt R w (w'.alloc o):=h.below ((Below.refl _ _).alloc (Nat.le_refl _) o)
theorem Alt.set (h:Alt R w w') {p:Addr} (hp:R p.block ∨ w.heap.size ≤ p.block) (u:Value):Alt R w (w'.setCell p u):=
 ⟨h.os,h.tape,h.output,by simpa [World.setCell] using h.size,fun i hi hn=>(Below.heap_setCell w' p u i (by
  rintro rfl
  rcases hp with hp | hp
  ·exact hn hp
  ·omega)).trans (h.block i hi hn)⟩
theorem Alt.to (h:Alt R w w') (hr:∀ k,R k → B ≤ k) (hB:B ≤ w.heap.size):Below B w w':=
 ⟨h.os,h.tape,h.output,h.size,fun k hk=>h.block k (by omega) (fun e=>by have:=hr k e; omega)⟩
theorem Alt.none (h:Alt (fun _=>False) w w'):Below w.heap.size w w':=h.to (fun _ e=>e.elim) (Nat.le_refl _)
theorem Whole.alt (hw:Whole w g t cs) (h:Alt R w w') (hn:¬ R g):Whole w' g t cs:=(h.block g hw.lt hn).trans hw
theorem Alt.last {o:Obj} (h:Alt R (w.alloc o) w'):Alt R w w':=by
 refine ⟨h.os,h.tape,h.output,?_,fun k hk hn=>(h.block k (by simp; omega) hn).trans (Below.heap_alloc w o k hk)⟩
 have:=h.size
 simp at this
 omega
end
section
variable (G : Nat) (caps : Array Value) (w : World) (R : Nat → Prop) (Q : World → Prop)
theorem do_ret_q (he:∀ W,(callFunc G caps).run Tryz.prog W = .ok (.enter G caps) W) (hR:¬ R w.heap.size)
  (hQ:∀ w1 w2,w.heap.size < w1.heap.size → Q w1 → Alt (· = w.heap.size) w1 w2 → Q w2)
  (h:Calls Tryz.prog G caps (w.alloc (.cells #[.int .i64 0] 25)) fun e w'=>e = .returned (.tuple #[]) ∧ Alt R (w.alloc (.cells #[.int .i64 0] 25)) w' ∧ Q w') :
  Calls Tryz.prog 33 #[.func (.func G) #[] caps] w fun e w'=>e = .returned (.int .i64 0) ∧ Alt R w w' ∧ Q w':=by
 have hE:=Whole.made w 25 #[.int .i64 0]
 refine (do_ret G caps w (fun w'=>Alt R (w.alloc (.cells #[.int .i64 0] 25)) w' ∧ Q w') he ?_ h).mono ?_
 ·rintro w' ⟨h2,-⟩
  have hE2:=hE.alt h2 hR
  exact ⟨0,(hE2.at_ 0).trans rfl,hE2.thawed 0⟩
 ·rintro e w' ⟨rfl,w1,⟨h1,hq⟩,rfl⟩
  have hs:w.heap.size < w1.heap.size:=by have:=h1.size; simp at this; omega
  exact ⟨rfl,h1.last.set (.inr (Nat.le_refl _)) _,hQ w1 _ hs hq (Alt.set (R:=(· = w.heap.size)) (p:=⟨w.heap.size,0,none⟩) (Alt.refl _ w1) (.inl rfl) _)⟩
end
end
def hdV (f r:Nat):Nat:=if r = 0 then f else f + 128
def tlV (r:Nat):List UInt8:=if r = 0 then [] else textV (r % 128) (r / 128)
theorem textV_eq (f r:Nat):textV f r = UInt8.ofNat (hdV f r) :: tlV r:=by
 by_cases h:r = 0
 ·subst h
  rw [textV_zero]
  rfl
 ·rw [textV_more f r (by omega)]
  unfold hdV tlV
  rw [if_neg h,if_neg h]
theorem hdV_lt (f r:Nat) (h:f < 128):hdV f r < 256:=by
 unfold hdV
 split <;> omega
theorem hdV_mod (f r:Nat) (h:f < 128):hdV f r % 128 = f:=by
 unfold hdV
 split <;> omega
theorem and128:∀ x:Nat,x < 256 → bits .and .u8 (x:Int) 128 = if x < 128 then 0 else 128:=by
 intro x hx
 have:=u8_and_nat x 128 hx (by decide)
 have h2:∀ x:Nat,x < 256 → x &&& 128 = if x < 128 then 0 else 128:=by decide +kernel
 rw [h2 x hx] at this
 rw [show ((128:Nat):Int) = 128 from rfl] at this
 rw [this]
 split <;> rfl
theorem vnumber_loop (b:Nat) (n0 tot k0:Nat) (x0 q0:Nat) (hx0:x0 < 128) (hk0:k0 = 4 ∨ k0 = 7) (htot:n0 + q0 * 2 ^ k0 = tot) (h6:tot ≤ 1000000) (hn0:hdV x0 q0 % 2 ^ k0 = n0) (u:List UInt8) (w:World) (h:Rd w b (tlV q0 ++ u)) :
  Calls Tryz.prog 76 #[.int .u8 (hdV x0 q0:Int),.int .i64 (k0:Int),.pointer (some ⟨b,0,none⟩)] w fun e w'=>e = .returned (.int .i64 (tot:Int)) ∧ Alt (· = b) w w' ∧ Rd w' b u:=by
 have HR:=Hy h
 have hbl:=h.lt
 have hlow:Hid (∀ W,Calls Tryz.prog 72 #[.int .i64 (hdV x0 q0:Int),.int .i64 (k0:Int)] W fun e w'=>e = .returned (.int .i64 (n0:Int)) ∧ W = w'):=by
  intro W
  rcases hk0 with rfl | rfl
  ·have:=vlow4_any (hdV x0 q0:Int) W
   rwa [show ((hdV x0 q0:Nat):Int) % 16 = (n0:Int) by omega] at this
  ·have:=vlow7_any (hdV x0 q0:Int) W
   rwa [show ((hdV x0 q0:Nat):Int) % 128 = (n0:Int) by omega] at this
 have hh8:=hdV_lt x0 q0 hx0
 clear h
 go_enter Tryz.func76,Tryz.ntmps76
 go_wp2_with fail
 refine (hlow.out _).mono ?_
 rintro e w' ⟨rfl,rfl⟩
 go_wp2
 go_loopg [1,7,8] q0 (fun g s1 s7 s8 wr=>∃ (x q k n:Nat),q ≤ g ∧ x < 128 ∧ n + q * 2 ^ k = tot ∧ k ≤ 40 ∧ s1 = .int .i64 (k:Int) ∧ s7 = .int .i64 (n:Int) ∧ s8 = .int .u8 (hdV x q:Int) ∧ Hid (Alt (· = b) w wr) ∧ Hid (Rd wr b (tlV q ++ u)))
 case atStart=>exact ⟨x0,q0,k0,n0,Nat.le_refl _,hx0,htot,by omega,rfl,rfl,rfl,Hy (Alt.refl _ _),HR⟩
 case round=>
  obtain ⟨x,q,k,n,hqg,hx,hnq,hk,rfl,rfl,rfl,hal,hrd⟩:=hrel
  have hh:=hdV_lt x q hx
  have ha:=and128 (hdV x q) hh
  by_cases hq:q = 0
  ·subst hq
   have hd0:hdV x 0 = x:=rfl
   rw [hd0,if_pos hx] at ha
   rw [hd0]
   have htn:n = tot:=by omega
   have HRD:Hid (Rd wr b u):=hrd.out
   go_wp2
   go_ret
   exact ⟨by rw [htn]; rfl,hal.out,HRD.out⟩
  ·have hdq:hdV x q = x + 128:=by unfold hdV; rw [if_neg hq]
   rw [hdq,if_neg (by omega),Int.natCast_add] at ha
   have ha':bits BinOp.and IntKind.u8 ((x:Int) + 128) 128 = 128:=ha
   have htl:tlV q = UInt8.ofNat (hdV (q % 128) (q / 128)) :: tlV (q / 128):=by
    unfold tlV
    rw [if_neg hq,textV_eq]
    rfl
   rw [htl] at hrd
   rw [hdq]
   have hx1:q % 128 < 128:=Nat.mod_lt _ (by decide)
   have hy8:=hdV_lt (q % 128) (q / 128) hx1
   have hy0:hdV (q % 128) (q / 128) ≠ 0:=by unfold hdV; split <;> omega
   have hym:=hdV_mod (q % 128) (q / 128) hx1
   have hqq:q / 128 < q:=by omega
   obtain ⟨P,hP⟩:∃ P,P = 2 ^ k:=⟨_,rfl⟩
   have h2k:(2:Int) ^ k = (P:Int):=by rw [hP]; norm_cast
   have hk7:2 ^ (k + 7) = P * 128:=by rw [hP,Nat.pow_add]
   rw [← hP] at hnq
   have hP1:1 ≤ P:=by rw [hP]; exact Nat.one_le_two_pow
   have hk2:k + 7 ≤ 40:=by
    rcases Nat.lt_or_ge k 20 with h | h
    ·omega
    ·have h1:2 ^ 20 ≤ P:=by rw [hP]; exact Nat.pow_le_pow_right (by decide) h
     have h2:P ≤ q * P:=Nat.le_mul_of_pos_left P (by omega)
     omega
   have hqP:P ≤ q * P:=Nat.le_mul_of_pos_left P (by omega)
   obtain ⟨S,hS⟩:∃ S,S = (q % 128) * P:=⟨_,rfl⟩
   have hSP:S + (q / 128) * (P * 128) = q * P:=by
    rw [hS,← Nat.mul_assoc,Nat.mul_right_comm,← Nat.add_mul]
    congr 1
    omega
   have hSi:((q % 128:Nat):Int) * (P:Int) = (S:Int):=by rw [hS]; norm_cast
   have htot2:n + S + (q / 128) * (P * 128) = tot:=by omega
   have hSle:n + S ≤ 1000000:=by omega
   have hnP:n + P ≤ 1000000:=by omega
   have HM1:Hid (∀ W,Calls Tryz.prog 70 #[.int .i64 ((n:Int) + (P:Int))] W fun e w'=>e = .returned (.bool true) ∧ W = w'):=fun W=>by
    have:=vmay_in (n + P) hnP W
    rwa [Int.natCast_add] at this
   have HM2:Hid (∀ W,Calls Tryz.prog 70 #[.int .i64 ((n:Int) + (S:Int))] W fun e w'=>e = .returned (.bool true) ∧ W = w'):=fun W=>by
    have:=vmay_in (n + S) hSle W
    rwa [Int.natCast_add] at this
   have HLOW:Hid (∀ W,Calls Tryz.prog 72 #[.int .i64 (hdV (q % 128) (q / 128):Int),.int .i64 7] W fun e w'=>e = .returned (.int .i64 ((q % 128:Nat):Int)) ∧ W = w'):=fun W=>by
    have:=vlow7_any (hdV (q % 128) (q / 128):Int) W
    rwa [show ((hdV (q % 128) (q / 128):Nat):Int) % 128 = ((q % 128:Nat):Int) by omega] at this
   have HBY:=Hy (byte_some b (UInt8.ofNat (hdV (q % 128) (q / 128))) (tlV (q / 128) ++ u) wr hrd.out)
   have hyn:((UInt8.ofNat (hdV (q % 128) (q / 128))).toNat:Int) = (hdV (q % 128) (q / 128):Int):=by
    rw [UInt8.toNat_ofNat',Nat.mod_eq_of_lt hy8]
   rw [hyn] at HBY
   have hyne:((hdV (q % 128) (q / 128):Int) != 0) = true:=by simp; omega
   have HTOT:=Hy htot2
   have HK7:=Hy hk7
   have HHD:Hid (∃ y,y = hdV (q % 128) (q / 128) ∧ y < 256):=⟨_,rfl,hy8⟩
   generalize q % 128 = x1 at *
   generalize q / 128 = q1 at *
   clear ha hnq hS hSP hqP hP hP1 htot2 hk7 hrd htl hyn hym hy0
   go_wp2_with fail
   refine (HM1.out _).mono ?_
   rintro e w' ⟨rfl,rfl⟩
   go_wp2_with (go_at_call 78; refine (must_yes _ _).mono ?_; rintro e w' ⟨rfl,rfl⟩)
   refine HBY.out.mono ?_
   rintro e w2 ⟨rfl,hG,hR⟩
   have HAL2:=Hy (hal.out.grown hG (fun j hj=>by injection hj with hj; exact .inr hj.symm))
   have HRD2:=Hy hR
   clear hG hR HBY HM1
   go_wp2_with (go_at_call 78; refine (must_yes _ _).mono ?_; rintro e w' ⟨rfl,rfl⟩)
   refine (HLOW.out _).mono ?_
   rintro e w' ⟨rfl,rfl⟩
   go_wp2_with fail
   refine (HM2.out _).mono ?_
   rintro e w' ⟨rfl,rfl⟩
   go_wp2_with (go_at_call 78; refine (must_yes _ _).mono ?_; rintro e w' ⟨rfl,rfl⟩)
   go_roundg q1
   case measure=>omega
   case rel=>exact ⟨x1,q1,k + 7,n + S,Nat.le_refl _,hx1,by rw [HK7.out]; exact HTOT.out,hk2,by go_num,by go_num,rfl,HAL2,HRD2⟩
theorem vget_any (b n:Nat) (hn:n ≤ 1000000) (u:List UInt8) (w:World) (h:Rd w b (numV n ++ u)) :
  Calls Tryz.prog 35 #[.pointer (some ⟨b,0,none⟩)] w fun e w'=>e = .returned (.int .i64 (n:Int)) ∧ Alt (· = b) w w' ∧ Rd w' b u:=by
 unfold numV at h
 rw [textV_eq] at h
 have hx:n % 128 < 128:=Nat.mod_lt _ (by decide)
 have hy8:=hdV_lt (n % 128) (n / 128) hx
 have hym:=hdV_mod (n % 128) (n / 128) hx
 have hb:=byte_some b (UInt8.ofNat (hdV (n % 128) (n / 128))) (tlV (n / 128) ++ u) w h
 rw [show ((UInt8.ofNat (hdV (n % 128) (n / 128))).toNat:Int) = (hdV (n % 128) (n / 128):Int) by rw [UInt8.toNat_ofNat',Nat.mod_eq_of_lt hy8]] at hb
 have HB:=Hy hb
 have HN:=Hy (vnumber_loop b (n % 128) n 7 (n % 128) (n / 128) hx (.inr rfl) (by omega) hn hym u)
 clear hb h
 generalize hdV (n % 128) (n / 128) = y at *
 generalize tlV (n / 128) ++ u = t at *
 go_enter Tryz.func35,Tryz.ntmps35
 go_wp2_with fail
 refine HB.out.mono ?_
 rintro e w1 ⟨rfl,hG,hR⟩
 have HA:=Hy (Alt.of_grown (R:=(· = b)) hG (fun j hj=>by injection hj with hj; exact hj.symm))
 have HC:=Hy (HN.out w1 hR)
 clear hG hR HB HN
 go_wp2_with fail
 refine HC.out.mono ?_
 rintro e w2 ⟨rfl,hA,hR⟩
 have HA2:=Hy (HA.out.trans hA)
 have HR2:=Hy hR
 clear hA hR
 go_wp2
 go_ret
 exact ⟨rfl,HA2.out,HR2.out⟩
theorem vgethead_any (b k n:Nat) (hk:k = 1 ∨ k = 2 ∨ k = 3 ∨ k = 6 ∨ k = 7) (hn:n ≤ 1000000) (u:List UInt8) (w:World) (h:Rd w b (headV k n ++ u)) :
  Calls Tryz.prog 36 #[.pointer (some ⟨b,0,none⟩)] w fun e w'=>e = .returned (.tuple #[.int .i64 (k:Int),.int .i64 (n:Int)]) ∧ Alt (· = b) w w' ∧ Rd w' b u:=by
 unfold headV at h
 rw [textV_eq] at h
 have hx:k * 16 + n % 16 < 128:=by omega
 have hy8:=hdV_lt (k * 16 + n % 16) (n / 16) hx
 have hym:hdV (k * 16 + n % 16) (n / 16) % 2 ^ 4 = n % 16:=by
  have:=hdV_mod (k * 16 + n % 16) (n / 16) hx
  show _ % 16 = _
  omega
 have hand:bits .andNot .u8 (hdV (k * 16 + n % 16) (n / 16):Int) 128 = ((k * 16 + n % 16:Nat):Int):=by
  have h1:=u8_andNot_nat (hdV (k * 16 + n % 16) (n / 16)) 128 hy8 (by decide)
  have h2:∀ x:Nat,x < 256 → x &&& (255 - 128) = x % 128:=by decide +kernel
  rw [h2 _ hy8,hdV_mod _ _ hx] at h1
  exact h1
 have hsh:((k * 16 + n % 16:Nat):Int) / 16 = (k:Int):=by omega
 have hb:=byte_some b (UInt8.ofNat (hdV (k * 16 + n % 16) (n / 16))) (tlV (n / 16) ++ u) w h
 rw [show ((UInt8.ofNat (hdV (k * 16 + n % 16) (n / 16))).toNat:Int) = (hdV (k * 16 + n % 16) (n / 16):Int) by rw [UInt8.toNat_ofNat',Nat.mod_eq_of_lt hy8]] at hb
 have HB:=Hy hb
 have HN:=Hy (vnumber_loop b (n % 16) n 4 (k * 16 + n % 16) (n / 16) hx (.inl rfl) (by omega) hn hym u)
 have hkk:kindV (k:Int) = true:=by rcases hk with rfl | rfl | rfl | rfl | rfl <;> rfl
 have hkn:=fun W=>vkinds_any (k:Int) W
 rw [hkk] at hkn
 have HK:=Hy hkn
 clear hb h hkn hkk hk hym
 generalize hdV (k * 16 + n % 16) (n / 16) = y at *
 generalize tlV (n / 16) ++ u = t at *
 generalize k * 16 + n % 16 = z at *
 go_enter Tryz.func36,Tryz.ntmps36
 go_wp2_with fail
 refine HB.out.mono ?_
 rintro e w1 ⟨rfl,hG,hR⟩
 have HA:=Hy (Alt.of_grown (R:=(· = b)) hG (fun j hj=>by injection hj with hj; exact hj.symm))
 have HC:=Hy (HN.out w1 hR)
 clear hG hR HB HN
 go_wp2_with fail
 refine (HK.out _).mono ?_
 rintro e w' ⟨rfl,rfl⟩
 go_wp2_with (go_at_call 78; refine (must_yes _ _).mono ?_; rintro e w' ⟨rfl,rfl⟩)
 refine HC.out.mono ?_
 rintro e w2 ⟨rfl,hA,hR⟩
 have HA2:=Hy (HA.out.trans hA)
 have HR2:=Hy hR
 clear hA hR
 go_wp2
 go_ret2
 exact ⟨rfl,HA2.out,HR2.out⟩
theorem vhead_any (k n:Nat) (hk:k = 1 ∨ k = 2 ∨ k = 3 ∨ k = 6 ∨ k = 7) (hn:n ≤ 1000000) (w:World) :
  Calls Tryz.prog 31 #[.int .i64 (k:Int),.int .i64 (n:Int)] w fun e w'=>e = .returned (.tuple #[.string ⟨(headV k n).toArray⟩,.bool true]) ∧ Below w.heap.size w w':=by
 have HM:=Hy fun W=>vmay_in n hn W
 have HLOW:=Hy fun W=>vlow4_any (n:Int) W
 have hkk:kindV (k:Int) = true:=by rcases hk with rfl | rfl | rfl | rfl | rfl <;> rfl
 have hkn:=fun W=>vkinds_any (k:Int) W
 rw [hkk] at hkn
 have HK:=Hy hkn
 have HT:Hid (∀ W,Calls Tryz.prog 71 #[.int .i64 ((k * 16 + n % 16:Nat):Int),.int .i64 ((n / 16:Nat):Int)] W fun e w'=>e = .returned (.string ⟨(headV k n).toArray⟩) ∧ Below W.heap.size W w'):=fun W=>vtext_any (k * 16 + n % 16) (n / 16) (by omega) (by omega) W
 have e3:(n:Int) / 16 = ((n / 16:Nat):Int):=by omega
 have e4:(n:Int) % 16 = ((n % 16:Nat):Int):=by omega
 have hor:bits .or .i64 ((k:Int) * 16) ((n % 16:Nat):Int) = ((k * 16 + n % 16:Nat):Int):=by
  have hx:n % 16 < 16:=Nat.mod_lt _ (by decide)
  have hall:∀ x:Nat,x < 16 → bits .or .i64 (1 * 16) (x:Int) = ((16 + x:Nat):Int) ∧ bits .or .i64 (2 * 16) (x:Int) = ((32 + x:Nat):Int) ∧ bits .or .i64 (3 * 16) (x:Int) = ((48 + x:Nat):Int) ∧ bits .or .i64 (6 * 16) (x:Int) = ((96 + x:Nat):Int) ∧ bits .or .i64 (7 * 16) (x:Int) = ((112 + x:Nat):Int):=by decide +kernel
  obtain ⟨h1,h2,h3,h6,h7⟩:=hall (n % 16) hx
  rcases hk with rfl | rfl | rfl | rfl | rfl
  ·exact h1
  ·exact h2
  ·exact h3
  ·exact h6
  ·exact h7
 have hk7:k ≤ 7:=by omega
 clear hkn hkk hk
 generalize k * 16 + n % 16 = z at *
 generalize n % 16 = x1 at *
 generalize n / 16 = q1 at *
 go_enter Tryz.func31,Tryz.ntmps31
 go_wp2_with fail
 refine (HK.out _).mono ?_
 rintro e w' ⟨rfl,rfl⟩
 go_wp2_with fail
 refine (HM.out _).mono ?_
 rintro e w' ⟨rfl,rfl⟩
 go_wp2_with fail
 refine (HLOW.out _).mono ?_
 rintro e w' ⟨rfl,rfl⟩
 go_wp2_with fail
 refine (HT.out _).mono ?_
 rintro e w1 ⟨rfl,hb⟩
 have HB:=Hy hb
 clear hb
 go_wp2
 go_ret2
 exact ⟨rfl,HB.out⟩
theorem zero_nm (w:World):(zeroValue 30).run Tryz.prog w = .ok (.agg (encN default).toArray) w:=by
 kernel_rfl
theorem flat_len (ids:List Nm):(ids.flatMap encN).length = ids.length * 32:=by
 induction ids with
 | nil=>rfl
 | cons x l ih=>rw [List.flatMap_cons,List.length_append,ih,encN_len,List.length_cons]; omega
theorem flat_at (ids:List Nm):∀ i j,i < ids.length → j < 32 → (ids.flatMap encN)[i * 32 + j]? = (encN (ids.getD i default))[j]?:=by
 induction ids with
 | nil=>intro i j hi; exact absurd hi (Nat.not_lt_zero _)
 | cons x l ih=>
  intro i j hi hj
  rw [List.flatMap_cons]
  cases i with
  | zero=>
   rw [Nat.zero_mul,Nat.zero_add,List.getElem?_append_left (by rw [encN_len]; exact hj)]
   rfl
  | succ i=>
   rw [List.getElem?_append_right (by rw [encN_len]; omega),encN_len,show (i + 1) * 32 + j - 32 = i * 32 + j by omega,ih i j (by simpa using hi) hj]
   rfl
theorem row_flat {w:World} {b o:Nat} {ids:List Nm} (h:RowN w b o ids):∀ j u,(ids.flatMap encN)[j]? = some u → w.cell? ⟨b,o + j,none⟩ = some u:=by
 intro j u hu
 have hj:j < ids.length * 32:=by
  rw [← flat_len]
  exact (List.getElem?_eq_some_iff.1 hu).1
 rw [show j = j / 32 * 32 + j % 32 by omega,flat_at ids _ _ (by omega) (by omega)] at hu
 have:=h (j / 32) (by omega) (j % 32) u hu
 rw [show o + j / 32 * 32 + j % 32 = o + j by omega] at this
 exact this
theorem own_nm {w:World} {B:Nat} {v:Value} {ids:List Nm} (h:w.ownsRow B 30 32 v ids.length (ids.flatMap encN)) (hn:0 < ids.length) :
  ∃ g c,v = .slice (some ⟨g,0,none⟩) ids.length c ∧ B ≤ g ∧ g < w.heap.size ∧ ids.length ≤ c ∧ c ≤ maxLen ∧ RowN w g 0 ids ∧ ∀ i,i < ids.length * 32 → w.frozen? ⟨g,0 + i,none⟩ = false:=by
 rcases h.2 with ⟨rfl,h0⟩ | ⟨g,cap,cur,rfl,hB,hg,hn,hm,hs,ht⟩
 ·omega
 ·refine ⟨g,cap,rfl,hB,(Array.getElem?_eq_some_iff.1 hg).1,hn,hm,fun i hi j v hv=>?_,fun i hi=>?_⟩
  ·have hj:j < 32:=by
    have:=(List.getElem?_eq_some_iff.1 hv).1
    rwa [encN_len] at this
   have hx:(ids.flatMap encN)[i * 32 + j]? = some v:=by rw [flat_at ids i j hi hj]; exact hv
   rw [← ht,List.getElem?_take_of_lt (by omega)] at hx
   rw [Nat.zero_add,cell_of_row _ _ _ _ _ _ hg]
   simpa using hx
  ·unfold World.frozen?
   rw [hg]
   simp
theorem info23:(Tryz.prog.info? 30).map (fun i=>(i.zero,i.size,i.bytes)) = some (some (.agg (encN default).toArray),32,32):=by kernel_rfl
theorem flat_one (ids:List Nm):∀ u ∈ ids.flatMap encN,u.oneCell' = true:=by
 intro u hu
 obtain ⟨x,-,hx⟩:=List.mem_flatMap.1 hu
 exact encN_one x u hx
theorem own_arg {w:World} {B:Nat} {v:Value} {ids:List Nm} (h:w.ownsRow B 30 32 v ids.length (ids.flatMap encN)):∃ A c,v = .slice A ids.length c ∧ ArgN w A c ids:=by
 rcases Nat.eq_zero_or_pos ids.length with h0 | h0
 ·rcases h.2 with ⟨rfl,-⟩ | ⟨g,cap,cur,rfl,hB,hg,hn,hm,hs,ht⟩
  ·exact ⟨none,0,by rw [h0],by omega,by unfold maxLen; omega,fun _=>rfl,fun h=>by omega⟩
  ·exact ⟨_,cap,rfl,hn,hm,(fun e=>by cases e),fun h=>by omega⟩
 ·obtain ⟨g,c,rfl,hB,hg,hc1,hc2,hr,-⟩:=own_nm h h0
  exact ⟨_,c,rfl,hc1,hc2,(fun e=>by cases e),fun _=>⟨g,0,rfl,hr⟩⟩
theorem fold_set:∀ (l:List Value) (k:Nat) (z:Array Value),k + l.length ≤ z.size → ((l.zipIdx k).foldl (fun cs (p:Value × Nat)=>cs.setIfInBounds (0 + p.2) p.1) z).toList = z.toList.take k ++ l ++ z.toList.drop (k + l.length)
 | [],k,z,_=>by simp
 | c :: r,k,z,h=>by
  rw [List.zipIdx_cons,List.foldl_cons,fold_set r (k + 1) _ (by simp at h ⊢; omega)]
  simp only [List.length_cons] at h
  have hk:k < z.toList.length:=by simp; omega
  have e:(z.setIfInBounds (0 + k) c).toList = z.toList.set k c:=by simp
  rw [e]
  have e1:(z.toList.set k c).take (k + 1) = z.toList.take k ++ [c]:=by
   rw [List.take_set,List.take_succ_eq_append_getElem hk,List.set_append_right _ _ (by simp; omega)]
   have:k - (z.toList.take k).length = 0:=by simp; omega
   rw [this]
   rfl
  have e2:(z.toList.set k c).drop (k + 1 + r.length) = z.toList.drop (k + (r.length + 1)):=by
   rw [List.drop_set,if_pos (by omega)]
   congr 1
   omega
  rw [e1,e2,List.length_cons]
  simp
theorem run_build_nm (x:Nm) (w:World):(Instr.buildSlice 44 1 #[(0,.agg (encN x).toArray)]).run Tryz.prog w = .ok (.slice (some ⟨w.heap.size,0,none⟩) 1 1) (w.alloc (.cells (encN x).toArray 30)):=by
 have hfill:∀ z:Array Value,z.size = 32 → Instr.fill (fun i=>some (i * 32,32)) z [(0,.agg (encN x).toArray)] = some (encN x).toArray:=by
  intro z hz
  have hs:=encN_size x
  have hc:(Value.agg (encN x).toArray).cells = (encN x).toArray:=rfl
  simp only [Instr.fill,hc,hs,hz]
  rw [if_neg (by decide)]
  congr 1
  apply Array.toList_inj.1
  have:=fold_set (encN x) 0 z (by rw [encN_len]; omega)
  rw [encN_len,List.drop_of_length_le (by simp; omega)] at this
  simpa using this
 have hzs:((Array.range (1 * 32)).map (fun i=>(Value.agg (encN default).toArray).cells[i % (Value.agg (encN default).toArray).cells.size]!)).size = 32:=by simp
 unfold Instr.buildSlice
 simp only [Sem.run_bind,run_underlying Tryz.underlying44,Result.andThen_ok,Tryz.sizeOf30]
 rw [if_neg (by decide),if_neg (by decide)]
 simp only [Sem.run_bind,zero_nm,Result.andThen_ok,Sem.run_pure]
 rw [hfill _ hzs]
 rfl
theorem wp_buildN {o:Oper} {a:Act} {w:World} {K:Act → World → Prop} {Q:Exit → Act → World → Prop} (t:Operand) (ho:o.op = .buildSlice 44 1 #[(0,t)]) (x:Nm) (hx:a.eval t = .agg (encN x).toArray)
  (h:K (a.put o.dst (.slice (some ⟨w.heap.size,0,none⟩) 1 1)) (w.alloc (.cells (encN x).toArray 30))):o.wp Tryz.prog a w K Q:=by
 have hb:=run_build_nm x w
 unfold Oper.wp
 simp [execOp,ho,hx,hb,Result.andThen]
 exact h
theorem own_later {w w':World} {B:Nat} {v:Value} {n:Nat} {xs:List Value} {e:TypeId} {k:Nat} (h:w.ownsRow B e k v n xs) (hb:Below w.heap.size w w'):w'.ownsRow B e k v n xs:=by
 refine ⟨h.1,?_⟩
 rcases h.2 with h0 | ⟨g,cap,cur,hv,hB,hg,rest⟩
 ·exact .inl h0
 ·exact .inr ⟨g,cap,cur,hv,hB,(hb.block g (Array.getElem?_eq_some_iff.1 hg).1).trans hg,rest⟩
theorem arg_one {w:World} {g:Nat} {x:Nm} (h:Whole w g 30 (encN x).toArray):ArgN w (some ⟨g,0,none⟩) 1 [x]:=by
 refine ⟨Nat.le_refl _,by unfold maxLen; omega,(fun e=>by cases e),fun _=>⟨g,0,rfl,fun i hi j v hv=>?_⟩⟩
 obtain rfl:i = 0:=by simpa using hi
 rw [show 0 + 0 * 32 + j = j by omega,h.at_,List.getElem?_toArray]
 exact hv
end Go.Proofs.YtlfmooihcigolaaGreatDoor

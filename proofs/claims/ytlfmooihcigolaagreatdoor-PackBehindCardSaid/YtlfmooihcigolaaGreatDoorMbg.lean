/-
  BodA, BodC, BodD, ThiA.
-/
import Derived.Test.YtlfmooihcigolaaGreatDoorMbf
import Derived.Lib.AppendZeros
set_option maxRecDepth 100000
set_option maxHeartbeats 8000000
namespace Go.Proofs.YtlfmooihcigolaaGreatDoor
open Go.RowKit
def encS (s:Stp):List Value:=[.int .i64 (s.place:Int),.int .i64 s.kind,.string ⟨s.base.toArray⟩]
theorem eltS:Elt 180 173 3 encS default where
 len:=fun _=>rfl
 one:=by
  intro x v hv
  simp only [encS,List.mem_cons,List.not_mem_nil,or_false] at hv
  rcases hv with rfl | rfl | rfl <;> rfl
 pos:=by decide
 small:=by decide
 und:=Tryz.underlying173
 info:=by
  have h:(Tryz.prog.info? 180).map (fun i=>(i.zero,i.size,decide (i.bytes ≤ 4096))) = some (some (.agg (encS default).toArray),3,true):=by kernel_rfl
  cases hq:Tryz.prog.info? 180 with
  | none=>rw [hq] at h; cases h
  | some i=>
   rw [hq] at h
   simp only [Option.map_some,Option.some.injEq,Prod.mk.injEq,decide_eq_true_eq] at h
   exact ⟨i,rfl,h.1,h.2.1,h.2.2⟩
 szo:=Tryz.sizeOf180
 zero:=fun w=>by kernel_rfl
theorem infoSt (s:Stp):(Tryz.prog.info? 180).map (·.size) = some (encS s).length:=by kernel_rfl
theorem infoSt_s (s:Stp):(Tryz.prog.info? 180).map (·.size) = some (encS s).toArray.size:=by kernel_rfl
theorem encS_all (s:Stp):(encS s).toArray.all (·.oneCell') = true:=all_oneCell_toArray (eltS.one s)
theorem sbox (s:Stp) (w:World):Whole (w.alloc (.cells (encS s).toArray 180)) w.heap.size 180 (encS s).toArray ∧ Below w.heap.size w (w.alloc (.cells (encS s).toArray 180)):=
 ⟨Whole.made w _ _,(Below.refl _ _).alloc (Nat.le_refl _) _⟩
theorem stp_place {w:World} {g:Nat} {t:TypeId} {s:Stp} (h:Whole w g t (encS s).toArray):w.cell? ⟨g,0,none⟩ = some (.int .i64 (s.place:Int)):=(h.at_ 0).trans rfl
def zI (n:Nat):Value:=.int .i64 (n:Int)
def ArgZ (w:World) (A:Option Addr) (c:Nat) (ns:List Nat):Prop:=Arg w A c (ns.map zI)
theorem ArgZ.later {w w':World} {A:Option Addr} {c:Nat} {ns:List Nat} (h:ArgZ w A c ns) (hb:Below w.heap.size w w'):ArgZ w' A c ns:=Arg.below h hb (Nat.le_refl _)
theorem ArgZ.spot {w:World} {A:Option Addr} {c:Nat} {ns:List Nat} (h:ArgZ w A c ns) (h0:0 < ns.length):∃ g off,A = some ⟨g,off,none⟩ ∧ ∀ j,j < ns.length → w.cell? ⟨g,off + j,none⟩ = some (.int .i64 ((ns.getD j 0:Nat):Int)):=by
 obtain ⟨g,off,e,hc⟩:=Arg.spot h (by rw [List.length_map]; exact h0)
 refine ⟨g,off,e,fun j hj=>hc j _ ?_⟩
 rw [List.getElem?_map,List.getElem?_eq_getElem hj]
 simp [zI,List.getD,List.getElem?_eq_getElem hj]
theorem ArgZ.len {w:World} {A:Option Addr} {c:Nat} {ns:List Nat} (h:ArgZ w A c ns):ns.length ≤ c ∧ c ≤ maxLen:=by
 have:=h.1
 rw [List.length_map] at this
 exact ⟨this,h.2.1⟩
theorem argZ_nil (w:World):ArgZ w none 0 []:=⟨Nat.le_refl _,Nat.zero_le _,.inl ⟨rfl,rfl⟩⟩
theorem flatES_snoc (ns:List Nat) (kd:Int) (b:List UInt8) (k:Nat) (h:k < ns.length):(stepsV (ns.take (k + 1)) kd b).flatMap encS = (stepsV (ns.take k) kd b ++ [(⟨ns.getD k 0,kd,b⟩:Stp)]).flatMap encS:=by
 unfold stepsV
 rw [List.take_succ_eq_append_getElem h,List.map_append]
 simp [List.getD,List.getElem?_eq_getElem h]
theorem pstepsof_any (A:Option Addr) (c:Nat) (ns:List Nat) (kd:Int) (b:List UInt8) (w:World) (hA:ArgZ w A c ns) (hn:ns.length ≤ 1000) :
  Calls Tryz.prog 165 #[.slice A ns.length c,.int .i64 kd,.string ⟨b.toArray⟩] w fun e w'=>(∃ v,e = .returned v ∧ w'.ownsRow w.heap.size 180 3 v (stepsV ns kd b).length ((stepsV ns kd b).flatMap encS)) ∧ Below w.heap.size w w':=by
 have HA:=Hy hA
 have hlc:=hA.len
 clear hA
 go_enter Tryz.func165,Tryz.ntmps165
 go_wp2
 go_loopg [7,9,12] ns.length (fun g s7 _ s12 wr=>∃ (k:Nat) (A9:Option Addr) (c9:Nat),s7 = .slice A9 k c9 ∧ k ≤ ns.length ∧ ns.length - k ≤ g ∧ s12 = .int .i64 k ∧ wr.ownsRow w.heap.size 180 3 (.slice A9 k c9) k ((stepsV (ns.take k) kd b).flatMap encS) ∧ Hid (Below w.heap.size w wr))
 case atStart=>exact ⟨0,none,0,rfl,Nat.zero_le _,by omega,rfl,by simpa [stepsV] using World.ownsRow_nil _ _ _ _,Hy (Below.refl _ _)⟩
 case round=>
  obtain ⟨k,A9,c9,rfl,hk,hg,rfl,hown,hwr⟩:=hrel
  by_cases hlt:k < ns.length
  ·have hlt':(k:Int) < (ns.length:Int):=by omega
   obtain ⟨bb,o,rfl,hr⟩:=(HA.out.later hwr.out).spot (by omega)
   have hrk:=hr k hlt
   have hfs:=flatES_snoc ns kd b k hlt
   obtain ⟨y,hy⟩:∃ y,y = ns.getD k 0:=⟨_,rfl⟩
   rw [← hy] at hrk hfs
   have HFS:=Hy hfs
   have hktl:(stepsV (ns.take k) kd b).length = k:=by unfold stepsV; rw [List.length_map,List.length_take]; omega
   have hown0:(wr.alloc (.cells (encS ⟨y,kd,b⟩).toArray 180)).ownsRow w.heap.size 180 3 (.slice A9 k c9) (stepsV (ns.take k) kd b).length ((stepsV (ns.take k) kd b).flatMap encS):=by rw [hktl]; exact own_later hown ((Below.refl _ _).alloc (Nat.le_refl _) _)
   have HKT:=Hy hktl
   have HOW0:=Hy hown0
   have HONE:Hid (ArgG encS default 3 (wr.alloc (.cells (encS ⟨y,kd,b⟩).toArray 180)) (some ⟨wr.heap.size,0,none⟩) 1 [⟨y,kd,b⟩]):=argG_one (Whole.made wr 180 (encS ⟨y,kd,b⟩).toArray)
   have hz3:w.heap.size ≤ wr.heap.size:=hwr.out.size
   have HZ5:Hid (w.heap.size ≤ (wr.alloc (.cells (encS ⟨y,kd,b⟩).toArray 180)).heap.size):=by show _ ≤ _; simp; omega
   have HLL:Hid ((stepsV (ns.take k) kd b).length + [(⟨y,kd,b⟩:Stp)].length ≤ 10000000):=by show _ ≤ _; rw [HKT.out]; simp; omega
   have HB5:=Hy (hwr.out.alloc hwr.out.size (.cells (encS ⟨y,kd,b⟩).toArray 180))
   clear hr hy hfs hown hown0 hktl hwr
   go_wp2_with (first
    | (refine wpList_buildG eltS rfl _ rfl ⟨y,kd,b⟩ rfl ?_)
    | (at_builtin; go_loud (refine wpList_appendG eltS rfl _ _ rfl w.heap.size (.slice A9 k c9) (stepsV (ns.take k) kd b) rfl ?_ (some ⟨wr.heap.size,0,none⟩) 1 1 [⟨y,kd,b⟩] rfl rfl HONE.out HZ5.out HLL.out ?_; exact HOW0.out; intro v' w6 hown' hb6' hgr6; have HOW6:=Hy hown'; have HB6:=Hy (HB5.out.trans hb6'); clear hown' hb6' hgr6)))
   have how6:=HOW6.out
   have hkk:(stepsV (ns.take k) kd b ++ [(⟨y,kd,b⟩:Stp)]).length = k + 1:=by rw [List.length_append,HKT.out,List.length_singleton]
   rw [← HFS.out,hkk] at how6
   obtain ⟨g6,c6,rfl⟩:=Go.Joins.ownsRow_form how6 (by omega)
   have HOW7:=Hy how6
   clear how6 HOW6 HB5 HOW0
   go_roundg (ns.length - (k + 1))
   case measure=>omega
   case rel=>exact ⟨k + 1,_,_,rfl,by omega,Nat.le_refl _,by go_num,HOW7.out,HB6⟩
  ·obtain rfl:k = ns.length:=by omega
   rw [List.take_length] at hown
   have hml:(stepsV ns kd b).length = ns.length:=by unfold stepsV; rw [List.length_map]
   rw [← hml] at hown
   have HOW:=Hy hown
   clear hown
   go_wp2
   go_ret
   exact ⟨⟨_,by rw [← hml]; rfl,HOW.out⟩,hwr.out⟩
theorem infoZ:(Tryz.prog.info? 3).map (fun i=>(i.zero,i.size,i.bytes)) = some (some (.int .i64 0),1,8):=by kernel_rfl
theorem zI_one (ns:List Nat):∀ u ∈ ns.map zI,u.oneCell' = true:=by
 intro u hu
 obtain ⟨_,_,rfl⟩:=List.mem_map.1 hu
 rfl
theorem own_argZ {w:World} {B:Nat} {v:Value} {ns:List Nat} (h:w.ownsRow B 3 1 v ns.length (ns.map zI)):∃ A c,v = .slice A ns.length c ∧ ArgZ w A c ns ∧ ∀ j,inBlk A j → B ≤ j:=by
 rcases h.2 with ⟨rfl,h0⟩ | ⟨g,cap,cur,rfl,hB,hg,hn,hm,hs,ht⟩
 ·have he:ns = []:=List.length_eq_zero_iff.1 h0
  subst he
  exact ⟨none,0,rfl,argZ_nil w,by rintro j ⟨a,e,-⟩; cases e⟩
 ·refine ⟨_,cap,rfl,⟨by rw [List.length_map]; exact hn,hm,.inr ⟨_,rfl,fun j u hu=>?_⟩⟩,?_⟩
  ·have:=h.cells (g:=g) rfl j u hu
   exact this
  ·rintro j ⟨a,e,rfl⟩
   injection e with e
   subst e
   exact hB
theorem pgrow_any (n:Nat) (w:World) (hn:n ≤ 1000000) :
  Calls Tryz.prog 253 #[.slice none 0 0,.int .i64 (n:Int)] w fun e w'=>(∃ A c,e = .returned (.slice A 0 c) ∧ w'.ownsRow w.heap.size 3 1 (.slice A 0 c) 0 []) ∧ Below w.heap.size w w':=by
 obtain ⟨i0,hi,hz0,hz1,hz2⟩:=info_parts infoZ
 have k0:decide ((n:Int) < 0) = false:=decide_eq_false (by omega)
 by_cases h0:n = 0
 ·subst h0
  go_enter Tryz.func253,Tryz.ntmps253
  go_wp2
  go_ret
  exact ⟨⟨none,0,rfl,World.ownsRow_nil _ _ _ _⟩,Below.refl _ _⟩
 ·have k1:decide ((n:Int) > 0) = true:=decide_eq_true (by omega)
  have hr:=fun ty=>Lib.run_append_nil_zeros (P:=Tryz.prog) w 59 3 ty 3 i0 (.int .i64 0) .i64 .i64 Tryz.underlying59 Tryz.underlying3 hi hz0 n (by omega) (by rw [hz1]; decide) (by omega) (by rw [hz2]; omega)
  have hge:=grownCap_ge w n 0 3
  have hle:=grownCap_le_maxLen w n 0 3 (by unfold maxLen; omega)
  generalize grownCap w n 0 3 = c at *
  have hsz:(Builtin.zeroCells (Value.int .i64 0).cells n ++ Builtin.zeroCells (Value.int .i64 0).cells (c - n)).size = c:=by
   have hz1:(Value.int .i64 0).cells.size = 1:=rfl
   simp only [Array.size_append,size_zeroCells,hz1]
   omega
  have HWW:Hid (Whole (w.drew.alloc (.cells (Builtin.zeroCells (Value.int .i64 0).cells n ++ Builtin.zeroCells (Value.int .i64 0).cells (c - n)) 3)) w.heap.size 3 (Builtin.zeroCells (Value.int .i64 0).cells n ++ Builtin.zeroCells (Value.int .i64 0).cells (c - n))):=Whole.made w.drew _ _
  have HB:=Hy ((Below.refl w.heap.size w).drew.alloc (Nat.le_refl _) (.cells (Builtin.zeroCells (Value.int .i64 0).cells n ++ Builtin.zeroCells (Value.int .i64 0).cells (c - n)) 3))
  generalize Builtin.zeroCells (Value.int .i64 0).cells n ++ Builtin.zeroCells (Value.int .i64 0).cells (c - n) = cur at *
  have HR:=Hy hr
  clear hr
  generalize w.drew.alloc (.cells cur 3) = w1 at *
  go_enter Tryz.func253,Tryz.ntmps253
  go_wp2_with (at_builtin; go_loud (refine Lib.wpList_append_run _ rfl _ _ 59 3 rfl _ _ rfl rfl _ _ (HR.out _) ?_))
  go_ret
  exact ⟨⟨_,_,rfl,rfl,.inr ⟨w.heap.size,c,cur,rfl,Nat.le_refl _,HWW.out,Nat.zero_le _,hle,by rw [hsz,Nat.mul_one],rfl⟩⟩,HB.out⟩
theorem below_grown {w w':World} {B:Nat} {v:Value} (hB:B ≤ w.heap.size) (hg:w.grownBy w' v.ownBlock) (h:∀ k,v.ownBlock = some k → B ≤ k):Below B w w':=
 ⟨hg.os,hg.tape,hg.output,hg.size,fun k hk=>hg.block k (by omega) (fun e=>by have:=h k e.symm; omega)⟩
theorem wpList_appendZ {w:World} {ops:Array Oper} {rest:List Oper} {op:Oper} {a:Act} {Q:Exit → Act → World → Prop} (hg:op.guard = none) (s x:Operand) (ho:op.op = .call { callee:=.builtin .append,args:=#[s,x],argTypes:=#[59,59] })
  (B:Nat) (v:Value) (xs:List Nat) (hs:a.eval s = v) (A:Option Addr) (n c:Nat) (ys:List Nat) (hn:ys.length = n) (hx:a.eval x = .slice A n c) (hown:w.ownsRow B 3 1 v xs.length (xs.map zI)) (hy:ArgZ w A c ys)
  (hB:B ≤ w.heap.size) (hl:xs.length + ys.length ≤ 1000000) (h:∀ v' w',w'.ownsRow B 3 1 v' (xs ++ ys).length ((xs ++ ys).map zI) → w.grownBy w' v.ownBlock → (v'.ownBlock = v.ownBlock ∨ v'.ownBlock = some w.heap.size) → wpList Tryz.prog ops Q rest (a.put op.dst v') w'):wpList Tryz.prog ops Q (op :: rest) a w:=by
 subst hn
 obtain ⟨i0,hi,hz0,hz1,hz2⟩:=info_parts infoZ
 cases A with
 | none=>
  obtain ⟨rfl,h0⟩:=Arg.nil hy
  have he:ys = []:=List.map_eq_nil_iff.1 h0
  subst he
  have hrun:=run_append_owned_none (P:=Tryz.prog) (w:=w) B 59 op.type 3 i0 1 Tryz.underlying59 hi v xs.length (xs.map zI) hown
  refine wpList_plain hg fun K' hK'=>?_
  unfold Oper.wp
  simp [execOp,ho,resolve,invoke,builtin,hs,hx,hrun,Result.andThen]
  exact hK' _ _ (h v w (by simpa using hown) ⟨rfl,rfl,rfl,Nat.le_refl _,fun _ _ _=>rfl⟩ (.inl rfl))
 | some ad=>
  obtain ⟨h1,h2,h3⟩:=hy
  have hc:∀ j u,(ys.map zI)[j]? = some u → w.cell? (ad.add j) = some u:=by
   rcases h3 with ⟨h3,-⟩ | ⟨ad',e,h3⟩
   ·cases h3
   ·injection e with e
    subst e
    exact h3
  rw [List.length_map] at h1
  refine wpList_append_own_at w hg s x 59 ho B 3 i0 (.int .i64 0) 1 8 Tryz.underlying59 hi hz0 hz1 hz2 rfl (by decide) v xs.length (xs.map zI) hs hown ad ys.length c (ys.map zI) hx (by simp) hc (zI_one ys) (by unfold maxLen; omega) (by omega) hB (fun v' w' h4 h5 _ h6=>?_)
  exact h v' w' (by rw [List.length_append,List.map_append]; exact h4) h5 h6
def catZ (a b:List Nat) (k:Nat):List Nat:=if k = 0 then [] else if k = 1 then a else a ++ b
theorem catZ_le (a b:List Nat) (k:Nat):(catZ a b k).length ≤ a.length + b.length:=by
 unfold catZ
 split
 ·simp
 ·split
  ·omega
  ·simp
theorem pconcat_any (g:Nat) (A1:Option Addr) (c1:Nat) (ns1:List Nat) (A2:Option Addr) (c2:Nat) (ns2:List Nat) (w:World) (h0:w.cell? ⟨g,0,none⟩ = some (.slice A1 ns1.length c1)) (h1:w.cell? ⟨g,1,none⟩ = some (.slice A2 ns2.length c2)) (hA1:ArgZ w A1 c1 ns1) (hA2:ArgZ w A2 c2 ns2) (hl:ns1.length + ns2.length ≤ 1000) :
  Calls Tryz.prog 209 #[.slice (some ⟨g,0,none⟩) 2 2] w fun e w'=>(∃ A c,e = .returned (.slice A (ns1 ++ ns2).length c) ∧ ArgZ w' A c (ns1 ++ ns2) ∧ ∀ j,inBlk A j → w.heap.size ≤ j) ∧ Below w.heap.size w w':=by
 have HA1:=Hy hA1
 have HA2:=Hy hA2
 have H0:=Hy h0
 have H1:=Hy h1
 have hgl:=World.block_lt_of_cell? w _ h0
 have HG:=Hy fun W=>pgrow_any (ns1.length + ns2.length) W (by omega)
 clear hA1 hA2
 go_enter Tryz.func209,Tryz.ntmps209
 go_wp2
 go_loopg [3,5,11] 2 (fun g s3 _ s11 wr=>∃ k:Nat,k ≤ 2 ∧ 2 - k ≤ g ∧ s11 = .int .i64 (k:Int) ∧ s3 = .int .i64 ((if k = 0 then 0 else if k = 1 then ns1.length else ns1.length + ns2.length:Nat):Int) ∧ w = wr)
 case atStart=>exact ⟨0,by omega,by omega,rfl,rfl,rfl⟩
 case round=>
  obtain ⟨k,hk,hg,rfl,rfl,rfl⟩:=hrel
  rcases (by omega:k = 0 ∨ k = 1 ∨ k = 2) with rfl | rfl | rfl
  ·have k0:decide ((ns1.length:Int) < 0) = false:=decide_eq_false (by omega)
   go_wp2
   go_roundg (1)
   case measure=>omega
   case rel=>exact ⟨1,by omega,by omega,rfl,rfl,rfl⟩
  ·have k0:decide ((ns1.length:Int) + (ns2.length:Int) < 0) = false:=decide_eq_false (by omega)
   go_wp2
   go_roundg (0)
   case measure=>omega
   case rel=>exact ⟨2,by omega,by omega,rfl,by simp,rfl⟩
  ·rw [Int.natCast_add] at HG
   go_wp2_with fail
   refine (HG.out w).mono ?_
   rintro e w1 ⟨⟨A0,c0,rfl,hown0⟩,hb0⟩
   have HB0:=Hy hb0
   have hown0':w1.ownsRow w.heap.size 3 1 (.slice A0 (catZ ns1 ns2 0).length c0) (catZ ns1 ns2 0).length ((catZ ns1 ns2 0).map zI):=hown0
   clear hb0 hown0 HG
   go_wp2
   go_loopg [6,8,27] 2 (fun g s6 _ s27 wr=>∃ (k:Nat) (A9:Option Addr) (c9:Nat),k ≤ 2 ∧ 2 - k ≤ g ∧ s27 = .int .i64 (k:Int) ∧ s6 = .slice A9 (catZ ns1 ns2 k).length c9 ∧ wr.ownsRow w.heap.size 3 1 (.slice A9 (catZ ns1 ns2 k).length c9) (catZ ns1 ns2 k).length ((catZ ns1 ns2 k).map zI) ∧ Hid (Below w.heap.size w wr))
   case atStart=>exact ⟨0,A0,c0,by omega,by omega,rfl,rfl,hown0',HB0⟩
   case round=>
    obtain ⟨k,A9,c9,hk,hg,rfl,rfl,hown,hwr⟩:=hrel
    have hc0:=(hwr.out.cell hgl).trans h0
    have hc1:=(hwr.out.cell hgl).trans h1
    rcases (by omega:k = 0 ∨ k = 1 ∨ k = 2) with rfl | rfl | rfl
    ·have HAA:=Hy (HA1.out.later hwr.out)
     have HLL:Hid ((catZ ns1 ns2 0).length + ns1.length ≤ 1000000):=by show _ ≤ _; have:=catZ_le ns1 ns2 0; omega
     have hl9:=HAA.out.len
     go_wp2_with (at_builtin; go_loud (refine wpList_appendZ rfl _ _ rfl w.heap.size (.slice A9 (catZ ns1 ns2 0).length c9) (catZ ns1 ns2 0) rfl A1 ns1.length c1 (ns1) rfl rfl ?_ HAA.out hwr.out.size HLL.out ?_; exact hown; intro v' w6 hown' hgr6 _; have HOW6:=Hy hown'; have HB6:=Hy (hwr.out.trans (below_grown hwr.out.size hgr6 (fun j hj=>(hown.lt j hj).1))); clear hown' hgr6))
     obtain ⟨A6,c6,rfl,-,-⟩:=own_argZ HOW6.out
     go_roundg (1)
     case measure=>omega
     case rel=>exact ⟨1,A6,c6,by omega,by omega,rfl,rfl,HOW6.out,HB6⟩
    ·have HAA:=Hy (HA2.out.later hwr.out)
     have HLL:Hid ((catZ ns1 ns2 1).length + ns2.length ≤ 1000000):=by show _ ≤ _; have:=catZ_le ns1 ns2 1; omega
     have hl9:=HAA.out.len
     go_wp2_with (at_builtin; go_loud (refine wpList_appendZ rfl _ _ rfl w.heap.size (.slice A9 (catZ ns1 ns2 1).length c9) (catZ ns1 ns2 1) rfl A2 ns2.length c2 (ns2) rfl rfl ?_ HAA.out hwr.out.size HLL.out ?_; exact hown; intro v' w6 hown' hgr6 _; have HOW6:=Hy hown'; have HB6:=Hy (hwr.out.trans (below_grown hwr.out.size hgr6 (fun j hj=>(hown.lt j hj).1))); clear hown' hgr6))
     obtain ⟨A6,c6,rfl,-,-⟩:=own_argZ HOW6.out
     go_roundg (0)
     case measure=>omega
     case rel=>exact ⟨2,A6,c6,by omega,by omega,rfl,rfl,HOW6.out,HB6⟩
    ·go_wp2
     go_ret
     have hown':wr.ownsRow w.heap.size 3 1 (.slice A9 (ns1 ++ ns2).length c9) (ns1 ++ ns2).length ((ns1 ++ ns2).map zI):=hown
     obtain ⟨A6,c6,he,h6,h7⟩:=own_argZ hown'
     injection he with e1 e2 e3
     subst e1
     subst e3
     exact ⟨⟨_,_,rfl,h6,h7⟩,hwr.out⟩
section
open Go.RowKit
structure Mng where
 m:Nat
 go:Nat
 gb:Nat
 mb:Nat
 Ai:Option Addr
 ci:Nat
def Mng.R (p:Mng):Nat → Prop:=fun k=>k = p.m ∨ k = p.go ∨ k = p.mb
def cellsM (its:List It) (p:Mng) (made:Nat):Array Value:=
 #[.slice p.Ai its.length p.ci,.slice (some ⟨p.go,0,none⟩) its.length its.length,.int .i64 (made:Int),.slice (some ⟨p.gb,0,none⟩) its.length its.length,.map (some p.mb)]
def Mng.Off (p:Mng) (F:Nat → Prop) (A:Option Addr) (n:Nat):Prop:=∀ j,inBlk A j → 0 < n → ¬ p.R j ∧ ¬ F j
def OffX (F:Nat → Prop) (p:Mng) (q:Obx):Prop:=p.Off F q.A q.x.entries.length ∧ p.Off F q.A2 q.x.commit.parents.length
structure MkM (F:Nat → Prop) (w:World) (its:List It) (p:Mng) (mk:Mk):Prop where
 cells:Whole w p.m 115 (cellsM its p mk.made)
 items:ArgG encI default 35 w p.Ai p.ci its
 itemsOff:p.Off F p.Ai its.length
 objs:∃ xs:List Obx,xs.map Obx.x = mk.objs ∧ Whole w p.go 49 (xs.flatMap encX).toArray ∧ ∀ q ∈ xs,HasX w q ∧ OffX F p q
 olen:mk.objs.length = its.length
 backs:∃ vs:Nat → Option Addr × Nat,∀ j,j < its.length → w.cell? ⟨p.gb,j,none⟩ = some (.slice (vs j).1 (backsTo its its.length j).length (vs j).2) ∧ ArgZ w (vs j).1 (vs j).2 (backsTo its its.length j) ∧ p.Off F (vs j).1 (backsTo its its.length j).length
 gbOff:¬ p.R p.gb ∧ p.gb < w.heap.size
 names:∃ (N:Nat) (V:Nm → Option Addr × Nat),OwnMap w p.mb N (fun x=>.slice (V x).1 (waits its mk.dead x).length (V x).2) ∧ ∀ x,ArgZ w (V x).1 (V x).2 (waits its mk.dead x) ∧ p.Off F (V x).1 (waits its mk.dead x).length
 dist:p.m ≠ p.go ∧ p.m ≠ p.mb ∧ p.go ≠ p.mb
 offF:¬ F p.m ∧ ¬ F p.go ∧ ¬ F p.gb ∧ ¬ F p.mb
section
variable {F : Nat → Prop} {w w' : World} {its : List It} {p : Mng} {mk : Mk}
theorem arg_lt {A:Option Addr} {c:Nat} {vs:List Value} (h:Arg w A c vs) (h0:0 < vs.length) {j:Nat} (hj:inBlk A j):j < w.heap.size:=by
 obtain ⟨g,off,e,hc⟩:=h.spot h0
 obtain ⟨a,e',rfl⟩:=hj
 rw [e] at e'
 injection e' with e'
 subst e'
 exact World.block_lt_of_cell? w _ (hc 0 _ (List.getElem?_eq_getElem h0))
theorem ArgZ.grown {A:Option Addr} {c:Nat} {ns:List Nat} {row:Option Nat} (h:ArgZ w A c ns) (hg:w.grownBy w' row) (hn:∀ j,inBlk A j → 0 < ns.length → some j ≠ row):ArgZ w' A c ns:=by
 have h9:=h
 obtain ⟨h1,h2,h3⟩:=h
 refine ⟨h1,h2,?_⟩
 rcases h3 with h3 | ⟨ad,rfl,h3⟩
 ·exact .inl h3
 ·refine .inr ⟨ad,rfl,fun j u hu=>?_⟩
  have hc:=h3 j u hu
  have hlt:=World.block_lt_of_cell? w _ hc
  have hb:(ad.add j).block = ad.block:=by unfold Addr.add; split <;> rfl
  have hk:=hg.block (ad.add j).block hlt (by
   rw [hb]
   refine hn _ ⟨ad,rfl,rfl⟩ ?_
   have:=(List.getElem?_eq_some_iff.1 hu).1
   rw [List.length_map] at this
   omega)
  unfold World.cell? at *
  rw [hk]
  exact hc
theorem HasX.grown {q:Obx} {row:Option Nat} (h:HasX w q) (hg:w.grownBy w' row) (h1:∀ j,inBlk q.A j → 0 < q.x.entries.length → some j ≠ row) (h2:∀ j,inBlk q.A2 j → 0 < q.x.commit.parents.length → some j ≠ row):HasX w' q:=⟨h.1.grown hg h1,h.2.grown hg h2⟩
theorem grown_none (hb:Below w.heap.size w w'):w.grownBy w' none:=⟨hb.os,hb.tape,hb.output,hb.size,fun k hk _=>hb.block k hk⟩
theorem cell_grown {a:Addr} {v:Value} {row:Option Nat} (h:w.cell? a = some v) (hg:w.grownBy w' row) (hn:some a.block ≠ row):w'.cell? a = some v:=by
 have hk:=hg.block a.block (World.block_lt_of_cell? w _ h) hn
 unfold World.cell? at *
 rw [hk]
 exact h
theorem Mng.Off.ne {A:Option Addr} {n:Nat} {row:Option Nat} (h:p.Off F A n) (hr:∀ r,row = some r → p.R r ∨ F r):∀ j,inBlk A j → 0 < n → some j ≠ row:=fun j hj h0 e=>(hr j e.symm).elim (h j hj h0).1 (h j hj h0).2
theorem MkM.items_g (h:MkM F w its p mk) {row:Option Nat} (hg:w.grownBy w' row) (hr:∀ r,row = some r → p.R r ∨ F r):ArgG encI default 35 w' p.Ai p.ci its:=h.items.grown eltI hg (h.itemsOff.ne hr)
theorem MkM.backs_g (h:MkM F w its p mk) {row:Option Nat} (hg:w.grownBy w' row) (hr:∀ r,row = some r → p.R r ∨ F r):∃ vs:Nat → Option Addr × Nat,∀ j,j < its.length → w'.cell? ⟨p.gb,j,none⟩ = some (.slice (vs j).1 (backsTo its its.length j).length (vs j).2) ∧ ArgZ w' (vs j).1 (vs j).2 (backsTo its its.length j) ∧ p.Off F (vs j).1 (backsTo its its.length j).length:=by
 obtain ⟨vs,hv⟩:=h.backs
 refine ⟨vs,fun j hj=>?_⟩
 obtain ⟨h1,h2,h3⟩:=hv j hj
 exact ⟨cell_grown h1 hg (fun e=>(hr _ e.symm).elim h.gbOff.1 h.offF.2.2.1),h2.grown hg (h3.ne hr),h3⟩
theorem MkM.row (h:MkM F w its p mk) {row:Option Nat} (hg:w.grownBy w' row) (hF:∀ r,row = some r → F r):MkM F w' its p mk:=by
 have hr:∀ r,row = some r → p.R r ∨ F r:=fun r e=>.inr (hF r e)
 obtain ⟨xs,h1,h2,h3⟩:=h.objs
 obtain ⟨N,V,h4,h5⟩:=h.names
 exact ⟨h.cells.grown hg (fun e=>h.offF.1 (hF _ e.symm)),h.items_g hg hr,h.itemsOff,⟨xs,h1,h2.grown hg (fun e=>h.offF.2.1 (hF _ e.symm)),fun q hq=>⟨(h3 q hq).1.grown hg ((h3 q hq).2.1.ne hr) ((h3 q hq).2.2.ne hr),(h3 q hq).2⟩⟩,h.olen,h.backs_g hg hr,⟨h.gbOff.1,Nat.lt_of_lt_of_le h.gbOff.2 hg.size⟩,⟨N,V,h4.grown hg (fun e=>h.offF.2.2.2 (hF _ e.symm)),fun x=>⟨(h5 x).1.grown hg ((h5 x).2.ne hr),(h5 x).2⟩⟩,h.dist,h.offF⟩
theorem MkM.later (h:MkM F w its p mk) (hb:Below w.heap.size w w'):MkM F w' its p mk:=h.row (grown_none hb) (fun r e=>by cases e)
theorem MkM.keep {F':Nat → Prop} (h:MkM F w its p mk) (hF:∀ k,F' k → F k ∨ w.heap.size ≤ k):MkM F' w its p mk:=by
 have hz:∀ (A:Option Addr) (c:Nat) (ns:List Nat),ArgZ w A c ns → p.Off F A ns.length → p.Off F' A ns.length:=fun A c ns ha ho j hj h0=>⟨(ho j hj h0).1,fun hf=>(hF j hf).elim (ho j hj h0).2 (fun hl=>by
  have:=arg_lt ha (by rw [List.length_map]; exact h0) hj
  omega)⟩
 obtain ⟨xs,h1,h2,h3⟩:=h.objs
 obtain ⟨N,V,h4,h5⟩:=h.names
 obtain ⟨vs,h6⟩:=h.backs
 have e1:=h.cells.lt
 have e2:=h2.lt
 have e3:=h4.lt
 have e4:=h.gbOff.2
 refine ⟨h.cells,h.items,fun j hj h0=>⟨(h.itemsOff j hj h0).1,fun hf=>(hF j hf).elim (h.itemsOff j hj h0).2 (fun hl=>by have:=h.items.lt eltI hj h0; omega)⟩,⟨xs,h1,h2,fun q hq=>⟨(h3 q hq).1,fun j hj h0=>⟨((h3 q hq).2.1 j hj h0).1,fun hf=>(hF j hf).elim ((h3 q hq).2.1 j hj h0).2 (fun hl=>by have:=(h3 q hq).1.1.lt hj h0; omega)⟩,fun j hj h0=>⟨((h3 q hq).2.2 j hj h0).1,fun hf=>(hF j hf).elim ((h3 q hq).2.2 j hj h0).2 (fun hl=>by have:=(h3 q hq).1.2.lt hj h0; omega)⟩⟩⟩,h.olen,⟨vs,fun j hj=>⟨(h6 j hj).1,(h6 j hj).2.1,hz _ _ _ (h6 j hj).2.1 (h6 j hj).2.2⟩⟩,h.gbOff,⟨N,V,h4,fun x=>⟨(h5 x).1,hz _ _ _ (h5 x).1 (h5 x).2⟩⟩,h.dist,⟨fun hf=>(hF _ hf).elim h.offF.1 (fun hl=>by omega),fun hf=>(hF _ hf).elim h.offF.2.1 (fun hl=>by omega),fun hf=>(hF _ hf).elim h.offF.2.2.1 (fun hl=>by omega),fun hf=>(hF _ hf).elim h.offF.2.2.2 (fun hl=>by omega)⟩⟩
theorem flatX_set (xs:List Obx) (i:Nat) (q:Obx) (h:i < xs.length):((xs.flatMap encX).toArray.toList.take (i * 38) ++ ((encX q).toArray.toList ++ (xs.flatMap encX).toArray.toList.drop (i * 38 + (encX q).toArray.toList.length))).toArray = ((xs.set i q).flatMap encX).toArray:=by
 congr 1
 show (xs.flatMap encX).take (i * 38) ++ (encX q ++ (xs.flatMap encX).drop (i * 38 + (encX q).length)) = _
 rw [encX_len]
 induction xs generalizing i with
 | nil=>simp at h
 | cons x l ih=>
  cases i with
  | zero=>
   simp only [List.flatMap_cons,List.set_cons_zero,Nat.zero_mul,List.take_zero,List.nil_append,Nat.zero_add]
   rw [List.drop_left' (encX_len x)]
  | succ i=>
   simp only [List.flatMap_cons,List.set_cons_succ]
   rw [← ih i (by simpa using h),List.take_append,List.drop_append,encX_len,List.take_of_length_le (by rw [encX_len]; omega),List.drop_of_length_le (by rw [encX_len]; omega),show (i + 1) * 38 - 38 = i * 38 by omega,show (i + 1) * 38 + 38 - 38 = i * 38 + 38 by omega]
   simp
theorem MkM.setObj (h:MkM F w its p mk) {i:Nat} (hi:i < its.length) {q:Obx} (hq:HasX w q) (ho:OffX F p q):MkM F (w.setCells p.go (i * 38) (encX q).toArray.toList) its p ⟨mk.objs.set i q.x,mk.made,mk.dead⟩:=by
 have hg:w.grownBy (w.setCells p.go (i * 38) (encX q).toArray.toList) (some p.go):=gr_setCells (g:=p.go) _ _ w w (gr_refl _ _)
 have hr:∀ r,some p.go = some r → p.R r ∨ F r:=fun r e=>by injection e with e; exact .inl (.inr (.inl e.symm))
 obtain ⟨xs,h1,h2,h3⟩:=h.objs
 obtain ⟨N,V,h4,h5⟩:=h.names
 have hxl:xs.length = its.length:=by rw [← h.olen,← h1,List.length_map]
 refine ⟨h.cells.grown hg (by simpa using h.dist.1),h.items_g hg hr,h.itemsOff,⟨xs.set i q,by rw [List.map_set,h1],?_,fun q' hq'=>?_⟩,by rw [List.length_set]; exact h.olen,h.backs_g hg hr,⟨h.gbOff.1,Nat.lt_of_lt_of_le h.gbOff.2 hg.size⟩,⟨N,V,h4.grown hg (by simpa using h.dist.2.2.symm),fun x=>⟨(h5 x).1.grown hg ((h5 x).2.ne hr),(h5 x).2⟩⟩,h.dist,h.offF⟩
 ·have h9:=whole_setCellsT (encX q).toArray.toList (i * 38) w _ h2 (by
   have e1:(encX q).toArray.toList.length = 38:=encX_len q
   rw [e1,List.size_toArray,flatG_len encX_len,hxl]
   omega)
  rw [flatX_set xs i q (by omega)] at h9
  exact h9
 ·have hoff:OffX F p q' ∧ HasX w q':=by
   rcases List.mem_or_eq_of_mem_set hq' with h9 | h9
   ·exact ⟨(h3 q' h9).2,(h3 q' h9).1⟩
   ·subst h9; exact ⟨ho,hq⟩
  exact ⟨hoff.2.grown hg (hoff.1.1.ne hr) (hoff.1.2.ne hr),hoff.1⟩
theorem MkM.setMade (h:MkM F w its p mk) (n:Nat):MkM F (w.setCell ⟨p.m,2,none⟩ (.int .i64 (n:Int))) its p ⟨mk.objs,n,mk.dead⟩:=by
 have hg:w.grownBy (w.setCell ⟨p.m,2,none⟩ (.int .i64 (n:Int))) (some p.m):=gr_set (row:=some p.m) (gr_refl _ _) (p:=⟨p.m,2,none⟩) (.inl rfl) _
 have hr:∀ r,some p.m = some r → p.R r ∨ F r:=fun r e=>by injection e with e; exact .inl (.inl e.symm)
 obtain ⟨xs,h1,h2,h3⟩:=h.objs
 obtain ⟨N,V,h4,h5⟩:=h.names
 exact ⟨h.cells.put 2 (.int .i64 (n:Int)),h.items_g hg hr,h.itemsOff,⟨xs,h1,h2.grown hg (by simpa using h.dist.1.symm),fun q hq=>⟨(h3 q hq).1.grown hg ((h3 q hq).2.1.ne hr) ((h3 q hq).2.2.ne hr),(h3 q hq).2⟩⟩,h.olen,h.backs_g hg hr,⟨h.gbOff.1,Nat.lt_of_lt_of_le h.gbOff.2 hg.size⟩,⟨N,V,h4.grown hg (by simpa using h.dist.2.1.symm),fun x=>⟨(h5 x).1.grown hg ((h5 x).2.ne hr),(h5 x).2⟩⟩,h.dist,h.offF⟩
theorem MkM.del (h:MkM F w its p mk) (x:Nm) (hg:w.grownBy w' (some p.mb)) (hm:∀ N V,OwnMap w p.mb N V → OwnMap w' p.mb N (fun y=>if y = x then nilS else V y)):MkM F w' its p ⟨mk.objs,mk.made,x :: mk.dead⟩:=by
 have hr:∀ r,some p.mb = some r → p.R r ∨ F r:=fun r e=>by injection e with e; exact .inl (.inr (.inr e.symm))
 obtain ⟨xs,h1,h2,h3⟩:=h.objs
 obtain ⟨N,V,h4,h5⟩:=h.names
 refine ⟨h.cells.grown hg (by simpa using h.dist.2.1),h.items_g hg hr,h.itemsOff,⟨xs,h1,h2.grown hg (by simpa using h.dist.2.2),fun q hq=>⟨(h3 q hq).1.grown hg ((h3 q hq).2.1.ne hr) ((h3 q hq).2.2.ne hr),(h3 q hq).2⟩⟩,h.olen,h.backs_g hg hr,⟨h.gbOff.1,Nat.lt_of_lt_of_le h.gbOff.2 hg.size⟩,⟨N,fun y=>if y = x then (none,0) else V y,?_,fun y=>?_⟩,h.dist,h.offF⟩
 ·have h9:=hm N _ h4
  have he:(fun y=>if y = x then nilS else .slice (V y).1 (waits its mk.dead y).length (V y).2) = (fun y=>Value.slice (if y = x then (none,0) else V y).1 (waits its (x :: mk.dead) y).length (if y = x then (none,0) else V y).2):=by
   funext y
   rw [waits_cons]
   by_cases hy:y = x
   ·rw [if_pos hy,if_pos hy,if_pos hy]; rfl
   ·rw [if_neg hy,if_neg hy,if_neg hy]
  rw [he] at h9
  exact h9
 ·rw [waits_cons]
  by_cases hy:y = x
  ·have e:(fun y=>if y = x then ((none:Option Addr),0) else V y) y = (none,0):=if_pos hy
   rw [if_pos hy,e]
   exact ⟨argZ_nil _,fun k hk=>by obtain ⟨a,e,-⟩:=hk; cases e⟩
  ·have e:(fun y=>if y = x then ((none:Option Addr),0) else V y) y = V y:=if_neg hy
   rw [if_neg hy,e]
   exact ⟨(h5 y).1.grown hg ((h5 y).2.ne hr),(h5 y).2⟩
end
end
def NamX (p:Obx):Prop:=p.x.commit.time < 18446744073709551616 ∧ p.x.entries.length ≤ 1048576 ∧ (mayO' p.x = true → (bytesO p.x).length ≤ 100000)
theorem getX (xs:List Obx) (k:Nat) (h:k < xs.length):(xs.map Obx.x).getD k zO = (xs.getD k default).x:=by simp [List.getD,List.getElem?_eq_getElem h]
theorem wpList_rowN {w:World} {ops:Array Oper} {rest:List Oper} {o:Oper} {a:Act} {Q:Exit → Act → World → Prop} (hg:o.guard = none) (x:Operand) (g:Nat) (n:Nm) (ho:o.op = .load 30 x) (hx:a.eval x = .pointer (some ⟨g,0,none⟩)) (hW:Whole w g 30 (encN n).toArray) (h:wpList Tryz.prog ops Q rest (a.put o.dst (.agg (encN n).toArray)) w):wpList Tryz.prog ops Q (o :: rest) a w:=
 wpList_load_row hg 30 x ho g hx 30 (encN n).toArray (0,0) _ hW Tryz.underlying30 rfl (infoXs n) h
theorem pbyname_any (A:Option Addr) (c:Nat) (xs:List Obx) (w:World) (hTab:Tabs w) (hT:Tens w) (hA:ArgG encX default 38 w A c xs) (hH:∀ p ∈ xs,HasX w p) (hM:∀ p ∈ xs,NamX p) (hn:xs.length ≤ 100000) :
  Calls Tryz.prog 120 #[.slice A xs.length c] w fun e w'=>e = .returned (.map (some w.heap.size)) ∧ OwnI w' w.heap.size xs.length (plc (xs.map Obx.x) xs.length) ∧ Below w.heap.size w w':=by
 have hmm:=@run_makeMap Tryz.prog
 have HA:=Hy hA
 have hl1:=hTab.lt1
 have hl2:=hTab.lt2
 have HTB:=Hy hTab
 have HTE:=Hy hT
 have HX:Hid (∀ k,k < xs.length → HasX w (xs.getD k default) ∧ NamX (xs.getD k default)):=fun k hk=>by
  have:xs.getD k default = xs[k]:=by simp [List.getD,List.getElem?_eq_getElem hk]
  rw [this]
  exact ⟨hH _ (List.getElem_mem hk),hM _ (List.getElem_mem hk)⟩
 have hlc:=hA.1
 have HM0:=Hy (OwnI.made w)
 have HB0:=Hy ((Below.refl w.heap.size w).alloc (Nat.le_refl _) (.map #[] 0))
 clear hA hH hM hTab hT
 go_enter Tryz.func120,Tryz.ntmps120
 go_wp2
 generalize w.alloc (.map #[] 0) = w1 at *
 go_loopg [4,5,6,7,11] xs.length (fun g _ _ _ _ s11 wr=>∃ k:Nat,k ≤ xs.length ∧ xs.length - k ≤ g ∧ s11 = .int .i64 k ∧ Hid (OwnI wr w.heap.size k (plc (xs.map Obx.x) k)) ∧ Hid (Below w.heap.size w wr))
 case atStart=>exact ⟨0,Nat.zero_le _,by omega,rfl,HM0,HB0⟩
 case round=>
  obtain ⟨k,hk,hg,rfl,hmp,hwr⟩:=hrel
  by_cases hlt:k < xs.length
  ·have hlt':(k:Int) < (xs.length:Int):=by omega
   obtain ⟨bb,o,rfl,hr⟩:=(HA.out.later eltX hwr.out).2.2.2 (by omega)
   have hoy:=HX.out k hlt
   have hrk:=hr k hlt
   have hps:=plc_succ (xs.map Obx.x) k
   rw [getX xs k hlt] at hps
   obtain ⟨y,hy⟩:∃ y,y = xs.getD k default:=⟨_,rfl⟩
   rw [← hy] at hoy hrk hps
   have HRK:=Hy hrk
   have HPS:=Hy hps
   have HID:Hid (∀ W,Below w.heap.size w W → Calls Tryz.prog 150 #[.agg (encX y).toArray] W fun e w'=>e = .returned (.tuple #[.agg (encN (idO y.x)).toArray,.bool (mayO' y.x)]) ∧ Below W.heap.size W w'):=fun W hW=>oid_any y.A y.c y.A2 y.c2 y.x W (ArgO.later hoy.1 hW) hoy.2.1 hoy.2.2.1 (HTB.out.below hW hl1 hl2) (HTE.out.below hW) hoy.2.2.2
   clear hr hrk hy hoy hps
   obtain ⟨id,hid⟩:∃ id,id = idO y.x:=⟨_,rfl⟩
   obtain ⟨mo,hmo⟩:∃ mo,mo = mayO' y.x:=⟨_,rfl⟩
   rw [← hid,← hmo] at HID HPS
   clear hid hmo
   go_upto_region 5 with (first
    | (refine wpList_load_mid rfl 49 _ rfl bb (o + k * 38) rfl (encX y) _ HRK.out Tryz.underlying49 rfl (infoOx y) ?_)
    | (refine wpList_store_whole rfl 49 _ _ rfl wr.heap.size (encX y).toArray rfl rfl 49 _ (Whole.made wr _ _) (infoOx_s y) (by rw [encX_size]; rfl) (encX_all y) ?_; intro w3 hWn hGn; have HW3:=Hy hWn; have D3:=Hy (made_below' hGn); clear hWn hGn))
   have HB3:=Hy (hTr hwr D3.out)
   have HM3:=Hy (hmp.out.grown (grown_none D3.out) (by simp))
   have hs3:=D3.out.size
   clear hwr hmp D3
   go_upto_region 6 with (first
    | (refine wpList_load_row rfl 49 _ rfl wr.heap.size rfl 49 (encX y).toArray (0,0) _ HW3.out Tryz.underlying49 rfl (infoOx_s y) ?_)
    | (go_at_call 150; refine (HID.out w3 HB3.out).mono ?_; rintro e w4 ⟨rfl,hb4⟩; have HB4:=Hy (hTr HB3 hb4); have HM4:=Hy (HM3.out.grown (grown_none hb4) (by simp)); clear hb4)
    | (refine wpList_store_whole rfl 30 _ _ rfl w4.heap.size (encN id).toArray rfl rfl 30 _ (Whole.made w4 _ _) (infoXs id) (by rw [encN_size]; rfl) (encN_all id) ?_; intro w5 hWn hGn; have HW5:=Hy hWn; have D5:=Hy (made_below' hGn); clear hWn hGn))
   have HB5:=Hy (hTr HB4 D5.out)
   have HM5:=Hy (HM4.out.grown (grown_none D5.out) (by simp))
   clear HB3 HM3 HW3 HB4 HM4 D5 HID
   cases mo with
   | true=>
    have hfe:(fun x=>if x = id then some k else plc (xs.map Obx.x) k x) = plc (xs.map Obx.x) (k + 1):=by
     funext x
     rw [HPS.out x]
     by_cases hx:x = id
     ·rw [if_pos hx,if_pos ⟨rfl,hx.symm⟩]
     ·rw [if_neg hx,if_neg (fun h=>hx h.2.symm)]
    have HFE:=Hy hfe
    clear hfe
    go_wp2_with (first
     | (refine wpList_rowN rfl _ w4.heap.size id rfl rfl HW5.out ?_)
     | (refine wpList_updI rfl _ _ _ rfl rfl HM5.out (by omega) id rfl k (by omega) rfl ?_; intro w6 hmp6 hgr6; have HM6:=Hy hmp6; have HB6:=Hy (HB5.out.grown hgr6 HB5.out.size (fun j hj=>by injection hj with hj; omega)); clear hmp6 hgr6))
    go_roundg (xs.length - (k + 1))
    case measure=>omega
    case rel=>exact ⟨k + 1,by omega,Nat.le_refl _,by go_num,by rw [← HFE.out]; exact HM6,HB6⟩
   | false=>
    have hfe:plc (xs.map Obx.x) k = plc (xs.map Obx.x) (k + 1):=by
     funext x
     rw [HPS.out x,if_neg (fun h=>by cases h.1)]
    have HFE:=Hy hfe
    clear hfe
    go_wp2
    go_roundg (xs.length - (k + 1))
    case measure=>omega
    case rel=>exact ⟨k + 1,by omega,Nat.le_refl _,by go_num,by rw [← HFE.out]; exact (let ⟨D,h1,h2⟩:=HM5.out; ⟨D,h1.mono (Nat.le_succ _),h2⟩),HB5⟩
  ·obtain rfl:k = xs.length:=by omega
   go_wp2
   go_ret
   exact ⟨rfl,hmp.out,hwr.out⟩
end Go.Proofs.YtlfmooihcigolaaGreatDoor

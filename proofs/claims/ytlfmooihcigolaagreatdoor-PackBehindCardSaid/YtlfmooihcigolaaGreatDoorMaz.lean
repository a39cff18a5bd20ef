/-
  Rgf, Spl, SeqS, ObD, Dig, RefI, RefS.
-/
import Derived.RangeFuncNested
import Derived.RangeFuncBound
import Derived.RangeFuncCalls
import Derived.RangeFuncLeaves
import Derived.RangeFuncFrom
import Derived.RangeFuncBox
import Derived.Shelf.Abstract
import Derived.Shelf.RegionOpen
import Derived.LoopIn
import Derived.Test.YtlfmooihcigolaaGreatDoorMay
import Derived.Lib.ItoaNum
set_option maxRecDepth 100000
set_option maxHeartbeats 8000000
namespace Go.Proofs.YtlfmooihcigolaaGreatDoor
section
open Go.RowKit
def Bears {β:Type} (B0:Nat) (J:β → World → Prop):Prop:=∀ s A B row,J s A → A.grownBy B row → (∀ r,row = some r → r = B0) → J s B
def SeqC {α:Type} (F:Fence) (n:Nat) (P:Program) (g:Nat) (lb:Array Value) (encs:α → Array Value) (Kp:World → World → Prop) (S Sp:List α → Prop) (N B0:Nat) (Ok:α → Prop) (w:World):Prop:=
 ∀ (l:Nat) (J Jx:List α → World → Prop) (W:World),Below w.heap.size w W → Bears B0 J → Bears B0 Jx →
  (∀ pre x W1,J pre W1 → pre.length < N → Ok x → YieldAt F (n - 1) P l (encs x) W1 fun e W'=>(e = .returned (.bool true) ∧ J (pre ++ [x]) W' ∧ Kp W1 W') ∨ (e = .returned (.bool false) ∧ Jx (pre ++ [x]) W')) →
  J [] W → CallsIn F n P g (#[.func (.yield l) #[] #[]] ++ lb) W fun e W'=>(∃ v,e = .returned v) ∧ ((∃ xs,S xs ∧ J xs W') ∨ (∃ pre,Sp pre ∧ Jx pre W'))
theorem stays {W W':World} {row:Option Nat} {k:Nat} {o:Obj} (h:W.heap[k]? = some o) (hg:W.grownBy W' row) (hn:some k ≠ row):W'.heap[k]? = some o:=(hg.block k (Array.getElem?_eq_some_iff.1 h).1 hn).trans h
theorem range_cell {α:Type} {F:Fence} {n:Nat} {P:Program} {g:Operand} {ps:Array Tmp} {assign body:Code} {Q:Exit → Act → World → Prop} {a:Act} {w:World} (hro:F.round = none) (h1:1 ≤ n) {gf:Nat} {lb:Array Value}
  (hg:a.eval g = .func (.func gf) #[] lb) (hFg:F.fn gf) (eg:∀ args w,(callFunc gf args).run P w = .ok (.enter gf args) w) {encs:α → Array Value} {Kp:World → World → Prop} {S Sp:List α → Prop} {N B0:Nat} {Ok:α → Prop} (hB0:B0 < w.heap.size)
  (hseq:SeqC F (n - 1) P gf lb encs Kp S Sp N B0 Ok w) (hKt:∀ {A B C:World},Kp A B → Kp B C → Kp A C) (hKb:∀ (W:World) (l:Nat) (o':Obj),w.heap.size ≤ l → l < W.heap.size → Kp W (W.putObj l o')) (hps:∀ x,(encs x).size = ps.size)
  (I:List α → World → Prop) (Ix:Code → List α → World → Prop) (hI:OwnFrom w.heap.size I) (hIx:∀ c,OwnFrom w.heap.size (Ix c)) (hIb:Bears B0 I) (hIxb:∀ c,Bears B0 (Ix c)) (h0:I [] w) (a₁:α → Act)
  (hassign:∀ (l:Nat) (x:α) (W:World) (K:Act → World → Prop),K (a₁ x) W →
   assign.wpIn (F.inRound l) (n - 1 - 1) P (Exit.then K (fun _ _ _=>False)) { tmps:=(ps.zip (encs x)).foldl (fun t (p,v)=>t.setIfInBounds p v) a.tmps,defers:=[] } W)
  (hbody:∀ (l:Nat) (pre:List α) (x:α) (W:World),w.heap.size < W.heap.size → I pre W → pre.length < N → Ok x → body.wpIn (F.inRound l) (n - 1 - 1) P (ownPostK Kp I Ix (pre ++ [x]) W) (a₁ x) W)
  (hdone:∀ (D:Nat) (xs:List α) (W:World),w.heap.size ≤ D → S xs → I xs W → W.heap[D]? = some (.deferred (some [])) → Q .normal { a with defers:={ target:=.collected D,args:=#[] } :: a.defers } W)
  (hstop:∀ (D:Nat) (c:Code) (pre:List α) (W:World),w.heap.size ≤ D → Sp pre → Ix c pre W → W.heap[D]? = some (.deferred (some [])) → c.wpIn F n P Q { a with defers:={ target:=.collected D,args:=#[] } :: a.defers } W) :
  (Code.rangeFunc g ps assign body).wpIn F n P Q a w:=by
 refine wpIn_rangeFunc fun fn hfn=>?_
 rw [hro]
 let R:LoopState → Option Code → Loop:=fun st pe=>{ state:=st,pending:=pe,fn,tmps:=a.tmps,params:=ps,assign,body,defers:=w.heap.size }
 obtain ⟨D,hD⟩:∃ D,D = w.heap.size:=⟨_,rfl⟩
 have hR:∀ st pe,R st pe = { state:=st,pending:=pe,fn,tmps:=a.tmps,params:=ps,assign,body,defers:=w.heap.size }:=fun _ _=>rfl
 clear_value R
 obtain ⟨U,hU⟩:∃ U,U = (w.alloc (.deferred (some []))).alloc (.loop (R .ready none)):=⟨_,rfl⟩
 have sU:U.heap.size = D + 2:=by rw [hU,hD]; simp
 have uL:U.heap[D + 1]? = some (.loop (R .ready none)):=by
  have h:=World.alloc_heap_new (w.alloc (.deferred (some []))) (.loop (R .ready none))
  rw [World.size_alloc,← hD,← hU] at h
  exact h
 have uD:U.heap[D]? = some (.deferred (some [])):=by
  rw [hU,hD]
  exact (Below.heap_alloc _ _ _ (by simp)).trans (World.alloc_heap_new w _)
 have uI:I [] U:=by rw [hU]; exact hI.alloc _ (hI.alloc _ h0)
 have uB:Below w.heap.size w U:=by rw [hU]; exact ((Below.refl _ w).alloc (Nat.le_refl _) _).alloc (by simp) _
 have hne1:∀ {row:Option Nat},(∀ r,row = some r → r = B0) → some (D + 1) ≠ row:=fun hr e=>by have:=hr _ e.symm; omega
 have hne0:∀ {row:Option Nat},(∀ r,row = some r → r = B0) → some D ≠ row:=fun hr e=>by have:=hr _ e.symm; omega
 refine ⟨D + 1,[{ target:=.collected D,args:=#[] }],U,{ target:=.fn (.func gf) lb,args:=#[.func (.yield (D + 1)) #[] #[]] },U,gf,#[.func (.yield (D + 1)) #[] #[]] ++ lb,U,?_,?_,?_,?_,fun _=>h1,?_⟩
 ·rw [hU,hD,hR]
  exact run_enterLoop_outer _ _ _ _ _
 ·simp only [resolve,hg]
  simp [go_sem]
 ·intro f' hf'
  simp [Target.leads] at hf'
  subst hf'
  exact hFg
 ·simp [invoke,go_sem,eg]
 ·refine (hseq (D + 1) (fun pre W=>I pre W ∧ W.heap[D + 1]? = some (.loop (R .ready none)) ∧ W.heap[D]? = some (.deferred (some [])))
   (fun pre W=>∃ c,Ix c pre W ∧ W.heap[D + 1]? = some (.loop (R .done (some c))) ∧ W.heap[D]? = some (.deferred (some []))) U uB
   (fun s A B row h k hr=>⟨hIb s A B row h.1 k hr,stays h.2.1 k (hne1 hr),stays h.2.2 k (hne0 hr)⟩)
   (fun s A B row h k hr=>by
    obtain ⟨c,hc,h2,h3⟩:=h
    exact ⟨c,hIxb c s A B row hc k hr,stays h2 k (hne1 hr),stays h3 k (hne0 hr)⟩) ?_ ⟨uI,uL,uD⟩).mono ?_
  ·rintro pre x W ⟨hi,hl,hk⟩ hlen hok
   have hlt:D + 1 < W.heap.size:=(Array.getElem?_eq_some_iff.1 hl).1
   have hy:=run_yield (P:=P) (args:=encs x) hl (by rw [hR]; exact hps x)
   rw [hR] at hy
   refine ⟨fn,_,assign,body,hy,roundIn_of_wpIn hfn (hassign _ x W _ ⟨_,run_beginRound hl (by rw [hR]),?_⟩)⟩
   obtain ⟨V,hV⟩:∃ V,V = W.putObj (D + 1) (.loop { R .ready none with state:=.busy }):=⟨_,rfl⟩
   rw [← hV]
   have vL:V.heap[D + 1]? = some (.loop { R .ready none with state:=.busy }):=by rw [hV]; exact World.putObj_heap_same hlt
   have vD:V.heap[D]? = some (.deferred (some [])):=by rw [hV]; exact (World.putObj_heap_other (by omega)).trans hk
   have vK:Kp W V:=by rw [hV]; exact hKb _ _ _ (by omega) hlt
   have vI:I pre V:=by rw [hV]; exact hI.putObj _ hi (by omega) hl rfl
   have vS:w.heap.size < V.heap.size:=by have:=(Array.getElem?_eq_some_iff.1 vL).1; omega
   refine wpIn_mono (hbody _ pre x V vS vI hlen hok) ?_
   have fin:∀ (jump:Option Code) (X:World),KeepsOthers V X → (Instr.endRound (D + 1) jump).run P X = .ok (.bool jump.isNone) (X.putObj (D + 1) (.loop (R (if jump.isNone then .ready else .done) jump))) ∧
     X.heap[D + 1]? = some (.loop { R .ready none with state:=.busy }) ∧ (X.putObj (D + 1) (.loop (R (if jump.isNone then .ready else .done) jump))).heap[D + 1]? = some (.loop (R (if jump.isNone then .ready else .done) jump)) ∧
     (X.putObj (D + 1) (.loop (R (if jump.isNone then .ready else .done) jump))).heap[D]? = some (.deferred (some [])):=by
    intro jump X hX
    have xL:=hX.same _ _ vL rfl
    have xE:=run_endRound (P:=P) jump xL
    simp only [hR] at xE xL ⊢
    exact ⟨xE,xL,World.putObj_heap_same (Array.getElem?_eq_some_iff.1 xL).1,(World.putObj_heap_other (by omega)).trans (hX.same _ _ vD rfl)⟩
   have out:∀ (c:Code) (X:World),KeepsOthers V X → Ix c (pre ++ [x]) X → ∃ b Y,(Instr.endRound (D + 1) (some c)).run P X = .ok (.bool b) Y ∧ b = false ∧ Ix c (pre ++ [x]) Y ∧ Y.heap[D + 1]? = some (.loop (R .done (some c))) ∧ Y.heap[D]? = some (.deferred (some [])):=by
    intro c X hX hi3
    obtain ⟨e1,e2,e3,e4⟩:=fin (some c) X hX
    exact ⟨_,_,e1,rfl,(hIx c).putObj _ hi3 (by omega) e2 rfl,e3,e4⟩
   rintro e a3 X hp
   cases e with
   | normal=>
    obtain ⟨hX,hKX,hi3⟩:=hp
    obtain ⟨e1,e2,e3,e4⟩:=fin none X hX
    have hlx:D + 1 < X.heap.size:=(Array.getElem?_eq_some_iff.1 e2).1
    exact ⟨_,_,e1,.inl ⟨rfl,⟨hI.putObj _ hi3 (by omega) e2 rfl,e3,e4⟩,hKt (hKt vK hKX) (hKb _ _ _ (by omega) hlx)⟩⟩
   | ret=>
    obtain ⟨b,Y,e1,rfl,h5,h6,h7⟩:=out .ret X hp.1 hp.2
    exact ⟨_,_,e1,.inr ⟨rfl,.ret,h5,h6,h7⟩⟩
   | exit id=>
    obtain ⟨b,Y,e1,rfl,h5,h6,h7⟩:=out (.exit id) X hp.1 hp.2
    exact ⟨_,_,e1,.inr ⟨rfl,.exit id,h5,h6,h7⟩⟩
   | goto t=>
    obtain ⟨b,Y,e1,rfl,h5,h6,h7⟩:=out (.goto t) X hp.1 hp.2
    exact ⟨_,_,e1,.inr ⟨rfl,.goto t,h5,h6,h7⟩⟩
   | panic ch=>exact hp.elim
   | outgrown=>exact hp.elim
  ·rintro e X ⟨⟨v,rfl⟩,(⟨xs,hS,hi,hl,hk⟩ | ⟨pre,hSp,c,hi,hl,hk⟩)⟩
   ·have he:=run_endLoop (P:=P) hl (by rw [hR]; simp)
    rw [hR] at he
    exact ⟨none,_,he,hdone D xs _ (by omega) hS (hI.putObj _ hi (by omega) hl rfl) ((World.putObj_heap_other (by omega)).trans hk)⟩
   ·have he:=run_endLoop (P:=P) hl (by rw [hR]; simp)
    rw [hR] at he
    exact ⟨some c,_,he,hstop D c pre _ (by omega) hSp ((hIx c).putObj _ hi (by omega) hl rfl) ((World.putObj_heap_other (by omega)).trans hk)⟩
end
def splitV:List UInt8 → List (List UInt8)
 | []=>[[]]
 | b :: r=>if b = 47 then [] :: splitV r else (b :: (splitV r).headD []) :: (splitV r).tail
theorem splitV_none (t:List UInt8) (h:(47:UInt8) ∉ t):splitV t = [t]:=by
 induction t with
 | nil=>rfl
 | cons b r ih=>
  have hb:b ≠ 47:=fun e=>h (by simp [e])
  unfold splitV
  rw [if_neg hb,ih (fun hm=>h (List.mem_cons_of_mem _ hm))]
  rfl
theorem splitV_cut (p r:List UInt8) (h:(47:UInt8) ∉ p):splitV (p ++ 47 :: r) = p :: splitV r:=by
 induction p with
 | nil=>simp [splitV]
 | cons b p ih=>
  have hb:b ≠ 47:=fun e=>h (by simp [e])
  rw [List.cons_append,splitV,if_neg hb,ih (fun hm=>h (List.mem_cons_of_mem _ hm))]
  simp
theorem splitV_len:∀ t,(splitV t).length ≤ t.length + 1
 | []=>Nat.le_refl _
 | b :: r=>by
  have ih:=splitV_len r
  unfold splitV
  split
  ·simp; omega
  ·simp; omega
theorem index_slash:∀ t:List UInt8,(Lib.indexByte t 47 = -1 ∧ (47:UInt8) ∉ t) ∨ ∃ p r,t = p ++ 47 :: r ∧ (47:UInt8) ∉ p ∧ Lib.indexByte t 47 = (p.length:Int)
 | []=>.inl ⟨by simp [Lib.indexByte],by simp⟩
 | b :: l=>by
  by_cases hb:b = 47
  ·subst hb
   exact .inr ⟨[],l,rfl,by simp,by simp [Lib.indexByte]⟩
  ·have hb':¬ (47:UInt8) = b:=fun e=>hb e.symm
   have hq:(b == 47) = false:=by simpa using hb
   rcases index_slash l with ⟨h1,h2⟩ | ⟨p,r,h1,h2,h3⟩
   ·refine .inl ⟨?_,by simp [hb',h2]⟩
    unfold Lib.indexByte
    rw [hq,h1]
    rfl
   ·refine .inr ⟨b :: p,r,by rw [h1]; rfl,by simp [hb',h2],?_⟩
    unfold Lib.indexByte
    rw [hq,h3]
    have:((p.length:Int) == -1) = false:=by rw [beq_eq_false_iff_ne]; omega
    simp [this]
def pathV (s:List UInt8):Option (List (List UInt8)):=if s = [] then some [] else if (splitV s).all okName then some (splitV s) else none
section
open Go.RowKit Go.Shelf
attribute [local go_sem] Oper.semAt_some
theorem sx_to (l:List UInt8) (n:Nat):(ByteArray.mk l.toArray).extract 0 n = ⟨(l.take n).toArray⟩:=by
 rw [ByteArray.extract_mk]
 simp
theorem sx_from (l:List UInt8) (n m:Nat) (h:m = l.length):(ByteArray.mk l.toArray).extract n m = ⟨(l.drop n).toArray⟩:=by
 subst h
 rw [ByteArray.extract_mk]
 congr 1
 apply Array.ext'
 simp
 exact List.take_of_length_le (by rw [List.length_drop]; omega)
theorem index_sl (t:List UInt8) (w:World):Calls Tryz.prog 274 #[.string ⟨t.toArray⟩,.string ⟨#[47]⟩] w fun e w'=>e = .returned (.int .i64 (Lib.indexByte t 47)) ∧ w' = w:=Tryz.strings_Index_one ⟨t.toArray⟩ 47 w
theorem sclone_any (t:List UInt8) (w:World) (hl:t.length ≤ 281474976710656):Calls Tryz.prog 132 #[.string ⟨t.toArray⟩] w fun e w'=>e = .returned (.string ⟨t.toArray⟩) ∧ Below w.heap.size w w':=by
 have HC:=Hy (Tryz.stringslite_Clone ⟨t.toArray⟩ w (by show t.toArray.size ≤ _; simpa using hl))
 clear hl
 go_enter Tryz.func132,Tryz.ntmps132
 go_wp2_with fail
 refine HC.out.mono ?_
 rintro e w1 ⟨rfl,hB⟩
 have HB:=Hy hB
 clear hB
 go_wp2
 go_ret
 exact ⟨rfl,HB.out⟩
def KpR (H:Nat) (W W':World):Prop:=W.heap.size ≤ W'.heap.size ∧ ∀ k,H ≤ k → k < H + 3 → W'.heap[k]? = W.heap[k]?
theorem KpR.box {H k:Nat} {W W':World} {t:TypeId} {v:Value} (h:KpR H W W') (b:Boxed W k t v) (h1:H ≤ k) (h2:k < H + 3):Boxed W' k t v:=(h.2 k h1 h2).trans b
def szS:Option Value → Nat
 | some (.string b)=>b.size
 | _=>0
theorem seq1_in (l H:Nat) (s:List UInt8) (hl:s.length ≤ 1048576) (n:Nat) (hn:2 ≤ n) (J Jx:List (List UInt8) → World → Prop) (hJ:Bears H J)
  (hY:∀ pre x W,J pre W → pre.length < s.length + 1 → x.length ≤ s.length → YieldAt Fence.wide (n - 1) Tryz.prog l #[.string ⟨x.toArray⟩] W fun e W'=>(e = .returned (.bool true) ∧ J (pre ++ [x]) W' ∧ KpR H W W') ∨ (e = .returned (.bool false) ∧ Jx (pre ++ [x]) W'))
  (W:World) (h1:Boxed W (H + 1) 9 (.string ⟨#[47]⟩)) (h0:Boxed W H 9 (.string ⟨s.toArray⟩)) (h2:Boxed W (H + 2) 3 (.int .i64 0)) (hJ0:J [] W) :
  CallsIn Fence.wide n Tryz.prog 272 #[.func (.yield l) #[] #[],.pointer (some ⟨H + 1,0,none⟩),.pointer (some ⟨H,0,none⟩),.pointer (some ⟨H + 2,0,none⟩)] W fun e W'=>
   (∃ v,e = .returned v) ∧ ((∃ xs,xs = splitV s ∧ J xs W') ∨ (∃ pre,pre <+: splitV s ∧ Jx pre W')):=by
 have HB1:=Hy h1
 have HB0:=Hy h0
 have HB2:=Hy h2
 have HJ0:=Hy hJ0
 have HJ:=Hy hJ
 have HY:=Hy hY
 have c1:=h1.cell
 have hn1:1 ≤ n:=by omega
 clear h1 h0 h2 hJ0 hJ hY
 refine callsIn_of_wp Tryz.func272 rfl trivial ?_ rfl
 simp only [Tryz.ntmps272,List.size_toArray,List.length_cons,List.length_nil,Nat.reduceAdd,Nat.reduceSub,Array.replicate_succ,Array.replicate_zero,List.push_toArray,List.append_toArray,List.nil_append,List.cons_append]
 gi_wp2
 clear c1
 gi_loopw [7,8] (fun s7 s8 wr=>∃ (pre:List (List UInt8)) (t:List UInt8),splitV s = pre ++ splitV t ∧ pre.length + t.length ≤ s.length ∧ Hid (Boxed wr (H + 1) 9 (.string ⟨#[47]⟩)) ∧ Hid (Boxed wr H 9 (.string ⟨t.toArray⟩)) ∧ Hid (Boxed wr (H + 2) 3 (.int .i64 0)) ∧ Hid (J pre wr)) (fun _ _ wr=>szS (wr.cell? ⟨H,0,none⟩))
 case atStart=>exact ⟨[],s,rfl,by simp,HB1,HB0,HB2,HJ0⟩
 case round=>
  obtain ⟨pre,t,hs,hlen,b1,b0,b2,hj⟩:=hrel
  have c1:=b1.out.cell
  have c0:=b0.out.cell
  have c2:=b2.out.cell
  have HIX:=Hy (index_sl t wr)
  have HS:=Hy hs
  clear hs
  rcases index_slash t with ⟨hi,hno⟩ | ⟨p,r,ht,hp,hi⟩
  ·rw [hi] at HIX
   have HNO:=Hy hno
   obtain ⟨fn,tmps,assign,body,hy,hR⟩:=HY.out pre t wr hj.out (by omega) (by omega)
   have HRR:=Hy hR
   clear hno hi hR
   gi_wp2_with (refine ⟨trivial,?_⟩; gi_at_call 274; refine (callsIn_wide.2 HIX.out).mono ?_; rintro e w' ⟨rfl,rfl⟩)
   refine HRR.out.mono ?_
   rintro e W3 (⟨rfl,hJ3,hk3⟩ | ⟨rfl,hJx3⟩)
   ·have HF:=Hy hJ3
    clear hJ3
    gi_wp2
    go_end0
    exact ⟨⟨_,rfl⟩,.inl ⟨_,by rw [HS.out,splitV_none t HNO.out],HF.out⟩⟩
   ·have HF:=Hy hJx3
    clear hJx3
    gi_wp2
    go_end0
    exact ⟨⟨_,rfl⟩,.inr ⟨_,by rw [HS.out,splitV_none t HNO.out]; exact List.prefix_refl _,HF.out⟩⟩
  ·rw [hi] at HIX
   have htl:t.length = p.length + 1 + r.length:=by rw [ht]; simp; omega
   have e1:(ByteArray.mk t.toArray).extract 0 p.length = ⟨p.toArray⟩:=by rw [sx_to,ht,List.take_left]
   have HSZ:Hid (szS (wr.cell? ⟨H,0,none⟩) = t.length):=by
    show _ = _
    rw [c0]
    show t.toArray.size = t.length
    simp
   have e2:(ByteArray.mk t.toArray).extract (p.length + 1) (p.length + 1 + r.length) = ⟨r.toArray⟩:=by
    rw [sx_from t _ _ htl.symm,ht,show p ++ 47 :: r = (p ++ [47]) ++ r by simp,show p.length + 1 = (p ++ [47]).length by simp,List.drop_left]
   have HSP:Hid (splitV s = (pre ++ [p]) ++ splitV r):=by
    show _ = _
    rw [HS.out,ht,splitV_cut p r hp]
    simp
   obtain ⟨fn,tmps,assign,body,hy,hR⟩:=HY.out pre p wr hj.out (by omega) (by omega)
   have HRR:=Hy hR
   clear hi hp ht hR
   gi_wp2_with (refine ⟨trivial,?_⟩; gi_at_call 274; refine (callsIn_wide.2 HIX.out).mono ?_; rintro e w' ⟨rfl,rfl⟩)
   refine HRR.out.mono ?_
   rintro e W3 (⟨rfl,hJ3,hk3⟩ | ⟨rfl,hJx3⟩)
   ·have b13:=hk3.box b1.out (by omega) (by omega)
    have b03:=hk3.box b0.out (by omega) (by omega)
    have b23:=hk3.box b2.out (by omega) (by omega)
    have c1:=b13.cell
    have c0:=b03.cell
    have f0:=b03.frozen
    have HB1:=Hy (b13.kept (grownBy_setCell' W3 H (.string ⟨r.toArray⟩)) (fun e=>by injection e with e; omega))
    have HB0:=Hy (b03.set (.string ⟨r.toArray⟩))
    have HB2:=Hy (b23.kept (grownBy_setCell' W3 H (.string ⟨r.toArray⟩)) (fun e=>by injection e with e; omega))
    have HJN:=Hy (HJ.out _ _ _ _ hJ3 (grownBy_setCell' W3 H (.string ⟨r.toArray⟩)) (fun r e=>by injection e with e; exact e.symm))
    have HM:Hid (szS ((W3.setCell ⟨H,0,none⟩ (.string ⟨r.toArray⟩)).cell? ⟨H,0,none⟩) < t.length):=by
     show _ < _
     rw [HB0.out.cell]
     show r.toArray.size < t.length
     simp
     omega
    clear b13 b03 b23 hJ3 hk3 hy
    gi_wp2
    go_roundw
    case rel=>exact ⟨pre ++ [p],r,HSP.out,by simp; omega,HB1,HB0,HB2,HJN⟩
    case measure=>
     rw [HSZ.out]
     exact HM.out
   ·have HF:=Hy hJx3
    clear hJx3
    gi_wp2
    refine bodyPost_ret (results_none rfl _ _ _) rfl ?_
    exact ⟨⟨_,rfl⟩,.inr ⟨_,by rw [HSP.out]; exact List.prefix_append _ _,HF.out⟩⟩
theorem seq_any (s:List UInt8) (w:World):Calls Tryz.prog 199 #[.string ⟨s.toArray⟩,.string ⟨#[47]⟩] w fun e w'=>e = .returned (.func (.func 272) #[] #[.pointer (some ⟨w.heap.size + 1,0,none⟩),.pointer (some ⟨w.heap.size,0,none⟩),.pointer (some ⟨w.heap.size + 2,0,none⟩)]) ∧
  w' = ((w.alloc (.cells #[.string ⟨s.toArray⟩] 9)).alloc (.cells #[.string ⟨#[47]⟩] 9)).alloc (.cells #[.int .i64 0] 3):=by
 have h:Calls Tryz.prog 237 #[.string ⟨s.toArray⟩,.string ⟨#[47]⟩,.int .i64 0] w fun e w'=>e = .returned (.func (.func 272) #[] #[.pointer (some ⟨w.heap.size + 1,0,none⟩),.pointer (some ⟨w.heap.size,0,none⟩),.pointer (some ⟨w.heap.size + 2,0,none⟩)]) ∧
   w' = ((w.alloc (.cells #[.string ⟨s.toArray⟩] 9)).alloc (.cells #[.string ⟨#[47]⟩] 9)).alloc (.cells #[.int .i64 0] 3):=by
  have hmf:∀ (fn:Fn) (first cap:Array Value) (w:World),(Instr.makeFunc fn first cap).run Tryz.prog w = .ok (.func fn first cap) w:=fun _ _ _ _=>rfl
  go_enter Tryz.func237,Tryz.ntmps237
  go_wp2
  go_ret
  exact ⟨rfl,rfl⟩
 have H:=Hy h
 clear h
 go_enter Tryz.func199,Tryz.ntmps199
 go_wp2_with fail
 refine H.out.mono ?_
 rintro e w' ⟨rfl,rfl⟩
 go_wp2
 go_ret
 exact ⟨rfl,rfl⟩
theorem seq_stops (s:List UInt8) (hl:s.length ≤ 1048576) (n:Nat) (hn:2 ≤ n) (H:Nat) (w:World) (h0:Boxed w H 9 (.string ⟨s.toArray⟩)) (h1:Boxed w (H + 1) 9 (.string ⟨#[47]⟩)) (h2:Boxed w (H + 2) 3 (.int .i64 0)) :
  SeqC Fence.wide n Tryz.prog 272 #[.pointer (some ⟨H + 1,0,none⟩),.pointer (some ⟨H,0,none⟩),.pointer (some ⟨H + 2,0,none⟩)] (fun x:List UInt8=>#[Value.string ⟨x.toArray⟩]) (KpR H) (fun xs=>xs = splitV s) (fun pre=>pre <+: splitV s) (s.length + 1) H (fun x=>x.length ≤ s.length) w:=
 fun l J Jx W hW hJ _ hY hJ0=>seq1_in l H s hl n hn J Jx hJ hY W ((hW.block _ h1.lt).trans h1) ((hW.block _ h0.lt).trans h0) ((hW.block _ h2.lt).trans h2) hJ0
end
section
open Go.RowKit
theorem oput_any (A:Option Addr) (c:Nat) (A2:Option Addr) (c2:Nat) (x:Ob) (w:World) (hA:ArgO w A c A2 c2 x) (ht:x.commit.time < 18446744073709551616) (hl:x.entries.length ≤ 1048576) :
  Calls Tryz.prog 73 #[.agg (encO A c A2 c2 x).toArray] w fun e w'=>e = .returned (.tuple #[.string ⟨(if mayO' x then bytesO x else []).toArray⟩,.bool (mayO' x)]) ∧ Below w.heap.size w w':=by
 obtain ⟨hW,hB,hA0⟩:=obox A c A2 c2 x w hA
 have HB:=Hy hB
 have HXS:=Hy (infoO_s A c A2 c2 x)
 have HOM:=Hy (omay_any A c A2 c2 x _ hA0 ht hl)
 have HW:=Hy hW
 cases hm:mayO' x with
 | false=>
  rw [hm] at HOM
  clear hm hW hB hA0 hA ht hl
  generalize (encO A c A2 c2 x).toArray = cs at *
  go_enter Tryz.func73,Tryz.ntmps73
  go_wp2_with (refine wpList_load_row rfl 49 _ rfl w.heap.size rfl 49 cs (0,0) _ HW.out Tryz.underlying49 rfl HXS.out ?_)
  refine HOM.out.mono ?_
  rintro e w1 ⟨rfl,hb⟩
  have HB1:=Hy (hTr HB hb)
  clear hb
  go_wp2
  go_ret2
  exact ⟨rfl,HB1.out⟩
 | true=>
  rw [hm] at HOM
  have hm1:bodyO x = true:=by
   unfold mayO' at hm
   simp only [Bool.and_eq_true] at hm
   exact hm.1
  have HA0:=Hy hA0
  have HT:=Hy ht
  have HL:=Hy hl
  clear hm hB hA0 hA ht hl
  have HQ:Hid (bytesO x = if x.kind = 2 then encT x.entries else if x.kind = 3 then bytesC x.commit else x.blob):=rfl
  have HM:Hid (bodyO x = true):=hm1
  unfold bodyO at hm1
  have HTX:=Hy (encO_commit A c A2 c2 x hW)
  have HXI:=Hy (infoC_l A2 c2 x.commit)
  have E0:=Hy (encO_0 A c A2 c2 x)
  have E1:=Hy (encO_1 A c A2 c2 x)
  have E2:=Hy (encO_2 A c A2 c2 x)
  clear hW
  generalize (encO A c A2 c2 x).toArray = cs at *
  go_enter Tryz.func73,Tryz.ntmps73
  go_wp2_with (refine wpList_load_row rfl 49 _ rfl w.heap.size rfl 49 cs (0,0) _ HW.out Tryz.underlying49 rfl HXS.out ?_)
  generalize w.alloc (.cells cs 49) = w0 at *
  refine HOM.out.mono ?_
  rintro e w1 ⟨rfl,hb⟩
  have HB1:=Hy (hTr HB hb)
  have hW1:=HW.out.below hb HW.out.lt
  have e0:=(hW1.at_ 0).trans E0.out
  have e1:=(hW1.at_ 1).trans E1.out
  have e2:=(hW1.at_ 2).trans E2.out
  have HA1:=Hy (HA0.out.later hb)
  have HTX1:Hid (w1.rangeAt w.heap.size 3 (encC A2 c2 x.commit)):=fun j v hv=>(hb.cell (p:=⟨w.heap.size,3 + j,none⟩) HW.out.lt).trans (HTX.out j v hv)
  clear hb hW1
  by_cases h2:x.kind = 2
  ·have hm2:mayT x.entries = true:=by
    rw [if_neg (by rw [h2]; decide),if_pos h2] at hm1
    exact hm1
   have HTP:=Hy (tput_any A c x.entries w1 HA1.out.1 HL.out)
   rw [hm2,if_pos rfl] at HTP
   have HQ2:Hid (bytesO x = encT x.entries):=by show _ = _; rw [HQ.out,if_pos h2]
   rw [h2] at e0
   clear hm1 hm2 h2
   generalize encT x.entries = bt at *
   generalize x.entries.length = px at *
   go_wp2_with fail
   refine HTP.out.mono ?_
   rintro e w2 ⟨rfl,hb⟩
   have HB2:=Hy (hTr HB1 hb)
   clear hb
   go_wp2
   go_ret2
   exact ⟨by rw [HQ2.out]; rfl,HB2.out⟩
  by_cases h3:x.kind = 3
  ·have hm2:mayC x.commit = true:=by
    rw [if_neg (by rw [h3]; decide),if_neg h2,if_pos h3] at hm1
    exact hm1
   have HTP:=Hy (cput_any A2 c2 x.commit w1 HA1.out.2 HT.out)
   rw [hm2,if_pos rfl] at HTP
   have HQ2:Hid (bytesO x = bytesC x.commit):=by show _ = _; rw [HQ.out,if_neg h2,if_pos h3]
   rw [h3] at e0
   clear hm1 hm2 h2 h3
   generalize bytesC x.commit = bt at *
   generalize encC A2 c2 x.commit = tx at *
   go_wp2_with (refine wpList_load_mid rfl 47 _ rfl w.heap.size 3 rfl tx _ HTX1.out Tryz.underlying47 rfl HXI.out ?_)
   refine HTP.out.mono ?_
   rintro e w2 ⟨rfl,hb⟩
   have HB2:=Hy (hTr HB1 hb)
   clear hb
   go_wp2
   go_ret2
   exact ⟨by rw [HQ2.out]; rfl,HB2.out⟩
  have hbl:x.blob.length ≤ 1000:=by
   by_cases h1:x.kind = 1
   ·rw [if_pos h1] at hm1
    simpa using hm1
   ·rw [if_neg h1,if_neg h2,if_neg h3] at hm1
    cases hm1
  have HCL:=Hy (sclone_any x.blob w1 (by omega))
  have HQ2:Hid (bytesO x = x.blob):=by show _ = _; rw [HQ.out,if_neg h2,if_neg h3]
  have g2:(x.kind == 2) = false:=by simpa using h2
  have g3:(x.kind == 3) = false:=by simpa using h3
  clear hm1 hbl h2 h3
  generalize x.blob = bt at *
  generalize x.kind = kx at *
  go_wp2_with fail
  refine HCL.out.mono ?_
  rintro e w2 ⟨rfl,hb⟩
  have HB2:=Hy (hTr HB1 hb)
  clear hb
  go_wp2
  go_ret2
  exact ⟨by rw [HQ2.out]; rfl,HB2.out⟩
end
section
open Go.RowKit
theorem str_one (x:UInt8) (i:Int) (hi:i = (x.toNat:Int)) (W:World):(convert 63 9 (.slice (some ⟨W.heap.size,0,none⟩) 1 1)).run Tryz.prog (W.alloc (.cells #[.int .u8 i] 5)) = .ok (.string ⟨[x].toArray⟩) (W.alloc (.cells #[.int .u8 i] 5)):=by
 subst hi
 refine bytes_str (P:=Tryz.prog) 63 9 5 Tryz.underlying63 Tryz.underlying5 Tryz.underlying9 (bs:=[x]) ⟨_,1,rfl,Nat.le_refl _,by unfold maxLen; omega,fun _=>⟨_,0,rfl,fun i hi=>?_⟩⟩
 obtain rfl:i = 0:=by simp at hi; exact hi
 exact ((Whole.made W 5 #[.int .u8 (x.toNat:Int)]).at_ 0).trans rfl
end
section
open Go.RowKit
theorem rdec_one (n:Nat) (hn:n < 10) (w:World):Calls Tryz.prog 39 #[.int .i64 (n:Int)] w fun e w'=>e = .returned (.string ⟨[UInt8.ofNat (48 + n)].toArray⟩) ∧ Below w.heap.size w w':=by
 have hx:(48:Int) + (n:Int) = ((UInt8.ofNat (48 + n)).toNat:Int):=by
  rw [UInt8.toNat_ofNat']
  omega
 have hcv:=str_one (UInt8.ofNat (48 + n)) (48 + (n:Int)) hx w
 clear hx
 generalize UInt8.ofNat (48 + n) = x at *
 have hmod:(48 + (n:Int)) % 256 = 48 + (n:Int):=by omega
 have hw:wrap64 (48 + (n:Int)) = 48 + (n:Int):=by unfold wrap64; omega
 have k0:decide ((n:Int) < 0) = false:=decide_eq_false (by omega)
 have k1:decide ((n:Int) < 10) = true:=decide_eq_true (by omega)
 go_enter Tryz.func39,Tryz.ntmps39
 go_wp2
 go_ret
 exact ⟨rfl,(Below.refl _ _).alloc (Nat.le_refl _) _⟩
theorem rdec_step (n:Nat) (hn:10 ≤ n) (hn2:n < 1000000) (x y:List UInt8) (hlx:x.length ≤ 100) (hly:y.length ≤ 100) (hx:∀ W,Calls Tryz.prog 39 #[.int .i64 ((n / 10:Nat):Int)] W fun e w'=>e = .returned (.string ⟨x.toArray⟩) ∧ Below W.heap.size W w')
  (hy:∀ W,Calls Tryz.prog 39 #[.int .i64 ((n % 10:Nat):Int)] W fun e w'=>e = .returned (.string ⟨y.toArray⟩) ∧ Below W.heap.size W w') (w:World) :
  Calls Tryz.prog 39 #[.int .i64 (n:Int)] w fun e w'=>e = .returned (.string ⟨(x ++ y).toArray⟩) ∧ Below w.heap.size w w':=by
 have HX:=Hy hx
 have HY:=Hy hy
 have k0:decide ((n:Int) < 0) = false:=decide_eq_false (by omega)
 have k1:decide ((n:Int) < 10) = false:=decide_eq_false (by omega)
 have e1:(n:Int).tdiv 10 = ((n / 10:Nat):Int):=by rw [Int.tdiv_eq_ediv_of_nonneg (by omega)]; omega
 have e2:(n:Int).tmod 10 = ((n % 10:Nat):Int):=by rw [Int.tmod_eq_emod_of_nonneg (by omega)]; omega
 have e3:(n:Int) / 10 = ((n / 10:Nat):Int):=by omega
 have e4:(n:Int) % 10 = ((n % 10:Nat):Int):=by omega
 have HAP:=Hy (ba_append x y)
 clear hx hy
 generalize n / 10 = q at *
 generalize n % 10 = r at *
 go_enter Tryz.func39,Tryz.ntmps39
 go_wp2_with fail
 refine (HX.out _).mono ?_
 rintro e w1 ⟨rfl,hB⟩
 have HB:=Hy hB
 clear hB
 go_wp2_with fail
 refine (HY.out _).mono ?_
 rintro e w2 ⟨rfl,hB⟩
 have HB2:=Hy (hTr HB hB)
 clear hB
 go_wp2
 go_ret
 exact ⟨congrArg (fun s=>Ending.returned (.string s)) HAP.out,HB2.out⟩
theorem itoa_dec (n:Nat):Lib.itoa (n:Nat) = Lib.decDigits n:=by
 unfold Lib.itoa
 rw [if_neg (by omega),Int.toNat_natCast]
theorem itoa_one (n:Nat) (h:n < 10):Lib.itoa (n:Nat) = [UInt8.ofNat (48 + n)]:=by rw [itoa_dec,Lib.decDigits_one h]
theorem itoa_step (n:Nat) (h:10 ≤ n):Lib.itoa (n:Nat) = Lib.itoa ((n / 10:Nat):Int) ++ Lib.itoa ((n % 10:Nat):Int):=by
 rw [itoa_one (n % 10) (Nat.mod_lt _ (by decide)),itoa_dec,itoa_dec,Lib.decDigits,dif_neg (by omega)]
theorem itoa_len:∀ (k n:Nat),n < 10 ^ (k + 1) → (Lib.itoa (n:Nat)).length ≤ k + 1
 | 0,n,h=>by rw [itoa_one n (by simpa using h)]; simp
 | k + 1,n,h=>by
  by_cases h1:n < 10
  ·rw [itoa_one n h1]; simp
  ·have h2:=itoa_len k (n / 10) (by rw [Nat.pow_succ] at h; omega)
   rw [itoa_step n (by omega),itoa_one (n % 10) (Nat.mod_lt _ (by decide)),List.length_append,List.length_singleton]
   omega
theorem rdec_any:∀ (n:Nat),n < 1000000 → ∀ (w:World),Calls Tryz.prog 39 #[.int .i64 (n:Int)] w fun e w'=>e = .returned (.string ⟨(Lib.itoa (n:Nat)).toArray⟩) ∧ Below w.heap.size w w':=by
 intro n
 induction n using Nat.strongRecOn with
 | ind n ih=>
  intro hn w
  by_cases h1:n < 10
  ·rw [itoa_one n h1]
   exact rdec_one n h1 w
  ·rw [itoa_step n (by omega)]
   have l1:=itoa_len 5 (n / 10) (by omega)
   have l2:=itoa_len 5 (n % 10) (by omega)
   exact rdec_step n (by omega) hn _ _ (by omega) (by omega) (fun W=>ih (n / 10) (by omega) (by omega) W) (fun W=>ih (n % 10) (by omega) (by omega) W) w
def kwd (kind:Int):List UInt8:=if kind = 1 then [98,108,111,98] else if kind = 2 then [116,114,101,101] else if kind = 3 then [99,111,109,109,105,116] else [63]
theorem kwd_len (kind:Int):(kwd kind).length ≤ 6:=by
 unfold kwd
 split
 ·decide
 ·split
  ·decide
  ·split <;> decide
theorem oword_any (kind:Int) (w:World):Calls Tryz.prog 173 #[.int .i64 kind] w fun e w'=>e = .returned (.string ⟨(kwd kind).toArray⟩) ∧ w = w':=by
 unfold kwd
 by_cases h1:kind = 1
 ·rw [if_pos h1]
  have k1:(kind == 1) = true:=by simp [h1]
  clear h1
  go_enter Tryz.func173,Tryz.ntmps173
  go_wp2
  go_ret
  exact ⟨rfl,rfl⟩
 ·rw [if_neg h1]
  have k1:(kind == 1) = false:=by simp [h1]
  by_cases h2:kind = 2
  ·rw [if_pos h2]
   have k2:(kind == 2) = true:=by simp [h2]
   clear h1 h2
   go_enter Tryz.func173,Tryz.ntmps173
   go_wp2
   go_ret
   exact ⟨rfl,rfl⟩
  ·rw [if_neg h2]
   have k2:(kind == 2) = false:=by simp [h2]
   by_cases h3:kind = 3
   ·rw [if_pos h3]
    have k3:(kind == 3) = true:=by simp [h3]
    clear h1 h2 h3
    go_enter Tryz.func173,Tryz.ntmps173
    go_wp2
    go_ret
    exact ⟨rfl,rfl⟩
   ·rw [if_neg h3]
    have k3:(kind == 3) = false:=by simp [h3]
    clear h1 h2 h3
    go_enter Tryz.func173,Tryz.ntmps173
    go_wp2
    go_ret
    exact ⟨rfl,rfl⟩
end
end Go.Proofs.YtlfmooihcigolaaGreatDoor
namespace Go.Proofs.YtlfmooihcigolaaGreatDoor.ShaM
def zp (T:List UInt8) (j:Nat):List UInt8:=T ++ (128 :: List.replicate j 0)
theorem zp_len (T:List UInt8) (j:Nat):(zp T j).length = T.length + 1 + j:=by simp [zp]; omega
theorem zp_succ (T:List UInt8) (j:Nat):zp T j ++ [0] = zp T (j + 1):=by simp [zp,List.replicate_succ']
theorem zp_end (T:List UInt8) (j:Nat) (h:j ≤ padN T.length - 9):(zp T j).length % 64 = 56 ↔ j = padN T.length - 9:=by
 rw [zp_len]
 have hp:padN T.length = if T.length % 64 < 56 then 64 - T.length % 64 else 128 - T.length % 64:=rfl
 generalize padN T.length = p at *
 split at hp <;> omega
def lp (T:List UInt8) (k:Nat):List UInt8:=zp T (padN T.length - 9) ++ (be8 (T.length * 8)).take k
theorem lp_zero (T:List UInt8):lp T 0 = zp T (padN T.length - 9):=by simp [lp]
theorem lp_full (T:List UInt8):lp T 8 = T ++ pad T.length:=by
 simp [lp,zp,pad,be8]
theorem lp_succ (T:List UInt8) (k:Nat) (h:k < 8):lp T k ++ [UInt8.ofNat (T.length * 8 / 2 ^ (8 * (7 - k)))] = lp T (k + 1):=by
 have h8:k = 0 ∨ k = 1 ∨ k = 2 ∨ k = 3 ∨ k = 4 ∨ k = 5 ∨ k = 6 ∨ k = 7:=by omega
 rcases h8 with rfl | rfl | rfl | rfl | rfl | rfl | rfl | rfl <;> simp [lp,be8]
theorem runN_snoc (k:Nat) (s:St) (l:List UInt8):runN (k + 1) s l = comp (runN k s l) ((l.take (64 * k + 64)).drop (64 * k)):=by
 rw [runN_add k 1]
 simp only [runN]
 rw [List.drop_take,show 64 * k + 64 - 64 * k = 64 by omega]
theorem pad_blocks (T:List UInt8):(T ++ pad T.length).length % 64 = 0:=by
 have:=padN_bd T.length
 rw [List.length_append,pad_len]; omega
def wl (l:List UInt8) (t:Nat):List Wd:=if t ≤ 16 then mws l t else sched (mws l 16) (t - 16)
theorem wl_full (l:List UInt8):wl l 64 = wds l:=rfl
theorem wl_len (l:List UInt8) (t:Nat):(wl l t).length = t:=by
 unfold wl
 split
 ·exact mws_len _ _
 ·rw [sched_len,mws_len]; omega
theorem wl_low (l:List UInt8) (t:Nat) (h:t < 16):wl l (t + 1) = wl l t ++ [mw l t]:=by
 unfold wl
 rw [if_pos (by omega),if_pos (by omega),mws_succ]
theorem wl_high (l:List UInt8) (t:Nat) (h:16 ≤ t):wl l (t + 1) = wl l t ++ [s1 ((wl l t).getD (t - 2) 0) + (wl l t).getD (t - 7) 0 + s0 ((wl l t).getD (t - 15) 0) + (wl l t).getD (t - 16) 0]:=by
 have e:wl l t = sched (mws l 16) (t - 16):=by
  unfold wl
  split
  ·obtain rfl:t = 16:=by omega
   rfl
  ·rfl
 have e2:wl l (t + 1) = sched (mws l 16) (t - 16 + 1):=by
  unfold wl
  rw [if_neg (by omega),show t + 1 - 16 = t - 16 + 1 by omega]
 have hl:(sched (mws l 16) (t - 16)).length = t:=by rw [sched_len,mws_len]; omega
 rw [e2,sched,e,ext,hl]
def ls (s:St):List Wd:=[s.a,s.b,s.c,s.d,s.e,s.f,s.g,s.h]
theorem ls_len (s:St):(ls s).length = 8:=rfl
theorem out_at (s:St) (i:Nat) (h:i < 32):(out s).getD i 0 = UInt8.ofNat (((ls s).getD (i / 4) 0).toNat / 2 ^ (24 - 8 * (i % 4))):=by
 have hi:∀ i:Fin 32,(out s).getD i.val 0 = UInt8.ofNat (((ls s).getD (i.val / 4) 0).toNat / 2 ^ (24 - 8 * (i.val % 4))):=by
  intro i
  have h32:i.val = 0 ∨ i.val = 1 ∨ i.val = 2 ∨ i.val = 3 ∨ i.val = 4 ∨ i.val = 5 ∨ i.val = 6 ∨ i.val = 7 ∨ i.val = 8 ∨ i.val = 9 ∨ i.val = 10 ∨ i.val = 11 ∨ i.val = 12 ∨ i.val = 13 ∨ i.val = 14 ∨ i.val = 15 ∨ i.val = 16 ∨ i.val = 17 ∨ i.val = 18 ∨ i.val = 19 ∨ i.val = 20 ∨ i.val = 21 ∨ i.val = 22 ∨ i.val = 23 ∨ i.val = 24 ∨ i.val = 25 ∨ i.val = 26 ∨ i.val = 27 ∨ i.val = 28 ∨ i.val = 29 ∨ i.val = 30 ∨ i.val = 31:=by have:=i.isLt; omega
  rcases h32 with e | e | e | e | e | e | e | e | e | e | e | e | e | e | e | e | e | e | e | e | e | e | e | e | e | e | e | e | e | e | e | e <;> rw [e] <;> simp [out,be4,ls]
 exact hi ⟨i,h⟩
end Go.Proofs.YtlfmooihcigolaaGreatDoor.ShaM
namespace Go.Proofs.YtlfmooihcigolaaGreatDoor
end Go.Proofs.YtlfmooihcigolaaGreatDoor

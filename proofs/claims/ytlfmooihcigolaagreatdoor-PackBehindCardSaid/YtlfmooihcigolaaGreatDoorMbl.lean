/-
  RobN, TreN, BodN, BodG, BodH, BodL.
-/
import Derived.Test.YtlfmooihcigolaaGreatDoorMbk
set_option maxRecDepth 100000
set_option maxHeartbeats 8000000
namespace Go.Proofs.YtlfmooihcigolaaGreatDoor
open Go.RowKit
theorem mayO_1 (x:Ob) (h:x.kind = 1):mayO' x = (decide ((x.blob.length:Int) ≤ 1000) && (x.entries.length:Int) == 0 && eqC x.commit noC):=by
 obtain ⟨k,b,es,c⟩:=x
 obtain rfl:k = 1:=h
 unfold mayO' bodyO bareO eqO
 simp only [if_true]
 cases es with
 | nil=>simp; congr 1; rw [decide_eq_decide]; omega
 | cons e l=>simp; intro _; omega
theorem mayO_2 (x:Ob) (h:x.kind = 2):mayO' x = (x.blob == [] && mayT x.entries && eqC x.commit noC):=by
 obtain ⟨k,b,es,c⟩:=x
 obtain rfl:k = 2:=h
 unfold mayO' bodyO bareO eqO
 rw [if_neg (show ¬ ((2:Int) = 1) by decide),if_pos rfl,if_neg (show ¬ ((2:Int) = 1) by decide),if_pos rfl]
 simp only [decide_true,Bool.true_and,Bool.and_true]
 cases b == [] <;> cases mayT es <;> cases eqC c noC <;> rfl
theorem mayO_3 (x:Ob) (h:x.kind = 3):mayO' x = (x.blob == [] && (x.entries.length:Int) == 0 && mayC x.commit):=by
 obtain ⟨k,b,es,c⟩:=x
 obtain rfl:k = 3:=h
 unfold mayO' bodyO bareO eqO
 rw [if_neg (show ¬ ((3:Int) = 1) by decide),if_neg (show ¬ ((3:Int) = 2) by decide),if_pos rfl,if_neg (show ¬ ((3:Int) = 1) by decide),if_neg (show ¬ ((3:Int) = 2) by decide),if_pos rfl]
 simp only [decide_true,Bool.true_and,eqC_refl,Bool.and_true]
 have he:decide (es = []) = ((es.length:Int) == 0):=by
  cases es with
  | nil=>rfl
  | cons e l=>simp; omega
 rw [he]
 cases b == [] <;> cases (es.length:Int) == 0 <;> cases mayC c <;> rfl
theorem mayO_4 (x:Ob) (h1:x.kind ≠ 1) (h2:x.kind ≠ 2) (h3:x.kind ≠ 3):mayO' x = false:=by
 unfold mayO' bodyO
 rw [if_neg h1,if_neg h2,if_neg h3,Bool.false_and]
theorem okName_le (s:List UInt8) (h:okName s = true):s.length ≤ 20:=by
 simp only [okName,Bool.and_eq_true,decide_eq_true_eq] at h
 exact h.1.1.1.2
theorem mayT_names (es:List En) (h:mayT es = true):es.length ≤ 20 ∧ ∀ e ∈ es,e.name.length ≤ 20:=by
 simp only [mayT,Bool.and_eq_true,decide_eq_true_eq] at h
 refine ⟨h.1,fun e he=>?_⟩
 obtain ⟨j,hj,rfl⟩:=List.mem_iff_getElem.1 he
 have:=risesTo_at es h.2 hj
 simp only [okAt,Bool.and_eq_true] at this
 have e2:(es.getD j default) = es[j]:=by simp [List.getD,List.getElem?_eq_getElem hj]
 rw [e2] at this
 exact okName_le _ this.1
theorem encT_le:∀ (es:List En),(∀ e ∈ es,e.name.length ≤ 20) → (encT es).length ≤ es.length * 55
 | [],_=>by simp [encT]
 | e :: es,h=>by
  have ih:=encT_le es (fun x hx=>h x (by simp [hx]))
  have h1:=h e (by simp)
  have h2:=bytesE_len e
  rw [show encT (e :: es) = bytesE e ++ encT es from rfl,List.length_append,List.length_cons]
  omega
theorem mayT_bytes (es:List En) (h:mayT es = true):(encT es).length ≤ 1100:=by
 obtain ⟨h1,h2⟩:=mayT_names es h
 have:=encT_le es h2
 omega
theorem readC_time (s:List UInt8) (x:Cm) (h:readC s = some x):x.time < 18446744073709551616:=by
 unfold readC at h
 cases h0:lineV s with
 | none=>simp [h0] at h
 | some p0=>
  simp only [h0] at h
  cases h1:idV p0.1 treeW with
  | none=>simp [h1] at h
  | some tr=>
   simp only [h1] at h
   cases h2:lineV p0.2 with
   | none=>simp [h2] at h
   | some p1=>
    simp only [h2] at h
    cases h3:parGo 5 p1.1 p1.2 [] with
    | none=>simp [h3] at h
    | some q=>
     simp only [h3] at h
     cases h4:timV q.2.1 with
     | none=>simp [h4] at h
     | some tm=>
      simp only [h4] at h
      cases h5:lineV q.2.2 with
      | none=>simp [h5] at h
      | some p2=>
       simp only [h5] at h
       by_cases h6:p2.1 = []
       ·rw [if_pos h6] at h
        by_cases h7:mayC ⟨tr,q.1,tm,p2.2⟩ = true
        ·rw [if_pos h7] at h
         injection h with h
         rw [← h]
         exact timV_lt _ _ h4
        ·rw [if_neg h7] at h
         cases h
       ·rw [if_neg h6] at h
        cases h
theorem bytesO_le2 (x:Ob) (hm:mayO' x = true):(bytesO x).length ≤ 1200:=by
 by_cases h1:x.kind = 1
 ·rw [mayO_1 x h1] at hm
  simp only [Bool.and_eq_true,decide_eq_true_eq] at hm
  unfold bytesO
  rw [if_neg (by omega),if_neg (by omega)]
  omega
 by_cases h2:x.kind = 2
 ·rw [mayO_2 x h2] at hm
  simp only [Bool.and_eq_true] at hm
  have:=mayT_bytes _ hm.1.2
  unfold bytesO
  rw [if_pos h2]
  omega
 by_cases h3:x.kind = 3
 ·rw [mayO_3 x h3] at hm
  simp only [Bool.and_eq_true] at hm
  have:=bytesC_le _ hm.2
  unfold bytesO
  rw [if_neg (by omega),if_pos h3]
  omega
 rw [mayO_4 x h1 h2 h3] at hm
 cases hm
theorem getOb_small (k:Int) (s:List UInt8):(getOb k s).1.commit.time < 18446744073709551616 ∧ (getOb k s).1.entries.length ≤ 1048576 ∧ (mayO' (getOb k s).1 = true → (bytesO (getOb k s).1).length ≤ 100000):=by
 refine ⟨?_,?_,fun h=>by have:=bytesO_le2 _ h; omega⟩
 ·unfold getOb
  split
  ·split <;> (show (0:Nat) < _; decide)
  ·split
   ·split <;> (show (0:Nat) < _; decide)
   ·split
    ·split
     ·rename_i x hx
      exact readC_time s x hx
     ·show (0:Nat) < _; decide
    ·show (0:Nat) < _; decide
 ·unfold getOb
  split
  ·split <;> (show (0:Nat) ≤ _; decide)
  ·split
   ·split
    ·rename_i es he
     have:=(mayT_names es (getT_enc s es he).2).1
     show es.length ≤ _
     omega
    ·show (0:Nat) ≤ _; decide
   ·split
    ·split <;> (show (0:Nat) ≤ _; decide)
    ·show (0:Nat) ≤ _; decide
theorem MkM.R_lt {F:Nat → Prop} {w:World} {its:List It} {p:Mng} {mk:Mk} (h:MkM F w its p mk):∀ k,p.R k → k < w.heap.size:=by
 obtain ⟨xs,-,h2,-⟩:=h.objs
 obtain ⟨N,V,h3,-⟩:=h.names
 rintro k (rfl | rfl | rfl)
 ·exact h.cells.lt
 ·exact h2.lt
 ·exact h3.lt
theorem own_altR {w w':World} {B:Nat} {T:TypeId} {m n:Nat} {v:Value} {xs:List Value} {R:Nat → Prop} (h:w.ownsRow B T m v n xs) (ha:Alt R w w') (hn:∀ j,v.ownBlock = some j → ¬ R j):w'.ownsRow B T m v n xs:=by
 refine ⟨h.1,?_⟩
 rcases h.2 with h2 | ⟨g,cap,cur,rfl,h2,h3,h4⟩
 ·exact .inl h2
 ·exact .inr ⟨g,cap,cur,rfl,h2,(ha.block g (Array.getElem?_eq_some_iff.1 h3).1 (hn g rfl)).trans h3,h4⟩
def Fo (v:Value):Nat → Prop:=fun j=>v.ownBlock = some j
theorem MkM.free {F:Nat → Prop} {w:World} {its:List It} {p:Mng} {mk:Mk} (h:MkM F w its p mk):MkM (fun _=>False) w its p mk:=h.keep fun _ hf=>hf.elim
theorem MkM.appended {w w':World} {its:List It} {p:Mng} {mk:Mk} {v v':Value} (h:MkM (Fo v) w its p mk) (hg:w.grownBy w' v.ownBlock) (hl:v'.ownBlock = v.ownBlock ∨ v'.ownBlock = some w.heap.size):MkM (Fo v') w' its p mk:=by
 have h1:MkM (fun k=>Fo v k ∨ Fo v' k) w its p mk:=h.keep fun k hk=>by
  rcases hk with hk | hk
  ·exact .inl hk
  ·unfold Fo at *
   rcases hl with hl | hl
   ·exact .inl (hl ▸ hk)
   ·rw [hl] at hk
    injection hk with hk
    exact .inr (Nat.le_of_eq hk)
 exact (h1.row hg (fun r hr=>.inl hr)).keep fun k hk=>.inl (.inr hk)
theorem MkM.appended0 {F0:Nat → Prop} {w w':World} {its:List It} {p:Mng} {mk:Mk} {v v':Value} (h:MkM (fun k=>F0 k ∨ Fo v k) w its p mk) (hg:w.grownBy w' v.ownBlock) (hl:v'.ownBlock = v.ownBlock ∨ v'.ownBlock = some w.heap.size):MkM (fun k=>F0 k ∨ Fo v' k) w' its p mk:=by
 have h1:MkM (fun k=>(F0 k ∨ Fo v k) ∨ Fo v' k) w its p mk:=h.keep fun k hk=>by
  rcases hk with hk | hk
  ·exact .inl hk
  ·unfold Fo at *
   rcases hl with hl | hl
   ·exact .inl (.inr (hl ▸ hk))
   ·rw [hl] at hk
    injection hk with hk
    exact .inr (Nat.le_of_eq hk)
 exact (h1.row hg (fun r hr=>.inl (.inr hr))).keep fun k hk=>.inl (by rcases hk with hk | hk; exact .inl (.inl hk); exact .inr hk)
theorem wpList_appendG_at {α:Type} {enc:α → List Value} {d:α} {m:Nat} {T TS:TypeId} {w:World} {ops:Array Oper} {rest:List Oper} {op:Oper} {a:Act} {Q:Exit → Act → World → Prop} (E:Elt T TS m enc d) (hg:op.guard = none) (s x:Operand) (ho:op.op = .call { callee:=.builtin .append,args:=#[s,x],argTypes:=#[TS,TS] })
  (B:Nat) (v:Value) (xs:List α) (hs:a.eval s = v) (A:Option Addr) (n c:Nat) (ys:List α) (hn:ys.length = n) (hx:a.eval x = .slice A n c) (hown:w.ownsRow B T m v xs.length (xs.flatMap enc)) (hy:ArgG enc d m w A c ys)
  (hB:B ≤ w.heap.size) (hl:xs.length + ys.length ≤ 10000000) (h:∀ v' w',w'.ownsRow B T m v' (xs ++ ys).length ((xs ++ ys).flatMap enc) → Below B w w' → w.grownBy w' v.ownBlock → (v'.ownBlock = v.ownBlock ∨ v'.ownBlock = some w.heap.size) → wpList Tryz.prog ops Q rest (a.put op.dst v') w'):wpList Tryz.prog ops Q (op :: rest) a w:=by
 subst hn
 obtain ⟨i0,hq,h1,h2,h3⟩:=E.info
 cases A with
 | none=>
  obtain ⟨rfl,rfl⟩:=hy.nil
  have hrun:=run_append_owned_none (P:=Tryz.prog) (w:=w) B TS op.type T i0 m E.und hq v xs.length (xs.flatMap enc) hown
  refine wpList_plain hg fun K' hK'=>?_
  unfold Oper.wp
  simp [execOp,ho,resolve,invoke,builtin,hs,hx,hrun,Result.andThen]
  exact hK' _ _ (h v w (by simpa using hown) (Below.refl _ _) ⟨rfl,rfl,rfl,Nat.le_refl _,fun _ _ _=>rfl⟩ (.inl rfl))
 | some ad=>
  have hbb:(xs.length + ys.length) * i0.bytes ≤ 140737488355328:=Nat.le_trans (Nat.mul_le_mul hl h3) (by decide)
  refine wpList_append_own_at w hg s x TS ho B T i0 (.agg (enc d).toArray) m i0.bytes E.und hq h1 h2 rfl (by show (enc d).toArray.size = m; rw [List.size_toArray,E.len]) E.pos v xs.length (xs.flatMap enc) hs hown ad ys.length c (ys.flatMap enc) hx (flatG_len E.len ys) (fun j u hu=>?_) (flatG_one E ys) (by unfold maxLen; omega) hbb hB (fun v' w' h4 h5 _ h6=>?_)
  ·have hj:=(List.getElem?_eq_some_iff.1 hu).1
   rw [flatG_len E.len] at hj
   have hy0:0 < ys.length:=by
    rcases Nat.eq_zero_or_pos ys.length with h0 | h0
    ·rw [h0,Nat.zero_mul] at hj; omega
    ·exact h0
   obtain ⟨b,off,e,hr⟩:=hy.2.2.2 hy0
   injection e with e
   subst e
   rw [Addr.add_mid]
   exact row_flatG E hr j u hu
  ·exact h v' w' (by rw [List.length_append,List.flatMap_append]; exact h4) (below_grown hB h5 (fun k hk=>(hown.lt k hk).1)) h5 h6
theorem roundGo_cons (its:List It) (ds:Nat → Dlt) (s:Stp) (r:List Stp) (mk:Mk) (acc:List Stp):roundGo its ds (s :: r) mk acc = if (takeV its ds s).2 = 0 then
   roundGo its ds r ⟨mk.objs.set s.place (getOb s.kind (takeV its ds s).1).1,mk.made + 1,idO (getOb s.kind (takeV its ds s).1).1 :: mk.dead⟩
    (acc ++ stepsV (backsTo its its.length s.place ++ waits its mk.dead (idO (getOb s.kind (takeV its ds s).1).1)) s.kind (takeV its ds s).1)
  else ((takeV its ds s).2,mk,acc):=rfl
theorem pround_any (F0:Nat → Prop) (its:List It) (ds:Nat → Dlt) (p:Mng) (mk0:Mk) (A:Option Addr) (c:Nat) (l:List Stp) (w:World) (hM:MkM F0 w its p mk0) (hF0:∀ k,F0 k → k < w.heap.size) (hA:ArgG encS default 3 w A c l) (hAo:∀ j,inBlk A j → ¬ p.R j) (hn:its.length ≤ 200) (hl:l.length ≤ 1000) (hmade:mk0.made + l.length ≤ 1000000)
  (hs:∀ s ∈ l,s.place < its.length ∧ s.base.length ≤ 1000000) (hd:∀ i,i < its.length → ¬ wholeK (its.getD i default).kind → okD (its.getD i default) (ds i)) (hwb:∀ i,i < its.length → (its.getD i default).body.length ≤ 100000) (hTT:∀ W,Alt p.R w W → Tabs W ∧ Tens W) :
  Calls Tryz.prog 108 #[.pointer (some ⟨p.m,0,none⟩),.slice A l.length c] w fun e w'=>Alt p.R w w' ∧
   (((roundGo its ds l mk0 []).1 = 0 ∧ ∃ v,e = .returned (.tuple #[v,.int .i64 0]) ∧ w'.ownsRow w.heap.size 180 3 v (roundGo its ds l mk0 []).2.2.length ((roundGo its ds l mk0 []).2.2.flatMap encS) ∧ MkM (fun k=>F0 k ∨ Fo v k) w' its p (roundGo its ds l mk0 []).2.1) ∨
    ((roundGo its ds l mk0 []).1 ≠ 0 ∧ e = .returned (.tuple #[.slice none 0 0,.int .i64 (roundGo its ds l mk0 []).1]))):=by
 have HA:=Hy hA
 have HAO:=Hy hAo
 have HRL:=Hy hM.R_lt
 have hlc:=hA.1
 have HSS:Hid (∀ k,k < l.length → (l.getD k default).place < its.length ∧ (l.getD k default).base.length ≤ 1000000):=fun k hk=>by
  have:l.getD k default = l[k]:=by simp [List.getD,List.getElem?_eq_getElem hk]
  rw [this]
  exact hs _ (List.getElem_mem hk)
 have HD:=Hy hd
 have HWB:=Hy hwb
 have HTT:=Hy hTT
 have HM0:Hid (MkM (fun k=>F0 k ∨ Fo (.slice none 0 0) k) w its p mk0):=hM.keep (fun k hk=>by rcases hk with hk | hk; exact .inl hk; cases hk)
 have HF0:=Hy hF0
 have hMR:=hM.R_lt
 obtain ⟨R,hR⟩:∃ R,R = roundGo its ds l mk0 []:=⟨_,rfl⟩
 rw [← hR]
 have HR:Hid (R = roundGo its ds (l.drop 0) mk0 []):=hR
 clear hA hAo hs hd hwb hTT hM hR hF0
 go_enter Tryz.func108,Tryz.ntmps108
 go_wp2
 go_loopg [6,9,10,13] l.length (fun g s6 _ _ s13 wr=>∃ (k:Nat) (mk:Mk) (acc:List Stp) (A9:Option Addr) (c9:Nat),s6 = .slice A9 acc.length c9 ∧ k ≤ l.length ∧ l.length - k ≤ g ∧ s13 = .int .i64 k ∧ acc.length ≤ k * 400 ∧ mk.made = mk0.made + k ∧ wr.ownsRow w.heap.size 180 3 (.slice A9 acc.length c9) acc.length (acc.flatMap encS) ∧ Hid (MkM (fun j=>F0 j ∨ Fo (.slice A9 acc.length c9) j) wr its p mk) ∧ Hid (Alt p.R w wr) ∧ Hid (R = roundGo its ds (l.drop k) mk acc))
 case atStart=>exact ⟨0,mk0,[],none,0,rfl,Nat.zero_le _,by omega,rfl,by simp,rfl,by simpa using World.ownsRow_nil _ _ _ _,HM0,Hy (Alt.refl _ _),HR⟩
 case round=>
  obtain ⟨k,mk,acc,A9,c9,rfl,hk,hg,rfl,hacc,hmd,hown,hmk,hal,hrr⟩:=hrel
  by_cases hlt:k < l.length
  ·have hlt':(k:Int) < (l.length:Int):=by omega
   obtain ⟨bb,o,rfl,hr⟩:=(HA.out.alt eltS hal.out HAO.out).2.2.2 (by omega)
   have hrk:=hr k hlt
   have hsy:=HSS.out k hlt
   have hdr:l.drop k = l.getD k default :: l.drop (k + 1):=by
    rw [List.drop_eq_getElem_cons hlt]
    simp [List.getD,List.getElem?_eq_getElem hlt]
   obtain ⟨y,hy⟩:∃ y,y = l.getD k default:=⟨_,rfl⟩
   rw [← hy] at hrk hsy hdr
   have HRK:=Hy hrk
   have HOW:=Hy hown
   have HRR:Hid (R = roundGo its ds (y :: l.drop (k + 1)) mk acc):=by show _ = _; rw [← hdr]; exact hrr.out
   have hxl:=backsTo_le its its.length y.place
   have hrlt:∀ j,p.R j → j < w.heap.size:=HRL.out
   have hz1:=hal.out.size
   clear hr hrk hy hdr hown hrr
   go_upto_region 5 with (first
    | (refine wpList_load_mid rfl 180 _ rfl bb (o + k * 3) rfl (encS y) _ HRK.out Tryz.underlying180 rfl (infoSt y) ?_)
    | (refine wpList_store_whole rfl 180 _ _ rfl wr.heap.size (encS y).toArray rfl rfl 180 _ (Whole.made wr _ _) (infoSt_s y) (by rfl) (encS_all y) ?_; intro w3 hWn hGn; have HW3:=Hy hWn; have D3:=Hy (made_below' hGn); clear hWn hGn))
   have HM3:=Hy (hmk.out.later D3.out)
   have HA3:=Hy (hal.out.below D3.out)
   have HOW3:=Hy (own_later HOW.out D3.out)
   have hw3:=HW3.out.lt
   have hs3:=D3.out.size
   have HTK:=Hy (ptake_any _ its ds p mk y w3 HM3.out (fun k hk=>hk.elim (fun h=>Nat.lt_of_lt_of_le (HF0.out k h) (by omega)) (fun h=>(HOW3.out.lt k h).2)) (by omega) hsy.1 hsy.2 HD.out HWB.out)
   clear hmk hal HOW D3 HRK
   go_wp2_with (refine wpList_load_row rfl 180 _ rfl wr.heap.size rfl 180 (encS y).toArray (0,0) _ HW3.out Tryz.underlying180 rfl (infoSt_s y) ?_)
   refine HTK.out.mono ?_
   rintro e w4 ⟨rfl,ha4,hm4⟩
   have hnb:∀ j,(Value.slice A9 acc.length c9).ownBlock = some j → ¬ p.R j:=fun j hj hr=>by have:=(HOW3.out.lt j hj).1; have:=hrlt j hr; omega
   have HA4:=Hy (HA3.out.trans ha4)
   have HW4:=Hy (HW3.out.alt ha4 (fun hr=>by have:=hrlt _ hr; omega))
   have HOW4:=Hy (own_altR HOW3.out ha4 hnb)
   have hz4:=ha4.size
   by_cases ht:(takeV its ds y).2 = 0
   ·have HM4:=Hy (hm4 ht)
    have HRR2:=HRR
    rw [roundGo_cons,if_pos ht] at HRR2
    rw [ht]
    have hgs:=getOb_small y.kind (takeV its ds y).1
    obtain ⟨ob,hob⟩:∃ ob,ob = (getOb y.kind (takeV its ds y).1).1:=⟨_,rfl⟩
    rw [← hob] at HM4 HRR2 hgs
    have hgd:(mk.objs.set y.place ob).getD y.place zO = ob:=by
     have hol:y.place < mk.objs.length:=by rw [HM3.out.olen]; exact hsy.1
     simp [List.getD,hol]
    have htt:=HTT.out w4 HA4.out
    have HBE:=pbehind_any _ its p ⟨mk.objs.set y.place ob,mk.made + 1,mk.dead⟩ y (takeV its ds y).1 w4 HM4.out hsy.1 hn htt.1 htt.2 (by dsimp only; rw [hgd]; exact hgs)
    dsimp only at HBE
    rw [hgd] at HBE
    replace HBE:=Hy HBE
    have hwl:=waits_le its mk.dead (idO ob)
    clear hm4 ha4 HTK HM3 HA3 HW3 HOW3 hgs hob htt hgd
    generalize (takeV its ds y).1 = tb at *
    go_wp2_with (refine wpList_load_row rfl 180 _ rfl wr.heap.size rfl 180 (encS y).toArray (0,0) _ HW4.out Tryz.underlying180 rfl (infoSt_s y) ?_)
    refine HBE.out.mono ?_
    rintro e w5 ⟨⟨v5,rfl,hown5⟩,ha5,hm5⟩
    obtain ⟨A5,c5,rfl,hag5,-,-⟩:=own_argG eltS hown5
    have hnb5:∀ j,(Value.slice A9 acc.length c9).ownBlock = some j → ¬ p.R j:=hnb
    have HA5:=Hy (HA4.out.trans ha5)
    have HOW5:=Hy (own_altR HOW4.out ha5 hnb5)
    have HM5:=Hy hm5
    have HAG5:=Hy hag5
    obtain ⟨L,hL⟩:∃ L,L = stepsV (backsTo its its.length y.place ++ waits its mk.dead (idO ob)) y.kind tb:=⟨_,rfl⟩
    have hLl:L.length ≤ 400:=by rw [hL]; unfold stepsV; rw [List.length_map,List.length_append]; omega
    rw [← hL] at HAG5 HRR2
    have hLe:(stepsV (backsTo its its.length y.place ++ waits its mk.dead (idO ob)) y.kind tb).length = L.length:=by rw [hL]
    rw [hLe]
    have HLL:Hid (acc.length + L.length ≤ 10000000):=by show _ ≤ _; omega
    have hz5:=ha5.size
    have HZ5:Hid (w.heap.size ≤ w5.heap.size):=by show _ ≤ _; omega
    clear HBE hown5 ha5 hm5 hag5 HA4 HW4 HOW4 HM4 hL hLe
    go_wp2_with (at_builtin; go_loud (refine wpList_appendG_at eltS rfl _ _ rfl w.heap.size (.slice A9 acc.length c9) acc rfl A5 L.length c5 L rfl rfl ?_ HAG5.out HZ5.out HLL.out ?_; exact HOW5.out; intro v' w6 hown' hb6' hgr6 hat6; have HOW6:=Hy hown'; have HB6:=Hy hb6'; have HM6:=Hy (HM5.out.appended0 hgr6 hat6); clear hown' hb6' hgr6 hat6))
    obtain ⟨A6,c6,rfl,-,-,-⟩:=own_argG eltS HOW6.out
    have HA6:Hid (Alt p.R w w6):=alt_belowB HA5.out HB6.out (Nat.le_refl _)
    go_roundg (l.length - (k + 1))
    case measure=>omega
    case rel=>exact ⟨k + 1,_,acc ++ L,A6,c6,rfl,by omega,Nat.le_refl _,by go_num,by rw [List.length_append]; omega,by show mk.made + 1 = _; omega,HOW6.out,HM6,HA6,HRR2⟩
   ·have HRR2:=HRR
    rw [roundGo_cons,if_neg ht] at HRR2
    have hne:((takeV its ds y).2 != 0) = true:=by simpa using ht
    go_wp2
    go_ret2
    rw [HRR2.out]
    exact ⟨HA4.out,.inr ⟨ht,rfl⟩⟩
  ·obtain rfl:k = l.length:=by omega
   have HRR2:=hrr
   rw [List.drop_length] at HRR2
   have HRR3:Hid (R = (0,mk,acc)):=HRR2
   go_wp2
   go_ret2
   rw [HRR3.out]
   exact ⟨hal.out,.inl ⟨rfl,_,rfl,hown,hmk.out⟩⟩
theorem pwholes_any (F:Nat → Prop) (its:List It) (p:Mng) (mk:Mk) (w:World) (hM:MkM F w its p mk) (hn:its.length ≤ 200) :
  Calls Tryz.prog 109 #[.pointer (some ⟨p.m,0,none⟩)] w fun e w'=>(∃ v,e = .returned v ∧ w'.ownsRow w.heap.size 180 3 v (wholesV its its.length).length ((wholesV its its.length).flatMap encS)) ∧ Below w.heap.size w w':=by
 have hc0:w.cell? ⟨p.m,0,none⟩ = some (.slice p.Ai its.length p.ci):=(hM.cells.at_ 0).trans rfl
 have HA:=Hy hM.items
 have hlc:=hM.items.1
 have hml:=hM.cells.lt
 clear hM
 obtain ⟨m,go,gb,mb,Ai,ci⟩:=p
 dsimp only at *
 go_enter Tryz.func109,Tryz.ntmps109
 go_wp2
 go_loopg [3,4,11] its.length (fun g s3 _ s11 wr=>∃ (k:Nat) (A9:Option Addr) (c9:Nat),s3 = .slice A9 (wholesV its k).length c9 ∧ k ≤ its.length ∧ its.length - k ≤ g ∧ s11 = .int .i64 k ∧ wr.ownsRow w.heap.size 180 3 (.slice A9 (wholesV its k).length c9) (wholesV its k).length ((wholesV its k).flatMap encS) ∧ Hid (Below w.heap.size w wr))
 case atStart=>exact ⟨0,none,0,rfl,Nat.zero_le _,by omega,rfl,by simpa [wholesV] using World.ownsRow_nil _ _ _ _,Hy (Below.refl _ _)⟩
 case round=>
  obtain ⟨k,A9,c9,rfl,hk,hg,rfl,hown,hwr⟩:=hrel
  by_cases hlt:k < its.length
  ·have hlt':(k:Int) < (its.length:Int):=by omega
   obtain ⟨bb,o,rfl,hr⟩:=(HA.out.later eltI hwr.out).2.2.2 (by omega)
   have hrk:=hr k hlt
   have hws:=wholesV_succ its k
   have hwl:=wholesV_le its k
   obtain ⟨y,hy⟩:∃ y,y = its.getD k default:=⟨_,rfl⟩
   rw [← hy] at hrk hws
   have HRK:=Hy hrk
   have HWS:=Hy hws
   have HOW:=Hy hown
   have HWH:=Hy fun W=>pwhole_any y.kind W
   clear hr hrk hy hws hown
   go_upto_region 5 with (first
    | (refine wpList_load_mid rfl 34 _ rfl bb (o + k * 35) rfl (encI y) _ HRK.out Tryz.underlying34 rfl (infoI y) ?_)
    | (refine wpList_store_whole rfl 34 _ _ rfl wr.heap.size (encI y).toArray rfl rfl 34 _ (Whole.made wr _ _) (infoI_s y) (by rw [encI_size]; rfl) (encI_all y) ?_; intro w3 hWn hGn; have HW3:=Hy hWn; have D3:=Hy (made_below' hGn); clear hWn hGn))
   have HB3:=Hy (hTr hwr D3.out)
   have HOW3:=Hy (own_later HOW.out D3.out)
   have hk0:=itm_kind HW3.out
   have hz3:w.heap.size ≤ w3.heap.size:=HB3.out.size
   clear hwr HOW D3 HRK
   by_cases hw:wholeK y.kind
   ·rw [decide_eq_true hw] at HWH
    have HWS2:Hid (wholesV its (k + 1) = wholesV its k ++ [⟨k,(y.kind:Int),[]⟩]):=by show _ = _; rw [HWS.out,if_pos hw]
    have HONE:Hid (ArgG encS default 3 (w3.alloc (.cells (encS ⟨k,(y.kind:Int),[]⟩).toArray 180)) (some ⟨w3.heap.size,0,none⟩) 1 [⟨k,(y.kind:Int),[]⟩]):=argG_one (Whole.made w3 180 (encS ⟨k,(y.kind:Int),[]⟩).toArray)
    have HZ5:Hid (w.heap.size ≤ (w3.alloc (.cells (encS ⟨k,(y.kind:Int),[]⟩).toArray 180)).heap.size):=by show _ ≤ _; simp; omega
    have HLL:Hid ((wholesV its k).length + [(⟨k,(y.kind:Int),[]⟩:Stp)].length ≤ 10000000):=by show _ ≤ _; simp; omega
    have HOW5:=Hy (own_later HOW3.out ((Below.refl w3.heap.size w3).alloc (Nat.le_refl _) (.cells (encS ⟨k,(y.kind:Int),[]⟩).toArray 180)))
    have HB5:=Hy (HB3.out.alloc HB3.out.size (.cells (encS ⟨k,(y.kind:Int),[]⟩).toArray 180))
    clear hw HB3 HOW3
    go_wp2_with (first
     | (go_at_call 102; refine (HWH.out _).mono ?_; rintro e w' ⟨rfl,rfl⟩)
     | (refine wpList_buildG eltS rfl _ rfl ⟨k,(y.kind:Int),[]⟩ rfl ?_)
     | (at_builtin; go_loud (refine wpList_appendG_at eltS rfl _ _ rfl w.heap.size (.slice A9 (wholesV its k).length c9) (wholesV its k) rfl (some ⟨w3.heap.size,0,none⟩) 1 1 [⟨k,(y.kind:Int),[]⟩] rfl rfl ?_ HONE.out HZ5.out HLL.out ?_; exact HOW5.out; intro v' w6 hown' hb6' hgr6 _; have HOW6:=Hy hown'; have HB6:=Hy (HB5.out.trans hb6'); clear hown' hb6' hgr6)))
    have how6:=HOW6.out
    rw [← HWS2.out] at how6
    obtain ⟨A6,c6,rfl,-,-,-⟩:=own_argG eltS how6
    have HOW7:=Hy how6
    clear how6 HOW6
    go_roundg (its.length - (k + 1))
    case measure=>omega
    case rel=>exact ⟨k + 1,A6,c6,rfl,by omega,Nat.le_refl _,by go_num,HOW7.out,HB6⟩
   ·rw [decide_eq_false hw] at HWH
    have HWS2:Hid (wholesV its (k + 1) = wholesV its k):=by show _ = _; rw [HWS.out,if_neg hw]
    go_wp2_with (go_at_call 102; refine (HWH.out _).mono ?_; rintro e w' ⟨rfl,rfl⟩)
    go_roundg (its.length - (k + 1))
    case measure=>omega
    case rel=>exact ⟨k + 1,A9,c9,by rw [HWS2.out],by omega,Nat.le_refl _,by go_num,by rw [HWS2.out]; exact HOW3.out,HB3⟩
  ·obtain rfl:k = its.length:=by omega
   have HOW:=Hy hown
   clear hown
   go_wp2
   go_ret
   exact ⟨⟨_,rfl,HOW.out⟩,hwr.out⟩
section
open Go.RowKit
structure Foot (J:(Nat → Prop) → World → Prop):Prop where
 lt:∀ Bl W k,J Bl W → Bl k → k < W.heap.size
 kept:∀ (Bl R:Nat → Prop) W W',J Bl W → Alt R W W' → (∀ k,R k → ¬ Bl k) → J Bl W'
def HeldJ (J:(Nat → Prop) → World → Prop) (p:Mng) (v:Value) (W:World):Prop:=∃ Bl,J Bl W ∧ (∀ k,Bl k → ¬ p.R k) ∧ ∀ k,Bl k → v.ownBlock ≠ some k
def HeldC (J:(Nat → Prop) → World → Prop) (F:Nat → Prop) (G:Nat) (caps:Array Value) (hV:Nm → Int × List UInt8 × Bool):Prop:=
 ∀ W x Bl,J Bl W → Calls Tryz.prog G (#[.agg (encN x).toArray] ++ caps) W fun e w'=>e = .returned (.tuple #[.int .i64 (hV x).1,.string ⟨(hV x).2.1.toArray⟩,.bool (hV x).2.2]) ∧ (∃ row,W.grownBy w' row ∧ ∀ r,row = some r → F r) ∧ ∃ Bl',J Bl' w' ∧ ∀ k,Bl' k → Bl k ∨ W.heap.size ≤ k
section
variable {J : (Nat → Prop) → World → Prop} {F : Nat → Prop} {p : Mng} {v v' : Value} {W W' : World}
theorem HeldJ.alt (hJ:Foot J) (h:HeldJ J p v W) {R:Nat → Prop} (ha:Alt R W W') (hR:∀ k,R k → p.R k ∨ v.ownBlock = some k):HeldJ J p v W':=by
 obtain ⟨Bl,h1,h2,h3⟩:=h
 exact ⟨Bl,hJ.kept Bl R W W' h1 ha (fun k hk hb=>(hR k hk).elim (h2 k hb) (h3 k hb)),h2,h3⟩
theorem HeldJ.below (hJ:Foot J) (h:HeldJ J p v W) (hb:Below W.heap.size W W'):HeldJ J p v W':=h.alt hJ (Alt.of_below (R:=fun _=>False) hb) (fun _ hk=>hk.elim)
theorem HeldJ.row (hJ:Foot J) (h:HeldJ J p v W) {row:Option Nat} (hg:W.grownBy W' row) (hr:∀ r,row = some r → p.R r):HeldJ J p v W':=
 h.alt hJ (Alt.of_grown (R:=fun k=>row = some k) hg (fun _ hj=>hj)) (fun k hk=>.inl (hr k hk))
theorem HeldJ.append (hJ:Foot J) (h:HeldJ J p v W) (hg:W.grownBy W' v.ownBlock) (hl:v'.ownBlock = v.ownBlock ∨ v'.ownBlock = some W.heap.size):HeldJ J p v' W':=by
 have hlt:=hJ.lt
 obtain ⟨Bl,h1,h2,h3⟩:=h
 refine ⟨Bl,hJ.kept Bl (fun k=>v.ownBlock = some k) W W' h1 (Alt.of_grown hg (fun _ hj=>hj)) (fun k hk hb=>h3 k hb hk),h2,fun k hb=>?_⟩
 rcases hl with hl | hl
 ·rw [hl]; exact h3 k hb
 ·rw [hl]
  intro e
  injection e with e
  have:=hlt Bl W k h1 hb
  omega
theorem HeldJ.other (hJ:Foot J) (h:HeldJ J p v W) (hl:∀ k,v'.ownBlock = some k → W.heap.size ≤ k):HeldJ J p v' W:=by
 have hlt:=hJ.lt
 obtain ⟨Bl,h1,h2,h3⟩:=h
 refine ⟨Bl,h1,h2,fun k hb e=>?_⟩
 have:=hl k e
 have:=hlt Bl W k h1 hb
 omega
theorem HeldJ.call {G:Nat} {caps:Array Value} {hV:Nm → Int × List UInt8 × Bool} (h:HeldJ J p v W) (hC:HeldC J F G caps hV) (hR:∀ k,p.R k → k < W.heap.size) (hv:∀ k,v.ownBlock = some k → k < W.heap.size) (x:Nm) :
  Calls Tryz.prog G (#[.agg (encN x).toArray] ++ caps) W fun e w'=>e = .returned (.tuple #[.int .i64 (hV x).1,.string ⟨(hV x).2.1.toArray⟩,.bool (hV x).2.2]) ∧ (∃ row,W.grownBy w' row ∧ ∀ r,row = some r → F r) ∧ HeldJ J p v w':=by
 obtain ⟨Bl,h1,h2,h3⟩:=h
 refine (hC W x Bl h1).mono ?_
 rintro e w' ⟨rfl,hg,Bl',h4,h5⟩
 refine ⟨rfl,hg,Bl',h4,fun k hk=>?_,fun k hk=>?_⟩
 ·rcases h5 k hk with h | h
  ·exact h2 k h
  ·intro hr
   have:=hR k hr
   omega
 ·rcases h5 k hk with h | h
  ·exact h3 k h
  ·intro e
   have:=hv k e
   omega
end
end
end Go.Proofs.YtlfmooihcigolaaGreatDoor

/-
  TreI, TreJ, DelE.
-/
import Derived.Test.YtlfmooihcigolaaGreatDoorMap
set_option maxRecDepth 100000
set_option maxHeartbeats 8000000
namespace Go.Proofs.YtlfmooihcigolaaGreatDoor
open Go.RowKit
def zE:En:=⟨[],false,⟨List.replicate 32 0,List.length_replicate⟩⟩
theorem info34:(Tryz.prog.info? 156).map (fun i=>(i.zero,i.size,i.bytes)) = some (some (.agg (encE zE).toArray),34,56):=by kernel_rfl
theorem flatE_at (es:List En):∀ i j,i < es.length → j < 34 → (es.flatMap encE)[i * 34 + j]? = (encE (es.getD i default))[j]?:=by
 induction es with
 | nil=>intro i j hi; exact absurd hi (Nat.not_lt_zero _)
 | cons x l ih=>
  intro i j hi hj
  rw [List.flatMap_cons]
  cases i with
  | zero=>
   rw [Nat.zero_mul,Nat.zero_add,List.getElem?_append_left (by rw [encE_len]; exact hj)]
   rfl
  | succ i=>
   rw [List.getElem?_append_right (by rw [encE_len]; omega),encE_len,show (i + 1) * 34 + j - 34 = i * 34 + j by omega,ih i j (by simpa using hi) hj]
   rfl
theorem own_argE {w:World} {B:Nat} {v:Value} {es:List En} (h:w.ownsRow B 156 34 v es.length (es.flatMap encE)):∃ A c,v = .slice A es.length c ∧ ArgE w A c es:=by
 rcases h.2 with ⟨rfl,h0⟩ | ⟨g,cap,cur,rfl,hB,hg,hn,hm,hs,ht⟩
 ·exact ⟨none,0,by rw [h0],by omega,by unfold maxLen; omega,fun _=>rfl,fun h=>by omega⟩
 ·refine ⟨_,cap,rfl,hn,hm,(fun e=>by cases e),fun _=>⟨g,0,rfl,fun i hi j v hv=>?_⟩⟩
  have hj:j < 34:=by
   have:=(List.getElem?_eq_some_iff.1 hv).1
   rwa [encE_len] at this
  have hx:(es.flatMap encE)[i * 34 + j]? = some v:=by rw [flatE_at es i j hi hj]; exact hv
  rw [← ht,List.getElem?_take_of_lt (by omega)] at hx
  rw [Nat.zero_add,cell_of_row _ _ _ _ _ _ hg]
  simpa using hx
theorem fold_setE:∀ (l:List Value) (k:Nat) (z:Array Value),k + l.length ≤ z.size → ((l.zipIdx k).foldl (fun cs (p:Value × Nat)=>cs.setIfInBounds (0 + p.2) p.1) z).toList = z.toList.take k ++ l ++ z.toList.drop (k + l.length)
 | [],k,z,_=>by simp
 | c :: r,k,z,h=>by
  rw [List.zipIdx_cons,List.foldl_cons,fold_setE r (k + 1) _ (by simp at h ⊢; omega)]
  simp only [List.length_cons] at h
  have hk:k < z.toList.length:=by simp; omega
  have e:(z.setIfInBounds (0 + k) c).toList = z.toList.set k c:=by simp
  rw [e]
  have e1:(z.toList.set k c).take (k + 1) = z.toList.take k ++ [c]:=by
   rw [List.take_set,List.take_succ_eq_append_getElem hk,List.set_append_right _ _ (by simp; omega)]
   have:k - (z.toList.take k).length = 0:=by simp; omega
   rw [this]
   rfl
  have e2:(z.toList.set k c).drop (k + 1 + r.length) = z.toList.drop (k + (r.length + 1)):=by
   rw [List.drop_set,if_pos (by omega)]
   congr 1
   omega
  rw [e1,e2,List.length_cons]
  simp
theorem zeroE_run (w:World):(zeroValue 156).run Tryz.prog w = .ok (.agg (encE zE).toArray) w:=by kernel_rfl
theorem run_build_E (x:En) (w:World):(Instr.buildSlice 43 1 #[(0,.agg (encE x).toArray)]).run Tryz.prog w = .ok (.slice (some ⟨w.heap.size,0,none⟩) 1 1) (w.alloc (.cells (encE x).toArray 156)):=by
 have hfill:∀ z:Array Value,z.size = 34 → Instr.fill (fun i=>some (i * 34,34)) z [(0,.agg (encE x).toArray)] = some (encE x).toArray:=by
  intro z hz
  have hs:=encE_size x
  have hc:(Value.agg (encE x).toArray).cells = (encE x).toArray:=rfl
  simp only [Instr.fill,hc,hs,hz]
  rw [if_neg (by decide)]
  congr 1
  apply Array.toList_inj.1
  have:=fold_setE (encE x) 0 z (by rw [encE_len]; omega)
  rw [encE_len,List.drop_of_length_le (by simp; omega)] at this
  simpa using this
 have hzs:((Array.range (1 * 34)).map (fun i=>(Value.agg (encE zE).toArray).cells[i % (Value.agg (encE zE).toArray).cells.size]!)).size = 34:=by simp
 unfold Instr.buildSlice
 simp only [Sem.run_bind,run_underlying Tryz.underlying43,Result.andThen_ok,Tryz.sizeOf156]
 rw [if_neg (by decide),if_neg (by decide)]
 simp only [Sem.run_bind,zeroE_run,Result.andThen_ok,Sem.run_pure]
 rw [hfill _ hzs]
 rfl
theorem wpList_buildE {ops:Array Oper} {rest:List Oper} {o:Oper} {a:Act} {w:World} {Q:Exit → Act → World → Prop} (hgd:o.guard = none) (t:Operand) (ho:o.op = .buildSlice 43 1 #[(0,t)]) (x:En) (hx:a.eval t = .agg (encE x).toArray)
  (h:wpList Tryz.prog ops Q rest (a.put o.dst (.slice (some ⟨w.heap.size,0,none⟩) 1 1)) (w.alloc (.cells (encE x).toArray 156))):wpList Tryz.prog ops Q (o :: rest) a w:=by
 refine wpList_plain hgd fun K hK=>?_
 have hb:=run_build_E x w
 unfold Oper.wp
 simp [execOp,ho,hx,hb,Result.andThen]
 exact hK _ _ h
theorem entsGo_fuel (f g:Nat) (s:List UInt8) (acc:List En) (h1:s.length < f) (h2:s.length < g):entsGo f s acc = entsGo g s acc:=by
 rw [entsGo_is,entsGo_is,rawGo_fuel f g s acc h1 h2]
theorem entV_parts (s:List UInt8) (e:En) (t:List UInt8) (h:entV s = some (e,t)):∃ m r u,s = m :: 32 :: r ∧ (m = 100 ∨ m = 102) ∧ cutName r = some (e.name,u) ∧ e.name.length ≤ 20 ∧ 32 ≤ u.length ∧ e.dir = (m == 100) ∧ e.id.l = u.take 32 ∧ t = u.drop 32:=by
 unfold entV at h
 match s,h with
 | [],h=>cases h
 | [_],h=>cases h
 | m :: sp :: r,h=>
  unfold rawEnt at h
  dsimp only at h
  by_cases hm:(m = 100 ∨ m = 102) ∧ sp = 32
  ·rw [if_pos hm] at h
   cases hc:cutName r with
   | none=>rw [hc] at h; cases h
   | some p=>
    obtain ⟨n,u⟩:=p
    rw [hc] at h
    dsimp only at h
    by_cases hu:32 ≤ u.length
    ·rw [dif_pos hu] at h
     dsimp only at h
     by_cases hn:n.length ≤ 20
     ·rw [if_pos hn] at h
      injection h with h
      injection h with h1 h2
      subst h1 h2
      obtain ⟨hm1,rfl⟩:=hm
      exact ⟨m,r,u,rfl,hm1,hc,hn,hu,rfl,rfl,rfl⟩
     ·rw [if_neg hn] at h
      cases h
    ·rw [dif_neg hu] at h
     cases h
  ·rw [if_neg hm] at h
   cases h
theorem entV_less (s:List UInt8) (e:En) (t:List UInt8) (h:entV s = some (e,t)):t.length < s.length:=by
 unfold entV at h
 cases hr:rawEnt s with
 | none=>rw [hr] at h; cases h
 | some p=>
  obtain ⟨e',t'⟩:=p
  rw [hr] at h
  dsimp only at h
  split at h
  ·injection h with h
   injection h with h1 h2
   subst h1 h2
   have:=raw_less s e' t' hr
   omega
  ·cases h
theorem entry_any (b:Nat) (s:List UInt8) (w:World) (h:Rd w b s) :
  Calls Tryz.prog 232 #[.pointer (some ⟨b,0,none⟩)] w fun r w'=>(∃ e t,entV s = some (e,t) ∧ r = .returned (.agg (encE e).toArray) ∧ Alt (· = b) w w' ∧ Rd w' b t) ∨ (entV s = none ∧ Fell (· = b) w r w'):=by
 cases hv:entV s with
 | none=>exact (entry_bad b s w h hv).mono fun _ _ hf=>.inr ⟨rfl,hf⟩
 | some p=>
  obtain ⟨e,t⟩:=p
  obtain ⟨m,r,u,rfl,hm,hc,hn,hu,hd,hx,rfl⟩:=entV_parts s e t hv
  refine (entry_ok b m r e.name u e.id w hm h hc hn hu hx).mono ?_
  rintro r' w' ⟨rfl,ha,hr⟩
  refine .inl ⟨e,u.drop 32,rfl,?_,ha,hr⟩
  rw [← hd]
theorem entries_any (b:Nat) (s:List UInt8) (w:World) (h:Rd w b s) :
  Calls Tryz.prog 194 #[.pointer (some ⟨b,0,none⟩)] w fun r w'=>(∃ es A c,getT s = some es ∧ r = .returned (.slice A (List.length es) c) ∧ Alt (· = b) w w' ∧ ArgE w' A c es ∧ (∀ j,inBlk A j → w.heap.size ≤ j) ∧ OwnB w' A) ∨ (getT s = none ∧ Fell (· = b) w r w'):=by
 obtain ⟨i0,hi,hz0,hz1,hz2⟩:=info_parts info34
 have hbl:b < w.heap.size:=h.lt
 have HG:=Hy (entsGo_get s)
 have HR:=Hy h
 clear h
 go_enter Tryz.func194,Tryz.ntmps194
 go_wp2
 go_loopg [3] s.length (fun g s3 wr=>∃ (t:List UInt8) (acc:List En),t.length ≤ g ∧ acc.length ≤ 20 ∧ wr.ownsRow w.heap.size 156 34 s3 acc.length (acc.flatMap encE) ∧ Hid (Alt (· = b) w wr) ∧ w.heap.size ≤ wr.heap.size ∧ Hid (Rd wr b t) ∧ Hid (entsGo (t.length + 1) t acc = getT s))
 case atStart=>exact ⟨s,[],Nat.le_refl _,Nat.zero_le _,by simpa using World.ownsRow_nil _ _ _ _,Hy (Alt.refl _ _),Nat.le_refl _,HR,HG⟩
 case round=>
  obtain ⟨t,acc,hg,hac,hown,hal,hsz,hrd,hgo⟩:=hrel
  have HOWN:=Hy hown
  obtain ⟨A0,c0,rfl,harg⟩:=own_argE hown
  have HARG:=Hy harg
  clear hown harg
  by_cases ht:t = []
  ·have HE:Hid (getT s = if mayT acc then some acc else none):=by
    show _ = _
    rw [← hgo.out,ht]
    rfl
   have hl0:t.length = 0:=by rw [ht]; rfl
   clear ht
   go_wp2_with (go_at_call 37; refine (left_any b t _ hrd.out).mono ?_; rintro e w' ⟨rfl,rfl⟩)
   refine (tmay_any A0 c0 acc wr HARG.out (by omega)).mono ?_
   rintro e w2 ⟨rfl,hB⟩
   have HAL:=Hy (hal.out.below hB)
   have HAR:=Hy (HARG.out.later hB)
   have HOB:=Hy ((own_blk HOWN.out).later hB)
   clear hB
   cases hm:mayT acc with
   | true=>
    rw [hm] at HE
    go_wp2_with (go_at_call 78; refine (must_yes _ _).mono ?_; rintro e w' ⟨rfl,rfl⟩)
    go_ret
    exact .inl ⟨acc,A0,c0,HE.out,rfl,HAL.out,HAR.out,by rintro j ⟨a,rfl,rfl⟩; exact (HOWN.out.lt a.block rfl).1,HOB.out⟩
   | false=>
    rw [hm] at HE
    go_wp2_with (go_at_call 78; refine (must_no _ _).mono ?_; rintro e w' ⟨rfl,rfl⟩)
    exact ⟨rfl,.inr ⟨HE.out,1,by decide,rfl,HAL.out⟩⟩
  ·have hpos:0 < t.length:=List.length_pos_iff.2 ht
   have hposd:decide ((0:Int) < (t.length:Int)) = true:=by simp; omega
   have HGO:Hid (getT s = if acc.length < 20 then (match entV t with | some (e,u)=>entsGo t.length u (acc ++ [e]) | none=>none) else none):=by
    show _ = _
    rw [← hgo.out]
    rw [entsGo,if_neg ht]
    rfl
   clear ht
   by_cases h20:acc.length < 20
   ·have hd20:decide ((acc.length:Int) < 20) = true:=by simp; omega
    have HGO2:Hid (getT s = (match entV t with | some (e,u)=>entsGo t.length u (acc ++ [e]) | none=>none)):=by
     show _ = _
     rw [HGO.out,if_pos h20]
    clear HGO
    go_wp2_with (first
     | (go_at_call 37; refine (left_any b t _ hrd.out).mono ?_; rintro e w' ⟨rfl,rfl⟩)
     | (go_at_call 78; refine (must_yes _ _).mono ?_; rintro e w' ⟨rfl,rfl⟩))
    refine (entry_any b t wr hrd.out).mono ?_
    rintro r w2 (⟨e,u,hv,rfl,ha,hr⟩ | ⟨hv,c,hc,rfl,ha⟩)
    ·have HN:Hid (entsGo (u.length + 1) u (acc ++ [e]) = getT s):=by
      show _ = _
      have hu:=entV_less t e u hv
      rw [HGO2.out,hv]
      exact entsGo_fuel _ _ _ _ (by omega) (by omega)
     have hu:=entV_less t e u hv
     have HAL:=Hy (hal.out.trans ha)
     have hrow:∀ j,(Value.slice A0 acc.length c0).ownBlock = some j → w.heap.size ≤ j:=fun j hj=>(HOWN.out.lt j hj).1
     have how2:w2.ownsRow w.heap.size 156 34 (.slice A0 acc.length c0) acc.length (acc.flatMap encE):=HOWN.out.kept (row:=some b) ⟨ha.os,ha.tape,ha.output,ha.size,fun k hk hn=>ha.block k hk (fun e=>hn (by rw [e]))⟩ (.inr (fun e=>by have:=hrow b e; omega))
     have HR2:=Hy hr
     have hs2:=ha.size
     have hcell:∀ j v,(encE e)[j]? = some v → (w2.alloc (.cells (encE e).toArray 156)).cell? ((⟨w2.heap.size,0,none⟩:Addr).add j) = some v:=by
      intro j v hv
      have h:=(Whole.made w2 156 (encE e).toArray).at_ j
      rw [Addr.add_mid,Nat.zero_add,h,List.getElem?_toArray]
      exact hv
     clear ha hr hv HGO2
     go_wp2_with (first
      | (refine wpList_buildE rfl _ rfl e rfl ?_)
      | (at_builtin; go_loud (refine wpList_append_own_at _ rfl _ _ 43 rfl w.heap.size 156 i0 (.agg (encE zE).toArray) 34 56 Tryz.underlying43 hi hz0 hz1 hz2 (encE_size zE) (by decide) _ _ _ rfl (how2.alloc _) ⟨w2.heap.size,0,none⟩ 1 1 (encE e) rfl (by rw [encE_len]) hcell (encE_one e) (by unfold maxLen; omega) (by omega) (by simp; omega) ?_)))
     intro v' w3 hown' hgr _ _
     have how3:w3.ownsRow w.heap.size 156 34 v' (acc ++ [e]).length ((acc ++ [e]).flatMap encE):=by
      rw [List.length_append,List.flatMap_append]
      simpa using hown'
     have HAL3:=Hy ((HAL.out.alloc (.cells (encE e).toArray 156)).grown hgr (fun j hj=>.inl (hrow j hj)))
     have HR3:Hid (Rd w3 b u):=Whole.grown (Whole.past HR2.out (.cells (encE e).toArray 156)) hgr (fun e=>by have:=hrow b e.symm; omega)
     have hs3:=HAL3.out.size
     clear hown' hgr how2 hcell hrow
     go_wp2
     go_roundg u.length
     case measure=>omega
     case rel=>exact ⟨u,acc ++ [e],Nat.le_refl _,by simp; omega,how3,HAL3,hs3,HR3,HN⟩
    ·exact ⟨rfl,.inr ⟨by rw [HGO2.out,hv],c,hc,rfl,hal.out.trans ha⟩⟩
   ·have HGN:Hid (getT s = none):=by show _ = _; rw [HGO.out,if_neg h20]
    have hd20:decide ((acc.length:Int) < 20) = false:=by simp; omega
    clear HGO
    go_wp2_with (first
     | (go_at_call 37; refine (left_any b t _ hrd.out).mono ?_; rintro e w' ⟨rfl,rfl⟩)
     | (go_at_call 78; refine (must_no _ _).mono ?_; rintro e w' ⟨rfl,rfl⟩))
    exact ⟨rfl,.inr ⟨HGN.out,1,by decide,rfl,hal.out⟩⟩
theorem do_fell (G:Nat) (caps:Array Value) (w:World) (R:Nat → Prop) (he:∀ W,(callFunc G caps).run Tryz.prog W = .ok (.enter G caps) W) (hR:¬ R w.heap.size)
  (h:Calls Tryz.prog G caps (w.alloc (.cells #[.int .i64 0] 25)) fun e w'=>Fell R (w.alloc (.cells #[.int .i64 0] 25)) e w') :
  Calls Tryz.prog 33 #[.func (.func G) #[] caps] w fun e w'=>∃ c:Int,c ≠ 0 ∧ e = .returned (.int .i64 c) ∧ Alt R w w':=by
 have hmf:∀ (fn:Fn) (first cap:Array Value) (w:World),(Instr.makeFunc fn first cap).run Tryz.prog w = .ok (.func fn first cap) w:=fun _ _ _ _=>rfl
 have hnil:=fn_nil G caps
 have HE:=Hy (Whole.made w 25 #[.int .i64 0])
 have H:=Hy h
 have HRR:=Hy hR
 clear h hR
 go_enter_defers Tryz.func33,Tryz.ntmps33
 go_wp2_with fail
 refine H.out.mono ?_
 rintro e w1 ⟨c,hc0,rfl,ha⟩
 have hE1:=HE.out.alt ha HRR.out
 have hc:w1.cell? ⟨w.heap.size,0,none⟩ = some (.int .i64 0):=(hE1.at_ 0).trans rfl
 have hz:=hE1.thawed 0
 have HA:=Hy (And.intro hc0 ha)
 clear ha hE1 hc0
 refine leaves_cons (f:=74) (args:=#[.pointer (some ⟨w.heap.size,0,none⟩)]) (by simp) (by simp [go_sem]) ?_
 refine (catch_fault ⟨w.heap.size,0,none⟩ (.int .i64 0) c [] _ hc hz).mono ?_
 rintro e u' w'' ⟨rfl,rfl,w2,hB2,rfl⟩
 have hc2:w2.cell? ⟨w.heap.size,0,none⟩ = some (.int .i64 0):=(hB2.cell (World.block_lt_of_cell? w1 _ hc)).trans hc
 have hcs:=World.cell?_setCell_same w2 ⟨w.heap.size,0,none⟩ (.int .i64 c) hc2
 simp [Leaves,settle,results,Tryz.results33,go_sem,hcs]
 exact ⟨c,HA.out.1,rfl,(HA.out.2.last.below hB2).set (.inr (Nat.le_refl _)) _⟩
theorem ArgE.alt {w w':World} {A:Option Addr} {c:Nat} {es:List En} {R:Nat → Prop} (h:ArgE w A c es) (k:Alt R w w') (hn:∀ j,inBlk A j → 0 < es.length → ¬ R j):ArgE w' A c es:=by
 have h':=h
 obtain ⟨h1,h2,h3,h4⟩:=h
 refine ⟨h1,h2,h3,fun h0=>?_⟩
 obtain ⟨b,o,e,hr⟩:=h4 h0
 have hb:=h'.lt ⟨_,e,rfl⟩ h0
 have hk:=k.block b hb (hn b ⟨_,e,rfl⟩ h0)
 refine ⟨b,o,e,fun i hi j u hu=>?_⟩
 have:=hr i hi j u hu
 unfold World.cell? at *
 dsimp only at *
 rw [hk]
 exact this
theorem OwnB.alt {w w':World} {A:Option Addr} {R:Nat → Prop} (h:OwnB w A) (k:Alt R w w') (hn:∀ j,inBlk A j → ¬ R j):OwnB w' A:=by
 intro j hj
 obtain ⟨t,cs,hw⟩:=h j hj
 exact ⟨t,cs,hw.alt k (hn j hj)⟩
theorem ArgE.aside {w:World} {A:Option Addr} {c g:Nat} {t:TypeId} {es:List En} {n m:Nat} {B:Option Addr} (h:ArgE w A c es) (hw:Whole w g t #[.slice B n m]) (v:Value):ArgE (w.setCell ⟨g,0,none⟩ v) A c es:=by
 obtain ⟨h1,h2,h3,h4⟩:=h
 refine ⟨h1,h2,h3,fun h0=>?_⟩
 obtain ⟨b,o,e,hr⟩:=h4 h0
 refine ⟨b,o,e,fun i hi j u hu=>?_⟩
 have hbg:g ≠ b:=by
  rintro rfl
  have h9:=hr.name h0
  rw [hw.at_] at h9
  cases o with
  | zero=>cases h9
  | succ o=>simp at h9
 rw [World.cell?_setCell_other _ _ _ _ (fun e=>hbg (by injection e))]
 exact hr i hi j u hu
theorem tget1_any (g0 g1:Nat) (s:List UInt8) (W:World) (hs:Whole W g0 9 #[.string ⟨s.toArray⟩]) (hg:Whole W g1 43 #[.slice none 0 0]) (hl:s.length ≤ 1099511627776) :
  Calls Tryz.prog 193 #[.pointer (some ⟨g0,0,none⟩),.pointer (some ⟨g1,0,none⟩)] W fun e w'=>(∃ es A c,getT s = some es ∧ e = .returned (.tuple #[]) ∧ Alt (· = g1) W w' ∧ Whole w' g1 43 #[.slice A (List.length es) c] ∧ ArgE w' A c es ∧ (∀ j,inBlk A j → W.heap.size ≤ j) ∧ OwnB w' A) ∨ (getT s = none ∧ Fell (· = g1) W e w'):=by
 have hc0:W.cell? ⟨g0,0,none⟩ = some (.string ⟨s.toArray⟩):=(hs.at_ 0).trans rfl
 have HG:=Hy hg
 have hgl:=hg.lt
 clear hs hg
 go_enter Tryz.func193,Tryz.ntmps193
 go_wp2_with (refine wpList_of_string rfl 9 63 5 _ rfl ⟨s.toArray⟩ s rfl rfl Tryz.underlying9 Tryz.underlying63 Tryz.underlying5 (by unfold maxLen; omega) ?_; intro w1 c hby hzz hbe hsz; have HBY:=Hy hby; have HBE:=Hy hbe; clear hby hzz hbe)
 refine (gnew_any _ s w1 HBY.out).mono ?_
 rintro e w2 ⟨rfl,hB2,hR2,hs2⟩
 have HG2:=Hy ((HG.out.below HBE.out hgl).below hB2 (by omega))
 have HB2:=Hy (hTr HBE hB2)
 rw [hsz] at hR2
 have HR2:=Hy hR2
 clear hB2 hR2 hc0
 go_wp2_with fail
 with_reducible refine (entries_any (W.heap.size + 1) s w2 HR2.out).mono ?_
 rintro r w3 (⟨es,A,c',hgt,rfl,ha,har,hnb,hob⟩ | ⟨hgt,cc,hcc,rfl,ha⟩)
 ·have HA3:Hid (Alt (· = g1) W w3):=(Alt.of_below HB2.out).then ha (fun k hk e=>by omega)
  have hG3:=HG2.out.alt ha (by omega)
  have HAR:=Hy har
  have HGT:=Hy hgt
  have HNB:Hid (∀ j,inBlk A j → W.heap.size ≤ j):=fun j hj=>by have:=hnb j hj; have:=HB2.out.size; omega
  have HOB:=Hy hob
  have hc1:w3.cell? ⟨g1,0,none⟩ = some (.slice none 0 0):=(hG3.at_ 0).trans rfl
  have hf1:=hG3.thawed 0
  have HG3:=Hy hG3
  clear ha har hgt hG3 hnb hob
  go_wp2
  go_end0
  refine .inl ⟨es,A,c',HGT.out,rfl,HA3.out.set (p:=⟨g1,0,none⟩) (.inl rfl) _,?_,HAR.out.aside HG3.out _,HNB.out,HOB.out.set _ _ _⟩
  exact HG3.out.put 0 (.slice A es.length c')
 ·exact ⟨rfl,.inr ⟨hgt,cc,hcc,rfl,(Alt.of_below HB2.out).then ha (fun k hk e=>by omega)⟩⟩
theorem tget1_enters (caps:Array Value) (W:World):(callFunc 193 caps).run Tryz.prog W = .ok (.enter 193 caps) W:=enters_of Tryz.func193 (by kernel_rfl) rfl _ _
def GotT (B:Nat) (s:List UInt8) (e:Ending) (w':World):Prop:=
 (∃ es A c,getT s = some es ∧ e = .returned (.tuple #[.slice A (List.length es) c,.int .i64 0]) ∧ ArgE w' A c es ∧ ∀ j,inBlk A j → B ≤ j) ∨ (getT s = none ∧ e = .returned (.tuple #[.slice none 0 0,.int .i64 1]))
def GotTo (B:Nat) (s:List UInt8) (e:Ending) (w':World):Prop:=
 (∃ es A c,getT s = some es ∧ e = .returned (.tuple #[.slice A (List.length es) c,.int .i64 0]) ∧ ArgE w' A c es ∧ Own2 B w' A) ∨ (getT s = none ∧ e = .returned (.tuple #[.slice none 0 0,.int .i64 1]))
theorem tgetO_any (s:List UInt8) (w:World) (hl:s.length ≤ 1099511627776) :
  Calls Tryz.prog 147 #[.string ⟨s.toArray⟩] w fun e w'=>GotTo w.heap.size s e w' ∧ Below w.heap.size w w':=by
 have hmf:∀ (fn:Fn) (first cap:Array Value) (w:World),(Instr.makeFunc fn first cap).run Tryz.prog w = .ok (.func fn first cap) w:=fun _ _ _ _=>rfl
 have HS:=Hy (Whole.past (Whole.made w 9 #[.string ⟨s.toArray⟩]) (.cells #[.slice none 0 0] 43))
 have HG:Hid (Whole ((w.alloc (.cells #[.string ⟨s.toArray⟩] 9)).alloc (.cells #[.slice none 0 0] 43)) (w.heap.size + 1) 43 #[.slice none 0 0]):=by
  show Whole _ _ _ _
  have:=Whole.made (w.alloc (.cells #[.string ⟨s.toArray⟩] 9)) 43 #[.slice none 0 0]
  simpa using this
 have HB:=Hy (((Below.refl w.heap.size w).alloc (Nat.le_refl _) (.cells #[.string ⟨s.toArray⟩] 9)).alloc (by simp) (.cells #[.slice none 0 0] 43))
 have hs0:((w.alloc (.cells #[.string ⟨s.toArray⟩] 9)).alloc (.cells #[.slice none 0 0] 43)).heap.size = w.heap.size + 2:=by simp
 go_enter Tryz.func147,Tryz.ntmps147
 go_wp2_with fail
 generalize (w.alloc (.cells #[.string ⟨s.toArray⟩] 9)).alloc (.cells #[.slice none 0 0] 43) = w0 at *
 have hcall:=tget1_any w.heap.size (w.heap.size + 1) s (w0.alloc (.cells #[.int .i64 0] 25)) (HS.out.past _) (HG.out.past _) hl
 have hR:¬ w0.heap.size = w.heap.size + 1:=by omega
 cases hg:getT s with
 | none=>
  have HGN:=Hy hg
  have hc2:=hcall.mono fun e w' (h:_ ∨ _)=>(h.resolve_left (by rintro ⟨es,A,c,h9,-⟩; rw [hg] at h9; cases h9)).2
  have HD:=Hy (do_fell _ _ w0 (· = w.heap.size + 1) (tget1_enters _) hR hc2)
  clear hcall hc2 hg
  refine HD.out.mono ?_
  rintro e w3 ⟨cc,hcc,rfl,ha⟩
  have HBF:=Hy (HB.out.trans (ha.to (B:=w.heap.size) (fun k e=>by omega) (by omega)))
  have hne:(cc != 0) = true:=by simpa using hcc
  clear ha hcc HD
  go_wp2
  go_ret2
  exact ⟨.inr ⟨HGN.out,rfl⟩,HBF.out⟩
 | some es=>
  have HGN:=Hy hg
  have hE:=Whole.made w0 25 #[.int .i64 0]
  have hc2:Calls Tryz.prog 193 #[.pointer (some ⟨w.heap.size,0,none⟩),.pointer (some ⟨w.heap.size + 1,0,none⟩)] (w0.alloc (.cells #[.int .i64 0] 25)) fun e w'=>e = .returned (.tuple #[]) ∧ Alt (· = w.heap.size + 1) (w0.alloc (.cells #[.int .i64 0] 25)) w' ∧ (∃ A c,Whole w' (w.heap.size + 1) 43 #[.slice A es.length c] ∧ ArgE w' A c es ∧ (∀ j,inBlk A j → w0.heap.size < j) ∧ OwnB w' A):=by
   refine hcall.mono fun e w' h=>?_
   rcases h with ⟨es',A,c,h9,he,ha,hw,har,hnb,hob⟩ | ⟨h9,-⟩
   ·rw [hg] at h9
    injection h9 with h9
    subst h9
    exact ⟨he,ha,A,c,hw,har,fun j hj=>by have:=hnb j hj; simp at this; omega,hob⟩
   ·rw [hg] at h9
    cases h9
  have HD:=Hy (do_ret_q _ _ w0 (· = w.heap.size + 1) _ (tget1_enters _) hR (by
   rintro w1 w2 - ⟨A,c,hw,har,hj,ho⟩ hal
   exact ⟨A,c,hw.alt hal (fun e=>hR e.symm),har.alt hal (fun j h1 _ e=>by have:=hj j h1; omega),hj,ho.alt hal (fun j h1 e=>by have:=hj j h1; omega)⟩) hc2)
  clear hcall hc2 hg hE
  refine HD.out.mono ?_
  rintro e w3 ⟨rfl,ha,A,c,hw,har,hj,hob⟩
  have HBF:=Hy (HB.out.trans (ha.to (B:=w.heap.size) (fun k e=>by omega) (by omega)))
  have hcl:w3.cell? ⟨w.heap.size + 1,0,none⟩ = some (.slice A es.length c):=(hw.at_ 0).trans rfl
  have HAR:=Hy har
  have HJ:Hid (Own2 w.heap.size w3 A):=⟨fun j h1=>by have:=hj j h1; omega,hob⟩
  clear ha hw har hj HD hob
  go_wp2
  go_ret2
  exact ⟨.inl ⟨es,A,c,HGN.out,rfl,HAR.out,HJ.out⟩,HBF.out⟩
theorem tget_any (s:List UInt8) (w:World) (hl:s.length ≤ 1099511627776) :
  Calls Tryz.prog 147 #[.string ⟨s.toArray⟩] w fun e w'=>GotT w.heap.size s e w' ∧ Below w.heap.size w w':=by
 refine (tgetO_any s w hl).mono ?_
 rintro e w' ⟨⟨es,A,c,h1,h2,h3,h4⟩ | h,hb⟩
 ·exact ⟨.inl ⟨es,A,c,h1,h2,h3,h4.1⟩,hb⟩
 ·exact ⟨.inr h,hb⟩
def RK (g:Nat):Nat → Prop:=fun k=>k = g ∨ k = g + 1 ∨ k = g + 2
theorem dget1_any (g0 g1 base:Nat) (cs:List Ct) (W:World) (hok:∀ c ∈ cs,okC base c) (hb6:base ≤ 1000000) (hs6:sumC cs ≤ 1000000) (_:g0 < g1) (hs:Whole W g0 9 #[.string ⟨(encD base cs).toArray⟩]) (h1:Whole W g1 3 #[.int .i64 0]) (h2:Whole W (g1 + 1) 3 #[.int .i64 0]) (h3:Whole W (g1 + 2) 91 #[.slice none 0 0]) :
  Calls Tryz.prog 94 #[.pointer (some ⟨g0,0,none⟩),.pointer (some ⟨g1,0,none⟩),.pointer (some ⟨g1 + 1,0,none⟩),.pointer (some ⟨g1 + 2,0,none⟩)] W fun e w'=>e = .returned (.tuple #[]) ∧ Alt (RK g1) W w' ∧ Whole w' g1 3 #[.int .i64 (base:Int)] ∧ Whole w' (g1 + 1) 3 #[.int .i64 (sumC cs:Int)] ∧ ∃ A c,Whole w' (g1 + 2) 91 #[.slice A cs.length c] ∧ ArgG encK default 3 w' A c cs ∧ ∀ j,inBlk A j → W.heap.size ≤ j:=by
 have hc0:W.cell? ⟨g0,0,none⟩ = some (.string ⟨(encD base cs).toArray⟩):=(hs.at_ 0).trans rfl
 have H1:=Hy h1
 have H2:=Hy h2
 have H3:=Hy h3
 have hl3:=h3.lt
 have hel:(encD base cs).length ≤ 6 + 101 * 1000000:=by
  have e1:=numV_le base hb6
  have e2:=numV_le (sumC cs) hs6
  have e3:=flatK_le cs hok
  have e4:=sumC_le cs hok
  unfold encD
  rw [List.length_append,List.length_append]
  omega
 have HRD:=Hy fun b W (h:Rd W b (encD base cs))=>dread_any b base cs W hok hb6 hs6 h
 clear hs h1 h2 h3 hok
 generalize encD base cs = s at *
 go_enter Tryz.func94,Tryz.ntmps94
 go_wp2_with (refine wpList_of_string rfl 9 63 5 _ rfl ⟨s.toArray⟩ s rfl rfl Tryz.underlying9 Tryz.underlying63 Tryz.underlying5 (by unfold maxLen; omega) ?_; intro w1 c hby hzz hbe hsz; have HBY:=Hy hby; have HBE:=Hy hbe; clear hby hzz hbe)
 refine (gnew_any _ s w1 HBY.out).mono ?_
 rintro e w2 ⟨rfl,hB2,hR2,hs2⟩
 have HB2:=Hy (hTr HBE hB2)
 rw [hsz] at hR2
 have HR2:=Hy hR2
 have hs02:W.heap.size + 1 < w2.heap.size:=by have:=HR2.out.lt; exact this
 clear hB2 hR2 hc0
 go_wp2_with fail
 with_reducible refine (HRD.out (W.heap.size + 1) w2 HR2.out).mono ?_
 rintro r w3 ⟨⟨v,rfl,hown⟩,ha⟩
 obtain ⟨A,c',rfl,harg,hlo,-⟩:=own_argG eltK hown
 have HA3:Hid (Alt (RK g1) W w3):=(Alt.of_below HB2.out).then ha (fun k hk e=>by omega)
 have hw1:=(H1.out.below HB2.out (by omega)).alt ha (by omega)
 have hw2:=(H2.out.below HB2.out (by omega)).alt ha (by omega)
 have hw3:=(H3.out.below HB2.out (by omega)).alt ha (by omega)
 have HLO:Hid (∀ j,inBlk A j → W.heap.size ≤ j):=fun j hj=>by have:=hlo j hj; omega
 have HAR:=Hy harg
 clear hown harg hlo ha HR2 H1 H2 H3
 have c1:w3.cell? ⟨g1,0,none⟩ = some (.int .i64 0):=(hw1.at_ 0).trans rfl
 have c2:w3.cell? ⟨g1 + 1,0,none⟩ = some (.int .i64 0):=(hw2.at_ 0).trans rfl
 have c3:w3.cell? ⟨g1 + 2,0,none⟩ = some (.slice none 0 0):=(hw3.at_ 0).trans rfl
 have f1:=hw1.thawed 0
 have f2:=hw2.thawed 0
 have f3:=hw3.thawed 0
 have HW1:=Hy hw1
 have HW2:=Hy hw2
 have HW3:=Hy hw3
 clear hw1 hw2 hw3
 go_wp2
 go_end0
 have k1:=(HW1.out.put 0 (.int .i64 (base:Int))).aside (p:=⟨g1 + 1,0,none⟩) (by simp) (.int .i64 (sumC cs:Int)) |>.aside (p:=⟨g1 + 2,0,none⟩) (by simp) (.slice A cs.length c')
 have k2:=((HW2.out.aside (p:=⟨g1,0,none⟩) (by simp) (.int .i64 (base:Int))).put 0 (.int .i64 (sumC cs:Int))).aside (p:=⟨g1 + 2,0,none⟩) (by simp) (.slice A cs.length c')
 have k3:=((HW3.out.aside (p:=⟨g1,0,none⟩) (by simp) (.int .i64 (base:Int))).aside (p:=⟨g1 + 1,0,none⟩) (by simp) (.int .i64 (sumC cs:Int))).put 0 (.slice A cs.length c')
 have gr1:=gr_set (a:=w3) (w:=w3) (row:=some g1) (gr_refl _ _) (p:=⟨g1,0,none⟩) (.inl rfl) (.int .i64 (base:Int))
 refine ⟨rfl,((HA3.out.set (p:=⟨g1,0,none⟩) (.inl (.inl rfl)) _).set (p:=⟨g1 + 1,0,none⟩) (.inl (.inr (.inl rfl))) _).set (p:=⟨g1 + 2,0,none⟩) (.inl (.inr (.inr rfl))) _,k1,k2,A,c',k3,?_,HLO.out⟩
 refine ((HAR.out.grown eltK (gr_set (row:=some g1) (gr_refl _ _) (p:=⟨g1,0,none⟩) (.inl rfl) _) (fun j hj _ e=>by injection e with e; have:=HLO.out j hj; omega)).grown eltK (gr_set (row:=some (g1 + 1)) (gr_refl _ _) (p:=⟨g1 + 1,0,none⟩) (.inl rfl) _) (fun j hj _ e=>by injection e with e; have:=HLO.out j hj; omega)).grown eltK (gr_set (row:=some (g1 + 2)) (gr_refl _ _) (p:=⟨g1 + 2,0,none⟩) (.inl rfl) _) (fun j hj _ e=>by injection e with e; have:=HLO.out j hj; omega)
theorem dget1_enters (caps:Array Value) (W:World):(callFunc 94 caps).run Tryz.prog W = .ok (.enter 94 caps) W:=enters_of Tryz.func94 (by kernel_rfl) rfl _ _
theorem ArgG.alt {α:Type} {enc:α → List Value} {d:α} {m:Nat} {T TS:TypeId} (E:Elt T TS m enc d) {w w':World} {A:Option Addr} {c:Nat} {xs:List α} {R:Nat → Prop} (h:ArgG enc d m w A c xs) (k:Alt R w w') (hn:∀ j,inBlk A j → ¬ R j):ArgG enc d m w' A c xs:=by
 have h':=h
 obtain ⟨h1,h2,h3,h4⟩:=h
 refine ⟨h1,h2,h3,fun h0=>?_⟩
 obtain ⟨b,o,e,hr⟩:=h4 h0
 have hk:=k.block b (h'.lt E ⟨_,e,rfl⟩ h0) (hn b ⟨_,e,rfl⟩)
 refine ⟨b,o,e,fun i hi j v hv=>?_⟩
 have:=hr i hi j v hv
 unfold World.cell? at *
 dsimp only at *
 rw [hk]
 exact this
theorem results_c3t {fn:Func} {p q r u:Tmp} {t1 t2 t3:TypeId} (h:fn.results = #[.cell p t1,.cell q t2,.cell r t3,.tmp u]) (tmps:Array Value) (P:Program) (w:World) :
  (results fn tmps).run P w = ((asAddr (tmps.getD p undef)).run P w).andThen fun a w₁=>((loadVar t1 a).run P w₁).andThen fun v1 w₂=>((asAddr (tmps.getD q undef)).run P w₂).andThen fun b w₃=>((loadVar t2 b).run P w₃).andThen fun v2 w₄=>((asAddr (tmps.getD r undef)).run P w₄).andThen fun c w₅=>((loadVar t3 c).run P w₅).andThen fun v3 w₆=>.ok (.tuple #[v1,v2,v3,tmps.getD u undef]) w₆:=by
 simp only [results,h]
 simp [Sem.run_bind,Result.andThen]
theorem dget_any (base:Nat) (cs:List Ct) (w:World) (hok:∀ c ∈ cs,okC base c) (hb6:base ≤ 1000000) (hs6:sumC cs ≤ 1000000) :
  Calls Tryz.prog 50 #[.string ⟨(encD base cs).toArray⟩] w fun e w'=>(∃ A c,e = .returned (.tuple #[.int .i64 (base:Int),.int .i64 (sumC cs:Int),.slice A cs.length c,.int .i64 0]) ∧ ArgG encK default 3 w' A c cs) ∧ Below w.heap.size w w':=by
 have hmf:∀ (fn:Fn) (first cap:Array Value) (w:World),(Instr.makeFunc fn first cap).run Tryz.prog w = .ok (.func fn first cap) w:=fun _ _ _ _=>rfl
 have q0:=Whole.past (Whole.past (Whole.past (Whole.made w 9 #[.string ⟨(encD base cs).toArray⟩]) (.cells #[.int .i64 0] 3)) (.cells #[.int .i64 0] 3)) (.cells #[.slice none 0 0] 91)
 have q1:=Whole.past (Whole.past (Whole.made (w.alloc (.cells #[.string ⟨(encD base cs).toArray⟩] 9)) 3 #[.int .i64 0]) (.cells #[.int .i64 0] 3)) (.cells #[.slice none 0 0] 91)
 have q2:=Whole.past (Whole.made ((w.alloc (.cells #[.string ⟨(encD base cs).toArray⟩] 9)).alloc (.cells #[.int .i64 0] 3)) 3 #[.int .i64 0]) (.cells #[.slice none 0 0] 91)
 have q3:=Whole.made (((w.alloc (.cells #[.string ⟨(encD base cs).toArray⟩] 9)).alloc (.cells #[.int .i64 0] 3)).alloc (.cells #[.int .i64 0] 3)) 91 #[.slice none 0 0]
 have z1:(w.alloc (.cells #[.string ⟨(encD base cs).toArray⟩] 9)).heap.size = w.heap.size + 1:=by simp
 have z2:((w.alloc (.cells #[.string ⟨(encD base cs).toArray⟩] 9)).alloc (.cells #[.int .i64 0] 3)).heap.size = w.heap.size + 1 + 1:=by simp
 have z3:(((w.alloc (.cells #[.string ⟨(encD base cs).toArray⟩] 9)).alloc (.cells #[.int .i64 0] 3)).alloc (.cells #[.int .i64 0] 3)).heap.size = w.heap.size + 1 + 2:=by simp
 rw [z1] at q1
 rw [z2] at q2
 rw [z3] at q3
 have hs0:((((w.alloc (.cells #[.string ⟨(encD base cs).toArray⟩] 9)).alloc (.cells #[.int .i64 0] 3)).alloc (.cells #[.int .i64 0] 3)).alloc (.cells #[.slice none 0 0] 91)).heap.size = w.heap.size + 4:=by simp
 have HB:=Hy (((((Below.refl w.heap.size w).alloc (Nat.le_refl _) (.cells #[.string ⟨(encD base cs).toArray⟩] 9)).alloc (by simp) (.cells #[.int .i64 0] 3)).alloc (by simp; omega) (.cells #[.int .i64 0] 3)).alloc (by simp; omega) (.cells #[.slice none 0 0] 91))
 have Q0:=Hy q0
 have Q1:=Hy q1
 have Q2:=Hy q2
 have Q3:=Hy q3
 have HOK:=Hy hok
 clear q0 q1 q2 q3 z1 z2 z3 hok
 go_enter Tryz.func50,Tryz.ntmps50
 go_wp2_with fail
 generalize (((w.alloc (.cells #[.string ⟨(encD base cs).toArray⟩] 9)).alloc (.cells #[.int .i64 0] 3)).alloc (.cells #[.int .i64 0] 3)).alloc (.cells #[.slice none 0 0] 91) = w0 at *
 have hR:¬ RK (w.heap.size + 1) w0.heap.size:=by unfold RK; omega
 have hc2:=(dget1_any w.heap.size (w.heap.size + 1) base cs (w0.alloc (.cells #[.int .i64 0] 25)) HOK.out hb6 hs6 (by omega) (Q0.out.past _) (Q1.out.past _) (Q2.out.past _) (Q3.out.past _)).mono fun e w' (h:_ ∧ _ ∧ _ ∧ _ ∧ ∃ A c,_ ∧ _ ∧ _)=>(show e = .returned (.tuple #[]) ∧ Alt (RK (w.heap.size + 1)) (w0.alloc (.cells #[.int .i64 0] 25)) w' ∧ (Whole w' (w.heap.size + 1) 3 #[.int .i64 (base:Int)] ∧ Whole w' (w.heap.size + 1 + 1) 3 #[.int .i64 (sumC cs:Int)] ∧ ∃ A c,Whole w' (w.heap.size + 1 + 2) 91 #[.slice A cs.length c] ∧ ArgG encK default 3 w' A c cs ∧ ∀ j,inBlk A j → w0.heap.size < j) from by
  obtain ⟨h1,h2,h3,h4,A,c,h5,h6,h7⟩:=h
  exact ⟨h1,h2,h3,h4,A,c,h5,h6,fun j hj=>by have:=h7 j hj; simp at this; omega⟩)
 have HD:=Hy (do_ret_q _ _ w0 (RK (w.heap.size + 1)) _ (dget1_enters _) hR (by
  rintro w1 w2 hlt ⟨h1,h2,A,c,h5,h6,h7⟩ hal
  exact ⟨h1.alt hal (by omega),h2.alt hal (by omega),A,c,h5.alt hal (by omega),h6.alt eltK hal (fun j hj e=>by have:=h7 j hj; omega),h7⟩) hc2)
 clear hc2
 refine HD.out.mono ?_
 rintro e w3 ⟨rfl,ha,h1,h2,A,c,h3,har,hj⟩
 have HBF:=Hy (HB.out.trans (ha.to (B:=w.heap.size) (fun k e=>by unfold RK at e; omega) (by omega)))
 have c1:w3.cell? ⟨w.heap.size + 1,0,none⟩ = some (.int .i64 (base:Int)):=(h1.at_ 0).trans rfl
 have c2:w3.cell? ⟨w.heap.size + 1 + 1,0,none⟩ = some (.int .i64 (sumC cs:Int)):=(h2.at_ 0).trans rfl
 have c3:w3.cell? ⟨w.heap.size + 1 + 2,0,none⟩ = some (.slice A cs.length c):=(h3.at_ 0).trans rfl
 have f1:=h1.thawed 0
 have f2:=h2.thawed 0
 have f3:=h3.thawed 0
 have H1:=Hy h1
 have H2:=Hy h2
 have H3:=Hy h3
 have HAR:=Hy har
 have HJ:=Hy hj
 clear h1 h2 h3 har hj ha HD HB Q0 Q1 Q2 Q3 HOK
 go_wp2_with fail
 go_region
 have k1:=(H1.out.put 0 (.int .i64 (base:Int))).aside (p:=⟨w.heap.size + 1 + 1,0,none⟩) (by simp) (.int .i64 (sumC cs:Int)) |>.aside (p:=⟨w.heap.size + 1 + 1 + 1,0,none⟩) (by simp) (.slice A cs.length c)
 have k2:=((H2.out.aside (p:=⟨w.heap.size + 1,0,none⟩) (by simp) (.int .i64 (base:Int))).put 0 (.int .i64 (sumC cs:Int))).aside (p:=⟨w.heap.size + 1 + 1 + 1,0,none⟩) (by simp) (.slice A cs.length c)
 have k3:=((H3.out.aside (p:=⟨w.heap.size + 1,0,none⟩) (by simp) (.int .i64 (base:Int))).aside (p:=⟨w.heap.size + 1 + 1,0,none⟩) (by simp) (.int .i64 (sumC cs:Int))).put 0 (.slice A cs.length c)
 have d1:=(k1.drew.at_ 0).trans (show _ = some (.int .i64 (base:Int)) from rfl)
 have d2:=(k2.drew.at_ 0).trans (show _ = some (.int .i64 (sumC cs:Int)) from rfl)
 have d3:=(k3.drew.at_ 0).trans (show _ = some (.slice A cs.length c) from rfl)
 have HAF:=Hy (((HAR.out.grown eltK (gr_set (row:=some (w.heap.size + 1)) (gr_refl _ _) (p:=⟨w.heap.size + 1,0,none⟩) (.inl rfl) (.int .i64 (base:Int))) (fun j hj _ e=>by injection e with e; have:=HJ.out j hj; omega)).grown eltK (gr_set (row:=some (w.heap.size + 1 + 1)) (gr_refl _ _) (p:=⟨w.heap.size + 1 + 1,0,none⟩) (.inl rfl) (.int .i64 (sumC cs:Int))) (fun j hj _ e=>by injection e with e; have:=HJ.out j hj; omega)).grown eltK (gr_set (row:=some (w.heap.size + 1 + 1 + 1)) (gr_refl _ _) (p:=⟨w.heap.size + 1 + 1 + 1,0,none⟩) (.inl rfl) (.slice A cs.length c)) (fun j hj _ e=>by injection e with e; have:=HJ.out j hj; omega))
 have HBG:=Hy ((((HBF.out.setCell (p:=⟨w.heap.size + 1,0,none⟩) (by simp) (.int .i64 (base:Int))).setCell (p:=⟨w.heap.size + 1 + 1,0,none⟩) (by simp; omega) (.int .i64 (sumC cs:Int))).setCell (p:=⟨w.heap.size + 1 + 1 + 1,0,none⟩) (by simp; omega) (.slice A cs.length c)).drew)
 have HAG:=Hy (HAF.out.later eltK (Below.refl _ _).drew)
 clear k1 k2 k3 c1 c2 c3 f1 f2 f3 HAF HBF HAR
 generalize (((w3.setCell ⟨w.heap.size + 1,0,none⟩ (.int .i64 (base:Int))).setCell ⟨w.heap.size + 1 + 1,0,none⟩ (.int .i64 (sumC cs:Int))).setCell ⟨w.heap.size + 1 + 1 + 1,0,none⟩ (.slice A cs.length c)).drew = w4 at *
 go_wp2
 refine bodyPost_ret (v:=.tuple #[.int .i64 (base:Int),.int .i64 (sumC cs:Int),.slice A cs.length c,.int .i64 0]) ?_ rfl ⟨⟨A,c,rfl,HAG.out⟩,HBG.out⟩
 rw [results_c3t rfl]
 go_simp
end Go.Proofs.YtlfmooihcigolaaGreatDoor

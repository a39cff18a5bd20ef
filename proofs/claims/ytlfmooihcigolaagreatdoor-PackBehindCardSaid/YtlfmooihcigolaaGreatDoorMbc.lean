/-
  ObF, AppN.
-/
import Derived.Test.YtlfmooihcigolaaGreatDoorMbb
set_option maxRecDepth 100000
set_option maxHeartbeats 8000000
namespace Go.Proofs.YtlfmooihcigolaaGreatDoor
open Go.RowKit
def nameO (x:Ob):List UInt8:=ShaM.sha (named x.kind (bytesO x))
theorem nameO_len (x:Ob):(nameO x).length = 32:=ShaM.sha_len _
def idO (x:Ob):Nm:=if mayO' x then ⟨nameO x,nameO_len x⟩ else default
theorem results_irow {fn:Func} (hr:fn.results = #[.cell 2 30,.tmp 3]) (v:Value) (a:Act) (w:World) (g:Nat) (t:TypeId) (cs:Array Value) (h2:a.tmps.getD 2 undef = .pointer (some ⟨g,0,none⟩)) (h3:a.tmps.getD 3 undef = v) (hW:Whole w g t cs) (hi:(Tryz.prog.info? 30).map (·.size) = some cs.size) :
  (results fn a.tmps).run Tryz.prog w = .ok (.tuple #[.agg cs,v]) w:=by
 rw [← h3]
 exact results_row_tmp hr _ _ g t cs (0,0) _ h2 hW Tryz.underlying30 rfl hi
theorem oid_any (A:Option Addr) (c:Nat) (A2:Option Addr) (c2:Nat) (x:Ob) (w:World) (hA:ArgO w A c A2 c2 x) (ht:x.commit.time < 18446744073709551616) (hl:x.entries.length ≤ 1048576) (hTab:Tabs w) (hT:Tens w) (hbl:mayO' x = true → (bytesO x).length ≤ 100000) :
  Calls Tryz.prog 150 #[.agg (encO A c A2 c2 x).toArray] w fun e w'=>e = .returned (.tuple #[.agg (encN (idO x)).toArray,.bool (mayO' x)]) ∧ Below w.heap.size w w':=by
 obtain ⟨hW,hB,hA0⟩:=obox A c A2 c2 x w hA
 have HOP:=Hy (fun W (h:Below (w.alloc (.cells (encO A c A2 c2 x).toArray 49)).heap.size (w.alloc (.cells (encO A c A2 c2 x).toArray 49)) W)=>oput_any A c A2 c2 x W (hA0.later h) ht hl)
 have HXS:=Hy (infoO_s A c A2 c2 x)
 have E0:=Hy (encO_0 A c A2 c2 x)
 have HTab:=Hy hTab
 have HT:=Hy hT
 have HBL:=Hy hbl
 have HZ:Hid (#[Value.int .u8 0,Z8,Z8,Z8,Z8,Z8,Z8,Z8,Z8,Z8,Z8,Z8,Z8,Z8,Z8,Z8,Z8,Z8,Z8,Z8,Z8,Z8,Z8,Z8,Z8,Z8,Z8,Z8,Z8,Z8,Z8,Z8] = (encN default).toArray):=rfl
 have HW0:=Hy fun z=>Whole.past hW (.cells z 30)
 have HZ0:Hid (∀ z,Whole ((w.alloc (.cells (encO A c A2 c2 x).toArray 49)).alloc (.cells z 30)) (w.heap.size + 1) 30 z):=by
  intro z
  have:=Whole.made (w.alloc (.cells (encO A c A2 c2 x).toArray 49)) 30 z
  simpa using this
 have HB0:=Hy fun z=>hB.alloc (by simp) (.cells z 30)
 have HQ:Hid (idO x = if mayO' x then ⟨nameO x,nameO_len x⟩ else default):=rfl
 have HN:Hid (nameO x = ShaM.sha (named x.kind (bytesO x))):=rfl
 clear hW hB hA0 hA ht hl hTab hT hbl
 generalize (encO A c A2 c2 x).toArray = cs at *
 go_enter Tryz.func150,Tryz.ntmps150
 go_upto_region 1 with fail
 rw [HZ.out]
 have HZS:=Hy (encN_size default)
 generalize (encN default).toArray = z at *
 have HW1:=Hy (HW0.out z)
 have HZ1:=Hy (HZ0.out z)
 have HB1:=Hy (HB0.out z)
 have HP1:=Hy (HOP.out _ ((Below.refl _ _).alloc (Nat.le_refl _) (.cells z 30)))
 clear HW0 HZ0 HB0 HOP
 generalize (w.alloc (.cells cs 49)).alloc (.cells z 30) = w0 at *
 go_wp2_with (refine wpList_load_row rfl 49 _ rfl w.heap.size rfl 49 cs (0,0) _ HW1.out Tryz.underlying49 rfl HXS.out ?_)
 refine HP1.out.mono ?_
 rintro e w2 ⟨rfl,hb⟩
 have HB2:=Hy (hTr HB1 hb)
 have hw2:=HW1.out.below hb HW1.out.lt
 have HZ2:=Hy (HZ1.out.below hb HZ1.out.lt)
 have e0:=(hw2.at_ 0).trans E0.out
 clear hb hw2
 cases hm:mayO' x with
 | false=>
  have HM:=Hy hm
  have HIO:Hid (idO x = default):=by show _ = _; rw [HQ.out,hm]; rfl
  have HIX:=Hy (infoXs default)
  have HIA:=Hy (encN_all default)
  have HIS:=Hy (encN_size default)
  clear hm HQ
  go_wp2_with (refine wpList_store_whole rfl 30 _ _ rfl (w.heap.size + 1) (encN default).toArray rfl rfl 30 z HZ2.out HIX.out (by rw [HIS.out]; exact HZS.out) HIA.out ?_; intro w9 hWn hGn; have HW9:=Hy hWn; have HG9:=Hy hGn; clear hWn hGn)
  have HB9:=Hy (be_grown HB2.out HG9.out HB2.out.size (fun j hj=>by injection hj with hj; omega))
  refine bodyPost_ret (v:=.tuple #[.agg (encN default).toArray,.bool false]) (results_irow rfl _ _ _ (w.heap.size + 1) _ _ rfl rfl HW9.out HIX.out) rfl ⟨by rw [HIO.out,HM.out],HB9.out⟩
 | true=>
  have HM:=Hy hm
  have HI:Hid (encN (idO x) = (ShaM.sha (named x.kind (bytesO x))).map Y):=by show _ = _; rw [HQ.out,hm]; rfl
  have HOF:=Hy (oof_any x.kind (bytesO x) w2 (HTab.out.below HB2.out HTab.out.lt1 HTab.out.lt2) (HT.out.below HB2.out) (HBL.out hm))
  rw [← HI.out] at HOF
  have HIX:=Hy (infoXs (idO x))
  have HIA:=Hy (encN_all (idO x))
  have HIS:=Hy (encN_size (idO x))
  rw [if_pos rfl]
  clear hm HI HN HQ
  generalize hni:(encN (idO x)).toArray = ni at *
  generalize bytesO x = bx at *
  generalize x.kind = kx at *
  go_wp2_with fail
  refine HOF.out.mono ?_
  rintro e w3 ⟨rfl,hb⟩
  have HB3:=Hy (hTr HB2 hb)
  have HZ3:=Hy (HZ2.out.below hb HZ2.out.lt)
  clear hb
  go_wp2_with (refine wpList_store_whole rfl 30 _ _ rfl (w.heap.size + 1) ni rfl rfl 30 z HZ3.out HIX.out (by rw [HIS.out]; exact HZS.out) HIA.out ?_; intro w9 hWn hGn; have HW9:=Hy hWn; have HG9:=Hy hGn; clear hWn hGn)
  have HB9:=Hy (be_grown HB3.out HG9.out HB3.out.size (fun j hj=>by injection hj with hj; omega))
  refine bodyPost_ret (v:=.tuple #[.agg ni,.bool true]) (results_irow rfl _ _ _ (w.heap.size + 1) _ _ rfl rfl HW9.out HIX.out) rfl ⟨by rw [HM.out,hni],HB9.out⟩
def idsE (es:List En):List Nm:=es.map En.id
theorem idsE_take (es:List En) (k:Nat) (h:k < es.length):idsE (es.take (k + 1)) = idsE (es.take k) ++ [(es.getD k default).id]:=by
 unfold idsE
 rw [List.take_succ_eq_append_getElem h,List.map_append]
 simp [List.getD,List.getElem?_eq_getElem h]
theorem entry_idr {w:World} {g:Nat} {t:TypeId} {e:En} (h:Whole w g t (encE e).toArray):w.rangeAt g 2 (encN e.id):=by
 intro j v hv
 rw [h.at_,List.getElem?_toArray,← hv,show encE e = .string ⟨e.name.toArray⟩ :: .bool e.dir :: encN e.id from rfl,show 2 + j = j + 1 + 1 by omega,List.getElem?_cons_succ,List.getElem?_cons_succ]
theorem wpList_buildN {ops:Array Oper} {rest:List Oper} {o:Oper} {a:Act} {w:World} {Q:Exit → Act → World → Prop} (hgd:o.guard = none) (t:Operand) (ho:o.op = .buildSlice 44 1 #[(0,t)]) (x:Nm) (hx:a.eval t = .agg (encN x).toArray)
  (h:wpList Tryz.prog ops Q rest (a.put o.dst (.slice (some ⟨w.heap.size,0,none⟩) 1 1)) (w.alloc (.cells (encN x).toArray 30))):wpList Tryz.prog ops Q (o :: rest) a w:=
 wpList_plain hgd fun _ hK=>wp_buildN t ho x hx (hK _ _ h)
theorem eids_any (A:Option Addr) (c:Nat) (es:List En) (w:World) (hA:ArgE w A c es) (hl:es.length ≤ 1048576) :
  Calls Tryz.prog 198 #[.slice A es.length c] w fun e w'=>(∃ v,e = .returned v ∧ w'.ownsRow w.heap.size 30 32 v es.length ((idsE es).flatMap encN)) ∧ Below w.heap.size w w':=by
 obtain ⟨i0,hi,hz0,hz1,hz2⟩:=info_parts info23
 have HA:=Hy hA
 have hlc:=hA.1
 clear hA
 go_enter Tryz.func198,Tryz.ntmps198
 go_wp2
 go_loopg [3,5,8] es.length (fun g s3 _ s8 wr=>∃ (k:Nat) (A9:Option Addr) (c9:Nat),s3 = .slice A9 k c9 ∧ k ≤ es.length ∧ es.length - k ≤ g ∧ s8 = .int .i64 k ∧ wr.ownsRow w.heap.size 30 32 (.slice A9 k c9) k ((idsE (es.take k)).flatMap encN) ∧ Hid (Below w.heap.size w wr))
 case atStart=>exact ⟨0,none,0,rfl,Nat.zero_le _,by omega,rfl,by simpa [idsE] using World.ownsRow_nil _ _ _ _,Hy (Below.refl _ _)⟩
 case round=>
  obtain ⟨k,A9,c9,rfl,hk,hg,rfl,hown,hwr⟩:=hrel
  by_cases hlt:k < es.length
  ·have hlt':(k:Int) < (es.length:Int):=by omega
   obtain ⟨bb,o,rfl,hr⟩:=(HA.out.later hwr.out).2.2.2 (by omega)
   have hrk:=hr k hlt
   have HTK:=Hy (idsE_take es k hlt)
   obtain ⟨y,hy⟩:∃ y,y = es.getD k default:=⟨_,rfl⟩
   rw [← hy] at hrk HTK
   have HRK:=Hy hrk
   have HYI:=Hy (infoX y.id)
   have HOW:=Hy hown
   clear hy hr hrk hown
   have hrow:∀ j,(Value.slice A9 k c9).ownBlock = some j → w.heap.size ≤ j:=fun j hj=>(HOW.out.lt j hj).1
   have HROW:=Hy hrow
   clear hrow
   have hsw:=hwr.out.size
   go_wp2_with (first
    | (refine wpList_load_mid rfl 156 _ rfl bb (o + k * 34) rfl (encE y) _ HRK.out Tryz.underlying156 rfl (infoE_l y) ?_)
    | (refine wpList_store_whole rfl 156 _ _ rfl wr.heap.size (encE y).toArray rfl rfl 156 _ (Whole.made wr _ _) (infoE_s y) (by rw [encE_size]; kernel_rfl) (encE_all y) ?_; intro w3 hWn hGn; have HW3:=Hy hWn; have HID3:=Hy (entry_idr hWn); have D3:=Hy (made_below' hGn); clear hWn hGn)
    | (refine wpList_load_mid rfl 30 _ rfl wr.heap.size 2 rfl (encN y.id) _ HID3.out Tryz.underlying30 rfl HYI.out ?_)
    | (refine wpList_buildN rfl _ rfl y.id rfl ?_)
    | (at_builtin; go_loud (refine wpList_append_own_at _ rfl _ _ 44 rfl w.heap.size 30 i0 (.agg (encN default).toArray) 32 32 Tryz.underlying44 hi hz0 hz1 hz2 (encN_size default) (by decide) _ _ _ rfl ((own_later HOW.out D3.out).alloc _) ⟨w3.heap.size,0,none⟩ 1 1 (encN y.id) rfl (by rw [encN_len]) (by intro j v hv; have h:=(Whole.made w3 30 (encN y.id).toArray).at_ j; rw [Addr.add_mid,Nat.zero_add,h,List.getElem?_toArray]; exact hv) (encN_one y.id) (by unfold maxLen; omega) (by omega) (by have:=D3.out.size; simp; omega) ?_)))
   intro v' w4 hown' hgr _ _
   have how4:w4.ownsRow w.heap.size 30 32 v' (k + 1) ((idsE (es.take (k + 1))).flatMap encN):=by
    rw [HTK.out,List.flatMap_append]
    simpa using hown'
   have HB4:=Hy (((hwr.out.trans (D3.out.mono hwr.out.size)).alloc (by have:=D3.out.size; omega) (.cells (encN y.id).toArray 30)).grown hgr (by have:=D3.out.size; simp; omega) (fun j hj=>HROW.out j hj))
   obtain ⟨A4,c4,rfl⟩:∃ A4 c4,v' = .slice A4 (k + 1) c4:=by
    rcases how4.2 with ⟨rfl,h0⟩ | ⟨g',cap,cur,rfl,-⟩
    ·omega
    ·exact ⟨_,_,rfl⟩
   have HOW4:=Hy how4
   clear hown' hgr how4
   go_wp2
   go_roundg (es.length - (k + 1))
   case measure=>omega
   case rel=>exact ⟨k + 1,A4,c4,rfl,by omega,Nat.le_refl _,by go_num,HOW4.out,HB4⟩
  ·obtain rfl:k = es.length:=by omega
   rw [List.take_length] at hown
   have HOW:=Hy hown
   clear hown
   go_wp2
   go_ret
   exact ⟨⟨_,rfl,HOW.out⟩,hwr.out⟩
theorem olinks2_any (A:Option Addr) (c:Nat) (A2:Option Addr) (c2:Nat) (x:Ob) (w:World) (hA:ArgO w A c A2 c2 x) (hk:x.kind = 2) (hl:x.entries.length ≤ 1048576) :
  Calls Tryz.prog 151 #[.agg (encO A c A2 c2 x).toArray] w fun e w'=>(∃ B d,e = .returned (.slice B (idsE x.entries).length d) ∧ ArgN w' B d (idsE x.entries)) ∧ Below w.heap.size w w':=by
 obtain ⟨hW,hB,hA0⟩:=obox A c A2 c2 x w hA
 have HB:=Hy hB
 have e0:=(hW.at_ 0).trans (encO_0 A c A2 c2 x)
 have e2:=(hW.at_ 2).trans (encO_2 A c A2 c2 x)
 rw [hk] at e0
 have HE:=Hy (eids_any A c x.entries _ hA0.1 hl)
 have hil:(idsE x.entries).length = x.entries.length:=by simp [idsE]
 have HIL:=Hy hil
 clear hW hB hA0 hA hk hl hil
 generalize (encO A c A2 c2 x).toArray = cs at *
 go_enter Tryz.func151,Tryz.ntmps151
 go_wp2_with fail
 refine HE.out.mono ?_
 rintro e w1 ⟨⟨v,rfl,hown⟩,hb⟩
 rw [← HIL.out] at hown
 obtain ⟨B,d,rfl,harg⟩:=own_arg hown
 have HAR:=Hy harg
 have HBF:=Hy (hTr HB hb)
 clear hown harg hb
 go_wp2
 go_ret
 exact ⟨⟨B,d,rfl,HAR.out⟩,HBF.out⟩
theorem wp_appendN {o:Oper} {a:Act} {w:World} {K:Act → World → Prop} {Q:Exit → Act → World → Prop} (s x:Operand) (ho:o.op = .call { callee:=.builtin .append,args:=#[s,x],argTypes:=#[44,44] })
  (B:Nat) (v:Value) (xs:List Nm) (hs:a.eval s = v) (hown:w.ownsRow B 30 32 v xs.length (xs.flatMap encN)) (A:Option Addr) (n c:Nat) (ys:List Nm) (hn:ys.length = n) (hx:a.eval x = .slice A n c) (hy:ArgN w A c ys)
  (hB:B ≤ w.heap.size) (hl:xs.length + ys.length ≤ 1000) (h:∀ v' w',w'.ownsRow B 30 32 v' (xs ++ ys).length ((xs ++ ys).flatMap encN) → Below B w w' → K (a.put o.dst v') w'):o.wp Tryz.prog a w K Q:=by
 subst hn
 cases hq:Tryz.prog.info? 30 with
 | none=>
  have:=info23
  rw [hq] at this
  cases this
 | some i0=>
  have hi:=info23
  rw [hq] at hi
  simp only [Option.map_some,Option.some.injEq,Prod.mk.injEq] at hi
  obtain ⟨h1,h2,h3⟩:=hi
  cases A with
  | none=>
   obtain ⟨rfl,rfl⟩:=hy.nil
   have hrun:=run_append_owned_none (P:=Tryz.prog) (w:=w) B 44 o.type 30 i0 32 Tryz.underlying44 hq v xs.length (xs.flatMap encN) hown
   unfold Oper.wp
   simp [execOp,ho,resolve,invoke,builtin,hs,hx,hrun,Result.andThen]
   exact h v w (by simpa using hown) (Below.refl _ _)
  | some ad=>
   refine wp_append_own w s x 44 ho B 30 i0 (.agg (encN default).toArray) 32 32 Tryz.underlying44 hq h1 h2 h3 (encN_size default) (by decide) v xs.length (xs.flatMap encN) hs hown ad ys.length c (ys.flatMap encN) hx (flat_len ys) (fun j u hu=>?_) (flat_one ys) (by unfold maxLen; omega) (by omega) hB (fun v' w' h4 h5 _=>?_)
   ·have hj:=(List.getElem?_eq_some_iff.1 hu).1
    rw [flat_len] at hj
    obtain ⟨b,off,e,hr⟩:=hy.2.2.2 (by omega)
    injection e with e
    subst e
    rw [Addr.add_mid]
    exact row_flat hr j u hu
   ·refine h v' w' (by rw [List.length_append,List.flatMap_append]; exact h4) ?_
    refine ⟨h5.os,h5.tape,h5.output,h5.size,fun k hk=>h5.block k (by omega) ?_⟩
    intro e
    rcases hown.2 with ⟨rfl,-⟩ | ⟨g,cap,cur,rfl,hg,-⟩
    ·cases e
    ·simp [Value.ownBlock] at e
     omega
end Go.Proofs.YtlfmooihcigolaaGreatDoor

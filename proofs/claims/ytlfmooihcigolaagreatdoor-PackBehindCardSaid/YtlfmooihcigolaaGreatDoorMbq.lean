/-
  BodT, BodU, ThiE, BodV, ThiF, RidB.
-/
import Derived.Test.YtlfmooihcigolaaGreatDoorMbp
import Derived.Test.YtlfmooihcigolaaGreatDoorMbm
set_option maxRecDepth 100000
set_option maxHeartbeats 8000000
namespace Go.Proofs.YtlfmooihcigolaaGreatDoor
open Go.RowKit
def HeldB (F:Nat → Prop) (w:World) (fv:Value) (hV:Option (Nm → Int × List UInt8 × Bool)):Prop:=
 (fv = .nilFunc ∧ hV = none) ∨ ∃ G caps f J Bl,fv = .func (.func G) #[] caps ∧ hV = some f ∧ (∀ args W,(callFunc G args).run Tryz.prog W = .ok (.enter G args) W) ∧ Foot J ∧ J Bl w ∧ HeldC J F G caps f
def ansB (its:List It) (q:Int × Nat × Mk):Int:=if q.1 = 0 then (if q.2.2.made < its.length then 11 else if 4 < q.2.1 then 5 else 0) else q.1
theorem HeldB.at {F:Nat → Prop} {w w1:World} {fv:Value} {hV:Option (Nm → Int × List UInt8 × Bool)} {p:Mng} (h:HeldB F w fv hV) (hb:Below w.heap.size w w1) (hR:∀ k,p.R k → w.heap.size ≤ k):HeldV F p w1 fv hV:=by
 rcases h with h | ⟨G,caps,f,J,Bl,h1,h2,h3,h4,h5,h6⟩
 ·exact .inl h
 ·refine .inr ⟨G,caps,f,J,h1,h2,h3,h4,⟨Bl,h4.kept Bl (fun _=>False) w w1 h5 (Alt.of_below hb) (fun _ hk=>hk.elim),fun k hk hr=>?_,fun k _=>by simp [Value.ownBlock]⟩,h6⟩
  have:=h4.lt Bl w k h5 hk
  have:=hR k hr
  omega
theorem pbodies_any (F:Nat → Prop) (A:Option Addr) (c:Nat) (its:List It) (ds:Nat → Dlt) (fv:Value) (hV:Option (Nm → Int × List UInt8 × Bool)) (fuel:Nat) (q:Int × Nat × Mk) (w:World) (hA:ArgG encI default 35 w A c its) (hF:∀ k,F k → k < w.heap.size) (hFA:∀ j,inBlk A j → 0 < its.length → ¬ F j) (hn:its.length ≤ 200) (hfu:fuel ≤ 500)
  (hd:∀ i,i < its.length → ¬ wholeK (its.getD i default).kind → okD (its.getD i default) (ds i)) (hwb:∀ i,i < its.length → (its.getD i default).body.length ≤ 100000) (hTT:∀ W,Alt F w W → Tabs W ∧ Tens W) (hH:HeldB F w fv hV) (hq:roundsV its ds hV fuel (mk0 its) = some q) :
  Calls Tryz.prog 22 #[.slice A its.length c,fv] w fun e w'=>Alt F w w' ∧
   ((ansB its q = 0 ∧ ∃ p:Mng,e = .returned (.tuple #[.slice (some ⟨p.go,0,none⟩) its.length its.length,.int .i64 0]) ∧ MkM (fun _=>False) w' its p q.2.2 ∧ w.heap.size ≤ p.go) ∨ (ansB its q ≠ 0 ∧ e = .returned (.tuple #[.slice none 0 0,.int .i64 (ansB its q)]))):=by
 have HB:=Hy (pbegin_any A c its w hA hn)
 have HD:=Hy hd
 have HWB:=Hy hwb
 have HTT:=Hy hTT
 have HH:=Hy hH
 have HF:=Hy hF
 have HFA:=Hy hFA
 have HQ:=Hy hq
 have hlc:=hA.1
 clear hA hd hwb hTT hH hq hF hFA
 go_enter Tryz.func22,Tryz.ntmps22
 go_wp2_with fail
 refine HB.out.mono ?_
 rintro e w1 ⟨p,rfl,hmF,hb1,-,-,hR1⟩
 have hm1:=hmF F HF.out HFA.out
 have hRA:∀ W:World,Alt (fun k=>p.R k ∨ F k) w1 W → Alt F w W:=fun _ h=>(Alt.of_below (R:=F) hb1).then h (fun k hk hr=>hr.elim (fun h=>by have:=hR1 k (.inl h); omega) id)
 have HR:=Hy (prounds_any F its ds p (mk0 its) fv hV fuel q w1 hm1 (fun k hk=>Nat.lt_of_lt_of_le (HF.out k hk) hb1.size) hn rfl hfu HD.out HWB.out (fun W ha=>HTT.out W (hRA W ha)) (HH.out.at hb1 (fun k hk=>hR1 k (.inl hk))) HQ.out)
 have hz1:=hb1.size
 have HRA:=Hy hRA
 have HP:=Hy hR1
 clear hm1 hmF hb1 hR1 hRA HB HD HWB HTT HH
 go_wp2_with fail
 refine HR.out.mono ?_
 rintro e w2 ⟨ha2,hres⟩
 have HB2:=Hy (HRA.out w2 ha2)
 have hgo:w.heap.size ≤ p.go:=HP.out p.go (.inl (.inr (.inl rfl)))
 clear ha2 HR
 rcases hres with ⟨h0,rfl,hm2⟩ | ⟨h0,rfl⟩
 ·have hc1:w2.cell? ⟨p.m,1,none⟩ = some (.slice (some ⟨p.go,0,none⟩) its.length its.length):=(hm2.cells.at_ 1).trans rfl
  have hc2:w2.cell? ⟨p.m,2,none⟩ = some (.int .i64 (q.2.2.made:Int)):=(hm2.cells.at_ 2).trans rfl
  have HM2:=Hy hm2
  have hans:ansB its q = (if q.2.2.made < its.length then 11 else if 4 < q.2.1 then 5 else 0):=by unfold ansB; rw [if_pos h0]
  obtain ⟨mn,hmn⟩:∃ mn,mn = q.2.2.made:=⟨_,rfl⟩
  obtain ⟨ls,hls⟩:∃ ls,ls = q.2.1:=⟨_,rfl⟩
  rw [← hmn] at hc2 hans
  rw [← hls] at hans ⊢
  clear hm2 HP hmn hls
  by_cases h1:mn < its.length
  ·rw [if_pos h1] at hans
   go_wp2_with fail
   go_ret2
   exact ⟨HB2.out,.inr ⟨by rw [hans]; decide,by rw [hans] <;> rfl⟩⟩
  ·rw [if_neg h1] at hans
   by_cases h2:4 < ls
   ·rw [if_pos h2] at hans
    go_wp2_with fail
    go_ret2
    exact ⟨HB2.out,.inr ⟨by rw [hans]; decide,by rw [hans] <;> rfl⟩⟩
   ·rw [if_neg h2] at hans
    go_wp2_with fail
    go_ret2
    exact ⟨HB2.out,.inl ⟨hans,p,rfl,HM2.out,hgo⟩⟩
 ·have hans:ansB its q = q.1:=by unfold ansB; rw [if_neg h0]
  obtain ⟨x,hx⟩:∃ x,x = q.1:=⟨_,rfl⟩
  rw [← hx] at h0 hans ⊢
  clear hx
  go_wp2_with fail
  go_ret2
  exact ⟨HB2.out,.inr ⟨by rw [hans]; exact h0,by rw [hans] <;> rfl⟩⟩
theorem pobjects_any (its:List It) (ds:Nat → Dlt) (fuel:Nat) (q:Int × Nat × Mk) (w:World) (hTab:Tabs w) (hok:okP its) (hn:its.length ≤ 200) (hfu:fuel ≤ 500)
  (hd:∀ i,i < its.length → ¬ wholeK (its.getD i default).kind → okD (its.getD i default) (ds i)) (hwb:∀ i,i < its.length → (its.getD i default).body.length ≤ 100000) (hTT:∀ W,Below w.heap.size w W → Tabs W ∧ Tens W) (hq:roundsV its ds none fuel (mk0 its) = some q) :
  Calls Tryz.prog 20 #[.string ⟨(encP its).toArray⟩] w fun e w'=>Below w.heap.size w w' ∧
   ((ansB its q = 0 ∧ ∃ p:Mng,e = .returned (.tuple #[.slice (some ⟨p.go,0,none⟩) its.length its.length,.int .i64 0]) ∧ MkM (fun _=>False) w' its p q.2.2 ∧ w.heap.size ≤ p.go) ∨ (ansB its q ≠ 0 ∧ e = .returned (.tuple #[.slice none 0 0,.int .i64 (ansB its q)]))):=by
 have HG:=Hy (pget_any its w hTab hok)
 have HD:=Hy hd
 have HWB:=Hy hwb
 have HTT:=Hy hTT
 have HQ:=Hy hq
 clear hok hd hwb hTT hq
 go_enter Tryz.func20,Tryz.ntmps20
 go_wp2_with fail
 refine HG.out.mono ?_
 rintro e w1 ⟨⟨A,c,rfl,hA,-⟩,hb1⟩
 have HB:=Hy (pbodies_any (fun _=>False) A c its ds .nilFunc none fuel q w1 hA (fun _ hk=>hk.elim) (fun _ _ _ hk=>hk) hn hfu HD.out HWB.out (fun W hb=>HTT.out W (hb1.trans (hb.none.mono hb1.size))) (.inl ⟨rfl,rfl⟩) HQ.out)
 have hz1:=hb1.size
 have HB1:=Hy hb1
 clear hA hb1 HG HD HWB HTT HQ
 go_wp2_with fail
 refine HB.out.mono ?_
 rintro e w2 ⟨hb2,hres⟩
 have HB2:=Hy (HB1.out.trans (hb2.none.mono hz1))
 clear hb2 HB HB1
 rcases hres with ⟨h0,p,rfl,hm,hgo⟩ | ⟨h0,rfl⟩
 ·have HM:=Hy hm
  clear hm
  go_wp2_with fail
  go_ret2
  exact ⟨HB2.out,.inl ⟨h0,p,rfl,HM.out,by omega⟩⟩
 ·go_wp2_with fail
  go_ret2
  exact ⟨HB2.out,.inr ⟨h0,rfl⟩⟩
theorem pamong_any (A:Option Addr) (c:Nat) (xs:List Obx) (w:World):Calls Tryz.prog 66 #[.slice A xs.length c] w fun e w'=>e = .returned (.func (.func 119) #[] #[.pointer (some ⟨w.heap.size + 1,0,none⟩),.pointer (some ⟨w.heap.size,0,none⟩)]) ∧ JHeld w A c xs (fun k=>k < w.heap.size + 2) w' ∧ Below w.heap.size w w' ∧ w'.heap.size = w.heap.size + 2:=by
 have hmf:∀ (fn:Fn) (first cap:Array Value) (w:World),(Instr.makeFunc fn first cap).run Tryz.prog w = .ok (.func fn first cap) w:=fun _ _ _ _=>rfl
 have hb:=(((Below.refl w.heap.size w).alloc (Nat.le_refl _) (.cells #[.slice A xs.length c] 35)).alloc (by simp) (.cells #[.map none] 187))
 have hz:((w.alloc (.cells #[.slice A xs.length c] 35)).alloc (.cells #[.map none] 187)).heap.size = w.heap.size + 2:=by simp
 have h1:=(Whole.made w 35 #[.slice A xs.length c]).past (.cells #[.map none] 187)
 have h2:Whole ((w.alloc (.cells #[.slice A xs.length c] 35)).alloc (.cells #[.map none] 187)) (w.heap.size + 1) 187 #[.map none]:=by
  have:=Whole.made (w.alloc (.cells #[.slice A xs.length c] 35)) 187 #[.map none]
  simpa using this
 have HJ:Hid (JHeld w A c xs (fun k=>k < w.heap.size + 2) ((w.alloc (.cells #[.slice A xs.length c] 35)).alloc (.cells #[.map none] 187))):=⟨fun k hk=>hk,fun k hk=>by rw [hz]; exact hk,hb,h1,_,h2,.inl rfl⟩
 clear h1 h2
 go_enter Tryz.func66,Tryz.ntmps66
 go_wp2
 go_ret
 exact ⟨rfl,HJ.out,hb,hz⟩
def ofW (os:List Ob) (s:List Nm):List Ob:=s.map fun x=>os.getD ((plc os os.length x).getD 0) zO
theorem ofN_ofW (xs:List Obx) (s:List Nm) (hs:∀ x ∈ s,(plc (xs.map Obx.x) xs.length x).isSome = true):(ofN xs s).map (fun p=>itO p.x) = (ofW (xs.map Obx.x) s).map itO:=by
 unfold ofN ofW
 rw [List.map_map,List.map_map,List.length_map]
 refine List.map_congr_left fun x hx=>?_
 have h:=hs x hx
 cases hp:plc (xs.map Obx.x) xs.length x with
 | none=>rw [hp] at h; cases h
 | some i=>
  have:=(plc_lt _ _ _ _ hp).1
  simp only [Function.comp,hp,Option.getD_some,getX xs i this]
theorem whole_argX {w:World} {g:Nat} {xs:List Obx} (h:Whole w g 49 (xs.flatMap encX).toArray) (hn:xs.length ≤ 1000000):ArgG encX default 38 w (some ⟨g,0,none⟩) xs.length xs:=by
 refine ⟨Nat.le_refl _,by unfold maxLen; omega,(fun e=>by cases e),fun _=>⟨g,0,rfl,fun i hi j v hv=>?_⟩⟩
 have hj:j < 38:=by
  have:=(List.getElem?_eq_some_iff.1 hv).1
  rwa [encX_len] at this
 rw [Nat.zero_add,h.at_,List.getElem?_toArray,flatG_at (d:=default) encX_len xs i j hi hj]
 exact hv
theorem twhole_any (its:List It) (ds:Nat → Dlt) (A:Option Addr) (c:Nat) (xs:List Obx) (fuel:Nat) (q:Int × Nat × Mk) (w:World) (hTab:Tabs w) (hT:Tens w) (hok:okP its) (hfu:fuel ≤ 500)
  (hd:∀ i,i < its.length → ¬ wholeK (its.getD i default).kind → okD (its.getD i default) (ds i)) (hwb:∀ i,i < its.length → (its.getD i default).body.length ≤ 100000)
  (hA:ArgG encX default 38 w A c xs) (hH:∀ p ∈ xs,HasX w p) (hM:∀ p ∈ xs,NamX p) (hxn:xs.length ≤ 100000)
  (hq:roundsV its ds (some (heldV (xs.map Obx.x))) fuel (mk0 its) = some q) (hob:ansB its q = 0 → ∀ o ∈ q.2.2.objs,mayO' o = true ∧ (bytesO o).length ≤ 100000 ∧ o.commit.time < 18446744073709551616 ∧ o.entries.length ≤ 1048576) :
  Calls Tryz.prog 26 #[.string ⟨(encP its).toArray⟩,.slice A xs.length c] w fun e w'=>Below w.heap.size w w' ∧
   ((ansB its q = 0 ∧ ∃ s,Rise s ∧ s.length ≤ its.length ∧ (∀ x,x ∈ s ↔ (plc q.2.2.objs q.2.2.objs.length x).isSome = true) ∧ e = .returned (.tuple #[.string ⟨(encP ((ofW q.2.2.objs s).map itO)).toArray⟩,.int .i64 0])) ∨ (ansB its q ≠ 0 ∧ e = .returned (.tuple #[.string ⟨#[]⟩,.int .i64 (ansB its q)]))):=by
 have HG:=Hy (pget_any its w hTab hok)
 have hn:its.length ≤ 200:=hok.1
 have hl1:=hTab.lt1
 have hl2:=hTab.lt2
 have HTAB:Hid (∀ W,Below w.heap.size w W → Tabs W ∧ Tens W):=fun W h=>⟨hTab.below h hl1 hl2,hT.below h⟩
 have HX:Hid (∀ W,Below w.heap.size w W → ArgG encX default 38 W A c xs ∧ ∀ p ∈ xs,HasX W p):=fun W h=>⟨hA.later eltX h,fun p hp=>ArgO.later (hH p hp) h⟩
 have HM:=Hy hM
 have HD:=Hy hd
 have HWB:=Hy hwb
 have HQ:=Hy hq
 have HOB:=Hy hob
 have hlc:=hA.1
 clear hok hd hwb hA hH hM hq hob hTab hT
 go_enter Tryz.func26,Tryz.ntmps26
 go_wp2_with fail
 refine HG.out.mono ?_
 rintro e w1 ⟨⟨A1,c1,rfl,hA1,-⟩,hb1⟩
 have HB1:=Hy hb1
 have HA1:=Hy hA1
 have HAM:=Hy (pamong_any A c xs w1)
 have hz1:=hb1.size
 clear hA1 hb1 HG
 go_wp2_with fail
 refine HAM.out.mono ?_
 rintro e w2 ⟨rfl,hj,hb2,hz2⟩
 have HB2:=Hy (HB1.out.trans (hb2.mono hz1))
 have h1:=HX.out w1 HB1.out
 have h2:=HTAB.out w1 HB1.out
 have HC:=pheld_any w1 A c xs h2.1 h2.2 h1.1 h1.2 HM.out hxn
 have HBO:=Hy (pbodies_any (fun k=>k = w1.heap.size + 1) A1 c1 its ds _ (some (heldV (xs.map Obx.x))) fuel q w2 (HA1.out.later eltI hb2) (fun k hk=>by omega) (fun j hj h0 hf=>by have:=HA1.out.lt eltI hj h0; omega) hn hfu HD.out HWB.out (fun W ha=>HTAB.out W (HB1.out.trans (hb2.trans (ha.to (B:=w1.heap.size) (fun k hk=>by omega) (by omega)) |>.mono hz1))) (.inr ⟨_,_,_,JHeld w1 A c xs,_,rfl,rfl,pheld_enters,jheld_foot w1 A c xs,hj,HC⟩) HQ.out)
 clear hj hb2 HAM h1 h2 HC HA1
 go_wp2_with fail
 refine HBO.out.mono ?_
 rintro e w3 ⟨ha3,hres⟩
 have HB3:Hid (Below w.heap.size w w3):=HB2.out.trans (ha3.to (fun k hk=>by omega) (by omega))
 clear ha3 HBO
 rcases hres with ⟨h0,p,rfl,hm,hgo⟩ | ⟨h0,rfl⟩
 ·obtain ⟨ys,hy1,hy2,hy3⟩:=hm.objs
  have hyl:ys.length = its.length:=by rw [← hm.olen,← hy1,List.length_map]
  have hob:=HOB.out h0
  have hym:∀ o ∈ ys,mayO' o.x = true ∧ (bytesO o.x).length ≤ 100000 ∧ o.x.commit.time < 18446744073709551616 ∧ o.x.entries.length ≤ 1048576:=fun o ho=>hob o.x (by rw [← hy1]; exact List.mem_map_of_mem ho)
  have h3:=HTAB.out w3 HB3.out
  have HRI:=prising_any (some ⟨p.go,0,none⟩) ys.length ys w3 h3.1 h3.2 (whole_argX hy2 (by omega)) (fun o ho=>(hy3 o ho).1) (fun o ho=>⟨(hym o ho).2.2.1,(hym o ho).2.2.2,fun _=>(hym o ho).2.1⟩) (by omega)
  rw [hyl] at HRI
  have HRI:=Hy HRI
  have HYM:=Hy hym
  have HYH:Hid (∀ W,Below w3.heap.size w3 W → ∀ o ∈ ys,HasX W o):=fun W h o ho=>ArgO.later (hy3 o ho).1 h
  have hy1l:q.2.2.objs.length = its.length:=hm.olen
  clear hm hy2 hy3 hob hym h3 HOB
  go_wp2_with fail
  refine HRI.out.mono ?_
  rintro e w4 ⟨⟨A4,c4,s,rfl,hri,hsl,hme,hA4⟩,hb4⟩
  have HB4:=Hy (hTr HB3 hb4)
  have h4:=HTAB.out w4 HB4.out
  have hmem:∀ o ∈ ofN ys s,o ∈ ys:=fun o ho=>by
   obtain ⟨x,hx,rfl⟩:=List.mem_map.1 ho
   have h5:=(hme x).1 hx
   cases hp:plc (ys.map Obx.x) its.length x with
   | none=>rw [hp] at h5; cases h5
   | some i=>
    have hi:i < ys.length:=by have:=(plc_lt _ _ _ _ hp).1; omega
    rw [hyl,hp]
    show ys.getD i default ∈ ys
    rw [show ys.getD i default = ys[i] by simp [List.getD,List.getElem?_eq_getElem hi]]
    exact List.getElem_mem hi
  have HOF:=pof_any A4 c4 (ofN ys s) w4 h4.1 hA4 (fun o ho=>HYH.out w4 hb4 o (hmem o ho)) (fun o ho=>HYM.out o (hmem o ho)) (by rw [ofN_len]; omega)
  rw [ofN_ofW ys s (fun x hx=>by rw [hyl]; exact (hme x).1 hx),hy1] at HOF
  have HOF:=Hy HOF
  rw [hy1] at hme
  have HME:Hid (∀ x,x ∈ s ↔ (plc q.2.2.objs q.2.2.objs.length x).isSome = true):=by show ∀ x,_; rw [hy1l]; exact hme
  have HRS:=Hy hri
  clear hri hme hA4 hb4 h4 hmem HRI
  go_wp2_with fail
  refine HOF.out.mono ?_
  rintro e w5 ⟨rfl,hb5⟩
  have HB5:=Hy (hTr HB4 hb5)
  clear hb5
  go_wp2
  go_ret2
  exact ⟨HB5.out,.inl ⟨h0,s,HRS.out,hsl,HME.out,rfl⟩⟩
 ·obtain ⟨z,hz⟩:∃ z,z = ansB its q:=⟨_,rfl⟩
  rw [← hz] at h0 ⊢
  have hne:(z != 0) = true:=by simpa using h0
  go_wp2
  go_ret2
  exact ⟨HB3.out,.inr ⟨by rw [← hz]; exact h0,by rw [← hz]; rfl⟩⟩
theorem backs_whole (its:List It) (hw:∀ i,i < its.length → wholeK (its.getD i default).kind) (j:Nat):backsTo its its.length j = []:=by
 unfold backsTo
 refine List.filter_eq_nil_iff.2 fun i hi=>?_
 have h:=hw i (List.mem_range.1 hi)
 unfold isBack
 have h6:¬ (its.getD i default).kind = 6:=by unfold wholeK at h; omega
 rw [decide_eq_false h6]
 simp
theorem waits_whole (its:List It) (hw:∀ i,i < its.length → wholeK (its.getD i default).kind) (dead:List Nm) (x:Nm):waits its dead x = []:=by
 unfold waits
 split
 ·rfl
 ·unfold namesTo
  refine List.filter_eq_nil_iff.2 fun i hi=>?_
  have h:=hw i (List.mem_range.1 hi)
  unfold isName
  have h7:¬ (its.getD i default).kind = 7:=by unfold wholeK at h; omega
  rw [decide_eq_false h7]
  simp
theorem go_whole (its:List It) (ds:Nat → Dlt) (ob:Nat → Ob) (hw:∀ i,i < its.length → wholeK (its.getD i default).kind) (hg:∀ i,i < its.length → getOb ((its.getD i default).kind:Int) (its.getD i default).body = (ob i,0)) :
  ∀ (n a:Nat) (mk:Mk) (acc:List Stp),a + n = its.length → mk.objs = (List.range a).map ob ++ List.replicate n zO → mk.made = a →
   ∃ dd,roundGo its ds ((List.range' a n).map fun i=>⟨i,((its.getD i default).kind:Int),[]⟩) mk acc = (0,⟨(List.range its.length).map ob,its.length,dd⟩,acc)
 | 0,a,mk,acc,ha,ho,hm=>by
  obtain rfl:a = its.length:=by omega
  refine ⟨mk.dead,?_⟩
  cases mk
  simp only [List.range'_zero,List.map_nil,List.replicate_zero,List.append_nil] at ho ⊢
  simp only at hm
  subst ho hm
  rfl
 | n + 1,a,mk,acc,ha,ho,hm=>by
  have hal:a < its.length:=by omega
  have ht:takeV its ds ⟨a,((its.getD a default).kind:Int),[]⟩ = ((its.getD a default).body,0):=by
   unfold takeV
   rw [if_pos (hw a hal)]
   exact Prod.ext rfl (by rw [hg a hal])
  obtain ⟨dd,hd⟩:=go_whole its ds ob hw hg n (a + 1) ⟨mk.objs.set a (ob a),mk.made + 1,idO (ob a) :: mk.dead⟩ acc (by omega) (by
   rw [ho,List.range_succ,List.map_append,List.append_assoc,List.set_append_right _ _ (by simp)]
   simp [List.replicate_succ]) (by simp only; omega)
  refine ⟨dd,?_⟩
  rw [List.range'_succ,List.map_cons]
  unfold roundGo
  rw [ht,if_pos rfl,hg a hal,backs_whole its hw,waits_whole its hw]
  simpa [stepsV] using hd
theorem rounds_whole (its:List It) (ds:Nat → Dlt) (ob:Nat → Ob) (fuel:Nat) (hw:∀ i,i < its.length → wholeK (its.getD i default).kind) (hg:∀ i,i < its.length → getOb ((its.getD i default).kind:Int) (its.getD i default).body = (ob i,0)) :
  ∃ q:Int × Nat × Mk,roundsV its ds none fuel (mk0 its) = some q ∧ ansB its q = 0 ∧ q.2.2.objs = (List.range its.length).map ob:=by
 obtain ⟨dd,hd⟩:=go_whole its ds ob hw hg its.length 0 (mk0 its) [] (by omega) (by simp [mk0]) rfl
 have hws:wholesV its its.length = (List.range' 0 its.length).map fun i=>⟨i,((its.getD i default).kind:Int),[]⟩:=by
  unfold wholesV
  rw [← List.range_eq_range',List.filter_eq_self.2 (fun i hi=>decide_eq_true (hw i (List.mem_range.1 hi)))]
 refine ⟨(0,0,⟨(List.range its.length).map ob,its.length,dd⟩),?_,?_,rfl⟩
 ·unfold roundsV
  rw [hws,hd,if_pos rfl]
  simp only [leanV,List.append_nil]
  rw [roundsGo_nil]
 ·unfold ansB
  simp
theorem gob_blob (s:List UInt8) (h:s.length ≤ 1000):getOb 1 s = (⟨1,s,[],noC⟩,0):=by
 unfold getOb
 rw [if_pos rfl,if_pos h]
theorem ob_blob (s:List UInt8) (h:s.length ≤ 1000):mayO' ⟨1,s,[],noC⟩ = true:=by
 rw [mayO_1 _ rfl]
 simp only [Bool.and_eq_true,decide_eq_true_eq]
 exact ⟨⟨by omega,rfl⟩,by decide +kernel⟩
theorem bytes_blob (s:List UInt8):bytesO ⟨1,s,[],noC⟩ = s:=rfl
def one7 (nm:Nm) (b:List UInt8):List It:=[⟨7,0,nm,b⟩]
theorem one7_facts (nm:Nm) (b:List UInt8):wholesV (one7 nm b) (one7 nm b).length = [] ∧ backsTo (one7 nm b) (one7 nm b).length 0 = [] ∧ (∀ x,namesTo (one7 nm b) (one7 nm b).length x = if nm = x then [0] else []):=by
 refine ⟨?_,?_,fun x=>?_⟩
 ·show wholesV (one7 nm b) (0 + 1) = []
  rw [wholesV_succ,if_neg (by show ¬ wholeK 7; decide)]
  rfl
 ·show backsTo (one7 nm b) (0 + 1) 0 = []
  rw [backsTo_succ,if_neg (by unfold isBack; rw [show ((one7 nm b).getD 0 default).kind = 7 from rfl]; simp)]
  rfl
 ·show namesTo (one7 nm b) (0 + 1) x = _
  rw [namesTo_succ]
  have e:isName (one7 nm b) x 0 = decide (nm = x):=by
   unfold isName
   rw [show ((one7 nm b).getD 0 default).kind = 7 from rfl,show ((one7 nm b).getD 0 default).base = nm from rfl]
   simp
  rw [e]
  by_cases hx:nm = x
  ·simp [hx,namesTo]
  ·simp [hx,namesTo]
theorem rounds_one7 (nm:Nm) (b:List UInt8) (d:Dlt) (h:Nm → Int × List UInt8 × Bool) (k:Int) (s:List UInt8) (hh:h nm = (k,s,true)) (hlen:s.length = d.1) (hs:s.length ≤ 1000000) (ho:(getOb k (applyC s d.2)).2 = 0) :
  ∃ q:Int × Nat × Mk,roundsV (one7 nm b) (fun _=>d) (some h) 2 (mk0 (one7 nm b)) = some q ∧ ansB (one7 nm b) q = 0 ∧ q.2.2.objs = [(getOb k (applyC s d.2)).1]:=by
 obtain ⟨hw,hb,hn⟩:=one7_facts nm b
 have hl1:(one7 nm b).length = 1:=rfl
 have hwt:waits (one7 nm b) [] nm = [0]:=by
  unfold waits
  rw [if_neg (by simp),hn,if_pos rfl]
 have hlean:leanV (one7 nm b) (some h) [] = ([nm],[⟨0,k,s⟩]):=by
  show leanGo (one7 nm b) h [] (0 + 1) = _
  unfold leanGo
  show (if (waits (one7 nm b) [] nm).head? = some 0 ∧ (h nm).2.2 = true then _ else _) = _
  rw [if_pos ⟨by rw [hwt]; rfl,by rw [hh]⟩]
  show (nm :: [],([]:List Stp) ++ stepsV (waits (one7 nm b) [] nm) (h nm).1 (h nm).2.1) = _
  rw [hwt,hh]
  rfl
 have htk:takeV (one7 nm b) (fun _=>d) ⟨0,k,s⟩ = (applyC s d.2,(getOb k (applyC s d.2)).2):=by
  unfold takeV
  rw [if_neg (by show ¬ wholeK 7; decide),if_pos hlen]
 obtain ⟨o,hoe⟩:∃ o,o = (getOb k (applyC s d.2)).1:=⟨_,rfl⟩
 have hw2:waits (one7 nm b) [nm] (idO o) = []:=by
  unfold waits
  by_cases hi:idO o ∈ [nm]
  ·rw [if_pos hi]
  ·rw [if_neg hi,hn,if_neg (fun e=>hi (by simp [e]))]
 have hrg:roundGo (one7 nm b) (fun _=>d) [⟨0,k,s⟩] ⟨[zO],0,[nm]⟩ [] = (0,⟨[o],1,[idO o,nm]⟩,[]):=by
  unfold roundGo
  rw [htk,if_pos ho]
  simp only [← hoe,hb,hw2]
  rfl
 refine ⟨(0,1,⟨[o],1,[idO o,nm]⟩),?_,?_,?_⟩
 ·unfold roundsV
  rw [hw]
  show roundsGo (one7 nm b) (fun _=>d) 2 0 ⟨[zO],0,(leanV (one7 nm b) (some h) []).1⟩ ([] ++ (leanV (one7 nm b) (some h) []).2) = _
  rw [hlean]
  show roundsGo (one7 nm b) (fun _=>d) 2 0 ⟨[zO],0,[nm]⟩ [⟨0,k,s⟩] = _
  unfold roundsGo
  rw [if_neg (by simp),if_pos ⟨by simp,by simp,by simp [hl1,hs]⟩,show sortS [⟨0,k,s⟩] = [⟨0,k,s⟩] from List.mergeSort_singleton _,hrg,if_pos rfl]
  exact roundsGo_nil _ _ _ _ _
 ·unfold ansB
  simp [hl1]
 ·exact congrArg (fun x=>[x]) hoe
theorem rounds_lone7 (nm:Nm) (b:List UInt8) (d:Dlt) (hV:Option (Nm → Int × List UInt8 × Bool)) (hh:∀ h,hV = some h → (h nm).2.2 = false) :
  ∃ q:Int × Nat × Mk,roundsV (one7 nm b) (fun _=>d) hV 2 (mk0 (one7 nm b)) = some q ∧ ansB (one7 nm b) q = 11:=by
 obtain ⟨hw,hb,hn⟩:=one7_facts nm b
 have hl1:(one7 nm b).length = 1:=rfl
 have hlean:leanV (one7 nm b) hV [] = ([],[]):=by
  cases hV with
  | none=>rfl
  | some h=>
   show leanGo (one7 nm b) h [] (0 + 1) = _
   unfold leanGo
   show (if (waits (one7 nm b) [] nm).head? = some 0 ∧ (h nm).2.2 = true then _ else _) = _
   rw [if_neg (fun e=>by have:=hh h rfl; rw [this] at e; cases e.2)]
   rfl
 refine ⟨(0,0,⟨[zO],0,[]⟩),?_,?_⟩
 ·unfold roundsV
  rw [hw]
  show roundsGo (one7 nm b) (fun _=>d) 2 0 ⟨[zO],0,(leanV (one7 nm b) hV []).1⟩ ([] ++ (leanV (one7 nm b) hV []).2) = _
  rw [hlean]
  exact roundsGo_nil _ _ _ _ _
 ·unfold ansB
  simp [hl1]
def aB9:List UInt8:=[97,98,99,100,101]
def cB9:List Ct:=[⟨[],1,3⟩,⟨[120],0,0⟩]
def oB9:Ob:=⟨1,aB9,[],noC⟩
def dB9:List UInt8:=encD 5 cB9
def tB9:List UInt8:=applyC aB9 cB9
theorem head9:headV 3 300 = [188,18]:=by decide +kernel
theorem num9:numV 300 = [172,2]:=by decide +kernel
theorem okc9:∀ c ∈ cB9,okC 5 c:=by
 intro c hc
 rcases List.mem_cons.1 hc with rfl | hc
 ·exact .inr ⟨rfl,by decide,by decide,by decide,by decide⟩
 ·rcases List.mem_cons.1 hc with rfl | hc
  ·exact .inl ⟨rfl,rfl,by decide,by decide⟩
  ·cases hc
theorem sum9:sumC cB9 ≤ 1000000:=by decide +kernel
theorem app9:tB9 = [98,99,100,120]:=by decide +kernel
theorem dlen9:dB9.length ≤ 100:=by decide +kernel
theorem may9:mayO' oB9 = true:=ob_blob aB9 (by decide)
theorem rounds9:∃ q:Int × Nat × Mk,roundsV [itO oB9] (fun _=>default) none 2 (mk0 [itO oB9]) = some q ∧ ansB [itO oB9] q = 0 ∧ q.2.2.objs = [oB9]:=by
 obtain ⟨q,h1,h2,h3⟩:=rounds_whole [itO oB9] (fun _=>default) (fun _=>oB9) 2 (fun i hi=>by
  have:i = 0:=by simpa using hi
  subst this
  exact .inl rfl) (fun i hi=>by
  have:i = 0:=by simpa using hi
  subst this
  exact gob_blob aB9 (by decide))
 exact ⟨q,h1,h2,h3⟩
theorem held9:heldV [oB9] (idO oB9) = (1,aB9,true):=by
 have hp:plc [oB9] [oB9].length (idO oB9) = some 0:=by
  show plc [oB9] (0 + 1) (idO oB9) = some 0
  rw [plc_succ,if_pos ⟨may9,rfl⟩]
 unfold heldV
 rw [hp]
 rfl
theorem whole9:∃ q:Int × Nat × Mk,roundsV (one7 (idO oB9) dB9) (fun _=>(5,cB9)) (some (heldV [oB9])) 2 (mk0 (one7 (idO oB9) dB9)) = some q ∧ ansB (one7 (idO oB9) dB9) q = 0 ∧ q.2.2.objs = [⟨1,tB9,[],noC⟩]:=by
 obtain ⟨q,h1,h2,h3⟩:=rounds_one7 (idO oB9) dB9 (5,cB9) (heldV [oB9]) 1 aB9 held9 rfl (by decide) (by
  show (getOb 1 tB9).2 = 0
  rw [gob_blob tB9 (by rw [app9]; decide)])
 refine ⟨q,h1,h2,?_⟩
 rw [h3]
 show [(getOb 1 tB9).1] = _
 rw [gob_blob tB9 (by rw [app9]; decide)]
theorem ok79:okP (one7 (idO oB9) dB9):=by
 refine ⟨by show 1 ≤ 200; decide,fun i hi=>?_⟩
 have:i = 0:=by have:i < 1:=hi; omega
 subst this
 exact ⟨Nat.le_trans dlen9 (by decide),.inr (.inr ⟨rfl,rfl⟩)⟩
theorem ok19:okP [itO oB9]:=by
 refine ⟨by show 1 ≤ 200; decide,fun i hi=>?_⟩
 have:i = 0:=by have:i < 1:=hi; omega
 subst this
 exact (itO_ok may9 (by decide) 0).1
theorem ridO_of (A:Option Addr) (c:Nat) (A2:Option Addr) (c2:Nat) (x:Ob) (w:World) (hA:ArgO w A c A2 c2 x) (hm:mayO' x = true) (hbl:(bytesO x).length ≤ 1200) (hput:∀ W,ArgO W A c A2 c2 x → Calls Tryz.prog 42 #[.agg (encO A c A2 c2 x).toArray] W fun e w'=>e = .returned (.string ⟨(bytesO x).toArray⟩) ∧ Below W.heap.size W w') :
  Calls Tryz.prog 46 #[.agg (encO A c A2 c2 x).toArray] w fun e w'=>e = .returned (.agg (encN (idO x)).toArray) ∧ Below w.heap.size w w':=by
 obtain ⟨hW,hB,hA0⟩:=obox A c A2 c2 x w hA
 have hid:encN (idO x) = (ShaM.sha (named x.kind (bytesO x))).map Y:=by unfold idO; rw [hm]; rfl
 have HRI:=Hy fun W=>rid_any x.kind (bytesO x) W (by omega)
 rw [← hid] at HRI
 have HB:=Hy (hB.alloc (by simp) (.cells ((List.replicate 32 (0:UInt8)).map Y).toArray 30))
 have HW:=Hy (hW.past (.cells ((List.replicate 32 (0:UInt8)).map Y).toArray 30))
 have HA:=Hy (hA0.later ((Below.refl _ _).alloc (Nat.le_refl _) (.cells ((List.replicate 32 (0:UInt8)).map Y).toArray 30)))
 have HZ:=Hy (Whole.made (w.alloc (.cells (encO A c A2 c2 x).toArray 49)) 30 ((List.replicate 32 (0:UInt8)).map Y).toArray)
 have hgs:(w.alloc (.cells (encO A c A2 c2 x).toArray 49)).heap.size = w.heap.size + 1:=by simp
 rw [hgs] at HZ
 have hws:((w.alloc (.cells (encO A c A2 c2 x).toArray 49)).alloc (.cells ((List.replicate 32 (0:UInt8)).map Y).toArray 30)).heap.size = w.heap.size + 2:=by simp
 have HXL:=Hy (infoO_l A c A2 c2 x)
 have E0:=Hy (encO_0 A c A2 c2 x)
 have HIX:=Hy (infoXs (idO x))
 have HIA:=Hy (encN_all (idO x))
 have HIS:=Hy (encN_size (idO x))
 have HPUT:=Hy hput
 clear hA hA0 hW hB hput hm hbl hid hgs
 go_enter Tryz.func46,Tryz.ntmps46
 go_wp2_with fail
 change Code.wp _ _ _ _ ((w.alloc (.cells (encO A c A2 c2 x).toArray 49)).alloc (.cells ((List.replicate 32 (0:UInt8)).map Y).toArray 30))
 generalize (w.alloc (.cells (encO A c A2 c2 x).toArray 49)).alloc (.cells ((List.replicate 32 (0:UInt8)).map Y).toArray 30) = w0 at *
 generalize hz:((List.replicate 32 (0:UInt8)).map Y).toArray = z at *
 have hzs:z.size = 32:=by rw [← hz]; simp
 have HZS:=Hy hzs
 clear hz hzs
 refine wp_region_K (fun W=>Whole W w.heap.size 49 (encO A c A2 c2 x).toArray) 5 (by kernel_rfl) ?_
 change wpAnyK _ _ _ _ _ _ _ _ _ (World.drew w0)
 have hS0:Whole w0.drew w.heap.size 49 (encO A c A2 c2 x).toArray:=HW.out.drew
 have hZ0:Whole w0.drew (w.heap.size + 1) 30 z:=HZ.out.drew
 have hA0:ArgO w0.drew A c A2 c2 x:=HA.out.later (Below.refl _ _).drew
 have hB0:Below w.heap.size w w0.drew:=HB.out.drew
 have hs0:w0.drew.heap.size = w.heap.size + 2:=hws
 clear hws HW HZ HA HB
 generalize World.drew w0 = w1 at *
 refine wpAnyK_take0 (i:=0) (oi:=⟨some 3,_,_,_,_,none⟩) (v:=.pointer (some ⟨w.heap.size,0,none⟩)) rfl (by kernel_rfl) (fun _ _ _ h=>h) (Or.inl ⟨by rfl,fun W hW=>?_⟩) (fun _=>hS0) ?_
 ·go_simp
 simp only [Act.put]
 go_simp
 refine wpAnyK_take (i:=1) (oi:=⟨some 4,_,_,_,_,none⟩) (v:=.int .i64 x.kind) rfl (by kernel_rfl) (fun _ _ _ h=>h) (Or.inl ⟨by rfl,fun W hW=>?_⟩) hS0 ?_
 ·have hc:=(hW.at_ 0).trans E0.out
  go_simp
 simp only [Act.put]
 go_simp
 refine wpAnyK_take (i:=2) (oi:=_) (v:=.agg (encO A c A2 c2 x).toArray) rfl (by kernel_rfl) (fun _ _ _ h=>h) (yieldsIf_load_mid (by rfl) _ _ rfl w.heap.size 0 rfl (encO A c A2 c2 x) _ (fun W hW=>whole_range hW) Tryz.underlying49 rfl HXL.out) hS0 ?_
 simp only [Act.put]
 go_simp
 refine wpAnyK_ready (rs:=[3]) (by kernel_rfl) (by simp) ?_
 refine AllReadyK.cons (o:=_) rfl (fun K hK=>?_) AllReadyK.nil
 rw [if_pos (by rfl)]
 go_simp
 refine (HPUT.out w1 hA0).mono ?_
 rintro e w2 ⟨rfl,hb⟩
 have hS2:=hS0.below hb hS0.lt
 have hZ2:=hZ0.below hb hZ0.lt
 have hB2:=hB0.trans (hb.mono hB0.size)
 have hs2:=hb.size
 clear hb HPUT hS0 hZ0 hB0 hA0
 refine hK _ _ (fun _=>hS2) ?_
 clear hK K
 refine wpAnyK_ready (rs:=[4]) (by kernel_rfl) (by simp) ?_
 refine AllReadyK.cons (o:=_) rfl (fun K hK=>?_) AllReadyK.nil
 rw [if_pos (by rfl)]
 go_simp
 refine (HRI.out w2).mono ?_
 rintro e w3 ⟨rfl,hb⟩
 have hS3:=hS2.below hb hS2.lt
 have HZ3:=Hy (hZ2.below hb hZ2.lt)
 have HB3:=Hy (hB2.trans (hb.mono hB2.size))
 clear hb HRI hS2 hZ2 hB2
 refine hK _ _ (fun _=>hS3) ?_
 clear hK K
 refine wpAnyK_ready (rs:=[5]) (by kernel_rfl) (by simp) ?_
 refine AllReadyK.cons (o:=_) rfl (fun K hK=>?_) AllReadyK.nil
 rw [if_pos (by rfl)]
 have hth:w3.there (w.heap.size + 1) 0 (encN (idO x)).toArray.size:=by
  intro j hj
  rw [HIS.out] at hj
  refine ⟨?_,HZ3.out.thawed _⟩
  rw [HZ3.out.at_,Array.getElem?_eq_getElem (by have:=HZS.out; omega)]
  rfl
 refine wp_store_mid 30 _ _ rfl (w.heap.size + 1) 0 (encN (idO x)).toArray rfl rfl hth HIX.out HIA.out ?_
 have hW4:=whole_setCells (encN (idO x)).toArray.toList 0 w3 z HZ3.out (by have h1:=HZS.out; have h2:=encN_len (idO x); rw [h1]; simp; omega)
 rw [List.take_zero,List.nil_append] at hW4
 have hB4:=be_grown HB3.out (gr_setCells (g:=w.heap.size + 1) (encN (idO x)).toArray.toList 0 w3 w3 (gr_refl _ _)) HB3.out.size (fun j hj=>by injection hj with hj; omega)
 generalize w3.setCells (w.heap.size + 1) 0 (encN (idO x)).toArray.toList = w4 at *
 refine hK _ _ (fun h=>by cases h) ?_
 clear hK K hth
 refine wpAnyK_done (by kernel_rfl) ?_ _
 have HW4:=Hy hW4
 have HB4:=Hy hB4
 clear hW4 hB4 HB3 HZ3 hS3
 generalize hni:(encN (idO x)).toArray = ni at *
 go_wp2
 refine bodyPost_ret (v:=.agg ni) ?_ rfl ⟨by rw [hni],HB4.out⟩
 exact results_cell_row (p:=2) (ty:=30) rfl _ _ (w.heap.size + 1) 30 ni (0,0) _ rfl HW4.out Tryz.underlying30 rfl HIX.out
theorem rputB_any (A:Option Addr) (c:Nat) (A2:Option Addr) (c2:Nat) (x:Ob) (w:World) (hA:ArgO w A c A2 c2 x) (k1:x.kind = 1) :
  Calls Tryz.prog 42 #[.agg (encO A c A2 c2 x).toArray] w fun e w'=>e = .returned (.string ⟨(bytesO x).toArray⟩) ∧ Below w.heap.size w w':=by
 obtain ⟨hW,hB,-⟩:=obox A c A2 c2 x w hA
 have e0:=(hW.at_ 0).trans (encO_0 A c A2 c2 x)
 have e1:=(hW.at_ 1).trans (encO_1 A c A2 c2 x)
 have HB:=Hy hB
 have HR:Hid (bytesO x = x.blob):=by show _ = _; unfold bytesO; rw [if_neg (by omega),if_neg (by omega)]
 have b1:(x.kind == 1) = true:=by simpa using k1
 clear hW hB hA k1
 generalize (encO A c A2 c2 x).toArray = cs at *
 go_enter Tryz.func42,Tryz.ntmps42
 go_wp2
 go_ret
 exact ⟨by rw [HR.out]; rfl,HB.out⟩
theorem ridB_any (A:Option Addr) (c:Nat) (A2:Option Addr) (c2:Nat) (x:Ob) (w:World) (hA:ArgO w A c A2 c2 x) (hm:mayO' x = true) (k1:x.kind = 1) (hl:(bytesO x).length ≤ 1200) :
  Calls Tryz.prog 46 #[.agg (encO A c A2 c2 x).toArray] w fun e w'=>e = .returned (.agg (encN (idO x)).toArray) ∧ Below w.heap.size w w':=
 ridO_of A c A2 c2 x w hA hm hl (fun W h=>rputB_any A c A2 c2 x W h k1)
end Go.Proofs.YtlfmooihcigolaaGreatDoor

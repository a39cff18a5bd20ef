/-
  ThiC, ThiD, ThiB.
-/
import Derived.Test.YtlfmooihcigolaaGreatDoorMbh
import Derived.Test.YtlfmooihcigolaaGreatDoorMbl
set_option maxRecDepth 100000
set_option maxHeartbeats 8000000
namespace Go.Proofs.YtlfmooihcigolaaGreatDoor
open Go.RowKit
theorem eltN:Elt 30 44 32 encN default where
 len:=encN_len
 one:=encN_one
 pos:=by decide
 small:=by decide
 und:=Tryz.underlying44
 info:=by
  have h:(Tryz.prog.info? 30).map (fun i=>(i.zero,i.size,decide (i.bytes ≤ 4096))) = some (some (.agg (encN default).toArray),32,true):=by kernel_rfl
  cases hq:Tryz.prog.info? 30 with
  | none=>rw [hq] at h; cases h
  | some i=>
   rw [hq] at h
   simp only [Option.map_some,Option.some.injEq,Prod.mk.injEq,decide_eq_true_eq] at h
   exact ⟨i,rfl,h.1,h.2.1,h.2.2⟩
 szo:=Tryz.sizeOf30
 zero:=fun w=>by kernel_rfl
def ofN (xs:List Obx) (s:List Nm):List Obx:=s.map fun x=>xs.getD ((plc (xs.map Obx.x) xs.length x).getD 0) default
theorem ofN_len (xs:List Obx) (s:List Nm):(ofN xs s).length = s.length:=List.length_map ..
theorem ofN_snoc (xs:List Obx) (s:List Nm) (k:Nat) (h:k < s.length):ofN xs (s.take (k + 1)) = ofN xs (s.take k) ++ [xs.getD ((plc (xs.map Obx.x) xs.length (s.getD k default)).getD 0) default]:=by
 unfold ofN
 rw [List.take_succ_eq_append_getElem h,List.map_append]
 simp [List.getD,List.getElem?_eq_getElem h]
theorem prising_any (A:Option Addr) (c:Nat) (xs:List Obx) (w:World) (hTab:Tabs w) (hT:Tens w) (hA:ArgG encX default 38 w A c xs) (hH:∀ p ∈ xs,HasX w p) (hM:∀ p ∈ xs,NamX p) (hn:xs.length ≤ 100000) :
  Calls Tryz.prog 67 #[.slice A xs.length c] w fun e w'=>(∃ A' c' s,e = .returned (.slice A' (ofN xs s).length c') ∧ Rise s ∧ s.length ≤ xs.length ∧ (∀ x,x ∈ s ↔ (plc (xs.map Obx.x) xs.length x).isSome = true) ∧ ArgG encX default 38 w' A' c' (ofN xs s)) ∧ Below w.heap.size w w':=by
 have HPB:=Hy (pbyname_any A c xs w hTab hT hA hH hM hn)
 have HA:=Hy hA
 have hlc:=hA.1
 clear hA hH hM hTab hT
 go_enter Tryz.func67,Tryz.ntmps67
 go_wp2_with fail
 refine HPB.out.mono ?_
 rintro e w1 ⟨rfl,hmp,hb1⟩
 obtain ⟨mb,hmbe⟩:∃ mb,mb = w.heap.size:=⟨_,rfl⟩
 rw [← hmbe] at hmp
 have HM1:=Hy hmp
 have HB1:=Hy hb1
 have hmb1:=hmp.lt
 clear HPB hmp hb1
 have hbw:w.heap.size ≤ mb:=Nat.le_of_eq hmbe.symm
 rw [← hmbe]
 clear hmbe
 obtain ⟨f,hf⟩:∃ f,f = plc (xs.map Obx.x) xs.length:=⟨_,rfl⟩
 have HF:=Hy hf
 rw [← hf] at HM1
 clear hf
 go_wp2_with (first | (at_range; refine wpList_rangeI rfl _ rfl rfl HM1.out ?_; intro w2 cnt0 hrg0 hg0 hs0) | go_in)
 go_frame
 have HR2:=Hy hrg0
 have HB2:=Hy (HB1.out.grown hg0 HB1.out.size (fun j hj=>by cases hj))
 clear hrg0 hg0 HM1 HB1
 have hw12:w.heap.size ≤ w1.heap.size:=by omega
 have hmi:mb < w1.heap.size:=hmb1
 go_loopg [4,5] cnt0 (fun g s4 _ wr=>∃ (cnt:Nat) (ss:List Nm) (A9:Option Addr) (c9:Nat),s4 = .slice A9 ss.length c9 ∧ cnt ≤ g ∧ wr.ownsRow (w1.heap.size + 1) 30 32 (.slice A9 ss.length c9) ss.length (ss.flatMap encN) ∧ Hid (RangI wr mb w1.heap.size xs.length f ss cnt) ∧ Hid (Below w.heap.size w wr) ∧ w1.heap.size < wr.heap.size)
 case atStart=>exact ⟨cnt0,[],none,0,rfl,Nat.le_refl _,by simpa using World.ownsRow_nil _ _ _ _,HR2,HB2,by omega⟩
 case round=>
  obtain ⟨cnt,ss,A9,c9,rfl,hg,hown,hrg,hwr,hitl⟩:=hrel
  have HOW:=Hy hown
  clear hown
  go_upto_region 5 with (at_next; refine wpList_nextI rfl _ rfl rfl hrg.out ?_ ?_)
  ·intro hdone
   obtain ⟨A8,c8,he8,har,-,-⟩:=own_argG eltN HOW.out
   injection he8 with e1 e2 e3
   subst e1
   subst e3
   have hssl:ss.length ≤ xs.length:=by
    obtain ⟨D,left,-,-,-,h⟩:=hrg.out
    omega
   have HSO:=Hy (sort_nm A9 c9 ss wr har (by omega))
   have HMP:=Hy hrg.out.owns
   have HDN:=Hy hdone
   clear hrg hdone har HOW
   go_wp2_with fail
   refine HSO.out.mono ?_
   rintro e w9 ⟨A',c',s,rfl,hri,hme,hle,hAS,-,hb9⟩
   have HB9:=Hy (hTr hwr hb9)
   have HM9:=Hy (HMP.out.grown (grown_none hb9) (by simp))
   have HAS:=Hy hAS
   have HRI:=Hy hri
   have hz9:=hb9.size
   have HME:Hid (∀ x,x ∈ s ↔ (f x).isSome = true):=fun x=>(hme x).trans (HDN.out x)
   have hsl:s.length ≤ xs.length:=by omega
   have hsc:=hAS.1
   clear hri hme hAS hb9 HSO HMP HDN hwr
   go_wp2_with fail
   go_loopg [6,8,24] s.length (fun g s6 _ s24 wr=>∃ (k:Nat) (A7:Option Addr) (c7:Nat),s6 = .slice A7 (ofN xs (s.take k)).length c7 ∧ k ≤ s.length ∧ s.length - k ≤ g ∧ s24 = .int .i64 k ∧ wr.ownsRow w9.heap.size 49 38 (.slice A7 (ofN xs (s.take k)).length c7) (ofN xs (s.take k)).length ((ofN xs (s.take k)).flatMap encX) ∧ Hid (Below w9.heap.size w9 wr))
   case atStart=>exact ⟨0,none,0,rfl,Nat.zero_le _,by omega,rfl,by simpa [ofN] using World.ownsRow_nil _ _ _ _,Hy (Below.refl _ _)⟩
   case round=>
    obtain ⟨k,A7,c7,rfl,hk,hg7,rfl,hown,hwq⟩:=hrel
    by_cases hlt:k < s.length
    ·have hlt':(k:Int) < (s.length:Int):=by omega
     obtain ⟨bs,os,rfl,hrs⟩:=(HAS.out.later hwq.out).2.2.2 (by omega)
     have hrk:=hrs k hlt
     have hof:=ofN_snoc xs s k hlt
     have hyf:=(HME.out (s.getD k default)).1 (at_mem s k hlt)
     obtain ⟨y,hy⟩:∃ y,y = s.getD k default:=⟨_,rfl⟩
     rw [← hy] at hrk hof hyf
     rw [← HF.out] at hof
     obtain ⟨i,hi⟩:=Option.isSome_iff_exists.1 hyf
     have hil:i < xs.length:=by
      rw [HF.out] at hi
      exact (plc_lt _ _ _ _ hi).1
     have hil':(i:Int) < (xs.length:Int):=by omega
     rw [hi,Option.getD_some] at hof
     obtain ⟨bb,o,rfl,hrx⟩:=(HA.out.later eltX (HB9.out.trans (hwq.out.mono HB9.out.size))).2.2.2 (by omega)
     have hrxi:=hrx i hil
     obtain ⟨z,hz⟩:∃ z,z = xs.getD i default:=⟨_,rfl⟩
     rw [← hz] at hrxi hof
     have HRK:=Hy hrk
     have HRX:=Hy hrxi
     have HOF:=Hy hof
     have HOW:=Hy hown
     have HMq:=Hy (HM9.out.grown (grown_none hwq.out) (by simp))
     have hll:(ofN xs (s.take k)).length ≤ 100000:=by rw [ofN_len,List.length_take]; omega
     obtain ⟨l,hle2⟩:∃ l,l = ofN xs (s.take k):=⟨_,rfl⟩
     rw [← hle2] at HOF HOW hll ⊢
     have hzq:=hwq.out.size
     clear hrs hrk hof hyf hy hrx hrxi hz hown hle2
     go_upto_region 11 with (first
      | (refine wpList_load_mid rfl 30 _ rfl bs (os + k * 32) rfl (encN y) _ HRK.out Tryz.underlying30 rfl (infoX y) ?_)
      | (refine wpList_store_whole rfl 30 _ _ rfl wr.heap.size (encN y).toArray rfl rfl 30 _ (Whole.made wr _ _) (infoXs y) (by rw [encN_size]; rfl) (encN_all y) ?_; intro w4 hWn hGn; have HW4:=Hy hWn; have D4:=Hy (made_below' hGn); clear hWn hGn))
     have HB4:=Hy (hTr hwq D4.out)
     have hlk:=(HMq.out.grown (grown_none D4.out) (by simp)).look y
     rw [hi,Option.getD_some] at hlk
     have HRX4:Hid (w4.rangeAt bb (o + i * 38) (encX z)):=fun j v hv=>cell_grown (HRX.out j v hv) (grown_none D4.out) (by simp)
     have HOW4:=Hy (own_later HOW.out D4.out)
     have hz4:=D4.out.size
     have HONE:Hid (ArgG encX default 38 (w4.alloc (.cells (encX z).toArray 49)) (some ⟨w4.heap.size,0,none⟩) 1 [z]):=argG_one (Whole.made w4 49 (encX z).toArray)
     have HZ5:Hid (w9.heap.size ≤ (w4.alloc (.cells (encX z).toArray 49)).heap.size):=by show _ ≤ _; simp; omega
     have HLL:Hid (l.length + [z].length ≤ 10000000):=by show _ ≤ _; simp; omega
     have HB5:=Hy (HB4.out.alloc HB4.out.size (.cells (encX z).toArray 49))
     have HOW5:=Hy (own_later HOW4.out ((Below.refl w4.heap.size w4).alloc (Nat.le_refl _) (.cells (encX z).toArray 49)))
     clear HMq HRX HOW D4 hwq HOW4 HRK
     go_wp2_with (first
      | (refine wpList_rowN rfl _ wr.heap.size y rfl rfl HW4.out ?_)
      | (refine wpList_load_mid rfl 49 _ rfl bb (o + i * 38) rfl (encX z) _ HRX4.out Tryz.underlying49 rfl (infoOx z) ?_)
      | (refine wpList_buildG eltX rfl _ rfl z rfl ?_)
      | (at_builtin; go_loud (refine wpList_appendG eltX rfl _ _ rfl w9.heap.size (.slice A7 l.length c7) l rfl ?_ (some ⟨w4.heap.size,0,none⟩) 1 1 [z] rfl rfl HONE.out HZ5.out HLL.out ?_; exact HOW5.out; intro v' w6 hown' hb6' hgr6; have HOW6:=Hy hown'; have HB6:=Hy (HB5.out.trans hb6'); clear hown' hb6' hgr6)))
     have how6:=HOW6.out
     rw [← HOF.out] at how6
     obtain ⟨A6,c6,rfl,-,-,-⟩:=own_argG eltX how6
     have HOW7:=Hy how6
     clear how6 HOW6 HB5
     go_roundg (s.length - (k + 1))
     case measure=>omega
     case rel=>exact ⟨k + 1,A6,c6,rfl,by omega,Nat.le_refl _,by go_num,HOW7.out,HB6⟩
    ·obtain rfl:k = s.length:=by omega
     rw [List.take_length] at hown ⊢
     obtain ⟨A8,c8,he8,har,-,-⟩:=own_argG eltX hown
     injection he8 with e1 e2 e3
     subst e1
     subst e3
     have HAR:=Hy har
     clear hown har
     go_wp2
     go_ret
     exact ⟨⟨A7,c7,s,rfl,HRI.out,hsl,(fun x=>by rw [← HF.out]; exact HME.out x),HAR.out⟩,HB9.out.trans (hwq.out.mono HB9.out.size)⟩
  ·intro x cx w3 cnt3 hrg3 hlt3 hlen3 hgr3 hsz3 hen3
   have HOW3:=Hy (own_altR HOW.out (Alt.of_grown (R:=fun j=>j = w1.heap.size) hgr3 (fun j hj=>by injection hj with hj; exact hj.symm)) (fun j hj e=>by have:=(HOW.out.lt j hj).1; omega))
   have HB3:=Hy (hwr.out.grown hgr3 hwr.out.size (fun j hj=>by injection hj with hj; omega))
   have HR3:=Hy hrg3
   have hit3:w1.heap.size < w3.heap.size:=by omega
   have hz3:=HB3.out.size
   clear hrg hwr HOW hgr3 hrg3 hsz3
   go_upto_region 6 with (refine wpList_store_whole rfl 30 _ _ rfl w3.heap.size (encN x).toArray rfl rfl 30 _ (Whole.made w3 _ _) (infoXs x) (by rw [encN_size]; rfl) (encN_all x) ?_; intro w4 hWn hGn; have HW4:=Hy hWn; have D4:=Hy (made_below' hGn); clear hWn hGn)
   have HB4:=Hy (hTr HB3 D4.out)
   have HR4:=Hy (HR3.out.kept (grown_none D4.out) (by simp) (by simp))
   have HOW4:=Hy (own_later HOW3.out D4.out)
   have hz4:=D4.out.size
   clear HB3 HR3 HOW3 D4
   have HONE:Hid (ArgG encN default 32 (w4.alloc (.cells (encN x).toArray 30)) (some ⟨w4.heap.size,0,none⟩) 1 [x]):=argG_one (Whole.made w4 30 (encN x).toArray)
   have HZ5:Hid (w1.heap.size + 1 ≤ (w4.alloc (.cells (encN x).toArray 30)).heap.size):=by show _ ≤ _; simp; omega
   have HLL:Hid (ss.length + [x].length ≤ 10000000):=by show _ ≤ _; simp; omega
   have hba:=(Below.refl w4.heap.size w4).alloc (Nat.le_refl _) (.cells (encN x).toArray 30)
   have HB5:=Hy (hTr HB4 hba)
   have HR5:=Hy (HR4.out.kept (grown_none hba) (by simp) (by simp))
   have HOW5:=Hy (own_later HOW4.out hba)
   clear hba
   go_wp2_with (first
    | (refine wpList_rowN rfl _ w3.heap.size x rfl rfl HW4.out ?_)
    | (refine wpList_buildG eltN rfl _ rfl x rfl ?_)
    | (at_builtin; go_loud (refine wpList_appendG eltN rfl _ _ rfl (w1.heap.size + 1) (.slice A9 ss.length c9) ss rfl ?_ (some ⟨w4.heap.size,0,none⟩) 1 1 [x] rfl rfl HONE.out HZ5.out HLL.out ?_; exact HOW5.out; intro v' w6 hown' hb6' hgr6; have HOW6:=Hy hown'; have HB6:=Hy (HB5.out.trans (hb6'.mono (by omega))); have HR6:=Hy (HR5.out.kept hgr6 (fun e=>by have:=(HOW5.out.lt _ e.symm).1; omega) (fun e=>by have:=(HOW5.out.lt _ e.symm).1; omega)); have hz6:=hb6'.size; clear hown' hb6' hgr6)))
   obtain ⟨A6,c6,rfl,-,-,-⟩:=own_argG eltN HOW6.out
   have hz6':w1.heap.size < w6.heap.size:=by have:=HZ5.out; omega
   go_roundg (cnt3)
   case measure=>omega
   case rel=>exact ⟨cnt3,ss ++ [x],A6,c6,rfl,Nat.le_refl _,HOW6.out,HR6,HB6,hz6'⟩
def basesV (its:List It):List Nm:=(its.filter fun x=>decide (x.kind = 7)).map It.base
theorem basesV_snoc (its:List It) (k:Nat) (h:k < its.length):basesV (its.take (k + 1)) = if (its.getD k default).kind = 7 then basesV (its.take k) ++ [(its.getD k default).base] else basesV (its.take k):=by
 have e:its.getD k default = its[k]:=by simp [List.getD,List.getElem?_eq_getElem h]
 rw [List.take_succ_eq_append_getElem h,e]
 unfold basesV
 rw [List.filter_append,List.map_append]
 by_cases h7:its[k].kind = 7
 ·rw [if_pos h7]
  simp [h7]
 ·rw [if_neg h7]
  simp [h7]
theorem basesV_len (its:List It):(basesV its).length ≤ its.length:=by
 unfold basesV
 rw [List.length_map]
 exact List.length_filter_le _ _
theorem pneeds_any (A:Option Addr) (c:Nat) (its:List It) (w:World) (hA:ArgG encI default 35 w A c its) (hn:its.length ≤ 1000) :
  Calls Tryz.prog 28 #[.slice A its.length c] w fun e w'=>(∃ A' c' s,e = .returned (.slice A' (List.length s) c') ∧ Rise s ∧ (∀ x,x ∈ s ↔ x ∈ basesV its) ∧ s.length ≤ its.length ∧ ArgN w' A' c' s) ∧ Below w.heap.size w w':=by
 have HA:=Hy hA
 have hlc:=hA.1
 clear hA
 go_enter Tryz.func28,Tryz.ntmps28
 go_wp2
 go_loopg [3,5,8] its.length (fun g s3 _ s8 wr=>∃ (k:Nat) (A9:Option Addr) (c9:Nat),s3 = .slice A9 (basesV (its.take k)).length c9 ∧ k ≤ its.length ∧ its.length - k ≤ g ∧ s8 = .int .i64 k ∧ wr.ownsRow w.heap.size 30 32 (.slice A9 (basesV (its.take k)).length c9) (basesV (its.take k)).length ((basesV (its.take k)).flatMap encN) ∧ Hid (Below w.heap.size w wr))
 case atStart=>exact ⟨0,none,0,rfl,Nat.zero_le _,by omega,rfl,by simpa [basesV] using World.ownsRow_nil _ _ _ _,Hy (Below.refl _ _)⟩
 case round=>
  obtain ⟨k,A9,c9,rfl,hk,hg,rfl,hown,hwr⟩:=hrel
  by_cases hlt:k < its.length
  ·have hlt':(k:Int) < (its.length:Int):=by omega
   obtain ⟨bb,o,rfl,hr⟩:=(HA.out.later eltI hwr.out).2.2.2 (by omega)
   have hrk:=hr k hlt
   have hbs:=basesV_snoc its k hlt
   have hbl:(basesV (its.take k)).length ≤ 1000:=Nat.le_trans (basesV_len _) (by rw [List.length_take]; omega)
   obtain ⟨y,hy⟩:∃ y,y = its.getD k default:=⟨_,rfl⟩
   rw [← hy] at hrk hbs
   have HRK:=Hy hrk
   have HBS:=Hy hbs
   have HOW:=Hy hown
   obtain ⟨l,hle⟩:∃ l,l = basesV (its.take k):=⟨_,rfl⟩
   rw [← hle] at HBS HOW hbl ⊢
   have hsw:=hwr.out.size
   clear hr hrk hy hbs hown hle
   go_upto_region 5 with (first
    | (refine wpList_load_mid rfl 34 _ rfl bb (o + k * 35) rfl (encI y) _ HRK.out Tryz.underlying34 rfl (infoI y) ?_)
    | (refine wpList_store_whole rfl 34 _ _ rfl wr.heap.size (encI y).toArray rfl rfl 34 _ (Whole.made wr _ _) (infoI_s y) (by rw [encI_size]; rfl) (encI_all y) ?_; intro w3 hWn hGn; have HW3:=Hy hWn; have D3:=Hy (made_below' hGn); clear hWn hGn))
   have HB3:=Hy (hTr hwr D3.out)
   have HOW3:=Hy (own_later HOW.out D3.out)
   have hs3:=D3.out.size
   have hk0:w3.cell? ⟨wr.heap.size,0,none⟩ = some (.int .i64 (y.kind:Int)):=(HW3.out.at_ 0).trans rfl
   have HIB:=Hy (itm_base HW3.out)
   clear hwr HOW D3
   by_cases h7:y.kind = 7
   ·rw [if_pos h7] at HBS
    have h7':((y.kind:Int) == 7) = true:=by simp; omega
    have HONE:Hid (ArgG encN default 32 (w3.alloc (.cells (encN y.base).toArray 30)) (some ⟨w3.heap.size,0,none⟩) 1 [y.base]):=argG_one (Whole.made w3 30 (encN y.base).toArray)
    have HZ5:Hid (w.heap.size ≤ (w3.alloc (.cells (encN y.base).toArray 30)).heap.size):=by show _ ≤ _; simp; omega
    have HLL:Hid (l.length + [y.base].length ≤ 10000000):=by show _ ≤ _; simp; omega
    have HB5:=Hy (HB3.out.alloc HB3.out.size (.cells (encN y.base).toArray 30))
    have HOW5:=Hy (own_later HOW3.out ((Below.refl w3.heap.size w3).alloc (Nat.le_refl _) (.cells (encN y.base).toArray 30)))
    go_wp2_with (first
     | (refine wpList_load_mid rfl 30 _ rfl wr.heap.size 2 rfl (encN y.base) _ HIB.out Tryz.underlying30 rfl (infoN_l _) ?_)
     | (refine wpList_buildG eltN rfl _ rfl y.base rfl ?_)
     | (at_builtin; go_loud (refine wpList_appendG eltN rfl _ _ rfl w.heap.size (.slice A9 l.length c9) l rfl ?_ (some ⟨w3.heap.size,0,none⟩) 1 1 [y.base] rfl rfl HONE.out HZ5.out HLL.out ?_; exact HOW5.out; intro v' w6 hown' hb6' hgr6; have HOW6:=Hy hown'; have HB6:=Hy (HB5.out.trans hb6'); clear hown' hb6' hgr6)))
    have how6:=HOW6.out
    rw [← HBS.out] at how6
    obtain ⟨A6,c6,rfl,-,-,-⟩:=own_argG eltN how6
    have HOW7:=Hy how6
    clear how6 HOW6 HB5
    go_roundg (its.length - (k + 1))
    case measure=>omega
    case rel=>exact ⟨k + 1,A6,c6,rfl,by omega,Nat.le_refl _,by go_num,HOW7.out,HB6⟩
   ·rw [if_neg h7] at HBS
    have h7':((y.kind:Int) == 7) = false:=by simp; omega
    go_wp2
    go_roundg (its.length - (k + 1))
    case measure=>omega
    case rel=>exact ⟨k + 1,A9,c9,by rw [HBS.out],by omega,Nat.le_refl _,by go_num,by rw [HBS.out]; exact HOW3.out,HB3⟩
  ·obtain rfl:k = its.length:=by omega
   rw [List.take_length] at hown
   obtain ⟨A8,c8,he8,har,-,-⟩:=own_argG eltN hown
   injection he8 with e1 e2 e3
   subst e1
   subst e3
   have HS:=Hy (sort_nm A9 c9 (basesV its) wr har (Nat.le_trans (basesV_len its) (by omega)))
   have hbl:=basesV_len its
   rw [List.take_length]
   clear hown har
   go_wp2_with fail
   refine HS.out.mono ?_
   rintro e w9 ⟨A',c',s,rfl,hri,hme,hle,hAS,-,hb9⟩
   have HB9:=Hy (hTr hwr hb9)
   clear hb9
   go_wp2
   go_ret
   exact ⟨⟨A',c',s,rfl,hri,hme,Nat.le_trans hle hbl,hAS⟩,HB9.out⟩
def JHeld (w:World) (A:Option Addr) (c:Nat) (xs:List Obx) (Bl:Nat → Prop) (W:World):Prop:=
 (∀ k,k < w.heap.size + 2 → Bl k) ∧ (∀ k,Bl k → k < W.heap.size) ∧ Below w.heap.size w W ∧ Whole W w.heap.size 35 #[.slice A xs.length c] ∧
  ∃ v,Whole W (w.heap.size + 1) 187 #[v] ∧ (v = .map none ∨ ∃ mb,v = .map (some mb) ∧ Bl mb ∧ w.heap.size + 2 ≤ mb ∧ OwnI W mb xs.length (plc (xs.map Obx.x) xs.length))
theorem jheld_foot (w:World) (A:Option Addr) (c:Nat) (xs:List Obx):Foot (JHeld w A c xs) where
 lt:=fun Bl W k h hk=>h.2.1 k hk
 kept:=by
  intro Bl R W W' h ha hR
  obtain ⟨h1,h2,h3,h4,v,h5,h6⟩:=h
  have hnR:∀ k,Bl k → ¬ R k:=fun k hb hr=>hR k hr hb
  refine ⟨h1,fun k hk=>Nat.lt_of_lt_of_le (h2 k hk) ha.size,⟨ha.os.trans h3.os,ha.tape.trans h3.tape,ha.output.trans h3.output,Nat.le_trans h3.size ha.size,fun k hk=>(ha.block k (Nat.lt_of_lt_of_le hk h3.size) (hnR k (h1 k (by omega)))).trans (h3.block k hk)⟩,h4.alt ha (hnR _ (h1 _ (by omega))),v,h5.alt ha (hnR _ (h1 _ (by omega))),?_⟩
  rcases h6 with h6 | ⟨mb,h6,h7,h8,h9⟩
  ·exact .inl h6
  ·exact .inr ⟨mb,h6,h7,h8,h9.same (ha.block mb h9.lt (hnR mb h7))⟩
theorem pheld_enters (args:Array Value) (W:World):(callFunc 119 args).run Tryz.prog W = .ok (.enter 119 args) W:=enters_of Tryz.func119 (by kernel_rfl) rfl _ _
theorem pheld_any (w:World) (A:Option Addr) (c:Nat) (xs:List Obx) (hTab:Tabs w) (hT:Tens w) (hA:ArgG encX default 38 w A c xs) (hH:∀ p ∈ xs,HasX w p) (hM:∀ p ∈ xs,NamX p) (hn:xs.length ≤ 100000) :
  HeldC (JHeld w A c xs) (fun k=>k = w.heap.size + 1) 119 #[.pointer (some ⟨w.heap.size + 1,0,none⟩),.pointer (some ⟨w.heap.size,0,none⟩)] (heldV (xs.map Obx.x)):=by
 intro W x Bl hJ
 obtain ⟨hb1,hb2,hB,hO,v,hV,hv⟩:=hJ
 have hq0:∀ W:World,(binOp .eql 187 (.map none) (.map none)).run Tryz.prog W = .ok (.bool true) W:=fun _=>by kernel_rfl
 have hqm:∀ (mb:Nat) (W:World),(binOp .eql 187 (.map (some mb)) (.map none)).run Tryz.prog W = .ok (.bool false) W:=fun _ _=>by kernel_rfl
 have hl1:=hTab.lt1
 have hl2:=hTab.lt2
 have hbox:Below W.heap.size W (W.alloc (.cells (encN x).toArray 30)):=(Below.refl W.heap.size W).alloc (Nat.le_refl _) _
 have hzs:(W.alloc (.cells (encN x).toArray 30)).heap.size = W.heap.size + 1:=by simp
 have hw1:w.heap.size < W.heap.size:=hO.lt
 have hw2:w.heap.size + 1 < W.heap.size:=hV.lt
 have HX:Hid (∀ k,k < xs.length → HasX w (xs.getD k default) ∧ NamX (xs.getD k default)):=fun k hk=>by
  have:xs.getD k default = xs[k]:=by simp [List.getD,List.getElem?_eq_getElem hk]
  rw [this]
  exact ⟨hH _ (List.getElem_mem hk),hM _ (List.getElem_mem hk)⟩
 have HPL:Hid (∀ i,plc (xs.map Obx.x) xs.length x = some i → i < xs.length ∧ mayO' (xs.getD i default).x = true):=fun i hi=>by
  obtain ⟨h1,h2,-⟩:=plc_lt _ _ _ _ hi
  rw [getX xs i h1] at h2
  exact ⟨h1,h2⟩
 have HFV:Hid (heldV (xs.map Obx.x) x = (match plc (xs.map Obx.x) xs.length x with | some i=>((xs.getD i default).x.kind,bytesO (xs.getD i default).x,true) | none=>(0,[],false))):=by
  show _ = _
  unfold heldV
  rw [List.length_map]
  cases hp:plc (xs.map Obx.x) xs.length x with
  | none=>rfl
  | some i=>
   have:=(plc_lt _ _ _ _ hp).1
   simp only [getX xs i this]
 have HPB:Hid (∀ W',Below w.heap.size w W' → Calls Tryz.prog 120 #[.slice A xs.length c] W' fun e w'=>e = .returned (.map (some W'.heap.size)) ∧ OwnI w' W'.heap.size xs.length (plc (xs.map Obx.x) xs.length) ∧ Below W'.heap.size W' w'):=fun W' hW'=>
  pbyname_any A c xs W' (hTab.below hW' hl1 hl2) (hT.below hW') (hA.later eltX hW') (fun p hp=>ArgO.later (hH p hp) hW') hM hn
 have HA:=Hy hA
 have hlc:=hA.1
 have HBw:=Hy (hB.trans (hbox.mono hB.size))
 have HO:=Hy (hO.below hbox hO.lt)
 have HV:=Hy (hV.below hbox hV.lt)
 have HN:=Hy (Whole.made W 30 (encN x).toArray)
 have HG:=Hy (grown_none hbox)
 have HB1:=Hy hb1
 have HB2:=Hy hb2
 clear hA hH hM hTab hT hB hO hV hb1 hb2
 rcases hv with rfl | ⟨mb,rfl,hmb,hml,hmp⟩
 ·clear hqm hbox
  go_enter Tryz.func119,Tryz.ntmps119
  go_upto_region 1 with fail
  generalize W.alloc (.cells (encN x).toArray 30) = W1 at *
  have HZS:=Hy hzs
  clear hzs
  have hc0:W1.cell? ⟨w.heap.size + 1,0,none⟩ = some (.map none):=(HV.out.at_ 0).trans rfl
  have hc1:W1.cell? ⟨w.heap.size,0,none⟩ = some (.slice A xs.length c):=(HO.out.at_ 0).trans rfl
  have hf0:=HV.out.thawed 0
  go_upto_region 3 with (go_at_call 120; refine (HPB.out W1 HBw.out).mono ?_; rintro e W2 ⟨rfl,hmp2,hb2⟩; have HM2:=Hy hmp2; have HO2:=Hy (HO.out.below hb2 HO.out.lt); have HV2:=Hy (HV.out.below hb2 HV.out.lt); have HN2:=Hy (HN.out.below hb2 HN.out.lt); have hcv:W2.cell? ⟨w.heap.size + 1,0,none⟩ = some (.map none):=(HV2.out.at_ 0).trans rfl; have hfv:=HV2.out.thawed 0; have HB2':=Hy hb2; clear hmp2 hb2)
  have hgs:W2.grownBy (W2.setCell ⟨w.heap.size + 1,0,none⟩ (.map (some W1.heap.size))) (some (w.heap.size + 1)):=gr_set (row:=some (w.heap.size + 1)) (gr_refl _ _) (p:=⟨w.heap.size + 1,0,none⟩) (.inl rfl) _
  have HM3:=Hy (HM2.out.grown hgs (by have:=HZS.out; simp; omega))
  have HO3:=Hy (HO2.out.grown hgs (by simp))
  have HN3:=Hy (HN2.out.grown hgs (by simp; omega))
  have HV3:Hid (Whole (W2.setCell ⟨w.heap.size + 1,0,none⟩ (.map (some W1.heap.size))) (w.heap.size + 1) 187 #[.map (some W1.heap.size)]):=HV2.out.put 0 (.map (some W1.heap.size))
  have hb2:=HB2'.out
  have HBw3:=Hy ((HBw.out.trans (hb2.mono HBw.out.size)).grown hgs (Nat.le_trans HBw.out.size hb2.size) (fun j hj=>by injection hj with hj; omega))
  have HG3:Hid (W.grownBy (W2.setCell ⟨w.heap.size + 1,0,none⟩ (.map (some W1.heap.size))) (some (w.heap.size + 1))):=(gr_below (HG.out.but (some (w.heap.size + 1))) hb2).andThen hgs (fun j hj=>.inr hj)
  have HJ3:Hid (JHeld w A c xs (fun k=>Bl k ∨ k = W1.heap.size) (W2.setCell ⟨w.heap.size + 1,0,none⟩ (.map (some W1.heap.size)))):=by
   have hlm:=HM3.out.lt
   have hzs:=HZS.out
   refine ⟨fun k hk=>.inl (HB1.out k hk),fun k hk=>?_,HBw3.out,HO3.out,_,HV3.out,.inr ⟨W1.heap.size,rfl,.inr rfl,by omega,HM3.out⟩⟩
   rcases hk with hk | rfl
   ·exact Nat.lt_of_lt_of_le (HB2.out k hk) HG3.out.size
   ·exact hlm
  have HJL:Hid (∀ k,(Bl k ∨ k = W1.heap.size) → Bl k ∨ W.heap.size ≤ k):=fun k hk=>by
   rcases hk with hk | rfl
   ·exact .inl hk
   ·exact .inr (by have hzs:=HZS.out; omega)
  have hs3:W1.heap.size ≤ (W2.setCell ⟨w.heap.size + 1,0,none⟩ (.map (some W1.heap.size))).heap.size:=Nat.le_trans hb2.size hgs.size
  generalize W2.setCell ⟨w.heap.size + 1,0,none⟩ (.map (some W1.heap.size)) = W3 at *
  clear hgs hb2 HM2 HO2 HV2 HN2 HB2' hcv hfv hc0 hc1 hf0 HPB HG HV HO HN HBw
  have HZM:Hid (W1.heap.size = W.heap.size + 1):=HZS
  clear HZS
  generalize W1.heap.size = mb at *
  have hcv:W3.cell? ⟨w.heap.size + 1,0,none⟩ = some (.map (some mb)):=(HV3.out.at_ 0).trans rfl
  have hco:W3.cell? ⟨w.heap.size,0,none⟩ = some (.slice A xs.length c):=(HO3.out.at_ 0).trans rfl
  have hlk:=HM3.out.look2 x
  have HFV2:=HFV
  cases hp:plc (xs.map Obx.x) xs.length x with
  | none=>
   rw [hp] at hlk HFV2
   simp only [Option.getD_none,Option.isSome_none] at hlk
   go_wp2_with (refine wpList_rowN rfl _ W.heap.size x rfl rfl HN3.out ?_)
   refine bodyPost_ret (results_tmp3 rfl _ _ _) rfl ?_
   rw [HFV2.out]
   exact ⟨rfl,⟨_,HG3.out,fun r hr=>by injection hr with hr; exact hr.symm⟩,_,HJ3.out,HJL.out⟩
  | some i=>
   rw [hp] at hlk HFV2
   simp only [Option.getD_some,Option.isSome_some] at hlk
   obtain ⟨hi,hmay⟩:=HPL.out i hp
   have hi':(i:Int) < (xs.length:Int):=by omega
   obtain ⟨bb,o,rfl,hr⟩:=(HA.out.later eltX HBw3.out).2.2.2 (by omega)
   have hri:=hr i hi
   have hoy:=HX.out i hi
   dsimp only at HFV2
   obtain ⟨y,hy⟩:∃ y,y = xs.getD i default:=⟨_,rfl⟩
   rw [← hy] at hri hoy hmay HFV2
   have HRI:=Hy hri
   have HPUT:Hid (∀ W',Below w.heap.size w W' → Calls Tryz.prog 73 #[.agg (encX y).toArray] W' fun e w'=>e = .returned (.tuple #[.string ⟨(bytesO y.x).toArray⟩,.bool true]) ∧ Below W'.heap.size W' w'):=fun W' hW'=>by
    have:=oput_any y.A y.c y.A2 y.c2 y.x W' (ArgO.later hoy.1 hW') hoy.2.1 hoy.2.2.1
    rw [hmay,if_pos rfl] at this
    exact this
   have hc38:∀ W':World,W'.rangeAt bb (o + i * 38) (encX y) → W'.cell? ⟨bb,o + i * 38,none⟩ = some (.int .i64 y.x.kind):=fun W' h=>by
    have:=h 0 _ (show (encX y)[0]? = some (.int .i64 y.x.kind) from rfl)
    rwa [Nat.add_zero] at this
   have hblt:bb < W3.heap.size:=World.block_lt_of_cell? W3 _ (hc38 W3 hri)
   clear hr hri hy hoy hmay
   go_wp2_with (first
    | (refine wpList_rowN rfl _ W.heap.size x rfl rfl HN3.out ?_)
    | (refine wpList_load_mid rfl 49 _ rfl bb (o + i * 38) rfl (encX y) _ HRI.out Tryz.underlying49 rfl (infoOx y) ?_))
   refine (HPUT.out W3 HBw3.out).mono ?_
   rintro e W4 ⟨rfl,hb4⟩
   have hcv4:W4.cell? ⟨w.heap.size,0,none⟩ = some (.slice (some ⟨bb,o,none⟩) xs.length c):=cell_grown hco (grown_none hb4) (by simp)
   have hck4:W4.cell? ⟨bb,o + i * 38,none⟩ = some (.int .i64 y.x.kind):=cell_grown (hc38 W3 HRI.out) (grown_none hb4) (by simp)
   have HG4:=Hy (gr_below HG3.out hb4)
   have HJ4:=Hy ((jheld_foot w _ c xs).kept _ (fun _=>False) W3 W4 HJ3.out (Alt.of_below hb4) (fun _ hk=>hk.elim))
   clear hb4
   go_wp2
   refine bodyPost_ret (results_tmp3 rfl _ _ _) rfl ?_
   rw [HFV2.out]
   exact ⟨rfl,⟨_,HG4.out,fun r hr=>by injection hr with hr; exact hr.symm⟩,_,HJ4.out,HJL.out⟩
 ·clear hq0 hbox HPB
  go_enter Tryz.func119,Tryz.ntmps119
  go_upto_region 1 with fail
  generalize W.alloc (.cells (encN x).toArray 30) = W3 at *
  have hg3:=HG.out
  have hc0:W3.cell? ⟨w.heap.size + 1,0,none⟩ = some (.map (some mb)):=(HV.out.at_ 0).trans rfl
  have HM3:=Hy (hmp.grown hg3 (by simp))
  have HN3:=Hy HN.out
  have HBw3:=Hy HBw.out
  have HG3:Hid (W.grownBy W3 (some (w.heap.size + 1))):=hg3.but _
  have HJ3:Hid (JHeld w A c xs Bl W3):=⟨HB1.out,fun k hk=>Nat.lt_of_lt_of_le (HB2.out k hk) hg3.size,HBw3.out,HO.out,_,HV.out,.inr ⟨mb,rfl,hmb,hml,HM3.out⟩⟩
  have HJL:Hid (∀ k,Bl k → Bl k ∨ W.heap.size ≤ k):=fun k hk=>.inl hk
  go_upto_region 3 with fail
  clear hc0 hg3
  have hcv:W3.cell? ⟨w.heap.size + 1,0,none⟩ = some (.map (some mb)):=(HV.out.at_ 0).trans rfl
  have hco:W3.cell? ⟨w.heap.size,0,none⟩ = some (.slice A xs.length c):=(HO.out.at_ 0).trans rfl
  have hlk:=HM3.out.look2 x
  have HFV2:=HFV
  cases hp:plc (xs.map Obx.x) xs.length x with
  | none=>
   rw [hp] at hlk HFV2
   simp only [Option.getD_none,Option.isSome_none] at hlk
   go_wp2_with (refine wpList_rowN rfl _ W.heap.size x rfl rfl HN3.out ?_)
   refine bodyPost_ret (results_tmp3 rfl _ _ _) rfl ?_
   rw [HFV2.out]
   exact ⟨rfl,⟨_,HG3.out,fun r hr=>by injection hr with hr; exact hr.symm⟩,_,HJ3.out,HJL.out⟩
  | some i=>
   rw [hp] at hlk HFV2
   simp only [Option.getD_some,Option.isSome_some] at hlk
   obtain ⟨hi,hmay⟩:=HPL.out i hp
   have hi':(i:Int) < (xs.length:Int):=by omega
   obtain ⟨bb,o,rfl,hr⟩:=(HA.out.later eltX HBw3.out).2.2.2 (by omega)
   have hri:=hr i hi
   have hoy:=HX.out i hi
   dsimp only at HFV2
   obtain ⟨y,hy⟩:∃ y,y = xs.getD i default:=⟨_,rfl⟩
   rw [← hy] at hri hoy hmay HFV2
   have HRI:=Hy hri
   have HPUT:Hid (∀ W',Below w.heap.size w W' → Calls Tryz.prog 73 #[.agg (encX y).toArray] W' fun e w'=>e = .returned (.tuple #[.string ⟨(bytesO y.x).toArray⟩,.bool true]) ∧ Below W'.heap.size W' w'):=fun W' hW'=>by
    have:=oput_any y.A y.c y.A2 y.c2 y.x W' (ArgO.later hoy.1 hW') hoy.2.1 hoy.2.2.1
    rw [hmay,if_pos rfl] at this
    exact this
   have hc38:∀ W':World,W'.rangeAt bb (o + i * 38) (encX y) → W'.cell? ⟨bb,o + i * 38,none⟩ = some (.int .i64 y.x.kind):=fun W' h=>by
    have:=h 0 _ (show (encX y)[0]? = some (.int .i64 y.x.kind) from rfl)
    rwa [Nat.add_zero] at this
   have hblt:bb < W3.heap.size:=World.block_lt_of_cell? W3 _ (hc38 W3 hri)
   clear hr hri hy hoy hmay
   go_wp2_with (first
    | (refine wpList_rowN rfl _ W.heap.size x rfl rfl HN3.out ?_)
    | (refine wpList_load_mid rfl 49 _ rfl bb (o + i * 38) rfl (encX y) _ HRI.out Tryz.underlying49 rfl (infoOx y) ?_))
   refine (HPUT.out W3 HBw3.out).mono ?_
   rintro e W4 ⟨rfl,hb4⟩
   have hcv4:W4.cell? ⟨w.heap.size,0,none⟩ = some (.slice (some ⟨bb,o,none⟩) xs.length c):=cell_grown hco (grown_none hb4) (by simp)
   have hck4:W4.cell? ⟨bb,o + i * 38,none⟩ = some (.int .i64 y.x.kind):=cell_grown (hc38 W3 HRI.out) (grown_none hb4) (by simp)
   have HG4:=Hy (gr_below HG3.out hb4)
   have HJ4:=Hy ((jheld_foot w _ c xs).kept _ (fun _=>False) W3 W4 HJ3.out (Alt.of_below hb4) (fun _ hk=>hk.elim))
   clear hb4
   go_wp2
   refine bodyPost_ret (results_tmp3 rfl _ _ _) rfl ?_
   rw [HFV2.out]
   exact ⟨rfl,⟨_,HG4.out,fun r hr=>by injection hr with hr; exact hr.symm⟩,_,HJ4.out,HJL.out⟩
end Go.Proofs.YtlfmooihcigolaaGreatDoor

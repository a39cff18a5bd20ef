/-
  ObE3, ObE4, ObG, PacF, ThiM, BodM.
-/
import Derived.Test.YtlfmooihcigolaaGreatDoorMbe
import Derived.Test.YtlfmooihcigolaaGreatDoorMat
set_option maxRecDepth 100000
set_option maxHeartbeats 8000000
namespace Go.Proofs.YtlfmooihcigolaaGreatDoor
open Go.RowKit
theorem ogetO_3 (k:Int) (s:List UInt8) (w:World) (hl:s.length ≤ 1048576) (h1:¬ k = 1) (h2:¬ k = 2) (h3:k = 3) :
  Calls Tryz.prog 149 #[.int .i64 k,.string ⟨s.toArray⟩] w fun e w'=>(∃ A c A2 c2,e = .returned (.tuple #[.agg (encO A c A2 c2 (getOb k s).1).toArray,.int .i64 (getOb k s).2]) ∧ ArgO w' A c A2 c2 (getOb k s).1 ∧ Own2 w.heap.size w' A ∧ Own2 w.heap.size w' A2) ∧ Below w.heap.size w w':=by
 have HW0:=Hy (Whole.made w 49 #[Value.int .i64 0,.string ⟨#[]⟩,.slice none 0 0,Z8,Z8,Z8,Z8,Z8,Z8,Z8,Z8,Z8,Z8,Z8,Z8,Z8,Z8,Z8,Z8,Z8,Z8,Z8,Z8,Z8,Z8,Z8,Z8,Z8,Z8,Z8,Z8,Z8,Z8,Z8,Z8,.slice none 0 0,Value.float FloatKind.f64 0,.string ⟨#[]⟩])
 have HB0:=Hy ((Below.refl w.heap.size w).alloc (Nat.le_refl _) (.cells #[Value.int .i64 0,.string ⟨#[]⟩,.slice none 0 0,Z8,Z8,Z8,Z8,Z8,Z8,Z8,Z8,Z8,Z8,Z8,Z8,Z8,Z8,Z8,Z8,Z8,Z8,Z8,Z8,Z8,Z8,Z8,Z8,Z8,Z8,Z8,Z8,Z8,Z8,Z8,Z8,.slice none 0 0,Value.float FloatKind.f64 0,.string ⟨#[]⟩] 49))
 have hs0:(w.alloc (.cells #[Value.int .i64 0,.string ⟨#[]⟩,.slice none 0 0,Z8,Z8,Z8,Z8,Z8,Z8,Z8,Z8,Z8,Z8,Z8,Z8,Z8,Z8,Z8,Z8,Z8,Z8,Z8,Z8,Z8,Z8,Z8,Z8,Z8,Z8,Z8,Z8,Z8,Z8,Z8,Z8,.slice none 0 0,Value.float FloatKind.f64 0,.string ⟨#[]⟩] 49)).heap.size = w.heap.size + 1:=by simp
 have HS0:=Hy (infoO_s none 0 none 0 ⟨k,[],[],noC⟩)
 have HA0:=Hy (encO_all none 0 none 0 ⟨k,[],[],noC⟩)
 have HZ0:Hid (#[Value.int .i64 0,.string ⟨#[]⟩,.slice none 0 0,Z8,Z8,Z8,Z8,Z8,Z8,Z8,Z8,Z8,Z8,Z8,Z8,Z8,Z8,Z8,Z8,Z8,Z8,Z8,Z8,Z8,Z8,Z8,Z8,Z8,Z8,Z8,Z8,Z8,Z8,Z8,Z8,.slice none 0 0,Value.float FloatKind.f64 0,.string ⟨#[]⟩].size = (encO none 0 none 0 ⟨k,[],[],noC⟩).toArray.size):=rfl
 have HZZ:Hid (#[Value.int .i64 0,.string ⟨#[]⟩,.slice none 0 0,Z8,Z8,Z8,Z8,Z8,Z8,Z8,Z8,Z8,Z8,Z8,Z8,Z8,Z8,Z8,Z8,Z8,Z8,Z8,Z8,Z8,Z8,Z8,Z8,Z8,Z8,Z8,Z8,Z8,Z8,Z8,Z8,.slice none 0 0,Value.float FloatKind.f64 0,.string ⟨#[]⟩].size = 38):=rfl
 have HQ:Hid (getOb k s = (if k = 1 then (if s.length ≤ 1000 then (⟨1,s,[],noC⟩,0) else (zO,5))
 else if k = 2 then (match getT s with | some es=>(⟨2,[],es,noC⟩,0) | none=>(zO,1))
 else if k = 3 then (match readC s with | some x=>(⟨3,[],[],x⟩,0) | none=>(zO,1))
 else (zO,1):Ob × Int)):=rfl
 have HL:=Hy hl
 clear hl
 subst h3
 go_enter Tryz.func149,Tryz.ntmps149
 go_upto_region 1 with fail
 have HSI:=Hy hs0
 clear hs0
 generalize (w.alloc (.cells #[Value.int .i64 0,.string ⟨#[]⟩,.slice none 0 0,Z8,Z8,Z8,Z8,Z8,Z8,Z8,Z8,Z8,Z8,Z8,Z8,Z8,Z8,Z8,Z8,Z8,Z8,Z8,Z8,Z8,Z8,Z8,Z8,Z8,Z8,Z8,Z8,Z8,Z8,Z8,Z8,.slice none 0 0,Value.float FloatKind.f64 0,.string ⟨#[]⟩] 49)) = w0 at *
 go_wp2_with (refine wpList_store_whole rfl 49 _ _ rfl w0.heap.size (encO none 0 none 0 ⟨3,[],[],noC⟩).toArray rfl rfl 49 _ (Whole.made w0 _ _) HS0.out HZ0.out HA0.out ?_; intro w1 hWn hGn; have HW1:=Hy hWn; have HG1:=Hy hGn; clear hWn hGn)
 have HR1:=Hy ((HW0.out.past (.cells #[Value.int .i64 0,.string ⟨#[]⟩,.slice none 0 0,Z8,Z8,Z8,Z8,Z8,Z8,Z8,Z8,Z8,Z8,Z8,Z8,Z8,Z8,Z8,Z8,Z8,Z8,Z8,Z8,Z8,Z8,Z8,Z8,Z8,Z8,Z8,Z8,Z8,Z8,Z8,Z8,.slice none 0 0,Value.float FloatKind.f64 0,.string ⟨#[]⟩] 49)).grown HG1.out (fun e=>by injection e with e; have:=HSI.out; omega))
 have HB1:=Hy (be_grown (HB0.out.alloc HB0.out.size (.cells #[Value.int .i64 0,.string ⟨#[]⟩,.slice none 0 0,Z8,Z8,Z8,Z8,Z8,Z8,Z8,Z8,Z8,Z8,Z8,Z8,Z8,Z8,Z8,Z8,Z8,Z8,Z8,Z8,Z8,Z8,Z8,Z8,Z8,Z8,Z8,Z8,Z8,Z8,Z8,Z8,.slice none 0 0,Value.float FloatKind.f64 0,.string ⟨#[]⟩] 49)) HG1.out (by have:=HB0.out.size; simp; omega) (fun j hj=>by injection hj with hj; have:=HSI.out; omega))
 have hlt1:w0.heap.size < w1.heap.size:=HW1.out.lt
 have hlt0:w.heap.size < w0.heap.size:=by have:=HSI.out; omega
 refine (cgetO_any s w1 HL.out).mono ?_
 rintro e w2 ⟨(⟨x,A,c,hgt,rfl,har,hnb⟩ | ⟨hgt,rfl⟩),hb⟩
 ·have HGO:Hid (getOb 3 s = (⟨3,[],[],x⟩,0)):=by show _ = _; rw [HQ.out,if_neg (by decide),if_neg (by decide),if_pos (by trivial),hgt]
  have HB2:=Hy (hTr HB1 hb)
  have HW2:=Hy (HW1.out.below hb hlt1)
  have HR2:=Hy (HR1.out.below hb (by omega))
  have hlt2:w0.heap.size < w2.heap.size:=HW2.out.lt
  have HAR:=Hy har
  have HNB:=Hy hnb.1
  have HOB:=Hy hnb.2
  clear hb har hnb hgt
  have HTH:Hid (w2.there w0.heap.size 3 (encC A c x).toArray.size):=by
   intro j hj
   rw [encC_s] at hj
   refine ⟨?_,HW2.out.thawed _⟩
   rw [HW2.out.at_,Array.getElem?_eq_getElem (by rw [encO_s]; omega)]
   rfl
  have HCX:=Hy (infoC_s A c x)
  have HCA:=Hy (encC_all A c x)
  have hw3:=whole_over (encC A c x).toArray.toList 3 w2 _ HW2.out (by rw [encO_s]; show 3 + (encC A c x).length ≤ 38; rw [encC_len]; exact Nat.le_refl _)
  rw [show (encC A c x).toArray.toList = encC A c x from rfl,encO_over] at hw3
  have HW3:=Hy hw3
  have HR3:=Hy (Whole.grown HR2.out (gr_setCells (g:=w0.heap.size) (encC A c x) 3 w2 w2 (gr_refl _ _)) (fun e=>by injection e with e; omega))
  have HB3:=Hy (be_grown HB2.out (gr_setCells (g:=w0.heap.size) (encC A c x) 3 w2 w2 (gr_refl _ _)) HB2.out.size (fun j hj=>by injection hj with hj; omega))
  clear hw3
  have HAR3:=Hy (HAR.out.grown (gr_setCells (g:=w0.heap.size) (encC A c x) 3 w2 w2 (gr_refl _ _)) (fun j hj _ e=>by injection e with e; have:=HNB.out j hj; omega))
  have HOB3:=Hy (HOB.out.grown (gr_setCells (g:=w0.heap.size) (encC A c x) 3 w2 w2 (gr_refl _ _)) (fun j hj e=>by injection e with e; have:=HNB.out j hj; omega))
  have HXS:=Hy (infoO_s none 0 A c ⟨3,[],[],x⟩)
  have HAX:=Hy (encO_all none 0 A c ⟨3,[],[],x⟩)
  have HSX:=Hy (encO_s none 0 A c ⟨3,[],[],x⟩)
  generalize hcs:(encO none 0 A c ⟨3,[],[],x⟩).toArray = cs at *
  go_wp2_with (first
   | (refine wpList_store_mid rfl 47 _ _ rfl w0.heap.size 3 (encC A c x).toArray rfl rfl HTH.out HCX.out HCA.out ?_; rw [show (encC A c x).toArray.toList = encC A c x from rfl]; generalize w2.setCells w0.heap.size 3 (encC A c x) = w3 at *)
   | (refine wpList_load_row rfl 49 _ rfl w0.heap.size rfl 49 cs (0,0) _ HW3.out Tryz.underlying49 rfl HXS.out ?_)
   | (refine wpList_store_whole rfl 49 _ _ rfl w.heap.size cs rfl rfl 49 _ HR3.out HXS.out (by rw [HSX.out]; rfl) HAX.out ?_; intro w9 hWn hGn; have HW9:=Hy hWn; have HG9:=Hy hGn; clear hWn hGn))
  have HB9:=Hy (be_grown HB3.out HG9.out HB3.out.size (fun j hj=>by injection hj with hj; omega))
  refine bodyPost_ret (v:=.tuple #[.agg cs,.int .i64 0]) (results_orow rfl _ _ _ w.heap.size _ cs rfl rfl HW9.out HXS.out) rfl ⟨⟨none,0,A,c,by rw [HGO.out,hcs],by rw [HGO.out]; exact ⟨(argO_zero 3 [] w9).1,HAR3.out.grown HG9.out (fun j hj _ e=>by injection e with e; have:=HNB.out j hj; omega)⟩,Own2.nil _ _,⟨fun j hj=>by have:=HNB.out j hj; omega,HOB3.out.grown HG9.out (fun j hj e=>by injection e with e; have:=HNB.out j hj; omega)⟩⟩,HB9.out⟩
 ·have HGO:Hid (getOb 3 s = (zO,1)):=by show _ = _; rw [HQ.out,if_neg (by decide),if_neg (by decide),if_pos (by trivial),hgt]
  generalize noC = x0 at *
  have HB2:=Hy (hTr HB1 hb)
  have HW2:=Hy (HW1.out.below hb hlt1)
  have HR2:=Hy (HR1.out.below hb (by omega))
  have hlt2:w0.heap.size < w2.heap.size:=HW2.out.lt
  clear hb hgt
  have HTH:Hid (w2.there w0.heap.size 3 (encC none 0 x0).toArray.size):=by
   intro j hj
   rw [encC_s] at hj
   refine ⟨?_,HW2.out.thawed _⟩
   rw [HW2.out.at_,Array.getElem?_eq_getElem (by rw [encO_s]; omega)]
   rfl
  have HCX:=Hy (infoC_s none 0 x0)
  have HCA:=Hy (encC_all none 0 x0)
  have hw3:=whole_over (encC none 0 x0).toArray.toList 3 w2 _ HW2.out (by rw [encO_s]; show 3 + (encC none 0 x0).length ≤ 38; rw [encC_len]; exact Nat.le_refl _)
  rw [show (encC none 0 x0).toArray.toList = encC none 0 x0 from rfl,encO_over] at hw3
  have HW3:=Hy hw3
  have HR3:=Hy (Whole.grown HR2.out (gr_setCells (g:=w0.heap.size) (encC none 0 x0) 3 w2 w2 (gr_refl _ _)) (fun e=>by injection e with e; omega))
  have HB3:=Hy (be_grown HB2.out (gr_setCells (g:=w0.heap.size) (encC none 0 x0) 3 w2 w2 (gr_refl _ _)) HB2.out.size (fun j hj=>by injection hj with hj; omega))
  clear hw3
  have hzb:=zO_build
  have HXS:=Hy (infoO_s none 0 none 0 zO)
  have HAX:=Hy (encO_all none 0 none 0 zO)
  go_wp2_with (first
   | (refine wpList_store_mid rfl 47 _ _ rfl w0.heap.size 3 (encC none 0 x0).toArray rfl rfl HTH.out HCX.out HCA.out ?_; rw [show (encC none 0 x0).toArray.toList = encC none 0 x0 from rfl]; generalize w2.setCells w0.heap.size 3 (encC none 0 x0) = w3 at *)
   | (refine wpList_store_whole rfl 49 _ _ rfl w.heap.size (encO none 0 none 0 zO).toArray rfl rfl 49 _ HR3.out HXS.out rfl HAX.out ?_; intro w9 hWn hGn; have HW9:=Hy hWn; have HG9:=Hy hGn; clear hWn hGn))
  have HB9:=Hy (be_grown HB3.out HG9.out HB3.out.size (fun j hj=>by injection hj with hj; omega))
  refine bodyPost_ret (v:=.tuple #[.agg (encO none 0 none 0 zO).toArray,.int .i64 1]) (results_orow rfl _ _ _ w.heap.size _ _ rfl rfl HW9.out HXS.out) rfl ⟨⟨none,0,none,0,by rw [HGO.out],by rw [HGO.out]; exact argO_zero 0 [] w9,Own2.nil _ _,Own2.nil _ _⟩,HB9.out⟩
theorem ogetO_4 (k:Int) (s:List UInt8) (w:World) (hl:s.length ≤ 1048576) (h1:¬ k = 1) (h2:¬ k = 2) (h3:¬ k = 3) :
  Calls Tryz.prog 149 #[.int .i64 k,.string ⟨s.toArray⟩] w fun e w'=>(∃ A c A2 c2,e = .returned (.tuple #[.agg (encO A c A2 c2 (getOb k s).1).toArray,.int .i64 (getOb k s).2]) ∧ ArgO w' A c A2 c2 (getOb k s).1 ∧ Own2 w.heap.size w' A ∧ Own2 w.heap.size w' A2) ∧ Below w.heap.size w w':=by
 have HW0:=Hy (Whole.made w 49 #[Value.int .i64 0,.string ⟨#[]⟩,.slice none 0 0,Z8,Z8,Z8,Z8,Z8,Z8,Z8,Z8,Z8,Z8,Z8,Z8,Z8,Z8,Z8,Z8,Z8,Z8,Z8,Z8,Z8,Z8,Z8,Z8,Z8,Z8,Z8,Z8,Z8,Z8,Z8,Z8,.slice none 0 0,Value.float FloatKind.f64 0,.string ⟨#[]⟩])
 have HB0:=Hy ((Below.refl w.heap.size w).alloc (Nat.le_refl _) (.cells #[Value.int .i64 0,.string ⟨#[]⟩,.slice none 0 0,Z8,Z8,Z8,Z8,Z8,Z8,Z8,Z8,Z8,Z8,Z8,Z8,Z8,Z8,Z8,Z8,Z8,Z8,Z8,Z8,Z8,Z8,Z8,Z8,Z8,Z8,Z8,Z8,Z8,Z8,Z8,Z8,.slice none 0 0,Value.float FloatKind.f64 0,.string ⟨#[]⟩] 49))
 have hs0:(w.alloc (.cells #[Value.int .i64 0,.string ⟨#[]⟩,.slice none 0 0,Z8,Z8,Z8,Z8,Z8,Z8,Z8,Z8,Z8,Z8,Z8,Z8,Z8,Z8,Z8,Z8,Z8,Z8,Z8,Z8,Z8,Z8,Z8,Z8,Z8,Z8,Z8,Z8,Z8,Z8,Z8,Z8,.slice none 0 0,Value.float FloatKind.f64 0,.string ⟨#[]⟩] 49)).heap.size = w.heap.size + 1:=by simp
 have HS0:=Hy (infoO_s none 0 none 0 ⟨k,[],[],noC⟩)
 have HA0:=Hy (encO_all none 0 none 0 ⟨k,[],[],noC⟩)
 have HZ0:Hid (#[Value.int .i64 0,.string ⟨#[]⟩,.slice none 0 0,Z8,Z8,Z8,Z8,Z8,Z8,Z8,Z8,Z8,Z8,Z8,Z8,Z8,Z8,Z8,Z8,Z8,Z8,Z8,Z8,Z8,Z8,Z8,Z8,Z8,Z8,Z8,Z8,Z8,Z8,Z8,Z8,.slice none 0 0,Value.float FloatKind.f64 0,.string ⟨#[]⟩].size = (encO none 0 none 0 ⟨k,[],[],noC⟩).toArray.size):=rfl
 have HZZ:Hid (#[Value.int .i64 0,.string ⟨#[]⟩,.slice none 0 0,Z8,Z8,Z8,Z8,Z8,Z8,Z8,Z8,Z8,Z8,Z8,Z8,Z8,Z8,Z8,Z8,Z8,Z8,Z8,Z8,Z8,Z8,Z8,Z8,Z8,Z8,Z8,Z8,Z8,Z8,Z8,Z8,.slice none 0 0,Value.float FloatKind.f64 0,.string ⟨#[]⟩].size = 38):=rfl
 have HQ:Hid (getOb k s = (if k = 1 then (if s.length ≤ 1000 then (⟨1,s,[],noC⟩,0) else (zO,5))
 else if k = 2 then (match getT s with | some es=>(⟨2,[],es,noC⟩,0) | none=>(zO,1))
 else if k = 3 then (match readC s with | some x=>(⟨3,[],[],x⟩,0) | none=>(zO,1))
 else (zO,1):Ob × Int)):=rfl
 have HL:=Hy hl
 clear hl
 have g1:(k == 1) = false:=by simpa using h1
 have g2:(k == 2) = false:=by simpa using h2
 have g3:(k == 3) = false:=by simpa using h3
 have HGO:Hid (getOb k s = (zO,1)):=by show _ = _; rw [HQ.out,if_neg h1,if_neg h2,if_neg h3]
 clear h1 h2 h3
 go_enter Tryz.func149,Tryz.ntmps149
 go_upto_region 1 with fail
 have HSI:=Hy hs0
 clear hs0
 generalize (w.alloc (.cells #[Value.int .i64 0,.string ⟨#[]⟩,.slice none 0 0,Z8,Z8,Z8,Z8,Z8,Z8,Z8,Z8,Z8,Z8,Z8,Z8,Z8,Z8,Z8,Z8,Z8,Z8,Z8,Z8,Z8,Z8,Z8,Z8,Z8,Z8,Z8,Z8,Z8,Z8,Z8,Z8,.slice none 0 0,Value.float FloatKind.f64 0,.string ⟨#[]⟩] 49)) = w0 at *
 go_upto_region 2 with (refine wpList_store_whole rfl 49 _ _ rfl w0.heap.size (encO none 0 none 0 ⟨k,[],[],noC⟩).toArray rfl rfl 49 _ (Whole.made w0 _ _) HS0.out HZ0.out HA0.out ?_; intro w1 hWn hGn; have HW1:=Hy hWn; have HG1:=Hy hGn; clear hWn hGn)
 have HR1:=Hy ((HW0.out.past (.cells #[Value.int .i64 0,.string ⟨#[]⟩,.slice none 0 0,Z8,Z8,Z8,Z8,Z8,Z8,Z8,Z8,Z8,Z8,Z8,Z8,Z8,Z8,Z8,Z8,Z8,Z8,Z8,Z8,Z8,Z8,Z8,Z8,Z8,Z8,Z8,Z8,Z8,Z8,Z8,Z8,.slice none 0 0,Value.float FloatKind.f64 0,.string ⟨#[]⟩] 49)).grown HG1.out (fun e=>by injection e with e; have:=HSI.out; omega))
 have HB1:=Hy (be_grown (HB0.out.alloc HB0.out.size (.cells #[Value.int .i64 0,.string ⟨#[]⟩,.slice none 0 0,Z8,Z8,Z8,Z8,Z8,Z8,Z8,Z8,Z8,Z8,Z8,Z8,Z8,Z8,Z8,Z8,Z8,Z8,Z8,Z8,Z8,Z8,Z8,Z8,Z8,Z8,Z8,Z8,Z8,Z8,Z8,Z8,.slice none 0 0,Value.float FloatKind.f64 0,.string ⟨#[]⟩] 49)) HG1.out (by have:=HB0.out.size; simp; omega) (fun j hj=>by injection hj with hj; have:=HSI.out; omega))
 have hlt1:w0.heap.size < w1.heap.size:=HW1.out.lt
 have hlt0:w.heap.size < w0.heap.size:=by have:=HSI.out; omega
 have hzb:=zO_build
 have HXS:=Hy (infoO_s none 0 none 0 zO)
 have HAX:=Hy (encO_all none 0 none 0 zO)
 go_wp2_with (refine wpList_store_whole rfl 49 _ _ rfl w.heap.size (encO none 0 none 0 zO).toArray rfl rfl 49 _ HR1.out HXS.out rfl HAX.out ?_; intro w9 hWn hGn; have HW9:=Hy hWn; have HG9:=Hy hGn; clear hWn hGn)
 have HB9:=Hy (be_grown HB1.out HG9.out HB1.out.size (fun j hj=>by injection hj with hj; omega))
 refine bodyPost_ret (v:=.tuple #[.agg (encO none 0 none 0 zO).toArray,.int .i64 1]) (results_orow rfl _ _ _ w.heap.size _ _ rfl rfl HW9.out HXS.out) rfl ⟨⟨none,0,none,0,by rw [HGO.out],by rw [HGO.out]; exact argO_zero 0 [] w9,Own2.nil _ _,Own2.nil _ _⟩,HB9.out⟩
theorem ogetP_any (k:Int) (s:List UInt8) (w:World) (hl:s.length ≤ 1048576) :
  Calls Tryz.prog 149 #[.int .i64 k,.string ⟨s.toArray⟩] w fun e w'=>(∃ A c A2 c2,e = .returned (.tuple #[.agg (encO A c A2 c2 (getOb k s).1).toArray,.int .i64 (getOb k s).2]) ∧ ArgO w' A c A2 c2 (getOb k s).1 ∧ Own2 w.heap.size w' A ∧ Own2 w.heap.size w' A2) ∧ Below w.heap.size w w':=by
 by_cases h1:k = 1
 ·exact ogetO_1 k s w hl h1
 by_cases h2:k = 2
 ·exact ogetO_2 k s w hl h1 h2
 by_cases h3:k = 3
 ·exact ogetO_3 k s w hl h1 h2 h3
 exact ogetO_4 k s w hl h1 h2 h3
theorem ogetO_any (k:Int) (s:List UInt8) (w:World) (hl:s.length ≤ 1048576) :
  Calls Tryz.prog 149 #[.int .i64 k,.string ⟨s.toArray⟩] w fun e w'=>(∃ A c A2 c2,e = .returned (.tuple #[.agg (encO A c A2 c2 (getOb k s).1).toArray,.int .i64 (getOb k s).2]) ∧ ArgO w' A c A2 c2 (getOb k s).1) ∧ Below w.heap.size w w':=by
 refine (ogetP_any k s w hl).mono ?_
 rintro e w' ⟨⟨A,c,A2,c2,h1,h2,-⟩,hb⟩
 exact ⟨⟨A,c,A2,c2,h1,h2⟩,hb⟩
structure Obx where
 A:Option Addr
 c:Nat
 A2:Option Addr
 c2:Nat
 x:Ob
instance:Inhabited Obx:=⟨⟨none,0,none,0,zO⟩⟩
def encX (p:Obx):List Value:=encO p.A p.c p.A2 p.c2 p.x
def HasX (w:World) (p:Obx):Prop:=ArgO w p.A p.c p.A2 p.c2 p.x
theorem encX_len (p:Obx):(encX p).length = 38:=encO_len _ _ _ _ _
theorem encX_size (p:Obx):(encX p).toArray.size = 38:=encO_s _ _ _ _ _
theorem encX_all (p:Obx):(encX p).toArray.all (·.oneCell') = true:=encO_all _ _ _ _ _
theorem infoOx (p:Obx):(Tryz.prog.info? 49).map (·.size) = some (encX p).length:=by rw [encX_len]; exact infoO
theorem infoOx_s (p:Obx):(Tryz.prog.info? 49).map (·.size) = some (encX p).toArray.size:=infoO_s _ _ _ _ _
theorem encX_0 (p:Obx):(encX p).toArray[0]? = some (.int .i64 p.x.kind):=rfl
theorem eltX:Elt 49 35 38 encX default where
 len:=encX_len
 one:=fun p=>encO_one _ _ _ _ _
 pos:=by decide
 small:=by decide
 und:=Tryz.underlying35
 info:=by
  have h:(Tryz.prog.info? 49).map (fun i=>(i.zero,i.size,decide (i.bytes ≤ 4096))) = some (some (.agg (encX default).toArray),38,true):=by kernel_rfl
  cases hq:Tryz.prog.info? 49 with
  | none=>rw [hq] at h; cases h
  | some i=>
   rw [hq] at h
   simp only [Option.map_some,Option.some.injEq,Prod.mk.injEq,decide_eq_true_eq] at h
   exact ⟨i,rfl,h.1,h.2.1,h.2.2⟩
 szo:=Tryz.sizeOf49
 zero:=fun w=>by kernel_rfl
def itO (x:Ob):It:=⟨x.kind.toNat,0,default,bytesO x⟩
theorem itO_ok {x:Ob} (h:mayO' x = true) (hl:(bytesO x).length ≤ 100000) (a:Nat):okI (itO x) a ∧ x.kind = ((itO x).kind:Int):=by
 have hk:x.kind = 1 ∨ x.kind = 2 ∨ x.kind = 3:=by
  unfold mayO' at h
  rw [Bool.and_eq_true] at h
  have hb:=h.1
  unfold bodyO at hb
  by_cases h1:x.kind = 1
  ·exact .inl h1
  by_cases h2:x.kind = 2
  ·exact .inr (.inl h2)
  by_cases h3:x.kind = 3
  ·exact .inr (.inr h3)
  rw [if_neg h1,if_neg h2,if_neg h3] at hb
  cases hb
 refine ⟨⟨hl,.inl ⟨?_,rfl,rfl⟩⟩,?_⟩
 ·show wholeK x.kind.toNat
  unfold wholeK
  omega
 ·show x.kind = (x.kind.toNat:Int)
  omega
theorem flatIO_snoc (xs:List Obx) (k:Nat) (h:k < xs.length):((xs.take (k + 1)).map fun p=>itO p.x).flatMap encI = ((xs.take k).map (fun p=>itO p.x) ++ [itO (xs.getD k default).x]).flatMap encI:=by
 rw [List.take_succ_eq_append_getElem h,List.map_append]
 simp [List.getD,List.getElem?_eq_getElem h]
theorem pof_any (A:Option Addr) (c:Nat) (xs:List Obx) (w:World) (hTab:Tabs w) (hA:ArgG encX default 38 w A c xs) (hH:∀ p ∈ xs,HasX w p) (hM:∀ p ∈ xs,mayO' p.x = true ∧ (bytesO p.x).length ≤ 100000 ∧ p.x.commit.time < 18446744073709551616 ∧ p.x.entries.length ≤ 1048576) (hn:xs.length ≤ 200) :
  Calls Tryz.prog 30 #[.slice A xs.length c] w fun e w'=>e = .returned (.tuple #[.string ⟨(encP (xs.map fun p=>itO p.x)).toArray⟩,.bool true]) ∧ Below w.heap.size w w':=by
 have HA:=Hy hA
 have hl1:=hTab.lt1
 have hl2:=hTab.lt2
 have HT:=Hy hTab
 have HX:Hid (∀ k,k < xs.length → HasX w (xs.getD k default) ∧ (mayO' (xs.getD k default).x = true ∧ (bytesO (xs.getD k default).x).length ≤ 100000 ∧ (xs.getD k default).x.commit.time < 18446744073709551616 ∧ (xs.getD k default).x.entries.length ≤ 1048576)):=fun k hk=>by
  have:xs.getD k default = xs[k]:=by simp [List.getD,List.getElem?_eq_getElem hk]
  rw [this]
  exact ⟨hH _ (List.getElem_mem hk),hM _ (List.getElem_mem hk)⟩
 have HOKP:Hid (okP (xs.map fun p=>itO p.x)):=by
  refine ⟨by rw [List.length_map]; exact hn,fun i hi=>?_⟩
  rw [List.length_map] at hi
  have:(xs.map fun p=>itO p.x).getD i default = itO (xs[i]).x:=by simp [List.getD,List.getElem?_eq_getElem hi]
  rw [this]
  have h9:=hM _ (List.getElem_mem hi)
  exact (itO_ok h9.1 h9.2.1 i).1
 have hlc:=hA.1
 clear hA hH hM hTab
 go_enter Tryz.func30,Tryz.ntmps30
 go_wp2
 go_loopg [4,7,8,11] xs.length (fun g s4 _ _ s11 wr=>∃ (k:Nat) (A9:Option Addr) (c9:Nat),s4 = .slice A9 k c9 ∧ k ≤ xs.length ∧ xs.length - k ≤ g ∧ s11 = .int .i64 k ∧ wr.ownsRow w.heap.size 34 35 (.slice A9 k c9) k (((xs.take k).map fun p=>itO p.x).flatMap encI) ∧ Hid (Below w.heap.size w wr))
 case atStart=>exact ⟨0,none,0,rfl,Nat.zero_le _,by omega,rfl,by simpa using World.ownsRow_nil _ _ _ _,Hy (Below.refl _ _)⟩
 case round=>
  obtain ⟨k,A9,c9,rfl,hk,hg,rfl,hown,hwr⟩:=hrel
  by_cases hlt:k < xs.length
  ·have hlt':(k:Int) < (xs.length:Int):=by omega
   obtain ⟨bb,o,rfl,hr⟩:=(HA.out.later eltX hwr.out).2.2.2 (by omega)
   have hoy:=HX.out k hlt
   have hrk:=hr k hlt
   have hfs:=flatIO_snoc xs k hlt
   obtain ⟨y,hy⟩:∃ y,y = xs.getD k default:=⟨_,rfl⟩
   rw [← hy] at hoy hrk hfs
   have hik:=itO_ok hoy.2.1 hoy.2.2.1 k
   have HRK:=Hy hrk
   have HFS:=Hy hfs
   have HPUT:Hid (∀ W,Below w.heap.size w W → Calls Tryz.prog 73 #[.agg (encX y).toArray] W fun e w'=>e = .returned (.tuple #[.string ⟨(itO y.x).body.toArray⟩,.bool true]) ∧ Below W.heap.size W w'):=fun W hW=>by
    have:=oput_any y.A y.c y.A2 y.c2 y.x W (hoy.1.later hW) hoy.2.2.2.1 hoy.2.2.2.2
    rw [if_pos hoy.2.1,hoy.2.1] at this
    exact this
   have HK0:Hid ((encX y).toArray[0]? = some (.int .i64 ((itO y.x).kind:Int))):=by show _ = _; rw [← hik.2]; exact encX_0 y
   have hktl:((xs.take k).map fun p=>itO p.x).length = k:=by rw [List.length_map,List.length_take]; omega
   have hown0:wr.ownsRow w.heap.size 34 35 (.slice A9 k c9) ((xs.take k).map fun p=>itO p.x).length (((xs.take k).map fun p=>itO p.x).flatMap encI):=by rw [hktl]; exact hown
   have HKT:=Hy hktl
   have HOW0:=Hy hown0
   have HYB:Hid ((itO y.x).back = 0 ∧ (itO y.x).base = default):=⟨rfl,rfl⟩
   clear hr hrk hy hoy hik hfs hown hown0 hktl
   generalize itO y.x = z at *
   go_upto_region 5 with (first
    | (refine wpList_load_mid rfl 49 _ rfl bb (o + k * 38) rfl (encX y) _ HRK.out Tryz.underlying49 rfl (infoOx y) ?_)
    | (refine wpList_store_whole rfl 49 _ _ rfl wr.heap.size (encX y).toArray rfl rfl 49 _ (Whole.made wr _ _) (infoOx_s y) (by rw [encX_size]; rfl) (encX_all y) ?_; intro w3 hWn hGn; have HW3:=Hy hWn; have D3:=Hy (made_below' hGn); clear hWn hGn))
   have HB3:=Hy (hTr hwr D3.out)
   have HOW3:=Hy (own_later HOW0.out D3.out)
   have hs3:=D3.out.size
   clear hwr D3 HOW0
   go_wp2_with (refine wpList_load_row rfl 49 _ rfl wr.heap.size rfl 49 (encX y).toArray (0,0) _ HW3.out Tryz.underlying49 rfl (infoOx_s y) ?_)
   refine (HPUT.out w3 HB3.out).mono ?_
   rintro e w4 ⟨rfl,hb4⟩
   have HB4:=Hy (hTr HB3 hb4)
   have HOW4:=Hy (own_later HOW3.out hb4)
   have HW4:=Hy (HW3.out.below hb4 HW3.out.lt)
   have hc0:w4.cell? ⟨wr.heap.size,0,none⟩ = some (.int .i64 (z.kind:Int)):=(HW4.out.at_ 0).trans HK0.out
   have HONE:Hid (ArgG encI default 35 (w4.alloc (.cells (encI z).toArray 34)) (some ⟨w4.heap.size,0,none⟩) 1 [z]):=argG_one (Whole.made w4 34 (encI z).toArray)
   have hz4:w.heap.size ≤ w4.heap.size:=HB4.out.size
   have HZ5:Hid (w.heap.size ≤ (w4.alloc (.cells (encI z).toArray 34)).heap.size):=by show _ ≤ _; simp; omega
   have HLL:Hid (((xs.take k).map fun p=>itO p.x).length + [z].length ≤ 10000000):=by show _ ≤ _; rw [HKT.out]; simp; omega
   have HB5:=Hy (HB4.out.alloc HB4.out.size (.cells (encI z).toArray 34))
   have HZE:Hid (Value.agg #[.int .i64 (z.kind:Int),.int .i64 0,Z8,Z8,Z8,Z8,Z8,Z8,Z8,Z8,Z8,Z8,Z8,Z8,Z8,Z8,Z8,Z8,Z8,Z8,Z8,Z8,Z8,Z8,Z8,Z8,Z8,Z8,Z8,Z8,Z8,Z8,Z8,Z8,.string ⟨z.body.toArray⟩] = .agg (encI z).toArray):=by
    obtain ⟨k9,b9,n9,s9⟩:=z
    obtain ⟨h1,h2⟩:=HYB.out
    dsimp only at h1 h2
    subst h1
    subst h2
    rfl
   have HOW5:Hid ((w4.alloc (.cells (encI z).toArray 34)).ownsRow w.heap.size 34 35 (.slice A9 k c9) ((xs.take k).map fun p=>itO p.x).length (((xs.take k).map fun p=>itO p.x).flatMap encI)):=own_later HOW4.out ((Below.refl w4.heap.size w4).alloc (Nat.le_refl _) _)
   clear hb4 HB3 HOW3 HW3 HPUT
   go_wp2_with (first
    | (refine wpList_buildG eltI rfl _ rfl z HZE.out ?_)
    | (at_builtin; go_loud (refine wpList_appendG eltI rfl _ _ rfl w.heap.size (.slice A9 k c9) ((xs.take k).map fun p=>itO p.x) rfl ?_ (some ⟨w4.heap.size,0,none⟩) 1 1 [z] rfl rfl HONE.out HZ5.out HLL.out ?_; exact HOW5.out; intro v' w6 hown' hb6' hgr6; have HOW6:=Hy hown'; have HB6:=Hy (HB5.out.trans hb6'); clear hown' hb6' hgr6)))
   have how6:=HOW6.out
   have hkk:((xs.take k).map (fun p=>itO p.x) ++ [z]).length = k + 1:=by rw [List.length_append,HKT.out,List.length_singleton]
   rw [← HFS.out,hkk] at how6
   obtain ⟨g6,c6,rfl⟩:=Go.Joins.ownsRow_form how6 (by omega)
   have HOW7:=Hy how6
   clear how6 HOW6 HB5
   go_roundg (xs.length - (k + 1))
   case measure=>omega
   case rel=>exact ⟨k + 1,_,_,rfl,by omega,Nat.le_refl _,by go_num,HOW7.out,HB6⟩
  ·obtain rfl:k = xs.length:=by omega
   rw [List.take_length] at hown
   have hml:(xs.map fun p=>itO p.x).length = xs.length:=List.length_map ..
   rw [← hml] at hown
   obtain ⟨A8,c8,he8,har,-,-⟩:=own_argG eltI hown
   injection he8 with e1 e2 e3
   subst e1
   subst e3
   have HPP:Hid (Calls Tryz.prog 19 #[.slice A9 xs.length c9] wr fun e w'=>e = .returned (.tuple #[.string ⟨(encP (xs.map fun p=>itO p.x)).toArray⟩,.bool true]) ∧ Below wr.heap.size wr w'):=by
    have:=pput_any A9 c9 (xs.map fun p=>itO p.x) wr (HT.out.below hwr.out hl1 hl2) har HOKP.out
    rw [hml] at this
    exact this
   clear hown har hml
   go_wp2_with fail
   refine HPP.out.mono ?_
   rintro e w9 ⟨rfl,hb9⟩
   have HB9:=Hy (hTr hwr hb9)
   clear hb9
   go_wp2
   go_ret2
   exact ⟨rfl,HB9.out⟩
def plc (os:List Ob):Nat → Nm → Option Nat
 | 0,_=>none
 | k + 1,x=>if mayO' (os.getD k zO) = true ∧ idO (os.getD k zO) = x then some k else plc os k x
theorem plc_succ (os:List Ob) (k:Nat) (x:Nm):plc os (k + 1) x = if mayO' (os.getD k zO) = true ∧ idO (os.getD k zO) = x then some k else plc os k x:=rfl
theorem plc_lt (os:List Ob):∀ (k:Nat) (x:Nm) (i:Nat),plc os k x = some i → i < k ∧ mayO' (os.getD i zO) = true ∧ idO (os.getD i zO) = x
 | 0,_,_,h=>by cases h
 | k + 1,x,i,h=>by
  rw [plc_succ] at h
  split at h
  ·rename_i hc
   injection h with h
   subst h
   exact ⟨Nat.lt_succ_self _,hc⟩
  ·obtain ⟨h1,h2⟩:=plc_lt os k x i h
   exact ⟨Nat.lt_succ_of_lt h1,h2⟩
def heldV (os:List Ob) (x:Nm):Int × List UInt8 × Bool:=
 match plc os os.length x with
 | some i=>((os.getD i zO).kind,bytesO (os.getD i zO),true)
 | none=>(0,[],false)
structure Stp where
 place:Nat
 kind:Int
 base:List UInt8
instance:Inhabited Stp:=⟨⟨0,0,[]⟩⟩
structure Mk where
 objs:List Ob
 made:Nat
 dead:List Nm
abbrev Dlt:=Nat × List Ct
def okD (x:It) (d:Dlt):Prop:=x.body = encD d.1 d.2 ∧ (∀ c ∈ d.2,okC d.1 c) ∧ d.1 ≤ 1000000 ∧ sumC d.2 ≤ 1000000
def isBack (its:List It) (j i:Nat):Bool:=decide ((its.getD i default).kind = 6) && decide (1 ≤ (its.getD i default).back) && decide ((its.getD i default).back ≤ i) && decide (i - (its.getD i default).back = j)
def isName (its:List It) (x:Nm) (i:Nat):Bool:=decide ((its.getD i default).kind = 7) && decide ((its.getD i default).base = x)
def backsTo (its:List It) (k j:Nat):List Nat:=(List.range k).filter (isBack its j)
def namesTo (its:List It) (k:Nat) (x:Nm):List Nat:=(List.range k).filter (isName its x)
theorem backsTo_succ (its:List It) (k j:Nat):backsTo its (k + 1) j = if isBack its j k then backsTo its k j ++ [k] else backsTo its k j:=by
 unfold backsTo
 rw [List.range_succ,List.filter_append]
 by_cases h:isBack its j k
 ·simp [h]
 ·simp [h]
theorem namesTo_succ (its:List It) (k:Nat) (x:Nm):namesTo its (k + 1) x = if isName its x k then namesTo its k x ++ [k] else namesTo its k x:=by
 unfold namesTo
 rw [List.range_succ,List.filter_append]
 by_cases h:isName its x k
 ·simp [h]
 ·simp [h]
theorem backsTo_le (its:List It) (k j:Nat):(backsTo its k j).length ≤ k:=by
 have:=List.length_filter_le (isBack its j) (List.range k)
 rwa [List.length_range] at this
theorem namesTo_le (its:List It) (k:Nat) (x:Nm):(namesTo its k x).length ≤ k:=by
 have:=List.length_filter_le (isName its x) (List.range k)
 rwa [List.length_range] at this
def waits (its:List It) (dead:List Nm) (x:Nm):List Nat:=if x ∈ dead then [] else namesTo its its.length x
theorem waits_le (its:List It) (dead:List Nm) (x:Nm):(waits its dead x).length ≤ its.length:=by
 unfold waits
 split
 ·exact Nat.zero_le _
 ·exact namesTo_le _ _ _
theorem waits_cons (its:List It) (dead:List Nm) (y x:Nm):waits its (y :: dead) x = if x = y then [] else waits its dead x:=by
 unfold waits
 by_cases h:x = y
 ·simp [h]
 ·simp [h]
def takeV (its:List It) (ds:Nat → Dlt) (s:Stp):List UInt8 × Int:=
 if wholeK (its.getD s.place default).kind then ((its.getD s.place default).body,(getOb s.kind (its.getD s.place default).body).2)
 else if s.base.length = (ds s.place).1 then (applyC s.base (ds s.place).2,(getOb s.kind (applyC s.base (ds s.place).2)).2)
 else ([],1)
def stepsV (l:List Nat) (k:Int) (b:List UInt8):List Stp:=l.map fun p=>⟨p,k,b⟩
def roundGo (its:List It) (ds:Nat → Dlt):List Stp → Mk → List Stp → Int × Mk × List Stp
 | [],mk,acc=>(0,mk,acc)
 | s :: r,mk,acc=>
  if (takeV its ds s).2 = 0 then
   roundGo its ds r ⟨mk.objs.set s.place (getOb s.kind (takeV its ds s).1).1,mk.made + 1,idO (getOb s.kind (takeV its ds s).1).1 :: mk.dead⟩
    (acc ++ stepsV (backsTo its its.length s.place ++ waits its mk.dead (idO (getOb s.kind (takeV its ds s).1).1)) s.kind (takeV its ds s).1)
  else ((takeV its ds s).2,mk,acc)
def wholesV (its:List It) (k:Nat):List Stp:=((List.range k).filter fun i=>decide (wholeK (its.getD i default).kind)).map fun i=>⟨i,((its.getD i default).kind:Int),[]⟩
theorem wholesV_succ (its:List It) (k:Nat):wholesV its (k + 1) = if wholeK (its.getD k default).kind then wholesV its k ++ [⟨k,((its.getD k default).kind:Int),[]⟩] else wholesV its k:=by
 unfold wholesV
 rw [List.range_succ,List.filter_append,List.map_append,List.filter_cons,List.filter_nil]
 by_cases h:wholeK (its.getD k default).kind
 ·rw [if_pos h,if_pos (decide_eq_true h)]
  rfl
 ·rw [if_neg h,if_neg (by rw [decide_eq_false h]; decide),List.map_nil,List.append_nil]
theorem wholesV_le (its:List It) (k:Nat):(wholesV its k).length ≤ k:=by
 unfold wholesV
 rw [List.length_map]
 have:=List.length_filter_le (fun i=>decide (wholeK (its.getD i default).kind)) (List.range k)
 rwa [List.length_range] at this
def leanGo (its:List It) (hV:Nm → Int × List UInt8 × Bool) (dead:List Nm):Nat → List Nm × List Stp
 | 0=>(dead,[])
 | k + 1=>
  let p:=leanGo its hV dead k
  let x:=(its.getD k default).base
  if (waits its p.1 x).head? = some k ∧ (hV x).2.2 = true then (x :: p.1,p.2 ++ stepsV (waits its p.1 x) (hV x).1 (hV x).2.1) else p
def leanV (its:List It) (hV:Option (Nm → Int × List UInt8 × Bool)) (dead:List Nm):List Nm × List Stp:=
 match hV with
 | none=>(dead,[])
 | some f=>leanGo its f dead its.length
def okSteps (its:List It) (l:List Stp):Prop:=l.length ≤ 1000 ∧ (l.map Stp.place).Nodup ∧ ∀ s ∈ l,s.place < its.length ∧ s.base.length ≤ 1000000
instance (its:List It) (l:List Stp):Decidable (okSteps its l):=by unfold okSteps; exact inferInstance
def sortS (l:List Stp):List Stp:=l.mergeSort fun a b=>decide (a.place ≤ b.place)
def roundsGo (its:List It) (ds:Nat → Dlt):Nat → Nat → Mk → List Stp → Option (Int × Nat × Mk)
 | 0,last,mk,l=>if l = [] then some (0,last,mk) else none
 | f + 1,last,mk,l=>
  if l = [] then some (0,last,mk)
  else if okSteps its l then
   (if (roundGo its ds (sortS l) mk []).1 = 0 then roundsGo its ds f (last + 1) (roundGo its ds (sortS l) mk []).2.1 (roundGo its ds (sortS l) mk []).2.2
   else some ((roundGo its ds (sortS l) mk []).1,0,(roundGo its ds (sortS l) mk []).2.1))
  else none
def mk0 (its:List It):Mk:=⟨List.replicate its.length zO,0,[]⟩
theorem sortS_mem (l:List Stp) (s:Stp):s ∈ sortS l ↔ s ∈ l:=by
 unfold sortS
 exact List.mem_mergeSort
theorem sortS_len (l:List Stp):(sortS l).length = l.length:=by
 unfold sortS
 exact List.length_mergeSort _
end Go.Proofs.YtlfmooihcigolaaGreatDoor

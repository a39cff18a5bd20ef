/-
  PacC, PacD, PacE.
-/
import Derived.Test.YtlfmooihcigolaaGreatDoorMas
import Derived.Test.YtlfmooihcigolaaGreatDoorMar
set_option maxRecDepth 100000
set_option maxHeartbeats 8000000
namespace Go.Proofs.YtlfmooihcigolaaGreatDoor
open Go.RowKit
theorem whole_setCellsT {g:Nat} {t:TypeId}:∀ (vs:List Value) (o:Nat) (w:World) (cs:Array Value),Whole w g t cs → o + vs.length ≤ cs.size → Whole (w.setCells g o vs) g t (cs.toList.take o ++ (vs ++ cs.toList.drop (o + vs.length))).toArray
 | [],o,w,cs,h,hs=>by
  rw [List.nil_append,List.length_nil,Nat.add_zero,List.take_append_drop]
  simpa [World.setCells] using h
 | v :: r,o,w,cs,h,hs=>by
  rw [World.setCells]
  have h1:=whole_setCellsT r (o + 1) _ _ (h.put o v) (by simp at hs ⊢; omega)
  have ho:o < cs.toList.length:=by simp at hs ⊢; omega
  have e:(cs.setIfInBounds o v).toList.take (o + 1) ++ (r ++ (cs.setIfInBounds o v).toList.drop (o + 1 + r.length)) = cs.toList.take o ++ (v :: r ++ cs.toList.drop (o + (v :: r).length)):=by
   rw [Array.toList_setIfInBounds,List.take_set,List.take_succ_eq_append_getElem ho,List.set_append_right _ _ (by simp; omega),List.drop_set_of_lt (by omega)]
   have:o - (cs.toList.take o).length = 0:=by simp; omega
   rw [this,List.length_cons,show o + 1 + r.length = o + (r.length + 1) by omega]
   simp
  rw [e] at h1
  exact h1
theorem encI_set1 (k a b:Nat) (x:Nm) (s:List UInt8):(encI ⟨k,a,x,s⟩).toArray.setIfInBounds 1 (.int .i64 (b:Int)) = (encI ⟨k,b,x,s⟩).toArray:=by
 apply Array.ext'
 rw [Array.toList_setIfInBounds]
 rfl
theorem encI_set34 (k a:Nat) (x:Nm) (s t:List UInt8):(encI ⟨k,a,x,s⟩).toArray.setIfInBounds 34 (.string ⟨t.toArray⟩) = (encI ⟨k,a,x,t⟩).toArray:=by
 apply Array.ext'
 rw [Array.toList_setIfInBounds]
 show (encI ⟨k,a,x,s⟩).set 34 _ = encI ⟨k,a,x,t⟩
 unfold encI
 rw [List.set_append_right _ _ (by simp [encN_len])]
 simp [encN_len]
theorem encI_setbase (k a:Nat) (x y:Nm) (s:List UInt8):((encI ⟨k,a,x,s⟩).toArray.toList.take 2 ++ ((encN y).toArray.toList ++ (encI ⟨k,a,x,s⟩).toArray.toList.drop (2 + (encN y).toArray.toList.length))).toArray = (encI ⟨k,a,y,s⟩).toArray:=by
 congr 1
 show (encI ⟨k,a,x,s⟩).take 2 ++ (encN y ++ (encI ⟨k,a,x,s⟩).drop (2 + (encN y).length)) = _
 rw [encN_len]
 unfold encI
 rw [List.append_assoc,List.take_append_of_le_length (by simp),List.drop_append,List.drop_append]
 simp [encN_len]
theorem zI_lit:(#[.int .i64 0,.int .i64 0,Z8,Z8,Z8,Z8,Z8,Z8,Z8,Z8,Z8,Z8,Z8,Z8,Z8,Z8,Z8,Z8,Z8,Z8,Z8,Z8,Z8,Z8,Z8,Z8,Z8,Z8,Z8,Z8,Z8,Z8,Z8,Z8,.string ⟨#[]⟩]:Array Value) = (encI default).toArray:=rfl
theorem preaditem_any (x:It) (a b:Nat) (u:List UInt8) (w:World) (hok:okI x a) (ha:a ≤ 200) (h:Rd w b (bytesI x ++ u)) :
  Calls Tryz.prog 107 #[.pointer (some ⟨b,0,none⟩),.int .i64 (a:Int)] w fun e w'=>e = .returned (.agg (encI x).toArray) ∧ Alt (· = b) w w' ∧ Rd w' b u:=by
 have hbl:=h.lt
 have hgb:w.heap.size ≠ b:=by omega
 have hbd9:=hok.1
 have HR0:=Hy (Whole.past h (.cells (encI default).toArray 34))
 have HZ0:=Hy (Whole.made w 34 (encI default).toArray)
 have HA0:=Hy ((Alt.refl (· = b) w).alloc (.cells (encI default).toArray 34))
 have hz0:(w.alloc (.cells (encI default).toArray 34)).heap.size = w.heap.size + 1:=by simp
 clear h
 have HGH:=Hy fun v W (h:Rd W b (headV x.kind x.body.length ++ v))=>vgethead_any b x.kind x.body.length hok.kinds (by omega) v W h
 have HBS:Hid (∀ W,Rd W b (x.body ++ u) → Calls Tryz.prog 106 #[.pointer (some ⟨b,0,none⟩),.int .i64 (x.body.length:Int)] W fun e w'=>∃ g c,e = .returned (.slice (some ⟨g,0,none⟩) x.body.length c) ∧ Row w' (some ⟨g,0,none⟩) c x.body ∧ Alt (· = b) W w' ∧ Rd w' b u ∧ W.heap.size ≤ g):=fun W h=>by
  have:=rbytes_some b (x.body ++ u) x.body.length W h (by simp) (by omega)
  rw [List.take_left,List.drop_left] at this
  exact this
 have k100:decide ((x.body.length:Int) ≤ 100000) = true:=decide_eq_true (by omega)
 have hk:=hok.2
 have hbI:bytesI x ++ u = headV x.kind x.body.length ++ (midI x ++ (x.body ++ u)):=by unfold bytesI; simp [List.append_assoc]
 rw [hbI] at HR0
 have hMI:midI x = if x.kind = 6 then numV x.back else if x.kind = 7 then x.base.l else []:=rfl
 clear hbI hok
 obtain ⟨k,bk,bs,bd⟩:=x
 dsimp only at *
 rcases hk with ⟨h1,h2,h3⟩ | ⟨h1,h2,h3,h4⟩ | ⟨h1,h2⟩
 ·have k6:((k:Int) == 6) = false:=by unfold wholeK at h1; simp; omega
  have k7:((k:Int) == 7) = false:=by unfold wholeK at h1; simp; omega
  rw [if_neg (by unfold wholeK at h1; omega),if_neg (by unfold wholeK at h1; omega)] at hMI
  rw [hMI,List.nil_append] at HR0
  subst h2
  subst h3
  clear h1 hMI
  go_enter Tryz.func107,Tryz.ntmps107
  go_upto_region 1 with fail
  try rw [zI_lit]
  generalize w.alloc (.cells (encI default).toArray 34) = w0 at *
  go_wp2_with fail
  refine (HGH.out _ w0 HR0.out).mono ?_
  rintro e w1 ⟨rfl,ha1,hr1⟩
  have HA1:=Hy (HA0.out.trans ha1)
  have HZ1:=Hy (HZ0.out.alt ha1 hgb)
  have HR1:=Hy hr1
  have hs1:=HZ1.out.lt
  have hb1:=HR1.out.lt
  clear ha1 hr1 HA0 HZ0 HR0 HGH
  go_wp2_with (first
   | (go_at_call 78; refine (must_yes _ _).mono ?_; rintro e w' ⟨rfl,rfl⟩)
   | (refine wpList_store_whole rfl 34 _ _ rfl w1.heap.size (encI ⟨k,0,default,[]⟩).toArray rfl rfl 34 _ (Whole.made w1 _ _) (infoI_s _) (by rw [encI_size]; rfl) (encI_all _) ?_; intro w3 hWn hGn; have HI3:=Hy hWn; have D3:=Hy (made_below' hGn); clear hWn hGn))
  have HA3:=Hy (HA1.out.below D3.out)
  have HZ3:=Hy (HZ1.out.below D3.out hs1)
  have HR3:=Hy (HR1.out.below D3.out hb1)
  clear D3 HA1 HZ1 HR1
  refine (HBS.out _ HR3.out).mono ?_
  rintro e w8 ⟨g8,c8,rfl,hrow,ha8,hr8,-⟩
  have hcv:=bytes_str (P:=Tryz.prog) 63 9 5 Tryz.underlying63 Tryz.underlying5 Tryz.underlying9 hrow.bytes
  have HA8:=Hy (HA3.out.trans ha8)
  have HZ8:=Hy (HZ3.out.alt ha8 hgb)
  have HI8:=Hy (HI3.out.alt ha8 (by omega))
  have HR8:=Hy hr8
  have c34:w8.cell? ⟨w1.heap.size,34,none⟩ = some (.string ⟨#[]⟩):=(HI8.out.at_ 34).trans (encI_34 ⟨k,0,default,[]⟩)
  have f34:=HI8.out.thawed 34
  have HA9:=Hy (HA8.out.set (p:=⟨w1.heap.size,34,none⟩) (.inr (by simp; omega)) (.string ⟨bd.toArray⟩))
  have HZ9:=Hy (HZ8.out.aside (p:=⟨w1.heap.size,34,none⟩) (by simp; omega) (.string ⟨bd.toArray⟩))
  have HI9:Hid (Whole (w8.setCell ⟨w1.heap.size,34,none⟩ (.string ⟨bd.toArray⟩)) w1.heap.size 34 (encI ⟨k,0,default,bd⟩).toArray):=by
   have h9:=HI8.out.put 34 (.string ⟨bd.toArray⟩)
   rw [encI_set34] at h9
   exact h9
  have HR9:=Hy (Whole.aside HR8.out (p:=⟨w1.heap.size,34,none⟩) (by simp; omega) (.string ⟨bd.toArray⟩))
  clear ha8 hr8 hrow HA8 HZ8 HI8 HR8 HA3 HZ3 HI3 HR3 HBS
  go_upto_region 11 with fail
  generalize w8.setCell ⟨w1.heap.size,34,none⟩ (.string ⟨bd.toArray⟩) = w9 at *
  clear c34 f34 hcv
  go_wp2_with (first
   | (refine wpList_load_row rfl 34 _ rfl w1.heap.size rfl 34 (encI ⟨k,0,default,bd⟩).toArray (0,0) _ HI9.out Tryz.underlying34 rfl (infoI_s _) ?_)
   | (refine wpList_store_whole rfl 34 _ _ rfl w.heap.size (encI ⟨k,0,default,bd⟩).toArray rfl rfl 34 _ HZ9.out (infoI_s _) (by rw [encI_size,encI_size]) (encI_all _) ?_; intro w10 hWn hGn; have HW10:=Hy hWn; have HG10:=Hy hGn; clear hWn hGn))
  refine bodyPost_ret (v:=.agg (encI ⟨k,0,default,bd⟩).toArray) ?_ rfl ⟨rfl,HA9.out.grown HG10.out (fun j hj=>by injection hj with hj; exact .inl (by omega)),HR9.out.grown HG10.out (fun e=>by injection e with e; omega)⟩
  exact results_cell_row (p:=4) (ty:=34) rfl _ _ w.heap.size 34 (encI ⟨k,0,default,bd⟩).toArray (0,0) _ rfl HW10.out Tryz.underlying34 rfl (infoI_s _)
 ·subst h1
  subst h4
  rw [if_pos rfl] at hMI
  rw [hMI] at HR0
  have HVG:=Hy fun W (h:Rd W b (numV bk ++ (bd ++ u)))=>vget_any b bk (by omega) (bd ++ u) W h
  have HBK:=Hy fun W=>pback_any bk a W
  rw [decide_eq_true h2,decide_eq_true h3] at HBK
  clear hMI
  go_enter Tryz.func107,Tryz.ntmps107
  go_upto_region 1 with fail
  try rw [zI_lit]
  generalize w.alloc (.cells (encI default).toArray 34) = w0 at *
  go_wp2_with fail
  refine (HGH.out _ w0 HR0.out).mono ?_
  rintro e w1 ⟨rfl,ha1,hr1⟩
  have HA1:=Hy (HA0.out.trans ha1)
  have HZ1:=Hy (HZ0.out.alt ha1 hgb)
  have HR1:=Hy hr1
  have hs1:=HZ1.out.lt
  have hb1:=HR1.out.lt
  clear ha1 hr1 HA0 HZ0 HR0 HGH
  go_wp2_with (first
   | (go_at_call 78; refine (must_yes _ _).mono ?_; rintro e w' ⟨rfl,rfl⟩)
   | (refine wpList_store_whole rfl 34 _ _ rfl w1.heap.size (encI ⟨6,0,default,[]⟩).toArray rfl rfl 34 _ (Whole.made w1 _ _) (infoI_s _) (by rw [encI_size]; rfl) (encI_all _) ?_; intro w3 hWn hGn; have HI3:=Hy hWn; have D3:=Hy (made_below' hGn); clear hWn hGn))
  have HA3:=Hy (HA1.out.below D3.out)
  have HZ3:=Hy (HZ1.out.below D3.out hs1)
  have HR3:=Hy (HR1.out.below D3.out hb1)
  clear D3 HA1 HZ1 HR1
  refine (HVG.out _ HR3.out).mono ?_
  rintro e w4 ⟨rfl,ha4,hr4⟩
  have HA4:=Hy (HA3.out.trans ha4)
  have HZ4:=Hy (HZ3.out.alt ha4 hgb)
  have HI4:=Hy (HI3.out.alt ha4 (by omega))
  have HR4:=Hy hr4
  have c1:w4.cell? ⟨w1.heap.size,1,none⟩ = some (.int .i64 0):=(HI4.out.at_ 1).trans (encI_1 ⟨6,0,default,[]⟩)
  have f1:=HI4.out.thawed 1
  have HA5:=Hy (HA4.out.set (p:=⟨w1.heap.size,1,none⟩) (.inr (by simp; omega)) (.int .i64 (bk:Int)))
  have HZ5:=Hy (HZ4.out.aside (p:=⟨w1.heap.size,1,none⟩) (by simp; omega) (.int .i64 (bk:Int)))
  have HI5:Hid (Whole (w4.setCell ⟨w1.heap.size,1,none⟩ (.int .i64 (bk:Int))) w1.heap.size 34 (encI ⟨6,bk,default,[]⟩).toArray):=by
   have h9:=HI4.out.put 1 (.int .i64 (bk:Int))
   rw [encI_set1] at h9
   exact h9
  have HR5:=Hy (Whole.aside HR4.out (p:=⟨w1.heap.size,1,none⟩) (by simp; omega) (.int .i64 (bk:Int)))
  clear ha4 hr4 HA4 HZ4 HI4 HR4 HA3 HZ3 HI3 HR3 HVG
  go_upto_region 7 with fail
  generalize w4.setCell ⟨w1.heap.size,1,none⟩ (.int .i64 (bk:Int)) = w5 at *
  clear c1 f1
  have c1:w5.cell? ⟨w1.heap.size,1,none⟩ = some (.int .i64 (bk:Int)):=(HI5.out.at_ 1).trans (encI_1 ⟨6,bk,default,[]⟩)
  go_wp2_with (first
   | (go_at_call 103; refine (HBK.out _).mono ?_; rintro e w' ⟨rfl,rfl⟩)
   | (go_at_call 78; refine (must_yes _ _).mono ?_; rintro e w' ⟨rfl,rfl⟩))
  clear c1
  refine (HBS.out _ HR5.out).mono ?_
  rintro e w8 ⟨g8,c8,rfl,hrow,ha8,hr8,-⟩
  have hcv:=bytes_str (P:=Tryz.prog) 63 9 5 Tryz.underlying63 Tryz.underlying5 Tryz.underlying9 hrow.bytes
  have HA8:=Hy (HA5.out.trans ha8)
  have HZ8:=Hy (HZ5.out.alt ha8 hgb)
  have HI8:=Hy (HI5.out.alt ha8 (by omega))
  have HR8:=Hy hr8
  have c34:w8.cell? ⟨w1.heap.size,34,none⟩ = some (.string ⟨#[]⟩):=(HI8.out.at_ 34).trans (encI_34 ⟨6,bk,default,[]⟩)
  have f34:=HI8.out.thawed 34
  have HA9:=Hy (HA8.out.set (p:=⟨w1.heap.size,34,none⟩) (.inr (by simp; omega)) (.string ⟨bd.toArray⟩))
  have HZ9:=Hy (HZ8.out.aside (p:=⟨w1.heap.size,34,none⟩) (by simp; omega) (.string ⟨bd.toArray⟩))
  have HI9:Hid (Whole (w8.setCell ⟨w1.heap.size,34,none⟩ (.string ⟨bd.toArray⟩)) w1.heap.size 34 (encI ⟨6,bk,default,bd⟩).toArray):=by
   have h9:=HI8.out.put 34 (.string ⟨bd.toArray⟩)
   rw [encI_set34] at h9
   exact h9
  have HR9:=Hy (Whole.aside HR8.out (p:=⟨w1.heap.size,34,none⟩) (by simp; omega) (.string ⟨bd.toArray⟩))
  clear ha8 hr8 hrow HA8 HZ8 HI8 HR8 HA5 HZ5 HI5 HR5 HBS
  go_upto_region 11 with fail
  generalize w8.setCell ⟨w1.heap.size,34,none⟩ (.string ⟨bd.toArray⟩) = w9 at *
  clear c34 f34 hcv
  go_wp2_with (first
   | (refine wpList_load_row rfl 34 _ rfl w1.heap.size rfl 34 (encI ⟨6,bk,default,bd⟩).toArray (0,0) _ HI9.out Tryz.underlying34 rfl (infoI_s _) ?_)
   | (refine wpList_store_whole rfl 34 _ _ rfl w.heap.size (encI ⟨6,bk,default,bd⟩).toArray rfl rfl 34 _ HZ9.out (infoI_s _) (by rw [encI_size,encI_size]) (encI_all _) ?_; intro w10 hWn hGn; have HW10:=Hy hWn; have HG10:=Hy hGn; clear hWn hGn))
  refine bodyPost_ret (v:=.agg (encI ⟨6,bk,default,bd⟩).toArray) ?_ rfl ⟨rfl,HA9.out.grown HG10.out (fun j hj=>by injection hj with hj; exact .inl (by omega)),HR9.out.grown HG10.out (fun e=>by injection e with e; omega)⟩
  exact results_cell_row (p:=4) (ty:=34) rfl _ _ w.heap.size 34 (encI ⟨6,bk,default,bd⟩).toArray (0,0) _ rfl HW10.out Tryz.underlying34 rfl (infoI_s _)
 ·subst h1
  subst h2
  rw [if_neg (by decide),if_pos rfl] at hMI
  rw [hMI] at HR0
  have HB32:Hid (∀ W,Rd W b (bs.l ++ (bd ++ u)) → Calls Tryz.prog 106 #[.pointer (some ⟨b,0,none⟩),.int .i64 32] W fun e w'=>∃ g c,e = .returned (.slice (some ⟨g,0,none⟩) 32 c) ∧ Row w' (some ⟨g,0,none⟩) c bs.l ∧ Alt (· = b) W w' ∧ Rd w' b (bd ++ u) ∧ W.heap.size ≤ g):=fun W h=>by
   have h32:=bs.h
   have:=rbytes_some b (bs.l ++ (bd ++ u)) 32 W h (by simp; omega) (by omega)
   rw [List.take_left' h32,List.drop_left' h32] at this
   exact this
  clear hMI
  go_enter Tryz.func107,Tryz.ntmps107
  go_upto_region 1 with fail
  try rw [zI_lit]
  generalize w.alloc (.cells (encI default).toArray 34) = w0 at *
  go_wp2_with fail
  refine (HGH.out _ w0 HR0.out).mono ?_
  rintro e w1 ⟨rfl,ha1,hr1⟩
  have HA1:=Hy (HA0.out.trans ha1)
  have HZ1:=Hy (HZ0.out.alt ha1 hgb)
  have HR1:=Hy hr1
  have hs1:=HZ1.out.lt
  have hb1:=HR1.out.lt
  clear ha1 hr1 HA0 HZ0 HR0 HGH
  go_wp2_with (first
   | (go_at_call 78; refine (must_yes _ _).mono ?_; rintro e w' ⟨rfl,rfl⟩)
   | (refine wpList_store_whole rfl 34 _ _ rfl w1.heap.size (encI ⟨7,0,default,[]⟩).toArray rfl rfl 34 _ (Whole.made w1 _ _) (infoI_s _) (by rw [encI_size]; rfl) (encI_all _) ?_; intro w3 hWn hGn; have HI3:=Hy hWn; have D3:=Hy (made_below' hGn); clear hWn hGn))
  have HA3:=Hy (HA1.out.below D3.out)
  have HZ3:=Hy (HZ1.out.below D3.out hs1)
  have HR3:=Hy (HR1.out.below D3.out hb1)
  clear D3 HA1 HZ1 HR1
  refine (HB32.out _ HR3.out).mono ?_
  rintro e w4 ⟨gr,cr,rfl,hrow,ha4,hr4,hgr⟩
  have HA4:=Hy (HA3.out.trans ha4)
  have HZ4:=Hy (HZ3.out.alt ha4 hgb)
  have HI4:=Hy (HI3.out.alt ha4 (by omega))
  have HR4:=Hy hr4
  have HRW:Hid (w4.rangeAt gr 0 (encN bs)):=row_range hrow
  have harr:=fun W=>run_arrayAt (P:=Tryz.prog) W 30 5 32 (some ⟨gr,0,none⟩) 32 cr Tryz.underlying30 (Nat.le_refl _)
  have HXI:Hid ((Tryz.prog.info? 30).map (·.size) = some (encN bs).toArray.size):=by show _ = _; rw [encN_size]; exact infoN
  have HTH:Hid (w4.there w1.heap.size 2 (encN bs).toArray.size):=by
   intro j hj
   rw [encN_size] at hj
   refine ⟨?_,HI4.out.thawed _⟩
   rw [HI4.out.at_,Array.getElem?_eq_getElem (by rw [encI_size]; omega)]
   rfl
  have HA5:Hid (Alt (· = b) w (w4.setCells w1.heap.size 2 (encN bs).toArray.toList)):=Alt.grown HA4.out (gr_setCells (g:=w1.heap.size) _ 2 w4 w4 (gr_refl _ _)) (fun j hj=>by injection hj with hj; exact .inl (by omega))
  have HZ5:Hid (Whole (w4.setCells w1.heap.size 2 (encN bs).toArray.toList) w.heap.size 34 (encI default).toArray):=Whole.grown HZ4.out (gr_setCells (g:=w1.heap.size) _ 2 w4 w4 (gr_refl _ _)) (fun e=>by injection e with e; omega)
  have HR5:Hid (Rd (w4.setCells w1.heap.size 2 (encN bs).toArray.toList) b (bd ++ u)):=Whole.grown HR4.out (gr_setCells (g:=w1.heap.size) _ 2 w4 w4 (gr_refl _ _)) (fun e=>by injection e with e; omega)
  have HI5:Hid (Whole (w4.setCells w1.heap.size 2 (encN bs).toArray.toList) w1.heap.size 34 (encI ⟨7,0,bs,[]⟩).toArray):=by
   have h9:=whole_setCellsT (encN bs).toArray.toList 2 w4 _ HI4.out (by rw [encI_size]; have:=encN_len bs; simp; omega)
   rw [encI_setbase] at h9
   exact h9
  clear ha4 hr4 hrow HA4 HZ4 HR4 HA3 HZ3 HI3 HR3 HB32
  go_upto_region 10 with (first
   | (refine wpList_load_mid rfl 30 _ rfl gr 0 rfl (encN bs) _ HRW.out Tryz.underlying30 rfl (infoN_l _) ?_)
   | (refine wpList_store_mid rfl 30 _ _ rfl w1.heap.size 2 (encN bs).toArray rfl rfl HTH.out HXI.out (encN_all bs) ?_; generalize w4.setCells w1.heap.size 2 (encN bs).toArray.toList = w5 at *))
  clear HRW HTH HI4 harr
  go_wp2_with fail
  refine (HBS.out _ HR5.out).mono ?_
  rintro e w8 ⟨g8,c8,rfl,hrow,ha8,hr8,-⟩
  have hcv:=bytes_str (P:=Tryz.prog) 63 9 5 Tryz.underlying63 Tryz.underlying5 Tryz.underlying9 hrow.bytes
  have HA8:=Hy (HA5.out.trans ha8)
  have HZ8:=Hy (HZ5.out.alt ha8 hgb)
  have HI8:=Hy (HI5.out.alt ha8 (by omega))
  have HR8:=Hy hr8
  have c34:w8.cell? ⟨w1.heap.size,34,none⟩ = some (.string ⟨#[]⟩):=(HI8.out.at_ 34).trans (encI_34 ⟨7,0,bs,[]⟩)
  have f34:=HI8.out.thawed 34
  have HA9:=Hy (HA8.out.set (p:=⟨w1.heap.size,34,none⟩) (.inr (by simp; omega)) (.string ⟨bd.toArray⟩))
  have HZ9:=Hy (HZ8.out.aside (p:=⟨w1.heap.size,34,none⟩) (by simp; omega) (.string ⟨bd.toArray⟩))
  have HI9:Hid (Whole (w8.setCell ⟨w1.heap.size,34,none⟩ (.string ⟨bd.toArray⟩)) w1.heap.size 34 (encI ⟨7,0,bs,bd⟩).toArray):=by
   have h9:=HI8.out.put 34 (.string ⟨bd.toArray⟩)
   rw [encI_set34] at h9
   exact h9
  have HR9:=Hy (Whole.aside HR8.out (p:=⟨w1.heap.size,34,none⟩) (by simp; omega) (.string ⟨bd.toArray⟩))
  clear ha8 hr8 hrow HA8 HZ8 HI8 HR8 HA5 HZ5 HI5 HR5 HBS
  go_upto_region 11 with fail
  generalize w8.setCell ⟨w1.heap.size,34,none⟩ (.string ⟨bd.toArray⟩) = w9 at *
  clear c34 f34 hcv
  go_wp2_with (first
   | (refine wpList_load_row rfl 34 _ rfl w1.heap.size rfl 34 (encI ⟨7,0,bs,bd⟩).toArray (0,0) _ HI9.out Tryz.underlying34 rfl (infoI_s _) ?_)
   | (refine wpList_store_whole rfl 34 _ _ rfl w.heap.size (encI ⟨7,0,bs,bd⟩).toArray rfl rfl 34 _ HZ9.out (infoI_s _) (by rw [encI_size,encI_size]) (encI_all _) ?_; intro w10 hWn hGn; have HW10:=Hy hWn; have HG10:=Hy hGn; clear hWn hGn))
  refine bodyPost_ret (v:=.agg (encI ⟨7,0,bs,bd⟩).toArray) ?_ rfl ⟨rfl,HA9.out.grown HG10.out (fun j hj=>by injection hj with hj; exact .inl (by omega)),HR9.out.grown HG10.out (fun e=>by injection e with e; omega)⟩
  exact results_cell_row (p:=4) (ty:=34) rfl _ _ w.heap.size 34 (encI ⟨7,0,bs,bd⟩).toArray (0,0) _ rfl HW10.out Tryz.underlying34 rfl (infoI_s _)
theorem flatEI_snoc (its:List It) (k:Nat) (h:k < its.length):(its.take (k + 1)).flatMap encI = (its.take k ++ [its.getD k default]).flatMap encI:=by
 rw [List.take_succ_eq_append_getElem h]
 simp [List.getD,List.getElem?_eq_getElem h]
theorem pread_any (b:Nat) (its:List It) (w:World) (hok:okP its) (h:Rd w b (bodyP its)) :
  Calls Tryz.prog 59 #[.pointer (some ⟨b,0,none⟩)] w fun e w'=>(∃ v,e = .returned v ∧ w'.ownsRow w.heap.size 34 35 v its.length (its.flatMap encI)) ∧ Alt (· = b) w w':=by
 have hbl:=h.lt
 have hlen:=hok.1
 have HOK:=Hy hok.2
 have k200:decide ((its.length:Int) ≤ 200) = true:=decide_eq_true (by omega)
 have HB4:Hid (∀ W,Rd W b (markP ++ (numV its.length ++ its.flatMap bytesI)) → Calls Tryz.prog 106 #[.pointer (some ⟨b,0,none⟩),.int .i64 4] W fun e w'=>∃ g c,e = .returned (.slice (some ⟨g,0,none⟩) 4 c) ∧ Row w' (some ⟨g,0,none⟩) c markP ∧ Alt (· = b) W w' ∧ Rd w' b (numV its.length ++ its.flatMap bytesI) ∧ W.heap.size ≤ g):=fun W h=>
  rbytes_some b (markP ++ (numV its.length ++ its.flatMap bytesI)) 4 W h (by simp [markP]) (by omega)
 have HVG:=Hy fun W (h:Rd W b (numV its.length ++ its.flatMap bytesI))=>vget_any b its.length (by omega) (its.flatMap bytesI) W h
 have HR:=Hy h
 clear h hok
 go_enter Tryz.func59,Tryz.ntmps59
 go_wp2_with fail
 refine (HB4.out w HR.out).mono ?_
 rintro e w1 ⟨g,c,rfl,hrow,ha1,hr1,-⟩
 have hcv:(convert 63 9 (.slice (some ⟨g,0,none⟩) 4 c)).run Tryz.prog w1 = .ok (.string ⟨#[80,65,67,75]⟩) w1:=bytes_str (P:=Tryz.prog) 63 9 5 Tryz.underlying63 Tryz.underlying5 Tryz.underlying9 hrow.bytes
 have HA1:=Hy ha1
 have HR1:=Hy hr1
 clear ha1 hr1 hrow HB4 HR
 go_wp2_with (go_at_call 78; refine (must_yes _ _).mono ?_; rintro e w' ⟨rfl,rfl⟩)
 clear hcv
 refine (HVG.out w1 HR1.out).mono ?_
 rintro e w2 ⟨rfl,ha2,hr2⟩
 have HA2:=Hy (HA1.out.trans ha2)
 have HR2:Hid (Rd w2 b ((its.drop 0).flatMap bytesI)):=hr2
 clear ha2 hr2 HVG HR1 HA1
 go_wp2_with (go_at_call 78; refine (must_yes _ _).mono ?_; rintro e w' ⟨rfl,rfl⟩)
 go_loopg [4,5,17] its.length (fun g s4 _ s17 wr=>∃ (k:Nat) (A9:Option Addr) (c9:Nat),s4 = .slice A9 k c9 ∧ k ≤ its.length ∧ its.length - k ≤ g ∧ s17 = .int .i64 k ∧ wr.ownsRow w.heap.size 34 35 (.slice A9 k c9) k ((its.take k).flatMap encI) ∧ Hid (Alt (· = b) w wr) ∧ Hid (Rd wr b ((its.drop k).flatMap bytesI)))
 case atStart=>exact ⟨0,none,0,rfl,Nat.zero_le _,by omega,rfl,by simpa using World.ownsRow_nil _ _ _ _,HA2,HR2⟩
 case round=>
  obtain ⟨k,A9,c9,rfl,hk,hg,rfl,hown,hal,hrd⟩:=hrel
  by_cases hlt:k < its.length
  ·have hlt':(k:Int) < (its.length:Int):=by omega
   have hoy:=HOK.out k hlt
   have hed:=flatI_drop its k hlt
   have hfs:=flatEI_snoc its k hlt
   obtain ⟨y,hy⟩:∃ y,y = its.getD k default:=⟨_,rfl⟩
   rw [← hy] at hoy hed hfs
   have hrd':=hrd.out
   rw [hed] at hrd'
   have HIT:=Hy (preaditem_any y k b ((its.drop (k + 1)).flatMap bytesI) wr hoy (by omega) hrd')
   have hktl:(its.take k).length = k:=by rw [List.length_take]; omega
   have hown0:wr.ownsRow w.heap.size 34 35 (.slice A9 k c9) (its.take k).length ((its.take k).flatMap encI):=by rw [hktl]; exact hown
   have HFS:=Hy hfs
   have HKT:=Hy hktl
   have HOW0:=Hy hown0
   clear hed hfs hoy hrd' hrd hown hown0 hy hktl
   go_wp2_with fail
   refine HIT.out.mono ?_
   rintro e w3 ⟨rfl,ha3,hr3⟩
   have HA3:=Hy (hal.out.trans ha3)
   have HOW3:=Hy (own_alt HOW0.out ha3 (by omega))
   have HR3:=Hy hr3
   clear ha3 hr3 HIT hal HOW0
   have HONE:Hid (ArgG encI default 35 (w3.alloc (.cells (encI y).toArray 34)) (some ⟨w3.heap.size,0,none⟩) 1 [y]):=argG_one (Whole.made w3 34 (encI y).toArray)
   have hz3:w.heap.size ≤ w3.heap.size:=HA3.out.size
   have HZ5:Hid (w.heap.size ≤ (w3.alloc (.cells (encI y).toArray 34)).heap.size):=by show _ ≤ _; simp; omega
   have HLL:Hid ((its.take k).length + [y].length ≤ 10000000):=by show _ ≤ _; rw [HKT.out]; simp; omega
   have HR5:Hid (Rd (w3.alloc (.cells (encI y).toArray 34)) b ((its.drop (k + 1)).flatMap bytesI)):=Whole.past HR3.out _
   have HA5:=Hy (HA3.out.alloc (.cells (encI y).toArray 34))
   clear HA3 HR3
   go_wp2_with (first
    | (refine wpList_buildG eltI rfl _ rfl y rfl ?_)
    | (at_builtin; go_loud (refine wpList_appendG eltI rfl _ _ rfl w.heap.size (.slice A9 k c9) (its.take k) rfl (own_later HOW3.out ((Below.refl _ _).alloc (Nat.le_refl _) _)) (some ⟨w3.heap.size,0,none⟩) 1 1 [y] rfl rfl HONE.out HZ5.out HLL.out ?_; intro v' w6 hown' hb6' hgr6; have HOW6:=Hy hown'; have HB6:=Hy hb6'; have HG6:=Hy hgr6; clear hown' hb6' hgr6)))
   have how6:=HOW6.out
   have hkk:(its.take k ++ [y]).length = k + 1:=by rw [List.length_append,HKT.out,List.length_singleton]
   rw [← HFS.out,hkk] at how6
   obtain ⟨g6,c6,rfl⟩:=Go.Joins.ownsRow_form how6 (by omega)
   have HR6:Hid (Rd w6 b ((its.drop (k + 1)).flatMap bytesI)):=Whole.below HR5.out HB6.out hbl
   have HA6:=Hy (alt_belowB HA5.out HB6.out (Nat.le_refl _))
   have HOW7:=Hy how6
   clear how6 HOW6 HR5 HA5 HB6 HG6
   go_roundg (its.length - (k + 1))
   case measure=>omega
   case rel=>exact ⟨k + 1,_,_,rfl,by omega,Nat.le_refl _,by go_num,HOW7.out,HA6,HR6⟩
  ·obtain rfl:k = its.length:=by omega
   rw [List.drop_length] at hrd
   rw [List.take_length] at hown
   have hrd0:Rd wr b []:=hrd.out
   have HOW:=Hy hown
   clear hown hrd
   go_wp2_with (first
    | (go_at_call 37; refine (left_any b [] _ hrd0).mono ?_; rintro e w' ⟨rfl,rfl⟩)
    | (go_at_call 78; refine (must_yes _ _).mono ?_; rintro e w' ⟨rfl,rfl⟩))
   go_ret
   exact ⟨⟨_,rfl,HOW.out⟩,hal.out⟩
theorem pget_more (s:List UInt8) (w:World) (h:s.length < 37):Calls Tryz.prog 21 #[.string ⟨s.toArray⟩] w fun e w'=>e = .returned (.tuple #[.slice none 0 0,.int .i64 2]) ∧ Below w.heap.size w w':=by
 have k1:decide ((s.length:Int) < 37) = true:=decide_eq_true (by omega)
 have HB:=Hy ((Below.refl w.heap.size w).alloc (Nat.le_refl _) (.cells #[.string ⟨s.toArray⟩] 9))
 go_enter Tryz.func21,Tryz.ntmps21
 go_wp2
 go_ret2
 exact ⟨rfl,HB.out⟩
theorem pget1_any (g0 g1 g2 n:Nat) (s:List UInt8) (its:List It) (W:World) (hok:okP its) (hn:(s.take n) = bodyP its) (hnl:n ≤ s.length) (hs:Whole W g0 9 #[.string ⟨s.toArray⟩]) (h1:Whole W g1 3 #[.int .i64 (n:Int)]) (h2:Whole W g2 38 #[.slice none 0 0]) :
  Calls Tryz.prog 58 #[.pointer (some ⟨g0,0,none⟩),.pointer (some ⟨g1,0,none⟩),.pointer (some ⟨g2,0,none⟩)] W fun e w'=>e = .returned (.tuple #[]) ∧ Alt (· = g2) W w' ∧ ∃ A c,Whole w' g2 38 #[.slice A its.length c] ∧ ArgG encI default 35 w' A c its ∧ ∀ j,inBlk A j → W.heap.size ≤ j:=by
 have hc0:W.cell? ⟨g0,0,none⟩ = some (.string ⟨s.toArray⟩):=(hs.at_ 0).trans rfl
 have hc1:W.cell? ⟨g1,0,none⟩ = some (.int .i64 (n:Int)):=(h1.at_ 0).trans rfl
 have H2:=Hy h2
 have hl2:=h2.lt
 have hbl:=hok.body
 have HOK:=Hy hok
 have HRD:=Hy fun b W (h:Rd W b (bodyP its))=>pread_any b its W hok h
 have HN:Hid ((ByteArray.mk s.toArray).extract 0 n = ⟨(bodyP its).toArray⟩):=by
  show _ = _
  have:=ext_to s n
  rw [this,hn]
 have hsz:(ByteArray.mk s.toArray).size = s.length:=by simp [ByteArray.size]
 clear hs h1 h2 hok
 generalize bodyP its = T at *
 obtain ⟨c,w1,hcv,hby,hbe⟩:=str_bytes T W (by unfold maxLen; omega)
 rw [← HN.out] at hcv
 have HBY:=Hy hby
 have HBE:=Hy hbe
 clear hby hbe
 go_enter Tryz.func58,Tryz.ntmps58
 go_wp2_with fail
 refine (gnew_any _ T w1 HBY.out).mono ?_
 rintro e w2 ⟨rfl,hB2,hR2,hs2⟩
 have HB2:=Hy (hTr HBE hB2)
 have HR2:=Hy hR2
 have hs1:=HBE.out.size
 clear hB2 hR2 hc0 hc1 hcv HBY HBE
 go_wp2_with fail
 with_reducible refine (HRD.out w1.heap.size w2 HR2.out).mono ?_
 rintro r w3 ⟨⟨v,rfl,hown⟩,ha⟩
 obtain ⟨A,c',rfl,harg,hlo,-⟩:=own_argG eltI hown
 have HA3:Hid (Alt (· = g2) W w3):=(Alt.of_below HB2.out).then ha (fun k hk e=>by omega)
 have hw2:=(H2.out.below HB2.out (by omega)).alt ha (by omega)
 have HLO:Hid (∀ j,inBlk A j → W.heap.size ≤ j):=fun j hj=>by have:=hlo j hj; omega
 have HAR:=Hy harg
 clear hown harg hlo ha HR2 H2
 have c2:w3.cell? ⟨g2,0,none⟩ = some (.slice none 0 0):=(hw2.at_ 0).trans rfl
 have f2:=hw2.thawed 0
 have HW2:=Hy hw2
 clear hw2
 go_wp2
 go_end0
 refine ⟨rfl,HA3.out.set (p:=⟨g2,0,none⟩) (.inl rfl) _,A,c',HW2.out.put 0 (.slice A its.length c'),?_,HLO.out⟩
 exact HAR.out.grown eltI (gr_set (row:=some g2) (gr_refl _ _) (p:=⟨g2,0,none⟩) (.inl rfl) _) (fun j hj _ e=>by injection e with e; have:=HLO.out j hj; omega)
theorem pget1_enters (caps:Array Value) (W:World):(callFunc 58 caps).run Tryz.prog W = .ok (.enter 58 caps) W:=enters_of Tryz.func58 (by kernel_rfl) rfl _ _
theorem pget_any (its:List It) (w:World) (hTab:Tabs w) (hok:okP its) :
  Calls Tryz.prog 21 #[.string ⟨(encP its).toArray⟩] w fun e w'=>(∃ A c,e = .returned (.tuple #[.slice A its.length c,.int .i64 0]) ∧ ArgG encI default 35 w' A c its ∧ ∀ j,inBlk A j → w.heap.size ≤ j) ∧ Below w.heap.size w w':=by
 have hl1:=hTab.lt1
 have hl2:=hTab.lt2
 have HT:=Hy hTab
 have hbl:=hok.body
 have hbg:=bodyP_ge its
 have hsl:=ShaM.sha_len (bodyP its)
 have hel:(encP its).length = (bodyP its).length + 32:=by unfold encP; rw [List.length_append,hsl]
 have HTK:Hid ((encP its).take (bodyP its).length = bodyP its):=by show _ = _; unfold encP; exact List.take_left
 have HDR:Hid ((encP its).drop (bodyP its).length = ShaM.sha (bodyP its)):=by show _ = _; unfold encP; exact List.drop_left
 have HOK:=Hy hok
 clear hok hTab
 have hbp:Hid (∃ T,T = bodyP its):=⟨_,rfl⟩
 obtain ⟨T,hT⟩:=hbp.out
 have HTE:=Hy hT
 rw [← hT] at HTK HDR hel hbl hbg hsl
 clear hT hbp
 generalize encP its = s at *
 have k37:decide ((s.length:Int) < 37) = false:=decide_eq_false (by omega)
 have HE1:Hid ((ByteArray.mk s.toArray).extract T.length s.length = ⟨(ShaM.sha T).toArray⟩):=by show _ = _; rw [ext_from,HDR.out]
 have HE2:Hid ((ByteArray.mk s.toArray).extract 0 T.length = ⟨T.toArray⟩):=by show _ = _; rw [ext_to,HTK.out]
 have hsz:(ByteArray.mk s.toArray).size = s.length:=by simp [ByteArray.size]
 have HB1:=Hy (((Below.refl w.heap.size w).alloc (Nat.le_refl _) (.cells #[.string ⟨s.toArray⟩] 9)).alloc (by simp) (.cells #[.int .i64 (T.length:Int)] 3))
 have HS1:=Hy (Whole.past (Whole.made w 9 #[.string ⟨s.toArray⟩]) (.cells #[.int .i64 (T.length:Int)] 3))
 have HI1:=Hy (Whole.made (w.alloc (.cells #[.string ⟨s.toArray⟩] 9)) 3 #[.int .i64 (T.length:Int)])
 have hz1:(w.alloc (.cells #[.string ⟨s.toArray⟩] 9)).heap.size = w.heap.size + 1:=by simp
 rw [hz1] at HI1
 have hss:(s.length:Int) - 32 = (T.length:Int):=by omega
 have HEL:=Hy hel
 clear hel
 go_enter Tryz.func21,Tryz.ntmps21
 go_upto_region 4 with fail
 generalize (w.alloc (.cells #[.string ⟨s.toArray⟩] 9)).alloc (.cells #[.int .i64 (T.length:Int)] 3) = w1 at *
 have hc0:w1.cell? ⟨w.heap.size,0,none⟩ = some (.string ⟨s.toArray⟩):=(HS1.out.at_ 0).trans rfl
 have hc1:w1.cell? ⟨w.heap.size + 1,0,none⟩ = some (.int .i64 (T.length:Int)):=(HI1.out.at_ 0).trans rfl
 have hx1:=HE1.out
 have hx2:=HE2.out
 have htl:T.length ≤ s.length:=by have:=HEL.out; omega
 have HSM:Hid (∀ W,Below w1.heap.size w1 W → Calls Tryz.prog 57 #[.string ⟨T.toArray⟩] W fun e w'=>e = .returned (.string ⟨(ShaM.sha T).toArray⟩) ∧ Below W.heap.size W w'):=fun W hW=>psum_any T W (HT.out.below (HB1.out.trans (hW.mono HB1.out.size)) hl1 hl2) (by omega)
 have hr0:=fun d os=>cell_regrown hc0 d os
 have hr1:=fun d os=>cell_regrown hc1 d os
 refine wp_region_quiet_below (by kernel_rfl) (by kernel_rfl) ?_
 repeat (first
  | go_big_quiet_step ((first
   | (go_at_call 57; exact Calls.regrown_of (HSM.out _ (below_regrown _ _ _))))))
 refine wpQuiet_nil ?_
 intro W hW
 have HBW:Hid (Below w1.heap.size w1 W):=by
  show Below _ _ _
  obtain ⟨p,rfl⟩:=hW
  exact below_regrown _ _ _
 have hs11:=HI1.out.lt
 have HB2:=Hy (hTr HB1 HBW.out)
 have HS2:=Hy (HS1.out.below HBW.out (by omega))
 have HI2:=Hy (HI1.out.below HBW.out (by omega))
 have hs2:=HBW.out.size
 clear hW HBW HB1 HS1 HI1 hr0 hr1 hc0 hc1 hx1 hx2 HSM
 have hmf:∀ (fn:Fn) (first cap:Array Value) (w:World),(Instr.makeFunc fn first cap).run Tryz.prog w = .ok (.func fn first cap) w:=fun _ _ _ _=>rfl
 have HG3:=Hy (Whole.made W 38 #[.slice none 0 0])
 have HS3:=Hy (HS2.out.past (.cells #[.slice none 0 0] 38))
 have HI3:=Hy (HI2.out.past (.cells #[.slice none 0 0] 38))
 have HB3:=Hy (HB2.out.alloc HB2.out.size (.cells #[.slice none 0 0] 38))
 have hs3:(W.alloc (.cells #[.slice none 0 0] 38)).heap.size = W.heap.size + 1:=by simp
 clear HB2 HS2 HI2
 go_wp2_with fail
 generalize W.alloc (.cells #[.slice none 0 0] 38) = w0 at *
 have hR:¬ (fun k=>k = W.heap.size) w0.heap.size:=by show ¬ _; omega
 have hc2:=(pget1_any w.heap.size (w.heap.size + 1) W.heap.size T.length s its (w0.alloc (.cells #[.int .i64 0] 25)) HOK.out (by rw [HTK.out,HTE.out]) htl (HS3.out.past _) (HI3.out.past _) (HG3.out.past _)).mono fun e w' (h:_ ∧ _ ∧ ∃ A c,_ ∧ _ ∧ _)=>(show e = .returned (.tuple #[]) ∧ Alt (fun k=>k = W.heap.size) (w0.alloc (.cells #[.int .i64 0] 25)) w' ∧ (∃ A c,Whole w' W.heap.size 38 #[.slice A its.length c] ∧ ArgG encI default 35 w' A c its ∧ ∀ j,inBlk A j → w0.heap.size < j) from by
  obtain ⟨h1,h2,A,c,h5,h6,h7⟩:=h
  exact ⟨h1,h2,A,c,h5,h6,fun j hj=>by have:=h7 j hj; simp at this; omega⟩)
 have HD:=Hy (do_ret_q _ _ w0 (fun k=>k = W.heap.size) _ (pget1_enters _) hR (by
  rintro w1 w2 hlt ⟨A,c,h5,h6,h7⟩ hal
  exact ⟨A,c,h5.alt hal (by omega),h6.alt eltI hal (fun j hj e=>by have:=h7 j hj; omega),h7⟩) hc2)
 clear hc2 hR
 refine HD.out.mono ?_
 rintro e w3 ⟨rfl,ha,A,c,h3,har,hj⟩
 have HB4:=Hy (HB3.out.trans (ha.to (B:=w.heap.size) (fun k e=>by have e:k = W.heap.size:=e; omega) (by omega)))
 have hc3:w3.cell? ⟨W.heap.size,0,none⟩ = some (.slice A its.length c):=(h3.at_ 0).trans rfl
 have HAR:=Hy har
 have HJ:=Hy hj
 clear har hj ha HD HB3 h3
 go_wp2
 go_ret2
 exact ⟨⟨A,c,rfl,HAR.out,fun j hj=>by have:=HJ.out j hj; omega⟩,HB4.out⟩
end Go.Proofs.YtlfmooihcigolaaGreatDoor

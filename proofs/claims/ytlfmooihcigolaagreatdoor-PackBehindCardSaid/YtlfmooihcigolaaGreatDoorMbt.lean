/-
  ThiG, ThiH, Door7, Text, Rem.
-/
import Derived.Test.YtlfmooihcigolaaGreatDoorMbq
import Derived.Test.YtlfmooihcigolaaGreatDoorMbs
set_option maxRecDepth 100000
set_option maxHeartbeats 8000000
namespace Go.Proofs.YtlfmooihcigolaaGreatDoor
section
open Go.RowKit
theorem run_build_K2 (x y:Ct) (w:World):(Instr.buildSlice 91 2 #[(0,.agg (encK x).toArray),(1,.agg (encK y).toArray)]).run Tryz.prog w = .ok (.slice (some ⟨w.heap.size,0,none⟩) 2 2) (w.alloc (.cells ([x,y].flatMap encK).toArray 72)):=by kernel_rfl
theorem wpList_build_K2 {w:World} {ops:Array Oper} {rest:List Oper} {op:Oper} {a:Act} {Q:Exit → Act → World → Prop} (hgd:op.guard = none) (t u:Operand) (ho:op.op = .buildSlice 91 2 #[(0,t),(1,u)]) (x y:Ct) (hx:a.eval t = .agg (encK x).toArray) (hy:a.eval u = .agg (encK y).toArray)
  (h:wpList Tryz.prog ops Q rest (a.put op.dst (.slice (some ⟨w.heap.size,0,none⟩) 2 2)) (w.alloc (.cells ([x,y].flatMap encK).toArray 72))):wpList Tryz.prog ops Q (op :: rest) a w:=
 wpList_plain hgd fun _ hK=>by
  have hb:=run_build_K2 x y w
  unfold Oper.wp
  simp [execOp,ho,hx,hy,hb,Result.andThen]
  exact hK _ _ h
theorem build_I7 (k:Int) (nm:Nm) (b:ByteArray) (w:World):(Instr.build 34 #[(0,.int .i64 k),(2,.agg (encN nm).toArray),(3,.string b)]).run Tryz.prog w = .ok (.agg (.int .i64 k :: .int .i64 0 :: (encN nm ++ [.string b])).toArray) w:=by
 have hpl:((match Tryz.prog.underlying 34 with | some (.struct fs)=>fs | _=>#[]).mapM (fun (f:Field)=>do pure (f.offset,← sizeOf f.type)):Sem (Array (Nat × Nat))).run Tryz.prog w = .ok #[(0,1),(1,1),(2,32),(34,1)] w:=by kernel_rfl
 simp only [Tryz.underlying34] at hpl
 have hz0:(zeroValue 34).run Tryz.prog w = .ok (.agg (.int .i64 0 :: .int .i64 0 :: (encN default ++ [.string ⟨#[]⟩])).toArray) w:=by kernel_rfl
 unfold Instr.build
 simp only [Sem.run_bind,hz0,Result.andThen_ok,run_underlying Tryz.underlying34,hpl]
 have hz:(encN default).length = 32:=encN_len _
 have h:(encN nm).length = 32:=encN_len _
 generalize encN default = zs at *
 generalize encN nm = cs at *
 simp [Instr.fill,Value.cells,h,hz]
 have h9:=fold_off cs 0 2 (Value.int .i64 k :: Value.int .i64 0 :: (zs ++ [Value.string ⟨#[]⟩])).toArray (by simp; omega)
 obtain ⟨arr,hae⟩:∃ arr,arr = List.foldl (fun cs (x:Value × Nat)=>cs.setIfInBounds (2 + x.2) x.1) (Value.int .i64 k :: Value.int .i64 0 :: (zs ++ [Value.string ⟨#[]⟩])).toArray cs.zipIdx:=⟨_,rfl⟩
 rw [← hae] at h9 ⊢
 have e:arr = (Value.int .i64 k :: Value.int .i64 0 :: (cs ++ [Value.string ⟨#[]⟩])).toArray:=by
  apply Array.toList_inj.1
  rw [h9]
  simp [h,hz]
 rw [e]
 have hs:¬ (Value.int .i64 k :: Value.int .i64 0 :: (cs ++ [Value.string ⟨#[]⟩])).toArray.size < 35:=by simp [h]
 rw [if_neg hs]
 have e2:(Value.int .i64 k :: Value.int .i64 0 :: (cs ++ [Value.string ⟨#[]⟩])).toArray.setIfInBounds 34 (Value.string b) = (Value.int .i64 k :: Value.int .i64 0 :: (cs ++ [Value.string b])).toArray:=by
  apply Array.toList_inj.1
  simp [h]
 rw [e2]
 rfl
theorem wpList_buildI7 {w:World} {ops:Array Oper} {rest:List Oper} {op:Oper} {a:Act} {Q:Exit → Act → World → Prop} (hgd:op.guard = none) (x y z:Operand) (ho:op.op = .build 34 #[(0,x),(2,y),(3,z)]) (k:Int) (nm:Nm) (b:ByteArray) (hx:a.eval x = .int .i64 k) (hy:a.eval y = .agg (encN nm).toArray) (hz:a.eval z = .string b)
  (h:wpList Tryz.prog ops Q rest (a.put op.dst (.agg (.int .i64 k :: .int .i64 0 :: (encN nm ++ [.string b])).toArray)) w):wpList Tryz.prog ops Q (op :: rest) a w:=
 wpList_plain hgd fun _ hK=>by
  have hb:=build_I7 k nm b w
  unfold Oper.wp
  simp [execOp,ho,hx,hy,hz,hb,Result.andThen]
  exact hK _ _ h
def oX9:Obx:=⟨none,0,none,0,oB9⟩
theorem oX9_has (w:World):HasX w oX9:=⟨⟨Nat.le_refl _,Nat.zero_le _,fun _=>rfl,fun h=>absurd h (Nat.lt_irrefl _)⟩,⟨Nat.le_refl _,Nat.zero_le _,fun _=>rfl,fun h=>absurd h (Nat.lt_irrefl _)⟩⟩
theorem oX9_nam:NamX oX9:=⟨by decide,by decide,fun _=>by decide⟩
theorem t_head (w:World):Calls Tryz.prog 31 #[.int .i64 3,.int .i64 300] w fun e w'=>e = .returned (.tuple #[.string ⟨#[188,18]⟩,.bool true]) ∧ Below w.heap.size w w':=by
 have:=vhead_any 3 300 (by decide) (by decide) w
 rw [head9] at this
 exact this
theorem t_put (w:World):Calls Tryz.prog 29 #[.int .i64 300] w fun e w'=>e = .returned (.tuple #[.string ⟨#[172,2]⟩,.bool true]) ∧ Below w.heap.size w w':=by
 have:=vput_any 300 (by decide) w
 rw [num9] at this
 exact this
theorem t_dput (w:World):Calls Tryz.prog 38 #[.int .i64 5,.slice (some ⟨w.heap.size,0,none⟩) 2 2] (w.alloc (.cells (cB9.flatMap encK).toArray 72)) fun e w'=>e = .returned (.tuple #[.string ⟨dB9.toArray⟩,.bool true]) ∧ Below w.heap.size w w':=by
 have hA:ArgG encK default 3 (w.alloc (.cells (cB9.flatMap encK).toArray 72)) (some ⟨w.heap.size,0,none⟩) 2 cB9:=by
  refine ⟨by decide,by unfold maxLen; decide,(fun e=>by cases e),fun _=>⟨w.heap.size,0,rfl,fun i hi j v hv=>?_⟩⟩
  have hj:j < 3:=by
   have:=(List.getElem?_eq_some_iff.1 hv).1
   exact this
  rw [Nat.zero_add,(Whole.made w 72 (cB9.flatMap encK).toArray).at_,List.getElem?_toArray,flatG_at (d:=default) (fun x=>show (encK x).length = 3 from rfl) cB9 i j hi hj]
  exact hv
 refine (dput_any 5 (some ⟨w.heap.size,0,none⟩) 2 cB9 _ hA okc9 (by decide) sum9).mono ?_
 rintro e w' ⟨rfl,hb⟩
 exact ⟨rfl,((Below.refl w.heap.size w).alloc (Nat.le_refl _) _).trans (hb.mono (by simp))⟩
theorem t_apply (w:World):Calls Tryz.prog 17 #[.string ⟨#[97,98,99,100,101]⟩,.string ⟨dB9.toArray⟩] w fun e w'=>e = .returned (.tuple #[.string ⟨#[98,99,100,120]⟩,.int .i64 0]) ∧ Below w.heap.size w w':=by
 have:=dapply_any aB9 cB9 w okc9 (by decide) sum9
 rw [show applyC aB9 cB9 = [98,99,100,120] from app9] at this
 exact this
theorem t_of (w:World) (hTab:Tabs w):Calls Tryz.prog 30 #[.slice (some ⟨w.heap.size,0,none⟩) 1 1] (w.alloc (.cells (encX oX9).toArray 49)) fun e w'=>e = .returned (.tuple #[.string ⟨(encP [itO oB9]).toArray⟩,.bool true]) ∧ Below w.heap.size w w':=by
 have hb:=(Below.refl w.heap.size w).alloc (Nat.le_refl _) (.cells (encX oX9).toArray 49)
 refine (pof_any (some ⟨w.heap.size,0,none⟩) 1 [oX9] _ (hTab.below hb hTab.lt1 hTab.lt2) (argG_one (Whole.made w 49 (encX oX9).toArray)) (fun p hp=>?_) (fun p hp=>?_) (by decide)).mono ?_
 ·rw [List.mem_singleton.1 hp]
  exact oX9_has _
 ·rw [List.mem_singleton.1 hp]
  exact ⟨may9,by decide,by decide,by decide⟩
 ·rintro e w' ⟨rfl,h⟩
  exact ⟨rfl,hb.trans (h.mono (by simp))⟩
def One9 (w:World) (g:Nat):Prop:=∃ p:Obx,p.x = oB9 ∧ Whole w g 49 (encX p).toArray
theorem t_objects (w:World) (hTT:∀ W,Below w.heap.size w W → Tabs W ∧ Tens W):Calls Tryz.prog 20 #[.string ⟨(encP [itO oB9]).toArray⟩] w fun e w'=>Below w.heap.size w w' ∧ ∃ g,e = .returned (.tuple #[.slice (some ⟨g,0,none⟩) 1 1,.int .i64 0]) ∧ One9 w' g:=by
 obtain ⟨q,h1,h2,h3⟩:=rounds9
 refine (pobjects_any [itO oB9] (fun _=>default) 2 q w (hTT w (Below.refl _ _)).1 ok19 (by decide) (by decide) (fun i hi hn=>?_) (fun i hi=>?_) hTT h1).mono ?_
 ·obtain rfl:i = 0:=by have:i < 1:=hi; omega
  exact absurd (.inl rfl) hn
 ·obtain rfl:i = 0:=by have:i < 1:=hi; omega
  decide
 ·rintro e w' ⟨hb,hres⟩
  refine ⟨hb,?_⟩
  rcases hres with ⟨-,p,rfl,hm,-⟩ | ⟨h,-⟩
  ·obtain ⟨xs,hx1,hx2,-⟩:=hm.objs
   rw [h3] at hx1
   obtain ⟨x,rfl,hx⟩:∃ x,xs = [x] ∧ x.x = oB9:=by
    cases xs with
    | nil=>cases hx1
    | cons x l=>
     cases l with
     | nil=>injection hx1 with hx1; exact ⟨x,rfl,hx1⟩
     | cons y l=>injection hx1 with _ hx1; cases hx1
   refine ⟨p.go,rfl,x,hx,?_⟩
   simpa using hx2
  ·exact absurd h2 h
theorem t_id (A:Array Value) (hA:A = (encX oX9).toArray) (w:World):Calls Tryz.prog 46 #[.agg A] w fun e w'=>e = .returned (.agg (encN (idO oB9)).toArray) ∧ Below w.heap.size w w':=by
 subst hA
 exact ridB_any none 0 none 0 oB9 w (oX9_has w) may9 rfl (by decide)
theorem t_pput (w:World) (hTab:Tabs w):Calls Tryz.prog 19 #[.slice (some ⟨w.heap.size,0,none⟩) 1 1] (w.alloc (.cells (encI ⟨7,0,idO oB9,dB9⟩).toArray 34)) fun e w'=>e = .returned (.tuple #[.string ⟨(encP (one7 (idO oB9) dB9)).toArray⟩,.bool true]) ∧ Below w.heap.size w w':=by
 have hb:=(Below.refl w.heap.size w).alloc (Nat.le_refl _) (.cells (encI ⟨7,0,idO oB9,dB9⟩).toArray 34)
 refine (pput_any (some ⟨w.heap.size,0,none⟩) 1 (one7 (idO oB9) dB9) _ (hTab.below hb hTab.lt1 hTab.lt2) (argG_one (Whole.made w 34 (encI ⟨7,0,idO oB9,dB9⟩).toArray)) ok79).mono ?_
 rintro e w' ⟨rfl,h⟩
 exact ⟨rfl,hb.trans (h.mono (by simp))⟩
theorem t_whole (w:World) (hTT:∀ W,Below w.heap.size w W → Tabs W ∧ Tens W):Calls Tryz.prog 26 #[.string ⟨(encP (one7 (idO oB9) dB9)).toArray⟩,.slice (some ⟨w.heap.size,0,none⟩) 1 1] (w.alloc (.cells (encX oX9).toArray 49)) fun e w'=>Below w.heap.size w w' ∧ ∃ b:ByteArray,e = .returned (.tuple #[.string b,.int .i64 0]) ∧ b.toList.isEmpty = false:=by
 obtain ⟨q,h1,h2,h3⟩:=whole9
 have hb:=(Below.refl w.heap.size w).alloc (Nat.le_refl _) (.cells (encX oX9).toArray 49)
 refine (twhole_any (one7 (idO oB9) dB9) (fun _=>(5,cB9)) (some ⟨w.heap.size,0,none⟩) 1 [oX9] 2 q _ (hTT _ hb).1 (hTT _ hb).2 ok79 (by decide) (fun i hi _=>?_) (fun i hi=>?_) (argG_one (Whole.made w 49 (encX oX9).toArray)) (fun p hp=>?_) (fun p hp=>?_) (by decide) h1 (fun _ o ho=>?_)).mono ?_
 ·obtain rfl:i = 0:=by have:i < 1:=hi; omega
  exact ⟨rfl,okc9,by decide,sum9⟩
 ·obtain rfl:i = 0:=by have:i < 1:=hi; omega
  exact Nat.le_trans dlen9 (by decide)
 ·rw [List.mem_singleton.1 hp]
  exact oX9_has _
 ·rw [List.mem_singleton.1 hp]
  exact oX9_nam
 ·rw [h3] at ho
  rw [List.mem_singleton.1 ho]
  exact ⟨ob_blob _ (by rw [app9]; decide),by rw [bytes_blob,app9]; decide,by decide,by decide⟩
 ·rintro e w' ⟨hb2,hres⟩
  refine ⟨hb.trans (hb2.mono (by simp)),?_⟩
  rcases hres with ⟨-,s,-,-,-,rfl⟩ | ⟨h,-⟩
  ·refine ⟨_,rfl,?_⟩
   have h5:=bodyP_ge ((ofW q.2.2.objs s).map itO)
   have:(encP ((ofW q.2.2.objs s).map itO)).length ≠ 0:=by
    unfold encP
    rw [List.length_append]
    omega
   rw [ByteArray.toList_eq]
   show (encP ((ofW q.2.2.objs s).map itO)).isEmpty = false
   cases he:encP ((ofW q.2.2.objs s).map itO) with
   | nil=>exact absurd (by rw [he]; rfl) this
   | cons a l=>rfl
  ·exact absurd h2 h
theorem t_get (w:World) (hTab:Tabs w):Calls Tryz.prog 21 #[.string ⟨(encP (one7 (idO oB9) dB9)).toArray⟩] w fun e w'=>Below w.heap.size w w' ∧ ∃ b o c,e = .returned (.tuple #[.slice (some ⟨b,o,none⟩) 1 c,.int .i64 0]) ∧ ArgG encI default 35 w' (some ⟨b,o,none⟩) c (one7 (idO oB9) dB9) ∧ 1 ≤ c ∧ w'.cell? ⟨b,o,none⟩ = some (.int .i64 7):=by
 refine (pget_any (one7 (idO oB9) dB9) w hTab ok79).mono ?_
 rintro e w' ⟨⟨A,c,rfl,hA,-⟩,hb⟩
 obtain ⟨b,o,rfl,hr⟩:=hA.2.2.2 (by show 0 < 1; decide)
 exact ⟨hb,b,o,c,rfl,hA,hA.1,by simpa using hr 0 (by show 0 < 1; decide) 0 (.int .i64 7) rfl⟩
theorem t_needs (b o c:Nat) (w:World) (hA:ArgG encI default 35 w (some ⟨b,o,none⟩) c (one7 (idO oB9) dB9)):Calls Tryz.prog 28 #[.slice (some ⟨b,o,none⟩) 1 c] w fun e w'=>Below w.heap.size w w' ∧ ∃ A' c',e = .returned (.slice A' 1 c'):=by
 refine (pneeds_any (some ⟨b,o,none⟩) c (one7 (idO oB9) dB9) w hA (by show 1 ≤ 1000; decide)).mono ?_
 rintro e w' ⟨⟨A',c',s,rfl,hri,hme,-,-⟩,hb⟩
 have:s = [idO oB9]:=rise_uniq hri (List.pairwise_singleton _ _) (fun x=>by rw [hme x]; rfl)
 subst this
 exact ⟨hb,A',c',rfl⟩
end
section
open Go.RowKit
theorem begunL6_any (w:World) (hE:Env w) (hT:Tens w):Calls Tryz.prog 47 #[] w fun e w'=>e = .returned (.bool true) ∧ Below w.heap.size w w':=by
 have HE:=Hy hE
 have HT:=Hy hT
 clear hE hT
 go_enter Tryz.func47,Tryz.ntmps47
 go_wp2_with fail
 refine (begun6_any _ HE.out HT.out).mono ?_
 rintro e w1 ⟨rfl,hB⟩
 have HB:=Hy hB
 clear hB
 go_wp2
 go_ret
 exact ⟨rfl,HB.out⟩
attribute [local irreducible] dB9 idO encP one7
theorem begun9_any (w:World) (hE:Env w) (hT:Tens w):Calls Tryz.prog 14 #[] w fun e w'=>e = .returned (.bool true) ∧ Below w.heap.size w w':=by
 have HE:=Hy hE
 have HT:=Hy hT
 have HTT:Hid (∀ W,Below w.heap.size w W → Tabs W ∧ Tens W):=fun W h=>⟨(hE.at_ h).tabs,hT.below h⟩
 clear hE hT
 go_enter Tryz.func14,Tryz.ntmps14
 go_wp2_with fail
 refine (t_head w).mono ?_
 rintro e w1 ⟨rfl,hb⟩
 have B1:=Hy hb
 clear hb
 go_wp2_with fail
 refine (t_put w1).mono ?_
 rintro e w2 ⟨rfl,hb⟩
 have B2:=Hy (hTr B1 hb)
 clear hb B1
 go_wp2_with (refine wpList_build_K2 rfl _ _ rfl ⟨[],1,3⟩ ⟨[120],0,0⟩ rfl rfl ?_)
 refine (t_dput w2).mono ?_
 rintro e w3 ⟨rfl,hb⟩
 have B3:=Hy (hTr B2 hb)
 clear hb B2
 go_wp2_with fail
 refine (t_apply w3).mono ?_
 rintro e w4 ⟨rfl,hb⟩
 have B4:=Hy (hTr B3 hb)
 clear hb B3
 go_upto_region 6 with (refine wpList_store_whole rfl 49 _ _ rfl w4.heap.size (encX oX9).toArray rfl rfl 49 _ (Whole.made w4 _ _) (infoOx_s oX9) (by rw [encX_size]; rfl) (encX_all oX9) ?_; intro w5 hWn hGn; have HW5:=Hy hWn; have D5:=Hy (made_below' hGn); clear hWn hGn)
 have B5:=Hy (hTr B4 D5.out)
 clear B4 D5
 go_wp2_with (first
  | (refine wpList_load_row rfl 49 _ rfl w4.heap.size rfl 49 (encX oX9).toArray (0,0) _ HW5.out Tryz.underlying49 rfl (infoOx_s oX9) ?_)
  | (refine wpList_buildG eltX rfl _ rfl oX9 rfl ?_))
 refine (t_of w5 (HTT.out w5 B5.out).1).mono ?_
 rintro e w6 ⟨rfl,hb⟩
 have B6:=Hy (hTr B5 hb)
 have HW6:=Hy (HW5.out.below hb HW5.out.lt)
 clear hb B5 HW5
 go_wp2_with fail
 refine (t_objects w6 (fun W h=>HTT.out W (B6.out.trans (h.mono B6.out.size)))).mono ?_
 rintro e w7 ⟨hb,g7,rfl,hone⟩
 have B7:=Hy (hTr B6 hb)
 have HW7:=Hy (HW6.out.below hb HW6.out.lt)
 have HO7:=Hy hone
 clear hb B6 HW6 hone
 go_wp2_with (refine wpList_load_row rfl 49 _ rfl w4.heap.size rfl 49 (encX oX9).toArray (0,0) _ HW7.out Tryz.underlying49 rfl (infoOx_s oX9) ?_)
 refine (t_id _ rfl w7).mono ?_
 rintro e w8 ⟨rfl,hb⟩
 have B8:=Hy (hTr B7 hb)
 have HW8:=Hy (HW7.out.below hb HW7.out.lt)
 have K8:=Hy hb
 clear hb B7 HW7
 go_upto_region 9 with (refine wpList_store_whole rfl 30 _ _ rfl w8.heap.size (encN (idO oB9)).toArray rfl rfl 30 _ (Whole.made w8 _ _) (infoXs _) (by rw [encN_size]; rfl) (encN_all _) ?_; intro w9 hWn hGn; have HN9:=Hy hWn; have D9:=Hy (made_below' hGn); clear hWn hGn)
 have B9:=Hy (hTr B8 D9.out)
 have HW9:=Hy (HW8.out.below D9.out HW8.out.lt)
 have K9:=Hy (hTr K8 D9.out)
 clear B8 HW8 K8 D9
 go_wp2_with (first
  | (refine wpList_rowN rfl _ w8.heap.size (idO oB9) rfl rfl HN9.out ?_)
  | (refine wpList_buildI7 rfl _ _ _ rfl 7 (idO oB9) ⟨dB9.toArray⟩ rfl rfl rfl ?_)
  | (refine wpList_buildG eltI rfl _ rfl ⟨7,0,idO oB9,dB9⟩ rfl ?_))
 refine (t_pput w9 (HTT.out w9 B9.out).1).mono ?_
 rintro e w10 ⟨rfl,hb⟩
 have B10:=Hy (hTr B9 hb)
 have HW10:=Hy (HW9.out.below hb HW9.out.lt)
 have K10:=Hy (hTr K9 hb)
 clear hb B9 HW9 K9 HN9
 go_wp2_with (first
  | (refine wpList_load_row rfl 49 _ rfl w4.heap.size rfl 49 (encX oX9).toArray (0,0) _ HW10.out Tryz.underlying49 rfl (infoOx_s oX9) ?_)
  | (refine wpList_buildG eltX rfl _ rfl oX9 rfl ?_))
 refine (t_whole w10 (fun W h=>HTT.out W (B10.out.trans (h.mono B10.out.size)))).mono ?_
 rintro e w11 ⟨hb,tw,rfl,htw⟩
 have B11:=Hy (hTr B10 hb)
 have K11:=Hy (hTr K10 hb)
 have HTW:=Hy htw
 clear hb B10 HW10 K10 htw
 go_wp2_with fail
 refine (t_get w11 (HTT.out w11 B11.out).1).mono ?_
 rintro e w12 ⟨hb,b9,o9,c9,rfl,harg,hlc9,hc2⟩
 have B12:=Hy (hTr B11 hb)
 have K12:=Hy (hTr K11 hb)
 have HAR:=Hy harg
 clear hb B11 K11 harg
 obtain ⟨p7,hp7,hw7⟩:=HO7.out
 have hw12:=hw7.below K12.out hw7.lt
 have hc1:w12.cell? ⟨g7,1,none⟩ = some (.string ⟨#[97,98,99,100,101]⟩):=by
  rw [hw12.at_]
  show some (Value.string ⟨p7.x.blob.toArray⟩) = _
  rw [hp7]
  rfl
 clear HO7 hp7 hw7 hw12 K12
 have X1:=Hy fun W (h:Below w12.heap.size w12 W)=>begunL6_any W (HE.out.at_ (B12.out.trans (h.mono B12.out.size))) (HTT.out W (B12.out.trans (h.mono B12.out.size))).2
 have hte:=HTW.out
 have htl:¬ tw.toList = []:=by simpa using hte
 go_wp2_with fail
 refine (X1.out w12 (Below.refl _ _)).mono ?_
 rintro e w13 ⟨rfl,hb⟩
 have B13:=Hy (hTr B12 hb)
 have HN:=Hy (t_needs b9 o9 c9 w13 (HAR.out.later eltI hb))
 have hd1:w13.cell? ⟨g7,1,none⟩ = some (.string ⟨#[97,98,99,100,101]⟩):=cell_grown hc1 (grown_none hb) (by simp)
 have hd2:w13.cell? ⟨b9,o9,none⟩ = some (.int .i64 7):=cell_grown hc2 (grown_none hb) (by simp)
 clear hb B12 HAR hc1 hc2 X1
 go_wp2_with fail
 refine HN.out.mono ?_
 rintro e w14 ⟨hb,An,cn,rfl⟩
 have B14:=Hy (hTr B13 hb)
 have hk6:kindV 6 = true:=rfl
 have hk4:kindV 4 = false:=rfl
 clear hb B13 HN hd1 hd2
 go_wp2_with fail
 refine (vkinds_any 6 w14).mono ?_
 rintro e w15 ⟨rfl,rfl⟩
 go_wp2_with fail
 refine (vkinds_any 4 w14).mono ?_
 rintro e w16 ⟨rfl,rfl⟩
 go_wp2
 go_ret
 exact ⟨rfl,B14.out⟩
end
end Go.Proofs.YtlfmooihcigolaaGreatDoor
namespace Go.Proofs.YtlfmooihcigolaaGreatDoor
open Go.RowKit Go.ChangeShapes Go.WideShapes Go.ChangeAt
namespace Door
abbrev laid7:List (String × DataW Unit):=[("math/bits.deBruijn32tab",Rows.laid_math_bits_deBruijn32tab),("math/bits.deBruijn64tab",Rows.laid_math_bits_deBruijn64tab),("colporteur/sha.start",Rows.laid_colporteur_sha_start),("colporteur/sha.roots",Rows.laid_colporteur_sha_roots),("internal/strconv.uint64pow10",Rows.laid_internal_strconv_uint64pow10),("unicode/utf8.acceptRanges",Rows.laid_unicode_utf8_acceptRanges),("unicode/utf8.first",Rows.laid_unicode_utf8_first)]
theorem env_ofH7 {W:World} (h:laidMetH Tryz.prog laid7 W) (hS:W.ShapedOpen Tryz.prog):Env W:=
 env_of (r:=[("internal/strconv.uint64pow10",Rows.laid_internal_strconv_uint64pow10),("unicode/utf8.acceptRanges",Rows.laid_unicode_utf8_acceptRanges),("unicode/utf8.first",Rows.laid_unicode_utf8_first)]) h hS
theorem tens_ofH7 {W:World} (h:laidMetH Tryz.prog laid7 W):Tens W:=by
 have h':laidMet Tryz.prog laid7 W:=h
 exact Lib.tabIs_of_head (k:=.u64) (zs:=Lib.pow10Tab) g5 ty5 Tryz.underlying337 Tryz.underlying201 ce64 ca20 h'.tail.tail.tail.tail
def litVal {H:Type}:DataW H → List Value
 | .lit (.int k x)=>[.int k x]
 | _=>[]
def aggVals {H:Type}:DataW H → List Value
 | .agg l=>l.flatMap litVal
 | _=>[]
def aggVals2 {H:Type}:DataW H → List Value
 | .agg l=>l.flatMap aggVals
 | _=>[]
noncomputable def heap6 (os:Os):Array Obj:=setBlock (heap5 os) 6 (aggVals2 (Rows.laid_unicode_utf8_acceptRanges (H:=Unit))).toArray
noncomputable def heap7 (os:Os):Array Obj:=setBlock (heap6 os) 5 (aggVals Rows.laid_unicode_utf8_first).toArray
noncomputable def laidWorld7 (os:Os):World:={ World.holding Tryz.prog os ⟨#[],#[],[]⟩ with heap:=heap7 os }
theorem laid_met7 (os:Os) (args:Array Value):laidMet Tryz.prog laid7 ((laidWorld7 os).forCall (fun _ _=>0) ⟨#[],args,[]⟩).memory:=
 laidMet_of_run' 8 (by kernel_rfl) (by kernel_rfl)
theorem vars07 (os:Os) (args:Array Value):((laidWorld7 os).forCall (fun _ _=>0) ⟨#[],args,[]⟩).variablesB Tryz.checked.prog = true:=by kernel_rfl
theorem rest07 (os:Os) (args:Array Value):(((laidWorld7 os).forCall (fun _ _=>0) ⟨#[],args,[]⟩).heap.toList.drop Tryz.checked.prog.globals.size).take ((begin Tryz.checked.prog (fun _ _=>0) default).world.heap.size - Tryz.checked.prog.globals.size) =
   (begin Tryz.checked.prog (fun _ _=>0) default).world.heap.toList.drop Tryz.checked.prog.globals.size:=by kernel_rfl
end Door
end Go.Proofs.YtlfmooihcigolaaGreatDoor
namespace Go.Proofs.YtlfmooihcigolaaGreatDoor
section
open Go.RowKit
theorem text_any (l:List UInt8) (n:Nat) (w:World):Calls Tryz.prog 15 #[.string ⟨l.toArray⟩,.int .i64 (n:Int)] w fun e w'=>e = .returned (.string ⟨(l.take n).toArray⟩) ∧ w = w':=by
 obtain ⟨m,hm,hm1⟩:∃ m,m = min l.length n ∧ m ≤ l.length:=⟨_,rfl,Nat.min_le_left _ _⟩
 have hmin:∀ W,(Builtin.min_ #[3,3] 3 #[.int .i64 (l.length:Int),.int .i64 (n:Int)]).run Tryz.prog W = .ok (.int .i64 (m:Int)) W:=by
  intro W
  rw [run_min_int2]
  congr 2
  split <;> omega
 have HT:Hid (l.take n = l.take m):=by
  show _ = _
  rcases Nat.le_total l.length n with h | h
  ·rw [List.take_of_length_le h,hm,Nat.min_eq_left h,List.take_length]
  ·rw [hm,Nat.min_eq_right h]
 clear hm
 go_enter Tryz.func15,Tryz.ntmps15
 go_wp2
 go_ret
 refine ⟨?_,rfl⟩
 rw [HT.out,ByteArray.extract_mk]
 simp
end
theorem rem_pos (a:Int) (n:Nat) (ha:0 ≤ a) (hn:0 < n):∃ k:Nat,k < n ∧ a.tmod (n:Int) = (k:Int):=by
 refine ⟨a.toNat % n,Nat.mod_lt _ hn,?_⟩
 rw [Int.tmod_eq_emod_of_nonneg ha,Int.natCast_emod,Int.toNat_of_nonneg ha]
end Go.Proofs.YtlfmooihcigolaaGreatDoor

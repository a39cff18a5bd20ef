/-
  PackBehind, walked.
-/
import Derived.Test.YtlfmooihcigolaaGreatDoorMbt
import Derived.Test.YtlfmooihcigolaaGreatDoorMbu
import Derived.Test.YtlfmooihcigolaaGreatDoorQCel
set_option maxRecDepth 100000
set_option maxHeartbeats 8000000
namespace Go.Proofs.YtlfmooihcigolaaGreatDoor
open Go.RowKit
section
variable {α:Type} {enc:α → List Value} {d:α} {m:Nat} {T TS:TypeId}
theorem run_build_G2 (E:Elt T TS m enc d) (x y:α) (w:World):(Instr.buildSlice TS 2 #[(0,.agg (enc x).toArray),(1,.agg (enc y).toArray)]).run Tryz.prog w = .ok (.slice (some ⟨w.heap.size,0,none⟩) 2 2) (w.alloc (.cells (enc x ++ enc y).toArray T)):=by
 have hx:=E.len x
 have hy:=E.len y
 have hxs:(enc x).toArray.size = m:=by rw [List.size_toArray,hx]
 have hys:(enc y).toArray.size = m:=by rw [List.size_toArray,hy]
 have hfill:∀ z:Array Value,z.size = 2 * m → Instr.fill (fun i=>some (i * m,m)) z [(0,.agg (enc x).toArray),(1,.agg (enc y).toArray)] = some (enc x ++ enc y).toArray:=by
  intro z hz
  have hcx:(Value.agg (enc x).toArray).cells = (enc x).toArray:=rfl
  have hcy:(Value.agg (enc y).toArray).cells = (enc y).toArray:=rfl
  simp only [Instr.fill,hcx,hcy,hxs,hys,hz,Nat.zero_mul,Nat.zero_add,Nat.one_mul]
  have h1:=fold_set (enc x) 0 z (by omega)
  simp only [Nat.zero_add] at h1
  have e1:Array.foldl (fun (cs:Array Value) (x:Value × Nat)=>cs.setIfInBounds x.2 x.1) z (enc x).toArray.zipIdx = List.foldl (fun (cs:Array Value) (p:Value × Nat)=>cs.setIfInBounds p.2 p.1) z (enc x).zipIdx:=by simp
  rw [e1]
  obtain ⟨z1,hz1⟩:∃ z1,z1 = List.foldl (fun (cs:Array Value) (p:Value × Nat)=>cs.setIfInBounds p.2 p.1) z (enc x).zipIdx:=⟨_,rfl⟩
  rw [← hz1] at h1 ⊢
  have hzl:z.toList.length = 2 * m:=by rw [Array.length_toList]; exact hz
  have s1:z1.size = 2 * m:=by rw [← Array.length_toList,h1]; simp [hzl,hx]; omega
  have e2:Array.foldl (fun (cs:Array Value) (x:Value × Nat)=>cs.setIfInBounds (m + x.2) x.1) z1 (enc y).toArray.zipIdx = List.foldl (fun (cs:Array Value) (p:Value × Nat)=>cs.setIfInBounds (m + p.2) p.1) z1 (enc y).zipIdx:=by simp
  have h2:=fold_off (enc y) 0 m z1 (by omega)
  rw [if_neg (by simp; omega),if_neg (by simp [s1]; omega),e2]
  congr 1
  apply Array.toList_inj.1
  rw [h2,h1]
  simp [hx,hy,hzl]
  omega
 have hzs:((Array.range (2 * m)).map (fun i=>(Value.agg (enc d).toArray).cells[i % (Value.agg (enc d).toArray).cells.size]!)).size = 2 * m:=by simp
 unfold Instr.buildSlice
 simp only [Sem.run_bind,run_underlying E.und,Result.andThen_ok,E.szo]
 rw [if_neg (by have:=E.small; omega),if_neg (by have:=E.pos; omega)]
 simp only [Sem.run_bind,E.zero,Result.andThen_ok,Sem.run_pure]
 rw [hfill _ hzs]
 rfl
end
theorem rounds_two (its:List It) (i j:Nat) (nm:Nm) (b D:List UInt8) (d:Dlt) (hij:(i = 0 ∧ j = 1) ∨ (i = 1 ∧ j = 0)) (hl:its.length = 2) (hi:its.getD i default = ⟨1,0,default,b⟩) (hj:its.getD j default = ⟨7,0,nm,D⟩) (hnm:nm = idO ⟨1,b,[],noC⟩) (hd:b.length = d.1) (hb:b.length ≤ 1000) (hap:(applyC b d.2).length ≤ 1000) :
  ∃ q:Int × Nat × Mk,roundsV its (fun _=>d) none 3 (mk0 its) = some q ∧ ansB its q = 0 ∧ q.2.2.objs = ((List.replicate 2 zO).set i ⟨1,b,[],noC⟩).set j ⟨1,applyC b d.2,[],noC⟩:=by
 have g1:=gob_blob b hb
 have g2:=gob_blob (applyC b d.2) hap
 have hw:wholesV its its.length = [⟨i,1,[]⟩]:=by
  rw [hl]
  show wholesV its (0 + 1 + 1) = _
  rcases hij with ⟨rfl,rfl⟩ | ⟨rfl,rfl⟩
  ·rw [wholesV_succ,wholesV_succ,hi,hj,if_neg (by show ¬ wholeK 7; decide),if_pos (.inl rfl)]
   rfl
  ·rw [wholesV_succ,wholesV_succ,hi,hj,if_pos (.inl rfl),if_neg (by show ¬ wholeK 7; decide)]
   rfl
 have hk:∀ k,k < 2 → (its.getD k default).kind ≠ 6:=by
  intro k hk
  rcases hij with ⟨rfl,rfl⟩ | ⟨rfl,rfl⟩
  ·obtain rfl | rfl:k = 0 ∨ k = 1:=by omega
   ·rw [hi]; show (1:Nat) ≠ 6; decide
   ·rw [hj]; show (7:Nat) ≠ 6; decide
  ·obtain rfl | rfl:k = 0 ∨ k = 1:=by omega
   ·rw [hj]; show (7:Nat) ≠ 6; decide
   ·rw [hi]; show (1:Nat) ≠ 6; decide
 have hbk:∀ k,backsTo its its.length k = []:=by
  intro k
  refine List.filter_eq_nil_iff.2 fun p hp=>?_
  have:=hk p (by have:=List.mem_range.1 hp; omega)
  unfold isBack
  rw [decide_eq_false this]
  simp
 have hn:∀ x,namesTo its its.length x = if nm = x then [j] else []:=by
  intro x
  have e1:isName its x i = false:=by unfold isName; rw [hi]; rfl
  have e2:isName its x j = decide (nm = x):=by unfold isName; rw [hj]; simp
  rw [hl]
  show namesTo its (0 + 1 + 1) x = _
  rcases hij with ⟨rfl,rfl⟩ | ⟨rfl,rfl⟩
  ·rw [namesTo_succ,namesTo_succ,e1,e2]
   by_cases h:nm = x
   ·simp [h,namesTo]
   ·simp [h,namesTo]
  ·rw [namesTo_succ,namesTo_succ,e1,e2]
   by_cases h:nm = x
   ·simp [h,namesTo]
   ·simp [h,namesTo]
 have t1:takeV its (fun _=>d) ⟨i,1,[]⟩ = (b,0):=by
  unfold takeV
  rw [hi,if_pos (.inl rfl),g1]
 have t2:takeV its (fun _=>d) ⟨j,1,b⟩ = (applyC b d.2,0):=by
  unfold takeV
  rw [hj,if_neg (by show ¬ wholeK 7; decide),if_pos hd,g2]
 have w1:waits its [] nm = [j]:=by
  unfold waits
  rw [if_neg (by simp),hn,if_pos rfl]
 have w2:∀ o,waits its [nm] (idO o) = []:=by
  intro o
  unfold waits
  by_cases h:idO o ∈ [nm]
  ·rw [if_pos h]
  ·rw [if_neg h,hn,if_neg (fun e=>h (by simp [e]))]
 have r1:roundGo its (fun _=>d) [⟨i,1,[]⟩] (mk0 its) [] = (0,⟨(List.replicate 2 zO).set i ⟨1,b,[],noC⟩,1,[nm]⟩,[⟨j,1,b⟩]):=by
  unfold roundGo
  rw [t1,if_pos rfl]
  simp only [g1,hbk,← hnm]
  unfold mk0
  rw [hl,w1]
  rfl
 have r2:roundGo its (fun _=>d) [⟨j,1,b⟩] ⟨(List.replicate 2 zO).set i ⟨1,b,[],noC⟩,1,[nm]⟩ [] = (0,⟨((List.replicate 2 zO).set i ⟨1,b,[],noC⟩).set j ⟨1,applyC b d.2,[],noC⟩,2,[idO ⟨1,applyC b d.2,[],noC⟩,nm]⟩,[]):=by
  unfold roundGo
  rw [t2,if_pos rfl]
  simp only [g2,hbk,w2]
  rfl
 have hjl:j < its.length:=by omega
 refine ⟨(0,1,⟨((List.replicate 2 zO).set i ⟨1,b,[],noC⟩).set j ⟨1,applyC b d.2,[],noC⟩,2,[idO ⟨1,applyC b d.2,[],noC⟩,nm]⟩),?_,?_,rfl⟩
 ·unfold roundsV
  rw [hw,r1,if_pos rfl]
  show roundsGo its (fun _=>d) 3 0 ⟨(List.replicate 2 zO).set i ⟨1,b,[],noC⟩,1,[nm]⟩ [⟨j,1,b⟩] = _
  unfold roundsGo
  rw [if_neg (by simp),if_pos ⟨by simp,by simp,by simp [hjl]; omega⟩,show sortS [⟨j,1,b⟩] = [⟨j,1,b⟩] from List.mergeSort_singleton _,r2,if_pos rfl]
  exact roundsGo_nil _ _ _ _ _
 ·unfold ansB
  simp [hl]
theorem wpList_buildI2 {w:World} {ops:Array Oper} {rest:List Oper} {op:Oper} {a:Act} {Q:Exit → Act → World → Prop} (hgd:op.guard = none) (t u:Operand) (ho:op.op = .buildSlice 38 2 #[(0,t),(1,u)]) (x y:It) (hx:a.eval t = .agg (encI x).toArray) (hy:a.eval u = .agg (encI y).toArray)
  (h:wpList Tryz.prog ops Q rest (a.put op.dst (.slice (some ⟨w.heap.size,0,none⟩) 2 2)) (w.alloc (.cells (encI x ++ encI y).toArray 34))):wpList Tryz.prog ops Q (op :: rest) a w:=
 wpList_plain hgd fun _ hK=>by
  have hb:=run_build_G2 eltI x y w
  unfold Oper.wp
  simp [execOp,ho,hx,hy,hb,Result.andThen]
  exact hK _ _ h
theorem argI_two (x y:It) (w:World):ArgG encI default 35 (w.alloc (.cells (encI x ++ encI y).toArray 34)) (some ⟨w.heap.size,0,none⟩) 2 [x,y]:=by
 refine ⟨by show 2 ≤ 2; decide,by unfold maxLen; decide,(fun e=>by cases e),fun _=>⟨w.heap.size,0,rfl,fun i hi j v hv=>?_⟩⟩
 have hj:j < 35:=by
  have:=(List.getElem?_eq_some_iff.1 hv).1
  rwa [encI_len] at this
 have e:encI x ++ encI y = [x,y].flatMap encI:=by simp
 rw [Nat.zero_add,(Whole.made w 34 (encI x ++ encI y).toArray).at_,List.getElem?_toArray,e,flatG_at (d:=default) encI_len [x,y] i j hi hj]
 exact hv
theorem t_pput2 (x y:It) (hok:okP [x,y]) (w:World) (hTab:Tabs w):Calls Tryz.prog 19 #[.slice (some ⟨w.heap.size,0,none⟩) 2 2] (w.alloc (.cells (encI x ++ encI y).toArray 34)) fun e w'=>e = .returned (.tuple #[.string ⟨(encP [x,y]).toArray⟩,.bool true]) ∧ Below w.heap.size w w':=by
 have hb:=(Below.refl w.heap.size w).alloc (Nat.le_refl _) (.cells (encI x ++ encI y).toArray 34)
 refine (pput_any (some ⟨w.heap.size,0,none⟩) 2 [x,y] _ (hTab.below hb hTab.lt1 hTab.lt2) (argI_two x y w) hok).mono ?_
 rintro e w' ⟨rfl,h⟩
 exact ⟨rfl,hb.trans (h.mono (by simp))⟩
/-- A row of two objects with these bytes. -/
def Two9 (w:World) (g:Nat) (u v:List UInt8):Prop:=∃ p q:Obx,p.x.blob = u ∧ q.x.blob = v ∧ Whole w g 49 (encX p ++ encX q).toArray
theorem t_obj2 (x y:It) (i j:Nat) (nm:Nm) (b D:List UInt8) (d:Dlt) (hij:(i = 0 ∧ j = 1) ∨ (i = 1 ∧ j = 0)) (hi:[x,y].getD i default = ⟨1,0,default,b⟩) (hj:[x,y].getD j default = ⟨7,0,nm,D⟩) (hnm:nm = idO ⟨1,b,[],noC⟩) (hd:b.length = d.1) (hb:b.length ≤ 1000) (hap:(applyC b d.2).length ≤ 1000)
  (hok:okP [x,y]) (h1:D = encD d.1 d.2) (h2:∀ c ∈ d.2,okC d.1 c) (h3:d.1 ≤ 1000000) (h4:sumC d.2 ≤ 1000000) (hD:D.length ≤ 100000) (u v:List UInt8) (huv:(i = 0 ∧ u = b ∧ v = applyC b d.2) ∨ (i = 1 ∧ u = applyC b d.2 ∧ v = b)) (w:World) (hTT:∀ W,Below w.heap.size w W → Tabs W ∧ Tens W) :
  Calls Tryz.prog 20 #[.string ⟨(encP [x,y]).toArray⟩] w fun e w'=>Below w.heap.size w w' ∧ ∃ g,e = .returned (.tuple #[.slice (some ⟨g,0,none⟩) 2 2,.int .i64 0]) ∧ Two9 w' g u v:=by
 obtain ⟨q,e1,e2,e3⟩:=rounds_two [x,y] i j nm b D d hij rfl hi hj hnm hd hb hap
 have hcase:∀ k,k < [x,y].length → k = i ∨ k = j:=fun k hk=>by
  have:k < 2:=hk
  omega
 refine (pobjects_any [x,y] (fun _=>d) 3 q w (hTT w (Below.refl _ _)).1 hok (by show 2 ≤ 200; decide) (by decide) (fun k hk hn=>?_) (fun k hk=>?_) hTT e1).mono ?_
 ·rcases hcase k hk with rfl | rfl
  ·rw [hi] at hn
   exact absurd (.inl rfl) hn
  ·rw [hj]
   exact ⟨h1,h2,h3,h4⟩
 ·rcases hcase k hk with rfl | rfl
  ·rw [hi]
   show b.length ≤ 100000
   omega
  ·rw [hj]
   exact hD
 ·rintro e w' ⟨hbe,hres⟩
  refine ⟨hbe,?_⟩
  rcases hres with ⟨-,p,rfl,hm,-⟩ | ⟨h,-⟩
  ·obtain ⟨xs,hx1,hx2,-⟩:=hm.objs
   rw [e3] at hx1
   have hlen:xs.length = 2:=by
    have:=congrArg List.length hx1
    simpa using this
   obtain ⟨p1,p2,rfl⟩:∃ p1 p2,xs = [p1,p2]:=by
    match xs,hlen with
    | [p1,p2],_=>exact ⟨p1,p2,rfl⟩
   refine ⟨p.go,rfl,p1,p2,?_,?_,by simpa using hx2⟩
   ·rcases huv with ⟨rfl,rfl,rfl⟩ | ⟨rfl,rfl,rfl⟩
    ·obtain rfl:j = 1:=by omega
     injection hx1 with a1 a2
     rw [a1]
    ·obtain rfl:j = 0:=by omega
     injection hx1 with a1 a2
     rw [a1]
   ·rcases huv with ⟨rfl,rfl,rfl⟩ | ⟨rfl,rfl,rfl⟩
    ·obtain rfl:j = 1:=by omega
     injection hx1 with a1 a2
     injection a2 with a2
     rw [a2]
    ·obtain rfl:j = 0:=by omega
     injection hx1 with a1 a2
     injection a2 with a2
     rw [a2]
  ·exact absurd e2 h
theorem two_cells {w:World} {g:Nat} {u v:List UInt8} (h:Two9 w g u v):w.cell? ⟨g,1,none⟩ = some (.string ⟨u.toArray⟩) ∧ w.cell? ⟨g,39,none⟩ = some (.string ⟨v.toArray⟩):=by
 obtain ⟨p,q,rfl,rfl,h⟩:=h
 constructor
 ·rw [h.at_]
  rfl
 ·rw [h.at_,List.getElem?_toArray,List.getElem?_append_right (by rw [encX_len]; decide),encX_len]
  rfl
theorem wbehind_any (base text:List UInt8) (w:World) (hE:Env w) (hT:Tens w) (hbeg:Calls Tryz.prog 14 #[] w fun e w'=>e = .returned (.bool true) ∧ Below w.heap.size w w') :
  Calls Tryz.prog 11 #[.string ⟨base.toArray⟩,.string ⟨text.toArray⟩] w fun e w'=>e = .returned (.bool true) ∧ Below w.heap.size w w':=by
 have HTT:Hid (∀ W,Below w.heap.size w W → Tabs W ∧ Tens W):=fun W h=>⟨(hE.at_ h).tabs,hT.below h⟩
 have HBEG:=Hy hbeg
 clear hE hT hbeg
 go_enter Tryz.func11,Tryz.ntmps11
 go_wp2_with fail
 refine HBEG.out.mono ?_
 rintro e w1 ⟨rfl,hb⟩
 have B1:=Hy hb
 have HT1:=Hy (text_any base 100 w1)
 have HT2:=Hy (text_any text 50 w1)
 have hl1:(base.take 100).length ≤ 100:=by rw [List.length_take]; omega
 have hl2:(text.take 50).length ≤ 50:=by rw [List.length_take]; omega
 clear hb HBEG
 generalize base.take 100 = B at *
 generalize text.take 50 = X at *
 go_wp2_with fail
 refine HT1.out.mono ?_
 rintro e w' ⟨rfl,rfl⟩
 go_wp2_with fail
 refine HT2.out.mono ?_
 rintro e w' ⟨rfl,rfl⟩
 clear HT1 HT2
 obtain ⟨nm,hnm⟩:∃ nm,nm = idO ⟨1,B,[],noC⟩:=⟨_,rfl⟩
 have hid:encN nm = (ShaM.sha (named 1 B)).map Y:=by rw [hnm]; unfold idO; rw [if_pos (ob_blob B (by omega))]; rfl
 have HRI:=Hy (rid_any 1 B w1 (by omega))
 rw [← hid] at HRI
 have HX:=ba_append B X
 have HMK:Hid (∀ W,Calls Tryz.prog 16 #[.string ⟨B.toArray⟩,.string (⟨B.toArray⟩ ++ ⟨X.toArray⟩)] W fun e w'=>(∃ cs,e = .returned (.string ⟨(encD B.length cs).toArray⟩) ∧ (∀ c ∈ cs,okC B.length c) ∧ applyC B cs = B ++ X ∧ sumC cs = (B ++ X).length ∧ (encD B.length cs).length ≤ (B ++ X).length + (B ++ X).length / 100 + 7) ∧ Below W.heap.size W w'):=fun W=>by
  rw [show ((⟨B.toArray⟩:ByteArray) ++ ⟨X.toArray⟩) = ⟨(B ++ X).toArray⟩ from HX]
  exact dmake_any B (B ++ X) (by omega) (by rw [List.length_append]; omega) W
 have HXH:=Hy HX
 have HNM:=Hy hnm
 clear hid HX hnm
 go_wp2_with fail
 refine HRI.out.mono ?_
 rintro e w2 ⟨rfl,hb⟩
 have B2:=Hy (hTr B1 hb)
 clear hb B1 HRI
 go_wp2_with fail
 refine (HMK.out w2).mono ?_
 rintro e w3 ⟨⟨cs,rfl,hok,hap,hsum,hdl⟩,hb⟩
 have B3:=Hy (hTr B2 hb)
 have hlx:(B ++ X).length ≤ 150:=by rw [List.length_append]; omega
 have HOK:=Hy hok
 have HAP:=Hy hap
 have hsl:sumC cs ≤ 1000000:=by omega
 have hdl2:(encD B.length cs).length ≤ 100000:=by omega
 obtain ⟨D,hD⟩:∃ D,D = encD B.length cs:=⟨_,rfl⟩
 rw [← hD] at hdl2 ⊢
 have HDD:=Hy hD
 clear hb B2 HMK hok hap hsum hdl hD
 obtain ⟨zd,hzd⟩:∃ zd:It,zd = ⟨7,0,nm,D⟩:=⟨_,rfl⟩
 obtain ⟨zw,hzw⟩:∃ zw:It,zw = ⟨1,0,default,B⟩:=⟨_,rfl⟩
 have HZD:Hid (Value.agg (.int .i64 7 :: .int .i64 0 :: (encN nm ++ [.string ⟨D.toArray⟩])).toArray = .agg (encI zd).toArray):=by show _ = _; rw [hzd]; rfl
 have HZW:Hid (Value.agg #[.int .i64 1,.int .i64 0,Z8,Z8,Z8,Z8,Z8,Z8,Z8,Z8,Z8,Z8,Z8,Z8,Z8,Z8,Z8,Z8,Z8,Z8,Z8,Z8,Z8,Z8,Z8,Z8,Z8,Z8,Z8,Z8,Z8,Z8,Z8,Z8,.string ⟨B.toArray⟩] = .agg (encI zw).toArray):=by show _ = _; rw [hzw]; rfl
 have HED:=Hy hzd
 have HEW:=Hy hzw
 clear hzd hzw
 go_upto_region 6 with (first
  | (refine wpList_buildI7 rfl _ _ _ rfl 7 nm ⟨D.toArray⟩ rfl rfl rfl ?_)
  | (refine wpList_store_whole rfl 34 _ _ rfl w3.heap.size (encI zd).toArray rfl HZD.out 34 _ (Whole.made w3 _ _) (infoI_s zd) (by rw [encI_size]; rfl) (encI_all zd) ?_; intro w4 hWn hGn; have HW4:=Hy hWn; have D4:=Hy (made_below' hGn); clear hWn hGn))
 have B4:=Hy (hTr B3 D4.out)
 clear B3 D4
 go_upto_region 7 with (refine wpList_store_whole rfl 34 _ _ rfl w4.heap.size (encI zw).toArray rfl HZW.out 34 _ (Whole.made w4 _ _) (infoI_s zw) (by rw [encI_size]; rfl) (encI_all zw) ?_; intro w5 hWn hGn; have HV5:=Hy hWn; have D5:=Hy (made_below' hGn); clear hWn hGn)
 have B5:=Hy (hTr B4 D5.out)
 have HW5:=Hy (HW4.out.below D5.out HW4.out.lt)
 clear B4 D5 HW4
 have hok1:okP [zd,zw]:=by
  rw [HED.out,HEW.out]
  refine ⟨by show 2 ≤ 200; decide,fun k hk=>?_⟩
  obtain rfl | rfl:k = 0 ∨ k = 1:=by have:k < 2:=hk; omega
  ·exact ⟨hdl2,.inr (.inr ⟨rfl,rfl⟩)⟩
  ·exact ⟨by show B.length ≤ 100000; omega,.inl ⟨.inl rfl,rfl,rfl⟩⟩
 have hok2:okP [zw,zd]:=by
  rw [HED.out,HEW.out]
  refine ⟨by show 2 ≤ 200; decide,fun k hk=>?_⟩
  obtain rfl | rfl:k = 0 ∨ k = 1:=by have:k < 2:=hk; omega
  ·exact ⟨by show B.length ≤ 100000; omega,.inl ⟨.inl rfl,rfl,rfl⟩⟩
  ·exact ⟨hdl2,.inr (.inr ⟨rfl,rfl⟩)⟩
 have OK1:=Hy hok1
 have OK2:=Hy hok2
 clear hok1 hok2
 go_wp2_with (first
  | (refine wpList_load_row rfl 34 _ rfl w3.heap.size rfl 34 (encI zd).toArray (0,0) _ HW5.out Tryz.underlying34 rfl (infoI_s zd) ?_)
  | (refine wpList_load_row rfl 34 _ rfl w4.heap.size rfl 34 (encI zw).toArray (0,0) _ HV5.out Tryz.underlying34 rfl (infoI_s zw) ?_)
  | (refine wpList_buildI2 rfl _ _ rfl zd zw rfl rfl ?_))
 refine (t_pput2 zd zw OK1.out w5 (HTT.out w5 B5.out).1).mono ?_
 rintro e w6 ⟨rfl,hb⟩
 have B6:=Hy (hTr B5 hb)
 have HW6:=Hy (HW5.out.below hb HW5.out.lt)
 have HV6:=Hy (HV5.out.below hb HV5.out.lt)
 obtain ⟨P1,hP1⟩:∃ P1,P1 = encP [zd,zw]:=⟨_,rfl⟩
 rw [← hP1]
 have HP1:=Hy hP1
 clear hb B5 HW5 HV5 hP1
 go_wp2_with (first
  | (refine wpList_load_row rfl 34 _ rfl w3.heap.size rfl 34 (encI zd).toArray (0,0) _ HW6.out Tryz.underlying34 rfl (infoI_s zd) ?_)
  | (refine wpList_load_row rfl 34 _ rfl w4.heap.size rfl 34 (encI zw).toArray (0,0) _ HV6.out Tryz.underlying34 rfl (infoI_s zw) ?_)
  | (refine wpList_buildI2 rfl _ _ rfl zw zd rfl rfl ?_))
 refine (t_pput2 zw zd OK2.out w6 (HTT.out w6 B6.out).1).mono ?_
 rintro e w7 ⟨rfl,hb⟩
 have B7:=Hy (hTr B6 hb)
 obtain ⟨P2,hP2⟩:∃ P2,P2 = encP [zw,zd]:=⟨_,rfl⟩
 rw [← hP2]
 have HP2:=Hy hP2
 have hla:(applyC B cs).length ≤ 1000:=by rw [HAP.out]; omega
 have HO1:=Hy (t_obj2 zd zw 1 0 nm B D (B.length,cs) (.inr ⟨rfl,rfl⟩) HEW.out HED.out HNM.out rfl (by omega) hla OK1.out HDD.out HOK.out (by show B.length ≤ 1000000; omega) hsl hdl2 (applyC B cs) B (.inr ⟨rfl,rfl,rfl⟩) w7 (fun W h=>HTT.out W (B7.out.trans (h.mono B7.out.size))))
 rw [← HP1.out,HAP.out] at HO1
 clear hb B6 HW6 HV6 hP2
 go_wp2_with fail
 refine HO1.out.mono ?_
 rintro e w8 ⟨hb,g8,rfl,htw⟩
 have B8:=Hy (hTr B7 hb)
 have HO2:=Hy (t_obj2 zw zd 0 1 nm B D (B.length,cs) (.inl ⟨rfl,rfl⟩) HEW.out HED.out HNM.out rfl (by omega) hla OK2.out HDD.out HOK.out (by show B.length ≤ 1000000; omega) hsl hdl2 B (applyC B cs) (.inl ⟨rfl,rfl,rfl⟩) w8 (fun W h=>HTT.out W (B8.out.trans (h.mono B8.out.size))))
 rw [← HP2.out,HAP.out] at HO2
 have HTW:=Hy htw
 clear hb B7 HO1 htw
 go_wp2_with fail
 refine HO2.out.mono ?_
 rintro e w9 ⟨hb,g9,rfl,htw2⟩
 have B9:=Hy (hTr B8 hb)
 obtain ⟨c1,c2⟩:=two_cells HTW.out
 obtain ⟨c3,c4⟩:=two_cells htw2
 have hXX:(⟨(B ++ X).toArray⟩:ByteArray) = ⟨B.toArray⟩ ++ ⟨X.toArray⟩:=HXH.out.symm
 rw [hXX] at c1 c4
 have k1:=cell_grown c1 (grown_none hb) (by simp)
 have k2:=cell_grown c2 (grown_none hb) (by simp)
 clear hb B8 HO2 htw2 HTW c1 c2 hXX
 go_wp2
 go_ret
 exact ⟨rfl,B9.out⟩
end Go.Proofs.YtlfmooihcigolaaGreatDoor

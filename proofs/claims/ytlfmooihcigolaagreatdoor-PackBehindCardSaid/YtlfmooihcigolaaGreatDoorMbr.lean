/-
  TreX, TreF.
-/
import Derived.Test.YtlfmooihcigolaaGreatDoorMaz
import Derived.Test.YtlfmooihcigolaaGreatDoorMaq
set_option maxRecDepth 100000
set_option maxHeartbeats 8000000
namespace Go.Proofs.YtlfmooihcigolaaGreatDoor
section
open Go.RowKit Go.Shelf
attribute [local go_sem] Oper.semAt_some
def S1 (l:List UInt8):Value:=.string ⟨l.toArray⟩
theorem own_vals {w:World} {B:Nat} {e:TypeId} {v:Value} {n:Nat} {xs:List Value} (hn:xs.length = n) (h:w.ownsRow B e 1 v n xs):∃ A c,v = .slice A n c ∧ Arg w A c xs:=by
 rcases h.2 with ⟨rfl,h0⟩ | ⟨g,cap,cur,rfl,hB,hg,hc,hm,hs,ht⟩
 ·exact ⟨none,0,by rw [h0],by omega,by unfold maxLen; omega,.inl ⟨rfl,rfl⟩⟩
 ·refine ⟨_,cap,rfl,by omega,hm,.inr ⟨_,rfl,fun j u hu=>?_⟩⟩
  have hj:=(List.getElem?_eq_some_iff.1 hu).1
  rw [Addr.add_mid,Nat.zero_add,cell_of_row _ _ _ _ _ _ hg]
  rw [← ht,List.getElem?_take_of_lt (by omega)] at hu
  simpa using hu
theorem own_below {w w':World} {B:Nat} {v:Value} {n:Nat} {xs:List Value} {e:TypeId} {k:Nat} (h:w.ownsRow B e k v n xs) (hb:Below w.heap.size w w'):w'.ownsRow B e k v n xs:=by
 refine ⟨h.1,?_⟩
 rcases h.2 with h0 | ⟨g,cap,cur,hv,hB,hg,rest⟩
 ·exact .inl h0
 ·exact .inr ⟨g,cap,cur,hv,hB,(hb.block g (Array.getElem?_eq_some_iff.1 hg).1).trans hg,rest⟩
theorem path_box {W w1 w2:World} {N k:Nat} {v:Value} {xs:List Value} {tmp:Obj} {t:TypeId} (hb:Below W.heap.size W w1) (hs:N + 6 ≤ W.heap.size) (hv:Boxed W (N + 1 + 1) t v) (hrow:W.ownsRow (N + 6) 9 1 v k xs)
  (hg:(w1.alloc tmp).grownBy w2 v.ownBlock):Boxed w2 (N + 1 + 1) t v:=
 (hg.block _ (by have:=hb.size; simp; omega) (fun e=>by have:=(hrow.lt _ e.symm).1; omega)).trans ((Below.heap_alloc w1 tmp _ (by have:=hb.size; omega)).trans ((hb.block _ (by omega)).trans hv))
theorem wpIn_append_str {F:Fence} {n:Nat} {w:World} {o:Oper} {a:Act} {K:Act → World → Prop} {Q:Exit → Act → World → Prop} (s x:Operand) (hop:o.op = Op.call { callee:=Callee.builtin Builtin.append,args:=#[s,x],argTypes:=#[223,223] })
  (B:Nat) (v:Value) (k:Nat) (xs:List Value) (hs:a.eval s = v) (hown:w.ownsRow B 9 1 v k xs) (ad:Addr) (c:Nat) (y:List UInt8) (hx:a.eval x = .slice (some ad) 1 c) (hc:w.cell? ad = some (S1 y)) (b1:k ≤ 1048577) (b3:B ≤ w.heap.size)
  (hK:∀ v' w',w'.ownsRow B 9 1 v' (k + 1) (xs ++ [S1 y]) → w.grownBy w' v.ownBlock → K (a.put o.dst v') w'):Oper.wpIn F n Tryz.prog o a w K Q:=by
 obtain ⟨i0,hi,hz0,hz1,hz2⟩:=info_parts infoS
 obtain ⟨v',w',hrun,r1,r2,-⟩:=run_append_own (P:=Tryz.prog) w B 223 o.type 9 i0 (.string ⟨#[]⟩) 1 16 Tryz.underlying223 hi hz0 hz1 hz2 rfl (by decide) v k xs hown ad 1 c [S1 y] rfl (by
  intro j u hu
  cases j with
  | zero=>
   obtain rfl:S1 y = u:=by simpa using hu
   simpa [Addr.add] using hc
  | succ j=>simp at hu) (by intro u hu; rw [List.mem_singleton.1 hu]; rfl) (by unfold maxLen; omega) (by omega) b3
 unfold Oper.wpIn
 refine ⟨?_,?_⟩
 ·simp [Oper.about,hop,resolve,Target.leads,Sem.run_pure]
 ·rw [Oper.semAt_plain F _ _ (by rw [hop]; intro c hc'; cases hc')]
  simp [execOp,hop,resolve,invoke,builtin,hs,hx,hrun,Result.andThen]
  exact hK _ _ r1 r2
theorem path_fin {W w1 w2:World} {N k m:Nat} {v v':Value} {xs ys:List Value} {tmp:Obj} {t:TypeId} (hb:Below W.heap.size W w1) (hs:N + 6 ≤ W.heap.size) (hv:Boxed W (N + 1 + 1) t v) (hrow:W.ownsRow (N + 6) 9 1 v k xs)
  (hg:(w1.alloc tmp).grownBy w2 v.ownBlock) (hown:w2.ownsRow (N + 6) 9 1 v' m ys) :
  KeepsOthers W (w2.setCell ⟨N + 1 + 1,0,none⟩ v') ∧ KpR (N + 1 + 1 + 1) W (w2.setCell ⟨N + 1 + 1,0,none⟩ v') ∧ Boxed (w2.setCell ⟨N + 1 + 1,0,none⟩ v') (N + 1 + 1) t v' ∧ (w2.setCell ⟨N + 1 + 1,0,none⟩ v').ownsRow (N + 6) 9 1 v' m ys ∧
   (∀ b t' u,b < N + 1 + 1 → Boxed W b t' u → Boxed (w2.setCell ⟨N + 1 + 1,0,none⟩ v') b t' u) ∧ ∀ w,Below N w W → Below N w (w2.setCell ⟨N + 1 + 1,0,none⟩ v'):=by
 have hsz:W.heap.size ≤ w2.heap.size:=by have:=hb.size; have:=hg.size; simp at this; omega
 have hlow:∀ j,v.ownBlock = some j → N + 6 ≤ j:=fun j hj=>(hrow.lt j hj).1
 have hcells:∀ j,v.ownBlock = some j → ∃ o:Obj,W.heap[j]? = some o ∧ o.isCells = true:=by
  intro j hj
  rcases hrow.2 with ⟨rfl,_⟩ | ⟨g,cap,cur,rfl,_,hgb,_⟩
  ·cases hj
  ·obtain rfl:g = j:=by simpa [Value.ownBlock] using hj
   exact ⟨_,hgb,rfl⟩
 have blk:∀ j,j < W.heap.size → j ≠ N + 1 + 1 → some j ≠ v.ownBlock → (w2.setCell ⟨N + 1 + 1,0,none⟩ v').heap[j]? = W.heap[j]?:=by
  intro j h1 h2 h3
  have h4:j < w1.heap.size:=Nat.lt_of_lt_of_le h1 hb.size
  exact (Below.heap_setCell w2 _ v' j (fun e=>h2 e)).trans ((hg.block j (by simp; omega) h3).trans ((Below.heap_alloc w1 tmp j h4).trans (hb.block j h1)))
 have hv2:Boxed w2 (N + 1 + 1) t v:=(hg.block _ (by have:=hb.size; simp; omega) (fun e=>by have:=hlow _ e.symm; omega)).trans ((Below.heap_alloc w1 tmp _ (by have:=hb.size; omega)).trans ((hb.block _ (by omega)).trans hv))
 refine ⟨⟨by simpa [World.setCell] using hsz,fun j o hj ho=>?_⟩,⟨by simpa [World.setCell] using hsz,fun j h1 h2=>blk j (by omega) (by omega) (fun e=>by have:=hlow _ e.symm; omega)⟩,hv2.set v',hown.kept (grownBy_setCell' w2 (N + 1 + 1) v') (.inr (fun e=>by have:=(hown.lt _ e).1; omega)),fun b t' u h1 h2=>(blk b (by omega) (by omega) (fun e=>by have:=hlow _ e.symm; omega)).trans h2,fun w h=>⟨?_,?_,?_,Nat.le_trans h.size (by simpa [World.setCell] using hsz),fun j hj=>(blk j (by omega) (by omega) (fun e=>by have:=hlow _ e.symm; omega)).trans (h.block j hj)⟩⟩
 ·refine (blk j (Array.getElem?_eq_some_iff.1 hj).1 (fun e=>?_) (fun e=>?_)).trans hj
  ·subst e
   rw [show W.heap[N + 1 + 1]? = _ from hv] at hj
   cases hj
   cases ho
  ·obtain ⟨o',ho',hc'⟩:=hcells j e.symm
   rw [hj] at ho'
   cases ho'
   rw [ho] at hc'
   cases hc'
 ·exact hg.os.trans (hb.os.trans h.os)
 ·exact hg.tape.trans (hb.tape.trans h.tape)
 ·exact hg.output.trans (hb.output.trans h.output)
theorem tpath_nil (w:World):Calls Tryz.prog 153 #[.string ⟨#[]⟩] w fun e w'=>e = .returned (.tuple #[.slice none 0 0,.bool true]) ∧ Below w.heap.size w w':=by
 have HB:=Hy (((Below.refl w.heap.size w).alloc (Nat.le_refl _) (.cells #[.slice none 0 0] 223)).alloc (by simp) (.cells #[.bool false] 4))
 go_enter Tryz.func153,Tryz.ntmps153
 go_wp2
 have hW:Boxed ((w.alloc (.cells #[.slice none 0 0] 223)).alloc (.cells #[.bool true] 4)) w.heap.size 223 (.slice none 0 0):=(Boxed.new w _ _).alloc _
 have hV:=Boxed.new (w.alloc (.cells #[.slice none 0 0] 223)) 4 (.bool true)
 rw [World.size_alloc] at hV
 have c1:=hW.cell
 have c2:=hV.cell
 refine bodyPost_ret (v:=.tuple #[.slice none 0 0,.bool true]) ?_ rfl ⟨rfl,((Below.refl _ _).alloc (Nat.le_refl _) _).alloc (by simp) _⟩
 simp [results,Tryz.results153,go_sem,c1,c2]
theorem tpath_go (s:List UInt8) (w:World) (hl:s.length ≤ 1048576) (hne:s ≠ []) :
  Calls Tryz.prog 153 #[.string ⟨s.toArray⟩] w fun e w'=>((∃ ps A c,pathV s = some ps ∧ e = .returned (.tuple #[.slice A (List.length ps) c,.bool true]) ∧ Arg w' A c (ps.map S1)) ∨ (pathV s = none ∧ e = .returned (.tuple #[.slice none 0 0,.bool false]))) ∧ Below w.heap.size w w':=by
 refine (callsIn_wide (n:=8)).1 ?_
 have hie:s.isEmpty = false:=by cases s with
  | nil=>exact absurd rfl hne
  | cons a r=>rfl
 refine callsIn_of_wp_marks Tryz.func153 rfl trivial ?_ rfl
 simp only [Tryz.ntmps153,List.size_toArray,List.length_cons,List.length_nil,Nat.reduceAdd,Nat.reduceSub,Array.replicate_succ,Array.replicate_zero,List.push_toArray,List.append_toArray,List.nil_append,List.cons_append]
 gi_wp2_with (refine ⟨trivial,?_⟩; gi_at_call 199; refine (callsIn_wide.2 (seq_any s _)).mono ?_; rintro e w' ⟨rfl,rfl⟩)
 obtain ⟨N,hN⟩:∃ N,N = w.heap.size:=⟨_,rfl⟩
 have b0:Boxed (((((((w.alloc (.cells #[.slice none 0 0] 223)).alloc (.cells #[.bool false] 4)).alloc (.cells #[.slice none 0 0] 223)).alloc (.cells #[.string ⟨s.toArray⟩] 9)).alloc (.cells #[.string ⟨#[47]⟩] 9)).alloc (.cells #[.int .i64 0] 3))) w.heap.size 223 (.slice none 0 0):=
  (((((Boxed.new w _ _).alloc _).alloc _).alloc _).alloc _).alloc _
 have b1:=(((((Boxed.new (w.alloc (.cells #[.slice none 0 0] 223)) 4 (.bool false)).alloc (.cells #[.slice none 0 0] 223)).alloc (.cells #[.string ⟨s.toArray⟩] 9)).alloc (.cells #[.string ⟨#[47]⟩] 9)).alloc (.cells #[.int .i64 0] 3))
 have b2:=((((Boxed.new ((w.alloc (.cells #[.slice none 0 0] 223)).alloc (.cells #[.bool false] 4)) 223 (.slice none 0 0)).alloc (.cells #[.string ⟨s.toArray⟩] 9)).alloc (.cells #[.string ⟨#[47]⟩] 9)).alloc (.cells #[.int .i64 0] 3))
 have b3:=(((Boxed.new (((w.alloc (.cells #[.slice none 0 0] 223)).alloc (.cells #[.bool false] 4)).alloc (.cells #[.slice none 0 0] 223)) 9 (.string ⟨s.toArray⟩)).alloc (.cells #[.string ⟨#[47]⟩] 9)).alloc (.cells #[.int .i64 0] 3))
 have b4:=((Boxed.new ((((w.alloc (.cells #[.slice none 0 0] 223)).alloc (.cells #[.bool false] 4)).alloc (.cells #[.slice none 0 0] 223)).alloc (.cells #[.string ⟨s.toArray⟩] 9)) 9 (.string ⟨#[47]⟩)).alloc (.cells #[.int .i64 0] 3))
 have b5:=Boxed.new (((((w.alloc (.cells #[.slice none 0 0] 223)).alloc (.cells #[.bool false] 4)).alloc (.cells #[.slice none 0 0] 223)).alloc (.cells #[.string ⟨s.toArray⟩] 9)).alloc (.cells #[.string ⟨#[47]⟩] 9)) 3 (.int .i64 0)
 have hB:Below w.heap.size w (((((((w.alloc (.cells #[.slice none 0 0] 223)).alloc (.cells #[.bool false] 4)).alloc (.cells #[.slice none 0 0] 223)).alloc (.cells #[.string ⟨s.toArray⟩] 9)).alloc (.cells #[.string ⟨#[47]⟩] 9)).alloc (.cells #[.int .i64 0] 3))):=
  (((((((Below.refl w.heap.size w).alloc (Nat.le_refl _) _).alloc (by simp) _).alloc (by simp; omega) _).alloc (by simp; omega) _).alloc (by simp; omega) _).alloc (by simp; omega) _)
 have hs0:(((((((w.alloc (.cells #[.slice none 0 0] 223)).alloc (.cells #[.bool false] 4)).alloc (.cells #[.slice none 0 0] 223)).alloc (.cells #[.string ⟨s.toArray⟩] 9)).alloc (.cells #[.string ⟨#[47]⟩] 9)).alloc (.cells #[.int .i64 0] 3))).heap.size = N + 6:=by rw [hN]; simp
 simp only [World.size_alloc] at b1 b2 b3 b4 b5
 generalize (((((((w.alloc (.cells #[.slice none 0 0] 223)).alloc (.cells #[.bool false] 4)).alloc (.cells #[.slice none 0 0] 223)).alloc (.cells #[.string ⟨s.toArray⟩] 9)).alloc (.cells #[.string ⟨#[47]⟩] 9)).alloc (.cells #[.int .i64 0] 3))) = w0 at *
 rw [← hN] at b0 b1 b2 b3 b4 b5 hB ⊢
 have HB3:=Hy b3
 have HB4:=Hy b4
 have HB5:=Hy b5
 have HN:=Hy hN
 clear b3 b4 b5 hN
 refine range_cell (F:=Fence.wide) (n:=8) (w:=w0) (encs:=fun x:List UInt8=>#[Value.string ⟨x.toArray⟩]) (Kp:=KpR (N + 1 + 1 + 1)) (S:=fun xs=>xs = splitV s) (Sp:=fun pre=>pre <+: splitV s) (N:=s.length + 1) (Ok:=fun x=>x.length ≤ s.length) (ps:=#[10]) rfl (by omega) (gf:=272) (lb:=#[.pointer (some ⟨N + 1 + 1 + 1 + 1,0,none⟩),.pointer (some ⟨N + 1 + 1 + 1,0,none⟩),.pointer (some ⟨N + 1 + 1 + 1 + 2,0,none⟩)]) ?hg trivial (enters_of Tryz.func272 (by kernel_rfl) rfl) (B0:=N + 1 + 1 + 1) (by omega)
  (seq_stops s hl 7 (by omega) (N + 1 + 1 + 1) w0 HB3.out HB4.out HB5.out) (fun h k=>⟨Nat.le_trans h.1 k.1,fun j h1 h2=>(k.2 j h1 h2).trans (h.2 j h1 h2)⟩)
  (fun W l o' h1 h2=>⟨by simp [World.putObj],fun k h3 h4=>World.putObj_heap_other (by omega)⟩) (fun _=>rfl)
  (fun pre W=>(∃ v,Boxed W (N + 1 + 1) 223 v ∧ W.ownsRow (N + 6) 9 1 v pre.length (pre.map S1)) ∧ Boxed W N 223 (.slice none 0 0) ∧ Boxed W (N + 1) 4 (.bool false) ∧ pre.all okName = true ∧ Below N w W)
  (fun c pre W=>c = .ret ∧ Boxed W N 223 (.slice none 0 0) ∧ Boxed W (N + 1) 4 (.bool false) ∧ (∃ x ∈ pre,okName x = false) ∧ Below N w W)
  ?_ ?_ ?_ ?_ ?_ (fun x=>{ tmps:=#[.string ⟨s.toArray⟩,undef,.pointer (some ⟨N,0,none⟩),.pointer (some ⟨N + 1,0,none⟩),.pointer (some ⟨N + 1 + 1,0,none⟩),.string ⟨x.toArray⟩,.string ⟨s.toArray⟩,.bool false,.string ⟨s.toArray⟩,.func (.func 272) #[] #[.pointer (some ⟨N + 1 + 1 + 1 + 1,0,none⟩),.pointer (some ⟨N + 1 + 1 + 1,0,none⟩),.pointer (some ⟨N + 1 + 1 + 1 + 2,0,none⟩)],.string ⟨x.toArray⟩,undef,undef,undef,undef,undef,undef,undef,undef,undef],defers:=[] }) ?assign ?body ?done ?stop
 case hg=>rfl
 case assign=>
  intro l x W K hK
  gi_wp2
  exact hK
 ·rintro pre X Y row ⟨⟨v,hv,hrow⟩,b2,b3,hall,hB⟩ hg hr
  refine ⟨?_,b2.kept hg (fun e=>by have:=(hr _ e.symm).1; omega),b3.kept hg (fun e=>by have:=(hr _ e.symm).1; omega),hall,hB.grown hg (by have:=hB.size; have:=HN.out; omega) (fun k e=>by have:=(hr k e).1; omega)⟩
  exact holdsRow_own (N + 6) (N + 1 + 1) 223 9 1 (fun pre:List (List UInt8)=>pre.length) (fun pre=>pre.map S1) (fun _ _=>True) pre X Y row ⟨v,hv,hrow,trivial⟩ hg (fun r e=>(hr r e).2) |>.imp fun u h=>⟨h.1,h.2.1⟩
 ·rintro c pre X Y row ⟨rfl,b2,b3,hex,hB⟩ hg hr
  exact ⟨rfl,b2.kept hg (fun e=>by have:=(hr _ e.symm).1; omega),b3.kept hg (fun e=>by have:=(hr _ e.symm).1; omega),hex,hB.grown hg (by have:=hB.size; have:=HN.out; omega) (fun k e=>by have:=(hr k e).1; omega)⟩
 ·rintro pre X Y row ⟨⟨v,hv,hrow⟩,b2,b3,hall,hB⟩ hg hr
  exact ⟨⟨v,hv.kept hg (fun e=>by have:=hr _ e.symm; omega),hrow.kept hg (by
   cases hq:v.ownBlock with
   | none=>exact .inl rfl
   | some r=>
    refine .inr (fun e=>?_)
    have h1:=(hrow.lt r hq).1
    have h2:=hr r e.symm
    omega)⟩,b2.kept hg (fun e=>by have:=hr _ e.symm; omega),b3.kept hg (fun e=>by have:=hr _ e.symm; omega),hall,hB.grown hg (by have:=hB.size; have:=HN.out; omega) (fun k e=>by have:=hr k e; omega)⟩
 ·rintro c pre X Y row ⟨rfl,b2,b3,hex,hB⟩ hg hr
  exact ⟨rfl,b2.kept hg (fun e=>by have:=hr _ e.symm; omega),b3.kept hg (fun e=>by have:=hr _ e.symm; omega),hex,hB.grown hg (by have:=hB.size; have:=HN.out; omega) (fun k e=>by have:=hr k e; omega)⟩
 ·exact ⟨⟨_,b2,World.ownsRow_nil _ _ _ _⟩,b0,b1,rfl,hB⟩
 case body=>
  rintro l pre x W hsz ⟨⟨v,hv,hrow⟩,b2,b3,hall,hB⟩ hlen hok
  have c4:=hv.cell
  have f4:=hv.frozen
  have c2:=b2.cell
  have c3:=b3.cell
  have f2:=b2.frozen
  have f3:=b3.frozen
  have HNM:=Hy (fun W=>name_any x W)
  have hok:x.length ≤ s.length:=hok
  have hsz:N + 6 ≤ W.heap.size:=by omega
  have HXL:Hid (x.length ≤ 281474976710656):=by show _ ≤ _; omega
  cases hx:okName x with
  | false=>
   rw [hx] at HNM
   have HX:=Hy hx
   have HBW:=Hy hB
   have HB2:=Hy b2
   have HB3:=Hy b3
   clear hx
   gi_wp2_with (refine ⟨trivial,?_⟩; gi_at_call 200; refine (CallsIn.inRound l (callsIn_wide.2 (HNM.out _))).mono ?_; rintro e w' ⟨rfl,rfl⟩)
   exact ⟨(KeepsOthers.setCell W _ _).trans (KeepsOthers.setCell _ _ _),rfl,(HB2.out.set (.slice none 0 0)).kept (grownBy_setCell' _ (N + 1) _) (by simp),(HB3.out.kept (grownBy_setCell' W N (.slice none 0 0)) (by simp)).set (.bool false),⟨x,by simp,HX.out⟩,(HBW.out.setCell (p:=⟨N,0,none⟩) (Nat.le_refl _) _).setCell (p:=⟨N + 1,0,none⟩) (by simp) _⟩
  | true=>
  rw [hx] at HNM
  have HBW:=Hy hB
  have HB2:=Hy b2
  have HB3:=Hy b3
  have HAX:Hid ((pre ++ [x]).all okName = true):=by
   show _ = _
   rw [List.all_append,hall]
   simp [hx]
  have HPX:Hid ((pre ++ [x]).map S1 = pre.map S1 ++ [S1 x]):=by show _ = _; simp
  clear hx
  gi_wp2_with (refine ⟨trivial,?_⟩; gi_at_call 200; refine (CallsIn.inRound l (callsIn_wide.2 (HNM.out _))).mono ?_; rintro e w' ⟨rfl,rfl⟩)
  have HKD:=Hy (KeepsOthers.refl W)
  have cd:(World.drew W).cell? ⟨N + 1 + 1,0,none⟩ = some v:=c4
  refine wpIn_region_any (by kernel_rfl) ?_
  change wpAnyIn _ _ _ _ _ _ _ _ _ (World.drew _)
  refine wpAnyIn_ready (rs:=[0,1]) (by kernel_rfl) (by simp) ?_
  refine AllReadyIn.cons (o:=_) rfl (fun K hK=>?_) (AllReadyIn.cons (o:=_) rfl (fun K hK=>?_) (AllReadyIn.nil))
  ·rw [if_pos (by rfl)]
   go_simp
   refine hK _ _ ?_
   clear hK K
   refine wpAnyIn_ready (rs:=[1]) (by kernel_rfl) (by simp) ?_
   refine AllReadyIn.cons (o:=_) rfl (fun K hK=>?_) (AllReadyIn.nil)
   ·rw [if_pos (by rfl)]
    go_simp
    refine hK _ _ ?_
    clear hK K
    refine wpAnyIn_ready (rs:=[2]) (by kernel_rfl) (by simp) ?_
    refine AllReadyIn.cons (o:=_) rfl (fun K hK=>?_) (AllReadyIn.nil)
    ·rw [if_pos (by rfl)]
     go_simp
     refine ⟨trivial,?_⟩
     refine (CallsIn.inRound l (callsIn_wide.2 (sclone_any x _ (by have:=HXL.out; omega)))).mono ?_
     rintro e w1 ⟨rfl,hb⟩
     have hb:Below W.heap.size W w1:=⟨hb.os,hb.tape,hb.output,hb.size,hb.block⟩
     have hv1:=hv.kept (W':=w1) (row:=none) ⟨hb.os,hb.tape,hb.output,hb.size,fun k hk _=>hb.block k hk⟩ (by simp)
     have cw:=hv1.cell
     refine hK _ _ ?_
     clear hK K
     refine wpAnyIn_ready (rs:=[3]) (by kernel_rfl) (by simp) ?_
     refine AllReadyIn.cons (o:=_) rfl (fun K hK=>?_) (AllReadyIn.nil)
     ·rw [if_pos (by rfl)]
      go_simp
      have ca:=(hv1.alloc (.cells #[.string ⟨x.toArray⟩] 9)).cell
      have cx:=(Boxed.new w1 9 (.string ⟨x.toArray⟩)).cell
      refine hK _ _ ?_
      clear hK K
      refine wpAnyIn_ready (rs:=[4]) (by kernel_rfl) (by simp) ?_
      refine AllReadyIn.cons (o:=_) rfl (fun K hK=>?_) (AllReadyIn.nil)
      ·rw [if_pos (by rfl)]
       refine wpIn_append_str _ _ rfl (N + 6) v pre.length (pre.map S1) rfl ((own_below hrow hb).alloc _) ⟨w1.heap.size,0,none⟩ 1 x rfl cx (by omega) (by have:=hb.size; simp; omega) (fun v' w2 hown hg=>?_)
       obtain ⟨g',cap',rfl⟩:=ownsRow_succ hown
       have hvz:=path_box hb hsz hv hrow hg
       have cz:=hvz.cell
       have fz:=hvz.frozen
       obtain ⟨f1,f2,f3,f4',f5,f6⟩:=path_fin hb hsz hv hrow hg hown
       refine hK _ _ ?_
       clear hK K
       refine wpAnyIn_ready (rs:=[5]) (by kernel_rfl) (by simp) ?_
       refine AllReadyIn.cons (o:=_) rfl (fun K hK=>?_) (AllReadyIn.nil)
       ·rw [if_pos (by rfl)]
        go_simp
        refine hK _ _ ?_
        clear hK K
        refine wpAnyIn_done (by kernel_rfl) ?_ _
        exact ⟨HKD.out.trans f1,⟨Nat.le_trans HKD.out.size f2.1,f2.2⟩,⟨_,f3,by rw [HPX.out,List.length_append]; exact f4'⟩,f5 _ _ _ (by omega) HB2.out,f5 _ _ _ (by omega) HB3.out,HAX.out,f6 _ HBW.out⟩
  ·rw [if_pos (by rfl)]
   go_simp
   refine hK _ _ ?_
   clear hK K
   refine wpAnyIn_ready (rs:=[0,2]) (by kernel_rfl) (by simp) ?_
   refine AllReadyIn.cons (o:=_) rfl (fun K hK=>?_) (AllReadyIn.cons (o:=_) rfl (fun K hK=>?_) (AllReadyIn.nil))
   ·rw [if_pos (by rfl)]
    go_simp
    refine hK _ _ ?_
    clear hK K
    refine wpAnyIn_ready (rs:=[2]) (by kernel_rfl) (by simp) ?_
    refine AllReadyIn.cons (o:=_) rfl (fun K hK=>?_) (AllReadyIn.nil)
    ·rw [if_pos (by rfl)]
     go_simp
     refine ⟨trivial,?_⟩
     refine (CallsIn.inRound l (callsIn_wide.2 (sclone_any x _ (by have:=HXL.out; omega)))).mono ?_
     rintro e w1 ⟨rfl,hb⟩
     have hb:Below W.heap.size W w1:=⟨hb.os,hb.tape,hb.output,hb.size,hb.block⟩
     have hv1:=hv.kept (W':=w1) (row:=none) ⟨hb.os,hb.tape,hb.output,hb.size,fun k hk _=>hb.block k hk⟩ (by simp)
     have cw:=hv1.cell
     refine hK _ _ ?_
     clear hK K
     refine wpAnyIn_ready (rs:=[3]) (by kernel_rfl) (by simp) ?_
     refine AllReadyIn.cons (o:=_) rfl (fun K hK=>?_) (AllReadyIn.nil)
     ·rw [if_pos (by rfl)]
      go_simp
      have ca:=(hv1.alloc (.cells #[.string ⟨x.toArray⟩] 9)).cell
      have cx:=(Boxed.new w1 9 (.string ⟨x.toArray⟩)).cell
      refine hK _ _ ?_
      clear hK K
      refine wpAnyIn_ready (rs:=[4]) (by kernel_rfl) (by simp) ?_
      refine AllReadyIn.cons (o:=_) rfl (fun K hK=>?_) (AllReadyIn.nil)
      ·rw [if_pos (by rfl)]
       refine wpIn_append_str _ _ rfl (N + 6) v pre.length (pre.map S1) rfl ((own_below hrow hb).alloc _) ⟨w1.heap.size,0,none⟩ 1 x rfl cx (by omega) (by have:=hb.size; simp; omega) (fun v' w2 hown hg=>?_)
       obtain ⟨g',cap',rfl⟩:=ownsRow_succ hown
       have hvz:=path_box hb hsz hv hrow hg
       have cz:=hvz.cell
       have fz:=hvz.frozen
       obtain ⟨f1,f2,f3,f4',f5,f6⟩:=path_fin hb hsz hv hrow hg hown
       refine hK _ _ ?_
       clear hK K
       refine wpAnyIn_ready (rs:=[5]) (by kernel_rfl) (by simp) ?_
       refine AllReadyIn.cons (o:=_) rfl (fun K hK=>?_) (AllReadyIn.nil)
       ·rw [if_pos (by rfl)]
        go_simp
        refine hK _ _ ?_
        clear hK K
        refine wpAnyIn_done (by kernel_rfl) ?_ _
        exact ⟨HKD.out.trans f1,⟨Nat.le_trans HKD.out.size f2.1,f2.2⟩,⟨_,f3,by rw [HPX.out,List.length_append]; exact f4'⟩,f5 _ _ _ (by omega) HB2.out,f5 _ _ _ (by omega) HB3.out,HAX.out,f6 _ HBW.out⟩
   ·rw [if_pos (by rfl)]
    go_simp
    refine ⟨trivial,?_⟩
    refine (CallsIn.inRound l (callsIn_wide.2 (sclone_any x _ (by have:=HXL.out; omega)))).mono ?_
    rintro e w1 ⟨rfl,hb⟩
    have hb:Below W.heap.size W w1:=⟨hb.os,hb.tape,hb.output,hb.size,hb.block⟩
    have hv1:=hv.kept (W':=w1) (row:=none) ⟨hb.os,hb.tape,hb.output,hb.size,fun k hk _=>hb.block k hk⟩ (by simp)
    have cw:=hv1.cell
    refine hK _ _ ?_
    clear hK K
    refine wpAnyIn_ready (rs:=[0,3]) (by kernel_rfl) (by simp) ?_
    refine AllReadyIn.cons (o:=_) rfl (fun K hK=>?_) (AllReadyIn.cons (o:=_) rfl (fun K hK=>?_) (AllReadyIn.nil))
    ·rw [if_pos (by rfl)]
     go_simp
     refine hK _ _ ?_
     clear hK K
     refine wpAnyIn_ready (rs:=[3]) (by kernel_rfl) (by simp) ?_
     refine AllReadyIn.cons (o:=_) rfl (fun K hK=>?_) (AllReadyIn.nil)
     ·rw [if_pos (by rfl)]
      go_simp
      have ca:=(hv1.alloc (.cells #[.string ⟨x.toArray⟩] 9)).cell
      have cx:=(Boxed.new w1 9 (.string ⟨x.toArray⟩)).cell
      refine hK _ _ ?_
      clear hK K
      refine wpAnyIn_ready (rs:=[4]) (by kernel_rfl) (by simp) ?_
      refine AllReadyIn.cons (o:=_) rfl (fun K hK=>?_) (AllReadyIn.nil)
      ·rw [if_pos (by rfl)]
       refine wpIn_append_str _ _ rfl (N + 6) v pre.length (pre.map S1) rfl ((own_below hrow hb).alloc _) ⟨w1.heap.size,0,none⟩ 1 x rfl cx (by omega) (by have:=hb.size; simp; omega) (fun v' w2 hown hg=>?_)
       obtain ⟨g',cap',rfl⟩:=ownsRow_succ hown
       have hvz:=path_box hb hsz hv hrow hg
       have cz:=hvz.cell
       have fz:=hvz.frozen
       obtain ⟨f1,f2,f3,f4',f5,f6⟩:=path_fin hb hsz hv hrow hg hown
       refine hK _ _ ?_
       clear hK K
       refine wpAnyIn_ready (rs:=[5]) (by kernel_rfl) (by simp) ?_
       refine AllReadyIn.cons (o:=_) rfl (fun K hK=>?_) (AllReadyIn.nil)
       ·rw [if_pos (by rfl)]
        go_simp
        refine hK _ _ ?_
        clear hK K
        refine wpAnyIn_done (by kernel_rfl) ?_ _
        exact ⟨HKD.out.trans f1,⟨Nat.le_trans HKD.out.size f2.1,f2.2⟩,⟨_,f3,by rw [HPX.out,List.length_append]; exact f4'⟩,f5 _ _ _ (by omega) HB2.out,f5 _ _ _ (by omega) HB3.out,HAX.out,f6 _ HBW.out⟩
    ·rw [if_pos (by rfl)]
     go_simp
     have ca:=(hv1.alloc (.cells #[.string ⟨x.toArray⟩] 9)).cell
     have cx:=(Boxed.new w1 9 (.string ⟨x.toArray⟩)).cell
     refine hK _ _ ?_
     clear hK K
     refine wpAnyIn_ready (rs:=[0]) (by kernel_rfl) (by simp) ?_
     refine AllReadyIn.cons (o:=_) rfl (fun K hK=>?_) (AllReadyIn.nil)
     ·rw [if_pos (by rfl)]
      go_simp
      refine hK _ _ ?_
      clear hK K
      refine wpAnyIn_ready (rs:=[4]) (by kernel_rfl) (by simp) ?_
      refine AllReadyIn.cons (o:=_) rfl (fun K hK=>?_) (AllReadyIn.nil)
      ·rw [if_pos (by rfl)]
       refine wpIn_append_str _ _ rfl (N + 6) v pre.length (pre.map S1) rfl ((own_below hrow hb).alloc _) ⟨w1.heap.size,0,none⟩ 1 x rfl cx (by omega) (by have:=hb.size; simp; omega) (fun v' w2 hown hg=>?_)
       obtain ⟨g',cap',rfl⟩:=ownsRow_succ hown
       have hvz:=path_box hb hsz hv hrow hg
       have cz:=hvz.cell
       have fz:=hvz.frozen
       obtain ⟨f1,f2,f3,f4',f5,f6⟩:=path_fin hb hsz hv hrow hg hown
       refine hK _ _ ?_
       clear hK K
       refine wpAnyIn_ready (rs:=[5]) (by kernel_rfl) (by simp) ?_
       refine AllReadyIn.cons (o:=_) rfl (fun K hK=>?_) (AllReadyIn.nil)
       ·rw [if_pos (by rfl)]
        go_simp
        refine hK _ _ ?_
        clear hK K
        refine wpAnyIn_done (by kernel_rfl) ?_ _
        exact ⟨HKD.out.trans f1,⟨Nat.le_trans HKD.out.size f2.1,f2.2⟩,⟨_,f3,by rw [HPX.out,List.length_append]; exact f4'⟩,f5 _ _ _ (by omega) HB2.out,f5 _ _ _ (by omega) HB3.out,HAX.out,f6 _ HBW.out⟩
 case done=>
  rintro D xs W hD hxs ⟨⟨v,hv,hrow⟩,b2,b3,hall,hB⟩ hK
  have hxs:xs = splitV s:=hxs
  subst hxs
  have c4:=hv.cell
  have c2:=b2.cell
  have c3:=b3.cell
  have f2:=b2.frozen
  have f3:=b3.frozen
  obtain ⟨A,c,rfl,-⟩:=own_vals (by simp) hrow
  have HALL:=Hy hall
  have HW0:=Hy ((b2.set (.slice A (splitV s).length c)).kept (grownBy_setCell' _ (N + 1) (.bool true)) (by simp))
  have HW1:=Hy ((b3.kept (grownBy_setCell' W N (.slice A (splitV s).length c)) (by simp)).set (.bool true))
  have HK3:=Hy (((KeepsOthers.setCell W ⟨N,0,none⟩ (.slice A (splitV s).length c)).trans (KeepsOthers.setCell _ ⟨N + 1,0,none⟩ (.bool true))).same D _ hK rfl)
  have hr3:=(hrow.kept (grownBy_setCell' W N (.slice A (splitV s).length c)) (.inr (fun e=>by have:=(hrow.lt _ e).1; omega))).kept (grownBy_setCell' _ (N + 1) (.bool true)) (.inr (fun e=>by have:=(hrow.lt _ e).1; omega))
  have HR4:=Hy (ownsRow_putObj hr3 (.deferred none) HK3.out rfl)
  have HB3:=Hy ((hB.setCell (p:=⟨N,0,none⟩) (Nat.le_refl _) (.slice A (splitV s).length c)).setCell (p:=⟨N + 1,0,none⟩) (by simp) (.bool true))
  clear hr3 hrow hall hv b2 b3 hB hK
  gi_wp2
  obtain ⟨W3,hW3⟩:∃ W3,W3 = (W.setCell ⟨N,0,none⟩ (.slice A (splitV s).length c)).setCell ⟨N + 1,0,none⟩ (.bool true):=⟨_,rfl⟩
  rw [← hW3] at HW0 HW1 HK3 HR4 HB3 ⊢
  have d0:=cell_kept HW0.out.cell (grownBy_putObj' W3 D (.deferred none)) (fun r e=>by cases e; exact ⟨_,HK3.out,rfl⟩)
  have d1:=cell_kept HW1.out.cell (grownBy_putObj' W3 D (.deferred none)) (fun r e=>by cases e; exact ⟨_,HK3.out,rfl⟩)
  refine ⟨by simp,.inl ⟨_,_,rfl,run_takeDeferred HK3.out,.tuple #[.slice A (splitV s).length c,.bool true],?_,.inl ⟨splitV s,?_,A,c,rfl,?_⟩,?_⟩⟩
  ·simp [results,Tryz.results153,go_sem,d0,d1]
  ·unfold pathV
   rw [if_neg hne,if_pos HALL.out]
  ·obtain ⟨A',c',e,harg⟩:=own_vals (by simp) HR4.out
   injection e with e1 _ e2
   subst e1 e2
   exact harg
  ·rw [← HN.out]
   exact HB3.out.trans ((Below.refl N W3).grown (grownBy_putObj' W3 D (.deferred none)) (by have:=HB3.out.size; have:=HN.out; omega) (fun k e=>by cases e; omega))
 case stop=>
  rintro D c pre W hD hpre ⟨rfl,b2,b3,hex,hB⟩ hK
  have hpre:pre <+: splitV s:=hpre
  have c2:=b2.cell
  have c3:=b3.cell
  have HB3:=Hy hB
  have HP:Hid (pathV s = none):=by
   show _ = _
   unfold pathV
   rw [if_neg hne,if_neg]
   intro h
   obtain ⟨x,hx,hn⟩:=hex
   rw [List.all_eq_true] at h
   rw [h x (hpre.subset hx)] at hn
   cases hn
  have d0:=cell_kept c2 (grownBy_putObj' W D (.deferred none)) (fun r e=>by cases e; exact ⟨_,hK,rfl⟩)
  have d1:=cell_kept c3 (grownBy_putObj' W D (.deferred none)) (fun r e=>by cases e; exact ⟨_,hK,rfl⟩)
  clear hB hex hpre
  gi_wp2
  refine ⟨by simp,.inl ⟨_,_,rfl,run_takeDeferred hK,.tuple #[.slice none 0 0,.bool false],?_,.inr ⟨HP.out,rfl⟩,?_⟩⟩
  ·simp [results,Tryz.results153,go_sem,d0,d1]
  ·rw [← HN.out]
   exact HB3.out.trans ((Below.refl N W).grown (grownBy_putObj' W D (.deferred none)) (by have:=HB3.out.size; have:=HN.out; omega) (fun k e=>by cases e; omega))
theorem tpath_any (s:List UInt8) (w:World) (hl:s.length ≤ 1048576) :
  Calls Tryz.prog 153 #[.string ⟨s.toArray⟩] w fun e w'=>((∃ ps A c,pathV s = some ps ∧ e = .returned (.tuple #[.slice A (List.length ps) c,.bool true]) ∧ Arg w' A c (ps.map S1)) ∨ (pathV s = none ∧ e = .returned (.tuple #[.slice none 0 0,.bool false]))) ∧ Below w.heap.size w w':=by
 by_cases hne:s = []
 ·subst hne
  refine (tpath_nil w).mono ?_
  rintro e w' ⟨rfl,hB⟩
  exact ⟨.inl ⟨[],none,0,rfl,rfl,Nat.le_refl _,Nat.zero_le _,.inl ⟨rfl,rfl⟩⟩,hB⟩
 ·exact tpath_go s w hl hne
end
section
open Go.RowKit
def findE (es:List En) (nm:List UInt8):Option En:=es.find? (fun e=>e.name == nm)
theorem findE_drop (es:List En) (nm:List UInt8) (k:Nat) (h:k < es.length):findE (es.drop k) nm = if (es.getD k default).name == nm then some (es.getD k default) else findE (es.drop (k + 1)) nm:=by
 have e1:es.drop k = es.getD k default :: es.drop (k + 1):=by
  rw [List.drop_eq_getElem_cons h]
  simp [List.getD,List.getElem?_eq_getElem h]
 unfold findE
 rw [e1,List.find?_cons]
 cases (es.getD k default).name == nm <;> rfl
theorem zE_build (w:World):(Instr.build 156 #[]).run Tryz.prog w = .ok (.agg (encE zE).toArray) w:=by kernel_rfl
theorem find_end (b:Bool) (a:Act) (w w3:World) (e:En) (h2:a.tmps.getD 4 undef = .pointer (some ⟨w.heap.size,0,none⟩)) (h3:a.tmps.getD 5 undef = .bool b) (hd:a.defers = []) (hW:Whole w3 w.heap.size 156 (encE e).toArray) (hB:Below w.heap.size w w3) :
  bodyPost Tryz.prog Tryz.f152 (fun e' w'=>e' = .returned (.tuple #[.agg (encE e).toArray,.bool b]) ∧ Below w.heap.size w w') .ret a w3:=by
 refine bodyPost_ret (v:=.tuple #[.agg (encE e).toArray,.bool b]) ?_ hd ⟨rfl,hB⟩
 rw [← h3]
 exact results_row_tmp Tryz.results152 _ _ w.heap.size 156 (encE e).toArray (0,0) _ h2 hW Tryz.underlying156 rfl (infoE_s e)
theorem tfind_any (A:Option Addr) (c:Nat) (es:List En) (nm:List UInt8) (w:World) (hA:ArgE w A c es) (hl:es.length ≤ 1048576) :
  Calls Tryz.prog 152 #[.slice A es.length c,.string ⟨nm.toArray⟩] w fun e w'=>e = .returned (.tuple #[.agg (encE ((findE es nm).getD zE)).toArray,.bool (findE es nm).isSome]) ∧ Below w.heap.size w w':=by
 have HA:=Hy hA
 have hlc:=hA.1
 have HW0:=Hy fun z=>Whole.made w 156 z
 have HB0:=Hy fun z=>(Below.refl w.heap.size w).alloc (Nat.le_refl _) (.cells z 156)
 have HS0:=Hy fun z=>(show (w.alloc (.cells z 156)).heap.size = w.heap.size + 1 by simp)
 clear hA
 obtain ⟨fo,hfo⟩:∃ fo,fo = findE es nm:=⟨_,rfl⟩
 rw [← hfo]
 have HFO:=Hy hfo
 clear hfo
 go_enter Tryz.func152,Tryz.ntmps152
 go_wp2
 generalize hz:(#[Value.string ⟨#[]⟩,.bool false,Z8,Z8,Z8,Z8,Z8,Z8,Z8,Z8,Z8,Z8,Z8,Z8,Z8,Z8,Z8,Z8,Z8,Z8,Z8,Z8,Z8,Z8,Z8,Z8,Z8,Z8,Z8,Z8,Z8,Z8,Z8,Z8]:Array Value) = z at *
 have hzs:z.size = 34:=by rw [← hz]; rfl
 have hW:=HW0.out z
 have hB:=HB0.out z
 have hs0:=HS0.out z
 have HZS:=Hy hzs
 clear hz HW0 HB0 HS0 hzs
 generalize w.alloc (.cells z 156) = w0 at *
 have HW:=Hy hW
 have HB:=Hy hB
 clear hW hB
 go_loopg [7,10] es.length (fun g _ s10 wr=>∃ k:Nat,k ≤ es.length ∧ es.length - k ≤ g ∧ s10 = .int .i64 k ∧ Hid (Below w.heap.size w wr) ∧ Hid (Whole wr w.heap.size 156 z) ∧ w.heap.size < wr.heap.size ∧ Hid (fo = findE (es.drop k) nm))
 case atStart=>exact ⟨0,Nat.zero_le _,by omega,rfl,HB,HW,by omega,HFO⟩
 case round=>
  obtain ⟨k,hk,hg,rfl,hwr,hwz,hsz,hfk⟩:=hrel
  by_cases hlt:k < es.length
  ·have hlt':(k:Int) < (es.length:Int):=by omega
   obtain ⟨bb,o,rfl,hr⟩:=(HA.out.later hwr.out).2.2.2 (by omega)
   obtain ⟨y,hy⟩:∃ y,y = es.getD k default:=⟨_,rfl⟩
   have hrk:=hr k hlt
   rw [← hy] at hrk
   have HRK:=Hy hrk
   have HFD:=Hy (findE_drop es nm k hlt)
   rw [← hy] at HFD
   clear hr hrk hy
   cases hq:y.name == nm with
   | true=>
    have HF:Hid (fo = some y):=by show _ = _; rw [hfk.out,HFD.out,hq]; rfl
    go_wp2_with (first
     | (refine wpList_load_mid rfl 156 _ rfl bb (o + k * 34) rfl (encE y) _ HRK.out Tryz.underlying156 rfl (infoE_l y) ?_)
     | (refine wpList_store_whole rfl 156 _ _ rfl wr.heap.size (encE y).toArray rfl rfl 156 _ (Whole.made wr _ _) (infoE_s y) (by rw [encE_size]; kernel_rfl) (encE_all y) ?_; intro w3 hWn hGn; have hnm3:=whole_name hWn; have HW3:=Hy hWn; have D3:=Hy (made_below' hGn); clear hWn hGn; have HZ3:=Hy (hwz.out.below D3.out hwz.out.lt))
     | (refine wpList_load_row rfl 156 _ rfl wr.heap.size rfl 156 (encE y).toArray (0,0) _ HW3.out Tryz.underlying156 rfl (infoE_s y) ?_)
     | (refine wpList_store_whole rfl 156 _ _ rfl w.heap.size (encE y).toArray rfl rfl 156 z HZ3.out (infoE_s y) (by rw [encE_size]; exact HZS.out) (encE_all y) ?_; intro w4 hWn hGn; have HW4:=Hy hWn; have HG4:=Hy hGn; clear hWn hGn))
    have HB4:=Hy (be_grown (hwr.out.trans (D3.out.mono hwr.out.size)) HG4.out (Nat.le_trans hwr.out.size D3.out.size) (fun j hj=>by injection hj with hj; omega))
    rw [HF.out]
    exact find_end true _ w _ y rfl rfl rfl HW4.out HB4.out
   | false=>
    have HF:Hid (fo = findE (es.drop (k + 1)) nm):=by show _ = _; rw [hfk.out,HFD.out,hq]; rfl
    go_wp2_with (first
     | (refine wpList_load_mid rfl 156 _ rfl bb (o + k * 34) rfl (encE y) _ HRK.out Tryz.underlying156 rfl (infoE_l y) ?_)
     | (refine wpList_store_whole rfl 156 _ _ rfl wr.heap.size (encE y).toArray rfl rfl 156 _ (Whole.made wr _ _) (infoE_s y) (by rw [encE_size]; kernel_rfl) (encE_all y) ?_; intro w3 hWn hGn; have hnm3:=whole_name hWn; have HW3:=Hy hWn; have D3:=Hy (made_below' hGn); clear hWn hGn; have HZ3:=Hy (hwz.out.below D3.out hwz.out.lt)))
    have HB3:=Hy (hTr hwr D3.out)
    have hs3:w.heap.size < w3.heap.size:=by have:=D3.out.size; omega
    go_roundg (es.length - (k + 1))
    case measure=>omega
    case rel=>exact ⟨k + 1,by omega,Nat.le_refl _,by go_num,HB3,HZ3,hs3,HF⟩
  ·have HF:Hid (fo = none):=by
    show _ = _
    rw [hfk.out,List.drop_eq_nil_of_le (by omega)]
    rfl
   have hzb:=zE_build
   go_wp2_with (refine wpList_store_whole rfl 156 _ _ rfl w.heap.size (encE zE).toArray rfl rfl 156 z hwz.out (infoE_s zE) (by rw [encE_size]; exact HZS.out) (encE_all zE) ?_; intro w4 hWn hGn; have HW4:=Hy hWn; have HG4:=Hy hGn; clear hWn hGn)
   have HB4:=Hy (be_grown hwr.out HG4.out hwr.out.size (fun j hj=>by injection hj with hj; omega))
   rw [HF.out]
   exact find_end false _ w _ zE rfl rfl rfl HW4.out HB4.out
end
end Go.Proofs.YtlfmooihcigolaaGreatDoor

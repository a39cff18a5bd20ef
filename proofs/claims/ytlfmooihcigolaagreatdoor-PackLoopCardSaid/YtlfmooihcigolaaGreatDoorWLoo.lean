/-
  PackLoop, walked.
-/
import Derived.Test.YtlfmooihcigolaaGreatDoorMbt
import Derived.Test.YtlfmooihcigolaaGreatDoorMbu
import Derived.Test.YtlfmooihcigolaaGreatDoorQCel
set_option maxRecDepth 100000
set_option maxHeartbeats 8000000
namespace Go.Proofs.YtlfmooihcigolaaGreatDoor
open Go.RowKit
theorem wp_buildI7 {w:World} {op:Oper} {a:Act} {K:Act → World → Prop} {Q:Exit → Act → World → Prop} (x y z:Operand) (ho:op.op = .build 34 #[(0,x),(2,y),(3,z)]) (k:Int) (nm:Nm) (b:ByteArray) (hx:a.eval x = .int .i64 k) (hy:a.eval y = .agg (encN nm).toArray) (hz:a.eval z = .string b)
  (h:K (a.put op.dst (.agg (.int .i64 k :: .int .i64 0 :: (encN nm ++ [.string b])).toArray)) w):op.wp Tryz.prog a w K Q:=by
 have hb:=build_I7 k nm b w
 unfold Oper.wp
 simp [execOp,ho,hx,hy,hz,hb,Result.andThen]
 exact h
/-- The memory of the law's function: the name,the text,whether it is held. -/
def JLoop (g:Nat) (a:Nm) (T:List UInt8) (hd:Bool) (Bl:Nat → Prop) (W:World):Prop:=
 (Bl g ∧ Bl (g + 1) ∧ Bl (g + 2)) ∧ (∀ k,Bl k → k < W.heap.size) ∧ Whole W g 30 (encN a).toArray ∧ Whole W (g + 1) 9 #[.string ⟨T.toArray⟩] ∧ Whole W (g + 2) 4 #[.bool hd]
theorem jloop_foot (g:Nat) (a:Nm) (T:List UInt8) (hd:Bool):Foot (JLoop g a T hd) where
 lt:=fun Bl W k h hk=>h.2.1 k hk
 kept:=by
  intro Bl R W W' ⟨⟨h1,h2,h3⟩,h4,h5,h6,h7⟩ ha hR
  exact ⟨⟨h1,h2,h3⟩,fun k hk=>Nat.lt_of_lt_of_le (h4 k hk) ha.size,h5.alt ha (fun hr=>hR _ hr h1),h6.alt ha (fun hr=>hR _ hr h2),h7.alt ha (fun hr=>hR _ hr h3)⟩
theorem wloo1_enters (args:Array Value) (W:World):(callFunc 23 args).run Tryz.prog W = .ok (.enter 23 args) W:=enters_of Tryz.func23 (by kernel_rfl) rfl _ _
def loopV (a:Nm) (T:List UInt8) (hd:Bool) (x:Nm):Int × List UInt8 × Bool:=(1,T,decide (x = a) && hd)
theorem wloo1_any (g:Nat) (a:Nm) (T:List UInt8) (hd:Bool):HeldC (JLoop g a T hd) (fun _=>False) 23 #[.pointer (some ⟨g + 1,0,none⟩),.pointer (some ⟨g,0,none⟩),.pointer (some ⟨g + 2,0,none⟩)] (loopV a T hd):=by
 intro W x Bl hJ
 have hJ0:=hJ
 obtain ⟨⟨hb1,hb2,hb3⟩,hlt,h1,h2,h3⟩:=hJ
 have hb:=(Below.refl W.heap.size W).alloc (Nat.le_refl _) (.cells (encN x).toArray 30)
 have HX:=Hy (Whole.made W 30 (encN x).toArray)
 have H1:=Hy (h1.below hb h1.lt)
 have H2:=Hy (h2.below hb h2.lt)
 have H3:=Hy (h3.below hb h3.lt)
 have HB:=Hy hb
 have HJ:=Hy ((jloop_foot g a T hd).kept Bl (fun _=>False) W _ hJ0 (Alt.of_below hb) (fun _ h=>h.elim))
 have HLV:Hid (loopV a T hd x = (1,T,decide (x = a) && hd)):=rfl
 have heq:=eql_nm x a
 generalize decide (x = a) = q at *
 have L1:Hid (∀ V,Below (W.alloc (.cells (encN x).toArray 30)).heap.size (W.alloc (.cells (encN x).toArray 30)) V → V.rangeAt W.heap.size 0 (encN x)):=fun V h=>whole_range (HX.out.below h HX.out.lt)
 have L2:Hid (∀ V,Below (W.alloc (.cells (encN x).toArray 30)).heap.size (W.alloc (.cells (encN x).toArray 30)) V → V.rangeAt g 0 (encN a)):=fun V h=>whole_range (H1.out.below h H1.out.lt)
 have L3:Hid (∀ V,Below (W.alloc (.cells (encN x).toArray 30)).heap.size (W.alloc (.cells (encN x).toArray 30)) V → (Instr.loadAt 9 (.pointer (some ⟨g + 1,0,none⟩))).run Tryz.prog V = .ok (.string ⟨T.toArray⟩) V):=fun V h=>by
  have hc:V.cell? ⟨g + 1,0,none⟩ = some (.string ⟨T.toArray⟩):=(H2.out.below h H2.out.lt).at_ 0
  go_simp
 have L4:Hid (∀ V,Below (W.alloc (.cells (encN x).toArray 30)).heap.size (W.alloc (.cells (encN x).toArray 30)) V → (Instr.loadAt 4 (.pointer (some ⟨g + 2,0,none⟩))).run Tryz.prog V = .ok (.bool hd) V):=fun V h=>by
  have hc:V.cell? ⟨g + 2,0,none⟩ = some (.bool hd):=(H3.out.below h H3.out.lt).at_ 0
  go_simp
 clear hJ0 hb1 hb2 hb3 hlt h1 h2 h3 hb
 go_enter Tryz.func23,Tryz.ntmps23
 go_upto_region 1 with fail
 generalize W.alloc (.cells (encN x).toArray 30) = w1 at *
 cases q with
 | true=>
  go_wp2_with fail
  refine wp_region_quiet_below (by kernel_rfl) (by kernel_rfl) ?_
  repeat (first
   | go_big_quiet_step (fail)
   | (refine q_loadm _ _ rfl (by rfl) W.heap.size 0 (encN x) rfl _ Tryz.underlying30 rfl (infoX x) (fun V hC=>L1.out V (below_clsC hC)) ?_; simp only [Act.put]; go_simp)
   | (refine q_loadm _ _ rfl (by rfl) g 0 (encN a) rfl _ Tryz.underlying30 rfl (infoX a) (fun V hC=>L2.out V (below_clsC hC)) ?_; simp only [Act.put]; go_simp)
   | (refine q_cell _ _ rfl (by rfl) ⟨g + 1,0,none⟩ (.string ⟨T.toArray⟩) rfl (fun V hC=>L3.out V (below_clsC hC)) ?_; simp only [Act.put]; go_simp)
   | (refine q_cell _ _ rfl (by rfl) ⟨g + 2,0,none⟩ (.bool hd) rfl (fun V hC=>L4.out V (below_clsC hC)) ?_; simp only [Act.put]; go_simp))
  refine wpQuiet_nil ?_
  intro p
  have HF:=Hy (below_regrown w1 p.d p.os)
  generalize Sort.grow (redrawn w1 p.d) p.os = wf at *
  go_wp2
  refine bodyPost_ret (results_tmp3 rfl _ _ _) rfl ?_
  rw [HLV.out]
  exact ⟨rfl,⟨none,grown_none (HB.out.trans (HF.out.mono HB.out.size)),fun _ h=>by cases h⟩,Bl,(jloop_foot g a T hd).kept Bl (fun _=>False) _ _ HJ.out (Alt.of_below HF.out) (fun _ h=>h.elim),fun k h=>.inl h⟩
 | false=>
  go_wp2_with fail
  refine wp_region_quiet_below (by kernel_rfl) (by kernel_rfl) ?_
  repeat (first
   | go_big_quiet_step (fail)
   | (refine q_loadm _ _ rfl (by rfl) W.heap.size 0 (encN x) rfl _ Tryz.underlying30 rfl (infoX x) (fun V hC=>L1.out V (below_clsC hC)) ?_; simp only [Act.put]; go_simp)
   | (refine q_loadm _ _ rfl (by rfl) g 0 (encN a) rfl _ Tryz.underlying30 rfl (infoX a) (fun V hC=>L2.out V (below_clsC hC)) ?_; simp only [Act.put]; go_simp)
   | (refine q_cell _ _ rfl (by rfl) ⟨g + 1,0,none⟩ (.string ⟨T.toArray⟩) rfl (fun V hC=>L3.out V (below_clsC hC)) ?_; simp only [Act.put]; go_simp)
   | (refine q_cell _ _ rfl (by rfl) ⟨g + 2,0,none⟩ (.bool hd) rfl (fun V hC=>L4.out V (below_clsC hC)) ?_; simp only [Act.put]; go_simp))
  refine wpQuiet_nil ?_
  intro p
  have HF:=Hy (below_regrown w1 p.d p.os)
  generalize Sort.grow (redrawn w1 p.d) p.os = wf at *
  go_wp2
  refine bodyPost_ret (results_tmp3 rfl _ _ _) rfl ?_
  rw [HLV.out]
  exact ⟨rfl,⟨none,grown_none (HB.out.trans (HF.out.mono HB.out.size)),fun _ h=>by cases h⟩,Bl,(jloop_foot g a T hd).kept Bl (fun _=>False) _ _ HJ.out (Alt.of_below HF.out) (fun _ h=>h.elim),fun k h=>.inl h⟩
theorem ok7 (a:Nm) (D:List UInt8) (hD:D.length ≤ 100000):okP (one7 a D):=by
 refine ⟨by show 1 ≤ 200; decide,fun i hi=>?_⟩
 have:i = 0:=by have:i < 1:=hi; omega
 subst this
 exact ⟨hD,.inr (.inr ⟨rfl,rfl⟩)⟩
theorem okd7 (a:Nm) (D:List UInt8) (d:Dlt) (h:D = encD d.1 d.2) (h1:∀ c ∈ d.2,okC d.1 c) (h2:d.1 ≤ 1000000) (h3:sumC d.2 ≤ 1000000):∀ i,i < (one7 a D).length → ¬ wholeK ((one7 a D).getD i default).kind → okD ((one7 a D).getD i default) d:=by
 intro i hi _
 obtain rfl:i = 0:=by have:i < 1:=hi; omega
 exact ⟨h,h1,h2,h3⟩
theorem hwb7 (a:Nm) (D:List UInt8) (hD:D.length ≤ 100000):∀ i,i < (one7 a D).length → ((one7 a D).getD i default).body.length ≤ 100000:=by
 intro i hi
 obtain rfl:i = 0:=by have:i < 1:=hi; omega
 exact hD
theorem t_pput7 (a:Nm) (D:List UInt8) (hD:D.length ≤ 100000) (w:World) (hTab:Tabs w):Calls Tryz.prog 19 #[.slice (some ⟨w.heap.size,0,none⟩) 1 1] (w.alloc (.cells (encI ⟨7,0,a,D⟩).toArray 34)) fun e w'=>e = .returned (.tuple #[.string ⟨(encP (one7 a D)).toArray⟩,.bool true]) ∧ Below w.heap.size w w':=by
 have hb:=(Below.refl w.heap.size w).alloc (Nat.le_refl _) (.cells (encI ⟨7,0,a,D⟩).toArray 34)
 refine (pput_any (some ⟨w.heap.size,0,none⟩) 1 (one7 a D) _ (hTab.below hb hTab.lt1 hTab.lt2) (argG_one (Whole.made w 34 (encI ⟨7,0,a,D⟩).toArray)) (ok7 a D hD)).mono ?_
 rintro e w' ⟨rfl,h⟩
 exact ⟨rfl,hb.trans (h.mono (by simp))⟩
theorem wloop_any (a:Nm) (text:List UInt8) (hd:Bool) (w:World) (hE:Env w) (hT:Tens w)
  (hbeg:∀ W,Below w.heap.size w W → Calls Tryz.prog 14 #[] W fun e w'=>e = .returned (.bool true) ∧ Below W.heap.size W w') :
  Calls Tryz.prog 4 #[.agg (encN a).toArray,.string ⟨text.toArray⟩,.bool hd] w fun e w'=>e = .returned (.bool true) ∧ Below w.heap.size w w':=by
 have hmf:∀ (fn:Fn) (first cap:Array Value) (w:World),(Instr.makeFunc fn first cap).run Tryz.prog w = .ok (.func fn first cap) w:=fun _ _ _ _=>rfl
 have HTT:Hid (∀ W,Below w.heap.size w W → Tabs W ∧ Tens W):=fun W h=>⟨(hE.at_ h).tabs,hT.below h⟩
 have b1:=(Below.refl w.heap.size w).alloc (Nat.le_refl _) (.cells (encN a).toArray 30)
 have b2:=b1.alloc (by simp) (.cells #[.string ⟨text.toArray⟩] 9)
 have b3:=b2.alloc (by simp; omega) (.cells #[.bool hd] 4)
 have s1:(w.alloc (.cells (encN a).toArray 30)).heap.size = w.heap.size + 1:=by simp
 have s2:((w.alloc (.cells (encN a).toArray 30)).alloc (.cells #[.string ⟨text.toArray⟩] 9)).heap.size = w.heap.size + 2:=by simp
 have h1:=((Whole.made w 30 (encN a).toArray).past (.cells #[.string ⟨text.toArray⟩] 9)).past (.cells #[.bool hd] 4)
 have h2:=(Whole.made (w.alloc (.cells (encN a).toArray 30)) 9 #[.string ⟨text.toArray⟩]).past (.cells #[.bool hd] 4)
 have h3:=Whole.made ((w.alloc (.cells (encN a).toArray 30)).alloc (.cells #[.string ⟨text.toArray⟩] 9)) 4 #[.bool hd]
 rw [s1] at h2
 rw [s2] at h3
 have HB0:=Hy b3
 have H1:=Hy h1
 have H2:=Hy h2
 have H3:=Hy h3
 have HBEG:=Hy (hbeg _ b3)
 clear b1 b2 b3 s1 s2 h1 h2 h3 hE hT hbeg
 go_enter Tryz.func4,Tryz.ntmps4
 go_upto_region 1 with fail
 generalize ((w.alloc (.cells (encN a).toArray 30)).alloc (.cells #[.string ⟨text.toArray⟩] 9)).alloc (.cells #[.bool hd] 4) = w0 at *
 go_wp2_with fail
 refine HBEG.out.mono ?_
 rintro e w1 ⟨rfl,hb⟩
 have HB1:=Hy (hTr HB0 hb)
 have K1:=Hy (H1.out.below hb H1.out.lt)
 have K2:=Hy (H2.out.below hb H2.out.lt)
 have K3:=Hy (H3.out.below hb H3.out.lt)
 have hct:w1.cell? ⟨w.heap.size + 1,0,none⟩ = some (.string ⟨text.toArray⟩):=(K2.out.at_ 0).trans rfl
 have hft:=K2.out.thawed 0
 have HTX:=Hy (text_any text 60 w1)
 have hl1:(text.take 60).length ≤ 60:=by rw [List.length_take]; omega
 clear hb HB0 H1 H2 H3 HBEG
 generalize text.take 60 = T at *
 go_wp2_with fail
 refine HTX.out.mono ?_
 rintro e w1' ⟨rfl,rfl⟩
 clear HTX
 go_upto_region 5 with fail
 have M1:=Hy (K1.out.aside (p:=⟨w.heap.size + 1,0,none⟩) (by simp) (.string ⟨T.toArray⟩))
 have M2:Hid (Whole (w1.setCell ⟨w.heap.size + 1,0,none⟩ (.string ⟨T.toArray⟩)) (w.heap.size + 1) 9 #[.string ⟨T.toArray⟩]):=K2.out.put 0 (.string ⟨T.toArray⟩)
 have M3:=Hy (K3.out.aside (p:=⟨w.heap.size + 1,0,none⟩) (by simp) (.string ⟨T.toArray⟩))
 have HB2:=Hy (be_grown HB1.out (gr_set (row:=some (w.heap.size + 1)) (gr_refl _ _) (p:=⟨w.heap.size + 1,0,none⟩) (.inl rfl) (.string ⟨T.toArray⟩)) HB1.out.size (fun j hj=>by injection hj with hj; omega))
 clear HB1 K1 K2 K3 hct hft
 generalize w1.setCell ⟨w.heap.size + 1,0,none⟩ (.string ⟨T.toArray⟩) = w2 at *
 refine wp_region_K (fun W=>W.cell? ⟨w.heap.size + 1,0,none⟩ = some (.string ⟨T.toArray⟩) ∧ W.rangeAt w.heap.size 0 (encN a)) 11 (by kernel_rfl) ?_
 change wpAnyK _ _ _ _ _ _ _ _ _ (World.drew w2)
 have N1:Hid (Whole w2.drew w.heap.size 30 (encN a).toArray):=M1
 have N2:Hid (Whole w2.drew (w.heap.size + 1) 9 #[.string ⟨T.toArray⟩]):=M2
 have N3:Hid (Whole w2.drew (w.heap.size + 2) 4 #[.bool hd]):=M3
 have HB3:=Hy HB2.out.drew
 clear M1 M2 M3 HB2
 generalize World.drew w2 = w3 at *
 have hS0:w3.cell? ⟨w.heap.size + 1,0,none⟩ = some (.string ⟨T.toArray⟩) ∧ w3.rangeAt w.heap.size 0 (encN a):=⟨(N2.out.at_ 0).trans rfl,whole_range N1.out⟩
 have HX:=ba_append T [120]
 refine wpAnyK_take (i:=0) (oi:=_) (v:=.agg (encN a).toArray) rfl (by kernel_rfl) (fun _ _ _ h=>h) (yieldsIf_load_mid (by rfl) _ _ rfl w.heap.size (0) rfl (encN a) _ (fun W hW=>hW.2) Tryz.underlying30 rfl (infoX a)) hS0 ?_
 try simp only [Act.put]
 try go_simp
 refine wpAnyK_take (i:=1) (oi:=⟨some 24,_,_,_,_,none⟩) (v:=.string ⟨T.toArray⟩) rfl (by kernel_rfl) (fun _ _ _ h=>h) (Or.inl ⟨by rfl,fun W hW=>?_⟩) hS0 ?_
 ·obtain ⟨s0,s1⟩:=hW
  go_simp
 refine wpAnyK_take (i:=2) (oi:=⟨some 25,_,_,_,_,none⟩) (v:=.string ⟨T.toArray⟩) rfl (by kernel_rfl) (fun _ _ _ h=>h) (Or.inl ⟨by rfl,fun W hW=>?_⟩) hS0 ?_
 ·obtain ⟨s0,s1⟩:=hW
  go_simp
 try simp only [Act.put]
 try go_simp
 have HMK:Hid (∀ W,Calls Tryz.prog 16 #[.string ⟨T.toArray⟩,.string (⟨T.toArray⟩ ++ ⟨#[120]⟩)] W fun e w'=>(∃ cs,e = .returned (.string ⟨(encD T.length cs).toArray⟩) ∧ (∀ c ∈ cs,okC T.length c) ∧ applyC T cs = T ++ [120] ∧ sumC cs = (T ++ [120]).length ∧ (encD T.length cs).length ≤ (T ++ [120]).length + (T ++ [120]).length / 100 + 7) ∧ Below W.heap.size W w'):=fun W=>by
  rw [show ((⟨T.toArray⟩:ByteArray) ++ ⟨#[120]⟩) = ⟨(T ++ [120]).toArray⟩ from HX]
  exact dmake_any T (T ++ [120]) (by omega) (by rw [List.length_append]; simp; omega) W
 clear HX
 refine wpAnyK_take0 (i:=3) (oi:=⟨some 26,_,_,_,_,none⟩) (v:=.string (⟨T.toArray⟩ ++ ⟨#[120]⟩)) rfl (by kernel_rfl) (fun _ _ _ h=>h) (Or.inl ⟨by rfl,fun W hW=>?_⟩) (fun _=>hS0) ?_
 ·go_simp
  omega
 try simp only [Act.put]
 try go_simp
 refine wpAnyK_ready (rs:=[4]) (by kernel_rfl) (by simp) ?_
 refine AllReadyK.cons (o:=_) rfl (fun K hK=>?_) AllReadyK.nil
 rw [if_pos (by rfl)]
 go_simp
 refine (HMK.out w3).mono ?_
 rintro e w4 ⟨⟨cs,rfl,hok,hap,hsum,hdl⟩,hb⟩
 have O1:=Hy (N1.out.below hb N1.out.lt)
 have O2:=Hy (N2.out.below hb N2.out.lt)
 have O3:=Hy (N3.out.below hb N3.out.lt)
 have HB4:=Hy (hTr HB3 hb)
 have hS0:w4.cell? ⟨w.heap.size + 1,0,none⟩ = some (.string ⟨T.toArray⟩) ∧ w4.rangeAt w.heap.size 0 (encN a):=⟨(O2.out.at_ 0).trans rfl,whole_range O1.out⟩
 have hTl:(T ++ [120]).length ≤ 61:=by rw [List.length_append]; simp; omega
 have HOK:=Hy hok
 have HAP:=Hy hap
 have hsl:sumC cs ≤ 1000000:=by omega
 have hdl2:(encD T.length cs).length ≤ 100000:=by omega
 clear hb N1 N2 N3 HB3 HMK hok hap hsum hdl
 obtain ⟨D,hD⟩:∃ D,D = encD T.length cs:=⟨_,rfl⟩
 rw [← hD] at hdl2 ⊢
 have HDD:=Hy hD
 clear hD
 refine hK _ _ (fun _=>hS0) ?_
 clear hK K
 refine wpAnyK_ready (rs:=[5]) (by kernel_rfl) (by simp) ?_
 refine AllReadyK.cons (o:=_) rfl (fun K hK=>?_) AllReadyK.nil
 rw [if_pos (by rfl)]
 refine wp_buildI7 _ _ _ rfl 7 a ⟨D.toArray⟩ rfl rfl rfl ?_
 refine hK _ _ (fun _=>hS0) ?_
 clear hK K
 refine wpAnyK_ready (rs:=[6]) (by kernel_rfl) (by simp) ?_
 refine AllReadyK.cons (o:=_) rfl (fun K hK=>?_) AllReadyK.nil
 rw [if_pos (by rfl)]
 refine wp_buildG eltI _ rfl ⟨7,0,a,D⟩ rfl ?_
 have hba:=(Below.refl w4.heap.size w4).alloc (Nat.le_refl _) (.cells (encI ⟨7,0,a,D⟩).toArray 34)
 refine hK _ _ (fun _=>⟨cell_grown hS0.1 (grown_none hba) (by simp),fun j v hv=>cell_grown (hS0.2 j v hv) (grown_none hba) (by simp)⟩) ?_
 clear hK K hba
 refine wpAnyK_ready (rs:=[7]) (by kernel_rfl) (by simp) ?_
 refine AllReadyK.cons (o:=_) rfl (fun K hK=>?_) AllReadyK.nil
 rw [if_pos (by rfl)]
 go_simp
 refine (t_pput7 a D hdl2 w4 (HTT.out w4 HB4.out).1).mono ?_
 rintro e w5 ⟨rfl,hb⟩
 have P1:=Hy (O1.out.below hb O1.out.lt)
 have P2:=Hy (O2.out.below hb O2.out.lt)
 have P3:=Hy (O3.out.below hb O3.out.lt)
 have HB5:=Hy (hTr HB4 hb)
 have hS0:w5.cell? ⟨w.heap.size + 1,0,none⟩ = some (.string ⟨T.toArray⟩) ∧ w5.rangeAt w.heap.size 0 (encN a):=⟨(P2.out.at_ 0).trans rfl,whole_range P1.out⟩
 clear hb O1 O2 O3 HB4
 refine hK _ _ (fun _=>hS0) ?_
 clear hK K
 obtain ⟨PB,hPB⟩:∃ PB,PB = encP (one7 a D):=⟨_,rfl⟩
 rw [← hPB]
 have HPB:=Hy hPB
 clear hPB
 refine wpAnyK_take0 (i:=8) (oi:=⟨some 22,_,_,_,_,none⟩) (v:=.tuple #[.string ⟨PB.toArray⟩,.bool true]) rfl (by kernel_rfl) (fun _ _ _ h=>h) (Or.inl ⟨by rfl,fun W hW=>?_⟩) (fun _=>hS0) ?_
 ·go_simp
 refine wpAnyK_take0 (i:=9) (oi:=⟨some 31,_,_,_,_,none⟩) (v:=.string ⟨PB.toArray⟩) rfl (by kernel_rfl) (fun _ _ _ h=>h) (Or.inl ⟨by rfl,fun W hW=>?_⟩) (fun _=>hS0) ?_
 ·go_simp
 refine wpAnyK_take0 (i:=10) (oi:=⟨some 32,_,_,_,_,none⟩) (v:=.bool true) rfl (by kernel_rfl) (fun _ _ _ h=>h) (Or.inl ⟨by rfl,fun W hW=>?_⟩) (fun _=>hS0) ?_
 ·go_simp
 try simp only [Act.put]
 try go_simp
 refine wpAnyK_ready (rs:=[11]) (by kernel_rfl) (by simp) ?_
 refine AllReadyK.cons (o:=_) rfl (fun K hK=>?_) AllReadyK.nil
 rw [if_pos (by rfl)]
 go_simp
 refine hK _ _ (fun h=>by cases h) ?_
 clear hK K
 refine wpAnyK_ready (rs:=[12]) (by kernel_rfl) (by simp) ?_
 refine AllReadyK.cons (o:=_) rfl (fun K hK=>?_) AllReadyK.nil
 rw [if_pos (by rfl)]
 go_simp
 refine hK _ _ (fun h=>by cases h) ?_
 clear hK K
 refine wpAnyK_done (by kernel_rfl) ?_ _
 try simp only [Act.put]
 try go_simp
 clear hS0
 have hok7:=ok7 a D hdl2
 have HD7:=Hy (okd7 a D (T.length,cs) HDD.out HOK.out (by show T.length ≤ 1000000; omega) hsl)
 have HW7:=Hy (hwb7 a D hdl2)
 obtain ⟨q0,hq1,hq2⟩:=rounds_lone7 a D (T.length,cs) none (fun h e=>by cases e)
 have HPO:=Hy (pobjects_any (one7 a D) (fun _=>(T.length,cs)) 2 q0 w5 (HTT.out w5 HB5.out).1 hok7 (by show 1 ≤ 200; decide) (by decide) HD7.out HW7.out (fun W h=>HTT.out W (HB5.out.trans (h.mono HB5.out.size))) hq1)
 rw [hq2,← HPB.out] at HPO
 clear hq1 hq2
 go_wp2_with fail
 refine HPO.out.mono ?_
 rintro e w6 ⟨hb,hres⟩
 obtain rfl:e = .returned (.tuple #[.slice none 0 0,.int .i64 11]):=by
  rcases hres with ⟨h,-⟩ | ⟨-,h⟩
  ·cases h
  ·exact h
 have Q1:=Hy (P1.out.below hb P1.out.lt)
 have Q2:=Hy (P2.out.below hb P2.out.lt)
 have Q3:=Hy (P3.out.below hb P3.out.lt)
 have HB6:=Hy (hTr HB5 hb)
 have HPG:=Hy (pget_any (one7 a D) w6 (HTT.out w6 HB6.out).1 hok7)
 rw [← HPB.out] at HPG
 clear hb hres HPO P1 P2 P3 HB5
 go_wp2_with fail
 refine HPG.out.mono ?_
 rintro e w7 ⟨⟨A7,c7,rfl,har,-⟩,hb⟩
 have R1:=Hy (Q1.out.below hb Q1.out.lt)
 have R2:=Hy (Q2.out.below hb Q2.out.lt)
 have R3:=Hy (Q3.out.below hb Q3.out.lt)
 have HB7:=Hy (hTr HB6 hb)
 have hz7:w.heap.size + 2 < w7.heap.size:=R3.out.lt
 have HJ:Hid (JLoop w.heap.size a T hd (fun k=>k < w7.heap.size) w7):=⟨⟨by omega,by omega,by omega⟩,fun k hk=>hk,R1.out,R2.out,R3.out⟩
 have hqq:∃ q:Int × Nat × Mk,roundsV (one7 a D) (fun _=>(T.length,cs)) (some (loopV a T hd)) 2 (mk0 (one7 a D)) = some q ∧ (if hd then ansB (one7 a D) q = 0 ∧ q.2.2.objs = [⟨1,T ++ [120],[],noC⟩] else ansB (one7 a D) q = 11):=by
  cases hd with
  | true=>
   obtain ⟨q,e1,e2,e3⟩:=rounds_one7 a D (T.length,cs) (loopV a T true) 1 T (by unfold loopV; simp) rfl (by omega) (by show (getOb 1 (applyC T cs)).2 = 0; rw [HAP.out,gob_blob _ (by omega)])
   refine ⟨q,e1,?_⟩
   rw [if_pos rfl]
   refine ⟨e2,?_⟩
   rw [e3]
   show [(getOb 1 (applyC T cs)).1] = _
   rw [HAP.out,gob_blob _ (by omega)]
  | false=>
   obtain ⟨q,e1,e2⟩:=rounds_lone7 a D (T.length,cs) (some (loopV a T false)) (fun h e=>by injection e with e; rw [← e]; simp [loopV])
   exact ⟨q,e1,by rw [if_neg (by decide)]; exact e2⟩
 obtain ⟨q,hq1,hq2⟩:=hqq
 have HBO:=Hy (pbodies_any (fun _=>False) A7 c7 (one7 a D) (fun _=>(T.length,cs)) _ (some (loopV a T hd)) 2 q w7 har (fun _ h=>h.elim) (fun _ _ _ h=>h) (by show 1 ≤ 200; decide) (by decide) HD7.out HW7.out (fun W ha=>HTT.out W (HB7.out.trans (ha.none.mono HB7.out.size))) (.inr ⟨_,_,_,JLoop w.heap.size a T hd,_,rfl,rfl,wloo1_enters,jloop_foot w.heap.size a T hd,HJ.out,wloo1_any w.heap.size a T hd⟩) hq1)
 have hlc7:1 ≤ c7:=har.1
 have h1l:(one7 a D).length = 1:=rfl
 rw [h1l] at HBO
 rw [h1l]
 clear hb har HPG Q1 Q2 Q3 HB6 HJ hq1
 have HQ2:=Hy hq2
 clear hq2
 go_wp2_with fail
 refine HBO.out.mono ?_
 rintro e w8 ⟨ha,hres⟩
 have HB8:=Hy (HB7.out.trans (ha.none.mono HB7.out.size))
 have S2:=Hy (R2.out.alt ha (fun h=>h))
 have S3:=Hy (R3.out.alt ha (fun h=>h))
 have hd2:w8.cell? ⟨w.heap.size + 1,0,none⟩ = some (.string ⟨T.toArray⟩):=(S2.out.at_ 0).trans rfl
 have hd3:w8.cell? ⟨w.heap.size + 2,0,none⟩ = some (.bool hd):=(S3.out.at_ 0).trans rfl
 clear ha HBO R1 R2 R3 HB7
 cases hd with
 | true=>
  have hq2:=HQ2.out
  rw [if_pos rfl] at hq2
  rcases hres with ⟨h0,p,rfl,hm,-⟩ | ⟨h0,-⟩
  ·obtain ⟨xs,hx1,hx2,-⟩:=hm.objs
   rw [hq2.2] at hx1
   obtain ⟨x,rfl,hx⟩:∃ x,xs = [x] ∧ x.x = ⟨1,T ++ [120],[],noC⟩:=by
    cases xs with
    | nil=>cases hx1
    | cons x l=>
     cases l with
     | nil=>injection hx1 with hx1; exact ⟨x,rfl,hx1⟩
     | cons y l=>injection hx1 with _ hx1; cases hx1
   have hcb:w8.cell? ⟨p.go,1,none⟩ = some (.string ⟨(T ++ [120]).toArray⟩):=by
    rw [hx2.at_]
    show some (Value.string ⟨x.x.blob.toArray⟩) = _
    rw [hx]
   have HX:=ba_append T [120]
   have HX2:Hid ((⟨(T ++ [120]).toArray⟩:ByteArray) = ⟨T.toArray⟩ ++ ⟨#[120]⟩):=HX.symm
   clear hm hx1 hx2 hx hq2 h0
   rw [HX2.out] at hcb
   clear HX
   have HC1:Hid (∀ V,Below w8.heap.size w8 V → (Instr.loadAt 9 (.pointer (some ⟨p.go,1,none⟩))).run Tryz.prog V = .ok (.string (⟨T.toArray⟩ ++ ⟨#[120]⟩)) V):=fun V h=>by
    have hc:=cell_grown hcb (grown_none h) (by simp)
    go_simp
   have HC2:Hid (∀ V,Below w8.heap.size w8 V → (Instr.loadAt 9 (.pointer (some ⟨w.heap.size + 1,0,none⟩))).run Tryz.prog V = .ok (.string ⟨T.toArray⟩) V):=fun V h=>by
    have hc:=cell_grown hd2 (grown_none h) (by simp)
    go_simp
   clear hcb
   go_wp2_with fail
   refine wp_region_quiet_below (by kernel_rfl) (by kernel_rfl) ?_
   repeat (first
    | go_big_quiet_step (fail)
    | (refine q_cell _ _ rfl (by rfl) ⟨p.go,1,none⟩ (.string (⟨T.toArray⟩ ++ ⟨#[120]⟩)) rfl (fun V hC=>HC1.out V (below_clsC hC)) ?_; simp only [Act.put]; go_simp)
    | (refine q_cell _ _ rfl (by rfl) ⟨w.heap.size + 1,0,none⟩ (.string ⟨T.toArray⟩) rfl (fun V hC=>HC2.out V (below_clsC hC)) ?_; simp only [Act.put]; go_simp))
   refine wpQuiet_nil ?_
   intro p9
   have HF:=Hy (HB8.out.trans ((below_regrown w8 p9.d p9.os).mono HB8.out.size))
   generalize Sort.grow (redrawn w8 p9.d) p9.os = wf at *
   go_wp2
   go_ret
   exact ⟨rfl,HF.out⟩
  ·exact absurd hq2.1 h0
 | false=>
  have hq2:=HQ2.out
  rw [if_neg (by decide)] at hq2
  rcases hres with ⟨h0,-⟩ | ⟨-,h0⟩
  ·rw [hq2] at h0
   cases h0
  ·rw [hq2] at h0
   subst h0
   go_wp2_with fail
   refine wp_region_quiet_below (by kernel_rfl) (by kernel_rfl) ?_
   repeat (first
    | go_big_quiet_step (fail))
   refine wpQuiet_nil ?_
   first | (intro p9; have HF:=Hy (HB8.out.trans ((below_regrown w8 p9.d p9.os).mono HB8.out.size))) | (rintro _ ⟨p9,rfl⟩; have HF:=Hy (HB8.out.trans ((below_regrown w8 p9.d p9.os).mono HB8.out.size)))
   generalize Sort.grow (redrawn w8 p9.d) p9.os = wf at *
   go_wp2
   go_ret
   exact ⟨rfl,HF.out⟩
end Go.Proofs.YtlfmooihcigolaaGreatDoor

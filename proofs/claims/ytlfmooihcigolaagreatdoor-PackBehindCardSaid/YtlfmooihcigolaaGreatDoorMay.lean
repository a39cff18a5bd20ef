/-
  ObB, ObC.
-/
import Derived.Test.YtlfmooihcigolaaGreatDoorMax
set_option maxRecDepth 100000
set_option maxHeartbeats 8000000
namespace Go.Proofs.YtlfmooihcigolaaGreatDoor
open Go.RowKit
theorem obox (A:Option Addr) (c:Nat) (A2:Option Addr) (c2:Nat) (x:Ob) (w:World) (hA:ArgO w A c A2 c2 x) :
  Whole (w.alloc (.cells (encO A c A2 c2 x).toArray 49)) w.heap.size 49 (encO A c A2 c2 x).toArray ∧ Below w.heap.size w (w.alloc (.cells (encO A c A2 c2 x).toArray 49)) ∧ ArgO (w.alloc (.cells (encO A c A2 c2 x).toArray 49)) A c A2 c2 x:=
 ⟨Whole.made w _ _,(Below.refl _ _).alloc (Nat.le_refl _) _,hA.later ((Below.refl _ _).alloc (Nat.le_refl _) _)⟩
theorem mbody_any (A:Option Addr) (c:Nat) (A2:Option Addr) (c2:Nat) (x:Ob) (w:World) (hA:ArgO w A c A2 c2 x) (ht:x.commit.time < 18446744073709551616) (hl:x.entries.length ≤ 1048576) :
  Calls Tryz.prog 178 #[.agg (encO A c A2 c2 x).toArray] w fun e w'=>e = .returned (.bool (bodyO x)) ∧ Below w.heap.size w w':=by
 obtain ⟨hW,hB,hA0⟩:=obox A c A2 c2 x w hA
 have HB:=Hy hB
 have HTX:=Hy (encO_commit A c A2 c2 x hW)
 have e0:=(hW.at_ 0).trans (encO_0 A c A2 c2 x)
 have e1:=(hW.at_ 1).trans (encO_1 A c A2 c2 x)
 have e2:=(hW.at_ 2).trans (encO_2 A c A2 c2 x)
 have HXI:=Hy (infoC_l A2 c2 x.commit)
 have HTM:=Hy (tmay_any A c x.entries _ hA0.1 hl)
 have HCM:=Hy (cmay_any A2 c2 x.commit _ hA0.2 ht)
 have HQ:Hid (bodyO x = if x.kind = 1 then decide (x.blob.length ≤ 1000) else if x.kind = 2 then mayT x.entries else if x.kind = 3 then mayC x.commit else false):=rfl
 have HD:Hid (decide (x.blob.length ≤ 1000) = decide ((x.blob.length:Int) ≤ 1000)):=by show _ = _; rw [decide_eq_decide]; omega
 clear hW hB hA0 hA ht hl
 generalize (encO A c A2 c2 x).toArray = cs at *
 generalize mayC x.commit = mc at *
 generalize encC A2 c2 x.commit = tx at *
 generalize mayT x.entries = mt at *
 generalize x.entries.length = px at *
 generalize x.blob = nx at *
 generalize x.kind = kx at *
 by_cases h1:kx = 1
 ·subst h1
  go_enter Tryz.func178,Tryz.ntmps178
  go_wp2
  go_ret
  exact ⟨by rw [HQ.out,if_pos (by trivial),HD.out]; rfl,HB.out⟩
 by_cases h2:kx = 2
 ·subst h2
  go_enter Tryz.func178,Tryz.ntmps178
  go_wp2_with fail
  generalize w.alloc (.cells cs 49) = w0 at *
  refine HTM.out.mono ?_
  rintro e w1 ⟨rfl,hb⟩
  have HB1:=Hy (hTr HB hb)
  clear hb
  go_wp2
  go_ret
  exact ⟨by rw [HQ.out,if_neg (by decide),if_pos (by trivial)]; rfl,HB1.out⟩
 by_cases h3:kx = 3
 ·subst h3
  go_enter Tryz.func178,Tryz.ntmps178
  go_wp2_with (refine wpList_load_mid rfl 47 _ rfl w.heap.size 3 rfl tx _ HTX.out Tryz.underlying47 rfl HXI.out ?_)
  generalize w.alloc (.cells cs 49) = w0 at *
  refine HCM.out.mono ?_
  rintro e w1 ⟨rfl,hb⟩
  have HB1:=Hy (hTr HB hb)
  clear hb
  go_wp2
  go_ret
  exact ⟨by rw [HQ.out,if_neg (by decide),if_neg (by decide),if_pos (by trivial)]; rfl,HB1.out⟩
 have g1:(kx == 1) = false:=by simpa using h1
 have g2:(kx == 2) = false:=by simpa using h2
 have g3:(kx == 3) = false:=by simpa using h3
 have H1:=Hy h1
 have H2:=Hy h2
 have H3:=Hy h3
 clear h1 h2 h3
 go_enter Tryz.func178,Tryz.ntmps178
 go_wp2
 go_ret
 exact ⟨by rw [HQ.out,if_neg H1.out,if_neg H2.out,if_neg H3.out]; rfl,HB.out⟩
def bareV (A:Option Addr) (c:Nat) (A2:Option Addr) (c2:Nat) (x:Ob):List Value:=
 if x.kind = 1 then encO none 0 none 0 (bareO x) else if x.kind = 2 then encO A c none 0 (bareO x) else if x.kind = 3 then encO none 0 A2 c2 (bareO x) else encO none 0 none 0 (bareO x)
theorem bareV_arg (A:Option Addr) (c:Nat) (A2:Option Addr) (c2:Nat) (x:Ob):∃ B d B2 d2,bareV A c A2 c2 x = encO B d B2 d2 (bareO x) ∧ ∀ W,ArgO W A c A2 c2 x → ArgO W B d B2 d2 (bareO x):=by
 have hn:∀ W,ArgN W none 0 noC.parents:=fun W=>⟨Nat.le_refl _,Nat.zero_le _,fun _=>rfl,fun h=>absurd h (Nat.lt_irrefl _)⟩
 have he:∀ W,ArgE W none 0 []:=fun W=>⟨Nat.le_refl _,Nat.zero_le _,fun _=>rfl,fun h=>absurd h (Nat.lt_irrefl _)⟩
 unfold bareV bareO
 by_cases h1:x.kind = 1
 ·rw [if_pos h1,if_pos h1]
  exact ⟨_,_,_,_,rfl,fun W h=>⟨he W,hn W⟩⟩
 rw [if_neg h1,if_neg h1]
 by_cases h2:x.kind = 2
 ·rw [if_pos h2,if_pos h2]
  exact ⟨_,_,_,_,rfl,fun W h=>⟨h.1,hn W⟩⟩
 rw [if_neg h2,if_neg h2]
 by_cases h3:x.kind = 3
 ·rw [if_pos h3,if_pos h3]
  exact ⟨_,_,_,_,rfl,fun W h=>⟨he W,h.2⟩⟩
 rw [if_neg h3,if_neg h3]
 exact ⟨_,_,_,_,rfl,fun W h=>⟨he W,hn W⟩⟩
theorem fold_off:∀ (l:List Value) (k off:Nat) (z:Array Value),off + k + l.length ≤ z.size → ((l.zipIdx k).foldl (fun cs (p:Value × Nat)=>cs.setIfInBounds (off + p.2) p.1) z).toList = z.toList.take (off + k) ++ l ++ z.toList.drop (off + k + l.length)
 | [],k,off,z,_=>by simp
 | c :: r,k,off,z,h=>by
  rw [List.zipIdx_cons,List.foldl_cons,fold_off r (k + 1) off _ (by simp at h ⊢; omega)]
  simp only [List.length_cons] at h
  have hk:off + k < z.toList.length:=by simp; omega
  have e:(z.setIfInBounds (off + k) c).toList = z.toList.set (off + k) c:=by simp
  rw [e]
  have e1:(z.toList.set (off + k) c).take (off + (k + 1)) = z.toList.take (off + k) ++ [c]:=by
   rw [show off + (k + 1) = (off + k) + 1 by omega,List.take_set,List.take_succ_eq_append_getElem hk,List.set_append_right _ _ (by simp; omega)]
   have:off + k - (z.toList.take (off + k)).length = 0:=by simp; omega
   rw [this]
   rfl
  have e2:(z.toList.set (off + k) c).drop (off + (k + 1) + r.length) = z.toList.drop (off + k + (r.length + 1)):=by
   rw [List.drop_set,if_pos (by omega)]
   congr 1
   omega
  rw [e1,e2,List.length_cons]
  simp
theorem build_O1 (k:Int) (b:ByteArray) (w:World):(Instr.build 49 #[(0,.int .i64 k),(1,.string b)]).run Tryz.prog w = .ok (.agg (.int .i64 k :: .string b :: .slice none 0 0 :: encC none 0 noC).toArray) w:=by kernel_rfl
theorem build_O2 (k:Int) (A:Option Addr) (n c:Nat) (w:World):(Instr.build 49 #[(0,.int .i64 k),(2,.slice A n c)]).run Tryz.prog w = .ok (.agg (.int .i64 k :: .string ⟨#[]⟩ :: .slice A n c :: encC none 0 noC).toArray) w:=by kernel_rfl
theorem build_O0 (k:Int) (w:World):(Instr.build 49 #[(0,.int .i64 k)]).run Tryz.prog w = .ok (.agg (.int .i64 k :: .string ⟨#[]⟩ :: .slice none 0 0 :: encC none 0 noC).toArray) w:=by kernel_rfl
theorem zeroO_run (w:World):(zeroValue 49).run Tryz.prog w = .ok (.agg (.int .i64 0 :: .string ⟨#[]⟩ :: .slice none 0 0 :: encC none 0 noC).toArray) w:=by kernel_rfl
theorem build_O3 (k:Int) (cs:List Value) (h:cs.length = 35) (w:World):(Instr.build 49 #[(0,.int .i64 k),(3,.agg cs.toArray)]).run Tryz.prog w = .ok (.agg (.int .i64 k :: .string ⟨#[]⟩ :: .slice none 0 0 :: cs).toArray) w:=by
 have hpl:((match Tryz.prog.underlying 49 with | some (.struct fs)=>fs | _=>#[]).mapM (fun (f:Field)=>do pure (f.offset,← sizeOf f.type)):Sem (Array (Nat × Nat))).run Tryz.prog w = .ok #[(0,1),(1,1),(2,1),(3,35)] w:=by kernel_rfl
 simp only [Tryz.underlying49] at hpl
 unfold Instr.build
 simp only [Sem.run_bind,zeroO_run,Result.andThen_ok,run_underlying Tryz.underlying49,hpl]
 have hz:(encC none 0 noC).length = 35:=encC_len _ _ _
 generalize encC none 0 noC = zs at *
 simp [Instr.fill,Value.cells,h,hz]
 apply Array.toList_inj.1
 have h9:=fold_off cs 0 3 (Value.int .i64 k :: Value.string ⟨#[]⟩ :: Value.slice none 0 0 :: zs).toArray (by simp; omega)
 rw [h9]
 simp
 omega
theorem wpList_buildO3 {ops:Array Oper} {rest:List Oper} {o:Oper} {a:Act} {w:World} {Q:Exit → Act → World → Prop} (hgd:o.guard = none) (x y:Operand) (ho:o.op = .build 49 #[(0,x),(3,y)]) (k:Int) (cs:List Value) (hx:a.eval x = .int .i64 k) (hy:a.eval y = .agg cs.toArray) (hl:cs.length = 35)
  (h:wpList Tryz.prog ops Q rest (a.put o.dst (.agg (.int .i64 k :: .string ⟨#[]⟩ :: .slice none 0 0 :: cs).toArray)) w):wpList Tryz.prog ops Q (o :: rest) a w:=by
 refine wpList_plain hgd fun K hK=>?_
 have hb:=build_O3 k cs hl w
 unfold Oper.wp
 simp [execOp,ho,hx,hy,hb,Result.andThen]
 exact hK _ _ h
theorem bare_any (A:Option Addr) (c:Nat) (A2:Option Addr) (c2:Nat) (x:Ob) (w:World) :
  Calls Tryz.prog 179 #[.agg (encO A c A2 c2 x).toArray] w fun e w'=>e = .returned (.agg (bareV A c A2 c2 x).toArray) ∧ Below w.heap.size w w':=by
 have HW1:=Hy fun z=>Whole.past (Whole.made w 49 (encO A c A2 c2 x).toArray) (.cells z 49)
 have HW2:Hid (∀ z,Whole ((w.alloc (.cells (encO A c A2 c2 x).toArray 49)).alloc (.cells z 49)) (w.heap.size + 1) 49 z):=by
  intro z
  have:=Whole.made (w.alloc (.cells (encO A c A2 c2 x).toArray 49)) 49 z
  simpa using this
 have HB0:=Hy fun z=>((Below.refl w.heap.size w).alloc (Nat.le_refl _) (.cells (encO A c A2 c2 x).toArray 49)).alloc (by simp) (.cells z 49)
 have HQ:Hid (bareV A c A2 c2 x = if x.kind = 1 then .int .i64 x.kind :: .string ⟨x.blob.toArray⟩ :: .slice none 0 0 :: encC none 0 noC else if x.kind = 2 then .int .i64 x.kind :: .string ⟨#[]⟩ :: .slice A x.entries.length c :: encC none 0 noC else if x.kind = 3 then .int .i64 x.kind :: .string ⟨#[]⟩ :: .slice none 0 0 :: encC A2 c2 x.commit else .int .i64 x.kind :: .string ⟨#[]⟩ :: .slice none 0 0 :: encC none 0 noC):=by
  show _ = _
  unfold bareV bareO
  by_cases h1:x.kind = 1
  ·simp only [if_pos h1]; rfl
  by_cases h2:x.kind = 2
  ·simp only [if_neg h1,if_pos h2]; rfl
  by_cases h3:x.kind = 3
  ·simp only [if_neg h1,if_neg h2,if_pos h3]; rfl
  simp only [if_neg h1,if_neg h2,if_neg h3]; rfl
 have HTX0:=Hy fun z=>encO_commit A c A2 c2 x (HW1.out z)
 have HE0:=Hy fun z=>((HW1.out z).at_ 0).trans (encO_0 A c A2 c2 x)
 have HE1:=Hy fun z=>((HW1.out z).at_ 1).trans (encO_1 A c A2 c2 x)
 have HE2:=Hy fun z=>((HW1.out z).at_ 2).trans (encO_2 A c A2 c2 x)
 have HXI:=Hy (infoC_l A2 c2 x.commit)
 have HTL:=Hy (encC_len A2 c2 x.commit)
 have HT1:=Hy (encC_one A2 c2 x.commit)
 have HN1:=Hy (encC_one none 0 noC)
 have HNL:=Hy (encC_len none 0 noC)
 generalize bareV A c A2 c2 x = bv at *
 clear HW1
 generalize (encO A c A2 c2 x).toArray = cs at *
 generalize encC A2 c2 x.commit = tx at *
 generalize x.entries.length = px at *
 generalize x.blob = nx at *
 generalize x.kind = kx at *
 by_cases h1:kx = 1
 ·subst h1
  have e0:=HE0.out #[Value.int .i64 0,.string ⟨#[]⟩,.slice none 0 0,Z8,Z8,Z8,Z8,Z8,Z8,Z8,Z8,Z8,Z8,Z8,Z8,Z8,Z8,Z8,Z8,Z8,Z8,Z8,Z8,Z8,Z8,Z8,Z8,Z8,Z8,Z8,Z8,Z8,Z8,Z8,Z8,.slice none 0 0,Value.float FloatKind.f64 0,.string ⟨#[]⟩]
  have e1:=HE1.out #[Value.int .i64 0,.string ⟨#[]⟩,.slice none 0 0,Z8,Z8,Z8,Z8,Z8,Z8,Z8,Z8,Z8,Z8,Z8,Z8,Z8,Z8,Z8,Z8,Z8,Z8,Z8,Z8,Z8,Z8,Z8,Z8,Z8,Z8,Z8,Z8,Z8,Z8,Z8,Z8,.slice none 0 0,Value.float FloatKind.f64 0,.string ⟨#[]⟩]
  have e2:=HE2.out #[Value.int .i64 0,.string ⟨#[]⟩,.slice none 0 0,Z8,Z8,Z8,Z8,Z8,Z8,Z8,Z8,Z8,Z8,Z8,Z8,Z8,Z8,Z8,Z8,Z8,Z8,Z8,Z8,Z8,Z8,Z8,Z8,Z8,Z8,Z8,Z8,Z8,Z8,Z8,Z8,.slice none 0 0,Value.float FloatKind.f64 0,.string ⟨#[]⟩]
  have HTX:=Hy (HTX0.out #[Value.int .i64 0,.string ⟨#[]⟩,.slice none 0 0,Z8,Z8,Z8,Z8,Z8,Z8,Z8,Z8,Z8,Z8,Z8,Z8,Z8,Z8,Z8,Z8,Z8,Z8,Z8,Z8,Z8,Z8,Z8,Z8,Z8,Z8,Z8,Z8,Z8,Z8,Z8,Z8,.slice none 0 0,Value.float FloatKind.f64 0,.string ⟨#[]⟩])
  have HW:=Hy (HW2.out #[Value.int .i64 0,.string ⟨#[]⟩,.slice none 0 0,Z8,Z8,Z8,Z8,Z8,Z8,Z8,Z8,Z8,Z8,Z8,Z8,Z8,Z8,Z8,Z8,Z8,Z8,Z8,Z8,Z8,Z8,Z8,Z8,Z8,Z8,Z8,Z8,Z8,Z8,Z8,Z8,.slice none 0 0,Value.float FloatKind.f64 0,.string ⟨#[]⟩])
  have HB:=Hy (HB0.out #[Value.int .i64 0,.string ⟨#[]⟩,.slice none 0 0,Z8,Z8,Z8,Z8,Z8,Z8,Z8,Z8,Z8,Z8,Z8,Z8,Z8,Z8,Z8,Z8,Z8,Z8,Z8,Z8,Z8,Z8,Z8,Z8,Z8,Z8,Z8,Z8,Z8,Z8,Z8,Z8,.slice none 0 0,Value.float FloatKind.f64 0,.string ⟨#[]⟩])
  clear HE0 HE1 HE2 HTX0 HW2 HB0
  go_enter Tryz.func179,Tryz.ntmps179
  have hbl:=build_O1 1 ⟨nx.toArray⟩
  have HSZ:Hid ((Tryz.prog.info? 49).map (·.size) = some (Value.int .i64 1 :: Value.string ⟨nx.toArray⟩ :: Value.slice none 0 0 :: encC none 0 noC).toArray.size):=by show _ = _; rw [List.size_toArray,List.length_cons,List.length_cons,List.length_cons,HNL.out]; exact infoO
  have HS2:Hid (#[Value.int .i64 0,.string ⟨#[]⟩,.slice none 0 0,Z8,Z8,Z8,Z8,Z8,Z8,Z8,Z8,Z8,Z8,Z8,Z8,Z8,Z8,Z8,Z8,Z8,Z8,Z8,Z8,Z8,Z8,Z8,Z8,Z8,Z8,Z8,Z8,Z8,Z8,Z8,Z8,.slice none 0 0,Value.float FloatKind.f64 0,.string ⟨#[]⟩].size = (Value.int .i64 1 :: Value.string ⟨nx.toArray⟩ :: Value.slice none 0 0 :: encC none 0 noC).toArray.size):=(show _ = 38 from rfl).trans (by rw [List.size_toArray,List.length_cons,List.length_cons,List.length_cons,HNL.out])
  have HAL:Hid (((Value.int .i64 1 :: Value.string ⟨nx.toArray⟩ :: Value.slice none 0 0 :: encC none 0 noC).toArray).all (·.oneCell') = true):=by
   refine all_oneCell_toArray (fun v hv=>?_)
   simp only [List.mem_cons] at hv
   rcases hv with rfl | rfl | rfl | hv
   ·rfl
   ·rfl
   ·rfl
   ·exact HN1.out v hv
  go_wp2_with (first
   | (refine wpList_store_whole rfl 49 _ _ rfl (w.heap.size + 1) (Value.int .i64 1 :: Value.string ⟨nx.toArray⟩ :: Value.slice none 0 0 :: encC none 0 noC).toArray rfl rfl 49 _ HW.out HSZ.out HS2.out HAL.out ?_; intro w1 hWn hGn; have HW1:=Hy hWn; have HG1:=Hy hGn; clear hWn hGn))
  have HBF:=Hy (be_grown HB.out HG1.out (by have:=HB.out.size; exact this) (fun j hj=>by injection hj with hj; omega))
  have HBV:Hid (bv = Value.int .i64 1 :: Value.string ⟨nx.toArray⟩ :: Value.slice none 0 0 :: encC none 0 noC):=by show _ = _; rw [HQ.out,if_pos (by trivial)]
  rw [HBV.out]
  refine bodyPost_ret (v:=.agg (Value.int .i64 1 :: Value.string ⟨nx.toArray⟩ :: Value.slice none 0 0 :: encC none 0 noC).toArray) ?_ rfl ⟨rfl,HBF.out⟩
  exact results_cell_row (p:=2) (ty:=49) rfl _ _ (w.heap.size + 1) 49 (Value.int .i64 1 :: Value.string ⟨nx.toArray⟩ :: Value.slice none 0 0 :: encC none 0 noC).toArray (0,0) _ rfl HW1.out Tryz.underlying49 rfl HSZ.out
 by_cases h2:kx = 2
 ·subst h2
  have e0:=HE0.out #[Value.int .i64 0,.string ⟨#[]⟩,.slice none 0 0,Z8,Z8,Z8,Z8,Z8,Z8,Z8,Z8,Z8,Z8,Z8,Z8,Z8,Z8,Z8,Z8,Z8,Z8,Z8,Z8,Z8,Z8,Z8,Z8,Z8,Z8,Z8,Z8,Z8,Z8,Z8,Z8,.slice none 0 0,Value.float FloatKind.f64 0,.string ⟨#[]⟩]
  have e1:=HE1.out #[Value.int .i64 0,.string ⟨#[]⟩,.slice none 0 0,Z8,Z8,Z8,Z8,Z8,Z8,Z8,Z8,Z8,Z8,Z8,Z8,Z8,Z8,Z8,Z8,Z8,Z8,Z8,Z8,Z8,Z8,Z8,Z8,Z8,Z8,Z8,Z8,Z8,Z8,Z8,Z8,.slice none 0 0,Value.float FloatKind.f64 0,.string ⟨#[]⟩]
  have e2:=HE2.out #[Value.int .i64 0,.string ⟨#[]⟩,.slice none 0 0,Z8,Z8,Z8,Z8,Z8,Z8,Z8,Z8,Z8,Z8,Z8,Z8,Z8,Z8,Z8,Z8,Z8,Z8,Z8,Z8,Z8,Z8,Z8,Z8,Z8,Z8,Z8,Z8,Z8,Z8,Z8,Z8,.slice none 0 0,Value.float FloatKind.f64 0,.string ⟨#[]⟩]
  have HTX:=Hy (HTX0.out #[Value.int .i64 0,.string ⟨#[]⟩,.slice none 0 0,Z8,Z8,Z8,Z8,Z8,Z8,Z8,Z8,Z8,Z8,Z8,Z8,Z8,Z8,Z8,Z8,Z8,Z8,Z8,Z8,Z8,Z8,Z8,Z8,Z8,Z8,Z8,Z8,Z8,Z8,Z8,Z8,.slice none 0 0,Value.float FloatKind.f64 0,.string ⟨#[]⟩])
  have HW:=Hy (HW2.out #[Value.int .i64 0,.string ⟨#[]⟩,.slice none 0 0,Z8,Z8,Z8,Z8,Z8,Z8,Z8,Z8,Z8,Z8,Z8,Z8,Z8,Z8,Z8,Z8,Z8,Z8,Z8,Z8,Z8,Z8,Z8,Z8,Z8,Z8,Z8,Z8,Z8,Z8,Z8,Z8,.slice none 0 0,Value.float FloatKind.f64 0,.string ⟨#[]⟩])
  have HB:=Hy (HB0.out #[Value.int .i64 0,.string ⟨#[]⟩,.slice none 0 0,Z8,Z8,Z8,Z8,Z8,Z8,Z8,Z8,Z8,Z8,Z8,Z8,Z8,Z8,Z8,Z8,Z8,Z8,Z8,Z8,Z8,Z8,Z8,Z8,Z8,Z8,Z8,Z8,Z8,Z8,Z8,Z8,.slice none 0 0,Value.float FloatKind.f64 0,.string ⟨#[]⟩])
  clear HE0 HE1 HE2 HTX0 HW2 HB0
  go_enter Tryz.func179,Tryz.ntmps179
  have hbl:=build_O2 2 A px c
  have HSZ:Hid ((Tryz.prog.info? 49).map (·.size) = some (Value.int .i64 2 :: Value.string ⟨#[]⟩ :: Value.slice A px c :: encC none 0 noC).toArray.size):=by show _ = _; rw [List.size_toArray,List.length_cons,List.length_cons,List.length_cons,HNL.out]; exact infoO
  have HS2:Hid (#[Value.int .i64 0,.string ⟨#[]⟩,.slice none 0 0,Z8,Z8,Z8,Z8,Z8,Z8,Z8,Z8,Z8,Z8,Z8,Z8,Z8,Z8,Z8,Z8,Z8,Z8,Z8,Z8,Z8,Z8,Z8,Z8,Z8,Z8,Z8,Z8,Z8,Z8,Z8,Z8,.slice none 0 0,Value.float FloatKind.f64 0,.string ⟨#[]⟩].size = (Value.int .i64 2 :: Value.string ⟨#[]⟩ :: Value.slice A px c :: encC none 0 noC).toArray.size):=(show _ = 38 from rfl).trans (by rw [List.size_toArray,List.length_cons,List.length_cons,List.length_cons,HNL.out])
  have HAL:Hid (((Value.int .i64 2 :: Value.string ⟨#[]⟩ :: Value.slice A px c :: encC none 0 noC).toArray).all (·.oneCell') = true):=by
   refine all_oneCell_toArray (fun v hv=>?_)
   simp only [List.mem_cons] at hv
   rcases hv with rfl | rfl | rfl | hv
   ·rfl
   ·rfl
   ·rfl
   ·exact HN1.out v hv
  go_wp2_with (first
   | (refine wpList_store_whole rfl 49 _ _ rfl (w.heap.size + 1) (Value.int .i64 2 :: Value.string ⟨#[]⟩ :: Value.slice A px c :: encC none 0 noC).toArray rfl rfl 49 _ HW.out HSZ.out HS2.out HAL.out ?_; intro w1 hWn hGn; have HW1:=Hy hWn; have HG1:=Hy hGn; clear hWn hGn))
  have HBF:=Hy (be_grown HB.out HG1.out (by have:=HB.out.size; exact this) (fun j hj=>by injection hj with hj; omega))
  have HBV:Hid (bv = Value.int .i64 2 :: Value.string ⟨#[]⟩ :: Value.slice A px c :: encC none 0 noC):=by show _ = _; rw [HQ.out,if_neg (by decide),if_pos (by trivial)]
  rw [HBV.out]
  refine bodyPost_ret (v:=.agg (Value.int .i64 2 :: Value.string ⟨#[]⟩ :: Value.slice A px c :: encC none 0 noC).toArray) ?_ rfl ⟨rfl,HBF.out⟩
  exact results_cell_row (p:=2) (ty:=49) rfl _ _ (w.heap.size + 1) 49 (Value.int .i64 2 :: Value.string ⟨#[]⟩ :: Value.slice A px c :: encC none 0 noC).toArray (0,0) _ rfl HW1.out Tryz.underlying49 rfl HSZ.out
 by_cases h3:kx = 3
 ·subst h3
  have e0:=HE0.out #[Value.int .i64 0,.string ⟨#[]⟩,.slice none 0 0,Z8,Z8,Z8,Z8,Z8,Z8,Z8,Z8,Z8,Z8,Z8,Z8,Z8,Z8,Z8,Z8,Z8,Z8,Z8,Z8,Z8,Z8,Z8,Z8,Z8,Z8,Z8,Z8,Z8,Z8,Z8,Z8,.slice none 0 0,Value.float FloatKind.f64 0,.string ⟨#[]⟩]
  have e1:=HE1.out #[Value.int .i64 0,.string ⟨#[]⟩,.slice none 0 0,Z8,Z8,Z8,Z8,Z8,Z8,Z8,Z8,Z8,Z8,Z8,Z8,Z8,Z8,Z8,Z8,Z8,Z8,Z8,Z8,Z8,Z8,Z8,Z8,Z8,Z8,Z8,Z8,Z8,Z8,Z8,Z8,.slice none 0 0,Value.float FloatKind.f64 0,.string ⟨#[]⟩]
  have e2:=HE2.out #[Value.int .i64 0,.string ⟨#[]⟩,.slice none 0 0,Z8,Z8,Z8,Z8,Z8,Z8,Z8,Z8,Z8,Z8,Z8,Z8,Z8,Z8,Z8,Z8,Z8,Z8,Z8,Z8,Z8,Z8,Z8,Z8,Z8,Z8,Z8,Z8,Z8,Z8,Z8,Z8,.slice none 0 0,Value.float FloatKind.f64 0,.string ⟨#[]⟩]
  have HTX:=Hy (HTX0.out #[Value.int .i64 0,.string ⟨#[]⟩,.slice none 0 0,Z8,Z8,Z8,Z8,Z8,Z8,Z8,Z8,Z8,Z8,Z8,Z8,Z8,Z8,Z8,Z8,Z8,Z8,Z8,Z8,Z8,Z8,Z8,Z8,Z8,Z8,Z8,Z8,Z8,Z8,Z8,Z8,.slice none 0 0,Value.float FloatKind.f64 0,.string ⟨#[]⟩])
  have HW:=Hy (HW2.out #[Value.int .i64 0,.string ⟨#[]⟩,.slice none 0 0,Z8,Z8,Z8,Z8,Z8,Z8,Z8,Z8,Z8,Z8,Z8,Z8,Z8,Z8,Z8,Z8,Z8,Z8,Z8,Z8,Z8,Z8,Z8,Z8,Z8,Z8,Z8,Z8,Z8,Z8,Z8,Z8,.slice none 0 0,Value.float FloatKind.f64 0,.string ⟨#[]⟩])
  have HB:=Hy (HB0.out #[Value.int .i64 0,.string ⟨#[]⟩,.slice none 0 0,Z8,Z8,Z8,Z8,Z8,Z8,Z8,Z8,Z8,Z8,Z8,Z8,Z8,Z8,Z8,Z8,Z8,Z8,Z8,Z8,Z8,Z8,Z8,Z8,Z8,Z8,Z8,Z8,Z8,Z8,Z8,Z8,.slice none 0 0,Value.float FloatKind.f64 0,.string ⟨#[]⟩])
  clear HE0 HE1 HE2 HTX0 HW2 HB0
  go_enter Tryz.func179,Tryz.ntmps179
  have HSZ:Hid ((Tryz.prog.info? 49).map (·.size) = some (Value.int .i64 3 :: Value.string ⟨#[]⟩ :: Value.slice none 0 0 :: tx).toArray.size):=by show _ = _; rw [List.size_toArray,List.length_cons,List.length_cons,List.length_cons,HTL.out]; exact infoO
  have HS2:Hid (#[Value.int .i64 0,.string ⟨#[]⟩,.slice none 0 0,Z8,Z8,Z8,Z8,Z8,Z8,Z8,Z8,Z8,Z8,Z8,Z8,Z8,Z8,Z8,Z8,Z8,Z8,Z8,Z8,Z8,Z8,Z8,Z8,Z8,Z8,Z8,Z8,Z8,Z8,Z8,Z8,.slice none 0 0,Value.float FloatKind.f64 0,.string ⟨#[]⟩].size = (Value.int .i64 3 :: Value.string ⟨#[]⟩ :: Value.slice none 0 0 :: tx).toArray.size):=(show _ = 38 from rfl).trans (by rw [List.size_toArray,List.length_cons,List.length_cons,List.length_cons,HTL.out])
  have HAL:Hid (((Value.int .i64 3 :: Value.string ⟨#[]⟩ :: Value.slice none 0 0 :: tx).toArray).all (·.oneCell') = true):=by
   refine all_oneCell_toArray (fun v hv=>?_)
   simp only [List.mem_cons] at hv
   rcases hv with rfl | rfl | rfl | hv
   ·rfl
   ·rfl
   ·rfl
   ·exact HT1.out v hv
  go_wp2_with (first
   | (refine wpList_store_whole rfl 49 _ _ rfl (w.heap.size + 1) (Value.int .i64 3 :: Value.string ⟨#[]⟩ :: Value.slice none 0 0 :: tx).toArray rfl rfl 49 _ HW.out HSZ.out HS2.out HAL.out ?_; intro w1 hWn hGn; have HW1:=Hy hWn; have HG1:=Hy hGn; clear hWn hGn)
   | (refine wpList_load_mid rfl 47 _ rfl w.heap.size 3 rfl tx _ HTX.out Tryz.underlying47 rfl HXI.out ?_)
   | (refine wpList_buildO3 rfl _ _ rfl 3 tx rfl rfl HTL.out ?_))
  have HBF:=Hy (be_grown HB.out HG1.out (by have:=HB.out.size; exact this) (fun j hj=>by injection hj with hj; omega))
  have HBV:Hid (bv = Value.int .i64 3 :: Value.string ⟨#[]⟩ :: Value.slice none 0 0 :: tx):=by show _ = _; rw [HQ.out,if_neg (by decide),if_neg (by decide),if_pos (by trivial)]
  rw [HBV.out]
  refine bodyPost_ret (v:=.agg (Value.int .i64 3 :: Value.string ⟨#[]⟩ :: Value.slice none 0 0 :: tx).toArray) ?_ rfl ⟨rfl,HBF.out⟩
  exact results_cell_row (p:=2) (ty:=49) rfl _ _ (w.heap.size + 1) 49 (Value.int .i64 3 :: Value.string ⟨#[]⟩ :: Value.slice none 0 0 :: tx).toArray (0,0) _ rfl HW1.out Tryz.underlying49 rfl HSZ.out
 have g1:(kx == 1) = false:=by simpa using h1
 have g2:(kx == 2) = false:=by simpa using h2
 have g3:(kx == 3) = false:=by simpa using h3
 have H1:=Hy h1
 have H2:=Hy h2
 have H3:=Hy h3
 clear h1 h2 h3
 have e0:=HE0.out #[Value.int .i64 0,.string ⟨#[]⟩,.slice none 0 0,Z8,Z8,Z8,Z8,Z8,Z8,Z8,Z8,Z8,Z8,Z8,Z8,Z8,Z8,Z8,Z8,Z8,Z8,Z8,Z8,Z8,Z8,Z8,Z8,Z8,Z8,Z8,Z8,Z8,Z8,Z8,Z8,.slice none 0 0,Value.float FloatKind.f64 0,.string ⟨#[]⟩]
 have e1:=HE1.out #[Value.int .i64 0,.string ⟨#[]⟩,.slice none 0 0,Z8,Z8,Z8,Z8,Z8,Z8,Z8,Z8,Z8,Z8,Z8,Z8,Z8,Z8,Z8,Z8,Z8,Z8,Z8,Z8,Z8,Z8,Z8,Z8,Z8,Z8,Z8,Z8,Z8,Z8,Z8,Z8,.slice none 0 0,Value.float FloatKind.f64 0,.string ⟨#[]⟩]
 have e2:=HE2.out #[Value.int .i64 0,.string ⟨#[]⟩,.slice none 0 0,Z8,Z8,Z8,Z8,Z8,Z8,Z8,Z8,Z8,Z8,Z8,Z8,Z8,Z8,Z8,Z8,Z8,Z8,Z8,Z8,Z8,Z8,Z8,Z8,Z8,Z8,Z8,Z8,Z8,Z8,Z8,Z8,.slice none 0 0,Value.float FloatKind.f64 0,.string ⟨#[]⟩]
 have HTX:=Hy (HTX0.out #[Value.int .i64 0,.string ⟨#[]⟩,.slice none 0 0,Z8,Z8,Z8,Z8,Z8,Z8,Z8,Z8,Z8,Z8,Z8,Z8,Z8,Z8,Z8,Z8,Z8,Z8,Z8,Z8,Z8,Z8,Z8,Z8,Z8,Z8,Z8,Z8,Z8,Z8,Z8,Z8,.slice none 0 0,Value.float FloatKind.f64 0,.string ⟨#[]⟩])
 have HW:=Hy (HW2.out #[Value.int .i64 0,.string ⟨#[]⟩,.slice none 0 0,Z8,Z8,Z8,Z8,Z8,Z8,Z8,Z8,Z8,Z8,Z8,Z8,Z8,Z8,Z8,Z8,Z8,Z8,Z8,Z8,Z8,Z8,Z8,Z8,Z8,Z8,Z8,Z8,Z8,Z8,Z8,Z8,.slice none 0 0,Value.float FloatKind.f64 0,.string ⟨#[]⟩])
 have HB:=Hy (HB0.out #[Value.int .i64 0,.string ⟨#[]⟩,.slice none 0 0,Z8,Z8,Z8,Z8,Z8,Z8,Z8,Z8,Z8,Z8,Z8,Z8,Z8,Z8,Z8,Z8,Z8,Z8,Z8,Z8,Z8,Z8,Z8,Z8,Z8,Z8,Z8,Z8,Z8,Z8,Z8,Z8,.slice none 0 0,Value.float FloatKind.f64 0,.string ⟨#[]⟩])
 clear HE0 HE1 HE2 HTX0 HW2 HB0
 go_enter Tryz.func179,Tryz.ntmps179
 have hbl:=build_O0 kx
 have HSZ:Hid ((Tryz.prog.info? 49).map (·.size) = some (Value.int .i64 kx :: Value.string ⟨#[]⟩ :: Value.slice none 0 0 :: encC none 0 noC).toArray.size):=by show _ = _; rw [List.size_toArray,List.length_cons,List.length_cons,List.length_cons,HNL.out]; exact infoO
 have HS2:Hid (#[Value.int .i64 0,.string ⟨#[]⟩,.slice none 0 0,Z8,Z8,Z8,Z8,Z8,Z8,Z8,Z8,Z8,Z8,Z8,Z8,Z8,Z8,Z8,Z8,Z8,Z8,Z8,Z8,Z8,Z8,Z8,Z8,Z8,Z8,Z8,Z8,Z8,Z8,Z8,Z8,.slice none 0 0,Value.float FloatKind.f64 0,.string ⟨#[]⟩].size = (Value.int .i64 kx :: Value.string ⟨#[]⟩ :: Value.slice none 0 0 :: encC none 0 noC).toArray.size):=(show _ = 38 from rfl).trans (by rw [List.size_toArray,List.length_cons,List.length_cons,List.length_cons,HNL.out])
 have HAL:Hid (((Value.int .i64 kx :: Value.string ⟨#[]⟩ :: Value.slice none 0 0 :: encC none 0 noC).toArray).all (·.oneCell') = true):=by
  refine all_oneCell_toArray (fun v hv=>?_)
  simp only [List.mem_cons] at hv
  rcases hv with rfl | rfl | rfl | hv
  ·rfl
  ·rfl
  ·rfl
  ·exact HN1.out v hv
 go_wp2_with (first
  | (refine wpList_store_whole rfl 49 _ _ rfl (w.heap.size + 1) (Value.int .i64 kx :: Value.string ⟨#[]⟩ :: Value.slice none 0 0 :: encC none 0 noC).toArray rfl rfl 49 _ HW.out HSZ.out HS2.out HAL.out ?_; intro w1 hWn hGn; have HW1:=Hy hWn; have HG1:=Hy hGn; clear hWn hGn))
 have HBF:=Hy (be_grown HB.out HG1.out (by have:=HB.out.size; exact this) (fun j hj=>by injection hj with hj; omega))
 have HBV:Hid (bv = Value.int .i64 kx :: Value.string ⟨#[]⟩ :: Value.slice none 0 0 :: encC none 0 noC):=by show _ = _; rw [HQ.out,if_neg H1.out,if_neg H2.out,if_neg H3.out]
 rw [HBV.out]
 refine bodyPost_ret (v:=.agg (Value.int .i64 kx :: Value.string ⟨#[]⟩ :: Value.slice none 0 0 :: encC none 0 noC).toArray) ?_ rfl ⟨rfl,HBF.out⟩
 exact results_cell_row (p:=2) (ty:=49) rfl _ _ (w.heap.size + 1) 49 (Value.int .i64 kx :: Value.string ⟨#[]⟩ :: Value.slice none 0 0 :: encC none 0 noC).toArray (0,0) _ rfl HW1.out Tryz.underlying49 rfl HSZ.out
theorem below_clsO {w W:World} (h:∃ p:Regrown,W = Sort.grow (redrawn w p.d) p.os):Below w.heap.size w W:=by
 obtain ⟨p,rfl⟩:=h
 exact below_regrown _ _ _
theorem infoO_l (A:Option Addr) (c:Nat) (A2:Option Addr) (c2:Nat) (x:Ob):(Tryz.prog.info? 49).map (·.size) = some (encO A c A2 c2 x).length:=by rw [encO_len]; exact infoO
theorem omay_any (A:Option Addr) (c:Nat) (A2:Option Addr) (c2:Nat) (x:Ob) (w:World) (hA:ArgO w A c A2 c2 x) (ht:x.commit.time < 18446744073709551616) (hl:x.entries.length ≤ 1048576) :
  Calls Tryz.prog 129 #[.agg (encO A c A2 c2 x).toArray] w fun e w'=>e = .returned (.bool (mayO' x)) ∧ Below w.heap.size w w':=by
 obtain ⟨hW,hB,hA0⟩:=obox A c A2 c2 x w hA
 have HB:=Hy hB
 have HXI:=Hy (infoO_l A c A2 c2 x)
 have HQ:Hid (mayO' x = (bodyO x && eqO x (bareO x))):=rfl
 obtain ⟨B,d,B2,d2,hbv,hba⟩:=bareV_arg A c A2 c2 x
 generalize hw0:w.alloc (.cells (encO A c A2 c2 x).toArray 49) = w0 at *
 have HLX:Hid (∀ W,Below w0.heap.size w0 W → W.rangeAt w.heap.size 0 (encO A c A2 c2 x)):=fun W h=>whole_range (hW.below h hW.lt)
 have HMB:Hid (∀ W,Below w0.heap.size w0 W → Calls Tryz.prog 178 #[.agg (encO A c A2 c2 x).toArray] W fun e w'=>e = .returned (.bool (bodyO x)) ∧ Below W.heap.size W w'):=fun W h=>mbody_any A c A2 c2 x W (hA0.later h) ht hl
 have HBR:Hid (∀ W,Calls Tryz.prog 179 #[.agg (encO A c A2 c2 x).toArray] W fun e w'=>e = .returned (.agg (bareV A c A2 c2 x).toArray) ∧ Below W.heap.size W w'):=fun W=>bare_any A c A2 c2 x W
 have HEQ:Hid (∀ W,Below w0.heap.size w0 W → Calls Tryz.prog 156 #[.agg (encO A c A2 c2 x).toArray,.agg (bareV A c A2 c2 x).toArray] W fun e w'=>e = .returned (.bool (eqO x (bareO x))) ∧ Below W.heap.size W w'):=by
  intro W h
  rw [hbv]
  exact oeq_any A c A2 c2 x B d B2 d2 (bareO x) W (hA0.later h) (hba W (hA0.later h))
 clear hW hB hA0 hA ht hl hbv hba
 generalize eqO x (bareO x) = eq at *
 generalize (bareV A c A2 c2 x) = bv at *
 generalize encO A c A2 c2 x = ox at *
 cases hb:bodyO x with
 | false=>
  rw [hb] at HMB HQ
  clear hb
  go_enter Tryz.func129,Tryz.ntmps129
  go_wp2_with fail
  refine wp_region_quiet_below (by kernel_rfl) (by kernel_rfl) ?_
  repeat (first
   | go_big_quiet_step ((go_at_call 178; exact Calls.regrown_of (HMB.out _ (below_regrown _ _ _))))
   | (refine q_loadm _ _ rfl (by rfl) w.heap.size 0 ox rfl _ Tryz.underlying49 rfl HXI.out (fun W hC=>HLX.out W (below_clsO hC)) ?_; simp only [Act.put]; go_simp))
  refine wpQuiet_nil ?_
  intro p
  have HWF:=Hy (HB.out.trans ((below_regrown w0 p.d p.os).mono HB.out.size))
  generalize Sort.grow (redrawn w0 p.d) p.os = wf at *
  go_wp2
  go_ret
  exact ⟨by rw [HQ.out]; rfl,HWF.out⟩
 | true=>
  rw [hb] at HMB HQ
  clear hb
  go_enter Tryz.func129,Tryz.ntmps129
  go_wp2_with fail
  refine wp_region_quiet_below (by kernel_rfl) (by kernel_rfl) ?_
  repeat (first
   | go_big_quiet_step ((first
    | (go_at_call 178; exact Calls.regrown_of (HMB.out _ (below_regrown _ _ _)))
    | (go_at_call 179; exact Calls.regrown_of (HBR.out _))
    | (go_at_call 156; exact Calls.regrown_of (HEQ.out _ (below_regrown _ _ _)))))
   | (refine q_loadm _ _ rfl (by rfl) w.heap.size 0 ox rfl _ Tryz.underlying49 rfl HXI.out (fun W hC=>HLX.out W (below_clsO hC)) ?_; simp only [Act.put]; go_simp))
  refine wpQuiet_nil ?_
  intro p
  have HWF:=Hy (HB.out.trans ((below_regrown w0 p.d p.os).mono HB.out.size))
  generalize Sort.grow (redrawn w0 p.d) p.os = wf at *
  go_wp2
  go_ret
  exact ⟨by rw [HQ.out]; rfl,HWF.out⟩
end Go.Proofs.YtlfmooihcigolaaGreatDoor

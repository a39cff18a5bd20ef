/-
  BegB, Arg, RBytes, DelC, DelD, TreR.
-/
import Derived.Test.YtlfmooihcigolaaGreatDoorMan
import Derived.Lib.SlBytesConst
import Derived.Deep.Cut
import Derived.Laws.Cover1
set_option maxRecDepth 100000
set_option maxHeartbeats 8000000
namespace Go.Proofs.YtlfmooihcigolaaGreatDoor
open Go.RowKit
structure Env (w:World):Prop where
 tabs:Tabs w
 tz:Tz w
 mx:Mx w
theorem Env.below {w0 w w':World} {B:Nat} (h0:Env w0) (h:Env w) (hs:w0.heap.size ≤ B) (hb:Below B w w'):Env w':=
 ⟨h.tabs.below hb (by have:=h0.tabs.lt1; omega) (by have:=h0.tabs.lt2; omega),h.tz.below hb (by have:=h0.tz.lt; omega),h.mx.below hb (by have:=h0.mx.lt; omega)⟩
theorem Env.at_ {w0 w':World} (h0:Env w0) (hb:Below w0.heap.size w0 w'):Env w':=h0.below h0 (Nat.le_refl _) hb
theorem bytes_new (w:World) (t:TypeId) (l:List UInt8) (fr:Nat × Nat) (hm:l.length ≤ maxLen):Bytes (w.alloc (.cells (l.map Y).toArray t fr)) (.slice (some ⟨w.heap.size,0,none⟩) l.length l.length) l:=by
 refine ⟨_,_,rfl,Nat.le_refl _,hm,fun _=>⟨_,_,rfl,fun i hi=>?_⟩⟩
 rw [Nat.zero_add,World.cell?_alloc_mark,List.getElem?_toArray,← some_y _ _ hi]
theorem wpList_load_row_on {P:Program} {ops:Array Oper} {rest:List Oper} {o:Oper} {a:Act} {w:World} {Q:Exit → Act → World → Prop} (ty:TypeId) (x:Operand) (ho:o.op = .load ty x)
  (g:Nat) (hx:a.eval x = .pointer (some ⟨g,0,none⟩)) (hwant:Region.wanted o (yielded ops a.tmps) = true) (t:TypeId) (cs:Array Value) (fr:Nat × Nat) (d:TypeDesc) (hg:w.heap[g]? = some (.cells cs t fr))
  (hu:P.underlying ty = some d) (hd:(match d with | .struct _ | .array _ _=>true | _=>false) = true) (hi:(P.info? ty).map (·.size) = some cs.size)
  (h:wpList P ops Q rest (a.put o.dst (.agg cs)) w):wpList P ops Q (o :: rest) a w:=by
 unfold wpList
 rw [if_pos hwant]
 exact .inl (wp_load_row ty x ho g hx t cs fr d hg hu hd hi h)
def QC (Q:Exit → Act → World → Prop) (R:Act → World → Prop):Exit → Act → World → Prop
 | .normal=>R
 | e=>Q e
theorem qc_normal {Q:Exit → Act → World → Prop} {R:Act → World → Prop} {a:Act} {w:World} (h:R a w):QC Q R .normal a w:=h
theorem upon_qc {P:Program} {o:Oper} {a:Act} {Q:Exit → Act → World → Prop} {R K K':Act → World → Prop} (h:∀ a w,K a w → K' a w) (r:Result Next) (hh:o.upon P a K (QC Q R) r):o.upon P a K' Q r:=by
 cases r with
 | ok n w'=>
  cases n <;> simp only [Oper.upon] at hh ⊢ <;>
   first
    | exact h _ _ hh
    | exact Calls.mono hh (fun e w'' he=>by cases e <;> first | exact h _ _ he | exact he)
    | exact Rows.mono hh (fun _ _ he=>h _ _ he)
 | halt x w'=>cases x <;> simp only [Oper.upon] at hh ⊢ <;> exact hh
theorem wpList_split {P:Program} {ops:Array Oper} {Q:Exit → Act → World → Prop} (l1 l2:List Oper) {a:Act} {w:World} (h:wpList P ops (QC Q (wpList P ops Q l2)) l1 a w):wpList P ops Q (l1 ++ l2) a w:=by
 induction l1 generalizing a w with
 | nil=>exact h
 | cons o l1 ih=>
  rw [List.cons_append]
  unfold wpList at h ⊢
  split
  ·rename_i hw
   rw [if_pos hw] at h
   rcases h with h | ⟨h1,h2⟩
   ·exact .inl (upon_qc (fun a w k=>ih k) _ h)
   ·exact .inr ⟨h1,h2⟩
  ·rename_i hw
   rw [if_neg hw] at h
   exact ih h
theorem wp_region_at (n:Nat) {P:Program} {id:Nat} {l:List Oper} {Q:Exit → Act → World → Prop} {a:Act} {w:World} (h:wpList P l.toArray (QC Q (wpList P l.toArray Q (l.drop n))) (l.take n) a w):(Code.region id l.toArray false).wp P Q a w:=
 wp_region_lit (by have:=wpList_split (l.take n) (l.drop n) h; rwa [List.take_append_drop] at this)
theorem begun_any (w:World) (hE:Env w):Calls Tryz.prog 201 #[] w fun e w'=>e = .returned (.bool true) ∧ Below w.heap.size w w':=by
 have HE:=Hy hE
 clear hE
 go_enter Tryz.func201,Tryz.ntmps201
 have hcv:=Lib.run_convert_bytes_const (P:=Tryz.prog) w 63 5 #[.int .u8 97,.int .u8 98,.int .u8 99] 3 3 Tryz.underlying63 Tryz.underlying5
 go_wp2_with fail
 have hby:Bytes (w.alloc (.cells #[.int .u8 97,.int .u8 98,.int .u8 99] 5 (3,4))) (.slice (some ⟨w.heap.size,0,none⟩) 3 3) [97,98,99]:=bytes_new w 5 [97,98,99] (3,4) (by unfold maxLen; decide)
 have hB0:=(Below.refl w.heap.size w).alloc (Nat.le_refl _) (.cells #[.int .u8 97,.int .u8 98,.int .u8 99] 5 (3,4))
 refine (sum_any _ [97,98,99] _ (HE.out.at_ hB0).tabs hby (by decide)).mono ?_
 rintro e w1 ⟨rfl,hB1⟩
 have HB1:=Hy (hB0.trans (hB1.mono (by simp)))
 have hs1:w.heap.size + 1 ≤ w1.heap.size:=by have:=hB1.size; simpa using this
 rw [ShaM.sha_abc]
 obtain ⟨oc,hoc⟩:∃ oc:Array Value,oc = ((([0xba,0x78,0x16,0xbf,0x8f,0x01,0xcf,0xea,0x41,0x41,0x40,0xde,0x5d,0xae,0x22,0x23,0xb0,0x03,0x61,0xa3,0x96,0x17,0x7a,0x9c,0xb4,0x10,0xff,0x61,0xf2,0x00,0x15,0xad]:List UInt8).map Y).toArray):=⟨_,rfl⟩
 rw [← hoc]
 have HOI:Hid ((Tryz.prog.info? 29).map (·.size) = some oc.size):=by show _ = _; rw [hoc]; kernel_rfl
 have HO1:Hid (oc.all (·.oneCell') = true):=by show _ = _; rw [hoc]; exact ys_all _
 have HOS:Hid (32 = oc.size):=by show _ = _; rw [hoc]; rfl
 have HC0:Hid (oc[0]? = some (.int .u8 186)):=by show _ = _; rw [hoc]; rfl
 have HC1:Hid (oc[1]? = some (.int .u8 120)):=by show _ = _; rw [hoc]; rfl
 have HC2:Hid (oc[31]? = some (.int .u8 173)):=by show _ = _; rw [hoc]; rfl
 clear hby hB0 hB1 hoc hcv
 go_wp2_with (refine wpList_store_whole rfl 29 _ _ rfl w1.heap.size oc rfl rfl 29 _ (Whole.made w1 _ _) HOI.out HOS.out HO1.out ?_; intro w2 hW2 hG2; have HW2:=Hy hW2; have HB2:=Hy (be_grown (HB1.out.alloc (by omega) _) hG2 (by simp; omega) (fun j hj=>by injection hj with hj; omega)); have hs2:=hG2.size; clear hW2 hG2)
 refine (do3_any w2).mono ?_
 rintro e w3 ⟨rfl,hB⟩
 have HW3:=Hy (HW2.out.below hB HW2.out.lt)
 have HB3:=Hy (hTr HB2 hB)
 clear hB
 go_wp2_with (first
  | (go_at_call 241; refine (copysign_any _).mono ?_; rintro e w' ⟨rfl,rfl⟩)
  | (go_at_call 240; refine (norm_nought _).mono ?_; rintro e w' ⟨rfl,rfl⟩))
 refine (size_15 w3 (HE.out.at_ HB3.out).mx).mono ?_
 rintro e w4 ⟨rfl,hB⟩
 have HW4:=Hy (HW3.out.below hB HW3.out.lt)
 have HB4:=Hy (hTr HB3 hB)
 clear hB
 go_wp2_with fail
 refine (of_x w4 (HE.out.at_ HB4.out).tabs).mono ?_
 rintro e w5 ⟨rfl,hB⟩
 have HW5:=Hy (HW4.out.below hB HW4.out.lt)
 have HB5:=Hy (hTr HB4 hB)
 have hs5:=HB5.out.size
 clear hB
 obtain ⟨id,hid⟩:∃ id:List UInt8,id = ShaM.sha [98,108,111,98,32,49,0,120]:=⟨_,rfl⟩
 rw [← hid]
 have HIL:Hid (id.length = 32):=by show _ = _; rw [hid]; decide +kernel
 have HII:Hid ((Tryz.prog.info? 30).map (·.size) = some ((id.map Y).toArray).size):=by
  show _ = _
  rw [List.size_toArray,List.length_map,HIL.out]
  kernel_rfl
 have HIS:Hid (32 = ((id.map Y).toArray).size):=by show _ = _; rw [List.size_toArray,List.length_map,HIL.out]
 have HIO:Hid (((id.map Y).toArray).all (·.oneCell') = true):=ys_all _
 clear hid
 obtain ⟨ic,hic⟩:∃ ic,ic = (id.map Y).toArray:=⟨_,rfl⟩
 rw [← hic] at HII HIS HIO ⊢
 have HIC:=Hy hic
 clear hic
 go_wp2_with (refine wpList_store_whole rfl 30 _ _ rfl w5.heap.size ic rfl rfl 30 _ (Whole.made w5 _ _) HII.out HIS.out HIO.out ?_; intro w6 hW6 hG6; have HI6:=Hy hW6; have HB6:=Hy (be_grown (HB5.out.alloc (by omega) _) hG6 (by simp; omega) (fun j hj=>by injection hj with hj; omega)); have HW6:=Hy ((HW5.out.past _).grown hG6 (fun e=>by have h:=HW5.out.lt; injection e with e; omega)); clear hW6 hG6)
 refine (put_ab w6 (HE.out.at_ HB6.out).tz).mono ?_
 rintro e w7 ⟨rfl,hB⟩
 have HW7:=Hy (HW6.out.below hB HW6.out.lt)
 have HI7:=Hy (HI6.out.below hB HI6.out.lt)
 have HB7:=Hy (hTr HB6 hB)
 clear hB
 go_wp2_with fail
 refine (get_ab w7).mono ?_
 rintro e w8 ⟨rfl,hB⟩
 have HW8:=Hy (HW7.out.below hB HW7.out.lt)
 have HI8:=Hy (HI7.out.below hB HI7.out.lt)
 have HB8:=Hy (hTr HB7 hB)
 clear hB
 go_wp2_with (first
  | (go_at_call 246; refine (delim_any _).mono ?_; rintro e w' ⟨rfl,rfl⟩)
  | (go_at_call 247; refine (flush_any _).mono ?_; rintro e w' ⟨rfl,rfl⟩))
 refine (all_ab w8).mono ?_
 rintro e w9 ⟨g9,c9,rfl,hB⟩
 have HW9:=Hy (HW8.out.below hB HW8.out.lt)
 have HI9:=Hy (HI8.out.below hB HI8.out.lt)
 have HB9:=Hy (hTr HB8 hB)
 have hs9:=HB9.out.size
 clear hB
 go_wp2_with fail
 have hby:Bytes (w9.alloc (.cells #[.int .u8 7,.int .u8 8] 5)) (.slice (some ⟨w9.heap.size,0,none⟩) 2 2) [7,8]:=bytes_new w9 5 [7,8] (0,0) (by unfold maxLen; decide)
 refine (gnew_any _ [7,8] _ hby).mono ?_
 rintro e w10 ⟨rfl,hB,hR,-⟩
 have hszA:(w9.alloc (.cells #[.int .u8 7,.int .u8 8] 5)).heap.size = w9.heap.size + 1:=by simp
 rw [hszA] at hR hB ⊢
 have HR10:=Hy hR
 have HW10:=Hy ((HW9.out.past _).below hB (by have:=HW9.out.lt; omega))
 have HI10:=Hy ((HI9.out.past _).below hB (by have:=HI9.out.lt; omega))
 have HB10:=Hy ((HB9.out.alloc (by omega) _).trans (hB.mono (by omega)))
 clear hB hR hby hszA
 have c0:w10.cell? ⟨w1.heap.size,0,none⟩ = some (.int .u8 186):=(HW10.out.at_ 0).trans HC0.out
 have c1:w10.cell? ⟨w1.heap.size,1,none⟩ = some (.int .u8 120):=(HW10.out.at_ 1).trans HC1.out
 have c31:w10.cell? ⟨w1.heap.size,31,none⟩ = some (.int .u8 173):=(HW10.out.at_ 31).trans HC2.out
 have hdiv:=fun w=>run_float_arith (P:=Tryz.prog) w .quo 45 .f64 4607182418800017408 0 9218868437227405312 (by kernel_rfl)
 have hhx:=hex_any id w10 HIL.out
 rw [← HIC.out] at hhx
 have HHX:=Hy hhx
 clear hhx
 go_upto_region 12 with fail
 refine wp_region_at 37 ?_
 change wpList _ _ _ [_,_,_,_,_,_,_,_,_,_,_,_,_,_,_,_,_,_,_,_,_,_,_,_,_,_,_,_,_,_,_,_,_,_,_,_,_] _ _
 go_wp2_with (refine qc_normal ?_; change wpList _ _ _ (_ :: _) _ _; refine wpList_load_row_on 30 (.tmp 7) rfl w5.heap.size rfl rfl 30 ic (0,0) _ HI10.out Tryz.underlying30 rfl HII.out ?_)
 refine HHX.out.mono ?_
 rintro e w11 ⟨rfl,hB⟩
 have HR11:Hid (Rd w11 (w9.heap.size + 1) [7,8]):=Whole.below HR10.out hB HR10.out.lt
 have HB11:=Hy (hTr HB10 hB)
 have h64:(hexOf id).length = 64:=by rw [hexOf_len,HIL.out]
 have hsR:=HR10.out.lt
 generalize hexOf id = ht at *
 clear hB
 go_wp2_with (first
  | (go_at_call 37; refine (left_any (w9.heap.size + 1) [7,8] _ HR11.out).mono ?_; rintro e w' ⟨rfl,rfl⟩))
 refine (byte_some (w9.heap.size + 1) 7 [8] w11 HR11.out).mono ?_
 rintro e w12 ⟨rfl,hG,-⟩
 have HB12:=Hy (be_grown HB11.out hG HB11.out.size (fun j hj=>by injection hj with hj; omega))
 clear hG
 go_wp2_with fail
 refine (put_1 w12).mono ?_
 rintro e w13 ⟨rfl,hB⟩
 have HB13:=Hy (hTr HB12 hB)
 clear hB
 go_wp2_with (first
  | (go_at_call 248; refine (nan_any _).mono ?_; rintro e w' ⟨rfl,rfl⟩)
  | (go_at_call 231; refine (may_nan _).mono ?_; rintro e w' ⟨rfl,rfl⟩))
 go_ret
 exact ⟨rfl,HB13.out⟩
section
open Go.RowKit
def Arg (w:World) (A:Option Addr) (c:Nat) (vs:List Value):Prop:=
 vs.length ≤ c ∧ c ≤ maxLen ∧ ((A = none ∧ c = 0) ∨ ∃ ad,A = some ad ∧ ∀ j u,vs[j]? = some u → w.cell? (ad.add j) = some u)
theorem Arg.nil {w:World} {c:Nat} {vs:List Value} (h:Arg w none c vs):c = 0 ∧ vs = []:=by
 obtain ⟨h1,_,h2⟩:=h
 rcases h2 with ⟨-,rfl⟩ | ⟨ad,h,-⟩
 ·exact ⟨rfl,List.length_eq_zero_iff.1 (by omega)⟩
 ·cases h
theorem Arg.below {w w':World} {A:Option Addr} {c:Nat} {vs:List Value} {B:Nat} (h:Arg w A c vs) (hb:Below B w w') (hB:w.heap.size ≤ B):Arg w' A c vs:=by
 obtain ⟨h1,h2,h4⟩:=h
 refine ⟨h1,h2,?_⟩
 rcases h4 with h4 | ⟨ad,e,hc⟩
 ·exact .inl h4
 ·refine .inr ⟨ad,e,fun j u hu=>(hb.cell ?_).trans (hc j u hu)⟩
  have:=World.block_lt_of_cell? w _ (hc j u hu)
  omega
theorem Arg.spot {w:World} {A:Option Addr} {c:Nat} {vs:List Value} (h:Arg w A c vs) (h0:0 < vs.length):∃ g off,A = some ⟨g,off,none⟩ ∧ ∀ j u,vs[j]? = some u → w.cell? ⟨g,off + j,none⟩ = some u:=by
 obtain ⟨h1,h2,h4⟩:=h
 rcases h4 with ⟨-,rfl⟩ | ⟨⟨g,off,sp⟩,rfl,hc⟩
 ·omega
 ·have hz:=hc 0 vs[0] (List.getElem?_eq_getElem h0)
  obtain rfl:sp = none:=by simpa [Addr.add] using World.cell?_spot hz
  refine ⟨g,off,rfl,fun j u hu=>?_⟩
  have:=hc j u hu
  rw [Addr.add_mid] at this
  exact this
def Row (w:World) (A:Option Addr) (c:Nat) (bs:List UInt8):Prop:=
 bs.length ≤ c ∧ c ≤ maxLen ∧ (0 < bs.length → ∃ g,A = some ⟨g,0,none⟩ ∧ g < w.heap.size ∧ ∀ i,i < bs.length → w.cell? ⟨g,i,none⟩ = some (Y (bs.getD i 0)) ∧ w.frozen? ⟨g,i,none⟩ = false)
section
variable {w w' : World} {A : Option Addr} {c : Nat} {bs : List UInt8} {R : Nat → Prop}
theorem Row.bytes (h:Row w A c bs):Bytes w (.slice A bs.length c) bs:=by
 obtain ⟨h1,h2,h3⟩:=h
 refine ⟨A,c,rfl,h1,h2,fun h0=>?_⟩
 obtain ⟨g,rfl,_,hc⟩:=h3 h0
 exact ⟨g,0,rfl,fun i hi=>by rw [Nat.zero_add]; exact (hc i hi).1⟩
end
end
theorem Row.of_bytes {w:World} {g c:Nat} {l:List UInt8} (h:Bytes w (.slice (some ⟨g,0,none⟩) l.length c) l) (hg:g < w.heap.size) (hz:∀ i,i < l.length → w.frozen? ⟨g,i,none⟩ = false):Row w (some ⟨g,0,none⟩) c l:=by
 obtain ⟨A,c',e,h1,h2,h3⟩:=h
 injection e with e1 _ e3
 subst e1 e3
 refine ⟨h1,h2,fun h0=>⟨g,rfl,hg,fun i hi=>?_⟩⟩
 obtain ⟨g',off,e,hc⟩:=h3 h0
 injection e with e
 injection e with e1 e2
 subst e1 e2
 have:=hc i hi
 rw [Nat.zero_add] at this
 exact ⟨this,hz i hi⟩
theorem rbytes_some (b:Nat) (s:List UInt8) (n:Nat) (w:World) (h:Rd w b s) (hl:n ≤ s.length) (hn:n ≤ 1048576):Calls Tryz.prog 106 #[.pointer (some ⟨b,0,none⟩),.int .i64 (n:Int)] w fun e w'=>
  ∃ g c,e = .returned (.slice (some ⟨g,0,none⟩) n c) ∧ Row w' (some ⟨g,0,none⟩) c (s.take n) ∧ Alt (· = b) w w' ∧ Rd w' b (s.drop n) ∧ w.heap.size ≤ g:=by
 have HT:Hid (Calls Tryz.prog 133 #[.pointer (some ⟨b,0,none⟩),.int .i64 (n:Int)] w fun e w'=>e = .returned (.string ⟨(s.take n).toArray⟩) ∧ w.grownBy w' (some b) ∧ Rd w' b (s.drop n)):=by
  by_cases h0:n = 0
  ·subst h0
   refine (take_none b s w h).mono ?_
   rintro e w' ⟨rfl,rfl⟩
   exact ⟨rfl,gr_refl _ _,h⟩
  ·exact take_some b s n w h (by omega) hl
 have hlen:(s.take n).length = n:=by rw [List.length_take]; omega
 have HL:=Hy hlen
 clear h hl hlen
 generalize s.take n = l at *
 go_enter Tryz.func106,Tryz.ntmps106
 go_wp2_with fail
 refine HT.out.mono ?_
 rintro e w1 ⟨rfl,hG,hR⟩
 have HG:=Hy hG
 have HR:=Hy hR
 have hb:b < w1.heap.size:=hR.lt
 clear hG hR
 go_wp2_with (refine wpList_of_string rfl 9 63 5 _ rfl ⟨l.toArray⟩ l rfl rfl Tryz.underlying9 Tryz.underlying63 Tryz.underlying5 (by rw [HL.out]; unfold maxLen; omega) ?_; intro w2 c hby hzz hbe hsz; have HBY:=Hy hby; have HZ:=Hy hzz; have HBE:=Hy hbe; clear hby hzz hbe)
 go_ret
 refine ⟨w1.heap.size,c,by rw [HL.out]; rfl,Row.of_bytes HBY.out (by omega) HZ.out,?_,HR.out.below HBE.out hb,HG.out.size⟩
 exact (Alt.of_grown HG.out (fun j hj=>by injection hj with hj; exact hj.symm)).below HBE.out
theorem zK_lit:(#[Value.string ⟨#[]⟩,.int .i64 0,.int .i64 0]:Array Value) = (encK default).toArray:=rfl
theorem rcopy_any (b base left frm len:Nat) (u:List UInt8) (w:World) (h1:frm ≤ 100000) (h2:1 ≤ len) (h3:len ≤ 100000) (h4:frm + len ≤ base) (h5:len ≤ left) (hb6:base ≤ 1000000) (h:Rd w b (numV frm ++ (numV len ++ u))) :
  Calls Tryz.prog 205 #[.pointer (some ⟨b,0,none⟩),.int .i64 (base:Int),.int .i64 (left:Int)] w fun e w'=>e = .returned (.agg (encK ⟨[],frm,len⟩).toArray) ∧ Alt (· = b) w w' ∧ Rd w' b u:=by
 have hbl:=h.lt
 have HR0:=Hy (Whole.past h (.cells (encK default).toArray 72))
 have HZ0:=Hy (Whole.made w 72 (encK default).toArray)
 have HA0:=Hy ((Alt.refl (· = b) w).alloc (.cells (encK default).toArray 72))
 have hgb:w.heap.size ≠ b:=by omega
 have k0:decide ((0:Int) < (base:Int)) = true:=decide_eq_true (by omega)
 have k0':decide (0 < base) = true:=decide_eq_true (by omega)
 have k2':decide (frm < base) = true:=decide_eq_true (by omega)
 have k1:decide ((frm:Int) ≤ 100000) = true:=decide_eq_true (by omega)
 have k2:decide ((frm:Int) < (base:Int)) = true:=decide_eq_true (by omega)
 have k3:decide ((1:Int) ≤ (len:Int)) = true:=decide_eq_true (by omega)
 obtain ⟨mn,hmn,hle⟩:∃ mn:Int,(if (left:Int) < (if (base:Int) - (frm:Int) < 100000 then (base:Int) - (frm:Int) else 100000) then (left:Int) else (if (base:Int) - (frm:Int) < 100000 then (base:Int) - (frm:Int) else 100000)) = mn ∧ (len:Int) ≤ mn:=by
  refine ⟨_,rfl,?_⟩
  split
  ·omega
  ·split <;> omega
 have hmin:∀ W,(Builtin.min_ #[3,3,3] 3 #[.int .i64 100000,.int .i64 ((base:Int) - (frm:Int)),.int .i64 (left:Int)]).run Tryz.prog W = .ok (.int .i64 mn) W:=fun W=>by rw [run_min_int3,hmn]
 have k4:decide ((len:Int) ≤ mn) = true:=decide_eq_true hle
 have HG1:=Hy fun W (h:Rd W b (numV frm ++ (numV len ++ u)))=>vget_any b frm (by omega) (numV len ++ u) W h
 have HG2:=Hy fun W (h:Rd W b (numV len ++ u))=>vget_any b len (by omega) u W h
 clear h hmn hle
 go_enter Tryz.func205,Tryz.ntmps205
 go_upto_region 1 with fail
 try rw [zK_lit]
 generalize w.alloc (.cells (encK default).toArray 72) = w0 at *
 go_wp2_with (go_at_call 78; refine (must_yes _ _).mono ?_; rintro e w' ⟨rfl,rfl⟩)
 refine (HG1.out w0 HR0.out).mono ?_
 rintro e w1 ⟨rfl,ha1,hr1⟩
 have HA1:=Hy (HA0.out.trans ha1)
 have HZ1:=Hy (HZ0.out.alt ha1 hgb)
 have HR1:=Hy hr1
 clear ha1 hr1 HA0 HZ0 HR0 HG1
 go_wp2_with (go_at_call 78; refine (must_yes _ _).mono ?_; rintro e w' ⟨rfl,rfl⟩)
 refine (HG2.out w1 HR1.out).mono ?_
 rintro e w2 ⟨rfl,ha2,hr2⟩
 have HA2:=Hy (HA1.out.trans ha2)
 have HZ2:=Hy (HZ1.out.alt ha2 hgb)
 have HR2:=Hy hr2
 clear ha2 hr2 HA1 HZ1 HR1 HG2
 go_wp2_with (first
  | (go_at_call 78; refine (must_yes _ _).mono ?_; rintro e w' ⟨rfl,rfl⟩)
  | (refine wpList_store_whole rfl 72 _ _ rfl w.heap.size (encK ⟨[],frm,len⟩).toArray rfl rfl 72 _ HZ2.out (infoK_s _) rfl (encK_all _) ?_; intro w3 hWn hGn; have HW3:=Hy hWn; have HG3:=Hy hGn; clear hWn hGn))
 refine bodyPost_ret (v:=.agg (encK ⟨[],frm,len⟩).toArray) ?_ rfl ⟨rfl,HA2.out.grown HG3.out (fun j hj=>by injection hj with hj; exact .inl (by omega)),HR2.out.grown HG3.out (fun e=>by injection e with e; omega)⟩
 exact results_cell_row (p:=6) (ty:=72) rfl _ _ w.heap.size 72 (encK ⟨[],frm,len⟩).toArray (0,0) _ rfl HW3.out Tryz.underlying72 rfl (infoK_s _)
theorem rcut_any (b base left:Nat) (c:Ct) (u:List UInt8) (w:World) (hok:okC base c) (hle:mkC c ≤ left) (hb6:base ≤ 1000000) (h:Rd w b (bytesK c ++ u)) :
  Calls Tryz.prog 157 #[.pointer (some ⟨b,0,none⟩),.int .i64 (base:Int),.int .i64 (left:Int)] w fun e w'=>e = .returned (.agg (encK c).toArray) ∧ Alt (· = b) w w' ∧ Rd w' b u:=by
 have hbl:=h.lt
 have hgb:w.heap.size ≠ b:=by omega
 have HR0:=Hy (Whole.past h (.cells (encK default).toArray 72))
 have HZ0:=Hy (Whole.made w 72 (encK default).toArray)
 have HA0:=Hy ((Alt.refl (· = b) w).alloc (.cells (encK default).toArray 72))
 clear h
 obtain ⟨ins,frm,len⟩:=c
 rcases hok with ⟨h1,h2,h3,h4⟩ | ⟨h1,h2,h3,h4,h5⟩
 ·obtain rfl:len = 0:=h1
  obtain rfl:frm = 0:=h2
  replace h3:1 ≤ ins.length:=h3
  replace h4:ins.length ≤ 100:=h4
  replace hle:ins.length ≤ left:=by simpa [mkC] using hle
  have hbk:bytesK ⟨ins,0,0⟩ = UInt8.ofNat ins.length :: ins:=bytesK_ins rfl
  rw [hbk] at HR0
  have hn8:(UInt8.ofNat ins.length).toNat = ins.length:=by rw [UInt8.toNat_ofNat',Nat.mod_eq_of_lt (by omega)]
  have HBY:=Hy fun W (h:Rd W b (UInt8.ofNat ins.length :: (ins ++ u)))=>byte_some b (UInt8.ofNat ins.length) (ins ++ u) W h
  rw [hn8] at HBY
  have HBS:=Hy fun W (h:Rd W b (ins ++ u))=>rbytes_some b (ins ++ u) ins.length W h (by simp) (by omega)
  rw [List.take_left,List.drop_left] at HBS
  have k128:((ins.length:Int) == 128) = false:=by simp; omega
  have k1:decide ((1:Int) ≤ (ins.length:Int)) = true:=decide_eq_true (by omega)
  have k1':decide (1 ≤ ins.length) = true:=decide_eq_true (by omega)
  have k1'':decide (0 < ins.length) = true:=decide_eq_true (by omega)
  obtain ⟨mn,hmn,hmle⟩:∃ mn:Int,(if (left:Int) < 100 then (left:Int) else 100) = mn ∧ (ins.length:Int) ≤ mn:=by
   refine ⟨_,rfl,?_⟩
   split <;> omega
  have hmin:∀ W,(Builtin.min_ #[3,3] 3 #[.int .i64 100,.int .i64 (left:Int)]).run Tryz.prog W = .ok (.int .i64 mn) W:=fun W=>by rw [run_min_int2,hmn]
  have k2:decide ((ins.length:Int) ≤ mn) = true:=decide_eq_true hmle
  clear hmn hmle hbk
  go_enter Tryz.func157,Tryz.ntmps157
  go_upto_region 1 with fail
  try rw [zK_lit]
  generalize w.alloc (.cells (encK default).toArray 72) = w0 at *
  go_wp2_with fail
  refine (HBY.out w0 HR0.out).mono ?_
  rintro e w1 ⟨rfl,hG,hr1⟩
  have ha1:=Alt.of_grown (R:=(· = b)) hG (fun j hj=>by injection hj with hj; exact hj.symm)
  have HA1:=Hy (HA0.out.trans ha1)
  have HZ1:=Hy (HZ0.out.alt ha1 hgb)
  have HR1:=Hy hr1
  clear ha1 hr1 hG HA0 HZ0 HR0 HBY
  go_wp2_with (go_at_call 78; refine (must_yes _ _).mono ?_; rintro e w' ⟨rfl,rfl⟩)
  refine (HBS.out w1 HR1.out).mono ?_
  rintro e w2 ⟨g,c,rfl,hrow,ha2,hr2,hgl⟩
  have hcv:=bytes_str (P:=Tryz.prog) 63 9 5 Tryz.underlying63 Tryz.underlying5 Tryz.underlying9 hrow.bytes
  have HA2:=Hy (HA1.out.trans ha2)
  have HZ2:=Hy (HZ1.out.alt ha2 hgb)
  have HR2:=Hy hr2
  clear ha2 hr2 hrow HA1 HZ1 HR1 HBS
  go_wp2_with (refine wpList_store_whole rfl 72 _ _ rfl w.heap.size (encK ⟨ins,0,0⟩).toArray rfl rfl 72 _ HZ2.out (infoK_s _) rfl (encK_all _) ?_; intro w3 hWn hGn; have HW3:=Hy hWn; have HG3:=Hy hGn; clear hWn hGn)
  refine bodyPost_ret (v:=.agg (encK ⟨ins,0,0⟩).toArray) ?_ rfl ⟨rfl,HA2.out.grown HG3.out (fun j hj=>by injection hj with hj; exact .inl (by omega)),HR2.out.grown HG3.out (fun e=>by injection e with e; omega)⟩
  exact results_cell_row (p:=6) (ty:=72) rfl _ _ w.heap.size 72 (encK ⟨ins,0,0⟩).toArray (0,0) _ rfl HW3.out Tryz.underlying72 rfl (infoK_s _)
 ·obtain rfl:ins = []:=h1
  replace h2:frm ≤ 100000:=h2
  replace h3:1 ≤ len:=h3
  replace h4:len ≤ 100000:=h4
  replace h5:frm + len ≤ base:=h5
  replace hle:len ≤ left:=by simpa [mkC] using hle
  have hbk:bytesK ⟨[],frm,len⟩ = 128 :: (numV frm ++ numV len):=bytesK_copy (by show len ≠ 0; omega)
  rw [hbk,List.cons_append,List.append_assoc] at HR0
  have HBY:=Hy fun W (h:Rd W b (128 :: (numV frm ++ (numV len ++ u))))=>byte_some b 128 (numV frm ++ (numV len ++ u)) W h
  have HCP:=Hy fun W (h:Rd W b (numV frm ++ (numV len ++ u)))=>rcopy_any b base left frm len u W h2 h3 h4 h5 hle hb6 h
  clear hbk
  go_enter Tryz.func157,Tryz.ntmps157
  go_upto_region 1 with fail
  try rw [zK_lit]
  generalize w.alloc (.cells (encK default).toArray 72) = w0 at *
  go_wp2_with fail
  refine (HBY.out w0 HR0.out).mono ?_
  rintro e w1 ⟨rfl,hG,hr1⟩
  have ha1:=Alt.of_grown (R:=(· = b)) hG (fun j hj=>by injection hj with hj; exact hj.symm)
  have HA1:=Hy (HA0.out.trans ha1)
  have HZ1:=Hy (HZ0.out.alt ha1 hgb)
  have HR1:=Hy hr1
  clear ha1 hr1 hG HA0 HZ0 HR0 HBY
  go_wp2_with fail
  refine (HCP.out w1 HR1.out).mono ?_
  rintro e w2 ⟨rfl,ha2,hr2⟩
  have HA2:=Hy (HA1.out.trans ha2)
  have HZ2:=Hy (HZ1.out.alt ha2 hgb)
  have HR2:=Hy hr2
  clear ha2 hr2 HA1 HZ1 HR1 HCP
  go_wp2_with (refine wpList_store_whole rfl 72 _ _ rfl w.heap.size (encK ⟨[],frm,len⟩).toArray rfl rfl 72 _ HZ2.out (infoK_s _) rfl (encK_all _) ?_; intro w3 hWn hGn; have HW3:=Hy hWn; have HG3:=Hy hGn; clear hWn hGn)
  refine bodyPost_ret (v:=.agg (encK ⟨[],frm,len⟩).toArray) ?_ rfl ⟨rfl,HA2.out.grown HG3.out (fun j hj=>by injection hj with hj; exact .inl (by omega)),HR2.out.grown HG3.out (fun e=>by injection e with e; omega)⟩
  exact results_cell_row (p:=6) (ty:=72) rfl _ _ w.heap.size 72 (encK ⟨[],frm,len⟩).toArray (0,0) _ rfl HW3.out Tryz.underlying72 rfl (infoK_s _)
theorem own_alt {w w':World} {B b:Nat} {T:TypeId} {m n:Nat} {v:Value} {xs:List Value} (h:w.ownsRow B T m v n xs) (ha:Alt (· = b) w w') (hb:b < B):w'.ownsRow B T m v n xs:=
 h.kept (row:=some b) ⟨ha.os,ha.tape,ha.output,ha.size,fun k hk hn=>ha.block k hk (fun e=>hn (by rw [e]))⟩ (by
  cases hq:v.ownBlock with
  | none=>exact .inl rfl
  | some r=>exact .inr (fun e=>by injection e with e; have:=(h.lt r hq).1; omega))
theorem alt_belowB {R:Nat → Prop} {w w' w'':World} {B:Nat} (h:Alt R w w') (k:Below B w' w'') (hB:w.heap.size ≤ B):Alt R w w'':=
 ⟨k.os.trans h.os,k.tape.trans h.tape,k.output.trans h.output,Nat.le_trans h.size k.size,fun i hi hn=>(k.block i (by omega)).trans (h.block i hi hn)⟩
theorem flatE_snoc (cs:List Ct) (k:Nat) (h:k < cs.length):(cs.take (k + 1)).flatMap encK = (cs.take k ++ [cs.getD k default]).flatMap encK:=by
 rw [List.take_succ_eq_append_getElem h]
 simp [List.getD,List.getElem?_eq_getElem h]
theorem dread_any (b base:Nat) (cs:List Ct) (w:World) (hok:∀ c ∈ cs,okC base c) (hb6:base ≤ 1000000) (hs6:sumC cs ≤ 1000000) (h:Rd w b (encD base cs)) :
  Calls Tryz.prog 95 #[.pointer (some ⟨b,0,none⟩)] w fun e w'=>(∃ v,e = .returned (.tuple #[.int .i64 (base:Int),.int .i64 (sumC cs:Int),v]) ∧ w'.ownsRow w.heap.size 72 3 v cs.length (cs.flatMap encK)) ∧ Alt (· = b) w w':=by
 have hbl:=h.lt
 have hlen:cs.length ≤ 1000000:=Nat.le_trans (sumC_le cs hok) hs6
 have HOK:=Hy (fun k hk=>okC_at hok k hk)
 have HST:=Hy (fun k=>sumC_take cs k)
 have HSD:=Hy (fun k hk=>sumC_drop cs k hk)
 have HED:=Hy (fun k hk=>encD_drop cs k hk)
 unfold encD at h
 rw [List.append_assoc] at h
 have HR:=Hy h
 have HG1:=Hy fun W (h:Rd W b (numV base ++ (numV (sumC cs) ++ cs.flatMap bytesK)))=>vget_any b base hb6 (numV (sumC cs) ++ cs.flatMap bytesK) W h
 have HG2:=Hy fun W (h:Rd W b (numV (sumC cs) ++ cs.flatMap bytesK))=>vget_any b (sumC cs) hs6 (cs.flatMap bytesK) W h
 clear h hok
 go_enter Tryz.func95,Tryz.ntmps95
 go_wp2_with fail
 refine (HG1.out w HR.out).mono ?_
 rintro e w1 ⟨rfl,ha1,hr1⟩
 have HA1:=Hy ha1
 have HR1:=Hy hr1
 clear ha1 hr1 HG1 HR
 go_wp2_with fail
 refine (HG2.out w1 HR1.out).mono ?_
 rintro e w2 ⟨rfl,ha2,hr2⟩
 have HA2:=Hy (HA1.out.trans ha2)
 have HR2:Hid (Rd w2 b ((cs.drop 0).flatMap bytesK)):=hr2
 clear ha2 hr2 HG2 HR1 HA1
 go_wp2
 go_loopg [4,5,6] cs.length (fun g s4 s5 _ wr=>∃ (k:Nat) (A9:Option Addr) (c9:Nat),s4 = .slice A9 k c9 ∧ k ≤ cs.length ∧ cs.length - k ≤ g ∧ s5 = .int .i64 (sumC (cs.drop k):Int) ∧ wr.ownsRow w.heap.size 72 3 (.slice A9 k c9) k ((cs.take k).flatMap encK) ∧ Hid (Alt (· = b) w wr) ∧ Hid (Rd wr b ((cs.drop k).flatMap bytesK)))
 case atStart=>exact ⟨0,none,0,rfl,Nat.zero_le _,by omega,by rw [List.drop_zero],by simpa using World.ownsRow_nil _ _ _ _,HA2,HR2⟩
 case round=>
  obtain ⟨k,A9,c9,rfl,hk,hg,rfl,hown,hal,hrd⟩:=hrel
  by_cases hlt:k < cs.length
  ·have hoy:=HOK.out k hlt
   have hst:=HST.out k
   have hsd:=HSD.out k hlt
   have hed:=HED.out k hlt
   have hfs:=flatE_snoc cs k hlt
   obtain ⟨y,hy⟩:∃ y,y = cs.getD k default:=⟨_,rfl⟩
   rw [← hy] at hoy hsd hed hfs
   have hmp:=mkC_pos hoy
   have hos:=okC_small hoy
   have hrd':=hrd.out
   rw [hed] at hrd'
   have HCUT:=Hy (rcut_any b base (sumC (cs.drop k)) y ((cs.drop (k + 1)).flatMap bytesK) wr hoy (by omega) hb6 hrd')
   have HMK:=Hy fun W=>dmakes_any y W hos.1 hos.2.1
   have hpos:decide (0 < sumC (cs.drop k)) = true:=decide_eq_true (by omega)
   have hsub:(sumC (cs.drop k):Int) - (mkC y:Int) = (sumC (cs.drop (k + 1)):Int):=by omega
   have hsl:sumC (cs.drop k) ≤ 1000000:=by omega
   have hml:mkC y ≤ sumC (cs.drop k):=by omega
   have hktl:(cs.take k).length = k:=by rw [List.length_take]; omega
   have hown0:wr.ownsRow w.heap.size 72 3 (.slice A9 k c9) (cs.take k).length ((cs.take k).flatMap encK):=by rw [hktl]; exact hown
   have HFS:=Hy hfs
   have HKT:=Hy hktl
   have HOW0:=Hy hown0
   clear hst hsd hed hfs hoy hos hmp hrd' hrd hown hown0 hy hktl
   generalize hs1e:sumC (cs.drop (k + 1)) = s1 at *
   have HS1:=Hy hs1e
   clear hs1e
   generalize sumC (cs.drop k) = s0 at *
   go_wp2_with fail
   refine HCUT.out.mono ?_
   rintro e w3 ⟨rfl,ha3,hr3⟩
   have HA3:=Hy (hal.out.trans ha3)
   have HOW3:=Hy (own_alt HOW0.out ha3 (by omega))
   have HR3:=Hy hr3
   clear ha3 hr3 HCUT hal HOW0
   go_upto_region 6 with (refine wpList_store_whole rfl 72 _ _ rfl w3.heap.size (encK y).toArray rfl rfl 72 _ (Whole.made w3 _ _) (infoK_s y) (by rfl) (encK_all y) ?_; intro w4 hWn hGn; have HW4:=Hy hWn; have D4:=Hy (made_below' hGn); clear hWn hGn)
   have HA4:=Hy (HA3.out.below D4.out)
   have HOW4:=Hy (own_later HOW3.out D4.out)
   have HR4:Hid (Rd w4 b ((cs.drop (k + 1)).flatMap bytesK)):=Whole.below HR3.out D4.out HR3.out.lt
   have HONE:Hid (ArgG encK default 3 (w4.alloc (.cells (encK y).toArray 72)) (some ⟨w4.heap.size,0,none⟩) 1 [y]):=argG_one (Whole.made w4 72 (encK y).toArray)
   have hz4:w.heap.size ≤ w4.heap.size:=HA4.out.size
   have HZ5:Hid (w.heap.size ≤ (w4.alloc (.cells (encK y).toArray 72)).heap.size):=by show _ ≤ _; simp; omega
   have HLL:Hid ((cs.take k).length + [y].length ≤ 10000000):=by show _ ≤ _; rw [HKT.out]; simp; omega
   have HW5:=Hy (HW4.out.past (.cells (encK y).toArray 72))
   have HR5:Hid (Rd (w4.alloc (.cells (encK y).toArray 72)) b ((cs.drop (k + 1)).flatMap bytesK)):=Whole.past HR4.out _
   have HA5:=Hy (HA4.out.alloc (.cells (encK y).toArray 72))
   have hs34:w3.heap.size < w4.heap.size:=HW4.out.lt
   have hb3:w.heap.size ≤ w3.heap.size:=HA3.out.size
   have HOW3L:Hid (∀ j,(Value.slice A9 k c9).ownBlock = some j → j < w3.heap.size):=fun j hj=>(HOW3.out.lt j hj).2
   clear D4 HA4 HR4 HA3 HR3 HOW3
   go_upto_region 7 with (first
    | (refine wpList_load_row rfl 72 _ rfl w3.heap.size rfl 72 (encK y).toArray (0,0) _ HW4.out Tryz.underlying72 rfl (infoK_s y) ?_)
    | (refine wpList_buildG eltK rfl _ rfl y rfl ?_)
    | (at_builtin; go_loud (refine wpList_appendG eltK rfl _ _ rfl w.heap.size (.slice A9 k c9) (cs.take k) rfl (own_later HOW4.out ((Below.refl _ _).alloc (Nat.le_refl _) _)) (some ⟨w4.heap.size,0,none⟩) 1 1 [y] rfl rfl HONE.out HZ5.out HLL.out ?_; intro v' w6 hown' hb6' hgr6; have HOW6:=Hy hown'; have HB6:=Hy hb6'; have HG6:=Hy hgr6; clear hown' hb6' hgr6)))
   have how6:=HOW6.out
   have hkk:(cs.take k ++ [y]).length = k + 1:=by rw [List.length_append,HKT.out,List.length_singleton]
   rw [← HFS.out,hkk] at how6
   obtain ⟨g6,c6,rfl⟩:=Go.Joins.ownsRow_form how6 (by omega)
   have HW6:=Hy (HW5.out.grown HG6.out (fun e=>by have:=(HOW3L.out _ e.symm); omega))
   have HR6:Hid (Rd w6 b ((cs.drop (k + 1)).flatMap bytesK)):=Whole.below HR5.out HB6.out hbl
   have HA6:=Hy (alt_belowB HA5.out HB6.out (Nat.le_refl _))
   have HOW7:=Hy how6
   clear how6 HOW6 HR5 HA5 HW5 HB6 HG6
   go_wp2_with (refine wpList_load_row rfl 72 _ rfl w3.heap.size rfl 72 (encK y).toArray (0,0) _ HW6.out Tryz.underlying72 rfl (infoK_s y) ?_)
   refine (HMK.out _).mono ?_
   rintro e w7 ⟨rfl,hb7⟩
   have HA7:=Hy (HA6.out.below hb7)
   have HR7:Hid (Rd w7 b ((cs.drop (k + 1)).flatMap bytesK)):=Whole.below HR6.out hb7 HR6.out.lt
   have HOW8:=Hy (own_later HOW7.out hb7)
   clear hb7 HMK HA6 HR6 HW6 HOW7
   go_wp2
   go_roundg (cs.length - (k + 1))
   case measure=>omega
   case rel=>exact ⟨k + 1,_,_,rfl,by omega,Nat.le_refl _,by rw [HS1.out],HOW8.out,HA7,HR7⟩
  ·obtain rfl:k = cs.length:=by omega
   have h0:sumC (cs.drop cs.length) = 0:=by rw [List.drop_length]; rfl
   rw [h0]
   rw [List.drop_length] at hrd
   rw [List.take_length] at hown
   have hrd0:Rd wr b []:=hrd.out
   have HOW:=Hy hown
   clear hown h0 hrd
   go_wp2_with (first
    | (go_at_call 37; refine (left_any b [] _ hrd0).mono ?_; rintro e w' ⟨rfl,rfl⟩)
    | (go_at_call 78; refine (must_yes _ _).mono ?_; rintro e w' ⟨rfl,rfl⟩))
   go_ret3
   exact ⟨⟨_,rfl,HOW.out⟩,hal.out⟩
theorem take_snoc' (l:List UInt8) (k:Nat) (h:k < l.length):l.take (k + 1) = l.take k ++ [l.getD k 0]:=by
 rw [List.take_succ_eq_append_getElem h]
 simp [List.getD,List.getElem?_eq_getElem h]
end Go.Proofs.YtlfmooihcigolaaGreatDoor

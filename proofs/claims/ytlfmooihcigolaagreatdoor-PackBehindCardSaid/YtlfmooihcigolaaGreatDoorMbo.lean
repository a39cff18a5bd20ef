/-
  BodK, BodO, BodQ, BodP, BodS.
-/
import Derived.Test.YtlfmooihcigolaaGreatDoorMbn
import Derived.Laws.MakeOwn
set_option maxRecDepth 100000
set_option maxHeartbeats 8000000
namespace Go.Proofs.YtlfmooihcigolaaGreatDoor
open Go.RowKit
theorem prounds_any (F:Nat → Prop) (its:List It) (ds:Nat → Dlt) (p:Mng) (mk0:Mk) (fv:Value) (hV:Option (Nm → Int × List UInt8 × Bool)) (fuel:Nat) (q:Int × Nat × Mk) (w:World) (hM:MkM F w its p mk0) (hF:∀ k,F k → k < w.heap.size) (hn:its.length ≤ 200) (hmade:mk0.made = 0) (hfu:fuel ≤ 500)
  (hd:∀ i,i < its.length → ¬ wholeK (its.getD i default).kind → okD (its.getD i default) (ds i)) (hwb:∀ i,i < its.length → (its.getD i default).body.length ≤ 100000) (hTT:∀ W,Alt (fun k=>p.R k ∨ F k) w W → Tabs W ∧ Tens W) (hH:HeldV F p w fv hV) (hq:roundsV its ds hV fuel mk0 = some q) :
  Calls Tryz.prog 61 #[.pointer (some ⟨p.m,0,none⟩),fv] w fun e w'=>Alt (fun k=>p.R k ∨ F k) w w' ∧
   ((q.1 = 0 ∧ e = .returned (.tuple #[.int .i64 (q.2.1:Int),.int .i64 0]) ∧ MkM (fun _=>False) w' its p q.2.2) ∨ (q.1 ≠ 0 ∧ e = .returned (.tuple #[.int .i64 0,.int .i64 q.1]))):=by
 have HW:=Hy (pwholes_any _ its p mk0 w hM hn)
 have HM0:=Hy hM
 have hRl:=hM.R_lt
 have HD:=Hy hd
 have HWB:=Hy hwb
 have HTT:=Hy hTT
 have HH:=Hy hH
 have HF:=Hy hF
 have hwl:=wholesV_le its its.length
 have hrl:=roundGo_len its ds (wholesV its its.length) mk0 []
 have hrm:=roundGo_made its ds (wholesV its its.length) mk0 []
 have HWS:Hid (∀ s ∈ wholesV its its.length,s.place < its.length ∧ s.base.length ≤ 1000000):=fun s hs=>by
  unfold wholesV at hs
  obtain ⟨i,hi,rfl⟩:=List.mem_map.1 hs
  exact ⟨List.mem_range.1 (List.mem_filter.1 hi).1,by simp⟩
 have HQ:=Hy hq
 clear hM hd hwb hTT hH hq hF
 have hnn:(wholesV its its.length).length * (its.length + its.length) ≤ 200 * 400:=Nat.mul_le_mul (by omega) (by omega)
 go_enter Tryz.func61,Tryz.ntmps61
 go_wp2_with fail
 refine HW.out.mono ?_
 rintro e w1 ⟨⟨v1,rfl,hown1⟩,hb1⟩
 obtain ⟨A1,c1,rfl,hag1,hlo1,-⟩:=own_argG eltS hown1
 have HM1:=Hy (HM0.out.later hb1)
 have HA1:=Hy (Alt.of_below (R:=p.R) hb1)
 have HR1:=Hy (pround_any F its ds p mk0 A1 c1 (wholesV its its.length) w1 HM1.out (fun k hk=>Nat.lt_of_lt_of_le (HF.out k hk) hb1.size) hag1 (fun j hj hr=>by have:=hlo1 j hj; have:=hRl j hr; omega) hn (by omega) (by omega) HWS.out HD.out HWB.out (fun W h=>HTT.out W ((HA1.out.trans h).mono (fun k _ hk=>.inl hk))))
 have hz1:=hb1.size
 clear hown1 hag1 hlo1 hb1 HW
 obtain ⟨r,hr⟩:∃ r,r = roundGo its ds (wholesV its its.length) mk0 []:=⟨_,rfl⟩
 unfold roundsV at HQ
 rw [← hr] at HR1 HQ hrl hrm
 clear hr HWS
 go_wp2_with fail
 refine HR1.out.mono ?_
 rintro e w2 ⟨ha2,hres⟩
 have HA2:=Hy (HA1.out.trans ha2)
 have hz2:=ha2.size
 rcases hres with ⟨h0,v2,rfl,hown2,hm2⟩ | ⟨h0,rfl⟩
 ·rw [if_pos h0] at HQ
  obtain ⟨A2,c2,rfl,hag2,hlo2,-⟩:=own_argG eltS hown2
  have hll:=plean_len its hV r.2.1.dead hn
  have hfl2:∀ k,(F k ∨ Fo (.slice A2 r.2.2.length c2) k) → k < w2.heap.size:=fun k hk=>hk.elim (fun h=>Nat.lt_of_lt_of_le (HF.out k h) (by omega)) (fun h=>(hown2.lt k h).2)
  have HL:=Hy (plean_held _ F (fun k hk=>.inl hk) its p r.2.1 fv hV w2 hm2 hfl2 hn (HH.out.alt HA2.out))
  have HOW2:=Hy hown2
  have HM2:=Hy hm2
  obtain ⟨ll,hle⟩:∃ ll,ll = leanV its hV r.2.1.dead:=⟨_,rfl⟩
  rw [← hle] at HL HQ hll
  clear hown2 hag2 hm2 ha2 hle hfl2 HA1 HM1 HR1
  go_wp2_with fail
  refine HL.out.mono ?_
  rintro e w3 ⟨v3,rfl,hown3,hm3,ha3⟩
  obtain ⟨A3,c3,rfl,hag3,hlo3,-⟩:=own_argG eltS hown3
  have hnb:∀ j,(Value.slice A2 r.2.2.length c2).ownBlock = some j → ¬ (p.R j ∨ F j):=fun j hj hr=>by
   have:=(HOW2.out.lt j hj).1
   rcases hr with hr | hr
   ·have:=hRl j hr; omega
   ·have:=HF.out j hr; omega
  have HA3:Hid (Alt (fun k=>p.R k ∨ F k) w w3):=(HA2.out.mono (fun k _ hk=>.inl hk)).trans ha3
  have HOW3:=Hy (own_altR HOW2.out ha3 hnb)
  have hz3:=ha3.size
  have HM3:Hid (MkM (Fo (.slice A2 r.2.2.length c2)) w3 its p ⟨r.2.1.objs,r.2.1.made,ll.1⟩):=hm3.keep (fun k hk=>.inl (.inl (.inr hk)))
  have HAG3:=Hy hag3
  have hw13:w.heap.size ≤ w1.heap.size:=by omega
  have HOW3':=Hy (own_weak HOW3.out hw13)
  have HZ3:Hid (w.heap.size ≤ w3.heap.size):=by show _ ≤ _; omega
  have HLL:Hid (r.2.2.length + ll.2.length ≤ 10000000):=by show _ ≤ _; simp at hrl; omega
  clear hown3 hm3 ha3 hag3 hlo3 HA2 HOW2 HM2 HL HOW3
  go_wp2_with (at_builtin; go_loud (refine wpList_appendG_at eltS rfl _ _ rfl w.heap.size (.slice A2 r.2.2.length c2) r.2.2 rfl A3 ll.2.length c3 ll.2 rfl rfl ?_ HAG3.out HZ3.out HLL.out ?_; exact HOW3'.out; intro v' w4 hown' hb4' hgr4 hat4; have HOW4:=Hy hown'; have HA4:=Hy (alt_belowB HA3.out hb4' (Nat.le_refl _)); have HM4:=Hy (HM3.out.appended hgr4 hat4); clear hown' hb4' hgr4 hat4))
  obtain ⟨A4,c4,rfl,-,-,-⟩:=own_argG eltS HOW4.out
  obtain ⟨l0,hl0⟩:∃ l0,l0 = r.2.2 ++ ll.2:=⟨_,rfl⟩
  rw [← hl0] at HOW4 HM4 HQ
  have hle:(r.2.2.length + ll.2.length) = l0.length:=by rw [hl0,List.length_append]
  rw [show (r.2.2 ++ ll.2).length = l0.length by rw [hl0]]
  clear HAG3 HLL HOW3' HA3 HM3 hle hl0
  have hm0:r.2.1.made ≤ 1000:=by omega
  generalize hmke:(⟨r.2.1.objs,r.2.1.made,ll.1⟩:Mk) = mk4 at *
  have hm4:mk4.made ≤ 1000:=by rw [← hmke]; exact hm0
  clear hmke hm0 hrm hrl hll
  go_loopg [6,7,8] fuel (fun g s6 _ s8 wr=>∃ (f last:Nat) (mk:Mk) (l:List Stp) (A9:Option Addr) (c9:Nat),s6 = .slice A9 l.length c9 ∧ s8 = .int .i64 (last:Int) ∧ f ≤ g ∧ f ≤ fuel ∧ last + f ≤ fuel ∧ mk.made + f * 1000 ≤ 1000 + fuel * 1000 ∧ wr.ownsRow w.heap.size 180 3 (.slice A9 l.length c9) l.length (l.flatMap encS) ∧ Hid (MkM (Fo (.slice A9 l.length c9)) wr its p mk) ∧ Hid (Alt (fun k=>p.R k ∨ F k) w wr) ∧ Hid (roundsGo its ds f last mk l = some q))
  case atStart=>exact ⟨fuel,0,mk4,l0,A4,c4,rfl,rfl,Nat.le_refl _,Nat.le_refl _,by omega,by omega,HOW4.out,HM4,HA4,HQ⟩
  case round=>
   obtain ⟨f,last,mk,l,A9,c9,rfl,rfl,hg,hff,hlf,hmm,hown,hmk,hal,hrr⟩:=hrel
   have hzr:=hal.out.size
   by_cases hl:l = []
   ·have HQ2:Hid (q = (0,last,mk)):=by
     have:=hrr.out
     rw [hl,roundsGo_nil] at this
     injection this with this
     exact this.symm
    subst hl
    go_wp2
    go_ret2
    rw [HQ2.out]
    exact ⟨hal.out,.inl ⟨rfl,rfl,hmk.out.free⟩⟩
   ·obtain ⟨f',rfl,⟨hok1,hok2,hok3⟩,hcase⟩:=roundsGo_cons its ds f last mk l hl q hrr.out
    obtain ⟨g9,rfl,hgB,hgl,hrow,hfz,hlc,hcm⟩:=sort_own hown hl
    have HSF:=Hy (sortf_stp g9 c9 l wr hrow hfz hgl (by omega) hok2)
    have hpos:0 < l.length:=List.length_pos_iff.2 hl
    have hgt:decide ((l.length:Int) > 0) = true:=decide_eq_true (by omega)
    have HOWN:=Hy hown
    clear hrow hfz hown hrr
    go_wp2_with fail
    refine HSF.out.mono ?_
    rintro e w5 ⟨rfl,hrow5,hgr5⟩
    have HM5:=Hy (hmk.out.row hgr5 (fun r hr=>by injection hr with hr; subst hr; rfl))
    have HA5:=Hy (hal.out.grown hgr5 (fun j hj=>by injection hj with hj; exact .inl (by omega)))
    have hsl:=sortS_len l
    have hag5:ArgG encS default 3 w5 (some ⟨g9,0,none⟩) c9 (sortS l):=⟨by omega,hcm,(fun e=>by cases e),fun _=>⟨g9,0,rfl,hrow5⟩⟩
    have hpr:=pround_any (fun _=>False) its ds p mk (some ⟨g9,0,none⟩) c9 (sortS l) w5 HM5.out.free (fun _ hk=>hk.elim) hag5 (fun j hj hr=>by obtain ⟨a,e,rfl⟩:=hj; injection e with e; subst e; have:=hRl _ hr; dsimp only at *; omega) hn (by omega) (by omega) (fun s hs=>hok3 s ((sortS_mem l s).1 hs)) HD.out HWB.out (fun W h=>HTT.out W (HA5.out.trans (h.mono (fun k _ hk=>.inl hk))))
    rw [hsl] at hpr
    have hrm:=roundGo_made its ds (sortS l) mk []
    rw [hsl] at hrm
    have HPR:=Hy hpr
    have hz5:=hgr5.size
    clear hpr hag5 hrow5 hgr5 HSF hmk hal HOWN
    generalize roundGo its ds (sortS l) mk [] = r9 at *
    go_wp2_with fail
    refine HPR.out.mono ?_
    rintro e w6 ⟨ha6,hres⟩
    have HA6:Hid (Alt (fun k=>p.R k ∨ F k) w w6):=HA5.out.trans (ha6.mono (fun k _ hk=>.inl hk))
    rcases hres with ⟨k0,v6,rfl,hown6,hm6⟩ | ⟨k0,rfl⟩
    ·rcases hcase with ⟨-,hq9⟩ | ⟨hq9,-⟩
     ·obtain ⟨A6,c6,rfl,-,-,-⟩:=own_argG eltS hown6
      have HOW6:=Hy (own_weak hown6 (show w.heap.size ≤ w5.heap.size by omega))
      have HM6:Hid (MkM (Fo (.slice A6 r9.2.2.length c6)) w6 its p r9.2.1):=hm6.keep (fun k hk=>.inl (.inr hk))
      have HQ9:=Hy hq9
      clear hown6 hm6 hq9 ha6 HPR HM5 HA5
      go_wp2
      go_roundg (f')
      case measure=>omega
      case rel=>exact ⟨f',last + 1,r9.2.1,r9.2.2,A6,c6,rfl,by go_num,Nat.le_refl _,by omega,by omega,by omega,HOW6.out,HM6,HA6,HQ9⟩
     ·exact absurd k0 hq9
    ·rcases hcase with ⟨hq9,-⟩ | ⟨-,hq9⟩
     ·exact absurd hq9 k0
     ·have hne:(r9.1 != 0) = true:=by simpa using k0
      go_wp2
      go_ret2
      rw [hq9]
      exact ⟨HA6.out,.inr ⟨k0,rfl⟩⟩
 ·rw [if_neg h0] at HQ
  have HQ2:Hid (q = (r.1,0,r.2.1)):=by
   have:=HQ.out
   injection this with this
   exact this.symm
  have hne:(r.1 != 0) = true:=by simpa using h0
  go_wp2
  go_ret2
  rw [HQ2.out]
  exact ⟨HA2.out.mono (fun k _ hk=>.inl hk),.inr ⟨h0,rfl⟩⟩
theorem madeG {α:Type} {enc:α → List Value} {d:α} {m:Nat} (hl:∀ x,(enc x).length = m) (hm:0 < m) (n:Nat):madeCells (enc d).toArray (n * m) = ((List.replicate n d).flatMap enc).toArray:=by
 apply Array.ext
 ·rw [size_madeCells,List.size_toArray,flatG_len hl,List.length_replicate]
 ·intro i h1 h2
  rw [size_madeCells] at h1
  have hq:i / m < n:=Nat.div_lt_of_lt_mul (by rw [Nat.mul_comm]; exact h1)
  have hr:i % m < m:=Nat.mod_lt _ hm
  have hd:i / m * m + i % m = i:=by rw [Nat.mul_comm]; exact Nat.div_add_mod i m
  have hf:=flatG_at (d:=d) hl (List.replicate n d) (i / m) (i % m) (by rw [List.length_replicate]; exact hq) hr
  rw [hd] at hf
  have hg:(List.replicate n d).getD (i / m) d = d:=by simp [List.getD,hq]
  have hr':=List.getElem?_eq_getElem (l:=enc d) (i:=i % m) (by rw [hl]; exact hr)
  rw [hg,hr'] at hf
  simp only [madeCells,Array.getElem_map,Array.getElem_range,List.size_toArray,hl]
  rw [getElem!_pos _ _ (by rw [List.size_toArray,hl]; exact hr)]
  have h3:=(List.getElem?_eq_some_iff.1 hf).2
  simp only [List.getElem_toArray]
  exact h3.symm
theorem make_objs (n:Nat) (hn:n ≤ 200) (W:World):(Instr.makeSlice 35 (.int .i64 (n:Int)) (.int .i64 (n:Int))).run Tryz.prog W = .ok (.slice (some ⟨W.heap.size,0,none⟩) n n) (W.alloc (.cells ((List.replicate n (default:Obx)).flatMap encX).toArray 49)):=by
 obtain ⟨i0,hq,h1,h2,h3⟩:=eltX.info
 have h:=run_make (P:=Tryz.prog) W 35 49 i0 (.agg (encX default).toArray) Tryz.underlying35 hq h1 .i64 .i64 (n:Int) (n:Int) (by omega) (by omega) (by
  have:i0.bytes * n ≤ 4096 * 200:=Nat.mul_le_mul h3 hn
  omega) (by omega)
 rw [h2] at h
 simp only [Int.toNat_natCast] at h
 rw [show (Value.agg (encX default).toArray).cells = (encX default).toArray from rfl,madeG (d:=(default:Obx)) encX_len (by decide)] at h
 exact h
theorem infoZs:(Tryz.prog.info? 59).map (fun i=>(i.zero,i.size,i.bytes)) = some (some (.slice none 0 0),1,24):=by kernel_rfl
theorem make_rows (n:Nat) (hn:n ≤ 200) (W:World):(Instr.makeSlice 112 (.int .i64 (n:Int)) (.int .i64 (n:Int))).run Tryz.prog W = .ok (.slice (some ⟨W.heap.size,0,none⟩) n n) (W.alloc (.cells (Array.replicate n (Value.slice none 0 0)) 59)):=by
 obtain ⟨i0,hq,h1,h2,h3⟩:=info_parts infoZs
 have h:=run_make (P:=Tryz.prog) W 112 59 i0 (.slice none 0 0) Tryz.underlying112 hq h1 .i64 .i64 (n:Int) (n:Int) (by omega) (by omega) (by rw [h3]; omega) (by omega)
 rw [h2,Int.toNat_natCast,Nat.mul_one] at h
 rw [h]
 refine congrArg (fun cs=>Result.ok (Value.slice (some ⟨W.heap.size,0,none⟩) n n) (W.alloc (.cells cs 59))) ?_
 apply Array.ext
 ·simp [size_madeCells]
 ·intro i h1 h2
  simp [madeCells,Value.cells,Nat.mod_one]
section
open Go.RowKit
structure Rws {ι:Type} (w:World) (B:Nat) (R:ι → Value) (L:ι → List Nat):Prop where
 own:∀ i,w.ownsRow B 3 1 (R i) (L i).length ((L i).map zI)
 apart:∀ i j,i ≠ j → (R i).ownBlock = none ∨ (R i).ownBlock ≠ (R j).ownBlock
def upd {ι α:Type} [DecidableEq ι] (f:ι → α) (s:ι) (v:α):ι → α:=fun i=>if i = s then v else f i
theorem upd_same {ι α:Type} [DecidableEq ι] (f:ι → α) (s:ι) (v:α):upd f s v s = v:=if_pos rfl
theorem upd_ne {ι α:Type} [DecidableEq ι] (f:ι → α) {s i:ι} (v:α) (h:i ≠ s):upd f s v i = f i:=if_neg h
section
variable {ι : Type} {w w' : World} {B : Nat} {R : ι → Value} {L : ι → List Nat}
theorem Rws.low (h:Rws w B R L) {row:Option Nat} (hg:w.grownBy w' row) (hr:∀ r,row = some r → r < B):Rws w' B R L:=by
 refine ⟨fun i=>(h.own i).kept hg ?_,h.apart⟩
 cases hq:(R i).ownBlock with
 | none=>exact .inl rfl
 | some r=>exact .inr (fun e=>by have:=((h.own i).lt r hq).1; have:=hr r e.symm; omega)
theorem Rws.later (h:Rws w B R L) (hb:Below w.heap.size w w'):Rws w' B R L:=h.low (grown_none hb) (fun r e=>by cases e)
variable [DecidableEq ι]
theorem Rws.put (h:Rws w B R L) (s:ι) {v':Value} {l':List Nat} (hg:w.grownBy w' (R s).ownBlock) (ho:w'.ownsRow B 3 1 v' l'.length (l'.map zI)) (hl:v'.ownBlock = (R s).ownBlock ∨ v'.ownBlock = some w.heap.size):Rws w' B (upd R s v') (upd L s l'):=by
 have hnew:∀ i,i ≠ s → v'.ownBlock = none ∨ v'.ownBlock ≠ (R i).ownBlock:=fun i hi=>by
  rcases hl with hl | hl
  ·rw [hl]
   exact h.apart s i (fun e=>hi e.symm)
  ·refine .inr (fun e=>?_)
   rw [hl] at e
   have:=((h.own i).lt _ e.symm).2
   omega
 refine ⟨fun i=>?_,fun i j hij=>?_⟩
 ·by_cases hi:i = s
  ·subst hi
   rw [upd_same,upd_same]
   exact ho
  ·rw [upd_ne _ _ hi,upd_ne _ _ hi]
   refine (h.own i).kept hg ?_
   rcases h.apart i s hi with h1 | h1
   ·exact .inl h1
   ·exact .inr h1
 ·by_cases hi:i = s
  ·subst hi
   rw [upd_same,upd_ne _ _ (fun e=>hij e.symm)]
   exact hnew j (fun e=>hij e.symm)
  ·by_cases hj:j = s
   ·subst hj
    rw [upd_same,upd_ne _ _ hi]
    rcases hnew i hi with h1 | h1
    ·cases hq:(R i).ownBlock with
     | none=>exact .inl rfl
     | some r=>exact .inr (fun e=>by rw [h1] at e; cases e)
    ·exact .inr (fun e=>h1 e.symm)
   ·rw [upd_ne _ _ hi,upd_ne _ _ hj]
    exact h.apart i j hij
end
theorem wp_appendZ1 {w:World} {op:Oper} {a:Act} {K:Act → World → Prop} {Q:Exit → Act → World → Prop} (s x:Operand) (ho:op.op = .call { callee:=.builtin .append,args:=#[s,x],argTypes:=#[59,59] })
  (B:Nat) (v:Value) (xs:List Nat) (k g:Nat) (hs:a.eval s = v) (hx:a.eval x = .slice (some ⟨g,0,none⟩) 1 1) (hown:w.ownsRow B 3 1 v xs.length (xs.map zI)) (hy:w.cell? ⟨g,0,none⟩ = some (zI k))
  (hB:B ≤ w.heap.size) (hl:xs.length ≤ 100000) (h:∀ v' w',w'.ownsRow B 3 1 v' (xs ++ [k]).length ((xs ++ [k]).map zI) → w.grownBy w' v.ownBlock → (v'.ownBlock = v.ownBlock ∨ v'.ownBlock = some w.heap.size) → K (a.put op.dst v') w'):op.wp Tryz.prog a w K Q:=by
 obtain ⟨i0,hi,hz0,hz1,hz2⟩:=info_parts infoZ
 obtain ⟨v',w',hr,h2,h3,-,h5⟩:=run_append_own_at (P:=Tryz.prog) w B 59 op.type 3 i0 (.int .i64 0) 1 8 Tryz.underlying59 hi hz0 hz1 hz2 rfl (by decide) v xs.length (xs.map zI) hown ⟨g,0,none⟩ 1 1 ([k].map zI) (by simp) (fun j u hu=>by
  have hj:j = 0:=by
   have:=(List.getElem?_eq_some_iff.1 hu).1
   simpa using this
  subst hj
  rw [Addr.add_mid]
  simp only [List.map_cons,List.map_nil,List.getElem?_cons_zero,Option.some.injEq] at hu
  rw [← hu]
  exact hy) (zI_one [k]) (by unfold maxLen; omega) (by omega) hB
 unfold Oper.wp execOp
 simp only [ho,resolve,invoke,builtin,Sem.run_bind,Sem.run_pure,Result.andThen_ok,List.map_toArray,List.map_cons,List.map_nil,hs,hx,hr]
 exact h v' w' (by rw [List.length_append,List.map_append]; exact h2) h3 h5
theorem wp_entryN {w:World} {op:Oper} {a:Act} {K:Act → World → Prop} {Q:Exit → Act → World → Prop} (m x:Operand) (ho:op.op = .mapEntry 113 m x) (b N:Nat) (V:Nm → Value) (nm:Nm) (hm:a.eval m = .map (some b)) (hx:a.eval x = .agg (encN nm).toArray) (hO:OwnMap w b N V) (hN:N < maxLen)
  (h:∀ st w1,w.grownBy w1 (some b) → w1.heap.size = w.heap.size → (∀ (w2:World) (val:Value),w2.heap[b]? = w1.heap[b]? → ∃ w3,(Instr.entryStore 113 (.map (some b)) st val).run Tryz.prog w2 = .ok () w3 ∧ w2.grownBy w3 (some b) ∧ w3.heap.size = w2.heap.size ∧ OwnMap w3 b (N + 1) (fun y=>if y = nm then val else V y)) → K (a.put op.dst (.tuple #[V nm,st])) w1):op.wp Tryz.prog a w K Q:=by
 obtain ⟨st,w1,hr,hg,hsz,hst⟩:=hO.entry nm hN
 unfold Oper.wp
 simp [execOp,ho,hm,hx,hr,Result.andThen]
 exact h st w1 hg hsz hst
theorem wp_entryStore {w w':World} {op:Oper} {a:Act} {K:Act → World → Prop} {Q:Exit → Act → World → Prop} (m x y:Operand) (ho:op.op = .entryStore 113 m x y) (b:Nat) (st v:Value) (hm:a.eval m = .map (some b)) (hx:a.eval x = st) (hy:a.eval y = v)
  (hr:(Instr.entryStore 113 (.map (some b)) st v).run Tryz.prog w = .ok () w') (h:K (a.put op.dst undef) w'):op.wp Tryz.prog a w K Q:=by
 unfold Oper.wp
 simp [execOp,ho,hm,hx,hy,hr,Result.andThen]
 exact h
end
def begAct (A:Option Addr) (n c m go gb mb:Nat):Act:={ tmps:=#[.slice A n c,undef,.pointer none,.pointer (some ⟨m,0,none⟩),undef,undef,.slice A n c,.slice A n c,.int .i64 (n:Int),.slice (some ⟨go,0,none⟩) n n,.slice A n c,.int .i64 (n:Int),.slice (some ⟨gb,0,none⟩) n n,.map (some mb),.agg #[.slice A n c,.slice (some ⟨go,0,none⟩) n n,.int .i64 0,.slice (some ⟨gb,0,none⟩) n n,.map (some mb)],.pointer (some ⟨m,0,none⟩),undef,undef,undef,undef,undef,undef,undef,undef,undef,undef,undef,undef,undef,undef,undef,undef,undef,undef,undef,undef,undef,undef,undef,undef,undef,undef,undef,undef,undef,undef,undef,undef,undef,undef,undef,undef,undef,undef,undef,undef,undef,undef,undef,undef,undef,undef,undef,undef,undef,undef,undef,undef,undef,undef,undef,undef,undef],defers:=[] }
structure BegF (A:Option Addr) (n c m go gb mb:Nat) (w W:World):Prop where
 m_:Whole W m 115 #[.slice A n c,.slice (some ⟨go,0,none⟩) n n,.int .i64 0,.slice (some ⟨gb,0,none⟩) n n,.map (some mb)]
 o_:Whole W go 49 ((List.replicate n (default:Obx)).flatMap encX).toArray
 b_:Whole W gb 59 (Array.replicate n (Value.slice none 0 0))
 p_:OwnMap W mb 0 (fun _=>nilS)
 w_:Below w.heap.size w W
 h_:w.heap.size ≤ m ∧ w.heap.size ≤ go ∧ w.heap.size ≤ gb ∧ w.heap.size ≤ mb
 d_:m ≠ go ∧ m ≠ mb ∧ go ≠ mb ∧ gb ≠ m ∧ gb ≠ go ∧ gb ≠ mb
theorem whole_at {w:World} {g:Nat} {t:TypeId} {cs:Array Value} (h:w.heap.size = g):Whole (w.alloc (.cells cs t)) g t cs:=h ▸ Whole.made w t cs
theorem own_at {w:World} {g:Nat} (h:w.heap.size = g):OwnMap (w.alloc (.map #[] 0)) g 0 (fun _=>nilS):=h ▸ OwnMap.made w
theorem OwnMap.past {w:World} {b n:Nat} {V:Nm → Value} (h:OwnMap w b n V) (o:Obj):OwnMap (w.alloc o) b n V:=h.grown (World.grownBy_alloc w o none) (by simp)
abbrev Slot:=Nat ⊕ Nm
def slotL (its:List It) (k:Nat):Slot → List Nat:=fun s=>match s with | .inl j=>backsTo its k j | .inr x=>namesTo its k x
def rowsA (R:Slot → Value) (n:Nat):Array Value:=((List.range n).map fun j=>R (.inl j)).toArray
theorem rowsA_size (R:Slot → Value) (n:Nat):(rowsA R n).size = n:=by simp [rowsA]
theorem rowsA_at (R:Slot → Value) (n j:Nat) (h:j < n):(rowsA R n)[j]? = some (R (.inl j)):=by simp [rowsA,h]
theorem rowsA_set (R:Slot → Value) (n j:Nat) (v:Value):(rowsA R n).setIfInBounds j v = rowsA (upd R (.inl j) v) n:=by
 apply Array.ext
 ·simp [rowsA_size]
 ·intro i h1 h2
  rw [rowsA_size] at h2
  rw [Array.getElem_setIfInBounds (by rw [rowsA_size]; exact h2)]
  by_cases hij:j = i
  ·subst hij
   simp [rowsA,upd_same]
  ·have:(Sum.inl i:Slot) ≠ .inl j:=fun e=>hij (by injection e with e; exact e.symm)
   rw [if_neg hij]
   simp [rowsA,upd_ne _ _ this]
theorem rowsA_other (R:Slot → Value) (n:Nat) (x:Nm) (v:Value):rowsA (upd R (.inr x) v) n = rowsA R n:=by
 unfold rowsA
 congr 2
theorem slotL_back (its:List It) (k:Nat) (h6:(its.getD k default).kind = 6) (h1:1 ≤ (its.getD k default).back) (h2:(its.getD k default).back ≤ k):slotL its (k + 1) = upd (slotL its k) (.inl (k - (its.getD k default).back)) (slotL its k (.inl (k - (its.getD k default).back)) ++ [k]):=by
 funext s
 cases s with
 | inl j=>
  show backsTo its (k + 1) j = _
  rw [backsTo_succ]
  by_cases hj:j = k - (its.getD k default).back
  ·subst hj
   rw [upd_same,if_pos (by unfold isBack; rw [decide_eq_true h6,decide_eq_true h1,decide_eq_true h2,decide_eq_true rfl]; rfl)]
   rfl
  ·rw [upd_ne _ _ (fun e=>hj (by injection e)),if_neg (by unfold isBack; rw [decide_eq_false (fun e:k - (its.getD k default).back = j=>hj e.symm)]; simp)]
   rfl
 | inr x=>
  show namesTo its (k + 1) x = _
  rw [namesTo_succ,upd_ne _ _ (by simp),if_neg (by unfold isName; rw [decide_eq_false (by omega:¬ (its.getD k default).kind = 7)]; simp)]
  rfl
theorem slotL_name (its:List It) (k:Nat) (h7:(its.getD k default).kind = 7):slotL its (k + 1) = upd (slotL its k) (.inr (its.getD k default).base) (slotL its k (.inr (its.getD k default).base) ++ [k]):=by
 funext s
 cases s with
 | inl j=>
  show backsTo its (k + 1) j = _
  rw [backsTo_succ,upd_ne _ _ (by simp),if_neg (by unfold isBack; rw [decide_eq_false (by omega:¬ (its.getD k default).kind = 6)]; simp)]
  rfl
 | inr x=>
  show namesTo its (k + 1) x = _
  rw [namesTo_succ]
  by_cases hx:x = (its.getD k default).base
  ·subst hx
   rw [upd_same,if_pos (by unfold isName; rw [decide_eq_true h7,decide_eq_true rfl]; rfl)]
   rfl
  ·rw [upd_ne _ _ (fun e=>hx (by injection e)),if_neg (by unfold isName; rw [decide_eq_false (fun e:(its.getD k default).base = x=>hx e.symm)]; simp)]
   rfl
theorem slotL_none (its:List It) (k:Nat) (h6:¬ ((its.getD k default).kind = 6 ∧ 1 ≤ (its.getD k default).back ∧ (its.getD k default).back ≤ k)) (h7:(its.getD k default).kind ≠ 7):slotL its (k + 1) = slotL its k:=by
 funext s
 cases s with
 | inl j=>
  show backsTo its (k + 1) j = _
  rw [backsTo_succ,if_neg]
  ·rfl
  ·unfold isBack
   intro h
   simp only [Bool.and_eq_true,decide_eq_true_eq] at h
   exact h6 ⟨h.1.1.1,h.1.1.2,h.1.2⟩
 | inr x=>
  show namesTo its (k + 1) x = _
  rw [namesTo_succ,if_neg]
  ·rfl
  ·unfold isName
   intro h
   simp only [Bool.and_eq_true,decide_eq_true_eq] at h
   exact h7 h.1
theorem slotL_zero (its:List It) (s:Slot):slotL its 0 s = []:=by cases s <;> rfl
theorem slotL_len (its:List It) (k:Nat) (s:Slot):(slotL its k s).length ≤ k:=by
 cases s
 ·exact backsTo_le _ _ _
 ·exact namesTo_le _ _ _
structure BegM (its:List It) (A:Option Addr) (c m go gb mb B k:Nat) (w W:World) (R:Slot → Value) (N:Nat):Prop where
 m_:Whole W m 115 #[.slice A its.length c,.slice (some ⟨go,0,none⟩) its.length its.length,.int .i64 0,.slice (some ⟨gb,0,none⟩) its.length its.length,.map (some mb)]
 o_:Whole W go 49 ((List.replicate its.length (default:Obx)).flatMap encX).toArray
 b_:Whole W gb 59 (rowsA R its.length)
 p_:OwnMap W mb N (fun x=>R (.inr x))
 r_:Rws W B R (slotL its k)
 w_:Below w.heap.size w W
 h_:w.heap.size ≤ m ∧ w.heap.size ≤ go ∧ w.heap.size ≤ gb ∧ w.heap.size ≤ mb
 d_:m ≠ go ∧ m ≠ mb ∧ go ≠ mb ∧ gb ≠ m ∧ gb ≠ go ∧ gb ≠ mb
 l_:m < B ∧ go < B ∧ gb < B ∧ mb < B
 z_:B ≤ W.heap.size
 n_:N ≤ k
theorem BegF.begM {its:List It} {A:Option Addr} {c m go gb mb:Nat} {w W:World} (h:BegF A its.length c m go gb mb w W):BegM its A c m go gb mb W.heap.size 0 w W (fun _=>nilS) 0:=by
 refine ⟨h.m_,h.o_,?_,h.p_,⟨fun i=>?_,fun i j _=>.inl rfl⟩,h.w_,h.h_,h.d_,⟨h.m_.lt,h.o_.lt,h.b_.lt,h.p_.lt⟩,Nat.le_refl _,Nat.le_refl _⟩
 ·have e:rowsA (fun _=>nilS) its.length = Array.replicate its.length (Value.slice none 0 0):=by
   apply Array.ext
   ·simp [rowsA_size]
   ·intro i h1 h2
    simp [rowsA,nilS]
  rw [e]
  exact h.b_
 ·rw [slotL_zero]
  exact World.ownsRow_nil _ _ _ _
theorem BegM.later {its:List It} {A:Option Addr} {c m go gb mb B k:Nat} {w W W':World} {R:Slot → Value} {N:Nat} (h:BegM its A c m go gb mb B k w W R N) (hb:Below W.heap.size W W'):BegM its A c m go gb mb B k w W' R N:=by
 have hg:=grown_none hb
 have hs:=hb.size
 exact ⟨h.m_.grown hg (by simp),h.o_.grown hg (by simp),h.b_.grown hg (by simp),h.p_.grown hg (by simp),h.r_.later hb,h.w_.trans (hb.mono h.w_.size),h.h_,h.d_,h.l_,Nat.le_trans h.z_ hs,h.n_⟩
theorem BegM.skip {its:List It} {A:Option Addr} {c m go gb mb B k:Nat} {w W:World} {R:Slot → Value} {N:Nat} (h:BegM its A c m go gb mb B k w W R N) (hk:slotL its (k + 1) = slotL its k):BegM its A c m go gb mb B (k + 1) w W R N:=
 ⟨h.m_,h.o_,h.b_,h.p_,by rw [hk]; exact h.r_,h.w_,h.h_,h.d_,h.l_,h.z_,Nat.le_trans h.n_ (Nat.le_succ _)⟩
theorem BegM.back {its:List It} {A:Option Addr} {c m go gb mb B k j:Nat} {w W W2:World} {R:Slot → Value} {N:Nat} {v':Value} (h:BegM its A c m go gb mb B k w W R N) (hk:slotL its (k + 1) = upd (slotL its k) (.inl j) (slotL its k (.inl j) ++ [k])) (ho:W2.ownsRow B 3 1 v' (slotL its k (.inl j) ++ [k]).length ((slotL its k (.inl j) ++ [k]).map zI)) (hg:W.grownBy W2 (R (.inl j)).ownBlock) (hl:v'.ownBlock = (R (.inl j)).ownBlock ∨ v'.ownBlock = some W.heap.size) :
  BegM its A c m go gb mb B (k + 1) w (W2.setCell ⟨gb,j,none⟩ v') (upd R (.inl j) v') N:=by
 have hB:∀ r,(R (.inl j)).ownBlock = some r → B ≤ r:=fun r hr=>((h.r_.own _).lt r hr).1
 have hgs:W2.grownBy (W2.setCell ⟨gb,j,none⟩ v') (some gb):=gr_set (row:=some gb) (gr_refl _ _) (p:=⟨gb,j,none⟩) (.inl rfl) _
 have hne:∀ x,x < B → some x ≠ (R (.inl j)).ownBlock:=fun x hx e=>by have:=hB _ e.symm; omega
 have hz:=hg.size
 refine ⟨(h.m_.grown hg (hne _ h.l_.1)).grown hgs (by simpa using h.d_.2.2.2.1.symm),(h.o_.grown hg (hne _ h.l_.2.1)).grown hgs (by simpa using h.d_.2.2.2.2.1.symm),?_,?_,?_,?_,h.h_,h.d_,h.l_,Nat.le_trans h.z_ (Nat.le_trans hz hgs.size),Nat.le_trans h.n_ (Nat.le_succ _)⟩
 ·have:=(h.b_.grown hg (hne _ h.l_.2.2.1)).put j v'
  rw [rowsA_set] at this
  exact this
 ·have e:(fun x=>upd R (.inl j) v' (.inr x)) = fun x=>R (.inr x):=by funext x; exact upd_ne _ _ (by simp)
  rw [e]
  exact (h.p_.grown hg (hne _ h.l_.2.2.2)).grown hgs (by simpa using h.d_.2.2.2.2.2.symm)
 ·rw [hk]
  exact (h.r_.put (.inl j) hg ho hl).low hgs (fun r hr=>by injection hr with hr; have:=h.l_.2.2.1; omega)
 ·exact be_grown (be_grown h.w_ hg h.w_.size (fun r hr=>by have:=hB r hr; have:=h.l_.1; have:=h.h_.1; omega)) hgs (Nat.le_trans h.w_.size hz) (fun r hr=>by injection hr with hr; have:=h.h_.2.2.1; omega)
theorem BegM.name {its:List It} {A:Option Addr} {c m go gb mb B k:Nat} {x:Nm} {w W W1 W2 W3:World} {R:Slot → Value} {N:Nat} {v':Value} (h:BegM its A c m go gb mb B k w W R N) (hk:slotL its (k + 1) = upd (slotL its k) (.inr x) (slotL its k (.inr x) ++ [k])) (hg1:W.grownBy W1 (some mb)) (hs1:W1.heap.size = W.heap.size) (ho:W2.ownsRow B 3 1 v' (slotL its k (.inr x) ++ [k]).length ((slotL its k (.inr x) ++ [k]).map zI)) (hg:W1.grownBy W2 (R (.inr x)).ownBlock) (hl:v'.ownBlock = (R (.inr x)).ownBlock ∨ v'.ownBlock = some W1.heap.size)
  (hg3:W2.grownBy W3 (some mb)) (hm3:OwnMap W3 mb (N + 1) (fun y=>if y = x then v' else R (.inr y))) :
  BegM its A c m go gb mb B (k + 1) w W3 (upd R (.inr x) v') (N + 1):=by
 have hB:∀ r,(R (.inr x)).ownBlock = some r → B ≤ r:=fun r hr=>((h.r_.own _).lt r hr).1
 have hne:∀ y,y < B → some y ≠ (R (.inr x)).ownBlock:=fun y hy e=>by have:=hB _ e.symm; omega
 have hz:=hg.size
 have hz3:=hg3.size
 have hz1:=hg1.size
 have hmb:=h.l_.2.2.2
 have r1:=h.r_.low hg1 (fun r hr=>by injection hr with hr; omega)
 refine ⟨((h.m_.grown hg1 (by simpa using h.d_.2.1)).grown hg (hne _ h.l_.1)).grown hg3 (by simpa using h.d_.2.1),((h.o_.grown hg1 (by simpa using h.d_.2.2.1)).grown hg (hne _ h.l_.2.1)).grown hg3 (by simpa using h.d_.2.2.1),?_,?_,?_,?_,h.h_,h.d_,h.l_,by have:=h.z_; omega,by have:=h.n_; omega⟩
 ·rw [rowsA_other]
  exact ((h.b_.grown hg1 (by simpa using h.d_.2.2.2.2.2)).grown hg (hne _ h.l_.2.2.1)).grown hg3 (by simpa using h.d_.2.2.2.2.2)
 ·have e:(fun y=>upd R (.inr x) v' (.inr y)) = fun y=>if y = x then v' else R (.inr y):=by
   funext y
   unfold upd
   by_cases hy:y = x
   ·subst hy; rw [if_pos rfl,if_pos rfl]
   ·rw [if_neg hy,if_neg (fun e=>hy (by injection e))]
  rw [e]
  exact hm3
 ·rw [hk]
  exact (r1.put (.inr x) hg ho hl).low hg3 (fun r hr=>by injection hr with hr; omega)
 ·have hmw:=h.h_.2.2.2
  have b1:=be_grown h.w_ hg1 h.w_.size (fun r hr=>by injection hr with hr; omega)
  have b2:=be_grown b1 hg (Nat.le_trans h.w_.size hz1) (fun r hr=>by have:=hB r hr; have:=h.l_.1; have:=h.h_.1; omega)
  exact be_grown b2 hg3 (Nat.le_trans h.w_.size (Nat.le_trans hz1 hz)) (fun r hr=>by injection hr with hr; omega)
theorem waits_none (its:List It) (x:Nm):waits its [] x = namesTo its its.length x:=by simp [waits]
theorem has_default (w:World):HasX w default:=⟨⟨Nat.le_refl _,Nat.zero_le _,fun _=>rfl,fun h=>absurd h (Nat.lt_irrefl _)⟩,⟨Nat.le_refl _,Nat.zero_le _,fun _=>rfl,fun h=>absurd h (Nat.lt_irrefl _)⟩⟩
theorem BegM.done {its:List It} {A:Option Addr} {c m go gb mb B:Nat} {w W:World} {R:Slot → Value} {N:Nat} (h:BegM its A c m go gb mb B its.length w W R N) (hA:ArgG encI default 35 w A c its) (F:Nat → Prop) (hF:∀ k,F k → k < w.heap.size) (hFA:∀ j,inBlk A j → 0 < its.length → ¬ F j):MkM F W its ⟨m,go,gb,mb,A,c⟩ (mk0 its):=by
 have hBF:∀ j,B ≤ j → ¬ F j:=fun j hj hf=>by
  have:=hF j hf
  have:=h.h_.1
  have:=h.l_.1
  omega
 have hHF:∀ j,w.heap.size ≤ j → ¬ F j:=fun j hj hf=>by
  have:=hF j hf
  omega
 obtain ⟨f,hf⟩:=Classical.axiomOfChoice (r:=fun (s:Slot) (q:Option Addr × Nat)=>R s = .slice q.1 (slotL its its.length s).length q.2 ∧ ArgZ W q.1 q.2 (slotL its its.length s) ∧ ∀ j,inBlk q.1 j → B ≤ j) (fun s=>by
  obtain ⟨A',c',h1,h2,h3⟩:=own_argZ (h.r_.own s)
  exact ⟨(A',c'),h1,h2,h3⟩)
 have hR:∀ j,B ≤ j → ¬ (Mng.R ⟨m,go,gb,mb,A,c⟩) j:=fun j hj hr=>by
  have:=h.l_
  have hr':j = m ∨ j = go ∨ j = mb:=hr
  omega
 refine ⟨h.m_,hA.below h.w_ (fun j hj h0=>hA.lt eltI hj h0),fun j hj h0=>⟨fun hr=>?_,hFA j hj h0⟩,⟨List.replicate its.length default,?_,h.o_,fun q hq=>?_⟩,by simp [mk0],⟨fun j=>f (.inl j),fun j hj=>⟨?_,(hf (.inl j)).2.1,fun i hi _=>⟨hR i ((hf (.inl j)).2.2 i hi),hBF i ((hf (.inl j)).2.2 i hi)⟩⟩⟩,⟨fun hr=>?_,Nat.lt_of_lt_of_le h.l_.2.2.1 h.z_⟩,⟨N,fun x=>f (.inr x),?_,fun x=>?_⟩,⟨h.d_.1,h.d_.2.1,h.d_.2.2.1⟩,⟨hHF _ h.h_.1,hHF _ h.h_.2.1,hHF _ h.h_.2.2.1,hHF _ h.h_.2.2.2⟩⟩
 ·have h1:=hA.lt eltI hj h0
  have h2:=h.h_
  have hr':j = m ∨ j = go ∨ j = mb:=hr
  omega
 ·simp [mk0]
  exact .inr rfl
 ·obtain rfl:=List.eq_of_mem_replicate hq
  exact ⟨has_default W,fun j _ h0=>absurd h0 (Nat.lt_irrefl _),fun j _ h0=>absurd h0 (Nat.lt_irrefl _)⟩
 ·rw [h.b_.at_ j,rowsA_at R its.length j hj,(hf (.inl j)).1]
  rfl
 ·have:=h.d_
  rcases hr with hr | hr | hr <;> (dsimp only at hr; omega)
 ·have e:(fun x=>Value.slice (f (.inr x)).1 (waits its (mk0 its).dead x).length (f (.inr x)).2) = fun x=>R (.inr x):=by
   funext x
   rw [(hf (.inr x)).1,show (mk0 its).dead = [] from rfl,waits_none]
   rfl
  rw [e]
  exact h.p_
 ·rw [show (mk0 its).dead = [] from rfl,waits_none]
  exact ⟨(hf (.inr x)).2.1,fun i hi _=>⟨hR i ((hf (.inr x)).2.2 i hi),hBF i ((hf (.inr x)).2.2 i hi)⟩⟩
end Go.Proofs.YtlfmooihcigolaaGreatDoor

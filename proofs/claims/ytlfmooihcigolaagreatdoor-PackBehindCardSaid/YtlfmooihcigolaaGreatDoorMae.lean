/-
  ShaB, ShaC, ShaD.
-/
import Derived.Test.YtlfmooihcigolaaGreatDoorMad
import Derived.LoopTactic
import Derived.Deep.RegionHeld3
import Derived.Laws.CopyOwn
set_option maxRecDepth 100000
set_option maxHeartbeats 8000000
namespace Go.Proofs.YtlfmooihcigolaaGreatDoor
open Go.RowKit
def warr (ws:List ShaM.Wd):Array Value:=((ws ++ List.replicate (64 - ws.length) 0).map U).toArray
theorem warr_at (ws:List ShaM.Wd) (i:Nat) (h:i < ws.length):(warr ws)[i]? = some (U (ws.getD i 0)):=by
 simp only [warr,List.map_append,List.getElem?_toArray]
 rw [List.getElem?_append_left (by simpa using h)]
 simp [List.getElem?_eq_getElem h]
theorem warr_zero (ws:List ShaM.Wd) (h:ws.length < 64):(warr ws)[ws.length]? = some (U 0):=by
 simp only [warr,List.map_append,List.getElem?_toArray]
 rw [List.getElem?_append_right (by simp)]
 obtain ⟨m,hm⟩:∃ m,64 - ws.length = m + 1:=⟨64 - ws.length - 1,by omega⟩
 simp [hm]
theorem warr_put (ws:List ShaM.Wd) (x:ShaM.Wd) (h:ws.length < 64):(warr ws).setIfInBounds ws.length (U x) = warr (ws ++ [x]):=by
 apply Array.ext'
 obtain ⟨m,hm⟩:∃ m,64 - ws.length = m + 1:=⟨64 - ws.length - 1,by omega⟩
 have hm':64 - (ws ++ [x]).length = m:=by simp; omega
 simp only [warr,Array.toList_setIfInBounds,hm,hm',List.replicate_succ,List.map_append,List.map_cons,List.map_nil]
 rw [List.set_append_right _ _ (by simp)]
 simp
theorem warr_full (ws:List ShaM.Wd) (h:ws.length = 64):warr ws = (ws.map U).toArray:=by simp [warr,h]
theorem words_one (ws:List ShaM.Wd):(ws.map U).toArray.all (·.oneCell') = true:=by
 rw [Array.all_eq_true_iff_forall_mem]
 intro x hx
 simp at hx
 obtain ⟨y,_,rfl⟩:=hx
 rfl
theorem schedule_any (b off n cap:Nat) (l:List UInt8) (w:World) (hn:64 ≤ n) (hc:n ≤ cap) (hcap:cap ≤ maxLen) (hcell:∀ i,i < 64 → w.cell? ⟨b,off + i,none⟩ = some (Y (l.getD i 0))) :
  Calls Tryz.prog 250 #[.slice (some ⟨b,off,none⟩) n cap] w fun e w'=>e = .returned (.agg ((ShaM.wds l).map U).toArray) ∧ Below w.heap.size w w':=by
 unfold maxLen at hcap
 have hbw:b < w.heap.size:=World.block_lt_of_cell? w ⟨b,off + 0,none⟩ (hcell 0 (by decide))
 have HC:=Hy hcell
 clear hcell
 go_enter Tryz.func250,Tryz.ntmps250
 go_wp2
 go_loopw [5] (fun i wr=>∃ k:Nat,k ≤ 16 ∧ i = .int .i64 k ∧ Whole wr w.heap.size 248 (warr (ShaM.mws l k)) ∧ Below w.heap.size w wr) (fun i _=>16 - (intOf i).toNat)
 case atStart=>exact ⟨0,by omega,rfl,Whole.made _ _ _,(Below.refl _ _).alloc (Nat.le_refl _) _⟩
 case round=>
  obtain ⟨k,hk,rfl,hW,hB⟩:=hrel
  by_cases hlt:k < 16
  ·have HW:=Hy hW
   have HB:=Hy hB
   clear hW hB
   have c0:wr.cell? ⟨w.heap.size,k,none⟩ = some (.int .u32 0):=by
    have:=(HW.out).at_ k
    have e:=warr_zero (ShaM.mws l k) (by rw [ShaM.mws_len]; omega)
    rw [ShaM.mws_len] at e
    rw [this,e]; rfl
   have z0:=HW.out.thawed k
   have hbr:∀ i,i < 64 → wr.cell? ⟨b,off + i,none⟩ = some (Y (l.getD i 0)):=fun i hi=>(HB.out.cell (by exact hbw)).trans (HC.out i hi)
   have HR:=Hy hbr
   clear hbr
   go_wp2_with fail
   refine (word_any b (off + 4 * k) (n - 4 * k) (cap - 4 * k) (l.getD (4 * k) 0) (l.getD (4 * k + 1) 0) (l.getD (4 * k + 2) 0) (l.getD (4 * k + 3) 0) _ (by omega)
    (HR.out (4 * k) (by omega)) (HR.out (4 * k + 1) (by omega)) (HR.out (4 * k + 2) (by omega)) (HR.out (4 * k + 3) (by omega))).mono ?_
   rintro e w' ⟨rfl,q,rfl⟩
   go_wp2
   go_roundw
   case rel=>
    refine ⟨k + 1,by omega,by go_num,?_,?_⟩
    ·have e:=warr_put (ShaM.mws l k) (ShaM.mw l k) (by rw [ShaM.mws_len]; omega)
     rw [ShaM.mws_len] at e
     rw [ShaM.mws_succ,← e]
     exact (HW.out.put _ _).drewN _
    ·exact be_drewN (HB.out.setCell (Nat.le_refl _) _) _
   case measure=>simp [intOf]; omega
  ·have HK:=Hy (show k = 16 by omega)
   go_wp2
   go_loopw [4] (fun i wr=>∃ t:Nat,16 ≤ t ∧ t ≤ 64 ∧ i = .int .i64 t ∧ Whole wr w.heap.size 248 (warr (ShaM.sched (ShaM.mws l 16) (t - 16))) ∧ Below w.heap.size w wr) (fun i _=>64 - (intOf i).toNat)
   case atStart=>exact ⟨16,by omega,by omega,rfl,by rw [HK.out] at hW; exact hW,hB⟩
   case round=>
    clear hW hB
    obtain ⟨t,ht,ht',rfl,hW,hB⟩:=hrel
    have HW:=Hy hW
    have HB:=Hy hB
    clear hW hB
    by_cases hlt:t < 64
    ·have hlen:(ShaM.sched (ShaM.mws l 16) (t - 16)).length = t:=by rw [ShaM.sched_len,ShaM.mws_len]; omega
     have rd:∀ j,j < t → wr.cell? ⟨w.heap.size,j,none⟩ = some (.int .u32 (((ShaM.sched (ShaM.mws l 16) (t - 16)).getD j 0).toNat:Int)):=fun j hj=>by
      rw [HW.out.at_ j,warr_at _ _ (by rw [hlen]; exact hj)]; rfl
     have c2:=rd (t - 2) (by omega)
     have c7:=rd (t - 7) (by omega)
     have c15:=rd (t - 15) (by omega)
     have c16:=rd (t - 16) (by omega)
     have c0:wr.cell? ⟨w.heap.size,t,none⟩ = some (.int .u32 0):=by
      have e:=warr_zero (ShaM.sched (ShaM.mws l 16) (t - 16)) (by rw [hlen]; exact hlt)
      rw [hlen] at e
      rw [HW.out.at_ t,e]; rfl
     have z0:=HW.out.thawed t
     have hnew:ShaM.sched (ShaM.mws l 16) (t + 1 - 16) = ShaM.sched (ShaM.mws l 16) (t - 16) ++ [ShaM.s1 ((ShaM.sched (ShaM.mws l 16) (t - 16)).getD (t - 2) 0) + (ShaM.sched (ShaM.mws l 16) (t - 16)).getD (t - 7) 0 + ShaM.s0 ((ShaM.sched (ShaM.mws l 16) (t - 16)).getD (t - 15) 0) + (ShaM.sched (ShaM.mws l 16) (t - 16)).getD (t - 16) 0]:=by
      have e:t + 1 - 16 = (t - 16) + 1:=by omega
      rw [e,ShaM.sched,ShaM.ext,hlen]
     have HN:=Hy hnew
     have HL:=Hy hlen
     clear rd hnew hlen
     generalize (ShaM.sched (ShaM.mws l 16) (t - 16)).getD (t - 2) 0 = x2 at c2 HN
     generalize (ShaM.sched (ShaM.mws l 16) (t - 16)).getD (t - 7) 0 = x7 at c7 HN
     generalize (ShaM.sched (ShaM.mws l 16) (t - 16)).getD (t - 15) 0 = x15 at c15 HN
     generalize (ShaM.sched (ShaM.mws l 16) (t - 16)).getD (t - 16) 0 = x16 at c16 HN
     have w2:IntKind.i64.wrap ((t:Int) - 2) = (t:Int) - 2:=IntWalk.i64_in _ (by omega)
     have p2:(0:Int) ≤ (t:Int) - 2:=by omega
     have q2:(2:Int) ≤ (t:Int):=by omega
     have r2:(t:Int) - 2 < 64:=by omega
     have d2:t - 2 < t:=by omega
     have n2:((t:Int) - 2).toNat = t - 2:=by omega
     have w7:IntKind.i64.wrap ((t:Int) - 7) = (t:Int) - 7:=IntWalk.i64_in _ (by omega)
     have p7:(0:Int) ≤ (t:Int) - 7:=by omega
     have q7:(7:Int) ≤ (t:Int):=by omega
     have r7:(t:Int) - 7 < 64:=by omega
     have d7:t - 7 < t:=by omega
     have n7:((t:Int) - 7).toNat = t - 7:=by omega
     have w15:IntKind.i64.wrap ((t:Int) - 15) = (t:Int) - 15:=IntWalk.i64_in _ (by omega)
     have p15:(0:Int) ≤ (t:Int) - 15:=by omega
     have q15:(15:Int) ≤ (t:Int):=by omega
     have r15:(t:Int) - 15 < 64:=by omega
     have d15:t - 15 < t:=by omega
     have n15:((t:Int) - 15).toNat = t - 15:=by omega
     have w16:IntKind.i64.wrap ((t:Int) - 16) = (t:Int) - 16:=IntWalk.i64_in _ (by omega)
     have p16:(0:Int) ≤ (t:Int) - 16:=by omega
     have q16:(16:Int) ≤ (t:Int):=by omega
     have r16:(t:Int) - 16 < 64:=by omega
     have d16:t - 16 < t:=by omega
     have n16:((t:Int) - 16).toNat = t - 16:=by omega
     go_wp2_with fail
     go_region_held3 (fun w'=>w'.cell? ⟨w.heap.size,t - 2,none⟩ = some (.int .u32 (x2.toNat:Int)) ∧ w'.cell? ⟨w.heap.size,t - 7,none⟩ = some (.int .u32 (x7.toNat:Int)) ∧ w'.cell? ⟨w.heap.size,t - 15,none⟩ = some (.int .u32 (x15.toNat:Int)) ∧ w'.cell? ⟨w.heap.size,t - 16,none⟩ = some (.int .u32 (x16.toNat:Int)))
      (first | exact ⟨c2,c7,c15,c16⟩ | exact ⟨(World.cell?_setCell_other wr ⟨w.heap.size,t,none⟩ ⟨w.heap.size,t - 2,none⟩ _ (far_at _ _ _ d2).symm).trans c2,(World.cell?_setCell_other wr ⟨w.heap.size,t,none⟩ ⟨w.heap.size,t - 7,none⟩ _ (far_at _ _ _ d7).symm).trans c7,(World.cell?_setCell_other wr ⟨w.heap.size,t,none⟩ ⟨w.heap.size,t - 15,none⟩ _ (far_at _ _ _ d15).symm).trans c15,(World.cell?_setCell_other wr ⟨w.heap.size,t,none⟩ ⟨w.heap.size,t - 16,none⟩ _ (far_at _ _ _ d16).symm).trans c16⟩)
      (first
       | (go_at_call 285; refine (small1_any x2 _).mono ?_; rintro e w' ⟨rfl,rfl⟩)
       | (go_at_call 286; refine (small0_any x15 _).mono ?_; rintro e w' ⟨rfl,rfl⟩))
     clear w2 p2 q2 r2 n2 d2 c2 w7 p7 q7 r7 n7 d7 c7 w15 p15 q15 r15 n15 d15 c15 w16 p16 q16 r16 n16 d16 c16 c0 z0
     go_wp2
     go_roundw
     case rel=>
      refine ⟨t + 1,by omega,by omega,by go_num,?_,?_⟩
      ·have e:=warr_put (ShaM.sched (ShaM.mws l 16) (t - 16)) (ShaM.s1 x2 + x7 + ShaM.s0 x15 + x16) (by rw [HL.out]; exact hlt)
       rw [HL.out] at e
       rw [HN.out,← e,u_add_mod,u_add_mod,u_add_mod]
       exact HW.out.put _ _
      ·exact (HB.out.setCell (Nat.le_refl _) _).drew
     case measure=>simp [intOf]; omega
    ·have hW2:Whole wr w.heap.size 248 ((ShaM.wds l).map U).toArray:=by
      have e:t = 64:=by omega
      have:=HW.out
      rw [e,warr_full _ (by rw [ShaM.sched_len,ShaM.mws_len])] at this
      exact this
     have hsz:((ShaM.wds l).map U).toArray.size = 64:=by simp [ShaM.wds_len]
     have h1:((ShaM.wds l).map U).toArray.all (·.oneCell') = true:=words_one _
     clear HW
     have HB2:=Hy HB.out
     generalize hcs:((ShaM.wds l).map U).toArray = cs at hW2 hsz h1
     have HCS:=Hy hcs
     clear hcs
     have hi:(Tryz.prog.info? 248).map (·.size) = some cs.size:=by rw [hsz]; kernel_rfl
     have H1:=Hy h1
     have HS:=Hy hsz
     have HW2:=Hy hW2
     have HI:=Hy hi
     clear h1 hsz hW2 hi
     go_wp2_with (first
      | (refine wpList_load_row rfl 248 _ rfl w.heap.size rfl 248 cs (0,0) _ HW2.out Tryz.underlying248 rfl HI.out ?_)
      | (refine wpList_store_row rfl 248 _ _ rfl w.heap.size cs rfl rfl 248 cs HW2.out HI.out rfl H1.out ?_))
     refine bodyPost_ret (v:=.agg cs) ?_ ?_ ⟨by rw [HCS.out],be_setRow HB2.out (Nat.le_refl _) _⟩
     ·exact results_cell_row (p:=2) (ty:=248) rfl _ _ w.heap.size 248 cs (0,0) _ (by simp [Act.put]) (setRow_heap wr w.heap.size cs cs 248 (0,0) HW2.out) Tryz.underlying248 rfl HI.out
     ·rfl
def setSt (cs:Array Value) (s:ShaM.St):Array Value:=
 (((((((cs.setIfInBounds 0 (U s.a)).setIfInBounds 1 (U s.b)).setIfInBounds 2 (U s.c)).setIfInBounds 3 (U s.d)).setIfInBounds 4 (U s.e)).setIfInBounds 5 (U s.f)).setIfInBounds 6 (U s.g)).setIfInBounds 7 (U s.h)
theorem setSt_add (cs:Array Value) (s r:ShaM.St):setSt cs (s.add r) = (((((((cs.setIfInBounds 0 (.int .u32 ((s.a + r.a).toNat:Int))).setIfInBounds 1 (.int .u32 ((s.b + r.b).toNat:Int))).setIfInBounds 2 (.int .u32 ((s.c + r.c).toNat:Int))).setIfInBounds 3 (.int .u32 ((s.d + r.d).toNat:Int))).setIfInBounds 4 (.int .u32 ((s.e + r.e).toNat:Int))).setIfInBounds 5 (.int .u32 ((s.f + r.f).toNat:Int))).setIfInBounds 6 (.int .u32 ((s.g + r.g).toNat:Int))).setIfInBounds 7 (.int .u32 ((s.h + r.h).toNat:Int)):=rfl
structure IsSt (cs:Array Value) (s:ShaM.St):Prop where
 a:cs[0]? = some (U s.a)
 b:cs[1]? = some (U s.b)
 c:cs[2]? = some (U s.c)
 d:cs[3]? = some (U s.d)
 e:cs[4]? = some (U s.e)
 f:cs[5]? = some (U s.f)
 g:cs[6]? = some (U s.g)
 h:cs[7]? = some (U s.h)
structure Tabs (w:World):Prop where
 start:∀ i,i < 8 → w.cell? ⟨1,i,none⟩ = some (U (ShaM.H0.at i))
 roots:∀ i,i < 64 → w.cell? ⟨3,i,none⟩ = some (U (ShaM.K i))
theorem Tabs.lt1 {w:World} (h:Tabs w):1 < w.heap.size:=World.block_lt_of_cell? w _ (h.start 0 (by decide))
theorem Tabs.lt2 {w:World} (h:Tabs w):3 < w.heap.size:=World.block_lt_of_cell? w _ (h.roots 0 (by decide))
theorem Tabs.drew {w:World} (h:Tabs w):Tabs w.drew:=⟨h.start,h.roots⟩
theorem Tabs.below {w w':World} {B:Nat} (h:Tabs w) (hb:Below B w w') (h1:1 < B) (h2:3 < B):Tabs w':=
 ⟨fun i hi=>(hb.cell (by exact h1)).trans (h.start i hi),fun i hi=>(hb.cell (by exact h2)).trans (h.roots i hi)⟩
theorem Tabs.grown {w w':World} {row:Option Nat} (h:Tabs w) (hb:w.grownBy w' row) (h1:some 1 ≠ row) (h2:some 3 ≠ row):Tabs w':=
 ⟨fun i hi=>hb.cell (h.start i hi) (by exact h1),fun i hi=>hb.cell (h.roots i hi) (by exact h2)⟩
theorem rnd_t1 (r:ShaM.St) (k x:ShaM.Wd):((r.h.toNat:Int) + ((ShaM.b1 r.e).toNat:Int) + bits .xor .u32 (bits .and .u32 (r.e.toNat:Int) (r.f.toNat:Int)) (bits .and .u32 (bits .xor .u32 IntKind.u32.max (r.e.toNat:Int)) (r.g.toNat:Int)) + (k.toNat:Int) + (x.toNat:Int)) % 4294967296 = ((ShaM.t1 r k x).toNat:Int):=by
 rw [u_not,u_and,u_and,u_xor,u_sum5]; rfl
theorem rnd_t2 (r:ShaM.St):(((ShaM.b0 r.a).toNat:Int) + bits .xor .u32 (bits .xor .u32 (bits .and .u32 (r.a.toNat:Int) (r.b.toNat:Int)) (bits .and .u32 (r.a.toNat:Int) (r.c.toNat:Int))) (bits .and .u32 (r.b.toNat:Int) (r.c.toNat:Int))) % 4294967296 = ((ShaM.t2 r).toNat:Int):=by
 rw [u_and,u_and,u_and,u_xor,u_xor,u_add_mod]; rfl
theorem mix_any (b T g off n cap:Nat) (cs:Array Value) (s:ShaM.St) (l:List UInt8) (w:World) (hn:64 ≤ n) (hc:n ≤ cap) (hcap:cap ≤ maxLen) (hT:Tabs w) (hW:Whole w b T cs) (hS:IsSt cs s)
  (hcell:∀ i,i < 64 → w.cell? ⟨g,off + i,none⟩ = some (Y (l.getD i 0))) :
  Calls Tryz.prog 206 #[.pointer (some ⟨b,0,none⟩),.slice (some ⟨g,off,none⟩) n cap] w fun e w'=>e = .returned (.tuple #[]) ∧ w.grownBy w' (some b) ∧ Whole w' b T (setSt cs (ShaM.comp s l)):=by
 have HC:=Hy hcell
 have HT:=Hy hT
 have HW:=Hy hW
 have HS:=Hy hS
 have hbw:=hW.lt
 clear hcell hT hW hS
 go_enter Tryz.func206,Tryz.ntmps206
 go_wp2_with fail
 refine (schedule_any g off n cap l _ hn hc hcap HC.out).mono ?_
 rintro e w1 ⟨rfl,hB1⟩
 have HB1:=Hy hB1
 clear hB1
 have hsz:((ShaM.wds l).map U).toArray.size = 64:=by simp [ShaM.wds_len]
 have hi:(Tryz.prog.info? 248).map (·.size) = some ((ShaM.wds l).map U).toArray.size:=by rw [hsz]; kernel_rfl
 have h1:=words_one (ShaM.wds l)
 have hat:∀ k,k < 64 → ((ShaM.wds l).map U).toArray[k]? = some (U ((ShaM.wds l).getD k 0)):=fun k hk=>by
  have:=warr_at (ShaM.wds l) k (by rw [ShaM.wds_len]; exact hk)
  rwa [warr_full _ (ShaM.wds_len l)] at this
 have HI:=Hy hi
 have HZ:=Hy hsz
 have H1:=Hy h1
 have HA:=Hy hat
 clear hsz hi h1 hat
 generalize ((ShaM.wds l).map U).toArray = ws at HI HZ H1 HA ⊢
 go_wp2_with (refine wpList_store_row rfl 248 _ _ rfl w1.heap.size ws rfl rfl 248 _ (Whole.made w1 _ _) HI.out (by rw [HZ.out]; rfl) H1.out ?_)
 have hW2:Whole ((w1.alloc (.cells (Array.replicate 64 (.int .u32 0)) 248)).setRow w1.heap.size ws) w1.heap.size 248 ws:=setRow_heap _ _ _ ws _ _ (Whole.made w1 _ _)
 have hB2:Below w.heap.size w ((w1.alloc (.cells (Array.replicate 64 (.int .u32 0)) 248)).setRow w1.heap.size ws):=be_setRow (HB1.out.alloc HB1.out.size _) HB1.out.size _
 have hz2:w1.heap.size < ((w1.alloc (.cells (Array.replicate 64 (.int .u32 0)) 248)).setRow w1.heap.size ws).heap.size:=by simp
 generalize hw2:(w1.alloc _).setRow w1.heap.size ws = w2
 rw [show (w1.alloc (.cells (Array.replicate 64 (.int .u32 0)) 248)).setRow w1.heap.size ws = w2 from hw2] at hW2 hB2 hz2
 clear hw2
 have hW3:Whole w2 b T cs:=HW.out.below hB2 hbw
 have c0:w2.cell? ⟨b,0,none⟩ = some (.int .u32 (s.a.toNat:Int)):=(hW3.at_ 0).trans HS.out.a
 have c1:w2.cell? ⟨b,1,none⟩ = some (.int .u32 (s.b.toNat:Int)):=(hW3.at_ 1).trans HS.out.b
 have c2:w2.cell? ⟨b,2,none⟩ = some (.int .u32 (s.c.toNat:Int)):=(hW3.at_ 2).trans HS.out.c
 have c3:w2.cell? ⟨b,3,none⟩ = some (.int .u32 (s.d.toNat:Int)):=(hW3.at_ 3).trans HS.out.d
 have c4:w2.cell? ⟨b,4,none⟩ = some (.int .u32 (s.e.toNat:Int)):=(hW3.at_ 4).trans HS.out.e
 have c5:w2.cell? ⟨b,5,none⟩ = some (.int .u32 (s.f.toNat:Int)):=(hW3.at_ 5).trans HS.out.f
 have c6:w2.cell? ⟨b,6,none⟩ = some (.int .u32 (s.g.toNat:Int)):=(hW3.at_ 6).trans HS.out.g
 have c7:w2.cell? ⟨b,7,none⟩ = some (.int .u32 (s.h.toNat:Int)):=(hW3.at_ 7).trans HS.out.h
 have HK:Hid (∀ q,Whole (w2.drewN q) w1.heap.size 248 ws ∧ Below w.heap.size w (w2.drewN q)):=fun q=>⟨hW2,be_drewN hB2 q⟩
 have HZ2:=Hy hz2
 clear hW2 hB2 hz2 hW3
 simp only [Act.put]
 go_quiet (fail)
 revert nq
 intro q1
 go_wp2_with fail
 go_quiet (fail)
 clear c0 c1 c2 c3 c4 c5 c6 c7
 simp only [World.drewN_drewN]
 obtain ⟨hW3,hB3⟩:=HK.out (q1 + nq)
 have hz3:w1.heap.size < (w2.drewN (q1 + nq)).heap.size:=HZ2.out
 generalize w2.drewN (q1 + nq) = w3 at hW3 hB3 hz3 ⊢
 have HW3:=Hy hW3
 have HB3:=Hy hB3
 clear hW3 hB3 HK
 go_wp2_with (refine wpList_load_row rfl 248 _ rfl w1.heap.size rfl 248 ws (0,0) _ HW3.out Tryz.underlying248 rfl HI.out ?_)
 have HT3:=Hy (HT.out.below HB3.out HT.out.lt1 HT.out.lt2)
 go_loopw [5,6,7,8,9,10,11,12,52] (fun xa xb xc xd xe xf xg xh i wr=>∃ k:Nat,k ≤ 64 ∧ i = .int .i64 k ∧ xa = .int .u32 ((ShaM.rounds (ShaM.wds l) k s).a.toNat:Int) ∧ xb = .int .u32 ((ShaM.rounds (ShaM.wds l) k s).b.toNat:Int) ∧
   xc = .int .u32 ((ShaM.rounds (ShaM.wds l) k s).c.toNat:Int) ∧ xd = .int .u32 ((ShaM.rounds (ShaM.wds l) k s).d.toNat:Int) ∧ xe = .int .u32 ((ShaM.rounds (ShaM.wds l) k s).e.toNat:Int) ∧ xf = .int .u32 ((ShaM.rounds (ShaM.wds l) k s).f.toNat:Int) ∧
   xg = .int .u32 ((ShaM.rounds (ShaM.wds l) k s).g.toNat:Int) ∧ xh = .int .u32 ((ShaM.rounds (ShaM.wds l) k s).h.toNat:Int) ∧ Below w3.heap.size w3 wr) (fun _ _ _ _ _ _ _ _ i _=>64 - (intOf i).toNat)
 case atStart=>exact ⟨0,by omega,rfl,rfl,rfl,rfl,rfl,rfl,rfl,rfl,rfl,Below.refl _ _⟩
 case round=>
  obtain ⟨k,hk,rfl,rfl,rfl,rfl,rfl,rfl,rfl,rfl,rfl,hB⟩:=hrel
  have HB:=Hy hB
  clear hB
  by_cases hlt:k < 64
  ·have HR:Hid (ShaM.rounds (ShaM.wds l) (k + 1) s = ShaM.rnd (ShaM.rounds (ShaM.wds l) k s) (ShaM.K k) ((ShaM.wds l).getD k 0)):=rfl
   have hidx:=run_index_one 248 199 64 ws k _ _ Tryz.underlying248 Tryz.underlying199 rfl (by kernel_rfl) hlt (HA.out k hlt)
   have hroot:wr.cell? ⟨3,k,none⟩ = some (.int .u32 ((ShaM.K k).toNat:Int)):=(HB.out.cell (by exact HT3.out.lt2)).trans (HT3.out.roots k hlt)
   generalize ShaM.rounds (ShaM.wds l) k s = r at HR ⊢
   generalize (ShaM.wds l).getD k 0 = x at HR hidx
   generalize ShaM.K k = kc at HR hroot
   unfold U at hidx
   go_wp2_with fail
   go_quiet ((go_at_call 251; exact q_left (big1_any _ _)))
   go_wp2_with fail
   refine (big0_any _ _).mono ?_
   rintro e w4 ⟨rfl,rfl⟩
   go_wp2
   go_roundw
   case rel=>
    refine ⟨k + 1,by omega,by go_num,?_,?_,?_,?_,?_,?_,?_,?_,be_drewN HB.out _⟩
    ·rw [HR.out,rnd_t1,rnd_t2,u_add_mod]; rfl
    ·rw [HR.out]; rfl
    ·rw [HR.out]; rfl
    ·rw [HR.out]; rfl
    ·rw [HR.out,rnd_t1,u_add_mod]; rfl
    ·rw [HR.out]; rfl
    ·rw [HR.out]; rfl
    ·rw [HR.out]; rfl
   case measure=>simp [intOf]; omega
  ·have hk64:k = 64:=by omega
   have HF:Hid (ShaM.comp s l = s.add (ShaM.rounds (ShaM.wds l) k s)):=by rw [hk64]; rfl
   have hW4:Whole wr b T cs:=(HW.out.below HB3.out hbw).below HB.out (Nat.lt_of_lt_of_le hbw HB3.out.size)
   have hB4:Below w.heap.size w wr:=HB3.out.trans (HB.out.mono HB3.out.size)
   clear hk64
   generalize ShaM.rounds (ShaM.wds l) k s = r at HF ⊢
   have c0:wr.cell? ⟨b,0,none⟩ = some (.int .u32 (s.a.toNat:Int)):=(hW4.at_ 0).trans HS.out.a
   have c1:wr.cell? ⟨b,1,none⟩ = some (.int .u32 (s.b.toNat:Int)):=(hW4.at_ 1).trans HS.out.b
   have c2:wr.cell? ⟨b,2,none⟩ = some (.int .u32 (s.c.toNat:Int)):=(hW4.at_ 2).trans HS.out.c
   have c3:wr.cell? ⟨b,3,none⟩ = some (.int .u32 (s.d.toNat:Int)):=(hW4.at_ 3).trans HS.out.d
   have c4:wr.cell? ⟨b,4,none⟩ = some (.int .u32 (s.e.toNat:Int)):=(hW4.at_ 4).trans HS.out.e
   have c5:wr.cell? ⟨b,5,none⟩ = some (.int .u32 (s.f.toNat:Int)):=(hW4.at_ 5).trans HS.out.f
   have c6:wr.cell? ⟨b,6,none⟩ = some (.int .u32 (s.g.toNat:Int)):=(hW4.at_ 6).trans HS.out.g
   have c7:wr.cell? ⟨b,7,none⟩ = some (.int .u32 (s.h.toNat:Int)):=(hW4.at_ 7).trans HS.out.h
   have z0:=hW4.thawed 0
   have z1:=hW4.thawed 1
   have z2:=hW4.thawed 2
   have z3:=hW4.thawed 3
   have z4:=hW4.thawed 4
   have z5:=hW4.thawed 5
   have z6:=hW4.thawed 6
   have z7:=hW4.thawed 7
   have HW4:=Hy hW4
   have HB4:=Hy hB4
   clear hW4 hB4
   go_wp2
   go_region
   go_wp2
   go_region
   go_wp2
   go_region
   go_wp2
   go_region
   go_wp2
   go_region
   go_wp2
   go_region
   go_wp2
   go_region
   go_wp2
   go_region
   go_wp2
   refine bodyPost_end (results_none rfl _ _ _) rfl ⟨rfl,?_,?_⟩
   ·iterate 8 refine gr_drew ?_
    iterate 8 refine gr_set ?_ (.inl rfl) _
    exact gr_below (gr_refl _ _) HB4.out
   ·rw [HF.out,u_add_mod,u_add_mod,u_add_mod,u_add_mod,u_add_mod,u_add_mod,u_add_mod,u_add_mod]
    rw [setSt_add]
    iterate 8 refine Whole.drew ?_
    iterate 8 refine Whole.put ?_ _ _
    exact HW4.out
def stl (s:ShaM.St):List Value:=[U s.a,U s.b,U s.c,U s.d,U s.e,U s.f,U s.g,U s.h]
def hl (s:ShaM.St) (pt:List UInt8) (n:Nat):List Value:=stl s ++ (pt.map Y ++ [.int .u64 (n:Int)])
theorem stl_len (s:ShaM.St):(stl s).length = 8:=rfl
theorem hl_len (s:ShaM.St) (pt:List UInt8) (n:Nat) (h:pt.length = 64):(hl s pt n).length = 73:=by simp [hl,stl,h]
theorem hl_size (s:ShaM.St) (pt:List UInt8) (n:Nat) (h:pt.length = 64):(hl s pt n).toArray.size = 73:=by simp [hl_len s pt n h]
theorem hl_isSt (s:ShaM.St) (pt:List UInt8) (n:Nat):IsSt (hl s pt n).toArray s:=⟨rfl,rfl,rfl,rfl,rfl,rfl,rfl,rfl⟩
theorem hl_part (s:ShaM.St) (pt:List UInt8) (n i:Nat) (h:i < pt.length):(hl s pt n).toArray[8 + i]? = some (Y (pt.getD i 0)):=by
 simp only [hl,List.getElem?_toArray]
 rw [List.getElem?_append_right (by rw [stl_len]; omega),stl_len,show 8 + i - 8 = i by omega,List.getElem?_append_left (by simpa using h)]
 simp [List.getElem?_eq_getElem h]
theorem hl_sz (s:ShaM.St) (pt:List UInt8) (n:Nat) (h:pt.length = 64):(hl s pt n).toArray[72]? = some (.int .u64 (n:Int)):=by
 simp only [hl,List.getElem?_toArray]
 rw [List.getElem?_append_right (by rw [stl_len]; omega),stl_len,List.getElem?_append_right (by simp [h])]
 simp [h]
theorem hl_set (s s':ShaM.St) (pt:List UInt8) (n:Nat):setSt (hl s pt n).toArray s' = (hl s' pt n).toArray:=by
 simp [setSt,hl,stl]
theorem hl_resize (s:ShaM.St) (pt:List UInt8) (n m:Nat) (h:pt.length = 64):(hl s pt n).toArray.setIfInBounds 72 (.int .u64 (m:Int)) = (hl s pt m).toArray:=by
 apply Array.ext'
 simp only [hl,Array.toList_setIfInBounds]
 rw [List.set_append_right _ _ (by rw [stl_len]; omega),stl_len,List.set_append_right _ _ (by simp [h])]
 simp [h]
def lay (pt:List UInt8) (k:Nat) (bs:List UInt8):List UInt8:=pt.take k ++ (bs ++ pt.drop (k + bs.length))
theorem lay_len (pt:List UInt8) (k:Nat) (bs:List UInt8) (h:k + bs.length ≤ pt.length):(lay pt k bs).length = pt.length:=by simp [lay]; omega
theorem lay_take (pt:List UInt8) (k:Nat) (bs:List UInt8) (h:k + bs.length ≤ pt.length):(lay pt k bs).take (k + bs.length) = pt.take k ++ bs:=by
 simp only [lay]
 rw [← List.append_assoc,List.take_append_of_le_length (by simp; omega),List.take_of_length_le (by simp; omega)]
theorem hl_splice (s:ShaM.St) (pt:List UInt8) (n k:Nat) (bs:List UInt8) (h:k + bs.length ≤ pt.length):splice (hl s pt n) (8 + k) (bs.map Y) = hl s (lay pt k bs) n:=by
 simp only [splice,hl,lay,List.length_map]
 have e1:List.take (8 + k) (stl s ++ (pt.map Y ++ [Value.int .u64 (n:Int)])) = stl s ++ (pt.take k).map Y:=by
  rw [List.take_append,stl_len,List.take_of_length_le (by rw [stl_len]; omega),show 8 + k - 8 = k by omega,List.take_append_of_le_length (by simp; omega),List.map_take]
 have e2:List.drop (8 + k + bs.length) (stl s ++ (pt.map Y ++ [Value.int .u64 (n:Int)])) = (pt.drop (k + bs.length)).map Y ++ [Value.int .u64 (n:Int)]:=by
  rw [List.drop_append,stl_len,List.drop_of_length_le (by rw [stl_len]; omega),show 8 + k + bs.length - 8 = k + bs.length by omega,List.drop_append_of_le_length (by simp; omega),List.map_drop]
  rfl
 rw [e1,e2]
 simp
theorem hl_state (s s':ShaM.St) (pt:List UInt8) (n:Nat):splice (hl s pt n) 0 (stl s') = hl s' pt n:=by simp [splice,hl,stl]
theorem hl_one (s:ShaM.St) (pt:List UInt8) (n:Nat):(hl s pt n).toArray.all (·.oneCell') = true:=by
 rw [Array.all_eq_true_iff_forall_mem]
 intro x hx
 simp only [hl,stl,List.mem_toArray,List.mem_append,List.mem_cons,List.mem_map,List.not_mem_nil,or_false] at hx
 rcases hx with hx | ⟨_,_,rfl⟩ | rfl
 ·rcases hx with rfl | rfl | rfl | rfl | rfl | rfl | rfl | rfl <;> rfl
 ·rfl
 ·rfl
theorem ys_one (bs:List UInt8):∀ v ∈ bs.map Y,v.oneCell' = true:=by
 intro v hv
 obtain ⟨_,_,rfl⟩:=List.mem_map.1 hv
 rfl
def HashAt (w:World) (b T:Nat) (X:List UInt8):Prop:=
 ∃ s pt,pt.length = 64 ∧ Whole w b T (hl s pt X.length).toArray ∧ (X ≠ [] → s = ShaM.stOf X) ∧ pt.take (X.length % 64) = ShaM.tl X
theorem HashAt.lt {w:World} {b T:Nat} {X:List UInt8} (h:HashAt w b T X):b < w.heap.size:=by
 obtain ⟨_,_,_,h,_⟩:=h; exact h.lt
theorem HashAt.below {w w':World} {b T B:Nat} {X:List UInt8} (h:HashAt w b T X) (hb:Below B w w') (hB:b < B):HashAt w' b T X:=by
 obtain ⟨s,pt,h1,h2,h3⟩:=h
 exact ⟨s,pt,h1,h2.below hb hB,h3⟩
theorem Whole.cells {g t:Nat}:∀ (vs:List Value) (o:Nat) (cs:List Value) (w:World),Whole w g t cs.toArray → o + vs.length ≤ cs.length → Whole (w.setCells g o vs) g t (splice cs o vs).toArray
 | [],o,cs,w,h,_=>by simpa [splice,World.setCells] using h
 | v :: r,o,cs,w,h,hl=>by
  have h1:=h.put o v
  have e:cs.toArray.setIfInBounds o v = (cs.set o v).toArray:=by simp
  rw [e] at h1
  have h2:=Whole.cells r (o + 1) (cs.set o v) _ h1 (by simp at hl ⊢; omega)
  have e2:splice (cs.set o v) (o + 1) r = splice cs o (v :: r):=by
   simp only [List.length_cons] at hl
   simp only [splice,List.length_cons]
   rw [List.take_set,List.take_succ_eq_append_getElem (by omega),List.drop_set_of_lt (by omega),show o + 1 + r.length = o + (r.length + 1) by omega,
    List.set_append_right _ _ (by simp; omega)]
   simp
   congr 1
   rw [show o - min o cs.length = 0 by omega]
   rfl
  rw [e2] at h2
  exact h2
theorem gr_cells {a:World} {g:Nat}:∀ (vs:List Value) (o:Nat) (w:World),a.grownBy w (some g) → a.grownBy (w.setCells g o vs) (some g)
 | [],_,_,h=>h
 | v :: r,o,_,h=>gr_cells r (o + 1) _ (gr_set h (.inl rfl) v)
theorem gr_row {a w:World} {g:Nat} (h:a.grownBy w (some g)) (cs:Array Value):a.grownBy (w.setRow g cs) (some g):=
 ⟨h.os,h.tape,h.output,by simpa using h.size,fun i hi hn=>(setRow_other w g i cs (fun e=>hn (by rw [e]))).trans (h.block i hi hn)⟩
theorem wpList_copy_whole {P:Program} {w:World} {ops:Array Oper} {rest:List Oper} {o:Oper} {a:Act} {Q:Exit → Act → World → Prop} (hgd:o.guard = none) (d s:Operand) (dT sT:TypeId)
  (ho:o.op = .call { callee:=.builtin .copy,args:=#[d,s],argTypes:=#[dT,sT] }) (elem:TypeId) (hu:P.underlying dT = some (.slice elem)) (hsz:(P.info? elem).map (·.size) = some 1)
  (sp:Option Addr) (dLen dCap sLen sCap:Nat) (g off:Nat) (hd:a.eval d = .slice (some ⟨g,off,none⟩) dLen dCap) (hs:a.eval s = .slice sp sLen sCap)
  (cur:List Value) (t:TypeId) (hg:Whole w g t cur.toArray) (cs:List Value) (hn:cs.length = Nat.min sLen dLen)
  (hpos:0 < cs.length → ∃ ad,sp = some ad ∧ ∀ j v,cs[j]? = some v → w.cell? (ad.add j) = some v)
  (hfit:off + cs.length ≤ cur.length) (h1:∀ v ∈ cs,v.oneCell' = true)
  (h:∀ w',Whole w' g t (splice cur off cs).toArray → w.grownBy w' (some g) → wpList P ops Q rest (a.put o.dst (goInt cs.length)) w'):wpList P ops Q (o :: rest) a w:=by
 by_cases h0:cs.length = 0
 ·obtain rfl:cs = []:=List.eq_nil_of_length_eq_zero h0
  exact wpList_copy_nothing hgd d s dT sT ho elem hu hsz _ sp dLen dCap sLen sCap hd hs (by simpa using hn.symm) (h w (by simpa [splice] using hg) (gr_refl _ _))
 ·obtain ⟨ad,rfl,hsrc⟩:=hpos (by omega)
  refine wpList_copy_own hgd d s dT sT ho elem hu hsz g off dLen dCap ad sLen sCap hd hs cur.toArray t hg cs hn hsrc (by simpa using hfit) h1 (h _ ?_ (gr_row (gr_refl _ _) _))
  have:=setRow_heap w g cur.toArray (cur.take off ++ (cs ++ cur.drop (off + cs.length))).toArray t _ hg
  simpa [Whole,splice] using this
end Go.Proofs.YtlfmooihcigolaaGreatDoor

/-
  DelN, GuaA, VarA, ShaM, ShaA.
-/
import Derived.Test.YtlfmooihcigolaaGreatDoorMac
import Derived.Handy
import Derived.Defers
import Derived.Recover
import Derived.Laws.Bits128
import Derived.Laws.BitsLemmas
import Derived.RegionTactic
import Derived.BigRegion
set_option maxRecDepth 100000
set_option maxHeartbeats 8000000
namespace Go.Proofs.YtlfmooihcigolaaGreatDoor
open Go.RowKit
def insV (t:List UInt8):List Ct:=if _h:t = [] then [] else ⟨t.take 100,0,0⟩ :: insV (t.drop 100)
termination_by t.length
decreasing_by
 have:=List.length_pos_iff.2 _h
 rw [List.length_drop]
 omega
theorem insV_nil:insV [] = []:=by rw [insV,dif_pos rfl]
theorem insV_cons (t:List UInt8) (h:t ≠ []):insV t = ⟨t.take 100,0,0⟩ :: insV (t.drop 100):=by rw [insV,dif_neg h]
def costC (cs:List Ct):Nat:=(cs.flatMap bytesK).length
theorem costC_append (a b:List Ct):costC (a ++ b) = costC a + costC b:=by simp [costC]
theorem costC_cons (c:Ct) (cs:List Ct):costC (c :: cs) = (bytesK c).length + costC cs:=by simp [costC]
theorem insV_all (base:Nat) (b:List UInt8):∀ (n:Nat) (t:List UInt8),t.length = n → (∀ c ∈ insV t,okC base c) ∧ applyC b (insV t) = t ∧ costC (insV t) = t.length + (t.length + 99) / 100 ∧ (insV t).length ≤ t.length:=by
 intro n
 induction n using Nat.strongRecOn with
 | ind n ih=>
  intro t ht
  by_cases h:t = []
  ·subst h
   rw [insV_nil]
   exact ⟨by simp,rfl,by simp [costC],Nat.le_refl _⟩
  ·have hp:=List.length_pos_iff.2 h
   obtain ⟨h1,h2,h3,h4⟩:=ih (t.drop 100).length (by rw [List.length_drop]; omega) (t.drop 100) rfl
   rw [insV_cons t h]
   have hl:(t.take 100).length = min 100 t.length:=List.length_take
   refine ⟨?_,?_,?_,?_⟩
   ·intro c hc
    rcases List.mem_cons.1 hc with rfl | hc
    ·exact .inl ⟨rfl,rfl,by show 1 ≤ (t.take 100).length; omega,by show (t.take 100).length ≤ 100; omega⟩
    ·exact h1 c hc
   ·rw [show applyC b (⟨t.take 100,0,0⟩ :: insV (t.drop 100)) = cutV b ⟨t.take 100,0,0⟩ ++ applyC b (insV (t.drop 100)) from rfl,h2]
    show t.take 100 ++ (b.drop 0).take 0 ++ t.drop 100 = t
    rw [List.take_zero,List.append_nil,List.take_append_drop]
   ·rw [costC_cons,h3,bytesK_ins rfl,List.length_cons,List.length_drop]
    show (t.take 100).length + 1 + _ = _
    omega
   ·rw [List.length_cons]
    rw [List.length_drop] at h4
    omega
structure CutTo (b t:List UInt8) (done:Nat) (cs:List Ct):Prop where
 ok:∀ c ∈ cs,okC b.length c
 made:applyC b cs = t.take done
 cost:costC cs ≤ done + done / 100
 le:done ≤ t.length
 few:cs.length ≤ done
theorem CutTo.zero (b t:List UInt8):CutTo b t 0 []:=⟨by simp,by simp [applyC],by simp [costC],Nat.zero_le _,Nat.le_refl _⟩
def alikeV:List UInt8 → List UInt8 → Nat
 | x :: a,y :: b=>if x = y then alikeV a b + 1 else 0
 | _,_=>0
theorem alikeV_spec:∀ (a b:List UInt8),alikeV a b ≤ a.length ∧ alikeV a b ≤ b.length ∧ a.take (alikeV a b) = b.take (alikeV a b)
 | [],b=>by simp [alikeV]
 | x :: a,[]=>by simp [alikeV]
 | x :: a,y :: b=>by
  obtain ⟨h1,h2,h3⟩:=alikeV_spec a b
  unfold alikeV
  by_cases h:x = y
  ·rw [if_pos h]
   subst h
   refine ⟨by simp; omega,by simp; omega,?_⟩
   rw [List.take_succ_cons,List.take_succ_cons,h3]
  ·rw [if_neg h]
   simp
theorem alikeV_ge:∀ (n:Nat) (a b:List UInt8),n ≤ a.length → n ≤ b.length → a.take n = b.take n → n ≤ alikeV a b
 | 0,_,_,_,_,_=>Nat.zero_le _
 | n + 1,[],_,h,_,_=>by simp at h
 | n + 1,_ :: _,[],_,h,_=>by simp at h
 | n + 1,x :: a,y :: b,h1,h2,h=>by
  rw [List.take_succ_cons,List.take_succ_cons] at h
  injection h with e1 e2
  have:=alikeV_ge n a b (by simpa using h1) (by simpa using h2) e2
  unfold alikeV
  rw [if_pos e1]
  omega
theorem CutTo.step {b t:List UInt8} {done at_ frm:Nat} {cs:List Ct} (h:CutTo b t done cs) (hd:done ≤ at_) (ha:at_ + 8 ≤ t.length) (hf:frm ≤ 100000) (hfb:frm + 8 ≤ b.length) (h8:(b.drop frm).take 8 = (t.drop at_).take 8) (ht:t.length ≤ 100000) :
  8 ≤ alikeV (b.drop frm) (t.drop at_) ∧ at_ + alikeV (b.drop frm) (t.drop at_) ≤ t.length ∧ CutTo b t (at_ + alikeV (b.drop frm) (t.drop at_)) (cs ++ insV ((t.take at_).drop done) ++ [⟨[],frm,alikeV (b.drop frm) (t.drop at_)⟩]):=by
 obtain ⟨s1,s2,s3⟩:=alikeV_spec (b.drop frm) (t.drop at_)
 have hge:=alikeV_ge 8 (b.drop frm) (t.drop at_) (by rw [List.length_drop]; omega) (by rw [List.length_drop]; omega) h8
 generalize alikeV (b.drop frm) (t.drop at_) = n at *
 rw [List.length_drop] at s1 s2
 obtain ⟨i1,i2,i3,i4⟩:=insV_all b.length b _ ((t.take at_).drop done) rfl
 have hil:((t.take at_).drop done).length = at_ - done:=by rw [List.length_drop,List.length_take]; omega
 rw [hil] at i3 i4
 have hok:okC b.length ⟨[],frm,n⟩:=.inr ⟨rfl,hf,by show 1 ≤ n; omega,by show n ≤ 100000; omega,by show frm + n ≤ b.length; omega⟩
 have hcost:=bytesK_cost hok (fun _=>hge)
 rw [if_neg (show ¬ n = 0 by omega),if_neg (show ¬ n = 0 by omega)] at hcost
 have hmk:mkC ⟨[],frm,n⟩ = n:=by simp [mkC]
 rw [hmk] at hcost
 refine ⟨hge,by omega,⟨?_,?_,?_,by omega,?_⟩⟩
 ·intro c hc
  rcases List.mem_append.1 hc with hc | hc
  ·rcases List.mem_append.1 hc with hc | hc
   ·exact h.ok c hc
   ·exact i1 c hc
  ·rw [List.mem_singleton] at hc
   subst hc
   exact hok
 ·rw [applyC_append,applyC_append,h.made,i2,applyC_one]
  show t.take done ++ (t.take at_).drop done ++ ([] ++ (b.drop frm).take n) = t.take (at_ + n)
  rw [List.nil_append,s3,List.take_add]
  congr 1
  have e1:t.take done = (t.take at_).take done:=by rw [List.take_take,Nat.min_eq_left hd]
  rw [e1,List.take_append_drop]
 ·have hc:=h.cost
  have h1:costC [⟨[],frm,n⟩] = (bytesK ⟨[],frm,n⟩).length:=by simp [costC]
  rw [costC_append,costC_append,i3,h1]
  omega
 ·have hf:=h.few
  rw [List.length_append,List.length_append,List.length_singleton]
  omega
theorem CutTo.last {b t:List UInt8} {done:Nat} {cs:List Ct} (h:CutTo b t done cs) :
  (∀ c ∈ cs ++ insV (t.drop done),okC b.length c) ∧ applyC b (cs ++ insV (t.drop done)) = t ∧ costC (cs ++ insV (t.drop done)) ≤ t.length + t.length / 100 + 1 ∧ (cs ++ insV (t.drop done)).length ≤ t.length:=by
 obtain ⟨i1,i2,i3,i4⟩:=insV_all b.length b _ (t.drop done) rfl
 have hl:=h.le
 rw [List.length_drop] at i3 i4
 refine ⟨?_,?_,?_,?_⟩
 ·intro c hc
  rcases List.mem_append.1 hc with hc | hc
  ·exact h.ok c hc
  ·exact i1 c hc
 ·rw [applyC_append,h.made,i2,List.take_append_drop]
 ·have:=h.cost
  rw [costC_append,i3]
  omega
 ·have:=h.few
  rw [List.length_append]
  omega
def fault (c:Int):List PanicEntry:=[{ v:=.iface 196 (.agg #[.int .i64 c]),recovered:=false }]
theorem fail_any (c:Int) (w:World):Calls Tryz.prog 134 #[.int .i64 c] w fun e w'=>e = .panicked (fault c) ∧ w = w':=by
 go_enter Tryz.func134,Tryz.ntmps134
 go_wp2
 exact ⟨rfl,rfl,rfl⟩
theorem must_yes (c:Int) (w:World):Calls Tryz.prog 78 #[.bool true,.int .i64 c] w fun e w'=>e = .returned (.tuple #[]) ∧ w = w':=by
 go_enter Tryz.func78,Tryz.ntmps78
 go_wp2
 exact bodyPost_end (results_none rfl _ _ _) rfl ⟨rfl,rfl⟩
theorem must_no (c:Int) (w:World):Calls Tryz.prog 78 #[.bool false,.int .i64 c] w fun e w'=>e = .panicked (fault c) ∧ w = w':=by
 go_enter Tryz.func78,Tryz.ntmps78
 go_wp2_with (go_at_call 134; refine (fail_any _ _).mono ?_; rintro e w' ⟨rfl,rfl⟩)
 exact ⟨rfl,rfl,rfl⟩
theorem assert_fault (c:Int) (w:World):(Instr.typeAssert (.iface 196 (.agg #[.int .i64 c])) 20 196 true).run Tryz.prog w = .ok (.tuple #[.agg #[.int .i64 c],.bool true]) w:=by kernel_rfl
theorem assert_other (v:Int) (w:World):(Instr.typeAssert (.iface 3 (.int .i64 v)) 20 196 true).run Tryz.prog w = .ok (.tuple #[.agg #[.int .i64 0],.bool false]) w:=by kernel_rfl
theorem code_fault (c:Int) (w:World):Calls Tryz.prog 75 #[.iface 196 (.agg #[.int .i64 c])] w fun e w'=>e = .returned (.int .i64 c) ∧ Below w.heap.size w w':=by
 have h1:=assert_fault
 have h2:=assert_other
 go_enter Tryz.func75,Tryz.ntmps75
 go_wp2
 go_ret
 exact ⟨rfl,(Below.refl _ _).alloc (Nat.le_refl _) _⟩
theorem catch_fault (p:Addr) (x:Value) (c:Int) (older:List PanicEntry) (w:World) (hc:w.cell? p = some x) (hz:w.frozen? p = false) :
  CallsD Tryz.prog 74 #[.pointer (some p)] (.panicking ({ v:=.iface 196 (.agg #[.int .i64 c]),recovered:=false } :: older)) w fun e u' w'=>
   e = .returned (.tuple #[]) ∧ u' = .panicking ({ v:=.iface 196 (.agg #[.int .i64 c]),recovered:=true } :: older) ∧ ∃ w1,Below w.heap.size w w1 ∧ w' = w1.setCell p (.int .i64 c):=by
 refine callsD_of_wpS Tryz.func74 rfl fun c₀ cs hu=>?_
 apply wpS_seq
 apply wpS_region
 simp [wpOpsS,go_sem,recoverD,hu,Tryz.ntmps74,Exit.thenS]
 refine wpS_of_wp ?_
 have hfr:(#[Value.pointer (some p)] ++ ((Array.replicate 6 undef).setIfInBounds 1 (Value.iface 196 (Value.agg #[Value.int .i64 c]))).setIfInBounds 0 (Value.iface 196 (Value.agg #[Value.int .i64 c]))) =
  #[Value.pointer (some p),Value.iface 196 (Value.agg #[Value.int .i64 c]),Value.iface 196 (Value.agg #[Value.int .i64 c]),undef,undef,undef,undef]:=by rfl
 rw [hfr]
 clear hfr
 go_wp2_with (go_at_call 75; refine (code_fault _ _).mono ?_; rintro e w1 ⟨rfl,hB⟩; have hc1:=(hB.cell (World.block_lt_of_cell? w p hc)).trans hc; have hz1:=(hB.frozen (World.block_lt_of_cell? w p hc)).trans hz)
 exact ⟨rfl,_,rfl,_,results_none rfl _ _ _,rfl,rfl,w1,hB,rfl⟩
theorem catch_idle (p:Addr) (w:World) :
  CallsD Tryz.prog 74 #[.pointer (some p)] .returning w fun e u' w'=>e = .returned (.tuple #[]) ∧ u' = .returning ∧ w' = w:=by
 refine callsD_of_wpS Tryz.func74 rfl fun c₀ cs hu=>?_
 apply wpS_seq
 apply wpS_region
 simp [wpOpsS,go_sem,recoverD,hu,Tryz.ntmps74,Exit.thenS]
 refine wpS_of_wp ?_
 have hfr:(#[Value.pointer (some p)] ++ ((Array.replicate 6 undef).setIfInBounds 1 Value.nilIface).setIfInBounds 0 Value.nilIface) = #[Value.pointer (some p),Value.nilIface,Value.nilIface,undef,undef,undef,undef]:=by rfl
 rw [hfr]
 clear hfr
 go_wp2
 exact ⟨rfl,.returning,by rw [← hu],_,results_none rfl _ _ _,rfl,rfl,rfl⟩
theorem fn_nil (G:Nat) (caps:Array Value) (W:World):(binOp .eql 1 (.func (.func G) #[] caps) .nilFunc).run Tryz.prog W = .ok (.bool false) W:=by kernel_rfl
theorem do_ret (G:Nat) (caps:Array Value) (w:World) (P:World → Prop) (he:∀ W,(callFunc G caps).run Tryz.prog W = .ok (.enter G caps) W)
  (hP:∀ w',P w' → ∃ x,w'.cell? ⟨w.heap.size,0,none⟩ = some (.int .i64 x) ∧ w'.frozen? ⟨w.heap.size,0,none⟩ = false)
  (h:Calls Tryz.prog G caps (w.alloc (.cells #[.int .i64 0] 25)) fun e w'=>e = .returned (.tuple #[]) ∧ P w') :
  Calls Tryz.prog 33 #[.func (.func G) #[] caps] w fun e w'=>e = .returned (.int .i64 0) ∧ ∃ w1,P w1 ∧ w' = w1.setCell ⟨w.heap.size,0,none⟩ (.int .i64 0):=by
 have hmf:∀ (fn:Fn) (first cap:Array Value) (w:World),(Instr.makeFunc fn first cap).run Tryz.prog w = .ok (.func fn first cap) w:=fun _ _ _ _=>rfl
 have hnil:=fn_nil G caps
 have H:=Hy h
 have HP:=Hy hP
 clear h hP
 go_enter_defers Tryz.func33,Tryz.ntmps33
 go_wp2_with fail
 refine H.out.mono ?_
 rintro e w1 ⟨rfl,hP1⟩
 obtain ⟨x,hc,hz⟩:=HP.out _ hP1
 have HP1:=Hy hP1
 clear hP1
 go_wp2
 refine leaves_cons (f:=74) (args:=#[.pointer (some ⟨w.heap.size,0,none⟩)]) (by simp) (by simp [go_sem]) ?_
 refine (catch_idle ⟨w.heap.size,0,none⟩ _).mono ?_
 rintro e u' w'' ⟨rfl,rfl,rfl⟩
 have hcs:=World.cell?_setCell_same w1 ⟨w.heap.size,0,none⟩ (.int .i64 0) hc
 simp [Leaves,settle,results,Tryz.results33,go_sem,hcs]
 exact ⟨w1,HP1.out,rfl⟩
theorem do_fault (G:Nat) (caps:Array Value) (w:World) (c:Int) (P:World → Prop) (he:∀ W,(callFunc G caps).run Tryz.prog W = .ok (.enter G caps) W)
  (hP:∀ w',P w' → ∃ x,w'.cell? ⟨w.heap.size,0,none⟩ = some (.int .i64 x) ∧ w'.frozen? ⟨w.heap.size,0,none⟩ = false)
  (h:Calls Tryz.prog G caps (w.alloc (.cells #[.int .i64 0] 25)) fun e w'=>e = .panicked (fault c) ∧ P w') :
  Calls Tryz.prog 33 #[.func (.func G) #[] caps] w fun e w'=>e = .returned (.int .i64 c) ∧ ∃ w1 w2,P w1 ∧ Below w1.heap.size w1 w2 ∧ w' = w2.setCell ⟨w.heap.size,0,none⟩ (.int .i64 c):=by
 have hmf:∀ (fn:Fn) (first cap:Array Value) (w:World),(Instr.makeFunc fn first cap).run Tryz.prog w = .ok (.func fn first cap) w:=fun _ _ _ _=>rfl
 have hnil:=fn_nil G caps
 have H:=Hy h
 have HP:=Hy hP
 clear h hP
 go_enter_defers Tryz.func33,Tryz.ntmps33
 go_wp2_with fail
 refine H.out.mono ?_
 rintro e w1 ⟨rfl,hP1⟩
 obtain ⟨x,hc,hz⟩:=HP.out _ hP1
 have HP1:=Hy hP1
 clear hP1
 refine leaves_cons (f:=74) (args:=#[.pointer (some ⟨w.heap.size,0,none⟩)]) (by simp) (by simp [go_sem]) ?_
 refine (catch_fault ⟨w.heap.size,0,none⟩ (.int .i64 x) c [] _ hc hz).mono ?_
 rintro e u' w'' ⟨rfl,rfl,w2,hB2,rfl⟩
 have hc2:w2.cell? ⟨w.heap.size,0,none⟩ = some (.int .i64 x):=(hB2.cell (World.block_lt_of_cell? w1 _ hc)).trans hc
 have hcs:=World.cell?_setCell_same w2 ⟨w.heap.size,0,none⟩ (.int .i64 c) hc2
 simp [Leaves,settle,results,Tryz.results33,go_sem,hcs]
 exact ⟨w1,HP1.out,w2,hB2,rfl⟩
theorem vmay_any (n:Int) (w:World):Calls Tryz.prog 70 #[.int .i64 n] w fun e w'=>e = .returned (.bool (decide (0 ≤ n) && decide (n ≤ 1000000))) ∧ w = w':=by
 go_enter Tryz.func70,Tryz.ntmps70
 cases h:decide (0 ≤ n)
 all_goals
  go_wp2
  go_ret
  exact ⟨by simp,rfl⟩
theorem vmay_in (n:Nat) (h:n ≤ 1000000) (w:World):Calls Tryz.prog 70 #[.int .i64 (n:Int)] w fun e w'=>e = .returned (.bool true) ∧ w = w':=by
 have:=vmay_any (n:Int) w
 rw [decide_eq_true (by omega:(0:Int) ≤ n),decide_eq_true (by omega:(n:Int) ≤ 1000000)] at this
 exact this
theorem vlow7_any (n:Int) (w:World):Calls Tryz.prog 72 #[.int .i64 n,.int .i64 7] w fun e w'=>e = .returned (.int .i64 (n % 128)) ∧ w = w':=by
 have hb:=i64_and127 n
 go_enter Tryz.func72,Tryz.ntmps72
 go_wp2
 go_ret
 exact ⟨rfl,rfl⟩
theorem i64_and15 (n:Int):bits .and .i64 n 15 = n % 16:=by
 have h15:(BitVec.ofInt 64 15).toNat = 2 ^ 4 - 1:=by decide
 have key:(BitVec.ofInt 64 n &&& BitVec.ofInt 64 15).toNat = (n % ((2 ^ 64:Nat):Int)).toNat % 2 ^ 4:=by
  rw [BitVec.toNat_and,BitVec.toNat_ofInt,h15,Nat.and_two_pow_sub_one_eq_mod]
 show IntKind.i64.wrap ((BitVec.ofInt 64 n &&& BitVec.ofInt 64 15).toNat:Nat) = n % 16
 rw [key,IntKind.wrap_i64]
 omega
theorem vlow4_any (n:Int) (w:World):Calls Tryz.prog 72 #[.int .i64 n,.int .i64 4] w fun e w'=>e = .returned (.int .i64 (n % 16)) ∧ w = w':=by
 have hb:=i64_and15 n
 go_enter Tryz.func72,Tryz.ntmps72
 go_wp2
 go_ret
 exact ⟨rfl,rfl⟩
def kindV (k:Int):Bool:=k == 1 || k == 2 || k == 3 || k == 6 || k == 7
theorem vkinds_any (k:Int) (w:World):Calls Tryz.prog 48 #[.int .i64 k] w fun e w'=>e = .returned (.bool (kindV k)) ∧ w = w':=by
 have HK:Hid (kindV k = (k == 1 || k == 2 || k == 3 || k == 6 || k == 7)):=rfl
 cases h1:(k == 1)
 ·cases h2:(k == 2)
  ·cases h3:(k == 3)
   ·cases h6:(k == 6)
    ·cases h7:(k == 7)
     all_goals
      rw [h1,h2,h3,h6,h7] at HK
      go_enter Tryz.func48,Tryz.ntmps48
      go_wp2
      go_ret
      exact ⟨by rw [HK.out]; rfl,rfl⟩
    ·rw [h1,h2,h3,h6] at HK
     go_enter Tryz.func48,Tryz.ntmps48
     go_wp2
     go_ret
     exact ⟨by rw [HK.out]; rfl,rfl⟩
   ·rw [h1,h2,h3] at HK
    go_enter Tryz.func48,Tryz.ntmps48
    go_wp2
    go_ret
    exact ⟨by rw [HK.out]; rfl,rfl⟩
  ·rw [h1,h2] at HK
   go_enter Tryz.func48,Tryz.ntmps48
   go_wp2
   go_ret
   exact ⟨by rw [HK.out]; rfl,rfl⟩
 ·rw [h1] at HK
  go_enter Tryz.func48,Tryz.ntmps48
  go_wp2
  go_ret
  exact ⟨by rw [HK.out]; rfl,rfl⟩
end Go.Proofs.YtlfmooihcigolaaGreatDoor
namespace Go.Proofs.YtlfmooihcigolaaGreatDoor.ShaM
abbrev Wd:=BitVec 32
def rr (x:Wd) (n:Nat):Wd:=(x >>> n) ||| (x <<< (32 - n))
def s0 (x:Wd):Wd:=rr x 7 ^^^ rr x 18 ^^^ (x >>> 3)
def s1 (x:Wd):Wd:=rr x 17 ^^^ rr x 19 ^^^ (x >>> 10)
def b0 (x:Wd):Wd:=rr x 2 ^^^ rr x 13 ^^^ rr x 22
def b1 (x:Wd):Wd:=rr x 6 ^^^ rr x 11 ^^^ rr x 25
def ch (e f g:Wd):Wd:=(e &&& f) ^^^ (~~~e &&& g)
def mj (a b c:Wd):Wd:=(a &&& b) ^^^ (a &&& c) ^^^ (b &&& c)
def kk:List Nat:=[
 0x428a2f98,0x71374491,0xb5c0fbcf,0xe9b5dba5,0x3956c25b,0x59f111f1,0x923f82a4,0xab1c5ed5,
 0xd807aa98,0x12835b01,0x243185be,0x550c7dc3,0x72be5d74,0x80deb1fe,0x9bdc06a7,0xc19bf174,
 0xe49b69c1,0xefbe4786,0x0fc19dc6,0x240ca1cc,0x2de92c6f,0x4a7484aa,0x5cb0a9dc,0x76f988da,
 0x983e5152,0xa831c66d,0xb00327c8,0xbf597fc7,0xc6e00bf3,0xd5a79147,0x06ca6351,0x14292967,
 0x27b70a85,0x2e1b2138,0x4d2c6dfc,0x53380d13,0x650a7354,0x766a0abb,0x81c2c92e,0x92722c85,
 0xa2bfe8a1,0xa81a664b,0xc24b8b70,0xc76c51a3,0xd192e819,0xd6990624,0xf40e3585,0x106aa070,
 0x19a4c116,0x1e376c08,0x2748774c,0x34b0bcb5,0x391c0cb3,0x4ed8aa4a,0x5b9cca4f,0x682e6ff3,
 0x748f82ee,0x78a5636f,0x84c87814,0x8cc70208,0x90befffa,0xa4506ceb,0xbef9a3f7,0xc67178f2]
def K (t:Nat):Wd:=BitVec.ofNat 32 (kk.getD t 0)
theorem kk_len:kk.length = 64:=by decide
structure St where
 a:Wd
 b:Wd
 c:Wd
 d:Wd
 e:Wd
 f:Wd
 g:Wd
 h:Wd
deriving DecidableEq
def St.at (s:St):Nat → Wd
 | 0=>s.a | 1=>s.b | 2=>s.c | 3=>s.d | 4=>s.e | 5=>s.f | 6=>s.g | _=>s.h
def H0:St:=⟨0x6a09e667,0xbb67ae85,0x3c6ef372,0xa54ff53a,0x510e527f,0x9b05688c,0x1f83d9ab,0x5be0cd19⟩
def t1 (s:St) (k w:Wd):Wd:=s.h + b1 s.e + ch s.e s.f s.g + k + w
def t2 (s:St):Wd:=b0 s.a + mj s.a s.b s.c
def rnd (s:St) (k w:Wd):St:=⟨t1 s k w + t2 s,s.a,s.b,s.c,s.d + t1 s k w,s.e,s.f,s.g⟩
def ext (l:List Wd):Wd:=s1 (l.getD (l.length - 2) 0) + l.getD (l.length - 7) 0 + s0 (l.getD (l.length - 15) 0) + l.getD (l.length - 16) 0
def sched (m:List Wd):Nat → List Wd
 | 0=>m
 | n + 1=>sched m n ++ [ext (sched m n)]
theorem sched_len (m:List Wd) (n:Nat):(sched m n).length = m.length + n:=by
 induction n with
 | zero=>rfl
 | succ n ih=>simp [sched,ih]; omega
def rounds (ws:List Wd):Nat → St → St
 | 0,s=>s
 | t + 1,s=>rnd (rounds ws t s) (K t) (ws.getD t 0)
def St.add (s r:St):St:=⟨s.a + r.a,s.b + r.b,s.c + r.c,s.d + r.d,s.e + r.e,s.f + r.f,s.g + r.g,s.h + r.h⟩
def be (a b c d:UInt8):Wd:=BitVec.ofNat 32 (a.toNat * 16777216 + b.toNat * 65536 + c.toNat * 256 + d.toNat)
def mw (l:List UInt8) (t:Nat):Wd:=be (l.getD (4 * t) 0) (l.getD (4 * t + 1) 0) (l.getD (4 * t + 2) 0) (l.getD (4 * t + 3) 0)
def mws (l:List UInt8) (n:Nat):List Wd:=(List.range n).map (mw l)
theorem mws_len (l:List UInt8) (n:Nat):(mws l n).length = n:=by simp [mws]
theorem mws_succ (l:List UInt8) (n:Nat):mws l (n + 1) = mws l n ++ [mw l n]:=by simp [mws,List.range_succ]
def wds (l:List UInt8):List Wd:=sched (mws l 16) 48
theorem wds_len (l:List UInt8):(wds l).length = 64:=by simp [wds,sched_len,mws_len]
def comp (s:St) (l:List UInt8):St:=s.add (rounds (wds l) 64 s)
def runN:Nat → St → List UInt8 → St
 | 0,s,_=>s
 | k + 1,s,l=>runN k (comp s (l.take 64)) (l.drop 64)
theorem runN_add (a b:Nat) (s:St) (l:List UInt8):runN (a + b) s l = runN b (runN a s l) (l.drop (64 * a)):=by
 induction a generalizing s l with
 | zero=>simp [runN]
 | succ a ih=>
  have e:a + 1 + b = (a + b) + 1:=by omega
  rw [e]
  simp only [runN]
  rw [ih,List.drop_drop]
  have e2:64 + 64 * a = 64 * (a + 1):=by omega
  rw [e2]
theorem runN_append (k:Nat) (s:St) (l r:List UInt8) (h:64 * k ≤ l.length):runN k s (l ++ r) = runN k s l:=by
 induction k generalizing s l with
 | zero=>rfl
 | succ k ih=>
  simp only [runN]
  rw [List.take_append_of_le_length (by omega),List.drop_append_of_le_length (by omega),ih _ _ (by simp; omega)]
def stOf (T:List UInt8):St:=runN (T.length / 64) H0 T
def tl (T:List UInt8):List UInt8:=T.drop (64 * (T.length / 64))
theorem tl_len (T:List UInt8):(tl T).length = T.length % 64:=by simp [tl]; omega
theorem stOf_short (T b:List UInt8) (h:T.length % 64 + b.length < 64):stOf (T ++ b) = stOf T:=by
 have e:(T ++ b).length / 64 = T.length / 64:=by simp; omega
 unfold stOf
 rw [e,runN_append _ _ _ _ (by omega)]
theorem tl_short (T b:List UInt8) (h:T.length % 64 + b.length < 64):tl (T ++ b) = tl T ++ b:=by
 have e:(T ++ b).length / 64 = T.length / 64:=by simp; omega
 unfold tl
 rw [e,List.drop_append_of_le_length (by omega)]
theorem stOf_full (T b:List UInt8) (h:T.length % 64 + b.length = 64):stOf (T ++ b) = comp (stOf T) (tl T ++ b):=by
 have e:(T ++ b).length / 64 = T.length / 64 + 1:=by simp; omega
 unfold stOf
 rw [e,runN_add,runN_append _ _ _ _ (by omega),List.drop_append_of_le_length (by omega)]
 simp only [runN]
 have hl:(tl T ++ b).length = 64:=by rw [List.length_append,tl_len]; omega
 show comp _ (List.take 64 (tl T ++ b)) = _
 rw [List.take_of_length_le (by omega)]
def padN (n:Nat):Nat:=if n % 64 < 56 then 64 - n % 64 else 128 - n % 64
theorem padN_bd (n:Nat):9 ≤ padN n ∧ padN n ≤ 72 ∧ (n + padN n) % 64 = 0:=by unfold padN; split <;> omega
def be8 (n:Nat):List UInt8:=[UInt8.ofNat (n / 2 ^ 56),UInt8.ofNat (n / 2 ^ 48),UInt8.ofNat (n / 2 ^ 40),UInt8.ofNat (n / 2 ^ 32),UInt8.ofNat (n / 2 ^ 24),UInt8.ofNat (n / 2 ^ 16),UInt8.ofNat (n / 2 ^ 8),UInt8.ofNat n]
def pad (n:Nat):List UInt8:=128 :: (List.replicate (padN n - 9) 0 ++ be8 (n * 8))
theorem pad_len (n:Nat):(pad n).length = padN n:=by
 have:=padN_bd n
 simp [pad,be8]; omega
def be4 (w:Wd):List UInt8:=[UInt8.ofNat (w.toNat / 16777216),UInt8.ofNat (w.toNat / 65536),UInt8.ofNat (w.toNat / 256),UInt8.ofNat w.toNat]
def out (s:St):List UInt8:=be4 s.a ++ be4 s.b ++ be4 s.c ++ be4 s.d ++ be4 s.e ++ be4 s.f ++ be4 s.g ++ be4 s.h
theorem out_len (s:St):(out s).length = 32:=rfl
def sha (T:List UInt8):List UInt8:=out (stOf (T ++ pad T.length))
theorem sha_len (T:List UInt8):(sha T).length = 32:=rfl
theorem sha_abc:sha [97,98,99] = [0xba,0x78,0x16,0xbf,0x8f,0x01,0xcf,0xea,0x41,0x41,0x40,0xde,0x5d,0xae,0x22,0x23,0xb0,0x03,0x61,0xa3,0x96,0x17,0x7a,0x9c,0xb4,0x10,0xff,0x61,0xf2,0x00,0x15,0xad]:=by decide +kernel
theorem turn_eq (x:Wd) (n:Nat):(x >>> n) + (x <<< (32 - n)) = rr x n:=by
 unfold rr
 apply BitVec.add_eq_or_of_and_eq_zero
 ext i hi
 simp
 intro h1 h2
 have h3:x.getLsbD (n + i) = false:=BitVec.getLsbD_of_ge _ _ (by omega)
 rw [h3] at h1
 cases h1
theorem ch_eq (e f g:Wd):(e &&& f) ||| ((0xffffffff - e) &&& g) = ch e f g:=by
 have h:(0xffffffff:Wd) - e = ~~~e:=by
  show BitVec.allOnes 32 - e = _
  rw [BitVec.allOnes_sub_eq_not]
 rw [h]
 unfold ch
 ext i hi
 simp
 cases e[i] <;> simp
theorem mj_eq (a b c:Wd):(a &&& b) ||| (a &&& c) ||| (b &&& c) = mj a b c:=by
 unfold mj
 ext i hi
 simp
 cases a[i] <;> cases b[i] <;> cases c[i] <;> rfl
end Go.Proofs.YtlfmooihcigolaaGreatDoor.ShaM
namespace Go.Proofs.YtlfmooihcigolaaGreatDoor
theorem rot_amt:∀ n:Fin 32,1 ≤ n.val → bits .and .u64 (IntKind.u64.wrap (-(n.val:Int))) 31 = ((32 - n.val:Nat):Int):=by decide +kernel
theorem rot_any (x:BitVec 32) (k:Int) (n:Nat) (hk:k = -(n:Int)) (h1:1 ≤ n) (h2:n < 32) (w:World) :
  Calls Tryz.prog 287 #[.int .u32 (x.toNat:Int),.int .i64 k] w fun e w'=>e = .returned (.int .u32 ((ShaM.rr x n).toNat:Int)) ∧ w = w':=by
 subst hk
 have ha:=rot_amt ⟨n,h2⟩ h1
 have hs:IntKind.u64.wrap (32 - ((32 - n:Nat):Int)) = (n:Int):=by rw [IntKind.wrap_u64]; omega
 go_enter Tryz.func287,Tryz.ntmps287
 go_wp2
 go_ret
 refine ⟨ret_int ?_,rfl⟩
 show bits .or .u32 ((x.toNat:Int) * 2 ^ (32 - n) % 4294967296) ((x.toNat:Int) / 2 ^ n) = _
 rw [u_shl_mod,u_shr,u_or,ShaM.rr,BitVec.or_comm]
theorem small0_any (x:BitVec 32) (w:World) :
  Calls Tryz.prog 286 #[.int .u32 (x.toNat:Int)] w fun e w'=>e = .returned (.int .u32 ((ShaM.s0 x).toNat:Int)) ∧ w = w':=by
 go_enter Tryz.func286,Tryz.ntmps286
 go_wp2_with fail
 refine (rot_any x (-7) 7 rfl (by decide) (by decide) _).mono ?_
 rintro e w' ⟨rfl,rfl⟩
 go_wp2_with fail
 refine (rot_any x (-18) 18 rfl (by decide) (by decide) _).mono ?_
 rintro e w' ⟨rfl,rfl⟩
 go_wp2
 go_ret
 refine ⟨ret_int ?_,rfl⟩
 have e:=u_shr x 3
 rw [show (2:Int) ^ 3 = 8 from rfl] at e
 rw [e,u_xor,u_xor]
 rfl
theorem small1_any (x:BitVec 32) (w:World) :
  Calls Tryz.prog 285 #[.int .u32 (x.toNat:Int)] w fun e w'=>e = .returned (.int .u32 ((ShaM.s1 x).toNat:Int)) ∧ w = w':=by
 go_enter Tryz.func285,Tryz.ntmps285
 go_wp2_with fail
 refine (rot_any x (-17) 17 rfl (by decide) (by decide) _).mono ?_
 rintro e w' ⟨rfl,rfl⟩
 go_wp2_with fail
 refine (rot_any x (-19) 19 rfl (by decide) (by decide) _).mono ?_
 rintro e w' ⟨rfl,rfl⟩
 go_wp2
 go_ret
 refine ⟨ret_int ?_,rfl⟩
 have e:=u_shr x 10
 rw [show (2:Int) ^ 10 = 1024 from rfl] at e
 rw [e,u_xor,u_xor]
 rfl
theorem big0_any (x:BitVec 32) (w:World) :
  Calls Tryz.prog 252 #[.int .u32 (x.toNat:Int)] w fun e w'=>e = .returned (.int .u32 ((ShaM.b0 x).toNat:Int)) ∧ w = w':=by
 go_enter Tryz.func252,Tryz.ntmps252
 go_wp2_with fail
 refine (rot_any x (-2) 2 rfl (by decide) (by decide) _).mono ?_
 rintro e w' ⟨rfl,rfl⟩
 go_wp2_with fail
 refine (rot_any x (-13) 13 rfl (by decide) (by decide) _).mono ?_
 rintro e w' ⟨rfl,rfl⟩
 go_wp2_with fail
 refine (rot_any x (-22) 22 rfl (by decide) (by decide) _).mono ?_
 rintro e w' ⟨rfl,rfl⟩
 go_wp2
 go_ret
 refine ⟨ret_int ?_,rfl⟩
 rw [u_xor,u_xor]
 rfl
theorem big1_any (x:BitVec 32) (w:World) :
  Calls Tryz.prog 251 #[.int .u32 (x.toNat:Int)] w fun e w'=>e = .returned (.int .u32 ((ShaM.b1 x).toNat:Int)) ∧ w = w':=by
 go_enter Tryz.func251,Tryz.ntmps251
 go_wp2_with fail
 refine (rot_any x (-6) 6 rfl (by decide) (by decide) _).mono ?_
 rintro e w' ⟨rfl,rfl⟩
 go_wp2_with fail
 refine (rot_any x (-11) 11 rfl (by decide) (by decide) _).mono ?_
 rintro e w' ⟨rfl,rfl⟩
 go_wp2_with fail
 refine (rot_any x (-25) 25 rfl (by decide) (by decide) _).mono ?_
 rintro e w' ⟨rfl,rfl⟩
 go_wp2
 go_ret
 refine ⟨ret_int ?_,rfl⟩
 rw [u_xor,u_xor]
 rfl
theorem word_any (b off n cap:Nat) (b0 b1 b2 b3:UInt8) (w:World) (hn:4 ≤ n)
  (h0:w.cell? ⟨b,off,none⟩ = some (Y b0)) (h1:w.cell? ⟨b,off + 1,none⟩ = some (Y b1)) (h2:w.cell? ⟨b,off + 2,none⟩ = some (Y b2)) (h3:w.cell? ⟨b,off + 3,none⟩ = some (Y b3)) :
  Calls Tryz.prog 284 #[.slice (some ⟨b,off,none⟩) n cap] w fun e w'=>e = .returned (.int .u32 ((ShaM.be b0 b1 b2 b3).toNat:Int)) ∧ ∃ k,w' = w.drewN k:=by
 unfold Y at h0 h1 h2 h3
 have k0:(0:Int) < (n:Int):=by omega
 have k1:(1:Int) < (n:Int):=by omega
 have k2:(2:Int) < (n:Int):=by omega
 have k3:(3:Int) < (n:Int):=by omega
 go_enter Tryz.func284,Tryz.ntmps284
 go_wp2
 go_quiet (fail)
 go_wp2
 go_ret
 exact ⟨ret_int (be_val b0 b1 b2 b3),_,rfl⟩
def set4 (cs:Array Value) (off:Nat) (x:BitVec 32):Array Value:=
 (((cs.setIfInBounds off (Y (UInt8.ofNat (x.toNat / 16777216)))).setIfInBounds (off + 1) (Y (UInt8.ofNat (x.toNat / 65536)))).setIfInBounds (off + 2) (Y (UInt8.ofNat (x.toNat / 256)))).setIfInBounds (off + 3) (Y (UInt8.ofNat x.toNat))
theorem y_24 (x:BitVec 32):Value.int .u8 ((x.toNat:Int) / 16777216) = Y (UInt8.ofNat (x.toNat / 16777216)):=Y_int (by have:=x.isLt; omega)
theorem y_16 (x:BitVec 32):Value.int .u8 ((x.toNat:Int) / 65536 % 256) = Y (UInt8.ofNat (x.toNat / 65536)):=Y_int (by omega)
theorem y_8 (x:BitVec 32):Value.int .u8 ((x.toNat:Int) / 256 % 256) = Y (UInt8.ofNat (x.toNat / 256)):=Y_int (by omega)
theorem y_0 (x:BitVec 32):Value.int .u8 ((x.toNat:Int) % 256) = Y (UInt8.ofNat x.toNat):=Y_int (by omega)
theorem set4_size (cs:Array Value) (off:Nat) (x:BitVec 32):(set4 cs off x).size = cs.size:=by simp [set4]
theorem putWord_any (b off n cap:Nat) (x:BitVec 32) (t:TypeId) (cs:Array Value) (w:World) (hn:4 ≤ n) (hw:Whole w b t cs) (hl:off + 4 ≤ cs.size) :
  Calls Tryz.prog 208 #[.slice (some ⟨b,off,none⟩) n cap,.int .u32 (x.toNat:Int)] w fun e w'=>e = .returned (.tuple #[]) ∧
   w.grownBy w' (some b) ∧ Whole w' b t (set4 cs off x):=by
 have HW:=Hy hw
 have k0:(0:Int) < (n:Int):=by omega
 have k1:(1:Int) < (n:Int):=by omega
 have k2:(2:Int) < (n:Int):=by omega
 have k3:(3:Int) < (n:Int):=by omega
 have c0:w.cell? ⟨b,off,none⟩ = some (cs[off]'(by omega)):=by rw [hw.at_]; exact Array.getElem?_eq_getElem _
 have c1:w.cell? ⟨b,off + 1,none⟩ = some (cs[off + 1]'(by omega)):=by rw [hw.at_]; exact Array.getElem?_eq_getElem _
 have c2:w.cell? ⟨b,off + 2,none⟩ = some (cs[off + 2]'(by omega)):=by rw [hw.at_]; exact Array.getElem?_eq_getElem _
 have c3:w.cell? ⟨b,off + 3,none⟩ = some (cs[off + 3]'(by omega)):=by rw [hw.at_]; exact Array.getElem?_eq_getElem _
 have z0:=hw.thawed off
 have z1:=hw.thawed (off + 1)
 have z2:=hw.thawed (off + 2)
 have z3:=hw.thawed (off + 3)
 generalize cs[off]'(by omega) = v0 at c0
 generalize cs[off + 1]'(by omega) = v1 at c1
 generalize cs[off + 2]'(by omega) = v2 at c2
 generalize cs[off + 3]'(by omega) = v3 at c3
 clear hw hl
 go_enter Tryz.func208,Tryz.ntmps208
 go_wp2
 go_returns
 refine ⟨rfl,?_,?_⟩
 ·refine gr_set ?_ (.inl rfl) _
  refine gr_set ?_ (.inl rfl) _
  refine gr_set ?_ (.inl rfl) _
  refine gr_set ?_ (.inl rfl) _
  exact gr_refl _ _
 ·rw [y_24,y_16,y_8,y_0]
  exact (((HW.out.put _ _).put _ _).put _ _).put _ _
theorem putWord_at (b off n cap:Nat) (v:Int) (x:BitVec 32) (hv:v = (x.toNat:Int)) (t:TypeId) (cs:Array Value) (w:World) (hn:4 ≤ n) (hw:Whole w b t cs) (hl:off + 4 ≤ cs.size) :
  Calls Tryz.prog 208 #[.slice (some ⟨b,off,none⟩) n cap,.int .u32 v] w fun e w'=>e = .returned (.tuple #[]) ∧ w.grownBy w' (some b) ∧ Whole w' b t (set4 cs off x):=by
 subst hv
 exact putWord_any b off n cap x t cs w hn hw hl
end Go.Proofs.YtlfmooihcigolaaGreatDoor

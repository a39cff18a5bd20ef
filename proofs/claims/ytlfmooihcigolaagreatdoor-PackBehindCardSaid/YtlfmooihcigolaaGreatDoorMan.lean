/-
  LinE, WhenB, WhenC, BegA.
-/
import Derived.Test.YtlfmooihcigolaaGreatDoorMam
set_option maxRecDepth 100000
set_option maxHeartbeats 8000000
namespace Go.Proofs.YtlfmooihcigolaaGreatDoor
open Go.RowKit
theorem owns_base {w:World} {B base:Nat} {e size:Nat} {v:Value} {n:Nat} {xs:List Value} (h:w.ownsRow base e size v n xs) (hb:B ≤ base):w.ownsRow B e size v n xs:=by
 refine ⟨h.1,?_⟩
 rcases h.2 with hn | ⟨g,cap,cur,rfl,hg,rest⟩
 ·exact .inl hn
 ·exact .inr ⟨g,cap,cur,rfl,Nat.le_trans hb hg,rest⟩
theorem three (w:World) (a b c:Array Value) (ta tb tc:TypeId):∃ W,W = ((w.alloc (.cells a ta)).alloc (.cells b tb)).alloc (.cells c tc) ∧ Below w.heap.size w W ∧ W.heap.size = w.heap.size + 3 ∧
  Whole W w.heap.size ta a ∧ Whole W (w.heap.size + 1) tb b ∧ Whole W (w.heap.size + 1 + 1) tc c:=by
 refine ⟨_,rfl,(((Below.refl _ _).alloc (Nat.le_refl _) _).alloc (by simp) _).alloc (by simp; omega) _,by simp,((Whole.made _ _ _).past _).past _,?_,?_⟩
 ·have h:=(Whole.made (w.alloc (.cells a ta)) tb b).past (.cells c tc)
  simpa using h
 ·have h:=Whole.made ((w.alloc (.cells a ta)).alloc (.cells b tb)) tc c
  simpa using h
theorem all1_enters (caps:Array Value) (W:World):(callFunc 283 caps).run Tryz.prog W = .ok (.enter 283 caps) W:=enters_of Tryz.func283 (by kernel_rfl) rfl _ _
theorem all_ok (s:List UInt8) (l:List (List UInt8)) (r:Nat) (w:World) (hlen:s.length < 1099511627776) (hv:allGo (s.length + 1) s 0 [] = .inl (l,r)) :
  Calls Tryz.prog 245 #[.string ⟨s.toArray⟩] w fun e w'=>∃ v,e = .returned (.tuple #[v,.int .i64 (r:Int),.int .i64 0]) ∧ w'.ownsRow w.heap.size 9 1 v l.length (l.map S) ∧ Below w.heap.size w w':=by
 have hmf:∀ (fn:Fn) (first cap:Array Value) (w:World),(Instr.makeFunc fn first cap).run Tryz.prog w = .ok (.func fn first cap) w:=fun _ _ _ _=>rfl
 have HV:=Hy hv
 clear hv
 go_enter Tryz.func245,Tryz.ntmps245
 go_wp2_with fail
 obtain ⟨W,hW,hB,hsz,hS,hL,hR⟩:=three w #[.string ⟨s.toArray⟩] #[.slice none 0 0] #[.int .i64 0] 9 223 3
 rw [← hW]
 have hS1:=hS.past (.cells #[.int .i64 0] 25)
 have hL1:=hL.past (.cells #[.int .i64 0] 25)
 have hR1:=hR.past (.cells #[.int .i64 0] 25)
 have hE1:=Whole.made W 25 #[.int .i64 0]
 have hsz1:(W.alloc (.cells #[.int .i64 0] 25)).heap.size = w.heap.size + 4:=by simp; omega
 have hB1:Below w.heap.size w (W.alloc (.cells #[.int .i64 0] 25)):=hB.alloc (by omega) _
 have hcall:=all1_any w.heap.size (w.heap.size + 1 + 1) (w.heap.size + 1) s _ hlen hS1 hR1 hL1 (by omega) (by omega) (by omega)
 rw [HV.out] at hcall
 generalize hW1:W.alloc (.cells #[.int .i64 0] 25) = W1 at *
 refine (do_ret 283 _ W (fun w'=>Two (w.heap.size + 1 + 1) (w.heap.size + 1) W1 w' ∧ ∃ v,Whole w' (w.heap.size + 1 + 1) 3 #[.int .i64 (r:Int)] ∧ Whole w' (w.heap.size + 1) 223 #[v] ∧ w'.ownsRow W1.heap.size 9 1 v l.length (l.map S)) (all1_enters _) ?_ (by rw [hW1]; exact hcall.mono (fun e w' ⟨h2,he,h3⟩=>⟨he,h2,h3⟩))).mono ?_
 ·rintro w' ⟨h2,-⟩
  have hE2:=hE1.two h2 (by omega) (by omega)
  exact ⟨0,(hE2.at_ 0).trans rfl,hE2.thawed 0⟩
 rintro e w' ⟨rfl,w2,⟨h2,v,hR2,hL2,ho⟩,rfl⟩
 have R3:=hR2.aside (p:=⟨W.heap.size,0,none⟩) (by show _ ≠ _; dsimp only; omega) (.int .i64 0)
 have L3:=hL2.aside (p:=⟨W.heap.size,0,none⟩) (by show _ ≠ _; dsimp only; omega) (.int .i64 0)
 have B3:=(hB1.trans (h2.to (B:=w.heap.size) (by omega) (by omega) (by omega))).setCell (p:=⟨W.heap.size,0,none⟩) (by simp; omega) (.int .i64 0)
 have O3:=owns_base (B:=w.heap.size) (World.ownsRow.kept ho (gr_set (gr_refl w2 (some W.heap.size)) (p:=⟨W.heap.size,0,none⟩) (.inl rfl) (.int .i64 0)) (by
  cases hob:v.ownBlock with
  | none=>exact .inl rfl
  | some j=>exact .inr (fun e=>by have:=(ho.lt j hob).1; injection e with e; omega))) (by omega)
 generalize w2.setCell ⟨W.heap.size,0,none⟩ (.int .i64 0) = V at *
 have HB3:=Hy B3
 have HO3:=Hy O3
 have cr:V.cell? ⟨w.heap.size + 1 + 1,0,none⟩ = some (.int .i64 (r:Int)):=(R3.at_ 0).trans rfl
 have cl:V.cell? ⟨w.heap.size + 1,0,none⟩ = some v:=(L3.at_ 0).trans rfl
 clear hW hB hsz hS hL hR hS1 hL1 hR1 hE1 hsz1 hB1 hcall hW1 h2 hR2 hL2 ho R3 L3 B3 O3
 go_wp2
 go_region
 go_wp2
 go_ret3
 exact ⟨v,rfl,HO3.out.drew,HB3.out.drew⟩
def isDig (c:UInt8):Bool:=48 ≤ c.toNat && c.toNat ≤ 57
def digs (l:List UInt8) (most:Nat):Bool:=!l.isEmpty && decide (l.length ≤ most) && l.all isDig
theorem digs_any (l:List UInt8) (most:Nat) (w:World) (hmost:most < 1099511627776):Calls Tryz.prog 278 #[.string ⟨l.toArray⟩,.int .i64 (most:Int)] w fun e w'=>e = .returned (.bool (digs l most)) ∧ w = w':=by
 by_cases h0:l = []
 ·subst h0
  go_enter Tryz.func278,Tryz.ntmps278
  go_wp2
  go_ret
  exact ⟨rfl,rfl⟩
 ·have hb0:((l.length:Int) == 0) = false:=beq_eq_false_iff_ne.2 (by cases l with | nil=>exact absurd rfl h0 | cons a r=>simp; omega)
  have he:l.isEmpty = false:=by cases l with | nil=>exact absurd rfl h0 | cons=>rfl
  by_cases hm:l.length ≤ most
  ·have hd:decide (most < l.length) = false:=by simp; omega
   have HD:Hid (digs l most = l.all isDig):=by show _ = _; simp [digs,he,hm]
   clear h0 he
   go_enter Tryz.func278,Tryz.ntmps278
   go_wp2
   go_loopw [17] (fun i wr=>∃ k:Nat,k ≤ l.length ∧ i = .int .i64 (k:Int) ∧ wr = w ∧ l.all isDig = (l.drop k).all isDig) (fun i _=>l.length - (intOf i).toNat)
   case atStart=>exact ⟨0,by omega,rfl,rfl,rfl⟩
   case round=>
    obtain ⟨k,hk,rfl,rfl,hall⟩:=hrel
    have HA:=Hy hall
    clear hall
    by_cases hlt:k < l.length
    ·have hidx:=str_at l k hlt
     have hdrop:(l.drop k).all isDig = (isDig (l.getD k 0) && (l.drop (k + 1)).all isDig):=by
      rw [List.drop_eq_getElem_cons hlt,List.all_cons]
      simp [List.getElem?_eq_getElem hlt]
     have HDR:=Hy hdrop
     clear hdrop
     generalize l.getD k 0 = c at *
     have HC:Hid (isDig c = (decide (48 ≤ c.toNat) && decide (c.toNat ≤ 57))):=rfl
     by_cases hg:48 ≤ c.toNat ∧ c.toNat ≤ 57
     ·have h1:decide ((c.toNat:Int) < 48) = false:=by simp; omega
      have h2:decide (57 < (c.toNat:Int)) = false:=by simp; omega
      have HR:Hid (l.all isDig = (l.drop (k + 1)).all isDig):=by show _ = _; rw [HA.out,HDR.out,HC.out]; simp [hg.1,hg.2]
      clear hg
      go_wp2
      go_roundw
      case rel=>exact ⟨k + 1,by omega,by go_num,trivial,HR.out⟩
      case measure=>simp [intOf]; omega
     ·have HR:Hid (l.all isDig = false):=by show _ = _; rw [HA.out,HDR.out,HC.out]; simp; omega
      by_cases h1:c.toNat < 48
      ·have h1:decide ((c.toNat:Int) < 48) = true:=by simp; omega
       clear hg
       go_wp2
       go_ret
       exact ⟨by rw [HD.out,HR.out]; rfl,rfl⟩
      ·have h2:decide ((c.toNat:Int) < 48) = false:=by simp; omega
       have h2:decide (57 < (c.toNat:Int)) = true:=by simp; omega
       clear hg h1
       go_wp2
       go_ret
       exact ⟨by rw [HD.out,HR.out]; rfl,rfl⟩
    ·have HR:Hid (l.all isDig = true):=by show _ = _; rw [HA.out,List.drop_eq_nil_of_le (by omega)]; rfl
     go_wp2
     go_ret
     exact ⟨by rw [HD.out,HR.out]; rfl,rfl⟩
  ·have hd:decide (most < l.length) = true:=by simp; omega
   have HD:Hid (digs l most = false):=by show _ = _; simp [digs,hm]
   clear h0 he hm
   go_enter Tryz.func278,Tryz.ntmps278
   go_wp2
   go_ret
   exact ⟨by rw [HD.out]; rfl,rfl⟩
def whole (l:List UInt8):Bool:=digs l 6 && (l == [48] || l.getD 0 0 != 48)
theorem byte_ne (c:UInt8):((c.toNat:Int) != 48) = (c != 48):=by
 rw [Bool.eq_iff_iff]
 simp only [bne_iff_ne,ne_eq,← UInt8.toNat_inj]
 have:(48:UInt8).toNat = 48:=rfl
 omega
theorem whole_any (l:List UInt8) (w:World):Calls Tryz.prog 277 #[.string ⟨l.toArray⟩] w fun e w'=>e = .returned (.bool (whole l)) ∧ w = w':=by
 have hd:=digs_any l 6 w (by decide)
 rw [show ((6:Nat):Int) = 6 from rfl] at hd
 have HW:Hid (whole l = (digs l 6 && (l == [48] || l.getD 0 0 != 48))):=rfl
 cases h:digs l 6
 ·rw [h] at hd
  have H:=Hy h
  have HD:=Hy hd
  clear h hd
  go_enter Tryz.func277,Tryz.ntmps277
  go_wp2_with (go_at_call 278; refine HD.out.mono ?_; rintro e w' ⟨rfl,rfl⟩)
  go_ret
  exact ⟨by rw [HW.out,H.out]; rfl,rfl⟩
 ·have hne:0 < l.length:=by
   cases l with
   | nil=>exact nomatch h
   | cons=>simp
  rw [h] at hd
  have H:=Hy h
  have HD:=Hy hd
  have hidx:=str_at l 0 hne
  rw [show ((0:Nat):Int) = 0 from rfl] at hidx
  have hbn:=byte_ne (l.getD 0 0)
  generalize l.getD 0 0 = c at *
  clear h hd
  go_enter Tryz.func277,Tryz.ntmps277
  go_wp2_with (go_at_call 278; refine HD.out.mono ?_; rintro e w' ⟨rfl,rfl⟩)
  ·rename_i hl
   go_ret
   exact ⟨by rw [HW.out,H.out,hl]; rfl,rfl⟩
  ·go_ret
   refine ⟨?_,rfl⟩
   show Ending.returned (Value.bool (l == [48] || c != 48)) = _
   rw [HW.out,H.out,Bool.true_and]
def unitOf (l:List UInt8):List UInt8 × Nat:=
 if Lib.hasSuffix l [107] then (Lib.trimSuffix l [107],4652218415073722368) else if Lib.hasSuffix l [109] then (Lib.trimSuffix l [109],4697254411347427328) else (l,4607182418800017408)
theorem cutsuf (l:List UInt8) (c:UInt8) (w:World) (hl:l.length < 1099511627776):Calls Tryz.prog 302 #[.string ⟨l.toArray⟩,.string ⟨#[c]⟩] w fun e w'=>e = .returned (.tuple #[.string ⟨(Lib.trimSuffix l [c]).toArray⟩,.bool (Lib.hasSuffix l [c])]) ∧ w = w':=by
 refine (Tryz.strings_CutSuffix ⟨l.toArray⟩ ⟨#[c]⟩ w (by show l.toArray.size ≤ _; simp; omega)).mono ?_
 rintro e w' ⟨rfl,rfl⟩
 exact ⟨rfl,rfl⟩
theorem unit_any (l:List UInt8) (w:World) (hl:l.length < 1099511627776):Calls Tryz.prog 275 #[.string ⟨l.toArray⟩] w fun e w'=>e = .returned (.tuple #[.string ⟨(unitOf l).1.toArray⟩,.float .f64 (unitOf l).2]) ∧ w = w':=by
 have hk:=cutsuf l 107 w hl
 have hm:=cutsuf l 109 w hl
 have HU:Hid (unitOf l = if Lib.hasSuffix l [107] then (Lib.trimSuffix l [107],4652218415073722368) else if Lib.hasSuffix l [109] then (Lib.trimSuffix l [109],4697254411347427328) else (l,4607182418800017408)):=rfl
 cases h1:Lib.hasSuffix l [107] <;> cases h2:Lib.hasSuffix l [109]
 all_goals
  rw [h1] at hk
  rw [h2] at hm
  have HK:=Hy hk
  have HM:=Hy hm
  have H1:=Hy h1
  have H2:=Hy h2
  generalize Lib.trimSuffix l [107] = lk at *
  generalize Lib.trimSuffix l [109] = lm at *
  clear hk hm h1 h2
  go_enter Tryz.func275,Tryz.ntmps275
  go_wp2_with (first
   | (go_at_call 302; go_at_call_of 302 (Value.string ⟨#[107]⟩); refine HK.out.mono ?_; rintro e w' ⟨rfl,rfl⟩)
   | (go_at_call 302; go_at_call_of 302 (Value.string ⟨#[109]⟩); refine HM.out.mono ?_; rintro e w' ⟨rfl,rfl⟩))
  go_ret2
  refine ⟨?_,rfl⟩
  rw [HU.out,H1.out,H2.out]
  rfl
def Mx (w:World):Prop:=∃ m:Int,w.cell? ⟨0,0,none⟩ = some (.int .i64 m)
theorem Mx.lt {w:World} (h:Mx w):0 < w.heap.size:=let ⟨_,hm⟩:=h; World.block_lt_of_cell? w _ hm
theorem Mx.below {w w':World} {B:Nat} (h:Mx w) (hb:Below B w w') (h1:0 < B):Mx w':=let ⟨m,hm⟩:=h; ⟨m,(hb.cell (by exact h1)).trans hm⟩
theorem cut_any (l:List UInt8) (w:World) (hl:l.length < 4294967281) (hM:Mx w):Calls Tryz.prog 276 #[.string ⟨l.toArray⟩,.string ⟨#[46]⟩] w fun e w'=>e = .returned (.tuple #[.string ⟨(Lib.cut l [46]).1.toArray⟩,.string ⟨(Lib.cut l [46]).2.1.toArray⟩,.bool (Lib.cut l [46]).2.2]) ∧ ∃ n,w' = w.drewN n:=by
 obtain ⟨m,hm⟩:=hM
 exact Tryz.strings_Cut ⟨l.toArray⟩ ⟨#[46]⟩ m w (by show l.toArray.size < _; simpa using hl) hm
def num (n:Nat) (l:List UInt8):Nat:=l.foldl (fun n c=>n * 10 + (c.toNat - 48)) n
theorem num_snoc (n:Nat) (l:List UInt8) (c:UInt8):num n (l ++ [c]) = num n l * 10 + (c.toNat - 48):=by simp [num]
theorem num_lt (n:Nat) (l:List UInt8) (h:l.all isDig = true):num n l < (n + 1) * 10 ^ l.length:=by
 induction l generalizing n with
 | nil=>simp [num]
 | cons c r ih=>
  rw [List.all_cons,Bool.and_eq_true] at h
  have h1:=ih (n * 10 + (c.toNat - 48)) h.2
  have h2:c.toNat - 48 ≤ 9:=by
   have:=h.1
   simp [isDig] at this
   omega
  show num (n * 10 + (c.toNat - 48)) r < _
  have h3:(n * 10 + (c.toNat - 48) + 1) * 10 ^ r.length ≤ ((n + 1) * 10) * 10 ^ r.length:=Nat.mul_le_mul_right _ (by omega)
  rw [List.length_cons,Nat.pow_succ]
  calc _ < _:=h1
   _ ≤ _:=h3
   _ = _:=by rw [Nat.mul_assoc,Nat.mul_comm 10]
theorem Bytes.cellAt {w:World} {g o n c k:Nat} {l:List UInt8} (h:Bytes w (.slice (some ⟨g,o,none⟩) n c) l) (hk:k < l.length):w.cell? ⟨g,o + k,none⟩ = some (Y (l.getD k 0)):=by
 obtain ⟨A,c',he,_,_,hc⟩:=h
 obtain ⟨g',o',rfl,hcell⟩:=hc (by omega)
 injection he with h1 h2 h3
 injection h1 with h1
 injection h1 with h1 h4
 subst h1 h4
 exact hcell k hk
theorem num_take (l:List UInt8) (k:Nat) (hk:k < l.length) (hd:l.all isDig = true):∃ d:Nat,d ≤ 9 ∧ (l.getD k 0).toNat = d + 48 ∧ ∀ n,num n (l.take (k + 1)) = num n (l.take k) * 10 + d:=by
 have hmem:isDig (l.getD k 0) = true:=by
  have h:=List.all_eq_true.1 hd (l.getD k 0) (by simp [List.getElem?_eq_getElem hk])
  exact h
 simp only [isDig,Bool.and_eq_true,decide_eq_true_eq] at hmem
 refine ⟨(l.getD k 0).toNat - 48,by omega,by omega,fun n=>?_⟩
 rw [List.take_succ_eq_append_getElem hk,num_snoc]
 simp [List.getElem?_eq_getElem hk]
theorem num_take_lt (n:Nat) (l:List UInt8) (k:Nat) (hd:l.all isDig = true):num n (l.take k) < (n + 1) * 10 ^ l.length:=by
 have h1:=num_lt n (l.take k) (by
  rw [List.all_eq_true] at hd ⊢
  exact fun x hx=>hd x (List.mem_of_mem_take hx))
 have h2:10 ^ (l.take k).length ≤ 10 ^ l.length:=Nat.pow_le_pow_right (by decide) (by rw [List.length_take]; omega)
 exact Nat.lt_of_lt_of_le h1 (Nat.mul_le_mul_left _ h2)
theorem size_good (s nm wh fr:List UInt8) (u:Nat) (p:Bool) (w:World) (hl:s.length < 1099511627) (hM:Mx w) (hU:unitOf s = (nm,u)) (hC:Lib.cut nm [46] = (wh,fr,p)) (hn:nm.length ≤ s.length) (hw:whole wh = true) (hf:fr.all isDig = true) (hf3:fr.length ≤ 3) (hp:p = true → digs fr 3 = true) (q x:Nat) (hq:floatBits .quo .f64 (floatOfInt .f64 ((num (num 0 wh) fr:Nat):Int)) (floatOfInt .f64 ((10 ^ fr.length:Nat):Int)) = some q) (hx:floatBits .mul .f64 q u = some x) :
  Calls Tryz.prog 242 #[.string ⟨s.toArray⟩] w fun e w'=>e = .returned (.tuple #[.float .f64 x,.bool true]) ∧ Below w.heap.size w w':=by
 have hu:=unit_any s w (by omega)
 rw [hU] at hu
 have HU:=Hy hu
 have hc:=cut_any nm w (by omega) hM
 rw [hC] at hc
 have HC:=Hy hc
 have hwh:=fun W=>whole_any wh W
 rw [hw] at hwh
 have HWH:=Hy hwh
 have hdg:digs wh 6 = true:=by
  unfold whole at hw
  rw [Bool.and_eq_true] at hw
  exact hw.1
 have hwl:wh.length ≤ 6 ∧ wh.all isDig = true:=by
  unfold digs at hdg
  simp only [Bool.and_eq_true,decide_eq_true_eq] at hdg
  exact ⟨hdg.1.2,hdg.2⟩
 have hfr:=fun W=>digs_any fr 3 W (by decide)
 have HFR:=Hy hfr
 obtain ⟨hwl,hwd⟩:=hwl
 have HWD:=Hy hwd
 have HFD:=Hy hf
 have HP:=Hy hp
 have hq':=fun w=>run_float_arith (P:=Tryz.prog) w .quo 45 .f64 _ _ _ hq
 have hx':=fun w=>run_float_arith (P:=Tryz.prog) w .mul 45 .f64 _ _ _ hx
 have HQ:=Hy hq'
 have HX:=Hy hx'
 clear hq hx hq' hx'
 clear hU hC hM hu hc hwh hw hdg hfr hwd hf hp
 obtain ⟨fd,hfd⟩:∃ fd,fd = digs fr 3:=⟨_,rfl⟩
 rw [← hfd] at HP HFR
 have hpd:p = false ∨ p = true ∧ fd = true:=by
  cases p
  ·exact .inl rfl
  ·exact .inr ⟨rfl,HP.out rfl⟩
 clear HP hfd
 rcases hpd with rfl | ⟨rfl,rfl⟩
 all_goals
  go_enter Tryz.func242,Tryz.ntmps242
  go_wp2_with (first
   | (go_at_call 275; refine HU.out.mono ?_; rintro e w' ⟨rfl,rfl⟩)
   | (go_at_call 276; refine HC.out.mono ?_; rintro e w' ⟨rfl,n,rfl⟩)
   | (go_at_call 277; refine (HWH.out _).mono ?_; rintro e w' ⟨rfl,rfl⟩)
   | (go_at_call 278; refine (HFR.out _).mono ?_; rintro e w' ⟨rfl,rfl⟩)
   | (refine wpList_of_string rfl 9 63 5 (.tmp 37) rfl _ wh rfl rfl Tryz.underlying9 Tryz.underlying63 Tryz.underlying5 (by unfold maxLen; omega) ?_; intro w4 c hby hfz hB4 hs4; have HBY:=Hy hby; have HB4:=Hy (show Below w.heap.size w w4 from (be_drewN (Below.refl _ _) n).trans hB4); clear hby hfz hB4 hs4))
  have hmw:∀ k,num 0 (wh.take k) < 1000000:=fun k=>Nat.lt_of_lt_of_le (num_take_lt 0 wh k HWD.out) (by
   have:=Nat.pow_le_pow_right (n:=10) (by decide) hwl
   omega)
  go_loopw [9,12,40] (fun m _ i wr=>∃ k:Nat,k ≤ wh.length ∧ i = .int .i64 (k:Int) ∧ m = .int .i64 ((num 0 (wh.take k):Nat):Int) ∧ wr = w4) (fun _ _ i _=>wh.length - (intOf i).toNat)
  case atStart=>exact ⟨0,by omega,rfl,rfl,rfl⟩
  case round=>
   obtain ⟨k,hk,rfl,rfl,rfl⟩:=hrel
   by_cases hlt:k < wh.length
   ·have hcell:=HBY.out.cellAt hlt
    obtain ⟨d,hd9,hdc,hdn⟩:=num_take wh k hlt HWD.out
    have hm:=hmw k
    have HN:=Hy (hdn 0)
    unfold Y at hcell
    rw [hdc,Nat.zero_add] at hcell
    have hcell:wr.cell? ⟨w.heap.size,k,none⟩ = some (.int .u8 ((d + 48:Nat):Int)):=hcell
    generalize num 0 (wh.take k) = m at *
    clear hdn hdc
    go_wp2
    go_roundw
    case rel=>exact ⟨k + 1,by omega,by go_num,by rw [HN.out]; go_num,trivial⟩
    case measure=>simp [intOf]; omega
   ·have HKW:Hid (k = wh.length):=by show _ = _; omega
    rw [show num 0 wh = num 0 (wh.take k) by rw [List.take_of_length_le (by omega)]] at HQ
    have hmf:∀ j,num (num 0 (wh.take k)) (fr.take j) < 1000000000:=fun j=>Nat.lt_of_lt_of_le (num_take_lt _ fr j HFD.out) (by
     have h1:=Nat.pow_le_pow_right (n:=10) (by decide) hf3
     have h2:=hmw k
     calc _ ≤ 1000000 * 10 ^ 3:=Nat.mul_le_mul (by omega) h1
      _ = _:=by decide)
    have hm0:=hmw k
    generalize num 0 (wh.take k) = m0 at *
    go_wp2_with (refine wpList_of_string rfl 9 63 5 (.tmp 51) rfl _ fr rfl rfl Tryz.underlying9 Tryz.underlying63 Tryz.underlying5 (by unfold maxLen; omega) ?_; intro w5 c5 hby hfz hB5 hs5; have HBY5:=Hy hby; have HB5:=Hy (hTr HB4 hB5); clear hby hfz hB5 hs5)
    go_loopw [9,10,14,54] (fun m sc _ i wr'=>∃ k:Nat,k ≤ fr.length ∧ i = .int .i64 (k:Int) ∧ m = .int .i64 ((num m0 (fr.take k):Nat):Int) ∧ sc = .int .i64 ((10 ^ k:Nat):Int) ∧ wr' = w5) (fun _ _ _ i _=>fr.length - (intOf i).toNat)
    case atStart=>exact ⟨0,by omega,rfl,rfl,rfl,rfl⟩
    case round=>
     obtain ⟨k2,hk2,rfl,rfl,rfl,rfl⟩:=hrel
     by_cases hlt2:k2 < fr.length
     ·have hcell:=HBY5.out.cellAt hlt2
      obtain ⟨d,hd9,hdc,hdn⟩:=num_take fr k2 hlt2 HFD.out
      have hm:=hmf k2
      have HN:=Hy (hdn m0)
      have h10:10 ^ k2 ≤ 1000:=by
       have:=Nat.pow_le_pow_right (n:=10) (by decide) (show k2 ≤ 3 by omega)
       omega
      have HPW:Hid (10 ^ (k2 + 1) = 10 ^ k2 * 10):=Nat.pow_succ _ _
      unfold Y at hcell
      rw [hdc,Nat.zero_add] at hcell
      generalize num m0 (fr.take k2) = m at *
      generalize 10 ^ k2 = sc at *
      clear hdn hdc
      go_wp2
      go_roundw
      case rel=>exact ⟨k2 + 1,by omega,by go_num,by rw [HN.out]; go_num,by rw [HPW.out]; go_num,trivial⟩
      case measure=>simp [intOf]; omega
     ·have HK:Hid (k2 = fr.length):=by show _ = _; omega
      have hq2:=HQ.out
      have hx2:=HX.out
      rw [show num m0 fr = num m0 (fr.take k2) by rw [List.take_of_length_le (by omega)],← HK.out] at hq2
      generalize num m0 (fr.take k2) = m at *
      generalize 10 ^ k2 = sc at *
      go_wp2
      go_ret2
      exact ⟨rfl,HB5.out⟩
theorem copysign_any (w:World):Calls Tryz.prog 241 #[.float .f64 0,.float .f64 13830554455654793216] w fun e w'=>e = .returned (.float .f64 9223372036854775808) ∧ w = w':=by
 have h1:=bits_run 0
 have h2:=bits_run 13830554455654793216
 have h3:=frombits_run 9223372036854775808
 rw [show ((0:Nat):Int) = 0 from rfl] at h1
 rw [show ((13830554455654793216:Nat):Int) = 13830554455654793216 from rfl] at h2
 rw [show ((9223372036854775808:Nat):Int) = 9223372036854775808 from rfl] at h3
 have k1:bits .andNot .u64 0 9223372036854775808 = 0:=by kernel_rfl
 have k2:bits .and .u64 13830554455654793216 9223372036854775808 = 9223372036854775808:=by kernel_rfl
 have k3:bits .or .u64 0 9223372036854775808 = 9223372036854775808:=by kernel_rfl
 go_enter Tryz.func241,Tryz.ntmps241
 go_wp2
 go_ret
 exact ⟨rfl,rfl⟩
theorem nan_any (w:World):Calls Tryz.prog 248 #[] w fun e w'=>e = .returned (.float .f64 9221120237041090561) ∧ w = w':=by
 have h3:=frombits_run 9221120237041090561
 rw [show ((9221120237041090561:Nat):Int) = 9221120237041090561 from rfl] at h3
 go_enter Tryz.func248,Tryz.ntmps248
 go_wp2
 go_ret
 exact ⟨rfl,rfl⟩
theorem norm_nought (w:World):Calls Tryz.prog 240 #[.float .f64 9223372036854775808] w fun e w'=>e = .returned (.tuple #[.float .f64 0,.bool true]) ∧ w = w':=
 (norm_any 9223372036854775808 w (by decide)).mono fun e w' ⟨he,hw⟩=>⟨he.trans (by kernel_rfl),hw⟩
theorem size_15 (w:World) (hM:Mx w):Calls Tryz.prog 242 #[.string ⟨#[49,46,53,107]⟩] w fun e w'=>e = .returned (.tuple #[.float .f64 4654470214887407616,.bool true]) ∧ Below w.heap.size w w':=
 size_good [49,46,53,107] [49,46,53] [49] [53] 4652218415073722368 true w (by decide) hM (by decide) (by decide) (by decide) (by decide) (by decide) (by decide) (by decide) 4609434218613702656 4654470214887407616 (by kernel_rfl) (by kernel_rfl)
theorem of_x (w:World) (hT:Tabs w):Calls Tryz.prog 118 #[.int .i64 1,.string ⟨#[120]⟩] w fun e w'=>e = .returned (.agg ((ShaM.sha [98,108,111,98,32,49,0,120]).map Y).toArray) ∧ Below w.heap.size w w':=
 of_any 1 [98,108,111,98] [49] [120] w hT word_1 (fun W=>(itoa_1 W).mono fun e w' ⟨he,hw⟩=>⟨he,hw ▸ Below.refl _ _⟩) (by decide)
theorem put_ab (w:World) (hT:Tz w):Calls Tryz.prog 243 #[.string ⟨#[97,98]⟩] w fun e w'=>e = .returned (.tuple #[.string ⟨#[48,48,48,54,97,98]⟩,.bool true]) ∧ Below w.heap.size w w':=
 lput_good [97,98] w hT (by decide) (by decide)
theorem get_ab (w:World):Calls Tryz.prog 244 #[.string ⟨#[48,48,48,54,97,98,48,48,48,48]⟩] w fun e w'=>e = .returned (.tuple #[.int .i64 1,.string ⟨#[97,98]⟩,.int .i64 6,.int .i64 0]) ∧ Below w.heap.size w w':=
 get_ok 1 6 [48,48,48,54,97,98,48,48,48,48] [97,98] w (by decide)
theorem all_ab (w:World):Calls Tryz.prog 245 #[.string ⟨#[48,48,48,54,97,98,48,48,48,49,48,48,48,48,122]⟩] w fun e w'=>∃ g c,e = .returned (.tuple #[.slice (some ⟨g,0,none⟩) 2 c,.int .i64 14,.int .i64 0]) ∧ Below w.heap.size w w':=by
 refine (all_ok [48,48,48,54,97,98,48,48,48,49,48,48,48,48,122] [[97,98],[]] 14 w (by decide) (by decide)).mono ?_
 rintro e w' ⟨v,rfl,ho,hB⟩
 rcases ho.2 with ⟨-,h0⟩ | ⟨g,c,_,rfl,-⟩
 ·exact absurd h0 (by decide)
 ·exact ⟨g,c,rfl,hB⟩
theorem put_1 (w:World):Calls Tryz.prog 185 #[.float .f64 4607182418800017408] w fun e w'=>e = .returned (.string ⟨#[51,102,102,48,48,48,48,48,48,48,48,48,48,48,48,48]⟩) ∧ Below w.heap.size w w':=
 (put_good 4607182418800017408 w (by decide) (by kernel_rfl)).mono fun e w' ⟨he,hw⟩=>⟨he.trans (by kernel_rfl),hw⟩
theorem may_nan (w:World):Calls Tryz.prog 231 #[.float .f64 9221120237041090561] w fun e w'=>e = .returned (.bool false) ∧ w = w':=
 (may_any 9221120237041090561 w (by decide)).mono fun e w' ⟨he,hw⟩=>⟨he.trans (by kernel_rfl),hw⟩
theorem flush_any (w:World):Calls Tryz.prog 247 #[] w fun e w'=>e = .returned (.string ⟨#[48,48,48,48]⟩) ∧ w = w':=by
 go_enter Tryz.func247,Tryz.ntmps247
 go_wp2
 go_ret
 exact ⟨rfl,rfl⟩
theorem delim_any (w:World):Calls Tryz.prog 246 #[] w fun e w'=>e = .returned (.string ⟨#[48,48,48,49]⟩) ∧ w = w':=by
 go_enter Tryz.func246,Tryz.ntmps246
 go_wp2
 go_ret
 exact ⟨rfl,rfl⟩
theorem begun1_any (w:World):Calls Tryz.prog 239 #[] w fun e w'=>e = .panicked (fault 3) ∧ w = w':=by
 go_enter Tryz.func239,Tryz.ntmps239
 go_wp2_with (go_at_call 134; refine (fail_any _ _).mono ?_; rintro e w' ⟨rfl,rfl⟩)
 exact ⟨rfl,rfl,rfl⟩
theorem begun1_enters (caps:Array Value) (W:World):(callFunc 239 caps).run Tryz.prog W = .ok (.enter 239 caps) W:=enters_of Tryz.func239 (by kernel_rfl) rfl _ _
theorem do3_any (w:World):Calls Tryz.prog 33 #[.func (.func 239) #[] #[]] w fun e w'=>e = .returned (.int .i64 3) ∧ Below w.heap.size w w':=by
 have hE:=Whole.made w 25 #[.int .i64 0]
 refine (do_fault 239 #[] w 3 (fun w'=>w.alloc (.cells #[.int .i64 0] 25) = w') (begun1_enters _) ?_ (begun1_any _)).mono ?_
 ·rintro w' rfl
  exact ⟨0,(hE.at_ 0).trans rfl,hE.thawed 0⟩
 ·rintro e w' ⟨rfl,w1,w2,rfl,hB,rfl⟩
  refine ⟨rfl,((((Below.refl _ _).alloc (Nat.le_refl _) _).trans (hB.mono (by simp))).setCell (by simp) _)⟩
end Go.Proofs.YtlfmooihcigolaaGreatDoor

/-
  RcA, RcB, RcC.
-/
import Derived.Test.YtlfmooihcigolaaGreatDoorMbu
set_option maxRecDepth 100000
set_option maxHeartbeats 8000000
namespace Go.Proofs.YtlfmooihcigolaaGreatDoor
open Go.RowKit
abbrev Cv (w:World) (b:Nat) (s:List UInt8):Prop:=Whole w b 167 #[.string ⟨s.toArray⟩,.int .i64 0]
theorem cbyte_any (b:Nat) (x:UInt8) (t:List UInt8) (w:World) (h:Cv w b (x :: t)) :
  Calls Tryz.prog 99 #[.pointer (some ⟨b,0,none⟩)] w fun e w'=>e = .returned (.int .i64 (x.toNat:Int)) ∧ Alt (· = b) w w' ∧ Cv w' b t:=by
 obtain ⟨s,hs⟩:∃ s,s = x :: t:=⟨_,rfl⟩
 rw [← hs] at h
 have hu2:(s == []) = false:=by rw [hs]; rfl
 have hix:=str_atN s 0 (by rw [hs]; simp)
 have hx:s.getD 0 0 = x:=by rw [hs]; rfl
 rw [hx] at hix
 have hx8:=x.toNat_lt
 have HX:Hid (∀ h,(ByteArray.mk s.toArray)[0]'h = x):=by show ∀ h,_; subst hs; intro _; rfl
 have HD:Hid ((ByteArray.mk s.toArray).extract 1 s.length = ⟨t.toArray⟩):=by show _ = _; rw [ext_from s 1,hs]; rfl
 have hl:1 ≤ s.length:=by rw [hs]; simp
 have h0:w.cell? ⟨b,0,none⟩ = some (.string ⟨s.toArray⟩):=(h.at_ 0).trans rfl
 have h1:w.cell? ⟨b,1,none⟩ = some (.int .i64 0):=(h.at_ 1).trans rfl
 have hz:=h.thawed 0
 have H:=Hy h
 clear h hs hx
 go_enter Tryz.func99,Tryz.ntmps99
 go_wp2
 rw [HD.out]
 simp only [HX.out]
 have hww:wrap64 ((x.toNat:Nat):Int) = (x.toNat:Int):=by unfold wrap64; omega
 rw [hww]
 go_ret
 exact ⟨rfl,(Alt.refl (· = b) w).set (p:=⟨b,0,none⟩) (.inl rfl) _,H.out.put 0 (.string ⟨t.toArray⟩)⟩
theorem cbytes_any (b:Nat) (t u:List UInt8) (w:World) (h:Cv w b (t ++ u)) :
  Calls Tryz.prog 100 #[.pointer (some ⟨b,0,none⟩),.int .i64 (t.length:Int)] w fun e w'=>e = .returned (.string ⟨t.toArray⟩) ∧ Alt (· = b) w w' ∧ Cv w' b u:=by
 obtain ⟨s,hs⟩:∃ s,s = t ++ u:=⟨_,rfl⟩
 rw [← hs] at h
 have hl:t.length ≤ s.length:=by rw [hs]; simp
 have hl':¬ (s.length:Int) < (t.length:Int):=by omega
 have HT:Hid ((ByteArray.mk s.toArray).extract 0 t.length = ⟨t.toArray⟩):=by show _ = _; rw [ext_to s t.length,hs,List.take_left']; rfl
 have HD:Hid ((ByteArray.mk s.toArray).extract t.length s.length = ⟨u.toArray⟩):=by show _ = _; rw [ext_from s t.length,hs,List.drop_left']; rfl
 have h0:w.cell? ⟨b,0,none⟩ = some (.string ⟨s.toArray⟩):=(h.at_ 0).trans rfl
 have h1:w.cell? ⟨b,1,none⟩ = some (.int .i64 0):=(h.at_ 1).trans rfl
 have hz:=h.thawed 0
 have H:=Hy h
 clear h hs
 generalize hn:t.length = n at *
 go_enter Tryz.func100,Tryz.ntmps100
 go_wp2
 rw [HD.out,HT.out]
 go_ret
 exact ⟨rfl,(Alt.refl (· = b) w).set (p:=⟨b,0,none⟩) (.inl rfl) _,H.out.put 0 (.string ⟨u.toArray⟩)⟩
theorem cmore_any (b x0 q0 n0 W0 tot:Nat) (hx0:x0 < 128) (hp0:0 < x0 + q0 * 128) (hW0:1 ≤ W0) (htot:n0 + (x0 + q0 * 128) * W0 = tot) (h6:tot ≤ 1000000) (u:List UInt8) (w:World) (h:Cv w b (textV x0 q0 ++ u)) :
  Calls Tryz.prog 160 #[.pointer (some ⟨b,0,none⟩),.int .i64 (n0:Int),.int .i64 (W0:Int)] w fun e w'=>e = .returned (.int .i64 (tot:Int)) ∧ Alt (· = b) w w' ∧ Cv w' b u:=by
 have HC:=Hy h
 clear h
 go_enter Tryz.func160,Tryz.ntmps160
 go_wp2
 go_loopg [1,2,7,8] q0 (fun g s1 s2 s7 _ wr=>∃ (x q W n k:Nat),q ≤ g ∧ x < 128 ∧ 0 < x + q * 128 ∧ 1 ≤ W ∧ 128 ^ k ≤ W ∧ n + (x + q * 128) * W = tot ∧ s1 = .int .i64 (n:Int) ∧ s2 = .int .i64 (W:Int) ∧ s7 = .int .i64 (k:Int) ∧ Hid (Alt (· = b) w wr) ∧ Hid (Cv wr b (textV x q ++ u)))
 case atStart=>exact ⟨x0,q0,W0,n0,0,Nat.le_refl _,hx0,hp0,hW0,by simpa using hW0,htot,rfl,rfl,rfl,Hy (Alt.refl _ _),HC⟩
 case round=>
  rename World=>wr
  obtain ⟨x,q,W,n,k,hqg,hx,hp,hW,hkW,hnq,rfl,rfl,rfl,hal,hcv⟩:=hrel
  have hWle:W ≤ (x + q * 128) * W:=Nat.le_mul_of_pos_left W hp
  have hk2:k ≤ 2:=by
   rcases Nat.lt_or_ge k 3 with h | h
   ·omega
   ·have h3:=Nat.pow_le_pow_right (n:=128) (by decide) h
    have h4:(128:Nat) ^ 3 = 2097152:=by decide
    omega
  have hkW2:128 ^ (k + 1) ≤ W * 128:=by rw [Nat.pow_succ]; omega
  obtain ⟨S,hS⟩:∃ S,S = x * W:=⟨_,rfl⟩
  have hsplit:(x + q * 128) * W = S + q * (W * 128):=by
   rw [hS,Nat.add_mul,Nat.mul_assoc q 128 W,Nat.mul_comm 128 W]
  have hSi:(x:Int) * (W:Int) = (S:Int):=by rw [hS]; norm_cast
  rw [hsplit] at hnq
  have hnS:n + S ≤ 1000000:=by omega
  have hW6:W ≤ 1000000:=by omega
  have hy8:=hdV_lt x q hx
  have hym:((hdV x q:Nat):Int) % 128 = (x:Int):=by have:=hdV_mod x q hx; omega
  have hcv':Cv wr b (UInt8.ofNat (hdV x q) :: (tlV q ++ u)):=by have:=hcv.out; rw [textV_eq] at this; exact this
  have HBY:=Hy (cbyte_any b (UInt8.ofNat (hdV x q)) (tlV q ++ u) wr hcv')
  rw [show ((UInt8.ofNat (hdV x q)).toNat:Int) = (hdV x q:Int) by rw [UInt8.toNat_ofNat',Nat.mod_eq_of_lt hy8]] at HBY
  have hk3:decide ((3:Int) < (k:Int)) = false:=decide_eq_false (by omega)
  have hk3':decide (3 < k) = false:=decide_eq_false (by omega)
  have hle:decide ((1000000:Int) < (n:Int) + (S:Int)) = false:=decide_eq_false (by omega)
  have hy0:hdV x q ≠ 0:=by unfold hdV; split <;> omega
  have hy1:((hdV x q:Int) == 0) = false:=beq_eq_false_iff_ne.2 (by omega)
  have HSP:=Hy hnq
  clear hcv hcv' hS hsplit hWle hkW hnq
  by_cases hq:q = 0
  ·subst hq
   have ht0:tlV 0 = []:=rfl
   rw [ht0,List.nil_append] at HBY
   have htn:n + S = tot:=by have:=HSP.out; omega
   have hx':((hdV x 0:Nat):Int) < 128:=by show ((x:Nat):Int) < 128; omega
   clear HSP ht0 hkW2
   generalize hdV x 0 = y at *
   go_wp2_with fail
   refine HBY.out.mono ?_
   rintro e w2 ⟨rfl,ha2,hc2⟩
   have h1:w2.cell? ⟨b,1,none⟩ = some (.int .i64 0):=(hc2.at_ 1).trans rfl
   have HA2:=Hy (hal.out.trans ha2)
   have HC2:=Hy hc2
   clear ha2 hc2 HBY
   go_wp2
   go_ret
   exact ⟨by rw [← htn]; norm_cast,HA2.out,HC2.out⟩
  ·have hdq:hdV x q = x + 128:=by unfold hdV; rw [if_neg hq]
   have hge:¬ ((hdV x q:Nat):Int) < 128:=by omega
   have htl:tlV q ++ u = textV (q % 128) (q / 128) ++ u:=by
    unfold tlV
    rw [if_neg hq]
   rw [htl] at HBY
   have hq1:q % 128 + q / 128 * 128 = q:=by omega
   have hq2:q / 128 < q:=by omega
   have hx1:q % 128 < 128:=Nat.mod_lt _ (by decide)
   have HSP2:Hid (n + S + (q % 128 + q / 128 * 128) * (W * 128) = tot):=by show _ = _; rw [hq1,Nat.add_assoc]; exact HSP.out
   have hq3:0 < q % 128 + q / 128 * 128:=by omega
   clear HSP htl hdq hq1
   generalize hdV x q = y at *
   generalize q % 128 = x1 at *
   generalize q / 128 = q1 at *
   go_wp2_with fail
   refine HBY.out.mono ?_
   rintro e w2 ⟨rfl,ha2,hc2⟩
   have h1:w2.cell? ⟨b,1,none⟩ = some (.int .i64 0):=(hc2.at_ 1).trans rfl
   have HA2:=Hy (hal.out.trans ha2)
   have HC2:=Hy hc2
   clear ha2 hc2 HBY
   go_wp2
   go_roundg q1
   case measure=>omega
   case rel=>exact ⟨x1,q1,W * 128,n + S,k + 1,Nat.le_refl _,hx1,hq3,by omega,hkW2,HSP2.out,by go_num,by go_num,by go_num,HA2,HC2⟩
theorem cnum_any (b n:Nat) (hn:n ≤ 1000000) (u:List UInt8) (w:World) (h:Cv w b (numV n ++ u)) :
  Calls Tryz.prog 98 #[.pointer (some ⟨b,0,none⟩)] w fun e w'=>e = .returned (.int .i64 (n:Int)) ∧ Alt (· = b) w w' ∧ Cv w' b u:=by
 have hx:n % 128 < 128:=Nat.mod_lt _ (by decide)
 have HM:=Hy fun (hp:0 < n % 128 + n / 128 * 128)=>cmore_any b (n % 128) (n / 128) 0 1 n hx hp (Nat.le_refl _) (by omega) hn u w
 unfold numV at h
 obtain ⟨s,hs⟩:∃ s,s = textV (n % 128) (n / 128) ++ u:=⟨_,rfl⟩
 have hst:s = UInt8.ofNat (hdV (n % 128) (n / 128)) :: (tlV (n / 128) ++ u):=by rw [hs,textV_eq]; rfl
 rw [← hs] at h HM
 have hu2:(s == []) = false:=by rw [hst]; rfl
 have hu3:(s != []) = true:=by rw [hst]; rfl
 have hl:1 ≤ s.length:=by rw [hst]; simp
 have hy8:=hdV_lt (n % 128) (n / 128) hx
 have HX:∀ h,((ByteArray.mk s.toArray)[0]'h).toNat = hdV (n % 128) (n / 128):=by
  subst hst
  intro _
  show (UInt8.ofNat (hdV (n % 128) (n / 128))).toNat = _
  rw [UInt8.toNat_ofNat',Nat.mod_eq_of_lt hy8]
 have h0:w.cell? ⟨b,0,none⟩ = some (.string ⟨s.toArray⟩):=(h.at_ 0).trans rfl
 have h1:w.cell? ⟨b,1,none⟩ = some (.int .i64 0):=(h.at_ 1).trans rfl
 have hz:=h.thawed 0
 have H:=Hy h
 clear h
 by_cases hn0:n = 0
 ·subst hn0
  have HD:Hid ((ByteArray.mk s.toArray).extract 1 s.length = ⟨u.toArray⟩):=by show _ = _; rw [ext_from s 1,hst]; rfl
  have HX0:∀ h,((ByteArray.mk s.toArray)[0]'h).toNat = 0:=HX
  clear HX HM hs hst hy8
  go_enter Tryz.func98,Tryz.ntmps98
  go_wp2
  rw [HD.out]
  go_ret
  exact ⟨rfl,(Alt.refl (· = b) w).set (p:=⟨b,0,none⟩) (.inl rfl) _,H.out.put 0 (.string ⟨u.toArray⟩)⟩
 ·have hy0:hdV (n % 128) (n / 128) ≠ 0:=by unfold hdV; split <;> omega
  have HM':=Hy (HM.out (by omega) H.out)
  generalize hdV (n % 128) (n / 128) = y at *
  have hy1:((y:Int) == 0) = false:=beq_eq_false_iff_ne.2 (by omega)
  clear HM hs hst
  go_enter Tryz.func98,Tryz.ntmps98
  go_wp2_with fail
  refine HM'.out.mono ?_
  rintro e w2 ⟨rfl,ha2,hc2⟩
  have HA2:=Hy ha2
  have HC2:=Hy hc2
  clear ha2 hc2
  go_wp2
  go_ret
  exact ⟨rfl,HA2.out,HC2.out⟩
theorem results_tmp4 {fn:Func} {t u v x:Tmp} (h:fn.results = #[.tmp t,.tmp u,.tmp v,.tmp x]) (tmps:Array Value) (P:Program) (w:World) :
  (results fn tmps).run P w = .ok (.tuple #[tmps.getD t undef,tmps.getD u undef,tmps.getD v undef,tmps.getD x undef]) w:=by
 simp [results,h]
theorem sumC_nodrop (cs:List Ct):sumC (cs.take cs.length) = sumC cs:=by rw [List.take_length]
theorem rgetd_any (base:Nat) (cs:List Ct) (w:World) (hok:∀ c ∈ cs,okC base c) (hb6:base ≤ 1000000) (hs6:sumC cs ≤ 1000000) :
  Calls Tryz.prog 54 #[.string ⟨(encD base cs).toArray⟩] w fun e w'=>(∃ A c,e = .returned (.tuple #[.int .i64 (base:Int),.int .i64 (sumC cs:Int),.slice A cs.length c,.int .i64 0]) ∧ ArgG encK default 3 w' A c cs) ∧ Below w.heap.size w w':=by
 have HOK:=Hy (fun k hk=>okC_at hok k hk)
 have HSN:=Hy (fun k hk=>sumC_snoc cs k hk)
 have HED:=Hy (fun k hk=>encD_drop cs k hk)
 have HTK:=Hy (fun k=>sumC_take cs k)
 have hlen:cs.length ≤ 1000000:=Nat.le_trans (sumC_le cs hok) hs6
 have HC0:Hid (Cv (w.alloc (.cells #[.string ⟨(encD base cs).toArray⟩,.int .i64 0] 167)) w.heap.size (numV base ++ (numV (sumC cs) ++ cs.flatMap bytesK))):=by
  have e:numV base ++ (numV (sumC cs) ++ cs.flatMap bytesK) = encD base cs:=by unfold encD; rw [List.append_assoc]
  show Cv _ _ _
  rw [e]
  exact Whole.made w 167 #[.string ⟨(encD base cs).toArray⟩,.int .i64 0]
 have HB0:=Hy ((Below.refl w.heap.size w).alloc (Nat.le_refl _) (.cells #[.string ⟨(encD base cs).toArray⟩,.int .i64 0] 167))
 have hs0:w.heap.size < (w.alloc (.cells #[.string ⟨(encD base cs).toArray⟩,.int .i64 0] 167)).heap.size:=by simp
 have HG1:=Hy fun W (h:Cv W w.heap.size (numV base ++ (numV (sumC cs) ++ cs.flatMap bytesK)))=>cnum_any w.heap.size base hb6 (numV (sumC cs) ++ cs.flatMap bytesK) W h
 have HG2:=Hy fun W (h:Cv W w.heap.size (numV (sumC cs) ++ cs.flatMap bytesK))=>cnum_any w.heap.size (sumC cs) hs6 (cs.flatMap bytesK) W h
 clear hok
 go_enter Tryz.func54,Tryz.ntmps54
 go_wp2_with fail
 generalize w.alloc (.cells #[.string ⟨(encD base cs).toArray⟩,.int .i64 0] 167) = w0 at *
 refine (HG1.out w0 HC0.out).mono ?_
 rintro e w1 ⟨rfl,ha1,hc1⟩
 have HB1:=Hy (HB0.out.trans (ha1.to (B:=w.heap.size) (fun j hj=>by omega) (by omega)))
 have HC1:=Hy hc1
 have hs1:w.heap.size < w1.heap.size:=hc1.lt
 clear ha1 hc1 HG1 HC0 HB0
 go_wp2_with fail
 refine (HG2.out w1 HC1.out).mono ?_
 rintro e w2 ⟨rfl,ha2,hc2⟩
 have HB2:=Hy (HB1.out.trans (ha2.to (B:=w.heap.size) (fun j hj=>by omega) (by omega)))
 have HC2:Hid (Cv w2 w.heap.size ((cs.drop 0).flatMap bytesK)):=hc2
 have hs2:w.heap.size < w2.heap.size:=hc2.lt
 clear ha2 hc2 HG2 HC1 HB1
 go_wp2
 go_loopg [9,10,11,12] cs.length (fun g s9 s10 _ _ wr=>∃ (k:Nat) (A9:Option Addr) (c9:Nat),s9 = .slice A9 k c9 ∧ k ≤ cs.length ∧ cs.length - k ≤ g ∧ s10 = .int .i64 (sumC (cs.take k):Int) ∧ wr.ownsRow (w.heap.size + 1) 72 3 (.slice A9 k c9) k ((cs.take k).flatMap encK) ∧ Hid (Below w.heap.size w wr) ∧ Hid (Cv wr w.heap.size ((cs.drop k).flatMap bytesK)))
 case atStart=>exact ⟨0,none,0,rfl,Nat.zero_le _,by omega,rfl,by simpa using World.ownsRow_nil _ _ _ _,HB2,HC2⟩
 case round=>
  rename World=>wr
  obtain ⟨k,A9,c9,rfl,hk,hg,rfl,hown,hwr,hcv⟩:=hrel
  have hsr:w.heap.size < wr.heap.size:=hcv.out.lt
  by_cases hlt:k < cs.length
  ·have hoy:=HOK.out k hlt
   have hst:=HTK.out (k + 1)
   have hsn:=HSN.out k hlt
   have hed:=HED.out k hlt
   have hfs:=flatE_snoc cs k hlt
   obtain ⟨y,hy⟩:∃ y,y = cs.getD k default:=⟨_,rfl⟩
   rw [← hy] at hoy hsn hed hfs
   have hktl:(cs.take k).length = k:=by rw [List.length_take]; omega
   have hown0:wr.ownsRow (w.heap.size + 1) 72 3 (.slice A9 k c9) (cs.take k).length ((cs.take k).flatMap encK):=by rw [hktl]; exact hown
   have HFS:=Hy hfs
   have HKT:=Hy hktl
   have HOW0:=Hy hown0
   have HSUM:=Hy hsn
   have hsum6:sumC (cs.take k) + mkC y ≤ sumC cs:=by omega
   generalize hR:(cs.drop (k + 1)).flatMap bytesK = R at *
   generalize sumC (cs.take k) = s0 at *
   obtain ⟨S,hS⟩:∃ S,S = bytesK y ++ R:=⟨_,rfl⟩
   have hcv':=hcv.out
   rw [hed,← hS] at hcv'
   clear hst hsn hed hfs hown hown0 hy hktl hcv
   have h0:wr.cell? ⟨w.heap.size,0,none⟩ = some (.string ⟨S.toArray⟩):=(hcv'.at_ 0).trans rfl
   have h1:wr.cell? ⟨w.heap.size,1,none⟩ = some (.int .i64 0):=(hcv'.at_ 1).trans rfl
   have HCV:=Hy hcv'
   clear hcv'
   obtain ⟨ins,frm,len⟩:=y
   rcases hoy with ⟨e1,e2,e3,e4⟩ | ⟨e1,e2,e3,e4,e5⟩
   ·obtain rfl:len = 0:=e1
    obtain rfl:frm = 0:=e2
    replace e3:1 ≤ ins.length:=e3
    replace e4:ins.length ≤ 100:=e4
    have hS2:S = UInt8.ofNat ins.length :: (ins ++ R):=hS
    have hu2:(S == []) = false:=by rw [hS2]; rfl
    have hu3:(S != []) = true:=by rw [hS2]; rfl
    have hcc:=HCV.out
    rw [hS2] at hcc
    have hby:=cbyte_any w.heap.size _ _ wr hcc
    rw [show ((UInt8.ofNat ins.length).toNat:Int) = (ins.length:Int) by rw [UInt8.toNat_ofNat',Nat.mod_eq_of_lt (by omega)]] at hby
    have HBY:=Hy hby
    have d1:decide ((1:Int) ≤ (ins.length:Int)) = true:=decide_eq_true (by omega)
    have d1':decide (1 ≤ ins.length) = true:=decide_eq_true (by omega)
    have d2:decide ((ins.length:Int) ≤ 100) = true:=decide_eq_true (by omega)
    have d2':decide (ins.length ≤ 100) = true:=decide_eq_true (by omega)
    have hmk:mkC ⟨ins,0,0⟩ = ins.length:=by simp [mkC]
    rw [hmk] at hsum6 HSUM
    have d3:decide ((sumC cs:Int) < (s0:Int) + (ins.length:Int)) = false:=decide_eq_false (by omega)
    have d3':decide (sumC cs < s0 + ins.length) = false:=decide_eq_false (by omega)
    clear hcc hby hS hS2 HCV hmk
    go_wp2_with fail
    refine HBY.out.mono ?_
    rintro e w2 ⟨rfl,ha2,hc2⟩
    have HA2:=Hy ha2
    have HC2:=Hy hc2
    have hs2:w.heap.size < w2.heap.size:=hc2.lt
    clear ha2 hc2 HBY h0 h1
    go_upto_region 10 with (refine wpList_store_whole rfl 72 _ _ rfl w2.heap.size (encK default).toArray rfl rfl 72 _ (Whole.made w2 _ _) (infoK_s default) (by rfl) (encK_all default) ?_; intro w3 hWn hGn; have HW3:=Hy hWn; have D3:=Hy (made_below' hGn); clear hWn hGn)
    have HA3:=Hy (HA2.out.below D3.out)
    have HC3:Hid (Cv w3 w.heap.size (ins ++ R)):=Whole.below HC2.out D3.out (by omega)
    have HBS:=Hy (cbytes_any w.heap.size ins R w3 HC3.out)
    have hzA:=HA2.out.size
    clear D3 HC3 HA2 HC2
    go_wp2_with fail
    refine HBS.out.mono ?_
    rintro e w4 ⟨rfl,ha4,hc4⟩
    have hw4:=HW3.out.alt ha4 (by omega)
    have hz:=hw4.thawed 0
    have hcx:w4.cell? ⟨w2.heap.size,0,none⟩ = some (.string ⟨#[]⟩):=(hw4.at_ 0).trans rfl
    have HA5:=Hy ((HA3.out.trans ha4).set (p:=⟨w2.heap.size,0,none⟩) (.inr (by show wr.heap.size ≤ w2.heap.size; omega)) (.string ⟨ins.toArray⟩))
    have HW5:Hid (Whole (w4.setCell ⟨w2.heap.size,0,none⟩ (.string ⟨ins.toArray⟩)) w2.heap.size 72 (encK ⟨ins,0,0⟩).toArray):=hw4.put 0 (.string ⟨ins.toArray⟩)
    have HC5:Hid (Cv (w4.setCell ⟨w2.heap.size,0,none⟩ (.string ⟨ins.toArray⟩)) w.heap.size R):=hc4.aside (p:=⟨w2.heap.size,0,none⟩) (by simp; omega) _
    clear ha4 hw4 hc4 HA3 HW3 HBS
    go_upto_region 11 with fail
    generalize w4.setCell ⟨w2.heap.size,0,none⟩ (.string ⟨ins.toArray⟩) = w5 at *
    clear hz hcx
    have HONE:Hid (ArgG encK default 3 (w5.alloc (.cells (encK ⟨ins,0,0⟩).toArray 72)) (some ⟨w5.heap.size,0,none⟩) 1 [⟨ins,0,0⟩]):=argG_one (Whole.made w5 72 (encK ⟨ins,0,0⟩).toArray)
    have hz5:=HA5.out.size
    have HZ5:Hid (w.heap.size + 1 ≤ (w5.alloc (.cells (encK ⟨ins,0,0⟩).toArray 72)).heap.size):=by show _ ≤ _; simp; omega
    have HLL:Hid ((cs.take k).length + [(⟨ins,0,0⟩:Ct)].length ≤ 10000000):=by show _ ≤ _; rw [HKT.out]; simp; omega
    have HOW5:=Hy (own_alt HOW0.out HA5.out (by omega))
    have HA6:=Hy (HA5.out.alloc (.cells (encK ⟨ins,0,0⟩).toArray 72))
    have HC6:Hid (Cv (w5.alloc (.cells (encK ⟨ins,0,0⟩).toArray 72)) w.heap.size R):=Whole.past HC5.out _
    have h1:w5.cell? ⟨w.heap.size,1,none⟩ = some (.int .i64 0):=(HC5.out.at_ 1).trans rfl
    clear HC5
    go_wp2_with (first
     | (refine wpList_load_row rfl 72 _ rfl w2.heap.size rfl 72 (encK ⟨ins,0,0⟩).toArray (0,0) _ HW5.out Tryz.underlying72 rfl (infoK_s ⟨ins,0,0⟩) ?_)
     | (refine wpList_buildG eltK rfl _ rfl ⟨ins,0,0⟩ rfl ?_)
     | (at_builtin; go_loud (refine wpList_appendG eltK rfl _ _ rfl (w.heap.size + 1) (.slice A9 k c9) (cs.take k) rfl (own_later HOW5.out ((Below.refl _ _).alloc (Nat.le_refl _) _)) (some ⟨w5.heap.size,0,none⟩) 1 1 [⟨ins,0,0⟩] rfl rfl HONE.out HZ5.out HLL.out ?_; intro v' w7 hown' hb7' hgr7; have HOW7:=Hy hown'; have HB7:=Hy hb7'; clear hown' hb7' hgr7)))
    have how7:=HOW7.out
    have hkk:(cs.take k ++ [(⟨ins,0,0⟩:Ct)]).length = k + 1:=by rw [List.length_append,HKT.out,List.length_singleton]
    rw [← HFS.out,hkk] at how7
    obtain ⟨g7,c7,rfl⟩:=Go.Joins.ownsRow_form how7 (by omega)
    have HC7:Hid (Cv w7 w.heap.size R):=Whole.below HC6.out HB7.out (by omega)
    have HW7:Hid (Below w.heap.size w w7):=Hy ((hwr.out.trans (HA6.out.to (B:=w.heap.size) (fun j hj=>by omega) (by omega))).trans (HB7.out.mono (by omega)))
    go_roundg (cs.length - (k + 1))
    case measure=>omega
    case rel=>exact ⟨k + 1,_,_,rfl,by omega,Nat.le_refl _,by rw [HSUM.out]; go_num,how7,HW7,by rw [hR]; exact HC7⟩
   ·obtain rfl:ins = []:=e1
    replace e2:frm ≤ 100000:=e2
    replace e3:1 ≤ len:=e3
    replace e4:len ≤ 100000:=e4
    replace e5:frm + len ≤ base:=e5
    have hS2:S = 128 :: (numV frm ++ (numV len ++ R)):=by rw [hS,bytesK_copy (by show ¬ len = 0; omega)]; simp
    have hu2:(S == []) = false:=by rw [hS2]; rfl
    have hu3:(S != []) = true:=by rw [hS2]; rfl
    have hcc:=HCV.out
    rw [hS2] at hcc
    have hby:=cbyte_any w.heap.size _ _ wr hcc
    rw [show (((128:UInt8).toNat:Nat):Int) = 128 from rfl] at hby
    have HBY:=Hy hby
    have hmk:mkC ⟨[],frm,len⟩ = len:=by simp [mkC]
    rw [hmk] at hsum6 HSUM
    have d3:decide ((sumC cs:Int) < (s0:Int) + (len:Int)) = false:=decide_eq_false (by omega)
    have d3':decide (sumC cs < s0 + len) = false:=decide_eq_false (by omega)
    have d4:decide ((100000:Int) < (frm:Int)) = false:=decide_eq_false (by omega)
    have d4':decide (100000 < frm) = false:=decide_eq_false (by omega)
    have d5:decide ((len:Int) < 1) = false:=decide_eq_false (by omega)
    have d5':decide (len < 1) = false:=decide_eq_false (by omega)
    have d5'':(len == 0) = false:=beq_eq_false_iff_ne.2 (by omega)
    have d6:decide ((100000:Int) < (len:Int)) = false:=decide_eq_false (by omega)
    have d6':decide (100000 < len) = false:=decide_eq_false (by omega)
    have d7:decide ((base:Int) < (frm:Int) + (len:Int)) = false:=decide_eq_false (by omega)
    have d7':decide (base < frm + len) = false:=decide_eq_false (by omega)
    clear hcc hby hS hS2 HCV hmk
    go_wp2_with fail
    refine HBY.out.mono ?_
    rintro e w2 ⟨rfl,ha2,hc2⟩
    have HA2:=Hy ha2
    have HC2:=Hy hc2
    have hs2:w.heap.size < w2.heap.size:=hc2.lt
    clear ha2 hc2 HBY h0 h1
    go_upto_region 13 with (refine wpList_store_whole rfl 72 _ _ rfl w2.heap.size (encK default).toArray rfl rfl 72 _ (Whole.made w2 _ _) (infoK_s default) (by rfl) (encK_all default) ?_; intro w3 hWn hGn; have HW3:=Hy hWn; have D3:=Hy (made_below' hGn); clear hWn hGn)
    have HA3:=Hy (HA2.out.below D3.out)
    have HC3:Hid (Cv w3 w.heap.size (numV frm ++ (numV len ++ R))):=Whole.below HC2.out D3.out (by omega)
    have HBS:=Hy (cnum_any w.heap.size frm (by omega) (numV len ++ R) w3 HC3.out)
    have hzA:=HA2.out.size
    clear D3 HC3 HA2 HC2
    go_wp2_with fail
    refine HBS.out.mono ?_
    rintro e w4 ⟨rfl,ha4,hc4⟩
    have hw4:=HW3.out.alt ha4 (by omega)
    have hz:=hw4.thawed 1
    have hcx:w4.cell? ⟨w2.heap.size,1,none⟩ = some (.int .i64 0):=(hw4.at_ 1).trans rfl
    have HA4:=Hy ((HA3.out.trans ha4).set (p:=⟨w2.heap.size,1,none⟩) (.inr (by show wr.heap.size ≤ w2.heap.size; omega)) (.int .i64 (frm:Int)))
    have HW4:Hid (Whole (w4.setCell ⟨w2.heap.size,1,none⟩ (.int .i64 (frm:Int))) w2.heap.size 72 (encK ⟨[],frm,0⟩).toArray):=hw4.put 1 (.int .i64 (frm:Int))
    have HC4:Hid (Cv (w4.setCell ⟨w2.heap.size,1,none⟩ (.int .i64 (frm:Int))) w.heap.size (numV len ++ R)):=hc4.aside (p:=⟨w2.heap.size,1,none⟩) (by simp; omega) _
    clear ha4 hw4 hc4 HA3 HW3 HBS
    go_upto_region 14 with fail
    generalize w4.setCell ⟨w2.heap.size,1,none⟩ (.int .i64 (frm:Int)) = w4b at *
    clear hz hcx
    have HBS:=Hy (cnum_any w.heap.size len (by omega) R w4b HC4.out)
    clear HC4
    go_wp2_with fail
    refine HBS.out.mono ?_
    rintro e w6 ⟨rfl,ha4,hc4⟩
    have hw4:=HW4.out.alt ha4 (by omega)
    have hz:=hw4.thawed 2
    have hcx:w6.cell? ⟨w2.heap.size,2,none⟩ = some (.int .i64 0):=(hw4.at_ 2).trans rfl
    have HA5:=Hy ((HA4.out.trans ha4).set (p:=⟨w2.heap.size,2,none⟩) (.inr (by show wr.heap.size ≤ w2.heap.size; omega)) (.int .i64 (len:Int)))
    have HW5:Hid (Whole (w6.setCell ⟨w2.heap.size,2,none⟩ (.int .i64 (len:Int))) w2.heap.size 72 (encK ⟨[],frm,len⟩).toArray):=hw4.put 2 (.int .i64 (len:Int))
    have HC5:Hid (Cv (w6.setCell ⟨w2.heap.size,2,none⟩ (.int .i64 (len:Int))) w.heap.size R):=hc4.aside (p:=⟨w2.heap.size,2,none⟩) (by simp; omega) _
    clear ha4 hw4 hc4 HA4 HW4 HBS
    go_upto_region 15 with fail
    generalize w6.setCell ⟨w2.heap.size,2,none⟩ (.int .i64 (len:Int)) = w5 at *
    clear hz hcx
    have g1:w5.cell? ⟨w2.heap.size,1,none⟩ = some (.int .i64 (frm:Int)):=(HW5.out.at_ 1).trans rfl
    have g2:w5.cell? ⟨w2.heap.size,2,none⟩ = some (.int .i64 (len:Int)):=(HW5.out.at_ 2).trans rfl
    have HONE:Hid (ArgG encK default 3 (w5.alloc (.cells (encK ⟨[],frm,len⟩).toArray 72)) (some ⟨w5.heap.size,0,none⟩) 1 [⟨[],frm,len⟩]):=argG_one (Whole.made w5 72 (encK ⟨[],frm,len⟩).toArray)
    have hz5:=HA5.out.size
    have HZ5:Hid (w.heap.size + 1 ≤ (w5.alloc (.cells (encK ⟨[],frm,len⟩).toArray 72)).heap.size):=by show _ ≤ _; simp; omega
    have HLL:Hid ((cs.take k).length + [(⟨[],frm,len⟩:Ct)].length ≤ 10000000):=by show _ ≤ _; rw [HKT.out]; simp; omega
    have HOW5:=Hy (own_alt HOW0.out HA5.out (by omega))
    have HA6:=Hy (HA5.out.alloc (.cells (encK ⟨[],frm,len⟩).toArray 72))
    have HC6:Hid (Cv (w5.alloc (.cells (encK ⟨[],frm,len⟩).toArray 72)) w.heap.size R):=Whole.past HC5.out _
    have h1:w5.cell? ⟨w.heap.size,1,none⟩ = some (.int .i64 0):=(HC5.out.at_ 1).trans rfl
    clear HC5
    go_wp2_with (first
     | (refine wpList_load_row rfl 72 _ rfl w2.heap.size rfl 72 (encK ⟨[],frm,len⟩).toArray (0,0) _ HW5.out Tryz.underlying72 rfl (infoK_s ⟨[],frm,len⟩) ?_)
     | (refine wpList_buildG eltK rfl _ rfl ⟨[],frm,len⟩ rfl ?_)
     | (at_builtin; go_loud (refine wpList_appendG eltK rfl _ _ rfl (w.heap.size + 1) (.slice A9 k c9) (cs.take k) rfl (own_later HOW5.out ((Below.refl _ _).alloc (Nat.le_refl _) _)) (some ⟨w5.heap.size,0,none⟩) 1 1 [⟨[],frm,len⟩] rfl rfl HONE.out HZ5.out HLL.out ?_; intro v' w7 hown' hb7' hgr7; have HOW7:=Hy hown'; have HB7:=Hy hb7'; clear hown' hb7' hgr7)))
    have how7:=HOW7.out
    have hkk:(cs.take k ++ [(⟨[],frm,len⟩:Ct)]).length = k + 1:=by rw [List.length_append,HKT.out,List.length_singleton]
    rw [← HFS.out,hkk] at how7
    obtain ⟨g7,c7,rfl⟩:=Go.Joins.ownsRow_form how7 (by omega)
    have HC7:Hid (Cv w7 w.heap.size R):=Whole.below HC6.out HB7.out (by omega)
    have HW7:Hid (Below w.heap.size w w7):=Hy ((hwr.out.trans (HA6.out.to (B:=w.heap.size) (fun j hj=>by omega) (by omega))).trans (HB7.out.mono (by omega)))
    go_roundg (cs.length - (k + 1))
    case measure=>omega
    case rel=>exact ⟨k + 1,_,_,rfl,by omega,Nat.le_refl _,by rw [HSUM.out]; go_num,how7,HW7,by rw [hR]; exact HC7⟩
  ·obtain rfl:k = cs.length:=by omega
   rw [sumC_nodrop,List.take_length] at *
   rw [List.drop_length] at hcv
   have h0:wr.cell? ⟨w.heap.size,0,none⟩ = some (.string ⟨#[]⟩):=(hcv.out.at_ 0).trans rfl
   have h1:wr.cell? ⟨w.heap.size,1,none⟩ = some (.int .i64 0):=(hcv.out.at_ 1).trans rfl
   have HOW:=Hy hown
   clear hown hcv
   go_wp2
   refine bodyPost_ret (results_tmp4 rfl _ _ _) rfl ?_
   obtain ⟨A,c,e,har,-⟩:=own_argG eltK HOW.out
   exact ⟨⟨A9,c9,rfl,by injection e with e1 _ e3; subst e1 e3; exact har⟩,hwr.out⟩
theorem rapply_any (bs:List UInt8) (cs:List Ct) (w:World) (hok:∀ c ∈ cs,okC bs.length c) (hb6:bs.length ≤ 1000000) (hs6:sumC cs ≤ 1000000) :
  Calls Tryz.prog 18 #[.string ⟨bs.toArray⟩,.string ⟨(encD bs.length cs).toArray⟩] w fun e w'=>e = .returned (.tuple #[.string ⟨(applyC bs cs).toArray⟩,.int .i64 0]) ∧ Below w.heap.size w w':=by
 have HG:=Hy (rgetd_any bs.length cs w hok hb6 hs6)
 have HOK:=Hy (fun k hk=>okC_at hok k hk)
 have HSN:=Hy (fun k hk=>flatA_snoc bs cs k hk)
 have HAL:Hid (∀ k,k ≤ cs.length → (applyC bs (cs.take k)).length ≤ 1000000):=fun k _=>by
  rw [applyC_len _ (fun c hc=>hok c (List.mem_of_mem_take hc))]
  have:=sumC_take cs k
  omega
 have hlen:cs.length ≤ 1000000:=Nat.le_trans (sumC_le cs hok) hs6
 clear hok
 generalize encD bs.length cs = s at *
 go_enter Tryz.func18,Tryz.ntmps18
 go_wp2_with fail
 refine HG.out.mono ?_
 rintro e w1 ⟨⟨A,c,rfl,har⟩,hb⟩
 have HB1:=Hy hb
 have HA1:=Hy har
 have hlc:=har.1
 clear hb har HG
 go_wp2
 go_loopg [10,11] cs.length (fun g s10 s11 wr=>∃ k q:Nat,k ≤ cs.length ∧ cs.length - k ≤ g ∧ s11 = .int .i64 k ∧ s10 = .string ⟨(applyC bs (cs.take k)).toArray⟩ ∧ Hid (wr = w1.drewN q))
 case atStart=>exact ⟨0,0,Nat.zero_le _,by omega,rfl,rfl,Hy rfl⟩
 case round=>
  rename World=>wr
  obtain ⟨k,q,hk,hg,rfl,rfl,hwr⟩:=hrel
  by_cases hlt:k < cs.length
  ·have hlt':(k:Int) < (cs.length:Int):=by omega
   obtain ⟨bb,o,rfl,hr⟩:=HA1.out.2.2.2 (by omega)
   have hsn:=HSN.out k hlt
   have hoy:=HOK.out k hlt
   have hal0:=HAL.out k hk
   have hal1:=HAL.out (k + 1) (by omega)
   have hrk:=hr k hlt
   obtain ⟨y,hy⟩:∃ y,y = cs.getD k default:=⟨_,rfl⟩
   rw [← hy] at hrk hsn hoy
   have hc0:wr.cell? ⟨bb,o + k * 3,none⟩ = some (.string ⟨y.ins.toArray⟩):=by rw [hwr.out]; exact hrk 0 _ rfl
   have hc1:wr.cell? ⟨bb,o + k * 3 + 1,none⟩ = some (.int .i64 (y.frm:Int)):=by rw [hwr.out]; exact hrk 1 _ rfl
   have hc2:wr.cell? ⟨bb,o + k * 3 + 2,none⟩ = some (.int .i64 (y.len:Int)):=by rw [hwr.out]; exact hrk 2 _ rfl
   have HSL:Hid ((ByteArray.mk bs.toArray).extract y.frm (y.frm + y.len) = ⟨((bs.drop y.frm).take y.len).toArray⟩):=ext_mid bs y.frm y.len
   have hfl:y.frm + y.len ≤ bs.length:=by rcases hoy with ⟨h1,h2,-⟩ | ⟨-,-,-,-,h5⟩ <;> omega
   have hos:=okC_small hoy
   rw [hsn] at hal1
   have HSNK:=Hy hsn
   clear hr hrk hy hsn
   generalize applyC bs (cs.take k) = pre at *
   rcases hoy with ⟨e1,e2,e3,e4⟩ | ⟨e1,e2,e3,e4,e5⟩
   ·have hl0:decide ((0:Int) < (y.len:Int)) = false:=decide_eq_false (by omega)
    have hl0':decide (0 < y.len) = false:=decide_eq_false (by omega)
    have HAP:Hid ((ByteArray.mk pre.toArray) ++ (ByteArray.mk y.ins.toArray) = ⟨(applyC bs (cs.take (k + 1))).toArray⟩):=by show _ = _; rw [HSNK.out,e1,List.take_zero,List.append_nil]; exact ba_append _ _
    clear e1 e2
    go_wp2
    rw [HAP.out]
    go_roundg (cs.length - (k + 1))
    case measure=>omega
    case rel=>exact ⟨k + 1,q,by omega,Nat.le_refl _,by go_num,rfl,hwr⟩
   ·have hl0:decide ((0:Int) < (y.len:Int)) = true:=decide_eq_true (by omega)
    have hl0':decide (0 < y.len) = true:=decide_eq_true (by omega)
    have HAP:Hid ((ByteArray.mk pre.toArray) ++ (ByteArray.mk ((bs.drop y.frm).take y.len).toArray) = ⟨(applyC bs (cs.take (k + 1))).toArray⟩):=by show _ = _; rw [HSNK.out,e1,List.append_nil]; exact ba_append _ _
    clear e1 e2
    go_wp2_with fail
    refine wp_region_quiet_lit (by kernel_rfl) (by kernel_rfl) ?_
    repeat (go_big_quiet_step (fail))
    refine wpQuiet_nil ?_
    rintro _ ⟨nq,rfl⟩
    rw [HSL.out,HAP.out]
    go_wp2
    go_roundg (cs.length - (k + 1))
    case measure=>omega
    case rel=>exact ⟨k + 1,q + nq,by omega,Nat.le_refl _,by go_num,rfl,Hy (by rw [hwr.out,World.drewN_drewN])⟩
  ·obtain rfl:k = cs.length:=by omega
   rw [List.take_length]
   go_wp2
   go_ret2
   exact ⟨rfl,by rw [hwr.out]; exact be_drewN HB1.out q⟩
end Go.Proofs.YtlfmooihcigolaaGreatDoor

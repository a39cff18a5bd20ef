/-
  DelB, Flo, WhenA, Hex.
-/
import Derived.Test.YtlfmooihcigolaaGreatDoorMaj
import Ieee.Arith
import Derived.Laws.FloatArith
set_option maxRecDepth 100000
set_option maxHeartbeats 8000000
namespace Go.Proofs.YtlfmooihcigolaaGreatDoor
section
open Go.RowKit
theorem sumC_snoc (cs:List Ct) (k:Nat) (h:k < cs.length):sumC (cs.take (k + 1)) = sumC (cs.take k) + mkC (cs.getD k default):=by
 rw [List.take_succ_eq_append_getElem h,sumC_append]
 simp [sumC,List.getD,List.getElem?_eq_getElem h]
theorem flatK_snoc (cs:List Ct) (k:Nat) (h:k < cs.length):(cs.take (k + 1)).flatMap bytesK = (cs.take k).flatMap bytesK ++ bytesK (cs.getD k default):=by
 rw [List.take_succ_eq_append_getElem h,List.flatMap_append]
 simp [List.getD,List.getElem?_eq_getElem h]
theorem okC_at {base:Nat} {cs:List Ct} (h:∀ c ∈ cs,okC base c) (k:Nat) (hk:k < cs.length):okC base (cs.getD k default):=by
 have:cs.getD k default = cs[k]:=by simp [List.getD,List.getElem?_eq_getElem hk]
 rw [this]
 exact h _ (List.getElem_mem hk)
theorem okC_small {base:Nat} {c:Ct} (h:okC base c):c.ins.length ≤ 1000000 ∧ c.len ≤ 1000000 ∧ mkC c ≤ 100000:=by
 unfold mkC
 rcases h with ⟨h1,h2,h3,h4⟩ | ⟨h1,h2,h3,h4,h5⟩
 ·omega
 ·rw [h1]
  simp
  omega
theorem flatK_le {base:Nat}:∀ (cs:List Ct),(∀ c ∈ cs,okC base c) → (cs.flatMap bytesK).length ≤ cs.length * 101
 | [],_=>by simp
 | c :: cs,h=>by
  have ih:=flatK_le cs (fun x hx=>h x (by simp [hx]))
  have:=bytesK_le (h c (by simp))
  rw [List.flatMap_cons,List.length_append,List.length_cons]
  omega
theorem dput_any (base:Nat) (A:Option Addr) (c:Nat) (cs:List Ct) (w:World) (hA:ArgG encK default 3 w A c cs) (hok:∀ c ∈ cs,okC base c) (hb:base ≤ 1000000) (hs:sumC cs ≤ 1000000) :
  Calls Tryz.prog 38 #[.int .i64 (base:Int),.slice A cs.length c] w fun e w'=>e = .returned (.tuple #[.string ⟨(encD base cs).toArray⟩,.bool true]) ∧ Below w.heap.size w w':=by
 have HA:=Hy hA
 have HOK:=Hy (fun k hk=>okC_at hok k hk)
 have HTK:=Hy (fun k=>sumC_take cs k)
 have hlen:cs.length ≤ 1000000:=Nat.le_trans (sumC_le cs hok) hs
 have HFL:Hid (∀ k,k ≤ cs.length → ((cs.take k).flatMap bytesK).length ≤ k * 101):=fun k hk=>by
  have:=flatK_le (cs.take k) (fun c hc=>hok c (List.mem_of_mem_take hc))
  rw [List.length_take,Nat.min_eq_left hk] at this
  exact this
 have hlc:=hA.1
 have HP1:=Hy fun W=>vput_any base hb W
 have HP2:=Hy fun W=>vput_any (sumC cs) hs W
 have hn1:=numV_le base hb
 have hn2:=numV_le (sumC cs) hs
 have HE:Hid (encD base cs = numV base ++ numV (sumC cs) ++ cs.flatMap bytesK):=rfl
 clear hA hok
 go_enter Tryz.func38,Tryz.ntmps38
 go_wp2
 go_loopg [6,8,18] cs.length (fun g s6 _ s18 wr=>∃ k:Nat,k ≤ cs.length ∧ cs.length - k ≤ g ∧ s18 = .int .i64 k ∧ s6 = .int .i64 (sumC (cs.take k):Int) ∧ Hid (Below w.heap.size w wr))
 case atStart=>exact ⟨0,Nat.zero_le _,by omega,rfl,rfl,Hy (Below.refl _ _)⟩
 case round=>
  obtain ⟨k,hk,hg,rfl,rfl,hwr⟩:=hrel
  by_cases hlt:k < cs.length
  ·have hlt':(k:Int) < (cs.length:Int):=by omega
   obtain ⟨bb,o,rfl,hr⟩:=(HA.out.later eltK hwr.out).2.2.2 (by omega)
   have hsn:=sumC_snoc cs k hlt
   have htk:=HTK.out (k + 1)
   have hoy:=HOK.out k hlt
   have hrk:=hr k hlt
   obtain ⟨y,hy⟩:∃ y,y = cs.getD k default:=⟨_,rfl⟩
   rw [← hy] at hrk hsn hoy
   have hos:=okC_small hoy
   have HRK:=Hy hrk
   have HMAY:=Hy fun W=>dmay_any base y W hoy hb
   have HMK:=Hy fun W=>dmakes_any y W hos.1 hos.2.1
   have HSN:=Hy hsn
   have hadd:sumC (cs.take k) + mkC y ≤ 1000000:=by omega
   clear hr hrk hy htk hoy hos hsn
   generalize sumC (cs.take k) = sk at *
   go_wp2_with (first
    | (refine wpList_load_mid rfl 72 _ rfl bb (o + k * 3) rfl (encK y) _ HRK.out Tryz.underlying72 rfl (infoK y) ?_)
    | (refine wpList_store_whole rfl 72 _ _ rfl wr.heap.size (encK y).toArray rfl rfl 72 _ (Whole.made wr _ _) (infoK_s y) (by rfl) (encK_all y) ?_; intro w3 hWn hGn; have HW3:=Hy hWn; have D3:=Hy (made_below' hGn); clear hWn hGn)
    | (refine wpList_load_row rfl 72 _ rfl wr.heap.size rfl 72 (encK y).toArray (0,0) _ HW3.out Tryz.underlying72 rfl (infoK_s y) ?_))
   refine (HMAY.out _).mono ?_
   rintro e w4 ⟨rfl,hb4⟩
   have HB4:=Hy (hwr.out.trans ((D3.out.trans (hb4.mono D3.out.size)).mono hwr.out.size))
   have HW4:=Hy (HW3.out.below hb4 HW3.out.lt)
   clear hb4 HMAY HW3 D3 hwr
   go_wp2_with (refine wpList_load_row rfl 72 _ rfl wr.heap.size rfl 72 (encK y).toArray (0,0) _ HW4.out Tryz.underlying72 rfl (infoK_s y) ?_)
   refine (HMK.out _).mono ?_
   rintro e w5 ⟨rfl,hb5⟩
   have HB5:=Hy (hTr HB4 hb5)
   clear hb5 HMK HW4 HB4
   have hsn2:((sk:Int) + (mkC y:Int)) = (sumC (cs.take (k + 1)):Int):=by rw [HSN.out]; norm_cast
   go_wp2
   go_roundg (cs.length - (k + 1))
   case measure=>omega
   case rel=>exact ⟨k + 1,by omega,Nat.le_refl _,by go_num,by rw [← hsn2],HB5⟩
  ·obtain rfl:k = cs.length:=by omega
   rw [List.take_length] at *
   clear HTK
   go_wp2_with fail
   refine (HP1.out _).mono ?_
   rintro e w2 ⟨rfl,hb2⟩
   have HB2:=Hy (hTr hwr hb2)
   clear hb2 HP1 hwr
   go_wp2_with fail
   refine (HP2.out _).mono ?_
   rintro e w3 ⟨rfl,hb3⟩
   have HB3:=Hy (hTr HB2 hb3)
   clear hb3 HP2 HB2
   obtain ⟨b,hbe⟩:∃ b,b = w3.heap.size:=⟨_,rfl⟩
   have HBD:=Hy (bd_new w3)
   have HB4:=Hy (HB3.out.alloc HB3.out.size (.cells #[.pointer none,.slice none 0 0] 97))
   have hs4:(w3.alloc (.cells #[.pointer none,.slice none 0 0] 97)).heap.size = b + 1:=by rw [hbe]; simp
   have hsb:=HB3.out.size
   rw [← hbe] at HBD hsb
   go_wp2_with fail
   rw [← hbe]
   generalize w3.alloc (.cells #[.pointer none,.slice none 0 0] 97) = w4 at *
   clear HB3 hbe
   refine (wstr_any b b [] (numV base) w4 HBD.out (by simp; omega) (by omega)).mono ?_
   rintro e w5 ⟨rfl,hbd5,hB5,-⟩
   have HD5:=Hy hbd5.bd
   have HB5:=Hy (HB4.out.trans (hB5.mono hsb))
   have hs5:=hB5.size
   clear hbd5 hB5 HB4 HBD
   rw [List.nil_append] at HD5
   go_wp2_with fail
   refine (wstr_any b b (numV base) (numV (sumC cs)) w5 HD5.out (by omega) (by omega)).mono ?_
   rintro e w6 ⟨rfl,hbd6,hB6,-⟩
   have HD6:Hid (Bd w6 b b (numV base ++ numV (sumC cs) ++ (cs.take 0).flatMap bytesK)):=by show Bd _ _ _ _; rw [List.take_zero,List.flatMap_nil,List.append_nil]; exact hbd6.bd
   have HB6:=Hy (HB5.out.trans (hB6.mono hsb))
   have hs6:=hB6.size
   clear hbd6 hB6 HB5 HD5
   generalize hpre:numV base ++ numV (sumC cs) = pre at *
   have hprl:pre.length ≤ 6:=by rw [← hpre,List.length_append]; omega
   go_wp2
   go_loopg [15,53] cs.length (fun g _ s53 wr=>∃ k:Nat,k ≤ cs.length ∧ cs.length - k ≤ g ∧ s53 = .int .i64 k ∧ Hid (Below w.heap.size w wr) ∧ b < wr.heap.size ∧ Hid (Bd wr b b (pre ++ (cs.take k).flatMap bytesK)))
   case atStart=>exact ⟨0,Nat.zero_le _,by omega,rfl,HB6,by omega,HD6⟩
   case round=>
    obtain ⟨k,hk,hg,rfl,hwr,hsz,hbd⟩:=hrel
    by_cases hlt:k < cs.length
    ·have hlt':(k:Int) < (cs.length:Int):=by omega
     obtain ⟨bb,o,rfl,hr⟩:=(HA.out.later eltK hwr.out).2.2.2 (by omega)
     have hfl:=HFL.out k hk
     have hfs:=flatK_snoc cs k hlt
     have hoy:=HOK.out k hlt
     have hrk:=hr k hlt
     obtain ⟨y,hy⟩:∃ y,y = cs.getD k default:=⟨_,rfl⟩
     rw [← hy] at hrk hfs hoy
     have HRK:=Hy hrk
     have HFS:=Hy hfs
     have HOY:=Hy hoy
     have hpl:(pre ++ (cs.take k).flatMap bytesK).length ≤ 1000000000:=by rw [List.length_append]; omega
     have HPL:=Hy hpl
     clear hr hrk hy hfs hoy hpl hfl
     go_wp2_with (first
      | (refine wpList_load_mid rfl 72 _ rfl bb (o + k * 3) rfl (encK y) _ HRK.out Tryz.underlying72 rfl (infoK y) ?_)
      | (refine wpList_store_whole rfl 72 _ _ rfl wr.heap.size (encK y).toArray rfl rfl 72 _ (Whole.made wr _ _) (infoK_s y) (by rfl) (encK_all y) ?_; intro w7 hWn hGn; have HW7:=Hy hWn; have D7:=Hy (made_below' hGn); clear hWn hGn)
      | (refine wpList_load_row rfl 72 _ rfl wr.heap.size rfl 72 (encK y).toArray (0,0) _ HW7.out Tryz.underlying72 rfl (infoK_s y) ?_))
     have hs7:=D7.out.size
     refine (dputcut_any base y b b _ w7 HOY.out HPL.out (hbd.out.later D7.out) (by omega) (by omega)).mono ?_
     rintro e w8 ⟨rfl,hbd8,hB8⟩
     have HB8:=Hy (hwr.out.trans ((D7.out.mono hwr.out.size).trans (hB8.mono hsb)))
     have HD8:Hid (Bd w8 b b (pre ++ (cs.take (k + 1)).flatMap bytesK)):=by show Bd _ _ _ _; rw [HFS.out,← List.append_assoc]; exact hbd8
     have hs8:=hB8.size
     clear hbd8 hB8 hbd hwr HW7 D7
     go_wp2
     go_roundg (cs.length - (k + 1))
     case measure=>omega
     case rel=>exact ⟨k + 1,by omega,Nat.le_refl _,by go_num,HB8,by omega,HD8⟩
    ·obtain rfl:k = cs.length:=by omega
     rw [List.take_length] at hbd
     have HEE:Hid (encD base cs = pre ++ cs.flatMap bytesK):=HE.out
     go_wp2_with fail
     refine (bstr_any b b _ _ hbd.out (by omega)).mono ?_
     rintro e w9 ⟨rfl,hB9⟩
     have HB9:=Hy (hwr.out.trans (hB9.mono hsb))
     clear hB9
     go_wp2
     go_ret2
     exact ⟨by rw [HEE.out]; rfl,HB9.out⟩
end
end Go.Proofs.YtlfmooihcigolaaGreatDoor
namespace Go.Proofs.YtlfmooihcigolaaGreatDoor.Flo
open Ieee
def E (n:Nat):Nat:=n % 9223372036854775808
def S (n:Nat):Bool:=n / 9223372036854775808 % 2 == 1
def inf:Nat:=9218868437227405312
def isNaN (n:Nat):Bool:=decide (inf < E n)
def isFin (n:Nat):Bool:=decide (E n < inf)
def key (n:Nat):Int:=if S n then -(E n:Int) else (E n:Int)
def mg (r:Nat):Nat:=if r < 4503599627370496 then r else 4503599627370496 + r % 4503599627370496
def ex (r:Nat):Nat:=r / 4503599627370496 - 1
def V (r:Nat):Nat:=mg r * 2 ^ ex r
theorem V_step (r:Nat):V r < V (r + 1):=by
 unfold V mg ex
 by_cases h:r + 1 < 4503599627370496
 ·rw [if_pos (by omega),if_pos h,show r / 4503599627370496 - 1 = 0 by omega,show (r + 1) / 4503599627370496 - 1 = 0 by omega]
  omega
 ·by_cases h2:r < 4503599627370496
  ·rw [if_pos h2,if_neg h,show r / 4503599627370496 - 1 = 0 by omega,show (r + 1) / 4503599627370496 - 1 = 0 by omega]
   omega
  ·rw [if_neg h2,if_neg h]
   by_cases h3:r % 4503599627370496 + 1 < 4503599627370496
   ·rw [show (r + 1) / 4503599627370496 - 1 = r / 4503599627370496 - 1 by omega]
    exact (Nat.mul_lt_mul_right (Nat.two_pow_pos _)).2 (by omega)
   ·rw [show (r + 1) / 4503599627370496 - 1 = (r / 4503599627370496 - 1) + 1 by omega,Nat.pow_succ,show (r + 1) % 4503599627370496 = 0 by omega,show r % 4503599627370496 = 4503599627370495 by omega]
    have:=Nat.two_pow_pos (r / 4503599627370496 - 1)
    omega
theorem V_mono {a b:Nat} (h:a < b):V a < V b:=by
 induction b with
 | zero=>omega
 | succ b ih=>
  rcases Nat.lt_or_ge a b with h1 | h1
  ·exact Nat.lt_trans (ih h1) (V_step b)
  ·obtain rfl:a = b:=by omega
   exact V_step a
theorem V_zero:V 0 = 0:=rfl
theorem read_fin (n:Nat) (h:E n < inf):double.read n = .number (S n) (mg (E n)) (-1074 + (ex (E n):Nat)):=by
 unfold inf at h
 have e1:double.signWeight = 9223372036854775808:=by decide
 have e2:double.binade = 4503599627370496:=by decide
 have e3:double.infRung = 9218868437227405312:=by decide
 have e4:double.leastPlace = -1074:=by decide
 unfold Format.read
 rw [e1,e2,e3,e4]
 show (if E n < 4503599627370496 then _ else if E n < 9218868437227405312 then _ else _) = _
 unfold mg ex
 by_cases h1:E n < 4503599627370496
 ·rw [if_pos h1,if_pos h1,show E n / 4503599627370496 - 1 = 0 by omega]
  rfl
 ·rw [if_neg h1,if_neg h1,if_pos h]
  rfl
theorem read_inf (n:Nat) (h:E n = inf):double.read n = .infinity (S n):=by
 unfold inf at h
 have e1:double.signWeight = 9223372036854775808:=by decide
 have e2:double.binade = 4503599627370496:=by decide
 have e3:double.infRung = 9218868437227405312:=by decide
 unfold Format.read
 rw [e1,e2,e3]
 show (if E n < 4503599627370496 then _ else if E n < 9218868437227405312 then _ else if E n = 9218868437227405312 then _ else _) = _
 rw [if_neg (by omega),if_neg (by omega),if_pos h]
 rfl
theorem read_nan (n:Nat) (h:inf < E n):∃ f,double.read n = .nan (S n) f:=by
 unfold inf at h
 have e1:double.signWeight = 9223372036854775808:=by decide
 have e2:double.binade = 4503599627370496:=by decide
 have e3:double.infRung = 9218868437227405312:=by decide
 unfold Format.read
 rw [e1,e2,e3]
 refine ⟨E n - 9218868437227405312,?_⟩
 show (if E n < 4503599627370496 then _ else if E n < 9218868437227405312 then _ else if E n = 9218868437227405312 then _ else _) = _
 rw [if_neg (by omega),if_neg (by omega),if_neg (by omega)]
 rfl
theorem compare_scale (x y:Int) (k:Nat):compare (x * 2 ^ k) (y * 2 ^ k) = compare x y:=by
 have hp:(0:Int) < 2 ^ k:=Int.pow_pos (by decide)
 rcases Int.lt_trichotomy x y with h | h | h
 ·rw [Int.compare_eq_lt.2 h,Int.compare_eq_lt.2 (Int.mul_lt_mul_of_pos_right h hp)]
 ·rw [h,Int.compare_eq_eq.2 rfl,Int.compare_eq_eq.2 rfl]
 ·rw [Int.compare_eq_gt.2 h,Int.compare_eq_gt.2 (Int.mul_lt_mul_of_pos_right h hp)]
def g (x:Int):Int:=if x < 0 then -(V x.natAbs:Int) else (V x.natAbs:Int)
theorem g_mono {x y:Int} (h:x < y):g x < g y:=by
 unfold g
 by_cases hx:x < 0 <;> by_cases hy:y < 0
 ·rw [if_pos hx,if_pos hy]
  have:=V_mono (show y.natAbs < x.natAbs by omega)
  omega
 ·rw [if_pos hx,if_neg hy]
  have:=V_mono (show 0 < x.natAbs by omega)
  rw [V_zero] at this
  omega
 ·omega
 ·rw [if_neg hx,if_neg hy]
  have:=V_mono (show x.natAbs < y.natAbs by omega)
  omega
theorem g_compare (x y:Int):compare (g x) (g y) = compare x y:=by
 rcases Int.lt_trichotomy x y with h | h | h
 ·rw [Int.compare_eq_lt.2 h,Int.compare_eq_lt.2 (g_mono h)]
 ·rw [h,Int.compare_eq_eq.2 rfl,Int.compare_eq_eq.2 rfl]
 ·rw [Int.compare_eq_gt.2 h,Int.compare_eq_gt.2 (g_mono h)]
theorem g_key (n:Nat):g (key n) = if S n then -(V (E n):Int) else (V (E n):Int):=by
 unfold g key
 cases hs:S n
 ·simp only [Bool.false_eq_true,if_false]
  rw [if_neg (by omega)]
  simp
 ·simp only [if_true]
  by_cases h0:E n = 0
  ·rw [h0]; rfl
  ·rw [if_pos (by omega)]
   simp
theorem signed_scale (s:Bool) (m u v:Nat):signed s m u * 2 ^ v = if s then -((m * 2 ^ (u + v):Nat):Int) else ((m * 2 ^ (u + v):Nat):Int):=by
 unfold signed
 rw [Nat.shiftLeft_eq,Nat.pow_add,← Nat.mul_assoc]
 cases s
 ·simp only [Bool.false_eq_true,if_false]
  simp
 ·simp only [if_true]
  rw [Int.neg_mul]
  simp
theorem order_num (a b:Nat) (ha:E a ≤ inf) (hb:E b ≤ inf):double.order a b = some (compare (key a) (key b)):=by
 unfold Format.order
 rcases Nat.lt_or_ge (E a) inf with h1 | h1 <;> rcases Nat.lt_or_ge (E b) inf with h2 | h2
 ·rw [read_fin a h1,read_fin b h2]
  simp only [Datum.order]
  generalize hp:ex (E a) = p
  generalize hq:ex (E b) = q
  have e1:((-1074 + (p:Int)) - min (-1074 + (p:Int)) (-1074 + (q:Int))).toNat = p - min p q:=by omega
  have e2:((-1074 + (q:Int)) - min (-1074 + (p:Int)) (-1074 + (q:Int))).toNat = q - min p q:=by omega
  rw [e1,e2,← compare_scale _ _ (min p q),signed_scale,signed_scale,show p - min p q + min p q = p by omega,show q - min p q + min p q = q by omega,← g_compare (key a) (key b),g_key,g_key]
  unfold V
  rw [hp,hq]
 ·have h2':E b = inf:=by omega
  rw [read_fin a h1,read_inf b h2']
  simp only [Datum.order]
  unfold key
  rw [h2']
  cases hs:S a <;> cases ht:S b <;> simp only [Bool.false_eq_true,if_false,if_true,Option.some.injEq] <;> symm
  ·exact Int.compare_eq_lt.2 (by omega)
  ·exact Int.compare_eq_gt.2 (by unfold inf; omega)
  ·exact Int.compare_eq_lt.2 (by omega)
  ·exact Int.compare_eq_gt.2 (by omega)
 ·have h1':E a = inf:=by omega
  rw [read_inf a h1',read_fin b h2]
  simp only [Datum.order]
  unfold key
  rw [h1']
  cases hs:S a <;> cases ht:S b <;> simp only [Bool.false_eq_true,if_false,if_true,Option.some.injEq] <;> symm
  ·exact Int.compare_eq_gt.2 (by omega)
  ·exact Int.compare_eq_gt.2 (by omega)
  ·exact Int.compare_eq_lt.2 (by unfold inf; omega)
  ·exact Int.compare_eq_lt.2 (by omega)
 ·have h1':E a = inf:=by omega
  have h2':E b = inf:=by omega
  rw [read_inf a h1',read_inf b h2']
  simp only [Datum.order]
  unfold key
  rw [h1',h2']
  cases hs:S a <;> cases ht:S b <;> simp only [Bool.false_eq_true,if_false,if_true,Option.some.injEq] <;> decide
theorem order_nan_left (a b:Nat) (ha:inf < E a):double.order a b = none:=by
 obtain ⟨f,hf⟩:=read_nan a ha
 unfold Format.order
 rw [hf]
 rfl
theorem eq_num (a b:Nat) (ha:E a ≤ inf) (hb:E b ≤ inf):(double.order a b == some .eq) = decide (key a = key b):=by
 rw [order_num a b ha hb,Bool.eq_iff_iff]
 simp
theorem gt_num (a b:Nat) (ha:E a ≤ inf) (hb:E b ≤ inf):(double.order a b == some .gt) = decide (key b < key a):=by
 rw [order_num a b ha hb,Bool.eq_iff_iff]
 simp [Int.compare_eq_gt]
theorem self_eq (n:Nat):(double.order n n == some .eq) = !isNaN n:=by
 unfold isNaN
 by_cases h:inf < E n
 ·rw [order_nan_left _ _ h]; simp [h]
 ·rw [eq_num n n (by omega) (by omega)]; simp [h]
theorem self_ne (n:Nat):(double.order n n != some .eq) = isNaN n:=by
 have:=self_eq n
 rw [bne,this]; simp
theorem key_zero:key 0 = 0:=rfl
theorem key_eq_zero (n:Nat):key n = 0 ↔ E n = 0:=by
 unfold key; split <;> omega
def isZ (n:Nat):Bool:=decide (E n = 0)
theorem zero_eq (n:Nat):(double.order n 0 == some .eq) = isZ n:=by
 unfold isZ
 by_cases h:inf < E n
 ·rw [order_nan_left _ _ h]; simp; unfold inf at h; omega
 ·rw [eq_num n 0 (by omega) (by decide),key_zero,Bool.eq_iff_iff]
  simp [key_eq_zero]
theorem E_lt (n:Nat):E n < 9223372036854775808:=Nat.mod_lt _ (by decide)
theorem E_E (n:Nat):E (E n) = E n:=Nat.mod_eq_of_lt (E_lt n)
theorem S_E (n:Nat):S (E n) = false:=by
 unfold S
 rw [Nat.div_eq_of_lt (E_lt n)]; rfl
theorem inf_gt (n:Nat):(double.order (E n) 9218868437227405311 == some .gt) = decide (E n = inf):=by
 by_cases h:inf < E n
 ·rw [order_nan_left _ _ (by rw [E_E]; exact h)]
  simp; omega
 ·rw [gt_num _ _ (by rw [E_E]; omega) (by decide),Bool.eq_iff_iff]
  have k1:key (E n) = (E n:Int):=by unfold key; rw [S_E,E_E]; rfl
  have k2:key 9218868437227405311 = 9218868437227405311:=by decide
  rw [k1,k2]
  simp only [decide_eq_true_eq]
  unfold inf at *
  omega
theorem isFin_eq (n:Nat):(!isNaN n && !decide (E n = inf)) = isFin n:=by
 unfold isNaN isFin
 rw [Bool.eq_iff_iff]
 simp
 omega
def may (n:Nat):Bool:=isFin n && !(isZ n && S n)
end Go.Proofs.YtlfmooihcigolaaGreatDoor.Flo
namespace Go.Proofs.YtlfmooihcigolaaGreatDoor
section
open Go.RowKit
theorem bits_run (n:Nat) (w:World):(callFunc 189 #[.float .f64 n]).run Tryz.prog w = .ok (.value (.int .u64 (n:Int))) w:=by kernel_rfl
theorem frombits_run (n:Nat) (w:World):(callFunc 192 #[.int .u64 (n:Int)]).run Tryz.prog w = .ok (.value (.float .f64 n)) w:=by kernel_rfl
theorem isnan_any (n:Nat) (w:World):Calls Tryz.prog 249 #[.float .f64 n] w fun e w'=>e = .returned (.bool (Flo.isNaN n)) ∧ w = w':=by
 go_enter Tryz.func249,Tryz.ntmps249
 go_wp2
 go_ret
 exact ⟨by rw [← Flo.self_ne n]; rfl,rfl⟩
theorem sign_neg (n:Nat):decide (wrap64 (n:Int) < 0) = (n / 9223372036854775808 % 2 == 1):=by
 rw [Bool.eq_iff_iff]
 simp only [decide_eq_true_eq,beq_iff_eq,wrap64]
 omega
theorem signbit_any (n:Nat) (w:World):Calls Tryz.prog 296 #[.float .f64 n] w fun e w'=>e = .returned (.bool (Flo.S n)) ∧ w = w':=by
 have hb:=bits_run n
 go_enter Tryz.func296,Tryz.ntmps296
 go_wp2
 go_ret
 exact ⟨congrArg (fun b=>Ending.returned (.bool b)) (sign_neg n),rfl⟩
theorem abs_bits (n:Nat) (h:n < 18446744073709551616):bits .andNot .u64 (n:Int) 9223372036854775808 = ((Flo.E n:Nat):Int):=by
 have h1:=u64_andNot_nat n 9223372036854775808 h (by decide)
 have e:n &&& (18446744073709551615 - 9223372036854775808) = Flo.E n:=by
  have:=Nat.and_two_pow_sub_one_eq_mod n 63
  exact this
 rw [e] at h1
 exact h1
theorem isinf_any (n:Nat) (w:World) (h:n < 18446744073709551616):Calls Tryz.prog 295 #[.float .f64 n,.int .i64 0] w fun e w'=>e = .returned (.bool (decide (Flo.E n = Flo.inf))) ∧ w = w':=by
 have hb:=bits_run n
 have hf:=frombits_run (Flo.E n)
 have ha:=abs_bits n h
 clear h
 go_enter Tryz.func295,Tryz.ntmps295
 go_wp2
 go_ret
 exact ⟨congrArg (fun b=>Ending.returned (.bool b)) (Flo.inf_gt n),rfl⟩
theorem isFinite_any (n:Nat) (w:World) (h:n < 18446744073709551616):Calls Tryz.prog 264 #[.float .f64 n] w fun e w'=>e = .returned (.bool (Flo.isFin n)) ∧ w = w':=by
 have hq:=Flo.isFin_eq n
 have HQ:=Hy hq
 clear hq
 cases h1:Flo.isNaN n
 all_goals
  have H1:=Hy h1
  have hnan:Calls Tryz.prog 249 #[.float .f64 n] w fun e w'=>e = .returned (.bool (Flo.isNaN n)) ∧ w = w':=isnan_any n w
  rw [h1] at hnan
  have HN:=Hy hnan
  clear h1 hnan
  go_enter Tryz.func264,Tryz.ntmps264
  go_wp2_with (first
   | (go_at_call 249; refine HN.out.mono ?_; rintro e w' ⟨rfl,rfl⟩)
   | (go_at_call 295; refine (isinf_any n _ h).mono ?_; rintro e w' ⟨rfl,rfl⟩))
  go_ret
  refine ⟨?_,rfl⟩
  rw [← HQ.out,H1.out]
  simp
theorem isLowNought_any (n:Nat) (w:World):Calls Tryz.prog 265 #[.float .f64 n] w fun e w'=>e = .returned (.bool (Flo.isZ n && Flo.S n)) ∧ w = w':=by
 cases hz:Flo.isZ n
 all_goals
  have hz2:(FloatKind.f64.format.order n 0 == some Ordering.eq) = Flo.isZ n:=Flo.zero_eq n
  rw [hz] at hz2
  clear hz
  go_enter Tryz.func265,Tryz.ntmps265
  go_wp2_with (go_at_call 296; refine (signbit_any n _).mono ?_; rintro e w' ⟨rfl,rfl⟩)
  go_ret
  exact ⟨rfl,rfl⟩
theorem may_any (n:Nat) (w:World) (h:n < 18446744073709551616):Calls Tryz.prog 231 #[.float .f64 n] w fun e w'=>e = .returned (.bool (Flo.may n)) ∧ w = w':=by
 have HM:Hid (Flo.may n = (Flo.isFin n && !(Flo.isZ n && Flo.S n))):=rfl
 have hfin:=isFinite_any n w h
 cases hf:Flo.isFin n
 all_goals
  have H1:=Hy hf
  rw [hf] at hfin
  have HF:=Hy hfin
  clear hf hfin
  go_enter Tryz.func231,Tryz.ntmps231
  go_wp2_with (first
   | (go_at_call 264; refine HF.out.mono ?_; rintro e w' ⟨rfl,rfl⟩)
   | (go_at_call 265; refine (isLowNought_any n _).mono ?_; rintro e w' ⟨rfl,rfl⟩))
  go_ret
  refine ⟨?_,rfl⟩
  rw [HM.out,H1.out]
  simp
def normV (n:Nat):Nat:=if Flo.isFin n then (if Flo.isZ n then 0 else n) else 0
theorem norm_any (n:Nat) (w:World) (h:n < 18446744073709551616):Calls Tryz.prog 240 #[.float .f64 n] w fun e w'=>e = .returned (.tuple #[.float .f64 (normV n),.bool (Flo.isFin n)]) ∧ w = w':=by
 have hfin:=isFinite_any n w h
 have HV:Hid (normV n = if Flo.isFin n then (if Flo.isZ n then 0 else n) else 0):=rfl
 cases hf:Flo.isFin n <;> cases hz:Flo.isZ n
 all_goals
  have hz2:(FloatKind.f64.format.order n 0 == some Ordering.eq) = Flo.isZ n:=Flo.zero_eq n
  rw [hz] at hz2
  rw [hf] at hfin
  have HF:=Hy hfin
  have H1:=Hy hf
  have H2:=Hy hz
  clear hf hz hfin
  go_enter Tryz.func240,Tryz.ntmps240
  go_wp2_with (go_at_call 264; refine HF.out.mono ?_; rintro e w' ⟨rfl,rfl⟩)
  go_ret2
  refine ⟨?_,rfl⟩
  rw [HV.out,H1.out,H2.out]
  rfl
end
section
open Go.RowKit
def hx (d:Nat):UInt8:=if d < 10 then UInt8.ofNat (48 + d) else UInt8.ofNat (87 + d)
def hexs:Nat → Nat → List UInt8
 | 0,_=>[]
 | j + 1,v=>hx (v / 16 ^ j % 16) :: hexs j v
theorem hexs_len (j v:Nat):(hexs j v).length = j:=by
 induction j with
 | zero=>rfl
 | succ j ih=>simp [hexs,ih]
theorem hx_run (k:IntKind) (d:Nat) (hd:d < 16) (w:World):(Instr.index 9 (.string ⟨#[48,49,50,51,52,53,54,55,56,57,97,98,99,100,101,102]⟩) (.int k (d:Int))).run Tryz.prog w = .ok (.int .u8 ((hx d).toNat:Int)) w:=by
 have h:d = 0 ∨ d = 1 ∨ d = 2 ∨ d = 3 ∨ d = 4 ∨ d = 5 ∨ d = 6 ∨ d = 7 ∨ d = 8 ∨ d = 9 ∨ d = 10 ∨ d = 11 ∨ d = 12 ∨ d = 13 ∨ d = 14 ∨ d = 15:=by omega
 rcases h with rfl | rfl | rfl | rfl | rfl | rfl | rfl | rfl | rfl | rfl | rfl | rfl | rfl | rfl | rfl | rfl
 all_goals (show _ = _; kernel_rfl)
def bitsV (n:Nat):Nat:=if Flo.isNaN n then 9221120237041090561 else n
theorem bits_any (n:Nat) (w:World):Calls Tryz.prog 203 #[.float .f64 n] w fun e w'=>e = .returned (.int .u64 (bitsV n:Int)) ∧ w = w':=by
 have hb:=bits_run n
 have HV:Hid (bitsV n = if Flo.isNaN n then 9221120237041090561 else n):=rfl
 have hnan:=isnan_any n w
 cases h1:Flo.isNaN n
 all_goals
  have H1:=Hy h1
  rw [h1] at hnan
  have HN:=Hy hnan
  clear h1 hnan
  go_enter Tryz.func203,Tryz.ntmps203
  go_wp2_with (go_at_call 249; refine HN.out.mono ?_; rintro e w' ⟨rfl,rfl⟩)
  go_ret
  refine ⟨?_,rfl⟩
  rw [HV.out,H1.out]
  rfl
def harr (v j:Nat):List Value:=(List.replicate (16 - j) 0 ++ hexs j v).map Y
theorem harr_step (v j:Nat) (h:j < 16):(harr v j).toArray.setIfInBounds (15 - j) (Y (hx (v / 16 ^ j % 16))) = (harr v (j + 1)).toArray:=by
 apply Array.ext'
 simp only [harr,Array.toList_setIfInBounds,hexs,List.map_append,List.map_cons]
 obtain ⟨m,hm⟩:∃ m,16 - j = m + 1:=⟨15 - j,by omega⟩
 rw [hm,show 15 - j = m by omega,show 16 - (j + 1) = m by omega,List.replicate_succ',List.map_append,List.append_assoc,List.set_append_right _ _ (by simp)]
 simp
theorem harr_at (v j i:Nat) (hj:j ≤ 16) (hi:i < 16):∃ x:Int,(harr v j).toArray[i]? = some (.int .u8 x):=by
 have hl:(List.replicate (16 - j) 0 ++ hexs j v).length = 16:=by rw [List.length_append,hexs_len,List.length_replicate]; omega
 have h2:((List.replicate (16 - j) 0 ++ hexs j v).map Y)[i]? = some (Y ((List.replicate (16 - j) 0 ++ hexs j v).getD i 0)):=by
  rw [List.getElem?_map,List.getElem?_eq_getElem (by rw [hl]; exact hi)]
  simp [List.getElem?_eq_getElem (show i < (List.replicate (16 - j) 0 ++ hexs j v).length by rw [hl]; exact hi)]
 exact ⟨_,by rw [List.getElem?_toArray]; exact h2⟩
theorem put_good (n:Nat) (w:World) (h:n < 18446744073709551616) (hm:Flo.may n = true):Calls Tryz.prog 185 #[.float .f64 n] w fun e w'=>e = .returned (.string ⟨(hexs 16 (bitsV n)).toArray⟩) ∧ Below w.heap.size w w':=by
 have hmay:=may_any n w h
 rw [hm] at hmay
 have HM:=Hy hmay
 have hbv:bitsV n < 18446744073709551616:=by unfold bitsV; split <;> omega
 clear hmay hm h
 go_enter Tryz.func185,Tryz.ntmps185
 go_wp2_with (first
  | (go_at_call 231; refine HM.out.mono ?_; rintro e w' ⟨rfl,rfl⟩)
  | (go_at_call 203; refine (bits_any n _).mono ?_; rintro e w' ⟨rfl,rfl⟩))
 generalize hv:bitsV n = v at *
 have HVV:=Hy hv
 clear hv
 go_loopw [4,5] (fun r i wr=>∃ j:Nat,j ≤ 16 ∧ i = .int .i64 (15 - (j:Int)) ∧ r = .int .u64 ((v / 16 ^ j:Nat):Int) ∧ Whole wr w.heap.size 286 (harr v j).toArray ∧ Below w.heap.size w wr) (fun _ i _=>(intOf i + 1).toNat)
 case atStart=>exact ⟨0,by omega,rfl,by simp,Whole.made _ _ _,(Below.refl _ _).alloc (Nat.le_refl _) _⟩
 case round=>
  obtain ⟨j,hj,rfl,rfl,hW,hB⟩:=hrel
  have HW:=Hy hW
  have HB:=Hy hB
  clear hW hB
  by_cases hlt:j < 16
  ·have hr:v / 16 ^ j < 18446744073709551616:=Nat.lt_of_le_of_lt (Nat.div_le_self _ _) hbv
   have HR:Hid (v / 16 ^ (j + 1) = v / 16 ^ j / 16):=by show _ = _; rw [Nat.pow_succ,Nat.div_div_eq_div_mul]
   obtain ⟨x,hx⟩:=harr_at v j (15 - j) hj (by omega)
   have hc:wr.cell? ⟨w.heap.size,15 - j,none⟩ = some (.int .u8 x):=(HW.out.at_ (15 - j)).trans hx
   have hz:=HW.out.thawed (15 - j)
   have hst:=Hy (harr_step v j hlt)
   generalize v / 16 ^ j = r at *
   have hidx:=hx_run .u64 (r % 16) (by omega)
   rw [show ((r % 16:Nat):Int) = (r:Int) % 16 by omega] at hidx
   clear hx
   go_wp2
   go_roundw
   case rel=>
    refine ⟨j + 1,by omega,?_,?_,?_,?_⟩
    ·rw [show (15:Int) - (j:Int) - 1 = 15 - ((j + 1:Nat):Int) by omega]
    ·rw [HR.out]; rfl
    ·rw [← hst.out]; exact HW.out.put _ _
    ·exact HB.out.setCell (Nat.le_refl _) _
   case measure=>simp [intOf]; omega
  ·have hW16:Whole wr w.heap.size 286 ((hexs 16 v).map Y).toArray:=by
    have:=HW.out
    rw [show j = 16 by omega] at this
    exact this
   have hby:Bytes wr (.slice (some ⟨w.heap.size,0,none⟩) 16 16) (hexs 16 v):=⟨_,16,by rw [hexs_len],by rw [hexs_len]; decide,by decide,fun _=>⟨_,_,rfl,fun i hi=>by
    rw [Nat.zero_add,hW16.at_ i,List.getElem?_toArray,← some_y _ _ hi]⟩⟩
   have hcv:=bytes_str (P:=Tryz.prog) 63 9 5 Tryz.underlying63 Tryz.underlying5 Tryz.underlying9 hby
   clear hW16 hby HW
   generalize hdg:(hexs 16 v).toArray = digits at *
   have HD:=Hy hdg
   clear hdg
   go_wp2
   go_ret
   exact ⟨by rw [HVV.out,HD.out]; rfl,HB.out⟩
end
end Go.Proofs.YtlfmooihcigolaaGreatDoor

/-
  GetW, ComT, ComP, ComN.
-/
import Derived.Test.YtlfmooihcigolaaGreatDoorMav
set_option maxRecDepth 100000
set_option maxHeartbeats 8000000
namespace Go.Proofs.YtlfmooihcigolaaGreatDoor
open Go.RowKit
theorem wof_any (n:Nat) (w:World) (h:n < 18446744073709551616):Calls Tryz.prog 299 #[.int .u64 (n:Int)] w fun e w'=>e = .returned (.tuple #[.float .f64 (ofV n),.bool (Flo.may n)]) ∧ w = w':=by
 have hf:=frombits_run n
 have hm:=may_any n w h
 have HV:Hid (ofV n = if Flo.may n then n else 0):=rfl
 cases m:Flo.may n
 all_goals
  rw [m] at hm
  have HM:=Hy hm
  have M:=Hy m
  clear m hm h
  go_enter Tryz.func299,Tryz.ntmps299
  go_wp2_with (go_at_call 231; refine HM.out.mono ?_; rintro e w' ⟨rfl,rfl⟩)
  go_ret2
  exact ⟨by rw [HV.out,M.out]; rfl,rfl⟩
theorem wget_any (l:List UInt8) (w:World) (hl:l.length = 16):Calls Tryz.prog 271 #[.string ⟨l.toArray⟩] w fun e w'=>e = .returned (.tuple #[.float .f64 (getE l).1,.bool (getE l).2]) ∧ w = w':=by
 have hb0:((l.length:Int) != 16) = false:=by simp [hl]
 obtain ⟨fin,hfin⟩:∃ fin,fin = hgo 0 l:=⟨_,rfl⟩
 have HE:Hid (getE l = getO fin):=by show _ = _; rw [hfin]; rfl
 have HF:=Hy hfin
 have HL:=Hy hl
 clear hfin
 go_enter Tryz.func271,Tryz.ntmps271
 go_wp2
 go_loopw [4,12] (fun z i wr=>∃ k v:Nat,k ≤ 16 ∧ v < 16 ^ k ∧ i = .int .i64 (k:Int) ∧ z = .int .u64 (v:Int) ∧ wr = w ∧ fin = hgo v (l.drop k)) (fun _ i _=>16 - (intOf i).toNat)
 case atStart=>exact ⟨0,0,by omega,by decide,rfl,rfl,rfl,HF.out⟩
 case round=>
  obtain ⟨k,v,hk,hv,rfl,rfl,rfl,hgo'⟩:=hrel
  by_cases hlt:k < 16
  ·have hidx:=str_at l k (by omega)
   have hdrop:hgo v (l.drop k) = if hval (l.getD k 0) < 0 then none else hgo (v * 16 + (hval (l.getD k 0)).toNat) (l.drop (k + 1)):=by
    have hkl:k < l.length:=by omega
    rw [List.drop_eq_getElem_cons hkl,hgo]
    simp [List.getElem?_eq_getElem hkl]
   rw [hdrop] at hgo'
   have hvb:v < 1152921504606846976:=by
    have:v < 16 ^ 15:=Nat.lt_of_lt_of_le hv (Nat.pow_le_pow_right (by decide) (by omega))
    simpa using this
   have hkk:decide ((k:Int) < (l.length:Int)) = true:=by simp; omega
   have hpow:v * 16 + 15 < 16 ^ (k + 1):=by rw [Nat.pow_succ]; omega
   have HPOW:=Hy hpow
   clear hdrop hv hl hpow
   generalize l.getD k 0 = c at *
   have hc:=hval_lt c
   have HD:=Hy (digit_any c)
   by_cases hneg:hval c < 0
   ·rw [if_pos hneg] at hgo'
    have HG:=Hy hgo'
    clear hgo'
    go_wp2_with fail
    refine (HD.out _).mono ?_
    rintro e w' ⟨rfl,rfl⟩
    go_wp2
    go_ret2
    exact ⟨by rw [HE.out,HG.out]; rfl,rfl⟩
   ·rw [if_neg hneg] at hgo'
    obtain ⟨d,hd⟩:∃ d:Nat,hval c = (d:Int):=⟨(hval c).toNat,by omega⟩
    rw [hd] at hgo' hneg hc HD
    rw [Int.toNat_natCast] at hgo'
    have HG:=Hy hgo'
    have hs0:(v:Int) * 16 % 18446744073709551616 = ((v * 16:Nat):Int):=by omega
    have hd0:(d:Int) % 18446744073709551616 = (d:Int):=by omega
    clear hgo' hd
    go_wp2_with fail
    refine (HD.out _).mono ?_
    rintro e w' ⟨rfl,rfl⟩
    go_wp2
    go_roundw
    case rel=>exact ⟨k + 1,v * 16 + d,by omega,by have:=HPOW.out; omega,by go_num,by go_num,trivial,HG.out⟩
    case measure=>simp [intOf]; omega
  ·obtain rfl:k = 16:=by omega
   have hend:l.drop 16 = []:=List.drop_eq_nil_of_le (by omega)
   rw [hend] at hgo'
   have HG:Hid (fin = some v):=hgo'
   have hv2:v < 18446744073709551616:=by simpa using hv
   have HO:=Hy (wof_any v wr hv2)
   clear hgo' hend hv
   go_wp2_with fail
   refine HO.out.mono ?_
   rintro e w' ⟨rfl,rfl⟩
   go_wp2
   go_ret2
   exact ⟨by rw [HE.out,HG.out]; rfl,rfl⟩
theorem wget_len (l:List UInt8) (w:World) (hl:l.length ≠ 16):Calls Tryz.prog 271 #[.string ⟨l.toArray⟩] w fun e w'=>e = .returned (.tuple #[.float .f64 0,.bool false]) ∧ w = w':=by
 have hb0:((l.length:Int) != 16) = true:=by simp; omega
 clear hl
 go_enter Tryz.func271,Tryz.ntmps271
 go_wp2
 go_ret2
 exact ⟨rfl,rfl⟩
def getV (l:List UInt8):Nat × Bool:=if l.length = 16 then getE l else (0,false)
theorem wgetV_any (l:List UInt8) (w:World):Calls Tryz.prog 271 #[.string ⟨l.toArray⟩] w fun e w'=>e = .returned (.tuple #[.float .f64 (getV l).1,.bool (getV l).2]) ∧ w = w':=by
 unfold getV
 by_cases h:l.length = 16
 ·rw [if_pos h]
  exact wget_any l w h
 ·rw [if_neg h]
  exact wget_len l w h
def whenW:List UInt8:=[119,104,101,110,32]
theorem ctime_any (tx:List UInt8) (w:World):Calls Tryz.prog 236 #[.string ⟨tx.toArray⟩] w fun e w'=>(if starts tx whenW && (getV (behind tx whenW)).2 then e = .returned (.float .f64 (getV (behind tx whenW)).1) else e = .panicked (fault 1)) ∧ w = w':=by
 have HC:=Hy fun W=>cutp_any tx whenW W
 have HG:=Hy fun W=>wgetV_any (behind tx whenW) W
 generalize (getV (behind tx whenW)).1 = x at *
 generalize (getV (behind tx whenW)).2 = ok at *
 generalize starts tx whenW = st at *
 generalize behind tx whenW = bh at *
 go_enter Tryz.func236,Tryz.ntmps236
 go_wp2_with fail
 refine (HC.out _).mono ?_
 rintro e w1 ⟨rfl,rfl⟩
 go_wp2_with fail
 refine (HG.out _).mono ?_
 rintro e w2 ⟨rfl,rfl⟩
 cases st
 ·go_wp2_with fail
  refine (must_no _ _).mono ?_
  rintro e w' ⟨rfl,rfl⟩
  exact ⟨rfl,by rfl,rfl⟩
 ·go_wp2_with fail
  cases ok
  ·refine (must_no _ _).mono ?_
   rintro e w' ⟨rfl,rfl⟩
   exact ⟨rfl,by rfl,rfl⟩
  ·refine (must_yes _ _).mono ?_
   rintro e w' ⟨rfl,rfl⟩
   go_wp2
   go_ret
   exact ⟨by rfl,rfl⟩
theorem cline_any (B b:Nat) (l wd tx:List UInt8) (w:World) (h:Bd w B b l) (hl:l.length + wd.length + tx.length ≤ 1048576) (hBw:B ≤ w.heap.size) :
  Calls Tryz.prog 183 #[.pointer (some ⟨b,0,none⟩),.string ⟨wd.toArray⟩,.string ⟨tx.toArray⟩] w fun e w'=>e = .returned (.tuple #[]) ∧ BdU w' B b (l ++ wd ++ tx ++ [10]) ∧ Below B w w' ∧ Kp b w w':=by
 have H1:=Hy (wstr_any B b l wd w h (by omega) hBw)
 clear h
 go_enter Tryz.func183,Tryz.ntmps183
 go_wp2_with fail
 refine H1.out.mono ?_
 rintro e w1 ⟨rfl,hb,hB1,hK1⟩
 have H2:=Hy (wstr_any B b _ tx w1 hb.bd (by simp; omega) (Nat.le_trans hBw hB1.size))
 have HBK:=Hy (And.intro hB1 hK1)
 clear hb hB1 hK1 H1
 go_wp2_with fail
 refine H2.out.mono ?_
 rintro e w2 ⟨rfl,hb,hB2,hK2⟩
 have H3:=Hy (wbyte_any B b _ 10 _ rfl w2 hb.bd (by simp; omega) (Nat.le_trans hBw (Nat.le_trans HBK.out.1.size hB2.size)))
 have HBK2:=Hy (And.intro (HBK.out.1.trans hB2) (HBK.out.2.trans hK2))
 clear hb hB2 hK2 H2 HBK
 go_wp2_with fail
 refine H3.out.mono ?_
 rintro e w3 ⟨rfl,hb,hB3,hK3⟩
 have HF:=Hy (And.intro hb (And.intro (HBK2.out.1.trans hB3) (HBK2.out.2.trans hK3)))
 clear hb hB3 hK3 H3
 go_wp2
 go_end0
 exact ⟨rfl,HF.out⟩
def lineP (x:Nm):List UInt8:=[112,97,114,101,110,116,32] ++ hexOf x.l ++ [10]
def bytesC (x:Cm):List UInt8:=[116,114,101,101,32] ++ hexOf x.tree.l ++ [10] ++ x.parents.flatMap lineP ++ [119,104,101,110,32] ++ hexs 16 (bitsV x.time) ++ [10] ++ [10] ++ x.note
theorem lineP_len (x:Nm):(lineP x).length = 72:=by simp [lineP,hexOf_len,x.h]
theorem linesP_len (l:List Nm):(l.flatMap lineP).length = l.length * 72:=by
 induction l with
 | nil=>rfl
 | cons x l ih=>rw [List.flatMap_cons,List.length_append,ih,lineP_len,List.length_cons]; omega
theorem linesP_take (l:List Nm) (k:Nat) (h:k < l.length):(l.take (k + 1)).flatMap lineP = (l.take k).flatMap lineP ++ lineP (l.getD k default):=by
 rw [List.take_succ_eq_append_getElem h,List.flatMap_append]
 simp [List.getD,List.getElem?_eq_getElem h]
theorem tree_range {w:World} {g:Nat} {A:Option Addr} {c:Nat} {x:Cm} (h:Whole w g 47 (encC A c x).toArray):w.rangeAt g 0 (encN x.tree):=by
 intro j v hv
 have hj:=(List.getElem?_eq_some_iff.1 hv).1
 rw [Nat.zero_add,h.at_,List.getElem?_toArray,encC,List.getElem?_append_left hj]
 exact hv
theorem infoC_s (A:Option Addr) (c:Nat) (x:Cm):(Tryz.prog.info? 47).map (·.size) = some (encC A c x).toArray.size:=by rw [List.size_toArray,encC_len]; exact infoC
theorem cput_any (A:Option Addr) (c:Nat) (x:Cm) (w:World) (hA:ArgN w A c x.parents) (ht:x.time < 18446744073709551616) :
  Calls Tryz.prog 131 #[.agg (encC A c x).toArray] w fun e w'=>e = .returned (.tuple #[.string ⟨(if mayC x then bytesC x else []).toArray⟩,.bool (mayC x)]) ∧ Below w.heap.size w w':=by
 have HW:=Hy (Whole.made w 47 (encC A c x).toArray)
 have HB:=Hy ((Below.refl w.heap.size w).alloc (Nat.le_refl _) (.cells (encC A c x).toArray 47))
 have HA:=Hy (hA.later HB.out)
 have HMC:=Hy (cmay_any A c x _ HA.out ht)
 have HIC:=Hy (infoC_s A c x)
 have hs0:(w.alloc (.cells (encC A c x).toArray 47)).heap.size = w.heap.size + 1:=by simp
 have hlc:=hA.1
 have HAO:=Hy hA
 clear hA
 cases hm:mayC x with
 | false=>
  rw [hm] at HMC
  clear hm
  go_enter Tryz.func131,Tryz.ntmps131
  go_wp2_with (refine wpList_load_row rfl 47 _ rfl w.heap.size rfl 47 (encC A c x).toArray (0,0) _ HW.out Tryz.underlying47 rfl HIC.out ?_)
  refine HMC.out.mono ?_
  rintro e w1 ⟨rfl,hB1⟩
  have HBF:=Hy (hTr HB hB1)
  clear hB1
  go_wp2
  go_ret2
  exact ⟨rfl,HBF.out⟩
 | true=>
  rw [hm] at HMC
  have hm':=hm
  simp only [mayC,mayP,Bool.and_eq_true,decide_eq_true_eq] at hm'
  obtain ⟨⟨⟨hp4,-⟩,hmt⟩,hnt⟩:=hm'
  have HPUT:=Hy fun W=>put_good x.time W ht hmt
  clear hm hmt
  go_enter Tryz.func131,Tryz.ntmps131
  go_wp2_with (refine wpList_load_row rfl 47 _ rfl w.heap.size rfl 47 (encC A c x).toArray (0,0) _ HW.out Tryz.underlying47 rfl HIC.out ?_)
  refine HMC.out.mono ?_
  rintro e w1 ⟨rfl,hB1⟩
  have HW1:=Hy (HW.out.below hB1 HW.out.lt)
  have HB1:=Hy (hTr HB hB1)
  have HA1:=Hy (HA.out.later hB1)
  have hg1:w.heap.size < w1.heap.size:=HW1.out.lt
  clear hB1 HMC
  obtain ⟨b,hb⟩:∃ b,b = w1.heap.size:=⟨_,rfl⟩
  have HBD2:Hid (Bd (w1.alloc (.cells #[.pointer none,.slice none 0 0] 97)) b b []):=by rw [hb]; exact bd_new w1
  have HB2:=Hy (HB1.out.alloc HB1.out.size (.cells #[.pointer none,.slice none 0 0] 97))
  have HW2:=Hy (HW1.out.past (.cells #[.pointer none,.slice none 0 0] 97))
  have HA2:=Hy (HA1.out.later ((Below.refl w1.heap.size w1).alloc (Nat.le_refl _) (.cells #[.pointer none,.slice none 0 0] 97)))
  have hs2:(w1.alloc (.cells #[.pointer none,.slice none 0 0] 97)).heap.size = b + 1:=by rw [hb]; simp
  have HTR2:=Hy (tree_range HW2.out)
  have HXT:=Hy (infoX x.tree)
  rw [← hb] at hg1
  have hgb:w.heap.size ≠ b:=by omega
  go_wp2_with (refine wpList_load_mid rfl 30 _ rfl w.heap.size 0 rfl (encN x.tree) _ HTR2.out Tryz.underlying30 rfl HXT.out ?_)
  rw [← hb]
  generalize w1.alloc (.cells #[.pointer none,.slice none 0 0] 97) = w2 at *
  clear hb
  refine (hex_any x.tree.l _ x.tree.h).mono ?_
  rintro e w3 ⟨rfl,hB3⟩
  have HB3:=Hy (hTr HB2 hB3)
  have HW3:=Hy (HW2.out.below hB3 HW2.out.lt)
  have HA3:=Hy (HA2.out.later hB3)
  have hs3:b < w3.heap.size:=by have:=hB3.size; omega
  have hhl:(hexOf x.tree.l).length = 64:=by rw [hexOf_len,x.tree.h]
  have HCL:=Hy (cline_any b b [] [116,114,101,101,32] (hexOf x.tree.l) w3 (HBD2.out.later hB3) (by simp; omega) (by omega))
  clear hB3 HBD2
  generalize hht:hexOf x.tree.l = ht at *
  have HHT:=Hy hht
  clear hht
  go_wp2_with fail
  refine HCL.out.mono ?_
  rintro e w4 ⟨rfl,hbd,hB4,hK4⟩
  have HB4:=Hy (HB3.out.trans (hB4.mono (Nat.le_of_lt hg1)))
  have HW4:=Hy (HW3.out.kept hK4 hgb (by decide))
  have HBD4:=Hy hbd.bd
  have hs4:b < w4.heap.size:=by have:=hB4.size; omega
  clear hbd hB4 hK4 HCL HB3 HW3 HA3 HB2 HW2 HA2 HTR2
  have c32:w4.cell? ⟨w.heap.size,32,none⟩ = some (.slice A x.parents.length c):=(HW4.out.at_ 32).trans (encC_32 A c x)
  obtain ⟨hd,hhd⟩:∃ hd,hd = [] ++ [116,114,101,101,32] ++ ht ++ [10]:=⟨_,rfl⟩
  have hdl:hd.length ≤ 100:=by rw [hhd]; simp; omega
  have HHD:=Hy hhd
  rw [← hhd] at HBD4
  clear hhd
  go_wp2
  go_loopg [6,17] x.parents.length (fun g _ s17 wr=>∃ k:Nat,k ≤ x.parents.length ∧ x.parents.length - k ≤ g ∧ s17 = .int .i64 k ∧ Hid (Below w.heap.size w wr) ∧ b < wr.heap.size ∧ Hid (Whole wr w.heap.size 47 (encC A c x).toArray) ∧ Hid (Bd wr b b (hd ++ (x.parents.take k).flatMap lineP)))
  case atStart=>exact ⟨0,Nat.zero_le _,by omega,rfl,HB4,hs4,HW4,Hy (by rw [List.take_zero,List.flatMap_nil,List.append_nil]; exact HBD4.out)⟩
  case round=>
   obtain ⟨k,hk,hg,rfl,hwr,hsz,hwh,hbd⟩:=hrel
   by_cases hlt:k < x.parents.length
   ·have hlt':(k:Int) < (x.parents.length:Int):=by omega
    obtain ⟨bb,o,rfl,hr⟩:=(HAO.out.later hwr.out).2.2.2 (by omega)
    obtain ⟨y,hy⟩:∃ y,y = x.parents.getD k default:=⟨_,rfl⟩
    have hrk:=hr k hlt
    rw [← hy] at hrk
    have HRK:=Hy hrk
    have HLT:=Hy (linesP_take x.parents k hlt)
    rw [← hy] at HLT
    have hpl:((x.parents.take k).flatMap lineP).length ≤ 288:=by rw [linesP_len,List.length_take]; omega
    have HXI:=Hy (infoX y)
    have HXS:=Hy (infoXs y)
    clear hr hrk hy
    generalize (x.parents.take k).flatMap lineP = pre at *
    go_wp2_with (first
     | (refine wpList_load_mid rfl 30 _ rfl bb (o + k * 32) rfl (encN y) _ HRK.out Tryz.underlying30 rfl HXI.out ?_)
     | (refine wpList_store_whole rfl 30 _ _ rfl wr.heap.size (encN y).toArray rfl rfl 30 _ (Whole.made wr _ _) HXS.out (by rw [encN_size]; kernel_rfl) (encN_all y) ?_; intro w5 hWn hGn; have HW5:=Hy hWn; have D5:=Hy (made_belowC hGn); clear hWn hGn)
     | (refine wpList_load_row rfl 30 _ rfl wr.heap.size rfl 30 (encN y).toArray (0,0) _ HW5.out Tryz.underlying30 rfl HXS.out ?_))
    refine (hex_any y.l _ y.h).mono ?_
    rintro e w6 ⟨rfl,hB6⟩
    have HD6:=Hy (hTr D5 hB6)
    have HB6:=Hy (hTr hwr HD6.out)
    have HW6:=Hy (hwh.out.below HD6.out hwh.out.lt)
    have hs6:b < w6.heap.size:=by have:=HD6.out.size; omega
    have hhy:(hexOf y.l).length = 64:=by rw [hexOf_len,y.h]
    have HCL:=Hy (cline_any b b (hd ++ pre) [112,97,114,101,110,116,32] (hexOf y.l) w6 (hbd.out.later HD6.out) (by simp; omega) (by omega))
    have HLN:Hid (hd ++ pre ++ [112,97,114,101,110,116,32] ++ hexOf y.l ++ [10] = hd ++ (x.parents.take (k + 1)).flatMap lineP):=by
     show _ = _
     rw [HLT.out]
     simp [lineP]
    clear hB6
    generalize hexOf y.l = hy at *
    go_wp2_with fail
    refine HCL.out.mono ?_
    rintro e w7 ⟨rfl,hbd7,hB7,hK7⟩
    have HB7:=Hy (HB6.out.trans (hB7.mono (Nat.le_of_lt hg1)))
    have HW7:=Hy (HW6.out.kept hK7 hgb (by decide))
    have hs7:b < w7.heap.size:=by have:=hB7.size; omega
    have hbd8:=hbd7.bd
    rw [HLN.out] at hbd8
    have HBD8:=Hy hbd8
    clear hbd7 hB7 hK7 hbd8 HCL
    go_wp2
    go_roundg (x.parents.length - (k + 1))
    case measure=>omega
    case rel=>exact ⟨k + 1,by omega,Nat.le_refl _,by go_num,HB7,hs7,HW7,HBD8⟩
   ·obtain rfl:k = x.parents.length:=by omega
    rw [List.take_length] at hbd
    have hpl:(x.parents.flatMap lineP).length ≤ 288:=by rw [linesP_len]; omega
    generalize hPP:x.parents.flatMap lineP = pp at *
    have HPP:=Hy hPP
    have c33:wr.cell? ⟨w.heap.size,33,none⟩ = some (.float .f64 x.time):=(hwh.out.at_ 33).trans (encC_33 A c x)
    clear hPP
    go_wp2_with fail
    refine (HPUT.out _).mono ?_
    rintro e w5 ⟨rfl,hB5⟩
    have HB5:=Hy (hTr hwr hB5)
    have HW5:=Hy (hwh.out.below hB5 hwh.out.lt)
    have hs5:b < w5.heap.size:=by have:=hB5.size; omega
    have hxl:=hexs_len 16 (bitsV x.time)
    have HCL:=Hy (cline_any b b (hd ++ pp) [119,104,101,110,32] (hexs 16 (bitsV x.time)) w5 (hbd.out.later hB5) (by simp; omega) (by omega))
    clear hB5 c33
    generalize hHX:hexs 16 (bitsV x.time) = hx at *
    have HHX:=Hy hHX
    clear hHX
    go_wp2_with fail
    refine HCL.out.mono ?_
    rintro e w6 ⟨rfl,hbd6,hB6,hK6⟩
    have HB6:=Hy (HB5.out.trans (hB6.mono (Nat.le_of_lt hg1)))
    have HW6:=Hy (HW5.out.kept hK6 hgb (by decide))
    have hs6:b < w6.heap.size:=by have:=hB6.size; omega
    have HCL2:=Hy (cline_any b b _ [] [] w6 hbd6.bd (by simp; omega) (by omega))
    clear hB6 hK6 hbd6 HCL
    go_wp2_with fail
    refine HCL2.out.mono ?_
    rintro e w7 ⟨rfl,hbd7,hB7,hK7⟩
    have HB7:=Hy (HB6.out.trans (hB7.mono (Nat.le_of_lt hg1)))
    have hW7:=HW6.out.kept hK7 hgb (by decide)
    have hs7:b < w7.heap.size:=by have:=hB7.size; omega
    have c34:w7.cell? ⟨w.heap.size,34,none⟩ = some (.string ⟨x.note.toArray⟩):=(hW7.at_ 34).trans (encC_34 A c x)
    have HWS:=Hy (wstr_any b b _ x.note w7 hbd7.bd (by simp; omega) (by omega))
    clear hB7 hK7 hbd7 HCL2 hW7
    go_wp2_with fail
    refine HWS.out.mono ?_
    rintro e w8 ⟨rfl,hbd8,hB8,-⟩
    have HB8:=Hy (HB7.out.trans (hB8.mono (Nat.le_of_lt hg1)))
    have hs8:b < w8.heap.size:=by have:=hB8.size; omega
    have HSS:=Hy (bstr_any b b _ w8 hbd8.bd (by omega))
    clear hbd8 hB8 HWS
    go_wp2_with fail
    refine HSS.out.mono ?_
    rintro e w9 ⟨rfl,hB9⟩
    have HB9:=Hy (HB8.out.trans (hB9.mono (Nat.le_of_lt hg1)))
    have HLE:Hid (hd ++ pp ++ [119,104,101,110,32] ++ hx ++ [10] ++ [] ++ [] ++ [10] ++ x.note = bytesC x):=by
     show _ = _
     unfold bytesC
     rw [HHT.out,HPP.out,HHX.out,HHD.out]
     simp
    rw [HLE.out]
    clear hB9
    go_wp2
    go_ret2
    exact ⟨rfl,HB9.out⟩
theorem bytesC_le (x:Cm) (h:mayC x = true):(bytesC x).length ≤ 1000:=by
 simp only [mayC,mayP,Bool.and_eq_true,decide_eq_true_eq] at h
 have h1:=linesP_len x.parents
 have h2:=hexOf_len x.tree.l
 have h3:=x.tree.h
 have h4:=hexs_len 16 (bitsV x.time)
 simp only [bytesC,List.length_append,List.length_cons,List.length_nil]
 omega
def noC:Cm:=⟨⟨List.replicate 32 0,List.length_replicate⟩,[],0,[]⟩
def treeW:List UInt8:=[116,114,101,101,32]
def parW:List UInt8:=[112,97,114,101,110,116,32]
def idV (tx wd:List UInt8):Option Nm:=if starts tx wd && (getId (behind tx wd)).2 then some (getN (behind tx wd)) else none
def timV (tx:List UInt8):Option Nat:=if starts tx whenW && (getV (behind tx whenW)).2 then some (getV (behind tx whenW)).1 else none
def parGo:Nat → List UInt8 → List UInt8 → List Nm → Option (List Nm × List UInt8 × List UInt8)
 | 0,_,_,_=>none
 | f + 1,tx,s,acc=>
  if starts tx parW then
   if acc.length < 4 then
    match idV tx parW with
    | some x=>
     match lineV s with
     | some p=>parGo f p.1 p.2 (acc ++ [x])
     | none=>none
    | none=>none
   else none
  else some (acc,tx,s)
def readC (s:List UInt8):Option Cm:=
 match lineV s with
 | none=>none
 | some p0=>
  match idV p0.1 treeW with
  | none=>none
  | some tr=>
   match lineV p0.2 with
   | none=>none
   | some p1=>
    match parGo 5 p1.1 p1.2 [] with
    | none=>none
    | some q=>
     match timV q.2.1 with
     | none=>none
     | some tm=>
      match lineV q.2.2 with
      | none=>none
      | some p2=>if p2.1 = [] then (if mayC ⟨tr,q.1,tm,p2.2⟩ then some ⟨tr,q.1,tm,p2.2⟩ else none) else none
theorem starts_put (wd r:List UInt8):starts (wd ++ r) wd = true:=by
 unfold starts Lib.hasPrefix
 rw [List.isPrefixOf_iff_prefix]
 exact ⟨r,rfl⟩
theorem behind_put (wd r:List UInt8):behind (wd ++ r) wd = r:=by
 unfold behind Lib.trimPrefix
 rw [if_pos (show Lib.hasPrefix (wd ++ r) wd = true from starts_put wd r),List.drop_left]
theorem idV_put (x:Nm) (wd:List UInt8):idV (wd ++ hexOf x.l) wd = some x:=by
 unfold idV
 rw [starts_put,behind_put,getId_hex x.l x.h,getN_hex]
 rfl
theorem may_bits (t:Nat) (h:Flo.may t = true):bitsV t = t:=by
 unfold bitsV
 rw [if_neg]
 intro hn
 unfold Flo.may Flo.isFin at h
 unfold Flo.isNaN at hn
 simp only [Bool.and_eq_true,decide_eq_true_eq] at h hn
 omega
theorem timV_put (t:Nat) (h:t < 18446744073709551616) (hm:Flo.may t = true):timV (whenW ++ hexs 16 (bitsV t)) = some t:=by
 unfold timV
 rw [starts_put,behind_put,may_bits t hm]
 unfold getV
 rw [if_pos (hexs_len 16 t),get_put t h hm]
 rfl
theorem hex_no10 (l:List UInt8):(10:UInt8) ∉ hexOf l:=by
 intro h
 have:=hexOf_digits l 10 h
 revert this
 decide +kernel
theorem hexs_no10:∀ (j v:Nat),(10:UInt8) ∉ hexs j v
 | 0,_,h=>by cases h
 | j + 1,v,h=>by
  unfold hexs at h
  rcases List.mem_cons.1 h with h | h
  ·have:∀ d,d < 16 → hx d ≠ 10:=by decide +kernel
   exact this _ (Nat.mod_lt _ (by decide)) h.symm
  ·exact hexs_no10 j v h
theorem lines_put (hs z:List UInt8) (h10:(10:UInt8) ∉ hs) (hl:hs.length ≤ 60):∀ (ps:List Nm),∃ tx s,lineV (ps.flatMap lineP ++ whenW ++ hs ++ 10 :: z) = some (tx,s) ∧ ∀ (f:Nat) (acc:List Nm),ps.length < f → acc.length + ps.length ≤ 4 → parGo f tx s acc = some (acc ++ ps,whenW ++ hs,z)
 | []=>by
  refine ⟨whenW ++ hs,z,?_,fun f acc hf _=>?_⟩
  ·have:=lineV_put (whenW ++ hs) z (by
    intro h
    rcases List.mem_append.1 h with h | h
    ·revert h
     decide
    ·exact h10 h) (by rw [List.length_append]; show 5 + _ ≤ 71; omega)
   simpa using this
  ·cases f with
   | zero=>exact absurd hf (Nat.not_lt_zero _)
   | succ f=>
    unfold parGo
    rw [if_neg (by
     show ¬ (starts (119 :: ([104,101,110,32] ++ hs)) (112 :: [97,114,101,110,116,32])) = true
     unfold starts Lib.hasPrefix
     simp [List.isPrefixOf])]
    simp
 | x :: ps=>by
  obtain ⟨tx,s,h1,h2⟩:=lines_put hs z h10 hl ps
  refine ⟨parW ++ hexOf x.l,ps.flatMap lineP ++ whenW ++ hs ++ 10 :: z,?_,fun f acc hf ha=>?_⟩
  ·have:=lineV_put (parW ++ hexOf x.l) (ps.flatMap lineP ++ whenW ++ hs ++ 10 :: z) (by
    intro h
    rcases List.mem_append.1 h with h | h
    ·revert h
     decide
    ·exact hex_no10 _ h) (by rw [List.length_append,hexOf_len,x.h]; decide)
   rw [← this]
   congr 1
   rw [List.flatMap_cons]
   simp [lineP,parW]
  ·cases f with
   | zero=>exact absurd hf (Nat.not_lt_zero _)
   | succ f=>
    rw [List.length_cons] at hf ha
    unfold parGo
    rw [if_pos (starts_put _ _),if_pos (by omega),idV_put]
    dsimp only
    rw [h1]
    dsimp only
    rw [h2 f (acc ++ [x]) (by omega) (by rw [List.length_append]; simp; omega)]
    simp
theorem readC_put (x:Cm) (ht:x.time < 18446744073709551616) (hm:mayC x = true):readC (bytesC x) = some x:=by
 have hm':=hm
 unfold mayC at hm
 simp only [Bool.and_eq_true] at hm
 obtain ⟨⟨hp,hf⟩,-⟩:=hm
 unfold mayP at hp
 simp only [Bool.and_eq_true,decide_eq_true_eq] at hp
 have hp4:=hp.1
 obtain ⟨tx,s,h1,h2⟩:=lines_put (hexs 16 (bitsV x.time)) (10 :: x.note) (hexs_no10 _ _) (by rw [hexs_len]; decide) x.parents
 have h0:=lineV_put (treeW ++ hexOf x.tree.l) (x.parents.flatMap lineP ++ whenW ++ hexs 16 (bitsV x.time) ++ 10 :: 10 :: x.note) (by
  intro h
  rcases List.mem_append.1 h with h | h
  ·revert h
   decide
  ·exact hex_no10 _ h) (by rw [List.length_append,hexOf_len,x.tree.h]; decide)
 have e0:bytesC x = (treeW ++ hexOf x.tree.l) ++ 10 :: (x.parents.flatMap lineP ++ whenW ++ hexs 16 (bitsV x.time) ++ 10 :: 10 :: x.note):=by
  unfold bytesC treeW whenW
  simp
 have h3:=lineV_put [] x.note (by simp) (by simp)
 rw [List.nil_append] at h3
 unfold readC
 rw [e0,h0]
 dsimp only
 rw [idV_put]
 dsimp only
 rw [h1]
 dsimp only
 rw [h2 5 [] (by omega) (by simpa using hp4)]
 dsimp only
 rw [timV_put x.time ht hf]
 dsimp only
 rw [h3]
 dsimp only
 rw [if_pos rfl,List.nil_append,if_pos hm']
theorem cid_opt (tx wd:List UInt8) (w:World):Calls Tryz.prog 233 #[.string ⟨tx.toArray⟩,.string ⟨wd.toArray⟩] w fun e w'=>((∃ x,idV tx wd = some x ∧ e = .returned (.agg (encN x).toArray)) ∨ (idV tx wd = none ∧ e = .panicked (fault 1))) ∧ Below w.heap.size w w':=by
 refine (cid_any tx wd w).mono ?_
 rintro e w' ⟨he,hb⟩
 refine ⟨?_,hb⟩
 unfold idV
 by_cases h:(starts tx wd && (getId (behind tx wd)).2) = true
 ·rw [if_pos h] at he ⊢
  exact .inl ⟨_,rfl,he⟩
 ·rw [if_neg h] at he ⊢
  exact .inr ⟨rfl,he⟩
theorem ctime_opt (tx:List UInt8) (w:World):Calls Tryz.prog 236 #[.string ⟨tx.toArray⟩] w fun e w'=>((∃ t,timV tx = some t ∧ e = .returned (.float .f64 t)) ∨ (timV tx = none ∧ e = .panicked (fault 1))) ∧ w = w':=by
 refine (ctime_any tx w).mono ?_
 rintro e w' ⟨he,hb⟩
 refine ⟨?_,hb⟩
 unfold timV
 by_cases h:(starts tx whenW && (getV (behind tx whenW)).2) = true
 ·rw [if_pos h] at he ⊢
  exact .inl ⟨_,rfl,he⟩
 ·rw [if_neg h] at he ⊢
  exact .inr ⟨rfl,he⟩
end Go.Proofs.YtlfmooihcigolaaGreatDoor

/-
  LinB, LinC, LinD.
-/
import Derived.Test.YtlfmooihcigolaaGreatDoorMal
import Derived.Laws.DeepStrings4
import Derived.OwnWalk
set_option maxRecDepth 100000
set_option maxHeartbeats 8000000
namespace Go.Proofs.YtlfmooihcigolaaGreatDoor
open Go.RowKit
def hval (c:UInt8):Int:=Lib.indexByte [48,49,50,51,52,53,54,55,56,57,97,98,99,100,101,102] c
theorem hval_lt (c:UInt8):hval c < 16:=by
 have h:∀ n,n < 256 → hval (UInt8.ofNat n) < 16:=by decide +kernel
 have:=h c.toNat c.toNat_lt
 rwa [UInt8.ofNat_toNat] at this
theorem digit_any (c:UInt8) (w:World):Calls Tryz.prog 298 #[.string ⟨#[48,49,50,51,52,53,54,55,56,57,97,98,99,100,101,102]⟩,.int .u8 (c.toNat:Int)] w fun e w'=>e = .returned (.int .i64 (hval c)) ∧ w = w':=by
 refine (Tryz.strings_IndexByte ⟨#[48,49,50,51,52,53,54,55,56,57,97,98,99,100,101,102]⟩ (c.toNat:Int) w).mono ?_
 rintro e w' ⟨rfl,rfl⟩
 refine ⟨?_,rfl⟩
 rw [show ((c.toNat:Int).toNat.toUInt8) = c by simp]
 rfl
theorem str_at (l:List UInt8) (k:Nat) (h:k < l.length) (w:World):(Instr.index 9 (.string ⟨l.toArray⟩) (.int .i64 (k:Int))).run Tryz.prog w = .ok (.int .u8 ((l.getD k 0).toNat:Int)) w:=by
 rw [run_index_string (w:=w) 9 _ _ _ Tryz.underlying9,dif_pos ⟨by omega,by show (k:Int) < ((l.toArray.size:Nat):Int); simp; omega⟩]
 simp only [Int.toNat_natCast]
 have:(ByteArray.mk l.toArray)[k]'(by show k < l.toArray.size; simpa using h) = l.getD k 0:=by
  show l.toArray[k]'_ = _
  simp [List.getElem?_eq_getElem h]
 rw [this]
def lenGo:Nat → Nat → List UInt8 → Nat ⊕ Int
 | 0,z,_=>.inl z
 | _ + 1,_,[]=>.inr 2
 | f + 1,z,c :: r=>if hval c < 0 then .inr 1 else if (z * 16 + (hval c).toNat) * 16 ^ f ≤ 1004 then lenGo f (z * 16 + (hval c).toNat) r else .inr 1
def lenE:Nat ⊕ Int → Ending → Prop
 | .inl n,e=>e = .returned (.int .i64 (n:Int))
 | .inr c,e=>e = .panicked (fault c)
theorem or_digit (z d:Nat) (hz:z < 1125899906842624) (hd:d < 16):bits .or .i64 ((z:Int) * 16) (d:Int) = ((z * 16 + d:Nat):Int):=by
 have hx:z * 16 ||| d < 2 ^ 63:=Nat.or_lt_two_pow (by omega) (by omega)
 have h1:(BitVec.ofInt 64 ((z:Int) * 16)).toNat = z * 16:=by
  rw [show (z:Int) * 16 = ((z * 16:Nat):Int) by simp,BitVec.ofInt_natCast,BitVec.toNat_ofNat]; exact Nat.mod_eq_of_lt (by omega)
 have h2:(BitVec.ofInt 64 (d:Int)).toNat = d:=by
  rw [BitVec.ofInt_natCast,BitVec.toNat_ofNat]; exact Nat.mod_eq_of_lt (by omega)
 show IntKind.i64.wrap ((BitVec.ofInt 64 ((z:Int) * 16) ||| BitVec.ofInt 64 (d:Int)).toNat:Int) = _
 rw [BitVec.toNat_or,h1,h2,IntKind.wrap_i64]
 have e:z * 16 ||| d = z * 16 + d:=by
  rw [show z * 16 = 2 ^ 4 * z by omega,← Nat.two_pow_add_eq_or_of_lt (by omega)]
 rw [e] at hx ⊢
 omega
theorem sh_le (m d f:Nat) (hm:m ≤ 1004) (hd:d < 16) (hf:f < 4):decide (wrap64 (((m:Int) * 16 + (d:Int)) * 2 ^ (4 * f)) ≤ 1004) = decide ((m * 16 + d) * 16 ^ f ≤ 1004):=by
 have h:f = 0 ∨ f = 1 ∨ f = 2 ∨ f = 3:=by omega
 rcases h with rfl | rfl | rfl | rfl <;> (simp only [wrap64]; rw [decide_eq_decide]; simp; omega)
theorem length_any (s:List UInt8) (w:World):Calls Tryz.prog 306 #[.string ⟨s.toArray⟩] w fun e w'=>lenE (lenGo 4 0 s) e ∧ w = w':=by
 go_enter Tryz.func306,Tryz.ntmps306
 go_wp2_with fail
 go_loopw [3,7] (fun z i wr=>∃ f k m:Nat,f + k = 4 ∧ i = .int .i64 (k:Int) ∧ z = .int .i64 (m:Int) ∧ (k = 0 ∧ m = 0 ∨ m * 16 ^ f ≤ 1004) ∧ wr = w ∧ lenGo 4 0 s = lenGo f m (s.drop k)) (fun _ i _=>4 - (intOf i).toNat)
 case atStart=>exact ⟨4,0,0,rfl,rfl,rfl,.inl ⟨rfl,rfl⟩,rfl,rfl⟩
 case round=>
  obtain ⟨f,k,m,hfk,rfl,rfl,hm,rfl,hgo⟩:=hrel
  have HM:=Hy hm
  have HGO:=Hy hgo
  clear hm hgo
  by_cases hk:k < 4
  ·obtain ⟨f,rfl⟩:∃ g,f = g + 1:=⟨f - 1,by omega⟩
   by_cases hks:k < s.length
   ·have hdrop:s.drop k = s.getD k 0 :: s.drop (k + 1):=by
     rw [List.drop_eq_getElem_cons hks]
     simp [List.getElem?_eq_getElem hks]
    have hidx:=str_at s k hks
    have HDR:=Hy hdrop
    clear hdrop
    generalize s.getD k 0 = c at *
    have hdg:=digit_any c wr
    have hv:=hval_lt c
    by_cases hneg:hval c < 0
    ·have hres:lenGo 4 0 s = .inr 1:=by rw [HGO.out,HDR.out,lenGo,if_pos hneg]
     have hdd:decide (0 ≤ hval c) = false:=by simp; omega
     have HD:=Hy hdg
     have HR:=Hy hres
     clear hdg hres
     generalize hval c = d at *
     go_wp2_with (first
      | (go_at_call 298; refine HD.out.mono ?_; rintro e w' ⟨rfl,rfl⟩)
      | (go_at_call 78; go_at_call_of 78 (Value.bool true); refine (must_yes _ _).mono ?_; rintro e w' ⟨rfl,rfl⟩)
      | (go_at_call 78; go_at_call_of 78 (Value.bool false); refine (must_no _ _).mono ?_; rintro e w' ⟨rfl,rfl⟩))
     exact ⟨rfl,by rw [HR.out]; exact rfl,rfl⟩
    ·obtain ⟨d,hd⟩:∃ d:Nat,hval c = (d:Int):=⟨(hval c).toNat,by omega⟩
     have hd16:d < 16:=by omega
     have hstep:lenGo 4 0 s = if (m * 16 + d) * 16 ^ f ≤ 1004 then lenGo f (m * 16 + d) (s.drop (k + 1)) else .inr 1:=by
      rw [HGO.out,HDR.out,lenGo,if_neg hneg,hd]; rfl
     have hm1004:m ≤ 1004:=by
      rcases HM.out with ⟨-,h⟩ | h
      ·omega
      ·exact Nat.le_trans (Nat.le_mul_of_pos_right _ (Nat.pow_pos (by decide))) h
     have hor:=or_digit m d (by omega) hd16
     rw [hd] at hdg
     have HD:=Hy hdg
     clear hdg hd hneg hv
     have hf3:(3:Int) - (k:Int) = (f:Int):=by omega
     have hsl:=sh_le m d f hm1004 hd16 (by omega)
     by_cases hle:(m * 16 + d) * 16 ^ f ≤ 1004
     ·rw [decide_eq_true hle] at hsl
      rw [if_pos hle] at hstep
      have HL:=Hy hle
      have HST:=Hy hstep
      clear hle hstep
      go_wp2_with (first
       | (go_at_call 298; refine HD.out.mono ?_; rintro e w' ⟨rfl,rfl⟩)
       | (go_at_call 78; go_at_call_of 78 (Value.bool true); refine (must_yes _ _).mono ?_; rintro e w' ⟨rfl,rfl⟩))
      go_roundw
      case rel=>
       exact ⟨f,k + 1,m * 16 + d,by omega,by go_num,by go_num,.inr HL.out,trivial,HST.out⟩
      case measure=>simp [intOf]; omega
     ·rw [decide_eq_false hle] at hsl
      rw [if_neg hle] at hstep
      have HST:=Hy hstep
      clear hle hstep
      go_wp2_with (first
       | (go_at_call 298; refine HD.out.mono ?_; rintro e w' ⟨rfl,rfl⟩)
       | (go_at_call 78; go_at_call_of 78 (Value.bool true); refine (must_yes _ _).mono ?_; rintro e w' ⟨rfl,rfl⟩)
       | (go_at_call 78; go_at_call_of 78 (Value.bool false); refine (must_no _ _).mono ?_; rintro e w' ⟨rfl,rfl⟩))
      exact ⟨rfl,by rw [HST.out]; exact rfl,rfl⟩
   ·have hres:lenGo 4 0 s = .inr 2:=by rw [HGO.out,List.drop_eq_nil_of_le (by omega),lenGo]
    have HR:=Hy hres
    clear hres
    go_wp2_with (go_at_call 78; go_at_call_of 78 (Value.bool false); refine (must_no _ _).mono ?_; rintro e w' ⟨rfl,rfl⟩)
    exact ⟨rfl,by rw [HR.out]; exact rfl,rfl⟩
  ·obtain rfl:f = 0:=by omega
   go_wp2
   go_ret
   exact ⟨by rw [HGO.out]; exact rfl,rfl⟩
theorem clone_any (l:List UInt8) (w:World) (h:l.length ≤ 281474976710656):Calls Tryz.prog 132 #[.string ⟨l.toArray⟩] w fun e w'=>e = .returned (.string ⟨l.toArray⟩) ∧ Below w.heap.size w w':=by
 go_enter Tryz.func132,Tryz.ntmps132
 go_wp2_with fail
 refine (Tryz.stringslite_Clone ⟨l.toArray⟩ w (by show l.toArray.size ≤ _; simpa using h)).mono ?_
 rintro e w' ⟨rfl,hB⟩
 have HB:=Hy hB
 clear hB
 go_wp2
 go_ret
 exact ⟨rfl,HB.out⟩
theorem str_cut (l:List UInt8) (a n:Nat) (ha:a ≤ n) (hn:n ≤ l.length) (w:World):(Instr.slice 9 (.string ⟨l.toArray⟩) (some (.int .i64 (a:Int))) (some (.int .i64 (n:Int))) none).run Tryz.prog w = .ok (.string ⟨((l.take n).drop a).toArray⟩) w:=by
 have hsz:(ByteArray.mk l.toArray).size = l.length:=by simp [ByteArray.size]
 rw [run_slice_string_if (w:=w) 9 _ .i64 .i64 _ _ Tryz.underlying9,if_pos ⟨by omega,by rw [hsz]; omega⟩,if_pos ⟨by omega,by omega⟩,ByteArray.extract_mk]
 simp [List.drop_take]
def firstV (s:List UInt8):(Nat × List UInt8 × Nat) ⊕ Int:=
 match lenGo 4 0 s with
 | .inr c=>.inr c
 | .inl n=>if n = 0 then .inl (2,[],4) else if n = 1 then .inl (3,[],4) else if n ≤ 4 then .inr 1 else if s.length < n then .inr 2 else .inl (1,(s.take n).drop 4,n)
def tripE:(Nat × List UInt8 × Nat) ⊕ Int → Ending → Prop
 | .inl (k,t,n),e=>e = .returned (.tuple #[.int .i64 (k:Int),.string ⟨t.toArray⟩,.int .i64 (n:Int)])
 | .inr c,e=>e = .panicked (fault c)
theorem lenGo_le (f z:Nat) (s:List UInt8) (n:Nat) (h:lenGo f z s = .inl n) (hz:z ≤ 1004):n ≤ 1004:=by
 induction f generalizing z s with
 | zero=>injection h with h; omega
 | succ f ih=>
  cases s with
  | nil=>exact nomatch h
  | cons c r=>
   rw [lenGo] at h
   split at h
   ·exact nomatch h
   ·split at h
    ·rename_i hle
     exact ih _ _ h (Nat.le_trans (Nat.le_mul_of_pos_right _ (Nat.pow_pos (by decide))) hle)
    ·exact nomatch h
theorem first_any (s:List UInt8) (w:World):Calls Tryz.prog 282 #[.string ⟨s.toArray⟩] w fun e w'=>tripE (firstV s) e ∧ Below w.heap.size w w':=by
 have hlen:=length_any s w
 cases hv:lenGo 4 0 s with
 | inr c=>
  rw [hv] at hlen
  have hres:firstV s = .inr c:=by unfold firstV; rw [hv]
  have HR:=Hy hres
  have HL:=Hy hlen
  clear hres hlen hv
  go_enter Tryz.func282,Tryz.ntmps282
  go_wp2_with fail
  refine HL.out.mono ?_
  rintro e w' ⟨he,rfl⟩
  obtain rfl:e = .panicked (fault c):=he
  exact ⟨rfl,by rw [HR.out]; exact rfl,Below.refl _ _⟩
 | inl n=>
  rw [hv] at hlen
  have hn:=lenGo_le _ _ _ _ hv (by omega)
  have hlen':Calls Tryz.prog 306 #[.string ⟨s.toArray⟩] w fun e w'=>e = .returned (.int .i64 (n:Int)) ∧ w = w':=hlen
  have hres:firstV s = if n = 0 then .inl (2,[],4) else if n = 1 then .inl (3,[],4) else if n ≤ 4 then .inr 1 else if s.length < n then .inr 2 else .inl (1,(s.take n).drop 4,n):=by unfold firstV; rw [hv]
  have HL:=Hy hlen'
  clear hlen hlen' hv
  by_cases h0:n = 0
  ·rw [if_pos h0] at hres
   have HR:=Hy hres
   have hb:((n:Int) == 0) = true:=by simp [h0]
   clear hres h0
   go_enter Tryz.func282,Tryz.ntmps282
   go_wp2_with (go_at_call 306; refine HL.out.mono ?_; rintro e w' ⟨rfl,rfl⟩)
   go_ret3
   exact ⟨by rw [HR.out]; rfl,Below.refl _ _⟩
  ·rw [if_neg h0] at hres
   have hb0:((n:Int) == 0) = false:=beq_eq_false_iff_ne.2 (by omega)
   by_cases h1:n = 1
   ·rw [if_pos h1] at hres
    have HR:=Hy hres
    have hb:((n:Int) == 1) = true:=by simp [h1]
    clear hres h1
    go_enter Tryz.func282,Tryz.ntmps282
    go_wp2_with (go_at_call 306; refine HL.out.mono ?_; rintro e w' ⟨rfl,rfl⟩)
    go_ret3
    exact ⟨by rw [HR.out]; rfl,Below.refl _ _⟩
   ·rw [if_neg h1] at hres
    have hb1:((n:Int) == 1) = false:=beq_eq_false_iff_ne.2 (by omega)
    by_cases h4:n ≤ 4
    ·rw [if_pos h4] at hres
     have HR:=Hy hres
     have hd:decide (4 < (n:Int)) = false:=by simp; omega
     clear hres h1 h0
     go_enter Tryz.func282,Tryz.ntmps282
     go_wp2_with (first
      | (go_at_call 306; refine HL.out.mono ?_; rintro e w' ⟨rfl,rfl⟩)
      | (go_at_call 78; refine (must_no _ _).mono ?_; rintro e w' ⟨rfl,rfl⟩))
     exact ⟨rfl,by rw [HR.out]; exact rfl,Below.refl _ _⟩
    ·rw [if_neg h4] at hres
     have hd:decide (4 < (n:Int)) = true:=by simp; omega
     by_cases hl:s.length < n
     ·rw [if_pos hl] at hres
      have HR:=Hy hres
      have hd2:decide (n ≤ s.length) = false:=by simp; omega
      clear hres h1 h0
      go_enter Tryz.func282,Tryz.ntmps282
      go_wp2_with (first
       | (go_at_call 306; refine HL.out.mono ?_; rintro e w' ⟨rfl,rfl⟩)
       | (go_at_call 78; go_at_call_of 78 (Value.bool true); refine (must_yes _ _).mono ?_; rintro e w' ⟨rfl,rfl⟩)
       | (go_at_call 78; go_at_call_of 78 (Value.bool false); refine (must_no _ _).mono ?_; rintro e w' ⟨rfl,rfl⟩))
      exact ⟨rfl,by rw [HR.out]; exact rfl,Below.refl _ _⟩
     ·rw [if_neg hl] at hres
      have HR:=Hy hres
      have hd2:decide (n ≤ s.length) = true:=by simp; omega
      have hc:=clone_any ((s.take n).drop 4) w (by simp; omega)
      have HC:=Hy hc
      have hcut:=str_cut s 4 n (by omega) (by omega)
      rw [show ((4:Nat):Int) = 4 from rfl] at hcut
      generalize hpt:(s.take n).drop 4 = pt at *
      have HPT:=Hy hpt
      clear hres h1 h0 hc hpt
      go_enter Tryz.func282,Tryz.ntmps282
      go_wp2_with (first
       | (go_at_call 306; refine HL.out.mono ?_; rintro e w' ⟨rfl,rfl⟩)
       | (go_at_call 78; go_at_call_of 78 (Value.bool true); refine (must_yes _ _).mono ?_; rintro e w' ⟨rfl,rfl⟩))
      refine HC.out.mono ?_
      rintro e w' ⟨rfl,hB⟩
      have HB:=Hy hB
      clear hB
      go_wp2
      go_ret3
      exact ⟨by rw [HR.out]; rfl,HB.out⟩
theorem get1_ok (bs bk bt bn k n:Nat) (s t:List UInt8) (k0 t0 n0:Value) (W:World) (hs:Whole W bs 9 #[.string ⟨s.toArray⟩]) (hk:Whole W bk 3 #[k0]) (ht:Whole W bt 9 #[t0]) (hn:Whole W bn 3 #[n0])
  (h1:bk ≠ bt) (h2:bk ≠ bn) (h3:bt ≠ bn) (hv:firstV s = .inl (k,t,n)) :
  Calls Tryz.prog 281 #[.pointer (some ⟨bs,0,none⟩),.pointer (some ⟨bk,0,none⟩),.pointer (some ⟨bt,0,none⟩),.pointer (some ⟨bn,0,none⟩)] W fun e w'=>e = .returned (.tuple #[]) ∧
   ∃ w1,Below W.heap.size W w1 ∧ w' = ((w1.setCell ⟨bk,0,none⟩ (.int .i64 (k:Int))).setCell ⟨bt,0,none⟩ (.string ⟨t.toArray⟩)).setCell ⟨bn,0,none⟩ (.int .i64 (n:Int)):=by
 have hc:W.cell? ⟨bs,0,none⟩ = some (.string ⟨s.toArray⟩):=(Whole.at_ hs 0).trans rfl
 have hf:=first_any s W
 rw [hv] at hf
 have HF:Hid (Calls Tryz.prog 282 #[.string ⟨s.toArray⟩] W fun e w'=>e = .returned (.tuple #[.int .i64 (k:Int),.string ⟨t.toArray⟩,.int .i64 (n:Int)]) ∧ Below W.heap.size W w'):=hf
 have HK:=Hy hk
 have HT:=Hy ht
 have HN:=Hy hn
 clear hs hf hk ht hn hv
 go_enter Tryz.func281,Tryz.ntmps281
 go_wp2_with fail
 refine HF.out.mono ?_
 rintro e w1 ⟨rfl,hB⟩
 have HB:=Hy hB
 have K1:=HK.out.below hB HK.out.lt
 have T1:=HT.out.below hB HT.out.lt
 have N1:=HN.out.below hB HN.out.lt
 have ck:w1.cell? ⟨bk,0,none⟩ = some k0:=(K1.at_ 0).trans rfl
 have ct:w1.cell? ⟨bt,0,none⟩ = some t0:=(T1.at_ 0).trans rfl
 have cn:w1.cell? ⟨bn,0,none⟩ = some n0:=(N1.at_ 0).trans rfl
 have zk:=K1.thawed 0
 have zt:=T1.thawed 0
 have zn:=N1.thawed 0
 clear hB K1 T1 N1
 go_wp2
 exact bodyPost_end (results_none rfl _ _ _) rfl ⟨rfl,w1,HB.out,rfl⟩
theorem get1_enters (caps:Array Value) (W:World):(callFunc 281 caps).run Tryz.prog W = .ok (.enter 281 caps) W:=enters_of Tryz.func281 (by kernel_rfl) rfl _ _
theorem four (w:World) (a b c d:Array Value) (ta tb tc td:TypeId):∃ W,W = (((w.alloc (.cells a ta)).alloc (.cells b tb)).alloc (.cells c tc)).alloc (.cells d td) ∧ Below w.heap.size w W ∧ W.heap.size = w.heap.size + 4 ∧
  Whole W w.heap.size ta a ∧ Whole W (w.heap.size + 1) tb b ∧ Whole W (w.heap.size + 1 + 1) tc c ∧ Whole W (w.heap.size + 1 + 1 + 1) td d:=by
 refine ⟨_,rfl,((((Below.refl _ _).alloc (Nat.le_refl _) _).alloc (by simp) _).alloc (by simp; omega) _).alloc (by simp; omega) _,by simp,(((Whole.made _ _ _).past _).past _).past _,?_,?_,?_⟩
 ·have h:=((Whole.made (w.alloc (.cells a ta)) tb b).past (.cells c tc)).past (.cells d td)
  simpa using h
 ·have h:=(Whole.made ((w.alloc (.cells a ta)).alloc (.cells b tb)) tc c).past (.cells d td)
  simpa using h
 ·have h:=Whole.made (((w.alloc (.cells a ta)).alloc (.cells b tb)).alloc (.cells c tc)) td d
  simpa using h
theorem get_ok (k n:Nat) (s t:List UInt8) (w:World) (hv:firstV s = .inl (k,t,n)) :
  Calls Tryz.prog 244 #[.string ⟨s.toArray⟩] w fun e w'=>e = .returned (.tuple #[.int .i64 (k:Int),.string ⟨t.toArray⟩,.int .i64 (n:Int),.int .i64 0]) ∧ Below w.heap.size w w':=by
 have hmf:∀ (fn:Fn) (first cap:Array Value) (w:World),(Instr.makeFunc fn first cap).run Tryz.prog w = .ok (.func fn first cap) w:=fun _ _ _ _=>rfl
 have HV:=Hy hv
 clear hv
 go_enter Tryz.func244,Tryz.ntmps244
 go_wp2_with fail
 obtain ⟨W,hW,hB,hsz,hS,hK,hT,hN⟩:=four w #[.string ⟨s.toArray⟩] #[.int .i64 0] #[.string ⟨#[]⟩] #[.int .i64 0] 9 3 9 3
 rw [← hW]
 have HB:=Hy hB
 have hS1:=hS.past (.cells #[.int .i64 0] 25)
 have hK1:=hK.past (.cells #[.int .i64 0] 25)
 have hT1:=hT.past (.cells #[.int .i64 0] 25)
 have hN1:=hN.past (.cells #[.int .i64 0] 25)
 have hE1:=Whole.made W 25 #[.int .i64 0]
 have hsz1:(W.alloc (.cells #[.int .i64 0] 25)).heap.size = w.heap.size + 5:=by simp; omega
 have hB1:Below w.heap.size w (W.alloc (.cells #[.int .i64 0] 25)):=hB.alloc (by omega) _
 have hcall:=get1_ok w.heap.size (w.heap.size + 1) (w.heap.size + 1 + 1) (w.heap.size + 1 + 1 + 1) k n s t _ _ _ _ hS1 hK1 hT1 hN1 (by omega) (by omega) (by omega) HV.out
 generalize hW1:W.alloc (.cells #[.int .i64 0] 25) = W1 at *
 refine (do_ret 281 _ W (fun w'=>∃ w1,Below W1.heap.size W1 w1 ∧ w' = ((w1.setCell ⟨w.heap.size + 1,0,none⟩ (.int .i64 (k:Int))).setCell ⟨w.heap.size + 1 + 1,0,none⟩ (.string ⟨t.toArray⟩)).setCell ⟨w.heap.size + 1 + 1 + 1,0,none⟩ (.int .i64 (n:Int))) (get1_enters _) ?_ (by rw [hW1]; exact hcall)).mono ?_
 ·rintro w' ⟨w1,hB2,rfl⟩
  have hE2:=(((hE1.below hB2 (by omega)).aside (p:=⟨w.heap.size + 1,0,none⟩) (by simp; omega) (.int .i64 (k:Int))).aside (p:=⟨w.heap.size + 1 + 1,0,none⟩) (by simp; omega) (.string ⟨t.toArray⟩)).aside (p:=⟨w.heap.size + 1 + 1 + 1,0,none⟩) (by simp; omega) (.int .i64 (n:Int))
  exact ⟨0,(hE2.at_ 0).trans rfl,hE2.thawed 0⟩
 rintro e w' ⟨rfl,w2,⟨w1,hB2,rfl⟩,rfl⟩
 have K2:=hK1.below hB2 (by omega)
 have T2:=hT1.below hB2 (by omega)
 have N2:=hN1.below hB2 (by omega)
 have K3:=(((K2.put 0 (.int .i64 (k:Int))).aside (p:=⟨w.heap.size + 1 + 1,0,none⟩) (by show _ ≠ _; dsimp only; omega) (.string ⟨t.toArray⟩)).aside (p:=⟨w.heap.size + 1 + 1 + 1,0,none⟩) (by show _ ≠ _; dsimp only; omega) (.int .i64 (n:Int))).aside (p:=⟨W.heap.size,0,none⟩) (by show _ ≠ _; dsimp only; omega) (.int .i64 0)
 have T3:=(((T2.aside (p:=⟨w.heap.size + 1,0,none⟩) (by show _ ≠ _; dsimp only; omega) (.int .i64 (k:Int))).put 0 (.string ⟨t.toArray⟩)).aside (p:=⟨w.heap.size + 1 + 1 + 1,0,none⟩) (by show _ ≠ _; dsimp only; omega) (.int .i64 (n:Int))).aside (p:=⟨W.heap.size,0,none⟩) (by show _ ≠ _; dsimp only; omega) (.int .i64 0)
 have N3:=(((N2.aside (p:=⟨w.heap.size + 1,0,none⟩) (by show _ ≠ _; dsimp only; omega) (.int .i64 (k:Int))).aside (p:=⟨w.heap.size + 1 + 1,0,none⟩) (by show _ ≠ _; dsimp only; omega) (.string ⟨t.toArray⟩)).put 0 (.int .i64 (n:Int))).aside (p:=⟨W.heap.size,0,none⟩) (by show _ ≠ _; dsimp only; omega) (.int .i64 0)
 have B3:=((((hB1.trans (hB2.mono (by omega))).setCell (p:=⟨w.heap.size + 1,0,none⟩) (by simp) (.int .i64 (k:Int))).setCell (p:=⟨w.heap.size + 1 + 1,0,none⟩) (by simp; omega) (.string ⟨t.toArray⟩)).setCell (p:=⟨w.heap.size + 1 + 1 + 1,0,none⟩) (by simp; omega) (.int .i64 (n:Int))).setCell (p:=⟨W.heap.size,0,none⟩) (by simp; omega) (.int .i64 0)
 generalize ((((w1.setCell ⟨w.heap.size + 1,0,none⟩ (.int .i64 (k:Int))).setCell ⟨w.heap.size + 1 + 1,0,none⟩ (.string ⟨t.toArray⟩)).setCell ⟨w.heap.size + 1 + 1 + 1,0,none⟩ (.int .i64 (n:Int))).setCell ⟨W.heap.size,0,none⟩ (.int .i64 0)) = V at *
 have HB3:=Hy B3
 have HK3:=Hy K3
 have HT3:=Hy T3
 have HN3:=Hy N3
 have ck:V.cell? ⟨w.heap.size + 1,0,none⟩ = some (.int .i64 (k:Int)):=(K3.at_ 0).trans rfl
 have ct:V.cell? ⟨w.heap.size + 1 + 1,0,none⟩ = some (.string ⟨t.toArray⟩):=(T3.at_ 0).trans rfl
 have cn:V.cell? ⟨w.heap.size + 1 + 1 + 1,0,none⟩ = some (.int .i64 (n:Int)):=(N3.at_ 0).trans rfl
 have zk:=K3.thawed 0
 have zt:=T3.thawed 0
 have zn:=N3.thawed 0
 clear hW hB hsz hS hK hT hN hS1 hK1 hT1 hN1 hE1 hsz1 hB1 hcall hW1 hB2 K2 T2 N2 K3 T3 N3 B3 HB
 go_wp2
 go_region
 have K4:=((((HK3.out.put 0 (.int .i64 (k:Int))).aside (p:=⟨w.heap.size + 1 + 1,0,none⟩) (by show _ ≠ _; dsimp only; omega) (.string ⟨t.toArray⟩)).aside (p:=⟨w.heap.size + 1 + 1 + 1,0,none⟩) (by show _ ≠ _; dsimp only; omega) (.int .i64 (n:Int)))).drew
 have T4:=((((HT3.out.aside (p:=⟨w.heap.size + 1,0,none⟩) (by show _ ≠ _; dsimp only; omega) (.int .i64 (k:Int))).put 0 (.string ⟨t.toArray⟩)).aside (p:=⟨w.heap.size + 1 + 1 + 1,0,none⟩) (by show _ ≠ _; dsimp only; omega) (.int .i64 (n:Int)))).drew
 have N4:=((((HN3.out.aside (p:=⟨w.heap.size + 1,0,none⟩) (by show _ ≠ _; dsimp only; omega) (.int .i64 (k:Int))).aside (p:=⟨w.heap.size + 1 + 1,0,none⟩) (by show _ ≠ _; dsimp only; omega) (.string ⟨t.toArray⟩)).put 0 (.int .i64 (n:Int)))).drew
 have B4:=(((HB3.out.setCell (p:=⟨w.heap.size + 1,0,none⟩) (by simp) (.int .i64 (k:Int))).setCell (p:=⟨w.heap.size + 1 + 1,0,none⟩) (by simp; omega) (.string ⟨t.toArray⟩)).setCell (p:=⟨w.heap.size + 1 + 1 + 1,0,none⟩) (by simp; omega) (.int .i64 (n:Int))).drew
 generalize (((V.setCell ⟨w.heap.size + 1,0,none⟩ (.int .i64 (k:Int))).setCell ⟨w.heap.size + 1 + 1,0,none⟩ (.string ⟨t.toArray⟩)).setCell ⟨w.heap.size + 1 + 1 + 1,0,none⟩ (.int .i64 (n:Int))).drew = V' at *
 have ck4:V'.cell? ⟨w.heap.size + 1,0,none⟩ = some (.int .i64 (k:Int)):=(K4.at_ 0).trans rfl
 have ct4:V'.cell? ⟨w.heap.size + 1 + 1,0,none⟩ = some (.string ⟨t.toArray⟩):=(T4.at_ 0).trans rfl
 have cn4:V'.cell? ⟨w.heap.size + 1 + 1 + 1,0,none⟩ = some (.int .i64 (n:Int)):=(N4.at_ 0).trans rfl
 have HB4:=Hy B4
 clear K4 T4 N4 B4
 go_wp2
 refine bodyPost_ret (v:=.tuple #[.int .i64 (k:Int),.string ⟨t.toArray⟩,.int .i64 (n:Int),.int .i64 0]) ?_ rfl ⟨rfl,HB4.out⟩
 simp [results,Tryz.results244,go_sem,ck4,ct4,cn4]
section
open Go.RowKit
structure Two (a b:Nat) (w w':World):Prop where
 os:w'.os = w.os
 tape:w'.tape = w.tape
 output:w'.output = w.output
 size:w.heap.size ≤ w'.heap.size
 block:∀ k,k < w.heap.size → k ≠ a → k ≠ b → w'.heap[k]? = w.heap[k]?
section
variable {a b B g : Nat} {w w' w'' : World} {t : TypeId} {cs : Array Value}
theorem Two.refl (a b:Nat) (w:World):Two a b w w:=⟨rfl,rfl,rfl,Nat.le_refl _,fun _ _ _ _=>rfl⟩
theorem Two.trans (h:Two a b w w') (k:Two a b w' w''):Two a b w w'':=
 ⟨k.os.trans h.os,k.tape.trans h.tape,k.output.trans h.output,Nat.le_trans h.size k.size,fun i hi h1 h2=>(k.block i (Nat.lt_of_lt_of_le hi h.size) h1 h2).trans (h.block i hi h1 h2)⟩
theorem Two.below (h:Two a b w w') (k:Below w'.heap.size w' w''):Two a b w w'':=
 h.trans ⟨k.os,k.tape,k.output,k.size,fun i hi _ _=>k.block i hi⟩
theorem Two.alloc (h:Two a b w w') (o:Obj):Two a b w (w'.alloc o):=h.below ((Below.refl _ _).alloc (Nat.le_refl _) o)
theorem Two.set (h:Two a b w w') {p:Addr} (hp:p.block = a ∨ p.block = b) (u:Value):Two a b w (w'.setCell p u):=
 ⟨h.os,h.tape,h.output,by simpa [World.setCell] using h.size,fun i hi h1 h2=>(Below.heap_setCell w' p u i (by
  rintro rfl
  rcases hp with hp | hp
  ·exact h1 hp
  ·exact h2 hp)).trans (h.block i hi h1 h2)⟩
theorem Two.grown (h:Two a b w w') {row:Option Nat} (k:w'.grownBy w'' row) (hr:∀ j,row = some j → w.heap.size ≤ j):Two a b w w'':=
 ⟨k.os.trans h.os,k.tape.trans h.tape,k.output.trans h.output,Nat.le_trans h.size k.size,fun i hi h1 h2=>(k.block i (Nat.lt_of_lt_of_le hi h.size) (fun e=>by
  have:=hr i e.symm; omega)).trans (h.block i hi h1 h2)⟩
theorem Two.to (h:Two a b w w') (ha:B ≤ a) (hb:B ≤ b) (hB:B ≤ w.heap.size):Below B w w':=
 ⟨h.os,h.tape,h.output,h.size,fun i hi=>h.block i (by omega) (by omega) (by omega)⟩
theorem Whole.two (hw:Whole w g t cs) (h:Two a b w w') (h1:g ≠ a) (h2:g ≠ b):Whole w' g t cs:=(h.block g hw.lt h1 h2).trans hw
end
def S (l:List UInt8):Value:=.string ⟨l.toArray⟩
def allGo:Nat → List UInt8 → Nat → List (List UInt8) → (List (List UInt8) × Nat) ⊕ Int
 | 0,_,_,_=>.inr 0
 | f + 1,s,r,acc=>
  match firstV (s.drop r) with
  | .inr c=>.inr c
  | .inl (k,t,n)=>if k = 2 then .inl (acc,r + n) else allGo f s (r + n) (acc ++ [t])
theorem lenGo_len (f z:Nat) (s:List UInt8) (n:Nat) (h:lenGo f z s = .inl n):f ≤ s.length:=by
 induction f generalizing z s with
 | zero=>omega
 | succ f ih=>
  cases s with
  | nil=>exact nomatch h
  | cons c r=>
   rw [lenGo] at h
   split at h
   ·exact nomatch h
   ·split at h
    ·have:=ih _ _ h; simp; omega
    ·exact nomatch h
theorem firstV_le (s:List UInt8) (k n:Nat) (t:List UInt8) (h:firstV s = .inl (k,t,n)):4 ≤ n ∧ n ≤ s.length ∧ n ≤ 1004:=by
 unfold firstV at h
 split at h
 ·exact nomatch h
 ·rename_i m hm
  have h4:=lenGo_len _ _ _ _ hm
  have hle:=lenGo_le _ _ _ _ hm (by omega)
  split at h
  ·injection h with h; injection h with h1 h; injection h with h2 h; omega
  ·split at h
   ·injection h with h; injection h with h1 h; injection h with h2 h; omega
   ·split at h
    ·exact nomatch h
    ·split at h
     ·exact nomatch h
     ·injection h with h; injection h with h1 h; injection h with h2 h; omega
theorem str_from (l:List UInt8) (a:Nat) (ha:a ≤ l.length) (w:World):(Instr.slice 9 (.string ⟨l.toArray⟩) (some (.int .i64 (a:Int))) none none).run Tryz.prog w = .ok (.string ⟨(l.drop a).toArray⟩) w:=by
 have hsz:(ByteArray.mk l.toArray).size = l.length:=by simp [ByteArray.size]
 rw [run_slice_string_l (w:=w) (ht:=Tryz.underlying9) (kl:=.i64) (h0:=by omega) (h1:=by rw [hsz]; omega),hsz,ByteArray.extract_mk]
 simp [List.take_of_length_le]
theorem infoS:(Tryz.prog.info? 9).map (fun i=>(i.zero,i.size,i.bytes)) = some (some (.string ⟨#[]⟩),1,16):=by kernel_rfl
def AllE (W:World) (br bl:Nat):(List (List UInt8) × Nat) ⊕ Int → Ending → World → Prop
 | .inl (l,r),e,w'=>e = .returned (.tuple #[]) ∧ ∃ v,Whole w' br 3 #[.int .i64 (r:Int)] ∧ Whole w' bl 223 #[v] ∧ w'.ownsRow W.heap.size 9 1 v l.length (l.map S)
 | .inr c,e,_=>e = .panicked (fault c)
theorem all1_any (bs br bl:Nat) (s:List UInt8) (W:World) (hlen:s.length < 1099511627776) (hs:Whole W bs 9 #[.string ⟨s.toArray⟩]) (hr:Whole W br 3 #[.int .i64 0]) (hl:Whole W bl 223 #[.slice none 0 0])
  (h1:bs ≠ br) (h2:bs ≠ bl) (h3:br ≠ bl) :
  Calls Tryz.prog 283 #[.pointer (some ⟨bs,0,none⟩),.pointer (some ⟨br,0,none⟩),.pointer (some ⟨bl,0,none⟩)] W fun e w'=>Two br bl W w' ∧ AllE W br bl (allGo (s.length + 1) s 0 []) e w':=by
 obtain ⟨fin,hfin⟩:∃ fin,fin = allGo (s.length + 1) s 0 []:=⟨_,rfl⟩
 rw [← hfin]
 have HFIN:=Hy hfin
 have HS:=Hy hs
 have HR:=Hy hr
 have HL:=Hy hl
 clear hfin hs hr hl
 obtain ⟨si,hsi,hsz0,hsz1,hsz2⟩:=info_parts infoS
 go_enter Tryz.func283,Tryz.ntmps283
 go_wp2_with fail
 go_loopw [3] (fun _ wr=>∃ f r:Nat,∃ acc v,r ≤ s.length ∧ s.length - r < f ∧ f ≤ s.length + 1 ∧ acc.length ≤ r ∧ fin = allGo f s r acc ∧ Two br bl W wr ∧ Whole wr br 3 #[.int .i64 (r:Int)] ∧ Whole wr bl 223 #[v] ∧ wr.ownsRow W.heap.size 9 1 v acc.length (acc.map S)) (fun _ wr=>s.length - (intOf ((wr.cell? ⟨br,0,none⟩).getD undef)).toNat)
 case atStart=>exact ⟨s.length + 1,0,[],.slice none 0 0,by omega,by omega,by omega,by simp,HFIN.out,Two.refl _ _ _,HR.out,HL.out,World.ownsRow_nil _ _ _ _⟩
 case round=>
  obtain ⟨f,r,acc,v,hr,hf,hf2,hacc,hgo,hT,hR,hL,hown⟩:=hrel
  obtain ⟨f,rfl⟩:∃ g,f = g + 1:=⟨f - 1,by omega⟩
  have cs:wr.cell? ⟨bs,0,none⟩ = some (.string ⟨s.toArray⟩):=((HS.out.two hT h1 h2).at_ 0).trans rfl
  have cr:wr.cell? ⟨br,0,none⟩ = some (.int .i64 (r:Int)):=(hR.at_ 0).trans rfl
  have hfr:=str_from s r hr
  have hf1:=first_any (s.drop r) wr
  have HT:=Hy hT
  have HRD:=Hy hR
  have HLN:=Hy hL
  have HO:=Hy hown
  rw [allGo] at hgo
  cases hv:firstV (s.drop r) with
  | inr c=>
   rw [hv] at hgo hf1
   have HG:=Hy hgo
   have HF:Hid (Calls Tryz.prog 282 #[.string ⟨(s.drop r).toArray⟩] wr fun e w'=>e = .panicked (fault c) ∧ Below wr.heap.size wr w'):=hf1
   clear hgo hf1 hv hT hR hL hown
   generalize s.drop r = d at *
   go_wp2_with fail
   refine HF.out.mono ?_
   rintro e w1 ⟨rfl,hB⟩
   exact ⟨rfl,HT.out.below hB,by rw [HG.out]; exact rfl⟩
  | inl x=>
   obtain ⟨k,t,n⟩:=x
   obtain ⟨hn4,hnl,hn1⟩:=firstV_le _ _ _ _ hv
   rw [List.length_drop] at hnl
   rw [hv] at hgo hf1
   have HF:Hid (Calls Tryz.prog 282 #[.string ⟨(s.drop r).toArray⟩] wr fun e w'=>e = .returned (.tuple #[.int .i64 (k:Int),.string ⟨t.toArray⟩,.int .i64 (n:Int)]) ∧ Below wr.heap.size wr w'):=hf1
   have hgo':fin = if k = 2 then .inl (acc,r + n) else allGo f s (r + n) (acc ++ [t]):=hgo
   clear hgo hf1 hv hT hR hL hown
   generalize s.drop r = d at *
   by_cases hk:k = 2
   ·rw [if_pos hk] at hgo'
    have HG:=Hy hgo'
    have hb:((k:Int) == 2) = true:=by simp [hk]
    clear hgo' hk
    go_wp2_with fail
    refine HF.out.mono ?_
    rintro e w1 ⟨rfl,hB⟩
    have HB:=Hy hB
    have R1:=HRD.out.below hB HRD.out.lt
    have hbr:=HR.out.lt
    have hbl:=HL.out.lt
    have cr1:w1.cell? ⟨br,0,none⟩ = some (.int .i64 (r:Int)):=(R1.at_ 0).trans rfl
    have zr1:=R1.thawed 0
    clear hB R1
    go_wp2
    refine bodyPost_ret (results_none rfl _ _ _) rfl ⟨(HT.out.below HB.out).set (.inl rfl) _,?_⟩
    rw [HG.out]
    refine ⟨rfl,v,?_,(HLN.out.below HB.out HLN.out.lt).aside (by show _ ≠ _; dsimp only; omega) _,?_⟩
    ·have:=(HRD.out.below HB.out HRD.out.lt).put 0 (.int .i64 ((r:Int) + (n:Int)))
     rw [show (r:Int) + (n:Int) = ((r + n:Nat):Int) by omega] at this ⊢
     exact this
    ·refine World.ownsRow.kept HO.out (row:=some br) (gr_set (gr_below (gr_refl _ _) HB.out) (.inl rfl) _) ?_
     cases hob:v.ownBlock with
     | none=>exact .inl rfl
     | some j=>exact .inr (fun e=>by have:=(HO.out.lt j hob).1; injection e with e; omega)
   ·rw [if_neg hk] at hgo'
    have HG:=Hy hgo'
    have hb:((k:Int) == 2) = false:=beq_eq_false_iff_ne.2 (by omega)
    clear hgo' hk
    go_wp2_with fail
    refine HF.out.mono ?_
    rintro e w1 ⟨rfl,hB⟩
    have HB:=Hy hB
    have R1:=HRD.out.below hB HRD.out.lt
    have cr1:w1.cell? ⟨br,0,none⟩ = some (.int .i64 (r:Int)):=(R1.at_ 0).trans rfl
    have zr1:=R1.thawed 0
    have L1:=(HLN.out.below hB HLN.out.lt)
    have cl1:w1.cell? ⟨bl,0,none⟩ = some v:=(L1.at_ 0).trans rfl
    have zl1:=L1.thawed 0
    clear hB R1 L1
    have hlim:acc.length + 1 ≤ s.length:=by omega
    have hob:∀ j,v.ownBlock = some j → W.heap.size ≤ j:=fun j hj=>(HO.out.lt j hj).1
    have hbr:=HR.out.lt
    have hbl:=HL.out.lt
    have hWs:=HT.out.size
    have hW1:=HB.out.size
    have HO2:Hid ((w1.setCell ⟨br,0,none⟩ (.int .i64 ((r:Int) + (n:Int)))).ownsRow W.heap.size 9 1 v acc.length (acc.map S)):=by
     refine World.ownsRow.kept HO.out (row:=some br) (gr_set (gr_below (gr_refl _ _) HB.out) (.inl rfl) _) ?_
     cases hobb:v.ownBlock with
     | none=>exact .inl rfl
     | some j=>exact .inr (fun e=>by have:=hob j hobb; injection e with e; omega)
    have HR2:Hid (Whole (w1.setCell ⟨br,0,none⟩ (.int .i64 ((r:Int) + (n:Int)))) br 3 #[.int .i64 ((r:Int) + (n:Int))]):=(HRD.out.below HB.out HRD.out.lt).put 0 (.int .i64 ((r:Int) + (n:Int)))
    have HL2:Hid (Whole (w1.setCell ⟨br,0,none⟩ (.int .i64 ((r:Int) + (n:Int)))) bl 223 #[v]):=(HLN.out.below HB.out HLN.out.lt).aside (by show _ ≠ _; dsimp only; omega) _
    have HT2:Hid (Two br bl W (w1.setCell ⟨br,0,none⟩ (.int .i64 ((r:Int) + (n:Int))))):=(HT.out.below HB.out).set (.inl rfl) _
    have HC:Hid (∀ j u,[Value.string ⟨t.toArray⟩][j]? = some u → ((w1.setCell ⟨br,0,none⟩ (.int .i64 ((r:Int) + (n:Int)))).alloc (.cells #[.string ⟨t.toArray⟩] 9)).cell? ((⟨w1.heap.size,0,none⟩:Addr).add j) = some u):=by
     intro j u hu
     have h:=(Whole.made (w1.setCell ⟨br,0,none⟩ (.int .i64 ((r:Int) + (n:Int)))) 9 #[.string ⟨t.toArray⟩]).at_ j
     rw [World.size_setCell] at h
     rw [Addr.add_mid,Nat.zero_add,h]
     simpa using hu
    have hsz6:W.heap.size ≤ ((w1.setCell ⟨br,0,none⟩ (.int .i64 ((r:Int) + (n:Int)))).alloc (.cells #[.string ⟨t.toArray⟩] 9)).heap.size:=by simp; omega
    go_wp2_with (at_builtin; go_loud (refine wpList_append_own_at _ rfl _ _ 223 rfl W.heap.size 9 si (.string ⟨#[]⟩) 1 16 Tryz.underlying223 hsi hsz0 hsz1 hsz2 rfl (by decide) v acc.length (acc.map S) rfl (HO2.out.alloc _) ⟨w1.heap.size,0,none⟩ 1 1 [.string ⟨t.toArray⟩] rfl rfl HC.out (by simp [Value.oneCell']) (by unfold maxLen; omega) (by omega) hsz6 ?_); intro v' w5 hown' hgrow hnil hloc; have HO5:=Hy hown'; have HG5:=Hy hgrow; have HBL5:=Hy (((HL2.out.past _)).grown hgrow (fun e=>by have:=hob bl e.symm; omega)); have cl5:=(HBL5.out.at_ 0).trans (rfl:_ = some v); have zl5:=HBL5.out.thawed 0; obtain ⟨g5,cap5,rfl⟩:∃ g c,v' = Value.slice (some ⟨g,0,none⟩) (acc.length + 1) c:=(by rcases hown'.2 with ⟨-,h0⟩ | ⟨g,c,_,h,-⟩; exact absurd h0 (by omega); exact ⟨g,c,h⟩); clear hown' hgrow hnil hloc)
    have HR5:Hid (Whole w5 br 3 #[.int .i64 (((r + n:Nat)):Int)]):=by
     have:=(HR2.out.past (.cells #[.string ⟨t.toArray⟩] 9)).grown HG5.out (fun e=>by have:=hob br e.symm; omega)
     rw [show (r:Int) + (n:Int) = ((r + n:Nat):Int) by omega] at this
     exact this
    have HR6:Hid (Whole (w5.setCell ⟨bl,0,none⟩ (.slice (some ⟨g5,0,none⟩) (acc.length + 1) cap5)) br 3 #[.int .i64 (((r + n:Nat)):Int)]):=HR5.out.aside (by show _ ≠ _; dsimp only; omega) _
    have hgw:=(HO5.out.lt g5 rfl).1
    refine ⟨⟨f,r + n,acc ++ [t],.slice (some ⟨g5,0,none⟩) (acc.length + 1) cap5,by omega,by omega,by omega,by simp; omega,HG.out,?_,HR6.out,?_,?_⟩,?_⟩
    ·exact ((HT2.out.alloc _).grown HG5.out hob).set (.inr rfl) _
    ·have:=HBL5.out.put 0 (.slice (some ⟨g5,0,none⟩) (acc.length + 1) cap5)
     exact this
    ·have:=World.ownsRow.kept HO5.out (row:=some bl) (gr_set (gr_refl w5 (some bl)) (p:=⟨bl,0,none⟩) (.inl rfl) (.slice (some ⟨g5,0,none⟩) (acc.length + 1) cap5)) (.inr (fun e=>by have e:some g5 = some bl:=e; injection e with e; omega))
     rw [List.map_append,List.length_append]
     exact this
    ·rw [HR6.out.at_ 0,cr]
     simp [intOf]
     omega
end
end Go.Proofs.YtlfmooihcigolaaGreatDoor

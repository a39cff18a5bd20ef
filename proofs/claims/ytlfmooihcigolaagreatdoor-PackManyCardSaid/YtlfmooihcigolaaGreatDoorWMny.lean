/-
  PackMany, walked.
-/
import Derived.Test.YtlfmooihcigolaaGreatDoorMbt
import Derived.Test.YtlfmooihcigolaaGreatDoorQCel
set_option maxRecDepth 100000
set_option maxHeartbeats 8000000
namespace Go.Proofs.YtlfmooihcigolaaGreatDoor
open Go.RowKit
theorem pick_ten (n:Int):∃ p:Nat,p < 10 ∧ (n.tmod 10 + 10).tmod 10 = (p:Int) ∧ -100 ≤ n.tmod 10 ∧ n.tmod 10 ≤ 100:=by
 have h1:=Int.tmod_lt_of_pos n (show (0:Int) < 10 by omega)
 have h2:=Int.lt_tmod_of_pos n (show (0:Int) < 10 by omega)
 generalize n.tmod 10 = x at *
 rw [Int.tmod_eq_emod_of_nonneg (by omega)]
 refine ⟨((x + 10) % 10).toNat,?_,?_,by omega,by omega⟩
 ·omega
 ·omega
def itD (k:Nat):It:=⟨1,0,default,Lib.itoa k⟩
def itsD (n:Nat):List It:=(List.range n).map itD
theorem itsD_len (n:Nat):(itsD n).length = n:=by simp [itsD]
theorem itsD_succ (n:Nat):itsD (n + 1) = itsD n ++ [itD n]:=by simp [itsD,List.range_succ]
theorem itsD_at (n i:Nat) (h:i < n):(itsD n).getD i default = itD i:=by simp [itsD,List.getD,h]
theorem itD_len (k:Nat) (h:k < 1000):(itD k).body.length ≤ 3:=itoa_len 2 k h
theorem okP_D (n:Nat) (h:n ≤ 200):okP (itsD n):=by
 refine ⟨by rw [itsD_len]; exact h,fun i hi=>?_⟩
 rw [itsD_len] at hi
 rw [itsD_at n i hi]
 have:=itD_len i (by omega)
 exact ⟨by omega,.inl ⟨.inl rfl,rfl,rfl⟩⟩
theorem wmany_any (n0:Int) (w:World) (hbeg:Calls Tryz.prog 14 #[] w fun e w'=>e = .returned (.bool true) ∧ Below w.heap.size w w') (hTab:Tabs w) :
  Calls Tryz.prog 10 #[.int .i64 n0] w fun e w'=>e = .returned (.bool true) ∧ Below w.heap.size w w':=by
 have HBEG:=Hy hbeg
 have HTAB:Hid (∀ W,Below w.heap.size w W → Tabs W):=fun W h=>hTab.below h hTab.lt1 hTab.lt2
 clear hbeg hTab
 obtain ⟨p,hp,hpm,hp1,hp2⟩:=pick_ten n0
 generalize hx:n0.tmod 10 = x at *
 obtain ⟨n,hn⟩:∃ n:Nat,n = 195 + p:=⟨_,rfl⟩
 have hn1:195 ≤ n:=by omega
 have hn2:n ≤ 204:=by omega
 have HN:=Hy hn
 clear hn
 go_enter Tryz.func10,Tryz.ntmps10
 go_wp2_with fail
 refine HBEG.out.mono ?_
 rintro e w1 ⟨rfl,hb⟩
 have B1:=Hy hb
 clear hb HBEG
 go_wp2_with fail
 go_loopg [4,5] n (fun g s4 s5 wr=>∃ (k:Nat) (A9:Option Addr) (c9:Nat),s4 = .slice A9 k c9 ∧ k ≤ n ∧ n - k ≤ g ∧ s5 = .int .i64 k ∧ wr.ownsRow w.heap.size 34 35 (.slice A9 k c9) k ((itsD k).flatMap encI) ∧ Hid (Below w.heap.size w wr))
 case atStart=>exact ⟨0,none,0,rfl,Nat.zero_le _,by omega,rfl,by simpa [itsD] using World.ownsRow_nil _ _ _ _,B1⟩
 case round=>
  obtain ⟨k,A9,c9,rfl,hk,hg,rfl,hown,hwr⟩:=hrel
  by_cases hlt:k < n
  ·have hlt':(k:Int) < 195 + (p:Int):=by have:=HN.out; omega
   have hown0:wr.ownsRow w.heap.size 34 35 (.slice A9 k c9) (itsD k).length ((itsD k).flatMap encI):=by rw [itsD_len]; exact hown
   have HOW:=Hy hown0
   have HS:=Hy (itsD_succ k)
   clear hown hown0
   go_wp2_with fail
   refine (rdec_any k (by omega) wr).mono ?_
   rintro e w4 ⟨rfl,hb4⟩
   have HB4:=Hy (hTr hwr hb4)
   have HOW4:=Hy (own_later HOW.out hb4)
   clear hb4 HOW hwr
   obtain ⟨z,hz⟩:∃ z,z = itD k:=⟨_,rfl⟩
   have HZE:Hid (Value.agg #[.int .i64 1,.int .i64 0,Z8,Z8,Z8,Z8,Z8,Z8,Z8,Z8,Z8,Z8,Z8,Z8,Z8,Z8,Z8,Z8,Z8,Z8,Z8,Z8,Z8,Z8,Z8,Z8,Z8,Z8,Z8,Z8,Z8,Z8,Z8,Z8,.string ⟨(Lib.itoa k).toArray⟩] = .agg (encI z).toArray):=by show _ = _; rw [hz]; rfl
   rw [← hz] at HS
   have HONE:Hid (ArgG encI default 35 (w4.alloc (.cells (encI z).toArray 34)) (some ⟨w4.heap.size,0,none⟩) 1 [z]):=argG_one (Whole.made w4 34 (encI z).toArray)
   have hz4:w.heap.size ≤ w4.heap.size:=HB4.out.size
   have HZ5:Hid (w.heap.size ≤ (w4.alloc (.cells (encI z).toArray 34)).heap.size):=by show _ ≤ _; simp; omega
   have HLL:Hid ((itsD k).length + [z].length ≤ 10000000):=by show _ ≤ _; rw [itsD_len]; simp; omega
   have HB5:=Hy (HB4.out.alloc HB4.out.size (.cells (encI z).toArray 34))
   have HOW5:=Hy (own_later HOW4.out ((Below.refl w4.heap.size w4).alloc (Nat.le_refl _) (.cells (encI z).toArray 34)))
   clear hz HOW4
   go_wp2_with (first
    | (refine wpList_buildG eltI rfl _ rfl z HZE.out ?_)
    | (at_builtin; go_loud (refine wpList_appendG eltI rfl _ _ rfl w.heap.size (.slice A9 k c9) (itsD k) rfl ?_ (some ⟨w4.heap.size,0,none⟩) 1 1 [z] rfl rfl HONE.out HZ5.out HLL.out ?_; exact HOW5.out; intro v' w6 hown' hb6' hgr6; have HOW6:=Hy hown'; have HB6:=Hy (HB5.out.trans hb6'); clear hown' hb6' hgr6)))
   have how6:=HOW6.out
   rw [← HS.out,itsD_len] at how6
   obtain ⟨g6,c6,rfl⟩:=Go.Joins.ownsRow_form how6 (by omega)
   have HOW7:=Hy how6
   clear how6 HOW6 HB5
   go_roundg (n - (k + 1))
   case measure=>omega
   case rel=>exact ⟨k + 1,_,_,rfl,by omega,Nat.le_refl _,by go_num,HOW7.out,HB6⟩
  ·obtain rfl:k = n:=by omega
   have hlt':¬ (k:Int) < 195 + (p:Int):=by have:=HN.out; omega
   have hown0:wr.ownsRow w.heap.size 34 35 (.slice A9 k c9) (itsD k).length ((itsD k).flatMap encI):=by rw [itsD_len]; exact hown
   obtain ⟨A8,c8,he8,har,-,-⟩:=own_argG eltI hown0
   rw [itsD_len] at he8
   injection he8 with e1 e2 e3
   subst e1
   subst e3
   have HAR:=Hy har
   clear hown hown0 har
   by_cases h200:200 < k
   ·have hgt:(195:Int) + (p:Int) > 200:=by have:=HN.out; omega
    go_wp2_with fail
    refine (pput_many A9 c9 k wr h200).mono ?_
    rintro e w5 ⟨rfl,rfl⟩
    go_wp2
    go_ret
    exact ⟨rfl,hwr.out⟩
   ·have hgt:¬ (195:Int) + (p:Int) > 200:=by have:=HN.out; omega
    have hokd:=okP_D k (by omega)
    have HPP:=pput_any A9 c9 (itsD k) wr (HTAB.out wr hwr.out) HAR.out hokd
    rw [itsD_len] at HPP
    replace HPP:=Hy HPP
    have HPG:=Hy fun W (hW:Tabs W)=>pget_any (itsD k) W hW hokd
    rw [itsD_len] at HPG
    clear HAR hokd
    go_wp2_with fail
    refine HPP.out.mono ?_
    rintro e w5 ⟨rfl,hb5⟩
    have B5:=Hy (hTr hwr hb5)
    clear hb5 hwr HPP
    generalize encP (itsD k) = PB at *
    go_wp2_with fail
    refine (HPG.out w5 (HTAB.out w5 B5.out)).mono ?_
    rintro e w6 ⟨⟨A6,c6,rfl,har,-⟩,hb6⟩
    have B6:=Hy (hTr B5 hb6)
    obtain ⟨bb,o,rfl,hr⟩:=har.2.2.2 (by rw [itsD_len]; omega)
    have hrk:=hr (k - 1) (by rw [itsD_len]; omega)
    rw [itsD_at k (k - 1) (by omega)] at hrk
    have hcl:w6.cell? ⟨bb,o + (k - 1) * 35 + 34,none⟩ = some (.string ⟨(Lib.itoa (k - 1:Nat)).toArray⟩):=hrk 34 _ (by show (encI (itD (k - 1)))[34]? = _; rw [show (34:Nat) = 2 + 32 from rfl]; simp [encI,itD,encN_len])
    have hlc6:=har.1
    rw [itsD_len] at hlc6
    have hw1:(195:Int) + (p:Int) - 1 = ((k - 1:Nat):Int):=by have:=HN.out; omega
    have hke:((k:Int) == 195 + (p:Int)) = true:=by have:=HN.out; simp; omega
    clear hr hrk har hb6 B5 HPG
    have HD:=Hy fun W=>rdec_any (k - 1) (by omega) W
    generalize Lib.itoa ((k - 1:Nat):Int) = db at *
    have HCL:Hid (∀ W,Below w6.heap.size w6 W → (Instr.loadAt 9 (.pointer (some ⟨bb,o + (k - 1) * 35 + 34,none⟩))).run Tryz.prog W = .ok (.string ⟨db.toArray⟩) W):=fun W h=>by
     have hc:=cell_grown hcl (grown_none h) (by simp)
     go_simp
    go_wp2_with fail
    refine wp_region_quiet_below (by kernel_rfl) (by kernel_rfl) ?_
    repeat (first
     | go_big_quiet_step ((go_at_call 39; exact Calls.regrown_of (HD.out _)))
     | (refine q_cell _ _ rfl (by rfl) ⟨bb,o + (k - 1) * 35 + 34,none⟩ (.string ⟨db.toArray⟩) rfl (fun W hC=>HCL.out W (below_clsC hC)) ?_; simp only [Act.put]; go_simp))
    refine wpQuiet_nil ?_
    intro p2
    have HF:=Hy (B6.out.trans ((below_regrown w6 p2.d p2.os).mono B6.out.size))
    generalize Sort.grow (redrawn w6 p2.d) p2.os = wf at *
    go_wp2
    go_ret
    exact ⟨rfl,HF.out⟩
end Go.Proofs.YtlfmooihcigolaaGreatDoor

/-
  TreG, TreH.
-/
import Derived.Test.YtlfmooihcigolaaGreatDoorMao
import Derived.Laws.Cover3
set_option maxRecDepth 100000
set_option maxHeartbeats 8000000
namespace Go.Proofs.YtlfmooihcigolaaGreatDoor
open Go.RowKit
def Fell (R:Nat → Prop) (w:World) (e:Ending) (w':World):Prop:=∃ c:Int,c ≠ 0 ∧ e = .panicked (fault c) ∧ Alt R w w'
theorem own_byt {w:World} {B:Nat} {v:Value} {bs:List UInt8} (h:w.ownsRow B 5 1 v bs.length (bs.map Y)):Bytes w v bs:=by
 rcases h.2 with ⟨rfl,h0⟩ | ⟨g,cap,cur,rfl,hB,hg,hn,hm,hs,ht⟩
 ·exact ⟨none,0,by rw [h0],by omega,by unfold maxLen; omega,fun h=>absurd h (by omega)⟩
 ·refine ⟨_,cap,rfl,hn,hm,fun _=>⟨g,0,rfl,fun i hi=>?_⟩⟩
  have hx:(bs.map Y)[i]? = some (Y (bs.getD i 0)):=by simp [List.getElem?_eq_getElem hi]
  rw [← ht,List.getElem?_take_of_lt (by omega)] at hx
  rw [Nat.zero_add,cell_of_row _ _ _ _ _ _ hg]
  simpa using hx
theorem drop_cons' (s:List UInt8) (k:Nat) (h:k < s.length):s.drop k = s.getD k 0 :: s.drop (k + 1):=by
 rw [List.drop_eq_getElem_cons h]
 simp [List.getD,List.getElem?_eq_getElem h]
theorem rdname_ok (b m:Nat) (s:List UInt8) (w:World) (h:Rd w b s) (h1:∀ j,j < m → s.getD j 0 ≠ 0) (h2:m < s.length) (h3:s.getD m 0 = 0) (h4:m ≤ 20) :
  Calls Tryz.prog 267 #[.pointer (some ⟨b,0,none⟩)] w fun e w'=>e = .returned (.string ⟨(s.take m).toArray⟩) ∧ Alt (· = b) w w' ∧ Rd w' b (s.drop (m + 1)):=by
 obtain ⟨i0,hi,hz0,hz1,hz2⟩:=info_parts infoY
 have hbl:b < w.heap.size:=h.lt
 have HB:=Hy (byte_some b (s.getD 0 0) (s.drop 1) w (by rw [← drop_cons' s 0 (by omega)]; exact h))
 have H1:=Hy h1
 have H3:=Hy h3
 clear h h1 h3
 go_enter Tryz.func267,Tryz.ntmps267
 go_wp2_with fail
 refine HB.out.mono ?_
 rintro e w1 ⟨rfl,hG,hR⟩
 have HR:=Hy hR
 have HA:=Hy (Alt.of_grown (R:=(· = b)) hG (fun j hj=>by injection hj with hj; exact hj.symm))
 have hs1:=hG.size
 clear hG hR HB
 go_wp2
 go_loopg [3,4] m (fun g s3 s4 wr=>∃ k:Nat,k ≤ m ∧ m - k ≤ g ∧ s4 = .int .u8 ((s.getD k 0).toNat:Int) ∧ wr.ownsRow w.heap.size 5 1 s3 k ((s.take k).map Y) ∧ Hid (Alt (· = b) w wr) ∧ w.heap.size ≤ wr.heap.size ∧ Hid (Rd wr b (s.drop (k + 1))))
 case atStart=>exact ⟨0,by omega,by omega,rfl,by simpa using World.ownsRow_nil _ _ _ _,HA,hs1,HR⟩
 case round=>
  obtain ⟨k,hk,hg,rfl,hown,hal,hsz,hrd⟩:=hrel
  by_cases hlt:k < m
  ·have hne:(((s.getD k 0).toNat:Int) != 0) = true:=by
    have h0:=H1.out k hlt
    simp only [bne_iff_ne,ne_eq]
    intro e
    exact h0 (UInt8.toNat_inj.1 (by simpa using e))
   have hd20:decide ((k:Int) < 20) = true:=by simp; omega
   obtain ⟨A9,c9,rfl⟩:=own_slice hown
   have HNB:=Hy (fun W (h:Rd W b (s.drop (k + 1)))=>byte_some b (s.getD (k + 1) 0) (s.drop (k + 2)) W (by rw [← drop_cons' s (k + 1) (by omega)]; exact h))
   have HTK:Hid ((s.take (k + 1)).map Y = (s.take k).map Y ++ [.int .u8 ((s.getD k 0).toNat:Int)]):=by
    show _ = _
    rw [take_snoc' s k (by omega),List.map_append]
    rfl
   generalize s.getD k 0 = x at *
   have hcell:∀ j u,[Value.int .u8 (x.toNat:Int)][j]? = some u → (wr.alloc (.cells #[.int .u8 (x.toNat:Int)] 5)).cell? ((⟨wr.heap.size,0,none⟩:Addr).add j) = some u:=by
    intro j u hu
    have h:=(Whole.made wr 5 #[.int .u8 (x.toNat:Int)]).at_ j
    rw [Addr.add_mid,Nat.zero_add,h]
    simpa using hu
   go_wp2_with (first
    | (go_at_call 78; refine (must_yes _ _).mono ?_; rintro e w' ⟨rfl,rfl⟩)
    | (at_builtin; go_loud (refine wpList_append_own_at _ rfl _ _ 63 rfl w.heap.size 5 i0 (.int .u8 0) 1 1 Tryz.underlying63 hi hz0 hz1 hz2 rfl (by decide) _ _ _ rfl (hown.alloc _) ⟨wr.heap.size,0,none⟩ 1 1 [.int .u8 (x.toNat:Int)] rfl (by simp) hcell (yb_one [x]) (by unfold maxLen; omega) (by omega) (by simp; omega) ?_)))
   intro v' w2 hown' hgr _ _
   have hown':w2.ownsRow w.heap.size 5 1 v' (k + 1) ((s.take (k + 1)).map Y):=by rw [HTK.out,List.map_take]; exact hown'
   have HOW:=Hy hown'
   obtain ⟨A',c',rfl⟩:=own_slice hown'
   have hvb:(Value.slice A' (k + 1) c').ownBlock ≠ some b:=by
    intro e
    have:=(hown'.lt b e).1
    omega
   have HVB:=Hy hvb
   have hrow:∀ j,(Value.slice A9 k c9).ownBlock = some j → w.heap.size ≤ j:=fun j hj=>(hown.lt j hj).1
   have HAL:=Hy ((hal.out.alloc (.cells #[.int .u8 (x.toNat:Int)] 5)).grown hgr (fun j hj=>.inl (hrow j hj)))
   have HRD:Hid (Rd w2 b (s.drop (k + 1))):=by
    have h9:=Whole.past hrd.out (.cells #[.int .u8 (x.toNat:Int)] 5)
    exact Whole.grown h9 hgr (fun e=>by have:=hrow b e.symm; omega)
   have hs2:w.heap.size ≤ w2.heap.size:=HAL.out.size
   clear hown hown' hgr hcell hvb hrow
   go_wp2_with fail
   refine (HNB.out w2 HRD.out).mono ?_
   rintro e w3 ⟨rfl,hG,hR⟩
   have HAL3:=Hy (HAL.out.grown hG (fun j hj=>by injection hj with hj; exact .inr hj.symm))
   have how3:w3.ownsRow w.heap.size 5 1 (.slice A' (k + 1) c') (k + 1) ((s.take (k + 1)).map Y):=HOW.out.kept hG (.inr (fun e=>HVB.out e))
   have HR3:=Hy hR
   have hs3:w.heap.size ≤ w3.heap.size:=HAL3.out.size
   clear hG hR
   go_wp2
   go_roundg (m - (k + 1))
   case measure=>omega
   case rel=>exact ⟨k + 1,by omega,Nat.le_refl _,rfl,how3,HAL3,hs3,HR3⟩
  ·obtain rfl:k = m:=by omega
   have htl:(s.take k).length = k:=by rw [List.length_take]; omega
   have hcv:=bytes_str (P:=Tryz.prog) 63 9 5 Tryz.underlying63 Tryz.underlying5 Tryz.underlying9 (own_byt (bs:=s.take k) (by rw [htl]; exact hown))
   obtain ⟨A9,c9,rfl⟩:=own_slice hown
   rw [H3.out]
   generalize hn:s.take k = n at *
   have HN:=Hy hn
   clear hown htl hn
   go_wp2
   go_ret
   exact ⟨by rw [HN.out]; rfl,hal.out,hrd.out⟩
theorem rdname_bad (b:Nat) (s:List UInt8) (w:World) (h:Rd w b s) (h1:∀ j,j < s.length → j ≤ 20 → s.getD j 0 ≠ 0) :
  Calls Tryz.prog 267 #[.pointer (some ⟨b,0,none⟩)] w fun e w'=>Fell (· = b) w e w':=by
 obtain ⟨i0,hi,hz0,hz1,hz2⟩:=info_parts infoY
 have hbl:b < w.heap.size:=h.lt
 have H1:=Hy h1
 by_cases h0:s.length = 0
 ·have HB:=Hy (byte_more b w (by rw [← List.length_eq_zero_iff.1 h0]; exact h))
  clear h h1
  go_enter Tryz.func267,Tryz.ntmps267
  go_wp2_with fail
  refine HB.out.mono ?_
  rintro e w1 ⟨rfl,rfl⟩
  exact ⟨rfl,2,by decide,rfl,Alt.refl _ _⟩
 have HB:=Hy (byte_some b (s.getD 0 0) (s.drop 1) w (by rw [← drop_cons' s 0 (by omega)]; exact h))
 clear h h1
 go_enter Tryz.func267,Tryz.ntmps267
 go_wp2_with fail
 refine HB.out.mono ?_
 rintro e w1 ⟨rfl,hG,hR⟩
 have HR:=Hy hR
 have HA:=Hy (Alt.of_grown (R:=(· = b)) hG (fun j hj=>by injection hj with hj; exact hj.symm))
 have hs1:=hG.size
 clear hG hR HB
 go_wp2
 go_loopg [3,4] 20 (fun g s3 s4 wr=>∃ k:Nat,k ≤ 20 ∧ k < s.length ∧ 20 - k ≤ g ∧ s4 = .int .u8 ((s.getD k 0).toNat:Int) ∧ wr.ownsRow w.heap.size 5 1 s3 k ((s.take k).map Y) ∧ Hid (Alt (· = b) w wr) ∧ w.heap.size ≤ wr.heap.size ∧ Hid (Rd wr b (s.drop (k + 1))))
 case atStart=>exact ⟨0,by omega,by omega,by omega,rfl,by simpa using World.ownsRow_nil _ _ _ _,HA,hs1,HR⟩
 case round=>
  obtain ⟨k,hk,hks,hg,rfl,hown,hal,hsz,hrd⟩:=hrel
  have hne:(((s.getD k 0).toNat:Int) != 0) = true:=by
   have h0:=H1.out k hks hk
   simp only [bne_iff_ne,ne_eq]
   intro e
   exact h0 (UInt8.toNat_inj.1 (by simpa using e))
  by_cases hlt:k < 20
  ·have hd20:decide ((k:Int) < 20) = true:=by simp; omega
   obtain ⟨A9,c9,rfl⟩:=own_slice hown
   have HTK:Hid ((s.take (k + 1)).map Y = (s.take k).map Y ++ [.int .u8 ((s.getD k 0).toNat:Int)]):=by
    show _ = _
    rw [take_snoc' s k (by omega),List.map_append]
    rfl
   have HNB:=Hy (fun W (hn:k + 1 < s.length) (h:Rd W b (s.drop (k + 1)))=>byte_some b (s.getD (k + 1) 0) (s.drop (k + 2)) W (by rw [← drop_cons' s (k + 1) hn]; exact h))
   have HNE:=Hy (fun W (hn:¬ k + 1 < s.length) (h:Rd W b (s.drop (k + 1)))=>byte_more b W (by rw [List.drop_eq_nil_of_le (by omega)] at h; exact h))
   generalize s.getD k 0 = x at *
   have hcell:∀ j u,[Value.int .u8 (x.toNat:Int)][j]? = some u → (wr.alloc (.cells #[.int .u8 (x.toNat:Int)] 5)).cell? ((⟨wr.heap.size,0,none⟩:Addr).add j) = some u:=by
    intro j u hu
    have h:=(Whole.made wr 5 #[.int .u8 (x.toNat:Int)]).at_ j
    rw [Addr.add_mid,Nat.zero_add,h]
    simpa using hu
   go_wp2_with (first
    | (go_at_call 78; refine (must_yes _ _).mono ?_; rintro e w' ⟨rfl,rfl⟩)
    | (at_builtin; go_loud (refine wpList_append_own_at _ rfl _ _ 63 rfl w.heap.size 5 i0 (.int .u8 0) 1 1 Tryz.underlying63 hi hz0 hz1 hz2 rfl (by decide) _ _ _ rfl (hown.alloc _) ⟨wr.heap.size,0,none⟩ 1 1 [.int .u8 (x.toNat:Int)] rfl (by simp) hcell (yb_one [x]) (by unfold maxLen; omega) (by omega) (by simp; omega) ?_)))
   intro v' w2 hown' hgr _ _
   have hown':w2.ownsRow w.heap.size 5 1 v' (k + 1) ((s.take (k + 1)).map Y):=by rw [HTK.out,List.map_take]; exact hown'
   have HOW:=Hy hown'
   obtain ⟨A',c',rfl⟩:=own_slice hown'
   have hvb:(Value.slice A' (k + 1) c').ownBlock ≠ some b:=by
    intro e
    have:=(hown'.lt b e).1
    omega
   have HVB:=Hy hvb
   have hrow:∀ j,(Value.slice A9 k c9).ownBlock = some j → w.heap.size ≤ j:=fun j hj=>(hown.lt j hj).1
   have HAL:=Hy ((hal.out.alloc (.cells #[.int .u8 (x.toNat:Int)] 5)).grown hgr (fun j hj=>.inl (hrow j hj)))
   have HRD:Hid (Rd w2 b (s.drop (k + 1))):=by
    have h9:=Whole.past hrd.out (.cells #[.int .u8 (x.toNat:Int)] 5)
    exact Whole.grown h9 hgr (fun e=>by have:=hrow b e.symm; omega)
   have hs2:w.heap.size ≤ w2.heap.size:=HAL.out.size
   clear hown hown' hgr hcell hvb hrow
   by_cases hnx:k + 1 < s.length
   ·go_wp2_with fail
    refine (HNB.out w2 hnx HRD.out).mono ?_
    rintro e w3 ⟨rfl,hG,hR⟩
    have HAL3:=Hy (HAL.out.grown hG (fun j hj=>by injection hj with hj; exact .inr hj.symm))
    have how3:w3.ownsRow w.heap.size 5 1 (.slice A' (k + 1) c') (k + 1) ((s.take (k + 1)).map Y):=HOW.out.kept hG (.inr (fun e=>HVB.out e))
    have HR3:=Hy hR
    have hs3:w.heap.size ≤ w3.heap.size:=HAL3.out.size
    clear hG hR
    go_wp2
    go_roundg (20 - (k + 1))
    case measure=>omega
    case rel=>exact ⟨k + 1,by omega,hnx,Nat.le_refl _,by simp [List.getElem?_eq_getElem hnx],how3,HAL3,hs3,HR3⟩
   ·go_wp2_with fail
    refine (HNE.out w2 hnx HRD.out).mono ?_
    rintro e w3 ⟨rfl,rfl⟩
    exact ⟨rfl,2,by decide,rfl,HAL.out⟩
  ·obtain rfl:k = 20:=by omega
   obtain ⟨A9,c9,rfl⟩:=own_slice hown
   generalize s.getD 20 0 = x at *
   go_wp2_with (go_at_call 78; refine (must_no _ _).mono ?_; rintro e w' ⟨rfl,rfl⟩)
   exact ⟨rfl,1,by decide,rfl,hal.out⟩
theorem istree_ok (m:UInt8) (h:m = 100 ∨ m = 102) (w:World):Calls Tryz.prog 266 #[.int .u8 (m.toNat:Int)] w fun e w'=>e = .returned (.bool (m == 100)) ∧ w = w':=by
 rcases h with rfl | rfl
 ·go_enter Tryz.func266,Tryz.ntmps266
  go_wp2_with (go_at_call 78; refine (must_yes _ _).mono ?_; rintro e w' ⟨rfl,rfl⟩)
  go_ret
  exact ⟨rfl,rfl⟩
 ·go_enter Tryz.func266,Tryz.ntmps266
  go_wp2_with (go_at_call 78; refine (must_yes _ _).mono ?_; rintro e w' ⟨rfl,rfl⟩)
  go_ret
  exact ⟨rfl,rfl⟩
theorem istree_bad (m:UInt8) (h:¬ (m = 100 ∨ m = 102)) (w:World):Calls Tryz.prog 266 #[.int .u8 (m.toNat:Int)] w fun e w'=>e = .panicked (fault 1) ∧ w = w':=by
 have e1:((m.toNat:Int) == 100) = false:=by
  rw [beq_eq_false_iff_ne]
  intro e
  exact h (.inl (UInt8.toNat_inj.1 (show m.toNat = ((100:UInt8)).toNat by have:(100:UInt8).toNat = 100:=rfl; omega)))
 have e2:((m.toNat:Int) == 102) = false:=by
  rw [beq_eq_false_iff_ne]
  intro e
  exact h (.inr (UInt8.toNat_inj.1 (show m.toNat = ((102:UInt8)).toNat by have:(102:UInt8).toNat = 102:=rfl; omega)))
 clear h
 go_enter Tryz.func266,Tryz.ntmps266
 go_wp2_with (go_at_call 78; refine (must_no _ _).mono ?_; rintro e w' ⟨rfl,rfl⟩)
 exact ⟨rfl,rfl,rfl⟩
theorem whole_setCells {g:Nat} {t:TypeId}:∀ (vs:List Value) (o:Nat) (w:World) (cs:Array Value),Whole w g t cs → o + vs.length = cs.size → Whole (w.setCells g o vs) g t (cs.toList.take o ++ vs).toArray
 | [],o,w,cs,h,hs=>by
  rw [List.append_nil,List.take_of_length_le (by simp at hs ⊢; omega)]
  simpa [World.setCells] using h
 | v :: r,o,w,cs,h,hs=>by
  rw [World.setCells]
  have h1:=whole_setCells r (o + 1) _ _ (h.put o v) (by simp at hs ⊢; omega)
  have ho:o < cs.toList.length:=by simp at hs ⊢; omega
  have e:(cs.setIfInBounds o v).toList.take (o + 1) ++ r = cs.toList.take o ++ v :: r:=by
   rw [Array.toList_setIfInBounds,List.take_set,List.take_succ_eq_append_getElem ho,List.set_append_right _ _ (by simp; omega)]
   have:o - (cs.toList.take o).length = 0:=by simp; omega
   rw [this]
   simp
  rw [e] at h1
  exact h1
theorem gr_setCells {g:Nat}:∀ (vs:List Value) (o:Nat) (w w0:World),w0.grownBy w (some g) → w0.grownBy (w.setCells g o vs) (some g)
 | [],_,_,_,h=>h
 | v :: r,o,w,w0,h=>by
  rw [World.setCells]
  exact gr_setCells r (o + 1) _ _ (gr_set h (.inl rfl) _)
theorem cut_no:∀ (r n u:List UInt8),cutName r = some (n,u) → (0:UInt8) ∉ n
 | [],n,u,h=>by cases h
 | b :: r,n,u,h=>by
  unfold cutName at h
  by_cases hb:b = 0
  ·rw [if_pos hb] at h
   injection h with h
   injection h with h1 h2
   subst h1
   simp
  ·rw [if_neg hb] at h
   cases hc:cutName r with
   | none=>rw [hc] at h; cases h
   | some p=>
    rw [hc] at h
    injection h with h
    injection h with h1 h2
    subst h1 h2
    have:=cut_no r p.1 p.2 hc
    intro hm
    rcases List.mem_cons.1 hm with e | e
    ·exact hb e.symm
    ·exact this e
theorem rdname_cut (b:Nat) (r n u:List UInt8) (w:World) (h:Rd w b r) (hc:cutName r = some (n,u)) (hn:n.length ≤ 20) :
  Calls Tryz.prog 267 #[.pointer (some ⟨b,0,none⟩)] w fun e w'=>e = .returned (.string ⟨n.toArray⟩) ∧ Alt (· = b) w w' ∧ Rd w' b u:=by
 have hb:=cut_back r n u hc
 have h0:=cut_no r n u hc
 have key:=rdname_ok b n.length r w h (fun j hj e=>h0 (by
  rw [hb] at e
  rw [List.getD_eq_getElem?_getD,List.getElem?_append_left hj,List.getElem?_eq_getElem hj] at e
  rw [← show n[j] = 0 from e]
  exact List.getElem_mem hj)) (by rw [hb]; simp) (by rw [hb]; simp [List.getD]) hn
 rw [hb] at key
 simpa using key
theorem rdname_fell (b:Nat) (r:List UInt8) (w:World) (h:Rd w b r) (hb:∀ n u,cutName r = some (n,u) → ¬ n.length ≤ 20) :
  Calls Tryz.prog 267 #[.pointer (some ⟨b,0,none⟩)] w fun e w'=>Fell (· = b) w e w':=by
 refine rdname_bad b r w h ?_
 -- the first nought
 by_cases hz:∃ k,k < r.length ∧ r.getD k 0 = 0 ∧ ∀ j,j < k → r.getD j 0 ≠ 0
 ·obtain ⟨k,hk,hk0,hkj⟩:=hz
  have:=hb _ _ (ncut_at r k hkj hk hk0)
  rw [List.length_take] at this
  intro j _ hj
  exact hkj j (by omega)
 ·intro j hj hj20 e
  refine hz ?_
  clear hb h
  induction j using Nat.strongRecOn with
  | ind j ih=>
   by_cases ha:∀ i,i < j → r.getD i 0 ≠ 0
   ·exact ⟨j,hj,e,ha⟩
   ·have ⟨i,hi⟩:=Classical.not_forall.1 ha
    have hi1:i < j:=Classical.byContradiction fun h=>hi (fun h2=>absurd h2 h)
    have hi2:r.getD i 0 = 0:=Classical.byContradiction fun h=>hi (fun _=>h)
    exact ih i hi1 (by omega) (by omega) hi2
theorem row_range {w:World} {g c:Nat} {l:List UInt8} (h:Row w (some ⟨g,0,none⟩) c l):w.rangeAt g 0 (l.map Y):=by
 intro j v hv
 have hj:j < l.length:=by simpa using (List.getElem?_eq_some_iff.1 hv).1
 obtain ⟨g',e,hg,hc⟩:=h.2.2 (by omega)
 injection e with e
 injection e with e1 e2
 subst e1
 rw [Nat.zero_add,(hc j hj).1,← hv]
 simp [List.getElem?_eq_getElem hj]
theorem entry_ok (b:Nat) (m:UInt8) (r n u:List UInt8) (x:Nm) (w:World) (hm:m = 100 ∨ m = 102) (h:Rd w b (m :: 32 :: r)) (hc:cutName r = some (n,u)) (hn:n.length ≤ 20) (hu:32 ≤ u.length) (hx:x.l = u.take 32) :
  Calls Tryz.prog 232 #[.pointer (some ⟨b,0,none⟩)] w fun e w'=>e = .returned (.agg (encE ⟨n,m == 100,x⟩).toArray) ∧ Alt (· = b) w w' ∧ Rd w' b (u.drop 32):=by
 have hbl:b < w.heap.size:=h.lt
 have HIS:=Hy fun W=>istree_ok m hm W
 have HNM:=Hy fun W (h:Rd W b r)=>rdname_cut b r n u W h hc hn
 have HBY:=Hy fun W (h:Rd W b u)=>rbytes_some b u 32 W h hu (by decide)
 have HX:=Hy hx
 generalize (m == 100) = dr at *
 have HR0:=Hy fun z=>Whole.past (Whole.past h (.cells z 156)) (.cells z 156)
 have HB0:=Hy fun z=>((Alt.refl (· = b) w).alloc (.cells z 156)).alloc (.cells z 156)
 have HG0:=Hy fun z=>Whole.past (Whole.made w 156 z) (.cells z 156)
 have HG1:Hid (∀ z,Whole ((w.alloc (.cells z 156)).alloc (.cells z 156)) (w.heap.size + 1) 156 z):=by
  intro z
  have:=Whole.made (w.alloc (.cells z 156)) 156 z
  simpa using this
 clear h hm hc hx
 go_enter Tryz.func232,Tryz.ntmps232
 go_wp2_with fail
 generalize hz:(#[Value.string ⟨#[]⟩,.bool false,Z8,Z8,Z8,Z8,Z8,Z8,Z8,Z8,Z8,Z8,Z8,Z8,Z8,Z8,Z8,Z8,Z8,Z8,Z8,Z8,Z8,Z8,Z8,Z8,Z8,Z8,Z8,Z8,Z8,Z8,Z8,Z8]:Array Value) = z at *
 have hz0:z[0]? = some (.string ⟨#[]⟩):=by rw [← hz]; rfl
 have hz1:z[1]? = some (.bool false):=by rw [← hz]; rfl
 have hzs:z.size = 34:=by rw [← hz]; rfl
 have hR:=HR0.out z
 have hB:=HB0.out z
 have hG0:=HG0.out z
 have hG1:=HG1.out z
 clear hz HR0 HB0 HG0 HG1
 generalize (w.alloc (.cells z 156)).alloc (.cells z 156) = w0 at *
 refine (byte_some b m (32 :: r) _ hR).mono ?_
 rintro e w1 ⟨rfl,hG,hR1⟩
 have HA1:=Hy (hB.grown hG (fun j hj=>by injection hj with hj; exact .inr hj.symm))
 have HG01:=Hy (hG0.grown hG (fun e=>by injection e with e; omega))
 have hG11:=hG1.grown hG (fun e=>by injection e with e; omega)
 have HR1:=Hy hR1
 have hc1:w1.cell? ⟨w.heap.size + 1,1,none⟩ = some (.bool false):=(hG11.at_ 1).trans hz1
 have hf1:=hG11.thawed 1
 have HG11:=Hy hG11
 clear hR hB hG0 hG1 hG hR1 hG11
 go_wp2_with fail
 refine (HIS.out _).mono ?_
 rintro e w2 ⟨rfl,rfl⟩
 go_wp2_with fail
 have HA2:=Hy (HA1.out.set (p:=⟨w.heap.size + 1,1,none⟩) (.inr (by simp)) (.bool dr))
 have HG02:=Hy (HG01.out.aside (p:=⟨w.heap.size + 1,1,none⟩) (by simp) (.bool dr))
 have HG12:=Hy (HG11.out.put 1 (.bool dr))
 have hR2:=Whole.aside HR1.out (p:=⟨w.heap.size + 1,1,none⟩) (by simp; omega) (.bool dr)
 clear hc1 hf1 HA1 HG01 HG11 HR1
 generalize w1.setCell ⟨w.heap.size + 1,1,none⟩ (.bool dr) = w2 at *
 have hz10:(z.setIfInBounds 1 (.bool dr))[0]? = some (.string ⟨#[]⟩):=by simp [hz0]
 have hz11:(z.setIfInBounds 1 (.bool dr))[1]? = some (.bool dr):=Array.getElem?_setIfInBounds_self_of_lt (by omega)
 have hz1s:(z.setIfInBounds 1 (.bool dr)).size = 34:=by simpa using hzs
 generalize z.setIfInBounds 1 (.bool dr) = z1 at *
 refine (byte_some b 32 r _ hR2).mono ?_
 rintro e w3 ⟨rfl,hG,hR3⟩
 have HA3:=Hy (HA2.out.grown hG (fun j hj=>by injection hj with hj; exact .inr hj.symm))
 have HG03:=Hy (HG02.out.grown hG (fun e=>by injection e with e; omega))
 have HG13:=Hy (HG12.out.grown hG (fun e=>by injection e with e; omega))
 have HR3:=Hy hR3
 clear hG hR2 hR3 HA2 HG02 HG12
 go_wp2_with (go_at_call 78; refine (must_yes _ _).mono ?_; rintro e w' ⟨rfl,rfl⟩)
 refine (HNM.out _ HR3.out).mono ?_
 rintro e w4 ⟨rfl,hal,hR4⟩
 have HA4:=Hy (HA3.out.trans hal)
 have HG04:=Hy (HG03.out.alt hal (by omega))
 have hG14:=HG13.out.alt hal (by omega)
 have HR4:=Hy hR4
 have hc0:w4.cell? ⟨w.heap.size + 1,0,none⟩ = some (.string ⟨#[]⟩):=(hG14.at_ 0).trans hz10
 have hf0:=hG14.thawed 0
 have HG14:=Hy hG14
 clear hal hR4 hG14 HA3 HG03 HG13 HR3 HNM
 go_wp2_with fail
 have HA5:=Hy (HA4.out.set (p:=⟨w.heap.size + 1,0,none⟩) (.inr (by simp)) (.string ⟨n.toArray⟩))
 have HG05:=Hy (HG04.out.aside (p:=⟨w.heap.size + 1,0,none⟩) (by simp) (.string ⟨n.toArray⟩))
 have HG15:=Hy (HG14.out.put 0 (.string ⟨n.toArray⟩))
 have hR5:=Whole.aside HR4.out (p:=⟨w.heap.size + 1,0,none⟩) (by simp; omega) (.string ⟨n.toArray⟩)
 clear hc0 hf0 HA4 HG04 HG14 HR4
 generalize w4.setCell ⟨w.heap.size + 1,0,none⟩ (.string ⟨n.toArray⟩) = w5 at *
 have hz20:(z1.setIfInBounds 0 (.string ⟨n.toArray⟩))[0]? = some (.string ⟨n.toArray⟩):=Array.getElem?_setIfInBounds_self_of_lt (by omega)
 have hz21:(z1.setIfInBounds 0 (.string ⟨n.toArray⟩))[1]? = some (.bool dr):=by simp [hz11]
 have hz2s:(z1.setIfInBounds 0 (.string ⟨n.toArray⟩)).size = 34:=by simpa using hz1s
 generalize z1.setIfInBounds 0 (.string ⟨n.toArray⟩) = z2 at *
 have hEQ:(z2.toList.take 2 ++ (encN x).toArray.toList).toArray = (encE ⟨n,dr,x⟩).toArray:=by
  have e2:z2.toList.take 2 = [.string ⟨n.toArray⟩,.bool dr]:=by
   rw [List.take_succ_eq_append_getElem (by simp; omega),List.take_succ_eq_append_getElem (by simp; omega)]
   simp only [List.take_zero,List.nil_append,Array.getElem_toList]
   have a0:=(Array.getElem?_eq_some_iff.1 hz20).2
   have a1:=(Array.getElem?_eq_some_iff.1 hz21).2
   rw [a0,a1]
   rfl
  rw [e2]
  rfl
 have HEQ:=Hy hEQ
 have HZS:=Hy hzs
 clear hz0 hz1 hzs hz10 hz11 hz1s hz20 hz21 hEQ
 refine (HBY.out _ hR5).mono ?_
 rintro e w6 ⟨gr,cr,rfl,hrow,hal,hR6,hgr⟩
 have HA6:=Hy (HA5.out.trans hal)
 have HG06:=Hy (HG05.out.alt hal (by omega))
 have HG16:=Hy (HG15.out.alt hal (by omega))
 have HR6:=Hy hR6
 have HRW:Hid (w6.rangeAt gr 0 (encN x)):=by
  show World.rangeAt _ _ _ _
  unfold encN
  rw [HX.out]
  exact row_range hrow
 have hg1:w.heap.size + 1 < w5.heap.size:=HG15.out.lt
 have harr:=fun W=>run_arrayAt (P:=Tryz.prog) W 30 5 32 (some ⟨gr,0,none⟩) 32 cr Tryz.underlying30 (Nat.le_refl _)
 clear hal hR6 hR5 hrow HA5 HG05 HG15 HBY
 have HXI:Hid ((Tryz.prog.info? 30).map (·.size) = some (encN x).toArray.size):=by show _ = _; rw [encN_size]; exact infoN
 have HTH:Hid (w6.there (w.heap.size + 1) 2 (encN x).toArray.size):=by
  intro j hj
  rw [encN_size] at hj
  refine ⟨?_,HG16.out.thawed _⟩
  rw [HG16.out.at_,Array.getElem?_eq_getElem (by omega)]
  rfl
 have HA7:Hid (Alt (· = b) w (w6.setCells (w.heap.size + 1) 2 (encN x).toArray.toList)):=Alt.grown HA6.out (gr_setCells (g:=w.heap.size + 1) _ 2 w6 w6 (gr_refl _ _)) (fun j hj=>by injection hj with hj; exact .inl (by omega))
 have HG07:Hid (Whole (w6.setCells (w.heap.size + 1) 2 (encN x).toArray.toList) w.heap.size 156 z):=Whole.grown HG06.out (gr_setCells (g:=w.heap.size + 1) _ 2 w6 w6 (gr_refl _ _)) (fun e=>by injection e with e; omega)
 have HR7:Hid (Rd (w6.setCells (w.heap.size + 1) 2 (encN x).toArray.toList) b (u.drop 32)):=Whole.grown HR6.out (gr_setCells (g:=w.heap.size + 1) _ 2 w6 w6 (gr_refl _ _)) (fun e=>by injection e with e; omega)
 have HG17:Hid (Whole (w6.setCells (w.heap.size + 1) 2 (encN x).toArray.toList) (w.heap.size + 1) 156 (encE ⟨n,dr,x⟩).toArray):=by
  show Whole _ _ _ _
  have h9:=whole_setCells (encN x).toArray.toList 2 w6 z2 HG16.out (by have:=encN_len x; simp; omega)
  rw [HEQ.out] at h9
  exact h9
 go_wp2_with (first
  | (refine wpList_load_mid rfl 30 _ rfl gr 0 rfl (encN x) _ HRW.out Tryz.underlying30 rfl (by rw [encN_len]; exact infoN) ?_)
  | (refine wpList_store_mid rfl 30 _ _ rfl (w.heap.size + 1) 2 (encN x).toArray rfl rfl HTH.out HXI.out (encN_all x) ?_; generalize w6.setCells (w.heap.size + 1) 2 (encN x).toArray.toList = w7 at *)
  | (refine wpList_load_row rfl 156 _ rfl (w.heap.size + 1) rfl 156 (encE ⟨n,dr,x⟩).toArray (0,0) _ HG17.out Tryz.underlying156 rfl (infoE_s _) ?_)
  | (refine wpList_store_whole rfl 156 _ _ rfl w.heap.size (encE ⟨n,dr,x⟩).toArray rfl rfl 156 _ HG07.out (infoE_s _) (by rw [encE_size]; exact HZS.out) (encE_all _) ?_; intro w8 hWn hGn; have HW8:=Hy hWn; have HG8:=Hy hGn; clear hWn hGn))
 have HA8:=Hy (HA7.out.grown HG8.out (fun j hj=>by injection hj with hj; exact .inl (by omega)))
 have HR8:=Hy (Whole.grown HR7.out HG8.out (fun e=>by injection e with e; omega))
 refine bodyPost_ret (v:=.agg (encE ⟨n,dr,x⟩).toArray) ?_ rfl ⟨rfl,HA8.out,HR8.out⟩
 exact results_cell_row (p:=2) (ty:=156) rfl _ _ w.heap.size 156 (encE ⟨n,dr,x⟩).toArray (0,0) _ rfl HW8.out Tryz.underlying156 rfl (infoE_s _)
theorem rby_more (b:Nat) (s:List UInt8) (n:Int) (w:World) (h:Rd w b s) (hn:(s.length:Int) < n):Calls Tryz.prog 106 #[.pointer (some ⟨b,0,none⟩),.int .i64 n] w fun e w'=>e = .panicked (fault 2) ∧ w = w':=by
 have HT:=Hy (take_more b s n w h hn)
 clear h hn
 go_enter Tryz.func106,Tryz.ntmps106
 go_wp2_with fail
 refine HT.out.mono ?_
 rintro e w' ⟨rfl,rfl⟩
 exact ⟨rfl,rfl,rfl⟩
theorem entry_bad (b:Nat) (s:List UInt8) (w:World) (h:Rd w b s) (hv:entV s = none) :
  Calls Tryz.prog 232 #[.pointer (some ⟨b,0,none⟩)] w fun e w'=>Fell (· = b) w e w':=by
 have hbl:b < w.heap.size:=h.lt
 have HV:=Hy hv
 clear hv
 have HR0:=Hy fun z=>Whole.past (Whole.past h (.cells z 156)) (.cells z 156)
 have HB0:=Hy fun z=>((Alt.refl (· = b) w).alloc (.cells z 156)).alloc (.cells z 156)
 have HG0:=Hy fun z=>Whole.past (Whole.made w 156 z) (.cells z 156)
 have HG1:Hid (∀ z,Whole ((w.alloc (.cells z 156)).alloc (.cells z 156)) (w.heap.size + 1) 156 z):=by
  intro z
  have:=Whole.made (w.alloc (.cells z 156)) 156 z
  simpa using this
 clear h
 go_enter Tryz.func232,Tryz.ntmps232
 go_wp2_with fail
 generalize hz:(#[Value.string ⟨#[]⟩,.bool false,Z8,Z8,Z8,Z8,Z8,Z8,Z8,Z8,Z8,Z8,Z8,Z8,Z8,Z8,Z8,Z8,Z8,Z8,Z8,Z8,Z8,Z8,Z8,Z8,Z8,Z8,Z8,Z8,Z8,Z8,Z8,Z8]:Array Value) = z at *
 have hz0:z[0]? = some (.string ⟨#[]⟩):=by rw [← hz]; rfl
 have hz1:z[1]? = some (.bool false):=by rw [← hz]; rfl
 have hzs:z.size = 34:=by rw [← hz]; rfl
 have hR:=HR0.out z
 have hB:=HB0.out z
 have hG0:=HG0.out z
 have hG1:=HG1.out z
 clear hz HR0 HB0 HG0 HG1
 generalize (w.alloc (.cells z 156)).alloc (.cells z 156) = w0 at *
 cases s with
 | nil=>
  refine (byte_more b _ hR).mono ?_
  rintro e w1 ⟨rfl,rfl⟩
  exact ⟨rfl,2,by decide,rfl,hB⟩
 | cons m s'=>
 refine (byte_some b m s' _ hR).mono ?_
 rintro e w1 ⟨rfl,hG,hR1⟩
 have HA1:=Hy (hB.grown hG (fun j hj=>by injection hj with hj; exact .inr hj.symm))
 have hG11:=hG1.grown hG (fun e=>by injection e with e; omega)
 have HR1:=Hy hR1
 have hc1:w1.cell? ⟨w.heap.size + 1,1,none⟩ = some (.bool false):=(hG11.at_ 1).trans hz1
 have hf1:=hG11.thawed 1
 have HG11:=Hy hG11
 clear hR hB hG0 hG1 hG hR1 hG11
 by_cases hm:m = 100 ∨ m = 102
 ·have HIS:=Hy fun W=>istree_ok m hm W
  have HM:=Hy hm
  clear hm
  generalize (m == 100) = dr at *
  go_wp2_with fail
  refine (HIS.out _).mono ?_
  rintro e w2 ⟨rfl,rfl⟩
  go_wp2_with fail
  have HA2:=Hy (HA1.out.set (p:=⟨w.heap.size + 1,1,none⟩) (.inr (by simp)) (.bool dr))
  have HG12:=Hy (HG11.out.put 1 (.bool dr))
  have hR2:=Whole.aside HR1.out (p:=⟨w.heap.size + 1,1,none⟩) (by simp; omega) (.bool dr)
  clear hc1 hf1 HA1 HG11 HR1
  generalize w1.setCell ⟨w.heap.size + 1,1,none⟩ (.bool dr) = w2 at *
  have hz10:(z.setIfInBounds 1 (.bool dr))[0]? = some (.string ⟨#[]⟩):=by simp [hz0]
  generalize z.setIfInBounds 1 (.bool dr) = z1 at *
  cases s' with
  | nil=>
   refine (byte_more b _ hR2).mono ?_
   rintro e w3 ⟨rfl,rfl⟩
   exact ⟨rfl,2,by decide,rfl,HA2.out⟩
  | cons sp r=>
  refine (byte_some b sp r _ hR2).mono ?_
  rintro e w3 ⟨rfl,hG,hR3⟩
  have HA3:=Hy (HA2.out.grown hG (fun j hj=>by injection hj with hj; exact .inr hj.symm))
  have HG13:=Hy (HG12.out.grown hG (fun e=>by injection e with e; omega))
  have HR3:=Hy hR3
  clear hG hR2 hR3 HA2 HG12
  by_cases hsp:sp = 32
  ·subst hsp
   go_wp2_with (go_at_call 78; refine (must_yes _ _).mono ?_; rintro e w' ⟨rfl,rfl⟩)
   by_cases hnm:∃ n u,cutName r = some (n,u) ∧ n.length ≤ 20
   ·obtain ⟨n,u,hc,hn⟩:=hnm
    have HU:Hid (u.length < 32):=by
     show _ < _
     refine Classical.byContradiction fun hu=>?_
     have h9:=HV.out
     unfold entV rawEnt at h9
     dsimp only at h9
     rw [if_pos ⟨HM.out,rfl⟩,hc] at h9
     dsimp only at h9
     rw [dif_pos (by omega)] at h9
     dsimp only at h9
     rw [if_pos hn] at h9
     cases h9
    refine (rdname_cut b r n u _ HR3.out hc hn).mono ?_
    rintro e w4 ⟨rfl,hal,hR4⟩
    have HA4:=Hy (HA3.out.trans hal)
    have hG14:=HG13.out.alt hal (by omega)
    have HR4:=Hy hR4
    have hc0:w4.cell? ⟨w.heap.size + 1,0,none⟩ = some (.string ⟨#[]⟩):=(hG14.at_ 0).trans hz10
    have hf0:=hG14.thawed 0
    clear hal hR4 hG14 HA3 HG13 HR3 hc hn
    go_wp2_with fail
    have HA5:=Hy (HA4.out.set (p:=⟨w.heap.size + 1,0,none⟩) (.inr (by simp)) (.string ⟨n.toArray⟩))
    have hR5:=Whole.aside HR4.out (p:=⟨w.heap.size + 1,0,none⟩) (by simp; omega) (.string ⟨n.toArray⟩)
    clear hc0 hf0 HA4 HR4
    generalize w4.setCell ⟨w.heap.size + 1,0,none⟩ (.string ⟨n.toArray⟩) = w5 at *
    refine (rby_more b u 32 _ hR5 (by have:=HU.out; omega)).mono ?_
    rintro e w6 ⟨rfl,rfl⟩
    exact ⟨rfl,2,by decide,rfl,HA5.out⟩
   ·refine (rdname_fell b r _ HR3.out (fun n u hc hn=>hnm ⟨n,u,hc,hn⟩)).mono ?_
    rintro e w4 ⟨c,hc,rfl,hal⟩
    exact ⟨rfl,c,hc,rfl,HA3.out.trans hal⟩
  ·have e1:((sp.toNat:Int) == 32) = false:=by
    rw [beq_eq_false_iff_ne]
    intro e
    exact hsp (UInt8.toNat_inj.1 (show sp.toNat = ((32:UInt8)).toNat by have:(32:UInt8).toNat = 32:=rfl; omega))
   clear hsp
   go_wp2_with (go_at_call 78; refine (must_no _ _).mono ?_; rintro e w' ⟨rfl,rfl⟩)
   exact ⟨rfl,1,by decide,rfl,HA3.out⟩
 ·have HIS:=Hy fun W=>istree_bad m hm W
  clear hm
  go_wp2_with fail
  refine (HIS.out _).mono ?_
  rintro e w2 ⟨rfl,rfl⟩
  exact ⟨rfl,1,by decide,rfl,HA1.out⟩
end Go.Proofs.YtlfmooihcigolaaGreatDoor

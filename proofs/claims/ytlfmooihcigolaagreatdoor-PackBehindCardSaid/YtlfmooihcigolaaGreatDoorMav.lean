/-
  ComG, ComL, HexD, OGetM, OHexM, OGet, GetO, ComI.
-/
import Derived.Test.YtlfmooihcigolaaGreatDoorMap
import Derived.Test.YtlfmooihcigolaaGreatDoorMau
set_option maxRecDepth 100000
set_option maxHeartbeats 8000000
namespace Go.Proofs.YtlfmooihcigolaaGreatDoor
open Go.RowKit
theorem rdline_ok (b m:Nat) (s:List UInt8) (w:World) (h:Rd w b s) (h1:∀ j,j < m → s.getD j 0 ≠ 10) (h2:m < s.length) (h3:s.getD m 0 = 10) (h4:m ≤ 71) :
  Calls Tryz.prog 234 #[.pointer (some ⟨b,0,none⟩)] w fun e w'=>e = .returned (.string ⟨(s.take m).toArray⟩) ∧ Alt (· = b) w w' ∧ Rd w' b (s.drop (m + 1)):=by
 obtain ⟨i0,hi,hz0,hz1,hz2⟩:=info_parts infoY
 have hbl:b < w.heap.size:=h.lt
 have HB:=Hy (byte_some b (s.getD 0 0) (s.drop 1) w (by rw [← drop_cons' s 0 (by omega)]; exact h))
 have H1:=Hy h1
 have H3:=Hy h3
 clear h h1 h3
 go_enter Tryz.func234,Tryz.ntmps234
 go_wp2_with fail
 refine HB.out.mono ?_
 rintro e w1 ⟨rfl,hG,hR⟩
 have HR:=Hy hR
 have HA:=Hy (Alt.of_grown (R:=(· = b)) hG (fun j hj=>by injection hj with hj; exact hj.symm))
 have hs1:=hG.size
 clear hG hR HB
 go_wp2
 go_loopg [3,4] m (fun g s3 s4 wr=>∃ k:Nat,k ≤ m ∧ m - k ≤ g ∧ s4 = .int .u8 ((s.getD k 0).toNat:Int) ∧ wr.ownsRow w.heap.size 5 1 s3 k ((s.take k).map Y) ∧ Hid (Alt (· = b) w wr) ∧ w.heap.size ≤ wr.heap.size ∧ Hid (Rd wr b (s.drop (k + 1))))
 case atStart=>exact ⟨0,by omega,by omega,rfl,by simpa using World.ownsRow_nil _ _ _ _,HA,hs1,HR⟩
 case round=>
  obtain ⟨k,hk,hg,rfl,hown,hal,hsz,hrd⟩:=hrel
  by_cases hlt:k < m
  ·have hne:(((s.getD k 0).toNat:Int) != 10) = true:=by
    have h0:=H1.out k hlt
    simp only [bne_iff_ne,ne_eq]
    intro e
    exact h0 (UInt8.toNat_inj.1 (show _ = ((10:UInt8)).toNat by have:(10:UInt8).toNat = 10:=rfl; omega))
   have hd71:decide ((k:Int) < 71) = true:=by simp; omega
   obtain ⟨A9,c9,rfl⟩:=own_slice hown
   have HNB:=Hy (fun W (h:Rd W b (s.drop (k + 1)))=>byte_some b (s.getD (k + 1) 0) (s.drop (k + 2)) W (by rw [← drop_cons' s (k + 1) (by omega)]; exact h))
   have HTK:Hid ((s.take (k + 1)).map Y = (s.take k).map Y ++ [.int .u8 ((s.getD k 0).toNat:Int)]):=by
    show _ = _
    rw [take_snoc' s k (by omega),List.map_append]
    rfl
   generalize s.getD k 0 = x at *
   have hcell:∀ j u,[Value.int .u8 (x.toNat:Int)][j]? = some u → (wr.alloc (.cells #[.int .u8 (x.toNat:Int)] 5)).cell? ((⟨wr.heap.size,0,none⟩:Addr).add j) = some u:=by
    intro j u hu
    have h:=(Whole.made wr 5 #[.int .u8 (x.toNat:Int)]).at_ j
    rw [Addr.add_mid,Nat.zero_add,h]
    simpa using hu
   go_wp2_with (first
    | (go_at_call 78; refine (must_yes _ _).mono ?_; rintro e w' ⟨rfl,rfl⟩)
    | (at_builtin; go_loud (refine wpList_append_own_at _ rfl _ _ 63 rfl w.heap.size 5 i0 (.int .u8 0) 1 1 Tryz.underlying63 hi hz0 hz1 hz2 rfl (by decide) _ _ _ rfl (hown.alloc _) ⟨wr.heap.size,0,none⟩ 1 1 [.int .u8 (x.toNat:Int)] rfl (by simp) hcell (yb_one [x]) (by unfold maxLen; omega) (by omega) (by simp; omega) ?_)))
   intro v' w2 hown' hgr _ _
   have hown':w2.ownsRow w.heap.size 5 1 v' (k + 1) ((s.take (k + 1)).map Y):=by rw [HTK.out,List.map_take]; exact hown'
   have HOW:=Hy hown'
   obtain ⟨A',c',rfl⟩:=own_slice hown'
   have hvb:(Value.slice A' (k + 1) c').ownBlock ≠ some b:=by
    intro e
    have:=(hown'.lt b e).1
    omega
   have HVB:=Hy hvb
   have hrow:∀ j,(Value.slice A9 k c9).ownBlock = some j → w.heap.size ≤ j:=fun j hj=>(hown.lt j hj).1
   have HAL:=Hy ((hal.out.alloc (.cells #[.int .u8 (x.toNat:Int)] 5)).grown hgr (fun j hj=>.inl (hrow j hj)))
   have HRD:Hid (Rd w2 b (s.drop (k + 1))):=by
    have h9:=Whole.past hrd.out (.cells #[.int .u8 (x.toNat:Int)] 5)
    exact Whole.grown h9 hgr (fun e=>by have:=hrow b e.symm; omega)
   have hs2:w.heap.size ≤ w2.heap.size:=HAL.out.size
   clear hown hown' hgr hcell hvb hrow
   go_wp2_with fail
   refine (HNB.out w2 HRD.out).mono ?_
   rintro e w3 ⟨rfl,hG,hR⟩
   have HAL3:=Hy (HAL.out.grown hG (fun j hj=>by injection hj with hj; exact .inr hj.symm))
   have how3:w3.ownsRow w.heap.size 5 1 (.slice A' (k + 1) c') (k + 1) ((s.take (k + 1)).map Y):=HOW.out.kept hG (.inr (fun e=>HVB.out e))
   have HR3:=Hy hR
   have hs3:w.heap.size ≤ w3.heap.size:=HAL3.out.size
   clear hG hR
   go_wp2
   go_roundg (m - (k + 1))
   case measure=>omega
   case rel=>exact ⟨k + 1,by omega,Nat.le_refl _,rfl,how3,HAL3,hs3,HR3⟩
  ·obtain rfl:k = m:=by omega
   have htl:(s.take k).length = k:=by rw [List.length_take]; omega
   have hcv:=bytes_str (P:=Tryz.prog) 63 9 5 Tryz.underlying63 Tryz.underlying5 Tryz.underlying9 (own_byt (bs:=s.take k) (by rw [htl]; exact hown))
   obtain ⟨A9,c9,rfl⟩:=own_slice hown
   rw [H3.out]
   generalize hn:s.take k = n at *
   have HN:=Hy hn
   clear hown htl hn
   go_wp2
   go_ret
   exact ⟨by rw [HN.out]; rfl,hal.out,hrd.out⟩
theorem rdline_bad (b:Nat) (s:List UInt8) (w:World) (h:Rd w b s) (h1:∀ j,j < s.length → j ≤ 71 → s.getD j 0 ≠ 10) :
  Calls Tryz.prog 234 #[.pointer (some ⟨b,0,none⟩)] w fun e w'=>Fell (· = b) w e w':=by
 obtain ⟨i0,hi,hz0,hz1,hz2⟩:=info_parts infoY
 have hbl:b < w.heap.size:=h.lt
 have H1:=Hy h1
 by_cases h0:s.length = 0
 ·have HB:=Hy (byte_more b w (by rw [← List.length_eq_zero_iff.1 h0]; exact h))
  clear h h1
  go_enter Tryz.func234,Tryz.ntmps234
  go_wp2_with fail
  refine HB.out.mono ?_
  rintro e w1 ⟨rfl,rfl⟩
  exact ⟨rfl,2,by decide,rfl,Alt.refl _ _⟩
 have HB:=Hy (byte_some b (s.getD 0 0) (s.drop 1) w (by rw [← drop_cons' s 0 (by omega)]; exact h))
 clear h h1
 go_enter Tryz.func234,Tryz.ntmps234
 go_wp2_with fail
 refine HB.out.mono ?_
 rintro e w1 ⟨rfl,hG,hR⟩
 have HR:=Hy hR
 have HA:=Hy (Alt.of_grown (R:=(· = b)) hG (fun j hj=>by injection hj with hj; exact hj.symm))
 have hs1:=hG.size
 clear hG hR HB
 go_wp2
 go_loopg [3,4] 71 (fun g s3 s4 wr=>∃ k:Nat,k ≤ 71 ∧ k < s.length ∧ 71 - k ≤ g ∧ s4 = .int .u8 ((s.getD k 0).toNat:Int) ∧ wr.ownsRow w.heap.size 5 1 s3 k ((s.take k).map Y) ∧ Hid (Alt (· = b) w wr) ∧ w.heap.size ≤ wr.heap.size ∧ Hid (Rd wr b (s.drop (k + 1))))
 case atStart=>exact ⟨0,by omega,by omega,by omega,rfl,by simpa using World.ownsRow_nil _ _ _ _,HA,hs1,HR⟩
 case round=>
  obtain ⟨k,hk,hks,hg,rfl,hown,hal,hsz,hrd⟩:=hrel
  have hne:(((s.getD k 0).toNat:Int) != 10) = true:=by
   have h0:=H1.out k hks hk
   simp only [bne_iff_ne,ne_eq]
   intro e
   exact h0 (UInt8.toNat_inj.1 (show _ = ((10:UInt8)).toNat by have:(10:UInt8).toNat = 10:=rfl; omega))
  by_cases hlt:k < 71
  ·have hd71:decide ((k:Int) < 71) = true:=by simp; omega
   obtain ⟨A9,c9,rfl⟩:=own_slice hown
   have HTK:Hid ((s.take (k + 1)).map Y = (s.take k).map Y ++ [.int .u8 ((s.getD k 0).toNat:Int)]):=by
    show _ = _
    rw [take_snoc' s k (by omega),List.map_append]
    rfl
   have HNB:=Hy (fun W (hn:k + 1 < s.length) (h:Rd W b (s.drop (k + 1)))=>byte_some b (s.getD (k + 1) 0) (s.drop (k + 2)) W (by rw [← drop_cons' s (k + 1) hn]; exact h))
   have HNE:=Hy (fun W (hn:¬ k + 1 < s.length) (h:Rd W b (s.drop (k + 1)))=>byte_more b W (by rw [List.drop_eq_nil_of_le (by omega)] at h; exact h))
   generalize s.getD k 0 = x at *
   have hcell:∀ j u,[Value.int .u8 (x.toNat:Int)][j]? = some u → (wr.alloc (.cells #[.int .u8 (x.toNat:Int)] 5)).cell? ((⟨wr.heap.size,0,none⟩:Addr).add j) = some u:=by
    intro j u hu
    have h:=(Whole.made wr 5 #[.int .u8 (x.toNat:Int)]).at_ j
    rw [Addr.add_mid,Nat.zero_add,h]
    simpa using hu
   go_wp2_with (first
    | (go_at_call 78; refine (must_yes _ _).mono ?_; rintro e w' ⟨rfl,rfl⟩)
    | (at_builtin; go_loud (refine wpList_append_own_at _ rfl _ _ 63 rfl w.heap.size 5 i0 (.int .u8 0) 1 1 Tryz.underlying63 hi hz0 hz1 hz2 rfl (by decide) _ _ _ rfl (hown.alloc _) ⟨wr.heap.size,0,none⟩ 1 1 [.int .u8 (x.toNat:Int)] rfl (by simp) hcell (yb_one [x]) (by unfold maxLen; omega) (by omega) (by simp; omega) ?_)))
   intro v' w2 hown' hgr _ _
   have hown':w2.ownsRow w.heap.size 5 1 v' (k + 1) ((s.take (k + 1)).map Y):=by rw [HTK.out,List.map_take]; exact hown'
   have HOW:=Hy hown'
   obtain ⟨A',c',rfl⟩:=own_slice hown'
   have hvb:(Value.slice A' (k + 1) c').ownBlock ≠ some b:=by
    intro e
    have:=(hown'.lt b e).1
    omega
   have HVB:=Hy hvb
   have hrow:∀ j,(Value.slice A9 k c9).ownBlock = some j → w.heap.size ≤ j:=fun j hj=>(hown.lt j hj).1
   have HAL:=Hy ((hal.out.alloc (.cells #[.int .u8 (x.toNat:Int)] 5)).grown hgr (fun j hj=>.inl (hrow j hj)))
   have HRD:Hid (Rd w2 b (s.drop (k + 1))):=by
    have h9:=Whole.past hrd.out (.cells #[.int .u8 (x.toNat:Int)] 5)
    exact Whole.grown h9 hgr (fun e=>by have:=hrow b e.symm; omega)
   have hs2:w.heap.size ≤ w2.heap.size:=HAL.out.size
   clear hown hown' hgr hcell hvb hrow
   by_cases hnx:k + 1 < s.length
   ·go_wp2_with fail
    refine (HNB.out w2 hnx HRD.out).mono ?_
    rintro e w3 ⟨rfl,hG,hR⟩
    have HAL3:=Hy (HAL.out.grown hG (fun j hj=>by injection hj with hj; exact .inr hj.symm))
    have how3:w3.ownsRow w.heap.size 5 1 (.slice A' (k + 1) c') (k + 1) ((s.take (k + 1)).map Y):=HOW.out.kept hG (.inr (fun e=>HVB.out e))
    have HR3:=Hy hR
    have hs3:w.heap.size ≤ w3.heap.size:=HAL3.out.size
    clear hG hR
    go_wp2
    go_roundg (71 - (k + 1))
    case measure=>omega
    case rel=>exact ⟨k + 1,by omega,hnx,Nat.le_refl _,by simp [List.getElem?_eq_getElem hnx],how3,HAL3,hs3,HR3⟩
   ·go_wp2_with fail
    refine (HNE.out w2 hnx HRD.out).mono ?_
    rintro e w3 ⟨rfl,rfl⟩
    exact ⟨rfl,2,by decide,rfl,HAL.out⟩
  ·obtain rfl:k = 71:=by omega
   obtain ⟨A9,c9,rfl⟩:=own_slice hown
   generalize s.getD 71 0 = x at *
   go_wp2_with (go_at_call 78; refine (must_no _ _).mono ?_; rintro e w' ⟨rfl,rfl⟩)
   exact ⟨rfl,1,by decide,rfl,hal.out⟩
def nlAt:List UInt8 → Option Nat
 | []=>none
 | b :: r=>if b = 10 then some 0 else (nlAt r).map (· + 1)
theorem nlAt_some:∀ (s:List UInt8) (m:Nat),nlAt s = some m → m < s.length ∧ s.getD m 0 = 10 ∧ ∀ j,j < m → s.getD j 0 ≠ 10
 | [],_,h=>by cases h
 | b :: r,m,h=>by
  unfold nlAt at h
  by_cases hb:b = 10
  ·rw [if_pos hb] at h
   injection h with h
   subst h
   exact ⟨by simp,by simpa using hb,fun j hj=>absurd hj (Nat.not_lt_zero _)⟩
  ·rw [if_neg hb] at h
   cases hr:nlAt r with
   | none=>rw [hr] at h; cases h
   | some k=>
    rw [hr] at h
    obtain rfl:k + 1 = m:=by injection h
    obtain ⟨h1,h2,h3⟩:=nlAt_some r k hr
    refine ⟨by simp; omega,by simpa using h2,fun j hj=>?_⟩
    cases j with
    | zero=>simpa using hb
    | succ j=>simpa using h3 j (by omega)
theorem nlAt_none:∀ (s:List UInt8),nlAt s = none → ∀ j,j < s.length → s.getD j 0 ≠ 10
 | [],_,j,hj=>absurd hj (Nat.not_lt_zero _)
 | b :: r,h,j,hj=>by
  unfold nlAt at h
  by_cases hb:b = 10
  ·rw [if_pos hb] at h
   cases h
  ·rw [if_neg hb] at h
   cases hr:nlAt r with
   | some k=>rw [hr] at h; cases h
   | none=>
    cases j with
    | zero=>simpa using hb
    | succ j=>simpa using nlAt_none r hr j (by simpa using hj)
theorem nlAt_put (t r:List UInt8) (h:(10:UInt8) ∉ t):nlAt (t ++ 10 :: r) = some t.length:=by
 induction t with
 | nil=>simp [nlAt]
 | cons b u ih=>
  have hb:b ≠ 10:=fun e=>h (by simp [e])
  rw [List.cons_append]
  unfold nlAt
  rw [if_neg hb,ih (fun hm=>h (List.mem_cons_of_mem _ hm))]
  rfl
def lineV (s:List UInt8):Option (List UInt8 × List UInt8):=
 match nlAt s with
 | some m=>if m ≤ 71 then some (s.take m,s.drop (m + 1)) else none
 | none=>none
theorem lineV_put (t r:List UInt8) (h:(10:UInt8) ∉ t) (hl:t.length ≤ 71):lineV (t ++ 10 :: r) = some (t,r):=by
 unfold lineV
 rw [nlAt_put t r h]
 dsimp only
 rw [if_pos hl,List.take_left]
 congr 2
 rw [show t ++ 10 :: r = (t ++ [10]) ++ r by simp,show t.length + 1 = (t ++ [10]).length by simp,List.drop_left]
theorem lineV_back (s t r:List UInt8) (h:lineV s = some (t,r)):s = t ++ 10 :: r ∧ t.length ≤ 71:=by
 unfold lineV at h
 cases hm:nlAt s with
 | none=>rw [hm] at h; cases h
 | some m=>
  rw [hm] at h
  dsimp only at h
  obtain ⟨h1,h2,-⟩:=nlAt_some s m hm
  by_cases h71:m ≤ 71
  ·rw [if_pos h71] at h
   injection h with h
   injection h with ha hb
   subst ha hb
   refine ⟨?_,by rw [List.length_take]; omega⟩
   have h2':s[m] = 10:=by simpa [List.getD,List.getElem?_eq_getElem h1] using h2
   rw [← h2',← List.drop_eq_getElem_cons h1,List.take_append_drop]
  ·rw [if_neg h71] at h
   cases h
theorem lineV_less (s t r:List UInt8) (h:lineV s = some (t,r)):r.length < s.length:=by
 rw [(lineV_back s t r h).1]
 simp
 omega
theorem rdline_any (b:Nat) (s:List UInt8) (w:World) (h:Rd w b s) :
  Calls Tryz.prog 234 #[.pointer (some ⟨b,0,none⟩)] w fun e w'=>(∃ t r,lineV s = some (t,r) ∧ e = .returned (.string ⟨t.toArray⟩) ∧ Alt (· = b) w w' ∧ Rd w' b r) ∨ (lineV s = none ∧ Fell (· = b) w e w'):=by
 cases hm:nlAt s with
 | none=>
  have hv:lineV s = none:=by unfold lineV; rw [hm]
  exact (rdline_bad b s w h (fun j hj _=>nlAt_none s hm j hj)).mono fun _ _ hf=>.inr ⟨hv,hf⟩
 | some m=>
  obtain ⟨h1,h2,h3⟩:=nlAt_some s m hm
  by_cases h71:m ≤ 71
  ·have hv:lineV s = some (s.take m,s.drop (m + 1)):=by unfold lineV; rw [hm]; dsimp only; rw [if_pos h71]
   refine (rdline_ok b m s w h h3 h1 h2 h71).mono ?_
   rintro e w' ⟨rfl,ha,hr⟩
   exact .inl ⟨_,_,hv,rfl,ha,hr⟩
  ·have hv:lineV s = none:=by unfold lineV; rw [hm]; dsimp only; rw [if_neg h71]
   exact (rdline_bad b s w h (fun j _ hj=>h3 j (by omega))).mono fun _ _ hf=>.inr ⟨hv,hf⟩
def ofV (n:Nat):Nat:=if Flo.may n then n else 0
def hgo:Nat → List UInt8 → Option Nat
 | z,[]=>some z
 | z,c :: l=>if hval c < 0 then none else hgo (z * 16 + (hval c).toNat) l
def getO:Option Nat → Nat × Bool
 | some n=>(ofV n,Flo.may n)
 | none=>(0,false)
def getE (l:List UInt8):Nat × Bool:=getO (hgo 0 l)
theorem hval_hx:∀ d,d < 16 → hval (hx d) = (d:Int):=by decide +kernel
theorem hgo_hexs (j z v:Nat):hgo z (hexs j v) = some (z * 16 ^ j + v % 16 ^ j):=by
 induction j generalizing z with
 | zero=>simp [hexs,hgo,Nat.mod_one]
 | succ j ih=>
  have hd:v / 16 ^ j % 16 < 16:=Nat.mod_lt _ (by decide)
  rw [hexs,hgo,hval_hx _ hd,if_neg (by omega),Int.toNat_natCast,ih]
  congr 1
  have h1:v % 16 ^ (j + 1) = v / 16 ^ j % 16 * 16 ^ j + v % 16 ^ j:=by
   rw [Nat.pow_succ,Nat.mod_mul,Nat.mul_comm (16 ^ j),Nat.add_comm]
  rw [h1,Nat.add_mul,Nat.pow_succ]
  generalize 16 ^ j = q
  have:z * 16 * q = z * (q * 16):=by rw [Nat.mul_assoc,Nat.mul_comm 16 q]
  omega
theorem get_put (n:Nat) (h:n < 18446744073709551616) (hm:Flo.may n = true):getE (hexs 16 n) = (n,true):=by
 have:hgo 0 (hexs 16 n) = some n:=by rw [hgo_hexs,Nat.zero_mul,Nat.zero_add,Nat.mod_eq_of_lt (by simpa using h)]
 simp [getE,getO,this,ofV,hm]
def hd (s:List UInt8) (i:Nat):Nat:=(hval (s.getD i 0)).toNat
theorem hd_lt (s:List UInt8) (i:Nat):hd s i < 16:=by
 have:=hval_lt (s.getD i 0)
 unfold hd; omega
def idn (s:List UInt8) (i j:Nat):Nat:=if 2 * j + 1 < i then hd s (2 * j) * 16 + hd s (2 * j + 1) else if 2 * j < i then hd s (2 * j) else 0
theorem idn_lt (s:List UInt8) (i j:Nat):idn s i j < 256:=by
 have h1:=hd_lt s (2 * j)
 have h2:=hd_lt s (2 * j + 1)
 unfold idn; split <;> (try split) <;> omega
theorem idn_low (s:List UInt8) (k:Nat):idn s k (k / 2) < 16:=by
 have h1:=hd_lt s (2 * (k / 2))
 unfold idn; split
 ·omega
 ·split <;> omega
def idl (s:List UInt8) (i:Nat):List UInt8:=(List.range 32).map fun j=>UInt8.ofNat (idn s i j)
theorem idl_len (s:List UInt8) (i:Nat):(idl s i).length = 32:=by simp [idl]
theorem idl_zero (s:List UInt8):idl s 0 = List.replicate 32 0:=by
 apply List.ext_getElem
 ·simp [idl]
 ·intro j h1 h2
  rw [List.getElem_replicate]
  simp [idl,idn]
theorem idn_step (s:List UInt8) (k:Nat):idn s k (k / 2) * 16 + hd s k = idn s (k + 1) (k / 2):=by
 obtain ⟨j,hj | hj⟩:∃ j,k = 2 * j ∨ k = 2 * j + 1:=⟨k / 2,by omega⟩
 ·subst hj
  rw [show 2 * j / 2 = j by omega]
  unfold idn
  rw [if_neg (by omega),if_neg (by omega),if_neg (by omega),if_pos (by omega)]
  omega
 ·subst hj
  rw [show (2 * j + 1) / 2 = j by omega]
  unfold idn
  rw [if_neg (by omega),if_pos (by omega),if_pos (by omega)]
theorem idn_other (s:List UInt8) (k j:Nat) (h:j ≠ k / 2):idn s k j = idn s (k + 1) j:=by
 unfold idn
 have e1:(2 * j + 1 < k) ↔ (2 * j + 1 < k + 1):=by omega
 have e2:(2 * j < k) ↔ (2 * j < k + 1):=by omega
 simp only [e1,e2]
theorem idl_step (s:List UInt8) (k:Nat):(idl s k).set (k / 2) (UInt8.ofNat (idn s k (k / 2) * 16 + hd s k)) = idl s (k + 1):=by
 apply List.ext_getElem
 ·simp [idl]
 ·intro j h1 h2
  rw [List.getElem_set]
  split
  ·rename_i h
   subst h
   rw [idn_step]
   simp [idl]
  ·rename_i h
   simp only [idl,List.getElem_map,List.getElem_range]
   rw [idn_other s k j (fun e=>h e.symm)]
def good (s:List UInt8):Bool:=s.length == 64 && s.all fun c=>decide (0 ≤ hval c)
def getId (s:List UInt8):List UInt8 × Bool:=if good s then (idl s 64,true) else (List.replicate 32 0,false)
theorem hx_hval (c:UInt8) (h:0 ≤ hval c):hx (hval c).toNat = c:=by
 have hh:∀ n,n < 256 → 0 ≤ hval (UInt8.ofNat n) → hx (hval (UInt8.ofNat n)).toNat = UInt8.ofNat n:=by decide +kernel
 have:=hh c.toNat c.toNat_lt
 rw [UInt8.ofNat_toNat] at this
 exact this h
theorem hx_inj (a b:Nat) (ha:a < 16) (hb:b < 16) (h:hx a = hx b):a = b:=by
 have hh:∀ a,a < 16 → ∀ b,b < 16 → hx a = hx b → a = b:=by decide +kernel
 exact hh a ha b hb h
theorem hexOf_inj:∀ a b:List UInt8,hexOf a = hexOf b → a = b
 | [],[],_=>rfl
 | [],_ :: _,h=>by simp [hexOf] at h
 | _ :: _,[],h=>by simp [hexOf] at h
 | x :: a,y :: b,h=>by
  simp only [hexOf,List.cons.injEq] at h
  obtain ⟨h1,h2,h3⟩:=h
  have hx1:=hx_inj _ _ (by have:=x.toNat_lt; omega) (by have:=y.toNat_lt; omega) h1
  have hx2:=hx_inj _ _ (by omega) (by omega) h2
  rw [hexOf_inj a b h3,show x = y from UInt8.toNat_inj.1 (by omega)]
theorem hexOf_pairs (p:List UInt8) (hp:∀ j,j < p.length → 0 ≤ hval (p.getD j 0)):∀ (m j:Nat),2 * (j + m) = p.length →
  hexOf ((List.range' j m).map fun i=>UInt8.ofNat (hd p (2 * i) * 16 + hd p (2 * i + 1))) = p.drop (2 * j)
 | 0,j,h=>by
  rw [List.drop_eq_nil_of_le (by omega)]; rfl
 | m + 1,j,h=>by
  have l1:=hd_lt p (2 * j)
  have l2:=hd_lt p (2 * j + 1)
  have e:=UInt8.toNat_ofNat_of_lt' (show hd p (2 * j) * 16 + hd p (2 * j + 1) < 256 by omega)
  rw [List.range'_succ,List.map_cons,hexOf,e,hexOf_pairs p hp m (j + 1) (by omega),show (hd p (2 * j) * 16 + hd p (2 * j + 1)) / 16 = hd p (2 * j) by omega,show (hd p (2 * j) * 16 + hd p (2 * j + 1)) % 16 = hd p (2 * j + 1) by omega]
  have e1:p.getD (2 * j) 0 = p[2 * j]:=by rw [List.getD_eq_getElem?_getD,List.getElem?_eq_getElem (show 2 * j < p.length by omega),Option.getD_some]
  have e2:p.getD (2 * j + 1) 0 = p[2 * j + 1]:=by rw [List.getD_eq_getElem?_getD,List.getElem?_eq_getElem (show 2 * j + 1 < p.length by omega),Option.getD_some]
  have k1:=hx_hval _ (hp (2 * j) (by omega))
  have k2:=hx_hval _ (hp (2 * j + 1) (by omega))
  unfold hd
  rw [k1,k2,e1,e2,List.drop_eq_getElem_cons (show 2 * j < p.length by omega),List.drop_eq_getElem_cons (show 2 * j + 1 < p.length by omega)]
  rfl
theorem hexOf_idl (p:List UInt8) (h:good p = true):hexOf (idl p 64) = p:=by
 simp only [good,Bool.and_eq_true,beq_iff_eq,List.all_eq_true,decide_eq_true_eq] at h
 obtain ⟨hl,ha⟩:=h
 have e:idl p 64 = (List.range' 0 32).map fun i=>UInt8.ofNat (hd p (2 * i) * 16 + hd p (2 * i + 1)):=by
  apply List.ext_getElem
  ·simp [idl]
  ·intro j h1 h2
   have hj:j < 32:=by simpa [idl] using h1
   simp only [idl,List.getElem_map,List.getElem_range,List.getElem_range']
   unfold idn
   rw [if_pos (by omega)]
   simp
 rw [e,hexOf_pairs p (fun j hj=>by
  rw [List.getD_eq_getElem?_getD,List.getElem?_eq_getElem hj,Option.getD_some]
  exact ha _ (List.getElem_mem _)) 32 0 (by omega)]
 rfl
theorem id_is (p a:List UInt8) (h:good p = true):idl p 64 = a ↔ p = hexOf a:=by
 constructor
 ·rintro rfl; exact (hexOf_idl p h).symm
 ·intro e
  have:=hexOf_idl p h
  rw [e] at this
  rw [e]
  exact hexOf_inj _ _ this
theorem or_low (x d:Nat) (hx:x < 16) (hd:d < 16):bits .or .u8 ((x:Int) * 16) (d:Int) = ((x * 16 + d:Nat):Int):=by
 have h:∀ x:Fin 16,∀ d:Fin 16,bits .or .u8 (((x.val:Nat):Int) * 16) ((d.val:Nat):Int) = ((x.val * 16 + d.val:Nat):Int):=by decide +kernel
 exact h ⟨x,hx⟩ ⟨d,hd⟩
theorem oget_endG {fn:Func} (hr:fn.results = #[.cell 2 30,.tmp 3]) (b:Bool) (a:Act) (w w3:World) (A:Array Value) (hs:A.size = 32) (h2:a.tmps.getD 2 undef = .pointer (some ⟨w.heap.size,0,none⟩)) (h3:a.tmps.getD 3 undef = .bool b) (hd:a.defers = []) (hW:Whole w3 w.heap.size 30 A) (hB:Below w.heap.size w w3) :
  bodyPost Tryz.prog fn (fun e w'=>e = .returned (.tuple #[.agg A,.bool b]) ∧ Below w.heap.size w w') .ret a w3:=by
 refine bodyPost_ret (v:=.tuple #[.agg A,.bool b]) ?_ hd ⟨rfl,hB⟩
 rw [← h3]
 exact results_row_tmp hr _ _ w.heap.size 30 A (0,0) _ h2 hW Tryz.underlying30 rfl (by rw [hs]; kernel_rfl)
theorem oget_len (s:List UInt8) (w:World) (hl:s.length ≠ 64):Calls Tryz.prog 269 #[.string ⟨s.toArray⟩] w fun e w'=>e = .returned (.tuple #[.agg ((List.replicate 32 0).map Y).toArray,.bool false]) ∧ Below w.heap.size w w':=by
 have hb:((s.length:Int) != 64) = true:=by simp; omega
 clear hl
 go_enter Tryz.func269,Tryz.ntmps269
 go_wp2_with (refine wpList_store_whole rfl 30 _ _ rfl w.heap.size _ rfl rfl 30 _ (Whole.made w _ _) (by kernel_rfl) (by kernel_rfl) (by kernel_rfl) ?_; intro w3 hW3 hG3; have HW3:=Hy hW3; have HB3:=Hy (be_grown ((Below.refl w.heap.size w).alloc (Nat.le_refl _) _) hG3 (by simp) (fun j hj=>by injection hj with hj; omega)); clear hW3 hG3)
 exact oget_endG Tryz.results269 false _ w _ _ (by kernel_rfl) rfl rfl rfl HW3.out HB3.out
theorem oget_64 (s:List UInt8) (w:World) (hl:s.length = 64):Calls Tryz.prog 269 #[.string ⟨s.toArray⟩] w fun e w'=>e = .returned (.tuple #[.agg ((getId s).1.map Y).toArray,.bool (getId s).2]) ∧ Below w.heap.size w w':=by
 have hb:((s.length:Int) != 64) = false:=by simp [hl]
 have HL:=Hy hl
 go_enter Tryz.func269,Tryz.ntmps269
 go_wp2_with fail
 go_loopw [13] (fun i wr=>∃ k:Nat,k ≤ 64 ∧ i = .int .i64 k ∧ Whole wr (w.heap.size + 1) 30 ((idl s k).map Y).toArray ∧ Whole wr w.heap.size 30 ((List.replicate 32 (0:UInt8)).map Y).toArray ∧ Below w.heap.size w wr ∧ ∀ j,j < k → 0 ≤ hval (s.getD j 0)) (fun i _=>64 - (intOf i).toNat)
 case atStart=>
  refine ⟨0,by omega,rfl,?_,(Whole.made w 30 ((List.replicate 32 (0:UInt8)).map Y).toArray).past _,((Below.refl _ _).alloc (Nat.le_refl _) _).alloc (by simp) _,fun j hj=>absurd hj (by omega)⟩
  rw [idl_zero]
  exact heap_alloc2_new w _ _
 case round=>
  obtain ⟨k,hk,rfl,hW,hZ,hB,hall⟩:=hrel
  have HW:=Hy hW
  have HZ:=Hy hZ
  have HB:=Hy hB
  have HA:=Hy hall
  clear hW hZ hB hall
  by_cases hlt:k < 64
  ·have hidx:=str_at s k (by omega)
   have hkk:decide ((k:Int) < (s.length:Int)) = true:=by simp; omega
   have hks:k < s.length:=by omega
   have HD:=Hy (digit_any (s.getD k 0))
   have hc:=hval_lt (s.getD k 0)
   by_cases hneg:hval (s.getD k 0) < 0
   ·have hgood:good s = false:=by
     have:(s.all fun c=>decide (0 ≤ hval c)) = false:=by
      rw [List.all_eq_false]
      refine ⟨s[k],List.getElem_mem _,?_⟩
      rw [List.getD_eq_getElem?_getD,List.getElem?_eq_getElem hks,Option.getD_some] at hneg
      simp; omega
     simp [good,this]
    have HG:Hid (getId s = (List.replicate 32 0,false)):=by show _ = _; rw [getId,hgood]; rfl
    clear hgood hks hl
    generalize s.getD k 0 = c at *
    go_wp2_with fail
    refine (HD.out _).mono ?_
    rintro e w' ⟨rfl,rfl⟩
    go_wp2_with (refine wpList_store_whole rfl 30 _ _ rfl w.heap.size _ rfl rfl 30 _ HZ.out (by kernel_rfl) (by kernel_rfl) (by kernel_rfl) ?_; intro w3 hW3 hG3; have HW3:=Hy hW3; have HB3:=Hy (be_grown HB.out hG3 HB.out.size (fun j hj=>by injection hj with hj; omega)); clear hW3 hG3)
    rw [HG.out]
    exact oget_endG Tryz.results269 false _ w _ _ (by kernel_rfl) rfl rfl rfl HW3.out HB3.out
   ·obtain ⟨d,hdv⟩:∃ d:Nat,hval (s.getD k 0) = (d:Int):=⟨(hval (s.getD k 0)).toNat,by omega⟩
    have hds:hd s k = d:=by unfold hd; omega
    have hd16:d < 16:=by omega
    have hx:=idn_low s k
    have hst:=idl_step s k
    rw [hds] at hst
    have hcell:wr.cell? ⟨w.heap.size + 1,k / 2,none⟩ = some (.int .u8 (idn s k (k / 2):Int)):=by
     rw [HW.out.at_ (k / 2),List.getElem?_toArray,← some_y _ _ (by rw [idl_len]; omega)]
     have:(idl s k).getD (k / 2) 0 = UInt8.ofNat (idn s k (k / 2)):=by
      rw [List.getD_eq_getElem?_getD,List.getElem?_eq_getElem (by rw [idl_len]; omega)]
      simp [idl]
     rw [this]
     have h2:=UInt8.toNat_ofNat_of_lt' (show idn s k (k / 2) < 256 from idn_lt s k (k / 2))
     unfold Y
     rw [h2]
    have z0:=HW.out.thawed (k / 2)
    have hnew:Hid (∀ W,Whole W (w.heap.size + 1) 30 (((idl s k).map Y).toArray.setIfInBounds (k / 2) (.int .u8 ((idn s k (k / 2) * 16 + d:Nat):Int))) → Whole W (w.heap.size + 1) 30 ((idl s (k + 1)).map Y).toArray):=by
     intro W h
     have e:((idl s k).map Y).toArray.setIfInBounds (k / 2) (.int .u8 ((idn s k (k / 2) * 16 + d:Nat):Int)) = ((idl s (k + 1)).map Y).toArray:=by
      rw [← hst,List.map_set]
      have h2:=UInt8.toNat_ofNat_of_lt' (show idn s k (k / 2) * 16 + d < 256 by omega)
      have h3:Y (UInt8.ofNat (idn s k (k / 2) * 16 + d)) = .int .u8 ((idn s k (k / 2) * 16 + d:Nat):Int):=by unfold Y; rw [h2]
      rw [h3]
      simp
     rw [e] at h
     exact h
    have hall2:Hid (∀ j,j < k + 1 → 0 ≤ hval (s.getD j 0)):=fun j hj=>by
     rcases Nat.lt_or_ge j k with h | h
     ·exact HA.out j h
     ·have:j = k:=by omega
      subst this; omega
    have hq:(k:Int).tdiv 2 = ((k / 2:Nat):Int):=by rw [Int.tdiv_eq_ediv_of_nonneg (by omega)]; omega
    have hd0:(d:Int) % 256 = (d:Int):=by omega
    have hor:=or_low (idn s k (k / 2)) d hx hd16
    have hk2:k / 2 < 32:=by omega
    have q1:(0:Int) ≤ ((k / 2:Nat):Int):=by omega
    have q2:((k / 2:Nat):Int) < 32:=by omega
    rw [hdv] at HD hneg
    have hg:decide ((d:Int) < 0) = false:=by simp
    clear hst hds hks hl hc hdv hneg
    generalize s.getD k 0 = c at *
    generalize idn s k (k / 2) = x at *
    go_wp2_with fail
    refine (HD.out _).mono ?_
    rintro e w' ⟨rfl,rfl⟩
    go_wp2_with fail
    go_roundw
    case rel=>
     refine ⟨k + 1,by omega,by go_num,?_,HZ.out.aside (by simp) _,HB.out.setCell (by simp) _,hall2.out⟩
     rw [show (x:Int) * 16 + (d:Int) = ((x * 16 + d:Nat):Int) by omega]
     exact hnew.out _ (HW.out.put (k / 2) _)
    case measure=>simp [intOf]; omega
  ·obtain rfl:k = 64:=by omega
   have hgood:good s = true:=by
    simp only [good,HL.out,Bool.and_eq_true,beq_self_eq_true,true_and,List.all_eq_true,decide_eq_true_eq]
    intro c hc
    obtain ⟨j,hj,rfl⟩:=List.getElem_of_mem hc
    have:=HA.out j (by omega)
    rwa [List.getD_eq_getElem?_getD,List.getElem?_eq_getElem hj,Option.getD_some] at this
   have HG:Hid (getId s = (idl s 64,true)):=by show _ = _; rw [getId,hgood]; rfl
   have hsz:((idl s 64).map Y).toArray.size = 32:=by rw [List.size_toArray,List.length_map,idl_len]
   have HI:Hid ((Tryz.prog.info? 30).map (·.size) = some ((idl s 64).map Y).toArray.size):=by show _ = _; rw [hsz]; kernel_rfl
   have H1:Hid (((idl s 64).map Y).toArray.all (·.oneCell') = true):=by
    show _ = _
    rw [Array.all_eq_true_iff_forall_mem]
    intro v hv
    obtain ⟨y,-,rfl⟩:=List.mem_map.1 (by simpa using hv)
    rfl
   have HS:=Hy hsz
   have hkk:decide ((64:Int) < (s.length:Int)) = false:=by simp; omega
   obtain ⟨cs,hcs⟩:∃ cs,cs = ((idl s 64).map Y).toArray:=⟨_,rfl⟩
   have HCS:=Hy hcs
   rw [← hcs] at HW HI H1 HS
   clear hgood hsz hlt hcs
   go_wp2_with (first
    | (refine wpList_load_row rfl 30 _ rfl (w.heap.size + 1) rfl 30 cs (0,0) _ HW.out Tryz.underlying30 rfl HI.out ?_)
    | (refine wpList_store_whole rfl 30 _ _ rfl w.heap.size cs rfl rfl 30 _ HZ.out HI.out (by rw [HS.out]; kernel_rfl) H1.out ?_; intro w3 hW3 hG3; have HW3:=Hy hW3; have HB3:=Hy (be_grown HB.out hG3 HB.out.size (fun j hj=>by injection hj with hj; omega)); clear hW3 hG3))
   rw [HG.out,← HCS.out]
   exact oget_endG Tryz.results269 true _ w _ _ HS.out rfl rfl rfl HW3.out HB3.out
theorem getId_len' (p:List UInt8):(getId p).1.length = 32:=by
 unfold getId
 split
 ·exact idl_len p 64
 ·exact List.length_replicate
theorem getId_off (p:List UInt8) (h:p.length ≠ 64):getId p = (List.replicate 32 0,false):=by
 unfold getId
 rw [if_neg]
 intro hg
 unfold good at hg
 simp only [Bool.and_eq_true,beq_iff_eq] at hg
 exact h hg.1
theorem hx_val (d:Nat) (h:d < 16):0 ≤ hval (hx d):=by
 have:∀ d,d < 16 → 0 ≤ hval (hx d):=by decide +kernel
 exact this d h
theorem hexOf_digits:∀ (l:List UInt8),∀ c ∈ hexOf l,0 ≤ hval c
 | [],c,h=>by cases h
 | b :: l,c,h=>by
  have hb:=b.toNat_lt
  simp only [hexOf,List.mem_cons] at h
  rcases h with rfl | rfl | h
  ·exact hx_val _ (by omega)
  ·exact hx_val _ (by omega)
  ·exact hexOf_digits l c h
theorem getId_hex (a:List UInt8) (h:a.length = 32):getId (hexOf a) = (a,true):=by
 have hg:good (hexOf a) = true:=by
  unfold good
  simp only [Bool.and_eq_true,beq_iff_eq,List.all_eq_true,decide_eq_true_eq]
  exact ⟨by rw [hexOf_len,h],hexOf_digits a⟩
 unfold getId
 rw [if_pos hg,(id_is _ a hg).2 rfl]
def getN (s:List UInt8):Nm:=⟨(getId s).1,getId_len' s⟩
theorem getN_hex (a:Nm):getN (hexOf a.l) = a:=Nm.same (by show (getId _).1 = _; rw [getId_hex a.l a.h])
theorem oget_u (s:List UInt8) (w:World):Calls Tryz.prog 269 #[.string ⟨s.toArray⟩] w fun e w'=>e = .returned (.tuple #[.agg (encN (getN s)).toArray,.bool (getId s).2]) ∧ Below w.heap.size w w':=by
 by_cases h:s.length = 64
 ·exact oget_64 s w h
 ·have:=oget_len s w h
  have e:encN (getN s) = (List.replicate 32 (0:UInt8)).map Y:=by
   show (getId s).1.map Y = _
   rw [getId_off s h]
  rw [e,show (getId s).2 = false by rw [getId_off s h]]
  exact this
def behind (tx wd:List UInt8):List UInt8:=Lib.trimPrefix tx wd
def starts (tx wd:List UInt8):Bool:=Lib.hasPrefix tx wd
theorem cutp_any (tx wd:List UInt8) (w:World):Calls Tryz.prog 268 #[.string ⟨tx.toArray⟩,.string ⟨wd.toArray⟩] w fun e w'=>e = .returned (.tuple #[.string ⟨(behind tx wd).toArray⟩,.bool (starts tx wd)]) ∧ w' = w:=Tryz.strings_CutPrefix ⟨tx.toArray⟩ ⟨wd.toArray⟩ w
theorem cid_any (tx wd:List UInt8) (w:World):Calls Tryz.prog 233 #[.string ⟨tx.toArray⟩,.string ⟨wd.toArray⟩] w fun e w'=>(if starts tx wd && (getId (behind tx wd)).2 then e = .returned (.agg (encN (getN (behind tx wd))).toArray) else e = .panicked (fault 1)) ∧ Below w.heap.size w w':=by
 have HC:=Hy fun W=>cutp_any tx wd W
 have HG:=Hy fun W=>oget_u (behind tx wd) W
 have HW0:=Hy fun z=>Whole.made w 30 z
 have HB0:=Hy fun z=>(Below.refl w.heap.size w).alloc (Nat.le_refl _) (.cells z 30)
 have HXS:=Hy (infoXs (getN (behind tx wd)))
 generalize getN (behind tx wd) = x at *
 generalize (getId (behind tx wd)).2 = ok at *
 generalize starts tx wd = st at *
 generalize behind tx wd = bh at *
 go_enter Tryz.func233,Tryz.ntmps233
 go_wp2_with fail
 refine (HC.out _).mono ?_
 rintro e w1 ⟨rfl,rfl⟩
 go_wp2_with fail
 obtain ⟨z,hz⟩:∃ z:Array Value,z = ((List.replicate 32 (0:UInt8)).map Y).toArray:=⟨_,rfl⟩
 have hzs:z.size = 32:=by rw [hz]; simp
 rw [show (#[Value.int .u8 0,Z8,Z8,Z8,Z8,Z8,Z8,Z8,Z8,Z8,Z8,Z8,Z8,Z8,Z8,Z8,Z8,Z8,Z8,Z8,Z8,Z8,Z8,Z8,Z8,Z8,Z8,Z8,Z8,Z8,Z8,Z8]:Array Value) = z from hz.symm]
 have hW:=HW0.out z
 have hB:=HB0.out z
 clear hz HW0 HB0
 have hs1:=hB.size
 have HZS:=Hy hzs
 generalize w.alloc (.cells z 30) = w0 at *
 have hlt0:=hW.lt
 have HW:=Hy hW
 have HB:=Hy hB
 clear hW hB hzs
 refine (HG.out _).mono ?_
 rintro e w2 ⟨rfl,hb⟩
 have HB2:=Hy (HB.out.trans (hb.mono hs1))
 have HW2:=Hy (HW.out.below hb HW.out.lt)
 have hs2:=hb.size
 clear hb
 cases st
 ·skip
  go_wp2_with (refine wpList_store_whole rfl 30 _ _ rfl w2.heap.size (encN x).toArray rfl rfl 30 _ (Whole.made w2 _ _) HXS.out (by rw [encN_size]; kernel_rfl) (encN_all x) ?_; intro w3 hWn hGn; have HN3:=Hy hWn; have D3:=Hy (made_belowC hGn); clear hWn hGn)
  refine (must_no _ _).mono ?_
  rintro e w' ⟨rfl,rfl⟩
  exact ⟨rfl,by rfl,HB2.out.trans (D3.out.mono HB2.out.size)⟩
 ·skip
  go_wp2_with (refine wpList_store_whole rfl 30 _ _ rfl w2.heap.size (encN x).toArray rfl rfl 30 _ (Whole.made w2 _ _) HXS.out (by rw [encN_size]; kernel_rfl) (encN_all x) ?_; intro w3 hWn hGn; have HN3:=Hy hWn; have D3:=Hy (made_belowC hGn); clear hWn hGn)
  cases ok
  ·refine (must_no _ _).mono ?_
   rintro e w' ⟨rfl,rfl⟩
   exact ⟨rfl,by rfl,HB2.out.trans (D3.out.mono HB2.out.size)⟩
  ·refine (must_yes _ _).mono ?_
   rintro e w' ⟨rfl,rfl⟩
   have HW3:=Hy (HW2.out.below D3.out HW2.out.lt)
   have HB3:=Hy (hTr HB2 D3.out)
   go_wp2_with (first
    | (refine wpList_load_row rfl 30 _ rfl w2.heap.size rfl 30 (encN x).toArray (0,0) _ HN3.out Tryz.underlying30 rfl HXS.out ?_)
    | (refine wpList_store_whole rfl 30 _ _ rfl w.heap.size (encN x).toArray rfl rfl 30 z HW3.out HXS.out (by rw [encN_size]; exact HZS.out) (encN_all x) ?_; intro w4 hWn hGn; have HW4:=Hy hWn; have HB4:=Hy (be_grown HB3.out hGn HB3.out.size (fun j hj=>by injection hj with hj; omega)); clear hWn hGn))
   refine bodyPost_ret (v:=.agg (encN x).toArray) ?_ rfl ⟨by rfl,HB4.out⟩
   exact results_cell_row (p:=4) (ty:=30) rfl _ _ w.heap.size 30 (encN x).toArray (0,0) _ rfl HW4.out Tryz.underlying30 rfl HXS.out
end Go.Proofs.YtlfmooihcigolaaGreatDoor

/-
  CmpN, Cpt, Srt.
-/
import Derived.Lib.BytesEntry
import Derived.Sort.Grow
import Derived.Deep.LoopGhost
import Derived.Test.YtlfmooihcigolaaGreatDoorMah
import Derived.Test.YtlfmooihcigolaaGreatDoorMaa
set_option maxRecDepth 100000
set_option maxHeartbeats 8000000
namespace Go.Proofs.YtlfmooihcigolaaGreatDoor
section
open Go.RowKit
theorem bytes_back (xs:List UInt8):Lib.bytesOf (xs.map fun b=>(b.toNat:Int)) = xs:=by
 unfold Lib.bytesOf
 rw [List.map_map]
 conv=>rhs; rw [← List.map_id xs]
 apply List.map_congr_left
 intro b _
 simp
theorem load_row {P:Program} (w:World) (b o:Nat) (xs:List UInt8) (h:w.rangeAt b o (xs.map Y)):(Extern.Bytes.loadBytes ⟨b,o,none⟩ xs.length .empty).run P w = .ok ⟨xs.toArray⟩ w:=by
 have hl:=Lib.run_loadBytesX (P:=P) w (xs.map fun b=>(b.toNat:Int)) ⟨b,o,none⟩ .empty (fun j x hj=>by
  rw [Addr.add_mid]
  rw [List.getElem?_map,Option.map_eq_some_iff] at hj
  obtain ⟨c,hc,rfl⟩:=hj
  exact h j (Y c) (by rw [List.getElem?_map,hc]; rfl))
 rw [List.length_map,bytes_back] at hl
 rw [hl]
 congr 1
 apply ByteArray.ext
 show (#[]:Array UInt8) ++ xs.toArray = xs.toArray
 simp
theorem run_compare_rows {P:Program} (w:World) (b1 o1 n1 c1 b2 o2 n2 c2:Nat) (xs ys:List UInt8) (h1:xs.length = n1) (h2:ys.length = n2) (hx:w.rangeAt b1 o1 (xs.map Y)) (hy:w.rangeAt b2 o2 (ys.map Y)) :
  (Extern.BytealgCompare.compare #[.slice (some ⟨b1,o1,none⟩) n1 c1,.slice (some ⟨b2,o2,none⟩) n2 c2]).run P w = .ok (.int .i64 (Lib.compareBytes xs ys)) w:=by
 subst h1 h2
 have hl1:=load_row (P:=P) w b1 o1 xs hx
 have hl2:=load_row (P:=P) w b2 o2 ys hy
 change Sem.run P (do pure (goInt (Extern.BytealgCompare.cmp (← Extern.Bytes.bytesOf (.slice (some ⟨b1,o1,none⟩) xs.length c1)) (← Extern.Bytes.bytesOf (.slice (some ⟨b2,o2,none⟩) ys.length c2))))) w = _
 simp only [Extern.Bytes.bytesOf,Sem.run_bind,Sem.run_pure,Result.andThen,hl1,hl2]
 rw [Lib.cmp_eq]
 rfl
theorem bcmp_any (b1 o1 n1 c1 b2 o2 n2 c2:Nat) (xs ys:List UInt8) (w:World) (h1:xs.length = n1) (h2:ys.length = n2) (hx:w.rangeAt b1 o1 (xs.map Y)) (hy:w.rangeAt b2 o2 (ys.map Y)) :
  Calls Tryz.prog 177 #[.slice (some ⟨b1,o1,none⟩) n1 c1,.slice (some ⟨b2,o2,none⟩) n2 c2] w fun e w'=>e = .returned (.int .i64 (Lib.compareBytes xs ys)) ∧ w = w':=by
 have hrun:=run_compare_rows (P:=Tryz.prog) w b1 o1 n1 c1 b2 o2 n2 c2 xs ys h1 h2 hx hy
 clear hx hy
 go_enter Tryz.func177,Tryz.ntmps177
 go_wp2
 rw [run_callFunc_extern Tryz.func229 (by kernel_rfl) (by kernel_rfl) (by kernel_rfl) (e:=Extern.BytealgCompare.compare) (by kernel_rfl),hrun]
 simp only [Result.andThen]
 rw [Oper.upon_value]
 go_wp2
 go_ret
 exact ⟨rfl,rfl⟩
theorem compare_any (x y:Nm) (w:World):Calls Tryz.prog 127 #[.agg (encN x).toArray,.agg (encN y).toArray] w fun e w'=>e = .returned (.int .i64 (cmpN x y)) ∧ ∃ q os,w' = Sort.grow (w.drewN q) os:=by
 have hxl:=x.h
 have hyl:=y.h
 unfold cmpN encN
 generalize x.l = xs at *
 generalize y.l = ys at *
 obtain ⟨xc,hxc⟩:∃ xc,xc = (xs.map Y).toArray:=⟨_,rfl⟩
 obtain ⟨yc,hyc⟩:∃ yc,yc = (ys.map Y).toArray:=⟨_,rfl⟩
 rw [← hxc,← hyc]
 have HB:Hid (∀ n,Calls Tryz.prog 177 #[.slice (some ⟨w.heap.size,0,none⟩) 32 32,.slice (some ⟨w.heap.size + 1,0,none⟩) 32 32] (((w.alloc (.cells xc 30)).alloc (.cells yc 30)).drewN n) fun e w'=>e = .returned (.int .i64 (Lib.compareBytes xs ys)) ∧ ((w.alloc (.cells xc 30)).alloc (.cells yc 30)).drewN n = w'):=by
  intro n
  have hwx:=Whole.past (Whole.made w 30 xc) (.cells yc 30)
  have hwy:=Whole.made (w.alloc (.cells xc 30)) 30 yc
  have hs:(w.alloc (.cells xc 30)).heap.size = w.heap.size + 1:=by simp
  rw [hs] at hwy
  refine bcmp_any _ _ _ _ _ _ _ _ xs ys _ hxl hyl (fun j v hv=>?_) (fun j v hv=>?_)
  ·rw [Nat.zero_add,World.cell?_drewN,hwx.at_,hxc,List.getElem?_toArray]
   exact hv
  ·rw [Nat.zero_add,World.cell?_drewN,hwy.at_,hyc,List.getElem?_toArray]
   exact hv
 clear hxc hyc hxl hyl
 generalize Lib.compareBytes xs ys = r at *
 go_enter Tryz.func127,Tryz.ntmps127
 go_wp2_with fail
 refine wp_region_quiet_lit (by kernel_rfl) (by kernel_rfl) ?_
 repeat (first
  | go_big_quiet_step ((first | (go_at_call 177; exact q_left (HB.out _)))))
 refine wpQuiet_nil ?_
 rintro W ⟨n,rfl⟩
 go_wp2
 go_ret
 exact ⟨rfl,n,_,by rw [Sort.alloc_eq_grow,Sort.alloc_eq_grow,Sort.grow_grow]; rfl⟩
end
section
open Go.RowKit
theorem RowN.there {w:World} {b o:Nat} {d:List Nm} (h:RowN w b o d) (hf:∀ i,i < d.length * 32 → w.frozen? ⟨b,o + i,none⟩ = false) {k:Nat} (hk:k < d.length):w.there b (o + k * 32) 32:=by
 intro j hj
 have hl:=encN_len (d.getD k default)
 refine ⟨?_,?_⟩
 ·rw [h k hk j _ (List.getElem?_eq_getElem (by omega))]
  rfl
 ·rw [Nat.add_assoc]
  exact hf _ (by omega)
theorem RowN.set {w:World} {b o:Nat} {d:List Nm} (h:RowN w b o d) (hf:∀ i,i < d.length * 32 → w.frozen? ⟨b,o + i,none⟩ = false) {k:Nat} (hk:k < d.length) (x:Nm):RowN (w.setCells b (o + k * 32) (encN x)) b o (d.set k x):=by
 intro i hi
 rw [List.length_set] at hi
 by_cases e:i = k
 ·subst e
  rw [List.getD_eq_getElem?_getD,List.getElem?_set_self hi,Option.getD_some]
  exact World.rangeAt_setCells_same _ _ _ _ (by rw [encN_len]; exact h.there hf hk)
 ·rw [List.getD_eq_getElem?_getD,List.getElem?_set_ne (fun e'=>e e'.symm),← List.getD_eq_getElem?_getD]
  refine World.rangeAt_setCells_apart (h i hi) _ _ _ (.inr ?_)
  rw [encN_len,encN_len]
  omega
theorem run_clear_cells {P:Program} (w:World) (t e ty:TypeId) (z:Value) (ht:P.underlying t = some (.slice e)) (hv:(zeroValue e).run P w = .ok z w) (h1:∀ v ∈ z.cells,v.oneCell' = true) (b o n c:Nat) (hn:0 < n)
  (hc:∀ j,j < n * z.cells.size → (w.cell? ⟨b,o + j,none⟩).isSome = true) (hf:∀ j,j < n * z.cells.size → w.frozen? ⟨b,o + j,none⟩ = false) :
  (Builtin.clear_ #[t] ty #[.slice (some ⟨b,o,none⟩) n c]).run P w = .ok (.tuple #[]) (w.setCells b o (Builtin.zeroCells z.cells n).toList):=by
 have hsz:(Builtin.zeroCells z.cells n).toList.length = n * z.cells.size:=by simp [Builtin.zeroCells]
 have hst:=run_storeCells_cells (P:=P) b o (Builtin.zeroCells z.cells n).toList 0 w (fun j hj=>by rw [Nat.add_zero]; exact hc j (by omega)) (fun j hj=>by rw [Nat.add_zero]; exact hf j (by omega)) (by
  intro v hv'
  simp only [Builtin.zeroCells,Array.toList_map,List.mem_map,Array.toList_range,List.mem_range] at hv'
  obtain ⟨i,hi,rfl⟩:=hv'
  have hp:0 < z.cells.size:=by
   rcases Nat.eq_zero_or_pos z.cells.size with h | h
   ·rw [h] at hi
    omega
   ·exact h
  rw [getElem!_pos z.cells (i % z.cells.size) (Nat.mod_lt _ hp)]
  exact h1 _ (Array.getElem_mem _))
 rw [Nat.add_zero] at hst
 obtain ⟨m,rfl⟩:∃ m,n = m + 1:=⟨n - 1,by omega⟩
 simp [Builtin.clear_,run_underlying ht,hv,hst]
theorem gr_cellsN {a:World} {g:Nat}:∀ (vs:List Value) (o:Nat) (w:World),a.grownBy w (some g) → a.grownBy (w.setCells g o vs) (some g)
 | [],_,_,h=>h
 | v :: vs,o,w,h=>by
  rw [World.setCells]
  exact gr_cellsN vs (o + 1) _ (gr_set h (.inl rfl) v)
structure Half (w wr:World) (b:Nat) (d:List Nm) (m kk:Nat):Prop where
 row:∃ F:List Nm,F.length = d.length ∧ RowN wr b 0 F ∧ (∀ i,i < kk → F.getD i default = (cptk d m).getD i default) ∧ ∀ i,kk ≤ i → F.getD i default = d.getD i default
 len:(cptk d m).length = kk
 lt:kk < m
 gr:w.grownBy wr (some b)
 fr:∀ i,i < d.length * 32 → wr.frozen? ⟨b,0 + i,none⟩ = false
theorem Half.skip {w wr:World} {b m kk:Nat} {d:List Nm} (h:Half w wr b d m kk) (hm:0 < m) (he:d.getD m default = d.getD (m - 1) default) (n:Nat):Half w (wr.drewN n) b d (m + 1) kk:=by
 obtain ⟨⟨F,h1,h2,h3,h4⟩,h5,h6,h7,h8⟩:=h
 have hc:cptk d (m + 1) = cptk d m:=by rw [cptk_step d m hm,if_pos he]
 exact ⟨⟨F,h1,h2,by rw [hc]; exact h3,h4⟩,by rw [hc]; exact h5,by omega,gr_drewN h7 n,h8⟩
theorem Half.keep {w wr:World} {b m kk:Nat} {d:List Nm} (h:Half w wr b d m kk) (hm:0 < m) (hl:m < d.length) (he:d.getD m default ≠ d.getD (m - 1) default) (n:Nat):Half w ((wr.drewN n).setCells b (kk * 32) (encN (d.getD m default))) b d (m + 1) (kk + 1):=by
 obtain ⟨⟨F,h1,h2,h3,h4⟩,h5,h6,h7,h8⟩:=h
 have hc:cptk d (m + 1) = cptk d m ++ [d.getD m default]:=by rw [cptk_step d m hm,if_neg he]
 refine ⟨⟨F.set kk (d.getD m default),by rw [List.length_set]; exact h1,?_,?_,?_⟩,by rw [hc,List.length_append,h5]; rfl,by omega,gr_cellsN _ _ _ (gr_drewN h7 n),fun i hi=>by rw [World.frozen?_setCells]; exact h8 i hi⟩
 ·have:=RowN.set (w:=wr.drewN n) (b:=b) (o:=0) (d:=F) h2 (by rw [h1]; exact h8) (k:=kk) (by omega) (d.getD m default)
  rw [Nat.zero_add] at this
  exact this
 ·intro i hi
  rw [hc]
  by_cases e:i = kk
  ·subst e
   generalize d.getD m default = x at *
   have e1:(F.set i x)[i]? = some x:=List.getElem?_set_self (by omega)
   have e2:(cptk d m ++ [x])[i]? = some x:=by
    rw [List.getElem?_append_right (by omega),h5,Nat.sub_self]
    rfl
   rw [List.getD_eq_getElem?_getD,e1,List.getD_eq_getElem?_getD,e2]
  ·rw [List.getD_eq_getElem?_getD,List.getElem?_set_ne (fun e'=>e e'.symm),← List.getD_eq_getElem?_getD,h3 i (by omega),List.getD_eq_getElem?_getD,List.getD_eq_getElem?_getD,List.getElem?_append_left (by omega)]
 ·intro i hi
  rw [List.getD_eq_getElem?_getD,List.getElem?_set_ne (by omega),← List.getD_eq_getElem?_getD,h4 i (by omega)]
theorem Half.load {w wr:World} {b m kk:Nat} {d:List Nm} (h:Half w wr b d m kk) {i:Nat} (hi:kk ≤ i) (hl:i < d.length):∀ W,(∃ n,W = wr.drewN n) → W.rangeAt b (i * 32) (encN (d.getD i default)):=by
 rintro W ⟨n,rfl⟩
 obtain ⟨⟨F,h1,h2,h3,h4⟩,-⟩:=h
 have:=h2 i (by omega)
 rw [Nat.zero_add,h4 i hi] at this
 exact this
theorem Half.there {w wr:World} {b m kk:Nat} {d:List Nm} (h:Half w wr b d m kk) (hl:kk < d.length) (n:Nat):(wr.drewN n).there b (kk * 32) 32:=by
 obtain ⟨⟨F,h1,h2,h3,h4⟩,h5,h6,h7,h8⟩:=h
 have:=RowN.there (w:=wr.drewN n) (b:=b) (o:=0) (d:=F) h2 (by rw [h1]; exact h8) (k:=kk) (by omega)
 rw [Nat.zero_add] at this
 exact this
theorem Half.done {w wr:World} {b m kk:Nat} {d:List Nm} (h:Half w wr b d m kk) (_:m ≤ d.length) (vs:List Value):w.grownBy (wr.setCells b (kk * 32) vs) (some b) ∧ RowN (wr.setCells b (kk * 32) vs) b 0 (cptk d m):=by
 obtain ⟨⟨F,h1,h2,h3,h4⟩,h5,h6,h7,h8⟩:=h
 refine ⟨gr_cellsN _ _ _ h7,fun i hi=>?_⟩
 rw [h5] at hi
 have:=h2 i (by omega)
 rw [h3 i hi] at this
 refine World.rangeAt_setCells_apart this _ _ _ (.inr (.inl ?_))
 rw [encN_len]
 omega
theorem Half.rest {w wr:World} {b m kk:Nat} {d:List Nm} (h:Half w wr b d m kk) (_:m ≤ d.length):(∀ j,j < (d.length - kk) * 32 → (wr.cell? ⟨b,kk * 32 + j,none⟩).isSome = true) ∧ ∀ j,j < (d.length - kk) * 32 → wr.frozen? ⟨b,kk * 32 + j,none⟩ = false:=by
 obtain ⟨⟨F,h1,h2,h3,h4⟩,h5,h6,h7,h8⟩:=h
 refine ⟨fun j hj=>?_,fun j hj=>?_⟩
 ·have hi:kk + j / 32 < F.length:=by omega
  have hl:=encN_len (F.getD (kk + j / 32) default)
  have:=h2 (kk + j / 32) hi (j % 32) _ (List.getElem?_eq_getElem (by omega))
  rw [show 0 + (kk + j / 32) * 32 + j % 32 = kk * 32 + j by omega] at this
  rw [this]
  rfl
 ·have:=h8 (kk * 32 + j) (by omega)
  rw [Nat.zero_add] at this
  exact this
theorem compact_nm (b c:Nat) (d:List Nm) (w:World) (hH:RowN w b 0 d) (hf:∀ i,i < d.length * 32 → w.frozen? ⟨b,0 + i,none⟩ = false) (hc:d.length ≤ c) (hm:d.length ≤ 1048576) :
  Calls Tryz.prog 128 #[.slice (some ⟨b,0,none⟩) d.length c] w fun e w'=>e = .returned (.slice (some ⟨b,0,none⟩) (cptk d d.length).length c) ∧ w.grownBy w' (some b) ∧ RowN w' b 0 (cptk d d.length):=by
 have HH:=Hy hH
 have HF:=Hy hf
 clear hH hf
 by_cases h2:d.length < 2
 ·have hall:cptk d d.length = d:=by
   rw [cptk_all d d.length (Nat.le_refl _) (fun i h0 h1=>by omega),List.take_length]
  have HALL:=Hy hall
  clear hall
  go_enter Tryz.func128,Tryz.ntmps128
  go_wp2
  go_ret
  rw [HALL.out]
  exact ⟨rfl,gr_refl _ _,HH.out⟩
 ·go_enter Tryz.func128,Tryz.ntmps128
  go_wp2
  go_loopg [3] d.length (fun g s3 wr=>∃ k q:Nat,1 ≤ k ∧ k ≤ d.length ∧ d.length - k ≤ g ∧ s3 = .int .i64 k ∧ Hid (wr = w.drewN q) ∧ Hid (∀ i,0 < i → i < k → d.getD i default ≠ d.getD (i - 1) default))
  case atStart=>exact ⟨1,0,Nat.le_refl _,by omega,by omega,rfl,Hy rfl,Hy fun i h0 h1=>absurd h0 (by omega)⟩
  case round=>
   obtain ⟨k,q,hk1,hk,hg,rfl,hwr,hall⟩:=hrel
   by_cases hlt:k < d.length
   ·have hlt':(k:Int) < (d.length:Int):=by omega
    obtain ⟨x,hx⟩:∃ x,x = d.getD k default:=⟨_,rfl⟩
    obtain ⟨y,hy⟩:∃ y,y = d.getD (k - 1) default:=⟨_,rfl⟩
    have HLX:Hid (∀ W,(∃ n,W = wr.drewN n) → W.rangeAt b (k * 32) (encN x)):=by rintro W ⟨n,rfl⟩; have:=HH.out k hlt; rw [Nat.zero_add,← hx] at this; rw [hwr.out]; exact this
    have HLY:Hid (∀ W,(∃ n,W = wr.drewN n) → W.rangeAt b ((k - 1) * 32) (encN y)):=by rintro W ⟨n,rfl⟩; have:=HH.out (k - 1) (by omega); rw [Nat.zero_add,← hy] at this; rw [hwr.out]; exact this
    have hw1:wrap64 ((k:Int) - 1) = ((k - 1:Nat):Int):=by unfold wrap64; omega
    have hb1:k - 1 < d.length:=by omega
    have heq:=fun W=>eql_nm x y W
    have HXI:Hid ((Tryz.prog.info? 30).map (·.size) = some (encN x).length):=by show _ = _; rw [encN_len]; exact infoN
    have HYI:Hid ((Tryz.prog.info? 30).map (·.size) = some (encN y).length):=by show _ = _; rw [encN_len]; exact infoN
    have HX:=Hy hx
    have HY:=Hy hy
    clear hx hy
    by_cases hdup:x = y
    ·have hdd:decide (x = y) = true:=by simp [hdup]
     rw [hdd] at heq
     clear hdd
     have HD:=Hy hdup
     clear hdup
     go_wp2_with fail
     refine wp_region_quiet_lit (by kernel_rfl) (by kernel_rfl) ?_
     repeat (first
      | go_big_quiet_step (fail)
      | (refine q_loadm _ _ rfl (by rfl) b (k * 32) (encN x) rfl _ Tryz.underlying30 rfl HXI.out HLX.out ?_; simp only [Act.put]; go_simp)
      | (refine q_loadm _ _ rfl (by rfl) b ((k - 1) * 32) (encN y) rfl _ Tryz.underlying30 rfl HYI.out HLY.out ?_; simp only [Act.put]; go_simp))
     refine wpQuiet_nil ?_
     intro nq
     have hst:Hid (Half w (wr.drewN nq) b d (k + 1) k):=by
      have he:d.getD k default = d.getD (k - 1) default:=by rw [← HX.out,← HY.out,HD.out]
      have hck:cptk d (k + 1) = d.take k:=by rw [cptk_step d k (by omega),if_pos he,cptk_all d k (by omega) hall.out]
      rw [hwr.out]
      exact ⟨⟨d,rfl,HH.out,fun i hi=>by rw [hck,List.getD_eq_getElem?_getD,List.getD_eq_getElem?_getD,List.getElem?_take_of_lt hi],fun i _=>rfl⟩,by rw [hck,List.length_take]; omega,by omega,gr_drewN (gr_drewN (gr_refl _ _) _) _,HF.out⟩
     generalize wr.drewN nq = wp at *
     go_wp2
     go_loopg [3,5] d.length (fun g s3 s5 wr=>∃ (kk k2:Nat),s3 = .int .i64 kk ∧ s5 = .int .i64 k2 ∧ 1 ≤ k2 ∧ k + k2 ≤ d.length ∧ d.length - (k + k2) ≤ g ∧ kk < k + k2 ∧ Hid (Half w wr b d (k + k2) kk))
     case atStart=>exact ⟨k,1,rfl,rfl,Nat.le_refl _,by omega,by omega,by omega,hst⟩
     case round=>
      obtain ⟨kk,k2,rfl,rfl,h1,hle,hg2,hkk,hI⟩:=hrel
      by_cases hlt2:k + k2 < d.length
      ·obtain ⟨u,hu⟩:∃ u,u = d.getD (k + k2) default:=⟨_,rfl⟩
       obtain ⟨v,hv⟩:∃ v,v = d.getD (k + k2 - 1) default:=⟨_,rfl⟩
       have hlu:=hI.out.load (i:=k + k2) (by omega) hlt2
       have hlv:=hI.out.load (i:=k + k2 - 1) (by omega) (by omega)
       rw [← hu,show (k + k2) * 32 = k * 32 + k2 * 32 by omega] at hlu
       rw [← hv,show (k + k2 - 1) * 32 = k * 32 + (k2 - 1) * 32 by omega] at hlv
       have HLU:=Hy hlu
       have HLV:=Hy hlv
       have hthr:=hI.out.there (by omega)
       have HTH:=Hy hthr
       have hw2:wrap64 ((k2:Int) - 1) = ((k2 - 1:Nat):Int):=by unfold wrap64; omega
       have hb2:k2 - 1 < d.length - k:=by omega
       have hb3:k2 < d.length - k:=by omega
       have hb4:(k2:Int) < ((d.length - k:Nat):Int):=by omega
       have hneq:=fun W=>neq_nm u v W
       have HUI:Hid ((Tryz.prog.info? 30).map (·.size) = some (encN u).length):=by show _ = _; rw [encN_len]; exact infoN
       have HVI:Hid ((Tryz.prog.info? 30).map (·.size) = some (encN v).length):=by show _ = _; rw [encN_len]; exact infoN
       have HU:=Hy hu
       have HV:=Hy hv
       clear hu hv hlu hlv hthr heq
       by_cases huv:u = v
       ·have hdd:decide (u = v) = true:=by simp [huv]
        rw [hdd] at hneq
        clear hdd
        have HUV:=Hy huv
        clear huv
        go_wp2_with fail
        refine wp_region_quiet_lit (by kernel_rfl) (by kernel_rfl) ?_
        repeat (first
         | go_big_quiet_step (fail)
         | (refine q_loadm _ _ rfl (by rfl) b (k * 32 + k2 * 32) (encN u) rfl _ Tryz.underlying30 rfl HUI.out HLU.out ?_; simp only [Act.put]; go_simp)
         | (refine q_loadm _ _ rfl (by rfl) b (k * 32 + (k2 - 1) * 32) (encN v) rfl _ Tryz.underlying30 rfl HVI.out HLV.out ?_; simp only [Act.put]; go_simp))
        refine wpQuiet_nil ?_
        intro nq2
        go_wp2
        go_roundg (d.length - (k + (k2 + 1)))
        case measure=>omega
        case rel=>
         refine ⟨kk,k2 + 1,rfl,by go_num,by omega,by omega,Nat.le_refl _,by omega,Hy ?_⟩
         exact hI.out.skip (by omega) (by rw [← HU.out,← HV.out]; exact HUV.out) nq2
       ·have hdd:decide (u = v) = false:=by simp [huv]
        rw [hdd] at hneq
        clear hdd
        have HUV:=Hy huv
        clear huv
        go_wp2_with fail
        refine wp_region_quiet_lit (by kernel_rfl) (by kernel_rfl) ?_
        repeat (first
         | go_big_quiet_step (fail)
         | (refine q_loadm _ _ rfl (by rfl) b (k * 32 + k2 * 32) (encN u) rfl _ Tryz.underlying30 rfl HUI.out HLU.out ?_; simp only [Act.put]; go_simp)
         | (refine q_loadm _ _ rfl (by rfl) b (k * 32 + (k2 - 1) * 32) (encN v) rfl _ Tryz.underlying30 rfl HVI.out HLV.out ?_; simp only [Act.put]; go_simp))
        refine wpQuiet_nil ?_
        intro nq2
        go_wp2_with (first
         | (refine wpList_load_mid rfl 30 _ rfl b (k * 32 + k2 * 32) rfl (encN u) _ (HLU.out _ ⟨nq2,rfl⟩) Tryz.underlying30 rfl HUI.out ?_)
         | (refine wpList_store_mid rfl 30 _ _ rfl b (kk * 32) (encN u).toArray rfl rfl (by rw [encN_size]; exact HTH.out nq2) (by rw [encN_size]; exact infoN) (encN_all u) ?_))
        go_roundg (d.length - (k + (k2 + 1)))
        case measure=>omega
        case rel=>
         refine ⟨kk + 1,k2 + 1,by go_num,by go_num,by omega,by omega,Nat.le_refl _,by omega,Hy ?_⟩
         have:=hI.out.keep (by omega) hlt2 (by rw [← HU.out,← HV.out]; exact HUV.out) nq2
         rw [← HU.out] at this
         exact this
      ·have hend:k + k2 = d.length:=by omega
       have hlen:=hI.out.len
       have hgone:=hI.out.done (Nat.le_of_eq hend)
       obtain ⟨hr1,hr2⟩:=hI.out.rest (Nat.le_of_eq hend)
       rw [hend] at hlen hgone
       have hcl:=fun ty=>run_clear_cells (P:=Tryz.prog) _ 44 30 ty _ Tryz.underlying44 (zero_nm _) (by
        intro v hv
        exact encN_one default v (by simpa [Value.cells] using hv)) b (kk * 32) (d.length - kk) (c - kk) (by omega) (fun j hj=>hr1 j (by rw [show (Value.agg (encN default).toArray).cells.size = 32 from encN_size default] at hj; exact hj)) (fun j hj=>hr2 j (by rw [show (Value.agg (encN default).toArray).cells.size = 32 from encN_size default] at hj; exact hj))
       have HG:=Hy (hgone (Builtin.zeroCells (Value.agg (encN default).toArray).cells (d.length - kk)).toList)
       have HLE:=Hy hlen
       generalize (Builtin.zeroCells (Value.agg (encN default).toArray).cells (d.length - kk)).toList = zs at *
       clear hlen hgone hr1 hr2 heq hI
       go_wp2
       go_ret
       rw [HLE.out]
       exact ⟨rfl,HG.out⟩
    ·have hdd:decide (x = y) = false:=by simp [hdup]
     rw [hdd] at heq
     clear hdd
     have HD:=Hy hdup
     clear hdup
     go_wp2_with fail
     refine wp_region_quiet_lit (by kernel_rfl) (by kernel_rfl) ?_
     repeat (first
      | go_big_quiet_step (fail)
      | (refine q_loadm _ _ rfl (by rfl) b (k * 32) (encN x) rfl _ Tryz.underlying30 rfl HXI.out HLX.out ?_; simp only [Act.put]; go_simp)
      | (refine q_loadm _ _ rfl (by rfl) b ((k - 1) * 32) (encN y) rfl _ Tryz.underlying30 rfl HYI.out HLY.out ?_; simp only [Act.put]; go_simp))
     refine wpQuiet_nil ?_
     intro nq
     go_wp2
     go_roundg (d.length - (k + 1))
     case measure=>omega
     case rel=>
      refine ⟨k + 1,q + nq,by omega,by omega,Nat.le_refl _,by go_num,Hy ?_,Hy ?_⟩
      ·rw [hwr.out,World.drewN_drewN]
      ·intro i h0 h1
       by_cases e:i = k
       ·subst e
        rw [← HX.out,← HY.out]
        exact HD.out
       ·exact hall.out i h0 (by omega)
   ·have hk2:k = d.length:=by omega
    subst hk2
    have hc2:cptk d d.length = d:=by rw [cptk_all d d.length (Nat.le_refl _) hall.out,List.take_length]
    have HC:=Hy hc2
    clear hc2
    go_wp2
    go_ret
    rw [HC.out]
    refine ⟨rfl,?_,?_⟩
    ·rw [hwr.out]
     exact gr_drewN (gr_refl _ _) _
    ·rw [hwr.out]
     exact HH.out
end
section
open Go.RowKit Go.Sort
theorem getI (d:List Nm) (i:Nat) (h:i < d.length):(d.toArray)[i]! = d.getD i default:=by
 rw [getElem!_pos d.toArray i (by simpa using h)]
 simp [List.getD,List.getElem?_eq_getElem h]
theorem holds_row {w:World} {b o:Nat} {d:List Nm} (h:HoldsK encN 32 w b o d.toArray):RowN w b o d ∧ ∀ i,i < d.length * 32 → w.frozen? ⟨b,o + i,none⟩ = false:=by
 refine ⟨fun i hi j v hv=>?_,fun i hi=>?_⟩
 ·have hj:j < 32:=by
   have:=(List.getElem?_eq_some_iff.1 hv).1
   rwa [encN_len] at this
  have:=(h.cell (i:=i) (c:=j) (by simpa using hi) hj).1
  rw [this,getI d i hi,getElem!_pos _ _ (by rw [encN_len]; exact hj)]
  rw [List.getElem?_eq_getElem (by rw [encN_len]; exact hj)] at hv
  exact hv
 ·have:=(h.cell (i:=i / 32) (c:=i % 32) (by simp; omega) (by omega)).2
  rw [show o + i / 32 * 32 + i % 32 = o + i by omega] at this
  exact this
theorem row_holds {w:World} {b o:Nat} {d:List Nm} (h:RowN w b o d) (hf:∀ i,i < d.length * 32 → w.frozen? ⟨b,o + i,none⟩ = false):HoldsK encN 32 w b o d.toArray:=by
 intro t ht
 have ht':t < d.length * 32:=by simpa using ht
 rw [get_flatK _ _ _ _ (by simpa using ht')]
 refine ⟨?_,hf t ht'⟩
 have hl:=encN_len (d.getD (t / 32) default)
 have:=h (t / 32) (by omega) (t % 32) _ (List.getElem?_eq_getElem (by omega))
 rw [show o + t / 32 * 32 + t % 32 = o + t by omega] at this
 rw [this,getI d _ (by omega)]
 show _ = some (encN _)[_]!
 rw [getElem!_pos _ _ (by rw [encN_len]; omega)]
theorem clone_nm (b o c:Nat) (ids:List Nm) (w:World) (h:RowN w b o ids) (hl:ids.length ≤ 1048576) :
  Calls Tryz.prog 125 #[.slice (some ⟨b,o,none⟩) ids.length c] w fun e w'=>∃ v',e = .returned v' ∧ w'.ownsRow w.heap.size 30 32 v' ids.length (ids.flatMap encN) ∧ Below w.heap.size w w':=by
 cases hq:Tryz.prog.info? 30 with
 | none=>
  have:=info23
  rw [hq] at this
  cases this
 | some i0=>
  have hi:=info23
  rw [hq] at hi
  simp only [Option.map_some,Option.some.injEq,Prod.mk.injEq] at hi
  obtain ⟨h1,h2,h3⟩:=hi
  have:=AnyE.slices_Clone Tryz.clnId i0 (.agg (encN default).toArray) 32 32 hq h1 h2 h3 (encN_size default) (by decide) Tryz.sizeOf30 b o ids.length c (ids.flatMap encN) w (flat_len ids) (by unfold maxLen; omega) (by omega) (row_flat h) (by
   intro u hu
   obtain ⟨x,-,hx⟩:=List.mem_flatMap.1 hu
   exact encN_one x u hx)
  exact this.mono fun e w' ⟨v',h1,h2,_,h4⟩=>⟨v',h1,h2,h4⟩
theorem clone_nil (w:World):Calls Tryz.prog 125 #[.slice none 0 0] w fun e w'=>e = .returned (.slice none 0 0) ∧ w' = w:=AnyE.slices_Clone_nil Tryz.clnId 0 0 w
theorem sortf_nm (g cap:Nat) (ids:List Nm) (w:World) (h:RowN w g 0 ids) (hf:∀ i,i < ids.length * 32 → w.frozen? ⟨g,0 + i,none⟩ = false) (hg:g < w.heap.size) (hl:ids.length ≤ 1048576) :
  Calls Tryz.prog 126 #[.slice (some ⟨g,0,none⟩) ids.length cap,.func (.func 127) #[] #[]] w fun e w'=>e = .returned (.tuple #[]) ∧
   ∃ d:List Nm,d.Perm ids ∧ Ord d ∧ RowN w' g 0 d ∧ (∀ i,i < ids.length * 32 → w'.frozen? ⟨g,0 + i,none⟩ = false) ∧ w.grownBy w' (some g):=by
 have eg:∀ args w,(callFunc 127 args).run Tryz.prog w = .ok (.enter 127 args) w:=enters_of Tryz.func127 (by kernel_rfl) rfl
 have hH:=row_holds h hf
 have:=AnyQ.slices_SortFunc Tryz.srtId 32 Tryz.isAgg30 Tryz.sizeOf30 encN encN_len encN_one cmpN swoN 127 #[] g 0 cap ids.toArray w eg (fun _ _ _ _ x y=>compare_any x y _) hH hg (by simp; omega)
 refine this.mono ?_
 rintro e w' ⟨rfl,d',n,os,hp,hs,rfl⟩
 obtain ⟨hsz,-,hperm⟩:=hp
 rw [show ids.toArray.size = d'.size from hsz.symm,Array.extract_size,show d'.size = ids.toArray.size from hsz,Array.extract_size] at hperm
 have hlen:d'.toList.length = ids.length:=by simpa using hsz
 have hput:HoldsK encN 32 (putRowK encN 32 (Sort.ahead w n) g 0 d') g 0 d':=holdsK_putRowK encN 32 (Sort.ahead w n) g 0 ids.toArray d' (holdsK_ahead encN 32 w n g 0 _ hH) hsz
 have hgr:w.grownBy (sortWorldK encN 32 w g 0 n d' os) (some g):=by
  refine ⟨rfl,rfl,rfl,by simp [sortWorldK,putRowK],fun k hk hne=>?_⟩
  unfold sortWorldK putRowK
  rw [heap_grow_old _ _ (by simpa using hk)]
  have:g ≠ k:=fun e=>hne (by rw [e])
  simp [putRow,mapBlock,Sort.ahead,Array.getElem?_modify,this]
 have hgl:g < (putRowK encN 32 (Sort.ahead w n) g 0 d').heap.size:=by
  simpa [putRowK] using hg
 have hhold:HoldsK encN 32 (sortWorldK encN 32 w g 0 n d' os) g 0 d'.toList.toArray:=by
  rw [Array.toArray_toList]
  exact holdsK_grow encN 32 _ os g 0 d' hgl hput
 obtain ⟨hrow,hfz⟩:=holds_row hhold
 refine ⟨rfl,d'.toList,by simpa using hperm,fun i j hij hj=>?_,hrow,by rw [← hlen]; exact hfz,hgr⟩
 have:=hs i j (Nat.zero_le _) hij (by rw [← hsz]; simpa using hj)
 rw [ltOf_cmpN,decide_eq_false_iff_not] at this
 have e:∀ i,i < d'.toList.length → d'[i]! = d'.toList.getD i default:=fun i hi=>by
  have:=getI d'.toList i hi
  rwa [Array.toArray_toList] at this
 rwa [e i (by omega),e j hj] at this
theorem clone_zero (A:Option Addr) (c:Nat) (w:World) (h0:A = none → c = 0) :
  Calls Tryz.prog 125 #[.slice A 0 c] w fun e w'=>∃ A' c',e = .returned (.slice A' 0 c') ∧ (A' = none → c' = 0) ∧ c' ≤ maxLen ∧ (∀ j,inBlk A' j → w.heap.size ≤ j) ∧ Below w.heap.size w w':=by
 cases A with
 | none=>
  obtain rfl:=h0 rfl
  refine (clone_nil w).mono ?_
  rintro e w' ⟨rfl,rfl⟩
  exact ⟨none,0,rfl,fun _=>rfl,by unfold maxLen; omega,(fun j ⟨a,e,_⟩=>by cases e),Below.refl _ _⟩
 | some ad=>
  have q22:∀ (w:World) (a:Option Addr) (n c n' c':Nat),(binOp .eql 44 (.slice a n c) (.slice none n' c')).run Tryz.prog w = .ok (.bool a.isNone) w:=fun w a n c n' c'=>Lib.run_eql_slice_nil w _ _ a n c n' c' Tryz.underlying44
  go_enter Tryz.func125,Tryz.ntmps125
  go_wp2
  go_ret
  refine ⟨some ⟨w.heap.size,0,none⟩,0,rfl,fun _=>rfl,by unfold maxLen; omega,?_,(Below.refl _ w).alloc (Nat.le_refl _) _⟩
  rintro j ⟨a,e,rfl⟩
  injection e with e
  subst e
  exact Nat.le_refl _
theorem compact_small (A:Option Addr) (c:Nat) (w:World) :
  Calls Tryz.prog 128 #[.slice A 0 c] w fun e w'=>e = .returned (.slice A 0 c) ∧ w = w':=by
 go_enter Tryz.func128,Tryz.ntmps128
 go_wp2
 go_ret
 exact ⟨rfl,rfl⟩
theorem sort_nm (A:Option Addr) (c:Nat) (ids:List Nm) (w:World) (hA:ArgN w A c ids) (hl:ids.length ≤ 1048576) :
  Calls Tryz.prog 69 #[.slice A ids.length c] w fun e w'=>∃ A' c' s,e = .returned (.slice A' (List.length s) c') ∧ Rise s ∧ (∀ x,x ∈ s ↔ x ∈ ids) ∧ s.length ≤ ids.length ∧ ArgN w' A' c' s ∧ (∀ j,inBlk A' j → w.heap.size ≤ j) ∧ Below w.heap.size w w':=by
 by_cases h0:ids.length = 0
 ·obtain rfl:ids = []:=List.length_eq_zero_iff.1 h0
  have HC:=Hy (clone_zero A c w hA.2.2.1)
  have HCP:=Hy fun A c w=>compact_small A c w
  have HSN:Hid (∀ (p:Option Addr) (cap:Nat) (fv:Value) (w:World),Calls Tryz.prog 126 #[.slice p 0 cap,fv] w fun e w'=>e = .returned (.tuple #[]) ∧ w' = w):=fun p cap fv w=>AnyF.slices_SortFunc_none Tryz.srtId p cap fv w
  clear hA h0 hl
  go_enter Tryz.func69,Tryz.ntmps69
  go_wp2_with fail
  refine HC.out.mono ?_
  rintro e w1 ⟨A',c',rfl,hz,hm,hbl,hB⟩
  have HZ:=Hy hz
  have HM:=Hy hm
  have HBL:=Hy hbl
  have HB:=Hy hB
  clear hz hm hbl hB
  go_wp2_with fail
  refine (HSN.out _ _ _ _).mono ?_
  rintro e w2 ⟨rfl,rfl⟩
  go_wp2_with fail
  refine (HCP.out _ _ _).mono ?_
  rintro e w3 ⟨rfl,rfl⟩
  go_wp2
  go_ret
  exact ⟨A',c',[],rfl,List.Pairwise.nil,fun x=>Iff.rfl,Nat.le_refl _,⟨Nat.zero_le _,HM.out,HZ.out,fun h=>absurd h (Nat.lt_irrefl _)⟩,HBL.out,HB.out⟩
 ·obtain ⟨b,o,rfl,hr⟩:=hA.2.2.2 (by omega)
  have HCL:=Hy (clone_nm b o c ids w hr hl)
  have HL:=Hy hl
  clear hr hA hl
  go_enter Tryz.func69,Tryz.ntmps69
  go_wp2_with fail
  refine HCL.out.mono ?_
  rintro e w1 ⟨v1,rfl,hown,hB1⟩
  obtain ⟨g,c1,rfl,hg1,hg2,hc1,hc2,hrow,hfz⟩:=own_nm hown (by omega)
  have HB1:=Hy hB1
  have HS:=Hy (sortf_nm g c1 ids w1 hrow hfz hg2 HL.out)
  have HG:=Hy hg1
  have HC:=Hy (And.intro hc1 hc2)
  clear hown hB1 hrow hfz hg1 hg2 hc1 hc2 HCL
  go_wp2_with fail
  refine HS.out.mono ?_
  rintro e w2 ⟨rfl,d,hperm,hord,hrow,hfz,hgr⟩
  have hdl:d.length = ids.length:=hperm.length_eq
  have HCP:=Hy (compact_nm g c1 d w2 hrow (by rw [hdl]; exact hfz) (by rw [hdl]; exact HC.out.1) (by rw [hdl]; exact HL.out))
  have HB2:=Hy (be_grown HB1.out hgr HB1.out.size (fun j hj=>by injection hj with hj; rw [← hj]; exact HG.out))
  have HRI:=Hy (cptk_rise d hord d.length (Nat.le_refl _)).1
  have HME:Hid (∀ x,x ∈ cptk d d.length ↔ x ∈ ids):=by
   intro x
   rw [cptk_mem d d.length (Nat.le_refl _),List.take_length,hperm.mem_iff]
  have HLE:Hid ((cptk d d.length).length ≤ ids.length):=by
   show _ ≤ _
   rw [← hdl]
   exact cptk_len d _
  rw [hdl] at HCP HRI HME HLE
  clear hperm hord hrow hfz hgr hdl HS HB1
  generalize cptk d ids.length = s at *
  go_wp2_with fail
  refine HCP.out.mono ?_
  rintro e w3 ⟨rfl,hgr,hrow⟩
  have HB3:=Hy (be_grown HB2.out hgr HB2.out.size (fun j hj=>by injection hj with hj; rw [← hj]; exact HG.out))
  have HR:=Hy hrow
  clear hgr hrow HCP
  go_wp2
  go_ret
  refine ⟨some ⟨g,0,none⟩,c1,s,rfl,HRI.out,HME.out,HLE.out,⟨Nat.le_trans HLE.out HC.out.1,HC.out.2,(fun e=>by cases e),fun _=>⟨g,0,rfl,HR.out⟩⟩,?_,HB3.out⟩
  rintro j ⟨a,e,rfl⟩
  injection e with e
  subst e
  exact HG.out
end
end Go.Proofs.YtlfmooihcigolaaGreatDoor

/-
  Bld, TreP, DelA.
-/
import Derived.Lib.Builder
import Derived.Lib.AppendStr
import Derived.Lib.UnsafeStr
import Derived.Lib.OthersKept
import Derived.Test.YtlfmooihcigolaaGreatDoorMaa
import Derived.Test.YtlfmooihcigolaaGreatDoorMai
set_option maxRecDepth 100000
set_option maxHeartbeats 8000000
namespace Go.Proofs.YtlfmooihcigolaaGreatDoor
open Go.RowKit
abbrev BT:TypeId:=97
theorem bld_lies:liesAt Tryz.prog Tryz.prog.depth BT (2 / Tryz.prog.cellsOf BT) 0 BT 1 = true:=by kernel_rfl
theorem cchk_fresh (b:Nat) (w:World) (h0:w.cell? ⟨b,0,none⟩ = some (.pointer none)) (hsh:w.shape? b = some (BT,2)) (hz:w.frozen? ⟨b,0,none⟩ = false) :
  Calls Tryz.prog 96 #[.pointer (some ⟨b,0,none⟩)] w fun e w'=>e = .returned (.tuple #[]) ∧ w' = w.setCell ⟨b,0,none⟩ (.pointer (some ⟨b,0,none⟩)):=by
 obtain ⟨j,hj⟩:∃ j,Tryz.prog.info? BT = some j:=Option.isSome_iff_exists.1 (by kernel_rfl)
 have hjs:j.size ≠ 0:=by
  have:(Tryz.prog.info? BT).map (fun i=>decide (i.size ≠ 0)) = some true:=by kernel_rfl
  rw [hj] at this
  simpa using this
 have q1:=Lib.run_to_unsafe w (src:=95) (dst:=227) ⟨b,0,none⟩ Tryz.underlying95 Tryz.underlying227 hj hjs hsh (by show 0 < 2; decide)
 have q2:=Lib.run_from_unsafe w (src:=227) (dst:=95) ⟨b,0,none⟩ Tryz.underlying227 Tryz.underlying95 hj hsh bld_lies
 have q4:=fun W=>Lib.run_neq_ptr_same (P:=Tryz.prog) W (tp:=95) ⟨b,0,none⟩ Tryz.underlying95 hj
 have q3:(callFunc 158 #[.pointer (some ⟨b,0,none⟩)]).run Tryz.prog w = .ok (.value (.pointer (some ⟨b,0,none⟩))) w:=by
  rw [run_callFunc_extern Tryz.func158 (by kernel_rfl) (by kernel_rfl) (by kernel_rfl) (e:=Extern.AbiNoEscape.same) (by kernel_rfl),Lib.run_noEscape]
  rfl
 go_enter Tryz.func96,Tryz.ntmps96
 go_wp2
 go_end0
 exact ⟨rfl,rfl⟩
theorem cchk_used (b:Nat) (w:World) (h0:w.cell? ⟨b,0,none⟩ = some (.pointer (some ⟨b,0,none⟩))) :
  Calls Tryz.prog 96 #[.pointer (some ⟨b,0,none⟩)] w fun e w'=>e = .returned (.tuple #[]) ∧ w' = w:=by
 obtain ⟨j,hj⟩:∃ j,Tryz.prog.info? BT = some j:=Option.isSome_iff_exists.1 (by kernel_rfl)
 have q4:=fun W=>Lib.run_neq_ptr_same (P:=Tryz.prog) W (tp:=95) ⟨b,0,none⟩ Tryz.underlying95 hj
 go_enter Tryz.func96,Tryz.ntmps96
 go_wp2
 go_end0
 exact ⟨rfl,rfl⟩
abbrev Kp (b:Nat) (w w':World):Prop:=Lib.OthersKept 5 (some b) w w'
def Bd (w:World) (B b:Nat) (l:List UInt8):Prop:=Lib.IsBuilder BT 5 B b (l.map Y) w
def BdU (w:World) (B b:Nat) (l:List UInt8):Prop:=Lib.BuilderAt BT 5 B b (.pointer (some ⟨b,0,none⟩)) (l.map Y) w
theorem BdU.bd {w:World} {B b:Nat} {l:List UInt8} (h:BdU w B b l):Bd w B b l:=.inr h
theorem cchk_any (B b:Nat) (l:List UInt8) (w:World) (h:Bd w B b l) :
  Calls Tryz.prog 96 #[.pointer (some ⟨b,0,none⟩)] w fun e w'=>e = .returned (.tuple #[]) ∧ BdU w' B b l ∧ Below B w w' ∧ Kp b w w':=by
 rcases h with h | h
 ·refine (cchk_fresh b w h.cell0 h.shape h.frozen0).mono ?_
  rintro e w' ⟨rfl,rfl⟩
  exact ⟨rfl,h.used _,(Below.refl B w).setCell (p:=⟨b,0,none⟩) h.1 _,(Lib.OthersKept.refl _ _ w).setCell ⟨b,0,none⟩ rfl _⟩
 ·refine (cchk_used b w h.cell0).mono ?_
  rintro e w' ⟨rfl,rfl⟩
  exact ⟨rfl,h,Below.refl B _,Lib.OthersKept.refl _ _ _⟩
theorem BdU.parts {w:World} {B b:Nat} {l:List UInt8} (h:BdU w B b l):∃ v,B ≤ b ∧ b < w.heap.size ∧ w.heap[b]? = some (.cells #[.pointer (some ⟨b,0,none⟩),v] BT (0,0)) ∧ w.ownsRow B 5 1 v l.length (l.map Y) ∧ v.ownBlock ≠ some b ∧ w.cell? ⟨b,0,none⟩ = some (.pointer (some ⟨b,0,none⟩)) ∧ w.cell? ⟨b,1,none⟩ = some v:=by
 have hlt:=h.lt
 obtain ⟨hB,v,hbk,hown,hne⟩:=h
 rw [List.length_map] at hown
 exact ⟨v,hB,hlt,hbk,hown,hne,by rw [Lib.cell_of_heap hbk]; rfl,by rw [Lib.cell_of_heap hbk]; rfl⟩
theorem own_slice {w:World} {B:Nat} {e:TypeId} {v:Value} {n:Nat} {xs:List Value} (h:w.ownsRow B e 1 v n xs):∃ A c,v = .slice A n c:=by
 rcases h.2 with ⟨rfl,h0⟩ | ⟨g,cap,cur,hv,_⟩
 ·exact ⟨none,0,by rw [h0]⟩
 ·exact ⟨_,cap,hv⟩
theorem own_kind {w:World} {B:Nat} {e:TypeId} {v:Value} {n:Nat} {xs:List Value} (h:w.ownsRow B e 1 v n xs):∀ g,v.ownBlock = some g → ∃ c fz,w.heap[g]? = some (.cells c e fz):=by
 intro g hg
 rcases h.2 with ⟨rfl,_⟩ | ⟨g',cap,cur,rfl,_,hgg,_⟩
 ·simp [Value.ownBlock] at hg
 ·simp [Value.ownBlock] at hg
  subst hg
  exact ⟨cur,_,hgg⟩
theorem yb_one (l:List UInt8):∀ v ∈ l.map Y,v.oneCell' = true:=by
 intro v hv
 obtain ⟨_,_,rfl⟩:=List.mem_map.1 hv
 rfl
theorem infoY:(Tryz.prog.info? 5).map (fun i=>(i.zero,i.size,i.bytes)) = some (some (.int .u8 0),1,1):=by kernel_rfl
theorem bd_put {w1 w2:World} {B b:Nat} {v v':Value} {l m:List UInt8} (hB:B ≤ b) (hlt:b < w1.heap.size) (hbk:w1.heap[b]? = some (.cells #[.pointer (some ⟨b,0,none⟩),v] BT (0,0))) (hne:v.ownBlock ≠ some b)
  (hown:w2.ownsRow B 5 1 v' (l.length + m.length) (l.map Y ++ m.map Y)) (hgr:w1.grownBy w2 v.ownBlock) :
  w2.cell? ⟨b,0,none⟩ = some (.pointer (some ⟨b,0,none⟩)) ∧ w2.cell? ⟨b,1,none⟩ = some v ∧ w2.frozen? ⟨b,1,none⟩ = false ∧ BdU (w2.setCell ⟨b,1,none⟩ v') B b (l ++ m):=by
 have hb2:w2.heap[b]? = some (.cells #[.pointer (some ⟨b,0,none⟩),v] BT (0,0)):=by
  rw [hgr.block b hlt (fun e=>hne e.symm)]
  exact hbk
 refine ⟨by rw [Lib.cell_of_heap hb2]; rfl,by rw [Lib.cell_of_heap hb2]; rfl,Lib.frozen_of_heap hb2 1,?_⟩
 refine Lib.BuilderAt.put (T:=BT) (e:=5) hB hb2 (bs':=(l ++ m).map Y) ?_ (by decide)
 rw [List.length_map,List.length_append,List.map_append]
 exact hown
theorem wstr_any (B b:Nat) (l t:List UInt8) (w:World) (h:Bd w B b l) (hl:l.length + t.length ≤ 1099511627776) (hBw:B ≤ w.heap.size) :
  Calls Tryz.prog 52 #[.pointer (some ⟨b,0,none⟩),.string ⟨t.toArray⟩] w fun e w'=>e = .returned (.tuple #[.int .i64 (t.length:Int),.nilIface]) ∧ BdU w' B b (l ++ t) ∧ Below B w w' ∧ Kp b w w':=by
 obtain ⟨i0,hi,hz0,hz1,hz2⟩:=info_parts infoY
 have hts:(ByteArray.mk t.toArray).size = t.length:=by simp [ByteArray.size]
 have HSC:Hid (Lib.strCells (ByteArray.mk t.toArray) = t.map Y):=rfl
 have HC:=Hy (cchk_any B b l w h)
 clear h
 go_enter Tryz.func52,Tryz.ntmps52
 go_wp2_with fail
 refine HC.out.mono ?_
 rintro e w1 ⟨rfl,hb,hB1,hK1⟩
 obtain ⟨v,hB,hlt,hbk,hown,hne,c0,c1⟩:=hb.parts
 have hsz:=hB1.size
 have HB1:=Hy hB1
 clear hB1 hb
 go_wp2_with (at_builtin; go_loud (refine Lib.wpList_append_own_string _ rfl _ _ 63 9 rfl B 5 i0 Tryz.underlying63 Tryz.underlying9 hi hz0 hz1 hz2 _ _ _ rfl hown ⟨t.toArray⟩ rfl (by rw [hts]; unfold maxLen; omega) (by rw [hts]; omega) (by omega) ?_))
 intro v' w2 hown' hgr _
 rw [HSC.out] at hown'
 obtain ⟨d0,d1,f1,hbd⟩:=bd_put hB hlt hbk hne hown' hgr
 obtain ⟨A',c',rfl⟩:=own_slice hown'
 have HBD:=Hy hbd
 have HK2:=Hy ((hK1.grown hgr (own_kind hown)).setCell ⟨b,1,none⟩ rfl (.slice A' (l.length + t.length) c'))
 have HB2:=Hy ((HB1.out.grown hgr (by omega) (fun k hk=>(hown.lt k hk).1)).setCell (p:=⟨b,1,none⟩) hB (.slice A' (l.length + t.length) c'))
 clear hK1 hbd hown hown' hgr hbk hne HC
 go_wp2
 go_ret2
 exact ⟨rfl,HBD.out,HB2.out,HK2.out⟩
theorem wrow_any (B b:Nat) (l t:List UInt8) (ad:Addr) (c:Nat) (w:World) (h:Bd w B b l) (hl:l.length + t.length ≤ 1099511627776) (hBw:B ≤ w.heap.size)
  (hcl:∀ w1,Below B w w1 → Kp b w w1 → ∀ j u,(t.map Y)[j]? = some u → w1.cell? (ad.add j) = some u) :
  Calls Tryz.prog 104 #[.pointer (some ⟨b,0,none⟩),.slice (some ad) t.length c] w fun e w'=>e = .returned (.tuple #[.int .i64 (t.length:Int),.nilIface]) ∧ BdU w' B b (l ++ t) ∧ Below B w w' ∧ Kp b w w':=by
 obtain ⟨i0,hi,hz0,hz1,hz2⟩:=info_parts infoY
 have HC:=Hy (cchk_any B b l w h)
 have HCELL:=Hy hcl
 clear h hcl
 go_enter Tryz.func104,Tryz.ntmps104
 go_wp2_with fail
 refine HC.out.mono ?_
 rintro e w1 ⟨rfl,hb,hB1,hK1⟩
 obtain ⟨v,hB,hlt,hbk,hown,hne,c0,c1⟩:=hb.parts
 have hsz:=hB1.size
 have HB1:=Hy hB1
 have hcell:=HCELL.out w1 hB1 hK1
 clear hB1 hb
 go_wp2_with (at_builtin; go_loud (refine wpList_append_own_at _ rfl _ _ 63 rfl B 5 i0 (.int .u8 0) 1 1 Tryz.underlying63 hi hz0 hz1 hz2 rfl (by decide) _ _ _ rfl hown ad t.length c (t.map Y) rfl (by simp) hcell (yb_one t) (by unfold maxLen; omega) (by omega) (by omega) ?_))
 intro v' w2 hown' hgr _ _
 obtain ⟨d0,d1,f1,hbd⟩:=bd_put hB hlt hbk hne hown' hgr
 obtain ⟨A',c',rfl⟩:=own_slice hown'
 have HBD:=Hy hbd
 have HK2:=Hy ((hK1.grown hgr (own_kind hown)).setCell ⟨b,1,none⟩ rfl (.slice A' (l.length + t.length) c'))
 have HB2:=Hy ((HB1.out.grown hgr (by omega) (fun k hk=>(hown.lt k hk).1)).setCell (p:=⟨b,1,none⟩) hB (.slice A' (l.length + t.length) c'))
 clear hK1 hbd hown hown' hgr hbk hne HC hcell
 go_wp2
 go_ret2
 exact ⟨rfl,HBD.out,HB2.out,HK2.out⟩
theorem wbyte_any (B b:Nat) (l:List UInt8) (x:UInt8) (i:Int) (hx:i = (x.toNat:Int)) (w:World) (h:Bd w B b l) (hl:l.length + 1 ≤ 1099511627776) (hBw:B ≤ w.heap.size) :
  Calls Tryz.prog 135 #[.pointer (some ⟨b,0,none⟩),.int .u8 i] w fun e w'=>e = .returned .nilIface ∧ BdU w' B b (l ++ [x]) ∧ Below B w w' ∧ Kp b w w':=by
 subst hx
 obtain ⟨i0,hi,hz0,hz1,hz2⟩:=info_parts infoY
 have HC:=Hy (cchk_any B b l w h)
 clear h
 go_enter Tryz.func135,Tryz.ntmps135
 go_wp2_with fail
 refine HC.out.mono ?_
 rintro e w1 ⟨rfl,hb,hB1,hK1⟩
 obtain ⟨v,hB,hlt,hbk,hown,hne,c0,c1⟩:=hb.parts
 have hsz:=hB1.size
 have HB1:=Hy hB1
 clear hB1 hb
 have hcell:∀ j u,[Value.int .u8 (x.toNat:Int)][j]? = some u → (w1.alloc (.cells #[.int .u8 (x.toNat:Int)] 5)).cell? ((⟨w1.heap.size,0,none⟩:Addr).add j) = some u:=by
  intro j u hu
  have h:=(Whole.made w1 5 #[.int .u8 (x.toNat:Int)]).at_ j
  rw [Addr.add_mid,Nat.zero_add,h]
  simpa using hu
 go_wp2_with (at_builtin; go_loud (refine wpList_append_own_at _ rfl _ _ 63 rfl B 5 i0 (.int .u8 0) 1 1 Tryz.underlying63 hi hz0 hz1 hz2 rfl (by decide) _ _ _ rfl (hown.alloc _) ⟨w1.heap.size,0,none⟩ 1 1 [.int .u8 (x.toNat:Int)] rfl (by simp) hcell (yb_one [x]) (by unfold maxLen; omega) (by omega) (by simp; omega) ?_))
 intro v' w2 hown' hgr _ _
 have hbk2:(w1.alloc (.cells #[.int .u8 (x.toNat:Int)] 5)).heap[b]? = some (.cells #[.pointer (some ⟨b,0,none⟩),v] BT (0,0)):=by
  rw [Lib.alloc_old w1 _ b hlt]
  exact hbk
 obtain ⟨d0,d1,f1,hbd⟩:=bd_put (m:=[x]) hB (by simp; omega) hbk2 hne hown' hgr
 obtain ⟨A',c',rfl⟩:=own_slice hown'
 have HBD:=Hy hbd
 have HK2:=Hy (((hK1.alloc (.cells #[.int .u8 (x.toNat:Int)] 5)).grown hgr (own_kind (hown.alloc _))).setCell ⟨b,1,none⟩ rfl (.slice A' (l.length + 1) c'))
 have HB2:=Hy (((HB1.out.alloc (by omega) (.cells #[.int .u8 (x.toNat:Int)] 5)).grown hgr (by simp; omega) (fun k hk=>(hown.lt k hk).1)).setCell (p:=⟨b,1,none⟩) hB (.slice A' (l.length + 1) c'))
 clear hK1 hbd hown hown' hgr hbk hbk2 hne HC hcell
 go_wp2
 go_ret
 exact ⟨rfl,HBD.out,HB2.out,HK2.out⟩
theorem bstr_any (B b:Nat) (l:List UInt8) (w:World) (h:Bd w B b l) (hBw:B ≤ w.heap.size) :
  Calls Tryz.prog 53 #[.pointer (some ⟨b,0,none⟩)] w fun e w'=>e = .returned (.string ⟨l.toArray⟩) ∧ Below B w w':=Tryz.Builder_String_any B b l w h hBw
theorem bd_new (w:World):Bd (w.alloc (.cells #[.pointer none,.slice none 0 0] BT)) w.heap.size w.heap.size []:=by
 refine .inl ⟨Nat.le_refl _,.slice none 0 0,?_,World.ownsRow_nil _ _ _ _,by simp [Value.ownBlock]⟩
 show (w.heap.push _)[w.heap.size]? = _
 simp
def markOf (d:Bool):UInt8:=if d then 100 else 102
theorem mark_any (e:En) (w:World):Calls Tryz.prog 181 #[.agg (encE e).toArray] w fun r w'=>r = .returned (.int .u8 ((markOf e.dir).toNat:Int)) ∧ Below w.heap.size w w':=by
 have hd:=whole_dir (Whole.made w 156 (encE e).toArray)
 have HB:=Hy ((Below.refl w.heap.size w).alloc (Nat.le_refl _) (.cells (encE e).toArray 156))
 generalize (encE e).toArray = cs at *
 cases hed:e.dir with
 | true=>
  rw [hed] at hd
  clear hed
  go_enter Tryz.func181,Tryz.ntmps181
  go_wp2
  go_ret
  exact ⟨rfl,HB.out⟩
 | false=>
  rw [hed] at hd
  clear hed
  go_enter Tryz.func181,Tryz.ntmps181
  go_wp2
  go_ret
  exact ⟨rfl,HB.out⟩
theorem own_later' {w w':World} {B:Nat} {v:Value} {n:Nat} {xs:List Value} {e:TypeId} {k:Nat} (h:w.ownsRow B e k v n xs) (hb:Below w.heap.size w w'):w'.ownsRow B e k v n xs:=by
 refine ⟨h.1,?_⟩
 rcases h.2 with h0 | ⟨g,cap,cur,hv,hB,hg,rest⟩
 ·exact .inl h0
 ·exact .inr ⟨g,cap,cur,hv,hB,(hb.block g (Array.getElem?_eq_some_iff.1 hg).1).trans hg,rest⟩
theorem bat_later {w w':World} {B b:Nat} {p:Value} {bs:List Value} (h:Lib.BuilderAt BT 5 B b p bs w) (hb:Below w.heap.size w w'):Lib.BuilderAt BT 5 B b p bs w':=by
 have hlt:=h.lt
 obtain ⟨hB,v,hbk,hown,hne⟩:=h
 exact ⟨hB,v,(hb.block b hlt).trans hbk,own_later' hown hb,hne⟩
theorem Bd.later {w w':World} {B b:Nat} {l:List UInt8} (h:Bd w B b l) (hb:Below w.heap.size w w'):Bd w' B b l:=by
 rcases h with h | h
 ·exact .inl (bat_later h hb)
 ·exact .inr (bat_later h hb)
theorem Whole.kept {w w':World} {g b:Nat} {t:TypeId} {cs:Array Value} (hw:Whole w g t cs) (hk:Kp b w w') (hg:g ≠ b) (ht:t ≠ 5):Whole w' g t cs:=
 hk g _ hw (fun e=>hg (by injection e)) (fun c fz e=>ht (by injection e))
theorem encT_take (es:List En) (k:Nat) (h:k < es.length):encT (es.take (k + 1)) = encT (es.take k) ++ bytesE (es.getD k default):=by
 rw [List.take_succ_eq_append_getElem h,encT_snoc]
 simp [List.getD,List.getElem?_eq_getElem h]
theorem tput_any (A:Option Addr) (c:Nat) (es:List En) (w:World) (hA:ArgE w A c es) (hl:es.length ≤ 1048576) :
  Calls Tryz.prog 130 #[.slice A es.length c] w fun e w'=>e = .returned (.tuple #[.string ⟨(if mayT es then encT es else []).toArray⟩,.bool (mayT es)]) ∧ Below w.heap.size w w':=by
 have HM:=Hy (tmay_any A c es w hA hl)
 have HA:=Hy hA
 have hlc:=hA.1
 clear hA
 cases hm:mayT es with
 | false=>
  rw [hm] at HM
  clear hm
  go_enter Tryz.func130,Tryz.ntmps130
  go_wp2_with fail
  refine HM.out.mono ?_
  rintro e w1 ⟨rfl,hB⟩
  have HB:=Hy hB
  clear hB HM
  go_wp2
  go_ret2
  exact ⟨rfl,HB.out⟩
 | true=>
  have hlen:es.length ≤ 20:=by simp [mayT] at hm; exact hm.1
  have hnl:∀ k,k < es.length → (es.getD k default).name.length ≤ 20:=by
   intro k hk
   simp only [mayT,Bool.and_eq_true] at hm
   have:=risesTo_at es hm.2 hk
   simp only [okAt,okName,Bool.and_eq_true,decide_eq_true_eq] at this
   exact this.1.1.1.1.2
  have HNL:=Hy hnl
  rw [hm] at HM
  clear hm hnl
  have HEL:Hid (∀ k,k ≤ es.length → (encT (es.take k)).length ≤ k * 55):=by
   intro k
   induction k with
   | zero=>intro _; simp [encT]
   | succ k ih=>
    intro h
    rw [encT_take es k (by omega),List.length_append,bytesE_len]
    have:=ih (by omega)
    have:=HNL.out k (by omega)
    omega
  go_enter Tryz.func130,Tryz.ntmps130
  go_wp2_with fail
  refine HM.out.mono ?_
  rintro e w1 ⟨rfl,hB⟩
  have HB:=Hy hB
  clear hB HM
  have hsb:=HB.out.size
  obtain ⟨b,hb⟩:∃ b,b = w1.heap.size:=⟨_,rfl⟩
  have HBD0:Hid (Bd (w1.alloc (.cells #[.pointer none,.slice none 0 0] 97)) b b []):=by rw [hb]; exact bd_new w1
  have HB0:=Hy (HB.out.alloc HB.out.size (.cells #[.pointer none,.slice none 0 0] 97))
  have hs2:(w1.alloc (.cells #[.pointer none,.slice none 0 0] 97)).heap.size = b + 1:=by rw [hb]; simp
  rw [← hb] at hsb
  go_wp2
  rw [← hb]
  generalize w1.alloc (.cells #[.pointer none,.slice none 0 0] 97) = w2 at *
  clear hb HB
  go_loopg [6,12] es.length (fun g _ s12 wr=>∃ k:Nat,k ≤ es.length ∧ es.length - k ≤ g ∧ s12 = .int .i64 k ∧ Hid (Below w.heap.size w wr) ∧ b < wr.heap.size ∧ Hid (Bd wr b b (encT (es.take k))))
  case atStart=>exact ⟨0,Nat.zero_le _,by omega,rfl,HB0,by omega,HBD0⟩
  case round=>
   obtain ⟨k,hk,hg,rfl,hwr,hsz,hbd⟩:=hrel
   by_cases hlt:k < es.length
   ·have hlt':(k:Int) < (es.length:Int):=by omega
    obtain ⟨bb,o,rfl,hr⟩:=(HA.out.later hwr.out).2.2.2 (by omega)
    obtain ⟨y,hy⟩:∃ y,y = es.getD k default:=⟨_,rfl⟩
    have hrk:=hr k hlt
    rw [← hy] at hrk
    have HRK:=Hy hrk
    have HET:=Hy (encT_take es k hlt)
    have hle:=HEL.out k hk
    have hnl:=HNL.out k hlt
    rw [← hy] at HET hnl
    clear hr hrk hy
    generalize encT (es.take k) = pre at *
    go_wp2_with (first
     | (refine wpList_load_mid rfl 156 _ rfl bb (o + k * 34) rfl (encE y) _ HRK.out Tryz.underlying156 rfl (infoE_l y) ?_)
     | (refine wpList_store_whole rfl 156 _ _ rfl wr.heap.size (encE y).toArray rfl rfl 156 _ (Whole.made wr _ _) (infoE_s y) (by rw [encE_size]; kernel_rfl) (encE_all y) ?_; intro w3 hWn hGn; have HW3:=Hy hWn; have D3:=Hy (made_below' hGn); clear hWn hGn)
     | (refine wpList_load_row rfl 156 _ rfl wr.heap.size rfl 156 (encE y).toArray (0,0) _ HW3.out Tryz.underlying156 rfl (infoE_s y) ?_))
    refine (mark_any y _).mono ?_
    rintro e w4 ⟨rfl,hB4⟩
    have hgb:wr.heap.size ≠ b:=by omega
    have HBD4:=Hy ((hbd.out.later D3.out).later hB4)
    have HW4:=Hy (HW3.out.below hB4 HW3.out.lt)
    have HB4:=Hy (hwr.out.trans ((D3.out.trans (hB4.mono D3.out.size)).mono hwr.out.size))
    have hs4:b < w4.heap.size:=by have:=D3.out.size; have:=hB4.size; omega
    clear hB4
    go_wp2_with fail
    refine (wbyte_any b b pre (markOf y.dir) _ rfl w4 HBD4.out (by omega) (by omega)).mono ?_
    rintro e w5 ⟨rfl,hbd5,hB5,hK5⟩
    have HBD5:=Hy hbd5.bd
    have HW5:=Hy (HW4.out.kept hK5 hgb (by decide))
    have HB5:=Hy (HB4.out.trans (hB5.mono hsb))
    have hs5:b < w5.heap.size:=by have:=hB5.size; omega
    clear hB5 hbd5 hK5
    go_wp2_with fail
    refine (wbyte_any b b _ 32 _ rfl w5 HBD5.out (by simp; omega) (by omega)).mono ?_
    rintro e w6 ⟨rfl,hbd5,hB5,hK5⟩
    have HBD6:=Hy hbd5.bd
    have HW6:=Hy (HW5.out.kept hK5 hgb (by decide))
    have HB6:=Hy (HB5.out.trans (hB5.mono hsb))
    have hs6:b < w6.heap.size:=by have:=hB5.size; omega
    have hnm6:=whole_name HW6.out
    clear hB5 hbd5 hK5
    go_wp2_with fail
    refine (wstr_any b b _ y.name w6 HBD6.out (by simp; omega) (by omega)).mono ?_
    rintro e w7 ⟨rfl,hbd5,hB5,hK5⟩
    have HBD7:=Hy hbd5.bd
    have HW7:=Hy (HW6.out.kept hK5 hgb (by decide))
    have HB7:=Hy (HB6.out.trans (hB5.mono hsb))
    have hs7:b < w7.heap.size:=by have:=hB5.size; omega
    clear hB5 hbd5 hK5 hnm6
    go_wp2_with fail
    refine (wbyte_any b b _ 0 _ rfl w7 HBD7.out (by simp; omega) (by omega)).mono ?_
    rintro e w8 ⟨rfl,hbd5,hB5,hK5⟩
    have HBD8:=Hy hbd5.bd
    have HW8:=Hy (HW7.out.kept hK5 hgb (by decide))
    have HB8:=Hy (HB7.out.trans (hB5.mono hsb))
    have hs8:b < w8.heap.size:=by have:=hB5.size; omega
    clear hB5 hbd5 hK5
    have HWR:=Hy (wrow_any b b _ y.id.l ⟨wr.heap.size,2,none⟩ 32 w8 HBD8.out (by have:=y.id.h; simp; omega) (by omega) (by
     intro w9 _ hK9 j u hu
     have h9:=(HW8.out.kept hK9 hgb (by decide)).at_ (2 + j)
     rw [Addr.add_mid,h9,List.getElem?_toArray]
     rw [show (2 + j) = j + 1 + 1 by omega]
     exact hu))
    rw [y.id.h] at HWR
    go_wp2_with fail
    refine HWR.out.mono ?_
    rintro e w9 ⟨rfl,hbd5,hB5,hK5⟩
    have HB9:=Hy (HB8.out.trans (hB5.mono hsb))
    have hs9:b < w9.heap.size:=by have:=hB5.size; omega
    have HBD9:Hid (Bd w9 b b (encT (es.take (k + 1)))):=by
     show Bd _ _ _ _
     rw [HET.out]
     have h9:=hbd5.bd
     have e9:pre ++ [markOf y.dir] ++ [32] ++ y.name ++ [0] ++ y.id.l = pre ++ bytesE y:=by simp [bytesE,markOf]
     rw [e9] at h9
     exact h9
    clear hB5 hbd5 hK5 HWR
    go_wp2
    go_roundg (es.length - (k + 1))
    case measure=>omega
    case rel=>exact ⟨k + 1,by omega,Nat.le_refl _,by go_num,HB9,hs9,HBD9⟩
   ·obtain rfl:k = es.length:=by omega
    rw [List.take_length] at hbd
    go_wp2_with fail
    refine (bstr_any b b (encT es) wr hbd.out (by omega)).mono ?_
    rintro e w9 ⟨rfl,hB9⟩
    have HB9:=Hy (hwr.out.trans (hB9.mono hsb))
    clear hB9
    go_wp2
    go_ret2
    exact ⟨rfl,HB9.out⟩
def encK (c:Ct):List Value:=[.string ⟨c.ins.toArray⟩,.int .i64 c.frm,.int .i64 c.len]
theorem eltK:Elt 72 91 3 encK default where
 len:=fun _=>rfl
 one:=by
  intro x v hv
  simp only [encK,List.mem_cons,List.not_mem_nil,or_false] at hv
  rcases hv with rfl | rfl | rfl <;> rfl
 pos:=by decide
 small:=by decide
 und:=Tryz.underlying91
 info:=by
  have h:(Tryz.prog.info? 72).map (fun i=>(i.zero,i.size,decide (i.bytes ≤ 4096))) = some (some (.agg (encK default).toArray),3,true):=by kernel_rfl
  cases hq:Tryz.prog.info? 72 with
  | none=>rw [hq] at h; cases h
  | some i=>
   rw [hq] at h
   simp only [Option.map_some,Option.some.injEq,Prod.mk.injEq] at h
   exact ⟨i,rfl,h.1,h.2.1,of_decide_eq_true h.2.2⟩
 szo:=Tryz.sizeOf72
 zero:=fun w=>by kernel_rfl
theorem infoK (c:Ct):(Tryz.prog.info? 72).map (·.size) = some (encK c).length:=by kernel_rfl
theorem infoK_s (c:Ct):(Tryz.prog.info? 72).map (·.size) = some (encK c).toArray.size:=by kernel_rfl
theorem encK_all (c:Ct):(encK c).toArray.all (·.oneCell') = true:=all_oneCell_toArray (eltK.one c)
theorem kbox (c:Ct) (w:World):Whole (w.alloc (.cells (encK c).toArray 72)) w.heap.size 72 (encK c).toArray ∧ Below w.heap.size w (w.alloc (.cells (encK c).toArray 72)):=
 ⟨Whole.made w _ _,(Below.refl _ _).alloc (Nat.le_refl _) _⟩
theorem dmakes_any (c:Ct) (w:World) (hi:c.ins.length ≤ 1000000) (hl:c.len ≤ 1000000):Calls Tryz.prog 80 #[.agg (encK c).toArray] w fun e w'=>e = .returned (.int .i64 (mkC c:Int)) ∧ Below w.heap.size w w':=by
 obtain ⟨hW,hB⟩:=kbox c w
 have e0:=(hW.at_ 0).trans (show (encK c).toArray[0]? = some (.string ⟨c.ins.toArray⟩) from rfl)
 have e2:=(hW.at_ 2).trans (show (encK c).toArray[2]? = some (.int .i64 c.len) from rfl)
 have HB:=Hy hB
 have HM:Hid ((mkC c:Int) = (c.ins.length:Int) + (c.len:Int)):=by show _ = _; unfold mkC; norm_cast
 clear hW hB
 generalize (encK c).toArray = cs at *
 go_enter Tryz.func80,Tryz.ntmps80
 go_wp2
 go_ret
 exact ⟨by rw [HM.out]; rfl,HB.out⟩
theorem dmay_any (base:Nat) (c:Ct) (w:World) (h:okC base c) (hb:base ≤ 1000000):Calls Tryz.prog 79 #[.agg (encK c).toArray,.int .i64 (base:Int)] w fun e w'=>e = .returned (.bool true) ∧ Below w.heap.size w w':=by
 obtain ⟨hW,hB⟩:=kbox c w
 have e0:=(hW.at_ 0).trans (show (encK c).toArray[0]? = some (.string ⟨c.ins.toArray⟩) from rfl)
 have e1:=(hW.at_ 1).trans (show (encK c).toArray[1]? = some (.int .i64 c.frm) from rfl)
 have e2:=(hW.at_ 2).trans (show (encK c).toArray[2]? = some (.int .i64 c.len) from rfl)
 have HB:=Hy hB
 clear hW hB
 generalize (encK c).toArray = cs at *
 rcases h with ⟨h1,h2,h3,h4⟩ | ⟨h1,h2,h3,h4,h5⟩
 ·rw [h1] at e2
  rw [h2] at e1
  have k1:decide ((1:Int) ≤ (c.ins.length:Int)) = true:=decide_eq_true (by omega)
  have k2:decide ((c.ins.length:Int) ≤ 100) = true:=decide_eq_true (by omega)
  clear h1 h2 h3 h4
  go_enter Tryz.func79,Tryz.ntmps79
  go_wp2
  go_ret
  exact ⟨rfl,HB.out⟩
 ·rw [h1] at e0
  have k0:((c.len:Int) == 0) = false:=by simp; omega
  have k2:decide ((c.frm:Int) ≤ 100000) = true:=decide_eq_true (by omega)
  have k3:decide ((1:Int) ≤ (c.len:Int)) = true:=decide_eq_true (by omega)
  have k4:decide ((c.len:Int) ≤ 100000) = true:=decide_eq_true (by omega)
  have k5:decide ((c.frm:Int) + (c.len:Int) ≤ (base:Int)) = true:=decide_eq_true (by omega)
  go_enter Tryz.func79,Tryz.ntmps79
  go_wp2
  go_ret
  exact ⟨rfl,HB.out⟩
theorem dputcut_any (base:Nat) (c:Ct) (B b:Nat) (l:List UInt8) (w:World) (h:okC base c) (hl:l.length ≤ 1000000000) (hbd:Bd w B b l) (hB:B ≤ w.heap.size) (hbl:b < w.heap.size) :
  Calls Tryz.prog 81 #[.pointer (some ⟨b,0,none⟩),.agg (encK c).toArray] w fun e w'=>e = .returned (.tuple #[]) ∧ Bd w' B b (l ++ bytesK c) ∧ Below B w w':=by
 obtain ⟨hW,hBx⟩:=kbox c w
 have HW:=Hy hW
 have HB:=Hy (hBx.mono hB)
 have HD:=Hy (hbd.later hBx)
 have hs1:B ≤ (w.alloc (.cells (encK c).toArray 72)).heap.size:=by simp; omega
 have hwlt:=hW.lt
 have K0:Hid ((encK c).toArray[0]? = some (.string ⟨c.ins.toArray⟩)):=rfl
 have K1:Hid ((encK c).toArray[1]? = some (.int .i64 c.frm)):=rfl
 have K2:Hid ((encK c).toArray[2]? = some (.int .i64 c.len)):=rfl
 clear hW hBx hbd
 generalize (encK c).toArray = cs at *
 generalize hw1:w.alloc (.cells cs 72) = w1 at *
 have hgb:w.heap.size ≠ b:=by omega
 rcases h with ⟨h1,h2,h3,h4⟩ | ⟨h1,h2,h3,h4,h5⟩
 ·have HBK:=Hy (bytesK_ins h1)
  have K2':=K2.out
  rw [h1] at K2'
  have e0:=(HW.out.at_ 0).trans K0.out
  have e2:=(HW.out.at_ 2).trans K2'
  have hc8:(c.ins.length:Int) % 256 = (c.ins.length:Int):=by omega
  have hx:(c.ins.length:Int) = ((UInt8.ofNat c.ins.length).toNat:Int):=by rw [UInt8.toNat_ofNat',Nat.mod_eq_of_lt (by omega)]
  have HWB:=Hy (wbyte_any B b l (UInt8.ofNat c.ins.length) (c.ins.length:Int) hx w1 HD.out (by omega) hs1)
  clear h1 h2 K2' hx
  go_enter Tryz.func81,Tryz.ntmps81
  go_wp2_with fail
  refine HWB.out.mono ?_
  rintro e w2 ⟨rfl,hbd2,hB2,hK2⟩
  have HD2:=Hy hbd2.bd
  have f0:=((HW.out.kept hK2 hgb (by decide)).at_ 0).trans K0.out
  have HB2:=Hy (HB.out.trans hB2)
  have hs2:=hB2.size
  clear hbd2 hB2 hK2
  go_wp2_with fail
  refine (wstr_any B b (l ++ [UInt8.ofNat c.ins.length]) c.ins w2 HD2.out (by simp; omega) (by omega)).mono ?_
  rintro e w3 ⟨rfl,hbd3,hB3,hK3⟩
  have HD3:=Hy hbd3.bd
  have HB3:=Hy (HB2.out.trans hB3)
  clear hbd3 hB3 hK3
  go_wp2
  refine bodyPost_ret (results_none rfl _ _ _) rfl ⟨rfl,?_,HB3.out⟩
  rw [HBK.out]
  have:=HD3.out
  rwa [List.append_assoc] at this
 ·have HBK:=Hy (bytesK_copy (show c.len ≠ 0 by omega))
  have e1:=(HW.out.at_ 1).trans K1.out
  have e2:=(HW.out.at_ 2).trans K2.out
  have k0:((c.len:Int) == 0) = false:=by simp; omega
  have HP1:=Hy fun W=>vput_any c.frm (by omega) W
  have HP2:=Hy fun W=>vput_any c.len (by omega) W
  have hl1:=numV_le c.frm (by omega)
  have hl2:=numV_le c.len (by omega)
  go_enter Tryz.func81,Tryz.ntmps81
  go_wp2_with fail
  refine (HP1.out _).mono ?_
  rintro e w2 ⟨rfl,hb2⟩
  have HB2:=Hy (HB.out.trans (hb2.mono hs1))
  have HD2:=Hy (HD.out.later hb2)
  have HW2:=Hy (HW.out.below hb2 HW.out.lt)
  have f2:=(HW2.out.at_ 2).trans K2.out
  have hs2:=hb2.size
  clear hb2
  go_wp2_with fail
  refine (HP2.out _).mono ?_
  rintro e w3 ⟨rfl,hb3⟩
  have HB3:=Hy (HB2.out.trans (hb3.mono (by omega)))
  have HD3:=Hy (HD2.out.later hb3)
  have hs3:=hb3.size
  clear hb3
  go_wp2_with fail
  refine (wbyte_any B b l 128 128 rfl w3 HD3.out (by omega) (by omega)).mono ?_
  rintro e w4 ⟨rfl,hbd4,hB4,hK4⟩
  have HD4:=Hy hbd4.bd
  have HB4:=Hy (HB3.out.trans hB4)
  have hs4:=hB4.size
  clear hbd4 hB4 hK4
  go_wp2_with fail
  refine (wstr_any B b (l ++ [128]) (numV c.frm) w4 HD4.out (by simp; omega) (by omega)).mono ?_
  rintro e w5 ⟨rfl,hbd5,hB5,hK5⟩
  have HD5:=Hy hbd5.bd
  have HB5:=Hy (HB4.out.trans hB5)
  have hs5:=hB5.size
  clear hbd5 hB5 hK5
  go_wp2_with fail
  refine (wstr_any B b (l ++ [128] ++ numV c.frm) (numV c.len) w5 HD5.out (by simp; omega) (by omega)).mono ?_
  rintro e w6 ⟨rfl,hbd6,hB6,hK6⟩
  have HD6:=Hy hbd6.bd
  have HB6:=Hy (HB5.out.trans hB6)
  clear hbd6 hB6 hK6
  go_wp2
  go_end0
  refine ⟨rfl,?_,HB6.out⟩
  rw [HBK.out]
  have:=HD6.out
  rwa [List.append_assoc,List.append_assoc] at this
end Go.Proofs.YtlfmooihcigolaaGreatDoor

/-
  Mid, MapN, TreM, VarM, DelM.
-/
import Derived.Test.YtlfmooihcigolaaGreatDoorMab
import Derived.Maps.OwnSet
import Derived.WideKeyEntry
import Derived.DeepKeys4
import Derived.DataBytes
set_option maxRecDepth 100000
set_option maxHeartbeats 8000000
namespace Go.Proofs.YtlfmooihcigolaaGreatDoor
section
open Go.RowKit
def encN (x:Nm):List Value:=x.l.map Y
theorem encN_len (x:Nm):(encN x).length = 32:=by rw [encN,List.length_map,x.h]
theorem encN_one (x:Nm):∀ v ∈ encN x,v.oneCell' = true:=by
 intro v hv
 obtain ⟨_,_,rfl⟩:=List.mem_map.1 hv
 rfl
theorem encN_size (x:Nm):(encN x).toArray.size = 32:=by rw [List.size_toArray,encN_len]
theorem encN_all (x:Nm):(encN x).toArray.all (·.oneCell') = true:=all_oneCell_toArray (encN_one x)
theorem infoN:(Tryz.prog.info? 30).map (·.size) = some 32:=by kernel_rfl
theorem eql_nm (x y:Nm) (w:World):(binOp .eql 30 (.agg (encN x).toArray) (.agg (encN y).toArray)).run Tryz.prog w = .ok (.bool (decide (x = y))) w:=by
 have h:=eql_bytes 30 32 Tryz.underlying30 x.l y.l x.h y.h w
 rw [show decide (x.l = y.l) = decide (x = y) from decide_eq_decide.2 ⟨Nm.same,fun e=>by rw [e]⟩] at h
 exact h
theorem neq_nm (x y:Nm) (w:World):(binOp .neq 30 (.agg (encN x).toArray) (.agg (encN y).toArray)).run Tryz.prog w = .ok (.bool (!decide (x = y))) w:=by
 have h:=neq_bytes 30 32 Tryz.underlying30 x.l y.l x.h y.h w
 rw [show decide (x.l = y.l) = decide (x = y) from decide_eq_decide.2 ⟨Nm.same,fun e=>by rw [e]⟩] at h
 exact h
def RowN (w:World) (b o:Nat) (ids:List Nm):Prop:=∀ i,i < ids.length → w.rangeAt b (o + i * 32) (encN (ids.getD i default))
section
variable {w w' : World} {b o B : Nat} {ids : List Nm} {R : Nat → Prop}
theorem RowN.lt (h:RowN w b o ids) (h0:0 < ids.length):b < w.heap.size:=by
 have hl:=encN_len (ids.getD 0 default)
 have:=h 0 h0 0 _ (List.getElem?_eq_getElem (show 0 < (encN (ids.getD 0 default)).length by omega))
 have:=World.block_lt_of_cell? w _ this
 exact this
theorem RowN.below (h:RowN w b o ids) (hb:Below B w w') (hB:b < B):RowN w' b o ids:=fun i hi j v hv=>(hb.cell hB).trans (h i hi j v hv)
theorem RowN.take (h:RowN w b o ids) (n:Nat):RowN w b o (ids.take n):=fun i hi=>by
 rw [List.length_take] at hi
 have e:(ids.take n).getD i default = ids.getD i default:=by
  rw [List.getD_eq_getElem?_getD,List.getD_eq_getElem?_getD,List.getElem?_take_of_lt (by omega)]
 rw [e]
 exact h i (by omega)
end
def inBlk (A:Option Addr) (j:Nat):Prop:=∃ a,A = some a ∧ a.block = j
def ArgN (w:World) (A:Option Addr) (c:Nat) (ids:List Nm):Prop:=
 ids.length ≤ c ∧ c ≤ maxLen ∧ (A = none → c = 0) ∧ (0 < ids.length → ∃ b o,A = some ⟨b,o,none⟩ ∧ RowN w b o ids)
theorem ArgN.nil {w:World} {c:Nat} {ids:List Nm} (h:ArgN w none c ids):c = 0 ∧ ids = []:=by
 have h0:=h.2.2.1 rfl
 have h1:=h.1
 exact ⟨h0,List.length_eq_zero_iff.1 (by omega)⟩
theorem ArgN.below {w w':World} {A:Option Addr} {c:Nat} {ids:List Nm} {B:Nat} (h:ArgN w A c ids) (hb:Below B w w') (hB:∀ b,inBlk A b → 0 < ids.length → b < B):ArgN w' A c ids:=by
 obtain ⟨h1,h2,h3,h4⟩:=h
 refine ⟨h1,h2,h3,fun h0=>?_⟩
 obtain ⟨b,o,e,hr⟩:=h4 h0
 exact ⟨b,o,e,hr.below hb (hB b ⟨_,e,rfl⟩ h0)⟩
theorem ArgN.lt {w:World} {A:Option Addr} {c:Nat} {ids:List Nm} (h:ArgN w A c ids) {b:Nat} (hb:inBlk A b) (h0:0 < ids.length):b < w.heap.size:=by
 obtain ⟨b',o,e,hr⟩:=h.2.2.2 h0
 obtain ⟨a,rfl,rfl⟩:=hb
 injection e with e
 subst e
 exact hr.lt h0
theorem ArgN.later {w w':World} {A:Option Addr} {c:Nat} {ids:List Nm} (h:ArgN w A c ids) (hb:Below w.heap.size w w'):ArgN w' A c ids:=h.below hb fun _ hj h0=>h.lt hj h0
theorem ArgN.take {w:World} {A:Option Addr} {c:Nat} {ids:List Nm} (h:ArgN w A c ids) (n:Nat):ArgN w A c (ids.take n):=by
 obtain ⟨h1,h2,h3,h4⟩:=h
 refine ⟨by rw [List.length_take]; omega,h2,h3,fun h0=>?_⟩
 rw [List.length_take] at h0
 obtain ⟨b,o,e,hr⟩:=h4 (by omega)
 exact ⟨b,o,e,hr.take n⟩
theorem q_loadm {P:Program} {ops:Array Oper} {C:World → Prop} {Q:Act → Prop} {a:Act} {o:Oper} {rest:List Oper} (ty:TypeId) (x:Operand) (ho:o.op = .load ty x) (hw:Region.wanted o (yielded ops a.tmps) = true) (b off:Nat) (cs:List Value)
  (hx:a.eval x = .pointer (some ⟨b,off,none⟩)) (d:TypeDesc) (hu:P.underlying ty = some d) (hd:d.isRow = true) (hi:(P.info? ty).map (·.size) = some cs.length) (hS:∀ w,C w → w.rangeAt b off cs)
  (hk:wpQuiet P ops C Q rest (a.put o.dst (.agg cs.toArray))):wpQuiet P ops C Q (o :: rest) a:=by
 have hy:=yieldsIf_load_mid (P:=P) (S:=C) hw ty x ho b off hx cs d hS hu hd hi
 rcases hy with ⟨-,h⟩ | ⟨h,-⟩
 ·refine BigFrame.wpQuiet_want hw fun K hK=>⟨.agg cs.toArray,fun w hc=>?_,hK _ hk⟩
  unfold Oper.quietAt
  rw [h w hc]
  exact ⟨rfl,by simp⟩
 ·rw [hw] at h
  cases h
end
section
open Go.RowKit
open Go.WideElems (Fit rd rg pl)
open Go.ChangeMaps Go.MapKept
theorem laidOut':laidOutB Tryz.prog = true:=by kernel_rfl
theorem nm_row:(30:TypeId) < Tryz.prog.types.size:=of_decide_eq_true (by kernel_rfl)
theorem nm_wide:(match Tryz.prog.underlying 30 with | some (.array _ _) | some (.struct _)=>true | _=>false) = true:=by rw [Tryz.underlying30]
theorem nm_kt:Tryz.prog.keyTypeAt 2 30 = true:=by kernel_rfl
theorem nm_law:WideMaps.KeyLaw Tryz.prog 30:=deep_law_laid laidOut' (m:=2) (by decide) nm_row nm_kt nm_wide
theorem nm_keyed:Maps.Keyed Tryz.prog 30:=Maps.Keyed.of_law nm_law
theorem nm_ktype:Tryz.prog.keyType 30 = true:=by kernel_rfl
theorem succ_ex {n m:Nat} (h:n < m):∃ d,m = d + 1:=⟨m - 1,by omega⟩
theorem nm_cells:Tryz.prog.cellsOf 30 = 32 ∧ Tryz.prog.cellsOf 5 = 1:=⟨by kernel_rfl,by kernel_rfl⟩
theorem nm_lits (x:Nm):∃ ls,Tryz.prog.keyLits (Tryz.prog.types.size + 1) 30 (encN x) = some ls:=by
 obtain ⟨n,hn⟩:=succ_ex nm_row
 rw [hn]
 clear hn
 unfold Program.keyLits
 simp only [Tryz.underlying30]
 rw [if_pos (by rw [encN_len,nm_cells.1]),nm_cells.2]
 rw [mapM_some_of_forall (g:=fun i=>[Lit.int .u8 ((x.l.getD i 0).toNat:Int)]) _ (fun i hi=>?_)]
 ·exact ⟨_,rfl⟩
 ·have hi':=List.mem_range.1 hi
  have hx:i < x.l.length:=by rw [x.h]; exact hi'
  have e:((encN x).drop (i * 1)).take 1 = [.int .u8 ((x.l.getD i 0).toNat:Int)]:=by
   rw [Nat.mul_one,List.drop_eq_getElem_cons (by rw [encN_len]; exact hi'),List.take_succ_cons,List.take_zero]
   simp [encN,Y,List.getD,List.getElem?_eq_getElem hx]
  rw [e]
  unfold Program.keyLits
  simp only [Tryz.underlying5]
  have hb:=(x.l.getD i 0).toNat_lt
  have hwf:(Lit.int .u8 ((x.l.getD i 0).toNat:Int)).wf = true:=by
   unfold Lit.wf
   simp only [Bool.and_eq_true,decide_eq_true_eq]
   refine ⟨?_,?_⟩
   ·show (0:Int) ≤ _; omega
   ·show _ ≤ (255:Int); omega
  rw [if_pos ⟨trivial,hwf⟩]
theorem nm_formed (x:Nm):(Value.agg (encN x).toArray).formed Tryz.prog 30 = true:=by
 unfold Value.formed
 simp only [Tryz.underlying30]
 rw [encN_size,nm_cells.1]
 rfl
theorem key_some (x:Nm):∃ l,keyOf Tryz.prog 30 (.agg (encN x).toArray) = some l:=by
 obtain ⟨ls,h⟩:=nm_lits x
 refine ⟨.string (keyBytes ls),?_⟩
 unfold keyOf
 simp only [Tryz.underlying30]
 rw [nm_ktype,nm_formed,Bool.and_self,if_pos rfl]
 have e:(Value.agg (encN x).toArray).cells.toList = encN x:=rfl
 rw [e,h,Option.map_some]
noncomputable def klN (x:Nm):Lit:=Classical.choose (key_some x)
theorem klN_key (x:Nm):keyOf Tryz.prog 30 (.agg (encN x).toArray) = some (klN x):=Classical.choose_spec (key_some x)
theorem encN_inj {x y:Nm} (h:encN x = encN y):x = y:=by
 apply Nm.same
 unfold encN at h
 refine (List.map_inj_right (fun a b hab=>?_)).1 h
 unfold Y at hab
 injection hab with _ hab
 exact UInt8.toNat_inj.1 (by omega)
theorem klN_inj {x y:Nm} (h:klN x = klN y):x = y:=by
 have h2:=klN_key y
 rw [← h] at h2
 have h1:=nm_keyed.inj (klN_key x) h2
 have h3:(encN x).toArray = (encN y).toArray:=congrArg Value.cells h1
 exact encN_inj (congrArg Array.toList h3)
def rawR (v:Value):Option (DataW Value × List MemPlace):=some (.held v,[])
def nilS:Value:=.slice none 0 0
def OwnMap (w:World) (b n:Nat) (V:Nm → Value):Prop:=∃ D:DataW Value,w.ownsMap Tryz.prog 30 rawR b n D ∧ ∀ x,D.atKey (klN x) (.held nilS) = .held (V x)
theorem zeroS (w:World):(zeroValue 59).run Tryz.prog w = .ok nilS w:=by kernel_rfl
section
variable {w w' : World} {b n : Nat} {V : Nm → Value}
theorem OwnMap.made (w:World):OwnMap (w.alloc (.map #[] 0)) w.heap.size 0 (fun _=>nilS):=⟨.map [],World.ownsMap_made _ _ _ _,fun _=>rfl⟩
theorem OwnMap.lt (h:OwnMap w b n V):b < w.heap.size:=by obtain ⟨D,h,-⟩:=h; exact h.lt
theorem OwnMap.grown {row:Option Nat} (h:OwnMap w b n V) (hg:w.grownBy w' row) (hne:some b ≠ row):OwnMap w' b n V:=by
 obtain ⟨D,h,hv⟩:=h
 exact ⟨D,h.kept hg hne,hv⟩
theorem OwnMap.same (h:OwnMap w b n V) (he:w'.heap[b]? = w.heap[b]?):OwnMap w' b n V:=by
 obtain ⟨D,⟨es,clock,hb,F,hs,hD⟩,hv⟩:=h
 exact ⟨D,⟨es,clock,he.trans hb,F,hs,hD⟩,hv⟩
theorem OwnMap.look (h:OwnMap w b n V) (x:Nm):(Instr.lookup 113 (.map (some b)) (.agg (encN x).toArray) false).run Tryz.prog w = .ok (V x) w:=by
 obtain ⟨D,h,hv⟩:=h
 obtain ⟨v,ps,hrun,hR⟩:=h.lookup nm_keyed Tryz.underlying113 (zeroS w) (zd:=.held nilS) (zp:=[]) rfl (klN_key x)
 unfold rawR at hR
 simp only [Option.some.injEq,Prod.mk.injEq] at hR
 rw [hv x] at hR
 have:v = V x:=by injection hR.1
 rw [← this]
 exact hrun
theorem OwnMap.del (h:OwnMap w b n V) (x:Nm) (ty:TypeId):∃ w',(Builtin.delete_ #[113,30] ty #[.map (some b),.agg (encN x).toArray]).run Tryz.prog w = .ok (.tuple #[]) w' ∧ OwnMap w' b n (fun y=>if y = x then nilS else V y) ∧ w.grownBy w' (some b):=by
 obtain ⟨D,h,hv⟩:=h
 obtain ⟨w',hrun,ho,ht⟩:=h.drop nm_keyed Tryz.underlying113 (klN_key x) ty
 refine ⟨w',hrun,⟨_,ho,fun y=>?_⟩,ht.grown⟩
 show _ = DataW.held (if y = x then nilS else V y)
 by_cases hy:y = x
 ·subst hy
  rw [if_pos rfl,Maps.atKey_del_same]
 ·rw [if_neg hy,Maps.atKey_del_other (fun e=>hy (klN_inj e)),hv]
theorem OwnMap.entry (h:OwnMap w b n V) (x:Nm) (hn:n < maxLen):∃ st w1,(Instr.mapEntry 113 (.map (some b)) (.agg (encN x).toArray)).run Tryz.prog w = .ok (.tuple #[V x,st]) w1 ∧ w.grownBy w1 (some b) ∧ w1.heap.size = w.heap.size ∧
  ∀ (w2:World) (val:Value),w2.heap[b]? = w1.heap[b]? → ∃ w3,(Instr.entryStore 113 (.map (some b)) st val).run Tryz.prog w2 = .ok () w3 ∧ w2.grownBy w3 (some b) ∧ w3.heap.size = w2.heap.size ∧ OwnMap w3 b (n + 1) (fun y=>if y = x then val else V y):=by
 have hlk:=h.look x
 obtain ⟨D,h,hv⟩:=h
 have hup:=fun val=>h.update nm_keyed Tryz.underlying113 hn (val:=val) (d:=.held val) (ps:=[]) (klN_key x) rfl
 have hM:=h.isMap
 obtain ⟨es,clock,hb,F,hs,hD⟩:=h
 obtain ⟨v0,st,es1,clock1,hrun,hv0,hst⟩:=WideElems.entry_then_store nm_law Tryz.underlying113 (fun u=>zeroS u) hb F (klN_key x)
 have hv0':v0 = V x:=by
  rcases Maps.fit_look false nm_keyed Tryz.underlying113 (zeroS w) hb F (klN_key x) with ⟨h1,h2,-⟩ | ⟨e1,y,h1,h2,h3,-⟩
  ·have h9:=hlk.symm.trans h1
   rcases hv0 with ⟨e0,h4,h5,-⟩ | ⟨-,h4⟩
   ·exact absurd h5 (h2 e0 h4)
   ·rw [h4]
    simp only [Result.ok.injEq,Bool.false_eq_true,if_false,and_true] at h9
    exact h9.symm
  ·have h9:=hlk.symm.trans h3
   rcases hv0 with ⟨e0,h4,h5,h6⟩ | ⟨h4,-⟩
   ·have hnd:es.toList.Pairwise (fun x y=>x.key ≠ y.key):=((stamped_iff es clock).1 F.stamped).2.2
    have he:e0 = e1:=by
     obtain ⟨i,hi,rfl⟩:=List.mem_iff_getElem.1 h4
     obtain ⟨j,hj,rfl⟩:=List.mem_iff_getElem.1 h1
     rcases Nat.lt_trichotomy i j with h | h | h
     ·exact absurd (h5.trans h2.symm) (List.pairwise_iff_getElem.1 hnd i j hi hj h)
     ·subst h; rfl
     ·exact absurd (h2.trans h5.symm) (List.pairwise_iff_getElem.1 hnd j i hj hi h)
    rw [h6,he]
    simp only [Result.ok.injEq,Bool.false_eq_true,if_false,and_true] at h9
    exact h9.symm
   ·exact absurd h2 (h4 e1 h1)
 rw [hv0'] at hrun
 refine ⟨_,_,hrun,⟨rfl,rfl,rfl,by simp [setBlock],fun i _ hi=>heap_setBlock_other hb _ (fun e=>hi (by rw [e]))⟩,by simp [setBlock],fun w2 val hw2=>?_⟩
 have hb1:w2.heap[b]? = some (.map es1 clock1):=hw2.trans (heap_setBlock_same hb _)
 obtain ⟨es',clock',h1,h2⟩:=hst w2 val hb1
 obtain ⟨w9,h3,h4,-⟩:=hup val
 rw [h2] at h3
 injection h3 with _ h3
 refine ⟨_,h1,⟨rfl,rfl,rfl,by simp [setBlock],fun i _ hi=>heap_setBlock_other hb1 _ (fun e=>hi (by rw [e]))⟩,by simp [setBlock],?_⟩
 have h5:OwnMap w9 b (n + 1) (fun y=>if y = x then val else V y):=by
  refine ⟨_,h4,fun y=>?_⟩
  show _ = DataW.held (if y = x then val else V y)
  by_cases hy:y = x
  ·subst hy
   rw [if_pos rfl,Maps.atKey_put_same hM (nm_keyed.key (klN_key y))]
  ·rw [if_neg hy,Maps.atKey_put_other (fun e=>hy (klN_inj e)),hv]
 refine h5.same ?_
 rw [← h3,heap_setBlock_same hb1,heap_setBlock_same hb]
end
end
structure En where
 name:List UInt8
 dir:Bool
 id:Nm
instance:Inhabited En:=⟨⟨[],false,default⟩⟩
def okSign (b:UInt8):Bool:=(decide (97 ≤ b.toNat) && decide (b.toNat ≤ 122)) || (decide (48 ≤ b.toNat) && decide (b.toNat ≤ 57)) || b.toNat == 46 || b.toNat == 45 || b.toNat == 95
def okName (s:List UInt8):Bool:=decide (0 < s.length) && decide (s.length ≤ 20) && !(s == [46]) && !(s == [46,46]) && s.all okSign
def okAt (es:List En) (j:Nat):Bool:=okName (es.getD j default).name && (decide (j = 0) || Op.bytesLess (es.getD (j - 1) default).name (es.getD j default).name)
def risesTo (es:List En) (k:Nat):Bool:=(List.range k).all (okAt es)
def mayT (es:List En):Bool:=decide (es.length ≤ 20) && risesTo es es.length
theorem risesTo_succ (es:List En) (k:Nat):risesTo es (k + 1) = (risesTo es k && okAt es k):=by
 unfold risesTo
 rw [List.range_succ,List.all_append]
 simp
theorem risesTo_at (es:List En) {k j:Nat} (hn:risesTo es k = true) (h:j < k):okAt es j = true:=by
 unfold risesTo at hn
 rw [List.all_eq_true] at hn
 exact hn j (List.mem_range.2 h)
theorem risesTo_not (es:List En) {k n:Nat} (h:k < n) (hk:okAt es k = false):risesTo es n = false:=by
 cases hr:risesTo es n with
 | false=>rfl
 | true=>
  rw [risesTo_at es hr h] at hk
  cases hk
def bytesE (e:En):List UInt8:=[if e.dir then 100 else 102,32] ++ e.name ++ [0] ++ e.id.l
def encT (es:List En):List UInt8:=es.flatMap bytesE
theorem encT_snoc (es:List En) (e:En):encT (es ++ [e]) = encT es ++ bytesE e:=by simp [encT]
theorem bytesE_len (e:En):(bytesE e).length = e.name.length + 35:=by
 simp only [bytesE,List.length_append,List.length_cons,List.length_nil,e.id.h]
 omega
def cutName:List UInt8 → Option (List UInt8 × List UInt8)
 | []=>none
 | b :: r=>if b = 0 then some ([],r) else (cutName r).map fun p=>(b :: p.1,p.2)
theorem ncut_at:∀ (s:List UInt8) (k:Nat),(∀ j,j < k → s.getD j 0 ≠ 0) → k < s.length → s.getD k 0 = 0 → cutName s = some (s.take k,s.drop (k + 1))
 | [],k,_,h,_=>absurd h (Nat.not_lt_zero _)
 | b :: r,0,_,_,h=>by
  have h:b = 0:=h
  simp [cutName,h]
 | b :: r,k + 1,h1,h2,h3=>by
  have hb:b ≠ 0:=h1 0 (Nat.succ_pos _)
  have:=ncut_at r k (fun j hj=>h1 (j + 1) (by omega)) (by simpa using h2) (by simpa using h3)
  simp [cutName,hb,this]
theorem cut_back:∀ (s n t:List UInt8),cutName s = some (n,t) → s = n ++ 0 :: t
 | [],n,t,h=>by cases h
 | b :: r,n,t,h=>by
  unfold cutName at h
  by_cases hb:b = 0
  ·rw [if_pos hb] at h
   injection h with h
   injection h with h1 h2
   subst h1 h2
   simp [hb]
  ·rw [if_neg hb] at h
   cases hc:cutName r with
   | none=>rw [hc] at h; cases h
   | some p=>
    rw [hc] at h
    injection h with h
    injection h with h1 h2
    subst h1 h2
    rw [List.cons_append,← cut_back r p.1 p.2 hc]
theorem cut_put (n t:List UInt8) (h:(0:UInt8) ∉ n):cutName (n ++ 0 :: t) = some (n,t):=by
 induction n with
 | nil=>simp [cutName]
 | cons b r ih=>
  have hb:b ≠ 0:=fun e=>h (by simp [e])
  rw [List.cons_append]
  unfold cutName
  rw [if_neg hb,ih (fun hm=>h (List.mem_cons_of_mem _ hm))]
  rfl
def rawEnt:List UInt8 → Option (En × List UInt8)
 | m :: sp :: r=>
  if (m = 100 ∨ m = 102) ∧ sp = 32 then
   match cutName r with
   | some (n,t)=>if h:32 ≤ t.length then some (⟨n,m == 100,⟨t.take 32,by rw [List.length_take]; omega⟩⟩,t.drop 32) else none
   | none=>none
  else none
 | _=>none
theorem raw_back (s:List UInt8) (e:En) (t:List UInt8) (h:rawEnt s = some (e,t)):s = bytesE e ++ t:=by
 match s,h with
 | [],h=>cases h
 | [_],h=>cases h
 | m :: sp :: r,h=>
  unfold rawEnt at h
  dsimp only at h
  by_cases hm:(m = 100 ∨ m = 102) ∧ sp = 32
  ·rw [if_pos hm] at h
   cases hc:cutName r with
   | none=>rw [hc] at h; cases h
   | some p=>
    obtain ⟨n,u⟩:=p
    rw [hc] at h
    simp only at h
    split at h
    ·injection h with h
     injection h with h1 h2
     subst h1 h2
     rw [cut_back r n u hc]
     obtain ⟨hm1,rfl⟩:=hm
     rcases hm1 with rfl | rfl <;> simp [bytesE,List.take_append_drop]
    ·cases h
  ·rw [if_neg hm] at h
   cases h
theorem raw_less (s:List UInt8) (e:En) (t:List UInt8) (h:rawEnt s = some (e,t)):t.length + 35 ≤ s.length:=by
 rw [raw_back s e t h,List.length_append,bytesE_len]
 omega
theorem raw_put (e:En) (t:List UInt8) (h:(0:UInt8) ∉ e.name):rawEnt (bytesE e ++ t) = some (e,t):=by
 have hi:=e.id.h
 have e1:bytesE e ++ t = (if e.dir then 100 else 102) :: 32 :: (e.name ++ 0 :: (e.id.l ++ t)):=by simp [bytesE]
 rw [e1]
 unfold rawEnt
 dsimp only
 rw [if_pos ⟨by cases e.dir <;> simp,rfl⟩,cut_put _ _ h]
 simp only
 rw [dif_pos (by rw [List.length_append]; omega)]
 obtain ⟨n,d,⟨l,hl⟩⟩:=e
 simp only at hl ⊢
 congr 2
 ·congr 1
  ·cases d <;> rfl
  ·exact Nm.same (by show (l ++ t).take 32 = l; rw [← hl,List.take_left])
 ·rw [← hl,List.drop_left]
def rawGo:Nat → List UInt8 → List En → Option (List En)
 | 0,_,_=>none
 | f + 1,s,acc=>
  if s = [] then some acc else
   match rawEnt s with
   | some (e,t)=>rawGo f t (acc ++ [e])
   | none=>none
def getT (s:List UInt8):Option (List En):=
 match rawGo (s.length + 1) s [] with
 | some es=>if mayT es then some es else none
 | none=>none
theorem rawGo_enc:∀ (f:Nat) (s:List UInt8) (acc es:List En),rawGo f s acc = some es → encT es = encT acc ++ s
 | 0,s,acc,es,h=>by cases h
 | f + 1,s,acc,es,h=>by
  unfold rawGo at h
  by_cases hs:s = []
  ·rw [if_pos hs] at h
   injection h with h
   rw [hs,h,List.append_nil]
  ·rw [if_neg hs] at h
   cases hr:rawEnt s with
   | none=>rw [hr] at h; cases h
   | some p=>
    obtain ⟨e,t⟩:=p
    rw [hr] at h
    rw [rawGo_enc f t _ es h,encT_snoc,List.append_assoc,← raw_back s e t hr]
theorem rawGo_pre:∀ (f:Nat) (s:List UInt8) (acc es:List En),rawGo f s acc = some es → ∃ more,es = acc ++ more ∧ (s ≠ [] → more ≠ [])
 | 0,s,acc,es,h=>by cases h
 | f + 1,s,acc,es,h=>by
  unfold rawGo at h
  by_cases hs:s = []
  ·rw [if_pos hs] at h
   injection h with h
   exact ⟨[],by rw [h,List.append_nil],fun h=>absurd hs h⟩
  ·rw [if_neg hs] at h
   cases hr:rawEnt s with
   | none=>rw [hr] at h; cases h
   | some p=>
    obtain ⟨e,t⟩:=p
    rw [hr] at h
    obtain ⟨more,rfl,-⟩:=rawGo_pre f t _ es h
    exact ⟨e :: more,by simp,fun _=>by simp⟩
theorem rawGo_fuel:∀ (f g:Nat) (s:List UInt8) (acc:List En),s.length < f → s.length < g → rawGo f s acc = rawGo g s acc
 | 0,_,_,_,h,_=>absurd h (Nat.not_lt_zero _)
 | _ + 1,0,_,_,_,h=>absurd h (Nat.not_lt_zero _)
 | f + 1,g + 1,s,acc,h1,h2=>by
  unfold rawGo
  by_cases hs:s = []
  ·rw [if_pos hs,if_pos hs]
  ·rw [if_neg hs,if_neg hs]
   cases hr:rawEnt s with
   | none=>rfl
   | some p=>
    obtain ⟨e,t⟩:=p
    have:=raw_less s e t hr
    exact rawGo_fuel f g t _ (by omega) (by omega)
theorem getT_enc (s:List UInt8) (es:List En) (h:getT s = some es):encT es = s ∧ mayT es = true:=by
 unfold getT at h
 cases hr:rawGo (s.length + 1) s [] with
 | none=>rw [hr] at h; cases h
 | some l=>
  rw [hr] at h
  simp only at h
  split at h
  ·rename_i hm
   injection h with h
   subst h
   exact ⟨by simpa [encT] using rawGo_enc _ _ _ _ hr,hm⟩
  ·cases h
theorem okName_zero (s:List UInt8) (h:okName s = true):(0:UInt8) ∉ s:=by
 intro hm
 simp only [okName,Bool.and_eq_true,List.all_eq_true] at h
 have:=h.2 0 hm
 revert this
 decide
theorem rawGo_put:∀ (es acc:List En) (f:Nat),(∀ e ∈ es,(0:UInt8) ∉ e.name) → es.length < f → rawGo f (encT es) acc = some (acc ++ es)
 | [],acc,0,_,h=>absurd h (Nat.not_lt_zero _)
 | [],acc,f + 1,_,_=>by simp [rawGo,encT]
 | e :: es,acc,0,_,h=>absurd h (Nat.not_lt_zero _)
 | e :: es,acc,f + 1,h,hf=>by
  have e1:encT (e :: es) = bytesE e ++ encT es:=by simp [encT]
  have hne:bytesE e ++ encT es ≠ []:=by simp [bytesE]
  unfold rawGo
  rw [e1,if_neg hne,raw_put e _ (h e (by simp))]
  simp only
  rw [rawGo_put es _ f (fun x hx=>h x (by simp [hx])) (by simpa using hf)]
  simp
theorem encT_len_le (es:List En):es.length ≤ (encT es).length:=by
 induction es with
 | nil=>simp
 | cons e l ih=>
  have:encT (e :: l) = bytesE e ++ encT l:=by simp [encT]
  rw [this,List.length_append,bytesE_len,List.length_cons]
  omega
theorem mayT_zero (es:List En) (h:mayT es = true):∀ e ∈ es,(0:UInt8) ∉ e.name:=by
 intro e he
 obtain ⟨i,hi,rfl⟩:=List.mem_iff_getElem.1 he
 simp only [mayT,Bool.and_eq_true] at h
 have:=risesTo_at es h.2 hi
 simp only [okAt,Bool.and_eq_true] at this
 have h1:=okName_zero _ this.1
 rwa [show es.getD i default = es[i] by simp [List.getD,List.getElem?_eq_getElem hi]] at h1
theorem getT_put (es:List En) (h:mayT es = true):getT (encT es) = some es:=by
 have:=encT_len_le es
 unfold getT
 rw [rawGo_put es [] _ (mayT_zero es h) (by omega)]
 simp [h]
def entV (s:List UInt8):Option (En × List UInt8):=
 match rawEnt s with
 | some (e,t)=>if e.name.length ≤ 20 then some (e,t) else none
 | none=>none
def entsGo:Nat → List UInt8 → List En → Option (List En)
 | 0,_,_=>none
 | f + 1,s,acc=>
  if s = [] then (if mayT acc then some acc else none) else
   if acc.length < 20 then
    match entV s with
    | some (e,t)=>entsGo f t (acc ++ [e])
    | none=>none
   else none
theorem mayT_bad (acc more:List En) (e:En) (h:¬ e.name.length ≤ 20):mayT (acc ++ e :: more) = false:=by
 unfold mayT
 rw [risesTo_not (acc ++ e :: more) (k:=acc.length) (by simp) (by
  unfold okAt
  have:(acc ++ e :: more).getD acc.length default = e:=by simp [List.getD]
  rw [this]
  simp [okName,h])]
 simp
theorem entsGo_is:∀ (f:Nat) (s:List UInt8) (acc:List En),entsGo f s acc = (rawGo f s acc).bind fun es=>if mayT es then some es else none
 | 0,_,_=>rfl
 | f + 1,s,acc=>by
  unfold entsGo rawGo
  by_cases hs:s = []
  ·rw [if_pos hs,if_pos hs]
   rfl
  ·rw [if_neg hs,if_neg hs]
   cases hr:rawEnt s with
   | none=>simp [entV,hr]
   | some p=>
    obtain ⟨e,t⟩:=p
    by_cases hl:acc.length < 20
    ·rw [if_pos hl]
     by_cases hn:e.name.length ≤ 20
     ·simp only [entV,hr,if_pos hn]
      exact entsGo_is f t _
     ·simp only [entV,hr,if_neg hn]
      cases hg:rawGo f t (acc ++ [e]) with
      | none=>rfl
      | some es=>
       obtain ⟨more,rfl,-⟩:=rawGo_pre _ _ _ _ hg
       rw [List.append_assoc,List.singleton_append]
       rw [Option.bind_some,if_neg (by rw [mayT_bad acc more e hn]; decide)]
    ·rw [if_neg hl]
     simp only
     cases hg:rawGo f t (acc ++ [e]) with
     | none=>rfl
     | some es=>
      obtain ⟨more,rfl,-⟩:=rawGo_pre _ _ _ _ hg
      have:mayT (acc ++ [e] ++ more) = false:=by
       unfold mayT
       rw [decide_eq_false (by simp; omega)]
       rfl
      rw [Option.bind_some,if_neg (by rw [this]; decide)]
theorem entsGo_get (s:List UInt8):entsGo (s.length + 1) s [] = getT s:=by
 rw [entsGo_is]
 unfold getT
 cases rawGo (s.length + 1) s [] <;> rfl
def textV (f r:Nat):List UInt8:=if h:r = 0 then [UInt8.ofNat f] else UInt8.ofNat (f + 128) :: textV (r % 128) (r / 128)
termination_by r
decreasing_by omega
theorem textV_zero (f:Nat):textV f 0 = [UInt8.ofNat f]:=by rw [textV,dif_pos rfl]
theorem textV_more (f r:Nat) (h:0 < r):textV f r = UInt8.ofNat (f + 128) :: textV (r % 128) (r / 128):=by rw [textV,dif_neg (by omega)]
def numV (n:Nat):List UInt8:=textV (n % 128) (n / 128)
def headV (kind n:Nat):List UInt8:=textV (kind * 16 + n % 16) (n / 16)
theorem textV_pos (f r:Nat):0 < (textV f r).length:=by
 by_cases h:r = 0
 ·subst h; rw [textV_zero]; simp
 ·rw [textV_more f r (by omega)]; simp
theorem textV_le:∀ (k f r:Nat),r < 128 ^ k → (textV f r).length ≤ k + 1
 | 0,f,r,h=>by
  obtain rfl:r = 0:=by simpa using h
  rw [textV_zero]; simp
 | k + 1,f,r,h=>by
  by_cases h0:r = 0
  ·subst h0; rw [textV_zero]; simp
  ·have:=textV_le k (r % 128) (r / 128) (by rw [Nat.pow_succ] at h; omega)
   rw [textV_more f r (by omega),List.length_cons]
   omega
theorem numV_le (n:Nat) (h:n ≤ 1000000):(numV n).length ≤ 3:=textV_le 2 _ _ (by omega)
structure Ct where
 ins:List UInt8
 frm:Nat
 len:Nat
instance:Inhabited Ct:=⟨⟨[],0,0⟩⟩
def okC (base:Nat) (c:Ct):Prop:=(c.len = 0 ∧ c.frm = 0 ∧ 1 ≤ c.ins.length ∧ c.ins.length ≤ 100) ∨ (c.ins = [] ∧ c.frm ≤ 100000 ∧ 1 ≤ c.len ∧ c.len ≤ 100000 ∧ c.frm + c.len ≤ base)
def mkC (c:Ct):Nat:=c.ins.length + c.len
def sumC (cs:List Ct):Nat:=(cs.map mkC).sum
def bytesK (c:Ct):List UInt8:=if c.len = 0 then UInt8.ofNat c.ins.length :: c.ins else 128 :: (numV c.frm ++ numV c.len)
def encD (base:Nat) (cs:List Ct):List UInt8:=numV base ++ numV (sumC cs) ++ cs.flatMap bytesK
def cutV (b:List UInt8) (c:Ct):List UInt8:=c.ins ++ (b.drop c.frm).take c.len
def applyC (b:List UInt8) (cs:List Ct):List UInt8:=cs.flatMap (cutV b)
theorem sumC_cons (c:Ct) (cs:List Ct):sumC (c :: cs) = mkC c + sumC cs:=by simp [sumC]
theorem sumC_append (a b:List Ct):sumC (a ++ b) = sumC a + sumC b:=by simp [sumC]
theorem applyC_append (t:List UInt8) (a b:List Ct):applyC t (a ++ b) = applyC t a ++ applyC t b:=by simp [applyC]
theorem applyC_one (t:List UInt8) (c:Ct):applyC t [c] = cutV t c:=by simp [applyC]
theorem mkC_pos {base:Nat} {c:Ct} (h:okC base c):1 ≤ mkC c:=by
 unfold mkC
 rcases h with h | h <;> omega
theorem cutV_len {b:List UInt8} {c:Ct} (h:okC b.length c):(cutV b c).length = mkC c:=by
 unfold cutV mkC
 rw [List.length_append,List.length_take,List.length_drop]
 rcases h with ⟨h1,-⟩ | ⟨h1,h2,h3,h4,h5⟩ <;> omega
theorem applyC_len {b:List UInt8}:∀ (cs:List Ct),(∀ c ∈ cs,okC b.length c) → (applyC b cs).length = sumC cs
 | [],_=>rfl
 | c :: cs,h=>by
  have ih:=applyC_len cs (fun x hx=>h x (by simp [hx]))
  rw [show applyC b (c :: cs) = cutV b c ++ applyC b cs from rfl,List.length_append,cutV_len (h c (by simp)),ih,sumC_cons]
theorem sumC_le {base:Nat}:∀ (cs:List Ct),(∀ c ∈ cs,okC base c) → cs.length ≤ sumC cs
 | [],_=>Nat.le_refl _
 | c :: cs,h=>by
  have ih:=sumC_le cs (fun x hx=>h x (by simp [hx]))
  have:=mkC_pos (h c (by simp))
  rw [sumC_cons,List.length_cons]
  omega
theorem bytesK_ins {c:Ct} (h:c.len = 0):bytesK c = UInt8.ofNat c.ins.length :: c.ins:=by unfold bytesK; rw [if_pos h]
theorem bytesK_copy {c:Ct} (h:c.len ≠ 0):bytesK c = 128 :: (numV c.frm ++ numV c.len):=by unfold bytesK; rw [if_neg h]
theorem bytesK_le {base:Nat} {c:Ct} (h:okC base c):(bytesK c).length ≤ 101:=by
 rcases h with ⟨h1,h2,h3,h4⟩ | ⟨h1,h2,h3,h4,h5⟩
 ·rw [bytesK_ins h1,List.length_cons]; omega
 ·have e1:=numV_le c.frm (by omega)
  have e2:=numV_le c.len (by omega)
  rw [bytesK_copy (by omega),List.length_cons,List.length_append]
  omega
theorem bytesK_cost {base:Nat} {c:Ct} (h:okC base c) (h8:c.len ≠ 0 → 8 ≤ c.len):(bytesK c).length + (if c.len = 0 then 0 else 1) ≤ mkC c + (if c.len = 0 then 1 else 0):=by
 unfold mkC
 rcases h with ⟨h1,h2,h3,h4⟩ | ⟨h1,h2,h3,h4,h5⟩
 ·rw [bytesK_ins h1,List.length_cons,if_pos h1,if_pos h1]; omega
 ·have e1:=numV_le c.frm (by omega)
  have e2:=numV_le c.len (by omega)
  have h9:c.len ≠ 0:=by omega
  have:=h8 h9
  rw [bytesK_copy h9,List.length_cons,List.length_append,if_neg h9,if_neg h9]
  omega
theorem encD_drop (cs:List Ct) (k:Nat) (h:k < cs.length):(cs.drop k).flatMap bytesK = bytesK (cs.getD k default) ++ (cs.drop (k + 1)).flatMap bytesK:=by
 rw [List.drop_eq_getElem_cons h,List.flatMap_cons]
 simp [List.getD,List.getElem?_eq_getElem h]
theorem sumC_drop (cs:List Ct) (k:Nat) (h:k < cs.length):sumC (cs.drop k) = mkC (cs.getD k default) + sumC (cs.drop (k + 1)):=by
 rw [List.drop_eq_getElem_cons h,sumC_cons]
 simp [List.getD,List.getElem?_eq_getElem h]
theorem sumC_take (cs:List Ct) (k:Nat):sumC (cs.take k) + sumC (cs.drop k) = sumC cs:=by
 rw [← sumC_append,List.take_append_drop]
end Go.Proofs.YtlfmooihcigolaaGreatDoor

/-
  Ent, Gen, TreA, TreB.
-/
import Derived.Test.YtlfmooihcigolaaGreatDoorMah
import Derived.Deep.LoopGhost
set_option maxRecDepth 100000
set_option maxHeartbeats 8000000
namespace Go.Proofs.YtlfmooihcigolaaGreatDoor
open Go.RowKit
section
open Go.RowKit
def encE (e:En):List Value:=.string ⟨e.name.toArray⟩ :: .bool e.dir :: encN e.id
theorem encE_len (e:En):(encE e).length = 34:=by simp [encE,encN_len]
theorem encE_one (e:En):∀ v ∈ encE e,v.oneCell' = true:=by
 intro v hv
 simp only [encE,List.mem_cons] at hv
 rcases hv with rfl | rfl | hv
 ·rfl
 ·rfl
 ·exact encN_one _ v hv
theorem encE_size (e:En):(encE e).toArray.size = 34:=by rw [List.size_toArray,encE_len]
theorem encE_all (e:En):(encE e).toArray.all (·.oneCell') = true:=all_oneCell_toArray (encE_one e)
theorem infoE:(Tryz.prog.info? 156).map (·.size) = some 34:=by kernel_rfl
theorem infoE_l (e:En):(Tryz.prog.info? 156).map (·.size) = some (encE e).length:=by rw [encE_len]; exact infoE
theorem infoE_s (e:En):(Tryz.prog.info? 156).map (·.size) = some (encE e).toArray.size:=by rw [encE_size]; exact infoE
def RowE (w:World) (b o:Nat) (es:List En):Prop:=∀ i,i < es.length → w.rangeAt b (o + i * 34) (encE (es.getD i default))
section
variable {w w' : World} {b o B : Nat} {es : List En} {R : Nat → Prop}
theorem RowE.lt (h:RowE w b o es) (h0:0 < es.length):b < w.heap.size:=by
 have hl:=encE_len (es.getD 0 default)
 have:=h 0 h0 0 _ (List.getElem?_eq_getElem (show 0 < (encE (es.getD 0 default)).length by omega))
 have:=World.block_lt_of_cell? w _ this
 exact this
theorem RowE.below (h:RowE w b o es) (hb:Below B w w') (hB:b < B):RowE w' b o es:=fun i hi j v hv=>(hb.cell hB).trans (h i hi j v hv)
theorem RowE.name (h:RowE w b o es) {i:Nat} (hi:i < es.length):w.cell? ⟨b,o + i * 34,none⟩ = some (.string ⟨(es.getD i default).name.toArray⟩):=by
 have:=h i hi 0 _ (show (encE (es.getD i default))[0]? = some _ from rfl)
 simpa using this
end
def ArgE (w:World) (A:Option Addr) (c:Nat) (es:List En):Prop:=
 es.length ≤ c ∧ c ≤ maxLen ∧ (A = none → c = 0) ∧ (0 < es.length → ∃ b o,A = some ⟨b,o,none⟩ ∧ RowE w b o es)
theorem ArgE.below {w w':World} {A:Option Addr} {c:Nat} {es:List En} {B:Nat} (h:ArgE w A c es) (hb:Below B w w') (hB:∀ b,inBlk A b → 0 < es.length → b < B):ArgE w' A c es:=by
 obtain ⟨h1,h2,h3,h4⟩:=h
 refine ⟨h1,h2,h3,fun h0=>?_⟩
 obtain ⟨b,o,e,hr⟩:=h4 h0
 exact ⟨b,o,e,hr.below hb (hB b ⟨_,e,rfl⟩ h0)⟩
theorem ArgE.lt {w:World} {A:Option Addr} {c:Nat} {es:List En} (h:ArgE w A c es) {b:Nat} (hb:inBlk A b) (h0:0 < es.length):b < w.heap.size:=by
 obtain ⟨b',o,e,hr⟩:=h.2.2.2 h0
 obtain ⟨a,rfl,rfl⟩:=hb
 injection e with e
 subst e
 exact hr.lt h0
theorem ArgE.later {w w':World} {A:Option Addr} {c:Nat} {es:List En} (h:ArgE w A c es) (hb:Below w.heap.size w w'):ArgE w' A c es:=h.below hb fun _ hj h0=>h.lt hj h0
theorem whole_name {w:World} {g:Nat} {t:TypeId} {e:En} (h:Whole w g t (encE e).toArray):w.cell? ⟨g,0,none⟩ = some (.string ⟨e.name.toArray⟩):=(h.at_ 0).trans rfl
theorem whole_dir {w:World} {g:Nat} {t:TypeId} {e:En} (h:Whole w g t (encE e).toArray):w.cell? ⟨g,1,none⟩ = some (.bool e.dir):=(h.at_ 1).trans rfl
theorem made_below' {w w':World} {o:Obj} (h:(w.alloc o).grownBy w' (some w.heap.size)):Below w.heap.size w w':=
 be_grown ((Below.refl w.heap.size w).alloc (Nat.le_refl _) _) h (by simp) (fun j hj=>by injection hj with hj; omega)
def OwnB (w:World) (A:Option Addr):Prop:=∀ j,inBlk A j → ∃ t cs,Whole w j t cs
theorem OwnB.nil (w:World):OwnB w none:=by rintro j ⟨a,e,-⟩; cases e
theorem OwnB.later {w w':World} {A:Option Addr} (h:OwnB w A) (hb:Below w.heap.size w w'):OwnB w' A:=by
 intro j hj
 obtain ⟨t,cs,hw⟩:=h j hj
 exact ⟨t,cs,hw.below hb hw.lt⟩
theorem OwnB.grown {w w':World} {A:Option Addr} {row:Option Nat} (h:OwnB w A) (hg:w.grownBy w' row) (hn:∀ j,inBlk A j → some j ≠ row):OwnB w' A:=by
 intro j hj
 obtain ⟨t,cs,hw⟩:=h j hj
 exact ⟨t,cs,hw.grown hg (hn j hj)⟩
theorem OwnB.set {w:World} {A:Option Addr} (h:OwnB w A) (g i:Nat) (v:Value):OwnB (w.setCell ⟨g,i,none⟩ v) A:=by
 intro j hj
 obtain ⟨t,cs,hw⟩:=h j hj
 by_cases e:j = g
 ·subst e
  exact ⟨t,_,hw.put i v⟩
 ·exact ⟨t,cs,hw.aside (p:=⟨g,i,none⟩) e v⟩
theorem own_blk {w:World} {B:Nat} {e:TypeId} {k n c:Nat} {A:Option Addr} {xs:List Value} (h:w.ownsRow B e k (.slice A n c) n xs):OwnB w A:=by
 rcases h.2 with ⟨h0,-⟩ | ⟨g,cap,cur,hv,hB,hg,-⟩
 ·injection h0 with e1
  rw [e1]
  exact OwnB.nil w
 ·injection hv with e1
  subst e1
  rintro j ⟨a,e,rfl⟩
  injection e with e
  subst e
  exact ⟨_,cur,hg⟩
def Own2 (B:Nat) (w:World) (A:Option Addr):Prop:=(∀ j,inBlk A j → B ≤ j) ∧ OwnB w A
theorem Own2.nil (B:Nat) (w:World):Own2 B w none:=⟨by (rintro j ⟨a,e,-⟩; cases e),OwnB.nil w⟩
end
section
open Go.RowKit
structure Elt (T TS:TypeId) (m:Nat) {α:Type} (enc:α → List Value) (d:α):Prop where
 len:∀ x,(enc x).length = m
 one:∀ x,∀ v ∈ enc x,v.oneCell' = true
 pos:0 < m
 small:m ≤ 100
 und:Tryz.prog.underlying TS = some (.slice T)
 info:∃ i,Tryz.prog.info? T = some i ∧ i.zero = some (.agg (enc d).toArray) ∧ i.size = m ∧ i.bytes ≤ 4096
 szo:∀ w,(sizeOf T).run Tryz.prog w = .ok m w
 zero:∀ w,(zeroValue T).run Tryz.prog w = .ok (.agg (enc d).toArray) w
section
variable {α : Type} {enc : α → List Value} {d : α} {m : Nat} {T TS : TypeId} {w w' : World} {b o c : Nat} {A : Option Addr} {xs : List α}
def RowG (enc:α → List Value) (d:α) (m:Nat) (w:World) (b o:Nat) (xs:List α):Prop:=∀ i,i < xs.length → w.rangeAt b (o + i * m) (enc (xs.getD i d))
def ArgG (enc:α → List Value) (d:α) (m:Nat) (w:World) (A:Option Addr) (c:Nat) (xs:List α):Prop:=
 xs.length ≤ c ∧ c ≤ maxLen ∧ (A = none → c = 0) ∧ (0 < xs.length → ∃ b o,A = some ⟨b,o,none⟩ ∧ RowG enc d m w b o xs)
theorem ArgG.nil (h:ArgG enc d m w none c xs):c = 0 ∧ xs = []:=by
 have h0:=h.2.2.1 rfl
 have h1:=h.1
 exact ⟨h0,List.length_eq_zero_iff.1 (by omega)⟩
theorem argG_nil (w:World):ArgG enc d m w none 0 []:=⟨Nat.le_refl _,Nat.zero_le _,fun _=>rfl,fun h=>absurd h (Nat.lt_irrefl _)⟩
theorem RowG.lt (E:Elt T TS m enc d) (h:RowG enc d m w b o xs) (h0:0 < xs.length):b < w.heap.size:=by
 have h1:=h 0 h0 0 _ (List.getElem?_eq_getElem (by rw [E.len]; exact E.pos))
 exact World.block_lt_of_cell? w _ h1
theorem ArgG.lt (E:Elt T TS m enc d) (h:ArgG enc d m w A c xs) {j:Nat} (hj:inBlk A j) (h0:0 < xs.length):j < w.heap.size:=by
 obtain ⟨b',o,e,hr⟩:=h.2.2.2 h0
 obtain ⟨a,rfl,rfl⟩:=hj
 injection e with e
 subst e
 exact hr.lt E h0
theorem ArgG.below {B:Nat} (h:ArgG enc d m w A c xs) (hb:Below B w w') (hB:∀ j,inBlk A j → 0 < xs.length → j < B):ArgG enc d m w' A c xs:=by
 obtain ⟨h1,h2,h3,h4⟩:=h
 refine ⟨h1,h2,h3,fun h0=>?_⟩
 obtain ⟨b,o,e,hr⟩:=h4 h0
 exact ⟨b,o,e,fun i hi j v hv=>(hb.cell (hB b ⟨_,e,rfl⟩ h0)).trans (hr i hi j v hv)⟩
theorem ArgG.later (E:Elt T TS m enc d) (h:ArgG enc d m w A c xs) (hb:Below w.heap.size w w'):ArgG enc d m w' A c xs:=h.below hb fun _ hj h0=>h.lt E hj h0
theorem ArgG.grown (E:Elt T TS m enc d) {row:Option Nat} (h:ArgG enc d m w A c xs) (hg:w.grownBy w' row) (hn:∀ j,inBlk A j → 0 < xs.length → some j ≠ row):ArgG enc d m w' A c xs:=by
 have h':=h
 obtain ⟨h1,h2,h3,h4⟩:=h
 refine ⟨h1,h2,h3,fun h0=>?_⟩
 obtain ⟨b,o,e,hr⟩:=h4 h0
 have hk:=hg.block b (h'.lt E ⟨_,e,rfl⟩ h0) (hn b ⟨_,e,rfl⟩ h0)
 refine ⟨b,o,e,fun i hi j v hv=>?_⟩
 have:=hr i hi j v hv
 unfold World.cell? at *
 dsimp only at *
 rw [hk]
 exact this
theorem flatG_len (hl:∀ x,(enc x).length = m):∀ xs:List α,(xs.flatMap enc).length = xs.length * m
 | []=>by simp
 | x :: l=>by rw [List.flatMap_cons,List.length_append,flatG_len hl l,hl,List.length_cons,Nat.add_mul,Nat.one_mul,Nat.add_comm]
theorem flatG_at (hl:∀ x,(enc x).length = m) (xs:List α):∀ i j,i < xs.length → j < m → (xs.flatMap enc)[i * m + j]? = (enc (xs.getD i d))[j]?:=by
 induction xs with
 | nil=>intro i j hi; exact absurd hi (Nat.not_lt_zero _)
 | cons x l ih=>
  intro i j hi hj
  rw [List.flatMap_cons]
  cases i with
  | zero=>
   rw [Nat.zero_mul,Nat.zero_add,List.getElem?_append_left (by rw [hl]; exact hj)]
   rfl
  | succ i=>
   rw [List.getElem?_append_right (by rw [hl,Nat.add_mul,Nat.one_mul]; omega),hl,show (i + 1) * m + j - m = i * m + j by rw [Nat.add_mul,Nat.one_mul]; omega,ih i j (by simpa using hi) hj]
   rfl
theorem row_flatG (E:Elt T TS m enc d) (h:RowG enc d m w b o xs):∀ j u,(xs.flatMap enc)[j]? = some u → w.cell? ⟨b,o + j,none⟩ = some u:=by
 intro j u hu
 have hp:=E.pos
 have hj:j < xs.length * m:=by
  rw [← flatG_len E.len]
  exact (List.getElem?_eq_some_iff.1 hu).1
 have hq:j / m < xs.length:=Nat.div_lt_of_lt_mul (by rw [Nat.mul_comm]; exact hj)
 have hr:j % m < m:=Nat.mod_lt _ hp
 have hd:j / m * m + j % m = j:=by rw [Nat.mul_comm]; exact Nat.div_add_mod j m
 rw [← hd,flatG_at (d:=d) E.len xs _ _ hq hr] at hu
 have:=h (j / m) hq (j % m) u hu
 rw [Nat.add_assoc,hd] at this
 exact this
theorem flatG_one (E:Elt T TS m enc d) (xs:List α):∀ u ∈ xs.flatMap enc,u.oneCell' = true:=by
 intro u hu
 obtain ⟨x,-,hx⟩:=List.mem_flatMap.1 hu
 exact E.one x u hx
theorem own_rowG (E:Elt T TS m enc d) {B g:Nat} {n:Nat} (h:w.ownsRow B T m (.slice (some ⟨g,0,none⟩) n c) xs.length (xs.flatMap enc)):RowG enc d m w g 0 xs:=by
 rcases h.2 with ⟨h0,-⟩ | ⟨g',cap,cur,hv,hB,hg,hn,hm,hs,ht⟩
 ·cases h0
 ·injection hv with e1 e2 e3
  injection e1 with e1
  injection e1 with e1
  subst e1
  intro i hi j v hv
  have hj:j < m:=by
   have:=(List.getElem?_eq_some_iff.1 hv).1
   rwa [E.len] at this
  have hx:(xs.flatMap enc)[i * m + j]? = some v:=by rw [flatG_at (d:=d) E.len xs i j hi hj]; exact hv
  have hlt:i * m + j < xs.length * m:=by
   have:(i + 1) * m ≤ xs.length * m:=Nat.mul_le_mul_right m hi
   rw [Nat.add_mul,Nat.one_mul] at this
   omega
  rw [← ht,List.getElem?_take_of_lt hlt] at hx
  rw [Nat.zero_add,cell_of_row _ _ _ _ _ _ hg]
  simpa using hx
theorem own_argG (E:Elt T TS m enc d) {B:Nat} {v:Value} (h:w.ownsRow B T m v xs.length (xs.flatMap enc)):∃ A c,v = .slice A xs.length c ∧ ArgG enc d m w A c xs ∧ Own2 B w A:=by
 have h9:=h
 rcases h.2 with ⟨rfl,h0⟩ | ⟨g,cap,cur,rfl,hB,hg,hn,hm,hs,ht⟩
 ·have he:xs = []:=List.length_eq_zero_iff.1 h0
  subst he
  exact ⟨none,0,rfl,argG_nil w,Own2.nil _ _⟩
 ·refine ⟨_,cap,rfl,⟨hn,hm,(fun e=>by cases e),fun _=>⟨g,0,rfl,own_rowG E h9⟩⟩,?_,own_blk h9⟩
  rintro j ⟨a,e,rfl⟩
  injection e with e
  subst e
  exact hB
theorem run_build_G (E:Elt T TS m enc d) (x:α) (w:World):(Instr.buildSlice TS 1 #[(0,.agg (enc x).toArray)]).run Tryz.prog w = .ok (.slice (some ⟨w.heap.size,0,none⟩) 1 1) (w.alloc (.cells (enc x).toArray T)):=by
 have hx:=E.len x
 have hxs:(enc x).toArray.size = m:=by rw [List.size_toArray,hx]
 have hds:(enc d).toArray.size = m:=by rw [List.size_toArray,E.len d]
 have hfill:∀ z:Array Value,z.size = m → Instr.fill (fun i=>some (i * m,m)) z [(0,.agg (enc x).toArray)] = some (enc x).toArray:=by
  intro z hz
  have hc:(Value.agg (enc x).toArray).cells = (enc x).toArray:=rfl
  simp only [Instr.fill,hc,hxs,hz,Nat.zero_mul,Nat.zero_add]
  rw [if_neg (by simp)]
  congr 1
  apply Array.toList_inj.1
  have:=fold_set (enc x) 0 z (by omega)
  rw [hx,List.drop_of_length_le (by simp; omega)] at this
  simpa using this
 have hzs:((Array.range (1 * m)).map (fun i=>(Value.agg (enc d).toArray).cells[i % (Value.agg (enc d).toArray).cells.size]!)).size = m:=by simp
 unfold Instr.buildSlice
 simp only [Sem.run_bind,run_underlying E.und,Result.andThen_ok,E.szo]
 rw [if_neg (by have:=E.small; omega),if_neg (by have:=E.pos; omega)]
 simp only [Sem.run_bind,E.zero,Result.andThen_ok,Sem.run_pure]
 rw [hfill _ hzs]
 rfl
theorem wp_buildG {op:Oper} {a:Act} {K:Act → World → Prop} {Q:Exit → Act → World → Prop} (E:Elt T TS m enc d) (t:Operand) (ho:op.op = .buildSlice TS 1 #[(0,t)]) (x:α) (hx:a.eval t = .agg (enc x).toArray)
  (h:K (a.put op.dst (.slice (some ⟨w.heap.size,0,none⟩) 1 1)) (w.alloc (.cells (enc x).toArray T))):op.wp Tryz.prog a w K Q:=by
 have hb:=run_build_G E x w
 unfold Oper.wp
 simp [execOp,ho,hx,hb,Result.andThen]
 exact h
theorem wpList_buildG {ops:Array Oper} {rest:List Oper} {op:Oper} {a:Act} {Q:Exit → Act → World → Prop} (E:Elt T TS m enc d) (hgd:op.guard = none) (t:Operand) (ho:op.op = .buildSlice TS 1 #[(0,t)]) (x:α) (hx:a.eval t = .agg (enc x).toArray)
  (h:wpList Tryz.prog ops Q rest (a.put op.dst (.slice (some ⟨w.heap.size,0,none⟩) 1 1)) (w.alloc (.cells (enc x).toArray T))):wpList Tryz.prog ops Q (op :: rest) a w:=
 wpList_plain hgd fun _ hK=>wp_buildG E t ho x hx (hK _ _ h)
theorem argG_one {g:Nat} {x:α} (h:Whole w g T (enc x).toArray):ArgG enc d m w (some ⟨g,0,none⟩) 1 [x]:=by
 refine ⟨Nat.le_refl _,by unfold maxLen; omega,(fun e=>by cases e),fun _=>⟨g,0,rfl,fun i hi j v hv=>?_⟩⟩
 obtain rfl:i = 0:=by simpa using hi
 rw [show 0 + 0 * m + j = j by omega,h.at_,List.getElem?_toArray]
 exact hv
theorem wp_appendG {op:Oper} {a:Act} {K:Act → World → Prop} {Q:Exit → Act → World → Prop} (E:Elt T TS m enc d) (s x:Operand) (ho:op.op = .call { callee:=.builtin .append,args:=#[s,x],argTypes:=#[TS,TS] })
  (B:Nat) (v:Value) (xs:List α) (hs:a.eval s = v) (hown:w.ownsRow B T m v xs.length (xs.flatMap enc)) (A:Option Addr) (n c:Nat) (ys:List α) (hn:ys.length = n) (hx:a.eval x = .slice A n c) (hy:ArgG enc d m w A c ys)
  (hB:B ≤ w.heap.size) (hl:xs.length + ys.length ≤ 10000000) (h:∀ v' w',w'.ownsRow B T m v' (xs ++ ys).length ((xs ++ ys).flatMap enc) → Below B w w' → w.grownBy w' v.ownBlock → K (a.put op.dst v') w'):op.wp Tryz.prog a w K Q:=by
 subst hn
 obtain ⟨i0,hq,h1,h2,h3⟩:=E.info
 cases A with
 | none=>
  obtain ⟨rfl,rfl⟩:=hy.nil
  have hrun:=run_append_owned_none (P:=Tryz.prog) (w:=w) B TS op.type T i0 m E.und hq v xs.length (xs.flatMap enc) hown
  unfold Oper.wp
  simp [execOp,ho,resolve,invoke,builtin,hs,hx,hrun,Result.andThen]
  exact h v w (by simpa using hown) (Below.refl _ _) ⟨rfl,rfl,rfl,Nat.le_refl _,fun _ _ _=>rfl⟩
 | some ad=>
  have hbb:(xs.length + ys.length) * i0.bytes ≤ 140737488355328:=Nat.le_trans (Nat.mul_le_mul hl h3) (by decide)
  refine wp_append_own w s x TS ho B T i0 (.agg (enc d).toArray) m i0.bytes E.und hq h1 h2 rfl (by show (enc d).toArray.size = m; rw [List.size_toArray,E.len]) E.pos v xs.length (xs.flatMap enc) hs hown ad ys.length c (ys.flatMap enc) hx (flatG_len E.len ys) (fun j u hu=>?_) (flatG_one E ys) (by unfold maxLen; omega) hbb hB (fun v' w' h4 h5 _=>?_)
  ·have hj:=(List.getElem?_eq_some_iff.1 hu).1
   rw [flatG_len E.len] at hj
   have hy0:0 < ys.length:=by
    rcases Nat.eq_zero_or_pos ys.length with h0 | h0
    ·rw [h0,Nat.zero_mul] at hj; omega
    ·exact h0
   obtain ⟨b,off,e,hr⟩:=hy.2.2.2 hy0
   injection e with e
   subst e
   rw [Addr.add_mid]
   exact row_flatG E hr j u hu
  ·refine h v' w' (by rw [List.length_append,List.flatMap_append]; exact h4) ?_ h5
   refine ⟨h5.os,h5.tape,h5.output,h5.size,fun k hk=>h5.block k (by omega) ?_⟩
   intro e
   rcases hown.2 with ⟨rfl,-⟩ | ⟨g,cap,cur,rfl,hg,-⟩
   ·cases e
   ·simp [Value.ownBlock] at e
    omega
theorem wpList_appendG {ops:Array Oper} {rest:List Oper} {op:Oper} {a:Act} {Q:Exit → Act → World → Prop} (E:Elt T TS m enc d) (hg:op.guard = none) (s x:Operand) (ho:op.op = .call { callee:=.builtin .append,args:=#[s,x],argTypes:=#[TS,TS] })
  (B:Nat) (v:Value) (xs:List α) (hs:a.eval s = v) (hown:w.ownsRow B T m v xs.length (xs.flatMap enc)) (A:Option Addr) (n c:Nat) (ys:List α) (hn:ys.length = n) (hx:a.eval x = .slice A n c) (hy:ArgG enc d m w A c ys)
  (hB:B ≤ w.heap.size) (hl:xs.length + ys.length ≤ 10000000) (h:∀ v' w',w'.ownsRow B T m v' (xs ++ ys).length ((xs ++ ys).flatMap enc) → Below B w w' → w.grownBy w' v.ownBlock → wpList Tryz.prog ops Q rest (a.put op.dst v') w'):wpList Tryz.prog ops Q (op :: rest) a w:=
 wpList_plain hg fun _ hK=>wp_appendG E s x ho B v xs hs hown A n c ys hn hx hy hB hl fun v' w' h1 h2 h3=>hK _ _ (h v' w' h1 h2 h3)
end
end
theorem sign_any (c:UInt8) (w:World):Calls Tryz.prog 238 #[.int .u8 (c.toNat:Int)] w fun e w'=>e = .returned (.bool (okSign c)) ∧ w = w':=by
 have hb:=c.toNat_lt
 have HOK:Hid (okSign c = ((decide (97 ≤ c.toNat) && decide (c.toNat ≤ 122)) || (decide (48 ≤ c.toNat) && decide (c.toNat ≤ 57)) || c.toNat == 46 || c.toNat == 45 || c.toNat == 95)):=rfl
 generalize okSign c = k at *
 generalize c.toNat = n at *
 by_cases h0:n < 97
 ·by_cases h1:n < 48
  ·by_cases h2:n = 46
   ·have d1:decide ((97:Int) ≤ (n:Int)) = false:=by simp; omega
    have d2:decide ((n:Int) ≤ 122) = true:=by simp; omega
    have d3:decide ((48:Int) ≤ (n:Int)) = false:=by simp; omega
    have d4:decide ((n:Int) ≤ 57) = true:=by simp; omega
    have e1:((n:Int) == 46) = true:=by simp; omega
    have e2:((n:Int) == 45) = false:=by simp; omega
    have e3:((n:Int) == 95) = false:=by simp; omega
    have HK:Hid (k = true):=by show _ = _; rw [HOK.out]; simp; omega
    clear h0 h1 h2
    go_enter Tryz.func238,Tryz.ntmps238
    go_wp2
    go_ret
    exact ⟨by rw [HK.out]; rfl,rfl⟩
   ·by_cases h3:n = 45
    ·have d1:decide ((97:Int) ≤ (n:Int)) = false:=by simp; omega
     have d2:decide ((n:Int) ≤ 122) = true:=by simp; omega
     have d3:decide ((48:Int) ≤ (n:Int)) = false:=by simp; omega
     have d4:decide ((n:Int) ≤ 57) = true:=by simp; omega
     have e1:((n:Int) == 46) = false:=by simp; omega
     have e2:((n:Int) == 45) = true:=by simp; omega
     have e3:((n:Int) == 95) = false:=by simp; omega
     have HK:Hid (k = true):=by show _ = _; rw [HOK.out]; simp; omega
     clear h0 h1 h2 h3
     go_enter Tryz.func238,Tryz.ntmps238
     go_wp2
     go_ret
     exact ⟨by rw [HK.out]; rfl,rfl⟩
    ·have d1:decide ((97:Int) ≤ (n:Int)) = false:=by simp; omega
     have d2:decide ((n:Int) ≤ 122) = true:=by simp; omega
     have d3:decide ((48:Int) ≤ (n:Int)) = false:=by simp; omega
     have d4:decide ((n:Int) ≤ 57) = true:=by simp; omega
     have e1:((n:Int) == 46) = false:=by simp; omega
     have e2:((n:Int) == 45) = false:=by simp; omega
     have e3:((n:Int) == 95) = false:=by simp; omega
     have HK:Hid (k = false):=by show _ = _; rw [HOK.out]; simp; omega
     clear h0 h1 h2 h3
     go_enter Tryz.func238,Tryz.ntmps238
     go_wp2
     go_ret
     exact ⟨by rw [HK.out]; rfl,rfl⟩
  ·by_cases h2:n ≤ 57
   ·have d1:decide ((97:Int) ≤ (n:Int)) = false:=by simp; omega
    have d2:decide ((n:Int) ≤ 122) = true:=by simp; omega
    have d3:decide ((48:Int) ≤ (n:Int)) = true:=by simp; omega
    have d4:decide ((n:Int) ≤ 57) = true:=by simp; omega
    have e1:((n:Int) == 46) = false:=by simp; omega
    have e2:((n:Int) == 45) = false:=by simp; omega
    have e3:((n:Int) == 95) = false:=by simp; omega
    have HK:Hid (k = true):=by show _ = _; rw [HOK.out]; simp; omega
    clear h0 h1 h2
    go_enter Tryz.func238,Tryz.ntmps238
    go_wp2
    go_ret
    exact ⟨by rw [HK.out]; rfl,rfl⟩
   ·by_cases h3:n = 95
    ·have d1:decide ((97:Int) ≤ (n:Int)) = false:=by simp; omega
     have d2:decide ((n:Int) ≤ 122) = true:=by simp; omega
     have d3:decide ((48:Int) ≤ (n:Int)) = true:=by simp; omega
     have d4:decide ((n:Int) ≤ 57) = false:=by simp; omega
     have e1:((n:Int) == 46) = false:=by simp; omega
     have e2:((n:Int) == 45) = false:=by simp; omega
     have e3:((n:Int) == 95) = true:=by simp; omega
     have HK:Hid (k = true):=by show _ = _; rw [HOK.out]; simp; omega
     clear h0 h1 h2 h3
     go_enter Tryz.func238,Tryz.ntmps238
     go_wp2
     go_ret
     exact ⟨by rw [HK.out]; rfl,rfl⟩
    ·have d1:decide ((97:Int) ≤ (n:Int)) = false:=by simp; omega
     have d2:decide ((n:Int) ≤ 122) = true:=by simp; omega
     have d3:decide ((48:Int) ≤ (n:Int)) = true:=by simp; omega
     have d4:decide ((n:Int) ≤ 57) = false:=by simp; omega
     have e1:((n:Int) == 46) = false:=by simp; omega
     have e2:((n:Int) == 45) = false:=by simp; omega
     have e3:((n:Int) == 95) = false:=by simp; omega
     have HK:Hid (k = false):=by show _ = _; rw [HOK.out]; simp; omega
     clear h0 h1 h2 h3
     go_enter Tryz.func238,Tryz.ntmps238
     go_wp2
     go_ret
     exact ⟨by rw [HK.out]; rfl,rfl⟩
 ·by_cases h1:n ≤ 122
  ·have d1:decide ((97:Int) ≤ (n:Int)) = true:=by simp; omega
   have d2:decide ((n:Int) ≤ 122) = true:=by simp; omega
   have d3:decide ((48:Int) ≤ (n:Int)) = true:=by simp; omega
   have d4:decide ((n:Int) ≤ 57) = false:=by simp; omega
   have e1:((n:Int) == 46) = false:=by simp; omega
   have e2:((n:Int) == 45) = false:=by simp; omega
   have e3:((n:Int) == 95) = false:=by simp; omega
   have HK:Hid (k = true):=by show _ = _; rw [HOK.out]; simp; omega
   clear h0 h1
   go_enter Tryz.func238,Tryz.ntmps238
   go_wp2
   go_ret
   exact ⟨by rw [HK.out]; rfl,rfl⟩
  ·have d1:decide ((97:Int) ≤ (n:Int)) = true:=by simp; omega
   have d2:decide ((n:Int) ≤ 122) = false:=by simp; omega
   have d3:decide ((48:Int) ≤ (n:Int)) = true:=by simp; omega
   have d4:decide ((n:Int) ≤ 57) = false:=by simp; omega
   have e1:((n:Int) == 46) = false:=by simp; omega
   have e2:((n:Int) == 45) = false:=by simp; omega
   have e3:((n:Int) == 95) = false:=by simp; omega
   have HK:Hid (k = false):=by show _ = _; rw [HOK.out]; simp; omega
   clear h0 h1
   go_enter Tryz.func238,Tryz.ntmps238
   go_wp2
   go_ret
   exact ⟨by rw [HK.out]; rfl,rfl⟩
theorem str_atN (l:List UInt8) (k:Nat) (h:k < l.length) (w:World):(Instr.index 9 (.string ⟨l.toArray⟩) (.int .i64 (k:Int))).run Tryz.prog w = .ok (.int .u8 ((l.getD k 0).toNat:Int)) w:=by
 rw [run_index_string (w:=w) 9 _ _ _ Tryz.underlying9,dif_pos ⟨by omega,by show (k:Int) < ((l.toArray.size:Nat):Int); simp; omega⟩]
 simp only [Int.toNat_natCast]
 have:(ByteArray.mk l.toArray)[k]'(by show k < l.toArray.size; simpa using h) = l.getD k 0:=by
  show l.toArray[k]'_ = _
  simp [List.getElem?_eq_getElem h]
 rw [this]
theorem all_drop (l:List UInt8) (k:Nat) (h:k < l.length):(l.drop k).all okSign = (okSign (l.getD k 0) && (l.drop (k + 1)).all okSign):=by
 rw [List.drop_eq_getElem_cons h,List.all_cons]
 simp [List.getElem?_eq_getElem h]
theorem name_any (l:List UInt8) (w:World):Calls Tryz.prog 200 #[.string ⟨l.toArray⟩] w fun e w'=>e = .returned (.bool (okName l)) ∧ w = w':=by
 by_cases h0:l = []
 ·subst h0
  go_enter Tryz.func200,Tryz.ntmps200
  go_wp2
  go_ret
  exact ⟨rfl,rfl⟩
 by_cases h1:l = [46]
 ·subst h1
  go_enter Tryz.func200,Tryz.ntmps200
  go_wp2
  go_ret
  exact ⟨rfl,rfl⟩
 by_cases h2:l = [46,46]
 ·subst h2
  go_enter Tryz.func200,Tryz.ntmps200
  go_wp2
  go_ret
  exact ⟨rfl,rfl⟩
 have f0:(l == []) = false:=by simp [h0]
 have f1:(l == [46]) = false:=by simp [h1]
 have f2:(l == [46,46]) = false:=by simp [h2]
 by_cases hl:20 < l.length
 ·have HN:Hid (okName l = false):=by show _ = _; unfold okName; rw [decide_eq_false (show ¬ l.length ≤ 20 by omega)]; simp
  have hd:decide ((20:Int) < (l.length:Int)) = true:=by simp; omega
  clear h0 h1 h2 hl
  go_enter Tryz.func200,Tryz.ntmps200
  go_wp2
  go_ret
  exact ⟨by rw [HN.out]; rfl,rfl⟩
 have hp:0 < l.length:=List.length_pos_iff.2 h0
 have HN:Hid (okName l = l.all okSign):=by
  show _ = _
  unfold okName
  rw [f1,f2,decide_eq_true hp,decide_eq_true (show l.length ≤ 20 by omega)]
  rfl
 have hd:decide ((20:Int) < (l.length:Int)) = false:=by simp; omega
 clear h0 h1 h2
 go_enter Tryz.func200,Tryz.ntmps200
 go_wp2
 go_loopw [21] (fun i wr=>∃ k:Nat,k ≤ l.length ∧ i = .int .i64 (k:Int) ∧ wr = w ∧ l.all okSign = (l.drop k).all okSign) (fun i _=>l.length - (intOf i).toNat)
 case atStart=>exact ⟨0,by omega,rfl,rfl,rfl⟩
 case round=>
  obtain ⟨k,hk,rfl,rfl,hall⟩:=hrel
  have HA:=Hy hall
  clear hall
  by_cases hlt:k < l.length
  ·have hidx:=str_atN l k hlt
   have HDR:=Hy (all_drop l k hlt)
   have HS:=Hy fun W=>sign_any (l.getD k 0) W
   generalize l.getD k 0 = c at *
   generalize okSign c = b at *
   go_wp2_with fail
   refine (HS.out _).mono ?_
   rintro e w' ⟨rfl,rfl⟩
   cases b
   ·go_wp2
    go_ret
    exact ⟨by rw [HN.out,HA.out,HDR.out]; rfl,rfl⟩
   ·go_wp2
    go_roundw
    case rel=>exact ⟨k + 1,by omega,by go_num,trivial,by rw [HA.out,HDR.out]; rfl⟩
    case measure=>simp [intOf]; omega
  ·have HR:Hid (l.all okSign = true):=by show _ = _; rw [HA.out,List.drop_eq_nil_of_le (by omega)]; rfl
   go_wp2
   go_ret
   exact ⟨by rw [HN.out,HR.out]; rfl,rfl⟩
theorem q_same {P:Program} {f:FuncId} {args:Array Value} {w:World} {n:Nat} {v:Value}
  (h:Calls P f args (w.drewN n) fun e w'=>e = .returned v ∧ w.drewN n = w'):Calls P f args (w.drewN n) fun e w''=>e = .returned v ∧ ∃ m,w'' = w.drewN m:=
 h.mono fun _ _ ⟨he,hw⟩=>⟨he,n,hw.symm⟩
theorem tmay_any (A:Option Addr) (c:Nat) (es:List En) (w:World) (hA:ArgE w A c es) (hl:es.length ≤ 1048576) :
  Calls Tryz.prog 180 #[.slice A es.length c] w fun e w'=>e = .returned (.bool (mayT es)) ∧ Below w.heap.size w w':=by
 have HA:=Hy hA
 have hlc:=hA.1
 clear hA
 by_cases hm:20 < es.length
 ·have HM:Hid (mayT es = false):=by show _ = _; unfold mayT; rw [decide_eq_false (by omega)]; rfl
  have hd:decide ((20:Int) < (es.length:Int)) = true:=by simp; omega
  clear hm
  go_enter Tryz.func180,Tryz.ntmps180
  go_wp2
  go_ret
  exact ⟨by rw [HM.out]; rfl,Below.refl _ _⟩
 have HM:Hid (mayT es = risesTo es es.length):=by show _ = _; unfold mayT; rw [decide_eq_true (by omega)]; rfl
 have hd:decide ((20:Int) < (es.length:Int)) = false:=by simp; omega
 go_enter Tryz.func180,Tryz.ntmps180
 go_wp2
 go_loopg [3,4,10] es.length (fun g _ _ s10 wr=>∃ k:Nat,k ≤ es.length ∧ es.length - k ≤ g ∧ s10 = .int .i64 k ∧ Hid (Below w.heap.size w wr) ∧ Hid (risesTo es k = true))
 case atStart=>exact ⟨0,Nat.zero_le _,by omega,rfl,Hy (Below.refl _ _),Hy rfl⟩
 case round=>
  obtain ⟨k,hk,hg,rfl,hB,hall⟩:=hrel
  by_cases hlt:k < es.length
  ·have hlt':(k:Int) < (es.length:Int):=by omega
   obtain ⟨b,o,rfl,hr⟩:=(HA.out.later hB.out).2.2.2 (by omega)
   have hrk:=hr k hlt
   have HR:=Hy hr
   obtain ⟨y,hy⟩:∃ y,y = es.getD k default:=⟨_,rfl⟩
   have HY:=Hy hy
   rw [← hy] at hrk
   have HRK:=Hy hrk
   have HRS:=Hy (risesTo_succ es k)
   clear hr hrk hy
   go_wp2_with (first
    | (refine wpList_load_mid rfl 156 _ rfl b (o + k * 34) rfl (encE y) _ HRK.out Tryz.underlying156 rfl (infoE_l y) ?_)
    | (refine wpList_store_whole rfl 156 _ _ rfl wr.heap.size (encE y).toArray rfl rfl 156 _ (Whole.made wr _ _) (infoE_s y) (by rw [encE_size]; kernel_rfl) (encE_all y) ?_; intro w2 hWn hGn; have HW2:=Hy hWn; have D2:=Hy (made_below' hGn); clear hWn hGn))
   simp only [Act.put]
   have HB2:=Hy (hTr hB D2.out)
   have hnm:∀ n,(w2.drewN n).cell? ⟨wr.heap.size,0,none⟩ = some (.string ⟨y.name.toArray⟩):=fun n=>whole_name (HW2.out.drewN n)
   have HN:=Hy fun W=>name_any y.name W
   have HOY:Hid (okAt es k = (okName y.name && (decide (k = 0) || Op.bytesLess (es.getD (k - 1) default).name y.name))):=by show _ = _; rw [HY.out]; rfl
   cases hon:okName y.name with
   | false=>
    rw [hon] at HN
    have HF:Hid (risesTo es es.length = false):=risesTo_not es hlt (by rw [HOY.out,hon]; rfl)
    clear hon
    go_wp2_with fail
    refine wp_region_quiet_lit (by kernel_rfl) (by kernel_rfl) ?_
    repeat (first
     | go_big_quiet_step ((go_at_call 200; exact q_same (HN.out _))))
    refine wpQuiet_nil ?_
    rintro _ ⟨nq,rfl⟩
    go_wp2
    go_ret
    exact ⟨by rw [HM.out,HF.out]; rfl,be_drewN HB2.out nq⟩
   | true=>
    rw [hon] at HN
    by_cases hk0:k = 0
    ·subst hk0
     have HT:Hid (risesTo es 1 = true):=by show _ = _; rw [HRS.out,hall.out,HOY.out,hon]; rfl
     clear hon
     go_wp2_with fail
     refine wp_region_quiet_lit (by kernel_rfl) (by kernel_rfl) ?_
     repeat (first
      | go_big_quiet_step ((go_at_call 200; exact q_same (HN.out _))))
     refine wpQuiet_nil ?_
     rintro _ ⟨nq,rfl⟩
     go_wp2
     go_roundg (es.length - 1)
     case measure=>omega
     case rel=>exact ⟨1,by omega,Nat.le_refl _,by go_num,Hy (be_drewN HB2.out nq),HT⟩
    ·obtain ⟨x,hx⟩:∃ x,x = es.getD (k - 1) default:=⟨_,rfl⟩
     have hbl:=HR.out.lt (by omega)
     have hxm:∀ n,(w2.drewN n).cell? ⟨b,o + (k - 1) * 34,none⟩ = some (.string ⟨x.name.toArray⟩):=fun n=>by
      rw [hx]
      exact ((HR.out.below D2.out hbl).below (be_drewN (Below.refl _ _) n) (Nat.lt_of_lt_of_le hbl D2.out.size)).name (by omega)
     have HX:=Hy hx
     have hw1:wrap64 ((k:Int) - 1) = ((k - 1:Nat):Int):=by unfold wrap64; omega
     have hb1:k - 1 < es.length:=by omega
     have hgt0:(0:Int) < (k:Int):=by omega
     have hgt:0 < k:=by omega
     have HOZ:Hid (okAt es k = Op.bytesLess x.name y.name):=by show _ = _; rw [HOY.out,hon,decide_eq_false hk0,HX.out]; rfl
     clear hx hbl hon hk0
     cases hbl:Op.bytesLess x.name y.name with
     | false=>
      have HF:Hid (risesTo es es.length = false):=risesTo_not es hlt (by rw [HOZ.out,hbl])
      go_wp2_with fail
      refine wp_region_quiet_lit (by kernel_rfl) (by kernel_rfl) ?_
      repeat (first
       | go_big_quiet_step ((go_at_call 200; exact q_same (HN.out _))))
      refine wpQuiet_nil ?_
      rintro _ ⟨nq,rfl⟩
      go_wp2
      go_ret
      exact ⟨by rw [HM.out,HF.out]; rfl,be_drewN HB2.out nq⟩
     | true=>
      have HT:Hid (risesTo es (k + 1) = true):=by show _ = _; rw [HRS.out,hall.out,HOZ.out,hbl]; rfl
      go_wp2_with fail
      refine wp_region_quiet_lit (by kernel_rfl) (by kernel_rfl) ?_
      repeat (first
       | go_big_quiet_step ((go_at_call 200; exact q_same (HN.out _))))
      refine wpQuiet_nil ?_
      rintro _ ⟨nq,rfl⟩
      go_wp2
      go_roundg (es.length - (k + 1))
      case measure=>omega
      case rel=>exact ⟨k + 1,by omega,Nat.le_refl _,by go_num,Hy (be_drewN HB2.out nq),HT⟩
  ·obtain rfl:k = es.length:=by omega
   go_wp2
   go_ret
   exact ⟨by rw [HM.out,hall.out]; rfl,hB.out⟩
end Go.Proofs.YtlfmooihcigolaaGreatDoor

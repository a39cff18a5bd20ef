/-
  BegV, BegW, LexT, BegS.
-/
import Derived.Test.YtlfmooihcigolaaGreatDoorMbf
import Derived.Test.YtlfmooihcigolaaGreatDoorMbr
set_option maxRecDepth 100000
set_option maxHeartbeats 8000000
namespace Go.Proofs.YtlfmooihcigolaaGreatDoor
open Go.RowKit
def nOf (b:UInt8):Nm:=⟨b :: List.replicate 31 0,by rw [List.length_cons,List.length_replicate]⟩
def esB:List En:=[⟨[97],false,nOf 1⟩,⟨[98],true,nOf 2⟩]
def cmB:Cm:=⟨nOf 3,[nOf 4],4619567317775286272,[110]⟩
def obB:Ob:=⟨2,[],esB,noC⟩
theorem esB_may:mayT esB = true:=by decide +kernel
theorem esB_len:(encT esB).length = 72:=by decide +kernel
theorem esB_get:getT (encT esB) = some esB:=getT_put _ esB_may
theorem cmB_may:mayC cmB = true:=by decide +kernel
theorem cmB_len:(bytesC cmB).length ≤ 1000:=by decide +kernel
theorem cmB_get:readC (bytesC cmB) = some cmB:=readC_put _ (by decide) cmB_may
theorem obB_bytes:bytesO obB = encT esB:=rfl
theorem obB_may:mayO' obB = true:=by decide +kernel
theorem obB_get:getOb 2 (encT esB) = (obB,0):=by
 show (if (2:Int) = 1 then _ else if (2:Int) = 2 then _ else _) = _
 rw [if_neg (by decide),if_pos rfl,esB_get]
 rfl
theorem esB_find:findE esB [98] = some ⟨[98],true,nOf 2⟩:=by decide +kernel
theorem pathB:pathV [97,47,98] = some [[97],[98]]:=by decide +kernel
theorem obB_id:encN (idO obB) = (ShaM.sha (named 2 (encT esB))).map Y:=by
 unfold idO
 rw [if_pos obB_may]
 rfl
def TB:List UInt8:=encT esB
def SB:List UInt8:=bytesC cmB
def idB:Nm:=idO obB
def eB:En:=⟨[98],true,nOf 2⟩
theorem b_put (A:Option Addr) (w:World) (hA:ArgE w A 2 esB):Calls Tryz.prog 130 #[.slice A 2 2] w fun e w'=>e = .returned (.tuple #[.string ⟨TB.toArray⟩,.bool true]) ∧ Below w.heap.size w w':=by
 have h:=tput_any A 2 esB w hA (by decide)
 rw [esB_may,if_pos rfl] at h
 exact h
theorem b_get (w:World):Calls Tryz.prog 147 #[.string ⟨TB.toArray⟩] w fun e w'=>(∃ A c,e = .returned (.tuple #[.slice A 2 c,.int .i64 0]) ∧ ArgE w' A c esB) ∧ Below w.heap.size w w':=by
 refine (tget_any TB w (by unfold TB; rw [esB_len]; decide)).mono ?_
 rintro e w' ⟨h,hb⟩
 refine ⟨?_,hb⟩
 rcases h with ⟨es,A,c,hg,he,hA,-⟩ | ⟨hg,-⟩
 ·have:es = esB:=by
   unfold TB at hg
   rw [esB_get] at hg
   injection hg with hg
   exact hg.symm
  subst this
  exact ⟨A,c,he,hA⟩
 ·unfold TB at hg
  rw [esB_get] at hg
  cases hg
theorem b_cput (A:Option Addr) (w:World) (hA:ArgN w A 1 [nOf 4]):Calls Tryz.prog 131 #[.agg (encC A 1 cmB).toArray] w fun e w'=>e = .returned (.tuple #[.string ⟨SB.toArray⟩,.bool true]) ∧ Below w.heap.size w w':=by
 have h:=cput_any A 1 cmB w hA (by decide)
 rw [cmB_may,if_pos rfl] at h
 exact h
theorem b_cget (w:World):Calls Tryz.prog 148 #[.string ⟨SB.toArray⟩] w fun e w'=>(∃ A c,e = .returned (.tuple #[.agg (encC A c cmB).toArray,.int .i64 0]) ∧ ArgN w' A c [nOf 4]) ∧ Below w.heap.size w w':=by
 refine (cget_any SB w (by have:=cmB_len; unfold SB; omega)).mono ?_
 rintro e w' ⟨h,hb⟩
 refine ⟨?_,hb⟩
 rcases h with ⟨x,A,c,hg,he,hA,-⟩ | ⟨hg,-⟩
 ·have:x = cmB:=by
   unfold SB at hg
   rw [cmB_get] at hg
   injection hg with hg
   exact hg.symm
  subst this
  exact ⟨A,c,he,hA⟩
 ·unfold SB at hg
  rw [cmB_get] at hg
  cases hg
theorem argB {w:World} {A:Option Addr} (hA:ArgE w A 2 esB):ArgO w A 2 none 0 obB:=⟨hA,⟨Nat.le_refl _,Nat.zero_le _,fun _=>rfl,fun h=>absurd h (Nat.lt_irrefl _)⟩⟩
theorem b_oput (A:Option Addr) (w:World) (hA:ArgE w A 2 esB):Calls Tryz.prog 73 #[.agg (encO A 2 none 0 obB).toArray] w fun e w'=>e = .returned (.tuple #[.string ⟨TB.toArray⟩,.bool true]) ∧ Below w.heap.size w w':=by
 have h:=oput_any A 2 none 0 obB w (argB hA) (by decide) (by decide)
 rw [obB_may,if_pos rfl] at h
 exact h
theorem b_oget (w:World):Calls Tryz.prog 149 #[.int .i64 2,.string ⟨TB.toArray⟩] w fun e w'=>(∃ A c A2 c2,e = .returned (.tuple #[.agg (encO A c A2 c2 obB).toArray,.int .i64 0]) ∧ ArgO w' A c A2 c2 obB) ∧ Below w.heap.size w w':=by
 have h:=ogetO_any 2 TB w (by unfold TB; rw [esB_len]; decide)
 unfold TB at *
 rw [obB_get] at h
 exact h
theorem b_oid (A:Option Addr) (w:World) (hA:ArgE w A 2 esB) (hTab:Tabs w) (hT:Tens w):Calls Tryz.prog 150 #[.agg (encO A 2 none 0 obB).toArray] w fun e w'=>e = .returned (.tuple #[.agg (encN idB).toArray,.bool true]) ∧ Below w.heap.size w w':=by
 have h:=oid_any A 2 none 0 obB w (argB hA) (by decide) (by decide) hTab hT (fun _=>by rw [obB_bytes,esB_len]; decide)
 rw [obB_may] at h
 exact h
theorem b_links (A:Option Addr) (w:World) (hA:ArgE w A 2 esB):Calls Tryz.prog 151 #[.agg (encO A 2 none 0 obB).toArray] w fun e w'=>(∃ B d,e = .returned (.slice B 2 d) ∧ ArgN w' B d (idsE esB)) ∧ Below w.heap.size w w':=
 olinks2_any A 2 none 0 obB w (argB hA) rfl (by decide)
theorem b_find (A:Option Addr) (w:World) (hA:ArgE w A 2 esB):Calls Tryz.prog 152 #[.slice A 2 2,.string ⟨#[98]⟩] w fun e w'=>e = .returned (.tuple #[.agg (encE eB).toArray,.bool true]) ∧ Below w.heap.size w w':=by
 have h:=tfind_any A 2 esB [98] w hA (by decide)
 rw [esB_find] at h
 exact h
theorem b_path (w:World):Calls Tryz.prog 153 #[.string ⟨#[97,47,98]⟩] w fun e w'=>(∃ A c,e = .returned (.tuple #[.slice A 2 c,.bool true])) ∧ Below w.heap.size w w':=by
 refine (tpath_any [97,47,98] w (by decide)).mono ?_
 rintro e w' ⟨h,hb⟩
 refine ⟨?_,hb⟩
 rcases h with ⟨ps,A,c,hg,he,-⟩ | ⟨hg,-⟩
 ·have:ps = [[97],[98]]:=by
   rw [pathB] at hg
   injection hg with hg
   exact hg.symm
  subst this
  exact ⟨A,c,he⟩
 ·rw [pathB] at hg
  cases hg
theorem b_rid (w:World):Calls Tryz.prog 40 #[.int .i64 2,.string ⟨TB.toArray⟩] w fun e w'=>e = .returned (.agg (encN idB).toArray) ∧ Below w.heap.size w w':=by
 have h:=rid_any 2 TB w (by unfold TB; rw [esB_len]; decide)
 unfold TB at *
 rw [← obB_id] at h
 exact h
theorem b_ceq (A:Option Addr) (c:Nat) (A2:Option Addr) (c2:Nat) (w:World) (hA:ArgN w A c [nOf 4]) (hA2:ArgN w A2 c2 [nOf 4]) :
  Calls Tryz.prog 155 #[.agg (encC A c cmB).toArray,.agg (encC A2 c2 cmB).toArray] w fun e w'=>e = .returned (.bool true) ∧ Below w.heap.size w w':=by
 have h:=ceq_any A c A2 c2 cmB cmB w hA hA2
 rw [eqC_refl] at h
 exact h
theorem obB_eq:eqO obB obB = true:=by decide +kernel
theorem b_oeq (A:Option Addr) (c:Nat) (A2:Option Addr) (c2:Nat) (B:Option Addr) (d:Nat) (B2:Option Addr) (d2:Nat) (w:World) (hA:ArgO w A c A2 c2 obB) (hA2:ArgO w B d B2 d2 obB) :
  Calls Tryz.prog 156 #[.agg (encO A c A2 c2 obB).toArray,.agg (encO B d B2 d2 obB).toArray] w fun e w'=>e = .returned (.bool true) ∧ Below w.heap.size w w':=by
 have h:=oeq_any A c A2 c2 obB B d B2 d2 obB w hA hA2
 rw [obB_eq] at h
 exact h
theorem whole_argB {w:World} {g:Nat} {t:TypeId} (h:Whole w g t (esB.flatMap encE).toArray):ArgE w (some ⟨g,0,none⟩) 2 esB:=by
 refine ⟨Nat.le_refl _,by unfold maxLen; decide,(fun e=>by cases e),fun _=>⟨g,0,rfl,fun i hi j v hv=>?_⟩⟩
 have hj:j < 34:=by
  have:=(List.getElem?_eq_some_iff.1 hv).1
  rwa [encE_len] at this
 rw [Nat.zero_add,h.at_,List.getElem?_toArray,flatE_at esB i j hi hj]
 exact hv
theorem made_on {w:World} (o:Obj) (t:TypeId) (z:Array Value):Whole ((w.alloc o).alloc (.cells z t)) (w.heap.size + 1) t z:=by
 have h:=Whole.made (w.alloc o) t z
 have e:(w.alloc o).heap.size = w.heap.size + 1:=by simp
 rw [e] at h
 exact h
def ccB (g:Nat):Array Value:=#[Value.int .u8 3,Z8,Z8,Z8,Z8,Z8,Z8,Z8,Z8,Z8,Z8,Z8,Z8,Z8,Z8,Z8,Z8,Z8,Z8,Z8,Z8,Z8,Z8,Z8,Z8,Z8,Z8,Z8,Z8,Z8,Z8,Z8,.slice (some ⟨g,0,none⟩) 1 1,.float .f64 4619567317775286272,.string ⟨#[110]⟩]
theorem ccB_eq (g:Nat):ccB g = (encC (some ⟨g,0,none⟩) 1 cmB).toArray:=by kernel_rfl
def n4B:Array Value:=#[Value.int .u8 4,Z8,Z8,Z8,Z8,Z8,Z8,Z8,Z8,Z8,Z8,Z8,Z8,Z8,Z8,Z8,Z8,Z8,Z8,Z8,Z8,Z8,Z8,Z8,Z8,Z8,Z8,Z8,Z8,Z8,Z8,Z8]
theorem n4B_eq:n4B = (encN (nOf 4)).toArray:=by kernel_rfl
theorem ccB_info (g:Nat):(Tryz.prog.info? 47).map (·.size) = some (ccB g).size:=by rw [ccB_eq]; exact infoC_s _ _ _
theorem ccB_all (g:Nat):(ccB g).all (·.oneCell') = true:=by rw [ccB_eq]; exact encC_all _ _ _
theorem ccB_s (g:Nat):35 = (ccB g).size:=by rw [ccB_eq,encC_s]
theorem arg4B {w:World} {g:Nat} (h:Whole w g 30 n4B):ArgN w (some ⟨g,0,none⟩) 1 [nOf 4]:=by
 rw [n4B_eq] at h
 exact arg_one h
def ooB (g:Nat):Array Value:=#[.int .i64 2,.string ⟨#[]⟩,.slice (some ⟨g,0,none⟩) 2 2,Z8,Z8,Z8,Z8,Z8,Z8,Z8,Z8,Z8,Z8,Z8,Z8,Z8,Z8,Z8,Z8,Z8,Z8,Z8,Z8,Z8,Z8,Z8,Z8,Z8,Z8,Z8,Z8,Z8,Z8,Z8,Z8,.slice none 0 0,.float .f64 0,.string ⟨#[]⟩]
theorem ooB_eq (g:Nat):ooB g = (encO (some ⟨g,0,none⟩) 2 none 0 obB).toArray:=by kernel_rfl
theorem ooB_info (g:Nat):(Tryz.prog.info? 49).map (·.size) = some (ooB g).size:=by rw [ooB_eq]; exact infoO_s _ _ _ _ _
theorem ooB_all (g:Nat):(ooB g).all (·.oneCell') = true:=by rw [ooB_eq]; exact encO_all _ _ _ _ _
theorem ooB_s (g:Nat):38 = (ooB g).size:=by rw [ooB_eq,encO_s]
theorem ent_range {w:World} {b o c:Nat} (h:ArgE w (some ⟨b,o,none⟩) c esB):w.rangeAt b (o + 34) (encE eB) ∧ w.rangeAt b (o + 36) (encN (nOf 2)):=by
 obtain ⟨b',o',e,hr⟩:=h.2.2.2 (by decide)
 injection e with e
 injection e with e1 e2
 subst e1 e2
 have h1:w.rangeAt b (o + 34) (encE eB):=hr 1 (by decide)
 refine ⟨h1,fun j v hv=>?_⟩
 have h2:=h1 (j + 2) v (by rw [← hv]; rfl)
 rw [show o + 36 + j = o + 34 + (j + 2) by omega]
 exact h2
theorem ent_some {w:World} {A:Option Addr} {c:Nat} (h:ArgE w A c esB):∃ b o,A = some ⟨b,o,none⟩:=by
 obtain ⟨b',o',e,-⟩:=h.2.2.2 (by decide)
 exact ⟨b',o',e⟩
theorem nm_range {w:World} {b o c:Nat} (h:ArgN w (some ⟨b,o,none⟩) c (idsE esB)):w.rangeAt b (o + 32) (encN (nOf 2)):=by
 obtain ⟨b',o',e,hr⟩:=h.2.2.2 (by decide)
 injection e with e
 injection e with e1 e2
 subst e1 e2
 exact hr 1 (by decide)
theorem nm_some {w:World} {A:Option Addr} {c:Nat} (h:ArgN w A c (idsE esB)):∃ b o,A = some ⟨b,o,none⟩:=by
 obtain ⟨b',o',e,-⟩:=h.2.2.2 (by decide)
 exact ⟨b',o',e⟩
theorem TB_len:TB.length = 72:=esB_len
theorem eql_eB (w:World):(binOp .eql 156 (.agg (encE eB).toArray) (.agg (encE eB).toArray)).run Tryz.prog w = .ok (.bool true) w:=by
 rw [eql_en,decide_eq_true rfl]
theorem eql_idB (w:World):(binOp .eql 30 (.agg (encN idB).toArray) (.agg (encN idB).toArray)).run Tryz.prog w = .ok (.bool true) w:=by
 rw [eql_nm,decide_eq_true rfl]
theorem eql_n2 (w:World):(binOp .eql 30 (.agg (encN (nOf 2)).toArray) (.agg (encN (nOf 2)).toArray)).run Tryz.prog w = .ok (.bool true) w:=by
 rw [eql_nm,decide_eq_true rfl]
def triO (md:Region.Mode) (ops:Array Oper) (o:Oper):List Nat × Nat × List Nat:=
 ((o.after.toList.filter (Region.binds md)).map (·.on),(match o.dst with | some d=>d + 1 | none=>0),o.looksAt ops)
def apT (x y:List Nat × Nat × List Nat):Bool:=
 (match x.2.1 with
  | d + 1=>!y.2.2.contains d && y.2.1 != d + 1
  | 0=>true) &&
 (match y.2.1 with
  | d + 1=>!x.2.2.contains d
  | 0=>true)
def okL:Nat → List (List Nat × Nat × List Nat) → Bool
 | _,[]=>true
 | i,x :: r=>x.1.all (fun on=>Nat.ble (on + 1) i) && r.all (fun y=>y.1.contains i || apT x y) && okL (i + 1) r
theorem apT_eq (md:Region.Mode) (ops:Array Oper) (x y:Oper) (h:apT (triO md ops x) (triO md ops y) = true):x.apart ops y = true:=by
 unfold apT triO at h
 unfold Oper.apart
 rw [Bool.and_eq_true] at *
 obtain ⟨h1,h2⟩:=h
 refine ⟨?_,?_⟩
 ·cases hx:x.dst with
  | none=>rfl
  | some d=>
   rw [hx] at h1
   simp only [Bool.and_eq_true] at h1 ⊢
   refine ⟨h1.1,?_⟩
   have h3:=h1.2
   cases hy:y.dst with
   | none=>rfl
   | some d'=>
    rw [hy] at h3
    simp at h3 ⊢
    omega
 ·cases hy:y.dst with
  | none=>rfl
  | some d=>
   rw [hy] at h2
   exact h2
def Upto (n k:Nat) (listed:Array Bool):Prop:=listed.size = n ∧ ∀ j,j < n → listed[j]? = some (decide (j < k))
theorem Upto.t {n k:Nat} {listed:Array Bool} (h:Upto n k listed) {j:Nat} (hj:j < n) (d:Bool):listed.getD j d = decide (j < k):=by
 rw [Array.getD_eq_getD_getElem?,h.2 j hj]
 rfl
theorem Upto.set {n k:Nat} {listed:Array Bool} (h:Upto n k listed) (hk:k < n):Upto n (k + 1) (listed.setIfInBounds k true):=by
 refine ⟨by rw [Array.size_setIfInBounds,h.1],fun j hj=>?_⟩
 rw [Array.getElem?_setIfInBounds]
 by_cases e:k = j
 ·subst e
  rw [if_pos rfl,if_pos (by rw [h.1]; exact hk)]
  simp
 ·rw [if_neg e,h.2 j hj]
  congr 1
  simp only [decide_eq_decide]
  omega
theorem lexFrom_okL (md:Region.Mode) (ops:Array Oper):∀ (l:List Oper) (k:Nat) (listed:Array Bool),ops.toList.drop k = l → Upto ops.size k listed → k ≤ ops.size → okL k (l.map (triO md ops)) = true → Region.lexFrom md ops l.length k listed = true
 | [],k,listed,hl,hu,hk,_=>by
  have hk2:ops.size ≤ k:=by
   have:=congrArg List.length hl
   rw [List.length_drop,Array.length_toList,List.length_nil] at this
   omega
  show (Region.ready md ops listed).isEmpty = true
  rw [List.isEmpty_iff]
  unfold Region.ready
  rw [List.filter_eq_nil_iff]
  intro i hi
  rw [List.mem_range] at hi
  rw [hu.t hi,decide_eq_true (by omega)]
  simp
 | o :: r,k,listed,hl,hu,hk,h=>by
  have hkn:k < ops.size:=by
   have:=congrArg List.length hl
   rw [List.length_drop,Array.length_toList,List.length_cons] at this
   omega
  have h0:ops[k]? = some o:=by
   have:(ops.toList.drop k)[0]? = some o:=by rw [hl]; rfl
   rw [List.getElem?_drop,Nat.add_zero,Array.getElem?_toList] at this
   exact this
  have hr:ops.toList.drop (k + 1) = r:=by
   rw [← List.drop_drop,hl]
   rfl
  rw [List.map_cons] at h
  unfold okL at h
  simp only [Bool.and_eq_true] at h
  obtain ⟨⟨h1,h2⟩,h3⟩:=h
  show ((Region.ready md ops listed).contains k && Region.free md ops listed k && Region.lexFrom md ops r.length (k + 1) (listed.setIfInBounds k true)) = true
  rw [Bool.and_eq_true,Bool.and_eq_true]
  refine ⟨⟨?_,?_⟩,lexFrom_okL md ops r (k + 1) _ hr (hu.set hkn) hkn h3⟩
  ·rw [List.contains_iff_mem,mem_ready]
   refine ⟨by rw [hu.t hkn]; simp,o,h0,fun e he hb=>?_⟩
   have:=List.all_eq_true.1 h1 e.on (List.mem_map.2 ⟨e,List.mem_filter.2 ⟨Array.mem_toList_iff.2 he,hb⟩,rfl⟩)
   have hlt:e.on < k:=by
    have h5:e.on + 1 ≤ k:=by simpa using this
    exact h5
   rw [hu.t (by omega),decide_eq_true hlt]
  ·unfold Region.free
   rw [h0]
   show ((List.range ops.size).all _) = true
   rw [List.all_eq_true]
   intro j hj
   rw [List.mem_range] at hj
   rw [hu.t hj]
   by_cases hjk:j ≤ k
   ·rcases Nat.lt_or_ge j k with hlt | hge
    ·rw [decide_eq_true hlt]
     simp
    ·obtain rfl:j = k:=by omega
     simp
   ·obtain ⟨oj,hoj⟩:∃ oj,ops[j]? = some oj:=⟨_,Array.getElem?_eq_getElem hj⟩
    have hm:oj ∈ r:=by
     rw [← hr]
     have:(ops.toList.drop (k + 1))[j - (k + 1)]? = some oj:=by
      rw [List.getElem?_drop,show k + 1 + (j - (k + 1)) = j by omega,Array.getElem?_toList]
      exact hoj
     exact List.mem_of_getElem? this
    have h4:=List.all_eq_true.1 h2 (triO md ops oj) (List.mem_map.2 ⟨oj,hm,rfl⟩)
    rw [hoj]
    show (j == k || decide (j < k) || (oj.after.any (fun e=>Region.binds md e && e.on == k) || o.apart ops oj)) = true
    rw [Bool.or_eq_true] at h4
    rcases h4 with h4 | h4
    ·have:oj.after.any (fun e=>Region.binds md e && e.on == k) = true:=by
      rw [List.contains_iff_mem] at h4
      obtain ⟨e,he,hk⟩:=List.mem_map.1 h4
      obtain ⟨he,hb⟩:=List.mem_filter.1 he
      rw [Array.any_eq_true']
      exact ⟨e,Array.mem_toList_iff.1 he,by rw [hb,hk]; simp⟩
     rw [this]
     simp
    ·rw [apT_eq md ops o oj h4]
     simp
theorem lexB_of_table {md:Region.Mode} {l:List Oper} (T:List (List Nat × Nat × List Nat)) (hn:Region.noSelect l.toArray = true) (hT:l.map (triO md l.toArray) = T) (h:okL 0 T = true):Region.lexB md l.toArray = true:=by
 unfold Region.lexB
 rw [hn,Bool.true_and]
 subst hT
 refine lexFrom_okL md l.toArray l 0 _ (by simp) ⟨by simp,fun j hj=>?_⟩ (Nat.zero_le _) h
 rw [Array.getElem?_replicate,if_pos hj]
 simp
def tabB:List (List Nat × Nat × List Nat):=([],81,[]) :: ([0,0],82,[80]) :: ([1],83,[3,81]) :: ([1,2],84,[81,82]) :: ([3,1],85,[83]) :: ([4],86,[2,84]) :: ([5,4],87,[85,84]) :: ([6,4],88,[86,84]) :: ([4,7],89,[84,87]) :: ([8,4],90,[88]) :: ([9],91,[5,89]) :: ([10,9],92,[90,89]) :: ([9,11],93,[89,91]) :: ([12,9],94,[92]) :: ([13],95,[4,93]) :: ([14,13],96,[94,93]) :: ([15,13],97,[95,93]) :: ([13,16],98,[93,96]) :: ([17,13],99,[97]) :: ([18],100,[4,98]) :: ([19,18],101,[99,98]) :: ([20,18],102,[100,98]) :: ([18],103,[1,98]) :: ([22,18],104,[102,98]) :: ([23,18],105,[103,98]) :: ([21,24,18],106,[101,104,98]) :: ([18,25],107,[98,105]) :: ([26,18],108,[106]) :: ([27],109,[8,107]) :: ([27,28],110,[107,108]) :: ([29,27],111,[109]) :: ([30],112,[10,110]) :: ([31,30],113,[111,110]) :: ([30,32],114,[110,112]) :: ([33,30],115,[113]) :: ([34],116,[6,114]) :: ([34],117,[9,114]) :: ([35,36,34,34],118,[115,116,114]) :: ([34,37],119,[114,117]) :: ([38,37],120,[118]) :: ([39],121,[13,119]) :: ([39,40],122,[119,120]) :: ([41,39],123,[121]) :: ([42],124,[12,122]) :: ([42],125,[2,122]) :: ([43,44,42],126,[123,124,122]) :: ([42,45],127,[122,125]) :: ([46,42],128,[126]) :: ([47],129,[15,127]) :: ([48,47],130,[128,127]) :: ([47,49],131,[127,129]) :: ([50,47],132,[130]) :: ([51],133,[11,131]) :: ([51],134,[14,131]) :: ([52,53,51,51],135,[132,133,131]) :: ([51,54],136,[131,134]) :: ([55,54],137,[135]) :: ([56],138,[17,136]) :: ([56,57],139,[136,137]) :: ([58,56],140,[138]) :: ([59],141,[16,139]) :: ([59],142,[2,139]) :: ([61,59,59],143,[141,139]) :: ([60,62,59],144,[140,142,139]) :: ([59,63],145,[139,143]) :: ([64,62],146,[144]) :: ([65],147,[18,145]) :: ([66,65],148,[146,145]) :: ([67,65],149,[147,145]) :: ([65,68],150,[145,148]) :: ([69,65],151,[149]) :: ([70],152,[18,150]) :: ([71,70],153,[151,150]) :: ([72,70],154,[152,150]) :: ([70],155,[1,150]) :: ([74,70],156,[154,150]) :: ([75,70],157,[155,150]) :: ([76,70],158,[156,150]) :: ([73,77,70],159,[153,157,150]) :: ([70,78],160,[150,158]) :: ([79,70],161,[159]) :: ([80],162,[20,160]) :: ([80,81],163,[160,161]) :: ([82,80],164,[162]) :: ([83],165,[19,163]) :: ([83],166,[1,163]) :: ([85,83],167,[165,163]) :: ([86,83],168,[166,163]) :: ([84,87,83],169,[164,167,163]) :: ([83,88],170,[163,168]) :: ([89,83],171,[169]) :: ([90],172,[22,170]) :: ([90,91],173,[170,171]) :: ([92,90],174,[172]) :: ([93],175,[21,173]) :: ([94,93],176,[174,173]) :: ([95,93],177,[175,173]) :: ([93,96],178,[173,176]) :: ([97,93,0,1,2,3,4,5,6,7,8,9,10,11,12,13,14,15,16,17,18,19,20,21,22,23,24,25,26,27,28,29,30,31,32,33,34,35,36,37,38,39,40,41,42,43,44,45,46,47,48,49,50,51,52,53,54,55,56,57,58,59,60,61,62,63,64,65,66,67,68,69,70,71,72,73,74,75,76,77,78,79,80,81,82,83,84,85,86,87,88,89,90,91,92,93,94,95,96,97],1,[177]) :: []
theorem tabB_ok:okL 0 tabB = true:=by decide +kernel
section
open Go.RowKit
theorem begunL_any (w:World) (hE:Env w):Calls Tryz.prog 154 #[] w fun e w'=>e = .returned (.bool true) ∧ Below w.heap.size w w':=by
 have HE:=Hy hE
 clear hE
 go_enter Tryz.func154,Tryz.ntmps154
 go_wp2_with fail
 refine (begun_any _ HE.out).mono ?_
 rintro e w1 ⟨rfl,hB⟩
 have HB:=Hy hB
 clear hB
 go_wp2
 go_ret
 exact ⟨rfl,HB.out⟩
def csB:Array Value:=#[Value.string ⟨#[97]⟩,.bool false,.int .u8 1,Z8,Z8,Z8,Z8,Z8,Z8,Z8,Z8,Z8,Z8,Z8,Z8,Z8,Z8,Z8,Z8,Z8,Z8,Z8,Z8,Z8,Z8,Z8,Z8,Z8,Z8,Z8,Z8,Z8,Z8,Z8,.string ⟨#[98]⟩,.bool true,.int .u8 2,Z8,Z8,Z8,Z8,Z8,Z8,Z8,Z8,Z8,Z8,Z8,Z8,Z8,Z8,Z8,Z8,Z8,Z8,Z8,Z8,Z8,Z8,Z8,Z8,Z8,Z8,Z8,Z8,Z8,Z8,Z8]
theorem csB_eq:csB = (esB.flatMap encE).toArray:=by kernel_rfl
attribute [local irreducible] TB SB idB eB cmB obB esB nOf
theorem begun6_any (w:World) (hE:Env w) (hT:Tens w):Calls Tryz.prog 90 #[] w fun e w'=>e = .returned (.bool true) ∧ Below w.heap.size w w':=by
 have HE:=Hy hE
 have HT:=Hy hT
 clear hE hT
 go_enter Tryz.func90,Tryz.ntmps90
 go_upto_region 2 with fail
 generalize Value.agg #[Value.int .u8 1,Z8,Z8,Z8,Z8,Z8,Z8,Z8,Z8,Z8,Z8,Z8,Z8,Z8,Z8,Z8,Z8,Z8,Z8,Z8,Z8,Z8,Z8,Z8,Z8,Z8,Z8,Z8,Z8,Z8,Z8,Z8] = vA1
 generalize Value.agg #[Value.string ⟨#[97]⟩,.bool false,.int .u8 1,Z8,Z8,Z8,Z8,Z8,Z8,Z8,Z8,Z8,Z8,Z8,Z8,Z8,Z8,Z8,Z8,Z8,Z8,Z8,Z8,Z8,Z8,Z8,Z8,Z8,Z8,Z8,Z8,Z8,Z8,Z8] = vA2
 generalize Value.agg #[Value.int .u8 2,Z8,Z8,Z8,Z8,Z8,Z8,Z8,Z8,Z8,Z8,Z8,Z8,Z8,Z8,Z8,Z8,Z8,Z8,Z8,Z8,Z8,Z8,Z8,Z8,Z8,Z8,Z8,Z8,Z8,Z8,Z8] = vA3
 generalize Value.agg #[Value.string ⟨#[98]⟩,.bool true,.int .u8 2,Z8,Z8,Z8,Z8,Z8,Z8,Z8,Z8,Z8,Z8,Z8,Z8,Z8,Z8,Z8,Z8,Z8,Z8,Z8,Z8,Z8,Z8,Z8,Z8,Z8,Z8,Z8,Z8,Z8,Z8,Z8] = vA4
 have hcs:(#[Value.string ⟨#[97]⟩,.bool false,.int .u8 1,Z8,Z8,Z8,Z8,Z8,Z8,Z8,Z8,Z8,Z8,Z8,Z8,Z8,Z8,Z8,Z8,Z8,Z8,Z8,Z8,Z8,Z8,Z8,Z8,Z8,Z8,Z8,Z8,Z8,Z8,Z8,.string ⟨#[98]⟩,.bool true,.int .u8 2,Z8,Z8,Z8,Z8,Z8,Z8,Z8,Z8,Z8,Z8,Z8,Z8,Z8,Z8,Z8,Z8,Z8,Z8,Z8,Z8,Z8,Z8,Z8,Z8,Z8,Z8,Z8,Z8,Z8,Z8,Z8]:Array Value) = (esB.flatMap encE).toArray:=csB_eq
 rw [hcs]
 have hW0:=Whole.made w 156 (esB.flatMap encE).toArray
 have hb0:=(Below.refl w.heap.size w).alloc (Nat.le_refl _) (.cells (esB.flatMap encE).toArray 156)
 have HR0:=Hy (whole_argB hW0)
 generalize w.alloc (.cells (esB.flatMap encE).toArray 156) = w0 at *
 have T0:=Hy hb0
 clear hb0 hW0 hcs
 go_wp2_with fail
 refine (b_put _ w0 HR0.out).mono ?_
 rintro e w1 ⟨rfl,hb⟩
 have B1:=Hy hb
 have T1:=Hy (hTr T0 hb)
 clear hb
 go_wp2_with fail
 refine (b_get w1).mono ?_
 rintro e w2 ⟨⟨A2,c2,rfl,hr⟩,hb⟩
 have HR2:=Hy hr
 have B2:=Hy hb
 have T2:=Hy (hTr T1 hb)
 clear hb hr
 go_upto_region 5 with (first
  | (refine wpList_store_whole rfl 47 _ _ rfl (w2.heap.size + 1) (ccB w2.heap.size) rfl rfl 47 _ (made_on _ _ _) (ccB_info _) (ccB_s _) (ccB_all _) ?_; intro w3 hWn hGn; have HW3:=Hy hWn; have HG3:=Hy hGn; clear hWn hGn))
 have H4:Hid (Whole (w2.alloc (.cells #[Value.int .u8 4,Z8,Z8,Z8,Z8,Z8,Z8,Z8,Z8,Z8,Z8,Z8,Z8,Z8,Z8,Z8,Z8,Z8,Z8,Z8,Z8,Z8,Z8,Z8,Z8,Z8,Z8,Z8,Z8,Z8,Z8,Z8] 30)) w2.heap.size 30 n4B):=Whole.made w2 30 n4B
 generalize Value.agg #[Value.int .u8 3,Z8,Z8,Z8,Z8,Z8,Z8,Z8,Z8,Z8,Z8,Z8,Z8,Z8,Z8,Z8,Z8,Z8,Z8,Z8,Z8,Z8,Z8,Z8,Z8,Z8,Z8,Z8,Z8,Z8,Z8,Z8] = vC3
 generalize Value.agg #[Value.int .u8 4,Z8,Z8,Z8,Z8,Z8,Z8,Z8,Z8,Z8,Z8,Z8,Z8,Z8,Z8,Z8,Z8,Z8,Z8,Z8,Z8,Z8,Z8,Z8,Z8,Z8,Z8,Z8,Z8,Z8,Z8,Z8] = vC4
 generalize (Value.agg #[Value.int .u8 3,Z8,Z8,Z8,Z8,Z8,Z8,Z8,Z8,Z8,Z8,Z8,Z8,Z8,Z8,Z8,Z8,Z8,Z8,Z8,Z8,Z8,Z8,Z8,Z8,Z8,Z8,Z8,Z8,Z8,Z8,Z8,.slice (some ⟨w2.heap.size,0,none⟩) 1 1,.float .f64 4619567317775286272,.string ⟨#[110]⟩]) = vCC
 generalize #[Value.int .u8 4,Z8,Z8,Z8,Z8,Z8,Z8,Z8,Z8,Z8,Z8,Z8,Z8,Z8,Z8,Z8,Z8,Z8,Z8,Z8,Z8,Z8,Z8,Z8,Z8,Z8,Z8,Z8,Z8,Z8,Z8,Z8] = l4 at *
 have HR3:=Hy (arg4B ((H4.out.past _).grown HG3.out (fun e=>by injection e with e; omega)))
 have hb:Below w2.heap.size w2 w3:=be_grown (((Below.refl w2.heap.size w2).alloc (Nat.le_refl _) _).alloc (by simp) _) HG3.out (by simp; omega) (fun j hj=>by injection hj with hj; omega)
 have B3:=Hy hb
 have T3:=Hy (hTr T2 hb)
 rw [ccB_eq] at HW3
 clear hb H4 HG3
 have hlt:w2.heap.size + 1 < w3.heap.size:=HW3.out.lt
 generalize hg6:w2.heap.size + 1 = g6 at *
 go_wp2_with (refine wpList_load_row rfl 47 _ rfl g6 rfl 47 (encC (some ⟨w2.heap.size,0,none⟩) 1 cmB).toArray (0,0) _ HW3.out Tryz.underlying47 rfl (infoC_s _ _ _) ?_)
 refine (b_cput (some ⟨w2.heap.size,0,none⟩) w3 HR3.out).mono ?_
 rintro e w4 ⟨rfl,hb⟩
 have B4:=Hy hb
 have T4:=Hy (hTr T3 hb)
 clear hb
 go_wp2_with fail
 refine (b_cget w4).mono ?_
 rintro e v5 ⟨⟨A5,c5,rfl,hr⟩,hb⟩
 have HR5v:=Hy hr
 have B5v:=Hy hb
 clear hb hr
 go_upto_region 7 with (refine wpList_store_whole rfl 47 _ _ rfl v5.heap.size (encC A5 c5 cmB).toArray rfl rfl 47 _ (Whole.made v5 _ _) (infoC_s _ _ _) (by rw [encC_s]; rfl) (encC_all _ _ _) ?_; intro w5 hWn hGn; have HW5:=Hy hWn; have HG5:=Hy hGn; clear hWn hGn)
 have hv:Below v5.heap.size v5 w5:=be_grown ((Below.refl v5.heap.size v5).alloc (Nat.le_refl _) _) HG5.out (by simp) (fun j hj=>by injection hj with hj; omega)
 have HR5:=Hy (HR5v.out.later hv)
 have B5:=Hy (hTr B5v hv)
 have T5:=Hy (hTr T4 B5.out)
 clear hv HG5 HR5v
 go_upto_region 8 with (refine wpList_store_whole rfl 49 _ _ rfl w5.heap.size (ooB w.heap.size) rfl rfl 49 _ (Whole.made w5 _ _) (ooB_info _) (ooB_s _) (ooB_all _) ?_; intro w6 hWn hGn; have HW6:=Hy hWn; have HG6:=Hy hGn; clear hWn hGn)
 generalize (Value.agg #[.int .i64 2,.string ⟨#[]⟩,.slice (some ⟨w.heap.size,0,none⟩) 2 2,Z8,Z8,Z8,Z8,Z8,Z8,Z8,Z8,Z8,Z8,Z8,Z8,Z8,Z8,Z8,Z8,Z8,Z8,Z8,Z8,Z8,Z8,Z8,Z8,Z8,Z8,Z8,Z8,Z8,Z8,Z8,Z8,.slice none 0 0,.float .f64 0,.string ⟨#[]⟩]) = vOO
 rw [ooB_eq] at HW6
 have hv:Below w5.heap.size w5 w6:=be_grown ((Below.refl w5.heap.size w5).alloc (Nat.le_refl _) _) HG6.out (by simp) (fun j hj=>by injection hj with hj; omega)
 have B6:=Hy hv
 have T6:=Hy (hTr T5 hv)
 have HRA6:=Hy (((((((HR0.out.later B1.out).later B2.out).later B3.out).later B4.out).later B5.out).later B6.out))
 clear hv HG6
 go_wp2_with (refine wpList_load_row rfl 49 _ rfl w5.heap.size rfl 49 (encO (some ⟨w.heap.size,0,none⟩) 2 none 0 obB).toArray (0,0) _ HW6.out Tryz.underlying49 rfl (infoO_s _ _ _ _ _) ?_)
 refine (b_oput (some ⟨w.heap.size,0,none⟩) w6 HRA6.out).mono ?_
 rintro e w7 ⟨rfl,hb⟩
 have B7:=Hy hb
 have T7:=Hy (hTr T6 hb)
 have HF7:=Hy (HW6.out.below hb HW6.out.lt)
 have HRA7:=Hy (HRA6.out.later hb)
 clear hb
 go_wp2_with fail
 refine (b_oget w7).mono ?_
 rintro e v8 ⟨⟨A8,c8,B8,d8,rfl,hr⟩,hb⟩
 have HR8v:=Hy hr
 have B8v:=Hy hb
 clear hb hr
 go_upto_region 10 with (refine wpList_store_whole rfl 49 _ _ rfl v8.heap.size (encO A8 c8 B8 d8 obB).toArray rfl rfl 49 _ (Whole.made v8 _ _) (infoO_s _ _ _ _ _) (by rw [encO_s]; rfl) (encO_all _ _ _ _ _) ?_; intro w8 hWn hGn; have HW8:=Hy hWn; have HG8:=Hy hGn; clear hWn hGn)
 have hv:Below v8.heap.size v8 w8:=be_grown ((Below.refl v8.heap.size v8).alloc (Nat.le_refl _) _) HG8.out (by simp) (fun j hj=>by injection hj with hj; omega)
 have HR8:=Hy (HR8v.out.later hv)
 have B8x:=Hy (hTr B8v hv)
 have T8:=Hy (hTr T7 B8x.out)
 have HF8:=Hy (HF7.out.below B8x.out HF7.out.lt)
 have HRA8:=Hy (HRA7.out.later B8x.out)
 clear hv HG8 HR8v
 go_wp2_with (refine wpList_load_row rfl 49 _ rfl w5.heap.size rfl 49 (encO (some ⟨w.heap.size,0,none⟩) 2 none 0 obB).toArray (0,0) _ HF8.out Tryz.underlying49 rfl (infoO_s _ _ _ _ _) ?_)
 refine (b_oid (some ⟨w.heap.size,0,none⟩) w8 HRA8.out (HE.out.at_ T8.out).tabs (HT.out.below T8.out)).mono ?_
 rintro e v9 ⟨rfl,hb⟩
 have B9v:=Hy hb
 clear hb
 go_upto_region 11 with (refine wpList_store_whole rfl 30 _ _ rfl v9.heap.size (encN idB).toArray rfl rfl 30 _ (Whole.made v9 _ _) (by rw [encN_size]; exact infoN) (by rw [encN_size]; rfl) (encN_all idB) ?_; intro w9 hWn hGn; have HW9:=Hy hWn; have HG9:=Hy hGn; clear hWn hGn)
 have hv:Below v9.heap.size v9 w9:=be_grown ((Below.refl v9.heap.size v9).alloc (Nat.le_refl _) _) HG9.out (by simp) (fun j hj=>by injection hj with hj; omega)
 have B9:=Hy (hTr B9v hv)
 have T9:=Hy (hTr T8 B9.out)
 have HF9:=Hy (HF8.out.below B9.out HF8.out.lt)
 have HRA9:=Hy (HRA8.out.later B9.out)
 clear hv HG9
 go_wp2_with (refine wpList_load_row rfl 49 _ rfl w5.heap.size rfl 49 (encO (some ⟨w.heap.size,0,none⟩) 2 none 0 obB).toArray (0,0) _ HF9.out Tryz.underlying49 rfl (infoO_s _ _ _ _ _) ?_)
 refine (b_links (some ⟨w.heap.size,0,none⟩) w9 HRA9.out).mono ?_
 rintro e w10 ⟨⟨B10,d10,rfl,hr⟩,hb⟩
 have HR10:=Hy hr
 have B10x:=Hy hb
 have T10:=Hy (hTr T9 hb)
 have HF10:=Hy (HF9.out.below hb HF9.out.lt)
 have HRA10:=Hy (HRA9.out.later hb)
 clear hb hr
 go_wp2_with fail
 refine (b_find (some ⟨w.heap.size,0,none⟩) w10 HRA10.out).mono ?_
 rintro e v11 ⟨rfl,hb⟩
 have B11v:=Hy hb
 clear hb
 go_upto_region 13 with (refine wpList_store_whole rfl 156 _ _ rfl v11.heap.size (encE eB).toArray rfl rfl 156 _ (Whole.made v11 _ _) (infoE_s eB) (by rw [encE_size]; rfl) (encE_all eB) ?_; intro w11 hWn hGn; have HW11:=Hy hWn; have HG11:=Hy hGn; clear hWn hGn)
 have hv:Below v11.heap.size v11 w11:=be_grown ((Below.refl v11.heap.size v11).alloc (Nat.le_refl _) _) HG11.out (by simp) (fun j hj=>by injection hj with hj; omega)
 have B11:=Hy (hTr B11v hv)
 have T11:=Hy (hTr T10 B11.out)
 clear hv HG11
 go_wp2_with fail
 refine (b_path w11).mono ?_
 rintro e w12 ⟨⟨A12,c12,rfl⟩,hb⟩
 have B12:=Hy hb
 have T12:=Hy (hTr T11 hb)
 clear hb
 go_upto_region 14 with fail
 have K11:=Hy B12.out
 have K10:=Hy (hTr B11 K11.out)
 have K9:=Hy (hTr B10x K10.out)
 have K8:=Hy (hTr B9 K9.out)
 have K7:=Hy (hTr B8x K8.out)
 have K6:=Hy (hTr B7 K7.out)
 have K5:=Hy (hTr B6 K6.out)
 have K4:=Hy (hTr B5 K5.out)
 have K3:=Hy (hTr B4 K4.out)
 have K2:=Hy (hTr B3 K3.out)
 have K1:=Hy (hTr B2 K2.out)
 have K0:=Hy (hTr B1 K1.out)
 obtain ⟨b2,o2,rfl⟩:=ent_some HR2.out
 obtain ⟨b3,o3,rfl⟩:=nm_some HR10.out
 have hC:∀ W,(∃ p:Regrown,W = Sort.grow (redrawn w12 p.d) p.os) → Below w12.heap.size w12 W:=fun W h=>below_clsC h
 have L1:Hid (∀ W,(∃ p:Regrown,W = Sort.grow (redrawn w12 p.d) p.os) → W.rangeAt b2 (o2 + 34) (encE eB)):=fun W h=>(ent_range ((HR2.out.later K2.out).later (hC W h))).1
 have L2:Hid (∀ W,(∃ p:Regrown,W = Sort.grow (redrawn w12 p.d) p.os) → W.rangeAt w.heap.size 34 (encE eB)):=fun W h=>by
  have:=(ent_range ((HRA10.out.later K10.out).later (hC W h))).1
  rwa [Nat.zero_add] at this
 have L3:Hid (∀ W,(∃ p:Regrown,W = Sort.grow (redrawn w12 p.d) p.os) → W.rangeAt w.heap.size 36 (encN (nOf 2))):=fun W h=>by
  have:=(ent_range ((HRA10.out.later K10.out).later (hC W h))).2
  rwa [Nat.zero_add] at this
 have L4:Hid (∀ W,(∃ p:Regrown,W = Sort.grow (redrawn w12 p.d) p.os) → W.rangeAt b3 (o3 + 32) (encN (nOf 2))):=fun W h=>nm_range ((HR10.out.later K10.out).later (hC W h))
 have M:=fun {g:Nat} {t:TypeId} {l:List Value} {v:World} (hw:Whole v g t l.toArray) (hk:Below v.heap.size v w12) (W:World) (h:∃ p:Regrown,W = Sort.grow (redrawn w12 p.d) p.os)=>show W.rangeAt g 0 l from whole_range ((hw.below hk hw.lt).below (hC W h) (hw.below hk hw.lt).lt)
 have L5:=Hy (M HW3.out K3.out)
 have L6:=Hy (M HW5.out K5.out)
 have L7:=Hy (M HF10.out K10.out)
 have L8:=Hy (M HW8.out K8.out)
 have L9:=Hy (M HW9.out K9.out)
 have L10:=Hy (M HW11.out K11.out)
 have X1:=Hy fun W (h:Below w12.heap.size w12 W)=>begunL_any W (HE.out.at_ (T12.out.trans (h.mono T12.out.size)))
 have X2:=Hy fun W (h:Below w12.heap.size w12 W)=>b_ceq (some ⟨w2.heap.size,0,none⟩) 1 A5 c5 W ((HR3.out.later K3.out).later h) ((HR5.out.later K5.out).later h)
 have X3:=Hy fun W (h:Below w12.heap.size w12 W)=>b_oeq (some ⟨w.heap.size,0,none⟩) 2 none 0 A8 c8 B8 d8 W (argB ((HRA10.out.later K10.out).later h)) ((HR8.out.later K8.out).later h)
 have X4:=Hy fun W (_:Below w12.heap.size w12 W)=>b_rid W
 clear M hC
 have hTL:=TB_len
 have hq1:=eql_eB
 have hq2:=eql_idB
 have hq3:=eql_n2
 have IC1:=Hy (infoC_l (some ⟨w2.heap.size,0,none⟩) 1 cmB)
 have IC2:=Hy (infoC_l A5 c5 cmB)
 have IO1:=Hy (infoO_l (some ⟨w.heap.size,0,none⟩) 2 none 0 obB)
 have IO2:=Hy (infoO_l A8 c8 B8 d8 obB)
 have II1:=Hy (infoX idB)
 have II2:=Hy (infoX (nOf 2))
 have IE:=Hy (infoE_l eB)
 generalize encC (some ⟨w2.heap.size,0,none⟩) 1 cmB = lc1 at *
 generalize encC A5 c5 cmB = lc2 at *
 generalize encO (some ⟨w.heap.size,0,none⟩) 2 none 0 obB = lo1 at *
 generalize encO A8 c8 B8 d8 obB = lo2 at *
 generalize encN idB = li at *
 generalize encN (nOf 2) = ln at *
 generalize encE eB = le at *
 change (Code.region _ ((_ :: _ :: _ :: _ :: _ :: _ :: _ :: _ :: _ :: _ :: _ :: _ :: _ :: _ :: _ :: _ :: _ :: _ :: _ :: _ :: _ :: _ :: _ :: _ :: _ :: _ :: _ :: _ :: _ :: _ :: _ :: _ :: _ :: _ :: _ :: _ :: _ :: _ :: _ :: _ :: _ :: _ :: _ :: _ :: _ :: _ :: _ :: _ :: _ :: _ :: _ :: _ :: _ :: _ :: _ :: _ :: _ :: _ :: _ :: _ :: _ :: _ :: _ :: _ :: _ :: _ :: _ :: _ :: _ :: _ :: _ :: _ :: _ :: _ :: _ :: _ :: _ :: _ :: _ :: _ :: _ :: _ :: _ :: _ :: _ :: _ :: _ :: _ :: _ :: _ :: _ :: _ :: _ :: _ :: _ :: _ :: _ :: _ :: _ :: []):List Oper).toArray true).wp _ _ _ _
 refine wp_region_quiet_below (by kernel_rfl) (lexB_of_table tabB (by kernel_rfl) (by kernel_rfl) tabB_ok) ?_
 repeat (first
  | go_big_quiet_step ((first
   | (go_at_call 154; exact Calls.regrown_of (X1.out _ (below_regrown _ _ _)))
   | (go_at_call 155; exact Calls.regrown_of (X2.out _ (below_regrown _ _ _)))
   | (go_at_call 156; exact Calls.regrown_of (X3.out _ (below_regrown _ _ _)))
   | (go_at_call 40; exact Calls.regrown_of (X4.out _ (below_regrown _ _ _)))))
  | (refine q_loadm _ _ rfl (by rfl) b2 (o2 + 34) le rfl _ Tryz.underlying156 rfl IE.out L1.out ?_; simp only [Act.put]; go_simp)
  | (refine q_loadm _ _ rfl (by rfl) w.heap.size 34 le rfl _ Tryz.underlying156 rfl IE.out L2.out ?_; simp only [Act.put]; go_simp)
  | (refine q_loadm _ _ rfl (by rfl) w.heap.size 36 ln rfl _ Tryz.underlying30 rfl II2.out L3.out ?_; simp only [Act.put]; go_simp)
  | (refine q_loadm _ _ rfl (by rfl) b3 (o3 + 32) ln rfl _ Tryz.underlying30 rfl II2.out L4.out ?_; simp only [Act.put]; go_simp)
  | (refine q_loadm _ _ rfl (by rfl) g6 0 lc1 rfl _ Tryz.underlying47 rfl IC1.out L5.out ?_; simp only [Act.put]; go_simp)
  | (refine q_loadm _ _ rfl (by rfl) v5.heap.size 0 lc2 rfl _ Tryz.underlying47 rfl IC2.out L6.out ?_; simp only [Act.put]; go_simp)
  | (refine q_loadm _ _ rfl (by rfl) w5.heap.size 0 lo1 rfl _ Tryz.underlying49 rfl IO1.out L7.out ?_; simp only [Act.put]; go_simp)
  | (refine q_loadm _ _ rfl (by rfl) v8.heap.size 0 lo2 rfl _ Tryz.underlying49 rfl IO2.out L8.out ?_; simp only [Act.put]; go_simp)
  | (refine q_loadm _ _ rfl (by rfl) v9.heap.size 0 li rfl _ Tryz.underlying30 rfl II1.out L9.out ?_; simp only [Act.put]; go_simp)
  | (refine q_loadm _ _ rfl (by rfl) v11.heap.size 0 le rfl _ Tryz.underlying156 rfl IE.out L10.out ?_; simp only [Act.put]; go_simp))
 refine wpQuiet_nil ?_
 intro p
 have HBW:=Hy (below_regrown w12 p.d p.os)
 generalize Sort.grow (redrawn w12 p.d) p.os = W at *
 go_wp2
 go_ret
 exact ⟨rfl,T12.out.trans (HBW.out.mono T12.out.size)⟩
end
end Go.Proofs.YtlfmooihcigolaaGreatDoor

/-
  Base, Nm, Eql, QTail.
-/
import Derived.WalkKit
import Derived.WalkLawsBesides
import Derived.Laws.BitsAllLaws
import Derived.Laws.Rows
import Derived.Deep.MidRow
import Derived.Deep.Draws
import Derived.Lib.Hide
import Derived.Sort.LotA
import Derived.Lib.Bytealg
import Derived.Shelf.SlSortCmp.Insertion
import Derived.Test.YtlfmooihcigolaaGreatDoorProg
import Derived.ChangeKeysEq
import Derived.Laws.StructEq
import Derived.StillTail
import Derived.Deep.QuietTactic
import Derived.BigQuiet
import Derived.Lib.QuietBelow
set_option maxRecDepth 100000
set_option maxHeartbeats 8000000
namespace Go.Proofs.YtlfmooihcigolaaGreatDoor
section
open Go.RowKit
theorem Hy {p : Prop} (h : p) : RowKit.Hid p := h
abbrev Z8 : Value := .int .u8 0
theorem hTr {a b c : World} (h : RowKit.Hid (Below a.heap.size a b)) (k : Below b.heap.size b c) : Below a.heap.size a c := h.out.trans (k.mono h.out.size)
end

section
open Go.RowKit
def Whole (w:World) (g:Nat) (t:TypeId) (cs:Array Value):Prop:=w.heap[g]? = some (.cells cs t (0,0))
section
variable {w w' a : World} {g : Nat} {t : TypeId} {cs : Array Value}
theorem Whole.lt (h:Whole w g t cs):g < w.heap.size:=(Array.getElem?_eq_some_iff.1 h).1
theorem Whole.at_ (h:Whole w g t cs) (i:Nat):w.cell? ⟨g,i,none⟩ = cs[i]?:=by
 unfold Whole at h
 simp [World.cell?,h]
theorem Whole.thawed (h:Whole w g t cs) (i:Nat):w.frozen? ⟨g,i,none⟩ = false:=by
 unfold Whole at h
 simp [World.frozen?,h]
theorem Whole.made (w:World) (t:TypeId) (cs:Array Value):Whole (w.alloc (.cells cs t)) w.heap.size t cs:=by
 unfold Whole
 show (w.heap.push _)[w.heap.size]? = _
 simp
theorem Whole.drew (h:Whole w g t cs):Whole w.drew g t cs:=h
theorem Whole.drewN (h:Whole w g t cs) (n:Nat):Whole (w.drewN n) g t cs:=h
theorem Whole.past (h:Whole w g t cs) (o:Obj):Whole (w.alloc o) g t cs:=(Below.heap_alloc w o g h.lt).trans h
theorem Whole.put (h:Whole w g t cs) (i:Nat) (u:Value):Whole (w.setCell ⟨g,i,none⟩ u) g t (cs.setIfInBounds i u):=by
 unfold Whole at h ⊢
 simp [World.setCell,Array.getElem?_modify,h]
theorem Whole.aside (h:Whole w g t cs) {p:Addr} (hp:g ≠ p.block) (u:Value):Whole (w.setCell p u) g t cs:=(Below.heap_setCell w p u g hp).trans h
theorem Whole.below {B:Nat} (h:Whole w g t cs) (hb:Below B w w') (hg:g < B):Whole w' g t cs:=(hb.block g hg).trans h
theorem Whole.grown {row:Option Nat} (h:Whole w g t cs) (hb:w.grownBy w' row) (hg:some g ≠ row):Whole w' g t cs:=(hb.block g h.lt hg).trans h
end
section
variable {a b c w : World} {row : Option Nat} {g : Nat}
theorem gr_refl (w:World) (row:Option Nat):w.grownBy w row:=⟨rfl,rfl,rfl,Nat.le_refl _,fun _ _ _=>rfl⟩
theorem gr_trans (h:a.grownBy b row) (k:b.grownBy c row):a.grownBy c row:=
 ⟨k.os.trans h.os,k.tape.trans h.tape,k.output.trans h.output,Nat.le_trans h.size k.size,fun i hi hn=>(k.block i (Nat.lt_of_lt_of_le hi h.size) hn).trans (h.block i hi hn)⟩
theorem gr_drew (h:a.grownBy w row):a.grownBy w.drew row:=⟨h.os,h.tape,h.output,h.size,h.block⟩
theorem gr_drewN (h:a.grownBy w row) (n:Nat):a.grownBy (w.drewN n) row:=⟨h.os,h.tape,h.output,h.size,h.block⟩
theorem gr_set (h:a.grownBy w row) {p:Addr} (hp:some p.block = row ∨ a.heap.size ≤ p.block) (u:Value):a.grownBy (w.setCell p u) row:=
 ⟨h.os,h.tape,h.output,by simpa [World.setCell] using h.size,fun i hi hn=>(Below.heap_setCell w p u i (by
  rintro rfl
  rcases hp with hp | hp
  ·exact hn hp
  ·omega)).trans (h.block i hi hn)⟩
theorem gr_below (h:a.grownBy w row) (hb:Below w.heap.size w b):a.grownBy b row:=
 gr_trans h ⟨hb.os,hb.tape,hb.output,hb.size,fun i hi _=>hb.block i hi⟩
theorem gr_grown {row':Option Nat} (h:a.grownBy w row) (k:w.grownBy b row') (hr:row' = row ∨ ∀ j,row' = some j → a.heap.size ≤ j):a.grownBy b row:=
 ⟨k.os.trans h.os,k.tape.trans h.tape,k.output.trans h.output,Nat.le_trans h.size k.size,fun i hi hn=>(k.block i (Nat.lt_of_lt_of_le hi h.size) (fun e=>by
  rcases hr with rfl | hr
  ·exact hn e
  ·have:=hr i e.symm; omega)).trans (h.block i hi hn)⟩
theorem be_grown {B:Nat} {row:Option Nat} (h:Below B a w) (k:w.grownBy b row) (hB:B ≤ w.heap.size) (hr:∀ j,row = some j → B ≤ j):Below B a b:=h.grown k hB hr
theorem be_setRow {B g:Nat} (h:Below B a w) (hg:B ≤ g) (cs:Array Value):Below B a (w.setRow g cs):=
 ⟨h.os,h.tape,h.output,by simpa using h.size,fun k hk=>(setRow_other w g k cs (by omega)).trans (h.block k hk)⟩
theorem be_drewN {B:Nat} (h:Below B a w) (n:Nat):Below B a (w.drewN n):=⟨h.os,h.tape,h.output,h.size,h.block⟩
end
theorem far_at (b i j:Nat) (h:j < i):(⟨b,j,none⟩:Addr) ≠ ⟨b,i,none⟩:=fun e=>by injection e with _ e; omega
theorem run_index_one {P:Program} (T E n:Nat) (cs:Array Value) (k:Nat) (v:Value) (d:TypeDesc) (hu:P.underlying T = some (.array n E)) (he:P.underlying E = some d) (hd:(match d with | .struct _ | .array _ _=>true | _=>false) = false)
  (hi:(P.info? E).map (·.size) = some 1) (hk:k < n) (hv:cs[k]? = some v) (w:World):(Instr.index T (.agg cs) (.int .i64 (k:Int))).run P w = .ok v w:=by
 cases hq:P.info? E with
 | none=>simp [hq] at hi
 | some i=>
  have hs:i.size = 1:=by simpa [hq] using hi
  have hk2:¬ n ≤ k:=by omega
  have hagg:(isAgg E).run P w = .ok false w:=by
   unfold isAgg
   rw [Sem.run_bind,run_underlying he w]
   cases d <;> simp_all
  simp [Instr.index,asIntOf,run_underlying hu,hk2,sizeOf,typeInfo,hq,hs,part,hagg,hv]
theorem run_slice_arr {P:Program} (T E n b o k:Nat) (hu:P.underlying T = some (.array n E)) (hi:(P.info? E).map (·.size) = some 1) (hk:k < n) (W:World) :
  (Instr.sliceAt T (.pointer (some ⟨b,o,none⟩)) (some (.int .i64 (k:Int))) none none).run P W = .ok (.slice (some ⟨b,o + k,none⟩) (n - k) (n - k)) W:=by
 have hl:P.arrayLen T = n:=by simp [Program.arrayLen,hu]
 have he:P.elem T = E:=by simp [Program.elem,hu]
 have h:=run_sliceAt_array_l (P:=P) W T ⟨b,o,none⟩ (by rw [hl,he]; exact hu) .i64 (k:Int) (by omega) (by rw [hl]; omega)
 rw [h,hl,he]
 cases hq:P.info? E with
 | none=>simp [hq] at hi
 | some i=>
  have hs:i.size = 1:=by simpa [hq] using hi
  have hne:¬ n = k:=by omega
  have ha:(⟨b,o,none⟩:Addr).add k = ⟨b,o + k,none⟩:=Addr.add_mid b o k
  simp [sizeOf,typeInfo,hq,hs,slicedAt,hne,ha]
theorem q_left {P:Program} {f:FuncId} {args:Array Value} {w:World} {n:Nat} {v:Value}
  (h:Calls P f args (w.drewN n) fun e w'=>e = .returned v ∧ w.drewN n = w'):Calls P f args (w.drewN n) fun e w''=>e = .returned v ∧ ∃ m,w'' = w.drewN m:=
 h.mono fun _ _ ⟨he,hm⟩=>⟨he,n,hm.symm⟩
theorem q_draw {P:Program} {f:FuncId} {args:Array Value} {w:World} {n:Nat} {v:Value}
  (h:Calls P f args (w.drewN n) fun e w'=>e = .returned v ∧ ∃ m,w' = (w.drewN n).drewN m):Calls P f args (w.drewN n) fun e w''=>e = .returned v ∧ ∃ m,w'' = w.drewN m:=
 h.mono fun _ _ ⟨he,m,hm⟩=>⟨he,n + m,by rw [hm,World.drewN_drewN]⟩
def U (x:BitVec 32):Value:=.int .u32 (x.toNat:Int)
def Y (x:UInt8):Value:=.int .u8 (x.toNat:Int)
theorem u_add (x y:BitVec 32):IntKind.u32.wrap ((x.toNat:Int) + (y.toNat:Int)) = ((x + y).toNat:Int):=by
 rw [IntKind.wrap_u32',BitVec.toNat_add]; omega
theorem u_add_mod (x y:BitVec 32):((x.toNat:Int) + (y.toNat:Int)) % 4294967296 = ((x + y).toNat:Int):=by
 rw [← u_add,IntKind.wrap_u32']
theorem u_and (x y:BitVec 32):bits .and .u32 (x.toNat:Int) (y.toNat:Int) = ((x &&& y).toNat:Int):=by
 rw [u32_and_nat _ _ x.isLt y.isLt,BitVec.toNat_and]
theorem u_or (x y:BitVec 32):bits .or .u32 (x.toNat:Int) (y.toNat:Int) = ((x ||| y).toNat:Int):=by
 rw [u32_or_nat _ _ x.isLt y.isLt,BitVec.toNat_or]
theorem u_xor (x y:BitVec 32):bits .xor .u32 (x.toNat:Int) (y.toNat:Int) = ((x ^^^ y).toNat:Int):=by
 rw [u32_xor_nat _ _ x.isLt y.isLt,BitVec.toNat_xor]
theorem u_not (x:BitVec 32):bits .xor .u32 IntKind.u32.max (x.toNat:Int) = ((~~~x).toNat:Int):=by
 have h:(IntKind.u32.max:Int) = ((BitVec.allOnes 32).toNat:Int):=by decide
 rw [h,u_xor,BitVec.allOnes_xor]
theorem u_sum5 (a b c d e:BitVec 32):((a.toNat:Int) + (b.toNat:Int) + (c.toNat:Int) + (d.toNat:Int) + (e.toNat:Int)) % 4294967296 = ((a + b + c + d + e).toNat:Int):=by
 simp only [BitVec.toNat_add]; omega
theorem u_shl (x:BitVec 32) (k:Nat):IntKind.u32.wrap ((x.toNat:Int) * 2 ^ k) = ((x <<< k).toNat:Int):=by
 rw [IntKind.wrap_u32',BitVec.toNat_shiftLeft,Nat.shiftLeft_eq]
 have:((x.toNat * 2 ^ k:Nat):Int) = (x.toNat:Int) * 2 ^ k:=by simp
 omega
theorem u_shl_mod (x:BitVec 32) (k:Nat):(x.toNat:Int) * 2 ^ k % 4294967296 = ((x <<< k).toNat:Int):=by
 rw [← u_shl,IntKind.wrap_u32']
theorem u_shr (x:BitVec 32) (k:Nat):(x.toNat:Int) / 2 ^ k = ((x >>> k).toNat:Int):=by
 rw [BitVec.toNat_ushiftRight,Nat.shiftRight_eq_div_pow]
 simp
theorem Y_ofNat (n:Nat):Y (UInt8.ofNat n) = .int .u8 ((n % 256:Nat):Int):=by unfold Y; simp
theorem Y_int {n:Nat} {i:Int} (h:i = ((n % 256:Nat):Int)):Value.int .u8 i = Y (UInt8.ofNat n):=by rw [Y_ofNat,h]
theorem be_val (a b c d:UInt8):bits .or .u32 (bits .or .u32 (bits .or .u32 ((a.toNat:Int) % 4294967296 * 16777216 % 4294967296) ((b.toNat:Int) % 4294967296 * 65536 % 4294967296)) ((c.toNat:Int) % 4294967296 * 256 % 4294967296)) ((d.toNat:Int) % 4294967296) =
  ((BitVec.ofNat 32 (a.toNat * 16777216 + b.toNat * 65536 + c.toNat * 256 + d.toNat)).toNat:Int):=by
 have ha:=a.toNat_lt
 have hb:=b.toNat_lt
 have hc:=c.toNat_lt
 have hd:=d.toNat_lt
 have e1:(a.toNat:Int) % 4294967296 * 16777216 % 4294967296 = ((2 ^ 24 * a.toNat:Nat):Int):=by omega
 have e2:(b.toNat:Int) % 4294967296 * 65536 % 4294967296 = ((b.toNat * 65536:Nat):Int):=by omega
 have e3:(c.toNat:Int) % 4294967296 * 256 % 4294967296 = ((c.toNat * 256:Nat):Int):=by omega
 have e4:(d.toNat:Int) % 4294967296 = (d.toNat:Int):=by omega
 rw [e1,e2,e3,e4,u32_or_nat _ _ (by omega) (by omega),← Nat.two_pow_add_eq_or_of_lt (by omega),u32_or_nat _ _ (by omega) (by omega)]
 have f2:2 ^ 24 * a.toNat + b.toNat * 65536 = 2 ^ 16 * (a.toNat * 256 + b.toNat):=by omega
 rw [f2,← Nat.two_pow_add_eq_or_of_lt (by omega),u32_or_nat _ _ (by omega) (by omega)]
 have f3:2 ^ 16 * (a.toNat * 256 + b.toNat) + c.toNat * 256 = 2 ^ 8 * ((a.toNat * 256 + b.toNat) * 256 + c.toNat):=by omega
 rw [f3,← Nat.two_pow_add_eq_or_of_lt (by omega),BitVec.toNat_ofNat]
 omega
theorem ret_int {k:IntKind} {a b:Int} (h:a = b):Ending.returned (.int k a) = .returned (.int k b):=by rw [h]
end
section
open Go.Lib Go.Sort
structure Nm where
 l:List UInt8
 h:l.length = 32
instance:Inhabited Nm:=⟨⟨List.replicate 32 0,List.length_replicate⟩⟩
theorem Nm.same {a b:Nm} (h:a.l = b.l):a = b:=by
 cases a
 cases b
 simp only at h
 subst h
 rfl
instance:DecidableEq Nm:=fun a b=>if h:a.l = b.l then .isTrue (Nm.same h) else .isFalse fun e=>h (by rw [e])
theorem cb_lt:∀ a b:List UInt8,compareBytes a b < 0 ↔ a < b
 | [],[]=>by simp [compareBytes]
 | [],_ :: _=>by simp [compareBytes]
 | _ :: _,[]=>by simp [compareBytes]
 | a :: l,b :: m=>by
  unfold compareBytes
  rw [List.cons_lt_cons_iff]
  by_cases h:a < b
  ·simp [h]
  ·rw [if_neg h]
   by_cases h2:b < a
   ·have hne:a ≠ b:=fun e=>by subst e; exact absurd h2 (UInt8.lt_irrefl _)
    simp [h2,h,hne]
   ·rw [if_neg h2,cb_lt l m]
    have he:a = b:=UInt8.le_antisymm (UInt8.not_lt.1 h2) (UInt8.not_lt.1 h)
    simp [he,UInt8.lt_irrefl]
def cmpN (x y:Nm):Int:=compareBytes x.l y.l
def ltN (x y:Nm):Prop:=x.l < y.l
instance (x y:Nm):Decidable (ltN x y):=inferInstanceAs (Decidable (x.l < y.l))
theorem ltOf_cmpN (x y:Nm):ltOf cmpN x y = decide (ltN x y):=by
 exact decide_eq_decide.2 (cb_lt x.l y.l)
theorem ltN_irrefl (x:Nm):¬ ltN x x:=List.lt_irrefl x.l
theorem ltN_trans {x y z:Nm} (h:ltN x y) (k:ltN y z):ltN x z:=List.lt_trans h k
theorem ltN_total {x y:Nm} (h:¬ ltN x y) (k:¬ ltN y x):x = y:=Nm.same (List.le_antisymm (List.not_lt.1 k) (List.not_lt.1 h))
theorem ltN_of_not {x y:Nm} (h:¬ ltN x y) (k:x ≠ y):ltN y x:=Decidable.byContradiction fun g=>k (ltN_total h g)
theorem swoN:SWO (ltOf cmpN) where
 irrefl x:=by rw [ltOf_cmpN]; simpa using ltN_irrefl x
 trans x y z h k:=by
  rw [ltOf_cmpN] at *
  simp only [decide_eq_true_eq] at *
  exact ltN_trans h k
 ntrans x y z h k:=by
  rw [ltOf_cmpN] at *
  simp only [decide_eq_false_iff_not] at *
  unfold ltN at *
  rw [List.not_lt] at *
  exact List.le_trans k h
def Rise (l:List Nm):Prop:=l.Pairwise ltN
theorem rise_uniq:∀ {s t:List Nm},Rise s → Rise t → (∀ x,x ∈ s ↔ x ∈ t) → s = t
 | [],[],_,_,_=>rfl
 | [],b :: t,_,_,h=>by have:=(h b).2 (by simp); cases this
 | a :: s,[],_,_,h=>by have:=(h a).1 (by simp); cases this
 | a :: s,b :: t,hs,ht,h=>by
  obtain ⟨hs1,hs2⟩:=List.pairwise_cons.1 hs
  obtain ⟨ht1,ht2⟩:=List.pairwise_cons.1 ht
  have hab:a = b:=by
   have h1:=(h a).1 (by simp)
   have h2:=(h b).2 (by simp)
   rw [List.mem_cons] at h1 h2
   rcases h1 with h1 | h1
   ·exact h1
   ·rcases h2 with h2 | h2
    ·exact h2.symm
    ·exact absurd (ltN_trans (hs1 b h2) (ht1 a h1)) (ltN_irrefl a)
  subst hab
  rw [rise_uniq hs2 ht2 fun x=>?_]
  constructor
  ·intro hx
   have:=(h x).1 (by simp [hx])
   rw [List.mem_cons] at this
   rcases this with rfl | this
   ·exact absurd (hs1 _ hx) (ltN_irrefl _)
   ·exact this
  ·intro hx
   have:=(h x).2 (by simp [hx])
   rw [List.mem_cons] at this
   rcases this with rfl | this
   ·exact absurd (ht1 _ hx) (ltN_irrefl _)
   ·exact this
def cptk (d:List Nm):Nat → List Nm
 | 0=>[]
 | m + 1=>if m ≠ 0 ∧ d.getD m default = d.getD (m - 1) default then cptk d m else cptk d m ++ [d.getD m default]
theorem cptk_len (d:List Nm):∀ m,(cptk d m).length ≤ m
 | 0=>Nat.le_refl _
 | m + 1=>by
  have:=cptk_len d m
  unfold cptk
  split
  ·omega
  ·rw [List.length_append,List.length_singleton]; omega
theorem cptk_mem (d:List Nm):∀ m,m ≤ d.length → ∀ x,x ∈ cptk d m ↔ x ∈ d.take m
 | 0,_,x=>by simp [cptk]
 | m + 1,h,x=>by
  have ih:=cptk_mem d m (by omega) x
  have hm:d.getD m default = d[m]'(by omega):=by simp [List.getD,List.getElem?_eq_getElem (show m < d.length by omega)]
  rw [List.take_succ_eq_append_getElem (by omega),List.mem_append,List.mem_singleton,← hm]
  unfold cptk
  split
  ·rename_i hh
   rw [ih]
   constructor
   ·exact .inl
   ·rintro (h1 | rfl)
    ·exact h1
    ·rw [hh.2]
     have h1:m - 1 < (d.take m).length:=by rw [List.length_take]; omega
     have:d.getD (m - 1) default = (d.take m)[m - 1]:=by
      rw [List.getElem_take]
      simp [List.getD,List.getElem?_eq_getElem (show m - 1 < d.length by omega)]
     rw [this]
     exact List.getElem_mem h1
  ·rw [List.mem_append,List.mem_singleton,ih]
def Ord (d:List Nm):Prop:=∀ i j,i < j → j < d.length → ¬ ltN (d.getD j default) (d.getD i default)
theorem cptk_rise (d:List Nm) (hd:Ord d):∀ m,m ≤ d.length → Rise (cptk d m) ∧ (m ≠ 0 → (cptk d m).getLast? = some (d.getD (m - 1) default))
 | 0,_=>⟨List.Pairwise.nil,fun h=>absurd rfl h⟩
 | m + 1,h=>by
  obtain ⟨h1,h2⟩:=cptk_rise d hd m (by omega)
  unfold cptk
  split
  ·rename_i hh
   exact ⟨h1,fun _=>by rw [h2 hh.1,Nat.add_sub_cancel,hh.2]⟩
  ·rename_i hh
   refine ⟨List.pairwise_append.2 ⟨h1,List.pairwise_singleton _ _,fun a ha b hb=>?_⟩,fun _=>by rw [List.getLast?_append,Nat.add_sub_cancel]; rfl⟩
   rw [List.mem_singleton] at hb
   subst hb
   have hm0:m ≠ 0:=by
    rintro rfl
    simp [cptk] at ha
   have hne:d.getD m default ≠ d.getD (m - 1) default:=fun e=>hh ⟨hm0,e⟩
   have hlast:=h2 hm0
   have hlt:ltN (d.getD (m - 1) default) (d.getD m default):=ltN_of_not (hd (m - 1) m (by omega) (by omega)) hne
   by_cases hal:a = d.getD (m - 1) default
   ·rw [hal]; exact hlt
   ·have hne2:cptk d m ≠ []:=fun e=>by rw [e] at ha; cases ha
    have hcat:=List.dropLast_concat_getLast hne2
    have hgl:(cptk d m).getLast hne2 = d.getD (m - 1) default:=by
     rw [List.getLast?_eq_some_getLast hne2] at hlast
     exact Option.some.inj hlast
    rw [← hcat,hgl] at ha h1
    rw [List.mem_append,List.mem_singleton] at ha
    rcases ha with ha | ha
    ·exact ltN_trans ((List.pairwise_append.1 h1).2.2 a ha _ (by simp)) hlt
    ·exact absurd ha hal
theorem cptk_all (d:List Nm):∀ m,m ≤ d.length → (∀ i,0 < i → i < m → d.getD i default ≠ d.getD (i - 1) default) → cptk d m = d.take m
 | 0,_,_=>by simp [cptk]
 | m + 1,h,hh=>by
  have ih:=cptk_all d m (by omega) fun i h0 h1=>hh i h0 (by omega)
  unfold cptk
  rw [if_neg (fun e=>hh m (by omega) (by omega) e.2),ih,List.take_succ_eq_append_getElem (by omega)]
  simp [List.getD,List.getElem?_eq_getElem (show m < d.length by omega)]
theorem cptk_step (d:List Nm) (m:Nat) (hm:0 < m):cptk d (m + 1) = if d.getD m default = d.getD (m - 1) default then cptk d m else cptk d m ++ [d.getD m default]:=by
 rw [cptk]
 by_cases h:d.getD m default = d.getD (m - 1) default
 ·rw [if_pos ⟨by omega,h⟩,if_pos h]
 ·rw [if_neg (fun e=>h e.2),if_neg h]
end
section
open Go.RowKit
theorem part_byte (xs:List UInt8) (i:Nat) (hi:i < xs.length) (w:World):(part 5 (xs.map Y).toArray i).run Tryz.prog w = .ok (Y (xs.getD i 0)) w:=by
 have hagg:(isAgg 5).run Tryz.prog w = .ok false w:=by
  unfold isAgg
  rw [Sem.run_bind,run_underlying Tryz.underlying5 w]
  rfl
 have hv:(xs.map Y).toArray[i]? = some (Y (xs.getD i 0)):=by simp [List.getElem?_eq_getElem hi]
 simp [part,hagg,hv,Y]
theorem eqItems_bytes (d:Nat) (xs ys:List UInt8) (w:World):∀ is:List Nat,(∀ i ∈ is,i < xs.length ∧ i < ys.length) →
  (Op.eqItems (d + 1) 5 1 (xs.map Y).toArray (ys.map Y).toArray is).run Tryz.prog w = .ok (is.all fun i=>xs.getD i 0 == ys.getD i 0) w
 | [],_=>by simp [Op.eqItems]
 | i :: is,h=>by
  obtain ⟨h1,h2⟩:=h i (by simp)
  have hp:=part_byte xs i h1 w
  have hq:=part_byte ys i h2 w
  have he:(Op.equalIn (d + 1) 5 (Y (xs.getD i 0)) (Y (ys.getD i 0))).run Tryz.prog w = .ok (((xs.getD i 0).toNat:Int) == ((ys.getD i 0).toNat:Int)) w:=run_equalIn_int (P:=Tryz.prog) w d 5 .u8 .u8 _ _ Tryz.underlying5
  have ih:=eqItems_bytes d xs ys w is (fun j hj=>h j (by simp [hj]))
  have hb:(((xs.getD i 0).toNat:Int) == ((ys.getD i 0).toNat:Int)) = (xs.getD i 0 == ys.getD i 0):=by
   rw [Bool.eq_iff_iff]
   simp only [beq_iff_eq]
   constructor
   ·intro e
    exact UInt8.toNat_inj.1 (by omega)
   ·intro e
    rw [e]
  simp only [Op.eqItems,Nat.mul_one,Sem.run_bind,hp,hq,Result.andThen_ok]
  rw [he,Result.andThen_ok,hb,List.all_cons]
  cases hc:(xs.getD i 0 == ys.getD i 0)
  ·simp
  ·simpa using ih
theorem all_range (xs ys:List UInt8) (n:Nat) (hx:xs.length = n) (hy:ys.length = n):((List.range n).all fun i=>xs.getD i 0 == ys.getD i 0) = decide (xs = ys):=by
 rw [Bool.eq_iff_iff]
 simp only [List.all_eq_true,List.mem_range,beq_iff_eq,decide_eq_true_eq]
 constructor
 ·intro h
  apply List.ext_getElem (by omega)
  intro i h1 h2
  have:=h i (by omega)
  simpa [List.getD,List.getElem?_eq_getElem h1,List.getElem?_eq_getElem h2] using this
 ·rintro rfl i _
  rfl
theorem equalIn_bytes (T n:Nat) (d:Nat) (hT:Tryz.prog.underlying T = some (.array n 5)) (xs ys:List UInt8) (hx:xs.length = n) (hy:ys.length = n) (w:World) :
  (Op.equalIn (d + 1 + 1) T (.agg (xs.map Y).toArray) (.agg (ys.map Y).toArray)).run Tryz.prog w = .ok (decide (xs = ys)) w:=by
 have hc:Tryz.prog.cellsOf 5 = 1:=by kernel_rfl
 have hi:∃ i,Tryz.prog.info? 5 = some i:=by
  cases h:Tryz.prog.info? 5 with
  | some i=>exact ⟨i,rfl⟩
  | none=>exact absurd (show (Tryz.prog.info? 5).isSome = true by kernel_rfl) (by rw [h]; decide)
 obtain ⟨i,hi⟩:=hi
 rw [run_equalIn_array (P:=Tryz.prog) w (d + 1) _ _ hT hi,hc,eqItems_bytes d xs ys w _ (by intro j hj; rw [List.mem_range] at hj; omega),all_range xs ys n hx hy]
theorem eql_bytes (T n:Nat) (hT:Tryz.prog.underlying T = some (.array n 5)) (xs ys:List UInt8) (hx:xs.length = n) (hy:ys.length = n) (w:World) :
  (binOp .eql T (.agg (xs.map Y).toArray) (.agg (ys.map Y).toArray)).run Tryz.prog w = .ok (.bool (decide (xs = ys))) w:=by
 rw [run_eql_struct (P:=Tryz.prog) w T,equalIn_bytes T n 9998 hT xs ys hx hy w]
 rfl
theorem neq_bytes (T n:Nat) (hT:Tryz.prog.underlying T = some (.array n 5)) (xs ys:List UInt8) (hx:xs.length = n) (hy:ys.length = n) (w:World) :
  (binOp .neq T (.agg (xs.map Y).toArray) (.agg (ys.map Y).toArray)).run Tryz.prog w = .ok (.bool (!decide (xs = ys))) w:=by
 rw [run_neq_struct (P:=Tryz.prog) w T,equalIn_bytes T n 9998 hT xs ys hx hy w]
 rfl
end
section
section
variable {P : Program} {ops : Array Oper} {md : Region.Mode} {C : World → Prop}
def sinkF (md:Region.Mode) (ops:Array Oper) (m n:Nat):Bool:=
 (List.range n).all fun i=>decide (i < m) || (List.range (n + 1)).any fun j=>decide (i < j) && Region.waitsFor md ops j i
theorem tail_waitsF {m n:Nat} {up:Array Bool} (hs:sinkF md ops m n = true) (hc:Region.chainB md ops n = true) (hn:n < ops.size) (inv:HeadInv md ops n up) (d:Nat) :
  ∀ i,n - i = d → m ≤ i → i < n → up.getD i true = false → ∀ t,n ≤ t → t ∉ Region.ready md ops up:=by
 induction d using Nat.strongRecOn with
 | ind d ih=>
  intro i hd hm hi hun t ht hr
  obtain ⟨-,ot,hot,hall⟩:=mem_ready.1 hr
  have hts:t < ops.size:=(Array.getElem?_eq_some_iff.1 hot).1
  rcases Nat.lt_or_ge n t with hgt | hle
  ·have h1:=List.all_eq_true.1 hc t (List.mem_range.2 hts)
   simp only [Bool.or_eq_true,decide_eq_true_eq] at h1
   obtain ⟨o',ho',e,he,hb,hon⟩:=Region.waitsFor_spec (h1.resolve_left (by omega))
   obtain rfl:o' = ot:=Option.some.inj (ho'.symm.trans hot)
   have h2:=hall e he hb
   rw [hon,getD_both (inv.tail (t - 1) (by omega) (by omega))] at h2
   cases h2
  ·obtain rfl:t = n:=Nat.le_antisymm hle ht
   have h1:=List.all_eq_true.1 hs i (List.mem_range.2 hi)
   simp only [Bool.or_eq_true,decide_eq_true_eq,List.any_eq_true,Bool.and_eq_true,List.mem_range] at h1
   obtain ⟨j,hj,hij,hw⟩:=h1.resolve_left (by omega)
   obtain ⟨oj,hoj,e,he,hb,hon⟩:=Region.waitsFor_spec hw
   rcases Nat.lt_or_ge j t with hjt | hjt
   ·cases hl:up.getD j false with
    | true=>
     have h2:=inv.closed j oj hoj hl e he hb
     rw [hon,getD_both hun] at h2
     cases h2
    | false=>exact ih (t - j) (by omega) j rfl (by omega) hjt (getD_in (by rw [inv.size]; omega) hl) t (Nat.le_refl _) hr
   ·obtain rfl:j = t:=by omega
    obtain rfl:oj = ot:=Option.some.inj (hoj.symm.trans hot)
    have h2:=hall e he hb
    rw [hon,getD_both hun] at h2
    cases h2
def AnyHead (P:Program) (md:Region.Mode) (ops:Array Oper) (C:World → Prop) (n:Nat) (L:Array Bool → Act → Prop):Nat → Array Bool → Act → Prop
 | 0=>L
 | f + 1=>fun up a=>Region.ready md ops up ≠ [] ∧ ∀ i,i ∈ Region.ready md ops up → i < n ∧ qOp P ops C i (AnyHead P md ops C n L f (up.setIfInBounds i true)) a
theorem any_of_head {n g:Nat} {L:Array Bool → Act → Prop} {Q:Exit → Act → World → Prop} (hL:∀ up a w,C w → L up a → wpAny P md ops Q g up a w) (f:Nat) :
  ∀ up a w,C w → AnyHead P md ops C n L f up a → wpAny P md ops Q (f + g) up a w:=by
 induction f with
 | zero=>
  intro up a w hw h
  rw [Nat.zero_add]
  exact hL up a w hw h
 | succ f ih=>
  intro up a w hw h
  rw [Nat.succ_add]
  refine ⟨fun e=>absurd e h.1,fun i hi=>?_⟩
  exact wpOp_of_qOp hw (fun a' w' hw' h'=>ih _ a' w' hw' h') (h.2 i hi).2
theorem head_below {m n i j:Nat} {up:Array Bool} (hs:sinkF md ops m n = true) (hc:Region.chainB md ops n = true) (hn:n < ops.size) (him:m ≤ i) (hin:i < n) (inv:HeadInv md ops n up)
  (hi:i ∈ Region.ready md ops up) (hj:j ∈ Region.ready md ops up):j < n:=by
 rcases Nat.lt_or_ge j n with h | h
 ·exact h
 ·exact absurd hj (tail_waitsF hs hc hn inv (n - i) i rfl him hin (mem_ready.1 hi).1 j h)
theorem head_first {m n i:Nat} {oi:Oper} {v:Value} {L:Array Bool → Act → Prop} (hi:ops[i]? = some oi) (hsel:∀ (j:Nat) (o:Oper) cs b,ops[j]? = some o → o.op ≠ .select cs b)
  (hs:sinkF md ops m n = true) (hc:Region.chainB md ops n = true) (hn:n < ops.size) (him:m ≤ i) (hin:i < n) (hdone:∀ up a,L up a → ∀ j,j ∈ Region.ready md ops up → n ≤ j) (f:Nat) :
  ∀ up a,HeadInv md ops n up → (∀ j oj,ops[j]? = some oj → j ≠ i → up.getD j true = false → (∀ e ∈ oj.after,Region.binds md e = true → e.on ≠ i) → oi.apart ops oj = true) →
   i ∈ Region.ready md ops up → YieldsIn P ops C oi v a → AnyHead P md ops C n L f (up.setIfInBounds i true) (a.put oi.dst v) → AnyHead P md ops C n L (f + 1) up a:=by
 induction f with
 | zero=>
  intro up a inv _ hr hy H
  refine ⟨List.ne_nil_of_mem hr,fun j hj=>⟨head_below hs hc hn him hin inv hr hj,?_⟩⟩
  rcases Nat.decEq j i with hji | rfl
  ·have h1:=hdone _ _ H j (ready_mono hj hji)
   have h2:=head_below hs hc hn him hin inv hr hj
   omega
  ·exact hy.qOp hi H
 | succ f ih=>
  intro up a inv hfree hr hy H
  refine ⟨List.ne_nil_of_mem hr,fun j hj=>⟨head_below hs hc hn him hin inv hr hj,?_⟩⟩
  rcases Nat.decEq j i with hji | rfl
  ·obtain ⟨hjun,oj,hoj,hall⟩:=mem_ready.1 hj
   have hun:=(mem_ready.1 hr).1
   have hnot:∀ e ∈ oj.after,Region.binds md e = true → e.on ≠ i:=by
    rintro e he hb rfl
    have:=hall e he hb
    rw [getD_both hun] at this
    cases this
   have h1:=qOp_put hoj (hfree j oj hoj hji hjun hnot) (fun cs b=>hsel i oi cs b hi) (fun cs b=>hsel j oj cs b hoj) hy (H.2 j (ready_mono hj hji)).2
   refine qOp_mono (fun a' h2=>ih (up.setIfInBounds j true) a' (inv.set hj (head_below hs hc hn him hin inv hr hj)) ?_ (ready_mono hr (Ne.symm hji)) h2.1 (by rw [Array.setIfInBounds_comm _ _ hji]; exact h2.2)) h1
   intro k ok hk hki hku hno
   refine hfree k ok hk hki ?_ hno
   rcases Nat.decEq j k with hjk | rfl
   ·rwa [getD_set_ne true hjk] at hku
   ·exact hjun
  ·exact hy.qOp hi H
theorem head_lex {m n g:Nat} {T:Act → Prop} (hsel:Region.noSelect ops = true) (hs:sinkF md ops m n = true) (hc:Region.chainB md ops n = true) (hn:n < ops.size) (l:List Oper) :
  ∀ k up a,m ≤ k → (∀ j,j < l.length → l[j]? = ops[k + j]?) → k + l.length = n → HeadInv md ops n up → Region.lexHead md ops g l.length k up = true → wpQuiet P ops C T l a →
   AnyHead P md ops C n (fun up' a'=>Region.seqB md ops g n up' = true ∧ T a') l.length up a:=by
 induction l with
 | nil=>
  intro k up a _ _ hk _ hB h
  obtain rfl:k = n:=hk
  exact ⟨hB,h⟩
 | cons o l ih=>
  intro k up a hmk hl hk inv hB h
  have h0:ops[k]? = some o:=(hl 0 (Nat.zero_lt_succ _)).symm
  simp only [List.length_cons] at hk
  simp only [List.length_cons,Region.lexHead,Bool.and_eq_true] at hB
  have hkn:k < n:=by omega
  have hr:k ∈ Region.ready md ops up:=by simpa using hB.1.1
  have hq:qOp P ops C k (wpQuiet P ops C T l) a:=by
   unfold qOp
   rw [h0]
   exact h
  obtain ⟨v,hy,hK⟩:=yieldsIn_of_qOp h0 hq
  refine head_first h0 (Region.noSelect_spec hsel) hs hc hn hmk hkn (fun _ _ hL=>seqB_ready hL.1) l.length up a inv (Region.free_spec h0 hB.1.2) hr hy ?_
  refine ih (k + 1) _ _ (by omega) (fun j hj=>?_) (by omega) (inv.set hr hkn) hB.2 hK
  have:=hl (j + 1) (Nat.succ_lt_succ hj)
  rw [List.getElem?_cons_succ] at this
  rw [this,Nat.add_assoc,Nat.add_comm 1 j]
def lexTailF (md:Region.Mode) (ops:Array Oper) (m n:Nat) (up:Array Bool):Bool:=
 Region.noSelect ops && decide (m ≤ n) && decide (n < ops.size) && sinkF md ops m n && Region.chainB md ops n && Region.lexHead md ops (ops.size - n) (n - m) m up
theorem any_qtail {m n:Nat} {Q:Exit → Act → World → Prop} {a:Act} {w:World} {l:List Oper} {up:Array Bool} (hB:lexTailF .any l.toArray m n up = true) (inv:HeadInv .any l.toArray n up)
  (hC:C w) (h:wpQuiet P l.toArray C (fun a'=>∀ w',C w' → wpList P l.toArray Q (l.drop n) a' w') ((l.take n).drop m) a):wpAny P .any l.toArray Q (l.length - m) up a w:=by
 simp only [lexTailF,Bool.and_eq_true,decide_eq_true_eq] at hB
 obtain ⟨⟨⟨⟨⟨hsel,hmn⟩,hn⟩,hs⟩,hc⟩,hlex⟩:=hB
 have hn':n < l.length:=by simpa using hn
 have htl:((l.take n).drop m).length = n - m:=by rw [List.length_drop,List.length_take]; omega
 have hdl:(l.drop n).length = l.toArray.size - n:=by rw [List.length_drop,List.size_toArray]
 have H:=head_lex (md:=.any) (g:=l.toArray.size - n) hsel hs hc hn ((l.take n).drop m) m up a (Nat.le_refl _) (by
  intro j hj
  rw [htl] at hj
  rw [List.getElem?_drop,List.getElem?_take_of_lt (by omega),List.getElem?_toArray]) (by omega) inv (by rw [htl]; exact hlex) h
 have key:=any_of_head (Q:=Q) (g:=l.toArray.size - n) (by
  intro up a' w' hw' hL
  have:=wpAny_of_seq (md:=.any) (Q':=Q) (l.drop n) n up a' w' (fun j=>by simp [List.getElem?_drop]) (by rw [hdl]; exact hL.1) (hL.2 w' hw')
  rwa [hdl] at this) _ _ _ _ hC H
 rw [htl,List.size_toArray,show n - m + (l.length - n) = l.length - m by omega] at key
 exact key
theorem inv_none {n:Nat}:HeadInv md ops n (Array.replicate ops.size false) where
 size:=by simp
 closed:=by
  intro j oj _ hl
  rw [getD_replicate_false] at hl
  cases hl
 tail:=fun t _ ht=>getD_in (by simpa using ht) (getD_replicate_false _ _)
theorem wp_region_qtail {id:Nat} {Q:Exit → Act → World → Prop} {a:Act} {w:World} {l:List Oper} (n:Nat) (hm:P.follows .mixedOrders = true) (hB:lexTailF .any l.toArray 0 n (Array.replicate l.toArray.size false) = true)
  (hC:C { w with drawn:=w.drawn + 1 }) (h:wpQuiet P l.toArray C (fun a'=>∀ w',C w' → wpList P l.toArray Q (l.drop n) a' w') (l.take n) a):(Code.region id l.toArray true).wp P Q a w:=
 wp_region_any hm (by
  have:=any_qtail (C:=C) (Q:=Q) hB inv_none hC (by simpa using h)
  simpa using this)
theorem wp_region_qtail1 {id:Nat} {Q:Exit → Act → World → Prop} {a:Act} {w:World} {o:Oper} {l:List Oper} (n:Nat) (x:Operand) (hm:P.follows .mixedOrders = true) (ho:o.op = .move x) (hg:o.guard = none)
  (hf:Region.free .any (o :: l).toArray (Array.replicate (l.length + 1) false) 0 = true) (hr:(Region.ready .any (o :: l).toArray (Array.replicate (l.length + 1) false)).contains 0 = true)
  (hB:lexTailF .any (o :: l).toArray 1 (n + 1) ((Array.replicate (l.length + 1) false).setIfInBounds 0 true) = true)
  (hQ:∀ c b w,Q (.panic c) (b.put o.dst (a.eval x)) w → Q (.panic c) b w)
  (hC:C { w with drawn:=w.drawn + 1 }) (h:wpQuiet P (o :: l).toArray C (fun a'=>∀ w',C w' → wpList P (o :: l).toArray Q (l.drop n) a' w') (l.take n) (a.put o.dst (a.eval x))):(Code.region id (o :: l).toArray true).wp P Q a w:=by
 refine wp_region_any hm ?_
 have hs:Region.noSelect (o :: l).toArray = true:=by
  simp only [lexTailF,Bool.and_eq_true] at hB
  exact hB.1.1.1.1.1
 have hn:n + 1 < (o :: l).toArray.size:=by
  simp only [lexTailF,Bool.and_eq_true,decide_eq_true_eq] at hB
  exact hB.1.1.1.2
 have key:=any_qtail (C:=C) (Q:=Q) (w:={ w with drawn:=w.drawn + 1 }) hB ((inv_none (md:=.any) (ops:=(o :: l).toArray) (n:=n + 1)).set (by simpa using hr) (by omega)) hC (by simpa using h)
 have e:(o :: l).toArray.size = l.length + 1:=by simp
 rw [e]
 refine wpAny_take (i:=0) (oi:=o) (v:=a.eval x) rfl hs hf hr hQ (.inl ⟨by unfold Region.wanted; rw [hg],fun w=>BigFrame.run_move x ho w⟩) ?_
 simpa using key
theorem q_load {Q:Act → Prop} {a:Act} {o:Oper} {rest:List Oper} (ty:TypeId) (x:Operand) (ho:o.op = .load ty x) (hw:Region.wanted o (yielded ops a.tmps) = true) (b:Nat) (cs:Array Value)
  (hx:a.eval x = .pointer (some ⟨b,0,none⟩)) (d:TypeDesc) (hu:P.underlying ty = some d) (hd:d.isRow = true) (hi:(P.info? ty).map (·.size) = some cs.size) (hS:∀ w,C w → ∀ i,w.cell? ⟨b,i,none⟩ = cs[i]?)
  (hk:wpQuiet P ops C Q rest (a.put o.dst (.agg cs))):wpQuiet P ops C Q (o :: rest) a:=by
 have hy:=yieldsIf_load_mid (P:=P) (S:=C) hw ty x ho b 0 hx cs.toList d (fun w h j v hv=>by rw [Nat.zero_add,hS w h,← hv]; simp) hu hd (by simpa using hi)
 rcases hy with ⟨-,h⟩ | ⟨h,-⟩
 ·refine BigFrame.wpQuiet_want hw fun K hK=>⟨.agg cs,fun w hc=>?_,hK _ hk⟩
  unfold Oper.quietAt
  rw [h w hc]
  exact ⟨rfl,by simp⟩
 ·rw [hw] at h
  cases h
end
end
end Go.Proofs.YtlfmooihcigolaaGreatDoor

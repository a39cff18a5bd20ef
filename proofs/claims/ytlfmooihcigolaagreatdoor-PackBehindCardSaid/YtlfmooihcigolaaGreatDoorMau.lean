/-
  Door, HasN, ComM, ComA, OpenO.
-/
import Derived.Test.YtlfmooihcigolaaGreatDoorCards
import Derived.Test.YtlfmooihcigolaaGreatDoorTie
import Derived.Test.YtlfmooihcigolaaGreatDoorMao
import Derived.ProofKit
import Derived.OpenShut
import Derived.Deep.DeepHandedRow
import Derived.Lib.LaidTab
import Derived.Carry
import Derived.ChangeSame
import Derived.Stop.LaidErr
import Derived.Shelf.Vars
import Derived.Deep.Slices
import Derived.Deep.Strs
set_option maxRecDepth 100000
set_option maxHeartbeats 8000000
namespace Go.Proofs.YtlfmooihcigolaaGreatDoor
end Go.Proofs.YtlfmooihcigolaaGreatDoor
namespace Go.Proofs.YtlfmooihcigolaaGreatDoor
open Go.RowKit Go.ChangeShapes Go.WideShapes Go.ChangeAt
namespace Door
theorem own:ownKnob Tryz.prog.godebug = none:=by kernel_rfl
theorem laidOut:laidOutB Tryz.prog = true:=by kernel_rfl
theorem g1:Tryz.prog.globalNamed "math/bits.deBruijn32tab" = some 7:=by kernel_rfl
theorem g2:Tryz.prog.globalNamed "math/bits.deBruijn64tab" = some 8:=by kernel_rfl
theorem g3:Tryz.prog.globalNamed "colporteur/sha.start" = some 1:=by kernel_rfl
theorem g4:Tryz.prog.globalNamed "colporteur/sha.roots" = some 3:=by kernel_rfl
theorem ty2:(Tryz.prog.globals[8]?).map (·.type) = some 229:=by kernel_rfl
theorem ty3:(Tryz.prog.globals[1]?).map (·.type) = some 200:=by kernel_rfl
theorem ty4:(Tryz.prog.globals[3]?).map (·.type) = some 248:=by kernel_rfl
theorem ce8:Tryz.prog.cellsOf 5 = 1:=by kernel_rfl
theorem ce32:Tryz.prog.cellsOf 199 = 1:=by kernel_rfl
theorem ca64:Tryz.prog.cellsOf 229 = 64:=by kernel_rfl
theorem ca8w:Tryz.prog.cellsOf 200 = 8:=by kernel_rfl
theorem ca64w:Tryz.prog.cellsOf 248 = 64:=by kernel_rfl
def tz64:List Int:=[0,1,56,2,57,49,28,3,61,58,42,50,38,29,17,4,62,47,59,36,45,43,51,22,53,39,33,30,24,18,12,5,63,55,48,27,60,41,37,16,46,35,44,21,52,32,23,11,54,26,40,15,34,20,31,10,25,14,19,9,13,8,7,6]
def st8:List Int:=[0x6a09e667,0xbb67ae85,0x3c6ef372,0xa54ff53a,0x510e527f,0x9b05688c,0x1f83d9ab,0x5be0cd19]
def rt64:List Int:=ShaM.kk.map Int.ofNat
theorem st_at:∀ i,i < 8 → st8.getD i 0 = ((ShaM.H0.at i).toNat:Int):=by decide +kernel
theorem rt_at:∀ i,i < 64 → rt64.getD i 0 = ((ShaM.K i).toNat:Int):=by decide +kernel
theorem env_of {W:World} {r:List (String × DataW Unit)} (h:laidMet Tryz.prog (("math/bits.deBruijn32tab",Rows.laid_math_bits_deBruijn32tab) :: ("math/bits.deBruijn64tab",Rows.laid_math_bits_deBruijn64tab) :: ("colporteur/sha.start",Rows.laid_colporteur_sha_start) :: ("colporteur/sha.roots",Rows.laid_colporteur_sha_roots) :: r) W)
  (hS:W.ShapedOpen Tryz.prog):Env W:=by
 have h2:=Lib.tabIs_of_head (k:=.u8) (zs:=tz64) g2 ty2 Tryz.underlying229 Tryz.underlying5 ce8 ca64 h.tail
 have h3:=Lib.tabIs_of_head (k:=.u32) (zs:=st8) g3 ty3 Tryz.underlying200 Tryz.underlying199 ce32 ca8w h.tail.tail
 have h4:=Lib.tabIs_of_head (k:=.u32) (zs:=rt64) g4 ty4 Tryz.underlying248 Tryz.underlying199 ce32 ca64w h.tail.tail.tail
 refine ⟨⟨fun i hi=>?_,fun i hi=>?_⟩,?_,?_⟩
 ·rw [h3.cell g3 i (by simpa [st8] using hi),st_at i hi]; rfl
 ·rw [h4.cell g4 i (by rw [rt64,List.length_map,ShaM.kk_len]; exact hi),rt_at i hi]; rfl
 ·exact h2.cell g2 15 (by decide)
 ·exact cell_of_shapedOpen_int (t:=3) (zero:=#[.int .i64 0]) hS (of_decide_eq_true (by kernel_rfl)) (by kernel_rfl) rfl (by kernel_rfl) (by kernel_rfl) Tryz.underlying3
theorem env_ofH {W:World} (h:laidMetH Tryz.prog [("math/bits.deBruijn32tab",Rows.laid_math_bits_deBruijn32tab),("math/bits.deBruijn64tab",Rows.laid_math_bits_deBruijn64tab),("colporteur/sha.start",Rows.laid_colporteur_sha_start),("colporteur/sha.roots",Rows.laid_colporteur_sha_roots),("internal/strconv.uint64pow10",Rows.laid_internal_strconv_uint64pow10)] W)
  (hS:W.ShapedOpen Tryz.prog):Env W:=env_of (r:=[("internal/strconv.uint64pow10",Rows.laid_internal_strconv_uint64pow10)]) h hS
def setBlock (h:Array Obj) (g:Nat) (cs:Array Value):Array Obj:=h.modify g fun
 | .cells _ t frozen=>.cells cs t frozen
 | o=>o
noncomputable def heap0 (os:Os):Array Obj:=(World.holding Tryz.prog os ⟨#[],#[],[]⟩).heap
noncomputable def heap1 (os:Os):Array Obj:=setBlock (heap0 os) 7 #[Z8,.int .u8 1,.int .u8 28,.int .u8 2,.int .u8 29,.int .u8 14,.int .u8 24,.int .u8 3,.int .u8 30,.int .u8 22,.int .u8 20,.int .u8 15,.int .u8 25,.int .u8 17,.int .u8 4,.int .u8 8,.int .u8 31,.int .u8 27,.int .u8 13,.int .u8 23,.int .u8 21,.int .u8 19,.int .u8 16,.int .u8 7,.int .u8 26,.int .u8 12,.int .u8 18,.int .u8 6,.int .u8 11,.int .u8 5,.int .u8 10,.int .u8 9]
noncomputable def heap2 (os:Os):Array Obj:=setBlock (heap1 os) 8 (tz64.map (Value.int .u8)).toArray
noncomputable def heap3 (os:Os):Array Obj:=setBlock (heap2 os) 1 (st8.map (Value.int .u32)).toArray
noncomputable def heap4 (os:Os):Array Obj:=setBlock (heap3 os) 3 (rt64.map (Value.int .u32)).toArray
noncomputable def heap5 (os:Os):Array Obj:=setBlock (heap4 os) 4 ((List.range 20).map fun i=>Value.int .u64 ((10 ^ i:Nat):Int)).toArray
noncomputable def laidWorld (os:Os):World:={ World.holding Tryz.prog os ⟨#[],#[],[]⟩ with heap:=heap5 os }
theorem laid_met (os:Os) (args:Array Value):laidMet Tryz.prog [("math/bits.deBruijn32tab",Rows.laid_math_bits_deBruijn32tab),("math/bits.deBruijn64tab",Rows.laid_math_bits_deBruijn64tab),("colporteur/sha.start",Rows.laid_colporteur_sha_start),("colporteur/sha.roots",Rows.laid_colporteur_sha_roots),("internal/strconv.uint64pow10",Rows.laid_internal_strconv_uint64pow10)] ((laidWorld os).forCall (fun _ _=>0) ⟨#[],args,[]⟩).memory:=
 laidMet_of_run' 8 (by kernel_rfl) (by kernel_rfl)
theorem vars0 (os:Os) (args:Array Value):((laidWorld os).forCall (fun _ _=>0) ⟨#[],args,[]⟩).variablesB Tryz.checked.prog = true:=by kernel_rfl
theorem rest0 (os:Os) (args:Array Value):(((laidWorld os).forCall (fun _ _=>0) ⟨#[],args,[]⟩).heap.toList.drop Tryz.checked.prog.globals.size).take ((begin Tryz.checked.prog (fun _ _=>0) default).world.heap.size - Tryz.checked.prog.globals.size) =
   (begin Tryz.checked.prog (fun _ _=>0) default).world.heap.toList.drop Tryz.checked.prog.globals.size:=by kernel_rfl
theorem looks0:true = Tryz.pinned.checked.prog.looks []:=by kernel_rfl
section
variable {H : Type} {enc : TypeId × Value → H} {P : Program} {W W' : World}
theorem trodAll_below (hl:laidOutB P = true) (hb:Below W.heap.size W W'):∀ {ts:List TypeId} {vs:List Value} {ds:List (DataW H)} {ps:List MemPlace},(∀ t ∈ ts,P.readableRec t = true ∧ t < P.types.size) →
  DataW.TrodAll enc P W 0 (fun _=>true) true ts vs ds ps → (∀ x ∈ ps,x.block < W.heap.size) → DataW.TrodAll enc P W' 0 (fun b=>decide (b < W.heap.size)) true ts vs ds ps
 | [],vs,ds,ps,_,h,_=>by
  obtain ⟨rfl,rfl,rfl⟩:=trodAll_nil h
  exact trodAll_mk0
 | t :: ts,vs,ds,ps,ht,h,hp=>by
  obtain ⟨v0,vs0,d0,ds0,p0,q0,rfl,rfl,rfl,h0,r0⟩:=trodAll_cons h
  exact trodAll_cons_mk (Below.trod hl (ht t (by simp)).1 (ht t (by simp)).2 h0 hb (fun x hx=>hp x (by simp [hx]))) (trodAll_below hl hb (fun t' h'=>ht t' (by simp [h'])) r0 (fun x hx=>hp x (by simp [hx])))
theorem law_post {f:Func} {s:ChangeSpec} {args:Array Value} {ds gs:List (DataW H)} {before:List MemPlace} (hl:laidOutB P = true) (hv:s.vars = []) (ht0:(f.params.toList.all fun t=>P.readableRec t && decide (t < P.types.size)) = true)
  {tb:TypeId} (hr:f.resultTypes = #[tb]) (hb1:P.underlying tb = some .bool) (hW:DataW.Whole enc P f.params.toList s.vars false W args.toList ds gs before) (hfn:∀ gs,gs = [] → s.fn H (ds ++ gs) = { results:=[.lit (.bool true)],args:=ds }) (hb:Below W.heap.size W W') :
  s.post enc P f false true false false W args (.bool true) W':=by
 have ht:∀ t ∈ f.params.toList,P.readableRec t = true ∧ t < P.types.size:=fun t h=>by have:=List.all_eq_true.1 ht0 t h; simpa using this
 have hW0:=hW
 obtain ⟨p,q,hA,hV,rfl,_,_⟩:=hW
 rw [hv] at hV
 obtain ⟨rfl,rfl⟩:=trodVars_none hV
 have hfn':=hfn _ rfl
 have hlt:∀ x ∈ p,x.block < W.heap.size:=fun x hx=>hW0.lt x (by simp [hx])
 refine ⟨ds,[],p ++ [],[],p,[],hW0,?_,?_,?_,hb.frame _,fun h=>by cases h⟩
 ·rw [hfn',hr]
  exact trodAll_mk1 (shut_bool hb1 true)
 ·rw [hfn']
  exact trodAll_below hl hb ht hA hlt
 ·rw [hfn',hv]
  exact rfl
theorem open_float {w:World} {base:Nat} {spare:Nat → Bool} {held:Bool} {r:Reach} {b0:Nat} {t:TypeId} {v:Value} {d:DataW H} {ps:List MemPlace} (ht:P.underlying t = some (.float .f64)) (hval:Value.okWide P w r b0 t v) (hd:DataW.Trod enc P w base spare held t v d ps) :
  ∃ n,v = .float .f64 n ∧ n < 18446744073709551616:=by
 have hv:∃ n,v = .float .f64 n:=by
  simp only [Value.okWide,ht,Cell.okWide] at hval
  cases v <;> simp_all [Cell.ok]
 obtain ⟨n,rfl⟩:=hv
 obtain ⟨fuel,hf⟩:=hd
 refine ⟨n,rfl,?_⟩
 cases fuel with
 | zero=>simp [DataW.trod] at hf
 | succ m=>
  unfold DataW.trod at hf
  rw [ht] at hf
  simp [Value.cells,Lit.wf] at hf
  have:=hf.1
  simpa using this
theorem wf_u64 {x:Int} (h:(Lit.int .u64 x).wf = true):∃ n:Nat,x = (n:Int) ∧ n < 18446744073709551616:=by
 simp [Lit.wf,IntKind.min,IntKind.max,IntKind.signed,IntKind.bits] at h
 exact ⟨x.toNat,by omega,by omega⟩
theorem wf_u8 {x:Int} (h:(Lit.int .u8 x).wf = true):∃ c:UInt8,x = (c.toNat:Int):=by
 simp [Lit.wf,IntKind.min,IntKind.max,IntKind.signed,IntKind.bits] at h
 refine ⟨UInt8.ofNat x.toNat,?_⟩
 simp
 omega
theorem wf_i64 {x:Int} (h:(Lit.int .i64 x).wf = true):-9223372036854775808 ≤ x ∧ x ≤ 9223372036854775807:=by
 simp [Lit.wf,IntKind.min,IntKind.max,IntKind.signed,IntKind.bits] at h
 omega
theorem reads_of {x:Option (List (DataW H) × List (DataW H) × List MemPlace)} (h:(x.map fun y=>y.2.1.length) = some 0):∃ d places,x = some (d,[],places):=by
 rcases x with _ | ⟨d,g,ps⟩
 ·cases h
 ·obtain rfl:g = []:=by simpa using h
  exact ⟨d,ps,rfl⟩
end
end Door
end Go.Proofs.YtlfmooihcigolaaGreatDoor
namespace Go.Proofs.YtlfmooihcigolaaGreatDoor
section
open Go.RowKit
theorem infoX (x:Nm):(Tryz.prog.info? 30).map (·.size) = some (encN x).length:=by rw [encN_len]; exact infoN
theorem infoXs (x:Nm):(Tryz.prog.info? 30).map (·.size) = some (encN x).toArray.size:=by rw [encN_size]; exact infoN
theorem whole_range {w:World} {g:Nat} {t:TypeId} {cs:List Value} (h:Whole w g t cs.toArray):w.rangeAt g 0 cs:=fun j v hv=>by
 rw [Nat.zero_add,h.at_,List.getElem?_toArray,hv]
theorem mem_at (x:Nm) (ids:List Nm) (h:∀ i,i < ids.length → ids.getD i default ≠ x):x ∉ ids:=by
 intro hm
 obtain ⟨i,hi,he⟩:=List.mem_iff_getElem.1 hm
 refine h i hi ?_
 simp [List.getD,List.getElem?_eq_getElem hi,he]
theorem at_mem (ids:List Nm) (i:Nat) (h:i < ids.length):ids.getD i default ∈ ids:=by
 simp [List.getD,List.getElem?_eq_getElem h]
theorem index_nm (A:Option Addr) (c:Nat) (ids:List Nm) (x:Nm) (w:World) (hA:ArgN w A c ids) (hc:ids.length ≤ 1048576) :
  Calls Tryz.prog 311 #[.slice A ids.length c,.agg (encN x).toArray] w fun e w'=>(∃ r:Int,e = .returned (.int .i64 r) ∧ (decide (r ≥ 0)) = decide (x ∈ ids)) ∧ Below w.heap.size w w':=by
 have HA:=Hy hA
 have hlc:=hA.1
 have HW0:=Hy (whole_range (Whole.made w 30 (encN x).toArray))
 have HXI:=Hy (infoX x)
 have HB0:=Hy ((Below.refl w.heap.size w).alloc (Nat.le_refl _) (.cells (encN x).toArray 30))
 have HL:=Hy fun y W=>eql_nm x y W
 have HA0:=Hy (hA.later HB0.out)
 clear hA
 go_enter Tryz.func311,Tryz.ntmps311
 go_wp2
 generalize w.alloc (.cells (encN x).toArray 30) = w0 at *
 go_loopg [5,8] ids.length (fun g _ s8 wr=>∃ k q:Nat,k ≤ ids.length ∧ ids.length - k ≤ g ∧ s8 = .int .i64 k ∧ Hid (wr = w0.drewN q) ∧ Hid (∀ i,i < k → ids.getD i default ≠ x))
 case atStart=>exact ⟨0,0,Nat.zero_le _,by omega,rfl,Hy rfl,Hy fun i hi=>absurd hi (Nat.not_lt_zero _)⟩
 case round=>
  obtain ⟨k,q,hk,hg,rfl,hwr,hall⟩:=hrel
  by_cases hlt:k < ids.length
  ·have hlt':(k:Int) < (ids.length:Int):=by omega
   obtain ⟨b,o,rfl,hr⟩:=HA0.out.2.2.2 (by omega)
   have hrk:=hr k hlt
   obtain ⟨y,hy⟩:∃ y,y = ids.getD k default:=⟨_,rfl⟩
   rw [← hy] at hrk
   have HLX:Hid (∀ W,(∃ n,W = wr.drewN n) → W.rangeAt w.heap.size 0 (encN x)):=by rintro W ⟨n,rfl⟩; rw [hwr.out]; exact HW0.out
   have HLY:Hid (∀ W,(∃ n,W = wr.drewN n) → W.rangeAt b (o + k * 32) (encN y)):=by rintro W ⟨n,rfl⟩; rw [hwr.out]; exact hrk
   have heq:=HL.out y
   have HYI:=Hy (infoX y)
   have HY:=Hy hy
   clear hy hr hrk
   by_cases hd:x = y
   ·have hdd:decide (x = y) = true:=by simp [hd]
    rw [hdd] at heq
    clear hdd
    have HD:=Hy hd
    clear hd
    go_wp2_with fail
    refine wp_region_quiet_lit (by kernel_rfl) (by kernel_rfl) ?_
    repeat (first
     | go_big_quiet_step (fail)
     | (refine q_loadm _ _ rfl (by rfl) w.heap.size 0 (encN x) rfl _ Tryz.underlying30 rfl HXI.out HLX.out ?_; simp only [Act.put]; go_simp)
     | (refine q_loadm _ _ rfl (by rfl) b (o + k * 32) (encN y) rfl _ Tryz.underlying30 rfl HYI.out HLY.out ?_; simp only [Act.put]; go_simp))
    refine wpQuiet_nil ?_
    intro nq
    go_wp2
    go_ret
    refine ⟨⟨k,rfl,?_⟩,?_⟩
    ·have:x ∈ ids:=by rw [HD.out,HY.out]; exact at_mem ids k hlt
     simp [this]
    ·rw [hwr.out]
     exact be_drewN (be_drewN HB0.out _) _
   ·have hdd:decide (x = y) = false:=by simp [hd]
    rw [hdd] at heq
    clear hdd
    have HD:=Hy hd
    clear hd
    go_wp2_with fail
    refine wp_region_quiet_lit (by kernel_rfl) (by kernel_rfl) ?_
    repeat (first
     | go_big_quiet_step (fail)
     | (refine q_loadm _ _ rfl (by rfl) w.heap.size 0 (encN x) rfl _ Tryz.underlying30 rfl HXI.out HLX.out ?_; simp only [Act.put]; go_simp)
     | (refine q_loadm _ _ rfl (by rfl) b (o + k * 32) (encN y) rfl _ Tryz.underlying30 rfl HYI.out HLY.out ?_; simp only [Act.put]; go_simp))
    refine wpQuiet_nil ?_
    intro nq
    go_wp2
    go_roundg (ids.length - (k + 1))
    case measure=>omega
    case rel=>
     refine ⟨k + 1,q + nq,by omega,by omega,by go_num,Hy ?_,Hy ?_⟩
     ·rw [hwr.out,World.drewN_drewN]
     ·intro i hi
      by_cases e:i = k
      ·subst e
       rw [← HY.out]
       exact fun e=>HD.out e.symm
      ·exact hall.out i (by omega)
  ·have hk2:k = ids.length:=by omega
   subst hk2
   go_wp2
   go_ret
   refine ⟨⟨-1,rfl,?_⟩,?_⟩
   ·simp [mem_at x ids hall.out]
   ·rw [hwr.out]
    exact be_drewN HB0.out _
theorem contains_nm (A:Option Addr) (c:Nat) (ids:List Nm) (x:Nm) (w:World) (hA:ArgN w A c ids) (hc:ids.length ≤ 1048576) :
  Calls Tryz.prog 294 #[.slice A ids.length c,.agg (encN x).toArray] w fun e w'=>e = .returned (.bool (decide (x ∈ ids))) ∧ Below w.heap.size w w':=by
 have HW0:=Hy (Whole.made w 30 (encN x).toArray)
 have HXI:=Hy (infoXs x)
 have HB0:=Hy ((Below.refl w.heap.size w).alloc (Nat.le_refl _) (.cells (encN x).toArray 30))
 have HI:=Hy (index_nm A c ids x _ (hA.later HB0.out) hc)
 clear hA
 generalize decide (x ∈ ids) = r at *
 go_enter Tryz.func294,Tryz.ntmps294
 go_wp2_with (first
  | (refine wpList_load_row rfl 30 _ rfl w.heap.size rfl 30 (encN x).toArray (0,0) _ HW0.out Tryz.underlying30 rfl HXI.out ?_)
  | (go_at_call 311; refine HI.out.mono ?_; rintro e w' ⟨⟨r',rfl,hr⟩,hb⟩))
 go_ret
 exact ⟨rfl,HB0.out.trans (hb.mono (by simp))⟩
theorem has_nm (A:Option Addr) (c:Nat) (ids:List Nm) (x:Nm) (w:World) (hA:ArgN w A c ids) (hc:ids.length ≤ 1048576) :
  Calls Tryz.prog 263 #[.slice A ids.length c,.agg (encN x).toArray] w fun e w'=>e = .returned (.bool (decide (x ∈ ids))) ∧ Below w.heap.size w w':=by
 have HW0:=Hy (Whole.made w 30 (encN x).toArray)
 have HXI:=Hy (infoXs x)
 have HB0:=Hy ((Below.refl w.heap.size w).alloc (Nat.le_refl _) (.cells (encN x).toArray 30))
 have HI:=Hy (contains_nm A c ids x _ (hA.later HB0.out) hc)
 clear hA
 generalize decide (x ∈ ids) = r at *
 go_enter Tryz.func263,Tryz.ntmps263
 go_wp2_with (first
  | (refine wpList_load_row rfl 30 _ rfl w.heap.size rfl 30 (encN x).toArray (0,0) _ HW0.out Tryz.underlying30 rfl HXI.out ?_)
  | (go_at_call 294; refine HI.out.mono ?_; rintro e w' ⟨rfl,hb⟩))
 go_ret
 exact ⟨rfl,HB0.out.trans (hb.mono (by simp))⟩
end
section
open Go.RowKit
def newAt (ids:List Nm) (i:Nat):Bool:=!decide (ids.getD i default ∈ ids.take i)
def distN (ids:List Nm) (k:Nat):Bool:=(List.range k).all (newAt ids)
theorem distN_succ (ids:List Nm) (k:Nat):distN ids (k + 1) = (distN ids k && newAt ids k):=by
 unfold distN
 rw [List.range_succ,List.all_append]
 simp
theorem distN_not (ids:List Nm) {k n:Nat} (h:k < n) (hk:newAt ids k = false):distN ids n = false:=by
 cases hr:distN ids n with
 | false=>rfl
 | true=>
  unfold distN at hr
  rw [List.all_eq_true] at hr
  rw [hr k (List.mem_range.2 h)] at hk
  cases hk
def mayP (ids:List Nm):Bool:=decide (ids.length ≤ 4) && distN ids ids.length
theorem slice_toC {A:Option Addr} {c:Nat} (m n:Nat) (hn:n ≤ c) (W:World) :
  (Instr.slice 44 (.slice A m c) none (some (.int .i64 (n:Int))) none).run Tryz.prog W = .ok (.slice A n c) W:=by
 have hel:Tryz.prog.elem 44 = 30:=by simp [Program.elem,Tryz.underlying44]
 have h:=run_slice_h (P:=Tryz.prog) (w:=W) (t:=44) (a:=A) (len:=m) (cap:=c) (by rw [hel]; exact Tryz.underlying44) .i64 (n:Int) (by omega) (by omega)
 rw [h,hel,Tryz.sizeOf30]
 have hadd:A.map (fun a=>a.add 0) = A:=by
  cases A with
  | none=>rfl
  | some a=>simp [Addr.add]
 simp [sliced,hadd]
theorem made_belowC {w w':World} {o:Obj} (h:(w.alloc o).grownBy w' (some w.heap.size)):Below w.heap.size w w':=
 be_grown ((Below.refl w.heap.size w).alloc (Nat.le_refl _) _) h (by simp) (fun j hj=>by injection hj with hj; omega)
theorem below_clsC {w W:World} (h:∃ p:Regrown,W = Sort.grow (redrawn w p.d) p.os):Below w.heap.size w W:=by
 obtain ⟨p,rfl⟩:=h
 exact below_regrown _ _ _
theorem mayP_any (A:Option Addr) (c:Nat) (ids:List Nm) (w:World) (hA:ArgN w A c ids) :
  Calls Tryz.prog 230 #[.slice A ids.length c] w fun e w'=>e = .returned (.bool (mayP ids)) ∧ Below w.heap.size w w':=by
 have HA:=Hy hA
 have hlc:=hA.1
 have hcm:c ≤ maxLen:=hA.2.1
 unfold maxLen at hcm
 clear hA
 by_cases hm:4 < ids.length
 ·have HM:Hid (mayP ids = false):=by show _ = _; unfold mayP; rw [decide_eq_false (by omega)]; rfl
  have hd:decide ((4:Int) < (ids.length:Int)) = true:=by simp; omega
  clear hm hcm
  go_enter Tryz.func230,Tryz.ntmps230
  go_wp2
  go_ret
  exact ⟨by rw [HM.out]; rfl,Below.refl _ _⟩
 have HM:Hid (mayP ids = distN ids ids.length):=by show _ = _; unfold mayP; rw [decide_eq_true (by omega)]; rfl
 have hd:decide ((4:Int) < (ids.length:Int)) = false:=by simp; omega
 clear hcm
 go_enter Tryz.func230,Tryz.ntmps230
 go_wp2
 go_loopg [3,4,10] ids.length (fun g _ _ s10 wr=>∃ k:Nat,k ≤ ids.length ∧ ids.length - k ≤ g ∧ s10 = .int .i64 k ∧ Hid (Below w.heap.size w wr) ∧ Hid (distN ids k = true))
 case atStart=>exact ⟨0,Nat.zero_le _,by omega,rfl,Hy (Below.refl _ _),Hy rfl⟩
 case round=>
  obtain ⟨k,hk,hg,rfl,hB,hall⟩:=hrel
  by_cases hlt:k < ids.length
  ·have hlt':(k:Int) < (ids.length:Int):=by omega
   have HAW:=Hy (HA.out.later hB.out)
   obtain ⟨b,o,rfl,hr⟩:=HAW.out.2.2.2 (by omega)
   have hrk:=hr k hlt
   obtain ⟨y,hy⟩:∃ y,y = ids.getD k default:=⟨_,rfl⟩
   rw [← hy] at hrk
   have HRK:=Hy hrk
   have HRS:=Hy (distN_succ ids k)
   have HNA:Hid (newAt ids k = !decide (y ∈ ids.take k)):=by show _ = _; rw [hy]; rfl
   have hsl:=slice_toC (A:=some ⟨b,o,none⟩) (c:=c) ids.length k (by omega)
   clear hr hrk hy
   go_wp2_with (first
    | (refine wpList_load_mid rfl 30 _ rfl b (o + k * 32) rfl (encN y) _ HRK.out Tryz.underlying30 rfl (infoX y) ?_)
    | (refine wpList_store_whole rfl 30 _ _ rfl wr.heap.size (encN y).toArray rfl rfl 30 _ (Whole.made wr _ _) (infoXs y) (by rw [encN_size]; kernel_rfl) (encN_all y) ?_; intro w2 hWn hGn; have HW2:=Hy hWn; have D2:=Hy (made_belowC hGn); clear hWn hGn))
   simp only [Act.put]
   have HB2:=Hy (hTr hB D2.out)
   have HLY:Hid (∀ W,Below w2.heap.size w2 W → W.rangeAt wr.heap.size 0 (encN y)):=fun W hW=>whole_range (HW2.out.below hW HW2.out.lt)
   have HXI:=Hy (infoX y)
   have htk:(ids.take k).length = k:=by rw [List.length_take]; omega
   have HHS:Hid (∀ W,Below w2.heap.size w2 W → Calls Tryz.prog 263 #[.slice (some ⟨b,o,none⟩) k c,.agg (encN y).toArray] W fun e w'=>e = .returned (.bool (decide (y ∈ ids.take k))) ∧ Below W.heap.size W w'):=by
    intro W hW
    have h:=has_nm (some ⟨b,o,none⟩) c (ids.take k) y W (((HAW.out.later D2.out).later hW).take k) (by omega)
    rw [htk] at h
    exact h
   clear htk
   cases hh:decide (y ∈ ids.take k) with
   | true=>
    rw [hh] at HHS
    have HF:Hid (distN ids ids.length = false):=distN_not ids hlt (by rw [HNA.out,hh]; rfl)
    clear hh
    go_wp2_with fail
    refine wp_region_quiet_below (by kernel_rfl) (by kernel_rfl) ?_
    repeat (first
     | go_big_quiet_step ((go_at_call 263; exact Calls.regrown_of (HHS.out _ (below_regrown _ _ _))))
     | (refine q_loadm _ _ rfl (by rfl) wr.heap.size 0 (encN y) rfl _ Tryz.underlying30 rfl HXI.out (fun W hC=>HLY.out W (below_clsC hC)) ?_; simp only [Act.put]; go_simp))
    refine wpQuiet_nil ?_
    intro p
    have HWF:=Hy (HB2.out.trans ((below_regrown w2 p.d p.os).mono HB2.out.size))
    generalize Sort.grow (redrawn w2 p.d) p.os = wf at *
    go_wp2
    go_ret
    exact ⟨by rw [HM.out,HF.out]; rfl,HWF.out⟩
   | false=>
    rw [hh] at HHS
    have HT:Hid (distN ids (k + 1) = true):=by show _ = _; rw [HRS.out,hall.out,HNA.out,hh]; rfl
    clear hh
    go_wp2_with fail
    refine wp_region_quiet_below (by kernel_rfl) (by kernel_rfl) ?_
    repeat (first
     | go_big_quiet_step ((go_at_call 263; exact Calls.regrown_of (HHS.out _ (below_regrown _ _ _))))
     | (refine q_loadm _ _ rfl (by rfl) wr.heap.size 0 (encN y) rfl _ Tryz.underlying30 rfl HXI.out (fun W hC=>HLY.out W (below_clsC hC)) ?_; simp only [Act.put]; go_simp))
    refine wpQuiet_nil ?_
    intro p
    have HWF:=Hy (HB2.out.trans ((below_regrown w2 p.d p.os).mono HB2.out.size))
    generalize Sort.grow (redrawn w2 p.d) p.os = wf at *
    go_wp2
    go_roundg (ids.length - (k + 1))
    case measure=>omega
    case rel=>exact ⟨k + 1,by omega,Nat.le_refl _,by go_num,HWF,HT⟩
  ·obtain rfl:k = ids.length:=by omega
   go_wp2
   go_ret
   exact ⟨by rw [HM.out,hall.out]; rfl,hB.out⟩
end
section
open Go.RowKit
structure Cm where
 tree:Nm
 parents:List Nm
 time:Nat
 note:List UInt8
def encC (A:Option Addr) (c:Nat) (x:Cm):List Value:=encN x.tree ++ [.slice A x.parents.length c,.float .f64 x.time,.string ⟨x.note.toArray⟩]
theorem encC_len (A:Option Addr) (c:Nat) (x:Cm):(encC A c x).length = 35:=by simp [encC,encN_len]
theorem encC_one (A:Option Addr) (c:Nat) (x:Cm):∀ v ∈ encC A c x,v.oneCell' = true:=by
 intro v hv
 simp only [encC,List.mem_append,List.mem_cons,List.not_mem_nil,or_false] at hv
 rcases hv with hv | rfl | rfl | rfl
 ·exact encN_one _ v hv
 ·rfl
 ·rfl
 ·rfl
theorem encC_32 (A:Option Addr) (c:Nat) (x:Cm):(encC A c x).toArray[32]? = some (.slice A x.parents.length c):=by
 rw [List.getElem?_toArray,encC,List.getElem?_append_right (by rw [encN_len]; exact Nat.le_refl _),encN_len]
 rfl
theorem encC_33 (A:Option Addr) (c:Nat) (x:Cm):(encC A c x).toArray[33]? = some (.float .f64 x.time):=by
 rw [List.getElem?_toArray,encC,List.getElem?_append_right (by rw [encN_len]; decide),encN_len]
 rfl
theorem encC_34 (A:Option Addr) (c:Nat) (x:Cm):(encC A c x).toArray[34]? = some (.string ⟨x.note.toArray⟩):=by
 rw [List.getElem?_toArray,encC,List.getElem?_append_right (by rw [encN_len]; decide),encN_len]
 rfl
theorem infoC:(Tryz.prog.info? 47).map (·.size) = some 35:=by kernel_rfl
def mayC (x:Cm):Bool:=mayP x.parents && Flo.may x.time && decide (x.note.length ≤ 100)
theorem cmay_any (A:Option Addr) (c:Nat) (x:Cm) (w:World) (hA:ArgN w A c x.parents) (ht:x.time < 18446744073709551616) :
  Calls Tryz.prog 182 #[.agg (encC A c x).toArray] w fun e w'=>e = .returned (.bool (mayC x)) ∧ Below w.heap.size w w':=by
 have HW:=Hy (Whole.made w 47 (encC A c x).toArray)
 have HB:=Hy ((Below.refl w.heap.size w).alloc (Nat.le_refl _) (.cells (encC A c x).toArray 47))
 have HP:=Hy (mayP_any A c x.parents _ (hA.later HB.out))
 have HT:=Hy fun W=>may_any x.time W ht
 have e32:=encC_32 A c x
 have e33:=encC_33 A c x
 have e34:=encC_34 A c x
 have HM:Hid (mayC x = (mayP x.parents && Flo.may x.time && decide (x.note.length ≤ 100))):=rfl
 clear hA ht
 have c32:(w.alloc (.cells (encC A c x).toArray 47)).cell? ⟨w.heap.size,32,none⟩ = some (.slice A x.parents.length c):=(HW.out.at_ 32).trans e32
 generalize mayC x = r at *
 generalize mayP x.parents = p at *
 generalize Flo.may x.time = q at *
 generalize x.parents = ps at *
 generalize x.note = nt at *
 generalize x.time = tm at *
 generalize (encC A c x).toArray = cs at *
 have HE:=Hy (And.intro e33 e34)
 clear e32 e33 e34
 go_enter Tryz.func182,Tryz.ntmps182
 go_wp2_with fail
 generalize w.alloc (.cells cs 47) = w0 at *
 refine HP.out.mono ?_
 rintro e w1 ⟨rfl,hB1⟩
 have hW1:=HW.out.below hB1 HW.out.lt
 have HBF:=Hy (hTr HB hB1)
 have c33:w1.cell? ⟨w.heap.size,33,none⟩ = some (.float .f64 tm):=(hW1.at_ 33).trans HE.out.1
 have c34:w1.cell? ⟨w.heap.size,34,none⟩ = some (.string ⟨nt.toArray⟩):=(hW1.at_ 34).trans HE.out.2
 clear hB1 hW1 HP
 cases p with
 | false=>
  go_wp2
  go_ret
  exact ⟨by rw [HM.out]; rfl,HBF.out⟩
 | true=>
  go_wp2_with fail
  refine (HT.out _).mono ?_
  rintro e w2 ⟨rfl,rfl⟩
  cases q with
  | false=>
   go_wp2
   go_ret
   exact ⟨by rw [HM.out]; rfl,HBF.out⟩
  | true=>
   have HD:Hid (decide (nt.length ≤ 100) = decide ((nt.length:Int) ≤ 100)):=by show _ = _; rw [decide_eq_decide]; omega
   go_wp2
   go_ret
   exact ⟨by rw [HM.out,HD.out]; rfl,HBF.out⟩
end
end Go.Proofs.YtlfmooihcigolaaGreatDoor
namespace Go.Proofs.YtlfmooihcigolaaGreatDoor
open Go.RowKit
structure Ob where
 kind:Int
 blob:List UInt8
 entries:List En
 commit:Cm
def encO (A:Option Addr) (c:Nat) (A2:Option Addr) (c2:Nat) (x:Ob):List Value:=[.int .i64 x.kind,.string ⟨x.blob.toArray⟩,.slice A x.entries.length c] ++ encC A2 c2 x.commit
theorem encO_len (A:Option Addr) (c:Nat) (A2:Option Addr) (c2:Nat) (x:Ob):(encO A c A2 c2 x).length = 38:=by simp [encO,encC_len]
namespace Door
open Go.ChangeShapes Go.WideShapes Go.ChangeAt
section
variable {H : Type} {enc : TypeId × Value → H} {W : World} {base : Nat} {v : Value} {d : DataW H} {p : List MemPlace}
end
end Door
end Go.Proofs.YtlfmooihcigolaaGreatDoor
namespace Go.Proofs.YtlfmooihcigolaaGreatDoor
end Go.Proofs.YtlfmooihcigolaaGreatDoor

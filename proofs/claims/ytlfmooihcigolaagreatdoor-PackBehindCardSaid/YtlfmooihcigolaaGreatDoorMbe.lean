/-
  ComJ, ObE, ObE1, ObE2.
-/
import Derived.Test.YtlfmooihcigolaaGreatDoorMbd
import Derived.Test.YtlfmooihcigolaaGreatDoorMaq
set_option maxRecDepth 100000
set_option maxHeartbeats 8000000
namespace Go.Proofs.YtlfmooihcigolaaGreatDoor
open Go.RowKit
theorem ArgN.alt {w w':World} {A:Option Addr} {c:Nat} {ids:List Nm} {R:Nat → Prop} (h:ArgN w A c ids) (k:Alt R w w') (hn:∀ j,inBlk A j → 0 < ids.length → ¬ R j):ArgN w' A c ids:=by
 have h':=h
 obtain ⟨h1,h2,h3,h4⟩:=h
 refine ⟨h1,h2,h3,fun h0=>?_⟩
 obtain ⟨b,o,e,hr⟩:=h4 h0
 have hk:=k.block b (h'.lt ⟨_,e,rfl⟩ h0) (hn b ⟨_,e,rfl⟩ h0)
 refine ⟨b,o,e,fun i hi j v hv=>?_⟩
 have:=hr i hi j v hv
 unfold World.cell? at *
 dsimp only at *
 rw [hk]
 exact this
theorem cget1_any (g0 g1:Nat) (s:List UInt8) (W:World) (z:Array Value) (hs:Whole W g0 9 #[.string ⟨s.toArray⟩]) (hg:Whole W g1 47 z) (hzs:z.size = 35) (hl:s.length ≤ 1048576) :
  Calls Tryz.prog 195 #[.pointer (some ⟨g0,0,none⟩),.pointer (some ⟨g1,0,none⟩)] W fun e w'=>(∃ x A c,readC s = some x ∧ e = .returned (.tuple #[]) ∧ Alt (· = g1) W w' ∧ Whole w' g1 47 (encC A c x).toArray ∧ ArgN w' A c x.parents ∧ (∀ j,inBlk A j → W.heap.size ≤ j) ∧ OwnB w' A) ∨ (readC s = none ∧ Fell (· = g1) W e w'):=by
 have hc0:W.cell? ⟨g0,0,none⟩ = some (.string ⟨s.toArray⟩):=(hs.at_ 0).trans rfl
 have HG:=Hy hg
 have HZS:=Hy hzs
 have hgl:=hg.lt
 clear hs hg hzs
 go_enter Tryz.func195,Tryz.ntmps195
 go_wp2_with (refine wpList_of_string rfl 9 63 5 _ rfl ⟨s.toArray⟩ s rfl rfl Tryz.underlying9 Tryz.underlying63 Tryz.underlying5 (by unfold maxLen; omega) ?_; intro w1 c hby hzz hbe hsz; have HBY:=Hy hby; have HBE:=Hy hbe; clear hby hzz hbe)
 refine (gnew_any _ s w1 HBY.out).mono ?_
 rintro e w2 ⟨rfl,hB2,hR2,hs2⟩
 have HG2:=Hy ((HG.out.below HBE.out hgl).below hB2 (by omega))
 have HB2:=Hy (hTr HBE hB2)
 rw [hsz] at hR2
 have HR2:=Hy hR2
 clear hB2 hR2 hc0
 go_wp2_with fail
 with_reducible refine (read_any (W.heap.size + 1) s w2 HR2.out hl).mono ?_
 rintro r w3 (⟨x,A,c',hgt,rfl,ha,har,hnb,hob⟩ | ⟨hgt,cc,hcc,rfl,ha⟩)
 ·have HA3:Hid (Alt (· = g1) W w3):=(Alt.of_below HB2.out).then ha (fun k hk e=>by omega)
  have HG3:=Hy (HG2.out.alt ha (by omega))
  have HAR:=Hy har
  have HGT:=Hy hgt
  have HNB:Hid (∀ j,inBlk A j → W.heap.size ≤ j):=fun j hj=>by have:=hnb j hj; have:=HB2.out.size; omega
  have HOB:=Hy hob
  have HXS:=Hy (infoC_s A c' x)
  have HAL:=Hy (encC_all A c' x)
  have HSZ:=Hy (encC_s A c' x)
  clear ha har hgt hnb hob
  generalize hcs:(encC A c' x).toArray = cs at *
  go_wp2_with (refine wpList_store_whole rfl 47 _ _ rfl g1 cs rfl rfl 47 z HG3.out HXS.out (by rw [HSZ.out]; exact HZS.out) HAL.out ?_; intro w4 hWn hGn; have HW4:=Hy hWn; have HG4:=Hy hGn; clear hWn hGn)
  go_end0
  refine .inl ⟨x,HGT.out,rfl,HA3.out.grown HG4.out (fun j hj=>by injection hj with hj; exact .inr hj.symm),A,c',by rw [hcs]; exact HW4.out,HAR.out.grown HG4.out (fun j hj h0 e=>by injection e with e; have:=HNB.out j hj; omega),HNB.out,HOB.out.grown HG4.out (fun j hj e=>by injection e with e; have:=HNB.out j hj; omega)⟩
 ·exact ⟨rfl,.inr ⟨hgt,cc,hcc,rfl,(Alt.of_below HB2.out).then ha (fun k hk e=>by omega)⟩⟩
theorem cget1_enters (caps:Array Value) (W:World):(callFunc 195 caps).run Tryz.prog W = .ok (.enter 195 caps) W:=enters_of Tryz.func195 (by kernel_rfl) rfl _ _
def GotC (B:Nat) (s:List UInt8) (e:Ending) (w':World):Prop:=
 (∃ x A c,readC s = some x ∧ e = .returned (.tuple #[.agg (encC A c x).toArray,.int .i64 0]) ∧ ArgN w' A c x.parents ∧ ∀ j,inBlk A j → B ≤ j) ∨ (readC s = none ∧ e = .returned (.tuple #[.agg (encC none 0 noC).toArray,.int .i64 1]))
theorem zC_build (w:World):(Instr.build 47 #[]).run Tryz.prog w = .ok (.agg (encC none 0 noC).toArray) w:=by kernel_rfl
theorem results_crow {fn:Func} (hr:fn.results = #[.cell 2 47,.tmp 3]) (v:Value) (a:Act) (w:World) (g:Nat) (t:TypeId) (cs:Array Value) (h2:a.tmps.getD 2 undef = .pointer (some ⟨g,0,none⟩)) (h3:a.tmps.getD 3 undef = v) (hW:Whole w g t cs) (hi:(Tryz.prog.info? 47).map (·.size) = some cs.size) :
  (results fn a.tmps).run Tryz.prog w = .ok (.tuple #[.agg cs,v]) w:=by
 rw [← h3]
 exact results_row_tmp hr _ _ g t cs (0,0) _ h2 hW Tryz.underlying47 rfl hi
def GotCo (B:Nat) (s:List UInt8) (e:Ending) (w':World):Prop:=
 (∃ x A c,readC s = some x ∧ e = .returned (.tuple #[.agg (encC A c x).toArray,.int .i64 0]) ∧ ArgN w' A c x.parents ∧ Own2 B w' A) ∨ (readC s = none ∧ e = .returned (.tuple #[.agg (encC none 0 noC).toArray,.int .i64 1]))
theorem cgetO_any (s:List UInt8) (w:World) (hl:s.length ≤ 1048576) :
  Calls Tryz.prog 148 #[.string ⟨s.toArray⟩] w fun e w'=>GotCo w.heap.size s e w' ∧ Below w.heap.size w w':=by
 have hmf:∀ (fn:Fn) (first cap:Array Value) (w:World),(Instr.makeFunc fn first cap).run Tryz.prog w = .ok (.func fn first cap) w:=fun _ _ _ _=>rfl
 have HS0:=Hy fun z=>Whole.past (Whole.past (Whole.made w 9 #[.string ⟨s.toArray⟩]) (.cells z 47)) (.cells z 47)
 have HR0:Hid (∀ z,Whole (((w.alloc (.cells #[.string ⟨s.toArray⟩] 9)).alloc (.cells z 47)).alloc (.cells z 47)) (w.heap.size + 1) 47 z):=by
  intro z
  have:=Whole.past (Whole.made (w.alloc (.cells #[.string ⟨s.toArray⟩] 9)) 47 z) (.cells z 47)
  simpa using this
 have HC0:Hid (∀ z,Whole (((w.alloc (.cells #[.string ⟨s.toArray⟩] 9)).alloc (.cells z 47)).alloc (.cells z 47)) (w.heap.size + 1 + 1) 47 z):=by
  intro z
  have:=Whole.made ((w.alloc (.cells #[.string ⟨s.toArray⟩] 9)).alloc (.cells z 47)) 47 z
  simpa using this
 have HB0:=Hy fun z=>(((Below.refl w.heap.size w).alloc (Nat.le_refl _) (.cells #[.string ⟨s.toArray⟩] 9)).alloc (by simp) (.cells z 47)).alloc (by simp; omega) (.cells z 47)
 go_enter Tryz.func148,Tryz.ntmps148
 go_wp2_with fail
 obtain ⟨z,hz⟩:∃ z:Array Value,z = (encC none 0 noC).toArray:=⟨_,rfl⟩
 rw [show (#[Value.int .u8 0,Z8,Z8,Z8,Z8,Z8,Z8,Z8,Z8,Z8,Z8,Z8,Z8,Z8,Z8,Z8,Z8,Z8,Z8,Z8,Z8,Z8,Z8,Z8,Z8,Z8,Z8,Z8,Z8,Z8,Z8,Z8,.slice none 0 0,Value.float FloatKind.f64 0,.string ⟨#[]⟩]:Array Value) = z from hz.symm]
 have HS:=Hy (HS0.out z)
 have HR:=Hy (HR0.out z)
 have HC:=Hy (HC0.out z)
 have HB:=Hy (HB0.out z)
 have HZ:=Hy hz
 have hzs:z.size = 35:=by rw [hz]; exact encC_s _ _ _
 have HZS:=Hy hzs
 have hs0:(((w.alloc (.cells #[.string ⟨s.toArray⟩] 9)).alloc (.cells z 47)).alloc (.cells z 47)).heap.size = w.heap.size + 3:=by simp
 clear hz hzs HS0 HR0 HC0 HB0
 generalize (((w.alloc (.cells #[.string ⟨s.toArray⟩] 9)).alloc (.cells z 47)).alloc (.cells z 47)) = w0 at *
 have hcall:=cget1_any w.heap.size (w.heap.size + 1 + 1) s (w0.alloc (.cells #[.int .i64 0] 25)) z (HS.out.past _) (HC.out.past _) HZS.out hl
 have hR:¬ w0.heap.size = w.heap.size + 1 + 1:=by omega
 cases hg:readC s with
 | none=>
  have HGN:=Hy hg
  have hc2:=hcall.mono fun e w' (h:_ ∨ _)=>(h.resolve_left (by rintro ⟨x,A,c,h9,-⟩; rw [hg] at h9; cases h9)).2
  have HD:=Hy (do_fell _ _ w0 (· = w.heap.size + 1 + 1) (cget1_enters _) hR hc2)
  clear hcall hc2 hg
  refine HD.out.mono ?_
  rintro e w3 ⟨cc,hcc,rfl,ha⟩
  have HBF:=Hy (HB.out.trans (ha.to (B:=w.heap.size) (fun k e=>by omega) (by omega)))
  have HR3:=Hy (HR.out.alt ha (by omega))
  have hne:(cc != 0) = true:=by simpa using hcc
  have hzb:=zC_build
  have HXS:=Hy (infoC_s none 0 noC)
  have HAL:=Hy (encC_all none 0 noC)
  have HSZ:=Hy (encC_s none 0 noC)
  clear ha hcc HD
  go_wp2_with (refine wpList_store_whole rfl 47 _ _ rfl (w.heap.size + 1) (encC none 0 noC).toArray rfl rfl 47 z HR3.out HXS.out (by rw [HSZ.out]; exact HZS.out) HAL.out ?_; intro w4 hWn hGn; have HW4:=Hy hWn; have HG4:=Hy hGn; clear hWn hGn)
  have HB4:=Hy (be_grown HBF.out HG4.out HBF.out.size (fun j hj=>by injection hj with hj; omega))
  refine bodyPost_ret (v:=.tuple #[.agg (encC none 0 noC).toArray,.int .i64 1]) (results_crow rfl _ _ _ (w.heap.size + 1) _ _ rfl rfl HW4.out HXS.out) rfl ⟨.inr ⟨HGN.out,rfl⟩,HB4.out⟩
 | some x=>
  have HGN:=Hy hg
  have hE:=Whole.made w0 25 #[.int .i64 0]
  have hc2:Calls Tryz.prog 195 #[.pointer (some ⟨w.heap.size,0,none⟩),.pointer (some ⟨w.heap.size + 1 + 1,0,none⟩)] (w0.alloc (.cells #[.int .i64 0] 25)) fun e w'=>e = .returned (.tuple #[]) ∧ Alt (· = w.heap.size + 1 + 1) (w0.alloc (.cells #[.int .i64 0] 25)) w' ∧ (∃ A c,Whole w' (w.heap.size + 1 + 1) 47 (encC A c x).toArray ∧ ArgN w' A c x.parents ∧ (∀ j,inBlk A j → w0.heap.size < j) ∧ OwnB w' A):=by
   refine hcall.mono fun e w' h=>?_
   rcases h with ⟨x',A,c,h9,he,ha,hw,har,hnb,hob⟩ | ⟨h9,-⟩
   ·rw [hg] at h9
    injection h9 with h9
    subst h9
    exact ⟨he,ha,A,c,hw,har,fun j hj=>by have:=hnb j hj; simp at this; omega,hob⟩
   ·rw [hg] at h9
    cases h9
  have HD:=Hy (do_ret_q _ _ w0 (· = w.heap.size + 1 + 1) _ (cget1_enters _) hR (by
   rintro w1 w2 - ⟨A,c,hw,har,hj,ho⟩ hal
   exact ⟨A,c,hw.alt hal (fun e=>hR e.symm),har.alt hal (fun j h1 _ e=>by have:=hj j h1; omega),hj,ho.alt hal (fun j h1 e=>by have:=hj j h1; omega)⟩) hc2)
  clear hcall hc2 hg hE
  refine HD.out.mono ?_
  rintro e w3 ⟨rfl,ha,A,c,hw,har,hj,hob⟩
  have HBF:=Hy (HB.out.trans (ha.to (B:=w.heap.size) (fun k e=>by omega) (by omega)))
  have HR3:=Hy (HR.out.alt ha (by omega))
  have HW3:=Hy hw
  have HAR:=Hy har
  have HXS:=Hy (infoC_s A c x)
  have HAL:=Hy (encC_all A c x)
  have HSZ:=Hy (encC_s A c x)
  have HJ:Hid (∀ j,inBlk A j → w.heap.size + 1 < j):=fun j h1=>by have:=hj j h1; omega
  have HOB:=Hy hob
  clear ha hw har hj HD hob
  generalize hcs:(encC A c x).toArray = cs at *
  go_wp2_with (first
   | (refine wpList_load_row rfl 47 _ rfl (w.heap.size + 1 + 1) rfl 47 cs (0,0) _ HW3.out Tryz.underlying47 rfl HXS.out ?_)
   | (refine wpList_store_whole rfl 47 _ _ rfl (w.heap.size + 1) cs rfl rfl 47 z HR3.out HXS.out (by rw [HSZ.out]; exact HZS.out) HAL.out ?_; intro w4 hWn hGn; have HW4:=Hy hWn; have HG4:=Hy hGn; clear hWn hGn))
  have HB4:=Hy (be_grown HBF.out HG4.out HBF.out.size (fun j hj=>by injection hj with hj; omega))
  refine bodyPost_ret (v:=.tuple #[.agg cs,.int .i64 0]) (results_crow rfl _ _ _ (w.heap.size + 1) _ cs rfl rfl HW4.out HXS.out) rfl ⟨.inl ⟨x,A,c,HGN.out,by rw [hcs],HAR.out.grown HG4.out ?_,fun j h1=>by have:=HJ.out j h1; omega,HOB.out.grown HG4.out ?_⟩,HB4.out⟩
  ·rintro j h1 - e
   injection e with e
   have:=HJ.out j h1
   omega
  ·rintro j h1 e
   injection e with e
   have:=HJ.out j h1
   omega
theorem cget_any (s:List UInt8) (w:World) (hl:s.length ≤ 1048576) :
  Calls Tryz.prog 148 #[.string ⟨s.toArray⟩] w fun e w'=>GotC w.heap.size s e w' ∧ Below w.heap.size w w':=by
 refine (cgetO_any s w hl).mono ?_
 rintro e w' ⟨⟨x,A,c,h1,h2,h3,h4⟩ | h,hb⟩
 ·exact ⟨.inl ⟨x,A,c,h1,h2,h3,h4.1⟩,hb⟩
 ·exact ⟨.inr h,hb⟩
def zO:Ob:=⟨0,[],[],noC⟩
def getOb (k:Int) (s:List UInt8):Ob × Int:=
 if k = 1 then (if s.length ≤ 1000 then (⟨1,s,[],noC⟩,0) else (zO,5))
 else if k = 2 then (match getT s with | some es=>(⟨2,[],es,noC⟩,0) | none=>(zO,1))
 else if k = 3 then (match readC s with | some x=>(⟨3,[],[],x⟩,0) | none=>(zO,1))
 else (zO,1)
theorem oblob_any (s:List UInt8) (w:World):Calls Tryz.prog 197 #[.string ⟨s.toArray⟩] w fun e w'=>e = .returned (if s.length ≤ 1000 then .tuple #[.string ⟨s.toArray⟩,.int .i64 0] else .tuple #[.string ⟨#[]⟩,.int .i64 5]) ∧ Below w.heap.size w w':=by
 by_cases h:s.length ≤ 1000
 ·have HC:=Hy (sclone_any s w (by omega))
  have hd:decide ((1000:Int) < (s.length:Int)) = false:=by simp; omega
  have H:=Hy h
  clear h
  go_enter Tryz.func197,Tryz.ntmps197
  go_wp2_with fail
  refine HC.out.mono ?_
  rintro e w1 ⟨rfl,hb⟩
  have HB:=Hy hb
  clear hb
  go_wp2
  go_ret2
  exact ⟨rfl,HB.out⟩
 ·have hd:decide ((1000:Int) < (s.length:Int)) = true:=by simp; omega
  have H:=Hy h
  clear h
  go_enter Tryz.func197,Tryz.ntmps197
  go_wp2
  go_ret2
  exact ⟨rfl,Below.refl _ _⟩
theorem zO_build (w:World):(Instr.build 49 #[]).run Tryz.prog w = .ok (.agg (encO none 0 none 0 zO).toArray) w:=by kernel_rfl
theorem argO_zero (k:Int) (b:List UInt8) (w:World):ArgO w none 0 none 0 ⟨k,b,[],noC⟩:=
 ⟨⟨Nat.le_refl _,Nat.zero_le _,fun _=>rfl,fun h=>absurd h (Nat.lt_irrefl _)⟩,⟨Nat.le_refl _,Nat.zero_le _,fun _=>rfl,fun h=>absurd h (Nat.lt_irrefl _)⟩⟩
theorem results_orow {fn:Func} (hr:fn.results = #[.cell 4 49,.tmp 5]) (v:Value) (a:Act) (w:World) (g:Nat) (t:TypeId) (cs:Array Value) (h2:a.tmps.getD 4 undef = .pointer (some ⟨g,0,none⟩)) (h3:a.tmps.getD 5 undef = v) (hW:Whole w g t cs) (hi:(Tryz.prog.info? 49).map (·.size) = some cs.size) :
  (results fn a.tmps).run Tryz.prog w = .ok (.tuple #[.agg cs,v]) w:=by
 rw [← h3]
 exact results_row_tmp hr _ _ g t cs (0,0) _ h2 hW Tryz.underlying49 rfl hi
theorem ArgE.grown {w w':World} {A:Option Addr} {c:Nat} {es:List En} {row:Option Nat} (h:ArgE w A c es) (hg:w.grownBy w' row) (hn:∀ j,inBlk A j → 0 < es.length → some j ≠ row):ArgE w' A c es:=by
 have h':=h
 obtain ⟨h1,h2,h3,h4⟩:=h
 refine ⟨h1,h2,h3,fun h0=>?_⟩
 obtain ⟨b,o,e,hr⟩:=h4 h0
 have hk:=hg.block b (h'.lt ⟨_,e,rfl⟩ h0) (hn b ⟨_,e,rfl⟩ h0)
 refine ⟨b,o,e,fun i hi j v hv=>?_⟩
 have:=hr i hi j v hv
 unfold World.cell? at *
 dsimp only at *
 rw [hk]
 exact this
theorem encO_set1 (A:Option Addr) (c:Nat) (A2:Option Addr) (c2:Nat) (x:Ob) (b:List UInt8):(encO A c A2 c2 x).toArray.setIfInBounds 1 (.string ⟨b.toArray⟩) = (encO A c A2 c2 ⟨x.kind,b,x.entries,x.commit⟩).toArray:=by
 apply Array.ext'
 simp [encO]
theorem encO_set2 (A:Option Addr) (c:Nat) (A2:Option Addr) (c2:Nat) (x:Ob) (A':Option Addr) (c':Nat) (es:List En):(encO A c A2 c2 x).toArray.setIfInBounds 2 (.slice A' es.length c') = (encO A' c' A2 c2 ⟨x.kind,x.blob,es,x.commit⟩).toArray:=by
 apply Array.ext'
 simp [encO]
theorem encO_over (A:Option Addr) (c:Nat) (A2:Option Addr) (c2:Nat) (x:Ob) (B:Option Addr) (d:Nat) (y:Cm):((encO A c A2 c2 x).toArray.toList.take 3 ++ (encC B d y) ++ (encO A c A2 c2 x).toArray.toList.drop (3 + (encC B d y).length)) = encO A c B d ⟨x.kind,x.blob,x.entries,y⟩:=by
 rw [encC_len]
 have h:(encO A c A2 c2 x).toArray.toList.drop (3 + 35) = []:=List.drop_eq_nil_of_le (by show (encO A c A2 c2 x).length ≤ 38; rw [encO_len]; exact Nat.le_refl _)
 rw [h,List.append_nil]
 rfl
theorem ogetO_1 (k:Int) (s:List UInt8) (w:World) (hl:s.length ≤ 1048576) (h1:k = 1) :
  Calls Tryz.prog 149 #[.int .i64 k,.string ⟨s.toArray⟩] w fun e w'=>(∃ A c A2 c2,e = .returned (.tuple #[.agg (encO A c A2 c2 (getOb k s).1).toArray,.int .i64 (getOb k s).2]) ∧ ArgO w' A c A2 c2 (getOb k s).1 ∧ Own2 w.heap.size w' A ∧ Own2 w.heap.size w' A2) ∧ Below w.heap.size w w':=by
 have HW0:=Hy (Whole.made w 49 #[Value.int .i64 0,.string ⟨#[]⟩,.slice none 0 0,Z8,Z8,Z8,Z8,Z8,Z8,Z8,Z8,Z8,Z8,Z8,Z8,Z8,Z8,Z8,Z8,Z8,Z8,Z8,Z8,Z8,Z8,Z8,Z8,Z8,Z8,Z8,Z8,Z8,Z8,Z8,Z8,.slice none 0 0,Value.float FloatKind.f64 0,.string ⟨#[]⟩])
 have HB0:=Hy ((Below.refl w.heap.size w).alloc (Nat.le_refl _) (.cells #[Value.int .i64 0,.string ⟨#[]⟩,.slice none 0 0,Z8,Z8,Z8,Z8,Z8,Z8,Z8,Z8,Z8,Z8,Z8,Z8,Z8,Z8,Z8,Z8,Z8,Z8,Z8,Z8,Z8,Z8,Z8,Z8,Z8,Z8,Z8,Z8,Z8,Z8,Z8,Z8,.slice none 0 0,Value.float FloatKind.f64 0,.string ⟨#[]⟩] 49))
 have hs0:(w.alloc (.cells #[Value.int .i64 0,.string ⟨#[]⟩,.slice none 0 0,Z8,Z8,Z8,Z8,Z8,Z8,Z8,Z8,Z8,Z8,Z8,Z8,Z8,Z8,Z8,Z8,Z8,Z8,Z8,Z8,Z8,Z8,Z8,Z8,Z8,Z8,Z8,Z8,Z8,Z8,Z8,Z8,.slice none 0 0,Value.float FloatKind.f64 0,.string ⟨#[]⟩] 49)).heap.size = w.heap.size + 1:=by simp
 have HS0:=Hy (infoO_s none 0 none 0 ⟨k,[],[],noC⟩)
 have HA0:=Hy (encO_all none 0 none 0 ⟨k,[],[],noC⟩)
 have HZ0:Hid (#[Value.int .i64 0,.string ⟨#[]⟩,.slice none 0 0,Z8,Z8,Z8,Z8,Z8,Z8,Z8,Z8,Z8,Z8,Z8,Z8,Z8,Z8,Z8,Z8,Z8,Z8,Z8,Z8,Z8,Z8,Z8,Z8,Z8,Z8,Z8,Z8,Z8,Z8,Z8,Z8,.slice none 0 0,Value.float FloatKind.f64 0,.string ⟨#[]⟩].size = (encO none 0 none 0 ⟨k,[],[],noC⟩).toArray.size):=rfl
 have HZZ:Hid (#[Value.int .i64 0,.string ⟨#[]⟩,.slice none 0 0,Z8,Z8,Z8,Z8,Z8,Z8,Z8,Z8,Z8,Z8,Z8,Z8,Z8,Z8,Z8,Z8,Z8,Z8,Z8,Z8,Z8,Z8,Z8,Z8,Z8,Z8,Z8,Z8,Z8,Z8,Z8,Z8,.slice none 0 0,Value.float FloatKind.f64 0,.string ⟨#[]⟩].size = 38):=rfl
 have HQ:Hid (getOb k s = (if k = 1 then (if s.length ≤ 1000 then (⟨1,s,[],noC⟩,0) else (zO,5))
 else if k = 2 then (match getT s with | some es=>(⟨2,[],es,noC⟩,0) | none=>(zO,1))
 else if k = 3 then (match readC s with | some x=>(⟨3,[],[],x⟩,0) | none=>(zO,1))
 else (zO,1):Ob × Int)):=rfl
 have HL:=Hy hl
 clear hl
 subst h1
 go_enter Tryz.func149,Tryz.ntmps149
 go_upto_region 1 with fail
 have HSI:=Hy hs0
 clear hs0
 generalize (w.alloc (.cells #[Value.int .i64 0,.string ⟨#[]⟩,.slice none 0 0,Z8,Z8,Z8,Z8,Z8,Z8,Z8,Z8,Z8,Z8,Z8,Z8,Z8,Z8,Z8,Z8,Z8,Z8,Z8,Z8,Z8,Z8,Z8,Z8,Z8,Z8,Z8,Z8,Z8,Z8,Z8,Z8,.slice none 0 0,Value.float FloatKind.f64 0,.string ⟨#[]⟩] 49)) = w0 at *
 go_wp2_with (refine wpList_store_whole rfl 49 _ _ rfl w0.heap.size (encO none 0 none 0 ⟨1,[],[],noC⟩).toArray rfl rfl 49 _ (Whole.made w0 _ _) HS0.out HZ0.out HA0.out ?_; intro w1 hWn hGn; have HW1:=Hy hWn; have HG1:=Hy hGn; clear hWn hGn)
 have HR1:=Hy ((HW0.out.past (.cells #[Value.int .i64 0,.string ⟨#[]⟩,.slice none 0 0,Z8,Z8,Z8,Z8,Z8,Z8,Z8,Z8,Z8,Z8,Z8,Z8,Z8,Z8,Z8,Z8,Z8,Z8,Z8,Z8,Z8,Z8,Z8,Z8,Z8,Z8,Z8,Z8,Z8,Z8,Z8,Z8,.slice none 0 0,Value.float FloatKind.f64 0,.string ⟨#[]⟩] 49)).grown HG1.out (fun e=>by injection e with e; have:=HSI.out; omega))
 have HB1:=Hy (be_grown (HB0.out.alloc HB0.out.size (.cells #[Value.int .i64 0,.string ⟨#[]⟩,.slice none 0 0,Z8,Z8,Z8,Z8,Z8,Z8,Z8,Z8,Z8,Z8,Z8,Z8,Z8,Z8,Z8,Z8,Z8,Z8,Z8,Z8,Z8,Z8,Z8,Z8,Z8,Z8,Z8,Z8,Z8,Z8,Z8,Z8,.slice none 0 0,Value.float FloatKind.f64 0,.string ⟨#[]⟩] 49)) HG1.out (by have:=HB0.out.size; simp; omega) (fun j hj=>by injection hj with hj; have:=HSI.out; omega))
 have hlt1:w0.heap.size < w1.heap.size:=HW1.out.lt
 have hlt0:w.heap.size < w0.heap.size:=by have:=HSI.out; omega
 refine (oblob_any s w1).mono ?_
 rintro e w2 ⟨rfl,hb⟩
 have HB2:=Hy (hTr HB1 hb)
 have HW2:=Hy (HW1.out.below hb hlt1)
 have HR2:=Hy (HR1.out.below hb (by omega))
 have hlt2:w0.heap.size < w2.heap.size:=HW2.out.lt
 clear hb
 by_cases h1000:s.length ≤ 1000
 ·have HGO:Hid (getOb 1 s = (⟨1,s,[],noC⟩,0)):=by show _ = _; rw [HQ.out,if_pos (by trivial),if_pos h1000]
  rw [if_pos h1000]
  clear h1000
  have e1:=(HW2.out.at_ 1).trans (encO_1 none 0 none 0 ⟨1,[],[],noC⟩)
  have f1:=HW2.out.thawed 1
  have hw3:=HW2.out.put 1 (.string ⟨s.toArray⟩)
  rw [encO_set1] at hw3
  have HW3:=Hy hw3
  have HR3:=Hy (HR2.out.aside (p:=⟨w0.heap.size,1,none⟩) (by simp; omega) (.string ⟨s.toArray⟩))
  have HB3:=Hy (HB2.out.setCell (p:=⟨w0.heap.size,1,none⟩) (by simp; omega) (.string ⟨s.toArray⟩))
  clear hw3
  have HXS:=Hy (infoO_s none 0 none 0 ⟨1,s,[],noC⟩)
  have HAX:=Hy (encO_all none 0 none 0 ⟨1,s,[],noC⟩)
  have HSX:=Hy (encO_s none 0 none 0 ⟨1,s,[],noC⟩)
  generalize hcs:(encO none 0 none 0 ⟨1,s,[],noC⟩).toArray = cs at *
  go_wp2_with (first
   | (refine wpList_load_row rfl 49 _ rfl w0.heap.size rfl 49 cs (0,0) _ HW3.out Tryz.underlying49 rfl HXS.out ?_)
   | (refine wpList_store_whole rfl 49 _ _ rfl w.heap.size cs rfl rfl 49 _ HR3.out HXS.out (by rw [HSX.out]; rfl) HAX.out ?_; intro w9 hWn hGn; have HW9:=Hy hWn; have HG9:=Hy hGn; clear hWn hGn))
  have HB9:=Hy (be_grown HB3.out HG9.out HB3.out.size (fun j hj=>by injection hj with hj; omega))
  refine bodyPost_ret (v:=.tuple #[.agg cs,.int .i64 0]) (results_orow rfl _ _ _ w.heap.size _ cs rfl rfl HW9.out HXS.out) rfl ⟨⟨none,0,none,0,by rw [HGO.out,hcs],by rw [HGO.out]; exact argO_zero 1 s w9,Own2.nil _ _,Own2.nil _ _⟩,HB9.out⟩
 ·have HGO:Hid (getOb 1 s = (zO,5)):=by show _ = _; rw [HQ.out,if_pos (by trivial),if_neg h1000]
  rw [if_neg h1000]
  clear h1000
  have e1:=(HW2.out.at_ 1).trans (encO_1 none 0 none 0 ⟨1,[],[],noC⟩)
  have f1:=HW2.out.thawed 1
  have hw3:=HW2.out.put 1 (.string ⟨([]:List UInt8).toArray⟩)
  rw [encO_set1] at hw3
  have HW3:=Hy hw3
  have HR3:=Hy (HR2.out.aside (p:=⟨w0.heap.size,1,none⟩) (by simp; omega) (.string ⟨([]:List UInt8).toArray⟩))
  have HB3:=Hy (HB2.out.setCell (p:=⟨w0.heap.size,1,none⟩) (by simp; omega) (.string ⟨([]:List UInt8).toArray⟩))
  clear hw3
  have hzb:=zO_build
  have HXS:=Hy (infoO_s none 0 none 0 zO)
  have HAX:=Hy (encO_all none 0 none 0 zO)
  go_wp2_with (refine wpList_store_whole rfl 49 _ _ rfl w.heap.size (encO none 0 none 0 zO).toArray rfl rfl 49 _ HR3.out HXS.out rfl HAX.out ?_; intro w9 hWn hGn; have HW9:=Hy hWn; have HG9:=Hy hGn; clear hWn hGn)
  have HB9:=Hy (be_grown HB3.out HG9.out HB3.out.size (fun j hj=>by injection hj with hj; omega))
  refine bodyPost_ret (v:=.tuple #[.agg (encO none 0 none 0 zO).toArray,.int .i64 5]) (results_orow rfl _ _ _ w.heap.size _ _ rfl rfl HW9.out HXS.out) rfl ⟨⟨none,0,none,0,by rw [HGO.out],by rw [HGO.out]; exact argO_zero 0 [] w9,Own2.nil _ _,Own2.nil _ _⟩,HB9.out⟩
theorem ogetO_2 (k:Int) (s:List UInt8) (w:World) (hl:s.length ≤ 1048576) (h1:¬ k = 1) (h2:k = 2) :
  Calls Tryz.prog 149 #[.int .i64 k,.string ⟨s.toArray⟩] w fun e w'=>(∃ A c A2 c2,e = .returned (.tuple #[.agg (encO A c A2 c2 (getOb k s).1).toArray,.int .i64 (getOb k s).2]) ∧ ArgO w' A c A2 c2 (getOb k s).1 ∧ Own2 w.heap.size w' A ∧ Own2 w.heap.size w' A2) ∧ Below w.heap.size w w':=by
 have HW0:=Hy (Whole.made w 49 #[Value.int .i64 0,.string ⟨#[]⟩,.slice none 0 0,Z8,Z8,Z8,Z8,Z8,Z8,Z8,Z8,Z8,Z8,Z8,Z8,Z8,Z8,Z8,Z8,Z8,Z8,Z8,Z8,Z8,Z8,Z8,Z8,Z8,Z8,Z8,Z8,Z8,Z8,Z8,Z8,.slice none 0 0,Value.float FloatKind.f64 0,.string ⟨#[]⟩])
 have HB0:=Hy ((Below.refl w.heap.size w).alloc (Nat.le_refl _) (.cells #[Value.int .i64 0,.string ⟨#[]⟩,.slice none 0 0,Z8,Z8,Z8,Z8,Z8,Z8,Z8,Z8,Z8,Z8,Z8,Z8,Z8,Z8,Z8,Z8,Z8,Z8,Z8,Z8,Z8,Z8,Z8,Z8,Z8,Z8,Z8,Z8,Z8,Z8,Z8,Z8,.slice none 0 0,Value.float FloatKind.f64 0,.string ⟨#[]⟩] 49))
 have hs0:(w.alloc (.cells #[Value.int .i64 0,.string ⟨#[]⟩,.slice none 0 0,Z8,Z8,Z8,Z8,Z8,Z8,Z8,Z8,Z8,Z8,Z8,Z8,Z8,Z8,Z8,Z8,Z8,Z8,Z8,Z8,Z8,Z8,Z8,Z8,Z8,Z8,Z8,Z8,Z8,Z8,Z8,Z8,.slice none 0 0,Value.float FloatKind.f64 0,.string ⟨#[]⟩] 49)).heap.size = w.heap.size + 1:=by simp
 have HS0:=Hy (infoO_s none 0 none 0 ⟨k,[],[],noC⟩)
 have HA0:=Hy (encO_all none 0 none 0 ⟨k,[],[],noC⟩)
 have HZ0:Hid (#[Value.int .i64 0,.string ⟨#[]⟩,.slice none 0 0,Z8,Z8,Z8,Z8,Z8,Z8,Z8,Z8,Z8,Z8,Z8,Z8,Z8,Z8,Z8,Z8,Z8,Z8,Z8,Z8,Z8,Z8,Z8,Z8,Z8,Z8,Z8,Z8,Z8,Z8,Z8,Z8,.slice none 0 0,Value.float FloatKind.f64 0,.string ⟨#[]⟩].size = (encO none 0 none 0 ⟨k,[],[],noC⟩).toArray.size):=rfl
 have HZZ:Hid (#[Value.int .i64 0,.string ⟨#[]⟩,.slice none 0 0,Z8,Z8,Z8,Z8,Z8,Z8,Z8,Z8,Z8,Z8,Z8,Z8,Z8,Z8,Z8,Z8,Z8,Z8,Z8,Z8,Z8,Z8,Z8,Z8,Z8,Z8,Z8,Z8,Z8,Z8,Z8,Z8,.slice none 0 0,Value.float FloatKind.f64 0,.string ⟨#[]⟩].size = 38):=rfl
 have HQ:Hid (getOb k s = (if k = 1 then (if s.length ≤ 1000 then (⟨1,s,[],noC⟩,0) else (zO,5))
 else if k = 2 then (match getT s with | some es=>(⟨2,[],es,noC⟩,0) | none=>(zO,1))
 else if k = 3 then (match readC s with | some x=>(⟨3,[],[],x⟩,0) | none=>(zO,1))
 else (zO,1):Ob × Int)):=rfl
 have HL:=Hy hl
 clear hl
 subst h2
 go_enter Tryz.func149,Tryz.ntmps149
 go_upto_region 1 with fail
 have HSI:=Hy hs0
 clear hs0
 generalize (w.alloc (.cells #[Value.int .i64 0,.string ⟨#[]⟩,.slice none 0 0,Z8,Z8,Z8,Z8,Z8,Z8,Z8,Z8,Z8,Z8,Z8,Z8,Z8,Z8,Z8,Z8,Z8,Z8,Z8,Z8,Z8,Z8,Z8,Z8,Z8,Z8,Z8,Z8,Z8,Z8,Z8,Z8,.slice none 0 0,Value.float FloatKind.f64 0,.string ⟨#[]⟩] 49)) = w0 at *
 go_wp2_with (refine wpList_store_whole rfl 49 _ _ rfl w0.heap.size (encO none 0 none 0 ⟨2,[],[],noC⟩).toArray rfl rfl 49 _ (Whole.made w0 _ _) HS0.out HZ0.out HA0.out ?_; intro w1 hWn hGn; have HW1:=Hy hWn; have HG1:=Hy hGn; clear hWn hGn)
 have HR1:=Hy ((HW0.out.past (.cells #[Value.int .i64 0,.string ⟨#[]⟩,.slice none 0 0,Z8,Z8,Z8,Z8,Z8,Z8,Z8,Z8,Z8,Z8,Z8,Z8,Z8,Z8,Z8,Z8,Z8,Z8,Z8,Z8,Z8,Z8,Z8,Z8,Z8,Z8,Z8,Z8,Z8,Z8,Z8,Z8,.slice none 0 0,Value.float FloatKind.f64 0,.string ⟨#[]⟩] 49)).grown HG1.out (fun e=>by injection e with e; have:=HSI.out; omega))
 have HB1:=Hy (be_grown (HB0.out.alloc HB0.out.size (.cells #[Value.int .i64 0,.string ⟨#[]⟩,.slice none 0 0,Z8,Z8,Z8,Z8,Z8,Z8,Z8,Z8,Z8,Z8,Z8,Z8,Z8,Z8,Z8,Z8,Z8,Z8,Z8,Z8,Z8,Z8,Z8,Z8,Z8,Z8,Z8,Z8,Z8,Z8,Z8,Z8,.slice none 0 0,Value.float FloatKind.f64 0,.string ⟨#[]⟩] 49)) HG1.out (by have:=HB0.out.size; simp; omega) (fun j hj=>by injection hj with hj; have:=HSI.out; omega))
 have hlt1:w0.heap.size < w1.heap.size:=HW1.out.lt
 have hlt0:w.heap.size < w0.heap.size:=by have:=HSI.out; omega
 refine (tgetO_any s w1 (by have:=HL.out; omega)).mono ?_
 rintro e w2 ⟨(⟨es,A,c,hgt,rfl,har,hnb⟩ | ⟨hgt,rfl⟩),hb⟩
 ·have HGO:Hid (getOb 2 s = (⟨2,[],es,noC⟩,0)):=by show _ = _; rw [HQ.out,if_neg (by decide),if_pos (by trivial),hgt]
  have HB2:=Hy (hTr HB1 hb)
  have HW2:=Hy (HW1.out.below hb hlt1)
  have HR2:=Hy (HR1.out.below hb (by omega))
  have hlt2:w0.heap.size < w2.heap.size:=HW2.out.lt
  have HAR:=Hy har
  have HNB:=Hy hnb.1
  have HOB:=Hy hnb.2
  clear hb har hnb hgt
  have e1:=(HW2.out.at_ 2).trans (encO_2 none 0 none 0 ⟨2,[],[],noC⟩)
  have f1:=HW2.out.thawed 2
  have hw3:=HW2.out.put 2 (.slice A es.length c)
  rw [encO_set2] at hw3
  have HW3:=Hy hw3
  have HR3:=Hy (HR2.out.aside (p:=⟨w0.heap.size,2,none⟩) (by simp; omega) (.slice A es.length c))
  have HB3:=Hy (HB2.out.setCell (p:=⟨w0.heap.size,2,none⟩) (by simp; omega) (.slice A es.length c))
  clear hw3
  have HAR3:=Hy (HAR.out.grown (gr_set (a:=w2) (w:=w2) (row:=some w0.heap.size) (gr_refl _ _) (p:=⟨w0.heap.size,2,none⟩) (.inl rfl) (.slice A es.length c)) (fun j hj _ e=>by injection e with e; have:=HNB.out j hj; omega))
  have HOB3:=Hy (HOB.out.set w0.heap.size 2 (.slice A es.length c))
  have HXS:=Hy (infoO_s A c none 0 ⟨2,[],es,noC⟩)
  have HAX:=Hy (encO_all A c none 0 ⟨2,[],es,noC⟩)
  have HSX:=Hy (encO_s A c none 0 ⟨2,[],es,noC⟩)
  generalize hcs:(encO A c none 0 ⟨2,[],es,noC⟩).toArray = cs at *
  go_wp2_with (first
   | (refine wpList_load_row rfl 49 _ rfl w0.heap.size rfl 49 cs (0,0) _ HW3.out Tryz.underlying49 rfl HXS.out ?_)
   | (refine wpList_store_whole rfl 49 _ _ rfl w.heap.size cs rfl rfl 49 _ HR3.out HXS.out (by rw [HSX.out]; rfl) HAX.out ?_; intro w9 hWn hGn; have HW9:=Hy hWn; have HG9:=Hy hGn; clear hWn hGn))
  have HB9:=Hy (be_grown HB3.out HG9.out HB3.out.size (fun j hj=>by injection hj with hj; omega))
  refine bodyPost_ret (v:=.tuple #[.agg cs,.int .i64 0]) (results_orow rfl _ _ _ w.heap.size _ cs rfl rfl HW9.out HXS.out) rfl ⟨⟨A,c,none,0,by rw [HGO.out,hcs],by rw [HGO.out]; exact ⟨HAR3.out.grown HG9.out (fun j hj _ e=>by injection e with e; have:=HNB.out j hj; omega),(argO_zero 2 [] w9).2⟩,⟨fun j hj=>by have:=HNB.out j hj; omega,HOB3.out.grown HG9.out (fun j hj e=>by injection e with e; have:=HNB.out j hj; omega)⟩,Own2.nil _ _⟩,HB9.out⟩
 ·have HGO:Hid (getOb 2 s = (zO,1)):=by show _ = _; rw [HQ.out,if_neg (by decide),if_pos (by trivial),hgt]
  have HB2:=Hy (hTr HB1 hb)
  have HW2:=Hy (HW1.out.below hb hlt1)
  have HR2:=Hy (HR1.out.below hb (by omega))
  have hlt2:w0.heap.size < w2.heap.size:=HW2.out.lt
  clear hb hgt
  have e1:=(HW2.out.at_ 2).trans (encO_2 none 0 none 0 ⟨2,[],[],noC⟩)
  have f1:=HW2.out.thawed 2
  have hw3:=HW2.out.put 2 (.slice none ([]:List En).length 0)
  rw [encO_set2] at hw3
  have HW3:=Hy hw3
  have HR3:=Hy (HR2.out.aside (p:=⟨w0.heap.size,2,none⟩) (by simp; omega) (.slice none ([]:List En).length 0))
  have HB3:=Hy (HB2.out.setCell (p:=⟨w0.heap.size,2,none⟩) (by simp; omega) (.slice none ([]:List En).length 0))
  clear hw3
  have hzb:=zO_build
  have HXS:=Hy (infoO_s none 0 none 0 zO)
  have HAX:=Hy (encO_all none 0 none 0 zO)
  go_wp2_with (refine wpList_store_whole rfl 49 _ _ rfl w.heap.size (encO none 0 none 0 zO).toArray rfl rfl 49 _ HR3.out HXS.out rfl HAX.out ?_; intro w9 hWn hGn; have HW9:=Hy hWn; have HG9:=Hy hGn; clear hWn hGn)
  have HB9:=Hy (be_grown HB3.out HG9.out HB3.out.size (fun j hj=>by injection hj with hj; omega))
  refine bodyPost_ret (v:=.tuple #[.agg (encO none 0 none 0 zO).toArray,.int .i64 1]) (results_orow rfl _ _ _ w.heap.size _ _ rfl rfl HW9.out HXS.out) rfl ⟨⟨none,0,none,0,by rw [HGO.out],by rw [HGO.out]; exact argO_zero 0 [] w9,Own2.nil _ _,Own2.nil _ _⟩,HB9.out⟩
end Go.Proofs.YtlfmooihcigolaaGreatDoor

/-
  OidA, OidB, LinA.
-/
import Derived.Test.YtlfmooihcigolaaGreatDoorMak
set_option maxRecDepth 100000
set_option maxHeartbeats 8000000
namespace Go.Proofs.YtlfmooihcigolaaGreatDoor
open Go.RowKit
theorem wpList_of_string {P:Program} {ops:Array Oper} {rest:List Oper} {o:Oper} {a:Act} {w:World} {Q:Exit → Act → World → Prop} (hgd:o.guard = none) (src dst e:TypeId) (x:Operand) (ho:o.op = .convert src dst x) (s:ByteArray) (l:List UInt8) (hx:a.eval x = .string s) (hsl:s = ⟨l.toArray⟩)
  (hs:P.underlying src = some .string) (hd:P.underlying dst = some (.slice e)) (he:P.underlying e = some (.int .u8)) (hlen:l.length ≤ maxLen)
  (h:∀ w' c,Bytes w' (.slice (some ⟨w.heap.size,0,none⟩) l.length c) l → (∀ i,i < l.length → w'.frozen? ⟨w.heap.size,i,none⟩ = false) → Below w.heap.size w w' → w'.heap.size = w.heap.size + 1 → wpList P ops Q rest (a.put o.dst (.slice (some ⟨w.heap.size,0,none⟩) l.length c)) w') :
  wpList P ops Q (o :: rest) a w:=by
 subst hsl
 refine wpList_plain hgd fun K hK=>?_
 have hrun:=run_bytes_of_string (P:=P) w src dst e ⟨l.toArray⟩ hs hd he
 have hsz:(ByteArray.mk l.toArray).size = l.length:=by simp [ByteArray.size]
 have hge:=grownCap_ge w (ByteArray.mk l.toArray).size 0 e
 have hle:=grownCap_le_maxLen w (ByteArray.mk l.toArray).size 0 e (by rw [hsz]; exact hlen)
 rw [hsz] at hrun hge hle
 generalize grownCap w l.length 0 e = c at *
 have hrl:(bytesRow ⟨l.toArray⟩ c).size = c:=by simp [bytesRow,hsz]; omega
 unfold Oper.wp execOp
 simp only [ho,hx,hrun,Sem.run_bind,Result.andThen_ok]
 refine hK _ _ (h _ c ⟨_,c,rfl,hge,hle,fun _=>⟨_,_,rfl,fun i hi=>?_⟩⟩ (fun i hi=>?_) ?_ ?_)
 ·rw [Nat.zero_add]
  have hh:(w.drew.alloc (.cells (bytesRow ⟨l.toArray⟩ c) e ((bytesRow ⟨l.toArray⟩ c).size,(bytesRow ⟨l.toArray⟩ c).size + 1))).heap[w.heap.size]? = some (.cells (bytesRow ⟨l.toArray⟩ c) e ((bytesRow ⟨l.toArray⟩ c).size,(bytesRow ⟨l.toArray⟩ c).size + 1)):=by
   show (w.heap.push _)[w.heap.size]? = _
   simp
  rw [cell_of_row _ _ i _ _ _ hh]
  simp only [bytesRow]
  rw [Array.getElem?_append_left (by simpa using hi)]
  simp [Y,List.getElem?_eq_getElem hi]
 ·have hh:(w.drew.alloc (.cells (bytesRow ⟨l.toArray⟩ c) e ((bytesRow ⟨l.toArray⟩ c).size,(bytesRow ⟨l.toArray⟩ c).size + 1))).heap[w.heap.size]? = some (.cells (bytesRow ⟨l.toArray⟩ c) e ((bytesRow ⟨l.toArray⟩ c).size,(bytesRow ⟨l.toArray⟩ c).size + 1)):=by
   show (w.heap.push _)[w.heap.size]? = _
   simp
  unfold World.frozen?
  rw [hh,hrl]
  simp; omega
 ·exact ((Below.refl _ _).drew).alloc (Nat.le_refl _) _
 ·show (w.heap.push _).size = _
  simp
theorem ba_append (a b:List UInt8):(ByteArray.mk a.toArray) ++ (ByteArray.mk b.toArray) = ByteArray.mk (a ++ b).toArray:=by
 apply ByteArray.ext
 simp
theorem itoa_1 (w:World):Calls Tryz.prog 174 #[.int .i64 1] w fun e w'=>e = .returned (.string ⟨#[49]⟩) ∧ w = w':=by
 go_enter Tryz.func174,Tryz.ntmps174
 go_wp2
 go_ret
 exact ⟨rfl,rfl⟩
theorem word_1 (w:World):Calls Tryz.prog 173 #[.int .i64 1] w fun e w'=>e = .returned (.string ⟨#[98,108,111,98]⟩) ∧ w = w':=by
 go_enter Tryz.func173,Tryz.ntmps173
 go_wp2
 go_ret
 exact ⟨rfl,rfl⟩
theorem of_any (kind:Int) (kw dec body:List UInt8) (w:World) (hTab:Tabs w) (hw:∀ W,Calls Tryz.prog 173 #[.int .i64 kind] W fun e w'=>e = .returned (.string ⟨kw.toArray⟩) ∧ W = w')
  (hd:∀ W,Calls Tryz.prog 174 #[.int .i64 (body.length:Int)] W fun e w'=>e = .returned (.string ⟨dec.toArray⟩) ∧ Below W.heap.size W w') (hlen:kw.length + dec.length + body.length < 2 ^ 40) :
  Calls Tryz.prog 118 #[.int .i64 kind,.string ⟨body.toArray⟩] w fun e w'=>e = .returned (.agg ((ShaM.sha (kw ++ [32] ++ dec ++ [0] ++ body)).map Y).toArray) ∧ Below w.heap.size w w':=by
 have hl1:=hTab.lt1
 have hl2:=hTab.lt2
 have HTab:=Hy hTab
 have HW:=Hy hw
 have HD:=Hy hd
 obtain ⟨L,hL⟩:∃ L,L = kw ++ [32] ++ dec ++ [0]:=⟨_,rfl⟩
 have hpre:L.length < 2 ^ 41:=by rw [hL]; simp; omega
 have hpre2:L.length + body.length < 2 ^ 42:=by omega
 have HL:=Hy hL
 clear hTab hw hd hL
 go_enter Tryz.func118,Tryz.ntmps118
 go_wp2_with fail
 refine (new_any _).mono ?_
 rintro e w1 ⟨rfl,hB1,hH1,hs1⟩
 have hs1':w1.heap.size = w.heap.size + 2:=by rw [hs1]; simp
 have HB1:=Hy (((Below.refl w.heap.size w).alloc (Nat.le_refl _) _).trans (hB1.mono (by simp)))
 have HH1:Hid (HashAt w1 (w.heap.size + 1) 231 []):=by show HashAt _ _ _ _; simpa using hH1
 obtain ⟨z,hz,hZ⟩:∃ z:Array Value,z.size = 32 ∧ Whole w1 w.heap.size 30 z:=⟨_,rfl,(Whole.made w _ _).below hB1 (by simp)⟩
 have HZ:=Hy hz
 have HZ1:=Hy hZ
 clear hB1 hH1 hs1 hz hZ
 go_wp2_with fail
 refine (HW.out _).mono ?_
 rintro e w2 ⟨rfl,rfl⟩
 go_wp2_with fail
 refine (HD.out _).mono ?_
 rintro e w3 ⟨rfl,hB3⟩
 have HB3:=Hy hB3
 have hs3:=hB3.size
 clear hB3
 go_wp2_with (refine wpList_of_string rfl 9 63 5 (.tmp 15) rfl _ L rfl (by rw [HL.out,← ba_append,← ba_append,← ba_append]) Tryz.underlying9 Tryz.underlying63 Tryz.underlying5 (by unfold maxLen; omega) ?_; intro w4 c hby hfz hB4 hs4; have HBY:=Hy hby; have HB4:=Hy hB4; clear hby hfz hB4)
 have HB04:Hid (Below w.heap.size w w4):=(HB1.out.trans (HB3.out.mono (by omega))).trans (HB4.out.mono (by omega))
 have HB14:Hid (Below w1.heap.size w1 w4):=HB3.out.trans (HB4.out.mono (by omega))
 refine (put_any (w.heap.size + 1) 231 _ [] L w4 (HTab.out.below HB04.out hl1 hl2) (by omega) (by omega) (HH1.out.below HB14.out (by omega)) (by simp) HBY.out (fun _ h=>by injection h with h; dsimp only at h; omega)).mono ?_
 rintro e w5 ⟨rfl,hG5,hH5⟩
 rw [List.nil_append] at hH5
 have HH5:=Hy hH5
 have HB5:=Hy (be_grown HB04.out hG5 HB04.out.size (fun j hj=>by injection hj with hj; omega))
 have HZ5:=Hy ((HZ1.out.below HB14.out (by omega)).grown hG5 (by simp))
 have hs5:=hG5.size
 clear hG5 hH5
 go_wp2_with (refine wpList_of_string rfl 9 63 5 (.tmp 19) rfl _ body rfl rfl Tryz.underlying9 Tryz.underlying63 Tryz.underlying5 (by unfold maxLen; omega) ?_; intro w6 c6 hby hfz hB6 hs6; have HBY6:=Hy hby; have HB6:=Hy hB6; clear hby hfz hB6)
 have HB06:Hid (Below w.heap.size w w6):=HB5.out.trans (HB6.out.mono (by omega))
 refine (put_any (w.heap.size + 1) 231 _ L body w6 (HTab.out.below HB06.out hl1 hl2) (by omega) (by omega) (HH5.out.below HB6.out (by omega)) (by omega) HBY6.out (fun _ h=>by injection h with h; dsimp only at h; omega)).mono ?_
 rintro e w7 ⟨rfl,hG7,hH7⟩
 have HH7:=Hy hH7
 have HB7:=Hy (be_grown HB06.out hG7 HB06.out.size (fun j hj=>by injection hj with hj; omega))
 have HZ7:=Hy ((HZ5.out.below HB6.out (by omega)).grown hG7 (by simp))
 have hs7:=hG7.size
 clear hG7 hH7
 go_wp2_with fail
 refine (hsum_any (w.heap.size + 1) _ _ w7 (HTab.out.below HB7.out hl1 hl2) HH7.out (by rw [List.length_append]; omega)).mono ?_
 rintro e w8 ⟨rfl,hB8⟩
 obtain ⟨oc,hoc⟩:∃ oc,oc = ((ShaM.sha (L ++ body)).map Y).toArray:=⟨_,rfl⟩
 rw [← hoc]
 have hos:oc.size = 32:=by rw [hoc,List.size_toArray,List.length_map]; rfl
 have HOI:Hid ((Tryz.prog.info? 30).map (·.size) = some oc.size):=by show _ = _; rw [hos]; kernel_rfl
 have HO1:Hid (oc.all (·.oneCell') = true):=by show _ = _; rw [hoc]; exact ys_all _
 have HOS:Hid (z.size = oc.size):=by show _ = _; rw [hos,HZ.out]
 have HZ8:=Hy (HZ7.out.below hB8 (by omega))
 have HB8:=Hy (HB7.out.trans (hB8.mono (by omega)))
 have HOC:=Hy hoc
 clear hoc hos hB8
 go_wp2_with (refine wpList_store_whole rfl 30 _ _ rfl w.heap.size oc rfl rfl 30 z HZ8.out HOI.out HOS.out HO1.out ?_; intro w9 hW9 hG9; have HW9:=Hy hW9; have HB9:=Hy (be_grown HB8.out hG9 HB8.out.size (fun j hj=>by injection hj with hj; omega)); clear hW9 hG9)
 refine bodyPost_ret (v:=.agg oc) ?_ rfl ⟨by rw [HOC.out,HL.out],HB9.out⟩
 exact results_cell_row (p:=4) (ty:=30) rfl _ _ w.heap.size 30 oc (0,0) _ rfl HW9.out Tryz.underlying30 rfl HOI.out
def hexOf:List UInt8 → List UInt8
 | []=>[]
 | b :: r=>hx (b.toNat / 16) :: hx (b.toNat % 16) :: hexOf r
theorem hexOf_len (l:List UInt8):(hexOf l).length = 2 * l.length:=by
 induction l with
 | nil=>rfl
 | cons b r ih=>simp [hexOf,ih]; omega
theorem hexOf_snoc (l:List UInt8) (b:UInt8):hexOf (l ++ [b]) = hexOf l ++ [hx (b.toNat / 16),hx (b.toNat % 16)]:=by
 induction l with
 | nil=>rfl
 | cons c r ih=>simp [hexOf,ih]
def htarr (l:List UInt8):List Value:=(hexOf l ++ List.replicate (64 - 2 * l.length) 0).map Y
theorem htarr_len (l:List UInt8) (h:l.length ≤ 32):(htarr l).length = 64:=by simp [htarr,hexOf_len]; omega
theorem htarr_step (l:List UInt8) (b:UInt8) (h:l.length < 32):((htarr l).toArray.setIfInBounds (2 * l.length) (Y (hx (b.toNat / 16)))).setIfInBounds (2 * l.length + 1) (Y (hx (b.toNat % 16))) = (htarr (l ++ [b])).toArray:=by
 apply Array.ext'
 obtain ⟨m,hm⟩:∃ m,64 - 2 * l.length = m + 2:=⟨62 - 2 * l.length,by omega⟩
 have hm2:64 - 2 * (l.length + 1) = m:=by omega
 simp only [htarr,Array.toList_setIfInBounds,hexOf_snoc,List.map_append,List.length_append,List.length_cons,List.length_nil,hm,hm2,List.replicate_succ,List.map_cons]
 rw [List.set_append_right _ _ (by simp [hexOf_len]),List.set_append_right _ _ (by simp [hexOf_len])]
 simp [hexOf_len,show 2 * l.length + 1 - 2 * l.length = 1 by omega]
theorem htarr_at (l:List UInt8) (i:Nat) (h:l.length ≤ 32) (hi:i < 64):∃ x:Int,(htarr l).toArray[i]? = some (.int .u8 x):=by
 have hl:=htarr_len l h
 obtain ⟨v,hv⟩:∃ v,(htarr l)[i]? = some v:=⟨_,List.getElem?_eq_getElem (by rw [hl]; exact hi)⟩
 have hm:=List.mem_of_getElem? hv
 unfold htarr at hm
 obtain ⟨y,_,rfl⟩:=List.mem_map.1 hm
 exact ⟨_,by rw [List.getElem?_toArray,hv]; rfl⟩
theorem and_15 (b:UInt8):bits .and .u8 (b.toNat:Int) 15 = (b.toNat:Int) % 16:=by
 have h:=u8_and_nat b.toNat 15 b.toNat_lt (by decide)
 have e:b.toNat &&& 15 = b.toNat % 16:=Nat.and_two_pow_sub_one_eq_mod b.toNat 4
 rw [e] at h
 rw [show ((15:Nat):Int) = 15 from rfl] at h
 rw [h]; omega
theorem hex_any (id:List UInt8) (w:World) (hid:id.length = 32):Calls Tryz.prog 184 #[.agg (id.map Y).toArray] w fun e w'=>e = .returned (.string ⟨(hexOf id).toArray⟩) ∧ Below w.heap.size w w':=by
 have hcs:((id.map Y).toArray).size = 32:=by simp [hid]
 have hat:∀ i,i < 32 → ((id.map Y).toArray)[i]? = some (Y (id.getD i 0)):=fun i hi=>by rw [List.getElem?_toArray,← some_y _ _ (by omega)]
 have HI:Hid ((Tryz.prog.info? 30).map (·.size) = some ((id.map Y).toArray).size):=by show _ = _; rw [hcs]; kernel_rfl
 have HAT:=Hy hat
 have HID:=Hy hid
 clear hcs hat hid
 generalize (id.map Y).toArray = cs at *
 go_enter Tryz.func184,Tryz.ntmps184
 go_wp2_with (refine wpList_load_row rfl 30 _ rfl w.heap.size rfl 30 cs (0,0) _ ((Whole.made w _ _).past _) Tryz.underlying30 rfl HI.out ?_)
 go_loopw [7] (fun i wr=>∃ k:Nat,k ≤ 32 ∧ i = .int .i64 k ∧ Whole wr (w.heap.size + 1) 229 (htarr (id.take k)).toArray ∧ Below w.heap.size w wr) (fun i _=>32 - (intOf i).toNat)
 case atStart=>exact ⟨0,by omega,rfl,heap_alloc2_new w _ _,((Below.refl _ _).alloc (Nat.le_refl _) _).alloc (by simp) _⟩
 case round=>
  obtain ⟨k,hk,rfl,hW,hB⟩:=hrel
  have HW:=Hy hW
  have HB:=Hy hB
  clear hW hB
  by_cases hlt:k < 32
  ·have hl:(id.take k).length = k:=by rw [List.length_take,HID.out]; omega
   have hidx:=run_index_one 30 5 32 cs k _ _ Tryz.underlying30 Tryz.underlying5 rfl (by kernel_rfl) hlt (HAT.out k hlt)
   have htk:id.take (k + 1) = id.take k ++ [id.getD k 0]:=by
    rw [List.take_succ_eq_append_getElem (by rw [HID.out]; exact hlt)]
    simp [List.getElem?_eq_getElem (show k < id.length by rw [HID.out]; exact hlt)]
   have hst:=htarr_step (id.take k) (id.getD k 0) (by rw [hl]; exact hlt)
   rw [hl,← htk] at hst
   obtain ⟨x0,h0⟩:=htarr_at (id.take k) (2 * k) (by rw [hl]; exact hk) (by omega)
   obtain ⟨x1,h1⟩:=htarr_at (id.take k) (2 * k + 1) (by rw [hl]; exact hk) (by omega)
   have c0:wr.cell? ⟨w.heap.size + 1,2 * k,none⟩ = some (.int .u8 x0):=(HW.out.at_ _).trans h0
   have c1:wr.cell? ⟨w.heap.size + 1,2 * k + 1,none⟩ = some (.int .u8 x1):=(HW.out.at_ _).trans h1
   have z0:=HW.out.thawed (2 * k)
   have z1:=HW.out.thawed (2 * k + 1)
   have HST:=Hy hst
   generalize id.getD k 0 = b at *
   have hbl:=b.toNat_lt
   have i0:=hx_run .u8 (b.toNat / 16) (by omega)
   have i1:=hx_run .u8 (b.toNat % 16) (by omega)
   rw [show ((b.toNat / 16:Nat):Int) = (b.toNat:Int) / 16 by omega] at i0
   rw [show ((b.toNat % 16:Nat):Int) = (b.toNat:Int) % 16 by omega] at i1
   have ha:=and_15 b
   unfold Y at hidx
   clear hst h0 h1 hl htk
   go_wp2
   go_roundw
   case rel=>
    refine ⟨k + 1,by omega,by go_num,?_,?_⟩
    ·rw [← HST.out]; exact (HW.out.put _ _).put _ _
    ·exact (HB.out.setCell (by simp) _).setCell (by simp) _
   case measure=>simp [intOf]; omega
  ·have hW2:Whole wr (w.heap.size + 1) 229 ((hexOf id).map Y).toArray:=by
    have:=HW.out
    rw [List.take_of_length_le (by rw [HID.out]; omega)] at this
    unfold htarr at this
    rw [HID.out] at this
    simpa using this
   have hby:Bytes wr (.slice (some ⟨w.heap.size + 1,0,none⟩) 64 64) (hexOf id):=⟨_,64,by rw [hexOf_len,HID.out],by rw [hexOf_len,HID.out]; decide,by decide,fun _=>⟨_,_,rfl,fun i hi=>by
    rw [Nat.zero_add,hW2.at_ i,List.getElem?_toArray,← some_y _ _ hi]⟩⟩
   have hcv:=bytes_str (P:=Tryz.prog) 63 9 5 Tryz.underlying63 Tryz.underlying5 Tryz.underlying9 hby
   clear hW2 hby HW
   generalize hdg:(hexOf id).toArray = digits at hcv
   have HD:=Hy hdg
   clear hdg
   go_wp2
   go_ret
   exact ⟨by rw [HD.out]; rfl,HB.out⟩
def Tz (w:World):Prop:=w.cell? ⟨8,15,none⟩ = some (.int .u8 4)
theorem Tz.lt {w:World} (h:Tz w):8 < w.heap.size:=World.block_lt_of_cell? w _ h
theorem Tz.below {w w':World} {B:Nat} (h:Tz w) (hb:Below B w w') (h1:8 < B):Tz w':=(hb.cell (by exact h1)).trans h
theorem tz64_16 (w:World) (h:Tz w):Calls Tryz.prog 321 #[.int .u64 16] w fun e w'=>e = .returned (.int .i64 4) ∧ w = w':=by
 have hc:w.cell? ⟨8,15,none⟩ = some (.int .u8 4):=h
 clear h
 have key:IntKind.u64.wrap (bits BinOp.and IntKind.u64 16 (IntKind.u64.wrap (-16)) * 285870213051353865) / 288230376151711744 = ((15:Nat):Int):=by kernel_rfl
 go_enter Tryz.func321,Tryz.ntmps321
 go_wp2_with (simp only [key])
 go_ret
 exact ⟨rfl,rfl⟩
theorem tz_16 (w:World) (h:Tz w):Calls Tryz.prog 310 #[.int .u64 16] w fun e w'=>e = .returned (.int .i64 4) ∧ w = w':=by
 go_enter Tryz.func310,Tryz.ntmps310
 go_wp2_with (go_at_call 321; refine (tz64_16 _ h).mono ?_; rintro e w' ⟨rfl,rfl⟩)
 go_ret
 exact ⟨rfl,rfl⟩
theorem pow2_16 (w:World):Calls Tryz.prog 309 #[.int .i64 16] w fun e w'=>e = .returned (.bool true) ∧ w = w':=by
 go_enter Tryz.func309,Tryz.ntmps309
 go_wp2
 go_ret
 exact ⟨rfl,rfl⟩
theorem hx_lib (d:Nat) (hd:d < 16) (w:World):(Instr.index 9 (.string ⟨#[48,49,50,51,52,53,54,55,56,57,97,98,99,100,101,102,103,104,105,106,107,108,109,110,111,112,113,114,115,116,117,118,119,120,121,122]⟩) (.int .u64 (d:Int))).run Tryz.prog w = .ok (.int .u8 ((hx d).toNat:Int)) w:=by
 have h:d = 0 ∨ d = 1 ∨ d = 2 ∨ d = 3 ∨ d = 4 ∨ d = 5 ∨ d = 6 ∨ d = 7 ∨ d = 8 ∨ d = 9 ∨ d = 10 ∨ d = 11 ∨ d = 12 ∨ d = 13 ∨ d = 14 ∨ d = 15:=by omega
 rcases h with rfl | rfl | rfl | rfl | rfl | rfl | rfl | rfl | rfl | rfl | rfl | rfl | rfl | rfl | rfl | rfl
 all_goals (show _ = _; kernel_rfl)
def farr (v j:Nat):List Value:=(List.replicate (65 - j) 0 ++ hexs j v).map Y
theorem farr_step (v j:Nat) (h:j < 65):(farr v j).toArray.setIfInBounds (64 - j) (Y (hx (v / 16 ^ j % 16))) = (farr v (j + 1)).toArray:=by
 apply Array.ext'
 simp only [farr,Array.toList_setIfInBounds,hexs,List.map_append,List.map_cons]
 obtain ⟨m,hm⟩:∃ m,65 - j = m + 1:=⟨64 - j,by omega⟩
 rw [hm,show 64 - j = m by omega,show 65 - (j + 1) = m by omega,List.replicate_succ',List.map_append,List.append_assoc,List.set_append_right _ _ (by simp)]
 simp
theorem farr_at (v j i:Nat) (hj:j ≤ 65) (hi:i < 65):∃ x:Int,(farr v j).toArray[i]? = some (.int .u8 x):=by
 have hl:(List.replicate (65 - j) 0 ++ hexs j v).length = 65:=by rw [List.length_append,hexs_len,List.length_replicate]; omega
 have h2:((List.replicate (65 - j) 0 ++ hexs j v).map Y)[i]? = some (Y ((List.replicate (65 - j) 0 ++ hexs j v).getD i 0)):=by
  rw [List.getElem?_map,List.getElem?_eq_getElem (by rw [hl]; exact hi)]
  simp [List.getElem?_eq_getElem (show i < (List.replicate (65 - j) 0 ++ hexs j v).length by rw [hl]; exact hi)]
 exact ⟨_,by rw [List.getElem?_toArray]; exact h2⟩
theorem and_15n (n:Nat) (h:n < 18446744073709551616):bits .and .u64 (n:Int) 15 = ((n % 16:Nat):Int):=by
 have h1:=bits_and_u64_nat n 15 h (by decide)
 rw [show n &&& 15 = n % 16 from Nat.and_two_pow_sub_one_eq_mod n 4] at h1
 exact h1
theorem hexs_cell (v k i:Nat) (hi:i < k) (hk:k ≤ 65):(farr v k).toArray[65 - k + i]? = some (Y ((hexs k v).getD i 0)):=by
 rw [List.getElem?_toArray]
 unfold farr
 rw [List.map_append,List.getElem?_append_right (by simp),List.length_map,List.length_replicate,show 65 - k + i - (65 - k) = i by omega]
 have:=hexs_len k v
 rw [← some_y _ _ (by omega)]
def IsDigs (v k:Nat):Prop:=v < 16 ^ (k + 1) ∧ (k = 0 ∨ 16 ^ k ≤ v)
theorem fbits_any (v:Nat) (w:World) (hv:v < 18446744073709551616) (hT:Tz w) :
  Calls Tryz.prog 292 #[.slice none 0 0,.int .u64 (v:Int),.int .i64 16,.bool false,.bool false] w fun e w'=>∃ k,IsDigs v k ∧ k < 16 ∧ e = .returned (.tuple #[.slice none 0 0,.string ⟨(hexs (k + 1) v).toArray⟩]) ∧ Below w.heap.size w w':=by
 have HT:=Hy hT
 have hlt0:=hT.lt
 clear hT
 go_enter Tryz.func292,Tryz.ntmps292
 go_wp2_with (first
  | (go_at_call 309; refine (pow2_16 _).mono ?_; rintro e w' ⟨rfl,rfl⟩)
  | (go_at_call 310; refine (tz_16 _ (HT.out.below ((Below.refl _ _).alloc (Nat.le_refl _) _) hlt0)).mono ?_; rintro e w' ⟨rfl,rfl⟩))
 go_loopw [1,13] (fun r i wr=>∃ j m:Nat,j + m = 64 ∧ j ≤ 15 ∧ (j = 0 ∨ 16 ^ j ≤ v) ∧ i = .int .i64 ((m:Int) + 1) ∧ r = .int .u64 ((v / 16 ^ j:Nat):Int) ∧ Whole wr w.heap.size 338 (farr v j).toArray ∧ Below w.heap.size w wr) (fun _ i _=>(intOf i).toNat)
 case atStart=>exact ⟨0,64,rfl,by omega,.inl rfl,rfl,by simp,Whole.made _ _ _,(Below.refl _ _).alloc (Nat.le_refl _) _⟩
 case round=>
  obtain ⟨j,m,hjm,hj,hjv,rfl,rfl,hW,hB⟩:=hrel
  have HW:=Hy hW
  have HB:=Hy hB
  have hr:v / 16 ^ j < 18446744073709551616:=Nat.lt_of_le_of_lt (Nat.div_le_self _ _) hv
  have HR:Hid (v / 16 ^ (j + 1) = v / 16 ^ j / 16):=by show _ = _; rw [Nat.pow_succ,Nat.div_div_eq_div_mul]
  obtain ⟨x,hx⟩:=farr_at v j m (by omega) (by omega)
  have hc:wr.cell? ⟨w.heap.size,m,none⟩ = some (.int .u8 x):=(HW.out.at_ m).trans hx
  have hz:=HW.out.thawed m
  have hst:=farr_step v j (by omega)
  rw [show 64 - j = m by omega] at hst
  have HST:=Hy hst
  have HJV:=Hy hjv
  have hpos:0 < 16 ^ j:=Nat.pow_pos (by decide)
  have HGE:Hid (16 ≤ v / 16 ^ j → 16 ^ (j + 1) ≤ v):=fun h=>by
   rw [Nat.pow_succ,Nat.mul_comm]
   exact (Nat.le_div_iff_mul_le hpos).1 h
  have HLT:Hid (v / 16 ^ j < 16 → v < 16 ^ (j + 1)):=fun h=>by
   rw [Nat.pow_succ,Nat.mul_comm]
   exact (Nat.div_lt_iff_lt_mul hpos).1 h
  clear hx hst hjv hW hB hpos
  by_cases hge:16 ≤ v / 16 ^ j
  ·have HG:=HGE.out hge
   have hj2:j + 1 ≤ 15:=by
    have h1:16 ^ (j + 1) < 16 ^ 16:=Nat.lt_of_le_of_lt HG hv
    have:=(Nat.pow_lt_pow_iff_right (a:=16) (by decide)).1 h1
    omega
   have HG2:=Hy HG
   clear HG
   generalize v / 16 ^ j = r at *
   have hidx:=hx_lib (r % 16) (by omega)
   rw [show ((r % 16:Nat):Int) = (r:Int) % 16 by omega] at hidx
   have hand:=and_15n r hr
   rw [show ((r % 16:Nat):Int) = (r:Int) % 16 by omega] at hand
   go_wp2
   go_roundw
   case rel=>
    refine ⟨j + 1,m - 1,by omega,hj2,.inr HG2.out,?_,?_,?_,?_⟩
    ·rw [show ((m - 1:Nat):Int) + 1 = (m:Int) by omega]
    ·rw [HR.out]; rfl
    ·rw [← HST.out]; exact HW.out.put _ _
    ·exact HB.out.setCell (Nat.le_refl _) _
   case measure=>simp [intOf]
  ·have HL:=Hy (HLT.out (by omega))
   have HE:Hid ((Whole (wr.setCell ⟨w.heap.size,m,none⟩ (Y (hx (v / 16 ^ j)))) w.heap.size 338 (farr v (j + 1)).toArray)):=by
    show Whole _ _ _ _
    rw [← HST.out,Nat.mod_eq_of_lt (Nat.lt_of_not_le hge)]
    exact HW.out.put _ _
   have hby:Bytes (wr.setCell ⟨w.heap.size,m,none⟩ (Y (hx (v / 16 ^ j)))) (.slice (some ⟨w.heap.size,0 + m,none⟩) (65 - m) (65 - m)) (hexs (j + 1) v):=⟨_,65 - m,by rw [hexs_len,show 65 - m = j + 1 by omega],by rw [hexs_len]; omega,by unfold maxLen; omega,fun _=>⟨_,_,rfl,fun i hi=>by
    rw [hexs_len] at hi
    have:=hexs_cell v (j + 1) i hi (by omega)
    rw [show 65 - (j + 1) = m by omega] at this
    rw [Nat.zero_add,HE.out.at_ (m + i),this]⟩⟩
   have hcv:=bytes_str (P:=Tryz.prog) 63 9 5 Tryz.underlying63 Tryz.underlying5 Tryz.underlying9 hby
   have HD2:Hid (IsDigs v j):=⟨HL.out,HJV.out⟩
   clear hby HE
   generalize v / 16 ^ j = r at *
   have hidx:=hx_lib r (by omega)
   have hsl:=run_slice_arr (P:=Tryz.prog) 338 5 65 w.heap.size 0 m Tryz.underlying338 (by kernel_rfl) (by omega)
   unfold Y at hcv
   rw [Nat.zero_add] at hsl hcv
   generalize hdg:(hexs (j + 1) v).toArray = digits at *
   have HDG:=Hy hdg
   clear hdg
   go_wp2
   go_ret2
   refine ⟨j,HD2.out,by omega,?_,?_⟩
   ·rw [HDG.out]; rfl
   ·exact HB.out.setCell (Nat.le_refl _) _
theorem ifmt_any (v:Nat) (w:World) (hv:v < 9223372036854775808) (hT:Tz w) :
  Calls Tryz.prog 259 #[.int .i64 (v:Int),.int .i64 16] w fun e w'=>∃ k,IsDigs v k ∧ k < 16 ∧ e = .returned (.string ⟨(hexs (k + 1) v).toArray⟩) ∧ Below w.heap.size w w':=by
 have HT:=Hy hT
 clear hT
 go_enter Tryz.func259,Tryz.ntmps259
 go_wp2_with fail
 refine (fbits_any v _ (by omega) HT.out).mono ?_
 rintro e w' ⟨k,hk,hk2,rfl,hB⟩
 have HK:=Hy hk
 have HK2:=Hy hk2
 have HB:=Hy hB
 clear hk hk2 hB
 go_wp2
 go_ret
 exact ⟨k,HK.out,HK2.out,rfl,HB.out⟩
theorem fmt_any (v:Nat) (w:World) (hv:v < 9223372036854775808) (hT:Tz w) :
  Calls Tryz.prog 279 #[.int .i64 (v:Int),.int .i64 16] w fun e w'=>∃ k,IsDigs v k ∧ k < 16 ∧ e = .returned (.string ⟨(hexs (k + 1) v).toArray⟩) ∧ Below w.heap.size w w':=by
 have HT:=Hy hT
 clear hT
 go_enter Tryz.func279,Tryz.ntmps279
 go_wp2_with fail
 refine (ifmt_any v _ hv HT.out).mono ?_
 rintro e w' ⟨k,hk,hk2,rfl,hB⟩
 have HK:=Hy hk
 have HK2:=Hy hk2
 have HB:=Hy hB
 clear hk hk2 hB
 go_wp2
 go_ret
 exact ⟨k,HK.out,HK2.out,rfl,HB.out⟩
theorem hexs_pad (v k m:Nat) (h:v < 16 ^ k):hexs (m + k) v = List.replicate m 48 ++ hexs k v:=by
 induction m with
 | zero=>simp
 | succ m ih=>
  have hle:16 ^ k ≤ 16 ^ (m + k):=Nat.pow_le_pow_right (by decide) (by omega)
  rw [show m + 1 + k = (m + k) + 1 by omega,hexs,ih,Nat.div_eq_of_lt (by omega),List.replicate_succ]
  rfl
theorem repeat_0 (m:Nat):Lib.repeatL [48] m = List.replicate m 48:=by
 induction m with
 | zero=>rfl
 | succ m ih=>simp [Lib.repeatL,List.replicate_succ] at ih ⊢; exact ih
theorem digs_4 (v k:Nat) (h:IsDigs v k) (hv:v < 16 ^ 4):k < 4 ∧ List.replicate (4 - (k + 1)) 48 ++ hexs (k + 1) v = hexs 4 v:=by
 have hk:k < 4:=by
  rcases h.2 with rfl | h2
  ·decide
  ·exact (Nat.pow_lt_pow_iff_right (a:=16) (by decide)).1 (Nat.lt_of_le_of_lt h2 hv)
 refine ⟨hk,?_⟩
 rw [← hexs_pad v (k + 1) (4 - (k + 1)) h.1,show 4 - (k + 1) + (k + 1) = 4 by omega]
theorem lput_good (s:List UInt8) (w:World) (hT:Tz w) (h0:s ≠ []) (h:s.length ≤ 1000):Calls Tryz.prog 243 #[.string ⟨s.toArray⟩] w fun e w'=>e = .returned (.tuple #[.string ⟨(hexs 4 (4 + s.length) ++ s).toArray⟩,.bool true]) ∧ Below w.heap.size w w':=by
 have HT:=Hy hT
 have he:s.isEmpty = false:=by cases s with | nil=>exact absurd rfl h0 | cons=>rfl
 have hd:decide (1000 < (s.length:Int)) = false:=by simp; omega
 clear h0 hT
 go_enter Tryz.func243,Tryz.ntmps243
 go_wp2_with fail
 have hf:=fmt_any (4 + s.length) w (by omega) HT.out
 rw [show ((4 + s.length:Nat):Int) = 4 + (s.length:Int) by omega] at hf
 refine hf.mono ?_
 rintro e w1 ⟨k,hk,-,rfl,hB⟩
 obtain ⟨hk4,hp⟩:=digs_4 _ _ hk (by omega)
 have hln:=hexs_len (k + 1) (4 + s.length)
 have HB:=Hy hB
 generalize hdg:hexs (k + 1) (4 + s.length) = dg at *
 have hzl:(List.replicate (4 - (k + 1)) (48:UInt8)).length = 4 - (k + 1):=List.length_replicate
 generalize hzs:List.replicate (4 - (k + 1)) (48:UInt8) = zs at *
 have HP:=Hy hp
 have HZ:=Hy hzs
 clear hf hk hB hp hdg hzs
 have hrep:=Tryz.strings_Repeat ⟨#[48]⟩ (4 - (k + 1)) w1 (by omega) (by show 1 * _ ≤ _; omega)
 rw [show (ByteArray.mk #[48]).data.toList = [48] from rfl,repeat_0,HZ.out,show ((4 - (k + 1):Nat):Int) = 4 - ((k:Int) + 1) by omega] at hrep
 have HR:=Hy hrep
 clear hrep
 go_wp2_with fail
 refine HR.out.mono ?_
 rintro e w2 ⟨rfl,hB2⟩
 have HB2:=Hy (hTr HB hB2)
 clear hB2
 go_wp2
 go_ret2
 exact ⟨by rw [ba_append zs dg,ba_append (zs ++ dg) s,HP.out]; rfl,HB2.out⟩
end Go.Proofs.YtlfmooihcigolaaGreatDoor

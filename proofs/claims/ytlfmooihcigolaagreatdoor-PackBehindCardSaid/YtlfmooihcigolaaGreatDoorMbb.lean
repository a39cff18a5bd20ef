/-
  RefU, DoorP, Rid.
-/
import Derived.Test.YtlfmooihcigolaaGreatDoorMba
set_option maxRecDepth 100000
set_option maxHeartbeats 8000000
namespace Go.Proofs.YtlfmooihcigolaaGreatDoor
open Go.RowKit
def slen:Value → Nat
 | .string b=>b.size
 | _=>0
theorem slen_mk (l:List UInt8):slen (.string ⟨l.toArray⟩) = l.length:=by simp [slen,ByteArray.size]
def startv:Array Value:=((ShaM.ls ShaM.H0).map U).toArray
theorem one_str (c:UInt8) (w:World):∀ W,Below (w.heap.size + 1) (w.alloc (.cells #[.int .u8 (c.toNat:Int)] 5)) W → (convert 63 9 (.slice (some ⟨w.heap.size,0,none⟩) 1 1)).run Tryz.prog W = .ok (.string ⟨#[c]⟩) W:=by
 intro W hW
 have h:=(Whole.made w 5 #[.int .u8 (c.toNat:Int)]).below hW (by omega)
 have hby:Bytes W (.slice (some ⟨w.heap.size,0,none⟩) 1 1) [c]:=⟨_,1,rfl,Nat.le_refl _,by unfold maxLen; omega,fun _=>⟨_,_,rfl,fun i hi=>by
  obtain rfl:i = 0:=by simpa using hi
  exact h.at_ 0⟩⟩
 exact bytes_str (P:=Tryz.prog) 63 9 5 Tryz.underlying63 Tryz.underlying5 Tryz.underlying9 hby
def outk (s:ShaM.St) (k:Nat):List UInt8:=(ShaM.out s).take k ++ List.replicate (32 - k) 0
theorem outk_len (s:ShaM.St) (k:Nat) (h:k ≤ 32):(outk s k).length = 32:=by
 simp only [outk,List.length_append,List.length_take,ShaM.out_len,List.length_replicate]; omega
theorem outk_step (s:ShaM.St) (k:Nat) (h:k < 32):(outk s k).set k ((ShaM.out s).getD k 0) = outk s (k + 1):=by
 have hl:=ShaM.out_len s
 have ht:((ShaM.out s).take k).length = k:=by rw [List.length_take,hl]; omega
 obtain ⟨m,hm⟩:∃ m,32 - k = m + 1:=⟨31 - k,by omega⟩
 unfold outk
 rw [List.set_append_right _ _ (by omega),ht,Nat.sub_self,hm,List.replicate_succ,List.set_cons_zero,show 32 - (k + 1) = m by omega,List.take_succ_eq_append_getElem (by omega),List.getD_eq_getElem?_getD,List.getElem?_eq_getElem (by omega),Option.getD_some]
 simp only [List.append_assoc,List.singleton_append]
theorem outk_full (s:ShaM.St):outk s 32 = ShaM.out s:=by
 unfold outk
 rw [List.take_of_length_le (by rw [ShaM.out_len]; omega)]
 simp
theorem rsum_any (T:List UInt8) (w:World) (hT:T.length < 1099511627776) :
  Calls Tryz.prog 82 #[.string ⟨T.toArray⟩] w fun e w'=>e = .returned (.agg ((ShaM.sha T).map Y).toArray) ∧ Below w.heap.size w w':=by
 have HI8:Hid ((Tryz.prog.info? 200).map (·.size) = some startv.size):=by show _ = _; kernel_rfl
 have H18:Hid (startv.all (·.oneCell') = true):=by show _ = _; kernel_rfl
 have HSV:Hid (8 = startv.size):=by show _ = _; kernel_rfl
 have HSD:Hid (startv = ((ShaM.ls ShaM.H0).map U).toArray):=rfl
 have hp:=ShaM.padN_bd T.length
 have HP:=Hy hp
 clear hp
 go_enter Tryz.func82,Tryz.ntmps82
 go_wp2_with (refine wpList_store_whole rfl 200 _ _ rfl (w.heap.size + 1) startv rfl (by kernel_rfl) 200 _ (heap_alloc2_new w _ _) HI8.out (by rw [← HSV.out]; kernel_rfl) H18.out ?_; intro w1 hW1 hG1; have HV1:=Hy hW1; have HG1:=Hy hG1; clear hW1 hG1)
 have HR1:=Hy (((Whole.made w 29 (Array.replicate 32 (.int .u8 0))).past (.cells (Array.replicate 8 (.int .u32 0)) 200)).grown HG1.out (fun e=>by injection e with e; omega))
 have HB1:=Hy (gr_alloc2 HG1.out (by omega))
 clear HG1
 go_loop [4] (fun v=>∃ j,j ≤ ShaM.padN T.length - 9 ∧ v = .string ⟨(ShaM.zp T j).toArray⟩) (fun v=>T.length + 100 - slen v)
 case atStart=>exact ⟨0,Nat.zero_le _,by rw [show (ByteArray.mk #[128]) = ⟨[128].toArray⟩ from rfl,ba_append]; rfl⟩
 case round=>
  obtain ⟨j,hj,rfl⟩:=hrel
  have hl:=ShaM.zp_len T j
  have he:=ShaM.zp_end T j hj
  have HZ:=Hy (ShaM.zp_succ T j)
  have HJ:=Hy hj
  by_cases hend:j = ShaM.padN T.length - 9
  ·have h56:(ShaM.zp T j).length % 64 = 56:=he.2 hend
   have hz:=ShaM.lp_zero T
   rw [← hend] at hz
   rw [← hz] at hl h56 ⊢
   have HL0:Hid ((ShaM.lp T 0).length = T.length + 1 + j):=hl
   have hb:(((ShaM.lp T 0).length:Int) % 64 != 56) = false:=by simp; omega
   have hmx:(ShaM.lp T 0).length < 9223372036854775807:=by have:=HP.out; omega
   clear he hz hend HZ HJ hj
   go_wp2_with fail
   go_loopw [4,5] (fun v i wr=>∃ k m:Nat,k + m = 8 ∧ i = .int .i64 ((m:Int) - 1) ∧ v = .string ⟨(ShaM.lp T k).toArray⟩ ∧ Below w1.heap.size w1 wr) (fun _ i _=>(intOf i + 1).toNat)
   case atStart=>exact ⟨0,8,rfl,rfl,rfl,Below.refl _ _⟩
   case round=>
    obtain ⟨k,m,hkm,rfl,rfl,hB⟩:=hrel
    have HB:=Hy hB
    clear hB
    cases m with
    | succ q=>
     have HS:=Hy (ShaM.lp_succ T k (by omega))
     rw [show ((q + 1:Nat):Int) - 1 = (q:Int) by omega]
     have hq7:q ≤ 7:=by omega
     have hkq:7 - k = q:=by omega
     rw [hkq] at HS
     have hc1:((T.length:Int) * 8 / 2 ^ (8 * q)) % 256 = ((UInt8.ofNat (T.length * 8 / 2 ^ (8 * q))).toNat:Int):=by
      rw [UInt8.toNat_ofNat']
      have:((T.length * 8 / 2 ^ (8 * q):Nat):Int) = (T.length:Int) * 8 / 2 ^ (8 * q):=by simp
      omega
     have HC:=Hy hc1
     have hzl:(ShaM.lp T k).length < 9223372036854775000:=by
      unfold ShaM.lp
      rw [List.length_append,ShaM.zp_len,List.length_take]
      have:=HP.out
      omega
     have hstr:=one_str (UInt8.ofNat (T.length * 8 / 2 ^ (8 * q))) wr
     clear hkq hc1
     generalize ShaM.lp T k = z at *
     generalize UInt8.ofNat (T.length * 8 / 2 ^ (8 * q)) = c at *
     go_wp2_with fail
     rw [HC.out,hstr _ (Below.refl _ _)]
     go_simp
     go_wp2_with fail
     rw [show (ByteArray.mk #[c]) = ⟨[c].toArray⟩ from rfl,ba_append z [c],HS.out]
     go_roundw
     case rel=>exact ⟨k + 1,q,by omega,rfl,rfl,HB.out.alloc HB.out.size _⟩
     case measure=>simp [intOf]
    | zero=>
     obtain rfl:k = 8:=by omega
     rw [show ((0:Nat):Int) - 1 = -1 from rfl]
     rw [ShaM.lp_full]
     have HPB:=Hy (ShaM.pad_blocks T)
     have HSHA:Hid (ShaM.sha T = ShaM.out (ShaM.runN ((T ++ ShaM.pad T.length).length / 64) ShaM.H0 (T ++ ShaM.pad T.length))):=rfl
     have hLl:(T ++ ShaM.pad T.length).length < 9223372036854775000:=by rw [List.length_append,ShaM.pad_len]; have:=HP.out; omega
     generalize T ++ ShaM.pad T.length = L at *
     have hb0:=HR1.out.lt
     have hb1:=HV1.out.lt
     have HR2:=Hy (HR1.out.below HB.out hb0)
     have HV2:=Hy (HV1.out.below HB.out hb1)
     have HB2:=Hy (hTr HB1 HB.out)
     have hs2:=HB.out.size
     clear HR1 HV1 HB HB1 hmx hb hkm HL0
     generalize wr = w2 at *
     go_wp2_with fail
     go_loopw [6] (fun i wr=>∃ j:Nat,64 * j ≤ L.length ∧ i = .int .i64 ((64 * j:Nat):Int) ∧ w2.grownBy wr (some (w.heap.size + 1)) ∧ Whole wr (w.heap.size + 1) 200 ((ShaM.ls (ShaM.runN j ShaM.H0 L)).map U).toArray) (fun i _=>L.length - (intOf i).toNat)
     case atStart=>exact ⟨0,by omega,rfl,gr_refl _ _,by have:=HV2.out; rw [HSD.out] at this; exact this⟩
     case round=>
      obtain ⟨j,hj,rfl,hG,hV⟩:=hrel
      have HG:=Hy hG
      have HV:=Hy hV
      clear hG hV
      by_cases hlt:64 * j < L.length
      ·have HST:=Hy (ShaM.runN_snoc j ShaM.H0 L)
       have h64:64 * j + 64 ≤ L.length:=by have:=HPB.out; omega
       have hsl:=fun W=>str_cut L (64 * j) (64 * j + 64) (by omega) h64 W
       have hbl:((L.take (64 * j + 64)).drop (64 * j)).length = 64:=by rw [List.length_drop,List.length_take]; omega
       have HBK:=Hy fun W=>rblock_any (ShaM.runN j ShaM.H0 L) ((L.take (64 * j + 64)).drop (64 * j)) W hbl
       have HJN:Hid (((64 * (j + 1):Nat):Int) = ((64 * j:Nat):Int) + 64):=by show _ = _; omega
       have HJL:Hid (64 * (j + 1) ≤ L.length):=by show _ ≤ _; omega
       obtain ⟨fc,hfc⟩:∃ fc,fc = ((ShaM.ls (ShaM.runN j ShaM.H0 L)).map U).toArray:=⟨_,rfl⟩
       have HFI:Hid ((Tryz.prog.info? 200).map (·.size) = some fc.size):=by show _ = _; rw [hfc,List.size_toArray,List.length_map,ShaM.ls_len]; kernel_rfl
       have HFS:Hid (fc.size = 8):=by show _ = _; rw [hfc,List.size_toArray,List.length_map,ShaM.ls_len]
       rw [← hfc] at HV HBK
       rw [show ((64 * j + 64:Nat):Int) = ((64 * j:Nat):Int) + 64 by omega] at hsl
       rw [← HST.out] at HBK
       obtain ⟨gc,hgc⟩:∃ gc,gc = ((ShaM.ls (ShaM.runN (j + 1) ShaM.H0 L)).map U).toArray:=⟨_,rfl⟩
       have HGI:Hid ((Tryz.prog.info? 200).map (·.size) = some gc.size):=by show _ = _; rw [hgc,List.size_toArray,List.length_map,ShaM.ls_len]; kernel_rfl
       have HGS:Hid (gc.size = 8):=by show _ = _; rw [hgc,List.size_toArray,List.length_map,ShaM.ls_len]
       have HG1:Hid (gc.all (·.oneCell') = true):=by show _ = _; rw [hgc]; exact words_one _
       have HGC:=Hy hgc
       rw [← hgc] at HBK
       have HLV:Hid (∀ W,(∃ n,W = wr.drewN n) → ∀ i,W.cell? ⟨w.heap.size + 1,i,none⟩ = fc[i]?):=by rintro W ⟨n,rfl⟩ i; exact HV.out.at_ i
       have hn0:(64 * j:Nat) < 9223372036854775000:=by omega
       have hltI:(((64 * j:Nat):Int) < (L.length:Int)):=by omega
       clear hfc hgc HST hbl hj h64
       generalize (L.take (64 * j + 64)).drop (64 * j) = blk at *
       generalize 64 * j = n at *
       go_wp2_with fail
       refine wp_region_qtail (C:=fun w'=>∃ m,w' = wr.drewN m) 6 (by kernel_rfl) (by kernel_rfl) ⟨1,rfl⟩ ?_
       simp only [List.take_succ_cons,List.take_zero,List.drop_succ_cons,List.drop_zero]
       repeat (first
        | (refine q_load _ _ rfl (by rfl) (w.heap.size + 1) fc rfl _ Tryz.underlying200 rfl HFI.out HLV.out ?_; simp only [Act.put]; go_simp)
        | go_big_quiet_step (fail))
       refine wpQuiet_nil ?_
       intro nq
       have HGq:Hid (w2.grownBy (wr.drewN nq) (some (w.heap.size + 1))):=gr_drewN HG.out nq
       have HVq:Hid (Whole (wr.drewN nq) (w.heap.size + 1) 200 fc):=HV.out
       clear HG HV HLV hsl
       generalize wr.drewN nq = w3 at *
       go_wp2_with fail
       (with_reducible refine (HBK.out _).mono ?_)
       rintro e w4 ⟨rfl,hB⟩
       have HG4:=Hy (gr_below HGq.out hB)
       have HV4:=Hy (HVq.out.below hB HVq.out.lt)
       clear hB
       go_wp2_with (refine wpList_store_whole rfl 200 _ _ rfl (w.heap.size + 1) gc rfl rfl 200 fc HV4.out HGI.out (by rw [HFS.out,HGS.out]) HG1.out ?_; intro w5 hW5 hG5; have HV5:=Hy hW5; have HG5:=Hy (gr_grown HG4.out hG5 (.inl rfl)); clear hW5 hG5)
       go_roundw
       case rel=>exact ⟨j + 1,HJL.out,by rw [HJN.out],HG5.out,by rw [← HGC.out]; exact HV5.out⟩
       case measure=>simp [intOf]; omega
      ·have hjj:j = L.length / 64:=by have:=HPB.out; omega
       rw [hjj] at HV
       have HFIN:Hid (ShaM.sha T = ShaM.out (ShaM.runN (L.length / 64) ShaM.H0 L)):=HSHA.out
       generalize ShaM.runN (L.length / 64) ShaM.H0 L = s at *
       have HR3:=Hy (HR2.out.grown HG.out (fun e=>by injection e with e; omega))
       have HB3:=Hy (be_grown HB2.out HG.out HB2.out.size (fun j hj=>by injection hj with hj; omega))
       have hs3:=HV.out.lt
       clear hjj HSHA HG HR2 HV2 HB2
       generalize wr = w3 at *
       go_wp2_with fail
       obtain ⟨zs,hzs⟩:∃ zs:Array Value,zs = #[Z8,Z8,Z8,Z8,Z8,Z8,Z8,Z8,Z8,Z8,Z8,Z8,Z8,Z8,Z8,Z8,Z8,Z8,Z8,Z8,Z8,Z8,Z8,Z8,Z8,Z8,Z8,Z8,Z8,Z8,Z8,Z8]:=⟨_,rfl⟩
       rw [← hzs]
       have HZS:=Hy hzs
       have HO4:=Hy (Whole.made w3 29 zs)
       have HV4:=Hy (HV.out.past (.cells zs 29))
       have HR4:=Hy (HR3.out.past (.cells zs 29))
       have HB4:=Hy (HB3.out.alloc HB3.out.size (.cells zs 29))
       have hs4:(w3.alloc (.cells zs 29)).heap.size = w3.heap.size + 1:=by simp
       have HN4:=Hy hs4
       have hb03:w.heap.size < w3.heap.size:=by omega
       have hO0:zs = ((outk s 0).map Y).toArray:=by rw [hzs]; rfl
       have HO4':Hid (Whole (w3.alloc (.cells zs 29)) w3.heap.size 29 ((outk s 0).map Y).toArray):=by show Whole _ _ _ _; rw [← hO0]; exact HO4.out
       clear hs4 hzs hO0
       generalize w3.alloc (.cells zs 29) = w4 at *
       go_loopw [8] (fun i wr=>∃ k:Nat,k ≤ 32 ∧ i = .int .i64 (k:Int) ∧ w4.grownBy wr (some w3.heap.size) ∧ Whole wr w3.heap.size 29 ((outk s k).map Y).toArray) (fun i _=>32 - (intOf i).toNat)
       case atStart=>exact ⟨0,by omega,rfl,gr_refl _ _,HO4'.out⟩
       case round=>
        obtain ⟨k,hk,rfl,hG,hO⟩:=hrel
        have HG:=Hy hG
        have HO:=Hy hO
        clear hG hO
        by_cases hlt:k < 32
        ·have HST:=Hy (outk_step s k hlt)
         have HOA:=Hy (ShaM.out_at s k hlt)
         have hcell:wr.cell? ⟨w.heap.size + 1,k / 4,none⟩ = some (.int .u32 (((ShaM.ls s).getD (k / 4) 0).toNat:Int)):=by
          rw [(HV4.out.grown HG.out (fun e=>by injection e with e; omega)).at_ (k / 4),List.getElem?_toArray,some_u _ _ (by rw [ShaM.ls_len]; omega)]; rfl
         obtain ⟨x0,hold⟩:∃ x:Int,wr.cell? ⟨w3.heap.size,k,none⟩ = some (.int .u8 x):=by
          rw [HO.out.at_ k,List.getElem?_toArray,← some_y _ _ (by rw [outk_len _ _ hk]; exact hlt)]
          exact ⟨_,rfl⟩
         have z0:=HO.out.thawed k
         have hr:k % 4 = 0 ∨ k % 4 = 1 ∨ k % 4 = 2 ∨ k % 4 = 3:=by omega
         generalize (ShaM.ls s).getD (k / 4) 0 = x at *
         generalize (ShaM.out s).getD k 0 = y at *
         have hi0:(0:Int) ≤ (k:Int) / 4:=by omega
         have hi8:(k:Int) / 4 < 8:=by omega
         have hx:=x.isLt
         rcases hr with hr | hr | hr | hr
         ·have hr':(k:Int) % 4 = 0:=by omega
          rw [hr] at HOA
          have HV:Hid (Value.int .u8 ((x.toNat:Int) / 16777216) = Y y):=by
           show _ = _
           rw [HOA.out]
           exact Y_int (by simp <;> omega)
          clear hr
          go_wp2_with fail
          go_roundw
          case rel=>
           refine ⟨k + 1,by omega,by go_num,gr_set HG.out (.inl rfl) _,?_⟩
           have:=HO.out.put k (Y y)
           rw [List.setIfInBounds_toArray,← List.map_set,HST.out] at this
           rw [HV.out]
           exact this
          case measure=>simp [intOf]; omega
         ·have hr':(k:Int) % 4 = 1:=by omega
          rw [hr] at HOA
          have HV:Hid (Value.int .u8 ((x.toNat:Int) / 65536 % 256) = Y y):=by
           show _ = _
           rw [HOA.out]
           exact Y_int (by simp <;> omega)
          clear hr
          go_wp2_with fail
          go_roundw
          case rel=>
           refine ⟨k + 1,by omega,by go_num,gr_set HG.out (.inl rfl) _,?_⟩
           have:=HO.out.put k (Y y)
           rw [List.setIfInBounds_toArray,← List.map_set,HST.out] at this
           rw [HV.out]
           exact this
          case measure=>simp [intOf]; omega
         ·have hr':(k:Int) % 4 = 2:=by omega
          rw [hr] at HOA
          have HV:Hid (Value.int .u8 ((x.toNat:Int) / 256 % 256) = Y y):=by
           show _ = _
           rw [HOA.out]
           exact Y_int (by simp <;> omega)
          clear hr
          go_wp2_with fail
          go_roundw
          case rel=>
           refine ⟨k + 1,by omega,by go_num,gr_set HG.out (.inl rfl) _,?_⟩
           have:=HO.out.put k (Y y)
           rw [List.setIfInBounds_toArray,← List.map_set,HST.out] at this
           rw [HV.out]
           exact this
          case measure=>simp [intOf]; omega
         ·have hr':(k:Int) % 4 = 3:=by omega
          rw [hr] at HOA
          have HV:Hid (Value.int .u8 ((x.toNat:Int) % 256) = Y y):=by
           show _ = _
           rw [HOA.out]
           exact Y_int (by simp <;> omega)
          clear hr
          go_wp2_with fail
          go_roundw
          case rel=>
           refine ⟨k + 1,by omega,by go_num,gr_set HG.out (.inl rfl) _,?_⟩
           have:=HO.out.put k (Y y)
           rw [List.setIfInBounds_toArray,← List.map_set,HST.out] at this
           rw [HV.out]
           exact this
          case measure=>simp [intOf]; omega
        ·obtain rfl:k = 32:=by omega
         rw [outk_full,← HFIN.out] at HO
         have HRZ:=Hy (HR4.out.grown HG.out (fun e=>by injection e with e; omega))
         have HBZ:=Hy (be_grown HB4.out HG.out HB4.out.size (fun j hj=>by injection hj with hj; omega))
         obtain ⟨fc,hfc⟩:∃ fc,fc = ((ShaM.sha T).map Y).toArray:=⟨_,rfl⟩
         rw [← hfc] at HO
         have HFC:=Hy hfc
         have hfs:fc.size = 32:=by rw [hfc,List.size_toArray,List.length_map,ShaM.sha_len]
         have HFI:Hid ((Tryz.prog.info? 29).map (·.size) = some fc.size):=by show _ = _; rw [hfs]; kernel_rfl
         have HFS:=Hy hfs
         have HF1:Hid (fc.all (·.oneCell') = true):=by show _ = _; rw [hfc]; exact ys_all _
         clear hfs hfc HFIN
         go_wp2_with (first
          | (refine wpList_load_row rfl 29 _ rfl w3.heap.size rfl 29 fc (0,0) _ HO.out Tryz.underlying29 rfl HFI.out ?_)
          | (refine wpList_store_whole rfl 29 _ _ rfl w.heap.size fc rfl rfl 29 _ HRZ.out HFI.out (by rw [HFS.out]; kernel_rfl) HF1.out ?_; intro w9 hW9 hG9; have HW9:=Hy hW9; have HB9:=Hy (be_grown HBZ.out hG9 HBZ.out.size (fun j hj=>by injection hj with hj; omega)); clear hW9 hG9))
         refine bodyPost_ret (v:=.agg fc) ?_ rfl ⟨by rw [HFC.out],HB9.out⟩
         exact results_cell_row (p:=2) (ty:=29) rfl _ _ w.heap.size 29 fc (0,0) _ rfl HW9.out Tryz.underlying29 rfl HFI.out
  ·have h56:(ShaM.zp T j).length % 64 ≠ 56:=fun h=>hend (he.1 h)
   have hb:(((ShaM.zp T j).length:Int) % 64 != 56) = true:=by simp; omega
   have hmx:(ShaM.zp T j).length < 9223372036854775807:=by have:=HP.out; omega
   have HS1:=Hy (slen_mk (ShaM.zp T j))
   have HS2:=Hy (slen_mk (ShaM.zp T (j + 1)))
   have HL1:=Hy (ShaM.zp_len T (j + 1))
   have HL0:=Hy hl
   clear he hl h56 hj
   generalize ShaM.zp T j = z at *
   go_wp2_with fail
   rw [show (ByteArray.mk #[0]) = ⟨[0].toArray⟩ from rfl,ba_append z [0],HZ.out]
   go_round
   case rel=>exact ⟨j + 1,by have:=HJ.out; omega,rfl⟩
   case measure=>
    rw [HS1.out,HS2.out,HL1.out,HL0.out]
    have:=HJ.out
    have:=HP.out
    omega
end Go.Proofs.YtlfmooihcigolaaGreatDoor
namespace Go.Proofs.YtlfmooihcigolaaGreatDoor
open Go.RowKit
def Tens (w:World):Prop:=Lib.TabIs Tryz.prog w "internal/strconv.uint64pow10" .u64 Lib.pow10Tab
theorem Tens.below {w w':World} (h:Tens w) (hb:Below w.heap.size w w'):Tens w':=by
 unfold Tens Lib.TabIs World.var? at *
 cases hg:Tryz.prog.globalNamed "internal/strconv.uint64pow10" with
 | none=>rw [hg] at h; cases h
 | some g=>
  rw [hg] at h
  simp only [Option.bind_some] at h ⊢
  have hlt:g < w.heap.size:=by
   rcases Nat.lt_or_ge g w.heap.size with hl | hl
   ·exact hl
   ·rw [Array.getElem?_eq_none hl] at h
    cases h
  rw [hb.block g hlt]
  exact h
namespace Door
theorem g5:Tryz.prog.globalNamed "internal/strconv.uint64pow10" = some 4:=by kernel_rfl
theorem ty5:(Tryz.prog.globals[4]?).map (·.type) = some 337:=by kernel_rfl
theorem ce64:Tryz.prog.cellsOf 201 = 1:=by kernel_rfl
theorem ca20:Tryz.prog.cellsOf 337 = 20:=by kernel_rfl
end Door
theorem itoa_any (n:Nat) (w:World) (hT:Tens w) (hn:n < 1000000):Calls Tryz.prog 174 #[.int .i64 (n:Int)] w fun e w'=>e = .returned (.string ⟨(Lib.itoa (n:Nat)).toArray⟩) ∧ Below w.heap.size w w':=by
 refine (Tryz.strconv_Itoa (n:Int) (by omega) (by omega) w hT).mono ?_
 rintro e w' ⟨rfl,k,os,rfl⟩
 refine ⟨rfl,rfl,rfl,rfl,by simp [Sort.grow],fun i hi=>?_⟩
 show (w.heap ++ os)[i]? = _
 rw [Array.getElem?_append_left hi]
end Go.Proofs.YtlfmooihcigolaaGreatDoor
namespace Go.Proofs.YtlfmooihcigolaaGreatDoor
open Go.RowKit
theorem arg_eq (wd dec body:List UInt8):(ByteArray.mk wd.toArray ++ ByteArray.mk dec.toArray ++ ByteArray.mk #[0] ++ ByteArray.mk body.toArray) = ByteArray.mk (wd ++ dec ++ [0] ++ body).toArray:=by
 rw [show (ByteArray.mk #[0]) = ByteArray.mk [0].toArray from rfl,ba_append,ba_append,ba_append]
def named (kind:Int) (body:List UInt8):List UInt8:=kwd kind ++ [32] ++ Lib.itoa (body.length:Nat) ++ [0] ++ body
theorem named_len (kind:Int) (body:List UInt8) (h:body.length < 1000000):(named kind body).length ≤ 1000100:=by
 have h1:=kwd_len kind
 have h2:=itoa_len 5 body.length h
 simp only [named,List.length_append,List.length_cons,List.length_nil]
 omega
theorem of_within (kind:Int) (kw dec body:List UInt8) (w:World) (hTab:Tabs w) (hw:∀ W,Calls Tryz.prog 173 #[.int .i64 kind] W fun e w'=>e = .returned (.string ⟨kw.toArray⟩) ∧ W = w')
  (hd:∀ W,Below w.heap.size w W → Calls Tryz.prog 174 #[.int .i64 (body.length:Int)] W fun e w'=>e = .returned (.string ⟨dec.toArray⟩) ∧ Below W.heap.size W w') (hlen:kw.length + dec.length + body.length < 2 ^ 40) :
  Calls Tryz.prog 118 #[.int .i64 kind,.string ⟨body.toArray⟩] w fun e w'=>e = .returned (.agg ((ShaM.sha (kw ++ [32] ++ dec ++ [0] ++ body)).map Y).toArray) ∧ Below w.heap.size w w':=by
 have hl1:=hTab.lt1
 have hl2:=hTab.lt2
 have HTab:=Hy hTab
 have HW:=Hy hw
 have HD:=Hy hd
 obtain ⟨L,hL⟩:∃ L,L = kw ++ [32] ++ dec ++ [0]:=⟨_,rfl⟩
 have hpre:L.length < 2 ^ 41:=by rw [hL]; simp; omega
 have hpre2:L.length + body.length < 2 ^ 42:=by omega
 have HL:=Hy hL
 clear hTab hw hd hL
 go_enter Tryz.func118,Tryz.ntmps118
 go_wp2_with fail
 refine (new_any _).mono ?_
 rintro e w1 ⟨rfl,hB1,hH1,hs1⟩
 have hs1':w1.heap.size = w.heap.size + 2:=by rw [hs1]; simp
 have HB1:=Hy (((Below.refl w.heap.size w).alloc (Nat.le_refl _) _).trans (hB1.mono (by simp)))
 have HH1:Hid (HashAt w1 (w.heap.size + 1) 231 []):=by show HashAt _ _ _ _; simpa using hH1
 obtain ⟨z,hz,hZ⟩:∃ z:Array Value,z.size = 32 ∧ Whole w1 w.heap.size 30 z:=⟨_,rfl,(Whole.made w _ _).below hB1 (by simp)⟩
 have HZ:=Hy hz
 have HZ1:=Hy hZ
 clear hB1 hH1 hs1 hz hZ
 go_wp2_with fail
 refine (HW.out _).mono ?_
 rintro e w2 ⟨rfl,rfl⟩
 go_wp2_with fail
 refine (HD.out _ HB1.out).mono ?_
 rintro e w3 ⟨rfl,hB3⟩
 have HB3:=Hy hB3
 have hs3:=hB3.size
 clear hB3
 go_wp2_with (refine wpList_of_string rfl 9 63 5 (.tmp 15) rfl _ L rfl (by rw [HL.out,← ba_append,← ba_append,← ba_append]) Tryz.underlying9 Tryz.underlying63 Tryz.underlying5 (by unfold maxLen; omega) ?_; intro w4 c hby hfz hB4 hs4; have HBY:=Hy hby; have HB4:=Hy hB4; clear hby hfz hB4)
 have HB04:Hid (Below w.heap.size w w4):=(HB1.out.trans (HB3.out.mono (by omega))).trans (HB4.out.mono (by omega))
 have HB14:Hid (Below w1.heap.size w1 w4):=HB3.out.trans (HB4.out.mono (by omega))
 refine (put_any (w.heap.size + 1) 231 _ [] L w4 (HTab.out.below HB04.out hl1 hl2) (by omega) (by omega) (HH1.out.below HB14.out (by omega)) (by simp) HBY.out (fun _ h=>by injection h with h; dsimp only at h; omega)).mono ?_
 rintro e w5 ⟨rfl,hG5,hH5⟩
 rw [List.nil_append] at hH5
 have HH5:=Hy hH5
 have HB5:=Hy (be_grown HB04.out hG5 HB04.out.size (fun j hj=>by injection hj with hj; omega))
 have HZ5:=Hy ((HZ1.out.below HB14.out (by omega)).grown hG5 (by simp))
 have hs5:=hG5.size
 clear hG5 hH5
 go_wp2_with (refine wpList_of_string rfl 9 63 5 (.tmp 19) rfl _ body rfl rfl Tryz.underlying9 Tryz.underlying63 Tryz.underlying5 (by unfold maxLen; omega) ?_; intro w6 c6 hby hfz hB6 hs6; have HBY6:=Hy hby; have HB6:=Hy hB6; clear hby hfz hB6)
 have HB06:Hid (Below w.heap.size w w6):=HB5.out.trans (HB6.out.mono (by omega))
 refine (put_any (w.heap.size + 1) 231 _ L body w6 (HTab.out.below HB06.out hl1 hl2) (by omega) (by omega) (HH5.out.below HB6.out (by omega)) (by omega) HBY6.out (fun _ h=>by injection h with h; dsimp only at h; omega)).mono ?_
 rintro e w7 ⟨rfl,hG7,hH7⟩
 have HH7:=Hy hH7
 have HB7:=Hy (be_grown HB06.out hG7 HB06.out.size (fun j hj=>by injection hj with hj; omega))
 have HZ7:=Hy ((HZ5.out.below HB6.out (by omega)).grown hG7 (by simp))
 have hs7:=hG7.size
 clear hG7 hH7
 go_wp2_with fail
 refine (hsum_any (w.heap.size + 1) _ _ w7 (HTab.out.below HB7.out hl1 hl2) HH7.out (by rw [List.length_append]; omega)).mono ?_
 rintro e w8 ⟨rfl,hB8⟩
 obtain ⟨oc,hoc⟩:∃ oc,oc = ((ShaM.sha (L ++ body)).map Y).toArray:=⟨_,rfl⟩
 rw [← hoc]
 have hos:oc.size = 32:=by rw [hoc,List.size_toArray,List.length_map]; rfl
 have HOI:Hid ((Tryz.prog.info? 30).map (·.size) = some oc.size):=by show _ = _; rw [hos]; kernel_rfl
 have HO1:Hid (oc.all (·.oneCell') = true):=by show _ = _; rw [hoc]; exact ys_all _
 have HOS:Hid (z.size = oc.size):=by show _ = _; rw [hos,HZ.out]
 have HZ8:=Hy (HZ7.out.below hB8 (by omega))
 have HB8:=Hy (HB7.out.trans (hB8.mono (by omega)))
 have HOC:=Hy hoc
 clear hoc hos hB8
 go_wp2_with (refine wpList_store_whole rfl 30 _ _ rfl w.heap.size oc rfl rfl 30 z HZ8.out HOI.out HOS.out HO1.out ?_; intro w9 hW9 hG9; have HW9:=Hy hW9; have HB9:=Hy (be_grown HB8.out hG9 HB8.out.size (fun j hj=>by injection hj with hj; omega)); clear hW9 hG9)
 refine bodyPost_ret (v:=.agg oc) ?_ rfl ⟨by rw [HOC.out,HL.out],HB9.out⟩
 exact results_cell_row (p:=4) (ty:=30) rfl _ _ w.heap.size 30 oc (0,0) _ rfl HW9.out Tryz.underlying30 rfl HOI.out
theorem oof_any (kind:Int) (body:List UInt8) (w:World) (hTab:Tabs w) (hT:Tens w) (hl:body.length ≤ 100000) :
  Calls Tryz.prog 118 #[.int .i64 kind,.string ⟨body.toArray⟩] w fun e w'=>e = .returned (.agg ((ShaM.sha (named kind body)).map Y).toArray) ∧ Below w.heap.size w w':=by
 have h1:=kwd_len kind
 have h2:=itoa_len 5 body.length (by omega)
 exact of_within kind (kwd kind) (Lib.itoa (body.length:Nat)) body w hTab (fun W=>oword_any kind W) (fun W hW=>itoa_any body.length W (hT.below hW) (by omega)) (by omega)
theorem rid_any (kind:Int) (body:List UInt8) (w:World) (hl:body.length ≤ 100000) :
  Calls Tryz.prog 40 #[.int .i64 kind,.string ⟨body.toArray⟩] w fun e w'=>e = .returned (.agg ((ShaM.sha (named kind body)).map Y).toArray) ∧ Below w.heap.size w w':=by
 have HD:=Hy fun W=>rdec_any body.length (by omega) W
 have hdl:=itoa_len 5 body.length (by omega)
 have HLE:=Hy (named_len kind body (by omega))
 have HW0:=Hy (Whole.made w 30 ((List.replicate 32 (0:UInt8)).map Y).toArray)
 have hB0:=(Below.refl w.heap.size w).alloc (Nat.le_refl _) (.cells ((List.replicate 32 (0:UInt8)).map Y).toArray 30)
 unfold named at *
 generalize Lib.itoa (body.length:Nat) = dec at *
 by_cases h1:kind = 1
 ·have k1:(kind == 1) = true:=by simp [h1]
  have hk:kwd kind ++ [32] = [98,108,111,98,32]:=by simp [kwd,h1]
  rw [hk] at HLE ⊢
  have HARG:=Hy (arg_eq [98,108,111,98,32] dec body)
  clear h1 hk
  go_enter Tryz.func40,Tryz.ntmps40
  go_wp2_with fail
  refine (HD.out _).mono ?_
  rintro e w1 ⟨rfl,hB⟩
  have HB1:=Hy (hB0.trans (hB.mono (by simp)))
  have HW1:=Hy (HW0.out.below hB HW0.out.lt)
  clear hB hB0
  go_wp2_with fail
  rw [HARG.out]
  refine (rsum_any _ w1 (by have:=HLE.out; omega)).mono ?_
  rintro e w2 ⟨rfl,hB⟩
  have HB2:=Hy (hTr HB1 hB)
  have HW2:=Hy (HW1.out.below hB HW1.out.lt)
  clear hB
  obtain ⟨oc,hoc⟩:∃ oc,oc = ((ShaM.sha ([98,108,111,98,32] ++ dec ++ [0] ++ body)).map Y).toArray:=⟨_,rfl⟩
  rw [← hoc]
  have hos:oc.size = 32:=by rw [hoc,List.size_toArray,List.length_map]; exact ShaM.sha_len _
  have HOI:Hid ((Tryz.prog.info? 30).map (·.size) = some oc.size):=by show _ = _; rw [hos]; kernel_rfl
  have HO1:Hid (oc.all (·.oneCell') = true):=by show _ = _; rw [hoc]; exact ys_all _
  have HOS:Hid ((((List.replicate 32 (0:UInt8)).map Y).toArray).size = oc.size):=by show _ = _; rw [hos]; simp
  have HOC:=Hy hoc
  clear hoc hos
  go_wp2_with (refine wpList_store_whole rfl 30 _ _ rfl w.heap.size oc rfl rfl 30 _ HW2.out HOI.out HOS.out HO1.out ?_; intro w9 hW9 hG9; have HW9:=Hy hW9; have HB9:=Hy (be_grown HB2.out hG9 HB2.out.size (fun j hj=>by injection hj with hj; omega)); clear hW9 hG9)
  refine bodyPost_ret (v:=.agg oc) ?_ rfl ⟨by rw [HOC.out]; rfl,HB9.out⟩
  exact results_cell_row (p:=4) (ty:=30) rfl _ _ w.heap.size 30 oc (0,0) _ rfl HW9.out Tryz.underlying30 rfl HOI.out
 ·skip
  by_cases h2:kind = 2
  ·have k1:(kind == 1) = false:=by simp [h1]
   have k2:(kind == 2) = true:=by simp [h2]
   have hk:kwd kind ++ [32] = [116,114,101,101,32]:=by simp [kwd,h2]
   rw [hk] at HLE ⊢
   have HARG:=Hy (arg_eq [116,114,101,101,32] dec body)
   clear h1 h2 hk
   go_enter Tryz.func40,Tryz.ntmps40
   go_wp2_with fail
   refine (HD.out _).mono ?_
   rintro e w1 ⟨rfl,hB⟩
   have HB1:=Hy (hB0.trans (hB.mono (by simp)))
   have HW1:=Hy (HW0.out.below hB HW0.out.lt)
   clear hB hB0
   go_wp2_with fail
   rw [HARG.out]
   refine (rsum_any _ w1 (by have:=HLE.out; omega)).mono ?_
   rintro e w2 ⟨rfl,hB⟩
   have HB2:=Hy (hTr HB1 hB)
   have HW2:=Hy (HW1.out.below hB HW1.out.lt)
   clear hB
   obtain ⟨oc,hoc⟩:∃ oc,oc = ((ShaM.sha ([116,114,101,101,32] ++ dec ++ [0] ++ body)).map Y).toArray:=⟨_,rfl⟩
   rw [← hoc]
   have hos:oc.size = 32:=by rw [hoc,List.size_toArray,List.length_map]; exact ShaM.sha_len _
   have HOI:Hid ((Tryz.prog.info? 30).map (·.size) = some oc.size):=by show _ = _; rw [hos]; kernel_rfl
   have HO1:Hid (oc.all (·.oneCell') = true):=by show _ = _; rw [hoc]; exact ys_all _
   have HOS:Hid ((((List.replicate 32 (0:UInt8)).map Y).toArray).size = oc.size):=by show _ = _; rw [hos]; simp
   have HOC:=Hy hoc
   clear hoc hos
   go_wp2_with (refine wpList_store_whole rfl 30 _ _ rfl w.heap.size oc rfl rfl 30 _ HW2.out HOI.out HOS.out HO1.out ?_; intro w9 hW9 hG9; have HW9:=Hy hW9; have HB9:=Hy (be_grown HB2.out hG9 HB2.out.size (fun j hj=>by injection hj with hj; omega)); clear hW9 hG9)
   refine bodyPost_ret (v:=.agg oc) ?_ rfl ⟨by rw [HOC.out]; rfl,HB9.out⟩
   exact results_cell_row (p:=4) (ty:=30) rfl _ _ w.heap.size 30 oc (0,0) _ rfl HW9.out Tryz.underlying30 rfl HOI.out
  ·skip
   by_cases h3:kind = 3
   ·have k1:(kind == 1) = false:=by simp [h1]
    have k2:(kind == 2) = false:=by simp [h2]
    have k3:(kind == 3) = true:=by simp [h3]
    have hk:kwd kind ++ [32] = [99,111,109,109,105,116,32]:=by simp [kwd,h3]
    rw [hk] at HLE ⊢
    have HARG:=Hy (arg_eq [99,111,109,109,105,116,32] dec body)
    clear h1 h2 h3 hk
    go_enter Tryz.func40,Tryz.ntmps40
    go_wp2_with fail
    refine (HD.out _).mono ?_
    rintro e w1 ⟨rfl,hB⟩
    have HB1:=Hy (hB0.trans (hB.mono (by simp)))
    have HW1:=Hy (HW0.out.below hB HW0.out.lt)
    clear hB hB0
    go_wp2_with fail
    rw [HARG.out]
    refine (rsum_any _ w1 (by have:=HLE.out; omega)).mono ?_
    rintro e w2 ⟨rfl,hB⟩
    have HB2:=Hy (hTr HB1 hB)
    have HW2:=Hy (HW1.out.below hB HW1.out.lt)
    clear hB
    obtain ⟨oc,hoc⟩:∃ oc,oc = ((ShaM.sha ([99,111,109,109,105,116,32] ++ dec ++ [0] ++ body)).map Y).toArray:=⟨_,rfl⟩
    rw [← hoc]
    have hos:oc.size = 32:=by rw [hoc,List.size_toArray,List.length_map]; exact ShaM.sha_len _
    have HOI:Hid ((Tryz.prog.info? 30).map (·.size) = some oc.size):=by show _ = _; rw [hos]; kernel_rfl
    have HO1:Hid (oc.all (·.oneCell') = true):=by show _ = _; rw [hoc]; exact ys_all _
    have HOS:Hid ((((List.replicate 32 (0:UInt8)).map Y).toArray).size = oc.size):=by show _ = _; rw [hos]; simp
    have HOC:=Hy hoc
    clear hoc hos
    go_wp2_with (refine wpList_store_whole rfl 30 _ _ rfl w.heap.size oc rfl rfl 30 _ HW2.out HOI.out HOS.out HO1.out ?_; intro w9 hW9 hG9; have HW9:=Hy hW9; have HB9:=Hy (be_grown HB2.out hG9 HB2.out.size (fun j hj=>by injection hj with hj; omega)); clear hW9 hG9)
    refine bodyPost_ret (v:=.agg oc) ?_ rfl ⟨by rw [HOC.out]; rfl,HB9.out⟩
    exact results_cell_row (p:=4) (ty:=30) rfl _ _ w.heap.size 30 oc (0,0) _ rfl HW9.out Tryz.underlying30 rfl HOI.out
   ·skip
    have k1:(kind == 1) = false:=by simp [h1]
    have k2:(kind == 2) = false:=by simp [h2]
    have k3:(kind == 3) = false:=by simp [h3]
    have hk:kwd kind ++ [32] = [63,32]:=by simp [kwd,h1,h2,h3]
    rw [hk] at HLE ⊢
    have HARG:=Hy (arg_eq [63,32] dec body)
    clear h1 h2 h3 hk
    go_enter Tryz.func40,Tryz.ntmps40
    go_wp2_with fail
    refine (HD.out _).mono ?_
    rintro e w1 ⟨rfl,hB⟩
    have HB1:=Hy (hB0.trans (hB.mono (by simp)))
    have HW1:=Hy (HW0.out.below hB HW0.out.lt)
    clear hB hB0
    go_wp2_with fail
    rw [HARG.out]
    refine (rsum_any _ w1 (by have:=HLE.out; omega)).mono ?_
    rintro e w2 ⟨rfl,hB⟩
    have HB2:=Hy (hTr HB1 hB)
    have HW2:=Hy (HW1.out.below hB HW1.out.lt)
    clear hB
    obtain ⟨oc,hoc⟩:∃ oc,oc = ((ShaM.sha ([63,32] ++ dec ++ [0] ++ body)).map Y).toArray:=⟨_,rfl⟩
    rw [← hoc]
    have hos:oc.size = 32:=by rw [hoc,List.size_toArray,List.length_map]; exact ShaM.sha_len _
    have HOI:Hid ((Tryz.prog.info? 30).map (·.size) = some oc.size):=by show _ = _; rw [hos]; kernel_rfl
    have HO1:Hid (oc.all (·.oneCell') = true):=by show _ = _; rw [hoc]; exact ys_all _
    have HOS:Hid ((((List.replicate 32 (0:UInt8)).map Y).toArray).size = oc.size):=by show _ = _; rw [hos]; simp
    have HOC:=Hy hoc
    clear hoc hos
    go_wp2_with (refine wpList_store_whole rfl 30 _ _ rfl w.heap.size oc rfl rfl 30 _ HW2.out HOI.out HOS.out HO1.out ?_; intro w9 hW9 hG9; have HW9:=Hy hW9; have HB9:=Hy (be_grown HB2.out hG9 HB2.out.size (fun j hj=>by injection hj with hj; omega)); clear hW9 hG9)
    refine bodyPost_ret (v:=.agg oc) ?_ rfl ⟨by rw [HOC.out]; rfl,HB9.out⟩
    exact results_cell_row (p:=4) (ty:=30) rfl _ _ w.heap.size 30 oc (0,0) _ rfl HW9.out Tryz.underlying30 rfl HOI.out
end Go.Proofs.YtlfmooihcigolaaGreatDoor

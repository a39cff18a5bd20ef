/-
  The reference's Sum, walked.
-/
import Derived.Test.YtjoinnjhpfakpaaGreatDoorRefB
import Derived.Test.YtjoinnjhpfakpaaGreatDoorMhc
namespace Go.Proofs.YtjoinnjhpfakpaaGreatDoor
open Go.RowKit

def slen : Value → Nat
  | .string b => b.size
  | _ => 0
theorem slen_mk (l : List UInt8) : slen (.string ⟨l.toArray⟩) = l.length := by simp [slen, ByteArray.size]
/-- The state that a text begins with. -/
def startv : Array Value := ((ShaM.ls ShaM.H0).map U).toArray
/-- A byte of its own, as a string. -/
theorem one_str (c : UInt8) (w : World) : ∀ W, Below (w.heap.size + 1) (w.alloc (.cells #[.int .u8 (c.toNat : Int)] 5)) W → (convert 97 9 (.slice (some ⟨w.heap.size, 0, none⟩) 1 1)).run Tryz.prog W = .ok (.string ⟨#[c]⟩) W := by
  intro W hW
  have h := (Whole.made w 5 #[.int .u8 (c.toNat : Int)]).below hW (by omega)
  have hby : Bytes W (.slice (some ⟨w.heap.size, 0, none⟩) 1 1) [c] := ⟨_, 1, rfl, Nat.le_refl _, by unfold maxLen; omega, fun _ => ⟨_, _, rfl, fun i hi => by
    obtain rfl : i = 0 := by simpa using hi
    exact h.at_ 0⟩⟩
  exact bytes_str (P := Tryz.prog) 97 9 5 Tryz.underlying97 Tryz.underlying5 Tryz.underlying9 hby
/-- The result as it is being laid. -/
def outk (s : ShaM.St) (k : Nat) : List UInt8 := (ShaM.out s).take k ++ List.replicate (32 - k) 0
theorem outk_len (s : ShaM.St) (k : Nat) (h : k ≤ 32) : (outk s k).length = 32 := by
  simp only [outk, List.length_append, List.length_take, ShaM.out_len, List.length_replicate]; omega
theorem outk_step (s : ShaM.St) (k : Nat) (h : k < 32) : (outk s k).set k ((ShaM.out s).getD k 0) = outk s (k + 1) := by
  have hl := ShaM.out_len s
  have ht : ((ShaM.out s).take k).length = k := by rw [List.length_take, hl]; omega
  obtain ⟨m, hm⟩ : ∃ m, 32 - k = m + 1 := ⟨31 - k, by omega⟩
  unfold outk
  rw [List.set_append_right _ _ (by omega), ht, Nat.sub_self, hm, List.replicate_succ, List.set_cons_zero, show 32 - (k + 1) = m by omega, List.take_succ_eq_append_getElem (by omega), List.getD_eq_getElem?_getD, List.getElem?_eq_getElem (by omega), Option.getD_some]
  simp only [List.append_assoc, List.singleton_append]
theorem outk_full (s : ShaM.St) : outk s 32 = ShaM.out s := by
  unfold outk
  rw [List.take_of_length_le (by rw [ShaM.out_len]; omega)]
  simp
set_option maxRecDepth 100000 in
set_option maxHeartbeats 4000000 in
theorem rsum_any (T : List UInt8) (w : World) (hT : T.length < 1099511627776) :
    Calls Tryz.prog 98 #[.string ⟨T.toArray⟩] w fun e w' => e = .returned (.agg ((ShaM.sha T).map Y).toArray) ∧ Below w.heap.size w w' := by
  have HI8 : Hid ((Tryz.prog.info? 199).map (·.size) = some startv.size) := by show _ = _; kernel_rfl
  have H18 : Hid (startv.all (·.oneCell') = true) := by show _ = _; kernel_rfl
  have HSV : Hid (8 = startv.size) := by show _ = _; kernel_rfl
  have HSD : Hid (startv = ((ShaM.ls ShaM.H0).map U).toArray) := rfl
  have hp := ShaM.padN_bd T.length
  have HP := Lib.hid hp
  clear hp
  go_enter Tryz.func98, Tryz.ntmps98
  go_wp2_with (refine wpList_store_whole rfl 199 _ _ rfl (w.heap.size + 1) startv rfl (by kernel_rfl) 199 _ (heap_alloc2_new w _ _) HI8.out (by rw [← HSV.out]; kernel_rfl) H18.out ?_; intro w1 hW1 hG1; have HV1 := Lib.hid hW1; have HG1 := Lib.hid hG1; clear hW1 hG1)
  have HR1 := Lib.hid (((Whole.made w 49 (Array.replicate 32 (.int .u8 0))).past (.cells (Array.replicate 8 (.int .u32 0)) 199)).grown HG1.out (fun e => by injection e with e; omega))
  have HB1 := Lib.hid (gr_alloc2 HG1.out (by omega))
  clear HG1
  go_loop [4] (fun v => ∃ j, j ≤ ShaM.padN T.length - 9 ∧ v = .string ⟨(ShaM.zp T j).toArray⟩) (fun v => T.length + 100 - slen v)
  case atStart => exact ⟨0, Nat.zero_le _, by rw [show (ByteArray.mk #[128]) = ⟨[128].toArray⟩ from rfl, ba_append]; rfl⟩
  case round =>
    obtain ⟨j, hj, rfl⟩ := hrel
    have hl := ShaM.zp_len T j
    have he := ShaM.zp_end T j hj
    have HZ := Lib.hid (ShaM.zp_succ T j)
    have HJ := Lib.hid hj
    by_cases hend : j = ShaM.padN T.length - 9
    · have h56 : (ShaM.zp T j).length % 64 = 56 := he.2 hend
      have hz := ShaM.lp_zero T
      rw [← hend] at hz
      rw [← hz] at hl h56 ⊢
      have HL0 : Hid ((ShaM.lp T 0).length = T.length + 1 + j) := hl
      have hb : (((ShaM.lp T 0).length : Int) % 64 != 56) = false := by simp; omega
      have hmx : (ShaM.lp T 0).length < 9223372036854775807 := by have := HP.out; omega
      clear he hz hend HZ HJ hj
      go_wp2_with fail
      go_loopw [4, 5] (fun v i wr => ∃ k m : Nat, k + m = 8 ∧ i = .int .i64 ((m : Int) - 1) ∧ v = .string ⟨(ShaM.lp T k).toArray⟩ ∧ Below w1.heap.size w1 wr) (fun _ i _ => (intOf i + 1).toNat)
      case atStart => exact ⟨0, 8, rfl, rfl, rfl, Below.refl _ _⟩
      case round =>
        obtain ⟨k, m, hkm, rfl, rfl, hB⟩ := hrel
        have HB := Lib.hid hB
        clear hB
        cases m with
        | succ q =>
          have HS := Lib.hid (ShaM.lp_succ T k (by omega))
          rw [show ((q + 1 : Nat) : Int) - 1 = (q : Int) by omega]
          have hq7 : q ≤ 7 := by omega
          have hkq : 7 - k = q := by omega
          rw [hkq] at HS
          have hc1 : ((T.length : Int) * 8 / 2 ^ (8 * q)) % 256 = ((UInt8.ofNat (T.length * 8 / 2 ^ (8 * q))).toNat : Int) := by
            rw [UInt8.toNat_ofNat']
            have : ((T.length * 8 / 2 ^ (8 * q) : Nat) : Int) = (T.length : Int) * 8 / 2 ^ (8 * q) := by simp
            omega
          have HC := Lib.hid hc1
          have hzl : (ShaM.lp T k).length < 9223372036854775000 := by
            unfold ShaM.lp
            rw [List.length_append, ShaM.zp_len, List.length_take]
            have := HP.out
            omega
          have hstr := one_str (UInt8.ofNat (T.length * 8 / 2 ^ (8 * q))) wr
          clear hkq hc1
          generalize ShaM.lp T k = z at *
          generalize UInt8.ofNat (T.length * 8 / 2 ^ (8 * q)) = c at *
          go_wp2_with fail
          rw [HC.out, hstr _ (Below.refl _ _)]
          go_simp
          go_wp2_with fail
          rw [show (ByteArray.mk #[c]) = ⟨[c].toArray⟩ from rfl, ba_append z [c], HS.out]
          go_roundw
          case rel => exact ⟨k + 1, q, by omega, rfl, rfl, HB.out.alloc HB.out.size _⟩
          case measure => simp [intOf]
        | zero =>
          obtain rfl : k = 8 := by omega
          rw [show ((0 : Nat) : Int) - 1 = -1 from rfl]
          rw [ShaM.lp_full]
          have HPB := Lib.hid (ShaM.pad_blocks T)
          have HSHA : Hid (ShaM.sha T = ShaM.out (ShaM.runN ((T ++ ShaM.pad T.length).length / 64) ShaM.H0 (T ++ ShaM.pad T.length))) := rfl
          have hLl : (T ++ ShaM.pad T.length).length < 9223372036854775000 := by rw [List.length_append, ShaM.pad_len]; have := HP.out; omega
          generalize T ++ ShaM.pad T.length = L at *
          have hb0 := HR1.out.lt
          have hb1 := HV1.out.lt
          have HR2 := Lib.hid (HR1.out.below HB.out hb0)
          have HV2 := Lib.hid (HV1.out.below HB.out hb1)
          have HB2 := Lib.hid (HB1.out.trans (HB.out.mono HB1.out.size))
          have hs2 := HB.out.size
          clear HR1 HV1 HB HB1 hmx hb hkm HL0
          generalize wr = w2 at *
          go_wp2_with fail
          go_loopw [6] (fun i wr => ∃ j : Nat, 64 * j ≤ L.length ∧ i = .int .i64 ((64 * j : Nat) : Int) ∧ w2.grownBy wr (some (w.heap.size + 1)) ∧ Whole wr (w.heap.size + 1) 199 ((ShaM.ls (ShaM.runN j ShaM.H0 L)).map U).toArray) (fun i _ => L.length - (intOf i).toNat)
          case atStart => exact ⟨0, by omega, rfl, gr_refl _ _, by have := HV2.out; rw [HSD.out] at this; exact this⟩
          case round =>
            obtain ⟨j, hj, rfl, hG, hV⟩ := hrel
            have HG := Lib.hid hG
            have HV := Lib.hid hV
            clear hG hV
            by_cases hlt : 64 * j < L.length
            · have HST := Lib.hid (ShaM.runN_snoc j ShaM.H0 L)
              have h64 : 64 * j + 64 ≤ L.length := by have := HPB.out; omega
              have hsl := fun W => str_cut L (64 * j) (64 * j + 64) (by omega) h64 W
              have hbl : ((L.take (64 * j + 64)).drop (64 * j)).length = 64 := by rw [List.length_drop, List.length_take]; omega
              have HBK := Lib.hid fun W => rblock_any (ShaM.runN j ShaM.H0 L) ((L.take (64 * j + 64)).drop (64 * j)) W hbl
              have HJN : Hid (((64 * (j + 1) : Nat) : Int) = ((64 * j : Nat) : Int) + 64) := by show _ = _; omega
              have HJL : Hid (64 * (j + 1) ≤ L.length) := by show _ ≤ _; omega
              obtain ⟨fc, hfc⟩ : ∃ fc, fc = ((ShaM.ls (ShaM.runN j ShaM.H0 L)).map U).toArray := ⟨_, rfl⟩
              have HFI : Hid ((Tryz.prog.info? 199).map (·.size) = some fc.size) := by show _ = _; rw [hfc, List.size_toArray, List.length_map, ShaM.ls_len]; kernel_rfl
              have HFS : Hid (fc.size = 8) := by show _ = _; rw [hfc, List.size_toArray, List.length_map, ShaM.ls_len]
              rw [← hfc] at HV HBK
              rw [show ((64 * j + 64 : Nat) : Int) = ((64 * j : Nat) : Int) + 64 by omega] at hsl
              rw [← HST.out] at HBK
              obtain ⟨gc, hgc⟩ : ∃ gc, gc = ((ShaM.ls (ShaM.runN (j + 1) ShaM.H0 L)).map U).toArray := ⟨_, rfl⟩
              have HGI : Hid ((Tryz.prog.info? 199).map (·.size) = some gc.size) := by show _ = _; rw [hgc, List.size_toArray, List.length_map, ShaM.ls_len]; kernel_rfl
              have HGS : Hid (gc.size = 8) := by show _ = _; rw [hgc, List.size_toArray, List.length_map, ShaM.ls_len]
              have HG1 : Hid (gc.all (·.oneCell') = true) := by show _ = _; rw [hgc]; exact words_one _
              have HGC := Lib.hid hgc
              rw [← hgc] at HBK
              have HLV : Hid (∀ W, (∃ n, W = wr.drewN n) → ∀ i, W.cell? ⟨w.heap.size + 1, i, none⟩ = fc[i]?) := by rintro W ⟨n, rfl⟩ i; exact HV.out.at_ i
              have hn0 : (64 * j : Nat) < 9223372036854775000 := by omega
              have hltI : (((64 * j : Nat) : Int) < (L.length : Int)) := by omega
              clear hfc hgc HST hbl hj h64
              generalize (L.take (64 * j + 64)).drop (64 * j) = blk at *
              generalize 64 * j = n at *
              go_wp2_with fail
              refine wp_region_qtail (C := fun w' => ∃ m, w' = wr.drewN m) 6 (by kernel_rfl) (by kernel_rfl) ⟨1, rfl⟩ ?_
              simp only [List.take_succ_cons, List.take_zero, List.drop_succ_cons, List.drop_zero]
              repeat (first
                | (refine q_load _ _ rfl (by rfl) (w.heap.size + 1) fc rfl _ Tryz.underlying199 rfl HFI.out HLV.out ?_; simp only [Act.put]; go_simp)
                | go_big_quiet_step (fail))
              refine wpQuiet_nil ?_
              intro nq
              have HGq : Hid (w2.grownBy (wr.drewN nq) (some (w.heap.size + 1))) := gr_drewN HG.out nq
              have HVq : Hid (Whole (wr.drewN nq) (w.heap.size + 1) 199 fc) := HV.out
              clear HG HV HLV hsl
              generalize wr.drewN nq = w3 at *
              go_wp2_with fail
              (with_reducible refine (HBK.out _).mono ?_)
              rintro e w4 ⟨rfl, hB⟩
              have HG4 := Lib.hid (gr_below HGq.out hB)
              have HV4 := Lib.hid (HVq.out.below hB HVq.out.lt)
              clear hB
              go_wp2_with (refine wpList_store_whole rfl 199 _ _ rfl (w.heap.size + 1) gc rfl rfl 199 fc HV4.out HGI.out (by rw [HFS.out, HGS.out]) HG1.out ?_; intro w5 hW5 hG5; have HV5 := Lib.hid hW5; have HG5 := Lib.hid (gr_grown HG4.out hG5 (.inl rfl)); clear hW5 hG5)
              go_roundw
              case rel => exact ⟨j + 1, HJL.out, by rw [HJN.out], HG5.out, by rw [← HGC.out]; exact HV5.out⟩
              case measure => simp [intOf]; omega
            · have hjj : j = L.length / 64 := by have := HPB.out; omega
              rw [hjj] at HV
              have HFIN : Hid (ShaM.sha T = ShaM.out (ShaM.runN (L.length / 64) ShaM.H0 L)) := HSHA.out
              generalize ShaM.runN (L.length / 64) ShaM.H0 L = s at *
              have HR3 := Lib.hid (HR2.out.grown HG.out (fun e => by injection e with e; omega))
              have HB3 := Lib.hid (be_grown HB2.out HG.out HB2.out.size (fun j hj => by injection hj with hj; omega))
              have hs3 := HV.out.lt
              clear hjj HSHA HG HR2 HV2 HB2
              generalize wr = w3 at *
              go_wp2_with fail
              obtain ⟨zs, hzs⟩ : ∃ zs : Array Value, zs = #[.int .u8 0, .int .u8 0, .int .u8 0, .int .u8 0, .int .u8 0, .int .u8 0, .int .u8 0, .int .u8 0, .int .u8 0, .int .u8 0, .int .u8 0, .int .u8 0, .int .u8 0, .int .u8 0, .int .u8 0, .int .u8 0, .int .u8 0, .int .u8 0, .int .u8 0, .int .u8 0, .int .u8 0, .int .u8 0, .int .u8 0, .int .u8 0, .int .u8 0, .int .u8 0, .int .u8 0, .int .u8 0, .int .u8 0, .int .u8 0, .int .u8 0, .int .u8 0] := ⟨_, rfl⟩
              rw [← hzs]
              have HZS := Lib.hid hzs
              have HO4 := Lib.hid (Whole.made w3 49 zs)
              have HV4 := Lib.hid (HV.out.past (.cells zs 49))
              have HR4 := Lib.hid (HR3.out.past (.cells zs 49))
              have HB4 := Lib.hid (HB3.out.alloc HB3.out.size (.cells zs 49))
              have hs4 : (w3.alloc (.cells zs 49)).heap.size = w3.heap.size + 1 := by simp
              have HN4 := Lib.hid hs4
              have hb03 : w.heap.size < w3.heap.size := by omega
              have hO0 : zs = ((outk s 0).map Y).toArray := by rw [hzs]; rfl
              have HO4' : Hid (Whole (w3.alloc (.cells zs 49)) w3.heap.size 49 ((outk s 0).map Y).toArray) := by show Whole _ _ _ _; rw [← hO0]; exact HO4.out
              clear hs4 hzs hO0
              generalize w3.alloc (.cells zs 49) = w4 at *
              go_loopw [8] (fun i wr => ∃ k : Nat, k ≤ 32 ∧ i = .int .i64 (k : Int) ∧ w4.grownBy wr (some w3.heap.size) ∧ Whole wr w3.heap.size 49 ((outk s k).map Y).toArray) (fun i _ => 32 - (intOf i).toNat)
              case atStart => exact ⟨0, by omega, rfl, gr_refl _ _, HO4'.out⟩
              case round =>
                obtain ⟨k, hk, rfl, hG, hO⟩ := hrel
                have HG := Lib.hid hG
                have HO := Lib.hid hO
                clear hG hO
                by_cases hlt : k < 32
                · have HST := Lib.hid (outk_step s k hlt)
                  have HOA := Lib.hid (ShaM.out_at s k hlt)
                  have hcell : wr.cell? ⟨w.heap.size + 1, k / 4, none⟩ = some (.int .u32 (((ShaM.ls s).getD (k / 4) 0).toNat : Int)) := by
                    rw [(HV4.out.grown HG.out (fun e => by injection e with e; omega)).at_ (k / 4), List.getElem?_toArray, some_u _ _ (by rw [ShaM.ls_len]; omega)]; rfl
                  obtain ⟨x0, hold⟩ : ∃ x : Int, wr.cell? ⟨w3.heap.size, k, none⟩ = some (.int .u8 x) := by
                    rw [HO.out.at_ k, List.getElem?_toArray, ← some_y _ _ (by rw [outk_len _ _ hk]; exact hlt)]
                    exact ⟨_, rfl⟩
                  have z0 := HO.out.thawed k
                  have hr : k % 4 = 0 ∨ k % 4 = 1 ∨ k % 4 = 2 ∨ k % 4 = 3 := by omega
                  generalize (ShaM.ls s).getD (k / 4) 0 = x at *
                  generalize (ShaM.out s).getD k 0 = y at *
                  have hi0 : (0 : Int) ≤ (k : Int) / 4 := by omega
                  have hi8 : (k : Int) / 4 < 8 := by omega
                  have hx := x.isLt
                  rcases hr with hr | hr | hr | hr
                  · have hr' : (k : Int) % 4 = 0 := by omega
                    rw [hr] at HOA
                    have HV : Hid (Value.int .u8 ((x.toNat : Int) / 16777216) = Y y) := by
                      show _ = _
                      rw [HOA.out]
                      exact Y_int (by simp <;> omega)
                    clear hr
                    go_wp2_with fail
                    go_roundw
                    case rel =>
                      refine ⟨k + 1, by omega, by go_num, gr_set HG.out (.inl rfl) _, ?_⟩
                      have := HO.out.put k (Y y)
                      rw [List.setIfInBounds_toArray, ← List.map_set, HST.out] at this
                      rw [HV.out]
                      exact this
                    case measure => simp [intOf]; omega
                  · have hr' : (k : Int) % 4 = 1 := by omega
                    rw [hr] at HOA
                    have HV : Hid (Value.int .u8 ((x.toNat : Int) / 65536 % 256) = Y y) := by
                      show _ = _
                      rw [HOA.out]
                      exact Y_int (by simp <;> omega)
                    clear hr
                    go_wp2_with fail
                    go_roundw
                    case rel =>
                      refine ⟨k + 1, by omega, by go_num, gr_set HG.out (.inl rfl) _, ?_⟩
                      have := HO.out.put k (Y y)
                      rw [List.setIfInBounds_toArray, ← List.map_set, HST.out] at this
                      rw [HV.out]
                      exact this
                    case measure => simp [intOf]; omega
                  · have hr' : (k : Int) % 4 = 2 := by omega
                    rw [hr] at HOA
                    have HV : Hid (Value.int .u8 ((x.toNat : Int) / 256 % 256) = Y y) := by
                      show _ = _
                      rw [HOA.out]
                      exact Y_int (by simp <;> omega)
                    clear hr
                    go_wp2_with fail
                    go_roundw
                    case rel =>
                      refine ⟨k + 1, by omega, by go_num, gr_set HG.out (.inl rfl) _, ?_⟩
                      have := HO.out.put k (Y y)
                      rw [List.setIfInBounds_toArray, ← List.map_set, HST.out] at this
                      rw [HV.out]
                      exact this
                    case measure => simp [intOf]; omega
                  · have hr' : (k : Int) % 4 = 3 := by omega
                    rw [hr] at HOA
                    have HV : Hid (Value.int .u8 ((x.toNat : Int) % 256) = Y y) := by
                      show _ = _
                      rw [HOA.out]
                      exact Y_int (by simp <;> omega)
                    clear hr
                    go_wp2_with fail
                    go_roundw
                    case rel =>
                      refine ⟨k + 1, by omega, by go_num, gr_set HG.out (.inl rfl) _, ?_⟩
                      have := HO.out.put k (Y y)
                      rw [List.setIfInBounds_toArray, ← List.map_set, HST.out] at this
                      rw [HV.out]
                      exact this
                    case measure => simp [intOf]; omega
                · obtain rfl : k = 32 := by omega
                  rw [outk_full, ← HFIN.out] at HO
                  have HRZ := Lib.hid (HR4.out.grown HG.out (fun e => by injection e with e; omega))
                  have HBZ := Lib.hid (be_grown HB4.out HG.out HB4.out.size (fun j hj => by injection hj with hj; omega))
                  obtain ⟨fc, hfc⟩ : ∃ fc, fc = ((ShaM.sha T).map Y).toArray := ⟨_, rfl⟩
                  rw [← hfc] at HO
                  have HFC := Lib.hid hfc
                  have hfs : fc.size = 32 := by rw [hfc, List.size_toArray, List.length_map, ShaM.sha_len]
                  have HFI : Hid ((Tryz.prog.info? 49).map (·.size) = some fc.size) := by show _ = _; rw [hfs]; kernel_rfl
                  have HFS := Lib.hid hfs
                  have HF1 : Hid (fc.all (·.oneCell') = true) := by show _ = _; rw [hfc]; exact ys_all _
                  clear hfs hfc HFIN
                  go_wp2_with (first
                    | (refine wpList_load_row rfl 49 _ rfl w3.heap.size rfl 49 fc (0, 0) _ HO.out Tryz.underlying49 rfl HFI.out ?_)
                    | (refine wpList_store_whole rfl 49 _ _ rfl w.heap.size fc rfl rfl 49 _ HRZ.out HFI.out (by rw [HFS.out]; kernel_rfl) HF1.out ?_; intro w9 hW9 hG9; have HW9 := Lib.hid hW9; have HB9 := Lib.hid (be_grown HBZ.out hG9 HBZ.out.size (fun j hj => by injection hj with hj; omega)); clear hW9 hG9))
                  refine bodyPost_ret (v := .agg fc) ?_ rfl ⟨by rw [HFC.out], HB9.out⟩
                  exact results_cell_row (p := 2) (ty := 49) rfl _ _ w.heap.size 49 fc (0, 0) _ rfl HW9.out Tryz.underlying49 rfl HFI.out
    · have h56 : (ShaM.zp T j).length % 64 ≠ 56 := fun h => hend (he.1 h)
      have hb : (((ShaM.zp T j).length : Int) % 64 != 56) = true := by simp; omega
      have hmx : (ShaM.zp T j).length < 9223372036854775807 := by have := HP.out; omega
      have HS1 := Lib.hid (slen_mk (ShaM.zp T j))
      have HS2 := Lib.hid (slen_mk (ShaM.zp T (j + 1)))
      have HL1 := Lib.hid (ShaM.zp_len T (j + 1))
      have HL0 := Lib.hid hl
      clear he hl h56 hj
      generalize ShaM.zp T j = z at *
      go_wp2_with fail
      rw [show (ByteArray.mk #[0]) = ⟨[0].toArray⟩ from rfl, ba_append z [0], HZ.out]
      go_round
      case rel => exact ⟨j + 1, by have := HJ.out; omega, rfl⟩
      case measure =>
        rw [HS1.out, HS2.out, HL1.out, HL0.out]
        have := HJ.out
        have := HP.out
        omega
end Go.Proofs.YtjoinnjhpfakpaaGreatDoor

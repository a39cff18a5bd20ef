/-
  CommitTurn, walked.
-/
import Derived.Test.YtacmdpfidakkkaaGreatDoorBegS
import Derived.Test.YtacmdpfidakkkaaGreatDoorHeldK
import Derived.Test.YtacmdpfidakkkaaGreatDoorLCom
import Derived.Test.YtacmdpfidakkkaaGreatDoorRGtC
import Derived.Test.YtacmdpfidakkkaaGreatDoorMhh
import Derived.Test.YtacmdpfidakkkaaGreatDoorCParN
import Derived.Test.YtacmdpfidakkkaaGreatDoorTurN
import Derived.IntWalk
namespace Go.Proofs.YtacmdpfidakkkaaGreatDoor
open Go.RowKit

theorem argN_nil (w : World) : ArgN w none 0 [] := ⟨Nat.le_refl _, Nat.zero_le _, fun _ => rfl, fun h => absurd h (Nat.lt_irrefl _)⟩
theorem parents_le {x : Cm} (h : mayC x = true) : x.parents.length ≤ 4 := by
  simp only [mayC, mayP, Bool.and_eq_true, decide_eq_true_eq] at h
  exact h.1.1.1
set_option maxRecDepth 100000 in
set_option maxHeartbeats 8000000 in
theorem ctur_any (A : Option Addr) (c : Nat) (x : Cm) (at_ : Int) (b : UInt8) (w : World) (hE : Env w) (hT : Tens w) (hA : ArgN w A c x.parents) (ht : x.time < 18446744073709551616) (ha1 : -9223372036854775808 ≤ at_) (ha2 : at_ ≤ 9223372036854775807) :
    Calls Tryz.prog 9 #[.agg (encC A c x).toArray, .int .i64 at_, .int .u8 (b.toNat : Int)] w fun e w' => e = .returned (.bool true) ∧ Below w.heap.size w w' := by
  have HT := Lib.hid (hT.below ((Below.refl w.heap.size w).alloc (Nat.le_refl _) (.cells (encC A c x).toArray 55)))
  have HE := Lib.hid (hE.at_ ((Below.refl w.heap.size w).alloc (Nat.le_refl _) (.cells (encC A c x).toArray 55)))
  have HW := Lib.hid (Whole.made w 55 (encC A c x).toArray)
  have HB := Lib.hid ((Below.refl w.heap.size w).alloc (Nat.le_refl _) (.cells (encC A c x).toArray 55))
  have HA := Lib.hid (hA.later HB.out)
  have HTM : Hid ((trimC x).time < 18446744073709551616) := ht
  have HXI := Lib.hid (infoC_l A c x)
  clear hE hT hA ht
  go_enter Tryz.func9, Tryz.ntmps9
  go_wp2_with fail
  generalize w.alloc (.cells (encC A c x).toArray 55) = w0 at *
  refine (begun6_any w0 HE.out HT.out).mono ?_
  rintro e w1 ⟨rfl, hb⟩
  have HB1 := Lib.hid (HB.out.trans (hb.mono HB.out.size))
  have HW1 := Lib.hid (HW.out.below hb HW.out.lt)
  have HA1 := Lib.hid (HA.out.later hb)
  have HR1 := Lib.hid (whole_range HW1.out)
  clear hb HE HT HB HW HA
  go_wp2_with (refine wpList_load_mid rfl 55 _ rfl w.heap.size 0 rfl (encC A c x) _ HR1.out Tryz.underlying55 rfl HXI.out ?_)
  refine (lcom_any A c x w1 HA1.out).mono ?_
  rintro e w1b ⟨⟨A3, c3, rfl, hn2, -⟩, hb⟩
  have HB1b := Lib.hid (HB1.out.trans (hb.mono HB1.out.size))
  have HN := Lib.hid hn2
  clear hb hn2 HB1 HW1 HA1 HR1 HXI
  generalize trimC x = y at *
  have hput := cput_any A3 c3 y w1b HN.out HTM.out
  obtain ⟨T, hT⟩ : ∃ T, T = if mayC y then bytesC y else [] := ⟨_, rfl⟩
  rw [← hT] at hput
  have HPUT := Lib.hid hput
  have HTT := Lib.hid hT
  clear hput hT
  go_wp2_with fail
  refine HPUT.out.mono ?_
  rintro e w2 ⟨rfl, hb⟩
  have HB2 := Lib.hid (HB1b.out.trans (hb.mono HB1b.out.size))
  have HB1 := HB2
  clear hb HPUT HB1b HN
  cases hmay : mayC y with
  | false =>
    go_wp2
    go_ret
    exact ⟨rfl, HB2.out⟩
  | true =>
    have hT9 : T.length ≤ 1100 := by
      rw [HTT.out, hmay, if_pos rfl]
      have := bytesC_le y hmay
      omega
    have hTp : 0 < T.length := by
      rw [HTT.out, hmay, if_pos rfl]
      simp [bytesC]
    have hTb : True := trivial
    clear hmay
    by_cases hneg : at_ < 0
    · have hd : decide (at_ < 0) = true := by simp; omega
      go_wp2
      go_ret
      exact ⟨rfl, HB2.out⟩
    have hd : decide (at_ < 0) = false := by simp; omega
    have hk2 : at_.toNat % T.length < T.length := Nat.mod_lt _ hTp
    have hmm : at_.tmod (T.length : Int) = ((at_.toNat % T.length : Nat) : Int) := by
      rw [Int.tmod_eq_emod_of_nonneg (by omega), Int.natCast_emod, Int.toNat_of_nonneg (by omega)]
    have hTn : ((T.length : Int) == 0) = false := by rw [beq_eq_false_iff_ne]; omega
    clear hneg
    generalize at_.toNat % T.length = k at *
    have hi1 : (k : Int) < (T.length : Int) := by omega
    have hbb : b.toNat < 256 := b.toNat_lt
    go_wp2_with (refine wpList_of_string rfl 9 46 5 _ rfl ⟨T.toArray⟩ T rfl rfl Tryz.underlying9 Tryz.underlying46 Tryz.underlying5 (by unfold maxLen; omega) ?_; intro w3 cp hby hzz hbe hsz; have HBY := Lib.hid hby; have HZ := Lib.hid hzz; have HBE := Lib.hid hbe; have hci := Bytes.cellAt hby (show k < T.length by omega); have hzi := hzz k (by omega); rw [Nat.zero_add] at hci; clear hby hzz hbe)
    have hby4 := bytes_put HBY.out k hk2 b
    have HB4 := Lib.hid ((HB2.out.trans (HBE.out.mono HB2.out.size)).setCell (p := ⟨w2.heap.size, k, none⟩) HB2.out.size (.int .u8 (b.toNat : Int)))
    generalize w3.setCell ⟨w2.heap.size, k, none⟩ (.int .u8 (b.toNat : Int)) = w4 at *
    have HCV : Hid (∀ W, Below w4.heap.size w4 W → (convert 46 9 (.slice (some ⟨w2.heap.size, 0, none⟩) T.length cp)).run Tryz.prog W = .ok (.string ⟨(T.set k b).toArray⟩) W) := fun W hW => bytes_str 46 9 5 Tryz.underlying46 Tryz.underlying5 Tryz.underlying9 (hby4.below hW (Nat.le_refl _))
    have HK1 : Hid (IntKind.i64.wrap ((k : Int) + 1) = (k : Int) + 1) := IntWalk.i64_in _ (by omega)
    have HAP : Hid (∀ x y : List UInt8, (ByteArray.mk x.toArray) ++ (ByteArray.mk y.toArray) = ByteArray.mk (x ++ y).toArray) := ba_append'
    have HTO := Lib.hid (str_to T k (by omega))
    have HFR := Lib.hid (str_from T k (by omega))
    have HFR1 : Hid (∀ W, (Instr.slice 9 (.string ⟨T.toArray⟩) (some (.int .i64 ((k : Int) + 1))) none none).run Tryz.prog W = .ok (.string ⟨(T.drop (k + 1)).toArray⟩) W) := fun W => str_from T (k + 1) (by omega) W
    clear hby4 HBY HZ HBE hci hzi hsz HB1
    refine wp_region_K (fun W => Below w4.heap.size w4 W) 21 (by kernel_rfl) ?_
    change wpAnyK _ _ _ _ _ _ _ _ _ (World.drew w4)
    have hS0 : Below w4.heap.size w4 (World.drew w4) := (Below.refl _ _).drew
    generalize World.drew w4 = w5 at *
    refine wpAnyK_take0 (i := 0) (oi := { dst := some 45, op := _, type := _, pos := _, after := _, guard := none }) (v := .slice (some ⟨w2.heap.size, 0, none⟩) T.length cp) rfl (by kernel_rfl) (fun _ _ _ h => h) (Or.inl ⟨by rfl, fun W hW => ?_⟩) (fun _ => hS0) ?_
    · go_simp
    refine wpAnyK_take (i := 1) (oi := { dst := some 46, op := _, type := _, pos := _, after := _, guard := none }) (v := .string ⟨(T.set k b).toArray⟩) rfl (by kernel_rfl) (fun _ _ _ h => h) (Or.inl ⟨by rfl, fun W hW => ?_⟩) hS0 ?_
    · have hcvW := HCV.out W hW
      go_simp
    refine wpAnyK_take0 (i := 2) (oi := { dst := some 47, op := _, type := _, pos := _, after := _, guard := none }) (v := .string ⟨T.toArray⟩) rfl (by kernel_rfl) (fun _ _ _ h => h) (Or.inl ⟨by rfl, fun W hW => ?_⟩) (fun _ => hS0) ?_
    · go_simp
    refine wpAnyK_take0 (i := 3) (oi := { dst := some 48, op := _, type := _, pos := _, after := _, guard := none }) (v := .int .i64 (k : Int)) rfl (by kernel_rfl) (fun _ _ _ h => h) (Or.inl ⟨by rfl, fun W hW => ?_⟩) (fun _ => hS0) ?_
    · go_simp
    refine wpAnyK_take0 (i := 4) (oi := { dst := some 49, op := _, type := _, pos := _, after := _, guard := none }) (v := .string ⟨(T.take k).toArray⟩) rfl (by kernel_rfl) (fun _ _ _ h => h) (Or.inl ⟨by rfl, fun W hW => ?_⟩) (fun _ => hS0) ?_
    · have h9 := HTO.out W
      go_simp
    refine wpAnyK_take0 (i := 5) (oi := { dst := some 50, op := _, type := _, pos := _, after := _, guard := none }) (v := .string ⟨T.toArray⟩) rfl (by kernel_rfl) (fun _ _ _ h => h) (Or.inl ⟨by rfl, fun W hW => ?_⟩) (fun _ => hS0) ?_
    · go_simp
    refine wpAnyK_take0 (i := 6) (oi := { dst := some 51, op := _, type := _, pos := _, after := _, guard := none }) (v := .int .i64 (k : Int)) rfl (by kernel_rfl) (fun _ _ _ h => h) (Or.inl ⟨by rfl, fun W hW => ?_⟩) (fun _ => hS0) ?_
    · go_simp
    refine wpAnyK_take0 (i := 7) (oi := { dst := some 52, op := _, type := _, pos := _, after := _, guard := none }) (v := .int .i64 ((k : Int) + 1)) rfl (by kernel_rfl) (fun _ _ _ h => h) (Or.inl ⟨by rfl, fun W hW => ?_⟩) (fun _ => hS0) ?_
    · have h8 := HK1.out
      go_simp
    refine wpAnyK_take0 (i := 8) (oi := { dst := some 53, op := _, type := _, pos := _, after := _, guard := none }) (v := .string ⟨(T.drop (k + 1)).toArray⟩) rfl (by kernel_rfl) (fun _ _ _ h => h) (Or.inl ⟨by rfl, fun W hW => ?_⟩) (fun _ => hS0) ?_
    · have h9 := HFR1.out W
      go_simp
    refine wpAnyK_take0 (i := 9) (oi := { dst := some 54, op := _, type := _, pos := _, after := _, guard := none }) (v := .string ⟨(T.take k ++ T.drop (k + 1)).toArray⟩) rfl (by kernel_rfl) (fun _ _ _ h => h) (Or.inl ⟨by rfl, fun W hW => ?_⟩) (fun _ => hS0) ?_
    · have h7 : ¬ (9223372036854775807 < min k T.length + (T.length - (k + 1))) := by omega
      have h8 := HAP.out (T.take k) (T.drop (k + 1))
      go_simp
    refine wpAnyK_take0 (i := 10) (oi := { dst := some 55, op := _, type := _, pos := _, after := _, guard := none }) (v := .string ⟨T.toArray⟩) rfl (by kernel_rfl) (fun _ _ _ h => h) (Or.inl ⟨by rfl, fun W hW => ?_⟩) (fun _ => hS0) ?_
    · go_simp
    refine wpAnyK_take0 (i := 11) (oi := { dst := some 56, op := _, type := _, pos := _, after := _, guard := none }) (v := .int .i64 (k : Int)) rfl (by kernel_rfl) (fun _ _ _ h => h) (Or.inl ⟨by rfl, fun W hW => ?_⟩) (fun _ => hS0) ?_
    · go_simp
    refine wpAnyK_take0 (i := 12) (oi := { dst := some 57, op := _, type := _, pos := _, after := _, guard := none }) (v := .string ⟨(T.take k).toArray⟩) rfl (by kernel_rfl) (fun _ _ _ h => h) (Or.inl ⟨by rfl, fun W hW => ?_⟩) (fun _ => hS0) ?_
    · have h9 := HTO.out W
      go_simp
    refine wpAnyK_take0 (i := 13) (oi := { dst := some 58, op := _, type := _, pos := _, after := _, guard := none }) (v := .int .u8 (b.toNat : Int)) rfl (by kernel_rfl) (fun _ _ _ h => h) (Or.inl ⟨by rfl, fun W hW => ?_⟩) (fun _ => hS0) ?_
    · go_simp
    refine wpAnyK_take0 (i := 17) (oi := { dst := some 62, op := _, type := _, pos := _, after := _, guard := none }) (v := .string ⟨T.toArray⟩) rfl (by kernel_rfl) (fun _ _ _ h => h) (Or.inl ⟨by rfl, fun W hW => ?_⟩) (fun _ => hS0) ?_
    · go_simp
    refine wpAnyK_take0 (i := 18) (oi := { dst := some 63, op := _, type := _, pos := _, after := _, guard := none }) (v := .int .i64 (k : Int)) rfl (by kernel_rfl) (fun _ _ _ h => h) (Or.inl ⟨by rfl, fun W hW => ?_⟩) (fun _ => hS0) ?_
    · go_simp
    refine wpAnyK_take0 (i := 19) (oi := { dst := some 64, op := _, type := _, pos := _, after := _, guard := none }) (v := .string ⟨(T.drop k).toArray⟩) rfl (by kernel_rfl) (fun _ _ _ h => h) (Or.inl ⟨by rfl, fun W hW => ?_⟩) (fun _ => hS0) ?_
    · have h9 := HFR.out W
      go_simp
    refine wpAnyK_take0 (i := 23) (oi := { dst := some 68, op := _, type := _, pos := _, after := _, guard := none }) (v := .int .i64 0) rfl (by kernel_rfl) (fun _ _ _ h => h) (Or.inl ⟨by rfl, fun W hW => ?_⟩) (fun _ => hS0) ?_
    · go_simp
    simp only [Act.put]
    go_simp
    refine wpAnyK_ready (rs := [14]) (by kernel_rfl) (by simp) ?_
    refine AllReadyK.cons (o := _) rfl (fun K hK => ?_) AllReadyK.nil
    rw [if_pos (by rfl)]
    go_simp
    have hS1 := hS0.alloc (hS0.size) (.cells #[.int .u8 (b.toNat : Int)] 5)
    refine hK _ _ (fun _ => hS1) ?_
    clear hK K
    have h9 := str_one b _ rfl w5
    refine wpAnyK_ready (rs := [15]) (by kernel_rfl) (by simp) ?_
    refine AllReadyK.cons (o := _) rfl (fun K hK => ?_) AllReadyK.nil
    rw [if_pos (by rfl)]
    go_simp
    refine hK _ _ (fun _ => hS1) ?_
    clear hK K h9
    generalize w5.alloc (.cells #[.int .u8 (b.toNat : Int)] 5) = w6 at *
    have h7 : ¬ (9223372036854775807 < min k T.length + 1) := by omega
    have h8 := HAP.out (T.take k) [b]
    refine wpAnyK_ready (rs := [16]) (by kernel_rfl) (by simp) ?_
    refine AllReadyK.cons (o := _) rfl (fun K hK => ?_) AllReadyK.nil
    rw [if_pos (by rfl)]
    go_simp
    refine hK _ _ (fun _ => hS1) ?_
    clear hK K h7 h8
    have h7 : ¬ (9223372036854775807 < min k T.length + 1 + (T.length - k)) := by omega
    have h8 := HAP.out (T.take k ++ [b]) (T.drop k)
    refine wpAnyK_ready (rs := [20]) (by kernel_rfl) (by simp) ?_
    refine AllReadyK.cons (o := _) rfl (fun K hK => ?_) AllReadyK.nil
    rw [if_pos (by rfl)]
    go_simp
    refine hK _ _ (fun _ => hS1) ?_
    clear hK K h7 h8
    refine wpAnyK_ready (rs := [21]) (by kernel_rfl) (by simp) ?_
    refine AllReadyK.cons (o := _) rfl (fun K hK => ?_) AllReadyK.nil
    rw [if_pos (by rfl)]
    go_simp
    refine hK _ _ (fun h => by cases h) ?_
    clear hK K
    have HB6 := Lib.hid (HB4.out.trans (hS1.mono HB4.out.size))
    have HRW : Hid (Whole (w6.alloc (.cells #[.string ⟨(T.set k b).toArray⟩, .string ⟨(T.take k ++ T.drop (k + 1)).toArray⟩, .string ⟨(T.take k ++ b :: T.drop k).toArray⟩] 9)) w6.heap.size 9 ((turns T k b).map S1).toArray) := Whole.made w6 9 _
    have HB7 := Lib.hid (HB6.out.alloc HB6.out.size (.cells #[.string ⟨(T.set k b).toArray⟩, .string ⟨(T.take k ++ T.drop (k + 1)).toArray⟩, .string ⟨(T.take k ++ b :: T.drop k).toArray⟩] 9))
    generalize w6.alloc (.cells #[.string ⟨(T.set k b).toArray⟩, .string ⟨(T.take k ++ T.drop (k + 1)).toArray⟩, .string ⟨(T.take k ++ b :: T.drop k).toArray⟩] 9) = w7 at *
    refine wpAnyK_ready (rs := [22]) (by kernel_rfl) (by simp) ?_
    refine AllReadyK.cons (o := _) rfl (fun K hK => ?_) AllReadyK.nil
    rw [if_pos (by rfl)]
    go_simp
    refine hK _ _ (fun h => by cases h) ?_
    clear hK K
    refine wpAnyK_done (by kernel_rfl) ?_ _
    have hTL := turns_len T k b
    clear hS0 hS1 HTO HFR HFR1 HAP HK1 HCV hbb hi1 hmm hd ha1 ha2 hTb hTn
    obtain ⟨ts, hts0⟩ : ∃ ts, ts = turns T k b := ⟨_, rfl⟩
    rw [← hts0] at HRW hTL
    have hts : ts.length = 3 := by rw [hts0]; rfl
    have HTS := Lib.hid hts
    clear hts hts0
    generalize w6.heap.size = g at *
    generalize List.set T k b = t0 at *
    generalize (T.take k ++ T.drop (k + 1)) = t1 at *
    generalize (T.take k ++ b :: T.drop k) = t2 at *
    go_wp2
    go_loopg [13, 14, 15, 16, 17, 18, 19, 68] 3 (fun g0 _ _ _ _ _ _ _ s68 wr => ∃ i : Nat, i ≤ 3 ∧ 3 - i ≤ g0 ∧ s68 = .int .i64 i ∧ Hid (Below w.heap.size w wr) ∧ Hid (Whole wr g 9 (ts.map S1).toArray))
    case atStart => exact ⟨0, by omega, by omega, rfl, HB7, HRW⟩
    case round =>
      rename World => wr
      obtain ⟨i, hi3, hg, rfl, hbw, hrow⟩ := hrel
      by_cases hlt : i < 3
      · have hlt' : (i : Int) < 3 := by omega
        have hcell : wr.cell? ⟨g, i, none⟩ = some (.string ⟨(ts.getD i []).toArray⟩) := by
          rw [hrow.out.at_, List.getElem?_toArray, List.getElem?_map]
          have := HTS.out
          simp [List.getD, List.getElem?_eq_getElem (show i < ts.length by omega), S1]
        have htl := hTL i
        have HTL := Lib.hid hTL
        clear hTL
        generalize ts.getD i [] = t at *
        have hrt := hrow.out.lt
        cases hrd : readC t with
        | none =>
          have HRD := Lib.hid hrd
          clear hrd
          go_wp2_with fail
          refine (cget_any t wr (by omega)).mono ?_
          rintro e w8 ⟨hcase, hb⟩
          obtain ⟨A1, c1, rfl, ha1⟩ : ∃ A1 c1, e = .returned (.tuple #[.agg (encC A1 c1 noC).toArray, .int .i64 1]) ∧ ArgN w8 A1 c1 (noC : Cm).parents := by
            rcases hcase with ⟨x', A, c, h, -⟩ | ⟨h, he⟩
            · rw [HRD.out] at h
              cases h
            · exact ⟨none, 0, he, argN_nil w8⟩
          have HB8 := Lib.hid (hbw.out.trans (hb.mono hbw.out.size))
          have HR8 := Lib.hid (hrow.out.below hb hrt)
          have HA8 := Lib.hid ha1
          have HYI := Lib.hid (infoC_s A1 c1 noC)
          have HYO := Lib.hid (all_oneCell_toArray (encC_one A1 c1 noC))
          clear hb hcase ha1 hcell
          go_wp2_with (refine wpList_store_whole rfl 55 _ _ rfl w8.heap.size (encC A1 c1 noC).toArray rfl rfl 55 _ (Whole.made w8 _ _) HYI.out (by rw [encC_s]; kernel_rfl) HYO.out ?_; intro w9 hWn hGn; have HI9 := Lib.hid hWn; have HD9 := Lib.hid (made_below' hGn); clear hWn hGn)
          have HB9 := Lib.hid (HB8.out.trans (HD9.out.mono HB8.out.size))
          have HR9 := Lib.hid (HR8.out.below HD9.out HR8.out.lt)
          have HA9 := Lib.hid (HA8.out.later HD9.out)
          clear HB8 HR8 HA8 HD9
          refine (rgetc_any t w9 (by omega)).mono ?_
          rintro e w10 ⟨hcase, hb⟩
          obtain ⟨A2, c2, rfl, ha2⟩ : ∃ A2 c2, e = .returned (.tuple #[.agg (encC A2 c2 noC).toArray, .bool false]) ∧ ArgN w10 A2 c2 (noC : Cm).parents := by
            rcases hcase with ⟨x', A, c, h, -⟩ | ⟨h, he⟩
            · rw [← readC_refC, HRD.out] at h
              cases h
            · exact ⟨none, 0, he, argN_nil w10⟩
          have HB10 := Lib.hid (HB9.out.trans (hb.mono HB9.out.size))
          have HR10 := Lib.hid (HR9.out.below hb HR9.out.lt)
          have HA10 := Lib.hid (HA9.out.later hb)
          have HI10 := Lib.hid (HI9.out.below hb HI9.out.lt)
          have HA210 := Lib.hid ha2
          have HYI2 := Lib.hid (infoC_s A2 c2 noC)
          have HYO2 := Lib.hid (all_oneCell_toArray (encC_one A2 c2 noC))
          clear hb hcase ha2 HB9 HR9 HA9 HI9
          go_upto_region 15 with (refine wpList_store_whole rfl 55 _ _ rfl w10.heap.size (encC A2 c2 noC).toArray rfl rfl 55 _ (Whole.made w10 _ _) HYI2.out (by rw [encC_s]; kernel_rfl) HYO2.out ?_; intro w11 hWn hGn; have HJ11 := Lib.hid hWn; have HD11 := Lib.hid (made_below' hGn); clear hWn hGn)
          have HB11 := Lib.hid (HB10.out.trans (HD11.out.mono HB10.out.size))
          have HR11 := Lib.hid (HR10.out.below HD11.out HR10.out.lt)
          have HA11 := Lib.hid (HA10.out.later HD11.out)
          have HA211 := Lib.hid (HA210.out.later HD11.out)
          have HI11 := Lib.hid (HI10.out.below HD11.out HI10.out.lt)
          have HRI := Lib.hid (whole_range HI11.out)
          have HRJ := Lib.hid (whole_range HJ11.out)
          have HLI := Lib.hid (infoC_l A1 c1 noC)
          have HLJ := Lib.hid (infoC_l A2 c2 noC)
          clear HB10 HR10 HA10 HA210 HI10 HD11 HYI HYO HYI2 HYO2
          generalize w8.heap.size = g1 at *
          generalize w10.heap.size = g2 at *
          have hpl : (noC : Cm).parents.length ≤ 1048576 := by decide
          have heq := reqc_any A1 c1 A2 c2 noC noC w11 HA11.out HA211.out hpl
          rw [eqC_refl] at heq
          have HEQ := Lib.hid heq
          clear heq hpl
          go_wp2_with (first
            | (refine wpList_load_mid_on 55 _ rfl g1 0 rfl (by rfl) (encC A1 c1 noC) _ HRI.out Tryz.underlying55 rfl HLI.out ?_)
            | (refine wpList_load_mid_on 55 _ rfl g2 0 rfl (by rfl) (encC A2 c2 noC) _ HRJ.out Tryz.underlying55 rfl HLJ.out ?_))
          refine HEQ.out.mono ?_
          rintro e w12 ⟨rfl, hb⟩
          have HB12 := Lib.hid (HB11.out.trans (hb.mono HB11.out.size))
          have HR12 := Lib.hid (HR11.out.below hb HR11.out.lt)
          have HA12 := Lib.hid (HA11.out.later hb)
          have HI12 := Lib.hid (HI11.out.below hb HI11.out.lt)
          have HRI12 := Lib.hid (whole_range HI12.out)
          clear hb HB11 HR11 HA11 HI11 HRI HRJ HEQ
          have hput2 := cput_any A1 c1 noC w12 HA12.out (by decide)
          obtain ⟨T2, hT2⟩ : ∃ T2, T2 = if mayC noC then bytesC noC else [] := ⟨_, rfl⟩
          rw [← hT2] at hput2
          clear hT2
          have HP2 := Lib.hid hput2
          clear hput2
          generalize mayC noC = mz at *
          go_wp2_with (refine wpList_load_mid rfl 55 _ rfl g1 0 rfl (encC A1 c1 noC) _ HRI12.out Tryz.underlying55 rfl HLI.out ?_)
          refine HP2.out.mono ?_
          rintro e w13 ⟨rfl, hb⟩
          have HB13 := Lib.hid (HB12.out.trans (hb.mono HB12.out.size))
          have HR13 := Lib.hid (HR12.out.below hb HR12.out.lt)
          clear hb
          go_wp2
          go_roundg (3 - (i + 1))
          case measure => omega
          case rel => exact ⟨i + 1, by omega, Nat.le_refl _, by go_num, HB13, HR13⟩
        | some x1 =>
          have HRD := Lib.hid hrd
          clear hrd
          go_wp2_with fail
          refine (cget_any t wr (by omega)).mono ?_
          rintro e w8 ⟨hcase, hb⟩
          obtain ⟨A1, c1, rfl, ha1⟩ : ∃ A1 c1, e = .returned (.tuple #[.agg (encC A1 c1 x1).toArray, .int .i64 0]) ∧ ArgN w8 A1 c1 (x1 : Cm).parents := by
            rcases hcase with ⟨x', A, c, h, he, ha, -⟩ | ⟨h, -⟩
            · rw [HRD.out] at h
              injection h with h
              subst h
              exact ⟨A, c, he, ha⟩
            · rw [HRD.out] at h
              cases h
          have HB8 := Lib.hid (hbw.out.trans (hb.mono hbw.out.size))
          have HR8 := Lib.hid (hrow.out.below hb hrt)
          have HA8 := Lib.hid ha1
          have HYI := Lib.hid (infoC_s A1 c1 x1)
          have HYO := Lib.hid (all_oneCell_toArray (encC_one A1 c1 x1))
          clear hb hcase ha1 hcell
          go_wp2_with (refine wpList_store_whole rfl 55 _ _ rfl w8.heap.size (encC A1 c1 x1).toArray rfl rfl 55 _ (Whole.made w8 _ _) HYI.out (by rw [encC_s]; kernel_rfl) HYO.out ?_; intro w9 hWn hGn; have HI9 := Lib.hid hWn; have HD9 := Lib.hid (made_below' hGn); clear hWn hGn)
          have HB9 := Lib.hid (HB8.out.trans (HD9.out.mono HB8.out.size))
          have HR9 := Lib.hid (HR8.out.below HD9.out HR8.out.lt)
          have HA9 := Lib.hid (HA8.out.later HD9.out)
          clear HB8 HR8 HA8 HD9
          refine (rgetc_any t w9 (by omega)).mono ?_
          rintro e w10 ⟨hcase, hb⟩
          obtain ⟨A2, c2, rfl, ha2⟩ : ∃ A2 c2, e = .returned (.tuple #[.agg (encC A2 c2 x1).toArray, .bool true]) ∧ ArgN w10 A2 c2 (x1 : Cm).parents := by
            rcases hcase with ⟨x', A, c, h, he, ha⟩ | ⟨h, -⟩
            · rw [← readC_refC, HRD.out] at h
              injection h with h
              subst h
              exact ⟨A, c, he, ha⟩
            · rw [← readC_refC, HRD.out] at h
              cases h
          have HB10 := Lib.hid (HB9.out.trans (hb.mono HB9.out.size))
          have HR10 := Lib.hid (HR9.out.below hb HR9.out.lt)
          have HA10 := Lib.hid (HA9.out.later hb)
          have HI10 := Lib.hid (HI9.out.below hb HI9.out.lt)
          have HA210 := Lib.hid ha2
          have HYI2 := Lib.hid (infoC_s A2 c2 x1)
          have HYO2 := Lib.hid (all_oneCell_toArray (encC_one A2 c2 x1))
          clear hb hcase ha2 HB9 HR9 HA9 HI9
          go_upto_region 15 with (refine wpList_store_whole rfl 55 _ _ rfl w10.heap.size (encC A2 c2 x1).toArray rfl rfl 55 _ (Whole.made w10 _ _) HYI2.out (by rw [encC_s]; kernel_rfl) HYO2.out ?_; intro w11 hWn hGn; have HJ11 := Lib.hid hWn; have HD11 := Lib.hid (made_below' hGn); clear hWn hGn)
          have HB11 := Lib.hid (HB10.out.trans (HD11.out.mono HB10.out.size))
          have HR11 := Lib.hid (HR10.out.below HD11.out HR10.out.lt)
          have HA11 := Lib.hid (HA10.out.later HD11.out)
          have HA211 := Lib.hid (HA210.out.later HD11.out)
          have HI11 := Lib.hid (HI10.out.below HD11.out HI10.out.lt)
          have HRI := Lib.hid (whole_range HI11.out)
          have HRJ := Lib.hid (whole_range HJ11.out)
          have HLI := Lib.hid (infoC_l A1 c1 x1)
          have HLJ := Lib.hid (infoC_l A2 c2 x1)
          clear HB10 HR10 HA10 HA210 HI10 HD11 HYI HYO HYI2 HYO2
          generalize w8.heap.size = g1 at *
          generalize w10.heap.size = g2 at *
          have hpl : (x1 : Cm).parents.length ≤ 1048576 := by have := parents_le (readC_may t x1 HRD.out); omega
          have heq := reqc_any A1 c1 A2 c2 x1 x1 w11 HA11.out HA211.out hpl
          rw [eqC_refl] at heq
          have HEQ := Lib.hid heq
          clear heq hpl
          go_wp2_with (first
            | (refine wpList_load_mid_on 55 _ rfl g1 0 rfl (by rfl) (encC A1 c1 x1) _ HRI.out Tryz.underlying55 rfl HLI.out ?_)
            | (refine wpList_load_mid_on 55 _ rfl g2 0 rfl (by rfl) (encC A2 c2 x1) _ HRJ.out Tryz.underlying55 rfl HLJ.out ?_))
          refine HEQ.out.mono ?_
          rintro e w12 ⟨rfl, hb⟩
          have HB12 := Lib.hid (HB11.out.trans (hb.mono HB11.out.size))
          have HR12 := Lib.hid (HR11.out.below hb HR11.out.lt)
          have HA12 := Lib.hid (HA11.out.later hb)
          have HI12 := Lib.hid (HI11.out.below hb HI11.out.lt)
          have HRI12 := Lib.hid (whole_range HI12.out)
          clear hb HB11 HR11 HA11 HI11 HRI HRJ HEQ
          have hput2 := cput_any A1 c1 x1 w12 HA12.out (readC_enc t x1 HRD.out).2.2
          rw [(readC_enc t x1 HRD.out).2.1, if_pos rfl, (readC_enc t x1 HRD.out).1] at hput2
          have HP2 := Lib.hid hput2
          clear hput2
          go_wp2_with (refine wpList_load_mid rfl 55 _ rfl g1 0 rfl (encC A1 c1 x1) _ HRI12.out Tryz.underlying55 rfl HLI.out ?_)
          refine HP2.out.mono ?_
          rintro e w13 ⟨rfl, hb⟩
          have HB13 := Lib.hid (HB12.out.trans (hb.mono HB12.out.size))
          have HR13 := Lib.hid (HR12.out.below hb HR12.out.lt)
          clear hb
          go_wp2
          go_roundg (3 - (i + 1))
          case measure => omega
          case rel => exact ⟨i + 1, by omega, Nat.le_refl _, by go_num, HB13, HR13⟩
      · obtain rfl : i = 3 := by omega
        go_wp2
        go_ret
        exact ⟨rfl, hbw.out⟩
end Go.Proofs.YtacmdpfidakkkaaGreatDoor

/-
  TreeTurn, walked.
-/
import Derived.Test.YtacmdpfidakkkaaGreatDoorBegS
import Derived.Test.YtacmdpfidakkkaaGreatDoorHeldK
import Derived.Test.YtacmdpfidakkkaaGreatDoorLEnt
import Derived.Test.YtacmdpfidakkkaaGreatDoorMhi
import Derived.Test.YtacmdpfidakkkaaGreatDoorMgr
import Derived.Test.YtacmdpfidakkkaaGreatDoorTurN
import Derived.IntWalk
namespace Go.Proofs.YtacmdpfidakkkaaGreatDoor
open Go.RowKit

theorem okName_le (s : List UInt8) (h : okName s = true) : s.length ≤ 20 := by
  simp only [okName, Bool.and_eq_true, decide_eq_true_eq] at h
  exact h.1.1.1.2
theorem mayT_names (es : List En) (h : mayT es = true) : es.length ≤ 20 ∧ ∀ e ∈ es, e.name.length ≤ 20 := by
  simp only [mayT, Bool.and_eq_true, decide_eq_true_eq] at h
  refine ⟨h.1, fun e he => ?_⟩
  obtain ⟨j, hj, rfl⟩ := List.mem_iff_getElem.1 he
  have := risesTo_at es h.2 hj
  simp only [okAt, Bool.and_eq_true] at this
  have e2 : (es.getD j default) = es[j] := by simp [List.getD, List.getElem?_eq_getElem hj]
  rw [e2] at this
  exact okName_le _ this.1
theorem encT_le : ∀ (es : List En), (∀ e ∈ es, e.name.length ≤ 20) → (encT es).length ≤ es.length * 55
  | [], _ => by simp [encT]
  | e :: es, h => by
    have ih := encT_le es (fun x hx => h x (by simp [hx]))
    have h1 := h e (by simp)
    have h2 := bytesE_len e
    rw [show encT (e :: es) = bytesE e ++ encT es from rfl, List.length_append, List.length_cons]
    omega
theorem mayT_bytes (es : List En) (h : mayT es = true) : (encT es).length ≤ 1100 := by
  obtain ⟨h1, h2⟩ := mayT_names es h
  have := encT_le es h2
  omega
set_option maxRecDepth 100000 in
set_option maxHeartbeats 8000000 in
theorem ttur_any (A : Option Addr) (c : Nat) (es : List En) (at_ : Int) (b : UInt8) (w : World) (hE : Env w) (hT : Tens w) (hA : ArgE w A c es) (_ : ∀ e ∈ es, e.name.length ≤ maxLen) (ha1 : -9223372036854775808 ≤ at_) (ha2 : at_ ≤ 9223372036854775807) :
    Calls Tryz.prog 4 #[.slice A es.length c, .int .i64 at_, .int .u8 (b.toNat : Int)] w fun e w' => e = .returned (.bool true) ∧ Below w.heap.size w w' := by
  have HE := Lib.hid hE
  have HT := Lib.hid hT
  have HA := Lib.hid hA
  have hlc := hA.1
  clear hE hT hA
  obtain ⟨m, hm, hm1, hm20⟩ : ∃ m, m = min es.length 20 ∧ m ≤ es.length ∧ m ≤ 20 := ⟨_, rfl, Nat.min_le_left _ _, Nat.min_le_right _ _⟩
  have hmin : ∀ W, (Builtin.min_ #[3, 3] 3 #[.int .i64 (es.length : Int), .int .i64 20]).run Tryz.prog W = .ok (.int .i64 (m : Int)) W := by
    intro W
    rw [run_min_int2]
    congr 2
    split <;> omega
  have hsl := slice_toM (P := Tryz.prog) (A := A) (c := c) 22 42 es.length m Tryz.underlying22 (by kernel_rfl) (by omega)
  clear hm
  go_enter Tryz.func4, Tryz.ntmps4
  go_wp2_with fail
  refine (begun6_any w HE.out HT.out).mono ?_
  rintro e w1 ⟨rfl, hb⟩
  have HB1 := Lib.hid hb
  have HA1 := Lib.hid ((HA.out.below hb (fun b hb h0 => HA.out.lt hb h0)).take m)
  clear hb HA
  obtain ⟨l, hl⟩ : ∃ l, l = es.take m := ⟨_, rfl⟩
  have hll : l.length = m := by rw [hl, List.length_take]; omega
  rw [← hl] at HA1
  have hput := tput_any A c l w1 HA1.out (by omega)
  rw [hll] at hput
  have HPUT := Lib.hid hput
  clear hput hl hll
  go_wp2_with fail
  refine HPUT.out.mono ?_
  rintro e w2 ⟨rfl, hb⟩
  have HB2 := Lib.hid (HB1.out.trans (hb.mono HB1.out.size))
  clear hb HPUT
  cases hmay : mayT l with
  | false =>
    rw [if_neg (by decide)]
    go_wp2
    go_ret
    exact ⟨rfl, HB2.out⟩
  | true =>
    rw [if_pos rfl]
    have hT9 := mayT_bytes l hmay
    generalize encT l = T at *
    by_cases hT0 : T = []
    · subst hT0
      go_wp2
      go_ret
      exact ⟨rfl, HB2.out⟩
    have hTb : (T == []) = false := by simp [hT0]
    have hTp : 0 < T.length := by cases T with
      | nil => exact absurd rfl hT0
      | cons _ _ => simp
    clear hT0
    by_cases hneg : at_ < 0
    · have hd : decide (at_ < 0) = true := by simp; omega
      go_wp2
      go_ret
      exact ⟨rfl, HB2.out⟩
    have hd : decide (at_ < 0) = false := by simp; omega
    have hk2 : at_.toNat % T.length < T.length := Nat.mod_lt _ hTp
    have hmm : at_.tmod (T.length : Int) = ((at_.toNat % T.length : Nat) : Int) := by
      rw [Int.tmod_eq_emod_of_nonneg (by omega), Int.natCast_emod, Int.toNat_of_nonneg (by omega)]
    have hTn : ((T.length : Int) == 0) = false := by rw [beq_eq_false_iff_ne]; omega
    clear hneg
    generalize at_.toNat % T.length = k at *
    have hi1 : (k : Int) < (T.length : Int) := by omega
    have hbb : b.toNat < 256 := b.toNat_lt
    go_wp2_with (refine wpList_of_string rfl 9 46 5 _ rfl ⟨T.toArray⟩ T rfl rfl Tryz.underlying9 Tryz.underlying46 Tryz.underlying5 (by unfold maxLen; omega) ?_; intro w3 cp hby hzz hbe hsz; have HBY := Lib.hid hby; have HZ := Lib.hid hzz; have HBE := Lib.hid hbe; have hci := Bytes.cellAt hby (show k < T.length by omega); have hzi := hzz k (by omega); rw [Nat.zero_add] at hci; clear hby hzz hbe)
    have hby4 := bytes_put HBY.out k hk2 b
    have HB4 := Lib.hid ((HB2.out.trans (HBE.out.mono HB2.out.size)).setCell (p := ⟨w2.heap.size, k, none⟩) HB2.out.size (.int .u8 (b.toNat : Int)))
    generalize w3.setCell ⟨w2.heap.size, k, none⟩ (.int .u8 (b.toNat : Int)) = w4 at *
    have HCV : Hid (∀ W, Below w4.heap.size w4 W → (convert 46 9 (.slice (some ⟨w2.heap.size, 0, none⟩) T.length cp)).run Tryz.prog W = .ok (.string ⟨(T.set k b).toArray⟩) W) := fun W hW => bytes_str 46 9 5 Tryz.underlying46 Tryz.underlying5 Tryz.underlying9 (hby4.below hW (Nat.le_refl _))
    have HK1 : Hid (IntKind.i64.wrap ((k : Int) + 1) = (k : Int) + 1) := IntWalk.i64_in _ (by omega)
    have HAP : Hid (∀ x y : List UInt8, (ByteArray.mk x.toArray) ++ (ByteArray.mk y.toArray) = ByteArray.mk (x ++ y).toArray) := ba_append'
    have HTO := Lib.hid (str_to T k (by omega))
    have HFR := Lib.hid (str_from T k (by omega))
    have HFR1 : Hid (∀ W, (Instr.slice 9 (.string ⟨T.toArray⟩) (some (.int .i64 ((k : Int) + 1))) none none).run Tryz.prog W = .ok (.string ⟨(T.drop (k + 1)).toArray⟩) W) := fun W => str_from T (k + 1) (by omega) W
    clear hby4 HBY HZ HBE hci hzi hsz HB1
    refine wp_region_K (fun W => Below w4.heap.size w4 W) 21 (by kernel_rfl) ?_
    change wpAnyK _ _ _ _ _ _ _ _ _ (World.drew w4)
    have hS0 : Below w4.heap.size w4 (World.drew w4) := (Below.refl _ _).drew
    generalize World.drew w4 = w5 at *
    refine wpAnyK_take0 (i := 0) (oi := { dst := some 52, op := _, type := _, pos := _, after := _, guard := none }) (v := .slice (some ⟨w2.heap.size, 0, none⟩) T.length cp) rfl (by kernel_rfl) (fun _ _ _ h => h) (Or.inl ⟨by rfl, fun W hW => ?_⟩) (fun _ => hS0) ?_
    · go_simp
    refine wpAnyK_take (i := 1) (oi := { dst := some 53, op := _, type := _, pos := _, after := _, guard := none }) (v := .string ⟨(T.set k b).toArray⟩) rfl (by kernel_rfl) (fun _ _ _ h => h) (Or.inl ⟨by rfl, fun W hW => ?_⟩) hS0 ?_
    · have hcvW := HCV.out W hW
      go_simp
    refine wpAnyK_take0 (i := 2) (oi := { dst := some 54, op := _, type := _, pos := _, after := _, guard := none }) (v := .string ⟨T.toArray⟩) rfl (by kernel_rfl) (fun _ _ _ h => h) (Or.inl ⟨by rfl, fun W hW => ?_⟩) (fun _ => hS0) ?_
    · go_simp
    refine wpAnyK_take0 (i := 3) (oi := { dst := some 55, op := _, type := _, pos := _, after := _, guard := none }) (v := .int .i64 (k : Int)) rfl (by kernel_rfl) (fun _ _ _ h => h) (Or.inl ⟨by rfl, fun W hW => ?_⟩) (fun _ => hS0) ?_
    · go_simp
    refine wpAnyK_take0 (i := 4) (oi := { dst := some 56, op := _, type := _, pos := _, after := _, guard := none }) (v := .string ⟨(T.take k).toArray⟩) rfl (by kernel_rfl) (fun _ _ _ h => h) (Or.inl ⟨by rfl, fun W hW => ?_⟩) (fun _ => hS0) ?_
    · have h9 := HTO.out W
      go_simp
    refine wpAnyK_take0 (i := 5) (oi := { dst := some 57, op := _, type := _, pos := _, after := _, guard := none }) (v := .string ⟨T.toArray⟩) rfl (by kernel_rfl) (fun _ _ _ h => h) (Or.inl ⟨by rfl, fun W hW => ?_⟩) (fun _ => hS0) ?_
    · go_simp
    refine wpAnyK_take0 (i := 6) (oi := { dst := some 58, op := _, type := _, pos := _, after := _, guard := none }) (v := .int .i64 (k : Int)) rfl (by kernel_rfl) (fun _ _ _ h => h) (Or.inl ⟨by rfl, fun W hW => ?_⟩) (fun _ => hS0) ?_
    · go_simp
    refine wpAnyK_take0 (i := 7) (oi := { dst := some 59, op := _, type := _, pos := _, after := _, guard := none }) (v := .int .i64 ((k : Int) + 1)) rfl (by kernel_rfl) (fun _ _ _ h => h) (Or.inl ⟨by rfl, fun W hW => ?_⟩) (fun _ => hS0) ?_
    · have h8 := HK1.out
      go_simp
    refine wpAnyK_take0 (i := 8) (oi := { dst := some 60, op := _, type := _, pos := _, after := _, guard := none }) (v := .string ⟨(T.drop (k + 1)).toArray⟩) rfl (by kernel_rfl) (fun _ _ _ h => h) (Or.inl ⟨by rfl, fun W hW => ?_⟩) (fun _ => hS0) ?_
    · have h9 := HFR1.out W
      go_simp
    refine wpAnyK_take0 (i := 9) (oi := { dst := some 61, op := _, type := _, pos := _, after := _, guard := none }) (v := .string ⟨(T.take k ++ T.drop (k + 1)).toArray⟩) rfl (by kernel_rfl) (fun _ _ _ h => h) (Or.inl ⟨by rfl, fun W hW => ?_⟩) (fun _ => hS0) ?_
    · have h7 : ¬ (9223372036854775807 < min k T.length + (T.length - (k + 1))) := by omega
      have h8 := HAP.out (T.take k) (T.drop (k + 1))
      go_simp
    refine wpAnyK_take0 (i := 10) (oi := { dst := some 62, op := _, type := _, pos := _, after := _, guard := none }) (v := .string ⟨T.toArray⟩) rfl (by kernel_rfl) (fun _ _ _ h => h) (Or.inl ⟨by rfl, fun W hW => ?_⟩) (fun _ => hS0) ?_
    · go_simp
    refine wpAnyK_take0 (i := 11) (oi := { dst := some 63, op := _, type := _, pos := _, after := _, guard := none }) (v := .int .i64 (k : Int)) rfl (by kernel_rfl) (fun _ _ _ h => h) (Or.inl ⟨by rfl, fun W hW => ?_⟩) (fun _ => hS0) ?_
    · go_simp
    refine wpAnyK_take0 (i := 12) (oi := { dst := some 64, op := _, type := _, pos := _, after := _, guard := none }) (v := .string ⟨(T.take k).toArray⟩) rfl (by kernel_rfl) (fun _ _ _ h => h) (Or.inl ⟨by rfl, fun W hW => ?_⟩) (fun _ => hS0) ?_
    · have h9 := HTO.out W
      go_simp
    refine wpAnyK_take0 (i := 13) (oi := { dst := some 65, op := _, type := _, pos := _, after := _, guard := none }) (v := .int .u8 (b.toNat : Int)) rfl (by kernel_rfl) (fun _ _ _ h => h) (Or.inl ⟨by rfl, fun W hW => ?_⟩) (fun _ => hS0) ?_
    · go_simp
    refine wpAnyK_take0 (i := 17) (oi := { dst := some 69, op := _, type := _, pos := _, after := _, guard := none }) (v := .string ⟨T.toArray⟩) rfl (by kernel_rfl) (fun _ _ _ h => h) (Or.inl ⟨by rfl, fun W hW => ?_⟩) (fun _ => hS0) ?_
    · go_simp
    refine wpAnyK_take0 (i := 18) (oi := { dst := some 70, op := _, type := _, pos := _, after := _, guard := none }) (v := .int .i64 (k : Int)) rfl (by kernel_rfl) (fun _ _ _ h => h) (Or.inl ⟨by rfl, fun W hW => ?_⟩) (fun _ => hS0) ?_
    · go_simp
    refine wpAnyK_take0 (i := 19) (oi := { dst := some 71, op := _, type := _, pos := _, after := _, guard := none }) (v := .string ⟨(T.drop k).toArray⟩) rfl (by kernel_rfl) (fun _ _ _ h => h) (Or.inl ⟨by rfl, fun W hW => ?_⟩) (fun _ => hS0) ?_
    · have h9 := HFR.out W
      go_simp
    refine wpAnyK_take0 (i := 23) (oi := { dst := some 75, op := _, type := _, pos := _, after := _, guard := none }) (v := .int .i64 0) rfl (by kernel_rfl) (fun _ _ _ h => h) (Or.inl ⟨by rfl, fun W hW => ?_⟩) (fun _ => hS0) ?_
    · go_simp
    simp only [Act.put]
    go_simp
    refine wpAnyK_ready (rs := [14]) (by kernel_rfl) (by simp) ?_
    refine AllReadyK.cons (o := _) rfl (fun K hK => ?_) AllReadyK.nil
    rw [if_pos (by rfl)]
    go_simp
    have hS1 := hS0.alloc (hS0.size) (.cells #[.int .u8 (b.toNat : Int)] 5)
    refine hK _ _ (fun _ => hS1) ?_
    clear hK K
    have h9 := str_one b _ rfl w5
    refine wpAnyK_ready (rs := [15]) (by kernel_rfl) (by simp) ?_
    refine AllReadyK.cons (o := _) rfl (fun K hK => ?_) AllReadyK.nil
    rw [if_pos (by rfl)]
    go_simp
    refine hK _ _ (fun _ => hS1) ?_
    clear hK K h9
    generalize w5.alloc (.cells #[.int .u8 (b.toNat : Int)] 5) = w6 at *
    have h7 : ¬ (9223372036854775807 < min k T.length + 1) := by omega
    have h8 := HAP.out (T.take k) [b]
    refine wpAnyK_ready (rs := [16]) (by kernel_rfl) (by simp) ?_
    refine AllReadyK.cons (o := _) rfl (fun K hK => ?_) AllReadyK.nil
    rw [if_pos (by rfl)]
    go_simp
    refine hK _ _ (fun _ => hS1) ?_
    clear hK K h7 h8
    have h7 : ¬ (9223372036854775807 < min k T.length + 1 + (T.length - k)) := by omega
    have h8 := HAP.out (T.take k ++ [b]) (T.drop k)
    refine wpAnyK_ready (rs := [20]) (by kernel_rfl) (by simp) ?_
    refine AllReadyK.cons (o := _) rfl (fun K hK => ?_) AllReadyK.nil
    rw [if_pos (by rfl)]
    go_simp
    refine hK _ _ (fun _ => hS1) ?_
    clear hK K h7 h8
    refine wpAnyK_ready (rs := [21]) (by kernel_rfl) (by simp) ?_
    refine AllReadyK.cons (o := _) rfl (fun K hK => ?_) AllReadyK.nil
    rw [if_pos (by rfl)]
    go_simp
    refine hK _ _ (fun h => by cases h) ?_
    clear hK K
    have HB6 := Lib.hid (HB4.out.trans (hS1.mono HB4.out.size))
    have HRW : Hid (Whole (w6.alloc (.cells #[.string ⟨(T.set k b).toArray⟩, .string ⟨(T.take k ++ T.drop (k + 1)).toArray⟩, .string ⟨(T.take k ++ b :: T.drop k).toArray⟩] 9)) w6.heap.size 9 ((turns T k b).map S1).toArray) := Whole.made w6 9 _
    have HB7 := Lib.hid (HB6.out.alloc HB6.out.size (.cells #[.string ⟨(T.set k b).toArray⟩, .string ⟨(T.take k ++ T.drop (k + 1)).toArray⟩, .string ⟨(T.take k ++ b :: T.drop k).toArray⟩] 9))
    generalize w6.alloc (.cells #[.string ⟨(T.set k b).toArray⟩, .string ⟨(T.take k ++ T.drop (k + 1)).toArray⟩, .string ⟨(T.take k ++ b :: T.drop k).toArray⟩] 9) = w7 at *
    refine wpAnyK_ready (rs := [22]) (by kernel_rfl) (by simp) ?_
    refine AllReadyK.cons (o := _) rfl (fun K hK => ?_) AllReadyK.nil
    rw [if_pos (by rfl)]
    go_simp
    refine hK _ _ (fun h => by cases h) ?_
    clear hK K
    refine wpAnyK_done (by kernel_rfl) ?_ _
    have hTL := turns_len T k b
    clear hS0 hS1 HTO HFR HFR1 HAP HK1 HCV hbb hi1 hmm hd ha1 ha2 hTb hTn
    obtain ⟨ts, hts0⟩ : ∃ ts, ts = turns T k b := ⟨_, rfl⟩
    rw [← hts0] at HRW hTL
    have hts : ts.length = 3 := by rw [hts0]; rfl
    have HTS := Lib.hid hts
    clear hts hts0
    generalize w6.heap.size = g at *
    generalize List.set T k b = t0 at *
    generalize (T.take k ++ T.drop (k + 1)) = t1 at *
    generalize (T.take k ++ b :: T.drop k) = t2 at *
    go_wp2
    go_loopg [13, 14, 15, 16, 17, 18, 19, 75] 3 (fun g0 _ _ _ _ _ _ _ s75 wr => ∃ i : Nat, i ≤ 3 ∧ 3 - i ≤ g0 ∧ s75 = .int .i64 i ∧ Hid (Below w.heap.size w wr) ∧ Hid (Whole wr g 9 (ts.map S1).toArray))
    case atStart => exact ⟨0, by omega, by omega, rfl, HB7, HRW⟩
    case round =>
      rename World => wr
      obtain ⟨i, hi3, hg, rfl, hbw, hrow⟩ := hrel
      by_cases hlt : i < 3
      · have hlt' : (i : Int) < 3 := by omega
        have hcell : wr.cell? ⟨g, i, none⟩ = some (.string ⟨(ts.getD i []).toArray⟩) := by
          rw [hrow.out.at_, List.getElem?_toArray, List.getElem?_map]
          have := HTS.out
          simp [List.getD, List.getElem?_eq_getElem (show i < ts.length by omega), S1]
        have htl := hTL i
        have HTL := Lib.hid hTL
        clear hTL
        generalize ts.getD i [] = t at *
        have hrt := hrow.out.lt
        go_wp2_with fail
        refine (tget_any t wr (by omega)).mono ?_
        rintro e w8 ⟨hcase, hb⟩
        have HB8 := Lib.hid (hbw.out.trans (hb.mono hbw.out.size))
        have HR8 := Lib.hid (hrow.out.below hb hrt)
        clear hb hcell
        rcases hcase with ⟨es1, A1, c1, hg1, rfl, ha1, -⟩ | ⟨hg1, rfl⟩
        · have HG1 := Lib.hid hg1
          have HA8 := Lib.hid ha1
          clear hg1 ha1
          go_wp2_with fail
          refine (rgett_any t w8 (by omega)).mono ?_
          rintro e w9 ⟨(⟨es2, A2, c2, hg2, rfl, ha2⟩ | ⟨hg2, -⟩), hb⟩
          case inr =>
            rw [HG1.out] at hg2
            cases hg2
          obtain rfl : es1 = es2 := by have := HG1.out.symm.trans hg2; injection this
          have HB9 := Lib.hid (HB8.out.trans (hb.mono HB8.out.size))
          have HR9 := Lib.hid (HR8.out.below hb HR8.out.lt)
          have HA9 := Lib.hid (HA8.out.later hb)
          have HA2 := Lib.hid ha2
          have hen := getT_enc t es1 HG1.out
          have hmm := (mayT_names es1 hen.2).1
          have hlents := lents_any A1 c1 A2 c2 es1 es1 w9 HA9.out HA2.out
          rw [show decide (es1 = es1) = true from decide_eq_true rfl] at hlents
          have HLE := Lib.hid hlents
          have HEN := Lib.hid hen
          clear hb hg2 ha2 hlents hen
          go_wp2_with (first
            | (go_at_call 24; refine HLE.out.mono ?_; rintro e w10 ⟨rfl, q, hq⟩; have HQ := Lib.hid hq; clear hq))
          have HB10 : Hid (Below w.heap.size w w10) := by show Below _ _ _; rw [HQ.out]; exact be_drewN HB9.out q
          have HR10 : Hid (Whole w10 g 9 (ts.map S1).toArray) := by show Whole _ _ _ _; rw [HQ.out]; exact HR9.out
          have HA10 : Hid (ArgE w10 A1 c1 es1) := by show ArgE _ _ _ _; rw [HQ.out]; exact HA9.out.later (be_drewN (Below.refl _ _) q)
          have hput2 := tput_any A1 c1 es1 w10 HA10.out (by omega)
          rw [HEN.out.2, if_pos rfl, HEN.out.1] at hput2
          have HP2 := Lib.hid hput2
          clear hput2
          refine HP2.out.mono ?_
          rintro e w11 ⟨rfl, hb⟩
          have HB11 := Lib.hid (HB10.out.trans (hb.mono HB10.out.size))
          have HR11 := Lib.hid (HR10.out.below hb HR10.out.lt)
          clear hb
          go_wp2
          go_roundg (3 - (i + 1))
          case measure => omega
          case rel => exact ⟨i + 1, by omega, Nat.le_refl _, by go_num, HB11, HR11⟩
        · have HG1 := Lib.hid hg1
          clear hg1
          go_wp2_with fail
          refine (rgett_any t w8 (by omega)).mono ?_
          rintro e w9 ⟨(⟨es2, A2, c2, hg2, -, -⟩ | ⟨hg2, rfl⟩), hb⟩
          case inl =>
            rw [HG1.out] at hg2
            cases hg2
          have HB9 := Lib.hid (HB8.out.trans (hb.mono HB8.out.size))
          have HR9 := Lib.hid (HR8.out.below hb HR8.out.lt)
          have hnil : ArgE w9 none 0 [] := ⟨Nat.le_refl _, Nat.zero_le _, fun _ => rfl, fun h => absurd h (Nat.lt_irrefl _)⟩
          have HLE := Lib.hid (lents_any none 0 none 0 [] [] w9 hnil hnil)
          clear hb hg2 hnil
          go_wp2_with (first
            | (go_at_call 24; refine HLE.out.mono ?_; rintro e w10 ⟨rfl, q, hq⟩; have HQ := Lib.hid hq; clear hq))
          have HB10 : Hid (Below w.heap.size w w10) := by show Below _ _ _; rw [HQ.out]; exact be_drewN HB9.out q
          have HR10 : Hid (Whole w10 g 9 (ts.map S1).toArray) := by show Whole _ _ _ _; rw [HQ.out]; exact HR9.out
          have hput2 := tput_any none 0 [] w10 ⟨Nat.le_refl _, Nat.zero_le _, fun _ => rfl, fun h => absurd h (Nat.lt_irrefl _)⟩ (by simp)
          have HP2 := Lib.hid hput2
          clear hput2
          refine HP2.out.mono ?_
          rintro e w11 ⟨rfl, hb⟩
          have HB11 := Lib.hid (HB10.out.trans (hb.mono HB10.out.size))
          have HR11 := Lib.hid (HR10.out.below hb HR10.out.lt)
          clear hb
          go_wp2
          go_roundg (3 - (i + 1))
          case measure => omega
          case rel => exact ⟨i + 1, by omega, Nat.le_refl _, by go_num, HB11, HR11⟩
      · obtain rfl : i = 3 := by omega
        go_wp2
        go_ret
        exact ⟨rfl, hbw.out⟩
end Go.Proofs.YtacmdpfidakkkaaGreatDoor

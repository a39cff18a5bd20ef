/-
  ObjectBig, walked.
-/
import Derived.Test.YtdmafodppcbglaaGreatDoorONone
import Derived.Test.YtdmafodppcbglaaGreatDoorMake
namespace Go.Proofs.YtdmafodppcbglaaGreatDoor
open Go.RowKit

theorem ob_len (n0 : Int) : ∃ m : Nat, 990 ≤ m ∧ m ≤ 1009 ∧ wrap64 (990 + (wrap64 (n0.tmod 20 + 20)).tmod 20) = (m : Int) := by
  have h1 := Int.tmod_lt_of_pos n0 (show (0 : Int) < 20 by decide)
  have h2 := Int.lt_tmod_of_pos n0 (show (0 : Int) < 20 by decide)
  generalize n0.tmod 20 = x at *
  have e : wrap64 (x + 20) = x + 20 := by unfold wrap64; omega
  rw [e]
  have e2 : (x + 20).tmod 20 = (x + 20) % 20 := Int.tmod_eq_emod_of_nonneg (by omega)
  rw [e2]
  exact ⟨(990 + (x + 20) % 20).toNat, by omega, by omega, by unfold wrap64; omega⟩
def oG (l : List UInt8) : Ob := ⟨1, l, [], noC⟩
theorem oG_may (l : List UInt8) : mayO' (oG l) = decide (l.length ≤ 1000) := by
  unfold mayO' oG
  have h : eqO ⟨1, l, [], noC⟩ (bareO ⟨1, l, [], noC⟩) = true := by
    show eqO ⟨1, l, [], noC⟩ ⟨1, l, [], noC⟩ = true
    simp [eqO, eqC]
  rw [h, Bool.and_true]
  rfl
theorem og_put (l : List UInt8) (w : World) : Calls Tryz.prog 40 #[.agg #[Value.int IntKind.i64 1, Value.string ⟨l.toArray⟩, Value.slice none 0 0, Value.int IntKind.u8 0, Value.int IntKind.u8 0, Value.int IntKind.u8 0, Value.int IntKind.u8 0, Value.int IntKind.u8 0, Value.int IntKind.u8 0, Value.int IntKind.u8 0, Value.int IntKind.u8 0, Value.int IntKind.u8 0, Value.int IntKind.u8 0, Value.int IntKind.u8 0, Value.int IntKind.u8 0, Value.int IntKind.u8 0, Value.int IntKind.u8 0, Value.int IntKind.u8 0, Value.int IntKind.u8 0, Value.int IntKind.u8 0, Value.int IntKind.u8 0, Value.int IntKind.u8 0, Value.int IntKind.u8 0, Value.int IntKind.u8 0, Value.int IntKind.u8 0, Value.int IntKind.u8 0, Value.int IntKind.u8 0, Value.int IntKind.u8 0, Value.int IntKind.u8 0, Value.int IntKind.u8 0, Value.int IntKind.u8 0, Value.int IntKind.u8 0, Value.int IntKind.u8 0, Value.int IntKind.u8 0, Value.int IntKind.u8 0, Value.slice none 0 0, Value.float FloatKind.f64 0, Value.string ⟨#[]⟩]] w fun e w' => e = .returned (.tuple #[.string ⟨(if l.length ≤ 1000 then l else []).toArray⟩, .bool (decide (l.length ≤ 1000))]) ∧ Below w.heap.size w w' := by
  have h := oput_any none 0 none 0 (oG l) w ⟨nilE w, nilN w⟩ (by show (0 : Nat) < _; decide) (by show (0 : Nat) ≤ _; decide)
  rw [oG_may] at h
  simp only [decide_eq_true_eq] at h
  exact h
theorem og_get (l : List UInt8) (w : World) (hl : l.length ≤ 1048576) : Calls Tryz.prog 36 #[.int .i64 1, .string ⟨l.toArray⟩] w fun e w' => (∃ A c A2 c2, e = .returned (.tuple #[.agg (encO A c A2 c2 (if l.length ≤ 1000 then oG l else zO)).toArray, .int .i64 (if l.length ≤ 1000 then 0 else 5)])) ∧ Below w.heap.size w w' := by
  refine (ogetO_any 1 l w hl).mono ?_
  rintro e w' ⟨⟨A, c, A2, c2, he, -⟩, hb⟩
  refine ⟨⟨A, c, A2, c2, he.trans ?_⟩, hb⟩
  have hg : getOb 1 l = (if l.length ≤ 1000 then (oG l, 0) else (zO, 5)) := rfl
  rw [hg]
  split <;> rfl
theorem oG_1 (A : Option Addr) (c : Nat) (A2 : Option Addr) (c2 : Nat) (l : List UInt8) : (encO A c A2 c2 (oG l)).toArray[1]? = some (.string ⟨l.toArray⟩) := encO_1 A c A2 c2 (oG l)
attribute [local irreducible] noC zO oG
set_option maxRecDepth 100000 in
set_option maxHeartbeats 4000000 in
theorem obig_any (n0 : Int) (c : UInt8) (w : World) (hE : Env w) (hT : Tens w) : Calls Tryz.prog 13 #[.int .i64 n0, .int .u8 (c.toNat : Int)] w fun e w' => e = .returned (.bool true) ∧ Below w.heap.size w w' := by
  have HE := Lib.hid hE
  have HT := Lib.hid hT
  clear hE hT
  obtain ⟨m, hm1, hm2, hmw⟩ := ob_len n0
  have hmk := make_bytes m (by omega)
  go_enter Tryz.func13, Tryz.ntmps13
  go_wp2_with fail
  refine (begun6_any w HE.out HT.out).mono ?_
  rintro e w1 ⟨rfl, hb⟩
  have HB := Lib.hid hb
  clear hb
  go_wp2_with fail
  have hW0 := Whole.made w1 5 (zcells m)
  have hBW := (Below.refl w1.heap.size w1).alloc (Nat.le_refl _) (.cells (zcells m) 5)
  generalize hWe : w1.alloc (.cells (zcells m) 5) = W at *
  have HR0 := Lib.hid (Row.of_whole (c := m) (bs := List.replicate m 0) (sp := []) hW0 (by simp) (by unfold maxLen; omega))
  have HBW := Lib.hid (HB.out.trans (hBW.mono HB.out.size))
  have hsW : w1.heap.size < W.heap.size := hW0.lt
  clear hW0 hBW hWe hmk
  go_loopw [7, 24] (fun _ i wr => ∃ k bs, k ≤ m ∧ bs.length = m ∧ i = .int .i64 ((k : Nat) : Int) ∧ Row wr (some ⟨w1.heap.size, 0, none⟩) m bs ∧ Alt (· = w1.heap.size) W wr) (fun _ i _ => m - (intOf i).toNat)
  case atStart => exact ⟨0, List.replicate m 0, by omega, by simp, rfl, HR0.out, Alt.refl _ _⟩
  case round =>
    obtain ⟨k, bs, hk, hlen, rfl, hrow, halt⟩ := hrel
    have HLEN := Lib.hid hlen
    have HROW := Lib.hid hrow
    have HALT := Lib.hid halt
    by_cases hlt : k < m
    · obtain ⟨g, hg, hgl, hc, hz, hput⟩ := hrow.at_ (show k < bs.length by omega)
      obtain rfl : w1.heap.size = g := by injection hg with hg; injection hg
      have HPUT := Lib.hid (hput c)
      have HV : Hid (Value.int .u8 (c.toNat : Int) = Y c) := rfl
      clear hlen hrow halt hg hput
      go_wp2
      rw [HV.out]
      go_roundw
      case rel => exact ⟨k + 1, bs.set k c, by omega, by rw [List.length_set]; exact HLEN.out, by go_num, HPUT.out, Alt.set (R := (· = w1.heap.size)) (p := ⟨w1.heap.size, k, none⟩) HALT.out (.inl rfl) _⟩
      case measure => simp [intOf]; omega
    · obtain rfl : k = m := by omega
      have HBR := Lib.hid (HBW.out.trans ((halt.to (B := w1.heap.size) (by intro j hj; omega) (by omega)).mono HB.out.size))
      have HCV : Hid (∀ W, Below wr.heap.size wr W → (convert 24 9 (.slice (some ⟨w1.heap.size, 0, none⟩) k k)).run Tryz.prog W = .ok (.string ⟨bs.toArray⟩) W) := by
        intro W hW
        have h2 := bytes_str (P := Tryz.prog) 24 9 5 Tryz.underlying24 Tryz.underlying5 Tryz.underlying9 (HROW.out.below hW).bytes
        rw [HLEN.out] at h2
        exact h2
      clear hrow halt
      by_cases h1000 : k ≤ 1000
      · skip
        have HPUT : Hid (∀ W, Calls Tryz.prog 40 #[.agg #[Value.int IntKind.i64 1, Value.string ⟨bs.toArray⟩, Value.slice none 0 0, Value.int IntKind.u8 0, Value.int IntKind.u8 0, Value.int IntKind.u8 0, Value.int IntKind.u8 0, Value.int IntKind.u8 0, Value.int IntKind.u8 0, Value.int IntKind.u8 0, Value.int IntKind.u8 0, Value.int IntKind.u8 0, Value.int IntKind.u8 0, Value.int IntKind.u8 0, Value.int IntKind.u8 0, Value.int IntKind.u8 0, Value.int IntKind.u8 0, Value.int IntKind.u8 0, Value.int IntKind.u8 0, Value.int IntKind.u8 0, Value.int IntKind.u8 0, Value.int IntKind.u8 0, Value.int IntKind.u8 0, Value.int IntKind.u8 0, Value.int IntKind.u8 0, Value.int IntKind.u8 0, Value.int IntKind.u8 0, Value.int IntKind.u8 0, Value.int IntKind.u8 0, Value.int IntKind.u8 0, Value.int IntKind.u8 0, Value.int IntKind.u8 0, Value.int IntKind.u8 0, Value.int IntKind.u8 0, Value.int IntKind.u8 0, Value.slice none 0 0, Value.float FloatKind.f64 0, Value.string ⟨#[]⟩]] W fun e w' => e = .returned (.tuple #[.string ⟨bs.toArray⟩, .bool true]) ∧ Below W.heap.size W w') := fun W => by
          have h := og_put bs W
          rw [if_pos (by omega), decide_eq_true (by omega)] at h
          exact h
        have HGET : Hid (∀ W, Calls Tryz.prog 36 #[.int .i64 1, .string ⟨bs.toArray⟩] W fun e w' => (∃ A c A2 c2, e = .returned (.tuple #[.agg (encO A c A2 c2 (oG bs)).toArray, .int .i64 0])) ∧ Below W.heap.size W w') := fun W => by
          have h := og_get bs W (by omega)
          rw [if_pos (by omega), if_pos (by omega)] at h
          exact h
        have q1 : decide (wrap64 (990 + (wrap64 (n0.tmod 20 + 20)).tmod 20) ≤ 1000) = true := by rw [hmw]; simp; omega
        have hc1 := HCV.out wr (Below.refl _ _)
        clear hlen hlt hk h1000 hm1 hm2 hmw
        go_wp2_with fail
        refine (HPUT.out wr).mono ?_
        rintro e w2 ⟨rfl, hb⟩
        have hc2 := HCV.out w2 hb
        have B2 := Lib.hid hb
        clear hb
        go_wp2_with fail
        refine (HGET.out w2).mono ?_
        rintro e v3 ⟨⟨A3, c3, B3, d3, rfl⟩, hb⟩
        have B3v := Lib.hid (B2.out.trans (hb.mono B2.out.size))
        clear hb
        go_upto_region 13 with (refine wpList_store_whole rfl 68 _ _ rfl v3.heap.size (encO A3 c3 B3 d3 (oG bs)).toArray rfl rfl 68 _ (Whole.made v3 _ _) (infoO_s _ _ _ _ _) (by rw [encO_s]; rfl) (encO_all _ _ _ _ _) ?_; intro w3 hWn hGn; have HW3 := Lib.hid hWn; have HG3 := Lib.hid hGn; clear hWn hGn)
        have hv : Below v3.heap.size v3 w3 := be_grown ((Below.refl v3.heap.size v3).alloc (Nat.le_refl _) _) HG3.out (by simp) (fun j hj => by injection hj with hj; omega)
        have B3' := Lib.hid (B3v.out.trans (hv.mono B3v.out.size))
        have hc3 := HCV.out w3 B3'.out
        clear hv HG3
        have e1 : w3.cell? ⟨v3.heap.size, 1, none⟩ = some (.string ⟨bs.toArray⟩) := (HW3.out.at_ 1).trans (oG_1 A3 c3 B3 d3 bs)
        go_wp2
        go_ret
        exact ⟨rfl, HBR.out.trans (B3'.out.mono HBR.out.size)⟩
      · skip
        have HPUT : Hid (∀ W, Calls Tryz.prog 40 #[.agg #[Value.int IntKind.i64 1, Value.string ⟨bs.toArray⟩, Value.slice none 0 0, Value.int IntKind.u8 0, Value.int IntKind.u8 0, Value.int IntKind.u8 0, Value.int IntKind.u8 0, Value.int IntKind.u8 0, Value.int IntKind.u8 0, Value.int IntKind.u8 0, Value.int IntKind.u8 0, Value.int IntKind.u8 0, Value.int IntKind.u8 0, Value.int IntKind.u8 0, Value.int IntKind.u8 0, Value.int IntKind.u8 0, Value.int IntKind.u8 0, Value.int IntKind.u8 0, Value.int IntKind.u8 0, Value.int IntKind.u8 0, Value.int IntKind.u8 0, Value.int IntKind.u8 0, Value.int IntKind.u8 0, Value.int IntKind.u8 0, Value.int IntKind.u8 0, Value.int IntKind.u8 0, Value.int IntKind.u8 0, Value.int IntKind.u8 0, Value.int IntKind.u8 0, Value.int IntKind.u8 0, Value.int IntKind.u8 0, Value.int IntKind.u8 0, Value.int IntKind.u8 0, Value.int IntKind.u8 0, Value.int IntKind.u8 0, Value.slice none 0 0, Value.float FloatKind.f64 0, Value.string ⟨#[]⟩]] W fun e w' => e = .returned (.tuple #[.string ⟨#[]⟩, .bool false]) ∧ Below W.heap.size W w') := fun W => by
          have h := og_put bs W
          rw [if_neg (by omega), decide_eq_false (by omega)] at h
          exact h
        have HGET : Hid (∀ W, Calls Tryz.prog 36 #[.int .i64 1, .string ⟨bs.toArray⟩] W fun e w' => (∃ A c A2 c2, e = .returned (.tuple #[.agg (encO A c A2 c2 (zO)).toArray, .int .i64 5])) ∧ Below W.heap.size W w') := fun W => by
          have h := og_get bs W (by omega)
          rw [if_neg (by omega), if_neg (by omega)] at h
          exact h
        have q1 : decide (wrap64 (990 + (wrap64 (n0.tmod 20 + 20)).tmod 20) ≤ 1000) = false := by rw [hmw]; simp; omega
        have hc1 := HCV.out wr (Below.refl _ _)
        clear hlen hlt hk h1000 hm1 hm2 hmw
        go_wp2_with fail
        refine (HPUT.out wr).mono ?_
        rintro e w2 ⟨rfl, hb⟩
        have hc2 := HCV.out w2 hb
        have B2 := Lib.hid hb
        clear hb
        go_wp2_with fail
        refine (HGET.out w2).mono ?_
        rintro e v3 ⟨⟨A3, c3, B3, d3, rfl⟩, hb⟩
        have B3v := Lib.hid (B2.out.trans (hb.mono B2.out.size))
        clear hb
        go_upto_region 13 with (refine wpList_store_whole rfl 68 _ _ rfl v3.heap.size (encO A3 c3 B3 d3 (zO)).toArray rfl rfl 68 _ (Whole.made v3 _ _) (infoO_s _ _ _ _ _) (by rw [encO_s]; rfl) (encO_all _ _ _ _ _) ?_; intro w3 hWn hGn; have HW3 := Lib.hid hWn; have HG3 := Lib.hid hGn; clear hWn hGn)
        have hv : Below v3.heap.size v3 w3 := be_grown ((Below.refl v3.heap.size v3).alloc (Nat.le_refl _) _) HG3.out (by simp) (fun j hj => by injection hj with hj; omega)
        have B3' := Lib.hid (B3v.out.trans (hv.mono B3v.out.size))
        have hc3 := HCV.out w3 B3'.out
        clear hv HG3
        go_wp2
        go_ret
        exact ⟨rfl, HBR.out.trans (B3'.out.mono HBR.out.size)⟩
end Go.Proofs.YtdmafodppcbglaaGreatDoor

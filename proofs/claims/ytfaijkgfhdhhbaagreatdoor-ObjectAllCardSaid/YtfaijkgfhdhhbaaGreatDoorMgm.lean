/-
  What oid.Get makes of 64 digits: the model.
  A name and its digits: the model.
  oid.Get.
  oid.Get of any text, a name's digits and back, names as such.
-/
import Derived.Test.YtfaijkgfhdhhbaaGreatDoorMgl
import Derived.Test.YtfaijkgfhdhhbaaGreatDoorMgc
import Derived.Test.YtfaijkgfhdhhbaaGreatDoorMgh
import Derived.Test.YtfaijkgfhdhhbaaGreatDoorMgd
namespace Go.Proofs.YtfaijkgfhdhhbaaGreatDoor
open Go.RowKit
def hd (s : List UInt8) (i : Nat) : Nat := (hval (s.getD i 0)).toNat
theorem hd_lt (s : List UInt8) (i : Nat) : hd s i < 16 := by
  have := hval_lt (s.getD i 0)
  unfold hd; omega
/-- The name's byte j when i digits have been read. -/
def idn (s : List UInt8) (i j : Nat) : Nat := if 2 * j + 1 < i then hd s (2 * j) * 16 + hd s (2 * j + 1) else if 2 * j < i then hd s (2 * j) else 0
theorem idn_lt (s : List UInt8) (i j : Nat) : idn s i j < 256 := by
  have h1 := hd_lt s (2 * j)
  have h2 := hd_lt s (2 * j + 1)
  unfold idn; split <;> (try split) <;> omega
theorem idn_low (s : List UInt8) (k : Nat) : idn s k (k / 2) < 16 := by
  have h1 := hd_lt s (2 * (k / 2))
  unfold idn; split
  · omega
  · split <;> omega
def idl (s : List UInt8) (i : Nat) : List UInt8 := (List.range 32).map fun j => UInt8.ofNat (idn s i j)
theorem idl_len (s : List UInt8) (i : Nat) : (idl s i).length = 32 := by simp [idl]
theorem idl_zero (s : List UInt8) : idl s 0 = List.replicate 32 0 := by
  apply List.ext_getElem
  · simp [idl]
  · intro j h1 h2
    rw [List.getElem_replicate]
    simp [idl, idn]
theorem idn_step (s : List UInt8) (k : Nat) : idn s k (k / 2) * 16 + hd s k = idn s (k + 1) (k / 2) := by
  obtain ⟨j, hj | hj⟩ : ∃ j, k = 2 * j ∨ k = 2 * j + 1 := ⟨k / 2, by omega⟩
  · subst hj
    rw [show 2 * j / 2 = j by omega]
    unfold idn
    rw [if_neg (by omega), if_neg (by omega), if_neg (by omega), if_pos (by omega)]
    omega
  · subst hj
    rw [show (2 * j + 1) / 2 = j by omega]
    unfold idn
    rw [if_neg (by omega), if_pos (by omega), if_pos (by omega)]
theorem idn_other (s : List UInt8) (k j : Nat) (h : j ≠ k / 2) : idn s k j = idn s (k + 1) j := by
  unfold idn
  have e1 : (2 * j + 1 < k) ↔ (2 * j + 1 < k + 1) := by omega
  have e2 : (2 * j < k) ↔ (2 * j < k + 1) := by omega
  simp only [e1, e2]
theorem idl_step (s : List UInt8) (k : Nat) : (idl s k).set (k / 2) (UInt8.ofNat (idn s k (k / 2) * 16 + hd s k)) = idl s (k + 1) := by
  apply List.ext_getElem
  · simp [idl]
  · intro j h1 h2
    rw [List.getElem_set]
    split
    · rename_i h
      subst h
      rw [idn_step]
      simp [idl]
    · rename_i h
      simp only [idl, List.getElem_map, List.getElem_range]
      rw [idn_other s k j (fun e => h e.symm)]
/-- The same, pair by pair. -/
theorem idl_pair (s : List UInt8) (j : Nat) (hj : j < 32) : (idl s 64).getD j 0 = UInt8.ofNat (hd s (2 * j) * 16 + hd s (2 * j + 1)) := by
  rw [List.getD_eq_getElem?_getD, List.getElem?_eq_getElem (by rw [idl_len]; exact hj)]
  simp only [idl, List.getElem_map, List.getElem_range, Option.getD_some]
  unfold idn
  rw [if_pos (by omega)]
def good (s : List UInt8) : Bool := s.length == 64 && s.all fun c => decide (0 ≤ hval c)
def getId (s : List UInt8) : List UInt8 × Bool := if good s then (idl s 64, true) else (List.replicate 32 0, false)
end Go.Proofs.YtfaijkgfhdhhbaaGreatDoor
namespace Go.Proofs.YtfaijkgfhdhhbaaGreatDoor
open Go.RowKit
theorem hx_hval (c : UInt8) (h : 0 ≤ hval c) : hx (hval c).toNat = c := by
  have hh : ∀ n, n < 256 → 0 ≤ hval (UInt8.ofNat n) → hx (hval (UInt8.ofNat n)).toNat = UInt8.ofNat n := by decide +kernel
  have := hh c.toNat c.toNat_lt
  rw [UInt8.ofNat_toNat] at this
  exact this h
theorem hx_inj (a b : Nat) (ha : a < 16) (hb : b < 16) (h : hx a = hx b) : a = b := by
  have hh : ∀ a, a < 16 → ∀ b, b < 16 → hx a = hx b → a = b := by decide +kernel
  exact hh a ha b hb h
theorem hexOf_inj : ∀ a b : List UInt8, hexOf a = hexOf b → a = b
  | [], [], _ => rfl
  | [], _ :: _, h => by simp [hexOf] at h
  | _ :: _, [], h => by simp [hexOf] at h
  | x :: a, y :: b, h => by
    simp only [hexOf, List.cons.injEq] at h
    obtain ⟨h1, h2, h3⟩ := h
    have hx1 := hx_inj _ _ (by have := x.toNat_lt; omega) (by have := y.toNat_lt; omega) h1
    have hx2 := hx_inj _ _ (by omega) (by omega) h2
    rw [hexOf_inj a b h3, show x = y from UInt8.toNat_inj.1 (by omega)]
/-- The digits of pairs, from any place on. -/
theorem hexOf_pairs (p : List UInt8) (hp : ∀ j, j < p.length → 0 ≤ hval (p.getD j 0)) : ∀ (m j : Nat), 2 * (j + m) = p.length →
    hexOf ((List.range' j m).map fun i => UInt8.ofNat (hd p (2 * i) * 16 + hd p (2 * i + 1))) = p.drop (2 * j)
  | 0, j, h => by
    rw [List.drop_eq_nil_of_le (by omega)]; rfl
  | m + 1, j, h => by
    have l1 := hd_lt p (2 * j)
    have l2 := hd_lt p (2 * j + 1)
    have e := UInt8.toNat_ofNat_of_lt' (show hd p (2 * j) * 16 + hd p (2 * j + 1) < 256 by omega)
    rw [List.range'_succ, List.map_cons, hexOf, e, hexOf_pairs p hp m (j + 1) (by omega), show (hd p (2 * j) * 16 + hd p (2 * j + 1)) / 16 = hd p (2 * j) by omega, show (hd p (2 * j) * 16 + hd p (2 * j + 1)) % 16 = hd p (2 * j + 1) by omega]
    have e1 : p.getD (2 * j) 0 = p[2 * j] := by rw [List.getD_eq_getElem?_getD, List.getElem?_eq_getElem (show 2 * j < p.length by omega), Option.getD_some]
    have e2 : p.getD (2 * j + 1) 0 = p[2 * j + 1] := by rw [List.getD_eq_getElem?_getD, List.getElem?_eq_getElem (show 2 * j + 1 < p.length by omega), Option.getD_some]
    have k1 := hx_hval _ (hp (2 * j) (by omega))
    have k2 := hx_hval _ (hp (2 * j + 1) (by omega))
    unfold hd
    rw [k1, k2, e1, e2, List.drop_eq_getElem_cons (show 2 * j < p.length by omega), List.drop_eq_getElem_cons (show 2 * j + 1 < p.length by omega)]
    rfl
theorem hexOf_idl (p : List UInt8) (h : good p = true) : hexOf (idl p 64) = p := by
  simp only [good, Bool.and_eq_true, beq_iff_eq, List.all_eq_true, decide_eq_true_eq] at h
  obtain ⟨hl, ha⟩ := h
  have e : idl p 64 = (List.range' 0 32).map fun i => UInt8.ofNat (hd p (2 * i) * 16 + hd p (2 * i + 1)) := by
    apply List.ext_getElem
    · simp [idl]
    · intro j h1 h2
      have hj : j < 32 := by simpa [idl] using h1
      simp only [idl, List.getElem_map, List.getElem_range, List.getElem_range']
      unfold idn
      rw [if_pos (by omega)]
      simp
  rw [e, hexOf_pairs p (fun j hj => by
    rw [List.getD_eq_getElem?_getD, List.getElem?_eq_getElem hj, Option.getD_some]
    exact ha _ (List.getElem_mem _)) 32 0 (by omega)]
  rfl
theorem id_is (p a : List UInt8) (h : good p = true) : idl p 64 = a ↔ p = hexOf a := by
  constructor
  · rintro rfl; exact (hexOf_idl p h).symm
  · intro e
    have := hexOf_idl p h
    rw [e] at this
    rw [e]
    exact hexOf_inj _ _ this
end Go.Proofs.YtfaijkgfhdhhbaaGreatDoor
namespace Go.Proofs.YtfaijkgfhdhhbaaGreatDoor
open Go.RowKit
theorem or_low (x d : Nat) (hx : x < 16) (hd : d < 16) : bits .or .u8 ((x : Int) * 16) (d : Int) = ((x * 16 + d : Nat) : Int) := by
  have h : ∀ x : Fin 16, ∀ d : Fin 16, bits .or .u8 (((x.val : Nat) : Int) * 16) ((d.val : Nat) : Int) = ((x.val * 16 + d.val : Nat) : Int) := by decide +kernel
  exact h ⟨x, hx⟩ ⟨d, hd⟩
theorem oget_endG {fn : Func} (hr : fn.results = #[.cell 2 24, .tmp 3]) (b : Bool) (a : Act) (w w3 : World) (A : Array Value) (hs : A.size = 32) (h2 : a.tmps.getD 2 undef = .pointer (some ⟨w.heap.size, 0, none⟩)) (h3 : a.tmps.getD 3 undef = .bool b) (hd : a.defers = []) (hW : Whole w3 w.heap.size 24 A) (hB : Below w.heap.size w w3) :
    bodyPost Tryz.prog fn (fun e w' => e = .returned (.tuple #[.agg A, .bool b]) ∧ Below w.heap.size w w') .ret a w3 := by
  refine bodyPost_ret (v := .tuple #[.agg A, .bool b]) ?_ hd ⟨rfl, hB⟩
  rw [← h3]
  exact results_row_tmp hr _ _ w.heap.size 24 A (0, 0) _ h2 hW Tryz.underlying24 rfl (by rw [hs]; kernel_rfl)
set_option maxRecDepth 100000 in
theorem oget_len (s : List UInt8) (w : World) (hl : s.length ≠ 64) : Calls Tryz.prog 128 #[.string ⟨s.toArray⟩] w fun e w' => e = .returned (.tuple #[.agg ((List.replicate 32 0).map Y).toArray, .bool false]) ∧ Below w.heap.size w w' := by
  have hb : ((s.length : Int) != 64) = true := by simp; omega
  clear hl
  go_enter Tryz.func128, Tryz.ntmps128
  go_wp2_with (refine wpList_store_whole rfl 24 _ _ rfl w.heap.size _ rfl rfl 24 _ (Whole.made w _ _) (by kernel_rfl) (by kernel_rfl) (by kernel_rfl) ?_; intro w3 hW3 hG3; have HW3 := Lib.hid hW3; have HB3 := Lib.hid (be_grown ((Below.refl w.heap.size w).alloc (Nat.le_refl _) _) hG3 (by simp) (fun j hj => by injection hj with hj; omega)); clear hW3 hG3)
  exact oget_endG Tryz.results128 false _ w _ _ (by kernel_rfl) rfl rfl rfl HW3.out HB3.out
set_option maxRecDepth 100000 in
set_option maxHeartbeats 2000000 in
theorem oget_64 (s : List UInt8) (w : World) (hl : s.length = 64) : Calls Tryz.prog 128 #[.string ⟨s.toArray⟩] w fun e w' => e = .returned (.tuple #[.agg ((getId s).1.map Y).toArray, .bool (getId s).2]) ∧ Below w.heap.size w w' := by
  have hb : ((s.length : Int) != 64) = false := by simp [hl]
  have HL := Lib.hid hl
  go_enter Tryz.func128, Tryz.ntmps128
  go_wp2_with fail
  go_loopw [13] (fun i wr => ∃ k : Nat, k ≤ 64 ∧ i = .int .i64 k ∧ Whole wr (w.heap.size + 1) 24 ((idl s k).map Y).toArray ∧ Whole wr w.heap.size 24 ((List.replicate 32 (0 : UInt8)).map Y).toArray ∧ Below w.heap.size w wr ∧ ∀ j, j < k → 0 ≤ hval (s.getD j 0)) (fun i _ => 64 - (intOf i).toNat)
  case atStart =>
    refine ⟨0, by omega, rfl, ?_, (Whole.made w 24 ((List.replicate 32 (0 : UInt8)).map Y).toArray).past _, ((Below.refl _ _).alloc (Nat.le_refl _) _).alloc (by simp) _, fun j hj => absurd hj (by omega)⟩
    rw [idl_zero]
    exact heap_alloc2_new w _ _
  case round =>
    obtain ⟨k, hk, rfl, hW, hZ, hB, hall⟩ := hrel
    have HW := Lib.hid hW
    have HZ := Lib.hid hZ
    have HB := Lib.hid hB
    have HA := Lib.hid hall
    clear hW hZ hB hall
    by_cases hlt : k < 64
    · have hidx := str_at s k (by omega)
      have hkk : decide ((k : Int) < (s.length : Int)) = true := by simp; omega
      have hks : k < s.length := by omega
      have HD := Lib.hid (digit_any (s.getD k 0))
      have hc := hval_lt (s.getD k 0)
      by_cases hneg : hval (s.getD k 0) < 0
      · have hgood : good s = false := by
          have : (s.all fun c => decide (0 ≤ hval c)) = false := by
            rw [List.all_eq_false]
            refine ⟨s[k], List.getElem_mem _, ?_⟩
            rw [List.getD_eq_getElem?_getD, List.getElem?_eq_getElem hks, Option.getD_some] at hneg
            simp; omega
          simp [good, this]
        have HG : Hid (getId s = (List.replicate 32 0, false)) := by show _ = _; rw [getId, hgood]; rfl
        clear hgood hks hl
        generalize s.getD k 0 = c at *
        go_wp2_with fail
        refine (HD.out _).mono ?_
        rintro e w' ⟨rfl, rfl⟩
        go_wp2_with (refine wpList_store_whole rfl 24 _ _ rfl w.heap.size _ rfl rfl 24 _ HZ.out (by kernel_rfl) (by kernel_rfl) (by kernel_rfl) ?_; intro w3 hW3 hG3; have HW3 := Lib.hid hW3; have HB3 := Lib.hid (be_grown HB.out hG3 HB.out.size (fun j hj => by injection hj with hj; omega)); clear hW3 hG3)
        rw [HG.out]
        exact oget_endG Tryz.results128 false _ w _ _ (by kernel_rfl) rfl rfl rfl HW3.out HB3.out
      · obtain ⟨d, hdv⟩ : ∃ d : Nat, hval (s.getD k 0) = (d : Int) := ⟨(hval (s.getD k 0)).toNat, by omega⟩
        have hds : hd s k = d := by unfold hd; omega
        have hd16 : d < 16 := by omega
        have hx := idn_low s k
        have hst := idl_step s k
        rw [hds] at hst
        have hcell : wr.cell? ⟨w.heap.size + 1, k / 2, none⟩ = some (.int .u8 (idn s k (k / 2) : Int)) := by
          rw [HW.out.at_ (k / 2), List.getElem?_toArray, ← some_y _ _ (by rw [idl_len]; omega)]
          have : (idl s k).getD (k / 2) 0 = UInt8.ofNat (idn s k (k / 2)) := by
            rw [List.getD_eq_getElem?_getD, List.getElem?_eq_getElem (by rw [idl_len]; omega)]
            simp [idl]
          rw [this]
          have h2 := UInt8.toNat_ofNat_of_lt' (show idn s k (k / 2) < 256 from idn_lt s k (k / 2))
          unfold Y
          rw [h2]
        have z0 := HW.out.thawed (k / 2)
        have hnew : Hid (∀ W, Whole W (w.heap.size + 1) 24 (((idl s k).map Y).toArray.setIfInBounds (k / 2) (.int .u8 ((idn s k (k / 2) * 16 + d : Nat) : Int))) → Whole W (w.heap.size + 1) 24 ((idl s (k + 1)).map Y).toArray) := by
          intro W h
          have e : ((idl s k).map Y).toArray.setIfInBounds (k / 2) (.int .u8 ((idn s k (k / 2) * 16 + d : Nat) : Int)) = ((idl s (k + 1)).map Y).toArray := by
            rw [← hst, List.map_set]
            have h2 := UInt8.toNat_ofNat_of_lt' (show idn s k (k / 2) * 16 + d < 256 by omega)
            have h3 : Y (UInt8.ofNat (idn s k (k / 2) * 16 + d)) = .int .u8 ((idn s k (k / 2) * 16 + d : Nat) : Int) := by unfold Y; rw [h2]
            rw [h3]
            simp
          rw [e] at h
          exact h
        have hall2 : Hid (∀ j, j < k + 1 → 0 ≤ hval (s.getD j 0)) := fun j hj => by
          rcases Nat.lt_or_ge j k with h | h
          · exact HA.out j h
          · have : j = k := by omega
            subst this; omega
        have hq : (k : Int).tdiv 2 = ((k / 2 : Nat) : Int) := by rw [Int.tdiv_eq_ediv_of_nonneg (by omega)]; omega
        have hd0 : (d : Int) % 256 = (d : Int) := by omega
        have hor := or_low (idn s k (k / 2)) d hx hd16
        have hk2 : k / 2 < 32 := by omega
        have q1 : (0 : Int) ≤ ((k / 2 : Nat) : Int) := by omega
        have q2 : ((k / 2 : Nat) : Int) < 32 := by omega
        rw [hdv] at HD hneg
        have hg : decide ((d : Int) < 0) = false := by simp
        clear hst hds hks hl hc hdv hneg
        generalize s.getD k 0 = c at *
        generalize idn s k (k / 2) = x at *
        go_wp2_with fail
        refine (HD.out _).mono ?_
        rintro e w' ⟨rfl, rfl⟩
        go_wp2_with fail
        go_roundw
        case rel =>
          refine ⟨k + 1, by omega, by go_num, ?_, HZ.out.aside (by simp) _, HB.out.setCell (by simp) _, hall2.out⟩
          rw [show (x : Int) * 16 + (d : Int) = ((x * 16 + d : Nat) : Int) by omega]
          exact hnew.out _ (HW.out.put (k / 2) _)
        case measure => simp [intOf]; omega
    · obtain rfl : k = 64 := by omega
      have hgood : good s = true := by
        simp only [good, HL.out, Bool.and_eq_true, beq_self_eq_true, true_and, List.all_eq_true, decide_eq_true_eq]
        intro c hc
        obtain ⟨j, hj, rfl⟩ := List.getElem_of_mem hc
        have := HA.out j (by omega)
        rwa [List.getD_eq_getElem?_getD, List.getElem?_eq_getElem hj, Option.getD_some] at this
      have HG : Hid (getId s = (idl s 64, true)) := by show _ = _; rw [getId, hgood]; rfl
      have hsz : ((idl s 64).map Y).toArray.size = 32 := by rw [List.size_toArray, List.length_map, idl_len]
      have HI : Hid ((Tryz.prog.info? 24).map (·.size) = some ((idl s 64).map Y).toArray.size) := by show _ = _; rw [hsz]; kernel_rfl
      have H1 : Hid (((idl s 64).map Y).toArray.all (·.oneCell') = true) := by
        show _ = _
        rw [Array.all_eq_true_iff_forall_mem]
        intro v hv
        obtain ⟨y, -, rfl⟩ := List.mem_map.1 (by simpa using hv)
        rfl
      have HS := Lib.hid hsz
      have hkk : decide ((64 : Int) < (s.length : Int)) = false := by simp; omega
      obtain ⟨cs, hcs⟩ : ∃ cs, cs = ((idl s 64).map Y).toArray := ⟨_, rfl⟩
      have HCS := Lib.hid hcs
      rw [← hcs] at HW HI H1 HS
      clear hgood hsz hlt hcs
      go_wp2_with (first
        | (refine wpList_load_row rfl 24 _ rfl (w.heap.size + 1) rfl 24 cs (0, 0) _ HW.out Tryz.underlying24 rfl HI.out ?_)
        | (refine wpList_store_whole rfl 24 _ _ rfl w.heap.size cs rfl rfl 24 _ HZ.out HI.out (by rw [HS.out]; kernel_rfl) H1.out ?_; intro w3 hW3 hG3; have HW3 := Lib.hid hW3; have HB3 := Lib.hid (be_grown HB.out hG3 HB.out.size (fun j hj => by injection hj with hj; omega)); clear hW3 hG3))
      rw [HG.out, ← HCS.out]
      exact oget_endG Tryz.results128 true _ w _ _ HS.out rfl rfl rfl HW3.out HB3.out
end Go.Proofs.YtfaijkgfhdhhbaaGreatDoor
namespace Go.Proofs.YtfaijkgfhdhhbaaGreatDoor
open Go.RowKit

theorem getId_len' (p : List UInt8) : (getId p).1.length = 32 := by
  unfold getId
  split
  · exact idl_len p 64
  · exact List.length_replicate
theorem getId_off (p : List UInt8) (h : p.length ≠ 64) : getId p = (List.replicate 32 0, false) := by
  unfold getId
  rw [if_neg]
  intro hg
  unfold good at hg
  simp only [Bool.and_eq_true, beq_iff_eq] at hg
  exact h hg.1
theorem hx_val (d : Nat) (h : d < 16) : 0 ≤ hval (hx d) := by
  have : ∀ d, d < 16 → 0 ≤ hval (hx d) := by decide +kernel
  exact this d h
theorem hexOf_digits : ∀ (l : List UInt8), ∀ c ∈ hexOf l, 0 ≤ hval c
  | [], c, h => by cases h
  | b :: l, c, h => by
    have hb := b.toNat_lt
    simp only [hexOf, List.mem_cons] at h
    rcases h with rfl | rfl | h
    · exact hx_val _ (by omega)
    · exact hx_val _ (by omega)
    · exact hexOf_digits l c h
theorem getId_hex (a : List UInt8) (h : a.length = 32) : getId (hexOf a) = (a, true) := by
  have hg : good (hexOf a) = true := by
    unfold good
    simp only [Bool.and_eq_true, beq_iff_eq, List.all_eq_true, decide_eq_true_eq]
    exact ⟨by rw [hexOf_len, h], hexOf_digits a⟩
  unfold getId
  rw [if_pos hg, (id_is _ a hg).2 rfl]
/-- The name told, as such. -/
def getN (s : List UInt8) : Nm := ⟨(getId s).1, getId_len' s⟩
theorem getN_hex (a : Nm) : getN (hexOf a.l) = a := Nm.same (by show (getId _).1 = _; rw [getId_hex a.l a.h])
theorem oget_u (s : List UInt8) (w : World) : Calls Tryz.prog 128 #[.string ⟨s.toArray⟩] w fun e w' => e = .returned (.tuple #[.agg (encN (getN s)).toArray, .bool (getId s).2]) ∧ Below w.heap.size w w' := by
  by_cases h : s.length = 64
  · exact oget_64 s w h
  · have := oget_len s w h
    have e : encN (getN s) = (List.replicate 32 (0 : UInt8)).map Y := by
      show (getId s).1.map Y = _
      rw [getId_off s h]
    rw [e, show (getId s).2 = false by rw [getId_off s h]]
    exact this
theorem oget_hex (a : Nm) (w : World) : Calls Tryz.prog 128 #[.string ⟨(hexOf a.l).toArray⟩] w fun e w' => e = .returned (.tuple #[.agg (encN a).toArray, .bool true]) ∧ Below w.heap.size w w' := by
  have := oget_u (hexOf a.l) w
  rw [getN_hex, getId_hex a.l a.h] at this
  exact this
theorem hex_nm (a : Nm) (w : World) : Calls Tryz.prog 57 #[.agg (encN a).toArray] w fun e w' => e = .returned (.string ⟨(hexOf a.l).toArray⟩) ∧ Below w.heap.size w w' := hex_any a.l w a.h
end Go.Proofs.YtfaijkgfhdhhbaaGreatDoor

/-
  oid.Hex, walked.
-/
import Derived.Test.YtdjhkaofhdcalaaGreatDoorOidA
namespace Go.Proofs.YtdjhkaofhdcalaaGreatDoor
open Go.RowKit

/-- The digits of bytes. -/
def hexOf : List UInt8 → List UInt8
  | [] => []
  | b :: r => hx (b.toNat / 16) :: hx (b.toNat % 16) :: hexOf r
theorem hexOf_len (l : List UInt8) : (hexOf l).length = 2 * l.length := by
  induction l with
  | nil => rfl
  | cons b r ih => simp [hexOf, ih]; omega
theorem hexOf_snoc (l : List UInt8) (b : UInt8) : hexOf (l ++ [b]) = hexOf l ++ [hx (b.toNat / 16), hx (b.toNat % 16)] := by
  induction l with
  | nil => rfl
  | cons c r ih => simp [hexOf, ih]
/-- The text as it is being laid. -/
def htarr (l : List UInt8) : List Value := (hexOf l ++ List.replicate (64 - 2 * l.length) 0).map Y
theorem htarr_len (l : List UInt8) (h : l.length ≤ 32) : (htarr l).length = 64 := by simp [htarr, hexOf_len]; omega
theorem htarr_step (l : List UInt8) (b : UInt8) (h : l.length < 32) : ((htarr l).toArray.setIfInBounds (2 * l.length) (Y (hx (b.toNat / 16)))).setIfInBounds (2 * l.length + 1) (Y (hx (b.toNat % 16))) = (htarr (l ++ [b])).toArray := by
  apply Array.ext'
  obtain ⟨m, hm⟩ : ∃ m, 64 - 2 * l.length = m + 2 := ⟨62 - 2 * l.length, by omega⟩
  have hm2 : 64 - 2 * (l.length + 1) = m := by omega
  simp only [htarr, Array.toList_setIfInBounds, hexOf_snoc, List.map_append, List.length_append, List.length_cons, List.length_nil, hm, hm2, List.replicate_succ, List.map_cons]
  rw [List.set_append_right _ _ (by simp [hexOf_len]), List.set_append_right _ _ (by simp [hexOf_len])]
  simp [hexOf_len, show 2 * l.length + 1 - 2 * l.length = 1 by omega]
theorem htarr_at (l : List UInt8) (i : Nat) (h : l.length ≤ 32) (hi : i < 64) : ∃ x : Int, (htarr l).toArray[i]? = some (.int .u8 x) := by
  have hl := htarr_len l h
  obtain ⟨v, hv⟩ : ∃ v, (htarr l)[i]? = some v := ⟨_, List.getElem?_eq_getElem (by rw [hl]; exact hi)⟩
  have hm := List.mem_of_getElem? hv
  unfold htarr at hm
  obtain ⟨y, _, rfl⟩ := List.mem_map.1 hm
  exact ⟨_, by rw [List.getElem?_toArray, hv]; rfl⟩
theorem and_15 (b : UInt8) : bits .and .u8 (b.toNat : Int) 15 = (b.toNat : Int) % 16 := by
  have h := u8_and_nat b.toNat 15 b.toNat_lt (by decide)
  have e : b.toNat &&& 15 = b.toNat % 16 := Nat.and_two_pow_sub_one_eq_mod b.toNat 4
  rw [e] at h
  rw [show ((15 : Nat) : Int) = 15 from rfl] at h
  rw [h]; omega

set_option maxRecDepth 100000 in
set_option maxHeartbeats 1000000 in
theorem hex_any (id : List UInt8) (w : World) (hid : id.length = 32) : Calls Tryz.prog 9 #[.agg (id.map Y).toArray] w fun e w' => e = .returned (.string ⟨(hexOf id).toArray⟩) ∧ Below w.heap.size w w' := by
  have hcs : ((id.map Y).toArray).size = 32 := by simp [hid]
  have hat : ∀ i, i < 32 → ((id.map Y).toArray)[i]? = some (Y (id.getD i 0)) := fun i hi => by rw [List.getElem?_toArray, ← some_y _ _ (by omega)]
  have HI : Hid ((Tryz.prog.info? 23).map (·.size) = some ((id.map Y).toArray).size) := by show _ = _; rw [hcs]; kernel_rfl
  have HAT := Lib.hid hat
  have HID := Lib.hid hid
  clear hcs hat hid
  generalize (id.map Y).toArray = cs at *
  go_enter Tryz.func9, Tryz.ntmps9
  go_wp2_with (refine wpList_load_row rfl 23 _ rfl w.heap.size rfl 23 cs (0, 0) _ ((Whole.made w _ _).past _) Tryz.underlying23 rfl HI.out ?_)
  go_loopw [7] (fun i wr => ∃ k : Nat, k ≤ 32 ∧ i = .int .i64 k ∧ Whole wr (w.heap.size + 1) 70 (htarr (id.take k)).toArray ∧ Below w.heap.size w wr) (fun i _ => 32 - (intOf i).toNat)
  case atStart => exact ⟨0, by omega, rfl, heap_alloc2_new w _ _, ((Below.refl _ _).alloc (Nat.le_refl _) _).alloc (by simp) _⟩
  case round =>
    obtain ⟨k, hk, rfl, hW, hB⟩ := hrel
    have HW := Lib.hid hW
    have HB := Lib.hid hB
    clear hW hB
    by_cases hlt : k < 32
    · have hl : (id.take k).length = k := by rw [List.length_take, HID.out]; omega
      have hidx := run_index_one 23 5 32 cs k _ _ Tryz.underlying23 Tryz.underlying5 rfl (by kernel_rfl) hlt (HAT.out k hlt)
      have htk : id.take (k + 1) = id.take k ++ [id.getD k 0] := by
        rw [List.take_succ_eq_append_getElem (by rw [HID.out]; exact hlt)]
        simp [List.getElem?_eq_getElem (show k < id.length by rw [HID.out]; exact hlt)]
      have hst := htarr_step (id.take k) (id.getD k 0) (by rw [hl]; exact hlt)
      rw [hl, ← htk] at hst
      obtain ⟨x0, h0⟩ := htarr_at (id.take k) (2 * k) (by rw [hl]; exact hk) (by omega)
      obtain ⟨x1, h1⟩ := htarr_at (id.take k) (2 * k + 1) (by rw [hl]; exact hk) (by omega)
      have c0 : wr.cell? ⟨w.heap.size + 1, 2 * k, none⟩ = some (.int .u8 x0) := (HW.out.at_ _).trans h0
      have c1 : wr.cell? ⟨w.heap.size + 1, 2 * k + 1, none⟩ = some (.int .u8 x1) := (HW.out.at_ _).trans h1
      have z0 := HW.out.thawed (2 * k)
      have z1 := HW.out.thawed (2 * k + 1)
      have HST := Lib.hid hst
      generalize id.getD k 0 = b at *
      have hbl := b.toNat_lt
      have i0 := hx_run .u8 (b.toNat / 16) (by omega)
      have i1 := hx_run .u8 (b.toNat % 16) (by omega)
      rw [show ((b.toNat / 16 : Nat) : Int) = (b.toNat : Int) / 16 by omega] at i0
      rw [show ((b.toNat % 16 : Nat) : Int) = (b.toNat : Int) % 16 by omega] at i1
      have ha := and_15 b
      unfold Y at hidx
      clear hst h0 h1 hl htk
      go_wp2
      go_roundw
      case rel =>
        refine ⟨k + 1, by omega, by go_num, ?_, ?_⟩
        · rw [← HST.out]; exact (HW.out.put _ _).put _ _
        · exact (HB.out.setCell (by simp) _).setCell (by simp) _
      case measure => simp [intOf]; omega
    · have hW2 : Whole wr (w.heap.size + 1) 70 ((hexOf id).map Y).toArray := by
        have := HW.out
        rw [List.take_of_length_le (by rw [HID.out]; omega)] at this
        unfold htarr at this
        rw [HID.out] at this
        simpa using this
      have hby : Bytes wr (.slice (some ⟨w.heap.size + 1, 0, none⟩) 64 64) (hexOf id) := ⟨_, 64, by rw [hexOf_len, HID.out], by rw [hexOf_len, HID.out]; decide, by decide, fun _ => ⟨_, _, rfl, fun i hi => by
        rw [Nat.zero_add, hW2.at_ i, List.getElem?_toArray, ← some_y _ _ hi]⟩⟩
      have hcv := bytes_str (P := Tryz.prog) 39 9 5 Tryz.underlying39 Tryz.underlying5 Tryz.underlying9 hby
      clear hW2 hby HW
      generalize hdg : (hexOf id).toArray = digits at hcv
      have HD := Lib.hid hdg
      clear hdg
      go_wp2
      go_ret
      exact ⟨by rw [HD.out]; rfl, HB.out⟩
end Go.Proofs.YtdjhkaofhdcalaaGreatDoor

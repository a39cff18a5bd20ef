/-
  object.Id of what may not be.
-/
import Derived.Test.YtacmdpfidakkkaaGreatDoorObF
namespace Go.Proofs.YtacmdpfidakkkaaGreatDoor
open Go.RowKit

set_option maxRecDepth 100000 in
set_option maxHeartbeats 4000000 in
theorem oid_none (A : Option Addr) (c : Nat) (A2 : Option Addr) (c2 : Nat) (x : Ob) (w : World) (hA : ArgO w A c A2 c2 x) (ht : x.commit.time < 18446744073709551616) (hl : x.entries.length ≤ 1048576) (hno : mayO' x = false) :
    Calls Tryz.prog 44 #[.agg (encO A c A2 c2 x).toArray] w fun e w' => e = .returned (.tuple #[.agg (encN (idO x)).toArray, .bool (mayO' x)]) ∧ Below w.heap.size w w' := by
  obtain ⟨hW, hB, hA0⟩ := obox A c A2 c2 x w hA
  have HOP := Lib.hid (fun W (h : Below (w.alloc (.cells (encO A c A2 c2 x).toArray 72)).heap.size (w.alloc (.cells (encO A c A2 c2 x).toArray 72)) W) => oput_any A c A2 c2 x W (hA0.later h) ht hl)
  have HXS := Lib.hid (infoO_s A c A2 c2 x)
  have E0 := Lib.hid (encO_0 A c A2 c2 x)
  have HZ : Hid (#[Value.int IntKind.u8 0, Value.int IntKind.u8 0, Value.int IntKind.u8 0, Value.int IntKind.u8 0, Value.int IntKind.u8 0, Value.int IntKind.u8 0, Value.int IntKind.u8 0, Value.int IntKind.u8 0, Value.int IntKind.u8 0, Value.int IntKind.u8 0, Value.int IntKind.u8 0, Value.int IntKind.u8 0, Value.int IntKind.u8 0, Value.int IntKind.u8 0, Value.int IntKind.u8 0, Value.int IntKind.u8 0, Value.int IntKind.u8 0, Value.int IntKind.u8 0, Value.int IntKind.u8 0, Value.int IntKind.u8 0, Value.int IntKind.u8 0, Value.int IntKind.u8 0, Value.int IntKind.u8 0, Value.int IntKind.u8 0, Value.int IntKind.u8 0, Value.int IntKind.u8 0, Value.int IntKind.u8 0, Value.int IntKind.u8 0, Value.int IntKind.u8 0, Value.int IntKind.u8 0, Value.int IntKind.u8 0, Value.int IntKind.u8 0] = (encN default).toArray) := rfl
  have HW0 := Lib.hid fun z => Whole.past hW (.cells z 40)
  have HZ0 : Hid (∀ z, Whole ((w.alloc (.cells (encO A c A2 c2 x).toArray 72)).alloc (.cells z 40)) (w.heap.size + 1) 40 z) := by
    intro z
    have := Whole.made (w.alloc (.cells (encO A c A2 c2 x).toArray 72)) 40 z
    simpa using this
  have HB0 := Lib.hid fun z => hB.alloc (by simp) (.cells z 40)
  have HQ : Hid (idO x = if mayO' x then ⟨nameO x, nameO_len x⟩ else default) := rfl
  have HN : Hid (nameO x = ShaM.sha (named x.kind (bytesO x))) := rfl
  clear hW hB hA0 hA ht hl
  generalize (encO A c A2 c2 x).toArray = cs at *
  go_enter Tryz.func44, Tryz.ntmps44
  go_upto_region 1 with fail
  rw [HZ.out]
  have HZS := Lib.hid (encN_size default)
  generalize (encN default).toArray = z at *
  have HW1 := Lib.hid (HW0.out z)
  have HZ1 := Lib.hid (HZ0.out z)
  have HB1 := Lib.hid (HB0.out z)
  have HP1 := Lib.hid (HOP.out _ ((Below.refl _ _).alloc (Nat.le_refl _) (.cells z 40)))
  clear HW0 HZ0 HB0 HOP
  generalize (w.alloc (.cells cs 72)).alloc (.cells z 40) = w0 at *
  go_wp2_with (refine wpList_load_row rfl 72 _ rfl w.heap.size rfl 72 cs (0, 0) _ HW1.out Tryz.underlying72 rfl HXS.out ?_)
  refine HP1.out.mono ?_
  rintro e w2 ⟨rfl, hb⟩
  have HB2 := Lib.hid (HB1.out.trans (hb.mono HB1.out.size))
  have hw2 := HW1.out.below hb HW1.out.lt
  have HZ2 := Lib.hid (HZ1.out.below hb HZ1.out.lt)
  have e0 := (hw2.at_ 0).trans E0.out
  clear hb hw2
  cases hm : mayO' x with
  | false =>
    have HM := Lib.hid hm
    have HIO : Hid (idO x = default) := by show _ = _; rw [HQ.out, hm]; rfl
    have HIX := Lib.hid (infoXs default)
    have HIA := Lib.hid (encN_all default)
    have HIS := Lib.hid (encN_size default)
    clear hm HQ
    go_wp2_with (refine wpList_store_whole rfl 40 _ _ rfl (w.heap.size + 1) (encN default).toArray rfl rfl 40 z HZ2.out HIX.out (by rw [HIS.out]; exact HZS.out) HIA.out ?_; intro w9 hWn hGn; have HW9 := Lib.hid hWn; have HG9 := Lib.hid hGn; clear hWn hGn)
    have HB9 := Lib.hid (be_grown HB2.out HG9.out HB2.out.size (fun j hj => by injection hj with hj; omega))
    refine bodyPost_ret (v := .tuple #[.agg (encN default).toArray, .bool false]) (results_irow rfl _ _ _ (w.heap.size + 1) _ _ rfl rfl HW9.out HIX.out) rfl ⟨by rw [HIO.out, HM.out], HB9.out⟩
  | true =>
    rw [hno] at hm
    cases hm
end Go.Proofs.YtacmdpfidakkkaaGreatDoor

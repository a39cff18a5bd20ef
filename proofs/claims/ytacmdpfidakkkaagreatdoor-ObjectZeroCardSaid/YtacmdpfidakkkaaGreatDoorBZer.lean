/-
  ObjectZero, walked.
-/
import Derived.Test.YtacmdpfidakkkaaGreatDoorBegS
import Derived.Test.YtacmdpfidakkkaaGreatDoorLObj
import Derived.Test.YtacmdpfidakkkaaGreatDoorRObM
import Derived.Test.YtacmdpfidakkkaaGreatDoorOidN
namespace Go.Proofs.YtacmdpfidakkkaaGreatDoor
open Go.RowKit

theorem encO_set37 (A : Option Addr) (c : Nat) (A2 : Option Addr) (c2 : Nat) (x : Ob) (n : List UInt8) : (encO A c A2 c2 x).toArray.setIfInBounds 37 (.string ⟨n.toArray⟩) = (encO A c A2 c2 ⟨x.kind, x.blob, x.entries, ⟨x.commit.tree, x.commit.parents, x.commit.time, n⟩⟩).toArray := by
  simp [encO, encC, encN_len]
theorem encO_set36 (A : Option Addr) (c : Nat) (A2 : Option Addr) (c2 : Nat) (x : Ob) (t : Nat) : (encO A c A2 c2 x).toArray.setIfInBounds 36 (.float .f64 t) = (encO A c A2 c2 ⟨x.kind, x.blob, x.entries, ⟨x.commit.tree, x.commit.parents, t, x.commit.note⟩⟩).toArray := by
  simp [encO, encC, encN_len]
theorem encO_36 (A : Option Addr) (c : Nat) (A2 : Option Addr) (c2 : Nat) (x : Ob) : (encO A c A2 c2 x).toArray[36]? = some (.float .f64 x.commit.time) := by
  simp [encO, encC, encN_len]
theorem encO_37 (A : Option Addr) (c : Nat) (A2 : Option Addr) (c2 : Nat) (x : Ob) : (encO A c A2 c2 x).toArray[37]? = some (.string ⟨x.commit.note.toArray⟩) := by
  simp [encO, encC, encN_len]
theorem arg_oneE {w : World} {g : Nat} {x : En} (h : Whole w g 42 (encE x).toArray) : ArgE w (some ⟨g, 0, none⟩) 1 [x] := by
  refine ⟨Nat.le_refl _, by unfold maxLen; omega, (fun e => by cases e), fun _ => ⟨g, 0, rfl, fun i hi j v hv => ?_⟩⟩
  obtain rfl : i = 0 := by simpa using hi
  rw [show 0 + 0 * 34 + j = j by omega, h.at_, List.getElem?_toArray]
  exact hv
def eA : En := ⟨[97], false, zE.id⟩
theorem mayO_kind {y : Ob} (h : mayO' y = true) : y.kind = 1 ∨ y.kind = 2 ∨ y.kind = 3 := by
  by_cases h1 : y.kind = 1
  · exact .inl h1
  by_cases h2 : y.kind = 2
  · exact .inr (.inl h2)
  by_cases h3 : y.kind = 3
  · exact .inr (.inr h3)
  rw [mayO_4 y h1 h2 h3] at h
  cases h
theorem no_blob (y : Ob) (h : y.kind = 2 ∨ y.kind = 3) : mayO' ⟨y.kind, [120], y.entries, y.commit⟩ = false := by
  rcases h with h | h
  · refine (mayO_2 ⟨y.kind, [120], y.entries, y.commit⟩ h).trans ?_
    rfl
  · refine (mayO_3 ⟨y.kind, [120], y.entries, y.commit⟩ h).trans ?_
    rfl
theorem no_note (y : Ob) (h : y.kind = 1) : mayO' ⟨y.kind, y.blob, y.entries, ⟨y.commit.tree, y.commit.parents, y.commit.time, [120]⟩⟩ = false := by
  refine (mayO_1 ⟨y.kind, y.blob, y.entries, ⟨y.commit.tree, y.commit.parents, y.commit.time, [120]⟩⟩ h).trans ?_
  simp [eqC, noC]
theorem no_ents (y : Ob) (h : y.kind = 1 ∨ y.kind = 3) : mayO' ⟨y.kind, y.blob, [eA], y.commit⟩ = false := by
  rcases h with h | h
  · refine (mayO_1 ⟨y.kind, y.blob, [eA], y.commit⟩ h).trans ?_
    simp
  · refine (mayO_3 ⟨y.kind, y.blob, [eA], y.commit⟩ h).trans ?_
    simp
theorem no_when (y : Ob) (h : y.kind = 2) : mayO' ⟨y.kind, y.blob, y.entries, ⟨y.commit.tree, y.commit.parents, 4607182418800017408, y.commit.note⟩⟩ = false := by
  refine (mayO_2 ⟨y.kind, y.blob, y.entries, ⟨y.commit.tree, y.commit.parents, 4607182418800017408, y.commit.note⟩⟩ h).trans ?_
  have : (bitsV 4607182418800017408 == bitsV 0) = false := by decide +kernel
  simp [eqC, noC, this]
set_option maxRecDepth 100000 in
set_option maxHeartbeats 8000000 in
theorem bzer_any (A : Option Addr) (c : Nat) (A2 : Option Addr) (c2 : Nat) (x : Ob) (k : Int) (w : World) (hE : Env w) (hT : Tens w) (hA : ArgO w A c A2 c2 x) (hnl : ∀ e ∈ x.entries, e.name.length ≤ maxLen) (ht : x.commit.time < 18446744073709551616) :
    Calls Tryz.prog 12 #[.agg (encO A c A2 c2 x).toArray, .int .i64 k] w fun e w' => e = .returned (.bool true) ∧ Below w.heap.size w w' := by
  obtain ⟨hW, hB, hA0⟩ := obox A c A2 c2 x w hA
  have HT := Lib.hid (hT.below hB)
  have HE := Lib.hid (hE.at_ hB)
  have HW := Lib.hid hW
  have HB := Lib.hid hB
  have HA := Lib.hid hA0
  have HXI := Lib.hid (infoO_l A c A2 c2 x)
  have HXZ := Lib.hid (encO_s A c A2 c2 x)
  have HYT : Hid ((trimO x).commit.time < 18446744073709551616) := ht
  have HYE : Hid ((trimO x).entries.length ≤ 22) := by show (x.entries.take 22).length ≤ 22; rw [List.length_take]; omega
  have HYP : Hid ((trimO x).commit.parents.length ≤ 6) := by show (x.commit.parents.take 6).length ≤ 6; rw [List.length_take]; omega
  have HYN : Hid (∀ e ∈ (trimO x).entries, e.name.length ≤ 9223372036854775807) := fun e he => hnl e (List.mem_of_mem_take he)
  clear hE hT hW hB hA0 hA ht hnl
  go_enter Tryz.func12, Tryz.ntmps12
  go_wp2_with fail
  generalize w.alloc (.cells (encO A c A2 c2 x).toArray 72) = w0 at *
  refine (begun6_any w0 HE.out HT.out).mono ?_
  rintro e w1 ⟨rfl, hb⟩
  have HB1 := Lib.hid (HB.out.trans (hb.mono HB.out.size))
  have HW1 := Lib.hid (HW.out.below hb HW.out.lt)
  have HA1 := Lib.hid (HA.out.later hb)
  have HR1 := Lib.hid (whole_range HW1.out)
  clear hb HE HT HB HW HA
  go_wp2_with (refine wpList_load_mid rfl 72 _ rfl w.heap.size 0 rfl (encO A c A2 c2 x) _ HR1.out Tryz.underlying72 rfl HXI.out ?_)
  refine (lobj_any A c A2 c2 x w1 HA1.out).mono ?_
  rintro e w2 ⟨⟨A3, c3, B3, d3, rfl, ha, hlo, hlo2⟩, hb⟩
  have HB2 := Lib.hid (HB1.out.trans (hb.mono HB1.out.size))
  have HW2 := Lib.hid (HW1.out.below hb HW1.out.lt)
  have hs1 := HW1.out.lt
  have HLO : Hid (∀ j, inBlk A3 j → w.heap.size < j) := fun j hj => by have := hlo j hj; omega
  have HLO2 : Hid (∀ j, inBlk B3 j → w.heap.size < j) := fun j hj => by have := hlo2 j hj; omega
  have HA2 := Lib.hid ha
  clear hb ha hlo hlo2 HB1 HW1 HA1 HR1
  generalize trimO x = y at *
  have HYI := Lib.hid (infoO_s A3 c3 B3 d3 y)
  have HYL := Lib.hid (infoO_l A3 c3 B3 d3 y)
  have HYS := Lib.hid (encO_s A3 c3 B3 d3 y)
  have HYO := Lib.hid (encO_all A3 c3 B3 d3 y)
  go_upto_region 5 with (refine wpList_store_whole rfl 72 _ _ rfl w.heap.size (encO A3 c3 B3 d3 y).toArray rfl rfl 72 _ HW2.out HYI.out (by rw [HYS.out, HXZ.out]) HYO.out ?_; intro w3 hWn hGn; have HW3 := Lib.hid hWn; have HG3 := Lib.hid hGn; clear hWn hGn)
  have HB3 := Lib.hid (be_grown HB2.out HG3.out (by have := HB2.out.size; exact this) (fun j hj => by injection hj with hj; omega))
  have HA3 : Hid (ArgO w3 A3 c3 B3 d3 y) := ⟨HA2.out.1.grown HG3.out (fun j hj _ e => by injection e with e; have := HLO.out j hj; omega), HA2.out.2.grown HG3.out (fun j hj _ e => by injection e with e; have := HLO2.out j hj; omega)⟩
  have HR3 := Lib.hid (whole_range HW3.out)
  clear HB2 HW2 HA2 HG3 HXI HXZ
  go_wp2_with (refine wpList_load_mid rfl 72 _ rfl w.heap.size 0 rfl (encO A3 c3 B3 d3 y) _ HR3.out Tryz.underlying72 rfl HYL.out ?_)
  refine (rmayO_any A3 c3 B3 d3 y w3 HA3.out HYT.out (by have := HYE.out; omega) HYN.out (by have := HYP.out; omega)).mono ?_
  rintro e w4 ⟨rfl, hb⟩
  have HB4 := Lib.hid (HB3.out.trans (hb.mono HB3.out.size))
  have HW4 := Lib.hid (HW3.out.below hb HW3.out.lt)
  have HA4 := Lib.hid (HA3.out.later hb)
  clear hb HB3 HW3 HA3 HR3
  cases hmo : mayO' y with
  | false =>
    go_wp2
    go_ret
    exact ⟨rfl, HB4.out⟩
  | true =>
    have e0 := (HW4.out.at_ 0).trans (encO_0 A3 c3 B3 d3 y)
    have hkind := mayO_kind hmo
    clear hmo
    obtain ⟨kb, hkb⟩ : ∃ kb, (bits BinOp.and IntKind.i64 k 1 == 1) = kb := ⟨_, rfl⟩
    rcases hkind with hk | hk | hk <;> cases kb
    · have HK : (y.kind = 1 ∨ y.kind = 3) := .inl hk
      have n1 : (y.kind != 1) = false := by rw [hk]; rfl
      have n2 : (y.kind != 2) = true := by rw [hk]; rfl
      have HKH := Lib.hid HK
      clear hk HK
      have hlt4 := HW4.out.lt
      have hba4 := (Below.refl w4.heap.size w4).alloc (Nat.le_refl _) (.cells (#[Value.string ⟨#[97]⟩, Value.bool false, Value.int IntKind.u8 0, Value.int IntKind.u8 0, Value.int IntKind.u8 0, Value.int IntKind.u8 0, Value.int IntKind.u8 0, Value.int IntKind.u8 0, Value.int IntKind.u8 0, Value.int IntKind.u8 0, Value.int IntKind.u8 0, Value.int IntKind.u8 0, Value.int IntKind.u8 0, Value.int IntKind.u8 0, Value.int IntKind.u8 0, Value.int IntKind.u8 0, Value.int IntKind.u8 0, Value.int IntKind.u8 0, Value.int IntKind.u8 0, Value.int IntKind.u8 0, Value.int IntKind.u8 0, Value.int IntKind.u8 0, Value.int IntKind.u8 0, Value.int IntKind.u8 0, Value.int IntKind.u8 0, Value.int IntKind.u8 0, Value.int IntKind.u8 0, Value.int IntKind.u8 0, Value.int IntKind.u8 0, Value.int IntKind.u8 0, Value.int IntKind.u8 0, Value.int IntKind.u8 0, Value.int IntKind.u8 0, Value.int IntKind.u8 0] : Array Value) 42)
      have d1 : (w4.alloc (.cells (#[Value.string ⟨#[97]⟩, Value.bool false, Value.int IntKind.u8 0, Value.int IntKind.u8 0, Value.int IntKind.u8 0, Value.int IntKind.u8 0, Value.int IntKind.u8 0, Value.int IntKind.u8 0, Value.int IntKind.u8 0, Value.int IntKind.u8 0, Value.int IntKind.u8 0, Value.int IntKind.u8 0, Value.int IntKind.u8 0, Value.int IntKind.u8 0, Value.int IntKind.u8 0, Value.int IntKind.u8 0, Value.int IntKind.u8 0, Value.int IntKind.u8 0, Value.int IntKind.u8 0, Value.int IntKind.u8 0, Value.int IntKind.u8 0, Value.int IntKind.u8 0, Value.int IntKind.u8 0, Value.int IntKind.u8 0, Value.int IntKind.u8 0, Value.int IntKind.u8 0, Value.int IntKind.u8 0, Value.int IntKind.u8 0, Value.int IntKind.u8 0, Value.int IntKind.u8 0, Value.int IntKind.u8 0, Value.int IntKind.u8 0, Value.int IntKind.u8 0, Value.int IntKind.u8 0] : Array Value) 42)).cell? ⟨w.heap.size, 2, none⟩ = some (.slice A3 y.entries.length c3) := ((HW4.out.below hba4 hlt4).at_ 2).trans (encO_2 A3 c3 B3 d3 y)
      have f1 := (HW4.out.below hba4 hlt4).thawed 2
      clear hba4
      go_upto_region 14 with fail
      rw [show (#[Value.string ⟨#[97]⟩, Value.bool false, Value.int IntKind.u8 0, Value.int IntKind.u8 0, Value.int IntKind.u8 0, Value.int IntKind.u8 0, Value.int IntKind.u8 0, Value.int IntKind.u8 0, Value.int IntKind.u8 0, Value.int IntKind.u8 0, Value.int IntKind.u8 0, Value.int IntKind.u8 0, Value.int IntKind.u8 0, Value.int IntKind.u8 0, Value.int IntKind.u8 0, Value.int IntKind.u8 0, Value.int IntKind.u8 0, Value.int IntKind.u8 0, Value.int IntKind.u8 0, Value.int IntKind.u8 0, Value.int IntKind.u8 0, Value.int IntKind.u8 0, Value.int IntKind.u8 0, Value.int IntKind.u8 0, Value.int IntKind.u8 0, Value.int IntKind.u8 0, Value.int IntKind.u8 0, Value.int IntKind.u8 0, Value.int IntKind.u8 0, Value.int IntKind.u8 0, Value.int IntKind.u8 0, Value.int IntKind.u8 0, Value.int IntKind.u8 0, Value.int IntKind.u8 0] : Array Value) = (encE eA).toArray by kernel_rfl]
      rw [show (w4.setCell ⟨w.heap.size, 2, none⟩ (.slice (some ⟨w4.heap.size, 0, none⟩) 1 1)).alloc (.cells (encE eA).toArray 42) = (w4.alloc (.cells (encE eA).toArray 42)).setCell ⟨w.heap.size, 2, none⟩ (.slice (some ⟨w4.heap.size, 0, none⟩) 1 1) from (World.setCell_alloc_past _ _ _ _ hlt4).symm]
      have HK := HKH.out
      clear d1 f1 n1 n2 hkb HKH
      have hba := (Below.refl w4.heap.size w4).alloc (Nat.le_refl _) (.cells (encE eA).toArray 42)
      have hW5 := (HW4.out.below hba hlt4).put 2 (.slice (some ⟨w4.heap.size, 0, none⟩) [eA].length 1)
      rw [encO_set2 A3 c3 B3 d3 y (some ⟨w4.heap.size, 0, none⟩) 1 [eA]] at hW5
      have hg5 := gr_set (a := (w4.alloc (.cells (encE eA).toArray 42))) (w := (w4.alloc (.cells (encE eA).toArray 42))) (row := some w.heap.size) (gr_refl _ _) (p := ⟨w.heap.size, 2, none⟩) (.inl rfl) (.slice (some ⟨w4.heap.size, 0, none⟩) [eA].length 1)
      have HNO := Lib.hid (no_ents y HK)
      have hA5 : ArgO ((w4.alloc (.cells (encE eA).toArray 42)).setCell ⟨w.heap.size, 2, none⟩ (.slice (some ⟨w4.heap.size, 0, none⟩) [eA].length 1)) (some ⟨w4.heap.size, 0, none⟩) 1 B3 d3 ⟨y.kind, y.blob, [eA], y.commit⟩ := ⟨(arg_oneE (Whole.made w4 42 (encE eA).toArray)).grown hg5 (fun j hj _ e => by injection e with e; obtain ⟨a9, h9, h10⟩ := hj; injection h9 with h9; rw [← h9] at h10; dsimp only at h10; omega), (HA4.out.2.later hba).grown hg5 (fun j hj _ e => by injection e with e; have := HLO2.out j hj; omega)⟩
      have hB5 := (HB4.out.alloc HB4.out.size (.cells (encE eA).toArray 42)).setCell (p := ⟨w.heap.size, 2, none⟩) (Nat.le_refl _) (.slice (some ⟨w4.heap.size, 0, none⟩) [eA].length 1)
      obtain ⟨y1, hy1⟩ : ∃ y1 : Ob, y1 = ⟨y.kind, y.blob, [eA], y.commit⟩ := ⟨_, rfl⟩
      have HT1 : Hid (y1.commit.time < 18446744073709551616) := by show _ < _; rw [hy1]; exact HYT.out
      have HE1 : Hid (y1.entries.length ≤ 22) := by show _ ≤ _; rw [hy1]; show 1 ≤ 22; omega
      rw [← hy1] at hW5 hA5 HNO
      clear hy1 hg5 hba
      change Whole ((w4.alloc (.cells (encE eA).toArray 42)).setCell ⟨w.heap.size, 2, none⟩ (.slice (some ⟨w4.heap.size, 0, none⟩) 1 1)) _ _ _ at hW5
      change ArgO ((w4.alloc (.cells (encE eA).toArray 42)).setCell ⟨w.heap.size, 2, none⟩ (.slice (some ⟨w4.heap.size, 0, none⟩) 1 1)) _ _ _ _ _ at hA5
      change Below _ _ ((w4.alloc (.cells (encE eA).toArray 42)).setCell ⟨w.heap.size, 2, none⟩ (.slice (some ⟨w4.heap.size, 0, none⟩) 1 1)) at hB5
      generalize (w4.alloc (.cells (encE eA).toArray 42)).setCell ⟨w.heap.size, 2, none⟩ (.slice (some ⟨w4.heap.size, 0, none⟩) 1 1) = w5 at *
      have HW5 := Lib.hid hW5
      have HA5 := Lib.hid hA5
      have HB5 := Lib.hid hB5
      clear hW5 hA5 hB5 HW4 HA4 HB4 HYI HYL HYS HYO HYT HYE HYP HYN HK e0
      have hlt5 := HW5.out.lt
      have HR5 := Lib.hid (whole_range HW5.out)
      have HLI := Lib.hid (infoO_l (some ⟨w4.heap.size, 0, none⟩) 1 B3 d3 y1)
      have hput := oput_any (some ⟨w4.heap.size, 0, none⟩) 1 B3 d3 y1 w5 HA5.out HT1.out (by have := HE1.out; omega)
      rw [HNO.out, if_neg (by decide)] at hput
      have HPUT := Lib.hid hput
      clear hput
      go_wp2_with (refine wpList_load_mid rfl 72 _ rfl w.heap.size 0 rfl (encO (some ⟨w4.heap.size, 0, none⟩) 1 B3 d3 y1) _ HR5.out Tryz.underlying72 rfl HLI.out ?_)
      refine HPUT.out.mono ?_
      rintro e w6 ⟨rfl, hb⟩
      have HB6 := Lib.hid (HB5.out.trans (hb.mono HB5.out.size))
      have HW6 := Lib.hid (HW5.out.below hb hlt5)
      have HA6 := Lib.hid (HA5.out.later hb)
      have HR6 := Lib.hid (whole_range HW6.out)
      have hoid := oid_none (some ⟨w4.heap.size, 0, none⟩) 1 B3 d3 y1 w6 HA6.out HT1.out (by have := HE1.out; omega) HNO.out
      rw [HNO.out] at hoid
      have hz6 : idO y1 = default := by unfold idO; rw [HNO.out]; rfl
      rw [hz6] at hoid
      have HOID := Lib.hid hoid
      clear hb HPUT HB5 HW5 HA5 HR5 hoid hz6
      go_wp2_with (refine wpList_load_mid rfl 72 _ rfl w.heap.size 0 rfl (encO (some ⟨w4.heap.size, 0, none⟩) 1 B3 d3 y1) _ HR6.out Tryz.underlying72 rfl HLI.out ?_)
      refine HOID.out.mono ?_
      rintro e w7 ⟨rfl, hb⟩
      have HB7 := Lib.hid (HB6.out.trans (hb.mono HB6.out.size))
      have HW7 := Lib.hid (HW6.out.below hb HW6.out.lt)
      have HA7 := Lib.hid (HA6.out.later hb)
      have HIS := Lib.hid (infoXs default)
      have HIZ := Lib.hid (encN_size default)
      have HIO := Lib.hid (encN_all default)
      clear hb HOID HB6 HW6 HA6 HR6
      generalize (encN default).toArray = zn at *
      go_upto_region 16 with (refine wpList_store_whole rfl 40 _ _ rfl w7.heap.size zn rfl rfl 40 _ (Whole.made w7 _ _) HIS.out (by rw [HIZ.out]; kernel_rfl) HIO.out ?_; intro w8 hWn hGn; have HD8 := Lib.hid (made_below' hGn); clear hWn hGn)
      have HB8 := Lib.hid (HB7.out.trans (HD8.out.mono HB7.out.size))
      have HW8 := Lib.hid (HW7.out.below HD8.out HW7.out.lt)
      have HA8 := Lib.hid (HA7.out.later HD8.out)
      have HR8 := Lib.hid (whole_range HW8.out)
      have hmy := omay_any (some ⟨w4.heap.size, 0, none⟩) 1 B3 d3 y1 w8 HA8.out HT1.out (by have := HE1.out; omega)
      rw [HNO.out] at hmy
      have HMY := Lib.hid hmy
      clear hmy HB7 HW7 HA7
      go_wp2_with (refine wpList_load_mid rfl 72 _ rfl w.heap.size 0 rfl (encO (some ⟨w4.heap.size, 0, none⟩) 1 B3 d3 y1) _ HR8.out Tryz.underlying72 rfl HLI.out ?_)
      refine HMY.out.mono ?_
      rintro e w9 ⟨rfl, hb⟩
      have HB9 := Lib.hid (HB8.out.trans (hb.mono HB8.out.size))
      clear hb
      go_wp2
      go_ret
      exact ⟨rfl, HB9.out⟩
    · have HK : (y.kind = 1) := hk
      have n1 : (y.kind != 1) = false := by rw [hk]; rfl
      have n2 : (y.kind != 2) = true := by rw [hk]; rfl
      have HKH := Lib.hid HK
      clear hk HK
      have d1 := (HW4.out.at_ 37).trans (encO_37 A3 c3 B3 d3 y)
      have f1 := HW4.out.thawed 37
      go_upto_region 14 with fail
      have HK := HKH.out
      clear d1 f1 n1 n2 hkb HKH
      have hW5 := HW4.out.put 37 (.string ⟨([120] : List UInt8).toArray⟩)
      rw [encO_set37 A3 c3 B3 d3 y [120]] at hW5
      have hg5 := gr_set (a := w4) (w := w4) (row := some w.heap.size) (gr_refl _ _) (p := ⟨w.heap.size, 37, none⟩) (.inl rfl) (.string ⟨([120] : List UInt8).toArray⟩)
      have HNO := Lib.hid (no_note y HK)
      have hA5 : ArgO (w4.setCell ⟨w.heap.size, 37, none⟩ (.string ⟨([120] : List UInt8).toArray⟩)) A3 c3 B3 d3 ⟨y.kind, y.blob, y.entries, ⟨y.commit.tree, y.commit.parents, y.commit.time, [120]⟩⟩ := ⟨HA4.out.1.grown hg5 (fun j hj _ e => by injection e with e; have := HLO.out j hj; omega), HA4.out.2.grown hg5 (fun j hj _ e => by injection e with e; have := HLO2.out j hj; omega)⟩
      have hB5 := HB4.out.setCell (p := ⟨w.heap.size, 37, none⟩) (Nat.le_refl _) (.string ⟨([120] : List UInt8).toArray⟩)
      obtain ⟨y1, hy1⟩ : ∃ y1 : Ob, y1 = ⟨y.kind, y.blob, y.entries, ⟨y.commit.tree, y.commit.parents, y.commit.time, [120]⟩⟩ := ⟨_, rfl⟩
      have HT1 : Hid (y1.commit.time < 18446744073709551616) := by show _ < _; rw [hy1]; exact HYT.out
      have HE1 : Hid (y1.entries.length ≤ 22) := by show _ ≤ _; rw [hy1]; exact HYE.out
      rw [← hy1] at hW5 hA5 HNO
      clear hy1 hg5
      change Whole (w4.setCell ⟨w.heap.size, 37, none⟩ (.string ⟨#[120]⟩)) _ _ _ at hW5
      change ArgO (w4.setCell ⟨w.heap.size, 37, none⟩ (.string ⟨#[120]⟩)) _ _ _ _ _ at hA5
      change Below _ _ (w4.setCell ⟨w.heap.size, 37, none⟩ (.string ⟨#[120]⟩)) at hB5
      generalize w4.setCell ⟨w.heap.size, 37, none⟩ (.string ⟨#[120]⟩) = w5 at *
      have HW5 := Lib.hid hW5
      have HA5 := Lib.hid hA5
      have HB5 := Lib.hid hB5
      clear hW5 hA5 hB5 HW4 HA4 HB4 HYI HYL HYS HYO HYT HYE HYP HYN HK e0
      have hlt5 := HW5.out.lt
      have HR5 := Lib.hid (whole_range HW5.out)
      have HLI := Lib.hid (infoO_l A3 c3 B3 d3 y1)
      have hput := oput_any A3 c3 B3 d3 y1 w5 HA5.out HT1.out (by have := HE1.out; omega)
      rw [HNO.out, if_neg (by decide)] at hput
      have HPUT := Lib.hid hput
      clear hput
      go_wp2_with (refine wpList_load_mid rfl 72 _ rfl w.heap.size 0 rfl (encO A3 c3 B3 d3 y1) _ HR5.out Tryz.underlying72 rfl HLI.out ?_)
      refine HPUT.out.mono ?_
      rintro e w6 ⟨rfl, hb⟩
      have HB6 := Lib.hid (HB5.out.trans (hb.mono HB5.out.size))
      have HW6 := Lib.hid (HW5.out.below hb hlt5)
      have HA6 := Lib.hid (HA5.out.later hb)
      have HR6 := Lib.hid (whole_range HW6.out)
      have hoid := oid_none A3 c3 B3 d3 y1 w6 HA6.out HT1.out (by have := HE1.out; omega) HNO.out
      rw [HNO.out] at hoid
      have hz6 : idO y1 = default := by unfold idO; rw [HNO.out]; rfl
      rw [hz6] at hoid
      have HOID := Lib.hid hoid
      clear hb HPUT HB5 HW5 HA5 HR5 hoid hz6
      go_wp2_with (refine wpList_load_mid rfl 72 _ rfl w.heap.size 0 rfl (encO A3 c3 B3 d3 y1) _ HR6.out Tryz.underlying72 rfl HLI.out ?_)
      refine HOID.out.mono ?_
      rintro e w7 ⟨rfl, hb⟩
      have HB7 := Lib.hid (HB6.out.trans (hb.mono HB6.out.size))
      have HW7 := Lib.hid (HW6.out.below hb HW6.out.lt)
      have HA7 := Lib.hid (HA6.out.later hb)
      have HIS := Lib.hid (infoXs default)
      have HIZ := Lib.hid (encN_size default)
      have HIO := Lib.hid (encN_all default)
      clear hb HOID HB6 HW6 HA6 HR6
      generalize (encN default).toArray = zn at *
      go_upto_region 16 with (refine wpList_store_whole rfl 40 _ _ rfl w7.heap.size zn rfl rfl 40 _ (Whole.made w7 _ _) HIS.out (by rw [HIZ.out]; kernel_rfl) HIO.out ?_; intro w8 hWn hGn; have HD8 := Lib.hid (made_below' hGn); clear hWn hGn)
      have HB8 := Lib.hid (HB7.out.trans (HD8.out.mono HB7.out.size))
      have HW8 := Lib.hid (HW7.out.below HD8.out HW7.out.lt)
      have HA8 := Lib.hid (HA7.out.later HD8.out)
      have HR8 := Lib.hid (whole_range HW8.out)
      have hmy := omay_any A3 c3 B3 d3 y1 w8 HA8.out HT1.out (by have := HE1.out; omega)
      rw [HNO.out] at hmy
      have HMY := Lib.hid hmy
      clear hmy HB7 HW7 HA7
      go_wp2_with (refine wpList_load_mid rfl 72 _ rfl w.heap.size 0 rfl (encO A3 c3 B3 d3 y1) _ HR8.out Tryz.underlying72 rfl HLI.out ?_)
      refine HMY.out.mono ?_
      rintro e w9 ⟨rfl, hb⟩
      have HB9 := Lib.hid (HB8.out.trans (hb.mono HB8.out.size))
      clear hb
      go_wp2
      go_ret
      exact ⟨rfl, HB9.out⟩
    · have HK : (y.kind = 2) := hk
      have n1 : (y.kind != 1) = true := by rw [hk]; rfl
      have n2 : (y.kind != 2) = false := by rw [hk]; rfl
      have HKH := Lib.hid HK
      clear hk HK
      have d1 := (HW4.out.at_ 36).trans (encO_36 A3 c3 B3 d3 y)
      have f1 := HW4.out.thawed 36
      have hst : (store ⟨w.heap.size, 36, none⟩ (.float .f64 4607182418800017408)).run Tryz.prog w4 = .ok () (w4.setCell ⟨w.heap.size, 36, none⟩ (.float .f64 4607182418800017408)) := by
        rw [run_store _ _ _ _ _ rfl]
        simp [d1, f1]
      go_upto_region 14 with fail
      have HK := HKH.out
      clear d1 f1 hst n1 n2 hkb HKH
      have hW5 := HW4.out.put 36 (.float .f64 4607182418800017408)
      rw [encO_set36 A3 c3 B3 d3 y 4607182418800017408] at hW5
      have hg5 := gr_set (a := w4) (w := w4) (row := some w.heap.size) (gr_refl _ _) (p := ⟨w.heap.size, 36, none⟩) (.inl rfl) (.float .f64 4607182418800017408)
      have HNO := Lib.hid (no_when y HK)
      have hA5 : ArgO (w4.setCell ⟨w.heap.size, 36, none⟩ (.float .f64 4607182418800017408)) A3 c3 B3 d3 ⟨y.kind, y.blob, y.entries, ⟨y.commit.tree, y.commit.parents, 4607182418800017408, y.commit.note⟩⟩ := ⟨HA4.out.1.grown hg5 (fun j hj _ e => by injection e with e; have := HLO.out j hj; omega), HA4.out.2.grown hg5 (fun j hj _ e => by injection e with e; have := HLO2.out j hj; omega)⟩
      have hB5 := HB4.out.setCell (p := ⟨w.heap.size, 36, none⟩) (Nat.le_refl _) (.float .f64 4607182418800017408)
      obtain ⟨y1, hy1⟩ : ∃ y1 : Ob, y1 = ⟨y.kind, y.blob, y.entries, ⟨y.commit.tree, y.commit.parents, 4607182418800017408, y.commit.note⟩⟩ := ⟨_, rfl⟩
      have HT1 : Hid (y1.commit.time < 18446744073709551616) := by show _ < _; rw [hy1]; show (4607182418800017408 : Nat) < 18446744073709551616; decide
      have HE1 : Hid (y1.entries.length ≤ 22) := by show _ ≤ _; rw [hy1]; exact HYE.out
      rw [← hy1] at hW5 hA5 HNO
      clear hy1 hg5
      generalize w4.setCell ⟨w.heap.size, 36, none⟩ (.float .f64 4607182418800017408) = w5 at *
      have HW5 := Lib.hid hW5
      have HA5 := Lib.hid hA5
      have HB5 := Lib.hid hB5
      clear hW5 hA5 hB5 HW4 HA4 HB4 HYI HYL HYS HYO HYT HYE HYP HYN HK e0
      have hlt5 := HW5.out.lt
      have HR5 := Lib.hid (whole_range HW5.out)
      have HLI := Lib.hid (infoO_l A3 c3 B3 d3 y1)
      have hput := oput_any A3 c3 B3 d3 y1 w5 HA5.out HT1.out (by have := HE1.out; omega)
      rw [HNO.out, if_neg (by decide)] at hput
      have HPUT := Lib.hid hput
      clear hput
      go_wp2_with (refine wpList_load_mid rfl 72 _ rfl w.heap.size 0 rfl (encO A3 c3 B3 d3 y1) _ HR5.out Tryz.underlying72 rfl HLI.out ?_)
      refine HPUT.out.mono ?_
      rintro e w6 ⟨rfl, hb⟩
      have HB6 := Lib.hid (HB5.out.trans (hb.mono HB5.out.size))
      have HW6 := Lib.hid (HW5.out.below hb hlt5)
      have HA6 := Lib.hid (HA5.out.later hb)
      have HR6 := Lib.hid (whole_range HW6.out)
      have hoid := oid_none A3 c3 B3 d3 y1 w6 HA6.out HT1.out (by have := HE1.out; omega) HNO.out
      rw [HNO.out] at hoid
      have hz6 : idO y1 = default := by unfold idO; rw [HNO.out]; rfl
      rw [hz6] at hoid
      have HOID := Lib.hid hoid
      clear hb HPUT HB5 HW5 HA5 HR5 hoid hz6
      go_wp2_with (refine wpList_load_mid rfl 72 _ rfl w.heap.size 0 rfl (encO A3 c3 B3 d3 y1) _ HR6.out Tryz.underlying72 rfl HLI.out ?_)
      refine HOID.out.mono ?_
      rintro e w7 ⟨rfl, hb⟩
      have HB7 := Lib.hid (HB6.out.trans (hb.mono HB6.out.size))
      have HW7 := Lib.hid (HW6.out.below hb HW6.out.lt)
      have HA7 := Lib.hid (HA6.out.later hb)
      have HIS := Lib.hid (infoXs default)
      have HIZ := Lib.hid (encN_size default)
      have HIO := Lib.hid (encN_all default)
      clear hb HOID HB6 HW6 HA6 HR6
      generalize (encN default).toArray = zn at *
      go_upto_region 16 with (refine wpList_store_whole rfl 40 _ _ rfl w7.heap.size zn rfl rfl 40 _ (Whole.made w7 _ _) HIS.out (by rw [HIZ.out]; kernel_rfl) HIO.out ?_; intro w8 hWn hGn; have HD8 := Lib.hid (made_below' hGn); clear hWn hGn)
      have HB8 := Lib.hid (HB7.out.trans (HD8.out.mono HB7.out.size))
      have HW8 := Lib.hid (HW7.out.below HD8.out HW7.out.lt)
      have HA8 := Lib.hid (HA7.out.later HD8.out)
      have HR8 := Lib.hid (whole_range HW8.out)
      have hmy := omay_any A3 c3 B3 d3 y1 w8 HA8.out HT1.out (by have := HE1.out; omega)
      rw [HNO.out] at hmy
      have HMY := Lib.hid hmy
      clear hmy HB7 HW7 HA7
      go_wp2_with (refine wpList_load_mid rfl 72 _ rfl w.heap.size 0 rfl (encO A3 c3 B3 d3 y1) _ HR8.out Tryz.underlying72 rfl HLI.out ?_)
      refine HMY.out.mono ?_
      rintro e w9 ⟨rfl, hb⟩
      have HB9 := Lib.hid (HB8.out.trans (hb.mono HB8.out.size))
      clear hb
      go_wp2
      go_ret
      exact ⟨rfl, HB9.out⟩
    · have HK : (y.kind = 2 ∨ y.kind = 3) := .inl hk
      have n1 : (y.kind != 1) = true := by rw [hk]; rfl
      have n2 : (y.kind != 2) = false := by rw [hk]; rfl
      have HKH := Lib.hid HK
      clear hk HK
      have d1 := (HW4.out.at_ 1).trans (encO_1 A3 c3 B3 d3 y)
      have f1 := HW4.out.thawed 1
      go_upto_region 14 with fail
      have HK := HKH.out
      clear d1 f1 n1 n2 hkb HKH
      have hW5 := HW4.out.put 1 (.string ⟨([120] : List UInt8).toArray⟩)
      rw [encO_set1 A3 c3 B3 d3 y [120]] at hW5
      have hg5 := gr_set (a := w4) (w := w4) (row := some w.heap.size) (gr_refl _ _) (p := ⟨w.heap.size, 1, none⟩) (.inl rfl) (.string ⟨([120] : List UInt8).toArray⟩)
      have HNO := Lib.hid (no_blob y HK)
      have hA5 : ArgO (w4.setCell ⟨w.heap.size, 1, none⟩ (.string ⟨([120] : List UInt8).toArray⟩)) A3 c3 B3 d3 ⟨y.kind, [120], y.entries, y.commit⟩ := ⟨HA4.out.1.grown hg5 (fun j hj _ e => by injection e with e; have := HLO.out j hj; omega), HA4.out.2.grown hg5 (fun j hj _ e => by injection e with e; have := HLO2.out j hj; omega)⟩
      have hB5 := HB4.out.setCell (p := ⟨w.heap.size, 1, none⟩) (Nat.le_refl _) (.string ⟨([120] : List UInt8).toArray⟩)
      obtain ⟨y1, hy1⟩ : ∃ y1 : Ob, y1 = ⟨y.kind, [120], y.entries, y.commit⟩ := ⟨_, rfl⟩
      have HT1 : Hid (y1.commit.time < 18446744073709551616) := by show _ < _; rw [hy1]; exact HYT.out
      have HE1 : Hid (y1.entries.length ≤ 22) := by show _ ≤ _; rw [hy1]; exact HYE.out
      rw [← hy1] at hW5 hA5 HNO
      clear hy1 hg5
      change Whole (w4.setCell ⟨w.heap.size, 1, none⟩ (.string ⟨#[120]⟩)) _ _ _ at hW5
      change ArgO (w4.setCell ⟨w.heap.size, 1, none⟩ (.string ⟨#[120]⟩)) _ _ _ _ _ at hA5
      change Below _ _ (w4.setCell ⟨w.heap.size, 1, none⟩ (.string ⟨#[120]⟩)) at hB5
      generalize w4.setCell ⟨w.heap.size, 1, none⟩ (.string ⟨#[120]⟩) = w5 at *
      have HW5 := Lib.hid hW5
      have HA5 := Lib.hid hA5
      have HB5 := Lib.hid hB5
      clear hW5 hA5 hB5 HW4 HA4 HB4 HYI HYL HYS HYO HYT HYE HYP HYN HK e0
      have hlt5 := HW5.out.lt
      have HR5 := Lib.hid (whole_range HW5.out)
      have HLI := Lib.hid (infoO_l A3 c3 B3 d3 y1)
      have hput := oput_any A3 c3 B3 d3 y1 w5 HA5.out HT1.out (by have := HE1.out; omega)
      rw [HNO.out, if_neg (by decide)] at hput
      have HPUT := Lib.hid hput
      clear hput
      go_wp2_with (refine wpList_load_mid rfl 72 _ rfl w.heap.size 0 rfl (encO A3 c3 B3 d3 y1) _ HR5.out Tryz.underlying72 rfl HLI.out ?_)
      refine HPUT.out.mono ?_
      rintro e w6 ⟨rfl, hb⟩
      have HB6 := Lib.hid (HB5.out.trans (hb.mono HB5.out.size))
      have HW6 := Lib.hid (HW5.out.below hb hlt5)
      have HA6 := Lib.hid (HA5.out.later hb)
      have HR6 := Lib.hid (whole_range HW6.out)
      have hoid := oid_none A3 c3 B3 d3 y1 w6 HA6.out HT1.out (by have := HE1.out; omega) HNO.out
      rw [HNO.out] at hoid
      have hz6 : idO y1 = default := by unfold idO; rw [HNO.out]; rfl
      rw [hz6] at hoid
      have HOID := Lib.hid hoid
      clear hb HPUT HB5 HW5 HA5 HR5 hoid hz6
      go_wp2_with (refine wpList_load_mid rfl 72 _ rfl w.heap.size 0 rfl (encO A3 c3 B3 d3 y1) _ HR6.out Tryz.underlying72 rfl HLI.out ?_)
      refine HOID.out.mono ?_
      rintro e w7 ⟨rfl, hb⟩
      have HB7 := Lib.hid (HB6.out.trans (hb.mono HB6.out.size))
      have HW7 := Lib.hid (HW6.out.below hb HW6.out.lt)
      have HA7 := Lib.hid (HA6.out.later hb)
      have HIS := Lib.hid (infoXs default)
      have HIZ := Lib.hid (encN_size default)
      have HIO := Lib.hid (encN_all default)
      clear hb HOID HB6 HW6 HA6 HR6
      generalize (encN default).toArray = zn at *
      go_upto_region 16 with (refine wpList_store_whole rfl 40 _ _ rfl w7.heap.size zn rfl rfl 40 _ (Whole.made w7 _ _) HIS.out (by rw [HIZ.out]; kernel_rfl) HIO.out ?_; intro w8 hWn hGn; have HD8 := Lib.hid (made_below' hGn); clear hWn hGn)
      have HB8 := Lib.hid (HB7.out.trans (HD8.out.mono HB7.out.size))
      have HW8 := Lib.hid (HW7.out.below HD8.out HW7.out.lt)
      have HA8 := Lib.hid (HA7.out.later HD8.out)
      have HR8 := Lib.hid (whole_range HW8.out)
      have hmy := omay_any A3 c3 B3 d3 y1 w8 HA8.out HT1.out (by have := HE1.out; omega)
      rw [HNO.out] at hmy
      have HMY := Lib.hid hmy
      clear hmy HB7 HW7 HA7
      go_wp2_with (refine wpList_load_mid rfl 72 _ rfl w.heap.size 0 rfl (encO A3 c3 B3 d3 y1) _ HR8.out Tryz.underlying72 rfl HLI.out ?_)
      refine HMY.out.mono ?_
      rintro e w9 ⟨rfl, hb⟩
      have HB9 := Lib.hid (HB8.out.trans (hb.mono HB8.out.size))
      clear hb
      go_wp2
      go_ret
      exact ⟨rfl, HB9.out⟩
    · have HK : (y.kind = 1 ∨ y.kind = 3) := .inr hk
      have n1 : (y.kind != 1) = true := by rw [hk]; rfl
      have n2 : (y.kind != 2) = true := by rw [hk]; rfl
      have HKH := Lib.hid HK
      clear hk HK
      have hlt4 := HW4.out.lt
      have hba4 := (Below.refl w4.heap.size w4).alloc (Nat.le_refl _) (.cells (#[Value.string ⟨#[97]⟩, Value.bool false, Value.int IntKind.u8 0, Value.int IntKind.u8 0, Value.int IntKind.u8 0, Value.int IntKind.u8 0, Value.int IntKind.u8 0, Value.int IntKind.u8 0, Value.int IntKind.u8 0, Value.int IntKind.u8 0, Value.int IntKind.u8 0, Value.int IntKind.u8 0, Value.int IntKind.u8 0, Value.int IntKind.u8 0, Value.int IntKind.u8 0, Value.int IntKind.u8 0, Value.int IntKind.u8 0, Value.int IntKind.u8 0, Value.int IntKind.u8 0, Value.int IntKind.u8 0, Value.int IntKind.u8 0, Value.int IntKind.u8 0, Value.int IntKind.u8 0, Value.int IntKind.u8 0, Value.int IntKind.u8 0, Value.int IntKind.u8 0, Value.int IntKind.u8 0, Value.int IntKind.u8 0, Value.int IntKind.u8 0, Value.int IntKind.u8 0, Value.int IntKind.u8 0, Value.int IntKind.u8 0, Value.int IntKind.u8 0, Value.int IntKind.u8 0] : Array Value) 42)
      have d1 : (w4.alloc (.cells (#[Value.string ⟨#[97]⟩, Value.bool false, Value.int IntKind.u8 0, Value.int IntKind.u8 0, Value.int IntKind.u8 0, Value.int IntKind.u8 0, Value.int IntKind.u8 0, Value.int IntKind.u8 0, Value.int IntKind.u8 0, Value.int IntKind.u8 0, Value.int IntKind.u8 0, Value.int IntKind.u8 0, Value.int IntKind.u8 0, Value.int IntKind.u8 0, Value.int IntKind.u8 0, Value.int IntKind.u8 0, Value.int IntKind.u8 0, Value.int IntKind.u8 0, Value.int IntKind.u8 0, Value.int IntKind.u8 0, Value.int IntKind.u8 0, Value.int IntKind.u8 0, Value.int IntKind.u8 0, Value.int IntKind.u8 0, Value.int IntKind.u8 0, Value.int IntKind.u8 0, Value.int IntKind.u8 0, Value.int IntKind.u8 0, Value.int IntKind.u8 0, Value.int IntKind.u8 0, Value.int IntKind.u8 0, Value.int IntKind.u8 0, Value.int IntKind.u8 0, Value.int IntKind.u8 0] : Array Value) 42)).cell? ⟨w.heap.size, 2, none⟩ = some (.slice A3 y.entries.length c3) := ((HW4.out.below hba4 hlt4).at_ 2).trans (encO_2 A3 c3 B3 d3 y)
      have f1 := (HW4.out.below hba4 hlt4).thawed 2
      clear hba4
      go_upto_region 14 with fail
      rw [show (#[Value.string ⟨#[97]⟩, Value.bool false, Value.int IntKind.u8 0, Value.int IntKind.u8 0, Value.int IntKind.u8 0, Value.int IntKind.u8 0, Value.int IntKind.u8 0, Value.int IntKind.u8 0, Value.int IntKind.u8 0, Value.int IntKind.u8 0, Value.int IntKind.u8 0, Value.int IntKind.u8 0, Value.int IntKind.u8 0, Value.int IntKind.u8 0, Value.int IntKind.u8 0, Value.int IntKind.u8 0, Value.int IntKind.u8 0, Value.int IntKind.u8 0, Value.int IntKind.u8 0, Value.int IntKind.u8 0, Value.int IntKind.u8 0, Value.int IntKind.u8 0, Value.int IntKind.u8 0, Value.int IntKind.u8 0, Value.int IntKind.u8 0, Value.int IntKind.u8 0, Value.int IntKind.u8 0, Value.int IntKind.u8 0, Value.int IntKind.u8 0, Value.int IntKind.u8 0, Value.int IntKind.u8 0, Value.int IntKind.u8 0, Value.int IntKind.u8 0, Value.int IntKind.u8 0] : Array Value) = (encE eA).toArray by kernel_rfl]
      rw [show (w4.setCell ⟨w.heap.size, 2, none⟩ (.slice (some ⟨w4.heap.size, 0, none⟩) 1 1)).alloc (.cells (encE eA).toArray 42) = (w4.alloc (.cells (encE eA).toArray 42)).setCell ⟨w.heap.size, 2, none⟩ (.slice (some ⟨w4.heap.size, 0, none⟩) 1 1) from (World.setCell_alloc_past _ _ _ _ hlt4).symm]
      have HK := HKH.out
      clear d1 f1 n1 n2 hkb HKH
      have hba := (Below.refl w4.heap.size w4).alloc (Nat.le_refl _) (.cells (encE eA).toArray 42)
      have hW5 := (HW4.out.below hba hlt4).put 2 (.slice (some ⟨w4.heap.size, 0, none⟩) [eA].length 1)
      rw [encO_set2 A3 c3 B3 d3 y (some ⟨w4.heap.size, 0, none⟩) 1 [eA]] at hW5
      have hg5 := gr_set (a := (w4.alloc (.cells (encE eA).toArray 42))) (w := (w4.alloc (.cells (encE eA).toArray 42))) (row := some w.heap.size) (gr_refl _ _) (p := ⟨w.heap.size, 2, none⟩) (.inl rfl) (.slice (some ⟨w4.heap.size, 0, none⟩) [eA].length 1)
      have HNO := Lib.hid (no_ents y HK)
      have hA5 : ArgO ((w4.alloc (.cells (encE eA).toArray 42)).setCell ⟨w.heap.size, 2, none⟩ (.slice (some ⟨w4.heap.size, 0, none⟩) [eA].length 1)) (some ⟨w4.heap.size, 0, none⟩) 1 B3 d3 ⟨y.kind, y.blob, [eA], y.commit⟩ := ⟨(arg_oneE (Whole.made w4 42 (encE eA).toArray)).grown hg5 (fun j hj _ e => by injection e with e; obtain ⟨a9, h9, h10⟩ := hj; injection h9 with h9; rw [← h9] at h10; dsimp only at h10; omega), (HA4.out.2.later hba).grown hg5 (fun j hj _ e => by injection e with e; have := HLO2.out j hj; omega)⟩
      have hB5 := (HB4.out.alloc HB4.out.size (.cells (encE eA).toArray 42)).setCell (p := ⟨w.heap.size, 2, none⟩) (Nat.le_refl _) (.slice (some ⟨w4.heap.size, 0, none⟩) [eA].length 1)
      obtain ⟨y1, hy1⟩ : ∃ y1 : Ob, y1 = ⟨y.kind, y.blob, [eA], y.commit⟩ := ⟨_, rfl⟩
      have HT1 : Hid (y1.commit.time < 18446744073709551616) := by show _ < _; rw [hy1]; exact HYT.out
      have HE1 : Hid (y1.entries.length ≤ 22) := by show _ ≤ _; rw [hy1]; show 1 ≤ 22; omega
      rw [← hy1] at hW5 hA5 HNO
      clear hy1 hg5 hba
      change Whole ((w4.alloc (.cells (encE eA).toArray 42)).setCell ⟨w.heap.size, 2, none⟩ (.slice (some ⟨w4.heap.size, 0, none⟩) 1 1)) _ _ _ at hW5
      change ArgO ((w4.alloc (.cells (encE eA).toArray 42)).setCell ⟨w.heap.size, 2, none⟩ (.slice (some ⟨w4.heap.size, 0, none⟩) 1 1)) _ _ _ _ _ at hA5
      change Below _ _ ((w4.alloc (.cells (encE eA).toArray 42)).setCell ⟨w.heap.size, 2, none⟩ (.slice (some ⟨w4.heap.size, 0, none⟩) 1 1)) at hB5
      generalize (w4.alloc (.cells (encE eA).toArray 42)).setCell ⟨w.heap.size, 2, none⟩ (.slice (some ⟨w4.heap.size, 0, none⟩) 1 1) = w5 at *
      have HW5 := Lib.hid hW5
      have HA5 := Lib.hid hA5
      have HB5 := Lib.hid hB5
      clear hW5 hA5 hB5 HW4 HA4 HB4 HYI HYL HYS HYO HYT HYE HYP HYN HK e0
      have hlt5 := HW5.out.lt
      have HR5 := Lib.hid (whole_range HW5.out)
      have HLI := Lib.hid (infoO_l (some ⟨w4.heap.size, 0, none⟩) 1 B3 d3 y1)
      have hput := oput_any (some ⟨w4.heap.size, 0, none⟩) 1 B3 d3 y1 w5 HA5.out HT1.out (by have := HE1.out; omega)
      rw [HNO.out, if_neg (by decide)] at hput
      have HPUT := Lib.hid hput
      clear hput
      go_wp2_with (refine wpList_load_mid rfl 72 _ rfl w.heap.size 0 rfl (encO (some ⟨w4.heap.size, 0, none⟩) 1 B3 d3 y1) _ HR5.out Tryz.underlying72 rfl HLI.out ?_)
      refine HPUT.out.mono ?_
      rintro e w6 ⟨rfl, hb⟩
      have HB6 := Lib.hid (HB5.out.trans (hb.mono HB5.out.size))
      have HW6 := Lib.hid (HW5.out.below hb hlt5)
      have HA6 := Lib.hid (HA5.out.later hb)
      have HR6 := Lib.hid (whole_range HW6.out)
      have hoid := oid_none (some ⟨w4.heap.size, 0, none⟩) 1 B3 d3 y1 w6 HA6.out HT1.out (by have := HE1.out; omega) HNO.out
      rw [HNO.out] at hoid
      have hz6 : idO y1 = default := by unfold idO; rw [HNO.out]; rfl
      rw [hz6] at hoid
      have HOID := Lib.hid hoid
      clear hb HPUT HB5 HW5 HA5 HR5 hoid hz6
      go_wp2_with (refine wpList_load_mid rfl 72 _ rfl w.heap.size 0 rfl (encO (some ⟨w4.heap.size, 0, none⟩) 1 B3 d3 y1) _ HR6.out Tryz.underlying72 rfl HLI.out ?_)
      refine HOID.out.mono ?_
      rintro e w7 ⟨rfl, hb⟩
      have HB7 := Lib.hid (HB6.out.trans (hb.mono HB6.out.size))
      have HW7 := Lib.hid (HW6.out.below hb HW6.out.lt)
      have HA7 := Lib.hid (HA6.out.later hb)
      have HIS := Lib.hid (infoXs default)
      have HIZ := Lib.hid (encN_size default)
      have HIO := Lib.hid (encN_all default)
      clear hb HOID HB6 HW6 HA6 HR6
      generalize (encN default).toArray = zn at *
      go_upto_region 16 with (refine wpList_store_whole rfl 40 _ _ rfl w7.heap.size zn rfl rfl 40 _ (Whole.made w7 _ _) HIS.out (by rw [HIZ.out]; kernel_rfl) HIO.out ?_; intro w8 hWn hGn; have HD8 := Lib.hid (made_below' hGn); clear hWn hGn)
      have HB8 := Lib.hid (HB7.out.trans (HD8.out.mono HB7.out.size))
      have HW8 := Lib.hid (HW7.out.below HD8.out HW7.out.lt)
      have HA8 := Lib.hid (HA7.out.later HD8.out)
      have HR8 := Lib.hid (whole_range HW8.out)
      have hmy := omay_any (some ⟨w4.heap.size, 0, none⟩) 1 B3 d3 y1 w8 HA8.out HT1.out (by have := HE1.out; omega)
      rw [HNO.out] at hmy
      have HMY := Lib.hid hmy
      clear hmy HB7 HW7 HA7
      go_wp2_with (refine wpList_load_mid rfl 72 _ rfl w.heap.size 0 rfl (encO (some ⟨w4.heap.size, 0, none⟩) 1 B3 d3 y1) _ HR8.out Tryz.underlying72 rfl HLI.out ?_)
      refine HMY.out.mono ?_
      rintro e w9 ⟨rfl, hb⟩
      have HB9 := Lib.hid (HB8.out.trans (hb.mono HB8.out.size))
      clear hb
      go_wp2
      go_ret
      exact ⟨rfl, HB9.out⟩
    · have HK : (y.kind = 2 ∨ y.kind = 3) := .inr hk
      have n1 : (y.kind != 1) = true := by rw [hk]; rfl
      have n2 : (y.kind != 2) = true := by rw [hk]; rfl
      have HKH := Lib.hid HK
      clear hk HK
      have d1 := (HW4.out.at_ 1).trans (encO_1 A3 c3 B3 d3 y)
      have f1 := HW4.out.thawed 1
      go_upto_region 14 with fail
      have HK := HKH.out
      clear d1 f1 n1 n2 hkb HKH
      have hW5 := HW4.out.put 1 (.string ⟨([120] : List UInt8).toArray⟩)
      rw [encO_set1 A3 c3 B3 d3 y [120]] at hW5
      have hg5 := gr_set (a := w4) (w := w4) (row := some w.heap.size) (gr_refl _ _) (p := ⟨w.heap.size, 1, none⟩) (.inl rfl) (.string ⟨([120] : List UInt8).toArray⟩)
      have HNO := Lib.hid (no_blob y HK)
      have hA5 : ArgO (w4.setCell ⟨w.heap.size, 1, none⟩ (.string ⟨([120] : List UInt8).toArray⟩)) A3 c3 B3 d3 ⟨y.kind, [120], y.entries, y.commit⟩ := ⟨HA4.out.1.grown hg5 (fun j hj _ e => by injection e with e; have := HLO.out j hj; omega), HA4.out.2.grown hg5 (fun j hj _ e => by injection e with e; have := HLO2.out j hj; omega)⟩
      have hB5 := HB4.out.setCell (p := ⟨w.heap.size, 1, none⟩) (Nat.le_refl _) (.string ⟨([120] : List UInt8).toArray⟩)
      obtain ⟨y1, hy1⟩ : ∃ y1 : Ob, y1 = ⟨y.kind, [120], y.entries, y.commit⟩ := ⟨_, rfl⟩
      have HT1 : Hid (y1.commit.time < 18446744073709551616) := by show _ < _; rw [hy1]; exact HYT.out
      have HE1 : Hid (y1.entries.length ≤ 22) := by show _ ≤ _; rw [hy1]; exact HYE.out
      rw [← hy1] at hW5 hA5 HNO
      clear hy1 hg5
      change Whole (w4.setCell ⟨w.heap.size, 1, none⟩ (.string ⟨#[120]⟩)) _ _ _ at hW5
      change ArgO (w4.setCell ⟨w.heap.size, 1, none⟩ (.string ⟨#[120]⟩)) _ _ _ _ _ at hA5
      change Below _ _ (w4.setCell ⟨w.heap.size, 1, none⟩ (.string ⟨#[120]⟩)) at hB5
      generalize w4.setCell ⟨w.heap.size, 1, none⟩ (.string ⟨#[120]⟩) = w5 at *
      have HW5 := Lib.hid hW5
      have HA5 := Lib.hid hA5
      have HB5 := Lib.hid hB5
      clear hW5 hA5 hB5 HW4 HA4 HB4 HYI HYL HYS HYO HYT HYE HYP HYN HK e0
      have hlt5 := HW5.out.lt
      have HR5 := Lib.hid (whole_range HW5.out)
      have HLI := Lib.hid (infoO_l A3 c3 B3 d3 y1)
      have hput := oput_any A3 c3 B3 d3 y1 w5 HA5.out HT1.out (by have := HE1.out; omega)
      rw [HNO.out, if_neg (by decide)] at hput
      have HPUT := Lib.hid hput
      clear hput
      go_wp2_with (refine wpList_load_mid rfl 72 _ rfl w.heap.size 0 rfl (encO A3 c3 B3 d3 y1) _ HR5.out Tryz.underlying72 rfl HLI.out ?_)
      refine HPUT.out.mono ?_
      rintro e w6 ⟨rfl, hb⟩
      have HB6 := Lib.hid (HB5.out.trans (hb.mono HB5.out.size))
      have HW6 := Lib.hid (HW5.out.below hb hlt5)
      have HA6 := Lib.hid (HA5.out.later hb)
      have HR6 := Lib.hid (whole_range HW6.out)
      have hoid := oid_none A3 c3 B3 d3 y1 w6 HA6.out HT1.out (by have := HE1.out; omega) HNO.out
      rw [HNO.out] at hoid
      have hz6 : idO y1 = default := by unfold idO; rw [HNO.out]; rfl
      rw [hz6] at hoid
      have HOID := Lib.hid hoid
      clear hb HPUT HB5 HW5 HA5 HR5 hoid hz6
      go_wp2_with (refine wpList_load_mid rfl 72 _ rfl w.heap.size 0 rfl (encO A3 c3 B3 d3 y1) _ HR6.out Tryz.underlying72 rfl HLI.out ?_)
      refine HOID.out.mono ?_
      rintro e w7 ⟨rfl, hb⟩
      have HB7 := Lib.hid (HB6.out.trans (hb.mono HB6.out.size))
      have HW7 := Lib.hid (HW6.out.below hb HW6.out.lt)
      have HA7 := Lib.hid (HA6.out.later hb)
      have HIS := Lib.hid (infoXs default)
      have HIZ := Lib.hid (encN_size default)
      have HIO := Lib.hid (encN_all default)
      clear hb HOID HB6 HW6 HA6 HR6
      generalize (encN default).toArray = zn at *
      go_upto_region 16 with (refine wpList_store_whole rfl 40 _ _ rfl w7.heap.size zn rfl rfl 40 _ (Whole.made w7 _ _) HIS.out (by rw [HIZ.out]; kernel_rfl) HIO.out ?_; intro w8 hWn hGn; have HD8 := Lib.hid (made_below' hGn); clear hWn hGn)
      have HB8 := Lib.hid (HB7.out.trans (HD8.out.mono HB7.out.size))
      have HW8 := Lib.hid (HW7.out.below HD8.out HW7.out.lt)
      have HA8 := Lib.hid (HA7.out.later HD8.out)
      have HR8 := Lib.hid (whole_range HW8.out)
      have hmy := omay_any A3 c3 B3 d3 y1 w8 HA8.out HT1.out (by have := HE1.out; omega)
      rw [HNO.out] at hmy
      have HMY := Lib.hid hmy
      clear hmy HB7 HW7 HA7
      go_wp2_with (refine wpList_load_mid rfl 72 _ rfl w.heap.size 0 rfl (encO A3 c3 B3 d3 y1) _ HR8.out Tryz.underlying72 rfl HLI.out ?_)
      refine HMY.out.mono ?_
      rintro e w9 ⟨rfl, hb⟩
      have HB9 := Lib.hid (HB8.out.trans (hb.mono HB8.out.size))
      clear hb
      go_wp2
      go_ret
      exact ⟨rfl, HB9.out⟩
end Go.Proofs.YtacmdpfidakkkaaGreatDoor

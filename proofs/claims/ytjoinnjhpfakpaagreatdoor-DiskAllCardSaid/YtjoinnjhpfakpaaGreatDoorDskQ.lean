/-
  A disk: Files.
-/
import Derived.Test.YtjoinnjhpfakpaaGreatDoorR13J
namespace Go.Proofs.YtjoinnjhpfakpaaGreatDoor
open Go.RowKit

def nmV (fs : List Fl) : List Value := fs.map fun f => .string ⟨f.1.toArray⟩
theorem nmV_len (fs : List Fl) : (nmV fs).length = fs.length := by simp [nmV]
theorem nmV_take {fs : List Fl} {i : Nat} (h : i < fs.length) : nmV (fs.take (i + 1)) = nmV (fs.take i) ++ [.string ⟨(fs.getD i noF).1.toArray⟩] := by
  unfold nmV
  rw [List.take_succ_eq_append_getElem h, List.map_append, List.getD_eq_getElem?_getD, List.getElem?_eq_getElem h]
  rfl
/-- The names of a disk that is not down. -/
def DS.names (s : DS) : List Value := if s.down = true then [] else nmV s.now
theorem be_row {w w3 w5 : World} {B T m n : Nat} {v : Value} {xs : List Value} (hb : Below B w w3) (ho : w3.ownsRow B T m v n xs) (hg : w3.grownBy w5 v.ownBlock) (hB : B ≤ w.heap.size) : Below B w w5 :=
  ⟨hg.os.trans hb.os, hg.tape.trans hb.tape, hg.output.trans hb.output, Nat.le_trans hb.size hg.size, fun k hk => (hg.block k (by have := hb.size; omega) (fun e => by have := (ho.lt k e.symm).1; omega)).trans (hb.block k hk)⟩
set_option maxRecDepth 100000 in
set_option maxHeartbeats 4000000 in
theorem dfiles_any (N : Nat → Prop) (b : Nat) (s : DS) (w : World) (h : Dk w N b s) :
    Calls Tryz.prog 47 #[.pointer (some ⟨b, 0, none⟩)] w fun e w' => (∃ A c, e = .returned (.slice A s.names.length c) ∧ RowV w' A c s.names) ∧ Below w.heap.size w w' := by
  obtain ⟨p, hp⟩ := h
  have HP := Lib.hid hp
  have HD := Lib.hid (ddown_any b _ _ _ _ _ _ _ w hp.cells)
  have hc0 : w.cell? ⟨b, 0, none⟩ = some (.slice p.A1 s.now.length p.c1) := (Whole.at_ hp.cells 0).trans rfl
  have hn100 := hp.nowLen
  clear hp
  unfold DS.names
  cases hd : s.down with
  | true =>
    rw [hd] at HD
    rw [if_pos rfl]
    go_enter Tryz.func47, Tryz.ntmps47
    go_wp2_with (go_at_call 25; refine HD.out.mono ?_; rintro e w1 ⟨rfl, rfl⟩)
    go_ret
    exact ⟨⟨none, 0, rfl, rowV_nil _⟩, Below.refl _ _⟩
  | false =>
    rw [hd] at HD
    rw [if_neg (by simp)]
    go_enter Tryz.func47, Tryz.ntmps47
    go_wp2_with (go_at_call 25; refine HD.out.mono ?_; rintro e w1 ⟨rfl, rfl⟩)
    go_loopw [3, 13] (fun s3 s13 wr => ∃ (i : Nat) (A : Option Addr) (c : Nat), i ≤ s.now.length ∧ s3 = .slice A i c ∧ s13 = .int .i64 (i : Int) ∧ Hid (wr.ownsRow w.heap.size 9 1 (.slice A i c) i (nmV (s.now.take i))) ∧ Hid (Below w.heap.size w wr)) (fun _ i _ => s.now.length - (intOf i).toNat)
    case atStart => exact ⟨0, none, 0, Nat.zero_le _, rfl, rfl, World.ownsRow_nil _ _ _ _, Below.refl _ _⟩
    case round =>
      obtain ⟨i, A, c, hi, rfl, rfl, HO, HB⟩ := hrel
      by_cases hlt : i < s.now.length
      · have hlt' : (i : Int) < (s.now.length : Int) := by omega
        obtain ⟨bb, o, he, hrow⟩ := (HP.out.now.later eltF HB.out).2.2.2 (by omega)
        have HRX := Lib.hid (hrow i hlt)
        have HNT := Lib.hid (nmV_take hlt)
        generalize s.now.getD i noF = y at *
        rw [he] at *
        have HBX : Hid (Below w.heap.size w (wr.alloc (.cells #[.string ⟨#[]⟩, .string ⟨#[]⟩] 92))) := HB.out.alloc HB.out.size _
        have HOX : Hid ((wr.alloc (.cells #[.string ⟨#[]⟩, .string ⟨#[]⟩] 92)).ownsRow w.heap.size 9 1 (.slice A i c) i (nmV (s.now.take i))) := HO.out.alloc _
        have hws : w.heap.size ≤ wr.heap.size := HB.out.size
        have HLT : Hid (∀ g, (Value.slice A i c).ownBlock = some g → g < wr.heap.size) := fun g hg => (HO.out.lt g hg).2
        clear HO HB
        go_upto_region 7 with (first
          | (refine wpList_load_mid rfl 92 _ rfl bb (o + i * 2) rfl (encF y) _ HRX.out Tryz.underlying92 rfl (infoF y) ?_)
          | ((refine wpList_store_whole rfl 92 _ _ rfl wr.heap.size (encF y).toArray rfl rfl 92 _ (Whole.made wr _ _) (by rw [List.size_toArray]; exact infoF y) (by simp [encF]) (by simp [encF, Value.oneCell']) ?_); intro w2 hWn hGn; have HW2 := Lib.hid hWn; have HG2 := Lib.hid hGn; clear hWn hGn))
        have hO2 := owns_alt HOX.out (Alt.of_grown (R := (· = wr.heap.size)) HG2.out (fun j hj => (Option.some.inj hj).symm)) (fun g hg e => by have := HLT.out g hg; omega)
        have hB2 : Below w.heap.size w w2 := ((Alt.of_below (R := fun _ => False) HBX.out).then (Alt.of_grown (R := (· = wr.heap.size)) HG2.out (fun j hj => (Option.some.inj hj).symm)) (fun k hk e => by omega)).none
        have c0 : w2.cell? ⟨wr.heap.size, 0, none⟩ = some (.string ⟨y.1.toArray⟩) := (HW2.out.at_ 0).trans rfl
        have hs2 : wr.heap.size < w2.heap.size := HW2.out.lt
        have hO3 := hO2.alloc (.cells #[.string ⟨y.1.toArray⟩] 9)
        have hB3 := hB2.alloc hB2.size (.cells #[.string ⟨y.1.toArray⟩] 9)
        have hnews : ∀ (j : Nat) (u : Value), [Value.string ⟨y.1.toArray⟩][j]? = some u → (w2.alloc (.cells #[.string ⟨y.1.toArray⟩] 9)).cell? ((⟨w2.heap.size, 0, none⟩ : Addr).add j) = some u := by
          intro j u hu
          obtain rfl : j = 0 := by have := (List.getElem?_eq_some_iff.1 hu).1; simpa using this
          injection hu with hu
          subst hu
          rw [Addr.add_mid]
          exact ((Whole.made w2 9 #[.string ⟨y.1.toArray⟩]).at_ 0).trans rfl
        have HO3 := Lib.hid hO3
        have HB3 := Lib.hid hB3
        have HNEWS := Lib.hid hnews
        clear hO2 hB2 hO3 hB3 hnews HG2 HOX HBX HLT
        obtain ⟨i0, hi0, hi1, hi2, hi3⟩ := info_parts (show (Tryz.prog.info? 9).map (fun i => (i.zero, i.size, i.bytes)) = some (some (.string ⟨#[]⟩), 1, 16) by kernel_rfl)
        go_wp2_with (at_builtin; (refine wpList_append_own _ rfl _ _ 95 rfl w.heap.size 9 i0 (.string ⟨#[]⟩) 1 16 Tryz.underlying95 hi0 hi1 hi2 hi3 rfl (by decide) (.slice A i c) i (nmV (s.now.take i)) rfl HO3.out ⟨w2.heap.size, 0, none⟩ 1 1 [.string ⟨y.1.toArray⟩] rfl rfl HNEWS.out (by simp [Value.oneCell']) (by unfold maxLen; omega) (by omega) HB3.out.size ?_); intro v' w5 hown hgr _; obtain ⟨g5, c5, rfl⟩ := Go.Joins.ownsRow_form hown (by omega); have HOW5 := Lib.hid hown; have HB5 := Lib.hid (be_row HB3.out HO3.out hgr (Nat.le_refl _)); clear hown hgr)
        go_roundw
        case rel => exact ⟨i + 1, _, c5, hlt, rfl, by go_num, by rw [HNT.out]; exact HOW5.out, HB5.out⟩
        case measure => simp [intOf]; omega
      · obtain rfl : i = s.now.length := by omega
        have hlt' : ¬ (s.now.length : Int) < (s.now.length : Int) := Int.lt_irrefl _
        rw [List.take_length] at HO
        obtain ⟨A9, c9, he9, hrow9, -, -⟩ := own_rowV HO.out
        injection he9 with e1 e2 e3
        subst e1
        subst e3
        have HR9 := Lib.hid hrow9
        clear hrow9
        go_wp2
        go_ret
        exact ⟨⟨A, c, by rw [nmV_len]; rfl, HR9.out⟩, HB.out⟩
end Go.Proofs.YtjoinnjhpfakpaaGreatDoor

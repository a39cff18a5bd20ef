/-
  Reader.Bytes, walked.
-/
import Derived.Test.YtbljoeeekhdjkaaGreatDoorArg
namespace Go.Proofs.YtbljoeeekhdjkaaGreatDoor
open Go.RowKit

theorem Row.of_bytes {w : World} {g c : Nat} {l : List UInt8} (h : Bytes w (.slice (some ⟨g, 0, none⟩) l.length c) l) (hg : g < w.heap.size) (hz : ∀ i, i < l.length → w.frozen? ⟨g, i, none⟩ = false) : Row w (some ⟨g, 0, none⟩) c l := by
  obtain ⟨A, c', e, h1, h2, h3⟩ := h
  injection e with e1 _ e3
  subst e1 e3
  refine ⟨h1, h2, fun h0 => ⟨g, rfl, hg, fun i hi => ?_⟩⟩
  obtain ⟨g', off, e, hc⟩ := h3 h0
  injection e with e
  injection e with e1 e2
  subst e1 e2
  have := hc i hi
  rw [Nat.zero_add] at this
  exact ⟨this, hz i hi⟩
/-- Bytes, what there is. -/
theorem rbytes_some (b : Nat) (s : List UInt8) (n : Nat) (w : World) (h : Rd w b s) (hl : n ≤ s.length) (hn : n ≤ 1048576) : Calls Tryz.prog 30 #[.pointer (some ⟨b, 0, none⟩), .int .i64 (n : Int)] w fun e w' =>
    ∃ g c, e = .returned (.slice (some ⟨g, 0, none⟩) n c) ∧ Row w' (some ⟨g, 0, none⟩) c (s.take n) ∧ Alt (· = b) w w' ∧ Rd w' b (s.drop n) ∧ w.heap.size ≤ g := by
  have HT : Hid (Calls Tryz.prog 85 #[.pointer (some ⟨b, 0, none⟩), .int .i64 (n : Int)] w fun e w' => e = .returned (.string ⟨(s.take n).toArray⟩) ∧ w.grownBy w' (some b) ∧ Rd w' b (s.drop n)) := by
    by_cases h0 : n = 0
    · subst h0
      refine (take_none b s w h).mono ?_
      rintro e w' ⟨rfl, rfl⟩
      exact ⟨rfl, gr_refl _ _, h⟩
    · exact take_some b s n w h (by omega) hl
  have hlen : (s.take n).length = n := by rw [List.length_take]; omega
  have HL := Lib.hid hlen
  clear h hl hlen
  generalize s.take n = l at *
  go_enter Tryz.func30, Tryz.ntmps30
  go_wp2_with fail
  refine HT.out.mono ?_
  rintro e w1 ⟨rfl, hG, hR⟩
  have HG := Lib.hid hG
  have HR := Lib.hid hR
  have hb : b < w1.heap.size := hR.lt
  clear hG hR
  go_wp2_with (refine wpList_of_string rfl 9 22 5 _ rfl ⟨l.toArray⟩ l rfl rfl Tryz.underlying9 Tryz.underlying22 Tryz.underlying5 (by rw [HL.out]; unfold maxLen; omega) ?_; intro w2 c hby hzz hbe hsz; have HBY := Lib.hid hby; have HZ := Lib.hid hzz; have HBE := Lib.hid hbe; clear hby hzz hbe)
  go_ret
  refine ⟨w1.heap.size, c, by rw [HL.out]; rfl, Row.of_bytes HBY.out (by omega) HZ.out, ?_, HR.out.below HBE.out hb, HG.out.size⟩
  exact (Alt.of_grown HG.out (fun j hj => by injection hj with hj; exact hj.symm)).below HBE.out

end Go.Proofs.YtbljoeeekhdjkaaGreatDoor

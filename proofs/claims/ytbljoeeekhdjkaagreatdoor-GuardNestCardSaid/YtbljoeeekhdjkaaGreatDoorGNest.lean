/-
  GuardNest, walked.
-/
import Derived.Test.YtbljoeeekhdjkaaGreatDoorBegB
import Derived.Test.YtbljoeeekhdjkaaGreatDoorAlt
namespace Go.Proofs.YtbljoeeekhdjkaaGreatDoor
open Go.RowKit

theorem nest11_any (b : Nat) (c : Int) (W : World) (h : Whole W b 34 #[.int .i64 c]) : Calls Tryz.prog 75 #[.pointer (some ⟨b, 0, none⟩)] W fun e w' => e = .panicked (fault c) ∧ W = w' := by
  have hc : W.cell? ⟨b, 0, none⟩ = some (.int .i64 c) := (h.at_ 0).trans rfl
  clear h
  go_enter Tryz.func75, Tryz.ntmps75
  go_wp2_with (go_at_call 24; refine (fail_any _ _).mono ?_; rintro e w' ⟨rfl, rfl⟩)
  exact ⟨rfl, rfl, rfl⟩
theorem nest11_enters (caps : Array Value) (W : World) : (callFunc 75 caps).run Tryz.prog W = .ok (.enter 75 caps) W := enters_of Tryz.func75 (by kernel_rfl) rfl _ _
theorem nest1_enters (caps : Array Value) (W : World) : (callFunc 74 caps).run Tryz.prog W = .ok (.enter 74 caps) W := enters_of Tryz.func74 (by kernel_rfl) rfl _ _
theorem nest1_any (bx bi bY : Nat) (x y i0 : Int) (W : World) (hx : Whole W bx 34 #[.int .i64 x]) (hi : Whole W bi 34 #[.int .i64 i0]) (hy : Whole W bY 34 #[.int .i64 y]) (h2 : bY ≠ bi) :
    Calls Tryz.prog 74 #[.pointer (some ⟨bx, 0, none⟩), .pointer (some ⟨bi, 0, none⟩), .pointer (some ⟨bY, 0, none⟩)] W fun e w' => e = .panicked (fault y) ∧ Alt (· = bi) W w' ∧ Whole w' bi 34 #[.int .i64 x] := by
  have hmf : ∀ (fn : Fn) (first cap : Array Value) (w : World), (Instr.makeFunc fn first cap).run Tryz.prog w = .ok (.func fn first cap) w := fun _ _ _ _ => rfl
  have HX := Lib.hid hx
  have HI := Lib.hid hi
  have HY := Lib.hid hy
  clear hx hi hy
  go_enter Tryz.func74, Tryz.ntmps74
  go_wp2_with fail
  refine (do_fault_q 75 _ W (fun _ => False) (fun _ => True) x (nest11_enters _) (fun h => h) (fun _ _ _ _ _ => trivial) ((nest11_any bx x _ (HX.out.past _)).mono ?_)).mono ?_
  · rintro e w' ⟨rfl, rfl⟩
    exact ⟨rfl, Alt.refl _ _, trivial⟩
  rintro e w1 ⟨rfl, hA, -⟩
  have HI1 := Lib.hid (HI.out.alt hA (fun h => h))
  have HY1 := Lib.hid (HY.out.alt hA (fun h => h))
  have HA := Lib.hid hA
  have ci : w1.cell? ⟨bi, 0, none⟩ = some (.int .i64 i0) := (HI1.out.at_ 0).trans rfl
  have zi := HI1.out.thawed 0
  have cy : (w1.setCell ⟨bi, 0, none⟩ (.int .i64 x)).cell? ⟨bY, 0, none⟩ = some (.int .i64 y) := ((HY1.out.aside (by show _ ≠ _; dsimp only; omega) _).at_ 0).trans rfl
  clear hA
  go_wp2_with (go_at_call 23; refine (must_no _ _).mono ?_; rintro e w' ⟨rfl, rfl⟩)
  exact ⟨rfl, ⟨rfl, Alt.set (R := (· = bi)) (p := ⟨bi, 0, none⟩) (HA.out.mono (fun _ _ h => h.elim)) (.inl rfl) _, HI1.out.put 0 _⟩⟩

theorem nest_any (a b : Int) (w : World) (hE : Env w) : Calls Tryz.prog 14 #[.int .i64 a, .int .i64 b] w fun e w' => e = .returned (.bool true) ∧ Below w.heap.size w w' := by
  have hmf : ∀ (fn : Fn) (first cap : Array Value) (w : World), (Instr.makeFunc fn first cap).run Tryz.prog w = .ok (.func fn first cap) w := fun _ _ _ _ => rfl
  have HE := Lib.hid hE
  clear hE
  go_enter Tryz.func14, Tryz.ntmps14
  go_wp2_with fail
  refine (begun_any w HE.out).mono ?_
  rintro e w1 ⟨rfl, hB⟩
  have HB := Lib.hid hB
  clear hB
  go_wp2_with fail
  generalize wrap64 (1 + bits BinOp.and IntKind.i64 a 7) = x
  generalize wrap64 (1 + bits BinOp.and IntKind.i64 b 7) = y
  obtain ⟨W, hW, hBW, hsz, hx, hy, hi⟩ := three w1 #[.int .i64 x] #[.int .i64 y] #[.int .i64 0] 34 34 34
  rw [← hW]
  refine (do_fault_q 74 _ W (· = w1.heap.size + 1 + 1) (fun w' => Whole w' (w1.heap.size + 1 + 1) 34 #[.int .i64 x]) y (nest1_enters _) (by omega) (fun u1 u2 _ hq hA => hq.alt hA (by omega)) (nest1_any w1.heap.size (w1.heap.size + 1 + 1) (w1.heap.size + 1) x y 0 _ (hx.past _) (hi.past _) (hy.past _) (by omega))).mono ?_
  rintro e w2 ⟨rfl, hA, hi2⟩
  have HB2 := Lib.hid (HB.out.trans ((hBW.trans (hA.to (B := w1.heap.size) (by intro k hk; omega) (by omega))).mono HB.out.size))
  have ci : w2.cell? ⟨w1.heap.size + 1 + 1, 0, none⟩ = some (.int .i64 x) := (hi2.at_ 0).trans rfl
  have cx : w2.cell? ⟨w1.heap.size, 0, none⟩ = some (.int .i64 x) := ((hx.alt hA (by omega)).at_ 0).trans rfl
  have cy : w2.cell? ⟨w1.heap.size + 1, 0, none⟩ = some (.int .i64 y) := ((hy.alt hA (by omega)).at_ 0).trans rfl
  clear hW hBW hsz hx hy hi hA hi2
  go_wp2
  go_ret
  exact ⟨rfl, HB2.out⟩
end Go.Proofs.YtbljoeeekhdjkaaGreatDoor

/-
  Package guard, walked: Fail, Must, code, Do.
-/
import Derived.Test.YtdjhkaofhdcalaaGreatDoorBase
import Derived.Test.YtdjhkaofhdcalaaGreatDoorProg
import Derived.Handy
import Derived.Defers
import Derived.Recover
import Derived.WalkLawsBesides
namespace Go.Proofs.YtdjhkaofhdcalaaGreatDoor
open Go.RowKit

/-- What a fault panics with. -/
def fault (c : Int) : List PanicEntry := [{ v := .iface 84 (.agg #[.int .i64 c]), recovered := false }]

theorem fail_any (c : Int) (w : World) : Calls Tryz.prog 23 #[.int .i64 c] w fun e w' => e = .panicked (fault c) ∧ w = w' := by
  go_enter Tryz.func23, Tryz.ntmps23
  go_wp2
  exact ⟨rfl, rfl, rfl⟩
theorem must_yes (c : Int) (w : World) : Calls Tryz.prog 92 #[.bool true, .int .i64 c] w fun e w' => e = .returned (.tuple #[]) ∧ w = w' := by
  go_enter Tryz.func92, Tryz.ntmps92
  go_wp2
  exact bodyPost_end (results_none rfl _ _ _) rfl ⟨rfl, rfl⟩
theorem must_no (c : Int) (w : World) : Calls Tryz.prog 92 #[.bool false, .int .i64 c] w fun e w' => e = .panicked (fault c) ∧ w = w' := by
  go_enter Tryz.func92, Tryz.ntmps92
  go_wp2_with (go_at_call 23; refine (fail_any _ _).mono ?_; rintro e w' ⟨rfl, rfl⟩)
  exact ⟨rfl, rfl, rfl⟩

theorem assert_fault (c : Int) (w : World) : (Instr.typeAssert (.iface 84 (.agg #[.int .i64 c])) 20 84 true).run Tryz.prog w = .ok (.tuple #[.agg #[.int .i64 c], .bool true]) w := by kernel_rfl
theorem assert_other (v : Int) (w : World) : (Instr.typeAssert (.iface 3 (.int .i64 v)) 20 84 true).run Tryz.prog w = .ok (.tuple #[.agg #[.int .i64 0], .bool false]) w := by kernel_rfl
theorem code_fault (c : Int) (w : World) : Calls Tryz.prog 54 #[.iface 84 (.agg #[.int .i64 c])] w fun e w' => e = .returned (.int .i64 c) ∧ Below w.heap.size w w' := by
  have h1 := assert_fault
  have h2 := assert_other
  go_enter Tryz.func54, Tryz.ntmps54
  go_wp2
  go_ret
  exact ⟨rfl, (Below.refl _ _).alloc (Nat.le_refl _) _⟩
theorem code_other (v : Int) (w : World) : Calls Tryz.prog 54 #[.iface 3 (.int .i64 v)] w fun e w' => e = .panicked [{ v := .iface 3 (.int .i64 v), recovered := false }] ∧ Below w.heap.size w w' := by
  have h1 := assert_fault
  have h2 := assert_other
  go_enter Tryz.func54, Tryz.ntmps54
  go_wp2
  exact ⟨rfl, rfl, (Below.refl _ _).alloc (Nat.le_refl _) _⟩

theorem catch_fault (p : Addr) (x : Value) (c : Int) (older : List PanicEntry) (w : World) (hc : w.cell? p = some x) (hz : w.frozen? p = false) :
    CallsD Tryz.prog 53 #[.pointer (some p)] (.panicking ({ v := .iface 84 (.agg #[.int .i64 c]), recovered := false } :: older)) w fun e u' w' =>
      e = .returned (.tuple #[]) ∧ u' = .panicking ({ v := .iface 84 (.agg #[.int .i64 c]), recovered := true } :: older) ∧ ∃ w1, Below w.heap.size w w1 ∧ w' = w1.setCell p (.int .i64 c) := by
  refine callsD_of_wpS Tryz.func53 rfl fun c₀ cs hu => ?_
  apply wpS_seq
  apply wpS_region
  simp [wpOpsS, go_sem, recoverD, hu, Tryz.ntmps53, Exit.thenS]
  refine wpS_of_wp ?_
  have hfr : (#[Value.pointer (some p)] ++ ((Array.replicate 6 undef).setIfInBounds 1 (Value.iface 84 (Value.agg #[Value.int .i64 c]))).setIfInBounds 0 (Value.iface 84 (Value.agg #[Value.int .i64 c]))) =
    #[Value.pointer (some p), Value.iface 84 (Value.agg #[Value.int .i64 c]), Value.iface 84 (Value.agg #[Value.int .i64 c]), undef, undef, undef, undef] := by rfl
  rw [hfr]
  clear hfr
  go_wp2_with (go_at_call 54; refine (code_fault _ _).mono ?_; rintro e w1 ⟨rfl, hB⟩; have hc1 := (hB.cell (World.block_lt_of_cell? w p hc)).trans hc; have hz1 := (hB.frozen (World.block_lt_of_cell? w p hc)).trans hz)
  exact ⟨rfl, _, rfl, _, results_none rfl _ _ _, rfl, rfl, w1, hB, rfl⟩
theorem catch_other (p : Addr) (v : Int) (older : List PanicEntry) (w : World) :
    CallsD Tryz.prog 53 #[.pointer (some p)] (.panicking ({ v := .iface 3 (.int .i64 v), recovered := false } :: older)) w fun e u' w' =>
      e = .panicked [{ v := .iface 3 (.int .i64 v), recovered := false }] ∧ u' = .panicking ({ v := .iface 3 (.int .i64 v), recovered := true } :: older) ∧ Below w.heap.size w w' := by
  refine callsD_of_wpS Tryz.func53 rfl fun c₀ cs hu => ?_
  apply wpS_seq
  apply wpS_region
  simp [wpOpsS, go_sem, recoverD, hu, Tryz.ntmps53, Exit.thenS]
  refine wpS_of_wp ?_
  have hfr : (#[Value.pointer (some p)] ++ ((Array.replicate 6 undef).setIfInBounds 1 (Value.iface 3 (Value.int .i64 v))).setIfInBounds 0 (Value.iface 3 (Value.int .i64 v))) =
    #[Value.pointer (some p), Value.iface 3 (Value.int .i64 v), Value.iface 3 (Value.int .i64 v), undef, undef, undef, undef] := by rfl
  rw [hfr]
  clear hfr
  go_wp2_with (go_at_call 54; refine (code_other _ _).mono ?_; rintro e w1 ⟨rfl, hB⟩)
  exact ⟨rfl, _, rfl, rfl, rfl, hB⟩
theorem catch_idle (p : Addr) (w : World) :
    CallsD Tryz.prog 53 #[.pointer (some p)] .returning w fun e u' w' => e = .returned (.tuple #[]) ∧ u' = .returning ∧ w' = w := by
  refine callsD_of_wpS Tryz.func53 rfl fun c₀ cs hu => ?_
  apply wpS_seq
  apply wpS_region
  simp [wpOpsS, go_sem, recoverD, hu, Tryz.ntmps53, Exit.thenS]
  refine wpS_of_wp ?_
  have hfr : (#[Value.pointer (some p)] ++ ((Array.replicate 6 undef).setIfInBounds 1 Value.nilIface).setIfInBounds 0 Value.nilIface) = #[Value.pointer (some p), Value.nilIface, Value.nilIface, undef, undef, undef, undef] := by rfl
  rw [hfr]
  clear hfr
  go_wp2
  exact ⟨rfl, .returning, by rw [← hu], _, results_none rfl _ _ _, rfl, rfl, rfl⟩

theorem fn_nil (G : Nat) (caps : Array Value) (W : World) : (binOp .eql 1 (.func (.func G) #[] caps) .nilFunc).run Tryz.prog W = .ok (.bool false) W := by kernel_rfl
set_option maxRecDepth 100000 in
theorem do_ret (G : Nat) (caps : Array Value) (w : World) (P : World → Prop) (he : ∀ W, (callFunc G caps).run Tryz.prog W = .ok (.enter G caps) W)
    (hP : ∀ w', P w' → ∃ x, w'.cell? ⟨w.heap.size, 0, none⟩ = some (.int .i64 x) ∧ w'.frozen? ⟨w.heap.size, 0, none⟩ = false)
    (h : Calls Tryz.prog G caps (w.alloc (.cells #[.int .i64 0] 40)) fun e w' => e = .returned (.tuple #[]) ∧ P w') :
    Calls Tryz.prog 21 #[.func (.func G) #[] caps] w fun e w' => e = .returned (.int .i64 0) ∧ ∃ w1, P w1 ∧ w' = w1.setCell ⟨w.heap.size, 0, none⟩ (.int .i64 0) := by
  have hmf : ∀ (fn : Fn) (first cap : Array Value) (w : World), (Instr.makeFunc fn first cap).run Tryz.prog w = .ok (.func fn first cap) w := fun _ _ _ _ => rfl
  have hnil := fn_nil G caps
  have H := Lib.hid h
  have HP := Lib.hid hP
  clear h hP
  go_enter_defers Tryz.func21, Tryz.ntmps21
  go_wp2_with fail
  refine H.out.mono ?_
  rintro e w1 ⟨rfl, hP1⟩
  obtain ⟨x, hc, hz⟩ := HP.out _ hP1
  have HP1 := Lib.hid hP1
  clear hP1
  go_wp2
  refine leaves_cons (f := 53) (args := #[.pointer (some ⟨w.heap.size, 0, none⟩)]) (by simp) (by simp [go_sem]) ?_
  refine (catch_idle ⟨w.heap.size, 0, none⟩ _).mono ?_
  rintro e u' w'' ⟨rfl, rfl, rfl⟩
  have hcs := World.cell?_setCell_same w1 ⟨w.heap.size, 0, none⟩ (.int .i64 0) hc
  simp [Leaves, settle, results, Tryz.results21, go_sem, hcs]
  exact ⟨w1, HP1.out, rfl⟩

/-- A fault within is told. -/
theorem do_fault (G : Nat) (caps : Array Value) (w : World) (c : Int) (P : World → Prop) (he : ∀ W, (callFunc G caps).run Tryz.prog W = .ok (.enter G caps) W)
    (hP : ∀ w', P w' → ∃ x, w'.cell? ⟨w.heap.size, 0, none⟩ = some (.int .i64 x) ∧ w'.frozen? ⟨w.heap.size, 0, none⟩ = false)
    (h : Calls Tryz.prog G caps (w.alloc (.cells #[.int .i64 0] 40)) fun e w' => e = .panicked (fault c) ∧ P w') :
    Calls Tryz.prog 21 #[.func (.func G) #[] caps] w fun e w' => e = .returned (.int .i64 c) ∧ ∃ w1 w2, P w1 ∧ Below w1.heap.size w1 w2 ∧ w' = w2.setCell ⟨w.heap.size, 0, none⟩ (.int .i64 c) := by
  have hmf : ∀ (fn : Fn) (first cap : Array Value) (w : World), (Instr.makeFunc fn first cap).run Tryz.prog w = .ok (.func fn first cap) w := fun _ _ _ _ => rfl
  have hnil := fn_nil G caps
  have H := Lib.hid h
  have HP := Lib.hid hP
  clear h hP
  go_enter_defers Tryz.func21, Tryz.ntmps21
  go_wp2_with fail
  refine H.out.mono ?_
  rintro e w1 ⟨rfl, hP1⟩
  obtain ⟨x, hc, hz⟩ := HP.out _ hP1
  have HP1 := Lib.hid hP1
  clear hP1
  refine leaves_cons (f := 53) (args := #[.pointer (some ⟨w.heap.size, 0, none⟩)]) (by simp) (by simp [go_sem]) ?_
  refine (catch_fault ⟨w.heap.size, 0, none⟩ (.int .i64 x) c [] _ hc hz).mono ?_
  rintro e u' w'' ⟨rfl, rfl, w2, hB2, rfl⟩
  have hc2 : w2.cell? ⟨w.heap.size, 0, none⟩ = some (.int .i64 x) := (hB2.cell (World.block_lt_of_cell? w1 _ hc)).trans hc
  have hcs := World.cell?_setCell_same w2 ⟨w.heap.size, 0, none⟩ (.int .i64 c) hc2
  simp [Leaves, settle, results, Tryz.results21, go_sem, hcs]
  exact ⟨w1, HP1.out, w2, hB2, rfl⟩

/-- Another panic goes on. -/
theorem do_other (G : Nat) (caps : Array Value) (w : World) (v : Int) (P : World → Prop) (he : ∀ W, (callFunc G caps).run Tryz.prog W = .ok (.enter G caps) W)
    (h : Calls Tryz.prog G caps (w.alloc (.cells #[.int .i64 0] 40)) fun e w' => e = .panicked [{ v := .iface 3 (.int .i64 v), recovered := false }] ∧ P w') :
    Calls Tryz.prog 21 #[.func (.func G) #[] caps] w fun e w' => e = .panicked [{ v := .iface 3 (.int .i64 v), recovered := false }, { v := .iface 3 (.int .i64 v), recovered := true }] ∧ ∃ w1, P w1 ∧ Below w1.heap.size w1 w' := by
  have hmf : ∀ (fn : Fn) (first cap : Array Value) (w : World), (Instr.makeFunc fn first cap).run Tryz.prog w = .ok (.func fn first cap) w := fun _ _ _ _ => rfl
  have hnil := fn_nil G caps
  have H := Lib.hid h
  clear h
  go_enter_defers Tryz.func21, Tryz.ntmps21
  go_wp2_with fail
  refine H.out.mono ?_
  rintro e w1 ⟨rfl, hP1⟩
  have HP1 := Lib.hid hP1
  clear hP1
  refine leaves_cons (f := 53) (args := #[.pointer (some ⟨w.heap.size, 0, none⟩)]) (by simp) (by simp [go_sem]) ?_
  refine (catch_other ⟨w.heap.size, 0, none⟩ v [] _).mono ?_
  rintro e u' w2 ⟨rfl, rfl, hB2⟩
  simp [Leaves, raised]
  exact ⟨w1, HP1.out, hB2⟩
end Go.Proofs.YtdjhkaofhdcalaaGreatDoor

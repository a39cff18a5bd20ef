/-
  Words of our own for memory and for words of 32 bits, under the walks of all functions. No function of the program is named here.
  Package guard, walked: Fail, Must, code, Do.
  Floats of 64 bits by their bits: how two of them stand to each other, as numbers. No program is named here.
  Package math's few functions and package when's, walked: floats by their bits.
-/
import Derived.WalkKit
import Derived.WalkLawsBesides
import Derived.Laws.BitsAllLaws
import Derived.Laws.Rows
import Derived.Deep.MidRow
import Derived.Deep.Draws
import Derived.Lib.Hide
import Derived.Test.YtjoinnjhpfakpaaGreatDoorProg
import Derived.Handy
import Derived.Defers
import Derived.Recover
import Ieee.Arith
import Derived.Laws.FloatArith
import Derived.BigQuiet
namespace Go.Proofs.YtjoinnjhpfakpaaGreatDoor
open Go.RowKit

/-! ### Memory -/
/-- Block g holds just the cells cs (of element type t), and none of them is frozen. -/
def Whole (w : World) (g : Nat) (t : TypeId) (cs : Array Value) : Prop := w.heap[g]? = some (.cells cs t (0, 0))

section
variable {w w' a : World} {g : Nat} {t : TypeId} {cs : Array Value}
theorem Whole.lt (h : Whole w g t cs) : g < w.heap.size := (Array.getElem?_eq_some_iff.1 h).1
theorem Whole.at_ (h : Whole w g t cs) (i : Nat) : w.cell? ⟨g, i, none⟩ = cs[i]? := by
  unfold Whole at h
  simp [World.cell?, h]
theorem Whole.thawed (h : Whole w g t cs) (i : Nat) : w.frozen? ⟨g, i, none⟩ = false := by
  unfold Whole at h
  simp [World.frozen?, h]
theorem Whole.made (w : World) (t : TypeId) (cs : Array Value) : Whole (w.alloc (.cells cs t)) w.heap.size t cs := by
  unfold Whole
  show (w.heap.push _)[w.heap.size]? = _
  simp
theorem Whole.drew (h : Whole w g t cs) : Whole w.drew g t cs := h
theorem Whole.drewN (h : Whole w g t cs) (n : Nat) : Whole (w.drewN n) g t cs := h
theorem Whole.past (h : Whole w g t cs) (o : Obj) : Whole (w.alloc o) g t cs := (Below.heap_alloc w o g h.lt).trans h
theorem Whole.put (h : Whole w g t cs) (i : Nat) (u : Value) : Whole (w.setCell ⟨g, i, none⟩ u) g t (cs.setIfInBounds i u) := by
  unfold Whole at h ⊢
  simp [World.setCell, Array.getElem?_modify, h]
theorem Whole.aside (h : Whole w g t cs) {p : Addr} (hp : g ≠ p.block) (u : Value) : Whole (w.setCell p u) g t cs := (Below.heap_setCell w p u g hp).trans h
theorem Whole.below {B : Nat} (h : Whole w g t cs) (hb : Below B w w') (hg : g < B) : Whole w' g t cs := (hb.block g hg).trans h
theorem Whole.grown {row : Option Nat} (h : Whole w g t cs) (hb : w.grownBy w' row) (hg : some g ≠ row) : Whole w' g t cs := (hb.block g h.lt hg).trans h
end

section
variable {a b c w : World} {row : Option Nat} {g : Nat}
theorem gr_refl (w : World) (row : Option Nat) : w.grownBy w row := ⟨rfl, rfl, rfl, Nat.le_refl _, fun _ _ _ => rfl⟩
theorem gr_trans (h : a.grownBy b row) (k : b.grownBy c row) : a.grownBy c row :=
  ⟨k.os.trans h.os, k.tape.trans h.tape, k.output.trans h.output, Nat.le_trans h.size k.size, fun i hi hn => (k.block i (Nat.lt_of_lt_of_le hi h.size) hn).trans (h.block i hi hn)⟩
theorem gr_drew (h : a.grownBy w row) : a.grownBy w.drew row := ⟨h.os, h.tape, h.output, h.size, h.block⟩
theorem gr_drewN (h : a.grownBy w row) (n : Nat) : a.grownBy (w.drewN n) row := ⟨h.os, h.tape, h.output, h.size, h.block⟩
theorem gr_alloc (h : a.grownBy w row) (o : Obj) : a.grownBy (w.alloc o) row :=
  ⟨h.os, h.tape, h.output, Nat.le_trans h.size (by simp), fun i hi hn => (Below.heap_alloc w o i (Nat.lt_of_lt_of_le hi h.size)).trans (h.block i hi hn)⟩
theorem gr_set (h : a.grownBy w row) {p : Addr} (hp : some p.block = row ∨ a.heap.size ≤ p.block) (u : Value) : a.grownBy (w.setCell p u) row :=
  ⟨h.os, h.tape, h.output, by simpa [World.setCell] using h.size, fun i hi hn => (Below.heap_setCell w p u i (by
    rintro rfl
    rcases hp with hp | hp
    · exact hn hp
    · omega)).trans (h.block i hi hn)⟩
theorem gr_below (h : a.grownBy w row) (hb : Below w.heap.size w b) : a.grownBy b row :=
  gr_trans h ⟨hb.os, hb.tape, hb.output, hb.size, fun i hi _ => hb.block i hi⟩
theorem gr_grown {row' : Option Nat} (h : a.grownBy w row) (k : w.grownBy b row') (hr : row' = row ∨ ∀ j, row' = some j → a.heap.size ≤ j) : a.grownBy b row :=
  ⟨k.os.trans h.os, k.tape.trans h.tape, k.output.trans h.output, Nat.le_trans h.size k.size, fun i hi hn => (k.block i (Nat.lt_of_lt_of_le hi h.size) (fun e => by
    rcases hr with rfl | hr
    · exact hn e
    · have := hr i e.symm; omega)).trans (h.block i hi hn)⟩
theorem be_grown {B : Nat} {row : Option Nat} (h : Below B a w) (k : w.grownBy b row) (hB : B ≤ w.heap.size) (hr : ∀ j, row = some j → B ≤ j) : Below B a b := h.grown k hB hr
theorem be_of_gr (h : a.grownBy b none) : Below a.heap.size a b := ⟨h.os, h.tape, h.output, h.size, fun k hk => h.block k hk (by simp)⟩
theorem be_setRow {B g : Nat} (h : Below B a w) (hg : B ≤ g) (cs : Array Value) : Below B a (w.setRow g cs) :=
  ⟨h.os, h.tape, h.output, by simpa using h.size, fun k hk => (setRow_other w g k cs (by omega)).trans (h.block k hk)⟩
theorem be_drewN {B : Nat} (h : Below B a w) (n : Nat) : Below B a (w.drewN n) := ⟨h.os, h.tape, h.output, h.size, h.block⟩
end

theorem far_at (b i j : Nat) (h : j < i) : (⟨b, j, none⟩ : Addr) ≠ ⟨b, i, none⟩ := fun e => by injection e with _ e; omega

/-- An array's element of one cell, at a variable index. -/
theorem run_index_one {P : Program} (T E n : Nat) (cs : Array Value) (k : Nat) (v : Value) (d : TypeDesc) (hu : P.underlying T = some (.array n E)) (he : P.underlying E = some d) (hd : (match d with | .struct _ | .array _ _ => true | _ => false) = false)
    (hi : (P.info? E).map (·.size) = some 1) (hk : k < n) (hv : cs[k]? = some v) (w : World) : (Instr.index T (.agg cs) (.int .i64 (k : Int))).run P w = .ok v w := by
  cases hq : P.info? E with
  | none => simp [hq] at hi
  | some i =>
    have hs : i.size = 1 := by simpa [hq] using hi
    have hk2 : ¬ n ≤ k := by omega
    have hagg : (isAgg E).run P w = .ok false w := by
      unfold isAgg
      rw [Sem.run_bind, run_underlying he w]
      cases d <;> simp_all
    simp [Instr.index, asIntOf, run_underlying hu, hk2, sizeOf, typeInfo, hq, hs, part, hagg, hv]

/-- An array cut from a variable place on. -/
theorem run_slice_arr {P : Program} (T E n b o k : Nat) (hu : P.underlying T = some (.array n E)) (hi : (P.info? E).map (·.size) = some 1) (hk : k < n) (W : World) :
    (Instr.sliceAt T (.pointer (some ⟨b, o, none⟩)) (some (.int .i64 (k : Int))) none none).run P W = .ok (.slice (some ⟨b, o + k, none⟩) (n - k) (n - k)) W := by
  have hl : P.arrayLen T = n := by simp [Program.arrayLen, hu]
  have he : P.elem T = E := by simp [Program.elem, hu]
  have h := run_sliceAt_array_l (P := P) W T ⟨b, o, none⟩ (by rw [hl, he]; exact hu) .i64 (k : Int) (by omega) (by rw [hl]; omega)
  rw [h, hl, he]
  cases hq : P.info? E with
  | none => simp [hq] at hi
  | some i =>
    have hs : i.size = 1 := by simpa [hq] using hi
    have hne : ¬ n = k := by omega
    have ha : (⟨b, o, none⟩ : Addr).add k = ⟨b, o + k, none⟩ := Addr.add_mid b o k
    simp [sizeOf, typeInfo, hq, hs, slicedAt, hne, ha]
/-- A callee that leaves the world alone, met in a quiet region. -/
theorem q_left {P : Program} {f : FuncId} {args : Array Value} {w : World} {n : Nat} {v : Value}
    (h : Calls P f args (w.drewN n) fun e w' => e = .returned v ∧ w.drewN n = w') : Calls P f args (w.drewN n) fun e w'' => e = .returned v ∧ ∃ m, w'' = w.drewN m :=
  h.mono fun _ _ ⟨he, hm⟩ => ⟨he, n, hm.symm⟩
/-- A callee that draws, met in a quiet region. -/
theorem q_draw {P : Program} {f : FuncId} {args : Array Value} {w : World} {n : Nat} {v : Value}
    (h : Calls P f args (w.drewN n) fun e w' => e = .returned v ∧ ∃ m, w' = (w.drewN n).drewN m) : Calls P f args (w.drewN n) fun e w'' => e = .returned v ∧ ∃ m, w'' = w.drewN m :=
  h.mono fun _ _ ⟨he, m, hm⟩ => ⟨he, n + m, by rw [hm, World.drewN_drewN]⟩

/-! ### Words of 32 bits, bytes -/
/-- A uint32, a byte, as the model's values. -/
def U (x : BitVec 32) : Value := .int .u32 (x.toNat : Int)
def Y (x : UInt8) : Value := .int .u8 (x.toNat : Int)

theorem wrap32_nat (n : Nat) : IntKind.u32.wrap (n : Int) = ((n % 4294967296 : Nat) : Int) := by rw [IntKind.wrap_u32']; omega
theorem u_add (x y : BitVec 32) : IntKind.u32.wrap ((x.toNat : Int) + (y.toNat : Int)) = ((x + y).toNat : Int) := by
  rw [IntKind.wrap_u32', BitVec.toNat_add]; omega
theorem u_add_mod (x y : BitVec 32) : ((x.toNat : Int) + (y.toNat : Int)) % 4294967296 = ((x + y).toNat : Int) := by
  rw [← u_add, IntKind.wrap_u32']
theorem u_and (x y : BitVec 32) : bits .and .u32 (x.toNat : Int) (y.toNat : Int) = ((x &&& y).toNat : Int) := by
  rw [u32_and_nat _ _ x.isLt y.isLt, BitVec.toNat_and]
theorem u_or (x y : BitVec 32) : bits .or .u32 (x.toNat : Int) (y.toNat : Int) = ((x ||| y).toNat : Int) := by
  rw [u32_or_nat _ _ x.isLt y.isLt, BitVec.toNat_or]
theorem u_xor (x y : BitVec 32) : bits .xor .u32 (x.toNat : Int) (y.toNat : Int) = ((x ^^^ y).toNat : Int) := by
  rw [u32_xor_nat _ _ x.isLt y.isLt, BitVec.toNat_xor]
theorem u_not (x : BitVec 32) : bits .xor .u32 IntKind.u32.max (x.toNat : Int) = ((~~~x).toNat : Int) := by
  have h : (IntKind.u32.max : Int) = ((BitVec.allOnes 32).toNat : Int) := by decide
  rw [h, u_xor, BitVec.allOnes_xor]
theorem u_sum5 (a b c d e : BitVec 32) : ((a.toNat : Int) + (b.toNat : Int) + (c.toNat : Int) + (d.toNat : Int) + (e.toNat : Int)) % 4294967296 = ((a + b + c + d + e).toNat : Int) := by
  simp only [BitVec.toNat_add]; omega
theorem u_shl (x : BitVec 32) (k : Nat) : IntKind.u32.wrap ((x.toNat : Int) * 2 ^ k) = ((x <<< k).toNat : Int) := by
  rw [IntKind.wrap_u32', BitVec.toNat_shiftLeft, Nat.shiftLeft_eq]
  have : ((x.toNat * 2 ^ k : Nat) : Int) = (x.toNat : Int) * 2 ^ k := by simp
  omega
theorem u_shl_mod (x : BitVec 32) (k : Nat) : (x.toNat : Int) * 2 ^ k % 4294967296 = ((x <<< k).toNat : Int) := by
  rw [← u_shl, IntKind.wrap_u32']
theorem u_shr (x : BitVec 32) (k : Nat) : (x.toNat : Int) / 2 ^ k = ((x >>> k).toNat : Int) := by
  rw [BitVec.toNat_ushiftRight, Nat.shiftRight_eq_div_pow]
  simp
theorem Y_ofNat (n : Nat) : Y (UInt8.ofNat n) = .int .u8 ((n % 256 : Nat) : Int) := by unfold Y; simp
theorem Y_int {n : Nat} {i : Int} (h : i = ((n % 256 : Nat) : Int)) : Value.int .u8 i = Y (UInt8.ofNat n) := by rw [Y_ofNat, h]
theorem be_val (a b c d : UInt8) : bits .or .u32 (bits .or .u32 (bits .or .u32 ((a.toNat : Int) % 4294967296 * 16777216 % 4294967296) ((b.toNat : Int) % 4294967296 * 65536 % 4294967296)) ((c.toNat : Int) % 4294967296 * 256 % 4294967296)) ((d.toNat : Int) % 4294967296) =
    ((BitVec.ofNat 32 (a.toNat * 16777216 + b.toNat * 65536 + c.toNat * 256 + d.toNat)).toNat : Int) := by
  have ha := a.toNat_lt
  have hb := b.toNat_lt
  have hc := c.toNat_lt
  have hd := d.toNat_lt
  have e1 : (a.toNat : Int) % 4294967296 * 16777216 % 4294967296 = ((2 ^ 24 * a.toNat : Nat) : Int) := by omega
  have e2 : (b.toNat : Int) % 4294967296 * 65536 % 4294967296 = ((b.toNat * 65536 : Nat) : Int) := by omega
  have e3 : (c.toNat : Int) % 4294967296 * 256 % 4294967296 = ((c.toNat * 256 : Nat) : Int) := by omega
  have e4 : (d.toNat : Int) % 4294967296 = (d.toNat : Int) := by omega
  rw [e1, e2, e3, e4, u32_or_nat _ _ (by omega) (by omega), ← Nat.two_pow_add_eq_or_of_lt (by omega), u32_or_nat _ _ (by omega) (by omega)]
  have f2 : 2 ^ 24 * a.toNat + b.toNat * 65536 = 2 ^ 16 * (a.toNat * 256 + b.toNat) := by omega
  rw [f2, ← Nat.two_pow_add_eq_or_of_lt (by omega), u32_or_nat _ _ (by omega) (by omega)]
  have f3 : 2 ^ 16 * (a.toNat * 256 + b.toNat) + c.toNat * 256 = 2 ^ 8 * ((a.toNat * 256 + b.toNat) * 256 + c.toNat) := by omega
  rw [f3, ← Nat.two_pow_add_eq_or_of_lt (by omega), BitVec.toNat_ofNat]
  omega
theorem ret_int {k : IntKind} {a b : Int} (h : a = b) : Ending.returned (.int k a) = .returned (.int k b) := by rw [h]
end Go.Proofs.YtjoinnjhpfakpaaGreatDoor
namespace Go.Proofs.YtjoinnjhpfakpaaGreatDoor
open Go.RowKit

/-- What a fault panics with. -/
def fault (c : Int) : List PanicEntry := [{ v := .iface 292 (.agg #[.int .i64 c]), recovered := false }]

theorem fail_any (c : Int) (w : World) : Calls Tryz.prog 212 #[.int .i64 c] w fun e w' => e = .panicked (fault c) ∧ w = w' := by
  go_enter Tryz.func212, Tryz.ntmps212
  go_wp2
  exact ⟨rfl, rfl, rfl⟩
theorem must_yes (c : Int) (w : World) : Calls Tryz.prog 158 #[.bool true, .int .i64 c] w fun e w' => e = .returned (.tuple #[]) ∧ w = w' := by
  go_enter Tryz.func158, Tryz.ntmps158
  go_wp2
  exact bodyPost_end (results_none rfl _ _ _) rfl ⟨rfl, rfl⟩
theorem must_no (c : Int) (w : World) : Calls Tryz.prog 158 #[.bool false, .int .i64 c] w fun e w' => e = .panicked (fault c) ∧ w = w' := by
  go_enter Tryz.func158, Tryz.ntmps158
  go_wp2_with (go_at_call 212; refine (fail_any _ _).mono ?_; rintro e w' ⟨rfl, rfl⟩)
  exact ⟨rfl, rfl, rfl⟩

theorem assert_fault (c : Int) (w : World) : (Instr.typeAssert (.iface 292 (.agg #[.int .i64 c])) 20 292 true).run Tryz.prog w = .ok (.tuple #[.agg #[.int .i64 c], .bool true]) w := by kernel_rfl
theorem assert_other (v : Int) (w : World) : (Instr.typeAssert (.iface 3 (.int .i64 v)) 20 292 true).run Tryz.prog w = .ok (.tuple #[.agg #[.int .i64 0], .bool false]) w := by kernel_rfl
theorem code_fault (c : Int) (w : World) : Calls Tryz.prog 154 #[.iface 292 (.agg #[.int .i64 c])] w fun e w' => e = .returned (.int .i64 c) ∧ Below w.heap.size w w' := by
  have h1 := assert_fault
  have h2 := assert_other
  go_enter Tryz.func154, Tryz.ntmps154
  go_wp2
  go_ret
  exact ⟨rfl, (Below.refl _ _).alloc (Nat.le_refl _) _⟩
theorem code_other (v : Int) (w : World) : Calls Tryz.prog 154 #[.iface 3 (.int .i64 v)] w fun e w' => e = .panicked [{ v := .iface 3 (.int .i64 v), recovered := false }] ∧ Below w.heap.size w w' := by
  have h1 := assert_fault
  have h2 := assert_other
  go_enter Tryz.func154, Tryz.ntmps154
  go_wp2
  exact ⟨rfl, rfl, (Below.refl _ _).alloc (Nat.le_refl _) _⟩

theorem catch_fault (p : Addr) (x : Value) (c : Int) (older : List PanicEntry) (w : World) (hc : w.cell? p = some x) (hz : w.frozen? p = false) :
    CallsD Tryz.prog 153 #[.pointer (some p)] (.panicking ({ v := .iface 292 (.agg #[.int .i64 c]), recovered := false } :: older)) w fun e u' w' =>
      e = .returned (.tuple #[]) ∧ u' = .panicking ({ v := .iface 292 (.agg #[.int .i64 c]), recovered := true } :: older) ∧ ∃ w1, Below w.heap.size w w1 ∧ w' = w1.setCell p (.int .i64 c) := by
  refine callsD_of_wpS Tryz.func153 rfl fun c₀ cs hu => ?_
  apply wpS_seq
  apply wpS_region
  simp [wpOpsS, go_sem, recoverD, hu, Tryz.ntmps153, Exit.thenS]
  refine wpS_of_wp ?_
  have hfr : (#[Value.pointer (some p)] ++ ((Array.replicate 6 undef).setIfInBounds 1 (Value.iface 292 (Value.agg #[Value.int .i64 c]))).setIfInBounds 0 (Value.iface 292 (Value.agg #[Value.int .i64 c]))) =
    #[Value.pointer (some p), Value.iface 292 (Value.agg #[Value.int .i64 c]), Value.iface 292 (Value.agg #[Value.int .i64 c]), undef, undef, undef, undef] := by rfl
  rw [hfr]
  clear hfr
  go_wp2_with (go_at_call 154; refine (code_fault _ _).mono ?_; rintro e w1 ⟨rfl, hB⟩; have hc1 := (hB.cell (World.block_lt_of_cell? w p hc)).trans hc; have hz1 := (hB.frozen (World.block_lt_of_cell? w p hc)).trans hz)
  exact ⟨rfl, _, rfl, _, results_none rfl _ _ _, rfl, rfl, w1, hB, rfl⟩
theorem catch_other (p : Addr) (v : Int) (older : List PanicEntry) (w : World) :
    CallsD Tryz.prog 153 #[.pointer (some p)] (.panicking ({ v := .iface 3 (.int .i64 v), recovered := false } :: older)) w fun e u' w' =>
      e = .panicked [{ v := .iface 3 (.int .i64 v), recovered := false }] ∧ u' = .panicking ({ v := .iface 3 (.int .i64 v), recovered := true } :: older) ∧ Below w.heap.size w w' := by
  refine callsD_of_wpS Tryz.func153 rfl fun c₀ cs hu => ?_
  apply wpS_seq
  apply wpS_region
  simp [wpOpsS, go_sem, recoverD, hu, Tryz.ntmps153, Exit.thenS]
  refine wpS_of_wp ?_
  have hfr : (#[Value.pointer (some p)] ++ ((Array.replicate 6 undef).setIfInBounds 1 (Value.iface 3 (Value.int .i64 v))).setIfInBounds 0 (Value.iface 3 (Value.int .i64 v))) =
    #[Value.pointer (some p), Value.iface 3 (Value.int .i64 v), Value.iface 3 (Value.int .i64 v), undef, undef, undef, undef] := by rfl
  rw [hfr]
  clear hfr
  go_wp2_with (go_at_call 154; refine (code_other _ _).mono ?_; rintro e w1 ⟨rfl, hB⟩)
  exact ⟨rfl, _, rfl, rfl, rfl, hB⟩
theorem catch_idle (p : Addr) (w : World) :
    CallsD Tryz.prog 153 #[.pointer (some p)] .returning w fun e u' w' => e = .returned (.tuple #[]) ∧ u' = .returning ∧ w' = w := by
  refine callsD_of_wpS Tryz.func153 rfl fun c₀ cs hu => ?_
  apply wpS_seq
  apply wpS_region
  simp [wpOpsS, go_sem, recoverD, hu, Tryz.ntmps153, Exit.thenS]
  refine wpS_of_wp ?_
  have hfr : (#[Value.pointer (some p)] ++ ((Array.replicate 6 undef).setIfInBounds 1 Value.nilIface).setIfInBounds 0 Value.nilIface) = #[Value.pointer (some p), Value.nilIface, Value.nilIface, undef, undef, undef, undef] := by rfl
  rw [hfr]
  clear hfr
  go_wp2
  exact ⟨rfl, .returning, by rw [← hu], _, results_none rfl _ _ _, rfl, rfl, rfl⟩

theorem fn_nil (G : Nat) (caps : Array Value) (W : World) : (binOp .eql 1 (.func (.func G) #[] caps) .nilFunc).run Tryz.prog W = .ok (.bool false) W := by kernel_rfl
set_option maxRecDepth 100000 in
theorem do_ret (G : Nat) (caps : Array Value) (w : World) (P : World → Prop) (he : ∀ W, (callFunc G caps).run Tryz.prog W = .ok (.enter G caps) W)
    (hP : ∀ w', P w' → ∃ x, w'.cell? ⟨w.heap.size, 0, none⟩ = some (.int .i64 x) ∧ w'.frozen? ⟨w.heap.size, 0, none⟩ = false)
    (h : Calls Tryz.prog G caps (w.alloc (.cells #[.int .i64 0] 32)) fun e w' => e = .returned (.tuple #[]) ∧ P w') :
    Calls Tryz.prog 106 #[.func (.func G) #[] caps] w fun e w' => e = .returned (.int .i64 0) ∧ ∃ w1, P w1 ∧ w' = w1.setCell ⟨w.heap.size, 0, none⟩ (.int .i64 0) := by
  have hmf : ∀ (fn : Fn) (first cap : Array Value) (w : World), (Instr.makeFunc fn first cap).run Tryz.prog w = .ok (.func fn first cap) w := fun _ _ _ _ => rfl
  have hnil := fn_nil G caps
  have H := Lib.hid h
  have HP := Lib.hid hP
  clear h hP
  go_enter_defers Tryz.func106, Tryz.ntmps106
  go_wp2_with fail
  refine H.out.mono ?_
  rintro e w1 ⟨rfl, hP1⟩
  obtain ⟨x, hc, hz⟩ := HP.out _ hP1
  have HP1 := Lib.hid hP1
  clear hP1
  go_wp2
  refine leaves_cons (f := 153) (args := #[.pointer (some ⟨w.heap.size, 0, none⟩)]) (by simp) (by simp [go_sem]) ?_
  refine (catch_idle ⟨w.heap.size, 0, none⟩ _).mono ?_
  rintro e u' w'' ⟨rfl, rfl, rfl⟩
  have hcs := World.cell?_setCell_same w1 ⟨w.heap.size, 0, none⟩ (.int .i64 0) hc
  simp [Leaves, settle, results, Tryz.results106, go_sem, hcs]
  exact ⟨w1, HP1.out, rfl⟩

/-- A fault within is told. -/
theorem do_fault (G : Nat) (caps : Array Value) (w : World) (c : Int) (P : World → Prop) (he : ∀ W, (callFunc G caps).run Tryz.prog W = .ok (.enter G caps) W)
    (hP : ∀ w', P w' → ∃ x, w'.cell? ⟨w.heap.size, 0, none⟩ = some (.int .i64 x) ∧ w'.frozen? ⟨w.heap.size, 0, none⟩ = false)
    (h : Calls Tryz.prog G caps (w.alloc (.cells #[.int .i64 0] 32)) fun e w' => e = .panicked (fault c) ∧ P w') :
    Calls Tryz.prog 106 #[.func (.func G) #[] caps] w fun e w' => e = .returned (.int .i64 c) ∧ ∃ w1 w2, P w1 ∧ Below w1.heap.size w1 w2 ∧ w' = w2.setCell ⟨w.heap.size, 0, none⟩ (.int .i64 c) := by
  have hmf : ∀ (fn : Fn) (first cap : Array Value) (w : World), (Instr.makeFunc fn first cap).run Tryz.prog w = .ok (.func fn first cap) w := fun _ _ _ _ => rfl
  have hnil := fn_nil G caps
  have H := Lib.hid h
  have HP := Lib.hid hP
  clear h hP
  go_enter_defers Tryz.func106, Tryz.ntmps106
  go_wp2_with fail
  refine H.out.mono ?_
  rintro e w1 ⟨rfl, hP1⟩
  obtain ⟨x, hc, hz⟩ := HP.out _ hP1
  have HP1 := Lib.hid hP1
  clear hP1
  refine leaves_cons (f := 153) (args := #[.pointer (some ⟨w.heap.size, 0, none⟩)]) (by simp) (by simp [go_sem]) ?_
  refine (catch_fault ⟨w.heap.size, 0, none⟩ (.int .i64 x) c [] _ hc hz).mono ?_
  rintro e u' w'' ⟨rfl, rfl, w2, hB2, rfl⟩
  have hc2 : w2.cell? ⟨w.heap.size, 0, none⟩ = some (.int .i64 x) := (hB2.cell (World.block_lt_of_cell? w1 _ hc)).trans hc
  have hcs := World.cell?_setCell_same w2 ⟨w.heap.size, 0, none⟩ (.int .i64 c) hc2
  simp [Leaves, settle, results, Tryz.results106, go_sem, hcs]
  exact ⟨w1, HP1.out, w2, hB2, rfl⟩

/-- Another panic goes on. -/
theorem do_other (G : Nat) (caps : Array Value) (w : World) (v : Int) (P : World → Prop) (he : ∀ W, (callFunc G caps).run Tryz.prog W = .ok (.enter G caps) W)
    (h : Calls Tryz.prog G caps (w.alloc (.cells #[.int .i64 0] 32)) fun e w' => e = .panicked [{ v := .iface 3 (.int .i64 v), recovered := false }] ∧ P w') :
    Calls Tryz.prog 106 #[.func (.func G) #[] caps] w fun e w' => e = .panicked [{ v := .iface 3 (.int .i64 v), recovered := false }, { v := .iface 3 (.int .i64 v), recovered := true }] ∧ ∃ w1, P w1 ∧ Below w1.heap.size w1 w' := by
  have hmf : ∀ (fn : Fn) (first cap : Array Value) (w : World), (Instr.makeFunc fn first cap).run Tryz.prog w = .ok (.func fn first cap) w := fun _ _ _ _ => rfl
  have hnil := fn_nil G caps
  have H := Lib.hid h
  clear h
  go_enter_defers Tryz.func106, Tryz.ntmps106
  go_wp2_with fail
  refine H.out.mono ?_
  rintro e w1 ⟨rfl, hP1⟩
  have HP1 := Lib.hid hP1
  clear hP1
  refine leaves_cons (f := 153) (args := #[.pointer (some ⟨w.heap.size, 0, none⟩)]) (by simp) (by simp [go_sem]) ?_
  refine (catch_other ⟨w.heap.size, 0, none⟩ v [] _).mono ?_
  rintro e u' w2 ⟨rfl, rfl, hB2⟩
  simp [Leaves, raised]
  exact ⟨w1, HP1.out, hB2⟩
end Go.Proofs.YtjoinnjhpfakpaaGreatDoor
namespace Go.Proofs.YtjoinnjhpfakpaaGreatDoor.Flo
open Ieee

/-- The bits below the sign; the sign; is it a NaN, finite? -/
def E (n : Nat) : Nat := n % 9223372036854775808
def S (n : Nat) : Bool := n / 9223372036854775808 % 2 == 1
def inf : Nat := 9218868437227405312
def isNaN (n : Nat) : Bool := decide (inf < E n)
def isFin (n : Nat) : Bool := decide (E n < inf)
/-- The place of a float in the order of all that are no NaN. -/
def key (n : Nat) : Int := if S n then -(E n : Int) else (E n : Int)

/-- The magnitude, counted in the least float. -/
def mg (r : Nat) : Nat := if r < 4503599627370496 then r else 4503599627370496 + r % 4503599627370496
def ex (r : Nat) : Nat := r / 4503599627370496 - 1
def V (r : Nat) : Nat := mg r * 2 ^ ex r

theorem V_step (r : Nat) : V r < V (r + 1) := by
  unfold V mg ex
  by_cases h : r + 1 < 4503599627370496
  · rw [if_pos (by omega), if_pos h, show r / 4503599627370496 - 1 = 0 by omega, show (r + 1) / 4503599627370496 - 1 = 0 by omega]
    omega
  · by_cases h2 : r < 4503599627370496
    · rw [if_pos h2, if_neg h, show r / 4503599627370496 - 1 = 0 by omega, show (r + 1) / 4503599627370496 - 1 = 0 by omega]
      omega
    · rw [if_neg h2, if_neg h]
      by_cases h3 : r % 4503599627370496 + 1 < 4503599627370496
      · rw [show (r + 1) / 4503599627370496 - 1 = r / 4503599627370496 - 1 by omega]
        exact (Nat.mul_lt_mul_right (Nat.two_pow_pos _)).2 (by omega)
      · rw [show (r + 1) / 4503599627370496 - 1 = (r / 4503599627370496 - 1) + 1 by omega, Nat.pow_succ, show (r + 1) % 4503599627370496 = 0 by omega, show r % 4503599627370496 = 4503599627370495 by omega]
        have := Nat.two_pow_pos (r / 4503599627370496 - 1)
        omega
theorem V_mono {a b : Nat} (h : a < b) : V a < V b := by
  induction b with
  | zero => omega
  | succ b ih =>
    rcases Nat.lt_or_ge a b with h1 | h1
    · exact Nat.lt_trans (ih h1) (V_step b)
    · obtain rfl : a = b := by omega
      exact V_step a
theorem V_zero : V 0 = 0 := rfl
theorem V_inj {a b : Nat} (h : V a = V b) : a = b := by
  rcases Nat.lt_trichotomy a b with h1 | h1 | h1
  · have := V_mono h1; omega
  · exact h1
  · have := V_mono h1; omega

theorem read_fin (n : Nat) (h : E n < inf) : double.read n = .number (S n) (mg (E n)) (-1074 + (ex (E n) : Nat)) := by
  unfold inf at h
  have e1 : double.signWeight = 9223372036854775808 := by decide
  have e2 : double.binade = 4503599627370496 := by decide
  have e3 : double.infRung = 9218868437227405312 := by decide
  have e4 : double.leastPlace = -1074 := by decide
  unfold Format.read
  rw [e1, e2, e3, e4]
  show (if E n < 4503599627370496 then _ else if E n < 9218868437227405312 then _ else _) = _
  unfold mg ex
  by_cases h1 : E n < 4503599627370496
  · rw [if_pos h1, if_pos h1, show E n / 4503599627370496 - 1 = 0 by omega]
    rfl
  · rw [if_neg h1, if_neg h1, if_pos h]
    rfl
theorem read_inf (n : Nat) (h : E n = inf) : double.read n = .infinity (S n) := by
  unfold inf at h
  have e1 : double.signWeight = 9223372036854775808 := by decide
  have e2 : double.binade = 4503599627370496 := by decide
  have e3 : double.infRung = 9218868437227405312 := by decide
  unfold Format.read
  rw [e1, e2, e3]
  show (if E n < 4503599627370496 then _ else if E n < 9218868437227405312 then _ else if E n = 9218868437227405312 then _ else _) = _
  rw [if_neg (by omega), if_neg (by omega), if_pos h]
  rfl
theorem read_nan (n : Nat) (h : inf < E n) : ∃ f, double.read n = .nan (S n) f := by
  unfold inf at h
  have e1 : double.signWeight = 9223372036854775808 := by decide
  have e2 : double.binade = 4503599627370496 := by decide
  have e3 : double.infRung = 9218868437227405312 := by decide
  unfold Format.read
  rw [e1, e2, e3]
  refine ⟨E n - 9218868437227405312, ?_⟩
  show (if E n < 4503599627370496 then _ else if E n < 9218868437227405312 then _ else if E n = 9218868437227405312 then _ else _) = _
  rw [if_neg (by omega), if_neg (by omega), if_neg (by omega)]
  rfl

theorem compare_scale (x y : Int) (k : Nat) : compare (x * 2 ^ k) (y * 2 ^ k) = compare x y := by
  have hp : (0 : Int) < 2 ^ k := Int.pow_pos (by decide)
  rcases Int.lt_trichotomy x y with h | h | h
  · rw [Int.compare_eq_lt.2 h, Int.compare_eq_lt.2 (Int.mul_lt_mul_of_pos_right h hp)]
  · rw [h, Int.compare_eq_eq.2 rfl, Int.compare_eq_eq.2 rfl]
  · rw [Int.compare_eq_gt.2 h, Int.compare_eq_gt.2 (Int.mul_lt_mul_of_pos_right h hp)]

/-- The value, signed, of a place in the order. -/
def g (x : Int) : Int := if x < 0 then -(V x.natAbs : Int) else (V x.natAbs : Int)
theorem g_mono {x y : Int} (h : x < y) : g x < g y := by
  unfold g
  by_cases hx : x < 0 <;> by_cases hy : y < 0
  · rw [if_pos hx, if_pos hy]
    have := V_mono (show y.natAbs < x.natAbs by omega)
    omega
  · rw [if_pos hx, if_neg hy]
    have := V_mono (show 0 < x.natAbs by omega)
    rw [V_zero] at this
    omega
  · omega
  · rw [if_neg hx, if_neg hy]
    have := V_mono (show x.natAbs < y.natAbs by omega)
    omega
theorem g_compare (x y : Int) : compare (g x) (g y) = compare x y := by
  rcases Int.lt_trichotomy x y with h | h | h
  · rw [Int.compare_eq_lt.2 h, Int.compare_eq_lt.2 (g_mono h)]
  · rw [h, Int.compare_eq_eq.2 rfl, Int.compare_eq_eq.2 rfl]
  · rw [Int.compare_eq_gt.2 h, Int.compare_eq_gt.2 (g_mono h)]
theorem g_key (n : Nat) : g (key n) = if S n then -(V (E n) : Int) else (V (E n) : Int) := by
  unfold g key
  cases hs : S n
  · simp only [Bool.false_eq_true, if_false]
    rw [if_neg (by omega)]
    simp
  · simp only [if_true]
    by_cases h0 : E n = 0
    · rw [h0]; rfl
    · rw [if_pos (by omega)]
      simp
theorem signed_scale (s : Bool) (m u v : Nat) : signed s m u * 2 ^ v = if s then -((m * 2 ^ (u + v) : Nat) : Int) else ((m * 2 ^ (u + v) : Nat) : Int) := by
  unfold signed
  rw [Nat.shiftLeft_eq, Nat.pow_add, ← Nat.mul_assoc]
  cases s
  · simp only [Bool.false_eq_true, if_false]
    simp
  · simp only [if_true]
    rw [Int.neg_mul]
    simp
/-- How two floats that are no NaN stand to each other. -/
theorem order_num (a b : Nat) (ha : E a ≤ inf) (hb : E b ≤ inf) : double.order a b = some (compare (key a) (key b)) := by
  unfold Format.order
  rcases Nat.lt_or_ge (E a) inf with h1 | h1 <;> rcases Nat.lt_or_ge (E b) inf with h2 | h2
  · rw [read_fin a h1, read_fin b h2]
    simp only [Datum.order]
    generalize hp : ex (E a) = p
    generalize hq : ex (E b) = q
    have e1 : ((-1074 + (p : Int)) - min (-1074 + (p : Int)) (-1074 + (q : Int))).toNat = p - min p q := by omega
    have e2 : ((-1074 + (q : Int)) - min (-1074 + (p : Int)) (-1074 + (q : Int))).toNat = q - min p q := by omega
    rw [e1, e2, ← compare_scale _ _ (min p q), signed_scale, signed_scale, show p - min p q + min p q = p by omega, show q - min p q + min p q = q by omega, ← g_compare (key a) (key b), g_key, g_key]
    unfold V
    rw [hp, hq]
  · have h2' : E b = inf := by omega
    rw [read_fin a h1, read_inf b h2']
    simp only [Datum.order]
    unfold key
    rw [h2']
    cases hs : S a <;> cases ht : S b <;> simp only [Bool.false_eq_true, if_false, if_true, Option.some.injEq] <;> symm
    · exact Int.compare_eq_lt.2 (by omega)
    · exact Int.compare_eq_gt.2 (by unfold inf; omega)
    · exact Int.compare_eq_lt.2 (by omega)
    · exact Int.compare_eq_gt.2 (by omega)
  · have h1' : E a = inf := by omega
    rw [read_inf a h1', read_fin b h2]
    simp only [Datum.order]
    unfold key
    rw [h1']
    cases hs : S a <;> cases ht : S b <;> simp only [Bool.false_eq_true, if_false, if_true, Option.some.injEq] <;> symm
    · exact Int.compare_eq_gt.2 (by omega)
    · exact Int.compare_eq_gt.2 (by omega)
    · exact Int.compare_eq_lt.2 (by unfold inf; omega)
    · exact Int.compare_eq_lt.2 (by omega)
  · have h1' : E a = inf := by omega
    have h2' : E b = inf := by omega
    rw [read_inf a h1', read_inf b h2']
    simp only [Datum.order]
    unfold key
    rw [h1', h2']
    cases hs : S a <;> cases ht : S b <;> simp only [Bool.false_eq_true, if_false, if_true, Option.some.injEq] <;> decide
theorem order_nan_left (a b : Nat) (ha : inf < E a) : double.order a b = none := by
  obtain ⟨f, hf⟩ := read_nan a ha
  unfold Format.order
  rw [hf]
  rfl
theorem order_nan_right (a b : Nat) (hb : inf < E b) : double.order a b = none := by
  obtain ⟨f, hf⟩ := read_nan b hb
  unfold Format.order
  rw [hf]
  cases double.read a <;> rfl

/-- '==', '!=', '<', '>' as the model has them. -/
theorem eq_num (a b : Nat) (ha : E a ≤ inf) (hb : E b ≤ inf) : (double.order a b == some .eq) = decide (key a = key b) := by
  rw [order_num a b ha hb, Bool.eq_iff_iff]
  simp
theorem lt_num (a b : Nat) (ha : E a ≤ inf) (hb : E b ≤ inf) : (double.order a b == some .lt) = decide (key a < key b) := by
  rw [order_num a b ha hb, Bool.eq_iff_iff]
  simp [Int.compare_eq_lt]
theorem gt_num (a b : Nat) (ha : E a ≤ inf) (hb : E b ≤ inf) : (double.order a b == some .gt) = decide (key b < key a) := by
  rw [order_num a b ha hb, Bool.eq_iff_iff]
  simp [Int.compare_eq_gt]
theorem self_eq (n : Nat) : (double.order n n == some .eq) = !isNaN n := by
  unfold isNaN
  by_cases h : inf < E n
  · rw [order_nan_left _ _ h]; simp [h]
  · rw [eq_num n n (by omega) (by omega)]; simp [h]
theorem self_ne (n : Nat) : (double.order n n != some .eq) = isNaN n := by
  have := self_eq n
  rw [bne, this]; simp
theorem E_zero : E 0 = 0 := rfl
theorem key_zero : key 0 = 0 := rfl
theorem key_eq_zero (n : Nat) : key n = 0 ↔ E n = 0 := by
  unfold key; split <;> omega
/-- Is it a nought? -/
def isZ (n : Nat) : Bool := decide (E n = 0)
theorem zero_eq (n : Nat) : (double.order n 0 == some .eq) = isZ n := by
  unfold isZ
  by_cases h : inf < E n
  · rw [order_nan_left _ _ h]; simp; unfold inf at h; omega
  · rw [eq_num n 0 (by omega) (by decide), key_zero, Bool.eq_iff_iff]
    simp [key_eq_zero]

theorem sub_fin (n : Nat) (h : E n < inf) : double.sub n n = some 0 := by
  unfold Format.sub
  rw [read_fin n h]
  simp only [Datum.opposite, Datum.sum]
  have e : signed (S n) (mg (E n)) ((-1074 + (ex (E n) : Int)) - min (-1074 + (ex (E n) : Int)) (-1074 + (ex (E n) : Int))).toNat + signed (!S n) (mg (E n)) ((-1074 + (ex (E n) : Int)) - min (-1074 + (ex (E n) : Int)) (-1074 + (ex (E n) : Int))).toNat = 0 := by
    unfold signed
    cases S n <;> simp <;> omega
  rw [e]
  simp only [if_true, Option.map_some, Option.some.injEq]
  have e2 : (S n && !S n) = false := by cases S n <;> rfl
  rw [e2]
  rfl
theorem sub_none (n : Nat) (h : ¬ E n < inf) : double.sub n n = none := by
  unfold Format.sub
  rcases Nat.lt_or_ge inf (E n) with h1 | h1
  · obtain ⟨f, hf⟩ := read_nan n h1
    rw [hf]; rfl
  · rw [read_inf n (by omega)]
    cases S n <;> rfl
theorem inv_zero (n : Nat) (h : E n = 0) : double.div 4607182418800017408 n = some (if S n then 18442240474082181120 else 9218868437227405312) := by
  unfold Format.div
  rw [read_fin n (by rw [h]; decide), h]
  cases S n <;> decide +kernel
theorem E_lt (n : Nat) : E n < 9223372036854775808 := Nat.mod_lt _ (by decide)
theorem E_E (n : Nat) : E (E n) = E n := Nat.mod_eq_of_lt (E_lt n)
theorem S_E (n : Nat) : S (E n) = false := by
  unfold S
  rw [Nat.div_eq_of_lt (E_lt n)]; rfl
theorem inf_gt (n : Nat) : (double.order (E n) 9218868437227405311 == some .gt) = decide (E n = inf) := by
  by_cases h : inf < E n
  · rw [order_nan_left _ _ (by rw [E_E]; exact h)]
    simp; omega
  · rw [gt_num _ _ (by rw [E_E]; omega) (by decide), Bool.eq_iff_iff]
    have k1 : key (E n) = (E n : Int) := by unfold key; rw [S_E, E_E]; rfl
    have k2 : key 9218868437227405311 = 9218868437227405311 := by decide
    rw [k1, k2]
    simp only [decide_eq_true_eq]
    unfold inf at *
    omega
theorem isFin_eq (n : Nat) : (!isNaN n && !decide (E n = inf)) = isFin n := by
  unfold isNaN isFin
  rw [Bool.eq_iff_iff]
  simp
  omega
/-- Is it a time? -/
def may (n : Nat) : Bool := isFin n && !(isZ n && S n)
end Go.Proofs.YtjoinnjhpfakpaaGreatDoor.Flo
namespace Go.Proofs.YtjoinnjhpfakpaaGreatDoor
open Go.RowKit

theorem bits_run (n : Nat) (w : World) : (callFunc 207 #[.float .f64 n]).run Tryz.prog w = .ok (.value (.int .u64 (n : Int))) w := by kernel_rfl
theorem frombits_run (n : Nat) (w : World) : (callFunc 335 #[.int .u64 (n : Int)]).run Tryz.prog w = .ok (.value (.float .f64 n)) w := by kernel_rfl

theorem isnan_any (n : Nat) (w : World) : Calls Tryz.prog 206 #[.float .f64 n] w fun e w' => e = .returned (.bool (Flo.isNaN n)) ∧ w = w' := by
  go_enter Tryz.func206, Tryz.ntmps206
  go_wp2
  go_ret
  exact ⟨by rw [← Flo.self_ne n]; rfl, rfl⟩
theorem sign_neg (n : Nat) : decide (wrap64 (n : Int) < 0) = (n / 9223372036854775808 % 2 == 1) := by
  rw [Bool.eq_iff_iff]
  simp only [decide_eq_true_eq, beq_iff_eq, wrap64]
  omega
theorem signbit_any (n : Nat) (w : World) : Calls Tryz.prog 343 #[.float .f64 n] w fun e w' => e = .returned (.bool (Flo.S n)) ∧ w = w' := by
  have hb := bits_run n
  go_enter Tryz.func343, Tryz.ntmps343
  go_wp2
  go_ret
  exact ⟨congrArg (fun b => Ending.returned (.bool b)) (sign_neg n), rfl⟩
theorem abs_bits (n : Nat) (h : n < 18446744073709551616) : bits .andNot .u64 (n : Int) 9223372036854775808 = ((Flo.E n : Nat) : Int) := by
  have h1 := u64_andNot_nat n 9223372036854775808 h (by decide)
  have e : n &&& (18446744073709551615 - 9223372036854775808) = Flo.E n := by
    have := Nat.and_two_pow_sub_one_eq_mod n 63
    exact this
  rw [e] at h1
  exact h1
theorem isinf_any (n : Nat) (w : World) (h : n < 18446744073709551616) : Calls Tryz.prog 342 #[.float .f64 n, .int .i64 0] w fun e w' => e = .returned (.bool (decide (Flo.E n = Flo.inf))) ∧ w = w' := by
  have hb := bits_run n
  have hf := frombits_run (Flo.E n)
  have ha := abs_bits n h
  clear h
  go_enter Tryz.func342, Tryz.ntmps342
  go_wp2
  go_ret
  exact ⟨congrArg (fun b => Ending.returned (.bool b)) (Flo.inf_gt n), rfl⟩

/-! ### when -/
theorem isFinite_any (n : Nat) (w : World) (h : n < 18446744073709551616) : Calls Tryz.prog 311 #[.float .f64 n] w fun e w' => e = .returned (.bool (Flo.isFin n)) ∧ w = w' := by
  have hq := Flo.isFin_eq n
  have HQ := Lib.hid hq
  clear hq
  cases h1 : Flo.isNaN n
  all_goals
    have H1 := Lib.hid h1
    have hnan : Calls Tryz.prog 206 #[.float .f64 n] w fun e w' => e = .returned (.bool (Flo.isNaN n)) ∧ w = w' := isnan_any n w
    rw [h1] at hnan
    have HN := Lib.hid hnan
    clear h1 hnan
    go_enter Tryz.func311, Tryz.ntmps311
    go_wp2_with (first
      | (go_at_call 206; refine HN.out.mono ?_; rintro e w' ⟨rfl, rfl⟩)
      | (go_at_call 342; refine (isinf_any n _ h).mono ?_; rintro e w' ⟨rfl, rfl⟩))
    go_ret
    refine ⟨?_, rfl⟩
    rw [← HQ.out, H1.out]
    simp
theorem isLowNought_any (n : Nat) (w : World) : Calls Tryz.prog 312 #[.float .f64 n] w fun e w' => e = .returned (.bool (Flo.isZ n && Flo.S n)) ∧ w = w' := by
  cases hz : Flo.isZ n
  all_goals
    have hz2 : (FloatKind.f64.format.order n 0 == some Ordering.eq) = Flo.isZ n := Flo.zero_eq n
    rw [hz] at hz2
    clear hz
    go_enter Tryz.func312, Tryz.ntmps312
    go_wp2_with (go_at_call 343; refine (signbit_any n _).mono ?_; rintro e w' ⟨rfl, rfl⟩)
    go_ret
    exact ⟨rfl, rfl⟩
theorem may_any (n : Nat) (w : World) (h : n < 18446744073709551616) : Calls Tryz.prog 268 #[.float .f64 n] w fun e w' => e = .returned (.bool (Flo.may n)) ∧ w = w' := by
  have HM : Hid (Flo.may n = (Flo.isFin n && !(Flo.isZ n && Flo.S n))) := rfl
  have hfin := isFinite_any n w h
  cases hf : Flo.isFin n
  all_goals
    have H1 := Lib.hid hf
    rw [hf] at hfin
    have HF := Lib.hid hfin
    clear hf hfin
    go_enter Tryz.func268, Tryz.ntmps268
    go_wp2_with (first
      | (go_at_call 311; refine HF.out.mono ?_; rintro e w' ⟨rfl, rfl⟩)
      | (go_at_call 312; refine (isLowNought_any n _).mono ?_; rintro e w' ⟨rfl, rfl⟩))
    go_ret
    refine ⟨?_, rfl⟩
    rw [HM.out, H1.out]
    simp
/-- What Norm tells. -/
def normV (n : Nat) : Nat := if Flo.isFin n then (if Flo.isZ n then 0 else n) else 0
theorem norm_any (n : Nat) (w : World) (h : n < 18446744073709551616) : Calls Tryz.prog 300 #[.float .f64 n] w fun e w' => e = .returned (.tuple #[.float .f64 (normV n), .bool (Flo.isFin n)]) ∧ w = w' := by
  have hfin := isFinite_any n w h
  have HV : Hid (normV n = if Flo.isFin n then (if Flo.isZ n then 0 else n) else 0) := rfl
  cases hf : Flo.isFin n <;> cases hz : Flo.isZ n
  all_goals
    have hz2 : (FloatKind.f64.format.order n 0 == some Ordering.eq) = Flo.isZ n := Flo.zero_eq n
    rw [hz] at hz2
    rw [hf] at hfin
    have HF := Lib.hid hfin
    have H1 := Lib.hid hf
    have H2 := Lib.hid hz
    clear hf hz hfin
    go_enter Tryz.func300, Tryz.ntmps300
    go_wp2_with (go_at_call 311; refine HF.out.mono ?_; rintro e w' ⟨rfl, rfl⟩)
    go_ret2
    refine ⟨?_, rfl⟩
    rw [HV.out, H1.out, H2.out]
    rfl
end Go.Proofs.YtjoinnjhpfakpaaGreatDoor

/-
  DiskMove, reckoned with strings that are not known.
-/
import Derived.Test.YtjaapkdbkbmbcaaGreatDoorBgn
import Derived.Test.YtjaapkdbkbmbcaaGreatDoorEngZd
namespace Go.Proofs.YtjaapkdbkbmbcaaGreatDoor
open Go.RowKit
namespace Eng
/-- What is known of the choice: its first bit. -/
def keepR (b : Int) : List (List (BinOp × IntKind × Int) × Int) := [([(.and, .u64, 1)], b), ([(.shr, .i64, 0), (.and, .u64, 1)], b)]
noncomputable def hkT : CallT → CallT := hookF 16 hText hk15
theorem hkT_ok (base : Nat) : HookOk Tryz.prog 9 base hkT := hookF_ok text_at (hk15_ok base)
set_option maxRecDepth 100000 in
theorem runDM0 : okk (ec hkT (.f 9) [.qs 9, .qs 10, .qi 11 .u64 [] (keepR 0)] glob 12) = true := by decide +kernel
set_option maxRecDepth 100000 in
theorem runDM1 : okk (ec hkT (.f 9) [.qs 9, .qs 10, .qi 11 .u64 [] (keepR 1)] glob 12) = true := by decide +kernel
theorem keep_bit (x : Int) : ∃ b : Int, (b = 0 ∨ b = 1) ∧ ∀ r, r ∈ keepR b → pv .u64 x r.1 = some r.2 := by
  have h1 : (BitVec.ofInt 64 x &&& BitVec.ofInt 64 1).toNat < 2 := by
    rw [BitVec.toNat_and]
    exact Nat.lt_of_le_of_lt Nat.and_le_right (by decide)
  obtain ⟨m, hm⟩ : ∃ m, m = (BitVec.ofInt 64 x &&& BitVec.ofInt 64 1).toNat := ⟨_, rfl⟩
  rw [← hm] at h1
  have hw : IntKind.u64.wrap (m : Int) = (m : Int) := by
    have : m = 0 ∨ m = 1 := by omega
    rcases this with rfl | rfl <;> decide
  have ha : xii .and .u64 x .u64 1 = some (.i .u64 (m : Int)) := by
    have : xii .and .u64 x .u64 1 = some (.i .u64 (IntKind.u64.wrap ((BitVec.ofInt 64 x &&& BitVec.ofInt 64 1).toNat : Int))) := rfl
    rw [this, ← hm, hw]
  have hs : xii .shr .u64 x .i64 0 = some (.i .u64 x) := by
    have : xii .shr .u64 x .i64 0 = some (.i .u64 (x.fdiv 1)) := rfl
    rw [this]
    simp
  refine ⟨m, by omega, fun r hr => ?_⟩
  simp only [keepR, List.mem_cons, List.not_mem_nil, or_false] at hr
  rcases hr with rfl | rfl
  · simp [pv, ha]
  · simp [pv, hs, ha]
end Eng
theorem wdmov_any (a b : List UInt8) (x : Int) (W : World) (hE : Eng.GE W) : Calls Tryz.prog 9 #[.string ⟨a.toArray⟩, .string ⟨b.toArray⟩, .int .u64 x] W fun e W' => e = .returned (.bool true) ∧ Below W.heap.size W W' := by
  obtain ⟨bit, hb, hr⟩ := Eng.keep_bit x
  have hv : ∀ j : Eng.J, (∀ id, 9 ≤ id → id < 12 → j id = (fun id => if id = 9 then some (Eng.symL (.string ⟨a.toArray⟩)) else if id = 10 then some (Eng.symL (.string ⟨b.toArray⟩)) else some (Eng.symL (.int .u64 x))) id) → Eng.VRs j [.qs 9, .qs 10, .qi 11 .u64 [] (Eng.keepR bit)] [.string ⟨a.toArray⟩, .string ⟨b.toArray⟩, .int .u64 x] := fun j hj => by
    have h9 := hj 9 (by decide) (by decide)
    have h10 := hj 10 (by decide) (by decide)
    have h11 := hj 11 (by decide) (by decide)
    refine .cons ?_ (.cons ?_ (.cons ?_ (.nil _))) <;> simp only [Eng.VR]
    · exact ⟨_, _, h9, rfl, rfl⟩
    · exact ⟨_, _, h10, rfl, rfl⟩
    · exact ⟨_, x, x, h11, rfl, rfl, rfl, hr⟩
  rcases hb with rfl | rfl
  · exact Eng.closedA (Eng.ec_ok Eng.hkT_ok) Eng.runDM0 hE (by decide) _ _ hv
  · exact Eng.closedA (Eng.ec_ok Eng.hkT_ok) Eng.runDM1 hE (by decide) _ _ hv
end Go.Proofs.YtjaapkdbkbmbcaaGreatDoor

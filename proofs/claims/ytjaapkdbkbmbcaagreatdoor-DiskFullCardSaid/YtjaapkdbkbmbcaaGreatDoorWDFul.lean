/-
  DiskFull: hooks.
-/
import Derived.Test.YtjaapkdbkbmbcaaGreatDoorBgn
import Derived.Test.YtjaapkdbkbmbcaaGreatDoorEngZe
namespace Go.Proofs.YtjaapkdbkbmbcaaGreatDoor
open Go.RowKit
namespace Eng
/-- The digits of a small number. -/
def decT (k : Nat) : List UInt8 :=
  match Nat.blt k 10, Nat.blt k 100 with
  | true, _ => [UInt8.ofNat (48 + k)]
  | _, true => [UInt8.ofNat (48 + k / 10), UInt8.ofNat (48 + k % 10)]
  | _, _ => [UInt8.ofNat (48 + k / 100), UInt8.ofNat (48 + k / 10 % 10), UInt8.ofNat (48 + k % 10)]
noncomputable def chkD (k : Nat) : Bool :=
  match ec hk1 (.f 55) [.i .i64 (Int.ofNat k)] .e 9 with
  | some (.ok (.s l) _ _) => eqS l (decT k)
  | _ => false
set_option maxRecDepth 100000 in
theorem runDec : (List.range 103).all chkD = true := by decide +kernel
theorem dec_any (k : Nat) (hk : k < 103) (w : World) : Calls Tryz.prog 55 #[.int .i64 (k : Int)] w fun e w' => e = .returned (.string ⟨(decT k).toArray⟩) ∧ Below w.heap.size w w' := by
  have h := List.all_eq_true.1 runDec k (List.mem_range.2 hk)
  unfold chkD at h
  split at h
  case h_2 => cases h
  rename_i l M1 n1 hr
  rw [eqS_eq] at h
  have h := eq_of_beq h
  subst h
  obtain ⟨_, hn, hq⟩ := (ec_ok hk1_ok w.heap.size).fn _ _ _ _ _ hr
  refine (hq (fun _ => none) w [.int .i64 (k : Int)] ⟨⟨fun id b hb => (by cases hb), fun id b l _ hb => (by cases hb), fun id b l _ hb => (by cases hb), fun id id' b b' l l' hb => (by cases hb)⟩, Nat.le_refl _, Nat.le_refl _⟩ (fun _ _ _ => rfl) (.cons (by simp only [VR]; rfl) (.nil _))).mono ?_
  rintro e w' ⟨j', hp, y, rfl, hy⟩
  simp only [VR] at hy
  subst hy
  exact ⟨rfl, below_of_post hp fun id b hb => (by cases hb)⟩
noncomputable def qDec (vs : List V) (_ : H) : Option V :=
  match vs with
  | [.i .i64 (.ofNat k)] => (match Nat.blt k 103 with | true => some (.s (decT k)) | false => none)
  | _ => none
theorem dec_at {G base : Nat} : At Tryz.prog G base 55 (quiet qDec) :=
  quiet_at ⟨_, _, Tryz.func55, by kernel_rfl, rfl⟩ fun vs M v h n j w ys c hy => by
    unfold qDec at h
    split at h
    · rename_i k
      split at h
      · rename_i hk
        rw [Nat.blt_eq] at hk
        injection h with h
        subst h
        simp only [VRs, VR] at hy
        obtain ⟨_, _, rfl, rfl, rfl⟩ := hy
        refine (dec_any k hk w).mono ?_
        rintro e w' ⟨rfl, hB⟩
        exact ⟨⟨_, rfl, by simp only [VR]⟩, hB⟩
      · cases h
    · cases h
noncomputable def hkF : CallT → CallT := hookF 149 (quiet qFind) (hookF 55 (quiet qDec) hk15)
theorem hkF_ok (base : Nat) : HookOk Tryz.prog 9 base hkF := hookF_ok find1_at (hookF_ok dec_at (hk15_ok base))
/-- What is known of the count: its rest by eight, once it is none below 0. -/
def cntR (r : Int) : List (List (BinOp × IntKind × Int) × Int) := [([(.rem, .i64, 8), (.add, .i64, 8), (.rem, .i64, 8)], r)]
end Eng
end Go.Proofs.YtjaapkdbkbmbcaaGreatDoor

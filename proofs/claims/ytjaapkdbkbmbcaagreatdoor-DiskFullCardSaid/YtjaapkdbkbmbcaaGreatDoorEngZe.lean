/-
  A closed run, reckoned: hooks: strings.Compare; how a disk holds a file's name against another.
-/
import Derived.Test.YtjaapkdbkbmbcaaGreatDoorEngZd
namespace Go.Proofs.YtjaapkdbkbmbcaaGreatDoor
open Go.RowKit

theorem scmp_any (a b : List UInt8) (w : World) : Calls Tryz.prog 150 #[.string ⟨a.toArray⟩, .string ⟨b.toArray⟩] w fun e w' => e = .returned (.int .i64 (Lib.compareBytes a b)) ∧ w = w' := by
  have hx : ∀ W, (callFunc 262 #[.string ⟨a.toArray⟩, .string ⟨b.toArray⟩]).run Tryz.prog W = .ok (.value (.int .i64 (Lib.compareBytes a b))) W := fun W => by
    rw [run_callFunc_extern Tryz.func262 (by kernel_rfl) (by kernel_rfl) (by kernel_rfl) (e := Extern.BytealgCompare.compare) (by kernel_rfl), Lib.run_compareString]
    rfl
  have h2 : ∀ W, Calls Tryz.prog 212 #[.string ⟨a.toArray⟩, .string ⟨b.toArray⟩] W fun e w' => e = .returned (.int .i64 (Lib.compareBytes a b)) ∧ W = w' := fun W => by
    go_enter Tryz.func212, Tryz.ntmps212
    go_wp2
    go_ret
    exact ⟨rfl, rfl⟩
  have H2 := Lib.hid h2
  clear h2 hx
  go_enter Tryz.func150, Tryz.ntmps150
  go_wp2_with (go_at_call 212; refine (H2.out _).mono ?_; rintro e w' ⟨rfl, rfl⟩)
  go_ret
  exact ⟨rfl, rfl⟩
theorem find1_any (a b : List UInt8) (y : Value) (w : World) : Calls Tryz.prog 149 #[.agg #[.string ⟨a.toArray⟩, y], .string ⟨b.toArray⟩] w fun e w' => e = .returned (.int .i64 (Lib.compareBytes a b)) ∧ Below w.heap.size w w' := by
  have H2 := Lib.hid (scmp_any a b)
  go_enter Tryz.func149, Tryz.ntmps149
  go_wp2_with (go_at_call 150; refine (H2.out _).mono ?_; rintro e w' ⟨rfl, rfl⟩)
  go_ret
  exact ⟨rfl, (Below.refl _ _).alloc (Nat.le_refl _) _⟩
namespace Eng
noncomputable def qCmp (vs : List V) (_ : H) : Option V := xcmp vs
theorem scmp_at {G base : Nat} : At Tryz.prog G base 150 (quiet qCmp) :=
  quiet_at ⟨_, _, Tryz.func150, by kernel_rfl, rfl⟩ fun vs M v h n j w ys c hy => by
    unfold qCmp xcmp at h
    split at h
    · rename_i a b
      injection h with h
      subst h
      simp only [VRs, VR] at hy
      obtain ⟨_, _, rfl, ⟨_, _, rfl, rfl, rfl⟩, rfl⟩ := hy
      refine (scmp_any a b w).mono ?_
      rintro e w' ⟨rfl, rfl⟩
      refine ⟨⟨_, rfl, ?_⟩, Below.refl _ _⟩
      simp only [VR]
      rw [cmp_eq]
    · cases h
noncomputable def qFind (vs : List V) (_ : H) : Option V :=
  match vs with
  | [.a [.s a, _], .s b] => xcmp [.s a, .s b]
  | _ => none
theorem find1_at {G base : Nat} : At Tryz.prog G base 149 (quiet qFind) :=
  quiet_at ⟨_, _, Tryz.func149, by kernel_rfl, rfl⟩ fun vs M v h n j w ys c hy => by
    unfold qFind at h
    split at h
    · rename_i a u b
      unfold xcmp at h
      injection h with h
      subst h
      simp only [VRs, VR] at hy
      obtain ⟨_, _, ⟨_, ⟨_, _, rfl, ⟨y, _, _, rfl, rfl⟩, rfl⟩, rfl⟩, ⟨_, _, rfl, rfl, rfl⟩, rfl⟩ := hy
      refine (find1_any a b y w).mono ?_
      rintro e w' ⟨rfl, hB⟩
      refine ⟨⟨_, rfl, ?_⟩, hB⟩
      simp only [VR]
      rw [cmp_eq]
    · cases h
end Eng
end Go.Proofs.YtjaapkdbkbmbcaaGreatDoor

/-
  The leaves of package sha, walked: RotateLeft32, the four sigmas, word, putWord.
-/
import Derived.Test.YtdjhkaofhdcalaaGreatDoorProg
import Derived.Test.YtdjhkaofhdcalaaGreatDoorBase
import Derived.Test.YtdjhkaofhdcalaaGreatDoorShaM
import Derived.Handy
import Derived.Deep.QuietTactic
import Derived.BigQuiet
import Derived.RegionTactic
import Derived.BigRegion
namespace Go.Proofs.YtdjhkaofhdcalaaGreatDoor
open Go.RowKit

theorem rot_amt : ∀ n : Fin 32, 1 ≤ n.val → bits .and .u64 (IntKind.u64.wrap (-(n.val : Int))) 31 = ((32 - n.val : Nat) : Int) := by decide +kernel

/-- bits.RotateLeft32(x, k), k from -31 to -1: x turned to the right by -k. -/
theorem rot_any (x : BitVec 32) (k : Int) (n : Nat) (hk : k = -(n : Int)) (h1 : 1 ≤ n) (h2 : n < 32) (w : World) :
    Calls Tryz.prog 128 #[.int .u32 (x.toNat : Int), .int .i64 k] w fun e w' => e = .returned (.int .u32 ((ShaM.rr x n).toNat : Int)) ∧ w = w' := by
  subst hk
  have ha := rot_amt ⟨n, h2⟩ h1
  have hs : IntKind.u64.wrap (32 - ((32 - n : Nat) : Int)) = (n : Int) := by rw [IntKind.wrap_u64]; omega
  go_enter Tryz.func128, Tryz.ntmps128
  go_wp2
  go_ret
  refine ⟨ret_int ?_, rfl⟩
  show bits .or .u32 ((x.toNat : Int) * 2 ^ (32 - n) % 4294967296) ((x.toNat : Int) / 2 ^ n) = _
  rw [u_shl_mod, u_shr, u_or, ShaM.rr, BitVec.or_comm]

theorem small0_any (x : BitVec 32) (w : World) :
    Calls Tryz.prog 127 #[.int .u32 (x.toNat : Int)] w fun e w' => e = .returned (.int .u32 ((ShaM.s0 x).toNat : Int)) ∧ w = w' := by
  go_enter Tryz.func127, Tryz.ntmps127
  go_wp2_with fail
  refine (rot_any x (-7) 7 rfl (by decide) (by decide) _).mono ?_
  rintro e w' ⟨rfl, rfl⟩
  go_wp2_with fail
  refine (rot_any x (-18) 18 rfl (by decide) (by decide) _).mono ?_
  rintro e w' ⟨rfl, rfl⟩
  go_wp2
  go_ret
  refine ⟨ret_int ?_, rfl⟩
  have e := u_shr x 3
  rw [show (2 : Int) ^ 3 = 8 from rfl] at e
  rw [e, u_xor, u_xor]
  rfl
theorem small1_any (x : BitVec 32) (w : World) :
    Calls Tryz.prog 126 #[.int .u32 (x.toNat : Int)] w fun e w' => e = .returned (.int .u32 ((ShaM.s1 x).toNat : Int)) ∧ w = w' := by
  go_enter Tryz.func126, Tryz.ntmps126
  go_wp2_with fail
  refine (rot_any x (-17) 17 rfl (by decide) (by decide) _).mono ?_
  rintro e w' ⟨rfl, rfl⟩
  go_wp2_with fail
  refine (rot_any x (-19) 19 rfl (by decide) (by decide) _).mono ?_
  rintro e w' ⟨rfl, rfl⟩
  go_wp2
  go_ret
  refine ⟨ret_int ?_, rfl⟩
  have e := u_shr x 10
  rw [show (2 : Int) ^ 10 = 1024 from rfl] at e
  rw [e, u_xor, u_xor]
  rfl
theorem big0_any (x : BitVec 32) (w : World) :
    Calls Tryz.prog 97 #[.int .u32 (x.toNat : Int)] w fun e w' => e = .returned (.int .u32 ((ShaM.b0 x).toNat : Int)) ∧ w = w' := by
  go_enter Tryz.func97, Tryz.ntmps97
  go_wp2_with fail
  refine (rot_any x (-2) 2 rfl (by decide) (by decide) _).mono ?_
  rintro e w' ⟨rfl, rfl⟩
  go_wp2_with fail
  refine (rot_any x (-13) 13 rfl (by decide) (by decide) _).mono ?_
  rintro e w' ⟨rfl, rfl⟩
  go_wp2_with fail
  refine (rot_any x (-22) 22 rfl (by decide) (by decide) _).mono ?_
  rintro e w' ⟨rfl, rfl⟩
  go_wp2
  go_ret
  refine ⟨ret_int ?_, rfl⟩
  rw [u_xor, u_xor]
  rfl
theorem big1_any (x : BitVec 32) (w : World) :
    Calls Tryz.prog 96 #[.int .u32 (x.toNat : Int)] w fun e w' => e = .returned (.int .u32 ((ShaM.b1 x).toNat : Int)) ∧ w = w' := by
  go_enter Tryz.func96, Tryz.ntmps96
  go_wp2_with fail
  refine (rot_any x (-6) 6 rfl (by decide) (by decide) _).mono ?_
  rintro e w' ⟨rfl, rfl⟩
  go_wp2_with fail
  refine (rot_any x (-11) 11 rfl (by decide) (by decide) _).mono ?_
  rintro e w' ⟨rfl, rfl⟩
  go_wp2_with fail
  refine (rot_any x (-25) 25 rfl (by decide) (by decide) _).mono ?_
  rintro e w' ⟨rfl, rfl⟩
  go_wp2
  go_ret
  refine ⟨ret_int ?_, rfl⟩
  rw [u_xor, u_xor]
  rfl
/-- word(b): the first four bytes, the highest first. -/
theorem word_any (b off n cap : Nat) (b0 b1 b2 b3 : UInt8) (w : World) (hn : 4 ≤ n)
    (h0 : w.cell? ⟨b, off, none⟩ = some (Y b0)) (h1 : w.cell? ⟨b, off + 1, none⟩ = some (Y b1)) (h2 : w.cell? ⟨b, off + 2, none⟩ = some (Y b2)) (h3 : w.cell? ⟨b, off + 3, none⟩ = some (Y b3)) :
    Calls Tryz.prog 125 #[.slice (some ⟨b, off, none⟩) n cap] w fun e w' => e = .returned (.int .u32 ((ShaM.be b0 b1 b2 b3).toNat : Int)) ∧ ∃ k, w' = w.drewN k := by
  unfold Y at h0 h1 h2 h3
  have k0 : (0 : Int) < (n : Int) := by omega
  have k1 : (1 : Int) < (n : Int) := by omega
  have k2 : (2 : Int) < (n : Int) := by omega
  have k3 : (3 : Int) < (n : Int) := by omega
  go_enter Tryz.func125, Tryz.ntmps125
  go_wp2
  go_quiet (fail)
  go_wp2
  go_ret
  exact ⟨ret_int (be_val b0 b1 b2 b3), _, rfl⟩
/-- Four cells of an array of cells, laid with a word's bytes. -/
def set4 (cs : Array Value) (off : Nat) (x : BitVec 32) : Array Value :=
  (((cs.setIfInBounds off (Y (UInt8.ofNat (x.toNat / 16777216)))).setIfInBounds (off + 1) (Y (UInt8.ofNat (x.toNat / 65536)))).setIfInBounds (off + 2) (Y (UInt8.ofNat (x.toNat / 256)))).setIfInBounds (off + 3) (Y (UInt8.ofNat x.toNat))
theorem y_24 (x : BitVec 32) : Value.int .u8 ((x.toNat : Int) / 16777216) = Y (UInt8.ofNat (x.toNat / 16777216)) := Y_int (by have := x.isLt; omega)
theorem y_16 (x : BitVec 32) : Value.int .u8 ((x.toNat : Int) / 65536 % 256) = Y (UInt8.ofNat (x.toNat / 65536)) := Y_int (by omega)
theorem y_8 (x : BitVec 32) : Value.int .u8 ((x.toNat : Int) / 256 % 256) = Y (UInt8.ofNat (x.toNat / 256)) := Y_int (by omega)
theorem y_0 (x : BitVec 32) : Value.int .u8 ((x.toNat : Int) % 256) = Y (UInt8.ofNat x.toNat) := Y_int (by omega)
theorem set4_size (cs : Array Value) (off : Nat) (x : BitVec 32) : (set4 cs off x).size = cs.size := by simp [set4]
/-- putWord(b, x): x's four bytes, the highest first, are laid. -/
theorem putWord_any (b off n cap : Nat) (x : BitVec 32) (t : TypeId) (cs : Array Value) (w : World) (hn : 4 ≤ n) (hw : Whole w b t cs) (hl : off + 4 ≤ cs.size) :
    Calls Tryz.prog 73 #[.slice (some ⟨b, off, none⟩) n cap, .int .u32 (x.toNat : Int)] w fun e w' => e = .returned (.tuple #[]) ∧
      w.grownBy w' (some b) ∧ Whole w' b t (set4 cs off x) := by
  have HW := Lib.hid hw
  have k0 : (0 : Int) < (n : Int) := by omega
  have k1 : (1 : Int) < (n : Int) := by omega
  have k2 : (2 : Int) < (n : Int) := by omega
  have k3 : (3 : Int) < (n : Int) := by omega
  have c0 : w.cell? ⟨b, off, none⟩ = some (cs[off]'(by omega)) := by rw [hw.at_]; exact Array.getElem?_eq_getElem _
  have c1 : w.cell? ⟨b, off + 1, none⟩ = some (cs[off + 1]'(by omega)) := by rw [hw.at_]; exact Array.getElem?_eq_getElem _
  have c2 : w.cell? ⟨b, off + 2, none⟩ = some (cs[off + 2]'(by omega)) := by rw [hw.at_]; exact Array.getElem?_eq_getElem _
  have c3 : w.cell? ⟨b, off + 3, none⟩ = some (cs[off + 3]'(by omega)) := by rw [hw.at_]; exact Array.getElem?_eq_getElem _
  have z0 := hw.thawed off
  have z1 := hw.thawed (off + 1)
  have z2 := hw.thawed (off + 2)
  have z3 := hw.thawed (off + 3)
  generalize cs[off]'(by omega) = v0 at c0
  generalize cs[off + 1]'(by omega) = v1 at c1
  generalize cs[off + 2]'(by omega) = v2 at c2
  generalize cs[off + 3]'(by omega) = v3 at c3
  clear hw hl
  go_enter Tryz.func73, Tryz.ntmps73
  go_wp2
  go_returns
  refine ⟨rfl, ?_, ?_⟩
  · refine gr_set ?_ (.inl rfl) _
    refine gr_set ?_ (.inl rfl) _
    refine gr_set ?_ (.inl rfl) _
    refine gr_set ?_ (.inl rfl) _
    exact gr_refl _ _
  · rw [y_24, y_16, y_8, y_0]
    exact (((HW.out.put _ _).put _ _).put _ _).put _ _
theorem putWord_at (b off n cap : Nat) (v : Int) (x : BitVec 32) (hv : v = (x.toNat : Int)) (t : TypeId) (cs : Array Value) (w : World) (hn : 4 ≤ n) (hw : Whole w b t cs) (hl : off + 4 ≤ cs.size) :
    Calls Tryz.prog 73 #[.slice (some ⟨b, off, none⟩) n cap, .int .u32 v] w fun e w' => e = .returned (.tuple #[]) ∧ w.grownBy w' (some b) ∧ Whole w' b t (set4 cs off x) := by
  subst hv
  exact putWord_any b off n cap x t cs w hn hw hl
end Go.Proofs.YtdjhkaofhdcalaaGreatDoor

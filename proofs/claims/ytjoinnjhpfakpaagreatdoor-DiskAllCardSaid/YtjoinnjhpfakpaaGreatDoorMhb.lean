/-
  SHA-256 as plain mathematics: words are BitVec 32, texts are lists of bytes. No program is named here.
  The leaves of package sha, walked: RotateLeft32, the four sigmas, word, putWord.
  sha.schedule, walked: the 64 words of a block.
  sha.mix, walked: one block more.
  How a sha.Hash lies in memory; a copy into a block that is known whole.
-/
import Derived.Test.YtjoinnjhpfakpaaGreatDoorProg
import Derived.Test.YtjoinnjhpfakpaaGreatDoorMha
import Derived.Handy
import Derived.Deep.QuietTactic
import Derived.BigQuiet
import Derived.RegionTactic
import Derived.BigRegion
import Derived.LoopTactic
import Derived.Deep.RegionHeld3
import Derived.Laws.CopyOwn
namespace Go.Proofs.YtjoinnjhpfakpaaGreatDoor.ShaM

abbrev Wd := BitVec 32

def rr (x : Wd) (n : Nat) : Wd := (x >>> n) ||| (x <<< (32 - n))
def s0 (x : Wd) : Wd := rr x 7 ^^^ rr x 18 ^^^ (x >>> 3)
def s1 (x : Wd) : Wd := rr x 17 ^^^ rr x 19 ^^^ (x >>> 10)
def b0 (x : Wd) : Wd := rr x 2 ^^^ rr x 13 ^^^ rr x 22
def b1 (x : Wd) : Wd := rr x 6 ^^^ rr x 11 ^^^ rr x 25
def ch (e f g : Wd) : Wd := (e &&& f) ^^^ (~~~e &&& g)
def mj (a b c : Wd) : Wd := (a &&& b) ^^^ (a &&& c) ^^^ (b &&& c)

def kk : List Nat := [
  0x428a2f98, 0x71374491, 0xb5c0fbcf, 0xe9b5dba5, 0x3956c25b, 0x59f111f1, 0x923f82a4, 0xab1c5ed5,
  0xd807aa98, 0x12835b01, 0x243185be, 0x550c7dc3, 0x72be5d74, 0x80deb1fe, 0x9bdc06a7, 0xc19bf174,
  0xe49b69c1, 0xefbe4786, 0x0fc19dc6, 0x240ca1cc, 0x2de92c6f, 0x4a7484aa, 0x5cb0a9dc, 0x76f988da,
  0x983e5152, 0xa831c66d, 0xb00327c8, 0xbf597fc7, 0xc6e00bf3, 0xd5a79147, 0x06ca6351, 0x14292967,
  0x27b70a85, 0x2e1b2138, 0x4d2c6dfc, 0x53380d13, 0x650a7354, 0x766a0abb, 0x81c2c92e, 0x92722c85,
  0xa2bfe8a1, 0xa81a664b, 0xc24b8b70, 0xc76c51a3, 0xd192e819, 0xd6990624, 0xf40e3585, 0x106aa070,
  0x19a4c116, 0x1e376c08, 0x2748774c, 0x34b0bcb5, 0x391c0cb3, 0x4ed8aa4a, 0x5b9cca4f, 0x682e6ff3,
  0x748f82ee, 0x78a5636f, 0x84c87814, 0x8cc70208, 0x90befffa, 0xa4506ceb, 0xbef9a3f7, 0xc67178f2]
def K (t : Nat) : Wd := BitVec.ofNat 32 (kk.getD t 0)
theorem kk_len : kk.length = 64 := by decide

structure St where
  a : Wd
  b : Wd
  c : Wd
  d : Wd
  e : Wd
  f : Wd
  g : Wd
  h : Wd
deriving DecidableEq

def St.at (s : St) : Nat → Wd
  | 0 => s.a | 1 => s.b | 2 => s.c | 3 => s.d | 4 => s.e | 5 => s.f | 6 => s.g | _ => s.h

def H0 : St := ⟨0x6a09e667, 0xbb67ae85, 0x3c6ef372, 0xa54ff53a, 0x510e527f, 0x9b05688c, 0x1f83d9ab, 0x5be0cd19⟩

def t1 (s : St) (k w : Wd) : Wd := s.h + b1 s.e + ch s.e s.f s.g + k + w
def t2 (s : St) : Wd := b0 s.a + mj s.a s.b s.c
def rnd (s : St) (k w : Wd) : St := ⟨t1 s k w + t2 s, s.a, s.b, s.c, s.d + t1 s k w, s.e, s.f, s.g⟩

/-- The next word of a list of words. -/
def ext (l : List Wd) : Wd := s1 (l.getD (l.length - 2) 0) + l.getD (l.length - 7) 0 + s0 (l.getD (l.length - 15) 0) + l.getD (l.length - 16) 0
def sched (m : List Wd) : Nat → List Wd
  | 0 => m
  | n + 1 => sched m n ++ [ext (sched m n)]
theorem sched_len (m : List Wd) (n : Nat) : (sched m n).length = m.length + n := by
  induction n with
  | zero => rfl
  | succ n ih => simp [sched, ih]; omega

def rounds (ws : List Wd) : Nat → St → St
  | 0, s => s
  | t + 1, s => rnd (rounds ws t s) (K t) (ws.getD t 0)

def St.add (s r : St) : St := ⟨s.a + r.a, s.b + r.b, s.c + r.c, s.d + r.d, s.e + r.e, s.f + r.f, s.g + r.g, s.h + r.h⟩

/-- Four bytes, the highest first. -/
def be (a b c d : UInt8) : Wd := BitVec.ofNat 32 (a.toNat * 16777216 + b.toNat * 65536 + c.toNat * 256 + d.toNat)
def mw (l : List UInt8) (t : Nat) : Wd := be (l.getD (4 * t) 0) (l.getD (4 * t + 1) 0) (l.getD (4 * t + 2) 0) (l.getD (4 * t + 3) 0)
def mws (l : List UInt8) (n : Nat) : List Wd := (List.range n).map (mw l)
theorem mws_len (l : List UInt8) (n : Nat) : (mws l n).length = n := by simp [mws]
theorem mws_succ (l : List UInt8) (n : Nat) : mws l (n + 1) = mws l n ++ [mw l n] := by simp [mws, List.range_succ]

/-- All 64 words of a block. -/
def wds (l : List UInt8) : List Wd := sched (mws l 16) 48
theorem wds_len (l : List UInt8) : (wds l).length = 64 := by simp [wds, sched_len, mws_len]

/-- One block more. -/
def comp (s : St) (l : List UInt8) : St := s.add (rounds (wds l) 64 s)

def runN : Nat → St → List UInt8 → St
  | 0, s, _ => s
  | k + 1, s, l => runN k (comp s (l.take 64)) (l.drop 64)

theorem runN_add (a b : Nat) (s : St) (l : List UInt8) : runN (a + b) s l = runN b (runN a s l) (l.drop (64 * a)) := by
  induction a generalizing s l with
  | zero => simp [runN]
  | succ a ih =>
    have e : a + 1 + b = (a + b) + 1 := by omega
    rw [e]
    simp only [runN]
    rw [ih, List.drop_drop]
    have e2 : 64 + 64 * a = 64 * (a + 1) := by omega
    rw [e2]

theorem runN_append (k : Nat) (s : St) (l r : List UInt8) (h : 64 * k ≤ l.length) : runN k s (l ++ r) = runN k s l := by
  induction k generalizing s l with
  | zero => rfl
  | succ k ih =>
    simp only [runN]
    rw [List.take_append_of_le_length (by omega), List.drop_append_of_le_length (by omega), ih _ _ (by simp; omega)]

/-- The state behind all whole blocks of a text; the bytes behind them. -/
def stOf (T : List UInt8) : St := runN (T.length / 64) H0 T
def tl (T : List UInt8) : List UInt8 := T.drop (64 * (T.length / 64))
theorem tl_len (T : List UInt8) : (tl T).length = T.length % 64 := by simp [tl]; omega
theorem tl_nil : tl [] = [] := rfl
theorem stOf_nil : stOf [] = H0 := rfl

theorem stOf_short (T b : List UInt8) (h : T.length % 64 + b.length < 64) : stOf (T ++ b) = stOf T := by
  have e : (T ++ b).length / 64 = T.length / 64 := by simp; omega
  unfold stOf
  rw [e, runN_append _ _ _ _ (by omega)]
theorem tl_short (T b : List UInt8) (h : T.length % 64 + b.length < 64) : tl (T ++ b) = tl T ++ b := by
  have e : (T ++ b).length / 64 = T.length / 64 := by simp; omega
  unfold tl
  rw [e, List.drop_append_of_le_length (by omega)]
theorem stOf_full (T b : List UInt8) (h : T.length % 64 + b.length = 64) : stOf (T ++ b) = comp (stOf T) (tl T ++ b) := by
  have e : (T ++ b).length / 64 = T.length / 64 + 1 := by simp; omega
  unfold stOf
  rw [e, runN_add, runN_append _ _ _ _ (by omega), List.drop_append_of_le_length (by omega)]
  simp only [runN]
  have hl : (tl T ++ b).length = 64 := by rw [List.length_append, tl_len]; omega
  show comp _ (List.take 64 (tl T ++ b)) = _
  rw [List.take_of_length_le (by omega)]
theorem tl_full (T b : List UInt8) (h : T.length % 64 + b.length = 64) : tl (T ++ b) = [] := by
  apply List.eq_nil_of_length_eq_zero
  rw [tl_len]; simp; omega

/-! ### Padding -/
def padN (n : Nat) : Nat := if n % 64 < 56 then 64 - n % 64 else 128 - n % 64
theorem padN_bd (n : Nat) : 9 ≤ padN n ∧ padN n ≤ 72 ∧ (n + padN n) % 64 = 0 := by unfold padN; split <;> omega
def be8 (n : Nat) : List UInt8 := [UInt8.ofNat (n / 2 ^ 56), UInt8.ofNat (n / 2 ^ 48), UInt8.ofNat (n / 2 ^ 40), UInt8.ofNat (n / 2 ^ 32), UInt8.ofNat (n / 2 ^ 24), UInt8.ofNat (n / 2 ^ 16), UInt8.ofNat (n / 2 ^ 8), UInt8.ofNat n]
def pad (n : Nat) : List UInt8 := 128 :: (List.replicate (padN n - 9) 0 ++ be8 (n * 8))
theorem pad_len (n : Nat) : (pad n).length = padN n := by
  have := padN_bd n
  simp [pad, be8]; omega

def be4 (w : Wd) : List UInt8 := [UInt8.ofNat (w.toNat / 16777216), UInt8.ofNat (w.toNat / 65536), UInt8.ofNat (w.toNat / 256), UInt8.ofNat w.toNat]
def out (s : St) : List UInt8 := be4 s.a ++ be4 s.b ++ be4 s.c ++ be4 s.d ++ be4 s.e ++ be4 s.f ++ be4 s.g ++ be4 s.h
theorem out_len (s : St) : (out s).length = 32 := rfl

/-- SHA-256. -/
def sha (T : List UInt8) : List UInt8 := out (stOf (T ++ pad T.length))
theorem sha_len (T : List UInt8) : (sha T).length = 32 := rfl

/-- The hash of 'abc'. -/
theorem sha_abc : sha [97, 98, 99] = [0xba, 0x78, 0x16, 0xbf, 0x8f, 0x01, 0xcf, 0xea, 0x41, 0x41, 0x40, 0xde, 0x5d, 0xae, 0x22, 0x23, 0xb0, 0x03, 0x61, 0xa3, 0x96, 0x17, 0x7a, 0x9c, 0xb4, 0x10, 0xff, 0x61, 0xf2, 0x00, 0x15, 0xad] := by decide +kernel

/-! ### Other spellings -/
theorem turn_eq (x : Wd) (n : Nat) : (x >>> n) + (x <<< (32 - n)) = rr x n := by
  unfold rr
  apply BitVec.add_eq_or_of_and_eq_zero
  ext i hi
  simp
  intro h1 h2
  have h3 : x.getLsbD (n + i) = false := BitVec.getLsbD_of_ge _ _ (by omega)
  rw [h3] at h1
  cases h1
theorem ch_eq (e f g : Wd) : (e &&& f) ||| ((0xffffffff - e) &&& g) = ch e f g := by
  have h : (0xffffffff : Wd) - e = ~~~e := by
    show BitVec.allOnes 32 - e = _
    rw [BitVec.allOnes_sub_eq_not]
  rw [h]
  unfold ch
  ext i hi
  simp
  cases e[i] <;> simp
theorem mj_eq (a b c : Wd) : (a &&& b) ||| (a &&& c) ||| (b &&& c) = mj a b c := by
  unfold mj
  ext i hi
  simp
  cases a[i] <;> cases b[i] <;> cases c[i] <;> rfl
end Go.Proofs.YtjoinnjhpfakpaaGreatDoor.ShaM
namespace Go.Proofs.YtjoinnjhpfakpaaGreatDoor
open Go.RowKit

theorem rot_amt : ∀ n : Fin 32, 1 ≤ n.val → bits .and .u64 (IntKind.u64.wrap (-(n.val : Int))) 31 = ((32 - n.val : Nat) : Int) := by decide +kernel

/-- bits.RotateLeft32(x, k), k from -31 to -1: x turned to the right by -k. -/
theorem rot_any (x : BitVec 32) (k : Int) (n : Nat) (hk : k = -(n : Int)) (h1 : 1 ≤ n) (h2 : n < 32) (w : World) :
    Calls Tryz.prog 287 #[.int .u32 (x.toNat : Int), .int .i64 k] w fun e w' => e = .returned (.int .u32 ((ShaM.rr x n).toNat : Int)) ∧ w = w' := by
  subst hk
  have ha := rot_amt ⟨n, h2⟩ h1
  have hs : IntKind.u64.wrap (32 - ((32 - n : Nat) : Int)) = (n : Int) := by rw [IntKind.wrap_u64]; omega
  go_enter Tryz.func287, Tryz.ntmps287
  go_wp2
  go_ret
  refine ⟨ret_int ?_, rfl⟩
  show bits .or .u32 ((x.toNat : Int) * 2 ^ (32 - n) % 4294967296) ((x.toNat : Int) / 2 ^ n) = _
  rw [u_shl_mod, u_shr, u_or, ShaM.rr, BitVec.or_comm]

theorem small0_any (x : BitVec 32) (w : World) :
    Calls Tryz.prog 286 #[.int .u32 (x.toNat : Int)] w fun e w' => e = .returned (.int .u32 ((ShaM.s0 x).toNat : Int)) ∧ w = w' := by
  go_enter Tryz.func286, Tryz.ntmps286
  go_wp2_with fail
  refine (rot_any x (-7) 7 rfl (by decide) (by decide) _).mono ?_
  rintro e w' ⟨rfl, rfl⟩
  go_wp2_with fail
  refine (rot_any x (-18) 18 rfl (by decide) (by decide) _).mono ?_
  rintro e w' ⟨rfl, rfl⟩
  go_wp2
  go_ret
  refine ⟨ret_int ?_, rfl⟩
  have e := u_shr x 3
  rw [show (2 : Int) ^ 3 = 8 from rfl] at e
  rw [e, u_xor, u_xor]
  rfl
theorem small1_any (x : BitVec 32) (w : World) :
    Calls Tryz.prog 285 #[.int .u32 (x.toNat : Int)] w fun e w' => e = .returned (.int .u32 ((ShaM.s1 x).toNat : Int)) ∧ w = w' := by
  go_enter Tryz.func285, Tryz.ntmps285
  go_wp2_with fail
  refine (rot_any x (-17) 17 rfl (by decide) (by decide) _).mono ?_
  rintro e w' ⟨rfl, rfl⟩
  go_wp2_with fail
  refine (rot_any x (-19) 19 rfl (by decide) (by decide) _).mono ?_
  rintro e w' ⟨rfl, rfl⟩
  go_wp2
  go_ret
  refine ⟨ret_int ?_, rfl⟩
  have e := u_shr x 10
  rw [show (2 : Int) ^ 10 = 1024 from rfl] at e
  rw [e, u_xor, u_xor]
  rfl
theorem big0_any (x : BitVec 32) (w : World) :
    Calls Tryz.prog 248 #[.int .u32 (x.toNat : Int)] w fun e w' => e = .returned (.int .u32 ((ShaM.b0 x).toNat : Int)) ∧ w = w' := by
  go_enter Tryz.func248, Tryz.ntmps248
  go_wp2_with fail
  refine (rot_any x (-2) 2 rfl (by decide) (by decide) _).mono ?_
  rintro e w' ⟨rfl, rfl⟩
  go_wp2_with fail
  refine (rot_any x (-13) 13 rfl (by decide) (by decide) _).mono ?_
  rintro e w' ⟨rfl, rfl⟩
  go_wp2_with fail
  refine (rot_any x (-22) 22 rfl (by decide) (by decide) _).mono ?_
  rintro e w' ⟨rfl, rfl⟩
  go_wp2
  go_ret
  refine ⟨ret_int ?_, rfl⟩
  rw [u_xor, u_xor]
  rfl
theorem big1_any (x : BitVec 32) (w : World) :
    Calls Tryz.prog 247 #[.int .u32 (x.toNat : Int)] w fun e w' => e = .returned (.int .u32 ((ShaM.b1 x).toNat : Int)) ∧ w = w' := by
  go_enter Tryz.func247, Tryz.ntmps247
  go_wp2_with fail
  refine (rot_any x (-6) 6 rfl (by decide) (by decide) _).mono ?_
  rintro e w' ⟨rfl, rfl⟩
  go_wp2_with fail
  refine (rot_any x (-11) 11 rfl (by decide) (by decide) _).mono ?_
  rintro e w' ⟨rfl, rfl⟩
  go_wp2_with fail
  refine (rot_any x (-25) 25 rfl (by decide) (by decide) _).mono ?_
  rintro e w' ⟨rfl, rfl⟩
  go_wp2
  go_ret
  refine ⟨ret_int ?_, rfl⟩
  rw [u_xor, u_xor]
  rfl
/-- word(b): the first four bytes, the highest first. -/
theorem word_any (b off n cap : Nat) (b0 b1 b2 b3 : UInt8) (w : World) (hn : 4 ≤ n)
    (h0 : w.cell? ⟨b, off, none⟩ = some (Y b0)) (h1 : w.cell? ⟨b, off + 1, none⟩ = some (Y b1)) (h2 : w.cell? ⟨b, off + 2, none⟩ = some (Y b2)) (h3 : w.cell? ⟨b, off + 3, none⟩ = some (Y b3)) :
    Calls Tryz.prog 284 #[.slice (some ⟨b, off, none⟩) n cap] w fun e w' => e = .returned (.int .u32 ((ShaM.be b0 b1 b2 b3).toNat : Int)) ∧ ∃ k, w' = w.drewN k := by
  unfold Y at h0 h1 h2 h3
  have k0 : (0 : Int) < (n : Int) := by omega
  have k1 : (1 : Int) < (n : Int) := by omega
  have k2 : (2 : Int) < (n : Int) := by omega
  have k3 : (3 : Int) < (n : Int) := by omega
  go_enter Tryz.func284, Tryz.ntmps284
  go_wp2
  go_quiet (fail)
  go_wp2
  go_ret
  exact ⟨ret_int (be_val b0 b1 b2 b3), _, rfl⟩
/-- Four cells of an array of cells, laid with a word's bytes. -/
def set4 (cs : Array Value) (off : Nat) (x : BitVec 32) : Array Value :=
  (((cs.setIfInBounds off (Y (UInt8.ofNat (x.toNat / 16777216)))).setIfInBounds (off + 1) (Y (UInt8.ofNat (x.toNat / 65536)))).setIfInBounds (off + 2) (Y (UInt8.ofNat (x.toNat / 256)))).setIfInBounds (off + 3) (Y (UInt8.ofNat x.toNat))
theorem y_24 (x : BitVec 32) : Value.int .u8 ((x.toNat : Int) / 16777216) = Y (UInt8.ofNat (x.toNat / 16777216)) := Y_int (by have := x.isLt; omega)
theorem y_16 (x : BitVec 32) : Value.int .u8 ((x.toNat : Int) / 65536 % 256) = Y (UInt8.ofNat (x.toNat / 65536)) := Y_int (by omega)
theorem y_8 (x : BitVec 32) : Value.int .u8 ((x.toNat : Int) / 256 % 256) = Y (UInt8.ofNat (x.toNat / 256)) := Y_int (by omega)
theorem y_0 (x : BitVec 32) : Value.int .u8 ((x.toNat : Int) % 256) = Y (UInt8.ofNat x.toNat) := Y_int (by omega)
theorem set4_size (cs : Array Value) (off : Nat) (x : BitVec 32) : (set4 cs off x).size = cs.size := by simp [set4]
/-- putWord(b, x): x's four bytes, the highest first, are laid. -/
theorem putWord_any (b off n cap : Nat) (x : BitVec 32) (t : TypeId) (cs : Array Value) (w : World) (hn : 4 ≤ n) (hw : Whole w b t cs) (hl : off + 4 ≤ cs.size) :
    Calls Tryz.prog 181 #[.slice (some ⟨b, off, none⟩) n cap, .int .u32 (x.toNat : Int)] w fun e w' => e = .returned (.tuple #[]) ∧
      w.grownBy w' (some b) ∧ Whole w' b t (set4 cs off x) := by
  have HW := Lib.hid hw
  have k0 : (0 : Int) < (n : Int) := by omega
  have k1 : (1 : Int) < (n : Int) := by omega
  have k2 : (2 : Int) < (n : Int) := by omega
  have k3 : (3 : Int) < (n : Int) := by omega
  have c0 : w.cell? ⟨b, off, none⟩ = some (cs[off]'(by omega)) := by rw [hw.at_]; exact Array.getElem?_eq_getElem _
  have c1 : w.cell? ⟨b, off + 1, none⟩ = some (cs[off + 1]'(by omega)) := by rw [hw.at_]; exact Array.getElem?_eq_getElem _
  have c2 : w.cell? ⟨b, off + 2, none⟩ = some (cs[off + 2]'(by omega)) := by rw [hw.at_]; exact Array.getElem?_eq_getElem _
  have c3 : w.cell? ⟨b, off + 3, none⟩ = some (cs[off + 3]'(by omega)) := by rw [hw.at_]; exact Array.getElem?_eq_getElem _
  have z0 := hw.thawed off
  have z1 := hw.thawed (off + 1)
  have z2 := hw.thawed (off + 2)
  have z3 := hw.thawed (off + 3)
  generalize cs[off]'(by omega) = v0 at c0
  generalize cs[off + 1]'(by omega) = v1 at c1
  generalize cs[off + 2]'(by omega) = v2 at c2
  generalize cs[off + 3]'(by omega) = v3 at c3
  clear hw hl
  go_enter Tryz.func181, Tryz.ntmps181
  go_wp2
  go_returns
  refine ⟨rfl, ?_, ?_⟩
  · refine gr_set ?_ (.inl rfl) _
    refine gr_set ?_ (.inl rfl) _
    refine gr_set ?_ (.inl rfl) _
    refine gr_set ?_ (.inl rfl) _
    exact gr_refl _ _
  · rw [y_24, y_16, y_8, y_0]
    exact (((HW.out.put _ _).put _ _).put _ _).put _ _
theorem putWord_at (b off n cap : Nat) (v : Int) (x : BitVec 32) (hv : v = (x.toNat : Int)) (t : TypeId) (cs : Array Value) (w : World) (hn : 4 ≤ n) (hw : Whole w b t cs) (hl : off + 4 ≤ cs.size) :
    Calls Tryz.prog 181 #[.slice (some ⟨b, off, none⟩) n cap, .int .u32 v] w fun e w' => e = .returned (.tuple #[]) ∧ w.grownBy w' (some b) ∧ Whole w' b t (set4 cs off x) := by
  subst hv
  exact putWord_any b off n cap x t cs w hn hw hl
end Go.Proofs.YtjoinnjhpfakpaaGreatDoor
namespace Go.Proofs.YtjoinnjhpfakpaaGreatDoor
open Go.RowKit

/-- An array of 64 words as it is being filled: the words so far, noughts behind them. -/
def warr (ws : List ShaM.Wd) : Array Value := ((ws ++ List.replicate (64 - ws.length) 0).map U).toArray
theorem warr_size (ws : List ShaM.Wd) (h : ws.length ≤ 64) : (warr ws).size = 64 := by simp [warr]; omega
theorem warr_at (ws : List ShaM.Wd) (i : Nat) (h : i < ws.length) : (warr ws)[i]? = some (U (ws.getD i 0)) := by
  simp only [warr, List.map_append, List.getElem?_toArray]
  rw [List.getElem?_append_left (by simpa using h)]
  simp [List.getElem?_eq_getElem h]
theorem warr_zero (ws : List ShaM.Wd) (h : ws.length < 64) : (warr ws)[ws.length]? = some (U 0) := by
  simp only [warr, List.map_append, List.getElem?_toArray]
  rw [List.getElem?_append_right (by simp)]
  obtain ⟨m, hm⟩ : ∃ m, 64 - ws.length = m + 1 := ⟨64 - ws.length - 1, by omega⟩
  simp [hm]
theorem warr_put (ws : List ShaM.Wd) (x : ShaM.Wd) (h : ws.length < 64) : (warr ws).setIfInBounds ws.length (U x) = warr (ws ++ [x]) := by
  apply Array.ext'
  obtain ⟨m, hm⟩ : ∃ m, 64 - ws.length = m + 1 := ⟨64 - ws.length - 1, by omega⟩
  have hm' : 64 - (ws ++ [x]).length = m := by simp; omega
  simp only [warr, Array.toList_setIfInBounds, hm, hm', List.replicate_succ, List.map_append, List.map_cons, List.map_nil]
  rw [List.set_append_right _ _ (by simp)]
  simp
theorem warr_full (ws : List ShaM.Wd) (h : ws.length = 64) : warr ws = (ws.map U).toArray := by simp [warr, h]

theorem words_one (ws : List ShaM.Wd) : (ws.map U).toArray.all (·.oneCell') = true := by
  rw [Array.all_eq_true_iff_forall_mem]
  intro x hx
  simp at hx
  obtain ⟨y, _, rfl⟩ := hx
  rfl
set_option maxRecDepth 100000 in
set_option maxHeartbeats 4000000 in
theorem schedule_any (b off n cap : Nat) (l : List UInt8) (w : World) (hn : 64 ≤ n) (hc : n ≤ cap) (hcap : cap ≤ maxLen) (hcell : ∀ i, i < 64 → w.cell? ⟨b, off + i, none⟩ = some (Y (l.getD i 0))) :
    Calls Tryz.prog 246 #[.slice (some ⟨b, off, none⟩) n cap] w fun e w' => e = .returned (.agg ((ShaM.wds l).map U).toArray) ∧ Below w.heap.size w w' := by
  unfold maxLen at hcap
  have hbw : b < w.heap.size := World.block_lt_of_cell? w ⟨b, off + 0, none⟩ (hcell 0 (by decide))
  have HC := Lib.hid hcell
  clear hcell
  go_enter Tryz.func246, Tryz.ntmps246
  go_wp2
  go_loopw [5] (fun i wr => ∃ k : Nat, k ≤ 16 ∧ i = .int .i64 k ∧ Whole wr w.heap.size 284 (warr (ShaM.mws l k)) ∧ Below w.heap.size w wr) (fun i _ => 16 - (intOf i).toNat)
  case atStart => exact ⟨0, by omega, rfl, Whole.made _ _ _, (Below.refl _ _).alloc (Nat.le_refl _) _⟩
  case round =>
    obtain ⟨k, hk, rfl, hW, hB⟩ := hrel
    by_cases hlt : k < 16
    · have HW := Lib.hid hW
      have HB := Lib.hid hB
      clear hW hB
      have c0 : wr.cell? ⟨w.heap.size, k, none⟩ = some (.int .u32 0) := by
        have := (HW.out).at_ k
        have e := warr_zero (ShaM.mws l k) (by rw [ShaM.mws_len]; omega)
        rw [ShaM.mws_len] at e
        rw [this, e]; rfl
      have z0 := HW.out.thawed k
      have hbr : ∀ i, i < 64 → wr.cell? ⟨b, off + i, none⟩ = some (Y (l.getD i 0)) := fun i hi => (HB.out.cell (by exact hbw)).trans (HC.out i hi)
      have HR := Lib.hid hbr
      clear hbr
      go_wp2_with fail
      refine (word_any b (off + 4 * k) (n - 4 * k) (cap - 4 * k) (l.getD (4 * k) 0) (l.getD (4 * k + 1) 0) (l.getD (4 * k + 2) 0) (l.getD (4 * k + 3) 0) _ (by omega)
        (HR.out (4 * k) (by omega)) (HR.out (4 * k + 1) (by omega)) (HR.out (4 * k + 2) (by omega)) (HR.out (4 * k + 3) (by omega))).mono ?_
      rintro e w' ⟨rfl, q, rfl⟩
      go_wp2
      go_roundw
      case rel =>
        refine ⟨k + 1, by omega, by go_num, ?_, ?_⟩
        · have e := warr_put (ShaM.mws l k) (ShaM.mw l k) (by rw [ShaM.mws_len]; omega)
          rw [ShaM.mws_len] at e
          rw [ShaM.mws_succ, ← e]
          exact (HW.out.put _ _).drewN _
        · exact be_drewN (HB.out.setCell (Nat.le_refl _) _) _
      case measure => simp [intOf]; omega
    · have HK := Lib.hid (show k = 16 by omega)
      go_wp2
      go_loopw [4] (fun i wr => ∃ t : Nat, 16 ≤ t ∧ t ≤ 64 ∧ i = .int .i64 t ∧ Whole wr w.heap.size 284 (warr (ShaM.sched (ShaM.mws l 16) (t - 16))) ∧ Below w.heap.size w wr) (fun i _ => 64 - (intOf i).toNat)
      case atStart => exact ⟨16, by omega, by omega, rfl, by rw [HK.out] at hW; exact hW, hB⟩
      case round =>
        clear hW hB
        obtain ⟨t, ht, ht', rfl, hW, hB⟩ := hrel
        have HW := Lib.hid hW
        have HB := Lib.hid hB
        clear hW hB
        by_cases hlt : t < 64
        · have hlen : (ShaM.sched (ShaM.mws l 16) (t - 16)).length = t := by rw [ShaM.sched_len, ShaM.mws_len]; omega
          have rd : ∀ j, j < t → wr.cell? ⟨w.heap.size, j, none⟩ = some (.int .u32 (((ShaM.sched (ShaM.mws l 16) (t - 16)).getD j 0).toNat : Int)) := fun j hj => by
            rw [HW.out.at_ j, warr_at _ _ (by rw [hlen]; exact hj)]; rfl
          have c2 := rd (t - 2) (by omega)
          have c7 := rd (t - 7) (by omega)
          have c15 := rd (t - 15) (by omega)
          have c16 := rd (t - 16) (by omega)
          have c0 : wr.cell? ⟨w.heap.size, t, none⟩ = some (.int .u32 0) := by
            have e := warr_zero (ShaM.sched (ShaM.mws l 16) (t - 16)) (by rw [hlen]; exact hlt)
            rw [hlen] at e
            rw [HW.out.at_ t, e]; rfl
          have z0 := HW.out.thawed t
          have hnew : ShaM.sched (ShaM.mws l 16) (t + 1 - 16) = ShaM.sched (ShaM.mws l 16) (t - 16) ++ [ShaM.s1 ((ShaM.sched (ShaM.mws l 16) (t - 16)).getD (t - 2) 0) + (ShaM.sched (ShaM.mws l 16) (t - 16)).getD (t - 7) 0 + ShaM.s0 ((ShaM.sched (ShaM.mws l 16) (t - 16)).getD (t - 15) 0) + (ShaM.sched (ShaM.mws l 16) (t - 16)).getD (t - 16) 0] := by
            have e : t + 1 - 16 = (t - 16) + 1 := by omega
            rw [e, ShaM.sched, ShaM.ext, hlen]
          have HN := Lib.hid hnew
          have HL := Lib.hid hlen
          clear rd hnew hlen
          generalize (ShaM.sched (ShaM.mws l 16) (t - 16)).getD (t - 2) 0 = x2 at c2 HN
          generalize (ShaM.sched (ShaM.mws l 16) (t - 16)).getD (t - 7) 0 = x7 at c7 HN
          generalize (ShaM.sched (ShaM.mws l 16) (t - 16)).getD (t - 15) 0 = x15 at c15 HN
          generalize (ShaM.sched (ShaM.mws l 16) (t - 16)).getD (t - 16) 0 = x16 at c16 HN
          have w2 : IntKind.i64.wrap ((t : Int) - 2) = (t : Int) - 2 := IntWalk.i64_in _ (by omega)
          have p2 : (0 : Int) ≤ (t : Int) - 2 := by omega
          have q2 : (2 : Int) ≤ (t : Int) := by omega
          have r2 : (t : Int) - 2 < 64 := by omega
          have d2 : t - 2 < t := by omega
          have n2 : ((t : Int) - 2).toNat = t - 2 := by omega
          have w7 : IntKind.i64.wrap ((t : Int) - 7) = (t : Int) - 7 := IntWalk.i64_in _ (by omega)
          have p7 : (0 : Int) ≤ (t : Int) - 7 := by omega
          have q7 : (7 : Int) ≤ (t : Int) := by omega
          have r7 : (t : Int) - 7 < 64 := by omega
          have d7 : t - 7 < t := by omega
          have n7 : ((t : Int) - 7).toNat = t - 7 := by omega
          have w15 : IntKind.i64.wrap ((t : Int) - 15) = (t : Int) - 15 := IntWalk.i64_in _ (by omega)
          have p15 : (0 : Int) ≤ (t : Int) - 15 := by omega
          have q15 : (15 : Int) ≤ (t : Int) := by omega
          have r15 : (t : Int) - 15 < 64 := by omega
          have d15 : t - 15 < t := by omega
          have n15 : ((t : Int) - 15).toNat = t - 15 := by omega
          have w16 : IntKind.i64.wrap ((t : Int) - 16) = (t : Int) - 16 := IntWalk.i64_in _ (by omega)
          have p16 : (0 : Int) ≤ (t : Int) - 16 := by omega
          have q16 : (16 : Int) ≤ (t : Int) := by omega
          have r16 : (t : Int) - 16 < 64 := by omega
          have d16 : t - 16 < t := by omega
          have n16 : ((t : Int) - 16).toNat = t - 16 := by omega
          go_wp2_with fail
          go_region_held3 (fun w' => w'.cell? ⟨w.heap.size, t - 2, none⟩ = some (.int .u32 (x2.toNat : Int)) ∧ w'.cell? ⟨w.heap.size, t - 7, none⟩ = some (.int .u32 (x7.toNat : Int)) ∧ w'.cell? ⟨w.heap.size, t - 15, none⟩ = some (.int .u32 (x15.toNat : Int)) ∧ w'.cell? ⟨w.heap.size, t - 16, none⟩ = some (.int .u32 (x16.toNat : Int)))
            (first | exact ⟨c2, c7, c15, c16⟩ | exact ⟨(World.cell?_setCell_other wr ⟨w.heap.size, t, none⟩ ⟨w.heap.size, t - 2, none⟩ _ (far_at _ _ _ d2).symm).trans c2, (World.cell?_setCell_other wr ⟨w.heap.size, t, none⟩ ⟨w.heap.size, t - 7, none⟩ _ (far_at _ _ _ d7).symm).trans c7, (World.cell?_setCell_other wr ⟨w.heap.size, t, none⟩ ⟨w.heap.size, t - 15, none⟩ _ (far_at _ _ _ d15).symm).trans c15, (World.cell?_setCell_other wr ⟨w.heap.size, t, none⟩ ⟨w.heap.size, t - 16, none⟩ _ (far_at _ _ _ d16).symm).trans c16⟩)
            (first
              | (go_at_call 285; refine (small1_any x2 _).mono ?_; rintro e w' ⟨rfl, rfl⟩)
              | (go_at_call 286; refine (small0_any x15 _).mono ?_; rintro e w' ⟨rfl, rfl⟩))
          clear w2 p2 q2 r2 n2 d2 c2 w7 p7 q7 r7 n7 d7 c7 w15 p15 q15 r15 n15 d15 c15 w16 p16 q16 r16 n16 d16 c16 c0 z0
          go_wp2
          go_roundw
          case rel =>
            refine ⟨t + 1, by omega, by omega, by go_num, ?_, ?_⟩
            · have e := warr_put (ShaM.sched (ShaM.mws l 16) (t - 16)) (ShaM.s1 x2 + x7 + ShaM.s0 x15 + x16) (by rw [HL.out]; exact hlt)
              rw [HL.out] at e
              rw [HN.out, ← e, u_add_mod, u_add_mod, u_add_mod]
              exact HW.out.put _ _
            · exact (HB.out.setCell (Nat.le_refl _) _).drew
          case measure => simp [intOf]; omega
        · have hW2 : Whole wr w.heap.size 284 ((ShaM.wds l).map U).toArray := by
            have e : t = 64 := by omega
            have := HW.out
            rw [e, warr_full _ (by rw [ShaM.sched_len, ShaM.mws_len])] at this
            exact this
          have hsz : ((ShaM.wds l).map U).toArray.size = 64 := by simp [ShaM.wds_len]
          have h1 : ((ShaM.wds l).map U).toArray.all (·.oneCell') = true := words_one _
          clear HW
          have HB2 := Lib.hid HB.out
          generalize hcs : ((ShaM.wds l).map U).toArray = cs at hW2 hsz h1
          have HCS := Lib.hid hcs
          clear hcs
          have hi : (Tryz.prog.info? 284).map (·.size) = some cs.size := by rw [hsz]; kernel_rfl
          have H1 := Lib.hid h1
          have HS := Lib.hid hsz
          have HW2 := Lib.hid hW2
          have HI := Lib.hid hi
          clear h1 hsz hW2 hi
          go_wp2_with (first
            | (refine wpList_load_row rfl 284 _ rfl w.heap.size rfl 284 cs (0, 0) _ HW2.out Tryz.underlying284 rfl HI.out ?_)
            | (refine wpList_store_row rfl 284 _ _ rfl w.heap.size cs rfl rfl 284 cs HW2.out HI.out rfl H1.out ?_))
          refine bodyPost_ret (v := .agg cs) ?_ ?_ ⟨by rw [HCS.out], be_setRow HB2.out (Nat.le_refl _) _⟩
          · exact results_cell_row (p := 2) (ty := 284) rfl _ _ w.heap.size 284 cs (0, 0) _ (by simp [Act.put]) (setRow_heap wr w.heap.size cs cs 284 (0, 0) HW2.out) Tryz.underlying284 rfl HI.out
          · rfl
end Go.Proofs.YtjoinnjhpfakpaaGreatDoor
namespace Go.Proofs.YtjoinnjhpfakpaaGreatDoor
open Go.RowKit

/-- Eight cells of an array of cells, laid with a state. -/
def setSt (cs : Array Value) (s : ShaM.St) : Array Value :=
  (((((((cs.setIfInBounds 0 (U s.a)).setIfInBounds 1 (U s.b)).setIfInBounds 2 (U s.c)).setIfInBounds 3 (U s.d)).setIfInBounds 4 (U s.e)).setIfInBounds 5 (U s.f)).setIfInBounds 6 (U s.g)).setIfInBounds 7 (U s.h)
theorem setSt_size (cs : Array Value) (s : ShaM.St) : (setSt cs s).size = cs.size := by simp [setSt]
theorem setSt_add (cs : Array Value) (s r : ShaM.St) : setSt cs (s.add r) = (((((((cs.setIfInBounds 0 (.int .u32 ((s.a + r.a).toNat : Int))).setIfInBounds 1 (.int .u32 ((s.b + r.b).toNat : Int))).setIfInBounds 2 (.int .u32 ((s.c + r.c).toNat : Int))).setIfInBounds 3 (.int .u32 ((s.d + r.d).toNat : Int))).setIfInBounds 4 (.int .u32 ((s.e + r.e).toNat : Int))).setIfInBounds 5 (.int .u32 ((s.f + r.f).toNat : Int))).setIfInBounds 6 (.int .u32 ((s.g + r.g).toNat : Int))).setIfInBounds 7 (.int .u32 ((s.h + r.h).toNat : Int)) := rfl
/-- The first eight cells read as a state. -/
structure IsSt (cs : Array Value) (s : ShaM.St) : Prop where
  a : cs[0]? = some (U s.a)
  b : cs[1]? = some (U s.b)
  c : cs[2]? = some (U s.c)
  d : cs[3]? = some (U s.d)
  e : cs[4]? = some (U s.e)
  f : cs[5]? = some (U s.f)
  g : cs[6]? = some (U s.g)
  h : cs[7]? = some (U s.h)

/-- What the tables hold. -/
structure Tabs (w : World) : Prop where
  start : ∀ i, i < 8 → w.cell? ⟨1, i, none⟩ = some (U (ShaM.H0.at i))
  roots : ∀ i, i < 64 → w.cell? ⟨2, i, none⟩ = some (U (ShaM.K i))
theorem Tabs.lt1 {w : World} (h : Tabs w) : 1 < w.heap.size := World.block_lt_of_cell? w _ (h.start 0 (by decide))
theorem Tabs.lt2 {w : World} (h : Tabs w) : 2 < w.heap.size := World.block_lt_of_cell? w _ (h.roots 0 (by decide))
theorem Tabs.drew {w : World} (h : Tabs w) : Tabs w.drew := ⟨h.start, h.roots⟩
theorem Tabs.drewN {w : World} (h : Tabs w) (n : Nat) : Tabs (w.drewN n) := ⟨h.start, h.roots⟩
theorem Tabs.below {w w' : World} {B : Nat} (h : Tabs w) (hb : Below B w w') (h1 : 1 < B) (h2 : 2 < B) : Tabs w' :=
  ⟨fun i hi => (hb.cell (by exact h1)).trans (h.start i hi), fun i hi => (hb.cell (by exact h2)).trans (h.roots i hi)⟩
theorem Tabs.grown {w w' : World} {row : Option Nat} (h : Tabs w) (hb : w.grownBy w' row) (h1 : some 1 ≠ row) (h2 : some 2 ≠ row) : Tabs w' :=
  ⟨fun i hi => hb.cell (h.start i hi) (by exact h1), fun i hi => hb.cell (h.roots i hi) (by exact h2)⟩

theorem rnd_t1 (r : ShaM.St) (k x : ShaM.Wd) : ((r.h.toNat : Int) + ((ShaM.b1 r.e).toNat : Int) + bits .xor .u32 (bits .and .u32 (r.e.toNat : Int) (r.f.toNat : Int)) (bits .and .u32 (bits .xor .u32 IntKind.u32.max (r.e.toNat : Int)) (r.g.toNat : Int)) + (k.toNat : Int) + (x.toNat : Int)) % 4294967296 = ((ShaM.t1 r k x).toNat : Int) := by
  rw [u_not, u_and, u_and, u_xor, u_sum5]; rfl
theorem rnd_t2 (r : ShaM.St) : (((ShaM.b0 r.a).toNat : Int) + bits .xor .u32 (bits .xor .u32 (bits .and .u32 (r.a.toNat : Int) (r.b.toNat : Int)) (bits .and .u32 (r.a.toNat : Int) (r.c.toNat : Int))) (bits .and .u32 (r.b.toNat : Int) (r.c.toNat : Int))) % 4294967296 = ((ShaM.t2 r).toNat : Int) := by
  rw [u_and, u_and, u_and, u_xor, u_xor, u_add_mod]; rfl
set_option maxRecDepth 100000 in
set_option maxHeartbeats 2000000 in
theorem mix_any (b T g off n cap : Nat) (cs : Array Value) (s : ShaM.St) (l : List UInt8) (w : World) (hn : 64 ≤ n) (hc : n ≤ cap) (hcap : cap ≤ maxLen) (hT : Tabs w) (hW : Whole w b T cs) (hS : IsSt cs s)
    (hcell : ∀ i, i < 64 → w.cell? ⟨g, off + i, none⟩ = some (Y (l.getD i 0))) :
    Calls Tryz.prog 179 #[.pointer (some ⟨b, 0, none⟩), .slice (some ⟨g, off, none⟩) n cap] w fun e w' => e = .returned (.tuple #[]) ∧ w.grownBy w' (some b) ∧ Whole w' b T (setSt cs (ShaM.comp s l)) := by
  have HC := Lib.hid hcell
  have HT := Lib.hid hT
  have HW := Lib.hid hW
  have HS := Lib.hid hS
  have hbw := hW.lt
  clear hcell hT hW hS
  go_enter Tryz.func179, Tryz.ntmps179
  go_wp2_with fail
  refine (schedule_any g off n cap l _ hn hc hcap HC.out).mono ?_
  rintro e w1 ⟨rfl, hB1⟩
  have HB1 := Lib.hid hB1
  clear hB1
  have hsz : ((ShaM.wds l).map U).toArray.size = 64 := by simp [ShaM.wds_len]
  have hi : (Tryz.prog.info? 284).map (·.size) = some ((ShaM.wds l).map U).toArray.size := by rw [hsz]; kernel_rfl
  have h1 := words_one (ShaM.wds l)
  have hat : ∀ k, k < 64 → ((ShaM.wds l).map U).toArray[k]? = some (U ((ShaM.wds l).getD k 0)) := fun k hk => by
    have := warr_at (ShaM.wds l) k (by rw [ShaM.wds_len]; exact hk)
    rwa [warr_full _ (ShaM.wds_len l)] at this
  have HI := Lib.hid hi
  have HZ := Lib.hid hsz
  have H1 := Lib.hid h1
  have HA := Lib.hid hat
  clear hsz hi h1 hat
  generalize ((ShaM.wds l).map U).toArray = ws at HI HZ H1 HA ⊢
  go_wp2_with (refine wpList_store_row rfl 284 _ _ rfl w1.heap.size ws rfl rfl 284 _ (Whole.made w1 _ _) HI.out (by rw [HZ.out]; rfl) H1.out ?_)
  have hW2 : Whole ((w1.alloc (.cells (Array.replicate 64 (.int .u32 0)) 284)).setRow w1.heap.size ws) w1.heap.size 284 ws := setRow_heap _ _ _ ws _ _ (Whole.made w1 _ _)
  have hB2 : Below w.heap.size w ((w1.alloc (.cells (Array.replicate 64 (.int .u32 0)) 284)).setRow w1.heap.size ws) := be_setRow (HB1.out.alloc HB1.out.size _) HB1.out.size _
  have hz2 : w1.heap.size < ((w1.alloc (.cells (Array.replicate 64 (.int .u32 0)) 284)).setRow w1.heap.size ws).heap.size := by simp
  generalize hw2 : (w1.alloc _).setRow w1.heap.size ws = w2
  rw [show (w1.alloc (.cells (Array.replicate 64 (.int .u32 0)) 284)).setRow w1.heap.size ws = w2 from hw2] at hW2 hB2 hz2
  clear hw2
  have hW3 : Whole w2 b T cs := HW.out.below hB2 hbw
  have c0 : w2.cell? ⟨b, 0, none⟩ = some (.int .u32 (s.a.toNat : Int)) := (hW3.at_ 0).trans HS.out.a
  have c1 : w2.cell? ⟨b, 1, none⟩ = some (.int .u32 (s.b.toNat : Int)) := (hW3.at_ 1).trans HS.out.b
  have c2 : w2.cell? ⟨b, 2, none⟩ = some (.int .u32 (s.c.toNat : Int)) := (hW3.at_ 2).trans HS.out.c
  have c3 : w2.cell? ⟨b, 3, none⟩ = some (.int .u32 (s.d.toNat : Int)) := (hW3.at_ 3).trans HS.out.d
  have c4 : w2.cell? ⟨b, 4, none⟩ = some (.int .u32 (s.e.toNat : Int)) := (hW3.at_ 4).trans HS.out.e
  have c5 : w2.cell? ⟨b, 5, none⟩ = some (.int .u32 (s.f.toNat : Int)) := (hW3.at_ 5).trans HS.out.f
  have c6 : w2.cell? ⟨b, 6, none⟩ = some (.int .u32 (s.g.toNat : Int)) := (hW3.at_ 6).trans HS.out.g
  have c7 : w2.cell? ⟨b, 7, none⟩ = some (.int .u32 (s.h.toNat : Int)) := (hW3.at_ 7).trans HS.out.h
  have HK : Hid (∀ q, Whole (w2.drewN q) w1.heap.size 284 ws ∧ Below w.heap.size w (w2.drewN q)) := fun q => ⟨hW2, be_drewN hB2 q⟩
  have HZ2 := Lib.hid hz2
  clear hW2 hB2 hz2 hW3
  simp only [Act.put]
  go_quiet (fail)
  revert nq
  intro q1
  go_wp2_with fail
  go_quiet (fail)
  clear c0 c1 c2 c3 c4 c5 c6 c7
  simp only [World.drewN_drewN]
  obtain ⟨hW3, hB3⟩ := HK.out (q1 + nq)
  have hz3 : w1.heap.size < (w2.drewN (q1 + nq)).heap.size := HZ2.out
  generalize w2.drewN (q1 + nq) = w3 at hW3 hB3 hz3 ⊢
  have HW3 := Lib.hid hW3
  have HB3 := Lib.hid hB3
  clear hW3 hB3 HK
  go_wp2_with (refine wpList_load_row rfl 284 _ rfl w1.heap.size rfl 284 ws (0, 0) _ HW3.out Tryz.underlying284 rfl HI.out ?_)
  have HT3 := Lib.hid (HT.out.below HB3.out HT.out.lt1 HT.out.lt2)
  go_loopw [5, 6, 7, 8, 9, 10, 11, 12, 52] (fun xa xb xc xd xe xf xg xh i wr => ∃ k : Nat, k ≤ 64 ∧ i = .int .i64 k ∧ xa = .int .u32 ((ShaM.rounds (ShaM.wds l) k s).a.toNat : Int) ∧ xb = .int .u32 ((ShaM.rounds (ShaM.wds l) k s).b.toNat : Int) ∧
      xc = .int .u32 ((ShaM.rounds (ShaM.wds l) k s).c.toNat : Int) ∧ xd = .int .u32 ((ShaM.rounds (ShaM.wds l) k s).d.toNat : Int) ∧ xe = .int .u32 ((ShaM.rounds (ShaM.wds l) k s).e.toNat : Int) ∧ xf = .int .u32 ((ShaM.rounds (ShaM.wds l) k s).f.toNat : Int) ∧
      xg = .int .u32 ((ShaM.rounds (ShaM.wds l) k s).g.toNat : Int) ∧ xh = .int .u32 ((ShaM.rounds (ShaM.wds l) k s).h.toNat : Int) ∧ Below w3.heap.size w3 wr) (fun _ _ _ _ _ _ _ _ i _ => 64 - (intOf i).toNat)
  case atStart => exact ⟨0, by omega, rfl, rfl, rfl, rfl, rfl, rfl, rfl, rfl, rfl, Below.refl _ _⟩
  case round =>
    obtain ⟨k, hk, rfl, rfl, rfl, rfl, rfl, rfl, rfl, rfl, rfl, hB⟩ := hrel
    have HB := Lib.hid hB
    clear hB
    by_cases hlt : k < 64
    · have HR : Hid (ShaM.rounds (ShaM.wds l) (k + 1) s = ShaM.rnd (ShaM.rounds (ShaM.wds l) k s) (ShaM.K k) ((ShaM.wds l).getD k 0)) := rfl
      have hidx := run_index_one 284 198 64 ws k _ _ Tryz.underlying284 Tryz.underlying198 rfl (by kernel_rfl) hlt (HA.out k hlt)
      have hroot : wr.cell? ⟨2, k, none⟩ = some (.int .u32 ((ShaM.K k).toNat : Int)) := (HB.out.cell (by exact HT3.out.lt2)).trans (HT3.out.roots k hlt)
      generalize ShaM.rounds (ShaM.wds l) k s = r at HR ⊢
      generalize (ShaM.wds l).getD k 0 = x at HR hidx
      generalize ShaM.K k = kc at HR hroot
      unfold U at hidx
      go_wp2_with fail
      go_quiet ((go_at_call 247; exact q_left (big1_any _ _)))
      go_wp2_with fail
      refine (big0_any _ _).mono ?_
      rintro e w4 ⟨rfl, rfl⟩
      go_wp2
      go_roundw
      case rel =>
        refine ⟨k + 1, by omega, by go_num, ?_, ?_, ?_, ?_, ?_, ?_, ?_, ?_, be_drewN HB.out _⟩
        · rw [HR.out, rnd_t1, rnd_t2, u_add_mod]; rfl
        · rw [HR.out]; rfl
        · rw [HR.out]; rfl
        · rw [HR.out]; rfl
        · rw [HR.out, rnd_t1, u_add_mod]; rfl
        · rw [HR.out]; rfl
        · rw [HR.out]; rfl
        · rw [HR.out]; rfl
      case measure => simp [intOf]; omega
    · have hk64 : k = 64 := by omega
      have HF : Hid (ShaM.comp s l = s.add (ShaM.rounds (ShaM.wds l) k s)) := by rw [hk64]; rfl
      have hW4 : Whole wr b T cs := (HW.out.below HB3.out hbw).below HB.out (Nat.lt_of_lt_of_le hbw HB3.out.size)
      have hB4 : Below w.heap.size w wr := HB3.out.trans (HB.out.mono HB3.out.size)
      clear hk64
      generalize ShaM.rounds (ShaM.wds l) k s = r at HF ⊢
      have c0 : wr.cell? ⟨b, 0, none⟩ = some (.int .u32 (s.a.toNat : Int)) := (hW4.at_ 0).trans HS.out.a
      have c1 : wr.cell? ⟨b, 1, none⟩ = some (.int .u32 (s.b.toNat : Int)) := (hW4.at_ 1).trans HS.out.b
      have c2 : wr.cell? ⟨b, 2, none⟩ = some (.int .u32 (s.c.toNat : Int)) := (hW4.at_ 2).trans HS.out.c
      have c3 : wr.cell? ⟨b, 3, none⟩ = some (.int .u32 (s.d.toNat : Int)) := (hW4.at_ 3).trans HS.out.d
      have c4 : wr.cell? ⟨b, 4, none⟩ = some (.int .u32 (s.e.toNat : Int)) := (hW4.at_ 4).trans HS.out.e
      have c5 : wr.cell? ⟨b, 5, none⟩ = some (.int .u32 (s.f.toNat : Int)) := (hW4.at_ 5).trans HS.out.f
      have c6 : wr.cell? ⟨b, 6, none⟩ = some (.int .u32 (s.g.toNat : Int)) := (hW4.at_ 6).trans HS.out.g
      have c7 : wr.cell? ⟨b, 7, none⟩ = some (.int .u32 (s.h.toNat : Int)) := (hW4.at_ 7).trans HS.out.h
      have z0 := hW4.thawed 0
      have z1 := hW4.thawed 1
      have z2 := hW4.thawed 2
      have z3 := hW4.thawed 3
      have z4 := hW4.thawed 4
      have z5 := hW4.thawed 5
      have z6 := hW4.thawed 6
      have z7 := hW4.thawed 7
      have HW4 := Lib.hid hW4
      have HB4 := Lib.hid hB4
      clear hW4 hB4
      go_wp2
      go_region
      go_wp2
      go_region
      go_wp2
      go_region
      go_wp2
      go_region
      go_wp2
      go_region
      go_wp2
      go_region
      go_wp2
      go_region
      go_wp2
      go_region
      go_wp2
      refine bodyPost_end (results_none rfl _ _ _) rfl ⟨rfl, ?_, ?_⟩
      · iterate 8 refine gr_drew ?_
        iterate 8 refine gr_set ?_ (.inl rfl) _
        exact gr_below (gr_refl _ _) HB4.out
      · rw [HF.out, u_add_mod, u_add_mod, u_add_mod, u_add_mod, u_add_mod, u_add_mod, u_add_mod, u_add_mod]
        rw [setSt_add]
        iterate 8 refine Whole.drew ?_
        iterate 8 refine Whole.put ?_ _ _
        exact HW4.out
end Go.Proofs.YtjoinnjhpfakpaaGreatDoor
namespace Go.Proofs.YtjoinnjhpfakpaaGreatDoor
open Go.RowKit

/-! ### A hash's cells -/
def stl (s : ShaM.St) : List Value := [U s.a, U s.b, U s.c, U s.d, U s.e, U s.f, U s.g, U s.h]
/-- The cells of a hash: the state, the part, the size. -/
def hl (s : ShaM.St) (pt : List UInt8) (n : Nat) : List Value := stl s ++ (pt.map Y ++ [.int .u64 (n : Int)])
theorem stl_len (s : ShaM.St) : (stl s).length = 8 := rfl
theorem hl_len (s : ShaM.St) (pt : List UInt8) (n : Nat) (h : pt.length = 64) : (hl s pt n).length = 73 := by simp [hl, stl, h]
theorem hl_size (s : ShaM.St) (pt : List UInt8) (n : Nat) (h : pt.length = 64) : (hl s pt n).toArray.size = 73 := by simp [hl_len s pt n h]
theorem hl_isSt (s : ShaM.St) (pt : List UInt8) (n : Nat) : IsSt (hl s pt n).toArray s := ⟨rfl, rfl, rfl, rfl, rfl, rfl, rfl, rfl⟩
theorem hl_part (s : ShaM.St) (pt : List UInt8) (n i : Nat) (h : i < pt.length) : (hl s pt n).toArray[8 + i]? = some (Y (pt.getD i 0)) := by
  simp only [hl, List.getElem?_toArray]
  rw [List.getElem?_append_right (by rw [stl_len]; omega), stl_len, show 8 + i - 8 = i by omega, List.getElem?_append_left (by simpa using h)]
  simp [List.getElem?_eq_getElem h]
theorem hl_sz (s : ShaM.St) (pt : List UInt8) (n : Nat) (h : pt.length = 64) : (hl s pt n).toArray[72]? = some (.int .u64 (n : Int)) := by
  simp only [hl, List.getElem?_toArray]
  rw [List.getElem?_append_right (by rw [stl_len]; omega), stl_len, List.getElem?_append_right (by simp [h])]
  simp [h]
theorem hl_set (s s' : ShaM.St) (pt : List UInt8) (n : Nat) : setSt (hl s pt n).toArray s' = (hl s' pt n).toArray := by
  simp [setSt, hl, stl]
theorem hl_resize (s : ShaM.St) (pt : List UInt8) (n m : Nat) (h : pt.length = 64) : (hl s pt n).toArray.setIfInBounds 72 (.int .u64 (m : Int)) = (hl s pt m).toArray := by
  apply Array.ext'
  simp only [hl, Array.toList_setIfInBounds]
  rw [List.set_append_right _ _ (by rw [stl_len]; omega), stl_len, List.set_append_right _ _ (by simp [h])]
  simp [h]
/-- The part, laid over from place k on. -/
def lay (pt : List UInt8) (k : Nat) (bs : List UInt8) : List UInt8 := pt.take k ++ (bs ++ pt.drop (k + bs.length))
theorem lay_len (pt : List UInt8) (k : Nat) (bs : List UInt8) (h : k + bs.length ≤ pt.length) : (lay pt k bs).length = pt.length := by simp [lay]; omega
theorem lay_take (pt : List UInt8) (k : Nat) (bs : List UInt8) (h : k + bs.length ≤ pt.length) : (lay pt k bs).take (k + bs.length) = pt.take k ++ bs := by
  simp only [lay]
  rw [← List.append_assoc, List.take_append_of_le_length (by simp; omega), List.take_of_length_le (by simp; omega)]
theorem hl_splice (s : ShaM.St) (pt : List UInt8) (n k : Nat) (bs : List UInt8) (h : k + bs.length ≤ pt.length) : splice (hl s pt n) (8 + k) (bs.map Y) = hl s (lay pt k bs) n := by
  simp only [splice, hl, lay, List.length_map]
  have e1 : List.take (8 + k) (stl s ++ (pt.map Y ++ [Value.int .u64 (n : Int)])) = stl s ++ (pt.take k).map Y := by
    rw [List.take_append, stl_len, List.take_of_length_le (by rw [stl_len]; omega), show 8 + k - 8 = k by omega, List.take_append_of_le_length (by simp; omega), List.map_take]
  have e2 : List.drop (8 + k + bs.length) (stl s ++ (pt.map Y ++ [Value.int .u64 (n : Int)])) = (pt.drop (k + bs.length)).map Y ++ [Value.int .u64 (n : Int)] := by
    rw [List.drop_append, stl_len, List.drop_of_length_le (by rw [stl_len]; omega), show 8 + k + bs.length - 8 = k + bs.length by omega, List.drop_append_of_le_length (by simp; omega), List.map_drop]
    rfl
  rw [e1, e2]
  simp
theorem hl_state (s s' : ShaM.St) (pt : List UInt8) (n : Nat) : splice (hl s pt n) 0 (stl s') = hl s' pt n := by simp [splice, hl, stl]
theorem hl_one (s : ShaM.St) (pt : List UInt8) (n : Nat) : (hl s pt n).toArray.all (·.oneCell') = true := by
  rw [Array.all_eq_true_iff_forall_mem]
  intro x hx
  simp only [hl, stl, List.mem_toArray, List.mem_append, List.mem_cons, List.mem_map, List.not_mem_nil, or_false] at hx
  rcases hx with hx | ⟨_, _, rfl⟩ | rfl
  · rcases hx with rfl | rfl | rfl | rfl | rfl | rfl | rfl | rfl <;> rfl
  · rfl
  · rfl
theorem ys_one (bs : List UInt8) : ∀ v ∈ bs.map Y, v.oneCell' = true := by
  intro v hv
  obtain ⟨_, _, rfl⟩ := List.mem_map.1 hv
  rfl

/-- Block b is the hash of the text X. -/
def HashAt (w : World) (b T : Nat) (X : List UInt8) : Prop :=
  ∃ s pt, pt.length = 64 ∧ Whole w b T (hl s pt X.length).toArray ∧ (X ≠ [] → s = ShaM.stOf X) ∧ pt.take (X.length % 64) = ShaM.tl X
theorem HashAt.lt {w : World} {b T : Nat} {X : List UInt8} (h : HashAt w b T X) : b < w.heap.size := by
  obtain ⟨_, _, _, h, _⟩ := h; exact h.lt
theorem HashAt.below {w w' : World} {b T B : Nat} {X : List UInt8} (h : HashAt w b T X) (hb : Below B w w') (hB : b < B) : HashAt w' b T X := by
  obtain ⟨s, pt, h1, h2, h3⟩ := h
  exact ⟨s, pt, h1, h2.below hb hB, h3⟩
theorem HashAt.grown {w w' : World} {b T : Nat} {X : List UInt8} {row : Option Nat} (h : HashAt w b T X) (hb : w.grownBy w' row) (hn : some b ≠ row) : HashAt w' b T X := by
  obtain ⟨s, pt, h1, h2, h3⟩ := h
  exact ⟨s, pt, h1, h2.grown hb hn, h3⟩

/-! ### Stores of many cells -/
theorem Whole.cells {g t : Nat} : ∀ (vs : List Value) (o : Nat) (cs : List Value) (w : World), Whole w g t cs.toArray → o + vs.length ≤ cs.length → Whole (w.setCells g o vs) g t (splice cs o vs).toArray
  | [], o, cs, w, h, _ => by simpa [splice, World.setCells] using h
  | v :: r, o, cs, w, h, hl => by
    have h1 := h.put o v
    have e : cs.toArray.setIfInBounds o v = (cs.set o v).toArray := by simp
    rw [e] at h1
    have h2 := Whole.cells r (o + 1) (cs.set o v) _ h1 (by simp at hl ⊢; omega)
    have e2 : splice (cs.set o v) (o + 1) r = splice cs o (v :: r) := by
      simp only [List.length_cons] at hl
      simp only [splice, List.length_cons]
      rw [List.take_set, List.take_succ_eq_append_getElem (by omega), List.drop_set_of_lt (by omega), show o + 1 + r.length = o + (r.length + 1) by omega,
        List.set_append_right _ _ (by simp; omega)]
      simp
      congr 1
      rw [show o - min o cs.length = 0 by omega]
      rfl
    rw [e2] at h2
    exact h2
theorem gr_cells {a : World} {g : Nat} : ∀ (vs : List Value) (o : Nat) (w : World), a.grownBy w (some g) → a.grownBy (w.setCells g o vs) (some g)
  | [], _, _, h => h
  | v :: r, o, _, h => gr_cells r (o + 1) _ (gr_set h (.inl rfl) v)
theorem gr_row {a w : World} {g : Nat} (h : a.grownBy w (some g)) (cs : Array Value) : a.grownBy (w.setRow g cs) (some g) :=
  ⟨h.os, h.tape, h.output, by simpa using h.size, fun i hi hn => (setRow_other w g i cs (fun e => hn (by rw [e]))).trans (h.block i hi hn)⟩

/-- The builtin copy into a block that is known whole. -/
theorem wpList_copy_whole {P : Program} {w : World} {ops : Array Oper} {rest : List Oper} {o : Oper} {a : Act} {Q : Exit → Act → World → Prop} (hgd : o.guard = none) (d s : Operand) (dT sT : TypeId)
    (ho : o.op = .call { callee := .builtin .copy, args := #[d, s], argTypes := #[dT, sT] }) (elem : TypeId) (hu : P.underlying dT = some (.slice elem)) (hsz : (P.info? elem).map (·.size) = some 1)
    (sp : Option Addr) (dLen dCap sLen sCap : Nat) (g off : Nat) (hd : a.eval d = .slice (some ⟨g, off, none⟩) dLen dCap) (hs : a.eval s = .slice sp sLen sCap)
    (cur : List Value) (t : TypeId) (hg : Whole w g t cur.toArray) (cs : List Value) (hn : cs.length = Nat.min sLen dLen)
    (hpos : 0 < cs.length → ∃ ad, sp = some ad ∧ ∀ j v, cs[j]? = some v → w.cell? (ad.add j) = some v)
    (hfit : off + cs.length ≤ cur.length) (h1 : ∀ v ∈ cs, v.oneCell' = true)
    (h : ∀ w', Whole w' g t (splice cur off cs).toArray → w.grownBy w' (some g) → wpList P ops Q rest (a.put o.dst (goInt cs.length)) w') : wpList P ops Q (o :: rest) a w := by
  by_cases h0 : cs.length = 0
  · obtain rfl : cs = [] := List.eq_nil_of_length_eq_zero h0
    exact wpList_copy_nothing hgd d s dT sT ho elem hu hsz _ sp dLen dCap sLen sCap hd hs (by simpa using hn.symm) (h w (by simpa [splice] using hg) (gr_refl _ _))
  · obtain ⟨ad, rfl, hsrc⟩ := hpos (by omega)
    refine wpList_copy_own hgd d s dT sT ho elem hu hsz g off dLen dCap ad sLen sCap hd hs cur.toArray t hg cs hn hsrc (by simpa using hfit) h1 (h _ ?_ (gr_row (gr_refl _ _) _))
    have := setRow_heap w g cur.toArray (cur.take off ++ (cs ++ cur.drop (off + cs.length))).toArray t _ hg
    simpa [Whole, splice] using this
end Go.Proofs.YtjoinnjhpfakpaaGreatDoor

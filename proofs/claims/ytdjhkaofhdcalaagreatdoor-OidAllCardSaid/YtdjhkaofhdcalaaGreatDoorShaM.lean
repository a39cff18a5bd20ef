/-
  SHA-256 as plain mathematics: words are BitVec 32, texts are lists of bytes. No program is named here.
-/
namespace Go.Proofs.YtdjhkaofhdcalaaGreatDoor.ShaM

abbrev Wd := BitVec 32

def rr (x : Wd) (n : Nat) : Wd := (x >>> n) ||| (x <<< (32 - n))
def s0 (x : Wd) : Wd := rr x 7 ^^^ rr x 18 ^^^ (x >>> 3)
def s1 (x : Wd) : Wd := rr x 17 ^^^ rr x 19 ^^^ (x >>> 10)
def b0 (x : Wd) : Wd := rr x 2 ^^^ rr x 13 ^^^ rr x 22
def b1 (x : Wd) : Wd := rr x 6 ^^^ rr x 11 ^^^ rr x 25
def ch (e f g : Wd) : Wd := (e &&& f) ^^^ (~~~e &&& g)
def mj (a b c : Wd) : Wd := (a &&& b) ^^^ (a &&& c) ^^^ (b &&& c)

def kk : List Nat := [
  0x428a2f98, 0x71374491, 0xb5c0fbcf, 0xe9b5dba5, 0x3956c25b, 0x59f111f1, 0x923f82a4, 0xab1c5ed5,
  0xd807aa98, 0x12835b01, 0x243185be, 0x550c7dc3, 0x72be5d74, 0x80deb1fe, 0x9bdc06a7, 0xc19bf174,
  0xe49b69c1, 0xefbe4786, 0x0fc19dc6, 0x240ca1cc, 0x2de92c6f, 0x4a7484aa, 0x5cb0a9dc, 0x76f988da,
  0x983e5152, 0xa831c66d, 0xb00327c8, 0xbf597fc7, 0xc6e00bf3, 0xd5a79147, 0x06ca6351, 0x14292967,
  0x27b70a85, 0x2e1b2138, 0x4d2c6dfc, 0x53380d13, 0x650a7354, 0x766a0abb, 0x81c2c92e, 0x92722c85,
  0xa2bfe8a1, 0xa81a664b, 0xc24b8b70, 0xc76c51a3, 0xd192e819, 0xd6990624, 0xf40e3585, 0x106aa070,
  0x19a4c116, 0x1e376c08, 0x2748774c, 0x34b0bcb5, 0x391c0cb3, 0x4ed8aa4a, 0x5b9cca4f, 0x682e6ff3,
  0x748f82ee, 0x78a5636f, 0x84c87814, 0x8cc70208, 0x90befffa, 0xa4506ceb, 0xbef9a3f7, 0xc67178f2]
def K (t : Nat) : Wd := BitVec.ofNat 32 (kk.getD t 0)
theorem kk_len : kk.length = 64 := by decide

structure St where
  a : Wd
  b : Wd
  c : Wd
  d : Wd
  e : Wd
  f : Wd
  g : Wd
  h : Wd
deriving DecidableEq

def St.at (s : St) : Nat → Wd
  | 0 => s.a | 1 => s.b | 2 => s.c | 3 => s.d | 4 => s.e | 5 => s.f | 6 => s.g | _ => s.h

def H0 : St := ⟨0x6a09e667, 0xbb67ae85, 0x3c6ef372, 0xa54ff53a, 0x510e527f, 0x9b05688c, 0x1f83d9ab, 0x5be0cd19⟩

def t1 (s : St) (k w : Wd) : Wd := s.h + b1 s.e + ch s.e s.f s.g + k + w
def t2 (s : St) : Wd := b0 s.a + mj s.a s.b s.c
def rnd (s : St) (k w : Wd) : St := ⟨t1 s k w + t2 s, s.a, s.b, s.c, s.d + t1 s k w, s.e, s.f, s.g⟩

/-- The next word of a list of words. -/
def ext (l : List Wd) : Wd := s1 (l.getD (l.length - 2) 0) + l.getD (l.length - 7) 0 + s0 (l.getD (l.length - 15) 0) + l.getD (l.length - 16) 0
def sched (m : List Wd) : Nat → List Wd
  | 0 => m
  | n + 1 => sched m n ++ [ext (sched m n)]
theorem sched_len (m : List Wd) (n : Nat) : (sched m n).length = m.length + n := by
  induction n with
  | zero => rfl
  | succ n ih => simp [sched, ih]; omega

def rounds (ws : List Wd) : Nat → St → St
  | 0, s => s
  | t + 1, s => rnd (rounds ws t s) (K t) (ws.getD t 0)

def St.add (s r : St) : St := ⟨s.a + r.a, s.b + r.b, s.c + r.c, s.d + r.d, s.e + r.e, s.f + r.f, s.g + r.g, s.h + r.h⟩

/-- Four bytes, the highest first. -/
def be (a b c d : UInt8) : Wd := BitVec.ofNat 32 (a.toNat * 16777216 + b.toNat * 65536 + c.toNat * 256 + d.toNat)
def mw (l : List UInt8) (t : Nat) : Wd := be (l.getD (4 * t) 0) (l.getD (4 * t + 1) 0) (l.getD (4 * t + 2) 0) (l.getD (4 * t + 3) 0)
def mws (l : List UInt8) (n : Nat) : List Wd := (List.range n).map (mw l)
theorem mws_len (l : List UInt8) (n : Nat) : (mws l n).length = n := by simp [mws]
theorem mws_succ (l : List UInt8) (n : Nat) : mws l (n + 1) = mws l n ++ [mw l n] := by simp [mws, List.range_succ]

/-- All 64 words of a block. -/
def wds (l : List UInt8) : List Wd := sched (mws l 16) 48
theorem wds_len (l : List UInt8) : (wds l).length = 64 := by simp [wds, sched_len, mws_len]

/-- One block more. -/
def comp (s : St) (l : List UInt8) : St := s.add (rounds (wds l) 64 s)

def runN : Nat → St → List UInt8 → St
  | 0, s, _ => s
  | k + 1, s, l => runN k (comp s (l.take 64)) (l.drop 64)

theorem runN_add (a b : Nat) (s : St) (l : List UInt8) : runN (a + b) s l = runN b (runN a s l) (l.drop (64 * a)) := by
  induction a generalizing s l with
  | zero => simp [runN]
  | succ a ih =>
    have e : a + 1 + b = (a + b) + 1 := by omega
    rw [e]
    simp only [runN]
    rw [ih, List.drop_drop]
    have e2 : 64 + 64 * a = 64 * (a + 1) := by omega
    rw [e2]

theorem runN_append (k : Nat) (s : St) (l r : List UInt8) (h : 64 * k ≤ l.length) : runN k s (l ++ r) = runN k s l := by
  induction k generalizing s l with
  | zero => rfl
  | succ k ih =>
    simp only [runN]
    rw [List.take_append_of_le_length (by omega), List.drop_append_of_le_length (by omega), ih _ _ (by simp; omega)]

/-- The state behind all whole blocks of a text; the bytes behind them. -/
def stOf (T : List UInt8) : St := runN (T.length / 64) H0 T
def tl (T : List UInt8) : List UInt8 := T.drop (64 * (T.length / 64))
theorem tl_len (T : List UInt8) : (tl T).length = T.length % 64 := by simp [tl]; omega
theorem tl_nil : tl [] = [] := rfl
theorem stOf_nil : stOf [] = H0 := rfl

theorem stOf_short (T b : List UInt8) (h : T.length % 64 + b.length < 64) : stOf (T ++ b) = stOf T := by
  have e : (T ++ b).length / 64 = T.length / 64 := by simp; omega
  unfold stOf
  rw [e, runN_append _ _ _ _ (by omega)]
theorem tl_short (T b : List UInt8) (h : T.length % 64 + b.length < 64) : tl (T ++ b) = tl T ++ b := by
  have e : (T ++ b).length / 64 = T.length / 64 := by simp; omega
  unfold tl
  rw [e, List.drop_append_of_le_length (by omega)]
theorem stOf_full (T b : List UInt8) (h : T.length % 64 + b.length = 64) : stOf (T ++ b) = comp (stOf T) (tl T ++ b) := by
  have e : (T ++ b).length / 64 = T.length / 64 + 1 := by simp; omega
  unfold stOf
  rw [e, runN_add, runN_append _ _ _ _ (by omega), List.drop_append_of_le_length (by omega)]
  simp only [runN]
  have hl : (tl T ++ b).length = 64 := by rw [List.length_append, tl_len]; omega
  show comp _ (List.take 64 (tl T ++ b)) = _
  rw [List.take_of_length_le (by omega)]
theorem tl_full (T b : List UInt8) (h : T.length % 64 + b.length = 64) : tl (T ++ b) = [] := by
  apply List.eq_nil_of_length_eq_zero
  rw [tl_len]; simp; omega

/-! ### Padding -/
def padN (n : Nat) : Nat := if n % 64 < 56 then 64 - n % 64 else 128 - n % 64
theorem padN_bd (n : Nat) : 9 ≤ padN n ∧ padN n ≤ 72 ∧ (n + padN n) % 64 = 0 := by unfold padN; split <;> omega
def be8 (n : Nat) : List UInt8 := [UInt8.ofNat (n / 2 ^ 56), UInt8.ofNat (n / 2 ^ 48), UInt8.ofNat (n / 2 ^ 40), UInt8.ofNat (n / 2 ^ 32), UInt8.ofNat (n / 2 ^ 24), UInt8.ofNat (n / 2 ^ 16), UInt8.ofNat (n / 2 ^ 8), UInt8.ofNat n]
def pad (n : Nat) : List UInt8 := 128 :: (List.replicate (padN n - 9) 0 ++ be8 (n * 8))
theorem pad_len (n : Nat) : (pad n).length = padN n := by
  have := padN_bd n
  simp [pad, be8]; omega

def be4 (w : Wd) : List UInt8 := [UInt8.ofNat (w.toNat / 16777216), UInt8.ofNat (w.toNat / 65536), UInt8.ofNat (w.toNat / 256), UInt8.ofNat w.toNat]
def out (s : St) : List UInt8 := be4 s.a ++ be4 s.b ++ be4 s.c ++ be4 s.d ++ be4 s.e ++ be4 s.f ++ be4 s.g ++ be4 s.h
theorem out_len (s : St) : (out s).length = 32 := rfl

/-- SHA-256. -/
def sha (T : List UInt8) : List UInt8 := out (stOf (T ++ pad T.length))
theorem sha_len (T : List UInt8) : (sha T).length = 32 := rfl

/-- The hash of 'abc'. -/
theorem sha_abc : sha [97, 98, 99] = [0xba, 0x78, 0x16, 0xbf, 0x8f, 0x01, 0xcf, 0xea, 0x41, 0x41, 0x40, 0xde, 0x5d, 0xae, 0x22, 0x23, 0xb0, 0x03, 0x61, 0xa3, 0x96, 0x17, 0x7a, 0x9c, 0xb4, 0x10, 0xff, 0x61, 0xf2, 0x00, 0x15, 0xad] := by decide +kernel

/-! ### Other spellings -/
theorem turn_eq (x : Wd) (n : Nat) : (x >>> n) + (x <<< (32 - n)) = rr x n := by
  unfold rr
  apply BitVec.add_eq_or_of_and_eq_zero
  ext i hi
  simp
  intro h1 h2
  have h3 : x.getLsbD (n + i) = false := BitVec.getLsbD_of_ge _ _ (by omega)
  rw [h3] at h1
  cases h1
theorem ch_eq (e f g : Wd) : (e &&& f) ||| ((0xffffffff - e) &&& g) = ch e f g := by
  have h : (0xffffffff : Wd) - e = ~~~e := by
    show BitVec.allOnes 32 - e = _
    rw [BitVec.allOnes_sub_eq_not]
  rw [h]
  unfold ch
  ext i hi
  simp
  cases e[i] <;> simp
theorem mj_eq (a b c : Wd) : (a &&& b) ||| (a &&& c) ||| (b &&& c) = mj a b c := by
  unfold mj
  ext i hi
  simp
  cases a[i] <;> cases b[i] <;> cases c[i] <;> rfl
end Go.Proofs.YtdjhkaofhdcalaaGreatDoor.ShaM

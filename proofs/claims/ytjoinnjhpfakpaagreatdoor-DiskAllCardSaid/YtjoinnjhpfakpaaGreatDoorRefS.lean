/-
  The reference's way to a hash, as lists: the padded text as it is laid, the words as they are appended. No walk.
-/
import Derived.Test.YtjoinnjhpfakpaaGreatDoorMhb
namespace Go.Proofs.YtjoinnjhpfakpaaGreatDoor.ShaM

/-- The text, a bit, zeros. -/
def zp (T : List UInt8) (j : Nat) : List UInt8 := T ++ (128 :: List.replicate j 0)
theorem zp_len (T : List UInt8) (j : Nat) : (zp T j).length = T.length + 1 + j := by simp [zp]; omega
theorem zp_succ (T : List UInt8) (j : Nat) : zp T j ++ [0] = zp T (j + 1) := by simp [zp, List.replicate_succ']
theorem zp_end (T : List UInt8) (j : Nat) (h : j ≤ padN T.length - 9) : (zp T j).length % 64 = 56 ↔ j = padN T.length - 9 := by
  rw [zp_len]
  have hp : padN T.length = if T.length % 64 < 56 then 64 - T.length % 64 else 128 - T.length % 64 := rfl
  generalize padN T.length = p at *
  split at hp <;> omega
/-- The length's bytes, the first k of them. -/
def lp (T : List UInt8) (k : Nat) : List UInt8 := zp T (padN T.length - 9) ++ (be8 (T.length * 8)).take k
theorem lp_zero (T : List UInt8) : lp T 0 = zp T (padN T.length - 9) := by simp [lp]
theorem lp_full (T : List UInt8) : lp T 8 = T ++ pad T.length := by
  simp [lp, zp, pad, be8]
theorem lp_succ (T : List UInt8) (k : Nat) (h : k < 8) : lp T k ++ [UInt8.ofNat (T.length * 8 / 2 ^ (8 * (7 - k)))] = lp T (k + 1) := by
  have h8 : k = 0 ∨ k = 1 ∨ k = 2 ∨ k = 3 ∨ k = 4 ∨ k = 5 ∨ k = 6 ∨ k = 7 := by omega
  rcases h8 with rfl | rfl | rfl | rfl | rfl | rfl | rfl | rfl <;> simp [lp, be8]
/-- All blocks but one, and that one. -/
theorem runN_snoc (k : Nat) (s : St) (l : List UInt8) : runN (k + 1) s l = comp (runN k s l) ((l.take (64 * k + 64)).drop (64 * k)) := by
  rw [runN_add k 1]
  simp only [runN]
  rw [List.drop_take, show 64 * k + 64 - 64 * k = 64 by omega]
theorem pad_blocks (T : List UInt8) : (T ++ pad T.length).length % 64 = 0 := by
  have := padN_bd T.length
  rw [List.length_append, pad_len]; omega
/-- The words of a block as they are appended. -/
def wl (l : List UInt8) (t : Nat) : List Wd := if t ≤ 16 then mws l t else sched (mws l 16) (t - 16)
theorem wl_zero (l : List UInt8) : wl l 0 = [] := rfl
theorem wl_full (l : List UInt8) : wl l 64 = wds l := rfl
theorem wl_len (l : List UInt8) (t : Nat) : (wl l t).length = t := by
  unfold wl
  split
  · exact mws_len _ _
  · rw [sched_len, mws_len]; omega
theorem wl_low (l : List UInt8) (t : Nat) (h : t < 16) : wl l (t + 1) = wl l t ++ [mw l t] := by
  unfold wl
  rw [if_pos (by omega), if_pos (by omega), mws_succ]
theorem wl_high (l : List UInt8) (t : Nat) (h : 16 ≤ t) : wl l (t + 1) = wl l t ++ [s1 ((wl l t).getD (t - 2) 0) + (wl l t).getD (t - 7) 0 + s0 ((wl l t).getD (t - 15) 0) + (wl l t).getD (t - 16) 0] := by
  have e : wl l t = sched (mws l 16) (t - 16) := by
    unfold wl
    split
    · obtain rfl : t = 16 := by omega
      rfl
    · rfl
  have e2 : wl l (t + 1) = sched (mws l 16) (t - 16 + 1) := by
    unfold wl
    rw [if_neg (by omega), show t + 1 - 16 = t - 16 + 1 by omega]
  have hl : (sched (mws l 16) (t - 16)).length = t := by rw [sched_len, mws_len]; omega
  rw [e2, sched, e, ext, hl]
/-- The state as a list of eight. -/
def ls (s : St) : List Wd := [s.a, s.b, s.c, s.d, s.e, s.f, s.g, s.h]
theorem ls_len (s : St) : (ls s).length = 8 := rfl
/-- A byte of the result. -/
theorem out_at (s : St) (i : Nat) (h : i < 32) : (out s).getD i 0 = UInt8.ofNat (((ls s).getD (i / 4) 0).toNat / 2 ^ (24 - 8 * (i % 4))) := by
  have hi : ∀ i : Fin 32, (out s).getD i.val 0 = UInt8.ofNat (((ls s).getD (i.val / 4) 0).toNat / 2 ^ (24 - 8 * (i.val % 4))) := by
    intro i
    have h32 : i.val = 0 ∨ i.val = 1 ∨ i.val = 2 ∨ i.val = 3 ∨ i.val = 4 ∨ i.val = 5 ∨ i.val = 6 ∨ i.val = 7 ∨ i.val = 8 ∨ i.val = 9 ∨ i.val = 10 ∨ i.val = 11 ∨ i.val = 12 ∨ i.val = 13 ∨ i.val = 14 ∨ i.val = 15 ∨ i.val = 16 ∨ i.val = 17 ∨ i.val = 18 ∨ i.val = 19 ∨ i.val = 20 ∨ i.val = 21 ∨ i.val = 22 ∨ i.val = 23 ∨ i.val = 24 ∨ i.val = 25 ∨ i.val = 26 ∨ i.val = 27 ∨ i.val = 28 ∨ i.val = 29 ∨ i.val = 30 ∨ i.val = 31 := by have := i.isLt; omega
    rcases h32 with e | e | e | e | e | e | e | e | e | e | e | e | e | e | e | e | e | e | e | e | e | e | e | e | e | e | e | e | e | e | e | e <;> rw [e] <;> simp [out, be4, ls]
  exact hi ⟨i, h⟩
end Go.Proofs.YtjoinnjhpfakpaaGreatDoor.ShaM

/-
  DiskFuse in plain words: what a disk is behind some writes of one file, and behind a crash.
-/
import Derived.Test.YtjoinnjhpfakpaaGreatDoorDskO
import Derived.Test.YtjoinnjhpfakpaaGreatDoorRDec
namespace Go.Proofs.YtjoinnjhpfakpaaGreatDoor
open Go.RowKit

/-! ### One file, written again and again -/
def fuF (j : Int) : List Fl := if j < 0 then [] else [([102], Lib.itoa j)]
def fuC (i : Nat) : List Ch := (List.range i).map fun k => .wr [102] (Lib.itoa (k : Nat))
theorem fuC_len (i : Nat) : (fuC i).length = i := by simp [fuC]
theorem fuC_succ (i : Nat) : fuC (i + 1) = fuC i ++ [.wr [102] (Lib.itoa (i : Nat))] := by simp [fuC, List.range_succ]
theorem fu_wr (j : Int) (tx : List UInt8) : wrF (fuF j) [102] tx = (0, [([102], tx)]) := by
  unfold fuF
  split
  · rfl
  · have hc : Lib.compareBytes [102] [102] = 0 := by decide
    have hW : bsW [([102], Lib.itoa j)] [102] = 0 := by
      simp [bsW, bsG, hc]
    have hB : bsF [([102], Lib.itoa j)] [102] = true := by
      simp [bsF, hW, hc]
    simp [wrF, hB, hW]
def fuS (n i : Nat) : DS := if i ≤ n then ⟨fuF ((i : Int) - 1), [], fuC i, i, true, (n : Int) - i, false⟩ else ⟨fuF ((n : Int) - 1), [], fuC n, n, true, 0, true⟩
theorem fu_step (n i : Nat) (hn : n < 12) : (fuS n i).step (.wr [102] (Lib.itoa (i : Nat))) = (if i < n then 0 else 6, fuS n (i + 1)) := by
  unfold fuS
  by_cases h : i < n
  · rw [if_pos (show i ≤ n by omega), if_pos (show i + 1 ≤ n by omega), if_pos h]
    have hr : (Ch.run (.wr [102] (Lib.itoa (i : Nat))) (fuF ((i : Int) - 1))) = (0, [([102], Lib.itoa (i : Nat))]) := fu_wr _ _
    have h3 : (fuC i).length < 64 := by rw [fuC_len]; omega
    have h4 : ¬ ((n : Int) - i = 0) := by omega
    simp only [DS.step, hr, h3, h4, if_true, if_false, ne_eq, not_true_eq_false, and_false, Bool.false_eq_true]
    rw [← fuC_succ]
    congr 1
    congr 1
    · unfold fuF
      rw [if_neg (by omega)]
      congr 2
      simp
    · omega
  · rw [if_neg h, if_neg (show ¬ i + 1 ≤ n by omega)]
    by_cases h1 : i ≤ n
    · obtain rfl : i = n := by omega
      rw [if_pos (Nat.le_refl _)]
      have hr : (Ch.run (.wr [102] (Lib.itoa (i : Nat))) (fuF ((i : Int) - 1))) = (0, [([102], Lib.itoa (i : Nat))]) := fu_wr _ _
      simp [DS.step, hr]
    · rw [if_neg h1]
      rfl
/-- The last of those that are kept. -/
def lastK (k : Nat) : Nat → Int
  | 0 => -1
  | i + 1 => if k.testBit i = true then (i : Int) else lastK k i
theorem lastK_lt (k : Nat) : ∀ i, -1 ≤ lastK k i ∧ lastK k i < (i : Int)
  | 0 => by simp [lastK]
  | i + 1 => by
    have := lastK_lt k i
    unfold lastK
    split <;> omega
theorem fu_keep (k : Nat) : ∀ i, keepGo k (fuC i) 0 [] = fuF (lastK k i)
  | 0 => rfl
  | i + 1 => by
    rw [fuC_succ, keepGo_snoc, fu_keep k i, fuC_len, Nat.zero_add, show lastK k (i + 1) = if k.testBit i = true then (i : Int) else lastK k i from rfl]
    unfold keep1
    have hr : (Ch.run (.wr [102] (Lib.itoa (i : Nat))) (fuF (lastK k i))) = (0, [([102], Lib.itoa (i : Nat))]) := fu_wr _ _
    rw [hr]
    by_cases hb : k.testBit i = true
    · rw [if_pos ⟨hb, rfl⟩, if_pos hb]
      unfold fuF
      rw [if_neg (by omega)]
    · rw [if_neg (fun h => hb h.1), if_neg hb]
theorem fu_down (n m : Nat) : (fuS n m).down = decide (n < m) := by
  unfold fuS
  by_cases h : m ≤ n
  · rw [if_pos h, decide_eq_false (by omega)]
  · rw [if_neg h, decide_eq_true (by omega)]
theorem fu_ops (n m : Nat) : (fuS n m).ops = min n m := by
  unfold fuS
  by_cases h : m ≤ n
  · rw [if_pos h, Nat.min_eq_right h]
  · rw [if_neg h, Nat.min_eq_left (by omega)]
theorem fu_fused (n m : Nat) : 0 ≤ (fuS n m).left := by
  unfold fuS
  by_cases h : m ≤ n
  · rw [if_pos h]
    show 0 ≤ (n : Int) - m
    omega
  · rw [if_neg h]
    exact Int.le_refl _
theorem fu_crash (n m k : Nat) : (fuS n m).crash k = ⟨fuF (lastK k (min n m)), fuF (lastK k (min n m)), [], min n m, false, 0, false⟩ := by
  have h1 : (fuS n m).since = fuC (min n m) := by
    unfold fuS
    by_cases h : m ≤ n
    · rw [if_pos h, Nat.min_eq_right h]
    · rw [if_neg h, Nat.min_eq_left (by omega)]
  have h2 : (fuS n m).sure = [] := by
    unfold fuS
    by_cases h : m ≤ n
    · rw [if_pos h]
    · rw [if_neg h]
  unfold DS.crash
  rw [h1, h2, fu_ops, fu_keep]
theorem fu_read (j : Int) (o : Nat) : DS.read ⟨fuF j, fuF j, [], o, false, 0, false⟩ [102] = if j < 0 then ([], 4) else (Lib.itoa j, 0) := by
  unfold DS.read
  rw [if_neg (by simp)]
  unfold fuF
  by_cases h : j < 0
  · rw [if_pos h, if_pos h]
    rfl
  · rw [if_neg h, if_neg h]
    have hc : Lib.compareBytes [102] [102] = 0 := by decide
    have hW : bsW [([102], Lib.itoa j)] [102] = 0 := by simp [bsW, bsG, hc]
    have hB : bsF [([102], Lib.itoa j)] [102] = true := by simp [bsF, hW, hc]
    simp [hB, hW]
end Go.Proofs.YtjoinnjhpfakpaaGreatDoor

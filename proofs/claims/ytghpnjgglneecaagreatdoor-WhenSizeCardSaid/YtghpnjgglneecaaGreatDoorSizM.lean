/-
  A limit's parts, as the reference finds them: no walk.
-/
import Derived.Test.YtghpnjgglneecaaGreatDoorWhenC
import Derived.Test.YtghpnjgglneecaaGreatDoorFlo2
namespace Go.Proofs.YtghpnjgglneecaaGreatDoor
open Go.RowKit

theorem index_none (l : List UInt8) (h : ∀ j, j < l.length → l.getD j 0 ≠ 46) : Lib.index l [46] = -1 := by
  induction l with
  | nil => rfl
  | cons b l ih =>
    have h0 : b ≠ 46 := h 0 (by simp)
    have h1 := ih (fun j hj => h (j + 1) (by simpa using hj))
    have e : ([46] : List UInt8).isPrefixOf (b :: l) = false := by
      simp [List.isPrefixOf]
      exact fun e => h0 e.symm
    unfold Lib.index
    rw [e, h1]
    rfl
theorem index_at (l : List UInt8) : ∀ k, k < l.length → (∀ j, j < k → l.getD j 0 ≠ 46) → l.getD k 0 = 46 → Lib.index l [46] = (k : Int) := by
  induction l with
  | nil => intro k hk; simp at hk
  | cons b l ih =>
    intro k hk h h46
    cases k with
    | zero =>
      have hb : b = 46 := h46
      subst hb
      unfold Lib.index
      rw [if_pos (by simp [List.isPrefixOf])]
      rfl
    | succ k =>
      have h0 : b ≠ 46 := h 0 (by omega)
      have h1 := ih k (by simpa using hk) (fun j hj => h (j + 1) (by omega)) h46
      have e : ([46] : List UInt8).isPrefixOf (b :: l) = false := by
        simp [List.isPrefixOf]
        exact fun e => h0 e.symm
      unfold Lib.index
      rw [e, h1]
      have hne : ((k : Int) == -1) = false := beq_eq_false_iff_ne.2 (by omega)
      rw [hne]
      simp
theorem cut_none (l : List UInt8) (h : ∀ j, j < l.length → l.getD j 0 ≠ 46) : Lib.cut l [46] = (l, [], false) := by
  unfold Lib.cut
  rw [index_none l h, if_neg (by decide)]
theorem cut_at (l : List UInt8) (k : Nat) (hk : k < l.length) (h : ∀ j, j < k → l.getD j 0 ≠ 46) (h46 : l.getD k 0 = 46) : Lib.cut l [46] = (l.take k, l.drop (k + 1), true) := by
  unfold Lib.cut
  rw [index_at l k hk h h46, if_pos (by omega)]
  rfl
theorem suf_snoc (pre : List UInt8) (c x : UInt8) : Lib.hasSuffix (pre ++ [c]) [x] = (x == c) := by
  simp [Lib.hasSuffix, List.isSuffixOf, List.isPrefixOf]
theorem unit_nil : unitOf [] = ([], 4607182418800017408) := rfl
theorem unit_k (pre : List UInt8) : unitOf (pre ++ [107]) = (pre, 4652218415073722368) := by
  unfold unitOf Lib.trimSuffix
  rw [suf_snoc]
  simp
theorem unit_m (pre : List UInt8) : unitOf (pre ++ [109]) = (pre, 4697254411347427328) := by
  unfold unitOf Lib.trimSuffix
  rw [suf_snoc, suf_snoc]
  simp
theorem unit_other (pre : List UInt8) (c : UInt8) (h1 : c ≠ 107) (h2 : c ≠ 109) : unitOf (pre ++ [c]) = (pre ++ [c], 4607182418800017408) := by
  unfold unitOf
  rw [suf_snoc, suf_snoc]
  rw [if_neg (by simpa using fun e => h1 e.symm), if_neg (by simpa using fun e => h2 e.symm)]
/-- The limit of a number of so many digits behind its point. -/
def valB (n k u : Nat) : Nat := ((floatBits .quo .f64 (floatOfInt .f64 (n : Int)) (floatOfInt .f64 ((10 ^ k : Nat) : Int))).bind fun q => floatBits .mul .f64 q u).getD 0
def sizeC (c : List UInt8 × List UInt8 × Bool) (u : Nat) : Nat × Bool :=
  if whole c.1 && (!c.2.2 || digs c.2.1 3) then (valB (num (num 0 c.1) c.2.1) c.2.1.length u, true) else (0, false)
def sizeV (s : List UInt8) : Nat × Bool := sizeC (Lib.cut (unitOf s).1 [46]) (unitOf s).2
/-- The scales. -/
theorem sc_read (k : Nat) (h : k ≤ 3) : ∃ n j, Ieee.double.read (floatOfInt .f64 ((10 ^ k : Nat) : Int)) = .number false n j ∧ n ≠ 0 := by
  have hk : k = 0 ∨ k = 1 ∨ k = 2 ∨ k = 3 := by omega
  rcases hk with rfl | rfl | rfl | rfl
  · exact ⟨4503599627370496, -52, by decide +kernel, by decide⟩
  · exact ⟨5629499534213120, -49, by decide +kernel, by decide⟩
  · exact ⟨7036874417766400, -46, by decide +kernel, by decide⟩
  · exact ⟨8796093022208000, -43, by decide +kernel, by decide⟩
theorem unit_read (u : Nat) (h : u = 4607182418800017408 ∨ u = 4652218415073722368 ∨ u = 4697254411347427328) : ∃ n j, Ieee.double.read u = .number false n j ∧ n ≠ 0 := by
  rcases h with rfl | rfl | rfl
  · exact ⟨4503599627370496, -52, by decide +kernel, by decide⟩
  · exact ⟨4503599627370496, -42, by decide +kernel, by decide⟩
  · exact ⟨4503599627370496, -32, by decide +kernel, by decide⟩
theorem unit_is (s : List UInt8) : (unitOf s).2 = 4607182418800017408 ∨ (unitOf s).2 = 4652218415073722368 ∨ (unitOf s).2 = 4697254411347427328 := by
  unfold unitOf
  split
  · exact .inr (.inl rfl)
  · split
    · exact .inr (.inr rfl)
    · exact .inl rfl
theorem val_some (n k u : Nat) (hk : k ≤ 3) (hu : u = 4607182418800017408 ∨ u = 4652218415073722368 ∨ u = 4697254411347427328) :
    ∃ q, floatBits .quo .f64 (floatOfInt .f64 (n : Int)) (floatOfInt .f64 ((10 ^ k : Nat) : Int)) = some q ∧ floatBits .mul .f64 q u = some (valB n k u) := by
  obtain ⟨a, j, ha, hn⟩ := sc_read k hk
  obtain ⟨q, hq, hE⟩ := Flo.quo_some (floatOfInt .f64 (n : Int)) _ (Flo.E_int _) false a j ha hn
  obtain ⟨b, i, hb, hm⟩ := unit_read u hu
  obtain ⟨x, hx, -⟩ := Flo.mul_some q u hE false b i hb hm
  refine ⟨q, hq, ?_⟩
  unfold valB
  rw [hq, hx]
  show some x = some ((floatBits .mul .f64 q u).getD 0)
  rw [hx]
  rfl
theorem unit_len (s : List UInt8) : (unitOf s).1.length ≤ s.length := by
  unfold unitOf Lib.trimSuffix
  split
  · dsimp only; rw [List.length_take]; omega
  · split
    · dsimp only; rw [List.length_take]; omega
    · exact Nat.le_refl _
/-- when.Size, of whatever text. -/
theorem wsize_any (s : List UInt8) (w : World) (hl : s.length < 1099511627) (hM : Mx w) : Calls Tryz.prog 19 #[.string ⟨s.toArray⟩] w fun e w' => e = .returned (.tuple #[.float .f64 (sizeV s).1, .bool (sizeV s).2]) ∧ Below w.heap.size w w' := by
  obtain ⟨nm, u, hU⟩ : ∃ nm u, unitOf s = (nm, u) := ⟨_, _, rfl⟩
  obtain ⟨wh, fr, p, hC⟩ : ∃ wh fr p, Lib.cut nm [46] = (wh, fr, p) := ⟨_, _, _, rfl⟩
  have hn := unit_len s
  rw [hU] at hn
  have hv : sizeV s = sizeC (wh, fr, p) u := by unfold sizeV; rw [hU]; dsimp only; rw [hC]
  have hui := unit_is s
  rw [hU] at hui
  rw [hv]
  unfold sizeC
  dsimp only
  cases hw : whole wh with
  | false =>
    rw [Bool.false_and, if_neg (by decide)]
    exact size_bad s nm wh fr u p w hl hM hU hC hn (.inl hw)
  | true =>
    rw [Bool.true_and]
    have hfr : p = false → fr = [] := by
      intro hp
      unfold Lib.cut at hC
      split at hC
      · injection hC with _ hC; injection hC with _ hC; rw [hp] at hC; cases hC
      · injection hC with _ hC; injection hC with hC _; exact hC.symm
    cases hp : p with
    | false =>
      obtain rfl := hfr hp
      subst hp
      rw [if_pos (by rfl)]
      obtain ⟨q, hq, hx⟩ := val_some (num (num 0 wh) []) 0 u (by decide) hui
      exact size_good s nm wh [] u false w hl hM hU hC hn hw rfl (by decide) (fun h => by cases h) q _ hq hx
    | true =>
      subst hp
      cases hd : digs fr 3 with
      | false =>
        rw [if_neg (by decide)]
        exact size_bad s nm wh fr u true w hl hM hU hC hn (.inr ⟨hw, rfl, hd⟩)
      | true =>
        rw [if_pos (by rfl)]
        have hdd := hd
        simp only [digs, Bool.and_eq_true, decide_eq_true_eq] at hdd
        obtain ⟨q, hq, hx⟩ := val_some (num (num 0 wh) fr) fr.length u hdd.1.2 hui
        exact size_good s nm wh fr u true w hl hM hU hC hn hw hdd.2 hdd.1.2 (fun _ => hd) q _ hq hx
end Go.Proofs.YtghpnjgglneecaaGreatDoor

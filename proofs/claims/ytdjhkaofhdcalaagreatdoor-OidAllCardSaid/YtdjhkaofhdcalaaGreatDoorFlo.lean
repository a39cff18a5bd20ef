/-
  Floats of 64 bits by their bits: how two of them stand to each other, as numbers. No program is named here.
-/
import Ieee.Arith
namespace Go.Proofs.YtdjhkaofhdcalaaGreatDoor.Flo
open Ieee

/-- The bits below the sign; the sign; is it a NaN, finite? -/
def E (n : Nat) : Nat := n % 9223372036854775808
def S (n : Nat) : Bool := n / 9223372036854775808 % 2 == 1
def inf : Nat := 9218868437227405312
def isNaN (n : Nat) : Bool := decide (inf < E n)
def isFin (n : Nat) : Bool := decide (E n < inf)
/-- The place of a float in the order of all that are no NaN. -/
def key (n : Nat) : Int := if S n then -(E n : Int) else (E n : Int)

/-- The magnitude, counted in the least float. -/
def mg (r : Nat) : Nat := if r < 4503599627370496 then r else 4503599627370496 + r % 4503599627370496
def ex (r : Nat) : Nat := r / 4503599627370496 - 1
def V (r : Nat) : Nat := mg r * 2 ^ ex r

theorem V_step (r : Nat) : V r < V (r + 1) := by
  unfold V mg ex
  by_cases h : r + 1 < 4503599627370496
  · rw [if_pos (by omega), if_pos h, show r / 4503599627370496 - 1 = 0 by omega, show (r + 1) / 4503599627370496 - 1 = 0 by omega]
    omega
  · by_cases h2 : r < 4503599627370496
    · rw [if_pos h2, if_neg h, show r / 4503599627370496 - 1 = 0 by omega, show (r + 1) / 4503599627370496 - 1 = 0 by omega]
      omega
    · rw [if_neg h2, if_neg h]
      by_cases h3 : r % 4503599627370496 + 1 < 4503599627370496
      · rw [show (r + 1) / 4503599627370496 - 1 = r / 4503599627370496 - 1 by omega]
        exact (Nat.mul_lt_mul_right (Nat.two_pow_pos _)).2 (by omega)
      · rw [show (r + 1) / 4503599627370496 - 1 = (r / 4503599627370496 - 1) + 1 by omega, Nat.pow_succ, show (r + 1) % 4503599627370496 = 0 by omega, show r % 4503599627370496 = 4503599627370495 by omega]
        have := Nat.two_pow_pos (r / 4503599627370496 - 1)
        omega
theorem V_mono {a b : Nat} (h : a < b) : V a < V b := by
  induction b with
  | zero => omega
  | succ b ih =>
    rcases Nat.lt_or_ge a b with h1 | h1
    · exact Nat.lt_trans (ih h1) (V_step b)
    · obtain rfl : a = b := by omega
      exact V_step a
theorem V_zero : V 0 = 0 := rfl
theorem V_inj {a b : Nat} (h : V a = V b) : a = b := by
  rcases Nat.lt_trichotomy a b with h1 | h1 | h1
  · have := V_mono h1; omega
  · exact h1
  · have := V_mono h1; omega

theorem read_fin (n : Nat) (h : E n < inf) : double.read n = .number (S n) (mg (E n)) (-1074 + (ex (E n) : Nat)) := by
  unfold inf at h
  have e1 : double.signWeight = 9223372036854775808 := by decide
  have e2 : double.binade = 4503599627370496 := by decide
  have e3 : double.infRung = 9218868437227405312 := by decide
  have e4 : double.leastPlace = -1074 := by decide
  unfold Format.read
  rw [e1, e2, e3, e4]
  show (if E n < 4503599627370496 then _ else if E n < 9218868437227405312 then _ else _) = _
  unfold mg ex
  by_cases h1 : E n < 4503599627370496
  · rw [if_pos h1, if_pos h1, show E n / 4503599627370496 - 1 = 0 by omega]
    rfl
  · rw [if_neg h1, if_neg h1, if_pos h]
    rfl
theorem read_inf (n : Nat) (h : E n = inf) : double.read n = .infinity (S n) := by
  unfold inf at h
  have e1 : double.signWeight = 9223372036854775808 := by decide
  have e2 : double.binade = 4503599627370496 := by decide
  have e3 : double.infRung = 9218868437227405312 := by decide
  unfold Format.read
  rw [e1, e2, e3]
  show (if E n < 4503599627370496 then _ else if E n < 9218868437227405312 then _ else if E n = 9218868437227405312 then _ else _) = _
  rw [if_neg (by omega), if_neg (by omega), if_pos h]
  rfl
theorem read_nan (n : Nat) (h : inf < E n) : ∃ f, double.read n = .nan (S n) f := by
  unfold inf at h
  have e1 : double.signWeight = 9223372036854775808 := by decide
  have e2 : double.binade = 4503599627370496 := by decide
  have e3 : double.infRung = 9218868437227405312 := by decide
  unfold Format.read
  rw [e1, e2, e3]
  refine ⟨E n - 9218868437227405312, ?_⟩
  show (if E n < 4503599627370496 then _ else if E n < 9218868437227405312 then _ else if E n = 9218868437227405312 then _ else _) = _
  rw [if_neg (by omega), if_neg (by omega), if_neg (by omega)]
  rfl

theorem compare_scale (x y : Int) (k : Nat) : compare (x * 2 ^ k) (y * 2 ^ k) = compare x y := by
  have hp : (0 : Int) < 2 ^ k := Int.pow_pos (by decide)
  rcases Int.lt_trichotomy x y with h | h | h
  · rw [Int.compare_eq_lt.2 h, Int.compare_eq_lt.2 (Int.mul_lt_mul_of_pos_right h hp)]
  · rw [h, Int.compare_eq_eq.2 rfl, Int.compare_eq_eq.2 rfl]
  · rw [Int.compare_eq_gt.2 h, Int.compare_eq_gt.2 (Int.mul_lt_mul_of_pos_right h hp)]

/-- The value, signed, of a place in the order. -/
def g (x : Int) : Int := if x < 0 then -(V x.natAbs : Int) else (V x.natAbs : Int)
theorem g_mono {x y : Int} (h : x < y) : g x < g y := by
  unfold g
  by_cases hx : x < 0 <;> by_cases hy : y < 0
  · rw [if_pos hx, if_pos hy]
    have := V_mono (show y.natAbs < x.natAbs by omega)
    omega
  · rw [if_pos hx, if_neg hy]
    have := V_mono (show 0 < x.natAbs by omega)
    rw [V_zero] at this
    omega
  · omega
  · rw [if_neg hx, if_neg hy]
    have := V_mono (show x.natAbs < y.natAbs by omega)
    omega
theorem g_compare (x y : Int) : compare (g x) (g y) = compare x y := by
  rcases Int.lt_trichotomy x y with h | h | h
  · rw [Int.compare_eq_lt.2 h, Int.compare_eq_lt.2 (g_mono h)]
  · rw [h, Int.compare_eq_eq.2 rfl, Int.compare_eq_eq.2 rfl]
  · rw [Int.compare_eq_gt.2 h, Int.compare_eq_gt.2 (g_mono h)]
theorem g_key (n : Nat) : g (key n) = if S n then -(V (E n) : Int) else (V (E n) : Int) := by
  unfold g key
  cases hs : S n
  · simp only [Bool.false_eq_true, if_false]
    rw [if_neg (by omega)]
    simp
  · simp only [if_true]
    by_cases h0 : E n = 0
    · rw [h0]; rfl
    · rw [if_pos (by omega)]
      simp
theorem signed_scale (s : Bool) (m u v : Nat) : signed s m u * 2 ^ v = if s then -((m * 2 ^ (u + v) : Nat) : Int) else ((m * 2 ^ (u + v) : Nat) : Int) := by
  unfold signed
  rw [Nat.shiftLeft_eq, Nat.pow_add, ← Nat.mul_assoc]
  cases s
  · simp only [Bool.false_eq_true, if_false]
    simp
  · simp only [if_true]
    rw [Int.neg_mul]
    simp
/-- How two floats that are no NaN stand to each other. -/
theorem order_num (a b : Nat) (ha : E a ≤ inf) (hb : E b ≤ inf) : double.order a b = some (compare (key a) (key b)) := by
  unfold Format.order
  rcases Nat.lt_or_ge (E a) inf with h1 | h1 <;> rcases Nat.lt_or_ge (E b) inf with h2 | h2
  · rw [read_fin a h1, read_fin b h2]
    simp only [Datum.order]
    generalize hp : ex (E a) = p
    generalize hq : ex (E b) = q
    have e1 : ((-1074 + (p : Int)) - min (-1074 + (p : Int)) (-1074 + (q : Int))).toNat = p - min p q := by omega
    have e2 : ((-1074 + (q : Int)) - min (-1074 + (p : Int)) (-1074 + (q : Int))).toNat = q - min p q := by omega
    rw [e1, e2, ← compare_scale _ _ (min p q), signed_scale, signed_scale, show p - min p q + min p q = p by omega, show q - min p q + min p q = q by omega, ← g_compare (key a) (key b), g_key, g_key]
    unfold V
    rw [hp, hq]
  · have h2' : E b = inf := by omega
    rw [read_fin a h1, read_inf b h2']
    simp only [Datum.order]
    unfold key
    rw [h2']
    cases hs : S a <;> cases ht : S b <;> simp only [Bool.false_eq_true, if_false, if_true, Option.some.injEq] <;> symm
    · exact Int.compare_eq_lt.2 (by omega)
    · exact Int.compare_eq_gt.2 (by unfold inf; omega)
    · exact Int.compare_eq_lt.2 (by omega)
    · exact Int.compare_eq_gt.2 (by omega)
  · have h1' : E a = inf := by omega
    rw [read_inf a h1', read_fin b h2]
    simp only [Datum.order]
    unfold key
    rw [h1']
    cases hs : S a <;> cases ht : S b <;> simp only [Bool.false_eq_true, if_false, if_true, Option.some.injEq] <;> symm
    · exact Int.compare_eq_gt.2 (by omega)
    · exact Int.compare_eq_gt.2 (by omega)
    · exact Int.compare_eq_lt.2 (by unfold inf; omega)
    · exact Int.compare_eq_lt.2 (by omega)
  · have h1' : E a = inf := by omega
    have h2' : E b = inf := by omega
    rw [read_inf a h1', read_inf b h2']
    simp only [Datum.order]
    unfold key
    rw [h1', h2']
    cases hs : S a <;> cases ht : S b <;> simp only [Bool.false_eq_true, if_false, if_true, Option.some.injEq] <;> decide
theorem order_nan_left (a b : Nat) (ha : inf < E a) : double.order a b = none := by
  obtain ⟨f, hf⟩ := read_nan a ha
  unfold Format.order
  rw [hf]
  rfl
theorem order_nan_right (a b : Nat) (hb : inf < E b) : double.order a b = none := by
  obtain ⟨f, hf⟩ := read_nan b hb
  unfold Format.order
  rw [hf]
  cases double.read a <;> rfl

/-- '==', '!=', '<', '>' as the model has them. -/
theorem eq_num (a b : Nat) (ha : E a ≤ inf) (hb : E b ≤ inf) : (double.order a b == some .eq) = decide (key a = key b) := by
  rw [order_num a b ha hb, Bool.eq_iff_iff]
  simp
theorem lt_num (a b : Nat) (ha : E a ≤ inf) (hb : E b ≤ inf) : (double.order a b == some .lt) = decide (key a < key b) := by
  rw [order_num a b ha hb, Bool.eq_iff_iff]
  simp [Int.compare_eq_lt]
theorem gt_num (a b : Nat) (ha : E a ≤ inf) (hb : E b ≤ inf) : (double.order a b == some .gt) = decide (key b < key a) := by
  rw [order_num a b ha hb, Bool.eq_iff_iff]
  simp [Int.compare_eq_gt]
theorem self_eq (n : Nat) : (double.order n n == some .eq) = !isNaN n := by
  unfold isNaN
  by_cases h : inf < E n
  · rw [order_nan_left _ _ h]; simp [h]
  · rw [eq_num n n (by omega) (by omega)]; simp [h]
theorem self_ne (n : Nat) : (double.order n n != some .eq) = isNaN n := by
  have := self_eq n
  rw [bne, this]; simp
theorem E_zero : E 0 = 0 := rfl
theorem key_zero : key 0 = 0 := rfl
theorem key_eq_zero (n : Nat) : key n = 0 ↔ E n = 0 := by
  unfold key; split <;> omega
/-- Is it a nought? -/
def isZ (n : Nat) : Bool := decide (E n = 0)
theorem zero_eq (n : Nat) : (double.order n 0 == some .eq) = isZ n := by
  unfold isZ
  by_cases h : inf < E n
  · rw [order_nan_left _ _ h]; simp; unfold inf at h; omega
  · rw [eq_num n 0 (by omega) (by decide), key_zero, Bool.eq_iff_iff]
    simp [key_eq_zero]

theorem sub_fin (n : Nat) (h : E n < inf) : double.sub n n = some 0 := by
  unfold Format.sub
  rw [read_fin n h]
  simp only [Datum.opposite, Datum.sum]
  have e : signed (S n) (mg (E n)) ((-1074 + (ex (E n) : Int)) - min (-1074 + (ex (E n) : Int)) (-1074 + (ex (E n) : Int))).toNat + signed (!S n) (mg (E n)) ((-1074 + (ex (E n) : Int)) - min (-1074 + (ex (E n) : Int)) (-1074 + (ex (E n) : Int))).toNat = 0 := by
    unfold signed
    cases S n <;> simp <;> omega
  rw [e]
  simp only [if_true, Option.map_some, Option.some.injEq]
  have e2 : (S n && !S n) = false := by cases S n <;> rfl
  rw [e2]
  rfl
theorem sub_none (n : Nat) (h : ¬ E n < inf) : double.sub n n = none := by
  unfold Format.sub
  rcases Nat.lt_or_ge inf (E n) with h1 | h1
  · obtain ⟨f, hf⟩ := read_nan n h1
    rw [hf]; rfl
  · rw [read_inf n (by omega)]
    cases S n <;> rfl
theorem inv_zero (n : Nat) (h : E n = 0) : double.div 4607182418800017408 n = some (if S n then 18442240474082181120 else 9218868437227405312) := by
  unfold Format.div
  rw [read_fin n (by rw [h]; decide), h]
  cases S n <;> decide +kernel
theorem E_lt (n : Nat) : E n < 9223372036854775808 := Nat.mod_lt _ (by decide)
theorem E_E (n : Nat) : E (E n) = E n := Nat.mod_eq_of_lt (E_lt n)
theorem S_E (n : Nat) : S (E n) = false := by
  unfold S
  rw [Nat.div_eq_of_lt (E_lt n)]; rfl
theorem inf_gt (n : Nat) : (double.order (E n) 9218868437227405311 == some .gt) = decide (E n = inf) := by
  by_cases h : inf < E n
  · rw [order_nan_left _ _ (by rw [E_E]; exact h)]
    simp; omega
  · rw [gt_num _ _ (by rw [E_E]; omega) (by decide), Bool.eq_iff_iff]
    have k1 : key (E n) = (E n : Int) := by unfold key; rw [S_E, E_E]; rfl
    have k2 : key 9218868437227405311 = 9218868437227405311 := by decide
    rw [k1, k2]
    simp only [decide_eq_true_eq]
    unfold inf at *
    omega
theorem isFin_eq (n : Nat) : (!isNaN n && !decide (E n = inf)) = isFin n := by
  unfold isNaN isFin
  rw [Bool.eq_iff_iff]
  simp
  omega
/-- Is it a time? -/
def may (n : Nat) : Bool := isFin n && !(isZ n && S n)
end Go.Proofs.YtdjhkaofhdcalaaGreatDoor.Flo

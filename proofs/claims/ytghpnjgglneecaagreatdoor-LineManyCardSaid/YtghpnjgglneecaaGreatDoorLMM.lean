/-
  Many lines, one behind the other, and what All tells of them, whole and cut off: no walk.
-/
import Derived.Test.YtghpnjgglneecaaGreatDoorLineP
import Derived.Test.YtghpnjgglneecaaGreatDoorLinD
namespace Go.Proofs.YtghpnjgglneecaaGreatDoor
open Go.RowKit

/-- A text as a line; none as what parts lines. -/
def lineOf (u : List UInt8) : List UInt8 := if u = [] then [48, 48, 48, 49] else hexs 4 (4 + u.length) ++ u
def enc : List (List UInt8) → List UInt8
  | [] => []
  | u :: us => lineOf u ++ enc us
def fl4 : List UInt8 := [48, 48, 48, 48]
theorem lineOf_len (u : List UInt8) : (lineOf u).length = 4 + u.length := by
  unfold lineOf
  split
  · rename_i h; simp [h]
  · rw [List.length_append, hexs_len]
theorem enc_snoc (us : List (List UInt8)) (u : List UInt8) : enc (us ++ [u]) = enc us ++ lineOf u := by
  induction us with
  | nil => simp [enc]
  | cons v us ih => simp [enc, ih]
theorem enc_ge (us : List (List UInt8)) : us.length ≤ (enc us).length := by
  induction us with
  | nil => simp [enc]
  | cons v us ih => simp [enc, lineOf_len]; omega
theorem enc_le (us : List (List UInt8)) (m : Nat) (h : ∀ u, u ∈ us → u.length ≤ m) : (enc us).length ≤ us.length * (4 + m) := by
  induction us with
  | nil => simp [enc]
  | cons v us ih =>
    have h1 := h v (by simp)
    have h2 := ih (fun u hu => h u (by simp [hu]))
    simp only [enc, List.length_append, lineOf_len, List.length_cons, Nat.succ_mul]
    omega
theorem firstV_of (u r : List UInt8) (h : u.length ≤ 1000) : ∃ k, k ≠ 2 ∧ firstV (lineOf u ++ r) = .inl (k, u, (lineOf u).length) := by
  by_cases hu : u = []
  · subst hu
    exact ⟨3, by decide, firstV_delim r⟩
  · refine ⟨1, by decide, ?_⟩
    rw [lineOf_len]
    unfold lineOf
    rw [if_neg hu]
    exact firstV_line u r hu h
theorem lenGo_cut (n k : Nat) (h : n ≤ 1004) (hk : k < 4) : lenGo 4 0 ((hexs 4 n).take k) = .inr 2 := by
  have e : hexs 4 n = [hx (n / 4096 % 16), hx (n / 256 % 16), hx (n / 16 % 16), hx (n / 1 % 16)] := rfl
  have d3 := hval_hx (n / 4096 % 16) (Nat.mod_lt _ (by decide))
  have d2 := hval_hx (n / 256 % 16) (Nat.mod_lt _ (by decide))
  have d1 := hval_hx (n / 16 % 16) (Nat.mod_lt _ (by decide))
  have hk4 : k = 0 ∨ k = 1 ∨ k = 2 ∨ k = 3 := by omega
  rw [e]
  rcases hk4 with rfl | rfl | rfl | rfl
  · rfl
  · simp only [List.take_succ_cons, List.take_zero, lenGo, d3, Int.toNat_natCast]
    rw [if_neg (by omega), if_pos (by omega)]
  · simp only [List.take_succ_cons, List.take_zero, lenGo, d3, d2, Int.toNat_natCast]
    rw [if_neg (by omega), if_pos (by omega), if_neg (by omega), if_pos (by omega)]
  · simp only [List.take_succ_cons, List.take_zero, lenGo, d3, d2, d1, Int.toNat_natCast]
    rw [if_neg (by omega), if_pos (by omega), if_neg (by omega), if_pos (by omega), if_neg (by omega), if_pos (by omega)]
theorem firstV_err (s : List UInt8) (c : Int) (h : lenGo 4 0 s = .inr c) : firstV s = .inr c := by
  unfold firstV
  rw [h]
theorem firstV_fl (k : Nat) (hk : k < 4) : firstV (fl4.take k) = .inr 2 :=
  firstV_err _ _ (lenGo_cut 0 k (by decide) hk)
theorem firstV_cut (u : List UInt8) (k : Nat) (h : u.length ≤ 1000) (hk : k < (lineOf u).length) : firstV ((lineOf u).take k) = .inr 2 := by
  by_cases hu : u = []
  · subst hu
    exact firstV_err _ _ (lenGo_cut 1 k (by decide) hk)
  · rw [lineOf_len] at hk
    have hp : 0 < u.length := List.length_pos_iff.2 hu
    have e : lineOf u = hexs 4 (4 + u.length) ++ u := by unfold lineOf; rw [if_neg hu]
    have hl : (hexs 4 (4 + u.length)).length = 4 := hexs_len 4 _
    rw [e, List.take_append, hl]
    rcases Nat.lt_or_ge k 4 with h4 | h4
    · rw [show k - 4 = 0 by omega, List.take_zero, List.append_nil]
      exact firstV_err _ _ (lenGo_cut _ k (by omega) h4)
    · rw [List.take_of_length_le (by omega)]
      unfold firstV
      rw [lenGo_hexs _ _ (by omega)]
      dsimp only
      rw [if_neg (by omega), if_neg (by omega), if_neg (by omega), if_pos (by rw [List.length_append, hl, List.length_take]; omega)]
theorem allGo_enc (us : List (List UInt8)) (tail : List UInt8) (h : ∀ u, u ∈ us → u.length ≤ 1000) : ∀ (f : Nat) (pre : List UInt8) (acc : List (List UInt8)), us.length < f →
    allGo f (pre ++ (enc us ++ (fl4 ++ tail))) pre.length acc = .inl (acc ++ us, pre.length + ((enc us).length + 4)) := by
  induction us with
  | nil =>
    intro f pre acc hf
    obtain ⟨f, rfl⟩ : ∃ g, f = g + 1 := ⟨f - 1, by simp at hf; omega⟩
    rw [allGo, List.drop_left]
    rw [show enc [] ++ (fl4 ++ tail) = 48 :: 48 :: 48 :: 48 :: tail from rfl, firstV_flush tail]
    simp [enc]
  | cons u us ih =>
    intro f pre acc hf
    obtain ⟨f, rfl⟩ : ∃ g, f = g + 1 := ⟨f - 1, by simp at hf; omega⟩
    obtain ⟨k, hk, hv⟩ := firstV_of u (enc us ++ (fl4 ++ tail)) (h u (by simp))
    rw [allGo, List.drop_left, enc, List.append_assoc, hv]
    dsimp only
    rw [if_neg hk]
    have := ih (fun v hv => h v (by simp [hv])) f (pre ++ lineOf u) (acc ++ [u]) (by simpa using hf)
    rw [List.length_append, List.append_assoc] at this
    rw [this]
    simp only [List.append_assoc, List.singleton_append, List.length_append]
    congr 2
    omega
theorem allGo_cut (us : List (List UInt8)) (h : ∀ u, u ∈ us → u.length ≤ 1000) : ∀ (f : Nat) (pre : List UInt8) (acc : List (List UInt8)) (k : Nat), k < f → k < (enc us).length + 4 →
    allGo f (pre ++ (enc us ++ fl4).take k) pre.length acc = .inr 2 := by
  induction us with
  | nil =>
    intro f pre acc k hf hk
    obtain ⟨f, rfl⟩ : ∃ g, f = g + 1 := ⟨f - 1, by omega⟩
    rw [allGo, List.drop_left]
    rw [show (enc [] ++ fl4).take k = fl4.take k from rfl, firstV_fl k (by simpa [enc] using hk)]
  | cons u us ih =>
    intro f pre acc k hf hk
    obtain ⟨f, rfl⟩ : ∃ g, f = g + 1 := ⟨f - 1, by omega⟩
    rw [allGo, List.drop_left, enc, List.append_assoc]
    rcases Nat.lt_or_ge k (lineOf u).length with hlt | hge
    · rw [List.take_append_of_le_length (by omega), firstV_cut u k (h u (by simp)) hlt]
    · obtain ⟨j, rfl⟩ : ∃ j, k = (lineOf u).length + j := ⟨k - (lineOf u).length, by omega⟩
      rw [List.take_append, List.take_of_length_le (by omega), show (lineOf u).length + j - (lineOf u).length = j by omega]
      obtain ⟨k2, hk2, hv⟩ := firstV_of u ((enc us ++ fl4).take j) (h u (by simp))
      rw [hv]
      dsimp only
      rw [if_neg hk2]
      have := ih (fun v hv => h v (by simp [hv])) f (pre ++ lineOf u) (acc ++ [u]) j (by have := lineOf_len u; omega) (by simp only [enc, List.length_append] at hk; omega)
      rw [List.length_append, List.append_assoc] at this
      exact this
end Go.Proofs.YtghpnjgglneecaaGreatDoor

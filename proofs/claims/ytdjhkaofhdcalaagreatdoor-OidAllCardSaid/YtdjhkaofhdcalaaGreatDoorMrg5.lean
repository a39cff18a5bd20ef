/-
  The reference's digits, walked.
  The reference's decimal digits, Hex, LessId, Has, walked; oid.word.
  The table of tens, laid.
  The reference's Id, GetHex of other lengths, Has, walked; oid.Of of any kind.
  Names from digits of any length; a name's digits and back; names as such.
  A region that draws its order: a head that only reads (a class of worlds), walked once; what is left goes in whatever order.
-/
import Derived.Test.YtdjhkaofhdcalaaGreatDoorRefN
import Derived.Test.YtdjhkaofhdcalaaGreatDoorOidB
import Derived.Test.YtdjhkaofhdcalaaGreatDoorMrg4
import Derived.Lib.ItoaNum
import Derived.Test.YtdjhkaofhdcalaaGreatDoorDoor
import Derived.Test.YtdjhkaofhdcalaaGreatDoorShelf
import Derived.Test.YtdjhkaofhdcalaaGreatDoorRefU
import Derived.Test.YtdjhkaofhdcalaaGreatDoorRGet
import Derived.Test.YtdjhkaofhdcalaaGreatDoorOHexM
import Derived.Test.YtdjhkaofhdcalaaGreatDoorOGet
import Derived.Test.YtdjhkaofhdcalaaGreatDoorQTail
namespace Go.Proofs.YtdjhkaofhdcalaaGreatDoor
open Go.RowKit

theorem hexs_back (i n : Nat) : hexs (i + 1) n = hx (n / 16 ^ i % 16) :: hexs i n := rfl
theorem hx_low (d : Nat) (h : d < 10) : (hx d).toNat = 48 + d := by
  have : ∀ d, d < 10 → (hx d).toNat = 48 + d := by decide
  exact this d h
theorem hx_high (d : Nat) (h1 : ¬ d < 10) (h : d < 16) : (hx d).toNat = 87 + d := by
  have : ∀ d, d < 16 → ¬ d < 10 → (hx d).toNat = 87 + d := by decide
  exact this d h h1
/-- string of one new byte. -/
theorem str_one (x : UInt8) (i : Int) (hi : i = (x.toNat : Int)) (W : World) : (convert 39 9 (.slice (some ⟨W.heap.size, 0, none⟩) 1 1)).run Tryz.prog (W.alloc (.cells #[.int .u8 i] 5)) = .ok (.string ⟨[x].toArray⟩) (W.alloc (.cells #[.int .u8 i] 5)) := by
  subst hi
  refine bytes_str (P := Tryz.prog) 39 9 5 Tryz.underlying39 Tryz.underlying5 Tryz.underlying9 (bs := [x]) ⟨_, 1, rfl, Nat.le_refl _, by unfold maxLen; omega, fun _ => ⟨_, 0, rfl, fun i hi => ?_⟩⟩
  obtain rfl : i = 0 := by simp at hi; exact hi
  exact ((Whole.made W 5 #[.int .u8 (x.toNat : Int)]).at_ 0).trans rfl
set_option maxHeartbeats 2000000 in
theorem rdigs_any (n k : Nat) (w : World) (hn : n < 18446744073709551616) (hk : k ≤ 16) : Calls Tryz.prog 51 #[.int .u64 (n : Int), .int .i64 (k : Int)] w fun e w' => e = .returned (.string ⟨(hexs k n).toArray⟩) ∧ Below w.heap.size w w' := by
  go_enter Tryz.func51, Tryz.ntmps51
  go_wp2
  go_loopw [0, 5, 6] (fun v s i wr => ∃ j : Nat, j ≤ k ∧ v = .int .u64 ((n / 16 ^ j : Nat) : Int) ∧ s = .string ⟨(hexs j n).toArray⟩ ∧ i = .int .i64 (j : Int) ∧ Below w.heap.size w wr) (fun _ _ i _ => k - (intOf i).toNat)
  case atStart => exact ⟨0, by omega, by simp, rfl, rfl, Below.refl _ _⟩
  case round =>
    obtain ⟨j, hj, rfl, rfl, rfl, hB⟩ := hrel
    have HB := Lib.hid hB
    clear hB
    by_cases hlt : j < k
    · have hln : (hexs j n).length ≤ 16 := by rw [hexs_len]; omega
      have HS := Lib.hid (hexs_back j n)
      have HQ : Hid (n / 16 ^ (j + 1) = n / 16 ^ j / 16) := by show _ = _; rw [Nat.pow_succ, Nat.div_div_eq_div_mul]
      have hq : n / 16 ^ j < 18446744073709551616 := Nat.lt_of_le_of_lt (Nat.div_le_self _ _) hn
      generalize n / 16 ^ j = q at *
      generalize hexs j n = l at *
      have hd : q % 16 < 16 := Nat.mod_lt _ (by decide)
      have e1 : (q : Int) % 16 % 256 = ((q % 16 : Nat) : Int) := by omega
      have e0 : (q : Int) % 16 = ((q % 16 : Nat) : Int) := by omega
      have e2 : (q : Int) / 16 = ((q / 16 : Nat) : Int) := by omega
      generalize q / 16 = q2 at *
      generalize q % 16 = d at *
      by_cases hd10 : d < 10
      · have hcv := str_one (hx d) (48 + (d : Int)) (by rw [hx_low d hd10]; omega) wr
        have k1 : decide ((d : Int) < 10) = true := by simp; omega
        have HD := Lib.hid hd10
        clear hd10
        go_wp2
        go_roundw
        case rel => exact ⟨j + 1, by omega, by rw [HQ.out], by rw [HS.out, ba_append [hx d] l]; rfl, by go_num, HB.out.alloc HB.out.size _⟩
        case measure => simp [intOf]; omega
      · have hcv := str_one (hx d) (97 + (d : Int) - 10) (by rw [hx_high d hd10 hd]; omega) wr
        have k1 : decide ((d : Int) < 10) = false := by simp; omega
        have HD := Lib.hid hd10
        clear hd10
        go_wp2
        go_roundw
        case rel => exact ⟨j + 1, by omega, by rw [HQ.out], by rw [HS.out, ba_append [hx d] l]; rfl, by go_num, HB.out.alloc HB.out.size _⟩
        case measure => simp [intOf]; omega
    · obtain rfl : j = k := by omega
      go_wp2
      go_ret
      exact ⟨rfl, HB.out⟩
end Go.Proofs.YtdjhkaofhdcalaaGreatDoor
namespace Go.Proofs.YtdjhkaofhdcalaaGreatDoor
open Go.RowKit

/-! ### Decimal digits -/
set_option maxHeartbeats 2000000 in
theorem rdec_one (n : Nat) (hn : n < 10) (w : World) : Calls Tryz.prog 50 #[.int .i64 (n : Int)] w fun e w' => e = .returned (.string ⟨[UInt8.ofNat (48 + n)].toArray⟩) ∧ Below w.heap.size w w' := by
  have hx : (48 : Int) + (n : Int) = ((UInt8.ofNat (48 + n)).toNat : Int) := by
    rw [UInt8.toNat_ofNat']
    omega
  have hcv := str_one (UInt8.ofNat (48 + n)) (48 + (n : Int)) hx w
  clear hx
  generalize UInt8.ofNat (48 + n) = x at *
  have hmod : (48 + (n : Int)) % 256 = 48 + (n : Int) := by omega
  have hw : wrap64 (48 + (n : Int)) = 48 + (n : Int) := by unfold wrap64; omega
  have k0 : decide ((n : Int) < 0) = false := decide_eq_false (by omega)
  have k1 : decide ((n : Int) < 10) = true := decide_eq_true (by omega)
  go_enter Tryz.func50, Tryz.ntmps50
  go_wp2
  go_ret
  exact ⟨rfl, (Below.refl _ _).alloc (Nat.le_refl _) _⟩
set_option maxHeartbeats 2000000 in
theorem rdec_step (n : Nat) (hn : 10 ≤ n) (hn2 : n < 1000000) (x y : List UInt8) (hlx : x.length ≤ 100) (hly : y.length ≤ 100) (hx : ∀ W, Calls Tryz.prog 50 #[.int .i64 ((n / 10 : Nat) : Int)] W fun e w' => e = .returned (.string ⟨x.toArray⟩) ∧ Below W.heap.size W w')
    (hy : ∀ W, Calls Tryz.prog 50 #[.int .i64 ((n % 10 : Nat) : Int)] W fun e w' => e = .returned (.string ⟨y.toArray⟩) ∧ Below W.heap.size W w') (w : World) :
    Calls Tryz.prog 50 #[.int .i64 (n : Int)] w fun e w' => e = .returned (.string ⟨(x ++ y).toArray⟩) ∧ Below w.heap.size w w' := by
  have HX := Lib.hid hx
  have HY := Lib.hid hy
  have k0 : decide ((n : Int) < 0) = false := decide_eq_false (by omega)
  have k1 : decide ((n : Int) < 10) = false := decide_eq_false (by omega)
  have e1 : (n : Int).tdiv 10 = ((n / 10 : Nat) : Int) := by rw [Int.tdiv_eq_ediv_of_nonneg (by omega)]; omega
  have e2 : (n : Int).tmod 10 = ((n % 10 : Nat) : Int) := by rw [Int.tmod_eq_emod_of_nonneg (by omega)]; omega
  have e3 : (n : Int) / 10 = ((n / 10 : Nat) : Int) := by omega
  have e4 : (n : Int) % 10 = ((n % 10 : Nat) : Int) := by omega
  have HAP := Lib.hid (ba_append x y)
  clear hx hy
  generalize n / 10 = q at *
  generalize n % 10 = r at *
  go_enter Tryz.func50, Tryz.ntmps50
  go_wp2_with fail
  refine (HX.out _).mono ?_
  rintro e w1 ⟨rfl, hB⟩
  have HB := Lib.hid hB
  clear hB
  go_wp2_with fail
  refine (HY.out _).mono ?_
  rintro e w2 ⟨rfl, hB⟩
  have HB2 := Lib.hid (HB.out.trans (hB.mono HB.out.size))
  clear hB
  go_wp2
  go_ret
  exact ⟨congrArg (fun s => Ending.returned (.string s)) HAP.out, HB2.out⟩
/-- Three digits at most. -/
theorem itoa_small : ∀ n, n < 1000 → Lib.itoa (n : Nat) = if n < 10 then [UInt8.ofNat (48 + n)] else if n < 100 then [UInt8.ofNat (48 + n / 10)] ++ [UInt8.ofNat (48 + n % 10)] else ([UInt8.ofNat (48 + n / 10 / 10)] ++ [UInt8.ofNat (48 + n / 10 % 10)]) ++ [UInt8.ofNat (48 + n % 10)] := by
  intro n hn
  have e : Lib.itoa (n : Nat) = Lib.decDigits n := by
    unfold Lib.itoa
    rw [if_neg (by omega), Int.toNat_natCast]
  rw [e]
  split
  · exact Lib.decDigits_one (by omega)
  · split
    · exact Lib.decDigits_two (by omega) (by omega)
    · rw [Lib.decDigits, dif_neg (by omega), Lib.decDigits_two (by omega) (by omega)]
      rfl
theorem rdec_any (n : Nat) (hn : n < 1000) (w : World) : Calls Tryz.prog 50 #[.int .i64 (n : Int)] w fun e w' => e = .returned (.string ⟨(Lib.itoa (n : Nat)).toArray⟩) ∧ Below w.heap.size w w' := by
  rw [itoa_small n hn]
  by_cases h1 : n < 10
  · rw [if_pos h1]
    exact rdec_one n h1 w
  · rw [if_neg h1]
    by_cases h2 : n < 100
    · rw [if_pos h2]
      exact rdec_step n (by omega) (by omega) _ _ (by simp) (by simp) (fun W => rdec_one _ (by omega) W) (fun W => rdec_one _ (by omega) W) w
    · rw [if_neg h2]
      exact rdec_step n (by omega) (by omega) _ _ (by simp) (by simp) (fun W => rdec_step _ (by omega) (by omega) _ _ (by simp) (by simp) (fun W => rdec_one _ (by omega) W) (fun W => rdec_one _ (by omega) W) W) (fun W => rdec_one _ (by omega) W) w

/-! ### Kinds -/
def kwd (kind : Int) : List UInt8 := if kind = 1 then [98, 108, 111, 98] else if kind = 2 then [116, 114, 101, 101] else if kind = 3 then [99, 111, 109, 109, 105, 116] else [63]
theorem kwd_len (kind : Int) : (kwd kind).length ≤ 6 := by
  unfold kwd
  split
  · decide
  · split
    · decide
    · split <;> decide
set_option maxHeartbeats 2000000 in
theorem oword_any (kind : Int) (w : World) : Calls Tryz.prog 40 #[.int .i64 kind] w fun e w' => e = .returned (.string ⟨(kwd kind).toArray⟩) ∧ w = w' := by
  unfold kwd
  by_cases h1 : kind = 1
  · rw [if_pos h1]
    have k1 : (kind == 1) = true := by simp [h1]
    clear h1
    go_enter Tryz.func40, Tryz.ntmps40
    go_wp2
    go_ret
    exact ⟨rfl, rfl⟩
  · rw [if_neg h1]
    have k1 : (kind == 1) = false := by simp [h1]
    by_cases h2 : kind = 2
    · rw [if_pos h2]
      have k2 : (kind == 2) = true := by simp [h2]
      clear h1 h2
      go_enter Tryz.func40, Tryz.ntmps40
      go_wp2
      go_ret
      exact ⟨rfl, rfl⟩
    · rw [if_neg h2]
      have k2 : (kind == 2) = false := by simp [h2]
      by_cases h3 : kind = 3
      · rw [if_pos h3]
        have k3 : (kind == 3) = true := by simp [h3]
        clear h1 h2 h3
        go_enter Tryz.func40, Tryz.ntmps40
        go_wp2
        go_ret
        exact ⟨rfl, rfl⟩
      · rw [if_neg h3]
        have k3 : (kind == 3) = false := by simp [h3]
        clear h1 h2 h3
        go_enter Tryz.func40, Tryz.ntmps40
        go_wp2
        go_ret
        exact ⟨rfl, rfl⟩

/-! ### Digits of a name -/
theorem hexs_two (b : UInt8) : hexs 2 b.toNat = [hx (b.toNat / 16), hx (b.toNat % 16)] := by
  have := b.toNat_lt
  simp only [hexs, Nat.pow_one, Nat.pow_zero, Nat.div_one]
  rw [Nat.mod_eq_of_lt (show b.toNat / 16 < 16 by omega)]
set_option maxRecDepth 100000 in
set_option maxHeartbeats 4000000 in
theorem rhex_any (x : Nm) (w : World) : Calls Tryz.prog 13 #[.agg (encN x).toArray] w fun e w' => e = .returned (.string ⟨(hexOf x.l).toArray⟩) ∧ Below w.heap.size w w' := by
  have HW0 := Lib.hid (Whole.made w 23 (encN x).toArray)
  have HB0 := Lib.hid ((Below.refl w.heap.size w).alloc (Nat.le_refl _) (.cells (encN x).toArray 23))
  have hs0 : (w.alloc (.cells (encN x).toArray 23)).heap.size = w.heap.size + 1 := by simp
  have hxl := x.h
  unfold encN at *
  generalize x.l = l at *
  have HXL := Lib.hid hxl
  have HCE : Hid (∀ i, i < 32 → ((l.map Y).toArray)[i]? = some (Y (l.getD i 0))) := fun i hi => by rw [List.getElem?_toArray, ← some_y _ _ (by omega)]
  generalize (l.map Y).toArray = cs at *
  go_enter Tryz.func13, Tryz.ntmps13
  go_wp2
  generalize w.alloc (.cells cs 23) = w0 at *
  go_loopg [3, 4] 32 (fun g s3 s4 wr => ∃ k : Nat, k ≤ 32 ∧ 32 - k ≤ g ∧ s3 = .string ⟨(hexOf (l.take k)).toArray⟩ ∧ s4 = .int .i64 k ∧ Hid (Below w0.heap.size w0 wr))
  case atStart => exact ⟨0, by omega, by omega, rfl, rfl, Lib.hid (Below.refl _ _)⟩
  case round =>
    obtain ⟨k, hk, hg, rfl, rfl, hwr⟩ := hrel
    by_cases hlt : k < 32
    · have hlt' : (k : Int) < 32 := by omega
      have hc := (((HW0.out.below hwr.out HW0.out.lt)).at_ k).trans (HCE.out k hlt)
      have hln : (hexOf (l.take k)).length ≤ 64 := by rw [hexOf_len, List.length_take]; omega
      have hb := (l.getD k 0).toNat_lt
      have HD := Lib.hid (fun W => rdigs_any (l.getD k 0).toNat 2 W (by omega) (by omega))
      rw [hexs_two] at HD
      have HS : Hid (hexOf (l.take k) ++ [hx ((l.getD k 0).toNat / 16), hx ((l.getD k 0).toNat % 16)] = hexOf (l.take (k + 1))) := by
        show _ = _
        rw [← hexOf_snoc, List.take_succ_eq_append_getElem (by omega)]
        congr 3
        simp [List.getD, List.getElem?_eq_getElem (show k < l.length by omega)]
      have HAP := Lib.hid (ba_append (hexOf (l.take k)) [hx ((l.getD k 0).toNat / 16), hx ((l.getD k 0).toNat % 16)])
      rw [HS.out] at HAP
      clear HS
      unfold Y at hc
      generalize hexOf (l.take k) = t at *
      generalize (l.getD k 0).toNat = b at *
      have hd : ([hx (b / 16), hx (b % 16)] : List UInt8).length = 2 := rfl
      generalize [hx (b / 16), hx (b % 16)] = ds at *
      go_wp2_with fail
      refine (HD.out _).mono ?_
      rintro e w1 ⟨rfl, hB⟩
      have HB1 := Lib.hid (hwr.out.trans (hB.mono hwr.out.size))
      clear hB
      go_wp2
      go_roundg (32 - (k + 1))
      case measure => omega
      case rel => exact ⟨k + 1, by omega, by omega, by rw [HAP.out], by go_num, HB1⟩
    · obtain rfl : k = 32 := by omega
      have HT : Hid (l.take 32 = l) := by show _ = _; rw [List.take_of_length_le (by rw [HXL.out]; omega)]
      go_wp2
      go_ret
      rw [HT.out]
      exact ⟨rfl, HB0.out.trans (hwr.out.mono HB0.out.size)⟩

/-! ### The order, again -/
theorem lex_at : ∀ (a b : List UInt8) (k : Nat), k < a.length → k < b.length → (∀ i, i < k → a.getD i 0 = b.getD i 0) → a.getD k 0 ≠ b.getD k 0 → (a < b ↔ a.getD k 0 < b.getD k 0)
  | [], _, k, h, _, _, _ => absurd h (Nat.not_lt_zero _)
  | _ :: _, [], k, _, h, _, _ => absurd h (Nat.not_lt_zero _)
  | x :: a, y :: b, k, h1, h2, h3, h4 => by
    rw [List.cons_lt_cons_iff]
    cases k with
    | zero =>
      simp only [List.getD_cons_zero] at h4 ⊢
      simp [h4]
    | succ k =>
      have hxy : x = y := by simpa using h3 0 (Nat.succ_pos _)
      subst hxy
      simp only [List.getD_cons_succ] at h4 ⊢
      rw [← lex_at a b k (by simpa using h1) (by simpa using h2) (fun i hi => by simpa using h3 (i + 1) (by omega)) h4]
      simp [UInt8.lt_irrefl]
theorem list_same (a b : List UInt8) (n : Nat) (ha : a.length = n) (hb : b.length = n) (h : ∀ i, i < n → a.getD i 0 = b.getD i 0) : a = b := by
  apply List.ext_getElem (by omega)
  intro i h1 h2
  have := h i (by omega)
  simpa [List.getD, List.getElem?_eq_getElem h1, List.getElem?_eq_getElem h2] using this
set_option maxRecDepth 100000 in
set_option maxHeartbeats 4000000 in
theorem rless_nm (x y : Nm) (w : World) : Calls Tryz.prog 15 #[.agg (encN x).toArray, .agg (encN y).toArray] w fun e w' => e = .returned (.bool (decide (ltN x y))) ∧ Below w.heap.size w w' := by
  have HX0 := Lib.hid ((Whole.made w 23 (encN x).toArray).past (.cells (encN y).toArray 23))
  have HY0 : Hid (Whole ((w.alloc (.cells (encN x).toArray 23)).alloc (.cells (encN y).toArray 23)) (w.heap.size + 1) 23 (encN y).toArray) := by
    show Whole _ _ _ _
    have := Whole.made (w.alloc (.cells (encN x).toArray 23)) 23 (encN y).toArray
    simpa using this
  have HB0 := Lib.hid (((Below.refl w.heap.size w).alloc (Nat.le_refl _) (.cells (encN x).toArray 23)).alloc (by simp) (.cells (encN y).toArray 23))
  have hxl := x.h
  have hyl := y.h
  rw [show decide (ltN x y) = decide (x.l < y.l) from decide_eq_decide.2 Iff.rfl]
  unfold encN at *
  generalize x.l = xs at *
  generalize y.l = ys at *
  have HXL := Lib.hid hxl
  have HYL := Lib.hid hyl
  have HCX : Hid (∀ i, i < 32 → ((xs.map Y).toArray)[i]? = some (Y (xs.getD i 0))) := fun i hi => by rw [List.getElem?_toArray, ← some_y _ _ (by omega)]
  have HCY : Hid (∀ i, i < 32 → ((ys.map Y).toArray)[i]? = some (Y (ys.getD i 0))) := fun i hi => by rw [List.getElem?_toArray, ← some_y _ _ (by omega)]
  generalize (xs.map Y).toArray = xc at *
  generalize (ys.map Y).toArray = yc at *
  clear hxl hyl
  go_enter Tryz.func15, Tryz.ntmps15
  go_wp2
  generalize (w.alloc (.cells xc 23)).alloc (.cells yc 23) = w0 at *
  go_loopg [5] 32 (fun g s5 wr => ∃ k q : Nat, k ≤ 32 ∧ 32 - k ≤ g ∧ s5 = .int .i64 k ∧ Hid (wr = w0.drewN q) ∧ Hid (∀ i, i < k → xs.getD i 0 = ys.getD i 0))
  case atStart => exact ⟨0, 0, by omega, by omega, rfl, Lib.hid rfl, Lib.hid fun i hi => absurd hi (Nat.not_lt_zero _)⟩
  case round =>
    obtain ⟨k, q, hk, hg, rfl, hwr, hall⟩ := hrel
    by_cases hlt : k < 32
    · have hlt' : (k : Int) < 32 := by omega
      have hcx : ∀ n, (wr.drewN n).cell? ⟨w.heap.size, k, none⟩ = some (Y (xs.getD k 0)) := fun n => by rw [hwr.out]; exact ((HX0.out.drewN q).drewN n |>.at_ k).trans (HCX.out k hlt)
      have hcy : ∀ n, (wr.drewN n).cell? ⟨w.heap.size + 1, k, none⟩ = some (Y (ys.getD k 0)) := fun n => by rw [hwr.out]; exact ((HY0.out.drewN q).drewN n |>.at_ k).trans (HCY.out k hlt)
      unfold Y at hcx hcy
      have HLT : Hid (xs.getD k 0 ≠ ys.getD k 0 → decide (xs < ys) = decide ((xs.getD k 0).toNat < (ys.getD k 0).toNat)) := by
        intro hne
        rw [decide_eq_decide, lex_at xs ys k (by rw [HXL.out]; exact hlt) (by rw [HYL.out]; exact hlt) hall.out hne, UInt8.lt_iff_toNat_lt]
      obtain ⟨p, hp⟩ : ∃ p, p = xs.getD k 0 := ⟨_, rfl⟩
      obtain ⟨r, hr⟩ : ∃ r, r = ys.getD k 0 := ⟨_, rfl⟩
      rw [← hp] at hcx
      rw [← hr] at hcy
      rw [← hp, ← hr] at HLT
      have HP := Lib.hid hp
      have HR := Lib.hid hr
      clear hp hr
      by_cases he : p = r
      · have hne : (((p.toNat : Int)) != (r.toNat : Int)) = false := by simp [he]
        have HEQ := Lib.hid he
        clear he
        go_wp2_with fail
        refine wp_region_quiet_lit (by kernel_rfl) (by kernel_rfl) ?_
        repeat (first | go_big_quiet_step (fail))
        refine wpQuiet_nil ?_
        rintro W ⟨nq, rfl⟩
        go_wp2
        go_roundg (32 - (k + 1))
        case measure => omega
        case rel =>
          refine ⟨k + 1, q + nq, by omega, by omega, by go_num, Lib.hid (by rw [hwr.out, World.drewN_drewN]), Lib.hid fun i hi => ?_⟩
          by_cases e : i = k
          · subst e
            rw [← HP.out, ← HR.out]
            exact HEQ.out
          · exact hall.out i (by omega)
      · have hne : (((p.toNat : Int)) != (r.toNat : Int)) = true := by
          have : p.toNat ≠ r.toNat := fun e => he (UInt8.toNat_inj.1 e)
          simp
          omega
        have HRES := Lib.hid (HLT.out he)
        clear he
        go_wp2_with fail
        refine wp_region_quiet_lit (by kernel_rfl) (by kernel_rfl) ?_
        repeat (first | go_big_quiet_step (fail))
        refine wpQuiet_nil ?_
        rintro W ⟨nq, rfl⟩
        go_wp2_with fail
        refine wp_region_quiet_lit (by kernel_rfl) (by kernel_rfl) ?_
        repeat (first | go_big_quiet_step (fail))
        refine wpQuiet_nil ?_
        rintro W ⟨nq2, rfl⟩
        go_wp2
        go_ret
        refine ⟨by rw [HRES.out]; rfl, ?_⟩
        rw [hwr.out]
        exact be_drewN (be_drewN (be_drewN HB0.out _) _) _
    · obtain rfl : k = 32 := by omega
      have HE : Hid (decide (xs < ys) = false) := by
        show _ = _
        rw [list_same xs ys 32 HXL.out HYL.out hall.out]
        simp [List.lt_irrefl]
      go_wp2
      go_ret
      refine ⟨by rw [HE.out]; rfl, ?_⟩
      rw [hwr.out]
      exact be_drewN HB0.out _
end Go.Proofs.YtdjhkaofhdcalaaGreatDoor
namespace Go.Proofs.YtdjhkaofhdcalaaGreatDoor
open Go.RowKit

/-- The table of tens, where strconv looks. -/
def Tens (w : World) : Prop := Lib.TabIs Tryz.prog w "internal/strconv.uint64pow10" .u64 Lib.pow10Tab
theorem Tens.below {w w' : World} (h : Tens w) (hb : Below w.heap.size w w') : Tens w' := by
  unfold Tens Lib.TabIs World.var? at *
  cases hg : Tryz.prog.globalNamed "internal/strconv.uint64pow10" with
  | none => rw [hg] at h; cases h
  | some g =>
    rw [hg] at h
    simp only [Option.bind_some] at h ⊢
    have hlt : g < w.heap.size := by
      rcases Nat.lt_or_ge g w.heap.size with hl | hl
      · exact hl
      · rw [Array.getElem?_eq_none hl] at h
        cases h
    rw [hb.block g hlt]
    exact h
namespace Door
theorem g5 : Tryz.prog.globalNamed "internal/strconv.uint64pow10" = some 4 := by kernel_rfl
theorem ty5 : (Tryz.prog.globals[4]?).map (·.type) = some 163 := by kernel_rfl
theorem ce64 : Tryz.prog.cellsOf 71 = 1 := by kernel_rfl
theorem ca20 : Tryz.prog.cellsOf 163 = 20 := by kernel_rfl
set_option maxRecDepth 100000 in
theorem tens_ofH {W : World} (h : laidMetH Tryz.prog [("math/bits.deBruijn32tab", Rows.laid_math_bits_deBruijn32tab), ("math/bits.deBruijn64tab", Rows.laid_math_bits_deBruijn64tab), ("colporteur/sha.start", Rows.laid_colporteur_sha_start), ("colporteur/sha.roots", Rows.laid_colporteur_sha_roots), ("internal/strconv.uint64pow10", Rows.laid_internal_strconv_uint64pow10)] W) : Tens W := by
  have h' : laidMet Tryz.prog [("math/bits.deBruijn32tab", Rows.laid_math_bits_deBruijn32tab), ("math/bits.deBruijn64tab", Rows.laid_math_bits_deBruijn64tab), ("colporteur/sha.start", Rows.laid_colporteur_sha_start), ("colporteur/sha.roots", Rows.laid_colporteur_sha_roots), ("internal/strconv.uint64pow10", Rows.laid_internal_strconv_uint64pow10)] W := h
  exact Lib.tabIs_of_head (k := .u64) (zs := Lib.pow10Tab) g5 ty5 Tryz.underlying163 Tryz.underlying71 ce64 ca20 h'.tail.tail.tail.tail
end Door
theorem itoa_any (n : Nat) (w : World) (hT : Tens w) (hn : n < 1000000) : Calls Tryz.prog 41 #[.int .i64 (n : Int)] w fun e w' => e = .returned (.string ⟨(Lib.itoa (n : Nat)).toArray⟩) ∧ Below w.heap.size w w' := by
  refine (Tryz.strconv_Itoa (n : Int) (by omega) (by omega) w hT).mono ?_
  rintro e w' ⟨rfl, k, os, rfl⟩
  refine ⟨rfl, rfl, rfl, rfl, by simp [Sort.grow], fun i hi => ?_⟩
  show (w.heap ++ os)[i]? = _
  rw [Array.getElem?_append_left hi]
end Go.Proofs.YtdjhkaofhdcalaaGreatDoor
namespace Go.Proofs.YtdjhkaofhdcalaaGreatDoor
open Go.RowKit

theorem arg_eq (wd dec body : List UInt8) : (ByteArray.mk wd.toArray ++ ByteArray.mk dec.toArray ++ ByteArray.mk #[0] ++ ByteArray.mk body.toArray) = ByteArray.mk (wd ++ dec ++ [0] ++ body).toArray := by
  rw [show (ByteArray.mk #[0]) = ByteArray.mk [0].toArray from rfl, ba_append, ba_append, ba_append]
/-- What is hashed. -/
def named (kind : Int) (body : List UInt8) : List UInt8 := kwd kind ++ [32] ++ Lib.itoa (body.length : Nat) ++ [0] ++ body
theorem itoa_len (n : Nat) (h : n < 1000) : (Lib.itoa (n : Nat)).length ≤ 3 := by
  rw [itoa_small n h]
  split
  · simp
  · split <;> simp
theorem named_len (kind : Int) (body : List UInt8) (h : body.length < 1000) : (named kind body).length ≤ 2000 := by
  have h1 := kwd_len kind
  have h2 := itoa_len body.length h
  simp only [named, List.length_append, List.length_cons, List.length_nil]
  omega
set_option maxRecDepth 100000 in
set_option maxHeartbeats 2000000 in
theorem of_within (kind : Int) (kw dec body : List UInt8) (w : World) (hTab : Tabs w) (hw : ∀ W, Calls Tryz.prog 40 #[.int .i64 kind] W fun e w' => e = .returned (.string ⟨kw.toArray⟩) ∧ W = w')
    (hd : ∀ W, Below w.heap.size w W → Calls Tryz.prog 41 #[.int .i64 (body.length : Int)] W fun e w' => e = .returned (.string ⟨dec.toArray⟩) ∧ Below W.heap.size W w') (hlen : kw.length + dec.length + body.length < 2 ^ 40) :
    Calls Tryz.prog 7 #[.int .i64 kind, .string ⟨body.toArray⟩] w fun e w' => e = .returned (.agg ((ShaM.sha (kw ++ [32] ++ dec ++ [0] ++ body)).map Y).toArray) ∧ Below w.heap.size w w' := by
  have hl1 := hTab.lt1
  have hl2 := hTab.lt2
  have HTab := Lib.hid hTab
  have HW := Lib.hid hw
  have HD := Lib.hid hd
  obtain ⟨L, hL⟩ : ∃ L, L = kw ++ [32] ++ dec ++ [0] := ⟨_, rfl⟩
  have hpre : L.length < 2 ^ 41 := by rw [hL]; simp; omega
  have hpre2 : L.length + body.length < 2 ^ 42 := by omega
  have HL := Lib.hid hL
  clear hTab hw hd hL
  go_enter Tryz.func7, Tryz.ntmps7
  go_wp2_with fail
  refine (new_any _).mono ?_
  rintro e w1 ⟨rfl, hB1, hH1, hs1⟩
  have hs1' : w1.heap.size = w.heap.size + 2 := by rw [hs1]; simp
  have HB1 := Lib.hid (((Below.refl w.heap.size w).alloc (Nat.le_refl _) _).trans (hB1.mono (by simp)))
  have HH1 : Hid (HashAt w1 (w.heap.size + 1) 81 []) := by show HashAt _ _ _ _; simpa using hH1
  obtain ⟨z, hz, hZ⟩ : ∃ z : Array Value, z.size = 32 ∧ Whole w1 w.heap.size 23 z := ⟨_, rfl, (Whole.made w _ _).below hB1 (by simp)⟩
  have HZ := Lib.hid hz
  have HZ1 := Lib.hid hZ
  clear hB1 hH1 hs1 hz hZ
  go_wp2_with fail
  refine (HW.out _).mono ?_
  rintro e w2 ⟨rfl, rfl⟩
  go_wp2_with fail
  refine (HD.out _ HB1.out).mono ?_
  rintro e w3 ⟨rfl, hB3⟩
  have HB3 := Lib.hid hB3
  have hs3 := hB3.size
  clear hB3
  go_wp2_with (refine wpList_of_string rfl 9 39 5 (.tmp 15) rfl _ L rfl (by rw [HL.out, ← ba_append, ← ba_append, ← ba_append]) Tryz.underlying9 Tryz.underlying39 Tryz.underlying5 (by unfold maxLen; omega) ?_; intro w4 c hby hfz hB4 hs4; have HBY := Lib.hid hby; have HB4 := Lib.hid hB4; clear hby hfz hB4)
  have HB04 : Hid (Below w.heap.size w w4) := (HB1.out.trans (HB3.out.mono (by omega))).trans (HB4.out.mono (by omega))
  have HB14 : Hid (Below w1.heap.size w1 w4) := HB3.out.trans (HB4.out.mono (by omega))
  refine (put_any (w.heap.size + 1) 81 _ [] L w4 (HTab.out.below HB04.out hl1 hl2) (by omega) (by omega) (HH1.out.below HB14.out (by omega)) (by simp) HBY.out (fun _ h => by injection h with h; dsimp only at h; omega)).mono ?_
  rintro e w5 ⟨rfl, hG5, hH5⟩
  rw [List.nil_append] at hH5
  have HH5 := Lib.hid hH5
  have HB5 := Lib.hid (be_grown HB04.out hG5 HB04.out.size (fun j hj => by injection hj with hj; omega))
  have HZ5 := Lib.hid ((HZ1.out.below HB14.out (by omega)).grown hG5 (by simp))
  have hs5 := hG5.size
  clear hG5 hH5
  go_wp2_with (refine wpList_of_string rfl 9 39 5 (.tmp 19) rfl _ body rfl rfl Tryz.underlying9 Tryz.underlying39 Tryz.underlying5 (by unfold maxLen; omega) ?_; intro w6 c6 hby hfz hB6 hs6; have HBY6 := Lib.hid hby; have HB6 := Lib.hid hB6; clear hby hfz hB6)
  have HB06 : Hid (Below w.heap.size w w6) := HB5.out.trans (HB6.out.mono (by omega))
  refine (put_any (w.heap.size + 1) 81 _ L body w6 (HTab.out.below HB06.out hl1 hl2) (by omega) (by omega) (HH5.out.below HB6.out (by omega)) (by omega) HBY6.out (fun _ h => by injection h with h; dsimp only at h; omega)).mono ?_
  rintro e w7 ⟨rfl, hG7, hH7⟩
  have HH7 := Lib.hid hH7
  have HB7 := Lib.hid (be_grown HB06.out hG7 HB06.out.size (fun j hj => by injection hj with hj; omega))
  have HZ7 := Lib.hid ((HZ5.out.below HB6.out (by omega)).grown hG7 (by simp))
  have hs7 := hG7.size
  clear hG7 hH7
  go_wp2_with fail
  refine (hsum_any (w.heap.size + 1) _ _ w7 (HTab.out.below HB7.out hl1 hl2) HH7.out (by rw [List.length_append]; omega)).mono ?_
  rintro e w8 ⟨rfl, hB8⟩
  obtain ⟨oc, hoc⟩ : ∃ oc, oc = ((ShaM.sha (L ++ body)).map Y).toArray := ⟨_, rfl⟩
  rw [← hoc]
  have hos : oc.size = 32 := by rw [hoc, List.size_toArray, List.length_map]; rfl
  have HOI : Hid ((Tryz.prog.info? 23).map (·.size) = some oc.size) := by show _ = _; rw [hos]; kernel_rfl
  have HO1 : Hid (oc.all (·.oneCell') = true) := by show _ = _; rw [hoc]; exact ys_all _
  have HOS : Hid (z.size = oc.size) := by show _ = _; rw [hos, HZ.out]
  have HZ8 := Lib.hid (HZ7.out.below hB8 (by omega))
  have HB8 := Lib.hid (HB7.out.trans (hB8.mono (by omega)))
  have HOC := Lib.hid hoc
  clear hoc hos hB8
  go_wp2_with (refine wpList_store_whole rfl 23 _ _ rfl w.heap.size oc rfl rfl 23 z HZ8.out HOI.out HOS.out HO1.out ?_; intro w9 hW9 hG9; have HW9 := Lib.hid hW9; have HB9 := Lib.hid (be_grown HB8.out hG9 HB8.out.size (fun j hj => by injection hj with hj; omega)); clear hW9 hG9)
  refine bodyPost_ret (v := .agg oc) ?_ rfl ⟨by rw [HOC.out, HL.out], HB9.out⟩
  exact results_cell_row (p := 4) (ty := 23) rfl _ _ w.heap.size 23 oc (0, 0) _ rfl HW9.out Tryz.underlying23 rfl HOI.out
theorem oof_any (kind : Int) (body : List UInt8) (w : World) (hTab : Tabs w) (hT : Tens w) (hl : body.length ≤ 200) :
    Calls Tryz.prog 7 #[.int .i64 kind, .string ⟨body.toArray⟩] w fun e w' => e = .returned (.agg ((ShaM.sha (named kind body)).map Y).toArray) ∧ Below w.heap.size w w' := by
  have h1 := kwd_len kind
  have h2 := itoa_len body.length (by omega)
  exact of_within kind (kwd kind) (Lib.itoa (body.length : Nat)) body w hTab (fun W => oword_any kind W) (fun W hW => itoa_any body.length W (hT.below hW) (by omega)) (by omega)
set_option maxRecDepth 100000 in
set_option maxHeartbeats 4000000 in
theorem rid_any (kind : Int) (body : List UInt8) (w : World) (hl : body.length ≤ 200) :
    Calls Tryz.prog 12 #[.int .i64 kind, .string ⟨body.toArray⟩] w fun e w' => e = .returned (.agg ((ShaM.sha (named kind body)).map Y).toArray) ∧ Below w.heap.size w w' := by
  have HD := Lib.hid fun W => rdec_any body.length (by omega) W
  have hdl := itoa_len body.length (by omega)
  have HLE := Lib.hid (named_len kind body (by omega))
  have HW0 := Lib.hid (Whole.made w 23 ((List.replicate 32 (0 : UInt8)).map Y).toArray)
  have hB0 := (Below.refl w.heap.size w).alloc (Nat.le_refl _) (.cells ((List.replicate 32 (0 : UInt8)).map Y).toArray 23)
  unfold named at *
  generalize Lib.itoa (body.length : Nat) = dec at *
  by_cases h1 : kind = 1
  · have k1 : (kind == 1) = true := by simp [h1]
    have hk : kwd kind ++ [32] = [98, 108, 111, 98, 32] := by simp [kwd, h1]
    rw [hk] at HLE ⊢
    have HARG := Lib.hid (arg_eq [98, 108, 111, 98, 32] dec body)
    clear h1 hk
    go_enter Tryz.func12, Tryz.ntmps12
    go_wp2_with fail
    refine (HD.out _).mono ?_
    rintro e w1 ⟨rfl, hB⟩
    have HB1 := Lib.hid (hB0.trans (hB.mono (by simp)))
    have HW1 := Lib.hid (HW0.out.below hB HW0.out.lt)
    clear hB hB0
    go_wp2_with fail
    rw [HARG.out]
    refine (rsum_any _ w1 (by have := HLE.out; omega)).mono ?_
    rintro e w2 ⟨rfl, hB⟩
    have HB2 := Lib.hid (HB1.out.trans (hB.mono HB1.out.size))
    have HW2 := Lib.hid (HW1.out.below hB HW1.out.lt)
    clear hB
    obtain ⟨oc, hoc⟩ : ∃ oc, oc = ((ShaM.sha ([98, 108, 111, 98, 32] ++ dec ++ [0] ++ body)).map Y).toArray := ⟨_, rfl⟩
    rw [← hoc]
    have hos : oc.size = 32 := by rw [hoc, List.size_toArray, List.length_map]; exact ShaM.sha_len _
    have HOI : Hid ((Tryz.prog.info? 23).map (·.size) = some oc.size) := by show _ = _; rw [hos]; kernel_rfl
    have HO1 : Hid (oc.all (·.oneCell') = true) := by show _ = _; rw [hoc]; exact ys_all _
    have HOS : Hid ((((List.replicate 32 (0 : UInt8)).map Y).toArray).size = oc.size) := by show _ = _; rw [hos]; simp
    have HOC := Lib.hid hoc
    clear hoc hos
    go_wp2_with (refine wpList_store_whole rfl 23 _ _ rfl w.heap.size oc rfl rfl 23 _ HW2.out HOI.out HOS.out HO1.out ?_; intro w9 hW9 hG9; have HW9 := Lib.hid hW9; have HB9 := Lib.hid (be_grown HB2.out hG9 HB2.out.size (fun j hj => by injection hj with hj; omega)); clear hW9 hG9)
    refine bodyPost_ret (v := .agg oc) ?_ rfl ⟨by rw [HOC.out]; rfl, HB9.out⟩
    exact results_cell_row (p := 4) (ty := 23) rfl _ _ w.heap.size 23 oc (0, 0) _ rfl HW9.out Tryz.underlying23 rfl HOI.out
  · skip
    by_cases h2 : kind = 2
    · have k1 : (kind == 1) = false := by simp [h1]
      have k2 : (kind == 2) = true := by simp [h2]
      have hk : kwd kind ++ [32] = [116, 114, 101, 101, 32] := by simp [kwd, h2]
      rw [hk] at HLE ⊢
      have HARG := Lib.hid (arg_eq [116, 114, 101, 101, 32] dec body)
      clear h1 h2 hk
      go_enter Tryz.func12, Tryz.ntmps12
      go_wp2_with fail
      refine (HD.out _).mono ?_
      rintro e w1 ⟨rfl, hB⟩
      have HB1 := Lib.hid (hB0.trans (hB.mono (by simp)))
      have HW1 := Lib.hid (HW0.out.below hB HW0.out.lt)
      clear hB hB0
      go_wp2_with fail
      rw [HARG.out]
      refine (rsum_any _ w1 (by have := HLE.out; omega)).mono ?_
      rintro e w2 ⟨rfl, hB⟩
      have HB2 := Lib.hid (HB1.out.trans (hB.mono HB1.out.size))
      have HW2 := Lib.hid (HW1.out.below hB HW1.out.lt)
      clear hB
      obtain ⟨oc, hoc⟩ : ∃ oc, oc = ((ShaM.sha ([116, 114, 101, 101, 32] ++ dec ++ [0] ++ body)).map Y).toArray := ⟨_, rfl⟩
      rw [← hoc]
      have hos : oc.size = 32 := by rw [hoc, List.size_toArray, List.length_map]; exact ShaM.sha_len _
      have HOI : Hid ((Tryz.prog.info? 23).map (·.size) = some oc.size) := by show _ = _; rw [hos]; kernel_rfl
      have HO1 : Hid (oc.all (·.oneCell') = true) := by show _ = _; rw [hoc]; exact ys_all _
      have HOS : Hid ((((List.replicate 32 (0 : UInt8)).map Y).toArray).size = oc.size) := by show _ = _; rw [hos]; simp
      have HOC := Lib.hid hoc
      clear hoc hos
      go_wp2_with (refine wpList_store_whole rfl 23 _ _ rfl w.heap.size oc rfl rfl 23 _ HW2.out HOI.out HOS.out HO1.out ?_; intro w9 hW9 hG9; have HW9 := Lib.hid hW9; have HB9 := Lib.hid (be_grown HB2.out hG9 HB2.out.size (fun j hj => by injection hj with hj; omega)); clear hW9 hG9)
      refine bodyPost_ret (v := .agg oc) ?_ rfl ⟨by rw [HOC.out]; rfl, HB9.out⟩
      exact results_cell_row (p := 4) (ty := 23) rfl _ _ w.heap.size 23 oc (0, 0) _ rfl HW9.out Tryz.underlying23 rfl HOI.out
    · skip
      by_cases h3 : kind = 3
      · have k1 : (kind == 1) = false := by simp [h1]
        have k2 : (kind == 2) = false := by simp [h2]
        have k3 : (kind == 3) = true := by simp [h3]
        have hk : kwd kind ++ [32] = [99, 111, 109, 109, 105, 116, 32] := by simp [kwd, h3]
        rw [hk] at HLE ⊢
        have HARG := Lib.hid (arg_eq [99, 111, 109, 109, 105, 116, 32] dec body)
        clear h1 h2 h3 hk
        go_enter Tryz.func12, Tryz.ntmps12
        go_wp2_with fail
        refine (HD.out _).mono ?_
        rintro e w1 ⟨rfl, hB⟩
        have HB1 := Lib.hid (hB0.trans (hB.mono (by simp)))
        have HW1 := Lib.hid (HW0.out.below hB HW0.out.lt)
        clear hB hB0
        go_wp2_with fail
        rw [HARG.out]
        refine (rsum_any _ w1 (by have := HLE.out; omega)).mono ?_
        rintro e w2 ⟨rfl, hB⟩
        have HB2 := Lib.hid (HB1.out.trans (hB.mono HB1.out.size))
        have HW2 := Lib.hid (HW1.out.below hB HW1.out.lt)
        clear hB
        obtain ⟨oc, hoc⟩ : ∃ oc, oc = ((ShaM.sha ([99, 111, 109, 109, 105, 116, 32] ++ dec ++ [0] ++ body)).map Y).toArray := ⟨_, rfl⟩
        rw [← hoc]
        have hos : oc.size = 32 := by rw [hoc, List.size_toArray, List.length_map]; exact ShaM.sha_len _
        have HOI : Hid ((Tryz.prog.info? 23).map (·.size) = some oc.size) := by show _ = _; rw [hos]; kernel_rfl
        have HO1 : Hid (oc.all (·.oneCell') = true) := by show _ = _; rw [hoc]; exact ys_all _
        have HOS : Hid ((((List.replicate 32 (0 : UInt8)).map Y).toArray).size = oc.size) := by show _ = _; rw [hos]; simp
        have HOC := Lib.hid hoc
        clear hoc hos
        go_wp2_with (refine wpList_store_whole rfl 23 _ _ rfl w.heap.size oc rfl rfl 23 _ HW2.out HOI.out HOS.out HO1.out ?_; intro w9 hW9 hG9; have HW9 := Lib.hid hW9; have HB9 := Lib.hid (be_grown HB2.out hG9 HB2.out.size (fun j hj => by injection hj with hj; omega)); clear hW9 hG9)
        refine bodyPost_ret (v := .agg oc) ?_ rfl ⟨by rw [HOC.out]; rfl, HB9.out⟩
        exact results_cell_row (p := 4) (ty := 23) rfl _ _ w.heap.size 23 oc (0, 0) _ rfl HW9.out Tryz.underlying23 rfl HOI.out
      · skip
        have k1 : (kind == 1) = false := by simp [h1]
        have k2 : (kind == 2) = false := by simp [h2]
        have k3 : (kind == 3) = false := by simp [h3]
        have hk : kwd kind ++ [32] = [63, 32] := by simp [kwd, h1, h2, h3]
        rw [hk] at HLE ⊢
        have HARG := Lib.hid (arg_eq [63, 32] dec body)
        clear h1 h2 h3 hk
        go_enter Tryz.func12, Tryz.ntmps12
        go_wp2_with fail
        refine (HD.out _).mono ?_
        rintro e w1 ⟨rfl, hB⟩
        have HB1 := Lib.hid (hB0.trans (hB.mono (by simp)))
        have HW1 := Lib.hid (HW0.out.below hB HW0.out.lt)
        clear hB hB0
        go_wp2_with fail
        rw [HARG.out]
        refine (rsum_any _ w1 (by have := HLE.out; omega)).mono ?_
        rintro e w2 ⟨rfl, hB⟩
        have HB2 := Lib.hid (HB1.out.trans (hB.mono HB1.out.size))
        have HW2 := Lib.hid (HW1.out.below hB HW1.out.lt)
        clear hB
        obtain ⟨oc, hoc⟩ : ∃ oc, oc = ((ShaM.sha ([63, 32] ++ dec ++ [0] ++ body)).map Y).toArray := ⟨_, rfl⟩
        rw [← hoc]
        have hos : oc.size = 32 := by rw [hoc, List.size_toArray, List.length_map]; exact ShaM.sha_len _
        have HOI : Hid ((Tryz.prog.info? 23).map (·.size) = some oc.size) := by show _ = _; rw [hos]; kernel_rfl
        have HO1 : Hid (oc.all (·.oneCell') = true) := by show _ = _; rw [hoc]; exact ys_all _
        have HOS : Hid ((((List.replicate 32 (0 : UInt8)).map Y).toArray).size = oc.size) := by show _ = _; rw [hos]; simp
        have HOC := Lib.hid hoc
        clear hoc hos
        go_wp2_with (refine wpList_store_whole rfl 23 _ _ rfl w.heap.size oc rfl rfl 23 _ HW2.out HOI.out HOS.out HO1.out ?_; intro w9 hW9 hG9; have HW9 := Lib.hid hW9; have HB9 := Lib.hid (be_grown HB2.out hG9 HB2.out.size (fun j hj => by injection hj with hj; omega)); clear hW9 hG9)
        refine bodyPost_ret (v := .agg oc) ?_ rfl ⟨by rw [HOC.out]; rfl, HB9.out⟩
        exact results_cell_row (p := 4) (ty := 23) rfl _ _ w.heap.size 23 oc (0, 0) _ rfl HW9.out Tryz.underlying23 rfl HOI.out
set_option maxRecDepth 100000 in
theorem rgetid_len (s : List UInt8) (w : World) (hl : s.length ≠ 64) : Calls Tryz.prog 10 #[.string ⟨s.toArray⟩] w fun e w' => e = .returned (.tuple #[.agg ((List.replicate 32 0).map Y).toArray, .bool false]) ∧ Below w.heap.size w w' := by
  have hb : ((s.length : Int) != 64) = true := by simp; omega
  clear hl
  go_enter Tryz.func10, Tryz.ntmps10
  go_wp2_with (refine wpList_store_whole rfl 23 _ _ rfl w.heap.size _ rfl rfl 23 _ (((Whole.made w _ _).past _)) (by kernel_rfl) (by kernel_rfl) (by kernel_rfl) ?_; intro w3 hW3 hG3; have HW3 := Lib.hid hW3; have HB3 := Lib.hid (be_grown (((Below.refl w.heap.size w).alloc (Nat.le_refl _) _).alloc (by simp) _) hG3 (by simp; omega) (fun j hj => by injection hj with hj; omega)); clear hW3 hG3)
  exact oget_endG Tryz.results10 false _ w _ _ (by kernel_rfl) rfl rfl rfl HW3.out HB3.out
end Go.Proofs.YtdjhkaofhdcalaaGreatDoor
namespace Go.Proofs.YtdjhkaofhdcalaaGreatDoor
open Go.RowKit

theorem getId_len' (p : List UInt8) : (getId p).1.length = 32 := by
  unfold getId
  split
  · exact idl_len p 64
  · exact List.length_replicate
theorem getId_off (p : List UInt8) (h : p.length ≠ 64) : getId p = (List.replicate 32 0, false) := by
  unfold getId
  rw [if_neg]
  intro hg
  unfold good at hg
  simp only [Bool.and_eq_true, beq_iff_eq] at hg
  exact h hg.1
theorem hx_val (d : Nat) (h : d < 16) : 0 ≤ hval (hx d) := by
  have : ∀ d, d < 16 → 0 ≤ hval (hx d) := by decide +kernel
  exact this d h
theorem hexOf_digits : ∀ (l : List UInt8), ∀ c ∈ hexOf l, 0 ≤ hval c
  | [], c, h => by cases h
  | b :: l, c, h => by
    have hb := b.toNat_lt
    simp only [hexOf, List.mem_cons] at h
    rcases h with rfl | rfl | h
    · exact hx_val _ (by omega)
    · exact hx_val _ (by omega)
    · exact hexOf_digits l c h
theorem getId_hex (a : List UInt8) (h : a.length = 32) : getId (hexOf a) = (a, true) := by
  have hg : good (hexOf a) = true := by
    unfold good
    simp only [Bool.and_eq_true, beq_iff_eq, List.all_eq_true, decide_eq_true_eq]
    exact ⟨by rw [hexOf_len, h], hexOf_digits a⟩
  unfold getId
  rw [if_pos hg, (id_is _ a hg).2 rfl]
/-- The name told, as such. -/
def getN (s : List UInt8) : Nm := ⟨(getId s).1, getId_len' s⟩
def nameN (kind : Int) (body : List UInt8) : Nm := ⟨ShaM.sha (named kind body), ShaM.sha_len _⟩
theorem getN_hex (a : Nm) : getN (hexOf a.l) = a := Nm.same (by show (getId _).1 = _; rw [getId_hex a.l a.h])
theorem oget_u (s : List UInt8) (w : World) : Calls Tryz.prog 8 #[.string ⟨s.toArray⟩] w fun e w' => e = .returned (.tuple #[.agg (encN (getN s)).toArray, .bool (getId s).2]) ∧ Below w.heap.size w w' := by
  by_cases h : s.length = 64
  · exact oget_64 s w h
  · have := oget_len s w h
    have e : encN (getN s) = (List.replicate 32 (0 : UInt8)).map Y := by
      show (getId s).1.map Y = _
      rw [getId_off s h]
    rw [e, show (getId s).2 = false by rw [getId_off s h]]
    exact this
theorem rget_u (s : List UInt8) (w : World) : Calls Tryz.prog 10 #[.string ⟨s.toArray⟩] w fun e w' => e = .returned (.tuple #[.agg (encN (getN s)).toArray, .bool (getId s).2]) ∧ Below w.heap.size w w' := by
  by_cases h : s.length = 64
  · exact rgetid_64 s w h
  · have := rgetid_len s w h
    have e : encN (getN s) = (List.replicate 32 (0 : UInt8)).map Y := by
      show (getId s).1.map Y = _
      rw [getId_off s h]
    rw [e, show (getId s).2 = false by rw [getId_off s h]]
    exact this
theorem oget_hex (a : Nm) (w : World) : Calls Tryz.prog 8 #[.string ⟨(hexOf a.l).toArray⟩] w fun e w' => e = .returned (.tuple #[.agg (encN a).toArray, .bool true]) ∧ Below w.heap.size w w' := by
  have := oget_u (hexOf a.l) w
  rw [getN_hex, getId_hex a.l a.h] at this
  exact this
theorem oof_nm (kind : Int) (body : List UInt8) (w : World) (hTab : Tabs w) (hT : Tens w) (hl : body.length ≤ 200) :
    Calls Tryz.prog 7 #[.int .i64 kind, .string ⟨body.toArray⟩] w fun e w' => e = .returned (.agg (encN (nameN kind body)).toArray) ∧ Below w.heap.size w w' := oof_any kind body w hTab hT hl
theorem rid_nm (kind : Int) (body : List UInt8) (w : World) (hl : body.length ≤ 200) :
    Calls Tryz.prog 12 #[.int .i64 kind, .string ⟨body.toArray⟩] w fun e w' => e = .returned (.agg (encN (nameN kind body)).toArray) ∧ Below w.heap.size w w' := rid_any kind body w hl
theorem hex_nm (a : Nm) (w : World) : Calls Tryz.prog 9 #[.agg (encN a).toArray] w fun e w' => e = .returned (.string ⟨(hexOf a.l).toArray⟩) ∧ Below w.heap.size w w' := hex_any a.l w a.h
end Go.Proofs.YtdjhkaofhdcalaaGreatDoor
namespace Go.Proofs.YtdjhkaofhdcalaaGreatDoor
section
variable {P : Program} {ops : Array Oper} {md : Region.Mode} {C : World → Prop}
/-- Each operation of the head, but the last, has one of the head behind it that waits for it. -/
def sinkG (md : Region.Mode) (ops : Array Oper) (m n : Nat) : Bool :=
  (List.range (n - 1)).all fun i => decide (i < m) || (List.range n).any fun j => decide (i < j) && Region.waitsFor md ops j i
/-- Each operation behind the head waits for the head's last, or for another behind it. -/
def tailG (md : Region.Mode) (ops : Array Oper) (n : Nat) : Bool :=
  (List.range ops.size).all fun t => decide (t < n) || (List.range t).any fun j => decide (n - 1 ≤ j) && Region.waitsFor md ops t j
theorem last_not {m n : Nat} {up : Array Bool} (hs : sinkG md ops m n = true) (inv : HeadInv md ops n up) (d : Nat) :
    ∀ i, n - i = d → m ≤ i → i < n → up.getD i true = false → up.getD (n - 1) true = false := by
  induction d using Nat.strongRecOn with
  | ind d ih =>
    intro i hd hm hi hun
    rcases Nat.lt_or_ge i (n - 1) with hlt | hge
    · have h1 := List.all_eq_true.1 hs i (List.mem_range.2 hlt)
      simp only [Bool.or_eq_true, decide_eq_true_eq, List.any_eq_true, Bool.and_eq_true, List.mem_range] at h1
      obtain ⟨j, hj, hij, hw⟩ := h1.resolve_left (by omega)
      obtain ⟨oj, hoj, e, he, hb, hon⟩ := Region.waitsFor_spec hw
      cases hl : up.getD j false with
      | true =>
        have h2 := inv.closed j oj hoj hl e he hb
        rw [hon, getD_both hun] at h2
        cases h2
      | false =>
        have hop : j < ops.size := (Array.getElem?_eq_some_iff.1 hoj).1
        exact ih (n - j) (by omega) j rfl (by omega) hj (getD_in (by rw [inv.size]; exact hop) hl)
    · obtain rfl : i = n - 1 := by omega
      exact hun
theorem tail_waitsG {m n : Nat} {up : Array Bool} (hs : sinkG md ops m n = true) (hc : tailG md ops n = true) (inv : HeadInv md ops n up) (i : Nat) (hm : m ≤ i) (hi : i < n) (hun : up.getD i true = false) : ∀ t, n ≤ t → t ∉ Region.ready md ops up := by
  have hlast := last_not hs inv (n - i) i rfl hm hi hun
  intro t ht hr
  obtain ⟨-, ot, hot, hall⟩ := mem_ready.1 hr
  have hts : t < ops.size := (Array.getElem?_eq_some_iff.1 hot).1
  have h1 := List.all_eq_true.1 hc t (List.mem_range.2 hts)
  simp only [Bool.or_eq_true, decide_eq_true_eq, List.any_eq_true, Bool.and_eq_true, List.mem_range] at h1
  obtain ⟨j, hj, hij, hw⟩ := h1.resolve_left (by omega)
  obtain ⟨o', ho', e, he, hb, hon⟩ := Region.waitsFor_spec hw
  obtain rfl : o' = ot := Option.some.inj (ho'.symm.trans hot)
  have h2 := hall e he hb
  rw [hon] at h2
  rcases Nat.lt_or_ge j n with hjn | hjn
  · obtain rfl : j = n - 1 := by omega
    rw [getD_both hlast] at h2
    cases h2
  · rw [getD_both (inv.tail j hjn (by omega))] at h2
    cases h2
theorem head_belowG {m n i j : Nat} {up : Array Bool} (hs : sinkG md ops m n = true) (hc : tailG md ops n = true) (him : m ≤ i) (hin : i < n) (inv : HeadInv md ops n up)
    (hi : i ∈ Region.ready md ops up) (hj : j ∈ Region.ready md ops up) : j < n := by
  rcases Nat.lt_or_ge j n with h | h
  · exact h
  · exact absurd hj (tail_waitsG hs hc inv i him hin (mem_ready.1 hi).1 j h)
theorem head_firstG {m n i : Nat} {oi : Oper} {v : Value} {L : Array Bool → Act → Prop} (hi : ops[i]? = some oi) (hsel : ∀ (j : Nat) (o : Oper) cs b, ops[j]? = some o → o.op ≠ .select cs b)
    (hs : sinkG md ops m n = true) (hc : tailG md ops n = true) (him : m ≤ i) (hin : i < n) (hdone : ∀ up a, L up a → ∀ j, j ∈ Region.ready md ops up → n ≤ j) (f : Nat) :
    ∀ up a, HeadInv md ops n up → (∀ j oj, ops[j]? = some oj → j ≠ i → up.getD j true = false → (∀ e ∈ oj.after, Region.binds md e = true → e.on ≠ i) → oi.apart ops oj = true) →
      i ∈ Region.ready md ops up → YieldsIn P ops C oi v a → AnyHead P md ops C n L f (up.setIfInBounds i true) (a.put oi.dst v) → AnyHead P md ops C n L (f + 1) up a := by
  induction f with
  | zero =>
    intro up a inv _ hr hy H
    refine ⟨List.ne_nil_of_mem hr, fun j hj => ⟨head_belowG hs hc him hin inv hr hj, ?_⟩⟩
    rcases Nat.decEq j i with hji | rfl
    · have h1 := hdone _ _ H j (ready_mono hj hji)
      have h2 := head_belowG hs hc him hin inv hr hj
      omega
    · exact hy.qOp hi H
  | succ f ih =>
    intro up a inv hfree hr hy H
    refine ⟨List.ne_nil_of_mem hr, fun j hj => ⟨head_belowG hs hc him hin inv hr hj, ?_⟩⟩
    rcases Nat.decEq j i with hji | rfl
    · obtain ⟨hjun, oj, hoj, hall⟩ := mem_ready.1 hj
      have hun := (mem_ready.1 hr).1
      have hnot : ∀ e ∈ oj.after, Region.binds md e = true → e.on ≠ i := by
        rintro e he hb rfl
        have := hall e he hb
        rw [getD_both hun] at this
        cases this
      have h1 := qOp_put hoj (hfree j oj hoj hji hjun hnot) (fun cs b => hsel i oi cs b hi) (fun cs b => hsel j oj cs b hoj) hy (H.2 j (ready_mono hj hji)).2
      refine qOp_mono (fun a' h2 => ih (up.setIfInBounds j true) a' (inv.set hj (head_belowG hs hc him hin inv hr hj)) ?_ (ready_mono hr (Ne.symm hji)) h2.1 (by rw [Array.setIfInBounds_comm _ _ hji]; exact h2.2)) h1
      intro k ok hk hki hku hno
      refine hfree k ok hk hki ?_ hno
      rcases Nat.decEq j k with hjk | rfl
      · rwa [getD_set_ne true hjk] at hku
      · exact hjun
    · exact hy.qOp hi H
/-- The operations from k on, one after the other, as the text has them: each may come up and is apart from what may come up beside it; U is what is listed behind them. -/
def lexG (md : Region.Mode) (ops : Array Oper) : Nat → Nat → Array Bool → Array Bool → Bool
  | 0, _, up, U => up == U
  | f + 1, k, up, U => (Region.ready md ops up).contains k && Region.free md ops up k && lexG md ops f (k + 1) (up.setIfInBounds k true) U
theorem head_lexG {m n : Nat} {U : Array Bool} {T : Act → Prop} (hsel : Region.noSelect ops = true) (hs : sinkG md ops m n = true) (hc : tailG md ops n = true) (hU : (Region.ready md ops U).all (fun j => decide (n ≤ j)) = true) (l : List Oper) :
    ∀ k up a, m ≤ k → (∀ j, j < l.length → l[j]? = ops[k + j]?) → k + l.length = n → HeadInv md ops n up → lexG md ops l.length k up U = true → wpQuiet P ops C T l a →
      AnyHead P md ops C n (fun up' a' => up' = U ∧ T a') l.length up a := by
  induction l with
  | nil =>
    intro k up a _ _ hk _ hB h
    exact ⟨by simpa [lexG] using hB, h⟩
  | cons o l ih =>
    intro k up a hmk hl hk inv hB h
    have h0 : ops[k]? = some o := (hl 0 (Nat.zero_lt_succ _)).symm
    simp only [List.length_cons] at hk
    simp only [List.length_cons, lexG, Bool.and_eq_true] at hB
    have hkn : k < n := by omega
    have hr : k ∈ Region.ready md ops up := by simpa using hB.1.1
    have hq : qOp P ops C k (wpQuiet P ops C T l) a := by
      unfold qOp
      rw [h0]
      exact h
    obtain ⟨v, hy, hK⟩ := yieldsIn_of_qOp h0 hq
    refine head_firstG h0 (Region.noSelect_spec hsel) hs hc hmk hkn (fun up' a' hL j hj => ?_) l.length up a inv (Region.free_spec h0 hB.1.2) hr hy ?_
    · rw [hL.1] at hj
      simpa using List.all_eq_true.1 hU j hj
    refine ih (k + 1) _ _ (by omega) (fun j hj => ?_) (by omega) (inv.set hr hkn) hB.2 hK
    have := hl (j + 1) (Nat.succ_lt_succ hj)
    rw [List.getElem?_cons_succ] at this
    rw [this, Nat.add_assoc, Nat.add_comm 1 j]
def headG (md : Region.Mode) (ops : Array Oper) (m n : Nat) (up U : Array Bool) : Bool :=
  Region.noSelect ops && decide (m ≤ n) && decide (n ≤ ops.size) && sinkG md ops m n && tailG md ops n && (Region.ready md ops U).all (fun j => decide (n ≤ j)) && lexG md ops (n - m) m up U
theorem any_headG {m n : Nat} {Q : Exit → Act → World → Prop} {a : Act} {w : World} {l : List Oper} {up U : Array Bool} (hB : headG .any l.toArray m n up U = true) (inv : HeadInv .any l.toArray n up)
    (hC : C w) (h : wpQuiet P l.toArray C (fun a' => ∀ w', C w' → wpAny P .any l.toArray Q (l.length - n) U a' w') ((l.take n).drop m) a) : wpAny P .any l.toArray Q (l.length - m) up a w := by
  simp only [headG, Bool.and_eq_true, decide_eq_true_eq] at hB
  obtain ⟨⟨⟨⟨⟨⟨hsel, hmn⟩, hn⟩, hs⟩, hc⟩, hU⟩, hlex⟩ := hB
  have hn' : n ≤ l.length := by simpa using hn
  have htl : ((l.take n).drop m).length = n - m := by rw [List.length_drop, List.length_take]; omega
  have H := head_lexG (md := .any) hsel hs hc hU ((l.take n).drop m) m up a (Nat.le_refl _) (by
    intro j hj
    rw [htl] at hj
    rw [List.getElem?_drop, List.getElem?_take_of_lt (by omega), List.getElem?_toArray]) (by omega) inv (by rw [htl]; exact hlex) h
  have key := any_of_head (Q := Q) (g := l.length - n) (by
    intro up a' w' hw' hL
    rw [hL.1]
    exact hL.2 w' hw') _ _ _ _ hC H
  rw [htl, show n - m + (l.length - n) = l.length - m by omega] at key
  exact key
theorem wp_region_headG {id : Nat} {Q : Exit → Act → World → Prop} {a : Act} {w : World} {l : List Oper} (n : Nat) (U : Array Bool) (hm : P.follows .mixedOrders = true) (hB : headG .any l.toArray 0 n (Array.replicate l.toArray.size false) U = true)
    (hC : C { w with drawn := w.drawn + 1 }) (h : wpQuiet P l.toArray C (fun a' => ∀ w', C w' → wpAny P .any l.toArray Q (l.length - n) U a' w') (l.take n) a) : (Code.region id l.toArray true).wp P Q a w :=
  wp_region_any hm (by
    have := any_headG (C := C) (Q := Q) hB inv_none hC (by simpa using h)
    simpa using this)
/-- What is listed: closed, of the head alone. -/
def headInvB (md : Region.Mode) (ops : Array Oper) (n : Nat) (up : Array Bool) : Bool :=
  up.size == ops.size && ((List.range ops.size).all fun j => !(up.getD j false) || ((ops[j]?).any fun o => o.after.all fun e => !(Region.binds md e) || up.getD e.on false)) && ((List.range ops.size).all fun t => decide (t < n) || !(up.getD t true))
theorem headInv_of {n : Nat} {up : Array Bool} (h : headInvB md ops n up = true) : HeadInv md ops n up := by
  simp only [headInvB, Bool.and_eq_true, beq_iff_eq] at h
  obtain ⟨⟨h1, h2⟩, h3⟩ := h
  refine ⟨h1, fun j oj hoj hl e he hb => ?_, fun t ht hts => ?_⟩
  · have hj := (Array.getElem?_eq_some_iff.1 hoj).1
    have h4 := List.all_eq_true.1 h2 j (List.mem_range.2 hj)
    rw [hl, hoj] at h4
    have h5 : (oj.after.all fun e => !(Region.binds md e) || up.getD e.on false) = true := h4
    have h6 := (Array.all_eq_true'.1 h5) e he
    rw [hb] at h6
    exact h6
  · have h4 := List.all_eq_true.1 h3 t (List.mem_range.2 hts)
    simp only [Bool.or_eq_true, decide_eq_true_eq, Bool.not_eq_true'] at h4
    exact h4.resolve_left (by omega)
end
end Go.Proofs.YtdjhkaofhdcalaaGreatDoor

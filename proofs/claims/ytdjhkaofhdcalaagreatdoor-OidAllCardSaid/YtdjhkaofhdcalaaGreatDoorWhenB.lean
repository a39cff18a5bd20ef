/-
  when.isDigits, isWhole, cutUnit, Size, walked.
-/
import Derived.Test.YtdjhkaofhdcalaaGreatDoorLinE
import Derived.Test.YtdjhkaofhdcalaaGreatDoorHex
namespace Go.Proofs.YtdjhkaofhdcalaaGreatDoor
open Go.RowKit

def isDig (c : UInt8) : Bool := 48 ≤ c.toNat && c.toNat ≤ 57
def digs (l : List UInt8) (most : Nat) : Bool := !l.isEmpty && decide (l.length ≤ most) && l.all isDig
set_option maxHeartbeats 1000000 in
theorem digs_any (l : List UInt8) (most : Nat) (w : World) (hmost : most < 1099511627776) : Calls Tryz.prog 61 #[.string ⟨l.toArray⟩, .int .i64 (most : Int)] w fun e w' => e = .returned (.bool (digs l most)) ∧ w = w' := by
  by_cases h0 : l = []
  · subst h0
    go_enter Tryz.func61, Tryz.ntmps61
    go_wp2
    go_ret
    exact ⟨rfl, rfl⟩
  · have hb0 : ((l.length : Int) == 0) = false := beq_eq_false_iff_ne.2 (by cases l with | nil => exact absurd rfl h0 | cons a r => simp; omega)
    have he : l.isEmpty = false := by cases l with | nil => exact absurd rfl h0 | cons => rfl
    by_cases hm : l.length ≤ most
    · have hd : decide (most < l.length) = false := by simp; omega
      have HD : Hid (digs l most = l.all isDig) := by show _ = _; simp [digs, he, hm]
      clear h0 he
      go_enter Tryz.func61, Tryz.ntmps61
      go_wp2
      go_loopw [17] (fun i wr => ∃ k : Nat, k ≤ l.length ∧ i = .int .i64 (k : Int) ∧ wr = w ∧ l.all isDig = (l.drop k).all isDig) (fun i _ => l.length - (intOf i).toNat)
      case atStart => exact ⟨0, by omega, rfl, rfl, rfl⟩
      case round =>
        obtain ⟨k, hk, rfl, rfl, hall⟩ := hrel
        have HA := Lib.hid hall
        clear hall
        by_cases hlt : k < l.length
        · have hidx := str_at l k hlt
          have hdrop : (l.drop k).all isDig = (isDig (l.getD k 0) && (l.drop (k + 1)).all isDig) := by
            rw [List.drop_eq_getElem_cons hlt, List.all_cons]
            simp [List.getElem?_eq_getElem hlt]
          have HDR := Lib.hid hdrop
          clear hdrop
          generalize l.getD k 0 = c at *
          have HC : Hid (isDig c = (decide (48 ≤ c.toNat) && decide (c.toNat ≤ 57))) := rfl
          by_cases hg : 48 ≤ c.toNat ∧ c.toNat ≤ 57
          · have h1 : decide ((c.toNat : Int) < 48) = false := by simp; omega
            have h2 : decide (57 < (c.toNat : Int)) = false := by simp; omega
            have HR : Hid (l.all isDig = (l.drop (k + 1)).all isDig) := by show _ = _; rw [HA.out, HDR.out, HC.out]; simp [hg.1, hg.2]
            clear hg
            go_wp2
            go_roundw
            case rel => exact ⟨k + 1, by omega, by go_num, trivial, HR.out⟩
            case measure => simp [intOf]; omega
          · have HR : Hid (l.all isDig = false) := by show _ = _; rw [HA.out, HDR.out, HC.out]; simp; omega
            by_cases h1 : c.toNat < 48
            · have h1 : decide ((c.toNat : Int) < 48) = true := by simp; omega
              clear hg
              go_wp2
              go_ret
              exact ⟨by rw [HD.out, HR.out]; rfl, rfl⟩
            · have h2 : decide ((c.toNat : Int) < 48) = false := by simp; omega
              have h2 : decide (57 < (c.toNat : Int)) = true := by simp; omega
              clear hg h1
              go_wp2
              go_ret
              exact ⟨by rw [HD.out, HR.out]; rfl, rfl⟩
        · have HR : Hid (l.all isDig = true) := by show _ = _; rw [HA.out, List.drop_eq_nil_of_le (by omega)]; rfl
          go_wp2
          go_ret
          exact ⟨by rw [HD.out, HR.out]; rfl, rfl⟩
    · have hd : decide (most < l.length) = true := by simp; omega
      have HD : Hid (digs l most = false) := by show _ = _; simp [digs, hm]
      clear h0 he hm
      go_enter Tryz.func61, Tryz.ntmps61
      go_wp2
      go_ret
      exact ⟨by rw [HD.out]; rfl, rfl⟩

def whole (l : List UInt8) : Bool := digs l 6 && (l == [48] || l.getD 0 0 != 48)
theorem byte_ne (c : UInt8) : ((c.toNat : Int) != 48) = (c != 48) := by
  rw [Bool.eq_iff_iff]
  simp only [bne_iff_ne, ne_eq, ← UInt8.toNat_inj]
  have : (48 : UInt8).toNat = 48 := rfl
  omega
theorem whole_any (l : List UInt8) (w : World) : Calls Tryz.prog 60 #[.string ⟨l.toArray⟩] w fun e w' => e = .returned (.bool (whole l)) ∧ w = w' := by
  have hd := digs_any l 6 w (by decide)
  rw [show ((6 : Nat) : Int) = 6 from rfl] at hd
  have HW : Hid (whole l = (digs l 6 && (l == [48] || l.getD 0 0 != 48))) := rfl
  cases h : digs l 6
  · rw [h] at hd
    have H := Lib.hid h
    have HD := Lib.hid hd
    clear h hd
    go_enter Tryz.func60, Tryz.ntmps60
    go_wp2_with (go_at_call 61; refine HD.out.mono ?_; rintro e w' ⟨rfl, rfl⟩)
    go_ret
    exact ⟨by rw [HW.out, H.out]; rfl, rfl⟩
  · have hne : 0 < l.length := by
      cases l with
      | nil => exact nomatch h
      | cons => simp
    rw [h] at hd
    have H := Lib.hid h
    have HD := Lib.hid hd
    have hidx := str_at l 0 hne
    rw [show ((0 : Nat) : Int) = 0 from rfl] at hidx
    have hbn := byte_ne (l.getD 0 0)
    generalize l.getD 0 0 = c at *
    clear h hd
    go_enter Tryz.func60, Tryz.ntmps60
    go_wp2_with (go_at_call 61; refine HD.out.mono ?_; rintro e w' ⟨rfl, rfl⟩)
    · rename_i hl
      go_ret
      exact ⟨by rw [HW.out, H.out, hl]; rfl, rfl⟩
    · go_ret
      refine ⟨?_, rfl⟩
      show Ending.returned (Value.bool (l == [48] || c != 48)) = _
      rw [HW.out, H.out, Bool.true_and]

/-- The letter at the end. -/
def unitOf (l : List UInt8) : List UInt8 × Nat :=
  if Lib.hasSuffix l [107] then (Lib.trimSuffix l [107], 4652218415073722368) else if Lib.hasSuffix l [109] then (Lib.trimSuffix l [109], 4697254411347427328) else (l, 4607182418800017408)
theorem cutsuf (l : List UInt8) (c : UInt8) (w : World) (hl : l.length < 1099511627776) : Calls Tryz.prog 82 #[.string ⟨l.toArray⟩, .string ⟨#[c]⟩] w fun e w' => e = .returned (.tuple #[.string ⟨(Lib.trimSuffix l [c]).toArray⟩, .bool (Lib.hasSuffix l [c])]) ∧ w = w' := by
  refine (Tryz.strings_CutSuffix ⟨l.toArray⟩ ⟨#[c]⟩ w (by show l.toArray.size ≤ _; simp; omega)).mono ?_
  rintro e w' ⟨rfl, rfl⟩
  exact ⟨rfl, rfl⟩
theorem unit_any (l : List UInt8) (w : World) (hl : l.length < 1099511627776) : Calls Tryz.prog 58 #[.string ⟨l.toArray⟩] w fun e w' => e = .returned (.tuple #[.string ⟨(unitOf l).1.toArray⟩, .float .f64 (unitOf l).2]) ∧ w = w' := by
  have hk := cutsuf l 107 w hl
  have hm := cutsuf l 109 w hl
  have HU : Hid (unitOf l = if Lib.hasSuffix l [107] then (Lib.trimSuffix l [107], 4652218415073722368) else if Lib.hasSuffix l [109] then (Lib.trimSuffix l [109], 4697254411347427328) else (l, 4607182418800017408)) := rfl
  cases h1 : Lib.hasSuffix l [107] <;> cases h2 : Lib.hasSuffix l [109]
  all_goals
    rw [h1] at hk
    rw [h2] at hm
    have HK := Lib.hid hk
    have HM := Lib.hid hm
    have H1 := Lib.hid h1
    have H2 := Lib.hid h2
    generalize Lib.trimSuffix l [107] = lk at *
    generalize Lib.trimSuffix l [109] = lm at *
    clear hk hm h1 h2
    go_enter Tryz.func58, Tryz.ntmps58
    go_wp2_with (first
      | (go_at_call 82; go_at_call_of 82 (Value.string ⟨#[107]⟩); refine HK.out.mono ?_; rintro e w' ⟨rfl, rfl⟩)
      | (go_at_call 82; go_at_call_of 82 (Value.string ⟨#[109]⟩); refine HM.out.mono ?_; rintro e w' ⟨rfl, rfl⟩))
    go_ret2
    refine ⟨?_, rfl⟩
    rw [HU.out, H1.out, H2.out]
    rfl

/-- What cuts read. -/
def Mx (w : World) : Prop := ∃ m : Int, w.cell? ⟨3, 0, none⟩ = some (.int .i64 m)
theorem Mx.lt {w : World} (h : Mx w) : 3 < w.heap.size := let ⟨_, hm⟩ := h; World.block_lt_of_cell? w _ hm
theorem Mx.below {w w' : World} {B : Nat} (h : Mx w) (hb : Below B w w') (h1 : 3 < B) : Mx w' := let ⟨m, hm⟩ := h; ⟨m, (hb.cell (by exact h1)).trans hm⟩
theorem cut_any (l : List UInt8) (w : World) (hl : l.length < 4294967281) (hM : Mx w) : Calls Tryz.prog 59 #[.string ⟨l.toArray⟩, .string ⟨#[46]⟩] w fun e w' => e = .returned (.tuple #[.string ⟨(Lib.cut l [46]).1.toArray⟩, .string ⟨(Lib.cut l [46]).2.1.toArray⟩, .bool (Lib.cut l [46]).2.2]) ∧ ∃ n, w' = w.drewN n := by
  obtain ⟨m, hm⟩ := hM
  exact Tryz.strings_Cut ⟨l.toArray⟩ ⟨#[46]⟩ m w (by show l.toArray.size < _; simpa using hl) hm

/-- What digits tell. -/
def num (n : Nat) (l : List UInt8) : Nat := l.foldl (fun n c => n * 10 + (c.toNat - 48)) n
theorem num_snoc (n : Nat) (l : List UInt8) (c : UInt8) : num n (l ++ [c]) = num n l * 10 + (c.toNat - 48) := by simp [num]
theorem num_lt (n : Nat) (l : List UInt8) (h : l.all isDig = true) : num n l < (n + 1) * 10 ^ l.length := by
  induction l generalizing n with
  | nil => simp [num]
  | cons c r ih =>
    rw [List.all_cons, Bool.and_eq_true] at h
    have h1 := ih (n * 10 + (c.toNat - 48)) h.2
    have h2 : c.toNat - 48 ≤ 9 := by
      have := h.1
      simp [isDig] at this
      omega
    show num (n * 10 + (c.toNat - 48)) r < _
    have h3 : (n * 10 + (c.toNat - 48) + 1) * 10 ^ r.length ≤ ((n + 1) * 10) * 10 ^ r.length := Nat.mul_le_mul_right _ (by omega)
    rw [List.length_cons, Nat.pow_succ]
    calc _ < _ := h1
      _ ≤ _ := h3
      _ = _ := by rw [Nat.mul_assoc, Nat.mul_comm 10]
end Go.Proofs.YtdjhkaofhdcalaaGreatDoor

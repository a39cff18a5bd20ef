/-
  The readers of package guard, walked: New, Left, take, Byte, Bytes.
-/
import Derived.Test.YtdjhkaofhdcalaaGreatDoorGuaA
import Derived.Test.YtdjhkaofhdcalaaGreatDoorShaG
import Derived.Laws.IdiomStrings
import Derived.Lib.ConvBytes
namespace Go.Proofs.YtdjhkaofhdcalaaGreatDoor
open Go.RowKit

/-- string(b), b's bytes known. -/
theorem bytes_str {P : Program} {w : World} {v : Value} {bs : List UInt8} (src dst e : TypeId) (hs : P.underlying src = some (.slice e)) (he : P.underlying e = some (.int .u8)) (hd : P.underlying dst = some .string) (h : Bytes w v bs) :
    (convert src dst v).run P w = .ok (.string ⟨bs.toArray⟩) w := by
  obtain ⟨A, c, rfl, hc, hcm, hcell⟩ := h
  rcases Nat.eq_zero_or_pos bs.length with h0 | h0
  · obtain rfl : bs = [] := List.eq_nil_of_length_eq_zero h0
    rcases A with _ | a
    · exact run_convert_bytes_nil w src e hs he _ _ dst hd
    · exact run_convert_bytes_back w src dst e a c [] hs he hd (fun j hj => absurd hj (by simp))
  · obtain ⟨g, off, rfl, hcl⟩ := hcell h0
    refine run_convert_bytes_back w src dst e ⟨g, off, none⟩ c bs hs he hd (fun j hj => ?_)
    rw [Addr.add_mid, hcl j hj]
    simp [Y, List.getElem?_eq_getElem hj]

/-- A reader of the bytes s, at block b. -/
def Rd (w : World) (b : Nat) (s : List UInt8) : Prop := Whole w b 97 #[.string ⟨s.toArray⟩]

theorem gnew_any (v : Value) (bs : List UInt8) (w : World) (hv : Bytes w v bs) :
    Calls Tryz.prog 32 #[v] w fun e w' => e = .returned (.pointer (some ⟨w.heap.size, 0, none⟩)) ∧ Below w.heap.size w w' ∧ Rd w' w.heap.size bs ∧ w'.heap.size = w.heap.size + 1 := by
  have hcv := bytes_str (P := Tryz.prog) 39 9 5 Tryz.underlying39 Tryz.underlying5 Tryz.underlying9 hv
  go_enter Tryz.func32, Tryz.ntmps32
  go_wp2
  go_ret
  exact ⟨rfl, (Below.refl _ _).alloc (Nat.le_refl _) _, Whole.made _ _ _, by simp⟩

theorem left_any (b : Nat) (s : List UInt8) (w : World) (h : Rd w b s) : Calls Tryz.prog 33 #[.pointer (some ⟨b, 0, none⟩)] w fun e w' => e = .returned (.int .i64 (s.length : Int)) ∧ w = w' := by
  have hc : w.cell? ⟨b, 0, none⟩ = some (.string ⟨s.toArray⟩) := (Whole.at_ h 0).trans rfl
  clear h
  go_enter Tryz.func33, Tryz.ntmps33
  go_wp2
  go_ret
  exact ⟨rfl, rfl⟩
theorem left_nil (w : World) : Calls Tryz.prog 33 #[.pointer none] w fun e w' => e = .returned (.int .i64 0) ∧ w = w' := by
  go_enter Tryz.func33, Tryz.ntmps33
  go_wp2
  go_ret
  exact ⟨rfl, rfl⟩

/-- take of fewer than none. -/
theorem take_neg (p : Value) (n : Int) (w : World) (hn : n < 0) : Calls Tryz.prog 67 #[p, .int .i64 n] w fun e w' => e = .panicked (fault 1) ∧ w = w' := by
  have hd : decide (0 ≤ n) = false := by simp; omega
  go_enter Tryz.func67, Tryz.ntmps67
  go_wp2_with (go_at_call 92; refine (must_no _ _).mono ?_; rintro e w' ⟨rfl, rfl⟩)
  exact ⟨rfl, rfl, rfl⟩
theorem take_more (b : Nat) (s : List UInt8) (n : Int) (w : World) (h : Rd w b s) (hn : (s.length : Int) < n) : Calls Tryz.prog 67 #[.pointer (some ⟨b, 0, none⟩), .int .i64 n] w fun e w' => e = .panicked (fault 2) ∧ w = w' := by
  have hd : decide (0 ≤ n) = true := by simp; omega
  have hd2 : decide (n ≤ (s.length : Int)) = false := by simp; omega
  have H := Lib.hid h
  clear h
  go_enter Tryz.func67, Tryz.ntmps67
  go_wp2_with (first
    | (go_at_call 33; refine (left_any b s _ H.out).mono ?_; rintro e w' ⟨rfl, rfl⟩)
    | (go_at_call 92; go_at_call_of 92 (Value.bool true); refine (must_yes _ _).mono ?_; rintro e w' ⟨rfl, rfl⟩)
    | (go_at_call 92; go_at_call_of 92 (Value.bool false); refine (must_no _ _).mono ?_; rintro e w' ⟨rfl, rfl⟩))
  exact ⟨rfl, rfl, rfl⟩
theorem take_none (b : Nat) (s : List UInt8) (w : World) (h : Rd w b s) : Calls Tryz.prog 67 #[.pointer (some ⟨b, 0, none⟩), .int .i64 0] w fun e w' => e = .returned (.string ⟨#[]⟩) ∧ w = w' := by
  have hd2 : decide ((0 : Int) ≤ (s.length : Int)) = true := by simp
  have H := Lib.hid h
  clear h
  go_enter Tryz.func67, Tryz.ntmps67
  go_wp2_with (first
    | (go_at_call 33; refine (left_any b s _ H.out).mono ?_; rintro e w' ⟨rfl, rfl⟩)
    | (go_at_call 92; refine (must_yes _ _).mono ?_; rintro e w' ⟨rfl, rfl⟩))
  go_ret
  exact ⟨rfl, rfl⟩
theorem take_nil0 (w : World) : Calls Tryz.prog 67 #[.pointer none, .int .i64 0] w fun e w' => e = .returned (.string ⟨#[]⟩) ∧ w = w' := by
  go_enter Tryz.func67, Tryz.ntmps67
  go_wp2_with (first
    | (go_at_call 33; refine (left_nil _).mono ?_; rintro e w' ⟨rfl, rfl⟩)
    | (go_at_call 92; refine (must_yes _ _).mono ?_; rintro e w' ⟨rfl, rfl⟩))
  go_ret
  exact ⟨rfl, rfl⟩
theorem take_nil1 (w : World) : Calls Tryz.prog 67 #[.pointer none, .int .i64 1] w fun e w' => e = .panicked (fault 2) ∧ w = w' := by
  go_enter Tryz.func67, Tryz.ntmps67
  go_wp2_with (first
    | (go_at_call 33; refine (left_nil _).mono ?_; rintro e w' ⟨rfl, rfl⟩)
    | (go_at_call 92; go_at_call_of 92 (Value.bool true); refine (must_yes _ _).mono ?_; rintro e w' ⟨rfl, rfl⟩)
    | (go_at_call 92; go_at_call_of 92 (Value.bool false); refine (must_no _ _).mono ?_; rintro e w' ⟨rfl, rfl⟩))
  exact ⟨rfl, rfl, rfl⟩
theorem take_some (b : Nat) (s : List UInt8) (n : Nat) (w : World) (h : Rd w b s) (hn : 0 < n) (hl : n ≤ s.length) : Calls Tryz.prog 67 #[.pointer (some ⟨b, 0, none⟩), .int .i64 (n : Int)] w fun e w' => e = .returned (.string ⟨(s.take n).toArray⟩) ∧ w.grownBy w' (some b) ∧ Rd w' b (s.drop n) := by
  have hd2 : decide ((n : Int) ≤ (s.length : Int)) = true := by simp; omega
  have hd3 : ((n : Int) == 0) = false := beq_eq_false_iff_ne.2 (by omega)
  have hc : w.cell? ⟨b, 0, none⟩ = some (.string ⟨s.toArray⟩) := (Whole.at_ h 0).trans rfl
  have hz := Whole.thawed h 0
  have H := Lib.hid h
  clear h
  go_enter Tryz.func67, Tryz.ntmps67
  go_wp2_with (first
    | (go_at_call 33; refine (left_any b s _ H.out).mono ?_; rintro e w' ⟨rfl, rfl⟩)
    | (go_at_call 92; refine (must_yes _ _).mono ?_; rintro e w' ⟨rfl, rfl⟩))
  go_ret
  rw [ByteArray.extract_mk, ByteArray.extract_mk]
  refine ⟨by simp, gr_set (gr_refl _ _) (.inl rfl) _, ?_⟩
  have := Whole.put H.out 0 (.string ⟨(s.drop n).toArray⟩)
  rw [List.take_of_length_le (by simp)]
  exact this

/-- Byte. -/
theorem byte_some (b : Nat) (x : UInt8) (s : List UInt8) (w : World) (h : Rd w b (x :: s)) : Calls Tryz.prog 34 #[.pointer (some ⟨b, 0, none⟩)] w fun e w' => e = .returned (.int .u8 (x.toNat : Int)) ∧ w.grownBy w' (some b) ∧ Rd w' b s := by
  have H := Lib.hid h
  clear h
  go_enter Tryz.func34, Tryz.ntmps34
  go_wp2_with fail
  refine (take_some b (x :: s) 1 _ H.out (by decide) (by simp)).mono ?_
  rintro e w' ⟨rfl, hG, hR⟩
  have HG := Lib.hid hG
  have HR := Lib.hid hR
  clear hG hR
  go_wp2
  go_ret
  exact ⟨rfl, HG.out, HR.out⟩
theorem byte_more (b : Nat) (w : World) (h : Rd w b []) : Calls Tryz.prog 34 #[.pointer (some ⟨b, 0, none⟩)] w fun e w' => e = .panicked (fault 2) ∧ w = w' := by
  have H := Lib.hid h
  clear h
  go_enter Tryz.func34, Tryz.ntmps34
  go_wp2_with fail
  refine (take_more b [] 1 _ H.out (by decide)).mono ?_
  rintro e w' ⟨rfl, rfl⟩
  exact ⟨rfl, rfl, rfl⟩
theorem byte_nil (w : World) : Calls Tryz.prog 34 #[.pointer none] w fun e w' => e = .panicked (fault 2) ∧ w = w' := by
  go_enter Tryz.func34, Tryz.ntmps34
  go_wp2_with fail
  refine (take_nil1 _).mono ?_
  rintro e w' ⟨rfl, rfl⟩
  exact ⟨rfl, rfl, rfl⟩
end Go.Proofs.YtdjhkaofhdcalaaGreatDoor

/-
  What the statements' first call asks, at its own inputs.
-/
import Derived.Test.YtdjhkaofhdcalaaGreatDoorWhenC
namespace Go.Proofs.YtdjhkaofhdcalaaGreatDoor
open Go.RowKit

theorem copysign_any (w : World) : Calls Tryz.prog 25 #[.float .f64 0, .float .f64 13830554455654793216] w fun e w' => e = .returned (.float .f64 9223372036854775808) ∧ w = w' := by
  have h1 := bits_run 0
  have h2 := bits_run 13830554455654793216
  have h3 := frombits_run 9223372036854775808
  rw [show ((0 : Nat) : Int) = 0 from rfl] at h1
  rw [show ((13830554455654793216 : Nat) : Int) = 13830554455654793216 from rfl] at h2
  rw [show ((9223372036854775808 : Nat) : Int) = 9223372036854775808 from rfl] at h3
  have k1 : bits .andNot .u64 0 9223372036854775808 = 0 := by kernel_rfl
  have k2 : bits .and .u64 13830554455654793216 9223372036854775808 = 9223372036854775808 := by kernel_rfl
  have k3 : bits .or .u64 0 9223372036854775808 = 9223372036854775808 := by kernel_rfl
  go_enter Tryz.func25, Tryz.ntmps25
  go_wp2
  go_ret
  exact ⟨rfl, rfl⟩
theorem nan_any (w : World) : Calls Tryz.prog 37 #[] w fun e w' => e = .returned (.float .f64 9221120237041090561) ∧ w = w' := by
  have h3 := frombits_run 9221120237041090561
  rw [show ((9221120237041090561 : Nat) : Int) = 9221120237041090561 from rfl] at h3
  go_enter Tryz.func37, Tryz.ntmps37
  go_wp2
  go_ret
  exact ⟨rfl, rfl⟩
theorem norm_nought (w : World) : Calls Tryz.prog 24 #[.float .f64 9223372036854775808] w fun e w' => e = .returned (.tuple #[.float .f64 0, .bool true]) ∧ w = w' :=
  (norm_any 9223372036854775808 w (by decide)).mono fun e w' ⟨he, hw⟩ => ⟨he.trans (by kernel_rfl), hw⟩
theorem size_15 (w : World) (hM : Mx w) : Calls Tryz.prog 26 #[.string ⟨#[49, 46, 53, 107]⟩] w fun e w' => e = .returned (.tuple #[.float .f64 4654470214887407616, .bool true]) ∧ Below w.heap.size w w' :=
  size_good [49, 46, 53, 107] [49, 46, 53] [49] [53] 4652218415073722368 true w (by decide) hM (by decide) (by decide) (by decide) (by decide) (by decide) (by decide) (by decide) 4609434218613702656 4654470214887407616 (by kernel_rfl) (by kernel_rfl)
theorem of_x (w : World) (hT : Tabs w) : Calls Tryz.prog 7 #[.int .i64 1, .string ⟨#[120]⟩] w fun e w' => e = .returned (.agg ((ShaM.sha [98, 108, 111, 98, 32, 49, 0, 120]).map Y).toArray) ∧ Below w.heap.size w w' :=
  of_any 1 [98, 108, 111, 98] [49] [120] w hT word_1 (fun W => (itoa_1 W).mono fun e w' ⟨he, hw⟩ => ⟨he, hw ▸ Below.refl _ _⟩) (by decide)
theorem put_ab (w : World) (hT : Tz w) : Calls Tryz.prog 27 #[.string ⟨#[97, 98]⟩] w fun e w' => e = .returned (.tuple #[.string ⟨#[48, 48, 48, 54, 97, 98]⟩, .bool true]) ∧ Below w.heap.size w w' :=
  lput_good [97, 98] w hT (by decide) (by decide)
theorem get_ab (w : World) : Calls Tryz.prog 28 #[.string ⟨#[48, 48, 48, 54, 97, 98, 48, 48, 48, 48]⟩] w fun e w' => e = .returned (.tuple #[.int .i64 1, .string ⟨#[97, 98]⟩, .int .i64 6, .int .i64 0]) ∧ Below w.heap.size w w' :=
  get_ok 1 6 [48, 48, 48, 54, 97, 98, 48, 48, 48, 48] [97, 98] w (by decide)
theorem all_ab (w : World) : Calls Tryz.prog 29 #[.string ⟨#[48, 48, 48, 54, 97, 98, 48, 48, 48, 49, 48, 48, 48, 48, 122]⟩] w fun e w' => ∃ g c, e = .returned (.tuple #[.slice (some ⟨g, 0, none⟩) 2 c, .int .i64 14, .int .i64 0]) ∧ Below w.heap.size w w' := by
  refine (all_ok [48, 48, 48, 54, 97, 98, 48, 48, 48, 49, 48, 48, 48, 48, 122] [[97, 98], []] 14 w (by decide) (by decide)).mono ?_
  rintro e w' ⟨v, rfl, ho, hB⟩
  rcases ho.2 with ⟨-, h0⟩ | ⟨g, c, _, rfl, -⟩
  · exact absurd h0 (by decide)
  · exact ⟨g, c, rfl, hB⟩
theorem put_1 (w : World) : Calls Tryz.prog 35 #[.float .f64 4607182418800017408] w fun e w' => e = .returned (.string ⟨#[51, 102, 102, 48, 48, 48, 48, 48, 48, 48, 48, 48, 48, 48, 48, 48]⟩) ∧ Below w.heap.size w w' :=
  (put_good 4607182418800017408 w (by decide) (by kernel_rfl)).mono fun e w' ⟨he, hw⟩ => ⟨he.trans (by kernel_rfl), hw⟩
theorem may_nan (w : World) : Calls Tryz.prog 36 #[.float .f64 9221120237041090561] w fun e w' => e = .returned (.bool false) ∧ w = w' :=
  (may_any 9221120237041090561 w (by decide)).mono fun e w' ⟨he, hw⟩ => ⟨he.trans (by kernel_rfl), hw⟩
theorem flush_any (w : World) : Calls Tryz.prog 31 #[] w fun e w' => e = .returned (.string ⟨#[48, 48, 48, 48]⟩) ∧ w = w' := by
  go_enter Tryz.func31, Tryz.ntmps31
  go_wp2
  go_ret
  exact ⟨rfl, rfl⟩
theorem delim_any (w : World) : Calls Tryz.prog 30 #[] w fun e w' => e = .returned (.string ⟨#[48, 48, 48, 49]⟩) ∧ w = w' := by
  go_enter Tryz.func30, Tryz.ntmps30
  go_wp2
  go_ret
  exact ⟨rfl, rfl⟩
theorem begun1_any (w : World) : Calls Tryz.prog 22 #[] w fun e w' => e = .panicked (fault 3) ∧ w = w' := by
  go_enter Tryz.func22, Tryz.ntmps22
  go_wp2_with (go_at_call 23; refine (fail_any _ _).mono ?_; rintro e w' ⟨rfl, rfl⟩)
  exact ⟨rfl, rfl, rfl⟩
theorem begun1_enters (caps : Array Value) (W : World) : (callFunc 22 caps).run Tryz.prog W = .ok (.enter 22 caps) W := enters_of Tryz.func22 (by kernel_rfl) rfl _ _
theorem do3_any (w : World) : Calls Tryz.prog 21 #[.func (.func 22) #[] #[]] w fun e w' => e = .returned (.int .i64 3) ∧ Below w.heap.size w w' := by
  have hE := Whole.made w 40 #[.int .i64 0]
  refine (do_fault 22 #[] w 3 (fun w' => w.alloc (.cells #[.int .i64 0] 40) = w') (begun1_enters _) ?_ (begun1_any _)).mono ?_
  · rintro w' rfl
    exact ⟨0, (hE.at_ 0).trans rfl, hE.thawed 0⟩
  · rintro e w' ⟨rfl, w1, w2, rfl, hB, rfl⟩
    refine ⟨rfl, ((((Below.refl _ _).alloc (Nat.le_refl _) _).trans (hB.mono (by simp))).setCell (by simp) _)⟩
end Go.Proofs.YtdjhkaofhdcalaaGreatDoor

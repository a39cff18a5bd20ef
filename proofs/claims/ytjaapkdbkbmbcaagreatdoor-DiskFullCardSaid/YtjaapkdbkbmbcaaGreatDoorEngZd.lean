/-
  A closed run, reckoned: arguments that are not known; a hook for Text.
-/
import Derived.Test.YtjaapkdbkbmbcaaGreatDoorEgG
import Derived.Test.YtjaapkdbkbmbcaaGreatDoorText
namespace Go.Proofs.YtjaapkdbkbmbcaaGreatDoor
namespace Eng
open Go.RowKit

/-- A value that is not known, sy a place. -/
def symL (v : Value) : Loc := @Loc.mk 0 0 0 ⟨v⟩
theorem symL_val (v : Value) : (symL v).val = v := rfl
noncomputable def hText (_ : CallT) (vs : List V) (M : H) (n : Nat) : Option Rs :=
  match vs with
  | [.qs _, .i .i64 (.ofNat _)] => some (.ok (.qs n) M (n + 1))
  | _ => none
section
variable {G base n n' n0 : Nat} {j : J} {M : H} {w w' : World}
theorem post_sym (c : Ctx G base n j M w) (hf : j n = none) (v : Value) : Post G base n (n + 1) j M w (j.put n (symL v)) M w where
  le := J.put_le hf
  out id hid := J.put_ne _ (by omega)
  rel := by
    have ne : ∀ {id b}, M.get id = some b → id ≠ n := fun {id b} hb e => by
      obtain ⟨l, h1, _⟩ := c.rel.ok id b hb
      rw [e, hf] at h1
      cases h1
    refine ⟨fun id b hb => ?_, fun id b l hi hb hl => ?_, fun id b l hi hb hl => ?_, fun id id' b b' l l' h1 h2 h3 h4 h5 => ?_⟩
    · obtain ⟨l, h1, h2⟩ := c.rel.ok id b hb
      exact ⟨l, by rw [J.put_ne _ (ne hb)]; exact h1, h2.mono (J.put_le hf)⟩
    · exact c.rel.glob id b l hi hb (by rw [J.put_ne _ (ne hb)] at hl; exact hl)
    · exact c.rel.own id b l hi hb (by rw [J.put_ne _ (ne hb)] at hl; exact hl)
    · exact c.rel.inj id id' b b' l l' h1 h2 (by rw [J.put_ne _ (ne h1)] at h3; exact h3) (by rw [J.put_ne _ (ne h2)] at h4; exact h4) h5
  frm := .refl G j M w
  img id b l hb hl := by
    by_cases e : id = n
    · subst e
      obtain ⟨l', h1, _⟩ := c.rel.ok id b hb
      rw [hf] at h1
      cases h1
    · rw [J.put_ne _ e] at hl
      exact .inl ⟨id, b, l, hb, hl, rfl, fun h => h⟩
theorem text_at : At Tryz.prog G base 16 hText := by
  intro call hc vs M n r h
  refine ⟨⟨_, _, Tryz.func16, by kernel_rfl, rfl⟩, ?_⟩
  unfold hText at h
  split at h
  case h_2 => cases h
  rename_i id k
  injection h with h
  subst h
  refine ⟨Nat.le_succ n, fun j w ys c hf hy => ?_⟩
  simp only [VRs, VR] at hy
  obtain ⟨_, _, ⟨l, s, hl, hs, rfl⟩, ⟨_, _, rfl, rfl, rfl⟩, rfl⟩ := hy
  have hsl : s = ⟨s.data.toList.toArray⟩ := by cases s; simp
  rw [hsl]
  refine (text_any s.data.toList k w).mono ?_
  rintro e w' ⟨rfl, rfl⟩
  refine ⟨j.put n (symL (.string ⟨(s.data.toList.take k).toArray⟩)), post_sym c (hf n (Nat.le_refl _) (Nat.lt_succ_self n)) _, _, rfl, ?_⟩
  simp only [VR]
  exact ⟨_, _, J.put_at _ _ _, rfl, rfl⟩
/-- What a run tells whose arguments are not known. -/
theorem closedA {P : Program} {call : CallT} (hc : ∀ base, CallOk P 9 base call) {f : FuncId} {vs : List V} (h : okk (call (.f f) vs glob n0) = true) (hw : GE w) (hn : 9 ≤ n0) (sy : Nat → Option Loc) (ys : List Value)
    (hv : ∀ j : J, (∀ id, 9 ≤ id → id < n0 → j id = sy id) → VRs j vs ys) : Calls P f ys.toArray w fun e w' => e = .returned (.bool true) ∧ Below w.heap.size w w' := by
  unfold okk at h
  split at h
  case h_2 => cases h
  rename_i M1 n1 hr
  obtain ⟨_, hn1, hq⟩ := (hc w.heap.size).fn _ _ _ _ _ hr
  obtain ⟨j, hj⟩ := hw
  have hj2 : Rel 9 w.heap.size (fun id => if id < 9 then j id else if id < n0 then sy id else none) glob w := by
    have e : ∀ {id b}, glob.get id = some b → (if id < 9 then j id else if id < n0 then sy id else none) = j id := fun hb => if_pos (glob_lt hb)
    exact ⟨fun id b hb => by
      rw [e hb]
      obtain ⟨l, k1, k2⟩ := hj.ok id b hb
      exact ⟨l, k1, glob_br hb k2⟩, fun id b l hi hb hl => hj.glob id b l hi hb (by rw [← e hb]; exact hl), fun id b l hi hb => absurd (glob_lt hb) (by omega), fun id id' b b' l l' h1 h2 h3 h4 h5 => hj.inj id id' b b' l l' h1 h2 (by rw [← e h1]; exact h3) (by rw [← e h2]; exact h4) h5⟩
  refine (hq _ w ys ⟨hj2, hn, Nat.le_refl _⟩ (fun id hi _ => by
    show (if id < 9 then j id else if id < n0 then sy id else none) = none
    rw [if_neg (by omega), if_neg (by omega)]) (hv _ fun id h1 h2 => by
    show (if id < 9 then j id else if id < n0 then sy id else none) = sy id
    rw [if_neg (by omega), if_pos h2])).mono ?_
  rintro e w' ⟨j', hp, y, rfl, hy⟩
  simp only [VR] at hy
  subst hy
  exact ⟨rfl, below_of_post hp fun id b hb => glob_lt hb⟩
end
end Eng
end Go.Proofs.YtjaapkdbkbmbcaaGreatDoor

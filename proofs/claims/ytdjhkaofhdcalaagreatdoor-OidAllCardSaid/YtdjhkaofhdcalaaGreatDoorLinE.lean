/-
  line.All, walked, to its end.
-/
import Derived.Test.YtdjhkaofhdcalaaGreatDoorLinD
namespace Go.Proofs.YtdjhkaofhdcalaaGreatDoor
open Go.RowKit

theorem owns_base {w : World} {B base : Nat} {e size : Nat} {v : Value} {n : Nat} {xs : List Value} (h : w.ownsRow base e size v n xs) (hb : B ≤ base) : w.ownsRow B e size v n xs := by
  refine ⟨h.1, ?_⟩
  rcases h.2 with hn | ⟨g, cap, cur, rfl, hg, rest⟩
  · exact .inl hn
  · exact .inr ⟨g, cap, cur, rfl, Nat.le_trans hb hg, rest⟩
theorem three (w : World) (a b c : Array Value) (ta tb tc : TypeId) : ∃ W, W = ((w.alloc (.cells a ta)).alloc (.cells b tb)).alloc (.cells c tc) ∧ Below w.heap.size w W ∧ W.heap.size = w.heap.size + 3 ∧
    Whole W w.heap.size ta a ∧ Whole W (w.heap.size + 1) tb b ∧ Whole W (w.heap.size + 1 + 1) tc c := by
  refine ⟨_, rfl, (((Below.refl _ _).alloc (Nat.le_refl _) _).alloc (by simp) _).alloc (by simp; omega) _, by simp, ((Whole.made _ _ _).past _).past _, ?_, ?_⟩
  · have h := (Whole.made (w.alloc (.cells a ta)) tb b).past (.cells c tc)
    simpa using h
  · have h := Whole.made ((w.alloc (.cells a ta)).alloc (.cells b tb)) tc c
    simpa using h
theorem all1_enters (caps : Array Value) (W : World) : (callFunc 66 caps).run Tryz.prog W = .ok (.enter 66 caps) W := enters_of Tryz.func66 (by kernel_rfl) rfl _ _
set_option maxRecDepth 100000 in
set_option maxHeartbeats 1000000 in
theorem all_ok (s : List UInt8) (l : List (List UInt8)) (r : Nat) (w : World) (hlen : s.length < 1099511627776) (hv : allGo (s.length + 1) s 0 [] = .inl (l, r)) :
    Calls Tryz.prog 29 #[.string ⟨s.toArray⟩] w fun e w' => ∃ v, e = .returned (.tuple #[v, .int .i64 (r : Int), .int .i64 0]) ∧ w'.ownsRow w.heap.size 9 1 v l.length (l.map S) ∧ Below w.heap.size w w' := by
  have hmf : ∀ (fn : Fn) (first cap : Array Value) (w : World), (Instr.makeFunc fn first cap).run Tryz.prog w = .ok (.func fn first cap) w := fun _ _ _ _ => rfl
  have HV := Lib.hid hv
  clear hv
  go_enter Tryz.func29, Tryz.ntmps29
  go_wp2_with fail
  obtain ⟨W, hW, hB, hsz, hS, hL, hR⟩ := three w #[.string ⟨s.toArray⟩] #[.slice none 0 0] #[.int .i64 0] 9 52 3
  rw [← hW]
  have hS1 := hS.past (.cells #[.int .i64 0] 40)
  have hL1 := hL.past (.cells #[.int .i64 0] 40)
  have hR1 := hR.past (.cells #[.int .i64 0] 40)
  have hE1 := Whole.made W 40 #[.int .i64 0]
  have hsz1 : (W.alloc (.cells #[.int .i64 0] 40)).heap.size = w.heap.size + 4 := by simp; omega
  have hB1 : Below w.heap.size w (W.alloc (.cells #[.int .i64 0] 40)) := hB.alloc (by omega) _
  have hcall := all1_any w.heap.size (w.heap.size + 1 + 1) (w.heap.size + 1) s _ hlen hS1 hR1 hL1 (by omega) (by omega) (by omega)
  rw [HV.out] at hcall
  generalize hW1 : W.alloc (.cells #[.int .i64 0] 40) = W1 at *
  refine (do_ret 66 _ W (fun w' => Two (w.heap.size + 1 + 1) (w.heap.size + 1) W1 w' ∧ ∃ v, Whole w' (w.heap.size + 1 + 1) 3 #[.int .i64 (r : Int)] ∧ Whole w' (w.heap.size + 1) 52 #[v] ∧ w'.ownsRow W1.heap.size 9 1 v l.length (l.map S)) (all1_enters _) ?_ (by rw [hW1]; exact hcall.mono (fun e w' ⟨h2, he, h3⟩ => ⟨he, h2, h3⟩))).mono ?_
  · rintro w' ⟨h2, -⟩
    have hE2 := hE1.two h2 (by omega) (by omega)
    exact ⟨0, (hE2.at_ 0).trans rfl, hE2.thawed 0⟩
  rintro e w' ⟨rfl, w2, ⟨h2, v, hR2, hL2, ho⟩, rfl⟩
  have R3 := hR2.aside (p := ⟨W.heap.size, 0, none⟩) (by show _ ≠ _; dsimp only; omega) (.int .i64 0)
  have L3 := hL2.aside (p := ⟨W.heap.size, 0, none⟩) (by show _ ≠ _; dsimp only; omega) (.int .i64 0)
  have B3 := (hB1.trans (h2.to (B := w.heap.size) (by omega) (by omega) (by omega))).setCell (p := ⟨W.heap.size, 0, none⟩) (by simp; omega) (.int .i64 0)
  have O3 := owns_base (B := w.heap.size) (World.ownsRow.kept ho (gr_set (gr_refl w2 (some W.heap.size)) (p := ⟨W.heap.size, 0, none⟩) (.inl rfl) (.int .i64 0)) (by
    cases hob : v.ownBlock with
    | none => exact .inl rfl
    | some j => exact .inr (fun e => by have := (ho.lt j hob).1; injection e with e; omega))) (by omega)
  generalize w2.setCell ⟨W.heap.size, 0, none⟩ (.int .i64 0) = V at *
  have HB3 := Lib.hid B3
  have HO3 := Lib.hid O3
  have cr : V.cell? ⟨w.heap.size + 1 + 1, 0, none⟩ = some (.int .i64 (r : Int)) := (R3.at_ 0).trans rfl
  have cl : V.cell? ⟨w.heap.size + 1, 0, none⟩ = some v := (L3.at_ 0).trans rfl
  clear hW hB hsz hS hL hR hS1 hL1 hR1 hE1 hsz1 hB1 hcall hW1 h2 hR2 hL2 ho R3 L3 B3 O3
  go_wp2
  go_region
  go_wp2
  go_ret3
  exact ⟨v, rfl, HO3.out.drew, HB3.out.drew⟩
set_option maxRecDepth 100000 in
set_option maxHeartbeats 1000000 in
theorem all_bad (s : List UInt8) (c : Int) (w : World) (hc : c ≠ 0) (hlen : s.length < 1099511627776) (hv : allGo (s.length + 1) s 0 [] = .inr c) :
    Calls Tryz.prog 29 #[.string ⟨s.toArray⟩] w fun e w' => e = .returned (.tuple #[.slice none 0 0, .int .i64 0, .int .i64 c]) ∧ Below w.heap.size w w' := by
  have hmf : ∀ (fn : Fn) (first cap : Array Value) (w : World), (Instr.makeFunc fn first cap).run Tryz.prog w = .ok (.func fn first cap) w := fun _ _ _ _ => rfl
  have HV := Lib.hid hv
  have hcc : (c == 0) = false := beq_eq_false_iff_ne.2 hc
  clear hv hc
  go_enter Tryz.func29, Tryz.ntmps29
  go_wp2_with fail
  obtain ⟨W, hW, hB, hsz, hS, hL, hR⟩ := three w #[.string ⟨s.toArray⟩] #[.slice none 0 0] #[.int .i64 0] 9 52 3
  rw [← hW]
  have hS1 := hS.past (.cells #[.int .i64 0] 40)
  have hL1 := hL.past (.cells #[.int .i64 0] 40)
  have hR1 := hR.past (.cells #[.int .i64 0] 40)
  have hE1 := Whole.made W 40 #[.int .i64 0]
  have hsz1 : (W.alloc (.cells #[.int .i64 0] 40)).heap.size = w.heap.size + 4 := by simp; omega
  have hB1 : Below w.heap.size w (W.alloc (.cells #[.int .i64 0] 40)) := hB.alloc (by omega) _
  have hcall := all1_any w.heap.size (w.heap.size + 1 + 1) (w.heap.size + 1) s _ hlen hS1 hR1 hL1 (by omega) (by omega) (by omega)
  rw [HV.out] at hcall
  generalize hW1 : W.alloc (.cells #[.int .i64 0] 40) = W1 at *
  refine (do_fault 66 _ W c (fun w' => Two (w.heap.size + 1 + 1) (w.heap.size + 1) W1 w') (all1_enters _) ?_ (by rw [hW1]; exact hcall.mono (fun e w' ⟨h2, he⟩ => ⟨he, h2⟩))).mono ?_
  · rintro w' h2
    have hE2 := hE1.two h2 (by omega) (by omega)
    exact ⟨0, (hE2.at_ 0).trans rfl, hE2.thawed 0⟩
  rintro e w' ⟨rfl, w1, w2, h2, hB2, rfl⟩
  have B3 := (hB1.trans ((h2.below hB2).to (B := w.heap.size) (by omega) (by omega) (by omega))).setCell (p := ⟨W.heap.size, 0, none⟩) (by simp; omega) (.int .i64 c)
  generalize w2.setCell ⟨W.heap.size, 0, none⟩ (.int .i64 c) = V at *
  have HB3 := Lib.hid B3
  clear hW hB hsz hS hL hR hS1 hL1 hR1 hE1 hsz1 hB1 hcall hW1 h2 hB2 B3
  go_wp2
  go_ret3
  exact ⟨rfl, HB3.out⟩
end Go.Proofs.YtdjhkaofhdcalaaGreatDoor

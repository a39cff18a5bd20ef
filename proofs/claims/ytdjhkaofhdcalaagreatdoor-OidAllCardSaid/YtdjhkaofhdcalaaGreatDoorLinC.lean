/-
  line.Get, line.All, walked.
-/
import Derived.Test.YtdjhkaofhdcalaaGreatDoorLinB
namespace Go.Proofs.YtdjhkaofhdcalaaGreatDoor
open Go.RowKit

theorem get1_ok (bs bk bt bn k n : Nat) (s t : List UInt8) (k0 t0 n0 : Value) (W : World) (hs : Whole W bs 9 #[.string ⟨s.toArray⟩]) (hk : Whole W bk 3 #[k0]) (ht : Whole W bt 9 #[t0]) (hn : Whole W bn 3 #[n0])
    (h1 : bk ≠ bt) (h2 : bk ≠ bn) (h3 : bt ≠ bn) (hv : firstV s = .inl (k, t, n)) :
    Calls Tryz.prog 64 #[.pointer (some ⟨bs, 0, none⟩), .pointer (some ⟨bk, 0, none⟩), .pointer (some ⟨bt, 0, none⟩), .pointer (some ⟨bn, 0, none⟩)] W fun e w' => e = .returned (.tuple #[]) ∧
      ∃ w1, Below W.heap.size W w1 ∧ w' = ((w1.setCell ⟨bk, 0, none⟩ (.int .i64 (k : Int))).setCell ⟨bt, 0, none⟩ (.string ⟨t.toArray⟩)).setCell ⟨bn, 0, none⟩ (.int .i64 (n : Int)) := by
  have hc : W.cell? ⟨bs, 0, none⟩ = some (.string ⟨s.toArray⟩) := (Whole.at_ hs 0).trans rfl
  have hf := first_any s W
  rw [hv] at hf
  have HF : Hid (Calls Tryz.prog 65 #[.string ⟨s.toArray⟩] W fun e w' => e = .returned (.tuple #[.int .i64 (k : Int), .string ⟨t.toArray⟩, .int .i64 (n : Int)]) ∧ Below W.heap.size W w') := hf
  have HK := Lib.hid hk
  have HT := Lib.hid ht
  have HN := Lib.hid hn
  clear hs hf hk ht hn hv
  go_enter Tryz.func64, Tryz.ntmps64
  go_wp2_with fail
  refine HF.out.mono ?_
  rintro e w1 ⟨rfl, hB⟩
  have HB := Lib.hid hB
  have K1 := HK.out.below hB HK.out.lt
  have T1 := HT.out.below hB HT.out.lt
  have N1 := HN.out.below hB HN.out.lt
  have ck : w1.cell? ⟨bk, 0, none⟩ = some k0 := (K1.at_ 0).trans rfl
  have ct : w1.cell? ⟨bt, 0, none⟩ = some t0 := (T1.at_ 0).trans rfl
  have cn : w1.cell? ⟨bn, 0, none⟩ = some n0 := (N1.at_ 0).trans rfl
  have zk := K1.thawed 0
  have zt := T1.thawed 0
  have zn := N1.thawed 0
  clear hB K1 T1 N1
  go_wp2
  exact bodyPost_end (results_none rfl _ _ _) rfl ⟨rfl, w1, HB.out, rfl⟩
theorem get1_bad (bs : Nat) (s : List UInt8) (c : Int) (pk pt pn : Value) (W : World) (hs : Whole W bs 9 #[.string ⟨s.toArray⟩]) (hv : firstV s = .inr c) :
    Calls Tryz.prog 64 #[.pointer (some ⟨bs, 0, none⟩), pk, pt, pn] W fun e w' => e = .panicked (fault c) ∧ Below W.heap.size W w' := by
  have hc : W.cell? ⟨bs, 0, none⟩ = some (.string ⟨s.toArray⟩) := (Whole.at_ hs 0).trans rfl
  have hf := first_any s W
  rw [hv] at hf
  have HF : Hid (Calls Tryz.prog 65 #[.string ⟨s.toArray⟩] W fun e w' => e = .panicked (fault c) ∧ Below W.heap.size W w') := hf
  clear hs hf hv
  go_enter Tryz.func64, Tryz.ntmps64
  go_wp2_with fail
  refine HF.out.mono ?_
  rintro e w1 ⟨rfl, hB⟩
  exact ⟨rfl, rfl, hB⟩

theorem get1_enters (caps : Array Value) (W : World) : (callFunc 64 caps).run Tryz.prog W = .ok (.enter 64 caps) W := enters_of Tryz.func64 (by kernel_rfl) rfl _ _
/-- Four blocks laid one behind the other. -/
theorem four (w : World) (a b c d : Array Value) (ta tb tc td : TypeId) : ∃ W, W = (((w.alloc (.cells a ta)).alloc (.cells b tb)).alloc (.cells c tc)).alloc (.cells d td) ∧ Below w.heap.size w W ∧ W.heap.size = w.heap.size + 4 ∧
    Whole W w.heap.size ta a ∧ Whole W (w.heap.size + 1) tb b ∧ Whole W (w.heap.size + 1 + 1) tc c ∧ Whole W (w.heap.size + 1 + 1 + 1) td d := by
  refine ⟨_, rfl, ((((Below.refl _ _).alloc (Nat.le_refl _) _).alloc (by simp) _).alloc (by simp; omega) _).alloc (by simp; omega) _, by simp, (((Whole.made _ _ _).past _).past _).past _, ?_, ?_, ?_⟩
  · have h := ((Whole.made (w.alloc (.cells a ta)) tb b).past (.cells c tc)).past (.cells d td)
    simpa using h
  · have h := (Whole.made ((w.alloc (.cells a ta)).alloc (.cells b tb)) tc c).past (.cells d td)
    simpa using h
  · have h := Whole.made (((w.alloc (.cells a ta)).alloc (.cells b tb)).alloc (.cells c tc)) td d
    simpa using h
set_option maxRecDepth 100000 in
set_option maxHeartbeats 1000000 in
theorem get_ok (k n : Nat) (s t : List UInt8) (w : World) (hv : firstV s = .inl (k, t, n)) :
    Calls Tryz.prog 28 #[.string ⟨s.toArray⟩] w fun e w' => e = .returned (.tuple #[.int .i64 (k : Int), .string ⟨t.toArray⟩, .int .i64 (n : Int), .int .i64 0]) ∧ Below w.heap.size w w' := by
  have hmf : ∀ (fn : Fn) (first cap : Array Value) (w : World), (Instr.makeFunc fn first cap).run Tryz.prog w = .ok (.func fn first cap) w := fun _ _ _ _ => rfl
  have HV := Lib.hid hv
  clear hv
  go_enter Tryz.func28, Tryz.ntmps28
  go_wp2_with fail
  obtain ⟨W, hW, hB, hsz, hS, hK, hT, hN⟩ := four w #[.string ⟨s.toArray⟩] #[.int .i64 0] #[.string ⟨#[]⟩] #[.int .i64 0] 9 3 9 3
  rw [← hW]
  have HB := Lib.hid hB
  have hS1 := hS.past (.cells #[.int .i64 0] 40)
  have hK1 := hK.past (.cells #[.int .i64 0] 40)
  have hT1 := hT.past (.cells #[.int .i64 0] 40)
  have hN1 := hN.past (.cells #[.int .i64 0] 40)
  have hE1 := Whole.made W 40 #[.int .i64 0]
  have hsz1 : (W.alloc (.cells #[.int .i64 0] 40)).heap.size = w.heap.size + 5 := by simp; omega
  have hB1 : Below w.heap.size w (W.alloc (.cells #[.int .i64 0] 40)) := hB.alloc (by omega) _
  have hcall := get1_ok w.heap.size (w.heap.size + 1) (w.heap.size + 1 + 1) (w.heap.size + 1 + 1 + 1) k n s t _ _ _ _ hS1 hK1 hT1 hN1 (by omega) (by omega) (by omega) HV.out
  generalize hW1 : W.alloc (.cells #[.int .i64 0] 40) = W1 at *
  refine (do_ret 64 _ W (fun w' => ∃ w1, Below W1.heap.size W1 w1 ∧ w' = ((w1.setCell ⟨w.heap.size + 1, 0, none⟩ (.int .i64 (k : Int))).setCell ⟨w.heap.size + 1 + 1, 0, none⟩ (.string ⟨t.toArray⟩)).setCell ⟨w.heap.size + 1 + 1 + 1, 0, none⟩ (.int .i64 (n : Int))) (get1_enters _) ?_ (by rw [hW1]; exact hcall)).mono ?_
  · rintro w' ⟨w1, hB2, rfl⟩
    have hE2 := (((hE1.below hB2 (by omega)).aside (p := ⟨w.heap.size + 1, 0, none⟩) (by simp; omega) (.int .i64 (k : Int))).aside (p := ⟨w.heap.size + 1 + 1, 0, none⟩) (by simp; omega) (.string ⟨t.toArray⟩)).aside (p := ⟨w.heap.size + 1 + 1 + 1, 0, none⟩) (by simp; omega) (.int .i64 (n : Int))
    exact ⟨0, (hE2.at_ 0).trans rfl, hE2.thawed 0⟩
  rintro e w' ⟨rfl, w2, ⟨w1, hB2, rfl⟩, rfl⟩
  have K2 := hK1.below hB2 (by omega)
  have T2 := hT1.below hB2 (by omega)
  have N2 := hN1.below hB2 (by omega)
  have K3 := (((K2.put 0 (.int .i64 (k : Int))).aside (p := ⟨w.heap.size + 1 + 1, 0, none⟩) (by show _ ≠ _; dsimp only; omega) (.string ⟨t.toArray⟩)).aside (p := ⟨w.heap.size + 1 + 1 + 1, 0, none⟩) (by show _ ≠ _; dsimp only; omega) (.int .i64 (n : Int))).aside (p := ⟨W.heap.size, 0, none⟩) (by show _ ≠ _; dsimp only; omega) (.int .i64 0)
  have T3 := (((T2.aside (p := ⟨w.heap.size + 1, 0, none⟩) (by show _ ≠ _; dsimp only; omega) (.int .i64 (k : Int))).put 0 (.string ⟨t.toArray⟩)).aside (p := ⟨w.heap.size + 1 + 1 + 1, 0, none⟩) (by show _ ≠ _; dsimp only; omega) (.int .i64 (n : Int))).aside (p := ⟨W.heap.size, 0, none⟩) (by show _ ≠ _; dsimp only; omega) (.int .i64 0)
  have N3 := (((N2.aside (p := ⟨w.heap.size + 1, 0, none⟩) (by show _ ≠ _; dsimp only; omega) (.int .i64 (k : Int))).aside (p := ⟨w.heap.size + 1 + 1, 0, none⟩) (by show _ ≠ _; dsimp only; omega) (.string ⟨t.toArray⟩)).put 0 (.int .i64 (n : Int))).aside (p := ⟨W.heap.size, 0, none⟩) (by show _ ≠ _; dsimp only; omega) (.int .i64 0)
  have B3 := ((((hB1.trans (hB2.mono (by omega))).setCell (p := ⟨w.heap.size + 1, 0, none⟩) (by simp) (.int .i64 (k : Int))).setCell (p := ⟨w.heap.size + 1 + 1, 0, none⟩) (by simp; omega) (.string ⟨t.toArray⟩)).setCell (p := ⟨w.heap.size + 1 + 1 + 1, 0, none⟩) (by simp; omega) (.int .i64 (n : Int))).setCell (p := ⟨W.heap.size, 0, none⟩) (by simp; omega) (.int .i64 0)
  generalize ((((w1.setCell ⟨w.heap.size + 1, 0, none⟩ (.int .i64 (k : Int))).setCell ⟨w.heap.size + 1 + 1, 0, none⟩ (.string ⟨t.toArray⟩)).setCell ⟨w.heap.size + 1 + 1 + 1, 0, none⟩ (.int .i64 (n : Int))).setCell ⟨W.heap.size, 0, none⟩ (.int .i64 0)) = V at *
  have HB3 := Lib.hid B3
  have HK3 := Lib.hid K3
  have HT3 := Lib.hid T3
  have HN3 := Lib.hid N3
  have ck : V.cell? ⟨w.heap.size + 1, 0, none⟩ = some (.int .i64 (k : Int)) := (K3.at_ 0).trans rfl
  have ct : V.cell? ⟨w.heap.size + 1 + 1, 0, none⟩ = some (.string ⟨t.toArray⟩) := (T3.at_ 0).trans rfl
  have cn : V.cell? ⟨w.heap.size + 1 + 1 + 1, 0, none⟩ = some (.int .i64 (n : Int)) := (N3.at_ 0).trans rfl
  have zk := K3.thawed 0
  have zt := T3.thawed 0
  have zn := N3.thawed 0
  clear hW hB hsz hS hK hT hN hS1 hK1 hT1 hN1 hE1 hsz1 hB1 hcall hW1 hB2 K2 T2 N2 K3 T3 N3 B3 HB
  go_wp2
  go_region
  have K4 := ((((HK3.out.put 0 (.int .i64 (k : Int))).aside (p := ⟨w.heap.size + 1 + 1, 0, none⟩) (by show _ ≠ _; dsimp only; omega) (.string ⟨t.toArray⟩)).aside (p := ⟨w.heap.size + 1 + 1 + 1, 0, none⟩) (by show _ ≠ _; dsimp only; omega) (.int .i64 (n : Int)))).drew
  have T4 := ((((HT3.out.aside (p := ⟨w.heap.size + 1, 0, none⟩) (by show _ ≠ _; dsimp only; omega) (.int .i64 (k : Int))).put 0 (.string ⟨t.toArray⟩)).aside (p := ⟨w.heap.size + 1 + 1 + 1, 0, none⟩) (by show _ ≠ _; dsimp only; omega) (.int .i64 (n : Int)))).drew
  have N4 := ((((HN3.out.aside (p := ⟨w.heap.size + 1, 0, none⟩) (by show _ ≠ _; dsimp only; omega) (.int .i64 (k : Int))).aside (p := ⟨w.heap.size + 1 + 1, 0, none⟩) (by show _ ≠ _; dsimp only; omega) (.string ⟨t.toArray⟩)).put 0 (.int .i64 (n : Int)))).drew
  have B4 := (((HB3.out.setCell (p := ⟨w.heap.size + 1, 0, none⟩) (by simp) (.int .i64 (k : Int))).setCell (p := ⟨w.heap.size + 1 + 1, 0, none⟩) (by simp; omega) (.string ⟨t.toArray⟩)).setCell (p := ⟨w.heap.size + 1 + 1 + 1, 0, none⟩) (by simp; omega) (.int .i64 (n : Int))).drew
  generalize (((V.setCell ⟨w.heap.size + 1, 0, none⟩ (.int .i64 (k : Int))).setCell ⟨w.heap.size + 1 + 1, 0, none⟩ (.string ⟨t.toArray⟩)).setCell ⟨w.heap.size + 1 + 1 + 1, 0, none⟩ (.int .i64 (n : Int))).drew = V' at *
  have ck4 : V'.cell? ⟨w.heap.size + 1, 0, none⟩ = some (.int .i64 (k : Int)) := (K4.at_ 0).trans rfl
  have ct4 : V'.cell? ⟨w.heap.size + 1 + 1, 0, none⟩ = some (.string ⟨t.toArray⟩) := (T4.at_ 0).trans rfl
  have cn4 : V'.cell? ⟨w.heap.size + 1 + 1 + 1, 0, none⟩ = some (.int .i64 (n : Int)) := (N4.at_ 0).trans rfl
  have HB4 := Lib.hid B4
  clear K4 T4 N4 B4
  go_wp2
  refine bodyPost_ret (v := .tuple #[.int .i64 (k : Int), .string ⟨t.toArray⟩, .int .i64 (n : Int), .int .i64 0]) ?_ rfl ⟨rfl, HB4.out⟩
  simp [results, Tryz.results28, go_sem, ck4, ct4, cn4]
set_option maxRecDepth 100000 in
set_option maxHeartbeats 1000000 in
theorem get_bad (s : List UInt8) (c : Int) (w : World) (hv : firstV s = .inr c) :
    Calls Tryz.prog 28 #[.string ⟨s.toArray⟩] w fun e w' => e = .returned (.tuple #[.int .i64 0, .string ⟨#[]⟩, .int .i64 0, .int .i64 c]) ∧ Below w.heap.size w w' := by
  have hmf : ∀ (fn : Fn) (first cap : Array Value) (w : World), (Instr.makeFunc fn first cap).run Tryz.prog w = .ok (.func fn first cap) w := fun _ _ _ _ => rfl
  have HV := Lib.hid hv
  clear hv
  go_enter Tryz.func28, Tryz.ntmps28
  go_wp2_with fail
  obtain ⟨W, hW, hB, hsz, hS, hK, hT, hN⟩ := four w #[.string ⟨s.toArray⟩] #[.int .i64 0] #[.string ⟨#[]⟩] #[.int .i64 0] 9 3 9 3
  rw [← hW]
  have HB := Lib.hid hB
  have hS1 := hS.past (.cells #[.int .i64 0] 40)
  have hK1 := hK.past (.cells #[.int .i64 0] 40)
  have hT1 := hT.past (.cells #[.int .i64 0] 40)
  have hN1 := hN.past (.cells #[.int .i64 0] 40)
  have hE1 := Whole.made W 40 #[.int .i64 0]
  have hsz1 : (W.alloc (.cells #[.int .i64 0] 40)).heap.size = w.heap.size + 5 := by simp; omega
  have hB1 : Below w.heap.size w (W.alloc (.cells #[.int .i64 0] 40)) := hB.alloc (by omega) _
  have hcall := get1_bad w.heap.size s c (.pointer (some ⟨w.heap.size + 1, 0, none⟩)) (.pointer (some ⟨w.heap.size + 1 + 1, 0, none⟩)) (.pointer (some ⟨w.heap.size + 1 + 1 + 1, 0, none⟩)) _ hS1 HV.out
  generalize hW1 : W.alloc (.cells #[.int .i64 0] 40) = W1 at *
  refine (do_fault 64 _ W c (fun w' => Below W1.heap.size W1 w') (get1_enters _) ?_ (by rw [hW1]; exact hcall)).mono ?_
  · rintro w' hB2
    have hE2 := hE1.below hB2 (by omega)
    exact ⟨0, (hE2.at_ 0).trans rfl, hE2.thawed 0⟩
  rintro e w' ⟨rfl, w1, w2, hB2, hB2', rfl⟩
  have hB2'' := hB2.trans (hB2'.mono hB2.size)
  have K3 := (hK1.below hB2'' (by omega)).aside (p := ⟨W.heap.size, 0, none⟩) (by show _ ≠ _; dsimp only; omega) (.int .i64 c)
  have T3 := (hT1.below hB2'' (by omega)).aside (p := ⟨W.heap.size, 0, none⟩) (by show _ ≠ _; dsimp only; omega) (.int .i64 c)
  have N3 := (hN1.below hB2'' (by omega)).aside (p := ⟨W.heap.size, 0, none⟩) (by show _ ≠ _; dsimp only; omega) (.int .i64 c)
  have B3 := (hB1.trans (hB2''.mono (by omega))).setCell (p := ⟨W.heap.size, 0, none⟩) (by simp; omega) (.int .i64 c)
  generalize w2.setCell ⟨W.heap.size, 0, none⟩ (.int .i64 c) = V at *
  have HB3 := Lib.hid B3
  have HK3 := Lib.hid K3
  have HT3 := Lib.hid T3
  have HN3 := Lib.hid N3
  have ck : V.cell? ⟨w.heap.size + 1, 0, none⟩ = some (.int .i64 0) := (K3.at_ 0).trans rfl
  have ct : V.cell? ⟨w.heap.size + 1 + 1, 0, none⟩ = some (.string ⟨#[]⟩) := (T3.at_ 0).trans rfl
  have cn : V.cell? ⟨w.heap.size + 1 + 1 + 1, 0, none⟩ = some (.int .i64 0) := (N3.at_ 0).trans rfl
  have zk := K3.thawed 0
  have zt := T3.thawed 0
  have zn := N3.thawed 0
  clear hW hB hsz hS hK hT hN hS1 hK1 hT1 hN1 hE1 hsz1 hB1 hcall hW1 hB2 hB2' hB2'' K3 T3 N3 B3 HB
  go_wp2
  go_region
  have K4 := ((((HK3.out.put 0 (.int .i64 0)).aside (p := ⟨w.heap.size + 1 + 1, 0, none⟩) (by show _ ≠ _; dsimp only; omega) (.string ⟨#[]⟩)).aside (p := ⟨w.heap.size + 1 + 1 + 1, 0, none⟩) (by show _ ≠ _; dsimp only; omega) (.int .i64 0))).drew
  have T4 := ((((HT3.out.aside (p := ⟨w.heap.size + 1, 0, none⟩) (by show _ ≠ _; dsimp only; omega) (.int .i64 0)).put 0 (.string ⟨#[]⟩)).aside (p := ⟨w.heap.size + 1 + 1 + 1, 0, none⟩) (by show _ ≠ _; dsimp only; omega) (.int .i64 0))).drew
  have N4 := ((((HN3.out.aside (p := ⟨w.heap.size + 1, 0, none⟩) (by show _ ≠ _; dsimp only; omega) (.int .i64 0)).aside (p := ⟨w.heap.size + 1 + 1, 0, none⟩) (by show _ ≠ _; dsimp only; omega) (.string ⟨#[]⟩)).put 0 (.int .i64 0))).drew
  have B4 := (((HB3.out.setCell (p := ⟨w.heap.size + 1, 0, none⟩) (by simp) (.int .i64 0)).setCell (p := ⟨w.heap.size + 1 + 1, 0, none⟩) (by simp; omega) (.string ⟨#[]⟩)).setCell (p := ⟨w.heap.size + 1 + 1 + 1, 0, none⟩) (by simp; omega) (.int .i64 0)).drew
  generalize (((V.setCell ⟨w.heap.size + 1, 0, none⟩ (.int .i64 0)).setCell ⟨w.heap.size + 1 + 1, 0, none⟩ (.string ⟨#[]⟩)).setCell ⟨w.heap.size + 1 + 1 + 1, 0, none⟩ (.int .i64 0)).drew = V' at *
  have ck4 : V'.cell? ⟨w.heap.size + 1, 0, none⟩ = some (.int .i64 0) := (K4.at_ 0).trans rfl
  have ct4 : V'.cell? ⟨w.heap.size + 1 + 1, 0, none⟩ = some (.string ⟨#[]⟩) := (T4.at_ 0).trans rfl
  have cn4 : V'.cell? ⟨w.heap.size + 1 + 1 + 1, 0, none⟩ = some (.int .i64 0) := (N4.at_ 0).trans rfl
  have HB4 := Lib.hid B4
  clear K4 T4 N4 B4
  go_wp2
  refine bodyPost_ret (v := .tuple #[.int .i64 0, .string ⟨#[]⟩, .int .i64 0, .int .i64 c]) ?_ rfl ⟨rfl, HB4.out⟩
  simp [results, Tryz.results28, go_sem, ck4, ct4, cn4]
end Go.Proofs.YtdjhkaofhdcalaaGreatDoor

/-
  line.All, walked.
-/
import Derived.Test.YtdjhkaofhdcalaaGreatDoorLinC
import Derived.Maps.AppendAt
import Derived.OwnWalk
namespace Go.Proofs.YtdjhkaofhdcalaaGreatDoor
open Go.RowKit

/-! ### Two worlds that part at two blocks alone -/
structure Two (a b : Nat) (w w' : World) : Prop where
  os : w'.os = w.os
  tape : w'.tape = w.tape
  output : w'.output = w.output
  size : w.heap.size ≤ w'.heap.size
  block : ∀ k, k < w.heap.size → k ≠ a → k ≠ b → w'.heap[k]? = w.heap[k]?
section
variable {a b B g : Nat} {w w' w'' : World} {t : TypeId} {cs : Array Value}
theorem Two.refl (a b : Nat) (w : World) : Two a b w w := ⟨rfl, rfl, rfl, Nat.le_refl _, fun _ _ _ _ => rfl⟩
theorem Two.trans (h : Two a b w w') (k : Two a b w' w'') : Two a b w w'' :=
  ⟨k.os.trans h.os, k.tape.trans h.tape, k.output.trans h.output, Nat.le_trans h.size k.size, fun i hi h1 h2 => (k.block i (Nat.lt_of_lt_of_le hi h.size) h1 h2).trans (h.block i hi h1 h2)⟩
theorem Two.below (h : Two a b w w') (k : Below w'.heap.size w' w'') : Two a b w w'' :=
  h.trans ⟨k.os, k.tape, k.output, k.size, fun i hi _ _ => k.block i hi⟩
theorem Two.drew (h : Two a b w w') : Two a b w w'.drew := ⟨h.os, h.tape, h.output, h.size, h.block⟩
theorem Two.alloc (h : Two a b w w') (o : Obj) : Two a b w (w'.alloc o) := h.below ((Below.refl _ _).alloc (Nat.le_refl _) o)
theorem Two.set (h : Two a b w w') {p : Addr} (hp : p.block = a ∨ p.block = b) (u : Value) : Two a b w (w'.setCell p u) :=
  ⟨h.os, h.tape, h.output, by simpa [World.setCell] using h.size, fun i hi h1 h2 => (Below.heap_setCell w' p u i (by
    rintro rfl
    rcases hp with hp | hp
    · exact h1 hp
    · exact h2 hp)).trans (h.block i hi h1 h2)⟩
theorem Two.grown (h : Two a b w w') {row : Option Nat} (k : w'.grownBy w'' row) (hr : ∀ j, row = some j → w.heap.size ≤ j) : Two a b w w'' :=
  ⟨k.os.trans h.os, k.tape.trans h.tape, k.output.trans h.output, Nat.le_trans h.size k.size, fun i hi h1 h2 => (k.block i (Nat.lt_of_lt_of_le hi h.size) (fun e => by
    have := hr i e.symm; omega)).trans (h.block i hi h1 h2)⟩
theorem Two.to (h : Two a b w w') (ha : B ≤ a) (hb : B ≤ b) (hB : B ≤ w.heap.size) : Below B w w' :=
  ⟨h.os, h.tape, h.output, h.size, fun i hi => h.block i (by omega) (by omega) (by omega)⟩
theorem Whole.two (hw : Whole w g t cs) (h : Two a b w w') (h1 : g ≠ a) (h2 : g ≠ b) : Whole w' g t cs := (h.block g hw.lt h1 h2).trans hw
end

/-! ### What All tells -/
def S (l : List UInt8) : Value := .string ⟨l.toArray⟩
def allGo : Nat → List UInt8 → Nat → List (List UInt8) → (List (List UInt8) × Nat) ⊕ Int
  | 0, _, _, _ => .inr 0
  | f + 1, s, r, acc =>
    match firstV (s.drop r) with
    | .inr c => .inr c
    | .inl (k, t, n) => if k = 2 then .inl (acc, r + n) else allGo f s (r + n) (acc ++ [t])
theorem lenGo_len (f z : Nat) (s : List UInt8) (n : Nat) (h : lenGo f z s = .inl n) : f ≤ s.length := by
  induction f generalizing z s with
  | zero => omega
  | succ f ih =>
    cases s with
    | nil => exact nomatch h
    | cons c r =>
      rw [lenGo] at h
      split at h
      · exact nomatch h
      · split at h
        · have := ih _ _ h; simp; omega
        · exact nomatch h
theorem firstV_le (s : List UInt8) (k n : Nat) (t : List UInt8) (h : firstV s = .inl (k, t, n)) : 4 ≤ n ∧ n ≤ s.length ∧ n ≤ 1004 := by
  unfold firstV at h
  split at h
  · exact nomatch h
  · rename_i m hm
    have h4 := lenGo_len _ _ _ _ hm
    have hle := lenGo_le _ _ _ _ hm (by omega)
    split at h
    · injection h with h; injection h with h1 h; injection h with h2 h; omega
    · split at h
      · injection h with h; injection h with h1 h; injection h with h2 h; omega
      · split at h
        · exact nomatch h
        · split at h
          · exact nomatch h
          · injection h with h; injection h with h1 h; injection h with h2 h; omega
theorem str_from (l : List UInt8) (a : Nat) (ha : a ≤ l.length) (w : World) : (Instr.slice 9 (.string ⟨l.toArray⟩) (some (.int .i64 (a : Int))) none none).run Tryz.prog w = .ok (.string ⟨(l.drop a).toArray⟩) w := by
  have hsz : (ByteArray.mk l.toArray).size = l.length := by simp [ByteArray.size]
  rw [run_slice_string_l (w := w) (ht := Tryz.underlying9) (kl := .i64) (h0 := by omega) (h1 := by rw [hsz]; omega), hsz, ByteArray.extract_mk]
  simp [List.take_of_length_le]

theorem infoS : (Tryz.prog.info? 9).map (fun i => (i.zero, i.size, i.bytes)) = some (some (.string ⟨#[]⟩), 1, 16) := by kernel_rfl
def AllE (W : World) (br bl : Nat) : (List (List UInt8) × Nat) ⊕ Int → Ending → World → Prop
  | .inl (l, r), e, w' => e = .returned (.tuple #[]) ∧ ∃ v, Whole w' br 3 #[.int .i64 (r : Int)] ∧ Whole w' bl 52 #[v] ∧ w'.ownsRow W.heap.size 9 1 v l.length (l.map S)
  | .inr c, e, _ => e = .panicked (fault c)
set_option maxRecDepth 100000 in
set_option maxHeartbeats 2000000 in
theorem all1_any (bs br bl : Nat) (s : List UInt8) (W : World) (hlen : s.length < 1099511627776) (hs : Whole W bs 9 #[.string ⟨s.toArray⟩]) (hr : Whole W br 3 #[.int .i64 0]) (hl : Whole W bl 52 #[.slice none 0 0])
    (h1 : bs ≠ br) (h2 : bs ≠ bl) (h3 : br ≠ bl) :
    Calls Tryz.prog 66 #[.pointer (some ⟨bs, 0, none⟩), .pointer (some ⟨br, 0, none⟩), .pointer (some ⟨bl, 0, none⟩)] W fun e w' => Two br bl W w' ∧ AllE W br bl (allGo (s.length + 1) s 0 []) e w' := by
  obtain ⟨fin, hfin⟩ : ∃ fin, fin = allGo (s.length + 1) s 0 [] := ⟨_, rfl⟩
  rw [← hfin]
  have HFIN := Lib.hid hfin
  have HS := Lib.hid hs
  have HR := Lib.hid hr
  have HL := Lib.hid hl
  clear hfin hs hr hl
  obtain ⟨si, hsi, hsz0, hsz1, hsz2⟩ := info_parts infoS
  go_enter Tryz.func66, Tryz.ntmps66
  go_wp2_with fail
  go_loopw [3] (fun _ wr => ∃ f r : Nat, ∃ acc v, r ≤ s.length ∧ s.length - r < f ∧ f ≤ s.length + 1 ∧ acc.length ≤ r ∧ fin = allGo f s r acc ∧ Two br bl W wr ∧ Whole wr br 3 #[.int .i64 (r : Int)] ∧ Whole wr bl 52 #[v] ∧ wr.ownsRow W.heap.size 9 1 v acc.length (acc.map S)) (fun _ wr => s.length - (intOf ((wr.cell? ⟨br, 0, none⟩).getD undef)).toNat)
  case atStart => exact ⟨s.length + 1, 0, [], .slice none 0 0, by omega, by omega, by omega, by simp, HFIN.out, Two.refl _ _ _, HR.out, HL.out, World.ownsRow_nil _ _ _ _⟩
  case round =>
    obtain ⟨f, r, acc, v, hr, hf, hf2, hacc, hgo, hT, hR, hL, hown⟩ := hrel
    obtain ⟨f, rfl⟩ : ∃ g, f = g + 1 := ⟨f - 1, by omega⟩
    have cs : wr.cell? ⟨bs, 0, none⟩ = some (.string ⟨s.toArray⟩) := ((HS.out.two hT h1 h2).at_ 0).trans rfl
    have cr : wr.cell? ⟨br, 0, none⟩ = some (.int .i64 (r : Int)) := (hR.at_ 0).trans rfl
    have hfr := str_from s r hr
    have hf1 := first_any (s.drop r) wr
    have HT := Lib.hid hT
    have HRD := Lib.hid hR
    have HLN := Lib.hid hL
    have HO := Lib.hid hown
    rw [allGo] at hgo
    cases hv : firstV (s.drop r) with
    | inr c =>
      rw [hv] at hgo hf1
      have HG := Lib.hid hgo
      have HF : Hid (Calls Tryz.prog 65 #[.string ⟨(s.drop r).toArray⟩] wr fun e w' => e = .panicked (fault c) ∧ Below wr.heap.size wr w') := hf1
      clear hgo hf1 hv hT hR hL hown
      generalize s.drop r = d at *
      go_wp2_with fail
      refine HF.out.mono ?_
      rintro e w1 ⟨rfl, hB⟩
      exact ⟨rfl, HT.out.below hB, by rw [HG.out]; exact rfl⟩
    | inl x =>
      obtain ⟨k, t, n⟩ := x
      obtain ⟨hn4, hnl, hn1⟩ := firstV_le _ _ _ _ hv
      rw [List.length_drop] at hnl
      rw [hv] at hgo hf1
      have HF : Hid (Calls Tryz.prog 65 #[.string ⟨(s.drop r).toArray⟩] wr fun e w' => e = .returned (.tuple #[.int .i64 (k : Int), .string ⟨t.toArray⟩, .int .i64 (n : Int)]) ∧ Below wr.heap.size wr w') := hf1
      have hgo' : fin = if k = 2 then .inl (acc, r + n) else allGo f s (r + n) (acc ++ [t]) := hgo
      clear hgo hf1 hv hT hR hL hown
      generalize s.drop r = d at *
      by_cases hk : k = 2
      · rw [if_pos hk] at hgo'
        have HG := Lib.hid hgo'
        have hb : ((k : Int) == 2) = true := by simp [hk]
        clear hgo' hk
        go_wp2_with fail
        refine HF.out.mono ?_
        rintro e w1 ⟨rfl, hB⟩
        have HB := Lib.hid hB
        have R1 := HRD.out.below hB HRD.out.lt
        have hbr := HR.out.lt
        have hbl := HL.out.lt
        have cr1 : w1.cell? ⟨br, 0, none⟩ = some (.int .i64 (r : Int)) := (R1.at_ 0).trans rfl
        have zr1 := R1.thawed 0
        clear hB R1
        go_wp2
        refine bodyPost_ret (results_none rfl _ _ _) rfl ⟨(HT.out.below HB.out).set (.inl rfl) _, ?_⟩
        rw [HG.out]
        refine ⟨rfl, v, ?_, (HLN.out.below HB.out HLN.out.lt).aside (by show _ ≠ _; dsimp only; omega) _, ?_⟩
        · have := (HRD.out.below HB.out HRD.out.lt).put 0 (.int .i64 ((r : Int) + (n : Int)))
          rw [show (r : Int) + (n : Int) = ((r + n : Nat) : Int) by omega] at this ⊢
          exact this
        · refine World.ownsRow.kept HO.out (row := some br) (gr_set (gr_below (gr_refl _ _) HB.out) (.inl rfl) _) ?_
          cases hob : v.ownBlock with
          | none => exact .inl rfl
          | some j => exact .inr (fun e => by have := (HO.out.lt j hob).1; injection e with e; omega)
      · rw [if_neg hk] at hgo'
        have HG := Lib.hid hgo'
        have hb : ((k : Int) == 2) = false := beq_eq_false_iff_ne.2 (by omega)
        clear hgo' hk
        go_wp2_with fail
        refine HF.out.mono ?_
        rintro e w1 ⟨rfl, hB⟩
        have HB := Lib.hid hB
        have R1 := HRD.out.below hB HRD.out.lt
        have cr1 : w1.cell? ⟨br, 0, none⟩ = some (.int .i64 (r : Int)) := (R1.at_ 0).trans rfl
        have zr1 := R1.thawed 0
        have L1 := (HLN.out.below hB HLN.out.lt)
        have cl1 : w1.cell? ⟨bl, 0, none⟩ = some v := (L1.at_ 0).trans rfl
        have zl1 := L1.thawed 0
        clear hB R1 L1
        have hlim : acc.length + 1 ≤ s.length := by omega
        have hob : ∀ j, v.ownBlock = some j → W.heap.size ≤ j := fun j hj => (HO.out.lt j hj).1
        have hbr := HR.out.lt
        have hbl := HL.out.lt
        have hWs := HT.out.size
        have hW1 := HB.out.size
        have HO2 : Hid ((w1.setCell ⟨br, 0, none⟩ (.int .i64 ((r : Int) + (n : Int)))).ownsRow W.heap.size 9 1 v acc.length (acc.map S)) := by
          refine World.ownsRow.kept HO.out (row := some br) (gr_set (gr_below (gr_refl _ _) HB.out) (.inl rfl) _) ?_
          cases hobb : v.ownBlock with
          | none => exact .inl rfl
          | some j => exact .inr (fun e => by have := hob j hobb; injection e with e; omega)
        have HR2 : Hid (Whole (w1.setCell ⟨br, 0, none⟩ (.int .i64 ((r : Int) + (n : Int)))) br 3 #[.int .i64 ((r : Int) + (n : Int))]) := (HRD.out.below HB.out HRD.out.lt).put 0 (.int .i64 ((r : Int) + (n : Int)))
        have HL2 : Hid (Whole (w1.setCell ⟨br, 0, none⟩ (.int .i64 ((r : Int) + (n : Int)))) bl 52 #[v]) := (HLN.out.below HB.out HLN.out.lt).aside (by show _ ≠ _; dsimp only; omega) _
        have HT2 : Hid (Two br bl W (w1.setCell ⟨br, 0, none⟩ (.int .i64 ((r : Int) + (n : Int))))) := (HT.out.below HB.out).set (.inl rfl) _
        have HC : Hid (∀ j u, [Value.string ⟨t.toArray⟩][j]? = some u → ((w1.setCell ⟨br, 0, none⟩ (.int .i64 ((r : Int) + (n : Int)))).alloc (.cells #[.string ⟨t.toArray⟩] 9)).cell? ((⟨w1.heap.size, 0, none⟩ : Addr).add j) = some u) := by
          intro j u hu
          have h := (Whole.made (w1.setCell ⟨br, 0, none⟩ (.int .i64 ((r : Int) + (n : Int)))) 9 #[.string ⟨t.toArray⟩]).at_ j
          rw [World.size_setCell] at h
          rw [Addr.add_mid, Nat.zero_add, h]
          simpa using hu
        have hsz6 : W.heap.size ≤ ((w1.setCell ⟨br, 0, none⟩ (.int .i64 ((r : Int) + (n : Int)))).alloc (.cells #[.string ⟨t.toArray⟩] 9)).heap.size := by simp; omega
        go_wp2_with (at_builtin; go_loud (refine wpList_append_own_at _ rfl _ _ 52 rfl W.heap.size 9 si (.string ⟨#[]⟩) 1 16 Tryz.underlying52 hsi hsz0 hsz1 hsz2 rfl (by decide) v acc.length (acc.map S) rfl (HO2.out.alloc _) ⟨w1.heap.size, 0, none⟩ 1 1 [.string ⟨t.toArray⟩] rfl rfl HC.out (by simp [Value.oneCell']) (by unfold maxLen; omega) (by omega) hsz6 ?_); intro v' w5 hown' hgrow hnil hloc; have HO5 := Lib.hid hown'; have HG5 := Lib.hid hgrow; have HBL5 := Lib.hid (((HL2.out.past _)).grown hgrow (fun e => by have := hob bl e.symm; omega)); have cl5 := (HBL5.out.at_ 0).trans (rfl : _ = some v); have zl5 := HBL5.out.thawed 0; obtain ⟨g5, cap5, rfl⟩ : ∃ g c, v' = Value.slice (some ⟨g, 0, none⟩) (acc.length + 1) c := (by rcases hown'.2 with ⟨-, h0⟩ | ⟨g, c, _, h, -⟩; exact absurd h0 (by omega); exact ⟨g, c, h⟩); clear hown' hgrow hnil hloc)
        have HR5 : Hid (Whole w5 br 3 #[.int .i64 (((r + n : Nat)) : Int)]) := by
          have := (HR2.out.past (.cells #[.string ⟨t.toArray⟩] 9)).grown HG5.out (fun e => by have := hob br e.symm; omega)
          rw [show (r : Int) + (n : Int) = ((r + n : Nat) : Int) by omega] at this
          exact this
        have HR6 : Hid (Whole (w5.setCell ⟨bl, 0, none⟩ (.slice (some ⟨g5, 0, none⟩) (acc.length + 1) cap5)) br 3 #[.int .i64 (((r + n : Nat)) : Int)]) := HR5.out.aside (by show _ ≠ _; dsimp only; omega) _
        have hgw := (HO5.out.lt g5 rfl).1
        refine ⟨⟨f, r + n, acc ++ [t], .slice (some ⟨g5, 0, none⟩) (acc.length + 1) cap5, by omega, by omega, by omega, by simp; omega, HG.out, ?_, HR6.out, ?_, ?_⟩, ?_⟩
        · exact ((HT2.out.alloc _).grown HG5.out hob).set (.inr rfl) _
        · have := HBL5.out.put 0 (.slice (some ⟨g5, 0, none⟩) (acc.length + 1) cap5)
          exact this
        · have := World.ownsRow.kept HO5.out (row := some bl) (gr_set (gr_refl w5 (some bl)) (p := ⟨bl, 0, none⟩) (.inl rfl) (.slice (some ⟨g5, 0, none⟩) (acc.length + 1) cap5)) (.inr (fun e => by have e : some g5 = some bl := e; injection e with e; omega))
          rw [List.map_append, List.length_append]
          exact this
        · rw [HR6.out.at_ 0, cr]
          simp [intOf]
          omega
end Go.Proofs.YtdjhkaofhdcalaaGreatDoor

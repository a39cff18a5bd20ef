/-
  What the reference's parts of a tree's text say: the plain part.
  The reference's GetTree, walked.
-/
import Derived.Test.YtfaijkgfhdhhbaaGreatDoorMgg
import Derived.Test.YtfaijkgfhdhhbaaGreatDoorMgs
namespace Go.Proofs.YtfaijkgfhdhhbaaGreatDoor

theorem raw_at (t : List UInt8) (k : Nat) (h2 : 2 ≤ k) (hk : k + 33 ≤ t.length) (hz : t.getD k 0 = 0) (hnz : ∀ j, 2 ≤ j → j < k → t.getD j 0 ≠ 0) (x : Nm) (hx : x.l = (t.drop (k + 1)).take 32) :
    rawEnt t = if (t.getD 0 0 = 100 ∨ t.getD 0 0 = 102) ∧ t.getD 1 0 = 32 then some (⟨(t.take k).drop 2, t.getD 0 0 == 100, x⟩, t.drop (k + 33)) else none := by
  match t, hk with
  | [], hk => simp at hk
  | [_], hk => simp at hk
  | m :: sp :: r, hk =>
    obtain ⟨k, rfl⟩ : ∃ j, k = j + 2 := ⟨k - 2, by omega⟩
    have hz' : r.getD k 0 = 0 := by simpa using hz
    have hnz' : ∀ j, j < k → r.getD j 0 ≠ 0 := fun j hj => by simpa using hnz (j + 2) (by omega) (by omega)
    simp only [List.length_cons] at hk
    have hc := ncut_at r k hnz' (by omega) hz'
    unfold rawEnt
    dsimp only
    rw [hc]
    show (if (m = 100 ∨ m = 102) ∧ sp = 32 then _ else _) = if (m = 100 ∨ m = 102) ∧ sp = 32 then _ else _
    split
    · dsimp only
      rw [dif_pos (by rw [List.length_drop]; omega)]
      congr 2
      · congr 1
        · exact Nm.same (by rw [hx]; simp)
      · simp
    · rfl
theorem raw_short (t : List UInt8) (k : Nat) (h2 : 2 ≤ k) (hk : ¬ k + 33 ≤ t.length) (hz : k < t.length → t.getD k 0 = 0) (hnz : ∀ j, 2 ≤ j → j < k → t.getD j 0 ≠ 0) : rawEnt t = none := by
  match t with
  | [] => rfl
  | [_] => rfl
  | m :: sp :: r =>
    obtain ⟨k, rfl⟩ : ∃ j, k = j + 2 := ⟨k - 2, by omega⟩
    have hnz' : ∀ j, j < k → r.getD j 0 ≠ 0 := fun j hj => by simpa using hnz (j + 2) (by omega) (by omega)
    simp only [List.length_cons] at hk hz
    unfold rawEnt
    dsimp only
    split
    · by_cases hkr : k < r.length
      · have hz' : r.getD k 0 = 0 := by simpa using hz (by omega)
        rw [ncut_at r k hnz' hkr hz']
        dsimp only
        rw [dif_neg (by rw [List.length_drop]; omega)]
      · rw [ncut_none r (fun j hj => hnz' j (by omega))]
    · rfl
theorem encT_name (acc : List En) (t s : List UInt8) (h : encT acc ++ t = s) : ∀ e ∈ acc, e.name.length ≤ s.length := by
  intro e he
  obtain ⟨a, b, rfl⟩ := List.append_of_mem he
  rw [← h]
  simp only [encT, List.flatMap_append, List.flatMap_cons, List.length_append, bytesE_len]
  omega
theorem okName_le (s : List UInt8) (h : okName s = true) : s.length ≤ 20 := by
  simp only [okName, Bool.and_eq_true, decide_eq_true_eq] at h
  exact h.1.1.1.2
theorem mayT_names (es : List En) (h : mayT es = true) : es.length ≤ 20 ∧ ∀ e ∈ es, e.name.length ≤ 20 := by
  simp only [mayT, Bool.and_eq_true, decide_eq_true_eq] at h
  refine ⟨h.1, fun e he => ?_⟩
  obtain ⟨j, hj, rfl⟩ := List.mem_iff_getElem.1 he
  have := risesTo_at es h.2 hj
  simp only [okAt, Bool.and_eq_true] at this
  have e2 : (es.getD j default) = es[j] := by simp [List.getD, List.getElem?_eq_getElem hj]
  rw [e2] at this
  exact okName_le _ this.1
theorem encT_le : ∀ (es : List En), (∀ e ∈ es, e.name.length ≤ 20) → (encT es).length ≤ es.length * 55
  | [], _ => by simp [encT]
  | e :: es, h => by
    have ih := encT_le es (fun x hx => h x (by simp [hx]))
    have h1 := h e (by simp)
    have h2 := bytesE_len e
    rw [show encT (e :: es) = bytesE e ++ encT es from rfl, List.length_append, List.length_cons]
    omega
theorem mayT_bytes (es : List En) (h : mayT es = true) : (encT es).length ≤ 1100 := by
  obtain ⟨h1, h2⟩ := mayT_names es h
  have := encT_le es h2
  omega
end Go.Proofs.YtfaijkgfhdhhbaaGreatDoor
namespace Go.Proofs.YtfaijkgfhdhhbaaGreatDoor
open Go.RowKit

/-- What the reference's GetTree tells. -/
def GotR (s : List UInt8) (e : Ending) (w' : World) : Prop :=
  (∃ es A c, getT s = some es ∧ e = .returned (.tuple #[.slice A (List.length es) c, .bool true]) ∧ ArgE w' A c es) ∨ (getT s = none ∧ e = .returned (.tuple #[.slice none 0 0, .bool false]))
def GotRo (B : Nat) (s : List UInt8) (e : Ending) (w' : World) : Prop :=
  (∃ es A c, getT s = some es ∧ e = .returned (.tuple #[.slice A (List.length es) c, .bool true]) ∧ ArgE w' A c es ∧ ∀ j, inBlk A j → B ≤ j) ∨ (getT s = none ∧ e = .returned (.tuple #[.slice none 0 0, .bool false]))
theorem build_E (nm : ByteArray) (d : Bool) (w : World) : (Instr.build 49 #[(0, .string nm), (1, .bool d)]).run Tryz.prog w = .ok (.agg (.string nm :: .bool d :: encN zE.id).toArray) w := by kernel_rfl
/-- A name of which the first i bytes are laid. -/
def partN (x : Nm) (i : Nat) : Nm := ⟨x.l.take i ++ List.replicate (32 - min i 32) 0, by rw [List.length_append, List.length_take, List.length_replicate, x.h]; omega⟩
theorem partN_zero (x : Nm) : partN x 0 = zE.id := Nm.same (by simp [partN, zE])
theorem partN_all (x : Nm) : partN x 32 = x := Nm.same (by
  show x.l.take 32 ++ _ = x.l
  rw [List.take_of_length_le (by rw [x.h]; omega)]
  simp)
theorem partN_step (nm : List UInt8) (d : Bool) (x : Nm) (i : Nat) (hi : i < 32) : (encE ⟨nm, d, partN x i⟩).toArray.setIfInBounds (2 + i) (Y (x.l.getD i 0)) = (encE ⟨nm, d, partN x (i + 1)⟩).toArray := by
  apply Array.toList_inj.1
  rw [Array.toList_setIfInBounds]
  show (Value.string _ :: Value.bool _ :: encN (partN x i)).set (2 + i) _ = Value.string _ :: Value.bool _ :: encN (partN x (i + 1))
  rw [show 2 + i = i + 1 + 1 by omega, List.set_cons_succ, List.set_cons_succ]
  congr 2
  show ((x.l.take i ++ List.replicate (32 - min i 32) 0).map Y).set i (Y (x.l.getD i 0)) = (x.l.take (i + 1) ++ List.replicate (32 - min (i + 1) 32) 0).map Y
  rw [← List.map_set, take_snoc' x.l i (by rw [x.h]; exact hi), List.set_append_right _ _ (by rw [List.length_take]; omega), List.length_take, x.h, show 32 - min i 32 = (32 - min (i + 1) 32) + 1 by omega, List.replicate_succ, show i - min i 32 = 0 by omega, List.set_cons_zero, List.append_assoc, List.singleton_append]
def mayO : Option (List En) → Option (List En)
  | some es => if mayT es then some es else none
  | none => none
theorem getT_may (s : List UInt8) : getT s = mayO (rawGo (s.length + 1) s []) := by
  unfold getT mayO
  rfl
set_option maxRecDepth 100000 in
set_option maxHeartbeats 4000000 in
theorem rgettO_any (s : List UInt8) (w : World) (hl : s.length ≤ 1048576) :
    Calls Tryz.prog 43 #[.string ⟨s.toArray⟩] w fun e w' => GotRo w.heap.size s e w' ∧ Below w.heap.size w w' := by
  obtain ⟨i0, hi, hz0, hz1, hz2⟩ := info_parts info34
  have hgt := getT_may s
  obtain ⟨R, hR⟩ : ∃ R, R = rawGo (s.length + 1) s [] := ⟨_, rfl⟩
  rw [← hR] at hgt
  have HGT := Lib.hid hgt
  have HR := Lib.hid hR
  clear hR hgt
  go_enter Tryz.func43, Tryz.ntmps43
  go_wp2
  go_loopg [4, 5, 6, 7, 8] s.length (fun g s4 s5 _ _ _ wr => ∃ (t : List UInt8) (acc : List En), t.length ≤ g ∧ s5 = .string ⟨t.toArray⟩ ∧ wr.ownsRow w.heap.size 49 34 s4 acc.length (acc.flatMap encE) ∧ Hid (Below w.heap.size w wr) ∧ w.heap.size ≤ wr.heap.size ∧ Hid (rawGo (t.length + 1) t acc = R) ∧ Hid (encT acc ++ t = s))
  case atStart => exact ⟨s, [], Nat.le_refl _, rfl, by simpa using World.ownsRow_nil _ _ _ _, Lib.hid (Below.refl _ _), Nat.le_refl _, Lib.hid HR.out.symm, Lib.hid rfl⟩
  case round =>
    obtain ⟨t, acc, hg, rfl, hown, hwr, hsz, hgo, henc⟩ := hrel
    have HOWN := Lib.hid hown
    have htl : acc.length + t.length ≤ s.length := by
      rw [← henc.out, List.length_append]
      have := encT_len_le acc
      omega
    obtain ⟨A0, c0, rfl, harg⟩ := own_argE hown
    have HARG := Lib.hid harg
    clear hown harg
    by_cases ht : t = []
    · subst ht
      have HRS : Hid (R = some acc) := by show _ = _; rw [← hgo.out]; rfl
      have HNM := Lib.hid (encT_name acc [] s henc.out)
      rw [HRS.out] at HGT
      have hl9 : acc.length ≤ 1048576 := by omega
      go_wp2_with fail
      refine (rtmay_any A0 c0 acc wr HARG.out hl9 (fun e he => by have := HNM.out e he; omega)).mono ?_
      rintro e w2 ⟨rfl, hB⟩
      have HB2 := Lib.hid (hwr.out.trans (hB.mono hwr.out.size))
      have HAR := Lib.hid (HARG.out.later hB)
      clear hB
      cases hm : mayT acc with
      | true =>
        have HE : Hid (getT s = some acc) := by show _ = _; rw [HGT.out]; show (if mayT acc then some acc else none) = _; rw [hm]; rfl
        go_wp2
        go_ret2
        exact ⟨.inl ⟨acc, A0, c0, HE.out, rfl, HAR.out, by rintro j ⟨a, rfl, rfl⟩; exact (HOWN.out.lt a.block rfl).1⟩, HB2.out⟩
      | false =>
        have HE : Hid (getT s = none) := by show _ = _; rw [HGT.out]; show (if mayT acc then some acc else none) = _; rw [hm]; rfl
        go_wp2
        go_ret2
        exact ⟨.inr ⟨HE.out, rfl⟩, HB2.out⟩
    · have hf : (t == []) = false := by simp [ht]
      have HGO : Hid (R = match rawEnt t with | some (e, u) => rawGo t.length u (acc ++ [e]) | none => none) := by
        show _ = _
        rw [← hgo.out, rawGo, if_neg ht]
        rfl
      clear ht
      go_wp2
      go_loopg [6] t.length (fun g s6 wr2 => ∃ k : Nat, 2 ≤ k ∧ k ≤ t.length + 2 ∧ t.length + 2 - k ≤ g + 2 ∧ s6 = .int .i64 k ∧ wr2 = wr ∧ Hid (∀ j, 2 ≤ j → j < k → t.getD j 0 ≠ 0))
      case atStart => exact ⟨2, Nat.le_refl _, by omega, by omega, rfl, rfl, Lib.hid fun j h1 h2 => by omega⟩
      case round =>
        obtain ⟨k, hk2, hkt, hg2, rfl, rfl, hnz⟩ := hrel
        by_cases hlt : k < t.length
        · have hlt' : (k : Int) < (t.length : Int) := by omega
          have hidx := str_atN t k hlt
          by_cases hz : t.getD k 0 = 0
          · have hne0 : (((t.getD k 0).toNat : Int) != 0) = false := by rw [hz]; rfl
            by_cases h33 : k + 33 ≤ t.length
            · have hgt33 : decide ((t.length : Int) < (k : Int) + 33) = false := by simp; omega
              have hidx1 : ∀ W, (Instr.index 9 (.string ⟨t.toArray⟩) (.int .i64 1)).run Tryz.prog W = .ok (.int .u8 ((t.getD 1 0).toNat : Int)) W := str_atN t 1 (by omega)
              have hidx0 : ∀ W, (Instr.index 9 (.string ⟨t.toArray⟩) (.int .i64 0)).run Tryz.prog W = .ok (.int .u8 ((t.getD 0 0).toNat : Int)) W := str_atN t 0 (by omega)
              obtain ⟨x, hx⟩ : ∃ x : Nm, x.l = (t.drop (k + 1)).take 32 := ⟨⟨(t.drop (k + 1)).take 32, by rw [List.length_take, List.length_drop]; omega⟩, rfl⟩
              have HX := Lib.hid hx
              have HRAW := Lib.hid (raw_at t k hk2 h33 hz hnz.out x hx)
              clear hx hz
              generalize t.getD k 0 = zk at *
              generalize t.getD 1 0 = sp at *
              generalize t.getD 0 0 = m at *
              by_cases hsp : sp = 32
              · subst hsp
                by_cases hm : m = 100
                · subst hm
                  obtain ⟨nm, hnm⟩ : ∃ nm, nm = (t.take k).drop 2 := ⟨_, rfl⟩
                  have hcut : ∀ W, (Instr.slice 9 (.string ⟨t.toArray⟩) (some (.int .i64 2)) (some (.int .i64 (k : Int))) none).run Tryz.prog W = .ok (.string ⟨nm.toArray⟩) W := by
                    intro W
                    rw [hnm]
                    exact str_cut t 2 k hk2 (by omega) W
                  have hbe := build_E ⟨nm.toArray⟩ true
                  have HNM := Lib.hid hnm
                  clear hnm
                  go_wp2_with fail
                  refine wp_region_any (by kernel_rfl) ?_
                  change wpAny _ _ _ _ _ _ _ (World.drew wr)
                  refine wpAny_take (i := 0) (oi := { dst := some 44, op := _, type := _, pos := _, after := _, guard := none }) (v := .string ⟨t.toArray⟩) rfl (by kernel_rfl) (by kernel_rfl) (by kernel_rfl) (fun _ _ _ h => h) (Or.inl ⟨by rfl, fun W => ?_⟩) ?_
                  · go_simp
                  refine wpAny_take (i := 1) (oi := { dst := some 45, op := _, type := _, pos := _, after := _, guard := none }) (v := .int .i64 (k : Int)) rfl (by kernel_rfl) (by kernel_rfl) (by kernel_rfl) (fun _ _ _ h => h) (Or.inl ⟨by rfl, fun W => ?_⟩) ?_
                  · go_simp
                  refine wpAny_take (i := 2) (oi := { dst := some 46, op := _, type := _, pos := _, after := _, guard := none }) (v := .string ⟨nm.toArray⟩) rfl (by kernel_rfl) (by kernel_rfl) (by kernel_rfl) (fun _ _ _ h => h) (Or.inl ⟨by rfl, fun W => ?_⟩) ?_
                  · go_simp
                  refine wpAny_take (i := 3) (oi := { dst := some 47, op := _, type := _, pos := _, after := _, guard := none }) (v := .string ⟨t.toArray⟩) rfl (by kernel_rfl) (by kernel_rfl) (by kernel_rfl) (fun _ _ _ h => h) (Or.inl ⟨by rfl, fun W => ?_⟩) ?_
                  · go_simp
                  refine wpAny_take (i := 4) (oi := { dst := some 48, op := _, type := _, pos := _, after := _, guard := none }) (v := .int .u8 (((100 : UInt8)).toNat : Int)) rfl (by kernel_rfl) (by kernel_rfl) (by kernel_rfl) (fun _ _ _ h => h) (Or.inl ⟨by rfl, fun W => ?_⟩) ?_
                  · go_simp
                  refine wpAny_take (i := 5) (oi := { dst := some 49, op := _, type := _, pos := _, after := _, guard := none }) (v := .bool true) rfl (by kernel_rfl) (by kernel_rfl) (by kernel_rfl) (fun _ _ _ h => h) (Or.inl ⟨by rfl, fun W => ?_⟩) ?_
                  · go_simp
                  refine wpAny_take (i := 6) (oi := { dst := some 50, op := _, type := _, pos := _, after := _, guard := none }) (v := .agg (encE ⟨nm, true, zE.id⟩).toArray) rfl (by kernel_rfl) (by kernel_rfl) (by kernel_rfl) (fun _ _ _ h => h) (Or.inl ⟨by rfl, fun W => ?_⟩) ?_
                  · go_simp
                    rfl
                  simp only [Act.put]
                  go_simp
                  refine wpAny_ready (rs := [7]) (by kernel_rfl) (by simp) ?_
                  refine AllReady.cons rfl (fun K hK => ?_) AllReady.nil
                  go_simp
                  refine hK _ _ ?_
                  clear hK K
                  generalize hz : (#[Value.string ⟨#[]⟩, Value.bool false, Value.int IntKind.u8 0, Value.int IntKind.u8 0, Value.int IntKind.u8 0, Value.int IntKind.u8 0, Value.int IntKind.u8 0, Value.int IntKind.u8 0, Value.int IntKind.u8 0, Value.int IntKind.u8 0, Value.int IntKind.u8 0, Value.int IntKind.u8 0, Value.int IntKind.u8 0, Value.int IntKind.u8 0, Value.int IntKind.u8 0, Value.int IntKind.u8 0, Value.int IntKind.u8 0, Value.int IntKind.u8 0, Value.int IntKind.u8 0, Value.int IntKind.u8 0, Value.int IntKind.u8 0, Value.int IntKind.u8 0, Value.int IntKind.u8 0, Value.int IntKind.u8 0, Value.int IntKind.u8 0, Value.int IntKind.u8 0, Value.int IntKind.u8 0, Value.int IntKind.u8 0, Value.int IntKind.u8 0, Value.int IntKind.u8 0, Value.int IntKind.u8 0, Value.int IntKind.u8 0, Value.int IntKind.u8 0, Value.int IntKind.u8 0] : Array Value) = z at *
                  have hzs : z.size = 34 := by rw [← hz]; rfl
                  have hG : Whole (wr.alloc (.cells z 49)).drew wr.heap.size 49 z := Whole.made wr 49 z
                  have hB1 : Below wr.heap.size wr (wr.alloc (.cells z 49)).drew := ((Below.refl wr.heap.size wr).alloc (Nat.le_refl _) (.cells z 49)).drew
                  have hs1 : (wr.alloc (.cells z 49)).drew.heap.size = wr.heap.size + 1 := by show (wr.alloc (.cells z 49)).heap.size = _; simp
                  clear hz
                  generalize (wr.alloc (.cells z 49)).drew = w1 at *
                  have hth : w1.there wr.heap.size 0 (encE ⟨nm, true, zE.id⟩).toArray.size := by
                    intro j hj
                    rw [encE_size] at hj
                    refine ⟨?_, hG.thawed _⟩
                    rw [hG.at_, Array.getElem?_eq_getElem (by omega)]
                    rfl
                  have hG2 := whole_setCells (encE ⟨nm, true, zE.id⟩).toArray.toList 0 w1 z hG (by have := encE_len ⟨nm, true, zE.id⟩; simp; omega)
                  rw [List.take_zero, List.nil_append] at hG2
                  have D2 := Lib.hid (be_grown hB1 (gr_setCells (g := wr.heap.size) (encE ⟨nm, true, zE.id⟩).toArray.toList 0 w1 w1 (gr_refl _ _)) (by omega) (fun j hj => by injection hj with hj; omega))
                  have HG2 : Hid (Whole (w1.setCells wr.heap.size 0 (encE ⟨nm, true, zE.id⟩).toArray.toList) wr.heap.size 49 (encE ⟨nm, true, partN x 0⟩).toArray) := by
                    show Whole _ _ _ _
                    rw [partN_zero]
                    exact hG2
                  clear hG2 hB1
                  refine wpAny_ready (rs := [8]) (by kernel_rfl) (by simp) ?_
                  refine AllReady.cons rfl (fun K hK => ?_) AllReady.nil
                  rw [if_pos (by rfl)]
                  refine wp_store_mid 49 _ _ rfl wr.heap.size 0 (encE ⟨nm, true, zE.id⟩).toArray rfl rfl hth (infoE_s _) (encE_all _) ?_
                  refine hK _ _ ?_
                  clear hK K hth hG
                  generalize w1.setCells wr.heap.size 0 (encE ⟨nm, true, zE.id⟩).toArray.toList = w2 at *
                  refine wpAny_done (by kernel_rfl) ?_ _
                  simp only [Act.put]
                  go_simp
                  go_wp2
                  go_loopg [8] 32 (fun g s8 wr3 => ∃ i : Nat, i ≤ 32 ∧ 32 - i ≤ g ∧ s8 = .int .i64 i ∧ Hid (Below wr.heap.size wr wr3) ∧ Hid (Whole wr3 wr.heap.size 49 (encE ⟨nm, true, partN x i⟩).toArray))
                  case atStart => exact ⟨0, Nat.zero_le _, by omega, rfl, D2, HG2⟩
                  case round =>
                    rename World => wq
                    obtain ⟨i, hi2, hg3, rfl, hbq, hwq⟩ := hrel
                    by_cases hlt3 : i < 32
                    · have hlt3' : (i : Int) < 32 := by omega
                      have hidx3 : ∀ W, (Instr.index 9 (.string ⟨t.toArray⟩) (.int .i64 ((k : Int) + 1 + (i : Int)))).run Tryz.prog W = .ok (.int .u8 ((x.l.getD i 0).toNat : Int)) W := by
                        intro W
                        have h := str_atN t (k + 1 + i) (by omega) W
                        rw [show ((k + 1 + i : Nat) : Int) = (k : Int) + 1 + (i : Int) by omega] at h
                        rw [h, HX.out]
                        simp [List.getD, List.getElem?_take_of_lt hlt3, List.getElem?_drop]
                      have hc3 : wq.cell? ⟨wr.heap.size, 2 + i, none⟩ = some (.int .u8 (((partN x i).l.getD i 0).toNat : Int)) := by
                        rw [hwq.out.at_, List.getElem?_toArray, Nat.add_comm 2 i]
                        exact encE_id ⟨nm, true, partN x i⟩ i (by rw [(partN x i).h]; exact hlt3)
                      have hf3 := hwq.out.thawed (2 + i)
                      have HW4 : Hid (Whole (wq.setCell ⟨wr.heap.size, 2 + i, none⟩ (.int .u8 ((x.l.getD i 0).toNat : Int))) wr.heap.size 49 (encE ⟨nm, true, partN x (i + 1)⟩).toArray) := by
                        show Whole _ _ _ _
                        rw [← partN_step nm true x i hlt3]
                        exact hwq.out.put (2 + i) _
                      have HB4 := Lib.hid (Below.setCell (p := ⟨wr.heap.size, 2 + i, none⟩) hbq.out (Nat.le_refl _) (.int .u8 ((x.l.getD i 0).toNat : Int)))
                      generalize x.l.getD i 0 = bx at *
                      go_wp2
                      go_roundg (32 - (i + 1))
                      case measure => omega
                      case rel => exact ⟨i + 1, by omega, Nat.le_refl _, by go_num, HB4, HW4⟩
                    · obtain rfl : i = 32 := by omega
                      have hwe := hwq.out
                      rw [partN_all] at hwe
                      obtain ⟨u, hu⟩ : ∃ u, u = t.drop (k + 33) := ⟨_, rfl⟩
                      have hul : u.length + 33 ≤ t.length := by rw [hu, List.length_drop]; omega
                      have hfr : ∀ W, (Instr.slice 9 (.string ⟨t.toArray⟩) (some (.int .i64 ((k : Int) + 33))) none none).run Tryz.prog W = .ok (.string ⟨u.toArray⟩) W := by
                        intro W
                        have h := str_from t (k + 33) h33 W
                        rw [show ((k + 33 : Nat) : Int) = (k : Int) + 33 by omega] at h
                        rw [h, hu]
                      have hraw : rawEnt t = some (⟨nm, true, x⟩, u) := by
                        rw [HRAW.out, if_pos (by simp), HNM.out, hu]
                        rfl
                      have HN : Hid (rawGo (u.length + 1) u (acc ++ [⟨nm, true, x⟩]) = R) := by
                        show _ = _
                        rw [HGO.out, hraw]
                        exact rawGo_fuel _ _ _ _ (by omega) (by omega)
                      have HEN : Hid (encT (acc ++ [⟨nm, true, x⟩]) ++ u = s) := by
                        show _ = _
                        rw [encT_snoc, List.append_assoc, ← raw_back t _ u hraw]
                        exact henc.out
                      clear hu hraw
                      generalize hee : (⟨nm, true, x⟩ : En) = e at *
                      clear hee
                      have how2 := own_later' HOWN.out hbq.out
                      have hrow : ∀ j, (Value.slice A0 acc.length c0).ownBlock = some j → w.heap.size ≤ j := fun j hj => (HOWN.out.lt j hj).1
                      have HBQ := Lib.hid (hwr.out.trans (hbq.out.mono hwr.out.size))
                      have hsq : w.heap.size ≤ wq.heap.size := HBQ.out.size
                      have hcell : ∀ j v, (encE e)[j]? = some v → (wq.alloc (.cells (encE e).toArray 49)).cell? ((⟨wq.heap.size, 0, none⟩ : Addr).add j) = some v := by
                        intro j v hv
                        have h := (Whole.made wq 49 (encE e).toArray).at_ j
                        rw [Addr.add_mid, Nat.zero_add, h, List.getElem?_toArray]
                        exact hv
                      have HWE := Lib.hid hwe
                      clear hwe
                      go_wp2_with (first
                        | (refine wpList_load_row rfl 49 _ rfl wr.heap.size rfl 49 (encE e).toArray (0, 0) _ HWE.out Tryz.underlying49 rfl (infoE_s _) ?_)
                        | (refine wpList_buildE rfl _ rfl e rfl ?_)
                        | (at_builtin; go_loud (refine wpList_append_own_at _ rfl _ _ 22 rfl w.heap.size 49 i0 (.agg (encE zE).toArray) 34 56 Tryz.underlying22 hi hz0 hz1 hz2 (encE_size zE) (by decide) _ _ _ rfl (how2.alloc _) ⟨wq.heap.size, 0, none⟩ 1 1 (encE e) rfl (by rw [encE_len]) hcell (encE_one e) (by unfold maxLen; omega) (by omega) (by simp; omega) ?_)))
                      intro v' w3 hown' hgr _ _
                      have how3 : w3.ownsRow w.heap.size 49 34 v' (acc ++ [e]).length ((acc ++ [e]).flatMap encE) := by
                        rw [List.length_append, List.flatMap_append]
                        simpa using hown'
                      have HB3 := Lib.hid ((HBQ.out.alloc hsq (.cells (encE e).toArray 49)).grown hgr (by simp; omega) (fun j hj => hrow j hj))
                      have hs3 := HB3.out.size
                      clear hown' hgr how2 hcell hrow
                      go_wp2
                      go_roundg u.length
                      case measure => omega
                      case rel => exact ⟨u, acc ++ [e], Nat.le_refl _, rfl, how3, HB3, hs3, HN, HEN⟩
                · by_cases hm2 : m = 102
                  · subst hm2
                    obtain ⟨nm, hnm⟩ : ∃ nm, nm = (t.take k).drop 2 := ⟨_, rfl⟩
                    have hcut : ∀ W, (Instr.slice 9 (.string ⟨t.toArray⟩) (some (.int .i64 2)) (some (.int .i64 (k : Int))) none).run Tryz.prog W = .ok (.string ⟨nm.toArray⟩) W := by
                      intro W
                      rw [hnm]
                      exact str_cut t 2 k hk2 (by omega) W
                    have hbe := build_E ⟨nm.toArray⟩ false
                    have HNM := Lib.hid hnm
                    clear hnm
                    go_wp2_with fail
                    refine wp_region_any (by kernel_rfl) ?_
                    change wpAny _ _ _ _ _ _ _ (World.drew wr)
                    refine wpAny_take (i := 0) (oi := { dst := some 44, op := _, type := _, pos := _, after := _, guard := none }) (v := .string ⟨t.toArray⟩) rfl (by kernel_rfl) (by kernel_rfl) (by kernel_rfl) (fun _ _ _ h => h) (Or.inl ⟨by rfl, fun W => ?_⟩) ?_
                    · go_simp
                    refine wpAny_take (i := 1) (oi := { dst := some 45, op := _, type := _, pos := _, after := _, guard := none }) (v := .int .i64 (k : Int)) rfl (by kernel_rfl) (by kernel_rfl) (by kernel_rfl) (fun _ _ _ h => h) (Or.inl ⟨by rfl, fun W => ?_⟩) ?_
                    · go_simp
                    refine wpAny_take (i := 2) (oi := { dst := some 46, op := _, type := _, pos := _, after := _, guard := none }) (v := .string ⟨nm.toArray⟩) rfl (by kernel_rfl) (by kernel_rfl) (by kernel_rfl) (fun _ _ _ h => h) (Or.inl ⟨by rfl, fun W => ?_⟩) ?_
                    · go_simp
                    refine wpAny_take (i := 3) (oi := { dst := some 47, op := _, type := _, pos := _, after := _, guard := none }) (v := .string ⟨t.toArray⟩) rfl (by kernel_rfl) (by kernel_rfl) (by kernel_rfl) (fun _ _ _ h => h) (Or.inl ⟨by rfl, fun W => ?_⟩) ?_
                    · go_simp
                    refine wpAny_take (i := 4) (oi := { dst := some 48, op := _, type := _, pos := _, after := _, guard := none }) (v := .int .u8 (((102 : UInt8)).toNat : Int)) rfl (by kernel_rfl) (by kernel_rfl) (by kernel_rfl) (fun _ _ _ h => h) (Or.inl ⟨by rfl, fun W => ?_⟩) ?_
                    · go_simp
                    refine wpAny_take (i := 5) (oi := { dst := some 49, op := _, type := _, pos := _, after := _, guard := none }) (v := .bool false) rfl (by kernel_rfl) (by kernel_rfl) (by kernel_rfl) (fun _ _ _ h => h) (Or.inl ⟨by rfl, fun W => ?_⟩) ?_
                    · go_simp
                    refine wpAny_take (i := 6) (oi := { dst := some 50, op := _, type := _, pos := _, after := _, guard := none }) (v := .agg (encE ⟨nm, false, zE.id⟩).toArray) rfl (by kernel_rfl) (by kernel_rfl) (by kernel_rfl) (fun _ _ _ h => h) (Or.inl ⟨by rfl, fun W => ?_⟩) ?_
                    · go_simp
                      rfl
                    simp only [Act.put]
                    go_simp
                    refine wpAny_ready (rs := [7]) (by kernel_rfl) (by simp) ?_
                    refine AllReady.cons rfl (fun K hK => ?_) AllReady.nil
                    go_simp
                    refine hK _ _ ?_
                    clear hK K
                    generalize hz : (#[Value.string ⟨#[]⟩, Value.bool false, Value.int IntKind.u8 0, Value.int IntKind.u8 0, Value.int IntKind.u8 0, Value.int IntKind.u8 0, Value.int IntKind.u8 0, Value.int IntKind.u8 0, Value.int IntKind.u8 0, Value.int IntKind.u8 0, Value.int IntKind.u8 0, Value.int IntKind.u8 0, Value.int IntKind.u8 0, Value.int IntKind.u8 0, Value.int IntKind.u8 0, Value.int IntKind.u8 0, Value.int IntKind.u8 0, Value.int IntKind.u8 0, Value.int IntKind.u8 0, Value.int IntKind.u8 0, Value.int IntKind.u8 0, Value.int IntKind.u8 0, Value.int IntKind.u8 0, Value.int IntKind.u8 0, Value.int IntKind.u8 0, Value.int IntKind.u8 0, Value.int IntKind.u8 0, Value.int IntKind.u8 0, Value.int IntKind.u8 0, Value.int IntKind.u8 0, Value.int IntKind.u8 0, Value.int IntKind.u8 0, Value.int IntKind.u8 0, Value.int IntKind.u8 0] : Array Value) = z at *
                    have hzs : z.size = 34 := by rw [← hz]; rfl
                    have hG : Whole (wr.alloc (.cells z 49)).drew wr.heap.size 49 z := Whole.made wr 49 z
                    have hB1 : Below wr.heap.size wr (wr.alloc (.cells z 49)).drew := ((Below.refl wr.heap.size wr).alloc (Nat.le_refl _) (.cells z 49)).drew
                    have hs1 : (wr.alloc (.cells z 49)).drew.heap.size = wr.heap.size + 1 := by show (wr.alloc (.cells z 49)).heap.size = _; simp
                    clear hz
                    generalize (wr.alloc (.cells z 49)).drew = w1 at *
                    have hth : w1.there wr.heap.size 0 (encE ⟨nm, false, zE.id⟩).toArray.size := by
                      intro j hj
                      rw [encE_size] at hj
                      refine ⟨?_, hG.thawed _⟩
                      rw [hG.at_, Array.getElem?_eq_getElem (by omega)]
                      rfl
                    have hG2 := whole_setCells (encE ⟨nm, false, zE.id⟩).toArray.toList 0 w1 z hG (by have := encE_len ⟨nm, false, zE.id⟩; simp; omega)
                    rw [List.take_zero, List.nil_append] at hG2
                    have D2 := Lib.hid (be_grown hB1 (gr_setCells (g := wr.heap.size) (encE ⟨nm, false, zE.id⟩).toArray.toList 0 w1 w1 (gr_refl _ _)) (by omega) (fun j hj => by injection hj with hj; omega))
                    have HG2 : Hid (Whole (w1.setCells wr.heap.size 0 (encE ⟨nm, false, zE.id⟩).toArray.toList) wr.heap.size 49 (encE ⟨nm, false, partN x 0⟩).toArray) := by
                      show Whole _ _ _ _
                      rw [partN_zero]
                      exact hG2
                    clear hG2 hB1
                    refine wpAny_ready (rs := [8]) (by kernel_rfl) (by simp) ?_
                    refine AllReady.cons rfl (fun K hK => ?_) AllReady.nil
                    rw [if_pos (by rfl)]
                    refine wp_store_mid 49 _ _ rfl wr.heap.size 0 (encE ⟨nm, false, zE.id⟩).toArray rfl rfl hth (infoE_s _) (encE_all _) ?_
                    refine hK _ _ ?_
                    clear hK K hth hG
                    generalize w1.setCells wr.heap.size 0 (encE ⟨nm, false, zE.id⟩).toArray.toList = w2 at *
                    refine wpAny_done (by kernel_rfl) ?_ _
                    simp only [Act.put]
                    go_simp
                    go_wp2
                    go_loopg [8] 32 (fun g s8 wr3 => ∃ i : Nat, i ≤ 32 ∧ 32 - i ≤ g ∧ s8 = .int .i64 i ∧ Hid (Below wr.heap.size wr wr3) ∧ Hid (Whole wr3 wr.heap.size 49 (encE ⟨nm, false, partN x i⟩).toArray))
                    case atStart => exact ⟨0, Nat.zero_le _, by omega, rfl, D2, HG2⟩
                    case round =>
                      rename World => wq
                      obtain ⟨i, hi2, hg3, rfl, hbq, hwq⟩ := hrel
                      by_cases hlt3 : i < 32
                      · have hlt3' : (i : Int) < 32 := by omega
                        have hidx3 : ∀ W, (Instr.index 9 (.string ⟨t.toArray⟩) (.int .i64 ((k : Int) + 1 + (i : Int)))).run Tryz.prog W = .ok (.int .u8 ((x.l.getD i 0).toNat : Int)) W := by
                          intro W
                          have h := str_atN t (k + 1 + i) (by omega) W
                          rw [show ((k + 1 + i : Nat) : Int) = (k : Int) + 1 + (i : Int) by omega] at h
                          rw [h, HX.out]
                          simp [List.getD, List.getElem?_take_of_lt hlt3, List.getElem?_drop]
                        have hc3 : wq.cell? ⟨wr.heap.size, 2 + i, none⟩ = some (.int .u8 (((partN x i).l.getD i 0).toNat : Int)) := by
                          rw [hwq.out.at_, List.getElem?_toArray, Nat.add_comm 2 i]
                          exact encE_id ⟨nm, false, partN x i⟩ i (by rw [(partN x i).h]; exact hlt3)
                        have hf3 := hwq.out.thawed (2 + i)
                        have HW4 : Hid (Whole (wq.setCell ⟨wr.heap.size, 2 + i, none⟩ (.int .u8 ((x.l.getD i 0).toNat : Int))) wr.heap.size 49 (encE ⟨nm, false, partN x (i + 1)⟩).toArray) := by
                          show Whole _ _ _ _
                          rw [← partN_step nm false x i hlt3]
                          exact hwq.out.put (2 + i) _
                        have HB4 := Lib.hid (Below.setCell (p := ⟨wr.heap.size, 2 + i, none⟩) hbq.out (Nat.le_refl _) (.int .u8 ((x.l.getD i 0).toNat : Int)))
                        generalize x.l.getD i 0 = bx at *
                        go_wp2
                        go_roundg (32 - (i + 1))
                        case measure => omega
                        case rel => exact ⟨i + 1, by omega, Nat.le_refl _, by go_num, HB4, HW4⟩
                      · obtain rfl : i = 32 := by omega
                        have hwe := hwq.out
                        rw [partN_all] at hwe
                        obtain ⟨u, hu⟩ : ∃ u, u = t.drop (k + 33) := ⟨_, rfl⟩
                        have hul : u.length + 33 ≤ t.length := by rw [hu, List.length_drop]; omega
                        have hfr : ∀ W, (Instr.slice 9 (.string ⟨t.toArray⟩) (some (.int .i64 ((k : Int) + 33))) none none).run Tryz.prog W = .ok (.string ⟨u.toArray⟩) W := by
                          intro W
                          have h := str_from t (k + 33) h33 W
                          rw [show ((k + 33 : Nat) : Int) = (k : Int) + 33 by omega] at h
                          rw [h, hu]
                        have hraw : rawEnt t = some (⟨nm, false, x⟩, u) := by
                          rw [HRAW.out, if_pos (by simp), HNM.out, hu]
                          rfl
                        have HN : Hid (rawGo (u.length + 1) u (acc ++ [⟨nm, false, x⟩]) = R) := by
                          show _ = _
                          rw [HGO.out, hraw]
                          exact rawGo_fuel _ _ _ _ (by omega) (by omega)
                        have HEN : Hid (encT (acc ++ [⟨nm, false, x⟩]) ++ u = s) := by
                          show _ = _
                          rw [encT_snoc, List.append_assoc, ← raw_back t _ u hraw]
                          exact henc.out
                        clear hu hraw
                        generalize hee : (⟨nm, false, x⟩ : En) = e at *
                        clear hee
                        have how2 := own_later' HOWN.out hbq.out
                        have hrow : ∀ j, (Value.slice A0 acc.length c0).ownBlock = some j → w.heap.size ≤ j := fun j hj => (HOWN.out.lt j hj).1
                        have HBQ := Lib.hid (hwr.out.trans (hbq.out.mono hwr.out.size))
                        have hsq : w.heap.size ≤ wq.heap.size := HBQ.out.size
                        have hcell : ∀ j v, (encE e)[j]? = some v → (wq.alloc (.cells (encE e).toArray 49)).cell? ((⟨wq.heap.size, 0, none⟩ : Addr).add j) = some v := by
                          intro j v hv
                          have h := (Whole.made wq 49 (encE e).toArray).at_ j
                          rw [Addr.add_mid, Nat.zero_add, h, List.getElem?_toArray]
                          exact hv
                        have HWE := Lib.hid hwe
                        clear hwe
                        go_wp2_with (first
                          | (refine wpList_load_row rfl 49 _ rfl wr.heap.size rfl 49 (encE e).toArray (0, 0) _ HWE.out Tryz.underlying49 rfl (infoE_s _) ?_)
                          | (refine wpList_buildE rfl _ rfl e rfl ?_)
                          | (at_builtin; go_loud (refine wpList_append_own_at _ rfl _ _ 22 rfl w.heap.size 49 i0 (.agg (encE zE).toArray) 34 56 Tryz.underlying22 hi hz0 hz1 hz2 (encE_size zE) (by decide) _ _ _ rfl (how2.alloc _) ⟨wq.heap.size, 0, none⟩ 1 1 (encE e) rfl (by rw [encE_len]) hcell (encE_one e) (by unfold maxLen; omega) (by omega) (by simp; omega) ?_)))
                        intro v' w3 hown' hgr _ _
                        have how3 : w3.ownsRow w.heap.size 49 34 v' (acc ++ [e]).length ((acc ++ [e]).flatMap encE) := by
                          rw [List.length_append, List.flatMap_append]
                          simpa using hown'
                        have HB3 := Lib.hid ((HBQ.out.alloc hsq (.cells (encE e).toArray 49)).grown hgr (by simp; omega) (fun j hj => hrow j hj))
                        have hs3 := HB3.out.size
                        clear hown' hgr how2 hcell hrow
                        go_wp2
                        go_roundg u.length
                        case measure => omega
                        case rel => exact ⟨u, acc ++ [e], Nat.le_refl _, rfl, how3, HB3, hs3, HN, HEN⟩
                  · have HN : Hid (R = none) := by
                      show _ = _
                      rw [HGO.out, HRAW.out, if_neg (by rintro ⟨h1, h2⟩; exact h1.elim hm hm2)]
                    have HE : Hid (getT s = none) := by show _ = _; rw [HGT.out, HN.out]; rfl
                    have q100 : (((m.toNat : Nat) : Int) != 100) = true := by
                      simp only [bne_iff_ne, ne_eq]
                      intro e
                      exact hm (UInt8.toNat_inj.1 (show m.toNat = ((100 : UInt8)).toNat by have : (100 : UInt8).toNat = 100 := rfl; omega))
                    have q102 : (((m.toNat : Nat) : Int) != 102) = true := by
                      simp only [bne_iff_ne, ne_eq]
                      intro e
                      exact hm2 (UInt8.toNat_inj.1 (show m.toNat = ((102 : UInt8)).toNat by have : (102 : UInt8).toNat = 102 := rfl; omega))
                    go_wp2
                    go_ret2
                    exact ⟨.inr ⟨HE.out, rfl⟩, hwr.out⟩
              · have HN : Hid (R = none) := by
                  show _ = _
                  rw [HGO.out, HRAW.out, if_neg (by rintro ⟨h1, h2⟩; exact hsp h2)]
                have HE : Hid (getT s = none) := by show _ = _; rw [HGT.out, HN.out]; rfl
                have q32 : (((sp.toNat : Nat) : Int) != 32) = true := by
                  simp only [bne_iff_ne, ne_eq]
                  intro e
                  exact hsp (UInt8.toNat_inj.1 (show sp.toNat = ((32 : UInt8)).toNat by have : (32 : UInt8).toNat = 32 := rfl; omega))
                go_wp2
                go_ret2
                exact ⟨.inr ⟨HE.out, rfl⟩, hwr.out⟩
            · have hgt33 : decide ((t.length : Int) < (k : Int) + 33) = true := by simp; omega
              have HN : Hid (R = none) := by
                show _ = _
                rw [HGO.out, raw_short t k hk2 h33 (fun _ => hz) hnz.out]
              have HE : Hid (getT s = none) := by show _ = _; rw [HGT.out, HN.out]; rfl
              clear hz
              generalize t.getD k 0 = zk at *
              go_wp2
              go_ret2
              exact ⟨.inr ⟨HE.out, rfl⟩, hwr.out⟩
          · have hne : (((t.getD k 0).toNat : Int) != 0) = true := by
              simp only [bne_iff_ne, ne_eq]
              intro e
              exact hz (UInt8.toNat_inj.1 (by simpa using e))
            have HNZ : Hid (∀ j, 2 ≤ j → j < k + 1 → t.getD j 0 ≠ 0) := by
              intro j h1 h2
              by_cases e : j = k
              · subst e; exact hz
              · exact hnz.out j h1 (by omega)
            clear hz
            generalize t.getD k 0 = x at *
            go_wp2
            go_roundg (t.length + 2 - (k + 1) - 2)
            case measure => omega
            case rel => exact ⟨k + 1, by omega, by omega, by omega, by go_num, rfl, HNZ⟩
        · have hge : decide ((k : Int) < (t.length : Int)) = false := by simp; omega
          have HN : Hid (R = none) := by
            show _ = _
            rw [HGO.out, raw_short t k hk2 (by omega) (fun h => absurd h hlt) hnz.out]
          have HE : Hid (getT s = none) := by show _ = _; rw [HGT.out, HN.out]; rfl
          have hgt33 : decide ((t.length : Int) < (k : Int) + 33) = true := by simp; omega
          go_wp2
          go_ret2
          exact ⟨.inr ⟨HE.out, rfl⟩, hwr.out⟩
theorem rgett_any (s : List UInt8) (w : World) (hl : s.length ≤ 1048576) :
    Calls Tryz.prog 43 #[.string ⟨s.toArray⟩] w fun e w' => GotR s e w' ∧ Below w.heap.size w w' := by
  refine (rgettO_any s w hl).mono ?_
  rintro e w' ⟨⟨es, A, c, h1, h2, h3, -⟩ | h, hb⟩
  · exact ⟨.inl ⟨es, A, c, h1, h2, h3⟩, hb⟩
  · exact ⟨.inr h, hb⟩
end Go.Proofs.YtfaijkgfhdhhbaaGreatDoor

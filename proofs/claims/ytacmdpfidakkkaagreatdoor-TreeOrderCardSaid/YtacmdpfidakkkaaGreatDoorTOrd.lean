/-
  TreeOrder, walked.
-/
import Derived.Test.YtacmdpfidakkkaaGreatDoorBegS
import Derived.Test.YtacmdpfidakkkaaGreatDoorHeldK
import Derived.Test.YtacmdpfidakkkaaGreatDoorTOrM
import Derived.Test.YtacmdpfidakkkaaGreatDoorTurN
namespace Go.Proofs.YtacmdpfidakkkaaGreatDoor
open Go.RowKit

set_option maxRecDepth 100000 in
set_option maxHeartbeats 8000000 in
theorem tord_any (A : Option Addr) (c : Nat) (es : List En) (i0 k0 : Int) (w : World) (hE : Env w) (hT : Tens w) (hA : ArgE w A c es) (hnl : ∀ e ∈ es, e.name.length ≤ maxLen) (hi1 : -9223372036854775808 ≤ i0) (hi2 : i0 ≤ 9223372036854775807) (hk1 : -9223372036854775808 ≤ k0) (hk2 : k0 ≤ 9223372036854775807) :
    Calls Tryz.prog 5 #[.slice A es.length c, .int .i64 i0, .int .i64 k0] w fun e w' => e = .returned (.bool true) ∧ Below w.heap.size w w' := by
  have HE := Lib.hid hE
  have HT := Lib.hid hT
  have HA := Lib.hid hA
  have hlc := hA.1
  have HNL := Lib.hid hnl
  clear hE hT hA hnl
  obtain ⟨m, hm, hm1, hm20⟩ : ∃ m, m = min es.length 20 ∧ m ≤ es.length ∧ m ≤ 20 := ⟨_, rfl, Nat.min_le_left _ _, Nat.min_le_right _ _⟩
  have hmin : ∀ W, (Builtin.min_ #[3, 3] 3 #[.int .i64 (es.length : Int), .int .i64 20]).run Tryz.prog W = .ok (.int .i64 (m : Int)) W := by
    intro W
    rw [run_min_int2]
    congr 2
    split <;> omega
  have hsl := slice_toM (P := Tryz.prog) (A := A) (c := c) 22 42 es.length m Tryz.underlying22 (by kernel_rfl) (by omega)
  clear hm
  go_enter Tryz.func5, Tryz.ntmps5
  go_wp2_with fail
  refine (begun6_any w HE.out HT.out).mono ?_
  rintro e w1 ⟨rfl, hb⟩
  have HB1 := Lib.hid hb
  clear hb HE HT
  go_wp2
  go_loopg [8, 10, 11, 21] m (fun g0 s8 _ _ s21 wr => ∃ (i : Nat) (l : List En) (A9 : Option Addr) (c9 : Nat), s8 = .slice A9 l.length c9 ∧ i ≤ m ∧ m - i ≤ g0 ∧ s21 = .int .i64 i ∧ l.length ≤ i ∧ Hid (wr.ownsRow w.heap.size 42 34 (.slice A9 l.length c9) l.length (l.flatMap encE)) ∧ Hid (Below w.heap.size w wr) ∧ Hid (Up l))
  case atStart => exact ⟨0, [], none, 0, rfl, Nat.zero_le _, by omega, rfl, Nat.le_refl _, Lib.hid (by simpa using World.ownsRow_nil _ _ _ _), HB1, Lib.hid ⟨List.Pairwise.nil, fun x hx => by cases hx⟩⟩
  case round =>
    rename World => wr
    obtain ⟨i, l, A9, c9, rfl, hi, hg, rfl, hll, hown, hwr, hup⟩ := hrel
    by_cases hlt : i < m
    · have hlt' : (i : Int) < (m : Int) := by omega
      obtain ⟨bb, o, rfl, hr⟩ := (HA.out.later hwr.out).2.2.2 (by omega)
      have hrk := hr i (by omega)
      have hyn : (es.getD i default).name.length ≤ 9223372036854775807 := by
        have h9 : es.getD i default = es[i]'(by omega) := by simp [List.getD, List.getElem?_eq_getElem (show i < es.length by omega)]
        rw [h9]
        have := HNL.out _ (List.getElem_mem (show i < es.length by omega))
        unfold maxLen at this
        exact this
      generalize es.getD i default = y at *
      have HRK := Lib.hid hrk
      have HYN := Lib.hid hyn
      clear hr hrk hyn
      go_wp2_with (first
        | (refine wpList_load_mid rfl 42 _ rfl bb (o + i * 34) rfl (encE y) _ HRK.out Tryz.underlying42 rfl (infoE_l y) ?_)
        | (refine wpList_store_whole rfl 42 _ _ rfl wr.heap.size (encE y).toArray rfl rfl 42 _ (Whole.made wr _ _) (infoE_s y) (by rw [encE_size]; kernel_rfl) (encE_all y) ?_; intro w3 hWn hGn; have HW3 := Lib.hid hWn; have HD3 := Lib.hid (made_below' hGn); clear hWn hGn))
      have HB3 := Lib.hid (hwr.out.trans (HD3.out.mono hwr.out.size))
      have HOW3 := Lib.hid (own_later' hown.out HD3.out)
      obtain ⟨A8, c8, he8, harg⟩ := own_argE HOW3.out
      injection he8 with e1 e2 e3
      subst e1 e3
      have HAR := Lib.hid harg
      have hlc9 : (l.length : Int) ≤ (c9 : Int) := by have := harg.1; omega
      have hgs : wr.heap.size < w3.heap.size := HW3.out.lt
      clear e2 harg HRK hwr HD3 hown
      go_loopg [11] l.length (fun g0 s11 wq => ∃ a q : Nat, a ≤ l.length ∧ l.length - a ≤ g0 ∧ s11 = .int .i64 a ∧ Hid (wq = w3.drewN q) ∧ Hid (∀ j, j < a → bl (l.getD j default).name y.name = true))
      case atStart => exact ⟨0, 0, Nat.zero_le _, by omega, rfl, Lib.hid rfl, Lib.hid fun j hj => absurd hj (Nat.not_lt_zero _)⟩
      case round =>
        rename World => wq
        obtain ⟨a, q, ha, hg2, rfl, hwq, hbl⟩ := hrel
        have c2 : wq.cell? ⟨wr.heap.size, 0, none⟩ = some (.string ⟨y.name.toArray⟩) := by rw [hwq.out]; exact whole_name HW3.out
        by_cases hal : a < l.length
        · have hal' : (a : Int) < (l.length : Int) := by omega
          have hnel : ((a : Int) == (l.length : Int)) = false := by rw [beq_eq_false_iff_ne]; omega
          obtain ⟨b9, o9, rfl, hr9⟩ := HAR.out.2.2.2 (by omega)
          have hnm := RowE.name hr9 hal
          have c1 : wq.cell? ⟨b9, o9 + a * 34, none⟩ = some (.string ⟨(l.getD a default).name.toArray⟩) := by rw [hwq.out]; exact hnm
          have hbs : (∀ j, j < a + 1 → bl (l.getD j default).name y.name = true) ∨ bl (l.getD a default).name y.name = false := by
            cases hq : bl (l.getD a default).name y.name with
            | true =>
              refine .inl (fun j hj => ?_)
              rcases Nat.lt_or_ge j a with h | h
              · exact hbl.out j h
              · obtain rfl : j = a := by omega
                exact hq
            | false => exact .inr rfl
          clear hr9 hnm
          have HXX : Hid (l.getD a default = l.getD a default) := rfl
          cases hq : Op.bytesLess (l.getD a default).name y.name with
          | true =>
            have HBS : Hid (∀ j, j < a + 1 → bl (l.getD j default).name y.name = true) := hbs.resolve_right (by rw [show bl (l.getD a default).name y.name = true from hq]; decide)
            clear hbs
            generalize (l.getD a default).name = xn at *
            go_wp2_with fail
            go_quiet (fail)
            go_wp2
            go_roundg (l.length - (a + 1))
            case measure => omega
            case rel => exact ⟨a + 1, q + nq, by omega, Nat.le_refl _, by go_num, Lib.hid (by rw [hwq.out, World.drewN_drewN]), HBS⟩
          | false =>
            clear hbs HXX
            have HX : Hid (a < l.length → bl (l.getD a default).name y.name = false) := fun _ => hq
            have HN := Lib.hid fun W => rname_any y.name W HYN.out
            have HNE : Hid ((((l.getD a default).name == y.name) = false) → a < l.length → (l.getD a default).name ≠ y.name) := fun h _ e => by rw [e] at h; simp at h
            obtain ⟨xn, hxn⟩ : ∃ xn, xn = (l.getD a default).name := ⟨_, rfl⟩
            rw [← hxn] at c1 HNE hq
            have HXE := Lib.hid hxn
            clear hxn
            go_wp2_with fail
            go_quiet (fail)
            go_wp2
            have hN : wq.drewN nq = w3.drewN (q + nq) := by rw [hwq.out, World.drewN_drewN]
            have d1 : (wq.drewN nq).cell? ⟨b9, o9 + a * 34, none⟩ = some (.string ⟨xn.toArray⟩) := c1
            have d2 : (wq.drewN nq).cell? ⟨wr.heap.size, 0, none⟩ = some (.string ⟨y.name.toArray⟩) := c2
            clear hq c1 c2
            generalize wq.drewN nq = w4 at *
            generalize q + nq = N at *
            have HN4 := Lib.hid hN
            clear hN hwq
            cases hon : okName y.name with
            | false =>
              rw [hon] at HN
              clear hon
              refine wp_region_quiet_lit (by kernel_rfl) (by kernel_rfl) ?_
              repeat (first
                | go_big_quiet_step ((go_at_call 20; exact q_same (HN.out _))))
              refine wpQuiet_nil ?_
              rintro _ ⟨n2, rfl⟩
              have hee : w4.drewN n2 = w3.drewN (N + n2) := by rw [HN4.out, World.drewN_drewN]
              rw [hee]
              generalize N + n2 = M at *
              go_wp2
              go_roundg (m - (i + 1))
              case measure => omega
              case rel => exact ⟨i + 1, l, _, c9, rfl, by omega, Nat.le_refl _, by go_num, by omega, Lib.hid (own_later' HOW3.out (be_drewN (Below.refl _ _) M)), Lib.hid (be_drewN HB3.out M), hup⟩
            | true =>
              have HNA := Lib.hid hon
              rw [hon] at HN
              clear hon
              cases hne : (xn == y.name) with
              | true =>
                have hne2 : (xn != y.name) = false := by rw [bne, hne]; rfl
                refine wp_region_quiet_lit (by kernel_rfl) (by kernel_rfl) ?_
                repeat (first
                  | go_big_quiet_step ((go_at_call 20; exact q_same (HN.out _))))
                refine wpQuiet_nil ?_
                rintro _ ⟨n2, rfl⟩
                have hee : w4.drewN n2 = w3.drewN (N + n2) := by rw [HN4.out, World.drewN_drewN]
                rw [hee]
                generalize N + n2 = M at *
                clear hne hne2
                go_wp2
                go_roundg (m - (i + 1))
                case measure => omega
                case rel => exact ⟨i + 1, l, _, c9, rfl, by omega, Nat.le_refl _, by go_num, by omega, Lib.hid (own_later' HOW3.out (be_drewN (Below.refl _ _) M)), Lib.hid (be_drewN HB3.out M), hup⟩
              | false =>
                have hne2 : (xn != y.name) = true := by rw [bne, hne]; rfl
                have HXN : Hid (a < l.length → (l.getD a default).name ≠ y.name) := by
                  rw [← HXE.out]
                  exact HNE.out hne
                refine wp_region_quiet_lit (by kernel_rfl) (by kernel_rfl) ?_
                repeat (first
                  | go_big_quiet_step ((go_at_call 20; exact q_same (HN.out _))))
                refine wpQuiet_nil ?_
                rintro _ ⟨n2, rfl⟩
                have hee : w4.drewN n2 = w3.drewN (N + n2) := by rw [HN4.out, World.drewN_drewN]
                rw [hee]
                generalize N + n2 = M at *
                clear hne hne2 hee d1 d2 HN4
                clear w4
                have hB4 : Below w.heap.size w (w3.drewN M) := be_drewN HB3.out M
                have hA4 : ArgE (w3.drewN M) (some ⟨b9, o9, none⟩) c9 l := HAR.out.later (be_drewN (Below.refl _ _) M)
                have hW4 : Whole (w3.drewN M) wr.heap.size 42 (encE y).toArray := HW3.out.drewN M
                have hgs4 : wr.heap.size < (w3.drewN M).heap.size := hW4.lt
                generalize w3.drewN M = w4 at *
                have hS4 : ∀ W, Below w4.heap.size w4 W → W.rangeAt wr.heap.size 0 (encE y) := fun W h => whole_range (hW4.below h hgs4)
                have HS := Lib.hid hS4
                have HUP : Hid (Up (l.take a ++ [y] ++ l.drop a)) := up_put hup.out ha hbl.out HX.out HNA.out HXN.out
                have hcl : l.length ≤ c9 := by omega
                have hto := slice_toM (P := Tryz.prog) (A := (some ⟨b9, o9, none⟩)) (c := c9) 22 42 l.length a Tryz.underlying22 (by kernel_rfl) (by omega)
                obtain ⟨A5, hfrom, hdr⟩ := slice_fromE hA4 a ha
                have HTO := Lib.hid hto
                have HFR := Lib.hid hfrom
                have HDR := Lib.hid hdr
                have HTK := Lib.hid (hA4.take a)
                have htl : (l.take a).length = a := by rw [List.length_take]; omega
                have hdl : (l.drop a).length = l.length - a := List.length_drop
                have HTL := Lib.hid htl
                have HDL := Lib.hid hdl
                have hl20 : l.length ≤ 20 := by omega
                have HB4 := Lib.hid hB4
                have HYI := Lib.hid (infoE_l y)
                have HLEN : Hid ((l.take a ++ [y] ++ l.drop a).length = l.length + 1) := by
                  show _ = _
                  rw [List.length_append, List.length_append, htl, hdl, List.length_singleton]
                  omega
                clear hto hfrom hdr hA4 htl hdl hW4 hB4 hS4
                go_wp2_with fail
                refine wp_region_K (fun W => W.rangeAt wr.heap.size 0 (encE y)) 11 (by kernel_rfl) ?_
                change wpAnyK _ _ _ _ _ _ _ _ _ (World.drew w4)
                have hb5 : Below w4.heap.size w4 (World.drew w4) := (Below.refl _ _).drew
                have hz5 : (World.drew w4).heap.size = w4.heap.size := rfl
                generalize World.drew w4 = w5 at *
                have hS0 := HS.out w5 hb5
                refine wpAnyK_take0 (i := 0) (oi := { dst := some 60, op := _, type := _, pos := _, after := _, guard := none }) (v := .slice (some ⟨b9, o9, none⟩) l.length c9) rfl (by kernel_rfl) (fun _ _ _ h => h) (Or.inl ⟨by rfl, fun W hW => ?_⟩) (fun _ => hS0) ?_
                · go_simp
                refine wpAnyK_take0 (i := 1) (oi := { dst := some 61, op := _, type := _, pos := _, after := _, guard := none }) (v := .int .i64 (a : Int)) rfl (by kernel_rfl) (fun _ _ _ h => h) (Or.inl ⟨by rfl, fun W hW => ?_⟩) (fun _ => hS0) ?_
                · go_simp
                refine wpAnyK_take0 (i := 2) (oi := { dst := some 62, op := _, type := _, pos := _, after := _, guard := none }) (v := .slice (some ⟨b9, o9, none⟩) a c9) rfl (by kernel_rfl) (fun _ _ _ h => h) (Or.inl ⟨by rfl, fun W hW => ?_⟩) (fun _ => hS0) ?_
                · have h9 := HTO.out W
                  go_simp
                refine wpAnyK_take0 (i := 7) (oi := { dst := some 67, op := _, type := _, pos := _, after := _, guard := none }) (v := .slice (some ⟨b9, o9, none⟩) l.length c9) rfl (by kernel_rfl) (fun _ _ _ h => h) (Or.inl ⟨by rfl, fun W hW => ?_⟩) (fun _ => hS0) ?_
                · go_simp
                refine wpAnyK_take0 (i := 8) (oi := { dst := some 68, op := _, type := _, pos := _, after := _, guard := none }) (v := .int .i64 (a : Int)) rfl (by kernel_rfl) (fun _ _ _ h => h) (Or.inl ⟨by rfl, fun W hW => ?_⟩) (fun _ => hS0) ?_
                · go_simp
                refine wpAnyK_take0 (i := 9) (oi := { dst := some 69, op := _, type := _, pos := _, after := _, guard := none }) (v := .slice A5 (l.drop a).length (c9 - a)) rfl (by kernel_rfl) (fun _ _ _ h => h) (Or.inl ⟨by rfl, fun W hW => ?_⟩) (fun _ => hS0) ?_
                · have h9 := HFR.out W
                  go_simp
                simp only [Act.put]
                go_simp
                refine wpAnyK_take (i := 4) (oi := _) (v := .agg (encE y).toArray) rfl (by kernel_rfl) (fun _ _ _ h => h) (yieldsIf_load_mid (by rfl) _ _ rfl wr.heap.size 0 rfl (encE y) _ (fun W hW => hW) Tryz.underlying42 rfl HYI.out) hS0 ?_
                simp only [Act.put]
                go_simp
                refine wpAnyK_ready (rs := [3, 5]) (by kernel_rfl) (by simp) ?_
                refine AllReadyK.cons (o := _) rfl (fun K hK => ?_) (AllReadyK.cons (o := _) rfl (fun K hK => ?_) AllReadyK.nil)
                · rw [if_pos (by rfl)]
                  refine wp_appendE _ _ rfl w5.heap.size (.slice none 0 0) [] rfl (by simpa using World.ownsRow_nil _ _ _ _) (some ⟨b9, o9, none⟩) a c9 (l.take a) HTL.out rfl (HTK.out.later hb5) (Nat.le_refl _) (by rw [List.length_nil, HTL.out]; omega) (fun v1 w6 hown6 hb6 => ?_)
                  rw [List.nil_append] at hown6
                  have hb46 := hb5.trans (hb6.mono (by omega))
                  have hS6 := HS.out w6 hb46
                  refine hK _ _ (fun _ => hS6) ?_
                  clear hK K
                  refine wpAnyK_ready (rs := [5]) (by kernel_rfl) (by simp) ?_
                  refine AllReadyK.cons (o := _) rfl (fun K hK => ?_) AllReadyK.nil
                  rw [if_pos (by rfl)]
                  refine wp_buildE _ rfl y rfl ?_
                  have hba := (Below.refl w6.heap.size w6).alloc (Nat.le_refl _) (.cells (encE y).toArray 42)
                  have hown7 := own_later' hown6 hba
                  have hone := arg_oneE' (Whole.made w6 42 (encE y).toArray)
                  have hb57 := hb6.trans (hba.mono (by have := hb6.size; omega))
                  have hS7 := HS.out _ (hb5.trans (hb57.mono (by omega)))
                  refine hK _ _ (fun _ => hS7) ?_
                  clear hK K
                  refine wpAnyK_ready (rs := [6]) (by kernel_rfl) (by simp) ?_
                  refine AllReadyK.cons (o := _) rfl (fun K hK => ?_) AllReadyK.nil
                  rw [if_pos (by rfl)]
                  refine wp_appendE _ _ rfl w5.heap.size v1 (l.take a) rfl hown7 (some ⟨w6.heap.size, 0, none⟩) 1 1 [y] rfl rfl hone (by have := hb57.size; exact this) (by rw [List.length_singleton, HTL.out]; omega) (fun v2 w8 hown8 hb8 => ?_)
                  have hb58 := hb57.trans hb8
                  have hb48 := hb5.trans (hb58.mono (by omega))
                  have hS8 := HS.out w8 hb48
                  refine hK _ _ (fun _ => hS8) ?_
                  clear hK K
                  refine wpAnyK_ready (rs := [10]) (by kernel_rfl) (by simp) ?_
                  refine AllReadyK.cons (o := _) rfl (fun K hK => ?_) AllReadyK.nil
                  rw [if_pos (by rfl)]
                  refine wp_appendE _ _ rfl w5.heap.size v2 (l.take a ++ [y]) rfl hown8 A5 (l.length - a) (c9 - a) (l.drop a) HDL.out rfl (HDR.out.later hb48) (by have := hb58.size; exact this) (by rw [List.length_append, List.length_singleton, HTL.out, HDL.out]; omega) (fun v3 w9 hown9 hb9 => ?_)
                  have hb49 := hb5.trans ((hb58.trans hb9).mono (by omega))
                  have hS9 := HS.out w9 hb49
                  obtain ⟨A6, c6, rfl, -⟩ := own_argE hown9
                  have hOW9 := own_weaken hown9 (B' := w.heap.size) (by have := HB4.out.size; omega)
                  have HB9 := Lib.hid (HB4.out.trans (hb49.mono HB4.out.size))
                  rw [HLEN.out] at hOW9
                  rw [HLEN.out]
                  have HOW9 := Lib.hid hOW9
                  refine hK _ _ (fun _ => hS9) ?_
                  clear hK K
                  refine wpAnyK_ready (rs := [11]) (by kernel_rfl) (by simp) ?_
                  refine AllReadyK.cons (o := _) rfl (fun K hK => ?_) AllReadyK.nil
                  rw [if_pos (by rfl)]
                  simp only [Act.put]
                  go_simp
                  refine hK _ _ (fun h => by cases h) ?_
                  clear hK K
                  refine wpAnyK_done (by kernel_rfl) ?_ _
                  clear hown9 hb49 hS9 hOW9
                  go_wp2
                  go_roundg (m - (i + 1))
                  case measure => omega
                  case rel => exact ⟨i + 1, l.take a ++ [y] ++ l.drop a, A6, c6, by rw [HLEN.out], by omega, Nat.le_refl _, by go_num, by rw [HLEN.out]; omega, by rw [HLEN.out]; exact HOW9, HB9, HUP⟩
                · rw [if_pos (by rfl)]
                  refine wp_buildE _ rfl y rfl ?_
                  have hba := (Below.refl w5.heap.size w5).alloc (Nat.le_refl _) (.cells (encE y).toArray 42)
                  have hone := arg_oneE' (Whole.made w5 42 (encE y).toArray)
                  have hb46 := hb5.trans (hba.mono (by omega))
                  have hS6 := HS.out _ hb46
                  have hsz6 : (w5.alloc (.cells (encE y).toArray 42)).heap.size = w5.heap.size + 1 := by simp
                  refine hK _ _ (fun _ => hS6) ?_
                  clear hK K
                  generalize w5.alloc (.cells (encE y).toArray 42) = w6 at *
                  refine wpAnyK_ready (rs := [3]) (by kernel_rfl) (by simp) ?_
                  refine AllReadyK.cons (o := _) rfl (fun K hK => ?_) AllReadyK.nil
                  rw [if_pos (by rfl)]
                  refine wp_appendE _ _ rfl w6.heap.size (.slice none 0 0) [] rfl (by simpa using World.ownsRow_nil _ _ _ _) (some ⟨b9, o9, none⟩) a c9 (l.take a) HTL.out rfl (HTK.out.later hb46) (Nat.le_refl _) (by rw [List.length_nil, HTL.out]; omega) (fun v1 w7 hown7 hb7 => ?_)
                  rw [List.nil_append] at hown7
                  have hS7 := HS.out _ (hb46.trans (hb7.mono (by omega)))
                  have hone7 := hone.later hb7
                  refine hK _ _ (fun _ => hS7) ?_
                  clear hK K
                  refine wpAnyK_ready (rs := [6]) (by kernel_rfl) (by simp) ?_
                  refine AllReadyK.cons (o := _) rfl (fun K hK => ?_) AllReadyK.nil
                  rw [if_pos (by rfl)]
                  refine wp_appendE _ _ rfl w6.heap.size v1 (l.take a) rfl hown7 (some ⟨w5.heap.size, 0, none⟩) 1 1 [y] rfl rfl hone7 (by have := hb7.size; exact this) (by rw [List.length_singleton, HTL.out]; omega) (fun v2 w8 hown8 hb8 => ?_)
                  have hb68 := hb7.trans hb8
                  have hb48 := hb46.trans (hb68.mono (by omega))
                  have hS8 := HS.out w8 hb48
                  refine hK _ _ (fun _ => hS8) ?_
                  clear hK K
                  refine wpAnyK_ready (rs := [10]) (by kernel_rfl) (by simp) ?_
                  refine AllReadyK.cons (o := _) rfl (fun K hK => ?_) AllReadyK.nil
                  rw [if_pos (by rfl)]
                  refine wp_appendE _ _ rfl w6.heap.size v2 (l.take a ++ [y]) rfl hown8 A5 (l.length - a) (c9 - a) (l.drop a) HDL.out rfl (HDR.out.later hb48) (by have := hb68.size; exact this) (by rw [List.length_append, List.length_singleton, HTL.out, HDL.out]; omega) (fun v3 w9 hown9 hb9 => ?_)
                  have hb49 := hb46.trans ((hb68.trans hb9).mono (by omega))
                  have hS9 := HS.out w9 hb49
                  obtain ⟨A6, c6, rfl, -⟩ := own_argE hown9
                  have hOW9 := own_weaken hown9 (B' := w.heap.size) (by have := HB4.out.size; omega)
                  have HB9 := Lib.hid (HB4.out.trans (hb49.mono HB4.out.size))
                  rw [HLEN.out] at hOW9
                  rw [HLEN.out]
                  have HOW9 := Lib.hid hOW9
                  refine hK _ _ (fun _ => hS9) ?_
                  clear hK K
                  refine wpAnyK_ready (rs := [11]) (by kernel_rfl) (by simp) ?_
                  refine AllReadyK.cons (o := _) rfl (fun K hK => ?_) AllReadyK.nil
                  rw [if_pos (by rfl)]
                  simp only [Act.put]
                  go_simp
                  refine hK _ _ (fun h => by cases h) ?_
                  clear hK K
                  refine wpAnyK_done (by kernel_rfl) ?_ _
                  clear hown9 hb49 hS9 hOW9
                  go_wp2
                  go_roundg (m - (i + 1))
                  case measure => omega
                  case rel => exact ⟨i + 1, l.take a ++ [y] ++ l.drop a, A6, c6, by rw [HLEN.out], by omega, Nat.le_refl _, by go_num, by rw [HLEN.out]; omega, by rw [HLEN.out]; exact HOW9, HB9, HUP⟩
        · have hdf : decide ((a : Int) < (l.length : Int)) = false := by simp; omega
          have heqt : ((a : Int) == (l.length : Int)) = true := by rw [beq_iff_eq]; omega
          have HX : Hid (a < l.length → bl (l.getD a default).name y.name = false) := fun h => absurd h hal
          have HXN : Hid (a < l.length → (l.getD a default).name ≠ y.name) := fun h => absurd h hal
          have HN := Lib.hid fun W => rname_any y.name W HYN.out
          go_wp2_with fail
          go_quiet (fail)
          go_wp2
          have hN : wq.drewN nq = w3.drewN (q + nq) := by rw [hwq.out, World.drewN_drewN]
          have d2 : (wq.drewN nq).cell? ⟨wr.heap.size, 0, none⟩ = some (.string ⟨y.name.toArray⟩) := c2
          clear c2
          generalize wq.drewN nq = w4 at *
          generalize q + nq = N at *
          have HN4 := Lib.hid hN
          clear hN hwq
          cases hon : okName y.name with
          | false =>
            rw [hon] at HN
            clear hon
            refine wp_region_quiet_lit (by kernel_rfl) (by kernel_rfl) ?_
            repeat (first
              | go_big_quiet_step ((go_at_call 20; exact q_same (HN.out _))))
            refine wpQuiet_nil ?_
            rintro _ ⟨n2, rfl⟩
            have hee : w4.drewN n2 = w3.drewN (N + n2) := by rw [HN4.out, World.drewN_drewN]
            rw [hee]
            generalize N + n2 = M at *
            go_wp2
            go_roundg (m - (i + 1))
            case measure => omega
            case rel => exact ⟨i + 1, l, _, c9, rfl, by omega, Nat.le_refl _, by go_num, by omega, Lib.hid (own_later' HOW3.out (be_drewN (Below.refl _ _) M)), Lib.hid (be_drewN HB3.out M), hup⟩
          | true =>
            have HNA := Lib.hid hon
            rw [hon] at HN
            clear hon
            refine wp_region_quiet_lit (by kernel_rfl) (by kernel_rfl) ?_
            repeat (first
              | go_big_quiet_step ((go_at_call 20; exact q_same (HN.out _))))
            refine wpQuiet_nil ?_
            rintro _ ⟨n2, rfl⟩
            have hee : w4.drewN n2 = w3.drewN (N + n2) := by rw [HN4.out, World.drewN_drewN]
            rw [hee]
            generalize N + n2 = M at *
            clear hee d2 HN4 hdf heqt
            clear w4
            have hB4 : Below w.heap.size w (w3.drewN M) := be_drewN HB3.out M
            have hA4 : ArgE (w3.drewN M) A9 c9 l := HAR.out.later (be_drewN (Below.refl _ _) M)
            have hW4 : Whole (w3.drewN M) wr.heap.size 42 (encE y).toArray := HW3.out.drewN M
            have hgs4 : wr.heap.size < (w3.drewN M).heap.size := hW4.lt
            generalize w3.drewN M = w4 at *
            have hS4 : ∀ W, Below w4.heap.size w4 W → W.rangeAt wr.heap.size 0 (encE y) := fun W h => whole_range (hW4.below h hgs4)
            have HS := Lib.hid hS4
            have HUP : Hid (Up (l.take a ++ [y] ++ l.drop a)) := up_put hup.out ha hbl.out HX.out HNA.out HXN.out
            have hcl : l.length ≤ c9 := by omega
            have hto := slice_toM (P := Tryz.prog) (A := A9) (c := c9) 22 42 l.length a Tryz.underlying22 (by kernel_rfl) (by omega)
            obtain ⟨A5, hfrom, hdr⟩ := slice_fromE hA4 a ha
            have HTO := Lib.hid hto
            have HFR := Lib.hid hfrom
            have HDR := Lib.hid hdr
            have HTK := Lib.hid (hA4.take a)
            have htl : (l.take a).length = a := by rw [List.length_take]; omega
            have hdl : (l.drop a).length = l.length - a := List.length_drop
            have HTL := Lib.hid htl
            have HDL := Lib.hid hdl
            have hl20 : l.length ≤ 20 := by omega
            have HB4 := Lib.hid hB4
            have HYI := Lib.hid (infoE_l y)
            have HLEN : Hid ((l.take a ++ [y] ++ l.drop a).length = l.length + 1) := by
              show _ = _
              rw [List.length_append, List.length_append, htl, hdl, List.length_singleton]
              omega
            clear hto hfrom hdr hA4 htl hdl hW4 hB4 hS4
            go_wp2_with fail
            refine wp_region_K (fun W => W.rangeAt wr.heap.size 0 (encE y)) 11 (by kernel_rfl) ?_
            change wpAnyK _ _ _ _ _ _ _ _ _ (World.drew w4)
            have hb5 : Below w4.heap.size w4 (World.drew w4) := (Below.refl _ _).drew
            have hz5 : (World.drew w4).heap.size = w4.heap.size := rfl
            generalize World.drew w4 = w5 at *
            have hS0 := HS.out w5 hb5
            refine wpAnyK_take0 (i := 0) (oi := { dst := some 60, op := _, type := _, pos := _, after := _, guard := none }) (v := .slice A9 l.length c9) rfl (by kernel_rfl) (fun _ _ _ h => h) (Or.inl ⟨by rfl, fun W hW => ?_⟩) (fun _ => hS0) ?_
            · go_simp
            refine wpAnyK_take0 (i := 1) (oi := { dst := some 61, op := _, type := _, pos := _, after := _, guard := none }) (v := .int .i64 (a : Int)) rfl (by kernel_rfl) (fun _ _ _ h => h) (Or.inl ⟨by rfl, fun W hW => ?_⟩) (fun _ => hS0) ?_
            · go_simp
            refine wpAnyK_take0 (i := 2) (oi := { dst := some 62, op := _, type := _, pos := _, after := _, guard := none }) (v := .slice A9 a c9) rfl (by kernel_rfl) (fun _ _ _ h => h) (Or.inl ⟨by rfl, fun W hW => ?_⟩) (fun _ => hS0) ?_
            · have h9 := HTO.out W
              go_simp
            refine wpAnyK_take0 (i := 7) (oi := { dst := some 67, op := _, type := _, pos := _, after := _, guard := none }) (v := .slice A9 l.length c9) rfl (by kernel_rfl) (fun _ _ _ h => h) (Or.inl ⟨by rfl, fun W hW => ?_⟩) (fun _ => hS0) ?_
            · go_simp
            refine wpAnyK_take0 (i := 8) (oi := { dst := some 68, op := _, type := _, pos := _, after := _, guard := none }) (v := .int .i64 (a : Int)) rfl (by kernel_rfl) (fun _ _ _ h => h) (Or.inl ⟨by rfl, fun W hW => ?_⟩) (fun _ => hS0) ?_
            · go_simp
            refine wpAnyK_take0 (i := 9) (oi := { dst := some 69, op := _, type := _, pos := _, after := _, guard := none }) (v := .slice A5 (l.drop a).length (c9 - a)) rfl (by kernel_rfl) (fun _ _ _ h => h) (Or.inl ⟨by rfl, fun W hW => ?_⟩) (fun _ => hS0) ?_
            · have h9 := HFR.out W
              go_simp
            simp only [Act.put]
            go_simp
            refine wpAnyK_take (i := 4) (oi := _) (v := .agg (encE y).toArray) rfl (by kernel_rfl) (fun _ _ _ h => h) (yieldsIf_load_mid (by rfl) _ _ rfl wr.heap.size 0 rfl (encE y) _ (fun W hW => hW) Tryz.underlying42 rfl HYI.out) hS0 ?_
            simp only [Act.put]
            go_simp
            refine wpAnyK_ready (rs := [3, 5]) (by kernel_rfl) (by simp) ?_
            refine AllReadyK.cons (o := _) rfl (fun K hK => ?_) (AllReadyK.cons (o := _) rfl (fun K hK => ?_) AllReadyK.nil)
            · rw [if_pos (by rfl)]
              refine wp_appendE _ _ rfl w5.heap.size (.slice none 0 0) [] rfl (by simpa using World.ownsRow_nil _ _ _ _) A9 a c9 (l.take a) HTL.out rfl (HTK.out.later hb5) (Nat.le_refl _) (by rw [List.length_nil, HTL.out]; omega) (fun v1 w6 hown6 hb6 => ?_)
              rw [List.nil_append] at hown6
              have hb46 := hb5.trans (hb6.mono (by omega))
              have hS6 := HS.out w6 hb46
              refine hK _ _ (fun _ => hS6) ?_
              clear hK K
              refine wpAnyK_ready (rs := [5]) (by kernel_rfl) (by simp) ?_
              refine AllReadyK.cons (o := _) rfl (fun K hK => ?_) AllReadyK.nil
              rw [if_pos (by rfl)]
              refine wp_buildE _ rfl y rfl ?_
              have hba := (Below.refl w6.heap.size w6).alloc (Nat.le_refl _) (.cells (encE y).toArray 42)
              have hown7 := own_later' hown6 hba
              have hone := arg_oneE' (Whole.made w6 42 (encE y).toArray)
              have hb57 := hb6.trans (hba.mono (by have := hb6.size; omega))
              have hS7 := HS.out _ (hb5.trans (hb57.mono (by omega)))
              refine hK _ _ (fun _ => hS7) ?_
              clear hK K
              refine wpAnyK_ready (rs := [6]) (by kernel_rfl) (by simp) ?_
              refine AllReadyK.cons (o := _) rfl (fun K hK => ?_) AllReadyK.nil
              rw [if_pos (by rfl)]
              refine wp_appendE _ _ rfl w5.heap.size v1 (l.take a) rfl hown7 (some ⟨w6.heap.size, 0, none⟩) 1 1 [y] rfl rfl hone (by have := hb57.size; exact this) (by rw [List.length_singleton, HTL.out]; omega) (fun v2 w8 hown8 hb8 => ?_)
              have hb58 := hb57.trans hb8
              have hb48 := hb5.trans (hb58.mono (by omega))
              have hS8 := HS.out w8 hb48
              refine hK _ _ (fun _ => hS8) ?_
              clear hK K
              refine wpAnyK_ready (rs := [10]) (by kernel_rfl) (by simp) ?_
              refine AllReadyK.cons (o := _) rfl (fun K hK => ?_) AllReadyK.nil
              rw [if_pos (by rfl)]
              refine wp_appendE _ _ rfl w5.heap.size v2 (l.take a ++ [y]) rfl hown8 A5 (l.length - a) (c9 - a) (l.drop a) HDL.out rfl (HDR.out.later hb48) (by have := hb58.size; exact this) (by rw [List.length_append, List.length_singleton, HTL.out, HDL.out]; omega) (fun v3 w9 hown9 hb9 => ?_)
              have hb49 := hb5.trans ((hb58.trans hb9).mono (by omega))
              have hS9 := HS.out w9 hb49
              obtain ⟨A6, c6, rfl, -⟩ := own_argE hown9
              have hOW9 := own_weaken hown9 (B' := w.heap.size) (by have := HB4.out.size; omega)
              have HB9 := Lib.hid (HB4.out.trans (hb49.mono HB4.out.size))
              rw [HLEN.out] at hOW9
              rw [HLEN.out]
              have HOW9 := Lib.hid hOW9
              refine hK _ _ (fun _ => hS9) ?_
              clear hK K
              refine wpAnyK_ready (rs := [11]) (by kernel_rfl) (by simp) ?_
              refine AllReadyK.cons (o := _) rfl (fun K hK => ?_) AllReadyK.nil
              rw [if_pos (by rfl)]
              simp only [Act.put]
              go_simp
              refine hK _ _ (fun h => by cases h) ?_
              clear hK K
              refine wpAnyK_done (by kernel_rfl) ?_ _
              clear hown9 hb49 hS9 hOW9
              go_wp2
              go_roundg (m - (i + 1))
              case measure => omega
              case rel => exact ⟨i + 1, l.take a ++ [y] ++ l.drop a, A6, c6, by rw [HLEN.out], by omega, Nat.le_refl _, by go_num, by rw [HLEN.out]; omega, by rw [HLEN.out]; exact HOW9, HB9, HUP⟩
            · rw [if_pos (by rfl)]
              refine wp_buildE _ rfl y rfl ?_
              have hba := (Below.refl w5.heap.size w5).alloc (Nat.le_refl _) (.cells (encE y).toArray 42)
              have hone := arg_oneE' (Whole.made w5 42 (encE y).toArray)
              have hb46 := hb5.trans (hba.mono (by omega))
              have hS6 := HS.out _ hb46
              have hsz6 : (w5.alloc (.cells (encE y).toArray 42)).heap.size = w5.heap.size + 1 := by simp
              refine hK _ _ (fun _ => hS6) ?_
              clear hK K
              generalize w5.alloc (.cells (encE y).toArray 42) = w6 at *
              refine wpAnyK_ready (rs := [3]) (by kernel_rfl) (by simp) ?_
              refine AllReadyK.cons (o := _) rfl (fun K hK => ?_) AllReadyK.nil
              rw [if_pos (by rfl)]
              refine wp_appendE _ _ rfl w6.heap.size (.slice none 0 0) [] rfl (by simpa using World.ownsRow_nil _ _ _ _) A9 a c9 (l.take a) HTL.out rfl (HTK.out.later hb46) (Nat.le_refl _) (by rw [List.length_nil, HTL.out]; omega) (fun v1 w7 hown7 hb7 => ?_)
              rw [List.nil_append] at hown7
              have hS7 := HS.out _ (hb46.trans (hb7.mono (by omega)))
              have hone7 := hone.later hb7
              refine hK _ _ (fun _ => hS7) ?_
              clear hK K
              refine wpAnyK_ready (rs := [6]) (by kernel_rfl) (by simp) ?_
              refine AllReadyK.cons (o := _) rfl (fun K hK => ?_) AllReadyK.nil
              rw [if_pos (by rfl)]
              refine wp_appendE _ _ rfl w6.heap.size v1 (l.take a) rfl hown7 (some ⟨w5.heap.size, 0, none⟩) 1 1 [y] rfl rfl hone7 (by have := hb7.size; exact this) (by rw [List.length_singleton, HTL.out]; omega) (fun v2 w8 hown8 hb8 => ?_)
              have hb68 := hb7.trans hb8
              have hb48 := hb46.trans (hb68.mono (by omega))
              have hS8 := HS.out w8 hb48
              refine hK _ _ (fun _ => hS8) ?_
              clear hK K
              refine wpAnyK_ready (rs := [10]) (by kernel_rfl) (by simp) ?_
              refine AllReadyK.cons (o := _) rfl (fun K hK => ?_) AllReadyK.nil
              rw [if_pos (by rfl)]
              refine wp_appendE _ _ rfl w6.heap.size v2 (l.take a ++ [y]) rfl hown8 A5 (l.length - a) (c9 - a) (l.drop a) HDL.out rfl (HDR.out.later hb48) (by have := hb68.size; exact this) (by rw [List.length_append, List.length_singleton, HTL.out, HDL.out]; omega) (fun v3 w9 hown9 hb9 => ?_)
              have hb49 := hb46.trans ((hb68.trans hb9).mono (by omega))
              have hS9 := HS.out w9 hb49
              obtain ⟨A6, c6, rfl, -⟩ := own_argE hown9
              have hOW9 := own_weaken hown9 (B' := w.heap.size) (by have := HB4.out.size; omega)
              have HB9 := Lib.hid (HB4.out.trans (hb49.mono HB4.out.size))
              rw [HLEN.out] at hOW9
              rw [HLEN.out]
              have HOW9 := Lib.hid hOW9
              refine hK _ _ (fun _ => hS9) ?_
              clear hK K
              refine wpAnyK_ready (rs := [11]) (by kernel_rfl) (by simp) ?_
              refine AllReadyK.cons (o := _) rfl (fun K hK => ?_) AllReadyK.nil
              rw [if_pos (by rfl)]
              simp only [Act.put]
              go_simp
              refine hK _ _ (fun h => by cases h) ?_
              clear hK K
              refine wpAnyK_done (by kernel_rfl) ?_ _
              clear hown9 hb49 hS9 hOW9
              go_wp2
              go_roundg (m - (i + 1))
              case measure => omega
              case rel => exact ⟨i + 1, l.take a ++ [y] ++ l.drop a, A6, c6, by rw [HLEN.out], by omega, Nat.le_refl _, by go_num, by rw [HLEN.out]; omega, by rw [HLEN.out]; exact HOW9, HB9, HUP⟩
    · obtain rfl : i = m := by omega
      have hmt := up_may hup.out (by omega)
      obtain ⟨A8, c8, he8, harg⟩ := own_argE hown.out
      injection he8 with e1 e2 e3
      subst e1 e3
      have HA := Lib.hid harg
      have hlcc : (l.length : Int) ≤ (c9 : Int) := by have := harg.1; omega
      have HMY : Hid (∀ W, ArgE W A9 c9 l → Calls Tryz.prog 18 #[.slice A9 l.length c9] W fun e w' => e = .returned (.bool true) ∧ Below W.heap.size W w') := by
        intro W hW
        have h := tmay_any A9 c9 l W hW (by omega)
        rw [hmt] at h
        exact h
      clear e2 harg hmt
      go_wp2_with fail
      refine (HMY.out _ HA.out).mono ?_
      rintro e w2 ⟨rfl, hb⟩
      have HB2 := Lib.hid (hwr.out.trans (hb.mono hwr.out.size))
      have HA2 := Lib.hid (HA.out.later hb)
      have HOW2 := Lib.hid (own_later' hown.out hb)
      clear hb hown hwr HA
      by_cases h2 : l.length < 2
      · have d2 : decide ((l.length : Int) < 2) = true := by simp; omega
        go_wp2_with fail
        refine (HMY.out _ HA2.out).mono ?_
        rintro e w3 ⟨rfl, hb⟩
        have HB3 := Lib.hid (HB2.out.trans (hb.mono HB2.out.size))
        clear hb
        go_wp2
        go_ret
        exact ⟨rfl, HB3.out⟩
      have d2 : decide ((l.length : Int) < 2) = false := by simp; omega
      by_cases hi0 : i0 < 0
      · have di : decide (i0 < 0) = true := by simp; omega
        go_wp2_with fail
        refine (HMY.out _ HA2.out).mono ?_
        rintro e w3 ⟨rfl, hb⟩
        have HB3 := Lib.hid (HB2.out.trans (hb.mono HB2.out.size))
        clear hb
        go_wp2
        go_ret
        exact ⟨rfl, HB3.out⟩
      have di : decide (i0 < 0) = false := by simp; omega
      by_cases hk0 : k0 < 0
      · have dk : decide (k0 < 0) = true := by simp; omega
        go_wp2_with fail
        refine (HMY.out _ HA2.out).mono ?_
        rintro e w3 ⟨rfl, hb⟩
        have HB3 := Lib.hid (HB2.out.trans (hb.mono HB2.out.size))
        clear hb
        go_wp2
        go_ret
        exact ⟨rfl, HB3.out⟩
      have dk : decide (k0 < 0) = false := by simp; omega
      have hmi : i0.tmod (l.length : Int) = ((i0.toNat % l.length : Nat) : Int) := by
        rw [Int.tmod_eq_emod_of_nonneg (by omega), Int.natCast_emod, Int.toNat_of_nonneg (by omega)]
      have hmk : k0.tmod (l.length : Int) = ((k0.toNat % l.length : Nat) : Int) := by
        rw [Int.tmod_eq_emod_of_nonneg (by omega), Int.natCast_emod, Int.toNat_of_nonneg (by omega)]
      have hj : i0.toNat % l.length < l.length := Nat.mod_lt _ (by omega)
      have hk : k0.toNat % l.length < l.length := Nat.mod_lt _ (by omega)
      have hzn : ((l.length : Int) == 0) = false := by rw [beq_eq_false_iff_ne]; omega
      generalize i0.toNat % l.length = j at *
      generalize k0.toNat % l.length = k at *
      have hj' : (j : Int) < (l.length : Int) := by omega
      have hk' : (k : Int) < (l.length : Int) := by omega
      go_wp2_with fail
      refine wp_region_quiet_lit (by kernel_rfl) (by kernel_rfl) ?_
      repeat (first
        | go_big_quiet_step (fail))
      refine wpQuiet_nil ?_
      rintro _ ⟨nq, rfl⟩
      have HB3 := Lib.hid (be_drewN HB2.out nq)
      have HA3 : Hid (ArgE (w2.drewN nq) A9 c9 l) := HA2.out.later (be_drewN (Below.refl _ _) nq)
      have HOW3 := Lib.hid (own_later' HOW2.out (be_drewN (Below.refl w2.heap.size w2) nq))
      clear hmi hmk di dk d2 hzn hi0 hk0 HB2 HA2 HOW2
      generalize w2.drewN nq = w3 at *
      obtain ⟨g, rfl⟩ : ∃ g, A9 = some ⟨g, 0, none⟩ := by
        rcases HOW3.out.2 with ⟨-, h0⟩ | ⟨g', cap, cur, hv, -⟩
        · omega
        · injection hv with e1 e2 e3
          exact ⟨g', e1⟩
      have HGB : Hid (w.heap.size ≤ g) := (HOW3.out.lt g rfl).1
      obtain ⟨b9, o9, he9, hr9⟩ := HA3.out.2.2.2 (by omega)
      injection he9 with he9
      injection he9 with e1 e2
      subst e1 e2
      have hrj := hr9 j hj
      have hrk := hr9 k hk
      rw [Nat.zero_add] at hrj hrk
      obtain ⟨xj, hxj⟩ : ∃ xj, xj = l.getD j default := ⟨_, rfl⟩
      obtain ⟨xk, hxk⟩ : ∃ xk, xk = l.getD k default := ⟨_, rfl⟩
      rw [← hxj] at hrj
      rw [← hxk] at hrk
      have HSW : Hid (swapE l j k = (l.set j xk).set k xj) := by show _ = _; rw [hxj, hxk]; rfl
      have hSJ : ∀ W, (∃ n, W = w3.drewN n) → W.rangeAt g (k * 34) (encE xk) ∧ W.rangeAt g (j * 34) (encE xj) := by rintro W ⟨n, rfl⟩; exact ⟨hrk, hrj⟩
      have HSJ := Lib.hid hSJ
      have HMS := Lib.hid (swap_may hup.out (by omega) hj hk)
      have HIJ := Lib.hid (infoE_l xj)
      have HIK := Lib.hid (infoE_l xk)
      have HB4 := Lib.hid HB3.out.drew
      have HOW4 := Lib.hid (own_later' HOW3.out (Below.refl w3.heap.size w3).drew)
      clear hxj hxk hrj hrk hr9 hSJ HB3 HA3 HOW3 HMY
      go_wp2_with fail
      refine wp_region_K (fun W => W.rangeAt g (k * 34) (encE xk) ∧ W.rangeAt g (j * 34) (encE xj)) 13 (by kernel_rfl) ?_
      change wpAnyK _ _ _ _ _ _ _ _ _ (World.drew w3)
      have hS0 := HSJ.out (World.drew w3) ⟨1, rfl⟩
      generalize World.drew w3 = w4 at *
      refine wpAnyK_take0 (i := 0) (oi := { dst := some 98, op := _, type := _, pos := _, after := _, guard := none }) (v := .slice (some ⟨g, 0, none⟩) l.length c9) rfl (by kernel_rfl) (fun _ _ _ h => h) (Or.inl ⟨by rfl, fun W hW => ?_⟩) (fun _ => hS0) ?_
      · go_simp
      refine wpAnyK_take0 (i := 1) (oi := { dst := some 99, op := _, type := _, pos := _, after := _, guard := none }) (v := .int .i64 (j : Int)) rfl (by kernel_rfl) (fun _ _ _ h => h) (Or.inl ⟨by rfl, fun W hW => ?_⟩) (fun _ => hS0) ?_
      · go_simp
      refine wpAnyK_take0 (i := 2) (oi := { dst := some 100, op := _, type := _, pos := _, after := _, guard := none }) (v := .slice (some ⟨g, 0, none⟩) l.length c9) rfl (by kernel_rfl) (fun _ _ _ h => h) (Or.inl ⟨by rfl, fun W hW => ?_⟩) (fun _ => hS0) ?_
      · go_simp
      refine wpAnyK_take0 (i := 3) (oi := { dst := some 101, op := _, type := _, pos := _, after := _, guard := none }) (v := .int .i64 (k : Int)) rfl (by kernel_rfl) (fun _ _ _ h => h) (Or.inl ⟨by rfl, fun W hW => ?_⟩) (fun _ => hS0) ?_
      · go_simp
      refine wpAnyK_take0 (i := 4) (oi := { dst := some 102, op := _, type := _, pos := _, after := _, guard := none }) (v := .slice (some ⟨g, 0, none⟩) l.length c9) rfl (by kernel_rfl) (fun _ _ _ h => h) (Or.inl ⟨by rfl, fun W hW => ?_⟩) (fun _ => hS0) ?_
      · go_simp
      refine wpAnyK_take0 (i := 5) (oi := { dst := some 103, op := _, type := _, pos := _, after := _, guard := none }) (v := .int .i64 (k : Int)) rfl (by kernel_rfl) (fun _ _ _ h => h) (Or.inl ⟨by rfl, fun W hW => ?_⟩) (fun _ => hS0) ?_
      · go_simp
      refine wpAnyK_take0 (i := 6) (oi := { dst := some 104, op := _, type := _, pos := _, after := _, guard := none }) (v := .pointer (some ⟨g, k * 34, none⟩)) rfl (by kernel_rfl) (fun _ _ _ h => h) (Or.inl ⟨by rfl, fun W hW => ?_⟩) (fun _ => hS0) ?_
      · go_simp
      refine wpAnyK_take0 (i := 8) (oi := { dst := some 106, op := _, type := _, pos := _, after := _, guard := none }) (v := .slice (some ⟨g, 0, none⟩) l.length c9) rfl (by kernel_rfl) (fun _ _ _ h => h) (Or.inl ⟨by rfl, fun W hW => ?_⟩) (fun _ => hS0) ?_
      · go_simp
      refine wpAnyK_take0 (i := 9) (oi := { dst := some 107, op := _, type := _, pos := _, after := _, guard := none }) (v := .int .i64 (j : Int)) rfl (by kernel_rfl) (fun _ _ _ h => h) (Or.inl ⟨by rfl, fun W hW => ?_⟩) (fun _ => hS0) ?_
      · go_simp
      refine wpAnyK_take0 (i := 10) (oi := { dst := some 108, op := _, type := _, pos := _, after := _, guard := none }) (v := .pointer (some ⟨g, j * 34, none⟩)) rfl (by kernel_rfl) (fun _ _ _ h => h) (Or.inl ⟨by rfl, fun W hW => ?_⟩) (fun _ => hS0) ?_
      · go_simp
      simp only [Act.put]
      go_simp
      refine wpAnyK_take (i := 7) (oi := _) (v := .agg (encE xk).toArray) rfl (by kernel_rfl) (fun _ _ _ h => h) (yieldsIf_load_mid (by rfl) _ _ rfl g (k * 34) rfl (encE xk) _ (fun W hW => hW.1) Tryz.underlying42 rfl HIK.out) hS0 ?_
      refine wpAnyK_take (i := 11) (oi := _) (v := .agg (encE xj).toArray) rfl (by kernel_rfl) (fun _ _ _ h => h) (yieldsIf_load_mid (by rfl) _ _ rfl g (j * 34) rfl (encE xj) _ (fun W hW => hW.2) Tryz.underlying42 rfl HIJ.out) hS0 ?_
      simp only [Act.put]
      go_simp
      refine wpAnyK_take0 (i := 12) (oi := { dst := some 110, op := _, type := _, pos := _, after := _, guard := none }) (v := .pointer (some ⟨g, j * 34, none⟩)) rfl (by kernel_rfl) (fun _ _ _ h => h) (Or.inl ⟨by rfl, fun W hW => ?_⟩) (fun _ => hS0) ?_
      · go_simp
      simp only [Act.put]
      go_simp
      have hth := own_there HOW4.out j hj xk
      have how5 := own_set HOW4.out rfl j hj xk
      have hg5 := gr_setCells (g := g) (encE xk) (0 + j * 34) w4 w4 (gr_refl _ _)
      rw [Nat.zero_add] at hth how5 hg5
      have hB5 := be_grown HB4.out hg5 (by have := HB4.out.size; exact this) (fun i hi => by injection hi with hi; have := HGB.out; omega)
      refine wpAnyK_ready (rs := [13]) (by kernel_rfl) (by simp) ?_
      refine AllReadyK.cons (o := _) rfl (fun K hK => ?_) AllReadyK.nil
      rw [if_pos (by rfl)]
      refine wp_store_mid 42 _ _ rfl g (j * 34) (encE xk).toArray rfl rfl hth (infoE_s xk) (encE_all xk) ?_
      refine hK _ _ (fun h => by cases h) ?_
      clear hK K hth hg5 hS0
      rw [show (encE xk).toArray.toList = encE xk from rfl]
      generalize w4.setCells g (j * 34) (encE xk) = w5 at *
      refine wpAnyK_take0 (i := 14) (oi := { dst := some 111, op := _, type := _, pos := _, after := _, guard := none }) (v := .pointer (some ⟨g, k * 34, none⟩)) rfl (by kernel_rfl) (fun _ _ _ h => h) (Or.inl ⟨by rfl, fun W hW => ?_⟩) (fun h => by cases h) ?_
      · go_simp
      simp only [Act.put]
      go_simp
      have hth := own_there how5 k hk xj
      have how6 := own_set how5 (by rw [List.length_set]) k hk xj
      have hg6 := gr_setCells (g := g) (encE xj) (0 + k * 34) w5 w5 (gr_refl _ _)
      rw [Nat.zero_add] at hth how6 hg6
      have hB6 := be_grown hB5 hg6 (by have := hB5.size; exact this) (fun i hi => by injection hi with hi; have := HGB.out; omega)
      refine wpAnyK_ready (rs := [15]) (by kernel_rfl) (by simp) ?_
      refine AllReadyK.cons (o := _) rfl (fun K hK => ?_) AllReadyK.nil
      rw [if_pos (by rfl)]
      refine wp_store_mid 42 _ _ rfl g (k * 34) (encE xj).toArray rfl rfl hth (infoE_s xj) (encE_all xj) ?_
      refine hK _ _ (fun h => by cases h) ?_
      clear hK K hth hg6 how5 hB5
      rw [show (encE xj).toArray.toList = encE xj from rfl]
      generalize w5.setCells g (k * 34) (encE xj) = w6 at *
      refine wpAnyK_done (by kernel_rfl) ?_ _
      simp only [Act.put]
      go_simp
      rw [← HSW.out] at how6
      have hsl2 : (swapE l j k).length = l.length := by simp [swapE]
      obtain ⟨A7, c7, he7, harg7⟩ := own_argE (es := swapE l j k) (by rw [hsl2]; exact how6)
      injection he7 with e1 e2 e3
      subst e1 e3
      have hmy := tmay_any (some ⟨g, 0, none⟩) c9 (swapE l j k) w6 harg7 (by omega)
      rw [HMS.out, hsl2] at hmy
      have hij : ((j : Int) == (k : Int)) = decide (j = k) := by rw [Bool.eq_iff_iff]; simp; omega
      have HMY2 := Lib.hid hmy
      have HB6 := Lib.hid hB6
      clear hmy harg7 e2 hB6 how6
      generalize decide (j = k) = d at *
      go_wp2_with fail
      refine HMY2.out.mono ?_
      rintro e w7 ⟨rfl, hb⟩
      have HB7 := Lib.hid (HB6.out.trans (hb.mono HB6.out.size))
      clear hb
      go_wp2
      go_ret
      exact ⟨rfl, HB7.out⟩
end Go.Proofs.YtacmdpfidakkkaaGreatDoor

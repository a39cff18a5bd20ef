/-
  LineMany, walked.
-/
import Derived.Test.YtghpnjgglneecaaGreatDoorLMM
import Derived.Test.YtghpnjgglneecaaGreatDoorLinE
import Derived.Test.YtghpnjgglneecaaGreatDoorArg
import Derived.Test.YtghpnjgglneecaaGreatDoorText
import Derived.Test.YtghpnjgglneecaaGreatDoorQTail
namespace Go.Proofs.YtghpnjgglneecaaGreatDoor
open Go.RowKit

/-- A row of strings of the call's own, nil let in: its shape, its cells. -/
theorem own_strs {w : World} {B : Nat} {v : Value} {us : List (List UInt8)} (h : w.ownsRow B 9 1 v us.length (us.map S)) :
    ∃ A c, v = .slice A us.length c ∧ (0 < us.length → ∃ g, A = some ⟨g, 0, none⟩ ∧ ∀ i, i < us.length → w.cell? ⟨g, i, none⟩ = some (.string ⟨(us.getD i []).toArray⟩)) := by
  rcases h.2 with ⟨rfl, h0⟩ | ⟨g, cap, cur, rfl, hB, hg, hn, hm, hs, ht⟩
  · exact ⟨none, 0, by rw [h0], fun h => by omega⟩
  · refine ⟨_, cap, rfl, fun _ => ⟨g, rfl, fun i hi => ?_⟩⟩
    rw [Nat.mul_one] at ht
    have hx : (us.map S)[i]? = some (S (us.getD i [])) := by
      rw [List.getElem?_map, List.getElem?_eq_getElem hi, Option.map_some, List.getD_eq_getElem?_getD, List.getElem?_eq_getElem hi, Option.getD_some]
    rw [← ht, List.getElem?_take_of_lt hi] at hx
    rw [cell_of_row _ _ i _ _ _ hg]
    simpa [S] using hx
theorem str_ex (l : List UInt8) (n : Nat) : (ByteArray.mk l.toArray).extract 0 n = ⟨(l.take n).toArray⟩ := by
  rw [ByteArray.extract_mk]
  simp
/-- The first k texts, each not too long. -/
def cutk (ls : List (List UInt8)) (k : Nat) : List (List UInt8) := (ls.take k).map fun u => u.take 50
theorem cutk_len (ls : List (List UInt8)) (k : Nat) (h : k ≤ ls.length) : (cutk ls k).length = k := by
  simp only [cutk, List.length_map, List.length_take]; omega
theorem cutk_succ (ls : List (List UInt8)) (k : Nat) (h : k < ls.length) : cutk ls (k + 1) = cutk ls k ++ [(ls.getD k []).take 50] := by
  unfold cutk
  rw [List.take_succ_eq_append_getElem h, List.map_append, List.getD_eq_getElem?_getD, List.getElem?_eq_getElem h]
  rfl
theorem cutk_le (ls : List (List UInt8)) (k : Nat) : ∀ u, u ∈ cutk ls k → u.length ≤ 50 := by
  intro u hu
  obtain ⟨x, -, rfl⟩ := List.mem_map.1 hu
  rw [List.length_take]; omega
set_option maxRecDepth 100000 in
set_option maxHeartbeats 4000000 in
theorem lmany_any (A : Option Addr) (c : Nat) (ls : List (List UInt8)) (t : List UInt8) (at_ : Int) (w : World) (hE : Env w) (hN : Arg w A c (ls.map S)) (ha1 : -9223372036854775808 ≤ at_) (ha2 : at_ ≤ 9223372036854775807) :
    Calls Tryz.prog 7 #[.slice A ls.length c, .string ⟨t.toArray⟩, .int .i64 at_] w fun e w' => e = .returned (.bool true) ∧ Below w.heap.size w w' := by
  obtain ⟨si, hsi, hsz0, hsz1, hsz2⟩ := info_parts infoS
  have HE := Lib.hid hE
  have HN := Lib.hid hN
  clear hE hN
  go_enter Tryz.func7, Tryz.ntmps7
  go_wp2_with fail
  refine (begun_any _ HE.out).mono ?_
  rintro e w1 ⟨rfl, hB⟩
  have HB1 := Lib.hid hB
  clear hB
  go_wp2_with fail
  go_loopw [8, 9, 10] (fun s v i wr => ∃ k : Nat, k ≤ ls.length ∧ k ≤ 8 ∧ i = .int .i64 (k : Int) ∧ s = .string ⟨(enc (cutk ls k)).toArray⟩ ∧ wr.ownsRow w1.heap.size 9 1 v k ((cutk ls k).map S) ∧ Below w1.heap.size w1 wr) (fun _ _ i _ => 8 - (intOf i).toNat)
  case atStart => exact ⟨0, by omega, by omega, rfl, rfl, World.ownsRow_nil _ _ _ _, Below.refl _ _⟩
  case round =>
    obtain ⟨k, hk, hk8, rfl, rfl, hO, hB⟩ := hrel
    have HO := Lib.hid hO
    have HB := Lib.hid hB
    have HBW := Lib.hid (HB1.out.trans (hB.mono HB1.out.size))
    clear hO hB
    have hel := enc_le (cutk ls k) 50 (cutk_le ls k)
    rw [cutk_len ls k hk] at hel
    have hel2 : (enc (cutk ls k)).length ≤ 432 := Nat.le_trans hel (by omega)
    by_cases hgo : k < ls.length ∧ k < 8
    · obtain ⟨hlt, hlt8⟩ := hgo
      have k8 : decide ((k : Int) < 8) = true := by simp; omega
      obtain ⟨g, off, rfl, hcell⟩ := (HN.out.below HBW.out (Nat.le_refl _)).spot (by simp; omega)
      have hcn : wr.cell? ⟨g, off + k, none⟩ = some (.string ⟨(ls.getD k []).toArray⟩) := hcell k _ (by simp [List.getElem?_eq_getElem hlt, S])
      have HCS := Lib.hid (cutk_succ ls k hlt)
      have HES := Lib.hid (enc_snoc (cutk ls k) ((ls.getD k []).take 50))
      have HCL := Lib.hid (cutk_len ls k hk)
      have HT := Lib.hid fun W => text_any (ls.getD k []) 50 W
      have hul : ((ls.getD k []).take 50).length ≤ 50 := by rw [List.length_take]; omega
      clear hcell hel
      generalize ls.getD k [] = x at *
      generalize x.take 50 = u at *
      generalize cutk ls k = us at *
      generalize enc us = ee at *
      go_wp2_with fail
      refine (HT.out _).mono ?_
      rintro e w' ⟨rfl, rfl⟩
      go_wp2_with fail
      have HUD : Hid (u = [] ∨ u ≠ []) := Decidable.em _
      rcases HUD.out with hu | hu
      · have HLO : Hid (lineOf u = [48, 48, 48, 49]) := by show _ = _; unfold lineOf; rw [if_pos hu]
        have HEM := Lib.hid (ba_append ee [48, 48, 48, 49])
        refine (lput_bad u _ (.inl hu)).mono ?_
        rintro e w' ⟨rfl, rfl⟩
        subst hu
        go_wp2_with fail
        refine (delim_any _).mono ?_
        rintro e w' ⟨rfl, rfl⟩
        have HC : Hid (∀ j u', [Value.string ⟨#[]⟩][j]? = some u' → (wr.alloc (.cells #[Value.string ⟨#[]⟩] 9)).cell? ((⟨wr.heap.size, 0, none⟩ : Addr).add j) = some u') := by
          intro j u' hu'
          have h := (Whole.made wr 9 #[Value.string ⟨#[]⟩]).at_ j
          rw [Addr.add_mid, Nat.zero_add, h]
          simpa using hu'
        have hs3 : w1.heap.size ≤ wr.heap.size := HB.out.size
        have hs4 : w1.heap.size ≤ (wr.alloc (.cells #[Value.string ⟨#[]⟩] 9)).heap.size := by simp; omega
        go_wp2_with (at_builtin; go_loud (refine wpList_append_own_at _ rfl _ _ 36 rfl w1.heap.size 9 si (.string ⟨#[]⟩) 1 16 Tryz.underlying36 hsi hsz0 hsz1 hsz2 rfl (by decide) u9 k (us.map S) rfl (HO.out.alloc _) ⟨wr.heap.size, 0, none⟩ 1 1 [Value.string ⟨#[]⟩] rfl rfl HC.out (by simp [Value.oneCell']) (by unfold maxLen; omega) (by omega) hs4 ?_); intro v' w5 hown' hgrow hnil hloc; have HO5 := Lib.hid hown'; have HG5 := Lib.hid hgrow; clear hown' hgrow hnil hloc)
        go_roundw
        case rel =>
          refine ⟨k + 1, by omega, by omega, by go_num, ?_, ?_, be_grown (HB.out.alloc hs3 _) HG5.out hs4 (fun j hj => (HO.out.lt j hj).1)⟩
          · rw [HCS.out, HES.out, HLO.out, ← HEM.out]
          · have := HO5.out
            rw [HCS.out, List.map_append]
            exact this
        case measure => simp [intOf]; omega
      · have HLO : Hid (lineOf u = hexs 4 (4 + u.length) ++ u) := by show _ = _; unfold lineOf; rw [if_neg hu]
        have HEM := Lib.hid (ba_append ee (hexs 4 (4 + u.length) ++ u))
        have hpl : (hexs 4 (4 + u.length) ++ u).length ≤ 54 := by rw [List.length_append, hexs_len]; omega
        have HP := Lib.hid (lput_good u wr (HE.out.at_ HBW.out).tz hu (by omega))
        clear hu
        generalize hexs 4 (4 + u.length) ++ u = pl at *
        refine HP.out.mono ?_
        rintro e w2 ⟨rfl, hB⟩
        have HB2 := Lib.hid (HB.out.trans (hB.mono HB.out.size))
        have HO2 := Lib.hid (World.ownsRow.kept HO.out (row := none) (gr_below (gr_refl _ _) hB) (by cases hob : u9.ownBlock with | none => exact .inl rfl | some j => exact .inr (fun e => by cases e)))
        have hcn2 : w2.cell? ⟨g, off + k, none⟩ = some (.string ⟨x.toArray⟩) := (hB.cell (World.block_lt_of_cell? _ _ hcn)).trans hcn
        clear hB hcn
        go_wp2_with fail
        refine (HT.out _).mono ?_
        rintro e w' ⟨rfl, rfl⟩
        have HC : Hid (∀ j u', [Value.string ⟨u.toArray⟩][j]? = some u' → (w2.alloc (.cells #[Value.string ⟨u.toArray⟩] 9)).cell? ((⟨w2.heap.size, 0, none⟩ : Addr).add j) = some u') := by
          intro j u' hu'
          have h := (Whole.made w2 9 #[Value.string ⟨u.toArray⟩]).at_ j
          rw [Addr.add_mid, Nat.zero_add, h]
          simpa using hu'
        have hs3 : w1.heap.size ≤ w2.heap.size := HB2.out.size
        have hs4 : w1.heap.size ≤ (w2.alloc (.cells #[Value.string ⟨u.toArray⟩] 9)).heap.size := by simp; omega
        go_wp2_with (at_builtin; go_loud (refine wpList_append_own_at _ rfl _ _ 36 rfl w1.heap.size 9 si (.string ⟨#[]⟩) 1 16 Tryz.underlying36 hsi hsz0 hsz1 hsz2 rfl (by decide) u9 k (us.map S) rfl (HO2.out.alloc _) ⟨w2.heap.size, 0, none⟩ 1 1 [Value.string ⟨u.toArray⟩] rfl rfl HC.out (by simp [Value.oneCell']) (by unfold maxLen; omega) (by omega) hs4 ?_); intro v' w5 hown' hgrow hnil hloc; have HO5 := Lib.hid hown'; have HG5 := Lib.hid hgrow; clear hown' hgrow hnil hloc)
        go_roundw
        case rel =>
          refine ⟨k + 1, by omega, by omega, by go_num, ?_, ?_, be_grown (HB2.out.alloc hs3 _) HG5.out hs4 (fun j hj => (HO2.out.lt j hj).1)⟩
          · rw [HCS.out, HES.out, HLO.out, ← HEM.out]
          · have := HO5.out
            rw [HCS.out, List.map_append]
            exact this
        case measure => simp [intOf]; omega
    · have hk8' : k < ls.length → decide ((k : Int) < 8) = false := fun h => by simp; omega
      have hul := cutk_len ls k hk
      have hu50 := cutk_le ls k
      generalize cutk ls k = us at *
      have hu1000 : ∀ u, u ∈ us → u.length ≤ 1000 := fun u hu => Nat.le_trans (hu50 u hu) (by decide)
      have hge := enc_ge us
      rw [hul] at hge
      have HTT := Lib.hid fun W => text_any t 20 W
      have htl : (t.take 20).length ≤ 20 := by rw [List.length_take]; omega
      generalize t.take 20 = tt at *
      have hF : (enc us ++ fl4).length = (enc us).length + 4 := by rw [List.length_append]; rfl
      have hA1 := allGo_enc us tt hu1000 ((enc us ++ fl4 ++ tt).length + 1) [] [] (by rw [List.length_append, hF, hul]; omega)
      rw [List.nil_append, List.length_nil, Nat.zero_add, List.nil_append, ← List.append_assoc, ← hF] at hA1
      have hA2 := fun m (hm : m < (enc us ++ fl4).length) => allGo_cut us hu1000 (((enc us ++ fl4).take m).length + 1) [] [] m (by rw [List.length_take]; omega) (by omega)
      have HM1 := Lib.hid (ba_append (enc us) fl4)
      have HM2 := Lib.hid (ba_append (enc us ++ fl4) tt)
      have HOL : Hid (wr.ownsRow w1.heap.size 9 1 u9 us.length (us.map S)) := by show World.ownsRow _ _ _ _ _ _ _; rw [hul]; exact HO.out
      obtain ⟨WA, wc, rfl, hwc⟩ := own_strs HOL.out
      have HWC := Lib.hid hwc
      have hA2' : ∀ m, m < (enc us ++ fl4).length → allGo (((enc us ++ fl4).take m).length + 1) ((enc us ++ fl4).take m) 0 [] = .inr 2 := fun m hm => by
        have := hA2 m hm
        rwa [List.nil_append, List.length_nil] at this
      have HA1 := Lib.hid hA1
      have HA2 := Lib.hid hA2'
      have hsl : (enc us ++ fl4).length ≤ 436 := by omega
      have hsp : 4 ≤ (enc us ++ fl4).length := by omega
      clear hA1 hA2 hA2' hu50 hu1000 hge hel hF HO hwc
      have HUL := Lib.hid hul
      have HFL : Hid ((⟨#[48, 48, 48, 48]⟩ : ByteArray) = ⟨fl4.toArray⟩) := rfl
      generalize hss : enc us ++ fl4 = ss at *
      have HSS := Lib.hid hss
      clear hss
      by_cases hlt : k < ls.length
      case' pos => have k8 := hk8' hlt
      all_goals
        clear hk8'
        go_wp2_with fail
        refine (flush_any _).mono ?_
        rintro e w' ⟨rfl, rfl⟩
        go_wp2_with fail
        rw [HFL.out, HM1.out]
        refine (HTT.out _).mono ?_
        rintro e w' ⟨rfl, rfl⟩
        go_wp2_with fail
        rw [HM2.out]
        refine (all_ok (ss ++ tt) us ss.length wr (by rw [List.length_append]; omega) HA1.out).mono ?_
        rintro e w2 ⟨v, rfl, hg, hB⟩
        obtain ⟨GA, gc, rfl, hgc⟩ := own_strs hg
        have HGC := Lib.hid hgc
        have HB2 := Lib.hid (HB.out.trans (hB.mono HB.out.size))
        have HO2 := Lib.hid (World.ownsRow.kept HOL.out (row := none) (gr_below (gr_refl _ _) hB) (by cases hob : (Value.slice WA us.length wc).ownBlock with | none => exact .inl rfl | some j => exact .inr (fun e => by cases e)))
        obtain ⟨WA', wc', hwe, hwc2⟩ := own_strs HO2.out
        obtain ⟨rfl, -, rfl⟩ : WA = WA' ∧ us.length = us.length ∧ wc = wc' := by injection hwe with h1 h2 h3; exact ⟨h1, rfl, h3⟩
        have HWC2 := Lib.hid hwc2
        have HBW2 := Lib.hid (HB1.out.trans (HB2.out.mono HB1.out.size))
        clear hg hgc hB hwe hwc2
        rw [HUL.out]
        go_wp2_with fail
        go_loopw [89] (fun i wr => ∃ j q : Nat, j ≤ k ∧ i = .int .i64 (j : Int) ∧ wr = w2.drewN q) (fun i _ => k - (intOf i).toNat)
        case atStart => exact ⟨0, 0, Nat.zero_le _, rfl, rfl⟩
        case round =>
          obtain ⟨j, q, hj, rfl, rfl⟩ := hrel
          by_cases hjk : j < k
          · obtain ⟨g1, rfl, hg1⟩ := HGC.out (by rw [HUL.out]; omega)
            obtain ⟨g2, rfl, hg2⟩ := HWC2.out (by rw [HUL.out]; omega)
            have c1 : (w2.drewN q).cell? ⟨g1, j, none⟩ = some (.string ⟨(us.getD j []).toArray⟩) := hg1 j (by rw [HUL.out]; omega)
            have c2 : (w2.drewN q).cell? ⟨g2, j, none⟩ = some (.string ⟨(us.getD j []).toArray⟩) := hg2 j (by rw [HUL.out]; omega)
            have hj0 : (0 : Int) ≤ (j : Int) := by omega
            have hjI : (j : Int) < (k : Int) := by omega
            clear hg1 hg2
            generalize us.getD j [] = y at *
            generalize hwq : w2.drewN q = wq at *
            have HWQ := Lib.hid hwq
            clear hwq
            go_wp2_with fail
            go_quiet (fail)
            go_wp2
            go_roundw
            case rel => exact ⟨j + 1, q + nq, by omega, by go_num, by rw [← HWQ.out, World.drewN_drewN]⟩
            case measure => simp [intOf]; omega
          · obtain rfl : j = k := by omega
            have HB3 := Lib.hid (be_drewN HBW2.out q)
            clear hjk hj
            generalize w2.drewN q = w3 at *
            by_cases hneg : at_ < 0
            · have hd : decide (at_ < 0) = true := by simp; omega
              go_wp2
              go_ret
              exact ⟨rfl, HB3.out⟩
            · have hd : decide (at_ < 0) = false := by simp; omega
              obtain ⟨p, hp⟩ : ∃ p : Nat, at_ = (p : Int) := ⟨at_.toNat, by omega⟩
              subst hp
              have hmod : (p : Int).tmod (ss.length : Int) = ((p % ss.length : Nat) : Int) := by rw [Int.tmod_eq_emod_of_nonneg (by omega)]; omega
              have hmlt : p % ss.length < ss.length := Nat.mod_lt _ (by omega)
              have HAB := Lib.hid fun W => all_bad (ss.take (p % ss.length)) 2 W (by decide) (by rw [List.length_take]; omega) (HA2.out _ hmlt)
              have HEX := Lib.hid (str_ex ss (p % ss.length))
              clear hneg
              go_wp2_with fail
              rw [HEX.out]
              (with_reducible refine (HAB.out _).mono ?_)
              rintro e w4 ⟨rfl, hB⟩
              have HB4 := Lib.hid (HB3.out.trans (hB.mono HB3.out.size))
              clear hB
              go_wp2
              go_ret
              exact ⟨rfl, HB4.out⟩
end Go.Proofs.YtghpnjgglneecaaGreatDoor

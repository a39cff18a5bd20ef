/-
  The reference's block, walked.
-/
import Derived.Test.YtjoinnjhpfakpaaGreatDoorRefT
import Derived.Test.YtjoinnjhpfakpaaGreatDoorQTail
import Derived.Test.YtjoinnjhpfakpaaGreatDoorMhc
import Derived.Maps.AppendAt
namespace Go.Proofs.YtjoinnjhpfakpaaGreatDoor
open Go.RowKit

theorem infoU32 : (Tryz.prog.info? 198).map (fun i => (i.zero, i.size, i.bytes)) = some (some (.int .u32 0), 1, 4) := by kernel_rfl
theorem be_toNat (a b c d : UInt8) : ((ShaM.be a b c d).toNat : Int) = (a.toNat : Int) * 16777216 + (b.toNat : Int) * 65536 + (c.toNat : Int) * 256 + (d.toNat : Int) := by
  have ha := a.toNat_lt
  have hb := b.toNat_lt
  have hc := c.toNat_lt
  have hd := d.toNat_lt
  unfold ShaM.be
  rw [BitVec.toNat_ofNat]
  omega
theorem own_cells {w : World} {B : Nat} {e : TypeId} {v : Value} {n : Nat} {xs : List Value} (h : w.ownsRow B e 1 v n xs) (h0 : 0 < n) :
    ∃ g c, v = .slice (some ⟨g, 0, none⟩) n c ∧ n ≤ c ∧ c ≤ maxLen ∧ B ≤ g ∧ g < w.heap.size ∧ ∀ i x, xs[i]? = some x → w.cell? ⟨g, i, none⟩ = some x := by
  rcases h.2 with ⟨rfl, h1⟩ | ⟨g, cap, cur, rfl, hB, hg, hn, hm, hs, ht⟩
  · omega
  · rw [Nat.mul_one] at hs ht
    refine ⟨g, cap, rfl, hn, hm, hB, (Array.getElem?_eq_some_iff.1 hg).1, fun i x hx => ?_⟩
    have hi : i < n := by
      have h1 := (List.getElem?_eq_some_iff.1 hx).1
      have h2 := congrArg List.length ht
      rw [List.length_take] at h2
      omega
    rw [← ht, List.getElem?_take_of_lt hi] at hx
    rw [cell_of_row _ _ i _ _ _ hg, ← hx]
    simp
theorem w_high (x y x7 x16 : BitVec 32) : ((bits .xor .u32 (bits .xor .u32 ((ShaM.rr x 17).toNat : Int) ((ShaM.rr x 19).toNat : Int)) ((x.toNat : Int) / 1024) + (x7.toNat : Int) + bits .xor .u32 (bits .xor .u32 ((ShaM.rr y 7).toNat : Int) ((ShaM.rr y 18).toNat : Int)) ((y.toNat : Int) / 8)) % 4294967296 + (x16.toNat : Int)) % 4294967296 =
    ((ShaM.s1 x + x7 + ShaM.s0 y + x16).toNat : Int) := by
  have e := u_shr x 10
  have f := u_shr y 3
  rw [show (2 : Int) ^ 10 = 1024 from rfl] at e
  rw [show (2 : Int) ^ 3 = 8 from rfl] at f
  rw [e, f, u_xor, u_xor, u_xor, u_xor]
  show ((((ShaM.s1 x).toNat : Int) + (x7.toNat : Int) + ((ShaM.s0 y).toNat : Int)) % 4294967296 + (x16.toNat : Int)) % 4294967296 = _
  simp only [BitVec.toNat_add]
  omega
theorem u_nsub (x : BitVec 32) : (4294967295 : Int) - (x.toNat : Int) = (((0xffffffff : BitVec 32) - x).toNat : Int) := by
  have := x.isLt
  have e : (0xffffffff : BitVec 32).toNat = 4294967295 := by decide
  rw [BitVec.toNat_sub, e]
  omega
theorem rt_1 (r : ShaM.St) (kc x : BitVec 32) : (((r.h.toNat : Int) + bits .xor .u32 (bits .xor .u32 ((ShaM.rr r.e 6).toNat : Int) ((ShaM.rr r.e 11).toNat : Int)) ((ShaM.rr r.e 25).toNat : Int) +
      bits .or .u32 (bits .and .u32 (r.e.toNat : Int) (r.f.toNat : Int)) (bits .and .u32 (4294967295 - (r.e.toNat : Int)) (r.g.toNat : Int)) + (kc.toNat : Int)) % 4294967296 + (x.toNat : Int)) % 4294967296 = ((ShaM.t1 r kc x).toNat : Int) := by
  rw [u_nsub, u_and, u_and, u_or, u_xor, u_xor, ShaM.ch_eq]
  show ((((r.h.toNat : Int) + ((ShaM.b1 r.e).toNat : Int) + ((ShaM.ch r.e r.f r.g).toNat : Int)) + (kc.toNat : Int)) % 4294967296 + (x.toNat : Int)) % 4294967296 = ((r.h + ShaM.b1 r.e + ShaM.ch r.e r.f r.g + kc + x).toNat : Int)
  simp only [BitVec.toNat_add]
  omega
theorem rt_2 (r : ShaM.St) : (bits .xor .u32 (bits .xor .u32 ((ShaM.rr r.a 2).toNat : Int) ((ShaM.rr r.a 13).toNat : Int)) ((ShaM.rr r.a 22).toNat : Int) +
      bits .or .u32 (bits .or .u32 (bits .and .u32 (r.a.toNat : Int) (r.b.toNat : Int)) (bits .and .u32 (r.a.toNat : Int) (r.c.toNat : Int))) (bits .and .u32 (r.b.toNat : Int) (r.c.toNat : Int))) % 4294967296 = ((ShaM.t2 r).toNat : Int) := by
  rw [u_and, u_and, u_and, u_or, u_or, u_xor, u_xor, ShaM.mj_eq]
  show (((ShaM.b0 r.a).toNat : Int) + ((ShaM.mj r.a r.b r.c).toNat : Int)) % 4294967296 = ((ShaM.b0 r.a + ShaM.mj r.a r.b r.c).toNat : Int)
  rw [u_add_mod]
/-- The state as it is being added to. -/
def mixl (s r : ShaM.St) (k : Nat) : List (BitVec 32) := (ShaM.ls (s.add r)).take k ++ (ShaM.ls s).drop k
theorem mixl_len (s r : ShaM.St) (k : Nat) (h : k ≤ 8) : (mixl s r k).length = 8 := by
  simp only [mixl, List.length_append, List.length_take, List.length_drop, ShaM.ls_len]; omega
theorem mixl_step (s r : ShaM.St) (k : Nat) (h : k < 8) : (mixl s r k).set k ((ShaM.ls s).getD k 0 + (ShaM.ls r).getD k 0) = mixl s r (k + 1) := by
  match k, h with
  | 0, _ => rfl
  | 1, _ => rfl
  | 2, _ => rfl
  | 3, _ => rfl
  | 4, _ => rfl
  | 5, _ => rfl
  | 6, _ => rfl
  | 7, _ => rfl
theorem mixl_at (s r : ShaM.St) (k : Nat) (h : k < 8) : (mixl s r k).getD k 0 = (ShaM.ls s).getD k 0 := by
  match k, h with
  | 0, _ => rfl
  | 1, _ => rfl
  | 2, _ => rfl
  | 3, _ => rfl
  | 4, _ => rfl
  | 5, _ => rfl
  | 6, _ => rfl
  | 7, _ => rfl
theorem mixl_full (s r : ShaM.St) : mixl s r 8 = ShaM.ls (s.add r) := rfl
theorem some_u (l : List (BitVec 32)) (i : Nat) (h : i < l.length) : (l.map U)[i]? = some (U (l.getD i 0)) := by
  rw [List.getElem?_map, List.getElem?_eq_getElem h, Option.map_some, List.getD_eq_getElem?_getD, List.getElem?_eq_getElem h, Option.getD_some]
theorem whole_rnd (wd : World) (bv : Nat) (T : TypeId) (r : ShaM.St) (y1 y2 : BitVec 32) (h : Whole wd bv T ((ShaM.ls r).map U).toArray) :
    Whole ((((((((wd.setCell ⟨bv, 0, none⟩ (.int .u32 (((y1.toNat : Int) + (y2.toNat : Int)) % 4294967296))).setCell ⟨bv, 1, none⟩ (.int .u32 (r.a.toNat : Int))).setCell ⟨bv, 2, none⟩ (.int .u32 (r.b.toNat : Int))).setCell ⟨bv, 3, none⟩ (.int .u32 (r.c.toNat : Int))).setCell
      ⟨bv, 4, none⟩ (.int .u32 (((r.d.toNat : Int) + (y1.toNat : Int)) % 4294967296))).setCell ⟨bv, 5, none⟩ (.int .u32 (r.e.toNat : Int))).setCell ⟨bv, 6, none⟩ (.int .u32 (r.f.toNat : Int))).setCell ⟨bv, 7, none⟩ (.int .u32 (r.g.toNat : Int)))
      bv T ((ShaM.ls ⟨y1 + y2, r.a, r.b, r.c, r.d + y1, r.e, r.f, r.g⟩).map U).toArray := by
  rw [u_add_mod, u_add_mod]
  have this := (((((((h.put 0 (U (y1 + y2))).put 1 (U r.a)).put 2 (U r.b)).put 3 (U r.c)).put 4 (U (r.d + y1))).put 5 (U r.e)).put 6 (U r.f)).put 7 (U r.g)
  have e : (((((((((ShaM.ls r).map U).toArray.setIfInBounds 0 (U (y1 + y2))).setIfInBounds 1 (U r.a)).setIfInBounds 2 (U r.b)).setIfInBounds 3 (U r.c)).setIfInBounds 4 (U (r.d + y1))).setIfInBounds 5 (U r.e)).setIfInBounds 6 (U r.f)).setIfInBounds 7 (U r.g) = ((ShaM.ls ⟨y1 + y2, r.a, r.b, r.c, r.d + y1, r.e, r.f, r.g⟩).map U).toArray := by
    simp [ShaM.ls]
  rw [e] at this
  exact this
theorem grown_rnd {w6 wd : World} {bv : Nat} (h : w6.grownBy wd (some bv)) (a b c d e f g x : Value) :
    w6.grownBy ((((((((wd.setCell ⟨bv, 0, none⟩ a).setCell ⟨bv, 1, none⟩ b).setCell ⟨bv, 2, none⟩ c).setCell ⟨bv, 3, none⟩ d).setCell ⟨bv, 4, none⟩ e).setCell ⟨bv, 5, none⟩ f).setCell ⟨bv, 6, none⟩ g).setCell ⟨bv, 7, none⟩ x) (some bv) := by
  iterate 8 refine gr_set ?_ (.inl rfl) _
  exact h
theorem str_at' (l : List UInt8) (i : Int) (k : Nat) (hi : i = (k : Int)) (h : k < l.length) (w : World) : (Instr.index 9 (.string ⟨l.toArray⟩) (.int .i64 i)).run Tryz.prog w = .ok (.int .u8 ((l.getD k 0).toNat : Int)) w := by
  subst hi
  exact str_at l k h w
set_option maxRecDepth 100000 in
set_option maxHeartbeats 4000000 in
theorem rblock_any (s : ShaM.St) (l : List UInt8) (w : World) (hl : l.length = 64) :
    Calls Tryz.prog 146 #[.agg ((ShaM.ls s).map U).toArray, .string ⟨l.toArray⟩] w fun e w' => e = .returned (.agg ((ShaM.ls (ShaM.comp s l)).map U).toArray) ∧ Below w.heap.size w w' := by
  obtain ⟨ui, hui, huz0, huz1, huz2⟩ := info_parts infoU32
  have HL := Lib.hid hl
  obtain ⟨cs, hcs⟩ : ∃ cs, cs = ((ShaM.ls s).map U).toArray := ⟨_, rfl⟩
  rw [← hcs]
  have HCS := Lib.hid hcs
  have HIT : Hid ((Tryz.prog.info? 284).map (·.size) = some tbl.size) := by show _ = _; kernel_rfl
  have H1T : Hid (tbl.all (·.oneCell') = true) := by show _ = _; kernel_rfl
  have HST : Hid (64 = tbl.size) := by show _ = _; kernel_rfl
  clear hl hcs
  go_enter Tryz.func146, Tryz.ntmps146
  go_wp2_with fail
  have hW0 := (Whole.made w 199 cs).past (.cells (Array.replicate 8 (.int .u32 0)) 199)
  have hR0 := heap_alloc2_new w (.cells cs 199) (.cells (Array.replicate 8 (.int .u32 0)) 199)
  have hB0 := ((Below.refl w.heap.size w).alloc (Nat.le_refl _) (.cells cs 199)).alloc (by simp) (.cells (Array.replicate 8 (.int .u32 0)) 199)
  refine (rtable_any _).mono ?_
  rintro e w1 ⟨rfl, hB⟩
  have HW1 := Lib.hid (hW0.below hB hW0.lt)
  have HR1 := Lib.hid ((show Whole _ (w.heap.size + 1) 199 _ from hR0).below hB (by simp))
  have HB1 := Lib.hid (hB0.trans (hB.mono (by simp; omega)))
  have hs1 := hB.size
  simp only [World.size_alloc] at hs1
  clear hB hB0 hW0 hR0
  go_wp2_with (refine wpList_store_whole rfl 284 _ _ rfl w1.heap.size tbl rfl rfl 284 _ (Whole.made w1 _ _) HIT.out (by rw [← HST.out]; kernel_rfl) H1T.out ?_; intro w2 hW2 hG2; have HT2 := Lib.hid hW2; have HG2 := Lib.hid hG2; clear hW2 hG2)
  have HW2 := Lib.hid ((HW1.out.past (.cells (Array.replicate 64 (.int .u32 0)) 284)).grown HG2.out (by intro e; injection e with e; omega))
  have HR2 := Lib.hid ((HR1.out.past (.cells (Array.replicate 64 (.int .u32 0)) 284)).grown HG2.out (by intro e; injection e with e; omega))
  have HB2 := Lib.hid (be_grown (HB1.out.alloc HB1.out.size _) HG2.out (by simp; omega) (fun j hj => by injection hj with hj; omega))
  have hs2 := HG2.out.size
  simp only [World.size_alloc] at hs2
  clear HW1 HR1 HB1 HG2
  go_loopw [6, 7] (fun v t wr => ∃ k : Nat, k ≤ 64 ∧ t = .int .i64 (k : Int) ∧ wr.ownsRow w2.heap.size 198 1 v k ((ShaM.wl l k).map U) ∧ Below w2.heap.size w2 wr) (fun _ t _ => 64 - (intOf t).toNat)
  case atStart => exact ⟨0, by omega, rfl, World.ownsRow_nil _ _ _ _, Below.refl _ _⟩
  case round =>
    obtain ⟨k, hk, rfl, hO, hB⟩ := hrel
    have HO := Lib.hid hO
    have HB := Lib.hid hB
    clear hO hB
    by_cases hlt : k < 64
    · by_cases h16 : k < 16
      · have i0 := str_at' l (4 * (k : Int)) (4 * k) (by omega) (by rw [HL.out]; omega)
        have i1 := str_at' l (4 * (k : Int) + 1) (4 * k + 1) (by omega) (by rw [HL.out]; omega)
        have i2 := str_at' l (4 * (k : Int) + 2) (4 * k + 2) (by omega) (by rw [HL.out]; omega)
        have i3 := str_at' l (4 * (k : Int) + 3) (4 * k + 3) (by omega) (by rw [HL.out]; omega)
        have HM : Hid (ShaM.wl l (k + 1) = ShaM.wl l k ++ [ShaM.be (l.getD (4 * k) 0) (l.getD (4 * k + 1) 0) (l.getD (4 * k + 2) 0) (l.getD (4 * k + 3) 0)]) := ShaM.wl_low l k h16
        have HWL := Lib.hid (ShaM.wl_len l k)
        generalize l.getD (4 * k) 0 = x0 at *
        generalize l.getD (4 * k + 1) 0 = x1 at *
        generalize l.getD (4 * k + 2) 0 = x2 at *
        generalize l.getD (4 * k + 3) 0 = x3 at *
        have b0 := x0.toNat_lt
        have b1 := x1.toNat_lt
        have b2 := x2.toNat_lt
        have b3 := x3.toNat_lt
        go_wp2_with fail
        refine wp_region_qtail1 (C := fun w' => ∃ m, w' = wr.drewN m) 29 _ (by kernel_rfl) rfl rfl (by kernel_rfl) (by kernel_rfl) (by kernel_rfl) (fun _ _ _ h => h) ⟨1, rfl⟩ ?_
        simp only [List.take_succ_cons, List.take_zero, List.drop_succ_cons, List.drop_zero, Act.put]
        go_simp
        repeat (go_big_quiet_step (fail))
        refine wpQuiet_nil ?_
        intro nq
        have hwo := be_toNat x0 x1 x2 x3
        have HOq : Hid ((wr.drewN nq).ownsRow w2.heap.size 198 1 u6 k ((ShaM.wl l k).map U)) := HO.out
        have HBq := Lib.hid (be_drewN HB.out nq)
        have hwu : Value.int .u32 ((x0.toNat : Int) * 16777216 + (x1.toNat : Int) * 65536 + (x2.toNat : Int) * 256 + (x3.toNat : Int)) = .int .u32 ((ShaM.be x0 x1 x2 x3).toNat : Int) := by rw [hwo]
        rw [hwu]
        clear hwo hwu i0 i1 i2 i3 HO HB b0 b1 b2 b3
        generalize wr.drewN nq = w3 at *
        generalize ShaM.be x0 x1 x2 x3 = y at *
        have HC : Hid (∀ j u, [Value.int .u32 (y.toNat : Int)][j]? = some u → (w3.alloc (.cells #[.int .u32 (y.toNat : Int)] 198)).cell? ((⟨w3.heap.size, 0, none⟩ : Addr).add j) = some u) := by
          intro j u hu
          have h := (Whole.made w3 198 #[.int .u32 (y.toNat : Int)]).at_ j
          rw [Addr.add_mid, Nat.zero_add, h]
          simpa using hu
        have hs3 : w2.heap.size ≤ w3.heap.size := HBq.out.size
        have hs4 : w2.heap.size ≤ (w3.alloc (.cells #[.int .u32 (y.toNat : Int)] 198)).heap.size := by simp; omega
        go_wp2_with (at_builtin; go_loud (refine wpList_append_own_at _ rfl _ _ 286 rfl w2.heap.size 198 ui (.int .u32 0) 1 4 Tryz.underlying286 hui huz0 huz1 huz2 rfl (by decide) u6 k ((ShaM.wl l k).map U) rfl (HOq.out.alloc _) ⟨w3.heap.size, 0, none⟩ 1 1 [.int .u32 (y.toNat : Int)] rfl rfl HC.out (by simp [Value.oneCell']) (by unfold maxLen; omega) (by omega) hs4 ?_); intro v' w5 hown' hgrow hnil hloc; have HO5 := Lib.hid hown'; have HG5 := Lib.hid hgrow; clear hown' hgrow hnil hloc)
        go_roundw
        case rel =>
          refine ⟨k + 1, by omega, by go_num, ?_, be_grown (HBq.out.alloc hs3 _) HG5.out hs4 (fun j hj => (HOq.out.lt j hj).1)⟩
          have := HO5.out
          rw [HM.out, List.map_append]
          exact this
        case measure => simp [intOf]; omega
      · have HW : Hid (ShaM.wl l (k + 1) = ShaM.wl l k ++ [ShaM.s1 ((ShaM.wl l k).getD (k - 2) 0) + (ShaM.wl l k).getD (k - 7) 0 + ShaM.s0 ((ShaM.wl l k).getD (k - 15) 0) + (ShaM.wl l k).getD (k - 16) 0]) := ShaM.wl_high l k (by omega)
        obtain ⟨g, c, rfl, hgc, hcm, hBg, hgl, hcell⟩ := own_cells HO.out (by omega)
        have hat : ∀ i, i < k → wr.cell? ⟨g, i, none⟩ = some (.int .u32 (((ShaM.wl l k).getD i 0).toNat : Int)) := by
          intro i hi
          have hl := ShaM.wl_len l k
          refine hcell i _ ?_
          rw [List.getElem?_map, List.getElem?_eq_getElem (by omega), Option.map_some, List.getD_eq_getElem?_getD, List.getElem?_eq_getElem (by omega), Option.getD_some]
          rfl
        have c2 := hat (k - 2) (by omega)
        have c15 := hat (k - 15) (by omega)
        have c7 := hat (k - 7) (by omega)
        have c16 := hat (k - 16) (by omega)
        have k0 : (0 : Int) ≤ (k : Int) - 2 := by omega
        have k1 : (k : Int) - 2 < (k : Int) := by omega
        have k2 : (0 : Int) ≤ (k : Int) - 15 := by omega
        have k3 : (k : Int) - 15 < (k : Int) := by omega
        have k4 : (0 : Int) ≤ (k : Int) - 7 := by omega
        have k5 : (k : Int) - 7 < (k : Int) := by omega
        have k6 : (0 : Int) ≤ (k : Int) - 16 := by omega
        have k7 : (k : Int) - 16 < (k : Int) := by omega
        clear hcell hat hgc hcm
        generalize (ShaM.wl l k).getD (k - 2) 0 = x at *
        generalize (ShaM.wl l k).getD (k - 15) 0 = y at *
        generalize (ShaM.wl l k).getD (k - 7) 0 = x7 at *
        generalize (ShaM.wl l k).getD (k - 16) 0 = x16 at *
        go_wp2_with fail
        go_quiet (fail)
        have HOq : Hid ((wr.drewN nq).ownsRow w2.heap.size 198 1 (.slice (some ⟨g, 0, none⟩) k c) k ((ShaM.wl l k).map U)) := HO.out
        have HBq := Lib.hid (be_drewN HB.out nq)
        have d7 : (wr.drewN nq).cell? ⟨g, k - 7, none⟩ = some (.int .u32 (x7.toNat : Int)) := c7
        have d16 : (wr.drewN nq).cell? ⟨g, k - 16, none⟩ = some (.int .u32 (x16.toNat : Int)) := c16
        clear HO HB c2 c15 c7 c16
        generalize wr.drewN nq = wq at *
        go_wp2_with fail
        refine wp_region_qtail1 (C := fun w' => ∃ m, w' = wq.drewN m) 29 _ (by kernel_rfl) rfl rfl (by kernel_rfl) (by kernel_rfl) (by kernel_rfl) (fun _ _ _ h => h) ⟨1, rfl⟩ ?_
        simp only [List.take_succ_cons, List.take_zero, List.drop_succ_cons, List.drop_zero, Act.put]
        go_simp
        repeat (go_big_quiet_step ((go_at_call 202; exact q_draw (rturn_any _ _ (by omega) (by omega) _))))
        refine wpQuiet_nil ?_
        intro nq2
        rw [w_high x y x7 x16]
        have HOr : Hid ((wq.drewN nq2).ownsRow w2.heap.size 198 1 (.slice (some ⟨g, 0, none⟩) k c) k ((ShaM.wl l k).map U)) := HOq.out
        have HBr := Lib.hid (be_drewN HBq.out nq2)
        clear HOq HBq d7 d16
        generalize wq.drewN nq2 = w3 at *
        generalize ShaM.s1 x + x7 + ShaM.s0 y + x16 = z at *
        have HC : Hid (∀ j u, [Value.int .u32 (z.toNat : Int)][j]? = some u → (w3.alloc (.cells #[.int .u32 (z.toNat : Int)] 198)).cell? ((⟨w3.heap.size, 0, none⟩ : Addr).add j) = some u) := by
          intro j u hu
          have h := (Whole.made w3 198 #[.int .u32 (z.toNat : Int)]).at_ j
          rw [Addr.add_mid, Nat.zero_add, h]
          simpa using hu
        have hs3 : w2.heap.size ≤ w3.heap.size := HBr.out.size
        have hs4 : w2.heap.size ≤ (w3.alloc (.cells #[.int .u32 (z.toNat : Int)] 198)).heap.size := by simp; omega
        go_wp2_with (at_builtin; go_loud (refine wpList_append_own_at _ rfl _ _ 286 rfl w2.heap.size 198 ui (.int .u32 0) 1 4 Tryz.underlying286 hui huz0 huz1 huz2 rfl (by decide) (.slice (some ⟨g, 0, none⟩) k c) k ((ShaM.wl l k).map U) rfl (HOr.out.alloc _) ⟨w3.heap.size, 0, none⟩ 1 1 [.int .u32 (z.toNat : Int)] rfl rfl HC.out (by simp [Value.oneCell']) (by unfold maxLen; omega) (by omega) hs4 ?_); intro v' w5 hown' hgrow hnil hloc; have HO5 := Lib.hid hown'; have HG5 := Lib.hid hgrow; clear hown' hgrow hnil hloc)
        go_roundw
        case rel =>
          refine ⟨k + 1, by omega, by go_num, ?_, be_grown (HBr.out.alloc hs3 _) HG5.out hs4 (fun j hj => (HOr.out.lt j hj).1)⟩
          have := HO5.out
          rw [HW.out, List.map_append]
          exact this
        case measure => simp [intOf]; omega
    · obtain rfl : k = 64 := by omega
      rw [ShaM.wl_full] at HO
      obtain ⟨g, c, rfl, hgc, hcm, hBg, hgl, hcell⟩ := own_cells HO.out (by decide)
      have HCW : Hid (∀ i, i < 64 → wr.cell? ⟨g, i, none⟩ = some (.int .u32 (((ShaM.wds l).getD i 0).toNat : Int))) := by
        intro i hi
        have hl := ShaM.wds_len l
        refine hcell i _ ?_
        rw [List.getElem?_map, List.getElem?_eq_getElem (by omega), Option.map_some, List.getD_eq_getElem?_getD, List.getElem?_eq_getElem (by omega), Option.getD_some]
        rfl
      have HWB := Lib.hid (HW2.out.below HB.out HW2.out.lt)
      have HTB := Lib.hid (HT2.out.below HB.out HT2.out.lt)
      have HRB := Lib.hid (HR2.out.below HB.out HR2.out.lt)
      have HBB := Lib.hid (HB2.out.trans (HB.out.mono HB2.out.size))
      have hs5 := HB.out.size
      have hb0 := HW2.out.lt
      have hb1 := HR2.out.lt
      have hbt := HT2.out.lt
      have hcss : cs.size = 8 := by rw [HCS.out, List.size_toArray, List.length_map, ShaM.ls_len]
      have HI8 : Hid ((Tryz.prog.info? 199).map (·.size) = some cs.size) := by show _ = _; rw [hcss]; kernel_rfl
      have HS8 := Lib.hid hcss
      have H18 : Hid (cs.all (·.oneCell') = true) := by show _ = _; rw [HCS.out]; exact words_one _
      clear hcell HO hcss
      go_wp2_with (first
        | (refine wpList_load_row rfl 199 _ rfl w.heap.size rfl 199 cs (0, 0) _ HWB.out Tryz.underlying199 rfl HI8.out ?_)
        | (refine wpList_store_whole rfl 199 _ _ rfl wr.heap.size cs rfl rfl 199 _ (Whole.made wr _ _) HI8.out (by rw [HS8.out]; kernel_rfl) H18.out ?_; intro w6 hW6 hG6; have HV6 := Lib.hid hW6; have HG6 := Lib.hid hG6; clear hW6 hG6))
      have hne : ∀ b, b < wr.heap.size → some b ≠ some wr.heap.size := fun b hb e => by injection e with e; omega
      have HW6 := Lib.hid ((HWB.out.past (.cells (Array.replicate 8 (.int .u32 0)) 199)).grown HG6.out (hne _ (by omega)))
      have HT6 := Lib.hid ((HTB.out.past (.cells (Array.replicate 8 (.int .u32 0)) 199)).grown HG6.out (hne _ (by omega)))
      have HR6 := Lib.hid ((HRB.out.past (.cells (Array.replicate 8 (.int .u32 0)) 199)).grown HG6.out (hne _ (by omega)))
      have HC6 : Hid (∀ i, i < 64 → w6.cell? ⟨g, i, none⟩ = some (.int .u32 (((ShaM.wds l).getD i 0).toNat : Int))) := by
        intro i hi
        refine HG6.out.cell ((World.cell?_alloc_lt _ _ _ ?_).trans (HCW.out i hi)) (hne _ hgl)
        exact hgl
      have HB6 := Lib.hid (be_grown (HBB.out.alloc (by omega) _) HG6.out (by simp; omega) (fun j hj => by injection hj with hj; omega))
      have hs6 := HG6.out.size
      simp only [World.size_alloc] at hs6
      have HN : Hid (w.heap.size < wr.heap.size ∧ w1.heap.size < wr.heap.size ∧ g < wr.heap.size ∧ w.heap.size + 1 < wr.heap.size) := ⟨by omega, by omega, by omega, by omega⟩
      clear HWB HTB HRB HBB HCW HG6 HB hne hs6 hs5 hb0 hb1 hbt hBg hgl HW2 HT2 HR2 HB2 hs2 hs1 hgc hcm
      generalize wr.heap.size = bv at *
      go_loopw [11] (fun t wr => ∃ k : Nat, k ≤ 64 ∧ t = .int .i64 (k : Int) ∧ w6.grownBy wr (some bv) ∧ Whole wr bv 199 ((ShaM.ls (ShaM.rounds (ShaM.wds l) k s)).map U).toArray) (fun t _ => 64 - (intOf t).toNat)
      case atStart => exact ⟨0, by omega, rfl, gr_refl _ _, by have := HV6.out; rw [HCS.out] at this; exact this⟩
      case round =>
        obtain ⟨k, hk, rfl, hG, hV⟩ := hrel
        have HG := Lib.hid hG
        have HV := Lib.hid hV
        clear hG hV
        have hne := HN.out
        by_cases hlt : k < 64
        · have HR : Hid (ShaM.rounds (ShaM.wds l) (k + 1) s = ShaM.rnd (ShaM.rounds (ShaM.wds l) k s) (ShaM.K k) ((ShaM.wds l).getD k 0)) := rfl
          have aw : wr.cell? ⟨g, k, none⟩ = some (.int .u32 (((ShaM.wds l).getD k 0).toNat : Int)) := HG.out.cell (HC6.out k hlt) (fun e => by have e : some g = some bv := e; injection e with e; omega)
          have ak : wr.cell? ⟨w1.heap.size, k, none⟩ = some (.int .u32 ((ShaM.K k).toNat : Int)) := HG.out.cell ((HT6.out.at_ k).trans (tbl_at k hlt)) (fun e => by have e : some w1.heap.size = some bv := e; injection e with e; omega)
          generalize ShaM.rounds (ShaM.wds l) k s = r at *
          generalize (ShaM.wds l).getD k 0 = x at *
          generalize ShaM.K k = kc at *
          have a0 : wr.cell? ⟨bv, 0, none⟩ = some (.int .u32 (r.a.toNat : Int)) := (HV.out.at_ 0).trans rfl
          have a1 : wr.cell? ⟨bv, 1, none⟩ = some (.int .u32 (r.b.toNat : Int)) := (HV.out.at_ 1).trans rfl
          have a2 : wr.cell? ⟨bv, 2, none⟩ = some (.int .u32 (r.c.toNat : Int)) := (HV.out.at_ 2).trans rfl
          have a3 : wr.cell? ⟨bv, 3, none⟩ = some (.int .u32 (r.d.toNat : Int)) := (HV.out.at_ 3).trans rfl
          have a4 : wr.cell? ⟨bv, 4, none⟩ = some (.int .u32 (r.e.toNat : Int)) := (HV.out.at_ 4).trans rfl
          have a5 : wr.cell? ⟨bv, 5, none⟩ = some (.int .u32 (r.f.toNat : Int)) := (HV.out.at_ 5).trans rfl
          have a6 : wr.cell? ⟨bv, 6, none⟩ = some (.int .u32 (r.g.toNat : Int)) := (HV.out.at_ 6).trans rfl
          have a7 : wr.cell? ⟨bv, 7, none⟩ = some (.int .u32 (r.h.toNat : Int)) := (HV.out.at_ 7).trans rfl
          have hk0 : (0 : Int) ≤ (k : Int) := by omega
          have hk64 : (k : Int) < 64 := by omega
          go_wp2_with fail
          go_quiet (fail)
          have b0 : (wr.drewN nq).cell? ⟨bv, 0, none⟩ = some (.int .u32 (r.a.toNat : Int)) := a0
          have b1 : (wr.drewN nq).cell? ⟨bv, 1, none⟩ = some (.int .u32 (r.b.toNat : Int)) := a1
          have b2 : (wr.drewN nq).cell? ⟨bv, 2, none⟩ = some (.int .u32 (r.c.toNat : Int)) := a2
          have b3 : (wr.drewN nq).cell? ⟨bv, 3, none⟩ = some (.int .u32 (r.d.toNat : Int)) := a3
          have b4 : (wr.drewN nq).cell? ⟨bv, 4, none⟩ = some (.int .u32 (r.e.toNat : Int)) := a4
          have b5 : (wr.drewN nq).cell? ⟨bv, 5, none⟩ = some (.int .u32 (r.f.toNat : Int)) := a5
          have b6 : (wr.drewN nq).cell? ⟨bv, 6, none⟩ = some (.int .u32 (r.g.toNat : Int)) := a6
          have b7 : (wr.drewN nq).cell? ⟨bv, 7, none⟩ = some (.int .u32 (r.h.toNat : Int)) := a7
          have bw : (wr.drewN nq).cell? ⟨g, k, none⟩ = some (.int .u32 (x.toNat : Int)) := aw
          have bk : (wr.drewN nq).cell? ⟨w1.heap.size, k, none⟩ = some (.int .u32 (kc.toNat : Int)) := ak
          clear a0 a1 a2 a3 a4 a5 a6 a7 aw ak
          have HGb : Hid (w6.grownBy (wr.drewN nq) (some bv)) := gr_drewN HG.out nq
          have HVb : Hid (Whole (wr.drewN nq) bv 199 ((ShaM.ls r).map U).toArray) := HV.out
          clear HG HV
          generalize wr.drewN nq = wb at *
          go_wp2_with fail
          go_quiet (((go_at_call 202; exact q_draw (rturn_any _ _ (by omega) (by omega) _))))
          have c0 : (wb.drewN nq).cell? ⟨bv, 0, none⟩ = some (.int .u32 (r.a.toNat : Int)) := b0
          have c1 : (wb.drewN nq).cell? ⟨bv, 1, none⟩ = some (.int .u32 (r.b.toNat : Int)) := b1
          have c2 : (wb.drewN nq).cell? ⟨bv, 2, none⟩ = some (.int .u32 (r.c.toNat : Int)) := b2
          have c3 : (wb.drewN nq).cell? ⟨bv, 3, none⟩ = some (.int .u32 (r.d.toNat : Int)) := b3
          have c4 : (wb.drewN nq).cell? ⟨bv, 4, none⟩ = some (.int .u32 (r.e.toNat : Int)) := b4
          have c5 : (wb.drewN nq).cell? ⟨bv, 5, none⟩ = some (.int .u32 (r.f.toNat : Int)) := b5
          have c6 : (wb.drewN nq).cell? ⟨bv, 6, none⟩ = some (.int .u32 (r.g.toNat : Int)) := b6
          have c7 : (wb.drewN nq).cell? ⟨bv, 7, none⟩ = some (.int .u32 (r.h.toNat : Int)) := b7
          have cw : (wb.drewN nq).cell? ⟨g, k, none⟩ = some (.int .u32 (x.toNat : Int)) := bw
          have ck : (wb.drewN nq).cell? ⟨w1.heap.size, k, none⟩ = some (.int .u32 (kc.toNat : Int)) := bk
          clear b0 b1 b2 b3 b4 b5 b6 b7 bw bk
          have HGc : Hid (w6.grownBy (wb.drewN nq) (some bv)) := gr_drewN HGb.out nq
          have HVc : Hid (Whole (wb.drewN nq) bv 199 ((ShaM.ls r).map U).toArray) := HVb.out
          clear HGb HVb
          generalize wb.drewN nq = wc at *
          go_wp2_with fail
          go_quiet (((go_at_call 202; exact q_draw (rturn_any _ _ (by omega) (by omega) _))))
          have d0 : (wc.drewN nq).cell? ⟨bv, 0, none⟩ = some (.int .u32 (r.a.toNat : Int)) := c0
          have d1 : (wc.drewN nq).cell? ⟨bv, 1, none⟩ = some (.int .u32 (r.b.toNat : Int)) := c1
          have d2 : (wc.drewN nq).cell? ⟨bv, 2, none⟩ = some (.int .u32 (r.c.toNat : Int)) := c2
          have d3 : (wc.drewN nq).cell? ⟨bv, 3, none⟩ = some (.int .u32 (r.d.toNat : Int)) := c3
          have d4 : (wc.drewN nq).cell? ⟨bv, 4, none⟩ = some (.int .u32 (r.e.toNat : Int)) := c4
          have d5 : (wc.drewN nq).cell? ⟨bv, 5, none⟩ = some (.int .u32 (r.f.toNat : Int)) := c5
          have d6 : (wc.drewN nq).cell? ⟨bv, 6, none⟩ = some (.int .u32 (r.g.toNat : Int)) := c6
          have d7 : (wc.drewN nq).cell? ⟨bv, 7, none⟩ = some (.int .u32 (r.h.toNat : Int)) := c7
          have dw : (wc.drewN nq).cell? ⟨g, k, none⟩ = some (.int .u32 (x.toNat : Int)) := cw
          have dk : (wc.drewN nq).cell? ⟨w1.heap.size, k, none⟩ = some (.int .u32 (kc.toNat : Int)) := ck
          clear c0 c1 c2 c3 c4 c5 c6 c7 cw ck
          have HGd : Hid (w6.grownBy (wc.drewN nq) (some bv)) := gr_drewN HGc.out nq
          have HVd : Hid (Whole (wc.drewN nq) bv 199 ((ShaM.ls r).map U).toArray) := HVc.out
          clear HGc HVc
          generalize wc.drewN nq = wd at *
          rw [rt_1 r kc x, rt_2 r]
          have HT1 : Hid (ShaM.rnd r kc x = ⟨ShaM.t1 r kc x + ShaM.t2 r, r.a, r.b, r.c, r.d + ShaM.t1 r kc x, r.e, r.f, r.g⟩) := rfl
          generalize ShaM.t1 r kc x = y1 at *
          generalize ShaM.t2 r = y2 at *
          have z0 := HVd.out.thawed 0
          have z1 := HVd.out.thawed 1
          have z2 := HVd.out.thawed 2
          have z3 := HVd.out.thawed 3
          have z4 := HVd.out.thawed 4
          have z5 := HVd.out.thawed 5
          have z6 := HVd.out.thawed 6
          have z7 := HVd.out.thawed 7
          go_wp2_with fail
          go_roundw
          case rel =>
            refine ⟨k + 1, by omega, by go_num, grown_rnd HGd.out _ _ _ _ _ _ _ _, ?_⟩
            rw [HR.out, HT1.out]
            exact whole_rnd wd bv 199 r y1 y2 HVd.out
          case measure => simp [intOf]; omega
        · obtain rfl : k = 64 := by omega
          have HF : Hid (ShaM.comp s l = s.add (ShaM.rounds (ShaM.wds l) 64 s)) := rfl
          generalize ShaM.rounds (ShaM.wds l) 64 s = r at *
          have HWA := Lib.hid (HW6.out.grown HG.out (fun e => by injection e with e; omega))
          have HRA := Lib.hid (HR6.out.grown HG.out (fun e => by injection e with e; omega))
          have HBA := Lib.hid (be_grown HB6.out HG.out HB6.out.size (fun j hj => by injection hj with hj; omega))
          have hbv := HV.out.lt
          clear HG HW6 HR6 HC6 HT6 HV6 hlt hk
          generalize wr = wA at *
          go_wp2_with fail
          go_loopw [16] (fun t wr => ∃ k : Nat, k ≤ 8 ∧ t = .int .i64 (k : Int) ∧ wA.grownBy wr (some w.heap.size) ∧ Whole wr w.heap.size 199 ((mixl s r k).map U).toArray) (fun t _ => 8 - (intOf t).toNat)
          case atStart => exact ⟨0, by omega, rfl, gr_refl _ _, by have := HWA.out; rw [HCS.out] at this; exact this⟩
          case round =>
            obtain ⟨k, hk, rfl, hG, hX⟩ := hrel
            have HG := Lib.hid hG
            have HX := Lib.hid hX
            clear hG hX
            by_cases hlt : k < 8
            · have cb : wr.cell? ⟨w.heap.size, k, none⟩ = some (.int .u32 (((ShaM.ls s).getD k 0).toNat : Int)) := by
                rw [HX.out.at_ k, List.getElem?_toArray, some_u _ _ (by rw [mixl_len _ _ _ hk]; exact hlt), mixl_at _ _ _ hlt]; rfl
              have cv : wr.cell? ⟨bv, k, none⟩ = some (.int .u32 (((ShaM.ls r).getD k 0).toNat : Int)) := by
                rw [(HV.out.grown HG.out (fun e => by injection e with e; omega)).at_ k, List.getElem?_toArray, some_u _ _ (by rw [ShaM.ls_len]; exact hlt)]; rfl
              have zb := HX.out.thawed k
              have HST := Lib.hid (mixl_step s r k hlt)
              have hk0 : (0 : Int) ≤ (k : Int) := by omega
              have hk8 : (k : Int) < 8 := by omega
              have hne : w.heap.size ≠ bv := by omega
              generalize (ShaM.ls s).getD k 0 = x at *
              generalize (ShaM.ls r).getD k 0 = y at *
              go_wp2_with fail
              go_region
              have e8 : Value.int .u32 (((x.toNat : Int) + (y.toNat : Int)) % 4294967296) = U (x + y) := by rw [u_add_mod]; rfl
              go_wp2
              go_roundw
              case rel =>
                refine ⟨k + 1, by omega, by go_num, gr_drew (gr_set HG.out (.inl rfl) _), ?_⟩
                have := ((HX.out.put k (U (x + y))).drew)
                rw [List.setIfInBounds_toArray, ← List.map_set, HST.out] at this
                exact this
              case measure => simp [intOf]; omega
            · obtain rfl : k = 8 := by omega
              rw [mixl_full, ← HF.out] at HX
              have HRZ := Lib.hid (HRA.out.grown HG.out (fun e => by injection e with e; omega))
              have HBZ := Lib.hid (be_grown HBA.out HG.out HBA.out.size (fun j hj => by injection hj with hj; omega))
              obtain ⟨fc, hfc⟩ : ∃ fc, fc = ((ShaM.ls (ShaM.comp s l)).map U).toArray := ⟨_, rfl⟩
              rw [← hfc] at HX
              have HFC := Lib.hid hfc
              have hfs : fc.size = 8 := by rw [hfc, List.size_toArray, List.length_map, ShaM.ls_len]
              have HFI : Hid ((Tryz.prog.info? 199).map (·.size) = some fc.size) := by show _ = _; rw [hfs]; kernel_rfl
              have HFS := Lib.hid hfs
              have HF1 : Hid (fc.all (·.oneCell') = true) := by show _ = _; rw [hfc]; exact words_one _
              clear hfs hfc HF
              go_wp2_with (first
                | (refine wpList_load_row rfl 199 _ rfl w.heap.size rfl 199 fc (0, 0) _ HX.out Tryz.underlying199 rfl HFI.out ?_)
                | (refine wpList_store_whole rfl 199 _ _ rfl (w.heap.size + 1) fc rfl rfl 199 _ HRZ.out HFI.out (by rw [HFS.out]; kernel_rfl) HF1.out ?_; intro w9 hW9 hG9; have HW9 := Lib.hid hW9; have HB9 := Lib.hid (be_grown HBZ.out hG9 HBZ.out.size (fun j hj => by injection hj with hj; omega)); clear hW9 hG9))
              refine bodyPost_ret (v := .agg fc) ?_ rfl ⟨by rw [HFC.out], HB9.out⟩
              exact results_cell_row (p := 4) (ty := 199) rfl _ _ (w.heap.size + 1) 199 fc (0, 0) _ rfl HW9.out Tryz.underlying199 rfl HFI.out
end Go.Proofs.YtjoinnjhpfakpaaGreatDoor

/-
  The reference's way to a hash, as lists: the padded text as it is laid, the words as they are appended. No walk.
  The reference's turn and table, walked.
  The reference's block, walked.
  The reference's Sum, walked.
-/
import Derived.Test.YtfaijkgfhdhhbaaGreatDoorMgb
import Derived.Test.YtfaijkgfhdhhbaaGreatDoorMgc
import Derived.Test.YtfaijkgfhdhhbaaGreatDoorMgh
import Derived.Test.YtfaijkgfhdhhbaaGreatDoorMge
import Derived.Maps.AppendAt
import Derived.Test.YtfaijkgfhdhhbaaGreatDoorMgd
namespace Go.Proofs.YtfaijkgfhdhhbaaGreatDoor.ShaM

/-- The text, a bit, zeros. -/
def zp (T : List UInt8) (j : Nat) : List UInt8 := T ++ (128 :: List.replicate j 0)
theorem zp_len (T : List UInt8) (j : Nat) : (zp T j).length = T.length + 1 + j := by simp [zp]; omega
theorem zp_succ (T : List UInt8) (j : Nat) : zp T j ++ [0] = zp T (j + 1) := by simp [zp, List.replicate_succ']
theorem zp_end (T : List UInt8) (j : Nat) (h : j ≤ padN T.length - 9) : (zp T j).length % 64 = 56 ↔ j = padN T.length - 9 := by
  rw [zp_len]
  have hp : padN T.length = if T.length % 64 < 56 then 64 - T.length % 64 else 128 - T.length % 64 := rfl
  generalize padN T.length = p at *
  split at hp <;> omega
/-- The length's bytes, the first k of them. -/
def lp (T : List UInt8) (k : Nat) : List UInt8 := zp T (padN T.length - 9) ++ (be8 (T.length * 8)).take k
theorem lp_zero (T : List UInt8) : lp T 0 = zp T (padN T.length - 9) := by simp [lp]
theorem lp_full (T : List UInt8) : lp T 8 = T ++ pad T.length := by
  simp [lp, zp, pad, be8]
theorem lp_succ (T : List UInt8) (k : Nat) (h : k < 8) : lp T k ++ [UInt8.ofNat (T.length * 8 / 2 ^ (8 * (7 - k)))] = lp T (k + 1) := by
  have h8 : k = 0 ∨ k = 1 ∨ k = 2 ∨ k = 3 ∨ k = 4 ∨ k = 5 ∨ k = 6 ∨ k = 7 := by omega
  rcases h8 with rfl | rfl | rfl | rfl | rfl | rfl | rfl | rfl <;> simp [lp, be8]
/-- All blocks but one, and that one. -/
theorem runN_snoc (k : Nat) (s : St) (l : List UInt8) : runN (k + 1) s l = comp (runN k s l) ((l.take (64 * k + 64)).drop (64 * k)) := by
  rw [runN_add k 1]
  simp only [runN]
  rw [List.drop_take, show 64 * k + 64 - 64 * k = 64 by omega]
theorem pad_blocks (T : List UInt8) : (T ++ pad T.length).length % 64 = 0 := by
  have := padN_bd T.length
  rw [List.length_append, pad_len]; omega
/-- The words of a block as they are appended. -/
def wl (l : List UInt8) (t : Nat) : List Wd := if t ≤ 16 then mws l t else sched (mws l 16) (t - 16)
theorem wl_zero (l : List UInt8) : wl l 0 = [] := rfl
theorem wl_full (l : List UInt8) : wl l 64 = wds l := rfl
theorem wl_len (l : List UInt8) (t : Nat) : (wl l t).length = t := by
  unfold wl
  split
  · exact mws_len _ _
  · rw [sched_len, mws_len]; omega
theorem wl_low (l : List UInt8) (t : Nat) (h : t < 16) : wl l (t + 1) = wl l t ++ [mw l t] := by
  unfold wl
  rw [if_pos (by omega), if_pos (by omega), mws_succ]
theorem wl_high (l : List UInt8) (t : Nat) (h : 16 ≤ t) : wl l (t + 1) = wl l t ++ [s1 ((wl l t).getD (t - 2) 0) + (wl l t).getD (t - 7) 0 + s0 ((wl l t).getD (t - 15) 0) + (wl l t).getD (t - 16) 0] := by
  have e : wl l t = sched (mws l 16) (t - 16) := by
    unfold wl
    split
    · obtain rfl : t = 16 := by omega
      rfl
    · rfl
  have e2 : wl l (t + 1) = sched (mws l 16) (t - 16 + 1) := by
    unfold wl
    rw [if_neg (by omega), show t + 1 - 16 = t - 16 + 1 by omega]
  have hl : (sched (mws l 16) (t - 16)).length = t := by rw [sched_len, mws_len]; omega
  rw [e2, sched, e, ext, hl]
/-- The state as a list of eight. -/
def ls (s : St) : List Wd := [s.a, s.b, s.c, s.d, s.e, s.f, s.g, s.h]
theorem ls_len (s : St) : (ls s).length = 8 := rfl
/-- A byte of the result. -/
theorem out_at (s : St) (i : Nat) (h : i < 32) : (out s).getD i 0 = UInt8.ofNat (((ls s).getD (i / 4) 0).toNat / 2 ^ (24 - 8 * (i % 4))) := by
  have hi : ∀ i : Fin 32, (out s).getD i.val 0 = UInt8.ofNat (((ls s).getD (i.val / 4) 0).toNat / 2 ^ (24 - 8 * (i.val % 4))) := by
    intro i
    have h32 : i.val = 0 ∨ i.val = 1 ∨ i.val = 2 ∨ i.val = 3 ∨ i.val = 4 ∨ i.val = 5 ∨ i.val = 6 ∨ i.val = 7 ∨ i.val = 8 ∨ i.val = 9 ∨ i.val = 10 ∨ i.val = 11 ∨ i.val = 12 ∨ i.val = 13 ∨ i.val = 14 ∨ i.val = 15 ∨ i.val = 16 ∨ i.val = 17 ∨ i.val = 18 ∨ i.val = 19 ∨ i.val = 20 ∨ i.val = 21 ∨ i.val = 22 ∨ i.val = 23 ∨ i.val = 24 ∨ i.val = 25 ∨ i.val = 26 ∨ i.val = 27 ∨ i.val = 28 ∨ i.val = 29 ∨ i.val = 30 ∨ i.val = 31 := by have := i.isLt; omega
    rcases h32 with e | e | e | e | e | e | e | e | e | e | e | e | e | e | e | e | e | e | e | e | e | e | e | e | e | e | e | e | e | e | e | e <;> rw [e] <;> simp [out, be4, ls]
  exact hi ⟨i, h⟩
end Go.Proofs.YtfaijkgfhdhhbaaGreatDoor.ShaM
namespace Go.Proofs.YtfaijkgfhdhhbaaGreatDoor
open Go.RowKit

theorem rturn_any (x : BitVec 32) (i : Int) (h1 : 1 ≤ i) (h2 : i < 32) (w : World) :
    Calls Tryz.prog 145 #[.int .u32 (x.toNat : Int), .int .i64 i] w fun e w' => e = .returned (.int .u32 ((ShaM.rr x i.toNat).toNat : Int)) ∧ ∃ k, w' = w.drewN k := by
  obtain ⟨n, rfl⟩ : ∃ n : Nat, i = (n : Int) := ⟨i.toNat, by omega⟩
  rw [Int.toNat_natCast]
  have hs : IntKind.i64.wrap (32 - (n : Int)) = ((32 - n : Nat) : Int) := by rw [IntWalk.i64_in _ (by omega)]; omega
  have hn : (32 : Int) - (n : Int) = ((32 - n : Nat) : Int) := by omega
  have HF : Hid (∀ v : Int, v = ((x.toNat : Int) / 2 ^ n + (x.toNat : Int) * 2 ^ (32 - n) % 4294967296) % 4294967296 → v = ((ShaM.rr x n).toNat : Int)) := by
    intro v hv
    rw [hv, u_shl_mod, u_shr, u_add_mod, ShaM.turn_eq]
  go_enter Tryz.func145, Tryz.ntmps145
  go_wp2_with fail
  go_quiet (fail)
  go_wp2
  go_ret
  refine ⟨ret_int (HF.out _ ?_), _, rfl⟩
  rfl

/-- The table. -/
def tbl : Array Value := (ShaM.kk.map fun (n : Nat) => Value.int .u32 (n : Int)).toArray
theorem tbl_at (i : Nat) (h : i < 64) : tbl[i]? = some (U (ShaM.K i)) := by
  have hh : ∀ i : Fin 64, ((BitVec.ofNat 32 (ShaM.kk.getD i.val 0)).toNat) = ShaM.kk.getD i.val 0 := by decide +kernel
  have h2 := hh ⟨i, h⟩
  unfold tbl
  rw [List.getElem?_toArray, List.getElem?_map, List.getElem?_eq_getElem (by rw [ShaM.kk_len]; exact h), Option.map_some]
  unfold U ShaM.K
  rw [h2, List.getD_eq_getElem?_getD, List.getElem?_eq_getElem (by rw [ShaM.kk_len]; exact h), Option.getD_some]
set_option maxRecDepth 100000 in
set_option maxHeartbeats 1000000 in
theorem rtable_any (w : World) : Calls Tryz.prog 144 #[] w fun e w' => e = .returned (.agg tbl) ∧ Below w.heap.size w w' := by
  have HI : Hid ((Tryz.prog.info? 175).map (·.size) = some tbl.size) := by show _ = _; kernel_rfl
  have H1 : Hid (tbl.all (·.oneCell') = true) := by show _ = _; kernel_rfl
  go_enter Tryz.func144, Tryz.ntmps144
  go_wp2_with (refine wpList_store_whole rfl 175 _ _ rfl w.heap.size tbl rfl (by kernel_rfl) 175 _ (Whole.made w _ _) HI.out (by kernel_rfl) H1.out ?_; intro w3 hW3 hG3; have HW3 := Lib.hid hW3; have HB3 := Lib.hid (be_grown ((Below.refl w.heap.size w).alloc (Nat.le_refl _) _) hG3 (by simp) (fun j hj => by injection hj with hj; omega)); clear hW3 hG3)
  refine bodyPost_ret (v := .agg tbl) ?_ rfl ⟨rfl, HB3.out⟩
  exact results_cell_row (p := 0) (ty := 175) rfl _ _ w.heap.size 175 tbl (0, 0) _ rfl HW3.out Tryz.underlying175 rfl HI.out
end Go.Proofs.YtfaijkgfhdhhbaaGreatDoor
namespace Go.Proofs.YtfaijkgfhdhhbaaGreatDoor
open Go.RowKit

theorem infoU32 : (Tryz.prog.info? 145).map (fun i => (i.zero, i.size, i.bytes)) = some (some (.int .u32 0), 1, 4) := by kernel_rfl
theorem be_toNat (a b c d : UInt8) : ((ShaM.be a b c d).toNat : Int) = (a.toNat : Int) * 16777216 + (b.toNat : Int) * 65536 + (c.toNat : Int) * 256 + (d.toNat : Int) := by
  have ha := a.toNat_lt
  have hb := b.toNat_lt
  have hc := c.toNat_lt
  have hd := d.toNat_lt
  unfold ShaM.be
  rw [BitVec.toNat_ofNat]
  omega
theorem own_cells {w : World} {B : Nat} {e : TypeId} {v : Value} {n : Nat} {xs : List Value} (h : w.ownsRow B e 1 v n xs) (h0 : 0 < n) :
    ∃ g c, v = .slice (some ⟨g, 0, none⟩) n c ∧ n ≤ c ∧ c ≤ maxLen ∧ B ≤ g ∧ g < w.heap.size ∧ ∀ i x, xs[i]? = some x → w.cell? ⟨g, i, none⟩ = some x := by
  rcases h.2 with ⟨rfl, h1⟩ | ⟨g, cap, cur, rfl, hB, hg, hn, hm, hs, ht⟩
  · omega
  · rw [Nat.mul_one] at hs ht
    refine ⟨g, cap, rfl, hn, hm, hB, (Array.getElem?_eq_some_iff.1 hg).1, fun i x hx => ?_⟩
    have hi : i < n := by
      have h1 := (List.getElem?_eq_some_iff.1 hx).1
      have h2 := congrArg List.length ht
      rw [List.length_take] at h2
      omega
    rw [← ht, List.getElem?_take_of_lt hi] at hx
    rw [cell_of_row _ _ i _ _ _ hg, ← hx]
    simp
theorem w_high (x y x7 x16 : BitVec 32) : ((bits .xor .u32 (bits .xor .u32 ((ShaM.rr x 17).toNat : Int) ((ShaM.rr x 19).toNat : Int)) ((x.toNat : Int) / 1024) + (x7.toNat : Int) + bits .xor .u32 (bits .xor .u32 ((ShaM.rr y 7).toNat : Int) ((ShaM.rr y 18).toNat : Int)) ((y.toNat : Int) / 8)) % 4294967296 + (x16.toNat : Int)) % 4294967296 =
    ((ShaM.s1 x + x7 + ShaM.s0 y + x16).toNat : Int) := by
  have e := u_shr x 10
  have f := u_shr y 3
  rw [show (2 : Int) ^ 10 = 1024 from rfl] at e
  rw [show (2 : Int) ^ 3 = 8 from rfl] at f
  rw [e, f, u_xor, u_xor, u_xor, u_xor]
  show ((((ShaM.s1 x).toNat : Int) + (x7.toNat : Int) + ((ShaM.s0 y).toNat : Int)) % 4294967296 + (x16.toNat : Int)) % 4294967296 = _
  simp only [BitVec.toNat_add]
  omega
theorem u_nsub (x : BitVec 32) : (4294967295 : Int) - (x.toNat : Int) = (((0xffffffff : BitVec 32) - x).toNat : Int) := by
  have := x.isLt
  have e : (0xffffffff : BitVec 32).toNat = 4294967295 := by decide
  rw [BitVec.toNat_sub, e]
  omega
theorem rt_1 (r : ShaM.St) (kc x : BitVec 32) : (((r.h.toNat : Int) + bits .xor .u32 (bits .xor .u32 ((ShaM.rr r.e 6).toNat : Int) ((ShaM.rr r.e 11).toNat : Int)) ((ShaM.rr r.e 25).toNat : Int) +
      bits .or .u32 (bits .and .u32 (r.e.toNat : Int) (r.f.toNat : Int)) (bits .and .u32 (4294967295 - (r.e.toNat : Int)) (r.g.toNat : Int)) + (kc.toNat : Int)) % 4294967296 + (x.toNat : Int)) % 4294967296 = ((ShaM.t1 r kc x).toNat : Int) := by
  rw [u_nsub, u_and, u_and, u_or, u_xor, u_xor, ShaM.ch_eq]
  show ((((r.h.toNat : Int) + ((ShaM.b1 r.e).toNat : Int) + ((ShaM.ch r.e r.f r.g).toNat : Int)) + (kc.toNat : Int)) % 4294967296 + (x.toNat : Int)) % 4294967296 = ((r.h + ShaM.b1 r.e + ShaM.ch r.e r.f r.g + kc + x).toNat : Int)
  simp only [BitVec.toNat_add]
  omega
theorem rt_2 (r : ShaM.St) : (bits .xor .u32 (bits .xor .u32 ((ShaM.rr r.a 2).toNat : Int) ((ShaM.rr r.a 13).toNat : Int)) ((ShaM.rr r.a 22).toNat : Int) +
      bits .or .u32 (bits .or .u32 (bits .and .u32 (r.a.toNat : Int) (r.b.toNat : Int)) (bits .and .u32 (r.a.toNat : Int) (r.c.toNat : Int))) (bits .and .u32 (r.b.toNat : Int) (r.c.toNat : Int))) % 4294967296 = ((ShaM.t2 r).toNat : Int) := by
  rw [u_and, u_and, u_and, u_or, u_or, u_xor, u_xor, ShaM.mj_eq]
  show (((ShaM.b0 r.a).toNat : Int) + ((ShaM.mj r.a r.b r.c).toNat : Int)) % 4294967296 = ((ShaM.b0 r.a + ShaM.mj r.a r.b r.c).toNat : Int)
  rw [u_add_mod]
/-- The state as it is being added to. -/
def mixl (s r : ShaM.St) (k : Nat) : List (BitVec 32) := (ShaM.ls (s.add r)).take k ++ (ShaM.ls s).drop k
theorem mixl_len (s r : ShaM.St) (k : Nat) (h : k ≤ 8) : (mixl s r k).length = 8 := by
  simp only [mixl, List.length_append, List.length_take, List.length_drop, ShaM.ls_len]; omega
theorem mixl_step (s r : ShaM.St) (k : Nat) (h : k < 8) : (mixl s r k).set k ((ShaM.ls s).getD k 0 + (ShaM.ls r).getD k 0) = mixl s r (k + 1) := by
  match k, h with
  | 0, _ => rfl
  | 1, _ => rfl
  | 2, _ => rfl
  | 3, _ => rfl
  | 4, _ => rfl
  | 5, _ => rfl
  | 6, _ => rfl
  | 7, _ => rfl
theorem mixl_at (s r : ShaM.St) (k : Nat) (h : k < 8) : (mixl s r k).getD k 0 = (ShaM.ls s).getD k 0 := by
  match k, h with
  | 0, _ => rfl
  | 1, _ => rfl
  | 2, _ => rfl
  | 3, _ => rfl
  | 4, _ => rfl
  | 5, _ => rfl
  | 6, _ => rfl
  | 7, _ => rfl
theorem mixl_full (s r : ShaM.St) : mixl s r 8 = ShaM.ls (s.add r) := rfl
theorem some_u (l : List (BitVec 32)) (i : Nat) (h : i < l.length) : (l.map U)[i]? = some (U (l.getD i 0)) := by
  rw [List.getElem?_map, List.getElem?_eq_getElem h, Option.map_some, List.getD_eq_getElem?_getD, List.getElem?_eq_getElem h, Option.getD_some]
theorem whole_rnd (wd : World) (bv : Nat) (T : TypeId) (r : ShaM.St) (y1 y2 : BitVec 32) (h : Whole wd bv T ((ShaM.ls r).map U).toArray) :
    Whole ((((((((wd.setCell ⟨bv, 0, none⟩ (.int .u32 (((y1.toNat : Int) + (y2.toNat : Int)) % 4294967296))).setCell ⟨bv, 1, none⟩ (.int .u32 (r.a.toNat : Int))).setCell ⟨bv, 2, none⟩ (.int .u32 (r.b.toNat : Int))).setCell ⟨bv, 3, none⟩ (.int .u32 (r.c.toNat : Int))).setCell
      ⟨bv, 4, none⟩ (.int .u32 (((r.d.toNat : Int) + (y1.toNat : Int)) % 4294967296))).setCell ⟨bv, 5, none⟩ (.int .u32 (r.e.toNat : Int))).setCell ⟨bv, 6, none⟩ (.int .u32 (r.f.toNat : Int))).setCell ⟨bv, 7, none⟩ (.int .u32 (r.g.toNat : Int)))
      bv T ((ShaM.ls ⟨y1 + y2, r.a, r.b, r.c, r.d + y1, r.e, r.f, r.g⟩).map U).toArray := by
  rw [u_add_mod, u_add_mod]
  have this := (((((((h.put 0 (U (y1 + y2))).put 1 (U r.a)).put 2 (U r.b)).put 3 (U r.c)).put 4 (U (r.d + y1))).put 5 (U r.e)).put 6 (U r.f)).put 7 (U r.g)
  have e : (((((((((ShaM.ls r).map U).toArray.setIfInBounds 0 (U (y1 + y2))).setIfInBounds 1 (U r.a)).setIfInBounds 2 (U r.b)).setIfInBounds 3 (U r.c)).setIfInBounds 4 (U (r.d + y1))).setIfInBounds 5 (U r.e)).setIfInBounds 6 (U r.f)).setIfInBounds 7 (U r.g) = ((ShaM.ls ⟨y1 + y2, r.a, r.b, r.c, r.d + y1, r.e, r.f, r.g⟩).map U).toArray := by
    simp [ShaM.ls]
  rw [e] at this
  exact this
theorem grown_rnd {w6 wd : World} {bv : Nat} (h : w6.grownBy wd (some bv)) (a b c d e f g x : Value) :
    w6.grownBy ((((((((wd.setCell ⟨bv, 0, none⟩ a).setCell ⟨bv, 1, none⟩ b).setCell ⟨bv, 2, none⟩ c).setCell ⟨bv, 3, none⟩ d).setCell ⟨bv, 4, none⟩ e).setCell ⟨bv, 5, none⟩ f).setCell ⟨bv, 6, none⟩ g).setCell ⟨bv, 7, none⟩ x) (some bv) := by
  iterate 8 refine gr_set ?_ (.inl rfl) _
  exact h
theorem str_at' (l : List UInt8) (i : Int) (k : Nat) (hi : i = (k : Int)) (h : k < l.length) (w : World) : (Instr.index 9 (.string ⟨l.toArray⟩) (.int .i64 i)).run Tryz.prog w = .ok (.int .u8 ((l.getD k 0).toNat : Int)) w := by
  subst hi
  exact str_at l k h w
set_option maxRecDepth 100000 in
set_option maxHeartbeats 4000000 in
theorem rblock_any (s : ShaM.St) (l : List UInt8) (w : World) (hl : l.length = 64) :
    Calls Tryz.prog 113 #[.agg ((ShaM.ls s).map U).toArray, .string ⟨l.toArray⟩] w fun e w' => e = .returned (.agg ((ShaM.ls (ShaM.comp s l)).map U).toArray) ∧ Below w.heap.size w w' := by
  obtain ⟨ui, hui, huz0, huz1, huz2⟩ := info_parts infoU32
  have HL := Lib.hid hl
  obtain ⟨cs, hcs⟩ : ∃ cs, cs = ((ShaM.ls s).map U).toArray := ⟨_, rfl⟩
  rw [← hcs]
  have HCS := Lib.hid hcs
  have HIT : Hid ((Tryz.prog.info? 175).map (·.size) = some tbl.size) := by show _ = _; kernel_rfl
  have H1T : Hid (tbl.all (·.oneCell') = true) := by show _ = _; kernel_rfl
  have HST : Hid (64 = tbl.size) := by show _ = _; kernel_rfl
  clear hl hcs
  go_enter Tryz.func113, Tryz.ntmps113
  go_wp2_with fail
  have hW0 := (Whole.made w 146 cs).past (.cells (Array.replicate 8 (.int .u32 0)) 146)
  have hR0 := heap_alloc2_new w (.cells cs 146) (.cells (Array.replicate 8 (.int .u32 0)) 146)
  have hB0 := ((Below.refl w.heap.size w).alloc (Nat.le_refl _) (.cells cs 146)).alloc (by simp) (.cells (Array.replicate 8 (.int .u32 0)) 146)
  refine (rtable_any _).mono ?_
  rintro e w1 ⟨rfl, hB⟩
  have HW1 := Lib.hid (hW0.below hB hW0.lt)
  have HR1 := Lib.hid ((show Whole _ (w.heap.size + 1) 146 _ from hR0).below hB (by simp))
  have HB1 := Lib.hid (hB0.trans (hB.mono (by simp; omega)))
  have hs1 := hB.size
  simp only [World.size_alloc] at hs1
  clear hB hB0 hW0 hR0
  go_wp2_with (refine wpList_store_whole rfl 175 _ _ rfl w1.heap.size tbl rfl rfl 175 _ (Whole.made w1 _ _) HIT.out (by rw [← HST.out]; kernel_rfl) H1T.out ?_; intro w2 hW2 hG2; have HT2 := Lib.hid hW2; have HG2 := Lib.hid hG2; clear hW2 hG2)
  have HW2 := Lib.hid ((HW1.out.past (.cells (Array.replicate 64 (.int .u32 0)) 175)).grown HG2.out (by intro e; injection e with e; omega))
  have HR2 := Lib.hid ((HR1.out.past (.cells (Array.replicate 64 (.int .u32 0)) 175)).grown HG2.out (by intro e; injection e with e; omega))
  have HB2 := Lib.hid (be_grown (HB1.out.alloc HB1.out.size _) HG2.out (by simp; omega) (fun j hj => by injection hj with hj; omega))
  have hs2 := HG2.out.size
  simp only [World.size_alloc] at hs2
  clear HW1 HR1 HB1 HG2
  go_loopw [6, 7] (fun v t wr => ∃ k : Nat, k ≤ 64 ∧ t = .int .i64 (k : Int) ∧ wr.ownsRow w2.heap.size 145 1 v k ((ShaM.wl l k).map U) ∧ Below w2.heap.size w2 wr) (fun _ t _ => 64 - (intOf t).toNat)
  case atStart => exact ⟨0, by omega, rfl, World.ownsRow_nil _ _ _ _, Below.refl _ _⟩
  case round =>
    obtain ⟨k, hk, rfl, hO, hB⟩ := hrel
    have HO := Lib.hid hO
    have HB := Lib.hid hB
    clear hO hB
    by_cases hlt : k < 64
    · by_cases h16 : k < 16
      · have i0 := str_at' l (4 * (k : Int)) (4 * k) (by omega) (by rw [HL.out]; omega)
        have i1 := str_at' l (4 * (k : Int) + 1) (4 * k + 1) (by omega) (by rw [HL.out]; omega)
        have i2 := str_at' l (4 * (k : Int) + 2) (4 * k + 2) (by omega) (by rw [HL.out]; omega)
        have i3 := str_at' l (4 * (k : Int) + 3) (4 * k + 3) (by omega) (by rw [HL.out]; omega)
        have HM : Hid (ShaM.wl l (k + 1) = ShaM.wl l k ++ [ShaM.be (l.getD (4 * k) 0) (l.getD (4 * k + 1) 0) (l.getD (4 * k + 2) 0) (l.getD (4 * k + 3) 0)]) := ShaM.wl_low l k h16
        have HWL := Lib.hid (ShaM.wl_len l k)
        generalize l.getD (4 * k) 0 = x0 at *
        generalize l.getD (4 * k + 1) 0 = x1 at *
        generalize l.getD (4 * k + 2) 0 = x2 at *
        generalize l.getD (4 * k + 3) 0 = x3 at *
        have b0 := x0.toNat_lt
        have b1 := x1.toNat_lt
        have b2 := x2.toNat_lt
        have b3 := x3.toNat_lt
        go_wp2_with fail
        refine wp_region_qtail1 (C := fun w' => ∃ m, w' = wr.drewN m) 29 _ (by kernel_rfl) rfl rfl (by kernel_rfl) (by kernel_rfl) (by kernel_rfl) (fun _ _ _ h => h) ⟨1, rfl⟩ ?_
        simp only [List.take_succ_cons, List.take_zero, List.drop_succ_cons, List.drop_zero, Act.put]
        go_simp
        repeat (go_big_quiet_step (fail))
        refine wpQuiet_nil ?_
        intro nq
        have hwo := be_toNat x0 x1 x2 x3
        have HOq : Hid ((wr.drewN nq).ownsRow w2.heap.size 145 1 u6 k ((ShaM.wl l k).map U)) := HO.out
        have HBq := Lib.hid (be_drewN HB.out nq)
        have hwu : Value.int .u32 ((x0.toNat : Int) * 16777216 + (x1.toNat : Int) * 65536 + (x2.toNat : Int) * 256 + (x3.toNat : Int)) = .int .u32 ((ShaM.be x0 x1 x2 x3).toNat : Int) := by rw [hwo]
        rw [hwu]
        clear hwo hwu i0 i1 i2 i3 HO HB b0 b1 b2 b3
        generalize wr.drewN nq = w3 at *
        generalize ShaM.be x0 x1 x2 x3 = y at *
        have HC : Hid (∀ j u, [Value.int .u32 (y.toNat : Int)][j]? = some u → (w3.alloc (.cells #[.int .u32 (y.toNat : Int)] 145)).cell? ((⟨w3.heap.size, 0, none⟩ : Addr).add j) = some u) := by
          intro j u hu
          have h := (Whole.made w3 145 #[.int .u32 (y.toNat : Int)]).at_ j
          rw [Addr.add_mid, Nat.zero_add, h]
          simpa using hu
        have hs3 : w2.heap.size ≤ w3.heap.size := HBq.out.size
        have hs4 : w2.heap.size ≤ (w3.alloc (.cells #[.int .u32 (y.toNat : Int)] 145)).heap.size := by simp; omega
        go_wp2_with (at_builtin; go_loud (refine wpList_append_own_at _ rfl _ _ 177 rfl w2.heap.size 145 ui (.int .u32 0) 1 4 Tryz.underlying177 hui huz0 huz1 huz2 rfl (by decide) u6 k ((ShaM.wl l k).map U) rfl (HOq.out.alloc _) ⟨w3.heap.size, 0, none⟩ 1 1 [.int .u32 (y.toNat : Int)] rfl rfl HC.out (by simp [Value.oneCell']) (by unfold maxLen; omega) (by omega) hs4 ?_); intro v' w5 hown' hgrow hnil hloc; have HO5 := Lib.hid hown'; have HG5 := Lib.hid hgrow; clear hown' hgrow hnil hloc)
        go_roundw
        case rel =>
          refine ⟨k + 1, by omega, by go_num, ?_, be_grown (HBq.out.alloc hs3 _) HG5.out hs4 (fun j hj => (HOq.out.lt j hj).1)⟩
          have := HO5.out
          rw [HM.out, List.map_append]
          exact this
        case measure => simp [intOf]; omega
      · have HW : Hid (ShaM.wl l (k + 1) = ShaM.wl l k ++ [ShaM.s1 ((ShaM.wl l k).getD (k - 2) 0) + (ShaM.wl l k).getD (k - 7) 0 + ShaM.s0 ((ShaM.wl l k).getD (k - 15) 0) + (ShaM.wl l k).getD (k - 16) 0]) := ShaM.wl_high l k (by omega)
        obtain ⟨g, c, rfl, hgc, hcm, hBg, hgl, hcell⟩ := own_cells HO.out (by omega)
        have hat : ∀ i, i < k → wr.cell? ⟨g, i, none⟩ = some (.int .u32 (((ShaM.wl l k).getD i 0).toNat : Int)) := by
          intro i hi
          have hl := ShaM.wl_len l k
          refine hcell i _ ?_
          rw [List.getElem?_map, List.getElem?_eq_getElem (by omega), Option.map_some, List.getD_eq_getElem?_getD, List.getElem?_eq_getElem (by omega), Option.getD_some]
          rfl
        have c2 := hat (k - 2) (by omega)
        have c15 := hat (k - 15) (by omega)
        have c7 := hat (k - 7) (by omega)
        have c16 := hat (k - 16) (by omega)
        have k0 : (0 : Int) ≤ (k : Int) - 2 := by omega
        have k1 : (k : Int) - 2 < (k : Int) := by omega
        have k2 : (0 : Int) ≤ (k : Int) - 15 := by omega
        have k3 : (k : Int) - 15 < (k : Int) := by omega
        have k4 : (0 : Int) ≤ (k : Int) - 7 := by omega
        have k5 : (k : Int) - 7 < (k : Int) := by omega
        have k6 : (0 : Int) ≤ (k : Int) - 16 := by omega
        have k7 : (k : Int) - 16 < (k : Int) := by omega
        clear hcell hat hgc hcm
        generalize (ShaM.wl l k).getD (k - 2) 0 = x at *
        generalize (ShaM.wl l k).getD (k - 15) 0 = y at *
        generalize (ShaM.wl l k).getD (k - 7) 0 = x7 at *
        generalize (ShaM.wl l k).getD (k - 16) 0 = x16 at *
        go_wp2_with fail
        go_quiet (fail)
        have HOq : Hid ((wr.drewN nq).ownsRow w2.heap.size 145 1 (.slice (some ⟨g, 0, none⟩) k c) k ((ShaM.wl l k).map U)) := HO.out
        have HBq := Lib.hid (be_drewN HB.out nq)
        have d7 : (wr.drewN nq).cell? ⟨g, k - 7, none⟩ = some (.int .u32 (x7.toNat : Int)) := c7
        have d16 : (wr.drewN nq).cell? ⟨g, k - 16, none⟩ = some (.int .u32 (x16.toNat : Int)) := c16
        clear HO HB c2 c15 c7 c16
        generalize wr.drewN nq = wq at *
        go_wp2_with fail
        refine wp_region_qtail1 (C := fun w' => ∃ m, w' = wq.drewN m) 29 _ (by kernel_rfl) rfl rfl (by kernel_rfl) (by kernel_rfl) (by kernel_rfl) (fun _ _ _ h => h) ⟨1, rfl⟩ ?_
        simp only [List.take_succ_cons, List.take_zero, List.drop_succ_cons, List.drop_zero, Act.put]
        go_simp
        repeat (go_big_quiet_step ((go_at_call 145; exact q_draw (rturn_any _ _ (by omega) (by omega) _))))
        refine wpQuiet_nil ?_
        intro nq2
        rw [w_high x y x7 x16]
        have HOr : Hid ((wq.drewN nq2).ownsRow w2.heap.size 145 1 (.slice (some ⟨g, 0, none⟩) k c) k ((ShaM.wl l k).map U)) := HOq.out
        have HBr := Lib.hid (be_drewN HBq.out nq2)
        clear HOq HBq d7 d16
        generalize wq.drewN nq2 = w3 at *
        generalize ShaM.s1 x + x7 + ShaM.s0 y + x16 = z at *
        have HC : Hid (∀ j u, [Value.int .u32 (z.toNat : Int)][j]? = some u → (w3.alloc (.cells #[.int .u32 (z.toNat : Int)] 145)).cell? ((⟨w3.heap.size, 0, none⟩ : Addr).add j) = some u) := by
          intro j u hu
          have h := (Whole.made w3 145 #[.int .u32 (z.toNat : Int)]).at_ j
          rw [Addr.add_mid, Nat.zero_add, h]
          simpa using hu
        have hs3 : w2.heap.size ≤ w3.heap.size := HBr.out.size
        have hs4 : w2.heap.size ≤ (w3.alloc (.cells #[.int .u32 (z.toNat : Int)] 145)).heap.size := by simp; omega
        go_wp2_with (at_builtin; go_loud (refine wpList_append_own_at _ rfl _ _ 177 rfl w2.heap.size 145 ui (.int .u32 0) 1 4 Tryz.underlying177 hui huz0 huz1 huz2 rfl (by decide) (.slice (some ⟨g, 0, none⟩) k c) k ((ShaM.wl l k).map U) rfl (HOr.out.alloc _) ⟨w3.heap.size, 0, none⟩ 1 1 [.int .u32 (z.toNat : Int)] rfl rfl HC.out (by simp [Value.oneCell']) (by unfold maxLen; omega) (by omega) hs4 ?_); intro v' w5 hown' hgrow hnil hloc; have HO5 := Lib.hid hown'; have HG5 := Lib.hid hgrow; clear hown' hgrow hnil hloc)
        go_roundw
        case rel =>
          refine ⟨k + 1, by omega, by go_num, ?_, be_grown (HBr.out.alloc hs3 _) HG5.out hs4 (fun j hj => (HOr.out.lt j hj).1)⟩
          have := HO5.out
          rw [HW.out, List.map_append]
          exact this
        case measure => simp [intOf]; omega
    · obtain rfl : k = 64 := by omega
      rw [ShaM.wl_full] at HO
      obtain ⟨g, c, rfl, hgc, hcm, hBg, hgl, hcell⟩ := own_cells HO.out (by decide)
      have HCW : Hid (∀ i, i < 64 → wr.cell? ⟨g, i, none⟩ = some (.int .u32 (((ShaM.wds l).getD i 0).toNat : Int))) := by
        intro i hi
        have hl := ShaM.wds_len l
        refine hcell i _ ?_
        rw [List.getElem?_map, List.getElem?_eq_getElem (by omega), Option.map_some, List.getD_eq_getElem?_getD, List.getElem?_eq_getElem (by omega), Option.getD_some]
        rfl
      have HWB := Lib.hid (HW2.out.below HB.out HW2.out.lt)
      have HTB := Lib.hid (HT2.out.below HB.out HT2.out.lt)
      have HRB := Lib.hid (HR2.out.below HB.out HR2.out.lt)
      have HBB := Lib.hid (HB2.out.trans (HB.out.mono HB2.out.size))
      have hs5 := HB.out.size
      have hb0 := HW2.out.lt
      have hb1 := HR2.out.lt
      have hbt := HT2.out.lt
      have hcss : cs.size = 8 := by rw [HCS.out, List.size_toArray, List.length_map, ShaM.ls_len]
      have HI8 : Hid ((Tryz.prog.info? 146).map (·.size) = some cs.size) := by show _ = _; rw [hcss]; kernel_rfl
      have HS8 := Lib.hid hcss
      have H18 : Hid (cs.all (·.oneCell') = true) := by show _ = _; rw [HCS.out]; exact words_one _
      clear hcell HO hcss
      go_wp2_with (first
        | (refine wpList_load_row rfl 146 _ rfl w.heap.size rfl 146 cs (0, 0) _ HWB.out Tryz.underlying146 rfl HI8.out ?_)
        | (refine wpList_store_whole rfl 146 _ _ rfl wr.heap.size cs rfl rfl 146 _ (Whole.made wr _ _) HI8.out (by rw [HS8.out]; kernel_rfl) H18.out ?_; intro w6 hW6 hG6; have HV6 := Lib.hid hW6; have HG6 := Lib.hid hG6; clear hW6 hG6))
      have hne : ∀ b, b < wr.heap.size → some b ≠ some wr.heap.size := fun b hb e => by injection e with e; omega
      have HW6 := Lib.hid ((HWB.out.past (.cells (Array.replicate 8 (.int .u32 0)) 146)).grown HG6.out (hne _ (by omega)))
      have HT6 := Lib.hid ((HTB.out.past (.cells (Array.replicate 8 (.int .u32 0)) 146)).grown HG6.out (hne _ (by omega)))
      have HR6 := Lib.hid ((HRB.out.past (.cells (Array.replicate 8 (.int .u32 0)) 146)).grown HG6.out (hne _ (by omega)))
      have HC6 : Hid (∀ i, i < 64 → w6.cell? ⟨g, i, none⟩ = some (.int .u32 (((ShaM.wds l).getD i 0).toNat : Int))) := by
        intro i hi
        refine HG6.out.cell ((World.cell?_alloc_lt _ _ _ ?_).trans (HCW.out i hi)) (hne _ hgl)
        exact hgl
      have HB6 := Lib.hid (be_grown (HBB.out.alloc (by omega) _) HG6.out (by simp; omega) (fun j hj => by injection hj with hj; omega))
      have hs6 := HG6.out.size
      simp only [World.size_alloc] at hs6
      have HN : Hid (w.heap.size < wr.heap.size ∧ w1.heap.size < wr.heap.size ∧ g < wr.heap.size ∧ w.heap.size + 1 < wr.heap.size) := ⟨by omega, by omega, by omega, by omega⟩
      clear HWB HTB HRB HBB HCW HG6 HB hne hs6 hs5 hb0 hb1 hbt hBg hgl HW2 HT2 HR2 HB2 hs2 hs1 hgc hcm
      generalize wr.heap.size = bv at *
      go_loopw [11] (fun t wr => ∃ k : Nat, k ≤ 64 ∧ t = .int .i64 (k : Int) ∧ w6.grownBy wr (some bv) ∧ Whole wr bv 146 ((ShaM.ls (ShaM.rounds (ShaM.wds l) k s)).map U).toArray) (fun t _ => 64 - (intOf t).toNat)
      case atStart => exact ⟨0, by omega, rfl, gr_refl _ _, by have := HV6.out; rw [HCS.out] at this; exact this⟩
      case round =>
        obtain ⟨k, hk, rfl, hG, hV⟩ := hrel
        have HG := Lib.hid hG
        have HV := Lib.hid hV
        clear hG hV
        have hne := HN.out
        by_cases hlt : k < 64
        · have HR : Hid (ShaM.rounds (ShaM.wds l) (k + 1) s = ShaM.rnd (ShaM.rounds (ShaM.wds l) k s) (ShaM.K k) ((ShaM.wds l).getD k 0)) := rfl
          have aw : wr.cell? ⟨g, k, none⟩ = some (.int .u32 (((ShaM.wds l).getD k 0).toNat : Int)) := HG.out.cell (HC6.out k hlt) (fun e => by have e : some g = some bv := e; injection e with e; omega)
          have ak : wr.cell? ⟨w1.heap.size, k, none⟩ = some (.int .u32 ((ShaM.K k).toNat : Int)) := HG.out.cell ((HT6.out.at_ k).trans (tbl_at k hlt)) (fun e => by have e : some w1.heap.size = some bv := e; injection e with e; omega)
          generalize ShaM.rounds (ShaM.wds l) k s = r at *
          generalize (ShaM.wds l).getD k 0 = x at *
          generalize ShaM.K k = kc at *
          have a0 : wr.cell? ⟨bv, 0, none⟩ = some (.int .u32 (r.a.toNat : Int)) := (HV.out.at_ 0).trans rfl
          have a1 : wr.cell? ⟨bv, 1, none⟩ = some (.int .u32 (r.b.toNat : Int)) := (HV.out.at_ 1).trans rfl
          have a2 : wr.cell? ⟨bv, 2, none⟩ = some (.int .u32 (r.c.toNat : Int)) := (HV.out.at_ 2).trans rfl
          have a3 : wr.cell? ⟨bv, 3, none⟩ = some (.int .u32 (r.d.toNat : Int)) := (HV.out.at_ 3).trans rfl
          have a4 : wr.cell? ⟨bv, 4, none⟩ = some (.int .u32 (r.e.toNat : Int)) := (HV.out.at_ 4).trans rfl
          have a5 : wr.cell? ⟨bv, 5, none⟩ = some (.int .u32 (r.f.toNat : Int)) := (HV.out.at_ 5).trans rfl
          have a6 : wr.cell? ⟨bv, 6, none⟩ = some (.int .u32 (r.g.toNat : Int)) := (HV.out.at_ 6).trans rfl
          have a7 : wr.cell? ⟨bv, 7, none⟩ = some (.int .u32 (r.h.toNat : Int)) := (HV.out.at_ 7).trans rfl
          have hk0 : (0 : Int) ≤ (k : Int) := by omega
          have hk64 : (k : Int) < 64 := by omega
          go_wp2_with fail
          go_quiet (fail)
          have b0 : (wr.drewN nq).cell? ⟨bv, 0, none⟩ = some (.int .u32 (r.a.toNat : Int)) := a0
          have b1 : (wr.drewN nq).cell? ⟨bv, 1, none⟩ = some (.int .u32 (r.b.toNat : Int)) := a1
          have b2 : (wr.drewN nq).cell? ⟨bv, 2, none⟩ = some (.int .u32 (r.c.toNat : Int)) := a2
          have b3 : (wr.drewN nq).cell? ⟨bv, 3, none⟩ = some (.int .u32 (r.d.toNat : Int)) := a3
          have b4 : (wr.drewN nq).cell? ⟨bv, 4, none⟩ = some (.int .u32 (r.e.toNat : Int)) := a4
          have b5 : (wr.drewN nq).cell? ⟨bv, 5, none⟩ = some (.int .u32 (r.f.toNat : Int)) := a5
          have b6 : (wr.drewN nq).cell? ⟨bv, 6, none⟩ = some (.int .u32 (r.g.toNat : Int)) := a6
          have b7 : (wr.drewN nq).cell? ⟨bv, 7, none⟩ = some (.int .u32 (r.h.toNat : Int)) := a7
          have bw : (wr.drewN nq).cell? ⟨g, k, none⟩ = some (.int .u32 (x.toNat : Int)) := aw
          have bk : (wr.drewN nq).cell? ⟨w1.heap.size, k, none⟩ = some (.int .u32 (kc.toNat : Int)) := ak
          clear a0 a1 a2 a3 a4 a5 a6 a7 aw ak
          have HGb : Hid (w6.grownBy (wr.drewN nq) (some bv)) := gr_drewN HG.out nq
          have HVb : Hid (Whole (wr.drewN nq) bv 146 ((ShaM.ls r).map U).toArray) := HV.out
          clear HG HV
          generalize wr.drewN nq = wb at *
          go_wp2_with fail
          go_quiet (((go_at_call 145; exact q_draw (rturn_any _ _ (by omega) (by omega) _))))
          have c0 : (wb.drewN nq).cell? ⟨bv, 0, none⟩ = some (.int .u32 (r.a.toNat : Int)) := b0
          have c1 : (wb.drewN nq).cell? ⟨bv, 1, none⟩ = some (.int .u32 (r.b.toNat : Int)) := b1
          have c2 : (wb.drewN nq).cell? ⟨bv, 2, none⟩ = some (.int .u32 (r.c.toNat : Int)) := b2
          have c3 : (wb.drewN nq).cell? ⟨bv, 3, none⟩ = some (.int .u32 (r.d.toNat : Int)) := b3
          have c4 : (wb.drewN nq).cell? ⟨bv, 4, none⟩ = some (.int .u32 (r.e.toNat : Int)) := b4
          have c5 : (wb.drewN nq).cell? ⟨bv, 5, none⟩ = some (.int .u32 (r.f.toNat : Int)) := b5
          have c6 : (wb.drewN nq).cell? ⟨bv, 6, none⟩ = some (.int .u32 (r.g.toNat : Int)) := b6
          have c7 : (wb.drewN nq).cell? ⟨bv, 7, none⟩ = some (.int .u32 (r.h.toNat : Int)) := b7
          have cw : (wb.drewN nq).cell? ⟨g, k, none⟩ = some (.int .u32 (x.toNat : Int)) := bw
          have ck : (wb.drewN nq).cell? ⟨w1.heap.size, k, none⟩ = some (.int .u32 (kc.toNat : Int)) := bk
          clear b0 b1 b2 b3 b4 b5 b6 b7 bw bk
          have HGc : Hid (w6.grownBy (wb.drewN nq) (some bv)) := gr_drewN HGb.out nq
          have HVc : Hid (Whole (wb.drewN nq) bv 146 ((ShaM.ls r).map U).toArray) := HVb.out
          clear HGb HVb
          generalize wb.drewN nq = wc at *
          go_wp2_with fail
          go_quiet (((go_at_call 145; exact q_draw (rturn_any _ _ (by omega) (by omega) _))))
          have d0 : (wc.drewN nq).cell? ⟨bv, 0, none⟩ = some (.int .u32 (r.a.toNat : Int)) := c0
          have d1 : (wc.drewN nq).cell? ⟨bv, 1, none⟩ = some (.int .u32 (r.b.toNat : Int)) := c1
          have d2 : (wc.drewN nq).cell? ⟨bv, 2, none⟩ = some (.int .u32 (r.c.toNat : Int)) := c2
          have d3 : (wc.drewN nq).cell? ⟨bv, 3, none⟩ = some (.int .u32 (r.d.toNat : Int)) := c3
          have d4 : (wc.drewN nq).cell? ⟨bv, 4, none⟩ = some (.int .u32 (r.e.toNat : Int)) := c4
          have d5 : (wc.drewN nq).cell? ⟨bv, 5, none⟩ = some (.int .u32 (r.f.toNat : Int)) := c5
          have d6 : (wc.drewN nq).cell? ⟨bv, 6, none⟩ = some (.int .u32 (r.g.toNat : Int)) := c6
          have d7 : (wc.drewN nq).cell? ⟨bv, 7, none⟩ = some (.int .u32 (r.h.toNat : Int)) := c7
          have dw : (wc.drewN nq).cell? ⟨g, k, none⟩ = some (.int .u32 (x.toNat : Int)) := cw
          have dk : (wc.drewN nq).cell? ⟨w1.heap.size, k, none⟩ = some (.int .u32 (kc.toNat : Int)) := ck
          clear c0 c1 c2 c3 c4 c5 c6 c7 cw ck
          have HGd : Hid (w6.grownBy (wc.drewN nq) (some bv)) := gr_drewN HGc.out nq
          have HVd : Hid (Whole (wc.drewN nq) bv 146 ((ShaM.ls r).map U).toArray) := HVc.out
          clear HGc HVc
          generalize wc.drewN nq = wd at *
          rw [rt_1 r kc x, rt_2 r]
          have HT1 : Hid (ShaM.rnd r kc x = ⟨ShaM.t1 r kc x + ShaM.t2 r, r.a, r.b, r.c, r.d + ShaM.t1 r kc x, r.e, r.f, r.g⟩) := rfl
          generalize ShaM.t1 r kc x = y1 at *
          generalize ShaM.t2 r = y2 at *
          have z0 := HVd.out.thawed 0
          have z1 := HVd.out.thawed 1
          have z2 := HVd.out.thawed 2
          have z3 := HVd.out.thawed 3
          have z4 := HVd.out.thawed 4
          have z5 := HVd.out.thawed 5
          have z6 := HVd.out.thawed 6
          have z7 := HVd.out.thawed 7
          go_wp2_with fail
          go_roundw
          case rel =>
            refine ⟨k + 1, by omega, by go_num, grown_rnd HGd.out _ _ _ _ _ _ _ _, ?_⟩
            rw [HR.out, HT1.out]
            exact whole_rnd wd bv 146 r y1 y2 HVd.out
          case measure => simp [intOf]; omega
        · obtain rfl : k = 64 := by omega
          have HF : Hid (ShaM.comp s l = s.add (ShaM.rounds (ShaM.wds l) 64 s)) := rfl
          generalize ShaM.rounds (ShaM.wds l) 64 s = r at *
          have HWA := Lib.hid (HW6.out.grown HG.out (fun e => by injection e with e; omega))
          have HRA := Lib.hid (HR6.out.grown HG.out (fun e => by injection e with e; omega))
          have HBA := Lib.hid (be_grown HB6.out HG.out HB6.out.size (fun j hj => by injection hj with hj; omega))
          have hbv := HV.out.lt
          clear HG HW6 HR6 HC6 HT6 HV6 hlt hk
          generalize wr = wA at *
          go_wp2_with fail
          go_loopw [16] (fun t wr => ∃ k : Nat, k ≤ 8 ∧ t = .int .i64 (k : Int) ∧ wA.grownBy wr (some w.heap.size) ∧ Whole wr w.heap.size 146 ((mixl s r k).map U).toArray) (fun t _ => 8 - (intOf t).toNat)
          case atStart => exact ⟨0, by omega, rfl, gr_refl _ _, by have := HWA.out; rw [HCS.out] at this; exact this⟩
          case round =>
            obtain ⟨k, hk, rfl, hG, hX⟩ := hrel
            have HG := Lib.hid hG
            have HX := Lib.hid hX
            clear hG hX
            by_cases hlt : k < 8
            · have cb : wr.cell? ⟨w.heap.size, k, none⟩ = some (.int .u32 (((ShaM.ls s).getD k 0).toNat : Int)) := by
                rw [HX.out.at_ k, List.getElem?_toArray, some_u _ _ (by rw [mixl_len _ _ _ hk]; exact hlt), mixl_at _ _ _ hlt]; rfl
              have cv : wr.cell? ⟨bv, k, none⟩ = some (.int .u32 (((ShaM.ls r).getD k 0).toNat : Int)) := by
                rw [(HV.out.grown HG.out (fun e => by injection e with e; omega)).at_ k, List.getElem?_toArray, some_u _ _ (by rw [ShaM.ls_len]; exact hlt)]; rfl
              have zb := HX.out.thawed k
              have HST := Lib.hid (mixl_step s r k hlt)
              have hk0 : (0 : Int) ≤ (k : Int) := by omega
              have hk8 : (k : Int) < 8 := by omega
              have hne : w.heap.size ≠ bv := by omega
              generalize (ShaM.ls s).getD k 0 = x at *
              generalize (ShaM.ls r).getD k 0 = y at *
              go_wp2_with fail
              go_region
              have e8 : Value.int .u32 (((x.toNat : Int) + (y.toNat : Int)) % 4294967296) = U (x + y) := by rw [u_add_mod]; rfl
              go_wp2
              go_roundw
              case rel =>
                refine ⟨k + 1, by omega, by go_num, gr_drew (gr_set HG.out (.inl rfl) _), ?_⟩
                have := ((HX.out.put k (U (x + y))).drew)
                rw [List.setIfInBounds_toArray, ← List.map_set, HST.out] at this
                exact this
              case measure => simp [intOf]; omega
            · obtain rfl : k = 8 := by omega
              rw [mixl_full, ← HF.out] at HX
              have HRZ := Lib.hid (HRA.out.grown HG.out (fun e => by injection e with e; omega))
              have HBZ := Lib.hid (be_grown HBA.out HG.out HBA.out.size (fun j hj => by injection hj with hj; omega))
              obtain ⟨fc, hfc⟩ : ∃ fc, fc = ((ShaM.ls (ShaM.comp s l)).map U).toArray := ⟨_, rfl⟩
              rw [← hfc] at HX
              have HFC := Lib.hid hfc
              have hfs : fc.size = 8 := by rw [hfc, List.size_toArray, List.length_map, ShaM.ls_len]
              have HFI : Hid ((Tryz.prog.info? 146).map (·.size) = some fc.size) := by show _ = _; rw [hfs]; kernel_rfl
              have HFS := Lib.hid hfs
              have HF1 : Hid (fc.all (·.oneCell') = true) := by show _ = _; rw [hfc]; exact words_one _
              clear hfs hfc HF
              go_wp2_with (first
                | (refine wpList_load_row rfl 146 _ rfl w.heap.size rfl 146 fc (0, 0) _ HX.out Tryz.underlying146 rfl HFI.out ?_)
                | (refine wpList_store_whole rfl 146 _ _ rfl (w.heap.size + 1) fc rfl rfl 146 _ HRZ.out HFI.out (by rw [HFS.out]; kernel_rfl) HF1.out ?_; intro w9 hW9 hG9; have HW9 := Lib.hid hW9; have HB9 := Lib.hid (be_grown HBZ.out hG9 HBZ.out.size (fun j hj => by injection hj with hj; omega)); clear hW9 hG9))
              refine bodyPost_ret (v := .agg fc) ?_ rfl ⟨by rw [HFC.out], HB9.out⟩
              exact results_cell_row (p := 4) (ty := 146) rfl _ _ (w.heap.size + 1) 146 fc (0, 0) _ rfl HW9.out Tryz.underlying146 rfl HFI.out
end Go.Proofs.YtfaijkgfhdhhbaaGreatDoor
namespace Go.Proofs.YtfaijkgfhdhhbaaGreatDoor
open Go.RowKit

def slen : Value → Nat
  | .string b => b.size
  | _ => 0
theorem slen_mk (l : List UInt8) : slen (.string ⟨l.toArray⟩) = l.length := by simp [slen, ByteArray.size]
/-- The state that a text begins with. -/
def startv : Array Value := ((ShaM.ls ShaM.H0).map U).toArray
/-- A byte of its own, as a string. -/
theorem one_str (c : UInt8) (w : World) : ∀ W, Below (w.heap.size + 1) (w.alloc (.cells #[.int .u8 (c.toNat : Int)] 5)) W → (convert 78 9 (.slice (some ⟨w.heap.size, 0, none⟩) 1 1)).run Tryz.prog W = .ok (.string ⟨#[c]⟩) W := by
  intro W hW
  have h := (Whole.made w 5 #[.int .u8 (c.toNat : Int)]).below hW (by omega)
  have hby : Bytes W (.slice (some ⟨w.heap.size, 0, none⟩) 1 1) [c] := ⟨_, 1, rfl, Nat.le_refl _, by unfold maxLen; omega, fun _ => ⟨_, _, rfl, fun i hi => by
    obtain rfl : i = 0 := by simpa using hi
    exact h.at_ 0⟩⟩
  exact bytes_str (P := Tryz.prog) 78 9 5 Tryz.underlying78 Tryz.underlying5 Tryz.underlying9 hby
/-- The result as it is being laid. -/
def outk (s : ShaM.St) (k : Nat) : List UInt8 := (ShaM.out s).take k ++ List.replicate (32 - k) 0
theorem outk_len (s : ShaM.St) (k : Nat) (h : k ≤ 32) : (outk s k).length = 32 := by
  simp only [outk, List.length_append, List.length_take, ShaM.out_len, List.length_replicate]; omega
theorem outk_step (s : ShaM.St) (k : Nat) (h : k < 32) : (outk s k).set k ((ShaM.out s).getD k 0) = outk s (k + 1) := by
  have hl := ShaM.out_len s
  have ht : ((ShaM.out s).take k).length = k := by rw [List.length_take, hl]; omega
  obtain ⟨m, hm⟩ : ∃ m, 32 - k = m + 1 := ⟨31 - k, by omega⟩
  unfold outk
  rw [List.set_append_right _ _ (by omega), ht, Nat.sub_self, hm, List.replicate_succ, List.set_cons_zero, show 32 - (k + 1) = m by omega, List.take_succ_eq_append_getElem (by omega), List.getD_eq_getElem?_getD, List.getElem?_eq_getElem (by omega), Option.getD_some]
  simp only [List.append_assoc, List.singleton_append]
theorem outk_full (s : ShaM.St) : outk s 32 = ShaM.out s := by
  unfold outk
  rw [List.take_of_length_le (by rw [ShaM.out_len]; omega)]
  simp
set_option maxRecDepth 100000 in
set_option maxHeartbeats 4000000 in
theorem rsum_any (T : List UInt8) (w : World) (hT : T.length < 1099511627776) :
    Calls Tryz.prog 66 #[.string ⟨T.toArray⟩] w fun e w' => e = .returned (.agg ((ShaM.sha T).map Y).toArray) ∧ Below w.heap.size w w' := by
  have HI8 : Hid ((Tryz.prog.info? 146).map (·.size) = some startv.size) := by show _ = _; kernel_rfl
  have H18 : Hid (startv.all (·.oneCell') = true) := by show _ = _; kernel_rfl
  have HSV : Hid (8 = startv.size) := by show _ = _; kernel_rfl
  have HSD : Hid (startv = ((ShaM.ls ShaM.H0).map U).toArray) := rfl
  have hp := ShaM.padN_bd T.length
  have HP := Lib.hid hp
  clear hp
  go_enter Tryz.func66, Tryz.ntmps66
  go_wp2_with (refine wpList_store_whole rfl 146 _ _ rfl (w.heap.size + 1) startv rfl (by kernel_rfl) 146 _ (heap_alloc2_new w _ _) HI8.out (by rw [← HSV.out]; kernel_rfl) H18.out ?_; intro w1 hW1 hG1; have HV1 := Lib.hid hW1; have HG1 := Lib.hid hG1; clear hW1 hG1)
  have HR1 := Lib.hid (((Whole.made w 23 (Array.replicate 32 (.int .u8 0))).past (.cells (Array.replicate 8 (.int .u32 0)) 146)).grown HG1.out (fun e => by injection e with e; omega))
  have HB1 := Lib.hid (gr_alloc2 HG1.out (by omega))
  clear HG1
  go_loop [4] (fun v => ∃ j, j ≤ ShaM.padN T.length - 9 ∧ v = .string ⟨(ShaM.zp T j).toArray⟩) (fun v => T.length + 100 - slen v)
  case atStart => exact ⟨0, Nat.zero_le _, by rw [show (ByteArray.mk #[128]) = ⟨[128].toArray⟩ from rfl, ba_append]; rfl⟩
  case round =>
    obtain ⟨j, hj, rfl⟩ := hrel
    have hl := ShaM.zp_len T j
    have he := ShaM.zp_end T j hj
    have HZ := Lib.hid (ShaM.zp_succ T j)
    have HJ := Lib.hid hj
    by_cases hend : j = ShaM.padN T.length - 9
    · have h56 : (ShaM.zp T j).length % 64 = 56 := he.2 hend
      have hz := ShaM.lp_zero T
      rw [← hend] at hz
      rw [← hz] at hl h56 ⊢
      have HL0 : Hid ((ShaM.lp T 0).length = T.length + 1 + j) := hl
      have hb : (((ShaM.lp T 0).length : Int) % 64 != 56) = false := by simp; omega
      have hmx : (ShaM.lp T 0).length < 9223372036854775807 := by have := HP.out; omega
      clear he hz hend HZ HJ hj
      go_wp2_with fail
      go_loopw [4, 5] (fun v i wr => ∃ k m : Nat, k + m = 8 ∧ i = .int .i64 ((m : Int) - 1) ∧ v = .string ⟨(ShaM.lp T k).toArray⟩ ∧ Below w1.heap.size w1 wr) (fun _ i _ => (intOf i + 1).toNat)
      case atStart => exact ⟨0, 8, rfl, rfl, rfl, Below.refl _ _⟩
      case round =>
        obtain ⟨k, m, hkm, rfl, rfl, hB⟩ := hrel
        have HB := Lib.hid hB
        clear hB
        cases m with
        | succ q =>
          have HS := Lib.hid (ShaM.lp_succ T k (by omega))
          rw [show ((q + 1 : Nat) : Int) - 1 = (q : Int) by omega]
          have hq7 : q ≤ 7 := by omega
          have hkq : 7 - k = q := by omega
          rw [hkq] at HS
          have hc1 : ((T.length : Int) * 8 / 2 ^ (8 * q)) % 256 = ((UInt8.ofNat (T.length * 8 / 2 ^ (8 * q))).toNat : Int) := by
            rw [UInt8.toNat_ofNat']
            have : ((T.length * 8 / 2 ^ (8 * q) : Nat) : Int) = (T.length : Int) * 8 / 2 ^ (8 * q) := by simp
            omega
          have HC := Lib.hid hc1
          have hzl : (ShaM.lp T k).length < 9223372036854775000 := by
            unfold ShaM.lp
            rw [List.length_append, ShaM.zp_len, List.length_take]
            have := HP.out
            omega
          have hstr := one_str (UInt8.ofNat (T.length * 8 / 2 ^ (8 * q))) wr
          clear hkq hc1
          generalize ShaM.lp T k = z at *
          generalize UInt8.ofNat (T.length * 8 / 2 ^ (8 * q)) = c at *
          go_wp2_with fail
          rw [HC.out, hstr _ (Below.refl _ _)]
          go_simp
          go_wp2_with fail
          rw [show (ByteArray.mk #[c]) = ⟨[c].toArray⟩ from rfl, ba_append z [c], HS.out]
          go_roundw
          case rel => exact ⟨k + 1, q, by omega, rfl, rfl, HB.out.alloc HB.out.size _⟩
          case measure => simp [intOf]
        | zero =>
          obtain rfl : k = 8 := by omega
          rw [show ((0 : Nat) : Int) - 1 = -1 from rfl]
          rw [ShaM.lp_full]
          have HPB := Lib.hid (ShaM.pad_blocks T)
          have HSHA : Hid (ShaM.sha T = ShaM.out (ShaM.runN ((T ++ ShaM.pad T.length).length / 64) ShaM.H0 (T ++ ShaM.pad T.length))) := rfl
          have hLl : (T ++ ShaM.pad T.length).length < 9223372036854775000 := by rw [List.length_append, ShaM.pad_len]; have := HP.out; omega
          generalize T ++ ShaM.pad T.length = L at *
          have hb0 := HR1.out.lt
          have hb1 := HV1.out.lt
          have HR2 := Lib.hid (HR1.out.below HB.out hb0)
          have HV2 := Lib.hid (HV1.out.below HB.out hb1)
          have HB2 := Lib.hid (HB1.out.trans (HB.out.mono HB1.out.size))
          have hs2 := HB.out.size
          clear HR1 HV1 HB HB1 hmx hb hkm HL0
          generalize wr = w2 at *
          go_wp2_with fail
          go_loopw [6] (fun i wr => ∃ j : Nat, 64 * j ≤ L.length ∧ i = .int .i64 ((64 * j : Nat) : Int) ∧ w2.grownBy wr (some (w.heap.size + 1)) ∧ Whole wr (w.heap.size + 1) 146 ((ShaM.ls (ShaM.runN j ShaM.H0 L)).map U).toArray) (fun i _ => L.length - (intOf i).toNat)
          case atStart => exact ⟨0, by omega, rfl, gr_refl _ _, by have := HV2.out; rw [HSD.out] at this; exact this⟩
          case round =>
            obtain ⟨j, hj, rfl, hG, hV⟩ := hrel
            have HG := Lib.hid hG
            have HV := Lib.hid hV
            clear hG hV
            by_cases hlt : 64 * j < L.length
            · have HST := Lib.hid (ShaM.runN_snoc j ShaM.H0 L)
              have h64 : 64 * j + 64 ≤ L.length := by have := HPB.out; omega
              have hsl := fun W => str_cut L (64 * j) (64 * j + 64) (by omega) h64 W
              have hbl : ((L.take (64 * j + 64)).drop (64 * j)).length = 64 := by rw [List.length_drop, List.length_take]; omega
              have HBK := Lib.hid fun W => rblock_any (ShaM.runN j ShaM.H0 L) ((L.take (64 * j + 64)).drop (64 * j)) W hbl
              have HJN : Hid (((64 * (j + 1) : Nat) : Int) = ((64 * j : Nat) : Int) + 64) := by show _ = _; omega
              have HJL : Hid (64 * (j + 1) ≤ L.length) := by show _ ≤ _; omega
              obtain ⟨fc, hfc⟩ : ∃ fc, fc = ((ShaM.ls (ShaM.runN j ShaM.H0 L)).map U).toArray := ⟨_, rfl⟩
              have HFI : Hid ((Tryz.prog.info? 146).map (·.size) = some fc.size) := by show _ = _; rw [hfc, List.size_toArray, List.length_map, ShaM.ls_len]; kernel_rfl
              have HFS : Hid (fc.size = 8) := by show _ = _; rw [hfc, List.size_toArray, List.length_map, ShaM.ls_len]
              rw [← hfc] at HV HBK
              rw [show ((64 * j + 64 : Nat) : Int) = ((64 * j : Nat) : Int) + 64 by omega] at hsl
              rw [← HST.out] at HBK
              obtain ⟨gc, hgc⟩ : ∃ gc, gc = ((ShaM.ls (ShaM.runN (j + 1) ShaM.H0 L)).map U).toArray := ⟨_, rfl⟩
              have HGI : Hid ((Tryz.prog.info? 146).map (·.size) = some gc.size) := by show _ = _; rw [hgc, List.size_toArray, List.length_map, ShaM.ls_len]; kernel_rfl
              have HGS : Hid (gc.size = 8) := by show _ = _; rw [hgc, List.size_toArray, List.length_map, ShaM.ls_len]
              have HG1 : Hid (gc.all (·.oneCell') = true) := by show _ = _; rw [hgc]; exact words_one _
              have HGC := Lib.hid hgc
              rw [← hgc] at HBK
              have HLV : Hid (∀ W, (∃ n, W = wr.drewN n) → ∀ i, W.cell? ⟨w.heap.size + 1, i, none⟩ = fc[i]?) := by rintro W ⟨n, rfl⟩ i; exact HV.out.at_ i
              have hn0 : (64 * j : Nat) < 9223372036854775000 := by omega
              have hltI : (((64 * j : Nat) : Int) < (L.length : Int)) := by omega
              clear hfc hgc HST hbl hj h64
              generalize (L.take (64 * j + 64)).drop (64 * j) = blk at *
              generalize 64 * j = n at *
              go_wp2_with fail
              refine wp_region_qtail (C := fun w' => ∃ m, w' = wr.drewN m) 6 (by kernel_rfl) (by kernel_rfl) ⟨1, rfl⟩ ?_
              simp only [List.take_succ_cons, List.take_zero, List.drop_succ_cons, List.drop_zero]
              repeat (first
                | (refine q_load _ _ rfl (by rfl) (w.heap.size + 1) fc rfl _ Tryz.underlying146 rfl HFI.out HLV.out ?_; simp only [Act.put]; go_simp)
                | go_big_quiet_step (fail))
              refine wpQuiet_nil ?_
              intro nq
              have HGq : Hid (w2.grownBy (wr.drewN nq) (some (w.heap.size + 1))) := gr_drewN HG.out nq
              have HVq : Hid (Whole (wr.drewN nq) (w.heap.size + 1) 146 fc) := HV.out
              clear HG HV HLV hsl
              generalize wr.drewN nq = w3 at *
              go_wp2_with fail
              (with_reducible refine (HBK.out _).mono ?_)
              rintro e w4 ⟨rfl, hB⟩
              have HG4 := Lib.hid (gr_below HGq.out hB)
              have HV4 := Lib.hid (HVq.out.below hB HVq.out.lt)
              clear hB
              go_wp2_with (refine wpList_store_whole rfl 146 _ _ rfl (w.heap.size + 1) gc rfl rfl 146 fc HV4.out HGI.out (by rw [HFS.out, HGS.out]) HG1.out ?_; intro w5 hW5 hG5; have HV5 := Lib.hid hW5; have HG5 := Lib.hid (gr_grown HG4.out hG5 (.inl rfl)); clear hW5 hG5)
              go_roundw
              case rel => exact ⟨j + 1, HJL.out, by rw [HJN.out], HG5.out, by rw [← HGC.out]; exact HV5.out⟩
              case measure => simp [intOf]; omega
            · have hjj : j = L.length / 64 := by have := HPB.out; omega
              rw [hjj] at HV
              have HFIN : Hid (ShaM.sha T = ShaM.out (ShaM.runN (L.length / 64) ShaM.H0 L)) := HSHA.out
              generalize ShaM.runN (L.length / 64) ShaM.H0 L = s at *
              have HR3 := Lib.hid (HR2.out.grown HG.out (fun e => by injection e with e; omega))
              have HB3 := Lib.hid (be_grown HB2.out HG.out HB2.out.size (fun j hj => by injection hj with hj; omega))
              have hs3 := HV.out.lt
              clear hjj HSHA HG HR2 HV2 HB2
              generalize wr = w3 at *
              go_wp2_with fail
              obtain ⟨zs, hzs⟩ : ∃ zs : Array Value, zs = #[.int .u8 0, .int .u8 0, .int .u8 0, .int .u8 0, .int .u8 0, .int .u8 0, .int .u8 0, .int .u8 0, .int .u8 0, .int .u8 0, .int .u8 0, .int .u8 0, .int .u8 0, .int .u8 0, .int .u8 0, .int .u8 0, .int .u8 0, .int .u8 0, .int .u8 0, .int .u8 0, .int .u8 0, .int .u8 0, .int .u8 0, .int .u8 0, .int .u8 0, .int .u8 0, .int .u8 0, .int .u8 0, .int .u8 0, .int .u8 0, .int .u8 0, .int .u8 0] := ⟨_, rfl⟩
              rw [← hzs]
              have HZS := Lib.hid hzs
              have HO4 := Lib.hid (Whole.made w3 23 zs)
              have HV4 := Lib.hid (HV.out.past (.cells zs 23))
              have HR4 := Lib.hid (HR3.out.past (.cells zs 23))
              have HB4 := Lib.hid (HB3.out.alloc HB3.out.size (.cells zs 23))
              have hs4 : (w3.alloc (.cells zs 23)).heap.size = w3.heap.size + 1 := by simp
              have HN4 := Lib.hid hs4
              have hb03 : w.heap.size < w3.heap.size := by omega
              have hO0 : zs = ((outk s 0).map Y).toArray := by rw [hzs]; rfl
              have HO4' : Hid (Whole (w3.alloc (.cells zs 23)) w3.heap.size 23 ((outk s 0).map Y).toArray) := by show Whole _ _ _ _; rw [← hO0]; exact HO4.out
              clear hs4 hzs hO0
              generalize w3.alloc (.cells zs 23) = w4 at *
              go_loopw [8] (fun i wr => ∃ k : Nat, k ≤ 32 ∧ i = .int .i64 (k : Int) ∧ w4.grownBy wr (some w3.heap.size) ∧ Whole wr w3.heap.size 23 ((outk s k).map Y).toArray) (fun i _ => 32 - (intOf i).toNat)
              case atStart => exact ⟨0, by omega, rfl, gr_refl _ _, HO4'.out⟩
              case round =>
                obtain ⟨k, hk, rfl, hG, hO⟩ := hrel
                have HG := Lib.hid hG
                have HO := Lib.hid hO
                clear hG hO
                by_cases hlt : k < 32
                · have HST := Lib.hid (outk_step s k hlt)
                  have HOA := Lib.hid (ShaM.out_at s k hlt)
                  have hcell : wr.cell? ⟨w.heap.size + 1, k / 4, none⟩ = some (.int .u32 (((ShaM.ls s).getD (k / 4) 0).toNat : Int)) := by
                    rw [(HV4.out.grown HG.out (fun e => by injection e with e; omega)).at_ (k / 4), List.getElem?_toArray, some_u _ _ (by rw [ShaM.ls_len]; omega)]; rfl
                  obtain ⟨x0, hold⟩ : ∃ x : Int, wr.cell? ⟨w3.heap.size, k, none⟩ = some (.int .u8 x) := by
                    rw [HO.out.at_ k, List.getElem?_toArray, ← some_y _ _ (by rw [outk_len _ _ hk]; exact hlt)]
                    exact ⟨_, rfl⟩
                  have z0 := HO.out.thawed k
                  have hr : k % 4 = 0 ∨ k % 4 = 1 ∨ k % 4 = 2 ∨ k % 4 = 3 := by omega
                  generalize (ShaM.ls s).getD (k / 4) 0 = x at *
                  generalize (ShaM.out s).getD k 0 = y at *
                  have hi0 : (0 : Int) ≤ (k : Int) / 4 := by omega
                  have hi8 : (k : Int) / 4 < 8 := by omega
                  have hx := x.isLt
                  rcases hr with hr | hr | hr | hr
                  · have hr' : (k : Int) % 4 = 0 := by omega
                    rw [hr] at HOA
                    have HV : Hid (Value.int .u8 ((x.toNat : Int) / 16777216) = Y y) := by
                      show _ = _
                      rw [HOA.out]
                      exact Y_int (by simp <;> omega)
                    clear hr
                    go_wp2_with fail
                    go_roundw
                    case rel =>
                      refine ⟨k + 1, by omega, by go_num, gr_set HG.out (.inl rfl) _, ?_⟩
                      have := HO.out.put k (Y y)
                      rw [List.setIfInBounds_toArray, ← List.map_set, HST.out] at this
                      rw [HV.out]
                      exact this
                    case measure => simp [intOf]; omega
                  · have hr' : (k : Int) % 4 = 1 := by omega
                    rw [hr] at HOA
                    have HV : Hid (Value.int .u8 ((x.toNat : Int) / 65536 % 256) = Y y) := by
                      show _ = _
                      rw [HOA.out]
                      exact Y_int (by simp <;> omega)
                    clear hr
                    go_wp2_with fail
                    go_roundw
                    case rel =>
                      refine ⟨k + 1, by omega, by go_num, gr_set HG.out (.inl rfl) _, ?_⟩
                      have := HO.out.put k (Y y)
                      rw [List.setIfInBounds_toArray, ← List.map_set, HST.out] at this
                      rw [HV.out]
                      exact this
                    case measure => simp [intOf]; omega
                  · have hr' : (k : Int) % 4 = 2 := by omega
                    rw [hr] at HOA
                    have HV : Hid (Value.int .u8 ((x.toNat : Int) / 256 % 256) = Y y) := by
                      show _ = _
                      rw [HOA.out]
                      exact Y_int (by simp <;> omega)
                    clear hr
                    go_wp2_with fail
                    go_roundw
                    case rel =>
                      refine ⟨k + 1, by omega, by go_num, gr_set HG.out (.inl rfl) _, ?_⟩
                      have := HO.out.put k (Y y)
                      rw [List.setIfInBounds_toArray, ← List.map_set, HST.out] at this
                      rw [HV.out]
                      exact this
                    case measure => simp [intOf]; omega
                  · have hr' : (k : Int) % 4 = 3 := by omega
                    rw [hr] at HOA
                    have HV : Hid (Value.int .u8 ((x.toNat : Int) % 256) = Y y) := by
                      show _ = _
                      rw [HOA.out]
                      exact Y_int (by simp <;> omega)
                    clear hr
                    go_wp2_with fail
                    go_roundw
                    case rel =>
                      refine ⟨k + 1, by omega, by go_num, gr_set HG.out (.inl rfl) _, ?_⟩
                      have := HO.out.put k (Y y)
                      rw [List.setIfInBounds_toArray, ← List.map_set, HST.out] at this
                      rw [HV.out]
                      exact this
                    case measure => simp [intOf]; omega
                · obtain rfl : k = 32 := by omega
                  rw [outk_full, ← HFIN.out] at HO
                  have HRZ := Lib.hid (HR4.out.grown HG.out (fun e => by injection e with e; omega))
                  have HBZ := Lib.hid (be_grown HB4.out HG.out HB4.out.size (fun j hj => by injection hj with hj; omega))
                  obtain ⟨fc, hfc⟩ : ∃ fc, fc = ((ShaM.sha T).map Y).toArray := ⟨_, rfl⟩
                  rw [← hfc] at HO
                  have HFC := Lib.hid hfc
                  have hfs : fc.size = 32 := by rw [hfc, List.size_toArray, List.length_map, ShaM.sha_len]
                  have HFI : Hid ((Tryz.prog.info? 23).map (·.size) = some fc.size) := by show _ = _; rw [hfs]; kernel_rfl
                  have HFS := Lib.hid hfs
                  have HF1 : Hid (fc.all (·.oneCell') = true) := by show _ = _; rw [hfc]; exact ys_all _
                  clear hfs hfc HFIN
                  go_wp2_with (first
                    | (refine wpList_load_row rfl 23 _ rfl w3.heap.size rfl 23 fc (0, 0) _ HO.out Tryz.underlying23 rfl HFI.out ?_)
                    | (refine wpList_store_whole rfl 23 _ _ rfl w.heap.size fc rfl rfl 23 _ HRZ.out HFI.out (by rw [HFS.out]; kernel_rfl) HF1.out ?_; intro w9 hW9 hG9; have HW9 := Lib.hid hW9; have HB9 := Lib.hid (be_grown HBZ.out hG9 HBZ.out.size (fun j hj => by injection hj with hj; omega)); clear hW9 hG9))
                  refine bodyPost_ret (v := .agg fc) ?_ rfl ⟨by rw [HFC.out], HB9.out⟩
                  exact results_cell_row (p := 2) (ty := 23) rfl _ _ w.heap.size 23 fc (0, 0) _ rfl HW9.out Tryz.underlying23 rfl HFI.out
    · have h56 : (ShaM.zp T j).length % 64 ≠ 56 := fun h => hend (he.1 h)
      have hb : (((ShaM.zp T j).length : Int) % 64 != 56) = true := by simp; omega
      have hmx : (ShaM.zp T j).length < 9223372036854775807 := by have := HP.out; omega
      have HS1 := Lib.hid (slen_mk (ShaM.zp T j))
      have HS2 := Lib.hid (slen_mk (ShaM.zp T (j + 1)))
      have HL1 := Lib.hid (ShaM.zp_len T (j + 1))
      have HL0 := Lib.hid hl
      clear he hl h56 hj
      generalize ShaM.zp T j = z at *
      go_wp2_with fail
      rw [show (ByteArray.mk #[0]) = ⟨[0].toArray⟩ from rfl, ba_append z [0], HZ.out]
      go_round
      case rel => exact ⟨j + 1, by have := HJ.out; omega, rfl⟩
      case measure =>
        rw [HS1.out, HS2.out, HL1.out, HL0.out]
        have := HJ.out
        have := HP.out
        omega
end Go.Proofs.YtfaijkgfhdhhbaaGreatDoor

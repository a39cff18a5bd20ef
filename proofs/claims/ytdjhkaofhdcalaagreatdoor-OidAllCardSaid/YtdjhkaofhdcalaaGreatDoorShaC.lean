/-
  sha.mix, walked: one block more.
-/
import Derived.Test.YtdjhkaofhdcalaaGreatDoorShaB
namespace Go.Proofs.YtdjhkaofhdcalaaGreatDoor
open Go.RowKit

/-- Eight cells of an array of cells, laid with a state. -/
def setSt (cs : Array Value) (s : ShaM.St) : Array Value :=
  (((((((cs.setIfInBounds 0 (U s.a)).setIfInBounds 1 (U s.b)).setIfInBounds 2 (U s.c)).setIfInBounds 3 (U s.d)).setIfInBounds 4 (U s.e)).setIfInBounds 5 (U s.f)).setIfInBounds 6 (U s.g)).setIfInBounds 7 (U s.h)
theorem setSt_size (cs : Array Value) (s : ShaM.St) : (setSt cs s).size = cs.size := by simp [setSt]
theorem setSt_add (cs : Array Value) (s r : ShaM.St) : setSt cs (s.add r) = (((((((cs.setIfInBounds 0 (.int .u32 ((s.a + r.a).toNat : Int))).setIfInBounds 1 (.int .u32 ((s.b + r.b).toNat : Int))).setIfInBounds 2 (.int .u32 ((s.c + r.c).toNat : Int))).setIfInBounds 3 (.int .u32 ((s.d + r.d).toNat : Int))).setIfInBounds 4 (.int .u32 ((s.e + r.e).toNat : Int))).setIfInBounds 5 (.int .u32 ((s.f + r.f).toNat : Int))).setIfInBounds 6 (.int .u32 ((s.g + r.g).toNat : Int))).setIfInBounds 7 (.int .u32 ((s.h + r.h).toNat : Int)) := rfl
/-- The first eight cells read as a state. -/
structure IsSt (cs : Array Value) (s : ShaM.St) : Prop where
  a : cs[0]? = some (U s.a)
  b : cs[1]? = some (U s.b)
  c : cs[2]? = some (U s.c)
  d : cs[3]? = some (U s.d)
  e : cs[4]? = some (U s.e)
  f : cs[5]? = some (U s.f)
  g : cs[6]? = some (U s.g)
  h : cs[7]? = some (U s.h)

/-- What the tables hold. -/
structure Tabs (w : World) : Prop where
  start : ∀ i, i < 8 → w.cell? ⟨1, i, none⟩ = some (U (ShaM.H0.at i))
  roots : ∀ i, i < 64 → w.cell? ⟨2, i, none⟩ = some (U (ShaM.K i))
theorem Tabs.lt1 {w : World} (h : Tabs w) : 1 < w.heap.size := World.block_lt_of_cell? w _ (h.start 0 (by decide))
theorem Tabs.lt2 {w : World} (h : Tabs w) : 2 < w.heap.size := World.block_lt_of_cell? w _ (h.roots 0 (by decide))
theorem Tabs.drew {w : World} (h : Tabs w) : Tabs w.drew := ⟨h.start, h.roots⟩
theorem Tabs.drewN {w : World} (h : Tabs w) (n : Nat) : Tabs (w.drewN n) := ⟨h.start, h.roots⟩
theorem Tabs.below {w w' : World} {B : Nat} (h : Tabs w) (hb : Below B w w') (h1 : 1 < B) (h2 : 2 < B) : Tabs w' :=
  ⟨fun i hi => (hb.cell (by exact h1)).trans (h.start i hi), fun i hi => (hb.cell (by exact h2)).trans (h.roots i hi)⟩
theorem Tabs.grown {w w' : World} {row : Option Nat} (h : Tabs w) (hb : w.grownBy w' row) (h1 : some 1 ≠ row) (h2 : some 2 ≠ row) : Tabs w' :=
  ⟨fun i hi => hb.cell (h.start i hi) (by exact h1), fun i hi => hb.cell (h.roots i hi) (by exact h2)⟩

theorem rnd_t1 (r : ShaM.St) (k x : ShaM.Wd) : ((r.h.toNat : Int) + ((ShaM.b1 r.e).toNat : Int) + bits .xor .u32 (bits .and .u32 (r.e.toNat : Int) (r.f.toNat : Int)) (bits .and .u32 (bits .xor .u32 IntKind.u32.max (r.e.toNat : Int)) (r.g.toNat : Int)) + (k.toNat : Int) + (x.toNat : Int)) % 4294967296 = ((ShaM.t1 r k x).toNat : Int) := by
  rw [u_not, u_and, u_and, u_xor, u_sum5]; rfl
theorem rnd_t2 (r : ShaM.St) : (((ShaM.b0 r.a).toNat : Int) + bits .xor .u32 (bits .xor .u32 (bits .and .u32 (r.a.toNat : Int) (r.b.toNat : Int)) (bits .and .u32 (r.a.toNat : Int) (r.c.toNat : Int))) (bits .and .u32 (r.b.toNat : Int) (r.c.toNat : Int))) % 4294967296 = ((ShaM.t2 r).toNat : Int) := by
  rw [u_and, u_and, u_and, u_xor, u_xor, u_add_mod]; rfl
set_option maxRecDepth 100000 in
set_option maxHeartbeats 2000000 in
theorem mix_any (b T g off n cap : Nat) (cs : Array Value) (s : ShaM.St) (l : List UInt8) (w : World) (hn : 64 ≤ n) (hc : n ≤ cap) (hcap : cap ≤ maxLen) (hT : Tabs w) (hW : Whole w b T cs) (hS : IsSt cs s)
    (hcell : ∀ i, i < 64 → w.cell? ⟨g, off + i, none⟩ = some (Y (l.getD i 0))) :
    Calls Tryz.prog 70 #[.pointer (some ⟨b, 0, none⟩), .slice (some ⟨g, off, none⟩) n cap] w fun e w' => e = .returned (.tuple #[]) ∧ w.grownBy w' (some b) ∧ Whole w' b T (setSt cs (ShaM.comp s l)) := by
  have HC := Lib.hid hcell
  have HT := Lib.hid hT
  have HW := Lib.hid hW
  have HS := Lib.hid hS
  have hbw := hW.lt
  clear hcell hT hW hS
  go_enter Tryz.func70, Tryz.ntmps70
  go_wp2_with fail
  refine (schedule_any g off n cap l _ hn hc hcap HC.out).mono ?_
  rintro e w1 ⟨rfl, hB1⟩
  have HB1 := Lib.hid hB1
  clear hB1
  have hsz : ((ShaM.wds l).map U).toArray.size = 64 := by simp [ShaM.wds_len]
  have hi : (Tryz.prog.info? 127).map (·.size) = some ((ShaM.wds l).map U).toArray.size := by rw [hsz]; kernel_rfl
  have h1 := words_one (ShaM.wds l)
  have hat : ∀ k, k < 64 → ((ShaM.wds l).map U).toArray[k]? = some (U ((ShaM.wds l).getD k 0)) := fun k hk => by
    have := warr_at (ShaM.wds l) k (by rw [ShaM.wds_len]; exact hk)
    rwa [warr_full _ (ShaM.wds_len l)] at this
  have HI := Lib.hid hi
  have HZ := Lib.hid hsz
  have H1 := Lib.hid h1
  have HA := Lib.hid hat
  clear hsz hi h1 hat
  generalize ((ShaM.wds l).map U).toArray = ws at HI HZ H1 HA ⊢
  go_wp2_with (refine wpList_store_row rfl 127 _ _ rfl w1.heap.size ws rfl rfl 127 _ (Whole.made w1 _ _) HI.out (by rw [HZ.out]; rfl) H1.out ?_)
  have hW2 : Whole ((w1.alloc (.cells (Array.replicate 64 (.int .u32 0)) 127)).setRow w1.heap.size ws) w1.heap.size 127 ws := setRow_heap _ _ _ ws _ _ (Whole.made w1 _ _)
  have hB2 : Below w.heap.size w ((w1.alloc (.cells (Array.replicate 64 (.int .u32 0)) 127)).setRow w1.heap.size ws) := be_setRow (HB1.out.alloc HB1.out.size _) HB1.out.size _
  have hz2 : w1.heap.size < ((w1.alloc (.cells (Array.replicate 64 (.int .u32 0)) 127)).setRow w1.heap.size ws).heap.size := by simp
  generalize hw2 : (w1.alloc _).setRow w1.heap.size ws = w2
  rw [show (w1.alloc (.cells (Array.replicate 64 (.int .u32 0)) 127)).setRow w1.heap.size ws = w2 from hw2] at hW2 hB2 hz2
  clear hw2
  have hW3 : Whole w2 b T cs := HW.out.below hB2 hbw
  have c0 : w2.cell? ⟨b, 0, none⟩ = some (.int .u32 (s.a.toNat : Int)) := (hW3.at_ 0).trans HS.out.a
  have c1 : w2.cell? ⟨b, 1, none⟩ = some (.int .u32 (s.b.toNat : Int)) := (hW3.at_ 1).trans HS.out.b
  have c2 : w2.cell? ⟨b, 2, none⟩ = some (.int .u32 (s.c.toNat : Int)) := (hW3.at_ 2).trans HS.out.c
  have c3 : w2.cell? ⟨b, 3, none⟩ = some (.int .u32 (s.d.toNat : Int)) := (hW3.at_ 3).trans HS.out.d
  have c4 : w2.cell? ⟨b, 4, none⟩ = some (.int .u32 (s.e.toNat : Int)) := (hW3.at_ 4).trans HS.out.e
  have c5 : w2.cell? ⟨b, 5, none⟩ = some (.int .u32 (s.f.toNat : Int)) := (hW3.at_ 5).trans HS.out.f
  have c6 : w2.cell? ⟨b, 6, none⟩ = some (.int .u32 (s.g.toNat : Int)) := (hW3.at_ 6).trans HS.out.g
  have c7 : w2.cell? ⟨b, 7, none⟩ = some (.int .u32 (s.h.toNat : Int)) := (hW3.at_ 7).trans HS.out.h
  have HK : Hid (∀ q, Whole (w2.drewN q) w1.heap.size 127 ws ∧ Below w.heap.size w (w2.drewN q)) := fun q => ⟨hW2, be_drewN hB2 q⟩
  have HZ2 := Lib.hid hz2
  clear hW2 hB2 hz2 hW3
  simp only [Act.put]
  go_quiet (fail)
  revert nq
  intro q1
  go_wp2_with fail
  go_quiet (fail)
  clear c0 c1 c2 c3 c4 c5 c6 c7
  simp only [World.drewN_drewN]
  obtain ⟨hW3, hB3⟩ := HK.out (q1 + nq)
  have hz3 : w1.heap.size < (w2.drewN (q1 + nq)).heap.size := HZ2.out
  generalize w2.drewN (q1 + nq) = w3 at hW3 hB3 hz3 ⊢
  have HW3 := Lib.hid hW3
  have HB3 := Lib.hid hB3
  clear hW3 hB3 HK
  go_wp2_with (refine wpList_load_row rfl 127 _ rfl w1.heap.size rfl 127 ws (0, 0) _ HW3.out Tryz.underlying127 rfl HI.out ?_)
  have HT3 := Lib.hid (HT.out.below HB3.out HT.out.lt1 HT.out.lt2)
  go_loopw [5, 6, 7, 8, 9, 10, 11, 12, 52] (fun xa xb xc xd xe xf xg xh i wr => ∃ k : Nat, k ≤ 64 ∧ i = .int .i64 k ∧ xa = .int .u32 ((ShaM.rounds (ShaM.wds l) k s).a.toNat : Int) ∧ xb = .int .u32 ((ShaM.rounds (ShaM.wds l) k s).b.toNat : Int) ∧
      xc = .int .u32 ((ShaM.rounds (ShaM.wds l) k s).c.toNat : Int) ∧ xd = .int .u32 ((ShaM.rounds (ShaM.wds l) k s).d.toNat : Int) ∧ xe = .int .u32 ((ShaM.rounds (ShaM.wds l) k s).e.toNat : Int) ∧ xf = .int .u32 ((ShaM.rounds (ShaM.wds l) k s).f.toNat : Int) ∧
      xg = .int .u32 ((ShaM.rounds (ShaM.wds l) k s).g.toNat : Int) ∧ xh = .int .u32 ((ShaM.rounds (ShaM.wds l) k s).h.toNat : Int) ∧ Below w3.heap.size w3 wr) (fun _ _ _ _ _ _ _ _ i _ => 64 - (intOf i).toNat)
  case atStart => exact ⟨0, by omega, rfl, rfl, rfl, rfl, rfl, rfl, rfl, rfl, rfl, Below.refl _ _⟩
  case round =>
    obtain ⟨k, hk, rfl, rfl, rfl, rfl, rfl, rfl, rfl, rfl, rfl, hB⟩ := hrel
    have HB := Lib.hid hB
    clear hB
    by_cases hlt : k < 64
    · have HR : Hid (ShaM.rounds (ShaM.wds l) (k + 1) s = ShaM.rnd (ShaM.rounds (ShaM.wds l) k s) (ShaM.K k) ((ShaM.wds l).getD k 0)) := rfl
      have hidx := run_index_one 127 78 64 ws k _ _ Tryz.underlying127 Tryz.underlying78 rfl (by kernel_rfl) hlt (HA.out k hlt)
      have hroot : wr.cell? ⟨2, k, none⟩ = some (.int .u32 ((ShaM.K k).toNat : Int)) := (HB.out.cell (by exact HT3.out.lt2)).trans (HT3.out.roots k hlt)
      generalize ShaM.rounds (ShaM.wds l) k s = r at HR ⊢
      generalize (ShaM.wds l).getD k 0 = x at HR hidx
      generalize ShaM.K k = kc at HR hroot
      unfold U at hidx
      go_wp2_with fail
      go_quiet ((go_at_call 96; exact q_left (big1_any _ _)))
      go_wp2_with fail
      refine (big0_any _ _).mono ?_
      rintro e w4 ⟨rfl, rfl⟩
      go_wp2
      go_roundw
      case rel =>
        refine ⟨k + 1, by omega, by go_num, ?_, ?_, ?_, ?_, ?_, ?_, ?_, ?_, be_drewN HB.out _⟩
        · rw [HR.out, rnd_t1, rnd_t2, u_add_mod]; rfl
        · rw [HR.out]; rfl
        · rw [HR.out]; rfl
        · rw [HR.out]; rfl
        · rw [HR.out, rnd_t1, u_add_mod]; rfl
        · rw [HR.out]; rfl
        · rw [HR.out]; rfl
        · rw [HR.out]; rfl
      case measure => simp [intOf]; omega
    · have hk64 : k = 64 := by omega
      have HF : Hid (ShaM.comp s l = s.add (ShaM.rounds (ShaM.wds l) k s)) := by rw [hk64]; rfl
      have hW4 : Whole wr b T cs := (HW.out.below HB3.out hbw).below HB.out (Nat.lt_of_lt_of_le hbw HB3.out.size)
      have hB4 : Below w.heap.size w wr := HB3.out.trans (HB.out.mono HB3.out.size)
      clear hk64
      generalize ShaM.rounds (ShaM.wds l) k s = r at HF ⊢
      have c0 : wr.cell? ⟨b, 0, none⟩ = some (.int .u32 (s.a.toNat : Int)) := (hW4.at_ 0).trans HS.out.a
      have c1 : wr.cell? ⟨b, 1, none⟩ = some (.int .u32 (s.b.toNat : Int)) := (hW4.at_ 1).trans HS.out.b
      have c2 : wr.cell? ⟨b, 2, none⟩ = some (.int .u32 (s.c.toNat : Int)) := (hW4.at_ 2).trans HS.out.c
      have c3 : wr.cell? ⟨b, 3, none⟩ = some (.int .u32 (s.d.toNat : Int)) := (hW4.at_ 3).trans HS.out.d
      have c4 : wr.cell? ⟨b, 4, none⟩ = some (.int .u32 (s.e.toNat : Int)) := (hW4.at_ 4).trans HS.out.e
      have c5 : wr.cell? ⟨b, 5, none⟩ = some (.int .u32 (s.f.toNat : Int)) := (hW4.at_ 5).trans HS.out.f
      have c6 : wr.cell? ⟨b, 6, none⟩ = some (.int .u32 (s.g.toNat : Int)) := (hW4.at_ 6).trans HS.out.g
      have c7 : wr.cell? ⟨b, 7, none⟩ = some (.int .u32 (s.h.toNat : Int)) := (hW4.at_ 7).trans HS.out.h
      have z0 := hW4.thawed 0
      have z1 := hW4.thawed 1
      have z2 := hW4.thawed 2
      have z3 := hW4.thawed 3
      have z4 := hW4.thawed 4
      have z5 := hW4.thawed 5
      have z6 := hW4.thawed 6
      have z7 := hW4.thawed 7
      have HW4 := Lib.hid hW4
      have HB4 := Lib.hid hB4
      clear hW4 hB4
      go_wp2
      go_region
      go_wp2
      go_region
      go_wp2
      go_region
      go_wp2
      go_region
      go_wp2
      go_region
      go_wp2
      go_region
      go_wp2
      go_region
      go_wp2
      go_region
      go_wp2
      refine bodyPost_end (results_none rfl _ _ _) rfl ⟨rfl, ?_, ?_⟩
      · iterate 8 refine gr_drew ?_
        iterate 8 refine gr_set ?_ (.inl rfl) _
        exact gr_below (gr_refl _ _) HB4.out
      · rw [HF.out, u_add_mod, u_add_mod, u_add_mod, u_add_mod, u_add_mod, u_add_mod, u_add_mod, u_add_mod]
        rw [setSt_add]
        iterate 8 refine Whole.drew ?_
        iterate 8 refine Whole.put ?_ _ _
        exact HW4.out
end Go.Proofs.YtdjhkaofhdcalaaGreatDoor

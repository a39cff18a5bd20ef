/-
  commit.Get, walked.
-/
import Derived.Test.YtfaijkgfhdhhbaaGreatDoorComQ
import Derived.Test.YtfaijkgfhdhhbaaGreatDoorMgs
namespace Go.Proofs.YtfaijkgfhdhhbaaGreatDoor
open Go.RowKit

theorem ArgN.alt {w w' : World} {A : Option Addr} {c : Nat} {ids : List Nm} {R : Nat → Prop} (h : ArgN w A c ids) (k : Alt R w w') (hn : ∀ j, inBlk A j → 0 < ids.length → ¬ R j) : ArgN w' A c ids := by
  have h' := h
  obtain ⟨h1, h2, h3, h4⟩ := h
  refine ⟨h1, h2, h3, fun h0 => ?_⟩
  obtain ⟨b, o, e, hr⟩ := h4 h0
  have hk := k.block b (h'.lt ⟨_, e, rfl⟩ h0) (hn b ⟨_, e, rfl⟩ h0)
  refine ⟨b, o, e, fun i hi j v hv => ?_⟩
  have := hr i hi j v hv
  unfold World.cell? at *
  dsimp only at *
  rw [hk]
  exact this
set_option maxRecDepth 100000 in
set_option maxHeartbeats 4000000 in
theorem cget1_any (g0 g1 : Nat) (s : List UInt8) (W : World) (z : Array Value) (hs : Whole W g0 9 #[.string ⟨s.toArray⟩]) (hg : Whole W g1 28 z) (hzs : z.size = 35) (hl : s.length ≤ 1048576) :
    Calls Tryz.prog 59 #[.pointer (some ⟨g0, 0, none⟩), .pointer (some ⟨g1, 0, none⟩)] W fun e w' => (∃ x A c, readC s = some x ∧ e = .returned (.tuple #[]) ∧ Alt (· = g1) W w' ∧ Whole w' g1 28 (encC A c x).toArray ∧ ArgN w' A c x.parents ∧ (∀ j, inBlk A j → W.heap.size ≤ j) ∧ OwnB w' A) ∨ (readC s = none ∧ Fell (· = g1) W e w') := by
  have hc0 : W.cell? ⟨g0, 0, none⟩ = some (.string ⟨s.toArray⟩) := (hs.at_ 0).trans rfl
  have HG := Lib.hid hg
  have HZS := Lib.hid hzs
  have hgl := hg.lt
  clear hs hg hzs
  go_enter Tryz.func59, Tryz.ntmps59
  go_wp2_with (refine wpList_of_string rfl 9 78 5 _ rfl ⟨s.toArray⟩ s rfl rfl Tryz.underlying9 Tryz.underlying78 Tryz.underlying5 (by unfold maxLen; omega) ?_; intro w1 c hby hzz hbe hsz; have HBY := Lib.hid hby; have HBE := Lib.hid hbe; clear hby hzz hbe)
  refine (gnew_any _ s w1 HBY.out).mono ?_
  rintro e w2 ⟨rfl, hB2, hR2, hs2⟩
  have HG2 := Lib.hid ((HG.out.below HBE.out hgl).below hB2 (by omega))
  have HB2 := Lib.hid (HBE.out.trans (hB2.mono HBE.out.size))
  rw [hsz] at hR2
  have HR2 := Lib.hid hR2
  clear hB2 hR2 hc0
  go_wp2_with fail
  with_reducible refine (read_any (W.heap.size + 1) s w2 HR2.out hl).mono ?_
  rintro r w3 (⟨x, A, c', hgt, rfl, ha, har, hnb, hob⟩ | ⟨hgt, cc, hcc, rfl, ha⟩)
  · have HA3 : Hid (Alt (· = g1) W w3) := (Alt.of_below HB2.out).then ha (fun k hk e => by omega)
    have HG3 := Lib.hid (HG2.out.alt ha (by omega))
    have HAR := Lib.hid har
    have HGT := Lib.hid hgt
    have HNB : Hid (∀ j, inBlk A j → W.heap.size ≤ j) := fun j hj => by have := hnb j hj; have := HB2.out.size; omega
    have HOB := Lib.hid hob
    have HXS := Lib.hid (infoC_s A c' x)
    have HAL := Lib.hid (encC_all A c' x)
    have HSZ := Lib.hid (encC_s A c' x)
    clear ha har hgt hnb hob
    generalize hcs : (encC A c' x).toArray = cs at *
    go_wp2_with (refine wpList_store_whole rfl 28 _ _ rfl g1 cs rfl rfl 28 z HG3.out HXS.out (by rw [HSZ.out]; exact HZS.out) HAL.out ?_; intro w4 hWn hGn; have HW4 := Lib.hid hWn; have HG4 := Lib.hid hGn; clear hWn hGn)
    go_end0
    refine .inl ⟨x, HGT.out, rfl, HA3.out.grown HG4.out (fun j hj => by injection hj with hj; exact .inr hj.symm), A, c', by rw [hcs]; exact HW4.out, HAR.out.grown HG4.out (fun j hj h0 e => by injection e with e; have := HNB.out j hj; omega), HNB.out, HOB.out.grown HG4.out (fun j hj e => by injection e with e; have := HNB.out j hj; omega)⟩
  · exact ⟨rfl, .inr ⟨hgt, cc, hcc, rfl, (Alt.of_below HB2.out).then ha (fun k hk e => by omega)⟩⟩
theorem cget1_enters (caps : Array Value) (W : World) : (callFunc 59 caps).run Tryz.prog W = .ok (.enter 59 caps) W := enters_of Tryz.func59 (by kernel_rfl) rfl _ _
/-- What Get tells: a commit, or none and a fault. -/
def GotC (B : Nat) (s : List UInt8) (e : Ending) (w' : World) : Prop :=
  (∃ x A c, readC s = some x ∧ e = .returned (.tuple #[.agg (encC A c x).toArray, .int .i64 0]) ∧ ArgN w' A c x.parents ∧ ∀ j, inBlk A j → B ≤ j) ∨ (readC s = none ∧ e = .returned (.tuple #[.agg (encC none 0 noC).toArray, .int .i64 1]))
theorem zC_build (w : World) : (Instr.build 28 #[]).run Tryz.prog w = .ok (.agg (encC none 0 noC).toArray) w := by kernel_rfl
theorem results_crow {fn : Func} (hr : fn.results = #[.cell 2 28, .tmp 3]) (v : Value) (a : Act) (w : World) (g : Nat) (t : TypeId) (cs : Array Value) (h2 : a.tmps.getD 2 undef = .pointer (some ⟨g, 0, none⟩)) (h3 : a.tmps.getD 3 undef = v) (hW : Whole w g t cs) (hi : (Tryz.prog.info? 28).map (·.size) = some cs.size) :
    (results fn a.tmps).run Tryz.prog w = .ok (.tuple #[.agg cs, v]) w := by
  rw [← h3]
  exact results_row_tmp hr _ _ g t cs (0, 0) _ h2 hW Tryz.underlying28 rfl hi
def GotCo (B : Nat) (s : List UInt8) (e : Ending) (w' : World) : Prop :=
  (∃ x A c, readC s = some x ∧ e = .returned (.tuple #[.agg (encC A c x).toArray, .int .i64 0]) ∧ ArgN w' A c x.parents ∧ Own2 B w' A) ∨ (readC s = none ∧ e = .returned (.tuple #[.agg (encC none 0 noC).toArray, .int .i64 1]))
set_option maxRecDepth 100000 in
set_option maxHeartbeats 4000000 in
theorem cgetO_any (s : List UInt8) (w : World) (hl : s.length ≤ 1048576) :
    Calls Tryz.prog 24 #[.string ⟨s.toArray⟩] w fun e w' => GotCo w.heap.size s e w' ∧ Below w.heap.size w w' := by
  have hmf : ∀ (fn : Fn) (first cap : Array Value) (w : World), (Instr.makeFunc fn first cap).run Tryz.prog w = .ok (.func fn first cap) w := fun _ _ _ _ => rfl
  have HS0 := Lib.hid fun z => Whole.past (Whole.past (Whole.made w 9 #[.string ⟨s.toArray⟩]) (.cells z 28)) (.cells z 28)
  have HR0 : Hid (∀ z, Whole (((w.alloc (.cells #[.string ⟨s.toArray⟩] 9)).alloc (.cells z 28)).alloc (.cells z 28)) (w.heap.size + 1) 28 z) := by
    intro z
    have := Whole.past (Whole.made (w.alloc (.cells #[.string ⟨s.toArray⟩] 9)) 28 z) (.cells z 28)
    simpa using this
  have HC0 : Hid (∀ z, Whole (((w.alloc (.cells #[.string ⟨s.toArray⟩] 9)).alloc (.cells z 28)).alloc (.cells z 28)) (w.heap.size + 1 + 1) 28 z) := by
    intro z
    have := Whole.made ((w.alloc (.cells #[.string ⟨s.toArray⟩] 9)).alloc (.cells z 28)) 28 z
    simpa using this
  have HB0 := Lib.hid fun z => (((Below.refl w.heap.size w).alloc (Nat.le_refl _) (.cells #[.string ⟨s.toArray⟩] 9)).alloc (by simp) (.cells z 28)).alloc (by simp; omega) (.cells z 28)
  go_enter Tryz.func24, Tryz.ntmps24
  go_wp2_with fail
  obtain ⟨z, hz⟩ : ∃ z : Array Value, z = (encC none 0 noC).toArray := ⟨_, rfl⟩
  rw [show (#[Value.int IntKind.u8 0, Value.int IntKind.u8 0, Value.int IntKind.u8 0, Value.int IntKind.u8 0, Value.int IntKind.u8 0, Value.int IntKind.u8 0, Value.int IntKind.u8 0, Value.int IntKind.u8 0, Value.int IntKind.u8 0, Value.int IntKind.u8 0, Value.int IntKind.u8 0, Value.int IntKind.u8 0, Value.int IntKind.u8 0, Value.int IntKind.u8 0, Value.int IntKind.u8 0, Value.int IntKind.u8 0, Value.int IntKind.u8 0, Value.int IntKind.u8 0, Value.int IntKind.u8 0, Value.int IntKind.u8 0, Value.int IntKind.u8 0, Value.int IntKind.u8 0, Value.int IntKind.u8 0, Value.int IntKind.u8 0, Value.int IntKind.u8 0, Value.int IntKind.u8 0, Value.int IntKind.u8 0, Value.int IntKind.u8 0, Value.int IntKind.u8 0, Value.int IntKind.u8 0, Value.int IntKind.u8 0, Value.int IntKind.u8 0, Value.slice none 0 0, Value.float FloatKind.f64 0, Value.string ⟨#[]⟩] : Array Value) = z from hz.symm]
  have HS := Lib.hid (HS0.out z)
  have HR := Lib.hid (HR0.out z)
  have HC := Lib.hid (HC0.out z)
  have HB := Lib.hid (HB0.out z)
  have HZ := Lib.hid hz
  have hzs : z.size = 35 := by rw [hz]; exact encC_s _ _ _
  have HZS := Lib.hid hzs
  have hs0 : (((w.alloc (.cells #[.string ⟨s.toArray⟩] 9)).alloc (.cells z 28)).alloc (.cells z 28)).heap.size = w.heap.size + 3 := by simp
  clear hz hzs HS0 HR0 HC0 HB0
  generalize (((w.alloc (.cells #[.string ⟨s.toArray⟩] 9)).alloc (.cells z 28)).alloc (.cells z 28)) = w0 at *
  have hcall := cget1_any w.heap.size (w.heap.size + 1 + 1) s (w0.alloc (.cells #[.int .i64 0] 40)) z (HS.out.past _) (HC.out.past _) HZS.out hl
  have hR : ¬ w0.heap.size = w.heap.size + 1 + 1 := by omega
  cases hg : readC s with
  | none =>
    have HGN := Lib.hid hg
    have hc2 := hcall.mono fun e w' (h : _ ∨ _) => (h.resolve_left (by rintro ⟨x, A, c, h9, -⟩; rw [hg] at h9; cases h9)).2
    have HD := Lib.hid (do_fell _ _ w0 (· = w.heap.size + 1 + 1) (cget1_enters _) hR hc2)
    clear hcall hc2 hg
    refine HD.out.mono ?_
    rintro e w3 ⟨cc, hcc, rfl, ha⟩
    have HBF := Lib.hid (HB.out.trans (ha.to (B := w.heap.size) (fun k e => by omega) (by omega)))
    have HR3 := Lib.hid (HR.out.alt ha (by omega))
    have hne : (cc != 0) = true := by simpa using hcc
    have hzb := zC_build
    have HXS := Lib.hid (infoC_s none 0 noC)
    have HAL := Lib.hid (encC_all none 0 noC)
    have HSZ := Lib.hid (encC_s none 0 noC)
    clear ha hcc HD
    go_wp2_with (refine wpList_store_whole rfl 28 _ _ rfl (w.heap.size + 1) (encC none 0 noC).toArray rfl rfl 28 z HR3.out HXS.out (by rw [HSZ.out]; exact HZS.out) HAL.out ?_; intro w4 hWn hGn; have HW4 := Lib.hid hWn; have HG4 := Lib.hid hGn; clear hWn hGn)
    have HB4 := Lib.hid (be_grown HBF.out HG4.out HBF.out.size (fun j hj => by injection hj with hj; omega))
    refine bodyPost_ret (v := .tuple #[.agg (encC none 0 noC).toArray, .int .i64 1]) (results_crow rfl _ _ _ (w.heap.size + 1) _ _ rfl rfl HW4.out HXS.out) rfl ⟨.inr ⟨HGN.out, rfl⟩, HB4.out⟩
  | some x =>
    have HGN := Lib.hid hg
    have hE := Whole.made w0 40 #[.int .i64 0]
    have hc2 : Calls Tryz.prog 59 #[.pointer (some ⟨w.heap.size, 0, none⟩), .pointer (some ⟨w.heap.size + 1 + 1, 0, none⟩)] (w0.alloc (.cells #[.int .i64 0] 40)) fun e w' => e = .returned (.tuple #[]) ∧ Alt (· = w.heap.size + 1 + 1) (w0.alloc (.cells #[.int .i64 0] 40)) w' ∧ (∃ A c, Whole w' (w.heap.size + 1 + 1) 28 (encC A c x).toArray ∧ ArgN w' A c x.parents ∧ (∀ j, inBlk A j → w0.heap.size < j) ∧ OwnB w' A) := by
      refine hcall.mono fun e w' h => ?_
      rcases h with ⟨x', A, c, h9, he, ha, hw, har, hnb, hob⟩ | ⟨h9, -⟩
      · rw [hg] at h9
        injection h9 with h9
        subst h9
        exact ⟨he, ha, A, c, hw, har, fun j hj => by have := hnb j hj; simp at this; omega, hob⟩
      · rw [hg] at h9
        cases h9
    have HD := Lib.hid (do_ret_q _ _ w0 (· = w.heap.size + 1 + 1) _ (cget1_enters _) hR (by
      rintro w1 w2 - ⟨A, c, hw, har, hj, ho⟩ hal
      exact ⟨A, c, hw.alt hal (fun e => hR e.symm), har.alt hal (fun j h1 _ e => by have := hj j h1; omega), hj, ho.alt hal (fun j h1 e => by have := hj j h1; omega)⟩) hc2)
    clear hcall hc2 hg hE
    refine HD.out.mono ?_
    rintro e w3 ⟨rfl, ha, A, c, hw, har, hj, hob⟩
    have HBF := Lib.hid (HB.out.trans (ha.to (B := w.heap.size) (fun k e => by omega) (by omega)))
    have HR3 := Lib.hid (HR.out.alt ha (by omega))
    have HW3 := Lib.hid hw
    have HAR := Lib.hid har
    have HXS := Lib.hid (infoC_s A c x)
    have HAL := Lib.hid (encC_all A c x)
    have HSZ := Lib.hid (encC_s A c x)
    have HJ : Hid (∀ j, inBlk A j → w.heap.size + 1 < j) := fun j h1 => by have := hj j h1; omega
    have HOB := Lib.hid hob
    clear ha hw har hj HD hob
    generalize hcs : (encC A c x).toArray = cs at *
    go_wp2_with (first
      | (refine wpList_load_row rfl 28 _ rfl (w.heap.size + 1 + 1) rfl 28 cs (0, 0) _ HW3.out Tryz.underlying28 rfl HXS.out ?_)
      | (refine wpList_store_whole rfl 28 _ _ rfl (w.heap.size + 1) cs rfl rfl 28 z HR3.out HXS.out (by rw [HSZ.out]; exact HZS.out) HAL.out ?_; intro w4 hWn hGn; have HW4 := Lib.hid hWn; have HG4 := Lib.hid hGn; clear hWn hGn))
    have HB4 := Lib.hid (be_grown HBF.out HG4.out HBF.out.size (fun j hj => by injection hj with hj; omega))
    refine bodyPost_ret (v := .tuple #[.agg cs, .int .i64 0]) (results_crow rfl _ _ _ (w.heap.size + 1) _ cs rfl rfl HW4.out HXS.out) rfl ⟨.inl ⟨x, A, c, HGN.out, by rw [hcs], HAR.out.grown HG4.out ?_, fun j h1 => by have := HJ.out j h1; omega, HOB.out.grown HG4.out ?_⟩, HB4.out⟩
    · rintro j h1 - e
      injection e with e
      have := HJ.out j h1
      omega
    · rintro j h1 e
      injection e with e
      have := HJ.out j h1
      omega
theorem cget_any (s : List UInt8) (w : World) (hl : s.length ≤ 1048576) :
    Calls Tryz.prog 24 #[.string ⟨s.toArray⟩] w fun e w' => GotC w.heap.size s e w' ∧ Below w.heap.size w w' := by
  refine (cgetO_any s w hl).mono ?_
  rintro e w' ⟨⟨x, A, c, h1, h2, h3, h4⟩ | h, hb⟩
  · exact ⟨.inl ⟨x, A, c, h1, h2, h3, h4.1⟩, hb⟩
  · exact ⟨.inr h, hb⟩
end Go.Proofs.YtfaijkgfhdhhbaaGreatDoor

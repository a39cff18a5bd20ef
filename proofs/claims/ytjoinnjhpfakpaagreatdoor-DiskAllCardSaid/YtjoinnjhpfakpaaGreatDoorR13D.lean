/-
  The document's disk: done, of a move and of a removal.
-/
import Derived.Test.YtjoinnjhpfakpaaGreatDoorR13C
namespace Go.Proofs.YtjoinnjhpfakpaaGreatDoor
open Go.RowKit

theorem rdone_wr (A : Option Addr) (c : Nat) (fs : List Fl) (a b : List UInt8) (w : World) (hA : ArgG encF noF 2 w A c fs) (hr : Rises fs) (hn : fs.length ≤ 100) :
    Calls Tryz.prog 45 #[.slice A fs.length c, .agg #[.int .i64 1, .string ⟨a.toArray⟩, .string ⟨#[]⟩, .string ⟨b.toArray⟩]] w fun e w' => ToldR (rdW a b fs) fs A w.heap.size e w' ∧ Below w.heap.size w w' := by
  unfold rdW
  by_cases hb : bsF fs a = true
  · rw [if_pos hb]
    exact rdone_over A c fs a b w hA hr hn hb
  · rw [if_neg hb]
    have hb : bsF fs a = false := by simpa using hb
    by_cases hf : 100 ≤ fs.length
    · rw [if_pos hf]
      exact rdone_full A c fs a b w hA hr hn hb hf
    · rw [if_neg hf]
      exact rdone_ins A c fs a b w hA hr hn hb hf
abbrev opK (k : Int) (a t : List UInt8) : Array Value := #[.int .i64 k, .string ⟨a.toArray⟩, .string ⟨t.toArray⟩, .string ⟨#[]⟩]
set_option maxRecDepth 100000 in
theorem rdone_none (k : Int) (hk : k = 2 ∨ k = 3) (A : Option Addr) (c : Nat) (fs : List Fl) (a t : List UInt8) (w : World) (hA : ArgG encF noF 2 w A c fs) (hr : Rises fs) (hn : fs.length ≤ 100) (hb : bsF fs a = false) :
    Calls Tryz.prog 45 #[.slice A fs.length c, .agg #[.int .i64 k, .string ⟨a.toArray⟩, .string ⟨t.toArray⟩, .string ⟨#[]⟩]] w fun e w' => ToldR fs fs A w.heap.size e w' ∧ Below w.heap.size w w' := by
  have hbx : Below w.heap.size w (w.alloc (.cells (opK k a t) 86)) := (Below.refl _ _).alloc (Nat.le_refl _) _
  have hwx := Whole.made w 86 (opK k a t)
  have HAT := Lib.hid (rat_any A c fs a _ (hA.later eltR hbx) hr (by omega))
  rw [hb] at HAT
  have HB := Lib.hid hbx
  have HA := Lib.hid hA
  have HWX := Lib.hid hwx
  have k1 : (k == 1) = false := by rcases hk with rfl | rfl <;> rfl
  clear hbx hwx hA hk
  go_enter Tryz.func45, Tryz.ntmps45
  go_wp2_with (go_at_call 37; refine HAT.out.mono ?_; rintro e w2 ⟨rfl, hB2⟩; have hwx := HWX.out.below hB2 HWX.out.lt; have c0 : w2.cell? ⟨w.heap.size, 0, none⟩ = some (.int .i64 k) := (hwx.at_ 0).trans rfl; have HB2 := Lib.hid (HB.out.trans (hB2.mono HB.out.size)); clear hB2 HAT HWX HB hwx)
  go_ret
  exact ⟨⟨A, c, rfl, HA.out.later eltR HB2.out, fun j hj => .inr ⟨hj, rfl⟩⟩, HB2.out⟩
set_option maxRecDepth 100000 in
set_option maxHeartbeats 4000000 in
theorem rdone_rm (A : Option Addr) (c : Nat) (fs : List Fl) (a t : List UInt8) (w : World) (hA : ArgG encF noF 2 w A c fs) (hr : Rises fs) (hn : fs.length ≤ 100) (hb : bsF fs a = true) :
    Calls Tryz.prog 45 #[.slice A fs.length c, .agg #[.int .i64 3, .string ⟨a.toArray⟩, .string ⟨t.toArray⟩, .string ⟨#[]⟩]] w fun e w' => ToldR (fs.take (bsW fs a) ++ fs.drop (bsW fs a + 1)) fs A w.heap.size e w' ∧ Below w.heap.size w w' := by
  have hbx : Below w.heap.size w (w.alloc (.cells (opK 3 a t) 86)) := (Below.refl _ _).alloc (Nat.le_refl _) _
  have hwx := Whole.made w 86 (opK 3 a t)
  have HAT := Lib.hid (rat_any A c fs a _ (hA.later eltR hbx) hr (by omega))
  rw [hb] at HAT
  have HB := Lib.hid hbx
  have HA := Lib.hid hA
  have HWX := Lib.hid hwx
  have hlt := bsF_lt hb
  have HRS : Hid (Rises (fs.take (bsW fs a) ++ fs.drop (bsW fs a + 1))) := by
    have h1 : (rmF fs a).1 = 0 := by unfold rmF; rw [if_pos hb]
    have h2 := rises_rm hr a h1
    rw [show (rmF fs a).2 = fs.take (bsW fs a) ++ fs.drop (bsW fs a + 1) by unfold rmF; rw [if_pos hb]] at h2
    exact h2
  obtain ⟨bb, o, hAe, hrow⟩ := hA.2.2.2 (by omega)
  have hct0 := hrow (bsW fs a) hlt 1 _ rfl
  generalize htx : (fs.getD (bsW fs a) noF).2 = tx at *
  generalize hp : bsW fs a = p at *
  have hlt' : (p : Int) < (fs.length : Int) := by omega
  have hcl := hA.1
  have ht1 : (fs.take p).length = p := by rw [List.length_take]; omega
  have hdl : (fs.drop (p + 1)).length = fs.length - (p + 1) := List.length_drop
  have kw : IntKind.i64.wrap ((p : Int) + 1) = (p : Int) + 1 := IntWalk.i64_in _ (by omega)
  subst hAe
  have hbbw : bb < w.heap.size := World.block_lt_of_cell? _ _ hct0
  clear hbx hwx hA hp htx hrow
  go_enter Tryz.func45, Tryz.ntmps45
  go_upto_region 13 with (go_at_call 37; refine HAT.out.mono ?_; rintro e w2 ⟨rfl, hB2⟩; have hwx := HWX.out.below hB2 HWX.out.lt; have c0 : w2.cell? ⟨w.heap.size, 0, none⟩ = some (.int .i64 3) := (hwx.at_ 0).trans rfl; have hb2 := HB.out.trans (hB2.mono HB.out.size); have ct : w2.cell? ⟨bb, o + p * 2 + 1, none⟩ = some (.string ⟨tx.toArray⟩) := (hb2.cell hbbw).trans hct0; have HW2 := Lib.hid hwx; have HA2 := Lib.hid (HA.out.later eltR hb2); have HB2 := Lib.hid hb2; have hsz : w.heap.size < w2.heap.size := World.block_lt_of_cell? _ _ c0; clear hB2 HAT HWX HB hwx hb2)
  refine wp_region_K (fun _ => True) 9 (by kernel_rfl) ?_
  change wpAnyK _ _ _ _ _ _ _ _ _ (World.drew w2)
  have HB3 := Lib.hid HB2.out.drew
  have hw3 : Whole (World.drew w2) w.heap.size 86 (opK 3 a t) := HW2.out
  have HA3 := Lib.hid (HA2.out.later eltR ((Below.refl w2.heap.size w2).drew))
  have hsz3 : w.heap.size < (World.drew w2).heap.size := hsz
  clear HB2 HA2 HW2 c0 hsz HA ct
  generalize World.drew w2 = w3 at *
  have HW3 := Lib.hid hw3
  have hS0 : True := trivial
  clear hw3
  have HT3 := Lib.hid (HA3.out.take p (by omega))
  have HD3 := Lib.hid (HA3.out.drop (p + 1) (by omega))
  clear HA3
  refine wpAnyK_take0 (i := 0) (oi := { dst := some 75, op := _, type := _, pos := _, after := _, guard := none }) (v := .slice (some ⟨bb, o, none⟩) fs.length c) rfl (by kernel_rfl) (fun _ _ _ h => h) (Or.inl ⟨by rfl, fun W hW => ?_⟩) (fun _ => hS0) ?_
  · go_simp
  refine wpAnyK_take0 (i := 1) (oi := { dst := some 76, op := _, type := _, pos := _, after := _, guard := none }) (v := .int .i64 (p : Int)) rfl (by kernel_rfl) (fun _ _ _ h => h) (Or.inl ⟨by rfl, fun W hW => ?_⟩) (fun _ => hS0) ?_
  · go_simp
  try simp only [Act.put]
  try go_simp
  refine wpAnyK_take0 (i := 2) (oi := { dst := some 77, op := _, type := _, pos := _, after := _, guard := none }) (v := .slice (some ⟨bb, o, none⟩) p c) rfl (by kernel_rfl) (fun _ _ _ h => h) (Or.inl ⟨by rfl, fun W hW => ?_⟩) (fun _ => hS0) ?_
  · go_simp
    intro h
    omega
  refine wpAnyK_take0 (i := 4) (oi := { dst := some 79, op := _, type := _, pos := _, after := _, guard := none }) (v := .slice (some ⟨bb, o, none⟩) fs.length c) rfl (by kernel_rfl) (fun _ _ _ h => h) (Or.inl ⟨by rfl, fun W hW => ?_⟩) (fun _ => hS0) ?_
  · go_simp
  refine wpAnyK_take0 (i := 5) (oi := { dst := some 80, op := _, type := _, pos := _, after := _, guard := none }) (v := .int .i64 (p : Int)) rfl (by kernel_rfl) (fun _ _ _ h => h) (Or.inl ⟨by rfl, fun W hW => ?_⟩) (fun _ => hS0) ?_
  · go_simp
  try simp only [Act.put]
  try go_simp
  refine wpAnyK_take0 (i := 6) (oi := { dst := some 81, op := _, type := _, pos := _, after := _, guard := none }) (v := .int .i64 ((p + 1 : Nat) : Int)) rfl (by kernel_rfl) (fun _ _ _ h => h) (Or.inl ⟨by rfl, fun W hW => ?_⟩) (fun _ => hS0) ?_
  · go_simp
  try simp only [Act.put]
  try go_simp
  refine wpAnyK_take0 (i := 7) (oi := { dst := some 82, op := _, type := _, pos := _, after := _, guard := none }) (v := .slice (fromG (some ⟨bb, o, none⟩) c (p + 1) 2) (fs.length - (p + 1)) (c - (p + 1))) rfl (by kernel_rfl) (fun _ _ _ h => h) (Or.inl ⟨by rfl, fun W hW => ?_⟩) (fun _ => hS0) ?_
  · go_simp
    rw [if_pos ⟨by omega, by omega⟩]
    rfl
  try simp only [Act.put]
  try go_simp
  refine wpAnyK_ready (rs := [3]) (by kernel_rfl) (by simp) ?_
  refine AllReadyK.cons (o := _) rfl (fun K hK => ?_) AllReadyK.nil
  rw [if_pos (by rfl)]
  refine wp_appendG eltR _ _ rfl w3.heap.size (.slice none 0 0) [] rfl (World.ownsRow_nil _ _ _ _) (some ⟨bb, o, none⟩) p c (fs.take p) ht1 rfl HT3.out (Nat.le_refl _) (by simp; omega) (fun v4 w4 hown hb4 hgr4 => ?_)
  have HOWN4 := Lib.hid hown
  have HB4 := Lib.hid hb4
  have HD4 := Lib.hid (HD3.out.later eltR hb4)
  refine hK _ _ (fun _ => trivial) ?_
  clear hK K hown hb4 hgr4
  refine wpAnyK_ready (rs := [8]) (by kernel_rfl) (by simp) ?_
  refine AllReadyK.cons (o := _) rfl (fun K hK => ?_) AllReadyK.nil
  rw [if_pos (by rfl)]
  refine wp_appendG eltR _ _ rfl w3.heap.size v4 (fs.take p) rfl HOWN4.out (fromG (some ⟨bb, o, none⟩) c (p + 1) 2) (fs.length - (p + 1)) (c - (p + 1)) (fs.drop (p + 1)) hdl rfl HD4.out HB4.out.size (by rw [ht1, hdl]; omega) (fun v7 w7 hown7 hb7 hgr7 => ?_)
  obtain ⟨A7, c7, rfl, hA7, hO7⟩ := own_argG eltR hown7
  have hb7' := HB4.out.trans hb7
  have HA7 := Lib.hid hA7
  have HO7 := Lib.hid hO7.1
  have HB7 := Lib.hid (HB3.out.trans (hb7'.mono (Nat.le_of_lt hsz3)))
  have hw7 := HW3.out.below hb7' hsz3
  have c0 : w7.cell? ⟨w.heap.size, 0, none⟩ = some (.int .i64 3) := (hw7.at_ 0).trans rfl
  have c2 : w7.cell? ⟨w.heap.size, 2, none⟩ = some (.string ⟨t.toArray⟩) := (hw7.at_ 2).trans rfl
  refine hK _ _ (fun _ => trivial) ?_
  clear hK K hown7 hb7 hgr7 hb7' hA7 hO7 HOWN4 HB4 HD4 hw7
  refine wpAnyK_ready (rs := [9]) (by kernel_rfl) (by simp) ?_
  refine AllReadyK.cons (o := _) rfl (fun K hK => ?_) AllReadyK.nil
  rw [if_pos (by rfl)]
  go_simp
  refine hK _ _ (fun h => by cases h) ?_
  clear hK K
  refine wpAnyK_done (by kernel_rfl) ?_ _
  try simp only [Act.put]
  try go_simp
  have HLEN : Hid (p + (fs.length - (p + 1)) = (fs.take p ++ fs.drop (p + 1)).length) := by
    show _ = _
    rw [List.length_append, ht1, hdl]
  go_wp2
  go_ret
  exact ⟨⟨A7, c7, by rw [← HLEN.out]; rfl, HA7.out, fun j hj => .inl (Nat.le_trans (Nat.le_of_lt hsz3) (HO7.out j hj))⟩, HB7.out⟩
set_option maxRecDepth 100000 in
set_option maxHeartbeats 4000000 in
theorem rdone_mv (A : Option Addr) (c : Nat) (fs : List Fl) (a t : List UInt8) (w : World) (hA : ArgG encF noF 2 w A c fs) (hr : Rises fs) (hn : fs.length ≤ 100) (hb : bsF fs a = true) :
    Calls Tryz.prog 45 #[.slice A fs.length c, .agg #[.int .i64 2, .string ⟨a.toArray⟩, .string ⟨t.toArray⟩, .string ⟨#[]⟩]] w fun e w' => ToldR (rdW t (fs.getD (bsW fs a) noF).2 (fs.take (bsW fs a) ++ fs.drop (bsW fs a + 1))) fs A w.heap.size e w' ∧ Below w.heap.size w w' := by
  have hbx : Below w.heap.size w (w.alloc (.cells (opK 2 a t) 86)) := (Below.refl _ _).alloc (Nat.le_refl _) _
  have hwx := Whole.made w 86 (opK 2 a t)
  have HAT := Lib.hid (rat_any A c fs a _ (hA.later eltR hbx) hr (by omega))
  rw [hb] at HAT
  have HB := Lib.hid hbx
  have HA := Lib.hid hA
  have HWX := Lib.hid hwx
  have hlt := bsF_lt hb
  have HRS : Hid (Rises (fs.take (bsW fs a) ++ fs.drop (bsW fs a + 1))) := by
    have h1 : (rmF fs a).1 = 0 := by unfold rmF; rw [if_pos hb]
    have h2 := rises_rm hr a h1
    rw [show (rmF fs a).2 = fs.take (bsW fs a) ++ fs.drop (bsW fs a + 1) by unfold rmF; rw [if_pos hb]] at h2
    exact h2
  obtain ⟨bb, o, hAe, hrow⟩ := hA.2.2.2 (by omega)
  have hct0 := hrow (bsW fs a) hlt 1 _ rfl
  generalize htx : (fs.getD (bsW fs a) noF).2 = tx at *
  generalize hp : bsW fs a = p at *
  have hlt' : (p : Int) < (fs.length : Int) := by omega
  have hcl := hA.1
  have ht1 : (fs.take p).length = p := by rw [List.length_take]; omega
  have hdl : (fs.drop (p + 1)).length = fs.length - (p + 1) := List.length_drop
  have kw : IntKind.i64.wrap ((p : Int) + 1) = (p : Int) + 1 := IntWalk.i64_in _ (by omega)
  subst hAe
  have hbbw : bb < w.heap.size := World.block_lt_of_cell? _ _ hct0
  clear hbx hwx hA hp htx hrow
  go_enter Tryz.func45, Tryz.ntmps45
  go_upto_region 13 with (go_at_call 37; refine HAT.out.mono ?_; rintro e w2 ⟨rfl, hB2⟩; have hwx := HWX.out.below hB2 HWX.out.lt; have c0 : w2.cell? ⟨w.heap.size, 0, none⟩ = some (.int .i64 2) := (hwx.at_ 0).trans rfl; have hb2 := HB.out.trans (hB2.mono HB.out.size); have ct : w2.cell? ⟨bb, o + p * 2 + 1, none⟩ = some (.string ⟨tx.toArray⟩) := (hb2.cell hbbw).trans hct0; have HW2 := Lib.hid hwx; have HA2 := Lib.hid (HA.out.later eltR hb2); have HB2 := Lib.hid hb2; have hsz : w.heap.size < w2.heap.size := World.block_lt_of_cell? _ _ c0; clear hB2 HAT HWX HB hwx hb2)
  refine wp_region_K (fun _ => True) 9 (by kernel_rfl) ?_
  change wpAnyK _ _ _ _ _ _ _ _ _ (World.drew w2)
  have HB3 := Lib.hid HB2.out.drew
  have hw3 : Whole (World.drew w2) w.heap.size 86 (opK 2 a t) := HW2.out
  have HA3 := Lib.hid (HA2.out.later eltR ((Below.refl w2.heap.size w2).drew))
  have hsz3 : w.heap.size < (World.drew w2).heap.size := hsz
  clear HB2 HA2 HW2 c0 hsz HA ct
  generalize World.drew w2 = w3 at *
  have HW3 := Lib.hid hw3
  have hS0 : True := trivial
  clear hw3
  have HT3 := Lib.hid (HA3.out.take p (by omega))
  have HD3 := Lib.hid (HA3.out.drop (p + 1) (by omega))
  clear HA3
  refine wpAnyK_take0 (i := 0) (oi := { dst := some 75, op := _, type := _, pos := _, after := _, guard := none }) (v := .slice (some ⟨bb, o, none⟩) fs.length c) rfl (by kernel_rfl) (fun _ _ _ h => h) (Or.inl ⟨by rfl, fun W hW => ?_⟩) (fun _ => hS0) ?_
  · go_simp
  refine wpAnyK_take0 (i := 1) (oi := { dst := some 76, op := _, type := _, pos := _, after := _, guard := none }) (v := .int .i64 (p : Int)) rfl (by kernel_rfl) (fun _ _ _ h => h) (Or.inl ⟨by rfl, fun W hW => ?_⟩) (fun _ => hS0) ?_
  · go_simp
  try simp only [Act.put]
  try go_simp
  refine wpAnyK_take0 (i := 2) (oi := { dst := some 77, op := _, type := _, pos := _, after := _, guard := none }) (v := .slice (some ⟨bb, o, none⟩) p c) rfl (by kernel_rfl) (fun _ _ _ h => h) (Or.inl ⟨by rfl, fun W hW => ?_⟩) (fun _ => hS0) ?_
  · go_simp
    intro h
    omega
  refine wpAnyK_take0 (i := 4) (oi := { dst := some 79, op := _, type := _, pos := _, after := _, guard := none }) (v := .slice (some ⟨bb, o, none⟩) fs.length c) rfl (by kernel_rfl) (fun _ _ _ h => h) (Or.inl ⟨by rfl, fun W hW => ?_⟩) (fun _ => hS0) ?_
  · go_simp
  refine wpAnyK_take0 (i := 5) (oi := { dst := some 80, op := _, type := _, pos := _, after := _, guard := none }) (v := .int .i64 (p : Int)) rfl (by kernel_rfl) (fun _ _ _ h => h) (Or.inl ⟨by rfl, fun W hW => ?_⟩) (fun _ => hS0) ?_
  · go_simp
  try simp only [Act.put]
  try go_simp
  refine wpAnyK_take0 (i := 6) (oi := { dst := some 81, op := _, type := _, pos := _, after := _, guard := none }) (v := .int .i64 ((p + 1 : Nat) : Int)) rfl (by kernel_rfl) (fun _ _ _ h => h) (Or.inl ⟨by rfl, fun W hW => ?_⟩) (fun _ => hS0) ?_
  · go_simp
  try simp only [Act.put]
  try go_simp
  refine wpAnyK_take0 (i := 7) (oi := { dst := some 82, op := _, type := _, pos := _, after := _, guard := none }) (v := .slice (fromG (some ⟨bb, o, none⟩) c (p + 1) 2) (fs.length - (p + 1)) (c - (p + 1))) rfl (by kernel_rfl) (fun _ _ _ h => h) (Or.inl ⟨by rfl, fun W hW => ?_⟩) (fun _ => hS0) ?_
  · go_simp
    rw [if_pos ⟨by omega, by omega⟩]
    rfl
  try simp only [Act.put]
  try go_simp
  refine wpAnyK_ready (rs := [3]) (by kernel_rfl) (by simp) ?_
  refine AllReadyK.cons (o := _) rfl (fun K hK => ?_) AllReadyK.nil
  rw [if_pos (by rfl)]
  refine wp_appendG eltR _ _ rfl w3.heap.size (.slice none 0 0) [] rfl (World.ownsRow_nil _ _ _ _) (some ⟨bb, o, none⟩) p c (fs.take p) ht1 rfl HT3.out (Nat.le_refl _) (by simp; omega) (fun v4 w4 hown hb4 hgr4 => ?_)
  have HOWN4 := Lib.hid hown
  have HB4 := Lib.hid hb4
  have HD4 := Lib.hid (HD3.out.later eltR hb4)
  refine hK _ _ (fun _ => trivial) ?_
  clear hK K hown hb4 hgr4
  refine wpAnyK_ready (rs := [8]) (by kernel_rfl) (by simp) ?_
  refine AllReadyK.cons (o := _) rfl (fun K hK => ?_) AllReadyK.nil
  rw [if_pos (by rfl)]
  refine wp_appendG eltR _ _ rfl w3.heap.size v4 (fs.take p) rfl HOWN4.out (fromG (some ⟨bb, o, none⟩) c (p + 1) 2) (fs.length - (p + 1)) (c - (p + 1)) (fs.drop (p + 1)) hdl rfl HD4.out HB4.out.size (by rw [ht1, hdl]; omega) (fun v7 w7 hown7 hb7 hgr7 => ?_)
  obtain ⟨A7, c7, rfl, hA7, hO7⟩ := own_argG eltR hown7
  have hb7' := HB4.out.trans hb7
  have HA7 := Lib.hid hA7
  have HO7 := Lib.hid hO7.1
  have HB7 := Lib.hid (HB3.out.trans (hb7'.mono (Nat.le_of_lt hsz3)))
  have hw7 := HW3.out.below hb7' hsz3
  have c0 : w7.cell? ⟨w.heap.size, 0, none⟩ = some (.int .i64 2) := (hw7.at_ 0).trans rfl
  have c2 : w7.cell? ⟨w.heap.size, 2, none⟩ = some (.string ⟨t.toArray⟩) := (hw7.at_ 2).trans rfl
  refine hK _ _ (fun _ => trivial) ?_
  clear hK K hown7 hb7 hgr7 hb7' hA7 hO7 HOWN4 HB4 HD4 hw7
  refine wpAnyK_ready (rs := [9]) (by kernel_rfl) (by simp) ?_
  refine AllReadyK.cons (o := _) rfl (fun K hK => ?_) AllReadyK.nil
  rw [if_pos (by rfl)]
  go_simp
  refine hK _ _ (fun h => by cases h) ?_
  clear hK K
  refine wpAnyK_done (by kernel_rfl) ?_ _
  try simp only [Act.put]
  try go_simp
  have HLEN : Hid (p + (fs.length - (p + 1)) = (fs.take p ++ fs.drop (p + 1)).length) := by
    show _ = _
    rw [List.length_append, ht1, hdl]
  have HL7 : Hid ((fs.take p ++ fs.drop (p + 1)).length ≤ 100) := by show _ ≤ _; rw [← HLEN.out]; omega
  have HREC := Lib.hid (rdone_wr A7 c7 (fs.take p ++ fs.drop (p + 1)) t tx w7 HA7.out HRS.out HL7.out)
  rw [← HLEN.out] at HREC
  go_wp2_with fail
  refine HREC.out.mono ?_
  rintro e w8 ⟨⟨A8, c8, rfl, hA8, hO8⟩, hB8⟩
  have HA8 := Lib.hid hA8
  have HO8 := Lib.hid hO8
  have HB8 := Lib.hid hB8
  clear hA8 hO8 hB8
  go_wp2
  go_ret
  refine ⟨⟨A8, c8, rfl, HA8.out, fun j hj => .inl ?_⟩, HB7.out.trans (HB8.out.mono HB7.out.size)⟩
  rcases HO8.out j hj with h | ⟨h, -⟩
  · exact Nat.le_trans HB7.out.size h
  · exact Nat.le_trans (Nat.le_of_lt hsz3) (HO7.out j h)
/-- A list told for each change. -/
theorem rdone_any (x : Ch) (hx : okC x) (A : Option Addr) (c : Nat) (fs : List Fl) (w : World) (hA : ArgG encF noF 2 w A c fs) (hr : Rises fs) (hn : fs.length ≤ 100) :
    Calls Tryz.prog 45 #[.slice A fs.length c, .agg (encP4 x).toArray] w fun e w' => ToldR (rdone x fs) fs A w.heap.size e w' ∧ Below w.heap.size w w' := by
  cases x with
  | wr a b => exact rdone_wr A c fs a b w hA hr hn
  | mv a b =>
    rw [show rdone (.mv a b) fs = if bsF fs a = true then rdW b (fs.getD (bsW fs a) noF).2 (fs.take (bsW fs a) ++ fs.drop (bsW fs a + 1)) else fs from rfl]
    by_cases hb : bsF fs a = true
    · rw [if_pos hb]
      exact rdone_mv A c fs a b w hA hr hn hb
    · rw [if_neg hb]
      exact rdone_none 2 (.inl rfl) A c fs a b w hA hr hn (by simpa using hb)
  | rm a =>
    rw [show rdone (.rm a) fs = if bsF fs a = true then fs.take (bsW fs a) ++ fs.drop (bsW fs a + 1) else fs from rfl]
    by_cases hb : bsF fs a = true
    · rw [if_pos hb]
      exact rdone_rm A c fs a [] w hA hr hn hb
    · rw [if_neg hb]
      exact rdone_none 3 (.inr rfl) A c fs a [] w hA hr hn (by simpa using hb)
  | sy => exact hx.elim
end Go.Proofs.YtjoinnjhpfakpaaGreatDoor

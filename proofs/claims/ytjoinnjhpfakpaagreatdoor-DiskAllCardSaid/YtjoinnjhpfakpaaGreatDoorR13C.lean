/-
  The document's disk: done, of a write of a new file.
-/
import Derived.Test.YtjoinnjhpfakpaaGreatDoorR13B
namespace Go.Proofs.YtjoinnjhpfakpaaGreatDoor
open Go.RowKit

set_option maxRecDepth 100000 in
set_option maxHeartbeats 4000000 in
theorem rdone_ins (A : Option Addr) (c : Nat) (fs : List Fl) (a b : List UInt8) (w : World) (hA : ArgG encF noF 2 w A c fs) (hr : Rises fs) (hn : fs.length ≤ 100) (hb : bsF fs a = false) (hf : ¬ 100 ≤ fs.length) :
    Calls Tryz.prog 45 #[.slice A fs.length c, .agg #[.int .i64 1, .string ⟨a.toArray⟩, .string ⟨#[]⟩, .string ⟨b.toArray⟩]] w fun e w' => ToldR (fs.take (bsW fs a) ++ [(a, b)] ++ fs.drop (bsW fs a)) fs A w.heap.size e w' ∧ Below w.heap.size w w' := by
  have hbx : Below w.heap.size w (w.alloc (.cells (opW a b) 86)) := (Below.refl _ _).alloc (Nat.le_refl _) _
  have hwx := Whole.made w 86 (opW a b)
  have HAT := Lib.hid (rat_any A c fs a _ (hA.later eltR hbx) hr (by omega))
  rw [hb] at HAT
  have HB := Lib.hid hbx
  have HA := Lib.hid hA
  have HWX := Lib.hid hwx
  have hlt : bsW fs a ≤ fs.length := bsW_le fs a
  generalize hp : bsW fs a = p at *
  have hf' : ¬ (fs.length : Int) ≥ 100 := by omega
  have hcl := hA.1
  have ht1 : (fs.take p).length = p := by rw [List.length_take]; omega
  have hdl : (fs.drop p).length = fs.length - p := List.length_drop
  clear hbx hwx hA hp
  go_enter Tryz.func45, Tryz.ntmps45
  go_upto_region 9 with (go_at_call 37; refine HAT.out.mono ?_; rintro e w2 ⟨rfl, hB2⟩; have hwx := HWX.out.below hB2 HWX.out.lt; have c0 : w2.cell? ⟨w.heap.size, 0, none⟩ = some (.int .i64 1) := (hwx.at_ 0).trans rfl; have HW2 := Lib.hid hwx; have HA2 := Lib.hid (HA.out.later eltR (HB.out.trans (hB2.mono HB.out.size))); have HB2 := Lib.hid (HB.out.trans (hB2.mono HB.out.size)); have hsz : w.heap.size < w2.heap.size := World.block_lt_of_cell? _ _ c0; clear hB2 HAT HWX HB hwx)
  refine wp_region_K (fun W => W.cell? ⟨w.heap.size, 1, none⟩ = some (.string ⟨a.toArray⟩) ∧ W.cell? ⟨w.heap.size, 3, none⟩ = some (.string ⟨b.toArray⟩)) 15 (by kernel_rfl) ?_
  change wpAnyK _ _ _ _ _ _ _ _ _ (World.drew w2)
  have HB3 := Lib.hid HB2.out.drew
  have hw3 : Whole (World.drew w2) w.heap.size 86 (opW a b) := HW2.out
  have HA3 := Lib.hid (HA2.out.later eltR ((Below.refl w2.heap.size w2).drew))
  have hsz3 : w.heap.size < (World.drew w2).heap.size := hsz
  clear HB2 HA2 HW2 c0 hsz HA
  generalize World.drew w2 = w3 at *
  have HW3 := Lib.hid hw3
  have hS0 : w3.cell? ⟨w.heap.size, 1, none⟩ = some (.string ⟨a.toArray⟩) ∧ w3.cell? ⟨w.heap.size, 3, none⟩ = some (.string ⟨b.toArray⟩) := ⟨(hw3.at_ 1).trans rfl, (hw3.at_ 3).trans rfl⟩
  have HS : Hid (∀ W, Below w3.heap.size w3 W → W.cell? ⟨w.heap.size, 1, none⟩ = some (.string ⟨a.toArray⟩) ∧ W.cell? ⟨w.heap.size, 3, none⟩ = some (.string ⟨b.toArray⟩)) := fun W hW => ⟨(hW.cell hsz3).trans hS0.1, (hW.cell hsz3).trans hS0.2⟩
  clear hw3 HW3
  have HT3 := Lib.hid (HA3.out.take p hlt)
  have HD3 := Lib.hid (HA3.out.drop p hlt)
  clear HA3
  refine wpAnyK_take0 (i := 0) (oi := { dst := some 51, op := _, type := _, pos := _, after := _, guard := none }) (v := .slice A fs.length c) rfl (by kernel_rfl) (fun _ _ _ h => h) (Or.inl ⟨by rfl, fun W hW => ?_⟩) (fun _ => hS0) ?_
  · go_simp
  refine wpAnyK_take0 (i := 1) (oi := { dst := some 52, op := _, type := _, pos := _, after := _, guard := none }) (v := .int .i64 (p : Int)) rfl (by kernel_rfl) (fun _ _ _ h => h) (Or.inl ⟨by rfl, fun W hW => ?_⟩) (fun _ => hS0) ?_
  · go_simp
  try simp only [Act.put]
  try go_simp
  refine wpAnyK_take0 (i := 2) (oi := { dst := some 53, op := _, type := _, pos := _, after := _, guard := none }) (v := .slice A p c) rfl (by kernel_rfl) (fun _ _ _ h => h) (Or.inl ⟨by rfl, fun W hW => ?_⟩) (fun _ => hS0) ?_
  · go_simp
    intro h
    omega
  refine wpAnyK_take0 (i := 4) (oi := { dst := some 55, op := _, type := _, pos := _, after := _, guard := none }) (v := .pointer (some ⟨w.heap.size, 1, none⟩)) rfl (by kernel_rfl) (fun _ _ _ h => h) (Or.inl ⟨by rfl, fun W hW => ?_⟩) (fun _ => hS0) ?_
  · go_simp
  refine wpAnyK_take0 (i := 6) (oi := { dst := some 57, op := _, type := _, pos := _, after := _, guard := none }) (v := .pointer (some ⟨w.heap.size, 3, none⟩)) rfl (by kernel_rfl) (fun _ _ _ h => h) (Or.inl ⟨by rfl, fun W hW => ?_⟩) (fun _ => hS0) ?_
  · go_simp
  try simp only [Act.put]
  try go_simp
  refine wpAnyK_take (i := 5) (oi := { dst := some 56, op := _, type := _, pos := _, after := _, guard := none }) (v := .string ⟨a.toArray⟩) rfl (by kernel_rfl) (fun _ _ _ h => h) (Or.inl ⟨by rfl, fun W hW => ?_⟩) hS0 ?_
  · obtain ⟨s0, s1⟩ := hW
    go_simp
  refine wpAnyK_take (i := 7) (oi := { dst := some 58, op := _, type := _, pos := _, after := _, guard := none }) (v := .string ⟨b.toArray⟩) rfl (by kernel_rfl) (fun _ _ _ h => h) (Or.inl ⟨by rfl, fun W hW => ?_⟩) hS0 ?_
  · obtain ⟨s0, s1⟩ := hW
    go_simp
  try simp only [Act.put]
  try go_simp
  refine wpAnyK_take0 (i := 8) (oi := { dst := some 59, op := _, type := _, pos := _, after := _, guard := none }) (v := .agg #[.string ⟨a.toArray⟩, .string ⟨b.toArray⟩]) rfl (by kernel_rfl) (fun _ _ _ h => h) (Or.inl ⟨by rfl, fun W hW => ?_⟩) (fun _ => hS0) ?_
  · go_simp
  try simp only [Act.put]
  try go_simp
  refine wpAnyK_take0 (i := 11) (oi := { dst := some 62, op := _, type := _, pos := _, after := _, guard := none }) (v := .slice A fs.length c) rfl (by kernel_rfl) (fun _ _ _ h => h) (Or.inl ⟨by rfl, fun W hW => ?_⟩) (fun _ => hS0) ?_
  · go_simp
  refine wpAnyK_take0 (i := 12) (oi := { dst := some 63, op := _, type := _, pos := _, after := _, guard := none }) (v := .int .i64 (p : Int)) rfl (by kernel_rfl) (fun _ _ _ h => h) (Or.inl ⟨by rfl, fun W hW => ?_⟩) (fun _ => hS0) ?_
  · go_simp
  try simp only [Act.put]
  try go_simp
  refine wpAnyK_take0 (i := 13) (oi := { dst := some 64, op := _, type := _, pos := _, after := _, guard := none }) (v := .slice (fromG A c p 2) (fs.length - p) (c - p)) rfl (by kernel_rfl) (fun _ _ _ h => h) (Or.inl ⟨by rfl, fun W hW => ?_⟩) (fun _ => hS0) ?_
  · go_simp
    rfl
  try simp only [Act.put]
  try go_simp
  refine wpAnyK_ready (rs := [3, 9]) (by kernel_rfl) (by simp) ?_
  refine AllReadyK.cons (o := _) rfl (fun K hK => ?_) (AllReadyK.cons (o := _) rfl (fun K hK => ?_) AllReadyK.nil)
  · rw [if_pos (by rfl)]
    refine wp_appendG eltR _ _ rfl w3.heap.size (.slice none 0 0) [] rfl (World.ownsRow_nil _ _ _ _) A p c (fs.take p) ht1 rfl HT3.out (Nat.le_refl _) (by simp; omega) (fun v4 w4 hown hb4 hgr4 => ?_)
    have HOWN4 := Lib.hid hown
    have HB4 := Lib.hid hb4
    refine hK _ _ (fun _ => HS.out _ hb4) ?_
    clear hK K hown hb4 hgr4
    refine wpAnyK_ready (rs := [9]) (by kernel_rfl) (by simp) ?_
    refine AllReadyK.cons (o := _) rfl (fun K hK => ?_) AllReadyK.nil
    rw [if_pos (by rfl)]
    go_simp
    have hb5 := HB4.out.alloc HB4.out.size (.cells #[.string ⟨a.toArray⟩, .string ⟨b.toArray⟩] 94)
    have HOWN5 := Lib.hid (HOWN4.out.alloc (.cells #[.string ⟨a.toArray⟩, .string ⟨b.toArray⟩] 94))
    have HONE5 := Lib.hid (argG_one (enc := encF) (d := noF) (m := 2) (x := (a, b)) (Whole.made w4 94 #[.string ⟨a.toArray⟩, .string ⟨b.toArray⟩]))
    have HB5 := Lib.hid hb5
    refine hK _ _ (fun _ => HS.out _ hb5) ?_
    clear hK K hb5 HOWN4 HB4
    generalize hg1 : w4.heap.size = g1 at *
    refine wpAnyK_ready (rs := [10]) (by kernel_rfl) (by simp) ?_
    refine AllReadyK.cons (o := _) rfl (fun K hK => ?_) AllReadyK.nil
    rw [if_pos (by rfl)]
    refine wp_appendG eltR _ _ rfl w3.heap.size v4 (fs.take p) rfl HOWN5.out (some ⟨g1, 0, none⟩) 1 1 [(a, b)] rfl rfl HONE5.out HB5.out.size (by rw [ht1]; simp; omega) (fun v6 w6 hown6 hb6 hgr6 => ?_)
    have hb6' := HB5.out.trans hb6
    have HOWN6 := Lib.hid hown6
    have HB6 := Lib.hid hb6'
    have HD6 := Lib.hid (HD3.out.later eltR hb6')
    refine hK _ _ (fun _ => HS.out _ hb6') ?_
    clear hK K hown6 hb6 hgr6 hb6'
    refine wpAnyK_ready (rs := [14]) (by kernel_rfl) (by simp) ?_
    refine AllReadyK.cons (o := _) rfl (fun K hK => ?_) AllReadyK.nil
    rw [if_pos (by rfl)]
    refine wp_appendG eltR _ _ rfl w3.heap.size v6 (fs.take p ++ [(a, b)]) rfl HOWN6.out (fromG A c p 2) (fs.length - p) (c - p) (fs.drop p) hdl rfl HD6.out HB6.out.size (by rw [List.length_append, ht1, hdl]; simp; omega) (fun v7 w7 hown7 hb7 hgr7 => ?_)
    obtain ⟨A7, c7, rfl, hA7, hO7⟩ := own_argG eltR hown7
    have hb7' := HB6.out.trans hb7
    have HA7 := Lib.hid hA7
    have HO7 := Lib.hid hO7.1
    have HB7 := Lib.hid (HB3.out.trans (hb7'.mono (Nat.le_of_lt hsz3)))
    refine hK _ _ (fun _ => HS.out _ hb7') ?_
    clear hK K hown7 hb7 hgr7 hb7' hA7 hO7 HOWN6 HB6 HD6
    refine wpAnyK_ready (rs := [15]) (by kernel_rfl) (by simp) ?_
    refine AllReadyK.cons (o := _) rfl (fun K hK => ?_) AllReadyK.nil
    rw [if_pos (by rfl)]
    go_simp
    refine hK _ _ (fun h => by cases h) ?_
    clear hK K
    refine wpAnyK_done (by kernel_rfl) ?_ _
    try simp only [Act.put]
    try go_simp
    go_wp2
    go_ret
    have hlen : (fs.take p ++ [(a, b)] ++ fs.drop p).length = p + (fs.length - p + 1) := by simp only [List.length_append, ht1, hdl, List.length_singleton]; omega
    exact ⟨⟨A7, c7, by rw [hlen]; rfl, HA7.out, fun j hj => .inl (Nat.le_trans (Nat.le_of_lt hsz3) (HO7.out j hj))⟩, HB7.out⟩
  · rw [if_pos (by rfl)]
    go_simp
    have hb4 := (Below.refl w3.heap.size w3).alloc (Nat.le_refl _) (.cells #[.string ⟨a.toArray⟩, .string ⟨b.toArray⟩] 94)
    have HONE4 := Lib.hid (argG_one (enc := encF) (d := noF) (m := 2) (x := (a, b)) (Whole.made w3 94 #[.string ⟨a.toArray⟩, .string ⟨b.toArray⟩]))
    have HT4 := Lib.hid (HT3.out.later eltR hb4)
    have HB4 := Lib.hid hb4
    refine hK _ _ (fun _ => HS.out _ hb4) ?_
    clear hK K hb4
    refine wpAnyK_ready (rs := [3]) (by kernel_rfl) (by simp) ?_
    refine AllReadyK.cons (o := _) rfl (fun K hK => ?_) AllReadyK.nil
    rw [if_pos (by rfl)]
    refine wp_appendG eltR _ _ rfl w3.heap.size (.slice none 0 0) [] rfl (World.ownsRow_nil _ _ _ _) A p c (fs.take p) ht1 rfl HT4.out HB4.out.size (by simp; omega) (fun v4 w5 hown hb5 hgr5 => ?_)
    have HOWN5 := Lib.hid hown
    have HONE5 := Lib.hid (HONE4.out.grown eltR hgr5 (fun j _ _ e => by cases e))
    have HB5 := Lib.hid (HB4.out.trans hb5)
    refine hK _ _ (fun _ => HS.out _ (HB4.out.trans hb5)) ?_
    clear hK K hown hb5 hgr5 HB4 HT4 HONE4
    generalize hg1 : w3.heap.size = g1 at HONE5
    refine wpAnyK_ready (rs := [10]) (by kernel_rfl) (by simp) ?_
    refine AllReadyK.cons (o := _) rfl (fun K hK => ?_) AllReadyK.nil
    rw [if_pos (by rfl)]
    refine wp_appendG eltR _ _ rfl w3.heap.size v4 (fs.take p) rfl HOWN5.out (some ⟨g1, 0, none⟩) 1 1 [(a, b)] rfl rfl HONE5.out HB5.out.size (by rw [ht1]; simp; omega) (fun v6 w6 hown6 hb6 hgr6 => ?_)
    have hb6' := HB5.out.trans hb6
    have HOWN6 := Lib.hid hown6
    have HB6 := Lib.hid hb6'
    have HD6 := Lib.hid (HD3.out.later eltR hb6')
    refine hK _ _ (fun _ => HS.out _ hb6') ?_
    clear hK K hown6 hb6 hgr6 hb6'
    refine wpAnyK_ready (rs := [14]) (by kernel_rfl) (by simp) ?_
    refine AllReadyK.cons (o := _) rfl (fun K hK => ?_) AllReadyK.nil
    rw [if_pos (by rfl)]
    refine wp_appendG eltR _ _ rfl w3.heap.size v6 (fs.take p ++ [(a, b)]) rfl HOWN6.out (fromG A c p 2) (fs.length - p) (c - p) (fs.drop p) hdl rfl HD6.out HB6.out.size (by rw [List.length_append, ht1, hdl]; simp; omega) (fun v7 w7 hown7 hb7 hgr7 => ?_)
    obtain ⟨A7, c7, rfl, hA7, hO7⟩ := own_argG eltR hown7
    have hb7' := HB6.out.trans hb7
    have HA7 := Lib.hid hA7
    have HO7 := Lib.hid hO7.1
    have HB7 := Lib.hid (HB3.out.trans (hb7'.mono (Nat.le_of_lt hsz3)))
    refine hK _ _ (fun _ => HS.out _ hb7') ?_
    clear hK K hown7 hb7 hgr7 hb7' hA7 hO7 HOWN6 HB6 HD6
    refine wpAnyK_ready (rs := [15]) (by kernel_rfl) (by simp) ?_
    refine AllReadyK.cons (o := _) rfl (fun K hK => ?_) AllReadyK.nil
    rw [if_pos (by rfl)]
    go_simp
    refine hK _ _ (fun h => by cases h) ?_
    clear hK K
    refine wpAnyK_done (by kernel_rfl) ?_ _
    try simp only [Act.put]
    try go_simp
    go_wp2
    go_ret
    have hlen : (fs.take p ++ [(a, b)] ++ fs.drop p).length = p + (fs.length - p + 1) := by simp only [List.length_append, ht1, hdl, List.length_singleton]; omega
    exact ⟨⟨A7, c7, by rw [hlen]; rfl, HA7.out, fun j hj => .inl (Nat.le_trans (Nat.le_of_lt hsz3) (HO7.out j hj))⟩, HB7.out⟩
end Go.Proofs.YtjoinnjhpfakpaaGreatDoor

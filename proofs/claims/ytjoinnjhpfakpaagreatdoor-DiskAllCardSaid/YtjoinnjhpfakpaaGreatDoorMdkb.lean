/-
  A region that draws its order: operations that read are taken first, under a condition on the world that is kept until a given operation (a first store) comes up.
  A disk's files: parts of a list; files.remove.
  A disk's files: files.write.
  A disk's files: what write and remove come to, in plain words; one contract each.
  A disk's files: files.move.
  A disk's operations: the changes that Write, Move, Remove and Sync hand to do.
  A disk in memory; burn.
  A disk: Down, Ops, Fuse; slices.Clip of changes.
-/
import Derived.Deep.RegionHeld
import Derived.Test.YtjoinnjhpfakpaaGreatDoorQTail
import Derived.Test.YtjoinnjhpfakpaaGreatDoorMdka
import Derived.Deep.CutBlock
namespace Go.Proofs.YtjoinnjhpfakpaaGreatDoor
section
variable {P : Program} {ops : Array Oper} {Q : Exit → Act → World → Prop} {md : Region.Mode} {S : World → Prop} {k : Nat}
def wpAnyK (P : Program) (md : Region.Mode) (ops : Array Oper) (Q : Exit → Act → World → Prop) (S : World → Prop) (k : Nat) : Nat → Array Bool → Act → World → Prop
  | 0, listed, a, w => Region.ready md ops listed = [] ∧ Q .normal a w
  | fuel + 1, listed, a, w =>
    (Region.ready md ops listed = [] → Q .normal a w) ∧
    ∀ i ∈ Region.ready md ops listed, wpOp P ops Q i (fun a' w' => ((listed.setIfInBounds i true).getD k true = false → S w') ∧ wpAnyK P md ops Q S k fuel (listed.setIfInBounds i true) a' w') a w
theorem wpAny_of_K : ∀ (fuel : Nat) (listed : Array Bool) (a : Act) (w : World), wpAnyK P md ops Q S k fuel listed a w → wpAny P md ops Q fuel listed a w
  | 0, _, _, _, h => h
  | fuel + 1, _, _, _, h => ⟨h.1, fun i hi => wpOp_mono (fun a' w' h' => wpAny_of_K fuel _ a' w' h'.2) (h.2 i hi)⟩
theorem wpAnyK_first {i : Nat} {oi : Oper} {v : Value} (hi : ops[i]? = some oi) (hsel : ∀ (j : Nat) (o : Oper) cs b, ops[j]? = some o → o.op ≠ .select cs b)
    (hQ : ∀ c a w, Q (.panic c) (a.put oi.dst v) w → Q (.panic c) a w) (hki : i ≠ k) (hwt : Region.waitsFor md ops k i = true) :
    ∀ (fuel : Nat) (listed : Array Bool) (a : Act) (w : World),
      (∀ j oj, ops[j]? = some oj → j ≠ i → listed.getD j true = false → (∀ e ∈ oj.after, Region.binds md e = true → e.on ≠ i) → oi.apart ops oj = true) →
      i ∈ Region.ready md ops listed → listed.getD k true = false → YieldsIf P ops S oi v a → S w →
      wpAnyK P md ops Q S k fuel (listed.setIfInBounds i true) (a.put oi.dst v) w → wpAnyK P md ops Q S k (fuel + 1) listed a w := by
  intro fuel
  induction fuel with
  | zero =>
    intro listed a w _ hr _ hy hS H
    refine ⟨fun h => (by rw [h] at hr; cases hr), fun j hj => ?_⟩
    by_cases hji : j = i
    · subst hji; exact hy.wpOp hi hS ⟨fun _ => hS, H⟩
    · have := ready_mono hj hji
      rw [H.1] at this
      cases this
  | succ fuel ih =>
    intro listed a w hfree hr hku hy hS H
    refine ⟨fun h => (by rw [h] at hr; cases hr), fun j hj => ?_⟩
    by_cases hji : j = i
    · subst hji; exact hy.wpOp hi hS ⟨fun _ => hS, H⟩
    · have h1 := H.2 j (ready_mono hj hji)
      obtain ⟨hjun, oj, hoj, hall⟩ := mem_ready.1 hj
      have hun := (mem_ready.1 hr).1
      have hnot : ∀ e ∈ oj.after, Region.binds md e = true → e.on ≠ i := by
        rintro e he hb rfl
        have := hall e he hb
        rw [getD_both hun] at this
        cases this
      have hjk : j ≠ k := by
        rintro rfl
        obtain ⟨o', ho', e, he, hb, hon⟩ := Region.waitsFor_spec hwt
        obtain rfl : o' = oj := Option.some.inj (ho'.symm.trans hoj)
        exact hnot e he hb hon
      have h2 := wpOp_putIf hoj (hfree j oj hoj hji hjun hnot) (fun cs b => hsel i oi cs b hi) (fun cs b => hsel j oj cs b hoj) hQ hy h1
      have hfree' : ∀ m om, ops[m]? = some om → m ≠ i → (listed.setIfInBounds j true).getD m true = false →
          (∀ e ∈ om.after, Region.binds md e = true → e.on ≠ i) → oi.apart ops om = true := fun m om hm hmi hmu hno => by
        refine hfree m om hm hmi ?_ hno
        by_cases hjm : j = m
        · subst hjm; exact hjun
        · rw [getD_set_ne true hjm] at hmu; exact hmu
      have hku' : (listed.setIfInBounds j true).getD k true = false := by rw [getD_set_ne true hjk]; exact hku
      refine wpOp_mono (fun a' w' h3 => ?_) h2
      have hS' : S w' := h3.2.1 (by rw [getD_set_ne true hjk, getD_set_ne true hki]; exact hku)
      refine ⟨fun _ => hS', ih (listed.setIfInBounds j true) a' w' hfree' (ready_mono hr (Ne.symm hji)) hku' h3.1 hS' ?_⟩
      rw [Array.setIfInBounds_comm _ _ hji]
      exact h3.2.2
theorem wpAnyK_take {i : Nat} {oi : Oper} {v : Value} {fuel : Nat} {listed : Array Bool} {a : Act} {w : World} (hi : ops[i]? = some oi)
    (hb : (Region.noSelect ops && Region.free md ops listed i && (Region.ready md ops listed).contains i && !(i == k) && Region.waitsFor md ops k i && !(listed.getD k true)) = true)
    (hQ : ∀ c a w, Q (.panic c) (a.put oi.dst v) w → Q (.panic c) a w) (hy : YieldsIf P ops S oi v a) (hS : S w)
    (h : wpAnyK P md ops Q S k fuel (listed.setIfInBounds i true) (a.put oi.dst v) w) : wpAnyK P md ops Q S k (fuel + 1) listed a w := by
  simp only [Bool.and_eq_true, Bool.not_eq_true', beq_eq_false_iff_ne] at hb
  obtain ⟨⟨⟨⟨⟨h1, h2⟩, h3⟩, h4⟩, h5⟩, h6⟩ := hb
  exact wpAnyK_first hi (Region.noSelect_spec h1) hQ h4 h5 fuel listed a w (Region.free_spec hi h2) (by simpa using h3) h6 hy hS h
/-- An operation that yields in every world is taken whenever it is ready. -/
theorem wpAnyK_first0 {i : Nat} {oi : Oper} {v : Value} (hi : ops[i]? = some oi) (hsel : ∀ (j : Nat) (o : Oper) cs b, ops[j]? = some o → o.op ≠ .select cs b)
    (hQ : ∀ c a w, Q (.panic c) (a.put oi.dst v) w → Q (.panic c) a w) (hki : i ≠ k) :
    ∀ (fuel : Nat) (listed : Array Bool) (a : Act) (w : World),
      (∀ j oj, ops[j]? = some oj → j ≠ i → listed.getD j true = false → (∀ e ∈ oj.after, Region.binds md e = true → e.on ≠ i) → oi.apart ops oj = true) →
      i ∈ Region.ready md ops listed → YieldsIf P ops (fun _ => True) oi v a → (listed.getD k true = false → S w) →
      wpAnyK P md ops Q S k fuel (listed.setIfInBounds i true) (a.put oi.dst v) w → wpAnyK P md ops Q S k (fuel + 1) listed a w := by
  intro fuel
  induction fuel with
  | zero =>
    intro listed a w _ hr hy hS H
    refine ⟨fun h => (by rw [h] at hr; cases hr), fun j hj => ?_⟩
    by_cases hji : j = i
    · subst hji; exact hy.wpOp hi trivial ⟨fun h => hS (by rwa [getD_set_ne true hki] at h), H⟩
    · have := ready_mono hj hji
      rw [H.1] at this
      cases this
  | succ fuel ih =>
    intro listed a w hfree hr hy hS H
    refine ⟨fun h => (by rw [h] at hr; cases hr), fun j hj => ?_⟩
    by_cases hji : j = i
    · subst hji; exact hy.wpOp hi trivial ⟨fun h => hS (by rwa [getD_set_ne true hki] at h), H⟩
    · have h1 := H.2 j (ready_mono hj hji)
      obtain ⟨hjun, oj, hoj, hall⟩ := mem_ready.1 hj
      have hun := (mem_ready.1 hr).1
      have hnot : ∀ e ∈ oj.after, Region.binds md e = true → e.on ≠ i := by
        rintro e he hb rfl
        have := hall e he hb
        rw [getD_both hun] at this
        cases this
      have h2 := wpOp_putIf hoj (hfree j oj hoj hji hjun hnot) (fun cs b => hsel i oi cs b hi) (fun cs b => hsel j oj cs b hoj) hQ hy h1
      have hfree' : ∀ m om, ops[m]? = some om → m ≠ i → (listed.setIfInBounds j true).getD m true = false →
          (∀ e ∈ om.after, Region.binds md e = true → e.on ≠ i) → oi.apart ops om = true := fun m om hm hmi hmu hno => by
        refine hfree m om hm hmi ?_ hno
        by_cases hjm : j = m
        · subst hjm; exact hjun
        · rw [getD_set_ne true hjm] at hmu; exact hmu
      refine wpOp_mono (fun a' w' h3 => ?_) h2
      have hS' : (listed.setIfInBounds j true).getD k true = false → S w' := fun h => h3.2.1 (by rw [Array.setIfInBounds_comm _ _ (Ne.symm hji), getD_set_ne true hki]; exact h)
      refine ⟨hS', ih (listed.setIfInBounds j true) a' w' hfree' (ready_mono hr (Ne.symm hji)) h3.1 hS' ?_⟩
      rw [Array.setIfInBounds_comm _ _ hji]
      exact h3.2.2
theorem wpAnyK_take0 {i : Nat} {oi : Oper} {v : Value} {fuel : Nat} {listed : Array Bool} {a : Act} {w : World} (hi : ops[i]? = some oi)
    (hb : (Region.noSelect ops && Region.free md ops listed i && (Region.ready md ops listed).contains i && !(i == k)) = true)
    (hQ : ∀ c a w, Q (.panic c) (a.put oi.dst v) w → Q (.panic c) a w) (hy : YieldsIf P ops (fun _ => True) oi v a) (hS : listed.getD k true = false → S w)
    (h : wpAnyK P md ops Q S k fuel (listed.setIfInBounds i true) (a.put oi.dst v) w) : wpAnyK P md ops Q S k (fuel + 1) listed a w := by
  simp only [Bool.and_eq_true, Bool.not_eq_true', beq_eq_false_iff_ne] at hb
  obtain ⟨⟨⟨h1, h2⟩, h3⟩, h4⟩ := hb
  exact wpAnyK_first0 hi (Region.noSelect_spec h1) hQ h4 fuel listed a w (Region.free_spec hi h2) (by simpa using h3) hy hS h
theorem wpAnyK_done {listed : Array Bool} {a : Act} {w : World} (hr : Region.ready md ops listed = []) (h : Q .normal a w) : ∀ fuel, wpAnyK P md ops Q S k fuel listed a w
  | 0 => ⟨hr, h⟩
  | _ + 1 => ⟨fun _ => h, by rw [hr]; simp⟩
def AllReadyK (P : Program) (md : Region.Mode) (ops : Array Oper) (Q : Exit → Act → World → Prop) (S : World → Prop) (k : Nat) (fuel : Nat) (listed : Array Bool) (a : Act) (w : World) (rs : List Nat) : Prop :=
  ∀ i ∈ rs, wpOp P ops Q i (fun a' w' => ((listed.setIfInBounds i true).getD k true = false → S w') ∧ wpAnyK P md ops Q S k fuel (listed.setIfInBounds i true) a' w') a w
theorem AllReadyK.nil {fuel : Nat} {listed : Array Bool} {a : Act} {w : World} : AllReadyK P md ops Q S k fuel listed a w [] := fun _ h => by cases h
theorem AllReadyK.cons {fuel : Nat} {listed : Array Bool} {a : Act} {w : World} {i : Nat} {o : Oper} {rs : List Nat} (ho : ops[i]? = some o)
    (h : ∀ K' : Act → World → Prop, Shut (∀ a w, ((listed.setIfInBounds i true).getD k true = false → S w) → wpAnyK P md ops Q S k fuel (listed.setIfInBounds i true) a w → K' a w) → if Region.wanted o (yielded ops a.tmps) = true then Oper.wp P o a w K' Q else K' (a.put o.dst undef) w)
    (hs : AllReadyK P md ops Q S k fuel listed a w rs) : AllReadyK P md ops Q S k fuel listed a w (i :: rs) := fun j hj => by
  rcases List.mem_cons.1 hj with rfl | hj
  · exact wpOp_step ho (fun K' hK => h K' (fun a w hS hW => hK a w ⟨hS, hW⟩))
  · exact hs j hj
theorem wpAnyK_ready {rs : List Nat} {fuel : Nat} {listed : Array Bool} {a : Act} {w : World} (hr : Region.ready md ops listed = rs) (hne : rs ≠ [])
    (h : AllReadyK P md ops Q S k fuel listed a w rs) : wpAnyK P md ops Q S k (fuel + 1) listed a w :=
  ⟨fun h0 => absurd (hr ▸ h0) hne, hr ▸ h⟩
theorem wp_region_K {id : Nat} {a : Act} {w : World} (S : World → Prop) (k : Nat) (hm : P.follows .mixedOrders = true)
    (h : wpAnyK P .any ops Q S k ops.size (Array.replicate ops.size false) a w.drew) : (Code.region id ops true).wp P Q a w :=
  wp_region_any hm (wpAny_of_K _ _ _ _ h)
end
end Go.Proofs.YtjoinnjhpfakpaaGreatDoor
namespace Go.Proofs.YtjoinnjhpfakpaaGreatDoor
open Go.RowKit

section
variable {α : Type} {enc : α → List Value} {d : α} {m : Nat} {T TS : TypeId} {w : World} {c : Nat} {A : Option Addr} {xs : List α}
def fromG (A : Option Addr) (c k m : Nat) : Option Addr := if c = k then A else A.map fun x => x.add (k * m)
theorem ArgG.drop (h : ArgG enc d m w A c xs) (k : Nat) (hk : k ≤ xs.length) : ArgG enc d m w (fromG A c k m) (c - k) (xs.drop k) := by
  obtain ⟨h1, h2, h3, h4⟩ := h
  refine ⟨by rw [List.length_drop]; omega, by omega, fun e => ?_, fun h0 => ?_⟩
  · unfold fromG at e
    split at e
    · omega
    · cases A with
      | none => have := h3 rfl; omega
      | some a => cases e
  · rw [List.length_drop] at h0
    obtain ⟨b, o, rfl, hr⟩ := h4 (by omega)
    have hca : ¬ c = k := by omega
    refine ⟨b, o + k * m, by unfold fromG; rw [if_neg hca]; simp [Addr.add_mid], fun i hi => ?_⟩
    rw [List.length_drop] at hi
    have := hr (k + i) (by omega)
    have e : (xs.drop k).getD i d = xs.getD (k + i) d := by simp [List.getD, List.getElem?_drop]
    rw [e]
    rw [show o + k * m + i * m = o + (k + i) * m by rw [Nat.add_mul]; omega]
    exact this
theorem ArgG.take (h : ArgG enc d m w A c xs) (k : Nat) (hk : k ≤ xs.length) : ArgG enc d m w A c (xs.take k) := by
  obtain ⟨h1, h2, h3, h4⟩ := h
  refine ⟨by rw [List.length_take]; omega, h2, h3, fun h0 => ?_⟩
  rw [List.length_take] at h0
  obtain ⟨b, o, e, hr⟩ := h4 (by omega)
  refine ⟨b, o, e, fun i hi => ?_⟩
  rw [List.length_take] at hi
  have := hr i (by omega)
  have e : (xs.take k).getD i d = xs.getD i d := by simp [List.getD, show i < k by omega]
  rw [e]
  exact this
end

set_option maxRecDepth 100000 in
theorem fremove_any (A : Option Addr) (c : Nat) (fs : List Fl) (nm : List UInt8) (w : World) (hA : ArgG encF noF 2 w A c fs) (hn : fs.length ≤ 100000) (hb : bsF fs nm = true) :
    Calls Tryz.prog 43 #[.slice A fs.length c, .string ⟨nm.toArray⟩] w fun e w' => (∃ A' c', e = .returned (.tuple #[.slice A' (fs.take (bsW fs nm) ++ fs.drop (bsW fs nm + 1)).length c', .int .i64 0]) ∧ ArgG encF noF 2 w' A' c' (fs.take (bsW fs nm) ++ fs.drop (bsW fs nm + 1)) ∧ Own2 w.heap.size w' A') ∧ Below w.heap.size w w' := by
  have hlt : bsW fs nm < fs.length := by
    unfold bsF at hb
    exact (of_decide_eq_true hb).1
  have HF := Lib.hid (find_any A c fs nm w hA hn)
  rw [hb] at HF
  generalize bsW fs nm = p at *
  have hcl := hA.1
  have ht1 : (fs.take p).length = p := by rw [List.length_take]; omega
  have hdl : (fs.drop (p + 1)).length = fs.length - (p + 1) := List.length_drop
  have kw : IntKind.i64.wrap ((p : Int) + 1) = (p : Int) + 1 := IntWalk.i64_in _ (by omega)
  have HA1 := Lib.hid (hA.take p (by omega))
  have HA2 := Lib.hid (hA.drop (p + 1) (by omega))
  clear hA
  go_enter Tryz.func43, Tryz.ntmps43
  go_upto_region 4 with (go_at_call 46; refine HF.out.mono ?_; rintro e w1 ⟨rfl, hB⟩; have HB1 := Lib.hid hB; clear hB)
  clear HF
  refine wp_region_K (fun _ => True) 7 (by kernel_rfl) ?_
  change wpAnyK _ _ _ _ _ _ _ _ _ (World.drew w1)
  have HB2 := Lib.hid HB1.out.drew
  have HA12 := Lib.hid (HA1.out.later eltF HB2.out)
  have HA22 := Lib.hid (HA2.out.later eltF HB2.out)
  clear HB1 HA1 HA2
  generalize World.drew w1 = w2 at *
  have hS0 : True := trivial
  refine wpAnyK_take0 (i := 0) (oi := { dst := some 16, op := _, type := _, pos := _, after := _, guard := none }) (v := .slice A fs.length c) rfl (by kernel_rfl) (fun _ _ _ h => h) (Or.inl ⟨by rfl, fun W hW => ?_⟩) (fun _ => hS0) ?_
  · go_simp
  refine wpAnyK_take0 (i := 1) (oi := { dst := some 17, op := _, type := _, pos := _, after := _, guard := none }) (v := .int .i64 (p : Int)) rfl (by kernel_rfl) (fun _ _ _ h => h) (Or.inl ⟨by rfl, fun W hW => ?_⟩) (fun _ => hS0) ?_
  · go_simp
  try simp only [Act.put]
  try go_simp
  refine wpAnyK_take0 (i := 2) (oi := { dst := some 18, op := _, type := _, pos := _, after := _, guard := none }) (v := .slice A p c) rfl (by kernel_rfl) (fun _ _ _ h => h) (Or.inl ⟨by rfl, fun W hW => ?_⟩) (fun _ => hS0) ?_
  · go_simp
    intro h
    omega
  refine wpAnyK_take0 (i := 3) (oi := { dst := some 19, op := _, type := _, pos := _, after := _, guard := none }) (v := .slice A fs.length c) rfl (by kernel_rfl) (fun _ _ _ h => h) (Or.inl ⟨by rfl, fun W hW => ?_⟩) (fun _ => hS0) ?_
  · go_simp
  refine wpAnyK_take0 (i := 4) (oi := { dst := some 20, op := _, type := _, pos := _, after := _, guard := none }) (v := .int .i64 (p : Int)) rfl (by kernel_rfl) (fun _ _ _ h => h) (Or.inl ⟨by rfl, fun W hW => ?_⟩) (fun _ => hS0) ?_
  · go_simp
  try simp only [Act.put]
  try go_simp
  refine wpAnyK_take0 (i := 5) (oi := { dst := some 21, op := _, type := _, pos := _, after := _, guard := none }) (v := .int .i64 ((p + 1 : Nat) : Int)) rfl (by kernel_rfl) (fun _ _ _ h => h) (Or.inl ⟨by rfl, fun W hW => ?_⟩) (fun _ => hS0) ?_
  · go_simp
  try simp only [Act.put]
  try go_simp
  refine wpAnyK_take0 (i := 6) (oi := { dst := some 22, op := _, type := _, pos := _, after := _, guard := none }) (v := .slice (fromG A c (p + 1) 2) (fs.length - (p + 1)) (c - (p + 1))) rfl (by kernel_rfl) (fun _ _ _ h => h) (Or.inl ⟨by rfl, fun W hW => ?_⟩) (fun _ => hS0) ?_
  · go_simp
    rw [if_pos ⟨by omega, by omega⟩]
    rfl
  try simp only [Act.put]
  try go_simp
  refine wpAnyK_ready (rs := [7]) (by kernel_rfl) (by simp) ?_
  refine AllReadyK.cons (o := _) rfl (fun K hK => ?_) AllReadyK.nil
  rw [if_pos (by rfl)]
  go_simp
  have hb3 := (Below.refl w2.heap.size w2).alloc (Nat.le_refl _) (.cells #[.slice A p c, .slice (fromG A c (p + 1) 2) (fs.length - (p + 1)) (c - (p + 1))] 69)
  have hz3 := Whole.made w2 69 #[.slice A p c, .slice (fromG A c (p + 1) 2) (fs.length - (p + 1)) (c - (p + 1))]
  have HC := Lib.hid (fcat2_any w2.heap.size A c (fs.take p) (fromG A c (p + 1) 2) (c - (p + 1)) (fs.drop (p + 1)) (w2.alloc (.cells #[.slice A p c, .slice (fromG A c (p + 1) 2) (fs.length - (p + 1)) (c - (p + 1))] 69)) (by rw [ht1]; exact (hz3.at_ 0).trans rfl) (by rw [hdl]; exact (hz3.at_ 1).trans rfl) (HA12.out.later eltF hb3) (HA22.out.later eltF hb3) (by omega))
  have HB3 := Lib.hid (HB2.out.trans (hb3.mono HB2.out.size))
  have hs3 := hb3.size
  clear hz3 hb3 HA12 HA22
  refine hK _ _ (fun _ => trivial) ?_
  clear hK K
  refine wpAnyK_ready (rs := [8]) (by kernel_rfl) (by simp) ?_
  refine AllReadyK.cons (o := _) rfl (fun K hK => ?_) AllReadyK.nil
  rw [if_pos (by rfl)]
  go_simp
  refine HC.out.mono ?_
  rintro e w4 ⟨⟨A3, c3, rfl, hA3, hlo3⟩, hb4⟩
  have HB4 := Lib.hid (HB3.out.trans (hb4.mono HB3.out.size))
  have HA3 := Lib.hid hA3
  have HLO3 : Hid (Own2 w.heap.size w4 A3) := ⟨fun j hj => Nat.le_trans HB3.out.size (hlo3.1 j hj), hlo3.2⟩
  clear hA3 hlo3 hb4 HB3 HC hs3
  refine hK _ _ (fun h => by cases h) ?_
  clear hK K
  refine wpAnyK_ready (rs := [9]) (by kernel_rfl) (by simp) ?_
  refine AllReadyK.cons (o := _) rfl (fun K hK => ?_) AllReadyK.nil
  rw [if_pos (by rfl)]
  go_simp
  refine hK _ _ (fun h => by cases h) ?_
  clear hK K
  refine wpAnyK_ready (rs := [10]) (by kernel_rfl) (by simp) ?_
  refine AllReadyK.cons (o := _) rfl (fun K hK => ?_) AllReadyK.nil
  rw [if_pos (by rfl)]
  go_simp
  refine hK _ _ (fun h => by cases h) ?_
  clear hK K
  refine wpAnyK_done (by kernel_rfl) ?_ _
  try simp only [Act.put]
  try go_simp
  go_wp2
  exact bodyPost_ret (results_tmp2 rfl _ _ _) rfl ⟨⟨A3, c3, by simp only [List.length_append, ht1, hdl]; rfl, HA3.out, HLO3.out⟩, HB4.out⟩
end Go.Proofs.YtjoinnjhpfakpaaGreatDoor
namespace Go.Proofs.YtjoinnjhpfakpaaGreatDoor
open Go.RowKit

theorem bsG_le (fs : List Fl) (nm : List UInt8) : ∀ f i j, i ≤ j → bsG fs nm f i j ≤ j
  | 0, _, _, h => h
  | f + 1, i, j, h => by
    unfold bsG
    split
    · split
      · exact bsG_le fs nm f _ _ (by omega)
      · exact Nat.le_trans (bsG_le fs nm f _ _ (by omega)) (by omega)
    · exact h
theorem bsW_le (fs : List Fl) (nm : List UInt8) : bsW fs nm ≤ fs.length := bsG_le fs nm _ _ _ (Nat.zero_le _)
set_option maxRecDepth 100000 in
theorem fwrite_over (A : Option Addr) (c : Nat) (fs : List Fl) (nm tx : List UInt8) (w : World) (hA : ArgG encF noF 2 w A c fs) (hn : fs.length ≤ 1000) (h0 : nm ≠ []) (hl : nm.length ≤ 100) (hb : bsF fs nm = true) :
    Calls Tryz.prog 36 #[.slice A fs.length c, .string ⟨nm.toArray⟩, .string ⟨tx.toArray⟩] w fun e w' => (∃ A' c', e = .returned (.tuple #[.slice A' (fs.take (bsW fs nm) ++ [(nm, tx)] ++ fs.drop (bsW fs nm + 1)).length c', .int .i64 0]) ∧ ArgG encF noF 2 w' A' c' (fs.take (bsW fs nm) ++ [(nm, tx)] ++ fs.drop (bsW fs nm + 1)) ∧ Own2 w.heap.size w' A') ∧ Below w.heap.size w w' := by
  have hlt : bsW fs nm < fs.length := by
    unfold bsF at hb
    exact (of_decide_eq_true hb).1
  have HF := Lib.hid (find_any A c fs nm w hA (by omega))
  rw [hb] at HF
  generalize bsW fs nm = p at *
  have hne : nm.isEmpty = false := by
    cases nm with
    | nil => exact absurd rfl h0
    | cons x l => rfl
  have k1 : decide ((nm.length : Int) > 100) = false := decide_eq_false (by omega)
  have hcl := hA.1
  have ht1 : (fs.take p).length = p := by rw [List.length_take]; omega
  have hdl : (fs.drop (p + 1)).length = fs.length - (p + 1) := List.length_drop
  have kw : IntKind.i64.wrap ((p : Int) + 1) = (p : Int) + 1 := IntWalk.i64_in _ (by omega)
  have HA1 := Lib.hid (hA.take p (by omega))
  have HA2 := Lib.hid (hA.drop (p + 1) (by omega))
  clear hA
  go_enter Tryz.func36, Tryz.ntmps36
  go_upto_region 9 with (go_at_call 46; refine HF.out.mono ?_; rintro e w1 ⟨rfl, hB⟩; have HB1 := Lib.hid hB; clear hB)
  clear HF
  refine wp_region_K (fun _ => True) 10 (by kernel_rfl) ?_
  change wpAnyK _ _ _ _ _ _ _ _ _ (World.drew w1)
  have HB2 := Lib.hid HB1.out.drew
  have HA12 := Lib.hid (HA1.out.later eltF HB2.out)
  have HA22 := Lib.hid (HA2.out.later eltF HB2.out)
  clear HB1 HA1 HA2
  generalize World.drew w1 = w2 at *
  have hS0 : True := trivial
  refine wpAnyK_take0 (i := 0) (oi := { dst := some 31, op := _, type := _, pos := _, after := _, guard := none }) (v := .slice A fs.length c) rfl (by kernel_rfl) (fun _ _ _ h => h) (Or.inl ⟨by rfl, fun W hW => ?_⟩) (fun _ => hS0) ?_
  · go_simp
  refine wpAnyK_take0 (i := 1) (oi := { dst := some 32, op := _, type := _, pos := _, after := _, guard := none }) (v := .int .i64 (p : Int)) rfl (by kernel_rfl) (fun _ _ _ h => h) (Or.inl ⟨by rfl, fun W hW => ?_⟩) (fun _ => hS0) ?_
  · go_simp
  try simp only [Act.put]
  try go_simp
  refine wpAnyK_take0 (i := 2) (oi := { dst := some 33, op := _, type := _, pos := _, after := _, guard := none }) (v := .slice A p c) rfl (by kernel_rfl) (fun _ _ _ h => h) (Or.inl ⟨by rfl, fun W hW => ?_⟩) (fun _ => hS0) ?_
  · go_simp
    intro h
    omega
  refine wpAnyK_take0 (i := 3) (oi := { dst := some 34, op := _, type := _, pos := _, after := _, guard := none }) (v := .string ⟨nm.toArray⟩) rfl (by kernel_rfl) (fun _ _ _ h => h) (Or.inl ⟨by rfl, fun W hW => ?_⟩) (fun _ => hS0) ?_
  · go_simp
  refine wpAnyK_take0 (i := 4) (oi := { dst := some 35, op := _, type := _, pos := _, after := _, guard := none }) (v := .string ⟨tx.toArray⟩) rfl (by kernel_rfl) (fun _ _ _ h => h) (Or.inl ⟨by rfl, fun W hW => ?_⟩) (fun _ => hS0) ?_
  · go_simp
  try simp only [Act.put]
  try go_simp
  refine wpAnyK_take0 (i := 5) (oi := { dst := some 36, op := _, type := _, pos := _, after := _, guard := none }) (v := .agg #[.string ⟨nm.toArray⟩, .string ⟨tx.toArray⟩]) rfl (by kernel_rfl) (fun _ _ _ h => h) (Or.inl ⟨by rfl, fun W hW => ?_⟩) (fun _ => hS0) ?_
  · go_simp
  try simp only [Act.put]
  try go_simp
  refine wpAnyK_take0 (i := 7) (oi := { dst := some 38, op := _, type := _, pos := _, after := _, guard := none }) (v := .slice A fs.length c) rfl (by kernel_rfl) (fun _ _ _ h => h) (Or.inl ⟨by rfl, fun W hW => ?_⟩) (fun _ => hS0) ?_
  · go_simp
  refine wpAnyK_take0 (i := 8) (oi := { dst := some 39, op := _, type := _, pos := _, after := _, guard := none }) (v := .int .i64 (((p + 1) : Nat) : Int)) rfl (by kernel_rfl) (fun _ _ _ h => h) (Or.inl ⟨by rfl, fun W hW => ?_⟩) (fun _ => hS0) ?_
  · go_simp
  try simp only [Act.put]
  try go_simp
  refine wpAnyK_take0 (i := 9) (oi := { dst := some 40, op := _, type := _, pos := _, after := _, guard := none }) (v := .slice (fromG A c (p + 1) 2) (fs.length - (p + 1)) (c - (p + 1))) rfl (by kernel_rfl) (fun _ _ _ h => h) (Or.inl ⟨by rfl, fun W hW => ?_⟩) (fun _ => hS0) ?_
  · go_simp
    rw [if_pos ⟨by omega, by omega⟩]
    rfl
  try simp only [Act.put]
  try go_simp
  refine wpAnyK_ready (rs := [6]) (by kernel_rfl) (by simp) ?_
  refine AllReadyK.cons (o := _) rfl (fun K hK => ?_) AllReadyK.nil
  rw [if_pos (by rfl)]
  go_simp
  have hb3 := (Below.refl w2.heap.size w2).alloc (Nat.le_refl _) (.cells #[.string ⟨nm.toArray⟩, .string ⟨tx.toArray⟩] 92)
  have HZ3 := Lib.hid (argG_one (enc := encF) (d := noF) (m := 2) (x := (nm, tx)) (Whole.made w2 92 #[.string ⟨nm.toArray⟩, .string ⟨tx.toArray⟩]))
  have HB3 := Lib.hid (HB2.out.trans (hb3.mono HB2.out.size))
  have HA13 := Lib.hid (HA12.out.later eltF hb3)
  have HA23 := Lib.hid (HA22.out.later eltF hb3)
  clear hb3 HB2 HA12 HA22
  refine hK _ _ (fun _ => trivial) ?_
  clear hK K
  generalize hw3 : w2.alloc (.cells #[.string ⟨nm.toArray⟩, .string ⟨tx.toArray⟩] 92) = w3 at *
  refine wpAnyK_ready (rs := [10]) (by kernel_rfl) (by simp) ?_
  refine AllReadyK.cons (o := _) rfl (fun K hK => ?_) AllReadyK.nil
  rw [if_pos (by rfl)]
  go_simp
  have hb4 := (Below.refl w3.heap.size w3).alloc (Nat.le_refl _) (.cells #[.slice A p c, .slice (some ⟨w2.heap.size, 0, none⟩) 1 1, .slice (fromG A c (p + 1) 2) (fs.length - (p + 1)) (c - (p + 1))] 69)
  have hz4 := Whole.made w3 69 #[.slice A p c, .slice (some ⟨w2.heap.size, 0, none⟩) 1 1, .slice (fromG A c (p + 1) 2) (fs.length - (p + 1)) (c - (p + 1))]
  have HC := Lib.hid (fcat_any w3.heap.size A c (fs.take p) (some ⟨w2.heap.size, 0, none⟩) 1 [(nm, tx)] (fromG A c (p + 1) 2) (c - (p + 1)) (fs.drop (p + 1)) (w3.alloc (.cells #[.slice A p c, .slice (some ⟨w2.heap.size, 0, none⟩) 1 1, .slice (fromG A c (p + 1) 2) (fs.length - (p + 1)) (c - (p + 1))] 69)) (by rw [ht1]; exact (hz4.at_ 0).trans rfl) ((hz4.at_ 1).trans rfl) (by rw [hdl]; exact (hz4.at_ 2).trans rfl) (HA13.out.later eltF hb4) (HZ3.out.later eltF hb4) (HA23.out.later eltF hb4) (by rw [ht1, hdl]; show p + 1 + _ ≤ _; omega))
  have HB4 := Lib.hid (HB3.out.trans (hb4.mono HB3.out.size))
  clear hz4 hb4 HA13 HA23 HZ3 HB3
  refine hK _ _ (fun h => by cases h) ?_
  clear hK K
  refine wpAnyK_ready (rs := [11]) (by kernel_rfl) (by simp) ?_
  refine AllReadyK.cons (o := _) rfl (fun K hK => ?_) AllReadyK.nil
  rw [if_pos (by rfl)]
  go_simp
  refine HC.out.mono ?_
  rintro e w5 ⟨⟨A3, c3, rfl, hA3, hlo3⟩, hb5⟩
  have HB5 := Lib.hid (HB4.out.trans (hb5.mono HB4.out.size))
  have HA3 := Lib.hid hA3
  have HLO3 : Hid (Own2 w.heap.size w5 A3) := ⟨fun j hj => Nat.le_trans HB4.out.size (hlo3.1 j hj), hlo3.2⟩
  clear hA3 hlo3 hb5 HB4 HC
  refine hK _ _ (fun h => by cases h) ?_
  clear hK K
  refine wpAnyK_ready (rs := [12]) (by kernel_rfl) (by simp) ?_
  refine AllReadyK.cons (o := _) rfl (fun K hK => ?_) AllReadyK.nil
  rw [if_pos (by rfl)]
  go_simp
  refine hK _ _ (fun h => by cases h) ?_
  clear hK K
  refine wpAnyK_ready (rs := [13]) (by kernel_rfl) (by simp) ?_
  refine AllReadyK.cons (o := _) rfl (fun K hK => ?_) AllReadyK.nil
  rw [if_pos (by rfl)]
  go_simp
  refine hK _ _ (fun h => by cases h) ?_
  clear hK K
  refine wpAnyK_done (by kernel_rfl) ?_ _
  try simp only [Act.put]
  try go_simp
  go_wp2
  have hlen : (fs.take p ++ [(nm, tx)] ++ fs.drop (p + 1)).length = p + (fs.length - (p + 1) + 1) := by simp only [List.length_append, ht1, hdl, List.length_singleton]; omega
  exact bodyPost_ret (results_tmp2 rfl _ _ _) rfl ⟨⟨A3, c3, by rw [hlen]; rfl, HA3.out, HLO3.out⟩, HB5.out⟩
set_option maxRecDepth 100000 in
theorem fwrite_new (A : Option Addr) (c : Nat) (fs : List Fl) (nm tx : List UInt8) (w : World) (hA : ArgG encF noF 2 w A c fs) (hn : fs.length ≤ 1000) (h0 : nm ≠ []) (hl : nm.length ≤ 100) (hb : bsF fs nm = false) (hf : fs.length < 100) :
    Calls Tryz.prog 36 #[.slice A fs.length c, .string ⟨nm.toArray⟩, .string ⟨tx.toArray⟩] w fun e w' => (∃ A' c', e = .returned (.tuple #[.slice A' (fs.take (bsW fs nm) ++ [(nm, tx)] ++ fs.drop (bsW fs nm)).length c', .int .i64 0]) ∧ ArgG encF noF 2 w' A' c' (fs.take (bsW fs nm) ++ [(nm, tx)] ++ fs.drop (bsW fs nm)) ∧ Own2 w.heap.size w' A') ∧ Below w.heap.size w w' := by
  have hlt : bsW fs nm ≤ fs.length := bsW_le fs nm
  have HF := Lib.hid (find_any A c fs nm w hA (by omega))
  rw [hb] at HF
  generalize bsW fs nm = p at *
  have hne : nm.isEmpty = false := by
    cases nm with
    | nil => exact absurd rfl h0
    | cons x l => rfl
  have k1 : decide ((nm.length : Int) > 100) = false := decide_eq_false (by omega)
  have hcl := hA.1
  have ht1 : (fs.take p).length = p := by rw [List.length_take]; omega
  have hdl : (fs.drop p).length = fs.length - p := List.length_drop
  have kw : IntKind.i64.wrap ((p : Int) + 1) = (p : Int) + 1 := IntWalk.i64_in _ (by omega)
  have k2 : decide ((fs.length : Int) ≥ 100) = false := decide_eq_false (by omega)
  have HA1 := Lib.hid (hA.take p (by omega))
  have HA2 := Lib.hid (hA.drop p (by omega))
  clear hA
  go_enter Tryz.func36, Tryz.ntmps36
  go_upto_region 9 with (go_at_call 46; refine HF.out.mono ?_; rintro e w1 ⟨rfl, hB⟩; have HB1 := Lib.hid hB; clear hB)
  clear HF
  refine wp_region_K (fun _ => True) 10 (by kernel_rfl) ?_
  change wpAnyK _ _ _ _ _ _ _ _ _ (World.drew w1)
  have HB2 := Lib.hid HB1.out.drew
  have HA12 := Lib.hid (HA1.out.later eltF HB2.out)
  have HA22 := Lib.hid (HA2.out.later eltF HB2.out)
  clear HB1 HA1 HA2
  generalize World.drew w1 = w2 at *
  have hS0 : True := trivial
  refine wpAnyK_take0 (i := 0) (oi := { dst := some 31, op := _, type := _, pos := _, after := _, guard := none }) (v := .slice A fs.length c) rfl (by kernel_rfl) (fun _ _ _ h => h) (Or.inl ⟨by rfl, fun W hW => ?_⟩) (fun _ => hS0) ?_
  · go_simp
  refine wpAnyK_take0 (i := 1) (oi := { dst := some 32, op := _, type := _, pos := _, after := _, guard := none }) (v := .int .i64 (p : Int)) rfl (by kernel_rfl) (fun _ _ _ h => h) (Or.inl ⟨by rfl, fun W hW => ?_⟩) (fun _ => hS0) ?_
  · go_simp
  try simp only [Act.put]
  try go_simp
  refine wpAnyK_take0 (i := 2) (oi := { dst := some 33, op := _, type := _, pos := _, after := _, guard := none }) (v := .slice A p c) rfl (by kernel_rfl) (fun _ _ _ h => h) (Or.inl ⟨by rfl, fun W hW => ?_⟩) (fun _ => hS0) ?_
  · go_simp
    intro h
    omega
  refine wpAnyK_take0 (i := 3) (oi := { dst := some 34, op := _, type := _, pos := _, after := _, guard := none }) (v := .string ⟨nm.toArray⟩) rfl (by kernel_rfl) (fun _ _ _ h => h) (Or.inl ⟨by rfl, fun W hW => ?_⟩) (fun _ => hS0) ?_
  · go_simp
  refine wpAnyK_take0 (i := 4) (oi := { dst := some 35, op := _, type := _, pos := _, after := _, guard := none }) (v := .string ⟨tx.toArray⟩) rfl (by kernel_rfl) (fun _ _ _ h => h) (Or.inl ⟨by rfl, fun W hW => ?_⟩) (fun _ => hS0) ?_
  · go_simp
  try simp only [Act.put]
  try go_simp
  refine wpAnyK_take0 (i := 5) (oi := { dst := some 36, op := _, type := _, pos := _, after := _, guard := none }) (v := .agg #[.string ⟨nm.toArray⟩, .string ⟨tx.toArray⟩]) rfl (by kernel_rfl) (fun _ _ _ h => h) (Or.inl ⟨by rfl, fun W hW => ?_⟩) (fun _ => hS0) ?_
  · go_simp
  try simp only [Act.put]
  try go_simp
  refine wpAnyK_take0 (i := 7) (oi := { dst := some 38, op := _, type := _, pos := _, after := _, guard := none }) (v := .slice A fs.length c) rfl (by kernel_rfl) (fun _ _ _ h => h) (Or.inl ⟨by rfl, fun W hW => ?_⟩) (fun _ => hS0) ?_
  · go_simp
  refine wpAnyK_take0 (i := 8) (oi := { dst := some 39, op := _, type := _, pos := _, after := _, guard := none }) (v := .int .i64 ((p : Nat) : Int)) rfl (by kernel_rfl) (fun _ _ _ h => h) (Or.inl ⟨by rfl, fun W hW => ?_⟩) (fun _ => hS0) ?_
  · go_simp
  try simp only [Act.put]
  try go_simp
  refine wpAnyK_take0 (i := 9) (oi := { dst := some 40, op := _, type := _, pos := _, after := _, guard := none }) (v := .slice (fromG A c p 2) (fs.length - p) (c - p)) rfl (by kernel_rfl) (fun _ _ _ h => h) (Or.inl ⟨by rfl, fun W hW => ?_⟩) (fun _ => hS0) ?_
  · go_simp
    rfl
  try simp only [Act.put]
  try go_simp
  refine wpAnyK_ready (rs := [6]) (by kernel_rfl) (by simp) ?_
  refine AllReadyK.cons (o := _) rfl (fun K hK => ?_) AllReadyK.nil
  rw [if_pos (by rfl)]
  go_simp
  have hb3 := (Below.refl w2.heap.size w2).alloc (Nat.le_refl _) (.cells #[.string ⟨nm.toArray⟩, .string ⟨tx.toArray⟩] 92)
  have HZ3 := Lib.hid (argG_one (enc := encF) (d := noF) (m := 2) (x := (nm, tx)) (Whole.made w2 92 #[.string ⟨nm.toArray⟩, .string ⟨tx.toArray⟩]))
  have HB3 := Lib.hid (HB2.out.trans (hb3.mono HB2.out.size))
  have HA13 := Lib.hid (HA12.out.later eltF hb3)
  have HA23 := Lib.hid (HA22.out.later eltF hb3)
  clear hb3 HB2 HA12 HA22
  refine hK _ _ (fun _ => trivial) ?_
  clear hK K
  generalize hw3 : w2.alloc (.cells #[.string ⟨nm.toArray⟩, .string ⟨tx.toArray⟩] 92) = w3 at *
  refine wpAnyK_ready (rs := [10]) (by kernel_rfl) (by simp) ?_
  refine AllReadyK.cons (o := _) rfl (fun K hK => ?_) AllReadyK.nil
  rw [if_pos (by rfl)]
  go_simp
  have hb4 := (Below.refl w3.heap.size w3).alloc (Nat.le_refl _) (.cells #[.slice A p c, .slice (some ⟨w2.heap.size, 0, none⟩) 1 1, .slice (fromG A c p 2) (fs.length - p) (c - p)] 69)
  have hz4 := Whole.made w3 69 #[.slice A p c, .slice (some ⟨w2.heap.size, 0, none⟩) 1 1, .slice (fromG A c p 2) (fs.length - p) (c - p)]
  have HC := Lib.hid (fcat_any w3.heap.size A c (fs.take p) (some ⟨w2.heap.size, 0, none⟩) 1 [(nm, tx)] (fromG A c p 2) (c - p) (fs.drop p) (w3.alloc (.cells #[.slice A p c, .slice (some ⟨w2.heap.size, 0, none⟩) 1 1, .slice (fromG A c p 2) (fs.length - p) (c - p)] 69)) (by rw [ht1]; exact (hz4.at_ 0).trans rfl) ((hz4.at_ 1).trans rfl) (by rw [hdl]; exact (hz4.at_ 2).trans rfl) (HA13.out.later eltF hb4) (HZ3.out.later eltF hb4) (HA23.out.later eltF hb4) (by rw [ht1, hdl]; show p + 1 + _ ≤ _; omega))
  have HB4 := Lib.hid (HB3.out.trans (hb4.mono HB3.out.size))
  clear hz4 hb4 HA13 HA23 HZ3 HB3
  refine hK _ _ (fun h => by cases h) ?_
  clear hK K
  refine wpAnyK_ready (rs := [11]) (by kernel_rfl) (by simp) ?_
  refine AllReadyK.cons (o := _) rfl (fun K hK => ?_) AllReadyK.nil
  rw [if_pos (by rfl)]
  go_simp
  refine HC.out.mono ?_
  rintro e w5 ⟨⟨A3, c3, rfl, hA3, hlo3⟩, hb5⟩
  have HB5 := Lib.hid (HB4.out.trans (hb5.mono HB4.out.size))
  have HA3 := Lib.hid hA3
  have HLO3 : Hid (Own2 w.heap.size w5 A3) := ⟨fun j hj => Nat.le_trans HB4.out.size (hlo3.1 j hj), hlo3.2⟩
  clear hA3 hlo3 hb5 HB4 HC
  refine hK _ _ (fun h => by cases h) ?_
  clear hK K
  refine wpAnyK_ready (rs := [12]) (by kernel_rfl) (by simp) ?_
  refine AllReadyK.cons (o := _) rfl (fun K hK => ?_) AllReadyK.nil
  rw [if_pos (by rfl)]
  go_simp
  refine hK _ _ (fun h => by cases h) ?_
  clear hK K
  refine wpAnyK_ready (rs := [13]) (by kernel_rfl) (by simp) ?_
  refine AllReadyK.cons (o := _) rfl (fun K hK => ?_) AllReadyK.nil
  rw [if_pos (by rfl)]
  go_simp
  refine hK _ _ (fun h => by cases h) ?_
  clear hK K
  refine wpAnyK_done (by kernel_rfl) ?_ _
  try simp only [Act.put]
  try go_simp
  go_wp2
  have hlen : (fs.take p ++ [(nm, tx)] ++ fs.drop p).length = p + (fs.length - p + 1) := by simp only [List.length_append, ht1, hdl, List.length_singleton]; omega
  exact bodyPost_ret (results_tmp2 rfl _ _ _) rfl ⟨⟨A3, c3, by rw [hlen]; rfl, HA3.out, HLO3.out⟩, HB5.out⟩
end Go.Proofs.YtjoinnjhpfakpaaGreatDoor
namespace Go.Proofs.YtjoinnjhpfakpaaGreatDoor
open Go.RowKit

def wrF (fs : List Fl) (nm tx : List UInt8) : Nat × List Fl :=
  if nm = [] ∨ 100 < nm.length then (1, [])
  else if bsF fs nm = true then (0, fs.take (bsW fs nm) ++ [(nm, tx)] ++ fs.drop (bsW fs nm + 1))
  else if 100 ≤ fs.length then (5, []) else (0, fs.take (bsW fs nm) ++ [(nm, tx)] ++ fs.drop (bsW fs nm))
def rmF (fs : List Fl) (nm : List UInt8) : Nat × List Fl :=
  if bsF fs nm = true then (0, fs.take (bsW fs nm) ++ fs.drop (bsW fs nm + 1)) else (4, [])
/-- A list of files told with an error's number: its own row. -/
def ToldF (r : Nat × List Fl) (B : Nat) (e : Ending) (w : World) : Prop :=
  ∃ A c, e = .returned (.tuple #[.slice A r.2.length c, .int .i64 (r.1 : Int)]) ∧ ArgG encF noF 2 w A c r.2 ∧ Own2 B w A
theorem toldF_no {B k : Nat} {w : World} : ToldF (k, []) B (.returned (.tuple #[.slice none 0 0, .int .i64 (k : Int)])) w :=
  ⟨none, 0, rfl, argG_nil w, Own2.nil B w⟩
theorem fwrite_any (A : Option Addr) (c : Nat) (fs : List Fl) (nm tx : List UInt8) (w : World) (hA : ArgG encF noF 2 w A c fs) (hn : fs.length ≤ 1000) (hl : nm.length < 2 ^ 63) :
    Calls Tryz.prog 36 #[.slice A fs.length c, .string ⟨nm.toArray⟩, .string ⟨tx.toArray⟩] w fun e w' => ToldF (wrF fs nm tx) w.heap.size e w' ∧ Below w.heap.size w w' := by
  unfold wrF
  split
  · next h =>
    refine (fwrite_form A c fs nm tx w h hl).mono ?_
    rintro e w' ⟨rfl, hb⟩
    exact ⟨toldF_no, hb⟩
  · next h =>
    have h0 : nm ≠ [] := fun e => h (.inl e)
    have h1 : nm.length ≤ 100 := Nat.le_of_not_lt fun e => h (.inr e)
    split
    · next hb => exact fwrite_over A c fs nm tx w hA hn h0 h1 hb
    · next hb =>
      have hb : bsF fs nm = false := by simpa using hb
      split
      · next hf =>
        refine (fwrite_full A c fs nm tx w hA (by omega) h0 h1 hb hf).mono ?_
        rintro e w' ⟨rfl, hb⟩
        exact ⟨toldF_no, hb⟩
      · next hf => exact fwrite_new A c fs nm tx w hA hn h0 h1 hb (by omega)
theorem fremove_all (A : Option Addr) (c : Nat) (fs : List Fl) (nm : List UInt8) (w : World) (hA : ArgG encF noF 2 w A c fs) (hn : fs.length ≤ 1000) :
    Calls Tryz.prog 43 #[.slice A fs.length c, .string ⟨nm.toArray⟩] w fun e w' => ToldF (rmF fs nm) w.heap.size e w' ∧ Below w.heap.size w w' := by
  unfold rmF
  split
  · next hb => exact fremove_any A c fs nm w hA (by omega) hb
  · next hb =>
    refine (fremove_none A c fs nm w hA (by omega) (by simpa using hb)).mono ?_
    rintro e w' ⟨rfl, hb⟩
    exact ⟨toldF_no, hb⟩
end Go.Proofs.YtjoinnjhpfakpaaGreatDoor
namespace Go.Proofs.YtjoinnjhpfakpaaGreatDoor
open Go.RowKit

def mvF (fs : List Fl) (a b : List UInt8) : Nat × List Fl :=
  if bsF fs a = true then wrF (rmF fs a).2 b (fs.getD (bsW fs a) noF).2 else (4, [])
theorem fmove_any (A : Option Addr) (c : Nat) (fs : List Fl) (a b : List UInt8) (w : World) (hA : ArgG encF noF 2 w A c fs) (hn : fs.length ≤ 1000) (hl : b.length < 2 ^ 63) :
    Calls Tryz.prog 41 #[.slice A fs.length c, .string ⟨a.toArray⟩, .string ⟨b.toArray⟩] w fun e w' => ToldF (mvF fs a b) w.heap.size e w' ∧ Below w.heap.size w w' := by
  unfold mvF
  split
  · next hb =>
    have hlt : bsW fs a < fs.length := by
      unfold bsF at hb
      exact (of_decide_eq_true hb).1
    have HR := Lib.hid (fremove_any A c fs a w hA (by omega) hb)
    have hrm : (rmF fs a).2 = fs.take (bsW fs a) ++ fs.drop (bsW fs a + 1) := by simp only [rmF, if_pos hb]
    rw [hrm]
    have HL : Hid ((fs.take (bsW fs a) ++ fs.drop (bsW fs a + 1)).length ≤ 1000) := by show _ ≤ _; rw [List.length_append, List.length_take, List.length_drop]; omega
    obtain ⟨bb, o, rfl, -⟩ := hA.2.2.2 (by omega)
    have HA := Lib.hid hA
    have HBF := Lib.hid hb
    clear hA hb hrm
    generalize htx : (fs.getD (bsW fs a) noF).2 = tx at *
    generalize hrs : fs.take (bsW fs a) ++ fs.drop (bsW fs a + 1) = rs at *
    go_enter Tryz.func41, Tryz.ntmps41
    go_wp2_with fail
    refine HR.out.mono ?_
    rintro e w1 ⟨⟨A1, c1, rfl, hA1, hO1⟩, hB1⟩
    have HA1 := Lib.hid hA1
    have HB1 := Lib.hid hB1
    have HF := Lib.hid (find_any _ c fs a w1 (HA.out.later eltF hB1) (by omega))
    rw [HBF.out] at HF
    clear hA1 hO1 hB1 HR
    go_wp2_with fail
    refine HF.out.mono ?_
    rintro e w2 ⟨rfl, hB2⟩
    have HA2 := Lib.hid (HA1.out.later eltF hB2)
    have HB2 := Lib.hid (HB1.out.trans (hB2.mono HB1.out.size))
    have hc : w2.cell? ⟨bb, o + bsW fs a * 2 + 1, none⟩ = some (.string ⟨tx.toArray⟩) := by
      obtain ⟨b2, o2, he, hr⟩ := (HA.out.later eltF HB2.out).2.2.2 (by omega)
      injection he with he
      injection he with e1 e2 e3
      subst e1
      subst e2
      subst htx
      exact hr (bsW fs a) hlt 1 _ rfl
    clear hB2 HF HA1 HB1
    go_wp2_with fail
    refine (fwrite_any A1 c1 rs b tx w2 HA2.out HL.out hl).mono ?_
    rintro e w3 ⟨⟨A4, c4, rfl, hA4, hO4⟩, hB3⟩
    have HA4 := Lib.hid hA4
    have HO4 : Hid (Own2 w.heap.size w3 A4) := ⟨fun j hj => Nat.le_trans HB2.out.size (hO4.1 j hj), hO4.2⟩
    have HB3 := Lib.hid (HB2.out.trans (hB3.mono HB2.out.size))
    clear hA4 hO4 hB3
    go_wp2
    exact bodyPost_ret (results_tmp2 rfl _ _ _) rfl ⟨⟨A4, c4, rfl, HA4.out, HO4.out⟩, HB3.out⟩
  · next hb =>
    have HR := Lib.hid (fremove_none A c fs a w hA (by omega) (by simpa using hb))
    clear hA
    go_enter Tryz.func41, Tryz.ntmps41
    go_wp2_with (go_at_call 43; refine HR.out.mono ?_; rintro e w1 ⟨rfl, hB⟩)
    exact bodyPost_ret (results_tmp2 rfl _ _ _) rfl ⟨toldF_no, hB⟩
end Go.Proofs.YtjoinnjhpfakpaaGreatDoor
namespace Go.Proofs.YtjoinnjhpfakpaaGreatDoor
open Go.RowKit

theorem write1_any (A : Option Addr) (c : Nat) (fs : List Fl) (a b : List UInt8) (g1 g2 : Nat) (w : World) (hA : ArgG encF noF 2 w A c fs) (hn : fs.length ≤ 1000) (hl : a.length < 2 ^ 63) (h1 : w.cell? ⟨g1, 0, none⟩ = some (.string ⟨a.toArray⟩)) (h2 : w.cell? ⟨g2, 0, none⟩ = some (.string ⟨b.toArray⟩)) :
    Calls Tryz.prog 35 #[.slice A fs.length c, .pointer (some ⟨g1, 0, none⟩), .pointer (some ⟨g2, 0, none⟩)] w fun e w' => ToldF (wrF fs a b) w.heap.size e w' ∧ Below w.heap.size w w' := by
  have HW := Lib.hid (fwrite_any A c fs a b w hA hn hl)
  clear hA
  go_enter Tryz.func35, Tryz.ntmps35
  go_wp2_with (go_at_call 36; refine HW.out.mono ?_; rintro e w1 ⟨⟨A1, c1, rfl, hA1, hO1⟩, hB1⟩; have HT := Lib.hid hA1; have HO := Lib.hid hO1; have HB := Lib.hid hB1; clear hA1 hO1 hB1)
  exact bodyPost_ret (results_tmp2 rfl _ _ _) rfl ⟨⟨A1, c1, rfl, HT.out, HO.out⟩, HB.out⟩
theorem move1_any (A : Option Addr) (c : Nat) (fs : List Fl) (a b : List UInt8) (g1 g2 : Nat) (w : World) (hA : ArgG encF noF 2 w A c fs) (hn : fs.length ≤ 1000) (hl : b.length < 2 ^ 63) (h1 : w.cell? ⟨g1, 0, none⟩ = some (.string ⟨a.toArray⟩)) (h2 : w.cell? ⟨g2, 0, none⟩ = some (.string ⟨b.toArray⟩)) :
    Calls Tryz.prog 40 #[.slice A fs.length c, .pointer (some ⟨g1, 0, none⟩), .pointer (some ⟨g2, 0, none⟩)] w fun e w' => ToldF (mvF fs a b) w.heap.size e w' ∧ Below w.heap.size w w' := by
  have HW := Lib.hid (fmove_any A c fs a b w hA hn hl)
  clear hA
  go_enter Tryz.func40, Tryz.ntmps40
  go_wp2_with (go_at_call 41; refine HW.out.mono ?_; rintro e w1 ⟨⟨A1, c1, rfl, hA1, hO1⟩, hB1⟩; have HT := Lib.hid hA1; have HO := Lib.hid hO1; have HB := Lib.hid hB1; clear hA1 hO1 hB1)
  exact bodyPost_ret (results_tmp2 rfl _ _ _) rfl ⟨⟨A1, c1, rfl, HT.out, HO.out⟩, HB.out⟩
theorem remove1_any (A : Option Addr) (c : Nat) (fs : List Fl) (a : List UInt8) (g1 : Nat) (w : World) (hA : ArgG encF noF 2 w A c fs) (hn : fs.length ≤ 1000) (h1 : w.cell? ⟨g1, 0, none⟩ = some (.string ⟨a.toArray⟩)) :
    Calls Tryz.prog 42 #[.slice A fs.length c, .pointer (some ⟨g1, 0, none⟩)] w fun e w' => ToldF (rmF fs a) w.heap.size e w' ∧ Below w.heap.size w w' := by
  have HW := Lib.hid (fremove_all A c fs a w hA hn)
  clear hA
  go_enter Tryz.func42, Tryz.ntmps42
  go_wp2_with (go_at_call 43; refine HW.out.mono ?_; rintro e w1 ⟨⟨A1, c1, rfl, hA1, hO1⟩, hB1⟩; have HT := Lib.hid hA1; have HO := Lib.hid hO1; have HB := Lib.hid hB1; clear hA1 hO1 hB1)
  exact bodyPost_ret (results_tmp2 rfl _ _ _) rfl ⟨⟨A1, c1, rfl, HT.out, HO.out⟩, HB.out⟩
theorem sync1_any (A : Option Addr) (c n : Nat) (w : World) :
    Calls Tryz.prog 44 #[.slice A n c] w fun e w' => e = .returned (.tuple #[.slice A n c, .int .i64 0]) ∧ w = w' := by
  go_enter Tryz.func44, Tryz.ntmps44
  go_wp2
  exact bodyPost_ret (results_tmp2 rfl _ _ _) rfl ⟨rfl, rfl⟩
end Go.Proofs.YtjoinnjhpfakpaaGreatDoor
namespace Go.Proofs.YtjoinnjhpfakpaaGreatDoor
open Go.RowKit

/-- A disk's seven cells: two lists, the changes, what was done, the fuse, down. -/
def DkW (w : World) (b : Nat) (n s c : Value) (o : Int) (f : Bool) (l : Int) (d : Bool) : Prop :=
  Whole w b 72 #[n, s, c, .int .i64 o, .bool f, .int .i64 l, .bool d]
theorem burn_free (b : Nat) (n s c : Value) (o l : Int) (d : Bool) (w : World) (h : DkW w b n s c o false l d) (ho : 0 ≤ o ∧ o < 2 ^ 62) :
    Calls Tryz.prog 60 #[.pointer (some ⟨b, 0, none⟩)] w fun e w' => e = .returned (.bool true) ∧ DkW w' b n s c (o + 1) false l d ∧ w.grownBy w' (some b) := by
  have hc3 : w.cell? ⟨b, 3, none⟩ = some (.int .i64 o) := (Whole.at_ h 3).trans rfl
  have hc4 : w.cell? ⟨b, 4, none⟩ = some (.bool false) := (Whole.at_ h 4).trans rfl
  have hz3 := Whole.thawed h 3
  have kw : IntKind.i64.wrap (o + 1) = o + 1 := IntWalk.i64_in _ (by omega)
  have H := Lib.hid h
  clear h
  go_enter Tryz.func60, Tryz.ntmps60
  go_wp2
  go_ret
  exact ⟨rfl, Whole.put H.out 3 _, gr_set (gr_refl _ _) (.inl rfl) _⟩
theorem burn_out (b : Nat) (n s c : Value) (o : Int) (d : Bool) (w : World) (h : DkW w b n s c o true 0 d) :
    Calls Tryz.prog 60 #[.pointer (some ⟨b, 0, none⟩)] w fun e w' => e = .returned (.bool false) ∧ DkW w' b n s c o true 0 true ∧ w.grownBy w' (some b) := by
  have hc4 : w.cell? ⟨b, 4, none⟩ = some (.bool true) := (Whole.at_ h 4).trans rfl
  have hc5 : w.cell? ⟨b, 5, none⟩ = some (.int .i64 0) := (Whole.at_ h 5).trans rfl
  have hc6 : w.cell? ⟨b, 6, none⟩ = some (.bool d) := (Whole.at_ h 6).trans rfl
  have hz6 := Whole.thawed h 6
  have H := Lib.hid h
  clear h
  go_enter Tryz.func60, Tryz.ntmps60
  go_wp2
  go_ret
  exact ⟨rfl, Whole.put H.out 6 _, gr_set (gr_refl _ _) (.inl rfl) _⟩
theorem burn_more (b : Nat) (n s c : Value) (o l : Int) (d : Bool) (w : World) (h : DkW w b n s c o true l d) (ho : 0 ≤ o ∧ o < 2 ^ 62) (hl : 0 < l ∧ l < 2 ^ 63) :
    Calls Tryz.prog 60 #[.pointer (some ⟨b, 0, none⟩)] w fun e w' => e = .returned (.bool true) ∧ DkW w' b n s c (o + 1) true (l - 1) d ∧ w.grownBy w' (some b) := by
  have hc3 : w.cell? ⟨b, 3, none⟩ = some (.int .i64 o) := (Whole.at_ h 3).trans rfl
  have hc4 : w.cell? ⟨b, 4, none⟩ = some (.bool true) := (Whole.at_ h 4).trans rfl
  have hc5 : w.cell? ⟨b, 5, none⟩ = some (.int .i64 l) := (Whole.at_ h 5).trans rfl
  have hz3 := Whole.thawed h 3
  have hz5 := Whole.thawed h 5
  have k0 : (l == 0) = false := beq_eq_false_iff_ne.2 (by omega)
  have kw : IntKind.i64.wrap (o + 1) = o + 1 := IntWalk.i64_in _ (by omega)
  have kl : IntKind.i64.wrap (l - 1) = l - 1 := IntWalk.i64_in _ (by omega)
  have H := Lib.hid h
  clear h
  go_enter Tryz.func60, Tryz.ntmps60
  go_wp2
  go_ret
  have h5 : DkW (w.setCell ⟨b, 5, none⟩ (.int .i64 (l - 1))) b n s c o true (l - 1) d := Whole.put H.out 5 _
  have g5 : w.grownBy (w.setCell ⟨b, 5, none⟩ (.int .i64 (l - 1))) (some b) := gr_set (gr_refl _ _) (.inl rfl) _
  exact ⟨rfl, Whole.put h5 3 _, gr_set g5 (.inl rfl) _⟩
end Go.Proofs.YtjoinnjhpfakpaaGreatDoor
namespace Go.Proofs.YtjoinnjhpfakpaaGreatDoor
open Go.RowKit

theorem ddown_any (b : Nat) (n s c : Value) (o l : Int) (f d : Bool) (w : World) (h : DkW w b n s c o f l d) :
    Calls Tryz.prog 25 #[.pointer (some ⟨b, 0, none⟩)] w fun e w' => e = .returned (.bool d) ∧ w = w' := by
  have hc6 : w.cell? ⟨b, 6, none⟩ = some (.bool d) := (Whole.at_ h 6).trans rfl
  clear h
  go_enter Tryz.func25, Tryz.ntmps25
  cases d with
  | false =>
    go_wp2
    go_ret
    exact ⟨rfl, rfl⟩
  | true =>
    go_wp2
    go_ret
    exact ⟨rfl, rfl⟩
theorem ddown_nil (w : World) : Calls Tryz.prog 25 #[.pointer none] w fun e w' => e = .returned (.bool true) ∧ w = w' := by
  go_enter Tryz.func25, Tryz.ntmps25
  go_wp2
  go_ret
  exact ⟨rfl, rfl⟩
theorem dops_any (b : Nat) (n s c : Value) (o l : Int) (f d : Bool) (w : World) (h : DkW w b n s c o f l d) :
    Calls Tryz.prog 26 #[.pointer (some ⟨b, 0, none⟩)] w fun e w' => e = .returned (.int .i64 o) ∧ w = w' := by
  have hc3 : w.cell? ⟨b, 3, none⟩ = some (.int .i64 o) := (Whole.at_ h 3).trans rfl
  clear h
  go_enter Tryz.func26, Tryz.ntmps26
  go_wp2
  go_ret
  exact ⟨rfl, rfl⟩
theorem clip_any (A : Option Addr) (n c : Nat) (w : World) (hn : n ≤ c) :
    Calls Tryz.prog 61 #[.slice A n c] w fun e w' => e = .returned (.slice A n n) ∧ w = w' := by
  go_enter Tryz.func61, Tryz.ntmps61
  go_wp2
  go_ret
  exact ⟨rfl, rfl⟩
theorem fuse_any (b : Nat) (n s c : Value) (o l k : Int) (f : Bool) (w : World) (h : DkW w b n s c o f l false) :
    Calls Tryz.prog 17 #[.pointer (some ⟨b, 0, none⟩), .int .i64 k] w fun e w' => e = .returned (.tuple #[]) ∧ DkW w' b n s c o (decide (k ≥ 0)) k false ∧ w.grownBy w' (some b) := by
  have hc4 : w.cell? ⟨b, 4, none⟩ = some (.bool f) := (Whole.at_ h 4).trans rfl
  have hc5 : w.cell? ⟨b, 5, none⟩ = some (.int .i64 l) := (Whole.at_ h 5).trans rfl
  have hz4 := Whole.thawed h 4
  have hz5 := Whole.thawed h 5
  have HD := Lib.hid (ddown_any b n s c o l f false w h)
  have H := Lib.hid h
  clear h
  go_enter Tryz.func17, Tryz.ntmps17
  go_wp2_with (go_at_call 25; refine HD.out.mono ?_; rintro e w1 ⟨rfl, rfl⟩)
  have h4 : DkW (w.setCell ⟨b, 4, none⟩ (.bool (decide (0 ≤ k)))) b n s c o (decide (0 ≤ k)) l false := Whole.put H.out 4 _
  have g4 : w.grownBy (w.setCell ⟨b, 4, none⟩ (.bool (decide (0 ≤ k)))) (some b) := gr_set (gr_refl _ _) (.inl rfl) _
  have h5 : DkW ((w.setCell ⟨b, 4, none⟩ (.bool (decide (0 ≤ k)))).setCell ⟨b, 5, none⟩ (.int .i64 k)) b n s c o (decide (0 ≤ k)) k false := Whole.put h4 5 _
  have g5 : w.grownBy ((w.setCell ⟨b, 4, none⟩ (.bool (decide (0 ≤ k)))).setCell ⟨b, 5, none⟩ (.int .i64 k)) (some b) := gr_set g4 (.inl rfl) _
  exact bodyPost_end (v := .tuple #[]) (by simp [results, show Tryz.func17.results = #[] from rfl]) rfl ⟨rfl, h5, g5⟩
end Go.Proofs.YtjoinnjhpfakpaaGreatDoor

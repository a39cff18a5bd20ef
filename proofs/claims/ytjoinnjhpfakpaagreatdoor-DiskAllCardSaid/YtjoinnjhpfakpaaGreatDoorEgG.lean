/-
  A closed run, reckoned: hooks: hashes.
  A closed run, reckoned: hooks: strings.Builder's copyCheck, guard.Do.
  A closed run, reckoned: the package's variables as memory; what a closed run tells.
  A closed run, reckoned: a hook: names of what is encoded.
-/
import Derived.Test.YtjoinnjhpfakpaaGreatDoorEgF
import Derived.Test.YtjoinnjhpfakpaaGreatDoorMhc
import Derived.Test.YtjoinnjhpfakpaaGreatDoorRefU
import Derived.Test.YtjoinnjhpfakpaaGreatDoorCck
import Derived.Test.YtjoinnjhpfakpaaGreatDoorMha
import Derived.Test.YtjoinnjhpfakpaaGreatDoorOfW
namespace Go.Proofs.YtjoinnjhpfakpaaGreatDoor
namespace Eng
open Go.RowKit

noncomputable def fL {α : Type} (l : List V) : (List V → α) → α := List.rec (fun k => k []) (fun v _ ih k => fV v fun v => ih fun vs => k (v :: vs)) l
theorem fL_eq {α : Type} : ∀ (l : List V) (k : List V → α), fL l k = k l
  | [], _ => rfl
  | v :: l, k => by
    show fV v (fun v => fL l fun vs => k (v :: vs)) = _
    rw [fV_eq, fL_eq l]
def bytesX : List V → Option (List UInt8)
  | [] => some []
  | .i .u8 (.ofNat n) :: l => (match Nat.blt n 256, bytesX l with | true, some r => some (UInt8.ofNat n :: r) | _, _ => none)
  | _ => none
theorem bytesX_ok {j : J} : ∀ {r : List V} {l : List UInt8} {ys : List Value}, bytesX r = some l → VRs j r ys → ys = l.map Y
  | [], l, ys, h, hr => by
    injection h with h
    subst h
    simpa only [VRs, List.map_nil] using hr
  | v :: r, l, ys, h, hr => by
    unfold bytesX at h
    split at h
    · rename_i h'; cases h'
    · rename_i n l' hv
      injection hv with h1 h2
      subst h1; subst h2
      split at h
      · rename_i q hn hq
        rw [Nat.blt_eq] at hn
        injection h with h
        subst h
        simp only [VRs, VR] at hr
        obtain ⟨_, zs, rfl, h2, rfl⟩ := hr
        rw [bytesX_ok hq h2, List.map_cons]
        congr 1
        have : (UInt8.ofNat n).toNat = n := by simp; omega
        simp [Y, this]
      · cases h
    · cases h
/-- The bytes of a slice, if one can tell that it is one. -/
noncomputable def bytesB (M : H) (v : V) : Option (List UInt8) :=
  match v with
  | .sl none _ _ => some []
  | .sl (some q) n (.x c) => (match Nat.ble n c, Nat.ble c 9223372036854775807, aload M q.1 q.2 n with | true, true, some r => bytesX r | _, _, _ => none)
  | .sl (some q) n (.u _) => (match aload M q.1 q.2 n with | some r => bytesX r | none => none)
  | _ => none
section
variable {P : Program} {G base n n' : Nat} {j j' : J} {M M' : H} {w w' : World}
theorem bytesB_ok {v : V} {y : Value} {l : List UInt8} (h : bytesB M v = some l) (hr : Rel G base j M w) (hv : VR j v y) : Bytes w y l := by
  have row : ∀ {q : Nat × Nat} {n c : Nat} {r : List V} {lc : Loc}, j q.1 = some lc → aload M q.1 q.2 n = some r → bytesX r = some l → n ≤ c → c ≤ maxLen → Bytes w (.slice (some ⟨lc.g, lc.d + q.2, none⟩) n c) l := fun hl ha hb hc hm => by
    obtain ⟨lc', k1, ys, k2, k3, k4⟩ := aload_at hr ha
    rw [hl] at k1
    injection k1 with k1
    subst k1
    have := bytesX_ok hb k3
    subst this
    rw [List.length_map] at k2
    subst k2
    refine ⟨_, _, rfl, hc, hm, fun _ => ⟨_, _, rfl, fun i hi => k4 i _ ?_⟩⟩
    rw [List.getElem?_map, List.getElem?_eq_getElem hi]
    simp [List.getD, List.getElem?_eq_getElem hi]
  unfold bytesB at h
  split at h
  · injection h with h
    subst h
    simp only [VR] at hv
    subst hv
    exact ⟨none, 0, rfl, Nat.le_refl _, by unfold maxLen; omega, fun q => by cases q⟩
  · split at h
    · rename_i r h1 h2 ha
      simp only [VR] at hv
      obtain ⟨lc, hl, rfl⟩ := hv
      exact row hl ha h (Nat.le_of_ble_eq_true h1) (by have := Nat.le_of_ble_eq_true h2; unfold maxLen; omega)
    · cases h
  · split at h
    · rename_i r ha
      simp only [VR] at hv
      obtain ⟨lc, c, hl, rfl, h1, _, h2⟩ := hv
      exact row hl ha h h1 (by unfold maxLen; omega)
    · cases h
  · cases h
def sameU : List V → List Nat → Bool
  | [], [] => true
  | .i .u32 (.ofNat a) :: l, b :: bs => (match Nat.beq a b with | true => sameU l bs | false => false)
  | _, _ => false
theorem sameU_at : ∀ {l : List V} {bs : List Nat}, sameU l bs = true → l = bs.map fun b => V.i .u32 (Int.ofNat b)
  | [], [], _ => rfl
  | [], _ :: _, h => by cases h
  | v :: l, bs, h => by
    unfold sameU at h
    split at h
    · exact absurd ‹v :: l = []› (by simp)
    · rename_i a l' b bs' hv
      injection hv with e1 e2
      subst e1; subst e2
      split at h
      · rename_i hq
        have hq := Nat.eq_of_beq_eq_true hq
        subst hq
        rw [sameU_at h, List.map_cons]
      · cases h
    · cases h
def startL : List Nat := [0x6a09e667, 0xbb67ae85, 0x3c6ef372, 0xa54ff53a, 0x510e527f, 0x9b05688c, 0x1f83d9ab, 0x5be0cd19]
/-- Memory has the tables of the hash. -/
noncomputable def tabsA (M : H) : Bool :=
  match M.get 1, M.get 2 with
  | some (.c a _ _), some (.c b _ _) => (match sameU a startL with | true => sameU b ShaM.kk | false => false)
  | _, _ => false
theorem start_at : ∀ i, i < 8 → startL[i]? = some (ShaM.H0.at i).toNat := by decide +kernel
theorem roots_at : ∀ i, i < 64 → ShaM.kk[i]? = some (ShaM.K i).toNat := by decide +kernel
theorem tabs_of (h : tabsA M = true) (hr : Rel G base j M w) (hG : 1 < G ∧ 2 < G) : Tabs w := by
  unfold tabsA at h
  split at h
  · rename_i a e1 f1 b e2 f2 ha hb
    split at h
    · rename_i h1
      have h1 := sameU_at h1
      have h2 := sameU_at h
      subst h1; subst h2
      obtain ⟨l1, k1, arr1, fr1, k2, k3, k4, _⟩ := hr.ok _ _ ha
      obtain ⟨g1, d1⟩ := hr.glob _ _ _ hG.1 ha k1
      obtain ⟨l2, m1, arr2, fr2, m2, m3, m4, _⟩ := hr.ok _ _ hb
      obtain ⟨g2, d2⟩ := hr.glob _ _ _ hG.2 hb m1
      refine ⟨fun i hi => ?_, fun i hi => ?_⟩
      · obtain ⟨y, q1, q2⟩ := k4 i (.i .u32 (Int.ofNat (ShaM.H0.at i).toNat)) (by rw [List.getElem?_map, start_at i hi]; rfl)
        simp only [VR] at q2
        subst q2
        rw [g1] at k2
        rw [d1, Nat.zero_add] at q1
        simp [World.cell?, k2, q1, Go.Proofs.YtjoinnjhpfakpaaGreatDoor.U]
      · obtain ⟨y, q1, q2⟩ := m4 i (.i .u32 (Int.ofNat (ShaM.K i).toNat)) (by rw [List.getElem?_map, roots_at i hi]; rfl)
        simp only [VR] at q2
        subst q2
        rw [g2] at m2
        rw [d2, Nat.zero_add] at q1
        simp [World.cell?, m2, q1, Go.Proofs.YtjoinnjhpfakpaaGreatDoor.U]
    · cases h
  · cases h
/-- The hash, as an array. -/
noncomputable def hashV (l : List UInt8) : Option V := fL ((ShaM.sha l).map fun b => V.i .u8 (Int.ofNat b.toNat)) fun r => some (.a r)
theorem hashV_rel {l : List UInt8} {v : V} (h : hashV l = some v) (j : J) : VR j v (.agg ((ShaM.sha l).map Y).toArray) := by
  unfold hashV at h
  rw [fL_eq] at h
  injection h with h
  subst h
  simp only [VR]
  refine ⟨(ShaM.sha l).map Y, VRs.of_at (by simp) fun i v hv => ?_, rfl⟩
  rw [List.getElem?_map] at hv
  cases hq : (ShaM.sha l)[i]? with
  | none => rw [hq] at hv; cases hv
  | some b =>
    rw [hq] at hv
    injection hv with hv
    subst hv
    exact ⟨Y b, by rw [List.getElem?_map, hq]; rfl, by simp only [VR]; rfl⟩
noncomputable def qSum (vs : List V) (M : H) : Option V :=
  match vs with
  | [v] => (match bytesB M v, tabsA M with | some l, true => (match Nat.blt l.length 1000000 with | true => hashV l | false => none) | _, _ => none)
  | _ => none
noncomputable def qRef (vs : List V) (_ : H) : Option V :=
  match vs with
  | [.s l] => (match Nat.blt l.length 1000000 with | true => hashV l | false => none)
  | _ => none
theorem sum_at (hG : 1 < G ∧ 2 < G) : At Tryz.prog G base 80 (quiet qSum) :=
  quiet_at ⟨_, _, Tryz.func80, by kernel_rfl, rfl⟩ fun vs M v h n j w ys c hy => by
    unfold qSum at h
    split at h
    · split at h
      · rename_i l hb ht
        split at h
        · rename_i hl
          rw [Nat.blt_eq] at hl
          simp only [VRs] at hy
          obtain ⟨y, _, h1, rfl, rfl⟩ := hy
          refine (sum_any y l w (tabs_of ht c.rel hG) (bytesB_ok hb c.rel h1) (by omega)).mono ?_
          rintro e w' ⟨rfl, hB⟩
          exact ⟨⟨_, rfl, hashV_rel h j⟩, hB⟩
        · cases h
      · cases h
    · cases h
theorem ref_at : At Tryz.prog G base 98 (quiet qRef) :=
  quiet_at ⟨_, _, Tryz.func98, by kernel_rfl, rfl⟩ fun vs M v h n j w ys c hy => by
    unfold qRef at h
    split at h
    · rename_i l
      split at h
      · rename_i hl
        rw [Nat.blt_eq] at hl
        simp only [VRs, VR] at hy
        obtain ⟨_, _, rfl, rfl, rfl⟩ := hy
        refine (rsum_any l w (by omega)).mono ?_
        rintro e w' ⟨rfl, hB⟩
        exact ⟨⟨_, rfl, hashV_rel h j⟩, hB⟩
      · cases h
    · cases h
end
end Eng
end Go.Proofs.YtjoinnjhpfakpaaGreatDoor
namespace Go.Proofs.YtjoinnjhpfakpaaGreatDoor
namespace Eng
open Go.RowKit

/-- A builder that is written into. -/
noncomputable def mkB (M : H) (id : Nat) (b : List V) (e : TypeId) : H := T.set 24 M id (some (.c (.p (some (id, 0)) :: b) e (.w 2)))
noncomputable def hCck (G : Nat) (_ : CallT) (vs : List V) (M : H) (n : Nat) : Option Rs :=
  match vs with
  | [.p (some (id, 0))] => (match M.get id with
    | some (.c [.p none, b] e (.w 2)) => (match Nat.ble G id, Nat.beq e 132 with | true, true => some (.ok (.t []) (mkB M id [b] e) n) | _, _ => none)
    | some (.c (.p (some (id', 0)) :: b) e (.w 2)) => (match Nat.ble G id, Nat.beq id id' with | true, true => some (.ok (.t []) (mkB M id b e) n) | _, _ => none)
    | _ => none)
  | _ => none
section
variable {G base n n' : Nat} {j j' : J} {M M' : H} {w w' : World}
theorem cck_at : At Tryz.prog G base 122 (hCck G) := by
  intro call hc vs M n r h
  unfold hCck at h
  refine ⟨⟨_, _, Tryz.func122, by kernel_rfl, rfl⟩, ?_⟩
  split at h
  case h_2 => cases h
  rename_i id
  split at h
  · rename_i b e hM
    split at h
    case h_2 => cases h
    rename_i hG he
    have hG := Nat.le_of_ble_eq_true hG
    have he := Nat.eq_of_beq_eq_true he
    subst he
    injection h with h
    subst h
    refine ⟨Nat.le_refl _, fun j w ys c _ hy => ?_⟩
    simp only [VRs, VR] at hy
    obtain ⟨_, _, ⟨l, hl, rfl⟩, rfl, rfl⟩ := hy
    obtain ⟨l', k1, arr, fr, k2, k3, k4, k5, k6, k7⟩ := c.rel.ok id _ hM
    rw [hl] at k1
    injection k1 with k1
    subst k1
    obtain ⟨y, q1, q2⟩ := k4 0 (.p none) rfl
    simp only [VR] at q2
    subst q2
    obtain ⟨f1, f2⟩ := fr
    simp only at k5
    subst k5
    simp only [k6, Nat.add_zero] at q1 ⊢
    have hcell : w.cell? ⟨l.g, 0, none⟩ = some (.pointer none) := by simp [World.cell?, k2, q1]
    have hsh : w.shape? l.g = some (BT, 2) := by simp [World.shape?, k2, k3, k7]
    have hfz : w.frozen? ⟨l.g, 0, none⟩ = false := by
      simp only [World.frozen?, k2]
      simp
    refine (cchk_fresh l.g w hcell hsh hfz).mono ?_
    rintro e w' ⟨rfl, rfl⟩
    have hlt : l.g < w.heap.size := (Array.getElem?_eq_some_iff.1 k2).1
    have hh : (w.setCell ⟨l.g, 0, none⟩ (.pointer (some ⟨l.g, 0, none⟩))).heap[l.g]? = some (.cells (arr.setIfInBounds 0 (.pointer (some ⟨l.g, 0, none⟩))) BT (f1, f1)) := by
      simp [World.setCell, Array.getElem?_modify, k2]
    have hsz : (w.setCell ⟨l.g, 0, none⟩ (.pointer (some ⟨l.g, 0, none⟩))).heap.size = w.heap.size := by simp [World.setCell]
    have hot : ∀ g, g ≠ l.g → (w.setCell ⟨l.g, 0, none⟩ (.pointer (some ⟨l.g, 0, none⟩))).heap[g]? = w.heap[g]? := fun g hg => by simp [World.setCell, Array.getElem?_modify, Ne.symm hg]
    have hp : Post G base n n j M w j (mkB M id [b] BT) (w.setCell ⟨l.g, 0, none⟩ (.pointer (some ⟨l.g, 0, none⟩))) := by
      refine post_turn c.rel hM hl hG rfl rfl rfl hsz hot ⟨_, _, hh, by simpa using k3, fun i v hv => ?_, rfl, k6, k7⟩
      cases i with
      | zero =>
        injection hv with hv
        subst hv
        refine ⟨.pointer (some ⟨l.g, 0, none⟩), ?_, by simp only [VR]; exact ⟨l, hl, by rw [k6]⟩⟩
        have : 0 < arr.size := by rw [k3, k7]; decide
        simp [k6, this]
      | succ i =>
        obtain ⟨y, p1, p2⟩ := k4 (i + 1) v hv
        refine ⟨y, ?_, p2⟩
        rw [← p1]
        simp [k6]
    refine ⟨j, ?_, ?_⟩
    · simp only [Rs.M, Rs.n]
      exact hp
    · show ∃ y, _ ∧ _
      refine ⟨.tuple #[], rfl, ?_⟩
      simp only [VR, VRs]
      exact ⟨[], rfl, rfl⟩
  · rename_i id' b e hM
    split at h
    case h_2 => cases h
    rename_i hG he
    have hG := Nat.le_of_ble_eq_true hG
    have he := Nat.eq_of_beq_eq_true he
    subst he
    injection h with h
    subst h
    refine ⟨Nat.le_refl _, fun j w ys c _ hy => ?_⟩
    simp only [VRs, VR] at hy
    obtain ⟨_, _, ⟨l, hl, rfl⟩, rfl, rfl⟩ := hy
    have hB := c.rel.ok id _ hM
    obtain ⟨l', k1, hBR⟩ := hB
    rw [hl] at k1
    injection k1 with k1
    subst k1
    have hBR' := hBR
    obtain ⟨arr, fr, k2, k3, k4, k5, k6, k7⟩ := hBR'
    obtain ⟨y, q1, q2⟩ := k4 0 (.p (some (id, 0))) rfl
    simp only [VR] at q2
    obtain ⟨l2, hl2, rfl⟩ := q2
    rw [hl] at hl2
    injection hl2 with hl2
    subst hl2
    simp only [k6, Nat.add_zero] at q1 ⊢
    have hcell : w.cell? ⟨l.g, 0, none⟩ = some (.pointer (some ⟨l.g, 0, none⟩)) := by simpa [World.cell?, k2] using q1
    refine (cchk_used l.g w hcell).mono ?_
    rintro e w' ⟨rfl, rfl⟩
    have hp : Post G base n n j M w' j (mkB M id b e) w' := post_turn c.rel hM hl hG rfl rfl rfl rfl (fun _ _ => rfl) hBR
    refine ⟨j, ?_, .tuple #[], rfl, by simp only [VR, VRs]; exact ⟨[], rfl, rfl⟩⟩
    simp only [Rs.M, Rs.n]
    exact hp
  · cases h

noncomputable def hDo (call : CallT) (vs : List V) (M : H) (n : Nat) : Option Rs :=
  match vs with
  | [.fn g cs] => (match call (.f g) cs M n with
    | some (.ok (.t []) M n) => some (.ok (.i .i64 0) M n)
    | some (.pan (.ic t (.a [.i .i64 e])) M n) => (match Nat.beq t 292 with | true => some (.ok (.i .i64 e) M n) | false => none)
    | _ => none)
  | _ => none
theorem setCell_post {D : Nat} {y : Value} {w1 : World} (h : Post G base n n' j M w j' M' w1) (hD : w.heap.size ≤ D) (hn : ∀ id b l, M'.get id = some b → j' id = some l → l.g ≠ D) : Post G base n n' j M w j' M' (w1.setCell ⟨D, 0, none⟩ y) where
  le := h.le
  out := h.out
  rel := ⟨fun id b hb => let ⟨l, k1, k2⟩ := h.rel.ok id b hb; ⟨l, k1, k2.world (by have := hn id b l hb k1; simp [World.setCell, Array.getElem?_modify, Ne.symm this])⟩, h.rel.glob, h.rel.own, h.rel.inj⟩
  frm := ⟨h.frm.os, h.frm.tape, h.frm.output, by simpa [World.setCell] using h.frm.size, fun g hg hq => by
    have : (w1.setCell ⟨D, 0, none⟩ y).heap[g]? = w1.heap[g]? := by
      have : D ≠ g := by omega
      simp [World.setCell, Array.getElem?_modify, this]
    exact this.trans (h.frm.block g hg hq)⟩
  img := h.img
theorem do_at : At Tryz.prog G base 106 hDo := by
  intro call hc vs M n r h
  unfold hDo at h
  refine ⟨⟨_, _, Tryz.func106, by kernel_rfl, rfl⟩, ?_⟩
  split at h
  case h_2 => cases h
  rename_i g cs
  -- the cell of what is told, that no id has
  have key : ∀ {r0 : Rs} (j : J) (w : World) (caps : List Value), Ctx G base n j M w → ∀ e w', (∃ j', Post G base n r0.n j M (w.alloc (.cells #[.int .i64 0] 32)) j' r0.M w' ∧ EndR j' r0 e) →
      (∃ j', Post G base n r0.n j M w j' r0.M w' ∧ EndR j' r0 e ∧ ∀ id b l, r0.M.get id = some b → j' id = some l → l.g ≠ w.heap.size) ∧ w'.heap[w.heap.size]? = some (.cells #[.int .i64 0] 32 (0, 0)) := by
    rintro r0 j w caps c e w' ⟨j', hp, he⟩
    have hq := post_quiet c (w' := w.alloc (.cells #[.int .i64 0] 32)) ((Below.refl _ w).alloc (Nat.le_refl _) _)
    have old : ∀ id b l, M.get id = some b → j id = some l → l.g < w.heap.size := fun id b l h1 h2 => by
      obtain ⟨l', k1, k2⟩ := c.rel.ok id b h1
      rw [h2] at k1
      injection k1 with k1
      subst k1
      exact k2.lt
    have hs : (w.alloc (.cells #[.int .i64 0] 32)).heap.size = w.heap.size + 1 := by simp
    refine ⟨⟨j', ?_, he, fun id b l h1 h2 e => ?_⟩, ?_⟩
    · exact ⟨hp.le, hp.out, hp.rel, ⟨hp.frm.os, hp.frm.tape, hp.frm.output, by have := hp.frm.size; omega, fun g hg hn => (hp.frm.block g (by omega) hn).trans (hq.frm.block g hg hn)⟩, fun id b l h1 h2 => (hp.img id b l h1 h2).imp (fun h => h) fun h => by omega⟩
    · rcases hp.img id b l h1 h2 with ⟨i0, b0, l0, a1, a2, a3, _⟩ | h5
      · have := old i0 b0 l0 a1 a2; omega
      · omega
    · refine (hp.frm.block w.heap.size (by omega) fun id b l _ h1 h2 e => ?_).trans (World.alloc_heap_new w _)
      have := old id b l h1 h2
      omega
  have cellOk : ∀ (w' : World) (D : Nat), w'.heap[D]? = some (.cells #[.int .i64 0] 32 (0, 0)) → ∃ x, w'.cell? ⟨D, 0, none⟩ = some (.int .i64 x) ∧ w'.frozen? ⟨D, 0, none⟩ = false := fun w' D h => ⟨0, by simp [World.cell?, h], by simp [World.frozen?, h]⟩
  split at h
  · rename_i M1 n1 hcl
    injection h with h
    subst h
    obtain ⟨⟨fn, body, g1, g2, g3⟩, hn, hcall⟩ := hc.fn _ _ _ _ _ hcl
    refine ⟨hn, fun j w ys c hf hy => ?_⟩
    simp only [VRs, VR] at hy
    obtain ⟨_, _, ⟨caps, hcs, rfl⟩, rfl, rfl⟩ := hy
    have hq := post_quiet c (w' := w.alloc (.cells #[.int .i64 0] 32)) ((Below.refl _ w).alloc (Nat.le_refl _) _)
    have g2' : ¬ fn.name = "runtime.NumGoroutine" := by simpa using g2
    refine (do_ret g caps.toArray w (fun w' => (∃ j', Post G base n n1 j M w j' M1 w' ∧ ∀ id b l, M1.get id = some b → j' id = some l → l.g ≠ w.heap.size) ∧ w'.heap[w.heap.size]? = some (.cells #[.int .i64 0] 32 (0, 0))) (fun W => by simp [callFunc, g1, g2', g3]) (fun w' h => cellOk w' _ h.2) ((hcall j _ caps (c.post hq (Nat.le_refl _)) hf hcs).mono fun e w' he => ?_)).mono ?_
    · obtain ⟨⟨j', k1, ⟨y, rfl, hy⟩, k3⟩, k4⟩ := key (r0 := .ok (.t []) M1 n1) j w caps c e w' he
      simp only [VR, VRs] at hy
      obtain ⟨ys, rfl, rfl⟩ := hy
      exact ⟨rfl, ⟨j', k1, k3⟩, k4⟩
    · rintro e w' ⟨rfl, w1, ⟨⟨j', k1, k3⟩, _⟩, rfl⟩
      exact ⟨j', setCell_post k1 (Nat.le_refl _) k3, .int .i64 0, rfl, by simp only [VR]⟩
  · rename_i t k M1 n1 hcl
    split at h
    case h_2 => cases h
    rename_i ht
    have ht := Nat.eq_of_beq_eq_true ht
    subst ht
    injection h with h
    subst h
    obtain ⟨⟨fn, body, g1, g2, g3⟩, hn, hcall⟩ := hc.fn _ _ _ _ _ hcl
    refine ⟨hn, fun j w ys c hf hy => ?_⟩
    simp only [VRs, VR] at hy
    obtain ⟨_, _, ⟨caps, hcs, rfl⟩, rfl, rfl⟩ := hy
    have hq := post_quiet c (w' := w.alloc (.cells #[.int .i64 0] 32)) ((Below.refl _ w).alloc (Nat.le_refl _) _)
    have g2' : ¬ fn.name = "runtime.NumGoroutine" := by simpa using g2
    refine (do_fault g caps.toArray w k (fun w' => (∃ j', Post G base n n1 j M w j' M1 w' ∧ ∀ id b l, M1.get id = some b → j' id = some l → l.g ≠ w.heap.size) ∧ w'.heap[w.heap.size]? = some (.cells #[.int .i64 0] 32 (0, 0))) (fun W => by simp [callFunc, g1, g2', g3]) (fun w' h => cellOk w' _ h.2) ((hcall j _ caps (c.post hq (Nat.le_refl _)) hf hcs).mono fun e w' he => ?_)).mono ?_
    · obtain ⟨⟨j', k1, ⟨y, rfl, hy⟩, k3⟩, k4⟩ := key (r0 := .pan _ M1 n1) j w caps c e w' he
      simp only [VR, VRs] at hy
      obtain ⟨z, ⟨ys, ⟨x, zs, rfl, rfl, rfl⟩, rfl⟩, rfl⟩ := hy
      exact ⟨rfl, ⟨j', k1, k3⟩, k4⟩
    · rintro e w' ⟨rfl, w1, w2, ⟨⟨j', k1, k3⟩, k4⟩, hB, rfl⟩
      have c1 := c.post k1 hn
      have hq2 := post_quiet c1 hB
      refine ⟨j', setCell_post ((k1.trans hq2 hn (Nat.le_refl _))) (Nat.le_refl _) k3, .int .i64 k, rfl, by simp only [VR]⟩
  · cases h
end
end Eng
end Go.Proofs.YtjoinnjhpfakpaaGreatDoor
namespace Go.Proofs.YtjoinnjhpfakpaaGreatDoor
namespace Eng
open Go.RowKit

def u32s (l : List Nat) : List V := l.map fun (n : Nat) => .i .u32 (Int.ofNat n)
def tenL : List V := (List.range 20).map fun (i : Nat) => V.i .u64 (Int.ofNat (10 ^ i))
def bruL : List V := List.replicate 15 .un ++ [.i .u8 (Int.ofNat 4)]
noncomputable def glob : H := T.set 24 (T.set 24 (T.set 24 (T.set 24 .e 1 (some (.c (u32s startL) 199 .s))) 2 (some (.c (u32s ShaM.kk) 284 .s))) 4 (some (.c tenL 382 .s))) 6 (some (.c bruL 192 .s))
/-- The package's variables lie as memory has them. -/
def GE (w : World) : Prop := ∃ j, Rel 9 w.heap.size j glob w
def eqU : V → V → Bool
  | .un, .un => true
  | a, b => eqV a b
def eqUs : List V → List V → Bool
  | [], [] => true
  | a :: l, b :: m => (match eqU a b with | true => eqUs l m | false => false)
  | _, _ => false
theorem eqU_eq {a b : V} (h : eqU a b = true) : a = b := by
  unfold eqU at h
  split at h
  · rfl
  · exact eqV_eq _ _ h
theorem eqUs_eq : ∀ {l m : List V}, eqUs l m = true → l = m
  | [], [], _ => rfl
  | [], _ :: _, h => by cases h
  | _ :: _, [], h => by cases h
  | a :: l, b :: m, h => by
    unfold eqUs at h
    split at h
    · rename_i q
      rw [eqU_eq q, eqUs_eq h]
    · cases h
noncomputable def hasB (M : H) (id : Nat) (l : List V) (e : TypeId) : Bool :=
  match M.get id with
  | some (.c cs e' .s) => (match Nat.beq e' e with | true => eqUs cs l | false => false)
  | _ => false
theorem hasB_ok {M : H} {id : Nat} {l : List V} {e : TypeId} (h : hasB M id l e = true) : M.get id = some (.c l e .s) := by
  unfold hasB at h
  split at h
  · rename_i cs e' hM
    split at h
    · rename_i he
      have he := Nat.eq_of_beq_eq_true he
      rw [hM, he, eqUs_eq h]
    · cases h
  · cases h
/-- Memory has the package's variables. -/
noncomputable def globA (M : H) : Bool :=
  match hasB M 1 (u32s startL) 199, hasB M 2 (u32s ShaM.kk) 284, hasB M 4 tenL 382, hasB M 6 bruL 192 with
  | true, true, true, true => true
  | _, _, _, _ => false
theorem glob_get {id : Nat} {b : B} (h : glob.get id = some b) : (id = 6 ∧ b = .c bruL 192 .s) ∨ (id = 4 ∧ b = .c tenL 382 .s) ∨ (id = 2 ∧ b = .c (u32s ShaM.kk) 284 .s) ∨ (id = 1 ∧ b = .c (u32s startL) 199 .s) := by
  rcases T.set_get h with ⟨h1, h2⟩ | ⟨_, h⟩
  · injection h2 with h2; exact .inl ⟨h1, h2.symm⟩
  rcases T.set_get h with ⟨h1, h2⟩ | ⟨_, h⟩
  · injection h2 with h2; exact .inr (.inl ⟨h1, h2.symm⟩)
  rcases T.set_get h with ⟨h1, h2⟩ | ⟨_, h⟩
  · injection h2 with h2; exact .inr (.inr (.inl ⟨h1, h2.symm⟩))
  rcases T.set_get h with ⟨h1, h2⟩ | ⟨_, h⟩
  · injection h2 with h2; exact .inr (.inr (.inr ⟨h1, h2.symm⟩))
  · cases h
theorem glob_lt {id : Nat} {b : B} (h : glob.get id = some b) : id < 9 := by
  rcases glob_get h with ⟨rfl, _⟩ | ⟨rfl, _⟩ | ⟨rfl, _⟩ | ⟨rfl, _⟩ <;> decide
theorem globA_ok {M : H} (h : globA M = true) : ∀ id b, glob.get id = some b → M.get id = some b := by
  unfold globA at h
  split at h
  · rename_i h1 h2 h3 h4
    intro id b hb
    rcases glob_get hb with ⟨rfl, rfl⟩ | ⟨rfl, rfl⟩ | ⟨rfl, rfl⟩ | ⟨rfl, rfl⟩
    · exact hasB_ok h4
    · exact hasB_ok h3
    · exact hasB_ok h2
    · exact hasB_ok h1
  · cases h
def flatV : V → Bool
  | .i _ _ => true
  | .un => true
  | _ => false
theorem flatV_vr {j j' : J} {v : V} {y : Value} (h : flatV v = true) (hv : VR j v y) : VR j' v y := by
  cases v <;> first | (cases h; done) | simpa only [VR] using hv
theorem glob_br {j j' : J} {l : Loc} {w : World} {id : Nat} {b : B} (hb : glob.get id = some b) (h : BR j l w b) : BR j' l w b := by
  have key : ∀ {cs : List V} {e : TypeId}, cs.all flatV = true → BR j l w (.c cs e .s) → BR j' l w (.c cs e .s) := fun hc ⟨arr, fr, h1, h2, h3, h4⟩ =>
    ⟨arr, fr, h1, h2, fun i v hv => let ⟨y, a, b⟩ := h3 i v hv; ⟨y, a, flatV_vr (List.all_eq_true.1 hc v (List.mem_of_getElem? hv)) b⟩, h4⟩
  rcases glob_get hb with ⟨rfl, rfl⟩ | ⟨rfl, rfl⟩ | ⟨rfl, rfl⟩ | ⟨rfl, rfl⟩
  · exact key (by decide) h
  · exact key (by decide) h
  · exact key (by decide +kernel) h
  · exact key (by decide) h
section
variable {P : Program} {base n : Nat} {j : J} {M : H} {w : World}
theorem ge_of (h : globA M = true) (c : Ctx 9 base n j M w) : GE w := by
  have hs := globA_ok h
  refine ⟨j, fun id b hb => c.rel.ok id b (hs id b hb), fun id b l hi hb hl => c.rel.glob id b l hi (hs id b hb) hl, fun id b l hi hb => absurd (glob_lt hb) (by omega), fun id id' b b' l l' h1 h2 h3 h4 h5 => c.rel.inj id id' b b' l l' (hs _ _ h1) (hs _ _ h2) h3 h4 h5⟩
theorem GE.below {w' : World} (h : GE w) (hb : Below w.heap.size w w') : GE w' := by
  obtain ⟨j, h⟩ := h
  refine ⟨j, fun id b hq => let ⟨l, k1, k2⟩ := h.ok id b hq; ⟨l, k1, k2.world (hb.block _ k2.lt)⟩, h.glob, fun id b l hi hq => absurd (glob_lt hq) (by omega), h.inj⟩
def okk : Option Rs → Bool
  | some (.ok (.b true) _ _) => true
  | _ => false
/-- What a closed run tells. -/
theorem closed {call : CallT} (hc : ∀ base, CallOk P 9 base call) {f : FuncId} (h : okk (call (.f f) [] glob 9) = true) (hw : GE w) : Calls P f #[] w fun e w' => e = .returned (.bool true) ∧ Below w.heap.size w w' := by
  unfold okk at h
  split at h
  case h_2 => cases h
  rename_i M1 n1 hr
  obtain ⟨_, hn, hq⟩ := (hc w.heap.size).fn _ _ _ _ _ hr
  obtain ⟨j, hj⟩ := hw
  have hj2 : Rel 9 w.heap.size (fun id => if id < 9 then j id else none) glob w := by
    have e : ∀ {id b}, glob.get id = some b → (if id < 9 then j id else none) = j id := fun hb => if_pos (glob_lt hb)
    exact ⟨fun id b hb => by
      rw [e hb]
      obtain ⟨l, k1, k2⟩ := hj.ok id b hb
      exact ⟨l, k1, glob_br hb k2⟩, fun id b l hi hb hl => hj.glob id b l hi hb (by rw [← e hb]; exact hl), fun id b l hi hb => absurd (glob_lt hb) (by omega), fun id id' b b' l l' h1 h2 h3 h4 h5 => hj.inj id id' b b' l l' h1 h2 (by rw [← e h1]; exact h3) (by rw [← e h2]; exact h4) h5⟩
  refine (hq _ w [] ⟨hj2, Nat.le_refl _, Nat.le_refl _⟩ (fun id hi _ => if_neg (by omega)) (.nil _)).mono ?_
  rintro e w' ⟨j', hp, y, rfl, hy⟩
  simp only [VR] at hy
  subst hy
  exact ⟨rfl, below_of_post hp fun id b hb => glob_lt hb⟩
end
/-! ### The program's hooks, and what has no body -/
noncomputable def hk0 : CallT → CallT := hookF 80 (quiet qSum) (hookF 98 (quiet qRef) (hookF 122 (hCck 9) (hookF 106 hDo fun _ _ _ _ _ => none)))
theorem hk0_ok (base : Nat) : HookOk Tryz.prog 9 base hk0 := hookF_ok (sum_at (by decide)) (hookF_ok ref_at (hookF_ok cck_at (hookF_ok do_at hook_none)))
noncomputable def ex0 : ExtT := extF 207 (xpure xbits) (extF 335 (xpure xfrom) (extF 309 (xpure xidx) (extF 150 (xpure xcmp) (extF 254 (xmnz 5) fun _ _ _ _ => none))))
theorem ex0_ok : ExtOk Tryz.prog ex0 :=
  extF_ok (bits_at fun args w => run_callFunc_extern Tryz.func207 (by kernel_rfl) (by kernel_rfl) (by kernel_rfl) (by kernel_rfl) args w)
  (extF_ok (from_at fun args w => run_callFunc_extern Tryz.func335 (by kernel_rfl) (by kernel_rfl) (by kernel_rfl) (by kernel_rfl) args w)
  (extF_ok (idx_at fun args w => run_callFunc_extern Tryz.func309 (by kernel_rfl) (by kernel_rfl) (by kernel_rfl) (by kernel_rfl) args w)
  (extF_ok (cmp_at fun args w => run_callFunc_extern Tryz.func150 (by kernel_rfl) (by kernel_rfl) (by kernel_rfl) (by kernel_rfl) args w)
  (extF_ok (mnz_at (ps := #[3]) (t0 := 97) (fun args w => run_callFunc_extern Tryz.func254 (by kernel_rfl) (by kernel_rfl) (by kernel_rfl) (by kernel_rfl) args w) Tryz.underlying97) ext_none))))
theorem mx : Tryz.prog.follows .mixedOrders = true := by kernel_rfl
noncomputable def ec (hk : CallT → CallT) : CallT := exec Tryz.prog 9 hk ex0 100000
theorem ec_ok {hk : CallT → CallT} (h : ∀ base, HookOk Tryz.prog 9 base hk) (base : Nat) : CallOk Tryz.prog 9 base (ec hk) := exec_right mx (h base) ex0_ok _
/-- A closed function known to tell true. -/
noncomputable def qTrue (vs : List V) (M : H) : Option V := match vs, globA M with | [], true => some (.b true) | _, _ => none
theorem true_at {f : FuncId} {base : Nat} (he : Enters Tryz.prog f) (h : ∀ w, GE w → Calls Tryz.prog f #[] w fun e w' => e = .returned (.bool true) ∧ Below w.heap.size w w') : At Tryz.prog 9 base f (quiet qTrue) :=
  quiet_at he fun vs M v hq n j w ys c hy => by
    unfold qTrue at hq
    split at hq
    · rename_i hg
      injection hq with hq
      subst hq
      simp only [VRs] at hy
      subst hy
      refine (h w (ge_of hg c)).mono ?_
      rintro e w' ⟨rfl, hB⟩
      exact ⟨⟨_, rfl, by simp only [VR]⟩, hB⟩
    · cases hq
end Eng
end Go.Proofs.YtjoinnjhpfakpaaGreatDoor
namespace Go.Proofs.YtjoinnjhpfakpaaGreatDoor
namespace Eng
open Go.RowKit

def kwT : Int → Option (List UInt8)
  | .ofNat 1 => some [98, 108, 111, 98]
  | .ofNat 2 => some [116, 114, 101, 101]
  | .ofNat 3 => some [99, 111, 109, 109, 105, 116]
  | _ => none
theorem kwT_ok {k : Int} {kw : List UInt8} (h : kwT k = some kw) : kw.length ≤ 6 ∧ ∀ W, Calls Tryz.prog 166 #[.int .i64 k] W fun e w' => e = .returned (.string ⟨kw.toArray⟩) ∧ W = w' := by
  unfold kwT at h
  split at h <;> first | (injection h with h; subst h) | (cases h; done)
  · exact ⟨by decide, fun W => word_1 W⟩
  · exact ⟨by decide, fun W => word_2 W⟩
  · exact ⟨by decide, fun W => word_3 W⟩
noncomputable def ofV' (call : CallT) (kw body : List UInt8) : Option V :=
  match call (.f 167) [.i .i64 (Int.ofNat body.length)] glob 9, Nat.blt body.length 100000 with
  | some (.ok (.s dec) _ _), true => (match Nat.blt dec.length 100 with | true => hashV (kw ++ [32] ++ dec ++ [0] ++ body) | false => none)
  | _, _ => none
noncomputable def hOf (call : CallT) (vs : List V) (M : H) (n : Nat) : Option Rs :=
  match vs with
  | [.i .i64 k, .s body] => (match kwT k, globA M with
    | some kw, true => (match ofV' call kw body with | some v => some (.ok v M n) | none => none)
    | _, _ => none)
  | _ => none
section
variable {base n : Nat} {j : J} {M : H} {w : World}
/-- A call with plain numbers that tells a string. -/
theorem told {call : CallT} (hc : CallOk Tryz.prog 9 base call) {f : FuncId} {k : Int} {s : List UInt8} {M1 : H} {n1 : Nat} (h : call (.f f) [.i .i64 k] glob 9 = some (.ok (.s s) M1 n1)) (hw : GE w) (hb : base ≤ w.heap.size) : Calls Tryz.prog f #[.int .i64 k] w fun e w' => e = .returned (.string ⟨s.toArray⟩) ∧ Below w.heap.size w w' := by
  obtain ⟨_, hn, hq⟩ := hc.fn _ _ _ _ _ h
  obtain ⟨j, hj⟩ := hw
  have hj2 : Rel 9 base (fun id => if id < 9 then j id else none) glob w := by
    have e : ∀ {id b}, glob.get id = some b → (if id < 9 then j id else none) = j id := fun hb => if_pos (glob_lt hb)
    exact ⟨fun id b hb => by
      rw [e hb]
      obtain ⟨l, k1, k2⟩ := hj.ok id b hb
      exact ⟨l, k1, glob_br hb k2⟩, fun id b l hi hb hl => hj.glob id b l hi hb (by rw [← e hb]; exact hl), fun id b l hi hb => absurd (glob_lt hb) (by omega), fun id id' b b' l l' h1 h2 h3 h4 h5 => hj.inj id id' b b' l l' h1 h2 (by rw [← e h1]; exact h3) (by rw [← e h2]; exact h4) h5⟩
  refine (hq _ w [.int .i64 k] ⟨hj2, Nat.le_refl _, hb⟩ (fun id hi _ => if_neg (by omega)) (.cons (by simp only [VR]) (.nil _))).mono ?_
  rintro e w' ⟨j', hp, y, rfl, hy⟩
  simp only [VR] at hy
  subst hy
  exact ⟨rfl, below_of_post hp fun id b hb => glob_lt hb⟩
theorem of_at : At Tryz.prog 9 base 112 hOf := by
  intro call hc vs M n r h
  refine ⟨⟨_, _, Tryz.func112, by kernel_rfl, rfl⟩, ?_⟩
  unfold hOf at h
  split at h
  case h_2 => cases h
  rename_i k body
  split at h
  case h_2 => cases h
  rename_i kw hk hg
  split at h
  case h_2 => cases h
  rename_i v hv
  injection h with h
  subst h
  unfold ofV' at hv
  split at hv
  case h_2 => cases hv
  rename_i dec M1 n1 hit hl
  rw [Nat.blt_eq] at hl
  split at hv
  case h_2 => cases hv
  rename_i hd
  rw [Nat.blt_eq] at hd
  obtain ⟨k1, k2⟩ := kwT_ok hk
  refine ⟨Nat.le_refl _, fun j w ys c _ hy => ?_⟩
  simp only [VRs, VR] at hy
  obtain ⟨_, _, rfl, ⟨_, _, rfl, rfl, rfl⟩, rfl⟩ := hy
  have hge := ge_of hg c
  have htab : Tabs w := by
    obtain ⟨jj, hj⟩ := hge
    exact tabs_of (M := glob) (by decide +kernel) hj (by decide)
  refine (of_within k kw dec body w htab k2 (fun W hW => told hc hit (hge.below hW) (Nat.le_trans c.base hW.size)) (by omega)).mono ?_
  rintro e w' ⟨rfl, hB⟩
  exact ⟨j, post_quiet c hB, _, rfl, hashV_rel hv j⟩
end
noncomputable def hk1 : CallT → CallT := hookF 112 hOf hk0
theorem hk1_ok (base : Nat) : HookOk Tryz.prog 9 base hk1 := hookF_ok of_at (hk0_ok base)
end Eng
end Go.Proofs.YtjoinnjhpfakpaaGreatDoor

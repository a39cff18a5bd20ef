/-
  A closed run, reckoned: operations that make blocks, read them, write them.
  A closed run, reckoned: append.
-/
import Derived.Test.YtjoinnjhpfakpaaGreatDoorEgB
namespace Go.Proofs.YtjoinnjhpfakpaaGreatDoor
namespace Eng
open Go.RowKit

abbrev R := Option (V × H × Nat)
noncomputable def new (M : H) (n : Nat) (b : B) (v : V) : R := some (v, T.set 24 M n (some b), n + 1)
noncomputable def xalloc (P : Program) (e : TypeId) (M : H) (n : Nat) : R :=
  match zeroQ P e with
  | some z => new M n (.c z e (.w z.length)) (.p (some (n, 0)))
  | none => none
noncomputable def xbox (e : TypeId) (v : V) (M : H) (n : Nat) : R := new M n (.c v.cells e (.n 0)) (.p (some (n, 0)))
noncomputable def xbuildSlice (P : Program) (t : TypeId) (len : Nat) (parts : List (Nat × V)) (M : H) (n : Nat) : R :=
  match P.underlying t with
  | some (.slice e) => (match zrow P e len, sizeQ P e with
    | some z, some s => (match Nat.ble (len * s) 16777216, fillV (fun i => some (i * s, s)) parts z with
      | true, some r => new M n (.c r e .s) (.sl (some (n, 0)) len (.x len))
      | _, _ => none)
    | _, _ => none)
  | _ => none
noncomputable def xmakeSlice (P : Program) (t : TypeId) (l c : V) (M : H) (n : Nat) : R :=
  match P.underlying t, l, c with
  | some (.slice e), .i _ (.ofNat len), .i _ (.ofNat cap) =>
    (match P.info? e, zrow P e cap with
     | some i, some z => (match Nat.ble len cap, Nat.ble (i.bytes * cap) 1000000000, Nat.ble cap 1000000000 with
       | true, true, true => new M n (.c z e (.n 0)) (.sl (some (n, 0)) len (.x cap))
       | _, _, _ => none)
     | _, _ => none)
  | _, _, _ => none
noncomputable def xmakeMap (M : H) (n : Nat) : R := new M n (.m [] 0) (.mp (some n))
noncomputable def xload (P : Program) (t : TypeId) (v : V) (M : H) : Option V :=
  match v with
  | .p (some q) => (match aggQ P t with
    | some true => (match sizeQ P t with
      | some k => (match aload M q.1 q.2 k with | some r => some (.a r) | none => none)
      | none => none)
    | some false => (match aload M q.1 q.2 1 with | some [u] => some u | _ => none)
    | none => none)
  | _ => none
noncomputable def xstore (P : Program) (G : Nat) (t : TypeId) (a v : V) (M : H) : Option H :=
  match a with
  | .p (some q) => (match sizeQ P t with
    | some k => (match Nat.beq v.cells.length k with | true => astore G M q.1 q.2 v.cells | false => none)
    | none => none)
  | _ => none

/-- What stands when an operation begins. -/
structure Ctx (G base n : Nat) (j : J) (M : H) (w : World) : Prop where
  rel : Rel G base j M w
  g : G ≤ n
  base : base ≤ w.heap.size
def Good (P : Program) (G base n : Nat) (j : J) (M : H) (w : World) (s : Sem Value) (v : V) (M' : H) (n' : Nat) : Prop :=
  ∃ y w' j', s.run P w = .ok y w' ∧ VR j' v y ∧ Post G base n n' j M w j' M' w'

section
variable {P : Program} {G base n n' : Nat} {j j' : J} {M M' : H} {w w' : World}
theorem Ctx.drew (h : Ctx G base n j M w) : Ctx G base n j M w.drew := ⟨h.rel.drew, h.g, h.base⟩
theorem Ctx.post (h : Ctx G base n j M w) (k : Post G base n n' j M w j' M' w') (hn : n ≤ n') : Ctx G base n' j' M' w' := ⟨k.rel, Nat.le_trans h.g hn, Nat.le_trans h.base k.frm.size⟩
theorem good_pur {s : Sem Value} {v : V} (h : Pur P j s v) (c : Ctx G base n j M w) : Good P G base n j M w s v M n := by
  obtain ⟨y, h1, h2⟩ := h w
  exact ⟨y, w, j, h1, h2, .refl c.rel n⟩
/-- A new row of cells. -/
theorem row_new {cs : List V} {ys : List Value} {e : TypeId} {fz : Fz} {v : V} {M' : H} {n' : Nat} {mk : Addr → Value} (h : new M n (.c cs e fz) v = some (v, M', n')) (c : Ctx G base n j M w) (hf : Free n n' j) (hc : VRs j cs ys) (hF : FzOk fz (0, 0) ⟨w.heap.size, 0, ys.length⟩)
    (hv : ∀ (l : Loc) (j' : J), j' n = some l → l.d = 0 → VR j' v (mk ⟨l.g, 0, none⟩)) :
    ∃ j', VR j' v (mk ⟨w.heap.size, 0, none⟩) ∧ Post G base n n' j M w j' M' (w.alloc (.cells ys.toArray e)) := by
  injection h with h
  injection h with _ h
  injection h with h1 h2
  subst h1; subst h2
  have hp := post_cells (e := e) (fz := fz) (fr := (0, 0)) c.rel (fun _ _ hb => T.set_get (f := 24) hb) (hf n (Nat.le_refl _) (by omega)) c.g c.base hc [] (by rw [List.append_nil]; exact hF)
  rw [List.append_nil] at hp
  exact ⟨_, hv _ _ (J.put_at _ _ _) rfl, hp⟩
theorem new_eq {b : B} {v u : V} (h : new M n b v = some (u, M', n')) : u = v ∧ new M n b v = some (v, M', n') := by
  have := h
  injection h with h
  injection h with h _
  subst h
  exact ⟨rfl, this⟩
theorem mk_ptr (l : Loc) (j' : J) (h : j' n = some l) (hd : l.d = 0) : VR j' (.p (some (n, 0))) (.pointer (some ⟨l.g, 0, none⟩)) := by
  simp only [VR]; exact ⟨l, h, by rw [hd]⟩
theorem mk_sl (k c : Nat) (l : Loc) (j' : J) (h : j' n = some l) (hd : l.d = 0) : VR j' (.sl (some (n, 0)) k (.x c)) (.slice (some ⟨l.g, 0, none⟩) k c) := by
  simp only [VR]; exact ⟨l, h, by rw [hd]⟩
theorem xalloc_ok {e : TypeId} {v : V} (h : xalloc P e M n = some (v, M', n')) (c : Ctx G base n j M w) (hf : Free n n' j) : Good P G base n j M w (Instr.alloc e true (.tuple #[])) v M' n' := by
  unfold xalloc at h
  split at h
  · rename_i z hz
    obtain ⟨i, y, h1, h2, h3, h4⟩ := zeroQ_ok hz j
    obtain ⟨rfl, h⟩ := new_eq h
    obtain ⟨j', k1, k2⟩ := row_new (mk := fun a => .pointer (some a)) h c hf h3 ⟨rfl, rfl, h3.len⟩ mk_ptr
    exact ⟨_, _, j', by simp [Instr.alloc, run_zero h1 h2, newVar, newRow], k1, k2⟩
  · cases h
theorem xbox_ok {e : TypeId} {x v : V} {a : Value} (h : xbox e x M n = some (v, M', n')) (c : Ctx G base n j M w) (hf : Free n n' j) (hx : VR j x a) : Good P G base n j M w (Instr.box e a) v M' n' := by
  unfold xbox at h
  obtain ⟨rfl, h⟩ := new_eq h
  obtain ⟨j', k1, k2⟩ := row_new (mk := fun a => .pointer (some a)) h c hf (cells_rel hx) (.inl rfl) mk_ptr
  exact ⟨_, _, j', by simp [Instr.box, newVar, newRow], k1, k2⟩
theorem xbuildSlice_ok {t : TypeId} {len : Nat} {xs : List (Nat × V)} {ys : Array (Nat × Value)} {v : V} (h : xbuildSlice P t len xs M n = some (v, M', n')) (c : Ctx G base n j M w) (hf : Free n n' j) (hp : PR j xs ys.toList) :
    Good P G base n j M w (Instr.buildSlice t len ys) v M' n' := by
  unfold xbuildSlice at h
  split at h
  · rename_i e hu
    split at h
    · rename_i z s hz hs
      split at h
      · rename_i r hl hr
        have hl := Nat.le_of_ble_eq_true hl
        obtain ⟨i, y, h1, h2, h3, h4, h5, h6⟩ := zrow_ok hz j
        have hsi : i.size = s := by
          unfold sizeQ at hs; rw [h1] at hs; injection hs
        subst hsi
        obtain ⟨out, q1, q2⟩ := fillV_ok (arr := ((List.range (len * i.size)).map fun k => y.cells[k % y.cells.size]!).toArray) hp (by simpa using h6) hr
        obtain ⟨rfl, h⟩ := new_eq h
        obtain ⟨j', k1, k2⟩ := row_new (mk := fun a => .slice (some a) len len) h c hf q2 (.inl rfl) (mk_sl len len)
        refine ⟨_, _, j', ?_, k1, k2⟩
        have hm : ∀ Z : Array Value, (len * i.size = 0 ∨ Z = y.cells) → ((Array.range (len * i.size)).map fun k => Z[k % Z.size]!) = ((List.range (len * i.size)).map fun k => y.cells[k % y.cells.size]!).toArray := fun Z hZ => by
          rcases hZ with h0 | rfl
          · simp [h0]
          · apply Array.ext'
            simp
        simp only [Instr.buildSlice, Sem.run_bind, run_underlying hu, Result.andThen_ok, run_size hs]
        rw [if_neg (by omega)]
        by_cases h0 : len * i.size = 0
        · rw [if_pos h0]
          simp only [Sem.run_bind, Sem.run_pure, Result.andThen_ok, hm _ (.inl h0), q1, newRow, run_newObj_alloc]
        · rw [if_neg h0]
          simp only [Sem.run_bind, Sem.run_pure, Result.andThen_ok, run_zero h1 h2, hm _ (.inr rfl), q1, newRow, run_newObj_alloc]
      · cases h
    · cases h
  · cases h
theorem wrap_id (k : Nat) (h : k ≤ 1000000000) : IntKind.i64.wrap (Int.ofNat k) = (k : Int) := by
  have e : (2 : Int) ^ IntKind.i64.bits = 18446744073709551616 := by decide
  have e2 : (2 : Int) ^ (IntKind.i64.bits - 1) = 9223372036854775808 := by decide
  unfold IntKind.wrap
  simp only [e, e2, Int.ofNat_eq_natCast]
  have hm : (k : Int) % 18446744073709551616 = k := by omega
  rw [hm]
  have : ¬ ((k : Int) ≥ 9223372036854775808) := by omega
  simp [this]
theorem xmakeSlice_ok {t : TypeId} {l k v : V} {a b : Value} (h : xmakeSlice P t l k M n = some (v, M', n')) (c : Ctx G base n j M w) (hf : Free n n' j) (hl : VR j l a) (hk : VR j k b) :
    Good P G base n j M w (Instr.makeSlice t a b) v M' n' := by
  unfold xmakeSlice at h
  split at h
  · rename_i e kl len kk cap hu
    simp only [VR] at hl hk
    subst hl; subst hk
    split at h
    · rename_i i z hi hz
      split at h
      · rename_i c1 c2 c3
        have c1 := Nat.le_of_ble_eq_true c1
        have c2 := Nat.le_of_ble_eq_true c2
        have c3 := Nat.le_of_ble_eq_true c3
        obtain ⟨i', y, h1, h2, h3, h4, h5, h6⟩ := zrow_ok hz j
        have hii : i' = i := by rw [hi] at h1; injection h1 with h1; exact h1.symm
        subst hii
        obtain ⟨rfl, h⟩ := new_eq h
        obtain ⟨j', k1, k2⟩ := row_new (mk := fun a => .slice (some a) len cap) h c hf h6 (.inl rfl) (mk_sl len cap)
        refine ⟨_, _, j', ?_, k1, k2⟩
        have hs : sizeQ P e = some i'.size := by simp [sizeQ, hi]
        have w1 : IntKind.i64.wrap (Int.ofNat len) = (len : Int) := wrap_id _ (by omega)
        have w2 : IntKind.i64.wrap (Int.ofNat cap) = (cap : Int) := wrap_id _ (by omega)
        have hm : ∀ Z : Array Value, (cap * i'.size = 0 ∨ Z = y.cells) → ((Array.range (cap * i'.size)).map fun k => Z[k % Z.size]!) = ((List.range (cap * i'.size)).map fun k => y.cells[k % y.cells.size]!).toArray := fun Z hZ => by
          rcases hZ with h0 | rfl
          · simp [h0]
          · apply Array.ext'
            simp
        have t1 : ¬ ((cap : Int) < 0) := by omega
        have t2 : ¬ ((i'.bytes : Int) * (cap : Int) > 2 ^ 48) := by
          have : ((i'.bytes : Int) * (cap : Int)) = ((i'.bytes * cap : Nat) : Int) := by push_cast; rfl
          rw [this]
          have : (2 : Int) ^ 48 = 281474976710656 := by decide
          omega
        have t3 : ¬ ((len : Int) < 0) := by omega
        have t4 : ¬ ((len : Int) > (cap : Int)) := by omega
        simp only [Instr.makeSlice, Sem.run_bind, run_underlying hu, Result.andThen_ok, asInt, asIntOf, Sem.run_pure, typeInfo, run_program, hi, w1, w2]
        simp only [t1, t2, t3, t4, decide_false, Bool.or_false, Bool.false_eq_true, if_false, Sem.run_bind, run_askRoom, Result.andThen_ok, Int.toNat_natCast, run_size hs]
        by_cases h0 : cap * i'.size = 0
        · rw [if_pos h0]
          simp only [Sem.run_bind, Sem.run_pure, Result.andThen_ok, hm _ (.inl h0), newRow, run_newObj_alloc]
        · rw [if_neg h0]
          simp only [Sem.run_bind, Sem.run_pure, Result.andThen_ok, run_zero h1 h2, hm _ (.inr rfl), newRow, run_newObj_alloc]
      · cases h
    · cases h
  · cases h
theorem xmakeMap_ok {t : TypeId} {v : V} (h : xmakeMap M n = some (v, M', n')) (c : Ctx G base n j M w) (hf : Free n n' j) : Good P G base n j M w (Instr.makeMap t none) v M' n' := by
  unfold xmakeMap at h
  obtain ⟨rfl, h⟩ := new_eq h
  injection h with h
  injection h with _ h
  injection h with h1 h2
  subst h1; subst h2
  refine ⟨_, _, _, by simp [Instr.makeMap]; exact ⟨rfl, rfl⟩, ?_, post_new (d := 0) (lim := 0) c.rel (fun _ _ hb => T.set_get (f := 24) hb) (hf n (Nat.le_refl _) (by omega)) c.g c.base ⟨#[], ?_, rfl⟩⟩
  · simp only [VR]; exact ⟨_, J.put_at _ _ _, rfl⟩
  · show (w.heap.push _)[w.heap.size]? = _
    simp
theorem xload_ok {t : TypeId} {v u : V} {a : Value} (h : xload P t v M = some u) (c : Ctx G base n j M w) (hv : VR j v a) : ∃ y, (Instr.loadAt t a).run P w = .ok y w ∧ VR j u y := by
  unfold xload at h
  split at h
  · rename_i q
    simp only [VR] at hv
    obtain ⟨l, h1, rfl⟩ := hv
    split at h
    · rename_i ha
      split at h
      · rename_i k hk
        split at h
        · rename_i r hr
          injection h with h
          subst h
          obtain ⟨l', h2, ys, h3, h4, h5⟩ := aload_run (P := P) c.rel hr
          rw [h1] at h2
          injection h2 with h2
          subst h2
          refine ⟨.agg ys.toArray, ?_, by simp only [VR]; exact ⟨ys, h3, rfl⟩⟩
          simp only [Instr.loadAt, Instr.sureAddr, loadVar, Sem.run_bind, Sem.run_pure, Result.andThen_ok, run_isAgg ha, if_true, run_size hk, h5]
        · cases h
      · cases h
    · rename_i ha
      split at h
      · rename_i u' hr
        injection h with h
        subst h
        obtain ⟨l', h2, y, h3, h4⟩ := aload_one c.rel hr
        rw [h1] at h2
        injection h2 with h2
        subst h2
        refine ⟨y, ?_, h3⟩
        simp [Instr.loadAt, Instr.sureAddr, loadVar, run_isAgg ha, h4]
      · cases h
    · cases h
  · cases h
theorem xstore_ok {t : TypeId} {x v : V} {a b : Value} (h : xstore P G t x v M = some M') (c : Ctx G base n j M w) (hx : VR j x a) (hv : VR j v b) :
    ∃ w', (Instr.storeAt t a b).run P w = .ok () w' ∧ Post G base n n j M w j M' w' := by
  unfold xstore at h
  split at h
  · rename_i q
    simp only [VR] at hx
    obtain ⟨l, h1, rfl⟩ := hx
    split at h
    · rename_i k hk
      split at h
      · rename_i hb
        have hb := Nat.eq_of_beq_eq_true hb
        have hc := cells_rel hv
        obtain ⟨l', h2, w', h3, h4⟩ := astore_run (P := P) c.rel h hc n
        rw [h1] at h2
        injection h2 with h2
        subst h2
        refine ⟨w', ?_, h4⟩
        have : b.cells.size = k := by have := hc.len; simp only [Array.length_toList] at this; omega
        simp [Instr.storeAt, Instr.sureAddr, storeVar, run_size hk, this, h3]
      · cases h
    · cases h
  · cases h
end
end Eng
end Go.Proofs.YtjoinnjhpfakpaaGreatDoor
namespace Go.Proofs.YtjoinnjhpfakpaaGreatDoor
namespace Eng
open Go.RowKit

def bytesV : List UInt8 → List V
  | [] => []
  | b :: l => .i .u8 (b.toNat : Int) :: bytesV l
/-- What an append appends, and how many of it. -/
noncomputable def xnews (P : Program) (xT e : TypeId) (z : Nat) (x : V) (M : H) : Option (List V × Nat) :=
  match P.underlying xT with
  | some (.int _) => (match x with
    | .i _ (.ofNat k) => (match Nat.ble k 1000000, P.info? e with
      | true, some i => (match Nat.ble i.bytes 10000, zrow P e k with | true, some r => some (r, k) | _, _ => none)
      | _, _ => none)
    | _ => none)
  | some (.slice _) => (match x with
    | .sl none _ _ => some ([], 0)
    | .sl (some q) k _ => (match aload M q.1 q.2 (k * z) with | some r => some (r, k) | none => none)
    | .se => some ([], 0)
    | _ => none)
  | some .string => (match x with
    | .s l => (match Nat.beq z 1 with | true => some (bytesV l, l.length) | false => none)
    | _ => none)
  | _ => none
noncomputable def grown (e : TypeId) (z n : Nat) (old news : List V) (need : Nat) (M0 : H) (fz : Fz) : R :=
  some (.sl (some (n, 0)) need (.u z), T.set 24 M0 n (some (.c (old ++ news) e fz)), n + 1)
def subF (fz : Fz) (k : Nat) : Fz := match fz with | .n q => .n (q - k) | .s => .s | .w _ => .n 0 | .u => .u
noncomputable def xappend (P : Program) (G : Nat) (sT xT : TypeId) (s x : V) (M : H) (n : Nat) : R :=
  match P.underlying sT with
  | some (.slice e) => (match zeroQ P e, P.info? e with
    | some _, some i => (match xnews P xT e i.size x M, Nat.ble i.bytes 10000 with
      | some (news, m), true => (match s with
        | .sl none _ _ => (match m with
          | 0 => some (.sl none 0 (.x 0), M, n)
          | k + 1 => (match Nat.ble (k + 1) 1000000 with | true => grown e i.size n [] news (k + 1) M (.n 0) | false => none))
        | .sl (some q) k (.x c) => (match Nat.ble k c, Nat.ble (k + m) c with
          | true, true => (match astore G M q.1 (q.2 + k * i.size) news with | some M' => some (.sl (some q) (k + m) (.x c), M', n) | none => none)
          | true, false => (match aload M q.1 q.2 (k * i.size), Nat.ble (k + m) 1000000 with | some old, true => grown e i.size n old news (k + m) M (.n 0) | _, _ => none)
          | _, _ => none)
        | .sl (some q) k (.u z) => (match Nat.beq z i.size, m with
          | true, 0 => some (.sl (some q) k (.u z), M, n)
          | true, m + 1 => (match aload M q.1 q.2 (k * i.size), Nat.ble (k + (m + 1)) 1000000, M.get q.1, Nat.ble G q.1 with
            | some old, true, some (.c _ e' fz), true => (match Nat.beq e' e, okW fz (q.2 + k * i.size), allOne news, Nat.beq news.length ((m + 1) * i.size) with
              | true, true, true, true => grown e i.size n old news (k + (m + 1)) (T.set 24 M q.1 none) (subF fz q.2)
              | _, _, _, _ => none)
            | _, _, _, _ => none)
          | _, _ => none)
        | _ => none)
      | _, _ => none)
    | _, _ => none)
  | _ => none

section
variable {P : Program} {G base n n' : Nat} {j j' : J} {M M' : H} {w w' : World}
theorem bytesV_rel (j : J) : ∀ l : List UInt8, VRs j (bytesV l) (l.map fun b => .int .u8 (b.toNat : Int))
  | [] => .nil j
  | b :: l => .cons (by simp only [VR]) (bytesV_rel j l)
theorem growBy_le (need : Nat) : ∀ r c, Builtin.growBy need r c ≤ max c (need + (need + 768) / 4)
  | 0, c => by unfold Builtin.growBy; omega
  | r + 1, c => by
    unfold Builtin.growBy
    split
    · omega
    · have := growBy_le need r (c + (c + 768) / 4)
      omega
theorem nextcap_le {need old : Nat} (h : old < need) : Builtin.nextslicecap need old ≤ 4 * need + 4000 := by
  unfold Builtin.nextslicecap
  split
  · omega
  · split
    · omega
    · have := growBy_le need 4 old
      omega
/-- What is appended, as the program finds it. -/
def isIntD : TypeDesc → Bool
  | .int _ => true
  | _ => false
structure News (P : Program) (j : J) (e xT : TypeId) (i : TypeInfo) (x : Value) (news : List V) (m : Nat) (ys : List Value) (d : TypeDesc) : Prop where
  u : P.underlying xT = some d
  rel : VRs j news ys
  len : ys.length = m * i.size
  no : isIntD d = false → (∃ u, d = .slice u) ∨ d = .string
  zs : isIntD d = true → ∃ k, x = .int k (m : Int) ∧ m ≤ 1000000 ∧ i.bytes ≤ 10000 ∧ ∃ y, i.zero = some y ∧ 0 < i.size ∧ y.cells.size = i.size ∧ ys = (List.range (m * i.size)).map fun k => y.cells[k % y.cells.size]!
theorem xnews_ok {xT e : TypeId} {i : TypeInfo} {x : V} {a : Value} {news : List V} {m : Nat} (h : xnews P xT e i.size x M = some (news, m)) (hi : P.info? e = some i) (hr : Rel G base j M w) (hx : VR j x a) :
    ∃ ys d, News P j e xT i a news m ys d ∧ (isIntD d = false → (Builtin.lenOf a).run P w = .ok m w ∧ (Builtin.firstCells i.size m a).run P w = .ok ys.toArray w ∧ (Builtin.firstCells i.size m a).run P w.drew = .ok ys.toArray w.drew) := by
  unfold xnews at h
  split at h
  · rename_i kk hu
    split at h
    · rename_i kx k
      split at h
      · rename_i i' hk hi'
        rw [hi] at hi'
        injection hi' with hi'
        subst hi'
        split at h
        · rename_i r hb hz
          injection h with h
          injection h with e1 e2
          subst e1; subst e2
          obtain ⟨i2, y, a1, a2, a3, a4, a5, a6⟩ := zrow_ok hz j
          rw [hi] at a1
          injection a1 with a1
          subst a1
          simp only [VR] at hx
          subst hx
          exact ⟨_, _, ⟨hu, a6, by simp, (fun q => by cases q), fun _ => ⟨kx, rfl, Nat.le_of_ble_eq_true hk, Nat.le_of_ble_eq_true hb, y, a2, a3, a5, rfl⟩⟩, fun e => by cases e⟩
        · cases h
      · cases h
    · cases h
  · rename_i u hu
    split at h
    · injection h with h
      injection h with e1 e2
      subst e1; subst e2
      simp only [VR] at hx
      subst hx
      exact ⟨[], _, ⟨hu, .nil j, by simp, fun _ => .inl ⟨_, rfl⟩, fun e => by cases e⟩, fun _ => ⟨rfl, rfl, rfl⟩⟩
    · rename_i q k c
      split at h
      · rename_i r hl
        injection h with h
        injection h with e1 e2
        subst e1; subst e2
        have : ∃ l c, j q.1 = some l ∧ a = .slice (some ⟨l.g, l.d + q.2, none⟩) k c := by
          cases c <;> simp only [VR] at hx
          · obtain ⟨l, h1, h2⟩ := hx; exact ⟨l, _, h1, h2⟩
          · obtain ⟨l, c, h1, h2, _⟩ := hx; exact ⟨l, _, h1, h2⟩
        obtain ⟨l, c, k1, rfl⟩ := this
        obtain ⟨l', k2, ys, k3, k4, k5⟩ := aload_at hr hl
        rw [k1] at k2
        injection k2 with k2
        subst k2
        refine ⟨ys, _, ⟨hu, k4, k3, fun _ => .inl ⟨_, rfl⟩, fun e => by cases e⟩, fun _ => ⟨rfl, ?_, ?_⟩⟩
        · unfold Builtin.firstCells
          rw [← k3]
          exact run_loadCells_list w _ ys fun i y hy => by rw [addr_add]; exact k5 i y hy
        · unfold Builtin.firstCells
          rw [← k3]
          exact run_loadCells_list w.drew _ ys fun i y hy => by rw [addr_add]; exact k5 i y hy
      · cases h
    · injection h with h
      injection h with e1 e2
      subst e1; subst e2
      simp only [VR] at hx
      obtain ⟨a, c, rfl⟩ := hx
      refine ⟨[], _, ⟨hu, .nil j, by simp, fun _ => .inl ⟨_, rfl⟩, fun e => by cases e⟩, fun _ => ⟨rfl, ?_, ?_⟩⟩ <;> cases a <;> simp [Builtin.firstCells, loadCells, loadCellsFrom]
    · cases h
  · rename_i hu
    split at h
    · rename_i l
      split at h
      case h_2 => cases h
      rename_i hs
      have hs := Nat.eq_of_beq_eq_true hs
      injection h with h
      injection h with e1 e2
      subst e1; subst e2
      simp only [VR] at hx
      subst hx
      have he : (ByteArray.mk l.toArray).extract 0 l.length = ByteArray.mk l.toArray := by
        apply ByteArray.ext
        simp
      have hf : ∀ w', (Builtin.firstCells i.size l.length (.string ⟨l.toArray⟩)).run P w' = .ok (l.map fun b => Value.int .u8 (b.toNat : Int)).toArray w' := fun w' => by
        simp [Builtin.firstCells, he]
      refine ⟨_, _, ⟨hu, bytesV_rel j l, by simp [hs], fun _ => .inr rfl, fun e => by cases e⟩, fun _ => ⟨?_, hf w, hf w.drew⟩⟩
      simp [Builtin.lenOf, bsize]
    · cases h
  · cases h
theorem run_append_room {sT xT e ty : TypeId} {i : TypeInfo} {b : Value} {news : List V} {m k c : Nat} {ys : List Value} {d : TypeDesc} {ad : Addr} (hu : P.underlying sT = some (.slice e)) (hi : P.info? e = some i)
    (hN : News P j e xT i b news m ys d) (hF : isIntD d = false → (Builtin.lenOf b).run P w = .ok m w ∧ (Builtin.firstCells i.size m b).run P w = .ok ys.toArray w) (hk : k + m ≤ c) (hs : (storeCells (ad.add (k * i.size)) ys).run P w = .ok () w') :
    (Builtin.append_ #[sT, xT] ty #[.slice (some ad) k c, b]).run P w = .ok (.slice (some ad) (k + m) c) w' := by
  have hsz : (sizeOf e).run P w = .ok i.size w := by simp [sizeOf, typeInfo, hi]
  cases hz : isIntD d with
  | true =>
    obtain ⟨kk, rfl, h1, h2, y, h3, h4, h5, rfl⟩ := hN.zs hz
    cases d <;> first | (cases hz; done) | skip
    have w1 : IntKind.i64.wrap (m : Int) = (m : Int) := wrap_id m (by omega)
    have t1 : ¬ ((m : Int) < 0) := by omega
    have t2 : ¬ (281474976710656 < (m : Int) * (i.bytes : Int)) := by
      have : (m : Int) * (i.bytes : Int) = ((m * i.bytes : Nat) : Int) := by push_cast; rfl
      rw [this]
      have : m * i.bytes ≤ 1000000 * 10000 := Nat.mul_le_mul h1 h2
      omega
    have hz2 : Builtin.zeroCells y.cells m = ((List.range (m * i.size)).map fun k => y.cells[k % y.cells.size]!).toArray := by
      unfold Builtin.zeroCells
      rw [h5]
      apply Array.ext'
      simp
    by_cases h0 : m * i.size = 0
    · have : ((List.range (m * i.size)).map fun k => y.cells[k % y.cells.size]!) = [] := by simp [h0]
      rw [this] at hs
      simp [Builtin.append_, run_underlying hu, run_underlying hN.u, hsz, asInt, asIntOf, w1, t1, t2, typeInfo, hi, hk, h0, hs]
    · simp [Builtin.append_, run_underlying hu, run_underlying hN.u, hsz, asInt, asIntOf, w1, t1, t2, typeInfo, hi, hk, h0, run_zero hi h3, hz2, hs]
  | false =>
    obtain ⟨h1, h2⟩ := hF hz
    rcases hN.no hz with ⟨u, rfl⟩ | rfl <;> simp [Builtin.append_, run_underlying hu, run_underlying hN.u, hsz, h1, h2, hk, hs]
theorem run_append_grow {sT xT e ty : TypeId} {i : TypeInfo} {b : Value} {news : List V} {m k c : Nat} {ys old : List Value} {d : TypeDesc} {ao : Option Addr} {y : Value} (hu : P.underlying sT = some (.slice e)) (hi : P.info? e = some i) (hy : i.zero = some y)
    (hN : News P j e xT i b news m ys d) (hF : isIntD d = false → (Builtin.lenOf b).run P w = .ok m w ∧ (Builtin.firstCells i.size m b).run P w.drew = .ok ys.toArray w.drew) (hk : ¬ k + m ≤ c) (hm : k + m ≤ 1000000) (hb : i.bytes ≤ 10000)
    (ho : (Builtin.firstCells i.size k (.slice ao k c)).run P w.drew = .ok old.toArray w.drew) :
    ∃ cap rest, (k + m ≤ cap ∧ cap < 2 ^ 63) ∧ rest.length = (cap - (k + m)) * y.cells.size ∧ (Builtin.append_ #[sT, xT] ty #[.slice ao k c, b]).run P w = .ok (.slice (some ⟨w.heap.size, 0, none⟩) (k + m) cap) (w.drew.alloc (.cells (old ++ ys ++ rest).toArray e)) := by
  have hsz : ∀ w, (sizeOf e).run P w = .ok i.size w := fun w => by simp [sizeOf, typeInfo, hi]
  have n1' : ¬ (9223372036854775807 < (k : Int) + (m : Int)) := by omega
  have n2 : ¬ (281474976710656 < Builtin.nextslicecap (k + m) c * i.bytes) := by
    have h1 := nextcap_le (need := k + m) (old := c) (by omega)
    have h2 : Builtin.nextslicecap (k + m) c * i.bytes ≤ 4004000 * 10000 := Nat.mul_le_mul (by omega) hb
    omega
  let cap := (Question.appendCap (k + m) c e).cut (w.tape w.drawn (.appendCap (k + m) c e))
  have hcap : k + m ≤ cap ∧ cap < 2 ^ 63 := by
    show k + m ≤ (k + m) + w.tape w.drawn (.appendCap (k + m) c e) % (2 ^ 63 - (k + m)) ∧ (k + m) + w.tape w.drawn (.appendCap (k + m) c e) % (2 ^ 63 - (k + m)) < 2 ^ 63
    have := Nat.mod_lt (w.tape w.drawn (.appendCap (k + m) c e)) (show 0 < 2 ^ 63 - (k + m) by omega)
    omega
  refine ⟨cap, (Builtin.zeroCells y.cells (cap - (k + m))).toList, hcap, by simp [Builtin.zeroCells], ?_⟩
  have hq : (Question.appendCap (k + m) c e).forced = false := rfl
  cases hz : isIntD d with
  | true =>
    obtain ⟨kk, rfl, h1, h2, y', h3, h4, h5, rfl⟩ := hN.zs hz
    have : y' = y := by rw [hy] at h3; injection h3 with h3; exact h3.symm
    subst this
    cases d <;> first | (cases hz; done) | skip
    have w1 : IntKind.i64.wrap (m : Int) = (m : Int) := wrap_id m (by omega)
    have t1 : ¬ ((m : Int) < 0) := by omega
    have t2 : ¬ (281474976710656 < (m : Int) * (i.bytes : Int)) := by
      have : (m : Int) * (i.bytes : Int) = ((m * i.bytes : Nat) : Int) := by push_cast; rfl
      rw [this]
      have : m * i.bytes ≤ 1000000 * 10000 := Nat.mul_le_mul h1 h2
      omega
    have hz2 : Builtin.zeroCells y'.cells m = ((List.range (m * i.size)).map fun k => y'.cells[k % y'.cells.size]!).toArray := by
      unfold Builtin.zeroCells
      rw [h5]
      apply Array.ext'
      simp
    by_cases h0 : m * i.size = 0
    · have : ((List.range (m * i.size)).map fun k => y'.cells[k % y'.cells.size]!) = [] := by simp [h0]
      rw [this]
      simp [Builtin.append_, run_underlying hu, run_underlying hN.u, hsz, asInt, asIntOf, w1, t1, t2, typeInfo, hi, hk, h0, n1', n2, hq, ho, run_zero hi hy, newRow, cap]
      refine congrArg (fun x => w.drew.alloc (.cells x e)) ?_
      apply Array.ext'
      simp
    · simp [Builtin.append_, run_underlying hu, run_underlying hN.u, hsz, asInt, asIntOf, w1, t1, t2, typeInfo, hi, hk, h0, n1', n2, hq, ho, run_zero hi hy, hz2, newRow, cap]
      refine congrArg (fun x => w.drew.alloc (.cells x e)) ?_
      apply Array.ext'
      simp
  | false =>
    obtain ⟨h1, h2⟩ := hF hz
    rcases hN.no hz with ⟨u, rfl⟩ | rfl
    all_goals
      simp [Builtin.append_, run_underlying hu, run_underlying hN.u, hsz, h1, h2, typeInfo, hi, hk, n1', n2, hq, ho, run_zero hi hy, newRow, cap]
      refine congrArg (fun x => w.drew.alloc (.cells x e)) ?_
      apply Array.ext'
      simp
/-- A row that has moved elsewhere. -/
theorem grow_post {e : TypeId} {z : Nat} {old news : List V} {yo ys rest : List Value} {need cap : Nat} {M0 : H} {fz : Fz} {v : V} (h : grown e z n old news need M0 fz = some (v, M', n')) (c : Ctx G base n j M w) (hf : Free n n' j)
    (hM0 : ∀ id b, M0.get id = some b → M.get id = some b) (h1 : VRs j old yo) (h2 : VRs j news ys) (hF : FzOk fz (0, 0) ⟨w.heap.size, 0, (yo ++ ys ++ rest).length⟩) (hc : need ≤ cap ∧ cap < 2 ^ 63) (hl : cap * z ≤ (yo ++ ys ++ rest).length) :
    ∃ j', VR j' v (.slice (some ⟨w.heap.size, 0, none⟩) need cap) ∧ Post G base n n' j M w j' M' (w.drew.alloc (.cells (yo ++ ys ++ rest).toArray e)) := by
  injection h with h
  injection h with e1 h
  injection h with e2 e3
  subst e1; subst e2; subst e3
  have hp := post_cells (M' := T.set 24 M0 n (some (.c (old ++ news) e fz))) (n := n) (e := e) (fr := (0, 0)) c.rel.drew (fun id b' hb => by
    rcases T.set_get hb with q | ⟨q1, q2⟩
    · exact .inl q
    · exact .inr ⟨q1, hM0 _ _ q2⟩) (hf n (Nat.le_refl _) (by omega)) c.g c.base (h1.app h2) rest hF
  refine ⟨_, ?_, hp.drew0⟩
  simp only [VR]
  exact ⟨_, cap, J.put_at _ _ _, rfl, hc.1, by simpa using hl, hc.2⟩
theorem xappend_ok {sT xT ty : TypeId} {s x v : V} {a b : Value} (h : xappend P G sT xT s x M n = some (v, M', n')) (c : Ctx G base n j M w) (hf : Free n n' j) (hs : VR j s a) (hx : VR j x b) :
    Good P G base n j M w (Builtin.append_ #[sT, xT] ty #[a, b]) v M' n' := by
  unfold xappend at h
  split at h
  case h_2 => cases h
  rename_i e hu
  split at h
  case h_2 => cases h
  rename_i z0 i hz0 hi
  obtain ⟨i', y, hi', hy, hy2, hy3⟩ := zeroQ_ok hz0 j
  rw [hi] at hi'
  injection hi' with hi'
  subst hi'
  have hcs : y.cells.size = i.size := by have := hy2.len; simp only [Array.length_toList] at this; omega
  split at h
  case h_2 => cases h
  rename_i news m hn hby
  have hby := Nat.le_of_ble_eq_true hby
  obtain ⟨ys, d, hN, hF⟩ := xnews_ok hn hi c.rel hx
  have hlen := hN.rel.len
  split at h
  · -- nil
    simp only [VR] at hs
    subst hs
    split at h
    · -- nothing
      injection h with h
      injection h with e1 h
      injection h with e2 e3
      subst e1; subst e2; subst e3
      refine ⟨.slice none 0 0, w, j, ?_, by simp only [VR], .refl c.rel n⟩
      have hz : ys = [] := List.length_eq_zero_iff.1 (by rw [hN.len]; simp)
      subst hz
      cases hz : isIntD d with
      | true =>
        obtain ⟨kk, rfl, q1, q2, y', q3, q4, q5, q6⟩ := hN.zs hz
        cases d <;> first | (cases hz; done) | skip
        have w1 : IntKind.i64.wrap 0 = 0 := by decide
        simp [Builtin.append_, run_underlying hu, run_underlying hN.u, sizeOf, typeInfo, hi, asInt, asIntOf, w1]
      | false =>
        obtain ⟨q1, q2, q3⟩ := hF hz
        rcases hN.no hz with ⟨u, rfl⟩ | rfl <;> simp [Builtin.append_, run_underlying hu, run_underlying hN.u, sizeOf, typeInfo, hi, q1, q2]
    · rename_i k
      split at h
      case h_2 => cases h
      rename_i hk
      have hk := Nat.le_of_ble_eq_true hk
      obtain ⟨cap, rest, r1, r2, r3⟩ := run_append_grow (P := P) (ty := ty) (old := []) (ao := none) (k := 0) (c := 0) hu hi hy hN (fun q => ⟨(hF q).1, (hF q).2.2⟩) (by omega) (by omega) hby (by rfl)
      obtain ⟨j', k1, k2⟩ := grow_post (yo := []) (ys := ys) (rest := rest) (cap := cap) h c hf (fun _ _ q => q) (.nil j) hN.rel (.inl rfl) ⟨by omega, r1.2⟩ (by
        rw [List.nil_append, List.length_append, hN.len, r2, hcs, ← Nat.add_mul]
        exact Nat.mul_le_mul_right _ (by omega))
      refine ⟨_, _, j', r3, ?_, k2⟩
      rw [Nat.zero_add]
      exact k1
  · rename_i q k cc
    simp only [VR] at hs
    obtain ⟨l, hl, rfl⟩ := hs
    split at h
    · rename_i hk hkm
      have hkm := Nat.le_of_ble_eq_true hkm
      split at h
      case h_2 => cases h
      rename_i M2 hst
      injection h with h
      injection h with e1 h
      injection h with e2 e3
      subst e1; subst e2; subst e3
      obtain ⟨l', k1, w', k2, k3⟩ := astore_run (P := P) c.rel hst hN.rel n
      rw [hl] at k1
      injection k1 with k1
      subst k1
      refine ⟨_, w', j, run_append_room hu hi hN (fun q => ⟨(hF q).1, (hF q).2.1⟩) hkm (by rw [addr_add, Nat.add_assoc]; exact k2), ?_, k3⟩
      simp only [VR]
      exact ⟨l, hl, rfl⟩
    · rename_i hk hkm
      have hkm : ¬ k + m ≤ cc := fun q => by rw [Nat.ble_eq_true_of_le q] at hkm; cases hkm
      split at h
      case h_2 => cases h
      rename_i old ho hb
      have hb := Nat.le_of_ble_eq_true hb
      obtain ⟨l', k1, yo, k2, k3, k4⟩ := aload_run (P := P) c.rel.drew ho
      rw [hl] at k1
      injection k1 with k1
      subst k1
      obtain ⟨cap, rest, r1, r2, r3⟩ := run_append_grow (P := P) (ty := ty) (old := yo) (ao := some ⟨l.g, l.d + q.2, none⟩) (k := k) (c := cc) hu hi hy hN (fun q => ⟨(hF q).1, (hF q).2.2⟩) hkm hb hby k4
      obtain ⟨j', p1, p2⟩ := grow_post (yo := yo) (ys := ys) (rest := rest) (cap := cap) h c hf (fun _ _ q => q) k2 hN.rel (.inl rfl) ⟨by omega, r1.2⟩ (by
        rw [List.length_append, List.length_append, k3, hN.len, r2, hcs, ← Nat.add_mul, ← Nat.add_mul]
        exact Nat.mul_le_mul_right _ (by omega))
      exact ⟨_, _, j', r3, p1, p2⟩
    · cases h
  · rename_i q k zz
    have hs0 := hs
    simp only [VR] at hs
    obtain ⟨l, cc, hl, rfl, hkc, hlim⟩ := hs
    split at h
    · rename_i hz
      injection h with h
      injection h with e1 h
      injection h with e2 e3
      subst e1; subst e2; subst e3
      refine ⟨_, w, j, run_append_room (P := P) hu hi hN (fun q => ⟨(hF q).1, (hF q).2.1⟩) (by omega) ?_, hs0, .refl c.rel n⟩
      have hz : ys = [] := List.length_eq_zero_iff.1 (by rw [hN.len]; simp)
      subst hz
      rfl
    · rename_i m hz
      have hz := Nat.eq_of_beq_eq_true hz
      subst hz
      split at h
      case h_2 => cases h
      rename_i old cs e' fz ho hb hM hG
      have hb := Nat.le_of_ble_eq_true hb
      have hG := Nat.le_of_ble_eq_true hG
      split at h
      case h_2 => cases h
      rename_i c1 c2 c3 c4
      have c1 := Nat.eq_of_beq_eq_true c1
      subst c1
      have c4 := Nat.eq_of_beq_eq_true c4
      by_cases hkm : k + (m + 1) ≤ cc
      · obtain ⟨lo, k1, yo, k2, k3, k4⟩ := aload_at c.rel ho
        rw [hl] at k1
        injection k1 with k1
        subst k1
        obtain ⟨l', k1, arr, fr, g1, g2, g3, g4⟩ := c.rel.ok _ _ hM
        rw [hl] at k1
        injection k1 with k1
        subst k1
        have hyl : ys.length = (m + 1) * i.size := hN.len
        have hmul : (k + (m + 1)) * i.size ≤ cc * i.size := Nat.mul_le_mul_right _ hkm
        rw [Nat.add_mul] at hmul
        obtain ⟨w', arr', s1, s2⟩ := run_storeCells_any (P := P) l.g (l.d + q.2 + k * i.size) e' fr ys 0 arr w g1 (by rw [hyl]; omega)
          (fun p p1 p2 => by
            have := okW_ok c2 g4 (p - l.d) (by omega) (by rw [hyl] at p2; omega)
            rwa [show l.d + (p - l.d) = p by omega] at this) (allOne_rel hN.rel c3)
        have hrun := run_append_room (P := P) (ty := ty) (ad := ⟨l.g, l.d + q.2, none⟩) hu hi hN (fun q => ⟨(hF q).1, (hF q).2.1⟩) hkm (by rw [addr_add]; exact s1)
        injection h with h
        injection h with e1 h
        injection h with e2 e3
        subst e1; subst e2; subst e3
        have hfn : j n = none := hf n (Nat.le_refl _) (by omega)
        refine ⟨_, w', j.put n ⟨l.g, l.d + q.2, l.lim⟩, hrun, ?_, post_move c.rel hM hl hG hfn c.g rfl s2.os s2.tape s2.output s2.size s2.other ⟨arr', fr, s2.here, by rw [s2.len]; exact g2, fun p v hp => ?_, ?_⟩⟩
        · simp only [VR]
          exact ⟨_, cc, J.put_at _ _ _, rfl, hkm, by simpa using hlim⟩
        · by_cases hp2 : p < old.length
          · rw [List.getElem?_append_left hp2] at hp
            obtain ⟨y1, t1, t2⟩ := k3.at_ hp
            have t3 := k4 _ _ t1
            have t4 : arr[l.d + q.2 + p]? = some y1 := by simpa [World.cell?, g1] using t3
            have := tk_len (show tk (k * i.size) (dr q.2 cs) = some old by unfold aload at ho; rw [hM] at ho; simp only [tkF_eq, drF_eq] at ho; exact ho)
            exact ⟨y1, (s2.old _ (.inl (by simp only; omega))).trans t4, t2.mono (J.put_le hfn)⟩
          · rw [List.getElem?_append_right (by omega)] at hp
            obtain ⟨y1, t1, t2⟩ := hN.rel.at_ hp
            have t3 := s2.new _ _ t1
            have := tk_len (show tk (k * i.size) (dr q.2 cs) = some old by unfold aload at ho; rw [hM] at ho; simp only [tkF_eq, drF_eq] at ho; exact ho)
            refine ⟨y1, ?_, t2.mono (J.put_le hfn)⟩
            rw [← t3]
            congr 1
            simp only
            omega
        · cases fz with
          | n p =>
            rcases g4 with g4 | g4
            · exact .inl g4
            · right; simp only; omega
          | s => exact g4
          | w p => exact .inl g4.1
          | u => trivial
      · obtain ⟨l', k1, yo, k2, k3, k4⟩ := aload_run (P := P) c.rel.drew ho
        rw [hl] at k1
        injection k1 with k1
        subst k1
        obtain ⟨cap, rest, r1, r2, r3⟩ := run_append_grow (P := P) (ty := ty) (old := yo) (ao := some ⟨l.g, l.d + q.2, none⟩) (k := k) (c := cc) hu hi hy hN (fun q => ⟨(hF q).1, (hF q).2.2⟩) hkm hb hby k4
        have hFF : FzOk (subF fz q.2) (0, 0) ⟨w.heap.size, 0, (yo ++ ys ++ rest).length⟩ := by
          cases fz with
          | n p => exact .inl rfl
          | s => exact .inl rfl
          | w p => exact .inl rfl
          | u => trivial
        obtain ⟨j', p1, p2⟩ := grow_post (yo := yo) (ys := ys) (rest := rest) (cap := cap) h c hf (fun id b hq => by
            rcases T.set_get hq with ⟨_, q2⟩ | ⟨_, q2⟩
            · cases q2
            · exact q2) k2 hN.rel hFF ⟨by omega, r1.2⟩ (by
          rw [List.length_append, List.length_append, k3, hN.len, r2, hcs, ← Nat.add_mul, ← Nat.add_mul]
          exact Nat.mul_le_mul_right _ (by omega))
        exact ⟨_, _, j', r3, p1, p2⟩
    · cases h
  · cases h
end
end Eng
end Go.Proofs.YtjoinnjhpfakpaaGreatDoor

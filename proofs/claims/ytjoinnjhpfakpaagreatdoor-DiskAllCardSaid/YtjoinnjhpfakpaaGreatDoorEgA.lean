/-
  A closed run, reckoned: values and memory with numbers of our own for blocks (ids), and how they lie in a world.
  A closed run, reckoned: memory.
  A closed run, reckoned: rows of cells read and written.
  A closed run, reckoned: what operators answer.
-/
import Derived.Test.YtjoinnjhpfakpaaGreatDoorMha
import Derived.ChangeKeysEq
import Derived.Laws.StructEq
import Derived.Shelf.Abstract
namespace Go.Proofs.YtjoinnjhpfakpaaGreatDoor
namespace Eng
open Go.RowKit

/-! ### Trees of numbered things -/
inductive T (α : Type) where
  | e | n (o : Option α) (l r : T α)

noncomputable def T.get {α : Type} (t : T α) : Nat → Option α :=
  T.rec (fun _ => none) (fun o _ _ il ir k => Nat.rec o (fun m _ => Bool.rec (il (Nat.div m 2)) (ir (Nat.div m 2)) (Nat.beq (Nat.mod m 2) 1)) k) t
noncomputable def T.set {α : Type} (f : Nat) : T α → Nat → Option α → T α :=
  Nat.rec (fun _ _ _ => .e) (fun _ ih t k v =>
    T.rec (Nat.rec (.n v .e .e) (fun m _ => Bool.rec (.n none (ih .e (Nat.div m 2) v) .e) (.n none .e (ih .e (Nat.div m 2) v)) (Nat.beq (Nat.mod m 2) 1)) k)
      (fun o l r _ _ => Nat.rec (.n v l r) (fun m _ => Bool.rec (.n o (ih l (Nat.div m 2) v) r) (.n o l (ih r (Nat.div m 2) v)) (Nat.beq (Nat.mod m 2) 1)) k) t) f

section
variable {α : Type}
theorem T.get_e (k : Nat) : (T.e : T α).get k = none := rfl
theorem T.get_n0 (o : Option α) (l r : T α) : (T.n o l r).get 0 = o := rfl
theorem T.get_n (o : Option α) (l r : T α) (m : Nat) : (T.n o l r).get (m + 1) = if m % 2 = 1 then r.get (m / 2) else l.get (m / 2) := by
  show (Bool.rec (l.get (m / 2)) (r.get (m / 2)) (Nat.beq (m % 2) 1) : Option α) = _
  by_cases h : m % 2 = 1
  · rw [h]; rfl
  · have : Nat.beq (m % 2) 1 = false := by
      rcases hq : Nat.beq (m % 2) 1 with _ | _
      · rfl
      · exact absurd (Nat.eq_of_beq_eq_true hq) h
    rw [this, if_neg h]
theorem T.set_0 (t : T α) (k : Nat) (v : Option α) : T.set 0 t k v = .e := rfl
theorem T.set_e0 (f : Nat) (v : Option α) : T.set (f + 1) .e 0 v = .n v .e .e := rfl
theorem T.set_n0 (f : Nat) (o : Option α) (l r : T α) (v : Option α) : T.set (f + 1) (.n o l r) 0 v = .n v l r := rfl
theorem T.set_n (f : Nat) (o : Option α) (l r : T α) (m : Nat) (v : Option α) : T.set (f + 1) (.n o l r) (m + 1) v = if m % 2 = 1 then .n o l (T.set f r (m / 2) v) else .n o (T.set f l (m / 2) v) r := by
  show (Bool.rec (T.n o (T.set f l (m / 2) v) r) (T.n o l (T.set f r (m / 2) v)) (Nat.beq (m % 2) 1) : T α) = _
  by_cases h : m % 2 = 1
  · rw [h]; rfl
  · have : Nat.beq (m % 2) 1 = false := by
      rcases hq : Nat.beq (m % 2) 1 with _ | _
      · rfl
      · exact absurd (Nat.eq_of_beq_eq_true hq) h
    rw [this, if_neg h]
theorem T.set_e (f m : Nat) (v : Option α) : T.set (f + 1) (.e : T α) (m + 1) v = T.set (f + 1) (.n none .e .e) (m + 1) v := rfl
/-- What is read behind a set: what was set, or what was there. -/
theorem T.get_set : ∀ (f : Nat) (t : T α) (k i : Nat) (v : Option α) (x : α), (T.set f t k v).get i = some x → (i = k ∧ v = some x) ∨ (i ≠ k ∧ t.get i = some x)
  | 0, t, k, i, v, x, h => by rw [T.set_0, T.get_e] at h; cases h
  | f + 1, t, k, i, v, x, h => by
    have key : ∀ (o : Option α) (l r : T α), (T.set (f + 1) (.n o l r) k v).get i = some x → (i = k ∧ v = some x) ∨ (i ≠ k ∧ (T.n o l r).get i = some x) := by
      intro o l r h
      cases k with
      | zero =>
        rw [T.set_n0] at h
        cases i with
        | zero => rw [T.get_n0] at h; exact .inl ⟨rfl, h⟩
        | succ q => rw [T.get_n] at h; exact .inr ⟨by omega, by rw [T.get_n]; exact h⟩
      | succ m =>
        rw [T.set_n] at h
        cases i with
        | zero => refine .inr ⟨by omega, ?_⟩; split at h <;> exact h
        | succ q =>
          split at h <;> rename_i hm <;> rw [T.get_n] at h <;> rw [T.get_n] <;> split at h <;> rename_i hq
          · rcases T.get_set f _ _ _ _ _ h with ⟨h1, h2⟩ | ⟨h1, h2⟩
            · exact .inl ⟨by omega, h2⟩
            · exact .inr ⟨by omega, by rw [if_pos hq]; exact h2⟩
          · exact .inr ⟨fun e => hq (by omega), by rw [if_neg hq]; exact h⟩
          · exact .inr ⟨fun e => hm (by omega), by rw [if_pos hq]; exact h⟩
          · rcases T.get_set f _ _ _ _ _ h with ⟨h1, h2⟩ | ⟨h1, h2⟩
            · exact .inl ⟨by omega, h2⟩
            · exact .inr ⟨by omega, by rw [if_neg hq]; exact h2⟩
    cases t with
    | n o l r => exact key o l r h
    | e =>
      cases k with
      | zero =>
        rw [T.set_e0] at h
        cases i with
        | zero => exact .inl ⟨rfl, h⟩
        | succ q => rw [T.get_n] at h; split at h <;> cases h
      | succ m =>
        rw [T.set_e] at h
        rcases key _ _ _ h with h1 | ⟨h1, h2⟩
        · exact .inl h1
        · refine .inr ⟨h1, ?_⟩
          cases i with
          | zero => cases h2
          | succ q => rw [T.get_n] at h2; split at h2 <;> cases h2
end

/-! ### Values -/
/-- How much room a slice has: just so much; or any, its elements being of so many cells. -/
inductive Cap where
  | x (n : Nat) | u (z : Nat)

inductive V where
  | b (x : Bool) | i (k : IntKind) (n : Int) | f (k : FloatKind) (n : Nat) | s (l : List UInt8)
  | p (o : Option (Nat × Nat)) | sl (o : Option (Nat × Nat)) (n : Nat) (c : Cap) | mp (o : Option Nat)
  | qs (id : Nat) | qi (id : Nat) (k : IntKind) (ps : List (BinOp × IntKind × Int)) (rs : List (List (BinOp × IntKind × Int) × Int))
  | fn (f : FuncId) (cs : List V) | yf (id : Nat) | nf | ic (t : TypeId) (v : V) | ni | a (l : List V) | t (l : List V) | un | se

def xint (op : BinOp) (k : IntKind) (a b : Int) : Option V :=
  match op with
  | .add => some (.i k (k.wrap (a + b)))
  | .sub => some (.i k (k.wrap (a - b)))
  | .mul => some (.i k (k.wrap (a * b)))
  | .quo => match decide (b = 0) with | true => none | false => some (.i k (k.wrap (a.tdiv b)))
  | .rem => match decide (b = 0) with | true => none | false => some (.i k (a.tmod b))
  | .and => some (.i k (k.wrap (BitVec.ofInt k.bits a &&& BitVec.ofInt k.bits b).toNat))
  | .or => some (.i k (k.wrap (BitVec.ofInt k.bits a ||| BitVec.ofInt k.bits b).toNat))
  | .xor => some (.i k (k.wrap (BitVec.ofInt k.bits a ^^^ BitVec.ofInt k.bits b).toNat))
  | .andNot => some (.i k (k.wrap (BitVec.ofInt k.bits a &&& ~~~BitVec.ofInt k.bits b).toNat))
  | .eql => some (.b (a == b))
  | .neq => some (.b (a != b))
  | .lss => some (.b (decide (a < b)))
  | .leq => some (.b (decide (a ≤ b)))
  | .gtr => some (.b (decide (a > b)))
  | .geq => some (.b (decide (a ≥ b)))
  | _ => none
def xshift (op : BinOp) (k : IntKind) (a b : Int) : Option V :=
  match decide (b < 0) with
  | true => none
  | false =>
    match op with
    | .shl => some (.i k (k.wrap (a * 2 ^ (min b.toNat k.bits))))
    | .shr => some (.i k (a.fdiv (2 ^ (min b.toNat k.bits))))
    | _ => none
def isShift : BinOp → Bool
  | .shl | .shr => true
  | _ => false
def xii (op : BinOp) (k : IntKind) (a : Int) (k' : IntKind) (b : Int) : Option V :=
  match isShift op with
  | true => xshift op k a b
  | false => (match decide (k = k') with | true => xint op k a b | false => none)
/-- What comes of an int by some operations with others. -/
def pv (k : IntKind) (z : Int) : List (BinOp × IntKind × Int) → Option Int
  | [] => some z
  | (op, k', b) :: ps => (match xii op k z k' b with | some (.i kk r) => (match decide (kk = k) with | true => pv k r ps | false => none) | _ => none)
class Sym where
  val : Value
instance : Sym := ⟨undef⟩
/-- Where the block of an id lies: in block g from cell d on, the block having lim cells; or a value that is not known. -/
structure Loc where
  g : Nat
  d : Nat
  lim : Nat
  [v : Sym]
def Loc.val (l : Loc) : Value := l.v.val
abbrev J := Nat → Option Loc

mutual
def VR (j : J) : V → Value → Prop
  | .b x, y => y = .bool x
  | .i k n, y => y = .int k n
  | .f k n, y => y = .float k n
  | .s l, y => y = .string ⟨l.toArray⟩
  | .p none, y => y = .pointer none
  | .p (some q), y => ∃ l, j q.1 = some l ∧ y = .pointer (some ⟨l.g, l.d + q.2, none⟩)
  | .sl none _ _, y => y = .slice none 0 0
  | .sl (some q) n (.x c), y => ∃ l, j q.1 = some l ∧ y = .slice (some ⟨l.g, l.d + q.2, none⟩) n c
  | .sl (some q) n (.u z), y => ∃ l c, j q.1 = some l ∧ y = .slice (some ⟨l.g, l.d + q.2, none⟩) n c ∧ n ≤ c ∧ l.d + q.2 + c * z ≤ l.lim ∧ c < 2 ^ 63
  | .mp none, y => y = .map none
  | .mp (some id), y => ∃ l, j id = some l ∧ y = .map (some l.g)
  | .fn f cs, y => ∃ ys, VRs j cs ys ∧ y = .func (.func f) #[] ys.toArray
  | .qs id, y => ∃ l s, j id = some l ∧ l.val = .string s ∧ y = .string s
  | .qi id k ps rs, y => ∃ l x z, j id = some l ∧ l.val = .int k x ∧ pv k x ps = some z ∧ y = .int k z ∧ ∀ r, r ∈ rs → pv k x r.1 = some r.2
  | .yf id, y => ∃ l, j id = some l ∧ y = .func (.yield l.g) #[] #[]
  | .nf, y => y = .nilFunc
  | .ic t v, y => ∃ z, VR j v z ∧ y = .iface t z
  | .ni, y => y = .nilIface
  | .a vs, y => ∃ ys, VRs j vs ys ∧ y = .agg ys.toArray
  | .t vs, y => ∃ ys, VRs j vs ys ∧ y = .tuple ys.toArray
  | .un, y => y.oneCell' = true
  | .se, y => ∃ a c, y = .slice a 0 c
def VRs (j : J) : List V → List Value → Prop
  | [], ys => ys = []
  | v :: vs, ys => ∃ z zs, VR j v z ∧ VRs j vs zs ∧ ys = z :: zs
end

def Le (j j' : J) : Prop := ∀ id l, j id = some l → j' id = some l
theorem Le.refl (j : J) : Le j j := fun _ _ h => h
theorem Le.trans {a b c : J} (h : Le a b) (k : Le b c) : Le a c := fun _ _ e => k _ _ (h _ _ e)

mutual
theorem VR.mono {j j' : J} (h : Le j j') : ∀ (v : V) (y : Value), VR j v y → VR j' v y
  | .b _, _, r | .i _ _, _, r | .f _ _, _, r | .s _, _, r | .p none, _, r | .mp none, _, r | .nf, _, r | .ni, _, r | .un, _, r | .se, _, r | .sl none _ _, _, r => by simpa only [VR] using r
  | .p (some q), y, r => by
    simp only [VR] at r ⊢
    obtain ⟨l, h1, h2⟩ := r
    exact ⟨l, h _ _ h1, h2⟩
  | .sl (some q) n (.x c), y, r => by
    simp only [VR] at r ⊢
    obtain ⟨l, h1, h2⟩ := r
    exact ⟨l, h _ _ h1, h2⟩
  | .sl (some q) n (.u z), y, r => by
    simp only [VR] at r ⊢
    obtain ⟨l, c, h1, h2⟩ := r
    exact ⟨l, c, h _ _ h1, h2⟩
  | .mp (some q), y, r => by
    simp only [VR] at r ⊢
    obtain ⟨l, h1, h2⟩ := r
    exact ⟨l, h _ _ h1, h2⟩
  | .yf q, y, r => by
    simp only [VR] at r ⊢
    obtain ⟨l, h1, h2⟩ := r
    exact ⟨l, h _ _ h1, h2⟩
  | .qs q, y, r => by
    simp only [VR] at r ⊢
    obtain ⟨l, s, h1, h2⟩ := r
    exact ⟨l, s, h _ _ h1, h2⟩
  | .qi q _ _ _, y, r => by
    simp only [VR] at r ⊢
    obtain ⟨l, x, z, h1, h2⟩ := r
    exact ⟨l, x, z, h _ _ h1, h2⟩
  | .fn f cs, y, r => by
    simp only [VR] at r ⊢
    obtain ⟨ys, h1, h2⟩ := r
    exact ⟨ys, VRs.mono h cs ys h1, h2⟩
  | .ic t v, y, r => by
    simp only [VR] at r ⊢
    obtain ⟨z, h1, h2⟩ := r
    exact ⟨z, VR.mono h v z h1, h2⟩
  | .a vs, y, r => by
    simp only [VR] at r ⊢
    obtain ⟨ys, h1, h2⟩ := r
    exact ⟨ys, VRs.mono h vs ys h1, h2⟩
  | .t vs, y, r => by
    simp only [VR] at r ⊢
    obtain ⟨ys, h1, h2⟩ := r
    exact ⟨ys, VRs.mono h vs ys h1, h2⟩
theorem VRs.mono {j j' : J} (h : Le j j') : ∀ (vs : List V) (ys : List Value), VRs j vs ys → VRs j' vs ys
  | [], _, r => by simpa only [VRs] using r
  | v :: vs, ys, r => by
    simp only [VRs] at r ⊢
    obtain ⟨z, zs, h1, h2, h3⟩ := r
    exact ⟨z, zs, VR.mono h v z h1, VRs.mono h vs zs h2, h3⟩
end

theorem VRs.len {j : J} : ∀ {vs : List V} {ys : List Value}, VRs j vs ys → ys.length = vs.length
  | [], _, r => by simp only [VRs] at r; simp [r]
  | v :: vs, _, r => by
    simp only [VRs] at r
    obtain ⟨z, zs, _, h2, rfl⟩ := r
    simp [VRs.len h2]
theorem VRs.at_ {j : J} : ∀ {vs : List V} {ys : List Value}, VRs j vs ys → ∀ {i : Nat} {v : V}, vs[i]? = some v → ∃ y, ys[i]? = some y ∧ VR j v y
  | [], _, _, i, v, hi => by simp at hi
  | u :: vs, _, r, i, v, hi => by
    simp only [VRs] at r
    obtain ⟨z, zs, h1, h2, rfl⟩ := r
    cases i with
    | zero => simp only [List.getElem?_cons_zero, Option.some.injEq] at hi; exact ⟨z, rfl, hi ▸ h1⟩
    | succ i => simpa using VRs.at_ h2 (by simpa using hi)
theorem VRs.app {j : J} : ∀ {vs us : List V} {ys zs : List Value}, VRs j vs ys → VRs j us zs → VRs j (vs ++ us) (ys ++ zs)
  | [], us, _, zs, r, k => by simp only [VRs] at r; subst r; exact k
  | v :: vs, us, _, zs, r, k => by
    simp only [VRs] at r
    obtain ⟨z, ys, h1, h2, rfl⟩ := r
    simp only [List.cons_append, VRs]
    exact ⟨z, ys ++ zs, h1, VRs.app h2 k, rfl⟩
theorem VRs.nil (j : J) : VRs j [] [] := by simp only [VRs]
theorem VRs.cons {j : J} {v : V} {vs : List V} {y : Value} {ys : List Value} (h : VR j v y) (k : VRs j vs ys) : VRs j (v :: vs) (y :: ys) := by
  simp only [VRs]; exact ⟨y, ys, h, k, rfl⟩
/-- A list of what is there, one by one. -/
theorem VRs.of_at {j : J} : ∀ {vs : List V} {ys : List Value}, ys.length = vs.length → (∀ (i : Nat) (v : V), vs[i]? = some v → ∃ y, ys[i]? = some y ∧ VR j v y) → VRs j vs ys
  | [], ys, h, _ => by
    simp only [VRs]
    exact List.length_eq_zero_iff.1 h
  | v :: vs, [], h, _ => by simp at h
  | v :: vs, y :: ys, h, k => by
    obtain ⟨z, h1, h2⟩ := k 0 v rfl
    simp only [List.getElem?_cons_zero, Option.some.injEq] at h1
    subst h1
    exact .cons h2 (VRs.of_at (by simpa using h) fun i u hu => k (i + 1) u hu)

/-- A value without any address, as a V. -/
def ofV : Value → Option V
  | .bool x => some (.b x)
  | .int k n => some (.i k n)
  | .float k n => some (.f k n)
  | .string s => some (.s s.data.toList)
  | .pointer none => some (.p none)
  | .slice none 0 0 => some (.sl none 0 (.x 0))
  | .map none => some (.mp none)
  | .func (.func f) ⟨[]⟩ ⟨[]⟩ => some (.fn f [])
  | .nilFunc => some .nf
  | .nilIface => some .ni
  | .tuple ⟨[]⟩ => some (.t [])
  | _ => none
theorem ofV_rel (j : J) : ∀ (x : Value) (v : V), ofV x = some v → VR j v x := by
  intro x v h
  unfold ofV at h
  split at h <;> first | (injection h with h; subst h; simp [VR, VRs]) | cases h
/-- Cells without any address. -/
def ofVs : List Value → Option (List V)
  | [] => some []
  | x :: xs => match ofV x, ofVs xs with | some v, some vs => some (v :: vs) | _, _ => none
theorem ofVs_rel (j : J) : ∀ (xs : List Value) (vs : List V), ofVs xs = some vs → VRs j vs xs
  | [], vs, h => by injection h with h; subst h; exact .nil j
  | x :: xs, vs, h => by
    unfold ofVs at h
    split at h
    · rename_i v us h1 h2
      injection h with h
      subst h
      exact .cons (ofV_rel j x v h1) (ofVs_rel j xs us h2)
    · cases h
/-- Any value without address: a struct's, an array's too. -/
def ofC : Value → Option V
  | .agg cs => match ofVs cs.toList with | some vs => some (.a vs) | none => none
  | .iface t x => match ofV x with | some v => some (.ic t v) | none => none
  | x => ofV x
theorem ofC_rel (j : J) (x : Value) (v : V) (h : ofC x = some v) : VR j v x := by
  unfold ofC at h
  split at h
  · split at h
    · rename_i cs _ vs hv
      injection h with h
      subst h
      simp only [VR]
      exact ⟨cs.toList, ofVs_rel j _ _ hv, by simp⟩
    · cases h
  · split at h
    · rename_i t x _ v hv
      injection h with h
      subst h
      simp only [VR]
      exact ⟨_, ofV_rel j _ _ hv, rfl⟩
    · cases h
  · exact ofV_rel j _ _ h

/-- A value's cells. -/
def V.cells : V → List V
  | .a l => l
  | v => [v]
theorem cells_rel {j : J} {v : V} {y : Value} (h : VR j v y) : VRs j v.cells y.cells.toList := by
  cases v with
  | a l =>
    simp only [VR] at h
    obtain ⟨ys, h1, rfl⟩ := h
    simpa [V.cells, Value.cells] using h1
  | b | i | f | s | nf | ni => simp only [VR] at h; subst h; exact .cons (by simp [VR]) (.nil j)
  | p o =>
    cases o <;> simp only [VR] at h
    · subst h; exact .cons (by simp [VR]) (.nil j)
    · obtain ⟨l, h1, rfl⟩ := h; exact .cons (by simp only [VR]; exact ⟨l, h1, rfl⟩) (.nil j)
  | mp o =>
    cases o <;> simp only [VR] at h
    · subst h; exact .cons (by simp [VR]) (.nil j)
    · obtain ⟨l, h1, rfl⟩ := h; exact .cons (by simp only [VR]; exact ⟨l, h1, rfl⟩) (.nil j)
  | sl o n c =>
    cases o with
    | none => simp only [VR] at h; subst h; exact .cons (by simp [VR]) (.nil j)
    | some q =>
      cases c <;> simp only [VR] at h
      · obtain ⟨l, h1, rfl⟩ := h; exact .cons (by simp only [VR]; exact ⟨l, h1, rfl⟩) (.nil j)
      · obtain ⟨l, c, h1, rfl, h3⟩ := h; exact .cons (by simp only [VR]; exact ⟨l, c, h1, rfl, h3⟩) (.nil j)
  | fn f cs =>
    simp only [VR] at h
    obtain ⟨ys, h1, rfl⟩ := h
    exact .cons (by simp only [VR]; exact ⟨ys, h1, rfl⟩) (.nil j)
  | yf id =>
    simp only [VR] at h
    obtain ⟨l, h1, rfl⟩ := h
    exact .cons (by simp only [VR]; exact ⟨l, h1, rfl⟩) (.nil j)
  | qs id =>
    have h0 : VR j (.qs id) y := h
    simp only [VR] at h
    obtain ⟨l, s, h1, h2, rfl⟩ := h
    exact .cons h0 (.nil j)
  | qi id k ps rs =>
    have h0 : VR j (.qi id k ps rs) y := h
    simp only [VR] at h
    obtain ⟨l, x, z, h1, h2, h3, rfl, _⟩ := h
    exact .cons h0 (.nil j)
  | ic t v =>
    simp only [VR] at h
    obtain ⟨z, h1, rfl⟩ := h
    exact .cons (by simp only [VR]; exact ⟨z, h1, rfl⟩) (.nil j)
  | t l =>
    simp only [VR] at h
    obtain ⟨ys, h1, rfl⟩ := h
    exact .cons (by simp only [VR]; exact ⟨ys, h1, rfl⟩) (.nil j)
  | se =>
    have h0 : VR j .se y := h
    simp only [VR] at h
    obtain ⟨a, c, rfl⟩ := h
    exact .cons h0 (.nil j)
  | un =>
    have h0 : VR j .un y := h
    simp only [VR] at h
    cases y <;> first | (cases h; done) | exact .cons h0 (.nil j)

/-- Values of one cell. -/
def V.one : V → Bool
  | .a _ | .t _ => false
  | _ => true
theorem one_rel {j : J} {v : V} {y : Value} (h : VR j v y) (hv : v.one = true) : y.oneCell' = true := by
  cases v with
  | a l | t l => cases hv
  | b | i | f | s | nf | ni => simp only [VR] at h; subst h; rfl
  | p o =>
    cases o <;> simp only [VR] at h
    · subst h; rfl
    · obtain ⟨l, h1, rfl⟩ := h; rfl
  | mp o =>
    cases o <;> simp only [VR] at h
    · subst h; rfl
    · obtain ⟨l, h1, rfl⟩ := h; rfl
  | sl o n c =>
    cases o with
    | none => simp only [VR] at h; subst h; rfl
    | some q =>
      cases c <;> simp only [VR] at h
      · obtain ⟨l, h1, rfl⟩ := h; rfl
      · obtain ⟨l, c, h1, rfl, h3⟩ := h; rfl
  | fn f cs => simp only [VR] at h; obtain ⟨ys, h1, rfl⟩ := h; rfl
  | yf id => simp only [VR] at h; obtain ⟨l, h1, rfl⟩ := h; rfl
  | qs id => simp only [VR] at h; obtain ⟨l, s, h1, h2, rfl⟩ := h; rfl
  | qi id k ps rs => simp only [VR] at h; obtain ⟨l, x, z, h1, h2, h3, rfl, _⟩ := h; rfl
  | ic t v => simp only [VR] at h; obtain ⟨z, h1, rfl⟩ := h; rfl
  | un => simpa only [VR] using h
  | se => simp only [VR] at h; obtain ⟨a, c, rfl⟩ := h; rfl
end Eng
end Go.Proofs.YtjoinnjhpfakpaaGreatDoor
namespace Go.Proofs.YtjoinnjhpfakpaaGreatDoor
namespace Eng
open Go.RowKit

structure Ent where
  k : V
  v : V
  born : Nat

/-- What is frozen of a block: its first n cells, at most; nothing (but what lies behind its end); nothing of a block that has just k cells; one cannot know. -/
inductive Fz where
  | n (k : Nat) | s | w (k : Nat) | u
def FzOk (fz : Fz) (fr : Nat × Nat) (l : Loc) : Prop := match fz with | .n k => fr.1 = fr.2 ∨ fr.2 ≤ l.d + k | .s => fr.1 = fr.2 ∨ l.lim ≤ fr.1 | .w k => fr.1 = fr.2 ∧ l.d = 0 ∧ l.lim = k | .u => True
/-- May be written from the o-th cell on. -/
def okW (fz : Fz) (o : Nat) : Bool := match fz with | .n k => Nat.ble k o | .s => true | .w _ => true | .u => false
theorem okW_ok {fz : Fz} {fr : Nat × Nat} {l : Loc} {o : Nat} (h : okW fz o = true) (k : FzOk fz fr l) : ∀ i, o ≤ i → l.d + i < l.lim → ¬ (fr.1 ≤ l.d + i ∧ l.d + i < fr.2) := by
  intro i h1 h2
  cases fz with
  | n q =>
    have h := Nat.le_of_ble_eq_true h
    rcases k with k | k <;> omega
  | s => rcases k with k | k <;> omega
  | w q => have := k.1; omega
  | u => cases h
/-- What is known of a block: its first cells; a map's entries; a walk through a map; a range over a function. -/
inductive B where
  | c (cs : List V) (e : TypeId) (fz : Fz) | m (es : List Ent) (clk : Nat)
  | it (m : Option Nat) (since : Nat) (seen : List Nat) (last : Nat)
  | lp (st : LoopState) (pd : Option Code) (ts : T V) (nt : Nat) (ps : List Tmp) (asg body : Code)
abbrev H := T B
abbrev Mem := Nat → Option B
noncomputable instance : Coe H Mem := ⟨T.get⟩

def ER (j : J) : List Ent → List MapEntry → Prop
  | [], ys => ys = []
  | x :: xs, ys => ∃ y zs, ys = y :: zs ∧ VR j x.k y.key ∧ VR j x.v y.val ∧ y.born = x.born ∧ ER j xs zs
theorem ER.mono {j j' : J} (h : Le j j') : ∀ {xs : List Ent} {ys : List MapEntry}, ER j xs ys → ER j' xs ys
  | [], _, r => r
  | _ :: _, _, ⟨y, zs, h1, h2, h3, h4, h5⟩ => ⟨y, zs, h1, h2.mono h, h3.mono h, h4, ER.mono h h5⟩

/-- A block of cells of which the first from l.d on are as told. -/
def CR (j : J) (l : Loc) (w : World) (cs : List V) (e : TypeId) (fz : Fz) : Prop :=
  ∃ arr fr, w.heap[l.g]? = some (.cells arr e fr) ∧ arr.size = l.lim ∧ (∀ (i : Nat) (v : V), cs[i]? = some v → ∃ y, arr[l.d + i]? = some y ∧ VR j v y) ∧ FzOk fz fr l
/-- The place of a map that is walked through. -/
def MR (j : J) : Option Nat → Option Nat → Prop
  | none, x => x = none
  | some id, x => ∃ l, j id = some l ∧ x = some l.g
theorem MR.mono {j j' : J} (h : Le j j') : ∀ {m x : Option Nat}, MR j m x → MR j' m x
  | none, _, r => r
  | some _, _, ⟨l, h1, h2⟩ => ⟨l, h _ _ h1, h2⟩
def BR (j : J) (l : Loc) (w : World) : B → Prop
  | .c cs e fz => CR j l w cs e fz
  | .m es clk => ∃ arr, w.heap[l.g]? = some (.map arr clk) ∧ ER j es arr.toList
  | .it m since seen last => l.d = 0 ∧ ∃ x, w.heap[l.g]? = some (.mapIter x since seen.toArray last) ∧ MR j m x
  | .lp st pd ts nt ps asg body => ∃ fn tmps D, w.heap[l.g]? = some (.loop { state := st, pending := pd, fn, tmps, params := ps.toArray, assign := asg, body, defers := D }) ∧ tmps.size = nt ∧ ∀ t v, ts.get t = some v → ∃ y, tmps[t]? = some y ∧ VR j v y
theorem BR.mono {j j' : J} (h : Le j j') {l : Loc} {w : World} : ∀ {b : B}, BR j l w b → BR j' l w b
  | .c _ _ _, ⟨arr, fr, h1, h2, h3, h4⟩ => ⟨arr, fr, h1, h2, fun i v hv => let ⟨y, a, b⟩ := h3 i v hv; ⟨y, a, b.mono h⟩, h4⟩
  | .m _ _, ⟨arr, h1, h2⟩ => ⟨arr, h1, h2.mono h⟩
  | .it _ _ _ _, ⟨h0, x, h1, h2⟩ => ⟨h0, x, h1, h2.mono h⟩
  | .lp _ _ _ _ _ _ _, ⟨fn, tmps, D, h1, h2, h3⟩ => ⟨fn, tmps, D, h1, h2, fun t v hv => let ⟨y, a, b⟩ := h3 t v hv; ⟨y, a, b.mono h⟩⟩
theorem BR.world {j : J} {l : Loc} {w w' : World} (hw : w'.heap[l.g]? = w.heap[l.g]?) : ∀ {b : B}, BR j l w b → BR j l w' b
  | .c _ _ _, ⟨arr, fr, h1, h2⟩ => ⟨arr, fr, hw.trans h1, h2⟩
  | .m _ _, ⟨arr, h1, h2⟩ => ⟨arr, hw.trans h1, h2⟩
  | .it _ _ _ _, ⟨h0, x, h1, h2⟩ => ⟨h0, x, hw.trans h1, h2⟩
  | .lp _ _ _ _ _ _ _, ⟨fn, tmps, D, h1, h2⟩ => ⟨fn, tmps, D, hw.trans h1, h2⟩
theorem BR.lt {j : J} {l : Loc} {w : World} : ∀ {b : B}, BR j l w b → l.g < w.heap.size
  | .c _ _ _, ⟨_, _, h1, _⟩ => (Array.getElem?_eq_some_iff.1 h1).1
  | .m _ _, ⟨_, h1, _⟩ => (Array.getElem?_eq_some_iff.1 h1).1
  | .it _ _ _ _, ⟨_, _, h1, _⟩ => (Array.getElem?_eq_some_iff.1 h1).1
  | .lp _ _ _ _ _ _ _, ⟨_, _, _, h1, _⟩ => (Array.getElem?_eq_some_iff.1 h1).1

/-- How memory lies in a world: ids below G are the package's variables; all others lie from block base on, each by itself. -/
structure Rel (G base : Nat) (j : J) (M : Mem) (w : World) : Prop where
  ok : ∀ id b, M id = some b → ∃ l, j id = some l ∧ BR j l w b
  glob : ∀ id b l, id < G → M id = some b → j id = some l → l.g = id ∧ l.d = 0
  own : ∀ id b l, G ≤ id → M id = some b → j id = some l → base ≤ l.g
  inj : ∀ id id' b b' l l', M id = some b → M id' = some b' → j id = some l → j id' = some l' → l.g = l'.g → id = id'
/-- What may have turned. -/
structure Frm (G : Nat) (j : J) (M : Mem) (w w' : World) : Prop where
  os : w'.os = w.os
  tape : w'.tape = w.tape
  output : w'.output = w.output
  size : w.heap.size ≤ w'.heap.size
  block : ∀ g, g < w.heap.size → (∀ id b l, G ≤ id → M id = some b → j id = some l → l.g ≠ g) → w'.heap[g]? = w.heap[g]?
structure Post (G base n n' : Nat) (j : J) (M : Mem) (w : World) (j' : J) (M' : Mem) (w' : World) : Prop where
  le : Le j j'
  out : ∀ id, ¬ (n ≤ id ∧ id < n') → j' id = j id
  rel : Rel G base j' M' w'
  frm : Frm G j M w w'
  img : ∀ id b l, M' id = some b → j' id = some l → (∃ id0 b0 l0, M id0 = some b0 ∧ j id0 = some l0 ∧ l0.g = l.g ∧ (G ≤ id → G ≤ id0)) ∨ w.heap.size ≤ l.g
def Free (n n' : Nat) (j : J) : Prop := ∀ id, n ≤ id → id < n' → j id = none

section
variable {G base n n' n1 n2 : Nat} {j j' j1 j2 : J} {M M' M1 M2 : Mem} {w w' w1 w2 : World}
theorem Rel.drew (h : Rel G base j M w) : Rel G base j M w.drew :=
  ⟨fun id b hb => let ⟨l, h1, h2⟩ := h.ok id b hb; ⟨l, h1, h2.world rfl⟩, h.glob, h.own, h.inj⟩
theorem Frm.refl (G : Nat) (j : J) (M : Mem) (w : World) : Frm G j M w w := ⟨rfl, rfl, rfl, Nat.le_refl _, fun _ _ _ => rfl⟩
theorem Frm.drew (h : Frm G j M w w1) : Frm G j M w w1.drew := ⟨h.os, h.tape, h.output, h.size, h.block⟩
theorem Post.refl (h : Rel G base j M w) (n : Nat) : Post G base n n j M w j M w :=
  ⟨.refl j, fun _ _ => rfl, h, .refl G j M w, fun id b l h1 h2 => .inl ⟨id, b, l, h1, h2, rfl, fun h => h⟩⟩
theorem Post.drew (h : Post G base n n' j M w j' M' w') : Post G base n n' j M w j' M' w'.drew := ⟨h.le, h.out, h.rel.drew, h.frm.drew, h.img⟩
theorem Post.drew0 (h : Post G base n n' j M w.drew j' M' w') : Post G base n n' j M w j' M' w' :=
  ⟨h.le, h.out, h.rel, ⟨h.frm.os, h.frm.tape, h.frm.output, h.frm.size, h.frm.block⟩, h.img⟩
theorem Post.trans (h : Post G base n n1 j M w j1 M1 w1) (k : Post G base n1 n2 j1 M1 w1 j2 M2 w2) (a : n ≤ n1) (b : n1 ≤ n2) : Post G base n n2 j M w j2 M2 w2 where
  le := h.le.trans k.le
  out id hid := (k.out id (by omega)).trans (h.out id (by omega))
  rel := k.rel
  frm := by
    refine ⟨k.frm.os.trans h.frm.os, k.frm.tape.trans h.frm.tape, k.frm.output.trans h.frm.output, Nat.le_trans h.frm.size k.frm.size, fun g hg hn => ?_⟩
    refine (k.frm.block g (Nat.lt_of_lt_of_le hg h.frm.size) fun id b l hG hb hl e => ?_).trans (h.frm.block g hg hn)
    rcases h.img id b l hb hl with ⟨id0, b0, l0, a1, a2, a3, a4⟩ | h1
    · exact hn id0 b0 l0 (a4 hG) a1 a2 (a3.trans e)
    · omega
  img id b l hb hl := by
    rcases k.img id b l hb hl with ⟨id0, b0, l0, a1, a2, a3, a4⟩ | h1
    · rcases h.img id0 b0 l0 a1 a2 with ⟨id1, b1, l1, c1, c2, c3, c4⟩ | h2
      · exact .inl ⟨id1, b1, l1, c1, c2, c3.trans a3, fun e => c4 (a4 e)⟩
      · exact .inr (a3 ▸ h2)
    · exact .inr (Nat.le_trans h.frm.size h1)
theorem Free.sub (h : Free n n2 j) (b : n1 ≤ n2) : Free n n1 j := fun id h1 h2 => h id h1 (by omega)
theorem Free.after (h : Free n n2 j) (k : ∀ id, ¬ (n ≤ id ∧ id < n1) → j1 id = j id) (_ : n ≤ n1) : Free n1 n2 j1 := fun id h1 h2 => (k id (by omega)).trans (h id (by omega) h2)
theorem Frm.below (h : Frm G j M w w') (r : Rel G base j M w) (hb : base ≤ w.heap.size) : Below base w w' :=
  ⟨h.os, h.tape, h.output, h.size, fun k hk => h.block k (by omega) fun id b l hG h1 h2 e => by have := r.own id b l hG h1 h2; omega⟩

/-! ### A new block -/
theorem T.set_get {α : Type} {f : Nat} {t : T α} {k i : Nat} {v : Option α} {x : α} (h : (T.set f t k v).get i = some x) : (i = k ∧ v = some x) ∨ (i ≠ k ∧ t.get i = some x) := T.get_set f t k i v x h
def J.put (j : J) (n : Nat) (l : Loc) : J := fun id => if id = n then some l else j id
theorem J.put_le {n : Nat} {l : Loc} (h : j n = none) : Le j (j.put n l) := fun id k hk => by
  unfold J.put
  by_cases e : id = n
  · rw [e, h] at hk; cases hk
  · rw [if_neg e]; exact hk
theorem J.put_at (j : J) (n : Nat) (l : Loc) : j.put n l n = some l := if_pos rfl
theorem J.put_ne {n id : Nat} (l : Loc) (h : id ≠ n) : j.put n l id = j id := if_neg h

/-- A new block, with what is in it. -/
theorem post_new {o : Obj} {b : B} {d lim : Nat} (h : Rel G base j M w) (hM : ∀ id b', M' id = some b' → (id = n ∧ some b = some b') ∨ (id ≠ n ∧ M id = some b')) (hf : j n = none) (hG : G ≤ n) (hb : base ≤ w.heap.size)
    (hB : BR (j.put n ⟨w.heap.size, d, lim⟩) ⟨w.heap.size, d, lim⟩ (w.alloc o) b) :
    Post G base n (n + 1) j M w (j.put n ⟨w.heap.size, d, lim⟩) M' (w.alloc o) where
  le := J.put_le hf
  out id hid := J.put_ne _ (by omega)
  rel := by
    have old : ∀ id b l, M id = some b → (j.put n ⟨w.heap.size, d, lim⟩) id = some l → id ≠ n → j id = some l ∧ l.g < w.heap.size := fun id b l h1 h2 h3 => by
      rw [J.put_ne _ h3] at h2
      obtain ⟨l', a1, a2⟩ := h.ok id b h1
      rw [h2] at a1
      injection a1 with a1
      subst a1
      exact ⟨h2, a2.lt⟩
    refine ⟨fun id b' hb' => ?_, fun id b' l hid hb' hl => ?_, fun id b' l hid hb' hl => ?_, fun id id' b1 b2 l l' h1 h2 h3 h4 h5 => ?_⟩
    · rcases hM _ _ hb' with ⟨rfl, e⟩ | ⟨hne, e⟩
      · injection e with e; subst e
        exact ⟨_, J.put_at _ _ _, hB⟩
      · obtain ⟨l, a1, a2⟩ := h.ok id b' e
        exact ⟨l, by rw [J.put_ne _ hne]; exact a1, (a2.mono (J.put_le hf)).world (Below.heap_alloc w o l.g a2.lt)⟩
    · rcases hM _ _ hb' with ⟨rfl, e⟩ | ⟨hne, e⟩
      · omega
      · exact h.glob id b' l hid e (old id b' l e hl hne).1
    · rcases hM _ _ hb' with ⟨rfl, e⟩ | ⟨hne, e⟩
      · rw [J.put_at] at hl; injection hl with hl; subst hl; exact hb
      · exact h.own id b' l hid e (old id b' l e hl hne).1
    · rcases hM _ _ h1 with ⟨rfl, e⟩ | ⟨hne, e⟩ <;> rcases hM _ _ h2 with ⟨rfl, e'⟩ | ⟨hne', e'⟩
      · rfl
      · have := (old _ _ _ e' h4 hne').2
        rw [J.put_at] at h3; injection h3 with h3; subst h3
        simp only at h5; omega
      · have := (old _ _ _ e h3 hne).2
        rw [J.put_at] at h4; injection h4 with h4; subst h4
        simp only at h5; omega
      · exact h.inj id id' b1 b2 l l' e e' (old _ _ _ e h3 hne).1 (old _ _ _ e' h4 hne').1 h5
  frm := ⟨rfl, rfl, rfl, by simp, fun g hg _ => Below.heap_alloc w o g hg⟩
  img id b' l hb' hl := by
    rcases hM _ _ hb' with ⟨rfl, e⟩ | ⟨hne, e⟩
    · rw [J.put_at] at hl; injection hl with hl; subst hl; exact .inr (Nat.le_refl _)
    · rw [J.put_ne _ hne] at hl
      exact .inl ⟨id, b', l, e, hl, rfl, fun h => h⟩
/-- A new block of cells. -/
theorem post_cells {cs : List V} {ys : List Value} {e : TypeId} {fz : Fz} {fr : Nat × Nat} (h : Rel G base j M w) (hM : ∀ id b', M' id = some b' → (id = n ∧ some (.c cs e fz) = some b') ∨ (id ≠ n ∧ M id = some b')) (hf : j n = none) (hG : G ≤ n) (hb : base ≤ w.heap.size) (hc : VRs j cs ys) (rest : List Value)
    (hF : FzOk fz fr ⟨w.heap.size, 0, (ys ++ rest).length⟩) :
    Post G base n (n + 1) j M w (j.put n ⟨w.heap.size, 0, (ys ++ rest).length⟩) M' (w.alloc (.cells (ys ++ rest).toArray e fr)) := by
  refine post_new h hM hf hG hb ⟨(ys ++ rest).toArray, fr, ?_, by simp, fun i v hv => ?_, hF⟩
  · show (w.heap.push _)[w.heap.size]? = _
    simp
  · obtain ⟨y, h1, h2⟩ := hc.at_ hv
    refine ⟨y, ?_, h2.mono (J.put_le hf)⟩
    have hl : i < ys.length := (List.getElem?_eq_some_iff.1 h1).1
    simp only [Nat.zero_add, List.getElem?_toArray]
    rw [List.getElem?_append_left hl]
    exact h1

end
section
variable {G base n n' n1 n2 : Nat} {j j' j1 j2 : J} {M M' M1 M2 : H} {w w' w1 w2 : World}
/-! ### Reading -/
theorem Rel.cell {id o : Nat} {cs : List V} {e : TypeId} {fz : Fz} {v : V} (h : Rel G base j M w) (hb : M.get id = some (.c cs e fz)) (hv : cs[o]? = some v) :
    ∃ l y, j id = some l ∧ w.cell? ⟨l.g, l.d + o, none⟩ = some y ∧ VR j v y := by
  obtain ⟨l, h1, arr, fr, h2, h3, h4, h5⟩ := h.ok id _ hb
  obtain ⟨y, h6, h7⟩ := h4 o v hv
  exact ⟨l, y, h1, by simp [World.cell?, h2, h6], h7⟩

/-! ### A block turned -/
/-- A block (not one of the package's variables) with other things in it: all the rest stays. -/
theorem post_turn {f id : Nat} {b b0 : B} {l : Loc} (h : Rel G base j M w) (hb : M.get id = some b0) (hl : j id = some l) (hG : G ≤ id)
    (ho : w'.os = w.os) (ht : w'.tape = w.tape) (hp : w'.output = w.output) (hs : w'.heap.size = w.heap.size) (hk : ∀ g, g ≠ l.g → w'.heap[g]? = w.heap[g]?) (hB : BR j l w' b) :
    Post G base n n j M w j (M.set f id (some b)) w' where
  le := .refl j
  out _ _ := rfl
  rel := by
    refine ⟨fun i b' hb' => ?_, fun i b' k hi hb' hl' => ?_, fun i b' k hi hb' hl' => ?_, fun i i' b1 b2 k k' h1 h2 h3 h4 h5 => ?_⟩
    · rcases T.set_get hb' with ⟨rfl, e⟩ | ⟨hne, e⟩
      · injection e with e; subst e; exact ⟨l, hl, hB⟩
      · obtain ⟨k, a1, a2⟩ := h.ok i b' e
        exact ⟨k, a1, a2.world (hk _ fun e' => hne (h.inj i id b' b0 k l e hb a1 hl e'))⟩
    · rcases T.set_get hb' with ⟨rfl, e⟩ | ⟨hne, e⟩
      · omega
      · exact h.glob i b' k hi e hl'
    · rcases T.set_get hb' with ⟨rfl, e⟩ | ⟨hne, e⟩
      · exact h.own i b0 k hi hb hl'
      · exact h.own i b' k hi e hl'
    · rcases T.set_get h1 with ⟨rfl, e⟩ | ⟨hne, e⟩ <;> rcases T.set_get h2 with ⟨rfl, e'⟩ | ⟨hne', e'⟩
      · rfl
      · exact h.inj _ _ _ _ _ _ hb e' h3 h4 h5
      · exact h.inj _ _ _ _ _ _ e hb h3 h4 h5
      · exact h.inj _ _ _ _ _ _ e e' h3 h4 h5
  frm := ⟨ho, ht, hp, by omega, fun g _ hn => hk g fun e => hn id b0 l hG hb hl e.symm⟩
  img i b' k hb' hl' := by
    rcases T.set_get hb' with ⟨rfl, e⟩ | ⟨hne, e⟩
    · exact .inl ⟨i, b0, k, hb, hl', rfl, fun h => h⟩
    · exact .inl ⟨i, b', k, e, hl', rfl, fun h => h⟩
/-- A block that becomes another id's, seen from another cell on (an append within its room). -/
theorem post_move {f id : Nat} {b b0 : B} {l l' : Loc} (h : Rel G base j M w) (hb : M.get id = some b0) (hl : j id = some l) (hG : G ≤ id) (hf : j n = none) (hn : G ≤ n) (hg : l'.g = l.g)
    (ho : w'.os = w.os) (ht : w'.tape = w.tape) (hp : w'.output = w.output) (hs : w'.heap.size = w.heap.size) (hk : ∀ g, g ≠ l.g → w'.heap[g]? = w.heap[g]?) (hB : BR (j.put n l') l' w' b) :
    Post G base n (n + 1) j M w (j.put n l') ((M.set f id none).set f n (some b)) w' where
  le := J.put_le hf
  out i hi := J.put_ne _ (by omega)
  rel := by
    have old : ∀ i b1 k, (M.set f id none).get i = some b1 → (j.put n l') i = some k → i ≠ n → M.get i = some b1 ∧ j i = some k ∧ i ≠ id ∧ k.g ≠ l.g := fun i b1 k h1 h2 h3 => by
      rw [J.put_ne _ h3] at h2
      rcases T.set_get h1 with ⟨rfl, e⟩ | ⟨hne, e⟩
      · cases e
      · exact ⟨e, h2, hne, fun e' => hne (h.inj i id _ _ _ _ e hb h2 hl e')⟩
    refine ⟨fun i b' hb' => ?_, fun i b' k hi hb' hl' => ?_, fun i b' k hi hb' hl' => ?_, fun i i' b1 b2 k k' h1 h2 h3 h4 h5 => ?_⟩
    · rcases T.set_get hb' with ⟨rfl, e⟩ | ⟨hne, e⟩
      · injection e with e; subst e; exact ⟨l', J.put_at _ _ _, hB⟩
      · rcases T.set_get e with ⟨rfl, e'⟩ | ⟨hne', e'⟩
        · cases e'
        · obtain ⟨k, a1, a2⟩ := h.ok i b' e'
          exact ⟨k, by rw [J.put_ne _ hne]; exact a1, (a2.mono (J.put_le hf)).world (hk _ fun e2 => hne' (h.inj i id b' b0 k l e' hb a1 hl e2))⟩
    · rcases T.set_get hb' with ⟨rfl, e⟩ | ⟨hne, e⟩
      · omega
      · obtain ⟨a1, a2, a3, a4⟩ := old i b' k e hl' hne
        exact h.glob i b' k hi a1 a2
    · rcases T.set_get hb' with ⟨rfl, e⟩ | ⟨hne, e⟩
      · rw [J.put_at] at hl'; injection hl' with hl'; subst hl'
        rw [hg]; exact h.own id b0 l hG hb hl
      · obtain ⟨a1, a2, a3, a4⟩ := old i b' k e hl' hne
        exact h.own i b' k hi a1 a2
    · rcases T.set_get h1 with ⟨rfl, e⟩ | ⟨hne, e⟩ <;> rcases T.set_get h2 with ⟨rfl, e'⟩ | ⟨hne', e'⟩
      · rfl
      · obtain ⟨a1, a2, a3, a4⟩ := old _ _ _ e' h4 hne'
        rw [J.put_at] at h3; injection h3 with h3; subst h3
        exact absurd (h5.symm.trans hg) a4
      · obtain ⟨a1, a2, a3, a4⟩ := old _ _ _ e h3 hne
        rw [J.put_at] at h4; injection h4 with h4; subst h4
        exact absurd (h5.trans hg) a4
      · obtain ⟨a1, a2, a3, a4⟩ := old _ _ _ e h3 hne
        obtain ⟨c1, c2, c3, c4⟩ := old _ _ _ e' h4 hne'
        exact h.inj _ _ _ _ _ _ a1 c1 a2 c2 h5
  frm := ⟨ho, ht, hp, by omega, fun g _ hn => hk g fun e => hn id b0 l hG hb hl e.symm⟩
  img i b' k hb' hl' := by
    rcases T.set_get hb' with ⟨rfl, e⟩ | ⟨hne, e⟩
    · rw [J.put_at] at hl'; injection hl' with hl'; subst hl'
      exact .inl ⟨id, b0, l, hb, hl, hg.symm, fun _ => hG⟩
    · rw [J.put_ne _ hne] at hl'
      rcases T.set_get e with ⟨rfl, e'⟩ | ⟨hne', e'⟩
      · cases e'
      · exact .inl ⟨i, b', k, e', hl', rfl, fun h => h⟩
end
end Eng
end Go.Proofs.YtjoinnjhpfakpaaGreatDoor
namespace Go.Proofs.YtjoinnjhpfakpaaGreatDoor
namespace Eng
open Go.RowKit

/-- Just k of a list's first. -/
def tk : Nat → List V → Option (List V)
  | 0, _ => some []
  | k + 1, v :: vs => match tk k vs with | some r => some (v :: r) | none => none
  | _ + 1, [] => none
def dr : Nat → List V → List V
  | 0, vs => vs
  | k + 1, _ :: vs => dr k vs
  | _ + 1, [] => []
/-- A list with others laid over it from the o-th on. -/
def ov : List V → Nat → List V → List V
  | [], _, _ => []
  | c :: cs, o + 1, vs => c :: ov cs o vs
  | c :: cs, 0, [] => c :: cs
  | _ :: cs, 0, v :: vs => v :: ov cs 0 vs
theorem dr_at : ∀ (k : Nat) (vs : List V) (i : Nat), (dr k vs)[i]? = vs[k + i]?
  | 0, vs, i => by simp [dr]
  | k + 1, _ :: vs, i => by rw [dr, dr_at k vs i, show k + 1 + i = (k + i) + 1 by omega]; rfl
  | k + 1, [], i => by simp [dr]
theorem tk_len : ∀ {k : Nat} {vs r : List V}, tk k vs = some r → r.length = k
  | 0, _, r, h => by injection h with h; subst h; rfl
  | k + 1, v :: vs, r, h => by
    unfold tk at h
    split at h
    · rename_i q hq; injection h with h; subst h; simp [tk_len hq]
    · cases h
  | k + 1, [], r, h => by cases h
theorem tk_at : ∀ {k : Nat} {vs r : List V}, tk k vs = some r → ∀ {i : Nat} {x : V}, r[i]? = some x → vs[i]? = some x
  | 0, _, r, h, i, x, hx => by injection h with h; subst h; simp at hx
  | k + 1, v :: vs, r, h, i, x, hx => by
    unfold tk at h
    split at h
    · rename_i q hq
      injection h with h; subst h
      cases i with
      | zero => exact hx
      | succ i => simpa using tk_at hq (by simpa using hx)
    · cases h
  | k + 1, [], r, h, _, _, _ => by cases h
theorem ov_at : ∀ (cs : List V) (o : Nat) (vs : List V) {i : Nat} {x : V}, (ov cs o vs)[i]? = some x → (o ≤ i ∧ i < o + vs.length ∧ vs[i - o]? = some x) ∨ ((i < o ∨ o + vs.length ≤ i) ∧ cs[i]? = some x)
  | [], o, vs, i, x, h => by simp [ov] at h
  | c :: cs, o + 1, vs, i, x, h => by
    rw [ov] at h
    cases i with
    | zero => exact .inr ⟨.inl (by omega), h⟩
    | succ i =>
      rcases ov_at cs o vs (by simpa using h) with ⟨a, b, d⟩ | ⟨a, b⟩
      · exact .inl ⟨by omega, by omega, by rw [show i + 1 - (o + 1) = i - o by omega]; exact d⟩
      · exact .inr ⟨by omega, by simpa using b⟩
  | c :: cs, 0, [], i, x, h => by rw [ov] at h; exact .inr ⟨.inr (by simp), h⟩
  | c :: cs, 0, v :: vs, i, x, h => by
    rw [ov] at h
    cases i with
    | zero => exact .inl ⟨by omega, by simp, by simpa using h⟩
    | succ i =>
      rcases ov_at cs 0 vs (by simpa using h) with ⟨a, b, d⟩ | ⟨a, b⟩
      · exact .inl ⟨by omega, by simp; omega, by simpa using d⟩
      · exact .inr ⟨by simp; omega, by simpa using b⟩
theorem ov_len : ∀ (cs : List V) (o : Nat) (vs : List V), (ov cs o vs).length = cs.length
  | [], _, _ => rfl
  | _ :: cs, o + 1, vs => by simp [ov, ov_len cs o vs]
  | _ :: _, 0, [] => rfl
  | _ :: cs, 0, _ :: vs => by simp [ov, ov_len cs 0 vs]

/-! The same, for the kernel. -/
noncomputable def tkF (k : Nat) : List V → Option (List V) :=
  Nat.rec (fun _ => some []) (fun _ ih vs => List.rec none (fun v vs _ => Option.rec none (fun r => some (v :: r)) (ih vs)) vs) k
noncomputable def drF (k : Nat) : List V → List V := Nat.rec (fun vs => vs) (fun _ ih vs => List.rec [] (fun _ vs _ => ih vs) vs) k
noncomputable def ovF (cs : List V) : Nat → List V → Option (List V) :=
  List.rec (fun _ vs => List.rec (some []) (fun _ _ _ => none) vs)
    (fun c cs ih o => Nat.rec (fun vs => List.rec (some (c :: cs)) (fun v vs _ => Option.rec none (fun r => some (v :: r)) (ih 0 vs)) vs) (fun o _ vs => Option.rec none (fun r => some (c :: r)) (ih o vs)) o) cs
theorem tkF_eq : ∀ (k : Nat) (vs : List V), tkF k vs = tk k vs
  | 0, _ => rfl
  | _ + 1, [] => rfl
  | k + 1, v :: vs => by
    show (Option.rec none (fun r => some (v :: r)) (tkF k vs) : Option (List V)) = _
    rw [tkF_eq k vs, tk]
    cases tk k vs <;> rfl
theorem drF_eq : ∀ (k : Nat) (vs : List V), drF k vs = dr k vs
  | 0, _ => rfl
  | _ + 1, [] => rfl
  | k + 1, _ :: vs => drF_eq k vs
theorem ovF_ok : ∀ (cs : List V) (o : Nat) (vs r : List V), ovF cs o vs = some r → r = ov cs o vs ∧ (vs = [] ∨ o + vs.length ≤ cs.length)
  | [], _, [], r, h => by injection h with h; exact ⟨h.symm, .inl rfl⟩
  | [], _, _ :: _, r, h => by cases h
  | c :: cs, 0, [], r, h => by injection h with h; exact ⟨h.symm, .inl rfl⟩
  | c :: cs, 0, v :: vs, r, h => by
    have h : (Option.rec none (fun r => some (v :: r)) (ovF cs 0 vs) : Option (List V)) = some r := h
    cases hq : ovF cs 0 vs with
    | none => rw [hq] at h; cases h
    | some q =>
      rw [hq] at h
      injection h with h
      obtain ⟨h1, h2⟩ := ovF_ok cs 0 vs q hq
      refine ⟨by rw [← h, h1, ov], .inr ?_⟩
      rcases h2 with rfl | h2 <;> simp at * <;> omega
  | c :: cs, o + 1, vs, r, h => by
    have h : (Option.rec none (fun r => some (c :: r)) (ovF cs o vs) : Option (List V)) = some r := h
    cases hq : ovF cs o vs with
    | none => rw [hq] at h; cases h
    | some q =>
      rw [hq] at h
      injection h with h
      obtain ⟨h1, h2⟩ := ovF_ok cs o vs q hq
      refine ⟨by rw [← h, h1, ov], ?_⟩
      rcases h2 with h2 | h2
      · exact .inl h2
      · right; simp; omega
noncomputable def aload (M : H) (id o k : Nat) : Option (List V) :=
  match M.get id with
  | some (.c cs _ _) => tkF k (drF o cs)
  | _ => none

theorem addr_add (g o k : Nat) : (⟨g, o, none⟩ : Addr).add k = ⟨g, o + k, none⟩ := Addr.add_mid g o k

section
variable {P : Program} {G base n : Nat} {j : J} {M M' : H} {w w' : World}
theorem aload_at {id o k : Nat} {r : List V} (h : Rel G base j M w) (ha : aload M id o k = some r) :
    ∃ l, j id = some l ∧ ∃ ys : List Value, ys.length = k ∧ VRs j r ys ∧ ∀ (i : Nat) (y : Value), ys[i]? = some y → w.cell? ⟨l.g, l.d + o + i, none⟩ = some y := by
  unfold aload at ha
  split at ha
  · rename_i cs e fz hb
    rw [tkF_eq, drF_eq] at ha
    obtain ⟨l, h1, arr, fr, h2, h3, h4, h5⟩ := h.ok id _ hb
    have hlen := tk_len ha
    have key : ∀ (i : Nat) (x : V), r[i]? = some x → ∃ y, arr[l.d + o + i]? = some y ∧ VR j x y := fun i x hx => by
      have h6 := tk_at ha hx
      rw [dr_at] at h6
      obtain ⟨y, h7, h8⟩ := h4 _ _ h6
      exact ⟨y, by rw [Nat.add_assoc]; exact h7, h8⟩
    refine ⟨l, h1, (List.range k).map fun i => (arr[l.d + o + i]?).getD undef, by simp, VRs.of_at (by simp [hlen]) fun i x hx => ?_, fun i y hy => ?_⟩
    · obtain ⟨y, h7, h8⟩ := key i x hx
      have hi : i < k := hlen ▸ (List.getElem?_eq_some_iff.1 hx).1
      exact ⟨y, by simp [hi, h7], h8⟩
    · have hi : i < k := by have := (List.getElem?_eq_some_iff.1 hy).1; simpa using this
      obtain ⟨y', h7, h8⟩ := key i (r[i]'(hlen ▸ hi)) (List.getElem?_eq_getElem _)
      have : y = y' := by
        rw [List.getElem?_map, List.getElem?_range hi] at hy
        simpa [h7] using hy.symm
      subst this
      simp [World.cell?, h2, h7]
  · cases ha
theorem aload_run {id o k : Nat} {r : List V} (h : Rel G base j M w) (ha : aload M id o k = some r) :
    ∃ l, j id = some l ∧ ∃ ys : List Value, VRs j r ys ∧ ys.length = k ∧ (loadCells ⟨l.g, l.d + o, none⟩ k).run P w = .ok ys.toArray w := by
  obtain ⟨l, h1, ys, h2, h3, h4⟩ := aload_at h ha
  refine ⟨l, h1, ys, h3, h2, ?_⟩
  rw [← h2]
  exact run_loadCells_list w _ ys fun i y hy => by rw [addr_add]; exact h4 i y hy
theorem aload_one {id o : Nat} {v : V} (h : Rel G base j M w) (ha : aload M id o 1 = some [v]) :
    ∃ l, j id = some l ∧ ∃ y, VR j v y ∧ w.cell? ⟨l.g, l.d + o, none⟩ = some y := by
  obtain ⟨l, h1, ys, h2, h3, h4⟩ := aload_at h ha
  obtain ⟨y, h5, h6⟩ := h3.at_ (i := 0) rfl
  exact ⟨l, h1, y, h6, h4 0 y h5⟩

/-! ### Writing -/
/-- A world in which one block's cells from p on are others. -/
structure Wrote (w w' : World) (g p : Nat) (vs : List Value) (arr arr' : Array Value) (e : TypeId) (fr : Nat × Nat) : Prop where
  os : w'.os = w.os
  tape : w'.tape = w.tape
  output : w'.output = w.output
  size : w'.heap.size = w.heap.size
  other : ∀ q, q ≠ g → w'.heap[q]? = w.heap[q]?
  here : w'.heap[g]? = some (.cells arr' e fr)
  len : arr'.size = arr.size
  new : ∀ i y, vs[i]? = some y → arr'[p + i]? = some y
  old : ∀ i, (i < p ∨ p + vs.length ≤ i) → arr'[i]? = arr[i]?
theorem run_storeCells_any (g o : Nat) (e : TypeId) (fr : Nat × Nat) : ∀ (vs : List Value) (i : Nat) (arr : Array Value) (w : World), w.heap[g]? = some (.cells arr e fr) → o + i + vs.length ≤ arr.size →
    (∀ k, o + i ≤ k → k < o + i + vs.length → ¬ (fr.1 ≤ k ∧ k < fr.2)) → (∀ v ∈ vs, v.oneCell' = true) →
    ∃ w' arr', (storeCells ⟨g, o, none⟩ vs i).run P w = .ok () w' ∧ Wrote w w' g (o + i) vs arr arr' e fr
  | [], i, arr, w, hg, _, _, _ => ⟨w, arr, rfl, rfl, rfl, rfl, rfl, fun _ _ => rfl, hg, rfl, fun i y h => by simp at h, fun _ _ => rfl⟩
  | v :: vs, i, arr, w, hg, hl, hfz, h1 => by
    simp only [List.length_cons] at hl hfz
    have hi : o + i < arr.size := by omega
    have hcell : w.cell? ⟨g, o + i, none⟩ = some arr[o + i] := by simp [World.cell?, hg, hi]
    have hfro : w.frozen? ⟨g, o + i, none⟩ = false := by
      have := hfz (o + i) (Nat.le_refl _) (by omega)
      simp only [World.frozen?, hg]
      simpa using this
    have hg' : (w.setCell ⟨g, o + i, none⟩ v).heap[g]? = some (.cells (arr.setIfInBounds (o + i) v) e fr) := by
      simp [World.setCell, Array.getElem?_modify, hg]
    obtain ⟨w', arr', hr, hW⟩ := run_storeCells_any g o e fr vs (i + 1) (arr.setIfInBounds (o + i) v) (w.setCell ⟨g, o + i, none⟩ v) hg' (by simp; omega) (fun k h2 h3 => hfz k (by omega) (by omega)) (fun x hx => h1 x (by simp [hx]))
    refine ⟨w', arr', ?_, hW.os, hW.tape, hW.output, by rw [hW.size]; simp [World.setCell], fun q hq => (hW.other q hq).trans (Below.heap_setCell w _ v q hq), hW.here, by rw [hW.len]; simp, fun k y hk => ?_, fun k hk => ?_⟩
    · simp only [storeCells, Sem.run_bind]
      rw [addr_add, run_store P w _ v _ (h1 v (by simp)), hcell]
      simp [hfro, hr]
    · cases k with
      | zero =>
        simp only [List.getElem?_cons_zero, Option.some.injEq] at hk
        subst hk
        rw [Nat.add_zero, hW.old (o + i) (.inl (by omega))]
        simp [hi]
      | succ k =>
        have := hW.new k y (by simpa using hk)
        rw [show o + i + (k + 1) = o + (i + 1) + k by omega]
        exact this
    · simp only [List.length_cons] at hk
      rw [hW.old k (by omega), Array.getElem?_setIfInBounds_ne (by omega)]

def allOne : List V → Bool
  | [] => true
  | v :: vs => match v.one with | true => allOne vs | false => false
theorem allOne_rel : ∀ {vs : List V} {ys : List Value}, VRs j vs ys → allOne vs = true → ∀ y ∈ ys, y.oneCell' = true
  | [], _, r, _, y, hy => by simp only [VRs] at r; subst r; simp at hy
  | v :: vs, _, r, h, y, hy => by
    simp only [VRs] at r
    obtain ⟨z, zs, h1, h2, rfl⟩ := r
    unfold allOne at h
    split at h
    · rename_i hv
      rcases List.mem_cons.1 hy with rfl | hy
      · exact one_rel h1 hv
      · exact allOne_rel h2 h y hy
    · cases h

noncomputable def allOneF (vs : List V) : Bool := List.rec true (fun v _ ih => Bool.rec false ih v.one) vs
theorem allOneF_eq : ∀ vs, allOneF vs = allOne vs
  | [] => rfl
  | v :: vs => by
    show (Bool.rec false (allOneF vs) v.one : Bool) = _
    rw [allOneF_eq vs, allOne]
    cases v.one <;> rfl
noncomputable def astore (G : Nat) (M : H) (id o : Nat) (vs : List V) : Option H :=
  match M.get id with
  | some (.c cs e fz) =>
    match Nat.ble G id, okW fz o, ovF cs o vs, allOneF vs with
    | true, true, some r, true => some (M.set 24 id (some (.c r e fz)))
    | _, _, _, _ => none
  | _ => none
theorem astore_run {id o : Nat} {vs : List V} {ys : List Value} (h : Rel G base j M w) (ha : astore G M id o vs = some M') (hv : VRs j vs ys) (n : Nat) :
    ∃ l, j id = some l ∧ ∃ w', (storeCells ⟨l.g, l.d + o, none⟩ ys).run P w = .ok () w' ∧ Post G base n n j M w j M' w' := by
  unfold astore at ha
  split at ha
  · rename_i cs e fz hb
    split at ha
    · rename_i r c1 c2 c3 c4
      injection ha with ha
      subst ha
      have c1 := Nat.le_of_ble_eq_true c1
      have hov := ovF_ok _ _ _ _ c3
      clear c3
      obtain ⟨hr, c3⟩ := hov
      subst hr
      rw [allOneF_eq] at c4
      obtain ⟨l, h1, arr, fr, h2, h3, h4, h5⟩ := h.ok id _ hb
      have hys := hv.len
      have hsz : ∀ i, i < cs.length → l.d + i < arr.size := fun i hi => by
        obtain ⟨y, h6, _⟩ := h4 i _ (List.getElem?_eq_getElem hi)
        exact (Array.getElem?_eq_some_iff.1 h6).1
      by_cases hz : ys = []
      · subst hz
        have hvs : vs = [] := List.length_eq_zero_iff.1 (by simpa using hys.symm)
        subst hvs
        refine ⟨l, h1, w, rfl, ?_⟩
        refine post_turn h hb h1 c1 rfl rfl rfl rfl (fun _ _ => rfl) ⟨arr, fr, h2, h3, fun i v hi => ?_, h5⟩
        rcases ov_at _ _ _ hi with ⟨_, a, _⟩ | ⟨_, a⟩
        · simp at a; omega
        · exact h4 i v a
      · have hpos : 0 < ys.length := List.length_pos_iff.2 hz
        have c3 : o + vs.length ≤ cs.length := by
          rcases c3 with q | q
          · exfalso; rw [q, List.length_nil] at hys; omega
          · exact q
        obtain ⟨w', arr', hr, hW⟩ := run_storeCells_any (P := P) l.g (l.d + o) e fr ys 0 arr w h2 (by have := hsz (o + vs.length - 1) (by omega); omega)
          (fun k h6 h7 => by have := okW_ok c2 h5 (k - l.d) (by omega) (by have := hsz (k - l.d) (by omega); omega); rwa [show l.d + (k - l.d) = k by omega] at this) (allOne_rel hv c4)
        refine ⟨l, h1, w', hr, ?_⟩
        refine post_turn h hb h1 c1 hW.os hW.tape hW.output hW.size hW.other ⟨arr', fr, hW.here, hW.len.trans h3, fun i v hi => ?_, h5⟩
        rcases ov_at _ _ _ hi with ⟨a1, a2, a3⟩ | ⟨a1, a2⟩
        · obtain ⟨y, h6, h7⟩ := hv.at_ a3
          refine ⟨y, ?_, h7⟩
          have := hW.new _ _ h6
          rwa [show l.d + o + 0 + (i - o) = l.d + i by omega] at this
        · obtain ⟨y, h6, h7⟩ := h4 i v a2
          exact ⟨y, (hW.old (l.d + i) (by omega)).trans h6, h7⟩
    · cases ha
  · cases ha
end
end Eng
end Go.Proofs.YtjoinnjhpfakpaaGreatDoor
namespace Go.Proofs.YtjoinnjhpfakpaaGreatDoor
namespace Eng
open Go.RowKit

/-- What a value is made by, in every world: y of v. -/
def Pur (P : Program) (j : J) (s : Sem Value) (v : V) : Prop := ∀ w, ∃ y, s.run P w = .ok y w ∧ VR j v y

def xflt (op : BinOp) (k : FloatKind) (a b : Nat) : Option V :=
  match op with
  | .add => match k.format.add a b with | some r => some (.f k r) | none => none
  | .sub => match k.format.sub a b with | some r => some (.f k r) | none => none
  | .mul => match k.format.mul a b with | some r => some (.f k r) | none => none
  | .quo => match k.format.div a b with | some r => some (.f k r) | none => none
  | .eql => some (.b (k.format.order a b == some .eq))
  | .neq => some (.b (k.format.order a b != some .eq))
  | .lss => some (.b (k.format.order a b == some .lt))
  | .leq => some (.b (k.format.order a b == some .lt || k.format.order a b == some .eq))
  | .gtr => some (.b (k.format.order a b == some .gt))
  | .geq => some (.b (k.format.order a b == some .gt || k.format.order a b == some .eq))
  | _ => none
def eqS : List UInt8 → List UInt8 → Bool
  | [], [] => true
  | a :: x, b :: y => match Nat.beq a.toNat b.toNat with | true => eqS x y | false => false
  | _, _ => false
def ltS : List UInt8 → List UInt8 → Bool
  | _, [] => false
  | [], _ :: _ => true
  | a :: x, b :: y => match Nat.blt a.toNat b.toNat with | true => true | false => match Nat.beq a.toNat b.toNat with | true => ltS x y | false => false
theorem eqS_eq : ∀ (a b : List UInt8), eqS a b = (a == b)
  | [], [] => rfl
  | [], _ :: _ => rfl
  | _ :: _, [] => rfl
  | a :: x, b :: y => by
    unfold eqS
    by_cases h : a = b
    · subst h
      rw [Nat.beq_refl]
      simp [eqS_eq x y]
    · have : Nat.beq a.toNat b.toNat = false := by
        rcases hq : Nat.beq a.toNat b.toNat with _ | _
        · rfl
        · exact absurd (UInt8.toNat_inj.1 (Nat.eq_of_beq_eq_true hq)) h
      rw [this]
      simp [h]
theorem ltS_eq : ∀ (a b : List UInt8), ltS a b = Op.bytesLess a b
  | [], [] => rfl
  | [], _ :: _ => rfl
  | _ :: _, [] => rfl
  | a :: x, b :: y => by
    unfold ltS Op.bytesLess
    by_cases h : a < b
    · have : Nat.blt a.toNat b.toNat = true := by
        rw [Nat.blt_eq]; exact UInt8.lt_iff_toNat_lt.1 h
      simp [this, h]
    · have h1 : Nat.blt a.toNat b.toNat = false := by
        rcases hq : Nat.blt a.toNat b.toNat with _ | _
        · rfl
        · exact absurd (UInt8.lt_iff_toNat_lt.2 (by rw [Nat.blt_eq] at hq; exact hq)) h
      by_cases h2 : a = b
      · subst h2
        rw [h1, Nat.beq_refl]
        simp [ltS_eq x y]
      · have : Nat.beq a.toNat b.toNat = false := by
          rcases hq : Nat.beq a.toNat b.toNat with _ | _
          · rfl
          · exact absurd (UInt8.toNat_inj.1 (Nat.eq_of_beq_eq_true hq)) h2
        rw [h1, this]
        simp [h, h2]
def xstr (op : BinOp) (a b : List UInt8) : Option V :=
  match op with
  | .add => match Nat.ble (a.length + b.length) 1000000000 with | true => some (.s (a ++ b)) | false => none
  | .eql => some (.b (eqS a b))
  | .neq => some (.b (!eqS a b))
  | .lss => some (.b (ltS a b))
  | .leq => some (.b (ltS a b || eqS a b))
  | .gtr => some (.b !(ltS a b || eqS a b))
  | .geq => some (.b (!ltS a b))
  | _ => none
/-- Lists of ints of one kind held against each other. -/
def eqI (k : IntKind) : List V → List V → Option Bool
  | [], [] => some true
  | .i k1 a :: x, .i k2 b :: y => match decide (k1 = k), decide (k2 = k) with | true, true => (match decide (a = b) with | true => eqI k x y | false => some false) | _, _ => none
  | _, _ => none
def xeq (P : Program) (t : TypeId) : V → V → Option Bool
  | .b x, .b y => match P.underlying t with | some .bool => some (x == y) | _ => none
  | .p none, .p o => match P.underlying t with | some (.pointer _) => some (match o with | none => true | some _ => false) | _ => none
  | .p (some _), .p none => match P.underlying t with | some (.pointer _) => some false | _ => none
  | .sl none _ _, .sl o _ _ => match P.underlying t with | some (.slice _) => some (match o with | none => true | some _ => false) | _ => none
  | .sl (some _) _ _, .sl none _ _ => match P.underlying t with | some (.slice _) => some false | _ => none
  | .mp none, .mp o => match P.underlying t with | some (.map _ _) => some (match o with | none => true | some _ => false) | _ => none
  | .mp (some _), .mp none => match P.underlying t with | some (.map _ _) => some false | _ => none
  | .nf, .nf => match P.underlying t with | some (.func _ _ _) => some true | _ => none
  | .nf, .fn _ _ => match P.underlying t with | some (.func _ _ _) => some false | _ => none
  | .fn _ _, .nf => match P.underlying t with | some (.func _ _ _) => some false | _ => none
  | .ni, .ic _ _ => match P.underlying t with | some (.interface _) => some false | _ => none
  | .ic _ _, .ni => match P.underlying t with | some (.interface _) => some false | _ => none
  | .a l, .a m =>
    match P.underlying t with
    | some (.array n e) =>
      match P.underlying e, P.info? e, P.eqGuardType P.depth t with
      | some (.int k), some i, false =>
        match Nat.beq i.size 1, Nat.beq l.length n, Nat.beq m.length n with
        | true, true, true => eqI k l m
        | _, _, _ => none
      | _, _, _ => none
    | _ => none
  | _, _ => none
def xeqn (P : Program) (op : BinOp) (t : TypeId) (x y : V) : Option V :=
  match op with
  | .eql => match xeq P t x y with | some b => some (.b b) | none => none
  | .neq => match xeq P t x y with | some b => some (.b !b) | none => none
  | _ => none
/-- A string that is not known, held against itself. -/
def xsame (op : BinOp) (a b : Nat) : Option V :=
  match Nat.beq a b, op with
  | true, .eql => some (.b true)
  | true, .neq => some (.b false)
  | _, _ => none
def eqPs : List (BinOp × IntKind × Int) → List (BinOp × IntKind × Int) → Bool
  | [], [] => true
  | a :: l, b :: m => (match decide (a.1 = b.1), decide (a.2.1 = b.2.1), decide (a.2.2 = b.2.2) with | true, true, true => eqPs l m | _, _, _ => false)
  | _, _ => false
def lkP (ps : List (BinOp × IntKind × Int)) : List (List (BinOp × IntKind × Int) × Int) → Option Int
  | [] => none
  | r :: rs => (match eqPs r.1 ps with | true => some r.2 | false => lkP ps rs)
/-- Operations that always tell an int of the same kind. -/
def total (op : BinOp) (k k' : IntKind) (b : Int) : Bool :=
  match op with
  | .add | .sub | .mul | .and | .or | .xor => decide (k = k')
  | .shl | .shr => decide (0 ≤ b)
  | .rem => decide (k = k' ∧ b ≠ 0)
  | _ => false
def xpath (id : Nat) (k : IntKind) (ps : List (BinOp × IntKind × Int)) (rs : List (List (BinOp × IntKind × Int) × Int)) (op : BinOp) (k' : IntKind) (b : Int) : Option V :=
  match lkP (ps ++ [(op, k', b)]) rs with
  | some r => some (.i k r)
  | none => (match total op k k' b with | true => some (.qi id k (ps ++ [(op, k', b)]) rs) | false => none)
def xbin (P : Program) (op : BinOp) (t : TypeId) (x y : V) : Option V :=
  match x with
  | .i k a => (match y with
    | .i k' b => xii op k a k' b
    | _ => none)
  | .f k a => (match y with | .f k' b => (match decide (k = k') with | true => xflt op k a b | false => none) | _ => none)
  | .s a => (match y with | .s b => xstr op a b | _ => none)
  | .qs a => (match y with | .qs b => xsame op a b | _ => none)
  | .qi id k ps rs => (match y with | .i k' b => xpath id k ps rs op k' b | _ => none)
  | x => xeqn P op t x y

section
variable {P : Program} {j : J}
theorem Pur.val {s : Sem Value} {v : V} {y : Value} (h : ∀ w, s.run P w = .ok y w) (k : VR j v y) : Pur P j s v := fun w => ⟨y, h w, k⟩
theorem toList_eq (l : List UInt8) : (ByteArray.mk l.toArray).toList = l := by simp [ByteArray.toList_eq]
theorem eqI_items {k : IntKind} {e : TypeId} (he : P.underlying e = some (.int k)) (w : World) (d : Nat) : ∀ (is : List Nat) (l m : List V) (xs ys : List Value) (o : Nat) (r : Bool), VRs j l (xs.drop o) → VRs j m (ys.drop o) → is = (List.range l.length).map (o + ·) → eqI k l m = some r →
    (Op.eqItems (d + 1) e 1 xs.toArray ys.toArray is).run P w = .ok r w := by
  intro is l
  induction l generalizing is with
  | nil =>
    intro m xs ys o r h1 h2 h3 h4
    cases m with
    | nil => simp only [eqI] at h4; injection h4 with h4; subst h4; subst h3; simp [Op.eqItems]
    | cons => simp [eqI] at h4
  | cons x l ih =>
    intro m xs ys o r h1 h2 h3 h4
    cases m with
    | nil => cases x <;> simp [eqI] at h4
    | cons y m =>
      cases x with
      | i k1 a =>
        cases y with
        | i k2 b =>
          simp only [eqI] at h4
          split at h4
          · rename_i c1 c2
            have c1 := of_decide_eq_true c1
            have c2 := of_decide_eq_true c2
            subst c1; subst c2
            have g1 : xs[o]? = some (.int k2 a) := by
              obtain ⟨y, p, q⟩ := h1.at_ (i := 0) rfl
              simp only [VR] at q
              subst q
              rw [List.getElem?_drop] at p
              exact p
            have g2 : ys[o]? = some (.int k2 b) := by
              obtain ⟨y, p, q⟩ := h2.at_ (i := 0) rfl
              simp only [VR] at q
              subst q
              rw [List.getElem?_drop] at p
              exact p
            have hagg := run_isAgg_plain he rfl w
            have hp : ∀ (zs : List Value) (v : Value), zs[o]? = some v → (part e zs.toArray o).run P w = .ok v w := fun zs v hz => by simp [part, hagg, hz]
            subst h3
            rw [show (List.range (V.i k2 a :: l).length).map (o + ·) = o :: (List.range l.length).map ((o + 1) + ·) by
              rw [List.length_cons, List.range_succ_eq_map, List.map_cons, List.map_map]
              refine congrArg (o :: ·) (List.map_congr_left fun i _ => ?_)
              simp only [Function.comp]; omega]
            simp only [Op.eqItems, Nat.mul_one, Sem.run_bind, hp xs _ g1, hp ys _ g2, Result.andThen_ok]
            rw [run_equalIn_int w d e k2 k2 a b he, Result.andThen_ok]
            split at h4
            · rename_i hab
              have hab := of_decide_eq_true hab
              subst hab
              have t1 : VRs j l (xs.drop (o + 1)) := by
                simp only [VRs] at h1
                obtain ⟨z, zs, _, h6, h7⟩ := h1
                rw [show xs.drop (o + 1) = (xs.drop o).drop 1 by rw [List.drop_drop], h7]
                exact h6
              have t2 : VRs j m (ys.drop (o + 1)) := by
                simp only [VRs] at h2
                obtain ⟨z, zs, _, h6, h7⟩ := h2
                rw [show ys.drop (o + 1) = (ys.drop o).drop 1 by rw [List.drop_drop], h7]
                exact h6
              simpa using ih _ m xs ys (o + 1) r t1 t2 rfl h4
            · rename_i hab
              have hab := of_decide_eq_false hab
              injection h4 with h4
              subst h4
              simp [hab]
          · cases h4
        | _ => simp [eqI] at h4
      | _ => simp [eqI] at h4

/-- What a value looks like. -/
theorem vr_shape {v : V} {y : Value} (h : VR j v y) : match v with
    | .b x => y = .bool x | .i k n => y = .int k n | .f k n => y = .float k n | .s l => y = .string ⟨l.toArray⟩
    | .p o => (match o with | none => y = .pointer none | some _ => ∃ a, y = .pointer (some a))
    | .sl o _ _ => (match o with | none => y = .slice none 0 0 | some _ => ∃ a n c, y = .slice (some a) n c)
    | .mp o => (match o with | none => y = .map none | some _ => ∃ a, y = .map (some a))
    | .fn f _ => ∃ cs, y = .func (.func f) #[] cs
    | .qs _ => ∃ s, y = .string s | .qi _ k _ _ => ∃ z, y = .int k z | .yf _ => ∃ l, y = .func (.yield l) #[] #[] | .nf => y = .nilFunc | .ic t _ => ∃ z, y = .iface t z | .ni => y = .nilIface | .a _ => ∃ l, y = .agg l | .t _ => ∃ l, y = .tuple l | .un => y.oneCell' = true | .se => ∃ a c, y = .slice a 0 c := by
  cases v with
  | b | i | f | s | nf | ni | un | se => simpa only [VR] using h
  | p o => cases o with
    | none => simpa only [VR] using h
    | some q => simp only [VR] at h; obtain ⟨l, _, e⟩ := h; exact ⟨_, e⟩
  | mp o => cases o with
    | none => simpa only [VR] using h
    | some q => simp only [VR] at h; obtain ⟨l, _, e⟩ := h; exact ⟨_, e⟩
  | sl o n c => cases o with
    | none => simpa only [VR] using h
    | some q => cases c with
      | x c => simp only [VR] at h; obtain ⟨l, _, e⟩ := h; exact ⟨_, _, _, e⟩
      | u z => simp only [VR] at h; obtain ⟨l, c, _, e, _⟩ := h; exact ⟨_, _, _, e⟩
  | fn f cs => simp only [VR] at h; obtain ⟨l, _, e⟩ := h; exact ⟨_, e⟩
  | yf id => simp only [VR] at h; obtain ⟨l, _, e⟩ := h; exact ⟨_, e⟩
  | qs id => simp only [VR] at h; obtain ⟨l, s, _, _, e⟩ := h; exact ⟨_, e⟩
  | qi id k ps rs => simp only [VR] at h; obtain ⟨l, x, z, _, _, _, e, _⟩ := h; exact ⟨_, e⟩
  | ic t v => simp only [VR] at h; obtain ⟨l, _, e⟩ := h; exact ⟨_, e⟩
  | a l => simp only [VR] at h; obtain ⟨l, _, e⟩ := h; exact ⟨_, e⟩
  | t l => simp only [VR] at h; obtain ⟨l, _, e⟩ := h; exact ⟨_, e⟩
theorem xeq_ok {t : TypeId} {x y : V} {a b : Value} {r : Bool} (h : xeq P t x y = some r) (hx : VR j x a) (hy : VR j y b) (ox oy : Operand) (op : BinOp) (w : World) :
    (Op.equal t a b).run P w = .ok r w ∧ (eqGuard op t ox oy a b).run P w = .ok () w ∧ (∀ k n, a ≠ .int k n) ∧ (∀ k n, a ≠ .float k n) ∧ (∀ s, a ≠ .string s) ∧ (∀ k n m, a ≠ .complex k n m) := by
  unfold xeq at h
  split at h
  case h_13 l m =>
    split at h
    · rename_i n e hu
      split at h
      · rename_i k i he hi hg
        split at h
        · rename_i c1 c2 c3
          have c1 := Nat.eq_of_beq_eq_true c1
          have c2 := Nat.eq_of_beq_eq_true c2
          simp only [VR] at hx hy
          obtain ⟨xs, h1, rfl⟩ := hx
          obtain ⟨ys, h2, rfl⟩ := hy
          have hc : P.cellsOf e = 1 := by simp [Program.cellsOf, hi, c1]
          have := eqI_items (P := P) (j := j) he w 9998 (List.range n) l m xs ys 0 r (by simpa using h1) (by simpa using h2) (by rw [c2]; simp) h
          refine ⟨?_, ?_, by simp, by simp, by simp, by simp⟩
          · unfold Op.equal Op.maxDepth
            rw [run_equalIn_array (P := P) w 9999 _ _ hu hi, hc]
            exact this
          · unfold eqGuard
            cases op <;> simp [hg]
        · cases h
      · cases h
    · cases h
  all_goals first
    | cases h
    | (split at h
       · rename_i hu
         injection h with h
         subst h
         have hx := vr_shape hx
         have hy := vr_shape hy
         dsimp only at hx hy
         first | subst hx | (obtain ⟨_, rfl⟩ := hx) | (obtain ⟨_, _, _, rfl⟩ := hx) | (split at hx <;> first | subst hx | (obtain ⟨_, rfl⟩ := hx) | (obtain ⟨_, _, _, rfl⟩ := hx))
         all_goals first | subst hy | (obtain ⟨_, rfl⟩ := hy) | (obtain ⟨_, _, _, rfl⟩ := hy) | (split at hy <;> first | subst hy | (obtain ⟨_, rfl⟩ := hy) | (obtain ⟨_, _, _, rfl⟩ := hy))
         all_goals (refine ⟨?_, ?_, by simp, by simp, by simp, by simp⟩
                    · refine (fun (q : ∀ d, (Op.equalIn (d + 1) _ _ _).run _ _ = _) => q 9999) fun d => ?_
                      simp [Op.equalIn, run_underlying hu]
                    · unfold eqGuard; cases op <;> rfl)
       · cases h)
end
end Eng
end Go.Proofs.YtjoinnjhpfakpaaGreatDoor

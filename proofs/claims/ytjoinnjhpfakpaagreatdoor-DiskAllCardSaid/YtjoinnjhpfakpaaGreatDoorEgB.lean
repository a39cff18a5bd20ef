/-
  A closed run, reckoned: operators, conversions of numbers, parts of structs and arrays.
  A closed run, reckoned: operations that read and write no memory.
  A closed run, reckoned: slices' bounds; structs and arrays made of parts.
  A closed run, reckoned: structs, arrays, slices made of parts; zero values; what is new in memory.
-/
import Derived.Test.YtjoinnjhpfakpaaGreatDoorEgA
import Derived.Laws.Tables
import Derived.Great.FillDense
namespace Go.Proofs.YtjoinnjhpfakpaaGreatDoor
namespace Eng
open Go.RowKit

section
variable {P : Program} {j : J}
theorem eqGuard_unit {op : BinOp} {t : TypeId} {x y : Operand} {a b : Value} (h : (a = .nilIface → b = .nilIface → False) ∧ (∀ l m, a = .agg l → b = .agg m → False)) (w : World) : (eqGuard op t x y a b).run P w = .ok () w := by
  obtain ⟨h1, h2⟩ := h
  unfold eqGuard
  cases op <;> simp only [Bool.not_true, Bool.not_false, Bool.false_eq_true, if_false, if_true] <;> first
    | rfl
    | (split
       · exact (h1 rfl rfl).elim
       · exact (h2 _ _ rfl rfl).elim
       · rfl)
theorem pur_some {s : Sem Value} {v u : V} (h : some u = some v) {y : Value} (k : VR j u y) (hs : ∀ w, s.run P w = .ok y w) : Pur P j s v := by
  injection h with h
  subst h
  exact fun w => ⟨y, hs w, k⟩
theorem xii_ok {op : BinOp} {t : TypeId} {k k' : IntKind} {p q : Int} {v : V} (h : xii op k p k' q = some v) (ox oy : Operand) :
    Pur P j (do eqGuard op t ox oy (.int k p) (.int k' q); binOp op t (.int k p) (.int k' q)) v := by
  have hg : ∀ w, (eqGuard op t ox oy (.int k p) (.int k' q)).run P w = .ok () w := eqGuard_unit ⟨by simp, by simp⟩
  unfold xii at h
  split at h
  · rename_i hs
    unfold xshift at h
    split at h
    · cases h
    · rename_i hq
      have hq := of_decide_eq_false hq
      cases op <;> first
        | (cases hs; done)
        | (refine pur_some h (by simp only [VR]; rfl) fun w => ?_
           simp [hg, binOp, Op.shift, hq])
  · rename_i hs
    split at h
    · rename_i hk
      have hk := of_decide_eq_true hk
      subst hk
      cases op <;> unfold xint at h <;> first
        | (cases hs; done)
        | (refine pur_some h (by simp only [VR]; rfl) fun w => ?_
           simp [hg, binOp, Op.intArith, Op.intBits, Op.intCmp])
        | (dsimp only at h
           split at h
           · cases h
           · rename_i hb
             have hb := of_decide_eq_false hb
             refine pur_some h (by simp only [VR]; rfl) fun w => ?_
             simp [hg, binOp, Op.intDiv, hb])
    · cases h
theorem pv_app {k : IntKind} : ∀ {ps qs : List (BinOp × IntKind × Int)} {x z : Int}, pv k x ps = some z → pv k x (ps ++ qs) = pv k z qs
  | [], qs, x, z, h => by injection h with h; subst h; rfl
  | (op, k', b) :: ps, qs, x, z, h => by
    unfold pv at h
    rw [List.cons_append]
    rw [pv]
    split at h
    · rename_i kk r hr
      split at h
      · rename_i hk
        first | exact pv_app h | (rw [hr]; simp only [hk]; exact pv_app h)
      · cases h
    · cases h
theorem eqPs_eq : ∀ {l m : List (BinOp × IntKind × Int)}, eqPs l m = true → l = m
  | [], [], _ => rfl
  | [], _ :: _, h => by cases h
  | _ :: _, [], h => by cases h
  | (a, a1, a2) :: l, (b, b1, b2) :: m, h => by
    unfold eqPs at h
    split at h
    · rename_i h1 h2 h3
      have h1 := of_decide_eq_true h1
      have h2 := of_decide_eq_true h2
      have h3 := of_decide_eq_true h3
      simp only at h1 h2 h3
      rw [h1, h2, h3, eqPs_eq h]
    · cases h
theorem lkP_mem {ps : List (BinOp × IntKind × Int)} : ∀ {rs : List (List (BinOp × IntKind × Int) × Int)} {r : Int}, lkP ps rs = some r → (ps, r) ∈ rs
  | [], _, h => by cases h
  | (q, x) :: rs, r, h => by
    unfold lkP at h
    split at h
    · rename_i hq
      injection h with h
      subst h
      have := eqPs_eq hq
      simp only at this
      rw [this]
      simp
    · exact List.mem_cons_of_mem _ (lkP_mem h)
theorem pv_one {k k' : IntKind} {z r b : Int} {op : BinOp} (h : pv k z [(op, k', b)] = some r) : xii op k z k' b = some (.i k r) := by
  unfold pv at h
  split at h
  · rename_i kk r' hr
    split at h
    · rename_i hk
      have hk := of_decide_eq_true hk
      subst hk
      injection h with h
      subst h
      exact hr
    · cases h
  · cases h
theorem total_ok {op : BinOp} {k k' : IntKind} {b : Int} (h : total op k k' b = true) (z : Int) : ∃ r, xii op k z k' b = some (.i k r) := by
  unfold total at h
  cases op <;> first | (cases h; done) | skip
  all_goals
    have h := of_decide_eq_true h
    first
      | (subst h; exact ⟨_, by simp [xii, isShift, xint]; rfl⟩)
      | (obtain ⟨h, hb⟩ := h; subst h; exact ⟨_, by simp [xii, isShift, xint, hb]; rfl⟩)
      | (have hb : ¬ b < 0 := by omega
         exact ⟨_, by simp [xii, isShift, xshift, hb]; rfl⟩)
theorem xpath_ok {id : Nat} {k k' : IntKind} {ps : List (BinOp × IntKind × Int)} {rs : List (List (BinOp × IntKind × Int) × Int)} {op : BinOp} {t : TypeId} {b : Int} {v : V} {a : Value} (h : xpath id k ps rs op k' b = some v) (hx : VR j (.qi id k ps rs) a) (ox oy : Operand) :
    Pur P j (do eqGuard op t ox oy a (.int k' b); binOp op t a (.int k' b)) v := by
  simp only [VR] at hx
  obtain ⟨l, x, z, h1, h2, h3, rfl, h4⟩ := hx
  unfold xpath at h
  split at h
  · rename_i r hr
    injection h with h
    subst h
    have := h4 _ (lkP_mem hr)
    simp only at this
    rw [pv_app h3] at this
    exact xii_ok (pv_one this) ox oy
  · split at h
    · rename_i ht
      injection h with h
      subst h
      obtain ⟨r, hr⟩ := total_ok ht z
      intro w
      obtain ⟨y, q1, q2⟩ := xii_ok (P := P) (j := j) (t := t) hr ox oy w
      simp only [VR] at q2
      subst q2
      refine ⟨_, q1, ?_⟩
      simp only [VR]
      refine ⟨l, x, r, h1, h2, ?_, rfl, h4⟩
      rw [pv_app h3, pv, hr]
      simp [pv]
    · cases h
theorem xsame_ok {op : BinOp} {t : TypeId} {p q : Nat} {v : V} {a b : Value} (h : xsame op p q = some v) (hx : VR j (.qs p) a) (hy : VR j (.qs q) b) (ox oy : Operand) : Pur P j (do eqGuard op t ox oy a b; binOp op t a b) v := by
  unfold xsame at h
  have key : Nat.beq p q = true → ∃ s, a = .string s ∧ b = .string s := fun e => by
    have e := Nat.eq_of_beq_eq_true e
    subst e
    simp only [VR] at hx hy
    obtain ⟨l, s, h1, h2, rfl⟩ := hx
    obtain ⟨l', s', h3, h4, rfl⟩ := hy
    rw [h1] at h3
    injection h3 with h3
    subst h3
    rw [h2] at h4
    injection h4 with h4
    exact ⟨s, rfl, by rw [h4]⟩
  split at h
  · rename_i e
    obtain ⟨s, rfl, rfl⟩ := key e
    have hg : ∀ w, (eqGuard .eql t ox oy (.string s) (.string s)).run P w = .ok () w := eqGuard_unit ⟨by simp, by simp⟩
    refine pur_some h (by simp only [VR]; rfl) fun w => ?_
    simp [hg, binOp, Op.stringOp]
  · rename_i e
    obtain ⟨s, rfl, rfl⟩ := key e
    have hg : ∀ w, (eqGuard .neq t ox oy (.string s) (.string s)).run P w = .ok () w := eqGuard_unit ⟨by simp, by simp⟩
    refine pur_some h (by simp only [VR]; rfl) fun w => ?_
    simp [hg, binOp, Op.stringOp]
  · cases h
theorem xbin_ok {op : BinOp} {t : TypeId} {x y v : V} {a b : Value} (h : xbin P op t x y = some v) (hx : VR j x a) (hy : VR j y b) (ox oy : Operand) :
    Pur P j (do eqGuard op t ox oy a b; binOp op t a b) v := by
  unfold xbin at h
  split at h
  · rename_i k p
    split at h
    · rename_i k' q
      simp only [VR] at hx hy
      subst hx; subst hy
      exact xii_ok h ox oy
    · cases h
  · rename_i k p
    split at h
    · rename_i k' q
      simp only [VR] at hx hy
      subst hx; subst hy
      have hg : ∀ w, (eqGuard op t ox oy (.float k p) (.float k' q)).run P w = .ok () w := eqGuard_unit ⟨by simp, by simp⟩
      split at h
      · rename_i hk
        have hk := of_decide_eq_true hk
        subst hk
        cases op <;> unfold xflt at h <;> first
          | (cases h; done)
          | (refine pur_some h (by simp only [VR]; rfl) fun w => ?_
             simp [hg, binOp, Op.floatCmp])
          | (dsimp only at h
             split at h
             · rename_i r hr
               refine pur_some h (by simp only [VR]; rfl) fun w => ?_
               simp [hg, binOp, Op.floatArith, hr]
             · cases h)
      · cases h
    · cases h
  · rename_i p
    split at h
    · rename_i q
      simp only [VR] at hx hy
      subst hx; subst hy
      have hg : ∀ w, (eqGuard op t ox oy (.string ⟨p.toArray⟩) (.string ⟨q.toArray⟩)).run P w = .ok () w := eqGuard_unit ⟨by simp, by simp⟩
      cases op <;> unfold xstr at h <;> first
        | (cases h; done)
        | (refine pur_some h (by simp only [VR]; rfl) fun w => ?_
           simp [hg, binOp, Op.stringOp, eqS_eq, ltS_eq])
        | (dsimp only at h
           split at h
           · rename_i hl
             have hl := Nat.le_of_ble_eq_true hl
             refine pur_some h (by simp only [VR]; rfl) fun w => ?_
             have hl2 : ¬ (((p.length + q.length : Nat) : Int) > IntKind.i64.max) := by
               have : IntKind.i64.max = 9223372036854775807 := rfl
               omega
             have hc : (ByteArray.mk p.toArray) ++ (ByteArray.mk q.toArray) = ByteArray.mk (p ++ q).toArray := by
               apply ByteArray.ext
               simp
             simp [hg, binOp, Op.stringOp, hc, ByteArray.size] at hl2 ⊢
             omega
           · cases h)
    · cases h
  · split at h
    · exact xsame_ok h hx hy ox oy
    · cases h
  · split at h
    · simp only [VR] at hy
      subst hy
      exact xpath_ok h hx ox oy
    · cases h
  · unfold xeqn at h
    split at h
    · split at h
      · rename_i r hr
        intro w
        obtain ⟨h1, h2, h3, h4, h5, h6⟩ := xeq_ok hr hx hy ox oy .eql w
        injection h with h
        subst h
        refine ⟨.bool r, ?_, by simp only [VR]⟩
        rw [Sem.run_bind, h2, Result.andThen_ok]
        have : binOp .eql t a b = (do pure (.bool (← Op.equal t a b)) : Sem Value) := by
          unfold binOp
          split <;> first | rfl | skip
          all_goals simp_all
        rw [this]
        simp [h1]
      · cases h
    · split at h
      · rename_i r hr
        intro w
        obtain ⟨h1, h2, h3, h4, h5, h6⟩ := xeq_ok hr hx hy ox oy .neq w
        injection h with h
        subst h
        refine ⟨.bool (!r), ?_, by simp only [VR]⟩
        rw [Sem.run_bind, h2, Result.andThen_ok]
        have : binOp .neq t a b = (do pure (.bool (!(← Op.equal t a b))) : Sem Value) := by
          unfold binOp
          split <;> first | rfl | skip
          all_goals simp_all
        rw [this]
        simp [h1]
      · cases h
    · cases h
end
end Eng
end Go.Proofs.YtjoinnjhpfakpaaGreatDoor
namespace Go.Proofs.YtjoinnjhpfakpaaGreatDoor
namespace Eng
open Go.RowKit

def aggQ (P : Program) (t : TypeId) : Option Bool :=
  match P.underlying t with
  | some (.struct _) | some (.array _ _) => some true
  | some _ => some false
  | none => none
def sizeQ (P : Program) (t : TypeId) : Option Nat := match P.info? t with | some i => some i.size | none => none
def nth : List V → Nat → Option V
  | [], _ => none
  | v :: _, 0 => some v
  | _ :: vs, k + 1 => nth vs k
theorem nth_eq : ∀ (l : List V) (k : Nat), nth l k = l[k]?
  | [], _ => rfl
  | _ :: _, 0 => rfl
  | _ :: vs, k + 1 => by rw [nth, nth_eq vs k]; rfl
noncomputable def nthF (l : List V) : Nat → Option V := List.rec (fun _ => none) (fun v _ ih k => Nat.rec (some v) (fun k _ => ih k) k) l
theorem nthF_eq : ∀ (l : List V) (k : Nat), nthF l k = l[k]?
  | [], _ => rfl
  | _ :: _, 0 => rfl
  | _ :: vs, k + 1 => nthF_eq vs k
/-- A part of a value's cells, as one value of a type. -/
noncomputable def xpart (P : Program) (t : TypeId) (cs : List V) (off : Nat) : Option V :=
  match aggQ P t with
  | some true => (match sizeQ P t with | some k => (match tkF k (drF off cs) with | some r => some (.a r) | none => none) | none => none)
  | some false => nthF cs off
  | none => none
def xun (op : UnOp) : V → Option V
  | .b x => match op with | .not => some (.b !x) | _ => none
  | .i k n => match op with
    | .neg => some (.i k (k.wrap (0 - n)))
    | .xor => some (.i k (k.wrap (BitVec.ofInt k.bits (if k.signed then -1 else k.max) ^^^ BitVec.ofInt k.bits n).toNat))
    | _ => none
  | _ => none
def xconv (P : Program) (src dst : TypeId) (v : V) : Option V :=
  match P.underlying src, P.underlying dst with
  | some _, some (.int k) => (match v with
    | .i _ n => some (.i k (k.wrap n))
    | .f s b => match (s.decode b).toInt .zero with
      | some n => (match decide (k.min ≤ n), decide (n ≤ k.max) with | true, true => some (.i k n) | _, _ => none)
      | none => none
    | _ => none)
  | some _, some (.float k) => (match v with | .i _ n => some (.f k (k.nearest n)) | _ => none)
  | some _, some .string => (match v with | .s l => some (.s l) | _ => none)
  | _, _ => none
noncomputable def xfield (P : Program) (t : TypeId) (v : V) (f : Nat) : Option V :=
  match P.underlying t, v with
  | some (.struct fs), .a cs => (match fs[f]? with | some fd => xpart P fd.type cs fd.offset | none => none)
  | _, _ => none
def inR (i : Int) (n : Nat) : Option Nat :=
  match i with
  | .ofNat k => match Nat.blt k n with | true => some k | false => none
  | .negSucc _ => none
def inLe (i : Int) (n : Nat) : Option Nat :=
  match i with
  | .ofNat k => match Nat.ble k n with | true => some k | false => none
  | .negSucc _ => none
noncomputable def xindex (P : Program) (t : TypeId) (v i : V) : Option V :=
  match i with
  | .i _ n => (match P.underlying t, v with
    | some (.array len e), .a cs => (match inR n len, sizeQ P e with | some k, some s => xpart P e cs (k * s) | _, _ => none)
    | some .string, .s l => (match inR n l.length with | some k => (match l[k]? with | some b => some (.i .u8 (b.toNat : Int)) | none => none) | none => none)
    | _, _ => none)
  | _ => none
noncomputable def xextract (v : V) (i : Nat) : Option V := match v with | .t vs => nthF vs i | _ => none
def xfieldAddr (P : Program) (s : TypeId) (v : V) (f : Nat) : Option V :=
  match P.underlying s, v with
  | some (.struct fs), .p (some q) => (match fs[f]? with
    | some fd => (match sizeQ P fd.type with | some (_ + 1) => some (.p (some (q.1, q.2 + fd.offset))) | _ => none)
    | none => none)
  | _, _ => none
def xindexAddr (P : Program) (t : TypeId) (v i : V) : Option V :=
  match i with
  | .i _ n => (match P.underlying t, v with
    | some (.array len e), .p (some q) => (match inR n len, sizeQ P e with | some k, some s => some (.p (some (q.1, q.2 + k * s))) | _, _ => none)
    | some (.slice e), .sl (some q) len _ => (match inR n len, sizeQ P e with | some k, some s => some (.p (some (q.1, q.2 + k * s))) | _, _ => none)
    | _, _ => none)
  | _ => none
def xs2a (P : Program) (arr : TypeId) (v : V) : Option V :=
  match P.underlying arr, v with
  | some (.array n _), .sl (some q) len _ => (match Nat.ble n len with | true => some (.p (some q)) | false => none)
  | _, _ => none
def xiface (P : Program) (t : TypeId) (v : V) : Option V :=
  match P.underlying t with
  | some (.interface _) => none
  | some _ => some (.ic t v)
  | none => none
def xlen (P : Program) (t : TypeId) (v : V) : Option V :=
  match P.underlying t, v with
  | some .string, .s l => some (.i .i64 (l.length : Int))
  | some (.array n _), _ => some (.i .i64 (n : Int))
  | some (.slice _), .sl none _ _ => some (.i .i64 (0 : Nat))
  | some (.slice _), .sl (some _) n _ => some (.i .i64 (n : Int))
  | some (.slice _), .se => some (.i .i64 (0 : Nat))
  | some (.map _ _), .mp none => some (.i .i64 (0 : Nat))
  | _, _ => none
def xcap (P : Program) (t : TypeId) (v : V) : Option V :=
  match P.underlying t, v with
  | some (.array n _), _ => some (.i .i64 (n : Int))
  | some (.slice _), .sl none _ _ => some (.i .i64 (0 : Nat))
  | some (.slice _), .sl (some _) _ (.x c) => some (.i .i64 (c : Int))
  | _, _ => none

section
variable {P : Program} {j : J}
theorem run_isAgg {t : TypeId} {b : Bool} (h : aggQ P t = some b) (w : World) : (isAgg t).run P w = .ok b w := by
  unfold aggQ at h
  split at h
  · rename_i hu; injection h with h; subst h; unfold isAgg; rw [Sem.run_bind, run_underlying hu]; rfl
  · rename_i hu; injection h with h; subst h; unfold isAgg; rw [Sem.run_bind, run_underlying hu]; rfl
  · rename_i d h1 h2 hu
    injection h with h; subst h
    exact run_isAgg_plain hu (by split <;> first | rfl | exact (h1 _ rfl).elim | exact (h2 _ _ rfl).elim) w
  · cases h
theorem run_size {t : TypeId} {n : Nat} (h : sizeQ P t = some n) (w : World) : (sizeOf t).run P w = .ok n w := by
  unfold sizeQ at h
  split at h
  · rename_i i hi; injection h with h; subst h; simp [sizeOf, typeInfo, hi]
  · cases h
theorem xpart_ok {t : TypeId} {cs : List V} {ys : List Value} {off : Nat} {v : V} (h : xpart P t cs off = some v) (hc : VRs j cs ys) : Pur P j (part t ys.toArray off) v := by
  unfold xpart at h
  split at h
  · rename_i ha
    split at h
    · rename_i k hk
      split at h
      · rename_i r hr
        rw [tkF_eq, drF_eq] at hr
        injection h with h
        subst h
        intro w
        refine ⟨.agg ((ys.drop off).take k).toArray, ?_, ?_⟩
        · simp only [part, Sem.run_bind, run_isAgg ha, Result.andThen_ok, if_true, run_size hk]
          simp [Nat.add_sub_cancel_left]
        · simp only [VR]
          refine ⟨_, VRs.of_at ?_ fun i x hx => ?_, rfl⟩
          · have hl := tk_len hr
            rw [List.length_take, List.length_drop, hc.len, hl]
            by_cases h0 : k = 0
            · omega
            · have h1 := tk_at hr (List.getElem?_eq_getElem (show k - 1 < r.length by omega))
              rw [dr_at] at h1
              have := (List.getElem?_eq_some_iff.1 h1).1
              omega
          · have h1 := tk_at hr hx
            rw [dr_at] at h1
            obtain ⟨y, h2, h3⟩ := hc.at_ h1
            have hi : i < k := by have := (List.getElem?_eq_some_iff.1 hx).1; have := tk_len hr; omega
            exact ⟨y, by rw [List.getElem?_take_of_lt hi, List.getElem?_drop]; exact h2, h3⟩
      · cases h
    · cases h
  · rename_i ha
    rw [nthF_eq] at h
    obtain ⟨y, h2, h3⟩ := hc.at_ h
    intro w
    refine ⟨y, ?_, h3⟩
    simp [part, run_isAgg ha, h2]
  · cases h
theorem xun_ok {op : UnOp} {v u : V} {a : Value} (h : xun op v = some u) (hv : VR j v a) : Pur P j (Op.unary op a) u := by
  unfold xun at h
  split at h
  · simp only [VR] at hv
    subst hv
    cases op <;> first
      | (cases h; done)
      | exact pur_some h (by simp only [VR]; rfl) fun w => by simp [Op.unary]
  · simp only [VR] at hv
    subst hv
    cases op <;> first
      | (cases h; done)
      | exact pur_some h (by simp only [VR]; rfl) fun w => by simp [Op.unary, Op.intArith, Op.intBits]
  · cases h
theorem xconv_ok {s d : TypeId} {v u : V} {a : Value} (h : xconv P s d v = some u) (hv : VR j v a) : Pur P j (convert s d a) u := by
  unfold xconv at h
  split at h
  · rename_i ds k hs hd
    split at h
    · simp only [VR] at hv
      subst hv
      exact pur_some h (by simp only [VR]; rfl) fun w => by simp [convert, run_underlying hs, run_underlying hd, Conv.intToInt]
    · simp only [VR] at hv
      subst hv
      split at h
      · rename_i n hn
        split at h
        · rename_i c1 c2
          have c1 := of_decide_eq_true c1
          have c2 := of_decide_eq_true c2
          exact pur_some h (by simp only [VR]; rfl) fun w => by simp [convert, run_underlying hs, run_underlying hd, Conv.floatToInt, hn, c1, c2]
        · cases h
      · cases h
    · cases h
  · rename_i ds k hs hd
    split at h
    · simp only [VR] at hv
      subst hv
      exact pur_some h (by simp only [VR]; rfl) fun w => by simp [convert, run_underlying hs, run_underlying hd, Conv.intToFloat]
    · cases h
  · rename_i ds hs hd
    split at h
    · have hv' := hv
      simp only [VR] at hv
      subst hv
      exact pur_some h hv' fun w => by simp [convert, run_underlying hs, run_underlying hd]
    · cases h
  · cases h
theorem xfield_ok {t : TypeId} {v u : V} {a : Value} {f : Nat} (h : xfield P t v f = some u) (hv : VR j v a) : Pur P j (Instr.field t a f) u := by
  unfold xfield at h
  split at h
  · rename_i fs cs hu
    split at h
    · rename_i fd hf
      simp only [VR] at hv
      obtain ⟨ys, h1, rfl⟩ := hv
      intro w
      obtain ⟨y, h2, h3⟩ := xpart_ok h h1 w
      exact ⟨y, by simp [Instr.field, run_underlying hu, hf, asAgg, h2], h3⟩
    · cases h
  · cases h
theorem inR_ok {i : Int} {n k : Nat} (h : inR i n = some k) : i = (k : Int) ∧ k < n := by
  unfold inR at h
  split at h
  · split at h
    · rename_i hb
      injection h with h
      subst h
      exact ⟨rfl, by rw [Nat.blt_eq] at hb; exact hb⟩
    · cases h
  · cases h
theorem inLe_ok {i : Int} {n k : Nat} (h : inLe i n = some k) : i = (k : Int) ∧ k ≤ n := by
  unfold inLe at h
  split at h
  · split at h
    · rename_i hb
      injection h with h
      subst h
      exact ⟨rfl, Nat.le_of_ble_eq_true hb⟩
    · cases h
  · cases h
theorem xindex_ok {t : TypeId} {v i u : V} {a b : Value} (h : xindex P t v i = some u) (hv : VR j v a) (hi : VR j i b) : Pur P j (Instr.index t a b) u := by
  unfold xindex at h
  split at h
  · simp only [VR] at hi
    subst hi
    split at h
    · rename_i len e cs hu
      split at h
      · rename_i k s hk hs
        obtain ⟨rfl, hlt⟩ := inR_ok hk
        simp only [VR] at hv
        obtain ⟨ys, h1, rfl⟩ := hv
        intro w
        obtain ⟨y, h2, h3⟩ := xpart_ok h h1 w
        exact ⟨y, by simp [Instr.index, asIntOf, run_underlying hu, hlt, run_size hs, h2], h3⟩
      · cases h
    · rename_i l hu
      split at h
      · rename_i k hk
        obtain ⟨rfl, hlt⟩ := inR_ok hk
        split at h
        · rename_i b hb
          simp only [VR] at hv
          subst hv
          refine pur_some h (by simp only [VR]; rfl) fun w => ?_
          have : (ByteArray.mk l.toArray)[k]? = some b := by
            have hk2 : k < (ByteArray.mk l.toArray).size := by simpa [ByteArray.size] using hlt
            rw [getElem?_pos (ByteArray.mk l.toArray) k hk2]
            rw [List.getElem?_eq_getElem hlt] at hb
            exact hb
          simp [Instr.index, asIntOf, run_underlying hu, this]
        · cases h
      · cases h
    · cases h
  · cases h
theorem xextract_ok {v u : V} {a : Value} {i : Nat} (h : xextract v i = some u) (hv : VR j v a) : Pur P j (Instr.extract a i) u := by
  unfold xextract at h
  split at h
  · rw [nthF_eq] at h
    simp only [VR] at hv
    obtain ⟨ys, h1, rfl⟩ := hv
    obtain ⟨y, h2, h3⟩ := h1.at_ h
    exact fun w => ⟨y, by simp [Instr.extract, h2], h3⟩
  · cases h
theorem vr_ptr {j : J} {q : Nat × Nat} {l : Loc} (h : j q.1 = some l) (k : Nat) : VR j (.p (some (q.1, q.2 + k))) (.pointer (some ⟨l.g, l.d + q.2 + k, none⟩)) := by
  simp only [VR]
  exact ⟨l, h, by rw [Nat.add_assoc]⟩
theorem xfieldAddr_ok {s : TypeId} {v u : V} {a : Value} {f : Nat} (h : xfieldAddr P s v f = some u) (hv : VR j v a) : Pur P j (Instr.fieldAt s a f) u := by
  unfold xfieldAddr at h
  split at h
  · rename_i fs q hu
    split at h
    · rename_i fd hf
      split at h
      · rename_i n hn
        simp only [VR] at hv
        obtain ⟨l, h1, rfl⟩ := hv
        refine pur_some h (vr_ptr h1 _) fun w => ?_
        simp [Instr.fieldAt, run_underlying hu, hf, Instr.sureAddr, fieldPlace, run_size hn, addr_add]
      · cases h
    · cases h
  · cases h
theorem xindexAddr_ok {t : TypeId} {v i u : V} {a b : Value} (h : xindexAddr P t v i = some u) (hv : VR j v a) (hi : VR j i b) : Pur P j (Instr.indexAt t a b) u := by
  unfold xindexAddr at h
  split at h
  · simp only [VR] at hi
    subst hi
    split at h
    · rename_i len e q hu
      split at h
      · rename_i k s hk hs
        obtain ⟨rfl, hlt⟩ := inR_ok hk
        simp only [VR] at hv
        obtain ⟨l, h1, rfl⟩ := hv
        refine pur_some h (vr_ptr h1 _) fun w => ?_
        simp [Instr.indexAt, asIntOf, run_underlying hu, hlt, run_size hs, Instr.sureAddr, addr_add]
      · cases h
    · rename_i e q len c hu
      split at h
      · rename_i k s hk hs
        obtain ⟨rfl, hlt⟩ := inR_ok hk
        have : ∃ l c, j q.1 = some l ∧ a = .slice (some ⟨l.g, l.d + q.2, none⟩) len c := by
          cases c <;> simp only [VR] at hv
          · obtain ⟨l, h1, h2⟩ := hv; exact ⟨l, _, h1, h2⟩
          · obtain ⟨l, c, h1, h2, _⟩ := hv; exact ⟨l, _, h1, h2⟩
        obtain ⟨l, c, h1, rfl⟩ := this
        refine pur_some h (vr_ptr h1 _) fun w => ?_
        simp [Instr.indexAt, asIntOf, run_underlying hu, hlt, run_size hs, addr_add]
      · cases h
    · cases h
  · cases h
theorem xs2a_ok {t : TypeId} {v u : V} {a : Value} (h : xs2a P t v = some u) (hv : VR j v a) : Pur P j (Instr.arrayAt t a) u := by
  unfold xs2a at h
  split at h
  · rename_i n e q len c hu
    split at h
    · rename_i hn
      have hn := Nat.le_of_ble_eq_true hn
      have : ∃ l c, j q.1 = some l ∧ a = .slice (some ⟨l.g, l.d + q.2, none⟩) len c := by
        cases c <;> simp only [VR] at hv
        · obtain ⟨l, h1, h2⟩ := hv; exact ⟨l, _, h1, h2⟩
        · obtain ⟨l, c, h1, h2, _⟩ := hv; exact ⟨l, _, h1, h2⟩
      obtain ⟨l, c, h1, rfl⟩ := this
      refine pur_some h (by simp only [VR]; exact ⟨l, h1, rfl⟩) fun w => ?_
      have : ¬ len < n := by omega
      simp [Instr.arrayAt, run_underlying hu, this]
    · cases h
  · cases h
theorem xiface_ok {t : TypeId} {v u : V} {a : Value} (h : xiface P t v = some u) (hv : VR j v a) : Pur P j (Instr.makeInterface t a) u := by
  unfold xiface at h
  split at h
  · cases h
  · rename_i d hd hu
    refine pur_some h (by simp only [VR]; exact ⟨a, hv, rfl⟩) fun w => ?_
    simp only [Instr.makeInterface, Sem.run_bind, run_underlying hu, Result.andThen_ok]
    rfl
  · cases h
theorem bsize (l : List UInt8) : (ByteArray.mk l.toArray).size = l.length := by show l.toArray.size = _; simp
theorem xlen_ok {t ty : TypeId} {v u : V} {a : Value} (h : xlen P t v = some u) (hv : VR j v a) : Pur P j (Builtin.len_ #[t] ty #[a]) u := by
  unfold xlen at h
  split at h
  · rename_i l hu
    simp only [VR] at hv; subst hv
    exact pur_some h (by simp only [VR]; rfl) fun w => by simp [Builtin.len_, run_underlying hu, goInt, bsize]
  · rename_i n e hu
    exact pur_some h (by simp only [VR]; rfl) fun w => by simp [Builtin.len_, run_underlying hu, goInt]
  · rename_i hu
    simp only [VR] at hv; subst hv
    exact pur_some h (by simp only [VR]; rfl) fun w => by simp [Builtin.len_, run_underlying hu, goInt]
  · rename_i e q n c hu
    have : ∃ l c, a = .slice (some l) n c := by
      cases c <;> simp only [VR] at hv
      · obtain ⟨l, h1, h2⟩ := hv; exact ⟨_, _, h2⟩
      · obtain ⟨l, c, h1, h2, _⟩ := hv; exact ⟨_, _, h2⟩
    obtain ⟨l, c, rfl⟩ := this
    exact pur_some h (by simp only [VR]; rfl) fun w => by simp [Builtin.len_, run_underlying hu, goInt]
  · rename_i hu
    simp only [VR] at hv
    obtain ⟨a, c, rfl⟩ := hv
    exact pur_some h (by simp only [VR]; rfl) fun w => by simp [Builtin.len_, run_underlying hu, goInt]
  · rename_i hu
    simp only [VR] at hv; subst hv
    exact pur_some h (by simp only [VR]; rfl) fun w => by simp [Builtin.len_, run_underlying hu, goInt]
  · cases h
theorem xcap_ok {t ty : TypeId} {v u : V} {a : Value} (h : xcap P t v = some u) (hv : VR j v a) : Pur P j (Builtin.cap_ #[t] ty #[a]) u := by
  unfold xcap at h
  split at h
  · rename_i n e hu
    exact pur_some h (by simp only [VR]; rfl) fun w => by simp [Builtin.cap_, run_underlying hu, goInt]
  · rename_i hu
    simp only [VR] at hv; subst hv
    exact pur_some h (by simp only [VR]; rfl) fun w => by simp [Builtin.cap_, run_underlying hu, goInt]
  · rename_i e q n c hu
    simp only [VR] at hv
    obtain ⟨l, h1, rfl⟩ := hv
    exact pur_some h (by simp only [VR]; rfl) fun w => by simp [Builtin.cap_, run_underlying hu, goInt]
  · cases h
end
end Eng
end Go.Proofs.YtjoinnjhpfakpaaGreatDoor
namespace Go.Proofs.YtjoinnjhpfakpaaGreatDoor
namespace Eng
open Go.RowKit

/-- A bound that is an int from 0 to y. -/
def bnd (v : Option V) (dflt y : Nat) : Option Nat :=
  match v with
  | none => some dflt
  | some (.i _ n) => inLe n y
  | some _ => none
/-- Low, high, and how far it reaches. -/
def bnds (len cap : Nat) (lo hi mx : Option V) : Option (Nat × Nat × Nat) :=
  match bnd mx cap cap with
  | none => none
  | some m => match hi, mx with
    | none, some _ => none
    | _, _ => match bnd hi len m with
      | none => none
      | some h => match bnd lo 0 h with
        | none => none
        | some l => some (l, h, m)
def xsl (id o l h : Nat) (s : Nat) (c : Cap) : V := .sl (some (id, o + l * s)) (h - l) c
def xslice (P : Program) (t : TypeId) (v : V) (lo hi mx : Option V) : Option V :=
  match P.underlying t with
  | some .string => (match v, mx with
    | .s b, none => (match bnds b.length b.length lo hi none with | some (l, h, _) => some (.s ((b.drop l).take (h - l))) | none => none)
    | _, _ => none)
  | some (.slice e) => (match sizeQ P e with
    | none => none
    | some s => (match v with
      | .sl none _ _ => (match bnds 0 0 lo hi mx with | some _ => some (.sl none 0 (.x 0)) | none => none)
      | .sl (some q) n (.x c) => (match bnds n c lo hi mx, Nat.ble n c with
        | some (l, h, m), true => (match Nat.beq m l with | true => some (xsl q.1 q.2 0 (h - l) s (.x (m - l))) | false => some (xsl q.1 q.2 l h s (.x (m - l))))
        | _, _ => none)
      | .sl (some q) n (.u z) => (match mx with
        | none => (match bnds n n lo hi none, Nat.beq z s with
          | some (l, h, _), true => (match Nat.blt l n with | true => some (xsl q.1 q.2 l h s (.u z)) | false => (match l with | 0 => some (xsl q.1 q.2 0 h s (.u z)) | _ + 1 => some .se))
          | _, _ => none)
        | some x => (match bnds n n lo hi (some x) with
          | some (l, h, m) => (match Nat.beq m l with | true => some (xsl q.1 q.2 0 (h - l) s (.x (m - l))) | false => some (xsl q.1 q.2 l h s (.x (m - l))))
          | none => none))
      | _ => none))
  | some (.array n e) => (match sizeQ P e, v with
    | some s, .p (some q) => (match bnds n n lo hi mx with
      | some (l, h, m) => (match Nat.beq m l with | true => some (xsl q.1 q.2 0 (h - l) s (.x (m - l))) | false => some (xsl q.1 q.2 l h s (.x (m - l))))
      | none => none)
    | _, _ => none)
  | _ => none

def OR (j : J) : Option V → Option Value → Prop
  | none, y => y = none
  | some v, y => ∃ z, y = some z ∧ VR j v z

section
variable {P : Program} {j : J}
theorem bnd_ok {v : Option V} {y : Option Value} {dflt c k : Nat} {code : BoundsCode} (h : bnd v dflt c = some k) (r : OR j v y) :
    (y = none ∧ k = dflt) ∨ ∃ z, y = some z ∧ (∀ w, (Instr.sliceBound z c code).run P w = .ok k w) ∧ k ≤ c := by
  unfold bnd at h
  split at h
  · injection h with h; exact .inl ⟨r, h.symm⟩
  · obtain ⟨z, rfl, hz⟩ := r
    simp only [VR] at hz
    subst hz
    obtain ⟨rfl, hk⟩ := inLe_ok h
    exact .inr ⟨_, rfl, fun w => by simp [Instr.sliceBound, asIntOf, hk], hk⟩
  · cases h
theorem bnds_ok {len cap l h m : Nat} {lo hi mx : Option V} {a b c : Option Value} {is : Bool} (e : bnds len cap lo hi mx = some (l, h, m)) (ra : OR j lo a) (rb : OR j hi b) (rc : OR j mx c) (hl : len ≤ cap) (w : World) :
    (Instr.sliceBounds is len cap a b c).run P w = .ok (l, h, m) w ∧ l ≤ h ∧ h ≤ m ∧ m ≤ cap := by
  unfold bnds at e
  split at e
  · cases e
  · rename_i m' hm
    split at e
    · cases e
    · rename_i hne
      split at e
      · cases e
      · rename_i h' hh
        split at e
        · cases e
        · rename_i l' hl'
          injection e with e
          injection e with e1 e2
          injection e2 with e2 e3
          subst e1; subst e2; subst e3
          have q1 := bnd_ok (P := P) (code := if is then .slice3Acap else .slice3Alen) hm rc
          have q3 := bnd_ok (P := P) (code := if c.isSome then .slice3C else .sliceB) hl' ra
          rcases q1 with ⟨rfl, rfl⟩ | ⟨z1, rfl, q1, k1⟩
          · have q2 := bnd_ok (P := P) (code := if is then .sliceAcap else .sliceAlen) hh rb
            rcases q2 with ⟨rfl, rfl⟩ | ⟨z2, rfl, q2, k2⟩ <;> rcases q3 with ⟨rfl, rfl⟩ | ⟨z3, rfl, q3, k3⟩
            · exact ⟨rfl, Nat.zero_le _, hl, Nat.le_refl _⟩
            · simp only [Option.isSome_none, Bool.false_eq_true, if_false] at q3
              exact ⟨by simp [Instr.sliceBounds, q3], k3, hl, Nat.le_refl _⟩
            · exact ⟨by simp [Instr.sliceBounds, q2], Nat.zero_le _, k2, Nat.le_refl _⟩
            · simp only [Option.isSome_none, Bool.false_eq_true, if_false] at q3
              exact ⟨by simp [Instr.sliceBounds, q2, q3], k3, k2, Nat.le_refl _⟩
          · have q2 := bnd_ok (P := P) (code := .slice3B) hh rb
            rcases q2 with ⟨rfl, rfl⟩ | ⟨z2, rfl, q2, k2⟩
            · exfalso
              cases hi with
              | some x => obtain ⟨z, hz, _⟩ := rb; cases hz
              | none => cases mx with
                | none => cases rc
                | some y => exact hne y rfl rfl
            · rcases q3 with ⟨rfl, rfl⟩ | ⟨z3, rfl, q3, k3⟩
              · exact ⟨by simp [Instr.sliceBounds, q1, q2], Nat.zero_le _, k2, k1⟩
              · simp only [Option.isSome_some, if_true] at q3
                exact ⟨by simp [Instr.sliceBounds, q1, q2, q3], k3, k2, k1⟩
theorem vr_sl {q : Nat × Nat} {l : Loc} (h : j q.1 = some l) (n c k : Nat) : VR j (.sl (some (q.1, q.2 + k)) n (.x c)) (.slice (some ⟨l.g, l.d + q.2 + k, none⟩) n c) := by
  simp only [VR]
  exact ⟨l, h, by rw [Nat.add_assoc]⟩
theorem sl_exact {q : Nat × Nat} {lc : Loc} {l h m s : Nat} {u : V} (h1 : j q.1 = some lc) (e : (match Nat.beq m l with | true => some (xsl q.1 q.2 0 (h - l) s (.x (m - l))) | false => some (xsl q.1 q.2 l h s (.x (m - l)))) = some u) :
    VR j u (.slice (some (if m = l then ⟨lc.g, lc.d + q.2, none⟩ else (⟨lc.g, lc.d + q.2, none⟩ : Addr).add (l * s))) (h - l) (m - l)) := by
  split at e
  · rename_i hb
    have hb := Nat.eq_of_beq_eq_true hb
    injection e with e
    subst e
    rw [if_pos hb]
    have := vr_sl h1 (h - l) (m - l) 0
    simpa [xsl] using this
  · rename_i hb
    have hb : ¬ m = l := fun e => by subst e; rw [Nat.beq_refl] at hb; cases hb
    injection e with e
    subst e
    rw [if_neg hb, addr_add]
    exact vr_sl h1 (h - l) (m - l) (l * s)
theorem xslice_ok {t : TypeId} {v u : V} {lo hi mx : Option V} {a : Value} {x y z : Option Value} (e : xslice P t v lo hi mx = some u) (hv : VR j v a) (ra : OR j lo x) (rb : OR j hi y) (rc : OR j mx z) : Pur P j (Instr.sliceAt t a x y z) u := by
  unfold xslice at e
  split at e
  · rename_i hu
    split at e
    · rename_i b
      split at e
      · rename_i l h m hb
        simp only [VR] at hv
        subst hv
        cases rc
        refine pur_some e (by simp only [VR]; rfl) fun w => ?_
        obtain ⟨h1, h2, h3, h4⟩ := bnds_ok (P := P) (is := false) (j := j) hb ra rb (c := none) rfl (Nat.le_refl _) w
        have h1' : (Instr.sliceBounds false (ByteArray.mk b.toArray).size (ByteArray.mk b.toArray).size x y none).run P w = .ok (l, h, m) w := by rw [bsize]; exact h1
        have hs : (ByteArray.mk b.toArray).extract l h = ByteArray.mk ((b.drop l).take (h - l)).toArray := by
          apply ByteArray.ext
          simp
        simp [Instr.sliceAt, Instr.slice, run_underlying hu, h1', hs]
      · cases e
    · cases e
  · rename_i el hu
    split at e
    · cases e
    · rename_i s hs
      split at e
      · split at e
        · rename_i r hb
          obtain ⟨l, h, m⟩ := r
          have hv' := hv
          simp only [VR] at hv
          subst hv
          refine pur_some e (by simp only [VR]; rfl) fun w => ?_
          obtain ⟨h1, h2, h3, h4⟩ := bnds_ok (P := P) (is := true) hb ra rb rc (Nat.le_refl _) w
          have : m = 0 ∧ h = 0 ∧ l = 0 := ⟨by omega, by omega, by omega⟩
          obtain ⟨rfl, rfl, rfl⟩ := this
          simp [Instr.sliceAt, Instr.slice, run_underlying hu, h1, run_size hs]
        · cases e
      · rename_i q n c
        split at e
        · rename_i l h m hb hl
          simp only [VR] at hv
          obtain ⟨lc, k1, rfl⟩ := hv
          intro w
          obtain ⟨h1, h2, h3, h4⟩ := bnds_ok (P := P) (is := true) hb ra rb rc (Nat.le_of_ble_eq_true hl) w
          refine ⟨_, ?_, sl_exact k1 e⟩
          simp [Instr.sliceAt, Instr.slice, run_underlying hu, h1, run_size hs]
          split <;> rfl
        · cases e
      · rename_i q n zz
        simp only [VR] at hv
        obtain ⟨lc, c, k1, rfl, k2, k3⟩ := hv
        split at e
        · cases rc
          split at e
          · rename_i l h m hb hz
            have hz := Nat.eq_of_beq_eq_true hz
            subst hz
            have up : ∀ hh, bnd hi n n = some hh → bnd hi n c = some hh := fun hh hq => by
              cases hi with
              | none => exact hq
              | some vh =>
                cases vh with
                | i kk nn =>
                  obtain ⟨rfl, this⟩ := inLe_ok (show inLe nn n = some hh from hq)
                  show (match Nat.ble hh c with | true => some hh | false => none) = some hh
                  rw [Nat.ble_eq_true_of_le (Nat.le_trans this k2)]
                | _ => cases hq
            have form : ∀ d, bnds n d lo hi none = match bnd hi n d with | none => none | some h => match bnd lo 0 h with | none => none | some l => some (l, h, d) := fun d => by cases hi <;> rfl
            have hb' : bnds n c lo hi none = some (l, h, c) := by
              rw [form] at hb ⊢
              split at hb
              · cases hb
              · rename_i hh hq
                rw [up _ hq]
                split at hb
                · cases hb
                · rename_i ll hq2
                  injection hb with hb
                  injection hb with e1 e2
                  injection e2 with e2 e3
                  subst e1; subst e2
                  simp only [hq2]
            intro w
            obtain ⟨h1, h2, h3, h4⟩ := bnds_ok (P := P) (is := true) hb' ra rb (c := none) rfl k2 w
            obtain ⟨_, h2', h3', h4'⟩ := bnds_ok (P := P) (is := true) hb ra rb (c := none) rfl (Nat.le_refl _) w
            split at e
            · rename_i hlt
              rw [Nat.blt_eq] at hlt
              injection e with e
              subst e
              have hne : ¬ c = l := by omega
              refine ⟨.slice (some ((⟨lc.g, lc.d + q.2, none⟩ : Addr).add (l * zz))) (h - l) (c - l), ?_, ?_⟩
              · simp [Instr.sliceAt, Instr.slice, run_underlying hu, h1, run_size hs, hne]
              · rw [addr_add]
                simp only [xsl, VR]
                refine ⟨lc, c - l, k1, by rw [Nat.add_assoc], by omega, ?_⟩
                have : l * zz + (c - l) * zz = c * zz := by rw [← Nat.add_mul]; congr 1; omega
                omega
            · rename_i hge
              have hge : ¬ l < n := fun q => by rw [← Nat.blt_eq] at q; rw [q] at hge; cases hge
              cases l with
              | zero =>
                injection e with e
                subst e
                refine ⟨.slice (some ((⟨lc.g, lc.d + q.2, none⟩ : Addr).add (0 * zz))) (h - 0) (c - 0), ?_, ?_⟩
                · simp [Instr.sliceAt, Instr.slice, run_underlying hu, h1, run_size hs]
                  intro _
                  rfl
                · rw [addr_add]
                  simp only [xsl, VR]
                  exact ⟨lc, c, k1, by rw [Nat.add_assoc]; rfl, by omega, by omega⟩
              | succ lq =>
                have hh : h - (lq + 1) = 0 := by omega
                injection e with e
                subst e
                refine ⟨.slice (if c = lq + 1 then some ⟨lc.g, lc.d + q.2, none⟩ else some ((⟨lc.g, lc.d + q.2, none⟩ : Addr).add ((lq + 1) * zz))) 0 (c - (lq + 1)), ?_, by simp only [VR]; exact ⟨_, _, rfl⟩⟩
                simp [Instr.sliceAt, Instr.slice, run_underlying hu, h1, run_size hs, hh]
          · cases e
        · rename_i vx
          split at e
          · rename_i l h m hb
            intro w
            obtain ⟨zx, rfl, hzx⟩ := rc
            have hb' : bnds n c lo hi (some vx) = some (l, h, m) := by
              unfold bnds at hb ⊢
              split at hb
              · cases hb
              · rename_i mm hm
                cases vx with
                | i kk nn =>
                  simp only [bnd] at hm ⊢
                  obtain ⟨rfl, this⟩ := inLe_ok hm
                  have h9 : inLe (mm : Int) c = some mm := by
                    show (match Nat.ble mm c with | true => some mm | false => none) = some mm
                    rw [Nat.ble_eq_true_of_le (Nat.le_trans this k2)]
                  rw [h9]
                  exact hb
                | _ => cases hm
            obtain ⟨h1, h2, h3, h4⟩ := bnds_ok (P := P) (is := true) hb' ra rb ⟨zx, rfl, hzx⟩ k2 w
            refine ⟨_, ?_, sl_exact k1 e⟩
            simp [Instr.sliceAt, Instr.slice, run_underlying hu, h1, run_size hs]
            split <;> rfl
          · cases e
      · cases e
  · rename_i n el hu
    split at e
    · rename_i s q hs
      split at e
      · rename_i l h m hb
        simp only [VR] at hv
        obtain ⟨lc, k1, rfl⟩ := hv
        intro w
        obtain ⟨h1, h2, h3, h4⟩ := bnds_ok (P := P) (is := false) hb ra rb rc (Nat.le_refl _) w
        refine ⟨_, ?_, sl_exact k1 e⟩
        simp [Instr.sliceAt, Instr.sureAddr, run_underlying hu, h1, run_size hs]
        try (split <;> rfl)
      · cases e
    · cases e
  · cases e
end
end Eng
end Go.Proofs.YtjoinnjhpfakpaaGreatDoor
namespace Go.Proofs.YtjoinnjhpfakpaaGreatDoor
namespace Eng
open Go.RowKit

def PR (j : J) : List (Nat × V) → List (Nat × Value) → Prop
  | [], ys => ys = []
  | x :: xs, ys => ∃ y zs, ys = (x.1, y) :: zs ∧ VR j x.2 y ∧ PR j xs zs
def fillV (place : Nat → Option (Nat × Nat)) : List (Nat × V) → List V → Option (List V)
  | [], cs => some cs
  | x :: xs, cs =>
    match place x.1 with
    | some p => (match Nat.beq x.2.cells.length p.2, Nat.ble (p.1 + p.2) cs.length with
      | true, true => fillV place xs (ov cs p.1 x.2.cells)
      | _, _ => none)
    | none => none
def zeroQ (P : Program) (t : TypeId) : Option (List V) :=
  match P.info? t with
  | some i => (match i.zero with
    | some z => (match ofC z with | some v => (match Nat.beq v.cells.length i.size with | true => some v.cells | false => none) | none => none)
    | none => none)
  | none => none
def places (P : Program) (fs : List Field) : Option (List (Nat × Nat)) := fs.mapM (fun f => (P.info? f.type).map fun i => (f.offset, i.size))
def xbuild (P : Program) (t : TypeId) (parts : List (Nat × V)) : Option V :=
  match zeroQ P t, P.underlying t with
  | some z, some (.array _ e) => (match sizeQ P e with
    | some s => (match fillV (fun i => some (i * s, s)) parts z with | some r => some (.a r) | none => none)
    | none => none)
  | some z, some (.struct fs) => (match places P fs.toList with
    | some ps => (match fillV (fun i => ps[i]?) parts z with | some r => some (.a r) | none => none)
    | none => none)
  | _, _ => none
/-- So many zeros. -/
def rep (zs : List V) : Nat → List V
  | 0 => []
  | n + 1 => zs ++ rep zs n
/-- The cells of n zeros of a type. -/
def zrow (P : Program) (e : TypeId) (n : Nat) : Option (List V) :=
  match zeroQ P e with
  | some (z :: zs) => some (rep (z :: zs) n)
  | some [] => none
  | none => none

section
variable {P : Program} {j : J}
theorem fillV_ok {place : Nat → Option (Nat × Nat)} : ∀ {xs : List (Nat × V)} {ys : List (Nat × Value)} {cs r : List V} {arr : Array Value}, PR j xs ys → VRs j cs arr.toList → fillV place xs cs = some r →
    ∃ out, Instr.fill place arr ys = some out ∧ VRs j r out.toList
  | [], ys, cs, r, arr, h1, h2, h3 => by
    simp only [PR] at h1
    subst h1
    injection h3 with h3
    subst h3
    exact ⟨arr, rfl, h2⟩
  | x :: xs, ys, cs, r, arr, h1, h2, h3 => by
    obtain ⟨y, zs, rfl, hy, h1⟩ := h1
    unfold fillV at h3
    split at h3
    · rename_i p hp
      split at h3
      · rename_i c1 c2
        have c1 := Nat.eq_of_beq_eq_true c1
        have c2 := Nat.le_of_ble_eq_true c2
        have hc := cells_rel hy
        have hcl := hc.len
        have hal := h2.len
        simp only [Array.length_toList] at hcl hal
        obtain ⟨g1, g2⟩ := Great.foldl_set p.1 y.cells.toList 0 arr
        refine (fun (q : ∃ out, Instr.fill place ((y.cells.toList.zipIdx 0).foldl (fun cs (x : Value × Nat) => cs.setIfInBounds (p.1 + x.2) x.1) arr) zs = some out ∧ VRs j r out.toList) => ?_) (fillV_ok h1 (VRs.of_at ?_ fun i v hv => ?_) h3)
        · obtain ⟨out, q1, q2⟩ := q
          refine ⟨out, ?_, q2⟩
          unfold Instr.fill
          simp only [hp]
          rw [if_neg (by simp; omega)]
          rw [← q1, ← Array.foldl_toList, Array.toList_zipIdx]
        · rw [Array.length_toList, g1, ov_len, hal]
        · rw [Array.getElem?_toList, g2 i]
          rcases ov_at _ _ _ hv with ⟨a1, a2, a3⟩ | ⟨a1, a2⟩
          · obtain ⟨z, b1, b2⟩ := hc.at_ a3
            refine ⟨z, ?_, b2⟩
            rw [if_pos (by simp only [Array.length_toList]; omega)]
            exact b1
          · obtain ⟨z, b1, b2⟩ := h2.at_ a2
            refine ⟨z, ?_, b2⟩
            rw [if_neg (by simp only [Array.length_toList]; omega)]
            rw [← Array.getElem?_toList]; exact b1
      · cases h3
    · cases h3
theorem zeroQ_ok {t : TypeId} {z : List V} (h : zeroQ P t = some z) (j : J) : ∃ i y, P.info? t = some i ∧ i.zero = some y ∧ VRs j z y.cells.toList ∧ z.length = i.size := by
  unfold zeroQ at h
  split at h
  · rename_i i hi
    split at h
    · rename_i y hy
      split at h
      · rename_i v hv
        split at h
        · rename_i hb
          injection h with h
          subst h
          exact ⟨i, y, hi, hy, cells_rel (ofC_rel j y v hv), Nat.eq_of_beq_eq_true hb⟩
        · cases h
      · cases h
    · cases h
  · cases h
theorem run_zero {t : TypeId} {i : TypeInfo} {y : Value} (h1 : P.info? t = some i) (h2 : i.zero = some y) (w : World) : (zeroValue t).run P w = .ok y w := by
  simp [zeroValue, typeInfo, h1, h2]
theorem xbuild_ok {t : TypeId} {xs : List (Nat × V)} {ys : Array (Nat × Value)} {u : V} (h : xbuild P t xs = some u) (hp : PR j xs ys.toList) : Pur P j (Instr.build t ys) u := by
  unfold xbuild at h
  split at h
  · rename_i z n e hz hu
    obtain ⟨i, y, h1, h2, h3, h4⟩ := zeroQ_ok hz j
    split at h
    · rename_i s hs
      split at h
      · rename_i r hr
        obtain ⟨out, q1, q2⟩ := fillV_ok hp h3 hr
        refine pur_some h (by simp only [VR]; exact ⟨_, q2, rfl⟩) fun w => ?_
        simp [Instr.build, run_underlying hu, run_zero h1 h2, run_size hs, q1]
      · cases h
    · cases h
  · rename_i z fs hz hu
    obtain ⟨i, y, h1, h2, h3, h4⟩ := zeroQ_ok hz j
    split at h
    · rename_i ps hps
      split at h
      · rename_i r hr
        obtain ⟨out, q1, q2⟩ := fillV_ok hp h3 hr
        refine pur_some h (by simp only [VR]; exact ⟨_, q2, rfl⟩) fun w => ?_
        simp [Instr.build, run_underlying hu, run_zero h1 h2, Array.mapM_eq_mapM_toList, run_places w _ _ hps, q1]
      · cases h
    · cases h
  · cases h
theorem rep_len (zs : List V) : ∀ n, (rep zs n).length = n * zs.length
  | 0 => by simp [rep]
  | n + 1 => by rw [rep, List.length_append, rep_len zs n, Nat.add_mul, Nat.one_mul, Nat.add_comm]
theorem rep_at (zs : List V) : ∀ (n i : Nat) (v : V), (rep zs n)[i]? = some v → zs[i % zs.length]? = some v
  | 0, i, v, h => by simp [rep] at h
  | n + 1, i, v, h => by
    rw [rep] at h
    by_cases hi : i < zs.length
    · rw [List.getElem?_append_left hi] at h
      rw [Nat.mod_eq_of_lt hi]
      exact h
    · rw [List.getElem?_append_right (by omega)] at h
      have := rep_at zs n _ v h
      rwa [← Nat.mod_eq_sub_mod (by omega)] at this
/-- A row of zeros, as the program makes it. -/
theorem zrow_ok {e : TypeId} {n : Nat} {r : List V} (h : zrow P e n = some r) (j : J) : ∃ i y, P.info? e = some i ∧ i.zero = some y ∧ 0 < i.size ∧ r.length = n * i.size ∧ y.cells.size = i.size ∧
    VRs j r ((List.range (n * i.size)).map fun k => y.cells[k % y.cells.size]!) := by
  unfold zrow at h
  split at h
  · rename_i z zs hz
    obtain ⟨i, y, h1, h2, h3, h4⟩ := zeroQ_ok hz j
    injection h with h
    subst h
    have hl := h3.len
    simp only [Array.length_toList] at hl
    refine ⟨i, y, h1, h2, by simp at h4; omega, by rw [rep_len, h4], by omega, VRs.of_at (by simp [rep_len, h4]) fun k v hk => ?_⟩
    have hlt := (List.getElem?_eq_some_iff.1 hk).1
    rw [rep_len, h4] at hlt
    have := rep_at _ _ _ _ hk
    obtain ⟨u, a1, a2⟩ := h3.at_ this
    refine ⟨u, ?_, a2⟩
    rw [List.getElem?_map, List.getElem?_range hlt]
    rw [Array.getElem?_toList] at a1
    have hm : k % (z :: zs).length < y.cells.size := by rw [hl]; exact Nat.mod_lt _ (by simp)
    simp only [Option.map_some, Option.some.injEq]
    rw [hl, getElem!_pos y.cells _ hm]
    rw [Array.getElem?_eq_getElem hm] at a1
    injection a1
  · cases h
  · cases h
end
end Eng
end Go.Proofs.YtjoinnjhpfakpaaGreatDoor

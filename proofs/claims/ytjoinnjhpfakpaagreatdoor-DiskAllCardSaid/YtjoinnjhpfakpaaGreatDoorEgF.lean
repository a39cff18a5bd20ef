/-
  A closed run, reckoned: what the looks over a region tell.
  A closed run, reckoned: a region in any order, as the executor takes it: what its records tell.
  A closed run, reckoned: a region in any order is right.
  A closed run, reckoned: a region in any order is right: the whole.
  A closed run, reckoned: the executor is right.
  A closed run, reckoned: between contracts walked by hand and the executor's.
  A closed run, reckoned: functions without a body; hooks by function.
-/
import Derived.Test.YtjoinnjhpfakpaaGreatDoorEgE
import Derived.Below
import Derived.Lib.Bytealg
import Derived.Lib.MakeNoZero
namespace Go.Proofs.YtjoinnjhpfakpaaGreatDoor
namespace Eng
open Go.RowKit

theorem nthN_eq : ∀ (l : List Nat) (k : Nat), nthN l k = l[k]?
  | [], _ => rfl
  | _ :: _, 0 => rfl
  | _ :: vs, k + 1 => by rw [nthN, nthN_eq vs k]; rfl
theorem mask_ok : ∀ {acc : List Nat} {i : Nat} {es : List Edge} {m : Nat}, mask acc i es = some m →
    (∀ k, m.testBit k = true → ∃ e ∈ es, Region.binds .any e = true ∧ (e.on = k ∨ ∃ m', acc[e.on]? = some m' ∧ m'.testBit k = true)) ∧
    ∀ e ∈ es, Region.binds .any e = true → e.on < i ∧ m.testBit e.on = true ∧ ∀ m' k, acc[e.on]? = some m' → m'.testBit k = true → m.testBit k = true
  | acc, i, [], m, h => by
    injection h with h
    subst h
    exact ⟨fun k hk => by simp at hk, fun e he => by simp at he⟩
  | acc, i, e :: es, m, h => by
    unfold mask at h
    split at h
    · rename_i hb
      obtain ⟨h1, h2⟩ := mask_ok h
      refine ⟨fun k hk => ?_, fun e' he' hb' => ?_⟩
      · obtain ⟨e', a, b⟩ := h1 k hk
        exact ⟨e', List.mem_cons_of_mem _ a, b⟩
      · rcases List.mem_cons.1 he' with rfl | he'
        · rw [hb] at hb'; cases hb'
        · exact h2 e' he' hb'
    · rename_i hb
      split at h
      · rename_i m1 m2 c1 c2 c3
        rw [nthN_eq] at c2
        rw [Nat.blt_eq] at c1
        obtain ⟨h1, h2⟩ := mask_ok c3
        injection h with h
        have tb : ∀ k, m.testBit k = (m2.testBit k || m1.testBit k || decide (e.on = k)) := fun k => by
          rw [← h]
          show ((m2 ||| m1) ||| (2 ^ e.on)).testBit k = _
          rw [Nat.testBit_or, Nat.testBit_or, Nat.testBit_two_pow]
        refine ⟨fun k hk => ?_, fun e' he' hb' => ?_⟩
        · rw [tb] at hk
          simp only [Bool.or_eq_true, decide_eq_true_eq] at hk
          rcases hk with (hk | hk) | hk
          · obtain ⟨e', a, b⟩ := h1 k hk
            exact ⟨e', List.mem_cons_of_mem _ a, b⟩
          · exact ⟨e, List.mem_cons_self, hb, .inr ⟨m1, c2, hk⟩⟩
          · exact ⟨e, List.mem_cons_self, hb, .inl hk⟩
        · rcases List.mem_cons.1 he' with rfl | he'
          · refine ⟨c1, by rw [tb]; simp, fun m' k q1 q2 => ?_⟩
            rw [c2] at q1
            injection q1 with q1
            subst q1
            rw [tb, q2]
            simp
          · obtain ⟨a, b, c⟩ := h2 e' he' hb'
            exact ⟨a, by rw [tb, b]; simp, fun m' k q1 q2 => by rw [tb, c m' k q1 q2]; simp⟩
      · cases h
theorem masks_ok : ∀ {l : List Oper} {acc A : List Nat}, masks l acc = some A → ∃ B, A = acc ++ B ∧ B.length = l.length ∧ ∀ (i : Nat) (o : Oper), l[i]? = some o → ∃ m, B[i]? = some m ∧ mask (acc ++ B.take i) (acc.length + i) o.after.toList = some m
  | [], acc, A, h => by
    injection h with h
    subst h
    exact ⟨[], by simp, rfl, fun i o h => by simp at h⟩
  | o :: l, acc, A, h => by
    unfold masks at h
    split at h
    · rename_i m hm
      rw [fN_eq] at h
      obtain ⟨B, h1, h2, h3⟩ := masks_ok h
      refine ⟨m :: B, by rw [h1]; simp, by simp [h2], fun i o' hi => ?_⟩
      cases i with
      | zero =>
        simp only [List.getElem?_cons_zero, Option.some.injEq] at hi
        subst hi
        exact ⟨m, rfl, by simpa using hm⟩
      | succ i =>
        obtain ⟨m', a, b⟩ := h3 i o' (by simpa using hi)
        refine ⟨m', by simpa using a, ?_⟩
        have : acc ++ (m :: B).take (i + 1) = (acc ++ [m]) ++ B.take i := by simp
        rw [this]
        have e : acc.length + (i + 1) = (acc ++ [m]).length + i := by simp; omega
        rw [e]
        exact b
    · cases h
def ancA (A : List Nat) (i k : Nat) : Prop := ∃ m, A[i]? = some m ∧ m.testBit k = true
/-- What the masks are. -/
structure MOk (ops : Array Oper) (A : List Nat) : Prop where
  at_ : ∀ (i : Nat) (o : Oper), ops[i]? = some o → ∃ m, A[i]? = some m ∧ mask (A.take i) i o.after.toList = some m
theorem mok {ops : Array Oper} {A : List Nat} (h : masks ops.toList [] = some A) : A.length = ops.size ∧ MOk ops A := by
  obtain ⟨B, h1, h2, h3⟩ := masks_ok h
  rw [List.nil_append] at h1
  subst h1
  exact ⟨by simpa using h2, ⟨fun i o ho => by simpa using h3 i o (by rw [Array.getElem?_toList]; exact ho)⟩⟩
section
variable {ops : Array Oper} {A : List Nat}
theorem MOk.edge (h : MOk ops A) (i : Nat) (o : Oper) (ho : ops[i]? = some o) (e : Edge) (he : e ∈ o.after) (hb : Region.binds .any e = true) : e.on < i := by
  obtain ⟨m, h1, h2⟩ := h.at_ i o ho
  exact ((mask_ok h2).2 e (Array.mem_toList_iff.2 he) hb).1
theorem MOk.anc_edge (h : MOk ops A) (i k : Nat) (hi : i < ops.size) (ha : ancA A i k) : ∃ o, ops[i]? = some o ∧ ∃ e ∈ o.after, Region.binds .any e = true ∧ (e.on = k ∨ ancA A e.on k) := by
  obtain ⟨m, h1, h2⟩ := h.at_ i _ (Array.getElem?_eq_getElem hi)
  obtain ⟨m', h3, h4⟩ := ha
  rw [h1] at h3
  injection h3 with h3
  subst h3
  obtain ⟨e, a, b, c⟩ := (mask_ok h2).1 k h4
  refine ⟨_, Array.getElem?_eq_getElem hi, e, Array.mem_toList_iff.1 a, b, ?_⟩
  rcases c with c | ⟨m', c1, c2⟩
  · exact .inl c
  · right
    have hlt := ((mask_ok h2).2 e a b).1
    rw [List.getElem?_take_of_lt hlt] at c1
    exact ⟨m', c1, c2⟩
theorem MOk.anc_lt (h : MOk ops A) : ∀ (n i k : Nat), i < n → i < ops.size → ancA A i k → k < i := by
  intro n
  induction n with
  | zero => intro i k hi; omega
  | succ n ih =>
    intro i k hi hs ha
    obtain ⟨o, ho, e, he, hb, hc⟩ := h.anc_edge i k hs ha
    have hlt := h.edge i o ho e he hb
    rcases hc with rfl | hc
    · exact hlt
    · have := ih e.on k (by omega) (by omega) hc
      omega
theorem MOk.trans (h : MOk ops A) : ∀ (n a b c : Nat), a < n → a < ops.size → ancA A a b → ancA A b c → ancA A a c := by
  intro n
  induction n with
  | zero => intro a b c ha; omega
  | succ n ih =>
    intro a b c ha hs hab hbc
    obtain ⟨m, h1, h2⟩ := h.at_ a _ (Array.getElem?_eq_getElem hs)
    obtain ⟨m', h3, h4⟩ := hab
    rw [h1] at h3
    injection h3 with h3
    subst h3
    obtain ⟨e, p, q, r⟩ := (mask_ok h2).1 b h4
    obtain ⟨s1, s2, s3⟩ := (mask_ok h2).2 e p q
    have key : ancA A e.on c → ancA A a c := fun ⟨m2, q1, q2⟩ => ⟨m, h1, s3 m2 c (by rw [List.getElem?_take_of_lt s1]; exact q1) q2⟩
    rcases r with rfl | ⟨m2, r1, r2⟩
    · exact key hbc
    · rw [List.getElem?_take_of_lt s1] at r1
      exact key (ih e.on b c (by omega) (by omega) ⟨m2, r1, r2⟩ hbc)
end
theorem memN_iff (t : Nat) : ∀ l : List Nat, memN t l = true ↔ t ∈ l
  | [] => by simp [memN]
  | x :: l => by
    have e : memN t (x :: l) = (Bool.rec (memN t l) true (Nat.beq x t) : Bool) := rfl
    rw [e]
    cases hb : Nat.beq x t with
    | true => simp [Nat.eq_of_beq_eq_true hb]
    | false =>
      have : ¬ x = t := fun q => by subst q; rw [Nat.beq_refl] at hb; cases hb
      simp only [memN_iff t l, List.mem_cons]
      constructor
      · exact .inr
      · rintro (q | q)
        · exact absurd q.symm this
        · exact q
theorem noDup_ok {nt : Nat} : ∀ {ds : List (Option Nat)}, noDup nt ds = true → (∀ (i d : Nat), ds[i]? = some (some d) → d < nt) ∧ ∀ (i k d : Nat), ds[i]? = some (some d) → ds[k]? = some (some d) → i = k
  | [], _ => ⟨fun i d h => by simp at h, fun i k d h => by simp at h⟩
  | none :: ds, h => by
    obtain ⟨h1, h2⟩ := noDup_ok (ds := ds) h
    refine ⟨fun i d hi => ?_, fun i k d hi hk => ?_⟩
    · cases i with
      | zero => simp at hi
      | succ i => exact h1 i d (by simpa using hi)
    · cases i with
      | zero => simp at hi
      | succ i =>
        cases k with
        | zero => simp at hk
        | succ k => rw [h2 i k d (by simpa using hi) (by simpa using hk)]
  | some t :: ds, h => by
    simp only [noDup, Bool.and_eq_true, Bool.not_eq_true'] at h
    obtain ⟨⟨ha, hb⟩, hc⟩ := h
    obtain ⟨h1, h2⟩ := noDup_ok (ds := ds) hc
    have hn : ∀ (i : Nat), ds[i]? ≠ some (some t) := fun i hi => by
      have := List.mem_of_getElem? hi
      have : (ds.any (isN t)) = true := List.any_eq_true.2 ⟨some t, this, Nat.beq_refl t⟩
      rw [this] at hb; cases hb
    rw [Nat.blt_eq] at ha
    refine ⟨fun i d hi => ?_, fun i k d hi hk => ?_⟩
    · cases i with
      | zero => simp at hi; omega
      | succ i => exact h1 i d (by simpa using hi)
    · cases i with
      | zero =>
        simp at hi
        subst hi
        cases k with
        | zero => rfl
        | succ k => exact absurd (by simpa using hk) (hn k)
      | succ i =>
        cases k with
        | zero =>
          simp at hk
          subst hk
          exact absurd (by simpa using hi) (hn i)
        | succ k => rw [h2 i k d (by simpa using hi) (by simpa using hk)]
theorem wrOk_ok {A : List Nat} {i m : Nat} {us : List Nat} : ∀ {ds : List (Option Nat)} {k0 : Nat}, wrOk A i m us k0 ds = true → ∀ (k t : Nat), ds[k]? = some (some t) → t ∈ us → k0 + k = i ∨ (k0 + k < i ∧ m.testBit (k0 + k) = true) ∨ (i < k0 + k ∧ ancA A (k0 + k) i)
  | [], _, _, k, t, hk, _ => by simp at hk
  | d :: ds, k0, h, k, t, hk, ht => by
    unfold wrOk at h
    simp only [Bool.and_eq_true] at h
    obtain ⟨h1, h2⟩ := h
    cases k with
    | zero =>
      simp at hk
      subst hk
      simp only [(memN_iff t us).2 ht] at h1
      split at h1
      · rename_i hb; exact .inl (Nat.eq_of_beq_eq_true hb)
      · rename_i hb
        have hne : ¬ k0 = i := fun q => by subst q; rw [Nat.beq_refl] at hb; cases hb
        split at h1
        · rename_i hl
          rw [Nat.blt_eq] at hl
          exact .inr (.inl ⟨hl, h1⟩)
        · rename_i hl
          have hl : ¬ k0 < i := fun q => by rw [← Nat.blt_eq] at q; rw [q] at hl; cases hl
          split at h1
          · rename_i mk hm
            rw [nthN_eq] at hm
            exact .inr (.inr ⟨by omega, mk, hm, h1⟩)
          · cases h1
    | succ k =>
      have := wrOk_ok h2 k t (by simpa using hk) ht
      rw [show k0 + (k + 1) = k0 + 1 + k by omega]
      exact this
theorem allWr_ok {ops : Array Oper} {A : List Nat} : ∀ {l : List Oper} {i0 : Nat}, allWr ops A i0 l = true → ∀ (i : Nat) (o : Oper), l[i]? = some o → ∃ m, A[i0 + i]? = some m ∧ wrOk A (i0 + i) m (uses ops o) 0 (dsts ops.toList) = true
  | [], _, _, i, o, h => by simp at h
  | o :: l, i0, h, i, o', hi => by
    unfold allWr at h
    simp only [Bool.and_eq_true] at h
    obtain ⟨h1, h2⟩ := h
    cases i with
    | zero =>
      simp at hi
      subst hi
      split at h1
      · rename_i m hm
        rw [nthN_eq] at hm
        exact ⟨m, hm, h1⟩
      · cases h1
    | succ i =>
      obtain ⟨m, a, b⟩ := allWr_ok h2 i o' (by simpa using hi)
      rw [show i0 + (i + 1) = i0 + 1 + i by omega]
      exact ⟨m, a, b⟩
theorem dsts_at (ops : Array Oper) (i : Nat) (d : Nat) : (dsts ops.toList)[i]? = some (some d) ↔ dstOf ops i = some d := by
  unfold dsts dstOf
  rw [List.getElem?_map, Array.getElem?_toList]
  cases ops[i]? <;> simp
theorem att_get {mi mc : Nat} {M : H} {id : Nat} {b : B} : ∀ {fs : List Fs}, (att mi mc fs M).get id = some b → M.get id = some b ∨ ∃ f ∈ fs, mi.testBit f.i = true ∧ mc.testBit f.i = false ∧ f.lab = id ∧ f.b = b
  | [], h => .inl h
  | f :: fs, h => by
    have e : att mi mc (f :: fs) M = (Bool.rec (att mi mc fs M) (Bool.rec (T.set 24 (att mi mc fs M) f.lab (some f.b)) (att mi mc fs M) (bit mc f.i)) (bit mi f.i) : H) := rfl
    rw [e] at h
    have old : (att mi mc fs M).get id = some b → M.get id = some b ∨ ∃ g ∈ f :: fs, mi.testBit g.i = true ∧ mc.testBit g.i = false ∧ g.lab = id ∧ g.b = b := fun q => by
      rcases att_get q with q | ⟨g, a, b⟩
      · exact .inl q
      · exact .inr ⟨g, List.mem_cons_of_mem _ a, b⟩
    cases h1 : bit mi f.i with
    | false => rw [h1] at h; exact old h
    | true =>
      cases h2 : bit mc f.i with
      | true => rw [h1, h2] at h; exact old h
      | false =>
        rw [h1, h2] at h
        rcases T.set_get h with ⟨rfl, q⟩ | ⟨_, q⟩
        · injection q with q
          exact .inr ⟨f, List.mem_cons_self, h1, h2, rfl, q⟩
        · exact old q
theorem eqRs_eq : ∀ {l m : List (List (BinOp × IntKind × Int) × Int)}, eqRs l m = true → l = m
  | [], [], _ => rfl
  | [], _ :: _, h => by cases h
  | _ :: _, [], h => by cases h
  | (a, a1) :: l, (b, b1) :: m, h => by
    unfold eqRs at h
    split at h
    · rename_i h1 h2
      have h1 := eqPs_eq h1
      have h2 := of_decide_eq_true h2
      simp only at h1 h2
      rw [h1, h2, eqRs_eq h]
    · cases h
mutual
theorem eqV_eq : ∀ (a b : V), eqV a b = true → a = b
  | .b x, b, h => by cases b <;> simp_all [eqV]
  | .i k n, b, h => by cases b <;> simp_all [eqV]
  | .f k n, b, h => by cases b <;> simp_all [eqV]
  | .s l, b, h => by cases b <;> simp_all [eqV, eqS_eq]
  | .p none, b, h => by
    cases b with
    | p o => cases o <;> simp_all [eqV]
    | _ => simp_all [eqV]
  | .p (some q), b, h => by
    cases b with
    | p o => cases o <;> simp_all [eqV]; exact Prod.ext h.1 h.2
    | _ => simp_all [eqV]
  | .sl none n (.x c), b, h => by
    cases b with
    | sl o n c => cases o <;> cases c <;> simp_all [eqV]
    | _ => simp_all [eqV]
  | .sl none n (.u c), b, h => by
    cases b with
    | sl o n c => cases o <;> cases c <;> simp_all [eqV]
    | _ => simp_all [eqV]
  | .sl (some q) n (.x c), b, h => by
    cases b with
    | sl o n c =>
      cases o <;> cases c <;> simp_all [eqV]
      exact Prod.ext h.1.1.1 h.1.1.2
    | _ => simp_all [eqV]
  | .sl (some q) n (.u c), b, h => by
    cases b with
    | sl o n c =>
      cases o <;> cases c <;> simp_all [eqV]
      exact Prod.ext h.1.1.1 h.1.1.2
    | _ => simp_all [eqV]
  | .mp none, b, h => by
    cases b with
    | mp o => cases o <;> simp_all [eqV]
    | _ => simp_all [eqV]
  | .mp (some q), b, h => by
    cases b with
    | mp o => cases o <;> simp_all [eqV]
    | _ => simp_all [eqV]
  | .fn f cs, b, h => by
    cases b with
    | fn g ds =>
      simp only [eqV, Bool.and_eq_true] at h
      rw [Nat.eq_of_beq_eq_true h.1, eqVs_eq cs ds h.2]
    | _ => simp [eqV] at h
  | .qs a, b, h => by cases b <;> simp_all [eqV]
  | .qi a k ps rs, b, h => by
    cases b with
    | qi b k' ps' rs' =>
      simp only [eqV, Bool.and_eq_true] at h
      rw [Nat.eq_of_beq_eq_true h.1.1.1, of_decide_eq_true h.1.1.2, eqPs_eq h.1.2, eqRs_eq h.2]
    | _ => simp [eqV] at h
  | .nf, b, h => by cases b <;> simp_all [eqV]
  | .ic t v, b, h => by
    cases b with
    | ic u x =>
      simp only [eqV, Bool.and_eq_true] at h
      rw [Nat.eq_of_beq_eq_true h.1, eqV_eq v x h.2]
    | _ => simp [eqV] at h
  | .ni, b, h => by cases b <;> simp_all [eqV]
  | .a l, b, h => by
    cases b with
    | a m => simp only [eqV] at h; rw [eqVs_eq l m h]
    | _ => simp [eqV] at h
  | .t l, b, h => by
    cases b with
    | t m => simp only [eqV] at h; rw [eqVs_eq l m h]
    | _ => simp [eqV] at h
  | .un, b, h => by cases b <;> simp [eqV] at h
  | .se, b, h => by cases b <;> simp [eqV] at h
theorem eqVs_eq : ∀ (a b : List V), eqVs a b = true → a = b
  | [], [], _ => rfl
  | [], _ :: _, h => by simp [eqVs] at h
  | _ :: _, [], h => by simp [eqVs] at h
  | v :: l, u :: m, h => by
    simp only [eqVs, Bool.and_eq_true] at h
    rw [eqV_eq v u h.1, eqVs_eq l m h.2]
end
end Eng
end Go.Proofs.YtjoinnjhpfakpaaGreatDoor
namespace Go.Proofs.YtjoinnjhpfakpaaGreatDoor
namespace Eng
open Go.RowKit

/-- What an operation's record makes of what stood. -/
def nxt (i m : Nat) (rc : Rc) (s : St) (ts : T V) (M : H) (n : Nat) : St :=
  match rc with
  | .f _ lab b => ⟨(rc, s.n) :: s.rcs, ⟨i, lab, b⟩ :: s.fs, ts, s.M, n, s.lastE, s.mc⟩
  | .e _ _ _ => ⟨(rc, s.n) :: s.rcs, s.fs, ts, M, n, some i, m⟩
  | _ => ⟨(rc, s.n) :: s.rcs, s.fs, ts, s.M, n, s.lastE, s.mc⟩
section
variable (P : Program) (G : Nat) (call : CallT) (ext : ExtT) (nt : Nat) (M0 : H) (ops : Array Oper)
/-- The k-th turn. -/
structure Turn (s : St) (k : Nat) (s' : St) (o : Oper) (m : Nat) (rc : Rc) (M' : H) (n' : Nat) (ts' : T V) : Prop where
  one : one P G call ext M0 ops o m s.mc s.lastE s.fs s.ts s.M s.n = some (rc, M', n')
  put : tput nt s.ts o.dst rc.v = some ts'
  eq : s' = nxt k m rc s ts' M' n'
theorem goA_ok : ∀ (l : List Oper) (A : List Nat) (i : Nat) (s s' : St), goA P G call ext nt M0 ops l A i s = some s' →
    ∃ S : Nat → St, S 0 = s ∧ S l.length = s' ∧ ∀ k o, l[k]? = some o → ∃ m rc M' n' ts', A[k]? = some m ∧ Turn P G call ext nt M0 ops (S k) (i + k) (S (k + 1)) o m rc M' n' ts'
  | [], A, i, s, s', h => by
    have h : some s = some s' := h
    injection h with h
    exact ⟨fun _ => s, rfl, h, fun k o h => by simp at h⟩
  | o :: l, [], i, s, s', h => by
    have h : (none : Option St) = some s' := h
    cases h
  | o :: l, m :: A, i, s, s', h => by
    obtain ⟨rcs, fs, ts, M, n, lastE, mc⟩ := s
    have h : (match one P G call ext M0 ops o m mc lastE fs ts M n with
      | none => none
      | some (rc, M', n') => fN n' fun n' => fN (i + 1) fun i' => fV rc.v fun v =>
        (match tput nt ts o.dst v with
        | none => none
        | some ts' => (match rc with
          | .p _ => goA P G call ext nt M0 ops l A i' ⟨(.p v, n) :: rcs, fs, ts', M, n', lastE, mc⟩
          | .f _ lab b => goA P G call ext nt M0 ops l A i' ⟨(.f v lab b, n) :: rcs, ⟨i, lab, b⟩ :: fs, ts', M, n', lastE, mc⟩
          | .r _ t a => goA P G call ext nt M0 ops l A i' ⟨(.r v t a, n) :: rcs, fs, ts', M, n', lastE, mc⟩
          | .e _ Mb Ma => goA P G call ext nt M0 ops l A i' ⟨(.e v Mb Ma, n) :: rcs, fs, ts', M', n', some i, m⟩))) = some s' := h
    split at h
    · cases h
    · rename_i rc M' n' h1
      rw [fN_eq, fN_eq, fV_eq] at h
      split at h
      · cases h
      · rename_i ts' h2
        have fin : goA P G call ext nt M0 ops l A (i + 1) (nxt i m rc ⟨rcs, fs, ts, M, n, lastE, mc⟩ ts' M' n') = some s' := by
          cases rc <;> exact h
        obtain ⟨S, k1, k2, k3⟩ := goA_ok l A (i + 1) _ s' fin
        refine ⟨fun k => match k with | 0 => ⟨rcs, fs, ts, M, n, lastE, mc⟩ | k + 1 => S k, rfl, k2, fun k o' hk => ?_⟩
        cases k with
        | zero =>
          simp only [List.getElem?_cons_zero, Option.some.injEq] at hk
          subst hk
          exact ⟨m, rc, M', n', ts', rfl, h1, h2, k1⟩
        | succ k =>
          obtain ⟨m2, rc2, M2, n2, ts2, q1, q2⟩ := k3 k o' (by simpa using hk)
          refine ⟨m2, rc2, M2, n2, ts2, by simpa using q1, ?_⟩
          rw [show i + (k + 1) = i + 1 + k by omega]
          exact q2
end
theorem nxt_rcs (i m : Nat) (rc : Rc) (s : St) (ts : T V) (M : H) (n : Nat) : (nxt i m rc s ts M n).rcs = (rc, s.n) :: s.rcs := by cases rc <;> rfl
theorem nxt_ts (i m : Nat) (rc : Rc) (s : St) (ts : T V) (M : H) (n : Nat) : (nxt i m rc s ts M n).ts = ts := by cases rc <;> rfl
theorem nxt_n (i m : Nat) (rc : Rc) (s : St) (ts : T V) (M : H) (n : Nat) : (nxt i m rc s ts M n).n = n := by cases rc <;> rfl

theorem links_mem {A : List Nat} {e : Es} : ∀ {l : List Rc} {i0 : Nat}, e ∈ links A i0 l ↔ ∃ k v Mb, l[k]? = some (.e v Mb e.M) ∧ A[i0 + k]? = some e.m ∧ e.i = i0 + k
  | [], i0 => by simp [links]
  | rc :: l, i0 => by
    have step : (∃ k v Mb, (rc :: l)[k]? = some (.e v Mb e.M) ∧ A[i0 + k]? = some e.m ∧ e.i = i0 + k) ↔ (∃ v Mb, rc = .e v Mb e.M ∧ A[i0]? = some e.m ∧ e.i = i0) ∨ ∃ k v Mb, l[k]? = some (.e v Mb e.M) ∧ A[i0 + 1 + k]? = some e.m ∧ e.i = i0 + 1 + k := by
      constructor
      · rintro ⟨k, v, Mb, h1, h2, h3⟩
        cases k with
        | zero => exact .inl ⟨v, Mb, by simpa using h1, h2, h3⟩
        | succ k => exact .inr ⟨k, v, Mb, by simpa using h1, by rw [← h2]; congr 1; omega, by omega⟩
      · rintro (⟨v, Mb, h1, h2, h3⟩ | ⟨k, v, Mb, h1, h2, h3⟩)
        · exact ⟨0, v, Mb, by simp [h1], h2, h3⟩
        · exact ⟨k + 1, v, Mb, by simpa using h1, by rw [← h2]; congr 1; omega, by omega⟩
    rw [step, ← links_mem (l := l) (i0 := i0 + 1)]
    clear step
    have hl : links A i0 (rc :: l) = (match rc, nthN A i0 with | .e _ _ Ma, some m => ⟨i0, m, Ma⟩ :: links A (i0 + 1) l | _, _ => links A (i0 + 1) l) := rfl
    rw [hl, nthN_eq]
    split
    · rename_i v Mb Ma m hm
      rw [List.mem_cons]
      constructor
      · rintro (rfl | h)
        · exact .inl ⟨v, Mb, rfl, hm, rfl⟩
        · exact .inr h
      · rintro (⟨v', Mb', h1, h2, h3⟩ | h)
        · injection h1 with _ _ h1
          rw [hm] at h2
          injection h2 with h2
          left
          cases e
          simp_all
        · exact .inr h
    · rename_i hne
      constructor
      · exact .inr
      · rintro (⟨v', Mb', h1, h2, h3⟩ | h)
        · exact (hne _ _ _ _ h1 h2).elim
        · exact h
theorem checks_ok {P : Program} {M0 : H} {A : List Nat} {es : List Es} {fs : List Fs} : ∀ {l : List Rc} {i0 : Nat}, checks P M0 A es fs i0 l = true → ∀ k rc, l[k]? = some rc → ∃ m, A[i0 + k]? = some m ∧
    (∀ v t a, rc = .r v t a → readOk P M0 es fs (i0 + k) m v t a none = true ∧ ∀ c ∈ es, readOk P M0 es fs (i0 + k) m v t a (some c) = true) ∧ (∀ v Mb Ma, rc = .e v Mb Ma → safeE fs m Mb = true)
  | [], _, _, k, rc, h => by simp at h
  | rc0 :: l, i0, h, k, rc, hk => by
    unfold checks at h
    simp only [Bool.and_eq_true] at h
    obtain ⟨h1, h2⟩ := h
    cases k with
    | zero =>
      simp at hk
      subst hk
      split at h1
      · cases h1
      · rename_i m hm
        rw [nthN_eq] at hm
        refine ⟨m, hm, fun v t a e => ?_, fun v Mb Ma e => ?_⟩
        · subst e
          simp only [Bool.and_eq_true, List.all_eq_true] at h1
          exact h1
        · subst e
          exact h1
    | succ k =>
      obtain ⟨m, a, b, c⟩ := checks_ok h2 k rc (by simpa using hk)
      rw [show i0 + (k + 1) = i0 + 1 + k by omega]
      exact ⟨m, a, b, c⟩
end Eng
end Go.Proofs.YtjoinnjhpfakpaaGreatDoor
namespace Go.Proofs.YtjoinnjhpfakpaaGreatDoor
namespace Eng
open Go.RowKit

section
variable {P : Program} {G base : Nat} {call : CallT} {ext : ExtT} {nt : Nat} {M0 : H} {ops : Array Oper}
/-- What one operation's record says of it. -/
inductive One (P : Program) (G : Nat) (call : CallT) (ext : ExtT) (M0 : H) (ops : Array Oper) (o : Oper) (m mc : Nat) (lastE : Option Nat) (fs : List Fs) (ts : T V) (M : H) (n : Nat) : Rc → H → Nat → Prop where
  | no {M'} (w : want ops ts o = some false) : One P G call ext M0 ops o m mc lastE fs ts M n (.p (.t [])) M' n
  | p {v M1 M'} (w : want ops ts o = some true) (h : xval P G (opdU G (uses ops o) ts M0) o.op .e n = some (v, M1, n)) : One P G call ext M0 ops o m mc lastE fs ts M n (.p v) M' n
  | f {v M1 b n' M'} (w : want ops ts o = some true) (h : xval P G (opdU G (uses ops o) ts M0) o.op .e n = some (v, M1, n')) (hb : M1.get n = some b) : One P G call ext M0 ops o m mc lastE fs ts M n (.f v n b) M' n'
  | r {v t x a M'} (w : want ops ts o = some true) (ho : o.op = .load t x) (ha : opdU G (uses ops o) ts M0 x = some a) (h : xload P t a (att m mc fs M) = some v) : One P G call ext M0 ops o m mc lastE fs ts M n (.r v t a) M' n
  | e {v Ma n'} (w : want ops ts o = some true) (hl : ∀ c, lastE = some c → m.testBit c = true) (h : xop P G call ext (opdU G (uses ops o) ts M0) o.op (att m mc fs M) n = some (.ok v Ma n')) : One P G call ext M0 ops o m mc lastE fs ts M n (.e v (att m mc fs M) Ma) Ma n'
theorem one_ok {o : Oper} {m mc : Nat} {lastE : Option Nat} {fs : List Fs} {ts : T V} {M : H} {n : Nat} {rc : Rc} {M' : H} {n' : Nat} (h : one P G call ext M0 ops o m mc lastE fs ts M n = some (rc, M', n')) :
    One P G call ext M0 ops o m mc lastE fs ts M n rc M' n' := by
  unfold one at h
  split at h
  · cases h
  · rename_i w
    injection h with h
    injection h with e1 h
    injection h with e2 e3
    subst e1; subst e2; subst e3
    exact .no w
  · rename_i w
    split at h
    · split at h
      · rename_i v M1 n1 hx
        split at h
        · rename_i hn
          have hn := Nat.eq_of_beq_eq_true hn
          subst hn
          injection h with h
          injection h with e1 h
          injection h with e2 e3
          subst e1; subst e2; subst e3
          exact .p w hx
        · cases h
      · cases h
    · split at h
      · rename_i v M1 n1 hx
        split at h
        · rename_i b hb
          injection h with h
          injection h with e1 h
          injection h with e2 e3
          subst e1; subst e2; subst e3
          exact .f w hx hb
        · cases h
      · cases h
    · split at h
      · rename_i t x ho
        split at h
        · rename_i a ha
          split at h
          · rename_i v hv
            injection h with h
            injection h with e1 h
            injection h with e2 e3
            subst e1; subst e2; subst e3
            exact .r w ho ha hv
          · cases h
        · cases h
      · cases h
    · split at h
      · rename_i hl
        split at h
        · rename_i v Ma n1 hx
          injection h with h
          injection h with e1 h
          injection h with e2 e3
          subst e1; subst e2; subst e3
          refine .e w (fun c hc => ?_) hx
          subst hc
          exact hl
        · cases h
      · cases h
theorem One.n_le {o : Oper} {m mc : Nat} {lastE : Option Nat} {fs : List Fs} {ts : T V} {M : H} {n : Nat} {rc : Rc} {M' : H} {n' : Nat} (h : One P G call ext M0 ops o m mc lastE fs ts M n rc M' n') (hc : CallOk P G base call) (he : ExtOk P ext) : n ≤ n' := by
  cases h with
  | no => exact Nat.le_refl _
  | p => exact Nat.le_refl _
  | f _ h _ => exact xval_n h
  | r => exact Nat.le_refl _
  | e _ _ h => exact (xop_ok (rd := none) (base := base) (j := fun _ => none) (w := default) (a := ⟨#[], []⟩) (K := fun _ _ => True) (Q := fun _ _ _ => True) h hc he).1

/-- The turns of a region, one by one. -/
structure Turns (P : Program) (G : Nat) (call : CallT) (ext : ExtT) (nt : Nat) (M0 : H) (ops : Array Oper) (A : List Nat) (S : Nat → St) (ts0 : T V) (n0 : Nat) : Prop where
  z : S 0 = ⟨[], [], ts0, M0, n0, none, 0⟩
  t : ∀ k o, ops[k]? = some o → ∃ m rc M' n' ts', A[k]? = some m ∧ Turn P G call ext nt M0 ops (S k) k (S (k + 1)) o m rc M' n' ts'
def rcO (S : Nat → St) (k : Nat) : Rc := match (S (k + 1)).rcs with | x :: _ => x.1 | [] => .p .un
def mkO (A : List Nat) (k : Nat) : Nat := (A[k]?).getD 0
variable {A : List Nat} {S : Nat → St} {ts0 : T V} {n0 : Nat}
theorem Turns.at_ (h : Turns P G call ext nt M0 ops A S ts0 n0) (k : Nat) (hk : k < ops.size) : ∃ o M' ts', ops[k]? = some o ∧ A[k]? = some (mkO A k) ∧ (S (k + 1)).rcs = (rcO S k, (S k).n) :: (S k).rcs ∧ (S (k + 1)).ts = ts' ∧
    tput nt (S k).ts o.dst (rcO S k).v = some ts' ∧ S (k + 1) = nxt k (mkO A k) (rcO S k) (S k) ts' M' (S (k + 1)).n ∧
    One P G call ext M0 ops o (mkO A k) (S k).mc (S k).lastE (S k).fs (S k).ts (S k).M (S k).n (rcO S k) M' (S (k + 1)).n := by
  obtain ⟨m, rc, M', n', ts', h1, h2⟩ := h.t k _ (Array.getElem?_eq_getElem hk)
  have e1 : (S (k + 1)).rcs = (rc, (S k).n) :: (S k).rcs := by rw [h2.eq, nxt_rcs]
  have e2 : rcO S k = rc := by unfold rcO; rw [e1]
  have e3 : mkO A k = m := by unfold mkO; rw [h1]; rfl
  have e4 : (S (k + 1)).n = n' := by rw [h2.eq, nxt_n]
  have e5 : (S (k + 1)).ts = ts' := by rw [h2.eq, nxt_ts]
  rw [e2, e3, e4]
  exact ⟨_, M', ts', Array.getElem?_eq_getElem hk, h1, e1, e5, h2.put, h2.eq, one_ok h2.one⟩
theorem Turns.rcs (h : Turns P G call ext nt M0 ops A S ts0 n0) : ∀ k, k ≤ ops.size → (S k).rcs.length = k ∧ ∀ i, i < k → ((S k).rcs.map (·.1)).reverse[i]? = some (rcO S i)
  | 0, _ => by rw [h.z]; exact ⟨rfl, fun i hi => by omega⟩
  | k + 1, hk => by
    obtain ⟨h1, h2⟩ := h.rcs k (by omega)
    obtain ⟨o, M', ts', _, _, e, _⟩ := h.at_ k (by omega)
    rw [e]
    refine ⟨by simp [h1], fun i hi => ?_⟩
    rw [List.map_cons, List.reverse_cons]
    by_cases hi2 : i < k
    · rw [List.getElem?_append_left (by simp [h1, hi2])]
      exact h2 i hi2
    · have : i = k := by omega
      subst this
      rw [List.getElem?_append_right (by simp [h1])]
      simp [h1]
def IsE (ops : Array Oper) (S : Nat → St) (k : Nat) : Prop := k < ops.size ∧ ∃ v Mb Ma, rcO S k = .e v Mb Ma
def IsF (ops : Array Oper) (S : Nat → St) (k : Nat) : Prop := k < ops.size ∧ ∃ v l b, rcO S k = .f v l b
/-- Memory behind a link of the chain (at first: as it was). -/
def HT (S : Nat → St) (M0 : H) (c : Option Nat) : H := match c with | none => M0 | some c => match rcO S c with | .e _ _ Ma => Ma | _ => M0
def mcO (A : List Nat) (c : Option Nat) : Nat := match c with | none => 0 | some c => mkO A c
theorem Turns.fs (h : Turns P G call ext nt M0 ops A S ts0 n0) : ∀ k, k ≤ ops.size → ∀ f, f ∈ (S k).fs ↔ f.i < k ∧ ∃ v, rcO S f.i = .f v f.lab f.b
  | 0, _, f => by rw [h.z]; simp
  | k + 1, hk, f => by
    obtain ⟨o, M', ts', _, _, _, _, _, e, _⟩ := h.at_ k (by omega)
    have ih := h.fs k (by omega) f
    have same : (S (k + 1)).fs = (S k).fs → (∀ v l b, rcO S k ≠ .f v l b) → (f ∈ (S (k + 1)).fs ↔ f.i < k + 1 ∧ ∃ v, rcO S f.i = .f v f.lab f.b) := fun q q2 => by
      rw [q, ih]
      constructor
      · rintro ⟨a, b⟩; exact ⟨by omega, b⟩
      · rintro ⟨a, v, b⟩
        have : f.i ≠ k := fun q => by rw [q] at b; exact q2 _ _ _ b
        exact ⟨by omega, v, b⟩
    generalize hr : rcO S k = rc at e same
    cases rc with
    | p v => exact same (by rw [e]; rfl) (by simp)
    | r v t a => exact same (by rw [e]; rfl) (by simp)
    | e v Mb Ma => exact same (by rw [e]; rfl) (by simp)
    | f v l b =>
      rw [e]
      simp only [nxt, List.mem_cons, ih]
      constructor
      · rintro (rfl | ⟨a, b⟩)
        · exact ⟨by simp, v, hr⟩
        · exact ⟨by omega, b⟩
      · rintro ⟨a, v', b'⟩
        by_cases q : f.i = k
        · left
          rw [q, hr] at b'
          injection b' with _ b1 b2
          obtain ⟨fi, fl, fb⟩ := f
          simp only at q b1 b2
          subst q; subst b1; subst b2
          rfl
        · exact .inr ⟨by omega, v', b'⟩
theorem Turns.last (h : Turns P G call ext nt M0 ops A S ts0 n0) : ∀ k, k ≤ ops.size → (S k).mc = mcO A (S k).lastE ∧ (S k).M = HT S M0 (S k).lastE ∧ (∀ c, (S k).lastE = some c → c < k ∧ IsE ops S c) ∧ ∀ e, e < k → IsE ops S e → ∃ c, (S k).lastE = some c ∧ e ≤ c
  | 0, _ => by rw [h.z]; exact ⟨rfl, rfl, (fun c hc => by cases hc), fun e he => by omega⟩
  | k + 1, hk => by
    obtain ⟨o, M', ts', _, _, _, _, _, e, hone⟩ := h.at_ k (by omega)
    obtain ⟨i1, i2, i3, i4⟩ := h.last k (by omega)
    have same : (S (k + 1)).mc = (S k).mc → (S (k + 1)).M = (S k).M → (S (k + 1)).lastE = (S k).lastE → ¬ IsE ops S k → (S (k + 1)).mc = mcO A (S (k + 1)).lastE ∧ (S (k + 1)).M = HT S M0 (S (k + 1)).lastE ∧ (∀ c, (S (k + 1)).lastE = some c → c < k + 1 ∧ IsE ops S c) ∧ ∀ e, e < k + 1 → IsE ops S e → ∃ c, (S (k + 1)).lastE = some c ∧ e ≤ c := fun q1 q2 q3 q4 => by
      rw [q1, q2, q3]
      refine ⟨i1, i2, fun c hc => ⟨by have := (i3 c hc).1; omega, (i3 c hc).2⟩, fun e he hE => ?_⟩
      have : e ≠ k := fun q => by subst q; exact q4 hE
      exact i4 e (by omega) hE
    generalize hr : rcO S k = rc at e hone
    cases rc with
    | p v => exact same (by rw [e]; rfl) (by rw [e]; rfl) (by rw [e]; rfl) (fun ⟨_, _, _, _, q⟩ => by rw [hr] at q; cases q)
    | r v t a => exact same (by rw [e]; rfl) (by rw [e]; rfl) (by rw [e]; rfl) (fun ⟨_, _, _, _, q⟩ => by rw [hr] at q; cases q)
    | f v l b => exact same (by rw [e]; rfl) (by rw [e]; rfl) (by rw [e]; rfl) (fun ⟨_, _, _, _, q⟩ => by rw [hr] at q; cases q)
    | e v Mb Ma =>
      have hE : IsE ops S k := ⟨by omega, v, Mb, Ma, hr⟩
      have hM : M' = Ma := by cases hone; rfl
      have e1 : (S (k + 1)).lastE = some k := by rw [e]; rfl
      refine ⟨?_, ?_, fun c hc => ?_, fun q hq _ => ⟨k, e1, by omega⟩⟩
      · rw [e1, e]; rfl
      · rw [e1, e]
        show M' = (match rcO S k with | .e _ _ Ma => Ma | _ => M0)
        rw [hr, hM]
      · rw [e1] at hc
        injection hc with hc
        subst hc
        exact ⟨by omega, hE⟩
theorem Turns.ts (h : Turns P G call ext nt M0 ops A S ts0 n0) : ∀ k, k ≤ ops.size → ∀ t v, (S k).ts.get t = some v → (∃ i, i < k ∧ dstOf ops i = some t ∧ (rcO S i).v = v) ∨ (ts0.get t = some v ∧ ∀ i, i < k → dstOf ops i ≠ some t)
  | 0, _, t, v, hv => by rw [h.z] at hv; exact .inr ⟨hv, fun i hi => by omega⟩
  | k + 1, hk, t, v, hv => by
    obtain ⟨o, M', ts', ho, _, _, e, hp, _⟩ := h.at_ k (by omega)
    rw [e] at hv
    have hd : dstOf ops k = o.dst := by unfold dstOf; rw [ho]; rfl
    have old : (S k).ts.get t = some v → o.dst ≠ some t → (∃ i, i < k + 1 ∧ dstOf ops i = some t ∧ (rcO S i).v = v) ∨ (ts0.get t = some v ∧ ∀ i, i < k + 1 → dstOf ops i ≠ some t) := fun q q2 => by
      rcases h.ts k (by omega) t v q with ⟨i, a, b, c⟩ | ⟨a, b⟩
      · exact .inl ⟨i, by omega, b, c⟩
      · refine .inr ⟨a, fun i hi => ?_⟩
        by_cases hik : i = k
        · subst hik; rw [hd]; exact q2
        · exact b i (by omega)
    unfold tput at hp
    split at hp
    · rename_i hdn
      injection hp with hp
      subst hp
      exact old hv (by rw [hdn]; simp)
    · rename_i d hds
      split at hp
      · rw [fV_eq] at hp
        injection hp with hp
        subst hp
        rcases T.set_get hv with ⟨rfl, q⟩ | ⟨hne, q⟩
        · injection q with q
          exact .inl ⟨k, by omega, by rw [hd, hds], q⟩
        · exact old q (by rw [hds]; simpa using Ne.symm hne)
      · cases hp
end
end Eng
end Go.Proofs.YtjoinnjhpfakpaaGreatDoor
namespace Go.Proofs.YtjoinnjhpfakpaaGreatDoor
namespace Eng
open Go.RowKit

section
variable {P : Program} {G base : Nat} {call : CallT} {ext : ExtT} {nt : Nat} {M0 : H} {ops : Array Oper} {A : List Nat} {S : Nat → St} {ts0 : T V} {n0 : Nat}
def one1 (l : Nat) (b : B) : Mem := fun id => if id = l then some b else none
noncomputable def mkD (nt : Nat) (M0 : H) (ops : Array Oper) (A : List Nat) (S : Nat → St) (ts0 : T V) : Data where
  anc := ancA A
  val k := (rcO S k).v
  nn k := (S (min k ops.size)).n
  isE := IsE ops S
  isF := IsF ops S
  lab k := match rcO S k with | .f _ l _ => l | _ => 0
  blk k := match rcO S k with | .f _ _ b => b | _ => .m [] 0
  A k c := match rcO S k with
    | .r _ _ _ => T.get (att (mkO A k) (mcO A c) (S ops.size).fs (HT S M0 c))
    | .e _ Mb _ => Mb.get
    | _ => (T.e : H).get
  A' k c := match rcO S k with
    | .r _ _ _ => T.get (att (mkO A k) (mcO A c) (S ops.size).fs (HT S M0 c))
    | .e _ _ Ma => Ma.get
    | .f _ l b => one1 l b
    | _ => (T.e : H).get
  Ma k := (HT S M0 (some k)).get
  M0 := M0.get
  ts0 := ts0.get
  rd k t := match ops[k]? with | some o => if t ∈ uses ops o then (S k).ts.get t else none | none => none
  nt := nt
theorem mkD_H (c : Option Nat) : (mkD nt M0 ops A S ts0).H c = (HT S M0 c).get := by cases c <;> rfl
theorem opdU_ok {us : List Nat} {ts : T V} {j : J} {a : Act} {x : Operand} {v : V} (h : opdU G us ts M0 x = some v) (hg : ∀ g b, g < G → M0.get g = some b → ∃ l, j g = some l ∧ l.g = g ∧ l.d = 0)
    (ht : ∀ t v, t ∈ us → ts.get t = some v → ∃ y, a.tmps[t]? = some y ∧ VR j v y) : VR j v (a.eval x) := by
  unfold opdU at h
  split at h
  · rename_i t
    split at h
    · rename_i hm
      obtain ⟨y, h1, h2⟩ := ht t v ((memN_iff t us).1 hm) h
      simp only [Act.eval]
      rw [Array.getD_eq_getD_getElem?, h1]
      exact h2
    · cases h
  · rename_i hx
    unfold opd at h
    split at h
    · exact (hx _ rfl).elim
    · exact ofC_rel j _ _ h
    · rename_i g
      split at h
      · rename_i cs e fz hgl hb
        injection h with h
        subst h
        rw [Nat.blt_eq] at hgl
        obtain ⟨l, h1, h3, h4⟩ := hg g _ hgl hb
        simp only [VR]
        exact ⟨l, h1, by simp [Act.eval, h3, h4]⟩
      · cases h
    · injection h with h
      subst h
      simp only [VR]
      exact ⟨[], .nil j, rfl⟩
theorem guard_use {o : Oper} {g : Nat} {q : Bool} {og : Oper} {d : Tmp} (hg : o.guard = some (g, q)) (ho : ops[g]? = some og) (hd : og.dst = some d) : d ∈ uses ops o := by
  unfold uses
  rw [hg]
  simp [ho, hd]
theorem empty_rel (j : J) (w : World) : Rel G base j (T.get (T.e : H)) w :=
  ⟨(fun id b h => by cases h), (fun id b l _ h => by cases h), (fun id b l _ h => by cases h), (fun _ _ _ _ _ _ h => by cases h)⟩
theorem Post.less {n n' : Nat} {j j' : J} {M M1 M2 : Mem} {w w' : World} (h : Post G base n n' j M w j' M1 w') (hs : ∀ id b, M2 id = some b → M1 id = some b) : Post G base n n' j M w j' M2 w' :=
  ⟨h.le, h.out, ⟨fun id b q => h.rel.ok id b (hs _ _ q), fun id b l a q => h.rel.glob id b l a (hs _ _ q), fun id b l a q => h.rel.own id b l a (hs _ _ q), fun _ _ _ _ _ _ q r => h.rel.inj _ _ _ _ _ _ (hs _ _ q) (hs _ _ r)⟩, h.frm, fun id b l q => h.img id b l (hs _ _ q)⟩
theorem reg_ok (hT : Turns P G call ext nt M0 ops A S ts0 n0) (hm : masks ops.toList [] = some A) (hnd : noDup nt (dsts ops.toList) = true) (hw : allWr ops A 0 ops.toList = true) (hc : CallOk P G base call) (he : ExtOk P ext) (hG : G ≤ n0)
    (hck : checks P M0 A (links A 0 ((S ops.size).rcs.map (·.1)).reverse) (S ops.size).fs 0 ((S ops.size).rcs.map (·.1)).reverse = true) (Q : Exit → Act → World → Prop) : RegOk P G base ops Q (mkD nt M0 ops A S ts0) := by
  obtain ⟨hlen, hmo⟩ := mok hm
  obtain ⟨hnd1, hnd2⟩ := noDup_ok hnd
  obtain ⟨hr1, hr2⟩ := hT.rcs ops.size (Nat.le_refl _)
  have hA : ∀ k, k < ops.size → A[k]? = some (mkO A k) := fun k hk => (hT.at_ k hk).choose_spec.choose_spec.choose_spec.2.1
  have anc_bit : ∀ i k, i < ops.size → (ancA A i k ↔ (mkO A i).testBit k = true) := fun i k hi => by
    constructor
    · rintro ⟨m, h1, h2⟩
      rw [hA i hi] at h1; injection h1 with h1; subst h1; exact h2
    · intro h; exact ⟨_, hA i hi, h⟩
  have chain : ∀ n i k, k < n → k < ops.size → IsE ops S i → IsE ops S k → i < k → ancA A k i := by
    intro n
    induction n with
    | zero => intro i k hk; omega
    | succ n ih =>
      intro i k hkn hk hi hkE hlt
      obtain ⟨o, M', ts', ho, _, _, _, _, _, hone⟩ := hT.at_ k hk
      obtain ⟨c, hcl, hic⟩ := (hT.last k (by omega)).2.2.2 i hlt hi
      have hcE := (hT.last k (by omega)).2.2.1 c hcl
      have hb : ancA A k c := by
        obtain ⟨_, v, Mb, Ma, hr⟩ := hkE
        rw [hr] at hone
        cases hone with
        | e _ hl _ => exact (anc_bit k c hk).2 (hl c hcl)
      by_cases e : i = c
      · subst e; exact hb
      · exact hmo.trans (k + 1) k c i (by omega) hk hb (ih i c (by omega) (by omega) hi hcE.2 (by omega))
  have lastEq : ∀ i c, i < ops.size → (mkD nt M0 ops A S ts0).Adm ops.size i c → IsE ops S i → c = (S i).lastE := fun i c hi ha hE => by
    obtain ⟨_, _, l3, l4⟩ := hT.last i (by omega)
    have below : ∀ q, c = some q → q < i ∧ IsE ops S q := fun q hq => by
      obtain ⟨q1, q2, q3, q4⟩ := ha.lst q hq
      refine ⟨?_, q2⟩
      rcases Nat.lt_trichotomy q i with h | h | h
      · exact h
      · exact absurd h q4
      · exact absurd (chain (q + 1) i q (by omega) q1 hE q2 h) q3
    cases hl : (S i).lastE with
    | none =>
      cases c with
      | none => rfl
      | some q =>
        obtain ⟨a, b⟩ := below q rfl
        obtain ⟨c', hc', _⟩ := l4 q a b
        rw [hl] at hc'; cases hc'
    | some c0 =>
      obtain ⟨a, b⟩ := l3 c0 hl
      obtain ⟨q, rfl, hq⟩ := ha.self hE c0 b.1 b a
      obtain ⟨q1, q2⟩ := below q rfl
      obtain ⟨c', hc', hle⟩ := l4 q q1 q2
      rw [hl] at hc'
      injection hc' with hc'
      subst hc'
      rcases hq with rfl | hq
      · rfl
      · have := hmo.anc_lt (q + 1) q c0 (by omega) q2.1 hq
        omega
  have fsN : ∀ f, f ∈ (S ops.size).fs ↔ f.i < ops.size ∧ ∃ v, rcO S f.i = .f v f.lab f.b := hT.fs ops.size (Nat.le_refl _)
  have nnlt : ∀ i, i < ops.size → (mkD nt M0 ops A S ts0).nn i = (S i).n ∧ (mkD nt M0 ops A S ts0).nn (i + 1) = (S (i + 1)).n := fun i hi => by
    constructor
    · show (S (min i ops.size)).n = _; rw [Nat.min_eq_left (by omega)]
    · show (S (min (i + 1) ops.size)).n = _; rw [Nat.min_eq_left (by omega)]
  have nstep : ∀ i, i < ops.size → (S i).n ≤ (S (i + 1)).n := fun i hi => by
    obtain ⟨o, M', ts', _, _, _, _, _, _, hone⟩ := hT.at_ i hi
    exact hone.n_le hc he
  have nG : ∀ i, i ≤ ops.size → G ≤ (S i).n := fun i => by
    induction i with
    | zero => intro _; rw [hT.z]; exact hG
    | succ i ih => intro hi; exact Nat.le_trans (ih (by omega)) (nstep i (by omega))
  have mc_bit : ∀ c f, (∀ q, c = some q → q < ops.size) → ((mcO A c).testBit f = false ↔ ∀ q, c = some q → ¬ ancA A q f) := fun c f hq => by
    cases c with
    | none => simp [mcO]
    | some q =>
      have := anc_bit q f (hq q rfl)
      constructor
      · intro h q' e; injection e with e; subst e; rw [this]; show ¬ (mkO A q).testBit f = true; have h : (mkO A q).testBit f = false := h; rw [h]; simp
      · intro h
        have h := h q rfl
        rw [this] at h
        exact Bool.eq_false_iff.2 h
  refine ⟨fun i o ho e he' hb => hmo.edge i o ho e he' hb, fun i k hi ha => hmo.anc_edge i k hi ha, fun a b c ha h1 h2 => hmo.trans (a + 1) a b c (by omega) ha h1 h2, fun i k hk h1 h2 hlt => chain (k + 1) i k (by omega) hk h1 h2 hlt, fun i => ?_, fun i k d h1 h2 => hnd2 i k d ((dsts_at ops i d).2 h1) ((dsts_at ops k d).2 h2), fun i d h1 => hnd1 i d ((dsts_at ops i d).2 h1),
    fun i hE hF => ?_, fun i c hi ha id b hq => ?_, fun i c hi ha hE id b hq => ?_, fun i c hi ha hF => ?_, fun i c hi ha hE id b hq => ?_, fun i c f hi ha hE hf hF hna => ?_, fun i t v hi hv => ?_, fun i c hi ha j w a hrel hb hfr hop rd K hK => ?_⟩
  · -- mono
    by_cases hi : i < ops.size
    · rw [(nnlt i hi).1, (nnlt i hi).2]; exact nstep i hi
    · show (S (min i ops.size)).n ≤ (S (min (i + 1) ops.size)).n
      rw [Nat.min_eq_right (by omega), Nat.min_eq_right (by omega)]
      exact Nat.le_refl _
  · -- ef
    obtain ⟨_, v, Mb, Ma, h1⟩ := hE
    obtain ⟨_, v', l, b, h2⟩ := hF
    rw [h1] at h2; cases h2
  · -- sub
    rw [mkD_H]
    have attC : ∀ c fs M, (∀ f ∈ fs, f ∈ (S ops.size).fs) → (∀ q, c = some q → q < ops.size) → (att (mkO A i) (mcO A c) fs M).get id = some b → M.get id = some b ∨ ∃ f, f < ops.size ∧ IsF ops S f ∧ ancA A i f ∧ (∀ q, c = some q → ¬ ancA A q f) ∧ (mkD nt M0 ops A S ts0).lab f = id ∧ (mkD nt M0 ops A S ts0).blk f = b := fun c fs M hfs hq h => by
      rcases att_get h with h | ⟨f, f1, f2, f3, f4, f5⟩
      · exact .inl h
      · obtain ⟨g1, v, g2⟩ := (fsN f).1 (hfs f f1)
        refine .inr ⟨f.i, g1, ⟨g1, v, _, _, g2⟩, (anc_bit i f.i hi).2 f2, (mc_bit c f.i hq).1 f3, ?_, ?_⟩
        · show (match rcO S f.i with | .f _ l _ => l | _ => 0) = id
          rw [g2]; exact f4
        · show (match rcO S f.i with | .f _ _ b => b | _ => .m [] 0) = b
          rw [g2]; exact f5
    obtain ⟨o, M', ts', ho, _, _, _, _, _, hone⟩ := hT.at_ i hi
    have hq : (match rcO S i with
      | .r _ _ _ => T.get (att (mkO A i) (mcO A c) (S ops.size).fs (HT S M0 c))
      | .e _ Mb _ => Mb.get
      | _ => (T.e : H).get) id = some b := hq
    generalize hr : rcO S i = rc at hq hone
    cases rc with
    | p v => cases hq
    | f v l b => cases hq
    | r v t a => exact attC c _ _ (fun _ h => h) (fun q hq => (ha.lst q hq).1) hq
    | e v Mb Ma =>
      have hE : IsE ops S i := ⟨hi, v, Mb, Ma, hr⟩
      have hcl := lastEq i c hi ha hE
      obtain ⟨l1, l2, l3, _⟩ := hT.last i (by omega)
      cases hone with
      | e _ _ _ =>
        have hq : (att (mkO A i) (S i).mc (S i).fs (S i).M).get id = some b := hq
        rw [l1, l2, ← hcl] at hq
        refine attC c _ _ (fun f hf => ?_) (fun q hq => (ha.lst q hq).1) hq
        obtain ⟨g1, g2⟩ := (hT.fs i (by omega) f).1 hf
        exact (fsN f).2 ⟨by omega, g2⟩
  · -- keep
    have hE : ∀ v Mb Ma, rcO S i ≠ .e v Mb Ma := fun v Mb Ma q => hE ⟨hi, v, Mb, Ma, q⟩
    have hq : (match rcO S i with
      | .r _ _ _ => T.get (att (mkO A i) (mcO A c) (S ops.size).fs (HT S M0 c))
      | .e _ Mb _ => Mb.get
      | _ => (T.e : H).get) id = some b := hq
    show (match rcO S i with
      | .r _ _ _ => T.get (att (mkO A i) (mcO A c) (S ops.size).fs (HT S M0 c))
      | .e _ _ Ma => Ma.get
      | .f _ l b => one1 l b
      | _ => (T.e : H).get) id = some b
    generalize rcO S i = rc at hq hE
    cases rc with
    | p v => cases hq
    | f v l b => cases hq
    | r v t a => exact hq
    | e v Mb Ma => exact (hE _ _ _ rfl).elim
  · -- mkF
    obtain ⟨_, v, l, b, hr⟩ := hF
    show (match rcO S i with
      | .r _ _ _ => T.get (att (mkO A i) (mcO A c) (S ops.size).fs (HT S M0 c))
      | .e _ _ Ma => Ma.get
      | .f _ l b => one1 l b
      | _ => (T.e : H).get) (match rcO S i with | .f _ l _ => l | _ => 0) = some (match rcO S i with | .f _ _ b => b | _ => .m [] 0)
    rw [hr]
    simp [one1]
  · -- mkE
    obtain ⟨_, v, Mb, Ma, hr⟩ := hE
    have hq : (match rcO S i with | .e _ _ Ma => Ma | _ => M0 : H).get id = some b := hq
    show (match rcO S i with
      | .r _ _ _ => T.get (att (mkO A i) (mcO A c) (S ops.size).fs (HT S M0 c))
      | .e _ _ Ma => Ma.get
      | .f _ l b => one1 l b
      | _ => (T.e : H).get) id = some b
    rw [hr] at hq ⊢
    exact hq
  · -- safe
    obtain ⟨_, v, Mb, Ma, hr⟩ := hE
    obtain ⟨_, v', l, b, hrf⟩ := hF
    show (match rcO S i with
      | .r _ _ _ => T.get (att (mkO A i) (mcO A c) (S ops.size).fs (HT S M0 c))
      | .e _ Mb _ => Mb.get
      | _ => (T.e : H).get) (match rcO S f with | .f _ l _ => l | _ => 0) = none
    rw [hr, hrf]
    obtain ⟨m, k1, k2, k3⟩ := checks_ok hck i _ (hr2 i hi)
    rw [Nat.zero_add] at k1
    rw [hA i hi] at k1
    injection k1 with k1
    subst k1
    have := k3 v Mb Ma hr
    unfold safeE at this
    rw [List.all_eq_true] at this
    have := this ⟨f, l, b⟩ ((fsN _).2 ⟨hf, v', hrf⟩)
    simp only [Bool.or_eq_true] at this
    rcases this with h | h
    · exact absurd ((anc_bit i f hi).2 h) hna
    · show Mb.get l = none
      split at h
      · assumption
      · cases h
  · -- rdOk
    have hv : (match ops[i]? with | some o => if t ∈ uses ops o then (S i).ts.get t else none | none => none) = some v := hv
    obtain ⟨o, M', ts', ho, _⟩ := hT.at_ i hi
    rw [ho] at hv
    simp only at hv
    split at hv
    · rename_i hu
      obtain ⟨m, w1, w2⟩ := allWr_ok hw i o (by rw [Array.getElem?_toList]; exact ho)
      rw [Nat.zero_add] at w1 w2
      rw [hA i hi] at w1
      injection w1 with w1
      subst w1
      have wr : ∀ k, dstOf ops k = some t → k = i ∨ (k < i ∧ ancA A i k) ∨ (i < k ∧ ancA A k i) := fun k hk => by
        have := wrOk_ok w2 k t ((dsts_at ops k t).2 hk) hu
        rw [Nat.zero_add] at this
        rcases this with h | ⟨h1, h2⟩ | h
        · exact .inl h
        · exact .inr (.inl ⟨h1, (anc_bit i k hi).2 h2⟩)
        · exact .inr (.inr h)
      rcases hT.ts i (by omega) t v hv with ⟨k, k1, k2, k3⟩ | ⟨k1, k2⟩
      · rcases wr k k2 with h | h | h
        · omega
        · exact .inl ⟨k, by omega, h.2, k2, k3⟩
        · omega
      · refine .inr ⟨k1, fun k hk hd hne => ?_⟩
        rcases wr k hd with h | h | h
        · exact absurd h hne
        · exact absurd hd (k2 k h.1)
        · exact h.2
    · cases hv
  · -- stp
    obtain ⟨o, M', ts', ho, hAi, _, _, _, _, hone⟩ := hT.at_ i hi
    have hd : dstOf ops i = o.dst := by unfold dstOf; rw [ho]; rfl
    have hrd : ∀ t v, t ∈ uses ops o → (S i).ts.get t = some v → ∃ y, a.tmps[t]? = some y ∧ VR j v y := fun t v h1 h2 => hop.rd t v (by
      show (match ops[i]? with | some o => if t ∈ uses ops o then (S i).ts.get t else none | none => none) = some v
      rw [ho]
      simp only [h1, if_true]
      exact h2)
    have hρ : ∀ x v, opdU G (uses ops o) (S i).ts M0 x = some v → VR j v (a.eval x) := fun x v h => opdU_ok h hop.glob hrd
    have hwt : ∀ b, want ops (S i).ts o = some b → Region.wanted o (yielded ops a.tmps) = b := fun b h => want_ok h fun g q og d h1 h2 h3 v hv => hrd d v (guard_use h1 h2 h3) hv
    have hg := nG i (by omega)
    rw [(nnlt i hi).1, (nnlt i hi).2] at hfr
    have hK : ∀ y w' j', Post G base (S i).n (S (i + 1)).n j ((mkD nt M0 ops A S ts0).A i c) w j' ((mkD nt M0 ops A S ts0).A' i c) w' → VR j' (rcO S i).v y → K (a.put o.dst y) w' := fun y w' j' h1 h2 => by
      have := hK y w' j' (by rw [(nnlt i hi).1, (nnlt i hi).2]; exact h1) h2
      rwa [hd] at this
    have hrel : Rel G base j (match rcO S i with
      | .r _ _ _ => T.get (att (mkO A i) (mcO A c) (S ops.size).fs (HT S M0 c))
      | .e _ Mb _ => Mb.get
      | _ => (T.e : H).get) w := hrel
    have hK : ∀ y w' j', Post G base (S i).n (S (i + 1)).n j (match rcO S i with
      | .r _ _ _ => T.get (att (mkO A i) (mcO A c) (S ops.size).fs (HT S M0 c))
      | .e _ Mb _ => Mb.get
      | _ => (T.e : H).get) w j' (match rcO S i with
      | .r _ _ _ => T.get (att (mkO A i) (mcO A c) (S ops.size).fs (HT S M0 c))
      | .e _ _ Ma => Ma.get
      | .f _ l b => one1 l b
      | _ => (T.e : H).get) w' → VR j' (rcO S i).v y → K (a.put o.dst y) w' := hK
    unfold wpOpIn
    rw [ho]
    simp only
    have hck' := checks_ok hck i _ (hr2 i hi)
    generalize hr : rcO S i = rc at hrel hK hone hck'
    generalize hn1 : (S (i + 1)).n = n1 at hfr hK hone
    generalize hn : (S i).n = n at hfr hK hone hg
    have og : ∀ {s : Sem Next} {v : V} {M1 : H} {n' : Nat} {X : H}, (∀ c, o.op ≠ .defer c) → s = execOp a.eval o → OpGood P G base n j X w s v M1 n' → ∃ y w' j', (∀ K' Q', K' (a.put o.dst y) w' → o.wpIn (WR rd) 0 P a w K' Q') ∧ VR j' v y ∧ Post G base n n' j X w j' M1 w' := fun hnd hs ⟨y, w', j', h1, h2, h3, _⟩ => by
      subst hs
      refine ⟨y, w', j', fun K' Q' hk => up_in ?_ hnd, h2, h3⟩
      unfold Oper.wp
      rcases h1 with h1 | ⟨h1, rfl⟩ <;> rw [h1] <;> exact hk
    cases hone with
    | no w0 =>
      rw [if_neg (by rw [hwt _ w0]; simp)]
      exact ⟨fun _ _ => trivial, hK undef w j (Post.refl (empty_rel j w) _) (by simp only [Rc.v, VR, VRs]; exact ⟨[], rfl, rfl⟩)⟩
    | p w0 h1 =>
      rw [if_pos (hwt _ w0)]
      obtain ⟨y, w', j', q1, q2, q3⟩ := og (fun c' hc' => by rw [hc', xval_eq] at h1; cases h1) rfl (xval_ok (e := a.eval) h1 ⟨empty_rel j w, hg, hb⟩ hfr hρ)
      exact (q1 _ _ (hK y w' j' (q3.less fun id b h => by cases h) q2))
    | f w0 h1 hb1 =>
      rw [if_pos (hwt _ w0)]
      obtain ⟨y, w', j', q1, q2, q3⟩ := og (fun c' hc' => by rw [hc', xval_eq] at h1; cases h1) rfl (xval_ok (e := a.eval) h1 ⟨empty_rel j w, hg, hb⟩ hfr hρ)
      refine (q1 _ _ (hK y w' j' (q3.less fun id b h => ?_) q2))
      simp only [one1] at h
      split at h
      · rename_i e; injection h with h; rw [e, hb1, h]
      · cases h
    | r w0 ho1 ha1 h1 =>
      rename_i v t x av
      rw [if_pos (hwt _ w0)]
      obtain ⟨m, k1, k2, _⟩ := hck'
      rw [Nat.zero_add] at k1 k2
      rw [hA i hi] at k1
      injection k1 with k1
      subst k1
      obtain ⟨k3, k4⟩ := k2 v t av rfl
      have hes : ∀ e, e ∈ links A 0 ((S ops.size).rcs.map (·.1)).reverse ↔ IsE ops S e.i ∧ e.m = mkO A e.i ∧ e.M = HT S M0 (some e.i) := fun e => by
        rw [links_mem]
        constructor
        · rintro ⟨k, v', Mb, p1, p2, p3⟩
          rw [Nat.zero_add] at p2 p3
          have hk : k < ops.size := by
            have := (List.getElem?_eq_some_iff.1 p1).1
            simp [hr1] at this
            exact this
          rw [hr2 k hk] at p1
          injection p1 with p1
          rw [p3]
          rw [hA k hk] at p2
          injection p2 with p2
          refine ⟨⟨hk, v', Mb, _, p1⟩, p2.symm, ?_⟩
          show e.M = (match rcO S k with | .e _ _ Ma => Ma | _ => M0)
          rw [p1]
        · rintro ⟨⟨hk, v', Mb, Ma, p1⟩, p2, p3⟩
          refine ⟨e.i, v', Mb, ?_, ?_, by omega⟩
          · rw [hr2 e.i hk, p1, p3]
            show _ = some (Rc.e v' Mb (match rcO S e.i with | .e _ _ Ma => Ma | _ => M0))
            rw [p1]
          · rw [Nat.zero_add, hA e.i hk, p2]
      have hx : ∃ u, xload P t av (att (mkO A i) (mcO A c) (S ops.size).fs (HT S M0 c)) = some u ∧ u = v := by
        cases c with
        | none =>
          have hadm : admR (links A 0 ((S ops.size).rcs.map (·.1)).reverse) i (mkO A i) none = true := by
            show (links A 0 ((S ops.size).rcs.map (·.1)).reverse).all (fun e => !bit (mkO A i) e.i) = true
            rw [List.all_eq_true]
            intro e he'
            obtain ⟨e1, e2, e3⟩ := (hes e).1 he'
            cases hbt : bit (mkO A i) e.i with
            | false => rfl
            | true =>
              obtain ⟨q, hq, _⟩ := ha.anc e.i e1.1 e1 ((anc_bit i e.i hi).2 hbt)
              cases hq
          unfold readOk at k3
          rw [hadm] at k3
          simp only at k3
          split at k3
          · rename_i u hu; exact ⟨u, hu, eqV_eq _ _ k3⟩
          · cases k3
        | some q =>
          obtain ⟨q1, q2, q3, q4⟩ := ha.lst q rfl
          have hmem : (⟨q, mkO A q, HT S M0 (some q)⟩ : Es) ∈ links A 0 ((S ops.size).rcs.map (·.1)).reverse := (hes _).2 ⟨q2, rfl, rfl⟩
          have k5 := k4 _ hmem
          have hadm : admR (links A 0 ((S ops.size).rcs.map (·.1)).reverse) i (mkO A i) (some ⟨q, mkO A q, HT S M0 (some q)⟩) = true := by
           unfold admR
           simp only [Bool.and_eq_true, Bool.not_eq_true', List.all_eq_true]
           refine ⟨⟨?_, ?_⟩, fun e he' => ?_⟩
           · have : ¬ (mkO A q).testBit i = true := fun h => q3 ((anc_bit q i q1).2 h)
             simpa [bit] using this
           · cases hb2 : Nat.beq q i with
             | false => rfl
             | true => exact absurd (Nat.eq_of_beq_eq_true hb2) q4
           · obtain ⟨e1, e2, e3⟩ := (hes e).1 he'
             cases hbt : bit (mkO A i) e.i with
             | false => rfl
             | true =>
               obtain ⟨q', hq, hor⟩ := ha.anc e.i e1.1 e1 ((anc_bit i e.i hi).2 hbt)
               injection hq with hq
               subst hq
               rcases hor with hor | hor
               · simp [hor, Nat.beq_refl]
               · have := (anc_bit q e.i q1).1 hor
                 simp [bit, this]
          unfold readOk at k5
          rw [hadm] at k5
          simp only at k5
          split at k5
          · rename_i u hu; exact ⟨u, hu, eqV_eq _ _ k5⟩
          · cases k5
      obtain ⟨u, hu, rfl⟩ := hx
      obtain ⟨y, q1, q2⟩ := xload_ok (P := P) hu ⟨hrel, hg, hb⟩ (hρ x av ha1)
      have hrun : (execOp a.eval o).run P w = .ok (.value y) w := by
        obtain ⟨dst, op, ty, pos, after, guard⟩ := o
        simp only at ho1
        subst ho1
        simp [execOp, q1]
      refine up_in ?_ (fun c' hc' => by rw [ho1] at hc'; cases hc')
      unfold Oper.wp
      rw [hrun]
      exact hK y w j (Post.refl hrel _) q2
    | e w0 hl0 h1 =>
      rw [if_pos (hwt _ w0)]
      refine ((xop_ok (rd := rd) (j := j) (w := w) (a := a) (K := K) (Q := Q) h1 hc he).2 ⟨hrel, hg, hb⟩ hfr hρ (fun v hv y w' j' hp hvr => ?_) fun v hv => by cases hv)
      injection hv with hv
      subst hv
      exact hK y w' j' hp hvr
end
end Eng
end Go.Proofs.YtjoinnjhpfakpaaGreatDoor
namespace Go.Proofs.YtjoinnjhpfakpaaGreatDoor
namespace Eng
open Go.RowKit

section
variable {P : Program} {G base : Nat} {ext : ExtT}
theorem getD_replicate (N i : Nat) (hi : i < N) : (Array.replicate N false).getD i true = false := by
  simp [Array.getD_eq_getD_getElem?, hi]
theorem any_ok (hmx : P.follows .mixedOrders = true) (he : ExtOk P ext) : AnyOk P G base ext := by
  intro call hc nt ops ts M n ex ts' M' n' h
  unfold anyR at h
  split at h
  · cases h
  · rename_i A hst
    unfold static at hst
    split at hst
    case h_2 => cases hst
    rename_i A' hm
    split at hst
    case h_2 => cases hst
    rename_i hnd hw
    injection hst with hst
    subst hst
    split at h
    · cases h
    · rename_i s hgo
      split at h
      case h_2 => cases h
      rename_i hck
      injection h with h
      injection h with e1 h
      injection h with e2 h
      injection h with e3 e4
      subst e1; subst e2; subst e3; subst e4
      obtain ⟨S, k1, k2, k3⟩ := goA_ok P G call ext nt M ops _ _ _ _ _ hgo
      have hT : Turns P G call ext nt M ops A' S ts n := ⟨k1, fun k o ho => by
        have := k3 k o (by rw [Array.getElem?_toList]; exact ho)
        rw [Nat.zero_add] at this
        exact this⟩
      rw [Array.length_toList] at k2
      rw [← k2] at hck ⊢
      have hmono : ∀ k, k ≤ ops.size → n ≤ (S k).n := fun k => by
        induction k with
        | zero => intro _; rw [hT.z]; exact Nat.le_refl _
        | succ k ih =>
          intro hk
          obtain ⟨o, M', ts', _, _, _, _, _, _, hone⟩ := hT.at_ k (by omega)
          exact Nat.le_trans (ih (by omega)) (hone.n_le hc he)
      refine ⟨hmono _ (Nat.le_refl _), fun rd j w a d0 c hf hTR Q hQ id => wpIn_region_any hmx ?_⟩
      have hR := reg_ok (base := base) hT hm hnd hw hc he c.g hck Q
      obtain ⟨hlen, hmo⟩ := mok hm
      have n0 : (mkD nt M ops A' S ts).nn 0 = n := by show (S (min 0 ops.size)).n = n; rw [Nat.zero_min, hT.z]
      have nN : (mkD nt M ops A' S ts).nn ops.size = (S ops.size).n := by show (S (min ops.size ops.size)).n = _; rw [Nat.min_self]
      have hA : ∀ k, k < ops.size → A'[k]? = some (mkO A' k) := fun k hk => (hT.at_ k hk).choose_spec.choose_spec.choose_spec.2.1
      refine region_any (d0 := d0) hR (fun g b hg hb => ?_) (w0 := w.drew) (j0 := j) c.base (fun l c' j' Bg a' w' hI hall => ?_) ops.size _ none j M.get a w.drew ?_ ?_
      · obtain ⟨l, h1, h2⟩ := c.rel.ok g b hb
        exact ⟨l, h1, c.rel.glob g b l hg hb h1⟩
      · obtain ⟨l1, l2, l3, l4⟩ := hT.last ops.size (Nat.le_refl _)
        have hc' : c' = (S ops.size).lastE := by
          cases hl : (S ops.size).lastE with
          | none =>
            cases c' with
            | none => rfl
            | some q =>
              obtain ⟨q1, q2, _⟩ := hI.last q rfl
              obtain ⟨x, hx, _⟩ := l4 q q1 q2
              rw [hl] at hx; cases hx
          | some x =>
            obtain ⟨x1, x2⟩ := l3 x hl
            obtain ⟨q, rfl, hq⟩ := hI.most x x1 x2 (hall x x1)
            obtain ⟨q1, q2, _⟩ := hI.last q rfl
            obtain ⟨y, hy, hle⟩ := l4 q q1 q2
            rw [hl] at hy
            injection hy with hy
            subst hy
            rcases hq with rfl | hq
            · rfl
            · have := hmo.anc_lt (q + 1) q x (by omega) q1 hq
              omega
        have hsub : ∀ id b, (att (2 ^ ops.size - 1) (S ops.size).mc (S ops.size).fs (S ops.size).M).get id = some b → Bg id = some b := fun id b hb => by
          rcases att_get hb with hb | ⟨f, f1, f2, f3, f4, f5⟩
          · refine hI.need id b ?_
            rw [mkD_H, hc', ← l2]
            exact hb
          · obtain ⟨g1, v, g2⟩ := (hT.fs ops.size (Nat.le_refl _) f).1 f1
            have := hI.needF f.i g1 ⟨g1, v, _, _, g2⟩ (hall _ g1) fun q hq ha => by
              rw [hc'] at hq
              rw [l1, hq] at f3
              obtain ⟨m, m1, m2⟩ := ha
              have hqN := (l3 q hq).2.1
              rw [hA q hqN] at m1
              injection m1 with m1
              have f3 : (mkO A' q).testBit f.i = false := f3
              rw [m1, m2] at f3
              cases f3
            have e1 : (mkD nt M ops A' S ts).lab f.i = id := by
              show (match rcO S f.i with | .f _ l _ => l | _ => 0) = id
              rw [g2]; exact f4
            have e2 : (mkD nt M ops A' S ts).blk f.i = b := by
              show (match rcO S f.i with | .f _ _ b => b | _ => .m [] 0) = b
              rw [g2]; exact f5
            rw [e1, e2] at this
            exact this
        refine hQ _ _ _ ⟨j', Post.drew0 ⟨hI.post.le, fun i hi => hI.out i (by rw [n0, nN]; exact hi), hI.post.rel.sub hsub, hI.post.frm, fun i b l h1 h2 => hI.post.img i b l (hsub _ _ h1) h2⟩, rfl, hI.tsize, hI.ds, fun t v hv => ?_⟩
        rcases hT.ts ops.size (Nat.le_refl _) t v hv with ⟨i, i1, i2, rfl⟩ | ⟨i1, i2⟩
        · exact hI.ta i i1 (hall i i1) t i2
        · exact hI.tb t v i1 fun i hi _ => i2 i hi
      · unfold left
        rw [List.filter_eq_self.2 (fun i hi => by rw [getD_replicate _ _ (List.mem_range.1 hi)]; rfl), List.length_range]
      · refine ⟨by simp, PostW.refl c.rel.drew, fun _ _ => rfl, fun id b hb => hb, fun f f1 _ f3 => ?_, fun i h1 h2 h3 => ?_, hTR.size, hTR.ds, fun i h1 h2 => ?_, fun t v hv _ => hTR.rd t v hv, fun i h1 h2 => ?_, (fun q hq => by cases hq), fun e h1 _ h3 => ?_⟩
        · rw [getD_replicate _ _ f1] at f3; cases f3
        · rw [n0] at h1; rw [nN] at h2; exact absurd (hf i h1 h2) h3
        · rw [getD_replicate _ _ h1] at h2; cases h2
        · rw [getD_replicate _ _ h1] at h2; cases h2
        · rw [getD_replicate _ _ h1] at h3; cases h3
/-- The executor is right, with whatever hooks are. -/
theorem exec_right {hook : CallT → CallT} (hmx : P.follows .mixedOrders = true) (hh : HookOk P G base hook) (he : ExtOk P ext) (f : Nat) : CallOk P G base (exec P G hook ext f) := exec_ok hh he (any_ok hmx he) f
end
end Eng
end Go.Proofs.YtjoinnjhpfakpaaGreatDoor
namespace Go.Proofs.YtjoinnjhpfakpaaGreatDoor
namespace Eng
open Go.RowKit

section
variable {P : Program} {G base n n' : Nat} {j j' : J} {M M' : H} {w w' : World}
/-- Of a run whose memory was the globals' alone: what there was is as it was. -/
theorem below_of_post (h : Post G base n n' j M w j' M' w') (hM : ∀ id b, M.get id = some b → id < G) : Below w.heap.size w w' :=
  ⟨h.frm.os, h.frm.tape, h.frm.output, h.frm.size, fun g hg => h.frm.block g hg fun id b l h1 h2 _ => absurd (hM id b h2) (by omega)⟩
/-- Quiet answers: by function, arguments and memory. -/
abbrev QT := FuncId → List V → H → Option V
def QOk (P : Program) (G base : Nat) (q : QT) : Prop :=
  ∀ f vs M v, q f vs M = some v → Enters P f ∧ ∀ n j w ys, Ctx G base n j M w → VRs j vs ys → Calls P f ys.toArray w fun e w' => (∃ y, e = .returned y ∧ VR j v y) ∧ Below w.heap.size w w'
def hookQ (q : QT) (h : CallT → CallT) : CallT → CallT := fun call F vs M n =>
  match F with
  | .y _ => none
  | .f f => match q f vs M with
    | some v => some (.ok v M n)
    | none => h call F vs M n
theorem hookQ_ok {q : QT} {h : CallT → CallT} (hq : QOk P G base q) (hh : HookOk P G base h) : HookOk P G base (hookQ q h) := by
  intro call hc
  refine ⟨fun f vs M n r hr => ?_, fun id vs M n r hr => by cases hr⟩
  unfold hookQ at hr
  simp only at hr
  split at hr
  · rename_i v hv
    injection hr with hr
    subst hr
    obtain ⟨h1, h2⟩ := hq f vs M v hv
    refine ⟨h1, Nat.le_refl _, fun j w ys c _ hy => (h2 n j w ys c hy).mono fun e w' he => ?_⟩
    obtain ⟨⟨y, rfl, hv⟩, hb⟩ := he
    exact ⟨j, post_quiet c hb, y, rfl, hv⟩
  · exact (hh call hc).fn f vs M n r hr
theorem hook_none : HookOk P G base (fun _ _ _ _ _ => none) := fun _ _ => ⟨fun _ _ _ _ _ h => (by cases h), fun _ _ _ _ _ h => (by cases h)⟩
/-- One function's quiet answers ahead of others'. -/
theorem qOk_or {q q' : QT} (h : QOk P G base q) (h' : QOk P G base q') : QOk P G base (fun f vs M => match q f vs M with | some v => some v | none => q' f vs M) := by
  intro f vs M v hv
  dsimp only at hv
  split at hv
  · rename_i u hu
    injection hv with hv
    subst hv
    exact h f vs M u hu
  · exact h' f vs M v hv
/-- The bytes of a slice. -/
noncomputable def bytesA (M : H) (v : V) : Option (List UInt8) :=
  match v with
  | .sl none _ _ => some []
  | .se => some []
  | .sl (some q) n _ => (match aload M q.1 q.2 n with | some r => bytesOf r | none => none)
  | _ => none
end
end Eng
end Go.Proofs.YtjoinnjhpfakpaaGreatDoor
namespace Go.Proofs.YtjoinnjhpfakpaaGreatDoor
namespace Eng
open Go.RowKit

/-! ### Hooks -/
/-- What a hook owes at one function. -/
def At (P : Program) (G base : Nat) (f0 : FuncId) (h1 : CallT → List V → H → Nat → Option Rs) : Prop :=
  ∀ call, CallOk P G base call → ∀ vs M n r, h1 call vs M n = some r → Enters P f0 ∧ n ≤ r.n ∧ ∀ j w ys, Ctx G base n j M w → Free n r.n j → VRs j vs ys →
    Calls P f0 ys.toArray w fun e w' => ∃ j', Post G base n r.n j M w j' r.M w' ∧ EndR j' r e
noncomputable def hookF (f0 : FuncId) (h1 : CallT → List V → H → Nat → Option Rs) (rest : CallT → CallT) : CallT → CallT := fun call F vs M n =>
  match F with
  | .y _ => none
  | .f f => (match Nat.beq f f0 with
    | true => h1 call vs M n
    | false => rest call (.f f) vs M n)
section
variable {P : Program} {G base n n' : Nat} {j j' : J} {M M' : H} {w w' : World}
theorem hookF_ok {f0 : FuncId} {h1 : CallT → List V → H → Nat → Option Rs} {rest : CallT → CallT} (h : At P G base f0 h1) (hr : HookOk P G base rest) : HookOk P G base (hookF f0 h1 rest) := by
  intro call hc
  refine ⟨fun f vs M n r q => ?_, fun id vs M n r q => (by cases q)⟩
  unfold hookF at q
  simp only at q
  split at q
  · rename_i e
    have e := Nat.eq_of_beq_eq_true e
    subst e
    exact h call hc vs M n r q
  · exact (hr call hc).fn f vs M n r q
/-- A quiet answer off the arguments and memory. -/
noncomputable def quiet (q : List V → H → Option V) : CallT → List V → H → Nat → Option Rs := fun _ vs M n =>
  match q vs M with
  | some v => some (.ok v M n)
  | none => none
theorem quiet_at {f0 : FuncId} {q : List V → H → Option V} (he : Enters P f0) (h : ∀ vs M v, q vs M = some v → ∀ n j w ys, Ctx G base n j M w → VRs j vs ys → Calls P f0 ys.toArray w fun e w' => (∃ y, e = .returned y ∧ VR j v y) ∧ Below w.heap.size w w') : At P G base f0 (quiet q) := by
  intro call hc vs M n r hr
  unfold quiet at hr
  split at hr
  · rename_i v hv
    injection hr with hr
    subst hr
    refine ⟨he, Nat.le_refl _, fun j w ys c _ hy => (h vs M v hv n j w ys c hy).mono fun e w' he => ?_⟩
    obtain ⟨⟨y, rfl, hv⟩, hb⟩ := he
    exact ⟨j, post_quiet c hb, y, rfl, hv⟩
  · cases hr
/-! ### Functions without a body -/
/-- What one of them owes. -/
def XAt (P : Program) (f0 : FuncId) (x : List V → H → Nat → R) : Prop := ∀ vs M n v M' n', x vs M n = some (v, M', n') → n ≤ n' ∧ ∀ G base j w ys, Ctx G base n j M w → Free n n' j → VRs j vs ys →
  ∃ y w' j', (callFunc f0 ys.toArray).run P w = .ok (.value y) w' ∧ VR j' v y ∧ Post G base n n' j M w j' M' w'
noncomputable def extF (f0 : FuncId) (x : List V → H → Nat → R) (rest : ExtT) : ExtT := fun f vs M n =>
  match Nat.beq f f0 with
  | true => x vs M n
  | false => rest f vs M n
theorem extF_ok {f0 : FuncId} {x : List V → H → Nat → R} {rest : ExtT} (h : XAt P f0 x) (hr : ExtOk P rest) : ExtOk P (extF f0 x rest) := by
  intro f vs M n v M' n' q
  unfold extF at q
  split at q
  · rename_i e
    have e := Nat.eq_of_beq_eq_true e
    subst e
    exact h vs M n v M' n' q
  · exact hr f vs M n v M' n' q
theorem ext_none : ExtOk P (fun _ _ _ _ => none) := fun _ _ _ _ _ _ _ h => (by cases h)
def xpure (x : List V → Option V) (vs : List V) (M : H) (n : Nat) : R := match x vs with | some v => some (v, M, n) | none => none
theorem xpure_at {f0 : FuncId} {x : List V → Option V} (h : ∀ vs v, x vs = some v → ∀ j w ys, VRs j vs ys → ∃ y, (callFunc f0 ys.toArray).run P w = .ok (.value y) w ∧ VR j v y) : XAt P f0 (xpure x) := by
  intro vs M n v M' n' q
  unfold xpure at q
  split at q
  · rename_i u hu
    injection q with q
    injection q with e1 q
    injection q with e2 e3
    subst e1; subst e2; subst e3
    refine ⟨Nat.le_refl _, fun G base j w ys c _ hy => ?_⟩
    obtain ⟨y, h1, h2⟩ := h vs u hu j w ys hy
    exact ⟨y, w, j, h1, h2, .refl c.rel _⟩
  · cases q
/-- The callee's stand-in. -/
def Row (P : Program) (f0 : FuncId) (e : Array Value → Sem Value) : Prop := ∀ args w, (callFunc f0 args).run P w = ((e args).run P w).andThen fun v w' => .ok (.value v) w'
def xbits : List V → Option V
  | [.f .f64 b] => some (.i .u64 (Int.ofNat b))
  | _ => none
def xfrom : List V → Option V
  | [.i .u64 (.ofNat b)] => some (.f .f64 b)
  | _ => none
def findB (c : Nat) : List UInt8 → Nat → Int
  | [], _ => -1
  | b :: l, i => (match Nat.beq b.toNat c with | true => Int.ofNat i | false => findB c l (i + 1))
def xidx : List V → Option V
  | [.s l, .i .u8 (.ofNat c)] => (match Nat.blt c 256 with | true => some (.i .i64 (findB c l 0)) | false => none)
  | _ => none
def xcmp : List V → Option V
  | [.s a, .s b] => some (.i .i64 (match eqS a b with | true => 0 | false => (match ltS a b with | true => -1 | false => 1)))
  | _ => none
theorem bits_at {f0 : FuncId} (h : Row P f0 Extern.MathFloatBits.float64bits) : XAt P f0 (xpure xbits) := xpure_at fun vs v q j w ys hy => by
  unfold xbits at q
  split at q
  · injection q with q
    subst q
    simp only [VRs, VR] at hy
    obtain ⟨_, _, rfl, rfl, rfl⟩ := hy
    rw [h]
    exact ⟨_, rfl, by simp only [VR]; rfl⟩
  · cases q
theorem from_at {f0 : FuncId} (h : Row P f0 Extern.MathFloatBits.float64frombits) : XAt P f0 (xpure xfrom) := xpure_at fun vs v q j w ys hy => by
  unfold xfrom at q
  split at q
  · injection q with q
    subst q
    simp only [VRs, VR] at hy
    obtain ⟨_, _, rfl, rfl, rfl⟩ := hy
    rw [h]
    exact ⟨_, rfl, by simp only [VR]; rfl⟩
  · cases q
theorem findB_eq (c : Nat) (hc : c < 256) : ∀ (l : List UInt8) (i : Nat), findB c l i = if Lib.indexByte l c.toUInt8 = -1 then -1 else Lib.indexByte l c.toUInt8 + i
  | [], _ => rfl
  | b :: l, i => by
    have hb : Nat.beq b.toNat c = (b == c.toUInt8) := by
      rw [Bool.eq_iff_iff, Nat.beq_eq, beq_iff_eq]
      constructor
      · intro e
        apply UInt8.toNat.inj
        rw [e]
        simp
        omega
      · intro e
        rw [e]
        simp
        omega
    have hge := Lib.indexByte_ge l c.toUInt8
    unfold findB Lib.indexByte
    rw [hb]
    cases hq : (b == c.toUInt8)
    · simp only [Bool.false_eq_true, if_false]
      rw [findB_eq c hc l (i + 1)]
      by_cases h1 : Lib.indexByte l c.toUInt8 = -1
      · simp [h1]
      · have h2 : ¬ (Lib.indexByte l c.toUInt8 + 1 = -1) := by omega
        simp only [beq_iff_eq, h1, if_false, h2]
        omega
    · simp
theorem idx_at {f0 : FuncId} (h : Row P f0 Extern.BytealgIndexByte.indexByte) : XAt P f0 (xpure xidx) := xpure_at fun vs v q j w ys hy => by
  unfold xidx at q
  split at q
  · rename_i l c
    split at q
    · rename_i hc
      rw [Nat.blt_eq] at hc
      injection q with q
      subst q
      simp only [VRs, VR] at hy
      obtain ⟨_, _, rfl, ⟨_, _, rfl, rfl, rfl⟩, rfl⟩ := hy
      rw [h]
      have := Lib.run_indexByteString (P := P) ⟨l.toArray⟩ (Int.ofNat c) w
      refine ⟨_, by show Result.andThen ((Extern.BytealgIndexByte.indexByte #[.string ⟨l.toArray⟩, .int .u8 (Int.ofNat c)]).run P w) _ = _; rw [this]; rfl, ?_⟩
      simp only [VR]
      rw [findB_eq c hc]
      have hge := Lib.indexByte_ge l c.toUInt8
      have e : (Int.ofNat c).toNat.toUInt8 = c.toUInt8 := rfl
      rw [e]
      by_cases h1 : Lib.indexByte l c.toUInt8 = -1
      · simp [h1]
      · simp [h1]
    · cases q
  · cases q
theorem blt_iff {a b : Nat} : Nat.blt a b = true ↔ a < b := by rw [Nat.blt_eq]
theorem cmp_eq : ∀ (a b : List UInt8), Lib.compareBytes a b = (match eqS a b with | true => 0 | false => (match ltS a b with | true => -1 | false => 1))
  | [], [] => rfl
  | [], _ :: _ => rfl
  | _ :: _, [] => rfl
  | a :: x, b :: y => by
    unfold Lib.compareBytes eqS ltS
    have h1 : (a < b) ↔ Nat.blt a.toNat b.toNat = true := by rw [Nat.blt_eq]; exact UInt8.lt_iff_toNat_lt
    have h2 : (b < a) ↔ Nat.blt b.toNat a.toNat = true := by rw [Nat.blt_eq]; exact UInt8.lt_iff_toNat_lt
    cases hl : Nat.blt a.toNat b.toNat with
    | true =>
      have := blt_iff.1 hl
      have hne : Nat.beq a.toNat b.toNat = false := by
        cases hb : Nat.beq a.toNat b.toNat with
        | false => rfl
        | true => have := Nat.eq_of_beq_eq_true hb; omega
      simp [h1.2 hl, hne]
    | false =>
      have hn : ¬ (a < b) := fun e => by rw [h1.1 e] at hl; cases hl
      cases hb : Nat.beq a.toNat b.toNat with
      | true =>
        have := Nat.eq_of_beq_eq_true hb
        have hn2 : ¬ (b < a) := fun e => by have := blt_iff.1 (h2.1 e); omega
        simp only [hn, hn2, if_false]
        exact cmp_eq x y
      | false =>
        have : b < a := h2.2 (blt_iff.2 (by
          have h3 : ¬ a.toNat < b.toNat := fun e => by rw [blt_iff.2 e] at hl; cases hl
          have h4 : a.toNat ≠ b.toNat := fun e => by rw [e, Nat.beq_refl] at hb; cases hb
          omega))
        simp [hn, this]
theorem cmp_at {f0 : FuncId} (h : Row P f0 Extern.BytealgCompare.compare) : XAt P f0 (xpure xcmp) := xpure_at fun vs v q j w ys hy => by
  unfold xcmp at q
  split at q
  · rename_i a b
    injection q with q
    subst q
    simp only [VRs, VR] at hy
    obtain ⟨_, _, rfl, ⟨_, _, rfl, rfl, rfl⟩, rfl⟩ := hy
    rw [h]
    have := Lib.run_compareString (P := P) ⟨a.toArray⟩ ⟨b.toArray⟩ w
    refine ⟨_, by show Result.andThen ((Extern.BytealgCompare.compare #[.string ⟨a.toArray⟩, .string ⟨b.toArray⟩]).run P w) _ = _; rw [this]; rfl, ?_⟩
    simp only [VR]
    rw [← cmp_eq]
  · cases q
/-! ### New rows of unknown bytes -/
noncomputable def xmnz (e : TypeId) (vs : List V) (M : H) (n : Nat) : R :=
  match vs with
  | [.i .i64 (.ofNat k)] => (match Nat.ble k 1000000 with
    | true => some (.sl (some (n, 0)) k (.u 1), T.set 24 M n (some (.c (List.replicate k .un) e (.n 0))), n + 1)
    | false => none)
  | _ => none
theorem digits_one : ∀ (n t : Nat) (acc : Array Value), (∀ (i : Nat) (y : Value), acc[i]? = some y → y.oneCell' = true) → ∀ (i : Nat) (y : Value), (Extern.BytealgMakeNoZero.digits n t acc)[i]? = some y → y.oneCell' = true
  | 0, _, _, h => h
  | n + 1, t, acc, h => by
    rw [Extern.BytealgMakeNoZero.digits]
    refine digits_one n _ _ fun i y hy => ?_
    rw [Array.getElem?_push] at hy
    split at hy
    · injection hy with hy; subst hy; rfl
    · exact h i y hy
theorem mnz_at {f0 : FuncId} {ps : Array TypeId} {t0 e : TypeId} (h : Row P f0 (Extern.BytealgMakeNoZero.makeNoZero ps #[t0])) (ht : P.underlying t0 = some (.slice e)) : XAt P f0 (xmnz e) := by
  intro vs M n v M' n' q
  unfold xmnz at q
  split at q
  case h_2 => cases q
  rename_i k
  split at q
  case h_2 => cases q
  rename_i hk
  have hk := Nat.le_of_ble_eq_true hk
  injection q with q
  injection q with e1 q
  injection q with e2 e3
  subst e1; subst e2; subst e3
  refine ⟨by omega, fun G base j w ys c hf hy => ?_⟩
  simp only [VRs, VR] at hy
  obtain ⟨_, _, rfl, rfl, rfl⟩ := hy
  obtain ⟨tt, cap, hrun, hc1, hc2⟩ : ∃ t c, (Extern.BytealgMakeNoZero.makeNoZero ps #[t0] #[.int .i64 k]).run P w = .ok (.slice (some ⟨w.heap.size, 0, none⟩) k c) (w.drew.drew.alloc (.cells (Extern.BytealgMakeNoZero.digits c t #[]) e)) ∧ k ≤ c ∧ c < 2 ^ 63 := by
    have hd : Extern.BytealgMakeNoZero.makeNoZero ps #[t0] #[.int .i64 k] = (do
        let .slice elem ← underlying t0 | stuck "bytealg.MakeNoZero: slice type expected"
        if (k : Int) < 0 || (k : Int) > 2 ^ 48 then runtimePanic (.error "makeslice: len out of range")
        let cap ← choose (.appendCap (k : Int).toNat 0 elem)
        askRoom cap
        let bytes ← choose (.extern "internal/bytealg.MakeNoZero.bytes" 0)
        let a ← newRow elem (Extern.BytealgMakeNoZero.digits cap bytes #[])
        pure (.slice (some a) (k : Int).toNat cap)) := rfl
    have h1 : ¬ (k : Int) < 0 := by omega
    have h2 : ¬ (281474976710656 : Int) < (k : Int) := by omega
    have hm := Nat.mod_lt (w.tape w.drawn (.appendCap k 0 e)) (show 0 < 2 ^ 63 - k by omega)
    refine ⟨(Question.extern "internal/bytealg.MakeNoZero.bytes" 0).cut (w.tape (w.drawn + 1) (.extern "internal/bytealg.MakeNoZero.bytes" 0)), k + w.tape w.drawn (.appendCap k 0 e) % (2 ^ 63 - k), ?_, by omega, by omega⟩
    rw [hd]
    simp [run_underlying ht, h1, h2, Question.forced, newRow]
    exact ⟨rfl, rfl⟩
  have hsz : (Extern.BytealgMakeNoZero.digits cap tt #[]).size = cap := by rw [Lib.size_digits]; simp
  have hone := digits_one cap tt #[] (fun i y hy => by simp at hy)
  have hp := post_new (n := n) (d := 0) (lim := cap) (o := .cells (Extern.BytealgMakeNoZero.digits cap tt #[]) e) (b := .c (List.replicate k .un) e (.n 0)) (M' := T.set 24 M n (some (.c (List.replicate k .un) e (.n 0)))) c.rel.drew.drew (fun _ _ hb => T.set_get (f := 24) hb) (hf n (Nat.le_refl _) (by omega)) c.g c.base
    ⟨Extern.BytealgMakeNoZero.digits cap tt #[], (0, 0), World.alloc_heap_new _ _, hsz, fun i v hv => by
      obtain ⟨h1, h2⟩ := List.getElem?_eq_some_iff.1 hv
      rw [List.length_replicate] at h1
      rw [List.getElem_replicate] at h2
      subst h2
      refine ⟨(Extern.BytealgMakeNoZero.digits cap tt #[])[i]'(by omega), ?_, ?_⟩
      · simp only [Nat.zero_add]
        exact Array.getElem?_eq_getElem _
      · simp only [VR]
        exact hone i _ (Array.getElem?_eq_getElem (by omega)), .inl rfl⟩
  refine ⟨.slice (some ⟨w.heap.size, 0, none⟩) k cap, _, _, ?_, ?_, hp.drew0.drew0⟩
  · have := h #[.int .i64 k] w
    rw [hrun] at this
    exact this
  · simp only [VR]
    exact ⟨_, cap, J.put_at _ _ _, rfl, hc1, by simp, hc2⟩
end
end Eng
end Go.Proofs.YtjoinnjhpfakpaaGreatDoor

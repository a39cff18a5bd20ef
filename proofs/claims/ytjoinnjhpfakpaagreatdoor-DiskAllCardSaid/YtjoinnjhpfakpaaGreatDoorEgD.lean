/-
  A closed run, reckoned: bytes and strings, copy, maps.
  A closed run, reckoned: maps whose keys are arrays of ints.
  A closed run, reckoned: a walk through a map, where there is but one way of it.
  A closed run, reckoned: one operation.
-/
import Derived.Test.YtjoinnjhpfakpaaGreatDoorEgC
import Derived.DeepKeys3
import Derived.WideKeyRuns
import Derived.MapKept
import Derived.Calls
namespace Go.Proofs.YtjoinnjhpfakpaaGreatDoor
namespace Eng
open Go.RowKit

def bytesOf : List V → Option (List UInt8)
  | [] => some []
  | .i .u8 n :: l => (match bytesOf l with | some r => some (UInt8.ofNat n.toNat :: r) | none => none)
  | _ => none
noncomputable def xb2s (P : Program) (src dst : TypeId) (v : V) (M : H) : Option V :=
  match P.underlying src, P.underlying dst with
  | some (.slice e), some .string => (match P.underlying e with
    | some (.int .u8) => (match v with
      | .sl none _ _ => some (.s [])
      | .se => some (.s [])
      | .sl (some q) n _ => (match aload M q.1 q.2 n with
        | some r => (match bytesOf r with | some l => some (.s l) | none => none)
        | none => none)
      | _ => none)
    | _ => none)
  | _, _ => none
noncomputable def xb2b (P : Program) (G : Nat) (src dst : TypeId) (v : V) (M : H) (n : Nat) : R :=
  match Nat.beq src dst, P.underlying dst, v with
  | true, some (.slice e), .sl (some q) k c => (match P.underlying e, M.get q.1, Nat.ble G q.1 with
    | some (.int .u8), some (.c cs e' .s), true => some (.sl (some q) k c, T.set 24 M q.1 (some (.c cs e' .s)), n)
    | _, _, _ => none)
  | _, _, _ => none
noncomputable def xs2b (P : Program) (src dst : TypeId) (v : V) (M : H) (n : Nat) : R :=
  match P.underlying src, P.underlying dst with
  | some .string, some (.slice e) => (match P.underlying e, v with
    | some (.int .u8), .s l => (match Nat.ble l.length 1000000 with | true => new M n (.c (bytesV l) e .s) (.sl (some (n, 0)) l.length (.u 1)) | false => none)
    | _, _ => none)
  | _, _ => none
noncomputable def xcopy (P : Program) (G : Nat) (dT : TypeId) (d s : V) (M : H) (n : Nat) : R :=
  match P.underlying dT, d with
  | some (.slice e), .sl (some q) dl _ => (match sizeQ P e with
    | none => none
    | some z => (match s with
      | .sl none _ _ => some (.i .i64 (0 : Nat), M, n)
      | .se => some (.i .i64 (0 : Nat), M, n)
      | .sl (some p) sl _ => (match aload M p.1 p.2 (Nat.min sl dl * z) with
        | some r => (match astore G M q.1 q.2 r with | some M' => some (.i .i64 (Nat.min sl dl : Nat), M', n) | none => none)
        | none => none)
      | .s l => (match Nat.beq z 1 with
        | true => (match astore G M q.1 q.2 (bytesV (l.take (Nat.min l.length dl))) with | some M' => some (.i .i64 (Nat.min l.length dl : Nat), M', n) | none => none)
        | false => none)
      | _ => none))
  | _, _ => none
noncomputable def xuStr (P : Program) (G : Nat) (pT : TypeId) (p k : V) (M : H) (n : Nat) : R :=
  match P.underlying pT, k with
  | some (.pointer e), .i _ (.ofNat len) => (match len with
    | 0 => (match p with | .p _ => some (.s [], M, n) | _ => none)
    | len + 1 => (match p, P.underlying e with
      | .p (some q), some (.int .u8) => (match M.get q.1 with
        | some (.c cs e' (.n fz)) => (match Nat.beq e' e && (match sizeQ P e with | some 1 => true | _ => false), Nat.ble G q.1, tk (len + 1) (dr q.2 cs), Nat.ble len 1000000000 with
          | true, true, some r, true => (match bytesOf r with | some l => some (.s l, T.set 24 M q.1 (some (.c cs e' (.n (Nat.max fz (q.2 + (len + 1)))))), n) | none => none)
          | _, _, _, _ => none)
        | _ => none)
      | _, _ => none))
  | _, _ => none
def xuData (v : V) : Option V :=
  match v with
  | .sl none _ _ => some (.p none)
  | .sl (some q) _ (.x (_ + 1)) => some (.p (some q))
  | .sl (some q) (_ + 1) (.u _) => some (.p (some q))
  | _ => none

/-! ### Maps keyed by arrays of bytes -/
def setE : List Ent → Nat → V → List Ent
  | [], _, _ => []
  | e :: es, 0, v => ⟨e.k, v, e.born⟩ :: es
  | e :: es, k + 1, v => e :: setE es k v
def delE : List Ent → Nat → List Ent
  | [], _ => []
  | _ :: es, 0 => es
  | e :: es, k + 1 => e :: delE es k
noncomputable def mapQ (M : H) (m : V) : Option (List Ent × Nat) :=
  match m with
  | .mp none => some ([], 0)
  | .mp (some id) => (match M.get id with | some (.m es clk) => some (es, clk) | _ => none)
  | _ => none
def bornAt (b : Int) : List Ent → Nat → Option Nat
  | [], _ => none
  | e :: es, i => match decide ((e.born : Int) = b) with | true => some i | false => bornAt b es (i + 1)
/-! ### Structs held against each other -/
noncomputable def xeq1 (P : Program) (t : TypeId) (x y : V) : Option Bool :=
  match x, y with
  | .i k a, .i k' b => (match P.underlying t, decide (k = k') with | some (.int _), true => some (decide (a = b)) | _, _ => none)
  | .s a, .s b => (match P.underlying t with | some .string => some (eqS a b) | _ => none)
  | x, y => xeq P t x y
noncomputable def xeqF (P : Program) (l m : List V) : List Field → Option Bool
  | [] => some true
  | f :: fs => (match f.name == "_", xpart P f.type l f.offset, xpart P f.type m f.offset with
    | false, some a, some b => (match xeq1 P f.type a b with
      | some true => xeqF P l m fs
      | some false => some false
      | none => none)
    | _, _, _ => none)
noncomputable def xeqS (P : Program) (op : BinOp) (t : TypeId) (x y : V) : Option V :=
  match P.underlying t, x, y with
  | some (.struct fs), .a l, .a m => (match P.eqGuardType P.depth t, P.stoodInHeld t, xeqF P l m fs.toList with
    | false, false, some r => (match op with | .eql => some (.b r) | .neq => some (.b !r) | _ => none)
    | _, _, _ => none)
  | _, _, _ => none

section
variable {P : Program} {G base n n' : Nat} {j j' : J} {M M' : H} {w w' : World}
/-! ### That they are right -/
theorem bytesOf_ok : ∀ {r : List V} {l : List UInt8} {ys : List Value}, bytesOf r = some l → VRs j r ys → ∃ ns : List Int, ys = ns.map (Value.int .u8) ∧ l = ns.map fun n => UInt8.ofNat n.toNat
  | [], l, ys, h, hr => by injection h with h; subst h; simp only [VRs] at hr; exact ⟨[], by simp [hr], rfl⟩
  | v :: r, l, ys, h, hr => by
    cases v with
    | i k n =>
      cases k with
      | u8 =>
        unfold bytesOf at h
        split at h
        · rename_i q hq
          injection h with h
          subst h
          simp only [VRs, VR] at hr
          obtain ⟨z, zs, rfl, h2, rfl⟩ := hr
          obtain ⟨ns, rfl, rfl⟩ := bytesOf_ok hq h2
          exact ⟨n :: ns, rfl, rfl⟩
        · cases h
      | _ => simp [bytesOf] at h
    | _ => simp [bytesOf] at h
theorem push_all : ∀ (ns : List Int) (acc : ByteArray), ns.foldl (fun r n => r.push (UInt8.ofNat n.toNat)) acc = ⟨acc.data ++ (ns.map fun n => UInt8.ofNat n.toNat).toArray⟩
  | [], acc => by simp
  | n :: ns, acc => by
    rw [List.foldl_cons, push_all ns]
    apply ByteArray.ext
    simp
theorem sl_shape {q : Nat × Nat} {k : Nat} {kc : Cap} {a : Value} (hv : VR j (.sl (some q) k kc) a) : ∃ lc c, j q.1 = some lc ∧ a = .slice (some ⟨lc.g, lc.d + q.2, none⟩) k c := by
  cases kc <;> simp only [VR] at hv
  · obtain ⟨l, h1, h2⟩ := hv; exact ⟨l, _, h1, h2⟩
  · obtain ⟨l, c, h1, h2, _⟩ := hv; exact ⟨l, _, h1, h2⟩
theorem xb2s_ok {s d : TypeId} {v u : V} {a : Value} (h : xb2s P s d v M = some u) (c : Ctx G base n j M w) (hv : VR j v a) : ∃ y, (convert s d a).run P w = .ok y w ∧ VR j u y := by
  unfold xb2s at h
  split at h
  · rename_i e hs hd
    split at h
    · rename_i he
      split at h
      · injection h with h
        subst h
        simp only [VR] at hv
        subst hv
        exact ⟨.string ⟨#[]⟩, by rw [run_convert_bytes_string w s d e none 0 0 hs he hd]; rfl, by simp only [VR]⟩
      · injection h with h
        subst h
        simp only [VR] at hv
        obtain ⟨b, k, rfl⟩ := hv
        refine ⟨.string ⟨#[]⟩, ?_, by simp only [VR]⟩
        rw [run_convert_bytes_string w s d e b 0 k hs he hd]
        cases b with
        | none => rfl
        | some b =>
          have := run_bytesToString (P := P) w b 0 k [] (by rfl)
          exact this
      · rename_i q k kc
        split at h
        · rename_i r hr
          split at h
          · rename_i l hl
            injection h with h
            subst h
            obtain ⟨lc, c', k1, rfl⟩ := sl_shape hv
            obtain ⟨l', k2, ys, k3, k4, k5⟩ := aload_run (P := P) c.rel hr
            rw [k1] at k2
            injection k2 with k2
            subst k2
            obtain ⟨ns, rfl, rfl⟩ := bytesOf_ok hl k3
            refine ⟨.string ⟨(ns.map fun n => UInt8.ofNat n.toNat).toArray⟩, ?_, by simp only [VR]⟩
            rw [run_convert_bytes_string w s d e _ k c' hs he hd, run_bytesToString w _ k c' ns k5, push_all]
            congr 2
            apply ByteArray.ext
            simp
          · cases h
        · cases h
      · cases h
    · cases h
  · cases h
theorem freeze_new (w : World) (arr : Array Value) (e : TypeId) (o : Nat) : ((w.alloc (.cells arr e)).freeze ⟨w.heap.size, o, none⟩ 1) = w.alloc (.cells arr e (o, o + 1)) := by
  unfold World.freeze World.alloc
  simp only [Nat.one_ne_zero, if_false]
  congr 1
  apply Array.ext_getElem?
  intro i
  rw [Array.getElem?_modify]
  by_cases hi : w.heap.size = i
  · subst hi
    simp
  · rw [if_neg hi, Array.getElem?_push, Array.getElem?_push]
    split <;> first | omega | rfl
theorem xs2b_ok {s d : TypeId} {v u : V} {a : Value} (h : xs2b P s d v M n = some (u, M', n')) (c : Ctx G base n j M w) (hf : Free n n' j) (hv : VR j v a) : Good P G base n j M w (convert s d a) u M' n' := by
  unfold xs2b at h
  split at h
  · rename_i e hs hd
    split at h
    · rename_i l he
      split at h
      case h_2 => cases h
      rename_i hll
      have hll := Nat.le_of_ble_eq_true hll
      simp only [VR] at hv
      subst hv
      obtain ⟨rfl, h⟩ := new_eq h
      injection h with h
      injection h with _ h
      injection h with h1 h2
      subst h1; subst h2
      let cap := (Question.appendCap (ByteArray.mk l.toArray).size 0 e).cut (w.tape w.drawn (.appendCap (ByteArray.mk l.toArray).size 0 e))
      have hcap : l.length ≤ cap ∧ cap < 2 ^ 63 := by
        have : cap = (ByteArray.mk l.toArray).size + w.tape w.drawn (.appendCap (ByteArray.mk l.toArray).size 0 e) % (2 ^ 63 - (ByteArray.mk l.toArray).size) := rfl
        rw [bsize] at this
        have hm := Nat.mod_lt (w.tape w.drawn (.appendCap l.length 0 e)) (show 0 < 2 ^ 63 - l.length by omega)
        omega
      have hp := post_cells (M' := T.set 24 M n (some (.c (bytesV l) e .s))) (n := n) (e := e) (fz := .s) (fr := (cap, cap + 1)) c.rel.drew (fun _ _ hb => T.set_get (f := 24) hb) (hf n (Nat.le_refl _) (by omega)) c.g c.base (bytesV_rel j l) (List.replicate (cap - l.length) (.int .u8 0)) (.inr (by simp; omega))
      have hlen : (l.map (fun b => Value.int .u8 (b.toNat : Int)) ++ List.replicate (cap - l.length) (Value.int .u8 0)).length = cap := by simp; omega
      refine ⟨.slice (some ⟨w.heap.size, 0, none⟩) l.length cap, _, _, ?_, ?_, hp.drew0⟩
      · have e1 : ((ByteArray.mk l.toArray).data.map fun b => Value.int .u8 (b.toNat : Int)) ++ Array.replicate (cap - l.length) (Value.int .u8 0) = (l.map (fun b => Value.int .u8 (b.toNat : Int)) ++ List.replicate (cap - l.length) (Value.int .u8 0)).toArray := by
          apply Array.ext'
          simp
        have hq : (Question.appendCap (ByteArray.mk l.toArray).size 0 e).forced = false := rfl
        have hfz := freeze_new w.drew ((l.map (fun b => Value.int .u8 (b.toNat : Int)) ++ List.replicate (cap - l.length) (Value.int .u8 0)).toArray) e cap
        have hsh : (w.drew.alloc (.cells (l.map (fun b => Value.int .u8 (b.toNat : Int)) ++ List.replicate (cap - l.length) (Value.int .u8 0)).toArray e)).shape? w.heap.size = some (e, cap) := by
          unfold World.shape?
          show (match (w.heap.push _)[w.heap.size]? with | some (.cells c elem _) => some (elem, c.size) | _ => none) = _
          simp only [Array.getElem?_push_size, List.size_toArray, hlen]
        simp only [convert, Sem.run_bind, run_underlying hs, run_underlying hd, Result.andThen_ok, run_underlying he, Conv.stringToBytes, run_choose_drew, hq, Bool.false_eq_true, if_false, newRow, run_newObj_alloc, Sem.run_pure]
        show ((Sem.run P (markStringish ⟨w.heap.size, 0, none⟩) (w.drew.alloc (.cells (((ByteArray.mk l.toArray).data.map fun b => Value.int .u8 (b.toNat : Int)) ++ Array.replicate (cap - (ByteArray.mk l.toArray).size) (Value.int .u8 0)) e))).andThen fun a w' => Result.ok (Value.slice (some ⟨w.heap.size, 0, none⟩) (ByteArray.mk l.toArray).size cap) w') = _
        rw [bsize, e1]
        have hm : (markStringish ⟨w.heap.size, 0, none⟩).run P (w.drew.alloc (.cells (l.map (fun b => Value.int .u8 (b.toNat : Int)) ++ List.replicate (cap - l.length) (Value.int .u8 0)).toArray e)) = .ok () ((w.drew.alloc (.cells (l.map (fun b => Value.int .u8 (b.toNat : Int)) ++ List.replicate (cap - l.length) (Value.int .u8 0)).toArray e)).freeze ⟨w.heap.size, cap, none⟩ 1) := by
          unfold markStringish
          simp only [Sem.run_bind, run_shape, Result.andThen_ok, hsh, run_freeze]
        rw [hm]
        show Result.ok _ ((w.drew.alloc _).freeze ⟨w.drew.heap.size, cap, none⟩ 1) = _
        rw [hfz]
      · simp only [VR]
        refine ⟨_, cap, J.put_at _ _ _, rfl, hcap.1, ?_, hcap.2⟩
        simp only [hlen]
        omega
    · cases h
  · cases h
theorem xb2b_ok {s d : TypeId} {v u : V} {a : Value} (h : xb2b P G s d v M n = some (u, M', n')) (c : Ctx G base n j M w) (hv : VR j v a) : Good P G base n j M w (convert s d a) u M' n' ∧ n' = n := by
  unfold xb2b at h
  split at h
  · rename_i e q k kc he hd
    split at h
    · rename_i cs e' hu hM hG
      have he := Nat.eq_of_beq_eq_true he
      subst he
      have hG := Nat.le_of_ble_eq_true hG
      injection h with h
      injection h with e1 h
      injection h with e2 e3
      subst e1; subst e2; subst e3
      obtain ⟨lc, cc, k1, rfl⟩ := sl_shape hv
      obtain ⟨l2, k5, arr, fr, g1, g2, g3, g4⟩ := c.rel.ok _ _ hM
      rw [k1] at k5
      injection k5 with k5
      subst k5
      have hsh : w.shape? lc.g = some (e', arr.size) := by simp [World.shape?, g1]
      have hfr : (w.freeze ⟨lc.g, arr.size, none⟩ 1).heap[lc.g]? = some (.cells arr e' (if fr.1 = fr.2 then (arr.size, arr.size + 1) else (min fr.1 arr.size, max fr.2 (arr.size + 1)))) := by
        simp only [World.freeze, Nat.one_ne_zero, if_false, Array.getElem?_modify, if_true, g1, Option.map_some]
        obtain ⟨f1, f2⟩ := fr
        by_cases hf : f1 = f2 <;> simp [hf]
      refine ⟨⟨_, w.freeze ⟨lc.g, arr.size, none⟩ 1, j, ?_, hv, ?_⟩, rfl⟩
      · simp only [convert, Sem.run_bind, run_underlying hd, Result.andThen_ok, run_underlying hu, beq_self_eq_true, markStringish, run_shape, hsh, run_freeze, Sem.run_pure]
      · refine post_turn c.rel hM k1 hG rfl rfl rfl ?_ (fun g hg => ?_) ⟨arr, _, hfr, g2, g3, ?_⟩
        · simp [World.freeze]
        · simp only [World.freeze, Nat.one_ne_zero, if_false, Array.getElem?_modify]
          rw [if_neg (Ne.symm hg)]
        · right
          split
          · show lc.lim ≤ arr.size
            omega
          · rename_i hne
            rcases g4 with g4 | g4
            · exact absurd g4 hne
            · show lc.lim ≤ min fr.1 arr.size
              exact Nat.le_min.2 ⟨g4, by omega⟩
    · cases h
  · cases h
theorem xcopy_ok {dT sT ty : TypeId} {d s v : V} {a b : Value} (h : xcopy P G dT d s M n = some (v, M', n')) (c : Ctx G base n j M w) (hd : VR j d a) (hs : VR j s b) : Good P G base n j M w (Builtin.copy_ #[dT, sT] ty #[a, b]) v M' n' ∧ n' = n := by
  have zero : ∀ {e : TypeId} {x : Value}, P.underlying dT = some (.slice e) → some (V.i .i64 (0 : Nat), M, n) = some (v, M', n') → (∀ w, (Builtin.copy_ #[dT, sT] ty #[a, b]).run P w = .ok (goInt 0) w) → Good P G base n j M w (Builtin.copy_ #[dT, sT] ty #[a, b]) v M' n' ∧ n' = n := fun _ h hr => by
    injection h with h
    injection h with e1 h
    injection h with e2 e3
    subst e1; subst e2; subst e3
    exact ⟨⟨_, w, j, hr w, by simp only [VR]; rfl, .refl c.rel _⟩, rfl⟩
  unfold xcopy at h
  split at h
  · rename_i e q dl dc hu
    obtain ⟨ld, cd, kd, rfl⟩ := sl_shape hd
    split at h
    · cases h
    · rename_i z hz
      split at h
      · simp only [VR] at hs
        subst hs
        refine zero (x := undef) hu h fun w => ?_
        simp [Builtin.copy_, run_underlying hu, Builtin.lenOf, run_size hz, Builtin.firstCells, storeCells]
      · simp only [VR] at hs
        obtain ⟨b, k, rfl⟩ := hs
        refine zero (x := undef) hu h fun w => ?_
        cases b <;> simp [Builtin.copy_, run_underlying hu, Builtin.lenOf, run_size hz, Builtin.firstCells, storeCells, loadCells, loadCellsFrom]
      · rename_i p sl sc
        obtain ⟨ls, cs, ks, rfl⟩ := sl_shape hs
        split at h
        · rename_i r hr
          split at h
          · rename_i M2 hst
            injection h with h
            injection h with e1 h
            injection h with e2 e3
            subst e1; subst e2; subst e3
            obtain ⟨l1, k1, ys, k2, k3, k4⟩ := aload_run (P := P) c.rel hr
            rw [ks] at k1
            injection k1 with k1
            subst k1
            obtain ⟨l2, k5, w', k6, k7⟩ := astore_run (P := P) c.rel hst k2 n
            rw [kd] at k5
            injection k5 with k5
            subst k5
            refine ⟨⟨_, w', j, ?_, by simp only [VR]; rfl, k7⟩, rfl⟩
            simp [Builtin.copy_, run_underlying hu, Builtin.lenOf, run_size hz, Builtin.firstCells, k4, k6, goInt]
          · cases h
        · cases h
      · rename_i l
        split at h
        · rename_i hb
          have hb := Nat.eq_of_beq_eq_true hb
          subst hb
          split at h
          · rename_i M2 hst
            injection h with h
            injection h with e1 h
            injection h with e2 e3
            subst e1; subst e2; subst e3
            simp only [VR] at hs
            subst hs
            obtain ⟨l2, k5, w', k6, k7⟩ := astore_run (P := P) c.rel hst (bytesV_rel j _) n
            rw [kd] at k5
            injection k5 with k5
            subst k5
            refine ⟨⟨_, w', j, ?_, by simp only [VR]; rfl, k7⟩, rfl⟩
            rw [List.map_take] at k6
            simp [Builtin.copy_, run_underlying hu, Builtin.lenOf, run_size hz, Builtin.firstCells, bsize, k6, goInt]
          · cases h
        · cases h
      · cases h
  · cases h
theorem xuData_ok {ta : Array TypeId} {ty : TypeId} {v u : V} {a : Value} (h : xuData v = some u) (hv : VR j v a) : Pur P j (Builtin.unsafeSliceData_ ta ty #[a]) u := by
  unfold xuData at h
  split at h
  · simp only [VR] at hv
    subst hv
    exact pur_some h (y := .pointer none) (by simp only [VR]) fun w => rfl
  · rename_i q k c
    simp only [VR] at hv
    obtain ⟨l, h1, rfl⟩ := hv
    exact pur_some h (y := .pointer (some ⟨l.g, l.d + q.2, none⟩)) (by simp only [VR]; exact ⟨l, h1, rfl⟩) fun w => rfl
  · rename_i q k z
    simp only [VR] at hv
    obtain ⟨l, c, h1, rfl, h2, h3⟩ := hv
    obtain ⟨c', rfl⟩ : ∃ c', c = c' + 1 := ⟨c - 1, by omega⟩
    exact pur_some h (y := .pointer (some ⟨l.g, l.d + q.2, none⟩)) (by simp only [VR]; exact ⟨l, h1, rfl⟩) fun w => rfl
  · cases h
theorem byte_row {e : TypeId} (hs : sizeQ P e = some 1) {off n count : Nat} (h : off + n ≤ count) : liesAt P P.depth e (count / P.cellsOf e) off e n = true := by
  have hc : P.cellsOf e = 1 := by
    unfold sizeQ at hs
    unfold Program.cellsOf
    split at hs
    · rename_i i hi; injection hs with hs; rw [hi]; simpa using hs
    · cases hs
  have hd : ∃ d, P.depth = d + 1 := ⟨2 * (P.types.size + Made.depth) + 1, rfl⟩
  obtain ⟨d, hd⟩ := hd
  have hrow : rowAt P (sameLayout P P.depth · e) P.depth e (count / P.cellsOf e) off n = true := by
    rw [hd]
    unfold rowAt
    simp only [hc, Nat.one_ne_zero, if_false, Nat.div_one, Nat.mod_one, beq_self_eq_true, Bool.true_and]
    have : sameLayout P (d + 1) e e = true := by unfold sameLayout; simp
    simp [this, h]
  rw [hd]
  unfold liesAt
  simp [hrow]
theorem loadBytes_ok (g o : Nat) : ∀ (ns : List Int) (i : Nat) (acc : ByteArray), (∀ (k : Nat) (y : Value), (ns.map (Value.int .u8))[k]? = some y → w.cell? ⟨g, o + i + k, none⟩ = some y) →
    (loadBytes ⟨g, o + i, none⟩ acc ns.length).run P w = .ok (ns.foldl (fun r n => r.push (UInt8.ofNat n.toNat)) acc) w
  | [], i, acc, _ => rfl
  | x :: ns, i, acc, h => by
    have h0 := h 0 (.int .u8 x) rfl
    rw [Nat.add_zero] at h0
    have ih := loadBytes_ok g o ns (i + 1) (acc.push (UInt8.ofNat x.toNat)) fun k y hk => by
      have := h (k + 1) y (by simpa using hk)
      rwa [show o + i + (k + 1) = o + (i + 1) + k by omega] at this
    simp only [loadBytes, List.length_cons, Sem.run_bind, run_load, h0, Result.andThen_ok, List.foldl_cons]
    rw [addr_add, show o + i + 1 = o + (i + 1) by omega]
    exact ih
theorem xeq_in {t : TypeId} {x y : V} {a b : Value} {r : Bool} (h : xeq P t x y = some r) (hx : VR j x a) (hy : VR j y b) (d : Nat) (w : World) : (Op.equalIn (d + 2) t a b).run P w = .ok r w := by
  unfold xeq at h
  split at h
  case h_13 l m =>
    split at h
    · rename_i n e hu
      split at h
      · rename_i k i he hi hg
        split at h
        · rename_i c1 c2 c3
          have c1 := Nat.eq_of_beq_eq_true c1
          have c2 := Nat.eq_of_beq_eq_true c2
          simp only [VR] at hx hy
          obtain ⟨xs, h1, rfl⟩ := hx
          obtain ⟨ys, h2, rfl⟩ := hy
          have hc : P.cellsOf e = 1 := by simp [Program.cellsOf, hi, c1]
          have := eqI_items (P := P) (j := j) he w d (List.range n) l m xs ys 0 r (by simpa using h1) (by simpa using h2) (by rw [c2]; simp) h
          rw [run_equalIn_array (P := P) w (d + 1) _ _ hu hi, hc]
          exact this
        · cases h
      · cases h
    · cases h
  all_goals first
    | cases h
    | (split at h
       · rename_i hu
         injection h with h
         subst h
         have hx := vr_shape hx
         have hy := vr_shape hy
         dsimp only at hx hy
         first | subst hx | (obtain ⟨_, rfl⟩ := hx) | (obtain ⟨_, _, _, rfl⟩ := hx) | (split at hx <;> first | subst hx | (obtain ⟨_, rfl⟩ := hx) | (obtain ⟨_, _, _, rfl⟩ := hx))
         all_goals first | subst hy | (obtain ⟨_, rfl⟩ := hy) | (obtain ⟨_, _, _, rfl⟩ := hy) | (split at hy <;> first | subst hy | (obtain ⟨_, rfl⟩ := hy) | (obtain ⟨_, _, _, rfl⟩ := hy))
         all_goals (refine (fun (q : ∀ d, (Op.equalIn (d + 1) _ _ _).run _ _ = _) => q (d + 1)) fun d => ?_
                    simp [Op.equalIn, run_underlying hu])
       · cases h)
theorem xeq1_ok {t : TypeId} {x y : V} {a b : Value} {r : Bool} (h : xeq1 P t x y = some r) (hx : VR j x a) (hy : VR j y b) (d : Nat) (w : World) : (Op.equalIn (d + 2) t a b).run P w = .ok r w := by
  unfold xeq1 at h
  split at h
  · split at h
    · rename_i hu hk
      have hk := of_decide_eq_true hk
      subst hk
      injection h with h
      subst h
      simp only [VR] at hx hy
      subst hx; subst hy
      simp [Op.equalIn, run_underlying hu]
      exact Bool.eq_iff_iff.2 (by simp)
    · cases h
  · split at h
    · rename_i hu
      injection h with h
      subst h
      simp only [VR] at hx hy
      subst hx; subst hy
      simp only [Op.equalIn, Sem.run_bind, run_underlying hu, Result.andThen_ok, Sem.run_pure, beq_toListBytes, toList_eq, eqS_eq]
    · cases h
  · exact xeq_in h hx hy d w
theorem xeqF_ok {l m : List V} {xs ys : List Value} (d : Nat) (hx : VRs j l xs) (hy : VRs j m ys) (w : World) : ∀ {fs : List Field} {r : Bool}, xeqF P l m fs = some r → (Op.eqFields (d + 2) xs.toArray ys.toArray fs).run P w = .ok r w
  | [], r, h => by injection h with h; subst h; rfl
  | f :: fs, r, h => by
    unfold xeqF at h
    split at h
    · rename_i a b hn ha hb
      obtain ⟨y1, p1, q1⟩ := xpart_ok (P := P) ha hx w
      obtain ⟨y2, p2, q2⟩ := xpart_ok (P := P) hb hy w
      have hn : f.name ≠ "_" := by simpa using hn
      unfold Op.eqFields
      rw [if_pos hn]
      split at h
      · rename_i he
        have h1 := xeq1_ok he q1 q2 d w
        have ih := xeqF_ok d hx hy w h
        simp [p1, p2, h1, ih]
      · rename_i he
        have h1 := xeq1_ok he q1 q2 d w
        injection h with h
        subst h
        simp [p1, p2, h1]
      · cases h
    · cases h
theorem xeqS_ok {op : BinOp} {t : TypeId} {x y v : V} {a b : Value} (h : xeqS P op t x y = some v) (hx : VR j x a) (hy : VR j y b) (ox oy : Operand) :
    Pur P j (do eqGuard op t ox oy a b; binOp op t a b) v := by
  unfold xeqS at h
  split at h
  · rename_i fs l m hu
    split at h
    · rename_i r hg hp hr
      simp only [VR] at hx hy
      obtain ⟨xs, h1, rfl⟩ := hx
      obtain ⟨ys, h2, rfl⟩ := hy
      have hf : P.fieldsOf t = fs := by unfold Program.fieldsOf; rw [hu]
      intro w
      have he : (Op.equalIn 10000 t (.agg xs.toArray) (.agg ys.toArray)).run P w = .ok r w := by
        rw [run_equalIn_agg (P := P) w 9999 t _ _ (by rw [hf]; exact hu) hp, hf]
        exact xeqF_ok 9997 h1 h2 w hr
      split at h
      · injection h with h
        subst h
        exact ⟨.bool r, by simp only [Sem.run_bind, run_eqGuard_agg (P := P) w _ t ox oy _ _ hg, Result.andThen_ok, run_eql_struct (P := P) w, he], by simp only [VR]⟩
      · injection h with h
        subst h
        exact ⟨.bool (!r), by simp only [Sem.run_bind, run_eqGuard_agg (P := P) w _ t ox oy _ _ hg, Result.andThen_ok, run_neq_struct (P := P) w, he], by simp only [VR]⟩
      · cases h
    · cases h
  · cases h
theorem uStr_def (ta : Array TypeId) (ty : TypeId) (q : Option Addr) (k : Value) : Builtin.unsafeString_ ta ty #[.pointer q, k] = (do
    let n ← asInt k
    let some pt := ta[0]? | stuck "unsafe.String: no argument types"
    if n < 0 then runtimePanic (.error "unsafe.String: len out of range")
    if n > IntKind.i64.max then unsupported (.unsafePointer "String: a length above the largest int")
    match q with
    | none =>
      if n = 0 then pure (.string .empty)
      else runtimePanic (.error "unsafe.String: ptr is nil and len is not zero")
    | some a =>
      if n = 0 then pure (.string .empty)
      else if ← variablesAt a (← elemOf pt) n.toNat then do
        let s ← loadBytes a .empty n.toNat
        freeze a n.toNat
        pure (.string s)
      else unsupported (.unsafePointer "String: not so many bytes at ptr")) := rfl
theorem xuStr_ok {ta : Array TypeId} {ty pT : TypeId} {p k v : V} {a b : Value} (h : xuStr P G pT p k M n = some (v, M', n')) (c : Ctx G base n j M w) (ht : ta[0]? = some pT) (hp : VR j p a) (hk : VR j k b) : Good P G base n j M w (Builtin.unsafeString_ ta ty #[a, b]) v M' n' ∧ n' = n := by
  unfold xuStr at h
  split at h
  · rename_i e kk len hu
    simp only [VR] at hk
    subst hk
    split at h
    · split at h
      · rename_i po
        injection h with h
        injection h with e1 h
        injection h with e2 e3
        subst e1; subst e2; subst e3
        refine ⟨⟨.string ⟨#[]⟩, w, j, ?_, by simp only [VR], .refl c.rel _⟩, rfl⟩
        have : ∃ o, a = .pointer o := by
          cases po <;> simp only [VR] at hp
          · exact ⟨_, hp⟩
          · obtain ⟨l, _, e⟩ := hp; exact ⟨_, e⟩
        obtain ⟨o, rfl⟩ := this
        cases o <;> simp [uStr_def, asInt, asIntOf, ht] <;> rfl
      · cases h
    · rename_i len
      split at h
      · rename_i q he
        split at h
        · rename_i cs e' fz hM
          split at h
          · rename_i r hb hG hr hlen
            split at h
            · rename_i l hl
              simp only [Bool.and_eq_true] at hb
              obtain ⟨hb1, hb2⟩ := hb
              have hb1 := Nat.eq_of_beq_eq_true hb1
              subst hb1
              have hG := Nat.le_of_ble_eq_true hG
              have hlen := Nat.le_of_ble_eq_true hlen
              have hs : sizeQ P e' = some 1 := by split at hb2 <;> first | assumption | cases hb2
              injection h with h
              injection h with e1 h
              injection h with e2 e3
              subst e1; subst e2; subst e3
              simp only [VR] at hp
              obtain ⟨lc, h1, rfl⟩ := hp
              have hal : aload M q.1 q.2 (len + 1) = some r := by
                unfold aload
                rw [hM]
                simp only [tkF_eq, drF_eq]
                exact hr
              obtain ⟨l', k1, ys, k2, k3, k4⟩ := aload_at c.rel hal
              rw [h1] at k1
              injection k1 with k1
              subst k1
              obtain ⟨ns, rfl, rfl⟩ := bytesOf_ok hl k3
              obtain ⟨l2, k5, arr, fr, g1, g2, g3, g4⟩ := c.rel.ok _ _ hM
              rw [h1] at k5
              injection k5 with k5
              subst k5
              have hns : ns.length = len + 1 := by simpa using k2
              have hin : lc.d + q.2 + (len + 1) ≤ arr.size := by
                have := k4 len (.int .u8 (ns.getD len 0)) (by simp [List.getD_eq_getElem?_getD, hns])
                have hlt : lc.d + q.2 + len < arr.size := by
                  simp only [World.cell?, g1] at this
                  exact (Array.getElem?_eq_some_iff.1 (by simpa using this)).1
                omega
              have hva : (variablesAt ⟨lc.g, lc.d + q.2, none⟩ e' (len + 1)).run P w = .ok true w := by
                have hsh : w.shape? lc.g = some (e', arr.size) := by simp [World.shape?, g1]
                simp only [variablesAt, Sem.run_bind, run_program, run_shape, Result.andThen_ok, hsh, byte_row hs hin, Sem.run_pure]
              have hlb := loadBytes_ok (P := P) (w := w) lc.g (lc.d + q.2) ns 0 .empty fun k y hy => by rw [Nat.add_zero]; exact k4 k y hy
              rw [Nat.add_zero, hns, push_all] at hlb
              have hfr : (w.freeze ⟨lc.g, lc.d + q.2, none⟩ (len + 1)).heap[lc.g]? = some (.cells arr e' (if fr.1 = fr.2 then (lc.d + q.2, lc.d + q.2 + (len + 1)) else (min fr.1 (lc.d + q.2), max fr.2 (lc.d + q.2 + (len + 1))))) := by
                simp only [World.freeze, Nat.add_one_ne_zero, if_false, Array.getElem?_modify, if_true, g1, Option.map_some]
                obtain ⟨f1, f2⟩ := fr
                by_cases hf : f1 = f2 <;> simp [hf]
              refine ⟨⟨.string ⟨(ns.map fun n => UInt8.ofNat n.toNat).toArray⟩, w.freeze ⟨lc.g, lc.d + q.2, none⟩ (len + 1), j, ?_, by simp only [VR], ?_⟩, rfl⟩
              · have hmax : ¬ (((len + 1 : Nat) : Int) > IntKind.i64.max) := by
                  have : IntKind.i64.max = 9223372036854775807 := rfl
                  omega
                have hneg : ¬ (((len + 1 : Nat) : Int) < 0) := by omega
                have hz : ¬ (((len + 1 : Nat) : Int) = 0) := by omega
                have hel : (elemOf pT).run P w = .ok e' w := by simp [elemOf, run_underlying hu]
                have hi : (Int.ofNat (len + 1)) = ((len + 1 : Nat) : Int) := rfl
                simp only [uStr_def, asInt, asIntOf, Sem.run_bind, Sem.run_pure, Result.andThen_ok, ht, hi, hneg, hmax, hz, if_false, hel, Int.toNat_natCast, hva, if_true, hlb, run_freeze]
                congr 2
                apply ByteArray.ext
                simp
              · refine post_turn c.rel hM h1 hG rfl rfl rfl ?_ (fun g hg => ?_) ⟨arr, _, hfr, g2, g3, ?_⟩
                · simp [World.freeze]
                · simp only [World.freeze, Nat.add_one_ne_zero, if_false, Array.getElem?_modify]
                  rw [if_neg (Ne.symm hg)]
                · right
                  have m1 : fz ≤ Nat.max fz (q.2 + (len + 1)) := Nat.le_max_left fz (q.2 + (len + 1))
                  have m2 : q.2 + (len + 1) ≤ Nat.max fz (q.2 + (len + 1)) := Nat.le_max_right fz (q.2 + (len + 1))
                  split
                  · show lc.d + q.2 + (len + 1) ≤ lc.d + Nat.max fz (q.2 + (len + 1))
                    omega
                  · rename_i hne
                    rcases g4 with g4 | g4
                    · exact absurd g4 hne
                    · show Nat.max fr.2 (lc.d + q.2 + (len + 1)) ≤ lc.d + Nat.max fz (q.2 + (len + 1))
                      exact Nat.max_le.2 ⟨by omega, by omega⟩
            · cases h
          · cases h
        · cases h
      · cases h
  · cases h
end
end Eng
end Go.Proofs.YtjoinnjhpfakpaaGreatDoor
namespace Go.Proofs.YtjoinnjhpfakpaaGreatDoor
namespace Eng
open Go.RowKit

def keyM (P : Program) (kt : TypeId) (x : V) : Bool :=
  match P.underlying kt, x with
  | some (.array n e), .a l => (match P.underlying e, P.info? e with
    | some (.int _), some i => Nat.beq i.size 1 && Nat.beq l.length n
    | _, _ => false)
  | _, _ => false
def findM (P : Program) (kt : TypeId) (x : V) : List Ent → Nat → Option (Option (Nat × V))
  | [], _ => some none
  | e :: es, i => (match xeq P kt x e.k with
    | some true => some (some (i, e.v))
    | some false => findM P kt x es (i + 1)
    | none => none)
noncomputable def zeroM (P : Program) (t : TypeId) : Option V :=
  match P.info? t with
  | some i => (match i.zero with | some z => ofC z | none => none)
  | none => none
noncomputable def xlookupM (P : Program) (t : TypeId) (m x : V) (ok : Bool) (M : H) : Option V :=
  match P.underlying t, mapQ M m with
  | some (.map kt et), some (es, _) => (match keyM P kt x, findM P kt x es 0 with
    | true, some none => (match zeroM P et with | some v => some (match ok with | true => .t [v, .b false] | false => v) | none => none)
    | true, some (some (_, v)) => some (match ok with | true => .t [v, .b true] | false => v)
    | _, _ => none)
  | _, _ => none
noncomputable def xupdateM (P : Program) (G : Nat) (t : TypeId) (m x v : V) (M : H) : Option H :=
  match P.underlying t, m, mapQ M m with
  | some (.map kt _), .mp (some id), some (es, clk) => (match Nat.ble G id, keyM P kt x, findM P kt x es 0 with
    | true, true, some none => some (T.set 24 M id (some (.m (es ++ [⟨x, v, clk⟩]) (clk + 1))))
    | true, true, some (some (i, _)) => some (T.set 24 M id (some (.m (setE es i v) clk)))
    | _, _, _ => none)
  | _, _, _ => none
noncomputable def xmapLenM (P : Program) (t : TypeId) (m : V) (M : H) : Option V :=
  match P.underlying t, mapQ M m with
  | some (.map _ _), some (es, _) => some (.i .i64 (es.length : Int))
  | _, _ => none
noncomputable def xentryM (P : Program) (G : Nat) (t : TypeId) (m x : V) (M : H) : Option (V × H) :=
  match P.underlying t, m, mapQ M m with
  | some (.map kt et), .mp (some id), some (es, clk) => (match Nat.ble G id, keyM P kt x, findM P kt x es 0 with
    | true, true, some none => (match zeroM P et with
      | some z => some (.t [z, .i .i64 (clk : Int)], T.set 24 M id (some (.m (es ++ [⟨x, z, clk⟩]) (clk + 1))))
      | none => none)
    | true, true, some (some (i, v)) => (match es[i]? with
      | some e => some (.t [v, .i .i64 (e.born : Int)], T.set 24 M id (some (.m es clk)))
      | none => none)
    | _, _, _ => none)
  | _, _, _ => none
noncomputable def xentryStoreM (G : Nat) (m s v : V) (M : H) : Option H :=
  match m, mapQ M m, s with
  | .mp (some id), some (es, clk), .i _ b => (match Nat.ble G id, bornAt b es 0 with
    | true, some i => some (T.set 24 M id (some (.m (setE es i v) clk)))
    | _, _ => none)
  | _, _, _ => none
noncomputable def xdeleteM (P : Program) (G : Nat) (t : TypeId) (m x : V) (M : H) (n : Nat) : R :=
  match P.underlying t, m, mapQ M m with
  | some (.map kt _), .mp (some id), some (es, clk) => (match Nat.ble G id, keyM P kt x, findM P kt x es 0 with
    | true, true, some none => some (.t [], T.set 24 M id (some (.m es clk)), n)
    | true, true, some (some (i, _)) => some (.t [], T.set 24 M id (some (.m (delE es i) clk)), n)
    | _, _, _ => none)
  | _, _, _ => none

section
variable {P : Program} {G base n n' : Nat} {j j' : J} {M M' : H} {w w' : World}
theorem checkKey_arr {kt e : TypeId} {m : Nat} {k : IntKind} {i : TypeInfo} (hu : P.underlying kt = some (.array m e)) (he : P.underlying e = some (.int k)) (hi : P.info? e = some i) (h1 : i.size = 1) {xs : List Value} (hl : xs.length = m) (em : Bool) (d : Nat) (w : World) :
    (Instr.checkKey em (d + 2) kt (.agg xs.toArray)).run P w = .ok () w := by
  have hagg := run_isAgg_plain he rfl w
  have hp : ∀ q, q < m → ∃ y, (part e xs.toArray q).run P w = .ok y w := fun q hq => by
    have : ∃ y, xs[q]? = some y := ⟨xs[q]'(by omega), by simp⟩
    obtain ⟨y, hy⟩ := this
    exact ⟨y, by simp [part, hagg, hy]⟩
  have hcell : P.cellsOf e = 1 := by simp [Program.cellsOf, hi, h1]
  have step : ∀ y : Value, (Instr.checkKey em (d + 1) e y).run P w = .ok () w := fun y => by
    unfold Instr.checkKey
    simp only [Sem.run_bind, run_underlying he, Result.andThen_ok, Sem.run_pure]
  rw [show d + 2 = (d + 1) + 1 from rfl, Instr.checkKey]
  simp only [Sem.run_bind, run_underlying hu, Result.andThen_ok]
  simp only [Std.Legacy.Range.forIn_eq_forIn_range', Std.Legacy.Range.size, Nat.sub_zero, Nat.add_one_sub_one, Nat.div_one]
  have each : ∀ q ∈ List.range' 0 m, q < m := fun q hq => by
    have := List.mem_range'_1.1 hq
    omega
  generalize List.range' 0 m = is at each
  induction is with
  | nil => simp
  | cons q is ih =>
    obtain ⟨y, hy⟩ := hp q (each q (by simp))
    simp only [List.forIn_cons, Sem.run_bind, run_sizeOf w hi, Result.andThen_ok, hcell, Nat.mul_one, hy, step y, Sem.run_pure]
    exact ih (fun y hy => each y (by simp [hy]))
theorem keyM_ok {kt : TypeId} {x : V} {a : Value} (h : keyM P kt x = true) (hx : VR j x a) (em : Bool) (w : World) :
    (Instr.checkKey em 10000 kt a).run P w = .ok () w ∧ (match P.underlying kt with | some (.array _ _) | some (.struct _) => true | _ => false) = true := by
  unfold keyM at h
  split at h
  · rename_i m e l hu
    split at h
    · rename_i k i he hi
      simp only [Bool.and_eq_true] at h
      have h1 := Nat.eq_of_beq_eq_true h.1
      have h2 := Nat.eq_of_beq_eq_true h.2
      simp only [VR] at hx
      obtain ⟨xs, hxs, rfl⟩ := hx
      exact ⟨checkKey_arr hu he hi h1 (by rw [hxs.len, h2]) em 9998 w, by rw [hu]⟩
    · cases h
  · cases h
theorem findM_ok {kt : TypeId} {x : V} {a : Value} (hx : VR j x a) (w : World) : ∀ {es : List Ent} {ys : List MapEntry} {i : Nat} {r : Option (Nat × V)}, findM P kt x es i = some r → ER j es ys →
    ∃ r', (Instr.findAsking kt a ys i).run P w = .ok r' w ∧ (match r with | none => r' = none | some (k, v) => ∃ y, r' = some (k, y) ∧ VR j v y ∧ i ≤ k ∧ ∃ e, ys[k - i]? = some e ∧ y = e.val)
  | [], ys, i, r, h, he => by
    injection h with h
    subst h
    simp only [ER] at he
    subst he
    exact ⟨none, by simp [Instr.findAsking], rfl⟩
  | e :: es, ys, i, r, h, he => by
    simp only [ER] at he
    obtain ⟨y, zs, rfl, h1, h2, h3, h4⟩ := he
    unfold findM at h
    split at h
    · rename_i hq
      injection h with h
      subst h
      have := xeq_in hq hx h1 9998 w
      have hE : (Op.equal kt a y.key).run P w = .ok true w := this
      exact ⟨some (i, y.val), by simp [Instr.findAsking, hE], _, rfl, h2, Nat.le_refl _, y, by simp, rfl⟩
    · rename_i hq
      have hE : (Op.equal kt a y.key).run P w = .ok false w := xeq_in hq hx h1 9998 w
      obtain ⟨r', q1, q2⟩ := findM_ok hx w h h4
      refine ⟨r', by simp [Instr.findAsking, hE, q1], ?_⟩
      cases r with
      | none => exact q2
      | some p =>
        obtain ⟨z, e1, e2, e3, e4, e5, e6⟩ := q2
        refine ⟨z, e1, e2, by omega, e4, ?_, e6⟩
        rw [show p.1 - i = (p.1 - (i + 1)) + 1 by omega, List.getElem?_cons_succ]
        exact e5
    · cases h
theorem mapQ_ok {m : V} {a : Value} {es : List Ent} {clk : Nat} (h : mapQ M m = some (es, clk)) (c : Ctx G base n j M w) (hm : VR j m a) :
    (a = .map none ∧ es = []) ∨ ∃ id l arr, m = .mp (some id) ∧ a = .map (some l) ∧ M.get id = some (.m es clk) ∧ (∃ lc, j id = some lc ∧ lc.g = l) ∧ w.heap[l]? = some (.map arr clk) ∧ ER j es arr.toList := by
  unfold mapQ at h
  split at h
  · injection h with h
    injection h with h1 h2
    simp only [VR] at hm
    exact .inl ⟨hm, h1.symm⟩
  · rename_i id
    split at h
    · rename_i es' clk' hM
      injection h with h
      injection h with h1 h2
      subst h1; subst h2
      simp only [VR] at hm
      obtain ⟨lc, k1, rfl⟩ := hm
      obtain ⟨l2, k2, arr, k3, k4⟩ := c.rel.ok _ _ hM
      rw [k1] at k2
      injection k2 with k2
      subst k2
      exact .inr ⟨id, _, arr, rfl, rfl, hM, ⟨lc, k1, rfl⟩, k3, k4⟩
    · cases h
  · cases h
theorem look_run {t kt et : TypeId} {a b : Value} {ok : Bool} {ys : Array MapEntry} {r : Option (Nat × Value)} {p : Value × Bool} (hu : P.underlying t = some (.map kt et))
    (ha : (a = .map none ∧ ys = #[]) ∨ ∃ l clk, a = .map (some l) ∧ w.heap[l]? = some (.map ys clk)) (hck : ∀ em, (Instr.checkKey em 10000 kt b).run P w = .ok () w) (hf : (Instr.findKey kt b ys.toList).run P w = .ok r w)
    (hr : (r = none ∧ p.2 = false ∧ (zeroValue et).run P w = .ok p.1 w) ∨ ∃ k, r = some (k, p.1) ∧ p.2 = true) : (Instr.lookup t a b ok).run P w = .ok (if ok then .tuple #[p.1, .bool p.2] else p.1) w := by
  obtain ⟨p1, p2⟩ := p
  dsimp only at hr
  rcases ha with ⟨rfl, rfl⟩ | ⟨l, clk, rfl, hh⟩
  · rcases hr with ⟨rfl, rfl, hz⟩ | ⟨k, rfl, rfl⟩
    · simp [Instr.lookup, run_underlying hu, hck, hf, hz]
    · simp at hf
      simp [Instr.lookup, run_underlying hu, hck, hf]
  · rcases hr with ⟨rfl, rfl, hz⟩ | ⟨k, rfl, rfl⟩
    · simp [Instr.lookup, run_underlying hu, hck, hf, hz, Go.MapKept.run_getObj_map hh]
    · simp [Instr.lookup, run_underlying hu, hck, hf, Go.MapKept.run_getObj_map hh]
theorem zeroM_ok {t : TypeId} {v : V} (h : zeroM P t = some v) (w : World) : ∃ y, (zeroValue t).run P w = .ok y w ∧ VR j v y := by
  unfold zeroM at h
  split at h
  · rename_i i hi
    split at h
    · rename_i z hz
      exact ⟨z, run_zero hi hz w, ofC_rel j _ _ h⟩
    · cases h
  · cases h
theorem find_run {kt : TypeId} {m x : V} {a b : Value} {es : List Ent} {clk : Nat} {r : Option (Nat × V)} (hq : mapQ M m = some (es, clk)) (hk : keyM P kt x = true) (hf : findM P kt x es 0 = some r) (c : Ctx G base n j M w) (hm : VR j m a) (hx : VR j x b) :
    ∃ ys : Array MapEntry, ((a = .map none ∧ ys = #[]) ∨ ∃ l clk, a = .map (some l) ∧ w.heap[l]? = some (.map ys clk)) ∧ ER j es ys.toList ∧ ∃ r', (Instr.findKey kt b ys.toList).run P w = .ok r' w ∧ (match r with | none => r' = none | some (k, v) => ∃ y, r' = some (k, y) ∧ VR j v y) := by
  obtain ⟨_, hw⟩ := keyM_ok hk hx true w
  rcases mapQ_ok hq c hm with ⟨rfl, rfl⟩ | ⟨id, l, arr, rfl, rfl, hM, _, hh, he⟩
  · obtain ⟨r', q1, q2⟩ := findM_ok hx w hf (ys := []) (by simp only [ER])
    refine ⟨#[], .inl ⟨rfl, rfl⟩, by simp only [ER], r', by rw [run_findKey_eq (P := P) w hw]; exact q1, ?_⟩
    cases r with
    | none => exact q2
    | some p => obtain ⟨y, e1, e2, _⟩ := q2; exact ⟨y, e1, e2⟩
  · obtain ⟨r', q1, q2⟩ := findM_ok hx w hf he
    refine ⟨arr, .inr ⟨l, clk, rfl, hh⟩, he, r', by rw [run_findKey_eq (P := P) w hw]; exact q1, ?_⟩
    cases r with
    | none => exact q2
    | some p => obtain ⟨y, e1, e2, _⟩ := q2; exact ⟨y, e1, e2⟩
theorem fin_ok {ok f : Bool} {y : Value} {u : V} (hy : VR j u y) : VR j (match ok with | true => .t [u, .b f] | false => u) (if ok then .tuple #[y, .bool f] else y) := by
  cases ok
  · exact hy
  · simp only [VR, VRs, if_true]
    exact ⟨[y, .bool f], ⟨y, [.bool f], hy, ⟨.bool f, [], rfl, rfl, rfl⟩, rfl⟩, rfl⟩
theorem xlookupM_ok {t : TypeId} {m x v : V} {a b : Value} {ok : Bool} (h : xlookupM P t m x ok M = some v) (c : Ctx G base n j M w) (hm : VR j m a) (hx : VR j x b) : ∃ y, (Instr.lookup t a b ok).run P w = .ok y w ∧ VR j v y := by
  unfold xlookupM at h
  split at h
  · rename_i kt et es clk hu hq
    split at h
    · rename_i hk hf
      obtain ⟨ys, k0, _, r', k2, k3⟩ := find_run hq hk hf c hm hx
      dsimp only at k3
      split at h
      · rename_i z hz
        injection h with h
        subst h
        obtain ⟨y, g1, g2⟩ := zeroM_ok (P := P) (j := j) hz w
        exact ⟨_, look_run (p := (y, false)) hu k0 (fun em => (keyM_ok hk hx em w).1) k2 (.inl ⟨k3, rfl, g1⟩), fin_ok g2⟩
      · cases h
    · rename_i k u hk hf
      obtain ⟨ys, k0, _, r', k2, k3⟩ := find_run hq hk hf c hm hx
      obtain ⟨y, e1, e2⟩ := k3
      injection h with h
      subst h
      exact ⟨_, look_run (p := (y, true)) hu k0 (fun em => (keyM_ok hk hx em w).1) k2 (.inr ⟨_, e1, rfl⟩), fin_ok e2⟩
    · cases h
  · cases h
theorem ER.len : ∀ {es : List Ent} {ys : List MapEntry}, ER j es ys → ys.length = es.length
  | [], _, h => by simp only [ER] at h; subst h; rfl
  | e :: es, _, h => by
    simp only [ER] at h
    obtain ⟨y, zs, rfl, _, _, _, h⟩ := h
    simp [ER.len h]
theorem ER.app : ∀ {es fs : List Ent} {ys zs : List MapEntry}, ER j es ys → ER j fs zs → ER j (es ++ fs) (ys ++ zs)
  | [], _, _, _, h, k => by simp only [ER] at h; subst h; exact k
  | e :: es, fs, _, zs, h, k => by
    simp only [ER] at h
    obtain ⟨y, ws, rfl, h1, h2, h3, h4⟩ := h
    exact ⟨y, ws ++ zs, rfl, h1, h2, h3, ER.app h4 k⟩
theorem ER.setE : ∀ {es : List Ent} {ys : List MapEntry} {i : Nat} {v : V} {y : Value}, ER j es ys → VR j v y → ER j (setE es i v) (ys.modify i fun e => { e with val := y })
  | [], _, _, _, _, h, _ => by simp only [ER] at h; subst h; cases ‹Nat› <;> simp [Eng.setE, ER]
  | e :: es, _, 0, v, y, h, hv => by
    simp only [ER] at h
    obtain ⟨z, zs, rfl, h1, h2, h3, h4⟩ := h
    exact ⟨{ z with val := y }, zs, rfl, h1, hv, h3, h4⟩
  | e :: es, _, i + 1, v, y, h, hv => by
    simp only [ER] at h
    obtain ⟨z, zs, rfl, h1, h2, h3, h4⟩ := h
    exact ⟨z, zs.modify i fun e => { e with val := y }, rfl, h1, h2, h3, ER.setE h4 hv⟩
theorem ER.at_ : ∀ {es : List Ent} {ys : List MapEntry} {i : Nat} {e : Ent}, ER j es ys → es[i]? = some e → ∃ y, ys[i]? = some y ∧ VR j e.k y.key ∧ VR j e.v y.val ∧ y.born = e.born
  | [], _, _, _, _, h => by simp at h
  | e :: es, _, 0, _, h, k => by
    simp only [ER] at h
    obtain ⟨z, zs, rfl, h1, h2, h3, h4⟩ := h
    simp only [List.getElem?_cons_zero, Option.some.injEq] at k
    subst k
    exact ⟨z, rfl, h1, h2, h3⟩
  | e :: es, _, i + 1, _, h, k => by
    simp only [ER] at h
    obtain ⟨z, zs, rfl, h1, h2, h3, h4⟩ := h
    simp only [List.getElem?_cons_succ] at k ⊢
    exact ER.at_ h4 k
theorem findM_key {kt : TypeId} {x : V} : ∀ {es : List Ent} {i k : Nat} {v : V}, findM P kt x es i = some (some (k, v)) → i ≤ k ∧ ∃ e, es[k - i]? = some e ∧ xeq P kt x e.k = some true
  | [], _, _, _, h => by simp [findM] at h
  | e :: es, i, k, v, h => by
    unfold findM at h
    split at h
    · rename_i hq
      injection h with h
      injection h with h
      injection h with h1 h2
      subst h1
      exact ⟨Nat.le_refl _, e, by simp, hq⟩
    · obtain ⟨h1, e', h2, h3⟩ := findM_key h
      exact ⟨by omega, e', by rw [show k - i = (k - (i + 1)) + 1 by omega, List.getElem?_cons_succ]; exact h2, h3⟩
    · cases h
theorem eqI_same {k : IntKind} : ∀ {l m : List V} {xs ys : List Value}, eqI k l m = some true → VRs j l xs → VRs j m ys → xs = ys ∧ ∀ q, (xs.zip xs).all (fun (p : Value × Value) => Instr.sameBits (q + 1) p.1 p.2) = true
  | [], [], xs, ys, _, hx, hy => by simp only [VRs] at hx hy; subst hx; subst hy; exact ⟨rfl, fun q => rfl⟩
  | [], _ :: _, _, _, h, _, _ => by simp [eqI] at h
  | x :: l, m, xs, ys, h, hx, hy => by
    cases m with
    | nil => cases x <;> simp [eqI] at h
    | cons y m =>
      cases x with
      | i k1 a =>
        cases y with
        | i k2 b =>
          simp only [eqI] at h
          split at h
          · rename_i c1 c2
            have c1 := of_decide_eq_true c1
            have c2 := of_decide_eq_true c2
            subst c1; subst c2
            split at h
            · rename_i c3
              have c3 := of_decide_eq_true c3
              subst c3
              simp only [VRs, VR] at hx hy
              obtain ⟨z1, xs, rfl, h1, rfl⟩ := hx
              obtain ⟨z2, ys, rfl, h2, rfl⟩ := hy
              obtain ⟨rfl, h3⟩ := eqI_same h h1 h2
              exact ⟨rfl, fun q => by simp only [List.zip_cons_cons, List.all_cons, h3 q, Instr.sameBits, beq_self_eq_true, Bool.and_self]⟩
            · cases h
          · cases h
        | _ => simp [eqI] at h
      | _ => simp [eqI] at h
theorem keyM_same {kt : TypeId} {x y : V} {a b : Value} (hk : keyM P kt x = true) (h : xeq P kt x y = some true) (hx : VR j x a) (hy : VR j y b) : a = b ∧ Instr.sameBits 10000 a a = true := by
  unfold keyM at hk
  split at hk
  · rename_i m e l hu
    cases y with
    | a m' =>
      unfold xeq at h
      simp only [hu] at h
      split at h
      · split at h
        · simp only [VR] at hx hy
          obtain ⟨xs, h1, rfl⟩ := hx
          obtain ⟨ys, h2, rfl⟩ := hy
          obtain ⟨rfl, h3⟩ := eqI_same h h1 h2
          refine ⟨rfl, ?_⟩
          have := h3 9998
          unfold Instr.sameBits
          simpa using this
        · cases h
      · cases h
    | _ => simp [xeq] at h
  · cases hk
theorem xupdateM_ok {t : TypeId} {m x v : V} {a b y : Value} (h : xupdateM P G t m x v M = some M') (c : Ctx G base n j M w) (hm : VR j m a) (hx : VR j x b) (hv : VR j v y) : ∃ w', (Instr.mapUpdate t a b y).run P w = .ok () w' ∧ Post G base n n j M w j M' w' := by
  unfold xupdateM at h
  split at h
  · rename_i kt et id es clk hu hq
    have hq' := hq
    rcases mapQ_ok hq c hm with ⟨rfl, _⟩ | ⟨id', l, arr, hid, rfl, hM, ⟨lc, hlc, rfl⟩, hh, he⟩
    · simp only [VR] at hm
      obtain ⟨_, _, hm⟩ := hm
      cases hm
    · injection hid with hid
      injection hid with hid
      subst hid
      have turn : ∀ (o : Array MapEntry) (es' : List Ent) (clk' : Nat), G ≤ id → ER j es' o.toList → Post G base n n j M w j (T.set 24 M id (some (.m es' clk'))) { w with heap := w.heap.setIfInBounds lc.g (.map o clk') } := fun o es' clk' hG hE => by
        have := Go.MapKept.heap_set (o' := .map o clk') hh
        exact post_turn c.rel hM hlc hG rfl rfl rfl (by simp) (fun g hg => this.2 g hg) ⟨o, this.1, hE⟩
      split at h
      · rename_i hG hk hf
        have hG := Nat.le_of_ble_eq_true hG
        injection h with h
        subst h
        obtain ⟨hck, hw⟩ := keyM_ok hk hx false w
        obtain ⟨r', q1, q2⟩ := findM_ok hx w hf he
        dsimp only at q2
        subst q2
        refine ⟨_, ?_, turn (arr.push ⟨b, y, clk⟩) _ (clk + 1) hG ?_⟩
        · simp [Instr.mapUpdate, run_underlying hu, Go.MapKept.run_getObj_map hh, hck, run_findKey_eq (P := P) w hw, q1, Go.MapKept.run_setObj_map _ hh]
        · rw [Array.toList_push]
          exact he.app ⟨⟨b, y, clk⟩, [], rfl, hx, hv, rfl, rfl⟩
      · rename_i i u hG hk hf
        have hG := Nat.le_of_ble_eq_true hG
        injection h with h
        subst h
        obtain ⟨hck, hw⟩ := keyM_ok hk hx false w
        obtain ⟨r', q1, q2⟩ := findM_ok hx w hf he
        obtain ⟨z, rfl, _⟩ := q2
        obtain ⟨_, e, g1, g2⟩ := findM_key hf
        obtain ⟨ye, g3, g4, _⟩ := he.at_ g1
        obtain ⟨rfl, g5⟩ := keyM_same hk g2 hx g4
        rw [Nat.sub_zero] at g3
        have g6 : arr[i]? = some ye := by simpa using g3
        refine ⟨_, ?_, turn (arr.modify i fun e => { e with key := ye.key, val := y }) _ clk hG ?_⟩
        · simp [Instr.mapUpdate, run_underlying hu, Go.MapKept.run_getObj_map hh, hck, run_findKey_eq (P := P) w hw, q1, g6, Instr.keyThatStays, g5, Go.MapKept.run_setObj_map _ hh]
        · have := ER.setE (i := i) he hv
          have e2 : (arr.modify i fun e => { e with key := ye.key, val := y }).toList = arr.toList.modify i fun e => { e with val := y } := by
            rw [Array.toList_modify]
            apply List.ext_getElem?
            intro q
            simp only [List.getElem?_modify]
            by_cases hqi : i = q
            · subst hqi
              simp [g6]
            · simp [hqi]
          rw [e2]
          exact this
      · cases h
  · cases h
theorem xmapLenM_ok {t ty : TypeId} {m v : V} {a : Value} (h : xmapLenM P t m M = some v) (c : Ctx G base n j M w) (hm : VR j m a) : ∃ y, (Builtin.len_ #[t] ty #[a]).run P w = .ok y w ∧ VR j v y := by
  unfold xmapLenM at h
  split at h
  · rename_i kt et es clk hu hq
    injection h with h
    subst h
    rcases mapQ_ok hq c hm with ⟨rfl, rfl⟩ | ⟨id', l, arr, hid, rfl, hM, _, hh, he⟩
    · exact ⟨.int .i64 0, by simp [Builtin.len_, run_underlying hu, goInt], by simp only [VR]; rfl⟩
    · exact ⟨.int .i64 arr.size, by simp [Builtin.len_, run_underlying hu, goInt, Go.MapKept.run_getObj_map hh], by simp only [VR]; rw [← he.len]; rfl⟩
  · cases h
theorem turnM {id : Nat} {lc : Loc} {arr : Array MapEntry} {es : List Ent} {clk : Nat} (c : Ctx G base n j M w) (hM : M.get id = some (.m es clk)) (hlc : j id = some lc) (hh : w.heap[lc.g]? = some (.map arr clk)) (hG : G ≤ id) (o : Array MapEntry) (es' : List Ent) (clk' : Nat) (hE : ER j es' o.toList) :
    Post G base n n j M w j (T.set 24 M id (some (.m es' clk'))) { w with heap := w.heap.setIfInBounds lc.g (.map o clk') } := by
  have := Go.MapKept.heap_set (o' := .map o clk') hh
  exact post_turn c.rel hM hlc hG rfl rfl rfl (by simp) (fun g hg => this.2 g hg) ⟨o, this.1, hE⟩
theorem modKey {arr : Array MapEntry} {i : Nat} {ye : MapEntry} (g6 : arr[i]? = some ye) : (arr.modify i fun e => { e with key := ye.key }) = arr := by
  apply Array.ext_getElem?
  intro q
  simp only [Array.getElem?_modify]
  by_cases hqi : i = q
  · subst hqi
    simp [g6]
  · simp [hqi]
theorem xentryM_ok {t : TypeId} {m x v : V} {a b : Value} (h : xentryM P G t m x M = some (v, M')) (c : Ctx G base n j M w) (hm : VR j m a) (hx : VR j x b) : Good P G base n j M w (Instr.mapEntry t a b) v M' n := by
  unfold xentryM at h
  split at h
  · rename_i kt et id es clk hu hq
    rcases mapQ_ok hq c hm with ⟨rfl, _⟩ | ⟨id', l, arr, hid, rfl, hM, ⟨lc, hlc, rfl⟩, hh, he⟩
    · simp only [VR] at hm
      obtain ⟨_, _, hm⟩ := hm
      cases hm
    · injection hid with hid
      injection hid with hid
      subst hid
      split at h
      · rename_i hG hk hf
        have hG := Nat.le_of_ble_eq_true hG
        split at h
        · rename_i z hz
          injection h with h
          injection h with e1 e2
          subst e1; subst e2
          obtain ⟨y, z1, z2⟩ := zeroM_ok (P := P) (j := j) hz w
          obtain ⟨hck, hw⟩ := keyM_ok hk hx false w
          obtain ⟨r', q1, q2⟩ := findM_ok hx w hf he
          dsimp only at q2
          subst q2
          refine ⟨.tuple #[y, .int .i64 clk], _, j, ?_, ?_, turnM c hM hlc hh hG (arr.push ⟨b, y, clk⟩) _ (clk + 1) ?_⟩
          · simp [Instr.mapEntry, run_underlying hu, Go.MapKept.run_getObj_map hh, hck, run_findKey_eq (P := P) w hw, q1, z1, Go.MapKept.run_setObj_map _ hh, goInt]
          · simp only [VR, VRs]
            exact ⟨_, ⟨y, _, z2, ⟨_, [], rfl, rfl, rfl⟩, rfl⟩, rfl⟩
          · rw [Array.toList_push]
            exact he.app ⟨⟨b, y, clk⟩, [], rfl, hx, z2, rfl, rfl⟩
        · cases h
      · rename_i i u hG hk hf
        have hG := Nat.le_of_ble_eq_true hG
        split at h
        · rename_i e' he'
          injection h with h
          injection h with e1 e2
          subst e1; subst e2
          obtain ⟨hck, hw⟩ := keyM_ok hk hx false w
          obtain ⟨r', q1, q2⟩ := findM_ok hx w hf he
          obtain ⟨z, rfl, hz, _⟩ := q2
          obtain ⟨_, e, g1, g2⟩ := findM_key hf
          obtain ⟨ye, g3, g4, _, g7⟩ := he.at_ g1
          obtain ⟨rfl, g5⟩ := keyM_same hk g2 hx g4
          rw [Nat.sub_zero] at g3 g1
          rw [he'] at g1
          injection g1 with g1
          subst g1
          have g6 : arr[i]? = some ye := by simpa using g3
          have hs : w.heap.setIfInBounds lc.g (.map arr clk) = w.heap.setIfInBounds lc.g (.map (arr.modify i fun e => { e with key := ye.key }) clk) := by rw [modKey g6]
          refine ⟨.tuple #[z, .int .i64 e'.born], _, j, ?_, ?_, turnM c hM hlc hh hG arr es clk he⟩
          · rw [hs]
            simp [Instr.mapEntry, run_underlying hu, Go.MapKept.run_getObj_map hh, hck, run_findKey_eq (P := P) w hw, q1, g6, Instr.keyThatStays, g5, Go.MapKept.run_setObj_map _ hh, goInt, g7]
          · simp only [VR, VRs]
            exact ⟨_, ⟨z, _, hz, ⟨_, [], rfl, rfl, rfl⟩, rfl⟩, rfl⟩
        · cases h
      · cases h
  · cases h
theorem bornAt_ok {b : Int} : ∀ {es : List Ent} {ys : List MapEntry} {i k : Nat}, bornAt b es i = some k → ER j es ys → i ≤ k ∧ ys.findIdx? (fun e => (e.born : Int) == b) = some (k - i)
  | [], _, _, _, h, _ => by simp [bornAt] at h
  | e :: es, _, i, k, h, he => by
    simp only [ER] at he
    obtain ⟨y, zs, rfl, _, _, h3, h4⟩ := he
    unfold bornAt at h
    split at h
    · rename_i hb
      have hb := of_decide_eq_true hb
      injection h with h
      subst h
      refine ⟨Nat.le_refl _, ?_⟩
      rw [List.findIdx?_cons]
      simp [h3, hb]
    · rename_i hb
      have hb := of_decide_eq_false hb
      obtain ⟨q1, q2⟩ := bornAt_ok h h4
      refine ⟨by omega, ?_⟩
      rw [List.findIdx?_cons, q2]
      simp [h3, hb]
      omega
theorem xentryStoreM_ok {t : TypeId} {m s v : V} {a b y : Value} (h : xentryStoreM G m s v M = some M') (c : Ctx G base n j M w) (hm : VR j m a) (hs : VR j s b) (hv : VR j v y) : ∃ w', (Instr.entryStore t a b y).run P w = .ok () w' ∧ Post G base n n j M w j M' w' := by
  unfold xentryStoreM at h
  split at h
  · rename_i id es clk k0 bb hq
    rcases mapQ_ok hq c hm with ⟨rfl, _⟩ | ⟨id', l, arr, hid, rfl, hM, ⟨lc, hlc, rfl⟩, hh, he⟩
    · simp only [VR] at hm
      obtain ⟨_, _, hm⟩ := hm
      cases hm
    · injection hid with hid
      injection hid with hid
      subst hid
      split at h
      · rename_i i hG hb
        have hG := Nat.le_of_ble_eq_true hG
        injection h with h
        subst h
        simp only [VR] at hs
        subst hs
        obtain ⟨_, g1⟩ := bornAt_ok hb he
        rw [Nat.sub_zero] at g1
        have g2 : arr.findIdx? (fun e => (e.born : Int) == bb) = some i := by cases arr; simpa using g1
        refine ⟨_, ?_, turnM c hM hlc hh hG (arr.modify i fun e => { e with val := y }) _ clk ?_⟩
        · simp [Instr.entryStore, Go.MapKept.run_getObj_map hh, asInt, asIntOf, g2, Go.MapKept.run_setObj_map _ hh]
        · rw [Array.toList_modify]
          exact ER.setE he hv
      · cases h
  · cases h
theorem ER.delE : ∀ {es : List Ent} {ys : List MapEntry} {i : Nat}, ER j es ys → ER j (delE es i) (ys.eraseIdx i)
  | [], _, _, h => by simp only [ER] at h; subst h; cases ‹Nat› <;> simp [Eng.delE, ER]
  | e :: es, _, 0, h => by
    simp only [ER] at h
    obtain ⟨z, zs, rfl, h1, h2, h3, h4⟩ := h
    exact h4
  | e :: es, _, i + 1, h => by
    simp only [ER] at h
    obtain ⟨z, zs, rfl, h1, h2, h3, h4⟩ := h
    exact ⟨z, zs.eraseIdx i, rfl, h1, h2, h3, ER.delE h4⟩
theorem xdeleteM_ok {t t2 ty : TypeId} {m x v : V} {a b : Value} (h : xdeleteM P G t m x M n = some (v, M', n')) (c : Ctx G base n j M w) (hm : VR j m a) (hx : VR j x b) : Good P G base n j M w (Builtin.delete_ #[t, t2] ty #[a, b]) v M' n' ∧ n' = n := by
  unfold xdeleteM at h
  split at h
  · rename_i kt et id es clk hu hq
    rcases mapQ_ok hq c hm with ⟨rfl, _⟩ | ⟨id', l, arr, hid, rfl, hM, ⟨lc, hlc, rfl⟩, hh, he⟩
    · simp only [VR] at hm
      obtain ⟨_, _, hm⟩ := hm
      cases hm
    · injection hid with hid
      injection hid with hid
      subst hid
      split at h
      · rename_i hG hk hf
        have hG := Nat.le_of_ble_eq_true hG
        injection h with h
        injection h with e1 h
        injection h with e2 e3
        subst e1; subst e2; subst e3
        have hw := (keyM_ok hk hx false w).2
        obtain ⟨r', q1, q2⟩ := findM_ok hx w hf he
        dsimp only at q2
        subst q2
        refine ⟨⟨.tuple #[], _, j, ?_, by simp only [VR, VRs]; exact ⟨[], rfl, rfl⟩, turnM c hM hlc hh hG arr es clk he⟩, rfl⟩
        simp [Builtin.delete_, run_underlying hu, Go.MapKept.run_getObj_map hh, (keyM_ok hk hx _ w).1, run_findKey_eq (P := P) w hw, q1, Go.MapKept.run_setObj_map _ hh]
      · rename_i i u hG hk hf
        have hG := Nat.le_of_ble_eq_true hG
        injection h with h
        injection h with e1 h
        injection h with e2 e3
        subst e1; subst e2; subst e3
        have hw := (keyM_ok hk hx false w).2
        obtain ⟨r', q1, q2⟩ := findM_ok hx w hf he
        obtain ⟨z, rfl, _⟩ := q2
        refine ⟨⟨.tuple #[], _, j, ?_, by simp only [VR, VRs]; exact ⟨[], rfl, rfl⟩, turnM c hM hlc hh hG (arr.eraseIdxIfInBounds i) (delE es i) clk ?_⟩, rfl⟩
        · simp [Builtin.delete_, run_underlying hu, Go.MapKept.run_getObj_map hh, (keyM_ok hk hx _ w).1, run_findKey_eq (P := P) w hw, q1, Go.MapKept.run_setObj_map _ hh]
        · rw [Array.toList_eraseIdxIfInBounds]
          exact ER.delE he
      · cases h
  · cases h
end
end Eng
end Go.Proofs.YtjoinnjhpfakpaaGreatDoor
namespace Go.Proofs.YtjoinnjhpfakpaaGreatDoor
namespace Eng
open Go.RowKit

noncomputable def xrange (P : Program) (t : TypeId) (x : V) (M : H) (n : Nat) : R :=
  match P.underlying t, x with
  | some (.map _ _), .mp none => new M n (.it none 0 [] 0) (.p (some (n, 0)))
  | some (.map _ _), .mp (some id) => (match M.get id with
    | some (.m _ clk) => new M n (.it (some id) clk [] clk) (.p (some (n, 0)))
    | _ => none)
  | _, _ => none
def inB (k : Nat) : List Nat → Bool
  | [] => false
  | x :: xs => Nat.beq k x || inB k xs
def leftE (seen : List Nat) (since : Nat) (old : Bool) : List Ent → List Ent
  | [] => []
  | e :: es => (match inB e.born seen, Nat.blt e.born since == old with
    | false, true => e :: leftE seen since old es
    | _, _ => leftE seen since old es)
def allNew (last : Nat) : List Ent → Bool
  | [] => true
  | e :: es => Nat.ble last e.born && allNew last es
def goneE (seen : List Nat) (last : Nat) (es : List Ent) : Bool :=
  match seen, es with
  | [], _ => false
  | _, [] => false
  | _ :: _, e :: es => allNew last (e :: es)
noncomputable def xnextM (G : Nat) (v : V) (M : H) : Option (V × H) :=
  match v with
  | .p (some (id, 0)) => (match M.get id, Nat.ble G id with
    | some (.it none s l c), true => some (.t [.b false], T.set 24 M id (some (.it none s l c)))
    | some (.it (some m) since seen last), true => (match M.get m with
      | some (.m es clk) => (match goneE seen last es, leftE seen since true es, leftE seen since false es with
        | false, [], [] => some (.t [.b false], T.set 24 M id (some (.it (some m) since seen last)))
        | false, [e], [] => some (.t [.b true, e.k, e.v], T.set 24 M id (some (.it (some m) since (seen ++ [e.born]) clk)))
        | _, _, _ => none)
      | _ => none)
    | _, _ => none)
  | _ => none

def findN (s : Nat) : List Ent → Option Ent
  | [] => none
  | e :: es => (match Nat.beq e.born s with | true => some e | false => findN s es)
/-- What the last step of a walk came to. -/
noncomputable def xcurM (v : V) (M : H) : Option V :=
  match v with
  | .p (some (id, 0)) => (match M.get id with
    | some (.it (some m) _ seen last) => (match M.get m, seen.getLast? with
      | some (.m es clk), some s => (match Nat.beq clk last, findN s es with | true, some e => some (.t [e.k, e.v]) | _, _ => none)
      | _, _ => none)
    | _ => none)
  | _ => none

section
variable {P : Program} {G base n n' : Nat} {j j' : J} {M M' : H} {w w' : World}
theorem xrange_ok {t : TypeId} {x v : V} {a : Value} (h : xrange P t x M n = some (v, M', n')) (c : Ctx G base n j M w) (hf : Free n n' j) (hx : VR j x a) : Good P G base n j M w (Instr.range t a) v M' n' := by
  unfold xrange at h
  split at h
  · rename_i kt et hu
    obtain ⟨rfl, h⟩ := new_eq h
    injection h with h
    injection h with _ h
    injection h with h1 h2
    subst h1; subst h2
    simp only [VR] at hx
    subst hx
    refine ⟨.pointer (some ⟨w.heap.size, 0, none⟩), w.alloc (.mapIter none 0 #[] 0), _, by simp [Instr.range, run_underlying hu], ?_, post_new (d := 0) (lim := 0) c.rel (fun _ _ hb => T.set_get (f := 24) hb) (hf n (Nat.le_refl _) (by omega)) c.g c.base ⟨rfl, none, ?_, rfl⟩⟩
    · simp only [VR]; exact ⟨_, J.put_at _ _ _, rfl⟩
    · show (w.heap.push _)[w.heap.size]? = _
      simp
  · rename_i kt et id hu
    split at h
    · rename_i es clk hM
      obtain ⟨rfl, h⟩ := new_eq h
      injection h with h
      injection h with _ h
      injection h with h1 h2
      subst h1; subst h2
      simp only [VR] at hx
      obtain ⟨l, hl, rfl⟩ := hx
      obtain ⟨l', k1, arr, k2, k3⟩ := c.rel.ok id _ hM
      rw [hl] at k1
      injection k1 with k1
      subst k1
      refine ⟨.pointer (some ⟨w.heap.size, 0, none⟩), w.alloc (.mapIter (some l.g) clk #[] clk), _, by simp [Instr.range, run_underlying hu, Go.MapKept.run_getObj_map k2], ?_, post_new (d := 0) (lim := 0) c.rel (fun _ _ hb => T.set_get (f := 24) hb) (hf n (Nat.le_refl _) (by omega)) c.g c.base ⟨rfl, some l.g, ?_, l, ?_, rfl⟩⟩
      · simp only [VR]; exact ⟨_, J.put_at _ _ _, rfl⟩
      · show (w.heap.push _)[w.heap.size]? = _
        simp
      · exact J.put_le (hf n (Nat.le_refl _) (by omega)) _ _ hl
    · cases h
  · cases h
theorem inB_eq (k : Nat) : ∀ l : List Nat, inB k l = l.contains k
  | [] => rfl
  | x :: xs => by
    have : Nat.beq k x = (k == x) := by rw [Bool.eq_iff_iff, Nat.beq_eq, beq_iff_eq]
    simp only [inB, List.contains_cons, inB_eq k xs, this]
theorem leftE_ok {seen : List Nat} {since : Nat} : ∀ {es : List Ent} {ys : List MapEntry}, ER j es ys →
    ER j (leftE seen since true es) ((ys.filter fun e => !seen.contains e.born).filter fun e => decide (e.born < since)) ∧ ER j (leftE seen since false es) ((ys.filter fun e => !seen.contains e.born).filter fun e => decide (e.born ≥ since))
  | [], ys, h => by
    simp only [ER] at h
    subst h
    exact ⟨rfl, rfl⟩
  | e :: es, ys, h => by
    simp only [ER] at h
    obtain ⟨y, zs, rfl, h1, h2, h3, h4⟩ := h
    obtain ⟨k1, k2⟩ := leftE_ok (seen := seen) (since := since) h4
    have hk : ∀ b, (Nat.blt e.born since == b) = (decide (e.born < since) == b) := fun b => by
      have : Nat.blt e.born since = decide (e.born < since) := by rw [Bool.eq_iff_iff, Nat.blt_eq, decide_eq_true_iff]
      rw [this]
    simp only [leftE, inB_eq, hk, List.filter_cons, h3]
    by_cases hs : seen.contains e.born = true
    · simp only [hs, Bool.not_true, Bool.false_eq_true, if_false]
      exact ⟨k1, k2⟩
    · have hs' : seen.contains e.born = false := by simpa using hs
      by_cases hl : e.born < since
      · have hge : ¬ (e.born ≥ since) := by omega
        simp only [hs', Bool.not_false, if_true, List.filter_cons, h3, hl, decide_true, hge, decide_false, Bool.false_eq_true, if_false]
        exact ⟨⟨y, _, rfl, h1, h2, h3, k1⟩, k2⟩
      · have hge : e.born ≥ since := by omega
        simp only [hs', Bool.not_false, if_true, List.filter_cons, h3, hl, decide_false, hge, decide_true, Bool.false_eq_true, if_false]
        exact ⟨k1, ⟨y, _, rfl, h1, h2, h3, k2⟩⟩
theorem allNew_ok {last : Nat} : ∀ {es : List Ent} {ys : List MapEntry}, ER j es ys → (ys.all fun e => decide (e.born ≥ last)) = allNew last es
  | [], ys, h => by
    simp only [ER] at h
    subst h
    rfl
  | e :: es, ys, h => by
    simp only [ER] at h
    obtain ⟨y, zs, rfl, h1, h2, h3, h4⟩ := h
    have : decide (e.born ≥ last) = Nat.ble last e.born := by rw [Bool.eq_iff_iff, Nat.ble_eq, decide_eq_true_iff]
    simp only [List.all_cons, allNew, allNew_ok h4, h3, this]
theorem goneE_ok {seen : List Nat} {last : Nat} {es : List Ent} {ys : List MapEntry} (h : ER j es ys) : (!seen.toArray.isEmpty && !ys.toArray.isEmpty && ys.toArray.all fun e => decide (e.born ≥ last)) = goneE seen last es := by
  have ha := allNew_ok (last := last) h
  cases seen with
  | nil => rfl
  | cons s ss =>
    cases es with
    | nil =>
      simp only [ER] at h
      subst h
      rfl
    | cons e es =>
      have h' := h
      simp only [ER] at h
      obtain ⟨y, zs, rfl, _⟩ := h
      simp only [goneE]
      rw [← ha]
      simp
theorem xnextM_ok {ty : TypeId} {x v : V} {a : Value} (h : xnextM G x M = some (v, M')) (c : Ctx G base n j M w) (hx : VR j x a) : Good P G base n j M w (Instr.next a false ty) v M' n := by
  unfold xnextM at h
  split at h
  · rename_i id
    simp only [VR] at hx
    obtain ⟨l, hl, rfl⟩ := hx
    have same : ∀ {b : B}, M.get id = some b → G ≤ id → Post G base n n j M w j (T.set 24 M id (some b)) w := fun {b} hb hG => by
      obtain ⟨l', k1, k2⟩ := c.rel.ok id _ hb
      rw [hl] at k1
      injection k1 with k1
      subst k1
      exact post_turn c.rel hb hl hG rfl rfl rfl rfl (fun _ _ => rfl) k2
    split at h
    · rename_i s sn lc hM hG
      have hG := Nat.le_of_ble_eq_true hG
      injection h with h
      injection h with e1 e2
      subst e1; subst e2
      obtain ⟨l', k1, k0, x, k2, k3⟩ := c.rel.ok id _ hM
      rw [hl] at k1
      injection k1 with k1
      subst k1
      simp only [MR] at k3
      subst k3
      refine ⟨.tuple #[.bool false], w, j, ?_, ?_, same hM hG⟩
      · simp [Instr.next, k0, getObj, Sem.run, k2]
      · simp only [VR, VRs]; exact ⟨_, ⟨_, [], rfl, rfl, rfl⟩, rfl⟩
    · rename_i m since seen last hM hG
      have hG := Nat.le_of_ble_eq_true hG
      obtain ⟨l', k1, k0, x, k2, k3⟩ := c.rel.ok id _ hM
      rw [hl] at k1
      injection k1 with k1
      subst k1
      simp only [MR] at k3
      obtain ⟨lm, k3, rfl⟩ := k3
      split at h
      · rename_i es clk hMm
        obtain ⟨lm', k4, ⟨ys⟩, k5, k6⟩ := c.rel.ok m _ hMm
        rw [k3] at k4
        injection k4 with k4
        subst k4
        simp only at k6
        obtain ⟨q1, q2⟩ := leftE_ok (seen := seen) (since := since) k6
        have q3 := goneE_ok (seen := seen) (last := last) k6
        have hit : (getObj l.g).run P w = .ok (.mapIter (some lm.g) since seen.toArray last) w := by simp [getObj, Sem.run, k2]
        have hmp : (getObj lm.g).run P w = .ok (.map ys.toArray clk) w := Go.MapKept.run_getObj_map k5
        split at h
        · rename_i hg ho hn
          injection h with h
          injection h with e1 e2
          subst e1; subst e2
          rw [ho] at q1
          rw [hn] at q2
          rw [hg] at q3
          simp only [ER] at q1 q2
          refine ⟨.tuple #[.bool false], w, j, ?_, ?_, same hM hG⟩
          · simp only [Instr.next, k0, Nat.add_zero, Sem.run_bind, hit, hmp, Result.andThen_ok, q3, Bool.false_eq_true, if_false]
            simp only [List.contains_toArray, List.filter_toArray, q1, q2]
            simp [Question.forced]
          · simp only [VR, VRs]; exact ⟨_, ⟨_, [], rfl, rfl, rfl⟩, rfl⟩
        · rename_i e hg ho hn
          injection h with h
          injection h with e1 e2
          subst e1; subst e2
          rw [ho] at q1
          rw [hn] at q2
          rw [hg] at q3
          simp only [ER] at q1 q2
          obtain ⟨y, zs, q1, r1, r2, r3, rfl⟩ := q1
          have hs := Go.MapKept.heap_set (o' := .mapIter (some lm.g) since (seen.toArray.push y.born) clk) k2
          refine ⟨.tuple #[.bool true, y.key, y.val], { w with heap := w.heap.setIfInBounds l.g (.mapIter (some lm.g) since (seen.toArray.push y.born) clk) }, j, ?_, ?_, ?_⟩
          · simp only [Instr.next, k0, Nat.add_zero, Sem.run_bind, hit, hmp, Result.andThen_ok, q3, Bool.false_eq_true, if_false]
            simp only [List.contains_toArray, List.filter_toArray, q1, q2]
            simp [Question.forced, setObj, Sem.run, k2]
          · simp only [VR, VRs]
            exact ⟨_, ⟨_, _, rfl, ⟨y.key, _, r1, ⟨y.val, [], r2, rfl, rfl⟩, rfl⟩, rfl⟩, rfl⟩
          · refine post_turn c.rel hM hl hG rfl rfl rfl (by simp) (fun g hg => hs.2 g hg) ⟨k0, some lm.g, ?_, lm, k3, rfl⟩
            rw [← r3]
            simpa using hs.1
        · cases h
      · cases h
    · cases h
  · cases h
theorem findN_ok {s : Nat} {e : Ent} : ∀ {es : List Ent} {ys : List MapEntry}, findN s es = some e → ER j es ys → ∃ y, ys.find? (·.born == s) = some y ∧ VR j e.k y.key ∧ VR j e.v y.val
  | [], _, h, _ => by cases h
  | x :: es, ys, h, k => by
    simp only [ER] at k
    obtain ⟨y, zs, rfl, h1, h2, h3, h4⟩ := k
    have hb : Nat.beq x.born s = (y.born == s) := by rw [h3, Bool.eq_iff_iff, Nat.beq_eq, beq_iff_eq]
    unfold findN at h
    split at h
    · rename_i hq
      injection h with h
      subst h
      exact ⟨y, by rw [List.find?_cons, ← hb, hq], h1, h2⟩
    · rename_i hq
      obtain ⟨z, k1, k2⟩ := findN_ok h h4
      exact ⟨z, by rw [List.find?_cons, ← hb, hq]; exact k1, k2⟩
theorem xcurM_ok {x v : V} {a : Value} (h : xcurM x M = some v) (c : Ctx G base n j M w) (hx : VR j x a) : ∃ y, (Instr.entry a).run P w = .ok y w ∧ VR j v y := by
  unfold xcurM at h
  split at h
  · rename_i id
    simp only [VR] at hx
    obtain ⟨l, hl, rfl⟩ := hx
    split at h
    · rename_i m since seen last hM
      obtain ⟨l', k1, k0, x, k2, k3⟩ := c.rel.ok id _ hM
      rw [hl] at k1
      injection k1 with k1
      subst k1
      simp only [MR] at k3
      obtain ⟨lm, k3, rfl⟩ := k3
      split at h
      · rename_i es clk s hMm hsn
        obtain ⟨lm', k4, ⟨ys⟩, k5, k6⟩ := c.rel.ok m _ hMm
        rw [k3] at k4
        injection k4 with k4
        subst k4
        simp only at k6
        split at h
        · rename_i e hc hf
          injection h with h
          subst h
          have hc := Nat.eq_of_beq_eq_true hc
          subst hc
          obtain ⟨y, q1, q2, q3⟩ := findN_ok hf k6
          have hit : (getObj l.g).run P w = .ok (.mapIter (some lm.g) since seen.toArray clk) w := by simp [getObj, Sem.run, k2]
          have hmp : (getObj lm.g).run P w = .ok (.map ys.toArray clk) w := Go.MapKept.run_getObj_map k5
          have hbk : seen.toArray.back? = some s := by rw [List.back?_toArray]; exact hsn
          have hfd : ys.toArray.find? (·.born == s) = some y := by rw [List.find?_toArray]; exact q1
          refine ⟨.tuple #[y.key, y.val], ?_, ?_⟩
          · simp [Instr.entry, k0, hit, hmp, hbk, hfd]
          · simp only [VR, VRs]
            exact ⟨_, ⟨y.key, _, q2, ⟨y.val, [], q3, rfl, rfl⟩, rfl⟩, rfl⟩
        · cases h
      · cases h
    · cases h
  · cases h
theorem next_n {x v : V} {M2 : H} {k : Nat} (h : (match xnextM G x M with | some (y, M') => some (y, M', n) | none => none) = some (v, M2, k)) : n ≤ k := by
  split at h
  · injection h with h
    injection h with _ h
    injection h with _ h
    omega
  · cases h
theorem range_n {t : TypeId} {x v : V} (h : xrange P t x M n = some (v, M', n')) : n ≤ n' := by
  have nn : ∀ {b : B} {v u : V}, new M n b v = some (u, M', n') → n ≤ n' := fun h => by
    injection h with h
    injection h with _ h
    injection h with _ h
    omega
  unfold xrange at h
  repeat' (first | exact nn h | (cases h; done) | split at h)
end
end Eng
end Go.Proofs.YtjoinnjhpfakpaaGreatDoor
namespace Go.Proofs.YtjoinnjhpfakpaaGreatDoor
namespace Eng
open Go.RowKit

section
variable (ρ : Operand → Option V)
def rs : List Operand → Option (List V)
  | [] => some []
  | x :: xs => match ρ x, rs xs with | some v, some vs => some (v :: vs) | _, _ => none
def rp : List (Nat × Operand) → Option (List (Nat × V))
  | [] => some []
  | x :: xs => match ρ x.2, rp xs with | some v, some vs => some ((x.1, v) :: vs) | _, _ => none
def ro : Option Operand → Option (Option V)
  | none => some none
  | some x => match ρ x with | some v => some (some v) | none => none
end
section
variable (ρ : Operand → Option V)
noncomputable def rsF (l : List Operand) : Option (List V) := List.rec (some []) (fun x _ ih => Option.rec none (fun v => Option.rec none (fun vs => some (v :: vs)) ih) (ρ x)) l
noncomputable def rpF (l : List (Nat × Operand)) : Option (List (Nat × V)) := List.rec (some []) (fun x _ ih => Option.rec none (fun v => Option.rec none (fun vs => some ((x.1, v) :: vs)) ih) (ρ x.2)) l
theorem rsF_eq : ∀ l, rsF ρ l = rs ρ l
  | [] => rfl
  | x :: l => by
    show (Option.rec none (fun v => Option.rec none (fun vs => some (v :: vs)) (rsF ρ l)) (ρ x) : Option (List V)) = _
    rw [rsF_eq l, rs]
    cases ρ x <;> cases rs ρ l <;> rfl
theorem rpF_eq : ∀ l, rpF ρ l = rp ρ l
  | [] => rfl
  | x :: l => by
    show (Option.rec none (fun v => Option.rec none (fun vs => some ((x.1, v) :: vs)) (rpF ρ l)) (ρ x.2) : Option (List (Nat × V))) = _
    rw [rpF_eq l, rp]
    cases ρ x.2 <;> cases rp ρ l <;> rfl
end
def pu (r : Option V) (M : H) (n : Nat) : R := match r with | some v => some (v, M, n) | none => none
def xmin2 : V → V → Option V
  | .i k a, .i _ b => some (match decide (b < a) with | true => .i k b | false => .i k a)
  | _, _ => none
def xmax2 : V → V → Option V
  | .i k a, .i _ b => some (match decide (b > a) with | true => .i k b | false => .i k a)
  | _, _ => none
def xfold (f : V → V → Option V) : List V → V → Option V
  | [], x => some x
  | y :: l, x => (match f x y with | some z => xfold f l z | none => none)
def xmin : List V → Option V
  | [] => none
  | x :: l => xfold xmin2 l x
def xmax : List V → Option V
  | [] => none
  | x :: l => xfold xmax2 l x
noncomputable def xbi (P : Program) (G : Nat) (b : Builtin) (ts : List TypeId) (vs : List V) (M : H) (n : Nat) : R :=
  match b with
  | .len => (match ts, vs with | [t], [v] => (match xlen P t v with | some u => some (u, M, n) | none => pu (xmapLenM P t v M) M n) | _, _ => none)
  | .delete => (match ts, vs with | [t, _], [u, v] => xdeleteM P G t u v M n | _, _ => none)
  | .cap => (match ts, vs with | [t], [v] => pu (xcap P t v) M n | _, _ => none)
  | .min => pu (xmin vs) M n
  | .max => pu (xmax vs) M n
  | .append => (match ts, vs with | [s, t], [u, v] => xappend P G s t u v M n | _, _ => none)
  | .copy => (match ts, vs with | [s, _], [u, v] => xcopy P G s u v M n | _, _ => none)
  | .unsafeString => (match ts, vs with | s :: _, [u, v] => xuStr P G s u v M n | _, _ => none)
  | .unsafeSliceData => (match vs with | [v] => pu (xuData v) M n | _ => none)
  | _ => none
def xnil (v : V) : Option V := match v with | .p (some q) => some (.p (some q)) | .fn f cs => some (.fn f cs) | _ => none
def xpick (c : V) (a b : Option V) : Option V := match c with | .b true => a | .b false => b | _ => none
noncomputable def xcnv (P : Program) (G : Nat) (s d : TypeId) (v : V) (M : H) (n : Nat) : R :=
  match xconv P s d v with
  | some u => some (u, M, n)
  | none => (match xb2s P s d v M with
    | some u => some (u, M, n)
    | none => (match xs2b P s d v M n with
      | some r => some r
      | none => xb2b P G s d v M n))
noncomputable def xbinS (P : Program) (op : BinOp) (t : TypeId) (u v : V) : Option V :=
  match xbin P op t u v with
  | some r => some r
  | none => xeqS P op t u v
noncomputable def xval0 (P : Program) (G : Nat) (ρ : Operand → Option V) (o : Op) (M : H) (n : Nat) : R :=
  match o with
  | .move x => pu (ρ x) M n
  | .assign x => pu (ρ x) M n
  | .pick c a b => (match ρ c with | some v => pu (xpick v (ρ a) (ρ b)) M n | none => none)
  | .alloc e => xalloc P e M n
  | .box e x => (match ρ x with | some v => xbox e v M n | none => none)
  | .build t ps => (match rp ρ ps.toList with | some l => pu (xbuild P t l) M n | none => none)
  | .buildSlice t len ps => (match rp ρ ps.toList with | some l => xbuildSlice P t len l M n | none => none)
  | .load t a => (match ρ a with | some v => pu (xload P t v M) M n | none => none)
  | .store t a x => (match ρ a, ρ x with | some u, some v => (match xstore P G t u v M with | some M' => some (.t [], M', n) | none => none) | _, _ => none)
  | .nilCheck x => (match ρ x with | some v => pu (xnil v) M n | none => none)
  | .binOp op t x y _ => (match ρ x, ρ y with | some u, some v => pu (xbinS P op t u v) M n | _, _ => none)
  | .unOp op _ x => (match ρ x with | some v => pu (xun op v) M n | none => none)
  | .convert s d x => (match ρ x with | some v => xcnv P G s d v M n | none => none)
  | .sliceToArrayPointer t x => (match ρ x with | some v => pu (xs2a P t v) M n | none => none)
  | .makeInterface t x => (match ρ x with | some v => pu (xiface P t v) M n | none => none)
  | .makeFunc (.func f) ⟨[]⟩ cs => (match rs ρ cs.toList with | some vs => some (.fn f vs, M, n) | none => none)
  | .makeMap _ none => xmakeMap M n
  | .makeSlice t l c => (match ρ l, ρ c with | some u, some v => xmakeSlice P t u v M n | _, _ => none)
  | .slice t x lo hi mx => (match ρ x, ro ρ lo, ro ρ hi, ro ρ mx with | some v, some a, some b, some c => pu (xslice P t v a b c) M n | _, _, _, _ => none)
  | .fieldAddr s x f => (match ρ x with | some v => pu (xfieldAddr P s v f) M n | none => none)
  | .field t x f => (match ρ x with | some v => pu (xfield P t v f) M n | none => none)
  | .indexAddr t x i => (match ρ x, ρ i with | some u, some v => pu (xindexAddr P t u v) M n | _, _ => none)
  | .index t x i => (match ρ x, ρ i with | some u, some v => pu (xindex P t u v) M n | _, _ => none)
  | .mapUpdate t m k x => (match ρ m, ρ k, ρ x with | some u, some v, some y => (match xupdateM P G t u v y M with | some M' => some (.t [], M', n) | none => none) | _, _, _ => none)
  | .insert t m k x => (match ρ m, ρ k, ρ x with | some u, some v, some y => (match xupdateM P G t u v y M with | some M' => some (.t [], M', n) | none => none) | _, _, _ => none)
  | .mapEntry t m k => (match ρ m, ρ k with | some u, some v => (match xentryM P G t u v M with | some (y, M') => some (y, M', n) | none => none) | _, _ => none)
  | .entryStore _ m s x => (match ρ m, ρ s, ρ x with | some u, some v, some y => (match xentryStoreM G u v y M with | some M' => some (.t [], M', n) | none => none) | _, _, _ => none)
  | .lookup t m k ok => (match ρ m, ρ k with | some u, some v => pu (xlookupM P t u v ok M) M n | _, _ => none)
  | .extract x i => (match ρ x with | some v => pu (xextract v i) M n | none => none)
  | .call ⟨.builtin b, xs, ts⟩ => (match rs ρ xs.toList with | some vs => xbi P G b ts.toList vs M n | none => none)
  | .range t x => (match ρ x with | some v => xrange P t v M n | none => none)
  | .next x false => (match ρ x with | some v => (match xnextM G v M with | some (y, M') => some (y, M', n) | none => none) | none => none)
  | .entry x => (match ρ x with | some v => pu (xcurM v M) M n | none => none)
  | _ => none

noncomputable def xvalC (o : Op) : Option (Program → Nat → (Operand → Option V) → H → Nat → R) :=
  match o with
  | .move x => some fun _P _G ρ M n => pu (ρ x) M n
  | .assign x => some fun _P _G ρ M n => pu (ρ x) M n
  | .pick c a b => some fun _P _G ρ M n => (match ρ c with | some v => pu (xpick v (ρ a) (ρ b)) M n | none => none)
  | .alloc e => some fun P _G _ρ M n => xalloc P e M n
  | .box e x => some fun _P _G ρ M n => (match ρ x with | some v => xbox e v M n | none => none)
  | .build t ps => some fun P _G ρ M n => (match rpF ρ ps.toList with | some l => pu (xbuild P t l) M n | none => none)
  | .buildSlice t len ps => some fun P _G ρ M n => (match rpF ρ ps.toList with | some l => xbuildSlice P t len l M n | none => none)
  | .load t a => some fun P _G ρ M n => (match ρ a with | some v => pu (xload P t v M) M n | none => none)
  | .store t a x => some fun P G ρ M n => (match ρ a, ρ x with | some u, some v => (match xstore P G t u v M with | some M' => some (.t [], M', n) | none => none) | _, _ => none)
  | .nilCheck x => some fun _P _G ρ M n => (match ρ x with | some v => pu (xnil v) M n | none => none)
  | .binOp op t x y _ => some fun P _G ρ M n => (match ρ x, ρ y with | some u, some v => pu (xbinS P op t u v) M n | _, _ => none)
  | .unOp op _ x => some fun _P _G ρ M n => (match ρ x with | some v => pu (xun op v) M n | none => none)
  | .convert s d x => some fun P G ρ M n => (match ρ x with | some v => xcnv P G s d v M n | none => none)
  | .sliceToArrayPointer t x => some fun P _G ρ M n => (match ρ x with | some v => pu (xs2a P t v) M n | none => none)
  | .makeInterface t x => some fun P _G ρ M n => (match ρ x with | some v => pu (xiface P t v) M n | none => none)
  | .makeFunc (.func f) ⟨[]⟩ cs => some fun _P _G ρ M n => (match rsF ρ cs.toList with | some vs => some (.fn f vs, M, n) | none => none)
  | .makeMap _ none => some fun _P _G _ρ M n => xmakeMap M n
  | .makeSlice t l c => some fun P _G ρ M n => (match ρ l, ρ c with | some u, some v => xmakeSlice P t u v M n | _, _ => none)
  | .slice t x lo hi mx => some fun P _G ρ M n => (match ρ x, ro ρ lo, ro ρ hi, ro ρ mx with | some v, some a, some b, some c => pu (xslice P t v a b c) M n | _, _, _, _ => none)
  | .fieldAddr s x f => some fun P _G ρ M n => (match ρ x with | some v => pu (xfieldAddr P s v f) M n | none => none)
  | .field t x f => some fun P _G ρ M n => (match ρ x with | some v => pu (xfield P t v f) M n | none => none)
  | .indexAddr t x i => some fun P _G ρ M n => (match ρ x, ρ i with | some u, some v => pu (xindexAddr P t u v) M n | _, _ => none)
  | .index t x i => some fun P _G ρ M n => (match ρ x, ρ i with | some u, some v => pu (xindex P t u v) M n | _, _ => none)
  | .mapUpdate t m k x => some fun P G ρ M n => (match ρ m, ρ k, ρ x with | some u, some v, some y => (match xupdateM P G t u v y M with | some M' => some (.t [], M', n) | none => none) | _, _, _ => none)
  | .insert t m k x => some fun P G ρ M n => (match ρ m, ρ k, ρ x with | some u, some v, some y => (match xupdateM P G t u v y M with | some M' => some (.t [], M', n) | none => none) | _, _, _ => none)
  | .mapEntry t m k => some fun P G ρ M n => (match ρ m, ρ k with | some u, some v => (match xentryM P G t u v M with | some (y, M') => some (y, M', n) | none => none) | _, _ => none)
  | .entryStore _ m s x => some fun _P G ρ M n => (match ρ m, ρ s, ρ x with | some u, some v, some y => (match xentryStoreM G u v y M with | some M' => some (.t [], M', n) | none => none) | _, _, _ => none)
  | .lookup t m k ok => some fun P _G ρ M n => (match ρ m, ρ k with | some u, some v => pu (xlookupM P t u v ok M) M n | _, _ => none)
  | .extract x i => some fun _P _G ρ M n => (match ρ x with | some v => pu (xextract v i) M n | none => none)
  | .call ⟨.builtin b, xs, ts⟩ => some fun P G ρ M n => (match rsF ρ xs.toList with | some vs => xbi P G b ts.toList vs M n | none => none)
  | .range t x => some fun P _G ρ M n => (match ρ x with | some v => xrange P t v M n | none => none)
  | .next x false => some fun _P G ρ M n => (match ρ x with | some v => (match xnextM G v M with | some (y, M') => some (y, M', n) | none => none) | none => none)
  | .entry x => some fun _P _G ρ M n => (match ρ x with | some v => pu (xcurM v M) M n | none => none)
  | _ => none
noncomputable def xval (P : Program) (G : Nat) (ρ : Operand → Option V) (o : Op) (M : H) (n : Nat) : R :=
  match xvalC o with
  | some g => g P G ρ M n
  | none => none
theorem xval_eq (P : Program) (G : Nat) (ρ : Operand → Option V) (o : Op) (M : H) (n : Nat) : xval P G ρ o M n = xval0 P G ρ o M n := by
  cases o <;> first | rfl | (simp only [xval, xvalC, xval0, rsF_eq, rpF_eq]; done) | skip
  case makeFunc f a c =>
    obtain ⟨a⟩ := a
    cases f <;> first | rfl | (cases a <;> first | rfl | (simp only [xval, xvalC, xval0, rsF_eq]; done))
  case makeMap t r => cases r <;> rfl
  case call c =>
    obtain ⟨f, xs, ts⟩ := c
    cases f <;> first | rfl | (simp only [xval, xvalC, xval0, rsF_eq]; done)
  case next x b => cases b <;> rfl
def OpGood (P : Program) (G base n : Nat) (j : J) (M : H) (w : World) (s : Sem Next) (v : V) (M' : H) (n' : Nat) : Prop :=
  ∃ y w' j', (s.run P w = .ok (.value y) w' ∨ (s.run P w = .ok .skip w' ∧ y = undef)) ∧ VR j' v y ∧ Post G base n n' j M w j' M' w' ∧ n ≤ n'

section
variable {P : Program} {G base n n' : Nat} {j : J} {M M' : H} {w : World} {ρ : Operand → Option V} {e : Operand → Value}
theorem rs_ok (h : ∀ x v, ρ x = some v → VR j v (e x)) : ∀ {l : List Operand} {vs : List V}, rs ρ l = some vs → VRs j vs (l.map e)
  | [], vs, q => by injection q with q; subst q; exact .nil j
  | x :: xs, vs, q => by
    unfold rs at q
    split at q
    · rename_i v us h1 h2
      injection q with q; subst q
      exact .cons (h x v h1) (rs_ok h h2)
    · cases q
theorem rp_ok (h : ∀ x v, ρ x = some v → VR j v (e x)) : ∀ {l : List (Nat × Operand)} {vs : List (Nat × V)}, rp ρ l = some vs → PR j vs (l.map fun x => (x.1, e x.2))
  | [], vs, q => by injection q with q; subst q; simp only [PR, List.map_nil]
  | x :: xs, vs, q => by
    unfold rp at q
    split at q
    · rename_i v us h1 h2
      injection q with q; subst q
      exact ⟨e x.2, xs.map fun x => (x.1, e x.2), rfl, h x.2 v h1, rp_ok h h2⟩
    · cases q
theorem ro_ok (h : ∀ x v, ρ x = some v → VR j v (e x)) {l : Option Operand} {v : Option V} (q : ro ρ l = some v) : OR j v (l.map e) := by
  unfold ro at q
  split at q
  · injection q with q; subst q; rfl
  · split at q
    · rename_i x v hv
      injection q with q; subst q
      exact ⟨_, rfl, h _ _ hv⟩
    · cases q
theorem pu_ok {r : Option V} {v : V} (h : pu r M n = some (v, M', n')) : r = some v ∧ M' = M ∧ n' = n := by
  unfold pu at h
  split at h
  · injection h with h
    injection h with h1 h
    injection h with h2 h3
    exact ⟨by rw [h1], h2.symm, h3.symm⟩
  · cases h
theorem og_pur {s : Sem Value} {r : Option V} {v : V} (h : pu r M n = some (v, M', n')) (c : Ctx G base n j M w) (k : r = some v → Pur P j s v) : OpGood P G base n j M w (do pure (.value (← s))) v M' n' := by
  obtain ⟨h1, rfl, rfl⟩ := pu_ok h
  obtain ⟨y, h2, h3⟩ := k h1 w
  exact ⟨y, w, j, .inl (by simp [h2]), h3, .refl c.rel _, Nat.le_refl _⟩
theorem og_good {s : Sem Value} {v : V} (h : Good P G base n j M w s v M' n') (hn : n ≤ n') : OpGood P G base n j M w (do pure (.value (← s))) v M' n' := by
  obtain ⟨y, w', j', h1, h2, h3⟩ := h
  exact ⟨y, w', j', .inl (by simp [h1]), h2, h3, hn⟩
theorem og_val {y : Value} {r : Option V} {v : V} (h : pu r M n = some (v, M', n')) (c : Ctx G base n j M w) (k : r = some v → VR j v y) : OpGood P G base n j M w (pure (.value y)) v M' n' := by
  obtain ⟨h1, rfl, rfl⟩ := pu_ok h
  exact ⟨y, w, j, .inl rfl, k h1, .refl c.rel _, Nat.le_refl _⟩
theorem new_n {b : B} {v u : V} (h : new M n b v = some (u, M', n')) : n ≤ n' := by
  injection h with h
  injection h with _ h
  injection h with _ h
  omega
theorem grown_n {t : TypeId} {z : Nat} {o s : List V} {k : Nat} {M0 : H} {fz : Fz} {u : V} (h : grown t z n o s k M0 fz = some (u, M', n')) : n ≤ n' := by
  injection h with h
  injection h with _ h
  injection h with _ h
  omega
theorem same_n {v u : V} {M0 : H} (h : some (v, M0, n) = some (u, M', n')) : n ≤ n' := by
  injection h with h
  injection h with _ h
  injection h with _ h
  omega
theorem append_n {sT xT : TypeId} {s x v : V} (h : xappend P G sT xT s x M n = some (v, M', n')) : n ≤ n' := by
  unfold xappend at h
  repeat' (first | exact same_n h | exact grown_n h | (cases h; done) | split at h)
theorem xfold_ok {f : V → V → Option V} {g : Value → Value → Sem Value} (hg : ∀ {x y z : V} {a b : Value}, f x y = some z → VR j x a → VR j y b → Pur P j (g a b) z) : ∀ {l : List V} {x v : V} {a : Value} {ys : List Value}, xfold f l x = some v → VR j x a → VRs j l ys → Pur P j (ys.foldlM g a) v
  | [], x, v, a, ys, h, hx, hl => by
    injection h with h
    subst h
    simp only [VRs] at hl
    subst hl
    intro w
    exact ⟨a, by simp, hx⟩
  | y :: l, x, v, a, ys, h, hx, hl => by
    simp only [VRs] at hl
    obtain ⟨b, bs, hb, hl, rfl⟩ := hl
    unfold xfold at h
    split at h
    · rename_i z hz
      intro w
      obtain ⟨y1, h1, h2⟩ := hg hz hx hb w
      obtain ⟨y2, h3, h4⟩ := xfold_ok hg h h2 hl w
      exact ⟨y2, by simp [List.foldlM_cons, h1, h3], h4⟩
    · cases h
theorem xmax2_ok {x y z : V} {a b : Value} (h : xmax2 x y = some z) (hx : VR j x a) (hy : VR j y b) : Pur P j (Builtin.max2 a b) z := by
  unfold xmax2 at h
  split at h
  · rename_i k m k2 m2
    simp only [VR] at hx hy
    subst hx; subst hy
    intro w
    by_cases hb : m2 > m
    · rw [decide_eq_true hb] at h; injection h with h; subst h
      exact ⟨.int k m2, by simp [Builtin.max2, hb], by simp only [VR]⟩
    · rw [decide_eq_false hb] at h; injection h with h; subst h
      exact ⟨.int k m, by simp [Builtin.max2, hb], by simp only [VR]⟩
  · cases h
theorem xmin2_ok {x y z : V} {a b : Value} (h : xmin2 x y = some z) (hx : VR j x a) (hy : VR j y b) : Pur P j (Builtin.min2 a b) z := by
  unfold xmin2 at h
  split at h
  · rename_i k m k2 m2
    simp only [VR] at hx hy
    subst hx; subst hy
    intro w
    by_cases hb : m2 < m
    · rw [decide_eq_true hb] at h; injection h with h; subst h
      exact ⟨.int k m2, by simp [Builtin.min2, hb], by simp only [VR]⟩
    · rw [decide_eq_false hb] at h; injection h with h; subst h
      exact ⟨.int k m, by simp [Builtin.min2, hb], by simp only [VR]⟩
  · cases h
theorem xbi_ok {b : Builtin} {ta : Array TypeId} {ty : TypeId} {cs : Array Bool} {vs : List V} {ys : List Value} {v : V} (h : xbi P G b ta.toList vs M n = some (v, M', n')) (c : Ctx G base n j M w) (hf : Free n n' j) (hv : VRs j vs ys) :
    OpGood P G base n j M w (builtin b ta ty cs ys.toArray) v M' n' := by
  obtain ⟨ta⟩ := ta
  simp only at h
  cases b <;> unfold xbi at h <;> dsimp only at h <;> first | (cases h; done) | skip
  case append =>
    split at h
    · simp only [VRs] at hv
      obtain ⟨y1, ys1, h1, hv, rfl⟩ := hv
      obtain ⟨y2, ys2, h2, hv, rfl⟩ := hv
      subst hv
      exact og_good (xappend_ok (P := P) (ty := ty) h c hf h1 h2) (append_n h)
    · cases h
  case cap =>
    split at h
    · simp only [VRs] at hv
      obtain ⟨y1, ys1, h1, hv, rfl⟩ := hv
      subst hv
      exact og_pur h c fun q => xcap_ok (ty := ty) q h1
    · cases h
  case len =>
    split at h
    · simp only [VRs] at hv
      obtain ⟨y1, ys1, h1, hv, rfl⟩ := hv
      subst hv
      split at h
      · rename_i hu
        injection h with h
        injection h with e1 h
        injection h with e2 e3
        subst e1; subst e2; subst e3
        exact og_pur (M := M) (M' := M) (n' := n) (r := some _) (by rfl) c fun _ => xlen_ok (ty := ty) hu h1
      · obtain ⟨h2, rfl, rfl⟩ := pu_ok h
        obtain ⟨y, h3, h4⟩ := xmapLenM_ok (ty := ty) h2 c h1
        exact ⟨y, w, j, .inl (by simp [builtin, h3]), h4, .refl c.rel _, Nat.le_refl _⟩
    · cases h
  case copy =>
    split at h
    · simp only [VRs] at hv
      obtain ⟨y1, ys1, h1, hv, rfl⟩ := hv
      obtain ⟨y2, ys2, h2, hv, rfl⟩ := hv
      subst hv
      rename_i s0 t0 u0 v0
      have := xcopy_ok (sT := t0) (ty := ty) h c h1 h2
      exact og_good this.1 (Nat.le_of_eq this.2.symm)
    · cases h
  case delete =>
    split at h
    · rename_i t0 t1 u0 v0
      simp only [VRs] at hv
      obtain ⟨y1, ys1, h1, hv, rfl⟩ := hv
      obtain ⟨y2, ys2, h2, hv, rfl⟩ := hv
      subst hv
      have := xdeleteM_ok (t2 := t1) (ty := ty) h c h1 h2
      exact og_good this.1 (Nat.le_of_eq this.2.symm)
    · cases h
  case max =>
    refine og_pur h c fun q => ?_
    unfold xmax at q
    split at q
    · cases q
    · simp only [VRs] at hv
      obtain ⟨y1, ys1, h1, hv, rfl⟩ := hv
      exact xfold_ok (fun h a b => xmax2_ok h a b) q h1 hv
  case min =>
    refine og_pur h c fun q => ?_
    unfold xmin at q
    split at q
    · cases q
    · simp only [VRs] at hv
      obtain ⟨y1, ys1, h1, hv, rfl⟩ := hv
      exact xfold_ok (fun h a b => xmin2_ok h a b) q h1 hv
  case unsafeString =>
    split at h
    · rename_i l0 tl u v0
      simp only [VRs] at hv
      obtain ⟨y1, ys1, h1, hv, rfl⟩ := hv
      obtain ⟨y2, ys2, h2, hv, rfl⟩ := hv
      subst hv
      have := xuStr_ok (ta := ⟨l0 :: tl⟩) (ty := ty) h c (by simp) h1 h2
      exact og_good this.1 (Nat.le_of_eq this.2.symm)
    · cases h
  case unsafeSliceData =>
    split at h
    · simp only [VRs] at hv
      obtain ⟨y1, ys1, h1, hv, rfl⟩ := hv
      subst hv
      exact og_pur h c fun q => xuData_ok (ty := ty) q h1
    · cases h
theorem xcnv_ok {s d : TypeId} {v u : V} {a : Value} (h : xcnv P G s d v M n = some (u, M', n')) (c : Ctx G base n j M w) (hf : Free n n' j) (hv : VR j v a) : Good P G base n j M w (convert s d a) u M' n' ∧ n ≤ n' := by
  unfold xcnv at h
  split at h
  · rename_i x hx
    injection h with h
    injection h with e1 h
    injection h with e2 e3
    subst e1; subst e2; subst e3
    obtain ⟨y, h2, h3⟩ := xconv_ok (P := P) hx hv w
    exact ⟨⟨y, w, j, h2, h3, .refl c.rel _⟩, Nat.le_refl _⟩
  · split at h
    · rename_i x hx
      injection h with h
      injection h with e1 h
      injection h with e2 e3
      subst e1; subst e2; subst e3
      obtain ⟨y, h2, h3⟩ := xb2s_ok hx c hv
      exact ⟨⟨y, w, j, h2, h3, .refl c.rel _⟩, Nat.le_refl _⟩
    · split at h
      · rename_i r hr
        injection h with h
        subst h
        refine ⟨xs2b_ok hr c hf hv, ?_⟩
        unfold xs2b at hr
        repeat' (first | exact new_n hr | (cases hr; done) | split at hr)
      · have := xb2b_ok h c hv
        exact ⟨this.1, Nat.le_of_eq this.2.symm⟩
theorem xbinS_ok {op : BinOp} {t : TypeId} {x y v : V} {a b : Value} (h : xbinS P op t x y = some v) (hx : VR j x a) (hy : VR j y b) (ox oy : Operand) :
    Pur P j (do eqGuard op t ox oy a b; binOp op t a b) v := by
  unfold xbinS at h
  split at h
  · rename_i r hr
    injection h with h
    subst h
    exact xbin_ok hr hx hy ox oy
  · exact xeqS_ok h hx hy ox oy
theorem xval_ok {o : Oper} {v : V} (h : xval P G ρ o.op M n = some (v, M', n')) (c : Ctx G base n j M w) (hf : Free n n' j) (hr : ∀ x v, ρ x = some v → VR j v (e x)) : OpGood P G base n j M w (execOp e o) v M' n' := by
  obtain ⟨dst, op, ty, pos, after, guard⟩ := o
  rw [xval_eq] at h
  unfold xval0 at h
  simp only at h
  split at h
  case h_1 => exact og_val h c fun q => hr _ _ q
  case h_2 => exact og_val h c fun q => hr _ _ q
  case h_3 =>
    split at h
    · rename_i cv hc
      obtain ⟨h1, rfl, rfl⟩ := pu_ok h
      have hcv := hr _ _ hc
      unfold xpick at h1
      split at h1
      · simp only [VR] at hcv
        exact ⟨_, w, j, .inl (by simp [execOp, hcv, asBool]), hr _ _ h1, .refl c.rel _, Nat.le_refl _⟩
      · simp only [VR] at hcv
        exact ⟨_, w, j, .inl (by simp [execOp, hcv, asBool]), hr _ _ h1, .refl c.rel _, Nat.le_refl _⟩
      · cases h1
    · cases h
  case h_4 =>
    exact og_good (xalloc_ok h c hf) (by unfold xalloc at h; split at h; exact new_n h; cases h)
  case h_5 =>
    split at h
    · rename_i hx; exact og_good (xbox_ok h c hf (hr _ _ hx)) (new_n h)
    · cases h
  case h_6 =>
    split at h
    · rename_i l hl
      refine og_pur h c fun q => xbuild_ok q ?_
      have := rp_ok hr hl
      simpa using this
    · cases h
  case h_7 =>
    split at h
    · rename_i l hl
      refine og_good (xbuildSlice_ok h c hf ?_) ?_
      · have := rp_ok hr hl
        simpa using this
      · unfold xbuildSlice at h
        repeat' (first | exact new_n h | (cases h; done) | split at h)
    · cases h
  case h_8 =>
    split at h
    · rename_i u hu
      obtain ⟨h1, rfl, rfl⟩ := pu_ok h
      obtain ⟨y, h2, h3⟩ := xload_ok (P := P) h1 c (hr _ _ hu)
      exact ⟨y, w, j, .inl (by simp [execOp, h2]), h3, .refl c.rel _, Nat.le_refl _⟩
    · cases h
  case h_9 =>
    split at h
    · rename_i u x hu hx
      split at h
      · rename_i M2 hs
        injection h with h
        injection h with e1 h
        injection h with e2 e3
        subst e1; subst e2; subst e3
        obtain ⟨w', h2, h3⟩ := xstore_ok hs c (hr _ _ hu) (hr _ _ hx)
        exact ⟨undef, w', j, .inr ⟨by simp [execOp, h2], rfl⟩, by simp only [VR, VRs]; exact ⟨[], rfl, rfl⟩, h3, Nat.le_refl _⟩
      · cases h
    · cases h
  case h_10 =>
    split at h
    · rename_i u hu
      have hu := hr _ _ hu
      obtain ⟨h1, rfl, rfl⟩ := pu_ok h
      unfold xnil at h1
      split at h1
      · injection h1 with h1; subst h1
        have hu' := hu
        simp only [VR] at hu
        obtain ⟨l, hl, hu⟩ := hu
        rw [hu] at hu'
        exact ⟨_, w, j, .inl (by simp only [execOp, hu]; rfl), hu', .refl c.rel _, Nat.le_refl _⟩
      · injection h1 with h1; subst h1
        have hu' := hu
        simp only [VR] at hu
        obtain ⟨l, hl, hu⟩ := hu
        rw [hu] at hu'
        exact ⟨_, w, j, .inl (by simp only [execOp, hu]; rfl), hu', .refl c.rel _, Nat.le_refl _⟩
      · cases h1
    · cases h
  case h_11 =>
    split at h
    · rename_i u x hu hx
      exact og_pur h c fun q => xbinS_ok q (hr _ _ hu) (hr _ _ hx) _ _
    · cases h
  case h_12 =>
    split at h
    · rename_i u hu; exact og_pur h c fun q => xun_ok q (hr _ _ hu)
    · cases h
  case h_13 =>
    split at h
    · rename_i u hu
      obtain ⟨h1, h2⟩ := xcnv_ok h c hf (hr _ _ hu)
      exact og_good h1 h2
    · cases h
  case h_14 =>
    split at h
    · rename_i u hu; exact og_pur h c fun q => xs2a_ok q (hr _ _ hu)
    · cases h
  case h_15 =>
    split at h
    · rename_i u hu; exact og_pur h c fun q => xiface_ok q (hr _ _ hu)
    · cases h
  case h_16 =>
    split at h
    · rename_i vs hvs
      injection h with h
      injection h with e1 h
      injection h with e2 e3
      subst e1; subst e2; subst e3
      rename_i f cs _
      have := rs_ok hr hvs
      refine ⟨.func (.func f) #[] (cs.map e), w, j, .inl (by simp [execOp, Instr.makeFunc]), ?_, .refl c.rel _, Nat.le_refl _⟩
      simp only [VR]
      exact ⟨_, this, by rw [Value.func.injEq]; exact ⟨rfl, rfl, by apply Array.ext'; simp⟩⟩
    · cases h
  case h_17 =>
    exact og_good (xmakeMap_ok h c hf) (new_n h)
  case h_18 =>
    split at h
    · rename_i u x hu hx
      refine og_good (xmakeSlice_ok h c hf (hr _ _ hu) (hr _ _ hx)) ?_
      unfold xmakeSlice at h
      repeat' (first | exact new_n h | (cases h; done) | split at h)
    · cases h
  case h_19 =>
    split at h
    · rename_i v a b d hv ha hb hd
      exact og_pur h c fun q => xslice_ok q (hr _ _ hv) (ro_ok hr ha) (ro_ok hr hb) (ro_ok hr hd)
    · cases h
  case h_20 =>
    split at h
    · rename_i u hu; exact og_pur h c fun q => xfieldAddr_ok q (hr _ _ hu)
    · cases h
  case h_21 =>
    split at h
    · rename_i u hu; exact og_pur h c fun q => xfield_ok q (hr _ _ hu)
    · cases h
  case h_22 =>
    split at h
    · rename_i u x hu hx
      exact og_pur h c fun q => xindexAddr_ok q (hr _ _ hu) (hr _ _ hx)
    · cases h
  case h_23 =>
    split at h
    · rename_i u x hu hx
      exact og_pur h c fun q => xindex_ok q (hr _ _ hu) (hr _ _ hx)
    · cases h
  case h_24 =>
    split at h
    · rename_i u v y hu hv hy
      split at h
      · rename_i M2 hs
        injection h with h
        injection h with e1 h
        injection h with e2 e3
        subst e1; subst e2; subst e3
        obtain ⟨w', h2, h3⟩ := xupdateM_ok hs c (hr _ _ hu) (hr _ _ hv) (hr _ _ hy)
        exact ⟨undef, w', j, .inr ⟨by simp [execOp, h2], rfl⟩, by simp only [VR, VRs]; exact ⟨[], rfl, rfl⟩, h3, Nat.le_refl _⟩
      · cases h
    · cases h
  case h_25 =>
    split at h
    · rename_i u v y hu hv hy
      split at h
      · rename_i M2 hs
        injection h with h
        injection h with e1 h
        injection h with e2 e3
        subst e1; subst e2; subst e3
        obtain ⟨w', h2, h3⟩ := xupdateM_ok hs c (hr _ _ hu) (hr _ _ hv) (hr _ _ hy)
        exact ⟨undef, w', j, .inr ⟨by simp [execOp, h2], rfl⟩, by simp only [VR, VRs]; exact ⟨[], rfl, rfl⟩, h3, Nat.le_refl _⟩
      · cases h
    · cases h
  case h_26 =>
    split at h
    · rename_i u v hu hv
      split at h
      · rename_i y M2 hs
        injection h with h
        injection h with e1 h
        injection h with e2 e3
        subst e1; subst e2; subst e3
        exact og_good (xentryM_ok hs c (hr _ _ hu) (hr _ _ hv)) (Nat.le_refl _)
      · cases h
    · cases h
  case h_27 t0 m0 s0 x0 =>
    split at h
    · rename_i u v y hu hv hy
      split at h
      · rename_i M2 hs
        injection h with h
        injection h with e1 h
        injection h with e2 e3
        subst e1; subst e2; subst e3
        obtain ⟨w', h2, h3⟩ := xentryStoreM_ok (P := P) (t := t0) hs c (hr _ _ hu) (hr _ _ hv) (hr _ _ hy)
        exact ⟨undef, w', j, .inr ⟨by simp [execOp, h2], rfl⟩, by simp only [VR, VRs]; exact ⟨[], rfl, rfl⟩, h3, Nat.le_refl _⟩
      · cases h
    · cases h
  case h_28 =>
    split at h
    · rename_i u v hu hv
      obtain ⟨h1, rfl, rfl⟩ := pu_ok h
      obtain ⟨y, h2, h3⟩ := xlookupM_ok h1 c (hr _ _ hu) (hr _ _ hv)
      exact ⟨y, w, j, .inl (by simp [execOp, h2]), h3, .refl c.rel _, Nat.le_refl _⟩
    · cases h
  case h_29 =>
    split at h
    · rename_i u hu; exact og_pur h c fun q => xextract_ok q (hr _ _ hu)
    · cases h
  case h_30 b xs ts =>
    split at h
    · rename_i vs hvs
      have h1 := rs_ok hr hvs
      have he : (xs.toList.map e).toArray = xs.map e := by apply Array.ext'; simp
      have hg : ∀ cs, OpGood P G base n j M w (builtin b ts ty cs (xs.map e)) v M' n' := fun cs => by rw [← he]; exact xbi_ok h c hf h1
      exact hg _
    · cases h
  case h_31 =>
    split at h
    · rename_i x hx; exact og_good (xrange_ok h c hf (hr _ _ hx)) (range_n h)
    · cases h
  case h_32 =>
    split at h
    · rename_i x hx
      split at h
      · rename_i y M2 hs
        injection h with h
        injection h with e1 h
        injection h with e2 e3
        subst e1; subst e2; subst e3
        exact og_good (xnextM_ok (P := P) (ty := ty) hs c (hr _ _ hx)) (Nat.le_refl _)
      · cases h
    · cases h
  case h_33 =>
    split at h
    · rename_i u hu
      obtain ⟨h1, rfl, rfl⟩ := pu_ok h
      obtain ⟨y, h2, h3⟩ := xcurM_ok (P := P) h1 c (hr _ _ hu)
      exact ⟨y, w, j, .inl (by simp [execOp, h2]), h3, .refl c.rel _, Nat.le_refl _⟩
    · cases h
  case h_34 => cases h
theorem pu_n {r : Option V} {v : V} (h : pu r M n = some (v, M', n')) : n ≤ n' := by
  obtain ⟨_, _, rfl⟩ := pu_ok h
  exact Nat.le_refl _
theorem cnv_n {s d : TypeId} {v u : V} (h : xcnv P G s d v M n = some (u, M', n')) : n ≤ n' := by
  unfold xcnv at h
  split at h
  · exact same_n h
  · split at h
    · exact same_n h
    · split at h
      · rename_i r hr
        injection h with h
        subst h
        unfold xs2b at hr
        repeat' (first | exact new_n hr | (cases hr; done) | split at hr)
      · unfold xb2b at h
        repeat' (first | exact same_n h | (cases h; done) | split at h)
theorem copy_n {t : TypeId} {d s v : V} (h : xcopy P G t d s M n = some (v, M', n')) : n ≤ n' := by
  unfold xcopy at h
  repeat' (first | exact same_n h | (cases h; done) | split at h)
theorem uStr_n {t : TypeId} {p k v : V} (h : xuStr P G t p k M n = some (v, M', n')) : n ≤ n' := by
  unfold xuStr at h
  repeat' (first | exact same_n h | (cases h; done) | split at h)
theorem del_n {t : TypeId} {m x v : V} (h : xdeleteM P G t m x M n = some (v, M', n')) : n ≤ n' := by
  unfold xdeleteM at h
  repeat' (first | exact same_n h | (cases h; done) | split at h)
theorem xval_n {o : Op} {v : V} (h : xval P G ρ o M n = some (v, M', n')) : n ≤ n' := by
  rw [xval_eq] at h
  unfold xval0 at h
  split at h <;> first | exact pu_n h | (unfold xalloc at h; split at h <;> first | exact new_n h | (cases h; done)) | exact new_n h | (cases h; done) | skip
  all_goals
    split at h <;> first | exact pu_n h | (cases h; done) | skip
  all_goals first
    | exact new_n h
    | exact same_n h
    | exact cnv_n h
    | exact range_n h
    | exact next_n h
    | (unfold xbuildSlice at h; (repeat' (first | exact new_n h | (cases h; done) | split at h)); done)
    | (unfold xmakeSlice at h; (repeat' (first | exact new_n h | (cases h; done) | split at h)); done)
    | (split at h <;> first | exact same_n h | (cases h; done))
    | (unfold xbi at h; (repeat' (first | exact pu_n h | exact same_n h | exact append_n h | exact copy_n h | exact uStr_n h | exact del_n h | (cases h; done) | split at h)); done)
end
end Eng
end Go.Proofs.YtjoinnjhpfakpaaGreatDoor

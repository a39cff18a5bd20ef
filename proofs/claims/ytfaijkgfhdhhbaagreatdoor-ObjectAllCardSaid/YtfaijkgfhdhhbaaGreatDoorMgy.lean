/-
  What law 6's begun says of two entries, a commit, an object: the plain part.
  The calls of law 6's begun, each at its own arguments.
  A drawn region's lexical order, checked off a table of numbers: for regions of a hundred operations.
-/
import Derived.Test.YtfaijkgfhdhhbaaGreatDoorMgu
import Derived.Test.YtfaijkgfhdhhbaaGreatDoorMhl
import Derived.Test.YtfaijkgfhdhhbaaGreatDoorMgx
namespace Go.Proofs.YtfaijkgfhdhhbaaGreatDoor
open Go.RowKit

def nOf (b : UInt8) : Nm := ⟨b :: List.replicate 31 0, by rw [List.length_cons, List.length_replicate]⟩
def esB : List En := [⟨[97], false, nOf 1⟩, ⟨[98], true, nOf 2⟩]
def cmB : Cm := ⟨nOf 3, [nOf 4], 4619567317775286272, [110]⟩
def obB : Ob := ⟨2, [], esB, noC⟩
theorem esB_may : mayT esB = true := by decide +kernel
theorem esB_len : (encT esB).length = 72 := by decide +kernel
theorem esB_get : getT (encT esB) = some esB := getT_put _ esB_may
theorem cmB_may : mayC cmB = true := by decide +kernel
theorem cmB_len : (bytesC cmB).length ≤ 1000 := by decide +kernel
theorem cmB_get : readC (bytesC cmB) = some cmB := readC_put _ (by decide) cmB_may
theorem obB_bytes : bytesO obB = encT esB := rfl
theorem obB_may : mayO' obB = true := by decide +kernel
theorem obB_get : getOb 2 (encT esB) = (obB, 0) := by
  show (if (2 : Int) = 1 then _ else if (2 : Int) = 2 then _ else _) = _
  rw [if_neg (by decide), if_pos rfl, esB_get]
  rfl
theorem esB_find : findE esB [98] = some ⟨[98], true, nOf 2⟩ := by decide +kernel
theorem pathB : pathV [97, 47, 98] = some [[97], [98]] := by decide +kernel
theorem obB_id : encN (idO obB) = (ShaM.sha (named 2 (encT esB))).map Y := by
  unfold idO
  rw [if_pos obB_may]
  rfl
theorem idsB : idsE esB = [nOf 1, nOf 2] := rfl
end Go.Proofs.YtfaijkgfhdhhbaaGreatDoor
namespace Go.Proofs.YtfaijkgfhdhhbaaGreatDoor
open Go.RowKit

def TB : List UInt8 := encT esB
def SB : List UInt8 := bytesC cmB
def idB : Nm := idO obB
def eB : En := ⟨[98], true, nOf 2⟩
theorem b_put (A : Option Addr) (w : World) (hA : ArgE w A 2 esB) : Calls Tryz.prog 21 #[.slice A 2 2] w fun e w' => e = .returned (.tuple #[.string ⟨TB.toArray⟩, .bool true]) ∧ Below w.heap.size w w' := by
  have h := tput_any A 2 esB w hA (by decide)
  rw [esB_may, if_pos rfl] at h
  exact h
theorem b_get (w : World) : Calls Tryz.prog 22 #[.string ⟨TB.toArray⟩] w fun e w' => (∃ A c, e = .returned (.tuple #[.slice A 2 c, .int .i64 0]) ∧ ArgE w' A c esB) ∧ Below w.heap.size w w' := by
  refine (tget_any TB w (by unfold TB; rw [esB_len]; decide)).mono ?_
  rintro e w' ⟨h, hb⟩
  refine ⟨?_, hb⟩
  rcases h with ⟨es, A, c, hg, he, hA, -⟩ | ⟨hg, -⟩
  · have : es = esB := by
      unfold TB at hg
      rw [esB_get] at hg
      injection hg with hg
      exact hg.symm
    subst this
    exact ⟨A, c, he, hA⟩
  · unfold TB at hg
    rw [esB_get] at hg
    cases hg
theorem b_cput (A : Option Addr) (w : World) (hA : ArgN w A 1 [nOf 4]) : Calls Tryz.prog 23 #[.agg (encC A 1 cmB).toArray] w fun e w' => e = .returned (.tuple #[.string ⟨SB.toArray⟩, .bool true]) ∧ Below w.heap.size w w' := by
  have h := cput_any A 1 cmB w hA (by decide)
  rw [cmB_may, if_pos rfl] at h
  exact h
theorem b_cget (w : World) : Calls Tryz.prog 24 #[.string ⟨SB.toArray⟩] w fun e w' => (∃ A c, e = .returned (.tuple #[.agg (encC A c cmB).toArray, .int .i64 0]) ∧ ArgN w' A c [nOf 4]) ∧ Below w.heap.size w w' := by
  refine (cget_any SB w (by have := cmB_len; unfold SB; omega)).mono ?_
  rintro e w' ⟨h, hb⟩
  refine ⟨?_, hb⟩
  rcases h with ⟨x, A, c, hg, he, hA, -⟩ | ⟨hg, -⟩
  · have : x = cmB := by
      unfold SB at hg
      rw [cmB_get] at hg
      injection hg with hg
      exact hg.symm
    subst this
    exact ⟨A, c, he, hA⟩
  · unfold SB at hg
    rw [cmB_get] at hg
    cases hg
theorem argB {w : World} {A : Option Addr} (hA : ArgE w A 2 esB) : ArgO w A 2 none 0 obB := ⟨hA, ⟨Nat.le_refl _, Nat.zero_le _, fun _ => rfl, fun h => absurd h (Nat.lt_irrefl _)⟩⟩
theorem b_oput (A : Option Addr) (w : World) (hA : ArgE w A 2 esB) : Calls Tryz.prog 9 #[.agg (encO A 2 none 0 obB).toArray] w fun e w' => e = .returned (.tuple #[.string ⟨TB.toArray⟩, .bool true]) ∧ Below w.heap.size w w' := by
  have h := oput_any A 2 none 0 obB w (argB hA) (by decide) (by decide)
  rw [obB_may, if_pos rfl] at h
  exact h
theorem b_oget (w : World) : Calls Tryz.prog 14 #[.int .i64 2, .string ⟨TB.toArray⟩] w fun e w' => (∃ A c A2 c2, e = .returned (.tuple #[.agg (encO A c A2 c2 obB).toArray, .int .i64 0]) ∧ ArgO w' A c A2 c2 obB) ∧ Below w.heap.size w w' := by
  have h := ogetO_any 2 TB w (by unfold TB; rw [esB_len]; decide)
  unfold TB at *
  rw [obB_get] at h
  exact h
theorem b_oid (A : Option Addr) (w : World) (hA : ArgE w A 2 esB) (hTab : Tabs w) (hT : Tens w) : Calls Tryz.prog 10 #[.agg (encO A 2 none 0 obB).toArray] w fun e w' => e = .returned (.tuple #[.agg (encN idB).toArray, .bool true]) ∧ Below w.heap.size w w' := by
  have h := oid_any A 2 none 0 obB w (argB hA) (by decide) (by decide) hTab hT (fun _ => by rw [obB_bytes, esB_len]; decide)
  rw [obB_may] at h
  exact h
theorem b_links (A : Option Addr) (w : World) (hA : ArgE w A 2 esB) : Calls Tryz.prog 18 #[.agg (encO A 2 none 0 obB).toArray] w fun e w' => (∃ B d, e = .returned (.slice B 2 d) ∧ ArgN w' B d (idsE esB)) ∧ Below w.heap.size w w' :=
  olinks2_any A 2 none 0 obB w (argB hA) rfl (by decide)
theorem b_find (A : Option Addr) (w : World) (hA : ArgE w A 2 esB) : Calls Tryz.prog 25 #[.slice A 2 2, .string ⟨#[98]⟩] w fun e w' => e = .returned (.tuple #[.agg (encE eB).toArray, .bool true]) ∧ Below w.heap.size w w' := by
  have h := tfind_any A 2 esB [98] w hA (by decide)
  rw [esB_find] at h
  exact h
theorem b_path (w : World) : Calls Tryz.prog 26 #[.string ⟨#[97, 47, 98]⟩] w fun e w' => (∃ A c, e = .returned (.tuple #[.slice A 2 c, .bool true])) ∧ Below w.heap.size w w' := by
  refine (tpath_any [97, 47, 98] w (by decide)).mono ?_
  rintro e w' ⟨h, hb⟩
  refine ⟨?_, hb⟩
  rcases h with ⟨ps, A, c, hg, he, -⟩ | ⟨hg, -⟩
  · have : ps = [[97], [98]] := by
      rw [pathB] at hg
      injection hg with hg
      exact hg.symm
    subst this
    exact ⟨A, c, he⟩
  · rw [pathB] at hg
    cases hg
theorem b_rid (w : World) : Calls Tryz.prog 29 #[.int .i64 2, .string ⟨TB.toArray⟩] w fun e w' => e = .returned (.agg (encN idB).toArray) ∧ Below w.heap.size w w' := by
  have h := rid_any 2 TB w (by unfold TB; rw [esB_len]; decide)
  unfold TB at *
  rw [← obB_id] at h
  exact h
theorem b_ceq (A : Option Addr) (c : Nat) (A2 : Option Addr) (c2 : Nat) (w : World) (hA : ArgN w A c [nOf 4]) (hA2 : ArgN w A2 c2 [nOf 4]) :
    Calls Tryz.prog 28 #[.agg (encC A c cmB).toArray, .agg (encC A2 c2 cmB).toArray] w fun e w' => e = .returned (.bool true) ∧ Below w.heap.size w w' := by
  have h := ceq_any A c A2 c2 cmB cmB w hA hA2
  rw [eqC_refl] at h
  exact h
theorem obB_eq : eqO obB obB = true := by decide +kernel
theorem b_oeq (A : Option Addr) (c : Nat) (A2 : Option Addr) (c2 : Nat) (B : Option Addr) (d : Nat) (B2 : Option Addr) (d2 : Nat) (w : World) (hA : ArgO w A c A2 c2 obB) (hA2 : ArgO w B d B2 d2 obB) :
    Calls Tryz.prog 12 #[.agg (encO A c A2 c2 obB).toArray, .agg (encO B d B2 d2 obB).toArray] w fun e w' => e = .returned (.bool true) ∧ Below w.heap.size w w' := by
  have h := oeq_any A c A2 c2 obB B d B2 d2 obB w hA hA2
  rw [obB_eq] at h
  exact h
theorem whole_argB {w : World} {g : Nat} {t : TypeId} (h : Whole w g t (esB.flatMap encE).toArray) : ArgE w (some ⟨g, 0, none⟩) 2 esB := by
  refine ⟨Nat.le_refl _, by unfold maxLen; decide, (fun e => by cases e), fun _ => ⟨g, 0, rfl, fun i hi j v hv => ?_⟩⟩
  have hj : j < 34 := by
    have := (List.getElem?_eq_some_iff.1 hv).1
    rwa [encE_len] at this
  rw [Nat.zero_add, h.at_, List.getElem?_toArray, flatE_at esB i j hi hj]
  exact hv
theorem build_CB (g : Nat) (w : World) : (Instr.build 28 #[(0, .agg (encN (nOf 3)).toArray), (1, .slice (some ⟨g, 0, none⟩) 1 1), (2, .float .f64 4619567317775286272), (3, .string ⟨#[110]⟩)]).run Tryz.prog w = .ok (.agg (encC (some ⟨g, 0, none⟩) 1 cmB).toArray) w := by kernel_rfl
theorem build_n3 (w : World) : (Instr.build 24 #[(0, .int .u8 3)]).run Tryz.prog w = .ok (.agg (encN (nOf 3)).toArray) w := by kernel_rfl
theorem build_n4 (w : World) : (Instr.build 24 #[(0, .int .u8 4)]).run Tryz.prog w = .ok (.agg (encN (nOf 4)).toArray) w := by kernel_rfl
theorem build_oB (A : Option Addr) (w : World) : (Instr.build 30 #[(0, .int .i64 2), (2, .slice A 2 2)]).run Tryz.prog w = .ok (.agg (encO A 2 none 0 obB).toArray) w := build_O2 2 A 2 2 w
theorem made_on {w : World} (o : Obj) (t : TypeId) (z : Array Value) : Whole ((w.alloc o).alloc (.cells z t)) (w.heap.size + 1) t z := by
  have h := Whole.made (w.alloc o) t z
  have e : (w.alloc o).heap.size = w.heap.size + 1 := by simp
  rw [e] at h
  exact h
def ccB (g : Nat) : Array Value := #[Value.int IntKind.u8 3, Value.int IntKind.u8 0, Value.int IntKind.u8 0, Value.int IntKind.u8 0, Value.int IntKind.u8 0, Value.int IntKind.u8 0, Value.int IntKind.u8 0, Value.int IntKind.u8 0, Value.int IntKind.u8 0, Value.int IntKind.u8 0, Value.int IntKind.u8 0, Value.int IntKind.u8 0, Value.int IntKind.u8 0, Value.int IntKind.u8 0, Value.int IntKind.u8 0, Value.int IntKind.u8 0, Value.int IntKind.u8 0, Value.int IntKind.u8 0, Value.int IntKind.u8 0, Value.int IntKind.u8 0, Value.int IntKind.u8 0, Value.int IntKind.u8 0, Value.int IntKind.u8 0, Value.int IntKind.u8 0, Value.int IntKind.u8 0, Value.int IntKind.u8 0, Value.int IntKind.u8 0, Value.int IntKind.u8 0, Value.int IntKind.u8 0, Value.int IntKind.u8 0, Value.int IntKind.u8 0, Value.int IntKind.u8 0, .slice (some ⟨g, 0, none⟩) 1 1, .float .f64 4619567317775286272, .string ⟨#[110]⟩]
theorem ccB_eq (g : Nat) : ccB g = (encC (some ⟨g, 0, none⟩) 1 cmB).toArray := by kernel_rfl
def n4B : Array Value := #[Value.int IntKind.u8 4, Value.int IntKind.u8 0, Value.int IntKind.u8 0, Value.int IntKind.u8 0, Value.int IntKind.u8 0, Value.int IntKind.u8 0, Value.int IntKind.u8 0, Value.int IntKind.u8 0, Value.int IntKind.u8 0, Value.int IntKind.u8 0, Value.int IntKind.u8 0, Value.int IntKind.u8 0, Value.int IntKind.u8 0, Value.int IntKind.u8 0, Value.int IntKind.u8 0, Value.int IntKind.u8 0, Value.int IntKind.u8 0, Value.int IntKind.u8 0, Value.int IntKind.u8 0, Value.int IntKind.u8 0, Value.int IntKind.u8 0, Value.int IntKind.u8 0, Value.int IntKind.u8 0, Value.int IntKind.u8 0, Value.int IntKind.u8 0, Value.int IntKind.u8 0, Value.int IntKind.u8 0, Value.int IntKind.u8 0, Value.int IntKind.u8 0, Value.int IntKind.u8 0, Value.int IntKind.u8 0, Value.int IntKind.u8 0]
theorem n4B_eq : n4B = (encN (nOf 4)).toArray := by kernel_rfl
theorem ccB_info (g : Nat) : (Tryz.prog.info? 28).map (·.size) = some (ccB g).size := by rw [ccB_eq]; exact infoC_s _ _ _
theorem ccB_all (g : Nat) : (ccB g).all (·.oneCell') = true := by rw [ccB_eq]; exact encC_all _ _ _
theorem ccB_s (g : Nat) : 35 = (ccB g).size := by rw [ccB_eq, encC_s]
theorem arg4B {w : World} {g : Nat} (h : Whole w g 24 n4B) : ArgN w (some ⟨g, 0, none⟩) 1 [nOf 4] := by
  rw [n4B_eq] at h
  exact arg_one h
def ooB (g : Nat) : Array Value := #[.int .i64 2, .string ⟨#[]⟩, .slice (some ⟨g, 0, none⟩) 2 2, Value.int IntKind.u8 0, Value.int IntKind.u8 0, Value.int IntKind.u8 0, Value.int IntKind.u8 0, Value.int IntKind.u8 0, Value.int IntKind.u8 0, Value.int IntKind.u8 0, Value.int IntKind.u8 0, Value.int IntKind.u8 0, Value.int IntKind.u8 0, Value.int IntKind.u8 0, Value.int IntKind.u8 0, Value.int IntKind.u8 0, Value.int IntKind.u8 0, Value.int IntKind.u8 0, Value.int IntKind.u8 0, Value.int IntKind.u8 0, Value.int IntKind.u8 0, Value.int IntKind.u8 0, Value.int IntKind.u8 0, Value.int IntKind.u8 0, Value.int IntKind.u8 0, Value.int IntKind.u8 0, Value.int IntKind.u8 0, Value.int IntKind.u8 0, Value.int IntKind.u8 0, Value.int IntKind.u8 0, Value.int IntKind.u8 0, Value.int IntKind.u8 0, Value.int IntKind.u8 0, Value.int IntKind.u8 0, Value.int IntKind.u8 0, .slice none 0 0, .float .f64 0, .string ⟨#[]⟩]
theorem ooB_eq (g : Nat) : ooB g = (encO (some ⟨g, 0, none⟩) 2 none 0 obB).toArray := by kernel_rfl
theorem ooB_info (g : Nat) : (Tryz.prog.info? 30).map (·.size) = some (ooB g).size := by rw [ooB_eq]; exact infoO_s _ _ _ _ _
theorem ooB_all (g : Nat) : (ooB g).all (·.oneCell') = true := by rw [ooB_eq]; exact encO_all _ _ _ _ _
theorem ooB_s (g : Nat) : 38 = (ooB g).size := by rw [ooB_eq, encO_s]
theorem ent_range {w : World} {b o c : Nat} (h : ArgE w (some ⟨b, o, none⟩) c esB) : w.rangeAt b (o + 34) (encE eB) ∧ w.rangeAt b (o + 36) (encN (nOf 2)) := by
  obtain ⟨b', o', e, hr⟩ := h.2.2.2 (by decide)
  injection e with e
  injection e with e1 e2
  subst e1 e2
  have h1 : w.rangeAt b (o + 34) (encE eB) := hr 1 (by decide)
  refine ⟨h1, fun j v hv => ?_⟩
  have h2 := h1 (j + 2) v (by rw [← hv]; rfl)
  rw [show o + 36 + j = o + 34 + (j + 2) by omega]
  exact h2
theorem ent_some {w : World} {A : Option Addr} {c : Nat} (h : ArgE w A c esB) : ∃ b o, A = some ⟨b, o, none⟩ := by
  obtain ⟨b', o', e, -⟩ := h.2.2.2 (by decide)
  exact ⟨b', o', e⟩
theorem nm_range {w : World} {b o c : Nat} (h : ArgN w (some ⟨b, o, none⟩) c (idsE esB)) : w.rangeAt b (o + 32) (encN (nOf 2)) := by
  obtain ⟨b', o', e, hr⟩ := h.2.2.2 (by decide)
  injection e with e
  injection e with e1 e2
  subst e1 e2
  exact hr 1 (by decide)
theorem nm_some {w : World} {A : Option Addr} {c : Nat} (h : ArgN w A c (idsE esB)) : ∃ b o, A = some ⟨b, o, none⟩ := by
  obtain ⟨b', o', e, -⟩ := h.2.2.2 (by decide)
  exact ⟨b', o', e⟩
theorem TB_len : TB.length = 72 := esB_len
theorem eql_eB (w : World) : (binOp .eql 49 (.agg (encE eB).toArray) (.agg (encE eB).toArray)).run Tryz.prog w = .ok (.bool true) w := by
  rw [eql_en, decide_eq_true rfl]
theorem eql_idB (w : World) : (binOp .eql 24 (.agg (encN idB).toArray) (.agg (encN idB).toArray)).run Tryz.prog w = .ok (.bool true) w := by
  rw [eql_nm, decide_eq_true rfl]
theorem eql_n2 (w : World) : (binOp .eql 24 (.agg (encN (nOf 2)).toArray) (.agg (encN (nOf 2)).toArray)).run Tryz.prog w = .ok (.bool true) w := by
  rw [eql_nm, decide_eq_true rfl]
theorem infoN_l (x : Nm) : (Tryz.prog.info? 24).map (·.size) = some (encN x).length := by rw [encN_len]; exact infoN
end Go.Proofs.YtfaijkgfhdhhbaaGreatDoor
namespace Go.Proofs.YtfaijkgfhdhhbaaGreatDoor

def triO (md : Region.Mode) (ops : Array Oper) (o : Oper) : List Nat × Nat × List Nat :=
  ((o.after.toList.filter (Region.binds md)).map (·.on), (match o.dst with | some d => d + 1 | none => 0), o.looksAt ops)
def apT (x y : List Nat × Nat × List Nat) : Bool :=
  (match x.2.1 with
   | d + 1 => !y.2.2.contains d && y.2.1 != d + 1
   | 0 => true) &&
  (match y.2.1 with
   | d + 1 => !x.2.2.contains d
   | 0 => true)
def okL : Nat → List (List Nat × Nat × List Nat) → Bool
  | _, [] => true
  | i, x :: r => x.1.all (fun on => Nat.ble (on + 1) i) && r.all (fun y => y.1.contains i || apT x y) && okL (i + 1) r
theorem apT_eq (md : Region.Mode) (ops : Array Oper) (x y : Oper) (h : apT (triO md ops x) (triO md ops y) = true) : x.apart ops y = true := by
  unfold apT triO at h
  unfold Oper.apart
  rw [Bool.and_eq_true] at *
  obtain ⟨h1, h2⟩ := h
  refine ⟨?_, ?_⟩
  · cases hx : x.dst with
    | none => rfl
    | some d =>
      rw [hx] at h1
      simp only [Bool.and_eq_true] at h1 ⊢
      refine ⟨h1.1, ?_⟩
      have h3 := h1.2
      cases hy : y.dst with
      | none => rfl
      | some d' =>
        rw [hy] at h3
        simp at h3 ⊢
        omega
  · cases hy : y.dst with
    | none => rfl
    | some d =>
      rw [hy] at h2
      exact h2
/-- The first k are listed, the others not. -/
def Upto (n k : Nat) (listed : Array Bool) : Prop := listed.size = n ∧ ∀ j, j < n → listed[j]? = some (decide (j < k))
theorem Upto.t {n k : Nat} {listed : Array Bool} (h : Upto n k listed) {j : Nat} (hj : j < n) (d : Bool) : listed.getD j d = decide (j < k) := by
  rw [Array.getD_eq_getD_getElem?, h.2 j hj]
  rfl
theorem Upto.set {n k : Nat} {listed : Array Bool} (h : Upto n k listed) (hk : k < n) : Upto n (k + 1) (listed.setIfInBounds k true) := by
  refine ⟨by rw [Array.size_setIfInBounds, h.1], fun j hj => ?_⟩
  rw [Array.getElem?_setIfInBounds]
  by_cases e : k = j
  · subst e
    rw [if_pos rfl, if_pos (by rw [h.1]; exact hk)]
    simp
  · rw [if_neg e, h.2 j hj]
    congr 1
    simp only [decide_eq_decide]
    omega
theorem lexFrom_okL (md : Region.Mode) (ops : Array Oper) : ∀ (l : List Oper) (k : Nat) (listed : Array Bool), ops.toList.drop k = l → Upto ops.size k listed → k ≤ ops.size → okL k (l.map (triO md ops)) = true → Region.lexFrom md ops l.length k listed = true
  | [], k, listed, hl, hu, hk, _ => by
    have hk2 : ops.size ≤ k := by
      have := congrArg List.length hl
      rw [List.length_drop, Array.length_toList, List.length_nil] at this
      omega
    show (Region.ready md ops listed).isEmpty = true
    rw [List.isEmpty_iff]
    unfold Region.ready
    rw [List.filter_eq_nil_iff]
    intro i hi
    rw [List.mem_range] at hi
    rw [hu.t hi, decide_eq_true (by omega)]
    simp
  | o :: r, k, listed, hl, hu, hk, h => by
    have hkn : k < ops.size := by
      have := congrArg List.length hl
      rw [List.length_drop, Array.length_toList, List.length_cons] at this
      omega
    have h0 : ops[k]? = some o := by
      have : (ops.toList.drop k)[0]? = some o := by rw [hl]; rfl
      rw [List.getElem?_drop, Nat.add_zero, Array.getElem?_toList] at this
      exact this
    have hr : ops.toList.drop (k + 1) = r := by
      rw [← List.drop_drop, hl]
      rfl
    rw [List.map_cons] at h
    unfold okL at h
    simp only [Bool.and_eq_true] at h
    obtain ⟨⟨h1, h2⟩, h3⟩ := h
    show ((Region.ready md ops listed).contains k && Region.free md ops listed k && Region.lexFrom md ops r.length (k + 1) (listed.setIfInBounds k true)) = true
    rw [Bool.and_eq_true, Bool.and_eq_true]
    refine ⟨⟨?_, ?_⟩, lexFrom_okL md ops r (k + 1) _ hr (hu.set hkn) hkn h3⟩
    · rw [List.contains_iff_mem, mem_ready]
      refine ⟨by rw [hu.t hkn]; simp, o, h0, fun e he hb => ?_⟩
      have := List.all_eq_true.1 h1 e.on (List.mem_map.2 ⟨e, List.mem_filter.2 ⟨Array.mem_toList_iff.2 he, hb⟩, rfl⟩)
      have hlt : e.on < k := by
        have h5 : e.on + 1 ≤ k := by simpa using this
        exact h5
      rw [hu.t (by omega), decide_eq_true hlt]
    · unfold Region.free
      rw [h0]
      show ((List.range ops.size).all _) = true
      rw [List.all_eq_true]
      intro j hj
      rw [List.mem_range] at hj
      rw [hu.t hj]
      by_cases hjk : j ≤ k
      · rcases Nat.lt_or_ge j k with hlt | hge
        · rw [decide_eq_true hlt]
          simp
        · obtain rfl : j = k := by omega
          simp
      · obtain ⟨oj, hoj⟩ : ∃ oj, ops[j]? = some oj := ⟨_, Array.getElem?_eq_getElem hj⟩
        have hm : oj ∈ r := by
          rw [← hr]
          have : (ops.toList.drop (k + 1))[j - (k + 1)]? = some oj := by
            rw [List.getElem?_drop, show k + 1 + (j - (k + 1)) = j by omega, Array.getElem?_toList]
            exact hoj
          exact List.mem_of_getElem? this
        have h4 := List.all_eq_true.1 h2 (triO md ops oj) (List.mem_map.2 ⟨oj, hm, rfl⟩)
        rw [hoj]
        show (j == k || decide (j < k) || (oj.after.any (fun e => Region.binds md e && e.on == k) || o.apart ops oj)) = true
        rw [Bool.or_eq_true] at h4
        rcases h4 with h4 | h4
        · have : oj.after.any (fun e => Region.binds md e && e.on == k) = true := by
            rw [List.contains_iff_mem] at h4
            obtain ⟨e, he, hk⟩ := List.mem_map.1 h4
            obtain ⟨he, hb⟩ := List.mem_filter.1 he
            rw [Array.any_eq_true']
            exact ⟨e, Array.mem_toList_iff.1 he, by rw [hb, hk]; simp⟩
          rw [this]
          simp
        · rw [apT_eq md ops o oj h4]
          simp
theorem lexB_of_table {md : Region.Mode} {l : List Oper} (T : List (List Nat × Nat × List Nat)) (hn : Region.noSelect l.toArray = true) (hT : l.map (triO md l.toArray) = T) (h : okL 0 T = true) : Region.lexB md l.toArray = true := by
  unfold Region.lexB
  rw [hn, Bool.true_and]
  subst hT
  refine lexFrom_okL md l.toArray l 0 _ (by simp) ⟨by simp, fun j hj => ?_⟩ (Nat.zero_le _) h
  rw [Array.getElem?_replicate, if_pos hj]
  simp
def tabB : List (List Nat × Nat × List Nat) := ([], 81, []) :: ([0, 0], 82, [80]) :: ([1], 83, [3, 81]) :: ([1, 2], 84, [81, 82]) :: ([3, 1], 85, [83]) :: ([4], 86, [2, 84]) :: ([5, 4], 87, [85, 84]) :: ([6, 4], 88, [86, 84]) :: ([4, 7], 89, [84, 87]) :: ([8, 4], 90, [88]) :: ([9], 91, [5, 89]) :: ([10, 9], 92, [90, 89]) :: ([9, 11], 93, [89, 91]) :: ([12, 9], 94, [92]) :: ([13], 95, [4, 93]) :: ([14, 13], 96, [94, 93]) :: ([15, 13], 97, [95, 93]) :: ([13, 16], 98, [93, 96]) :: ([17, 13], 99, [97]) :: ([18], 100, [4, 98]) :: ([19, 18], 101, [99, 98]) :: ([20, 18], 102, [100, 98]) :: ([18], 103, [1, 98]) :: ([22, 18], 104, [102, 98]) :: ([23, 18], 105, [103, 98]) :: ([21, 24, 18], 106, [101, 104, 98]) :: ([18, 25], 107, [98, 105]) :: ([26, 18], 108, [106]) :: ([27], 109, [8, 107]) :: ([27, 28], 110, [107, 108]) :: ([29, 27], 111, [109]) :: ([30], 112, [10, 110]) :: ([31, 30], 113, [111, 110]) :: ([30, 32], 114, [110, 112]) :: ([33, 30], 115, [113]) :: ([34], 116, [6, 114]) :: ([34], 117, [9, 114]) :: ([35, 36, 34, 34], 118, [115, 116, 114]) :: ([34, 37], 119, [114, 117]) :: ([38, 37], 120, [118]) :: ([39], 121, [13, 119]) :: ([39, 40], 122, [119, 120]) :: ([41, 39], 123, [121]) :: ([42], 124, [12, 122]) :: ([42], 125, [2, 122]) :: ([43, 44, 42], 126, [123, 124, 122]) :: ([42, 45], 127, [122, 125]) :: ([46, 42], 128, [126]) :: ([47], 129, [15, 127]) :: ([48, 47], 130, [128, 127]) :: ([47, 49], 131, [127, 129]) :: ([50, 47], 132, [130]) :: ([51], 133, [11, 131]) :: ([51], 134, [14, 131]) :: ([52, 53, 51, 51], 135, [132, 133, 131]) :: ([51, 54], 136, [131, 134]) :: ([55, 54], 137, [135]) :: ([56], 138, [17, 136]) :: ([56, 57], 139, [136, 137]) :: ([58, 56], 140, [138]) :: ([59], 141, [16, 139]) :: ([59], 142, [2, 139]) :: ([61, 59, 59], 143, [141, 139]) :: ([60, 62, 59], 144, [140, 142, 139]) :: ([59, 63], 145, [139, 143]) :: ([64, 62], 146, [144]) :: ([65], 147, [18, 145]) :: ([66, 65], 148, [146, 145]) :: ([67, 65], 149, [147, 145]) :: ([65, 68], 150, [145, 148]) :: ([69, 65], 151, [149]) :: ([70], 152, [18, 150]) :: ([71, 70], 153, [151, 150]) :: ([72, 70], 154, [152, 150]) :: ([70], 155, [1, 150]) :: ([74, 70], 156, [154, 150]) :: ([75, 70], 157, [155, 150]) :: ([76, 70], 158, [156, 150]) :: ([73, 77, 70], 159, [153, 157, 150]) :: ([70, 78], 160, [150, 158]) :: ([79, 70], 161, [159]) :: ([80], 162, [20, 160]) :: ([80, 81], 163, [160, 161]) :: ([82, 80], 164, [162]) :: ([83], 165, [19, 163]) :: ([83], 166, [1, 163]) :: ([85, 83], 167, [165, 163]) :: ([86, 83], 168, [166, 163]) :: ([84, 87, 83], 169, [164, 167, 163]) :: ([83, 88], 170, [163, 168]) :: ([89, 83], 171, [169]) :: ([90], 172, [22, 170]) :: ([90, 91], 173, [170, 171]) :: ([92, 90], 174, [172]) :: ([93], 175, [21, 173]) :: ([94, 93], 176, [174, 173]) :: ([95, 93], 177, [175, 173]) :: ([93, 96], 178, [173, 176]) :: ([97, 93, 0, 1, 2, 3, 4, 5, 6, 7, 8, 9, 10, 11, 12, 13, 14, 15, 16, 17, 18, 19, 20, 21, 22, 23, 24, 25, 26, 27, 28, 29, 30, 31, 32, 33, 34, 35, 36, 37, 38, 39, 40, 41, 42, 43, 44, 45, 46, 47, 48, 49, 50, 51, 52, 53, 54, 55, 56, 57, 58, 59, 60, 61, 62, 63, 64, 65, 66, 67, 68, 69, 70, 71, 72, 73, 74, 75, 76, 77, 78, 79, 80, 81, 82, 83, 84, 85, 86, 87, 88, 89, 90, 91, 92, 93, 94, 95, 96, 97], 1, [177]) :: []
theorem tabB_ok : okL 0 tabB = true := by decide +kernel
end Go.Proofs.YtfaijkgfhdhhbaaGreatDoor

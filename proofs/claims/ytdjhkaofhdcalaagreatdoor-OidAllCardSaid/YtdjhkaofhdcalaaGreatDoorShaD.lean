/-
  How a sha.Hash lies in memory; a copy into a block that is known whole.
-/
import Derived.Test.YtdjhkaofhdcalaaGreatDoorShaC
import Derived.Laws.CopyOwn
namespace Go.Proofs.YtdjhkaofhdcalaaGreatDoor
open Go.RowKit

/-! ### A hash's cells -/
def stl (s : ShaM.St) : List Value := [U s.a, U s.b, U s.c, U s.d, U s.e, U s.f, U s.g, U s.h]
/-- The cells of a hash: the state, the part, the size. -/
def hl (s : ShaM.St) (pt : List UInt8) (n : Nat) : List Value := stl s ++ (pt.map Y ++ [.int .u64 (n : Int)])
theorem stl_len (s : ShaM.St) : (stl s).length = 8 := rfl
theorem hl_len (s : ShaM.St) (pt : List UInt8) (n : Nat) (h : pt.length = 64) : (hl s pt n).length = 73 := by simp [hl, stl, h]
theorem hl_size (s : ShaM.St) (pt : List UInt8) (n : Nat) (h : pt.length = 64) : (hl s pt n).toArray.size = 73 := by simp [hl_len s pt n h]
theorem hl_isSt (s : ShaM.St) (pt : List UInt8) (n : Nat) : IsSt (hl s pt n).toArray s := ⟨rfl, rfl, rfl, rfl, rfl, rfl, rfl, rfl⟩
theorem hl_part (s : ShaM.St) (pt : List UInt8) (n i : Nat) (h : i < pt.length) : (hl s pt n).toArray[8 + i]? = some (Y (pt.getD i 0)) := by
  simp only [hl, List.getElem?_toArray]
  rw [List.getElem?_append_right (by rw [stl_len]; omega), stl_len, show 8 + i - 8 = i by omega, List.getElem?_append_left (by simpa using h)]
  simp [List.getElem?_eq_getElem h]
theorem hl_sz (s : ShaM.St) (pt : List UInt8) (n : Nat) (h : pt.length = 64) : (hl s pt n).toArray[72]? = some (.int .u64 (n : Int)) := by
  simp only [hl, List.getElem?_toArray]
  rw [List.getElem?_append_right (by rw [stl_len]; omega), stl_len, List.getElem?_append_right (by simp [h])]
  simp [h]
theorem hl_set (s s' : ShaM.St) (pt : List UInt8) (n : Nat) : setSt (hl s pt n).toArray s' = (hl s' pt n).toArray := by
  simp [setSt, hl, stl]
theorem hl_resize (s : ShaM.St) (pt : List UInt8) (n m : Nat) (h : pt.length = 64) : (hl s pt n).toArray.setIfInBounds 72 (.int .u64 (m : Int)) = (hl s pt m).toArray := by
  apply Array.ext'
  simp only [hl, Array.toList_setIfInBounds]
  rw [List.set_append_right _ _ (by rw [stl_len]; omega), stl_len, List.set_append_right _ _ (by simp [h])]
  simp [h]
/-- The part, laid over from place k on. -/
def lay (pt : List UInt8) (k : Nat) (bs : List UInt8) : List UInt8 := pt.take k ++ (bs ++ pt.drop (k + bs.length))
theorem lay_len (pt : List UInt8) (k : Nat) (bs : List UInt8) (h : k + bs.length ≤ pt.length) : (lay pt k bs).length = pt.length := by simp [lay]; omega
theorem lay_take (pt : List UInt8) (k : Nat) (bs : List UInt8) (h : k + bs.length ≤ pt.length) : (lay pt k bs).take (k + bs.length) = pt.take k ++ bs := by
  simp only [lay]
  rw [← List.append_assoc, List.take_append_of_le_length (by simp; omega), List.take_of_length_le (by simp; omega)]
theorem hl_splice (s : ShaM.St) (pt : List UInt8) (n k : Nat) (bs : List UInt8) (h : k + bs.length ≤ pt.length) : splice (hl s pt n) (8 + k) (bs.map Y) = hl s (lay pt k bs) n := by
  simp only [splice, hl, lay, List.length_map]
  have e1 : List.take (8 + k) (stl s ++ (pt.map Y ++ [Value.int .u64 (n : Int)])) = stl s ++ (pt.take k).map Y := by
    rw [List.take_append, stl_len, List.take_of_length_le (by rw [stl_len]; omega), show 8 + k - 8 = k by omega, List.take_append_of_le_length (by simp; omega), List.map_take]
  have e2 : List.drop (8 + k + bs.length) (stl s ++ (pt.map Y ++ [Value.int .u64 (n : Int)])) = (pt.drop (k + bs.length)).map Y ++ [Value.int .u64 (n : Int)] := by
    rw [List.drop_append, stl_len, List.drop_of_length_le (by rw [stl_len]; omega), show 8 + k + bs.length - 8 = k + bs.length by omega, List.drop_append_of_le_length (by simp; omega), List.map_drop]
    rfl
  rw [e1, e2]
  simp
theorem hl_state (s s' : ShaM.St) (pt : List UInt8) (n : Nat) : splice (hl s pt n) 0 (stl s') = hl s' pt n := by simp [splice, hl, stl]
theorem hl_one (s : ShaM.St) (pt : List UInt8) (n : Nat) : (hl s pt n).toArray.all (·.oneCell') = true := by
  rw [Array.all_eq_true_iff_forall_mem]
  intro x hx
  simp only [hl, stl, List.mem_toArray, List.mem_append, List.mem_cons, List.mem_map, List.not_mem_nil, or_false] at hx
  rcases hx with hx | ⟨_, _, rfl⟩ | rfl
  · rcases hx with rfl | rfl | rfl | rfl | rfl | rfl | rfl | rfl <;> rfl
  · rfl
  · rfl
theorem ys_one (bs : List UInt8) : ∀ v ∈ bs.map Y, v.oneCell' = true := by
  intro v hv
  obtain ⟨_, _, rfl⟩ := List.mem_map.1 hv
  rfl

/-- Block b is the hash of the text X. -/
def HashAt (w : World) (b T : Nat) (X : List UInt8) : Prop :=
  ∃ s pt, pt.length = 64 ∧ Whole w b T (hl s pt X.length).toArray ∧ (X ≠ [] → s = ShaM.stOf X) ∧ pt.take (X.length % 64) = ShaM.tl X
theorem HashAt.lt {w : World} {b T : Nat} {X : List UInt8} (h : HashAt w b T X) : b < w.heap.size := by
  obtain ⟨_, _, _, h, _⟩ := h; exact h.lt
theorem HashAt.below {w w' : World} {b T B : Nat} {X : List UInt8} (h : HashAt w b T X) (hb : Below B w w') (hB : b < B) : HashAt w' b T X := by
  obtain ⟨s, pt, h1, h2, h3⟩ := h
  exact ⟨s, pt, h1, h2.below hb hB, h3⟩
theorem HashAt.grown {w w' : World} {b T : Nat} {X : List UInt8} {row : Option Nat} (h : HashAt w b T X) (hb : w.grownBy w' row) (hn : some b ≠ row) : HashAt w' b T X := by
  obtain ⟨s, pt, h1, h2, h3⟩ := h
  exact ⟨s, pt, h1, h2.grown hb hn, h3⟩

/-! ### Stores of many cells -/
theorem Whole.cells {g t : Nat} : ∀ (vs : List Value) (o : Nat) (cs : List Value) (w : World), Whole w g t cs.toArray → o + vs.length ≤ cs.length → Whole (w.setCells g o vs) g t (splice cs o vs).toArray
  | [], o, cs, w, h, _ => by simpa [splice, World.setCells] using h
  | v :: r, o, cs, w, h, hl => by
    have h1 := h.put o v
    have e : cs.toArray.setIfInBounds o v = (cs.set o v).toArray := by simp
    rw [e] at h1
    have h2 := Whole.cells r (o + 1) (cs.set o v) _ h1 (by simp at hl ⊢; omega)
    have e2 : splice (cs.set o v) (o + 1) r = splice cs o (v :: r) := by
      simp only [List.length_cons] at hl
      simp only [splice, List.length_cons]
      rw [List.take_set, List.take_succ_eq_append_getElem (by omega), List.drop_set_of_lt (by omega), show o + 1 + r.length = o + (r.length + 1) by omega,
        List.set_append_right _ _ (by simp; omega)]
      simp
      congr 1
      rw [show o - min o cs.length = 0 by omega]
      rfl
    rw [e2] at h2
    exact h2
theorem gr_cells {a : World} {g : Nat} : ∀ (vs : List Value) (o : Nat) (w : World), a.grownBy w (some g) → a.grownBy (w.setCells g o vs) (some g)
  | [], _, _, h => h
  | v :: r, o, _, h => gr_cells r (o + 1) _ (gr_set h (.inl rfl) v)
theorem gr_row {a w : World} {g : Nat} (h : a.grownBy w (some g)) (cs : Array Value) : a.grownBy (w.setRow g cs) (some g) :=
  ⟨h.os, h.tape, h.output, by simpa using h.size, fun i hi hn => (setRow_other w g i cs (fun e => hn (by rw [e]))).trans (h.block i hi hn)⟩

/-- The builtin copy into a block that is known whole. -/
theorem wpList_copy_whole {P : Program} {w : World} {ops : Array Oper} {rest : List Oper} {o : Oper} {a : Act} {Q : Exit → Act → World → Prop} (hgd : o.guard = none) (d s : Operand) (dT sT : TypeId)
    (ho : o.op = .call { callee := .builtin .copy, args := #[d, s], argTypes := #[dT, sT] }) (elem : TypeId) (hu : P.underlying dT = some (.slice elem)) (hsz : (P.info? elem).map (·.size) = some 1)
    (sp : Option Addr) (dLen dCap sLen sCap : Nat) (g off : Nat) (hd : a.eval d = .slice (some ⟨g, off, none⟩) dLen dCap) (hs : a.eval s = .slice sp sLen sCap)
    (cur : List Value) (t : TypeId) (hg : Whole w g t cur.toArray) (cs : List Value) (hn : cs.length = Nat.min sLen dLen)
    (hpos : 0 < cs.length → ∃ ad, sp = some ad ∧ ∀ j v, cs[j]? = some v → w.cell? (ad.add j) = some v)
    (hfit : off + cs.length ≤ cur.length) (h1 : ∀ v ∈ cs, v.oneCell' = true)
    (h : ∀ w', Whole w' g t (splice cur off cs).toArray → w.grownBy w' (some g) → wpList P ops Q rest (a.put o.dst (goInt cs.length)) w') : wpList P ops Q (o :: rest) a w := by
  by_cases h0 : cs.length = 0
  · obtain rfl : cs = [] := List.eq_nil_of_length_eq_zero h0
    exact wpList_copy_nothing hgd d s dT sT ho elem hu hsz _ sp dLen dCap sLen sCap hd hs (by simpa using hn.symm) (h w (by simpa [splice] using hg) (gr_refl _ _))
  · obtain ⟨ad, rfl, hsrc⟩ := hpos (by omega)
    refine wpList_copy_own hgd d s dT sT ho elem hu hsz g off dLen dCap ad sLen sCap hd hs cur.toArray t hg cs hn hsrc (by simpa using hfit) h1 (h _ ?_ (gr_row (gr_refl _ _) _))
    have := setRow_heap w g cur.toArray (cur.take off ++ (cs ++ cur.drop (off + cs.length))).toArray t _ hg
    simpa [Whole, splice] using this
end Go.Proofs.YtdjhkaofhdcalaaGreatDoor

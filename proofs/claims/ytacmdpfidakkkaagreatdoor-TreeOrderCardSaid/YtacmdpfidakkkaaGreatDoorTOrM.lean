/-
  TreeOrder: slices of entries cut, an entry stored into a row of the call's own.
-/
import Derived.Test.YtacmdpfidakkkaaGreatDoorAppE
import Derived.Test.YtacmdpfidakkkaaGreatDoorTOrN
import Derived.Test.YtacmdpfidakkkaaGreatDoorComQ
namespace Go.Proofs.YtacmdpfidakkkaaGreatDoor
open Go.RowKit

theorem slice_fromE {w : World} {A : Option Addr} {c : Nat} {ids : List En} (h : ArgE w A c ids) (k : Nat) (hk : k ≤ ids.length) :
    ∃ A', (∀ W, (Instr.slice 22 (.slice A ids.length c) (some (.int .i64 (k : Int))) none none).run Tryz.prog W = .ok (.slice A' (ids.drop k).length (c - k)) W) ∧ ArgE w A' (c - k) (ids.drop k) := by
  obtain ⟨h1, h2, h3, h4⟩ := h
  refine ⟨if c = k then A else A.map (·.add (k * 34)), fun W => ?_, ?_⟩
  · have hel : Tryz.prog.elem 22 = 42 := by simp [Program.elem, Tryz.underlying22]
    have h := run_slice_l (P := Tryz.prog) (w := W) (t := 22) (a := A) (len := ids.length) (cap := c) (by rw [hel]; exact Tryz.underlying22) .i64 (k : Int) (by omega) (by omega)
    rw [h, hel, Tryz.sizeOf42]
    simp [sliced]
  · refine ⟨by rw [List.length_drop]; omega, by omega, fun e => ?_, fun h0 => ?_⟩
    · split at e
      · omega
      · cases A with
        | none => have := h3 rfl; omega
        | some a => cases e
    · rw [List.length_drop] at h0
      obtain ⟨b, o, rfl, hr⟩ := h4 (by omega)
      have hca : ¬ c = k := by omega
      refine ⟨b, o + k * 34, by rw [if_neg hca]; simp [Addr.add_mid], fun i hi => ?_⟩
      rw [List.length_drop] at hi
      have := hr (k + i) (by omega)
      have e : (ids.drop k).getD i default = ids.getD (k + i) default := by simp [List.getD, List.getElem?_drop]
      rw [e]
      rw [show o + k * 34 + i * 34 = o + (k + i) * 34 by omega]
      exact this
theorem wp_buildE {o : Oper} {a : Act} {w : World} {K : Act → World → Prop} {Q : Exit → Act → World → Prop} (t : Operand) (ho : o.op = .buildSlice 22 1 #[(0, t)]) (x : En) (hx : a.eval t = .agg (encE x).toArray)
    (h : K (a.put o.dst (.slice (some ⟨w.heap.size, 0, none⟩) 1 1)) (w.alloc (.cells (encE x).toArray 42))) : o.wp Tryz.prog a w K Q := by
  have hb := run_build_E x w
  unfold Oper.wp
  simp [execOp, ho, hx, hb, Result.andThen]
  exact h
theorem arg_oneE' {w : World} {g : Nat} {x : En} (h : Whole w g 42 (encE x).toArray) : ArgE w (some ⟨g, 0, none⟩) 1 [x] := by
  refine ⟨Nat.le_refl _, by unfold maxLen; omega, (fun e => by cases e), fun _ => ⟨g, 0, rfl, fun i hi j v hv => ?_⟩⟩
  obtain rfl : i = 0 := by simpa using hi
  rw [show 0 + 0 * 34 + j = j by omega, h.at_, List.getElem?_toArray]
  exact hv
theorem own_weaken {w : World} {B B' : Nat} {v : Value} {n : Nat} {xs : List Value} {e : TypeId} {k : Nat} (h : w.ownsRow B e k v n xs) (hb : B' ≤ B) : w.ownsRow B' e k v n xs := by
  refine ⟨h.1, ?_⟩
  rcases h.2 with h0 | ⟨g, cap, cur, hv, hB, rest⟩
  · exact .inl h0
  · exact .inr ⟨g, cap, cur, hv, by omega, rest⟩
theorem flatE_set : ∀ (l : List En) (i : Nat) (x : En), i < l.length → (l.set i x).flatMap encE = (l.flatMap encE).take (i * 34) ++ encE x ++ (l.flatMap encE).drop (i * 34 + 34)
  | [], _, _, h => absurd h (Nat.not_lt_zero _)
  | y :: l, 0, x, _ => by
    have := encE_len y
    simp [this]
  | y :: l, i + 1, x, h => by
    have ih := flatE_set l i x (by simpa using h)
    have hy := encE_len y
    rw [List.set_cons_succ, List.flatMap_cons, List.flatMap_cons, ih]
    rw [List.take_append, List.drop_append, List.take_of_length_le (show (encE y).length ≤ (i + 1) * 34 by omega), List.drop_eq_nil_of_le (show (encE y).length ≤ (i + 1) * 34 + 34 by omega), hy]
    rw [show (i + 1) * 34 - 34 = i * 34 by omega, show (i + 1) * 34 + 34 - 34 = i * 34 + 34 by omega]
    simp
theorem own_there {w : World} {B g n c : Nat} {l : List En} (h : w.ownsRow B 42 34 (.slice (some ⟨g, 0, none⟩) n c) n (l.flatMap encE)) (i : Nat) (hi : i < n) (x : En) : w.there g (0 + i * 34) (encE x).toArray.size := by
  rcases h.2 with ⟨h0, -⟩ | ⟨g', cap, cur, hv, hB, hg, hn, hm, hs, ht⟩
  · cases h0
  · injection hv with e1 e2 e3
    injection e1 with e1
    injection e1 with e1
    subst e1
    have hW : Whole w g 42 cur := hg
    intro j hj
    rw [encE_size] at hj
    refine ⟨?_, hW.thawed _⟩
    rw [hW.at_, Array.getElem?_eq_getElem (by rw [hs]; omega)]
    rfl
theorem own_set {w : World} {B g n c : Nat} {l : List En} (h : w.ownsRow B 42 34 (.slice (some ⟨g, 0, none⟩) n c) n (l.flatMap encE)) (hl : l.length = n) (i : Nat) (hi : i < n) (x : En) : (w.setCells g (0 + i * 34) (encE x)).ownsRow B 42 34 (.slice (some ⟨g, 0, none⟩) n c) n ((l.set i x).flatMap encE) := by
  have hx := encE_len x
  refine ⟨by rw [flatE_len, List.length_set, hl], ?_⟩
  rcases h.2 with ⟨h0, -⟩ | ⟨g', cap, cur, hv, hB, hg, hn, hm, hs, ht⟩
  · cases h0
  · injection hv with e1 e2 e3
    injection e1 with e1
    injection e1 with e1
    subst e1 e3
    have hW : Whole w g 42 cur := hg
    have h9 := whole_over (encE x) (0 + i * 34) w cur hW (by rw [hs]; omega)
    have hcl : cur.toList.length = c * 34 := by rw [Array.length_toList, hs]
    refine .inr ⟨g, c, _, rfl, hB, h9, hn, hm, ?_, ?_⟩
    · rw [List.size_toArray, List.length_append, List.length_append, List.length_take, List.length_drop, hx, hcl]
      omega
    · rw [flatE_set l i x (by omega), ← ht]
      show List.take (n * 34) (List.take (0 + i * 34) cur.toList ++ encE x ++ List.drop (0 + i * 34 + (encE x).length) cur.toList) = _
      rw [hx, Nat.zero_add]
      apply List.ext_getElem?
      intro j
      simp only [List.getElem?_take, List.getElem?_append, List.getElem?_drop, List.length_append, List.length_take, hx, hcl]
      have m1 : min (i * 34) (c * 34) = i * 34 := by omega
      have m2 : min (i * 34) (n * 34) = i * 34 := by omega
      have m3 : min (i * 34) (min (n * 34) (c * 34)) = i * 34 := by omega
      rw [m1, m3]
      by_cases j1 : j < i * 34
      · rw [if_pos (by omega), if_pos (by omega), if_pos j1, if_pos j1, if_pos (by omega), if_pos (by omega), if_pos j1, if_pos (by omega)]
      · by_cases j2 : j < i * 34 + 34
        · rw [if_pos (by omega), if_pos (by omega), if_neg j1, if_pos (by omega), if_neg j1]
        · by_cases j3 : j < n * 34
          · rw [if_pos j3, if_neg (by omega), if_neg (by omega), if_pos (by omega)]
          · rw [if_neg j3, if_neg (by omega), if_neg (by omega)]
end Go.Proofs.YtacmdpfidakkkaaGreatDoor

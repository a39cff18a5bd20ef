/-
  append of entries to a slice of the call's own, in a region that draws.
-/
import Derived.Test.YtacmdpfidakkkaaGreatDoorMgs
import Derived.Test.YtacmdpfidakkkaaGreatDoorMgr
namespace Go.Proofs.YtacmdpfidakkkaaGreatDoor
open Go.RowKit

theorem row_flatE {w : World} {b o : Nat} {es : List En} (h : RowE w b o es) : ∀ j u, (es.flatMap encE)[j]? = some u → w.cell? ⟨b, o + j, none⟩ = some u := by
  intro j u hu
  have hj : j < es.length * 34 := by
    rw [← flatE_len]
    exact (List.getElem?_eq_some_iff.1 hu).1
  rw [show j = j / 34 * 34 + j % 34 by omega, flatE_at es _ _ (by omega) (by omega)] at hu
  have := h (j / 34) (by omega) (j % 34) u hu
  rw [show o + j / 34 * 34 + j % 34 = o + j by omega] at this
  exact this
theorem flatE_one (es : List En) : ∀ u ∈ es.flatMap encE, u.oneCell' = true := by
  intro u hu
  obtain ⟨x, -, hx⟩ := List.mem_flatMap.1 hu
  exact encE_one x u hx
theorem own_lowE {w : World} {B : Nat} {v : Value} {es : List En} {A : Option Addr} {n c : Nat} (h : w.ownsRow B 42 34 v es.length (es.flatMap encE)) (e : v = .slice A n c) : ∀ j, inBlk A j → B ≤ j := by
  rintro j ⟨a, rfl, rfl⟩
  subst e
  rcases h.2 with ⟨h0, -⟩ | ⟨g, cap, cur, hv, hB, -⟩
  · cases h0
  · injection hv with e1 e2 e3
    injection e1 with e1
    subst e1
    exact hB
set_option maxRecDepth 100000 in
theorem wp_appendE {o : Oper} {a : Act} {w : World} {K : Act → World → Prop} {Q : Exit → Act → World → Prop} (s x : Operand) (ho : o.op = .call { callee := .builtin .append, args := #[s, x], argTypes := #[22, 22] })
    (B : Nat) (v : Value) (xs : List En) (hs : a.eval s = v) (hown : w.ownsRow B 42 34 v xs.length (xs.flatMap encE)) (A : Option Addr) (n c : Nat) (ys : List En) (hn : ys.length = n) (hx : a.eval x = .slice A n c) (hy : ArgE w A c ys)
    (hB : B ≤ w.heap.size) (hl : xs.length + ys.length ≤ 1000) (h : ∀ v' w', w'.ownsRow B 42 34 v' (xs ++ ys).length ((xs ++ ys).flatMap encE) → Below B w w' → K (a.put o.dst v') w') : o.wp Tryz.prog a w K Q := by
  subst hn
  cases hq : Tryz.prog.info? 42 with
  | none =>
    have := info34
    rw [hq] at this
    cases this
  | some i0 =>
    have hi := info34
    rw [hq] at hi
    simp only [Option.map_some, Option.some.injEq, Prod.mk.injEq] at hi
    obtain ⟨h1, h2, h3⟩ := hi
    cases A with
    | none =>
      obtain ⟨rfl, rfl⟩ := hy.nil
      have hrun := run_append_owned_none (P := Tryz.prog) (w := w) B 22 o.type 42 i0 34 Tryz.underlying22 hq v xs.length (xs.flatMap encE) hown
      unfold Oper.wp
      simp [execOp, ho, resolve, invoke, builtin, hs, hx, hrun, Result.andThen]
      exact h v w (by simpa using hown) (Below.refl _ _)
    | some ad =>
      refine wp_append_own w s x 22 ho B 42 i0 (.agg (encE zE).toArray) 34 56 Tryz.underlying22 hq h1 h2 h3 (encE_size zE) (by decide) v xs.length (xs.flatMap encE) hs hown ad ys.length c (ys.flatMap encE) hx (flatE_len ys) (fun j u hu => ?_) (flatE_one ys) (by unfold maxLen; omega) (by omega) hB (fun v' w' h4 h5 _ => ?_)
      · have hj := (List.getElem?_eq_some_iff.1 hu).1
        rw [flatE_len] at hj
        obtain ⟨b, off, e, hr⟩ := hy.2.2.2 (by omega)
        injection e with e
        subst e
        rw [Addr.add_mid]
        exact row_flatE hr j u hu
      · refine h v' w' (by rw [List.length_append, List.flatMap_append]; exact h4) ?_
        refine ⟨h5.os, h5.tape, h5.output, h5.size, fun k hk => h5.block k (by omega) ?_⟩
        intro e
        rcases hown.2 with ⟨rfl, -⟩ | ⟨g, cap, cur, rfl, hg, -⟩
        · cases e
        · simp [Value.ownBlock] at e
          omega
end Go.Proofs.YtacmdpfidakkkaaGreatDoor

/-
  CommitNote, walked.
-/
import Derived.Test.YtdmafodppcbglaaGreatDoorONone
namespace Go.Proofs.YtdmafodppcbglaaGreatDoor
open Go.RowKit

theorem cn_len (n0 : Int) : ∃ m : Nat, 95 ≤ m ∧ m ≤ 104 ∧ wrap64 (95 + (wrap64 (n0.tmod 10 + 10)).tmod 10) = (m : Int) := by
  have h1 := Int.tmod_lt_of_pos n0 (show (0 : Int) < 10 by decide)
  have h2 := Int.lt_tmod_of_pos n0 (show (0 : Int) < 10 by decide)
  generalize n0.tmod 10 = x at *
  have e : wrap64 (x + 10) = x + 10 := by unfold wrap64; omega
  rw [e]
  have e2 : (x + 10).tmod 10 = (x + 10) % 10 := Int.tmod_eq_emod_of_nonneg (by omega)
  rw [e2]
  exact ⟨(95 + (x + 10) % 10).toNat, by omega, by omega, by unfold wrap64; omega⟩
def cmN (l : List UInt8) : Cm := ⟨⟨List.replicate 32 0, List.length_replicate⟩, [], 4617315517961601024, l⟩
theorem cmN_may (l : List UInt8) : mayC (cmN l) = decide (l.length ≤ 100) := by
  show (mayP [] && Flo.may 4617315517961601024 && decide (l.length ≤ 100)) = _
  rw [show mayP [] = true by decide, show Flo.may 4617315517961601024 = true by decide]
  rfl
def cnB (s : ByteArray) : Array Value := #[Value.int IntKind.u8 0, Value.int IntKind.u8 0, Value.int IntKind.u8 0, Value.int IntKind.u8 0, Value.int IntKind.u8 0, Value.int IntKind.u8 0, Value.int IntKind.u8 0, Value.int IntKind.u8 0, Value.int IntKind.u8 0, Value.int IntKind.u8 0, Value.int IntKind.u8 0, Value.int IntKind.u8 0, Value.int IntKind.u8 0, Value.int IntKind.u8 0, Value.int IntKind.u8 0, Value.int IntKind.u8 0, Value.int IntKind.u8 0, Value.int IntKind.u8 0, Value.int IntKind.u8 0, Value.int IntKind.u8 0, Value.int IntKind.u8 0, Value.int IntKind.u8 0, Value.int IntKind.u8 0, Value.int IntKind.u8 0, Value.int IntKind.u8 0, Value.int IntKind.u8 0, Value.int IntKind.u8 0, Value.int IntKind.u8 0, Value.int IntKind.u8 0, Value.int IntKind.u8 0, Value.int IntKind.u8 0, Value.int IntKind.u8 0, Value.slice none 0 0, Value.float FloatKind.f64 4617315517961601024, Value.string s]
theorem cnB_eq (l : List UInt8) : cnB ⟨l.toArray⟩ = (encC none 0 (cmN l)).toArray := by kernel_rfl
theorem cnB_info (s : ByteArray) : (Tryz.prog.info? 57).map (·.size) = some (cnB s).size := by kernel_rfl
theorem cnB_all (s : ByteArray) : (cnB s).all (·.oneCell') = true := by kernel_rfl
theorem cnB_s (s : ByteArray) : 35 = (cnB s).size := rfl
theorem cn_put (l : List UInt8) (w : World) : Calls Tryz.prog 30 #[.agg (cnB ⟨l.toArray⟩)] w fun e w' => e = .returned (.tuple #[.string ⟨(if l.length ≤ 100 then bytesC (cmN l) else []).toArray⟩, .bool (decide (l.length ≤ 100))]) ∧ Below w.heap.size w w' := by
  have h := cput_any none 0 (cmN l) w (nilN w) (by show (4617315517961601024 : Nat) < _; decide)
  rw [cmN_may] at h
  rw [cnB_eq]
  simpa only [decide_eq_true_eq] using h
theorem cn_get (l : List UInt8) (w : World) (hl : l.length ≤ 100) (hb : (bytesC (cmN l)).length ≤ 1048576) : Calls Tryz.prog 32 #[.string ⟨(bytesC (cmN l)).toArray⟩] w fun e w' => (∃ A c, e = .returned (.tuple #[.agg (encC A c (cmN l)).toArray, .int .i64 0])) ∧ Below w.heap.size w w' := by
  refine (cget_any _ w hb).mono ?_
  rintro e w' ⟨h, hb⟩
  refine ⟨?_, hb⟩
  have hg0 := readC_put (cmN l) (by show (4617315517961601024 : Nat) < _; decide) (by rw [cmN_may]; simpa using hl)
  rcases h with ⟨x, A, c, hg, he, -⟩ | ⟨hg, -⟩
  · rw [hg0] at hg
    injection hg with hg
    subst hg
    exact ⟨A, c, he⟩
  · rw [hg0] at hg
    cases hg
theorem cn_bytes (l : List UInt8) (hl : l.length ≤ 100) : (bytesC (cmN l)).length ≤ 1048576 := by
  have e : (bytesC (cmN l)).length = (bytesC (cmN [])).length + l.length := by
    unfold bytesC cmN
    simp only [List.length_append, List.length_nil]
    omega
  have : (bytesC (cmN [])).length ≤ 1000 := by decide +kernel
  omega
/-- The text with line ends laid on till it has m signs, the first m of it. -/
def padN (l : List UInt8) (k : Nat) : List UInt8 := l ++ List.replicate k 10
theorem padN_snoc (l : List UInt8) (k : Nat) : (⟨(padN l k).toArray⟩ ++ ⟨#[10]⟩ : ByteArray) = ⟨(padN l (k + 1)).toArray⟩ := by
  refine ByteArray.ext ?_
  rw [ByteArray.data_append]
  show (l ++ List.replicate k (10 : UInt8)).toArray ++ [10].toArray = (l ++ List.replicate (k + 1) 10).toArray
  rw [List.append_toArray, List.append_assoc, ← List.replicate_succ']
theorem padN_len (l : List UInt8) (k : Nat) : (padN l k).length = l.length + k := by simp [padN]
theorem cn_take (l : List UInt8) (n : Nat) (hn : n ≤ l.length) (w : World) : (Instr.slice 9 (.string ⟨l.toArray⟩) none (some (.int .i64 (n : Int))) none).run Tryz.prog w = .ok (.string ⟨(l.take n).toArray⟩) w := by
  have h := str_cut l 0 n (Nat.zero_le _) hn w
  rw [List.drop_zero] at h
  exact h
attribute [local irreducible] nC
set_option maxRecDepth 100000 in
set_option maxHeartbeats 4000000 in
theorem cnote_any (l : List UInt8) (n0 : Int) (w : World) (hE : Env w) (hT : Tens w) : Calls Tryz.prog 10 #[.string ⟨l.toArray⟩, .int .i64 n0] w fun e w' => e = .returned (.bool true) ∧ Below w.heap.size w w' := by
  have HE := Lib.hid hE
  have HT := Lib.hid hT
  clear hE hT
  obtain ⟨m, hm1, hm2, hmw⟩ := cn_len n0
  go_enter Tryz.func10, Tryz.ntmps10
  go_wp2_with fail
  refine (begun6_any w HE.out HT.out).mono ?_
  rintro e w1 ⟨rfl, hb⟩
  have T1 := Lib.hid hb
  clear hb
  go_wp2_with fail
  go_loopw [0] (fun s wr => ∃ k : Nat, (k = 0 ∨ l.length + k ≤ m) ∧ s = .string ⟨(padN l k).toArray⟩ ∧ wr = w1) (fun s _ => m - (match s with | .string b => b.size | _ => 0))
  case atStart => exact ⟨0, .inl rfl, by simp [padN], rfl⟩
  case round =>
    obtain ⟨k, hk, rfl, rfl⟩ := hrel
    have hql := padN_len l k
    by_cases hlt : l.length + k < m
    · go_wp2
      rw [padN_snoc]
      refine ⟨⟨k + 1, .inr (by omega), rfl, trivial⟩, ?_⟩
      show m - (padN l (k + 1)).toArray.size < m - (padN l k).toArray.size
      rw [List.size_toArray, List.size_toArray, padN_len, padN_len]
      omega
    · obtain ⟨nt, hnt⟩ : ∃ nt, nt = (padN l k).take m := ⟨_, rfl⟩
      have hnl : nt.length = m := by rw [hnt, List.length_take, hql]; omega
      have hsl := cn_take (padN l k) m (by omega)
      rw [← hnt] at hsl
      have HNL := Lib.hid hnl
      by_cases h100 : m ≤ 100
      · have HPUT : Hid (∀ W, Calls Tryz.prog 30 #[.agg (cnB ⟨nt.toArray⟩)] W fun e w' => e = .returned (.tuple #[.string ⟨(bytesC (cmN nt)).toArray⟩, .bool true]) ∧ Below W.heap.size W w') := fun W => by
          have h := cn_put nt W
          rw [if_pos (by omega), decide_eq_true (by omega)] at h
          exact h
        have HGET := Lib.hid fun W => cn_get nt W (by omega) (cn_bytes nt (by omega))
        have q1 : decide ((m : Int) ≤ 100) = true := by simp; omega
        clear hnl hnt hk hm1 hm2 h100
        generalize bytesC (cmN nt) = bs at *
        go_upto_region 9 with (refine wpList_store_whole rfl 57 _ _ rfl wr.heap.size (cnB ⟨nt.toArray⟩) rfl rfl 57 _ (Whole.made wr _ _) (cnB_info _) (cnB_s _) (cnB_all _) ?_; intro w2 hWn hGn; have HW2 := Lib.hid hWn; have HG2 := Lib.hid hGn; clear hWn hGn)
        have hv : Below wr.heap.size wr w2 := be_grown ((Below.refl wr.heap.size wr).alloc (Nat.le_refl _) _) HG2.out (by simp) (fun j hj => by injection hj with hj; omega)
        have T2 := Lib.hid (T1.out.trans (hv.mono T1.out.size))
        clear hv HG2
        go_wp2_with (refine wpList_load_row rfl 57 _ rfl wr.heap.size rfl 57 (cnB ⟨nt.toArray⟩) (0, 0) _ HW2.out Tryz.underlying57 rfl (cnB_info _) ?_)
        refine (HPUT.out w2).mono ?_
        rintro e w3 ⟨rfl, hb⟩
        have T3 := Lib.hid (T2.out.trans (hb.mono T2.out.size))
        clear hb
        go_wp2_with fail
        refine (HGET.out w3).mono ?_
        rintro e v4 ⟨⟨A4, c4, rfl⟩, hb⟩
        have T4v := Lib.hid (T3.out.trans (hb.mono T3.out.size))
        clear hb
        go_upto_region 11 with (refine wpList_store_whole rfl 57 _ _ rfl v4.heap.size (encC A4 c4 (cmN nt)).toArray rfl rfl 57 _ (Whole.made v4 _ _) (infoC_s _ _ _) (by rw [encC_s]; rfl) (encC_all _ _ _) ?_; intro w4 hWn hGn; have HW4 := Lib.hid hWn; have HG4 := Lib.hid hGn; clear hWn hGn)
        have hv : Below v4.heap.size v4 w4 := be_grown ((Below.refl v4.heap.size v4).alloc (Nat.le_refl _) _) HG4.out (by simp) (fun j hj => by injection hj with hj; omega)
        have T4 := Lib.hid (T4v.out.trans (hv.mono T4v.out.size))
        clear hv HG4
        have e34 : w4.cell? ⟨v4.heap.size, 34, none⟩ = some (.string ⟨nt.toArray⟩) := (HW4.out.at_ 34).trans rfl
        go_wp2
        go_ret
        exact ⟨rfl, T4.out⟩
      · have HPUT : Hid (∀ W, Calls Tryz.prog 30 #[.agg (cnB ⟨nt.toArray⟩)] W fun e w' => e = .returned (.tuple #[.string ⟨#[]⟩, .bool false]) ∧ Below W.heap.size W w') := fun W => by
          have h := cn_put nt W
          rw [if_neg (by omega), decide_eq_false (by omega)] at h
          exact h
        have q1 : decide ((m : Int) ≤ 100) = false := by simp; omega
        clear hnl hnt hk hm1 hm2 h100
        go_upto_region 9 with (refine wpList_store_whole rfl 57 _ _ rfl wr.heap.size (cnB ⟨nt.toArray⟩) rfl rfl 57 _ (Whole.made wr _ _) (cnB_info _) (cnB_s _) (cnB_all _) ?_; intro w2 hWn hGn; have HW2 := Lib.hid hWn; have HG2 := Lib.hid hGn; clear hWn hGn)
        have hv : Below wr.heap.size wr w2 := be_grown ((Below.refl wr.heap.size wr).alloc (Nat.le_refl _) _) HG2.out (by simp) (fun j hj => by injection hj with hj; omega)
        have T2 := Lib.hid (T1.out.trans (hv.mono T1.out.size))
        clear hv HG2
        go_wp2_with (refine wpList_load_row rfl 57 _ rfl wr.heap.size rfl 57 (cnB ⟨nt.toArray⟩) (0, 0) _ HW2.out Tryz.underlying57 rfl (cnB_info _) ?_)
        refine (HPUT.out w2).mono ?_
        rintro e w3 ⟨rfl, hb⟩
        have T3 := Lib.hid (T2.out.trans (hb.mono T2.out.size))
        clear hb
        go_wp2_with fail
        refine (n_cget w3).mono ?_
        rintro e v4 ⟨rfl, hb⟩
        have T4v := Lib.hid (T3.out.trans (hb.mono T3.out.size))
        clear hb
        go_upto_region 11 with (refine wpList_store_whole rfl 57 _ _ rfl v4.heap.size nC.toArray rfl rfl 57 _ (Whole.made v4 _ _) nC_info nC_s nC_all ?_; intro w4 hWn hGn; have HG4 := Lib.hid hGn; clear hWn hGn)
        have hv : Below v4.heap.size v4 w4 := be_grown ((Below.refl v4.heap.size v4).alloc (Nat.le_refl _) _) HG4.out (by simp) (fun j hj => by injection hj with hj; omega)
        have T4 := Lib.hid (T4v.out.trans (hv.mono T4v.out.size))
        clear hv HG4
        go_wp2
        go_ret
        exact ⟨rfl, T4.out⟩
end Go.Proofs.YtdmafodppcbglaaGreatDoor

/-
  bytes.Compare, oid.compare, oid.Less, walked.
-/
import Derived.Test.YtdjhkaofhdcalaaGreatDoorMid
import Derived.Lib.BytesEntry
import Derived.Sort.Grow
namespace Go.Proofs.YtdjhkaofhdcalaaGreatDoor
open Go.RowKit

theorem bytes_back (xs : List UInt8) : Lib.bytesOf (xs.map fun b => (b.toNat : Int)) = xs := by
  unfold Lib.bytesOf
  rw [List.map_map]
  conv => rhs; rw [← List.map_id xs]
  apply List.map_congr_left
  intro b _
  simp
theorem load_row {P : Program} (w : World) (b o : Nat) (xs : List UInt8) (h : w.rangeAt b o (xs.map Y)) : (Extern.Bytes.loadBytes ⟨b, o, none⟩ xs.length .empty).run P w = .ok ⟨xs.toArray⟩ w := by
  have hl := Lib.run_loadBytesX (P := P) w (xs.map fun b => (b.toNat : Int)) ⟨b, o, none⟩ .empty (fun j x hj => by
    rw [Addr.add_mid]
    rw [List.getElem?_map, Option.map_eq_some_iff] at hj
    obtain ⟨c, hc, rfl⟩ := hj
    exact h j (Y c) (by rw [List.getElem?_map, hc]; rfl))
  rw [List.length_map, bytes_back] at hl
  rw [hl]
  congr 1
  apply ByteArray.ext
  show (#[] : Array UInt8) ++ xs.toArray = xs.toArray
  simp
theorem run_compare_rows {P : Program} (w : World) (b1 o1 n1 c1 b2 o2 n2 c2 : Nat) (xs ys : List UInt8) (h1 : xs.length = n1) (h2 : ys.length = n2) (hx : w.rangeAt b1 o1 (xs.map Y)) (hy : w.rangeAt b2 o2 (ys.map Y)) :
    (Extern.BytealgCompare.compare #[.slice (some ⟨b1, o1, none⟩) n1 c1, .slice (some ⟨b2, o2, none⟩) n2 c2]).run P w = .ok (.int .i64 (Lib.compareBytes xs ys)) w := by
  subst h1 h2
  have hl1 := load_row (P := P) w b1 o1 xs hx
  have hl2 := load_row (P := P) w b2 o2 ys hy
  change Sem.run P (do pure (goInt (Extern.BytealgCompare.cmp (← Extern.Bytes.bytesOf (.slice (some ⟨b1, o1, none⟩) xs.length c1)) (← Extern.Bytes.bytesOf (.slice (some ⟨b2, o2, none⟩) ys.length c2))))) w = _
  simp only [Extern.Bytes.bytesOf, Sem.run_bind, Sem.run_pure, Result.andThen, hl1, hl2]
  rw [Lib.cmp_eq]
  rfl
set_option maxRecDepth 100000 in
theorem bcmp_any (b1 o1 n1 c1 b2 o2 n2 c2 : Nat) (xs ys : List UInt8) (w : World) (h1 : xs.length = n1) (h2 : ys.length = n2) (hx : w.rangeAt b1 o1 (xs.map Y)) (hy : w.rangeAt b2 o2 (ys.map Y)) :
    Calls Tryz.prog 77 #[.slice (some ⟨b1, o1, none⟩) n1 c1, .slice (some ⟨b2, o2, none⟩) n2 c2] w fun e w' => e = .returned (.int .i64 (Lib.compareBytes xs ys)) ∧ w = w' := by
  have hrun := run_compare_rows (P := Tryz.prog) w b1 o1 n1 c1 b2 o2 n2 c2 xs ys h1 h2 hx hy
  clear hx hy
  go_enter Tryz.func77, Tryz.ntmps77
  go_wp2
  rw [run_callFunc_extern Tryz.func109 (by kernel_rfl) (by kernel_rfl) (by kernel_rfl) (e := Extern.BytealgCompare.compare) (by kernel_rfl), hrun]
  simp only [Result.andThen]
  rw [Oper.upon_value]
  go_wp2
  go_ret
  exact ⟨rfl, rfl⟩
set_option maxHeartbeats 1000000 in
theorem compare_any (x y : Nm) (w : World) : Calls Tryz.prog 47 #[.agg (encN x).toArray, .agg (encN y).toArray] w fun e w' => e = .returned (.int .i64 (cmpN x y)) ∧ ∃ q os, w' = Sort.grow (w.drewN q) os := by
  have hxl := x.h
  have hyl := y.h
  unfold cmpN encN
  generalize x.l = xs at *
  generalize y.l = ys at *
  obtain ⟨xc, hxc⟩ : ∃ xc, xc = (xs.map Y).toArray := ⟨_, rfl⟩
  obtain ⟨yc, hyc⟩ : ∃ yc, yc = (ys.map Y).toArray := ⟨_, rfl⟩
  rw [← hxc, ← hyc]
  have HB : Hid (∀ n, Calls Tryz.prog 77 #[.slice (some ⟨w.heap.size, 0, none⟩) 32 32, .slice (some ⟨w.heap.size + 1, 0, none⟩) 32 32] (((w.alloc (.cells xc 23)).alloc (.cells yc 23)).drewN n) fun e w' => e = .returned (.int .i64 (Lib.compareBytes xs ys)) ∧ ((w.alloc (.cells xc 23)).alloc (.cells yc 23)).drewN n = w') := by
    intro n
    have hwx := Whole.past (Whole.made w 23 xc) (.cells yc 23)
    have hwy := Whole.made (w.alloc (.cells xc 23)) 23 yc
    have hs : (w.alloc (.cells xc 23)).heap.size = w.heap.size + 1 := by simp
    rw [hs] at hwy
    refine bcmp_any _ _ _ _ _ _ _ _ xs ys _ hxl hyl (fun j v hv => ?_) (fun j v hv => ?_)
    · rw [Nat.zero_add, World.cell?_drewN, hwx.at_, hxc, List.getElem?_toArray]
      exact hv
    · rw [Nat.zero_add, World.cell?_drewN, hwy.at_, hyc, List.getElem?_toArray]
      exact hv
  clear hxc hyc hxl hyl
  generalize Lib.compareBytes xs ys = r at *
  go_enter Tryz.func47, Tryz.ntmps47
  go_wp2_with fail
  refine wp_region_quiet_lit (by kernel_rfl) (by kernel_rfl) ?_
  repeat (first
    | go_big_quiet_step ((first | (go_at_call 77; exact q_left (HB.out _)))))
  refine wpQuiet_nil ?_
  rintro W ⟨n, rfl⟩
  go_wp2
  go_ret
  exact ⟨rfl, n, _, by rw [Sort.alloc_eq_grow, Sort.alloc_eq_grow, Sort.grow_grow]; rfl⟩
theorem below_grow_drewN (w : World) (n : Nat) (os : Array Obj) : Below w.heap.size w (Sort.grow (w.drewN n) os) :=
  ⟨rfl, rfl, rfl, by simp [Sort.grow], fun k hk => by
    show (w.heap ++ os)[k]? = _
    rw [Array.getElem?_append_left hk]⟩
set_option maxHeartbeats 1000000 in
set_option maxRecDepth 100000 in
theorem less_nm (x y : Nm) (w : World) : Calls Tryz.prog 14 #[.agg (encN x).toArray, .agg (encN y).toArray] w fun e w' => e = .returned (.bool (decide (ltN x y))) ∧ Below w.heap.size w w' := by
  have hcmp := fun W => compare_any x y W
  have hneg : decide (cmpN x y < 0) = decide (ltN x y) := ltOf_cmpN x y
  generalize decide (ltN x y) = lt at *
  generalize cmpN x y = r at *
  have hxs := encN_size x
  have hys := encN_size y
  have HX : Hid ((Tryz.prog.info? 23).map (·.size) = some (encN x).toArray.size) := by show _ = _; rw [hxs]; exact infoN
  have HY : Hid ((Tryz.prog.info? 23).map (·.size) = some (encN y).toArray.size) := by show _ = _; rw [hys]; exact infoN
  have HC := Lib.hid hcmp
  clear hxs hys hcmp
  generalize (encN x).toArray = xc at *
  generalize (encN y).toArray = yc at *
  go_enter Tryz.func14, Tryz.ntmps14
  have HWX := Lib.hid (Whole.past (Whole.made w 23 xc) (.cells yc 23))
  have HWY : Hid (Whole ((w.alloc (.cells xc 23)).alloc (.cells yc 23)) (w.heap.size + 1) 23 yc) := by
    show Whole _ _ _ _
    have := Whole.made (w.alloc (.cells xc 23)) 23 yc
    simpa using this
  go_wp2_with (first
    | (refine wpList_load_row rfl 23 _ rfl w.heap.size rfl 23 xc (0, 0) _ HWX.out Tryz.underlying23 rfl HX.out ?_)
    | (refine wpList_load_row rfl 23 _ rfl (w.heap.size + 1) rfl 23 yc (0, 0) _ HWY.out Tryz.underlying23 rfl HY.out ?_)
    | (go_at_call 47; refine (HC.out _).mono ?_; rintro e w' ⟨rfl, q, os, rfl⟩))
  go_ret
  exact ⟨rfl, ((((Below.refl w.heap.size w).alloc (Nat.le_refl _) _).alloc (by simp) _).trans ((below_grow_drewN _ _ _).mono (by simp; omega)))⟩
end Go.Proofs.YtdjhkaofhdcalaaGreatDoor

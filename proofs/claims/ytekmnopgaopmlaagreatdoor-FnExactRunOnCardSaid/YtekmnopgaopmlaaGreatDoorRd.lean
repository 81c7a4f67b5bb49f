/- Words that reckon and may not: div, the shifts. -/
import Derived.Test.YtekmnopgaopmlaaGreatDoorRa
set_option maxRecDepth 100000
set_option linter.unusedSimpArgs false
set_option linter.unusedVariables false
namespace Go.Proofs.YtekmnopgaopmlaaGreatDoor
open Go.RowKit

theorem w32_wrap64 (n : Int) : w32 (wrap64 n) = w32 n := by
  unfold w32 wrap64
  omega

set_option maxHeartbeats 1600000 in
theorem l05Sum_52 (m : Mc) (y n k : Int) (M C H : Nat) (w : World) (h : MAt w M C H m) (ha : In32 m.a) (hx : In32 m.x) (hk : In32 k) :
    Calls Tryz.prog 127 #[.pointer (some ⟨M, 0, none⟩), .agg #[.int .i64 52, .int .i64 y, .int .i64 n, .int .i64 k]] w (SumPost m ⟨52, y, n, k⟩ M C H w) := by
  have hb0 := (Below.refl w.heap.size w).alloc (Nat.le_refl _) (.cells #[.int .i64 52, .int .i64 y, .int .i64 n, .int .i64 k] 66)
  have hm0 := h.below hb0
  obtain ⟨c0, c1, _, _⟩ := hm0.cellsM
  have f0 := (hm0.free 0).1
  have HB := Lib.hid hb0
  have HM := Lib.hid hm0
  clear h hb0 hm0
  obtain ⟨a, x, cs, hs⟩ := m
  unfold In32 at ha hx hk
  simp only at c0 c1 ha hx
  by_cases hz : k = 0
  · subst hz
    have HS := Lib.hid (show sumA 52 a x 0 = -1 by simp [sumA])
    go_enter Tryz.func127, Tryz.ntmps127
    go_wp2_with fail
    refine bodyPost_ret (v := .int .i64 8) (by simp [results, Tryz.results127, go_sem]) rfl ?_
    exact sum_err HM.out HB.out HS.out
  · have HS := Lib.hid (show sumA 52 a x k = w32 (a / k) by simp [sumA, hz])
    go_enter Tryz.func127, Tryz.ntmps127
    go_wp2_with fail
    refine wp_region_still_tail 8 (by kernel_rfl) (by kernel_rfl) ?_
    simp only [List.take_succ_cons, List.take_zero, List.drop_succ_cons, List.drop_zero, World.drew_eq]
    repeat still_step
    refine wpStill_nil ?_
    go_wp2_with fail
    refine bodyPost_ret (v := .int .i64 0) (by simp [results, Tryz.results127, go_sem]) rfl ?_
    exact sum_fin HM.out HB.out HS.out

set_option maxHeartbeats 1600000 in
theorem l05Sum_100 (m : Mc) (y n k : Int) (M C H : Nat) (w : World) (h : MAt w M C H m) (ha : In32 m.a) (hx : In32 m.x) (hk : In32 k) :
    Calls Tryz.prog 127 #[.pointer (some ⟨M, 0, none⟩), .agg #[.int .i64 100, .int .i64 y, .int .i64 n, .int .i64 k]] w (SumPost m ⟨100, y, n, k⟩ M C H w) := by
  have hb0 := (Below.refl w.heap.size w).alloc (Nat.le_refl _) (.cells #[.int .i64 100, .int .i64 y, .int .i64 n, .int .i64 k] 66)
  have hm0 := h.below hb0
  obtain ⟨c0, c1, _, _⟩ := hm0.cellsM
  have f0 := (hm0.free 0).1
  have HB := Lib.hid hb0
  have HM := Lib.hid hm0
  clear h hb0 hm0
  obtain ⟨a, x, cs, hs⟩ := m
  unfold In32 at ha hx hk
  simp only at c0 c1 ha hx
  by_cases hz : 31 < k
  · have HS := Lib.hid (show sumA 100 a x k = -1 by simp [sumA, hz])
    go_enter Tryz.func127, Tryz.ntmps127
    go_wp2_with fail
    refine bodyPost_ret (v := .int .i64 8) (by simp [results, Tryz.results127, go_sem]) rfl ?_
    exact sum_err HM.out HB.out HS.out
  · have HS := Lib.hid (show sumA 100 a x k = w32 (wrap64 (a * 2 ^ k.toNat)) by rw [w32_wrap64]; simp [sumA, hz])
    go_enter Tryz.func127, Tryz.ntmps127
    go_wp2_with fail
    refine wp_region_still_tail 8 (by kernel_rfl) (by kernel_rfl) ?_
    simp only [List.take_succ_cons, List.take_zero, List.drop_succ_cons, List.drop_zero, World.drew_eq]
    repeat still_step
    refine wpStill_nil ?_
    go_wp2_with fail
    refine bodyPost_ret (v := .int .i64 0) (by simp [results, Tryz.results127, go_sem]) rfl ?_
    exact sum_fin HM.out HB.out HS.out

set_option maxHeartbeats 1600000 in
theorem l05Sum_116 (m : Mc) (y n k : Int) (M C H : Nat) (w : World) (h : MAt w M C H m) (ha : In32 m.a) (hx : In32 m.x) (hk : In32 k) :
    Calls Tryz.prog 127 #[.pointer (some ⟨M, 0, none⟩), .agg #[.int .i64 116, .int .i64 y, .int .i64 n, .int .i64 k]] w (SumPost m ⟨116, y, n, k⟩ M C H w) := by
  have hb0 := (Below.refl w.heap.size w).alloc (Nat.le_refl _) (.cells #[.int .i64 116, .int .i64 y, .int .i64 n, .int .i64 k] 66)
  have hm0 := h.below hb0
  obtain ⟨c0, c1, _, _⟩ := hm0.cellsM
  have f0 := (hm0.free 0).1
  have HB := Lib.hid hb0
  have HM := Lib.hid hm0
  clear h hb0 hm0
  obtain ⟨a, x, cs, hs⟩ := m
  unfold In32 at ha hx hk
  simp only at c0 c1 ha hx
  by_cases hz : 31 < k
  · have HS := Lib.hid (show sumA 116 a x k = -1 by simp [sumA, hz])
    go_enter Tryz.func127, Tryz.ntmps127
    go_wp2_with fail
    refine bodyPost_ret (v := .int .i64 8) (by simp [results, Tryz.results127, go_sem]) rfl ?_
    exact sum_err HM.out HB.out HS.out
  · have HS := Lib.hid (show sumA 116 a x k = w32 (a / 2 ^ k.toNat) by simp [sumA, hz])
    go_enter Tryz.func127, Tryz.ntmps127
    go_wp2_with fail
    refine wp_region_still_tail 8 (by kernel_rfl) (by kernel_rfl) ?_
    simp only [List.take_succ_cons, List.take_zero, List.drop_succ_cons, List.drop_zero, World.drew_eq]
    repeat still_step
    refine wpStill_nil ?_
    go_wp2_with fail
    refine bodyPost_ret (v := .int .i64 0) (by simp [results, Tryz.results127, go_sem]) rfl ?_
    exact sum_fin HM.out HB.out HS.out

end Go.Proofs.YtekmnopgaopmlaaGreatDoor

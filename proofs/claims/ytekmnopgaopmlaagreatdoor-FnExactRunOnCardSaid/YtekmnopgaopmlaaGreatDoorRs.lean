/- The words that reckon, walked in the model: l05Sum. -/
import Derived.Test.YtekmnopgaopmlaaGreatDoorRa
set_option maxRecDepth 100000
set_option linter.unusedSimpArgs false
set_option linter.unusedVariables false
namespace Go.Proofs.YtekmnopgaopmlaaGreatDoor
open Go.RowKit

set_option maxHeartbeats 1600000 in
theorem l05Sum_4 (m : Mc) (y n k : Int) (M C H : Nat) (w : World) (h : MAt w M C H m) (ha : In32 m.a) (hx : In32 m.x) (hk : In32 k) :
    Calls Tryz.prog 127 #[.pointer (some ⟨M, 0, none⟩), .agg #[.int .i64 4, .int .i64 y, .int .i64 n, .int .i64 k]] w (SumPost m ⟨4, y, n, k⟩ M C H w) := by
  have hb0 := (Below.refl w.heap.size w).alloc (Nat.le_refl _) (.cells #[.int .i64 4, .int .i64 y, .int .i64 n, .int .i64 k] 66)
  have hm0 := h.below hb0
  obtain ⟨c0, c1, _, _⟩ := hm0.cellsM
  have f0 := (hm0.free 0).1
  have HB := Lib.hid hb0
  have HM := Lib.hid hm0
  clear h hb0 hm0
  have HS := Lib.hid (show sumA 4 m.a m.x k = w32 (m.a + k) by simp [sumA])
  obtain ⟨a, x, cs, hs⟩ := m
  unfold In32 at ha hx hk
  simp only at c0 c1 ha hx HS
  go_enter Tryz.func127, Tryz.ntmps127
  go_wp2_with fail
  refine wp_region_still_tail 8 (by kernel_rfl) (by kernel_rfl) ?_
  simp only [List.take_succ_cons, List.take_zero, List.drop_succ_cons, List.drop_zero, World.drew_eq]
  repeat still_step
  refine wpStill_nil ?_
  go_wp2_with fail
  refine bodyPost_ret (v := .int .i64 0) (by simp [results, Tryz.results127, go_sem]) rfl ?_
  exact sum_fin HM.out HB.out HS.out

set_option maxHeartbeats 1600000 in
theorem l05Sum_20 (m : Mc) (y n k : Int) (M C H : Nat) (w : World) (h : MAt w M C H m) (ha : In32 m.a) (hx : In32 m.x) (hk : In32 k) :
    Calls Tryz.prog 127 #[.pointer (some ⟨M, 0, none⟩), .agg #[.int .i64 20, .int .i64 y, .int .i64 n, .int .i64 k]] w (SumPost m ⟨20, y, n, k⟩ M C H w) := by
  have hb0 := (Below.refl w.heap.size w).alloc (Nat.le_refl _) (.cells #[.int .i64 20, .int .i64 y, .int .i64 n, .int .i64 k] 66)
  have hm0 := h.below hb0
  obtain ⟨c0, c1, _, _⟩ := hm0.cellsM
  have f0 := (hm0.free 0).1
  have HB := Lib.hid hb0
  have HM := Lib.hid hm0
  clear h hb0 hm0
  have HS := Lib.hid (show sumA 20 m.a m.x k = w32 (m.a - k) by simp [sumA])
  obtain ⟨a, x, cs, hs⟩ := m
  unfold In32 at ha hx hk
  simp only at c0 c1 ha hx HS
  go_enter Tryz.func127, Tryz.ntmps127
  go_wp2_with fail
  refine wp_region_still_tail 8 (by kernel_rfl) (by kernel_rfl) ?_
  simp only [List.take_succ_cons, List.take_zero, List.drop_succ_cons, List.drop_zero, World.drew_eq]
  repeat still_step
  refine wpStill_nil ?_
  go_wp2_with fail
  refine bodyPost_ret (v := .int .i64 0) (by simp [results, Tryz.results127, go_sem]) rfl ?_
  exact sum_fin HM.out HB.out HS.out

set_option maxHeartbeats 1600000 in
theorem l05Sum_36 (m : Mc) (y n k : Int) (M C H : Nat) (w : World) (h : MAt w M C H m) (ha : In32 m.a) (hx : In32 m.x) (hk : In32 k) :
    Calls Tryz.prog 127 #[.pointer (some ⟨M, 0, none⟩), .agg #[.int .i64 36, .int .i64 y, .int .i64 n, .int .i64 k]] w (SumPost m ⟨36, y, n, k⟩ M C H w) := by
  have hb0 := (Below.refl w.heap.size w).alloc (Nat.le_refl _) (.cells #[.int .i64 36, .int .i64 y, .int .i64 n, .int .i64 k] 66)
  have hm0 := h.below hb0
  obtain ⟨c0, c1, _, _⟩ := hm0.cellsM
  have f0 := (hm0.free 0).1
  have HB := Lib.hid hb0
  have HM := Lib.hid hm0
  clear h hb0 hm0
  obtain ⟨v, hv⟩ : ∃ v, IntKind.i64.wrap (m.a * k) = v := ⟨_, rfl⟩
  have HS := Lib.hid (show sumA 36 m.a m.x k = w32 v by rw [← hv]; simp [sumA, w32_wrap])
  obtain ⟨a, x, cs, hs⟩ := m
  unfold In32 at ha hx hk
  simp only at c0 c1 ha hx hv HS
  go_enter Tryz.func127, Tryz.ntmps127
  go_wp2_with fail
  refine wp_region_still_tail 8 (by kernel_rfl) (by kernel_rfl) ?_
  simp only [List.take_succ_cons, List.take_zero, List.drop_succ_cons, List.drop_zero, World.drew_eq]
  repeat still_step
  refine wpStill_nil ?_
  go_wp2_with fail
  refine bodyPost_ret (v := .int .i64 0) (by simp [results, Tryz.results127, go_sem]) rfl ?_
  exact sum_fin HM.out HB.out HS.out

set_option maxHeartbeats 1600000 in
theorem l05Sum_68 (m : Mc) (y n k : Int) (M C H : Nat) (w : World) (h : MAt w M C H m) (ha : In32 m.a) (hx : In32 m.x) (hk : In32 k) :
    Calls Tryz.prog 127 #[.pointer (some ⟨M, 0, none⟩), .agg #[.int .i64 68, .int .i64 y, .int .i64 n, .int .i64 k]] w (SumPost m ⟨68, y, n, k⟩ M C H w) := by
  have hb0 := (Below.refl w.heap.size w).alloc (Nat.le_refl _) (.cells #[.int .i64 68, .int .i64 y, .int .i64 n, .int .i64 k] 66)
  have hm0 := h.below hb0
  obtain ⟨c0, c1, _, _⟩ := hm0.cellsM
  have f0 := (hm0.free 0).1
  have HB := Lib.hid hb0
  have HM := Lib.hid hm0
  clear h hb0 hm0
  obtain ⟨v, hv⟩ : ∃ v, bits .or .i64 m.a k = v := ⟨_, rfl⟩
  have HS := Lib.hid (show sumA 68 m.a m.x k = w32 v by rw [← hv]; simp [sumA])
  obtain ⟨a, x, cs, hs⟩ := m
  unfold In32 at ha hx hk
  simp only at c0 c1 ha hx hv HS
  go_enter Tryz.func127, Tryz.ntmps127
  go_wp2_with fail
  refine wp_region_still_tail 8 (by kernel_rfl) (by kernel_rfl) ?_
  simp only [List.take_succ_cons, List.take_zero, List.drop_succ_cons, List.drop_zero, World.drew_eq]
  repeat still_step
  refine wpStill_nil ?_
  go_wp2_with fail
  refine bodyPost_ret (v := .int .i64 0) (by simp [results, Tryz.results127, go_sem]) rfl ?_
  exact sum_fin HM.out HB.out HS.out

set_option maxHeartbeats 1600000 in
theorem l05Sum_84 (m : Mc) (y n k : Int) (M C H : Nat) (w : World) (h : MAt w M C H m) (ha : In32 m.a) (hx : In32 m.x) (hk : In32 k) :
    Calls Tryz.prog 127 #[.pointer (some ⟨M, 0, none⟩), .agg #[.int .i64 84, .int .i64 y, .int .i64 n, .int .i64 k]] w (SumPost m ⟨84, y, n, k⟩ M C H w) := by
  have hb0 := (Below.refl w.heap.size w).alloc (Nat.le_refl _) (.cells #[.int .i64 84, .int .i64 y, .int .i64 n, .int .i64 k] 66)
  have hm0 := h.below hb0
  obtain ⟨c0, c1, _, _⟩ := hm0.cellsM
  have f0 := (hm0.free 0).1
  have HB := Lib.hid hb0
  have HM := Lib.hid hm0
  clear h hb0 hm0
  obtain ⟨v, hv⟩ : ∃ v, bits .and .i64 m.a k = v := ⟨_, rfl⟩
  have HS := Lib.hid (show sumA 84 m.a m.x k = w32 v by rw [← hv]; simp [sumA])
  obtain ⟨a, x, cs, hs⟩ := m
  unfold In32 at ha hx hk
  simp only at c0 c1 ha hx hv HS
  go_enter Tryz.func127, Tryz.ntmps127
  go_wp2_with fail
  refine wp_region_still_tail 8 (by kernel_rfl) (by kernel_rfl) ?_
  simp only [List.take_succ_cons, List.take_zero, List.drop_succ_cons, List.drop_zero, World.drew_eq]
  repeat still_step
  refine wpStill_nil ?_
  go_wp2_with fail
  refine bodyPost_ret (v := .int .i64 0) (by simp [results, Tryz.results127, go_sem]) rfl ?_
  exact sum_fin HM.out HB.out HS.out

set_option maxHeartbeats 1600000 in
theorem l05Sum_164 (m : Mc) (y n k : Int) (M C H : Nat) (w : World) (h : MAt w M C H m) (ha : In32 m.a) (hx : In32 m.x) (hk : In32 k) :
    Calls Tryz.prog 127 #[.pointer (some ⟨M, 0, none⟩), .agg #[.int .i64 164, .int .i64 y, .int .i64 n, .int .i64 k]] w (SumPost m ⟨164, y, n, k⟩ M C H w) := by
  have hb0 := (Below.refl w.heap.size w).alloc (Nat.le_refl _) (.cells #[.int .i64 164, .int .i64 y, .int .i64 n, .int .i64 k] 66)
  have hm0 := h.below hb0
  obtain ⟨c0, c1, _, _⟩ := hm0.cellsM
  have f0 := (hm0.free 0).1
  have HB := Lib.hid hb0
  have HM := Lib.hid hm0
  clear h hb0 hm0
  obtain ⟨v, hv⟩ : ∃ v, bits .xor .i64 m.a k = v := ⟨_, rfl⟩
  have HS := Lib.hid (show sumA 164 m.a m.x k = w32 v by rw [← hv]; simp [sumA])
  obtain ⟨a, x, cs, hs⟩ := m
  unfold In32 at ha hx hk
  simp only at c0 c1 ha hx hv HS
  go_enter Tryz.func127, Tryz.ntmps127
  go_wp2_with fail
  refine wp_region_still_tail 8 (by kernel_rfl) (by kernel_rfl) ?_
  simp only [List.take_succ_cons, List.take_zero, List.drop_succ_cons, List.drop_zero, World.drew_eq]
  repeat still_step
  refine wpStill_nil ?_
  go_wp2_with fail
  refine bodyPost_ret (v := .int .i64 0) (by simp [results, Tryz.results127, go_sem]) rfl ?_
  exact sum_fin HM.out HB.out HS.out

set_option maxHeartbeats 1600000 in
theorem l05Sum_12 (m : Mc) (y n k : Int) (M C H : Nat) (w : World) (h : MAt w M C H m) (ha : In32 m.a) (hx : In32 m.x) (hk : In32 k) :
    Calls Tryz.prog 127 #[.pointer (some ⟨M, 0, none⟩), .agg #[.int .i64 12, .int .i64 y, .int .i64 n, .int .i64 k]] w (SumPost m ⟨12, y, n, k⟩ M C H w) := by
  have hb0 := (Below.refl w.heap.size w).alloc (Nat.le_refl _) (.cells #[.int .i64 12, .int .i64 y, .int .i64 n, .int .i64 k] 66)
  have hm0 := h.below hb0
  obtain ⟨c0, c1, _, _⟩ := hm0.cellsM
  have f0 := (hm0.free 0).1
  have HB := Lib.hid hb0
  have HM := Lib.hid hm0
  clear h hb0 hm0
  have HS := Lib.hid (show sumA 12 m.a m.x k = w32 (m.a + m.x) by simp [sumA])
  obtain ⟨a, x, cs, hs⟩ := m
  unfold In32 at ha hx hk
  simp only at c0 c1 ha hx HS
  go_enter Tryz.func127, Tryz.ntmps127
  go_wp2_with fail
  refine wp_region_still_tail 10 (by kernel_rfl) (by kernel_rfl) ?_
  simp only [List.take_succ_cons, List.take_zero, List.drop_succ_cons, List.drop_zero, World.drew_eq]
  repeat still_step
  refine wpStill_nil ?_
  go_wp2_with fail
  refine bodyPost_ret (v := .int .i64 0) (by simp [results, Tryz.results127, go_sem]) rfl ?_
  exact sum_fin HM.out HB.out HS.out

set_option maxHeartbeats 1600000 in
theorem l05Sum_28 (m : Mc) (y n k : Int) (M C H : Nat) (w : World) (h : MAt w M C H m) (ha : In32 m.a) (hx : In32 m.x) (hk : In32 k) :
    Calls Tryz.prog 127 #[.pointer (some ⟨M, 0, none⟩), .agg #[.int .i64 28, .int .i64 y, .int .i64 n, .int .i64 k]] w (SumPost m ⟨28, y, n, k⟩ M C H w) := by
  have hb0 := (Below.refl w.heap.size w).alloc (Nat.le_refl _) (.cells #[.int .i64 28, .int .i64 y, .int .i64 n, .int .i64 k] 66)
  have hm0 := h.below hb0
  obtain ⟨c0, c1, _, _⟩ := hm0.cellsM
  have f0 := (hm0.free 0).1
  have HB := Lib.hid hb0
  have HM := Lib.hid hm0
  clear h hb0 hm0
  have HS := Lib.hid (show sumA 28 m.a m.x k = w32 (m.a - m.x) by simp [sumA])
  obtain ⟨a, x, cs, hs⟩ := m
  unfold In32 at ha hx hk
  simp only at c0 c1 ha hx HS
  go_enter Tryz.func127, Tryz.ntmps127
  go_wp2_with fail
  refine wp_region_still_tail 10 (by kernel_rfl) (by kernel_rfl) ?_
  simp only [List.take_succ_cons, List.take_zero, List.drop_succ_cons, List.drop_zero, World.drew_eq]
  repeat still_step
  refine wpStill_nil ?_
  go_wp2_with fail
  refine bodyPost_ret (v := .int .i64 0) (by simp [results, Tryz.results127, go_sem]) rfl ?_
  exact sum_fin HM.out HB.out HS.out

set_option maxHeartbeats 1600000 in
theorem l05Sum_92 (m : Mc) (y n k : Int) (M C H : Nat) (w : World) (h : MAt w M C H m) (ha : In32 m.a) (hx : In32 m.x) (hk : In32 k) :
    Calls Tryz.prog 127 #[.pointer (some ⟨M, 0, none⟩), .agg #[.int .i64 92, .int .i64 y, .int .i64 n, .int .i64 k]] w (SumPost m ⟨92, y, n, k⟩ M C H w) := by
  have hb0 := (Below.refl w.heap.size w).alloc (Nat.le_refl _) (.cells #[.int .i64 92, .int .i64 y, .int .i64 n, .int .i64 k] 66)
  have hm0 := h.below hb0
  obtain ⟨c0, c1, _, _⟩ := hm0.cellsM
  have f0 := (hm0.free 0).1
  have HB := Lib.hid hb0
  have HM := Lib.hid hm0
  clear h hb0 hm0
  obtain ⟨v, hv⟩ : ∃ v, bits .and .i64 m.a m.x = v := ⟨_, rfl⟩
  have HS := Lib.hid (show sumA 92 m.a m.x k = w32 v by rw [← hv]; simp [sumA])
  obtain ⟨a, x, cs, hs⟩ := m
  unfold In32 at ha hx hk
  simp only at c0 c1 ha hx hv HS
  go_enter Tryz.func127, Tryz.ntmps127
  go_wp2_with fail
  refine wp_region_still_tail 10 (by kernel_rfl) (by kernel_rfl) ?_
  simp only [List.take_succ_cons, List.take_zero, List.drop_succ_cons, List.drop_zero, World.drew_eq]
  repeat still_step
  refine wpStill_nil ?_
  go_wp2_with fail
  refine bodyPost_ret (v := .int .i64 0) (by simp [results, Tryz.results127, go_sem]) rfl ?_
  exact sum_fin HM.out HB.out HS.out

set_option maxHeartbeats 1600000 in
theorem l05Sum_76 (m : Mc) (y n k : Int) (M C H : Nat) (w : World) (h : MAt w M C H m) (ha : In32 m.a) (hx : In32 m.x) (hk : In32 k) :
    Calls Tryz.prog 127 #[.pointer (some ⟨M, 0, none⟩), .agg #[.int .i64 76, .int .i64 y, .int .i64 n, .int .i64 k]] w (SumPost m ⟨76, y, n, k⟩ M C H w) := by
  have hb0 := (Below.refl w.heap.size w).alloc (Nat.le_refl _) (.cells #[.int .i64 76, .int .i64 y, .int .i64 n, .int .i64 k] 66)
  have hm0 := h.below hb0
  obtain ⟨c0, c1, _, _⟩ := hm0.cellsM
  have f0 := (hm0.free 0).1
  have HB := Lib.hid hb0
  have HM := Lib.hid hm0
  clear h hb0 hm0
  obtain ⟨v, hv⟩ : ∃ v, bits .or .i64 m.a m.x = v := ⟨_, rfl⟩
  have HS := Lib.hid (show sumA 76 m.a m.x k = w32 v by rw [← hv]; simp [sumA])
  obtain ⟨a, x, cs, hs⟩ := m
  unfold In32 at ha hx hk
  simp only at c0 c1 ha hx hv HS
  go_enter Tryz.func127, Tryz.ntmps127
  go_wp2_with fail
  refine wp_region_still_tail 10 (by kernel_rfl) (by kernel_rfl) ?_
  simp only [List.take_succ_cons, List.take_zero, List.drop_succ_cons, List.drop_zero, World.drew_eq]
  repeat still_step
  refine wpStill_nil ?_
  go_wp2_with fail
  refine bodyPost_ret (v := .int .i64 0) (by simp [results, Tryz.results127, go_sem]) rfl ?_
  exact sum_fin HM.out HB.out HS.out

set_option maxHeartbeats 1600000 in
theorem l05Sum_132 (m : Mc) (y n k : Int) (M C H : Nat) (w : World) (h : MAt w M C H m) (ha : In32 m.a) (hx : In32 m.x) (hk : In32 k) :
    Calls Tryz.prog 127 #[.pointer (some ⟨M, 0, none⟩), .agg #[.int .i64 132, .int .i64 y, .int .i64 n, .int .i64 k]] w (SumPost m ⟨132, y, n, k⟩ M C H w) := by
  have hb0 := (Below.refl w.heap.size w).alloc (Nat.le_refl _) (.cells #[.int .i64 132, .int .i64 y, .int .i64 n, .int .i64 k] 66)
  have hm0 := h.below hb0
  obtain ⟨c0, c1, _, _⟩ := hm0.cellsM
  have f0 := (hm0.free 0).1
  have HB := Lib.hid hb0
  have HM := Lib.hid hm0
  clear h hb0 hm0
  have HS := Lib.hid (show sumA 132 m.a m.x k = w32 (-m.a) by simp [sumA])
  obtain ⟨a, x, cs, hs⟩ := m
  unfold In32 at ha hx hk
  simp only at c0 c1 ha hx HS
  go_enter Tryz.func127, Tryz.ntmps127
  go_wp2_with fail
  refine bodyPost_ret (v := .int .i64 0) (by simp [results, Tryz.results127, go_sem]) rfl ?_
  exact sum_fin' HM.out HB.out HS.out

end Go.Proofs.YtekmnopgaopmlaaGreatDoor

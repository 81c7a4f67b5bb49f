/- A word at a cell, walked in the model: l05Cell. -/
import Derived.Test.YtekmnopgaopmlaaGreatDoorRa
set_option maxRecDepth 100000
set_option linter.unusedSimpArgs false
set_option linter.unusedVariables false
namespace Go.Proofs.YtekmnopgaopmlaaGreatDoor
open Go.RowKit

def CellPost (m : Mc) (i : Ins) (M C H : Nat) (w : World) (e : Ending) (w' : World) : Prop := e = .returned (.int .i64 (cellM m i).2) ∧ MAt w' M C H (cellM m i).1 ∧ KeepM M C H w w'

theorem MAt.drewN {w : World} {M C H : Nat} {m : Mc} (h : MAt w M C H m) : ∀ n, MAt (w.drewN n) M C H m
  | 0 => h
  | n + 1 => (MAt.drewN h n).drew
theorem KeepM.drewN {M C H : Nat} {a w : World} (h : KeepM M C H a w) : ∀ n, KeepM M C H a (w.drewN n)
  | 0 => h
  | n + 1 => (KeepM.drewN h n).drew

set_option maxHeartbeats 1600000 in
theorem l05Cell_2 (m : Mc) (y n k : Int) (M C H : Nat) (w : World) (h : MAt w M C H m) (hc : m.cells.length = 16) (hh : m.has.length = 16) (hk : In32 k) :
    Calls Tryz.prog 126 #[.pointer (some ⟨M, 0, none⟩), .agg #[.int .i64 2, .int .i64 y, .int .i64 n, .int .i64 k]] w (CellPost m ⟨2, y, n, k⟩ M C H w) := by
  have hb0 := (Below.refl w.heap.size w).alloc (Nat.le_refl _) (.cells #[.int .i64 2, .int .i64 y, .int .i64 n, .int .i64 k] 66)
  have hm0 := h.below hb0
  obtain ⟨c0, c1, c2, c3⟩ := hm0.cellsM
  unfold In32 at hk
  have HB := Lib.hid hb0
  have HM := Lib.hid hm0
  by_cases hz : 15 < k
  · have HS := Lib.hid (show cellM m ⟨2, y, n, k⟩ = (m, 8) by simp [cellM, hz])
    clear h hb0 hm0
    go_enter Tryz.func126, Tryz.ntmps126
    go_wp2_with fail
    refine bodyPost_ret (v := .int .i64 8) (by simp [results, Tryz.results126, go_sem]) rfl ?_
    unfold CellPost
    rw [HS.out]
    exact ⟨rfl, HM.out, KeepM.of HB.out⟩
  · obtain ⟨j, rfl⟩ : ∃ j : Nat, k = j := ⟨k.toNat, by omega⟩
    have hj : j < 16 := by omega
    have d0 := hm0.cell (i := j) (by omega)
    have e0 := hm0.hasC (i := j) (by omega)
    have fm0 := (hm0.free 0).1
    have fm1 := (hm0.free 1).1
    have fc := (hm0.free j).2.1
    have fh := (hm0.free j).2.2
    have hMw : M ≠ w.heap.size := by have := row_here h.1; omega
    have hwM : w.heap.size ≠ M := fun e => hMw e.symm
    have hCw : C ≠ w.heap.size := by have := row_here h.2.1; omega
    have hwC : w.heap.size ≠ C := fun e => hCw e.symm
    have hHw : H ≠ w.heap.size := by have := row_here h.2.2.1; omega
    have hwH : w.heap.size ≠ H := fun e => hHw e.symm
    have hset := hm0.setC j m.a
    have e1 := hset.hasC (i := j) (by simp; omega)
    have fh1 := (hset.free j).2.2
    obtain ⟨g0, g1, g2, g3⟩ := hset.cellsM
    have HSET := Lib.hid (hset.setH j true)
    have HS := Lib.hid (show cellM m ⟨2, y, n, j⟩ = (⟨m.a, m.x, m.cells.set j m.a, m.has.set j true⟩, 0) by simp [cellM, hz])
    clear h hb0 hm0 hset
    go_enter Tryz.func126, Tryz.ntmps126
    go_wp2_with fail
    refine wp_region_still_tail 10 (by kernel_rfl) (by kernel_rfl) ?_
    simp only [List.take_succ_cons, List.take_zero, List.drop_succ_cons, List.drop_zero, World.drew_eq]
    repeat still_step
    refine wpStill_nil ?_
    go_wp2_with fail
    refine wp_region_still_tail 6 (by kernel_rfl) (by kernel_rfl) ?_
    simp only [List.take_succ_cons, List.take_zero, List.drop_succ_cons, List.drop_zero, World.drew_eq]
    repeat still_step
    refine wpStill_nil ?_
    go_wp2_with fail
    refine bodyPost_ret (v := .int .i64 0) (by simp [results, Tryz.results126, go_sem]) rfl ?_
    unfold CellPost
    rw [HS.out]
    first
      | exact ⟨rfl, HSET.out, (((KeepM.of (M := M) (C := C) (H := H) HB.out).set (p := ⟨C, j, none⟩) (.inr (.inl rfl)) _).set (p := ⟨H, j, none⟩) (.inr (.inr rfl)) _)⟩
      | exact ⟨rfl, HSET.out, ((((KeepM.of (M := M) (C := C) (H := H) HB.out).set (p := ⟨C, j, none⟩) (.inr (.inl rfl)) _).set (p := ⟨H, j, none⟩) (.inr (.inr rfl)) _)).drew⟩
      | exact ⟨rfl, HSET.out, ((((KeepM.of (M := M) (C := C) (H := H) HB.out).set (p := ⟨C, j, none⟩) (.inr (.inl rfl)) _).set (p := ⟨H, j, none⟩) (.inr (.inr rfl)) _)).drew.drew⟩
      | exact ⟨rfl, HSET.out, ((((KeepM.of (M := M) (C := C) (H := H) HB.out).set (p := ⟨C, j, none⟩) (.inr (.inl rfl)) _).set (p := ⟨H, j, none⟩) (.inr (.inr rfl)) _)).drew.drew.drew⟩

set_option maxHeartbeats 1600000 in
theorem l05Cell_3 (m : Mc) (y n k : Int) (M C H : Nat) (w : World) (h : MAt w M C H m) (hc : m.cells.length = 16) (hh : m.has.length = 16) (hk : In32 k) :
    Calls Tryz.prog 126 #[.pointer (some ⟨M, 0, none⟩), .agg #[.int .i64 3, .int .i64 y, .int .i64 n, .int .i64 k]] w (CellPost m ⟨3, y, n, k⟩ M C H w) := by
  have hb0 := (Below.refl w.heap.size w).alloc (Nat.le_refl _) (.cells #[.int .i64 3, .int .i64 y, .int .i64 n, .int .i64 k] 66)
  have hm0 := h.below hb0
  obtain ⟨c0, c1, c2, c3⟩ := hm0.cellsM
  unfold In32 at hk
  have HB := Lib.hid hb0
  have HM := Lib.hid hm0
  by_cases hz : 15 < k
  · have HS := Lib.hid (show cellM m ⟨3, y, n, k⟩ = (m, 8) by simp [cellM, hz])
    clear h hb0 hm0
    go_enter Tryz.func126, Tryz.ntmps126
    go_wp2_with fail
    refine bodyPost_ret (v := .int .i64 8) (by simp [results, Tryz.results126, go_sem]) rfl ?_
    unfold CellPost
    rw [HS.out]
    exact ⟨rfl, HM.out, KeepM.of HB.out⟩
  · obtain ⟨j, rfl⟩ : ∃ j : Nat, k = j := ⟨k.toNat, by omega⟩
    have hj : j < 16 := by omega
    have d0 := hm0.cell (i := j) (by omega)
    have e0 := hm0.hasC (i := j) (by omega)
    have fm0 := (hm0.free 0).1
    have fm1 := (hm0.free 1).1
    have fc := (hm0.free j).2.1
    have fh := (hm0.free j).2.2
    have hMw : M ≠ w.heap.size := by have := row_here h.1; omega
    have hwM : w.heap.size ≠ M := fun e => hMw e.symm
    have hCw : C ≠ w.heap.size := by have := row_here h.2.1; omega
    have hwC : w.heap.size ≠ C := fun e => hCw e.symm
    have hHw : H ≠ w.heap.size := by have := row_here h.2.2.1; omega
    have hwH : w.heap.size ≠ H := fun e => hHw e.symm
    have hset := hm0.setC j m.a
    obtain ⟨x0, x1, x2, x3⟩ := hset.cellsM
    have xd := hset.cell (i := j) (by simp; omega)
    have xf := (hset.free j).2.1
    have hset2 := hset.setC j m.x
    simp only [List.set_set] at hset2
    have e1 := hset2.hasC (i := j) (by simp; omega)
    have fh1 := (hset2.free j).2.2
    obtain ⟨g0, g1, g2, g3⟩ := hset2.cellsM
    have HSET := Lib.hid (hset2.setH j true)
    have HS := Lib.hid (show cellM m ⟨3, y, n, j⟩ = (⟨m.a, m.x, m.cells.set j m.x, m.has.set j true⟩, 0) by simp [cellM, hz])
    clear h hb0 hm0 hset hset2
    go_enter Tryz.func126, Tryz.ntmps126
    go_wp2_with fail
    refine wp_region_still_tail 10 (by kernel_rfl) (by kernel_rfl) ?_
    simp only [List.take_succ_cons, List.take_zero, List.drop_succ_cons, List.drop_zero, World.drew_eq]
    repeat still_step
    refine wpStill_nil ?_
    go_wp2_with fail
    refine wp_region_still_tail 10 (by kernel_rfl) (by kernel_rfl) ?_
    simp only [List.take_succ_cons, List.take_zero, List.drop_succ_cons, List.drop_zero, World.drew_eq]
    repeat still_step
    refine wpStill_nil ?_
    go_wp2_with fail
    refine wp_region_still_tail 6 (by kernel_rfl) (by kernel_rfl) ?_
    simp only [List.take_succ_cons, List.take_zero, List.drop_succ_cons, List.drop_zero, World.drew_eq]
    repeat still_step
    refine wpStill_nil ?_
    go_wp2_with fail
    refine bodyPost_ret (v := .int .i64 0) (by simp [results, Tryz.results126, go_sem]) rfl ?_
    unfold CellPost
    rw [HS.out]
    first
      | exact ⟨rfl, HSET.out, ((((KeepM.of (M := M) (C := C) (H := H) HB.out).set (p := ⟨C, j, none⟩) (.inr (.inl rfl)) _).set (p := ⟨C, j, none⟩) (.inr (.inl rfl)) _).set (p := ⟨H, j, none⟩) (.inr (.inr rfl)) _)⟩
      | exact ⟨rfl, HSET.out, (((((KeepM.of (M := M) (C := C) (H := H) HB.out).set (p := ⟨C, j, none⟩) (.inr (.inl rfl)) _).set (p := ⟨C, j, none⟩) (.inr (.inl rfl)) _).set (p := ⟨H, j, none⟩) (.inr (.inr rfl)) _)).drew⟩
      | exact ⟨rfl, HSET.out, (((((KeepM.of (M := M) (C := C) (H := H) HB.out).set (p := ⟨C, j, none⟩) (.inr (.inl rfl)) _).set (p := ⟨C, j, none⟩) (.inr (.inl rfl)) _).set (p := ⟨H, j, none⟩) (.inr (.inr rfl)) _)).drew.drew⟩
      | exact ⟨rfl, HSET.out, (((((KeepM.of (M := M) (C := C) (H := H) HB.out).set (p := ⟨C, j, none⟩) (.inr (.inl rfl)) _).set (p := ⟨C, j, none⟩) (.inr (.inl rfl)) _).set (p := ⟨H, j, none⟩) (.inr (.inr rfl)) _)).drew.drew.drew⟩

set_option maxHeartbeats 1600000 in
theorem l05Cell_96 (m : Mc) (y n k : Int) (M C H : Nat) (w : World) (h : MAt w M C H m) (hc : m.cells.length = 16) (hh : m.has.length = 16) (hk : In32 k) :
    Calls Tryz.prog 126 #[.pointer (some ⟨M, 0, none⟩), .agg #[.int .i64 96, .int .i64 y, .int .i64 n, .int .i64 k]] w (CellPost m ⟨96, y, n, k⟩ M C H w) := by
  have hb0 := (Below.refl w.heap.size w).alloc (Nat.le_refl _) (.cells #[.int .i64 96, .int .i64 y, .int .i64 n, .int .i64 k] 66)
  have hm0 := h.below hb0
  obtain ⟨c0, c1, c2, c3⟩ := hm0.cellsM
  unfold In32 at hk
  have HB := Lib.hid hb0
  have HM := Lib.hid hm0
  by_cases hz : 15 < k
  · have HS := Lib.hid (show cellM m ⟨96, y, n, k⟩ = (m, 8) by simp [cellM, hz])
    clear h hb0 hm0
    go_enter Tryz.func126, Tryz.ntmps126
    go_wp2_with fail
    refine bodyPost_ret (v := .int .i64 8) (by simp [results, Tryz.results126, go_sem]) rfl ?_
    unfold CellPost
    rw [HS.out]
    exact ⟨rfl, HM.out, KeepM.of HB.out⟩
  · obtain ⟨j, rfl⟩ : ∃ j : Nat, k = j := ⟨k.toNat, by omega⟩
    have hj : j < 16 := by omega
    have d0 := hm0.cell (i := j) (by omega)
    have e0 := hm0.hasC (i := j) (by omega)
    have fm0 := (hm0.free 0).1
    have fm1 := (hm0.free 1).1
    have fc := (hm0.free j).2.1
    have fh := (hm0.free j).2.2
    have hMw : M ≠ w.heap.size := by have := row_here h.1; omega
    have hwM : w.heap.size ≠ M := fun e => hMw e.symm
    have hCw : C ≠ w.heap.size := by have := row_here h.2.1; omega
    have hwC : w.heap.size ≠ C := fun e => hCw e.symm
    have hHw : H ≠ w.heap.size := by have := row_here h.2.2.1; omega
    have hwH : w.heap.size ≠ H := fun e => hHw e.symm
    obtain ⟨hv, hhv⟩ : ∃ hv, m.has.getD j false = hv := ⟨_, rfl⟩
    obtain ⟨cv, hcv⟩ : ∃ cv, m.cells.getD j 0 = cv := ⟨_, rfl⟩
    rw [hhv] at e0
    rw [hcv] at d0
    cases hv
    · have HS := Lib.hid (show cellM m ⟨96, y, n, j⟩ = (m, 6) by unfold cellM; rw [if_neg hz, if_neg (show ¬ (96 : Int) = 2 by decide), if_neg (show ¬ (96 : Int) = 3 by decide)]; simp only [Int.toNat_natCast]; rw [if_pos hhv])
      clear h hb0 hm0 hhv hcv
      go_enter Tryz.func126, Tryz.ntmps126
      go_wp2_with fail
      go_quiet (fail)
      go_wp2_with fail
      refine bodyPost_ret (v := .int .i64 6) (by simp [results, Tryz.results126, go_sem]) rfl ?_
      unfold CellPost
      rw [HS.out]
      exact ⟨rfl, HM.out.drewN _, (KeepM.of HB.out).drewN _⟩
    · have HS := Lib.hid (show cellM m ⟨96, y, n, j⟩ = (⟨cv, m.x, m.cells, m.has⟩, 0) by unfold cellM; rw [if_neg hz, if_neg (show ¬ (96 : Int) = 2 by decide), if_neg (show ¬ (96 : Int) = 3 by decide)]; simp only [Int.toNat_natCast]; rw [if_neg (by rw [hhv]; decide)]; simp only [if_true, hcv])
      have HST := Lib.hid (fun nq => (hm0.drewN nq).setA cv)
      have HSC := Lib.hid (fun nq => (hm0.drewN nq).cellsM)
      have HSF := Lib.hid (fun nq i => (hm0.drewN nq).free i)
      have HSD := Lib.hid (fun nq => ((hm0.drewN nq).cell (i := j) (by omega)).trans (congrArg (fun v => some (Value.int .i64 v)) hcv))
      have HSK := Lib.hid (fun nq => ((below_drawn (Below.refl (w.alloc (.cells #[.int .i64 96, .int .i64 y, .int .i64 n, .int .i64 (j : Int)] 66)).heap.size _) nq).cell (p := ⟨w.heap.size, 3, none⟩) (by simp)).trans (row_cell (heap_alloc_new w (.cells #[.int .i64 96, .int .i64 y, .int .i64 n, .int .i64 (j : Int)] 66)) 3))
      clear h hb0 hm0 hhv hcv
      go_enter Tryz.func126, Tryz.ntmps126
      go_wp2_with fail
      go_quiet (fail)
      go_wp2_with fail
      obtain ⟨q0, q1, q2, q3⟩ := HSC.out nq
      have qd := HSD.out nq
      have qf0 := (HSF.out nq 0).1
      have qf1 := (HSF.out nq 1).1
      have qk := HSK.out nq
      simp only [List.getElem?_toArray, List.getElem?_cons_zero, List.getElem?_cons_succ] at qk
      have hst := HST.out nq
      have hkw := (KeepM.of (M := M) (C := C) (H := H) HB.out).drewN nq
      obtain ⟨W, hW⟩ : ∃ W, (w.alloc (.cells #[.int .i64 96, .int .i64 y, .int .i64 n, .int .i64 (j : Int)] 66)).drewN nq = W := ⟨_, rfl⟩
      rw [hW] at q0 q1 q2 q3 qd qf0 qf1 qk hst hkw ⊢
      have HSTW := Lib.hid hst
      have HKW := Lib.hid hkw
      clear hW hst hkw c0 c1 c2 c3 d0 e0 fm0 fm1 fc fh
      have hji : (j : Int) < 16 := by omega
      refine wp_region_still_tail 9 (by kernel_rfl) (by kernel_rfl) ?_
      simp only [List.take_succ_cons, List.take_zero, List.drop_succ_cons, List.drop_zero, World.drew_eq]
      repeat still_step
      refine wpStill_nil ?_
      go_wp2_with fail
      refine bodyPost_ret (v := .int .i64 0) (by simp [results, Tryz.results126, go_sem]) rfl ?_
      unfold CellPost
      rw [HS.out]
      first
        | exact ⟨rfl, HSTW.out, (HKW.out.set (p := ⟨M, 0, none⟩) (.inl rfl) _)⟩
        | exact ⟨rfl, HSTW.out, (HKW.out.set (p := ⟨M, 0, none⟩) (.inl rfl) _).drew⟩
        | exact ⟨rfl, HSTW.out, (HKW.out.drew.set (p := ⟨M, 0, none⟩) (.inl rfl) _)⟩

set_option maxHeartbeats 1600000 in
theorem l05Cell_97 (m : Mc) (y n k : Int) (M C H : Nat) (w : World) (h : MAt w M C H m) (hc : m.cells.length = 16) (hh : m.has.length = 16) (hk : In32 k) :
    Calls Tryz.prog 126 #[.pointer (some ⟨M, 0, none⟩), .agg #[.int .i64 97, .int .i64 y, .int .i64 n, .int .i64 k]] w (CellPost m ⟨97, y, n, k⟩ M C H w) := by
  have hb0 := (Below.refl w.heap.size w).alloc (Nat.le_refl _) (.cells #[.int .i64 97, .int .i64 y, .int .i64 n, .int .i64 k] 66)
  have hm0 := h.below hb0
  obtain ⟨c0, c1, c2, c3⟩ := hm0.cellsM
  unfold In32 at hk
  have HB := Lib.hid hb0
  have HM := Lib.hid hm0
  by_cases hz : 15 < k
  · have HS := Lib.hid (show cellM m ⟨97, y, n, k⟩ = (m, 8) by simp [cellM, hz])
    clear h hb0 hm0
    go_enter Tryz.func126, Tryz.ntmps126
    go_wp2_with fail
    refine bodyPost_ret (v := .int .i64 8) (by simp [results, Tryz.results126, go_sem]) rfl ?_
    unfold CellPost
    rw [HS.out]
    exact ⟨rfl, HM.out, KeepM.of HB.out⟩
  · obtain ⟨j, rfl⟩ : ∃ j : Nat, k = j := ⟨k.toNat, by omega⟩
    have hj : j < 16 := by omega
    have d0 := hm0.cell (i := j) (by omega)
    have e0 := hm0.hasC (i := j) (by omega)
    have fm0 := (hm0.free 0).1
    have fm1 := (hm0.free 1).1
    have fc := (hm0.free j).2.1
    have fh := (hm0.free j).2.2
    have hMw : M ≠ w.heap.size := by have := row_here h.1; omega
    have hwM : w.heap.size ≠ M := fun e => hMw e.symm
    have hCw : C ≠ w.heap.size := by have := row_here h.2.1; omega
    have hwC : w.heap.size ≠ C := fun e => hCw e.symm
    have hHw : H ≠ w.heap.size := by have := row_here h.2.2.1; omega
    have hwH : w.heap.size ≠ H := fun e => hHw e.symm
    obtain ⟨hv, hhv⟩ : ∃ hv, m.has.getD j false = hv := ⟨_, rfl⟩
    obtain ⟨cv, hcv⟩ : ∃ cv, m.cells.getD j 0 = cv := ⟨_, rfl⟩
    rw [hhv] at e0
    rw [hcv] at d0
    cases hv
    · have HS := Lib.hid (show cellM m ⟨97, y, n, j⟩ = (m, 6) by unfold cellM; rw [if_neg hz, if_neg (show ¬ (97 : Int) = 2 by decide), if_neg (show ¬ (97 : Int) = 3 by decide)]; simp only [Int.toNat_natCast]; rw [if_pos hhv])
      clear h hb0 hm0 hhv hcv
      go_enter Tryz.func126, Tryz.ntmps126
      go_wp2_with fail
      go_quiet (fail)
      go_wp2_with fail
      refine bodyPost_ret (v := .int .i64 6) (by simp [results, Tryz.results126, go_sem]) rfl ?_
      unfold CellPost
      rw [HS.out]
      exact ⟨rfl, HM.out.drewN _, (KeepM.of HB.out).drewN _⟩
    · have HS := Lib.hid (show cellM m ⟨97, y, n, j⟩ = (⟨m.a, cv, m.cells, m.has⟩, 0) by unfold cellM; rw [if_neg hz, if_neg (show ¬ (97 : Int) = 2 by decide), if_neg (show ¬ (97 : Int) = 3 by decide)]; simp only [Int.toNat_natCast]; rw [if_neg (by rw [hhv]; decide)]; rw [if_neg (show ¬ (97 : Int) = 96 by decide), hcv])
      have HST := Lib.hid (fun nq => (hm0.drewN nq).setX cv)
      have HSC := Lib.hid (fun nq => (hm0.drewN nq).cellsM)
      have HSF := Lib.hid (fun nq i => (hm0.drewN nq).free i)
      have HSD := Lib.hid (fun nq => ((hm0.drewN nq).cell (i := j) (by omega)).trans (congrArg (fun v => some (Value.int .i64 v)) hcv))
      have HSK := Lib.hid (fun nq => ((below_drawn (Below.refl (w.alloc (.cells #[.int .i64 97, .int .i64 y, .int .i64 n, .int .i64 (j : Int)] 66)).heap.size _) nq).cell (p := ⟨w.heap.size, 3, none⟩) (by simp)).trans (row_cell (heap_alloc_new w (.cells #[.int .i64 97, .int .i64 y, .int .i64 n, .int .i64 (j : Int)] 66)) 3))
      clear h hb0 hm0 hhv hcv
      go_enter Tryz.func126, Tryz.ntmps126
      go_wp2_with fail
      go_quiet (fail)
      go_wp2_with fail
      obtain ⟨q0, q1, q2, q3⟩ := HSC.out nq
      have qd := HSD.out nq
      have qf0 := (HSF.out nq 0).1
      have qf1 := (HSF.out nq 1).1
      have qk := HSK.out nq
      simp only [List.getElem?_toArray, List.getElem?_cons_zero, List.getElem?_cons_succ] at qk
      have hst := HST.out nq
      have hkw := (KeepM.of (M := M) (C := C) (H := H) HB.out).drewN nq
      obtain ⟨W, hW⟩ : ∃ W, (w.alloc (.cells #[.int .i64 97, .int .i64 y, .int .i64 n, .int .i64 (j : Int)] 66)).drewN nq = W := ⟨_, rfl⟩
      rw [hW] at q0 q1 q2 q3 qd qf0 qf1 qk hst hkw ⊢
      have HSTW := Lib.hid hst
      have HKW := Lib.hid hkw
      clear hW hst hkw c0 c1 c2 c3 d0 e0 fm0 fm1 fc fh
      have hji : (j : Int) < 16 := by omega
      refine wp_region_still_tail 9 (by kernel_rfl) (by kernel_rfl) ?_
      simp only [List.take_succ_cons, List.take_zero, List.drop_succ_cons, List.drop_zero, World.drew_eq]
      repeat still_step
      refine wpStill_nil ?_
      go_wp2_with fail
      refine bodyPost_ret (v := .int .i64 0) (by simp [results, Tryz.results126, go_sem]) rfl ?_
      unfold CellPost
      rw [HS.out]
      first
        | exact ⟨rfl, HSTW.out, (HKW.out.set (p := ⟨M, 1, none⟩) (.inl rfl) _)⟩
        | exact ⟨rfl, HSTW.out, (HKW.out.set (p := ⟨M, 1, none⟩) (.inl rfl) _).drew⟩
        | exact ⟨rfl, HSTW.out, (HKW.out.drew.set (p := ⟨M, 1, none⟩) (.inl rfl) _)⟩

end Go.Proofs.YtekmnopgaopmlaaGreatDoor

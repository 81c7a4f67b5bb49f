/- Walk of the program's RecordRead. -/
import Derived.Test.YtgcfnmaojdnchaaIu
set_option maxRecDepth 100000
set_option linter.unusedSimpArgs false
namespace Go.Proofs.Ytgcfnmaojdnchaa
open Go.RowKit
attribute [local go_sem ↓] Go.wp_at_zero Go.wp_at_succ

set_option maxHeartbeats 3200000 in
theorem implRecordRead_any (s : ByteArray) (w : World) (hs : s.size ≤ maxLen) :
    Calls Try.prog 14 #[.string s] w (RecEnd w.heap.size w (rcRead s) (rcReadC s)) := by
  have hs' := hs
  unfold maxLen at hs
  by_cases h1 : 8000 < s.size
  · have hc : rcReadC s = 2 := by unfold rcReadC; rw [if_pos h1]
    have HE : Hid (RecEnd w.heap.size w (rcRead s) (rcReadC s) = RecEnd w.heap.size w rc0 2) := by show _ = _; unfold rcRead; rw [hc, if_neg (by decide)]
    rw [HE.out]
    clear hc
    have hd : decide (8000 < (s.size : Int)) = true := by simp; omega
    go_enter Try.func14, Try.ntmps14
    go_wp2
    exact bodyPost_ret (v := .agg #[.int .i64 0, .int .i64 0, .int .i64 0, .int .i64 0, .slice none 0 0, .int .i64 2]) (by simp [results, Try.results14, go_sem]) rfl ⟨_, rfl, OwnL.nil _ _, (Below.refl _ _).alloc (Nat.le_refl _) _⟩
  by_cases h2 : s.size ≠ 64
  · have hc : rcReadC s = 4 := by unfold rcReadC; rw [if_neg h1, if_pos h2]
    have HE : Hid (RecEnd w.heap.size w (rcRead s) (rcReadC s) = RecEnd w.heap.size w rc0 4) := by show _ = _; unfold rcRead; rw [hc, if_neg (by decide)]
    rw [HE.out]
    clear hc
    have hd : decide (8000 < (s.size : Int)) = false := by simp; omega
    have hq : ((s.size : Int) != 64) = true := by simp; omega
    go_enter Try.func14, Try.ntmps14
    go_wp2
    exact bodyPost_ret (v := .agg #[.int .i64 0, .int .i64 0, .int .i64 0, .int .i64 0, .slice none 0 0, .int .i64 4]) (by simp [results, Try.results14, go_sem]) rfl ⟨_, rfl, OwnL.nil _ _, (Below.refl _ _).alloc (Nat.le_refl _) _⟩
  have hc : rcReadC s = 0 := by unfold rcReadC; rw [if_neg h1, if_neg h2]
  have HE : Hid (RecEnd w.heap.size w (rcRead s) (rcReadC s) = RecEnd w.heap.size w (rcAtB s) 0) := by show _ = _; unfold rcRead; rw [hc, if_pos rfl]
  rw [HE.out]
  have h64 : s.size = 64 := by omega
  have hd : decide (8000 < (s.size : Int)) = false := by simp; omega
  have hq : ((s.size : Int) != 64) = false := by rw [h64]; rfl
  have hlo : ∀ (z : Int) (n : Nat), 0 ≤ z ∧ z ≤ 60 ∧ z % 4 = 0 → n = z.toNat → ∀ W, Calls Try.prog 24 #[.string s, .int .i64 z] W fun e w' => e = .returned (.int .i64 (leV (bytesAt s n 4))) ∧ W = w' := fun z n hz hn W => by
    have h := implLoad_any s z W hs' (by omega) (by omega)
    rw [loadB_yes ⟨h64, hz⟩, ← hn] at h
    exact h
  have qh0 := hlo 4 4 (by omega) rfl
  have ql0 := hlo 0 0 (by omega) rfl
  have qh1 := hlo 12 12 (by omega) rfl
  have ql1 := hlo 8 8 (by omega) rfl
  have qh2 := hlo 20 20 (by omega) rfl
  have ql2 := hlo 16 16 (by omega) rfl
  have qh3 := hlo 28 28 (by omega) rfl
  have ql3 := hlo 24 24 (by omega) rfl
  have qh4 := hlo 36 36 (by omega) rfl
  have ql4 := hlo 32 32 (by omega) rfl
  have qh5 := hlo 44 44 (by omega) rfl
  have ql5 := hlo 40 40 (by omega) rfl
  have qh6 := hlo 52 52 (by omega) rfl
  have ql6 := hlo 48 48 (by omega) rfl
  have qh7 := hlo 60 60 (by omega) rfl
  have ql7 := hlo 56 56 (by omega) rfl
  have hrc : rcAtB s = ⟨leV (bytesAt s 0 4), leV (bytesAt s 4 4), ⟨leV (bytesAt s 12 4), leV (bytesAt s 8 4)⟩, [⟨leV (bytesAt s 20 4), leV (bytesAt s 16 4)⟩, ⟨leV (bytesAt s 28 4), leV (bytesAt s 24 4)⟩, ⟨leV (bytesAt s 36 4), leV (bytesAt s 32 4)⟩, ⟨leV (bytesAt s 44 4), leV (bytesAt s 40 4)⟩, ⟨leV (bytesAt s 52 4), leV (bytesAt s 48 4)⟩, ⟨leV (bytesAt s 60 4), leV (bytesAt s 56 4)⟩]⟩ := rfl
  generalize leV (bytesAt s 4 4) = a0 at *
  generalize leV (bytesAt s 0 4) = c0 at *
  generalize leV (bytesAt s 12 4) = a1 at *
  generalize leV (bytesAt s 8 4) = c1 at *
  generalize leV (bytesAt s 20 4) = a2 at *
  generalize leV (bytesAt s 16 4) = c2 at *
  generalize leV (bytesAt s 28 4) = a3 at *
  generalize leV (bytesAt s 24 4) = c3 at *
  generalize leV (bytesAt s 36 4) = a4 at *
  generalize leV (bytesAt s 32 4) = c4 at *
  generalize leV (bytesAt s 44 4) = a5 at *
  generalize leV (bytesAt s 40 4) = c5 at *
  generalize leV (bytesAt s 52 4) = a6 at *
  generalize leV (bytesAt s 48 4) = c6 at *
  generalize leV (bytesAt s 60 4) = a7 at *
  generalize leV (bytesAt s 56 4) = c7 at *
  have QH0 := Lib.hid qh0
  have QL0 := Lib.hid ql0
  have QH1 := Lib.hid qh1
  have QL1 := Lib.hid ql1
  have QH2 := Lib.hid qh2
  have QL2 := Lib.hid ql2
  have QH3 := Lib.hid qh3
  have QL3 := Lib.hid ql3
  have QH4 := Lib.hid qh4
  have QL4 := Lib.hid ql4
  have QH5 := Lib.hid qh5
  have QL5 := Lib.hid ql5
  have QH6 := Lib.hid qh6
  have QL6 := Lib.hid ql6
  have QH7 := Lib.hid qh7
  have QL7 := Lib.hid ql7
  have HRC := Lib.hid hrc
  clear hrc h64 hc h1 h2 hlo qh0 ql0 qh1 ql1 qh2 ql2 qh3 ql3 qh4 ql4 qh5 ql5 qh6 ql6 qh7 ql7
  rw [HRC.out]
  clear HRC HE hs'
  go_enter Try.func14, Try.ntmps14
  go_wp2_with fail
  go_loopw [16] (fun i wr => ∃ k : Nat, k ≤ 8 ∧ i = .int .i64 k ∧ wr.heap[w.heap.size + 1]? = some (.cells (fillV [.int .i64 a0, .int .i64 c0, .int .i64 a1, .int .i64 c1, .int .i64 a2, .int .i64 c2, .int .i64 a3, .int .i64 c3, .int .i64 a4, .int .i64 c4, .int .i64 a5, .int .i64 c5, .int .i64 a6, .int .i64 c6, .int .i64 a7, .int .i64 c7] (.int .i64 0) (2 * k)) 67 (0, 0)) ∧ wr.heap[w.heap.size]? = some (.cells #[.int .i64 0, .int .i64 0, .int .i64 0, .int .i64 0, .slice none 0 0, .int .i64 0] 32 (0, 0)) ∧ Below w.heap.size w wr)
    (fun i _ => 8 - (intOf i).toNat)
  case atStart =>
    have hb := rows2 (Below.refl _ ((w.alloc (.cells #[.int .i64 0, .int .i64 0, .int .i64 0, .int .i64 0, .slice none 0 0, .int .i64 0] 32)).alloc (.cells #[.int .i64 0, .int .i64 0, .int .i64 0, .int .i64 0, .int .i64 0, .int .i64 0, .int .i64 0, .int .i64 0, .int .i64 0, .int .i64 0, .int .i64 0, .int .i64 0, .int .i64 0, .int .i64 0, .int .i64 0, .int .i64 0] 67)))
    exact ⟨0, by omega, rfl, hb.2.1, hb.1, hb.2.2.1⟩
  case round =>
    obtain ⟨k, hk, rfl, hrow, hres, hbw⟩ := hrel
    have HB := Lib.hid hbw
    have HS := Lib.hid hres
    have hlt : w.heap.size + 1 < wr.heap.size := row_here hrow
    have HR := Lib.hid hrow
    clear hbw hres hrow
    rcases (by omega : k = 0 ∨ k = 1 ∨ k = 2 ∨ k = 3 ∨ k = 4 ∨ k = 5 ∨ k = 6 ∨ k = 7 ∨ k = 8) with rfl | rfl | rfl | rfl | rfl | rfl | rfl | rfl | rfl
    · have hrow : wr.heap[w.heap.size + 1]? = some (.cells #[.int .i64 0, .int .i64 0, .int .i64 0, .int .i64 0, .int .i64 0, .int .i64 0, .int .i64 0, .int .i64 0, .int .i64 0, .int .i64 0, .int .i64 0, .int .i64 0, .int .i64 0, .int .i64 0, .int .i64 0, .int .i64 0] 67 (0, 0)) := HR.out
      have HR0 := Lib.hid hrow
      have d0 := row_cell hrow 0
      have g0 := frozen_row hrow 0
      have d1 := row_cell hrow 1
      have g1 := frozen_row hrow 1
      simp only [List.getElem?_toArray, List.getElem?_cons_zero, List.getElem?_cons_succ] at d0 d1
      clear hrow
      go_wp2_with fail
      refine (QH0.out _).mono ?_
      rintro e w2 ⟨rfl, rfl⟩
      go_wp2_with fail
      refine (QL0.out _).mono ?_
      rintro e w2 ⟨rfl, rfl⟩
      go_wp2_with fail
      go_roundw
      case rel => exact ⟨1, by omega, rfl, row_put (row_put HR0.out 0 _) 1 _, row_other (row_other HS.out _ _ (by omega)) _ _ (by omega), (HB.out.setCell (p := ⟨w.heap.size + 1, 0, none⟩) (by simp) _).setCell (p := ⟨w.heap.size + 1, 1, none⟩) (by simp) _⟩
      case measure => simp [intOf]
    · have hrow : wr.heap[w.heap.size + 1]? = some (.cells #[.int .i64 a0, .int .i64 c0, .int .i64 0, .int .i64 0, .int .i64 0, .int .i64 0, .int .i64 0, .int .i64 0, .int .i64 0, .int .i64 0, .int .i64 0, .int .i64 0, .int .i64 0, .int .i64 0, .int .i64 0, .int .i64 0] 67 (0, 0)) := HR.out
      have HR1 := Lib.hid hrow
      have d0 := row_cell hrow 2
      have g0 := frozen_row hrow 2
      have d1 := row_cell hrow 3
      have g1 := frozen_row hrow 3
      simp only [List.getElem?_toArray, List.getElem?_cons_zero, List.getElem?_cons_succ] at d0 d1
      clear hrow
      go_wp2_with fail
      refine (QH1.out _).mono ?_
      rintro e w2 ⟨rfl, rfl⟩
      go_wp2_with fail
      refine (QL1.out _).mono ?_
      rintro e w2 ⟨rfl, rfl⟩
      go_wp2_with fail
      go_roundw
      case rel => exact ⟨2, by omega, rfl, row_put (row_put HR1.out 2 _) 3 _, row_other (row_other HS.out _ _ (by omega)) _ _ (by omega), (HB.out.setCell (p := ⟨w.heap.size + 1, 2, none⟩) (by simp) _).setCell (p := ⟨w.heap.size + 1, 3, none⟩) (by simp) _⟩
      case measure => simp [intOf]
    · have hrow : wr.heap[w.heap.size + 1]? = some (.cells #[.int .i64 a0, .int .i64 c0, .int .i64 a1, .int .i64 c1, .int .i64 0, .int .i64 0, .int .i64 0, .int .i64 0, .int .i64 0, .int .i64 0, .int .i64 0, .int .i64 0, .int .i64 0, .int .i64 0, .int .i64 0, .int .i64 0] 67 (0, 0)) := HR.out
      have HR2 := Lib.hid hrow
      have d0 := row_cell hrow 4
      have g0 := frozen_row hrow 4
      have d1 := row_cell hrow 5
      have g1 := frozen_row hrow 5
      simp only [List.getElem?_toArray, List.getElem?_cons_zero, List.getElem?_cons_succ] at d0 d1
      clear hrow
      go_wp2_with fail
      refine (QH2.out _).mono ?_
      rintro e w2 ⟨rfl, rfl⟩
      go_wp2_with fail
      refine (QL2.out _).mono ?_
      rintro e w2 ⟨rfl, rfl⟩
      go_wp2_with fail
      go_roundw
      case rel => exact ⟨3, by omega, rfl, row_put (row_put HR2.out 4 _) 5 _, row_other (row_other HS.out _ _ (by omega)) _ _ (by omega), (HB.out.setCell (p := ⟨w.heap.size + 1, 4, none⟩) (by simp) _).setCell (p := ⟨w.heap.size + 1, 5, none⟩) (by simp) _⟩
      case measure => simp [intOf]
    · have hrow : wr.heap[w.heap.size + 1]? = some (.cells #[.int .i64 a0, .int .i64 c0, .int .i64 a1, .int .i64 c1, .int .i64 a2, .int .i64 c2, .int .i64 0, .int .i64 0, .int .i64 0, .int .i64 0, .int .i64 0, .int .i64 0, .int .i64 0, .int .i64 0, .int .i64 0, .int .i64 0] 67 (0, 0)) := HR.out
      have HR3 := Lib.hid hrow
      have d0 := row_cell hrow 6
      have g0 := frozen_row hrow 6
      have d1 := row_cell hrow 7
      have g1 := frozen_row hrow 7
      simp only [List.getElem?_toArray, List.getElem?_cons_zero, List.getElem?_cons_succ] at d0 d1
      clear hrow
      go_wp2_with fail
      refine (QH3.out _).mono ?_
      rintro e w2 ⟨rfl, rfl⟩
      go_wp2_with fail
      refine (QL3.out _).mono ?_
      rintro e w2 ⟨rfl, rfl⟩
      go_wp2_with fail
      go_roundw
      case rel => exact ⟨4, by omega, rfl, row_put (row_put HR3.out 6 _) 7 _, row_other (row_other HS.out _ _ (by omega)) _ _ (by omega), (HB.out.setCell (p := ⟨w.heap.size + 1, 6, none⟩) (by simp) _).setCell (p := ⟨w.heap.size + 1, 7, none⟩) (by simp) _⟩
      case measure => simp [intOf]
    · have hrow : wr.heap[w.heap.size + 1]? = some (.cells #[.int .i64 a0, .int .i64 c0, .int .i64 a1, .int .i64 c1, .int .i64 a2, .int .i64 c2, .int .i64 a3, .int .i64 c3, .int .i64 0, .int .i64 0, .int .i64 0, .int .i64 0, .int .i64 0, .int .i64 0, .int .i64 0, .int .i64 0] 67 (0, 0)) := HR.out
      have HR4 := Lib.hid hrow
      have d0 := row_cell hrow 8
      have g0 := frozen_row hrow 8
      have d1 := row_cell hrow 9
      have g1 := frozen_row hrow 9
      simp only [List.getElem?_toArray, List.getElem?_cons_zero, List.getElem?_cons_succ] at d0 d1
      clear hrow
      go_wp2_with fail
      refine (QH4.out _).mono ?_
      rintro e w2 ⟨rfl, rfl⟩
      go_wp2_with fail
      refine (QL4.out _).mono ?_
      rintro e w2 ⟨rfl, rfl⟩
      go_wp2_with fail
      go_roundw
      case rel => exact ⟨5, by omega, rfl, row_put (row_put HR4.out 8 _) 9 _, row_other (row_other HS.out _ _ (by omega)) _ _ (by omega), (HB.out.setCell (p := ⟨w.heap.size + 1, 8, none⟩) (by simp) _).setCell (p := ⟨w.heap.size + 1, 9, none⟩) (by simp) _⟩
      case measure => simp [intOf]
    · have hrow : wr.heap[w.heap.size + 1]? = some (.cells #[.int .i64 a0, .int .i64 c0, .int .i64 a1, .int .i64 c1, .int .i64 a2, .int .i64 c2, .int .i64 a3, .int .i64 c3, .int .i64 a4, .int .i64 c4, .int .i64 0, .int .i64 0, .int .i64 0, .int .i64 0, .int .i64 0, .int .i64 0] 67 (0, 0)) := HR.out
      have HR5 := Lib.hid hrow
      have d0 := row_cell hrow 10
      have g0 := frozen_row hrow 10
      have d1 := row_cell hrow 11
      have g1 := frozen_row hrow 11
      simp only [List.getElem?_toArray, List.getElem?_cons_zero, List.getElem?_cons_succ] at d0 d1
      clear hrow
      go_wp2_with fail
      refine (QH5.out _).mono ?_
      rintro e w2 ⟨rfl, rfl⟩
      go_wp2_with fail
      refine (QL5.out _).mono ?_
      rintro e w2 ⟨rfl, rfl⟩
      go_wp2_with fail
      go_roundw
      case rel => exact ⟨6, by omega, rfl, row_put (row_put HR5.out 10 _) 11 _, row_other (row_other HS.out _ _ (by omega)) _ _ (by omega), (HB.out.setCell (p := ⟨w.heap.size + 1, 10, none⟩) (by simp) _).setCell (p := ⟨w.heap.size + 1, 11, none⟩) (by simp) _⟩
      case measure => simp [intOf]
    · have hrow : wr.heap[w.heap.size + 1]? = some (.cells #[.int .i64 a0, .int .i64 c0, .int .i64 a1, .int .i64 c1, .int .i64 a2, .int .i64 c2, .int .i64 a3, .int .i64 c3, .int .i64 a4, .int .i64 c4, .int .i64 a5, .int .i64 c5, .int .i64 0, .int .i64 0, .int .i64 0, .int .i64 0] 67 (0, 0)) := HR.out
      have HR6 := Lib.hid hrow
      have d0 := row_cell hrow 12
      have g0 := frozen_row hrow 12
      have d1 := row_cell hrow 13
      have g1 := frozen_row hrow 13
      simp only [List.getElem?_toArray, List.getElem?_cons_zero, List.getElem?_cons_succ] at d0 d1
      clear hrow
      go_wp2_with fail
      refine (QH6.out _).mono ?_
      rintro e w2 ⟨rfl, rfl⟩
      go_wp2_with fail
      refine (QL6.out _).mono ?_
      rintro e w2 ⟨rfl, rfl⟩
      go_wp2_with fail
      go_roundw
      case rel => exact ⟨7, by omega, rfl, row_put (row_put HR6.out 12 _) 13 _, row_other (row_other HS.out _ _ (by omega)) _ _ (by omega), (HB.out.setCell (p := ⟨w.heap.size + 1, 12, none⟩) (by simp) _).setCell (p := ⟨w.heap.size + 1, 13, none⟩) (by simp) _⟩
      case measure => simp [intOf]
    · have hrow : wr.heap[w.heap.size + 1]? = some (.cells #[.int .i64 a0, .int .i64 c0, .int .i64 a1, .int .i64 c1, .int .i64 a2, .int .i64 c2, .int .i64 a3, .int .i64 c3, .int .i64 a4, .int .i64 c4, .int .i64 a5, .int .i64 c5, .int .i64 a6, .int .i64 c6, .int .i64 0, .int .i64 0] 67 (0, 0)) := HR.out
      have HR7 := Lib.hid hrow
      have d0 := row_cell hrow 14
      have g0 := frozen_row hrow 14
      have d1 := row_cell hrow 15
      have g1 := frozen_row hrow 15
      simp only [List.getElem?_toArray, List.getElem?_cons_zero, List.getElem?_cons_succ] at d0 d1
      clear hrow
      go_wp2_with fail
      refine (QH7.out _).mono ?_
      rintro e w2 ⟨rfl, rfl⟩
      go_wp2_with fail
      refine (QL7.out _).mono ?_
      rintro e w2 ⟨rfl, rfl⟩
      go_wp2_with fail
      go_roundw
      case rel => exact ⟨8, by omega, rfl, row_put (row_put HR7.out 14 _) 15 _, row_other (row_other HS.out _ _ (by omega)) _ _ (by omega), (HB.out.setCell (p := ⟨w.heap.size + 1, 14, none⟩) (by simp) _).setCell (p := ⟨w.heap.size + 1, 15, none⟩) (by simp) _⟩
      case measure => simp [intOf]
    · have hrow : wr.heap[w.heap.size + 1]? = some (.cells #[.int .i64 a0, .int .i64 c0, .int .i64 a1, .int .i64 c1, .int .i64 a2, .int .i64 c2, .int .i64 a3, .int .i64 c3, .int .i64 a4, .int .i64 c4, .int .i64 a5, .int .i64 c5, .int .i64 a6, .int .i64 c6, .int .i64 a7, .int .i64 c7] 67 (0, 0)) := HR.out
      have d0 := row_cell hrow 0
      have d1 := row_cell hrow 1
      have d2 := row_cell hrow 2
      have d3 := row_cell hrow 3
      have d4 := row_cell hrow 4
      have d5 := row_cell hrow 5
      have d6 := row_cell hrow 6
      have d7 := row_cell hrow 7
      have d8 := row_cell hrow 8
      have d9 := row_cell hrow 9
      have d10 := row_cell hrow 10
      have d11 := row_cell hrow 11
      have d12 := row_cell hrow 12
      have d13 := row_cell hrow 13
      have d14 := row_cell hrow 14
      have d15 := row_cell hrow 15
      simp only [List.getElem?_toArray, List.getElem?_cons_zero, List.getElem?_cons_succ] at d0 d1 d2 d3 d4 d5 d6 d7 d8 d9 d10 d11 d12 d13 d14 d15
      clear hrow
      go_wp2_with fail
      refine (recordOf_any a0 c0 a1 c1 a2 c2 a3 c3 a4 c4 a5 c5 a6 c6 a7 c7 _).mono ?_
      rintro e w2 ⟨u, rfl, hown, hb2⟩
      have hres2 := (hb2.block _ (by omega)).trans HS.out
      have hbx := HB.out.trans (hb2.mono HB.out.size)
      obtain ⟨ua, ucap, rfl⟩ := hown.slice
      have r0 := row_cell hres2 0
      have f0 := frozen_row hres2 0
      have r1 := row_cell hres2 1
      have f1 := frozen_row hres2 1
      have r2 := row_cell hres2 2
      have f2 := frozen_row hres2 2
      have r3 := row_cell hres2 3
      have f3 := frozen_row hres2 3
      have r4 := row_cell hres2 4
      have f4 := frozen_row hres2 4
      have r5 := row_cell hres2 5
      have f5 := frozen_row hres2 5
      simp only [List.getElem?_toArray, List.getElem?_cons_zero, List.getElem?_cons_succ] at r0 r1 r2 r3 r4 r5
      have HO := Lib.hid hown
      have HX := Lib.hid hbx
      clear hres2 hown hbx hb2 d0 d1 d2 d3 d4 d5 d6 d7 d8 d9 d10 d11 d12 d13 d14 d15
      go_wp2_with fail
      exact bodyPost_ret (v := .agg #[.int .i64 c0, .int .i64 a0, .int .i64 a1, .int .i64 c1, .slice ua 6 ucap, .int .i64 0]) (by simp [results, Try.results14, go_sem, r0, r1, r2, r3, r4, r5]) rfl
        ⟨_, rfl, ((((((HO.out.setBelow (by simp; omega) _).setBelow (by simp; omega) _).setBelow (by simp; omega) _).setBelow (by simp; omega) _).setBelow (by simp; omega) _).setBelow (by simp; omega) _).base (by omega),
          (((((HX.out.setCell (p := ⟨w.heap.size, 0, none⟩) (Nat.le_refl _) _).setCell (p := ⟨w.heap.size, 1, none⟩) (Nat.le_refl _) _).setCell (p := ⟨w.heap.size, 2, none⟩) (Nat.le_refl _) _).setCell (p := ⟨w.heap.size, 3, none⟩) (Nat.le_refl _) _).setCell (p := ⟨w.heap.size, 4, none⟩) (Nat.le_refl _) _).setCell (p := ⟨w.heap.size, 5, none⟩) (Nat.le_refl _) _⟩

end Go.Proofs.Ytgcfnmaojdnchaa

/- A word done, walked in the model: l05Do. -/
import Derived.Test.YtekmnopgaopmlaaGreatDoorRx
set_option maxRecDepth 100000
set_option linter.unusedSimpArgs false
set_option linter.unusedVariables false
namespace Go.Proofs.YtekmnopgaopmlaaGreatDoor
open Go.RowKit

def DoPost (b : ByteArray) (m : Mc) (i : Ins) (M C H : Nat) (w : World) (e : Ending) (w' : World) : Prop := e = .returned (.int .i64 (doM b m i).2) ∧ MAt w' M C H (doM b m i).1 ∧ KeepM M C H w w'
theorem keep_behind {M C H : Nat} {w wa w' : World} (h : Below w.heap.size w wa) (k : KeepM M C H wa w') : KeepM M C H w w' := (KeepM.of h).trans k

set_option maxHeartbeats 1600000 in
theorem l05Do_sum (b : ByteArray) (m : Mc) (c y n k : Int) (M C H : Nat) (w : World) (h : MAt w M C H m) (hc : c ≠ 32 ∧ c ≠ 0 ∧ c ≠ 1 ∧ c ≠ 7 ∧ c ≠ 135 ∧ c ≠ 96 ∧ c ≠ 97 ∧ c ≠ 2 ∧ c ≠ 3)
    (hs : ∀ W, MAt W M C H m → Calls Tryz.prog 127 #[.pointer (some ⟨M, 0, none⟩), .agg #[.int .i64 c, .int .i64 y, .int .i64 n, .int .i64 k]] W (SumPost m ⟨c, y, n, k⟩ M C H W)) :
    Calls Tryz.prog 86 #[.pointer (some ⟨M, 0, none⟩), .agg #[.int .i64 c, .int .i64 y, .int .i64 n, .int .i64 k], .string b] w (DoPost b m ⟨c, y, n, k⟩ M C H w) := by
  obtain ⟨n1, n2, n3, n4, n5, n6, n7, n8, n9⟩ := hc
  have HD := Lib.hid (show doM b m ⟨c, y, n, k⟩ = sumM m ⟨c, y, n, k⟩ by simp [doM, atCell, n1, n2, n3, n4, n5, n6, n7, n8, n9])
  have hb0 := (Below.refl w.heap.size w).alloc (Nat.le_refl _) (.cells #[.int .i64 c, .int .i64 y, .int .i64 n, .int .i64 k] 66)
  have HM := Lib.hid (h.below hb0)
  have HB := Lib.hid hb0
  have HS := Lib.hid hs
  have t1 : (c == 32) = false := by simpa using n1
  have t2 : (c == 0) = false := by simpa using n2
  have t3 : (c == 1) = false := by simpa using n3
  have t4 : (c == 7) = false := by simpa using n4
  have t5 : (c == 135) = false := by simpa using n5
  have t6 : (c == 96) = false := by simpa using n6
  have t7 : (c == 97) = false := by simpa using n7
  have t8 : (c == 2) = false := by simpa using n8
  have t9 : (c == 3) = false := by simpa using n9
  clear h hb0 hs n1 n2 n3 n4 n5 n6 n7 n8 n9
  go_enter Tryz.func86, Tryz.ntmps86
  go_wp2_with fail
  refine (HS.out _ HM.out).mono ?_
  rintro e w1 ⟨rfl, hm1, hk1⟩
  have HM1 := Lib.hid hm1
  have HK1 := Lib.hid hk1
  clear hm1 hk1
  go_wp2_with fail
  refine bodyPost_ret (v := .int .i64 (sumM m ⟨c, y, n, k⟩).2) (by simp [results, Tryz.results86, go_sem]) rfl ?_
  unfold DoPost
  rw [HD.out]
  exact ⟨rfl, HM1.out, keep_behind HB.out HK1.out⟩

set_option maxHeartbeats 1600000 in
theorem l05Do_cell (b : ByteArray) (m : Mc) (c y n k : Int) (M C H : Nat) (w : World) (h : MAt w M C H m) (hc : c = 96 ∨ c = 97 ∨ c = 2 ∨ c = 3)
    (hs : ∀ W, MAt W M C H m → Calls Tryz.prog 126 #[.pointer (some ⟨M, 0, none⟩), .agg #[.int .i64 c, .int .i64 y, .int .i64 n, .int .i64 k]] W (CellPost m ⟨c, y, n, k⟩ M C H W)) :
    Calls Tryz.prog 86 #[.pointer (some ⟨M, 0, none⟩), .agg #[.int .i64 c, .int .i64 y, .int .i64 n, .int .i64 k], .string b] w (DoPost b m ⟨c, y, n, k⟩ M C H w) := by
  have hb0 := (Below.refl w.heap.size w).alloc (Nat.le_refl _) (.cells #[.int .i64 c, .int .i64 y, .int .i64 n, .int .i64 k] 66)
  have HM := Lib.hid (h.below hb0)
  have HB := Lib.hid hb0
  have HS := Lib.hid hs
  have HD := Lib.hid (show doM b m ⟨c, y, n, k⟩ = cellM m ⟨c, y, n, k⟩ by rcases hc with rfl | rfl | rfl | rfl <;> simp [doM, atCell])
  clear h hb0 hs
  rcases hc with rfl | rfl | rfl | rfl
  all_goals
    go_enter Tryz.func86, Tryz.ntmps86
    go_wp2_with fail
    refine (HS.out _ HM.out).mono ?_
    rintro e w1 ⟨rfl, hm1, hk1⟩
    have HM1 := Lib.hid hm1
    have HK1 := Lib.hid hk1
    clear hm1 hk1
    go_wp2_with fail
    refine bodyPost_ret (v := .int .i64 (cellM m _).2) (by simp [results, Tryz.results86, go_sem]; rfl) rfl ?_
    unfold DoPost
    rw [HD.out]
    exact ⟨rfl, HM1.out, keep_behind HB.out HK1.out⟩

set_option maxHeartbeats 1600000 in
theorem l05Do_set (b : ByteArray) (m : Mc) (c y n k : Int) (M C H : Nat) (w : World) (h : MAt w M C H m) (hc : c = 0 ∨ c = 1 ∨ c = 7 ∨ c = 135) :
    Calls Tryz.prog 86 #[.pointer (some ⟨M, 0, none⟩), .agg #[.int .i64 c, .int .i64 y, .int .i64 n, .int .i64 k], .string b] w (DoPost b m ⟨c, y, n, k⟩ M C H w) := by
  have hb0 := (Below.refl w.heap.size w).alloc (Nat.le_refl _) (.cells #[.int .i64 c, .int .i64 y, .int .i64 n, .int .i64 k] 66)
  have hm0 := h.below hb0
  have HM := Lib.hid hm0
  have HB := Lib.hid hb0
  obtain ⟨c0, c1, c2, c3⟩ := hm0.cellsM
  have f0 := (hm0.free 0).1
  have f1 := (hm0.free 1).1
  clear h hb0 hm0
  rcases hc with rfl | rfl | rfl | rfl
  all_goals
    go_enter Tryz.func86, Tryz.ntmps86
    go_wp2_with fail
    refine bodyPost_ret (v := .int .i64 0) (by simp [results, Tryz.results86, go_sem]) rfl ?_
    first
      | exact ⟨by simp [doM], by simpa [doM] using HM.out.setA _, ((KeepM.of (M := M) (C := C) (H := H) HB.out).set (p := ⟨M, 0, none⟩) (.inl rfl) _)⟩
      | exact ⟨by simp [doM], by simpa [doM] using HM.out.setX _, ((KeepM.of (M := M) (C := C) (H := H) HB.out).set (p := ⟨M, 1, none⟩) (.inl rfl) _)⟩

set_option maxHeartbeats 1600000 in
theorem l05Do_load (b : ByteArray) (m : Mc) (y n k : Int) (M C H : Nat) (w : World) (h : MAt w M C H m) (hb : b.size ≤ maxLen) (hk : In32 k) :
    Calls Tryz.prog 86 #[.pointer (some ⟨M, 0, none⟩), .agg #[.int .i64 32, .int .i64 y, .int .i64 n, .int .i64 k], .string b] w (DoPost b m ⟨32, y, n, k⟩ M C H w) := by
  have hb0 := (Below.refl w.heap.size w).alloc (Nat.le_refl _) (.cells #[.int .i64 32, .int .i64 y, .int .i64 n, .int .i64 k] 66)
  have hm0 := h.below hb0
  have HM := Lib.hid hm0
  have HB := Lib.hid hb0
  obtain ⟨c0, c1, c2, c3⟩ := hm0.cellsM
  have f0 := (hm0.free 0).1
  unfold In32 at hk
  have ql := fun W => specLoad_any b k W hb (by omega) (by omega)
  obtain ⟨v, hv⟩ : ∃ v, loadB b k = v := ⟨_, rfl⟩
  simp only [hv] at ql
  have HD := Lib.hid (show doM b m ⟨32, y, n, k⟩ = if v < 0 then (m, 8) else (⟨v, m.x, m.cells, m.has⟩, 0) by simp [doM, hv])
  have QL := Lib.hid ql
  clear h hb0 hm0 hv ql
  by_cases hz : v < 0
  · go_enter Tryz.func86, Tryz.ntmps86
    go_wp2_with fail
    refine (QL.out _).mono ?_
    rintro e w1 ⟨rfl, rfl⟩
    go_wp2_with fail
    refine bodyPost_ret (v := .int .i64 8) (by simp [results, Tryz.results86, go_sem]) rfl ?_
    unfold DoPost
    rw [HD.out, if_pos hz]
    exact ⟨rfl, HM.out, KeepM.of HB.out⟩
  · go_enter Tryz.func86, Tryz.ntmps86
    go_wp2_with fail
    refine (QL.out _).mono ?_
    rintro e w1 ⟨rfl, rfl⟩
    go_wp2_with fail
    refine bodyPost_ret (v := .int .i64 0) (by simp [results, Tryz.results86, go_sem]) rfl ?_
    unfold DoPost
    rw [HD.out, if_neg (show ¬ v < 0 by omega)]
    exact ⟨rfl, HM.out.setA _, ((KeepM.of (M := M) (C := C) (H := H) HB.out).set (p := ⟨M, 0, none⟩) (.inl rfl) _)⟩

end Go.Proofs.YtekmnopgaopmlaaGreatDoor

/- Draws of words and records walked: what they answer is within bounds. -/
import Derived.Test.YtgcfnmaojdnchaaDr
import Derived.Test.YtgcfnmaojdnchaaRr
import Derived.Deep.RegionLaw
set_option maxRecDepth 100000
set_option linter.unusedSimpArgs false
namespace Go.Proofs.Ytgcfnmaojdnchaa
open Go.RowKit
attribute [local go_sem ↓] Go.wp_at_zero Go.wp_at_succ

def halfList : List Int := [0, 0, 1, 2, 5, 7, 4294967295, 2147483648, 256]
theorem half_cell (i : Nat) (h : i < 9) : ∃ x : Int, (halfList.map (Value.int .i64)).toArray[i]? = some (.int .i64 x) ∧ 0 ≤ x ∧ x ≤ 4294967295 := by
  rcases (by omega : i = 0 ∨ i = 1 ∨ i = 2 ∨ i = 3 ∨ i = 4 ∨ i = 5 ∨ i = 6 ∨ i = 7 ∨ i = 8) with rfl | rfl | rfl | rfl | rfl | rfl | rfl | rfl | rfl
  all_goals exact ⟨_, rfl, by decide, by decide⟩

set_option maxHeartbeats 800000 in
theorem srcHalf_any (g : Nat) (a : Option Addr) (len cap : Nat) (w : World) (hs : Src w g a len cap) :
    Calls Try.prog 65 #[.pointer (some ⟨g, 0, none⟩)] w fun e w' => ∃ x : Int, e = .returned (.int .i64 x) ∧ 0 ≤ x ∧ x ≤ 4294967295 ∧ AfterSrc g a len cap w w' := by
  have hgl := hs.lt
  have hb0 : Below w.heap.size w (w.alloc (.cells (halfList.map (Value.int .i64)).toArray 2)) := (Below.refl _ w).alloc (Nat.le_refl _) _
  have hcall := srcN_any g a len cap 9 (w.alloc (.cells (halfList.map (Value.int .i64)).toArray 2)) (hs.below hb0 hgl) (by omega) (by omega)
  have HC := Lib.hid hcall
  clear hcall
  go_enter Try.func65, Try.ntmps65
  go_wp2_with fail
  refine HC.out.mono ?_
  rintro e w1 ⟨v, rfl, hv0, hv1, _, hs1, hg1⟩
  obtain ⟨i, rfl⟩ := Int.eq_ofNat_of_zero_le hv0
  have hi : i < 9 := by have := hv1 (by omega); omega
  obtain ⟨x, hx, hx0, hx1⟩ := half_cell i hi
  have hrow : w1.heap[w.heap.size]? = some (.cells (halfList.map (Value.int .i64)).toArray 2 (0, 0)) := (hg1.block _ (by simp) (fun e => by injection e with e; omega)).trans (heap_alloc_new w _)
  have hc : w1.cell? ⟨w.heap.size, i, none⟩ = some (.int .i64 x) := by rw [cell_of_row _ _ _ _ _ _ hrow]; exact hx
  have hi' : (i : Int) < 9 := by omega
  have HA : Hid (AfterSrc g a len cap w w1) := (AfterSrc.of_below hs hb0).trans ⟨hs1, hg1⟩
  clear hrow hx hv1 hv0 hs1 hg1 HC hb0
  go_wp2
  go_ret
  exact ⟨x, rfl, hx0, hx1, HA.out⟩

theorem AfterSrc.more {g : Nat} {a : Option Addr} {len cap : Nat} {w W : World} (h : AfterSrc g a len cap w W) (o : Obj) : AfterSrc g a len cap w (W.alloc o) := h.trans (AfterSrc.of_below h.1 ((Below.refl _ _).alloc (Nat.le_refl _) _))
theorem AfterSrc.put {g : Nat} {a : Option Addr} {len cap : Nat} {w W : World} (h : AfterSrc g a len cap w W) (hg : g < w.heap.size) {p : Addr} (hp : w.heap.size ≤ p.block) (v : Value) : AfterSrc g a len cap w (W.setCell p v) :=
  ⟨h.1.keep fun k hk => Below.heap_setCell W p v k (by omega), ⟨h.2.os, h.2.tape, h.2.output, by simpa [World.setCell] using h.2.size, fun k hk hne => (Below.heap_setCell W p v k (by omega)).trans (h.2.block k hk hne)⟩⟩
theorem AfterSrc.row {g : Nat} {a : Option Addr} {len cap : Nat} {w W : World} (h : AfterSrc g a len cap w W) {k : Nat} {o : Obj} (hr : w.heap[k]? = some o) (hne : k ≠ g) : W.heap[k]? = some o :=
  (h.2.block k (row_here hr) (fun e => hne (by injection e))).trans hr
theorem AfterSrc.lt {g : Nat} {a : Option Addr} {len cap : Nat} {w W : World} (h : AfterSrc g a len cap w W) : w.heap.size ≤ W.heap.size := h.2.size
theorem AfterSrc.below {g : Nat} {a : Option Addr} {len cap : Nat} {w W : World} (h : AfterSrc g a len cap w W) {B : Nat} (hB : B ≤ g) (hg : B ≤ w.heap.size) : Below B w W :=
  ⟨h.2.os, h.2.tape, h.2.output, h.2.size, fun k hk => h.2.block k (by omega) (fun e => by injection e with e; omega)⟩

set_option maxHeartbeats 800000 in
theorem srcWord_any (g : Nat) (a : Option Addr) (len cap : Nat) (w : World) (hs : Src w g a len cap) :
    Calls Try.prog 51 #[.pointer (some ⟨g, 0, none⟩)] w fun e w' => ∃ h l : Int, e = .returned (.agg #[.int .i64 h, .int .i64 l]) ∧ wdRight ⟨h, l⟩ = true ∧ AfterSrc g a len cap w w' := by
  have hgl := hs.lt
  have ha0 : AfterSrc g a len cap w (w.alloc (.cells #[.int .i64 0, .int .i64 0] 24)) := AfterSrc.of_below hs ((Below.refl _ _).alloc (Nat.le_refl _) _)
  have HA0 := Lib.hid ha0
  clear ha0 hs
  go_enter Try.func51, Try.ntmps51
  go_wp2_with fail
  refine (srcHalf_any g a len cap _ HA0.out.1).mono ?_
  rintro e w1 ⟨x, rfl, hx0, hx1, ha1⟩
  have HA1 := Lib.hid (HA0.out.trans ha1)
  have HR1 := Lib.hid (ha1.row (heap_alloc_new w _) (by omega))
  have hl1 : w.heap.size < w1.heap.size := row_here HR1.out
  clear ha1
  go_wp2_with fail
  refine (srcOne_any g a len cap 3 _ (HA1.out.more _).1 (by omega) (by omega)).mono ?_
  rintro e w2 ⟨b, rfl, ha2⟩
  have HA2 := Lib.hid ((HA1.out.more _).trans ha2)
  have HR2 := Lib.hid (ha2.row (row_alloc HR1.out _) (by omega))
  have HV2 := Lib.hid (ha2.row (heap_alloc_new w1 _) (by omega))
  clear ha2
  cases b with
  | false =>
    have c0 := row_cell HV2.out 0
    have c1 := row_cell HV2.out 1
    have d0 := row_cell HR2.out 0
    have d1 := row_cell HR2.out 1
    have f0 := frozen_row HR2.out 0
    have f1 := frozen_row HR2.out 1
    simp only [List.getElem?_toArray, List.getElem?_cons_zero, List.getElem?_cons_succ] at c0 c1 d0 d1
    go_wp2_with fail
    exact bodyPost_ret (v := .agg #[.int .i64 0, .int .i64 x]) (by simp [results, Try.results51, go_sem, d0, d1]) rfl
      ⟨0, x, rfl, by unfold wdRight isB; simp; omega, (HA2.out.put hgl (p := ⟨w.heap.size, 0, none⟩) (Nat.le_refl _) _).put hgl (p := ⟨w.heap.size, 1, none⟩) (Nat.le_refl _) _⟩
  | true =>
    go_wp2_with fail
    refine (srcHalf_any g a len cap _ HA2.out.1).mono ?_
    rintro e w3 ⟨y, rfl, hy0, hy1, ha3⟩
    have HA3 := Lib.hid (HA2.out.trans ha3)
    have HR3 := Lib.hid (ha3.row HR2.out (by omega))
    have HV3 := Lib.hid (ha3.row HV2.out (by omega))
    clear ha3
    have c0 := row_cell HV3.out 0
    have c1 := row_cell HV3.out 1
    have g0 := frozen_row HV3.out 0
    have d0 := row_cell HR3.out 0
    have d1 := row_cell HR3.out 1
    have f0 := frozen_row HR3.out 0
    have f1 := frozen_row HR3.out 1
    simp only [List.getElem?_toArray, List.getElem?_cons_zero, List.getElem?_cons_succ] at c0 c1 d0 d1
    go_wp2_with fail
    exact bodyPost_ret (v := .agg #[.int .i64 y, .int .i64 x]) (by simp [results, Try.results51, go_sem, d0, d1]) rfl
      ⟨y, x, rfl, by unfold wdRight isB; simp; omega, ((HA3.out.put hgl (p := ⟨w1.heap.size, 0, none⟩) (show w.heap.size ≤ w1.heap.size by omega) _).put hgl (p := ⟨w.heap.size, 0, none⟩) (Nat.le_refl _) _).put hgl (p := ⟨w.heap.size, 1, none⟩) (Nat.le_refl _) _⟩

end Go.Proofs.Ytgcfnmaojdnchaa

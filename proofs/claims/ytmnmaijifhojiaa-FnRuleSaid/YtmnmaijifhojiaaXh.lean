/- Texts of one proof, put together: El Ek Js Jt Eo. -/
import Derived.Test.YtmnmaijifhojiaaXg
import Derived.Test.YtmnmaijifhojiaaJr
import Derived.Test.YtmnmaijifhojiaaXd
import Derived.Test.YtmnmaijifhojiaaJn
import Derived.Test.YtmnmaijifhojiaaJl
import Derived.Test.YtmnmaijifhojiaaJh
import Derived.Test.YtmnmaijifhojiaaXe
import Derived.RangeFuncNested
import Derived.RangeFuncBound
import Derived.RangeFuncCalls
import Derived.RangeFuncLeaves
import Derived.Shelf.Abstract
import Derived.Shelf.RegionOpen
import Derived.WalkKit
import Derived.OwnWalkIn
import Derived.TacticsInMore
import Derived.LoopNIn
import Derived.LoopIn

/- What the law of PolicyAdd draws. -/
set_option maxRecDepth 100000
set_option linter.unusedSimpArgs false
set_option linter.unusedVariables false
namespace Go.Proofs.Ytmnmaijifhojiaa
open Go.RowKit
attribute [local go_sem ↓] Go.wp_at_zero Go.wp_at_succ

set_option maxHeartbeats 6400000 in
theorem drawPolicyAdd_any (a : Option Addr) (len cap : Nat) (w : World) (hcode : CodeAt w w.heap.size a len cap) :
    Calls Try.prog 15 #[.slice a len cap] w fun e w' => PolAddPost w e w' := by
  have HQ := Lib.hid (draw_start #[.int .i64 0, .int .i64 0, .int .i64 0, .slice none 0 0] 32 #[.int .i64 0, .int .i64 0, .slice none 0 0] 35 hcode)
  clear hcode
  go_enter Try.func15, Try.ntmps15
  go_wp2_with fail
  refine HQ.out.mono ?_
  rintro e w1 ⟨rfl, hm1⟩
  have HM1 := Lib.hid hm1
  have hlow := hm1.low
  clear hm1 HQ
  go_wp2_with fail
  refine (srcOddR_any (w.heap.size + 1 + 1) a len cap _ HM1.out.s).mono ?_
  rintro e w3 ⟨⟨nr, ac, cs⟩, u, rfl, hwf, hcw, hc5, hcq, ha3⟩
  obtain ⟨ra, rcap, rfl⟩ := OwnL.slice hcq
  have hm3 := HM1.out.src ha3
  have HM3 := Lib.hid (hm3.more (.cells #[.int .i64 nr, .int .i64 ac, .slice ra cs.length rcap] 35))
  have HX3 := Lib.hid (heap_alloc_new w3 (.cells #[.int .i64 nr, .int .i64 ac, .slice ra cs.length rcap] 35))
  have HO3 := Lib.hid (OwnL.alloc hcq (.cells #[.int .i64 nr, .int .i64 ac, .slice ra cs.length rcap] 35) : CqOwn w1.heap.size _ (.slice ra cs.length rcap) cs)
  have HCW := Lib.hid (show cqsWf cs from hcw)
  have hl3 := hm3.size
  clear hwf hcw hc5 ha3 hm3 hcq
  go_upto_region 3 with fail
  generalize hw5 : w3.alloc (.cells #[.int .i64 nr, .int .i64 ac, .slice ra cs.length rcap] 35) = w5 at *
  have hs5 : w3.heap.size < w5.heap.size := row_here HX3.out
  clear hw5
  go_wp2_with fail
  refine (srcPolicies_any (w.heap.size + 1 + 1) a len cap _ HM3.out.s).mono ?_
  rintro e w6 ⟨ar, df, bd, u, l, rfl, hi, hf, hl60, hown, ha6⟩
  obtain ⟨ua, ucap, rfl⟩ := hown.slice
  have HM6 := Lib.hid ((HM3.out.src ha6).more (.cells #[.int .i64 ar, .int .i64 df, .int .i64 bd, .slice ua l.length ucap] 32))
  have HX6 := Lib.hid (row_alloc (ha6.row HX3.out (by omega)) (.cells #[.int .i64 ar, .int .i64 df, .int .i64 bd, .slice ua l.length ucap] 32))
  have HY6 := Lib.hid (heap_alloc_new w6 (.cells #[.int .i64 ar, .int .i64 df, .int .i64 bd, .slice ua l.length ucap] 32))
  have HO6 := Lib.hid (OwnL.alloc (own_src HO3.out ha6 hlow) (.cells #[.int .i64 ar, .int .i64 df, .int .i64 bd, .slice ua l.length ucap] 32) : CqOwn w1.heap.size _ (.slice ra cs.length rcap) cs)
  have hsz5 := HM3.out.size
  have HP6 := Lib.hid ((hown.base hsz5).below ((Below.refl _ _).alloc (Nat.le_refl _) (.cells #[.int .i64 ar, .int .i64 df, .int .i64 bd, .slice ua l.length ucap] 32)))
  have HF := Lib.hid hf
  have hs6 : w5.heap.size ≤ w6.heap.size := ha6.2.size
  clear hown ha6 hf hi HX3 HO3
  go_upto_region 4 with fail
  generalize w6.alloc (.cells #[.int .i64 ar, .int .i64 df, .int .i64 bd, .slice ua l.length ucap] 32) = w7 at *
  have y3 := row_cell HY6.out 3
  simp only [List.getElem?_toArray, List.getElem?_cons_zero, List.getElem?_cons_succ] at y3
  have fin : ∀ W : World, DMid w w1 a len cap (.cells #[.int .i64 0, .int .i64 0, .int .i64 0, .slice none 0 0] 32 (0, 0)) (.cells #[.int .i64 0, .int .i64 0, .slice none 0 0] 35 (0, 0)) W → W.heap[w3.heap.size]? = some (.cells #[.int .i64 nr, .int .i64 ac, .slice ra cs.length rcap] 35 (0, 0)) → W.heap[w6.heap.size]? = some (.cells #[.int .i64 ar, .int .i64 df, .int .i64 bd, .slice ua l.length ucap] 32 (0, 0)) → CqOwn w1.heap.size W (.slice ra cs.length rcap) cs → OwnRv w1.heap.size W (.slice ua l.length ucap) l →
      (PolAddPost w (.returned (.tuple #[polV ar df bd (.slice ua l.length ucap), rlV ⟨nr, ac, cs⟩ (.slice ra cs.length rcap)])) ((((((((W.setCell ⟨w.heap.size, 0, none⟩ (.int .i64 ar)).setCell ⟨w.heap.size, 1, none⟩ (.int .i64 df)).setCell ⟨w.heap.size, 2, none⟩ (.int .i64 bd)).setCell ⟨w.heap.size, 3, none⟩ (.slice ua l.length ucap)).setCell ⟨w.heap.size + 1, 0, none⟩ (.int .i64 nr)).setCell ⟨w.heap.size + 1, 1, none⟩ (.int .i64 ac)).setCell ⟨w.heap.size + 1, 2, none⟩ (.slice ra cs.length rcap))).drew) := fun W hm _ _ ho hp =>
    ⟨ar, df, bd, _, l, ⟨nr, ac, cs⟩, _, rfl, OwnRv.fine (OwnRv.below (((((((hp.setBelow (a := ⟨w.heap.size, 0, none⟩) (show w.heap.size < w1.heap.size by omega) _).setBelow (a := ⟨w.heap.size, 1, none⟩) (show w.heap.size < w1.heap.size by omega) _).setBelow (a := ⟨w.heap.size, 2, none⟩) (show w.heap.size < w1.heap.size by omega) _).setBelow (a := ⟨w.heap.size, 3, none⟩) (show w.heap.size < w1.heap.size by omega) _).setBelow (a := ⟨w.heap.size + 1, 0, none⟩) (show w.heap.size + 1 < w1.heap.size by omega) _).setBelow (a := ⟨w.heap.size + 1, 1, none⟩) (show w.heap.size + 1 < w1.heap.size by omega) _).setBelow (a := ⟨w.heap.size + 1, 2, none⟩) (show w.heap.size + 1 < w1.heap.size by omega) _) (Below.refl _ _).drew) HF.out, OwnL.lAt cqS (OwnL.below (((((((ho.setBelow (a := ⟨w.heap.size, 0, none⟩) (show w.heap.size < w1.heap.size by omega) _).setBelow (a := ⟨w.heap.size, 1, none⟩) (show w.heap.size < w1.heap.size by omega) _).setBelow (a := ⟨w.heap.size, 2, none⟩) (show w.heap.size < w1.heap.size by omega) _).setBelow (a := ⟨w.heap.size, 3, none⟩) (show w.heap.size < w1.heap.size by omega) _).setBelow (a := ⟨w.heap.size + 1, 0, none⟩) (show w.heap.size + 1 < w1.heap.size by omega) _).setBelow (a := ⟨w.heap.size + 1, 1, none⟩) (show w.heap.size + 1 < w1.heap.size by omega) _).setBelow (a := ⟨w.heap.size + 1, 2, none⟩) (show w.heap.size + 1 < w1.heap.size by omega) _) (Below.refl _ _).drew) HCW.out, (((((((hm.bel.setCell (p := ⟨w.heap.size, 0, none⟩) (Nat.le_refl _) _).setCell (p := ⟨w.heap.size, 1, none⟩) (Nat.le_refl _) _).setCell (p := ⟨w.heap.size, 2, none⟩) (Nat.le_refl _) _).setCell (p := ⟨w.heap.size, 3, none⟩) (Nat.le_refl _) _).setCell (p := ⟨w.heap.size + 1, 0, none⟩) (show w.heap.size ≤ w.heap.size + 1 by omega) _).setCell (p := ⟨w.heap.size + 1, 1, none⟩) (show w.heap.size ≤ w.heap.size + 1 by omega) _).setCell (p := ⟨w.heap.size + 1, 2, none⟩) (show w.heap.size ≤ w.heap.size + 1 by omega) _).drew⟩
  have FIN := Lib.hid fin
  clear fin
  by_cases hl0 : l.length = 0
  · have e0 : decide ((0 : Int) < (l.length : Int)) = false := decide_eq_false (by omega)
    have e1 : decide (0 < l.length) = false := decide_eq_false (by omega)
    clear hl0
    have h0 := row_cell HM6.out.1 0
    have h1 := row_cell HM6.out.1 1
    have h2 := row_cell HM6.out.1 2
    have h3 := row_cell HM6.out.1 3
    have hf0 := frozen_row HM6.out.1 0
    have hf1 := frozen_row HM6.out.1 1
    have hf2 := frozen_row HM6.out.1 2
    have hf3 := frozen_row HM6.out.1 3
    have i0 := row_cell HM6.out.2.1 0
    have i1 := row_cell HM6.out.2.1 1
    have i2 := row_cell HM6.out.2.1 2
    have if0 := frozen_row HM6.out.2.1 0
    have if1 := frozen_row HM6.out.2.1 1
    have if2 := frozen_row HM6.out.2.1 2
    have x0 := row_cell HX6.out 0
    have x1 := row_cell HX6.out 1
    have x2 := row_cell HX6.out 2
    have y0 := row_cell HY6.out 0
    have y1 := row_cell HY6.out 1
    have y2 := row_cell HY6.out 2
    have y3 := row_cell HY6.out 3
    simp only [List.getElem?_toArray, List.getElem?_cons_zero, List.getElem?_cons_succ] at h0 h1 h2 h3 i0 i1 i2 x0 x1 x2 y0 y1 y2 y3
    have HE := Lib.hid (FIN.out _ HM6.out HX6.out HY6.out HO6.out HP6.out)
    go_wp2_with fail
    go_region
    all_goals
      go_wp2_with fail
      exact bodyPost_ret (v := .tuple #[.agg #[.int .i64 ar, .int .i64 df, .int .i64 bd, .slice ua l.length ucap], .agg #[.int .i64 nr, .int .i64 ac, .slice ra cs.length rcap]]) (by simp [results, Try.results15, go_sem, h0, h1, h2, h3, i0, i1, i2]) rfl HE.out
  have e0 : decide ((0 : Int) < (l.length : Int)) = true := decide_eq_true (by omega)
  go_wp2_with fail
  refine (srcOne_any (w.heap.size + 1 + 1) a len cap 4 _ HM6.out.s (by omega) (by omega)).mono ?_
  rintro e w8 ⟨b, rfl, ha8⟩
  have HM8 := Lib.hid (HM6.out.src ha8)
  have HX8 := Lib.hid (ha8.row HX6.out (by omega))
  have HY8 := Lib.hid (ha8.row HY6.out (by omega))
  have HO8 := Lib.hid (own_src HO6.out ha8 hlow)
  have HP8 := Lib.hid (HP6.out.src ha8 hlow)
  clear ha8 HM6 HX6 HY6 HO6 HP6 y3
  cases b with
  | false =>
    have h0 := row_cell HM8.out.1 0
    have h1 := row_cell HM8.out.1 1
    have h2 := row_cell HM8.out.1 2
    have h3 := row_cell HM8.out.1 3
    have hf0 := frozen_row HM8.out.1 0
    have hf1 := frozen_row HM8.out.1 1
    have hf2 := frozen_row HM8.out.1 2
    have hf3 := frozen_row HM8.out.1 3
    have i0 := row_cell HM8.out.2.1 0
    have i1 := row_cell HM8.out.2.1 1
    have i2 := row_cell HM8.out.2.1 2
    have if0 := frozen_row HM8.out.2.1 0
    have if1 := frozen_row HM8.out.2.1 1
    have if2 := frozen_row HM8.out.2.1 2
    have x0 := row_cell HX8.out 0
    have x1 := row_cell HX8.out 1
    have x2 := row_cell HX8.out 2
    have y0 := row_cell HY8.out 0
    have y1 := row_cell HY8.out 1
    have y2 := row_cell HY8.out 2
    have y3 := row_cell HY8.out 3
    simp only [List.getElem?_toArray, List.getElem?_cons_zero, List.getElem?_cons_succ] at h0 h1 h2 h3 i0 i1 i2 x0 x1 x2 y0 y1 y2 y3
    have HE := Lib.hid (FIN.out _ HM8.out HX8.out HY8.out HO8.out HP8.out)
    go_wp2_with fail
    go_region
    all_goals
      go_wp2_with fail
      exact bodyPost_ret (v := .tuple #[.agg #[.int .i64 ar, .int .i64 df, .int .i64 bd, .slice ua l.length ucap], .agg #[.int .i64 nr, .int .i64 ac, .slice ra cs.length rcap]]) (by simp [results, Try.results15, go_sem, h0, h1, h2, h3, i0, i1, i2]) rfl HE.out
  | true =>
    clear FIN
    have hl1 : 0 < l.length := by omega
    obtain ⟨vb, vc', e, hvb, hvlt, hvc⟩ := OwnL.more HP8.out.1 hl1
    simp only [Value.slice.injEq] at e
    obtain ⟨rfl, _, rfl⟩ := e
    have HY0 := Lib.hid HM8.out.drew
    have c0 := row_cell HY8.out 0
    have c1 := row_cell HY8.out 1
    have c2 := row_cell HY8.out 2
    have c3 := row_cell HY8.out 3
    simp only [List.getElem?_toArray, List.getElem?_cons_zero, List.getElem?_cons_succ] at c0 c1 c2 c3
    have HQN := Lib.hid (fun W s => srcN_any (w.heap.size + 1 + 1) a len cap (l.length : Int) W s (by omega) (by omega))
    have HZ0 : Hid (w8.drew.heap[w6.heap.size]? = some (.cells #[.int .i64 ar, .int .i64 df, .int .i64 bd, .slice (some ⟨vb, 0, none⟩) l.length ucap] 32 (0, 0))) := Lib.hid HY8.out
    have HP0 := Lib.hid (HP8.out.below (Below.refl _ _).drew)
    go_wp2_with fail
    go_region_law ((go_simp; (with_reducible refine (HQN.out _ HY0.out.s).mono ?_); rintro e y1 ⟨v, rfl, hv0, hv1, hvz, hs1, hg1⟩; have HM9 := Lib.hid (HY0.out.src ⟨hs1, hg1⟩); have HP9 := Lib.hid (HP0.out.src ⟨hs1, hg1⟩ hlow); have hy9 := AfterSrc.row ⟨hs1, hg1⟩ HZ0.out (by omega); obtain ⟨i, rfl⟩ := Int.eq_ofNat_of_zero_le hv0; have hi : i < l.length := pick_lt hl1 hv1 hvz; have hiI : (i : Int) < (l.length : Int) := (by omega); obtain ⟨⟨⟨rnr, rac, rcs⟩, rv⟩, hxi⟩ : ∃ x, l[i]? = some x := ⟨_, List.getElem?_eq_getElem hi⟩; have hmem := List.mem_of_getElem? hxi; obtain ⟨rva, rvc, rfl⟩ : ∃ a c, rv = .slice a rcs.length c := OwnL.slice (HP9.out.2.1.1 _ hmem); obtain ⟨q0, q1, q2, _, _, _⟩ := rv_own_at HP9.out.1 hxi; have HMEM := Lib.hid hmem; have d0 := row_cell hy9 0; have d1 := row_cell hy9 1; have d2 := row_cell hy9 2; have d3 := row_cell hy9 3; have h0 := row_cell HM9.out.1 0; have h1 := row_cell HM9.out.1 1; have h2 := row_cell HM9.out.1 2; have h3 := row_cell HM9.out.1 3; have hf0 := frozen_row HM9.out.1 0; have hf1 := frozen_row HM9.out.1 1; have hf2 := frozen_row HM9.out.1 2; have hf3 := frozen_row HM9.out.1 3; have i0 := row_cell HM9.out.2.1 0; have i1 := row_cell HM9.out.2.1 1; have i2 := row_cell HM9.out.2.1 2; have if0 := frozen_row HM9.out.2.1 0; have if1 := frozen_row HM9.out.2.1 1; have if2 := frozen_row HM9.out.2.1 2; simp only [List.getElem?_toArray, List.getElem?_cons_zero, List.getElem?_cons_succ] at d0 d1 d2 d3 h0 h1 h2 h3 i0 i1 i2; clear hxi hmem hv1 hvz hs1 hg1 hy9; dsimp only))
    all_goals
      have HE : Hid (PolAddPost w (.returned (.tuple #[polV ar df bd (.slice (some ⟨vb, 0, none⟩) l.length ucap), rlV ⟨rnr, rac, rcs⟩ (.slice rva rcs.length rvc)])) ((((((((y1.setCell ⟨w.heap.size, 0, none⟩ (.int .i64 ar)).setCell ⟨w.heap.size, 1, none⟩ (.int .i64 df)).setCell ⟨w.heap.size, 2, none⟩ (.int .i64 bd)).setCell ⟨w.heap.size, 3, none⟩ (.slice (some ⟨vb, 0, none⟩) l.length ucap)).setCell ⟨w.heap.size + 1, 0, none⟩ (.int .i64 rnr)).setCell ⟨w.heap.size + 1, 1, none⟩ (.int .i64 rac)).setCell ⟨w.heap.size + 1, 2, none⟩ (.slice rva rcs.length rvc)))) :=
        have hp := (((((((HP9.out.setBelow (a := ⟨w.heap.size, 0, none⟩) (show w.heap.size < w1.heap.size by omega) _).setBelow (a := ⟨w.heap.size, 1, none⟩) (show w.heap.size < w1.heap.size by omega) _).setBelow (a := ⟨w.heap.size, 2, none⟩) (show w.heap.size < w1.heap.size by omega) _).setBelow (a := ⟨w.heap.size, 3, none⟩) (show w.heap.size < w1.heap.size by omega) _).setBelow (a := ⟨w.heap.size + 1, 0, none⟩) (show w.heap.size + 1 < w1.heap.size by omega) _).setBelow (a := ⟨w.heap.size + 1, 1, none⟩) (show w.heap.size + 1 < w1.heap.size by omega) _).setBelow (a := ⟨w.heap.size + 1, 2, none⟩) (show w.heap.size + 1 < w1.heap.size by omega) _)
        Lib.hid ⟨ar, df, bd, _, l, ⟨rnr, rac, rcs⟩, _, rfl, OwnRv.fine hp HF.out, OwnL.lAt cqS (hp.2.1.1 _ HMEM.out) (HF.out _ HMEM.out).2.1, (((((((HM9.out.bel.setCell (p := ⟨w.heap.size, 0, none⟩) (Nat.le_refl _) _).setCell (p := ⟨w.heap.size, 1, none⟩) (Nat.le_refl _) _).setCell (p := ⟨w.heap.size, 2, none⟩) (Nat.le_refl _) _).setCell (p := ⟨w.heap.size, 3, none⟩) (Nat.le_refl _) _).setCell (p := ⟨w.heap.size + 1, 0, none⟩) (show w.heap.size ≤ w.heap.size + 1 by omega) _).setCell (p := ⟨w.heap.size + 1, 1, none⟩) (show w.heap.size ≤ w.heap.size + 1 by omega) _).setCell (p := ⟨w.heap.size + 1, 2, none⟩) (show w.heap.size ≤ w.heap.size + 1 by omega) _)⟩
      go_wp2_with fail
      exact bodyPost_ret (v := .tuple #[.agg #[.int .i64 ar, .int .i64 df, .int .i64 bd, .slice (some ⟨vb, 0, none⟩) l.length ucap], .agg #[.int .i64 rnr, .int .i64 rac, .slice rva rcs.length rvc]]) (by simp [results, Try.results15, go_sem, h0, h1, h2, h3, i0, i1, i2]) rfl HE.out

end Go.Proofs.Ytmnmaijifhojiaa

/- What the law of Decide draws. -/
set_option maxRecDepth 100000
set_option linter.unusedSimpArgs false
set_option linter.unusedVariables false
namespace Go.Proofs.Ytmnmaijifhojiaa
open Go.RowKit
attribute [local go_sem ↓] Go.wp_at_zero Go.wp_at_succ

/-- A record's Args, in memory that the call made. -/
def WdRec (lo hi : Nat) (W : World) (xu : Value) (args : List Wd) : Prop := ∃ (b o n c : Nat), xu = .slice (some ⟨b, o, none⟩) n c ∧ lo ≤ b ∧ b ≠ hi ∧ WdAt W W.heap.size xu args
theorem WdRec.put {lo hi : Nat} {W : World} {xu : Value} {args : List Wd} (h : WdRec lo hi W xu args) {Z : Nat} (hZ : Z < lo ∨ Z = hi) (i : Nat) (v : Value) : WdRec lo hi (W.setCell ⟨Z, i, none⟩ v) xu args := by
  obtain ⟨b, o, n, c, rfl, hl, hh, ha⟩ := h
  refine ⟨b, o, n, c, rfl, hl, hh, LAt.up (WdAt.put ha (p := ⟨Z, i, none⟩) (show Z ≠ b by omega) v) (by simp [World.setCell])⟩
theorem WdRec.below {lo hi : Nat} {W W' : World} {xu : Value} {args : List Wd} (h : WdRec lo hi W xu args) (hb : Below W.heap.size W W') : WdRec lo hi W' xu args := by
  obtain ⟨b, o, n, c, rfl, hl, hh, ha⟩ := h
  exact ⟨b, o, n, c, rfl, hl, hh, LAt.up (LAt.below ha hb) hb.size⟩
theorem WdRec.src {lo hi g : Nat} {a : Option Addr} {len cap : Nat} {W W' : World} {xu : Value} {args : List Wd} (h : WdRec lo hi W xu args) (ha' : AfterSrc g a len cap W W') (hg : g < lo) : WdRec lo hi W' xu args := by
  obtain ⟨b, o, n, c, rfl, hl, hh, hS, ⟨a', cap', e, h1, h2, h3⟩, hwf⟩ := h
  simp only [Value.slice.injEq] at e
  obtain ⟨rfl, rfl, rfl⟩ := e
  refine ⟨b, o, _, _, rfl, hl, hh, LAt.up (B := W.heap.size) ⟨hS, ⟨_, _, rfl, h1, h2, fun h0 => ?_⟩, hwf⟩ ha'.2.size⟩
  obtain ⟨b1, o1, e1, hb, hc⟩ := h3 h0
  simp only [Option.some.injEq, Addr.mk.injEq] at e1
  obtain ⟨rfl, rfl, _⟩ := e1
  exact ⟨b, o, rfl, hb, fun i u hu => (World.cell?_of_block (w := W) (ha'.2.block b (by omega) (fun e => by injection e with e; omega))).trans (hc i u hu)⟩
theorem WdRec.at {lo hi : Nat} {W : World} {xu : Value} {args : List Wd} (h : WdRec lo hi W xu args) : WdAt W W.heap.size xu args := by
  obtain ⟨b, o, n, c, rfl, hl, hh, ha⟩ := h
  exact ha
theorem WdRec.of_own {base hi : Nat} {W : World} {xu : Value} {args : List Wd} (h : WdOwn base W xu args) (h6 : 0 < args.length) (hh : W.heap.size ≤ hi) (hw : ∀ u ∈ args, u.wf) : WdRec base hi W xu args := by
  obtain ⟨b, c, rfl, h1, h2, _⟩ := OwnL.more h h6
  exact ⟨b, 0, _, c, rfl, h1, by omega, OwnL.lAt wdS h hw⟩
def DecAt (w w1 : World) (a : Option Addr) (len cap X Y : Nat) (pr : Array Value) (u : Value) (l : List Rv) (W : World) : Prop := ∃ (rc : Rc) (xu : Value),
  W.heap[X]? = some (.cells pr 32 (0, 0)) ∧ W.heap[Y]? = some (.cells #[.int .i64 rc.nr, .int .i64 rc.ar, .int .i64 rc.ip.h, .int .i64 rc.ip.l, xu] 45 (0, 0)) ∧ OwnRv w1.heap.size W u l ∧ WdRec w1.heap.size Y W xu rc.args ∧ (∀ k, RvBlk u l k → k ≠ Y) ∧
  DMid w w1 a len cap (.cells #[.int .i64 0, .int .i64 0, .int .i64 0, .slice none 0 0] 32 (0, 0)) (.cells #[.int .i64 0, .int .i64 0, .int .i64 0, .int .i64 0, .slice none 0 0] 45 (0, 0)) W
theorem DecAt.put5 {w w1 : World} {a : Option Addr} {len cap X Y : Nat} {pr : Array Value} {u xu0 : Value} {l : List Rv} {rc0 : Rc} {W : World} {rc : Rc} {xu : Value} {z0 z1 z2 z3 z4 : Value}
    (hx : W.heap[X]? = some (.cells pr 32 (0, 0))) (hy : W.heap[Y]? = some (.cells #[z0, z1, z2, z3, z4] 45 (0, 0))) (ho : OwnRv w1.heap.size W u l) (hr : WdRec w1.heap.size Y W xu rc.args) (hu : ∀ k, RvBlk u l k → k ≠ Y)
    (hm : DMid w w1 a len cap (.cells #[.int .i64 0, .int .i64 0, .int .i64 0, .slice none 0 0] 32 (0, 0)) (.cells #[.int .i64 0, .int .i64 0, .int .i64 0, .int .i64 0, .slice none 0 0] 45 (0, 0)) W) (hXY : X ≠ Y) (hY : w1.heap.size ≤ Y) :
    DecAt w w1 a len cap X Y pr u l (((((W.setCell ⟨Y, 0, none⟩ (.int .i64 rc.nr)).setCell ⟨Y, 1, none⟩ (.int .i64 rc.ar)).setCell ⟨Y, 2, none⟩ (.int .i64 rc.ip.h)).setCell ⟨Y, 3, none⟩ (.int .i64 rc.ip.l)).setCell ⟨Y, 4, none⟩ xu) :=
  ⟨rc, xu, row_other (row_other (row_other (row_other (row_other hx _ _ hXY) _ _ hXY) _ _ hXY) _ _ hXY) _ _ hXY, row_put (row_put (row_put (row_put (row_put hy 0 _) 1 _) 2 _) 3 _) 4 _,
    own_five ho hu, ((((hr.put (.inr rfl) 0 _).put (.inr rfl) 1 _).put (.inr rfl) 2 _).put (.inr rfl) 3 _).put (.inr rfl) 4 _, hu, ((((hm.put hY 0 _).put hY 1 _).put hY 2 _).put hY 3 _).put hY 4 _⟩

set_option maxHeartbeats 6400000 in
theorem drawDecide_any (a : Option Addr) (len cap : Nat) (w : World) (hcode : CodeAt w w.heap.size a len cap) :
    Calls Try.prog 18 #[.slice a len cap] w fun e w' => DecPost w e w' := by
  have HQ := Lib.hid (draw_start #[.int .i64 0, .int .i64 0, .int .i64 0, .slice none 0 0] 32 #[.int .i64 0, .int .i64 0, .int .i64 0, .int .i64 0, .slice none 0 0] 45 hcode)
  clear hcode
  go_enter Try.func18, Try.ntmps18
  go_wp2_with fail
  refine HQ.out.mono ?_
  rintro e w1 ⟨rfl, hm1⟩
  have HM1 := Lib.hid hm1
  have hlow := hm1.low
  clear hm1 HQ
  go_wp2_with fail
  refine (srcPolicies_any (w.heap.size + 1 + 1) a len cap _ HM1.out.s).mono ?_
  rintro e w3 ⟨ar, df, bd, u, l, rfl, hi, hf, hl60, hown, ha3⟩
  obtain ⟨ua, ucap, rfl⟩ := hown.slice
  have hm3 := HM1.out.src ha3
  have HM3 := Lib.hid (hm3.more (.cells #[.int .i64 ar, .int .i64 df, .int .i64 bd, .slice ua l.length ucap] 32))
  have HX3 := Lib.hid (heap_alloc_new w3 (.cells #[.int .i64 ar, .int .i64 df, .int .i64 bd, .slice ua l.length ucap] 32))
  have HO3 := Lib.hid (hown.below ((Below.refl _ _).alloc (Nat.le_refl _) (.cells #[.int .i64 ar, .int .i64 df, .int .i64 bd, .slice ua l.length ucap] 32)))
  have HK3 := Lib.hid (fun k (hk : RvBlk (.slice ua l.length ucap) l k) => (show k < w3.heap.size from (hown.lt k hk).2))
  have HF := Lib.hid hf
  have hl3 := hm3.size
  clear hm3 hown ha3 hf hi
  go_upto_region 3 with fail
  generalize hw5 : w3.alloc (.cells #[.int .i64 ar, .int .i64 df, .int .i64 bd, .slice ua l.length ucap] 32) = w5 at *
  have hs5 : w3.heap.size < w5.heap.size := row_here HX3.out
  clear hw5
  have c0 := row_cell HX3.out 0
  have c1 := row_cell HX3.out 1
  have c2 := row_cell HX3.out 2
  have c3 := row_cell HX3.out 3
  simp only [List.getElem?_toArray, List.getElem?_cons_zero, List.getElem?_cons_succ] at c0 c1 c2 c3
  have HQ := Lib.hid (srcNear_any (w.heap.size + 1 + 1) a len cap w1.heap.size ar df bd (.slice ua l.length ucap) l w5 HM3.out.s HO3.out hlow HF.out hl60)
  go_wp2_with fail
  refine HQ.out.mono ?_
  rintro e w6 ⟨⟨zn, za, ⟨zh, zl⟩, args⟩, xu, rfl, hrr, hwo, ha6⟩
  have h6 : 0 < args.length := by have := (rcRight_p5 hrr).2.2.2.1; simp only at this; omega
  obtain ⟨xb, xc, rfl, _⟩ := OwnL.more hwo h6
  have hwr := WdRec.of_own (hi := w6.heap.size) (OwnL.base hwo HM3.out.size) h6 (Nat.le_refl _) (rcRight_wfs hrr)
  have HM6 := Lib.hid ((HM3.out.src ha6).more (.cells #[.int .i64 zn, .int .i64 za, .int .i64 zh, .int .i64 zl, .slice (some ⟨xb, 0, none⟩) args.length xc] 45))
  have HX6 := Lib.hid (row_alloc (ha6.row HX3.out (by omega)) (.cells #[.int .i64 zn, .int .i64 za, .int .i64 zh, .int .i64 zl, .slice (some ⟨xb, 0, none⟩) args.length xc] 45))
  have HY6 := Lib.hid (heap_alloc_new w6 (.cells #[.int .i64 zn, .int .i64 za, .int .i64 zh, .int .i64 zl, .slice (some ⟨xb, 0, none⟩) args.length xc] 45))
  have HO6 := Lib.hid ((HO3.out.src ha6 hlow).below ((Below.refl _ _).alloc (Nat.le_refl _) (.cells #[.int .i64 zn, .int .i64 za, .int .i64 zh, .int .i64 zl, .slice (some ⟨xb, 0, none⟩) args.length xc] 45)))
  have HR6 := Lib.hid (hwr.below ((Below.refl _ _).alloc (Nat.le_refl _) (.cells #[.int .i64 zn, .int .i64 za, .int .i64 zh, .int .i64 zl, .slice (some ⟨xb, 0, none⟩) args.length xc] 45)))
  have hs6 : w5.heap.size ≤ w6.heap.size := ha6.2.size
  clear hwr hwo ha6 hrr h6 c0 c1 c2 c3 HQ
  go_wp2_with fail
  refine (srcOne_any (w.heap.size + 1 + 1) a len cap 12 _ HM6.out.s (by omega) (by omega)).mono ?_
  rintro e w7 ⟨b, rfl, ha7⟩
  have HM7 := Lib.hid (HM6.out.src ha7)
  have HX7 := Lib.hid (ha7.row HX6.out (by omega))
  have HY7 := Lib.hid (ha7.row HY6.out (by omega))
  have HO7 := Lib.hid (HO6.out.src ha7 hlow)
  have HR7 := Lib.hid (HR6.out.src ha7 hlow)
  clear ha7 HM6 HX6 HY6 HO6 HR6
  have HKY := Lib.hid (fun k (hk : RvBlk (.slice ua l.length ucap) l k) => (show k ≠ w6.heap.size by have := HK3.out k hk; omega))
  go_upto_if 15 with fail
  go_cut [] from 16 to 17 (fun ws => DecAt w w1 a len cap w3.heap.size w6.heap.size #[.int .i64 ar, .int .i64 df, .int .i64 bd, .slice ua l.length ucap] (.slice ua l.length ucap) l ws)
  case first =>
    cases b
    · go_wp2_with fail
      go_meet
      exact ⟨⟨zn, za, ⟨zh, zl⟩, args⟩, _, HX7.out, HY7.out, HO7.out, HR7.out, HKY.out, HM7.out⟩
    · go_wp2_with fail
      refine (srcRecord_any (w.heap.size + 1 + 1) a len cap _ HM7.out.s).mono ?_
      rintro e w8 ⟨⟨yn, ya, ⟨yh, yl⟩, args'⟩, yu, rfl, hwf8, hat8, hl8, ⟨b8, o8, n8, c8, rfl, hb8⟩, ha8⟩
      have hy := ha8.row HY7.out (by omega)
      have hlt7 : w6.heap.size < w7.heap.size := row_here HY7.out
      have y0 := row_cell hy 0
      have y1 := row_cell hy 1
      have y2 := row_cell hy 2
      have y3 := row_cell hy 3
      have y4 := row_cell hy 4
      have yf0 := frozen_row hy 0
      have yf1 := frozen_row hy 1
      have yf2 := frozen_row hy 2
      have yf3 := frozen_row hy 3
      have yf4 := frozen_row hy 4
      simp only [List.getElem?_toArray, List.getElem?_cons_zero, List.getElem?_cons_succ] at y0 y1 y2 y3 y4
      have HS := Lib.hid (DecAt.put5 (rc := ⟨yn, ya, ⟨yh, yl⟩, args'⟩) (rc0 := ⟨yn, ya, ⟨yh, yl⟩, args'⟩) (xu0 := .nilIface) (ha8.row HX7.out (by omega)) hy (HO7.out.src ha8 hlow) (show WdRec w1.heap.size w6.heap.size w8 (.slice (some ⟨b8, o8, none⟩) n8 c8) args' from ⟨b8, o8, n8, c8, rfl, by have := HM7.out.size; omega, by omega, hat8⟩) HKY.out (HM7.out.src ha8) (by omega) (by omega))
      simp only at HS
      clear hy hwf8 hat8 ha8
      go_wp2_with fail
      go_meet
      exact HS.out
  case rest =>
  obtain ⟨⟨yn, ya, ⟨yh, yl⟩, args'⟩, xu', hx, hy, ho, hr, hk, hm⟩ := hcut
  obtain ⟨b8, o8, n8, c8, rfl, hb8, hb8', hat8⟩ := hr
  have HR : Hid (WdRec w1.heap.size w6.heap.size wc (.slice (some ⟨b8, o8, none⟩) n8 c8) args') := Lib.hid ⟨b8, o8, n8, c8, rfl, hb8, hb8', hat8⟩
  have HM := Lib.hid hm
  have HO := Lib.hid ho
  have h0 := row_cell hm.1 0
  have h1 := row_cell hm.1 1
  have h2 := row_cell hm.1 2
  have h3 := row_cell hm.1 3
  have hf0 := frozen_row hm.1 0
  have hf1 := frozen_row hm.1 1
  have hf2 := frozen_row hm.1 2
  have hf3 := frozen_row hm.1 3
  have i0 := row_cell hm.2.1 0
  have i1 := row_cell hm.2.1 1
  have i2 := row_cell hm.2.1 2
  have i3 := row_cell hm.2.1 3
  have i4 := row_cell hm.2.1 4
  have if0 := frozen_row hm.2.1 0
  have if1 := frozen_row hm.2.1 1
  have if2 := frozen_row hm.2.1 2
  have if3 := frozen_row hm.2.1 3
  have if4 := frozen_row hm.2.1 4
  have x0 := row_cell hx 0
  have x1 := row_cell hx 1
  have x2 := row_cell hx 2
  have x3 := row_cell hx 3
  have y0 := row_cell hy 0
  have y1 := row_cell hy 1
  have y2 := row_cell hy 2
  have y3 := row_cell hy 3
  have y4 := row_cell hy 4
  simp only [List.getElem?_toArray, List.getElem?_cons_zero, List.getElem?_cons_succ] at h0 h1 h2 h3 i0 i1 i2 i3 i4 x0 x1 x2 x3 y0 y1 y2 y3 y4
  clear hm hx hy ho hat8 HX7 HY7 HO7 HR7 HM7 hk HKY HK3
  go_wp2_with fail
  go_region
  all_goals
    go_wp2_with fail
    exact bodyPost_ret (v := .tuple #[.agg #[.int .i64 ar, .int .i64 df, .int .i64 bd, .slice ua l.length ucap], .agg #[.int .i64 yn, .int .i64 ya, .int .i64 yh, .int .i64 yl, .slice (some ⟨b8, o8, none⟩) n8 c8]]) (by simp [results, Try.results18, go_sem, h0, h1, h2, h3, i0, i1, i2, i3, i4]) rfl
      ⟨ar, df, bd, _, l, ⟨yn, ya, ⟨yh, yl⟩, args'⟩, _, rfl, OwnRv.fine (OwnRv.below (((((((((HO.out.setBelow (a := ⟨w.heap.size, 0, none⟩) (show w.heap.size < w1.heap.size by omega) _).setBelow (a := ⟨w.heap.size, 1, none⟩) (show w.heap.size < w1.heap.size by omega) _).setBelow (a := ⟨w.heap.size, 2, none⟩) (show w.heap.size < w1.heap.size by omega) _).setBelow (a := ⟨w.heap.size, 3, none⟩) (show w.heap.size < w1.heap.size by omega) _).setBelow (a := ⟨w.heap.size + 1, 0, none⟩) (show w.heap.size + 1 < w1.heap.size by omega) _).setBelow (a := ⟨w.heap.size + 1, 1, none⟩) (show w.heap.size + 1 < w1.heap.size by omega) _).setBelow (a := ⟨w.heap.size + 1, 2, none⟩) (show w.heap.size + 1 < w1.heap.size by omega) _).setBelow (a := ⟨w.heap.size + 1, 3, none⟩) (show w.heap.size + 1 < w1.heap.size by omega) _).setBelow (a := ⟨w.heap.size + 1, 4, none⟩) (show w.heap.size + 1 < w1.heap.size by omega) _) (Below.refl _ _).drew) HF.out, ((((((((((HR.out.put (Z := w.heap.size) (Or.inl (show w.heap.size < w1.heap.size by omega)) 0 _).put (Z := w.heap.size) (Or.inl (show w.heap.size < w1.heap.size by omega)) 1 _).put (Z := w.heap.size) (Or.inl (show w.heap.size < w1.heap.size by omega)) 2 _).put (Z := w.heap.size) (Or.inl (show w.heap.size < w1.heap.size by omega)) 3 _).put (Z := w.heap.size + 1) (Or.inl (show w.heap.size + 1 < w1.heap.size by omega)) 0 _).put (Z := w.heap.size + 1) (Or.inl (show w.heap.size + 1 < w1.heap.size by omega)) 1 _).put (Z := w.heap.size + 1) (Or.inl (show w.heap.size + 1 < w1.heap.size by omega)) 2 _).put (Z := w.heap.size + 1) (Or.inl (show w.heap.size + 1 < w1.heap.size by omega)) 3 _).put (Z := w.heap.size + 1) (Or.inl (show w.heap.size + 1 < w1.heap.size by omega)) 4 _).below (Below.refl _ _).drew).at, (((((((((HM.out.bel.setCell (p := ⟨w.heap.size, 0, none⟩) (Nat.le_refl _) _).setCell (p := ⟨w.heap.size, 1, none⟩) (Nat.le_refl _) _).setCell (p := ⟨w.heap.size, 2, none⟩) (Nat.le_refl _) _).setCell (p := ⟨w.heap.size, 3, none⟩) (Nat.le_refl _) _).setCell (p := ⟨w.heap.size + 1, 0, none⟩) (show w.heap.size ≤ w.heap.size + 1 by omega) _).setCell (p := ⟨w.heap.size + 1, 1, none⟩) (show w.heap.size ≤ w.heap.size + 1 by omega) _).setCell (p := ⟨w.heap.size + 1, 2, none⟩) (show w.heap.size ≤ w.heap.size + 1 by omega) _).setCell (p := ⟨w.heap.size + 1, 3, none⟩) (show w.heap.size ≤ w.heap.size + 1 by omega) _).setCell (p := ⟨w.heap.size + 1, 4, none⟩) (show w.heap.size ≤ w.heap.size + 1 by omega) _).drew⟩

end Go.Proofs.Ytmnmaijifhojiaa

/- The rules that hold, one by one: the program's iterator, its contract. -/
set_option maxRecDepth 100000
set_option linter.unusedVariables false
set_option linter.unusedSimpArgs false
namespace Go.Proofs.Ytmnmaijifhojiaa
open Go.RowKit Go.Shelf
attribute [local go_sem] Oper.semAt_some

/-- What a round may not turn: blocks below, and one more. -/
def KpD (n₀ Bx : Nat) (W W' : World) : Prop := Below n₀ W W' ∧ W'.heap[Bx]? = W.heap[Bx]?
theorem KpD.trans {n₀ Bx : Nat} {A B C : World} (h : KpD n₀ Bx A B) (k : KpD n₀ Bx B C) : KpD n₀ Bx A C := ⟨h.1.trans k.1, k.2.trans h.2⟩
/-- A rule as it is handed on. -/
structure Ry where
  nr : Int
  ac : Int
  a : Option Addr
  n : Nat
  cap : Nat
abbrev ryE (y : Ry) : Value := .agg #[.int .i64 y.nr, .int .i64 y.ac, .slice y.a y.n y.cap]
def ryOf (x : Rv) : Ry := match x.v with
  | .slice a n c => ⟨x.r.nr, x.r.ac, a, n, c⟩
  | _ => ⟨x.r.nr, x.r.ac, none, 0, 0⟩
/-- What has come when k rules have been asked. -/
def gives (x : Rc) (l : List Rv) (k : Nat) : List Ry := ((l.take k).filter fun y => rlHolds y.r x).map ryOf
theorem gives_length (x : Rc) (l : List Rv) (k : Nat) : (gives x l k).length ≤ k := by
  unfold gives
  rw [List.length_map]
  exact Nat.le_trans (List.length_filter_le _ _) (by rw [List.length_take]; omega)
theorem gives_yes {x : Rc} {l : List Rv} {k : Nat} (hk : k < l.length) (h : rlHolds l[k].r x = true) : gives x l (k + 1) = gives x l k ++ [ryOf l[k]] := by
  unfold gives
  rw [List.take_succ_eq_append_getElem hk, List.filter_append, List.map_append]
  simp [h]
theorem gives_no {x : Rc} {l : List Rv} {k : Nat} (hk : k < l.length) (h : rlHolds l[k].r x = false) : gives x l (k + 1) = gives x l k := by
  unfold gives
  rw [List.take_succ_eq_append_getElem hk, List.filter_append, List.map_append]
  simp [h]

set_option maxHeartbeats 4000000 in
theorem holding1_in (n : Nat) (hn : 1 ≤ n) (lp Bl Bx n₀ : Nat) (a ua : Option Addr) (cap ucap : Nat) (l : List Rv) (zn za zh zl : Int) (args : List Wd) (J Jx : List Ry → World → Prop) (W0 : World) (hJ : AbidesFrom W0.heap.size J)
    (hY : ∀ pre y W, J pre W → pre.length < l.length → YieldAt Fence.wide (n - 1) Try.prog lp #[ryE y] W fun e W' => (e = .returned (.bool true) ∧ J (pre ++ [y]) W' ∧ KpD n₀ Bx W W') ∨ (e = .returned (.bool false) ∧ Jx (pre ++ [y]) W'))
    (hl : RvAt W0 n₀ (.slice a l.length cap) l) (hu : WdAt W0 n₀ (.slice ua args.length ucap) args) (hbl : W0.cell? ⟨Bl, 0, none⟩ = some (.slice a l.length cap))
    (hbx : W0.heap[Bx]? = some (.cells #[.int .i64 zn, .int .i64 za, .int .i64 zh, .int .i64 zl, .slice ua args.length ucap] 45 (0, 0))) (hn0 : n₀ ≤ W0.heap.size) (h0 : J [] W0) :
    CallsIn Fence.wide n Try.prog 110 #[.func (.yield lp) #[] #[], .pointer (some ⟨Bl, 0, none⟩), .pointer (some ⟨Bx, 0, none⟩)] W0 fun e W' => (∃ v, e = .returned v) ∧
      ((∃ ys, ys = gives ⟨zn, za, ⟨zh, zl⟩, args⟩ l l.length ∧ J ys W') ∨ (∃ pre, (∃ k, k ≤ l.length ∧ pre = gives ⟨zn, za, ⟨zh, zl⟩, args⟩ l k) ∧ Jx pre W')) := by
  obtain ⟨_, _, e, hlc, hcm⟩ := hl.len
  simp only [Value.slice.injEq] at e
  obtain ⟨rfl, _, rfl⟩ := e
  unfold maxLen at hcm
  refine callsIn_of_wp Try.func110 rfl trivial ?_ rfl
  simp only [Try.ntmps110, List.size_toArray, List.length_cons, List.length_nil, Nat.reduceAdd, Nat.reduceSub, Array.replicate_succ, Array.replicate_zero, List.push_toArray, List.append_toArray, List.nil_append, List.cons_append]
  gi_wp2
  gi_loopw [8] (fun i wr => ∃ k : Nat, k ≤ l.length ∧ i = .int .i64 k ∧ J (gives ⟨zn, za, ⟨zh, zl⟩, args⟩ l k) wr ∧ KpD n₀ Bx W0 wr)
    (fun i _ => l.length - (intOf i).toNat)
  case atStart => exact ⟨0, Nat.zero_le _, rfl, h0, Below.refl _ _, rfl⟩
  case round =>
    obtain ⟨k, hk, rfl, hJs, hnx⟩ := hrel
    by_cases hlt : k < l.length
    · obtain ⟨b, o, e, hb, d0, d1, d2, hwf, hcq⟩ := RvAt.place (hl.below hnx.1) (List.getElem?_eq_getElem hlt)
      subst e
      have HY := Lib.hid (fun h => gives_yes (x := ⟨zn, za, ⟨zh, zl⟩, args⟩) hlt h)
      have HN := Lib.hid (fun h => gives_no (x := ⟨zn, za, ⟨zh, zl⟩, args⟩) hlt h)
      generalize l[k] = y at d0 d1 d2 hcq HY HN
      obtain ⟨⟨xn, xc, ds⟩, xv⟩ := y
      simp only at d0 d1 d2 hcq HY HN
      obtain ⟨xva, xcap, rfl, _, _⟩ := hcq.len
      have hsz : n₀ ≤ wr.heap.size := Nat.le_trans hn0 hnx.1.size
      have hB1 : ∀ o : Obj, Below wr.heap.size wr (wr.alloc o) := fun o => (Below.refl _ _).alloc (Nat.le_refl _) _
      have q1 := fun o => implRuleHolds_any xn xc ds zn za zh zl args _ _ (wr.alloc o) (LAt.up (LAt.below hcq ((hB1 o).mono hsz)) (by simp; omega)) (LAt.up (LAt.below hu (hnx.1.trans ((hB1 o).mono hsz))) (by simp; omega))
      have hbx' := hnx.2.trans hbx
      have x0 := row_cell hbx' 0
      have x1 := row_cell hbx' 1
      have x2 := row_cell hbx' 2
      have x3 := row_cell hbx' 3
      have x4 := row_cell hbx' 4
      simp only [List.getElem?_toArray, List.getElem?_cons_zero, List.getElem?_cons_succ] at x0 x1 x2 x3 x4
      have hltx : Bx < wr.heap.size := row_here hbx'
      have Q1 := Lib.hid q1
      have HNX := Lib.hid hnx
      have HJ := Lib.hid hJs
      clear q1 hcq hwf
      cases hh : rlHolds ⟨xn, xc, ds⟩ ⟨zn, za, ⟨zh, zl⟩, args⟩ with
      | false =>
        have HN' := Lib.hid (HN.out hh)
        rw [hh] at Q1
        clear hh HY HN
        gi_wp2_with fail
        refine ⟨trivial, (callsIn_wide.2 (Q1.out _)).mono ?_⟩
        rintro e w2 ⟨rfl, hb2⟩
        have hg := box_below hb2
        have HJ2 := Lib.hid (hJ _ _ _ none HJ.out (grown_of_below hg none) (fun r e => by cases e))
        have HK2 := Lib.hid (show KpD n₀ Bx W0 w2 from ⟨HNX.out.1.trans (hg.mono hsz), (hg.block _ hltx).trans HNX.out.2⟩)
        clear hb2 hg
        gi_wp2_with fail
        refine ⟨fun _ h => (by cases h), ?_⟩
        gi_wp2
        go_roundw
        case rel => exact ⟨k + 1, by omega, by simp, by rw [HN'.out]; exact HJ2.out, HK2.out⟩
        case measure => simp [intOf]; omega
      | true =>
        have HY' := Lib.hid (HY.out hh)
        rw [hh] at Q1
        clear hh HY HN
        gi_wp2_with fail
        refine ⟨trivial, (callsIn_wide.2 (Q1.out _)).mono ?_⟩
        rintro e w2 ⟨rfl, hb2⟩
        have hg := box_below hb2
        have hJ2 := hJ _ _ _ none HJ.out (grown_of_below hg none) (fun r e => by cases e)
        have HK2 := Lib.hid (show KpD n₀ Bx W0 w2 from ⟨HNX.out.1.trans (hg.mono hsz), (hg.block _ hltx).trans HNX.out.2⟩)
        have y0 := box_cell hb2 0
        have y1 := box_cell hb2 1
        have y2 := box_cell hb2 2
        simp only [List.getElem?_toArray, List.getElem?_cons_zero, List.getElem?_cons_succ] at y0 y1 y2
        obtain ⟨fn, tmps, assign, body, hy, hR⟩ := hY _ ⟨xn, xc, xva, ds.length, xcap⟩ w2 hJ2 (Nat.lt_of_le_of_lt (gives_length _ _ _) hlt)
        clear hb2 hg hJ2
        gi_wp2
        refine hR.mono ?_
        rintro e W3 (⟨rfl, hJ3, hk3⟩ | ⟨rfl, hJx3⟩)
        · have HJ3 := Lib.hid hJ3
          have HK3 := Lib.hid (HK2.out.trans hk3)
          clear hJ3 hk3
          gi_wp2
          go_roundw
          case rel => exact ⟨k + 1, by omega, by simp, by rw [HY'.out]; exact HJ3.out, HK3.out⟩
          case measure => simp [intOf]; omega
        · gi_wp2
          refine bodyPost_ret (results_none rfl _ _ _) rfl ?_
          exact ⟨⟨_, rfl⟩, .inr ⟨_, ⟨k + 1, by omega, HY'.out.symm⟩, hJx3⟩⟩
    · obtain rfl : k = l.length := by omega
      gi_wp2
      go_end0
      exact ⟨⟨_, rfl⟩, .inl ⟨_, rfl, hJs⟩⟩

theorem holding_any (a : Option Addr) (n cap : Nat) (zn za zh zl : Int) (ua : Option Addr) (un ucap : Nat) (w : World) :
    Calls Try.prog 80 #[.slice a n cap, .agg #[.int .i64 zn, .int .i64 za, .int .i64 zh, .int .i64 zl, .slice ua un ucap]] w fun e w' =>
      e = .returned (.func (.func 110) #[] #[.pointer (some ⟨w.heap.size, 0, none⟩), .pointer (some ⟨w.heap.size + 1, 0, none⟩)]) ∧
      w' = (w.alloc (.cells #[.slice a n cap] 30)).alloc (.cells #[.int .i64 zn, .int .i64 za, .int .i64 zh, .int .i64 zl, .slice ua un ucap] 45) := by
  go_enter Try.func80, Try.ntmps80
  go_wp2
  go_ret
  exact ⟨rfl, rfl⟩

theorem holding_stops (n : Nat) (hn : 1 ≤ n) (Bl Bx n₀ : Nat) (a ua : Option Addr) (cap ucap : Nat) (l : List Rv) (zn za zh zl : Int) (args : List Wd) (w : World)
    (hl : RvAt w n₀ (.slice a l.length cap) l) (hu : WdAt w n₀ (.slice ua args.length ucap) args) (hBl : Bl < w.heap.size) (hbl : w.cell? ⟨Bl, 0, none⟩ = some (.slice a l.length cap))
    (hbx : w.heap[Bx]? = some (.cells #[.int .i64 zn, .int .i64 za, .int .i64 zh, .int .i64 zl, .slice ua args.length ucap] 45 (0, 0))) (hn0 : n₀ ≤ w.heap.size) :
    SeqStopsK Fence.wide n Try.prog 110 #[.pointer (some ⟨Bl, 0, none⟩), .pointer (some ⟨Bx, 0, none⟩)] (fun y : Ry => #[ryE y]) (KpD n₀ Bx)
      (fun ys => ys = gives ⟨zn, za, ⟨zh, zl⟩, args⟩ l l.length) (fun pre => ∃ k, k ≤ l.length ∧ pre = gives ⟨zn, za, ⟨zh, zl⟩, args⟩ l k) l.length w := fun lp J Jx W hW hJ hJx hY h0 =>
  holding1_in n hn lp Bl Bx n₀ a ua cap ucap l zn za zh zl args J Jx W hJ hY (hl.below (hW.mono hn0)) (LAt.below hu (hW.mono hn0)) ((hW.cell (p := ⟨Bl, 0, none⟩) hBl).trans hbl) (below_row hW hbx) (Nat.le_trans hn0 hW.size) h0

theorem row_own {W W' : World} {B : Nat} {cs : Array Value} {t : TypeId} {fz : Nat × Nat} {row : Option Nat} (h : W.heap[B]? = some (.cells cs t fz)) (hg : W.grownBy W' row) (hr : ∀ r, row = some r → ∃ o : Obj, W.heap[r]? = some o ∧ o.isCells = false) :
    W'.heap[B]? = some (.cells cs t fz) := by
  refine (hg.block B (row_here h) fun e => ?_).trans h
  obtain ⟨o, ho, hc⟩ := hr B e.symm
  rw [h] at ho
  injection ho with ho
  subst ho
  simp [Obj.isCells] at hc

/-- What is decided when these have come; whether one has. -/
def decS (df : Int) (l : List Ry) : Int × Bool := l.foldl (fun s y => if !s.2 || decide (y.ac < s.1) then (y.ac, true) else s) (df, false)
theorem decS_snoc (df : Int) (l : List Ry) (y : Ry) : decS df (l ++ [y]) = if !(decS df l).2 || decide (y.ac < (decS df l).1) then (y.ac, true) else decS df l := by
  unfold decS
  rw [List.foldl_append]
  rfl

end Go.Proofs.Ytmnmaijifhojiaa

/- What a policy decides: Decide of the program walked. -/
set_option maxRecDepth 100000
set_option linter.unusedVariables false
set_option linter.unusedSimpArgs false
namespace Go.Proofs.Ytmnmaijifhojiaa
open Go.RowKit Go.Shelf
attribute [local go_sem] Oper.semAt_some

theorem decS_best {x : Rc} {df : Int} : ∀ (l : List Rv), (∀ y ∈ l, ∃ a n c, y.v = .slice a n c) → (∀ y ∈ l, 0 ≤ y.r.ac) → (∀ y ∈ l, rlHolds y.r x = rlHolds0 y.r x) →
    ∀ (b : Int) (s : Int × Bool), (s.2 = true ↔ 0 ≤ b) → (s.2 = true → s.1 = b) → (s.2 = false → s.1 = df) →
    (let s' := ((l.filter fun y => rlHolds y.r x).map ryOf).foldl (fun s y => if !s.2 || decide (y.ac < s.1) then (y.ac, true) else s) s
     let b' := (l.map Rv.r).foldl (bestStep x) b
     (s'.2 = true ↔ 0 ≤ b') ∧ (s'.2 = true → s'.1 = b') ∧ (s'.2 = false → s'.1 = df))
  | [], _, _, _, b, s, h1, h2, h3 => ⟨h1, h2, h3⟩
  | y :: l, hv, ha, hh, b, s, h1, h2, h3 => by
    have hac : (ryOf y).ac = y.r.ac := by
      obtain ⟨a, n, c, e⟩ := hv y (by simp)
      unfold ryOf
      rw [e]
    have ha0 := ha y (by simp)
    have hhy := hh y (by simp)
    have ih := fun b s => decS_best (x := x) (df := df) l (fun z hz => hv z (by simp [hz])) (fun z hz => ha z (by simp [hz])) (fun z hz => hh z (by simp [hz])) b s
    cases hy : rlHolds y.r x with
    | false =>
      have hb : bestStep x b y.r = b := by unfold bestStep; rw [← hhy, hy]; simp
      simp only [List.filter_cons, hy, List.map_cons, List.foldl_cons, hb, Bool.false_eq_true, if_false]
      exact ih b s h1 h2 h3
    | true =>
      simp only [List.filter_cons, hy, List.map_cons, List.foldl_cons, if_true, hac]
      have hbs : bestStep x b y.r = if decide (b < 0) || decide (y.r.ac < b) then y.r.ac else b := by unfold bestStep; rw [← hhy, hy]; simp
      rw [hbs]
      obtain ⟨s1, s2⟩ := s
      cases s2 with
      | false =>
        have hb : b < 0 := by simp at h1; omega
        rw [if_pos (by simp), if_pos (by simp [hb])]
        exact ih _ _ (by simp; omega) (fun _ => rfl) (fun h => by simp at h)
      | true =>
        have hb : 0 ≤ b := h1.1 rfl
        have e : s1 = b := h2 rfl
        subst e
        by_cases hlt : y.r.ac < s1
        · rw [if_pos (by simp [hlt]), if_pos (by simp [hlt])]
          exact ih _ _ (by simp; omega) (fun _ => rfl) (fun h => by simp at h)
        · have : ¬ s1 < 0 := by omega
          rw [if_neg (by simp; omega), if_neg (by simp; omega)]
          exact ih _ _ h1 h2 h3

set_option maxHeartbeats 6400000 in
theorem implDecide_run (df bd ar : Int) (l : List Rv) (zn zh zl : Int) (args : List Wd) (v u : Value) (w : World) (hv : RvAt w w.heap.size v l) (hu : WdAt w w.heap.size u args)
    (h1 : polRight ⟨ar, df, bd, rls l⟩ = true) (h2 : rcRight ⟨zn, ar, ⟨zh, zl⟩, args⟩ = true) :
    Calls Try.prog 27 #[polV ar df bd v, .agg #[.int .i64 zn, .int .i64 ar, .int .i64 zh, .int .i64 zl, u]] w fun e w' =>
      e = .returned (.int .i64 (decS df (gives ⟨zn, ar, ⟨zh, zl⟩, args⟩ l l.length)).1) ∧ Below w.heap.size w w' := by
  have q1 := fun W (h : Below w.heap.size w W) => implPolicyRight_any ar df bd l _ W (RvAt.up (RvAt.below hv h) h.size)
  have q2 := fun W (h : Below w.heap.size w W) => implRecordRight_any ⟨zn, ar, ⟨zh, zl⟩, args⟩ _ W (LAt.up (LAt.below hu h) h.size)
  obtain ⟨a, cap, rfl, hlc, hcm⟩ := hv.len
  obtain ⟨ua, ucap, rfl, hlc', hcm'⟩ := hu.len
  rw [h1] at q1
  rw [h2] at q2
  have hnn : (ar != ar) = false := by simp
  have HV := Lib.hid hv
  have HU := Lib.hid hu
  have Q1 := Lib.hid q1
  have Q2 := Lib.hid q2
  have HB0 := Lib.hid (show ∀ o o' : Obj, Below w.heap.size w ((w.alloc o).alloc o') from fun o o' => ((Below.refl _ _).alloc (Nat.le_refl _) _).alloc (by simp) _)
  clear q1 q2 h1 h2 hv hu
  refine (callsIn_wide (n := 6)).1 ?_
  refine callsIn_of_wp_marks Try.func27 rfl trivial ?_ rfl
  simp only [Try.ntmps27, List.size_toArray, List.length_cons, List.length_nil, Nat.reduceAdd, Nat.reduceSub, Array.replicate_succ, Array.replicate_zero, List.push_toArray, List.append_toArray, List.nil_append, List.cons_append]
  gi_wp2_with fail
  refine ⟨trivial, (callsIn_wide.2 (Q1.out _ (HB0.out _ _))).mono ?_⟩
  rintro e w1 ⟨rfl, hb1⟩
  have hb2 := box2 hb1
  have d0 := hb2.2.1 0
  have d1 := hb2.2.1 1
  have d2 := hb2.2.1 2
  have d3 := hb2.2.1 3
  have d4 := hb2.2.1 4
  simp only [List.getElem?_toArray, List.getElem?_cons_zero, List.getElem?_cons_succ] at d0 d1 d2 d3 d4
  have HB := Lib.hid hb2.2.2
  have HB1 := Lib.hid hb1
  clear hb1 hb2
  gi_wp2_with fail
  refine ⟨trivial, (callsIn_wide.2 (Q2.out _ HB.out)).mono ?_⟩
  rintro e w2 ⟨rfl, hb3⟩
  have HB2 := Lib.hid (HB1.out.trans (hb3.mono HB1.out.size))
  clear hb3 d0 d1 d2 d3 d4
  have hb2 := box2 HB2.out
  have c0 := hb2.1 0
  have c1 := hb2.1 1
  have c3 := hb2.1 3
  have d0 := hb2.2.1 0
  have d1 := hb2.2.1 1
  have d2 := hb2.2.1 2
  have d3 := hb2.2.1 3
  have d4 := hb2.2.1 4
  simp only [List.getElem?_toArray, List.getElem?_cons_zero, List.getElem?_cons_succ] at c0 c1 c3 d0 d1 d2 d3 d4
  have hsz2 : w.heap.size + 2 ≤ w2.heap.size := by have := HB2.out.size; simp at this; omega
  have hs0 : w.heap.size < w2.heap.size := by omega
  have hs1 : w.heap.size + 1 < w2.heap.size := by omega
  clear hb2
  gi_wp2_with fail
  refine ⟨trivial, (callsIn_wide.2 (holding_any _ _ _ _ _ _ _ _ _ _ _)).mono ?_⟩
  rintro e w' ⟨rfl, rfl⟩
  gi_wp2_with fail
  have bS := (((Boxed.new w2 2 (.int .i64 df)).alloc (.cells #[.bool false] 4)).alloc (.cells #[.slice a l.length cap] 30)).alloc (.cells #[.int .i64 zn, .int .i64 ar, .int .i64 zh, .int .i64 zl, .slice ua args.length ucap] 45)
  have bH := ((Boxed.new (w2.alloc (.cells #[.int .i64 df] 2)) 4 (.bool false)).alloc (.cells #[.slice a l.length cap] 30)).alloc (.cells #[.int .i64 zn, .int .i64 ar, .int .i64 zh, .int .i64 zl, .slice ua args.length ucap] 45)
  have bL := (Boxed.new ((w2.alloc (.cells #[.int .i64 df] 2)).alloc (.cells #[.bool false] 4)) 30 (.slice a l.length cap)).alloc (.cells #[.int .i64 zn, .int .i64 ar, .int .i64 zh, .int .i64 zl, .slice ua args.length ucap] 45)
  have rX := heap_alloc_new (((w2.alloc (.cells #[.int .i64 df] 2)).alloc (.cells #[.bool false] 4)).alloc (.cells #[.slice a l.length cap] 30)) (.cells #[.int .i64 zn, .int .i64 ar, .int .i64 zh, .int .i64 zl, .slice ua args.length ucap] 45)
  simp only [World.size_alloc] at bH bL rX
  have hB20 : Below w2.heap.size w2 ((((w2.alloc (.cells #[.int .i64 df] 2)).alloc (.cells #[.bool false] 4)).alloc (.cells #[.slice a l.length cap] 30)).alloc (.cells #[.int .i64 zn, .int .i64 ar, .int .i64 zh, .int .i64 zl, .slice ua args.length ucap] 45)) :=
    ((((Below.refl _ w2).alloc (Nat.le_refl _) _).alloc (by simp) _).alloc (by simp; omega) _).alloc (by simp; omega) _
  have hsz : ((((w2.alloc (.cells #[.int .i64 df] 2)).alloc (.cells #[.bool false] 4)).alloc (.cells #[.slice a l.length cap] 30)).alloc (.cells #[.int .i64 zn, .int .i64 ar, .int .i64 zh, .int .i64 zl, .slice ua args.length ucap] 45)).heap.size = w2.heap.size + 4 := by simp
  obtain ⟨W0, hW0⟩ : ∃ W0, ((((w2.alloc (.cells #[.int .i64 df] 2)).alloc (.cells #[.bool false] 4)).alloc (.cells #[.slice a l.length cap] 30)).alloc (.cells #[.int .i64 zn, .int .i64 ar, .int .i64 zh, .int .i64 zl, .slice ua args.length ucap] 45)) = W0 := ⟨_, rfl⟩
  rw [hW0] at bS bH bL rX hB20 hsz ⊢
  clear hW0 c0 c1 c3 d0 d1 d2 d3 d4
  have hBw2 := (box2 HB2.out).2.2
  have hBw : Below w.heap.size w W0 := hBw2.trans (hB20.mono hBw2.size)
  have hRl : RvAt W0 w2.heap.size (.slice a l.length cap) l := (HV.out.below hBw).up hBw2.size
  have hRu : WdAt W0 w2.heap.size (.slice ua args.length ucap) args := LAt.up (LAt.below HU.out hBw) hBw2.size
  refine wpIn_rangeFunc_ownH rfl (by omega) (gf := 110) (lb := #[.pointer (some ⟨w2.heap.size + 1 + 1, 0, none⟩), .pointer (some ⟨w2.heap.size + 1 + 1 + 1, 0, none⟩)]) rfl trivial (enters_of Try.func110 (by kernel_rfl) rfl)
    (holding_stops (6 - 1) (by omega) (w2.heap.size + 1 + 1) (w2.heap.size + 1 + 1 + 1) w2.heap.size a ua cap ucap l zn ar zh zl args W0 hRl hRu (by omega) bL.cell rX (by omega))
    KpD.trans (fun W l0 o o' hl0 ho hc hk => ⟨belowK_b (w := W0) (by omega) W l0 o o' hl0 ho hc hk, (grownBy_putObj' W l0 o').block _ (by have := (Array.getElem?_eq_some_iff.1 ho).1; omega) (fun e => by cases e; omega)⟩) (Below.refl _ _) (fun _ => rfl)
    (fun pre W => (Boxed W w2.heap.size 2 (.int .i64 (decS df pre).1) ∧ Boxed W (w2.heap.size + 1) 4 (.bool (decS df pre).2)) ∧ Below w.heap.size w W ∧ W0.heap.size ≤ W.heap.size)
    (fun _ _ _ => False)
    (OwnFrom.and (OwnFrom.and (Own.from (boxed_own _ _ _) _) (Own.from (boxed_own _ _ _) _)) (OwnFrom.and (ownFrom_below (Nat.le_refl _) (by omega)) (fun _ X Y row hs hg _ => Nat.le_trans hs hg.size)))
    (fun _ _ _ _ _ hs _ _ => hs)
    ⟨⟨bS, bH⟩, hBw, Nat.le_refl _⟩
    (fun y a' W => ∃ B7, w2.heap.size + 1 + 1 + 1 < B7 ∧ W.heap[B7]? = some (.cells #[.int .i64 y.nr, .int .i64 y.ac, .slice y.a y.n y.cap] 35 (0, 0)) ∧ a' = { tmps := #[polV ar df bd (.slice a l.length cap), .agg #[.int .i64 zn, .int .i64 ar, .int .i64 zh, .int .i64 zl, .slice ua args.length ucap], .pointer (some ⟨w.heap.size, 0, none⟩), .pointer (some ⟨w.heap.size + 1, 0, none⟩), .int .i64 0, .pointer (some ⟨w2.heap.size, 0, none⟩), .pointer (some ⟨w2.heap.size + 1, 0, none⟩), .pointer (some ⟨B7, 0, none⟩), .bool false, .agg #[.int .i64 ar, .int .i64 df, .int .i64 bd, .slice a l.length cap], .bool true, .bool false, .bool false, .agg #[.int .i64 zn, .int .i64 ar, .int .i64 zh, .int .i64 zl, .slice ua args.length ucap], .bool true, .bool false, .bool false, .bool false, .pointer (some ⟨w.heap.size + 1, 1, none⟩), .int .i64 ar, .pointer (some ⟨w.heap.size, 0, none⟩), .int .i64 ar, .bool false, undef, undef, .pointer (some ⟨w.heap.size, 1, none⟩), .int .i64 df, .pointer (some ⟨w.heap.size, 3, none⟩), .slice a l.length cap, .agg #[.int .i64 zn, .int .i64 ar, .int .i64 zh, .int .i64 zl, .slice ua args.length ucap], .func (.func 110) #[] #[.pointer (some ⟨w2.heap.size + 1 + 1, 0, none⟩), .pointer (some ⟨w2.heap.size + 1 + 1 + 1, 0, none⟩)], ryE y, undef, undef, undef, undef, undef, undef, undef, undef, undef, undef, undef], defers := [] })
    (fun y a' _ X Y row hs hg hr => by obtain ⟨B7, h1, h2, h3⟩ := hs; exact ⟨B7, h1, row_own h2 hg (fun r e => (hr r e).2), h3⟩)
    ?assign ?body ?done ?stop
  case assign =>
    rintro lp pre y W K ⟨⟨bS1, bH1⟩, hB1, hS1⟩ hK
    gi_wp2
    exact hK _ _ ((KeepsOthers.alloc _ _).from _) ⟨(Below.refl _ W).alloc (by omega) _, Below.heap_alloc W _ _ (by omega)⟩ ⟨⟨bS1.alloc _, bH1.alloc _⟩, hB1.alloc hB1.size _, by simp; omega⟩ ⟨W.heap.size, by omega, heap_alloc_new W _, rfl⟩
  case body =>
    rintro lp pre y a' W hl ⟨r, hr⟩ ⟨⟨bS1, bH1⟩, hB1, hS1⟩ ⟨B7, hB7, hrow, rfl⟩ hlt
    have hsn := decS_snoc df pre y
    generalize decS df pre = s at *
    obtain ⟨s1, s2⟩ := s
    simp only at bS1 bH1 hsn
    have cS := bS1.cell
    have fS := bS1.frozen
    have cH := bH1.cell
    have fH := bH1.frozen
    have e1 := row_cell hrow 1
    simp only [List.getElem?_toArray, List.getElem?_cons_zero, List.getElem?_cons_succ] at e1
    have hset : ∀ u : Value, KeepsFrom W0.heap.size W ((W.setCell ⟨w2.heap.size, 0, none⟩ u).setCell ⟨w2.heap.size + 1, 0, none⟩ (.bool true)) ∧ KpD w2.heap.size (w2.heap.size + 1 + 1 + 1) W ((W.setCell ⟨w2.heap.size, 0, none⟩ u).setCell ⟨w2.heap.size + 1, 0, none⟩ (.bool true)) ∧
        (Boxed ((W.setCell ⟨w2.heap.size, 0, none⟩ u).setCell ⟨w2.heap.size + 1, 0, none⟩ (.bool true)) w2.heap.size 2 u ∧ Boxed ((W.setCell ⟨w2.heap.size, 0, none⟩ u).setCell ⟨w2.heap.size + 1, 0, none⟩ (.bool true)) (w2.heap.size + 1) 4 (.bool true)) ∧
        Below w.heap.size w ((W.setCell ⟨w2.heap.size, 0, none⟩ u).setCell ⟨w2.heap.size + 1, 0, none⟩ (.bool true)) ∧ W0.heap.size ≤ ((W.setCell ⟨w2.heap.size, 0, none⟩ u).setCell ⟨w2.heap.size + 1, 0, none⟩ (.bool true)).heap.size := fun u =>
      ⟨((KeepsOthers.setCell _ _ _).trans (KeepsOthers.setCell _ _ _)).from _,
        ⟨((Below.refl _ W).setCell (p := ⟨w2.heap.size, 0, none⟩) (Nat.le_refl _) _).setCell (p := ⟨w2.heap.size + 1, 0, none⟩) (by simp) _, (Below.heap_setCell _ ⟨w2.heap.size + 1, 0, none⟩ _ _ (by simp; omega)).trans (Below.heap_setCell _ ⟨w2.heap.size, 0, none⟩ _ _ (by simp; omega))⟩,
        ⟨(bS1.set _).other (by omega) _, (bH1.other (by omega) _).set _⟩,
        (hB1.setCell (p := ⟨w2.heap.size, 0, none⟩) (by simp; omega) _).setCell (p := ⟨w2.heap.size + 1, 0, none⟩) (by simp; omega) _, by simp [World.setCell]; omega⟩
    have hkeep : KeepsFrom W0.heap.size W W ∧ KpD w2.heap.size (w2.heap.size + 1 + 1 + 1) W W := ⟨KeepsFrom.refl _ _, Below.refl _ _, rfl⟩
    have HSET := Lib.hid hset
    have HKEEP := Lib.hid hkeep
    have HB1 := Lib.hid hB1
    clear hset hkeep hB1
    cases s2 with
    | false =>
      rw [if_pos (by simp)] at hsn
      have HSN := Lib.hid hsn
      clear hsn
      gi_wp2
      obtain ⟨k1, k2, k3, k4⟩ := HSET.out (.int .i64 y.ac)
      exact ⟨k1, k2, by rw [HSN.out]; exact k3, k4⟩
    | true =>
      by_cases hlt2 : y.ac < s1
      · rw [if_pos (by simp [hlt2])] at hsn
        have HSN := Lib.hid hsn
        clear hsn
        gi_wp2
        obtain ⟨k1, k2, k3, k4⟩ := HSET.out (.int .i64 y.ac)
        exact ⟨k1, k2, by rw [HSN.out]; exact k3, k4⟩
      · rw [if_neg (by simp; omega)] at hsn
        have HSN := Lib.hid hsn
        have hlt2' : decide (y.ac < s1) = false := by simpa using hlt2
        clear hsn
        gi_wp2
        exact ⟨by first | exact HKEEP.out.1 | (rw [← hsz]; exact HKEEP.out.1), HKEEP.out.2, by rw [HSN.out]; exact ⟨bS1, bH1⟩, HB1.out, by omega⟩
  case done =>
    rintro D ys W hD rfl ⟨⟨bS1, bH1⟩, hB1, hS1⟩ hK
    have cS := bS1.cell
    gi_wp2
    refine ⟨by simp, .inl ⟨_, _, rfl, run_takeDeferred hK, ?_⟩⟩
    exact ⟨_, results_tmp rfl _ _ _, rfl, hB1.trans (belowK_b (w := w) (Nat.le_refl _) W D _ _ (by omega) hK rfl rfl)⟩
  case stop =>
    rintro D c pre W _ _ h _
    exact h.elim

theorem decide_best {df bd ar : Int} {l : List Rv} {zn zh zl : Int} {args : List Wd} {w : World} {B : Nat} {v : Value} (hv : RvAt w B v l) (h1 : polRight ⟨ar, df, bd, rls l⟩ = true) (h2 : rcRight ⟨zn, ar, ⟨zh, zl⟩, args⟩ = true) :
    (decS df (gives ⟨zn, ar, ⟨zh, zl⟩, args⟩ l l.length)).1 = polDecide ⟨ar, df, bd, rls l⟩ ⟨zn, ar, ⟨zh, zl⟩, args⟩ := by
  have hr := (polRight_rules h1).2
  have hs : ∀ y ∈ l, ∃ a n c, y.v = .slice a n c := fun y hy => by
    obtain ⟨a, c, e, _⟩ := (hv.2 y hy).len
    exact ⟨a, _, c, e⟩
  have ha : ∀ y ∈ l, 0 ≤ y.r.ac := fun y hy => (rlRight_ac (nr := y.r.nr) (cs := y.r.cs) (hr y hy)).1
  have hh : ∀ y ∈ l, rlHolds y.r ⟨zn, ar, ⟨zh, zl⟩, args⟩ = rlHolds0 y.r ⟨zn, ar, ⟨zh, zl⟩, args⟩ := fun y hy => by unfold rlHolds; rw [hr y hy, h2]; rfl
  obtain ⟨k1, k2, k3⟩ := decS_best (df := df) l hs ha hh (-1) (df, false) (by simp) (by simp) (by simp)
  have hg : gives ⟨zn, ar, ⟨zh, zl⟩, args⟩ l l.length = (l.filter fun y => rlHolds y.r ⟨zn, ar, ⟨zh, zl⟩, args⟩).map ryOf := by unfold gives; rw [List.take_length]
  have hb : bestOf ⟨zn, ar, ⟨zh, zl⟩, args⟩ (rls l) = (l.map Rv.r).foldl (bestStep ⟨zn, ar, ⟨zh, zl⟩, args⟩) (-1) := rfl
  unfold polDecide
  rw [h1, h2]
  simp only [Bool.and_self, Bool.not_true, Bool.false_eq_true, if_false, ne_eq, not_true_eq_false]
  unfold decS
  rw [hg, hb]
  generalize (l.map Rv.r).foldl (bestStep ⟨zn, ar, ⟨zh, zl⟩, args⟩) (-1) = b' at *
  generalize List.foldl _ _ _ = s' at *
  obtain ⟨s1, s2⟩ := s'
  simp only at k1 k2 k3 ⊢
  cases s2 with
  | false =>
    have : b' < 0 := by simp at k1; omega
    rw [if_pos this]
    exact k3 rfl
  | true =>
    have : ¬ b' < 0 := by have := k1.1 rfl; omega
    rw [if_neg this]
    exact k2 rfl

set_option maxHeartbeats 3200000 in
theorem implDecide_any (ar df bd : Int) (l : List Rv) (zn za zh zl : Int) (args : List Wd) (v u : Value) (w : World) (hv : RvAt w w.heap.size v l) (hu : WdAt w w.heap.size u args) :
    Calls Try.prog 27 #[polV ar df bd v, .agg #[.int .i64 zn, .int .i64 za, .int .i64 zh, .int .i64 zl, u]] w fun e w' =>
      e = .returned (.int .i64 (polDecide ⟨ar, df, bd, rls l⟩ ⟨zn, za, ⟨zh, zl⟩, args⟩)) ∧ Below w.heap.size w w' := by
  have q1 := fun W (h : Below w.heap.size w W) => implPolicyRight_any ar df bd l _ W (RvAt.up (RvAt.below hv h) h.size)
  have q2 := fun W (h : Below w.heap.size w W) => implRecordRight_any ⟨zn, za, ⟨zh, zl⟩, args⟩ _ W (LAt.up (LAt.below hu h) h.size)
  have hd : polDecide ⟨ar, df, bd, rls l⟩ ⟨zn, za, ⟨zh, zl⟩, args⟩ = (if !(polRight ⟨ar, df, bd, rls l⟩ && rcRight ⟨zn, za, ⟨zh, zl⟩, args⟩) then -1 else if za ≠ ar then bd else if bestOf ⟨zn, za, ⟨zh, zl⟩, args⟩ (rls l) < 0 then df else bestOf ⟨zn, za, ⟨zh, zl⟩, args⟩ (rls l)) := rfl
  have HB0 := Lib.hid (show ∀ o o' : Obj, Below w.heap.size w ((w.alloc o).alloc o') from fun o o' => ((Below.refl _ _).alloc (Nat.le_refl _) _).alloc (by simp) _)
  cases h1 : polRight ⟨ar, df, bd, rls l⟩
  · generalize polDecide ⟨ar, df, bd, rls l⟩ ⟨zn, za, ⟨zh, zl⟩, args⟩ = res at hd ⊢
    rw [h1] at q1
    have HR := Lib.hid (show res = -1 by rw [hd, h1]; rfl)
    have Q1 := Lib.hid q1
    obtain ⟨a, cap, rfl, _, _⟩ := hv.len
    obtain ⟨ua, ucap, rfl, _, _⟩ := hu.len
    clear hd q1 q2 h1 hv hu
    go_enter Try.func27, Try.ntmps27
    go_wp2_with fail
    refine (Q1.out _ (HB0.out _ _)).mono ?_
    rintro e w1 ⟨rfl, hb1⟩
    have HB := Lib.hid (box2 hb1).2.2
    clear hb1
    go_wp2_with fail
    go_ret
    exact ⟨ret_int HR.out.symm, HB.out⟩
  cases h2 : rcRight ⟨zn, za, ⟨zh, zl⟩, args⟩
  · generalize polDecide ⟨ar, df, bd, rls l⟩ ⟨zn, za, ⟨zh, zl⟩, args⟩ = res at hd ⊢
    rw [h1] at q1
    rw [h2] at q2
    have HR := Lib.hid (show res = -1 by rw [hd, h1, h2]; rfl)
    have Q1 := Lib.hid q1
    have Q2 := Lib.hid q2
    obtain ⟨a, cap, rfl, _, _⟩ := hv.len
    obtain ⟨ua, ucap, rfl, _, _⟩ := hu.len
    clear hd q1 q2 h1 h2 hv hu
    go_enter Try.func27, Try.ntmps27
    go_wp2_with fail
    refine (Q1.out _ (HB0.out _ _)).mono ?_
    rintro e w1 ⟨rfl, hb1⟩
    have hb2 := box2 hb1
    have d0 := hb2.2.1 0
    have d1 := hb2.2.1 1
    have d2 := hb2.2.1 2
    have d3 := hb2.2.1 3
    have d4 := hb2.2.1 4
    simp only [List.getElem?_toArray, List.getElem?_cons_zero, List.getElem?_cons_succ] at d0 d1 d2 d3 d4
    have HB := Lib.hid hb2.2.2
    clear hb1 hb2
    go_wp2_with fail
    refine (Q2.out _ HB.out).mono ?_
    rintro e w2 ⟨rfl, hb3⟩
    have HC := Lib.hid (HB.out.trans (hb3.mono HB.out.size))
    clear hb3 d0 d1 d2 d3 d4
    go_wp2_with fail
    go_ret
    exact ⟨ret_int HR.out.symm, HC.out⟩
  by_cases hza : za = ar
  · subst hza
    rw [← decide_best hv h1 h2]
    exact implDecide_run df bd za l zn zh zl args v u w hv hu h1 h2
  · generalize polDecide ⟨ar, df, bd, rls l⟩ ⟨zn, za, ⟨zh, zl⟩, args⟩ = res at hd ⊢
    rw [h1, h2, Bool.true_and, Bool.not_true, if_neg (by simp), if_pos (by simpa using hza)] at hd
    rw [h1] at q1
    rw [h2] at q2
    have HR := Lib.hid hd
    have hnn := ne_int hza
    have Q1 := Lib.hid q1
    have Q2 := Lib.hid q2
    obtain ⟨a, cap, rfl, _, _⟩ := hv.len
    obtain ⟨ua, ucap, rfl, _, _⟩ := hu.len
    clear hd q1 q2 h1 h2 hv hu hza
    go_enter Try.func27, Try.ntmps27
    go_wp2_with fail
    refine (Q1.out _ (HB0.out _ _)).mono ?_
    rintro e w1 ⟨rfl, hb1⟩
    have hb2 := box2 hb1
    have d0 := hb2.2.1 0
    have d1 := hb2.2.1 1
    have d2 := hb2.2.1 2
    have d3 := hb2.2.1 3
    have d4 := hb2.2.1 4
    simp only [List.getElem?_toArray, List.getElem?_cons_zero, List.getElem?_cons_succ] at d0 d1 d2 d3 d4
    have HB := Lib.hid hb2.2.2
    have HB1 := Lib.hid hb1
    clear hb1 hb2
    go_wp2_with fail
    refine (Q2.out _ HB.out).mono ?_
    rintro e w2 ⟨rfl, hb3⟩
    have hb4 := HB1.out.trans (hb3.mono HB1.out.size)
    have HC := Lib.hid (box2 hb4).2.2
    clear hb3 d0 d1 d2 d3 d4
    have hb2 := box2 hb4
    have c0 := hb2.1 0
    have c2 := hb2.1 2
    have d1 := hb2.2.1 1
    simp only [List.getElem?_toArray, List.getElem?_cons_zero, List.getElem?_cons_succ] at c0 c2 d1
    clear hb4 hb2
    go_wp2_with fail
    go_ret
    exact ⟨ret_int HR.out.symm, HC.out⟩

end Go.Proofs.Ytmnmaijifhojiaa

/- Carried objects, for the law of rules. -/
set_option linter.unusedVariables false
namespace Go.Proofs.Ytmnmaijifhojiaa
open Go.RowKit

theorem rv_to {w W : World} {v : Value} {l : List Rv} (h : RvAt w w.heap.size v l) (hb : Below w.heap.size w W) : RvAt W W.heap.size v l := RvAt.up (RvAt.below h hb) hb.size
theorem cq_to {w W : World} {v : Value} {l : List Cq} (h : CqAt w w.heap.size v l) (hb : Below w.heap.size w W) : CqAt W W.heap.size v l := LAt.up (LAt.below h hb) hb.size
theorem wd_to {w W : World} {v : Value} {l : List Wd} (h : WdAt w w.heap.size v l) (hb : Below w.heap.size w W) : WdAt W W.heap.size v l := LAt.up (LAt.below h hb) hb.size
theorem two_rows {w : World} (o1 o2 : Array Value) (T U : TypeId) : ((w.alloc (.cells o1 T)).alloc (.cells o2 U)).heap[w.heap.size]? = some (.cells o1 T (0, 0)) ∧ ((w.alloc (.cells o1 T)).alloc (.cells o2 U)).heap[w.heap.size + 1]? = some (.cells o2 U (0, 0)) ∧ Below w.heap.size w ((w.alloc (.cells o1 T)).alloc (.cells o2 U)) :=
  have h := rows2 (Below.refl _ ((w.alloc (.cells o1 T)).alloc (.cells o2 U)))
  ⟨h.1, h.2.1, h.2.2.1⟩
theorem rv_of_own {base : Nat} {W : World} {v : Value} {l : List Rv} {rs : List Rl} (h : OwnRv base W v l) (e : rls l = rs) (hw : rlsWf rs) : RvAt W W.heap.size v l := h.at' e hw
theorem polAdd_wf {p : Pol} {r : Rl} (hp : rlsWf p.rs) (hr : r.wf ∧ ∀ c ∈ r.cs, c.wf) : rlsWf (polAdd p r).1.rs := by
  unfold polAdd
  split
  · exact fun x hx => by simp [pol0] at hx
  · split
    · exact fun x hx => by simp [pol0] at hx
    · split
      · exact hp
      · split
        · exact fun x hx => by simp [pol0] at hx
        · exact fun x hx => by
            rcases List.mem_append.1 hx with h | h
            · exact hp x h
            · rw [List.mem_singleton.1 h]; exact hr
theorem polDrop_wf {p : Pol} {m : Int} (hp : rlsWf p.rs) : rlsWf (polDrop p m).1.rs := by
  unfold polDrop
  split
  · exact fun x hx => by simp [pol0] at hx
  · split
    · exact fun x hx => by simp [pol0] at hx
    · exact fun x hx => hp x ((drop_sub p.rs m.toNat).subset hx)
theorem polAdd_wf' {p : Pol} {r : Rl} (hp : rlsWf p.rs) : rlsWf (polAdd p r).1.rs := by
  by_cases h : rlRight r = true
  · exact polAdd_wf hp ⟨(rlRight_all h).1, (rlRight_all h).2.1⟩
  · intro x hx
    unfold polAdd at hx
    rw [show rlRight r = false by simpa using h] at hx
    simp [pol0] at hx
/-- The rules from that place on, turned round. -/
def turnedFrom (l : List Rv) (k : Nat) : List Rv := (l.drop k).reverse
theorem turned_next {l : List Rv} {k : Nat} {x : Rv} (h : l[k]? = some x) : turnedFrom l k = turnedFrom l (k + 1) ++ [x] := by
  unfold turnedFrom
  have hk := (List.getElem?_eq_some_iff.1 h)
  obtain ⟨hlt, rfl⟩ := hk
  rw [List.drop_eq_getElem_cons hlt, List.reverse_cons]
theorem turned_all (l : List Rv) : rls (turnedFrom l 0) = (rls l).reverse := by
  unfold turnedFrom rls
  rw [List.drop_zero, List.map_reverse]
theorem turned_end (l : List Rv) : turnedFrom l l.length = [] := by unfold turnedFrom; rw [List.drop_length]; rfl
theorem turned_length (l : List Rv) (k : Nat) : (turnedFrom l k).length = l.length - k := by unfold turnedFrom; simp
theorem turned_mem {l : List Rv} {k : Nat} {x : Rv} (h : x ∈ turnedFrom l k) : x ∈ l := by
  unfold turnedFrom at h
  exact List.drop_subset _ _ (List.mem_reverse.1 h)

theorem not_less {a b p : Int} (h : a = p ∨ b ≤ a) (hp : ¬ a = p) : decide (a < b) = false := decide_eq_false (by omega)
theorem turned_rv {W : World} {base : Nat} {v u : Value} {l : List Rv} {k : Nat} (h : RvAt W W.heap.size v l) (ho : OwnL 35 3 rvCells base W u (turnedFrom l k)) : RvAt W W.heap.size u (turnedFrom l k) :=
  ⟨OwnL.lAt rvS ho (fun x hx => h.1.2.2 x (turned_mem hx)), fun x hx => h.2 x (turned_mem hx)⟩

end Go.Proofs.Ytmnmaijifhojiaa


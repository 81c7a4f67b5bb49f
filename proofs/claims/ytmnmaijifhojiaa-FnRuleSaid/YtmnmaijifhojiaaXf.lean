/- Texts of one proof, put together: Eb Ec Ed Ee Ef. -/
import Derived.Test.YtmnmaijifhojiaaXe
import Derived.Test.YtmnmaijifhojiaaJd
import Derived.Test.YtmnmaijifhojiaaJe
import Derived.Test.YtmnmaijifhojiaaJg
import Derived.Test.YtmnmaijifhojiaaJv
import Derived.Test.YtmnmaijifhojiaaXd
import Derived.Deep.RegionLaw
import Derived.Deep.CutBlock

/- Drawn comparisons, walked: l06CmpOf. -/
set_option maxRecDepth 100000
set_option linter.unusedSimpArgs false
set_option linter.unusedVariables false
namespace Go.Proofs.Ytmnmaijifhojiaa
open Go.RowKit
attribute [local go_sem ↓] Go.wp_at_zero Go.wp_at_succ

theorem own_src {α : Type} {f : α → List Value} {S : Nat} {E : TypeId} {g : Nat} {a : Option Addr} {len cap base : Nat} {w W : World} {v : Value} {l : List α} (h : OwnL E S f base w v l) (ha : AfterSrc g a len cap w W) (hg : g < base) : OwnL E S f base W v l :=
  World.ownsRow.kept h ha.2 (by
    rcases hv : v.ownBlock with _ | q
    · exact .inl rfl
    · exact .inr (fun e => by have := (OwnL.lt h q hv).1; injection e with e; omega))
/-- What grew in rows of the call's own. -/
theorem AfterSrc.growth {g : Nat} {a : Option Addr} {len cap : Nat} {w W W' : World} {row : Option Nat} (haf : AfterSrc g a len cap w W) (hgl : g < w.heap.size) (hg : W.grownBy W' row) (hr : ∀ k, row = some k → w.heap.size ≤ k) : AfterSrc g a len cap w W' := by
  have hs := haf.2.size
  have hne : ∀ q, q < w.heap.size → row ≠ some q := fun q hq e => by have := hr q e; omega
  exact ⟨haf.1.keep fun q hq => hg.block q (by omega) (Ne.symm (hne q (by omega))), ⟨hg.os.trans haf.2.os, hg.tape.trans haf.2.tape, hg.output.trans haf.2.output, Nat.le_trans hs hg.size,
    fun q hq hn => (hg.block q (by omega) (Ne.symm (hne q hq))).trans (haf.2.block q hq hn)⟩⟩

/-- A comparison that is right but perhaps for its Arg. -/
def CqDrawn (x : Cq) : Prop := (1 ≤ x.o ∧ x.o ≤ 7) ∧ wdRight ⟨x.mh, x.ml⟩ = true ∧ wdRight ⟨x.vh, x.vl⟩ = true ∧ (x.o = 7 ∨ cqNone x = true)
theorem CqDrawn.right {x : Cq} (h : CqDrawn x) (h0 : 0 ≤ x.a) (h1 : x.a ≤ 5) : cqRight x = true := by
  unfold cqRight isB
  rw [h.2.1, h.2.2.1]
  simp only [Bool.and_eq_true, Bool.or_eq_true, decide_eq_true_eq, beq_iff_eq]
  exact ⟨⟨⟨⟨⟨h0, h1⟩, h.1⟩, trivial⟩, trivial⟩, h.2.2.2⟩
theorem CqDrawn.wf {x : Cq} (h : CqDrawn x) (ha : In64 x.a) : x.wf := by
  have h1 := wd_bounds h.2.1
  have h2 := wd_bounds h.2.2.1
  have h3 := h.1
  simp only at h1 h2
  unfold Cq.wf In64 at *
  omega
theorem CqDrawn.mk' {a o vh vl : Int} (h : 1 ≤ o ∧ o ≤ 7) (hv : wdRight ⟨vh, vl⟩ = true) : CqDrawn ⟨a, o, 0, 0, vh, vl⟩ := ⟨h, rfl, hv, .inr rfl⟩
theorem CqDrawn.masked {a mh ml vh vl : Int} (hm : wdRight ⟨mh, ml⟩ = true) (hv : wdRight ⟨vh, vl⟩ = true) : CqDrawn ⟨a, 7, mh, ml, vh, vl⟩ := ⟨⟨by show (1:Int) ≤ 7; omega, by show (7:Int) ≤ 7; omega⟩, hm, hv, .inl rfl⟩
theorem wdAnd_right (x y : Wd) : wdRight ⟨(wdAnd x y).h, (wdAnd x y).l⟩ = true := by
  unfold wdAnd
  cases hx : wdRight x with
  | false => rfl
  | true =>
    cases hy : wdRight y with
    | false => rfl
    | true =>
      simp only [Bool.and_self, if_true]
      rw [← and_halves hx hy]
      have b := and_u64_bd x y
      exact halves_right _ b.1 b.2
/-- A comparison was drawn. -/
def CqPost (x0 : Int) (g : Nat) (a : Option Addr) (len cap : Nat) (w : World) (e : Ending) (w' : World) : Prop := ∃ x : Cq, e = .returned (cqV x) ∧ x.a = x0 ∧ CqDrawn x ∧ AfterSrc g a len cap w w'

set_option maxHeartbeats 1600000 in
theorem srcCmpOf_any (g : Nat) (a : Option Addr) (len cap : Nat) (arg : Int) (w : World) (hs : Src w g a len cap) :
    Calls Try.prog 58 #[.pointer (some ⟨g, 0, none⟩), .int .i64 arg] w (CqPost arg g a len cap w) := by
  have hgl := hs.lt
  have ha0 : AfterSrc g a len cap w (w.alloc (.cells #[.int .i64 0, .int .i64 0, .int .i64 0, .int .i64 0, .int .i64 0, .int .i64 0] 26)) := AfterSrc.of_below hs ((Below.refl _ _).alloc (Nat.le_refl _) _)
  have HA0 := Lib.hid ha0
  clear ha0 hs
  go_enter Try.func58, Try.ntmps58
  go_wp2_with fail
  refine (srcN_any g a len cap 7 _ HA0.out.1 (by omega) (by omega)).mono ?_
  rintro e w1 ⟨o, rfl, ho0, ho1, _, hs1, hg1⟩
  have ho7 : o < 7 := ho1 (by omega)
  have HA1 : Hid (AfterSrc g a len cap w w1) := Lib.hid (HA0.out.trans ⟨hs1, hg1⟩)
  have HR1 := Lib.hid (AfterSrc.row ⟨hs1, hg1⟩ (heap_alloc_new w _) (by omega))
  clear ho1 hs1 hg1
  go_wp2_with fail
  refine (srcWord_any g a len cap _ HA1.out.1).mono ?_
  rintro e w2 ⟨vh, vl, rfl, hvr, ha2⟩
  have HA2 := Lib.hid ((HA1.out.trans ha2).more (.cells #[.int .i64 arg, .int .i64 (1 + o), .int .i64 0, .int .i64 0, .int .i64 vh, .int .i64 vl] 26))
  have HH2 := Lib.hid (row_alloc (ha2.row HR1.out (by omega)) (.cells #[.int .i64 arg, .int .i64 (1 + o), .int .i64 0, .int .i64 0, .int .i64 vh, .int .i64 vl] 26))
  have HR2 := Lib.hid (heap_alloc_new w2 (.cells #[.int .i64 arg, .int .i64 (1 + o), .int .i64 0, .int .i64 0, .int .i64 vh, .int .i64 vl] 26))
  have hHR : w.heap.size < w2.heap.size := row_here (ha2.row HR1.out (by omega))
  have HV := Lib.hid hvr
  clear ha2 hvr
  by_cases h7 : o = 6
  · subst h7
    have k1 := row_cell HR2.out 1
    simp only [List.getElem?_toArray, List.getElem?_cons_zero, List.getElem?_cons_succ] at k1
    go_wp2_with fail
    refine (srcWord_any g a len cap _ HA2.out.1).mono ?_
    rintro e w3 ⟨mh, ml, rfl, hmr, ha3⟩
    have hl3 : w2.heap.size < w3.heap.size := row_here (ha3.row HR2.out (by omega))
    have HA3 := Lib.hid (((HA2.out.trans ha3).put hgl (p := ⟨w2.heap.size, 2, none⟩) (show w.heap.size ≤ w2.heap.size by omega) (.int .i64 mh)).put hgl (p := ⟨w2.heap.size, 3, none⟩) (show w.heap.size ≤ w2.heap.size by omega) (.int .i64 ml))
    have hr3 := ha3.row HR2.out (by omega)
    have HR3 := Lib.hid (row_put (row_put hr3 2 (.int .i64 mh)) 3 (.int .i64 ml))
    have HH3 := Lib.hid (row_other (row_other (ha3.row HH2.out (by omega)) 2 (.int .i64 mh) (h := w2.heap.size) (by omega)) 3 (.int .i64 ml) (h := w2.heap.size) (by omega))
    have f2 := frozen_row hr3 2
    have f3 := frozen_row hr3 3
    have HM := Lib.hid hmr
    have k2 := row_cell hr3 2
    have k3 := row_cell hr3 3
    simp only [List.getElem?_toArray, List.getElem?_cons_zero, List.getElem?_cons_succ] at k2 k3
    simp only [List.setIfInBounds_toArray, List.set_cons_zero, List.set_cons_succ] at HR3
    clear ha3 hmr hr3 k1
    go_wp2_with fail
    refine (srcOne_any g a len cap 4 _ HA3.out.1 (by omega) (by omega)).mono ?_
    rintro e w4 ⟨b, rfl, ha4⟩
    have HA4 := Lib.hid (HA3.out.trans ha4)
    have HR4 := Lib.hid (ha4.row HR3.out (by omega))
    have HH4 := Lib.hid (ha4.row HH3.out (by omega))
    clear ha4 k2 k3
    have c0 := row_cell HR4.out 0
    have c1 := row_cell HR4.out 1
    have c2 := row_cell HR4.out 2
    have c3 := row_cell HR4.out 3
    have c4 := row_cell HR4.out 4
    have c5 := row_cell HR4.out 5
    have d0 := frozen_row HH4.out 0
    have d1 := frozen_row HH4.out 1
    have d2 := frozen_row HH4.out 2
    have d3 := frozen_row HH4.out 3
    have d4 := frozen_row HH4.out 4
    have d5 := frozen_row HH4.out 5
    have x0 := row_cell HH4.out 0
    have x1 := row_cell HH4.out 1
    have x2 := row_cell HH4.out 2
    have x3 := row_cell HH4.out 3
    have x4 := row_cell HH4.out 4
    have x5 := row_cell HH4.out 5
    simp only [List.getElem?_toArray, List.getElem?_cons_zero, List.getElem?_cons_succ] at c0 c1 c2 c3 c4 c5 x0 x1 x2 x3 x4 x5
    cases b with
    | true =>
      go_wp2_with fail
      exact bodyPost_ret (v := .agg #[.int .i64 arg, .int .i64 7, .int .i64 mh, .int .i64 ml, .int .i64 vh, .int .i64 vl]) (by simp [results, Try.results58, go_sem, x0, x1, x2, x3, x4, x5]) rfl
        ⟨⟨arg, 7, mh, ml, vh, vl⟩, rfl, rfl, CqDrawn.masked HM.out HV.out, (((((HA4.out.put hgl (p := ⟨w.heap.size, 0, none⟩) (Nat.le_refl _) _).put hgl (p := ⟨w.heap.size, 1, none⟩) (Nat.le_refl _) _).put hgl (p := ⟨w.heap.size, 2, none⟩) (Nat.le_refl _) _).put hgl (p := ⟨w.heap.size, 3, none⟩) (Nat.le_refl _) _).put hgl (p := ⟨w.heap.size, 4, none⟩) (Nat.le_refl _) _).put hgl (p := ⟨w.heap.size, 5, none⟩) (Nat.le_refl _) _⟩
    | false =>
      go_wp2_with fail
      refine (specWordAnd_any vh vl mh ml _).mono ?_
      rintro e w5 ⟨rfl, hb5⟩
      have HV5 := Lib.hid (wdAnd_right ⟨vh, vl⟩ ⟨mh, ml⟩)
      generalize (wdAnd ⟨vh, vl⟩ ⟨mh, ml⟩).h = nh at HV5
      generalize (wdAnd ⟨vh, vl⟩ ⟨mh, ml⟩).l = nl at HV5
      have ha5 := AfterSrc.of_below HA4.out.1 hb5
      have hr5 := ha5.row HR4.out (by omega)
      have k4 := row_cell hr5 4
      have k5 := row_cell hr5 5
      have g4 := frozen_row hr5 4
      have g5 := frozen_row hr5 5
      simp only [List.getElem?_toArray, List.getElem?_cons_zero, List.getElem?_cons_succ] at k4 k5
      have HA5 := Lib.hid (((HA4.out.trans ha5).put hgl (p := ⟨w2.heap.size, 4, none⟩) (show w.heap.size ≤ w2.heap.size by omega) (.int .i64 nh)).put hgl (p := ⟨w2.heap.size, 5, none⟩) (show w.heap.size ≤ w2.heap.size by omega) (.int .i64 nl))
      have HR5 := Lib.hid (row_put (row_put hr5 4 (.int .i64 nh)) 5 (.int .i64 nl))
      have HH5 := Lib.hid (row_other (row_other (ha5.row HH4.out (by omega)) 4 (.int .i64 nh) (h := w2.heap.size) (by omega)) 5 (.int .i64 nl) (h := w2.heap.size) (by omega))
      simp only [List.setIfInBounds_toArray, List.set_cons_zero, List.set_cons_succ] at HR5
      have hz5 : w2.heap.size < w5.heap.size := row_here hr5
      clear c0 c1 c2 c3 c4 c5 x0 x1 x2 x3 x4 x5 d0 d1 d2 d3 d4 d5 hb5 ha5 hr5
      go_upto_region 6 with fail
      generalize (w5.setCell ⟨w2.heap.size, 4, none⟩ (.int .i64 nh)).setCell ⟨w2.heap.size, 5, none⟩ (.int .i64 nl) = w6 at *
      clear k4 k5 g4 g5
      have c0 := row_cell HR5.out 0
      have c1 := row_cell HR5.out 1
      have c2 := row_cell HR5.out 2
      have c3 := row_cell HR5.out 3
      have c4 := row_cell HR5.out 4
      have c5 := row_cell HR5.out 5
      have d0 := frozen_row HH5.out 0
      have x0 := row_cell HH5.out 0
      have d1 := frozen_row HH5.out 1
      have x1 := row_cell HH5.out 1
      have d2 := frozen_row HH5.out 2
      have x2 := row_cell HH5.out 2
      have d3 := frozen_row HH5.out 3
      have x3 := row_cell HH5.out 3
      have d4 := frozen_row HH5.out 4
      have x4 := row_cell HH5.out 4
      have d5 := frozen_row HH5.out 5
      have x5 := row_cell HH5.out 5
      simp only [List.getElem?_toArray, List.getElem?_cons_zero, List.getElem?_cons_succ] at c0 c1 c2 c3 c4 c5 x0 x1 x2 x3 x4 x5
      go_wp2_with fail
      exact bodyPost_ret (v := .agg #[.int .i64 arg, .int .i64 7, .int .i64 mh, .int .i64 ml, .int .i64 nh, .int .i64 nl]) (by simp [results, Try.results58, go_sem, x0, x1, x2, x3, x4, x5]) rfl
        ⟨⟨arg, 7, mh, ml, nh, nl⟩, rfl, rfl, CqDrawn.masked HM.out HV5.out, (((((HA5.out.put hgl (p := ⟨w.heap.size, 0, none⟩) (Nat.le_refl _) _).put hgl (p := ⟨w.heap.size, 1, none⟩) (Nat.le_refl _) _).put hgl (p := ⟨w.heap.size, 2, none⟩) (Nat.le_refl _) _).put hgl (p := ⟨w.heap.size, 3, none⟩) (Nat.le_refl _) _).put hgl (p := ⟨w.heap.size, 4, none⟩) (Nat.le_refl _) _).put hgl (p := ⟨w.heap.size, 5, none⟩) (Nat.le_refl _) _⟩
  · have h7' : ((1 + o) == 7) = false := by simp; omega
    go_upto_region 2 with fail
    generalize w2.alloc (.cells #[.int .i64 arg, .int .i64 (1 + o), .int .i64 0, .int .i64 0, .int .i64 vh, .int .i64 vl] 26) = w3 at *
    have c0 := row_cell HR2.out 0
    have c1 := row_cell HR2.out 1
    have c2 := row_cell HR2.out 2
    have c3 := row_cell HR2.out 3
    have c4 := row_cell HR2.out 4
    have c5 := row_cell HR2.out 5
    have d0 := frozen_row HH2.out 0
    have x0 := row_cell HH2.out 0
    have d1 := frozen_row HH2.out 1
    have x1 := row_cell HH2.out 1
    have d2 := frozen_row HH2.out 2
    have x2 := row_cell HH2.out 2
    have d3 := frozen_row HH2.out 3
    have x3 := row_cell HH2.out 3
    have d4 := frozen_row HH2.out 4
    have x4 := row_cell HH2.out 4
    have d5 := frozen_row HH2.out 5
    have x5 := row_cell HH2.out 5
    simp only [List.getElem?_toArray, List.getElem?_cons_zero, List.getElem?_cons_succ] at c0 c1 c2 c3 c4 c5 x0 x1 x2 x3 x4 x5
    go_wp2_with fail
    exact bodyPost_ret (v := .agg #[.int .i64 arg, .int .i64 (1 + o), .int .i64 0, .int .i64 0, .int .i64 vh, .int .i64 vl]) (by simp [results, Try.results58, go_sem, x0, x1, x2, x3, x4, x5]) rfl
      ⟨⟨arg, (1 + o), 0, 0, vh, vl⟩, rfl, rfl, CqDrawn.mk' ⟨by omega, by omega⟩ HV.out, (((((HA2.out.put hgl (p := ⟨w.heap.size, 0, none⟩) (Nat.le_refl _) _).put hgl (p := ⟨w.heap.size, 1, none⟩) (Nat.le_refl _) _).put hgl (p := ⟨w.heap.size, 2, none⟩) (Nat.le_refl _) _).put hgl (p := ⟨w.heap.size, 3, none⟩) (Nat.le_refl _) _).put hgl (p := ⟨w.heap.size, 4, none⟩) (Nat.le_refl _) _).put hgl (p := ⟨w.heap.size, 5, none⟩) (Nat.le_refl _) _⟩

end Go.Proofs.Ytmnmaijifhojiaa

/- Drawn rules, walked: l06RuleOf. -/
set_option maxRecDepth 100000
set_option linter.unusedSimpArgs false
set_option linter.unusedVariables false
namespace Go.Proofs.Ytmnmaijifhojiaa
open Go.RowKit
attribute [local go_sem ↓] Go.wp_at_zero Go.wp_at_succ

/-- Comparisons drawn one behind the other. -/
def CqsUp (a0 : Int) (cs : List Cq) : Prop := ∀ (i : Nat) x, cs[i]? = some x → CqDrawn x ∧ x.a = a0 + i
theorem CqsUp.nil (a0 : Int) : CqsUp a0 [] := fun i x h => by simp at h
theorem CqsUp.snoc {a0 : Int} {cs : List Cq} {x : Cq} (h : CqsUp a0 cs) (hx : CqDrawn x) (ha : x.a = a0 + cs.length) : CqsUp a0 (cs ++ [x]) := fun i y hy => by
  rcases Nat.lt_or_ge i cs.length with hl | hl
  · rw [List.getElem?_append_left hl] at hy
    exact h i y hy
  · rw [List.getElem?_append_right hl] at hy
    obtain rfl : i = cs.length := by
      rcases Nat.eq_zero_or_pos (i - cs.length) with e | e
      · omega
      · rw [List.getElem?_eq_none (by simp; omega)] at hy; cases hy
    rw [Nat.sub_self] at hy
    obtain rfl : x = y := by simpa using hy
    exact ⟨hx, ha⟩
theorem CqsUp.right {a0 : Int} {cs : List Cq} (h : CqsUp a0 cs) (h0 : 0 ≤ a0) (h1 : a0 + cs.length ≤ 6) : cqsOk cs = true := by
  unfold cqsOk
  rw [List.all_eq_true]
  intro i hi
  have hl := List.mem_range.1 hi
  have hx := h i cs[i] (List.getElem?_eq_getElem hl)
  unfold stepOk
  rw [cqAt_eq hl, hx.1.right (by rw [hx.2]; omega) (by rw [hx.2]; omega)]
  rcases Nat.eq_zero_or_pos i with e | e
  · simp [e]
  · have hp := h (i - 1) cs[i - 1] (List.getElem?_eq_getElem (by omega))
    rw [cqAt_eq (show i - 1 < cs.length by omega)]
    have : cs[i - 1].a < cs[i].a := by rw [hp.2, hx.2]; omega
    simp [this]
def actList : List Int := [0, 196608, 327681, 2147221504, 9]
theorem act_cell (i : Nat) (h : i < 5) : ∃ x : Int, (actList.map (Value.int .i64)).toArray[i]? = some (.int .i64 x) ∧ 0 ≤ x ∧ x ≤ 4294967295 := by
  rcases (by omega : i = 0 ∨ i = 1 ∨ i = 2 ∨ i = 3 ∨ i = 4) with rfl | rfl | rfl | rfl | rfl
  all_goals exact ⟨_, rfl, by decide, by decide⟩
/-- A right rule was drawn. -/
def RulePost (g : Nat) (a : Option Addr) (len cap : Nat) (w : World) (e : Ending) (w' : World) : Prop :=
  ∃ (r : Rl) (u : Value), e = .returned (rlV r u) ∧ rlRight r = true ∧ CqOwn w.heap.size w' u r.cs ∧ AfterSrc g a len cap w w'
theorem rlRight_mk {nr ac a0 : Int} {cs : List Cq} (h0 : 0 ≤ nr ∧ nr ≤ 4294967295) (h1 : 0 ≤ ac ∧ ac ≤ 4294967295) (hc : cs.length ≤ 3) (h : CqsUp a0 cs) (ha0 : 0 ≤ a0) (ha1 : a0 ≤ 2) : rlRight ⟨nr, ac, cs⟩ = true := by
  unfold rlRight
  simp only [isB_yes h0.1 h0.2, isB_yes h1.1 h1.2, h.right ha0 (by omega), Bool.true_and, Bool.and_true]
  exact decide_eq_true hc

set_option maxHeartbeats 3200000 in
theorem srcRuleOf_any (g : Nat) (a : Option Addr) (len cap : Nat) (w : World) (hs : Src w g a len cap) :
    Calls Try.prog 71 #[.pointer (some ⟨g, 0, none⟩)] w (RulePost g a len cap w) := by
  have hgl := hs.lt
  have ha0 : AfterSrc g a len cap w (w.alloc (.cells #[.int .i64 0, .int .i64 0, .slice none 0 0] 35)) := AfterSrc.of_below hs ((Below.refl _ _).alloc (Nat.le_refl _) _)
  have HA0 := Lib.hid ha0
  clear ha0 hs
  go_enter Try.func71, Try.ntmps71
  go_wp2_with fail
  refine (srcN_any g a len cap 5 _ HA0.out.1 (by omega) (by omega)).mono ?_
  rintro e w1 ⟨nr, rfl, hn0, hn1, _, hs1, hg1⟩
  have hnr : nr ≤ 4294967295 := by have := hn1 (by omega); omega
  have HA1 : Hid (AfterSrc g a len cap w (w1.alloc (.cells (actList.map (Value.int .i64)).toArray 2))) := Lib.hid ((HA0.out.trans ⟨hs1, hg1⟩).more _)
  have HR1 := Lib.hid (row_alloc (AfterSrc.row ⟨hs1, hg1⟩ (heap_alloc_new w _) (by omega)) (.cells (actList.map (Value.int .i64)).toArray 2))
  have hlt1 : w.heap.size < w1.heap.size := row_here (AfterSrc.row ⟨hs1, hg1⟩ (heap_alloc_new w _) (by omega))
  clear hn1 hs1 hg1
  have hcall := srcN_any g a len cap 5 _ HA1.out.1 (by omega) (by omega)
  have HC := Lib.hid hcall
  clear hcall
  go_wp2_with fail
  refine HC.out.mono ?_
  rintro e w2 ⟨v, rfl, hv0, hv1, _, hs2, hg2⟩
  obtain ⟨i, rfl⟩ := Int.eq_ofNat_of_zero_le hv0
  have hi : i < 5 := by have := hv1 (by omega); omega
  obtain ⟨ac, hx, hx0, hx1⟩ := act_cell i hi
  have hrow := AfterSrc.row ⟨hs2, hg2⟩ (heap_alloc_new w1 (.cells (actList.map (Value.int .i64)).toArray 2)) (by omega)
  have hc : w2.cell? ⟨w1.heap.size, i, none⟩ = some (.int .i64 ac) := by rw [cell_of_row _ _ _ _ _ _ hrow]; exact hx
  have hi' : (i : Int) < 5 := by omega
  have HA2 := Lib.hid ((HA1.out.trans ⟨hs2, hg2⟩).more (.cells #[.int .i64 nr, .int .i64 ac, .slice none 0 0] 35))
  have HH2 := Lib.hid (row_alloc (AfterSrc.row ⟨hs2, hg2⟩ HR1.out (by omega)) (.cells #[.int .i64 nr, .int .i64 ac, .slice none 0 0] 35))
  have HR2 := Lib.hid (heap_alloc_new w2 (.cells #[.int .i64 nr, .int .i64 ac, .slice none 0 0] 35))
  have hHR : w.heap.size < w2.heap.size := row_here (AfterSrc.row ⟨hs2, hg2⟩ HR1.out (by omega))
  clear hrow hx hv1 hv0 hs2 hg2 HC HA1 HR1
  go_wp2_with fail
  refine (srcOne_any g a len cap 12 _ HA2.out.1 (by omega) (by omega)).mono ?_
  rintro e w3 ⟨b1, rfl, ha3⟩
  have HA3 := Lib.hid (HA2.out.trans ha3)
  have HH3 := Lib.hid (ha3.row HH2.out (by omega))
  have HR3 := Lib.hid (ha3.row HR2.out (by omega))
  clear ha3 hc
  go_upto_if 15 with fail
  go_cut [] from 16 to 18 (fun ws => ∃ nr' : Int, 0 ≤ nr' ∧ nr' ≤ 4294967295 ∧ ws.heap[w.heap.size]? = some (.cells #[.int .i64 0, .int .i64 0, .slice none 0 0] 35 (0, 0)) ∧ ws.heap[w2.heap.size]? = some (.cells #[.int .i64 nr', .int .i64 ac, .slice none 0 0] 35 (0, 0)) ∧ AfterSrc g a len cap w ws)
  case first =>
    cases b1
    · go_wp2_with fail
      go_meet
      exact ⟨nr, by omega, by omega, HH3.out, HR3.out, HA3.out⟩
    · go_wp2_with fail
      refine (srcHalf_any g a len cap _ HA3.out.1).mono ?_
      rintro e w4 ⟨x, rfl, hx0, hx1, ha4⟩
      have HA4 := Lib.hid (HA3.out.trans ha4)
      have HH4 := Lib.hid (ha4.row HH3.out (by omega))
      have HR4 := Lib.hid (ha4.row HR3.out (by omega))
      have c0 := row_cell HR4.out 0
      have f0 := frozen_row HR4.out 0
      simp only [List.getElem?_toArray, List.getElem?_cons_zero] at c0
      clear ha4
      go_wp2_with fail
      go_meet
      exact ⟨x, by omega, by omega, row_other HH4.out _ _ (by omega), row_put HR4.out 0 _, HA4.out.put hgl (p := ⟨w2.heap.size, 0, none⟩) (show w.heap.size ≤ w2.heap.size by omega) _⟩
  case rest =>
  clear HA3 HH3 HR3 HA2 HH2 HR2 HA0
  obtain ⟨nr', nr0, nr1, hh, hr, ha⟩ := hcut
  have HA4 := Lib.hid ha
  have HH4 := Lib.hid hh
  have HR4 := Lib.hid hr
  clear ha hh hr
  go_wp2_with fail
  refine (srcN_any g a len cap 3 _ HA4.out.1 (by omega) (by omega)).mono ?_
  rintro e w5 ⟨av, rfl, av0, hav1, _, hs5, hg5⟩
  obtain ⟨a0, rfl⟩ := Int.eq_ofNat_of_zero_le av0
  have av1 : a0 < 3 := by have := hav1 (by omega); omega
  have HA5 := Lib.hid (HA4.out.trans ⟨hs5, hg5⟩)
  have HH5 := Lib.hid (AfterSrc.row ⟨hs5, hg5⟩ HH4.out (by omega))
  have HR5 := Lib.hid (AfterSrc.row ⟨hs5, hg5⟩ HR4.out (by omega))
  clear hav1 hs5 hg5 av0
  go_wp2_with fail
  refine (srcN_any g a len cap 4 _ HA5.out.1 (by omega) (by omega)).mono ?_
  rintro e w6 ⟨kv, rfl, kv0, hkv1, _, hs6, hg6⟩
  obtain ⟨k0, rfl⟩ := Int.eq_ofNat_of_zero_le kv0
  have kv1 : k0 < 4 := by have := hkv1 (by omega); omega
  have HA6 := Lib.hid (HA5.out.trans ⟨hs6, hg6⟩)
  have HH6 := Lib.hid (AfterSrc.row ⟨hs6, hg6⟩ HH5.out (by omega))
  have HR6 := Lib.hid (AfterSrc.row ⟨hs6, hg6⟩ HR5.out (by omega))
  have hs6' : w2.heap.size + 1 ≤ w6.heap.size := row_here HR6.out
  clear hkv1 hs6 hg6 kv0 HA5 HH5 HR5 HA4 HH4 HR4
  go_wp2_with fail
  go_loopw [4, 5] (fun x i wr => ∃ (k : Nat) (u : Value) (l : List Cq), k + l.length ≤ 3 ∧ i = .int .i64 k ∧ x = .int .i64 ((a0 : Int) + (l.length : Int)) ∧ CqsUp (a0 : Int) l ∧ wr.heap[w2.heap.size]? = some (.cells #[.int .i64 nr', .int .i64 ac, u] 35 (0, 0)) ∧ wr.heap[w.heap.size]? = some (.cells #[.int .i64 0, .int .i64 0, .slice none 0 0] 35 (0, 0)) ∧ CqOwn (w2.heap.size + 1) wr u l ∧ AfterSrc g a len cap w wr ∧ w2.heap.size + 1 ≤ wr.heap.size)
    (fun _ i _ => (intOf i).toNat)
  case atStart => exact ⟨k0, _, [], by simp; omega, rfl, by simp, CqsUp.nil _, HR6.out, HH6.out, OwnL.nil _ _, HA6.out, hs6'⟩
  case round =>
    obtain ⟨k, u, l, hk, rfl, rfl, hup, hrow, hres, hown, haf, hsz⟩ := hrel
    obtain ⟨ua, ucap, rfl⟩ := hown.slice
    have HROW := Lib.hid hrow
    have HRES := Lib.hid hres
    have HOWN := Lib.hid hown
    have HAF := Lib.hid haf
    have HUP := Lib.hid hup
    clear hrow hres hown haf hup
    by_cases hlt : 0 < k
    · have hd : decide ((0 : Int) < (k : Int)) = true := decide_eq_true (by omega)
      have c4 : wr.cell? ⟨w2.heap.size, 2, none⟩ = some (.slice ua l.length ucap) := by rw [cell_of_row _ _ _ _ _ _ HROW.out]; rfl
      have hq := srcCmpOf_any g a len cap ((a0 : Int) + (l.length : Int)) wr.drew HAF.out.1
      have QQ := Lib.hid hq
      have hlen6 : l.length ≤ 1000000000 := by omega
      clear hq
      go_wp2_with fail
      go_region_law (first
          | ((refine step_push_cq (by rfl) _ _ (by rfl) _ _ _ _ _ _ _ (w2.heap.size + 1) (.slice ua l.length ucap) l (by rfl) hown2 (by rfl) hlen6 (by have := hs2; omega) ?_; intro v3 w3 hown3 hg3; have hkp := src_push HAF.out hgl HA2.out HROW.out HRES.out (by omega) (Nat.le_refl _) (by omega) hg3.1 (OwnL.lt hown2); have c6 : w3.cell? ⟨w2.heap.size, 2, none⟩ = some (.slice ua l.length ucap) := (cell_of_row _ _ _ _ _ _ hkp.1).trans rfl; have f6 := frozen_row hkp.1 2; have HKP := Lib.hid hkp; clear hkp; obtain ⟨va, vcap, rfl⟩ := hown3.slice))
          | ((go_simp; (with_reducible refine QQ.out.mono ?_); rintro e w5 ⟨⟨xa, xo, xmh, xml, xvh, xvl⟩, rfl, hxa, hx, ha2⟩; have HA2 := Lib.hid ha2; have c5 : w5.cell? ⟨w2.heap.size, 2, none⟩ = some (.slice ua l.length ucap) := (cell_of_row _ _ _ _ _ _ (ha2.row (w := wr.drew) HROW.out (by omega))).trans rfl; have hs2 : w2.heap.size + 1 ≤ w5.heap.size := Nat.le_trans hsz ha2.2.size; have hlt5 : w2.heap.size < w5.heap.size := hs2; have hown2 : CqOwn (w2.heap.size + 1) w5 (.slice ua l.length ucap) l := own_src (w := wr.drew) HOWN.out ha2 (by omega); have HX := Lib.hid hx; have HXA := Lib.hid hxa; clear ha2 hx hxa; dsimp only)))
      all_goals
        have hax := HUP.out.snoc HX.out HXA.out
        have hnx : (l ++ [(⟨xa, xo, xmh, xml, xvh, xvl⟩ : Cq)]).length = l.length + 1 := by simp
        have hoX : ∀ v : Value, CqOwn (w2.heap.size + 1) (w3.setCell ⟨w2.heap.size, 2, none⟩ v) (.slice va (l.length + 1) vcap) (l ++ [⟨xa, xo, xmh, xml, xvh, xvl⟩]) := fun v => by simpa only [List.length_append, List.length_cons, List.length_nil, Nat.zero_add] using hown3.setBelow (a := ⟨w2.heap.size, 2, none⟩) (by simp) v
        have HNX := Lib.hid hnx
        have HAX := Lib.hid hax
        have HOX := Lib.hid hoX
        clear hnx hax hoX hown3 hg3
        go_wp2_with fail
        go_roundw
        case rel => exact ⟨k - 1, _, l ++ [⟨xa, xo, xmh, xml, xvh, xvl⟩], by rw [HNX.out]; omega, by rw [show ((k - 1 : Nat) : Int) = (k : Int) - 1 by omega], by rw [HNX.out]; go_num, HAX.out, row_put HKP.out.1 2 _, row_other HKP.out.2.1 _ _ (by omega), HOX.out _, HKP.out.2.2.1.put hgl (p := ⟨w2.heap.size, 2, none⟩) (show w.heap.size ≤ w2.heap.size by omega) _, by have b := HKP.out.2.2.2; simp [World.setCell]; omega⟩
        case measure => simp [intOf]; omega
    · have hd : decide ((0 : Int) < (k : Int)) = false := decide_eq_false (by omega)
      have c0 := row_cell HROW.out 0
      have c1 := row_cell HROW.out 1
      have c2 := row_cell HROW.out 2
      have d0 := row_cell HRES.out 0
      have d1 := row_cell HRES.out 1
      have d2 := row_cell HRES.out 2
      have f0 := frozen_row HRES.out 0
      have f1 := frozen_row HRES.out 1
      have f2 := frozen_row HRES.out 2
      simp only [List.getElem?_toArray, List.getElem?_cons_zero, List.getElem?_cons_succ] at c0 c1 c2 d0 d1 d2
      have HRT := Lib.hid (rlRight_mk (nr := nr') (ac := ac) ⟨nr0, nr1⟩ ⟨hx0, hx1⟩ (by omega) HUP.out (by omega) (by omega))
      go_wp2_with fail
      exact bodyPost_ret (v := .agg #[.int .i64 nr', .int .i64 ac, .slice ua l.length ucap]) (by simp [results, Try.results71, go_sem, d0, d1, d2]) rfl
        ⟨⟨nr', ac, l⟩, _, rfl, HRT.out,
          (((HOWN.out.setBelow (by simp; omega) _).setBelow (by simp; omega) _).setBelow (by simp; omega) _).base (by omega),
          ((HAF.out.put hgl (p := ⟨w.heap.size, 0, none⟩) (Nat.le_refl _) _).put hgl (p := ⟨w.heap.size, 1, none⟩) (Nat.le_refl _) _).put hgl (p := ⟨w.heap.size, 2, none⟩) (Nat.le_refl _) _⟩

end Go.Proofs.Ytmnmaijifhojiaa

/- Drawn rules that may not be right, walked: l06Odd. -/
set_option maxRecDepth 100000
set_option linter.unusedSimpArgs false
set_option linter.unusedVariables false
namespace Go.Proofs.Ytmnmaijifhojiaa
open Go.RowKit
attribute [local go_sem ↓] Go.wp_at_zero Go.wp_at_succ

def cqsWf (cs : List Cq) : Prop := ∀ c ∈ cs, c.wf
theorem CqDrawn.wf5 {x : Cq} (h : CqDrawn x) (ha : x.a = 5) : x.wf := h.wf (by rw [ha]; unfold In64; omega)
theorem CqsUp.wf {a0 : Int} {cs : List Cq} (h : CqsUp a0 cs) (h0 : 0 ≤ a0) (h1 : a0 + cs.length ≤ 1000) : cqsWf cs := fun c hc => by
  obtain ⟨i, hi, rfl⟩ := List.getElem_of_mem hc
  have := h i cs[i] (List.getElem?_eq_getElem hi)
  exact this.1.wf (by rw [this.2]; unfold In64; omega)
theorem cqRight_wf {x : Cq} (h : cqRight x = true) : x.wf := by
  unfold cqRight isB at h
  simp only [Bool.and_eq_true, decide_eq_true_eq] at h
  have h1 := wd_bounds h.1.1.2
  have h2 := wd_bounds h.1.2
  simp only at h1 h2
  unfold Cq.wf In64
  omega
theorem cqsOk_wf {cs : List Cq} (h : cqsOk cs = true) : cqsWf cs := fun c hc => by
  obtain ⟨i, hi, rfl⟩ := List.getElem_of_mem hc
  unfold cqsOk at h
  have := List.all_eq_true.1 h i (List.mem_range.2 hi)
  unfold stepOk at this
  rw [cqAt_eq hi, Bool.and_eq_true] at this
  exact cqRight_wf this.1
theorem rlRight_all {r : Rl} (h : rlRight r = true) : r.wf ∧ cqsWf r.cs ∧ r.cs.length ≤ 3 := by
  unfold rlRight isB at h
  simp only [Bool.and_eq_true, decide_eq_true_eq] at h
  exact ⟨by unfold Rl.wf In64; omega, cqsOk_wf h.2, h.1.2⟩
theorem cqsWf.snoc {cs : List Cq} {x : Cq} (h : cqsWf cs) (hx : x.wf) : cqsWf (cs ++ [x]) := fun c hc => by
  rcases List.mem_append.1 hc with h1 | h1
  · exact h c h1
  · rw [List.mem_singleton.1 h1]; exact hx
theorem CqAt.lit2 {w : World} (xa xo xmh xml xvh xvl ya yo ymh yml yvh yvl : Int) (hx : (⟨xa, xo, xmh, xml, xvh, xvl⟩ : Cq).wf) (hy : (⟨ya, yo, ymh, yml, yvh, yvl⟩ : Cq).wf) :
    CqAt (w.alloc (.cells #[.int .i64 xa, .int .i64 xo, .int .i64 xmh, .int .i64 xml, .int .i64 xvh, .int .i64 xvl, .int .i64 ya, .int .i64 yo, .int .i64 ymh, .int .i64 yml, .int .i64 yvh, .int .i64 yvl] 26)) (w.alloc (.cells #[.int .i64 xa, .int .i64 xo, .int .i64 xmh, .int .i64 xml, .int .i64 xvh, .int .i64 xvl, .int .i64 ya, .int .i64 yo, .int .i64 ymh, .int .i64 yml, .int .i64 yvh, .int .i64 yvl] 26)).heap.size
      (.slice (some ⟨w.heap.size, 0, none⟩) 2 2) [⟨xa, xo, xmh, xml, xvh, xvl⟩, ⟨ya, yo, ymh, yml, yvh, yvl⟩] := by
  refine ⟨cqS, ⟨_, 2, rfl, Nat.le_refl _, by unfold maxLen; omega, fun _ => ⟨w.heap.size, 0, rfl, by simp, fun i c hi => ?_⟩⟩, fun x h => by
    rcases List.mem_cons.1 h with rfl | h
    · exact hx
    · rw [List.mem_singleton.1 h]; exact hy⟩
  rw [Nat.zero_add, World.cell?_alloc_at _ _ _ _ rfl]
  simpa [cqCells] using hi
theorem run_push_cq2 (wr : World) (xa xo xmh xml xvh xvl ya yo ymh yml yvh yvl : Int) (hx : (⟨xa, xo, xmh, xml, xvh, xvl⟩ : Cq).wf) (hy : (⟨ya, yo, ymh, yml, yvh, yvl⟩ : Cq).wf) (ty : TypeId)
    (base : Nat) (v : Value) (ls : List Cq) (hown : CqOwn base wr v ls) (hlen : ls.length ≤ 1000000) (hbase : base ≤ wr.heap.size) :
    ∃ v' w', (Builtin.append_ #[33, 33] ty #[v, .slice (some ⟨wr.heap.size, 0, none⟩) 2 2]).run Try.prog (wr.alloc (.cells #[.int .i64 xa, .int .i64 xo, .int .i64 xmh, .int .i64 xml, .int .i64 xvh, .int .i64 xvl, .int .i64 ya, .int .i64 yo, .int .i64 ymh, .int .i64 yml, .int .i64 yvh, .int .i64 yvl] 26)) = .ok v' w' ∧
      CqOwn base w' v' (ls ++ [⟨xa, xo, xmh, xml, xvh, xvl⟩, ⟨ya, yo, ymh, yml, yvh, yvl⟩]) ∧ GrB wr w' v v' := by
  obtain ⟨v', w', h1, h2, h3⟩ := run_append_cq ty _ base v _ ls _ (OwnL.alloc hown _) (CqAt.lit2 (w := wr) xa xo xmh xml xvh xvl ya yo ymh yml yvh yvl hx hy) hlen (by simp) (by simp; omega)
  exact ⟨v', w', h1, h2, h3.alloc⟩
theorem step_push_cq2 {ops : Array Oper} {o : Oper} {a : Act} {K : Act → World → Prop} {Q : Exit → Act → World → Prop} {E : Prop} (hgd : o.guard = none) (s x : Operand)
    (ho : o.op = .call { callee := .builtin .append, args := #[s, x], argTypes := #[33, 33] }) (wr : World) (xa xo xmh xml xvh xvl ya yo ymh yml yvh yvl : Int) (hwx : (⟨xa, xo, xmh, xml, xvh, xvl⟩ : Cq).wf) (hwy : (⟨ya, yo, ymh, yml, yvh, yvl⟩ : Cq).wf)
    (base : Nat) (v : Value) (ls : List Cq) (hs : a.eval s = v) (hown : CqOwn base wr v ls)
    (hx : a.eval x = .slice (some ⟨wr.heap.size, 0, none⟩) 2 2) (hlen : ls.length ≤ 1000000) (hbase : base ≤ wr.heap.size)
    (hcont : ∀ v' w', CqOwn base w' v' (ls ++ [⟨xa, xo, xmh, xml, xvh, xvl⟩, ⟨ya, yo, ymh, yml, yvh, yvl⟩]) → GrB wr w' v v' → K (a.put o.dst v') w') :
    if Region.wanted o (yielded ops a.tmps) = true then Oper.wp Try.prog o a (wr.alloc (.cells #[.int .i64 xa, .int .i64 xo, .int .i64 xmh, .int .i64 xml, .int .i64 xvh, .int .i64 xvl, .int .i64 ya, .int .i64 yo, .int .i64 ymh, .int .i64 yml, .int .i64 yvh, .int .i64 yvl] 26)) K Q else E := by
  obtain ⟨v', w', hr, h2, h3⟩ := run_push_cq2 wr xa xo xmh xml xvh xvl ya yo ymh yml yvh yvl hwx hwy o.type base v ls hown hlen hbase
  exact step_append_run hgd s x ho hs hx hr (hcont _ _ h2 h3)
def oddNrs : List Int := [-1, 4294967295, 4294967296]
def oddActs : List Int := [-1, 2147418112, 4294967296]
theorem oddNr_cell (i : Nat) (h : i < 3) : ∃ x : Int, (oddNrs.map (Value.int .i64)).toArray[i]? = some (.int .i64 x) ∧ In64 x := by
  rcases (by omega : i = 0 ∨ i = 1 ∨ i = 2) with rfl | rfl | rfl
  all_goals exact ⟨_, rfl, by decide, by decide⟩
theorem oddAct_cell (i : Nat) (h : i < 3) : ∃ x : Int, (oddActs.map (Value.int .i64)).toArray[i]? = some (.int .i64 x) ∧ In64 x := by
  rcases (by omega : i = 0 ∨ i = 1 ∨ i = 2) with rfl | rfl | rfl
  all_goals exact ⟨_, rfl, by decide, by decide⟩
/-- A rule was drawn, right or not. -/
def OddPost (g : Nat) (a : Option Addr) (len cap : Nat) (w : World) (e : Ending) (w' : World) : Prop :=
  ∃ (r : Rl) (u : Value), e = .returned (rlV r u) ∧ r.wf ∧ cqsWf r.cs ∧ r.cs.length ≤ 5 ∧ CqOwn w.heap.size w' u r.cs ∧ AfterSrc g a len cap w w'
/-- What the walk carries: the result, the rule, what it owns. -/
def Mid (w : World) (R : Nat) (g : Nat) (a : Option Addr) (len cap : Nat) (nr ac : Int) (u : Value) (cs : List Cq) (W : World) : Prop :=
  W.heap[w.heap.size]? = some (.cells #[.int .i64 0, .int .i64 0, .slice none 0 0] 35 (0, 0)) ∧ W.heap[R]? = some (.cells #[.int .i64 nr, .int .i64 ac, u] 35 (0, 0)) ∧ CqOwn (w.heap.size + 1) W u cs ∧ u.ownBlock ≠ some R ∧ AfterSrc g a len cap w W ∧ w.heap.size < R
theorem AfterSrc.drew {g : Nat} {a : Option Addr} {len cap : Nat} {w W : World} (h : AfterSrc g a len cap w W) : AfterSrc g a len cap w W.drew := ⟨h.1, h.2.os, h.2.tape, h.2.output, h.2.size, h.2.block⟩
section
variable {w W W' : World} {R g : Nat} {a : Option Addr} {len cap : Nat} {nr ac : Int} {u u' : Value} {cs cs' : List Cq}
theorem Mid.drew (h : Mid w R g a len cap nr ac u cs W) : Mid w R g a len cap nr ac u cs W.drew := ⟨h.1, h.2.1, h.2.2.1, h.2.2.2.1, h.2.2.2.2.1.drew, h.2.2.2.2.2⟩
theorem Mid.src (h : Mid w R g a len cap nr ac u cs W) (hgl : g < w.heap.size) (ha : AfterSrc g a len cap W W') : Mid w R g a len cap nr ac u cs W' :=
  have hlt := h.2.2.2.2.2
  ⟨ha.row h.1 (by omega), ha.row h.2.1 (by omega), own_src h.2.2.1 ha (by omega), h.2.2.2.1, h.2.2.2.2.1.trans ha, hlt⟩
theorem Mid.s (h : Mid w R g a len cap nr ac u cs W) : Src W g a len cap := h.2.2.2.2.1.1
theorem Mid.own (h : Mid w R g a len cap nr ac u cs W) : CqOwn (w.heap.size + 1) W u cs := h.2.2.1
theorem Mid.cell (h : Mid w R g a len cap nr ac u cs W) : W.cell? ⟨R, 2, none⟩ = some u := by rw [cell_of_row _ _ _ _ _ _ h.2.1]; rfl
theorem Mid.lt (h : Mid w R g a len cap nr ac u cs W) : R < W.heap.size := row_here h.2.1
theorem Mid.low (h : Mid w R g a len cap nr ac u cs W) : w.heap.size + 1 ≤ W.heap.size := by have := h.lt; have := h.2.2.2.2.2; omega
theorem Mid.grow (h : Mid w R g a len cap nr ac u cs W) (hgl : g < w.heap.size) (hg : GrB W W' u u') (ho : CqOwn (w.heap.size + 1) W' u' cs') :
    W'.heap[w.heap.size]? = some (.cells #[.int .i64 0, .int .i64 0, .slice none 0 0] 35 (0, 0)) ∧ W'.heap[R]? = some (.cells #[.int .i64 nr, .int .i64 ac, u] 35 (0, 0)) ∧ u'.ownBlock ≠ some R ∧ AfterSrc g a len cap w W' := by
  have hlt := h.2.2.2.2.2
  have hH : u.ownBlock ≠ some w.heap.size := fun e => by have := (OwnL.lt h.2.2.1 _ e).1; omega
  refine ⟨row_grown h.1 hg.1 hH, row_grown h.2.1 hg.1 h.2.2.2.1, fun e => ?_, h.2.2.2.2.1.growth hgl hg.1 fun k hk => by have := (OwnL.lt h.2.2.1 k hk).1; omega⟩
  rcases hg.2 with h1 | h1
  · exact h.2.2.2.1 (h1.symm.trans e)
  · have := h1 R e
    have := h.lt
    omega
theorem own_put {v0 : Value} {E : TypeId} {α : Type} {f : α → List Value} {S base : Nat} {l : List α} (h : OwnL E S f base W u l) {p : Addr} (hp : u.ownBlock ≠ some p.block) : OwnL E S f base (W.setCell p v0) u l :=
  OwnL.keep h fun q hq => Below.heap_setCell W p v0 q (fun e => hp (by rw [hq, e]))
theorem Mid.pushed (h : Mid w R g a len cap nr ac u cs W) (hgl : g < w.heap.size) (hg : GrB W W' u u') (ho : CqOwn (w.heap.size + 1) W' u' cs') : Mid w R g a len cap nr ac u' cs' (W'.setCell ⟨R, 2, none⟩ u') := by
  have hlt := h.2.2.2.2.2
  obtain ⟨k1, k2, k3, k4⟩ := h.grow hgl hg ho
  exact ⟨row_other k1 _ _ (by omega), row_put k2 2 _, own_put ho (p := ⟨R, 2, none⟩) k3, k3, k4.put hgl (p := ⟨R, 2, none⟩) (show w.heap.size ≤ R by omega) _, hlt⟩
theorem Mid.put0 (h : Mid w R g a len cap nr ac u cs W) (hgl : g < w.heap.size) (x : Int) : Mid w R g a len cap x ac u cs (W.setCell ⟨R, 0, none⟩ (.int .i64 x)) :=
  have hlt := h.2.2.2.2.2
  ⟨row_other h.1 _ _ (by omega), row_put h.2.1 0 _, own_put h.2.2.1 (p := ⟨R, 0, none⟩) h.2.2.2.1, h.2.2.2.1, h.2.2.2.2.1.put hgl (p := ⟨R, 0, none⟩) (show w.heap.size ≤ R by omega) _, hlt⟩
theorem Mid.put1 (h : Mid w R g a len cap nr ac u cs W) (hgl : g < w.heap.size) (x : Int) : Mid w R g a len cap nr x u cs (W.setCell ⟨R, 1, none⟩ (.int .i64 x)) :=
  have hlt := h.2.2.2.2.2
  ⟨row_other h.1 _ _ (by omega), row_put h.2.1 1 _, own_put h.2.2.1 (p := ⟨R, 1, none⟩) h.2.2.2.1, h.2.2.2.1, h.2.2.2.2.1.put hgl (p := ⟨R, 1, none⟩) (show w.heap.size ≤ R by omega) _, hlt⟩
end
def OddAt (w : World) (R : Nat) (g : Nat) (a : Option Addr) (len cap : Nat) (W : World) : Prop := ∃ (nr ac : Int) (u : Value) (cs : List Cq), In64 nr ∧ In64 ac ∧ cqsWf cs ∧ cs.length ≤ 5 ∧ Mid w R g a len cap nr ac u cs W

set_option maxHeartbeats 3200000 in
theorem srcOddR_any (g : Nat) (a : Option Addr) (len cap : Nat) (w : World) (hs : Src w g a len cap) :
    Calls Try.prog 65 #[.pointer (some ⟨g, 0, none⟩)] w (OddPost g a len cap w) := by
  have hgl := hs.lt
  have ha0 : AfterSrc g a len cap w (w.alloc (.cells #[.int .i64 0, .int .i64 0, .slice none 0 0] 35)) := AfterSrc.of_below hs ((Below.refl _ _).alloc (Nat.le_refl _) _)
  have HA0 := Lib.hid ha0
  clear ha0 hs
  go_enter Try.func65, Try.ntmps65
  go_wp2_with fail
  refine (srcRuleOf_any g a len cap _ HA0.out.1).mono ?_
  rintro e w1 ⟨⟨nr, ac, cs⟩, u, rfl, hrt, hown, ha1⟩
  obtain ⟨ua, ucap, rfl⟩ := OwnL.slice hown
  obtain ⟨hwf, hcw, hc3⟩ := rlRight_all hrt
  have ha1' := (HA0.out.trans ha1).more (.cells #[.int .i64 nr, .int .i64 ac, .slice ua cs.length ucap] 35)
  have hr1 := ha1.row (heap_alloc_new w _) (by omega)
  have hsz1 : w.heap.size + 1 = (w.alloc (.cells #[.int .i64 0, .int .i64 0, .slice none 0 0] 35)).heap.size := by simp
  have HM1 : Hid (Mid w w1.heap.size g a len cap nr ac (.slice ua cs.length ucap) cs (w1.alloc (.cells #[.int .i64 nr, .int .i64 ac, .slice ua cs.length ucap] 35))) :=
    Lib.hid ⟨row_alloc hr1 _, heap_alloc_new w1 _, OwnL.alloc (OwnL.base hown (by omega)) _, fun e => by have := (OwnL.lt hown _ e).2; omega, ha1', row_here hr1⟩
  have HCW := Lib.hid hcw
  have HWF := Lib.hid hwf
  clear ha1' hr1 hown ha1 hrt hcw hwf hsz1
  simp only at hc3
  go_wp2_with fail
  refine (srcOne_any g a len cap 6 _ HM1.out.2.2.2.2.1.1 (by omega) (by omega)).mono ?_
  rintro e w2 ⟨b, rfl, ha2⟩
  have HM2 := Lib.hid (HM1.out.src hgl ha2)
  clear ha2
  go_upto_if 7 with fail
  go_cut [] from 8 to 51 (fun ws => OddAt w w1.heap.size g a len cap ws)
  case first =>
    cases b
    · go_wp2_with fail
      go_meet
      exact ⟨nr, ac, _, cs, HWF.out.1, HWF.out.2, HCW.out, by omega, HM2.out⟩
    · go_wp2_with fail
      refine (srcN_any g a len cap 4 _ HM2.out.2.2.2.2.1.1 (by omega) (by omega)).mono ?_
      rintro e w3 ⟨v, rfl, hv0, hv1, _, hs3, hg3⟩
      have hv4 : v < 4 := hv1 (by omega)
      have HM3 := Lib.hid (HM2.out.src hgl ⟨hs3, hg3⟩)
      clear hv1 hs3 hg3
      rcases (by omega : v = 0 ∨ v = 1 ∨ v = 2 ∨ v = 3) with rfl | rfl | rfl | rfl
      · have HC := Lib.hid (srcN_any g a len cap 3 (w3.alloc (.cells (oddNrs.map (Value.int .i64)).toArray 2)) (HM3.out.2.2.2.2.1.more _).1 (by omega) (by omega))
        go_wp2_with fail
        refine HC.out.mono ?_
        rintro e w4 ⟨v, rfl, hv0, hv1, _, hs4, hg4⟩
        obtain ⟨i, rfl⟩ := Int.eq_ofNat_of_zero_le hv0
        have hi : i < 3 := by have := hv1 (by omega); omega
        obtain ⟨x, hx, hx64⟩ := oddNr_cell i hi
        have hglt3 : g < w3.heap.size := by have := HM3.out.low; omega
        have hrow := AfterSrc.row ⟨hs4, hg4⟩ (heap_alloc_new w3 (.cells (oddNrs.map (Value.int .i64)).toArray 2)) (by omega)
        have hc : w4.cell? ⟨w3.heap.size, i, none⟩ = some (.int .i64 x) := by rw [cell_of_row _ _ _ _ _ _ hrow]; exact hx
        have hi' : (i : Int) < 3 := by omega
        have HM4 := Lib.hid ((HM3.out.src hgl ((AfterSrc.of_below HM3.out.2.2.2.2.1.1 ((Below.refl _ _).alloc (Nat.le_refl _) _)).trans ⟨hs4, hg4⟩)).put0 hgl x)
        have f0 := frozen_row (HM3.out.src hgl ((AfterSrc.of_below HM3.out.2.2.2.2.1.1 ((Below.refl _ _).alloc (Nat.le_refl _) _)).trans ⟨hs4, hg4⟩)).2.1 0
        have c0 := row_cell (HM3.out.src hgl ((AfterSrc.of_below HM3.out.2.2.2.2.1.1 ((Below.refl _ _).alloc (Nat.le_refl _) _)).trans ⟨hs4, hg4⟩)).2.1 0
        simp only [List.getElem?_toArray, List.getElem?_cons_zero, List.getElem?_cons_succ] at c0
        clear hrow hx hv1 hs4 hg4 HC
        go_wp2_with fail
        go_meet
        exact ⟨x, ac, _, cs, hx64, HWF.out.2, HCW.out, by omega, HM4.out⟩
      · have HC := Lib.hid (srcN_any g a len cap 3 (w3.alloc (.cells (oddActs.map (Value.int .i64)).toArray 2)) (HM3.out.2.2.2.2.1.more _).1 (by omega) (by omega))
        go_wp2_with fail
        refine HC.out.mono ?_
        rintro e w4 ⟨v, rfl, hv0, hv1, _, hs4, hg4⟩
        obtain ⟨i, rfl⟩ := Int.eq_ofNat_of_zero_le hv0
        have hi : i < 3 := by have := hv1 (by omega); omega
        obtain ⟨x, hx, hx64⟩ := oddAct_cell i hi
        have hglt3 : g < w3.heap.size := by have := HM3.out.low; omega
        have hrow := AfterSrc.row ⟨hs4, hg4⟩ (heap_alloc_new w3 (.cells (oddActs.map (Value.int .i64)).toArray 2)) (by omega)
        have hc : w4.cell? ⟨w3.heap.size, i, none⟩ = some (.int .i64 x) := by rw [cell_of_row _ _ _ _ _ _ hrow]; exact hx
        have hi' : (i : Int) < 3 := by omega
        have HM4 := Lib.hid ((HM3.out.src hgl ((AfterSrc.of_below HM3.out.2.2.2.2.1.1 ((Below.refl _ _).alloc (Nat.le_refl _) _)).trans ⟨hs4, hg4⟩)).put1 hgl x)
        have f0 := frozen_row (HM3.out.src hgl ((AfterSrc.of_below HM3.out.2.2.2.2.1.1 ((Below.refl _ _).alloc (Nat.le_refl _) _)).trans ⟨hs4, hg4⟩)).2.1 1
        have c0 := row_cell (HM3.out.src hgl ((AfterSrc.of_below HM3.out.2.2.2.2.1.1 ((Below.refl _ _).alloc (Nat.le_refl _) _)).trans ⟨hs4, hg4⟩)).2.1 1
        simp only [List.getElem?_toArray, List.getElem?_cons_zero, List.getElem?_cons_succ] at c0
        clear hrow hx hv1 hs4 hg4 HC
        go_wp2_with fail
        go_meet
        exact ⟨nr, x, _, cs, HWF.out.1, hx64, HCW.out, by omega, HM4.out⟩
      · have hlen6 : cs.length ≤ 1000000000 := by omega
        have HY0 := Lib.hid HM3.out.drew
        have cy0 := HM3.out.cell
        have QN8 := Lib.hid (fun W s => srcN_any g a len cap 8 W s (by omega) (by omega))
        have QN9 := Lib.hid (fun W s => srcN_any g a len cap 9 W s (by omega) (by omega))
        go_wp2_with fail
        go_region_law (first
          | ((refine step_push_cq (by rfl) _ _ (by rfl) _ _ _ _ _ _ _ (w.heap.size + 1) (.slice ua cs.length ucap) cs (by rfl) HY4.out.own (by rfl) hlen6 HY4.out.low ?_; intro v5 y5 hown5 hg5; obtain ⟨va, vcap, rfl⟩ := OwnL.slice hown5; have hgr := HY4.out.grow hgl hg5 hown5; have c6 : y5.cell? ⟨w1.heap.size, 2, none⟩ = some (.slice ua cs.length ucap) := (cell_of_row _ _ _ _ _ _ hgr.2.1).trans rfl; have f6 := frozen_row hgr.2.1 2; have hp := HY4.out.pushed hgl hg5 hown5; simp only [List.length_append, List.length_cons, List.length_nil, Nat.zero_add, Nat.reduceAdd] at hp; have HP := Lib.hid hp; clear hp hgr hown5 hg5))
          | ((go_simp; (with_reducible refine ((QN8.out _ HY0.out.s)).mono ?_); rintro e y1 ⟨p8, rfl, p80, p81, _, hs1, hg1⟩; have HY1 := Lib.hid (HY0.out.src hgl ⟨hs1, hg1⟩); have cy1 := HY1.out.cell; have hp8 : p8 < 8 := p81 (by omega); have hw8 : IntKind.i64.wrap (p8 - 1) = p8 - 1 := IntWalk.i64_in _ (by omega); clear p81; clear hs1 hg1; dsimp only))
          | ((go_simp; (with_reducible refine ((QN9.out _ HY1.out.s)).mono ?_); rintro e y2 ⟨p9, rfl, p90, p91, _, hs2, hg2⟩; have HY2 := Lib.hid (HY1.out.src hgl ⟨hs2, hg2⟩); have cy2 := HY2.out.cell; have hp9 : p9 < 9 := p91 (by omega); clear p91; clear hs2 hg2; dsimp only))
          | ((go_simp; (with_reducible refine (srcWord_any g a len cap _ HY2.out.s).mono ?_); rintro e y3 ⟨vh, vl, rfl, hvr, ha3⟩; have HY3 := Lib.hid (HY2.out.src hgl ha3); have cy3 := HY3.out.cell; have HV := Lib.hid hvr; clear hvr; clear ha3; dsimp only))
          | ((go_simp; (with_reducible refine (srcWord_any g a len cap _ HY3.out.s).mono ?_); rintro e y4 ⟨mh, ml, rfl, hmr, ha4⟩; have HY4 := Lib.hid (HY3.out.src hgl ha4); have cy4 := HY4.out.cell; have HMR := Lib.hid hmr; clear hmr; have hltY := HY4.out.lt; clear ha4; dsimp only)))
        all_goals
          have hwf : (⟨p8 - 1, p9, mh, ml, vh, vl⟩ : Cq).wf := by
            have h1 := wd_bounds HV.out
            have h2 := wd_bounds HMR.out
            simp only at h1 h2
            clear hw8
            show In64 (p8 - 1) ∧ In64 p9 ∧ In64 mh ∧ In64 ml ∧ In64 vh ∧ In64 vl
            unfold In64
            omega
          have HW5 := Lib.hid (HCW.out.snoc hwf)
          clear hw8 hwf cy1 cy2 cy3 cy4
          go_wp2_with fail
          go_meet
          exact ⟨nr, ac, _, _, HWF.out.1, HWF.out.2, HW5.out, by simp; omega, HP.out⟩
      · have hlen6 : cs.length ≤ 1000000 := by omega
        have HY0 := Lib.hid HM3.out.drew
        have cy0 := HM3.out.cell
        go_wp2_with fail
        go_region_law (first
          | ((refine step_push_cq2 (by rfl) _ _ (by rfl) _ _ _ _ _ _ _ _ _ _ _ _ _ HX.out HZ.out (w.heap.size + 1) (.slice ua cs.length ucap) cs (by rfl) HY2.out.own (by rfl) hlen6 HY2.out.low ?_; intro v5 y5 hown5 hg5; obtain ⟨va, vcap, rfl⟩ := OwnL.slice hown5; have hgr := HY2.out.grow hgl hg5 hown5; have c6 : y5.cell? ⟨w1.heap.size, 2, none⟩ = some (.slice ua cs.length ucap) := (cell_of_row _ _ _ _ _ _ hgr.2.1).trans rfl; have f6 := frozen_row hgr.2.1 2; have hp := HY2.out.pushed hgl hg5 hown5; simp only [List.length_append, List.length_cons, List.length_nil, Nat.zero_add, Nat.reduceAdd] at hp; have HP := Lib.hid hp; clear hp hgr hown5 hg5))
          | ((go_simp; (with_reducible refine (srcCmpOf_any g a len cap 5 _ HY0.out.s).mono ?_); rintro e y1 ⟨⟨xa, xo, xmh, xml, xvh, xvl⟩, rfl, hxa, hx, ha1⟩; have HX := Lib.hid (hx.wf5 hxa); have HY1 := Lib.hid (HY0.out.src hgl ha1); have cy1 := HY1.out.cell; clear ha1 hx hxa; dsimp only))
          | ((go_simp; (with_reducible refine (srcCmpOf_any g a len cap 5 _ HY1.out.s).mono ?_); rintro e y2 ⟨⟨za, zo, zmh, zml, zvh, zvl⟩, rfl, hza, hz, ha2⟩; have HZ := Lib.hid (hz.wf5 hza); have HY2 := Lib.hid (HY1.out.src hgl ha2); have cy2 := HY2.out.cell; have hltY := HY2.out.lt; clear ha2 hz hza; dsimp only)))
        all_goals
          have HW5 := Lib.hid (show cqsWf (cs ++ [⟨xa, xo, xmh, xml, xvh, xvl⟩, ⟨za, zo, zmh, zml, zvh, zvl⟩]) from by
            have := (HCW.out.snoc HX.out).snoc HZ.out
            rwa [List.append_assoc] at this)
          clear cy1 cy2
          go_wp2_with fail
          go_meet
          exact ⟨nr, ac, _, _, HWF.out.1, HWF.out.2, HW5.out, by simp; omega, HP.out⟩
  case rest =>
  obtain ⟨nr', ac', u', cs', h1, h2, h3, h4, hm⟩ := hcut
  obtain ⟨ua', ucap', rfl⟩ := OwnL.slice hm.2.2.1
  have HM := Lib.hid hm
  have H3 := Lib.hid h3
  clear hm h3 HM1 HM2
  have c0 := row_cell HM.out.2.1 0
  have c1 := row_cell HM.out.2.1 1
  have c2 := row_cell HM.out.2.1 2
  have f0 := frozen_row HM.out.1 0
  have d0 := row_cell HM.out.1 0
  have f1 := frozen_row HM.out.1 1
  have d1 := row_cell HM.out.1 1
  have f2 := frozen_row HM.out.1 2
  have d2 := row_cell HM.out.1 2
  simp only [List.getElem?_toArray, List.getElem?_cons_zero, List.getElem?_cons_succ] at c0 c1 c2 d0 d1 d2
  go_wp2_with fail
  exact bodyPost_ret (v := .agg #[.int .i64 nr', .int .i64 ac', .slice ua' cs'.length ucap']) (by simp [results, Try.results65, go_sem, d0, d1, d2]) rfl
    ⟨⟨nr', ac', cs'⟩, _, rfl, ⟨h1, h2⟩, H3.out, h4,
      (((HM.out.2.2.1.setBelow (by simp) _).setBelow (by simp) _).setBelow (by simp) _).base (by omega),
      ((HM.out.2.2.2.2.1.put hgl (p := ⟨w.heap.size, 0, none⟩) (Nat.le_refl _) _).put hgl (p := ⟨w.heap.size, 1, none⟩) (Nat.le_refl _) _).put hgl (p := ⟨w.heap.size, 2, none⟩) (Nat.le_refl _) _⟩

end Go.Proofs.Ytmnmaijifhojiaa

/- Drawn policies, walked: l06PolicyOf. -/
set_option maxRecDepth 100000
set_option linter.unusedSimpArgs false
set_option linter.unusedVariables false
namespace Go.Proofs.Ytmnmaijifhojiaa
open Go.RowKit
attribute [local go_sem ↓] Go.wp_at_zero Go.wp_at_succ

theorem AfterSrc.only {g : Nat} {a : Option Addr} {len cap : Nat} {w W : World} (h : AfterSrc g a len cap w W) : OnlyIn (fun k => k = g) w W :=
  ⟨h.2.os, h.2.tape, h.2.output, h.2.size, fun k hk hne => h.2.block k hk (fun e => hne (by injection e))⟩
theorem OwnRv.src {g : Nat} {a : Option Addr} {len cap base : Nat} {w W : World} {v : Value} {l : List Rv} (h : OwnRv base w v l) (ha : AfterSrc g a len cap w W) (hg : g < base) : OwnRv base W v l :=
  h.only ha.only fun k hk => hk ▸ hg
theorem AfterSrc.refl {g : Nat} {a : Option Addr} {len cap : Nat} {w : World} (h : Src w g a len cap) : AfterSrc g a len cap w w := ⟨h, World.grownBy.refl _ _⟩
theorem polRight_wf {ar df bd : Int} {rs : List Rl} (h : polRight ⟨ar, df, bd, rs⟩ = true) : rlsWf rs := fun r hr => by
  have h1 := (((polsOk_iff df rs).1 (polRight_ok h).1).1 r hr).1
  exact ⟨(rlRight_all h1).1, (rlRight_all h1).2.1⟩
/-- What the walk carries: the result, the policy, what it owns. -/
def PMid (w : World) (R : Nat) (g : Nat) (a : Option Addr) (len cap : Nat) (ar df bd : Int) (u : Value) (l : List Rv) (W : World) : Prop :=
  W.heap[w.heap.size]? = some (.cells #[.int .i64 0, .int .i64 0, .int .i64 0, .slice none 0 0] 32 (0, 0)) ∧ W.heap[R]? = some (.cells #[.int .i64 ar, .int .i64 df, .int .i64 bd, u] 32 (0, 0)) ∧ OwnRv (w.heap.size + 1) W u l ∧ (∀ k, RvBlk u l k → k ≠ R) ∧ AfterSrc g a len cap w W ∧ w.heap.size < R
section
variable {w W W' : World} {R g : Nat} {a : Option Addr} {len cap : Nat} {ar df bd : Int} {u u' : Value} {l l' : List Rv}
theorem PMid.src (h : PMid w R g a len cap ar df bd u l W) (hgl : g < w.heap.size) (ha : AfterSrc g a len cap W W') : PMid w R g a len cap ar df bd u l W' :=
  have hlt := h.2.2.2.2.2
  ⟨ha.row h.1 (by omega), ha.row h.2.1 (by omega), h.2.2.1.src ha (by omega), h.2.2.2.1, h.2.2.2.2.1.trans ha, hlt⟩
theorem PMid.s (h : PMid w R g a len cap ar df bd u l W) : Src W g a len cap := h.2.2.2.2.1.1
theorem PMid.drew (h : PMid w R g a len cap ar df bd u l W) (hgl : g < w.heap.size) : PMid w R g a len cap ar df bd u l W.drew := h.src hgl (AfterSrc.refl h.s).drew
theorem PMid.below (h : PMid w R g a len cap ar df bd u l W) (hgl : g < w.heap.size) (hb : Below W.heap.size W W') : PMid w R g a len cap ar df bd u l W' := h.src hgl (AfterSrc.of_below h.s hb)
theorem PMid.own (h : PMid w R g a len cap ar df bd u l W) : OwnRv (w.heap.size + 1) W u l := h.2.2.1
theorem PMid.cell (h : PMid w R g a len cap ar df bd u l W) : W.cell? ⟨R, 0, none⟩ = some (.int .i64 ar) ∧ W.cell? ⟨R, 1, none⟩ = some (.int .i64 df) ∧ W.cell? ⟨R, 2, none⟩ = some (.int .i64 bd) ∧ W.cell? ⟨R, 3, none⟩ = some u := by
  simp only [cell_of_row _ _ _ _ _ _ h.2.1]
  exact ⟨rfl, rfl, rfl, rfl⟩
theorem PMid.lt (h : PMid w R g a len cap ar df bd u l W) : R < W.heap.size := row_here h.2.1
theorem PMid.low (h : PMid w R g a len cap ar df bd u l W) : w.heap.size + 1 ≤ W.heap.size := by have := h.lt; have := h.2.2.2.2.2; omega
theorem PMid.at (h : PMid w R g a len cap ar df bd u l W) (hw : rlsWf (rls l)) : RvAt W W.heap.size u l :=
  h.own.at (fun x hx => (hw x.r (List.mem_map.2 ⟨x, hx, rfl⟩)).1) (fun x hx => (hw x.r (List.mem_map.2 ⟨x, hx, rfl⟩)).2)
theorem own_apart {base : Nat} {v0 : Value} (h : OwnRv base W u l) {p : Addr} (hp : ∀ k, RvBlk u l k → k ≠ p.block) : OwnRv base (W.setCell p v0) u l :=
  h.setOther (fun q hq => hp q (.inl hq)) (fun x hx q hq => hp q (.inr ⟨x.v, List.mem_map.2 ⟨x, hx, rfl⟩, hq⟩)) _
/-- The policy is another one that lies in later memory. -/
theorem PMid.other (h : PMid w R g a len cap ar df bd u l W) (hgl : g < w.heap.size) {base : Nat} (ho : OwnRv base W u' l') (hb : R < base) (hb' : w.heap.size + 1 ≤ base) :
    PMid w R g a len cap ar df bd u' l' (W.setCell ⟨R, 3, none⟩ u') :=
  have hlt := h.2.2.2.2.2
  have hne : ∀ k, RvBlk u' l' k → k ≠ R := fun k hk => by have := (ho.lt k hk).1; omega
  ⟨row_other h.1 _ _ (by omega), row_put h.2.1 3 _, own_apart (ho.base hb') hne, hne, h.2.2.2.2.1.put hgl (p := ⟨R, 3, none⟩) (show w.heap.size ≤ R by omega) _, hlt⟩
theorem PMid.put (h : PMid w R g a len cap ar df bd u l W) (hgl : g < w.heap.size) (i : Nat) (x ar' df' bd' : Int) (he : (#[.int .i64 ar, .int .i64 df, .int .i64 bd, u] : Array Value).setIfInBounds i (.int .i64 x) = #[.int .i64 ar', .int .i64 df', .int .i64 bd', u]) : PMid w R g a len cap ar' df' bd' u l (W.setCell ⟨R, i, none⟩ (.int .i64 x)) :=
  have hlt := h.2.2.2.2.2
  ⟨row_other h.1 _ _ (by omega), he ▸ row_put h.2.1 i _, own_apart h.own h.2.2.2.1, h.2.2.2.1, h.2.2.2.2.1.put hgl (p := ⟨R, i, none⟩) (show w.heap.size ≤ R by omega) _, hlt⟩
end
theorem rls_len {l : List Rv} {rs : List Rl} (h : rls l = rs) : l.length = rs.length := by rw [← h]; simp [rls]
theorem nil_apart (R : Nat) : ∀ k, RvBlk (.slice none 0 0) [] k → k ≠ R := fun k hk => by
  rcases hk with hk | ⟨u, hu, _⟩
  · simp [Value.ownBlock] at hk
  · simp at hu
def badList : List Int := [0, 1]
theorem bad_cell (i : Nat) (h : i < 2) : ∃ x : Int, (badList.map (Value.int .i64)).toArray[i]? = some (.int .i64 x) ∧ 0 ≤ x ∧ x ≤ 4294967295 := by
  rcases (by omega : i = 0 ∨ i = 1) with rfl | rfl
  all_goals exact ⟨_, rfl, by decide, by decide⟩
theorem polRight_nil {bd : Int} (h0 : 0 ≤ bd) (h1 : bd ≤ 4294967295) : polRight ⟨7, 2147418112, bd, []⟩ = true := by
  unfold polRight
  rw [isB_yes h0 h1]
  rfl
/-- A right policy was drawn. -/
def PolPost (g : Nat) (a : Option Addr) (len cap : Nat) (w : World) (e : Ending) (w' : World) : Prop :=
  ∃ (ar df bd : Int) (u : Value) (l : List Rv), e = .returned (polV ar df bd u) ∧ polRight ⟨ar, df, bd, rls l⟩ = true ∧ OwnRv w.heap.size w' u l ∧ AfterSrc g a len cap w w'

theorem five_put {W : World} {Y : Nat} {T : TypeId} {z0 z1 z2 z3 z4 v0 v1 v2 v3 v4 : Value} (h : W.heap[Y]? = some (.cells #[z0, z1, z2, z3, z4] T (0, 0))) : (((((W.setCell ⟨Y, 0, none⟩ v0).setCell ⟨Y, 1, none⟩ v1).setCell ⟨Y, 2, none⟩ v2).setCell ⟨Y, 3, none⟩ v3).setCell ⟨Y, 4, none⟩ v4).heap[Y]? = some (.cells #[v0, v1, v2, v3, v4] T (0, 0)) :=
  row_put (row_put (row_put (row_put (row_put h 0 v0) 1 v1) 2 v2) 3 v3) 4 v4
theorem own_five {W : World} {Y base : Nat} {u : Value} {l : List Rv} {v0 v1 v2 v3 v4 : Value} (h : OwnRv base W u l) (hY : ∀ k, RvBlk u l k → k ≠ Y) : OwnRv base (((((W.setCell ⟨Y, 0, none⟩ v0).setCell ⟨Y, 1, none⟩ v1).setCell ⟨Y, 2, none⟩ v2).setCell ⟨Y, 3, none⟩ v3).setCell ⟨Y, 4, none⟩ v4) u l :=
  own_apart (own_apart (own_apart (own_apart (own_apart h hY) hY) hY) hY) hY
theorem own_four {w W : World} {u : Value} {l : List Rv} {v0 v1 v2 v3 : Value} (h : OwnRv (w.heap.size + 1) W u l) : OwnRv (w.heap.size + 1) ((((W.setCell ⟨w.heap.size, 0, none⟩ v0).setCell ⟨w.heap.size, 1, none⟩ v1).setCell ⟨w.heap.size, 2, none⟩ v2).setCell ⟨w.heap.size, 3, none⟩ v3) u l :=
  have hne : ∀ k, RvBlk u l k → k ≠ w.heap.size := fun k hk => by have := (h.lt k hk).1; omega
  own_apart (own_apart (own_apart (own_apart h hne) hne) hne) hne
theorem PMid.putAt {w W : World} {R g Y : Nat} {a : Option Addr} {len cap : Nat} {ar df bd : Int} {u : Value} {l : List Rv} (h : PMid w R g a len cap ar df bd u l W) (hgl : g < w.heap.size) (hY : w.heap.size < Y) (hYR : Y ≠ R) (hYu : ∀ k, RvBlk u l k → k ≠ Y) (i : Nat) (v : Value) : PMid w R g a len cap ar df bd u l (W.setCell ⟨Y, i, none⟩ v) :=
  have hlt := h.2.2.2.2.2
  ⟨row_other h.1 _ _ (by omega), row_other h.2.1 _ _ (by omega), own_apart h.own hYu, h.2.2.2.1, h.2.2.2.2.1.put hgl (p := ⟨Y, i, none⟩) (show w.heap.size ≤ Y by omega) _, hlt⟩
theorem PMid.five {w W : World} {R g Y : Nat} {a : Option Addr} {len cap : Nat} {ar df bd : Int} {u : Value} {l : List Rv} {v0 v1 v2 v3 v4 : Value} (h : PMid w R g a len cap ar df bd u l W) (hgl : g < w.heap.size) (hY : w.heap.size < Y) (hYR : Y ≠ R) (hYu : ∀ k, RvBlk u l k → k ≠ Y) : PMid w R g a len cap ar df bd u l (((((W.setCell ⟨Y, 0, none⟩ v0).setCell ⟨Y, 1, none⟩ v1).setCell ⟨Y, 2, none⟩ v2).setCell ⟨Y, 3, none⟩ v3).setCell ⟨Y, 4, none⟩ v4) :=
  ((((h.putAt hgl hY hYR hYu 0 v0).putAt hgl hY hYR hYu 1 v1).putAt hgl hY hYR hYu 2 v2).putAt hgl hY hYR hYu 3 v3).putAt hgl hY hYR hYu 4 v4
/-- A rule more was tried: what came of it lies in y. -/
def AddAt (w : World) (R g : Nat) (a : Option Addr) (len cap : Nat) (bd : Int) (u : Value) (l : List Rv) (y : Value) (W : World) : Prop := ∃ (Y : Nat) (r : Rl) (u2 : Value) (l2 : List Rv) (base : Nat), y = .pointer (some ⟨Y, 0, none⟩) ∧
  W.heap[Y]? = some (.cells #[.int .i64 (polAdd ⟨7, 2147418112, bd, rls l⟩ r).1.ar, .int .i64 (polAdd ⟨7, 2147418112, bd, rls l⟩ r).1.df, .int .i64 (polAdd ⟨7, 2147418112, bd, rls l⟩ r).1.bd, u2, .int .i64 (polAdd ⟨7, 2147418112, bd, rls l⟩ r).2] 39 (0, 0)) ∧
  rls l2 = (polAdd ⟨7, 2147418112, bd, rls l⟩ r).1.rs ∧ OwnRv base W u2 l2 ∧ R < base ∧ w.heap.size + 1 ≤ base ∧ PMid w R g a len cap 7 2147418112 bd u l W

theorem addAt_new {w W : World} {R g : Nat} {a : Option Addr} {len cap : Nat} {bd : Int} {u u2 : Value} {l l2 : List Rv} {r : Rl} {base : Nat} (hm : PMid w R g a len cap 7 2147418112 bd u l W) (hgl : g < w.heap.size) (hl : rls l2 = (polAdd ⟨7, 2147418112, bd, rls l⟩ r).1.rs) (ho : OwnRv base W u2 l2) (hR : R < base) (hb : w.heap.size + 1 ≤ base) :
    AddAt w R g a len cap bd u l (.pointer (some ⟨W.heap.size, 0, none⟩)) (W.alloc (.cells #[.int .i64 (polAdd ⟨7, 2147418112, bd, rls l⟩ r).1.ar, .int .i64 (polAdd ⟨7, 2147418112, bd, rls l⟩ r).1.df, .int .i64 (polAdd ⟨7, 2147418112, bd, rls l⟩ r).1.bd, u2, .int .i64 (polAdd ⟨7, 2147418112, bd, rls l⟩ r).2] 39)) :=
  ⟨W.heap.size, r, u2, l2, base, rfl, heap_alloc_new W _, hl, ho.below ((Below.refl _ _).alloc (Nat.le_refl _) _), hR, hb, hm.below hgl ((Below.refl _ _).alloc (Nat.le_refl _) _)⟩
theorem addAt_put {w W : World} {R g : Nat} {a : Option Addr} {len cap : Nat} {bd : Int} {u u2 : Value} {l l2 : List Rv} {r : Rl} {base : Nat} {Y : Nat} {z0 z1 z2 z3 z4 : Value} (hrow : W.heap[Y]? = some (.cells #[z0, z1, z2, z3, z4] 39 (0, 0))) (hm : PMid w R g a len cap 7 2147418112 bd u l W) (hgl : g < w.heap.size) (hl : rls l2 = (polAdd ⟨7, 2147418112, bd, rls l⟩ r).1.rs) (ho : OwnRv base W u2 l2) (hR : R < base) (hb : w.heap.size + 1 ≤ base)
    (hY : w.heap.size < Y) (hYR : Y ≠ R) (hYb : Y < base) (hYu : ∀ k, RvBlk u l k → k < Y) :
    AddAt w R g a len cap bd u l (.pointer (some ⟨Y, 0, none⟩)) (((((W.setCell ⟨Y, 0, none⟩ (.int .i64 (polAdd ⟨7, 2147418112, bd, rls l⟩ r).1.ar)).setCell ⟨Y, 1, none⟩ (.int .i64 (polAdd ⟨7, 2147418112, bd, rls l⟩ r).1.df)).setCell ⟨Y, 2, none⟩ (.int .i64 (polAdd ⟨7, 2147418112, bd, rls l⟩ r).1.bd)).setCell ⟨Y, 3, none⟩ u2).setCell ⟨Y, 4, none⟩ (.int .i64 (polAdd ⟨7, 2147418112, bd, rls l⟩ r).2)) :=
  ⟨Y, r, u2, l2, base, rfl, five_put hrow, hl, own_five ho (fun k hk => by have := (ho.lt k hk).1; omega), hR, hb, hm.five hgl hY hYR (fun k hk => by have := hYu k hk; omega)⟩

set_option maxHeartbeats 6400000 in
theorem srcPolicyOf_any (g : Nat) (a : Option Addr) (len cap : Nat) (w : World) (hs : Src w g a len cap) :
    Calls Try.prog 99 #[.pointer (some ⟨g, 0, none⟩)] w (PolPost g a len cap w) := by
  have hgl := hs.lt
  have ha0 : AfterSrc g a len cap w ((w.alloc (.cells #[.int .i64 0, .int .i64 0, .int .i64 0, .slice none 0 0] 32)).alloc (.cells (badList.map (Value.int .i64)).toArray 2)) := (AfterSrc.of_below hs ((Below.refl _ _).alloc (Nat.le_refl _) _)).more _
  have HA0 := Lib.hid ha0
  have HC := Lib.hid (srcN_any g a len cap 2 _ ha0.1 (by omega) (by omega))
  clear ha0 hs
  go_enter Try.func99, Try.ntmps99
  go_wp2_with fail
  refine HC.out.mono ?_
  rintro e w1 ⟨v, rfl, hv0, hv1, _, hs1, hg1⟩
  obtain ⟨i, rfl⟩ := Int.eq_ofNat_of_zero_le hv0
  have hi : i < 2 := by have := hv1 (by omega); omega
  obtain ⟨bd, hx, hx0, hx1⟩ := bad_cell i hi
  have hrow := AfterSrc.row ⟨hs1, hg1⟩ (heap_alloc_new (w.alloc (.cells #[.int .i64 0, .int .i64 0, .int .i64 0, .slice none 0 0] 32)) (.cells (badList.map (Value.int .i64)).toArray 2)) (by simp; omega)
  have hc : w1.cell? ⟨w.heap.size + 1, i, none⟩ = some (.int .i64 bd) := by
    have e1 : w.heap.size + 1 = (w.alloc (.cells #[.int .i64 0, .int .i64 0, .int .i64 0, .slice none 0 0] 32)).heap.size := by simp
    rw [e1, cell_of_row _ _ _ _ _ _ hrow]; exact hx
  have hi' : (i : Int) < 2 := by omega
  have hr1 := AfterSrc.row ⟨hs1, hg1⟩ (row_alloc (heap_alloc_new w (.cells #[.int .i64 0, .int .i64 0, .int .i64 0, .slice none 0 0] 32)) (.cells (badList.map (Value.int .i64)).toArray 2)) (by omega)
  have HM1 : Hid (PMid w w1.heap.size g a len cap 7 2147418112 bd (.slice none 0 0) [] (w1.alloc (.cells #[.int .i64 7, .int .i64 2147418112, .int .i64 bd, .slice none 0 0] 32))) :=
    Lib.hid ⟨row_alloc hr1 _, heap_alloc_new w1 _, ⟨OwnL.nil _ _, Inner.nil _ _, fun x hx => by simp at hx⟩, nil_apart _, (HA0.out.trans ⟨hs1, hg1⟩).more _, row_here hr1⟩
  have HPR := Lib.hid (polRight_nil hx0 hx1)
  clear hrow hx hv1 hs1 hg1 HC hr1
  obtain ⟨at_, mix, size, ⟨hsrow, _, _, _, _, hz0, hz1⟩, _⟩ := HM1.out.s
  have hsz := row_cell hsrow 3
  simp only [List.getElem?_toArray, List.getElem?_cons_zero, List.getElem?_cons_succ] at hsz
  clear hsrow
  go_upto_region 2 with fail
  generalize w1.alloc (.cells #[.int .i64 7, .int .i64 2147418112, .int .i64 bd, .slice none 0 0] 32) = w2 at *
  go_wp2_with fail
  refine (srcN_any g a len cap (7 + size / 8) _ HM1.out.s (by omega) (by omega)).mono ?_
  rintro e w3 ⟨kv, rfl, kv0, hkv1, _, hs3, hg3⟩
  obtain ⟨k0, rfl⟩ := Int.eq_ofNat_of_zero_le kv0
  have kv1 : k0 < 8 := by have := hkv1 (by omega); omega
  have HM3 := Lib.hid (HM1.out.src hgl ⟨hs3, hg3⟩)
  clear hkv1 hs3 hg3 kv0 HM1 hsz hc
  go_wp2_with fail
  go_loopw [4] (fun i wr => ∃ (k : Nat) (u : Value) (l : List Rv), k ≤ 7 ∧ i = .int .i64 k ∧ polRight ⟨7, 2147418112, bd, rls l⟩ = true ∧ PMid w w1.heap.size g a len cap 7 2147418112 bd u l wr)
    (fun i _ => (intOf i).toNat)
  case atStart => exact ⟨k0, _, [], by omega, rfl, HPR.out, HM3.out⟩
  case round =>
    obtain ⟨k, u, l, hk, rfl, hpr, hm⟩ := hrel
    obtain ⟨ua, ucap, rfl⟩ := hm.own.slice
    have HM := Lib.hid hm
    have HP := Lib.hid hpr
    clear hm hpr
    by_cases hlt : 0 < k
    · have hd : decide ((0 : Int) < (k : Int)) = true := decide_eq_true (by omega)
      have HY0 := Lib.hid (HM.out.drew hgl)
      have HY0a := Lib.hid ((HM.out.below hgl ((Below.refl _ _).alloc (Nat.le_refl _) (.cells #[.int .i64 0, .int .i64 0, .int .i64 0, .slice none 0 0, .int .i64 0] 39))).drew hgl)
      have HYR0 : Hid ((wr.alloc (.cells #[.int .i64 0, .int .i64 0, .int .i64 0, .slice none 0 0, .int .i64 0] 39)).drew.heap[wr.heap.size]? = some (.cells #[.int .i64 0, .int .i64 0, .int .i64 0, .slice none 0 0, .int .i64 0] 39 (0, 0))) := Lib.hid (heap_alloc_new wr (.cells #[.int .i64 0, .int .i64 0, .int .i64 0, .slice none 0 0, .int .i64 0] 39))
      have HAT := Lib.hid (fun W (h : PMid w w1.heap.size g a len cap 7 2147418112 bd (.slice ua l.length ucap) l W) => h.at (polRight_wf HP.out))
      have cy0 := HM.out.cell
      have hltR := HM.out.lt
      have hwR := HM.out.2.2.2.2.2
      have HAP := Lib.hid (fun k (hk : RvBlk (.slice ua l.length ucap) l k) => (HM.out.own.lt k hk).2)
      go_upto_region 5 with fail
      go_cut [5] from 24 to 27 (fun y ws => AddAt w w1.heap.size g a len cap bd (.slice ua l.length ucap) l y ws)
      case first =>
        go_wp2_with fail
        go_region_law (first
          | (go_simp; (first | ((with_reducible refine (specPolicyAdd_any 7 2147418112 bd l nr ac cs _ _ _ (rv_al HRV.out _) (cq_al HCQ.out _)).mono ?_); rintro e y2 ⟨u2, l2, rfl, hl2, ho2, hb2⟩; have HY2 := Lib.hid ((HY1.out.below hgl ((Below.refl _ _).alloc (Nat.le_refl _) (.cells #[.int .i64 0, .int .i64 0, .int .i64 0, .slice none 0 0, .int .i64 0] 39))).below hgl hb2); have HYRb := Lib.hid (keep_row hb2 (heap_alloc_new y1 (.cells #[.int .i64 0, .int .i64 0, .int .i64 0, .slice none 0 0, .int .i64 0] 39))); have zc0 := row_cell HYRb.out 0; have zf0 := frozen_row HYRb.out 0; have zc1 := row_cell HYRb.out 1; have zf1 := frozen_row HYRb.out 1; have zc2 := row_cell HYRb.out 2; have zf2 := frozen_row HYRb.out 2; have zc3 := row_cell HYRb.out 3; have zf3 := frozen_row HYRb.out 3; have zc4 := row_cell HYRb.out 4; have zf4 := frozen_row HYRb.out 4; simp only [List.getElem?_toArray, List.getElem?_cons_zero, List.getElem?_cons_succ] at zc0 zc1 zc2 zc3 zc4; have hYlt : y1.heap.size < y2.heap.size := row_here HYRb.out; have HO2 := Lib.hid ho2; have HL2 := Lib.hid hl2; have hlt2 := HY2.out.lt; obtain ⟨ua2, ucap2, rfl⟩ := ho2.slice; clear hl2 ho2 hb2; dsimp only) | ((with_reducible refine (specPolicyAdd_any 7 2147418112 bd l nr ac cs _ _ _ HRV.out HCQ.out).mono ?_); rintro e y2 ⟨u2, l2, rfl, hl2, ho2, hb2⟩; have HYRa := Lib.hid (keep_row hb2 HYR1.out); have HY2 := Lib.hid (HY1.out.below hgl hb2); have zc0 := row_cell HYRa.out 0; have zf0 := frozen_row HYRa.out 0; have zc1 := row_cell HYRa.out 1; have zf1 := frozen_row HYRa.out 1; have zc2 := row_cell HYRa.out 2; have zf2 := frozen_row HYRa.out 2; have zc3 := row_cell HYRa.out 3; have zf3 := frozen_row HYRa.out 3; have zc4 := row_cell HYRa.out 4; have zf4 := frozen_row HYRa.out 4; simp only [List.getElem?_toArray, List.getElem?_cons_zero, List.getElem?_cons_succ] at zc0 zc1 zc2 zc3 zc4; have HO2 := Lib.hid ho2; have HL2 := Lib.hid hl2; have hlt2 := HY2.out.lt; obtain ⟨ua2, ucap2, rfl⟩ := ho2.slice; clear hl2 ho2 hb2; dsimp only) | ((with_reducible refine (specPolicyAdd_any 7 2147418112 bd l nr ac cs _ _ _ HRV.out HCQ.out).mono ?_); rintro e y2 ⟨u2, l2, rfl, hl2, ho2, hb2⟩; have HY2 := Lib.hid (HY1.out.below hgl hb2); have HO2 := Lib.hid ho2; have HL2 := Lib.hid hl2; have hlt2 := HY2.out.lt; obtain ⟨ua2, ucap2, rfl⟩ := ho2.slice; clear hl2 ho2 hb2; dsimp only)))
          | (go_simp; (first | ((with_reducible refine (srcRuleOf_any g a len cap _ HY0.out.s).mono ?_); rintro e y1 ⟨⟨nr, ac, cs⟩, ub, rfl, hrt, hcq, ha1⟩; have HY1 := Lib.hid (HY0.out.src hgl ha1); obtain ⟨uba, ubcap, rfl⟩ := OwnL.slice hcq; have cy1 := HY1.out.cell; have HRV := Lib.hid (HAT.out _ HY1.out); have HCQ := Lib.hid (OwnL.lAt cqS hcq (rlRight_all hrt).2.1 : CqAt y1 y1.heap.size _ cs); have hlt1 := HY1.out.lt; have hls1 : wr.heap.size ≤ y1.heap.size := (by have := ha1.2.size; simp at this; omega); clear hrt hcq ha1; dsimp only) | ((with_reducible refine (srcRuleOf_any g a len cap _ HY0a.out.s).mono ?_); rintro e y1 ⟨⟨nr, ac, cs⟩, ub, rfl, hrt, hcq, ha1⟩; have HY1 := Lib.hid (HY0a.out.src hgl ha1); have HYR1 := Lib.hid (ha1.row HYR0.out (by omega)); obtain ⟨uba, ubcap, rfl⟩ := OwnL.slice hcq; have cy1 := HY1.out.cell; have HRV := Lib.hid (HAT.out _ HY1.out); have HCQ := Lib.hid (OwnL.lAt cqS hcq (rlRight_all hrt).2.1 : CqAt y1 y1.heap.size _ cs); have hlt1 := HY1.out.lt; have hls1 : wr.heap.size ≤ y1.heap.size := (by have := ha1.2.size; simp at this; omega); clear hrt hcq ha1; dsimp only))))
        all_goals
          go_wp2_with fail
          go_meet
          first
          | (have hrow := HYRa.out; have ha := row_here HYR1.out; have hlw := HY1.out.low; (with_reducible refine addAt_put hrow HY2.out hgl HL2.out HO2.out ?_ ?_ ?_ ?_ ?_ HAP.out); all_goals omega)
          | (have hrow := HYRb.out; have hlw := HY1.out.low; (with_reducible refine addAt_put hrow HY2.out hgl HL2.out HO2.out ?_ ?_ ?_ ?_ ?_ (fun k hk => Nat.lt_of_lt_of_le (HAP.out k hk) hls1)); all_goals (first | omega | (simp; done) | (simp; omega)))
          | (have hlw := HY1.out.low; (with_reducible refine addAt_new HY2.out hgl HL2.out HO2.out ?_ ?_); all_goals omega)
      case rest =>
      clear HY0 HY0a HYR0 HAP cy0
      obtain ⟨Y, r, u2, l2, base, rfl, hrow, hl2, ho2, hR, hb, hm⟩ := hcut
      obtain ⟨u2a, u2cap, rfl⟩ := ho2.slice
      obtain ⟨pc, hpa⟩ : ∃ pc, pc = polAdd ⟨7, 2147418112, bd, rls l⟩ r := ⟨_, rfl⟩
      rw [← hpa] at hrow hl2
      obtain ⟨⟨ar', df', bd', rs'⟩, c⟩ := pc
      simp only at hrow hl2
      have y0 := row_cell hrow 0
      have y1 := row_cell hrow 1
      have y2 := row_cell hrow 2
      have y3 := row_cell hrow 3
      have y4 := row_cell hrow 4
      have r0 := row_cell hm.2.1 0
      have r1 := row_cell hm.2.1 1
      have r2 := row_cell hm.2.1 2
      have r3 := row_cell hm.2.1 3
      have f0 := frozen_row hm.2.1 0
      have f1 := frozen_row hm.2.1 1
      have f2 := frozen_row hm.2.1 2
      have f3 := frozen_row hm.2.1 3
      simp only [List.getElem?_toArray, List.getElem?_cons_zero, List.getElem?_cons_succ] at y0 y1 y2 y3 y4 r0 r1 r2 r3
      have HM2 := Lib.hid hm
      have HO2 := Lib.hid ho2
      have HL2 := Lib.hid hl2
      clear hrow hm ho2 hl2
      by_cases hc : c = 0
      · subst hc
        obtain ⟨_, _, hpr', hh⟩ := polAdd_ok hpa.symm
        have he : ar' = 7 ∧ df' = 2147418112 ∧ bd' = bd := by rcases hh with h | h <;> (injection h; exact ⟨by assumption, by assumption, by assumption⟩)
        obtain ⟨rfl, rfl, rfl⟩ := he
        have HPR2 := Lib.hid (show polRight ⟨7, 2147418112, bd', rls l2⟩ = true by rw [HL2.out]; exact hpr')
        clear hpr' hh hpa
        go_wp2_with fail
        go_roundw
        case rel => exact ⟨k - 1, _, l2, by omega, by rw [show ((k - 1 : Nat) : Int) = (k : Int) - 1 by omega], HPR2.out, (((HM2.out.put hgl 0 7 7 2147418112 bd' rfl).put hgl 1 2147418112 7 2147418112 bd' rfl).put hgl 2 bd' 7 2147418112 bd' rfl).other hgl (own_apart (own_apart (own_apart HO2.out (fun k hk => by have := (HO2.out.lt k hk).1; show k ≠ w1.heap.size; omega)) (fun k hk => by have := (HO2.out.lt k hk).1; show k ≠ w1.heap.size; omega)) (fun k hk => by have := (HO2.out.lt k hk).1; show k ≠ w1.heap.size; omega)) hR hb⟩
        case measure => simp [intOf]; omega
      · have hc' : (c == 0) = false := by simpa using hc
        clear hpa hc
        go_wp2_with fail
        go_roundw
        case rel => exact ⟨k - 1, _, l, by omega, by rw [show ((k - 1 : Nat) : Int) = (k : Int) - 1 by omega], HP.out, HM2.out⟩
        case measure => simp [intOf]; omega
    · have hd : decide ((0 : Int) < (k : Int)) = false := decide_eq_false (by omega)
      have c0 := row_cell HM.out.2.1 0
      have c1 := row_cell HM.out.2.1 1
      have c2 := row_cell HM.out.2.1 2
      have c3 := row_cell HM.out.2.1 3
      have d0 := row_cell HM.out.1 0
      have d1 := row_cell HM.out.1 1
      have d2 := row_cell HM.out.1 2
      have d3 := row_cell HM.out.1 3
      have f0 := frozen_row HM.out.1 0
      have f1 := frozen_row HM.out.1 1
      have f2 := frozen_row HM.out.1 2
      have f3 := frozen_row HM.out.1 3
      simp only [List.getElem?_toArray, List.getElem?_cons_zero, List.getElem?_cons_succ] at c0 c1 c2 c3 d0 d1 d2 d3
      go_wp2_with fail
      exact bodyPost_ret (v := .agg #[.int .i64 7, .int .i64 2147418112, .int .i64 bd, .slice ua l.length ucap]) (by simp [results, Try.results99, go_sem, d0, d1, d2, d3]) rfl
        ⟨7, 2147418112, bd, _, l, rfl, HP.out, (own_four HM.out.own).base (by omega),
          (((HM.out.2.2.2.2.1.put hgl (p := ⟨w.heap.size, 0, none⟩) (Nat.le_refl _) _).put hgl (p := ⟨w.heap.size, 1, none⟩) (Nat.le_refl _) _).put hgl (p := ⟨w.heap.size, 2, none⟩) (Nat.le_refl _) _).put hgl (p := ⟨w.heap.size, 3, none⟩) (Nat.le_refl _) _⟩

end Go.Proofs.Ytmnmaijifhojiaa

/- Drawn policies that may not be right, walked: l06Policies. -/
set_option maxRecDepth 100000
set_option linter.unusedSimpArgs false
set_option linter.unusedVariables false
namespace Go.Proofs.Ytmnmaijifhojiaa
open Go.RowKit
attribute [local go_sem ↓] Go.wp_at_zero Go.wp_at_succ

def RlsFine (l : List Rv) : Prop := ∀ x ∈ l, x.r.wf ∧ cqsWf x.r.cs ∧ x.r.cs.length ≤ 5
theorem RlsFine.snoc {l : List Rv} {x : Rv} (h : RlsFine l) (hx : x.r.wf ∧ cqsWf x.r.cs ∧ x.r.cs.length ≤ 5) : RlsFine (l ++ [x]) := fun y hy => by
  rcases List.mem_append.1 hy with h1 | h1
  · exact h y h1
  · rw [List.mem_singleton.1 h1]; exact hx
theorem RlsFine.rls {l : List Rv} (h : RlsFine l) : rlsWf (rls l) := fun r hr => by
  obtain ⟨x, hx, rfl⟩ := List.mem_map.1 hr
  exact ⟨(h x hx).1, (h x hx).2.1⟩
theorem RlsFine.of_right {ar df bd : Int} {l : List Rv} (h : polRight ⟨ar, df, bd, Go.Proofs.Ytmnmaijifhojiaa.rls l⟩ = true) : RlsFine l := fun x hx => by
  have h1 := rlRight_all ((polRight_rules h).2 x hx)
  exact ⟨h1.1, h1.2.1, by omega⟩
theorem polRight_int {ar df bd : Int} {rs : List Rl} (h : polRight ⟨ar, df, bd, rs⟩ = true) : In64 ar ∧ In64 df ∧ In64 bd := by
  unfold polRight isB at h
  simp only [Bool.and_eq_true, decide_eq_true_eq] at h
  unfold In64
  omega
theorem OwnRv.pushed' {base : Nat} {wr w2 w3 : World} {u v3 ub : Value} {l' : List Rv} {r : Rl} (h : OwnRv base wr u l') (h2 : OwnRv base w2 u l') (hu : CqOwn wr.heap.size w2 ub r.cs) (hB : base ≤ wr.heap.size)
    (ho : OwnL 35 3 rvCells base w3 v3 (l' ++ [⟨r, ub⟩])) (hg : GrB w2 w3 u v3) : OwnRv base w3 v3 (l' ++ [⟨r, ub⟩]) := by
  refine OwnRv.of_grown (w := w2) (v := u) (Inner.push h2.2.1 (OwnL.base hu hB) (fun y hy g hg1 e => ?_)) (fun x hx => ?_) ho hg
  · have h1 := (OwnL.lt (h.2.1.1 y hy) g hg1).2
    have h2 := (OwnL.lt hu g e).1
    omega
  · rcases List.mem_append.1 hx with h1 | h1
    · exact h.2.2 x h1
    · obtain rfl : x = ⟨r, ub⟩ := by simpa using h1
      intro g hg1 e
      have h1 := (OwnL.lt hu g hg1).1
      have h2 := (OwnL.lt h.1 g e).2
      omega
theorem PMid.grow {w W W' : World} {R g : Nat} {a : Option Addr} {len cap : Nat} {ar df bd : Int} {u u' ub : Value} {l : List Rv} {r : Rl} (h : PMid w R g a len cap ar df bd u l W) (hgl : g < w.heap.size) (hg : GrB W W' u u') (ho : OwnRv (w.heap.size + 1) W' u' (l ++ [⟨r, ub⟩])) (hub : ∀ k, ub.ownBlock = some k → R < k) :
    W'.heap[R]? = some (.cells #[.int .i64 ar, .int .i64 df, .int .i64 bd, u] 32 (0, 0)) ∧ PMid w R g a len cap ar df bd u' (l ++ [⟨r, ub⟩]) (W'.setCell ⟨R, 3, none⟩ u') := by
  have hlt := h.2.2.2.2.2
  have hR : u.ownBlock ≠ some R := fun e => h.2.2.2.1 R (.inl e) rfl
  have hH : u.ownBlock ≠ some w.heap.size := fun e => by have := (OwnL.lt h.own.1 _ e).1; omega
  have k1 := row_grown h.1 hg.1 hH
  have k2 := row_grown h.2.1 hg.1 hR
  have hne : ∀ k, RvBlk u' (l ++ [⟨r, ub⟩]) k → k ≠ R := fun k hk e => by
    subst e
    rcases hk with hk | ⟨v, hv, hk⟩
    · rcases hg.2 with h1 | h1
      · exact hR (h1.symm.trans hk)
      · have := h1 _ hk
        have := h.lt
        omega
    · rw [List.map_append, List.mem_append] at hv
      rcases hv with hv | hv
      · exact h.2.2.2.1 _ (.inr ⟨v, hv, hk⟩) rfl
      · obtain rfl : v = ub := by simpa using hv
        have := hub _ hk
        omega
  refine ⟨k2, row_other k1 _ _ (by omega), row_put k2 3 _, own_apart ho hne, hne, (h.2.2.2.2.1.growth hgl hg.1 fun k hk => by have := (OwnL.lt h.own.1 k hk).1; omega).put hgl (p := ⟨R, 3, none⟩) (show w.heap.size ≤ R by omega) _, hlt⟩
def dfList : List Int := [-1, 0, 9]
theorem df_cell (i : Nat) (h : i < 3) : ∃ x : Int, (dfList.map (Value.int .i64)).toArray[i]? = some (.int .i64 x) ∧ In64 x := by
  rcases (by omega : i = 0 ∨ i = 1 ∨ i = 2) with rfl | rfl | rfl
  all_goals exact ⟨_, rfl, by decide, by decide⟩
/-- A policy was drawn, right or not. -/
def PolsPost (g : Nat) (a : Option Addr) (len cap : Nat) (w : World) (e : Ending) (w' : World) : Prop :=
  ∃ (ar df bd : Int) (u : Value) (l : List Rv), e = .returned (polV ar df bd u) ∧ (In64 ar ∧ In64 df ∧ In64 bd) ∧ RlsFine l ∧ l.length ≤ 60 ∧ OwnRv w.heap.size w' u l ∧ AfterSrc g a len cap w w'
def PolsAt (w : World) (R : Nat) (g : Nat) (a : Option Addr) (len cap : Nat) (W : World) : Prop :=
  ∃ (ar df bd : Int) (u : Value) (l : List Rv), (In64 ar ∧ In64 df ∧ In64 bd) ∧ RlsFine l ∧ l.length ≤ 60 ∧ PMid w R g a len cap ar df bd u l W
theorem PolsAt.mk {w : World} {R : Nat} {g : Nat} {a : Option Addr} {len cap : Nat} {W : World} {ar df bd : Int} {u : Value} {l : List Rv} (h1 : In64 ar ∧ In64 df ∧ In64 bd) (h2 : RlsFine l) (h3 : l.length ≤ 60) (h4 : PMid w R g a len cap ar df bd u l W) : PolsAt w R g a len cap W := ⟨ar, df, bd, u, l, h1, h2, h3, h4⟩

set_option maxHeartbeats 6400000 in
theorem srcPolicies_any (g : Nat) (a : Option Addr) (len cap : Nat) (w : World) (hs : Src w g a len cap) :
    Calls Try.prog 66 #[.pointer (some ⟨g, 0, none⟩)] w (PolsPost g a len cap w) := by
  have hgl := hs.lt
  have ha0 : AfterSrc g a len cap w (w.alloc (.cells #[.int .i64 0, .int .i64 0, .int .i64 0, .slice none 0 0] 32)) := AfterSrc.of_below hs ((Below.refl _ _).alloc (Nat.le_refl _) _)
  have HA0 := Lib.hid ha0
  clear ha0 hs
  go_enter Try.func66, Try.ntmps66
  go_wp2_with fail
  refine (srcPolicyOf_any g a len cap _ HA0.out.1).mono ?_
  rintro e w1 ⟨ar, df, bd, u, l, rfl, hpr, hown, ha1⟩
  obtain ⟨ua, ucap, rfl⟩ := hown.slice
  have hl24 := (polRight_rules hpr).1
  have ha1' := (HA0.out.trans ha1).more (.cells #[.int .i64 ar, .int .i64 df, .int .i64 bd, .slice ua l.length ucap] 32)
  have hr1 := ha1.row (heap_alloc_new w _) (by omega)
  have hsz1 : w.heap.size + 1 = (w.alloc (.cells #[.int .i64 0, .int .i64 0, .int .i64 0, .slice none 0 0] 32)).heap.size := by simp
  have HM1 : Hid (PMid w w1.heap.size g a len cap ar df bd (.slice ua l.length ucap) l (w1.alloc (.cells #[.int .i64 ar, .int .i64 df, .int .i64 bd, .slice ua l.length ucap] 32))) :=
    Lib.hid ⟨row_alloc hr1 _, heap_alloc_new w1 _, (hown.base (by omega)).below ((Below.refl _ _).alloc (Nat.le_refl _) _), fun k hk => by have := (hown.lt k hk).2; omega, ha1', row_here hr1⟩
  have HI := Lib.hid (polRight_int hpr)
  have HF := Lib.hid (RlsFine.of_right hpr)
  clear ha1' hr1 hown ha1 hpr hsz1
  go_wp2_with fail
  refine (srcN_any g a len cap 12 _ HM1.out.s (by omega) (by omega)).mono ?_
  rintro e w2 ⟨v, rfl, hv0, hv1, _, hs2, hg2⟩
  have HM2 := Lib.hid (HM1.out.src hgl ⟨hs2, hg2⟩)
  clear hv1 hs2 hg2
  go_upto_block 0 with fail
  go_cut [] from 4 to 48 (fun ws => PolsAt w w1.heap.size g a len cap ws)
  case first =>
    have hlow := HM2.out.low
    by_cases h0 : v = 0
    · subst h0
      have HY0 := Lib.hid (HM2.out.drew hgl)
      have cy0 := HM2.out.cell.2.2.2
      have hlen6 : l.length ≤ 1000000000 := by omega
      go_wp2_with fail
      go_region_law (first
        | ((refine step_push_rv (by rfl) _ _ (by rfl) _ _ _ _ _ _ (w.heap.size + 1) (.slice ua l.length ucap) l (by rfl) HY1.out.own.1 (by rfl) hlen6 HY1.out.low ?_; intro v5 y5 hown5 hg5; obtain ⟨va, vcap, rfl⟩ := OwnL.slice hown5; have ho5 := OwnRv.pushed' HY0.out.own HY1.out.own HCQ.out HY0.out.low hown5 hg5; have hgr := HY1.out.grow hgl hg5 ho5 (fun k hk => by have := (OwnL.lt HCQ.out k hk).1; have := HY0.out.lt; omega); have c6 : y5.cell? ⟨w1.heap.size, 3, none⟩ = some (.slice ua l.length ucap) := (cell_of_row _ _ _ _ _ _ hgr.1).trans rfl; have f6 := frozen_row hgr.1 3; have hp := hgr.2; simp only [List.length_append, List.length_cons, List.length_nil, Nat.zero_add] at hp; have HP := Lib.hid hp; clear hp hgr hown5 hg5 ho5))
        | ((go_simp; (with_reducible refine (srcOddR_any g a len cap _ HY0.out.s).mono ?_); rintro e y1 ⟨⟨nr, ac, cs⟩, ub, rfl, hwf, hcw, hc5, hcq, ha1⟩; obtain ⟨uba, ubcap, rfl⟩ := OwnL.slice hcq; have HY1 := Lib.hid (HY0.out.src hgl ha1); have cy1 := HY1.out.cell.2.2.2; have hltY := HY1.out.lt; have HCQ := Lib.hid hcq; have HW := Lib.hid (HF.out.snoc (x := ⟨⟨nr, ac, cs⟩, .slice uba cs.length ubcap⟩) ⟨hwf, hcw, hc5⟩); clear hwf hcw hc5 hcq ha1; dsimp only)))
      all_goals
        clear cy1
        go_wp2_with fail
        go_meet
        exact PolsAt.mk HI.out HW.out (by simp; omega) HP.out
    have e0 : (v == 0) = false := by simpa using h0
    by_cases h1 : v = 1
    · subst h1
      have HC := Lib.hid (srcN_any g a len cap 3 (w2.alloc (.cells (dfList.map (Value.int .i64)).toArray 2)) (HM2.out.2.2.2.2.1.more _).1 (by omega) (by omega))
      go_wp2_with fail
      refine HC.out.mono ?_
      rintro e w4 ⟨v, rfl, hv0, hv1, _, hs4, hg4⟩
      obtain ⟨i, rfl⟩ := Int.eq_ofNat_of_zero_le hv0
      have hi : i < 3 := by have := hv1 (by omega); omega
      obtain ⟨x, hx, hx64⟩ := df_cell i hi
      have hrow := AfterSrc.row ⟨hs4, hg4⟩ (heap_alloc_new w2 (.cells (dfList.map (Value.int .i64)).toArray 2)) (by omega)
      have hc : w4.cell? ⟨w2.heap.size, i, none⟩ = some (.int .i64 x) := by rw [cell_of_row _ _ _ _ _ _ hrow]; exact hx
      have hi' : (i : Int) < 3 := by omega
      have hm4 := HM2.out.src hgl ((AfterSrc.of_below HM2.out.s ((Below.refl _ _).alloc (Nat.le_refl _) _)).trans ⟨hs4, hg4⟩)
      have HM4 := Lib.hid (hm4.put hgl 1 x ar x bd rfl)
      have f0 := frozen_row hm4.2.1 1
      have c0 := hm4.cell.2.1
      clear hrow hx hv1 hs4 hg4 HC hm4
      go_wp2_with fail
      go_meet
      exact PolsAt.mk ⟨HI.out.1, hx64, HI.out.2.2⟩ HF.out (by omega) HM4.out
    have e1 : (v == 1) = false := by simpa using h1
    by_cases h2 : v = 2
    · subst h2
      go_wp2_with fail
      go_loopw [4] (fun i wr => ∃ (k : Nat) (u : Value) (l : List Rv), k ≤ 25 ∧ i = .int .i64 k ∧ l.length ≤ 24 + k ∧ RlsFine l ∧ PMid w w1.heap.size g a len cap ar df bd u l wr)
        (fun i _ => 25 - (intOf i).toNat)
      case atStart => exact ⟨0, _, l, by omega, rfl, by omega, HF.out, HM2.out⟩
      case round =>
        obtain ⟨k, u, l, hk, rfl, hlk, hf, hm⟩ := hrel
        obtain ⟨ua, ucap, rfl⟩ := hm.own.slice
        have HM := Lib.hid hm
        have HFk := Lib.hid hf
        clear hm hf HM1 HM2
        go_wp2_with fail
        refine (srcN_any g a len cap 4 _ HM.out.s (by omega) (by omega)).mono ?_
        rintro e w4 ⟨v4, rfl, hv40, hv41, _, hs4, hg4⟩
        have hv44 : v4 < 4 := hv41 (by omega)
        have HM4 := Lib.hid (HM.out.src hgl ⟨hs4, hg4⟩)
        clear hv41 hs4 hg4 HM
        by_cases hlt : (k : Int) < 22 + v4
        · have hd : decide ((k : Int) < 22 + v4) = true := decide_eq_true hlt
          have c3 := HM4.out.cell.2.2.2
          have hltY := HM4.out.lt
          obtain ⟨v5, y5, hrun, hown5, hg5⟩ := run_push_rv w4 (100 + (k : Int)) 0 [] none 0 30 (w.heap.size + 1) (.slice ua l.length ucap) l HM4.out.own.1 (by omega) HM4.out.low
          obtain ⟨va, vcap, rfl⟩ := OwnL.slice hown5
          have ho5 := OwnRv.pushed' HM4.out.own HM4.out.own (OwnL.nil _ _) HM4.out.low hown5 hg5
          have hgr := HM4.out.grow hgl hg5 ho5 (fun k hk => by simp [Value.ownBlock] at hk)
          have c6 : y5.cell? ⟨w1.heap.size, 3, none⟩ = some (.slice ua l.length ucap) := (cell_of_row _ _ _ _ _ _ hgr.1).trans rfl
          have f6 := frozen_row hgr.1 3
          have hp := hgr.2
          simp only [List.length_append, List.length_cons, List.length_nil, Nat.zero_add] at hp
          have HP := Lib.hid hp
          have HW := Lib.hid (HFk.out.snoc (x := ⟨⟨100 + (k : Int), 0, []⟩, .slice none 0 0⟩) ⟨by unfold Rl.wf In64; show (_ ≤ 100 + (k : Int) ∧ 100 + (k : Int) ≤ _) ∧ (_ ≤ (0 : Int) ∧ (0 : Int) ≤ _); omega, fun c hc => by simp at hc, by simp⟩)
          have HRUN := Lib.hid hrun
          clear hp hgr hown5 hg5 ho5 hrun
          go_wp2_with (refine wpList_append_run rfl _ _ rfl (by rfl) (by rfl) HRUN.out ?_)
          go_roundw
          case rel => exact ⟨k + 1, _, _, by omega, by go_num, by simp; omega, HW.out, HP.out⟩
          case measure => simp [intOf]; omega
        · have hd : decide ((k : Int) < 22 + v4) = false := decide_eq_false hlt
          go_wp2_with fail
          go_meet
          exact PolsAt.mk HI.out HFk.out (by omega) HM4.out
    have e2 : (v == 2) = false := by simpa using h2
    by_cases h3 : v = 3
    · subst h3
      go_wp2_with fail
      refine (srcN_any g a len cap 2 _ HM2.out.s (by omega) (by omega)).mono ?_
      rintro e w4 ⟨v, rfl, hv0, hv1, _, hs4, hg4⟩
      have hv2 : v < 2 := hv1 (by omega)
      have hm4 := HM2.out.src hgl ⟨hs4, hg4⟩
      have HM4 := Lib.hid (hm4.put hgl 2 (4294967295 + v) ar df (4294967295 + v) rfl)
      have f0 := frozen_row hm4.2.1 2
      have c0 := hm4.cell.2.2.1
      have HI4 := Lib.hid (show In64 ar ∧ In64 df ∧ In64 (4294967295 + v) from ⟨HI.out.1, HI.out.2.1, by unfold In64; omega⟩)
      clear hv1 hs4 hg4 hm4
      go_wp2_with fail
      go_meet
      exact PolsAt.mk HI4.out HF.out (by omega) HM4.out
    · have e3 : (v == 3) = false := by simpa using h3
      go_wp2_with fail
      go_meet
      exact PolsAt.mk HI.out HF.out (by omega) HM2.out
  case rest =>
  obtain ⟨ar', df', bd', u', l', h1, h2, h3, hm⟩ := hcut
  obtain ⟨ua', ucap', rfl⟩ := hm.own.slice
  have HM := Lib.hid hm
  have H2 := Lib.hid h2
  clear hm h2 HM1 HM2
  have c0 := row_cell HM.out.2.1 0
  have c1 := row_cell HM.out.2.1 1
  have c2 := row_cell HM.out.2.1 2
  have c3 := row_cell HM.out.2.1 3
  have d0 := row_cell HM.out.1 0
  have f0 := frozen_row HM.out.1 0
  have d1 := row_cell HM.out.1 1
  have f1 := frozen_row HM.out.1 1
  have d2 := row_cell HM.out.1 2
  have f2 := frozen_row HM.out.1 2
  have d3 := row_cell HM.out.1 3
  have f3 := frozen_row HM.out.1 3
  simp only [List.getElem?_toArray, List.getElem?_cons_zero, List.getElem?_cons_succ] at c0 c1 c2 c3 d0 d1 d2 d3
  go_wp2_with fail
  exact bodyPost_ret (v := .agg #[.int .i64 ar', .int .i64 df', .int .i64 bd', .slice ua' l'.length ucap']) (by simp [results, Try.results66, go_sem, d0, d1, d2, d3]) rfl
    ⟨ar', df', bd', _, l', rfl, h1, H2.out, h3, (own_four HM.out.own).base (by omega),
      (((HM.out.2.2.2.2.1.put hgl (p := ⟨w.heap.size, 0, none⟩) (Nat.le_refl _) _).put hgl (p := ⟨w.heap.size, 1, none⟩) (Nat.le_refl _) _).put hgl (p := ⟨w.heap.size, 2, none⟩) (Nat.le_refl _) _).put hgl (p := ⟨w.heap.size, 3, none⟩) (Nat.le_refl _) _⟩

end Go.Proofs.Ytmnmaijifhojiaa


/-
  FnExactRecordRead: for every input that the row speaks of, the law returns true, and its arguments read afterwards as before. No further conditions.
-/
import Derived.Test.YtgcfnmaojdnchaaRows
import Derived.Test.YtgcfnmaojdnchaaIv
import Derived.Test.YtgcfnmaojdnchaaRh
import Derived.Test.YtgcfnmaojdnchaaRo
import Derived.Test.YtgcfnmaojdnchaaRr
import Derived.WalkKit
import Derived.ProofKit
import Derived.OpenShut
import Derived.ShutString
import Derived.ChangeOld
import Derived.Below
namespace Go.Proofs.Ytgcfnmaojdnchaa.fnExactRecordRead
open Go.ChangeShapes Go.WideShapes Go.ChangeAt Go.RowKit
open Go.ChangeMaps (open_string shut_string)
set_option linter.unusedVariables false

theorem own : ownKnob Try.prog.godebug = none := by kernel_rfl
theorem laidOut : laidOutB Try.prog = true := by kernel_rfl

theorem walk (a0 : Value) (w : World) (w0 : IsStr w a0) :
    Calls Try.prog 9 #[a0] w fun e w' => e = .returned (.bool true) ∧ Below w.heap.size w w' := by
  obtain ⟨s, rfl, hs⟩ := w0
  unfold maxLen at hs
  by_cases hb : 1048576 < s.size
  · go_enter Try.func9, Try.ntmps9
    go_wp2
    go_ret
    exact ⟨rfl, Below.refl _ _⟩
  have hwf := Lib.hid (rcRead_wf s)
  have hlen : (rcRead s).args.length ≤ 6 := rcRead_len s
  have q1 := fun W => specRecordRead_any s W (by unfold maxLen; omega)
  have q2 := fun W => implRecordRead_any s W (by unfold maxLen; omega)
  have qe := fun v1 v2 W h1 h2 => eqRecordOut_same (rcRead s) v1 v2 (rcReadC s) W h1 h2
  have qm := fun base v W h => markRecordOut_any base (rcRead s) v (rcReadC s) 1 W h (by omega) (by omega) (by omega)
  have qh := fun v n W h hn => heldRecordOut_any (rcRead s) v n (rcReadC s) 1 W h hn (by omega) (by omega)
  generalize rcRead s = r at *
  generalize rcReadC s = c at *
  obtain ⟨nr, ar, ⟨ih, il⟩, l⟩ := r
  simp only at q1 q2 qe qm qh hwf hlen
  have Q1 := Lib.hid q1
  have Q2 := Lib.hid q2
  have QE := Lib.hid qe
  have QM := Lib.hid qm
  have QH := Lib.hid qh
  clear q1 q2 qe qm qh
  have hq : ((1 + 2 * (l.length : Int)) != (1 + 2 * (l.length : Int))) = false := by simp
  have hq0 : decide (1 + 2 * (l.length : Int) < 0) = false := by simp; omega
  go_enter Try.func9, Try.ntmps9
  go_wp2_with fail
  refine (Q1.out _).mono ?_
  rintro e w1 ⟨u1, rfl, ho1, hb1⟩
  obtain ⟨a1, cap1, rfl⟩ := OwnL.slice ho1
  have HB1 := Lib.hid hb1
  have HI1 := Lib.hid (OwnL.lAt wdS ho1 hwf.out)
  clear ho1 hb1
  go_wp2_with fail
  refine (Q2.out _).mono ?_
  rintro e w2 ⟨u2, rfl, ho2, hb2⟩
  obtain ⟨a2, cap2, rfl⟩ := OwnL.slice ho2
  have HP2 := Lib.hid (below_row hb2 (heap_alloc_new w1 (.cells #[.int .i64 nr, .int .i64 ar, .int .i64 ih, .int .i64 il, .slice a1 l.length cap1, .int .i64 c] 32)))
  have HO2 := Lib.hid (OwnL.base ho2 (b' := w1.heap.size + 1) (by simp))
  have HI2 := Lib.hid (OwnL.lAt wdS ho2 hwf.out)
  have HB2 := Lib.hid (HB1.out.trans ((box_below hb2).mono HB1.out.size))
  have HJ2 := Lib.hid (LAt.below HI1.out (box_below hb2))
  have HS2 := Lib.hid (show w1.heap.size + 1 ≤ w2.heap.size by have := hb2.size; simpa using this)
  clear ho2 hb2
  have c0 := row_cell HP2.out 0
  have c1 := row_cell HP2.out 1
  have c2 := row_cell HP2.out 2
  have c3 := row_cell HP2.out 3
  have c4 := row_cell HP2.out 4
  have c5 := row_cell HP2.out 5
  simp only [List.getElem?_toArray, List.getElem?_cons_zero, List.getElem?_cons_succ] at c0 c1 c2 c3 c4 c5
  have hzc := row_here HP2.out
  go_wp2_with fail
  clear c0 c1 c2 c3 c4 c5 hzc
  have hal := (Below.refl w2.heap.size w2).alloc (Nat.le_refl _) (.cells #[.int .i64 nr, .int .i64 ar, .int .i64 ih, .int .i64 il, .slice a2 l.length cap2, .int .i64 c] 32)
  refine (QE.out _ _ _ (LAt.up (LAt.below HI2.out hal) hal.size) (LAt.up (LAt.below HJ2.out (hal.mono (by have := HS2.out; omega))) (by have := HS2.out; have := hal.size; omega))).mono ?_
  rintro e w3 ⟨rfl, hb3⟩
  have HP3 := Lib.hid (below_row hb3 (row_alloc HP2.out _))
  have HR3 := Lib.hid (below_row hb3 (heap_alloc_new w2 (.cells #[.int .i64 nr, .int .i64 ar, .int .i64 ih, .int .i64 il, .slice a2 l.length cap2, .int .i64 c] 32)))
  have HO3 := Lib.hid (OwnL.below (OwnL.below HO2.out hal) hb3)
  have hbx : Below w2.heap.size w2 w3 := box_below hb3
  have HB3 := Lib.hid (HB2.out.trans (hbx.mono HB2.out.size))
  have HJ3 := Lib.hid (LAt.below HJ2.out (hbx.mono (by have := HS2.out; omega)))
  have HS3 := Lib.hid (show w1.heap.size + 1 ≤ w3.heap.size from Nat.le_trans HS2.out hbx.size)
  have HL2 := Lib.hid (OwnL.lt HO2.out)
  clear hb3 hbx hal
  have d0 := row_cell HR3.out 0
  have d1 := row_cell HR3.out 1
  have d2 := row_cell HR3.out 2
  have d3 := row_cell HR3.out 3
  have d4 := row_cell HR3.out 4
  have d5 := row_cell HR3.out 5
  simp only [List.getElem?_toArray, List.getElem?_cons_zero, List.getElem?_cons_succ] at d0 d1 d2 d3 d4 d5
  have hzd := row_here HR3.out
  go_wp2_with fail
  clear d0 d1 d2 d3 d4 d5 hzd
  refine (QM.out _ _ _ HO3.out).mono ?_
  rintro e w4 ⟨rfl, ho4, hg4⟩
  have hb4 : Below (w1.heap.size + 1) w3 w4 := (Below.refl _ _).grown hg4 HS3.out (fun k hk => (OwnL.lt HO3.out k hk).1)
  have HP4 := Lib.hid (row_grown HP3.out hg4 (fun e => by have := (HL2.out _ e).1; omega))
  have HR4 := Lib.hid (row_grown HR3.out hg4 (fun e => by have := (HL2.out _ e).2; omega))
  have HI4 := Lib.hid (OwnL.lAt wdS ho4 (markWdL_wf (k := 1) (n := l.length) (by omega) (by omega) (by omega)))
  have HB4 := Lib.hid (HB3.out.trans (hb4.mono (by have := HB1.out.size; omega)))
  have HJ4 := Lib.hid (LAt.below HJ3.out (hb4.mono (by omega)))
  have HS4 := Lib.hid (Nat.le_trans HS3.out hb4.size)
  clear ho4 hg4 hb4
  have d0 := row_cell HR4.out 0
  have d1 := row_cell HR4.out 1
  have d2 := row_cell HR4.out 2
  have d3 := row_cell HR4.out 3
  have d4 := row_cell HR4.out 4
  have d5 := row_cell HR4.out 5
  simp only [List.getElem?_toArray, List.getElem?_cons_zero, List.getElem?_cons_succ] at d0 d1 d2 d3 d4 d5
  have hzd := row_here HR4.out
  go_wp2_with fail
  clear d0 d1 d2 d3 d4 d5 hzd
  refine (QH.out _ _ _ HI4.out (by omega)).mono ?_
  rintro e w5 ⟨rfl, hb5⟩
  have HI5 := Lib.hid (LAt.up (LAt.below HI4.out hb5) hb5.size)
  have HP5 := Lib.hid (below_row hb5 HP4.out)
  have HR5 := Lib.hid (below_row hb5 HR4.out)
  have HB5 := Lib.hid (HB4.out.trans (hb5.mono HB4.out.size))
  have HJ5 := Lib.hid (LAt.below HJ4.out (hb5.mono (by have := HS4.out; omega)))
  have HS5 := Lib.hid (Nat.le_trans HS4.out hb5.size)
  clear hb5
  go_wp2_with fail
  refine (Q2.out _).mono ?_
  rintro e w6 ⟨u6, rfl, ho6, hb6⟩
  obtain ⟨a6, cap6, rfl⟩ := OwnL.slice ho6
  have HI6 := Lib.hid (OwnL.lAt wdS ho6 hwf.out)
  have HP6 := Lib.hid (below_row hb6 HP5.out)
  have HR6 := Lib.hid (below_row hb6 HR5.out)
  have HB6 := Lib.hid (HB5.out.trans (hb6.mono HB5.out.size))
  have HJ6 := Lib.hid (LAt.below HJ5.out (hb6.mono (by have := HS5.out; omega)))
  have HK6 := Lib.hid (LAt.up (LAt.below HI5.out hb6) hb6.size)
  have HS6 := Lib.hid (Nat.le_trans HS5.out hb6.size)
  clear ho6 hb6
  have c0 := row_cell HP6.out 0
  have c1 := row_cell HP6.out 1
  have c2 := row_cell HP6.out 2
  have c3 := row_cell HP6.out 3
  have c4 := row_cell HP6.out 4
  have c5 := row_cell HP6.out 5
  simp only [List.getElem?_toArray, List.getElem?_cons_zero, List.getElem?_cons_succ] at c0 c1 c2 c3 c4 c5
  have hzc := row_here HP6.out
  go_wp2_with fail
  clear c0 c1 c2 c3 c4 c5 hzc
  have hal := (Below.refl w6.heap.size w6).alloc (Nat.le_refl _) (.cells #[.int .i64 nr, .int .i64 ar, .int .i64 ih, .int .i64 il, .slice a6 l.length cap6, .int .i64 c] 32)
  refine (QE.out _ _ _ (LAt.up (LAt.below HI6.out hal) hal.size) (LAt.up (LAt.below HJ6.out (hal.mono (by have := HS6.out; omega))) (by have := HS6.out; have := hal.size; omega))).mono ?_
  rintro e w7 ⟨rfl, hb7⟩
  have hbx : Below w6.heap.size w6 w7 := box_below hb7
  have HR7 := Lib.hid (below_row hbx HR6.out)
  have HB7 := Lib.hid (HB6.out.trans (hbx.mono HB6.out.size))
  have HK7 := Lib.hid (LAt.up (LAt.below HK6.out hbx) hbx.size)
  clear hb7 hbx hal
  have d0 := row_cell HR7.out 0
  have d1 := row_cell HR7.out 1
  have d2 := row_cell HR7.out 2
  have d3 := row_cell HR7.out 3
  have d4 := row_cell HR7.out 4
  have d5 := row_cell HR7.out 5
  simp only [List.getElem?_toArray, List.getElem?_cons_zero, List.getElem?_cons_succ] at d0 d1 d2 d3 d4 d5
  have hzd := row_here HR7.out
  go_wp2_with fail
  clear d0 d1 d2 d3 d4 d5 hzd
  refine (QH.out _ _ _ HK7.out (by omega)).mono ?_
  rintro e w8 ⟨rfl, hb8⟩
  have HB8 := Lib.hid (HB7.out.trans (hb8.mono HB7.out.size))
  clear hb8
  go_wp2_with fail
  go_ret
  exact ⟨rfl, HB8.out⟩

set_option maxRecDepth 100000 in
theorem lifted (os : Os) (started : os.Started) (H : Type) (enc : TypeId × Value → H) :
    ReturnsInHanded {} Try.checked os 9 .any (Rows.fnExactRecordReadSpec.pre6 enc Try.prog Try.f9 Rows.fnExactRecordReadRow.domain false) (Rows.fnExactRecordReadSpec.post enc Try.prog Try.f9 false true false false) := by
  refine returnsInHanded_of_change (C := Try.checked) own started (by kernel_rfl) Try.func9
    (ChangeSpec.witness6 (enc := enc) (C := Try.checked) false ⟨#[], #[.string ByteArray.empty], []⟩ 8 (by kernel_rfl) (by kernel_rfl) (by kernel_rfl) (by kernel_rfl)) ?_
  intro W base args ds gs before hval0 hW hcnd _
  have hval : ∀ (j : Nat) t v, Try.f9.params[j]? = some t → args[j]? = some v → Value.okWide Try.prog W .any base t v := hval0
  have hW' := hW
  obtain ⟨p, q, hA0, hV, rfl, hfz, hnd⟩ := hW
  have hA : DataW.TrodAll enc Try.prog W 0 (fun _ => true) true Try.f9.params.toList args.toList ds p := hA0
  rw [Try.params9] at hA hval
  obtain ⟨v0, vs0, d0, ds0, p0, q0, hargs, rfl, rfl, h0, r0⟩ := trodAll_cons hA
  obtain ⟨rfl, rfl, rfl⟩ := trodAll_nil r0
  obtain rfl : args = #[v0] := by cases args; simp_all
  obtain ⟨rfl, rfl⟩ := trodVars_none hV
  have lt0 : ∀ x ∈ p0, x.block < W.heap.size := by obtain ⟨m, hm⟩ := h0; exact DataW.trod_lt m _ _ _ hm
  have w0 := open_isStr (hval 0 9 v0 rfl rfl) h0
  clear hA0 hval0
  refine (walk v0 W w0).mono fun e W' ⟨he, bel⟩ => ?_
  subst he
  exact ⟨_, rfl, _, _, _, [], _, [], hW', trodAll_mk1 (shut_bool Try.underlying4 _), (trodAll_cons_mk (Below.trod laidOut (by kernel_rfl) (of_decide_eq_true (by kernel_rfl)) h0 bel lt0) trodAll_mk0), rfl, bel.frame _, fun h => by cases h⟩

theorem over : Rows.fnExactRecordReadRow.holds Try.pinned (OpenSpec.ofChange Rows.fnExactRecordReadSpec) :=
  OpenClaim.holds_of_wide 9 Try.f9 rfl rfl rfl rfl rfl rfl rfl ⟨rfl, rfl, rfl, rfl, rfl⟩ rfl rfl rfl rfl rfl (by kernel_rfl) Try.func9 (by kernel_rfl)
    (of_decide_eq_true (by kernel_rfl)) (by unfold Func.isWrapper; first | (rw [if_pos (by decide +kernel)]; kernel_rfl) | (rw [if_neg (by decide +kernel)]; exact ⟨rfl, rfl⟩))
    (fun os started H enc _ => lifted os started H enc)

theorem proved : Rows.FnExactRecordReadSaid := over
#print axioms proved
end Go.Proofs.Ytgcfnmaojdnchaa.fnExactRecordRead

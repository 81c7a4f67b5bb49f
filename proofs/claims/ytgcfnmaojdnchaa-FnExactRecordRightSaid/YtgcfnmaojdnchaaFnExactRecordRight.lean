/-
  FnExactRecordRight: for every input that the row speaks of, the law returns true, and its arguments read afterwards as before. No further conditions.
-/
import Derived.Test.YtgcfnmaojdnchaaRows
import Derived.Test.YtgcfnmaojdnchaaIs
import Derived.Test.YtgcfnmaojdnchaaRh
import Derived.Test.YtgcfnmaojdnchaaRo
import Derived.Test.YtgcfnmaojdnchaaRb
import Derived.WalkKit
import Derived.ProofKit
import Derived.OpenShut
import Derived.ShutString
import Derived.ChangeOld
import Derived.Below
namespace Go.Proofs.Ytgcfnmaojdnchaa.fnExactRecordRight
open Go.ChangeShapes Go.WideShapes Go.ChangeAt Go.RowKit
open Go.ChangeMaps (open_string shut_string)
set_option linter.unusedVariables false

theorem own : ownKnob Try.prog.godebug = none := by kernel_rfl
theorem laidOut : laidOutB Try.prog = true := by kernel_rfl

theorem walk (a0 : Value) (w : World) (w0 : IsRecord w a0) :
    Calls Try.prog 7 #[a0] w fun e w' => e = .returned (.bool true) ∧ Below w.heap.size w w' := by
  obtain ⟨r, u, rfl, hu, hr⟩ := w0
  obtain ⟨a, cap, rfl, hlc, hcm⟩ := hu.len
  unfold maxLen at hcm
  by_cases hlen : 1048576 < r.args.length
  · have hsz := fun W => szRecord_any r a r.args.length cap 1048576 W (by omega) (by omega) (by omega)
    simp only [if_pos (show (1048576 : Int) - (r.args.length : Int) < 0 by omega)] at hsz
    obtain ⟨nr, ar, ⟨ih, il⟩, args⟩ := r
    simp only at hsz hlen hlc ⊢
    have HZ := Lib.hid hsz
    clear hsz hu hr
    go_enter Try.func7, Try.ntmps7
    go_wp2_with fail
    refine (HZ.out _).mono ?_
    rintro e w1 ⟨rfl, hb1⟩
    have HB := Lib.hid (box_below hb1)
    clear hb1
    go_wp2_with fail
    go_ret
    exact ⟨rfl, HB.out⟩
  have hsz := fun W => szRecord_any r a r.args.length cap 1048576 W (by omega) (by omega) (by omega)
  simp only [if_neg (show ¬ (1048576 : Int) - (r.args.length : Int) < 0 by omega)] at hsz
  have qt := fun W (h : Below w.heap.size w W) => toRecord_any r _ W (LAt.up (LAt.below hu h) h.size) (by omega)
  have qs := fun u' W (h : WdAt W W.heap.size u' r.args) => specRecordRight_any r u' W h
  have qi := fun u' W (h : WdAt W W.heap.size u' r.args) => implRecordRight_any r u' W h
  have qe := fun u1 u2 W (h1 : WdAt W W.heap.size u1 r.args) (h2 : WdAt W W.heap.size u2 r.args) => eqRecord_same r u1 u2 W h1 h2
  have hwf : Hid (∀ x ∈ r.args, x.wf) := hu.2.2
  have hq : (rcRight r != rcRight r) = false := by simp
  generalize rcRight r = res at *
  obtain ⟨nr, ar, ⟨ih, il⟩, args⟩ := r
  simp only at hsz qt qs qi qe hwf hlen hlc ⊢
  have HZ := Lib.hid hsz
  have QT := Lib.hid qt
  have QS := Lib.hid qs
  have QI := Lib.hid qi
  have QE := Lib.hid qe
  clear hsz qt qs qi qe hu hr
  have hd0 : decide ((1048576 : Int) - (args.length : Int) < 0) = false := by simp; omega
  go_enter Try.func7, Try.ntmps7
  go_wp2_with fail
  refine (HZ.out _).mono ?_
  rintro e w1 ⟨rfl, hb1⟩
  have HB1 := Lib.hid hb1
  clear hb1
  have c0 := box_cell HB1.out 0
  have c1 := box_cell HB1.out 1
  have c2 := box_cell HB1.out 2
  have c3 := box_cell HB1.out 3
  have c4 := box_cell HB1.out 4
  simp only [List.getElem?_toArray, List.getElem?_cons_zero, List.getElem?_cons_succ] at c0 c1 c2 c3 c4
  go_wp2_with fail
  clear c0 c1 c2 c3 c4
  refine (QT.out _ (box_below HB1.out)).mono ?_
  rintro e w2 ⟨u2, rfl, ho2, hb2⟩
  obtain ⟨a2, cap2, rfl⟩ := OwnL.slice ho2
  have HI2 := Lib.hid (OwnL.lAt wdS ho2 hwf.out)
  have HB2 := Lib.hid (HB1.out.trans (hb2.mono HB1.out.size))
  clear ho2 hb2
  go_wp2_with fail
  refine (QS.out _ _ HI2.out).mono ?_
  rintro e w3 ⟨rfl, hb3⟩
  have HB3 := Lib.hid (HB2.out.trans (hb3.mono HB2.out.size))
  clear hb3
  have c0 := box_cell HB3.out 0
  have c1 := box_cell HB3.out 1
  have c2 := box_cell HB3.out 2
  have c3 := box_cell HB3.out 3
  have c4 := box_cell HB3.out 4
  simp only [List.getElem?_toArray, List.getElem?_cons_zero, List.getElem?_cons_succ] at c0 c1 c2 c3 c4
  go_wp2_with fail
  clear c0 c1 c2 c3 c4
  refine (QT.out _ (box_below HB3.out)).mono ?_
  rintro e w4 ⟨u4, rfl, ho4, hb4⟩
  obtain ⟨a4, cap4, rfl⟩ := OwnL.slice ho4
  have HI4 := Lib.hid (OwnL.lAt wdS ho4 hwf.out)
  have HB4 := Lib.hid (HB3.out.trans (hb4.mono HB3.out.size))
  clear ho4 hb4
  go_wp2_with fail
  have hal := (Below.refl w4.heap.size w4).alloc (Nat.le_refl _) (.cells #[.int .i64 nr, .int .i64 ar, .int .i64 ih, .int .i64 il, .slice a4 args.length cap4] 27)
  refine (QI.out _ _ (LAt.up (LAt.below HI4.out hal) hal.size)).mono ?_
  rintro e w5 ⟨rfl, hb5⟩
  have hbx : Below w4.heap.size w4 w5 := box_below hb5
  have hrow : w5.heap[w4.heap.size]? = some (.cells #[.int .i64 nr, .int .i64 ar, .int .i64 ih, .int .i64 il, .slice a4 args.length cap4] 27 (0, 0)) := (hb5.block _ (by simp)).trans (heap_alloc_new w4 _)
  have HI5 := Lib.hid (LAt.up (LAt.below HI4.out hbx) hbx.size)
  have HB5 := Lib.hid (HB4.out.trans (hbx.mono HB4.out.size))
  have HR5 := Lib.hid hrow
  have hlt5 : w4.heap.size < w5.heap.size := by have := hb5.size; simp at this; omega
  clear hb5 hbx hal hrow
  have c0 := box_cell HB5.out 0
  have c1 := box_cell HB5.out 1
  have c2 := box_cell HB5.out 2
  have c3 := box_cell HB5.out 3
  have c4 := box_cell HB5.out 4
  simp only [List.getElem?_toArray, List.getElem?_cons_zero, List.getElem?_cons_succ] at c0 c1 c2 c3 c4
  have hkeep : ∀ W : World, Below w5.heap.size w5 W → (W.cell? ⟨w4.heap.size, 0, none⟩ = some (.int .i64 nr) ∧ W.cell? ⟨w4.heap.size, 1, none⟩ = some (.int .i64 ar) ∧ W.cell? ⟨w4.heap.size, 2, none⟩ = some (.int .i64 ih) ∧ W.cell? ⟨w4.heap.size, 3, none⟩ = some (.int .i64 il) ∧ W.cell? ⟨w4.heap.size, 4, none⟩ = some (.slice a4 args.length cap4) ∧ W.cell? ⟨w.heap.size, 0, none⟩ = some (.int .i64 nr) ∧ W.cell? ⟨w.heap.size, 1, none⟩ = some (.int .i64 ar) ∧ W.cell? ⟨w.heap.size, 2, none⟩ = some (.int .i64 ih) ∧ W.cell? ⟨w.heap.size, 3, none⟩ = some (.int .i64 il) ∧ W.cell? ⟨w.heap.size, 4, none⟩ = some (.slice a args.length cap)) := fun W hb => by
    have r1 := (hb.block _ hlt5).trans HR5.out
    have h2 := HB5.out.trans (hb.mono HB5.out.size)
    exact ⟨row_cell r1 0, row_cell r1 1, row_cell r1 2, row_cell r1 3, row_cell r1 4, box_cell h2 0, box_cell h2 1, box_cell h2 2, box_cell h2 3, box_cell h2 4⟩
  have HK := Lib.hid hkeep
  clear hkeep c0 c1 c2 c3 c4
  obtain ⟨d0, d1, d2, d3, d4, c0, c1, c2, c3, c4⟩ := HK.out _ (Below.refl _ _)
  have hbw5 : Below w5.heap.size w5 w5.drew := (Below.refl _ _).drew
  go_wp2_with fail
  go_region_held3 (fun w' => w'.cell? ⟨w4.heap.size, 0, none⟩ = some (.int .i64 nr) ∧ w'.cell? ⟨w4.heap.size, 1, none⟩ = some (.int .i64 ar) ∧ w'.cell? ⟨w4.heap.size, 2, none⟩ = some (.int .i64 ih) ∧ w'.cell? ⟨w4.heap.size, 3, none⟩ = some (.int .i64 il) ∧ w'.cell? ⟨w4.heap.size, 4, none⟩ = some (.slice a4 args.length cap4) ∧ w'.cell? ⟨w.heap.size, 0, none⟩ = some (.int .i64 nr) ∧ w'.cell? ⟨w.heap.size, 1, none⟩ = some (.int .i64 ar) ∧ w'.cell? ⟨w.heap.size, 2, none⟩ = some (.int .i64 ih) ∧ w'.cell? ⟨w.heap.size, 3, none⟩ = some (.int .i64 il) ∧ w'.cell? ⟨w.heap.size, 4, none⟩ = some (.slice a args.length cap))
    (first | go_keep | exact HK.out _ hbw7 | exact HK.out _ hbw6)
    (first
      | (go_at_call 34; (with_reducible refine (QT.out _ (box_below HB5.out).drew).mono ?_); rintro e w6 ⟨u6, rfl, ho6, hb6⟩; obtain ⟨a6, cap6, rfl⟩ := OwnL.slice ho6; have hbw6 := hbw5.trans (hb6.mono hbw5.size); have hi6 := OwnL.lAt wdS ho6 hwf.out)
      | (go_at_call 35; (with_reducible refine (QE.out _ _ _ (LAt.up (LAt.below HI5.out hbw6) hbw6.size) hi6).mono ?_); rintro e w7 ⟨rfl, hb7⟩; have hbw7 := hbw6.trans (hb7.mono hbw6.size)))
  have HX := Lib.hid ((box_below HB5.out).trans (hbw7.mono (box_below HB5.out).size))
  clear hbw5 hbw6 hbw7 hb6 hb7 c0 c1 c2 c3 c4 d0 d1 d2 d3 d4
  go_wp2_with fail
  go_ret
  exact ⟨rfl, HX.out⟩

set_option maxRecDepth 100000 in
theorem lifted (os : Os) (started : os.Started) (H : Type) (enc : TypeId × Value → H) :
    ReturnsInHanded {} Try.checked os 7 .any (Rows.fnExactRecordRightSpec.pre6 enc Try.prog Try.f7 Rows.fnExactRecordRightRow.domain false) (Rows.fnExactRecordRightSpec.post enc Try.prog Try.f7 false true false false) := by
  refine returnsInHanded_of_change (C := Try.checked) own started (by kernel_rfl) Try.func7
    (ChangeSpec.witness6 (enc := enc) (C := Try.checked) false ⟨#[], #[.agg #[.int .i64 0, .int .i64 0, .int .i64 0, .int .i64 0, .slice none 0 0]], []⟩ 8 (by kernel_rfl) (by kernel_rfl) (by kernel_rfl) (by kernel_rfl)) ?_
  intro W base args ds gs before hval0 hW hcnd _
  have hval : ∀ (j : Nat) t v, Try.f7.params[j]? = some t → args[j]? = some v → Value.okWide Try.prog W .any base t v := hval0
  have hW' := hW
  obtain ⟨p, q, hA0, hV, rfl, hfz, hnd⟩ := hW
  have hA : DataW.TrodAll enc Try.prog W 0 (fun _ => true) true Try.f7.params.toList args.toList ds p := hA0
  rw [Try.params7] at hA hval
  obtain ⟨v0, vs0, d0, ds0, p0, q0, hargs, rfl, rfl, h0, r0⟩ := trodAll_cons hA
  obtain ⟨rfl, rfl, rfl⟩ := trodAll_nil r0
  obtain rfl : args = #[v0] := by cases args; simp_all
  obtain ⟨rfl, rfl⟩ := trodVars_none hV
  have lt0 : ∀ x ∈ p0, x.block < W.heap.size := by obtain ⟨m, hm⟩ := h0; exact DataW.trod_lt m _ _ _ hm
  have w0 := open_isRecord (hval 0 52 v0 rfl rfl) h0
  clear hA0 hval0
  refine (walk v0 W w0).mono fun e W' ⟨he, bel⟩ => ?_
  subst he
  exact ⟨_, rfl, _, _, _, [], _, [], hW', trodAll_mk1 (shut_bool Try.underlying4 _), (trodAll_cons_mk (Below.trod laidOut (by kernel_rfl) (of_decide_eq_true (by kernel_rfl)) h0 bel lt0) trodAll_mk0), rfl, bel.frame _, fun h => by cases h⟩

theorem over : Rows.fnExactRecordRightRow.holds Try.pinned (OpenSpec.ofChange Rows.fnExactRecordRightSpec) :=
  OpenClaim.holds_of_wide 7 Try.f7 rfl rfl rfl rfl rfl rfl rfl ⟨rfl, rfl, rfl, rfl, rfl⟩ rfl rfl rfl rfl rfl (by kernel_rfl) Try.func7 (by kernel_rfl)
    (of_decide_eq_true (by kernel_rfl)) (by unfold Func.isWrapper; first | (rw [if_pos (by decide +kernel)]; kernel_rfl) | (rw [if_neg (by decide +kernel)]; exact ⟨rfl, rfl⟩))
    (fun os started H enc _ => lifted os started H enc)

theorem proved : Rows.FnExactRecordRightSaid := over
#print axioms proved
end Go.Proofs.Ytgcfnmaojdnchaa.fnExactRecordRight

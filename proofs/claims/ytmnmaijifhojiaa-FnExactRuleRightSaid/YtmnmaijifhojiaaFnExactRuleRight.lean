/-
  FnExactRuleRight: for every input that the row speaks of, the law returns true, and its arguments read afterwards as before. No further conditions.
-/
import Derived.Test.YtmnmaijifhojiaaRows
import Derived.Test.YtmnmaijifhojiaaJi
import Derived.Test.YtmnmaijifhojiaaJh
import Derived.Deep.DeepCutAuto
import Derived.Deep.CutRange
import Derived.WalkKit
import Derived.ProofKit
import Derived.OpenShut
import Derived.ShutString
import Derived.ChangeOld
import Derived.Below
namespace Go.Proofs.Ytmnmaijifhojiaa.fnExactRuleRight
open Go.ChangeShapes Go.WideShapes Go.ChangeAt Go.RowKit
open Go.ChangeMaps (open_string shut_string)
set_option linter.unusedVariables false

theorem own : ownKnob Try.prog.godebug = none := by kernel_rfl
theorem laidOut : laidOutB Try.prog = true := by kernel_rfl

set_option maxHeartbeats 3200000 in
theorem walk (a0 : Value) (w : World) (w0 : IsRule w a0) :
    Calls Try.prog 6 #[a0] w fun e w' => e = .returned (.bool true) ∧ Below w.heap.size w w' := by
  obtain ⟨⟨nr, ac, cs⟩, u, rfl, hr, hu⟩ := w0
  simp only at hu ⊢
  obtain ⟨a, cap, rfl, hlc, hcm⟩ := hu.len
  unfold maxLen at hcm
  by_cases hlen : 1048576 < cs.length
  · have hsz := fun W => szRule_any nr ac a cs.length cap 1048576 W (by omega) (by omega) (by omega)
    simp only [if_pos (show (1048576 : Int) - (cs.length : Int) < 0 by omega)] at hsz
    have HZ := Lib.hid hsz
    clear hsz hu hr
    go_enter Try.func6, Try.ntmps6
    go_wp2_with fail
    refine (HZ.out _).mono ?_
    rintro e w1 ⟨rfl, hb1⟩
    have HB := Lib.hid (box_below hb1)
    clear hb1
    go_wp2_with fail
    go_ret
    exact ⟨rfl, HB.out⟩
  have hsz := fun W => szRule_any nr ac a cs.length cap 1048576 W (by omega) (by omega) (by omega)
  simp only [if_neg (show ¬ (1048576 : Int) - (cs.length : Int) < 0 by omega)] at hsz
  have qt := fun W (h : Below w.heap.size w W) => toRule_any nr ac cs _ W (LAt.up (LAt.below hu h) h.size) (by omega)
  have qs := fun u' W (h : CqAt W W.heap.size u' cs) => specRuleRight_any nr ac cs u' W h
  have qi := fun u' W (h : CqAt W W.heap.size u' cs) => implRuleRight_any nr ac cs u' W h
  have qe := fun u1 u2 W (h1 : CqAt W W.heap.size u1 cs) (h2 : CqAt W W.heap.size u2 cs) => eqRule_any nr ac nr ac cs cs u1 u2 W h1 h2
  simp only [decide_true] at qe
  have hwf : Hid (∀ x ∈ cs, x.wf) := hu.2.2
  have hq : (rlRight ⟨nr, ac, cs⟩ != rlRight ⟨nr, ac, cs⟩) = false := by simp
  generalize rlRight ⟨nr, ac, cs⟩ = res at *
  have HZ := Lib.hid hsz
  have QT := Lib.hid qt
  have QS := Lib.hid qs
  have QI := Lib.hid qi
  have QE := Lib.hid qe
  clear hsz qt qs qi qe hu hr
  have hd0 : decide ((1048576 : Int) - (cs.length : Int) < 0) = false := by simp; omega
  go_enter Try.func6, Try.ntmps6
  go_wp2_with fail
  refine (HZ.out _).mono ?_
  rintro e w1 ⟨rfl, hb1⟩
  have HB1 := Lib.hid hb1
  clear hb1
  have c0 := box_cell HB1.out 0
  have c1 := box_cell HB1.out 1
  have c2 := box_cell HB1.out 2
  simp only [List.getElem?_toArray, List.getElem?_cons_zero, List.getElem?_cons_succ] at c0 c1 c2
  go_wp2_with fail
  clear c0 c1 c2
  refine (QT.out _ (box_below HB1.out)).mono ?_
  rintro e w2 ⟨u2, rfl, ho2, hb2⟩
  obtain ⟨a2, cap2, rfl⟩ := OwnL.slice ho2
  have HI2 := Lib.hid (OwnL.lAt cqS ho2 hwf.out)
  have HB2 := Lib.hid (HB1.out.trans (hb2.mono HB1.out.size))
  clear ho2 hb2
  go_wp2_with fail
  refine (QS.out _ _ HI2.out).mono ?_
  rintro e w3 ⟨rfl, hb3⟩
  have HB3 := Lib.hid (HB2.out.trans (hb3.mono HB2.out.size))
  clear hb3
  have c0 := box_cell HB3.out 0
  have c1 := box_cell HB3.out 1
  have c2 := box_cell HB3.out 2
  simp only [List.getElem?_toArray, List.getElem?_cons_zero, List.getElem?_cons_succ] at c0 c1 c2
  go_wp2_with fail
  clear c0 c1 c2
  refine (QT.out _ (box_below HB3.out)).mono ?_
  rintro e w4 ⟨u4, rfl, ho4, hb4⟩
  obtain ⟨a4, cap4, rfl⟩ := OwnL.slice ho4
  have HI4 := Lib.hid (OwnL.lAt cqS ho4 hwf.out)
  have HB4 := Lib.hid (HB3.out.trans (hb4.mono HB3.out.size))
  clear ho4 hb4
  go_wp2_with fail
  have hbn : ∀ o, Below w4.heap.size w4 (w4.alloc o) := fun o => (Below.refl _ _).alloc (Nat.le_refl _) _
  refine (QI.out _ _ (LAt.up (LAt.below HI4.out (hbn _)) (hbn _).size)).mono ?_
  rintro e w5 ⟨rfl, hb5⟩
  obtain hr5 := (hb5.block w4.heap.size (by simp)).trans (heap_alloc_new w4 _)
  have hb45 : Below w4.heap.size w4 w5 := (hbn _).trans (hb5.mono (hbn _).size)
  have HI5 := Lib.hid (LAt.up (LAt.below HI4.out hb45) hb45.size)
  have HB5 := Lib.hid (HB4.out.trans (hb45.mono HB4.out.size))
  have hlt5 : w4.heap.size < w5.heap.size := row_here hr5
  have HR5 := Lib.hid hr5
  clear hb5 hb45 hbn hr5
  have hkeep : ∀ W : World, Below w5.heap.size w5 W → (W.cell? ⟨w4.heap.size, 0, none⟩ = some (.int .i64 nr) ∧ W.cell? ⟨w4.heap.size, 1, none⟩ = some (.int .i64 ac) ∧ W.cell? ⟨w4.heap.size, 2, none⟩ = some (.slice a4 cs.length cap4) ∧ W.cell? ⟨w.heap.size, 0, none⟩ = some (.int .i64 nr) ∧ W.cell? ⟨w.heap.size, 1, none⟩ = some (.int .i64 ac) ∧ W.cell? ⟨w.heap.size, 2, none⟩ = some (.slice a cs.length cap)) := fun W hb => by
    have r1 := (hb.block _ hlt5).trans HR5.out
    have h2 := HB5.out.trans (hb.mono HB5.out.size)
    exact ⟨row_cell r1 0, row_cell r1 1, row_cell r1 2, box_cell h2 0, box_cell h2 1, box_cell h2 2⟩
  have HK := Lib.hid hkeep
  clear hkeep
  obtain ⟨d0, d1, d2, c0, c1, c2⟩ := HK.out _ (Below.refl _ _)
  have hbw5 : Below w5.heap.size w5 w5.drew := (Below.refl _ _).drew
  go_wp2_with fail
  go_region_held3 (fun w' => w'.cell? ⟨w4.heap.size, 0, none⟩ = some (.int .i64 nr) ∧ w'.cell? ⟨w4.heap.size, 1, none⟩ = some (.int .i64 ac) ∧ w'.cell? ⟨w4.heap.size, 2, none⟩ = some (.slice a4 cs.length cap4) ∧ w'.cell? ⟨w.heap.size, 0, none⟩ = some (.int .i64 nr) ∧ w'.cell? ⟨w.heap.size, 1, none⟩ = some (.int .i64 ac) ∧ w'.cell? ⟨w.heap.size, 2, none⟩ = some (.slice a cs.length cap))
    (first | go_keep | exact HK.out _ hbw7 | exact HK.out _ hbw6)
    (first
      | (go_at_call 44; (with_reducible refine (QT.out _ (box_below HB5.out).drew).mono ?_); rintro e w6 ⟨u6, rfl, ho6, hb6⟩; obtain ⟨a6, cap6, rfl⟩ := OwnL.slice ho6; have hbw6 := hbw5.trans (hb6.mono hbw5.size); have hi6 := OwnL.lAt cqS ho6 hwf.out)
      | (go_at_call 45; (with_reducible refine (QE.out _ _ _ (LAt.up (LAt.below HI5.out hbw6) hbw6.size) hi6).mono ?_); rintro e w7 ⟨rfl, hb7⟩; have hbw7 := hbw6.trans (hb7.mono hbw6.size)))
  have HX := Lib.hid ((box_below HB5.out).trans (hbw7.mono (box_below HB5.out).size))
  clear hbw5 hbw6 hbw7 hb6 hb7 c0 c1 c2 d0 d1 d2
  go_wp2_with fail
  go_ret
  exact ⟨rfl, HX.out⟩

set_option maxRecDepth 100000 in
theorem lifted (os : Os) (started : os.Started) (H : Type) (enc : TypeId × Value → H) :
    ReturnsInHanded {} Try.checked os 6 .any (Rows.fnExactRuleRightSpec.pre6 enc Try.prog Try.f6 Rows.fnExactRuleRightRow.domain false) (Rows.fnExactRuleRightSpec.post enc Try.prog Try.f6 false true false false) := by
  refine returnsInHanded_of_change (C := Try.checked) own started (by kernel_rfl) Try.func6
    (ChangeSpec.witness6 (enc := enc) (C := Try.checked) false ⟨#[], #[.agg #[.int .i64 0, .int .i64 0, .slice none 0 0]], []⟩ 8 (by kernel_rfl) (by kernel_rfl) (by kernel_rfl) (by kernel_rfl)) ?_
  intro W base args ds gs before hval0 hW hcnd _
  have hval : ∀ (j : Nat) t v, Try.f6.params[j]? = some t → args[j]? = some v → Value.okWide Try.prog W .any base t v := hval0
  have hW' := hW
  obtain ⟨p, q, hA0, hV, rfl, hfz, hnd⟩ := hW
  have hA : DataW.TrodAll enc Try.prog W 0 (fun _ => true) true Try.f6.params.toList args.toList ds p := hA0
  rw [Try.params6] at hA hval
  obtain ⟨v0, vs0, d0, ds0, p0, q0, hargs, rfl, rfl, h0, r0⟩ := trodAll_cons hA
  obtain ⟨rfl, rfl, rfl⟩ := trodAll_nil r0
  obtain rfl : args = #[v0] := by cases args; simp_all
  obtain ⟨rfl, rfl⟩ := trodVars_none hV
  have lt0 : ∀ x ∈ p0, x.block < W.heap.size := by obtain ⟨m, hm⟩ := h0; exact DataW.trod_lt m _ _ _ hm
  have w0 := open_isRule (hval 0 74 v0 rfl rfl) h0
  clear hA0 hval0
  refine (walk v0 W w0).mono fun e W' ⟨he, bel⟩ => ?_
  subst he
  exact ⟨_, rfl, _, _, _, [], _, [], hW', trodAll_mk1 (shut_bool Try.underlying4 _), (trodAll_cons_mk (Below.trod laidOut (by kernel_rfl) (of_decide_eq_true (by kernel_rfl)) h0 bel lt0) trodAll_mk0), rfl, bel.frame _, fun h => by cases h⟩

theorem over : Rows.fnExactRuleRightRow.holds Try.pinned (OpenSpec.ofChange Rows.fnExactRuleRightSpec) :=
  OpenClaim.holds_of_wide 6 Try.f6 rfl rfl rfl rfl rfl rfl rfl ⟨rfl, rfl, rfl, rfl, rfl⟩ rfl rfl rfl rfl rfl (by kernel_rfl) Try.func6 (by kernel_rfl)
    (of_decide_eq_true (by kernel_rfl)) (by unfold Func.isWrapper; first | (rw [if_pos (by decide +kernel)]; kernel_rfl) | (rw [if_neg (by decide +kernel)]; exact ⟨rfl, rfl⟩))
    (fun os started H enc _ => lifted os started H enc)

theorem proved : Rows.FnExactRuleRightSaid := over
#print axioms proved
end Go.Proofs.Ytmnmaijifhojiaa.fnExactRuleRight

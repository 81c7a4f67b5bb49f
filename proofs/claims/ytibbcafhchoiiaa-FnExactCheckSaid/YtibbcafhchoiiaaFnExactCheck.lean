/-
  FnExactCheck: for every input that the row speaks of, the law returns true, and its arguments read afterwards as before. No further conditions.
-/
import Derived.Test.YtibbcafhchoiiaaRows
import Derived.Test.YtibbcafhchoiiaaCl
import Derived.WalkKit
import Derived.ProofKit
import Derived.OpenShut
import Derived.ShutString
import Derived.ChangeOld
import Derived.Below
namespace Go.Proofs.Ytibbcafhchoiiaa.fnExactCheck
open Go.ChangeShapes Go.WideShapes Go.ChangeAt Go.RowKit
open Go.ChangeMaps (open_string shut_string)
set_option linter.unusedVariables false

theorem own : ownKnob Try.prog.godebug = none := by kernel_rfl
theorem laidOut : laidOutB Try.prog = true := by kernel_rfl

set_option maxHeartbeats 3200000 in
theorem walk (a0 : Value) (w : World) (w0 : IsInsns w a0) :
    Calls Try.prog 3 #[a0] w fun e w' => e = .returned (.bool true) ∧ Below w.heap.size w w' := by
  obtain ⟨l, hl⟩ := w0
  obtain ⟨a, cap, rfl, hlc, hcm⟩ := hl.len
  unfold maxLen at hcm
  by_cases hlen : 1048576 < l.length
  · have hsz := szInsnS_any a l.length cap 1048576 w (by omega) (by omega) (by omega)
    rw [if_pos (by omega)] at hsz
    go_enter Try.func3, Try.ntmps3
    go_wp2_with fail
    refine hsz.mono ?_
    rintro e w1 ⟨rfl, rfl⟩
    go_wp2_with fail
    go_ret
    exact ⟨rfl, Below.refl _ _⟩
  have hsz := szInsnS_any a l.length cap 1048576 w (by omega) (by omega) (by omega)
  rw [if_neg (by omega)] at hsz
  have HL := Lib.hid hl
  have HZ := Lib.hid hsz
  have hwf : Hid (∀ x ∈ l, x.wf) := hl.2
  have q1 := fun v W h => Check_any v l W h
  have q2 := fun v W h => implCheck_any v l W h
  generalize checkL l = r at *
  obtain ⟨rp, rq⟩ := r
  simp only at q1 q2
  have Q1 := Lib.hid q1
  have Q2 := Lib.hid q2
  clear hl hsz q1 q2
  go_enter Try.func3, Try.ntmps3
  go_wp2_with fail
  refine HZ.out.mono ?_
  rintro e w1 ⟨rfl, rfl⟩
  go_wp2_with fail
  refine (toInsnS_any _ l _ HL.out (by omega)).mono ?_
  rintro e w1 ⟨u1, rfl, ho1, hb1⟩
  have HI1 := Lib.hid (ho1.insAt hwf.out)
  have HB1 := Lib.hid hb1
  clear ho1 hb1
  go_wp2_with fail
  refine (Q1.out _ _ HI1.out).mono ?_
  rintro e w2 ⟨rfl, hb2⟩
  have HB2 := Lib.hid ((HB1.out.trans (hb2.mono HB1.out.size)).alloc (HB1.out.trans (hb2.mono HB1.out.size)).size (.cells #[.int .i64 rp, .int .i64 rq] 25))
  have HC2 := Lib.hid (CoAt.new w2 rp rq 25)
  clear hb2
  go_wp2_with fail
  refine (toInsnS_any _ l _ ((HL.out.below HB2.out).up HB2.out.size) (by omega)).mono ?_
  rintro e w3 ⟨u3, rfl, ho3, hb3⟩
  have HI3 := Lib.hid (ho3.insAt hwf.out)
  have HB3 := Lib.hid (HB2.out.trans (hb3.mono HB2.out.size))
  have HC3 := Lib.hid (HC2.out.below hb3)
  clear ho3 hb3
  go_wp2_with fail
  refine (Q2.out _ _ HI3.out).mono ?_
  rintro e w4 ⟨rfl, hb4⟩
  have hb4' := hb4.alloc hb4.size (.cells #[.int .i64 rp, .int .i64 rq] 25)
  have HI4 := Lib.hid ((HI3.out.below hb4').up hb4'.size)
  have HB4 := Lib.hid (HB3.out.trans (hb4'.mono HB3.out.size))
  have hc4 := HC3.out.below hb4
  obtain ⟨d0, d1, hdl⟩ := hc4
  clear hb4 hb4'
  go_wp2_with fail
  refine (eqCheckOut_same _ _ _).mono ?_
  rintro e w5 ⟨rfl, hb5⟩
  have HI5 := Lib.hid ((HI4.out.below hb5).up hb5.size)
  have HB5 := Lib.hid (HB4.out.trans (hb5.mono HB4.out.size))
  clear hb5 d0 d1 hdl
  go_wp2_with fail
  refine (toInsnS_any _ l _ ((HL.out.below HB5.out).up HB5.out.size) (by omega)).mono ?_
  rintro e w6 ⟨u6, rfl, ho6, hb6⟩
  have HI6 := Lib.hid (ho6.insAt hwf.out)
  have HJ6 := Lib.hid ((HI5.out.below hb6).up hb6.size)
  have HB6 := Lib.hid (HB5.out.trans (hb6.mono HB5.out.size))
  clear ho6 hb6
  go_wp2_with fail
  refine (eqInsnS_any _ _ l l _ HJ6.out HI6.out).mono ?_
  rintro e w7 ⟨rfl, hb7⟩
  have HB7 := Lib.hid (HB6.out.trans (hb7.mono HB6.out.size))
  have hd : decide (l = l) = true := by simp
  clear hb7
  go_wp2_with fail
  go_ret
  exact ⟨rfl, HB7.out⟩

set_option maxRecDepth 100000 in
theorem lifted (os : Os) (started : os.Started) (H : Type) (enc : TypeId × Value → H) :
    ReturnsInHanded {} Try.checked os 3 .any (Rows.fnExactCheckSpec.pre6 enc Try.prog Try.f3 Rows.fnExactCheckRow.domain false) (Rows.fnExactCheckSpec.post enc Try.prog Try.f3 false true false false) := by
  refine returnsInHanded_of_change (C := Try.checked) own started (by kernel_rfl) Try.func3
    (ChangeSpec.witness6 (enc := enc) (C := Try.checked) false ⟨#[], #[.slice none 0 0], []⟩ 8 (by kernel_rfl) (by kernel_rfl) (by kernel_rfl) (by kernel_rfl)) ?_
  intro W base args ds gs before hval0 hW hcnd _
  have hval : ∀ (j : Nat) t v, Try.f3.params[j]? = some t → args[j]? = some v → Value.okWide Try.prog W .any base t v := hval0
  have hW' := hW
  obtain ⟨p, q, hA0, hV, rfl, hfz, hnd⟩ := hW
  have hA : DataW.TrodAll enc Try.prog W 0 (fun _ => true) true Try.f3.params.toList args.toList ds p := hA0
  rw [Try.params3] at hA hval
  obtain ⟨v0, vs0, d0, ds0, p0, q0, hargs, rfl, rfl, h0, r0⟩ := trodAll_cons hA
  obtain ⟨rfl, rfl, rfl⟩ := trodAll_nil r0
  obtain rfl : args = #[v0] := by cases args; simp_all
  obtain ⟨rfl, rfl⟩ := trodVars_none hV
  have lt0 : ∀ x ∈ p0, x.block < W.heap.size := by obtain ⟨m, hm⟩ := h0; exact DataW.trod_lt m _ _ _ hm
  have w0 := open_isInsns (hval 0 22 v0 rfl rfl) h0
  clear hA0 hval0
  refine (walk v0 W w0).mono fun e W' ⟨he, bel⟩ => ?_
  subst he
  exact ⟨_, rfl, _, _, _, [], _, [], hW', trodAll_mk1 (shut_bool Try.underlying4 _), (trodAll_cons_mk (Below.trod laidOut (by kernel_rfl) (of_decide_eq_true (by kernel_rfl)) h0 bel lt0) trodAll_mk0), rfl, bel.frame _, fun h => by cases h⟩

theorem over : Rows.fnExactCheckRow.holds Try.pinned (OpenSpec.ofChange Rows.fnExactCheckSpec) :=
  OpenClaim.holds_of_wide 3 Try.f3 rfl rfl rfl rfl rfl rfl rfl ⟨rfl, rfl, rfl, rfl, rfl⟩ rfl rfl rfl rfl rfl (by kernel_rfl) Try.func3 (by kernel_rfl)
    (of_decide_eq_true (by kernel_rfl)) (by unfold Func.isWrapper; first | (rw [if_pos (by decide +kernel)]; kernel_rfl) | (rw [if_neg (by decide +kernel)]; exact ⟨rfl, rfl⟩))
    (fun os started H enc _ => lifted os started H enc)

theorem proved : Rows.FnExactCheckSaid := over
#print axioms proved
end Go.Proofs.Ytibbcafhchoiiaa.fnExactCheck

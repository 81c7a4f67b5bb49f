/-
  FnExactProgRead: for every input that the row speaks of, the law returns true, and its arguments read afterwards as before. No further conditions.
-/
import Derived.Test.YtlocglafocnghaaRows
import Derived.Test.YtlocglafocnghaaOs
import Derived.Test.YtlocglafocnghaaMp
import Derived.Test.YtlocglafocnghaaPy
import Derived.WalkKit
import Derived.ProofKit
import Derived.OpenShut
import Derived.ShutString
import Derived.ChangeOld
import Derived.Below
namespace Go.Proofs.Ytlocglafocnghaa.fnExactProgRead
open Go.ChangeShapes Go.WideShapes Go.ChangeAt Go.RowKit
open Go.ChangeMaps (open_string shut_string)
set_option linter.unusedVariables false

theorem own : ownKnob Try.prog.godebug = none := by kernel_rfl
theorem laidOut : laidOutB Try.prog = true := by kernel_rfl

theorem walk (a0 : Value) (w : World) (w0 : IsStr w a0) :
    Calls Try.prog 5 #[a0] w fun e w' => e = .returned (.bool true) ∧ Below w.heap.size w w' := by
  obtain ⟨s, rfl, hs⟩ := w0
  unfold maxLen at hs
  by_cases hb : 1048576 < s.size
  · go_enter Try.func5, Try.ntmps5
    go_wp2
    go_ret
    exact ⟨rfl, Below.refl _ _⟩
  have hwf := Lib.hid (readP_wf s)
  have hlen : (readP s).length ≤ 1000000 := by
    unfold readP
    split
    · rw [wordsB_length]; omega
    · simp
  have q1 := fun w => specProgRead_any s w (by unfold maxLen; omega)
  have q2 := fun w => implProgRead_any s w (by unfold maxLen; omega)
  generalize readP s = l at *
  generalize readC s.size = c at *
  have Q1 := Lib.hid q1
  have Q2 := Lib.hid q2
  clear q1 q2
  go_enter Try.func5, Try.ntmps5
  go_wp2_with fail
  refine (Q1.out _).mono ?_
  rintro e w1 ⟨u1, rfl, ho1, hb1⟩
  obtain ⟨a1, cap1, rfl⟩ := ho1.slice
  have HB1 := Lib.hid hb1
  have HI1 := Lib.hid (ho1.insAt hwf.out)
  clear ho1 hb1
  go_wp2_with fail
  refine (Q2.out _).mono ?_
  rintro e w2 ⟨u2, rfl, ho2, hb2⟩
  obtain ⟨a2, cap2, rfl⟩ := ho2.slice
  have hp2 := (PoAt.new w1 (.slice a1 l.length cap1) c 36).below hb2
  have HP2 := Lib.hid hp2
  have HO2 := Lib.hid (ho2.base (b' := w1.heap.size + 1) (by simp))
  have HI2 := Lib.hid (ho2.insAt hwf.out)
  have HB2 := Lib.hid (HB1.out.trans ((box_below hb2).mono HB1.out.size))
  have HJ2 := Lib.hid (HI1.out.below (box_below hb2))
  have HS2 := Lib.hid (show w1.heap.size + 1 ≤ w2.heap.size by have := hb2.size; simpa using this)
  clear ho2 hb2
  obtain ⟨c0, c1, c2, hz⟩ := hp2
  go_wp2_with fail
  clear c0 c1 c2 hz
  have hal := (Below.refl w2.heap.size w2).alloc (Nat.le_refl _) (.cells #[.slice a2 l.length cap2, .int .i64 c, .int .i64 0] 36)
  refine (eqProgOut_same _ _ l _ _ _ ((HI2.out.below hal).up hal.size) ((HJ2.out.below (hal.mono (by have := HS2.out; omega))).up (by have := HS2.out; have := hal.size; omega))).mono ?_
  rintro e w3 ⟨rfl, hb3⟩
  have HP3 := Lib.hid ((HP2.out.alloc _).below hb3)
  have HR3 := Lib.hid ((PoAt.new w2 (.slice a2 l.length cap2) c 36).below hb3)
  have HO3 := Lib.hid ((HO2.out.below hal).below hb3)
  have hbx : Below w2.heap.size w2 w3 := box_below hb3
  have HB3 := Lib.hid (HB2.out.trans (hbx.mono HB2.out.size))
  have HJ3 := Lib.hid (HJ2.out.below (hbx.mono (by have := HS2.out; omega)))
  have HS3 := Lib.hid (show w1.heap.size + 1 ≤ w3.heap.size from Nat.le_trans HS2.out hbx.size)
  have HL2 := Lib.hid (HO2.out.lt)
  clear hb3 hbx hal
  obtain ⟨d0, d1, d2, hz⟩ := HR3.out
  go_wp2_with fail
  clear d0 d1 d2 hz
  refine (markProgOut_any _ _ l _ _ 1 _ HO3.out (by omega) (by omega) (by omega)).mono ?_
  rintro e w4 ⟨rfl, ho4, hg4⟩
  have hb4 : Below (w1.heap.size + 1) w3 w4 := (Below.refl _ _).grown hg4 HS3.out (fun k hk => (HO3.out.lt k hk).1)
  have HP4 := Lib.hid (HP3.out.grown hg4 (fun e => by have := (HL2.out _ e).1; omega))
  have HR4 := Lib.hid (HR3.out.grown hg4 (fun e => by have := (HL2.out _ e).2; omega))
  have HI4 := Lib.hid (ho4.insAt (markL_wf (k := 1) (n := l.length) (by omega) (by omega) (by omega)))
  have HB4 := Lib.hid (HB3.out.trans (hb4.mono (by have := HB1.out.size; omega)))
  have HJ4 := Lib.hid (HJ3.out.below (hb4.mono (by omega)))
  have HS4 := Lib.hid (Nat.le_trans HS3.out hb4.size)
  clear ho4 hg4 hb4
  obtain ⟨d0, d1, d2, hz⟩ := HR4.out
  go_wp2_with fail
  clear d0 d1 d2 hz
  refine (heldProgOut_any _ _ _ _ 1 _ HI4.out (by omega) (by omega) (by omega)).mono ?_
  rintro e w5 ⟨rfl, hb5⟩
  have HI5 := Lib.hid ((HI4.out.below hb5).up hb5.size)
  have HP5 := Lib.hid (HP4.out.below hb5)
  have HR5 := Lib.hid (HR4.out.below hb5)
  have HB5 := Lib.hid (HB4.out.trans (hb5.mono HB4.out.size))
  have HJ5 := Lib.hid (HJ4.out.below (hb5.mono (by have := HS4.out; omega)))
  have HS5 := Lib.hid (Nat.le_trans HS4.out hb5.size)
  clear hb5
  have hq : ((1 + 4 * (l.length : Int)) != (1 + 4 * (l.length : Int))) = false := by simp
  have hq0 : decide (1 + 4 * (l.length : Int) < 0) = false := by simp; omega
  go_wp2_with fail
  refine (Q2.out _).mono ?_
  rintro e w6 ⟨u6, rfl, ho6, hb6⟩
  obtain ⟨a6, cap6, rfl⟩ := ho6.slice
  have HI6 := Lib.hid (ho6.insAt hwf.out)
  have HP6 := Lib.hid (HP5.out.below hb6)
  have HR6 := Lib.hid (HR5.out.below hb6)
  have HB6 := Lib.hid (HB5.out.trans (hb6.mono HB5.out.size))
  have HJ6 := Lib.hid (HJ5.out.below (hb6.mono (by have := HS5.out; omega)))
  have HK6 := Lib.hid ((HI5.out.below hb6).up hb6.size)
  have HS6 := Lib.hid (Nat.le_trans HS5.out hb6.size)
  clear ho6 hb6
  obtain ⟨c0, c1, c2, hz⟩ := HP6.out
  go_wp2_with fail
  clear c0 c1 c2 hz
  have hal := (Below.refl w6.heap.size w6).alloc (Nat.le_refl _) (.cells #[.slice a6 l.length cap6, .int .i64 c, .int .i64 0] 36)
  refine (eqProgOut_same _ _ l _ _ _ ((HI6.out.below hal).up hal.size) ((HJ6.out.below (hal.mono (by have := HS6.out; omega))).up (by have := HS6.out; have := hal.size; omega))).mono ?_
  rintro e w7 ⟨rfl, hb7⟩
  have hbx : Below w6.heap.size w6 w7 := box_below hb7
  have HR7 := Lib.hid (HR6.out.below hbx)
  have HB7 := Lib.hid (HB6.out.trans (hbx.mono HB6.out.size))
  have HK7 := Lib.hid ((HK6.out.below hbx).up hbx.size)
  clear hb7 hbx hal
  obtain ⟨d0, d1, d2, hz⟩ := HR7.out
  go_wp2_with fail
  clear d0 d1 d2 hz
  refine (heldProgOut_any _ _ _ _ 1 _ HK7.out (by omega) (by omega) (by omega)).mono ?_
  rintro e w8 ⟨rfl, hb8⟩
  have HB8 := Lib.hid (HB7.out.trans (hb8.mono HB7.out.size))
  clear hb8
  go_wp2_with fail
  go_ret
  exact ⟨rfl, HB8.out⟩

set_option maxRecDepth 100000 in
theorem lifted (os : Os) (started : os.Started) (H : Type) (enc : TypeId × Value → H) :
    ReturnsInHanded {} Try.checked os 5 .any (Rows.fnExactProgReadSpec.pre6 enc Try.prog Try.f5 Rows.fnExactProgReadRow.domain false) (Rows.fnExactProgReadSpec.post enc Try.prog Try.f5 false true false false) := by
  refine returnsInHanded_of_change (C := Try.checked) own started (by kernel_rfl) Try.func5
    (ChangeSpec.witness6 (enc := enc) (C := Try.checked) false ⟨#[], #[.string ByteArray.empty], []⟩ 8 (by kernel_rfl) (by kernel_rfl) (by kernel_rfl) (by kernel_rfl)) ?_
  intro W base args ds gs before hval0 hW hcnd _
  have hval : ∀ (j : Nat) t v, Try.f5.params[j]? = some t → args[j]? = some v → Value.okWide Try.prog W .any base t v := hval0
  have hW' := hW
  obtain ⟨p, q, hA0, hV, rfl, hfz, hnd⟩ := hW
  have hA : DataW.TrodAll enc Try.prog W 0 (fun _ => true) true Try.f5.params.toList args.toList ds p := hA0
  rw [Try.params5] at hA hval
  obtain ⟨v0, vs0, d0, ds0, p0, q0, hargs, rfl, rfl, h0, r0⟩ := trodAll_cons hA
  obtain ⟨rfl, rfl, rfl⟩ := trodAll_nil r0
  obtain rfl : args = #[v0] := by cases args; simp_all
  obtain ⟨rfl, rfl⟩ := trodVars_none hV
  have lt0 : ∀ x ∈ p0, x.block < W.heap.size := by obtain ⟨m, hm⟩ := h0; exact DataW.trod_lt m _ _ _ hm
  have w0 := open_isStr (hval 0 9 v0 rfl rfl) h0
  clear hA0 hval0
  refine (walk v0 W w0).mono fun e W' ⟨he, bel⟩ => ?_
  subst he
  exact ⟨_, rfl, _, _, _, [], _, [], hW', trodAll_mk1 (shut_bool Try.underlying4 _), (trodAll_cons_mk (Below.trod laidOut (by kernel_rfl) (of_decide_eq_true (by kernel_rfl)) h0 bel lt0) trodAll_mk0), rfl, bel.frame _, fun h => by cases h⟩

theorem over : Rows.fnExactProgReadRow.holds Try.pinned (OpenSpec.ofChange Rows.fnExactProgReadSpec) :=
  OpenClaim.holds_of_wide 5 Try.f5 rfl rfl rfl rfl rfl rfl rfl ⟨rfl, rfl, rfl, rfl, rfl⟩ rfl rfl rfl rfl rfl (by kernel_rfl) Try.func5 (by kernel_rfl)
    (of_decide_eq_true (by kernel_rfl)) (by unfold Func.isWrapper; first | (rw [if_pos (by decide +kernel)]; kernel_rfl) | (rw [if_neg (by decide +kernel)]; exact ⟨rfl, rfl⟩))
    (fun os started H enc _ => lifted os started H enc)

theorem proved : Rows.FnExactProgReadSaid := over
#print axioms proved
end Go.Proofs.Ytlocglafocnghaa.fnExactProgRead

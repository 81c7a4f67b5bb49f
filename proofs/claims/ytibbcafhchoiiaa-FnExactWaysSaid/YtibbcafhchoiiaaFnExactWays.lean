/-
  FnExactWays: for every input that the row speaks of, the law returns true, and its arguments read afterwards as before. No further conditions.
-/
import Derived.Test.YtibbcafhchoiiaaRows
import Derived.Test.YtibbcafhchoiiaaCv
import Derived.Test.YtibbcafhchoiiaaOs
import Derived.Test.YtibbcafhchoiiaaMl
import Derived.WalkKit
import Derived.ProofKit
import Derived.OpenShut
import Derived.ShutString
import Derived.ChangeOld
import Derived.Below
namespace Go.Proofs.Ytibbcafhchoiiaa.fnExactWays
open Go.ChangeShapes Go.WideShapes Go.ChangeAt Go.RowKit
open Go.ChangeMaps (open_string shut_string)
set_option linter.unusedVariables false

theorem own : ownKnob Try.prog.godebug = none := by kernel_rfl
theorem laidOut : laidOutB Try.prog = true := by kernel_rfl

set_option maxHeartbeats 3200000 in
theorem walk (a0 a1 : Value) (w : World) (w0 : IsInsns w a0) (w1 : IsI64 w a1) :
    Calls Try.prog 4 #[a0, a1] w fun e w' => e = .returned (.bool true) ∧ Below w.heap.size w w' := by
  obtain ⟨l, hl⟩ := w0
  obtain ⟨at_, rfl, hat⟩ := w1
  obtain ⟨a, cap, rfl, hlc, hcm⟩ := hl.len
  unfold maxLen at hcm
  by_cases hlen : 1048576 < l.length
  · have hsz := szInsnS_any a l.length cap 1048576 w (by omega) (by omega) (by omega)
    rw [if_pos (by omega)] at hsz
    go_enter Try.func4, Try.ntmps4
    go_wp2_with fail
    refine hsz.mono ?_
    rintro e w1 ⟨rfl, rfl⟩
    go_wp2_with fail
    go_ret
    exact ⟨rfl, Below.refl _ _⟩
  have hsz := szInsnS_any a l.length cap 1048576 w (by omega) (by omega) (by omega)
  rw [if_neg (by omega)] at hsz
  have HL := Lib.hid hl
  have HZ := Lib.hid hsz
  have hwf : Hid (∀ x ∈ l, x.wf) := hl.2
  have hwl : (waysI l at_).length ≤ 2 := by
    unfold waysI
    split
    · split
      · exact nextI_length _ _
      · simp
    · simp
  have q1 := fun v W h => specWays_any v l at_ W h hat
  have q2 := fun v W h => implWays_any v l at_ W h hat
  generalize waysI l at_ = r at *
  have Q1 := Lib.hid q1
  have Q2 := Lib.hid q2
  clear hl hsz q1 q2 hat
  go_enter Try.func4, Try.ntmps4
  go_wp2_with fail
  refine HZ.out.mono ?_
  rintro e w1 ⟨rfl, rfl⟩
  go_wp2_with fail
  refine (toInsnS_any _ l _ HL.out (by omega)).mono ?_
  rintro e w1 ⟨u1, rfl, ho1, hb1⟩
  have HI1 := Lib.hid (ho1.insAt hwf.out)
  have HB1 := Lib.hid hb1
  clear ho1 hb1
  go_wp2_with fail
  refine (Q1.out _ _ HI1.out).mono ?_
  rintro e w2 ⟨u2, rfl, ho2, hb2⟩
  obtain ⟨a2, cap2, rfl⟩ := OwnL.slice ho2
  have HW2 := Lib.hid (ho2.lAt numS fun _ _ => trivial : IntsAt w2 w2.heap.size _ r)
  have HB2 := Lib.hid (HB1.out.trans (hb2.mono HB1.out.size))
  clear ho2 hb2
  go_wp2_with fail
  refine (toInsnS_any _ l _ ((HL.out.below HB2.out).up HB2.out.size) (by omega)).mono ?_
  rintro e w3 ⟨u3, rfl, ho3, hb3⟩
  obtain ⟨a3, cap3, rfl⟩ := ho3.slice
  have HX3 := Lib.hid ho3
  have HI3 := Lib.hid (ho3.insAt hwf.out)
  have HB3 := Lib.hid (HB2.out.trans (hb3.mono HB2.out.size))
  have HW3 := Lib.hid (HW2.out.below hb3)
  have HS3 := Lib.hid hb3.size
  have HXL := Lib.hid ho3.lt
  clear ho3 hb3
  go_wp2_with fail
  refine (Q2.out _ _ HI3.out).mono ?_
  rintro e w4 ⟨u4, rfl, ho4, hb4⟩
  obtain ⟨a4, cap4, rfl⟩ := OwnL.slice ho4
  have HG4 := Lib.hid ho4
  have HX4 := Lib.hid (HX3.out.below hb4)
  have HI4 := Lib.hid ((HI3.out.below hb4).up hb4.size)
  have HB4 := Lib.hid (HB3.out.trans (hb4.mono HB3.out.size))
  have HW4 := Lib.hid (HW3.out.below (hb4.mono HS3.out))
  have HS4 := Lib.hid hb4.size
  clear ho4 hb4
  go_wp2_with fail
  refine (eqInt64S_same _ _ r _ (HG4.out.lAt numS fun _ _ => trivial) (HW4.out.up (by have := HS3.out; have := HS4.out; omega))).mono ?_
  rintro e w5 ⟨rfl, hb5⟩
  have HG5 := Lib.hid (HG4.out.below hb5)
  have HX5 := Lib.hid (HX4.out.below hb5)
  have HI5 := Lib.hid ((HI4.out.below hb5).up hb5.size)
  have HB5 := Lib.hid (HB4.out.trans (hb5.mono HB4.out.size))
  have HW5 := Lib.hid (HW4.out.below (hb5.mono (by have := HS3.out; have := HS4.out; omega)))
  have HS5 := Lib.hid (Nat.le_trans HS4.out hb5.size)
  clear hb5
  go_wp2_with fail
  refine (toInsnS_any _ l _ ((HL.out.below HB5.out).up HB5.out.size) (by omega)).mono ?_
  rintro e w6 ⟨u6, rfl, ho6, hb6⟩
  have HI6 := Lib.hid (ho6.insAt hwf.out)
  have HJ6 := Lib.hid ((HI5.out.below hb6).up hb6.size)
  have HG6 := Lib.hid (HG5.out.below hb6)
  have HX6 := Lib.hid (HX5.out.below hb6)
  have HB6 := Lib.hid (HB5.out.trans (hb6.mono HB5.out.size))
  have HW6 := Lib.hid (HW5.out.below (hb6.mono (by have := HS3.out; have := HS5.out; omega)))
  have HS6 := Lib.hid (Nat.le_trans HS5.out hb6.size)
  clear ho6 hb6
  go_wp2_with fail
  refine (eqInsnS_any _ _ l l _ HJ6.out HI6.out).mono ?_
  rintro e w7 ⟨rfl, hb7⟩
  have HG7 := Lib.hid (HG6.out.below hb7)
  have HX7 := Lib.hid (HX6.out.below hb7)
  have HB7 := Lib.hid (HB6.out.trans (hb7.mono HB6.out.size))
  have HW7 := Lib.hid (HW6.out.below (hb7.mono (by have := HS3.out; have := HS6.out; omega)))
  have HS7 := Lib.hid (Nat.le_trans HS6.out hb7.size)
  have hd : decide (l = l) = true := by simp
  clear hb7
  go_wp2_with fail
  clear hd
  refine (markInsnS_any _ _ l 1 _ HX7.out (by omega) (by omega) (by omega)).mono ?_
  rintro e w8 ⟨rfl, ho8, hg8⟩
  have hb8 : Below w2.heap.size w7 w8 := (Below.refl _ _).grown hg8 (by have := HS3.out; have := HS7.out; omega) (fun k hk => (HXL.out k hk).1)
  have hgk : I64Own w3.heap.size w8 (.slice a4 r.length cap4) r := World.ownsRow.kept HG7.out hg8 (by
    by_cases h0 : (Value.slice a4 r.length cap4).ownBlock = none
    · exact .inl h0
    · right
      intro e
      obtain ⟨k, hk⟩ := Option.ne_none_iff_exists'.1 h0
      have h1 := (HG7.out.lt k hk).1
      have h2 := (HXL.out k (e ▸ hk)).2
      omega)
  have HG8 := Lib.hid hgk
  have HB8 := Lib.hid (HB7.out.trans (hb8.mono HB2.out.size))
  have HW8 := Lib.hid (HW7.out.below hb8)
  have HS8 := Lib.hid (Nat.le_trans HS7.out hb8.size)
  clear ho8 hg8 hb8 hgk
  have hq0 : decide (1 + 4 * (l.length : Int) < 0) = false := by simp; omega
  go_wp2_with fail
  refine (eqInt64S_same _ _ r _ (HG8.out.lAt numS fun _ _ => trivial) (HW8.out.up (by have := HS3.out; have := HS8.out; omega))).mono ?_
  rintro e w9 ⟨rfl, hb9⟩
  have HG9 := Lib.hid (HG8.out.below hb9)
  have HB9 := Lib.hid (HB8.out.trans (hb9.mono HB8.out.size))
  have HW9 := Lib.hid (HW8.out.below (hb9.mono (by have := HS3.out; have := HS8.out; omega)))
  have HS9 := Lib.hid (Nat.le_trans HS8.out hb9.size)
  clear hb9 hq0
  go_wp2_with fail
  refine (markInt64S_any _ _ r 1 _ HG9.out (by omega) (by omega) (by omega)).mono ?_
  rintro e w10 ⟨rfl, ho10, hg10⟩
  have hb10 : Below w3.heap.size w9 w10 := (Below.refl _ _).grown hg10 HS9.out (fun k hk => (HG9.out.lt k hk).1)
  have HM10 := Lib.hid ho10
  have HB10 := Lib.hid (HB9.out.trans (hb10.mono HB3.out.size))
  have HW10 := Lib.hid (HW9.out.below (hb10.mono HS3.out))
  have HS10 := Lib.hid (Nat.le_trans HS9.out hb10.size)
  clear ho10 hg10 hb10
  go_wp2_with fail
  refine (heldInt64S_any _ r.length 1 _ (HM10.out.lAt numS fun _ _ => trivial) (by omega) (by omega) (by omega)).mono ?_
  rintro e w11 ⟨rfl, rfl⟩
  have hq : ((1 + (r.length : Int)) != (1 + (r.length : Int))) = false := by simp
  have hq0 : decide (1 + (r.length : Int) < 0) = false := by simp; omega
  go_wp2_with fail
  refine (toInsnS_any _ l _ ((HL.out.below HB10.out).up HB10.out.size) (by omega)).mono ?_
  rintro e w12 ⟨u12, rfl, ho12, hb12⟩
  have HI12 := Lib.hid (ho12.insAt hwf.out)
  have HM12 := Lib.hid (HM10.out.below hb12)
  have HB12 := Lib.hid (HB10.out.trans (hb12.mono HB10.out.size))
  have HW12 := Lib.hid (HW10.out.below (hb12.mono (by have := HS3.out; have := HS10.out; omega)))
  have HS12 := Lib.hid (Nat.le_trans HS10.out hb12.size)
  clear ho12 hb12
  go_wp2_with fail
  refine (Q2.out _ _ HI12.out).mono ?_
  rintro e w13 ⟨u13, rfl, ho13, hb13⟩
  obtain ⟨a13, cap13, rfl⟩ := OwnL.slice ho13
  have HH13 := Lib.hid (ho13.lAt numS fun _ _ => trivial : IntsAt w13 w13.heap.size _ r)
  have HM13 := Lib.hid (HM12.out.below hb13)
  have HB13 := Lib.hid (HB12.out.trans (hb13.mono HB12.out.size))
  have HW13 := Lib.hid (HW12.out.below (hb13.mono (by have := HS3.out; have := HS12.out; omega)))
  have HS13 := Lib.hid (Nat.le_trans HS12.out hb13.size)
  clear ho13 hb13
  go_wp2_with fail
  refine (eqInt64S_same _ _ r _ HH13.out (HW13.out.up (by have := HS3.out; have := HS13.out; omega))).mono ?_
  rintro e w14 ⟨rfl, hb14⟩
  have HM14 := Lib.hid (HM13.out.below hb14)
  have HB14 := Lib.hid (HB13.out.trans (hb14.mono HB13.out.size))
  clear hb14
  go_wp2_with fail
  refine (heldInt64S_any _ r.length 1 _ (HM14.out.lAt numS fun _ _ => trivial) (by omega) (by omega) (by omega)).mono ?_
  rintro e w15 ⟨rfl, rfl⟩
  go_wp2_with fail
  go_ret
  exact ⟨rfl, HB14.out⟩

set_option maxRecDepth 100000 in
theorem lifted (os : Os) (started : os.Started) (H : Type) (enc : TypeId × Value → H) :
    ReturnsInHanded {} Try.checked os 4 .any (Rows.fnExactWaysSpec.pre6 enc Try.prog Try.f4 Rows.fnExactWaysRow.domain false) (Rows.fnExactWaysSpec.post enc Try.prog Try.f4 false true false false) := by
  refine returnsInHanded_of_change (C := Try.checked) own started (by kernel_rfl) Try.func4
    (ChangeSpec.witness6 (enc := enc) (C := Try.checked) false ⟨#[], #[.slice none 0 0, .int .i64 0], []⟩ 8 (by kernel_rfl) (by kernel_rfl) (by kernel_rfl) (by kernel_rfl)) ?_
  intro W base args ds gs before hval0 hW hcnd _
  have hval : ∀ (j : Nat) t v, Try.f4.params[j]? = some t → args[j]? = some v → Value.okWide Try.prog W .any base t v := hval0
  have hW' := hW
  obtain ⟨p, q, hA0, hV, rfl, hfz, hnd⟩ := hW
  have hA : DataW.TrodAll enc Try.prog W 0 (fun _ => true) true Try.f4.params.toList args.toList ds p := hA0
  rw [Try.params4] at hA hval
  obtain ⟨v0, vs0, d0, ds0, p0, q0, hargs, rfl, rfl, h0, r0⟩ := trodAll_cons hA
  obtain ⟨v1, vs1, d1, ds1, p1, q1, rfl, rfl, rfl, h1, r1⟩ := trodAll_cons r0
  obtain ⟨rfl, rfl, rfl⟩ := trodAll_nil r1
  obtain rfl : args = #[v0, v1] := by cases args; simp_all
  obtain ⟨rfl, rfl⟩ := trodVars_none hV
  have lt0 : ∀ x ∈ p0, x.block < W.heap.size := by obtain ⟨m, hm⟩ := h0; exact DataW.trod_lt m _ _ _ hm
  have w0 := open_isInsns (hval 0 22 v0 rfl rfl) h0
  have lt1 : ∀ x ∈ p1, x.block < W.heap.size := by obtain ⟨m, hm⟩ := h1; exact DataW.trod_lt m _ _ _ hm
  have w1 := open_isI64 (hval 1 2 v1 rfl rfl) h1
  clear hA0 hval0
  refine (walk v0 v1 W w0 w1).mono fun e W' ⟨he, bel⟩ => ?_
  subst he
  exact ⟨_, rfl, _, _, _, [], _, [], hW', trodAll_mk1 (shut_bool Try.underlying4 _), (trodAll_cons_mk (Below.trod laidOut (by kernel_rfl) (of_decide_eq_true (by kernel_rfl)) h0 bel lt0) (trodAll_cons_mk (Below.trod laidOut (by kernel_rfl) (of_decide_eq_true (by kernel_rfl)) h1 bel lt1) trodAll_mk0)), rfl, bel.frame _, fun h => by cases h⟩

theorem over : Rows.fnExactWaysRow.holds Try.pinned (OpenSpec.ofChange Rows.fnExactWaysSpec) :=
  OpenClaim.holds_of_wide 4 Try.f4 rfl rfl rfl rfl rfl rfl rfl ⟨rfl, rfl, rfl, rfl, rfl⟩ rfl rfl rfl rfl rfl (by kernel_rfl) Try.func4 (by kernel_rfl)
    (of_decide_eq_true (by kernel_rfl)) (by unfold Func.isWrapper; first | (rw [if_pos (by decide +kernel)]; kernel_rfl) | (rw [if_neg (by decide +kernel)]; exact ⟨rfl, rfl⟩))
    (fun os started H enc _ => lifted os started H enc)

theorem proved : Rows.FnExactWaysSaid := over
#print axioms proved
end Go.Proofs.Ytibbcafhchoiiaa.fnExactWays

/-
  FnExactCmpHolds: for every input that the row speaks of, the law returns true, and its arguments read afterwards as before. No further conditions.
-/
import Derived.Test.YtmnmaijifhojiaaRows
import Derived.Test.YtmnmaijifhojiaaJf
import Derived.Test.YtmnmaijifhojiaaJd
import Derived.WalkKit
import Derived.ProofKit
import Derived.OpenShut
import Derived.ShutString
import Derived.ChangeOld
import Derived.Below
namespace Go.Proofs.Ytmnmaijifhojiaa.fnExactCmpHolds
open Go.ChangeShapes Go.WideShapes Go.ChangeAt Go.RowKit
open Go.ChangeMaps (open_string shut_string)
set_option linter.unusedVariables false

theorem own : ownKnob Try.prog.godebug = none := by kernel_rfl
theorem laidOut : laidOutB Try.prog = true := by kernel_rfl

set_option maxHeartbeats 3200000 in
theorem walk (a0 a1 : Value) (w : World) (w0 : IsCmp w a0) (w1 : IsWord w a1) :
    Calls Try.prog 5 #[a0, a1] w fun e w' => e = .returned (.bool true) ∧ Below w.heap.size w w' := by
  obtain ⟨⟨a, o, mh, ml, vh, vl⟩, rfl, hx⟩ := w0
  obtain ⟨⟨h, l⟩, rfl, hx'⟩ := w1
  have q0 := fun W => toCmp_any a o mh ml vh vl W
  have q0' := fun W => toWord_any h l W
  have q1 := fun W => specCmpHolds_any a o mh ml vh vl h l W
  have q2 := fun W => implCmpHolds_any a o mh ml vh vl h l W
  have hq : (cqHolds ⟨a, o, mh, ml, vh, vl⟩ ⟨h, l⟩ != cqHolds ⟨a, o, mh, ml, vh, vl⟩ ⟨h, l⟩) = false := by simp
  generalize cqHolds ⟨a, o, mh, ml, vh, vl⟩ ⟨h, l⟩ = r at *
  have Q0 := Lib.hid q0
  have Q0' := Lib.hid q0'
  have Q1 := Lib.hid q1
  have Q2 := Lib.hid q2
  clear q0 q0' q1 q2
  have hkeep : ∀ W : World, Below ((w.alloc (.cells #[.int .i64 a, .int .i64 o, .int .i64 mh, .int .i64 ml, .int .i64 vh, .int .i64 vl] 67)).alloc (.cells #[.int .i64 h, .int .i64 l] 65)).heap.size ((w.alloc (.cells #[.int .i64 a, .int .i64 o, .int .i64 mh, .int .i64 ml, .int .i64 vh, .int .i64 vl] 67)).alloc (.cells #[.int .i64 h, .int .i64 l] 65)) W → (W.cell? ⟨w.heap.size, 0, none⟩ = some (.int .i64 a) ∧ W.cell? ⟨w.heap.size, 1, none⟩ = some (.int .i64 o) ∧ W.cell? ⟨w.heap.size, 2, none⟩ = some (.int .i64 mh) ∧ W.cell? ⟨w.heap.size, 3, none⟩ = some (.int .i64 ml) ∧ W.cell? ⟨w.heap.size, 4, none⟩ = some (.int .i64 vh) ∧ W.cell? ⟨w.heap.size, 5, none⟩ = some (.int .i64 vl) ∧ W.cell? ⟨w.heap.size + 1, 0, none⟩ = some (.int .i64 h) ∧ W.cell? ⟨w.heap.size + 1, 1, none⟩ = some (.int .i64 l)) := fun W hb => ⟨(box2 hb).1 0, (box2 hb).1 1, (box2 hb).1 2, (box2 hb).1 3, (box2 hb).1 4, (box2 hb).1 5, (box2 hb).2.1 0, (box2 hb).2.1 1⟩
  have HK := Lib.hid hkeep
  clear hkeep
  have hbw1 : Below ((w.alloc (.cells #[.int .i64 a, .int .i64 o, .int .i64 mh, .int .i64 ml, .int .i64 vh, .int .i64 vl] 67)).alloc (.cells #[.int .i64 h, .int .i64 l] 65)).heap.size ((w.alloc (.cells #[.int .i64 a, .int .i64 o, .int .i64 mh, .int .i64 ml, .int .i64 vh, .int .i64 vl] 67)).alloc (.cells #[.int .i64 h, .int .i64 l] 65)) ((w.alloc (.cells #[.int .i64 a, .int .i64 o, .int .i64 mh, .int .i64 ml, .int .i64 vh, .int .i64 vl] 67)).alloc (.cells #[.int .i64 h, .int .i64 l] 65)).drew := (Below.refl _ _).drew
  go_enter Try.func5, Try.ntmps5
  go_wp2_with fail
  go_region_held3 (fun w' => w'.cell? ⟨w.heap.size, 0, none⟩ = some (.int .i64 a) ∧ w'.cell? ⟨w.heap.size, 1, none⟩ = some (.int .i64 o) ∧ w'.cell? ⟨w.heap.size, 2, none⟩ = some (.int .i64 mh) ∧ w'.cell? ⟨w.heap.size, 3, none⟩ = some (.int .i64 ml) ∧ w'.cell? ⟨w.heap.size, 4, none⟩ = some (.int .i64 vh) ∧ w'.cell? ⟨w.heap.size, 5, none⟩ = some (.int .i64 vl) ∧ w'.cell? ⟨w.heap.size + 1, 0, none⟩ = some (.int .i64 h) ∧ w'.cell? ⟨w.heap.size + 1, 1, none⟩ = some (.int .i64 l))
    (first | go_keep | exact HK.out _ hbw4 | exact HK.out _ hbw3 | exact HK.out _ hbw2 | exact HK.out _ hbw1)
    (first
      | (go_at_call 41; (with_reducible refine (Q0.out _).mono ?_); rintro e w2 ⟨rfl, hb2⟩; have hbw2 := hbw1.trans (hb2.mono hbw1.size))
      | (go_at_call 42; (with_reducible refine (Q0'.out _).mono ?_); rintro e w3 ⟨rfl, hb3⟩; have hbw3 := hbw2.trans (hb3.mono hbw2.size))
      | (go_at_call 22; (with_reducible refine (Q1.out _).mono ?_); rintro e w4 ⟨rfl, hb4⟩; have hbw4 := hbw3.trans (hb4.mono hbw3.size)))
  have HB4 := Lib.hid hbw4
  obtain ⟨c0, c1, c2, c3, c4, c5, d0, d1⟩ := HK.out _ hbw4
  have hbw5 := hbw4.drew
  clear hbw1 hbw2 hbw3 hbw4 hb2 hb3 hb4
  go_wp2_with fail
  go_region_held3 (fun w' => w'.cell? ⟨w.heap.size, 0, none⟩ = some (.int .i64 a) ∧ w'.cell? ⟨w.heap.size, 1, none⟩ = some (.int .i64 o) ∧ w'.cell? ⟨w.heap.size, 2, none⟩ = some (.int .i64 mh) ∧ w'.cell? ⟨w.heap.size, 3, none⟩ = some (.int .i64 ml) ∧ w'.cell? ⟨w.heap.size, 4, none⟩ = some (.int .i64 vh) ∧ w'.cell? ⟨w.heap.size, 5, none⟩ = some (.int .i64 vl) ∧ w'.cell? ⟨w.heap.size + 1, 0, none⟩ = some (.int .i64 h) ∧ w'.cell? ⟨w.heap.size + 1, 1, none⟩ = some (.int .i64 l))
    (first | go_keep | exact HK.out _ hbw8 | exact HK.out _ hbw7 | exact HK.out _ hbw6 | exact HK.out _ hbw5)
    (first
      | (go_at_call 41; (with_reducible refine (Q0.out _).mono ?_); rintro e w6 ⟨rfl, hb6⟩; have hbw6 := hbw5.trans (hb6.mono hbw5.size))
      | (go_at_call 42; (with_reducible refine (Q0'.out _).mono ?_); rintro e w7 ⟨rfl, hb7⟩; have hbw7 := hbw6.trans (hb7.mono hbw6.size))
      | (go_at_call 14; (with_reducible refine (Q2.out _).mono ?_); rintro e w8 ⟨rfl, hb8⟩; have hbw8 := hbw7.trans (hb8.mono hbw7.size)))
  have HB8 := Lib.hid hbw8
  clear hbw5 hbw6 hbw7 hbw8 hb6 hb7 hb8 c0 c1 c2 c3 c4 c5 d0 d1
  go_wp2_with fail
  go_ret
  exact ⟨rfl, (rows2 HB8.out).2.2.1⟩

set_option maxRecDepth 100000 in
theorem lifted (os : Os) (started : os.Started) (H : Type) (enc : TypeId × Value → H) :
    ReturnsInHanded {} Try.checked os 5 .any (Rows.fnExactCmpHoldsSpec.pre6 enc Try.prog Try.f5 Rows.fnExactCmpHoldsRow.domain false) (Rows.fnExactCmpHoldsSpec.post enc Try.prog Try.f5 false true false false) := by
  refine returnsInHanded_of_change (C := Try.checked) own started (by kernel_rfl) Try.func5
    (ChangeSpec.witness6 (enc := enc) (C := Try.checked) false ⟨#[], #[.agg #[.int .i64 0, .int .i64 0, .int .i64 0, .int .i64 0, .int .i64 0, .int .i64 0], .agg #[.int .i64 0, .int .i64 0]], []⟩ 8 (by kernel_rfl) (by kernel_rfl) (by kernel_rfl) (by kernel_rfl)) ?_
  intro W base args ds gs before hval0 hW hcnd _
  have hval : ∀ (j : Nat) t v, Try.f5.params[j]? = some t → args[j]? = some v → Value.okWide Try.prog W .any base t v := hval0
  have hW' := hW
  obtain ⟨p, q, hA0, hV, rfl, hfz, hnd⟩ := hW
  have hA : DataW.TrodAll enc Try.prog W 0 (fun _ => true) true Try.f5.params.toList args.toList ds p := hA0
  rw [Try.params5] at hA hval
  obtain ⟨v0, vs0, d0, ds0, p0, q0, hargs, rfl, rfl, h0, r0⟩ := trodAll_cons hA
  obtain ⟨v1, vs1, d1, ds1, p1, q1, rfl, rfl, rfl, h1, r1⟩ := trodAll_cons r0
  obtain ⟨rfl, rfl, rfl⟩ := trodAll_nil r1
  obtain rfl : args = #[v0, v1] := by cases args; simp_all
  obtain ⟨rfl, rfl⟩ := trodVars_none hV
  have lt0 : ∀ x ∈ p0, x.block < W.heap.size := by obtain ⟨m, hm⟩ := h0; exact DataW.trod_lt m _ _ _ hm
  have w0 := open_isCmp (hval 0 67 v0 rfl rfl) h0
  have lt1 : ∀ x ∈ p1, x.block < W.heap.size := by obtain ⟨m, hm⟩ := h1; exact DataW.trod_lt m _ _ _ hm
  have w1 := open_isWord (hval 1 65 v1 rfl rfl) h1
  clear hA0 hval0
  refine (walk v0 v1 W w0 w1).mono fun e W' ⟨he, bel⟩ => ?_
  subst he
  exact ⟨_, rfl, _, _, _, [], _, [], hW', trodAll_mk1 (shut_bool Try.underlying4 _), (trodAll_cons_mk (Below.trod laidOut (by kernel_rfl) (of_decide_eq_true (by kernel_rfl)) h0 bel lt0) (trodAll_cons_mk (Below.trod laidOut (by kernel_rfl) (of_decide_eq_true (by kernel_rfl)) h1 bel lt1) trodAll_mk0)), rfl, bel.frame _, fun h => by cases h⟩

theorem over : Rows.fnExactCmpHoldsRow.holds Try.pinned (OpenSpec.ofChange Rows.fnExactCmpHoldsSpec) :=
  OpenClaim.holds_of_wide 5 Try.f5 rfl rfl rfl rfl rfl rfl rfl ⟨rfl, rfl, rfl, rfl, rfl⟩ rfl rfl rfl rfl rfl (by kernel_rfl) Try.func5 (by kernel_rfl)
    (of_decide_eq_true (by kernel_rfl)) (by unfold Func.isWrapper; first | (rw [if_pos (by decide +kernel)]; kernel_rfl) | (rw [if_neg (by decide +kernel)]; exact ⟨rfl, rfl⟩))
    (fun os started H enc _ => lifted os started H enc)

theorem proved : Rows.FnExactCmpHoldsSaid := over
#print axioms proved
end Go.Proofs.Ytmnmaijifhojiaa.fnExactCmpHolds

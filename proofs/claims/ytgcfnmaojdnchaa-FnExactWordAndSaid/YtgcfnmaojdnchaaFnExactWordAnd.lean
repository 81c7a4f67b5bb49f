/-
  FnExactWordAnd: for every input that the row speaks of, the law returns true, and its arguments read afterwards as before. No further conditions.
-/
import Derived.Test.YtgcfnmaojdnchaaRows
import Derived.Test.YtgcfnmaojdnchaaIw
import Derived.Test.YtgcfnmaojdnchaaWw
import Derived.Test.YtgcfnmaojdnchaaRo
import Derived.Test.YtgcfnmaojdnchaaRb
import Derived.Test.YtgcfnmaojdnchaaRh
import Derived.Deep.DeepCutAuto
import Derived.Deep.CutRange
import Derived.WalkKit
import Derived.ProofKit
import Derived.OpenShut
import Derived.ShutString
import Derived.ChangeOld
import Derived.Below
namespace Go.Proofs.Ytgcfnmaojdnchaa.fnExactWordAnd
open Go.ChangeShapes Go.WideShapes Go.ChangeAt Go.RowKit
open Go.ChangeMaps (open_string shut_string)
set_option linter.unusedVariables false

theorem own : ownKnob Try.prog.godebug = none := by kernel_rfl
theorem laidOut : laidOutB Try.prog = true := by kernel_rfl

set_option maxHeartbeats 3200000 in
theorem walk (a0 a1 : Value) (w : World) (w0 : IsWord w a0) (w1 : IsWord w a1) :
    Calls Try.prog 6 #[a0, a1] w fun e w' => e = .returned (.bool true) ∧ Below w.heap.size w w' := by
  obtain ⟨⟨h, l⟩, rfl, hx⟩ := w0
  obtain ⟨⟨h', l'⟩, rfl, hx'⟩ := w1
  have q0 := fun W => toWord_any h l W
  have q0' := fun W => toWord_any h' l' W
  have q1 := fun W => specWordAnd_any h l h' l' W
  have q2 := fun W => implWordAnd_any h l h' l' W
  generalize wdAnd ⟨h, l⟩ ⟨h', l'⟩ = r at *
  obtain ⟨rh, rl⟩ := r
  simp only at q1 q2
  have Q0 := Lib.hid q0
  have Q0' := Lib.hid q0'
  have Q1 := Lib.hid q1
  have Q2 := Lib.hid q2
  clear q0 q0' q1 q2
  have hkeep : ∀ W : World, Below ((w.alloc (.cells #[.int .i64 h, .int .i64 l] 46)).alloc (.cells #[.int .i64 h', .int .i64 l'] 46)).heap.size ((w.alloc (.cells #[.int .i64 h, .int .i64 l] 46)).alloc (.cells #[.int .i64 h', .int .i64 l'] 46)) W → (W.cell? ⟨w.heap.size, 0, none⟩ = some (.int .i64 h) ∧ W.cell? ⟨w.heap.size, 1, none⟩ = some (.int .i64 l) ∧ W.cell? ⟨w.heap.size + 1, 0, none⟩ = some (.int .i64 h') ∧ W.cell? ⟨w.heap.size + 1, 1, none⟩ = some (.int .i64 l')) := fun W hb => ⟨(box2 hb).1 0, (box2 hb).1 1, (box2 hb).2.1 0, (box2 hb).2.1 1⟩
  have HK := Lib.hid hkeep
  clear hkeep
  go_enter Try.func6, Try.ntmps6
  go_upto_region 1 with fail
  go_cut [5] from 7 to 12 (fun p ws => ∃ (X : Nat) (V : World), p = .pointer (some ⟨X, 0, none⟩) ∧ V = ws ∧ ws.heap[X]? = some (.cells #[.int .i64 rh, .int .i64 rl] 24 (0, 0)) ∧ Below ((w.alloc (.cells #[.int .i64 h, .int .i64 l] 46)).alloc (.cells #[.int .i64 h', .int .i64 l'] 46)).heap.size ((w.alloc (.cells #[.int .i64 h, .int .i64 l] 46)).alloc (.cells #[.int .i64 h', .int .i64 l'] 46)) ws)
  case first =>
    have hbw1 : Below ((w.alloc (.cells #[.int .i64 h, .int .i64 l] 46)).alloc (.cells #[.int .i64 h', .int .i64 l'] 46)).heap.size ((w.alloc (.cells #[.int .i64 h, .int .i64 l] 46)).alloc (.cells #[.int .i64 h', .int .i64 l'] 46)) ((w.alloc (.cells #[.int .i64 h, .int .i64 l] 46)).alloc (.cells #[.int .i64 h', .int .i64 l'] 46)).drew := (Below.refl _ _).drew
    go_wp2_with fail
    go_region_held3 (fun w' => (w'.cell? ⟨w.heap.size, 0, none⟩ = some (.int .i64 h) ∧ w'.cell? ⟨w.heap.size, 1, none⟩ = some (.int .i64 l) ∧ w'.cell? ⟨w.heap.size + 1, 0, none⟩ = some (.int .i64 h') ∧ w'.cell? ⟨w.heap.size + 1, 1, none⟩ = some (.int .i64 l')))
      (first | exact HK.out _ ((hbw4.setCell (p := ⟨_, 0, none⟩) hbw3.size _).setCell (p := ⟨_, 1, none⟩) hbw3.size _) | exact HK.out _ ((hbw4.setCell (p := ⟨_, 0, none⟩) hbw2.size _).setCell (p := ⟨_, 1, none⟩) hbw2.size _) | exact HK.out _ ((hbw4.setCell (p := ⟨w.heap.size + 1 + 1, 0, none⟩) (by simp) _).setCell (p := ⟨w.heap.size + 1 + 1, 1, none⟩) (by simp) _) | exact HK.out _ (hbw4.alloc hbw4.size _) | exact HK.out _ (hbw3.alloc hbw3.size _) | exact HK.out _ (hbw2.alloc hbw2.size _) | exact HK.out _ (hbw1.alloc hbw1.size _) | exact HK.out _ hbw4 | exact HK.out _ hbw3 | exact HK.out _ hbw2 | exact HK.out _ hbw1 | go_keep)
      (first
        | (go_at_call 31; (with_reducible refine (Q0.out _).mono ?_); rintro e w2 ⟨rfl, hb2⟩; (first | (have hbw2 := hbw1.trans (hb2.mono hbw1.size); try (have row := Lib.hid (below_row hb2 row.out))) | (have hbw2 := hbw1.trans ((box_below hb2).mono hbw1.size); have row := Lib.hid ((hb2.block _ (by simp)).trans (heap_alloc_new _ _))) | (have hbx := (show Below (((w.alloc (.cells #[.int .i64 h, .int .i64 l] 46)).alloc (.cells #[.int .i64 h', .int .i64 l'] 46)).drew.alloc (.cells #[.int .i64 0, .int .i64 0] 24)).heap.size (((w.alloc (.cells #[.int .i64 h, .int .i64 l] 46)).alloc (.cells #[.int .i64 h', .int .i64 l'] 46)).drew.alloc (.cells #[.int .i64 0, .int .i64 0] 24)) _ from hb2); have hbw2 := hbw1.trans ((box_below hbx).mono hbw1.size); have row : Hid (w2.heap[w.heap.size + 1 + 1]? = some (.cells #[.int .i64 0, .int .i64 0] 24 (0, 0))) := Lib.hid (by simpa only [World.size_drew, World.size_alloc] using (hbx.block ((w.alloc (.cells #[.int .i64 h, .int .i64 l] 46)).alloc (.cells #[.int .i64 h', .int .i64 l'] 46)).drew.heap.size (by simp)).trans (heap_alloc_new ((w.alloc (.cells #[.int .i64 h, .int .i64 l] 46)).alloc (.cells #[.int .i64 h', .int .i64 l'] 46)).drew _)))))
        | (go_at_call 31; (with_reducible refine (Q0'.out _).mono ?_); rintro e w3 ⟨rfl, hb3⟩; (first | (have hbw3 := hbw2.trans (hb3.mono hbw2.size); try (have row := Lib.hid (below_row hb3 row.out))) | (have hbw3 := hbw2.trans ((box_below hb3).mono hbw2.size); have row := Lib.hid ((hb3.block _ (by simp)).trans (heap_alloc_new _ _)))))
        | (go_at_call 23; (with_reducible refine (Q1.out _).mono ?_); rintro e w4 ⟨rfl, hb4⟩; (first | (have hbw4 := hbw3.trans (hb4.mono hbw3.size); try (have row := Lib.hid (below_row hb4 row.out))) | (have hbw4 := hbw3.trans ((box_below hb4).mono hbw3.size); have row := Lib.hid ((hb4.block _ (by simp)).trans (heap_alloc_new _ _)))); try (have e0 := row_cell row.out 0; have e1 := row_cell row.out 1; have f0 := frozen_row row.out 0; have f1 := frozen_row row.out 1; simp only [List.getElem?_toArray, List.getElem?_cons_zero, List.getElem?_cons_succ] at e0 e1; try simp only [World.size_drew, World.size_alloc] at e0 e1 f0 f1)))
    all_goals
      go_wp2_with fail
      go_meet
      first
        | exact ⟨_, _, rfl, rfl, heap_alloc_new _ _, hbw4.alloc hbw4.size _⟩
        | exact ⟨_, _, rfl, rfl, row_put (row_put row.out 0 _) 1 _, ((hbw4.setCell (p := ⟨_, 0, none⟩) hbw3.size _).setCell (p := ⟨_, 1, none⟩) hbw3.size _)⟩
        | exact ⟨_, _, rfl, rfl, row_put (row_put row.out 0 _) 1 _, ((hbw4.setCell (p := ⟨_, 0, none⟩) hbw2.size _).setCell (p := ⟨_, 1, none⟩) hbw2.size _)⟩
        | exact ⟨_, _, rfl, rfl, row_put (row_put row.out 0 _) 1 _, ((hbw4.setCell (p := ⟨w.heap.size + 1 + 1, 0, none⟩) (by simp) _).setCell (p := ⟨w.heap.size + 1 + 1, 1, none⟩) (by simp) _)⟩
  case rest =>
  obtain ⟨X, V, rfl, hV, hrow, hA⟩ := hcut
  subst hV
  have HKV : Hid (∀ W : World, Below V.heap.size V W → (W.cell? ⟨w.heap.size, 0, none⟩ = some (.int .i64 h) ∧ W.cell? ⟨w.heap.size, 1, none⟩ = some (.int .i64 l) ∧ W.cell? ⟨w.heap.size + 1, 0, none⟩ = some (.int .i64 h') ∧ W.cell? ⟨w.heap.size + 1, 1, none⟩ = some (.int .i64 l'))) := Lib.hid (fun W hb => HK.out _ (hA.trans (hb.mono hA.size)))
  have HX := Lib.hid hrow
  have hXlt : X < V.heap.size := row_here hrow
  have HA := Lib.hid hA
  clear hrow hA
  go_upto_region 2 with fail
  go_cut [6] from 12 to 17 (fun p ws => ∃ (Y : Nat) (V' : World), p = .pointer (some ⟨Y, 0, none⟩) ∧ V' = ws ∧ ws.heap[Y]? = some (.cells #[.int .i64 rh, .int .i64 rl] 24 (0, 0)) ∧ Below V.heap.size V ws)
  case first =>
    have hbw1 : Below V.heap.size V V.drew := (Below.refl _ _).drew
    go_wp2_with fail
    go_region_held3 (fun w' => (w'.cell? ⟨w.heap.size, 0, none⟩ = some (.int .i64 h) ∧ w'.cell? ⟨w.heap.size, 1, none⟩ = some (.int .i64 l) ∧ w'.cell? ⟨w.heap.size + 1, 0, none⟩ = some (.int .i64 h') ∧ w'.cell? ⟨w.heap.size + 1, 1, none⟩ = some (.int .i64 l')))
      (first | exact HKV.out _ ((hbw4.setCell (p := ⟨_, 0, none⟩) hbw3.size _).setCell (p := ⟨_, 1, none⟩) hbw3.size _) | exact HKV.out _ ((hbw4.setCell (p := ⟨_, 0, none⟩) hbw2.size _).setCell (p := ⟨_, 1, none⟩) hbw2.size _) | exact HKV.out _ ((hbw4.setCell (p := ⟨V.heap.size, 0, none⟩) (by simp) _).setCell (p := ⟨V.heap.size, 1, none⟩) (by simp) _) | exact HKV.out _ (hbw4.alloc hbw4.size _) | exact HKV.out _ (hbw3.alloc hbw3.size _) | exact HKV.out _ (hbw2.alloc hbw2.size _) | exact HKV.out _ (hbw1.alloc hbw1.size _) | exact HKV.out _ hbw4 | exact HKV.out _ hbw3 | exact HKV.out _ hbw2 | exact HKV.out _ hbw1 | go_keep)
      (first
        | (go_at_call 31; (with_reducible refine (Q0.out _).mono ?_); rintro e w2 ⟨rfl, hb2⟩; (first | (have hbw2 := hbw1.trans (hb2.mono hbw1.size); try (have row := Lib.hid (below_row hb2 row.out))) | (have hbw2 := hbw1.trans ((box_below hb2).mono hbw1.size); have row := Lib.hid ((hb2.block _ (by simp)).trans (heap_alloc_new _ _))) | (have hbx := (show Below (V.drew.alloc (.cells #[.int .i64 0, .int .i64 0] 24)).heap.size (V.drew.alloc (.cells #[.int .i64 0, .int .i64 0] 24)) _ from hb2); have hbw2 := hbw1.trans ((box_below hbx).mono hbw1.size); have row : Hid (w2.heap[V.heap.size]? = some (.cells #[.int .i64 0, .int .i64 0] 24 (0, 0))) := Lib.hid (by simpa only [World.size_drew, World.size_alloc] using (hbx.block V.drew.heap.size (by simp)).trans (heap_alloc_new V.drew _)))))
        | (go_at_call 31; (with_reducible refine (Q0'.out _).mono ?_); rintro e w3 ⟨rfl, hb3⟩; (first | (have hbw3 := hbw2.trans (hb3.mono hbw2.size); try (have row := Lib.hid (below_row hb3 row.out))) | (have hbw3 := hbw2.trans ((box_below hb3).mono hbw2.size); have row := Lib.hid ((hb3.block _ (by simp)).trans (heap_alloc_new _ _)))))
        | (go_at_call 17; (with_reducible refine (Q2.out _).mono ?_); rintro e w4 ⟨rfl, hb4⟩; (first | (have hbw4 := hbw3.trans (hb4.mono hbw3.size); try (have row := Lib.hid (below_row hb4 row.out))) | (have hbw4 := hbw3.trans ((box_below hb4).mono hbw3.size); have row := Lib.hid ((hb4.block _ (by simp)).trans (heap_alloc_new _ _)))); try (have e0 := row_cell row.out 0; have e1 := row_cell row.out 1; have f0 := frozen_row row.out 0; have f1 := frozen_row row.out 1; simp only [List.getElem?_toArray, List.getElem?_cons_zero, List.getElem?_cons_succ] at e0 e1; try simp only [World.size_drew, World.size_alloc] at e0 e1 f0 f1)))
    all_goals
      go_wp2_with fail
      go_meet
      first
        | exact ⟨_, _, rfl, rfl, heap_alloc_new _ _, hbw4.alloc hbw4.size _⟩
        | exact ⟨_, _, rfl, rfl, row_put (row_put row.out 0 _) 1 _, ((hbw4.setCell (p := ⟨_, 0, none⟩) hbw3.size _).setCell (p := ⟨_, 1, none⟩) hbw3.size _)⟩
        | exact ⟨_, _, rfl, rfl, row_put (row_put row.out 0 _) 1 _, ((hbw4.setCell (p := ⟨_, 0, none⟩) hbw2.size _).setCell (p := ⟨_, 1, none⟩) hbw2.size _)⟩
        | exact ⟨_, _, rfl, rfl, row_put (row_put row.out 0 _) 1 _, ((hbw4.setCell (p := ⟨V.heap.size, 0, none⟩) (by simp) _).setCell (p := ⟨V.heap.size, 1, none⟩) (by simp) _)⟩
  case rest =>
  obtain ⟨Y, V', rfl, hV, hrow, hB⟩ := hcut
  subst hV
  have hrx := (hB.block X hXlt).trans HX.out
  have c0 := row_cell hrx 0
  have c1 := row_cell hrx 1
  have d0 := row_cell hrow 0
  have d1 := row_cell hrow 1
  simp only [List.getElem?_toArray, List.getElem?_cons_zero, List.getElem?_cons_succ] at c0 c1 d0 d1
  have HT := Lib.hid (HA.out.trans (hB.mono HA.out.size))
  clear hrx hrow hB
  go_wp2_with fail
  refine (eqWord_same ⟨rh, rl⟩ _).mono ?_
  rintro e w9 ⟨rfl, hb9⟩
  have HE := Lib.hid (HT.out.trans (hb9.mono HT.out.size))
  clear hb9 c0 c1 d0 d1
  go_wp2_with fail
  go_ret
  exact ⟨rfl, (rows2 HE.out).2.2.1⟩

set_option maxRecDepth 100000 in
theorem lifted (os : Os) (started : os.Started) (H : Type) (enc : TypeId × Value → H) :
    ReturnsInHanded {} Try.checked os 6 .any (Rows.fnExactWordAndSpec.pre6 enc Try.prog Try.f6 Rows.fnExactWordAndRow.domain false) (Rows.fnExactWordAndSpec.post enc Try.prog Try.f6 false true false false) := by
  refine returnsInHanded_of_change (C := Try.checked) own started (by kernel_rfl) Try.func6
    (ChangeSpec.witness6 (enc := enc) (C := Try.checked) false ⟨#[], #[.agg #[.int .i64 0, .int .i64 0], .agg #[.int .i64 0, .int .i64 0]], []⟩ 8 (by kernel_rfl) (by kernel_rfl) (by kernel_rfl) (by kernel_rfl)) ?_
  intro W base args ds gs before hval0 hW hcnd _
  have hval : ∀ (j : Nat) t v, Try.f6.params[j]? = some t → args[j]? = some v → Value.okWide Try.prog W .any base t v := hval0
  have hW' := hW
  obtain ⟨p, q, hA0, hV, rfl, hfz, hnd⟩ := hW
  have hA : DataW.TrodAll enc Try.prog W 0 (fun _ => true) true Try.f6.params.toList args.toList ds p := hA0
  rw [Try.params6] at hA hval
  obtain ⟨v0, vs0, d0, ds0, p0, q0, hargs, rfl, rfl, h0, r0⟩ := trodAll_cons hA
  obtain ⟨v1, vs1, d1, ds1, p1, q1, rfl, rfl, rfl, h1, r1⟩ := trodAll_cons r0
  obtain ⟨rfl, rfl, rfl⟩ := trodAll_nil r1
  obtain rfl : args = #[v0, v1] := by cases args; simp_all
  obtain ⟨rfl, rfl⟩ := trodVars_none hV
  have lt0 : ∀ x ∈ p0, x.block < W.heap.size := by obtain ⟨m, hm⟩ := h0; exact DataW.trod_lt m _ _ _ hm
  have w0 := open_isWord (hval 0 46 v0 rfl rfl) h0
  have lt1 : ∀ x ∈ p1, x.block < W.heap.size := by obtain ⟨m, hm⟩ := h1; exact DataW.trod_lt m _ _ _ hm
  have w1 := open_isWord (hval 1 46 v1 rfl rfl) h1
  clear hA0 hval0
  refine (walk v0 v1 W w0 w1).mono fun e W' ⟨he, bel⟩ => ?_
  subst he
  exact ⟨_, rfl, _, _, _, [], _, [], hW', trodAll_mk1 (shut_bool Try.underlying4 _), (trodAll_cons_mk (Below.trod laidOut (by kernel_rfl) (of_decide_eq_true (by kernel_rfl)) h0 bel lt0) (trodAll_cons_mk (Below.trod laidOut (by kernel_rfl) (of_decide_eq_true (by kernel_rfl)) h1 bel lt1) trodAll_mk0)), rfl, bel.frame _, fun h => by cases h⟩

theorem over : Rows.fnExactWordAndRow.holds Try.pinned (OpenSpec.ofChange Rows.fnExactWordAndSpec) :=
  OpenClaim.holds_of_wide 6 Try.f6 rfl rfl rfl rfl rfl rfl rfl ⟨rfl, rfl, rfl, rfl, rfl⟩ rfl rfl rfl rfl rfl (by kernel_rfl) Try.func6 (by kernel_rfl)
    (of_decide_eq_true (by kernel_rfl)) (by unfold Func.isWrapper; first | (rw [if_pos (by decide +kernel)]; kernel_rfl) | (rw [if_neg (by decide +kernel)]; exact ⟨rfl, rfl⟩))
    (fun os started H enc _ => lifted os started H enc)

theorem proved : Rows.FnExactWordAndSaid := over
#print axioms proved
end Go.Proofs.Ytgcfnmaojdnchaa.fnExactWordAnd

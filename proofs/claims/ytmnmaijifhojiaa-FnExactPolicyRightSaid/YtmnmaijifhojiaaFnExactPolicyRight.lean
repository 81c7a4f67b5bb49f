/-
  FnExactPolicyRight: for every input that the row speaks of, the law returns true, and its arguments read afterwards as before. No further conditions.
-/
import Derived.Test.YtmnmaijifhojiaaRows
import Derived.Test.YtmnmaijifhojiaaJq
import Derived.Test.YtmnmaijifhojiaaJp
import Derived.Deep.DeepCutAuto
import Derived.Deep.CutRange
import Derived.WalkKit
import Derived.ProofKit
import Derived.OpenShut
import Derived.ShutString
import Derived.ChangeOld
import Derived.Below
namespace Go.Proofs.Ytmnmaijifhojiaa.fnExactPolicyRight
open Go.ChangeShapes Go.WideShapes Go.ChangeAt Go.RowKit
open Go.ChangeMaps (open_string shut_string)
set_option linter.unusedVariables false
set_option linter.unusedSimpArgs false

theorem own : ownKnob Try.prog.godebug = none := by kernel_rfl
theorem laidOut : laidOutB Try.prog = true := by kernel_rfl

set_option maxHeartbeats 3200000 in
theorem walk (a0 : Value) (w : World) (w0 : IsPolicy w a0) :
    Calls Try.prog 9 #[a0] w fun e w' => e = .returned (.bool true) ∧ Below w.heap.size w w' := by
  obtain ⟨ar, df, bd, l, u, rfl, har, hdf, hbd, hu⟩ := w0
  obtain ⟨a, cap, rfl, hlc, hcm⟩ := hu.len
  have hsz := fun W (h : Below w.heap.size w W) => szPolicy_any ar df bd _ l 1048576 W (RvAt.up (RvAt.below hu h) h.size) (by omega) (by omega)
  have HB0 := Lib.hid (show ∀ o : Obj, Below w.heap.size w (w.alloc o) from fun o => (Below.refl _ _).alloc (Nat.le_refl _) _)
  by_cases hlen : szRs 1048576 (rls l) < 0
  · generalize szRs 1048576 (rls l) = s at *
    have HZ := Lib.hid hsz
    clear hsz hu
    go_enter Try.func9, Try.ntmps9
    go_wp2_with fail
    refine (HZ.out _ (HB0.out _)).mono ?_
    rintro e w1 ⟨rfl, hb1⟩
    have HB := Lib.hid (box_below hb1)
    clear hb1
    go_wp2_with fail
    go_ret
    exact ⟨rfl, HB.out⟩
  have hbd2 := szRs_bd (l := rls l) (x := 1048576) (by omega)
  have hll : (rls l).length = l.length := by simp [rls]
  have hn : l.length ≤ 1048576 := by have := hbd2.2.1; omega
  have hc : ∀ x ∈ l, x.r.cs.length ≤ 1048576 := fun x hx => by have := hbd2.2.2 x.r (List.mem_map.2 ⟨x, hx, rfl⟩); omega
  have hd0 : decide (szRs 1048576 (rls l) < 0) = false := by simpa using hlen
  have qt := fun W (h : Below w.heap.size w W) => toPolicy_any ar df bd l _ W (RvAt.up (RvAt.below hu h) h.size) hn hc
  have qs := fun u' (l' : List Rv) W (e : rls l' = rls l) (h : RvAt W W.heap.size u' l') => specPolicyRight_any ar df bd l' u' W h
  have qi := fun u' (l' : List Rv) W (e : rls l' = rls l) (h : RvAt W W.heap.size u' l') => implPolicyRight_any ar df bd l' u' W h
  have qs2 : ∀ u' (l' : List Rv) W, rls l' = rls l → RvAt W W.heap.size u' l' → Calls Try.prog 38 #[polV ar df bd u'] W fun e w' => e = .returned (.bool (polRight ⟨ar, df, bd, rls l⟩)) ∧ Below W.heap.size W w' := fun u' l' W e h => by
    have := qs u' l' W e h
    rwa [e] at this
  have qi2 : ∀ u' (l' : List Rv) W, rls l' = rls l → RvAt W W.heap.size u' l' → Calls Try.prog 37 #[polV ar df bd u'] W fun e w' => e = .returned (.bool (polRight ⟨ar, df, bd, rls l⟩)) ∧ Below W.heap.size W w' := fun u' l' W e h => by
    have := qi u' l' W e h
    rwa [e] at this
  have qe : ∀ u1 u2 (l1 l2 : List Rv) W, rls l1 = rls l → rls l2 = rls l → RvAt W W.heap.size u1 l1 → RvAt W W.heap.size u2 l2 → Calls Try.prog 51 #[polV ar df bd u1, polV ar df bd u2] W fun e w' => e = .returned (.bool true) ∧ Below W.heap.size W w' := fun u1 u2 l1 l2 W e1 e2 h1 h2 => by
    have := eqPolicy_any ar df bd ar df bd l1 l2 u1 u2 W h1 h2
    rwa [e1, e2, decide_eq_true rfl] at this
  have hwf := Lib.hid hu.wf
  have hq : (polRight ⟨ar, df, bd, rls l⟩ != polRight ⟨ar, df, bd, rls l⟩) = false := by simp
  generalize polRight ⟨ar, df, bd, rls l⟩ = res at *
  generalize szRs 1048576 (rls l) = s at *
  have HZ := Lib.hid hsz
  have QT := Lib.hid qt
  have QS := Lib.hid qs2
  have QI := Lib.hid qi2
  have QE := Lib.hid qe
  clear hsz qt qs qi qs2 qi2 qe hu hn hc hbd2 hlen
  go_enter Try.func9, Try.ntmps9
  go_wp2_with fail
  refine (HZ.out _ (HB0.out _)).mono ?_
  rintro e w1 ⟨rfl, hb1⟩
  have HB1 := Lib.hid hb1
  clear hb1
  have c0 := box_cell HB1.out 0
  have c1 := box_cell HB1.out 1
  have c2 := box_cell HB1.out 2
  have c3 := box_cell HB1.out 3
  simp only [List.getElem?_toArray, List.getElem?_cons_zero, List.getElem?_cons_succ] at c0 c1 c2 c3
  go_wp2_with fail
  clear c0 c1 c2 c3
  refine (QT.out _ (box_below HB1.out)).mono ?_
  rintro e w2 ⟨u2, l2, rfl, hl2, ho2, hb2⟩
  obtain ⟨a2, cap2, rfl⟩ := OwnRv.slice ho2
  have HI2 := Lib.hid (OwnRv.at' ho2 hl2 hwf.out)
  have HL2 := Lib.hid hl2
  have HB2 := Lib.hid (HB1.out.trans (hb2.mono HB1.out.size))
  clear ho2 hb2 hl2
  go_wp2_with fail
  refine (QS.out _ _ _ HL2.out HI2.out).mono ?_
  rintro e w3 ⟨rfl, hb3⟩
  have HB3 := Lib.hid (HB2.out.trans (hb3.mono HB2.out.size))
  clear hb3
  have c0 := box_cell HB3.out 0
  have c1 := box_cell HB3.out 1
  have c2 := box_cell HB3.out 2
  have c3 := box_cell HB3.out 3
  simp only [List.getElem?_toArray, List.getElem?_cons_zero, List.getElem?_cons_succ] at c0 c1 c2 c3
  go_wp2_with fail
  clear c0 c1 c2 c3
  refine (QT.out _ (box_below HB3.out)).mono ?_
  rintro e w4 ⟨u4, l4, rfl, hl4, ho4, hb4⟩
  obtain ⟨a4, cap4, rfl⟩ := OwnRv.slice ho4
  have HI4 := Lib.hid (OwnRv.at' ho4 hl4 hwf.out)
  have HL4 := Lib.hid hl4
  have HB4 := Lib.hid (HB3.out.trans (hb4.mono HB3.out.size))
  clear ho4 hb4 hl4
  go_wp2_with fail
  have hbn : ∀ o, Below w4.heap.size w4 (w4.alloc o) := fun o => (Below.refl _ _).alloc (Nat.le_refl _) _
  refine (QI.out _ _ _ HL4.out (RvAt.up (RvAt.below HI4.out (hbn _)) (hbn _).size)).mono ?_
  rintro e w5 ⟨rfl, hb5⟩
  obtain hr5 := (hb5.block w4.heap.size (by simp)).trans (heap_alloc_new w4 _)
  have hb45 : Below w4.heap.size w4 w5 := (hbn _).trans (hb5.mono (hbn _).size)
  have HI5 := Lib.hid (RvAt.up (RvAt.below HI4.out hb45) hb45.size)
  have HB5 := Lib.hid (HB4.out.trans (hb45.mono HB4.out.size))
  have hlt5 : w4.heap.size < w5.heap.size := row_here hr5
  have HR5 := Lib.hid hr5
  clear hb5 hb45 hbn hr5
  have hkeep : ∀ W : World, Below w5.heap.size w5 W → (W.cell? ⟨w4.heap.size, 0, none⟩ = some (.int .i64 ar) ∧ W.cell? ⟨w4.heap.size, 1, none⟩ = some (.int .i64 df) ∧ W.cell? ⟨w4.heap.size, 2, none⟩ = some (.int .i64 bd) ∧ W.cell? ⟨w4.heap.size, 3, none⟩ = some (.slice a4 l4.length cap4) ∧ W.cell? ⟨w.heap.size, 0, none⟩ = some (.int .i64 ar) ∧ W.cell? ⟨w.heap.size, 1, none⟩ = some (.int .i64 df) ∧ W.cell? ⟨w.heap.size, 2, none⟩ = some (.int .i64 bd) ∧ W.cell? ⟨w.heap.size, 3, none⟩ = some (.slice a l.length cap)) := fun W hb => by
    have r1 := (hb.block _ hlt5).trans HR5.out
    have h2 := HB5.out.trans (hb.mono HB5.out.size)
    exact ⟨row_cell r1 0, row_cell r1 1, row_cell r1 2, row_cell r1 3, box_cell h2 0, box_cell h2 1, box_cell h2 2, box_cell h2 3⟩
  have HK := Lib.hid hkeep
  clear hkeep
  obtain ⟨d0, d1, d2, d3, c0, c1, c2, c3⟩ := HK.out _ (Below.refl _ _)
  have hbw5 : Below w5.heap.size w5 w5.drew := (Below.refl _ _).drew
  go_wp2_with fail
  go_region_held3 (fun w' => w'.cell? ⟨w4.heap.size, 0, none⟩ = some (.int .i64 ar) ∧ w'.cell? ⟨w4.heap.size, 1, none⟩ = some (.int .i64 df) ∧ w'.cell? ⟨w4.heap.size, 2, none⟩ = some (.int .i64 bd) ∧ w'.cell? ⟨w4.heap.size, 3, none⟩ = some (.slice a4 l4.length cap4) ∧ w'.cell? ⟨w.heap.size, 0, none⟩ = some (.int .i64 ar) ∧ w'.cell? ⟨w.heap.size, 1, none⟩ = some (.int .i64 df) ∧ w'.cell? ⟨w.heap.size, 2, none⟩ = some (.int .i64 bd) ∧ w'.cell? ⟨w.heap.size, 3, none⟩ = some (.slice a l.length cap))
    (first | go_keep | exact HK.out _ hbw7 | exact HK.out _ hbw6)
    (first
      | (go_at_call 50; (with_reducible refine (QT.out _ (box_below HB5.out).drew).mono ?_); rintro e w6 ⟨u6, l6, rfl, hl6, ho6, hb6⟩; obtain ⟨a6, cap6, rfl⟩ := OwnRv.slice ho6; have hbw6 := hbw5.trans (hb6.mono hbw5.size); have hi6 := OwnRv.at' ho6 hl6 hwf.out; have HL6 := Lib.hid hl6; clear hl6)
      | (go_at_call 51; (with_reducible refine (QE.out _ _ _ _ _ HL4.out HL6.out (RvAt.up (RvAt.below HI5.out hbw6) hbw6.size) hi6).mono ?_); rintro e w7 ⟨rfl, hb7⟩; have hbw7 := hbw6.trans (hb7.mono hbw6.size)))
  have HX := Lib.hid ((box_below HB5.out).trans (hbw7.mono (box_below HB5.out).size))
  clear hbw5 hbw6 hbw7 hb6 hb7 c0 c1 c2 c3 d0 d1 d2 d3
  go_wp2_with fail
  go_ret
  exact ⟨rfl, HX.out⟩

set_option maxRecDepth 100000 in
theorem lifted (os : Os) (started : os.Started) (H : Type) (enc : TypeId × Value → H) :
    ReturnsInHanded {} Try.checked os 9 .any (Rows.fnExactPolicyRightSpec.pre6 enc Try.prog Try.f9 Rows.fnExactPolicyRightRow.domain false) (Rows.fnExactPolicyRightSpec.post enc Try.prog Try.f9 false true false false) := by
  refine returnsInHanded_of_change (C := Try.checked) own started (by kernel_rfl) Try.func9
    (ChangeSpec.witness6 (enc := enc) (C := Try.checked) false ⟨#[], #[.agg #[.int .i64 0, .int .i64 0, .int .i64 0, .slice none 0 0]], []⟩ 8 (by kernel_rfl) (by kernel_rfl) (by kernel_rfl) (by kernel_rfl)) ?_
  intro W base args ds gs before hval0 hW hcnd _
  have hval : ∀ (j : Nat) t v, Try.f9.params[j]? = some t → args[j]? = some v → Value.okWide Try.prog W .any base t v := hval0
  have hW' := hW
  obtain ⟨p, q, hA0, hV, rfl, hfz, hnd⟩ := hW
  have hA : DataW.TrodAll enc Try.prog W 0 (fun _ => true) true Try.f9.params.toList args.toList ds p := hA0
  rw [Try.params9] at hA hval
  obtain ⟨v0, vs0, d0, ds0, p0, q0, hargs, rfl, rfl, h0, r0⟩ := trodAll_cons hA
  obtain ⟨rfl, rfl, rfl⟩ := trodAll_nil r0
  obtain rfl : args = #[v0] := by cases args; simp_all
  obtain ⟨rfl, rfl⟩ := trodVars_none hV
  have lt0 : ∀ x ∈ p0, x.block < W.heap.size := by obtain ⟨m, hm⟩ := h0; exact DataW.trod_lt m _ _ _ hm
  have w0 := open_isPolicy (hval 0 88 v0 rfl rfl) h0
  clear hA0 hval0
  refine (walk v0 W w0).mono fun e W' ⟨he, bel⟩ => ?_
  subst he
  exact ⟨_, rfl, _, _, _, [], _, [], hW', trodAll_mk1 (shut_bool Try.underlying4 _), (trodAll_cons_mk (Below.trod laidOut (by kernel_rfl) (of_decide_eq_true (by kernel_rfl)) h0 bel lt0) trodAll_mk0), rfl, bel.frame _, fun h => by cases h⟩

theorem over : Rows.fnExactPolicyRightRow.holds Try.pinned (OpenSpec.ofChange Rows.fnExactPolicyRightSpec) :=
  OpenClaim.holds_of_wide 9 Try.f9 rfl rfl rfl rfl rfl rfl rfl ⟨rfl, rfl, rfl, rfl, rfl⟩ rfl rfl rfl rfl rfl (by kernel_rfl) Try.func9 (by kernel_rfl)
    (of_decide_eq_true (by kernel_rfl)) (by unfold Func.isWrapper; first | (rw [if_pos (by decide +kernel)]; kernel_rfl) | (rw [if_neg (by decide +kernel)]; exact ⟨rfl, rfl⟩))
    (fun os started H enc _ => lifted os started H enc)

theorem proved : Rows.FnExactPolicyRightSaid := over
#print axioms proved
end Go.Proofs.Ytmnmaijifhojiaa.fnExactPolicyRight

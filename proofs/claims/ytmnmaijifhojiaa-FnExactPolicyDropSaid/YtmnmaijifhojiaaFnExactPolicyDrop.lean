/-
  FnExactPolicyDrop: for every input that the row speaks of, the law returns true, and its arguments read afterwards as before. No further conditions.
-/
import Derived.Test.YtmnmaijifhojiaaRows
import Derived.Test.YtmnmaijifhojiaaKf
import Derived.Test.YtmnmaijifhojiaaRh
import Derived.Deep.DeepCutAuto
import Derived.Deep.CutRange
import Derived.WalkKit
import Derived.ProofKit
import Derived.OpenShut
import Derived.ShutString
import Derived.ChangeOld
import Derived.Below
namespace Go.Proofs.Ytmnmaijifhojiaa.fnExactPolicyDrop
open Go.ChangeShapes Go.WideShapes Go.ChangeAt Go.RowKit
open Go.ChangeMaps (open_string shut_string)
set_option linter.unusedVariables false
set_option linter.unusedSimpArgs false

theorem own : ownKnob Try.prog.godebug = none := by kernel_rfl
theorem laidOut : laidOutB Try.prog = true := by kernel_rfl

set_option maxHeartbeats 3200000 in
theorem walk (a0 a1 : Value) (w : World) (w0 : IsPolicy w a0) (w1 : IsI64 w a1) :
    Calls Try.prog 11 #[a0, a1] w fun e w' => e = .returned (.bool true) ∧ Below w.heap.size w w' := by
  obtain ⟨ar, df, bd, l, u, rfl, har, hdf, hbd, hu⟩ := w0
  obtain ⟨at_, rfl, hat⟩ := w1
  obtain ⟨a, cap, rfl, hlc, hcm⟩ := hu.len
  have hsz := fun W (h : Below w.heap.size w W) => szPolicy_any ar df bd _ l 1048576 W (RvAt.up (RvAt.below hu h) h.size) (by omega) (by omega)
  have HB0 := Lib.hid (show ∀ o : Obj, Below w.heap.size w (w.alloc o) from fun o => (Below.refl _ _).alloc (Nat.le_refl _) _)
  by_cases hlen : szRs 1048576 (rls l) < 0
  · generalize szRs 1048576 (rls l) = s at *
    have HZ := Lib.hid hsz
    clear hsz hu
    go_enter Try.func11, Try.ntmps11
    go_wp2_with fail
    refine (HZ.out _ (HB0.out _)).mono ?_
    rintro e w1 ⟨rfl, hb1⟩
    have HB := Lib.hid (box_below hb1)
    clear hb1
    go_wp2_with fail
    go_ret
    exact ⟨rfl, HB.out⟩
  have hbd2 := szRs_bd (l := rls l) (x := 1048576) (by omega)
  have hend := szRs_end (l := rls l) (by omega)
  have hll : (rls l).length = l.length := by simp [rls]
  have hn : l.length ≤ 1048576 := by have := hbd2.2.1; omega
  have hc : ∀ x ∈ l, x.r.cs.length ≤ 1048576 := fun x hx => by have := hbd2.2.2 x.r (List.mem_map.2 ⟨x, hx, rfl⟩); omega
  have hd0 : decide (szRs 1048576 (rls l) < 0) = false := by simpa using hlen
  have hwf := Lib.hid hu.wf
  have hsm := Lib.hid (polDrop_small ar df bd at_ l hu.wf)
  have qt := fun W (h : Below w.heap.size w W) => toPolicy_any ar df bd l _ W (RvAt.up (RvAt.below hu h) h.size) hn hc
  have qs : ∀ u' (l' : List Rv) W, rls l' = rls l → RvAt W W.heap.size u' l' → Calls Try.prog 26 #[polV ar df bd u', .int .i64 at_] W (PolEnd W.heap.size W (polDrop ⟨ar, df, bd, rls l⟩ at_)) := fun u' l' W e h => by
    have := specPolicyDrop_any ar df bd at_ l' u' W h hat
    rwa [e] at this
  have qi : ∀ u' (l' : List Rv) W, rls l' = rls l → RvAt W W.heap.size u' l' → Calls Try.prog 25 #[polV ar df bd u', .int .i64 at_] W (PolEnd W.heap.size W (polDrop ⟨ar, df, bd, rls l⟩ at_)) := fun u' l' W e h => by
    have := implPolicyDrop_any ar df bd at_ l' u' W h hat
    rwa [e] at this
  have qe : ∀ u1 u2 (l1 l2 : List Rv) W, rls l1 = rls l → rls l2 = rls l → RvAt W W.heap.size u1 l1 → RvAt W W.heap.size u2 l2 → Calls Try.prog 51 #[polV ar df bd u1, polV ar df bd u2] W fun e w' => e = .returned (.bool true) ∧ Below W.heap.size W w' := fun u1 u2 l1 l2 W e1 e2 h1 h2 => by
    have := eqPolicy_any ar df bd ar df bd l1 l2 u1 u2 W h1 h2
    rwa [e1, e2, decide_eq_true rfl] at this
  have qm : ∀ base u' (l' : List Rv) W, rls l' = rls l → OwnRv base W u' l' → Calls Try.prog 53 #[polV ar df bd u', .int .i64 1] W fun e w' => e = .returned (.int .i64 (mkEnd 1 (rls l))) ∧ OnlyIn (RvBlk u' l') W w' := fun base u' l' W e h => by
    have hl' : l'.length = l.length := by have := congrArg List.length e; simpa [rls] using this
    refine (markPolicy_any base ar df bd u' l' 1 W h (by omega) (by omega) (by rw [e]; exact hend)).mono ?_
    rintro e' w' ⟨_, rfl, _, _, ho⟩
    exact ⟨by rw [e], ho⟩
  have hge := mkEnd_ge (rls l) 1
  have hk0 : decide (mkEnd 1 (rls l) < 0) = false := by simp; omega
  generalize mkEnd 1 (rls l) = ke at *
  generalize polDrop ⟨ar, df, bd, rls l⟩ at_ = res at *
  obtain ⟨⟨par, pdf, pbd, prs⟩, pc⟩ := res
  have hge2 := mkEnd_ge prs 1
  have qp : ∀ base u' (l' : List Rv) W, rls l' = prs → OwnRv base W u' l' → Calls Try.prog 55 #[outV par pdf pbd u' pc, .int .i64 1] W fun e w' => ∃ l2, e = .returned (.int .i64 (mkEnd 1 prs)) ∧ rls l2 = mkRs 1 prs ∧ OwnRv base w' u' l2 ∧ OnlyIn (RvBlk u' l') W w' := fun base u' l' W e h => by
    have hl' : l'.length = prs.length := by have := congrArg List.length e; simpa [rls] using this
    have := markPolicyOut_any base par pdf pbd pc u' l' 1 W h (by have := hsm.out.2.2; dsimp only at this; omega) (by omega) (by rw [e]; exact hsm.out.2.1)
    rwa [e] at this
  have qh := fun u' (l' : List Rv) W (e : rls l' = mkRs 1 prs) (h : RvAt W W.heap.size u' l') => heldPolicyOut_any par pdf pbd pc u' l' prs 1 W h e (by omega) hsm.out.2.1
  have hwp : Hid (rlsWf prs) := hsm.out.1
  have hwm := Lib.hid (mkRs_wf (k := 1) (l := prs) (by omega) hsm.out.2.1)
  generalize mkEnd 1 prs = me at *
  generalize szRs 1048576 (rls l) = s at *
  have hm0 : decide (me < 0) = false := by simp; omega
  have hm1 : (me != me) = false := by simp
  have HZ := Lib.hid hsz
  have QT := Lib.hid qt
  have QS := Lib.hid qs
  have QI := Lib.hid qi
  have QE := Lib.hid qe
  have QM := Lib.hid qm
  have QP := Lib.hid qp
  have QH := Lib.hid qh
  clear hsz qt qs qi qe qm qp qh hu hn hc hbd2 hlen hend hll hge hge2 hsm
  go_enter Try.func11, Try.ntmps11
  go_wp2_with fail
  refine (HZ.out _ (HB0.out _)).mono ?_
  rintro e w1 ⟨rfl, hb1⟩
  have R2_1 := Lib.hid ((hb1.block w.heap.size (by simp)).trans (heap_alloc_new w (.cells #[.int .i64 ar, .int .i64 df, .int .i64 bd, .slice a l.length cap] 88)))
  have HB_1 := Lib.hid (box_below hb1)
  clear hb1
  have c0 := row_cell R2_1.out 0
  have c1 := row_cell R2_1.out 1
  have c2 := row_cell R2_1.out 2
  have c3 := row_cell R2_1.out 3
  have ch := row_here R2_1.out
  simp only [List.getElem?_toArray, List.getElem?_cons_zero, List.getElem?_cons_succ] at c0 c1 c2 c3
  go_wp2_with fail
  clear c0 c1 c2 c3 ch
  refine (QT.out _ HB_1.out).mono ?_
  rintro e w2 ⟨u2, l2, rfl, hl2, ho2, hb2⟩
  obtain ⟨ra2, rcap2, rfl⟩ := OwnRv.slice ho2
  have A2_2 := Lib.hid (OwnRv.at' ho2 hl2 hwf.out)
  have HL2 := Lib.hid hl2
  have R2_2 := Lib.hid (keep_row hb2 R2_1.out)
  have HB_2 := Lib.hid (HB_1.out.trans (hb2.mono HB_1.out.size))
  clear hl2 ho2 hb2
  go_wp2_with fail
  refine (QS.out _ _ _ HL2.out A2_2.out).mono ?_
  rintro e w3 ⟨u3, l3, rfl, hl3, ho3, hb3⟩
  obtain ⟨ra3, rcap3, rfl⟩ := OwnRv.slice ho3
  have A3k_3 := Lib.hid (OwnRv.at' ho3 hl3 hwp.out)
  have H3_3 := Lib.hid (Nat.le_refl w3.heap.size)
  have HL3 := Lib.hid hl3
  have R2_3 := Lib.hid (keep_row hb3 R2_2.out)
  have HB_3 := Lib.hid (HB_2.out.trans (hb3.mono HB_2.out.size))
  clear hl3 ho3 hb3
  have c0 := row_cell R2_3.out 0
  have c1 := row_cell R2_3.out 1
  have c2 := row_cell R2_3.out 2
  have c3 := row_cell R2_3.out 3
  have ch := row_here R2_3.out
  simp only [List.getElem?_toArray, List.getElem?_cons_zero, List.getElem?_cons_succ] at c0 c1 c2 c3
  go_wp2_with fail
  clear c0 c1 c2 c3 ch
  have hal : Below w3.heap.size w3 (w3.alloc (.cells #[.int .i64 par, .int .i64 pdf, .int .i64 pbd, .slice ra3 l3.length rcap3, .int .i64 pc] 39)) := (Below.refl _ _).alloc (Nat.le_refl _) _
  refine (QT.out _ (HB_3.out.trans (hal.mono HB_3.out.size))).mono ?_
  rintro e w4 ⟨u4, l4, rfl, hl4, ho4, hb4'⟩
  have R6_4 := Lib.hid ((hb4'.block w3.heap.size (by simp)).trans (heap_alloc_new w3 (.cells #[.int .i64 par, .int .i64 pdf, .int .i64 pbd, .slice ra3 l3.length rcap3, .int .i64 pc] 39)))
  have hb4 := hal.trans (hb4'.mono hal.size)
  obtain ⟨ra4, rcap4, rfl⟩ := OwnRv.slice ho4
  have O4_4 := Lib.hid ho4
  have A4_4 := Lib.hid (OwnRv.at' ho4 hl4 hwf.out)
  have HX := Lib.hid ho4.lt
  have HL4 := Lib.hid hl4
  have H34 := Lib.hid (show w3.heap.size < (w3.alloc (.cells #[.int .i64 par, .int .i64 pdf, .int .i64 pbd, .slice ra3 l3.length rcap3, .int .i64 pc] 39)).heap.size by simp)
  have H4 := Lib.hid (Nat.le_trans (Nat.le_of_lt H34.out) hb4'.size)
  have R2_4 := Lib.hid (keep_row hb4 R2_3.out)
  have A3k_4 := Lib.hid (RvAt.below A3k_3.out (hb4.mono H3_3.out))
  have H3_4 := Lib.hid (Nat.le_trans H3_3.out hb4.size)
  have A3_4 := Lib.hid (RvAt.up A3k_4.out H3_4.out)
  have HB_4 := Lib.hid (HB_3.out.trans (hb4.mono HB_3.out.size))
  clear hl4 ho4 hb4 hb4' hal
  go_wp2_with fail
  have hal : Below w4.heap.size w4 (w4.alloc (.cells #[.int .i64 ar, .int .i64 df, .int .i64 bd, .slice ra4 l4.length rcap4] 32)) := (Below.refl _ _).alloc (Nat.le_refl _) _
  refine (QI.out _ _ _ HL4.out (RvAt.up (RvAt.below A4_4.out hal) hal.size)).mono ?_
  rintro e w5 ⟨u5, l5, rfl, hl5, ho5, hb5'⟩
  have R7_5 := Lib.hid ((hb5'.block w4.heap.size (by simp)).trans (heap_alloc_new w4 (.cells #[.int .i64 ar, .int .i64 df, .int .i64 bd, .slice ra4 l4.length rcap4] 32)))
  have hb5 := hal.trans (hb5'.mono hal.size)
  obtain ⟨ra5, rcap5, rfl⟩ := OwnRv.slice ho5
  have O5_5 := Lib.hid (ho5.base (b' := w4.heap.size) hal.size)
  have HY := Lib.hid ho5.lt
  have H45 := Lib.hid (show w4.heap.size < (w4.alloc (.cells #[.int .i64 ar, .int .i64 df, .int .i64 bd, .slice ra4 l4.length rcap4] 32)).heap.size by simp)
  have HL5 := Lib.hid hl5
  have R2_5 := Lib.hid (keep_row hb5 R2_4.out)
  have R6_5 := Lib.hid (keep_row hb5 R6_4.out)
  have O4_5 := Lib.hid (O4_4.out.below hb5)
  have A3k_5 := Lib.hid (RvAt.below A3k_4.out (hb5.mono H3_4.out))
  have H3_5 := Lib.hid (Nat.le_trans H3_4.out hb5.size)
  have A3_5 := Lib.hid (RvAt.up A3k_5.out H3_5.out)
  have A4_5 := Lib.hid (RvAt.up (RvAt.below A4_4.out hb5) hb5.size)
  have HB_5 := Lib.hid (HB_4.out.trans (hb5.mono HB_4.out.size))
  clear hl5 ho5 hb5 hb5' hal
  have f0 := row_cell R6_5.out 0
  have f1 := row_cell R6_5.out 1
  have f2 := row_cell R6_5.out 2
  have f3 := row_cell R6_5.out 3
  have f4 := row_cell R6_5.out 4
  have fh := row_here R6_5.out
  simp only [List.getElem?_toArray, List.getElem?_cons_zero, List.getElem?_cons_succ] at f0 f1 f2 f3 f4
  go_wp2_with fail
  clear f0 f1 f2 f3 f4 fh
  have hal : Below w5.heap.size w5 (w5.alloc (.cells #[.int .i64 par, .int .i64 pdf, .int .i64 pbd, .slice ra5 l5.length rcap5, .int .i64 pc] 39)) := (Below.refl _ _).alloc (Nat.le_refl _) _
  refine (eqPolicyOut_same par pdf pbd pc l5 l3 _ _ _ (RvAt.up (RvAt.below (OwnRv.at' O5_5.out HL5.out hwp.out) hal) hal.size) (RvAt.up (RvAt.below A3_5.out hal) hal.size) (HL5.out.trans HL3.out.symm)).mono ?_
  rintro e w6 ⟨rfl, hb6'⟩
  have R8_6 := Lib.hid ((hb6'.block w5.heap.size (by simp)).trans (heap_alloc_new w5 (.cells #[.int .i64 par, .int .i64 pdf, .int .i64 pbd, .slice ra5 l5.length rcap5, .int .i64 pc] 39)))
  have hb6 := hal.trans (hb6'.mono hal.size)
  have R2_6 := Lib.hid (keep_row hb6 R2_5.out)
  have R6_6 := Lib.hid (keep_row hb6 R6_5.out)
  have R7_6 := Lib.hid (keep_row hb6 R7_5.out)
  have O4_6 := Lib.hid (O4_5.out.below hb6)
  have O5_6 := Lib.hid (O5_5.out.below hb6)
  have A3k_6 := Lib.hid (RvAt.below A3k_5.out (hb6.mono H3_5.out))
  have H3_6 := Lib.hid (Nat.le_trans H3_5.out hb6.size)
  have A3_6 := Lib.hid (RvAt.up A3k_6.out H3_6.out)
  have A4_6 := Lib.hid (RvAt.up (RvAt.below A4_5.out hb6) hb6.size)
  have HB_6 := Lib.hid (HB_5.out.trans (hb6.mono HB_5.out.size))
  clear hb6 hb6' hal
  have d0 := row_cell R7_6.out 0
  have d1 := row_cell R7_6.out 1
  have d2 := row_cell R7_6.out 2
  have d3 := row_cell R7_6.out 3
  have dh := row_here R7_6.out
  have c0 := row_cell R2_6.out 0
  have c1 := row_cell R2_6.out 1
  have c2 := row_cell R2_6.out 2
  have c3 := row_cell R2_6.out 3
  have ch := row_here R2_6.out
  simp only [List.getElem?_toArray, List.getElem?_cons_zero, List.getElem?_cons_succ] at d0 d1 d2 d3 c0 c1 c2 c3
  have hbw6 := (Below.refl w6.heap.size w6).drew
  have hkeep : ∀ W : World, Below w6.heap.size w6 W → (W.cell? ⟨w4.heap.size, 0, none⟩ = some (.int .i64 ar) ∧ W.cell? ⟨w4.heap.size, 1, none⟩ = some (.int .i64 df) ∧ W.cell? ⟨w4.heap.size, 2, none⟩ = some (.int .i64 bd) ∧ W.cell? ⟨w4.heap.size, 3, none⟩ = some (.slice ra4 l4.length rcap4) ∧ W.cell? ⟨w.heap.size, 0, none⟩ = some (.int .i64 ar) ∧ W.cell? ⟨w.heap.size, 1, none⟩ = some (.int .i64 df) ∧ W.cell? ⟨w.heap.size, 2, none⟩ = some (.int .i64 bd) ∧ W.cell? ⟨w.heap.size, 3, none⟩ = some (.slice a l.length cap)) := fun W hb => by
    have r1 := keep_row hb R7_6.out
    have r2 := keep_row hb R2_6.out
    exact ⟨row_cell r1 0, row_cell r1 1, row_cell r1 2, row_cell r1 3, row_cell r2 0, row_cell r2 1, row_cell r2 2, row_cell r2 3⟩
  have HK := Lib.hid hkeep
  clear hkeep
  go_wp2_with fail
  go_region_held3 (fun w' => w'.cell? ⟨w4.heap.size, 0, none⟩ = some (.int .i64 ar) ∧ w'.cell? ⟨w4.heap.size, 1, none⟩ = some (.int .i64 df) ∧ w'.cell? ⟨w4.heap.size, 2, none⟩ = some (.int .i64 bd) ∧ w'.cell? ⟨w4.heap.size, 3, none⟩ = some (.slice ra4 l4.length rcap4) ∧ w'.cell? ⟨w.heap.size, 0, none⟩ = some (.int .i64 ar) ∧ w'.cell? ⟨w.heap.size, 1, none⟩ = some (.int .i64 df) ∧ w'.cell? ⟨w.heap.size, 2, none⟩ = some (.int .i64 bd) ∧ w'.cell? ⟨w.heap.size, 3, none⟩ = some (.slice a l.length cap))
    (first | go_keep | exact HK.out _ hbw8 | exact HK.out _ hbw7)
    (first
      | (go_at_call 50; (with_reducible refine (QT.out _ (HB_6.out.trans (hbw6.mono HB_6.out.size))).mono ?_); rintro e w7 ⟨u7, l7, rfl, hl7, ho7, hb7⟩; obtain ⟨a7, cap7, rfl⟩ := OwnRv.slice ho7; have hbw7 := hbw6.trans (hb7.mono hbw6.size); have hi7 := OwnRv.at' ho7 hl7 hwf.out; have HL7 := Lib.hid hl7; clear hl7)
      | (go_at_call 51; (with_reducible refine (QE.out _ _ _ _ _ HL4.out HL7.out (RvAt.up (RvAt.below A4_6.out hbw7) hbw7.size) hi7).mono ?_); rintro e w8 ⟨rfl, hb8⟩; have hbw8 := hbw7.trans (hb8.mono hbw7.size)))
  have R2_8 := Lib.hid (keep_row hbw8 R2_6.out)
  have R6_8 := Lib.hid (keep_row hbw8 R6_6.out)
  have R7_8 := Lib.hid (keep_row hbw8 R7_6.out)
  have R8_8 := Lib.hid (keep_row hbw8 R8_6.out)
  have O4_8 := Lib.hid (O4_6.out.below hbw8)
  have O5_8 := Lib.hid (O5_6.out.below hbw8)
  have A3k_8 := Lib.hid (RvAt.below A3k_6.out (hbw8.mono H3_6.out))
  have H3_8 := Lib.hid (Nat.le_trans H3_6.out hbw8.size)
  have A3_8 := Lib.hid (RvAt.up A3k_8.out H3_8.out)
  have HB_8 := Lib.hid (HB_6.out.trans (hbw8.mono HB_6.out.size))
  clear hbw6 hbw7 hbw8 hb7 hb8 ho7 hi7 d0 d1 d2 d3 c0 c1 c2 c3 dh ch
  have d0 := row_cell R7_8.out 0
  have d1 := row_cell R7_8.out 1
  have d2 := row_cell R7_8.out 2
  have d3 := row_cell R7_8.out 3
  have dh := row_here R7_8.out
  simp only [List.getElem?_toArray, List.getElem?_cons_zero, List.getElem?_cons_succ] at d0 d1 d2 d3
  go_wp2_with fail
  clear d0 d1 d2 d3 dh
  refine (QM.out _ _ _ _ HL4.out O4_8.out).mono ?_
  rintro e w9 ⟨rfl, ho9⟩
  have hS : ∀ b, RvBlk (.slice ra4 l4.length rcap4) l4 b → w3.heap.size + 1 ≤ b ∧ b < w4.heap.size := fun b hb => by have := HX.out b hb; simp at this; omega
  have hS0 : w.heap.size < w3.heap.size := row_here R2_3.out
  have hb9 : Below (w3.heap.size + 1) w8 w9 := ho9.below (fun k hk => (hS k hk).1) (by have := row_here R6_8.out; omega)
  have R2_9 := Lib.hid (ho9.row R2_8.out (fun hk => by have := hS _ hk; omega))
  have R6_9 := Lib.hid (ho9.row R6_8.out (fun hk => by have := hS _ hk; omega))
  have R7_9 := Lib.hid (ho9.row R7_8.out (fun hk => by have := hS _ hk; omega))
  have R8_9 := Lib.hid (ho9.row R8_8.out (fun hk => by have := hS _ hk; have := row_here R7_5.out; omega))
  have O5_9 := Lib.hid (O5_8.out.only ho9 (fun k hk => (hS k hk).2))
  have A3k_9 := Lib.hid (RvAt.below A3k_8.out (hb9.mono (by omega)))
  have H3_9 := Lib.hid (Nat.le_trans H3_8.out hb9.size)
  have A3_9 := Lib.hid (RvAt.up A3k_9.out H3_9.out)
  have HB_9 := Lib.hid (HB_8.out.trans (hb9.mono (by omega)))
  clear hS hS0 hb9 ho9
  have e0 := row_cell R8_9.out 0
  have e1 := row_cell R8_9.out 1
  have e2 := row_cell R8_9.out 2
  have e3 := row_cell R8_9.out 3
  have e4 := row_cell R8_9.out 4
  have eh := row_here R8_9.out
  have f0 := row_cell R6_9.out 0
  have f1 := row_cell R6_9.out 1
  have f2 := row_cell R6_9.out 2
  have f3 := row_cell R6_9.out 3
  have f4 := row_cell R6_9.out 4
  have fh := row_here R6_9.out
  simp only [List.getElem?_toArray, List.getElem?_cons_zero, List.getElem?_cons_succ] at e0 e1 e2 e3 e4 f0 f1 f2 f3 f4
  go_wp2_with fail
  clear e0 e1 e2 e3 e4 f0 f1 f2 f3 f4 eh fh
  refine (eqPolicyOut_same par pdf pbd pc l5 l3 _ _ _ (OwnRv.at' O5_9.out HL5.out hwp.out) A3_9.out (HL5.out.trans HL3.out.symm)).mono ?_
  rintro e w10 ⟨rfl, hb10⟩
  have R2_10 := Lib.hid (keep_row hb10 R2_9.out)
  have R6_10 := Lib.hid (keep_row hb10 R6_9.out)
  have R7_10 := Lib.hid (keep_row hb10 R7_9.out)
  have R8_10 := Lib.hid (keep_row hb10 R8_9.out)
  have O5_10 := Lib.hid (O5_9.out.below hb10)
  have A3k_10 := Lib.hid (RvAt.below A3k_9.out (hb10.mono H3_9.out))
  have H3_10 := Lib.hid (Nat.le_trans H3_9.out hb10.size)
  have A3_10 := Lib.hid (RvAt.up A3k_10.out H3_10.out)
  have HB_10 := Lib.hid (HB_9.out.trans (hb10.mono HB_9.out.size))
  clear hb10
  have e0 := row_cell R8_10.out 0
  have e1 := row_cell R8_10.out 1
  have e2 := row_cell R8_10.out 2
  have e3 := row_cell R8_10.out 3
  have e4 := row_cell R8_10.out 4
  have eh := row_here R8_10.out
  simp only [List.getElem?_toArray, List.getElem?_cons_zero, List.getElem?_cons_succ] at e0 e1 e2 e3 e4
  go_wp2_with fail
  clear e0 e1 e2 e3 e4 eh
  refine (QP.out _ _ _ _ HL5.out O5_10.out).mono ?_
  rintro e w11 ⟨l11, rfl, hl11, ho11, hg11⟩
  have hS : ∀ b, RvBlk (.slice ra5 l5.length rcap5) l5 b → w4.heap.size + 1 ≤ b ∧ b < w5.heap.size := fun b hb => by have := HY.out b hb; simp at this; omega
  have hb11 : Below (w4.heap.size + 1) w10 w11 := hg11.below (fun k hk => (hS k hk).1) (by have := row_here R7_10.out; omega)
  have h34 : w3.heap.size < w4.heap.size := row_here R6_4.out
  have R2_11 := Lib.hid (hg11.row R2_10.out (fun hk => by have := hS _ hk; have := row_here R2_3.out; omega))
  have R6_11 := Lib.hid (hg11.row R6_10.out (fun hk => by have := hS _ hk; omega))
  have R8_11 := Lib.hid (hg11.row R8_10.out (fun hk => by have := hS _ hk; omega))
  have O11_11 := Lib.hid ho11
  have A11_11 := Lib.hid (OwnRv.at' ho11 hl11 hwm.out)
  have HL11 := Lib.hid hl11
  have A3k_11 := Lib.hid (RvAt.below A3k_10.out (hb11.mono (by omega)))
  have H3_11 := Lib.hid (Nat.le_trans H3_10.out hb11.size)
  have A3_11 := Lib.hid (RvAt.up A3k_11.out H3_11.out)
  have HB_11 := Lib.hid (HB_10.out.trans (hb11.mono (by have := row_here R2_3.out; omega)))
  clear hS hb11 hg11 ho11 hl11 h34
  have e0 := row_cell R8_11.out 0
  have e1 := row_cell R8_11.out 1
  have e2 := row_cell R8_11.out 2
  have e3 := row_cell R8_11.out 3
  have e4 := row_cell R8_11.out 4
  have eh := row_here R8_11.out
  simp only [List.getElem?_toArray, List.getElem?_cons_zero, List.getElem?_cons_succ] at e0 e1 e2 e3 e4
  go_wp2_with fail
  clear e0 e1 e2 e3 e4 eh
  refine (QH.out _ _ _ HL11.out A11_11.out).mono ?_
  rintro e w12 ⟨rfl, hb12⟩
  have R2_12 := Lib.hid (keep_row hb12 R2_11.out)
  have R6_12 := Lib.hid (keep_row hb12 R6_11.out)
  have R8_12 := Lib.hid (keep_row hb12 R8_11.out)
  have A3k_12 := Lib.hid (RvAt.below A3k_11.out (hb12.mono H3_11.out))
  have H3_12 := Lib.hid (Nat.le_trans H3_11.out hb12.size)
  have A3_12 := Lib.hid (RvAt.up A3k_12.out H3_12.out)
  have A11_12 := Lib.hid (RvAt.up (RvAt.below A11_11.out hb12) hb12.size)
  have HB_12 := Lib.hid (HB_11.out.trans (hb12.mono HB_11.out.size))
  clear hb12
  have c0 := row_cell R2_12.out 0
  have c1 := row_cell R2_12.out 1
  have c2 := row_cell R2_12.out 2
  have c3 := row_cell R2_12.out 3
  have ch := row_here R2_12.out
  simp only [List.getElem?_toArray, List.getElem?_cons_zero, List.getElem?_cons_succ] at c0 c1 c2 c3
  go_wp2_with fail
  clear c0 c1 c2 c3 ch
  refine (QT.out _ HB_12.out).mono ?_
  rintro e w13 ⟨u13, l13, rfl, hl13, ho13, hb13⟩
  obtain ⟨ra13, rcap13, rfl⟩ := OwnRv.slice ho13
  have A13_13 := Lib.hid (OwnRv.at' ho13 hl13 hwf.out)
  have HL13 := Lib.hid hl13
  have R6_13 := Lib.hid (keep_row hb13 R6_12.out)
  have R8_13 := Lib.hid (keep_row hb13 R8_12.out)
  have A3k_13 := Lib.hid (RvAt.below A3k_12.out (hb13.mono H3_12.out))
  have H3_13 := Lib.hid (Nat.le_trans H3_12.out hb13.size)
  have A3_13 := Lib.hid (RvAt.up A3k_13.out H3_13.out)
  have A11_13 := Lib.hid (RvAt.up (RvAt.below A11_12.out hb13) hb13.size)
  have HB_13 := Lib.hid (HB_12.out.trans (hb13.mono HB_12.out.size))
  clear hl13 ho13 hb13
  go_wp2_with fail
  refine (QI.out _ _ _ HL13.out A13_13.out).mono ?_
  rintro e w14 ⟨u14, l14, rfl, hl14, ho14, hb14⟩
  obtain ⟨ra14, rcap14, rfl⟩ := OwnRv.slice ho14
  have A14_14 := Lib.hid (OwnRv.at' ho14 hl14 hwp.out)
  have HL14 := Lib.hid hl14
  have R6_14 := Lib.hid (keep_row hb14 R6_13.out)
  have R8_14 := Lib.hid (keep_row hb14 R8_13.out)
  have A3k_14 := Lib.hid (RvAt.below A3k_13.out (hb14.mono H3_13.out))
  have H3_14 := Lib.hid (Nat.le_trans H3_13.out hb14.size)
  have A3_14 := Lib.hid (RvAt.up A3k_14.out H3_14.out)
  have A11_14 := Lib.hid (RvAt.up (RvAt.below A11_13.out hb14) hb14.size)
  have HB_14 := Lib.hid (HB_13.out.trans (hb14.mono HB_13.out.size))
  clear hl14 ho14 hb14
  have f0 := row_cell R6_14.out 0
  have f1 := row_cell R6_14.out 1
  have f2 := row_cell R6_14.out 2
  have f3 := row_cell R6_14.out 3
  have f4 := row_cell R6_14.out 4
  have fh := row_here R6_14.out
  simp only [List.getElem?_toArray, List.getElem?_cons_zero, List.getElem?_cons_succ] at f0 f1 f2 f3 f4
  go_wp2_with fail
  clear f0 f1 f2 f3 f4 fh
  have hal : Below w14.heap.size w14 (w14.alloc (.cells #[.int .i64 par, .int .i64 pdf, .int .i64 pbd, .slice ra14 l14.length rcap14, .int .i64 pc] 39)) := (Below.refl _ _).alloc (Nat.le_refl _) _
  refine (eqPolicyOut_same par pdf pbd pc l14 l3 _ _ _ (RvAt.up (RvAt.below A14_14.out hal) hal.size) (RvAt.up (RvAt.below A3_14.out hal) hal.size) (HL14.out.trans HL3.out.symm)).mono ?_
  rintro e w15 ⟨rfl, hb15'⟩
  have hb15 := hal.trans (hb15'.mono hal.size)
  have R8_15 := Lib.hid (keep_row hb15 R8_14.out)
  have A11_15 := Lib.hid (RvAt.up (RvAt.below A11_14.out hb15) hb15.size)
  have HB_15 := Lib.hid (HB_14.out.trans (hb15.mono HB_14.out.size))
  clear hb15 hb15' hal
  have e0 := row_cell R8_15.out 0
  have e1 := row_cell R8_15.out 1
  have e2 := row_cell R8_15.out 2
  have e3 := row_cell R8_15.out 3
  have e4 := row_cell R8_15.out 4
  have eh := row_here R8_15.out
  simp only [List.getElem?_toArray, List.getElem?_cons_zero, List.getElem?_cons_succ] at e0 e1 e2 e3 e4
  go_wp2_with fail
  clear e0 e1 e2 e3 e4 eh
  refine (QH.out _ _ _ HL11.out A11_15.out).mono ?_
  rintro e w16 ⟨rfl, hb16⟩
  have HB_16 := Lib.hid (HB_15.out.trans (hb16.mono HB_15.out.size))
  clear hb16
  go_wp2_with fail
  go_ret
  exact ⟨rfl, HB_16.out⟩

set_option maxRecDepth 100000 in
theorem lifted (os : Os) (started : os.Started) (H : Type) (enc : TypeId × Value → H) :
    ReturnsInHanded {} Try.checked os 11 .any (Rows.fnExactPolicyDropSpec.pre6 enc Try.prog Try.f11 Rows.fnExactPolicyDropRow.domain false) (Rows.fnExactPolicyDropSpec.post enc Try.prog Try.f11 false true false false) := by
  refine returnsInHanded_of_change (C := Try.checked) own started (by kernel_rfl) Try.func11
    (ChangeSpec.witness6 (enc := enc) (C := Try.checked) false ⟨#[], #[.agg #[.int .i64 0, .int .i64 0, .int .i64 0, .slice none 0 0], .int .i64 0], []⟩ 8 (by kernel_rfl) (by kernel_rfl) (by kernel_rfl) (by kernel_rfl)) ?_
  intro W base args ds gs before hval0 hW hcnd _
  have hval : ∀ (j : Nat) t v, Try.f11.params[j]? = some t → args[j]? = some v → Value.okWide Try.prog W .any base t v := hval0
  have hW' := hW
  obtain ⟨p, q, hA0, hV, rfl, hfz, hnd⟩ := hW
  have hA : DataW.TrodAll enc Try.prog W 0 (fun _ => true) true Try.f11.params.toList args.toList ds p := hA0
  rw [Try.params11] at hA hval
  obtain ⟨v0, vs0, d0, ds0, p0, q0, hargs, rfl, rfl, h0, r0⟩ := trodAll_cons hA
  obtain ⟨v1, vs1, d1, ds1, p1, q1, rfl, rfl, rfl, h1, r1⟩ := trodAll_cons r0
  obtain ⟨rfl, rfl, rfl⟩ := trodAll_nil r1
  obtain rfl : args = #[v0, v1] := by cases args; simp_all
  obtain ⟨rfl, rfl⟩ := trodVars_none hV
  have lt0 : ∀ x ∈ p0, x.block < W.heap.size := by obtain ⟨m, hm⟩ := h0; exact DataW.trod_lt m _ _ _ hm
  have w0 := open_isPolicy (hval 0 88 v0 rfl rfl) h0
  have lt1 : ∀ x ∈ p1, x.block < W.heap.size := by obtain ⟨m, hm⟩ := h1; exact DataW.trod_lt m _ _ _ hm
  have w1 := open_isI64 (hval 1 2 v1 rfl rfl) h1
  clear hA0 hval0
  refine (walk v0 v1 W w0 w1).mono fun e W' ⟨he, bel⟩ => ?_
  subst he
  exact ⟨_, rfl, _, _, _, [], _, [], hW', trodAll_mk1 (shut_bool Try.underlying4 _), (trodAll_cons_mk (Below.trod laidOut (by kernel_rfl) (of_decide_eq_true (by kernel_rfl)) h0 bel lt0) (trodAll_cons_mk (Below.trod laidOut (by kernel_rfl) (of_decide_eq_true (by kernel_rfl)) h1 bel lt1) trodAll_mk0)), rfl, bel.frame _, fun h => by cases h⟩

theorem over : Rows.fnExactPolicyDropRow.holds Try.pinned (OpenSpec.ofChange Rows.fnExactPolicyDropSpec) :=
  OpenClaim.holds_of_wide 11 Try.f11 rfl rfl rfl rfl rfl rfl rfl ⟨rfl, rfl, rfl, rfl, rfl⟩ rfl rfl rfl rfl rfl (by kernel_rfl) Try.func11 (by kernel_rfl)
    (of_decide_eq_true (by kernel_rfl)) (by unfold Func.isWrapper; first | (rw [if_pos (by decide +kernel)]; kernel_rfl) | (rw [if_neg (by decide +kernel)]; exact ⟨rfl, rfl⟩))
    (fun os started H enc _ => lifted os started H enc)

theorem proved : Rows.FnExactPolicyDropSaid := over
#print axioms proved
end Go.Proofs.Ytmnmaijifhojiaa.fnExactPolicyDrop

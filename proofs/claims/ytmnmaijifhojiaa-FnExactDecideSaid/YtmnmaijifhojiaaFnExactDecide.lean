/-
  FnExactDecide: for every input that the row speaks of, the law returns true, and its arguments read afterwards as before. No further conditions.
-/
import Derived.Test.YtmnmaijifhojiaaRows
import Derived.Test.YtmnmaijifhojiaaJq
import Derived.Test.YtmnmaijifhojiaaJt
import Derived.Test.YtmnmaijifhojiaaRh
import Derived.Deep.DeepCutAuto
import Derived.Deep.CutRange
import Derived.WalkKit
import Derived.ProofKit
import Derived.OpenShut
import Derived.ShutString
import Derived.ChangeOld
import Derived.Below
namespace Go.Proofs.Ytmnmaijifhojiaa.fnExactDecide
open Go.ChangeShapes Go.WideShapes Go.ChangeAt Go.RowKit
open Go.ChangeMaps (open_string shut_string)
set_option linter.unusedVariables false
set_option linter.unusedSimpArgs false

theorem own : ownKnob Try.prog.godebug = none := by kernel_rfl
theorem laidOut : laidOutB Try.prog = true := by kernel_rfl

set_option maxHeartbeats 3200000 in
theorem walk (a0 a1 : Value) (w : World) (w0 : IsPolicy w a0) (w1 : IsRecord w a1) :
    Calls Try.prog 12 #[a0, a1] w fun e w' => e = .returned (.bool true) ∧ Below w.heap.size w w' := by
  obtain ⟨ar, df, bd, l, u, rfl, har, hdf, hbd, hu⟩ := w0
  obtain ⟨⟨zn, za, ⟨zh, zl⟩, args⟩, u', rfl, hx, hxr⟩ := w1
  simp only at hx ⊢
  obtain ⟨a, cap, rfl, hlc, hcm⟩ := hu.len
  obtain ⟨a', cap', rfl, hlc', hcm'⟩ := hx.len
  unfold maxLen at hcm hcm'
  have HB0 := Lib.hid (show ∀ o o' : Obj, Below w.heap.size w ((w.alloc o).alloc o') from fun o o' => ((Below.refl _ _).alloc (Nat.le_refl _) _).alloc (by simp) _)
  have hsz := fun W (h : Below w.heap.size w W) => szPolicy_any ar df bd _ l 1048576 W (RvAt.up (RvAt.below hu h) h.size) (by omega) (by omega)
  by_cases hlen : szRs 1048576 (rls l) < 0
  · generalize szRs 1048576 (rls l) = s at *
    have HZ := Lib.hid hsz
    clear hsz hu hx hxr
    go_enter Try.func12, Try.ntmps12
    go_wp2_with fail
    refine (HZ.out _ (HB0.out _ _)).mono ?_
    rintro e w1 ⟨rfl, hb1⟩
    have HB := Lib.hid (box2 hb1).2.2
    clear hb1
    go_wp2_with fail
    go_ret
    exact ⟨rfl, HB.out⟩
  have hbd2 := szRs_bd (l := rls l) (x := 1048576) (by omega)
  have hn : l.length ≤ 1048576 := by have := hbd2.2.1; simp [rls] at this; omega
  have hc : ∀ x ∈ l, x.r.cs.length ≤ 1048576 := fun x hx => by have := hbd2.2.2 x.r (List.mem_map.2 ⟨x, hx, rfl⟩); omega
  have hs1 := hbd2.1
  have HZ := Lib.hid hsz
  have hd0 : decide (szRs 1048576 (rls l) < 0) = false := by simpa using hlen
  by_cases hlen2 : szRs 1048576 (rls l) - (args.length : Int) < 0
  · have hsx := fun W => szRecord_any ⟨zn, za, ⟨zh, zl⟩, args⟩ a' args.length cap' (szRs 1048576 (rls l)) W (by omega) (by omega) (by omega)
    simp only [if_pos hlen2] at hsx
    generalize szRs 1048576 (rls l) = s at *
    have HY := Lib.hid hsx
    clear hsz hsx hu hx hxr hn hc hbd2
    go_enter Try.func12, Try.ntmps12
    go_wp2_with fail
    refine (HZ.out _ (HB0.out _ _)).mono ?_
    rintro e w1 ⟨rfl, hb1⟩
    have hb2 := box2 hb1
    have d0 := hb2.2.1 0
    have d1 := hb2.2.1 1
    have d2 := hb2.2.1 2
    have d3 := hb2.2.1 3
    have d4 := hb2.2.1 4
    simp only [List.getElem?_toArray, List.getElem?_cons_zero, List.getElem?_cons_succ] at d0 d1 d2 d3 d4
    have HB := Lib.hid hb1
    clear hb1 hb2
    go_wp2_with fail
    refine (HY.out _).mono ?_
    rintro e w2 ⟨rfl, hb3⟩
    have HC := Lib.hid (box2 (HB.out.trans (hb3.mono HB.out.size))).2.2
    clear hb3 d0 d1 d2 d3 d4
    go_wp2_with fail
    go_ret
    exact ⟨rfl, HC.out⟩
  have hsx := fun W => szRecord_any ⟨zn, za, ⟨zh, zl⟩, args⟩ a' args.length cap' (szRs 1048576 (rls l)) W (by omega) (by omega) (by omega)
  simp only [if_neg hlen2] at hsx
  have HY := Lib.hid hsx
  have hd1 : decide (szRs 1048576 (rls l) - (args.length : Int) < 0) = false := by simpa using hlen2
  have qt := fun W (h : Below w.heap.size w W) => toPolicy_any ar df bd l _ W (RvAt.up (RvAt.below hu h) h.size) hn hc
  have qx := fun W (h : Below w.heap.size w W) => toRecord_any ⟨zn, za, ⟨zh, zl⟩, args⟩ _ W (LAt.up (LAt.below hx h) h.size) (by show args.length ≤ 1048576; omega)
  have qs : ∀ u1 u2 (l' : List Rv) W, rls l' = rls l → RvAt W W.heap.size u1 l' → WdAt W W.heap.size u2 args → Calls Try.prog 28 #[polV ar df bd u1, .agg #[.int .i64 zn, .int .i64 za, .int .i64 zh, .int .i64 zl, u2]] W fun e w' => e = .returned (.int .i64 (polDecide ⟨ar, df, bd, rls l⟩ ⟨zn, za, ⟨zh, zl⟩, args⟩)) ∧ Below W.heap.size W w' := fun u1 u2 l' W e h1 h2 => by
    have := specDecide_any ar df bd l' zn za zh zl args u1 u2 W h1 h2
    rwa [e] at this
  have qi : ∀ u1 u2 (l' : List Rv) W, rls l' = rls l → RvAt W W.heap.size u1 l' → WdAt W W.heap.size u2 args → Calls Try.prog 27 #[polV ar df bd u1, .agg #[.int .i64 zn, .int .i64 za, .int .i64 zh, .int .i64 zl, u2]] W fun e w' => e = .returned (.int .i64 (polDecide ⟨ar, df, bd, rls l⟩ ⟨zn, za, ⟨zh, zl⟩, args⟩)) ∧ Below W.heap.size W w' := fun u1 u2 l' W e h1 h2 => by
    have := implDecide_any ar df bd l' zn za zh zl args u1 u2 W h1 h2
    rwa [e] at this
  have qe : ∀ u1 u2 (l1 l2 : List Rv) W, rls l1 = rls l → rls l2 = rls l → RvAt W W.heap.size u1 l1 → RvAt W W.heap.size u2 l2 → Calls Try.prog 51 #[polV ar df bd u1, polV ar df bd u2] W fun e w' => e = .returned (.bool true) ∧ Below W.heap.size W w' := fun u1 u2 l1 l2 W e1 e2 h1 h2 => by
    have := eqPolicy_any ar df bd ar df bd l1 l2 u1 u2 W h1 h2
    rwa [e1, e2, decide_eq_true rfl] at this
  have qf := fun u1 u2 W (h1 : WdAt W W.heap.size u1 args) (h2 : WdAt W W.heap.size u2 args) => eqRecord_same ⟨zn, za, ⟨zh, zl⟩, args⟩ u1 u2 W h1 h2
  have hwf := Lib.hid hu.wf
  have hwx : Hid (∀ x ∈ args, x.wf) := hx.2.2
  have hq : (polDecide ⟨ar, df, bd, rls l⟩ ⟨zn, za, ⟨zh, zl⟩, args⟩ != polDecide ⟨ar, df, bd, rls l⟩ ⟨zn, za, ⟨zh, zl⟩, args⟩) = false := by simp
  generalize polDecide ⟨ar, df, bd, rls l⟩ ⟨zn, za, ⟨zh, zl⟩, args⟩ = res at *
  generalize szRs 1048576 (rls l) = s at *
  have QT := Lib.hid qt
  have QX := Lib.hid qx
  have QS := Lib.hid qs
  have QI := Lib.hid qi
  have QE := Lib.hid qe
  have QF := Lib.hid qf
  clear hsz hsx qt qx qs qi qe qf hu hx hxr hlen2 hn hc hbd2 hlen
  have hkeep : ∀ W : World, Below ((w.alloc (.cells #[.int .i64 ar, .int .i64 df, .int .i64 bd, .slice a l.length cap] 88)).alloc (.cells #[.int .i64 zn, .int .i64 za, .int .i64 zh, .int .i64 zl, .slice a' args.length cap'] 81)).heap.size ((w.alloc (.cells #[.int .i64 ar, .int .i64 df, .int .i64 bd, .slice a l.length cap] 88)).alloc (.cells #[.int .i64 zn, .int .i64 za, .int .i64 zh, .int .i64 zl, .slice a' args.length cap'] 81)) W → (W.cell? ⟨w.heap.size, 0, none⟩ = some (.int .i64 ar) ∧ W.cell? ⟨w.heap.size, 1, none⟩ = some (.int .i64 df) ∧ W.cell? ⟨w.heap.size, 2, none⟩ = some (.int .i64 bd) ∧ W.cell? ⟨w.heap.size, 3, none⟩ = some (.slice a l.length cap) ∧ W.cell? ⟨w.heap.size + 1, 0, none⟩ = some (.int .i64 zn) ∧ W.cell? ⟨w.heap.size + 1, 1, none⟩ = some (.int .i64 za) ∧ W.cell? ⟨w.heap.size + 1, 2, none⟩ = some (.int .i64 zh) ∧ W.cell? ⟨w.heap.size + 1, 3, none⟩ = some (.int .i64 zl) ∧ W.cell? ⟨w.heap.size + 1, 4, none⟩ = some (.slice a' args.length cap')) := fun W hb => ⟨(box2 hb).1 0, (box2 hb).1 1, (box2 hb).1 2, (box2 hb).1 3, (box2 hb).2.1 0, (box2 hb).2.1 1, (box2 hb).2.1 2, (box2 hb).2.1 3, (box2 hb).2.1 4⟩
  have HK := Lib.hid hkeep
  clear hkeep
  go_enter Try.func12, Try.ntmps12
  go_wp2_with fail
  refine (HZ.out _ (HB0.out _ _)).mono ?_
  rintro e w1 ⟨rfl, hb1⟩
  have HB1 := Lib.hid hb1
  obtain ⟨c0, c1, c2, c3, d0, d1, d2, d3, d4⟩ := HK.out _ hb1
  clear hb1
  go_wp2_with fail
  refine (HY.out _).mono ?_
  rintro e w2 ⟨rfl, hb2⟩
  have HB2 := Lib.hid (HB1.out.trans (hb2.mono HB1.out.size))
  clear hb2 c0 c1 c2 c3 d0 d1 d2 d3 d4
  obtain ⟨c0, c1, c2, c3, d0, d1, d2, d3, d4⟩ := HK.out _ HB2.out
  have hbw0 := HB2.out.drew
  go_wp2_with fail
  refine wp_region_noPanic ?_
  refine wp_region_held_drew (S := fun w' => w'.cell? ⟨w.heap.size, 0, none⟩ = some (.int .i64 ar) ∧ w'.cell? ⟨w.heap.size, 1, none⟩ = some (.int .i64 df) ∧ w'.cell? ⟨w.heap.size, 2, none⟩ = some (.int .i64 bd) ∧ w'.cell? ⟨w.heap.size, 3, none⟩ = some (.slice a l.length cap) ∧ w'.cell? ⟨w.heap.size + 1, 0, none⟩ = some (.int .i64 zn) ∧ w'.cell? ⟨w.heap.size + 1, 1, none⟩ = some (.int .i64 za) ∧ w'.cell? ⟨w.heap.size + 1, 2, none⟩ = some (.int .i64 zh) ∧ w'.cell? ⟨w.heap.size + 1, 3, none⟩ = some (.int .i64 zl) ∧ w'.cell? ⟨w.heap.size + 1, 4, none⟩ = some (.slice a' args.length cap')) (by kernel_rfl) ?_ (fun hHeld => ?_)
  · exact HK.out _ hbw0
  refine wpAnyH_take (i := 0) (v := ?qv1) rfl (by kernel_rfl) (by kernel_rfl) (by kernel_rfl) (fun _ _ _ h => h) (Or.inl ⟨by rfl, ?qhy1⟩) (by assumption) ?qrest1
  case qhy1 =>
    intro W hSw
    try dsimp only at hSw
    go_simp
    try with_reducible rfl
  try simp only [Act.put, List.getElem_toArray, List.getElem_cons_zero, List.getElem_cons_succ, List.setIfInBounds_toArray, List.set_cons_zero, List.set_cons_succ]
  refine wpAnyH_take (i := 2) (v := ?qv2) rfl (by kernel_rfl) (by kernel_rfl) (by kernel_rfl) (fun _ _ _ h => h) (Or.inl ⟨by rfl, ?qhy2⟩) (by assumption) ?qrest2
  case qhy2 =>
    intro W hSw
    try dsimp only at hSw
    go_simp
    try with_reducible rfl
  try simp only [Act.put, List.getElem_toArray, List.getElem_cons_zero, List.getElem_cons_succ, List.setIfInBounds_toArray, List.set_cons_zero, List.set_cons_succ]
  refine wpAnyH_ready (rs := [1]) (by kernel_rfl) (by simp) ?_
  refine AllReadyH.cons rfl (fun K hK => ?_) AllReadyH.nil
  go_simp
  refine (QT.out _ (box2 hbw0).2.2).mono ?_
  rintro e v1 ⟨u1, l1, rfl, hl1, ho1, hb1⟩
  have hbw1 := hbw0.trans (hb1.mono hbw0.size)
  obtain ⟨ra1, rcap1, rfl⟩ := OwnRv.slice ho1
  have HI1 := Lib.hid (OwnRv.at' ho1 hl1 hwf.out)
  have HL1 := Lib.hid hl1
  clear ho1 hl1
  go_wp2_with fail
  refine hK.out _ _ ?_ (fun hHeld => ?_)
  · exact HK.out _ hbw1
  clear hK K hb1
  try simp only [Act.put, List.getElem_toArray, List.getElem_cons_zero, List.getElem_cons_succ, List.setIfInBounds_toArray, List.set_cons_zero, List.set_cons_succ]
  refine wpAnyH_ready (rs := [3]) (by kernel_rfl) (by simp) ?_
  refine AllReadyH.cons rfl (fun K hK => ?_) AllReadyH.nil
  go_simp
  refine (QX.out _ (box2 hbw1).2.2).mono ?_
  rintro e v2 ⟨u2, rfl, ho2, hb2⟩
  have hbw2 := hbw1.trans (hb2.mono hbw1.size)
  have HI1' := Lib.hid (RvAt.up (RvAt.below HI1.out hb2) hb2.size)
  obtain ⟨ra2, rcap2, rfl⟩ := OwnL.slice ho2
  have HI2 := Lib.hid (OwnL.lAt wdS ho2 hwx.out)
  clear ho2
  go_wp2_with fail
  refine hK.out _ _ ?_ (fun hHeld => ?_)
  · exact HK.out _ hbw2
  clear hK K hb2
  try simp only [Act.put, List.getElem_toArray, List.getElem_cons_zero, List.getElem_cons_succ, List.setIfInBounds_toArray, List.set_cons_zero, List.set_cons_succ]
  refine wpAnyH_ready (rs := [4]) (by kernel_rfl) (by simp) ?_
  refine AllReadyH.cons rfl (fun K hK => ?_) AllReadyH.nil
  go_simp
  refine (QS.out _ _ _ _ HL1.out HI1'.out HI2.out).mono ?_
  rintro e v3 ⟨rfl, hb3⟩
  have hbw3 := hbw2.trans (hb3.mono hbw2.size)
  go_wp2_with fail
  refine hK.out _ _ ?_ (fun hHeld => ?_)
  · exact HK.out _ hbw3
  clear hK K hb3
  try simp only [Act.put, List.getElem_toArray, List.getElem_cons_zero, List.getElem_cons_succ, List.setIfInBounds_toArray, List.set_cons_zero, List.set_cons_succ]
  refine wpAnyH_take (i := 5) (v := ?qv3) rfl (by kernel_rfl) (by kernel_rfl) (by kernel_rfl) (fun _ _ _ h => h) (Or.inl ⟨by rfl, ?qhy3⟩) (by assumption) ?qrest3
  case qhy3 =>
    intro W hSw
    try dsimp only at hSw
    go_simp
    try with_reducible rfl
  try simp only [Act.put, List.getElem_toArray, List.getElem_cons_zero, List.getElem_cons_succ, List.setIfInBounds_toArray, List.set_cons_zero, List.set_cons_succ]
  refine wpAnyH_done (by kernel_rfl) ?_ _
  refine NoPanic.normal ?_
  have HB3 := Lib.hid hbw3
  clear hbw0 hbw1 hbw2 hbw3 c0 c1 c2 c3 d0 d1 d2 d3 d4
  obtain ⟨c0, c1, c2, c3, d0, d1, d2, d3, d4⟩ := HK.out _ HB3.out
  go_wp2_with fail
  clear c0 c1 c2 c3 d0 d1 d2 d3 d4
  refine (QT.out _ (box2 HB3.out).2.2).mono ?_
  rintro e w4 ⟨u4, l4, rfl, hl4, ho4, hb4⟩
  obtain ⟨ra4, rcap4, rfl⟩ := OwnRv.slice ho4
  have HI4 := Lib.hid (OwnRv.at' ho4 hl4 hwf.out)
  have HL4 := Lib.hid hl4
  clear ho4 hl4
  have HB4 := Lib.hid (HB3.out.trans (hb4.mono HB3.out.size))
  clear hb4
  obtain ⟨c0, c1, c2, c3, d0, d1, d2, d3, d4⟩ := HK.out _ HB4.out
  have hs4 : w.heap.size + 1 < w4.heap.size := by have := HB4.out.size; simp at this; omega
  have hs4' : w.heap.size < w4.heap.size := by omega
  go_wp2_with fail
  clear c0 c1 c2 c3 d0 d1 d2 d3 d4
  have hbn : ∀ o, Below w4.heap.size w4 (w4.alloc o) := fun o => (Below.refl _ _).alloc (Nat.le_refl _) _
  have HBN := Lib.hid hbn
  clear hbn
  refine (QX.out _ ((box2 HB4.out).2.2.trans ((HBN.out _).mono (box2 HB4.out).2.2.size))).mono ?_
  rintro e w5 ⟨u5, rfl, ho5, hb5⟩
  obtain ⟨ra5, rcap5, rfl⟩ := OwnL.slice ho5
  have HI5 := Lib.hid (OwnL.lAt wdS ho5 hwx.out)
  clear ho5
  have hr4 := (hb5.block w4.heap.size (by simp)).trans (heap_alloc_new w4 _)
  have hb45 := (HBN.out _).trans (hb5.mono (HBN.out _).size)
  have HI4' := Lib.hid (RvAt.up (RvAt.below HI4.out hb45) hb45.size)
  have HB5 := Lib.hid (HB4.out.trans (hb45.mono HB4.out.size))
  have HR4 := Lib.hid hr4
  have hlt45 : w4.heap.size < w5.heap.size := row_here hr4
  have e0 := row_cell hr4 0
  have e1 := row_cell hr4 1
  have e2 := row_cell hr4 2
  have e3 := row_cell hr4 3
  simp only [List.getElem?_toArray, List.getElem?_cons_zero, List.getElem?_cons_succ] at e0 e1 e2 e3
  clear hb5 hb45 hr4
  go_wp2_with fail
  clear e0 e1 e2 e3
  have hb6 : Below w5.heap.size w5 (w5.alloc (.cells #[.int .i64 zn, .int .i64 za, .int .i64 zh, .int .i64 zl, .slice ra5 args.length rcap5] 45)) := (Below.refl _ _).alloc (Nat.le_refl _) _
  have hr5 := heap_alloc_new w5 (.cells #[.int .i64 zn, .int .i64 za, .int .i64 zh, .int .i64 zl, .slice ra5 args.length rcap5] 45)
  have hr4 := row_alloc HR4.out (.cells #[.int .i64 zn, .int .i64 za, .int .i64 zh, .int .i64 zl, .slice ra5 args.length rcap5] 45)
  have HI4 := Lib.hid (RvAt.up (RvAt.below HI4'.out hb6) hb6.size)
  have HI5 := Lib.hid (LAt.up (LAt.below HI5.out hb6) hb6.size)
  have HB6 := Lib.hid (HB5.out.trans (hb6.mono HB5.out.size))
  have hlt5 : w5.heap.size < (w5.alloc (.cells #[.int .i64 zn, .int .i64 za, .int .i64 zh, .int .i64 zl, .slice ra5 args.length rcap5] 45)).heap.size := by simp
  have hlt4 : w4.heap.size < (w5.alloc (.cells #[.int .i64 zn, .int .i64 za, .int .i64 zh, .int .i64 zl, .slice ra5 args.length rcap5] 45)).heap.size := by simp; omega
  have HR5 := Lib.hid hr5
  have HR4 := Lib.hid hr4
  clear hb6 hr5 hr4
  generalize w5.alloc (.cells #[.int .i64 zn, .int .i64 za, .int .i64 zh, .int .i64 zl, .slice ra5 args.length rcap5] 45) = W6 at *
  have hkeep2 : ∀ W : World, Below W6.heap.size W6 W → (W.cell? ⟨w4.heap.size, 0, none⟩ = some (.int .i64 ar) ∧ W.cell? ⟨w4.heap.size, 1, none⟩ = some (.int .i64 df) ∧ W.cell? ⟨w4.heap.size, 2, none⟩ = some (.int .i64 bd) ∧ W.cell? ⟨w4.heap.size, 3, none⟩ = some (.slice ra4 l4.length rcap4) ∧ W.cell? ⟨w5.heap.size, 0, none⟩ = some (.int .i64 zn) ∧ W.cell? ⟨w5.heap.size, 1, none⟩ = some (.int .i64 za) ∧ W.cell? ⟨w5.heap.size, 2, none⟩ = some (.int .i64 zh) ∧ W.cell? ⟨w5.heap.size, 3, none⟩ = some (.int .i64 zl) ∧ W.cell? ⟨w5.heap.size, 4, none⟩ = some (.slice ra5 args.length rcap5) ∧ W.cell? ⟨w.heap.size, 0, none⟩ = some (.int .i64 ar) ∧ W.cell? ⟨w.heap.size, 1, none⟩ = some (.int .i64 df) ∧ W.cell? ⟨w.heap.size, 2, none⟩ = some (.int .i64 bd) ∧ W.cell? ⟨w.heap.size, 3, none⟩ = some (.slice a l.length cap) ∧ W.cell? ⟨w.heap.size + 1, 0, none⟩ = some (.int .i64 zn) ∧ W.cell? ⟨w.heap.size + 1, 1, none⟩ = some (.int .i64 za) ∧ W.cell? ⟨w.heap.size + 1, 2, none⟩ = some (.int .i64 zh) ∧ W.cell? ⟨w.heap.size + 1, 3, none⟩ = some (.int .i64 zl) ∧ W.cell? ⟨w.heap.size + 1, 4, none⟩ = some (.slice a' args.length cap')) := fun W hb => by
    have r1 := (hb.block _ hlt4).trans HR4.out
    have r2 := (hb.block _ hlt5).trans HR5.out
    exact ⟨row_cell r1 0, row_cell r1 1, row_cell r1 2, row_cell r1 3, row_cell r2 0, row_cell r2 1, row_cell r2 2, row_cell r2 3, row_cell r2 4, HK.out _ (HB6.out.trans (hb.mono HB6.out.size))⟩
  have HK2 := Lib.hid hkeep2
  clear hkeep2
  refine (QI.out _ _ _ _ HL4.out HI4.out HI5.out).mono ?_
  rintro e w7 ⟨rfl, hb7⟩
  have HB7 := Lib.hid hb7
  clear hb7
  obtain ⟨e0, e1, e2, e3, f0, f1, f2, f3, f4, c0, c1, c2, c3, d0, d1, d2, d3, d4⟩ := HK2.out _ HB7.out
  go_wp2_with fail
  have hbw7 := HB7.out.drew
  go_region_held3 (fun w' => w'.cell? ⟨w4.heap.size, 0, none⟩ = some (.int .i64 ar) ∧ w'.cell? ⟨w4.heap.size, 1, none⟩ = some (.int .i64 df) ∧ w'.cell? ⟨w4.heap.size, 2, none⟩ = some (.int .i64 bd) ∧ w'.cell? ⟨w4.heap.size, 3, none⟩ = some (.slice ra4 l4.length rcap4) ∧ w'.cell? ⟨w5.heap.size, 0, none⟩ = some (.int .i64 zn) ∧ w'.cell? ⟨w5.heap.size, 1, none⟩ = some (.int .i64 za) ∧ w'.cell? ⟨w5.heap.size, 2, none⟩ = some (.int .i64 zh) ∧ w'.cell? ⟨w5.heap.size, 3, none⟩ = some (.int .i64 zl) ∧ w'.cell? ⟨w5.heap.size, 4, none⟩ = some (.slice ra5 args.length rcap5) ∧ w'.cell? ⟨w.heap.size, 0, none⟩ = some (.int .i64 ar) ∧ w'.cell? ⟨w.heap.size, 1, none⟩ = some (.int .i64 df) ∧ w'.cell? ⟨w.heap.size, 2, none⟩ = some (.int .i64 bd) ∧ w'.cell? ⟨w.heap.size, 3, none⟩ = some (.slice a l.length cap) ∧ w'.cell? ⟨w.heap.size + 1, 0, none⟩ = some (.int .i64 zn) ∧ w'.cell? ⟨w.heap.size + 1, 1, none⟩ = some (.int .i64 za) ∧ w'.cell? ⟨w.heap.size + 1, 2, none⟩ = some (.int .i64 zh) ∧ w'.cell? ⟨w.heap.size + 1, 3, none⟩ = some (.int .i64 zl) ∧ w'.cell? ⟨w.heap.size + 1, 4, none⟩ = some (.slice a' args.length cap'))
    (first | go_keep | exact HK2.out _ hbw9 | exact HK2.out _ hbw8)
    (first
      | (go_at_call 50; (with_reducible refine (QT.out _ ((box2 HB6.out).2.2.trans (hbw7.mono (box2 HB6.out).2.2.size))).mono ?_); rintro e w8 ⟨u8, l8, rfl, hl8, ho8, hb8⟩; obtain ⟨a8, cap8, rfl⟩ := OwnRv.slice ho8; have hbw8 := hbw7.trans (hb8.mono hbw7.size); have hi8 := OwnRv.at' ho8 hl8 hwf.out; have HL8 := Lib.hid hl8; clear hl8)
      | (go_at_call 51; (with_reducible refine (QE.out _ _ _ _ _ HL4.out HL8.out (RvAt.up (RvAt.below HI4.out hbw8) hbw8.size) hi8).mono ?_); rintro e w9 ⟨rfl, hb9⟩; have hbw9 := hbw8.trans (hb9.mono hbw8.size)))
  have HB9 := Lib.hid hbw9
  clear hbw7 hbw8 hbw9 hb8 hb9 ho8 hi8 e0 e1 e2 e3 f0 f1 f2 f3 f4 c0 c1 c2 c3 d0 d1 d2 d3 d4
  obtain ⟨e0, e1, e2, e3, f0, f1, f2, f3, f4, c0, c1, c2, c3, d0, d1, d2, d3, d4⟩ := HK2.out _ HB9.out
  go_wp2_with fail
  have hbw9 := HB9.out.drew
  go_region_held3 (fun w' => w'.cell? ⟨w4.heap.size, 0, none⟩ = some (.int .i64 ar) ∧ w'.cell? ⟨w4.heap.size, 1, none⟩ = some (.int .i64 df) ∧ w'.cell? ⟨w4.heap.size, 2, none⟩ = some (.int .i64 bd) ∧ w'.cell? ⟨w4.heap.size, 3, none⟩ = some (.slice ra4 l4.length rcap4) ∧ w'.cell? ⟨w5.heap.size, 0, none⟩ = some (.int .i64 zn) ∧ w'.cell? ⟨w5.heap.size, 1, none⟩ = some (.int .i64 za) ∧ w'.cell? ⟨w5.heap.size, 2, none⟩ = some (.int .i64 zh) ∧ w'.cell? ⟨w5.heap.size, 3, none⟩ = some (.int .i64 zl) ∧ w'.cell? ⟨w5.heap.size, 4, none⟩ = some (.slice ra5 args.length rcap5) ∧ w'.cell? ⟨w.heap.size, 0, none⟩ = some (.int .i64 ar) ∧ w'.cell? ⟨w.heap.size, 1, none⟩ = some (.int .i64 df) ∧ w'.cell? ⟨w.heap.size, 2, none⟩ = some (.int .i64 bd) ∧ w'.cell? ⟨w.heap.size, 3, none⟩ = some (.slice a l.length cap) ∧ w'.cell? ⟨w.heap.size + 1, 0, none⟩ = some (.int .i64 zn) ∧ w'.cell? ⟨w.heap.size + 1, 1, none⟩ = some (.int .i64 za) ∧ w'.cell? ⟨w.heap.size + 1, 2, none⟩ = some (.int .i64 zh) ∧ w'.cell? ⟨w.heap.size + 1, 3, none⟩ = some (.int .i64 zl) ∧ w'.cell? ⟨w.heap.size + 1, 4, none⟩ = some (.slice a' args.length cap'))
    (first | go_keep | exact HK2.out _ hbw11 | exact HK2.out _ hbw10)
    (first
      | (go_at_call 47; (with_reducible refine (QX.out _ ((box2 HB6.out).2.2.trans (hbw9.mono (box2 HB6.out).2.2.size))).mono ?_); rintro e w10 ⟨u10, rfl, ho10, hb10⟩; obtain ⟨a10, cap10, rfl⟩ := OwnL.slice ho10; have hbw10 := hbw9.trans (hb10.mono hbw9.size); have hi10 := OwnL.lAt wdS ho10 hwx.out)
      | (go_at_call 48; (with_reducible refine (QF.out _ _ _ (LAt.up (LAt.below HI5.out hbw10) hbw10.size) hi10).mono ?_); rintro e w11 ⟨rfl, hb11⟩; have hbw11 := hbw10.trans (hb11.mono hbw10.size)))
  have HX := Lib.hid ((box2 HB6.out).2.2.trans (hbw11.mono (box2 HB6.out).2.2.size))
  clear hbw9 hbw10 hbw11 hb10 hb11 e0 e1 e2 e3 f0 f1 f2 f3 f4 c0 c1 c2 c3 d0 d1 d2 d3 d4
  go_wp2_with fail
  go_ret
  exact ⟨rfl, HX.out⟩

set_option maxRecDepth 100000 in
theorem lifted (os : Os) (started : os.Started) (H : Type) (enc : TypeId × Value → H) :
    ReturnsInHanded {} Try.checked os 12 .any (Rows.fnExactDecideSpec.pre6 enc Try.prog Try.f12 Rows.fnExactDecideRow.domain false) (Rows.fnExactDecideSpec.post enc Try.prog Try.f12 false true false false) := by
  refine returnsInHanded_of_change (C := Try.checked) own started (by kernel_rfl) Try.func12
    (ChangeSpec.witness6 (enc := enc) (C := Try.checked) false ⟨#[], #[.agg #[.int .i64 0, .int .i64 0, .int .i64 0, .slice none 0 0], .agg #[.int .i64 0, .int .i64 0, .int .i64 0, .int .i64 0, .slice none 0 0]], []⟩ 8 (by kernel_rfl) (by kernel_rfl) (by kernel_rfl) (by kernel_rfl)) ?_
  intro W base args ds gs before hval0 hW hcnd _
  have hval : ∀ (j : Nat) t v, Try.f12.params[j]? = some t → args[j]? = some v → Value.okWide Try.prog W .any base t v := hval0
  have hW' := hW
  obtain ⟨p, q, hA0, hV, rfl, hfz, hnd⟩ := hW
  have hA : DataW.TrodAll enc Try.prog W 0 (fun _ => true) true Try.f12.params.toList args.toList ds p := hA0
  rw [Try.params12] at hA hval
  obtain ⟨v0, vs0, d0, ds0, p0, q0, hargs, rfl, rfl, h0, r0⟩ := trodAll_cons hA
  obtain ⟨v1, vs1, d1, ds1, p1, q1, rfl, rfl, rfl, h1, r1⟩ := trodAll_cons r0
  obtain ⟨rfl, rfl, rfl⟩ := trodAll_nil r1
  obtain rfl : args = #[v0, v1] := by cases args; simp_all
  obtain ⟨rfl, rfl⟩ := trodVars_none hV
  have lt0 : ∀ x ∈ p0, x.block < W.heap.size := by obtain ⟨m, hm⟩ := h0; exact DataW.trod_lt m _ _ _ hm
  have w0 := open_isPolicy (hval 0 88 v0 rfl rfl) h0
  have lt1 : ∀ x ∈ p1, x.block < W.heap.size := by obtain ⟨m, hm⟩ := h1; exact DataW.trod_lt m _ _ _ hm
  have w1 := open_isRecord (hval 1 81 v1 rfl rfl) h1
  clear hA0 hval0
  refine (walk v0 v1 W w0 w1).mono fun e W' ⟨he, bel⟩ => ?_
  subst he
  exact ⟨_, rfl, _, _, _, [], _, [], hW', trodAll_mk1 (shut_bool Try.underlying4 _), (trodAll_cons_mk (Below.trod laidOut (by kernel_rfl) (of_decide_eq_true (by kernel_rfl)) h0 bel lt0) (trodAll_cons_mk (Below.trod laidOut (by kernel_rfl) (of_decide_eq_true (by kernel_rfl)) h1 bel lt1) trodAll_mk0)), rfl, bel.frame _, fun h => by cases h⟩

theorem over : Rows.fnExactDecideRow.holds Try.pinned (OpenSpec.ofChange Rows.fnExactDecideSpec) :=
  OpenClaim.holds_of_wide 12 Try.f12 rfl rfl rfl rfl rfl rfl rfl ⟨rfl, rfl, rfl, rfl, rfl⟩ rfl rfl rfl rfl rfl (by kernel_rfl) Try.func12 (by kernel_rfl)
    (of_decide_eq_true (by kernel_rfl)) (by unfold Func.isWrapper; first | (rw [if_pos (by decide +kernel)]; kernel_rfl) | (rw [if_neg (by decide +kernel)]; exact ⟨rfl, rfl⟩))
    (fun os started H enc _ => lifted os started H enc)

theorem proved : Rows.FnExactDecideSaid := over
#print axioms proved
end Go.Proofs.Ytmnmaijifhojiaa.fnExactDecide

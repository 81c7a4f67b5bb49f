/-
  FnExactPolicyAdd: for every input that the row speaks of, the law returns true, and its arguments read afterwards as before. No further conditions.
-/
import Derived.Test.YtmnmaijifhojiaaRows
import Derived.Test.YtmnmaijifhojiaaKf
import Derived.Test.YtmnmaijifhojiaaRh
import Derived.Deep.DeepCutAuto
import Derived.Deep.CutRange
import Derived.Deep.RegionLaw
import Derived.WalkKit
import Derived.ProofKit
import Derived.OpenShut
import Derived.ShutString
import Derived.ChangeOld
import Derived.Below
namespace Go.Proofs.Ytmnmaijifhojiaa.fnExactPolicyAdd
open Go.ChangeShapes Go.WideShapes Go.ChangeAt Go.RowKit
open Go.ChangeMaps (open_string shut_string)
set_option linter.unusedVariables false
set_option linter.unusedSimpArgs false

theorem own : ownKnob Try.prog.godebug = none := by kernel_rfl
theorem laidOut : laidOutB Try.prog = true := by kernel_rfl

set_option maxHeartbeats 25600000 in
theorem walk (a0 a1 : Value) (w : World) (w0 : IsPolicy w a0) (w1 : IsRule w a1) :
    Calls Try.prog 10 #[a0, a1] w fun e w' => e = .returned (.bool true) ∧ Below w.heap.size w w' := by
  obtain ⟨ar, df, bd, l, u, rfl, har, hdf, hbd, hu⟩ := w0
  obtain ⟨⟨nr, ac, cs⟩, u', rfl, hrw, hx⟩ := w1
  simp only at hx ⊢
  obtain ⟨a, cap, rfl, hlc, hcm⟩ := hu.len
  obtain ⟨a', cap', rfl, hlc', hcm'⟩ := hx.len
  unfold maxLen at hcm hcm'
  have HB0 := Lib.hid (show ∀ o o' : Obj, Below w.heap.size w ((w.alloc o).alloc o') from fun o o' => ((Below.refl _ _).alloc (Nat.le_refl _) _).alloc (by simp) _)
  have hsz := fun W (h : Below w.heap.size w W) => szPolicy_any ar df bd _ l 1048576 W (RvAt.up (RvAt.below hu h) h.size) (by omega) (by omega)
  by_cases hlen : szRs 1048576 (rls l) < 0
  · generalize szRs 1048576 (rls l) = s at *
    have HZ := Lib.hid hsz
    clear hsz hu hx hrw
    go_enter Try.func10, Try.ntmps10
    go_wp2_with fail
    refine (HZ.out _ (HB0.out _ _)).mono ?_
    rintro e w1 ⟨rfl, hb1⟩
    have HB := Lib.hid (box2 hb1).2.2
    clear hb1
    go_wp2_with fail
    go_ret
    exact ⟨rfl, HB.out⟩
  have hbd2 := szRs_bd (l := rls l) (x := 1048576) (by omega)
  have hend := szRs_end (l := rls l) (by omega)
  have hll : (rls l).length = l.length := by simp [rls]
  have hn : l.length ≤ 1048576 := by have := hbd2.2.1; omega
  have hc : ∀ x ∈ l, x.r.cs.length ≤ 1048576 := fun x hx => by have := hbd2.2.2 x.r (List.mem_map.2 ⟨x, hx, rfl⟩); omega
  have hs1 := hbd2.1
  have HZ := Lib.hid hsz
  have hd0 : decide (szRs 1048576 (rls l) < 0) = false := by simpa using hlen
  by_cases hlen2 : szRs 1048576 (rls l) - (cs.length : Int) < 0
  · have hsx := fun W => szRule_any nr ac a' cs.length cap' (szRs 1048576 (rls l)) W (by omega) (by omega) (by omega)
    simp only [if_pos hlen2] at hsx
    generalize szRs 1048576 (rls l) = s at *
    have HY := Lib.hid hsx
    clear hsz hsx hu hx hrw hn hc hbd2 hend
    go_enter Try.func10, Try.ntmps10
    go_wp2_with fail
    refine (HZ.out _ (HB0.out _ _)).mono ?_
    rintro e w1 ⟨rfl, hb1⟩
    have hb2 := box2 hb1
    have d0 := hb2.2.1 0
    have d1 := hb2.2.1 1
    have d2 := hb2.2.1 2
    simp only [List.getElem?_toArray, List.getElem?_cons_zero, List.getElem?_cons_succ] at d0 d1 d2
    have HB := Lib.hid hb1
    clear hb1 hb2
    go_wp2_with fail
    refine (HY.out _).mono ?_
    rintro e w2 ⟨rfl, hb3⟩
    have HC := Lib.hid (box2 (HB.out.trans (hb3.mono HB.out.size))).2.2
    clear hb3 d0 d1 d2
    go_wp2_with fail
    go_ret
    exact ⟨rfl, HC.out⟩
  have hsx := fun W => szRule_any nr ac a' cs.length cap' (szRs 1048576 (rls l)) W (by omega) (by omega) (by omega)
  simp only [if_neg hlen2] at hsx
  have HY := Lib.hid hsx
  have hd1 : decide (szRs 1048576 (rls l) - (cs.length : Int) < 0) = false := by simpa using hlen2
  have hcl : cs.length ≤ 1048576 := by omega
  have hwf := Lib.hid hu.wf
  have hwc : Hid (∀ x ∈ cs, x.wf) := hx.2.2
  have hsm := Lib.hid (polAdd_small ar df bd nr ac cs l hu.wf ⟨hrw, hx.2.2⟩)
  have qt := fun W (h : Below w.heap.size w W) => toPolicy_any ar df bd l _ W (RvAt.up (RvAt.below hu h) h.size) hn hc
  have qr := fun W (h : Below w.heap.size w W) => toRule_any nr ac cs _ W (LAt.up (LAt.below hx h) h.size) (by omega)
  have qs : ∀ u' v' (l' : List Rv) W, rls l' = rls l → RvAt W W.heap.size u' l' → CqAt W W.heap.size v' cs → Calls Try.prog 24 #[polV ar df bd u', .agg #[.int .i64 nr, .int .i64 ac, v']] W (PolEnd W.heap.size W (polAdd ⟨ar, df, bd, rls l⟩ ⟨nr, ac, cs⟩)) := fun u' v' l' W e h h2 => by
    have := specPolicyAdd_any ar df bd l' nr ac cs u' v' W h h2
    rwa [e] at this
  have qi : ∀ u' v' (l' : List Rv) W, rls l' = rls l → RvAt W W.heap.size u' l' → CqAt W W.heap.size v' cs → Calls Try.prog 16 #[polV ar df bd u', .agg #[.int .i64 nr, .int .i64 ac, v']] W (PolEnd W.heap.size W (polAdd ⟨ar, df, bd, rls l⟩ ⟨nr, ac, cs⟩)) := fun u' v' l' W e h h2 => by
    have := implPolicyAdd_any ar df bd l' nr ac cs u' v' W h h2
    rwa [e] at this
  have qe : ∀ u1 u2 (l1 l2 : List Rv) W, rls l1 = rls l → rls l2 = rls l → RvAt W W.heap.size u1 l1 → RvAt W W.heap.size u2 l2 → Calls Try.prog 51 #[polV ar df bd u1, polV ar df bd u2] W fun e w' => e = .returned (.bool true) ∧ Below W.heap.size W w' := fun u1 u2 l1 l2 W e1 e2 h1 h2 => by
    have := eqPolicy_any ar df bd ar df bd l1 l2 u1 u2 W h1 h2
    rwa [e1, e2, decide_eq_true rfl] at this
  have qf := fun u1 u2 W (h1 : CqAt W W.heap.size u1 cs) (h2 : CqAt W W.heap.size u2 cs) => eqRule_any nr ac nr ac cs cs u1 u2 W h1 h2
  simp only [decide_true] at qf
  have qm : ∀ base u' (l' : List Rv) W, rls l' = rls l → OwnRv base W u' l' → Calls Try.prog 53 #[polV ar df bd u', .int .i64 1] W fun e w' => e = .returned (.int .i64 (mkEnd 1 (rls l))) ∧ OnlyIn (RvBlk u' l') W w' := fun base u' l' W e h => by
    have hl' : l'.length = l.length := by have := congrArg List.length e; simpa [rls] using this
    refine (markPolicy_any base ar df bd u' l' 1 W h (by omega) (by omega) (by rw [e]; exact hend)).mono ?_
    rintro e' w' ⟨_, rfl, _, _, ho⟩
    exact ⟨by rw [e], ho⟩
  have hge := mkEnd_ge (rls l) 1
  have qn := fun base v' W (h : CqOwn base W v' cs) => markRule_any base nr ac v' cs (mkEnd 1 (rls l)) W h (by omega) (by omega) hend
  have hk0 : decide (mkEnd 1 (rls l) + 6 * (cs.length : Int) < 0) = false := by simp; omega
  generalize mkEnd 1 (rls l) = ke at *
  generalize polAdd ⟨ar, df, bd, rls l⟩ ⟨nr, ac, cs⟩ = res at *
  obtain ⟨⟨par, pdf, pbd, prs⟩, pc⟩ := res
  have hge2 := mkEnd_ge prs 1
  have qp : ∀ base u' (l' : List Rv) W, rls l' = prs → OwnRv base W u' l' → Calls Try.prog 55 #[outV par pdf pbd u' pc, .int .i64 1] W fun e w' => ∃ l2, e = .returned (.int .i64 (mkEnd 1 prs)) ∧ rls l2 = mkRs 1 prs ∧ OwnRv base w' u' l2 ∧ OnlyIn (RvBlk u' l') W w' := fun base u' l' W e h => by
    have hl' : l'.length = prs.length := by have := congrArg List.length e; simpa [rls] using this
    have := markPolicyOut_any base par pdf pbd pc u' l' 1 W h (by have := hsm.out.2.2; dsimp only at this; omega) (by omega) (by rw [e]; exact hsm.out.2.1)
    rwa [e] at this
  have qh := fun u' (l' : List Rv) W (e : rls l' = mkRs 1 prs) (h : RvAt W W.heap.size u' l') => heldPolicyOut_any par pdf pbd pc u' l' prs 1 W h e (by omega) hsm.out.2.1
  have hwp : Hid (rlsWf prs) := hsm.out.1
  have hwm := Lib.hid (mkRs_wf (k := 1) (l := prs) (by omega) hsm.out.2.1)
  generalize mkEnd 1 prs = me at *
  generalize szRs 1048576 (rls l) = s at *
  have hm0 : decide (me < 0) = false := by simp; omega
  have hm1 : (me != me) = false := by simp
  have QT := Lib.hid qt
  have QR := Lib.hid qr
  have QS := Lib.hid qs
  have QI := Lib.hid qi
  have QE := Lib.hid qe
  have QF := Lib.hid qf
  have QM := Lib.hid qm
  have QN := Lib.hid qn
  have QP := Lib.hid qp
  have QH := Lib.hid qh
  clear hsz hsx qt qr qs qi qe qf qm qn qp qh hu hx hrw hn hc hbd2 hlen hlen2 hend hll hge hge2 hsm hs1
  go_enter Try.func10, Try.ntmps10
  go_wp2_with fail
  refine (HZ.out _ (HB0.out _ _)).mono ?_
  rintro e w1 ⟨rfl, hb1⟩
  obtain ⟨r0, r1, hB, _⟩ := rows2 hb1
  have R2_1 := Lib.hid r0
  have Rr_1 := Lib.hid r1
  have HB_1 := Lib.hid hB
  clear hb1 r0 r1 hB
  have g0 := row_cell Rr_1.out 0
  have g1 := row_cell Rr_1.out 1
  have g2 := row_cell Rr_1.out 2
  have gh := row_here Rr_1.out
  simp only [List.getElem?_toArray, List.getElem?_cons_zero, List.getElem?_cons_succ] at g0 g1 g2
  go_wp2_with fail
  clear g0 g1 g2 gh
  refine (HY.out _).mono ?_
  rintro e w2 ⟨rfl, hb2⟩
  have R2_2 := Lib.hid (keep_row hb2 R2_1.out)
  have Rr_2 := Lib.hid (keep_row hb2 Rr_1.out)
  have HB_2 := Lib.hid (HB_1.out.trans (hb2.mono HB_1.out.size))
  clear hb2
  have hkeep : ∀ W : World, Below w2.heap.size w2 W → (W.cell? ⟨w.heap.size, 0, none⟩ = some (.int .i64 ar) ∧ W.cell? ⟨w.heap.size, 1, none⟩ = some (.int .i64 df) ∧ W.cell? ⟨w.heap.size, 2, none⟩ = some (.int .i64 bd) ∧ W.cell? ⟨w.heap.size, 3, none⟩ = some (.slice a l.length cap) ∧ W.cell? ⟨w.heap.size + 1, 0, none⟩ = some (.int .i64 nr) ∧ W.cell? ⟨w.heap.size + 1, 1, none⟩ = some (.int .i64 ac) ∧ W.cell? ⟨w.heap.size + 1, 2, none⟩ = some (.slice a' cs.length cap')) := fun W hb => by
    have r1 := keep_row hb R2_2.out
    have r2 := keep_row hb Rr_2.out
    exact ⟨row_cell r1 0, row_cell r1 1, row_cell r1 2, row_cell r1 3, row_cell r2 0, row_cell r2 1, row_cell r2 2⟩
  have HKr2 := Lib.hid hkeep
  clear hkeep
  go_upto_region 8 with fail
  go_cut [6] from 24 to 28 (fun p ws => ∃ (X : Nat) (ra3 : Option Addr) (rcap3 : Nat) (l3 : List Rv), p = .pointer (some ⟨X, 0, none⟩) ∧ ws.heap[X]? = some (.cells #[.int .i64 par, .int .i64 pdf, .int .i64 pbd, .slice ra3 l3.length rcap3, .int .i64 pc] 39 (0, 0)) ∧ rls l3 = prs ∧ OwnRv w2.heap.size ws (.slice ra3 l3.length rcap3) l3 ∧ Below w2.heap.size w2 ws)
  case first =>
    have hbw : Below w2.heap.size w2 w2.drew := (Below.refl _ _).drew
    obtain ⟨c0, c1, c2, c3, g0, g1, g2⟩ := HKr2.out w2 (Below.refl _ _)
    have hlr0 : w.heap.size < w2.heap.size := row_here R2_2.out
    have hlg0 : w.heap.size + 1 < w2.heap.size := row_here Rr_2.out
    go_wp2_with fail
    go_region_law (first
      | ((go_simp; go_at_call 50; (with_reducible refine (QT.out _ (k_chain HB_2.out (by first | exact hbw | exact k_al hbw _ | exact (k_al (Below.refl w2.heap.size w2) _).drew))).mono ?_); rintro e wa ⟨ua, la, rfl, hla, hoa, hba⟩; obtain ⟨raa, rcapa, rfl⟩ := OwnRv.slice hoa; have hbw := k_chain (by first | exact hbw | exact k_al hbw _ | exact (k_al (Below.refl w2.heap.size w2) _).drew) hba; have hsa := hbw.size; have hia := OwnRv.at' hoa hla hwf.out; have HLA := Lib.hid hla; (first | (have hra := LAt.up (LAt.below hra hba) hba.size) | (have hra := LAt.up (LAt.below (cq_al hra _) hba) hba.size) | skip); have hlr := Nat.lt_of_lt_of_le hlr0 hbw.size; have hlg := Nat.lt_of_lt_of_le hlg0 hbw.size; (first | (have rx := Lib.hid ((hba.block _ (row_here rx.out)).trans rx.out)) | (have rx := Lib.hid (k_box hba)) | (have rx := Lib.hid (k_boxd hba)) | skip); obtain ⟨c0, c1, c2, c3, g0, g1, g2⟩ := HKr2.out _ hbw; clear hoa hba hla; dsimp only))
      | ((go_simp; go_at_call 44; (with_reducible refine (QR.out _ (k_chain HB_2.out (by first | exact hbw | exact k_al hbw _ | exact (k_al (Below.refl w2.heap.size w2) _).drew))).mono ?_); rintro e wb ⟨ub, rfl, hob, hbb⟩; obtain ⟨rab, rcapb, rfl⟩ := OwnL.slice hob; have hbw := k_chain (by first | exact hbw | exact k_al hbw _ | exact (k_al (Below.refl w2.heap.size w2) _).drew) hbb; have hsb := hbw.size; have hra := OwnL.lAt cqS hob hwc.out; (first | (have hia := RvAt.up (RvAt.below hia hbb) hbb.size) | (have hia := RvAt.up (RvAt.below (rv_al hia _) hbb) hbb.size) | skip); have hlr := Nat.lt_of_lt_of_le hlr0 hbw.size; have hlg := Nat.lt_of_lt_of_le hlg0 hbw.size; (first | (have rx := Lib.hid ((hbb.block _ (row_here rx.out)).trans rx.out)) | (have rx := Lib.hid (k_box hbb)) | (have rx := Lib.hid (k_boxd hbb)) | skip); obtain ⟨c0, c1, c2, c3, g0, g1, g2⟩ := HKr2.out _ hbw; clear hob hbb; dsimp only))
      | ((go_simp; go_at_call 24; (with_reducible refine (QS.out _ _ _ _ HLA.out (by first | exact hia | exact rv_al hia _) (by first | exact hra | exact cq_al hra _)).mono ?_); rintro e wd ⟨ud, ld, rfl, hld, hod, hbd⟩; obtain ⟨rad, rcapd, rfl⟩ := OwnRv.slice hod; have HLD := Lib.hid hld; clear hld; have hsd := base_le (b' := w2.heap.size) hod (by first | exact hbw.size | exact (k_al hbw _).size); have HOD := Lib.hid (OwnRv.base hod hsd); have HOE := Lib.hid hod; have hbw := k_chain (by first | exact hbw | exact k_al hbw _ | exact (k_al (Below.refl w2.heap.size w2) _).drew) hbd; (first | (have hxl := row_here rx.out) | skip); (first | (have rx := Lib.hid ((hbd.block _ (row_here rx.out)).trans rx.out)) | (have rx := Lib.hid (k_box hbd)) | (have rx := Lib.hid (k_boxd hbd)) | skip); (try (have e0 := row_cell rx.out 0; have e1 := row_cell rx.out 1; have e2 := row_cell rx.out 2; have e3 := row_cell rx.out 3; have e4 := row_cell rx.out 4; have f0 := frozen_row rx.out 0; have f1 := frozen_row rx.out 1; have f2 := frozen_row rx.out 2; have f3 := frozen_row rx.out 3; have f4 := frozen_row rx.out 4; simp only [List.getElem?_toArray, List.getElem?_cons_zero, List.getElem?_cons_succ] at e0 e1 e2 e3 e4)); clear hbd hod; dsimp only)))
    all_goals
      go_wp2_with fail
      go_meet
      first
        | exact ⟨_, _, _, _, rfl, row_put (row_put (row_put (row_put (row_put rx.out 0 _) 1 _) 2 _) 3 _) 4 _, HLD.out, OwnRv.base (((((HOE.out.setBelow (a := ⟨_, 0, none⟩) (by first | exact hxl | (simp; done)) _).setBelow (a := ⟨_, 1, none⟩) (by first | exact hxl | (simp; done)) _).setBelow (a := ⟨_, 2, none⟩) (by first | exact hxl | (simp; done)) _).setBelow (a := ⟨_, 3, none⟩) (by first | exact hxl | (simp; done)) _).setBelow (a := ⟨_, 4, none⟩) (by first | exact hxl | (simp; done)) _) hsd, ((((hbw.setCell (p := ⟨_, 0, none⟩) (by first | exact Nat.le_refl _ | exact hsa | exact hsb) _).setCell (p := ⟨_, 1, none⟩) (by first | exact Nat.le_refl _ | exact hsa | exact hsb) _).setCell (p := ⟨_, 2, none⟩) (by first | exact Nat.le_refl _ | exact hsa | exact hsb) _).setCell (p := ⟨_, 3, none⟩) (by first | exact Nat.le_refl _ | exact hsa | exact hsb) _).setCell (p := ⟨_, 4, none⟩) (by first | exact Nat.le_refl _ | exact hsa | exact hsb) _⟩
        | exact ⟨_, _, _, _, rfl, k_new _ _ _ rfl, HLD.out, HOD.out.below (k_al (Below.refl _ _) _), k_al hbw _⟩
  case rest =>
  obtain ⟨X, ra3, rcap3, l3, rfl, hrow, hl3, ho3, hB⟩ := hcut
  have R6_3 := Lib.hid hrow
  have A3k_3 := Lib.hid (OwnRv.at' ho3 hl3 hwp.out)
  have H3_3 := Lib.hid (Nat.le_refl wc.heap.size)
  have HL3 := Lib.hid hl3
  have R2_3 := Lib.hid (keep_row hB R2_2.out)
  have Rr_3 := Lib.hid (keep_row hB Rr_2.out)
  have HB_3 := Lib.hid (k_chain HB_2.out hB)
  clear hrow hl3 ho3 hB
  have c0 := row_cell R2_3.out 0
  have c1 := row_cell R2_3.out 1
  have c2 := row_cell R2_3.out 2
  have c3 := row_cell R2_3.out 3
  have ch := row_here R2_3.out
  simp only [List.getElem?_toArray, List.getElem?_cons_zero, List.getElem?_cons_succ] at c0 c1 c2 c3
  go_wp2_with fail
  clear c0 c1 c2 c3 ch
  refine (QT.out _ HB_3.out).mono ?_
  rintro e w4 ⟨u4, l4, rfl, hl4, ho4, hb4⟩
  obtain ⟨ra4, rcap4, rfl⟩ := OwnRv.slice ho4
  have O4_4 := Lib.hid ho4
  have A4_4 := Lib.hid (OwnRv.at' ho4 hl4 hwf.out)
  have HX := Lib.hid ho4.lt
  have HL4 := Lib.hid hl4
  have R2_4 := Lib.hid (keep_row hb4 R2_3.out)
  have Rr_4 := Lib.hid (keep_row hb4 Rr_3.out)
  have R6_4 := Lib.hid (keep_row hb4 R6_3.out)
  have A3k_4 := Lib.hid (RvAt.below A3k_3.out (hb4.mono H3_3.out))
  have H3_4 := Lib.hid (Nat.le_trans H3_3.out hb4.size)
  have A3_4 := Lib.hid (RvAt.up A3k_4.out H3_4.out)
  have HB_4 := Lib.hid (HB_3.out.trans (hb4.mono HB_3.out.size))
  clear hl4 ho4 hb4
  have g0 := row_cell Rr_4.out 0
  have g1 := row_cell Rr_4.out 1
  have g2 := row_cell Rr_4.out 2
  have gh := row_here Rr_4.out
  simp only [List.getElem?_toArray, List.getElem?_cons_zero, List.getElem?_cons_succ] at g0 g1 g2
  go_wp2_with fail
  clear g0 g1 g2 gh
  have hal : Below w4.heap.size w4 (w4.alloc (.cells #[.int .i64 ar, .int .i64 df, .int .i64 bd, .slice ra4 l4.length rcap4] 32)) := (Below.refl _ _).alloc (Nat.le_refl _) _
  refine (QR.out _ (HB_4.out.trans (hal.mono HB_4.out.size))).mono ?_
  rintro e w5 ⟨u5, rfl, ho5, hb5'⟩
  obtain ⟨ra5, rcap5, rfl⟩ := OwnL.slice ho5
  have R7_5 := Lib.hid ((hb5'.block w4.heap.size (by simp)).trans (heap_alloc_new w4 (.cells #[.int .i64 ar, .int .i64 df, .int .i64 bd, .slice ra4 l4.length rcap4] 32)))
  have hb5 := hal.trans (hb5'.mono hal.size)
  have Q5_5 := Lib.hid ho5
  have B5_5 := Lib.hid (OwnL.lAt cqS ho5 hwc.out : CqAt w5 w5.heap.size _ cs)
  have HXq := Lib.hid (OwnL.lt ho5)
  have H45 := Lib.hid (show w4.heap.size < (w4.alloc (.cells #[.int .i64 ar, .int .i64 df, .int .i64 bd, .slice ra4 l4.length rcap4] 32)).heap.size by simp)
  have R2_5 := Lib.hid (keep_row hb5 R2_4.out)
  have Rr_5 := Lib.hid (keep_row hb5 Rr_4.out)
  have R6_5 := Lib.hid (keep_row hb5 R6_4.out)
  have O4_5 := Lib.hid (O4_4.out.below hb5)
  have A3k_5 := Lib.hid (RvAt.below A3k_4.out (hb5.mono H3_4.out))
  have H3_5 := Lib.hid (Nat.le_trans H3_4.out hb5.size)
  have A3_5 := Lib.hid (RvAt.up A3k_5.out H3_5.out)
  have A4_5 := Lib.hid (RvAt.up (RvAt.below A4_4.out hb5) hb5.size)
  have HB_5 := Lib.hid (HB_4.out.trans (hb5.mono HB_4.out.size))
  clear ho5 hb5 hb5' hal
  have d0 := row_cell R7_5.out 0
  have d1 := row_cell R7_5.out 1
  have d2 := row_cell R7_5.out 2
  have d3 := row_cell R7_5.out 3
  have dh := row_here R7_5.out
  simp only [List.getElem?_toArray, List.getElem?_cons_zero, List.getElem?_cons_succ] at d0 d1 d2 d3
  go_wp2_with fail
  clear d0 d1 d2 d3 dh
  have hal : Below w5.heap.size w5 (w5.alloc (.cells #[.int .i64 nr, .int .i64 ac, .slice ra5 cs.length rcap5] 35)) := (Below.refl _ _).alloc (Nat.le_refl _) _
  refine (QI.out _ _ _ _ HL4.out (RvAt.up (RvAt.below A4_5.out hal) hal.size) (LAt.up (LAt.below B5_5.out hal) hal.size)).mono ?_
  rintro e w6 ⟨u6, l6, rfl, hl6, ho6, hb6'⟩
  have R8_6 := Lib.hid ((hb6'.block w5.heap.size (by simp)).trans (heap_alloc_new w5 (.cells #[.int .i64 nr, .int .i64 ac, .slice ra5 cs.length rcap5] 35)))
  have hb6 := hal.trans (hb6'.mono hal.size)
  obtain ⟨ra6, rcap6, rfl⟩ := OwnRv.slice ho6
  have O6_6 := Lib.hid (ho6.base (b' := w5.heap.size) hal.size)
  have B5_6 := Lib.hid (LAt.up (LAt.below B5_5.out hb6) hb6.size : CqAt w6 w6.heap.size _ cs)
  have HY2 := Lib.hid ho6.lt
  have HL6 := Lib.hid hl6
  have R2_6 := Lib.hid (keep_row hb6 R2_5.out)
  have Rr_6 := Lib.hid (keep_row hb6 Rr_5.out)
  have R6_6 := Lib.hid (keep_row hb6 R6_5.out)
  have R7_6 := Lib.hid (keep_row hb6 R7_5.out)
  have O4_6 := Lib.hid (O4_5.out.below hb6)
  have Q5_6 := Lib.hid (OwnL.below Q5_5.out hb6)
  have A3k_6 := Lib.hid (RvAt.below A3k_5.out (hb6.mono H3_5.out))
  have H3_6 := Lib.hid (Nat.le_trans H3_5.out hb6.size)
  have A3_6 := Lib.hid (RvAt.up A3k_6.out H3_6.out)
  have A4_6 := Lib.hid (RvAt.up (RvAt.below A4_5.out hb6) hb6.size)
  have HB_6 := Lib.hid (HB_5.out.trans (hb6.mono HB_5.out.size))
  clear hl6 ho6 hb6 hb6' hal
  have f0 := row_cell R6_6.out 0
  have f1 := row_cell R6_6.out 1
  have f2 := row_cell R6_6.out 2
  have f3 := row_cell R6_6.out 3
  have f4 := row_cell R6_6.out 4
  have fh := row_here R6_6.out
  simp only [List.getElem?_toArray, List.getElem?_cons_zero, List.getElem?_cons_succ] at f0 f1 f2 f3 f4
  go_wp2_with fail
  clear f0 f1 f2 f3 f4 fh
  have hal : Below w6.heap.size w6 (w6.alloc (.cells #[.int .i64 par, .int .i64 pdf, .int .i64 pbd, .slice ra6 l6.length rcap6, .int .i64 pc] 39)) := (Below.refl _ _).alloc (Nat.le_refl _) _
  refine (eqPolicyOut_same par pdf pbd pc l6 l3 _ _ _ (RvAt.up (RvAt.below (OwnRv.at' O6_6.out HL6.out hwp.out) hal) hal.size) (RvAt.up (RvAt.below A3_6.out hal) hal.size) (HL6.out.trans HL3.out.symm)).mono ?_
  rintro e w7 ⟨rfl, hb7'⟩
  have R9_7 := Lib.hid ((hb7'.block w6.heap.size (by simp)).trans (heap_alloc_new w6 (.cells #[.int .i64 par, .int .i64 pdf, .int .i64 pbd, .slice ra6 l6.length rcap6, .int .i64 pc] 39)))
  have hb7 := hal.trans (hb7'.mono hal.size)
  have B5_7 := Lib.hid (LAt.up (LAt.below B5_6.out hb7) hb7.size : CqAt w7 w7.heap.size _ cs)
  have R2_7 := Lib.hid (keep_row hb7 R2_6.out)
  have Rr_7 := Lib.hid (keep_row hb7 Rr_6.out)
  have R6_7 := Lib.hid (keep_row hb7 R6_6.out)
  have R7_7 := Lib.hid (keep_row hb7 R7_6.out)
  have R8_7 := Lib.hid (keep_row hb7 R8_6.out)
  have O4_7 := Lib.hid (O4_6.out.below hb7)
  have O6_7 := Lib.hid (O6_6.out.below hb7)
  have Q5_7 := Lib.hid (OwnL.below Q5_6.out hb7)
  have A3k_7 := Lib.hid (RvAt.below A3k_6.out (hb7.mono H3_6.out))
  have H3_7 := Lib.hid (Nat.le_trans H3_6.out hb7.size)
  have A3_7 := Lib.hid (RvAt.up A3k_7.out H3_7.out)
  have A4_7 := Lib.hid (RvAt.up (RvAt.below A4_6.out hb7) hb7.size)
  have HB_7 := Lib.hid (HB_6.out.trans (hb7.mono HB_6.out.size))
  clear hb7 hb7' hal
  have d0 := row_cell R7_7.out 0
  have d1 := row_cell R7_7.out 1
  have d2 := row_cell R7_7.out 2
  have d3 := row_cell R7_7.out 3
  have dh := row_here R7_7.out
  have c0 := row_cell R2_7.out 0
  have c1 := row_cell R2_7.out 1
  have c2 := row_cell R2_7.out 2
  have c3 := row_cell R2_7.out 3
  have ch := row_here R2_7.out
  simp only [List.getElem?_toArray, List.getElem?_cons_zero, List.getElem?_cons_succ] at d0 d1 d2 d3 c0 c1 c2 c3
  have hbw7 := (Below.refl w7.heap.size w7).drew
  have hkeep : ∀ W : World, Below w7.heap.size w7 W → (W.cell? ⟨w4.heap.size, 0, none⟩ = some (.int .i64 ar) ∧ W.cell? ⟨w4.heap.size, 1, none⟩ = some (.int .i64 df) ∧ W.cell? ⟨w4.heap.size, 2, none⟩ = some (.int .i64 bd) ∧ W.cell? ⟨w4.heap.size, 3, none⟩ = some (.slice ra4 l4.length rcap4) ∧ W.cell? ⟨w.heap.size, 0, none⟩ = some (.int .i64 ar) ∧ W.cell? ⟨w.heap.size, 1, none⟩ = some (.int .i64 df) ∧ W.cell? ⟨w.heap.size, 2, none⟩ = some (.int .i64 bd) ∧ W.cell? ⟨w.heap.size, 3, none⟩ = some (.slice a l.length cap)) := fun W hb => by
    have r1 := keep_row hb R7_7.out
    have r2 := keep_row hb R2_7.out
    exact ⟨row_cell r1 0, row_cell r1 1, row_cell r1 2, row_cell r1 3, row_cell r2 0, row_cell r2 1, row_cell r2 2, row_cell r2 3⟩
  have HK7 := Lib.hid hkeep
  clear hkeep
  go_wp2_with fail
  go_region_held3 (fun w' => w'.cell? ⟨w4.heap.size, 0, none⟩ = some (.int .i64 ar) ∧ w'.cell? ⟨w4.heap.size, 1, none⟩ = some (.int .i64 df) ∧ w'.cell? ⟨w4.heap.size, 2, none⟩ = some (.int .i64 bd) ∧ w'.cell? ⟨w4.heap.size, 3, none⟩ = some (.slice ra4 l4.length rcap4) ∧ w'.cell? ⟨w.heap.size, 0, none⟩ = some (.int .i64 ar) ∧ w'.cell? ⟨w.heap.size, 1, none⟩ = some (.int .i64 df) ∧ w'.cell? ⟨w.heap.size, 2, none⟩ = some (.int .i64 bd) ∧ w'.cell? ⟨w.heap.size, 3, none⟩ = some (.slice a l.length cap))
    (first | go_keep | exact HK7.out _ hbw9 | exact HK7.out _ hbw8)
    (first
      | (go_at_call 50; (with_reducible refine (QT.out _ (HB_7.out.trans (hbw7.mono HB_7.out.size))).mono ?_); rintro e w8 ⟨u8, l8, rfl, hl8, ho8, hb8⟩; obtain ⟨a8, cap8, rfl⟩ := OwnRv.slice ho8; have hbw8 := hbw7.trans (hb8.mono hbw7.size); have hi8 := OwnRv.at' ho8 hl8 hwf.out; have HL8 := Lib.hid hl8; clear hl8)
      | (go_at_call 51; (with_reducible refine (QE.out _ _ _ _ _ HL4.out HL8.out (RvAt.up (RvAt.below A4_7.out hbw8) hbw8.size) hi8).mono ?_); rintro e w9 ⟨rfl, hb9⟩; have hbw9 := hbw8.trans (hb9.mono hbw8.size)))
  have B5_9 := Lib.hid (LAt.up (LAt.below B5_7.out hbw9) hbw9.size : CqAt w9 w9.heap.size _ cs)
  have R2_9 := Lib.hid (keep_row hbw9 R2_7.out)
  have Rr_9 := Lib.hid (keep_row hbw9 Rr_7.out)
  have R6_9 := Lib.hid (keep_row hbw9 R6_7.out)
  have R7_9 := Lib.hid (keep_row hbw9 R7_7.out)
  have R8_9 := Lib.hid (keep_row hbw9 R8_7.out)
  have R9_9 := Lib.hid (keep_row hbw9 R9_7.out)
  have O4_9 := Lib.hid (O4_7.out.below hbw9)
  have O6_9 := Lib.hid (O6_7.out.below hbw9)
  have Q5_9 := Lib.hid (OwnL.below Q5_7.out hbw9)
  have A3k_9 := Lib.hid (RvAt.below A3k_7.out (hbw9.mono H3_7.out))
  have H3_9 := Lib.hid (Nat.le_trans H3_7.out hbw9.size)
  have A3_9 := Lib.hid (RvAt.up A3k_9.out H3_9.out)
  have HB_9 := Lib.hid (HB_7.out.trans (hbw9.mono HB_7.out.size))
  clear hbw7 hbw8 hbw9 hb8 hb9 ho8 hi8 d0 d1 d2 d3 c0 c1 c2 c3 dh ch
  have d0 := row_cell R8_9.out 0
  have d1 := row_cell R8_9.out 1
  have d2 := row_cell R8_9.out 2
  have dh := row_here R8_9.out
  have g0 := row_cell Rr_9.out 0
  have g1 := row_cell Rr_9.out 1
  have g2 := row_cell Rr_9.out 2
  have gh := row_here Rr_9.out
  simp only [List.getElem?_toArray, List.getElem?_cons_zero, List.getElem?_cons_succ] at d0 d1 d2 g0 g1 g2
  have hbw9 := (Below.refl w9.heap.size w9).drew
  have hkeep : ∀ W : World, Below w9.heap.size w9 W → (W.cell? ⟨w5.heap.size, 0, none⟩ = some (.int .i64 nr) ∧ W.cell? ⟨w5.heap.size, 1, none⟩ = some (.int .i64 ac) ∧ W.cell? ⟨w5.heap.size, 2, none⟩ = some (.slice ra5 cs.length rcap5) ∧ W.cell? ⟨w.heap.size + 1, 0, none⟩ = some (.int .i64 nr) ∧ W.cell? ⟨w.heap.size + 1, 1, none⟩ = some (.int .i64 ac) ∧ W.cell? ⟨w.heap.size + 1, 2, none⟩ = some (.slice a' cs.length cap')) := fun W hb => by
    have r1 := keep_row hb R8_9.out
    have r2 := keep_row hb Rr_9.out
    exact ⟨row_cell r1 0, row_cell r1 1, row_cell r1 2, row_cell r2 0, row_cell r2 1, row_cell r2 2⟩
  have HK9 := Lib.hid hkeep
  clear hkeep
  go_wp2_with fail
  go_region_held3 (fun w' => w'.cell? ⟨w5.heap.size, 0, none⟩ = some (.int .i64 nr) ∧ w'.cell? ⟨w5.heap.size, 1, none⟩ = some (.int .i64 ac) ∧ w'.cell? ⟨w5.heap.size, 2, none⟩ = some (.slice ra5 cs.length rcap5) ∧ w'.cell? ⟨w.heap.size + 1, 0, none⟩ = some (.int .i64 nr) ∧ w'.cell? ⟨w.heap.size + 1, 1, none⟩ = some (.int .i64 ac) ∧ w'.cell? ⟨w.heap.size + 1, 2, none⟩ = some (.slice a' cs.length cap'))
    (first | go_keep | exact HK9.out _ hbw11 | exact HK9.out _ hbw10)
    (first
      | (go_at_call 44; (with_reducible refine (QR.out _ (HB_9.out.trans (hbw9.mono HB_9.out.size))).mono ?_); rintro e w10 ⟨u10, rfl, ho10, hb10⟩; obtain ⟨a10, cap10, rfl⟩ := OwnL.slice ho10; have hbw10 := hbw9.trans (hb10.mono hbw9.size); have hi10 := OwnL.lAt cqS ho10 hwc.out)
      | (go_at_call 45; (with_reducible refine (QF.out _ _ _ (LAt.up (LAt.below B5_9.out hbw10) hbw10.size) hi10).mono ?_); rintro e w11 ⟨rfl, hb11⟩; have hbw11 := hbw10.trans (hb11.mono hbw10.size)))
  have R2_11 := Lib.hid (keep_row hbw11 R2_9.out)
  have Rr_11 := Lib.hid (keep_row hbw11 Rr_9.out)
  have R6_11 := Lib.hid (keep_row hbw11 R6_9.out)
  have R7_11 := Lib.hid (keep_row hbw11 R7_9.out)
  have R8_11 := Lib.hid (keep_row hbw11 R8_9.out)
  have R9_11 := Lib.hid (keep_row hbw11 R9_9.out)
  have O4_11 := Lib.hid (O4_9.out.below hbw11)
  have O6_11 := Lib.hid (O6_9.out.below hbw11)
  have Q5_11 := Lib.hid (OwnL.below Q5_9.out hbw11)
  have A3k_11 := Lib.hid (RvAt.below A3k_9.out (hbw11.mono H3_9.out))
  have H3_11 := Lib.hid (Nat.le_trans H3_9.out hbw11.size)
  have A3_11 := Lib.hid (RvAt.up A3k_11.out H3_11.out)
  have HB_11 := Lib.hid (HB_9.out.trans (hbw11.mono HB_9.out.size))
  clear hbw9 hbw10 hbw11 hb10 hb11 ho10 hi10 d0 d1 d2 g0 g1 g2 dh gh
  have d0 := row_cell R7_11.out 0
  have d1 := row_cell R7_11.out 1
  have d2 := row_cell R7_11.out 2
  have d3 := row_cell R7_11.out 3
  have dh := row_here R7_11.out
  simp only [List.getElem?_toArray, List.getElem?_cons_zero, List.getElem?_cons_succ] at d0 d1 d2 d3
  go_wp2_with fail
  clear d0 d1 d2 d3 dh
  refine (QM.out _ _ _ _ HL4.out O4_11.out).mono ?_
  rintro e w12 ⟨rfl, hm⟩
  have hS : ∀ b, RvBlk (.slice ra4 l4.length rcap4) l4 b → wc.heap.size ≤ b ∧ b < w4.heap.size := fun b hb => HX.out b hb
  have hx0 : w.heap.size < wc.heap.size := row_here R2_3.out
  have hx1 : w.heap.size + 1 < wc.heap.size := row_here Rr_3.out
  have hx2 : X < wc.heap.size := row_here R6_3.out
  have hx3 : w4.heap.size < w5.heap.size := row_here R7_5.out
  have hx4 : w5.heap.size < w6.heap.size := row_here R8_6.out
  have hb12 : Below wc.heap.size w11 w12 := hm.below (fun k hk => (hS k hk).1) H3_11.out
  have R2_12 := Lib.hid (hm.row R2_11.out (fun hk => by have := hS _ hk; omega))
  have Rr_12 := Lib.hid (hm.row Rr_11.out (fun hk => by have := hS _ hk; omega))
  have R6_12 := Lib.hid (hm.row R6_11.out (fun hk => by have := hS _ hk; omega))
  have R8_12 := Lib.hid (hm.row R8_11.out (fun hk => by have := hS _ hk; omega))
  have R9_12 := Lib.hid (hm.row R9_11.out (fun hk => by have := hS _ hk; omega))
  have O6_12 := Lib.hid (O6_11.out.only hm (fun k hk => by have := hS k hk; omega))
  have Q5_12 := Lib.hid (OwnL.keep Q5_11.out fun b hb => hm.block b (OwnL.lt Q5_11.out b hb).2 (fun hk => by have := hS b hk; have := HXq.out b hb; simp at this; omega))
  have A3k_12 := Lib.hid (RvAt.below A3k_11.out hb12)
  have H3_12 := Lib.hid (Nat.le_trans H3_11.out hb12.size)
  have HB_12 := Lib.hid (HB_11.out.trans (hb12.mono (by omega)))
  clear hS hx0 hx1 hx2 hx3 hx4 hb12 hm
  have d0 := row_cell R8_12.out 0
  have d1 := row_cell R8_12.out 1
  have d2 := row_cell R8_12.out 2
  have dh := row_here R8_12.out
  simp only [List.getElem?_toArray, List.getElem?_cons_zero, List.getElem?_cons_succ] at d0 d1 d2
  go_wp2_with fail
  clear d0 d1 d2 dh
  refine (QN.out _ _ _ Q5_12.out).mono ?_
  rintro e w13 ⟨rfl, ho13, hg13⟩
  have hS : ∀ b, (Value.slice ra5 cs.length rcap5).ownBlock = some b → w4.heap.size + 1 ≤ b ∧ b < w5.heap.size := fun b hb => by have := HXq.out b hb; simp at this; omega
  have hx0 : w.heap.size < wc.heap.size := row_here R2_3.out
  have hx1 : w.heap.size + 1 < wc.heap.size := row_here Rr_3.out
  have hx2 : X < wc.heap.size := row_here R6_3.out
  have hx4 : w5.heap.size < w6.heap.size := row_here R8_6.out
  have hx5 : wc.heap.size ≤ w4.heap.size := H3_4.out
  have hm : OnlyIn (fun b => (Value.slice ra5 cs.length rcap5).ownBlock = some b) w12 w13 := (OnlyIn.refl _ _).grown hg13 (fun k hk => hk)
  have hb13 : Below wc.heap.size w12 w13 := hm.below (fun k hk => by have := hS k hk; omega) H3_12.out
  have R2_13 := Lib.hid (hm.row R2_12.out (fun hk => by have := hS _ hk; omega))
  have Rr_13 := Lib.hid (hm.row Rr_12.out (fun hk => by have := hS _ hk; omega))
  have R6_13 := Lib.hid (hm.row R6_12.out (fun hk => by have := hS _ hk; omega))
  have R9_13 := Lib.hid (hm.row R9_12.out (fun hk => by have := hS _ hk; omega))
  have O6_13 := Lib.hid (O6_12.out.only hm (fun k hk => (hS k hk).2))
  have A3k_13 := Lib.hid (RvAt.below A3k_12.out hb13)
  have H3_13 := Lib.hid (Nat.le_trans H3_12.out hb13.size)
  have A3_13 := Lib.hid (RvAt.up A3k_13.out H3_13.out)
  have HB_13 := Lib.hid (HB_12.out.trans (hb13.mono (by omega)))
  clear hS hx0 hx1 hx2 hx4 hx5 hb13 hm hg13 ho13
  have e0 := row_cell R9_13.out 0
  have e1 := row_cell R9_13.out 1
  have e2 := row_cell R9_13.out 2
  have e3 := row_cell R9_13.out 3
  have e4 := row_cell R9_13.out 4
  have eh := row_here R9_13.out
  have f0 := row_cell R6_13.out 0
  have f1 := row_cell R6_13.out 1
  have f2 := row_cell R6_13.out 2
  have f3 := row_cell R6_13.out 3
  have f4 := row_cell R6_13.out 4
  have fh := row_here R6_13.out
  simp only [List.getElem?_toArray, List.getElem?_cons_zero, List.getElem?_cons_succ] at e0 e1 e2 e3 e4 f0 f1 f2 f3 f4
  go_wp2_with fail
  clear e0 e1 e2 e3 e4 f0 f1 f2 f3 f4 eh fh
  refine (eqPolicyOut_same par pdf pbd pc l6 l3 _ _ _ (OwnRv.at' O6_13.out HL6.out hwp.out) A3_13.out (HL6.out.trans HL3.out.symm)).mono ?_
  rintro e w14 ⟨rfl, hb14⟩
  have R2_14 := Lib.hid (keep_row hb14 R2_13.out)
  have Rr_14 := Lib.hid (keep_row hb14 Rr_13.out)
  have R6_14 := Lib.hid (keep_row hb14 R6_13.out)
  have R9_14 := Lib.hid (keep_row hb14 R9_13.out)
  have O6_14 := Lib.hid (O6_13.out.below hb14)
  have A3k_14 := Lib.hid (RvAt.below A3k_13.out (hb14.mono H3_13.out))
  have H3_14 := Lib.hid (Nat.le_trans H3_13.out hb14.size)
  have A3_14 := Lib.hid (RvAt.up A3k_14.out H3_14.out)
  have HB_14 := Lib.hid (HB_13.out.trans (hb14.mono HB_13.out.size))
  clear hb14
  have e0 := row_cell R9_14.out 0
  have e1 := row_cell R9_14.out 1
  have e2 := row_cell R9_14.out 2
  have e3 := row_cell R9_14.out 3
  have e4 := row_cell R9_14.out 4
  have eh := row_here R9_14.out
  simp only [List.getElem?_toArray, List.getElem?_cons_zero, List.getElem?_cons_succ] at e0 e1 e2 e3 e4
  go_wp2_with fail
  clear e0 e1 e2 e3 e4 eh
  refine (QP.out _ _ _ _ HL6.out O6_14.out).mono ?_
  rintro e w15 ⟨l15, rfl, hl15, ho15, hm⟩
  have hS : ∀ b, RvBlk (.slice ra6 l6.length rcap6) l6 b → w5.heap.size + 1 ≤ b ∧ b < w6.heap.size := fun b hb => by have := HY2.out b hb; simp at this; omega
  have hx0 : w.heap.size < wc.heap.size := row_here R2_3.out
  have hx1 : w.heap.size + 1 < wc.heap.size := row_here Rr_3.out
  have hx2 : X < wc.heap.size := row_here R6_3.out
  have hx3 : w4.heap.size < w5.heap.size := row_here R7_5.out
  have hx5 : wc.heap.size ≤ w4.heap.size := H3_4.out
  have hb15 : Below wc.heap.size w14 w15 := hm.below (fun k hk => by have := hS k hk; omega) H3_14.out
  have R2_15 := Lib.hid (hm.row R2_14.out (fun hk => by have := hS _ hk; omega))
  have Rr_15 := Lib.hid (hm.row Rr_14.out (fun hk => by have := hS _ hk; omega))
  have R6_15 := Lib.hid (hm.row R6_14.out (fun hk => by have := hS _ hk; omega))
  have R9_15 := Lib.hid (hm.row R9_14.out (fun hk => by have := hS _ hk; omega))
  have A15_15 := Lib.hid (OwnRv.at' ho15 hl15 hwm.out)
  have HL15 := Lib.hid hl15
  have A3k_15 := Lib.hid (RvAt.below A3k_14.out hb15)
  have H3_15 := Lib.hid (Nat.le_trans H3_14.out hb15.size)
  have HB_15 := Lib.hid (HB_14.out.trans (hb15.mono (by omega)))
  clear hS hx0 hx1 hx2 hx3 hx5 hb15 hm ho15 hl15
  have e0 := row_cell R9_15.out 0
  have e1 := row_cell R9_15.out 1
  have e2 := row_cell R9_15.out 2
  have e3 := row_cell R9_15.out 3
  have e4 := row_cell R9_15.out 4
  have eh := row_here R9_15.out
  simp only [List.getElem?_toArray, List.getElem?_cons_zero, List.getElem?_cons_succ] at e0 e1 e2 e3 e4
  go_wp2_with fail
  clear e0 e1 e2 e3 e4 eh
  refine (QH.out _ _ _ HL15.out A15_15.out).mono ?_
  rintro e w16 ⟨rfl, hb16⟩
  have R2_16 := Lib.hid (keep_row hb16 R2_15.out)
  have Rr_16 := Lib.hid (keep_row hb16 Rr_15.out)
  have R6_16 := Lib.hid (keep_row hb16 R6_15.out)
  have R9_16 := Lib.hid (keep_row hb16 R9_15.out)
  have A3k_16 := Lib.hid (RvAt.below A3k_15.out (hb16.mono H3_15.out))
  have H3_16 := Lib.hid (Nat.le_trans H3_15.out hb16.size)
  have A3_16 := Lib.hid (RvAt.up A3k_16.out H3_16.out)
  have A15_16 := Lib.hid (RvAt.up (RvAt.below A15_15.out hb16) hb16.size)
  have HB_16 := Lib.hid (HB_15.out.trans (hb16.mono HB_15.out.size))
  clear hb16
  have hkeep : ∀ W : World, Below w16.heap.size w16 W → (W.cell? ⟨w.heap.size, 0, none⟩ = some (.int .i64 ar) ∧ W.cell? ⟨w.heap.size, 1, none⟩ = some (.int .i64 df) ∧ W.cell? ⟨w.heap.size, 2, none⟩ = some (.int .i64 bd) ∧ W.cell? ⟨w.heap.size, 3, none⟩ = some (.slice a l.length cap) ∧ W.cell? ⟨w.heap.size + 1, 0, none⟩ = some (.int .i64 nr) ∧ W.cell? ⟨w.heap.size + 1, 1, none⟩ = some (.int .i64 ac) ∧ W.cell? ⟨w.heap.size + 1, 2, none⟩ = some (.slice a' cs.length cap')) := fun W hb => by
    have r1 := keep_row hb R2_16.out
    have r2 := keep_row hb Rr_16.out
    exact ⟨row_cell r1 0, row_cell r1 1, row_cell r1 2, row_cell r1 3, row_cell r2 0, row_cell r2 1, row_cell r2 2⟩
  have HKr16 := Lib.hid hkeep
  clear hkeep
  go_upto_region 31 with fail
  go_cut [13] from 75 to 79 (fun p ws => ∃ (X : Nat) (ra18 : Option Addr) (rcap18 : Nat) (l18 : List Rv), p = .pointer (some ⟨X, 0, none⟩) ∧ ws.heap[X]? = some (.cells #[.int .i64 par, .int .i64 pdf, .int .i64 pbd, .slice ra18 l18.length rcap18, .int .i64 pc] 39 (0, 0)) ∧ rls l18 = prs ∧ OwnRv w16.heap.size ws (.slice ra18 l18.length rcap18) l18 ∧ Below w16.heap.size w16 ws)
  case first =>
    have hbw : Below w16.heap.size w16 w16.drew := (Below.refl _ _).drew
    obtain ⟨c0, c1, c2, c3, g0, g1, g2⟩ := HKr16.out w16 (Below.refl _ _)
    have hlr0 : w.heap.size < w16.heap.size := row_here R2_16.out
    have hlg0 : w.heap.size + 1 < w16.heap.size := row_here Rr_16.out
    go_wp2_with fail
    go_region_law (first
      | ((go_simp; go_at_call 50; (with_reducible refine (QT.out _ (k_chain HB_16.out (by first | exact hbw | exact k_al hbw _ | exact (k_al (Below.refl w16.heap.size w16) _).drew))).mono ?_); rintro e wa ⟨ua, la, rfl, hla, hoa, hba⟩; obtain ⟨raa, rcapa, rfl⟩ := OwnRv.slice hoa; have hbw := k_chain (by first | exact hbw | exact k_al hbw _ | exact (k_al (Below.refl w16.heap.size w16) _).drew) hba; have hsa := hbw.size; have hia := OwnRv.at' hoa hla hwf.out; have HLA := Lib.hid hla; (first | (have hra := LAt.up (LAt.below hra hba) hba.size) | (have hra := LAt.up (LAt.below (cq_al hra _) hba) hba.size) | skip); have hlr := Nat.lt_of_lt_of_le hlr0 hbw.size; have hlg := Nat.lt_of_lt_of_le hlg0 hbw.size; (first | (have rx := Lib.hid ((hba.block _ (row_here rx.out)).trans rx.out)) | (have rx := Lib.hid (k_box hba)) | (have rx := Lib.hid (k_boxd hba)) | skip); obtain ⟨c0, c1, c2, c3, g0, g1, g2⟩ := HKr16.out _ hbw; clear hoa hba hla; dsimp only))
      | ((go_simp; go_at_call 44; (with_reducible refine (QR.out _ (k_chain HB_16.out (by first | exact hbw | exact k_al hbw _ | exact (k_al (Below.refl w16.heap.size w16) _).drew))).mono ?_); rintro e wb ⟨ub, rfl, hob, hbb⟩; obtain ⟨rab, rcapb, rfl⟩ := OwnL.slice hob; have hbw := k_chain (by first | exact hbw | exact k_al hbw _ | exact (k_al (Below.refl w16.heap.size w16) _).drew) hbb; have hsb := hbw.size; have hra := OwnL.lAt cqS hob hwc.out; (first | (have hia := RvAt.up (RvAt.below hia hbb) hbb.size) | (have hia := RvAt.up (RvAt.below (rv_al hia _) hbb) hbb.size) | skip); have hlr := Nat.lt_of_lt_of_le hlr0 hbw.size; have hlg := Nat.lt_of_lt_of_le hlg0 hbw.size; (first | (have rx := Lib.hid ((hbb.block _ (row_here rx.out)).trans rx.out)) | (have rx := Lib.hid (k_box hbb)) | (have rx := Lib.hid (k_boxd hbb)) | skip); obtain ⟨c0, c1, c2, c3, g0, g1, g2⟩ := HKr16.out _ hbw; clear hob hbb; dsimp only))
      | ((go_simp; go_at_call 16; (with_reducible refine (QI.out _ _ _ _ HLA.out (by first | exact hia | exact rv_al hia _) (by first | exact hra | exact cq_al hra _)).mono ?_); rintro e wd ⟨ud, ld, rfl, hld, hod, hbd⟩; obtain ⟨rad, rcapd, rfl⟩ := OwnRv.slice hod; have HLD := Lib.hid hld; clear hld; have hsd := base_le (b' := w16.heap.size) hod (by first | exact hbw.size | exact (k_al hbw _).size); have HOD := Lib.hid (OwnRv.base hod hsd); have HOE := Lib.hid hod; have hbw := k_chain (by first | exact hbw | exact k_al hbw _ | exact (k_al (Below.refl w16.heap.size w16) _).drew) hbd; (first | (have hxl := row_here rx.out) | skip); (first | (have rx := Lib.hid ((hbd.block _ (row_here rx.out)).trans rx.out)) | (have rx := Lib.hid (k_box hbd)) | (have rx := Lib.hid (k_boxd hbd)) | skip); (try (have e0 := row_cell rx.out 0; have e1 := row_cell rx.out 1; have e2 := row_cell rx.out 2; have e3 := row_cell rx.out 3; have e4 := row_cell rx.out 4; have f0 := frozen_row rx.out 0; have f1 := frozen_row rx.out 1; have f2 := frozen_row rx.out 2; have f3 := frozen_row rx.out 3; have f4 := frozen_row rx.out 4; simp only [List.getElem?_toArray, List.getElem?_cons_zero, List.getElem?_cons_succ] at e0 e1 e2 e3 e4)); clear hbd hod; dsimp only)))
    all_goals
      go_wp2_with fail
      go_meet
      first
        | exact ⟨_, _, _, _, rfl, row_put (row_put (row_put (row_put (row_put rx.out 0 _) 1 _) 2 _) 3 _) 4 _, HLD.out, OwnRv.base (((((HOE.out.setBelow (a := ⟨_, 0, none⟩) (by first | exact hxl | (simp; done)) _).setBelow (a := ⟨_, 1, none⟩) (by first | exact hxl | (simp; done)) _).setBelow (a := ⟨_, 2, none⟩) (by first | exact hxl | (simp; done)) _).setBelow (a := ⟨_, 3, none⟩) (by first | exact hxl | (simp; done)) _).setBelow (a := ⟨_, 4, none⟩) (by first | exact hxl | (simp; done)) _) hsd, ((((hbw.setCell (p := ⟨_, 0, none⟩) (by first | exact Nat.le_refl _ | exact hsa | exact hsb) _).setCell (p := ⟨_, 1, none⟩) (by first | exact Nat.le_refl _ | exact hsa | exact hsb) _).setCell (p := ⟨_, 2, none⟩) (by first | exact Nat.le_refl _ | exact hsa | exact hsb) _).setCell (p := ⟨_, 3, none⟩) (by first | exact Nat.le_refl _ | exact hsa | exact hsb) _).setCell (p := ⟨_, 4, none⟩) (by first | exact Nat.le_refl _ | exact hsa | exact hsb) _⟩
        | exact ⟨_, _, _, _, rfl, k_new _ _ _ rfl, HLD.out, HOD.out.below (k_al (Below.refl _ _) _), k_al hbw _⟩
  case rest =>
  obtain ⟨X, ra18, rcap18, l18, rfl, hrow, hl18, ho18, hB⟩ := hcut
  have Rn_18 := Lib.hid hrow
  have A18_18 := Lib.hid (OwnRv.at' ho18 hl18 hwp.out)
  have HL18 := Lib.hid hl18
  have R6_18 := Lib.hid (keep_row hB R6_16.out)
  have R9_18 := Lib.hid (keep_row hB R9_16.out)
  have A3k_18 := Lib.hid (RvAt.below A3k_16.out (hB.mono H3_16.out))
  have H3_18 := Lib.hid (Nat.le_trans H3_16.out hB.size)
  have A3_18 := Lib.hid (RvAt.up A3k_18.out H3_18.out)
  have A15_18 := Lib.hid (RvAt.up (RvAt.below A15_16.out hB) hB.size)
  have HB_18 := Lib.hid (HB_16.out.trans (hB.mono HB_16.out.size))
  clear hrow hl18 ho18 hB
  have h0 := row_cell Rn_18.out 0
  have h1 := row_cell Rn_18.out 1
  have h2 := row_cell Rn_18.out 2
  have h3 := row_cell Rn_18.out 3
  have h4 := row_cell Rn_18.out 4
  have hh := row_here Rn_18.out
  have f0 := row_cell R6_18.out 0
  have f1 := row_cell R6_18.out 1
  have f2 := row_cell R6_18.out 2
  have f3 := row_cell R6_18.out 3
  have f4 := row_cell R6_18.out 4
  have fh := row_here R6_18.out
  simp only [List.getElem?_toArray, List.getElem?_cons_zero, List.getElem?_cons_succ] at h0 h1 h2 h3 h4 f0 f1 f2 f3 f4
  go_wp2_with fail
  clear h0 h1 h2 h3 h4 f0 f1 f2 f3 f4 hh fh
  refine (eqPolicyOut_same par pdf pbd pc l18 l3 _ _ _ A18_18.out A3_18.out (HL18.out.trans HL3.out.symm)).mono ?_
  rintro e w19 ⟨rfl, hb19⟩
  have R9_19 := Lib.hid (keep_row hb19 R9_18.out)
  have A15_19 := Lib.hid (RvAt.up (RvAt.below A15_18.out hb19) hb19.size)
  have HB_19 := Lib.hid (HB_18.out.trans (hb19.mono HB_18.out.size))
  clear hb19
  have e0 := row_cell R9_19.out 0
  have e1 := row_cell R9_19.out 1
  have e2 := row_cell R9_19.out 2
  have e3 := row_cell R9_19.out 3
  have e4 := row_cell R9_19.out 4
  have eh := row_here R9_19.out
  simp only [List.getElem?_toArray, List.getElem?_cons_zero, List.getElem?_cons_succ] at e0 e1 e2 e3 e4
  go_wp2_with fail
  clear e0 e1 e2 e3 e4 eh
  refine (QH.out _ _ _ HL15.out A15_19.out).mono ?_
  rintro e w20 ⟨rfl, hb20⟩
  have HB_20 := Lib.hid (HB_19.out.trans (hb20.mono HB_19.out.size))
  clear hb20
  go_wp2_with fail
  go_ret
  exact ⟨rfl, HB_20.out⟩

set_option maxRecDepth 100000 in
theorem lifted (os : Os) (started : os.Started) (H : Type) (enc : TypeId × Value → H) :
    ReturnsInHanded {} Try.checked os 10 .any (Rows.fnExactPolicyAddSpec.pre6 enc Try.prog Try.f10 Rows.fnExactPolicyAddRow.domain false) (Rows.fnExactPolicyAddSpec.post enc Try.prog Try.f10 false true false false) := by
  refine returnsInHanded_of_change (C := Try.checked) own started (by kernel_rfl) Try.func10
    (ChangeSpec.witness6 (enc := enc) (C := Try.checked) false ⟨#[], #[.agg #[.int .i64 0, .int .i64 0, .int .i64 0, .slice none 0 0], .agg #[.int .i64 0, .int .i64 0, .slice none 0 0]], []⟩ 8 (by kernel_rfl) (by kernel_rfl) (by kernel_rfl) (by kernel_rfl)) ?_
  intro W base args ds gs before hval0 hW hcnd _
  have hval : ∀ (j : Nat) t v, Try.f10.params[j]? = some t → args[j]? = some v → Value.okWide Try.prog W .any base t v := hval0
  have hW' := hW
  obtain ⟨p, q, hA0, hV, rfl, hfz, hnd⟩ := hW
  have hA : DataW.TrodAll enc Try.prog W 0 (fun _ => true) true Try.f10.params.toList args.toList ds p := hA0
  rw [Try.params10] at hA hval
  obtain ⟨v0, vs0, d0, ds0, p0, q0, hargs, rfl, rfl, h0, r0⟩ := trodAll_cons hA
  obtain ⟨v1, vs1, d1, ds1, p1, q1, rfl, rfl, rfl, h1, r1⟩ := trodAll_cons r0
  obtain ⟨rfl, rfl, rfl⟩ := trodAll_nil r1
  obtain rfl : args = #[v0, v1] := by cases args; simp_all
  obtain ⟨rfl, rfl⟩ := trodVars_none hV
  have lt0 : ∀ x ∈ p0, x.block < W.heap.size := by obtain ⟨m, hm⟩ := h0; exact DataW.trod_lt m _ _ _ hm
  have w0 := open_isPolicy (hval 0 88 v0 rfl rfl) h0
  have lt1 : ∀ x ∈ p1, x.block < W.heap.size := by obtain ⟨m, hm⟩ := h1; exact DataW.trod_lt m _ _ _ hm
  have w1 := open_isRule (hval 1 74 v1 rfl rfl) h1
  clear hA0 hval0
  refine (walk v0 v1 W w0 w1).mono fun e W' ⟨he, bel⟩ => ?_
  subst he
  exact ⟨_, rfl, _, _, _, [], _, [], hW', trodAll_mk1 (shut_bool Try.underlying4 _), (trodAll_cons_mk (Below.trod laidOut (by kernel_rfl) (of_decide_eq_true (by kernel_rfl)) h0 bel lt0) (trodAll_cons_mk (Below.trod laidOut (by kernel_rfl) (of_decide_eq_true (by kernel_rfl)) h1 bel lt1) trodAll_mk0)), rfl, bel.frame _, fun h => by cases h⟩

theorem over : Rows.fnExactPolicyAddRow.holds Try.pinned (OpenSpec.ofChange Rows.fnExactPolicyAddSpec) :=
  OpenClaim.holds_of_wide 10 Try.f10 rfl rfl rfl rfl rfl rfl rfl ⟨rfl, rfl, rfl, rfl, rfl⟩ rfl rfl rfl rfl rfl (by kernel_rfl) Try.func10 (by kernel_rfl)
    (of_decide_eq_true (by kernel_rfl)) (by unfold Func.isWrapper; first | (rw [if_pos (by decide +kernel)]; kernel_rfl) | (rw [if_neg (by decide +kernel)]; exact ⟨rfl, rfl⟩))
    (fun os started H enc _ => lifted os started H enc)

theorem proved : Rows.FnExactPolicyAddSaid := over
#print axioms proved
end Go.Proofs.Ytmnmaijifhojiaa.fnExactPolicyAdd

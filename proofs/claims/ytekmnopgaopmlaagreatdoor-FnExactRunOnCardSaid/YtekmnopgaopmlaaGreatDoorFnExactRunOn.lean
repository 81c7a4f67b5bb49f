/-
  FnExactRunOn: for every input that the row speaks of, the law returns true, and its arguments read afterwards as before. The row lists the library's variable errors.errorType with what it holds when the call begins; the card ties that to the program's text.
-/
import Derived.Test.YtekmnopgaopmlaaGreatDoorCards
import Derived.Test.YtekmnopgaopmlaaGreatDoorTie
import Derived.Test.YtekmnopgaopmlaaGreatDoorRows
import Derived.Test.YtekmnopgaopmlaaGreatDoorVj
import Derived.Test.YtekmnopgaopmlaaGreatDoorRh
import Derived.Test.YtekmnopgaopmlaaGreatDoorRo
import Derived.Test.YtekmnopgaopmlaaGreatDoorOs
import Derived.Deep.DeepCutAuto
import Derived.Deep.CutRange
import Derived.Deep.RegionLaw
import Derived.WalkKit
import Derived.ProofKit
import Derived.ChangeSame
import Derived.ChangeVars
import Derived.JoinedOf
import Derived.RowKitTokens
import Derived.LaidLaws
import Derived.LaidHandle
import Derived.LaidMore
import Derived.Stop.Joined
import Derived.SevenTiedAt
import Derived.OpenShut
import Derived.ShutString
import Derived.ChangeOld
import Derived.Below
set_option maxRecDepth 100000
namespace Go.Proofs.YtekmnopgaopmlaaGreatDoor.fnExactRunOn
open Go.ChangeShapes Go.WideShapes Go.ChangeAt Go.RowKit
open Go.ChangeMaps (open_string shut_string)
set_option linter.unusedVariables false

theorem own : ownKnob Tryz.prog.godebug = none := by kernel_rfl
theorem laidOut : laidOutB Tryz.prog = true := by kernel_rfl

set_option maxHeartbeats 3200000 in
theorem walk (a0 a1 : Value) (w : World) (w0 : IsInsns w a0) (w1 : IsRecord w a1) (hg : w.cell? ⟨0, 0, none⟩ = some handleV) :
    Calls Tryz.prog 4 #[a0, a1] w fun e w' => e = .returned (.bool true) ∧ Below w.heap.size w w' := by
  obtain ⟨l, hl⟩ := w0
  obtain ⟨r, u, rfl, hu, hrw⟩ := w1
  obtain ⟨a, cap, rfl, hlc, hcm⟩ := hl.len
  obtain ⟨a2, cap2, rfl, hlc2, hcm2⟩ := hu.len
  unfold maxLen at hcm hcm2
  have hb0 := below_al (Below.refl w.heap.size w) (.cells #[.int .i64 r.nr, .int .i64 r.ar, .int .i64 r.ip.h, .int .i64 r.ip.l, .slice a2 r.args.length cap2] 52)
  by_cases hlen : 1048576 < l.length
  · have hsz := fun W => szInsnS_any a l.length cap 1048576 W (by omega) (by omega) (by omega)
    simp only [if_pos (show (1048576 : Int) - (l.length : Int) < 0 by omega)] at hsz
    have HZ := Lib.hid hsz
    have HB0 := Lib.hid hb0
    obtain ⟨nr, ar, ⟨ih, il⟩, args⟩ := r
    simp only at HB0 hlc2 ⊢
    clear hl hg hu hrw hsz hb0
    go_enter Tryz.func4, Tryz.ntmps4
    go_wp2_with fail
    refine (HZ.out _).mono ?_
    rintro e w1 ⟨rfl, rfl⟩
    go_wp2_with fail
    go_ret
    exact ⟨rfl, HB0.out⟩
  have hsz := fun W => szInsnS_any a l.length cap 1048576 W (by omega) (by omega) (by omega)
  simp only [if_neg (show ¬ (1048576 : Int) - (l.length : Int) < 0 by omega)] at hsz
  have hzr := fun W => szRecord_any r a2 r.args.length cap2 ((1048576 : Int) - (l.length : Int)) W (by omega) (by omega) (by omega)
  have hd0 : decide ((1048576 : Int) - (l.length : Int) < 0) = false := decide_eq_false (by omega)
  by_cases hrl : (1048576 : Int) - (l.length : Int) - (r.args.length : Int) < 0
  · simp only [if_pos hrl] at hzr
    have HZ := Lib.hid hsz
    have HB0 := Lib.hid hb0
    obtain ⟨nr, ar, ⟨ih, il⟩, args⟩ := r
    simp only at HB0 hlc2 hzr hrl ⊢
    have HZR := Lib.hid hzr
    clear hl hg hu hrw hsz hb0 hzr
    go_enter Tryz.func4, Tryz.ntmps4
    go_wp2_with fail
    refine (HZ.out _).mono ?_
    rintro e w1 ⟨rfl, rfl⟩
    go_wp2_with fail
    refine (HZR.out _).mono ?_
    rintro e w1 ⟨rfl, hb1⟩
    have HB1 := Lib.hid (below_chain HB0.out hb1)
    clear hb1
    go_wp2_with fail
    go_ret
    exact ⟨rfl, HB1.out⟩
  simp only [if_neg hrl] at hzr
  have hd1 : decide ((1048576 : Int) - (l.length : Int) - (r.args.length : Int) < 0) = false := decide_eq_false hrl
  have hwf : Hid (∀ x ∈ l, x.wf) := hl.2
  have hwr : Hid (∀ x ∈ r.args, x.wf) := hu.2.2
  have hglt : 0 < w.heap.size := by
    rcases Nat.lt_or_ge 0 w.heap.size with h | h
    · exact h
    · simp [World.cell?, Array.getElem?_eq_none h] at hg
  have qi := fun W (h : Below w.heap.size w W) => toInsnS_any _ l W ((hl.below h).up h.size) (by omega)
  have qt := fun W (h : Below w.heap.size w W) => toRecord_any r _ W (LAt.up (LAt.below hu h) h.size) (by omega)
  have qs := fun v u' W (h : InsAt W W.heap.size v l) (h2 : WdAt W W.heap.size u' r.args) => specRunOn_any v l r u' W h h2 (by omega)
  have qp := fun v u' W (h : InsAt W W.heap.size v l) (h2 : WdAt W W.heap.size u' r.args) (hB : Below w.heap.size w W) => implRunOn_any v l r u' W h h2 (by omega) ((hB.cell (p := ⟨0, 0, none⟩) hglt).trans hg)
  have qe := fun u1 u2 W (h1 : WdAt W W.heap.size u1 r.args) (h2 : WdAt W W.heap.size u2 r.args) => eqRecord_same r u1 u2 W h1 h2
  generalize runL l (rbOf r) = ans at *
  obtain ⟨rp, rq, rr⟩ := ans
  obtain ⟨nr, ar, ⟨ih, il⟩, args⟩ := r
  simp only [ansV] at hb0 hsz hzr qi qt qs qp qe hlc2 hd1 hwr hrl ⊢
  have HZ := Lib.hid hsz
  have HZR := Lib.hid hzr
  have QI := Lib.hid qi
  have QT := Lib.hid qt
  have QS := Lib.hid qs
  have QP := Lib.hid qp
  have QE := Lib.hid qe
  have HB0 := Lib.hid hb0
  clear hsz hzr qi qt qs qp qe hb0 hl hu hg hrw hrl
  go_enter Tryz.func4, Tryz.ntmps4
  go_wp2_with fail
  refine (HZ.out _).mono ?_
  rintro e w1 ⟨rfl, rfl⟩
  go_wp2_with fail
  refine (HZR.out _).mono ?_
  rintro e w1 ⟨rfl, hb1⟩
  have HB1 := Lib.hid hb1
  have HW1 := Lib.hid (below_chain HB0.out hb1)
  clear hb1
  have hkeep : ∀ W : World, Below w1.heap.size w1 W → (W.cell? ⟨w.heap.size, 0, none⟩ = some (.int .i64 nr) ∧ W.cell? ⟨w.heap.size, 1, none⟩ = some (.int .i64 ar) ∧ W.cell? ⟨w.heap.size, 2, none⟩ = some (.int .i64 ih) ∧ W.cell? ⟨w.heap.size, 3, none⟩ = some (.int .i64 il) ∧ W.cell? ⟨w.heap.size, 4, none⟩ = some (.slice a2 args.length cap2)) := fun W hb => by
    have h2 := below_chain HB1.out hb
    exact ⟨box_cell h2 0, box_cell h2 1, box_cell h2 2, box_cell h2 3, box_cell h2 4⟩
  have HK := Lib.hid hkeep
  clear hkeep
  go_upto_region 8 with fail
  go_cut [6] from 20 to 24 (fun p ws => ∃ X : Nat, p = .pointer (some ⟨X, 0, none⟩) ∧ ws.heap[X]? = some (.cells #[.int .i64 rp, .int .i64 rq, .int .i64 rr] 44 (0, 0)) ∧ Below w1.heap.size w1 ws)
  case first =>
    have hbw : Below w1.heap.size w1 w1.drew := (Below.refl _ _).drew
    obtain ⟨c0, c1, c2, c3, c4⟩ := HK.out w1 (Below.refl _ _)
    have hlr0 : w.heap.size < w1.heap.size := by have := HB1.out.size; simp at this; omega
    go_wp2_with fail
    go_region_law (first
      | ((go_simp; go_at_call 23; (with_reducible refine (QI.out _ (below_chain HW1.out (by first | exact hbw | exact below_al hbw _ | exact (below_al (Below.refl w1.heap.size w1) _).drew))).mono ?_); rintro e wa ⟨ua, rfl, hoa, hba⟩; have hbw := below_chain (by first | exact hbw | exact below_al hbw _ | exact (below_al (Below.refl w1.heap.size w1) _).drew) hba; have hsa := hbw.size; have hia := hoa.insAt hwf.out; (first | (have hra := LAt.up (LAt.below hra hba) hba.size) | (have hra := LAt.up (LAt.below (wd_al hra _) hba) hba.size) | skip); have hlr := Nat.lt_of_lt_of_le hlr0 hbw.size; (first | (have rx := Lib.hid ((hba.block _ (row_here rx.out)).trans rx.out)) | (have rx := Lib.hid (box_row hba)) | (have rx := Lib.hid (box_rowd hba)) | skip); obtain ⟨c0, c1, c2, c3, c4⟩ := HK.out _ hbw; clear hoa hba; dsimp only))
      | ((go_simp; go_at_call 24; (with_reducible refine (QT.out _ (below_chain HW1.out (by first | exact hbw | exact below_al hbw _ | exact (below_al (Below.refl w1.heap.size w1) _).drew))).mono ?_); rintro e wb ⟨ub, rfl, hob, hbb⟩; have hbw := below_chain (by first | exact hbw | exact below_al hbw _ | exact (below_al (Below.refl w1.heap.size w1) _).drew) hbb; have hsb := hbw.size; have hra := OwnL.lAt wdS hob hwr.out; (first | (have hia := (hia.below hbb).up hbb.size) | (have hia := ((ins_al hia _).below hbb).up hbb.size) | skip); have hlr := Nat.lt_of_lt_of_le hlr0 hbw.size; (first | (have rx := Lib.hid ((hbb.block _ (row_here rx.out)).trans rx.out)) | (have rx := Lib.hid (box_row hbb)) | (have rx := Lib.hid (box_rowd hbb)) | skip); obtain ⟨c0, c1, c2, c3, c4⟩ := HK.out _ hbw; clear hob hbb; dsimp only))
      | ((go_simp; go_at_call 20; (with_reducible refine (QS.out _ _ _ (by first | exact hia | exact ins_al hia _) (by first | exact hra | exact wd_al hra _)).mono ?_); rintro e wd ⟨rfl, hbd⟩; have hbw := below_chain (by first | exact hbw | exact below_al hbw _ | exact (below_al (Below.refl w1.heap.size w1) _).drew) hbd; (first | (have rx := Lib.hid ((hbd.block _ (row_here rx.out)).trans rx.out)) | (have rx := Lib.hid (box_row hbd)) | (have rx := Lib.hid (box_rowd hbd)) | skip); (try (have e0 := row_cell rx.out 0; have e1 := row_cell rx.out 1; have e2 := row_cell rx.out 2; have f0 := frozen_row rx.out 0; have f1 := frozen_row rx.out 1; have f2 := frozen_row rx.out 2; simp only [List.getElem?_toArray, List.getElem?_cons_zero, List.getElem?_cons_succ] at e0 e1 e2)); clear hbd; dsimp only)))
    all_goals
      go_wp2_with fail
      go_meet
      first
        | exact ⟨_, rfl, alloc_new_at _ _ _ rfl, below_al hbw _⟩
        | exact ⟨_, rfl, row_put (row_put (row_put rx.out 0 _) 1 _) 2 _, ((hbw.setCell (p := ⟨_, 0, none⟩) (by first | exact Nat.le_refl _ | exact hsa | exact hsb) _).setCell (p := ⟨_, 1, none⟩) (by first | exact Nat.le_refl _ | exact hsa | exact hsb) _).setCell (p := ⟨_, 2, none⟩) (by first | exact Nat.le_refl _ | exact hsa | exact hsb) _⟩
  case rest =>
  obtain ⟨X, rfl, hrow, hB⟩ := hcut
  have hlr : w.heap.size < wc.heap.size := by have := HB1.out.size; have := hB.size; simp at *; omega
  have HX := Lib.hid hrow
  have HBC := Lib.hid hB
  clear hrow hB
  go_wp2_with fail
  refine (QI.out _ (below_chain HW1.out HBC.out)).mono ?_
  rintro e w2 ⟨u2, rfl, ho2, hb2⟩
  have HI2 := Lib.hid (ho2.insAt hwf.out)
  have HX2 := Lib.hid ((hb2.block _ (row_here HX.out)).trans HX.out)
  have HB2 := Lib.hid (below_chain HBC.out hb2)
  clear ho2 hb2
  obtain ⟨c0, c1, c2, c3, c4⟩ := HK.out _ HB2.out
  go_wp2_with fail
  clear c0 c1 c2 c3 c4
  refine (QT.out _ (below_chain HW1.out HB2.out)).mono ?_
  rintro e w3 ⟨u3, rfl, ho3, hb3⟩
  obtain ⟨a3, cap3, rfl⟩ := OwnL.slice ho3
  have HI3 := Lib.hid (ins_al ((HI2.out.below hb3).up hb3.size) (.cells #[.int .i64 nr, .int .i64 ar, .int .i64 ih, .int .i64 il, .slice a3 args.length cap3] 36))
  have HR3 := Lib.hid (wd_al (OwnL.lAt wdS ho3 hwr.out) (.cells #[.int .i64 nr, .int .i64 ar, .int .i64 ih, .int .i64 il, .slice a3 args.length cap3] 36))
  have HX3 := Lib.hid (row_alloc ((hb3.block _ (row_here HX2.out)).trans HX2.out) (.cells #[.int .i64 nr, .int .i64 ar, .int .i64 ih, .int .i64 il, .slice a3 args.length cap3] 36))
  have HB3 := Lib.hid (below_al (below_chain HB2.out hb3) (.cells #[.int .i64 nr, .int .i64 ar, .int .i64 ih, .int .i64 il, .slice a3 args.length cap3] 36))
  have HY3 := Lib.hid (alloc_new_at w3 #[.int .i64 nr, .int .i64 ar, .int .i64 ih, .int .i64 il, .slice a3 args.length cap3] 36 rfl)
  clear ho3 hb3
  go_wp2_with fail
  refine (QP.out _ _ _ HI3.out HR3.out (below_chain HW1.out HB3.out)).mono ?_
  rintro e w4 ⟨rfl, hb4⟩
  have hb4' := below_al hb4 (.cells #[.int .i64 rp, .int .i64 rq, .int .i64 rr] 44)
  have HI4 := Lib.hid ((HI3.out.below hb4').up hb4'.size)
  have HR4 := Lib.hid (LAt.up (LAt.below HR3.out hb4') hb4'.size)
  have HY4 := Lib.hid ((hb4'.block _ (row_here HY3.out)).trans HY3.out)
  have hx4 := (hb4.block _ (row_here HX3.out)).trans HX3.out
  have hxlt := row_here hx4
  have d0 := row_cell hx4 0
  have d1 := row_cell hx4 1
  have d2 := row_cell hx4 2
  simp only [List.getElem?_toArray, List.getElem?_cons_zero, List.getElem?_cons_succ] at d0 d1 d2
  have HB4 := Lib.hid (below_chain HB3.out hb4')
  clear hb4 hb4' hx4
  go_wp2_with fail
  refine (eqRunOut_same _ _ _ _).mono ?_
  rintro e w5 ⟨rfl, hb5⟩
  have HI5 := Lib.hid ((HI4.out.below hb5).up hb5.size)
  have HR5 := Lib.hid (LAt.up (LAt.below HR4.out hb5) hb5.size)
  have HY5 := Lib.hid ((hb5.block _ (row_here HY4.out)).trans HY4.out)
  have HB5 := Lib.hid (below_chain HB4.out hb5)
  clear hb5 d0 d1 d2 hxlt
  go_wp2_with fail
  refine (QI.out _ (below_chain HW1.out HB5.out)).mono ?_
  rintro e w6 ⟨u6, rfl, ho6, hb6⟩
  have HI6 := Lib.hid (ho6.insAt hwf.out)
  have HJ6 := Lib.hid ((HI5.out.below hb6).up hb6.size)
  have HR6 := Lib.hid (LAt.up (LAt.below HR5.out hb6) hb6.size)
  have HY6 := Lib.hid ((hb6.block _ (row_here HY5.out)).trans HY5.out)
  have HB6 := Lib.hid (below_chain HB5.out hb6)
  clear ho6 hb6
  go_wp2_with fail
  refine (eqInsnS_any _ _ l l _ HJ6.out HI6.out).mono ?_
  rintro e w7 ⟨rfl, hb7⟩
  have HR7 := Lib.hid (LAt.up (LAt.below HR6.out hb7) hb7.size)
  have hrow7 := (hb7.block _ (row_here HY6.out)).trans HY6.out
  have HB7 := Lib.hid (below_chain HB6.out hb7)
  have hd : decide (l = l) = true := by simp
  have hkeep2 : ∀ W : World, Below w7.heap.size w7 W → (W.cell? ⟨w3.heap.size, 0, none⟩ = some (.int .i64 nr) ∧ W.cell? ⟨w3.heap.size, 1, none⟩ = some (.int .i64 ar) ∧ W.cell? ⟨w3.heap.size, 2, none⟩ = some (.int .i64 ih) ∧ W.cell? ⟨w3.heap.size, 3, none⟩ = some (.int .i64 il) ∧ W.cell? ⟨w3.heap.size, 4, none⟩ = some (.slice a3 args.length cap3) ∧ W.cell? ⟨w.heap.size, 0, none⟩ = some (.int .i64 nr) ∧ W.cell? ⟨w.heap.size, 1, none⟩ = some (.int .i64 ar) ∧ W.cell? ⟨w.heap.size, 2, none⟩ = some (.int .i64 ih) ∧ W.cell? ⟨w.heap.size, 3, none⟩ = some (.int .i64 il) ∧ W.cell? ⟨w.heap.size, 4, none⟩ = some (.slice a2 args.length cap2)) := fun W hb => by
    have r1 := (hb.block _ (row_here hrow7)).trans hrow7
    have h2 := below_chain HB1.out (below_chain HB7.out hb)
    exact ⟨row_cell r1 0, row_cell r1 1, row_cell r1 2, row_cell r1 3, row_cell r1 4, box_cell h2 0, box_cell h2 1, box_cell h2 2, box_cell h2 3, box_cell h2 4⟩
  have HK2 := Lib.hid hkeep2
  clear hkeep2 hb7 hrow7
  obtain ⟨d0, d1, d2, d3, d4, c0, c1, c2, c3, c4⟩ := HK2.out _ (Below.refl _ _)
  have hbw5 : Below w7.heap.size w7 w7.drew := (Below.refl _ _).drew
  go_wp2_with fail
  go_region_held3 (fun w' => w'.cell? ⟨w3.heap.size, 0, none⟩ = some (.int .i64 nr) ∧ w'.cell? ⟨w3.heap.size, 1, none⟩ = some (.int .i64 ar) ∧ w'.cell? ⟨w3.heap.size, 2, none⟩ = some (.int .i64 ih) ∧ w'.cell? ⟨w3.heap.size, 3, none⟩ = some (.int .i64 il) ∧ w'.cell? ⟨w3.heap.size, 4, none⟩ = some (.slice a3 args.length cap3) ∧ w'.cell? ⟨w.heap.size, 0, none⟩ = some (.int .i64 nr) ∧ w'.cell? ⟨w.heap.size, 1, none⟩ = some (.int .i64 ar) ∧ w'.cell? ⟨w.heap.size, 2, none⟩ = some (.int .i64 ih) ∧ w'.cell? ⟨w.heap.size, 3, none⟩ = some (.int .i64 il) ∧ w'.cell? ⟨w.heap.size, 4, none⟩ = some (.slice a2 args.length cap2))
    (first | go_keep | exact HK2.out _ hbw7 | exact HK2.out _ hbw6)
    (first
      | (go_at_call 24; (with_reducible refine (QT.out _ (below_chain HW1.out HB7.out).drew).mono ?_); rintro e w8 ⟨u8, rfl, ho8, hb8⟩; obtain ⟨a8, cap8, rfl⟩ := OwnL.slice ho8; have hbw6 := hbw5.trans (hb8.mono hbw5.size); have hi8 := OwnL.lAt wdS ho8 hwr.out)
      | (go_at_call 27; (with_reducible refine (QE.out _ _ _ (LAt.up (LAt.below HR7.out hbw6) hbw6.size) hi8).mono ?_); rintro e w9 ⟨rfl, hb9⟩; have hbw7 := hbw6.trans (hb9.mono hbw6.size)))
  have HXX := Lib.hid (below_chain HW1.out (below_chain HB7.out hbw7))
  clear hbw5 hbw6 hbw7 hb8 hb9 c0 c1 c2 c3 c4 d0 d1 d2 d3 d4
  go_wp2_with fail
  go_ret
  exact ⟨rfl, HXX.out⟩

theorem et : Tryz.prog.globalNamed "errors.errorType" = some 0 := by kernel_rfl
theorem rt : (Tryz.prog.cutTypes.find? (·.1 == "internal/reflectlite.rtype")).map (·.2) = some 171 := by kernel_rfl
theorem oneRow : ((List.range 215).filter fun t => Tryz.prog.rowNamed t [101, 114, 114, 111, 114]) = [92] := by kernel_rfl
theorem tsize : Tryz.prog.types.size = 215 := by kernel_rfl

/-- What the row's list gives the walk: the variable's one cell. -/
theorem handle_of_laid {W : World} (h : laidMetH Tryz.prog Rows.fnExactRunOnRow.laid W) : W.cell? ⟨0, 0, none⟩ = some handleV := by
  have h' : laidMet Tryz.prog [] W ∧ handlesMet Tryz.prog Rows.fnExactRunOnRow.laid W := h
  obtain ⟨name, u, ty, e1, e2, e3, e4, e5⟩ := h'.2 _ (List.mem_singleton.2 rfl)
  have en : name = [101, 114, 114, 111, 114] := (Option.some.inj e1).symm
  subst en
  obtain rfl := Option.some.inj (rt.symm.trans e2)
  have hm : ty ∈ (List.range 215).filter fun t => Tryz.prog.rowNamed t [101, 114, 114, 111, 114] := List.mem_filter.2 ⟨List.mem_range.2 (by rw [← tsize]; exact e3), e4⟩
  rw [oneRow] at hm
  obtain rfl := List.mem_singleton.1 hm
  have hh : typeHandle Tryz.prog 92 = .pointer (some ⟨1, 92, none⟩) := by kernel_rfl
  rw [hh] at e5
  have := World.var?_cell et e5 0
  unfold handleV
  simpa using this

/-- A world for the witness: the settled one, the variable's cell laid. -/
noncomputable def laidWorld (os : Os) : World :=
  { World.holding Tryz.prog os ⟨#[], #[], []⟩ with heap := (World.holding Tryz.prog os ⟨#[], #[], []⟩).heap.modify 0 fun
      | .cells _ t frozen => .cells #[handleV] t frozen
      | o => o }
theorem laidWorld_met (os : Os) (args : Array Value) : laidMetH Tryz.prog Rows.fnExactRunOnRow.laid ((laidWorld os).forCall (fun _ _ => 0) ⟨#[], args, []⟩).memory :=
  laidMetH_of_parts (laidMet_nil _ _) (by kernel_rfl)

set_option maxRecDepth 100000 in
theorem lifted (os : Os) (started : os.Started) (H : Type) (enc : TypeId × Value → H) :
    ReturnsInHanded {} Tryz.checked os 4 .any (fun w args => (Rows.fnExactRunOnSpec.pre enc Tryz.prog Tryz.f4 [] false w args ∧ laidMetH Tryz.prog Rows.fnExactRunOnRow.laid w) ∧ sizedMet enc Tryz.prog Tryz.f4 (OpenSpec.ofChange Rows.fnExactRunOnSpec) false w args)
      (Rows.fnExactRunOnSpec.post enc Tryz.prog Tryz.f4 false true false false) := by
  refine returnsInHanded_of_change_and (C := Tryz.checked) (X := fun w _ => laidMetH Tryz.prog Rows.fnExactRunOnRow.laid w) (fun _ _ _ hh h => h.of_heap hh) own started (by kernel_rfl) Tryz.func4
    (ChangeSpec.witness_at (enc := enc) (C := Tryz.checked) (os := os) (X := fun w _ => laidMetH Tryz.prog Rows.fnExactRunOnRow.laid w) false (laidWorld os) #[.slice none 0 0, .agg #[.int .i64 0, .int .i64 0, .int .i64 0, .int .i64 0, .slice none 0 0]] 8 rfl (by kernel_rfl) (by kernel_rfl) (by kernel_rfl) (by kernel_rfl) (by kernel_rfl) (laidWorld_met os _)) ?_
  intro W base args ds gs before hval0 hW _ _ hL _
  have hval : ∀ (j : Nat) t v, Tryz.f4.params[j]? = some t → args[j]? = some v → Value.okWide Tryz.prog W .any base t v := hval0
  have hW' := hW
  obtain ⟨p, q, hA0, hV, rfl, hfz, hnd⟩ := hW
  have hA : DataW.TrodAll enc Tryz.prog W 0 (fun _ => true) true Tryz.f4.params.toList args.toList ds p := hA0
  rw [Tryz.params4] at hA hval
  obtain ⟨v0, vs0, d0, ds0, p0, q0, hargs, rfl, rfl, h0, r0⟩ := trodAll_cons hA
  obtain ⟨v1, vs1, d1, ds1, p1, q1, rfl, rfl, rfl, h1, r1⟩ := trodAll_cons r0
  obtain ⟨rfl, rfl, rfl⟩ := trodAll_nil r1
  obtain rfl : args = #[v0, v1] := by cases args; simp_all
  obtain ⟨rfl, rfl⟩ := trodVars_none hV
  have lt0 : ∀ x ∈ p0, x.block < W.heap.size := by obtain ⟨m, hm⟩ := h0; exact DataW.trod_lt m _ _ _ hm
  have w0 := open_isInsns (hval 0 48 v0 rfl rfl) h0
  have lt1 : ∀ x ∈ p1, x.block < W.heap.size := by obtain ⟨m, hm⟩ := h1; exact DataW.trod_lt m _ _ _ hm
  have w1 := open_isRecord (hval 1 52 v1 rfl rfl) h1
  clear hA0 hval0
  refine (walk v0 v1 W w0 w1 (handle_of_laid hL)).mono fun e W' ⟨he, bel⟩ => ?_
  subst he
  exact ⟨_, rfl, _, _, _, [], _, [], hW', trodAll_mk1 (shut_bool Tryz.underlying4 _), (trodAll_cons_mk (Below.trod laidOut (by kernel_rfl) (of_decide_eq_true (by kernel_rfl)) h0 bel lt0) (trodAll_cons_mk (Below.trod laidOut (by kernel_rfl) (of_decide_eq_true (by kernel_rfl)) h1 bel lt1) trodAll_mk0)), rfl, bel.frame _, fun h => by cases h⟩

theorem over : Rows.fnExactRunOnRow.holds Tryz.pinned (OpenSpec.ofChange Rows.fnExactRunOnSpec) :=
  OpenClaim.holds_of_wide 4 Tryz.f4 rfl rfl rfl rfl rfl rfl rfl ⟨rfl, rfl, rfl, rfl, rfl⟩ rfl rfl rfl rfl rfl (by kernel_rfl) Tryz.func4 (by kernel_rfl)
    (of_decide_eq_true (by kernel_rfl)) (by unfold Func.isWrapper; first | (rw [if_pos (by decide +kernel)]; kernel_rfl) | (rw [if_neg (by decide +kernel)]; exact ⟨rfl, rfl⟩))
    (fun os started H enc _ => lifted os started H enc)

/-- What the card asks of the parameters: none wants a stand-in. -/
theorem plain (f : FuncId) (fn : Func) (hf : Tryz.pinned.checked.prog.funcNamed "loop.example/s0083/laws.FnExactRunOn" = some f) (hfn : Tryz.pinned.checked.prog.funcs[f]? = some fn) :
    Rows.fnExactRunOnCard.stood.looks = Tryz.pinned.checked.prog.looks [] ∧ ∀ (j : Nat) t, fn.params[j]? = some t → Tryz.pinned.checked.prog.wantsStandIn t = false := by
  obtain rfl : f = 4 := Option.some.inj ((show Tryz.prog.funcNamed "loop.example/s0083/laws.FnExactRunOn" = some 4 by kernel_rfl).symm.trans hf) |>.symm
  obtain rfl : fn = Tryz.f4 := (Option.some.inj (Tryz.func4.symm.trans hfn)).symm
  refine ⟨by kernel_rfl, fun j t ht => ?_⟩
  rw [Tryz.params4] at ht
  have hm : t ∈ [48, 52] := by simpa using Array.mem_of_getElem? ht
  have hall : ([48, 52].all fun u => !Tryz.prog.wantsStandIn u) = true := by kernel_rfl
  exact (show Tryz.prog.wantsStandIn t = false by simpa using List.all_eq_true.1 hall t hm)

theorem proved : Rows.FnExactRunOnCardSaid :=
  Claim7.holds_tied_plain_at .later [] _ _ _ _ over (fun _ h => by cases h) (by kernel_rfl) (fun _ h => by cases h) fnExactRunOn_row_tie rfl ⟨rfl, rfl⟩ (by kernel_rfl) rfl plain (by kernel_rfl)
#print axioms proved
end Go.Proofs.YtekmnopgaopmlaaGreatDoor.fnExactRunOn

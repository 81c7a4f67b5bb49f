/- Rules: do they hold? RuleHolds of the program walked. -/
import Derived.Test.YtmnmaijifhojiaaJk
import Derived.Test.YtmnmaijifhojiaaIs
set_option maxRecDepth 100000
set_option linter.unusedVariables false
set_option linter.unusedSimpArgs false
namespace Go.Proofs.Ytmnmaijifhojiaa
open Go.RowKit
attribute [local go_sem ↓] Go.wp_at_zero Go.wp_at_succ

set_option maxHeartbeats 6400000 in
theorem implRuleHolds_any (nr ac : Int) (cs : List Cq) (zn za zh zl : Int) (args : List Wd) (v u : Value) (w : World) (hv : CqAt w w.heap.size v cs) (hu : WdAt w w.heap.size u args) :
    Calls Try.prog 31 #[.agg #[.int .i64 nr, .int .i64 ac, v], .agg #[.int .i64 zn, .int .i64 za, .int .i64 zh, .int .i64 zl, u]] w fun e w' =>
      e = .returned (.bool (rlHolds ⟨nr, ac, cs⟩ ⟨zn, za, ⟨zh, zl⟩, args⟩)) ∧ Below w.heap.size w w' := by
  obtain ⟨a, cap, rfl, hlc, hcm⟩ := hv.len
  obtain ⟨a', cap', rfl, hlc', hcm'⟩ := hu.len
  unfold maxLen at hcm hcm'
  have hd : rlHolds ⟨nr, ac, cs⟩ ⟨zn, za, ⟨zh, zl⟩, args⟩ = (rlRight ⟨nr, ac, cs⟩ && rcRight ⟨zn, za, ⟨zh, zl⟩, args⟩ && (decide (nr = zn) && (List.range cs.length).all (stepHolds cs args))) := rfl
  have q1 := fun W (h : Below w.heap.size w W) => implRuleRight_any nr ac cs _ W (LAt.up (LAt.below hv h) h.size)
  have q2 := fun W (h : Below w.heap.size w W) => implRecordRight_any ⟨zn, za, ⟨zh, zl⟩, args⟩ _ W (LAt.up (LAt.below hu h) h.size)
  have HB0 := Lib.hid (show ∀ o o' : Obj, Below w.heap.size w ((w.alloc o).alloc o') from fun o o' => ((Below.refl _ _).alloc (Nat.le_refl _) _).alloc (by simp) _)
  cases h1 : rlRight ⟨nr, ac, cs⟩ <;> rw [h1] at q1
  · have HR := Lib.hid (show rlHolds ⟨nr, ac, cs⟩ ⟨zn, za, ⟨zh, zl⟩, args⟩ = false by rw [hd, h1]; rfl)
    have Q1 := Lib.hid q1
    clear hd q1 q2 h1 hv hu
    go_enter Try.func31, Try.ntmps31
    go_wp2_with fail
    refine (Q1.out _ (HB0.out _ _)).mono ?_
    rintro e w1 ⟨rfl, hb1⟩
    have HB := Lib.hid (box2 hb1).2.2
    clear hb1
    go_wp2_with fail
    go_ret
    exact ⟨ret_bool HR.out.symm, HB.out⟩
  cases h2 : rcRight ⟨zn, za, ⟨zh, zl⟩, args⟩ <;> rw [h2] at q2
  · have HR := Lib.hid (show rlHolds ⟨nr, ac, cs⟩ ⟨zn, za, ⟨zh, zl⟩, args⟩ = false by rw [hd, h1, h2]; rfl)
    have Q1 := Lib.hid q1
    have Q2 := Lib.hid q2
    clear hd q1 q2 h1 h2 hv hu
    go_enter Try.func31, Try.ntmps31
    go_wp2_with fail
    refine (Q1.out _ (HB0.out _ _)).mono ?_
    rintro e w1 ⟨rfl, hb1⟩
    have hb2 := box2 hb1
    have d0 := hb2.2.1 0
    have d1 := hb2.2.1 1
    have d2 := hb2.2.1 2
    have d3 := hb2.2.1 3
    have d4 := hb2.2.1 4
    simp only [List.getElem?_toArray, List.getElem?_cons_zero, List.getElem?_cons_succ] at d0 d1 d2 d3 d4
    have HB := Lib.hid hb2.2.2
    clear hb1 hb2
    go_wp2_with fail
    refine (Q2.out _ HB.out).mono ?_
    rintro e w2 ⟨rfl, hb3⟩
    have HC := Lib.hid (HB.out.trans (hb3.mono HB.out.size))
    clear hb3 d0 d1 d2 d3 d4
    go_wp2_with fail
    go_ret
    exact ⟨ret_bool HR.out.symm, HC.out⟩
  rw [h1, h2, Bool.true_and, Bool.true_and] at hd
  have Q1 := Lib.hid q1
  have Q2 := Lib.hid q2
  by_cases hn : nr = zn
  · have HR := Lib.hid (show rlHolds ⟨nr, ac, cs⟩ ⟨zn, za, ⟨zh, zl⟩, args⟩ = (List.range cs.length).all (stepHolds cs args) by rw [hd, decide_eq_true hn]; rfl)
    have hnn := nn_int hn
    have HV := Lib.hid hv
    have HU := Lib.hid hu
    have HC := Lib.hid (rlRight_cs h1).2
    have H6 := Lib.hid (rcRight_args h2).1
    have HW := Lib.hid (rcRight_args h2).2
    clear hd q1 q2 h1 h2 hv hu hn
    go_enter Try.func31, Try.ntmps31
    go_wp2_with fail
    refine (Q1.out _ (HB0.out _ _)).mono ?_
    rintro e w1 ⟨rfl, hb1⟩
    have hb2 := box2 hb1
    have d0 := hb2.2.1 0
    have d1 := hb2.2.1 1
    have d2 := hb2.2.1 2
    have d3 := hb2.2.1 3
    have d4 := hb2.2.1 4
    simp only [List.getElem?_toArray, List.getElem?_cons_zero, List.getElem?_cons_succ] at d0 d1 d2 d3 d4
    have HB := Lib.hid hb2.2.2
    have HB1 := Lib.hid hb1
    clear hb1 hb2
    go_wp2_with fail
    refine (Q2.out _ HB.out).mono ?_
    rintro e w2 ⟨rfl, hb3⟩
    have HB2 := Lib.hid (HB1.out.trans (hb3.mono HB1.out.size))
    clear hb3 d0 d1 d2 d3 d4
    have hb2 := box2 HB2.out
    have c0 := hb2.1 0
    have c2 := hb2.1 2
    have d0 := hb2.2.1 0
    simp only [List.getElem?_toArray, List.getElem?_cons_zero, List.getElem?_cons_succ] at c0 c2 d0
    clear hb2
    go_wp2_with fail
    go_loopw [25] (fun i wr => ∃ k : Nat, k ≤ cs.length ∧ i = .int .i64 k ∧ (List.range k).all (stepHolds cs args) = true ∧ Below ((w.alloc (.cells #[.int .i64 nr, .int .i64 ac, .slice a cs.length cap] 35)).alloc (.cells #[.int .i64 zn, .int .i64 za, .int .i64 zh, .int .i64 zl, .slice a' args.length cap'] 45)).heap.size ((w.alloc (.cells #[.int .i64 nr, .int .i64 ac, .slice a cs.length cap] 35)).alloc (.cells #[.int .i64 zn, .int .i64 za, .int .i64 zh, .int .i64 zl, .slice a' args.length cap'] 45)) wr) (fun i _ => cs.length - (intOf i).toNat)
    case atStart => exact ⟨0, by omega, rfl, by simp, HB2.out⟩
    case round =>
      obtain ⟨k, hk, rfl, hall, hbw⟩ := hrel
      have HA := Lib.hid hall
      have HX := Lib.hid (box2 hbw).2.2
      clear hall c0 c2 d0
      by_cases hlt : k < cs.length
      · have hcr := HC.out k hlt
        obtain ⟨b, o, e, hb, d0, d1, d2, d3, d4, d5, hwf⟩ := CqAt.place (LAt.below HV.out HX.out) (List.getElem?_eq_getElem hlt)
        subst e
        rw [← cqAt_eq hlt] at d0 d1 d2 d3 d4 d5
        have hst : stepHolds cs args k = cqHolds0 (cqAt cs k) (wdAt args (cqAt cs k).a.toNat) := rfl
        generalize cqAt cs k = x at d0 d1 d2 d3 d4 d5 hcr hst
        obtain ⟨xa, xo, xmh, xml, xvh, xvl⟩ := x
        simp only at d0 d1 d2 d3 d4 d5 hst
        have harg := cqRight_arg hcr
        simp only at harg
        obtain ⟨m, rfl⟩ := Int.eq_ofNat_of_zero_le harg.1
        have hm5 : m ≤ 5 := by omega
        have hlm : m < args.length := by have := H6.out; omega
        have hwr := HW.out (args[m]) (List.getElem_mem hlm)
        obtain ⟨b', o', e', hb', y0, y1, hwf'⟩ := WdAt.place (LAt.below HU.out HX.out) (List.getElem?_eq_getElem hlm)
        subst e'
        rw [← wdAt_eq hlm] at y0 y1 hwr
        rw [Int.toNat_natCast] at hst
        generalize wdAt args m = uu at y0 y1 hst hwr
        obtain ⟨uh, ul⟩ := uu
        simp only at y0 y1
        have q1 := fun W => implCmpHolds_any (m : Int) xo xmh xml xvh xvl uh ul W
        rw [show cqHolds ⟨(m : Int), xo, xmh, xml, xvh, xvl⟩ ⟨uh, ul⟩ = cqHolds0 ⟨(m : Int), xo, xmh, xml, xvh, xvl⟩ ⟨uh, ul⟩ by unfold cqHolds; rw [hcr, hwr]; rfl] at q1
        generalize cqHolds0 ⟨(m : Int), xo, xmh, xml, xvh, xvl⟩ ⟨uh, ul⟩ = res at q1 hst
        have hszr := hbw.size
        have hszw := HX.out.size
        have hkeep : ∀ W : World, Below (wr.alloc (.cells #[.int .i64 (m : Int), .int .i64 xo, .int .i64 xmh, .int .i64 xml, .int .i64 xvh, .int .i64 xvl] 26)).heap.size (wr.alloc (.cells #[.int .i64 (m : Int), .int .i64 xo, .int .i64 xmh, .int .i64 xml, .int .i64 xvh, .int .i64 xvl] 26)) W → (W.cell? ⟨w.heap.size + 1, 4, none⟩ = some (.slice (some ⟨b', o', none⟩) args.length cap') ∧ W.cell? ⟨wr.heap.size, 0, none⟩ = some (.int .i64 (m : Int)) ∧ W.cell? ⟨wr.heap.size, 1, none⟩ = some (.int .i64 xo) ∧ W.cell? ⟨wr.heap.size, 2, none⟩ = some (.int .i64 xmh) ∧ W.cell? ⟨wr.heap.size, 3, none⟩ = some (.int .i64 xml) ∧ W.cell? ⟨wr.heap.size, 4, none⟩ = some (.int .i64 xvh) ∧ W.cell? ⟨wr.heap.size, 5, none⟩ = some (.int .i64 xvl) ∧ W.cell? ⟨b', o' + m * 2, none⟩ = some (.int .i64 uh) ∧ W.cell? ⟨b', o' + m * 2 + 1, none⟩ = some (.int .i64 ul)) := fun W hb3 => by
          have hb4 : Below wr.heap.size wr W := box_below hb3
          have hb2 := hbw.trans (hb4.mono hszr)
          exact ⟨(box2 hb2).2.1 4, box_cell hb3 0, box_cell hb3 1, box_cell hb3 2, box_cell hb3 3, box_cell hb3 4, box_cell hb3 5, (World.cell?_of_block (hb4.block b' (by omega))).trans y0, (World.cell?_of_block (hb4.block b' (by omega))).trans y1⟩
        have HK := Lib.hid hkeep
        have hbw0 : Below (wr.alloc (.cells #[.int .i64 (m : Int), .int .i64 xo, .int .i64 xmh, .int .i64 xml, .int .i64 xvh, .int .i64 xvl] 26)).heap.size (wr.alloc (.cells #[.int .i64 (m : Int), .int .i64 xo, .int .i64 xmh, .int .i64 xml, .int .i64 xvh, .int .i64 xvl] 26)) (wr.alloc (.cells #[.int .i64 (m : Int), .int .i64 xo, .int .i64 xmh, .int .i64 xml, .int .i64 xvh, .int .i64 xvl] 26)).drew := (Below.refl _ _).drew
        have Q3 := Lib.hid q1
        have Q1 := Q3
        have hm0 : (m : Int) < (args.length : Int) := by omega
        have HBW := Lib.hid hbw
        have hc4 := (box2 hbw).2.1 4
        simp only [List.getElem?_toArray, List.getElem?_cons_zero, List.getElem?_cons_succ] at hc4
        clear q1 hkeep hcr hwf hwf' harg hlm hm5 hwr hbw hszr hszw
        cases res with
        | false =>
          have HN := Lib.hid (HR.out.trans (holdsTo_bad hlt hst))
          clear hst
          go_wp2_with fail
          refine wp_region_noPanic ?_
          refine wp_region_held_drew (S := fun w' => w'.cell? ⟨w.heap.size + 1, 4, none⟩ = some (.slice (some ⟨b', o', none⟩) args.length cap') ∧ w'.cell? ⟨wr.heap.size, 0, none⟩ = some (.int .i64 (m : Int)) ∧ w'.cell? ⟨wr.heap.size, 1, none⟩ = some (.int .i64 xo) ∧ w'.cell? ⟨wr.heap.size, 2, none⟩ = some (.int .i64 xmh) ∧ w'.cell? ⟨wr.heap.size, 3, none⟩ = some (.int .i64 xml) ∧ w'.cell? ⟨wr.heap.size, 4, none⟩ = some (.int .i64 xvh) ∧ w'.cell? ⟨wr.heap.size, 5, none⟩ = some (.int .i64 xvl) ∧ w'.cell? ⟨b', o' + m * 2, none⟩ = some (.int .i64 uh) ∧ w'.cell? ⟨b', o' + m * 2 + 1, none⟩ = some (.int .i64 ul)) (by kernel_rfl) ?_ (fun hHeld => ?_)
          · exact HK.out _ hbw0
          refine wpAnyH_take (i := 0) (v := ?qv101) rfl (by kernel_rfl) (by kernel_rfl) (by kernel_rfl) (fun _ _ _ h => h) (Or.inl ⟨by rfl, ?qhy101⟩) (by assumption) ?qrest101
          case qhy101 =>
            intro W hSw
            try dsimp only at hSw
            go_simp
            try with_reducible rfl
          try simp only [Act.put, List.getElem_toArray, List.getElem_cons_zero, List.getElem_cons_succ, List.setIfInBounds_toArray, List.set_cons_zero, List.set_cons_succ]
          refine wpAnyH_take (i := 1) (v := ?qv102) rfl (by kernel_rfl) (by kernel_rfl) (by kernel_rfl) (fun _ _ _ h => h) (Or.inl ⟨by rfl, ?qhy102⟩) (by assumption) ?qrest102
          case qhy102 =>
            intro W hSw
            try dsimp only at hSw
            go_simp
            try with_reducible rfl
          try simp only [Act.put, List.getElem_toArray, List.getElem_cons_zero, List.getElem_cons_succ, List.setIfInBounds_toArray, List.set_cons_zero, List.set_cons_succ]
          refine wpAnyH_take (i := 2) (v := ?qv103) rfl (by kernel_rfl) (by kernel_rfl) (by kernel_rfl) (fun _ _ _ h => h) (Or.inl ⟨by rfl, ?qhy103⟩) (by assumption) ?qrest103
          case qhy103 =>
            intro W hSw
            try dsimp only at hSw
            go_simp
            try with_reducible rfl
          try simp only [Act.put, List.getElem_toArray, List.getElem_cons_zero, List.getElem_cons_succ, List.setIfInBounds_toArray, List.set_cons_zero, List.set_cons_succ]
          refine wpAnyH_take (i := 3) (v := ?qv104) rfl (by kernel_rfl) (by kernel_rfl) (by kernel_rfl) (fun _ _ _ h => h) (Or.inl ⟨by rfl, ?qhy104⟩) (by assumption) ?qrest104
          case qhy104 =>
            intro W hSw
            try dsimp only at hSw
            go_simp
            try with_reducible rfl
          try simp only [Act.put, List.getElem_toArray, List.getElem_cons_zero, List.getElem_cons_succ, List.setIfInBounds_toArray, List.set_cons_zero, List.set_cons_succ]
          refine wpAnyH_take (i := 4) (v := ?qv105) rfl (by kernel_rfl) (by kernel_rfl) (by kernel_rfl) (fun _ _ _ h => h) (Or.inl ⟨by rfl, ?qhy105⟩) (by assumption) ?qrest105
          case qhy105 =>
            intro W hSw
            try dsimp only at hSw
            go_simp
            try with_reducible rfl
          try simp only [Act.put, List.getElem_toArray, List.getElem_cons_zero, List.getElem_cons_succ, List.setIfInBounds_toArray, List.set_cons_zero, List.set_cons_succ]
          refine wpAnyH_take (i := 5) (v := ?qv106) rfl (by kernel_rfl) (by kernel_rfl) (by kernel_rfl) (fun _ _ _ h => h) (Or.inl ⟨by rfl, ?qhy106⟩) (by assumption) ?qrest106
          case qhy106 =>
            intro W hSw
            try dsimp only at hSw
            go_simp
            try with_reducible rfl
          try simp only [Act.put, List.getElem_toArray, List.getElem_cons_zero, List.getElem_cons_succ, List.setIfInBounds_toArray, List.set_cons_zero, List.set_cons_succ]
          refine wpAnyH_take (i := 6) (v := ?qv107) rfl (by kernel_rfl) (by kernel_rfl) (by kernel_rfl) (fun _ _ _ h => h) (Or.inl ⟨by rfl, ?qhy107⟩) (by assumption) ?qrest107
          case qhy107 =>
            intro W hSw
            try dsimp only at hSw
            go_simp
            try with_reducible rfl
          try simp only [Act.put, List.getElem_toArray, List.getElem_cons_zero, List.getElem_cons_succ, List.setIfInBounds_toArray, List.set_cons_zero, List.set_cons_succ]
          refine wpAnyH_ready (rs := [7]) (by kernel_rfl) (by simp) ?_
          refine AllReadyH.cons rfl (fun K hK => ?_) AllReadyH.nil
          go_simp
          refine (Q1.out _).mono ?_
          rintro e v1 ⟨rfl, hb1⟩
          have hbw1 := hbw0.trans (hb1.mono hbw0.size)
          go_wp2_with fail
          refine hK.out _ _ ?_ (fun hHeld => ?_)
          · exact HK.out _ hbw1
          clear hK K hb1
          try simp only [Act.put, List.getElem_toArray, List.getElem_cons_zero, List.getElem_cons_succ, List.setIfInBounds_toArray, List.set_cons_zero, List.set_cons_succ]
          refine wpAnyH_take (i := 8) (v := ?qv108) rfl (by kernel_rfl) (by kernel_rfl) (by kernel_rfl) (fun _ _ _ h => h) (Or.inl ⟨by rfl, ?qhy108⟩) (by assumption) ?qrest108
          case qhy108 =>
            intro W hSw
            try dsimp only at hSw
            go_simp
            try with_reducible rfl
          try simp only [Act.put, List.getElem_toArray, List.getElem_cons_zero, List.getElem_cons_succ, List.setIfInBounds_toArray, List.set_cons_zero, List.set_cons_succ]
          refine wpAnyH_done (by kernel_rfl) ?_ _
          refine NoPanic.normal ?_
          have HZ := Lib.hid (HX.out.trans ((box_below hbw1).mono HX.out.size))
          clear hbw0 hbw1
          go_wp2_with fail
          go_ret
          exact ⟨ret_bool HN.out.symm, HZ.out⟩
        | true =>
          have HN := Lib.hid (holdsTo_next HA.out hst)
          clear hst
          go_wp2_with fail
          refine wp_region_noPanic ?_
          refine wp_region_held_drew (S := fun w' => w'.cell? ⟨w.heap.size + 1, 4, none⟩ = some (.slice (some ⟨b', o', none⟩) args.length cap') ∧ w'.cell? ⟨wr.heap.size, 0, none⟩ = some (.int .i64 (m : Int)) ∧ w'.cell? ⟨wr.heap.size, 1, none⟩ = some (.int .i64 xo) ∧ w'.cell? ⟨wr.heap.size, 2, none⟩ = some (.int .i64 xmh) ∧ w'.cell? ⟨wr.heap.size, 3, none⟩ = some (.int .i64 xml) ∧ w'.cell? ⟨wr.heap.size, 4, none⟩ = some (.int .i64 xvh) ∧ w'.cell? ⟨wr.heap.size, 5, none⟩ = some (.int .i64 xvl) ∧ w'.cell? ⟨b', o' + m * 2, none⟩ = some (.int .i64 uh) ∧ w'.cell? ⟨b', o' + m * 2 + 1, none⟩ = some (.int .i64 ul)) (by kernel_rfl) ?_ (fun hHeld => ?_)
          · exact HK.out _ hbw0
          refine wpAnyH_take (i := 0) (v := ?qv209) rfl (by kernel_rfl) (by kernel_rfl) (by kernel_rfl) (fun _ _ _ h => h) (Or.inl ⟨by rfl, ?qhy209⟩) (by assumption) ?qrest209
          case qhy209 =>
            intro W hSw
            try dsimp only at hSw
            go_simp
            try with_reducible rfl
          try simp only [Act.put, List.getElem_toArray, List.getElem_cons_zero, List.getElem_cons_succ, List.setIfInBounds_toArray, List.set_cons_zero, List.set_cons_succ]
          refine wpAnyH_take (i := 1) (v := ?qv210) rfl (by kernel_rfl) (by kernel_rfl) (by kernel_rfl) (fun _ _ _ h => h) (Or.inl ⟨by rfl, ?qhy210⟩) (by assumption) ?qrest210
          case qhy210 =>
            intro W hSw
            try dsimp only at hSw
            go_simp
            try with_reducible rfl
          try simp only [Act.put, List.getElem_toArray, List.getElem_cons_zero, List.getElem_cons_succ, List.setIfInBounds_toArray, List.set_cons_zero, List.set_cons_succ]
          refine wpAnyH_take (i := 2) (v := ?qv211) rfl (by kernel_rfl) (by kernel_rfl) (by kernel_rfl) (fun _ _ _ h => h) (Or.inl ⟨by rfl, ?qhy211⟩) (by assumption) ?qrest211
          case qhy211 =>
            intro W hSw
            try dsimp only at hSw
            go_simp
            try with_reducible rfl
          try simp only [Act.put, List.getElem_toArray, List.getElem_cons_zero, List.getElem_cons_succ, List.setIfInBounds_toArray, List.set_cons_zero, List.set_cons_succ]
          refine wpAnyH_take (i := 3) (v := ?qv212) rfl (by kernel_rfl) (by kernel_rfl) (by kernel_rfl) (fun _ _ _ h => h) (Or.inl ⟨by rfl, ?qhy212⟩) (by assumption) ?qrest212
          case qhy212 =>
            intro W hSw
            try dsimp only at hSw
            go_simp
            try with_reducible rfl
          try simp only [Act.put, List.getElem_toArray, List.getElem_cons_zero, List.getElem_cons_succ, List.setIfInBounds_toArray, List.set_cons_zero, List.set_cons_succ]
          refine wpAnyH_take (i := 4) (v := ?qv213) rfl (by kernel_rfl) (by kernel_rfl) (by kernel_rfl) (fun _ _ _ h => h) (Or.inl ⟨by rfl, ?qhy213⟩) (by assumption) ?qrest213
          case qhy213 =>
            intro W hSw
            try dsimp only at hSw
            go_simp
            try with_reducible rfl
          try simp only [Act.put, List.getElem_toArray, List.getElem_cons_zero, List.getElem_cons_succ, List.setIfInBounds_toArray, List.set_cons_zero, List.set_cons_succ]
          refine wpAnyH_take (i := 5) (v := ?qv214) rfl (by kernel_rfl) (by kernel_rfl) (by kernel_rfl) (fun _ _ _ h => h) (Or.inl ⟨by rfl, ?qhy214⟩) (by assumption) ?qrest214
          case qhy214 =>
            intro W hSw
            try dsimp only at hSw
            go_simp
            try with_reducible rfl
          try simp only [Act.put, List.getElem_toArray, List.getElem_cons_zero, List.getElem_cons_succ, List.setIfInBounds_toArray, List.set_cons_zero, List.set_cons_succ]
          refine wpAnyH_take (i := 6) (v := ?qv215) rfl (by kernel_rfl) (by kernel_rfl) (by kernel_rfl) (fun _ _ _ h => h) (Or.inl ⟨by rfl, ?qhy215⟩) (by assumption) ?qrest215
          case qhy215 =>
            intro W hSw
            try dsimp only at hSw
            go_simp
            try with_reducible rfl
          try simp only [Act.put, List.getElem_toArray, List.getElem_cons_zero, List.getElem_cons_succ, List.setIfInBounds_toArray, List.set_cons_zero, List.set_cons_succ]
          refine wpAnyH_ready (rs := [7]) (by kernel_rfl) (by simp) ?_
          refine AllReadyH.cons rfl (fun K hK => ?_) AllReadyH.nil
          go_simp
          refine (Q1.out _).mono ?_
          rintro e v1 ⟨rfl, hb1⟩
          have hbw1 := hbw0.trans (hb1.mono hbw0.size)
          go_wp2_with fail
          refine hK.out _ _ ?_ (fun hHeld => ?_)
          · exact HK.out _ hbw1
          clear hK K hb1
          try simp only [Act.put, List.getElem_toArray, List.getElem_cons_zero, List.getElem_cons_succ, List.setIfInBounds_toArray, List.set_cons_zero, List.set_cons_succ]
          refine wpAnyH_take (i := 8) (v := ?qv216) rfl (by kernel_rfl) (by kernel_rfl) (by kernel_rfl) (fun _ _ _ h => h) (Or.inl ⟨by rfl, ?qhy216⟩) (by assumption) ?qrest216
          case qhy216 =>
            intro W hSw
            try dsimp only at hSw
            go_simp
            try with_reducible rfl
          try simp only [Act.put, List.getElem_toArray, List.getElem_cons_zero, List.getElem_cons_succ, List.setIfInBounds_toArray, List.set_cons_zero, List.set_cons_succ]
          refine wpAnyH_done (by kernel_rfl) ?_ _
          refine NoPanic.normal ?_
          have HZ := Lib.hid (HBW.out.trans ((box_below hbw1).mono HBW.out.size))
          clear hbw0 hbw1
          go_wp2_with fail
          go_roundw
          case rel => exact ⟨k + 1, by omega, by go_num, HN.out, HZ.out⟩
          case measure => simp [intOf]; omega
      · have HN := Lib.hid (show rlHolds ⟨nr, ac, cs⟩ ⟨zn, za, ⟨zh, zl⟩, args⟩ = true by
          have h := HA.out
          rw [HR.out]
          rwa [show k = cs.length by omega] at h)
        clear hbw
        go_wp2_with fail
        go_ret
        exact ⟨ret_bool HN.out.symm, HX.out⟩
  · have HR := Lib.hid (show rlHolds ⟨nr, ac, cs⟩ ⟨zn, za, ⟨zh, zl⟩, args⟩ = false by rw [hd, decide_eq_false hn]; rfl)
    have hnn := ne_int hn
    clear hd q1 q2 h1 h2 hv hu hn
    go_enter Try.func31, Try.ntmps31
    go_wp2_with fail
    refine (Q1.out _ (HB0.out _ _)).mono ?_
    rintro e w1 ⟨rfl, hb1⟩
    have hb2 := box2 hb1
    have d0 := hb2.2.1 0
    have d1 := hb2.2.1 1
    have d2 := hb2.2.1 2
    have d3 := hb2.2.1 3
    have d4 := hb2.2.1 4
    simp only [List.getElem?_toArray, List.getElem?_cons_zero, List.getElem?_cons_succ] at d0 d1 d2 d3 d4
    have HB := Lib.hid hb2.2.2
    have HB1 := Lib.hid hb1
    clear hb1 hb2
    go_wp2_with fail
    refine (Q2.out _ HB.out).mono ?_
    rintro e w2 ⟨rfl, hb3⟩
    have hb4 := HB1.out.trans (hb3.mono HB1.out.size)
    have HC := Lib.hid (box2 hb4).2.2
    clear hb3 d0 d1 d2 d3 d4
    have hb2 := box2 hb4
    have c0 := hb2.1 0
    have d0 := hb2.2.1 0
    simp only [List.getElem?_toArray, List.getElem?_cons_zero, List.getElem?_cons_succ] at c0 d0
    clear hb4 hb2
    go_wp2_with fail
    go_ret
    exact ⟨ret_bool HR.out.symm, HC.out⟩

end Go.Proofs.Ytmnmaijifhojiaa

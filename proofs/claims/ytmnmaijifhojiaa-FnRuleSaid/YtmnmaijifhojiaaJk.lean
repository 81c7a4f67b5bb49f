/- Rules: do they hold? l06Rule and RuleHolds of the model walked. -/
import Derived.Test.YtmnmaijifhojiaaJh
set_option maxRecDepth 100000
set_option linter.unusedVariables false
set_option linter.unusedSimpArgs false
namespace Go.Proofs.Ytmnmaijifhojiaa
open Go.RowKit
attribute [local go_sem ↓] Go.wp_at_zero Go.wp_at_succ

def wdAt (l : List Wd) (i : Nat) : Wd := l.getD i ⟨0, 0⟩
theorem wdAt_eq {l : List Wd} {i : Nat} (h : i < l.length) : wdAt l i = l[i] := by unfold wdAt; rw [List.getD_eq_getElem?_getD, List.getElem?_eq_getElem h]; rfl
/-- Does the comparison at that place hold of the Arg that it asks? -/
def stepHolds (cs : List Cq) (args : List Wd) (i : Nat) : Bool := cqHolds0 (cqAt cs i) (wdAt args (cqAt cs i).a.toNat)
def rlHolds0 (r : Rl) (x : Rc) : Bool := decide (r.nr = x.nr) && (List.range r.cs.length).all (stepHolds r.cs x.args)
def rlHolds (r : Rl) (x : Rc) : Bool := rlRight r && rcRight x && rlHolds0 r x
theorem holdsTo_next {cs : List Cq} {args : List Wd} {k : Nat} (h : (List.range k).all (stepHolds cs args) = true) (hx : stepHolds cs args k = true) : (List.range (k + 1)).all (stepHolds cs args) = true := by
  rw [List.range_succ, List.all_append, h]
  simp [hx]
theorem holdsTo_bad {cs : List Cq} {args : List Wd} {k : Nat} (hk : k < cs.length) (hx : stepHolds cs args k = false) : (List.range cs.length).all (stepHolds cs args) = false := by
  rw [List.all_eq_false]
  exact ⟨k, List.mem_range.2 hk, by simp [hx]⟩
theorem rlRight_cs {nr ac : Int} {cs : List Cq} (h : rlRight ⟨nr, ac, cs⟩ = true) : cs.length ≤ 3 ∧ ∀ i, i < cs.length → cqRight (cqAt cs i) = true := by
  unfold rlRight cqsOk at h
  simp only [Bool.and_eq_true, decide_eq_true_eq, List.all_eq_true, List.mem_range] at h
  refine ⟨h.1.2, fun i hi => ?_⟩
  have := h.2 i hi
  unfold stepOk at this
  simp only [Bool.and_eq_true] at this
  exact this.1
theorem rcRight_args {x : Rc} (h : rcRight x = true) : x.args.length = 6 ∧ ∀ u ∈ x.args, wdRight u = true := by
  unfold rcRight at h
  simp only [Bool.and_eq_true, decide_eq_true_eq, List.all_eq_true] at h
  exact ⟨h.1.2, h.2⟩

set_option maxHeartbeats 6400000 in
theorem l06Rule_any (nr ac : Int) (cs : List Cq) (zn za zh zl : Int) (args : List Wd) (v u : Value) (w : World) (hv : CqAt w w.heap.size v cs) (hu : WdAt w w.heap.size u args)
    (hr : ∀ i, i < cs.length → cqRight (cqAt cs i) = true) (h6 : args.length = 6) :
    Calls Try.prog 81 #[.agg #[.int .i64 nr, .int .i64 ac, v], .agg #[.int .i64 zn, .int .i64 za, .int .i64 zh, .int .i64 zl, u]] w fun e w' =>
      e = .returned (.bool (rlHolds0 ⟨nr, ac, cs⟩ ⟨zn, za, ⟨zh, zl⟩, args⟩)) ∧ Below w.heap.size w w' := by
  obtain ⟨a, cap, rfl, hlc, hcm⟩ := hv.len
  obtain ⟨a', cap', rfl, hlc', hcm'⟩ := hu.len
  unfold maxLen at hcm hcm'
  have hd : rlHolds0 ⟨nr, ac, cs⟩ ⟨zn, za, ⟨zh, zl⟩, args⟩ = (decide (nr = zn) && (List.range cs.length).all (stepHolds cs args)) := rfl
  by_cases hn : nr = zn
  · have HR := Lib.hid (show rlHolds0 ⟨nr, ac, cs⟩ ⟨zn, za, ⟨zh, zl⟩, args⟩ = (List.range cs.length).all (stepHolds cs args) by rw [hd, decide_eq_true hn]; rfl)
    have hnn := nn_int hn
    have HV := Lib.hid hv
    have HU := Lib.hid hu
    have HC := Lib.hid hr
    have H6 := Lib.hid h6
    clear hd hv hu hr h6 hn
    go_enter Try.func81, Try.ntmps81
    go_wp2_with fail
    go_loopw [5] (fun i wr => ∃ k : Nat, k ≤ cs.length ∧ i = .int .i64 k ∧ (List.range k).all (stepHolds cs args) = true ∧ Below ((w.alloc (.cells #[.int .i64 nr, .int .i64 ac, .slice a cs.length cap] 35)).alloc (.cells #[.int .i64 zn, .int .i64 za, .int .i64 zh, .int .i64 zl, .slice a' args.length cap'] 45)).heap.size ((w.alloc (.cells #[.int .i64 nr, .int .i64 ac, .slice a cs.length cap] 35)).alloc (.cells #[.int .i64 zn, .int .i64 za, .int .i64 zh, .int .i64 zl, .slice a' args.length cap'] 45)) wr) (fun i _ => cs.length - (intOf i).toNat)
    case atStart => exact ⟨0, by omega, rfl, by simp, Below.refl _ _⟩
    case round =>
      obtain ⟨k, hk, rfl, hall, hbw⟩ := hrel
      have c2 := (box2 hbw).1 2
      simp only [List.getElem?_toArray, List.getElem?_cons_zero, List.getElem?_cons_succ] at c2
      have HA := Lib.hid hall
      have HX := Lib.hid (box2 hbw).2.2
      clear hall
      by_cases hlt : k < cs.length
      · have hcr := HC.out k hlt
        obtain ⟨b, o, e, hb, d0, d1, d2, d3, d4, d5, hwf⟩ := CqAt.place HV.out (List.getElem?_eq_getElem hlt)
        subst e
        rw [← cqAt_eq hlt] at d0 d1 d2 d3 d4 d5
        have hst : stepHolds cs args k = cqHolds0 (cqAt cs k) (wdAt args (cqAt cs k).a.toNat) := rfl
        generalize cqAt cs k = x at d0 d1 d2 d3 d4 d5 hcr hst
        obtain ⟨xa, xo, xmh, xml, xvh, xvl⟩ := x
        simp only at d0 d1 d2 d3 d4 d5 hst
        have harg := cqRight_arg hcr
        simp only at harg
        obtain ⟨m, rfl⟩ := Int.eq_ofNat_of_zero_le harg.1
        have hm5 : m ≤ 5 := by omega
        have hlm : m < args.length := by have := H6.out; omega
        obtain ⟨b', o', e', hb', y0, y1, hwf'⟩ := WdAt.place HU.out (List.getElem?_eq_getElem hlm)
        subst e'
        rw [← wdAt_eq hlm] at y0 y1
        rw [Int.toNat_natCast] at hst
        generalize wdAt args m = uu at y0 y1 hst
        obtain ⟨uh, ul⟩ := uu
        simp only at y0 y1
        have q1 := fun W => l06Holds_any (m : Int) xo xmh xml xvh xvl uh ul W (cqRight_parts hcr).1
        generalize cqHolds0 ⟨(m : Int), xo, xmh, xml, xvh, xvl⟩ ⟨uh, ul⟩ = res at q1 hst
        have hkeep : ∀ W : World, Below ((w.alloc (.cells #[.int .i64 nr, .int .i64 ac, .slice (some ⟨b, o, none⟩) cs.length cap] 35)).alloc (.cells #[.int .i64 zn, .int .i64 za, .int .i64 zh, .int .i64 zl, .slice (some ⟨b', o', none⟩) args.length cap'] 45)).heap.size ((w.alloc (.cells #[.int .i64 nr, .int .i64 ac, .slice (some ⟨b, o, none⟩) cs.length cap] 35)).alloc (.cells #[.int .i64 zn, .int .i64 za, .int .i64 zh, .int .i64 zl, .slice (some ⟨b', o', none⟩) args.length cap'] 45)) W → (W.cell? ⟨w.heap.size, 2, none⟩ = some (.slice (some ⟨b, o, none⟩) cs.length cap) ∧ W.cell? ⟨w.heap.size + 1, 4, none⟩ = some (.slice (some ⟨b', o', none⟩) args.length cap') ∧ W.cell? ⟨b, o + k * 6, none⟩ = some (.int .i64 (m : Int)) ∧ W.cell? ⟨b, o + k * 6 + 1, none⟩ = some (.int .i64 xo) ∧ W.cell? ⟨b, o + k * 6 + 2, none⟩ = some (.int .i64 xmh) ∧ W.cell? ⟨b, o + k * 6 + 3, none⟩ = some (.int .i64 xml) ∧ W.cell? ⟨b, o + k * 6 + 4, none⟩ = some (.int .i64 xvh) ∧ W.cell? ⟨b, o + k * 6 + 5, none⟩ = some (.int .i64 xvl) ∧ W.cell? ⟨b', o' + m * 2, none⟩ = some (.int .i64 uh) ∧ W.cell? ⟨b', o' + m * 2 + 1, none⟩ = some (.int .i64 ul)) := fun W hb2 => by
          have hbx := (box2 hb2).2.2
          exact ⟨(box2 hb2).1 2, (box2 hb2).2.1 4, (World.cell?_of_block (hbx.block b hb)).trans d0, (World.cell?_of_block (hbx.block b hb)).trans d1, (World.cell?_of_block (hbx.block b hb)).trans d2, (World.cell?_of_block (hbx.block b hb)).trans d3, (World.cell?_of_block (hbx.block b hb)).trans d4, (World.cell?_of_block (hbx.block b hb)).trans d5, (World.cell?_of_block (hbx.block b' hb')).trans y0, (World.cell?_of_block (hbx.block b' hb')).trans y1⟩
        have HK := Lib.hid hkeep
        have hbw0 := hbw.drew
        have Q1 := Lib.hid q1
        have hm0 : (m : Int) < (args.length : Int) := by omega
        clear q1 hkeep d0 d1 d2 d3 d4 d5 y0 y1 hcr hwf hwf' c2 harg hlm hm5
        obtain ⟨c2, c4, d0, d1, d2, d3, d4, d5, y0, y1⟩ := HK.out _ hbw
        clear hbw
        cases res with
        | false =>
          have HN := Lib.hid (HR.out.trans (holdsTo_bad hlt hst))
          clear hst
          go_wp2_with fail
          refine wp_region_noPanic ?_
          refine wp_region_held_drew (S := fun w' => w'.cell? ⟨w.heap.size, 2, none⟩ = some (.slice (some ⟨b, o, none⟩) cs.length cap) ∧ w'.cell? ⟨w.heap.size + 1, 4, none⟩ = some (.slice (some ⟨b', o', none⟩) args.length cap') ∧ w'.cell? ⟨b, o + k * 6, none⟩ = some (.int .i64 (m : Int)) ∧ w'.cell? ⟨b, o + k * 6 + 1, none⟩ = some (.int .i64 xo) ∧ w'.cell? ⟨b, o + k * 6 + 2, none⟩ = some (.int .i64 xmh) ∧ w'.cell? ⟨b, o + k * 6 + 3, none⟩ = some (.int .i64 xml) ∧ w'.cell? ⟨b, o + k * 6 + 4, none⟩ = some (.int .i64 xvh) ∧ w'.cell? ⟨b, o + k * 6 + 5, none⟩ = some (.int .i64 xvl) ∧ w'.cell? ⟨b', o' + m * 2, none⟩ = some (.int .i64 uh) ∧ w'.cell? ⟨b', o' + m * 2 + 1, none⟩ = some (.int .i64 ul)) (by kernel_rfl) ?_ (fun hHeld => ?_)
          · exact HK.out _ hbw0
          refine wpAnyH_take (i := 0) (v := ?qv1) rfl (by kernel_rfl) (by kernel_rfl) (by kernel_rfl) (fun _ _ _ h => h) (Or.inl ⟨by rfl, ?qhy1⟩) (by assumption) ?qrest1
          case qhy1 =>
            intro W hSw
            try dsimp only at hSw
            go_simp
            try with_reducible rfl
          try simp only [Act.put, List.getElem_toArray, List.getElem_cons_zero, List.getElem_cons_succ, List.setIfInBounds_toArray, List.set_cons_zero, List.set_cons_succ]
          refine wpAnyH_take (i := 1) (v := ?qv2) rfl (by kernel_rfl) (by kernel_rfl) (by kernel_rfl) (fun _ _ _ h => h) (Or.inl ⟨by rfl, ?qhy2⟩) (by assumption) ?qrest2
          case qhy2 =>
            intro W hSw
            try dsimp only at hSw
            go_simp
            try with_reducible rfl
          try simp only [Act.put, List.getElem_toArray, List.getElem_cons_zero, List.getElem_cons_succ, List.setIfInBounds_toArray, List.set_cons_zero, List.set_cons_succ]
          refine wpAnyH_take (i := 2) (v := ?qv3) rfl (by kernel_rfl) (by kernel_rfl) (by kernel_rfl) (fun _ _ _ h => h) (Or.inl ⟨by rfl, ?qhy3⟩) (by assumption) ?qrest3
          case qhy3 =>
            intro W hSw
            try dsimp only at hSw
            go_simp
            try with_reducible rfl
          try simp only [Act.put, List.getElem_toArray, List.getElem_cons_zero, List.getElem_cons_succ, List.setIfInBounds_toArray, List.set_cons_zero, List.set_cons_succ]
          refine wpAnyH_take (i := 3) (v := ?qv4) rfl (by kernel_rfl) (by kernel_rfl) (by kernel_rfl) (fun _ _ _ h => h) (Or.inl ⟨by rfl, ?qhy4⟩) (by assumption) ?qrest4
          case qhy4 =>
            intro W hSw
            try dsimp only at hSw
            go_simp
            try with_reducible rfl
          try simp only [Act.put, List.getElem_toArray, List.getElem_cons_zero, List.getElem_cons_succ, List.setIfInBounds_toArray, List.set_cons_zero, List.set_cons_succ]
          refine wpAnyH_take (i := 4) (v := ?qv5) rfl (by kernel_rfl) (by kernel_rfl) (by kernel_rfl) (fun _ _ _ h => h) (Or.inl ⟨by rfl, ?qhy5⟩) (by assumption) ?qrest5
          case qhy5 =>
            intro W hSw
            try dsimp only at hSw
            go_simp
            try with_reducible rfl
          try simp only [Act.put, List.getElem_toArray, List.getElem_cons_zero, List.getElem_cons_succ, List.setIfInBounds_toArray, List.set_cons_zero, List.set_cons_succ]
          refine wpAnyH_take (i := 5) (v := ?qv6) rfl (by kernel_rfl) (by kernel_rfl) (by kernel_rfl) (fun _ _ _ h => h) (Or.inl ⟨by rfl, ?qhy6⟩) (by assumption) ?qrest6
          case qhy6 =>
            intro W hSw
            try dsimp only at hSw
            go_simp
            try with_reducible rfl
          try simp only [Act.put, List.getElem_toArray, List.getElem_cons_zero, List.getElem_cons_succ, List.setIfInBounds_toArray, List.set_cons_zero, List.set_cons_succ]
          refine wpAnyH_take (i := 6) (v := ?qv7) rfl (by kernel_rfl) (by kernel_rfl) (by kernel_rfl) (fun _ _ _ h => h) (Or.inl ⟨by rfl, ?qhy7⟩) (by assumption) ?qrest7
          case qhy7 =>
            intro W hSw
            try dsimp only at hSw
            go_simp
            try with_reducible rfl
          try simp only [Act.put, List.getElem_toArray, List.getElem_cons_zero, List.getElem_cons_succ, List.setIfInBounds_toArray, List.set_cons_zero, List.set_cons_succ]
          refine wpAnyH_take (i := 7) (v := ?qv8) rfl (by kernel_rfl) (by kernel_rfl) (by kernel_rfl) (fun _ _ _ h => h) (Or.inl ⟨by rfl, ?qhy8⟩) (by assumption) ?qrest8
          case qhy8 =>
            intro W hSw
            try dsimp only at hSw
            go_simp
            try with_reducible rfl
          try simp only [Act.put, List.getElem_toArray, List.getElem_cons_zero, List.getElem_cons_succ, List.setIfInBounds_toArray, List.set_cons_zero, List.set_cons_succ]
          refine wpAnyH_take (i := 8) (v := ?qv9) rfl (by kernel_rfl) (by kernel_rfl) (by kernel_rfl) (fun _ _ _ h => h) (Or.inl ⟨by rfl, ?qhy9⟩) (by assumption) ?qrest9
          case qhy9 =>
            intro W hSw
            try dsimp only at hSw
            go_simp
            try with_reducible rfl
          try simp only [Act.put, List.getElem_toArray, List.getElem_cons_zero, List.getElem_cons_succ, List.setIfInBounds_toArray, List.set_cons_zero, List.set_cons_succ]
          refine wpAnyH_take (i := 9) (v := ?qv10) rfl (by kernel_rfl) (by kernel_rfl) (by kernel_rfl) (fun _ _ _ h => h) (Or.inl ⟨by rfl, ?qhy10⟩) (by assumption) ?qrest10
          case qhy10 =>
            intro W hSw
            try dsimp only at hSw
            go_simp
            try with_reducible rfl
          try simp only [Act.put, List.getElem_toArray, List.getElem_cons_zero, List.getElem_cons_succ, List.setIfInBounds_toArray, List.set_cons_zero, List.set_cons_succ]
          refine wpAnyH_take (i := 10) (v := ?qv11) rfl (by kernel_rfl) (by kernel_rfl) (by kernel_rfl) (fun _ _ _ h => h) (Or.inl ⟨by rfl, ?qhy11⟩) (by assumption) ?qrest11
          case qhy11 =>
            intro W hSw
            try dsimp only at hSw
            go_simp
            try with_reducible rfl
          try simp only [Act.put, List.getElem_toArray, List.getElem_cons_zero, List.getElem_cons_succ, List.setIfInBounds_toArray, List.set_cons_zero, List.set_cons_succ]
          refine wpAnyH_take (i := 11) (v := ?qv12) rfl (by kernel_rfl) (by kernel_rfl) (by kernel_rfl) (fun _ _ _ h => h) (Or.inl ⟨by rfl, ?qhy12⟩) (by assumption) ?qrest12
          case qhy12 =>
            intro W hSw
            try dsimp only at hSw
            go_simp
            try with_reducible rfl
          try simp only [Act.put, List.getElem_toArray, List.getElem_cons_zero, List.getElem_cons_succ, List.setIfInBounds_toArray, List.set_cons_zero, List.set_cons_succ]
          refine wpAnyH_take (i := 12) (v := ?qv13) rfl (by kernel_rfl) (by kernel_rfl) (by kernel_rfl) (fun _ _ _ h => h) (Or.inl ⟨by rfl, ?qhy13⟩) (by assumption) ?qrest13
          case qhy13 =>
            intro W hSw
            try dsimp only at hSw
            go_simp
            try with_reducible rfl
          try simp only [Act.put, List.getElem_toArray, List.getElem_cons_zero, List.getElem_cons_succ, List.setIfInBounds_toArray, List.set_cons_zero, List.set_cons_succ]
          refine wpAnyH_take (i := 13) (v := ?qv14) rfl (by kernel_rfl) (by kernel_rfl) (by kernel_rfl) (fun _ _ _ h => h) (Or.inl ⟨by rfl, ?qhy14⟩) (by assumption) ?qrest14
          case qhy14 =>
            intro W hSw
            try dsimp only at hSw
            go_simp
            try with_reducible rfl
          try simp only [Act.put, List.getElem_toArray, List.getElem_cons_zero, List.getElem_cons_succ, List.setIfInBounds_toArray, List.set_cons_zero, List.set_cons_succ]
          refine wpAnyH_take (i := 14) (v := ?qv15) rfl (by kernel_rfl) (by kernel_rfl) (by kernel_rfl) (fun _ _ _ h => h) (Or.inl ⟨by rfl, ?qhy15⟩) (by assumption) ?qrest15
          case qhy15 =>
            intro W hSw
            try dsimp only at hSw
            go_simp
            try with_reducible rfl
          try simp only [Act.put, List.getElem_toArray, List.getElem_cons_zero, List.getElem_cons_succ, List.setIfInBounds_toArray, List.set_cons_zero, List.set_cons_succ]
          refine wpAnyH_ready (rs := [15]) (by kernel_rfl) (by simp) ?_
          refine AllReadyH.cons rfl (fun K hK => ?_) AllReadyH.nil
          go_simp
          refine (Q1.out _).mono ?_
          rintro e v1 ⟨rfl, hb1⟩
          have hbw1 := hbw0.trans (hb1.mono hbw0.size)
          go_wp2_with fail
          refine hK.out _ _ ?_ (fun hHeld => ?_)
          · exact HK.out _ hbw1
          clear hK K hb1
          try simp only [Act.put, List.getElem_toArray, List.getElem_cons_zero, List.getElem_cons_succ, List.setIfInBounds_toArray, List.set_cons_zero, List.set_cons_succ]
          refine wpAnyH_take (i := 16) (v := ?qv16) rfl (by kernel_rfl) (by kernel_rfl) (by kernel_rfl) (fun _ _ _ h => h) (Or.inl ⟨by rfl, ?qhy16⟩) (by assumption) ?qrest16
          case qhy16 =>
            intro W hSw
            try dsimp only at hSw
            go_simp
            try with_reducible rfl
          try simp only [Act.put, List.getElem_toArray, List.getElem_cons_zero, List.getElem_cons_succ, List.setIfInBounds_toArray, List.set_cons_zero, List.set_cons_succ]
          refine wpAnyH_done (by kernel_rfl) ?_ _
          refine NoPanic.normal ?_
          have HZ := Lib.hid (box2 hbw1).2.2
          clear hbw0 hbw1
          go_wp2_with fail
          go_ret
          exact ⟨ret_bool HN.out.symm, HZ.out⟩
        | true =>
          have HN := Lib.hid (holdsTo_next HA.out hst)
          clear hst
          go_wp2_with fail
          refine wp_region_noPanic ?_
          refine wp_region_held_drew (S := fun w' => w'.cell? ⟨w.heap.size, 2, none⟩ = some (.slice (some ⟨b, o, none⟩) cs.length cap) ∧ w'.cell? ⟨w.heap.size + 1, 4, none⟩ = some (.slice (some ⟨b', o', none⟩) args.length cap') ∧ w'.cell? ⟨b, o + k * 6, none⟩ = some (.int .i64 (m : Int)) ∧ w'.cell? ⟨b, o + k * 6 + 1, none⟩ = some (.int .i64 xo) ∧ w'.cell? ⟨b, o + k * 6 + 2, none⟩ = some (.int .i64 xmh) ∧ w'.cell? ⟨b, o + k * 6 + 3, none⟩ = some (.int .i64 xml) ∧ w'.cell? ⟨b, o + k * 6 + 4, none⟩ = some (.int .i64 xvh) ∧ w'.cell? ⟨b, o + k * 6 + 5, none⟩ = some (.int .i64 xvl) ∧ w'.cell? ⟨b', o' + m * 2, none⟩ = some (.int .i64 uh) ∧ w'.cell? ⟨b', o' + m * 2 + 1, none⟩ = some (.int .i64 ul)) (by kernel_rfl) ?_ (fun hHeld => ?_)
          · exact HK.out _ hbw0
          refine wpAnyH_take (i := 0) (v := ?qv117) rfl (by kernel_rfl) (by kernel_rfl) (by kernel_rfl) (fun _ _ _ h => h) (Or.inl ⟨by rfl, ?qhy117⟩) (by assumption) ?qrest117
          case qhy117 =>
            intro W hSw
            try dsimp only at hSw
            go_simp
            try with_reducible rfl
          try simp only [Act.put, List.getElem_toArray, List.getElem_cons_zero, List.getElem_cons_succ, List.setIfInBounds_toArray, List.set_cons_zero, List.set_cons_succ]
          refine wpAnyH_take (i := 1) (v := ?qv118) rfl (by kernel_rfl) (by kernel_rfl) (by kernel_rfl) (fun _ _ _ h => h) (Or.inl ⟨by rfl, ?qhy118⟩) (by assumption) ?qrest118
          case qhy118 =>
            intro W hSw
            try dsimp only at hSw
            go_simp
            try with_reducible rfl
          try simp only [Act.put, List.getElem_toArray, List.getElem_cons_zero, List.getElem_cons_succ, List.setIfInBounds_toArray, List.set_cons_zero, List.set_cons_succ]
          refine wpAnyH_take (i := 2) (v := ?qv119) rfl (by kernel_rfl) (by kernel_rfl) (by kernel_rfl) (fun _ _ _ h => h) (Or.inl ⟨by rfl, ?qhy119⟩) (by assumption) ?qrest119
          case qhy119 =>
            intro W hSw
            try dsimp only at hSw
            go_simp
            try with_reducible rfl
          try simp only [Act.put, List.getElem_toArray, List.getElem_cons_zero, List.getElem_cons_succ, List.setIfInBounds_toArray, List.set_cons_zero, List.set_cons_succ]
          refine wpAnyH_take (i := 3) (v := ?qv120) rfl (by kernel_rfl) (by kernel_rfl) (by kernel_rfl) (fun _ _ _ h => h) (Or.inl ⟨by rfl, ?qhy120⟩) (by assumption) ?qrest120
          case qhy120 =>
            intro W hSw
            try dsimp only at hSw
            go_simp
            try with_reducible rfl
          try simp only [Act.put, List.getElem_toArray, List.getElem_cons_zero, List.getElem_cons_succ, List.setIfInBounds_toArray, List.set_cons_zero, List.set_cons_succ]
          refine wpAnyH_take (i := 4) (v := ?qv121) rfl (by kernel_rfl) (by kernel_rfl) (by kernel_rfl) (fun _ _ _ h => h) (Or.inl ⟨by rfl, ?qhy121⟩) (by assumption) ?qrest121
          case qhy121 =>
            intro W hSw
            try dsimp only at hSw
            go_simp
            try with_reducible rfl
          try simp only [Act.put, List.getElem_toArray, List.getElem_cons_zero, List.getElem_cons_succ, List.setIfInBounds_toArray, List.set_cons_zero, List.set_cons_succ]
          refine wpAnyH_take (i := 5) (v := ?qv122) rfl (by kernel_rfl) (by kernel_rfl) (by kernel_rfl) (fun _ _ _ h => h) (Or.inl ⟨by rfl, ?qhy122⟩) (by assumption) ?qrest122
          case qhy122 =>
            intro W hSw
            try dsimp only at hSw
            go_simp
            try with_reducible rfl
          try simp only [Act.put, List.getElem_toArray, List.getElem_cons_zero, List.getElem_cons_succ, List.setIfInBounds_toArray, List.set_cons_zero, List.set_cons_succ]
          refine wpAnyH_take (i := 6) (v := ?qv123) rfl (by kernel_rfl) (by kernel_rfl) (by kernel_rfl) (fun _ _ _ h => h) (Or.inl ⟨by rfl, ?qhy123⟩) (by assumption) ?qrest123
          case qhy123 =>
            intro W hSw
            try dsimp only at hSw
            go_simp
            try with_reducible rfl
          try simp only [Act.put, List.getElem_toArray, List.getElem_cons_zero, List.getElem_cons_succ, List.setIfInBounds_toArray, List.set_cons_zero, List.set_cons_succ]
          refine wpAnyH_take (i := 7) (v := ?qv124) rfl (by kernel_rfl) (by kernel_rfl) (by kernel_rfl) (fun _ _ _ h => h) (Or.inl ⟨by rfl, ?qhy124⟩) (by assumption) ?qrest124
          case qhy124 =>
            intro W hSw
            try dsimp only at hSw
            go_simp
            try with_reducible rfl
          try simp only [Act.put, List.getElem_toArray, List.getElem_cons_zero, List.getElem_cons_succ, List.setIfInBounds_toArray, List.set_cons_zero, List.set_cons_succ]
          refine wpAnyH_take (i := 8) (v := ?qv125) rfl (by kernel_rfl) (by kernel_rfl) (by kernel_rfl) (fun _ _ _ h => h) (Or.inl ⟨by rfl, ?qhy125⟩) (by assumption) ?qrest125
          case qhy125 =>
            intro W hSw
            try dsimp only at hSw
            go_simp
            try with_reducible rfl
          try simp only [Act.put, List.getElem_toArray, List.getElem_cons_zero, List.getElem_cons_succ, List.setIfInBounds_toArray, List.set_cons_zero, List.set_cons_succ]
          refine wpAnyH_take (i := 9) (v := ?qv126) rfl (by kernel_rfl) (by kernel_rfl) (by kernel_rfl) (fun _ _ _ h => h) (Or.inl ⟨by rfl, ?qhy126⟩) (by assumption) ?qrest126
          case qhy126 =>
            intro W hSw
            try dsimp only at hSw
            go_simp
            try with_reducible rfl
          try simp only [Act.put, List.getElem_toArray, List.getElem_cons_zero, List.getElem_cons_succ, List.setIfInBounds_toArray, List.set_cons_zero, List.set_cons_succ]
          refine wpAnyH_take (i := 10) (v := ?qv127) rfl (by kernel_rfl) (by kernel_rfl) (by kernel_rfl) (fun _ _ _ h => h) (Or.inl ⟨by rfl, ?qhy127⟩) (by assumption) ?qrest127
          case qhy127 =>
            intro W hSw
            try dsimp only at hSw
            go_simp
            try with_reducible rfl
          try simp only [Act.put, List.getElem_toArray, List.getElem_cons_zero, List.getElem_cons_succ, List.setIfInBounds_toArray, List.set_cons_zero, List.set_cons_succ]
          refine wpAnyH_take (i := 11) (v := ?qv128) rfl (by kernel_rfl) (by kernel_rfl) (by kernel_rfl) (fun _ _ _ h => h) (Or.inl ⟨by rfl, ?qhy128⟩) (by assumption) ?qrest128
          case qhy128 =>
            intro W hSw
            try dsimp only at hSw
            go_simp
            try with_reducible rfl
          try simp only [Act.put, List.getElem_toArray, List.getElem_cons_zero, List.getElem_cons_succ, List.setIfInBounds_toArray, List.set_cons_zero, List.set_cons_succ]
          refine wpAnyH_take (i := 12) (v := ?qv129) rfl (by kernel_rfl) (by kernel_rfl) (by kernel_rfl) (fun _ _ _ h => h) (Or.inl ⟨by rfl, ?qhy129⟩) (by assumption) ?qrest129
          case qhy129 =>
            intro W hSw
            try dsimp only at hSw
            go_simp
            try with_reducible rfl
          try simp only [Act.put, List.getElem_toArray, List.getElem_cons_zero, List.getElem_cons_succ, List.setIfInBounds_toArray, List.set_cons_zero, List.set_cons_succ]
          refine wpAnyH_take (i := 13) (v := ?qv130) rfl (by kernel_rfl) (by kernel_rfl) (by kernel_rfl) (fun _ _ _ h => h) (Or.inl ⟨by rfl, ?qhy130⟩) (by assumption) ?qrest130
          case qhy130 =>
            intro W hSw
            try dsimp only at hSw
            go_simp
            try with_reducible rfl
          try simp only [Act.put, List.getElem_toArray, List.getElem_cons_zero, List.getElem_cons_succ, List.setIfInBounds_toArray, List.set_cons_zero, List.set_cons_succ]
          refine wpAnyH_take (i := 14) (v := ?qv131) rfl (by kernel_rfl) (by kernel_rfl) (by kernel_rfl) (fun _ _ _ h => h) (Or.inl ⟨by rfl, ?qhy131⟩) (by assumption) ?qrest131
          case qhy131 =>
            intro W hSw
            try dsimp only at hSw
            go_simp
            try with_reducible rfl
          try simp only [Act.put, List.getElem_toArray, List.getElem_cons_zero, List.getElem_cons_succ, List.setIfInBounds_toArray, List.set_cons_zero, List.set_cons_succ]
          refine wpAnyH_ready (rs := [15]) (by kernel_rfl) (by simp) ?_
          refine AllReadyH.cons rfl (fun K hK => ?_) AllReadyH.nil
          go_simp
          refine (Q1.out _).mono ?_
          rintro e v1 ⟨rfl, hb1⟩
          have hbw1 := hbw0.trans (hb1.mono hbw0.size)
          go_wp2_with fail
          refine hK.out _ _ ?_ (fun hHeld => ?_)
          · exact HK.out _ hbw1
          clear hK K hb1
          try simp only [Act.put, List.getElem_toArray, List.getElem_cons_zero, List.getElem_cons_succ, List.setIfInBounds_toArray, List.set_cons_zero, List.set_cons_succ]
          refine wpAnyH_take (i := 16) (v := ?qv132) rfl (by kernel_rfl) (by kernel_rfl) (by kernel_rfl) (fun _ _ _ h => h) (Or.inl ⟨by rfl, ?qhy132⟩) (by assumption) ?qrest132
          case qhy132 =>
            intro W hSw
            try dsimp only at hSw
            go_simp
            try with_reducible rfl
          try simp only [Act.put, List.getElem_toArray, List.getElem_cons_zero, List.getElem_cons_succ, List.setIfInBounds_toArray, List.set_cons_zero, List.set_cons_succ]
          refine wpAnyH_done (by kernel_rfl) ?_ _
          refine NoPanic.normal ?_
          have HZ := Lib.hid hbw1
          clear hbw0 hbw1
          go_wp2_with fail
          go_roundw
          case rel => exact ⟨k + 1, by omega, by go_num, HN.out, HZ.out⟩
          case measure => simp [intOf]; omega
      · have HN := Lib.hid (show rlHolds0 ⟨nr, ac, cs⟩ ⟨zn, za, ⟨zh, zl⟩, args⟩ = true by
          have h := HA.out
          rw [HR.out]
          rwa [show k = cs.length by omega] at h)
        clear hbw
        go_wp2_with fail
        go_ret
        exact ⟨ret_bool HN.out.symm, HX.out⟩
  · have HR := Lib.hid (show rlHolds0 ⟨nr, ac, cs⟩ ⟨zn, za, ⟨zh, zl⟩, args⟩ = false by rw [hd, decide_eq_false hn]; rfl)
    have hnn := ne_int hn
    clear hd hv hu hr h6 hn
    go_enter Try.func81, Try.ntmps81
    go_wp2_with fail
    go_ret
    exact ⟨ret_bool HR.out.symm, ((Below.refl _ _).alloc (Nat.le_refl _) _).alloc (by simp) _⟩

set_option maxHeartbeats 1600000 in
theorem specRuleHolds_any (nr ac : Int) (cs : List Cq) (zn za zh zl : Int) (args : List Wd) (v u : Value) (w : World) (hv : CqAt w w.heap.size v cs) (hu : WdAt w w.heap.size u args) :
    Calls Try.prog 32 #[.agg #[.int .i64 nr, .int .i64 ac, v], .agg #[.int .i64 zn, .int .i64 za, .int .i64 zh, .int .i64 zl, u]] w fun e w' =>
      e = .returned (.bool (rlHolds ⟨nr, ac, cs⟩ ⟨zn, za, ⟨zh, zl⟩, args⟩)) ∧ Below w.heap.size w w' := by
  have hd : rlHolds ⟨nr, ac, cs⟩ ⟨zn, za, ⟨zh, zl⟩, args⟩ = (rlRight ⟨nr, ac, cs⟩ && rcRight ⟨zn, za, ⟨zh, zl⟩, args⟩ && rlHolds0 ⟨nr, ac, cs⟩ ⟨zn, za, ⟨zh, zl⟩, args⟩) := rfl
  have q1 := fun W (h : Below w.heap.size w W) => specRuleRight_any nr ac cs _ W (LAt.up (LAt.below hv h) h.size)
  have q2 := fun W (h : Below w.heap.size w W) => specRecordRight_any ⟨zn, za, ⟨zh, zl⟩, args⟩ _ W (LAt.up (LAt.below hu h) h.size)
  cases h1 : rlRight ⟨nr, ac, cs⟩ <;> rw [h1] at q1
  · have HR := Lib.hid (show rlHolds ⟨nr, ac, cs⟩ ⟨zn, za, ⟨zh, zl⟩, args⟩ = false by rw [hd, h1]; rfl)
    have Q1 := Lib.hid q1
    have HB0 := Lib.hid (show ∀ o o' : Obj, Below w.heap.size w ((w.alloc o).alloc o') from fun o o' => ((Below.refl _ _).alloc (Nat.le_refl _) _).alloc (by simp) _)
    clear hd q1 q2 h1 hv hu
    go_enter Try.func32, Try.ntmps32
    go_wp2_with fail
    refine (Q1.out _ (HB0.out _ _)).mono ?_
    rintro e w1 ⟨rfl, hb1⟩
    have HB := Lib.hid (box2 hb1).2.2
    clear hb1
    go_wp2_with fail
    go_ret
    exact ⟨ret_bool HR.out.symm, HB.out⟩
  cases h2 : rcRight ⟨zn, za, ⟨zh, zl⟩, args⟩ <;> rw [h2] at q2
  · have HR := Lib.hid (show rlHolds ⟨nr, ac, cs⟩ ⟨zn, za, ⟨zh, zl⟩, args⟩ = false by rw [hd, h1, h2]; rfl)
    have Q1 := Lib.hid q1
    have Q2 := Lib.hid q2
    have HB0 := Lib.hid (show ∀ o o' : Obj, Below w.heap.size w ((w.alloc o).alloc o') from fun o o' => ((Below.refl _ _).alloc (Nat.le_refl _) _).alloc (by simp) _)
    clear hd q1 q2 h1 h2 hv hu
    go_enter Try.func32, Try.ntmps32
    go_wp2_with fail
    refine (Q1.out _ (HB0.out _ _)).mono ?_
    rintro e w1 ⟨rfl, hb1⟩
    have hb2 := box2 hb1
    have d0 := hb2.2.1 0
    have d1 := hb2.2.1 1
    have d2 := hb2.2.1 2
    have d3 := hb2.2.1 3
    have d4 := hb2.2.1 4
    simp only [List.getElem?_toArray, List.getElem?_cons_zero, List.getElem?_cons_succ] at d0 d1 d2 d3 d4
    have HB := Lib.hid hb2.2.2
    clear hb1 hb2
    go_wp2_with fail
    refine (Q2.out _ HB.out).mono ?_
    rintro e w2 ⟨rfl, hb3⟩
    have HC := Lib.hid (HB.out.trans (hb3.mono HB.out.size))
    clear hb3 d0 d1 d2 d3 d4
    go_wp2_with fail
    go_ret
    exact ⟨ret_bool HR.out.symm, HC.out⟩
  have HR := Lib.hid (show rlHolds ⟨nr, ac, cs⟩ ⟨zn, za, ⟨zh, zl⟩, args⟩ = rlHolds0 ⟨nr, ac, cs⟩ ⟨zn, za, ⟨zh, zl⟩, args⟩ by rw [hd, h1, h2]; rfl)
  have q3 := fun W (h : Below w.heap.size w W) => l06Rule_any nr ac cs zn za zh zl args _ _ W (LAt.up (LAt.below hv h) h.size) (LAt.up (LAt.below hu h) h.size) (rlRight_cs h1).2 (rcRight_args h2).1
  have Q1 := Lib.hid q1
  have Q2 := Lib.hid q2
  have Q3 := Lib.hid q3
  have HB0 := Lib.hid (show ∀ o o' : Obj, Below w.heap.size w ((w.alloc o).alloc o') from fun o o' => ((Below.refl _ _).alloc (Nat.le_refl _) _).alloc (by simp) _)
  clear hd q1 q2 q3 h1 h2 hv hu
  go_enter Try.func32, Try.ntmps32
  go_wp2_with fail
  refine (Q1.out _ (HB0.out _ _)).mono ?_
  rintro e w1 ⟨rfl, hb1⟩
  have hb2 := box2 hb1
  have d0 := hb2.2.1 0
  have d1 := hb2.2.1 1
  have d2 := hb2.2.1 2
  have d3 := hb2.2.1 3
  have d4 := hb2.2.1 4
  simp only [List.getElem?_toArray, List.getElem?_cons_zero, List.getElem?_cons_succ] at d0 d1 d2 d3 d4
  have HB := Lib.hid hb2.2.2
  have HB1 := Lib.hid hb1
  clear hb1 hb2
  go_wp2_with fail
  refine (Q2.out _ HB.out).mono ?_
  rintro e w2 ⟨rfl, hb3⟩
  have hb4 := HB1.out.trans (hb3.mono HB1.out.size)
  have HC := Lib.hid (box2 hb4).2.2
  clear hb3 d0 d1 d2 d3 d4
  have hb2 := box2 hb4
  have c0 := hb2.1 0
  have c1 := hb2.1 1
  have c2 := hb2.1 2
  have d0 := hb2.2.1 0
  have d1 := hb2.2.1 1
  have d2 := hb2.2.1 2
  have d3 := hb2.2.1 3
  have d4 := hb2.2.1 4
  simp only [List.getElem?_toArray, List.getElem?_cons_zero, List.getElem?_cons_succ] at c0 c1 c2 d0 d1 d2 d3 d4
  clear hb4 hb2
  go_wp2_with fail
  refine (Q3.out _ HC.out).mono ?_
  rintro e w3 ⟨rfl, hb5⟩
  have HD := Lib.hid (HC.out.trans (hb5.mono HC.out.size))
  clear hb5 c0 c1 c2 d0 d1 d2 d3 d4
  go_wp2_with fail
  go_ret
  exact ⟨ret_bool HR.out.symm, HD.out⟩

end Go.Proofs.Ytmnmaijifhojiaa

/- Rules: RuleRight of the program walked. -/
import Derived.Test.YtmnmaijifhojiaaJg
set_option maxRecDepth 100000
set_option linter.unusedVariables false
set_option linter.unusedSimpArgs false
namespace Go.Proofs.Ytmnmaijifhojiaa
open Go.RowKit
attribute [local go_sem ↓] Go.wp_at_zero Go.wp_at_succ

def aheadI (l : List Cq) (k : Nat) : Int := if k = 0 then -1 else (cqAt l (k - 1)).a
theorem aheadI_succ {l : List Cq} {k : Nat} {x : Cq} (h : cqAt l k = x) : aheadI l (k + 1) = x.a := by unfold aheadI; rw [if_neg (by omega), Nat.add_sub_cancel, h]
theorem cqRight_arg {x : Cq} (h : cqRight x = true) : 0 ≤ x.a ∧ x.a ≤ 5 := by
  unfold cqRight isB at h
  simp only [Bool.and_eq_true, decide_eq_true_eq] at h
  exact h.1.1.1.1
theorem step_ahead {l : List Cq} {k : Nat} {x : Cq} (h : cqAt l k = x) (hx : cqRight x = true) : stepOk l k = decide (aheadI l k < x.a) := by
  have hb := cqRight_arg hx
  unfold stepOk aheadI
  rw [h, hx]
  by_cases hk : k = 0
  · subst hk
    rw [if_pos rfl]
    have : (-1 : Int) < x.a := by omega
    simp [this]
  · rw [if_neg hk]
    simp [hk]

set_option maxHeartbeats 3200000 in
theorem implRuleRight_any (nr ac : Int) (cs : List Cq) (v : Value) (w : World) (hv : CqAt w w.heap.size v cs) :
    Calls Try.prog 35 #[.agg #[.int .i64 nr, .int .i64 ac, v]] w fun e w' => e = .returned (.bool (rlRight ⟨nr, ac, cs⟩)) ∧ Below w.heap.size w w' := by
  obtain ⟨a, cap, rfl, hlc, hcm⟩ := hv.len
  unfold maxLen at hcm
  have hr : rlRight ⟨nr, ac, cs⟩ = (isB nr 0 4294967295 && isB ac 0 4294967295 && decide (cs.length ≤ 3) && cqsOk cs) := rfl
  cases h0 : isB nr 0 4294967295
  · have HR := Lib.hid (show rlRight ⟨nr, ac, cs⟩ = false by rw [hr, h0]; simp)
    clear hr hv
    go_enter Try.func35, Try.ntmps35
    go_wp2_with (go_at_call 77; refine (within_any _ _ _).mono ?_; rintro e w' ⟨rfl, rfl⟩)
    go_ret
    exact ⟨ret_bool HR.out.symm, (Below.refl _ _).alloc (Nat.le_refl _) _⟩
  cases h1 : isB ac 0 4294967295
  · have HR := Lib.hid (show rlRight ⟨nr, ac, cs⟩ = false by rw [hr, h1]; simp)
    clear hr hv
    go_enter Try.func35, Try.ntmps35
    go_wp2_with (go_at_call 77; refine (within_any _ _ _).mono ?_; rintro e w' ⟨rfl, rfl⟩)
    go_ret
    exact ⟨ret_bool HR.out.symm, (Below.refl _ _).alloc (Nat.le_refl _) _⟩
  have HV := Lib.hid hv
  clear hv
  by_cases h3 : cs.length ≤ 3
  · have HR := Lib.hid (show rlRight ⟨nr, ac, cs⟩ = cqsOk cs by rw [hr, h0, h1, decide_eq_true h3]; simp)
    have H3 := Lib.hid h3
    clear hr
    go_enter Try.func35, Try.ntmps35
    go_wp2_with (go_at_call 77; refine (within_any _ _ _).mono ?_; rintro e w' ⟨rfl, rfl⟩)
    go_loopw [3, 25] (fun q i wr => ∃ k : Nat, k ≤ cs.length ∧ i = .int .i64 k ∧ q = .int .i64 (aheadI cs k) ∧ (List.range k).all (stepOk cs) = true ∧ Below w.heap.size w wr) (fun _ i _ => cs.length - (intOf i).toNat)
    case atStart => exact ⟨0, by omega, rfl, rfl, by simp, (Below.refl _ _).alloc (Nat.le_refl _) _⟩
    case round =>
      obtain ⟨k, hk, rfl, rfl, hall, hbw⟩ := hrel
      have HA := Lib.hid hall
      clear hall
      by_cases hlt : k < cs.length
      · have hx := cqAt_eq hlt
        obtain ⟨b, o, e, hb, d0, d1, d2, d3, d4, d5, hwf⟩ := CqAt.place (LAt.below HV.out hbw) (List.getElem?_eq_getElem hlt)
        subst e
        rw [← hx] at d0 d1 d2 d3 d4 d5
        clear hx hwf
        generalize hxx : cqAt cs k = x at d0 d1 d2 d3 d4 d5
        obtain ⟨xa, xo, xmh, xml, xvh, xvl⟩ := x
        simp only at d0 d1 d2 d3 d4 d5
        have q1 := fun W => implCmpRight_any xa xo xmh xml xvh xvl W
        have hsz := hbw.size
        have hBx : ∀ o' : Obj, Below w.heap.size w (wr.alloc o') := fun o' => hbw.alloc hsz o'
        have HBX := Lib.hid hBx
        clear hBx hbw
        have HS := Lib.hid (aheadI_succ hxx)
        cases hc : cqRight ⟨xa, xo, xmh, xml, xvh, xvl⟩ with
        | false =>
          have HN := Lib.hid (HR.out.trans (okTo_bad hlt (step_false hxx hc)))
          rw [hc] at q1
          have Q1 := Lib.hid q1
          clear q1 hc hxx
          go_wp2_with fail
          refine (Q1.out _).mono ?_
          rintro e w2 ⟨rfl, hb2⟩
          have HZ := Lib.hid ((HBX.out _).trans (hb2.mono (HBX.out _).size))
          clear hb2
          go_wp2_with fail
          go_ret
          exact ⟨ret_bool HN.out.symm, HZ.out⟩
        | true =>
          rw [hc] at q1
          have Q1 := Lib.hid q1
          have hst := step_ahead hxx hc
          obtain ⟨ya, hya⟩ : ∃ ya, aheadI cs k = ya := ⟨_, rfl⟩
          rw [hya] at hst ⊢
          clear q1 hc hxx hya
          by_cases hle : xa ≤ ya
          · have HN := Lib.hid (HR.out.trans (okTo_bad hlt (hst.trans (decide_eq_false (by show ¬ ya < xa; omega)))))
            clear hst
            go_wp2_with fail
            refine (Q1.out _).mono ?_
            rintro e w2 ⟨rfl, hb2⟩
            have e0 := box_cell hb2 0
            simp only [List.getElem?_toArray, List.getElem?_cons_zero, List.getElem?_cons_succ] at e0
            have HZ := Lib.hid ((HBX.out _).trans (hb2.mono (HBX.out _).size))
            clear hb2
            go_wp2_with fail
            go_ret
            exact ⟨ret_bool HN.out.symm, HZ.out⟩
          · have HN := Lib.hid (okTo_next HA.out (hst.trans (decide_eq_true (by show ya < xa; omega))))
            have hle' : decide (xa ≤ ya) = false := by simpa using hle
            clear hst hle
            go_wp2_with fail
            refine (Q1.out _).mono ?_
            rintro e w2 ⟨rfl, hb2⟩
            have e0 := box_cell hb2 0
            simp only [List.getElem?_toArray, List.getElem?_cons_zero, List.getElem?_cons_succ] at e0
            have HZ := Lib.hid ((HBX.out _).trans (hb2.mono (HBX.out _).size))
            clear hb2
            go_wp2_with fail
            go_roundw
            case rel => exact ⟨k + 1, by omega, by go_num, by rw [HS.out], HN.out, HZ.out⟩
            case measure => simp [intOf]; omega
      · have HN := Lib.hid (show rlRight ⟨nr, ac, cs⟩ = true by
          have h := HA.out
          rw [HR.out]
          unfold cqsOk
          rwa [show k = cs.length by omega] at h)
        go_wp2_with fail
        go_ret
        exact ⟨ret_bool HN.out.symm, hbw⟩
  · have HR := Lib.hid (show rlRight ⟨nr, ac, cs⟩ = false by rw [hr, decide_eq_false h3]; simp)
    clear hr
    go_enter Try.func35, Try.ntmps35
    go_wp2_with (go_at_call 77; refine (within_any _ _ _).mono ?_; rintro e w' ⟨rfl, rfl⟩)
    go_ret
    exact ⟨ret_bool HR.out.symm, (Below.refl _ _).alloc (Nat.le_refl _) _⟩

end Go.Proofs.Ytmnmaijifhojiaa

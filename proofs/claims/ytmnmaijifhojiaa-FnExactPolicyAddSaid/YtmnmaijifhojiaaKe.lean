/- The laws' own marks on rules, policies and policies out: held and marked. -/
import Derived.Test.YtmnmaijifhojiaaKd
import Derived.Test.YtmnmaijifhojiaaJw
set_option maxRecDepth 100000
set_option linter.unusedVariables false
set_option linter.unusedSimpArgs false
namespace Go.Proofs.Ytmnmaijifhojiaa
open Go.RowKit Go.ChangeShapes Go.WideShapes
attribute [local go_sem ↓] Go.wp_at_zero Go.wp_at_succ

set_option maxHeartbeats 1600000 in
theorem heldRuleS_any (v : Value) (l : List Rv) (rs : List Rl) (k : Int) (w : World) (h : RvAt w w.heap.size v l) (hr : rls l = mkRs k rs) (hk0 : 0 ≤ k) (hk1 : mkEnd k rs ≤ 1000000000) :
    Calls Try.prog 112 #[v, .int .i64 k] w fun e w' => e = .returned (.int .i64 (mkEnd k rs)) ∧ w = w' := by
  obtain ⟨a, cap, rfl, hlc, hcm⟩ := h.len
  unfold maxLen at hcm
  have hll : l.length = rs.length := by have := congrArg List.length hr; rw [mkRs_length] at this; simpa [rls] using this
  have HH := Lib.hid h
  have HR := Lib.hid hr
  have HM := Lib.hid hk1
  have HL := Lib.hid hll
  clear h hr hk1 hll
  go_enter Try.func112, Try.ntmps112
  go_wp2
  go_loop [1, 5] (fun q i => ∃ j : Nat, j ≤ l.length ∧ i = .int .i64 j ∧ q = .int .i64 (mkEnd k (rs.take j))) (fun _ i => l.length - (intOf i).toNat)
  case atStart => exact ⟨0, by omega, rfl, rfl⟩
  case round =>
    obtain ⟨j, hj, rfl, rfl⟩ := hrel
    by_cases hlt : j < l.length
    · obtain ⟨x, hx⟩ : ∃ x, l[j]? = some x := ⟨_, List.getElem?_eq_getElem hlt⟩
      have hlt2 : j < rs.length := by have := HL.out; omega
      obtain ⟨r, hrr⟩ : ∃ r, rs[j]? = some r := ⟨_, List.getElem?_eq_getElem hlt2⟩
      have hxr : x.r = mkR (mkEnd k (rs.take j)) r := by
        have h1 : (rls l)[j]? = some x.r := by simp [rls, hx]
        rw [HR.out, mkRs_get hrr k] at h1
        exact (Option.some.inj h1).symm
      obtain ⟨m0, m1, m2, m3⟩ := mkEnd_at hrr k
      have hmM := HM.out
      have HN := Lib.hid m0
      obtain ⟨b, o, e, hb, c0, c1, c2, hwf, hcq⟩ := RvAt.place HH.out hx
      subst e
      rw [hxr] at c0 c1 hcq
      generalize mkEnd k (rs.take j) = kj at *
      rw [m0] at m1
      obtain ⟨xr, xv⟩ := x
      obtain ⟨xa, xcap, exv, _, _⟩ := hcq.len
      dsimp only [mkR] at c0 c1 c2 hcq exv
      rw [markCqL_length] at exv
      subst exv
      have hcall := heldCmpS_any _ r.cs.length (kj + 1 + 1) w hcq (by omega) (by omega) (by omega)
      have HC := Lib.hid hcall
      have q0 : (kj != kj) = false := by simp
      have q1 : ((kj + 1) != (kj + 1)) = false := by simp
      have q2 : decide (kj + 1 + 1 + 6 * (r.cs.length : Int) < 0) = false := by simp; omega
      clear hcall hcq m0 m3 hxr hx hrr hwf hlt2
      go_wp2_with fail
      refine HC.out.mono ?_
      rintro e w2 ⟨rfl, rfl⟩
      go_wp2_with fail
      go_round
      case rel => exact ⟨j + 1, by omega, by go_num, congrArg _ HN.out.symm⟩
      case measure => simp [intOf]; omega
    · have hjl : j = rs.length := by have := HL.out; omega
      have hr := Lib.hid (show mkEnd k (rs.take j) = mkEnd k rs by rw [hjl, List.take_length])
      clear hjl
      generalize mkEnd k (rs.take j) = kj at *
      go_wp2_with fail
      go_ret
      exact ⟨ret_int hr.out, rfl⟩

theorem markPolicy_any (base : Nat) (ar df bd : Int) (v : Value) (l : List Rv) (k : Int) (w : World) (h : OwnRv base w v l) (hn : l.length ≤ 1048576) (hk0 : 0 ≤ k) (hk1 : mkEnd k (rls l) ≤ 1000000000) :
    Calls Try.prog 53 #[polV ar df bd v, .int .i64 k] w fun e w' => ∃ l', e = .returned (.int .i64 (mkEnd k (rls l))) ∧ rls l' = mkRs k (rls l) ∧ OwnRv base w' v l' ∧ OnlyIn (RvBlk v l) w w' := by
  obtain ⟨a, cap, rfl⟩ := h.slice
  have Q := Lib.hid fun o => markRuleS_any base _ l k (w.alloc o) (h.below ((Below.refl _ _).alloc (Nat.le_refl _) o)) hn hk0 hk1
  clear h
  go_enter Try.func53, Try.ntmps53
  go_wp2_with fail
  refine (Q.out _).mono ?_
  rintro e w1 ⟨l', rfl, hr, ho1, hg1⟩
  have HR := Lib.hid hr
  have HO := Lib.hid ho1
  have HG := Lib.hid hg1.alloc
  clear ho1 hg1 hr
  go_wp2_with fail
  go_ret
  exact ⟨l', rfl, HR.out, HO.out, HG.out⟩
theorem heldPolicy_any (ar df bd : Int) (v : Value) (l : List Rv) (rs : List Rl) (k : Int) (w : World) (h : RvAt w w.heap.size v l) (hr : rls l = mkRs k rs) (hk0 : 0 ≤ k) (hk1 : mkEnd k rs ≤ 1000000000) :
    Calls Try.prog 96 #[polV ar df bd v, .int .i64 k] w fun e w' => e = .returned (.int .i64 (mkEnd k rs)) ∧ Below w.heap.size w w' := by
  obtain ⟨a, cap, rfl, _, _⟩ := h.len
  have hb0 : ∀ o, Below w.heap.size w (w.alloc o) := fun o => (Below.refl _ _).alloc (Nat.le_refl _) _
  have Q := Lib.hid fun o => heldRuleS_any _ l rs k (w.alloc o) ((h.below (hb0 o)).up (hb0 o).size) hr hk0 hk1
  have HB := Lib.hid hb0
  have hge := mkEnd_ge rs k
  generalize mkEnd k rs = m at *
  have q2 : decide (m < 0) = false := by simp; omega
  clear h hb0 hr
  go_enter Try.func96, Try.ntmps96
  go_wp2_with fail
  refine (Q.out _).mono ?_
  rintro e w1 ⟨rfl, rfl⟩
  go_wp2_with fail
  go_ret
  exact ⟨rfl, HB.out _⟩
theorem markRule_any (base : Nat) (nr ac : Int) (v : Value) (l : List Cq) (k : Int) (w : World) (h : CqOwn base w v l) (hn : l.length ≤ 1000000000) (hk0 : 0 ≤ k) (hk1 : k ≤ 1000000000) :
    Calls Try.prog 54 #[.agg #[.int .i64 nr, .int .i64 ac, v], .int .i64 k] w fun e w' => e = .returned (.int .i64 (k + 6 * l.length)) ∧ CqOwn base w' v (markCqL k l.length) ∧ w.grownBy w' v.ownBlock := by
  obtain ⟨a, cap, rfl⟩ := OwnL.slice h
  have Q := Lib.hid fun o => markCmpS_any base _ l k (w.alloc o) (OwnL.alloc h o) hn hk0 hk1
  clear h
  go_enter Try.func54, Try.ntmps54
  go_wp2_with fail
  refine (Q.out _).mono ?_
  rintro e w1 ⟨rfl, ho1, hg1⟩
  have HO := Lib.hid ho1
  have HG := Lib.hid (grown_alloc hg1)
  clear ho1 hg1
  go_wp2_with fail
  go_ret
  exact ⟨rfl, HO.out, HG.out⟩
/-- A policy out. -/
abbrev outV (ar df bd : Int) (v : Value) (c : Int) : Value := .agg #[.int .i64 ar, .int .i64 df, .int .i64 bd, v, .int .i64 c]
theorem markPolicyOut_any (base : Nat) (ar df bd c : Int) (v : Value) (l : List Rv) (k : Int) (w : World) (h : OwnRv base w v l) (hn : l.length ≤ 1048576) (hk0 : 0 ≤ k) (hk1 : mkEnd k (rls l) ≤ 1000000000) :
    Calls Try.prog 55 #[outV ar df bd v c, .int .i64 k] w fun e w' => ∃ l', e = .returned (.int .i64 (mkEnd k (rls l))) ∧ rls l' = mkRs k (rls l) ∧ OwnRv base w' v l' ∧ OnlyIn (RvBlk v l) w w' := by
  obtain ⟨a, cap, rfl⟩ := h.slice
  have Q := Lib.hid fun o => markPolicy_any base ar df bd _ l k (w.alloc o) (h.below ((Below.refl _ _).alloc (Nat.le_refl _) o)) hn hk0 hk1
  clear h
  go_enter Try.func55, Try.ntmps55
  go_wp2_with fail
  refine (Q.out _).mono ?_
  rintro e w1 ⟨l', rfl, hr, ho1, hg1⟩
  have HR := Lib.hid hr
  have HO := Lib.hid ho1
  have HG := Lib.hid hg1.alloc
  clear ho1 hg1 hr
  go_wp2_with fail
  go_ret
  exact ⟨l', rfl, HR.out, HO.out, HG.out⟩
theorem heldPolicyOut_any (ar df bd c : Int) (v : Value) (l : List Rv) (rs : List Rl) (k : Int) (w : World) (h : RvAt w w.heap.size v l) (hr : rls l = mkRs k rs) (hk0 : 0 ≤ k) (hk1 : mkEnd k rs ≤ 1000000000) :
    Calls Try.prog 56 #[outV ar df bd v c, .int .i64 k] w fun e w' => e = .returned (.int .i64 (mkEnd k rs)) ∧ Below w.heap.size w w' := by
  obtain ⟨a, cap, rfl, _, _⟩ := h.len
  have hb0 : ∀ o, Below w.heap.size w (w.alloc o) := fun o => (Below.refl _ _).alloc (Nat.le_refl _) _
  have Q := Lib.hid fun o => heldPolicy_any ar df bd _ l rs k (w.alloc o) ((h.below (hb0 o)).up (hb0 o).size) hr hk0 hk1
  have HB := Lib.hid hb0
  have hge := mkEnd_ge rs k
  generalize mkEnd k rs = m at *
  have q2 : decide (m < 0) = false := by simp; omega
  clear h hb0 hr
  go_enter Try.func56, Try.ntmps56
  go_wp2_with fail
  refine (Q.out _).mono ?_
  rintro e w1 ⟨rfl, hb1⟩
  have HB1 := Lib.hid ((HB.out _).trans (hb1.mono (HB.out _).size))
  clear hb1
  go_wp2_with fail
  go_ret
  exact ⟨rfl, HB1.out⟩
theorem eqPolicyOut_same (ar df bd c : Int) (l l' : List Rv) (v1 v2 : Value) (w : World) (h1 : RvAt w w.heap.size v1 l) (h2 : RvAt w w.heap.size v2 l') (he : rls l = rls l') :
    Calls Try.prog 52 #[outV ar df bd v1 c, outV ar df bd v2 c] w fun e w' => e = .returned (.bool true) ∧ Below w.heap.size w w' := by
  obtain ⟨a1, cap1, rfl, hc1, hm1⟩ := h1.len
  obtain ⟨a2, cap2, rfl, hc2, hm2⟩ := h2.len
  have HB0 := Lib.hid (show ∀ o o' : Obj, Below w.heap.size w ((w.alloc o).alloc o') from fun o o' => ((Below.refl _ _).alloc (Nat.le_refl _) _).alloc (by simp) _)
  have q2 := fun W (h : Below w.heap.size w W) => eqPolicy_any ar df bd ar df bd l l' _ _ W (RvAt.up (RvAt.below h1 h) h.size) (RvAt.up (RvAt.below h2 h) h.size)
  rw [he] at q2
  simp only [decide_true] at q2
  have Q2 := Lib.hid q2
  have n0 : (c != c) = false := by simp
  clear q2 h1 h2 he
  go_enter Try.func52, Try.ntmps52
  go_wp2_with fail
  refine (Q2.out _ (HB0.out _ _)).mono ?_
  rintro e w1 ⟨rfl, hb1⟩
  obtain ⟨r0, r1, hB, _⟩ := rows2 hb1
  have c0 := row_cell r0 4
  have c1 := row_cell r1 4
  simp only [List.getElem?_toArray] at c0 c1
  have HB := Lib.hid ((HB0.out _ _).trans (hb1.mono (HB0.out _ _).size))
  clear hb1 r0 r1 hB
  go_wp2_with fail
  go_ret
  exact ⟨rfl, HB.out⟩

end Go.Proofs.Ytmnmaijifhojiaa

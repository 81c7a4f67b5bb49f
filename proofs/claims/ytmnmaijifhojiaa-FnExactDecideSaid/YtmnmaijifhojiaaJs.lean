/- The rules that hold, one by one: the program's iterator, its contract. -/
import Derived.Test.YtmnmaijifhojiaaJr
import Derived.RangeFuncNested
import Derived.RangeFuncBound
import Derived.RangeFuncCalls
import Derived.RangeFuncLeaves
import Derived.Shelf.Abstract
import Derived.Shelf.RegionOpen
import Derived.WalkKit
import Derived.OwnWalkIn
import Derived.TacticsInMore
import Derived.LoopNIn
import Derived.LoopIn
set_option maxRecDepth 100000
set_option linter.unusedVariables false
set_option linter.unusedSimpArgs false
namespace Go.Proofs.Ytmnmaijifhojiaa
open Go.RowKit Go.Shelf
attribute [local go_sem] Oper.semAt_some

/-- What a round may not turn: blocks below, and one more. -/
def KpD (n₀ Bx : Nat) (W W' : World) : Prop := Below n₀ W W' ∧ W'.heap[Bx]? = W.heap[Bx]?
theorem KpD.trans {n₀ Bx : Nat} {A B C : World} (h : KpD n₀ Bx A B) (k : KpD n₀ Bx B C) : KpD n₀ Bx A C := ⟨h.1.trans k.1, k.2.trans h.2⟩
/-- A rule as it is handed on. -/
structure Ry where
  nr : Int
  ac : Int
  a : Option Addr
  n : Nat
  cap : Nat
abbrev ryE (y : Ry) : Value := .agg #[.int .i64 y.nr, .int .i64 y.ac, .slice y.a y.n y.cap]
def ryOf (x : Rv) : Ry := match x.v with
  | .slice a n c => ⟨x.r.nr, x.r.ac, a, n, c⟩
  | _ => ⟨x.r.nr, x.r.ac, none, 0, 0⟩
/-- What has come when k rules have been asked. -/
def gives (x : Rc) (l : List Rv) (k : Nat) : List Ry := ((l.take k).filter fun y => rlHolds y.r x).map ryOf
theorem gives_length (x : Rc) (l : List Rv) (k : Nat) : (gives x l k).length ≤ k := by
  unfold gives
  rw [List.length_map]
  exact Nat.le_trans (List.length_filter_le _ _) (by rw [List.length_take]; omega)
theorem gives_yes {x : Rc} {l : List Rv} {k : Nat} (hk : k < l.length) (h : rlHolds l[k].r x = true) : gives x l (k + 1) = gives x l k ++ [ryOf l[k]] := by
  unfold gives
  rw [List.take_succ_eq_append_getElem hk, List.filter_append, List.map_append]
  simp [h]
theorem gives_no {x : Rc} {l : List Rv} {k : Nat} (hk : k < l.length) (h : rlHolds l[k].r x = false) : gives x l (k + 1) = gives x l k := by
  unfold gives
  rw [List.take_succ_eq_append_getElem hk, List.filter_append, List.map_append]
  simp [h]

set_option maxHeartbeats 4000000 in
theorem holding1_in (n : Nat) (hn : 1 ≤ n) (lp Bl Bx n₀ : Nat) (a ua : Option Addr) (cap ucap : Nat) (l : List Rv) (zn za zh zl : Int) (args : List Wd) (J Jx : List Ry → World → Prop) (W0 : World) (hJ : AbidesFrom W0.heap.size J)
    (hY : ∀ pre y W, J pre W → pre.length < l.length → YieldAt Fence.wide (n - 1) Try.prog lp #[ryE y] W fun e W' => (e = .returned (.bool true) ∧ J (pre ++ [y]) W' ∧ KpD n₀ Bx W W') ∨ (e = .returned (.bool false) ∧ Jx (pre ++ [y]) W'))
    (hl : RvAt W0 n₀ (.slice a l.length cap) l) (hu : WdAt W0 n₀ (.slice ua args.length ucap) args) (hbl : W0.cell? ⟨Bl, 0, none⟩ = some (.slice a l.length cap))
    (hbx : W0.heap[Bx]? = some (.cells #[.int .i64 zn, .int .i64 za, .int .i64 zh, .int .i64 zl, .slice ua args.length ucap] 45 (0, 0))) (hn0 : n₀ ≤ W0.heap.size) (h0 : J [] W0) :
    CallsIn Fence.wide n Try.prog 110 #[.func (.yield lp) #[] #[], .pointer (some ⟨Bl, 0, none⟩), .pointer (some ⟨Bx, 0, none⟩)] W0 fun e W' => (∃ v, e = .returned v) ∧
      ((∃ ys, ys = gives ⟨zn, za, ⟨zh, zl⟩, args⟩ l l.length ∧ J ys W') ∨ (∃ pre, (∃ k, k ≤ l.length ∧ pre = gives ⟨zn, za, ⟨zh, zl⟩, args⟩ l k) ∧ Jx pre W')) := by
  obtain ⟨_, _, e, hlc, hcm⟩ := hl.len
  simp only [Value.slice.injEq] at e
  obtain ⟨rfl, _, rfl⟩ := e
  unfold maxLen at hcm
  refine callsIn_of_wp Try.func110 rfl trivial ?_ rfl
  simp only [Try.ntmps110, List.size_toArray, List.length_cons, List.length_nil, Nat.reduceAdd, Nat.reduceSub, Array.replicate_succ, Array.replicate_zero, List.push_toArray, List.append_toArray, List.nil_append, List.cons_append]
  gi_wp2
  gi_loopw [8] (fun i wr => ∃ k : Nat, k ≤ l.length ∧ i = .int .i64 k ∧ J (gives ⟨zn, za, ⟨zh, zl⟩, args⟩ l k) wr ∧ KpD n₀ Bx W0 wr)
    (fun i _ => l.length - (intOf i).toNat)
  case atStart => exact ⟨0, Nat.zero_le _, rfl, h0, Below.refl _ _, rfl⟩
  case round =>
    obtain ⟨k, hk, rfl, hJs, hnx⟩ := hrel
    by_cases hlt : k < l.length
    · obtain ⟨b, o, e, hb, d0, d1, d2, hwf, hcq⟩ := RvAt.place (hl.below hnx.1) (List.getElem?_eq_getElem hlt)
      subst e
      have HY := Lib.hid (fun h => gives_yes (x := ⟨zn, za, ⟨zh, zl⟩, args⟩) hlt h)
      have HN := Lib.hid (fun h => gives_no (x := ⟨zn, za, ⟨zh, zl⟩, args⟩) hlt h)
      generalize l[k] = y at d0 d1 d2 hcq HY HN
      obtain ⟨⟨xn, xc, ds⟩, xv⟩ := y
      simp only at d0 d1 d2 hcq HY HN
      obtain ⟨xva, xcap, rfl, _, _⟩ := hcq.len
      have hsz : n₀ ≤ wr.heap.size := Nat.le_trans hn0 hnx.1.size
      have hB1 : ∀ o : Obj, Below wr.heap.size wr (wr.alloc o) := fun o => (Below.refl _ _).alloc (Nat.le_refl _) _
      have q1 := fun o => implRuleHolds_any xn xc ds zn za zh zl args _ _ (wr.alloc o) (LAt.up (LAt.below hcq ((hB1 o).mono hsz)) (by simp; omega)) (LAt.up (LAt.below hu (hnx.1.trans ((hB1 o).mono hsz))) (by simp; omega))
      have hbx' := hnx.2.trans hbx
      have x0 := row_cell hbx' 0
      have x1 := row_cell hbx' 1
      have x2 := row_cell hbx' 2
      have x3 := row_cell hbx' 3
      have x4 := row_cell hbx' 4
      simp only [List.getElem?_toArray, List.getElem?_cons_zero, List.getElem?_cons_succ] at x0 x1 x2 x3 x4
      have hltx : Bx < wr.heap.size := row_here hbx'
      have Q1 := Lib.hid q1
      have HNX := Lib.hid hnx
      have HJ := Lib.hid hJs
      clear q1 hcq hwf
      cases hh : rlHolds ⟨xn, xc, ds⟩ ⟨zn, za, ⟨zh, zl⟩, args⟩ with
      | false =>
        have HN' := Lib.hid (HN.out hh)
        rw [hh] at Q1
        clear hh HY HN
        gi_wp2_with fail
        refine ⟨trivial, (callsIn_wide.2 (Q1.out _)).mono ?_⟩
        rintro e w2 ⟨rfl, hb2⟩
        have hg := box_below hb2
        have HJ2 := Lib.hid (hJ _ _ _ none HJ.out (grown_of_below hg none) (fun r e => by cases e))
        have HK2 := Lib.hid (show KpD n₀ Bx W0 w2 from ⟨HNX.out.1.trans (hg.mono hsz), (hg.block _ hltx).trans HNX.out.2⟩)
        clear hb2 hg
        gi_wp2_with fail
        refine ⟨fun _ h => (by cases h), ?_⟩
        gi_wp2
        go_roundw
        case rel => exact ⟨k + 1, by omega, by simp, by rw [HN'.out]; exact HJ2.out, HK2.out⟩
        case measure => simp [intOf]; omega
      | true =>
        have HY' := Lib.hid (HY.out hh)
        rw [hh] at Q1
        clear hh HY HN
        gi_wp2_with fail
        refine ⟨trivial, (callsIn_wide.2 (Q1.out _)).mono ?_⟩
        rintro e w2 ⟨rfl, hb2⟩
        have hg := box_below hb2
        have hJ2 := hJ _ _ _ none HJ.out (grown_of_below hg none) (fun r e => by cases e)
        have HK2 := Lib.hid (show KpD n₀ Bx W0 w2 from ⟨HNX.out.1.trans (hg.mono hsz), (hg.block _ hltx).trans HNX.out.2⟩)
        have y0 := box_cell hb2 0
        have y1 := box_cell hb2 1
        have y2 := box_cell hb2 2
        simp only [List.getElem?_toArray, List.getElem?_cons_zero, List.getElem?_cons_succ] at y0 y1 y2
        obtain ⟨fn, tmps, assign, body, hy, hR⟩ := hY _ ⟨xn, xc, xva, ds.length, xcap⟩ w2 hJ2 (Nat.lt_of_le_of_lt (gives_length _ _ _) hlt)
        clear hb2 hg hJ2
        gi_wp2
        refine hR.mono ?_
        rintro e W3 (⟨rfl, hJ3, hk3⟩ | ⟨rfl, hJx3⟩)
        · have HJ3 := Lib.hid hJ3
          have HK3 := Lib.hid (HK2.out.trans hk3)
          clear hJ3 hk3
          gi_wp2
          go_roundw
          case rel => exact ⟨k + 1, by omega, by simp, by rw [HY'.out]; exact HJ3.out, HK3.out⟩
          case measure => simp [intOf]; omega
        · gi_wp2
          refine bodyPost_ret (results_none rfl _ _ _) rfl ?_
          exact ⟨⟨_, rfl⟩, .inr ⟨_, ⟨k + 1, by omega, HY'.out.symm⟩, hJx3⟩⟩
    · obtain rfl : k = l.length := by omega
      gi_wp2
      go_end0
      exact ⟨⟨_, rfl⟩, .inl ⟨_, rfl, hJs⟩⟩

theorem holding_any (a : Option Addr) (n cap : Nat) (zn za zh zl : Int) (ua : Option Addr) (un ucap : Nat) (w : World) :
    Calls Try.prog 80 #[.slice a n cap, .agg #[.int .i64 zn, .int .i64 za, .int .i64 zh, .int .i64 zl, .slice ua un ucap]] w fun e w' =>
      e = .returned (.func (.func 110) #[] #[.pointer (some ⟨w.heap.size, 0, none⟩), .pointer (some ⟨w.heap.size + 1, 0, none⟩)]) ∧
      w' = (w.alloc (.cells #[.slice a n cap] 30)).alloc (.cells #[.int .i64 zn, .int .i64 za, .int .i64 zh, .int .i64 zl, .slice ua un ucap] 45) := by
  go_enter Try.func80, Try.ntmps80
  go_wp2
  go_ret
  exact ⟨rfl, rfl⟩

theorem holding_stops (n : Nat) (hn : 1 ≤ n) (Bl Bx n₀ : Nat) (a ua : Option Addr) (cap ucap : Nat) (l : List Rv) (zn za zh zl : Int) (args : List Wd) (w : World)
    (hl : RvAt w n₀ (.slice a l.length cap) l) (hu : WdAt w n₀ (.slice ua args.length ucap) args) (hBl : Bl < w.heap.size) (hbl : w.cell? ⟨Bl, 0, none⟩ = some (.slice a l.length cap))
    (hbx : w.heap[Bx]? = some (.cells #[.int .i64 zn, .int .i64 za, .int .i64 zh, .int .i64 zl, .slice ua args.length ucap] 45 (0, 0))) (hn0 : n₀ ≤ w.heap.size) :
    SeqStopsK Fence.wide n Try.prog 110 #[.pointer (some ⟨Bl, 0, none⟩), .pointer (some ⟨Bx, 0, none⟩)] (fun y : Ry => #[ryE y]) (KpD n₀ Bx)
      (fun ys => ys = gives ⟨zn, za, ⟨zh, zl⟩, args⟩ l l.length) (fun pre => ∃ k, k ≤ l.length ∧ pre = gives ⟨zn, za, ⟨zh, zl⟩, args⟩ l k) l.length w := fun lp J Jx W hW hJ hJx hY h0 =>
  holding1_in n hn lp Bl Bx n₀ a ua cap ucap l zn za zh zl args J Jx W hJ hY (hl.below (hW.mono hn0)) (LAt.below hu (hW.mono hn0)) ((hW.cell (p := ⟨Bl, 0, none⟩) hBl).trans hbl) (below_row hW hbx) (Nat.le_trans hn0 hW.size) h0

theorem row_own {W W' : World} {B : Nat} {cs : Array Value} {t : TypeId} {fz : Nat × Nat} {row : Option Nat} (h : W.heap[B]? = some (.cells cs t fz)) (hg : W.grownBy W' row) (hr : ∀ r, row = some r → ∃ o : Obj, W.heap[r]? = some o ∧ o.isCells = false) :
    W'.heap[B]? = some (.cells cs t fz) := by
  refine (hg.block B (row_here h) fun e => ?_).trans h
  obtain ⟨o, ho, hc⟩ := hr B e.symm
  rw [h] at ho
  injection ho with ho
  subst ho
  simp [Obj.isCells] at hc

/-- What is decided when these have come; whether one has. -/
def decS (df : Int) (l : List Ry) : Int × Bool := l.foldl (fun s y => if !s.2 || decide (y.ac < s.1) then (y.ac, true) else s) (df, false)
theorem decS_snoc (df : Int) (l : List Ry) (y : Ry) : decS df (l ++ [y]) = if !(decS df l).2 || decide (y.ac < (decS df l).1) then (y.ac, true) else decS df l := by
  unfold decS
  rw [List.foldl_append]
  rfl

end Go.Proofs.Ytmnmaijifhojiaa

/- What a policy decides: Decide of the program walked. -/
import Derived.Test.YtmnmaijifhojiaaJs
set_option maxRecDepth 100000
set_option linter.unusedVariables false
set_option linter.unusedSimpArgs false
namespace Go.Proofs.Ytmnmaijifhojiaa
open Go.RowKit Go.Shelf
attribute [local go_sem] Oper.semAt_some

theorem decS_best {x : Rc} {df : Int} : ∀ (l : List Rv), (∀ y ∈ l, ∃ a n c, y.v = .slice a n c) → (∀ y ∈ l, 0 ≤ y.r.ac) → (∀ y ∈ l, rlHolds y.r x = rlHolds0 y.r x) →
    ∀ (b : Int) (s : Int × Bool), (s.2 = true ↔ 0 ≤ b) → (s.2 = true → s.1 = b) → (s.2 = false → s.1 = df) →
    (let s' := ((l.filter fun y => rlHolds y.r x).map ryOf).foldl (fun s y => if !s.2 || decide (y.ac < s.1) then (y.ac, true) else s) s
     let b' := (l.map Rv.r).foldl (bestStep x) b
     (s'.2 = true ↔ 0 ≤ b') ∧ (s'.2 = true → s'.1 = b') ∧ (s'.2 = false → s'.1 = df))
  | [], _, _, _, b, s, h1, h2, h3 => ⟨h1, h2, h3⟩
  | y :: l, hv, ha, hh, b, s, h1, h2, h3 => by
    have hac : (ryOf y).ac = y.r.ac := by
      obtain ⟨a, n, c, e⟩ := hv y (by simp)
      unfold ryOf
      rw [e]
    have ha0 := ha y (by simp)
    have hhy := hh y (by simp)
    have ih := fun b s => decS_best (x := x) (df := df) l (fun z hz => hv z (by simp [hz])) (fun z hz => ha z (by simp [hz])) (fun z hz => hh z (by simp [hz])) b s
    cases hy : rlHolds y.r x with
    | false =>
      have hb : bestStep x b y.r = b := by unfold bestStep; rw [← hhy, hy]; simp
      simp only [List.filter_cons, hy, List.map_cons, List.foldl_cons, hb, Bool.false_eq_true, if_false]
      exact ih b s h1 h2 h3
    | true =>
      simp only [List.filter_cons, hy, List.map_cons, List.foldl_cons, if_true, hac]
      have hbs : bestStep x b y.r = if decide (b < 0) || decide (y.r.ac < b) then y.r.ac else b := by unfold bestStep; rw [← hhy, hy]; simp
      rw [hbs]
      obtain ⟨s1, s2⟩ := s
      cases s2 with
      | false =>
        have hb : b < 0 := by simp at h1; omega
        rw [if_pos (by simp), if_pos (by simp [hb])]
        exact ih _ _ (by simp; omega) (fun _ => rfl) (fun h => by simp at h)
      | true =>
        have hb : 0 ≤ b := h1.1 rfl
        have e : s1 = b := h2 rfl
        subst e
        by_cases hlt : y.r.ac < s1
        · rw [if_pos (by simp [hlt]), if_pos (by simp [hlt])]
          exact ih _ _ (by simp; omega) (fun _ => rfl) (fun h => by simp at h)
        · have : ¬ s1 < 0 := by omega
          rw [if_neg (by simp; omega), if_neg (by simp; omega)]
          exact ih _ _ h1 h2 h3

set_option maxHeartbeats 6400000 in
theorem implDecide_run (df bd ar : Int) (l : List Rv) (zn zh zl : Int) (args : List Wd) (v u : Value) (w : World) (hv : RvAt w w.heap.size v l) (hu : WdAt w w.heap.size u args)
    (h1 : polRight ⟨ar, df, bd, rls l⟩ = true) (h2 : rcRight ⟨zn, ar, ⟨zh, zl⟩, args⟩ = true) :
    Calls Try.prog 27 #[polV ar df bd v, .agg #[.int .i64 zn, .int .i64 ar, .int .i64 zh, .int .i64 zl, u]] w fun e w' =>
      e = .returned (.int .i64 (decS df (gives ⟨zn, ar, ⟨zh, zl⟩, args⟩ l l.length)).1) ∧ Below w.heap.size w w' := by
  have q1 := fun W (h : Below w.heap.size w W) => implPolicyRight_any ar df bd l _ W (RvAt.up (RvAt.below hv h) h.size)
  have q2 := fun W (h : Below w.heap.size w W) => implRecordRight_any ⟨zn, ar, ⟨zh, zl⟩, args⟩ _ W (LAt.up (LAt.below hu h) h.size)
  obtain ⟨a, cap, rfl, hlc, hcm⟩ := hv.len
  obtain ⟨ua, ucap, rfl, hlc', hcm'⟩ := hu.len
  rw [h1] at q1
  rw [h2] at q2
  have hnn : (ar != ar) = false := by simp
  have HV := Lib.hid hv
  have HU := Lib.hid hu
  have Q1 := Lib.hid q1
  have Q2 := Lib.hid q2
  have HB0 := Lib.hid (show ∀ o o' : Obj, Below w.heap.size w ((w.alloc o).alloc o') from fun o o' => ((Below.refl _ _).alloc (Nat.le_refl _) _).alloc (by simp) _)
  clear q1 q2 h1 h2 hv hu
  refine (callsIn_wide (n := 6)).1 ?_
  refine callsIn_of_wp_marks Try.func27 rfl trivial ?_ rfl
  simp only [Try.ntmps27, List.size_toArray, List.length_cons, List.length_nil, Nat.reduceAdd, Nat.reduceSub, Array.replicate_succ, Array.replicate_zero, List.push_toArray, List.append_toArray, List.nil_append, List.cons_append]
  gi_wp2_with fail
  refine ⟨trivial, (callsIn_wide.2 (Q1.out _ (HB0.out _ _))).mono ?_⟩
  rintro e w1 ⟨rfl, hb1⟩
  have hb2 := box2 hb1
  have d0 := hb2.2.1 0
  have d1 := hb2.2.1 1
  have d2 := hb2.2.1 2
  have d3 := hb2.2.1 3
  have d4 := hb2.2.1 4
  simp only [List.getElem?_toArray, List.getElem?_cons_zero, List.getElem?_cons_succ] at d0 d1 d2 d3 d4
  have HB := Lib.hid hb2.2.2
  have HB1 := Lib.hid hb1
  clear hb1 hb2
  gi_wp2_with fail
  refine ⟨trivial, (callsIn_wide.2 (Q2.out _ HB.out)).mono ?_⟩
  rintro e w2 ⟨rfl, hb3⟩
  have HB2 := Lib.hid (HB1.out.trans (hb3.mono HB1.out.size))
  clear hb3 d0 d1 d2 d3 d4
  have hb2 := box2 HB2.out
  have c0 := hb2.1 0
  have c1 := hb2.1 1
  have c3 := hb2.1 3
  have d0 := hb2.2.1 0
  have d1 := hb2.2.1 1
  have d2 := hb2.2.1 2
  have d3 := hb2.2.1 3
  have d4 := hb2.2.1 4
  simp only [List.getElem?_toArray, List.getElem?_cons_zero, List.getElem?_cons_succ] at c0 c1 c3 d0 d1 d2 d3 d4
  have hsz2 : w.heap.size + 2 ≤ w2.heap.size := by have := HB2.out.size; simp at this; omega
  have hs0 : w.heap.size < w2.heap.size := by omega
  have hs1 : w.heap.size + 1 < w2.heap.size := by omega
  clear hb2
  gi_wp2_with fail
  refine ⟨trivial, (callsIn_wide.2 (holding_any _ _ _ _ _ _ _ _ _ _ _)).mono ?_⟩
  rintro e w' ⟨rfl, rfl⟩
  gi_wp2_with fail
  have bS := (((Boxed.new w2 2 (.int .i64 df)).alloc (.cells #[.bool false] 4)).alloc (.cells #[.slice a l.length cap] 30)).alloc (.cells #[.int .i64 zn, .int .i64 ar, .int .i64 zh, .int .i64 zl, .slice ua args.length ucap] 45)
  have bH := ((Boxed.new (w2.alloc (.cells #[.int .i64 df] 2)) 4 (.bool false)).alloc (.cells #[.slice a l.length cap] 30)).alloc (.cells #[.int .i64 zn, .int .i64 ar, .int .i64 zh, .int .i64 zl, .slice ua args.length ucap] 45)
  have bL := (Boxed.new ((w2.alloc (.cells #[.int .i64 df] 2)).alloc (.cells #[.bool false] 4)) 30 (.slice a l.length cap)).alloc (.cells #[.int .i64 zn, .int .i64 ar, .int .i64 zh, .int .i64 zl, .slice ua args.length ucap] 45)
  have rX := heap_alloc_new (((w2.alloc (.cells #[.int .i64 df] 2)).alloc (.cells #[.bool false] 4)).alloc (.cells #[.slice a l.length cap] 30)) (.cells #[.int .i64 zn, .int .i64 ar, .int .i64 zh, .int .i64 zl, .slice ua args.length ucap] 45)
  simp only [World.size_alloc] at bH bL rX
  have hB20 : Below w2.heap.size w2 ((((w2.alloc (.cells #[.int .i64 df] 2)).alloc (.cells #[.bool false] 4)).alloc (.cells #[.slice a l.length cap] 30)).alloc (.cells #[.int .i64 zn, .int .i64 ar, .int .i64 zh, .int .i64 zl, .slice ua args.length ucap] 45)) :=
    ((((Below.refl _ w2).alloc (Nat.le_refl _) _).alloc (by simp) _).alloc (by simp; omega) _).alloc (by simp; omega) _
  have hsz : ((((w2.alloc (.cells #[.int .i64 df] 2)).alloc (.cells #[.bool false] 4)).alloc (.cells #[.slice a l.length cap] 30)).alloc (.cells #[.int .i64 zn, .int .i64 ar, .int .i64 zh, .int .i64 zl, .slice ua args.length ucap] 45)).heap.size = w2.heap.size + 4 := by simp
  obtain ⟨W0, hW0⟩ : ∃ W0, ((((w2.alloc (.cells #[.int .i64 df] 2)).alloc (.cells #[.bool false] 4)).alloc (.cells #[.slice a l.length cap] 30)).alloc (.cells #[.int .i64 zn, .int .i64 ar, .int .i64 zh, .int .i64 zl, .slice ua args.length ucap] 45)) = W0 := ⟨_, rfl⟩
  rw [hW0] at bS bH bL rX hB20 hsz ⊢
  clear hW0 c0 c1 c3 d0 d1 d2 d3 d4
  have hBw2 := (box2 HB2.out).2.2
  have hBw : Below w.heap.size w W0 := hBw2.trans (hB20.mono hBw2.size)
  have hRl : RvAt W0 w2.heap.size (.slice a l.length cap) l := (HV.out.below hBw).up hBw2.size
  have hRu : WdAt W0 w2.heap.size (.slice ua args.length ucap) args := LAt.up (LAt.below HU.out hBw) hBw2.size
  refine wpIn_rangeFunc_ownH rfl (by omega) (gf := 110) (lb := #[.pointer (some ⟨w2.heap.size + 1 + 1, 0, none⟩), .pointer (some ⟨w2.heap.size + 1 + 1 + 1, 0, none⟩)]) rfl trivial (enters_of Try.func110 (by kernel_rfl) rfl)
    (holding_stops (6 - 1) (by omega) (w2.heap.size + 1 + 1) (w2.heap.size + 1 + 1 + 1) w2.heap.size a ua cap ucap l zn ar zh zl args W0 hRl hRu (by omega) bL.cell rX (by omega))
    KpD.trans (fun W l0 o o' hl0 ho hc hk => ⟨belowK_b (w := W0) (by omega) W l0 o o' hl0 ho hc hk, (grownBy_putObj' W l0 o').block _ (by have := (Array.getElem?_eq_some_iff.1 ho).1; omega) (fun e => by cases e; omega)⟩) (Below.refl _ _) (fun _ => rfl)
    (fun pre W => (Boxed W w2.heap.size 2 (.int .i64 (decS df pre).1) ∧ Boxed W (w2.heap.size + 1) 4 (.bool (decS df pre).2)) ∧ Below w.heap.size w W ∧ W0.heap.size ≤ W.heap.size)
    (fun _ _ _ => False)
    (OwnFrom.and (OwnFrom.and (Own.from (boxed_own _ _ _) _) (Own.from (boxed_own _ _ _) _)) (OwnFrom.and (ownFrom_below (Nat.le_refl _) (by omega)) (fun _ X Y row hs hg _ => Nat.le_trans hs hg.size)))
    (fun _ _ _ _ _ hs _ _ => hs)
    ⟨⟨bS, bH⟩, hBw, Nat.le_refl _⟩
    (fun y a' W => ∃ B7, w2.heap.size + 1 + 1 + 1 < B7 ∧ W.heap[B7]? = some (.cells #[.int .i64 y.nr, .int .i64 y.ac, .slice y.a y.n y.cap] 35 (0, 0)) ∧ a' = { tmps := #[polV ar df bd (.slice a l.length cap), .agg #[.int .i64 zn, .int .i64 ar, .int .i64 zh, .int .i64 zl, .slice ua args.length ucap], .pointer (some ⟨w.heap.size, 0, none⟩), .pointer (some ⟨w.heap.size + 1, 0, none⟩), .int .i64 0, .pointer (some ⟨w2.heap.size, 0, none⟩), .pointer (some ⟨w2.heap.size + 1, 0, none⟩), .pointer (some ⟨B7, 0, none⟩), .bool false, .agg #[.int .i64 ar, .int .i64 df, .int .i64 bd, .slice a l.length cap], .bool true, .bool false, .bool false, .agg #[.int .i64 zn, .int .i64 ar, .int .i64 zh, .int .i64 zl, .slice ua args.length ucap], .bool true, .bool false, .bool false, .bool false, .pointer (some ⟨w.heap.size + 1, 1, none⟩), .int .i64 ar, .pointer (some ⟨w.heap.size, 0, none⟩), .int .i64 ar, .bool false, undef, undef, .pointer (some ⟨w.heap.size, 1, none⟩), .int .i64 df, .pointer (some ⟨w.heap.size, 3, none⟩), .slice a l.length cap, .agg #[.int .i64 zn, .int .i64 ar, .int .i64 zh, .int .i64 zl, .slice ua args.length ucap], .func (.func 110) #[] #[.pointer (some ⟨w2.heap.size + 1 + 1, 0, none⟩), .pointer (some ⟨w2.heap.size + 1 + 1 + 1, 0, none⟩)], ryE y, undef, undef, undef, undef, undef, undef, undef, undef, undef, undef, undef], defers := [] })
    (fun y a' _ X Y row hs hg hr => by obtain ⟨B7, h1, h2, h3⟩ := hs; exact ⟨B7, h1, row_own h2 hg (fun r e => (hr r e).2), h3⟩)
    ?assign ?body ?done ?stop
  case assign =>
    rintro lp pre y W K ⟨⟨bS1, bH1⟩, hB1, hS1⟩ hK
    gi_wp2
    exact hK _ _ ((KeepsOthers.alloc _ _).from _) ⟨(Below.refl _ W).alloc (by omega) _, Below.heap_alloc W _ _ (by omega)⟩ ⟨⟨bS1.alloc _, bH1.alloc _⟩, hB1.alloc hB1.size _, by simp; omega⟩ ⟨W.heap.size, by omega, heap_alloc_new W _, rfl⟩
  case body =>
    rintro lp pre y a' W hl ⟨r, hr⟩ ⟨⟨bS1, bH1⟩, hB1, hS1⟩ ⟨B7, hB7, hrow, rfl⟩ hlt
    have hsn := decS_snoc df pre y
    generalize decS df pre = s at *
    obtain ⟨s1, s2⟩ := s
    simp only at bS1 bH1 hsn
    have cS := bS1.cell
    have fS := bS1.frozen
    have cH := bH1.cell
    have fH := bH1.frozen
    have e1 := row_cell hrow 1
    simp only [List.getElem?_toArray, List.getElem?_cons_zero, List.getElem?_cons_succ] at e1
    have hset : ∀ u : Value, KeepsFrom W0.heap.size W ((W.setCell ⟨w2.heap.size, 0, none⟩ u).setCell ⟨w2.heap.size + 1, 0, none⟩ (.bool true)) ∧ KpD w2.heap.size (w2.heap.size + 1 + 1 + 1) W ((W.setCell ⟨w2.heap.size, 0, none⟩ u).setCell ⟨w2.heap.size + 1, 0, none⟩ (.bool true)) ∧
        (Boxed ((W.setCell ⟨w2.heap.size, 0, none⟩ u).setCell ⟨w2.heap.size + 1, 0, none⟩ (.bool true)) w2.heap.size 2 u ∧ Boxed ((W.setCell ⟨w2.heap.size, 0, none⟩ u).setCell ⟨w2.heap.size + 1, 0, none⟩ (.bool true)) (w2.heap.size + 1) 4 (.bool true)) ∧
        Below w.heap.size w ((W.setCell ⟨w2.heap.size, 0, none⟩ u).setCell ⟨w2.heap.size + 1, 0, none⟩ (.bool true)) ∧ W0.heap.size ≤ ((W.setCell ⟨w2.heap.size, 0, none⟩ u).setCell ⟨w2.heap.size + 1, 0, none⟩ (.bool true)).heap.size := fun u =>
      ⟨((KeepsOthers.setCell _ _ _).trans (KeepsOthers.setCell _ _ _)).from _,
        ⟨((Below.refl _ W).setCell (p := ⟨w2.heap.size, 0, none⟩) (Nat.le_refl _) _).setCell (p := ⟨w2.heap.size + 1, 0, none⟩) (by simp) _, (Below.heap_setCell _ ⟨w2.heap.size + 1, 0, none⟩ _ _ (by simp; omega)).trans (Below.heap_setCell _ ⟨w2.heap.size, 0, none⟩ _ _ (by simp; omega))⟩,
        ⟨(bS1.set _).other (by omega) _, (bH1.other (by omega) _).set _⟩,
        (hB1.setCell (p := ⟨w2.heap.size, 0, none⟩) (by simp; omega) _).setCell (p := ⟨w2.heap.size + 1, 0, none⟩) (by simp; omega) _, by simp [World.setCell]; omega⟩
    have hkeep : KeepsFrom W0.heap.size W W ∧ KpD w2.heap.size (w2.heap.size + 1 + 1 + 1) W W := ⟨KeepsFrom.refl _ _, Below.refl _ _, rfl⟩
    have HSET := Lib.hid hset
    have HKEEP := Lib.hid hkeep
    have HB1 := Lib.hid hB1
    clear hset hkeep hB1
    cases s2 with
    | false =>
      rw [if_pos (by simp)] at hsn
      have HSN := Lib.hid hsn
      clear hsn
      gi_wp2
      obtain ⟨k1, k2, k3, k4⟩ := HSET.out (.int .i64 y.ac)
      exact ⟨k1, k2, by rw [HSN.out]; exact k3, k4⟩
    | true =>
      by_cases hlt2 : y.ac < s1
      · rw [if_pos (by simp [hlt2])] at hsn
        have HSN := Lib.hid hsn
        clear hsn
        gi_wp2
        obtain ⟨k1, k2, k3, k4⟩ := HSET.out (.int .i64 y.ac)
        exact ⟨k1, k2, by rw [HSN.out]; exact k3, k4⟩
      · rw [if_neg (by simp; omega)] at hsn
        have HSN := Lib.hid hsn
        have hlt2' : decide (y.ac < s1) = false := by simpa using hlt2
        clear hsn
        gi_wp2
        exact ⟨by first | exact HKEEP.out.1 | (rw [← hsz]; exact HKEEP.out.1), HKEEP.out.2, by rw [HSN.out]; exact ⟨bS1, bH1⟩, HB1.out, by omega⟩
  case done =>
    rintro D ys W hD rfl ⟨⟨bS1, bH1⟩, hB1, hS1⟩ hK
    have cS := bS1.cell
    gi_wp2
    refine ⟨by simp, .inl ⟨_, _, rfl, run_takeDeferred hK, ?_⟩⟩
    exact ⟨_, results_tmp rfl _ _ _, rfl, hB1.trans (belowK_b (w := w) (Nat.le_refl _) W D _ _ (by omega) hK rfl rfl)⟩
  case stop =>
    rintro D c pre W _ _ h _
    exact h.elim

theorem decide_best {df bd ar : Int} {l : List Rv} {zn zh zl : Int} {args : List Wd} {w : World} {B : Nat} {v : Value} (hv : RvAt w B v l) (h1 : polRight ⟨ar, df, bd, rls l⟩ = true) (h2 : rcRight ⟨zn, ar, ⟨zh, zl⟩, args⟩ = true) :
    (decS df (gives ⟨zn, ar, ⟨zh, zl⟩, args⟩ l l.length)).1 = polDecide ⟨ar, df, bd, rls l⟩ ⟨zn, ar, ⟨zh, zl⟩, args⟩ := by
  have hr := (polRight_rules h1).2
  have hs : ∀ y ∈ l, ∃ a n c, y.v = .slice a n c := fun y hy => by
    obtain ⟨a, c, e, _⟩ := (hv.2 y hy).len
    exact ⟨a, _, c, e⟩
  have ha : ∀ y ∈ l, 0 ≤ y.r.ac := fun y hy => (rlRight_ac (nr := y.r.nr) (cs := y.r.cs) (hr y hy)).1
  have hh : ∀ y ∈ l, rlHolds y.r ⟨zn, ar, ⟨zh, zl⟩, args⟩ = rlHolds0 y.r ⟨zn, ar, ⟨zh, zl⟩, args⟩ := fun y hy => by unfold rlHolds; rw [hr y hy, h2]; rfl
  obtain ⟨k1, k2, k3⟩ := decS_best (df := df) l hs ha hh (-1) (df, false) (by simp) (by simp) (by simp)
  have hg : gives ⟨zn, ar, ⟨zh, zl⟩, args⟩ l l.length = (l.filter fun y => rlHolds y.r ⟨zn, ar, ⟨zh, zl⟩, args⟩).map ryOf := by unfold gives; rw [List.take_length]
  have hb : bestOf ⟨zn, ar, ⟨zh, zl⟩, args⟩ (rls l) = (l.map Rv.r).foldl (bestStep ⟨zn, ar, ⟨zh, zl⟩, args⟩) (-1) := rfl
  unfold polDecide
  rw [h1, h2]
  simp only [Bool.and_self, Bool.not_true, Bool.false_eq_true, if_false, ne_eq, not_true_eq_false]
  unfold decS
  rw [hg, hb]
  generalize (l.map Rv.r).foldl (bestStep ⟨zn, ar, ⟨zh, zl⟩, args⟩) (-1) = b' at *
  generalize List.foldl _ _ _ = s' at *
  obtain ⟨s1, s2⟩ := s'
  simp only at k1 k2 k3 ⊢
  cases s2 with
  | false =>
    have : b' < 0 := by simp at k1; omega
    rw [if_pos this]
    exact k3 rfl
  | true =>
    have : ¬ b' < 0 := by have := k1.1 rfl; omega
    rw [if_neg this]
    exact k2 rfl

set_option maxHeartbeats 3200000 in
theorem implDecide_any (ar df bd : Int) (l : List Rv) (zn za zh zl : Int) (args : List Wd) (v u : Value) (w : World) (hv : RvAt w w.heap.size v l) (hu : WdAt w w.heap.size u args) :
    Calls Try.prog 27 #[polV ar df bd v, .agg #[.int .i64 zn, .int .i64 za, .int .i64 zh, .int .i64 zl, u]] w fun e w' =>
      e = .returned (.int .i64 (polDecide ⟨ar, df, bd, rls l⟩ ⟨zn, za, ⟨zh, zl⟩, args⟩)) ∧ Below w.heap.size w w' := by
  have q1 := fun W (h : Below w.heap.size w W) => implPolicyRight_any ar df bd l _ W (RvAt.up (RvAt.below hv h) h.size)
  have q2 := fun W (h : Below w.heap.size w W) => implRecordRight_any ⟨zn, za, ⟨zh, zl⟩, args⟩ _ W (LAt.up (LAt.below hu h) h.size)
  have hd : polDecide ⟨ar, df, bd, rls l⟩ ⟨zn, za, ⟨zh, zl⟩, args⟩ = (if !(polRight ⟨ar, df, bd, rls l⟩ && rcRight ⟨zn, za, ⟨zh, zl⟩, args⟩) then -1 else if za ≠ ar then bd else if bestOf ⟨zn, za, ⟨zh, zl⟩, args⟩ (rls l) < 0 then df else bestOf ⟨zn, za, ⟨zh, zl⟩, args⟩ (rls l)) := rfl
  have HB0 := Lib.hid (show ∀ o o' : Obj, Below w.heap.size w ((w.alloc o).alloc o') from fun o o' => ((Below.refl _ _).alloc (Nat.le_refl _) _).alloc (by simp) _)
  cases h1 : polRight ⟨ar, df, bd, rls l⟩
  · generalize polDecide ⟨ar, df, bd, rls l⟩ ⟨zn, za, ⟨zh, zl⟩, args⟩ = res at hd ⊢
    rw [h1] at q1
    have HR := Lib.hid (show res = -1 by rw [hd, h1]; rfl)
    have Q1 := Lib.hid q1
    obtain ⟨a, cap, rfl, _, _⟩ := hv.len
    obtain ⟨ua, ucap, rfl, _, _⟩ := hu.len
    clear hd q1 q2 h1 hv hu
    go_enter Try.func27, Try.ntmps27
    go_wp2_with fail
    refine (Q1.out _ (HB0.out _ _)).mono ?_
    rintro e w1 ⟨rfl, hb1⟩
    have HB := Lib.hid (box2 hb1).2.2
    clear hb1
    go_wp2_with fail
    go_ret
    exact ⟨ret_int HR.out.symm, HB.out⟩
  cases h2 : rcRight ⟨zn, za, ⟨zh, zl⟩, args⟩
  · generalize polDecide ⟨ar, df, bd, rls l⟩ ⟨zn, za, ⟨zh, zl⟩, args⟩ = res at hd ⊢
    rw [h1] at q1
    rw [h2] at q2
    have HR := Lib.hid (show res = -1 by rw [hd, h1, h2]; rfl)
    have Q1 := Lib.hid q1
    have Q2 := Lib.hid q2
    obtain ⟨a, cap, rfl, _, _⟩ := hv.len
    obtain ⟨ua, ucap, rfl, _, _⟩ := hu.len
    clear hd q1 q2 h1 h2 hv hu
    go_enter Try.func27, Try.ntmps27
    go_wp2_with fail
    refine (Q1.out _ (HB0.out _ _)).mono ?_
    rintro e w1 ⟨rfl, hb1⟩
    have hb2 := box2 hb1
    have d0 := hb2.2.1 0
    have d1 := hb2.2.1 1
    have d2 := hb2.2.1 2
    have d3 := hb2.2.1 3
    have d4 := hb2.2.1 4
    simp only [List.getElem?_toArray, List.getElem?_cons_zero, List.getElem?_cons_succ] at d0 d1 d2 d3 d4
    have HB := Lib.hid hb2.2.2
    clear hb1 hb2
    go_wp2_with fail
    refine (Q2.out _ HB.out).mono ?_
    rintro e w2 ⟨rfl, hb3⟩
    have HC := Lib.hid (HB.out.trans (hb3.mono HB.out.size))
    clear hb3 d0 d1 d2 d3 d4
    go_wp2_with fail
    go_ret
    exact ⟨ret_int HR.out.symm, HC.out⟩
  by_cases hza : za = ar
  · subst hza
    rw [← decide_best hv h1 h2]
    exact implDecide_run df bd za l zn zh zl args v u w hv hu h1 h2
  · generalize polDecide ⟨ar, df, bd, rls l⟩ ⟨zn, za, ⟨zh, zl⟩, args⟩ = res at hd ⊢
    rw [h1, h2, Bool.true_and, Bool.not_true, if_neg (by simp), if_pos (by simpa using hza)] at hd
    rw [h1] at q1
    rw [h2] at q2
    have HR := Lib.hid hd
    have hnn := ne_int hza
    have Q1 := Lib.hid q1
    have Q2 := Lib.hid q2
    obtain ⟨a, cap, rfl, _, _⟩ := hv.len
    obtain ⟨ua, ucap, rfl, _, _⟩ := hu.len
    clear hd q1 q2 h1 h2 hv hu hza
    go_enter Try.func27, Try.ntmps27
    go_wp2_with fail
    refine (Q1.out _ (HB0.out _ _)).mono ?_
    rintro e w1 ⟨rfl, hb1⟩
    have hb2 := box2 hb1
    have d0 := hb2.2.1 0
    have d1 := hb2.2.1 1
    have d2 := hb2.2.1 2
    have d3 := hb2.2.1 3
    have d4 := hb2.2.1 4
    simp only [List.getElem?_toArray, List.getElem?_cons_zero, List.getElem?_cons_succ] at d0 d1 d2 d3 d4
    have HB := Lib.hid hb2.2.2
    have HB1 := Lib.hid hb1
    clear hb1 hb2
    go_wp2_with fail
    refine (Q2.out _ HB.out).mono ?_
    rintro e w2 ⟨rfl, hb3⟩
    have hb4 := HB1.out.trans (hb3.mono HB1.out.size)
    have HC := Lib.hid (box2 hb4).2.2
    clear hb3 d0 d1 d2 d3 d4
    have hb2 := box2 hb4
    have c0 := hb2.1 0
    have c2 := hb2.1 2
    have d1 := hb2.2.1 1
    simp only [List.getElem?_toArray, List.getElem?_cons_zero, List.getElem?_cons_succ] at c0 c2 d1
    clear hb4 hb2
    go_wp2_with fail
    go_ret
    exact ⟨ret_int HR.out.symm, HC.out⟩

end Go.Proofs.Ytmnmaijifhojiaa

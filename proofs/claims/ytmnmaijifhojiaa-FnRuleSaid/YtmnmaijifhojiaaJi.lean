/- The laws' own helpers on rules: toRule, szRule, eqRule; rows of rules that a call made, none of whose lists lies in another's memory. -/
import Derived.Test.YtmnmaijifhojiaaJf
set_option maxRecDepth 100000
set_option linter.unusedVariables false
namespace Go.Proofs.Ytmnmaijifhojiaa
open Go.RowKit Go.ChangeShapes Go.WideShapes

/-- Two slices of different rows. -/
def Disj (u v : Value) : Prop := ∀ g, u.ownBlock = some g → v.ownBlock ≠ some g
theorem Disj.symm {u v : Value} (h : Disj u v) : Disj v u := fun g hg e => h g e hg
/-- The lists of comparisons of rules, each of a row of its own. -/
def Inner (base : Nat) (w : World) (l : List Rv) : Prop := (∀ x ∈ l, CqOwn base w x.v x.r.cs) ∧ l.Pairwise (fun x y => Disj x.v y.v)
theorem Inner.nil (base : Nat) (w : World) : Inner base w [] := ⟨fun x hx => by simp at hx, List.Pairwise.nil⟩
theorem Inner.below {base : Nat} {w w' : World} {l : List Rv} (h : Inner base w l) (hb : Below w.heap.size w w') : Inner base w' l := ⟨fun x hx => OwnL.below (h.1 x hx) hb, h.2⟩
theorem Inner.setBelow {base : Nat} {w : World} {l : List Rv} (h : Inner base w l) {a : Addr} (ha : a.block < base) (u : Value) : Inner base (w.setCell a u) l := ⟨fun x hx => OwnL.setBelow (h.1 x hx) ha u, h.2⟩
theorem Inner.base {b b' : Nat} {w : World} {l : List Rv} (h : Inner b w l) (hb : b' ≤ b) : Inner b' w l := ⟨fun x hx => OwnL.base (h.1 x hx) hb, h.2⟩
theorem Inner.snoc {base : Nat} {w w' : World} {l : List Rv} {r : Rl} {u : Value} (h : Inner base w l) (hb : Below w.heap.size w w') (hu : CqOwn w.heap.size w' u r.cs) (hB : base ≤ w.heap.size) : Inner base w' (l ++ [⟨r, u⟩]) := by
  refine ⟨fun x hx => ?_, ?_⟩
  · rcases List.mem_append.1 hx with h1 | h1
    · exact OwnL.below (h.1 x h1) hb
    · obtain rfl : x = ⟨r, u⟩ := by simpa using h1
      exact OwnL.base hu hB
  · rw [List.pairwise_append]
    refine ⟨h.2, by simp, fun x hx y hy g hg e => ?_⟩
    obtain rfl : y = ⟨r, u⟩ := by simpa using hy
    have h1 := (OwnL.lt (h.1 x hx) g hg).2
    have h2 := (OwnL.lt hu g e).1
    omega
def rv0 : Rv := ⟨⟨0, 0, []⟩, .slice none 0 0⟩
theorem info_rv : (Try.prog.info? 35).map (fun i => (i.zero, i.size, i.bytes)) = some (some (.agg #[.int .i64 0, .int .i64 0, .slice none 0 0]), 3, 40) := by kernel_rfl
/-- A slice of rules that the call made. -/
def OwnRv (base : Nat) (w : World) (v : Value) (l : List Rv) : Prop := OwnL 35 3 rvCells base w v l ∧ Inner base w l ∧ ∀ x ∈ l, Disj x.v v
theorem OwnRv.below {base : Nat} {w w' : World} {v : Value} {l : List Rv} (h : OwnRv base w v l) (hb : Below w.heap.size w w') : OwnRv base w' v l := ⟨h.1.below hb, h.2.1.below hb, h.2.2⟩
theorem OwnRv.base {b b' : Nat} {w : World} {v : Value} {l : List Rv} (h : OwnRv b w v l) (hb : b' ≤ b) : OwnRv b' w v l := ⟨h.1.base hb, h.2.1.base hb, h.2.2⟩
theorem OwnRv.setBelow {base : Nat} {w : World} {v : Value} {l : List Rv} (h : OwnRv base w v l) {a : Addr} (ha : a.block < base) (u : Value) : OwnRv base (w.setCell a u) v l := ⟨h.1.setBelow ha u, h.2.1.setBelow ha u, h.2.2⟩
theorem OwnRv.slice {base : Nat} {w : World} {v : Value} {l : List Rv} (h : OwnRv base w v l) : ∃ a cap, v = .slice a l.length cap := h.1.slice
theorem OwnRv.at {base : Nat} {w : World} {v : Value} {l : List Rv} (h : OwnRv base w v l) (hw : ∀ x ∈ l, x.r.wf) (hc : ∀ x ∈ l, ∀ c ∈ x.r.cs, c.wf) : RvAt w w.heap.size v l := ⟨OwnL.lAt rvS h.1 hw, fun x hx => OwnL.lAt cqS (h.2.1.1 x hx) (hc x hx)⟩
def rlsWf (l : List Rl) : Prop := ∀ r ∈ l, r.wf ∧ ∀ c ∈ r.cs, c.wf
theorem RvAt.wf {w : World} {B : Nat} {v : Value} {l : List Rv} (h : RvAt w B v l) : rlsWf (rls l) := by
  intro r hr
  obtain ⟨x, hx, rfl⟩ := List.mem_map.1 hr
  exact ⟨h.1.2.2 x hx, (h.2 x hx).2.2⟩
theorem OwnRv.at' {base : Nat} {w : World} {v : Value} {l : List Rv} {rs : List Rl} (h : OwnRv base w v l) (e : rls l = rs) (hw : rlsWf rs) : RvAt w w.heap.size v l := by
  subst e
  exact h.at (fun x hx => (hw _ (List.mem_map.2 ⟨x, hx, rfl⟩)).1) (fun x hx => (hw _ (List.mem_map.2 ⟨x, hx, rfl⟩)).2)

set_option maxHeartbeats 1600000 in
theorem toRule_any (nr ac : Int) (cs : List Cq) (v : Value) (w : World) (hv : CqAt w w.heap.size v cs) (hn : cs.length ≤ 1048576) :
    Calls Try.prog 44 #[.agg #[.int .i64 nr, .int .i64 ac, v]] w fun e w' => ∃ u, e = .returned (.agg #[.int .i64 nr, .int .i64 ac, u]) ∧ CqOwn w.heap.size w' u cs ∧ Below w.heap.size w w' := by
  obtain ⟨a, cap, rfl, hlc, hcm⟩ := hv.len
  have HV := Lib.hid hv
  clear hv
  go_enter Try.func44, Try.ntmps44
  go_wp2_with fail
  have hB0 : Below w.heap.size w (((w.alloc (.cells #[.int .i64 nr, .int .i64 ac, .slice a cs.length cap] 74)).alloc (.cells #[.int .i64 0, .int .i64 0, .slice none 0 0] 35)).alloc (.cells #[.int .i64 nr, .int .i64 ac, .slice none 0 0] 35)) := (((Below.refl _ _).alloc (Nat.le_refl _) _).alloc (by simp) _).alloc (by simp; omega) _
  refine (toCmpS_any _ cs _ (LAt.up (LAt.below HV.out hB0) hB0.size) hn).mono ?_
  rintro e w1 ⟨u, rfl, ho, hb1⟩
  obtain ⟨ua, ucap, rfl⟩ := OwnL.slice ho
  obtain ⟨r0, r1, r2, hB, hS⟩ := rows3 hb1
  have c0 := row_cell r2 0
  have c1 := row_cell r2 1
  have c2 := row_cell r2 2
  have d0 := row_cell r1 0
  have d1 := row_cell r1 1
  have d2 := row_cell r1 2
  simp [-Array.getElem?_eq_getElem] at c0 c1 c2 d0 d1 d2
  have g2 := frozen_row r2 2
  have f0 := frozen_row r1 0
  have f1 := frozen_row r1 1
  have f2 := frozen_row r1 2
  have HB := Lib.hid hB
  have HO := Lib.hid (OwnL.base ho (b' := w.heap.size + 3) (by simp))
  clear hb1 r0 r1 r2 hB ho hB0
  go_wp2_with fail
  exact bodyPost_ret (v := .agg #[.int .i64 nr, .int .i64 ac, .slice ua cs.length ucap]) (by simp [results, Try.results44, go_sem, d0, d1, d2]) rfl
    ⟨_, rfl, ((((HO.out.setBelow (by simp) _).setBelow (by simp) _).setBelow (by simp) _).setBelow (by simp) _).base (by omega),
      (((HB.out.setCell (p := ⟨w.heap.size + 1 + 1, 2, none⟩) (by simp; omega) _).setCell (p := ⟨w.heap.size + 1, 0, none⟩) (by simp) _).setCell (p := ⟨w.heap.size + 1, 1, none⟩) (by simp) _).setCell (p := ⟨w.heap.size + 1, 2, none⟩) (by simp) _⟩

theorem szRule_any (nr ac : Int) (a : Option Addr) (len cap : Nat) (left : Int) (w : World) (hl : len ≤ 9223372036854775807) (h0 : 0 ≤ left) (h1 : left ≤ 1048576) :
    Calls Try.prog 43 #[.agg #[.int .i64 nr, .int .i64 ac, .slice a len cap], .int .i64 left] w fun e w' => e = .returned (.int .i64 (if left - (len : Int) < 0 then -1 else left - (len : Int))) ∧ Below w.heap.size w w' := by
  have q := fun W => szCmpS_any a len cap left W hl h0 h1
  have hb0 : ∀ o, Below w.heap.size w (w.alloc o) := fun o => (Below.refl _ _).alloc (Nat.le_refl _) _
  have HB := Lib.hid hb0
  by_cases h : left - (len : Int) < 0
  · rw [if_pos h] at q
    have HQ := Lib.hid q
    have he := Lib.hid (show (if left - (len : Int) < 0 then (-1 : Int) else left - (len : Int)) = -1 from if_pos h)
    clear q hb0
    go_enter Try.func43, Try.ntmps43
    go_wp2_with fail
    refine (HQ.out _).mono ?_
    rintro e w1 ⟨rfl, rfl⟩
    go_wp2_with fail
    go_ret
    first | exact ⟨rfl, HB.out _⟩ | exact ⟨ret_int he.out.symm, HB.out _⟩
  · rw [if_neg h] at q
    have HQ := Lib.hid q
    have he := Lib.hid (show (if left - (len : Int) < 0 then (-1 : Int) else left - (len : Int)) = left - (len : Int) from if_neg h)
    have hd : decide (left - (len : Int) < 0) = false := by simpa using h
    clear q hb0
    go_enter Try.func43, Try.ntmps43
    go_wp2_with fail
    refine (HQ.out _).mono ?_
    rintro e w1 ⟨rfl, rfl⟩
    go_wp2_with fail
    go_ret
    first | exact ⟨rfl, HB.out _⟩ | exact ⟨ret_int he.out.symm, HB.out _⟩

set_option maxHeartbeats 1600000 in
theorem eqRule_any (nr ac nr' ac' : Int) (cs cs' : List Cq) (v1 v2 : Value) (w : World) (h1 : CqAt w w.heap.size v1 cs) (h2 : CqAt w w.heap.size v2 cs') :
    Calls Try.prog 45 #[.agg #[.int .i64 nr, .int .i64 ac, v1], .agg #[.int .i64 nr', .int .i64 ac', v2]] w fun e w' => e = .returned (.bool (decide ((⟨nr, ac, cs⟩ : Rl) = ⟨nr', ac', cs'⟩))) ∧ Below w.heap.size w w' := by
  obtain ⟨a1, cap1, rfl, hc1, hm1⟩ := h1.len
  obtain ⟨a2, cap2, rfl, hc2, hm2⟩ := h2.len
  by_cases e0 : nr = nr'
  · by_cases e1 : ac = ac'
    · have q2 := fun W (h : Below w.heap.size w W) => eqCmpS_any _ _ cs cs' W (LAt.up (LAt.below h1 h) h.size) (LAt.up (LAt.below h2 h) h.size)
      have HD := Lib.hid (show decide ((⟨nr, ac, cs⟩ : Rl) = ⟨nr', ac', cs'⟩) = decide (cs = cs') by
        subst e0 e1
        rw [Bool.eq_iff_iff]
        simp)
      generalize decide (cs = cs') = r at *
      have hn : (nr' != nr') = false := by simp
      have ha : (ac' != ac') = false := by simp
      subst e0 e1
      have Q2 := Lib.hid q2
      clear q2 h1 h2
      have HB0 := Lib.hid (show ∀ o o' : Obj, Below w.heap.size w ((w.alloc o).alloc o') from fun o o' => ((Below.refl _ _).alloc (Nat.le_refl _) _).alloc (by simp) _)
      go_enter Try.func45, Try.ntmps45
      go_wp2_with fail
      refine (Q2.out _ (HB0.out _ _)).mono ?_
      rintro e w1 ⟨rfl, hb1⟩
      have HB := Lib.hid ((HB0.out _ _).trans (hb1.mono (HB0.out _ _).size))
      clear hb1
      cases r
      all_goals
        go_wp2_with fail
        go_ret
        exact ⟨ret_bool HD.out.symm, HB.out⟩
    · have HD := Lib.hid (show decide ((⟨nr, ac, cs⟩ : Rl) = ⟨nr', ac', cs'⟩) = false by simp [e1])
      have h := ne_int e1
      clear e1 h1 h2
      subst e0
      go_enter Try.func45, Try.ntmps45
      go_wp2
      go_ret
      exact ⟨ret_bool HD.out.symm, ((Below.refl _ _).alloc (Nat.le_refl _) _).alloc (by simp) _⟩
  · have HD := Lib.hid (show decide ((⟨nr, ac, cs⟩ : Rl) = ⟨nr', ac', cs'⟩) = false by simp [e0])
    have h := ne_int e0
    clear e0 h1 h2
    go_enter Try.func45, Try.ntmps45
    go_wp2
    go_ret
    exact ⟨ret_bool HD.out.symm, ((Below.refl _ _).alloc (Nat.le_refl _) _).alloc (by simp) _⟩

end Go.Proofs.Ytmnmaijifhojiaa

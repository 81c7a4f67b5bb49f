/- Texts of one proof, put together: Eg Eh Ei Ej. -/
import Derived.Test.YtmnmaijifhojiaaXf
import Derived.Test.YtmnmaijifhojiaaXe
import Derived.Deep.CutBlock

/- A record near to a policy's rules, drawn: l06Near. -/
set_option maxRecDepth 100000
set_option linter.unusedSimpArgs false
set_option linter.unusedVariables false
namespace Go.Proofs.Ytmnmaijifhojiaa
open Go.RowKit
attribute [local go_sem ↓] Go.wp_at_zero Go.wp_at_succ

theorem rcRight_p5 {x : Rc} (h : rcRight x = true) : (0 ≤ x.nr ∧ x.nr ≤ 4294967295) ∧ (0 ≤ x.ar ∧ x.ar ≤ 4294967295) ∧ wdRight x.ip = true ∧ x.args.length = 6 ∧ x.args.all wdRight = true := by
  unfold rcRight isB at h
  simp only [Bool.and_eq_true, decide_eq_true_eq] at h
  exact ⟨h.1.1.1.1, h.1.1.1.2, h.1.1.2, h.1.2, h.2⟩
theorem rcRight_mk {x : Rc} (h0 : 0 ≤ x.nr ∧ x.nr ≤ 4294967295) (h1 : 0 ≤ x.ar ∧ x.ar ≤ 4294967295) (h2 : wdRight x.ip = true) (h3 : x.args.length = 6) (h4 : x.args.all wdRight = true) : rcRight x = true := by
  unfold rcRight
  rw [isB_yes h0.1 h0.2, isB_yes h1.1 h1.2, h2, h4, h3]
  rfl
theorem all_set {l : List Wd} {x : Wd} (h : l.all wdRight = true) (hx : wdRight x = true) (i : Nat) : (l.set i x).all wdRight = true := by
  rw [List.all_eq_true] at h ⊢
  intro y hy
  rcases List.mem_or_eq_of_mem_set hy with hy | rfl
  · exact h y hy
  · exact hx
/-- A record that looks at a policy's rules was drawn. -/
def NearPost (g : Nat) (a : Option Addr) (len cap : Nat) (w : World) (e : Ending) (w' : World) : Prop :=
  ∃ (r : Rc) (u : Value), e = .returned (rcV r u) ∧ rcRight r = true ∧ WdOwn w.heap.size w' u r.args ∧ AfterSrc g a len cap w w'
/-- What the walk carries: the policy's box, the result, the record. -/
def NMid (w : World) (X g : Nat) (a : Option Addr) (len cap : Nat) (pr : Array Value) (rc : Rc) (xu : Value) (W : World) : Prop :=
  W.heap[w.heap.size]? = some (.cells pr 32 (0, 0)) ∧ W.heap[w.heap.size + 1]? = some (.cells #[.int .i64 0, .int .i64 0, .int .i64 0, .int .i64 0, .slice none 0 0] 45 (0, 0)) ∧
  W.heap[X]? = some (.cells #[.int .i64 rc.nr, .int .i64 rc.ar, .int .i64 rc.ip.h, .int .i64 rc.ip.l, xu] 45 (0, 0)) ∧
  WdOwn (w.heap.size + 2) W xu rc.args ∧ (∀ k, xu.ownBlock = some k → k < X) ∧ AfterSrc g a len cap w W ∧ w.heap.size + 1 < X
section
variable {w W W' : World} {X g : Nat} {a : Option Addr} {len cap : Nat} {pr : Array Value} {rc : Rc} {xu : Value}
theorem NMid.src (h : NMid w X g a len cap pr rc xu W) (hgl : g < w.heap.size) (ha : AfterSrc g a len cap W W') : NMid w X g a len cap pr rc xu W' :=
  have hlt := h.2.2.2.2.2.2
  ⟨ha.row h.1 (by omega), ha.row h.2.1 (by omega), ha.row h.2.2.1 (by omega), own_src h.2.2.2.1 ha (by omega), h.2.2.2.2.1, h.2.2.2.2.2.1.trans ha, hlt⟩
theorem NMid.after (h : NMid w X g a len cap pr rc xu W) : AfterSrc g a len cap w W := h.2.2.2.2.2.1
theorem NMid.s (h : NMid w X g a len cap pr rc xu W) : Src W g a len cap := h.2.2.2.2.2.1.1
theorem NMid.drew (h : NMid w X g a len cap pr rc xu W) (hgl : g < w.heap.size) : NMid w X g a len cap pr rc xu W.drew := h.src hgl (AfterSrc.refl h.s).drew
theorem NMid.below (h : NMid w X g a len cap pr rc xu W) (hgl : g < w.heap.size) (hb : Below W.heap.size W W') : NMid w X g a len cap pr rc xu W' := h.src hgl (AfterSrc.of_below h.s hb)
theorem NMid.lt (h : NMid w X g a len cap pr rc xu W) : X < W.heap.size := row_here h.2.2.1
theorem NMid.low (h : NMid w X g a len cap pr rc xu W) : w.heap.size + 1 < X := h.2.2.2.2.2.2
theorem NMid.own (h : NMid w X g a len cap pr rc xu W) : WdOwn (w.heap.size + 2) W xu rc.args := h.2.2.2.1
theorem NMid.putZ (h : NMid w X g a len cap pr rc xu W) (hgl : g < w.heap.size) {Z : Nat} (hZ : X < Z) (i : Nat) (v : Value) : NMid w X g a len cap pr rc xu (W.setCell ⟨Z, i, none⟩ v) :=
  have hlt := h.low
  ⟨row_other h.1 _ _ (by omega), row_other h.2.1 _ _ (by omega), row_other h.2.2.1 _ _ (by omega), own_put h.own (p := ⟨Z, i, none⟩) (fun e => by have := h.2.2.2.2.1 Z e; omega), h.2.2.2.2.1, h.after.put hgl (p := ⟨Z, i, none⟩) (show w.heap.size ≤ Z by omega) _, hlt⟩
theorem NMid.putNr (h : NMid w X g a len cap pr rc xu W) (hgl : g < w.heap.size) (x : Int) : NMid w X g a len cap pr ⟨x, rc.ar, rc.ip, rc.args⟩ xu (W.setCell ⟨X, 0, none⟩ (.int .i64 x)) :=
  have hlt := h.low
  ⟨row_other h.1 _ _ (by omega), row_other h.2.1 _ _ (by omega), row_put h.2.2.1 0 _, own_put h.own (p := ⟨X, 0, none⟩) (fun e => by have := h.2.2.2.2.1 X e; omega), h.2.2.2.2.1, h.after.put hgl (p := ⟨X, 0, none⟩) (show w.heap.size ≤ X by omega) _, hlt⟩
end
theorem NMid.putArg {w W : World} {X g b n c : Nat} {a : Option Addr} {len cap : Nat} {pr : Array Value} {nr ar : Int} {ip : Wd} {args : List Wd} (h : NMid w X g a len cap pr ⟨nr, ar, ip, args⟩ (.slice (some ⟨b, 0, none⟩) n c) W) (hgl : g < w.heap.size) (m : Nat) (hm : m < args.length) (x : Wd) :
    NMid w X g a len cap pr ⟨nr, ar, ip, args.set m x⟩ (.slice (some ⟨b, 0, none⟩) n c) ((W.setCell ⟨b, m * 2, none⟩ (.int .i64 x.h)).setCell ⟨b, m * 2 + 1, none⟩ (.int .i64 x.l)) := by
  have hlt := h.low
  have hb := (OwnL.lt h.own b rfl).1
  have hbX := h.2.2.2.2.1 b rfl
  obtain ⟨a', cap', e⟩ := OwnL.slice h.own
  simp only [Value.slice.injEq] at e
  obtain ⟨_, rfl, _⟩ := e
  refine ⟨row_other (row_other h.1 _ _ (by omega)) _ _ (by omega), row_other (row_other h.2.1 _ _ (by omega)) _ _ (by omega), row_other (row_other h.2.2.1 _ _ (by omega)) _ _ (by omega), ?_, h.2.2.2.2.1,
    (h.after.put hgl (p := ⟨b, m * 2, none⟩) (show w.heap.size ≤ b by omega) _).put hgl (p := ⟨b, m * 2 + 1, none⟩) (show w.heap.size ≤ b by omega) _, hlt⟩
  have hs := OwnL.set wdS (by omega) (show W.ownsRow (w.heap.size + 2) 24 2 (.slice (some ⟨b, 0, none⟩) args.length c) args.length (args.flatMap wdCells) from h.own) hm x
  unfold WdOwn OwnL
  rw [List.length_set]
  exact hs
theorem NMid.fin {w W : World} {X g : Nat} {a : Option Addr} {len cap : Nat} {pr : Array Value} {rc : Rc} {xu v0 v1 v2 v3 v4 : Value} (h : NMid w X g a len cap pr rc xu W) (hgl : g < w.heap.size) (hr : rcRight rc = true) :
    NearPost g a len cap w (.returned (rcV rc xu)) (((((W.setCell ⟨w.heap.size + 1, 0, none⟩ v0).setCell ⟨w.heap.size + 1, 1, none⟩ v1).setCell ⟨w.heap.size + 1, 2, none⟩ v2).setCell ⟨w.heap.size + 1, 3, none⟩ v3).setCell ⟨w.heap.size + 1, 4, none⟩ v4) :=
  have hne : xu.ownBlock ≠ some (w.heap.size + 1) := fun e => by have := (OwnL.lt h.own _ e).1; omega
  ⟨rc, xu, rfl, hr, OwnL.base (own_put (own_put (own_put (own_put (own_put h.own (p := ⟨w.heap.size + 1, 0, none⟩) hne) (p := ⟨w.heap.size + 1, 1, none⟩) hne) (p := ⟨w.heap.size + 1, 2, none⟩) hne) (p := ⟨w.heap.size + 1, 3, none⟩) hne) (p := ⟨w.heap.size + 1, 4, none⟩) hne) (by omega),
    ((((h.after.put hgl (p := ⟨w.heap.size + 1, 0, none⟩) (show w.heap.size ≤ w.heap.size + 1 by omega) _).put hgl (p := ⟨w.heap.size + 1, 1, none⟩) (show w.heap.size ≤ w.heap.size + 1 by omega) _).put hgl (p := ⟨w.heap.size + 1, 2, none⟩) (show w.heap.size ≤ w.heap.size + 1 by omega) _).put hgl (p := ⟨w.heap.size + 1, 3, none⟩) (show w.heap.size ≤ w.heap.size + 1 by omega) _).put hgl (p := ⟨w.heap.size + 1, 4, none⟩) (show w.heap.size ≤ w.heap.size + 1 by omega) _⟩
theorem pick_lt {n i : Nat} (h : 0 < n) (h1 : (1 : Int) < (n : Int) → (i : Int) < (n : Int)) (h2 : (n : Int) ≤ 1 → (i : Int) = 0) : i < n := by
  rcases (by omega : 1 < n ∨ n = 1) with e | e
  · have := h1 (by omega)
    omega
  · have := h2 (by omega)
    omega
/-- A rule was picked: it lies in a variable. -/
def PickAt (w : World) (X g : Nat) (a : Option Addr) (len cap : Nat) (pr : Array Value) (rc : Rc) (xu : Value) (l : List Rv) (y : Value) (W : World) : Prop := ∃ (Y i : Nat) (x : Rv), l[i]? = some x ∧ y = .pointer (some ⟨Y, 0, none⟩) ∧
  W.heap[Y]? = some (.cells #[.int .i64 x.r.nr, .int .i64 x.r.ac, x.v] 35 (0, 0)) ∧ X < Y ∧ NMid w X g a len cap pr rc xu W
theorem pick_new {w W : World} {X g i : Nat} {a : Option Addr} {len cap : Nat} {pr : Array Value} {rc : Rc} {xu : Value} {l : List Rv} {x : Rv} (hx : l[i]? = some x) (hm : NMid w X g a len cap pr rc xu W) (hgl : g < w.heap.size) :
    PickAt w X g a len cap pr rc xu l (.pointer (some ⟨W.heap.size, 0, none⟩)) (W.alloc (.cells #[.int .i64 x.r.nr, .int .i64 x.r.ac, x.v] 35)) :=
  ⟨W.heap.size, i, x, hx, rfl, heap_alloc_new W _, hm.lt, hm.below hgl ((Below.refl _ _).alloc (Nat.le_refl _) _)⟩
theorem pick_put {w W : World} {X g i Y : Nat} {a : Option Addr} {len cap : Nat} {pr : Array Value} {rc : Rc} {xu z0 z1 z2 : Value} {l : List Rv} {x : Rv} (hrow : W.heap[Y]? = some (.cells #[z0, z1, z2] 35 (0, 0))) (hx : l[i]? = some x) (hm : NMid w X g a len cap pr rc xu W) (hgl : g < w.heap.size) (hY : X < Y) :
    PickAt w X g a len cap pr rc xu l (.pointer (some ⟨Y, 0, none⟩)) (((W.setCell ⟨Y, 0, none⟩ (.int .i64 x.r.nr)).setCell ⟨Y, 1, none⟩ (.int .i64 x.r.ac)).setCell ⟨Y, 2, none⟩ x.v) :=
  ⟨Y, i, x, hx, rfl, row_put (row_put (row_put hrow 0 _) 1 _) 2 _, hY, ((hm.putZ hgl hY 0 _).putZ hgl hY 1 _).putZ hgl hY 2 _⟩

set_option maxHeartbeats 6400000 in
theorem srcNear_any (g : Nat) (a : Option Addr) (len cap : Nat) (base : Nat) (ar df bd : Int) (v : Value) (l : List Rv) (w : World) (hs : Src w g a len cap) (hp : OwnRv base w v l) (hgb : g < base) (hf : RlsFine l) (hl60 : l.length ≤ 60) :
    Calls Try.prog 69 #[.pointer (some ⟨g, 0, none⟩), polV ar df bd v] w (NearPost g a len cap w) := by
  have hgl := hs.lt
  obtain ⟨va, vc, rfl⟩ := hp.slice
  have HP := Lib.hid hp
  have HF := Lib.hid hf
  have ha0 : AfterSrc g a len cap w ((w.alloc (.cells #[.int .i64 ar, .int .i64 df, .int .i64 bd, .slice va l.length vc] 32)).alloc (.cells #[.int .i64 0, .int .i64 0, .int .i64 0, .int .i64 0, .slice none 0 0] 45)) := (AfterSrc.of_below hs ((Below.refl _ _).alloc (Nat.le_refl _) _)).more _
  have HA0 := Lib.hid ha0
  clear ha0 hs hp hf
  go_enter Try.func69, Try.ntmps69
  go_wp2_with fail
  refine (srcRecordOf_any g a len cap _ HA0.out.1).mono ?_
  rintro e w1 ⟨⟨nr, ra, ⟨ih, il⟩, args⟩, xu, rfl, hrt, hown, ha1⟩
  obtain ⟨hn, hra, hip, h6, hall⟩ := rcRight_p5 hrt
  simp only at hn hra hip h6 hall hown
  obtain ⟨xb, xc, rfl, hxb, hxlt, hxc⟩ := OwnL.more hown (by omega)
  have hP1 := ha1.row (row_alloc (heap_alloc_new w (.cells #[.int .i64 ar, .int .i64 df, .int .i64 bd, .slice va l.length vc] 32)) (.cells #[.int .i64 0, .int .i64 0, .int .i64 0, .int .i64 0, .slice none 0 0] 45)) (by omega)
  have hH1 : w1.heap[w.heap.size + 1]? = some (.cells #[.int .i64 0, .int .i64 0, .int .i64 0, .int .i64 0, .slice none 0 0] 45 (0, 0)) := by
    have e1 : w.heap.size + 1 = (w.alloc (.cells #[.int .i64 ar, .int .i64 df, .int .i64 bd, .slice va l.length vc] 32)).heap.size := by simp
    rw [e1]
    exact ha1.row (heap_alloc_new _ _) (by simp; omega)
  have hsz1 : w.heap.size + 2 = ((w.alloc (.cells #[.int .i64 ar, .int .i64 df, .int .i64 bd, .slice va l.length vc] 32)).alloc (.cells #[.int .i64 0, .int .i64 0, .int .i64 0, .int .i64 0, .slice none 0 0] 45)).heap.size := by simp
  have HM1 : Hid (NMid w w1.heap.size g a len cap #[.int .i64 ar, .int .i64 df, .int .i64 bd, .slice va l.length vc] ⟨nr, ra, ⟨ih, il⟩, args⟩ (.slice (some ⟨xb, 0, none⟩) args.length xc) (w1.alloc (.cells #[.int .i64 nr, .int .i64 ra, .int .i64 ih, .int .i64 il, .slice (some ⟨xb, 0, none⟩) args.length xc] 45))) :=
    Lib.hid ⟨row_alloc hP1 _, row_alloc hH1 _, heap_alloc_new w1 _, OwnL.alloc (OwnL.base hown (by omega)) _, fun k hk => (OwnL.lt hown k hk).2, (HA0.out.trans ha1).more _, by have := row_here hH1; omega⟩
  have HRT := Lib.hid hrt
  have HALL := Lib.hid hall
  have HIP := Lib.hid hip
  have H6 := Lib.hid h6
  clear hrt hall hip hown ha1 hP1 hH1 hsz1 h6
  go_upto_region 2 with fail
  generalize w1.alloc (.cells #[.int .i64 nr, .int .i64 ra, .int .i64 ih, .int .i64 il, .slice (some ⟨xb, 0, none⟩) args.length xc] 45) = w2 at *
  have p3 := row_cell HM1.out.1 3
  simp only [List.getElem?_toArray, List.getElem?_cons_zero, List.getElem?_cons_succ] at p3
  by_cases hl0 : l.length = 0
  · have e0 : ((l.length : Int) == 0) = true := by simp [hl0]
    have HL0 := Lib.hid hl0
    clear hl0
    have c0 := row_cell HM1.out.2.2.1 0
    have c1 := row_cell HM1.out.2.2.1 1
    have c2 := row_cell HM1.out.2.2.1 2
    have c3 := row_cell HM1.out.2.2.1 3
    have c4 := row_cell HM1.out.2.2.1 4
    have d0 := row_cell HM1.out.2.1 0
    have f0 := frozen_row HM1.out.2.1 0
    have d1 := row_cell HM1.out.2.1 1
    have f1 := frozen_row HM1.out.2.1 1
    have d2 := row_cell HM1.out.2.1 2
    have f2 := frozen_row HM1.out.2.1 2
    have d3 := row_cell HM1.out.2.1 3
    have f3 := frozen_row HM1.out.2.1 3
    have d4 := row_cell HM1.out.2.1 4
    have f4 := frozen_row HM1.out.2.1 4
    simp only [List.getElem?_toArray, List.getElem?_cons_zero, List.getElem?_cons_succ] at c0 c1 c2 c3 c4 d0 d1 d2 d3 d4
    go_wp2_with fail
    exact bodyPost_ret (v := .agg #[.int .i64 nr, .int .i64 ra, .int .i64 ih, .int .i64 il, .slice (some ⟨xb, 0, none⟩) args.length xc]) (by simp [results, Try.results69, go_sem, d0, d1, d2, d3, d4]) rfl
      (HM1.out.fin hgl HRT.out)
  have e0 : ((l.length : Int) == 0) = false := by rw [beq_eq_false_iff_ne]; omega
  go_wp2_with fail
  refine (srcOne_any g a len cap 4 _ HM1.out.s (by omega) (by omega)).mono ?_
  rintro e w3 ⟨b, rfl, ha3⟩
  have HM3 := Lib.hid (HM1.out.src hgl ha3)
  clear ha3 HM1
  cases b with
  | true =>
    have c0 := row_cell HM3.out.2.2.1 0
    have c1 := row_cell HM3.out.2.2.1 1
    have c2 := row_cell HM3.out.2.2.1 2
    have c3 := row_cell HM3.out.2.2.1 3
    have c4 := row_cell HM3.out.2.2.1 4
    have d0 := row_cell HM3.out.2.1 0
    have f0 := frozen_row HM3.out.2.1 0
    have d1 := row_cell HM3.out.2.1 1
    have f1 := frozen_row HM3.out.2.1 1
    have d2 := row_cell HM3.out.2.1 2
    have f2 := frozen_row HM3.out.2.1 2
    have d3 := row_cell HM3.out.2.1 3
    have f3 := frozen_row HM3.out.2.1 3
    have d4 := row_cell HM3.out.2.1 4
    have f4 := frozen_row HM3.out.2.1 4
    simp only [List.getElem?_toArray, List.getElem?_cons_zero, List.getElem?_cons_succ] at c0 c1 c2 c3 c4 d0 d1 d2 d3 d4
    go_wp2_with fail
    exact bodyPost_ret (v := .agg #[.int .i64 nr, .int .i64 ra, .int .i64 ih, .int .i64 il, .slice (some ⟨xb, 0, none⟩) args.length xc]) (by simp [results, Try.results69, go_sem, d0, d1, d2, d3, d4]) rfl
      (HM3.out.fin hgl HRT.out)
  | false =>
  have hl1 : 0 < l.length := by omega
  obtain ⟨vb, vc', e, hvb, hvlt, hvc⟩ := OwnL.more HP.out.1 hl1
  simp only [Value.slice.injEq] at e
  obtain ⟨rfl, _, rfl⟩ := e
  clear p3
  go_upto_region 4 with fail
  go_cut [6] from 20 to 28 (fun y ws => PickAt w w1.heap.size g a len cap #[.int .i64 ar, .int .i64 df, .int .i64 bd, .slice (some ⟨vb, 0, none⟩) l.length vc] ⟨nr, ra, ⟨ih, il⟩, args⟩ (.slice (some ⟨xb, 0, none⟩) args.length xc) l y ws)
  case first =>
    have HY0 := Lib.hid (HM3.out.drew hgl)
    have HY0a := Lib.hid ((HM3.out.below hgl ((Below.refl _ _).alloc (Nat.le_refl _) (.cells #[.int .i64 0, .int .i64 0, .slice none 0 0] 35))).drew hgl)
    have HYR0 : Hid ((w3.alloc (.cells #[.int .i64 0, .int .i64 0, .slice none 0 0] 35)).drew.heap[w3.heap.size]? = some (.cells #[.int .i64 0, .int .i64 0, .slice none 0 0] 35 (0, 0))) := Lib.hid (heap_alloc_new w3 (.cells #[.int .i64 0, .int .i64 0, .slice none 0 0] 35))
    have hltX := HM3.out.lt
    have hwl := HM3.out.low
    have hP3 : w.heap.size < w3.heap.size := by omega
    have p3 := row_cell HM3.out.1 3
    simp only [List.getElem?_toArray, List.getElem?_cons_zero, List.getElem?_cons_succ] at p3
    have HQN := Lib.hid (fun W s => srcN_any g a len cap (l.length : Int) W s (by omega) (by omega))
    go_wp2_with fail
    go_region_law (go_simp; (first
      | ((with_reducible refine (HQN.out _ HY0.out.s).mono ?_); rintro e y1 ⟨v, rfl, hv0, hv1, hvz, hs1, hg1⟩; have HY1 := Lib.hid (HY0.out.src hgl ⟨hs1, hg1⟩); obtain ⟨i, rfl⟩ := Int.eq_ofNat_of_zero_le hv0; have hi : i < l.length := pick_lt hl1 hv1 hvz; have hiI : (i : Int) < (l.length : Int) := (by omega); obtain ⟨⟨⟨rnr, rac, rcs⟩, rv⟩, hxi⟩ : ∃ x, l[i]? = some x := ⟨_, List.getElem?_eq_getElem hi⟩; obtain ⟨rva, rvc, rfl⟩ : ∃ a c, rv = .slice a rcs.length c := OwnL.slice (HP.out.2.1.1 _ (List.mem_of_getElem? hxi)); obtain ⟨q0, q1, q2, _, _, _⟩ := rv_own_at (HP.out.src HY1.out.after hgb).1 hxi; have p3' := row_cell HY1.out.1 3; simp only [List.getElem?_toArray, List.getElem?_cons_zero, List.getElem?_cons_succ] at p3'; have HXI := Lib.hid hxi; have hlt1 := HY1.out.lt; have hPy : w.heap.size < y1.heap.size := (by have := HY1.out.low; omega); have hvy : vb < y1.heap.size := (by have := HY1.out.low; omega); clear hxi hv1 hvz hs1 hg1; dsimp only)
      | ((with_reducible refine (HQN.out _ HY0a.out.s).mono ?_); rintro e y1 ⟨v, rfl, hv0, hv1, hvz, hs1, hg1⟩; have HY1 := Lib.hid (HY0a.out.src hgl ⟨hs1, hg1⟩); have HYRa := Lib.hid (AfterSrc.row ⟨hs1, hg1⟩ HYR0.out (by omega)); have z0 := row_cell HYRa.out 0; have z1 := row_cell HYRa.out 1; have z2 := row_cell HYRa.out 2; have zf0 := frozen_row HYRa.out 0; have zf1 := frozen_row HYRa.out 1; have zf2 := frozen_row HYRa.out 2; simp only [List.getElem?_toArray, List.getElem?_cons_zero, List.getElem?_cons_succ] at z0 z1 z2; obtain ⟨i, rfl⟩ := Int.eq_ofNat_of_zero_le hv0; have hi : i < l.length := pick_lt hl1 hv1 hvz; have hiI : (i : Int) < (l.length : Int) := (by omega); obtain ⟨⟨⟨rnr, rac, rcs⟩, rv⟩, hxi⟩ : ∃ x, l[i]? = some x := ⟨_, List.getElem?_eq_getElem hi⟩; obtain ⟨rva, rvc, rfl⟩ : ∃ a c, rv = .slice a rcs.length c := OwnL.slice (HP.out.2.1.1 _ (List.mem_of_getElem? hxi)); obtain ⟨q0, q1, q2, _, _, _⟩ := rv_own_at (HP.out.src HY1.out.after hgb).1 hxi; have p3' := row_cell HY1.out.1 3; simp only [List.getElem?_toArray, List.getElem?_cons_zero, List.getElem?_cons_succ] at p3'; have HXI := Lib.hid hxi; have hlt1 := HY1.out.lt; have hPy : w.heap.size < y1.heap.size := (by have := HY1.out.low; omega); have hvy : vb < y1.heap.size := (by have := HY1.out.low; omega); clear hxi hv1 hvz hs1 hg1; dsimp only)))
    all_goals
      go_wp2_with fail
      go_meet
      first
        | (have hrow := HYRa.out; (with_reducible exact pick_put hrow HXI.out HY1.out hgl hltX))
        | (with_reducible exact pick_new HXI.out HY1.out hgl)
  case rest =>
  clear HM3
  obtain ⟨Y, i, ⟨⟨rnr, rac, rcs⟩, rv⟩, hxi, rfl, hrow, hYX, hm⟩ := hcut
  have hmem := List.mem_of_getElem? hxi
  obtain ⟨rva, rvc, rfl⟩ : ∃ a c, rv = .slice a rcs.length c := OwnL.slice (HP.out.2.1.1 _ hmem)
  have HCS : Hid (CqOwn base w (.slice rva rcs.length rvc) rcs) := Lib.hid (HP.out.2.1.1 _ hmem)
  have HFX := Lib.hid (HF.out _ hmem)
  have y0 := row_cell hrow 0
  have y1 := row_cell hrow 1
  have y2 := row_cell hrow 2
  simp only [List.getElem?_toArray, List.getElem?_cons_zero, List.getElem?_cons_succ] at y0 y1 y2
  have hq := specRuleRight_any rnr rac rcs (.slice rva rcs.length rvc) wc (OwnL.lAt cqS (own_src HCS.out hm.after hgb) HFX.out.2.1)
  have hrc5 : rcs.length ≤ 5 := HFX.out.2.2
  have HROW := Lib.hid hrow
  have HM := Lib.hid hm
  clear hrow hm hxi hmem
  cases hR : rlRight ⟨rnr, rac, rcs⟩ with
  | false =>
    rw [hR] at hq
    have HQ := Lib.hid hq
    clear hq hR
    go_wp2_with fail
    refine HQ.out.mono ?_
    rintro e w4 ⟨rfl, hb4⟩
    have HM4 := Lib.hid (HM.out.below hgl hb4)
    clear hb4 y0 y1 y2
    have c0 := row_cell HM4.out.2.2.1 0
    have c1 := row_cell HM4.out.2.2.1 1
    have c2 := row_cell HM4.out.2.2.1 2
    have c3 := row_cell HM4.out.2.2.1 3
    have c4 := row_cell HM4.out.2.2.1 4
    have d0 := row_cell HM4.out.2.1 0
    have f0 := frozen_row HM4.out.2.1 0
    have d1 := row_cell HM4.out.2.1 1
    have f1 := frozen_row HM4.out.2.1 1
    have d2 := row_cell HM4.out.2.1 2
    have f2 := frozen_row HM4.out.2.1 2
    have d3 := row_cell HM4.out.2.1 3
    have f3 := frozen_row HM4.out.2.1 3
    have d4 := row_cell HM4.out.2.1 4
    have f4 := frozen_row HM4.out.2.1 4
    simp only [List.getElem?_toArray, List.getElem?_cons_zero, List.getElem?_cons_succ] at c0 c1 c2 c3 c4 d0 d1 d2 d3 d4
    go_wp2_with fail
    exact bodyPost_ret (v := .agg #[.int .i64 nr, .int .i64 ra, .int .i64 ih, .int .i64 il, .slice (some ⟨xb, 0, none⟩) args.length xc]) (by simp [results, Try.results69, go_sem, d0, d1, d2, d3, d4]) rfl
      (HM4.out.fin hgl HRT.out)
  | true =>
  rw [hR] at hq
  have HQ := Lib.hid hq
  have HR := Lib.hid hR
  clear hq hR
  go_wp2_with fail
  refine HQ.out.mono ?_
  rintro e w4 ⟨rfl, hb4⟩
  have HM4 := Lib.hid (HM.out.below hgl hb4)
  have HY4 := Lib.hid (keep_row hb4 HROW.out)
  clear hb4 y0 y1 y2 HM HROW HQ
  have y0 := row_cell HY4.out 0
  have x0 := row_cell HM4.out.2.2.1 0
  have f0 := frozen_row HM4.out.2.2.1 0
  simp only [List.getElem?_toArray, List.getElem?_cons_zero, List.getElem?_cons_succ] at y0 x0
  have HM5 := Lib.hid (HM4.out.putNr hgl rnr)
  have HY5 := Lib.hid (row_other HY4.out 0 (.int .i64 rnr) (h := w1.heap.size) (by omega))
  go_upto_region 8 with fail
  generalize w4.setCell ⟨w1.heap.size, 0, none⟩ (.int .i64 rnr) = w5 at *
  clear y0 x0 f0 HM4 HY4
  go_wp2_with fail
  go_loopw [7] (fun i wr => ∃ (k : Nat) (args' : List Wd), k ≤ rcs.length ∧ i = .int .i64 k ∧ Aside (args'.length = 6 ∧ args'.all wdRight = true ∧ NMid w w1.heap.size g a len cap #[.int .i64 ar, .int .i64 df, .int .i64 bd, .slice (some ⟨vb, 0, none⟩) l.length vc] ⟨rnr, ra, ⟨ih, il⟩, args'⟩ (.slice (some ⟨xb, 0, none⟩) args.length xc) wr ∧ wr.heap[Y]? = some (.cells #[.int .i64 rnr, .int .i64 rac, .slice rva rcs.length rvc] 35 (0, 0))))
    (fun i _ => rcs.length - (intOf i).toNat)
  case atStart => exact ⟨0, args, by omega, rfl, H6.out, HALL.out, HM5.out, HY5.out⟩
  case round =>
    obtain ⟨k, args', hk, rfl, hrel⟩ := hrel
    have HX := Lib.hid hrel
    clear hrel HM5 HY5
    have y2 := row_cell HX.out.2.2.2 2
    simp only [List.getElem?_toArray, List.getElem?_cons_zero, List.getElem?_cons_succ] at y2
    by_cases hlt : k < rcs.length
    · obtain ⟨cb, cc, e, hcb, hcblt, hcc⟩ := OwnL.more HCS.out (by omega)
      simp only [Value.slice.injEq] at e
      obtain ⟨rfl, _, rfl⟩ := e
      obtain ⟨⟨xa, xo, xmh, xml, xvh, xvl⟩, hck⟩ : ∃ x, rcs[k]? = some x := ⟨_, List.getElem?_eq_getElem hlt⟩
      have hcr : cqRight ⟨xa, xo, xmh, xml, xvh, xvl⟩ = true := by
        have := (rlRight_cs HR.out).2 k hlt
        rw [cqAt_eq hlt] at this
        rw [List.getElem?_eq_getElem hlt] at hck
        injection hck with hck
        rwa [hck] at this
      obtain ⟨_, _, hvr⟩ := cqRight_parts hcr
      have hva := cqRight_arg hcr
      have hvb' := wd_bounds hvr
      simp only at hva hvb'
      obtain ⟨m, rfl⟩ := Int.eq_ofNat_of_zero_le hva.1
      have hm5 : m < 6 := by omega
      have HCK := Lib.hid hck
      obtain ⟨_, _, _, _, q4, q5, _⟩ := cq_own_at (own_src HCS.out HX.out.2.2.1.after hgb) hck
      have HMa := Lib.hid (HX.out.2.2.1.below hgl ((Below.refl _ _).alloc (Nat.le_refl _) (.cells #[.int .i64 xvh, .int .i64 xvl] 24)))
      have hcbr : cb < wr.heap.size := by have := HX.out.2.2.1.lt; have := HX.out.2.2.1.low; omega
      have hgr : g < wr.heap.size := by have := HX.out.2.2.1.lt; have := HX.out.2.2.1.low; omega
      have hYr : Y < wr.heap.size := row_here HX.out.2.2.2
      have hlow := HX.out.2.2.1.low
      clear hck hcr hvr hva
      go_wp2_with fail
      refine (srcN_any g a len cap 6 _ HMa.out.s (by omega) (by omega)).mono ?_
      rintro e w6 ⟨v, rfl, hv0, hv1, _, hs6, hg6⟩
      have HM6 := Lib.hid (HMa.out.src hgl ⟨hs6, hg6⟩)
      have HY6 := Lib.hid (AfterSrc.row ⟨hs6, hg6⟩ (row_alloc HX.out.2.2.2 (.cells #[.int .i64 xvh, .int .i64 xvl] 24)) (by omega))
      have HZ6 := Lib.hid (AfterSrc.row ⟨hs6, hg6⟩ (heap_alloc_new wr (.cells #[.int .i64 xvh, .int .i64 xvl] 24)) (by omega))
      have hXr : w1.heap.size < wr.heap.size := HX.out.2.2.1.lt
      have HA6 := Lib.hid (And.intro HX.out.1 HX.out.2.1)
      clear hv1 hs6 hg6 HMa HX y2 q4 q5
      go_upto_block 2 with fail
      go_cut [] from 51 to 71 (fun ws => ∃ h' l' : Int, wdRight ⟨h', l'⟩ = true ∧ ws.heap[wr.heap.size]? = some (.cells #[.int .i64 h', .int .i64 l'] 24 (0, 0)) ∧ ws.heap[Y]? = some (.cells #[.int .i64 rnr, .int .i64 rac, .slice (some ⟨cb, 0, none⟩) rcs.length rvc] 35 (0, 0)) ∧ NMid w w1.heap.size g a len cap #[.int .i64 ar, .int .i64 df, .int .i64 bd, .slice (some ⟨vb, 0, none⟩) l.length vc] ⟨rnr, ra, ⟨ih, il⟩, args'⟩ (.slice (some ⟨xb, 0, none⟩) args.length xc) ws)
      case first =>
        have z0 := row_cell HZ6.out 0
        have z1 := row_cell HZ6.out 1
        have f0 := frozen_row HZ6.out 0
        have f1 := frozen_row HZ6.out 1
        simp only [List.getElem?_toArray, List.getElem?_cons_zero, List.getElem?_cons_succ] at z0 z1
        by_cases h0 : v = 0
        · subst h0
          obtain ⟨n, hn⟩ : ∃ n : Int, n = if xvl - 1 < 0 then 0 else xvl - 1 := ⟨_, rfl⟩
          have hn0 : 0 ≤ n ∧ n ≤ 4294967295 := by rw [hn]; split <;> omega
          have HC := Lib.hid (fun W => l01Max_any 0 (xvl - 1) W)
          rw [← hn] at HC
          clear hn
          go_wp2_with fail
          refine (HC.out _).mono ?_
          rintro e w7 ⟨rfl, rfl⟩
          go_wp2_with fail
          go_meet
          exact ⟨xvh, n, by unfold wdRight isB; simp; omega, row_put HZ6.out 1 _, row_other HY6.out _ _ (by omega), HM6.out.putZ hgl hXr 1 _⟩
        have e0 : (v == 0) = false := by simpa using h0
        by_cases h1 : v = 1
        · subst h1
          obtain ⟨n, hn⟩ : ∃ n : Int, n = if 4294967295 < xvl + 1 then 4294967295 else xvl + 1 := ⟨_, rfl⟩
          have hn0 : 0 ≤ n ∧ n ≤ 4294967295 := by rw [hn]; split <;> omega
          have HC := Lib.hid (fun W => l01Min_any 4294967295 (xvl + 1) W)
          rw [← hn] at HC
          clear hn
          go_wp2_with fail
          refine (HC.out _).mono ?_
          rintro e w7 ⟨rfl, rfl⟩
          go_wp2_with fail
          go_meet
          exact ⟨xvh, n, by unfold wdRight isB; simp; omega, row_put HZ6.out 1 _, row_other HY6.out _ _ (by omega), HM6.out.putZ hgl hXr 1 _⟩
        have e1 : (v == 1) = false := by simpa using h1
        by_cases h2 : v = 2
        · subst h2
          obtain ⟨n, hn⟩ : ∃ n : Int, n = if 4294967295 < xvh + 1 then 4294967295 else xvh + 1 := ⟨_, rfl⟩
          have hn0 : 0 ≤ n ∧ n ≤ 4294967295 := by rw [hn]; split <;> omega
          have HC := Lib.hid (fun W => l01Min_any 4294967295 (xvh + 1) W)
          rw [← hn] at HC
          clear hn
          go_wp2_with fail
          refine (HC.out _).mono ?_
          rintro e w7 ⟨rfl, rfl⟩
          go_wp2_with fail
          go_meet
          exact ⟨n, xvl, by unfold wdRight isB; simp; omega, row_put HZ6.out 0 _, row_other HY6.out _ _ (by omega), HM6.out.putZ hgl hXr 0 _⟩
        · have e2 : (v == 2) = false := by simpa using h2
          go_wp2_with fail
          go_meet
          exact ⟨xvh, xvl, by unfold wdRight isB; simp; omega, HZ6.out, HY6.out, HM6.out⟩
      case rest =>
      obtain ⟨h', l', hr', hz, hy, hm⟩ := hcut
      clear HM6 HY6 HZ6
      have z0 := row_cell hz 0
      have z1 := row_cell hz 1
      have y2 := row_cell hy 2
      have x4 := row_cell hm.2.2.1 4
      simp only [List.getElem?_toArray, List.getElem?_cons_zero, List.getElem?_cons_succ] at z0 z1 y2 x4
      have q0 := (cq_own_at (own_src HCS.out hm.after hgb) HCK.out).1
      have hl6 : args'.length = args.length := by rw [HA6.out.1, H6.out]
      have hmlt : m < args'.length := by rw [HA6.out.1]; exact hm5
      have hown : WdOwn (w.heap.size + 2) wc (.slice (some ⟨xb, 0, none⟩) args'.length xc) args' := by rw [hl6]; exact hm.own
      obtain ⟨d0, d1, g0, g1⟩ := wd_own_at hown (List.getElem?_eq_getElem hmlt)
      have hmlt2 : m < args.length := by rw [← hl6]; exact hmlt
      have hmI : (m : Int) < (args.length : Int) := by omega
      have HM7 := Lib.hid (hm.putArg hgl m hmlt ⟨h', l'⟩)
      have HY7 := Lib.hid (row_other (row_other hy (m * 2) (.int .i64 h') (h := xb) (by have := hm.2.2.2.2.1 xb rfl; omega)) (m * 2 + 1) (.int .i64 l') (h := xb) (by have := hm.2.2.2.2.1 xb rfl; omega))
      have HA7 := Lib.hid (And.intro (show (args'.set m ⟨h', l'⟩).length = 6 by rw [List.length_set]; exact HA6.out.1) (all_set HA6.out.2 hr' m))
      clear hz hy hm hr' hown hl6
      go_wp2_with fail
      refine wp_region_still_tail 10 (by kernel_rfl) (by kernel_rfl) ?_
      simp only [List.take_succ_cons, List.take_zero, List.drop_succ_cons, List.drop_zero, World.drew_eq]
      repeat still_step
      refine wpStill_nil ?_
      go_wp2_with fail
      go_roundw
      case rel => exact ⟨k + 1, _, by omega, by go_num, HA7.out.1, HA7.out.2, HM7.out.drew hgl, HY7.out⟩
      case measure => simp [intOf]; omega
    · have HRG := Lib.hid (rcRight_mk (x := ⟨rnr, ra, ⟨ih, il⟩, args'⟩) (by have := HR.out; unfold rlRight isB at this; simp only [Bool.and_eq_true, decide_eq_true_eq] at this; exact this.1.1.1) hra HIP.out HX.out.1 HX.out.2.1)
      have HM8 := Lib.hid HX.out.2.2.1
      have c0 := row_cell HM8.out.2.2.1 0
      have c1 := row_cell HM8.out.2.2.1 1
      have c2 := row_cell HM8.out.2.2.1 2
      have c3 := row_cell HM8.out.2.2.1 3
      have c4 := row_cell HM8.out.2.2.1 4
      have d0 := row_cell HM8.out.2.1 0
      have f0 := frozen_row HM8.out.2.1 0
      have d1 := row_cell HM8.out.2.1 1
      have f1 := frozen_row HM8.out.2.1 1
      have d2 := row_cell HM8.out.2.1 2
      have f2 := frozen_row HM8.out.2.1 2
      have d3 := row_cell HM8.out.2.1 3
      have f3 := frozen_row HM8.out.2.1 3
      have d4 := row_cell HM8.out.2.1 4
      have f4 := frozen_row HM8.out.2.1 4
      simp only [List.getElem?_toArray, List.getElem?_cons_zero, List.getElem?_cons_succ] at c0 c1 c2 c3 c4 d0 d1 d2 d3 d4
      go_wp2_with fail
      exact bodyPost_ret (v := .agg #[.int .i64 rnr, .int .i64 ra, .int .i64 ih, .int .i64 il, .slice (some ⟨xb, 0, none⟩) args.length xc]) (by simp [results, Try.results69, go_sem, d0, d1, d2, d3, d4]) rfl
        (HM8.out.fin hgl HRG.out)

end Go.Proofs.Ytmnmaijifhojiaa

/- What the laws of rules draw: comparisons, rules, records. -/
set_option maxRecDepth 100000
set_option linter.unusedSimpArgs false
set_option linter.unusedVariables false
namespace Go.Proofs.Ytmnmaijifhojiaa
open Go.RowKit
attribute [local go_sem ↓] Go.wp_at_zero Go.wp_at_succ

/-- What a draw's walk carries: two results, the source. -/
def DMid (w w1 : World) (a : Option Addr) (len cap : Nat) (o0 o1 : Obj) (W : World) : Prop :=
  W.heap[w.heap.size]? = some o0 ∧ W.heap[w.heap.size + 1]? = some o1 ∧ AfterSrc (w.heap.size + 1 + 1) a len cap w1 W ∧ Below w.heap.size w w1 ∧ w.heap.size + 1 + 1 < w1.heap.size
section
variable {w w1 W W' : World} {a : Option Addr} {len cap : Nat} {o0 o1 : Obj}
theorem DMid.s (h : DMid w w1 a len cap o0 o1 W) : Src W (w.heap.size + 1 + 1) a len cap := h.2.2.1.1
theorem DMid.src (h : DMid w w1 a len cap o0 o1 W) (ha : AfterSrc (w.heap.size + 1 + 1) a len cap W W') : DMid w w1 a len cap o0 o1 W' :=
  ⟨ha.row h.1 (by omega), ha.row h.2.1 (by omega), h.2.2.1.trans ha, h.2.2.2⟩
theorem DMid.below (h : DMid w w1 a len cap o0 o1 W) (hb : Below W.heap.size W W') : DMid w w1 a len cap o0 o1 W' := h.src (AfterSrc.of_below h.s hb)
theorem DMid.more (h : DMid w w1 a len cap o0 o1 W) (o : Obj) : DMid w w1 a len cap o0 o1 (W.alloc o) := h.below ((Below.refl _ _).alloc (Nat.le_refl _) _)
theorem DMid.drew (h : DMid w w1 a len cap o0 o1 W) : DMid w w1 a len cap o0 o1 W.drew := h.src (AfterSrc.refl h.s).drew
theorem DMid.size (h : DMid w w1 a len cap o0 o1 W) : w1.heap.size ≤ W.heap.size := h.2.2.1.2.size
theorem DMid.low (h : DMid w w1 a len cap o0 o1 W) : w.heap.size + 1 + 1 < w1.heap.size := h.2.2.2.2
theorem DMid.put (h : DMid w w1 a len cap o0 o1 W) {Z : Nat} (hZ : w1.heap.size ≤ Z) (i : Nat) (v : Value) : DMid w w1 a len cap o0 o1 (W.setCell ⟨Z, i, none⟩ v) :=
  have hlt := h.low
  ⟨row_other h.1 _ _ (by omega), row_other h.2.1 _ _ (by omega), h.2.2.1.put hlt (p := ⟨Z, i, none⟩) hZ _, h.2.2.2⟩
theorem DMid.bel (h : DMid w w1 a len cap o0 o1 W) : Below w.heap.size w W := h.2.2.2.1.trans (h.2.2.1.below (by omega) (by have := h.low; omega))
end
theorem OwnRv.lit {w : World} {base : Nat} {nr ac : Int} {cs : List Cq} {v : Value} (h : CqOwn base w v cs) (hb : base ≤ w.heap.size) : OwnRv base (w.alloc (.cells #[.int .i64 nr, .int .i64 ac, v] 35)) (.slice (some ⟨w.heap.size, 0, none⟩) 1 1) [⟨⟨nr, ac, cs⟩, v⟩] := by
  refine ⟨⟨rfl, .inr ⟨w.heap.size, 1, _, rfl, hb, heap_alloc_new w _, Nat.le_refl _, by unfold maxLen; simp, rfl, rfl⟩⟩, ⟨fun x hx => ?_, by simp⟩, fun x hx g hg e => ?_⟩
  · obtain rfl : x = ⟨⟨nr, ac, cs⟩, v⟩ := by simpa using hx
    exact OwnL.alloc h _
  · obtain rfl : x = ⟨⟨nr, ac, cs⟩, v⟩ := by simpa using hx
    have h1 := (OwnL.lt h g hg).2
    simp [Value.ownBlock] at e
    omega
theorem rcRight_wfs {x : Rc} (h : rcRight x = true) : ∀ u ∈ x.args, u.wf := fun u hu => wf_of_right (List.all_eq_true.1 (rcRight_p5 h).2.2.2.2 u hu)
theorem draw_start {w : World} {a : Option Addr} {len cap : Nat} (c0 : Array Value) (T0 : TypeId) (c1 : Array Value) (T1 : TypeId) (hcode : CodeAt w w.heap.size a len cap) :
    Calls Try.prog 57 #[.slice a len cap] ((w.alloc (.cells c0 T0)).alloc (.cells c1 T1)) fun e w' => e = .returned (.pointer (some ⟨w.heap.size + 1 + 1, 0, none⟩)) ∧ DMid w w' a len cap (.cells c0 T0 (0, 0)) (.cells c1 T1 (0, 0)) w' := by
  have hb0 := rows2 (Below.refl _ ((w.alloc (.cells c0 T0)).alloc (.cells c1 T1)))
  have hq := source_any a len cap ((w.alloc (.cells c0 T0)).alloc (.cells c1 T1)) ((hcode.below hb0.2.2.1).upTo (by simp; omega))
  simp only [World.size_alloc] at hq
  refine hq.mono ?_
  rintro e w' ⟨rfl, hs1, hb1⟩
  exact ⟨rfl, (hb1.block w.heap.size (by omega)).trans hb0.1, (hb1.block (w.heap.size + 1) (by omega)).trans hb0.2.1, AfterSrc.refl hs1, hb0.2.2.1.trans (hb1.mono (by omega)), hs1.lt⟩

set_option maxHeartbeats 3200000 in
theorem drawCmpHolds_any (a : Option Addr) (len cap : Nat) (w : World) (hcode : CodeAt w w.heap.size a len cap) :
    Calls Try.prog 13 #[.slice a len cap] w fun e w' => ∃ (c : Cq) (h l : Int), e = .returned (.tuple #[cqV c, .agg #[.int .i64 h, .int .i64 l]]) ∧ Below w.heap.size w w' := by
  have HQ := Lib.hid (draw_start #[.int .i64 0, .int .i64 0, .int .i64 0, .int .i64 0, .int .i64 0, .int .i64 0] 26 #[.int .i64 0, .int .i64 0] 24 hcode)
  clear hcode
  go_enter Try.func13, Try.ntmps13
  go_wp2_with fail
  refine HQ.out.mono ?_
  rintro e w1 ⟨rfl, hm1⟩
  have HM1 := Lib.hid hm1
  have hlow := hm1.low
  clear hm1 HQ
  go_wp2_with fail
  refine (srcN_any (w.heap.size + 1 + 1) a len cap 6 _ HM1.out.s (by omega) (by omega)).mono ?_
  rintro e w2 ⟨v, rfl, hv0, hv1, _, hs2, hg2⟩
  have HM2 := Lib.hid (HM1.out.src ⟨hs2, hg2⟩)
  clear hv1 hs2 hg2 hv0
  go_wp2_with fail
  refine (srcCmpOf_any (w.heap.size + 1 + 1) a len cap v _ HM2.out.s).mono ?_
  rintro e w3 ⟨⟨xa, xo, xmh, xml, xvh, xvl⟩, rfl, hxa, hxd, ha3⟩
  clear hxa hxd
  have HM3 := Lib.hid ((HM2.out.src ha3).more (.cells #[.int .i64 xa, .int .i64 xo, .int .i64 xmh, .int .i64 xml, .int .i64 xvh, .int .i64 xvl] 26))
  have HX3 := Lib.hid (heap_alloc_new w3 (.cells #[.int .i64 xa, .int .i64 xo, .int .i64 xmh, .int .i64 xml, .int .i64 xvh, .int .i64 xvl] 26))
  have hl3 := (HM2.out.src ha3).size
  clear ha3
  go_wp2_with fail
  refine (srcWord_any (w.heap.size + 1 + 1) a len cap _ HM3.out.s).mono ?_
  rintro e w4 ⟨wh, wl, rfl, _, ha4⟩
  have HM4 := Lib.hid ((HM3.out.src ha4).more (.cells #[.int .i64 wh, .int .i64 wl] 24))
  have HX4 := Lib.hid (row_alloc (ha4.row HX3.out (by omega)) (.cells #[.int .i64 wh, .int .i64 wl] 24))
  have HY4 := Lib.hid (heap_alloc_new w4 (.cells #[.int .i64 wh, .int .i64 wl] 24))
  have hl4 : w3.heap.size < w4.heap.size := row_here (ha4.row HX3.out (by omega))
  clear ha4
  go_wp2_with fail
  refine (srcOne_any (w.heap.size + 1 + 1) a len cap 2 _ HM4.out.s (by omega) (by omega)).mono ?_
  rintro e w5 ⟨b, rfl, ha5⟩
  have HM5 := Lib.hid (HM4.out.src ha5)
  have HX5 := Lib.hid (ha5.row HX4.out (by omega))
  have HY5 := Lib.hid (ha5.row HY4.out (by omega))
  clear ha5
  go_upto_if 16 with fail
  go_cut [] from 17 to 18 (fun ws => ∃ h l : Int, ws.heap[w3.heap.size]? = some (.cells #[.int .i64 xa, .int .i64 xo, .int .i64 xmh, .int .i64 xml, .int .i64 xvh, .int .i64 xvl] 26 (0, 0)) ∧ ws.heap[w4.heap.size]? = some (.cells #[.int .i64 h, .int .i64 l] 24 (0, 0)) ∧ DMid w w1 a len cap (.cells #[.int .i64 0, .int .i64 0, .int .i64 0, .int .i64 0, .int .i64 0, .int .i64 0] 26 (0, 0)) (.cells #[.int .i64 0, .int .i64 0] 24 (0, 0)) ws)
  case first =>
    cases b
    · go_wp2_with fail
      go_meet
      exact ⟨wh, wl, HX5.out, HY5.out, HM5.out⟩
    · have x4 := row_cell HX5.out 4
      have x5 := row_cell HX5.out 5
      have y0 := row_cell HY5.out 0
      have y1 := row_cell HY5.out 1
      have f0 := frozen_row HY5.out 0
      have f1 := frozen_row HY5.out 1
      simp only [List.getElem?_toArray, List.getElem?_cons_zero, List.getElem?_cons_succ] at x4 x5 y0 y1
      go_wp2_with fail
      go_meet
      exact ⟨xvh, xvl, row_other (row_other HX5.out _ _ (by omega)) _ _ (by omega), row_put (row_put HY5.out 0 _) 1 _, (HM5.out.put (Z := w4.heap.size) (by omega) 0 _).put (Z := w4.heap.size) (by omega) 1 _⟩
  case rest =>
  obtain ⟨rh, rl, hx, hy, hm⟩ := hcut
  clear HM1 HM2 HM3 HM4 HM5 HX3 HX4 HX5 HY4 HY5
  have HM := Lib.hid hm
  have h0 := row_cell hm.1 0
  have h1 := row_cell hm.1 1
  have h2 := row_cell hm.1 2
  have h3 := row_cell hm.1 3
  have h4 := row_cell hm.1 4
  have h5 := row_cell hm.1 5
  have hf0 := frozen_row hm.1 0
  have hf1 := frozen_row hm.1 1
  have hf2 := frozen_row hm.1 2
  have hf3 := frozen_row hm.1 3
  have hf4 := frozen_row hm.1 4
  have hf5 := frozen_row hm.1 5
  have i0 := row_cell hm.2.1 0
  have i1 := row_cell hm.2.1 1
  have if0 := frozen_row hm.2.1 0
  have if1 := frozen_row hm.2.1 1
  have x0 := row_cell hx 0
  have x1 := row_cell hx 1
  have x2 := row_cell hx 2
  have x3 := row_cell hx 3
  have x4 := row_cell hx 4
  have x5 := row_cell hx 5
  have y0 := row_cell hy 0
  have y1 := row_cell hy 1
  simp only [List.getElem?_toArray, List.getElem?_cons_zero, List.getElem?_cons_succ] at h0 h1 h2 h3 h4 h5 i0 i1 x0 x1 x2 x3 x4 x5 y0 y1
  clear hm hx hy
  go_wp2_with fail
  go_region
  all_goals
    go_wp2_with fail
    exact bodyPost_ret (v := .tuple #[.agg #[.int .i64 xa, .int .i64 xo, .int .i64 xmh, .int .i64 xml, .int .i64 xvh, .int .i64 xvl], .agg #[.int .i64 rh, .int .i64 rl]]) (by simp [results, Try.results13, go_sem, h0, h1, h2, h3, h4, h5, i0, i1]) rfl
      ⟨⟨xa, xo, xmh, xml, xvh, xvl⟩, rh, rl, rfl, ((((((((HM.out.bel.setCell (p := ⟨w.heap.size, 0, none⟩) (Nat.le_refl _) _).setCell (p := ⟨w.heap.size, 1, none⟩) (Nat.le_refl _) _).setCell (p := ⟨w.heap.size, 2, none⟩) (Nat.le_refl _) _).setCell (p := ⟨w.heap.size, 3, none⟩) (Nat.le_refl _) _).setCell (p := ⟨w.heap.size, 4, none⟩) (Nat.le_refl _) _).setCell (p := ⟨w.heap.size, 5, none⟩) (Nat.le_refl _) _).setCell (p := ⟨w.heap.size + 1, 0, none⟩) (show w.heap.size ≤ w.heap.size + 1 by omega) _).setCell (p := ⟨w.heap.size + 1, 1, none⟩) (show w.heap.size ≤ w.heap.size + 1 by omega) _).drew⟩

set_option maxHeartbeats 6400000 in
theorem drawRuleHolds_any (a : Option Addr) (len cap : Nat) (w : World) (hcode : CodeAt w w.heap.size a len cap) :
    Calls Try.prog 20 #[.slice a len cap] w fun e w' => ∃ (r : Rl) (u : Value) (rc : Rc) (xu : Value), e = .returned (.tuple #[rlV r u, rcV rc xu]) ∧ CqAt w' w'.heap.size u r.cs ∧ WdAt w' w'.heap.size xu rc.args ∧ Below w.heap.size w w' := by
  have HQ := Lib.hid (draw_start #[.int .i64 0, .int .i64 0, .slice none 0 0] 35 #[.int .i64 0, .int .i64 0, .int .i64 0, .int .i64 0, .slice none 0 0] 45 hcode)
  clear hcode
  go_enter Try.func20, Try.ntmps20
  go_wp2_with fail
  refine HQ.out.mono ?_
  rintro e w1 ⟨rfl, hm1⟩
  have HM1 := Lib.hid hm1
  have hlow := hm1.low
  clear hm1 HQ
  go_wp2_with fail
  refine (srcOddR_any (w.heap.size + 1 + 1) a len cap _ HM1.out.s).mono ?_
  rintro e w3 ⟨⟨nr, ac, cs⟩, u, rfl, hwf, hcw, hc5, hcq, ha3⟩
  obtain ⟨ua, ucap, rfl⟩ := OwnL.slice hcq
  have hm3 := HM1.out.src ha3
  have HM3 := Lib.hid (hm3.more (.cells #[.int .i64 nr, .int .i64 ac, .slice ua cs.length ucap] 35))
  have HX3 := Lib.hid (heap_alloc_new w3 (.cells #[.int .i64 nr, .int .i64 ac, .slice ua cs.length ucap] 35))
  have HO3 := Lib.hid (OwnL.alloc hcq (.cells #[.int .i64 nr, .int .i64 ac, .slice ua cs.length ucap] 35) : CqOwn w1.heap.size _ (.slice ua cs.length ucap) cs)
  have HCW := Lib.hid hcw
  have hrf : RlsFine [⟨⟨nr, ac, cs⟩, .slice ua cs.length ucap⟩] := fun x hx => by
    obtain rfl : x = ⟨⟨nr, ac, cs⟩, .slice ua cs.length ucap⟩ := (by simpa using hx)
    exact ⟨hwf, hcw, hc5⟩
  have HRF := Lib.hid hrf
  have H60 := Lib.hid (show [(⟨⟨nr, ac, cs⟩, .slice ua cs.length ucap⟩ : Rv)].length ≤ 60 by simp)
  clear hrf
  have hl3 := hm3.size
  clear hwf hcw hc5 ha3 hm3
  go_upto_region 3 with fail
  generalize hw5 : w3.alloc (.cells #[.int .i64 nr, .int .i64 ac, .slice ua cs.length ucap] 35) = w5 at *
  have hs5 : w3.heap.size < w5.heap.size := by rw [← hw5]; simp
  clear hw5 hcq
  have c0 := row_cell HX3.out 0
  have c1 := row_cell HX3.out 1
  have c2 := row_cell HX3.out 2
  simp only [List.getElem?_toArray, List.getElem?_cons_zero, List.getElem?_cons_succ] at c0 c1 c2
  have HLP := Lib.hid ((OwnRv.lit (nr := nr) (ac := ac) HO3.out HM3.out.size).below ((Below.refl _ _).drew))
  have HL := Lib.hid ((HM3.out.more (.cells #[.int .i64 nr, .int .i64 ac, .slice ua cs.length ucap] 35)).drew)
  have HXL : Hid ((w5.alloc (.cells #[.int .i64 nr, .int .i64 ac, .slice ua cs.length ucap] 35)).drew.heap[w3.heap.size]? = some (.cells #[.int .i64 nr, .int .i64 ac, .slice ua cs.length ucap] 35 (0, 0))) := Lib.hid (row_alloc HX3.out _)
  have HOL := Lib.hid (OwnL.below (OwnL.alloc HO3.out (.cells #[.int .i64 nr, .int .i64 ac, .slice ua cs.length ucap] 35) : CqOwn w1.heap.size (w5.alloc (.cells #[.int .i64 nr, .int .i64 ac, .slice ua cs.length ucap] 35)) (.slice ua cs.length ucap) cs) ((Below.refl _ _).drew))
  go_wp2_with fail
  go_region_law ((go_simp; (with_reducible refine (srcNear_any (w.heap.size + 1 + 1) a len cap w1.heap.size 0 0 0 _ [⟨⟨nr, ac, cs⟩, .slice ua cs.length ucap⟩] _ HL.out.s HLP.out hlow HRF.out H60.out).mono ?_); rintro e w6 ⟨⟨zn, za, ⟨zh, zl⟩, args⟩, xu, rfl, hrr, hwo, ha6⟩; obtain ⟨xa, xc, rfl⟩ := OwnL.slice hwo; have HM6 := Lib.hid (HL.out.src ha6); have HO6 := Lib.hid (own_src HOL.out ha6 hlow); have HW6 := Lib.hid (OwnL.base hwo (HL.out.size)); have HRR := Lib.hid hrr; have hx6 := ha6.row HXL.out (by omega); have c0' := row_cell hx6 0; have c1' := row_cell hx6 1; have c2' := row_cell hx6 2; have h0 := row_cell HM6.out.1 0; have h1 := row_cell HM6.out.1 1; have h2 := row_cell HM6.out.1 2; have hf0 := frozen_row HM6.out.1 0; have hf1 := frozen_row HM6.out.1 1; have hf2 := frozen_row HM6.out.1 2; have i0 := row_cell HM6.out.2.1 0; have i1 := row_cell HM6.out.2.1 1; have i2 := row_cell HM6.out.2.1 2; have i3 := row_cell HM6.out.2.1 3; have i4 := row_cell HM6.out.2.1 4; have if0 := frozen_row HM6.out.2.1 0; have if1 := frozen_row HM6.out.2.1 1; have if2 := frozen_row HM6.out.2.1 2; have if3 := frozen_row HM6.out.2.1 3; have if4 := frozen_row HM6.out.2.1 4; simp only [List.getElem?_toArray, List.getElem?_cons_zero, List.getElem?_cons_succ] at h0 h1 h2 i0 i1 i2 i3 i4 c0' c1' c2'; clear hrr hwo hx6 ha6; dsimp only))
  all_goals
    go_wp2_with fail
    exact bodyPost_ret (v := .tuple #[.agg #[.int .i64 nr, .int .i64 ac, .slice ua cs.length ucap], .agg #[.int .i64 zn, .int .i64 za, .int .i64 zh, .int .i64 zl, .slice xa args.length xc]]) (by simp [results, Try.results20, go_sem, h0, h1, h2, i0, i1, i2, i3, i4]) rfl
      ⟨⟨nr, ac, cs⟩, _, ⟨zn, za, ⟨zh, zl⟩, args⟩, _, rfl, OwnL.lAt cqS ((((((((HO6.out.setBelow (a := ⟨w.heap.size, 0, none⟩) (show w.heap.size < w1.heap.size by omega) _).setBelow (a := ⟨w.heap.size, 1, none⟩) (show w.heap.size < w1.heap.size by omega) _).setBelow (a := ⟨w.heap.size, 2, none⟩) (show w.heap.size < w1.heap.size by omega) _).setBelow (a := ⟨w.heap.size + 1, 0, none⟩) (show w.heap.size + 1 < w1.heap.size by omega) _).setBelow (a := ⟨w.heap.size + 1, 1, none⟩) (show w.heap.size + 1 < w1.heap.size by omega) _).setBelow (a := ⟨w.heap.size + 1, 2, none⟩) (show w.heap.size + 1 < w1.heap.size by omega) _).setBelow (a := ⟨w.heap.size + 1, 3, none⟩) (show w.heap.size + 1 < w1.heap.size by omega) _).setBelow (a := ⟨w.heap.size + 1, 4, none⟩) (show w.heap.size + 1 < w1.heap.size by omega) _) HCW.out, OwnL.lAt wdS ((((((((HW6.out.setBelow (a := ⟨w.heap.size, 0, none⟩) (show w.heap.size < w1.heap.size by omega) _).setBelow (a := ⟨w.heap.size, 1, none⟩) (show w.heap.size < w1.heap.size by omega) _).setBelow (a := ⟨w.heap.size, 2, none⟩) (show w.heap.size < w1.heap.size by omega) _).setBelow (a := ⟨w.heap.size + 1, 0, none⟩) (show w.heap.size + 1 < w1.heap.size by omega) _).setBelow (a := ⟨w.heap.size + 1, 1, none⟩) (show w.heap.size + 1 < w1.heap.size by omega) _).setBelow (a := ⟨w.heap.size + 1, 2, none⟩) (show w.heap.size + 1 < w1.heap.size by omega) _).setBelow (a := ⟨w.heap.size + 1, 3, none⟩) (show w.heap.size + 1 < w1.heap.size by omega) _).setBelow (a := ⟨w.heap.size + 1, 4, none⟩) (show w.heap.size + 1 < w1.heap.size by omega) _) (rcRight_wfs HRR.out), ((((((((HM6.out.bel.setCell (p := ⟨w.heap.size, 0, none⟩) (Nat.le_refl _) _).setCell (p := ⟨w.heap.size, 1, none⟩) (Nat.le_refl _) _).setCell (p := ⟨w.heap.size, 2, none⟩) (Nat.le_refl _) _).setCell (p := ⟨w.heap.size + 1, 0, none⟩) (show w.heap.size ≤ w.heap.size + 1 by omega) _).setCell (p := ⟨w.heap.size + 1, 1, none⟩) (show w.heap.size ≤ w.heap.size + 1 by omega) _).setCell (p := ⟨w.heap.size + 1, 2, none⟩) (show w.heap.size ≤ w.heap.size + 1 by omega) _).setCell (p := ⟨w.heap.size + 1, 3, none⟩) (show w.heap.size ≤ w.heap.size + 1 by omega) _).setCell (p := ⟨w.heap.size + 1, 4, none⟩) (show w.heap.size ≤ w.heap.size + 1 by omega) _)⟩

end Go.Proofs.Ytmnmaijifhojiaa

/- What the laws of rules draw, more: a comparison, two rules. -/
set_option maxRecDepth 100000
set_option linter.unusedSimpArgs false
set_option linter.unusedVariables false
namespace Go.Proofs.Ytmnmaijifhojiaa
open Go.RowKit
attribute [local go_sem ↓] Go.wp_at_zero Go.wp_at_succ

/-- One result. -/
def D1 (w w1 : World) (a : Option Addr) (len cap : Nat) (o0 : Obj) (W : World) : Prop :=
  W.heap[w.heap.size]? = some o0 ∧ AfterSrc (w.heap.size + 1) a len cap w1 W ∧ Below w.heap.size w w1 ∧ w.heap.size + 1 < w1.heap.size
section
variable {w w1 W W' : World} {a : Option Addr} {len cap : Nat} {o0 : Obj}
theorem D1.s (h : D1 w w1 a len cap o0 W) : Src W (w.heap.size + 1) a len cap := h.2.1.1
theorem D1.src (h : D1 w w1 a len cap o0 W) (ha : AfterSrc (w.heap.size + 1) a len cap W W') : D1 w w1 a len cap o0 W' :=
  ⟨ha.row h.1 (by omega), h.2.1.trans ha, h.2.2⟩
theorem D1.below (h : D1 w w1 a len cap o0 W) (hb : Below W.heap.size W W') : D1 w w1 a len cap o0 W' := h.src (AfterSrc.of_below h.s hb)
theorem D1.more (h : D1 w w1 a len cap o0 W) (o : Obj) : D1 w w1 a len cap o0 (W.alloc o) := h.below ((Below.refl _ _).alloc (Nat.le_refl _) _)
theorem D1.drew (h : D1 w w1 a len cap o0 W) : D1 w w1 a len cap o0 W.drew := h.src (AfterSrc.refl h.s).drew
theorem D1.size (h : D1 w w1 a len cap o0 W) : w1.heap.size ≤ W.heap.size := h.2.1.2.size
theorem D1.low (h : D1 w w1 a len cap o0 W) : w.heap.size + 1 < w1.heap.size := h.2.2.2
theorem D1.bel (h : D1 w w1 a len cap o0 W) : Below w.heap.size w W := h.2.2.1.trans (h.2.1.below (by omega) (by have := h.low; omega))
end
theorem draw_start1 {w : World} {a : Option Addr} {len cap : Nat} (c0 : Array Value) (T0 : TypeId) (hcode : CodeAt w w.heap.size a len cap) :
    Calls Try.prog 57 #[.slice a len cap] (w.alloc (.cells c0 T0)) fun e w' => e = .returned (.pointer (some ⟨w.heap.size + 1, 0, none⟩)) ∧ D1 w w' a len cap (.cells c0 T0 (0, 0)) w' := by
  have hb0 : Below w.heap.size w (w.alloc (.cells c0 T0)) := (Below.refl _ _).alloc (Nat.le_refl _) _
  have hq := source_any a len cap (w.alloc (.cells c0 T0)) ((hcode.below hb0).upTo (by simp))
  simp only [World.size_alloc] at hq
  refine hq.mono ?_
  rintro e w' ⟨rfl, hs1, hb1⟩
  exact ⟨rfl, (hb1.block w.heap.size (by omega)).trans (heap_alloc_new w _), AfterSrc.refl hs1, hb0.trans (hb1.mono (by omega)), hs1.lt⟩
def CmpPost (w : World) (e : Ending) (w' : World) : Prop := ∃ c : Cq, e = .returned (cqV c) ∧ Below w.heap.size w w'
theorem own_setOp {w : World} {base b n cap : Nat} {x0 : Cq} {tl : List Cq} (h : CqOwn base w (.slice (some ⟨b, 0, none⟩) n cap) (x0 :: tl)) (o : Int) : CqOwn base (w.setCell ⟨b, 1, none⟩ (.int .i64 o)) (.slice (some ⟨b, 0, none⟩) n cap) (⟨x0.a, o, x0.mh, x0.ml, x0.vh, x0.vl⟩ :: tl) := by
  obtain ⟨a', cap', e⟩ := OwnL.slice h
  simp only [Value.slice.injEq] at e
  obtain ⟨_, rfl, _⟩ := e
  exact (World.ownsRow.stored h 1 (.int .i64 o)).1

set_option maxHeartbeats 3200000 in
theorem drawCmpRight_any (a : Option Addr) (len cap : Nat) (w : World) (hcode : CodeAt w w.heap.size a len cap) :
    Calls Try.prog 21 #[.slice a len cap] w fun e w' => CmpPost w e w' := by
  have HQ := Lib.hid (draw_start1 #[.int .i64 0, .int .i64 0, .int .i64 0, .int .i64 0, .int .i64 0, .int .i64 0] 26 hcode)
  clear hcode
  go_enter Try.func21, Try.ntmps21
  go_wp2_with fail
  refine HQ.out.mono ?_
  rintro e w1 ⟨rfl, hm1⟩
  have HM1 := Lib.hid hm1
  have hlow := hm1.low
  clear hm1 HQ
  go_wp2_with fail
  refine (srcOddR_any (w.heap.size + 1) a len cap _ HM1.out.s).mono ?_
  rintro e w3 ⟨⟨nr, ac, cs⟩, u, rfl, hwf, hcw, hc5, hcq, ha3⟩
  obtain ⟨ua, ucap, rfl⟩ := OwnL.slice hcq
  have hm3 := HM1.out.src ha3
  have HM3 := Lib.hid (hm3.more (.cells #[.int .i64 nr, .int .i64 ac, .slice ua cs.length ucap] 35))
  have HX3 := Lib.hid (heap_alloc_new w3 (.cells #[.int .i64 nr, .int .i64 ac, .slice ua cs.length ucap] 35))
  have HO3 := Lib.hid (OwnL.alloc hcq (.cells #[.int .i64 nr, .int .i64 ac, .slice ua cs.length ucap] 35) : CqOwn w1.heap.size _ (.slice ua cs.length ucap) cs)
  have hl3 := hm3.size
  have hc5' : cs.length ≤ 5 := hc5
  clear hwf hcw hc5 ha3 hm3 hcq
  go_upto_region 3 with fail
  generalize hw5 : w3.alloc (.cells #[.int .i64 nr, .int .i64 ac, .slice ua cs.length ucap] 35) = w5 at *
  clear hw5
  have c2 := row_cell HX3.out 2
  simp only [List.getElem?_toArray, List.getElem?_cons_zero, List.getElem?_cons_succ] at c2
  by_cases hl0 : cs.length = 0
  · have e0 : ((cs.length : Int) == 0) = true := by rw [beq_iff_eq]; omega
    clear hl0
    go_wp2_with fail
    refine (srcN_any (w.heap.size + 1) a len cap 7 _ HM3.out.s (by omega) (by omega)).mono ?_
    rintro e w6 ⟨v, rfl, hv0, hv1, _, hs6, hg6⟩
    have hv7 : v < 7 := hv1 (by omega)
    have HM6 := Lib.hid (HM3.out.src ⟨hs6, hg6⟩)
    clear hv1 hs6 hg6 e0 c2
    go_wp2_with fail
    refine (srcCmpOf_any (w.heap.size + 1) a len cap (v - 1) _ HM6.out.s).mono ?_
    rintro e w7 ⟨⟨xa, xo, xmh, xml, xvh, xvl⟩, rfl, hxa, hxd, ha7⟩
    have HM7 := Lib.hid (HM6.out.src ha7)
    clear hxa hxd ha7
    have h0 := row_cell HM7.out.1 0
    have h1 := row_cell HM7.out.1 1
    have h2 := row_cell HM7.out.1 2
    have h3 := row_cell HM7.out.1 3
    have h4 := row_cell HM7.out.1 4
    have h5 := row_cell HM7.out.1 5
    have hf0 := frozen_row HM7.out.1 0
    have hf1 := frozen_row HM7.out.1 1
    have hf2 := frozen_row HM7.out.1 2
    have hf3 := frozen_row HM7.out.1 3
    have hf4 := frozen_row HM7.out.1 4
    have hf5 := frozen_row HM7.out.1 5
    simp only [List.getElem?_toArray, List.getElem?_cons_zero, List.getElem?_cons_succ] at h0 h1 h2 h3 h4 h5
    go_wp2_with fail
    exact bodyPost_ret (v := .agg #[.int .i64 xa, .int .i64 xo, .int .i64 xmh, .int .i64 xml, .int .i64 xvh, .int .i64 xvl]) (by simp [results, Try.results21, go_sem, h0, h1, h2, h3, h4, h5]) rfl
      ⟨⟨xa, xo, xmh, xml, xvh, xvl⟩, rfl, ((((((HM7.out.bel.setCell (p := ⟨w.heap.size, 0, none⟩) (Nat.le_refl _) _).setCell (p := ⟨w.heap.size, 1, none⟩) (Nat.le_refl _) _).setCell (p := ⟨w.heap.size, 2, none⟩) (Nat.le_refl _) _).setCell (p := ⟨w.heap.size, 3, none⟩) (Nat.le_refl _) _).setCell (p := ⟨w.heap.size, 4, none⟩) (Nat.le_refl _) _).setCell (p := ⟨w.heap.size, 5, none⟩) (Nat.le_refl _) _)⟩
  · have e0 : ((cs.length : Int) == 0) = false := by rw [beq_eq_false_iff_ne]; omega
    obtain ⟨cb, cc, e, hcb, hcblt, hcc⟩ := OwnL.more HO3.out (by omega)
    simp only [Value.slice.injEq] at e
    obtain ⟨rfl, _, rfl⟩ := e
    obtain ⟨m, hm⟩ : ∃ m, cs.length = m + 1 := ⟨cs.length - 1, by omega⟩
    obtain ⟨⟨xa, xo, xmh, xml, xvh, xvl⟩, hck⟩ : ∃ x, cs[m]? = some x := ⟨_, List.getElem?_eq_getElem (by omega)⟩
    obtain ⟨q0, q1, q2, q3, q4, q5, _⟩ := cq_own_at HO3.out hck
    rw [hm] at e0 c2 hcc ⊢
    have e0' : ((m : Int) + 1 == 0) = false := by rw [beq_eq_false_iff_ne]; omega
    have hm5 : m < 5 := by omega
    clear e0 hl0 hc5' hm hck
    have h0 := row_cell HM3.out.1 0
    have h1 := row_cell HM3.out.1 1
    have h2 := row_cell HM3.out.1 2
    have h3 := row_cell HM3.out.1 3
    have h4 := row_cell HM3.out.1 4
    have h5 := row_cell HM3.out.1 5
    have hf0 := frozen_row HM3.out.1 0
    have hf1 := frozen_row HM3.out.1 1
    have hf2 := frozen_row HM3.out.1 2
    have hf3 := frozen_row HM3.out.1 3
    have hf4 := frozen_row HM3.out.1 4
    have hf5 := frozen_row HM3.out.1 5
    simp only [List.getElem?_toArray, List.getElem?_cons_zero, List.getElem?_cons_succ] at h0 h1 h2 h3 h4 h5
    go_wp2_with fail
    exact bodyPost_ret (v := .agg #[.int .i64 xa, .int .i64 xo, .int .i64 xmh, .int .i64 xml, .int .i64 xvh, .int .i64 xvl]) (by simp [results, Try.results21, go_sem, h0, h1, h2, h3, h4, h5]) rfl
      ⟨⟨xa, xo, xmh, xml, xvh, xvl⟩, rfl, ((((((HM3.out.bel.setCell (p := ⟨w.heap.size, 0, none⟩) (Nat.le_refl _) _).setCell (p := ⟨w.heap.size, 1, none⟩) (Nat.le_refl _) _).setCell (p := ⟨w.heap.size, 2, none⟩) (Nat.le_refl _) _).setCell (p := ⟨w.heap.size, 3, none⟩) (Nat.le_refl _) _).setCell (p := ⟨w.heap.size, 4, none⟩) (Nat.le_refl _) _).setCell (p := ⟨w.heap.size, 5, none⟩) (Nat.le_refl _) _)⟩

/-- Two rules as they were drawn. -/
def SameAt (w w1 : World) (a : Option Addr) (len cap X Y : Nat) (nr ac : Int) (cs : List Cq) (ua : Value) (W : World) : Prop := ∃ (nr' ac' : Int) (cs' : List Cq) (u' : Value), cqsWf cs' ∧
  W.heap[X]? = some (.cells #[.int .i64 nr, .int .i64 ac, ua] 35 (0, 0)) ∧ W.heap[Y]? = some (.cells #[.int .i64 nr', .int .i64 ac', u'] 35 (0, 0)) ∧ CqOwn w1.heap.size W ua cs ∧ CqOwn w1.heap.size W u' cs' ∧
  DMid w w1 a len cap (.cells #[.int .i64 0, .int .i64 0, .slice none 0 0] 35 (0, 0)) (.cells #[.int .i64 0, .int .i64 0, .slice none 0 0] 35 (0, 0)) W
theorem SameAt.drew {w w1 : World} {a : Option Addr} {len cap X Y : Nat} {nr ac : Int} {cs : List Cq} {ua : Value} {W : World} (h : SameAt w w1 a len cap X Y nr ac cs ua W) : SameAt w w1 a len cap X Y nr ac cs ua W.drew := by
  obtain ⟨nr', ac', cs', u', h1, h2, h3, h4, h5, h6⟩ := h
  exact ⟨nr', ac', cs', u', h1, h2, h3, OwnL.below h4 (Below.refl _ _).drew, OwnL.below h5 (Below.refl _ _).drew, h6.drew⟩
theorem sput3 {W : World} {base Z : Nat} {u v0 v1 v2 : Value} {l : List Cq} (h : CqOwn base W u l) (hZ : u.ownBlock ≠ some Z) : CqOwn base (((W.setCell ⟨Z, 0, none⟩ v0).setCell ⟨Z, 1, none⟩ v1).setCell ⟨Z, 2, none⟩ v2) u l :=
  own_put (own_put (own_put h (p := ⟨Z, 0, none⟩) hZ) (p := ⟨Z, 1, none⟩) hZ) (p := ⟨Z, 2, none⟩) hZ

set_option maxHeartbeats 6400000 in
theorem drawRuleSame_any (a : Option Addr) (len cap : Nat) (w : World) (hcode : CodeAt w w.heap.size a len cap) :
    Calls Try.prog 19 #[.slice a len cap] w fun e w' => ∃ (r r' : Rl) (u u' : Value), e = .returned (.tuple #[rlV r u, rlV r' u']) ∧ rlRight r = true ∧ CqAt w' w'.heap.size u r.cs ∧ CqAt w' w'.heap.size u' r'.cs ∧ Below w.heap.size w w' := by
  have HQ := Lib.hid (draw_start #[.int .i64 0, .int .i64 0, .slice none 0 0] 35 #[.int .i64 0, .int .i64 0, .slice none 0 0] 35 hcode)
  clear hcode
  go_enter Try.func19, Try.ntmps19
  go_wp2_with fail
  refine HQ.out.mono ?_
  rintro e w1 ⟨rfl, hm1⟩
  have HM1 := Lib.hid hm1
  have hlow := hm1.low
  clear hm1 HQ
  go_wp2_with fail
  refine (srcRuleOf_any (w.heap.size + 1 + 1) a len cap _ HM1.out.s).mono ?_
  rintro e w3 ⟨⟨nr, ac, cs⟩, u, rfl, hrt, hcq, ha3⟩
  obtain ⟨ua, ucap, rfl⟩ := OwnL.slice hcq
  obtain ⟨_, hcw, hc3⟩ := rlRight_all hrt
  have hm3 := HM1.out.src ha3
  have HM3 := Lib.hid (hm3.more (.cells #[.int .i64 nr, .int .i64 ac, .slice ua cs.length ucap] 35))
  have HX3 := Lib.hid (heap_alloc_new w3 (.cells #[.int .i64 nr, .int .i64 ac, .slice ua cs.length ucap] 35))
  have HO3 := Lib.hid (OwnL.alloc hcq (.cells #[.int .i64 nr, .int .i64 ac, .slice ua cs.length ucap] 35) : CqOwn w1.heap.size _ (.slice ua cs.length ucap) cs)
  have hl3 := hm3.size
  have hc3' : cs.length ≤ 3 := hc3
  have HCW := Lib.hid (show cqsWf cs from hcw)
  have HRT := Lib.hid hrt
  clear hrt hcw hc3 ha3 hm3 hcq
  go_upto_region 3 with fail
  generalize hw5 : w3.alloc (.cells #[.int .i64 nr, .int .i64 ac, .slice ua cs.length ucap] 35) = w5 at *
  have hs5 : w3.heap.size < w5.heap.size := row_here HX3.out
  clear hw5
  have HQ := Lib.hid (l06Copy_any nr ac cs (.slice ua cs.length ucap) w5 (OwnL.lAt cqS HO3.out HCW.out) (by omega))
  have c0 := row_cell HX3.out 0
  have c1 := row_cell HX3.out 1
  have c2 := row_cell HX3.out 2
  simp only [List.getElem?_toArray, List.getElem?_cons_zero, List.getElem?_cons_succ] at c0 c1 c2
  go_wp2_with fail
  refine HQ.out.mono ?_
  rintro e w6 ⟨ubv, rfl, hcb, hb6⟩
  obtain ⟨ub, ubcap, rfl⟩ := OwnL.slice hcb
  have HM6 := Lib.hid ((HM3.out.below hb6).more (.cells #[.int .i64 nr, .int .i64 ac, .slice ub cs.length ubcap] 35))
  have HX6 := Lib.hid (row_alloc (keep_row hb6 HX3.out) (.cells #[.int .i64 nr, .int .i64 ac, .slice ub cs.length ubcap] 35))
  have HY6 := Lib.hid (heap_alloc_new w6 (.cells #[.int .i64 nr, .int .i64 ac, .slice ub cs.length ubcap] 35))
  have HO6 := Lib.hid (OwnL.alloc (OwnL.below HO3.out hb6) (.cells #[.int .i64 nr, .int .i64 ac, .slice ub cs.length ubcap] 35) : CqOwn w1.heap.size _ (.slice ua cs.length ucap) cs)
  have hbs := HM3.out.size
  have HP6 := Lib.hid (OwnL.alloc (OwnL.base hcb hbs) (.cells #[.int .i64 nr, .int .i64 ac, .slice ub cs.length ubcap] 35) : CqOwn w1.heap.size _ (.slice ub cs.length ubcap) cs)
  have HD6 := Lib.hid (fun k (hk : (Value.slice ub cs.length ubcap).ownBlock = some k) => (OwnL.lt hcb k hk))
  have HE6 := Lib.hid (fun k (hk : (Value.slice ua cs.length ucap).ownBlock = some k) => (OwnL.lt HO3.out k hk))
  have hl6 : w5.heap.size ≤ w6.heap.size := hb6.size
  clear hcb hb6 c0 c1 c2 HQ
  go_wp2_with fail
  refine (srcN_any (w.heap.size + 1 + 1) a len cap 4 _ HM6.out.s (by omega) (by omega)).mono ?_
  rintro e w7 ⟨v, rfl, hv0, hv1, _, hs7, hg7⟩
  have HM7 := Lib.hid (HM6.out.src ⟨hs7, hg7⟩)
  have HX7 := Lib.hid (AfterSrc.row ⟨hs7, hg7⟩ HX6.out (by omega))
  have HY7 := Lib.hid (AfterSrc.row ⟨hs7, hg7⟩ HY6.out (by omega))
  have HO7 := Lib.hid (own_src HO6.out ⟨hs7, hg7⟩ hlow)
  have HP7 := Lib.hid (own_src HP6.out ⟨hs7, hg7⟩ hlow)
  clear hv1 hs7 hg7 HM6 HX6 HY6 HO6 HP6
  go_upto_block 0 with fail
  go_cut [] from 15 to 35 (fun ws => SameAt w w1 a len cap w3.heap.size w6.heap.size nr ac cs (.slice ua cs.length ucap) ws)
  case first =>
    have y0 := row_cell HY7.out 0
    have y1 := row_cell HY7.out 1
    have y2 := row_cell HY7.out 2
    have f0 := frozen_row HY7.out 0
    have f1 := frozen_row HY7.out 1
    have f2 := frozen_row HY7.out 2
    simp only [List.getElem?_toArray, List.getElem?_cons_zero, List.getElem?_cons_succ] at y0 y1 y2
    by_cases h0 : v = 0
    · subst h0
      clear y0 y1 y2 f0 f1 f2
      go_wp2_with fail
      refine (srcRuleOf_any (w.heap.size + 1 + 1) a len cap _ HM7.out.s).mono ?_
      rintro e w8 ⟨⟨nr', ac', cs'⟩, u8, rfl, hrt8, hcq8, ha8⟩
      obtain ⟨uc, uccap, rfl⟩ := OwnL.slice hcq8
      have hy := ha8.row HY7.out (by omega)
      have y0 := row_cell hy 0
      have y1 := row_cell hy 1
      have y2 := row_cell hy 2
      have f0 := frozen_row hy 0
      have f1 := frozen_row hy 1
      have f2 := frozen_row hy 2
      simp only [List.getElem?_toArray, List.getElem?_cons_zero, List.getElem?_cons_succ] at y0 y1 y2
      have hx := ha8.row HX7.out (by omega)
      have hm8 := HM7.out.src ha8
      have hs7 : w6.heap.size < w7.heap.size := row_here HY7.out
      have HS := Lib.hid (show SameAt w w1 a len cap w3.heap.size w6.heap.size nr ac cs (.slice ua cs.length ucap) (((w8.setCell ⟨w6.heap.size, 0, none⟩ (.int .i64 nr')).setCell ⟨w6.heap.size, 1, none⟩ (.int .i64 ac')).setCell ⟨w6.heap.size, 2, none⟩ (.slice uc cs'.length uccap)) from
        ⟨nr', ac', cs', _, (rlRight_all hrt8).2.1, row_other (row_other (row_other hx _ _ (by omega)) _ _ (by omega)) _ _ (by omega), row_put (row_put (row_put hy 0 _) 1 _) 2 _,
          sput3 (own_src HO7.out ha8 hlow) (fun e => by have := (HE6.out _ e).2; omega), sput3 (OwnL.base hcq8 (HM7.out.size)) (fun e => by have := (OwnL.lt hcq8 _ e).1; omega),
          ((hm8.put (Z := w6.heap.size) (by omega) 0 _).put (Z := w6.heap.size) (by omega) 1 _).put (Z := w6.heap.size) (by omega) 2 _⟩)
      clear hy hx hm8 hcq8 ha8 hrt8
      go_wp2_with fail
      go_meet
      exact HS.out
    have e0 : (v == 0) = false := by simpa using h0
    have HS := Lib.hid (show SameAt w w1 a len cap w3.heap.size w6.heap.size nr ac cs (.slice ua cs.length ucap) w7 from ⟨nr, ac, cs, _, HCW.out, HX7.out, HY7.out, HO7.out, HP7.out, HM7.out⟩)
    by_cases h1 : v = 1
    · subst h1
      cases cs with
      | nil =>
        have e1 : decide ((0 : Int) < ((([] : List Cq).length : Nat) : Int)) = false := by simp
        go_wp2_with fail
        go_meet
        exact HS.out
      | cons x tl =>
        have hlp : 0 < (x :: tl).length := by simp
        obtain ⟨cb, cc, e, hcb, hcblt, hcc⟩ := OwnL.more HP7.out hlp
        simp only [Value.slice.injEq] at e
        obtain ⟨rfl, _, rfl⟩ := e
        obtain ⟨x0, x1, x2, x3, x4, x5⟩ := x
        obtain ⟨q0, q1, q2, q3, q4, q5, r0, r1, r2, r3, r4, r5⟩ := cq_own_at (k := 0) HP7.out rfl
        simp only [Nat.zero_mul, Nat.zero_add] at q0 q1 q2 q3 q4 q5 r0 r1 r2 r3 r4 r5
        have hxr : (1 ≤ x1 ∧ x1 ≤ 7) ∧ cqsWf (⟨x0, 1 + x1 % 6, x2, x3, x4, x5⟩ :: tl) := by
          have h1 := (rlRight_cs HRT.out).2 0 hlp
          have h2 := cq_op (x := ⟨x0, x1, x2, x3, x4, x5⟩) h1
          simp only at h2
          refine ⟨h2, fun c hc => ?_⟩
          rcases List.mem_cons.1 hc with rfl | hc
          · have h3 := HCW.out _ (List.mem_cons_self ..)
            unfold Cq.wf In64 at h3 ⊢
            simp only at h3 ⊢
            omega
          · exact HCW.out c (List.mem_cons_of_mem _ hc)
        have hx1 := hxr.1
        have hne : cb ≠ w3.heap.size ∧ cb ≠ w6.heap.size ∧ (Value.slice ua (⟨x0, x1, x2, x3, x4, x5⟩ :: tl).length ucap).ownBlock ≠ some cb := by
          have h1 := HD6.out cb rfl
          exact ⟨by omega, by omega, fun e => by have h2 := HE6.out _ e; omega⟩
        have HS1 := Lib.hid (show SameAt w w1 a len cap w3.heap.size w6.heap.size nr ac (⟨x0, x1, x2, x3, x4, x5⟩ :: tl) (.slice ua (⟨x0, x1, x2, x3, x4, x5⟩ :: tl).length ucap) (w7.setCell ⟨cb, 1, none⟩ (.int .i64 (1 + x1 % 6))) from
          ⟨nr, ac, _, _, hxr.2, row_other HX7.out _ _ (Ne.symm hne.1), row_other HY7.out _ _ (Ne.symm hne.2.1), own_put HO7.out (p := ⟨cb, 1, none⟩) hne.2.2, own_setOp HP7.out _, HM7.out.put (Z := cb) (by omega) 1 _⟩)
        have hmod : 0 ≤ x1 % 6 ∧ x1 % 6 < 6 := by omega
        have hlen1 : decide ((0 : Int) < (((⟨x0, x1, x2, x3, x4, x5⟩ :: tl : List Cq).length : Nat) : Int)) = true := decide_eq_true (by simp only [List.length_cons]; omega)
        clear hxr hne
        go_wp2_with fail
        refine wp_region_still_tail 11 (by kernel_rfl) (by kernel_rfl) ?_
        simp only [List.take_succ_cons, List.take_zero, List.drop_succ_cons, List.drop_zero, World.drew_eq]
        repeat still_step
        refine wpStill_nil ?_
        go_wp2_with fail
        go_meet
        exact HS1.out.drew
    have e1 : (v == 1) = false := by simpa using h1
    go_wp2_with fail
    go_meet
    exact HS.out
  case rest =>
  obtain ⟨nr', ac', cs', u', hcw', hx, hy, ho, hp, hm⟩ := hcut
  obtain ⟨uc, uccap, rfl⟩ := OwnL.slice hp
  have HM := Lib.hid hm
  have HO := Lib.hid ho
  have HP := Lib.hid hp
  have HCW' := Lib.hid hcw'
  have h0 := row_cell hm.1 0
  have h1 := row_cell hm.1 1
  have h2 := row_cell hm.1 2
  have hf0 := frozen_row hm.1 0
  have hf1 := frozen_row hm.1 1
  have hf2 := frozen_row hm.1 2
  have i0 := row_cell hm.2.1 0
  have i1 := row_cell hm.2.1 1
  have i2 := row_cell hm.2.1 2
  have if0 := frozen_row hm.2.1 0
  have if1 := frozen_row hm.2.1 1
  have if2 := frozen_row hm.2.1 2
  have x0 := row_cell hx 0
  have x1 := row_cell hx 1
  have x2 := row_cell hx 2
  have y0 := row_cell hy 0
  have y1 := row_cell hy 1
  have y2 := row_cell hy 2
  simp only [List.getElem?_toArray, List.getElem?_cons_zero, List.getElem?_cons_succ] at h0 h1 h2 i0 i1 i2 x0 x1 x2 y0 y1 y2
  clear hm hx hy ho hp hcw'
  go_wp2_with fail
  go_region
  all_goals
    go_wp2_with fail
    exact bodyPost_ret (v := .tuple #[.agg #[.int .i64 nr, .int .i64 ac, .slice ua cs.length ucap], .agg #[.int .i64 nr', .int .i64 ac', .slice uc cs'.length uccap]]) (by simp [results, Try.results19, go_sem, h0, h1, h2, i0, i1, i2]) rfl
      ⟨⟨nr, ac, cs⟩, ⟨nr', ac', cs'⟩, _, _, rfl, HRT.out, OwnL.lAt cqS (OwnL.below ((((((HO.out.setBelow (a := ⟨w.heap.size, 0, none⟩) (show w.heap.size < w1.heap.size by omega) _).setBelow (a := ⟨w.heap.size, 1, none⟩) (show w.heap.size < w1.heap.size by omega) _).setBelow (a := ⟨w.heap.size, 2, none⟩) (show w.heap.size < w1.heap.size by omega) _).setBelow (a := ⟨w.heap.size + 1, 0, none⟩) (show w.heap.size + 1 < w1.heap.size by omega) _).setBelow (a := ⟨w.heap.size + 1, 1, none⟩) (show w.heap.size + 1 < w1.heap.size by omega) _).setBelow (a := ⟨w.heap.size + 1, 2, none⟩) (show w.heap.size + 1 < w1.heap.size by omega) _) ((Below.refl _ _).drew)) HCW.out, OwnL.lAt cqS (OwnL.below ((((((HP.out.setBelow (a := ⟨w.heap.size, 0, none⟩) (show w.heap.size < w1.heap.size by omega) _).setBelow (a := ⟨w.heap.size, 1, none⟩) (show w.heap.size < w1.heap.size by omega) _).setBelow (a := ⟨w.heap.size, 2, none⟩) (show w.heap.size < w1.heap.size by omega) _).setBelow (a := ⟨w.heap.size + 1, 0, none⟩) (show w.heap.size + 1 < w1.heap.size by omega) _).setBelow (a := ⟨w.heap.size + 1, 1, none⟩) (show w.heap.size + 1 < w1.heap.size by omega) _).setBelow (a := ⟨w.heap.size + 1, 2, none⟩) (show w.heap.size + 1 < w1.heap.size by omega) _) ((Below.refl _ _).drew)) HCW'.out, ((((((HM.out.bel.setCell (p := ⟨w.heap.size, 0, none⟩) (Nat.le_refl _) _).setCell (p := ⟨w.heap.size, 1, none⟩) (Nat.le_refl _) _).setCell (p := ⟨w.heap.size, 2, none⟩) (Nat.le_refl _) _).setCell (p := ⟨w.heap.size + 1, 0, none⟩) (show w.heap.size ≤ w.heap.size + 1 by omega) _).setCell (p := ⟨w.heap.size + 1, 1, none⟩) (show w.heap.size ≤ w.heap.size + 1 by omega) _).setCell (p := ⟨w.heap.size + 1, 2, none⟩) (show w.heap.size ≤ w.heap.size + 1 by omega) _).drew⟩

end Go.Proofs.Ytmnmaijifhojiaa

/- What the laws of policies draw. -/
set_option maxRecDepth 100000
set_option linter.unusedSimpArgs false
set_option linter.unusedVariables false
namespace Go.Proofs.Ytmnmaijifhojiaa
open Go.RowKit
attribute [local go_sem ↓] Go.wp_at_zero Go.wp_at_succ

theorem mul_small {x y : Int} (h0 : 0 ≤ x) (h1 : x < 2) (k0 : 0 ≤ y) (k1 : y < 2) : 0 ≤ x * y ∧ x * y ≤ 1 := by
  rcases (by omega : x = 0 ∨ x = 1) with rfl | rfl <;> omega
theorem OwnRv.fine {base : Nat} {w : World} {v : Value} {l : List Rv} (h : OwnRv base w v l) (hf : RlsFine l) : RvAt w w.heap.size v l := h.at (fun x hx => (hf x hx).1) (fun x hx => (hf x hx).2.1)
def PolDropPost (w : World) (e : Ending) (w' : World) : Prop := ∃ (ar df bd : Int) (u : Value) (l : List Rv) (m : Int), e = .returned (.tuple #[polV ar df bd u, .int .i64 m]) ∧ In64 m ∧ RvAt w' w'.heap.size u l ∧ Below w.heap.size w w'
def DecPost (w : World) (e : Ending) (w' : World) : Prop := ∃ (ar df bd : Int) (u : Value) (l : List Rv) (rc : Rc) (xu : Value), e = .returned (.tuple #[polV ar df bd u, rcV rc xu]) ∧ RvAt w' w'.heap.size u l ∧ WdAt w' w'.heap.size xu rc.args ∧ Below w.heap.size w w'
def PolAddPost (w : World) (e : Ending) (w' : World) : Prop := ∃ (ar df bd : Int) (u : Value) (l : List Rv) (r : Rl) (v : Value), e = .returned (.tuple #[polV ar df bd u, rlV r v]) ∧ RvAt w' w'.heap.size u l ∧ CqAt w' w'.heap.size v r.cs ∧ Below w.heap.size w w'

set_option maxHeartbeats 6400000 in
theorem drawPolicyDrop_any (a : Option Addr) (len cap : Nat) (w : World) (hcode : CodeAt w w.heap.size a len cap) :
    Calls Try.prog 17 #[.slice a len cap] w fun e w' => PolDropPost w e w' := by
  have HQ := Lib.hid (draw_start1 #[.int .i64 0, .int .i64 0, .int .i64 0, .slice none 0 0] 32 hcode)
  clear hcode
  go_enter Try.func17, Try.ntmps17
  go_wp2_with fail
  refine HQ.out.mono ?_
  rintro e w1 ⟨rfl, hm1⟩
  have HM1 := Lib.hid hm1
  have hlow := hm1.low
  clear hm1 HQ
  go_wp2_with fail
  refine (srcPolicies_any (w.heap.size + 1) a len cap _ HM1.out.s).mono ?_
  rintro e w3 ⟨ar, df, bd, u, l, rfl, hi, hf, hl60, hown, ha3⟩
  obtain ⟨ua, ucap, rfl⟩ := hown.slice
  have hm3 := HM1.out.src ha3
  have HM3 := Lib.hid (hm3.more (.cells #[.int .i64 ar, .int .i64 df, .int .i64 bd, .slice ua l.length ucap] 32))
  have HX3 := Lib.hid (heap_alloc_new w3 (.cells #[.int .i64 ar, .int .i64 df, .int .i64 bd, .slice ua l.length ucap] 32))
  have HO3 := Lib.hid (hown.below ((Below.refl _ _).alloc (Nat.le_refl _) (.cells #[.int .i64 ar, .int .i64 df, .int .i64 bd, .slice ua l.length ucap] 32)))
  have HF := Lib.hid hf
  have hl3 := hm3.size
  clear hm3 hown ha3 hf hi
  go_upto_region 3 with fail
  generalize w3.alloc (.cells #[.int .i64 ar, .int .i64 df, .int .i64 bd, .slice ua l.length ucap] 32) = w5 at *
  have HY0 := Lib.hid HM3.out.drew
  have HZ0 : Hid (w5.drew.heap[w3.heap.size]? = some (.cells #[.int .i64 ar, .int .i64 df, .int .i64 bd, .slice ua l.length ucap] 32 (0, 0))) := Lib.hid HX3.out
  have HO0 := Lib.hid (HO3.out.below (Below.refl _ _).drew)
  have c0 := row_cell HX3.out 0
  have c1 := row_cell HX3.out 1
  have c2 := row_cell HX3.out 2
  have c3 := row_cell HX3.out 3
  simp only [List.getElem?_toArray, List.getElem?_cons_zero, List.getElem?_cons_succ] at c0 c1 c2 c3
  have hw : IntKind.i64.wrap ((l.length : Int) + 2) = (l.length : Int) + 2 := IntWalk.i64_in _ (by omega)
  have HQ1 := Lib.hid (fun W s => srcN_any (w.heap.size + 1) a len cap ((l.length : Int) + 2) W s (by omega) (by omega))
  have HQ2 := Lib.hid (fun W s => srcN_any (w.heap.size + 1) a len cap 2 W s (by omega) (by omega))
  go_wp2_with fail
  go_region_law (go_simp; (first
    | ((with_reducible refine (HQ2.out _ HY2.out.s).mono ?_); rintro e y3 ⟨v3, rfl, v30, v31, _, hs3, hg3⟩; have HY3 := Lib.hid (HY2.out.src ⟨hs3, hg3⟩); have HZ3 := Lib.hid (AfterSrc.row ⟨hs3, hg3⟩ HZ2.out (by omega)); have HO4 := Lib.hid (HO2.out.src ⟨hs3, hg3⟩ hlow); have hv3 : v3 < 2 := v31 (by omega); have hms := mul_small v20 hv2 v30 hv3; have hwm : IntKind.i64.wrap (v2 * v3) = v2 * v3 := IntWalk.i64_in _ (by omega); have hwd : IntKind.i64.wrap (v1 - v2 * v3) = v1 - v2 * v3 := IntWalk.i64_in _ (by omega); have d0 := row_cell HZ3.out 0; have d1 := row_cell HZ3.out 1; have d2 := row_cell HZ3.out 2; have d3 := row_cell HZ3.out 3; simp only [List.getElem?_toArray, List.getElem?_cons_zero, List.getElem?_cons_succ] at d0 d1 d2 d3; have h0 := row_cell HY3.out.1 0; have h1 := row_cell HY3.out.1 1; have h2 := row_cell HY3.out.1 2; have h3 := row_cell HY3.out.1 3; have hf0 := frozen_row HY3.out.1 0; have hf1 := frozen_row HY3.out.1 1; have hf2 := frozen_row HY3.out.1 2; have hf3 := frozen_row HY3.out.1 3; simp only [List.getElem?_toArray, List.getElem?_cons_zero, List.getElem?_cons_succ] at h0 h1 h2 h3; clear v31 hs3 hg3; dsimp only)
    | ((with_reducible refine (HQ2.out _ HY1.out.s).mono ?_); rintro e y2 ⟨v2, rfl, v20, v21, _, hs2, hg2⟩; have HY2 := Lib.hid (HY1.out.src ⟨hs2, hg2⟩); have HZ2 := Lib.hid (AfterSrc.row ⟨hs2, hg2⟩ HZ1.out (by omega)); have HO2 := Lib.hid (HO1.out.src ⟨hs2, hg2⟩ hlow); have hv2 : v2 < 2 := v21 (by omega); have b0 := row_cell HZ2.out 0; have b1 := row_cell HZ2.out 1; have b2 := row_cell HZ2.out 2; have b3 := row_cell HZ2.out 3; simp only [List.getElem?_toArray, List.getElem?_cons_zero, List.getElem?_cons_succ] at b0 b1 b2 b3; clear v21 hs2 hg2; dsimp only)
    | ((with_reducible refine (HQ1.out _ HY0.out.s).mono ?_); rintro e y1 ⟨v1, rfl, v10, v11, _, hs1, hg1⟩; have HY1 := Lib.hid (HY0.out.src ⟨hs1, hg1⟩); have HZ1 := Lib.hid (AfterSrc.row ⟨hs1, hg1⟩ HZ0.out (by omega)); have HO1 := Lib.hid (HO0.out.src ⟨hs1, hg1⟩ hlow); have hv1 : v1 < (l.length : Int) + 2 := v11 (by omega); have a0 := row_cell HZ1.out 0; have a1 := row_cell HZ1.out 1; have a2 := row_cell HZ1.out 2; have a3 := row_cell HZ1.out 3; simp only [List.getElem?_toArray, List.getElem?_cons_zero, List.getElem?_cons_succ] at a0 a1 a2 a3; clear v11 hs1 hg1; dsimp only)))
  all_goals
    have hm64 : In64 (v1 - v2 * v3) := by clear hwm hwd hw; unfold In64; omega
    clear hwm hwd
    go_wp2_with fail
    exact bodyPost_ret (v := .tuple #[.agg #[.int .i64 ar, .int .i64 df, .int .i64 bd, .slice ua l.length ucap], .int .i64 (v1 - v2 * v3)]) (by simp [results, Try.results17, go_sem, h0, h1, h2, h3]) rfl
      ⟨ar, df, bd, _, l, _, rfl, hm64, OwnRv.fine ((((HO4.out.setBelow (a := ⟨w.heap.size, 0, none⟩) (show w.heap.size < w1.heap.size by omega) _).setBelow (a := ⟨w.heap.size, 1, none⟩) (show w.heap.size < w1.heap.size by omega) _).setBelow (a := ⟨w.heap.size, 2, none⟩) (show w.heap.size < w1.heap.size by omega) _).setBelow (a := ⟨w.heap.size, 3, none⟩) (show w.heap.size < w1.heap.size by omega) _) HF.out, ((((HY3.out.bel.setCell (p := ⟨w.heap.size, 0, none⟩) (Nat.le_refl _) _).setCell (p := ⟨w.heap.size, 1, none⟩) (Nat.le_refl _) _).setCell (p := ⟨w.heap.size, 2, none⟩) (Nat.le_refl _) _).setCell (p := ⟨w.heap.size, 3, none⟩) (Nat.le_refl _) _)⟩

end Go.Proofs.Ytmnmaijifhojiaa


/- Rules and policies as plain data: what a slice of rules is; openers of a law's parameters: comparisons, rules, policies. -/
import Derived.Test.YtmnmaijifhojiaaJe
import Derived.Test.YtmnmaijifhojiaaRo
import Derived.Test.YtmnmaijifhojiaaOs
import Derived.Lib.SmallJoins
set_option maxRecDepth 100000
namespace Go.Proofs.Ytmnmaijifhojiaa
open Go.ChangeShapes Go.WideShapes Go.ChangeAt Go.RowKit

/-- A rule, and one as it lies in memory: with the slice of its comparisons. -/
structure Rl where
  nr : Int
  ac : Int
  cs : List Cq
structure Rv where
  r : Rl
  v : Value
theorem Rl.ext' {x y : Rl} (h0 : x.nr = y.nr) (h1 : x.ac = y.ac) (h2 : x.cs = y.cs) : x = y := by cases x; cases y; simp_all
instance : DecidableEq Rl := fun x y => decidable_of_iff (x.nr = y.nr ∧ x.ac = y.ac ∧ x.cs = y.cs) ⟨fun h => Rl.ext' h.1 h.2.1 h.2.2, fun h => by rw [h]; exact ⟨rfl, rfl, rfl⟩⟩
def Rl.wf (r : Rl) : Prop := In64 r.nr ∧ In64 r.ac
def rvCells (x : Rv) : List Value := [.int .i64 x.r.nr, .int .i64 x.r.ac, x.v]
theorem rvS (x : Rv) : (rvCells x).length = 3 := rfl
abbrev rlV (r : Rl) (v : Value) : Value := .agg #[.int .i64 r.nr, .int .i64 r.ac, v]
/-- A slice of rules. -/
def RvAt (w : World) (B : Nat) (v : Value) (l : List Rv) : Prop := LAt rvCells 3 (fun x => x.r.wf) w B v l ∧ ∀ x ∈ l, CqAt w B x.v x.r.cs
theorem RvAt.below {w w' : World} {B : Nat} {v : Value} {l : List Rv} (h : RvAt w B v l) (hb : Below B w w') : RvAt w' B v l := ⟨h.1.below hb, fun x hx => (h.2 x hx).below hb⟩
theorem RvAt.up {w : World} {B B' : Nat} {v : Value} {l : List Rv} (h : RvAt w B v l) (hB : B ≤ B') : RvAt w B' v l := ⟨h.1.up hB, fun x hx => (h.2 x hx).up hB⟩
theorem RvAt.len {w : World} {B : Nat} {v : Value} {l : List Rv} (h : RvAt w B v l) : ∃ a cap, v = .slice a l.length cap ∧ l.length ≤ cap ∧ cap ≤ maxLen := h.1.len
theorem RvAt.place {w : World} {B : Nat} {a : Option Addr} {n cap : Nat} {l : List Rv} (h : RvAt w B (.slice a n cap) l) {i : Nat} {x : Rv} (hi : l[i]? = some x) : ∃ b o, a = some ⟨b, o, none⟩ ∧ b < B ∧
    w.cell? ⟨b, o + i * 3, none⟩ = some (.int .i64 x.r.nr) ∧ w.cell? ⟨b, o + i * 3 + 1, none⟩ = some (.int .i64 x.r.ac) ∧ w.cell? ⟨b, o + i * 3 + 2, none⟩ = some x.v ∧ x.r.wf ∧ CqAt w B x.v x.r.cs := by
  obtain ⟨b, o, e, hb, hc, hw⟩ := LAt.at_ h.1 hi
  exact ⟨b, o, e, hb, hc 0 _ rfl, hc 1 _ rfl, hc 2 _ rfl, hw, h.2 x (List.mem_of_getElem? hi)⟩

/-- A policy. -/
structure Pol where
  ar : Int
  df : Int
  bd : Int
  rs : List Rl
theorem Pol.ext' {x y : Pol} (h0 : x.ar = y.ar) (h1 : x.df = y.df) (h2 : x.bd = y.bd) (h3 : x.rs = y.rs) : x = y := by cases x; cases y; simp_all
instance : DecidableEq Pol := fun x y => decidable_of_iff (x.ar = y.ar ∧ x.df = y.df ∧ x.bd = y.bd ∧ x.rs = y.rs) ⟨fun h => Pol.ext' h.1 h.2.1 h.2.2.1 h.2.2.2, fun h => by rw [h]; exact ⟨rfl, rfl, rfl, rfl⟩⟩
def rls (l : List Rv) : List Rl := l.map Rv.r
abbrev polV (ar df bd : Int) (v : Value) : Value := .agg #[.int .i64 ar, .int .i64 df, .int .i64 bd, v]

def IsCmp (_ : World) (v : Value) : Prop := ∃ x : Cq, v = cqV x ∧ x.wf
def IsRule (w : World) (v : Value) : Prop := ∃ (r : Rl) (u : Value), v = rlV r u ∧ r.wf ∧ CqAt w w.heap.size u r.cs
def IsPolicy (w : World) (v : Value) : Prop := ∃ (ar df bd : Int) (l : List Rv) (u : Value), v = polV ar df bd u ∧ In64 ar ∧ In64 df ∧ In64 bd ∧ RvAt w w.heap.size u l

section
variable {H : Type} {enc : TypeId × Value → H} {W : World} {base : Nat} {v : Value} {d : DataW H} {p : List MemPlace}
theorem trod_cq {spare : Nat → Bool} {held : Bool} {b n : Nat} {cs : List Value} {x : DataW H × List MemPlace} (h : DataW.trod enc Try.prog W b spare held n 67 cs = some x) : ∃ y : Cq, cs = cqCells y ∧ y.wf := by
  have hC : Try.prog.cellsOf 67 = 6 := by kernel_rfl
  have hC1 : Try.prog.cellsOf 2 = 1 := by kernel_rfl
  have hC2 : Try.prog.cellsOf 65 = 2 := by kernel_rfl
  obtain ⟨xs, n', _, _, hcl, hxl, hfs⟩ := DataW.trod_struct Try.underlying67 h
  rw [hC] at hcl
  match cs, hcl with
  | [k0, k1, k2, k3, k4, k5], _ =>
    match xs, hxl with
    | [y0, y1, y2, y3], _ =>
      have f0 : DataW.trod enc Try.prog W b spare held n' 2 (([k0, k1, k2, k3, k4, k5].drop 0).take (Try.prog.cellsOf 2)) = some y0 := hfs 0 _ rfl
      have f1 : DataW.trod enc Try.prog W b spare held n' 2 (([k0, k1, k2, k3, k4, k5].drop 1).take (Try.prog.cellsOf 2)) = some y1 := hfs 1 _ rfl
      have f2 : DataW.trod enc Try.prog W b spare held n' 65 (([k0, k1, k2, k3, k4, k5].drop 2).take (Try.prog.cellsOf 65)) = some y2 := hfs 2 _ rfl
      have f3 : DataW.trod enc Try.prog W b spare held n' 65 (([k0, k1, k2, k3, k4, k5].drop 4).take (Try.prog.cellsOf 65)) = some y3 := hfs 3 _ rfl
      rw [hC1] at f0 f1
      rw [hC2] at f2 f3
      obtain ⟨c0, e0, _, w0⟩ := DataW.trod_int Try.underlying2 f0
      obtain ⟨c1, e1, _, w1⟩ := DataW.trod_int Try.underlying2 f1
      obtain ⟨m, e2, hm⟩ := trod_wd f2
      obtain ⟨u, e3, hu⟩ := trod_wd f3
      simp at e0 e1 e2 e3
      obtain ⟨rfl, rfl⟩ := e2
      obtain ⟨rfl, rfl⟩ := e3
      subst e0 e1
      exact ⟨⟨c0, c1, m.h, m.l, u.h, u.l⟩, rfl, in64_of w0, in64_of w1, hm.1, hm.2, hu.1, hu.2⟩

theorem open_isCmp (hv : Value.okWide Try.prog W .any base 67 v) (h : DataW.Trod enc Try.prog W 0 (fun _ => true) true 67 v d p) : IsCmp W v := by
  obtain ⟨cs, rfl, hsz⟩ := okWide_struct Try.underlying67 hv
  obtain ⟨fuel, hf⟩ := h
  obtain ⟨y, hy, hw⟩ := trod_cq hf
  refine ⟨y, ?_, hw⟩
  simp only [Value.cells] at hy
  obtain ⟨l⟩ := cs
  simp only at hy
  rw [hy]
  rfl

theorem cqs_of {spare : Nat → Bool} {held : Bool} {n : Nat} {u : Value} {x : DataW H × List MemPlace} (hsp : spare = fun _ => true) (h : DataW.trod enc Try.prog W 0 spare held n 72 [u] = some x) : ∃ l : List Cq, CqAt W W.heap.size u l := by
  have hC : Try.prog.cellsOf 67 = 6 := by kernel_rfl
  rcases Deep.open_slice Try.underlying72 h with ⟨hcs, _⟩ | ⟨a, len, cap, m, n, D, Pl, hcs, _, hl, hm, hmm, _, hi⟩
  · simp at hcs
    subst hcs
    exact ⟨[], cqS, ⟨none, 0, rfl, by simp, by unfold maxLen; omega, fun h0 => by simp at h0⟩, fun x hx => by simp at hx⟩
  · simp at hcs
    subst hcs
    subst hsp
    simp only [if_true] at hmm
    subst hmm
    rw [hC] at hi
    have hone : ∀ i, i < len → ∃ y : Cq, (∀ j u, (cqCells y)[j]? = some u → W.cell? ((a.add (i * 6)).add j) = some u) ∧ y.wf := by
      intro i hlt
      obtain ⟨cs', hc, ht'⟩ := hi i (by omega)
      obtain ⟨_, hcl, hat⟩ := World.cells?_some hc
      obtain ⟨y, rfl, hw⟩ := trod_cq ht'
      refine ⟨y, fun j u hj => ?_, hw⟩
      have hlt' : j < 6 := by have := (List.getElem?_eq_some_iff.1 hj).1; rwa [cqS] at this
      have g := hat j (by omega)
      rw [← hj]
      simpa using g
    obtain ⟨l, hl', hp⟩ := pick_list len hone
    refine ⟨l, cqS, ⟨some a, m, by rw [hl'], by omega, hm, fun h0 => ?_⟩, fun x hx => ?_⟩
    · have h00 := hp 0 (l[0]'h0) (List.getElem?_eq_getElem h0)
      have h000 := h00.1 0 _ rfl
      have h001 := h00.1 1 _ rfl
      obtain ⟨b, o, rfl, hb⟩ := at_cell (i := 1) (by simpa [Addr.add] using h001) (by have := h000; simp [Addr.add] at this; simp [this])
      refine ⟨b, o, rfl, hb, fun i c hi => ?_⟩
      have hlen := (List.getElem?_eq_some_iff.1 hi).1
      rw [flat_length cqS] at hlen
      obtain ⟨q, r, hr, rfl⟩ : ∃ q r, r < 6 ∧ i = q * 6 + r := ⟨i / 6, i % 6, by omega, by omega⟩
      have hx := hp q (l[q]'(by omega)) (List.getElem?_eq_getElem (by omega))
      have hg := flat_at cqS (l := l) (i := q) (x := l[q]'(by omega)) (j := r) (List.getElem?_eq_getElem (by omega)) hr
      rw [hi] at hg
      have := hx.1 r c hg.symm
      simp only [add_at] at this
      simpa [Nat.add_assoc] using this
    · obtain ⟨i, hi, rfl⟩ := List.getElem_of_mem hx
      exact (hp i _ (List.getElem?_eq_getElem hi)).2

theorem trod_rl {held : Bool} {n : Nat} {cs : List Value} {x : DataW H × List MemPlace} (h : DataW.trod enc Try.prog W 0 (fun _ => true) held n 74 cs = some x) : ∃ y : Rv, cs = rvCells y ∧ y.r.wf ∧ CqAt W W.heap.size y.v y.r.cs := by
  have hC : Try.prog.cellsOf 74 = 3 := by kernel_rfl
  have hC1 : Try.prog.cellsOf 2 = 1 := by kernel_rfl
  have hC2 : Try.prog.cellsOf 72 = 1 := by kernel_rfl
  obtain ⟨xs, n', _, _, hcl, hxl, hfs⟩ := DataW.trod_struct Try.underlying74 h
  rw [hC] at hcl
  match cs, hcl with
  | [k0, k1, k2], _ =>
    match xs, hxl with
    | [y0, y1, y2], _ =>
      have f0 : DataW.trod enc Try.prog W 0 (fun _ => true) held n' 2 (([k0, k1, k2].drop 0).take (Try.prog.cellsOf 2)) = some y0 := hfs 0 _ rfl
      have f1 : DataW.trod enc Try.prog W 0 (fun _ => true) held n' 2 (([k0, k1, k2].drop 1).take (Try.prog.cellsOf 2)) = some y1 := hfs 1 _ rfl
      have f2 : DataW.trod enc Try.prog W 0 (fun _ => true) held n' 72 (([k0, k1, k2].drop 2).take (Try.prog.cellsOf 72)) = some y2 := hfs 2 _ rfl
      rw [hC1] at f0 f1
      rw [hC2] at f2
      obtain ⟨c0, e0, _, w0⟩ := DataW.trod_int Try.underlying2 f0
      obtain ⟨c1, e1, _, w1⟩ := DataW.trod_int Try.underlying2 f1
      obtain ⟨ls, hls⟩ := cqs_of rfl f2
      simp at e0 e1
      subst e0 e1
      exact ⟨⟨⟨c0, c1, ls⟩, k2⟩, rfl, ⟨in64_of w0, in64_of w1⟩, hls⟩

theorem open_isRule (hv : Value.okWide Try.prog W .any base 74 v) (h : DataW.Trod enc Try.prog W 0 (fun _ => true) true 74 v d p) : IsRule W v := by
  obtain ⟨cs, rfl, hsz⟩ := okWide_struct Try.underlying74 hv
  obtain ⟨fuel, hf⟩ := h
  obtain ⟨y, hy, hw, hc⟩ := trod_rl hf
  simp only [Value.cells] at hy
  obtain ⟨l⟩ := cs
  simp only at hy
  refine ⟨y.r, y.v, ?_, hw, hc⟩
  rw [hy]
  rfl

theorem rvs_of {held : Bool} {n : Nat} {u : Value} {x : DataW H × List MemPlace} (h : DataW.trod enc Try.prog W 0 (fun _ => true) held n 86 [u] = some x) : ∃ l : List Rv, RvAt W W.heap.size u l := by
  have hC : Try.prog.cellsOf 74 = 3 := by kernel_rfl
  rcases Deep.open_slice Try.underlying86 h with ⟨hcs, _⟩ | ⟨a, len, cap, m, n, D, Pl, hcs, _, hl, hm, hmm, _, hi⟩
  · simp at hcs
    subst hcs
    exact ⟨[], ⟨rvS, ⟨none, 0, rfl, by simp, by unfold maxLen; omega, fun h0 => by simp at h0⟩, fun x hx => by simp at hx⟩, fun x hx => by simp at hx⟩
  · simp at hcs
    subst hcs
    simp only [if_true] at hmm
    subst hmm
    rw [hC] at hi
    have hone : ∀ i, i < len → ∃ y : Rv, (∀ j u, (rvCells y)[j]? = some u → W.cell? ((a.add (i * 3)).add j) = some u) ∧ y.r.wf ∧ CqAt W W.heap.size y.v y.r.cs := by
      intro i hlt
      obtain ⟨cs', hc, ht'⟩ := hi i (by omega)
      obtain ⟨_, hcl, hat⟩ := World.cells?_some hc
      obtain ⟨y, rfl, hw, hq⟩ := trod_rl ht'
      refine ⟨y, fun j u hj => ?_, hw, hq⟩
      have hlt' : j < 3 := by have := (List.getElem?_eq_some_iff.1 hj).1; rwa [rvS] at this
      have g := hat j (by omega)
      rw [← hj]
      simpa using g
    obtain ⟨l, hl', hp⟩ := pick_list len hone
    refine ⟨l, ⟨rvS, ⟨some a, m, by rw [hl'], by omega, hm, fun h0 => ?_⟩, fun x hx => ?_⟩, fun x hx => ?_⟩
    · have h00 := hp 0 (l[0]'h0) (List.getElem?_eq_getElem h0)
      have h000 := h00.1 0 _ rfl
      have h001 := h00.1 1 _ rfl
      obtain ⟨b, o, rfl, hb⟩ := at_cell (i := 1) (by simpa [Addr.add] using h001) (by have := h000; simp [Addr.add] at this; simp [this])
      refine ⟨b, o, rfl, hb, fun i c hi => ?_⟩
      have hlen := (List.getElem?_eq_some_iff.1 hi).1
      rw [flat_length rvS] at hlen
      obtain ⟨q, r, hr, rfl⟩ : ∃ q r, r < 3 ∧ i = q * 3 + r := ⟨i / 3, i % 3, by omega, by omega⟩
      have hx := hp q (l[q]'(by omega)) (List.getElem?_eq_getElem (by omega))
      have hg := flat_at rvS (l := l) (i := q) (x := l[q]'(by omega)) (j := r) (List.getElem?_eq_getElem (by omega)) hr
      rw [hi] at hg
      have := hx.1 r c hg.symm
      simp only [add_at] at this
      simpa [Nat.add_assoc] using this
    · obtain ⟨i, hi, rfl⟩ := List.getElem_of_mem hx
      exact (hp i _ (List.getElem?_eq_getElem hi)).2.1
    · obtain ⟨i, hi, rfl⟩ := List.getElem_of_mem hx
      exact (hp i _ (List.getElem?_eq_getElem hi)).2.2

theorem open_isPolicy (hv : Value.okWide Try.prog W .any base 88 v) (h : DataW.Trod enc Try.prog W 0 (fun _ => true) true 88 v d p) : IsPolicy W v := by
  have hC : Try.prog.cellsOf 88 = 4 := by kernel_rfl
  have hC1 : Try.prog.cellsOf 2 = 1 := by kernel_rfl
  have hC2 : Try.prog.cellsOf 86 = 1 := by kernel_rfl
  obtain ⟨cs, rfl, hsz⟩ := okWide_struct Try.underlying88 hv
  obtain ⟨fuel, hf⟩ := h
  obtain ⟨xs, n', _, _, hcl, hxl, hfs⟩ := DataW.trod_struct Try.underlying88 hf
  rw [hC] at hcl
  obtain ⟨l⟩ := cs
  simp only [Value.cells] at hcl hfs
  match l, hcl with
  | [k0, k1, k2, k3], _ =>
    match xs, hxl with
    | [y0, y1, y2, y3], _ =>
      have f0 : DataW.trod enc Try.prog W 0 (fun _ => true) true n' 2 (([k0, k1, k2, k3].drop 0).take (Try.prog.cellsOf 2)) = some y0 := hfs 0 _ rfl
      have f1 : DataW.trod enc Try.prog W 0 (fun _ => true) true n' 2 (([k0, k1, k2, k3].drop 1).take (Try.prog.cellsOf 2)) = some y1 := hfs 1 _ rfl
      have f2 : DataW.trod enc Try.prog W 0 (fun _ => true) true n' 2 (([k0, k1, k2, k3].drop 2).take (Try.prog.cellsOf 2)) = some y2 := hfs 2 _ rfl
      have f3 : DataW.trod enc Try.prog W 0 (fun _ => true) true n' 86 (([k0, k1, k2, k3].drop 3).take (Try.prog.cellsOf 86)) = some y3 := hfs 3 _ rfl
      rw [hC1] at f0 f1 f2
      rw [hC2] at f3
      obtain ⟨c0, e0, _, w0⟩ := DataW.trod_int Try.underlying2 f0
      obtain ⟨c1, e1, _, w1⟩ := DataW.trod_int Try.underlying2 f1
      obtain ⟨c2, e2, _, w2⟩ := DataW.trod_int Try.underlying2 f2
      obtain ⟨ls, hls⟩ := rvs_of f3
      simp at e0 e1 e2
      subst e0 e1 e2
      exact ⟨c0, c1, c2, ls, k3, rfl, in64_of w0, in64_of w1, in64_of w2, hls⟩
end

end Go.Proofs.Ytmnmaijifhojiaa

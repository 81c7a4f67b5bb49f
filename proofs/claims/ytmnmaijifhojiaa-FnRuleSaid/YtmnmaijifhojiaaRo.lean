/- Openers of a law's parameters: words and records. -/
import Derived.Test.YtmnmaijifhojiaaRc
import Derived.Test.YtmnmaijifhojiaaOs
import Derived.Lib.SmallJoins
set_option maxRecDepth 100000
namespace Go.Proofs.Ytmnmaijifhojiaa
open Go.ChangeShapes Go.WideShapes Go.ChangeAt Go.RowKit

def IsWord (_ : World) (v : Value) : Prop := ∃ x : Wd, v = .agg #[.int .i64 x.h, .int .i64 x.l] ∧ x.wf
def IsRecord (w : World) (v : Value) : Prop := ∃ (r : Rc) (u : Value), v = rcV r u ∧ WdAt w w.heap.size u r.args ∧ r.wf

section
variable {H : Type} {enc : TypeId × Value → H} {W : World} {base : Nat} {v : Value} {d : DataW H} {p : List MemPlace}
/-- Two cells that a word's reading goes through. -/
theorem trod_wd {spare : Nat → Bool} {held : Bool} {b n : Nat} {cs : List Value} {x : DataW H × List MemPlace} (h : DataW.trod enc Try.prog W b spare held n 65 cs = some x) : ∃ y : Wd, cs = [.int .i64 y.h, .int .i64 y.l] ∧ y.wf := by
  have hC : Try.prog.cellsOf 65 = 2 := by kernel_rfl
  have hC1 : Try.prog.cellsOf 2 = 1 := by kernel_rfl
  obtain ⟨xs, n', _, _, hcl, hxl, hfs⟩ := DataW.trod_struct Try.underlying65 h
  rw [hC] at hcl
  match cs, hcl with
  | [k0, k1], _ =>
    match xs, hxl with
    | [y0, y1], _ =>
      have f0 : DataW.trod enc Try.prog W b spare held n' 2 (([k0, k1].drop 0).take (Try.prog.cellsOf 2)) = some y0 := hfs 0 _ rfl
      have f1 : DataW.trod enc Try.prog W b spare held n' 2 (([k0, k1].drop 1).take (Try.prog.cellsOf 2)) = some y1 := hfs 1 _ rfl
      rw [hC1] at f0 f1
      obtain ⟨c0, e0, _, w0⟩ := DataW.trod_int Try.underlying2 f0
      obtain ⟨c1, e1, _, w1⟩ := DataW.trod_int Try.underlying2 f1
      simp at e0 e1
      subst e0 e1
      exact ⟨⟨c0, c1⟩, rfl, in64_of w0, in64_of w1⟩

theorem open_isWord (hv : Value.okWide Try.prog W .any base 65 v) (h : DataW.Trod enc Try.prog W 0 (fun _ => true) true 65 v d p) : IsWord W v := by
  obtain ⟨cs, rfl, hsz⟩ := okWide_struct Try.underlying65 hv
  obtain ⟨fuel, hf⟩ := h
  obtain ⟨y, hy, hw⟩ := trod_wd hf
  refine ⟨y, ?_, hw⟩
  simp only [Value.cells] at hy
  rw [← Array.toList_inj.1 (show cs.toList = #[Value.int .i64 y.h, .int .i64 y.l].toList from hy)]

theorem wds_of {spare : Nat → Bool} {held : Bool} {n : Nat} {u : Value} {x : DataW H × List MemPlace} (hsp : spare = fun _ => true) (h : DataW.trod enc Try.prog W 0 spare held n 79 [u] = some x) : ∃ l : List Wd, WdAt W W.heap.size u l := by
  have hC : Try.prog.cellsOf 65 = 2 := by kernel_rfl
  rcases Deep.open_slice Try.underlying79 h with ⟨hcs, _⟩ | ⟨a, len, cap, m, n, D, Pl, hcs, _, hl, hm, hmm, _, hi⟩
  · simp at hcs
    subst hcs
    exact ⟨[], wdS, ⟨none, 0, rfl, by simp, by unfold maxLen; omega, fun h0 => by simp at h0⟩, fun x hx => by simp at hx⟩
  · simp at hcs
    subst hcs
    subst hsp
    simp only [if_true] at hmm
    subst hmm
    rw [hC] at hi
    have hone : ∀ i, i < len → ∃ y : Wd, W.cell? (a.add (i * 2)) = some (.int .i64 y.h) ∧ W.cell? ((a.add (i * 2)).add 1) = some (.int .i64 y.l) ∧ y.wf := by
      intro i hlt
      obtain ⟨cs', hc, ht'⟩ := hi i (by omega)
      obtain ⟨_, hcl, hat⟩ := World.cells?_some hc
      obtain ⟨y, rfl, hw⟩ := trod_wd ht'
      have g0 := hat 0 (by omega)
      have g1 := hat 1 (by omega)
      simp at g0 g1
      exact ⟨y, by simpa [Addr.add] using g0, g1, hw⟩
    obtain ⟨l, hl', hp⟩ := pick_list len hone
    refine ⟨l, wdS, ⟨some a, m, by rw [hl'], by omega, hm, fun h0 => ?_⟩, fun x hx => ?_⟩
    · have h00 := hp 0 (l[0]'h0) (List.getElem?_eq_getElem h0)
      obtain ⟨b, o, rfl, hb⟩ := at_cell (i := 1) (by simpa [Addr.add] using h00.2.1) (by have := h00.1; simp [Addr.add] at this; simp [this])
      refine ⟨b, o, rfl, hb, fun i c hi => ?_⟩
      have hlen := (List.getElem?_eq_some_iff.1 hi).1
      rw [flat_length wdS] at hlen
      obtain ⟨q, r, hr, rfl⟩ : ∃ q r, r < 2 ∧ i = q * 2 + r := ⟨i / 2, i % 2, by omega, by omega⟩
      have hx := hp q (l[q]'(by omega)) (List.getElem?_eq_getElem (by omega))
      have hg := flat_at wdS (l := l) (i := q) (x := l[q]'(by omega)) (j := r) (List.getElem?_eq_getElem (by omega)) hr
      rw [hi] at hg
      simp only [add_at] at hx
      rcases (by omega : r = 0 ∨ r = 1) with rfl | rfl
      · simp [wdCells] at hg; rw [hg]; exact hx.1
      · simp [wdCells] at hg; rw [hg]; simpa [Nat.add_assoc] using hx.2.1
    · obtain ⟨i, hi, rfl⟩ := List.getElem_of_mem hx
      exact (hp i _ (List.getElem?_eq_getElem hi)).2.2

theorem open_isRecord (hv : Value.okWide Try.prog W .any base 81 v) (h : DataW.Trod enc Try.prog W 0 (fun _ => true) true 81 v d p) : IsRecord W v := by
  have hC : Try.prog.cellsOf 81 = 5 := by kernel_rfl
  have hC1 : Try.prog.cellsOf 2 = 1 := by kernel_rfl
  have hC2 : Try.prog.cellsOf 65 = 2 := by kernel_rfl
  have hC3 : Try.prog.cellsOf 79 = 1 := by kernel_rfl
  obtain ⟨cs, rfl, hsz⟩ := okWide_struct Try.underlying81 hv
  obtain ⟨fuel, hf⟩ := h
  obtain ⟨xs, n', _, _, hcl, hxl, hfs⟩ := DataW.trod_struct Try.underlying81 hf
  rw [hC] at hcl
  obtain ⟨l⟩ := cs
  simp only [Value.cells] at hcl hfs
  match l, hcl with
  | [k0, k1, k2, k3, k4], _ =>
    match xs, hxl with
    | [y0, y1, y2, y3], _ =>
      have f0 : DataW.trod enc Try.prog W 0 (fun _ => true) true n' 2 (([k0, k1, k2, k3, k4].drop 0).take (Try.prog.cellsOf 2)) = some y0 := hfs 0 _ rfl
      have f1 : DataW.trod enc Try.prog W 0 (fun _ => true) true n' 2 (([k0, k1, k2, k3, k4].drop 1).take (Try.prog.cellsOf 2)) = some y1 := hfs 1 _ rfl
      have f2 : DataW.trod enc Try.prog W 0 (fun _ => true) true n' 65 (([k0, k1, k2, k3, k4].drop 2).take (Try.prog.cellsOf 65)) = some y2 := hfs 2 _ rfl
      have f3 : DataW.trod enc Try.prog W 0 (fun _ => true) true n' 79 (([k0, k1, k2, k3, k4].drop 4).take (Try.prog.cellsOf 79)) = some y3 := hfs 3 _ rfl
      rw [hC1] at f0 f1
      rw [hC2] at f2
      rw [hC3] at f3
      obtain ⟨c0, e0, _, w0⟩ := DataW.trod_int Try.underlying2 f0
      obtain ⟨c1, e1, _, w1⟩ := DataW.trod_int Try.underlying2 f1
      obtain ⟨y, e2, hw⟩ := trod_wd f2
      obtain ⟨ls, hls⟩ := wds_of rfl f3
      simp at e0 e1 e2
      obtain ⟨rfl, rfl⟩ := e2
      subst e0 e1
      exact ⟨⟨c0, c1, y, ls⟩, k4, rfl, hls, in64_of w0, in64_of w1, hw, hls.2.2⟩
end

end Go.Proofs.Ytmnmaijifhojiaa

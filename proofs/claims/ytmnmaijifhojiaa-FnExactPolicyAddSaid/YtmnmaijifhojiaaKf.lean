/- How far the marks of a policy go; what a policy with a rule more or less is like. -/
import Derived.Test.YtmnmaijifhojiaaKe
import Derived.Test.YtmnmaijifhojiaaKb
set_option maxRecDepth 100000
set_option linter.unusedVariables false
namespace Go.Proofs.Ytmnmaijifhojiaa
open Go.RowKit Go.ChangeShapes Go.WideShapes

theorem mkEnd_le3 : ∀ (l : List Rl) (k : Int), (∀ r ∈ l, r.cs.length ≤ 3) → mkEnd k l ≤ k + 20 * (l.length : Int)
  | [], k, _ => by show k ≤ _; simp
  | r :: t, k, h => by
    have h1 := mkEnd_le3 t (k + 1 + 1 + 6 * (r.cs.length : Int)) (fun x hx => h x (by simp [hx]))
    have h2 := h r (by simp)
    unfold mkEnd
    simp only [List.length_cons]
    omega
theorem szR_end : ∀ (l : List Rl) (x k : Int), 0 ≤ szR x l → mkEnd k l ≤ k + 2 * (l.length : Int) + 6 * (x - szR x l)
  | [], x, k, _ => by show k ≤ _ + 6 * (x - x); simp
  | r :: t, x, k, h => by
    rw [szR_cons] at h ⊢
    by_cases hc : x - (r.cs.length : Int) < 0
    · rw [if_pos hc] at h; omega
    · rw [if_neg hc] at h ⊢
      have h1 := szR_end t _ (k + 1 + 1 + 6 * (r.cs.length : Int)) h
      unfold mkEnd
      simp only [List.length_cons]
      omega
theorem szRs_end {l : List Rl} (h : 0 ≤ szRs 1048576 l) : mkEnd 1 l ≤ 1000000000 := by
  unfold szRs at h
  by_cases hc : 1048576 - (l.length : Int) < 0
  · rw [if_pos hc] at h; omega
  · rw [if_neg hc] at h
    have := szR_end l _ 1 h
    omega
/-- A list of rules that can be marked. -/
def Small (rs : List Rl) : Prop := rlsWf rs ∧ mkEnd 1 rs ≤ 1000000000 ∧ rs.length ≤ 1048576
theorem Small.nil : Small [] := ⟨fun r hr => by simp at hr, by show (1 : Int) ≤ _; omega, by simp⟩
theorem Small.of3 {rs : List Rl} (hw : rlsWf rs) (hn : rs.length ≤ 25) (hc : ∀ r ∈ rs, r.cs.length ≤ 3) : Small rs := ⟨hw, by have := mkEnd_le3 rs 1 hc; omega, by omega⟩
theorem polDrop_small (ar df bd m : Int) (l : List Rv) (hw : rlsWf (rls l)) : Small (polDrop ⟨ar, df, bd, rls l⟩ m).1.rs := by
  unfold polDrop
  split
  · exact Small.nil
  · rename_i h1
    split
    · exact Small.nil
    · simp only [Bool.not_eq_true', Bool.not_eq_false] at h1
      obtain ⟨h2, h3⟩ := polRight_rules h1
      have hs := drop_sub (rls l) m.toNat
      refine Small.of3 (fun r hr => hw r (hs.subset hr)) ?_ (fun r hr => ?_)
      · have := hs.length_le
        simp only [rls, List.length_map] at this
        simp only [rls] at this ⊢
        omega
      · obtain ⟨x, hx, rfl⟩ := List.mem_map.1 (hs.subset hr)
        exact (rlRight_cs (nr := x.r.nr) (ac := x.r.ac) (h3 x hx)).1
theorem polAdd_small (ar df bd nr ac : Int) (cs : List Cq) (l : List Rv) (hw : rlsWf (rls l)) (hr : (⟨nr, ac, cs⟩ : Rl).wf ∧ ∀ c ∈ cs, c.wf) : Small (polAdd ⟨ar, df, bd, rls l⟩ ⟨nr, ac, cs⟩).1.rs := by
  unfold polAdd
  split
  · exact Small.nil
  · rename_i h1
    simp only [Bool.not_eq_true', Bool.not_eq_false, Bool.and_eq_true] at h1
    obtain ⟨h2, h3⟩ := polRight_rules h1.1
    have h4 := (rlRight_cs h1.2).1
    have hc : ∀ r ∈ rls l, r.cs.length ≤ 3 := fun r hr => by
      obtain ⟨x, hx, rfl⟩ := List.mem_map.1 hr
      exact (rlRight_cs (nr := x.r.nr) (ac := x.r.ac) (h3 x hx)).1
    have hl : (rls l).length ≤ 24 := by simpa [rls] using h2
    split
    · exact Small.nil
    · split
      · exact Small.of3 hw (by show (rls l).length ≤ 25; omega) hc
      · split
        · exact Small.nil
        · refine Small.of3 (fun r h => ?_) (by simp; omega) (fun r h => ?_)
          · rcases List.mem_append.1 h with h | h
            · exact hw r h
            · obtain rfl : r = ⟨nr, ac, cs⟩ := by simpa using h
              exact hr
          · rcases List.mem_append.1 h with h | h
            · exact hc r h
            · obtain rfl : r = ⟨nr, ac, cs⟩ := by simpa using h
              exact h4
theorem OnlyIn.row {S : Nat → Prop} {w w' : World} {b : Nat} {o : Obj} (h : OnlyIn S w w') (hr : w.heap[b]? = some o) (hb : ¬ S b) : w'.heap[b]? = some o := (h.block b (row_here hr) hb).trans hr
theorem keep_row {w w' : World} {b : Nat} {o : Obj} (h : Below w.heap.size w w') (hr : w.heap[b]? = some o) : w'.heap[b]? = some o := (h.block b (row_here hr)).trans hr

theorem k_al {a x : World} (h : Below a.heap.size a x) (o : Obj) : Below a.heap.size a (x.alloc o) := h.alloc h.size o
theorem k_chain {a x y : World} (h : Below a.heap.size a x) (k : Below x.heap.size x y) : Below a.heap.size a y := h.trans (k.mono h.size)
theorem k_new (W : World) (cs : Array Value) (T : TypeId) {n : Nat} (h : n = W.heap.size) : (W.alloc (.cells cs T)).heap[n]? = some (.cells cs T (0, 0)) := by subst h; exact heap_alloc_new W (.cells cs T)
theorem k_box {w w' : World} {cs : Array Value} {T : TypeId} (h : Below (w.alloc (.cells cs T)).heap.size (w.alloc (.cells cs T)) w') : w'.heap[w.heap.size]? = some (.cells cs T (0, 0)) := (h.block _ (by simp)).trans (k_new w cs T rfl)
theorem k_boxd {w w' : World} {cs : Array Value} {T : TypeId} (h : Below (w.alloc (.cells cs T)).drew.heap.size (w.alloc (.cells cs T)).drew w') : w'.heap[w.heap.size]? = some (.cells cs T (0, 0)) := k_box (w := w) (cs := cs) (T := T) ⟨h.os, h.tape, h.output, h.size, h.block⟩
theorem base_le {base b' : Nat} {w : World} {v : Value} {l : List Rv} (h : OwnRv base w v l) (hb : b' ≤ base) : b' ≤ base := hb
theorem cq_al {W : World} {v : Value} {l : List Cq} (h : CqAt W W.heap.size v l) (o : Obj) : CqAt (W.alloc o) (W.alloc o).heap.size v l := LAt.up (LAt.below h (k_al (Below.refl _ _) o)) (k_al (Below.refl W.heap.size W) o).size
theorem rv_al {W : World} {v : Value} {l : List Rv} (h : RvAt W W.heap.size v l) (o : Obj) : RvAt (W.alloc o) (W.alloc o).heap.size v l := RvAt.up (RvAt.below h (k_al (Below.refl _ _) o)) (k_al (Below.refl W.heap.size W) o).size

end Go.Proofs.Ytmnmaijifhojiaa

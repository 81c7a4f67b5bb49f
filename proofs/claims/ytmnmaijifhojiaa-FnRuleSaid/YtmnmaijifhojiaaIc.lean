/- Copies of rows of things of several cells; the program's wordsOf and recordOf walked. -/
import Derived.Test.YtmnmaijifhojiaaIr
import Derived.Laws.CopyRow
import Derived.StillTailTactics
set_option maxRecDepth 100000
set_option linter.unusedSimpArgs false
namespace Go.Proofs.Ytmnmaijifhojiaa
open Go.RowKit
attribute [local go_sem ↓] Go.wp_at_zero Go.wp_at_succ

/-- copy into a row of the call's own, of things of m cells each. -/
theorem run_copy_rows {P : Program} (w : World) (dT sT ty elem : TypeId) (m g o dLen dCap : Nat) (a : Addr) (sLen sCap : Nat) (cur : Array Value) (t : TypeId) (cs : List Value)
    (hu : P.underlying dT = some (.slice elem)) (hs : (P.info? elem).map (·.size) = some m)
    (hg : w.heap[g]? = some (.cells cur t (0, 0))) (hn : cs.length = Nat.min sLen dLen * m)
    (hsrc : ∀ j v, cs[j]? = some v → w.cell? (a.add j) = some v) (hfit : o + cs.length ≤ cur.size) (h1 : ∀ v ∈ cs, v.oneCell' = true) :
    (Builtin.copy_ #[dT, sT] ty #[.slice (some ⟨g, o, none⟩) dLen dCap, .slice (some a) sLen sCap]).run P w =
      .ok (goInt (Nat.min sLen dLen)) (w.setRow g (cur.toList.take o ++ cs ++ cur.toList.drop (o + cs.length)).toArray) := by
  have hl := run_loadCells_list (P := P) w a cs hsrc
  have hst := run_storeCells_at P g o t cs 0 cur w hg (by simpa using hfit) h1
  cases hq : P.info? elem with
  | none => simp [hq] at hs
  | some i =>
    have hi : i.size = m := by simpa [hq] using hs
    simp [Builtin.copy_, run_underlying hu, Builtin.lenOf, Builtin.firstCells, sizeOf, typeInfo, hq, hi, ← hn, hl, hst]

theorem info_word_size : (Try.prog.info? 24).map (·.size) = some 2 := by kernel_rfl

/-- The copy of six words behind the first two of a row. -/
theorem copy_words (w W : World) (g : Nat) (T : TypeId) (b o cap : Nat) (v0 v1 v2 v3 : Value) (p0 q0 p1 q1 p2 q2 p3 q3 p4 q4 p5 q5 : Int) (hg : W.heap[g]? = some (.cells #[v0, v1, v2, v3, .int .i64 0, .int .i64 0, .int .i64 0, .int .i64 0, .int .i64 0, .int .i64 0, .int .i64 0, .int .i64 0, .int .i64 0, .int .i64 0, .int .i64 0, .int .i64 0] T (0, 0))) (hw : w.heap.size ≤ g) (hb : Below w.heap.size w W) (hlt : b < w.heap.size)
    (hc : ∀ i v, ([.int .i64 p0, .int .i64 q0, .int .i64 p1, .int .i64 q1, .int .i64 p2, .int .i64 q2, .int .i64 p3, .int .i64 q3, .int .i64 p4, .int .i64 q4, .int .i64 p5, .int .i64 q5] : List Value)[i]? = some v → w.cell? ⟨b, o + i, none⟩ = some v) : ∃ w1 : World,
    (Builtin.copy_ #[43, 43] 3 #[.slice (some ⟨g, 4, none⟩) 6 6, .slice (some ⟨b, o, none⟩) 6 cap]).run Try.prog W = .ok (.int .i64 6) w1 ∧
    w1.heap[g]? = some (.cells #[v0, v1, v2, v3, .int .i64 p0, .int .i64 q0, .int .i64 p1, .int .i64 q1, .int .i64 p2, .int .i64 q2, .int .i64 p3, .int .i64 q3, .int .i64 p4, .int .i64 q4, .int .i64 p5, .int .i64 q5] T (0, 0)) ∧ Below w.heap.size w w1 ∧ W.grownBy w1 (some g) := by
  have hr := run_copy_rows (P := Try.prog) W 43 43 3 24 2 g 4 6 6 ⟨b, o, none⟩ 6 cap _ T [.int .i64 p0, .int .i64 q0, .int .i64 p1, .int .i64 q1, .int .i64 p2, .int .i64 q2, .int .i64 p3, .int .i64 q3, .int .i64 p4, .int .i64 q4, .int .i64 p5, .int .i64 q5] Try.underlying43 info_word_size hg rfl (fun j v hj => by
    have e : (⟨b, o, none⟩ : Addr).add j = ⟨b, o + j, none⟩ := by unfold Addr.add; split <;> simp_all
    rw [e, hb.cell (p := ⟨b, o + j, none⟩) hlt]
    exact hc j v hj) (by simp) (by intro v hv; simp only [List.mem_cons, List.not_mem_nil, or_false] at hv; rcases hv with rfl | rfl | rfl | rfl | rfl | rfl | rfl | rfl | rfl | rfl | rfl | rfl <;> rfl)
  refine ⟨_, hr, setRow_heap _ _ _ _ T (0, 0) hg, ?_, ?_⟩
  · exact ⟨hb.os, hb.tape, hb.output, by simpa using hb.size, fun k hk => (setRow_other _ _ _ _ (by omega)).trans (hb.block k hk)⟩
  · exact ⟨rfl, rfl, rfl, by simp, fun k hk hne => setRow_other _ _ _ _ (fun e => hne (by rw [e]))⟩

set_option maxHeartbeats 1600000 in
theorem wordsOf_any (nr ar ih il p0 q0 p1 q1 p2 q2 p3 q3 p4 q4 p5 q5 : Int) (v : Value) (w : World) (hv : WdAt w w.heap.size v [⟨p0, q0⟩, ⟨p1, q1⟩, ⟨p2, q2⟩, ⟨p3, q3⟩, ⟨p4, q4⟩, ⟨p5, q5⟩]) :
    Calls Try.prog 107 #[.agg #[.int .i64 nr, .int .i64 ar, .int .i64 ih, .int .i64 il, v]] w fun e w' => e = .returned (.agg #[.int .i64 ar, .int .i64 nr, .int .i64 ih, .int .i64 il, .int .i64 p0, .int .i64 q0, .int .i64 p1, .int .i64 q1, .int .i64 p2, .int .i64 q2, .int .i64 p3, .int .i64 q3, .int .i64 p4, .int .i64 q4, .int .i64 p5, .int .i64 q5]) ∧ Below w.heap.size w w' := by
  obtain ⟨_, ⟨a, cap, rfl, hlc, hcm, h3⟩, _⟩ := hv
  obtain ⟨b, o, rfl, hb, hc⟩ := h3 (by simp)
  unfold maxLen at hcm
  simp only [List.length_cons, List.length_nil] at hlc
  have h3' := rows3 (w := w) (Below.refl _ (((w.alloc (.cells #[.int .i64 nr, .int .i64 ar, .int .i64 ih, .int .i64 il, .slice (some ⟨b, o, none⟩) 6 cap] 45)).alloc (.cells #[.int .i64 0, .int .i64 0, .int .i64 0, .int .i64 0, .int .i64 0, .int .i64 0, .int .i64 0, .int .i64 0, .int .i64 0, .int .i64 0, .int .i64 0, .int .i64 0, .int .i64 0, .int .i64 0, .int .i64 0, .int .i64 0] 155)).alloc (.cells #[.int .i64 ar, .int .i64 nr, .int .i64 ih, .int .i64 il, .int .i64 0, .int .i64 0, .int .i64 0, .int .i64 0, .int .i64 0, .int .i64 0, .int .i64 0, .int .i64 0, .int .i64 0, .int .i64 0, .int .i64 0, .int .i64 0] 155)))
  obtain ⟨w1, hcp, hg1, hb1, hgr⟩ := copy_words w (((w.alloc (.cells #[.int .i64 nr, .int .i64 ar, .int .i64 ih, .int .i64 il, .slice (some ⟨b, o, none⟩) 6 cap] 45)).alloc (.cells #[.int .i64 0, .int .i64 0, .int .i64 0, .int .i64 0, .int .i64 0, .int .i64 0, .int .i64 0, .int .i64 0, .int .i64 0, .int .i64 0, .int .i64 0, .int .i64 0, .int .i64 0, .int .i64 0, .int .i64 0, .int .i64 0] 155)).alloc (.cells #[.int .i64 ar, .int .i64 nr, .int .i64 ih, .int .i64 il, .int .i64 0, .int .i64 0, .int .i64 0, .int .i64 0, .int .i64 0, .int .i64 0, .int .i64 0, .int .i64 0, .int .i64 0, .int .i64 0, .int .i64 0, .int .i64 0] 155)).drew (w.heap.size + 1 + 1) 155 b o cap (.int .i64 ar) (.int .i64 nr) (.int .i64 ih) (.int .i64 il) p0 q0 p1 q1 p2 q2 p3 q3 p4 q4 p5 q5 h3'.2.2.1 (by omega) h3'.2.2.2.1.drew hb hc
  have hz1 := row_grown (b := w.heap.size + 1) (w := (((w.alloc (.cells #[.int .i64 nr, .int .i64 ar, .int .i64 ih, .int .i64 il, .slice (some ⟨b, o, none⟩) 6 cap] 45)).alloc (.cells #[.int .i64 0, .int .i64 0, .int .i64 0, .int .i64 0, .int .i64 0, .int .i64 0, .int .i64 0, .int .i64 0, .int .i64 0, .int .i64 0, .int .i64 0, .int .i64 0, .int .i64 0, .int .i64 0, .int .i64 0, .int .i64 0] 155)).alloc (.cells #[.int .i64 ar, .int .i64 nr, .int .i64 ih, .int .i64 il, .int .i64 0, .int .i64 0, .int .i64 0, .int .i64 0, .int .i64 0, .int .i64 0, .int .i64 0, .int .i64 0, .int .i64 0, .int .i64 0, .int .i64 0, .int .i64 0] 155)).drew) h3'.2.1 hgr (by simp)
  have HB := Lib.hid hb1
  have c0 := row_cell hg1 0
  have d0 := row_cell hz1 0
  have f0 := frozen_row hz1 0
  have c1 := row_cell hg1 1
  have d1 := row_cell hz1 1
  have f1 := frozen_row hz1 1
  have c2 := row_cell hg1 2
  have d2 := row_cell hz1 2
  have f2 := frozen_row hz1 2
  have c3 := row_cell hg1 3
  have d3 := row_cell hz1 3
  have f3 := frozen_row hz1 3
  have c4 := row_cell hg1 4
  have d4 := row_cell hz1 4
  have f4 := frozen_row hz1 4
  have c5 := row_cell hg1 5
  have d5 := row_cell hz1 5
  have f5 := frozen_row hz1 5
  have c6 := row_cell hg1 6
  have d6 := row_cell hz1 6
  have f6 := frozen_row hz1 6
  have c7 := row_cell hg1 7
  have d7 := row_cell hz1 7
  have f7 := frozen_row hz1 7
  have c8 := row_cell hg1 8
  have d8 := row_cell hz1 8
  have f8 := frozen_row hz1 8
  have c9 := row_cell hg1 9
  have d9 := row_cell hz1 9
  have f9 := frozen_row hz1 9
  have c10 := row_cell hg1 10
  have d10 := row_cell hz1 10
  have f10 := frozen_row hz1 10
  have c11 := row_cell hg1 11
  have d11 := row_cell hz1 11
  have f11 := frozen_row hz1 11
  have c12 := row_cell hg1 12
  have d12 := row_cell hz1 12
  have f12 := frozen_row hz1 12
  have c13 := row_cell hg1 13
  have d13 := row_cell hz1 13
  have f13 := frozen_row hz1 13
  have c14 := row_cell hg1 14
  have d14 := row_cell hz1 14
  have f14 := frozen_row hz1 14
  have c15 := row_cell hg1 15
  have d15 := row_cell hz1 15
  have f15 := frozen_row hz1 15
  simp only [List.getElem?_toArray, List.getElem?_cons_zero, List.getElem?_cons_succ] at c0 d0 c1 d1 c2 d2 c3 d3 c4 d4 c5 d5 c6 d6 c7 d7 c8 d8 c9 d9 c10 d10 c11 d11 c12 d12 c13 d13 c14 d14 c15 d15
  clear hg1 hb1 hgr hz1 h3' h3 hc
  go_enter Try.func107, Try.ntmps107
  go_wp2_with fail
  refine wp_region_still_tail 3 (by kernel_rfl) (by kernel_rfl) ?_
  simp only [List.take_succ_cons, List.take_zero, List.drop_succ_cons, List.drop_zero, World.drew_eq]
  repeat still_step
  refine wpStill_nil ?_
  go_wp2
  exact bodyPost_ret (v := .agg #[.int .i64 ar, .int .i64 nr, .int .i64 ih, .int .i64 il, .int .i64 p0, .int .i64 q0, .int .i64 p1, .int .i64 q1, .int .i64 p2, .int .i64 q2, .int .i64 p3, .int .i64 q3, .int .i64 p4, .int .i64 q4, .int .i64 p5, .int .i64 q5]) (by simp [results, Try.results107, go_sem, d0, d1, d2, d3, d4, d5, d6, d7, d8, d9, d10, d11, d12, d13, d14, d15]) rfl ⟨rfl, ((((((((((((((((HB.out.setCell (p := ⟨w.heap.size + 1, 0, none⟩) (by simp) _).setCell (p := ⟨w.heap.size + 1, 1, none⟩) (by simp) _).setCell (p := ⟨w.heap.size + 1, 2, none⟩) (by simp) _).setCell (p := ⟨w.heap.size + 1, 3, none⟩) (by simp) _).setCell (p := ⟨w.heap.size + 1, 4, none⟩) (by simp) _).setCell (p := ⟨w.heap.size + 1, 5, none⟩) (by simp) _).setCell (p := ⟨w.heap.size + 1, 6, none⟩) (by simp) _).setCell (p := ⟨w.heap.size + 1, 7, none⟩) (by simp) _).setCell (p := ⟨w.heap.size + 1, 8, none⟩) (by simp) _).setCell (p := ⟨w.heap.size + 1, 9, none⟩) (by simp) _).setCell (p := ⟨w.heap.size + 1, 10, none⟩) (by simp) _).setCell (p := ⟨w.heap.size + 1, 11, none⟩) (by simp) _).setCell (p := ⟨w.heap.size + 1, 12, none⟩) (by simp) _).setCell (p := ⟨w.heap.size + 1, 13, none⟩) (by simp) _).setCell (p := ⟨w.heap.size + 1, 14, none⟩) (by simp) _).setCell (p := ⟨w.heap.size + 1, 15, none⟩) (by simp) _)⟩

end Go.Proofs.Ytmnmaijifhojiaa

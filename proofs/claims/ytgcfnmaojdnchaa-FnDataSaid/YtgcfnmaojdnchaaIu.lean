/- Walks of the program's recordOf and RecordRead. -/
import Derived.Test.YtgcfnmaojdnchaaIc
import Derived.Test.YtgcfnmaojdnchaaRr
set_option maxRecDepth 100000
set_option linter.unusedSimpArgs false
namespace Go.Proofs.Ytgcfnmaojdnchaa
open Go.RowKit
attribute [local go_sem ↓] Go.wp_at_zero Go.wp_at_succ

theorem own_of_row {w : World} {base g n : Nat} {cur : Array Value} {l : List Wd} (h : w.heap[g]? = some (.cells cur 24 (0, 0))) (hb : base ≤ g) (hc : cur.toList = l.flatMap wdCells) (hn : l.length = n) (hm : n ≤ 1000000000) : WdOwn base w (.slice (some ⟨g, 0, none⟩) n n) l := by
  have hl : (l.flatMap wdCells).length = n * 2 := by rw [flat_length wdS, hn]
  subst hn
  refine ⟨hl, .inr ⟨g, l.length, cur, rfl, hb, h, Nat.le_refl _, by unfold maxLen; omega, ?_, ?_⟩⟩
  · rw [← Array.length_toList, hc, hl]
  · rw [hc, List.take_of_length_le (by rw [hl]; exact Nat.le_refl _)]

/-- The copy of the last six words of a row of eight into a row of six. -/
theorem copy_args (w W : World) (g b : Nat) (T : TypeId) (v0 v1 v2 v3 : Value) (p0 q0 p1 q1 p2 q2 p3 q3 p4 q4 p5 q5 : Int) (hg : W.heap[g]? = some (.cells #[.int .i64 0, .int .i64 0, .int .i64 0, .int .i64 0, .int .i64 0, .int .i64 0, .int .i64 0, .int .i64 0, .int .i64 0, .int .i64 0, .int .i64 0, .int .i64 0] 24 (0, 0))) (hw : w.heap.size ≤ g) (hb : Below w.heap.size w W)
    (hs : W.heap[b]? = some (.cells #[v0, v1, v2, v3, .int .i64 p0, .int .i64 q0, .int .i64 p1, .int .i64 q1, .int .i64 p2, .int .i64 q2, .int .i64 p3, .int .i64 q3, .int .i64 p4, .int .i64 q4, .int .i64 p5, .int .i64 q5] T (0, 0))) : ∃ w1 : World,
    (Builtin.copy_ #[25, 25] 3 #[.slice (some ⟨g, 0, none⟩) 6 6, .slice (some ⟨b, 4, none⟩) 6 6]).run Try.prog W = .ok (.int .i64 6) w1 ∧
    w1.heap[g]? = some (.cells #[.int .i64 p0, .int .i64 q0, .int .i64 p1, .int .i64 q1, .int .i64 p2, .int .i64 q2, .int .i64 p3, .int .i64 q3, .int .i64 p4, .int .i64 q4, .int .i64 p5, .int .i64 q5] 24 (0, 0)) ∧ Below w.heap.size w w1 ∧ W.grownBy w1 (some g) := by
  have hr := run_copy_rows (P := Try.prog) W 25 25 3 24 2 g 0 6 6 ⟨b, 4, none⟩ 6 6 _ _ [.int .i64 p0, .int .i64 q0, .int .i64 p1, .int .i64 q1, .int .i64 p2, .int .i64 q2, .int .i64 p3, .int .i64 q3, .int .i64 p4, .int .i64 q4, .int .i64 p5, .int .i64 q5] Try.underlying25 info_word_size hg rfl (fun j v hj => by
    have e : (⟨b, 4, none⟩ : Addr).add j = ⟨b, 4 + j, none⟩ := by unfold Addr.add; split <;> simp_all
    rw [e, row_cell hs, Nat.add_comm 4 j]
    simpa using hj) (by simp) (by intro v hv; simp only [List.mem_cons, List.not_mem_nil, or_false] at hv; rcases hv with rfl | rfl | rfl | rfl | rfl | rfl | rfl | rfl | rfl | rfl | rfl | rfl <;> rfl)
  refine ⟨_, hr, setRow_heap _ _ _ _ _ (0, 0) hg, ?_, ?_⟩
  · exact ⟨hb.os, hb.tape, hb.output, by simpa using hb.size, fun k hk => (setRow_other _ _ _ _ (by omega)).trans (hb.block k hk)⟩
  · exact ⟨rfl, rfl, rfl, by simp, fun k hk hne => setRow_other _ _ _ _ (fun e => hne (by rw [e]))⟩

theorem args_made (w w1 : World) (ar nr ih il p0 q0 p1 q1 p2 q2 p3 q3 p4 q4 p5 q5 : Int) (h : w1.ownsRow (w.heap.size + 1 + 1) 24 2 (.slice (some ⟨w.heap.size + 1 + 1, 0, none⟩) 6 6) 6 ((List.replicate 6 wd0).flatMap wdCells)) (hg : ((w.alloc (.cells #[.int .i64 ar, .int .i64 nr, .int .i64 ih, .int .i64 il, .int .i64 p0, .int .i64 q0, .int .i64 p1, .int .i64 q1, .int .i64 p2, .int .i64 q2, .int .i64 p3, .int .i64 q3, .int .i64 p4, .int .i64 q4, .int .i64 p5, .int .i64 q5] 67)).alloc (.cells #[.int .i64 0, .int .i64 0, .int .i64 0, .int .i64 0, .slice none 0 0] 27)).grownBy w1 none) : ∃ w2 : World,
    (Builtin.copy_ #[25, 25] 3 #[.slice (some ⟨w.heap.size + 1 + 1, 0, none⟩) 6 6, .slice (some ⟨w.heap.size, 4, none⟩) 6 6]).run Try.prog w1 = .ok (.int .i64 6) w2 ∧
    w2.heap[w.heap.size]? = some (.cells #[.int .i64 ar, .int .i64 nr, .int .i64 ih, .int .i64 il, .int .i64 p0, .int .i64 q0, .int .i64 p1, .int .i64 q1, .int .i64 p2, .int .i64 q2, .int .i64 p3, .int .i64 q3, .int .i64 p4, .int .i64 q4, .int .i64 p5, .int .i64 q5] 67 (0, 0)) ∧ w2.heap[w.heap.size + 1]? = some (.cells #[.int .i64 0, .int .i64 0, .int .i64 0, .int .i64 0, .slice none 0 0] 27 (0, 0)) ∧
    w2.heap[w.heap.size + 1 + 1]? = some (.cells #[.int .i64 p0, .int .i64 q0, .int .i64 p1, .int .i64 q1, .int .i64 p2, .int .i64 q2, .int .i64 p3, .int .i64 q3, .int .i64 p4, .int .i64 q4, .int .i64 p5, .int .i64 q5] 24 (0, 0)) ∧ Below w.heap.size w w2 := by
  have hR := rows2 (Below.refl _ ((w.alloc (.cells #[.int .i64 ar, .int .i64 nr, .int .i64 ih, .int .i64 il, .int .i64 p0, .int .i64 q0, .int .i64 p1, .int .i64 q1, .int .i64 p2, .int .i64 q2, .int .i64 p3, .int .i64 q3, .int .i64 p4, .int .i64 q4, .int .i64 p5, .int .i64 q5] 67)).alloc (.cells #[.int .i64 0, .int .i64 0, .int .i64 0, .int .i64 0, .slice none 0 0] 27)))
  have hb1 : Below w.heap.size w w1 := hR.2.2.1.grown hg (by simp; omega) (fun k hk => by cases hk)
  have r0 := row_grown hR.1 hg (by simp)
  have r1 := row_grown hR.2.1 hg (by simp)
  rcases h.2 with ⟨e, _⟩ | ⟨g, cap, cur, e, hgb, hrow, hc1, hc2, hsz, htk⟩
  · cases e
  · simp only [Value.slice.injEq, Option.some.injEq, Addr.mk.injEq] at e
    obtain ⟨⟨rfl, _, _⟩, _, rfl⟩ := e
    have hcur : cur = #[.int .i64 0, .int .i64 0, .int .i64 0, .int .i64 0, .int .i64 0, .int .i64 0, .int .i64 0, .int .i64 0, .int .i64 0, .int .i64 0, .int .i64 0, .int .i64 0] := by
      apply Array.toList_inj.1
      rw [List.take_of_length_le (by rw [Array.length_toList, hsz]; exact Nat.le_refl _)] at htk
      rw [htk]
      rfl
    subst hcur
    obtain ⟨w2, hcp, hg2, hb2, hgr⟩ := copy_args w w1 (w.heap.size + 1 + 1) w.heap.size 67 (.int .i64 ar) (.int .i64 nr) (.int .i64 ih) (.int .i64 il) p0 q0 p1 q1 p2 q2 p3 q3 p4 q4 p5 q5 hrow (by omega) hb1 r0
    exact ⟨w2, hcp, row_grown r0 hgr (fun e => by injection e; omega), row_grown r1 hgr (fun e => by injection e; omega), hg2, hb2⟩

set_option maxHeartbeats 1600000 in
theorem recordOf_any (ar nr ih il p0 q0 p1 q1 p2 q2 p3 q3 p4 q4 p5 q5 : Int) (w : World) :
    Calls Try.prog 48 #[.agg #[.int .i64 ar, .int .i64 nr, .int .i64 ih, .int .i64 il, .int .i64 p0, .int .i64 q0, .int .i64 p1, .int .i64 q1, .int .i64 p2, .int .i64 q2, .int .i64 p3, .int .i64 q3, .int .i64 p4, .int .i64 q4, .int .i64 p5, .int .i64 q5]] w fun e w' => ∃ u, e = .returned (.agg #[.int .i64 nr, .int .i64 ar, .int .i64 ih, .int .i64 il, u]) ∧ WdOwn w.heap.size w' u [⟨p0, q0⟩, ⟨p1, q1⟩, ⟨p2, q2⟩, ⟨p3, q3⟩, ⟨p4, q4⟩, ⟨p5, q5⟩] ∧ Below w.heap.size w w' := by
  obtain ⟨i0, hi, hz0, hz1, hz2⟩ := info_parts info_wd
  go_enter Try.func48, Try.ntmps48
  go_wp2_with (refine wpList_make_full _ rfl _ _ _ rfl (w.heap.size + 1 + 1) 24 i0 _ 2 Try.underlying25 hi hz0 hz1 .i64 .i64 _ _ 6 rfl rfl rfl rfl (by rw [hz2]; omega) (by unfold maxLen; omega) (by simp) ?_; intro w1 hown1 hg1; rw [made_wd] at hown1; simp only [World.size_alloc] at hown1; obtain ⟨w2, hcp, r0, r1, r2, hb2⟩ := args_made w w1 ar nr ih il p0 q0 p1 q1 p2 q2 p3 q3 p4 q4 p5 q5 hown1 hg1; have HG2 := Lib.hid r2; have HB2 := Lib.hid hb2; have c0 := row_cell r0 0; have c1 := row_cell r0 1; have c2 := row_cell r0 2; have c3 := row_cell r0 3; have d0 := row_cell r1 0; have d1 := row_cell r1 1; have d2 := row_cell r1 2; have d3 := row_cell r1 3; have d4 := row_cell r1 4; have f0 := frozen_row r1 0; have f1 := frozen_row r1 1; have f2 := frozen_row r1 2; have f3 := frozen_row r1 3; have f4 := frozen_row r1 4; simp only [List.getElem?_toArray, List.getElem?_cons_zero, List.getElem?_cons_succ] at c0 c1 c2 c3 d0 d1 d2 d3 d4; clear r0 r1 r2 hb2 hg1 hown1)
  have hown : WdOwn (w.heap.size + 1 + 1) w2 (.slice (some ⟨w.heap.size + 1 + 1, 0, none⟩) 6 6) [⟨p0, q0⟩, ⟨p1, q1⟩, ⟨p2, q2⟩, ⟨p3, q3⟩, ⟨p4, q4⟩, ⟨p5, q5⟩] := own_of_row HG2.out (Nat.le_refl _) rfl rfl (by omega)
  exact bodyPost_ret (v := .agg #[.int .i64 nr, .int .i64 ar, .int .i64 ih, .int .i64 il, .slice (some ⟨w.heap.size + 1 + 1, 0, none⟩) 6 6]) (by simp [results, Try.results48, go_sem, d0, d1, d2, d3, d4]) rfl
    ⟨_, rfl, (((((hown.setBelow (by simp) _).setBelow (by simp) _).setBelow (by simp) _).setBelow (by simp) _).setBelow (by simp) _).base (by omega),
      ((((HB2.out.setCell (p := ⟨w.heap.size + 1, 0, none⟩) (by simp) _).setCell (p := ⟨w.heap.size + 1, 1, none⟩) (by simp) _).setCell (p := ⟨w.heap.size + 1, 2, none⟩) (by simp) _).setCell (p := ⟨w.heap.size + 1, 3, none⟩) (by simp) _).setCell (p := ⟨w.heap.size + 1, 4, none⟩) (by simp) _⟩

end Go.Proofs.Ytgcfnmaojdnchaa

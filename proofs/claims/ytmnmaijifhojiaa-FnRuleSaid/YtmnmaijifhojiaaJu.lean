/- Appends of whole lists; rows of rules that grow; l06Copy of the model walked. -/
import Derived.Test.YtmnmaijifhojiaaJq
import Derived.Test.YtmnmaijifhojiaaJp
set_option maxRecDepth 100000
set_option linter.unusedVariables false
set_option linter.unusedSimpArgs false
namespace Go.Proofs.Ytmnmaijifhojiaa
open Go.RowKit Go.ChangeShapes Go.WideShapes
attribute [local go_sem ↓] Go.wp_at_zero Go.wp_at_succ

theorem cqOne (x : Cq) : ∀ u ∈ cqCells x, u.oneCell' = true := by
  intro u hu
  simp [cqCells] at hu
  rcases hu with rfl | rfl | rfl | rfl | rfl | rfl <;> rfl
theorem rvOne {x : Rv} {w : World} {B : Nat} (h : CqAt w B x.v x.r.cs) : ∀ u ∈ rvCells x, u.oneCell' = true := by
  obtain ⟨a, cap, e, _, _⟩ := h.len
  intro u hu
  simp only [rvCells, List.mem_cons, List.not_mem_nil, or_false] at hu
  rcases hu with rfl | rfl | rfl
  · rfl
  · rfl
  · rw [e]; rfl

section
variable {α : Type} {f : α → List Value} {S : Nat} {wf : α → Prop}
/-- 'append(s, x...)' of a list that came in or was made: the row's block alone turns, or a new one is laid. -/
theorem run_append_L (T ty E : TypeId) (i0 : TypeInfo) (z : Value) (bytes : Nat) (hu : Try.prog.underlying T = some (.slice E)) (hi : Try.prog.info? E = some i0) (hz0 : i0.zero = some z) (hz1 : i0.size = S) (hz2 : i0.bytes = bytes) (hzs : z.cells.size = S) (hS0 : 0 < S)
    (w : World) (base : Nat) (v x : Value) (ls l : List α) (hown : OwnL E S f base w v ls) (hx : LAt f S wf w w.heap.size x l) (h1 : ∀ y ∈ l, ∀ u ∈ f y, u.oneCell' = true) (hlen : ls.length + l.length ≤ maxLen) (hby : (ls.length + l.length) * bytes ≤ 140737488355328) (hbase : base ≤ w.heap.size) :
    ∃ v' w', (Builtin.append_ #[T, T] ty #[v, x]).run Try.prog w = .ok v' w' ∧ OwnL E S f base w' v' (ls ++ l) ∧ GrB w w' v v' := by
  obtain ⟨a, cap, rfl, hlc, hcm⟩ := hx.len
  by_cases hl : l = []
  · subst hl
    obtain ⟨va, vcap, rfl⟩ := OwnL.slice hown
    have hvc : ls.length ≤ vcap := by
      rcases hown.2 with ⟨e, hn⟩ | ⟨g, cap', cur, e, _, _, hc, _⟩
      · omega
      · simp only [Value.slice.injEq] at e
        obtain ⟨_, _, rfl⟩ := e
        exact hc
    refine ⟨_, w, ?_, by simpa using hown, GrB.refl _ _⟩
    simp only [List.length_nil]
    unfold Builtin.append_
    have hE : (underlying T).run Try.prog w = .ok (.slice E) w := run_underlying hu w
    cases va <;> cases a <;> simp [hE, sizeOf, typeInfo, hi, hz1, Builtin.lenOf, Builtin.firstCells, hvc, go_sem, storeCells]
  · have hl0 : 0 < l.length := by cases l with
      | nil => exact absurd rfl hl
      | cons y l => simp
    obtain ⟨hSx, ⟨a', cap', e, _, _, h3⟩, hwf⟩ := hx
    simp only [Value.slice.injEq] at e
    obtain ⟨rfl, _, rfl⟩ := e
    obtain ⟨b, o, rfl, hb, hc⟩ := h3 hl0
    obtain ⟨v', w', hr, hown', hg, _, hat⟩ := run_append_own_at (P := Try.prog) w base T ty E i0 z S bytes hu hi hz0 hz1 hz2 hzs hS0 v ls.length (ls.flatMap f) hown ⟨b, o, none⟩ l.length cap (l.flatMap f) (flat_length hSx l) (fun j u hj => by rw [add_at]; exact hc j u hj)
      (fun u hu => by obtain ⟨y, hy, huy⟩ := List.mem_flatMap.1 hu; exact h1 y hy u huy) hlen hby hbase
    refine ⟨v', w', hr, ?_, hg, ?_⟩
    · unfold OwnL
      rw [List.flatMap_append, List.length_append]
      exact hown'
    · rcases hat with e | e
      · exact .inl e
      · exact .inr fun g hg' => by rw [e] at hg'; injection hg' with hg'; omega
end

theorem run_append_cq (ty : TypeId) (w : World) (base : Nat) (v x : Value) (ls l : List Cq) (hown : CqOwn base w v ls) (hx : CqAt w w.heap.size x l) (hlen : ls.length ≤ 1000000) (hlen2 : l.length ≤ 2000000000000) (hbase : base ≤ w.heap.size) :
    ∃ v' w', (Builtin.append_ #[33, 33] ty #[v, x]).run Try.prog w = .ok v' w' ∧ CqOwn base w' v' (ls ++ l) ∧ GrB w w' v v' := by
  obtain ⟨i0, hi, hz0, hz1, hz2⟩ := info_parts info_cq
  exact run_append_L 33 ty 26 i0 _ 48 Try.underlying33 hi hz0 hz1 hz2 rfl (by decide) w base v x ls l hown hx (fun y _ => cqOne y) (by unfold maxLen; omega) (by omega) hbase
theorem run_append_rv (ty : TypeId) (w : World) (base : Nat) (v x : Value) (ls l : List Rv) (hown : OwnL 35 3 rvCells base w v ls) (hx : RvAt w w.heap.size x l) (hlen : ls.length ≤ 1000000) (hlen2 : l.length ≤ 2000000000000) (hbase : base ≤ w.heap.size) :
    ∃ v' w', (Builtin.append_ #[30, 30] ty #[v, x]).run Try.prog w = .ok v' w' ∧ OwnL 35 3 rvCells base w' v' (ls ++ l) ∧ GrB w w' v v' := by
  obtain ⟨i0, hi, hz0, hz1, hz2⟩ := info_parts info_rv
  exact run_append_L 30 ty 35 i0 _ 40 Try.underlying30 hi hz0 hz1 hz2 rfl (by decide) w base v x ls l hown hx.1 (fun y hy => rvOne (hx.2 y hy)) (by unfold maxLen; omega) (by omega) hbase

/-- A builtin append as one operation, by what it runs to. -/
theorem wp_append_run {o : Oper} {a : Act} {K : Act → World → Prop} {Q : Exit → Act → World → Prop} {T : TypeId} (s x : Operand) (ho : o.op = .call { callee := .builtin .append, args := #[s, x], argTypes := #[T, T] }) {w w' : World} {v u v' : Value}
    (hs : a.eval s = v) (hx : a.eval x = u) (hr : (Builtin.append_ #[T, T] o.type #[v, u]).run Try.prog w = .ok v' w') (h : K (a.put o.dst v') w') : Oper.wp Try.prog o a w K Q := by
  unfold Oper.wp execOp
  simp only [ho, resolve, invoke, builtin, Sem.run_bind, Sem.run_pure, Result.andThen_ok, List.map_toArray, List.map_cons, List.map_nil, hs, hx, hr]
  exact h
theorem wpList_append_run {ops : Array Oper} {rest : List Oper} {o : Oper} {a : Act} {Q : Exit → Act → World → Prop} {T : TypeId} (hgd : o.guard = none) (s x : Operand) (ho : o.op = .call { callee := .builtin .append, args := #[s, x], argTypes := #[T, T] }) {w w' : World} {v u v' : Value}
    (hs : a.eval s = v) (hx : a.eval x = u) (hr : (Builtin.append_ #[T, T] o.type #[v, u]).run Try.prog w = .ok v' w') (h : wpList Try.prog ops Q rest (a.put o.dst v') w') : wpList Try.prog ops Q (o :: rest) a w :=
  wpList_plain hgd fun _ hK => wp_append_run s x ho hs hx hr (hK _ _ h)
theorem step_append_run {ops : Array Oper} {o : Oper} {a : Act} {K : Act → World → Prop} {Q : Exit → Act → World → Prop} {E : Prop} {T : TypeId} (hgd : o.guard = none) (s x : Operand) (ho : o.op = .call { callee := .builtin .append, args := #[s, x], argTypes := #[T, T] }) {w w' : World} {v u v' : Value}
    (hs : a.eval s = v) (hx : a.eval x = u) (hr : (Builtin.append_ #[T, T] o.type #[v, u]).run Try.prog w = .ok v' w') (h : K (a.put o.dst v') w') : if Region.wanted o (yielded ops a.tmps) = true then Oper.wp Try.prog o a w K Q else E := by
  have hw : Region.wanted o (yielded ops a.tmps) = true := by simp [Region.wanted, hgd]
  rw [if_pos hw]
  exact wp_append_run s x ho hs hx hr h

set_option maxHeartbeats 1600000 in
theorem l06Copy_any (nr ac : Int) (cs : List Cq) (v : Value) (w : World) (hv : CqAt w w.heap.size v cs) (hn : cs.length ≤ 1048576) :
    Calls Try.prog 72 #[.agg #[.int .i64 nr, .int .i64 ac, v]] w fun e w' => ∃ u, e = .returned (.agg #[.int .i64 nr, .int .i64 ac, u]) ∧ CqOwn w.heap.size w' u cs ∧ Below w.heap.size w w' := by
  obtain ⟨a, cap, rfl, hlc, hcm⟩ := hv.len
  have HV := Lib.hid hv
  clear hv
  have hB0 : Below w.heap.size w (((w.alloc (.cells #[.int .i64 nr, .int .i64 ac, .slice a cs.length cap] 35)).alloc (.cells #[.int .i64 0, .int .i64 0, .slice none 0 0] 35)).alloc (.cells #[] 26)) := (((Below.refl _ _).alloc (Nat.le_refl _) _).alloc (by simp) _).alloc (by simp; omega) _
  have hown0 : CqOwn (w.heap.size + 2) (((w.alloc (.cells #[.int .i64 nr, .int .i64 ac, .slice a cs.length cap] 35)).alloc (.cells #[.int .i64 0, .int .i64 0, .slice none 0 0] 35)).alloc (.cells #[] 26)) (.slice (some ⟨w.heap.size + 1 + 1, 0, none⟩) 0 0) [] := OwnL.lit (by simp) (by simp)
  obtain ⟨v', w1, hr, hown, hg⟩ := run_append_cq 33 _ (w.heap.size + 2) _ _ [] cs hown0 (LAt.up (LAt.below HV.out hB0) hB0.size) (by simp) (by omega) (by simp)
  rw [List.nil_append] at hown
  obtain ⟨ua, ucap, rfl⟩ := OwnL.slice hown
  have hB1 : Below w.heap.size w w1 := hB0.grown hg.1 hB0.size (fun k hk => by simp [Value.ownBlock] at hk; omega)
  have r0 : w1.heap[w.heap.size]? = some (.cells #[.int .i64 nr, .int .i64 ac, .slice a cs.length cap] 35 (0, 0)) :=
    row_grown (row_alloc (row_alloc (heap_alloc_new w _) _) _) hg.1 (by simp [Value.ownBlock] <;> omega)
  have r1 : w1.heap[w.heap.size + 1]? = some (.cells #[.int .i64 0, .int .i64 0, .slice none 0 0] 35 (0, 0)) :=
    row_grown (row_alloc (by have e := heap_alloc_new (w.alloc (.cells #[.int .i64 nr, .int .i64 ac, .slice a cs.length cap] 35)) (.cells #[.int .i64 0, .int .i64 0, .slice none 0 0] 35); rw [World.size_alloc] at e; exact e) _) hg.1 (by simp [Value.ownBlock] <;> omega)
  have c0 := row_cell r0 0
  have c1 := row_cell r0 1
  have c2 := row_cell r0 2
  have d0 := row_cell r1 0
  have d1 := row_cell r1 1
  have d2 := row_cell r1 2
  simp [-Array.getElem?_eq_getElem] at c0 c1 c2 d0 d1 d2
  have g2 := frozen_row r0 2
  have f0 := frozen_row r1 0
  have f1 := frozen_row r1 1
  have f2 := frozen_row r1 2
  have HB := Lib.hid hB1
  have HO := Lib.hid hown
  clear r0 r1 hB1 hown hg hB0 hown0
  go_enter Try.func72, Try.ntmps72
  go_wp2_with (refine wpList_append_run rfl _ _ rfl (by rfl) (by rfl) hr ?_)
  exact bodyPost_ret (v := .agg #[.int .i64 nr, .int .i64 ac, .slice ua cs.length ucap]) (by simp [results, Try.results72, go_sem, d0, d1, d2]) rfl
    ⟨_, rfl, ((((HO.out.setBelow (by simp) _).setBelow (by simp) _).setBelow (by simp) _).setBelow (by simp) _).base (by omega),
      (((HB.out.setCell (p := ⟨w.heap.size, 2, none⟩) (by simp) _).setCell (p := ⟨w.heap.size + 1, 0, none⟩) (by simp) _).setCell (p := ⟨w.heap.size + 1, 1, none⟩) (by simp) _).setCell (p := ⟨w.heap.size + 1, 2, none⟩) (by simp) _⟩

end Go.Proofs.Ytmnmaijifhojiaa

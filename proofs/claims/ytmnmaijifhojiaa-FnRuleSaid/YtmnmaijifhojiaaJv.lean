/- Rows of rules that grow by one; l06Policy of the model walked. -/
import Derived.Test.YtmnmaijifhojiaaJu
import Derived.Deep.RegionLaw
set_option maxRecDepth 100000
set_option linter.unusedVariables false
set_option linter.unusedSimpArgs false
namespace Go.Proofs.Ytmnmaijifhojiaa
open Go.RowKit Go.ChangeShapes Go.WideShapes
attribute [local go_sem ↓] Go.wp_at_zero Go.wp_at_succ

theorem OwnL.keep {α : Type} {f : α → List Value} {S : Nat} {E : TypeId} {base : Nat} {w w' : World} {v : Value} {l : List α} (h : OwnL E S f base w v l) (hk : ∀ g, v.ownBlock = some g → w'.heap[g]? = w.heap[g]?) : OwnL E S f base w' v l := by
  rcases h.2 with ⟨e, hn⟩ | ⟨g, cap, cur, rfl, hg, hr, h1, h2, h3, h4⟩
  · exact ⟨h.1, .inl ⟨e, hn⟩⟩
  · exact ⟨h.1, .inr ⟨g, cap, cur, rfl, hg, (hk g rfl).trans hr, h1, h2, h3, h4⟩⟩
theorem Inner.keep {base : Nat} {w w' : World} {l : List Rv} (h : Inner base w l) (hk : ∀ x ∈ l, ∀ g, x.v.ownBlock = some g → w'.heap[g]? = w.heap[g]?) : Inner base w' l := ⟨fun x hx => (h.1 x hx).keep (hk x hx), h.2⟩
/-- What another row's growth leaves. -/
theorem Inner.grown {base : Nat} {w w' : World} {l : List Rv} {row : Option Nat} (h : Inner base w l) (hg : w.grownBy w' row) (hd : ∀ x ∈ l, ∀ g, x.v.ownBlock = some g → row ≠ some g) : Inner base w' l :=
  h.keep fun x hx g hxg => hg.block g (OwnL.lt (h.1 x hx) g hxg).2 fun e => hd x hx g hxg e.symm
/-- A row that has grown, or a new one: its rules' lists lie as they lay. -/
theorem OwnRv.of_grown {base : Nat} {w w' : World} {v v' : Value} {L : List Rv} (hi : Inner base w L) (hd : ∀ x ∈ L, Disj x.v v) (ho : OwnL 35 3 rvCells base w' v' L) (hg : GrB w w' v v') : OwnRv base w' v' L := by
  refine ⟨ho, hi.grown hg.1 (fun x hx g hxg => hd x hx g hxg), fun x hx g hxg e => ?_⟩
  have hlt := (OwnL.lt (hi.1 x hx) g hxg).2
  rcases hg.2 with h2 | h2
  · exact hd x hx g hxg (h2.symm.trans e)
  · have := h2 g e
    omega
theorem Inner.push {base : Nat} {w : World} {l : List Rv} {x : Rv} (h : Inner base w l) (hx : CqOwn base w x.v x.r.cs) (hd : ∀ y ∈ l, Disj y.v x.v) : Inner base w (l ++ [x]) := by
  refine ⟨fun y hy => ?_, ?_⟩
  · rcases List.mem_append.1 hy with h1 | h1
    · exact h.1 y h1
    · obtain rfl : y = x := by simpa using h1
      exact hx
  · rw [List.pairwise_append]
    exact ⟨h.2, by simp, fun y hy z hz => by obtain rfl : z = x := (by simpa using hz); exact hd y hy⟩

theorem OwnRv.pushed {base : Nat} {wr w2 w3 : World} {u v3 ub : Value} {l' : List Rv} {r : Rl} (h : OwnRv base wr u l') (hb : Below wr.heap.size wr w2) (hu : CqOwn wr.heap.size w2 ub r.cs) (hB : base ≤ wr.heap.size)
    (ho : OwnL 35 3 rvCells base w3 v3 (l' ++ [⟨r, ub⟩])) (hg : GrB w2 w3 u v3) : OwnRv base w3 v3 (l' ++ [⟨r, ub⟩]) := by
  refine OwnRv.of_grown (w := w2) (v := u) (Inner.push (h.2.1.below hb) (OwnL.base hu hB) (fun y hy g hg1 e => ?_)) (fun x hx => ?_) ho hg
  · have h1 := (OwnL.lt (h.2.1.1 y hy) g hg1).2
    have h2 := (OwnL.lt hu g e).1
    omega
  · rcases List.mem_append.1 hx with h1 | h1
    · exact h.2.2 x h1
    · obtain rfl : x = ⟨r, ub⟩ := by simpa using h1
      intro g hg1 e
      have h1 := (OwnL.lt hu g hg1).1
      have h2 := (OwnL.lt h.1 g e).2
      omega

/-- 'append(l, rule)': the rule lies in a block of its own. -/
theorem run_push_rv (wr : World) (xn xc : Int) (ds : List Cq) (xa : Option Addr) (xcap : Nat) (ty : TypeId)
    (base : Nat) (v : Value) (ls : List Rv) (hown : OwnL 35 3 rvCells base wr v ls) (hlen : ls.length ≤ 1000000000) (hbase : base ≤ wr.heap.size) :
    ∃ v' w', (Builtin.append_ #[30, 30] ty #[v, .slice (some ⟨wr.heap.size, 0, none⟩) 1 1]).run Try.prog (wr.alloc (.cells #[.int .i64 xn, .int .i64 xc, .slice xa ds.length xcap] 35)) = .ok v' w' ∧
      OwnL 35 3 rvCells base w' v' (ls ++ [⟨⟨xn, xc, ds⟩, .slice xa ds.length xcap⟩]) ∧ GrB wr w' v v' := by
  obtain ⟨i0, hi, hz0, hz1, hz2⟩ := info_parts info_rv
  obtain ⟨v', w', hr, hown', hg, _, hat⟩ := run_append_own_at (P := Try.prog) (wr.alloc (.cells #[.int .i64 xn, .int .i64 xc, .slice xa ds.length xcap] 35)) base 30 ty 35 i0 _ 3 40 Try.underlying30 hi hz0 hz1 hz2 rfl (by decide) v ls.length (ls.flatMap rvCells)
    (World.ownsRow.alloc hown _) ⟨wr.heap.size, 0, none⟩ 1 1 [.int .i64 xn, .int .i64 xc, .slice xa ds.length xcap] rfl (fun j u hj => by rw [add_at, Nat.zero_add, World.cell?_alloc_at _ _ _ _ rfl, ← hj]; simp) (by intro u hu; simp at hu; rcases hu with rfl | rfl | rfl <;> rfl) (by unfold maxLen; omega) (by omega) (by simp; omega)
  refine ⟨v', w', hr, ?_, GrB.alloc ⟨hg, ?_⟩⟩
  · unfold OwnL
    rw [List.flatMap_append, List.length_append]
    exact hown'
  · rcases hat with e | e
    · exact .inl e
    · exact .inr fun g hg' => by rw [e] at hg'; injection hg' with hg'; omega
theorem step_push_rv {ops : Array Oper} {o : Oper} {a : Act} {K : Act → World → Prop} {Q : Exit → Act → World → Prop} {E : Prop} (hgd : o.guard = none) (s x : Operand)
    (ho : o.op = .call { callee := .builtin .append, args := #[s, x], argTypes := #[30, 30] }) (wr : World) (xn xc : Int) (ds : List Cq) (xa : Option Addr) (xcap : Nat)
    (base : Nat) (v : Value) (ls : List Rv) (hs : a.eval s = v) (hown : OwnL 35 3 rvCells base wr v ls)
    (hx : a.eval x = .slice (some ⟨wr.heap.size, 0, none⟩) 1 1) (hlen : ls.length ≤ 1000000000) (hbase : base ≤ wr.heap.size)
    (hcont : ∀ v' w', OwnL 35 3 rvCells base w' v' (ls ++ [⟨⟨xn, xc, ds⟩, .slice xa ds.length xcap⟩]) → GrB wr w' v v' → K (a.put o.dst v') w') :
    if Region.wanted o (yielded ops a.tmps) = true then Oper.wp Try.prog o a (wr.alloc (.cells #[.int .i64 xn, .int .i64 xc, .slice xa ds.length xcap] 35)) K Q else E := by
  obtain ⟨v', w', hr, h2, h3⟩ := run_push_rv wr xn xc ds xa xcap o.type base v ls hown hlen hbase
  exact step_append_run hgd s x ho hs hx hr (hcont _ _ h2 h3)

/-- What a policy's variable and others keep behind a callee and an append. -/
theorem kept_row {wr w2 w3 : World} {g : Nat} {cs : Array Value} {T : TypeId} {v v' : Value} (hrow : wr.heap[g]? = some (.cells cs T (0, 0))) (hb : Below wr.drew.heap.size wr.drew w2) (hg3 : GrB w2 w3 v v') (hv : ∀ k, v.ownBlock = some k → g + 1 ≤ k) :
    w3.heap[g]? = some (.cells cs T (0, 0)) := by
  have hb2 : Below wr.heap.size wr w2 := ((Below.refl wr.heap.size wr).drew).trans hb
  refine row_grown (below_row hb2 hrow) hg3.1 (fun e => ?_)
  have := hv g e
  omega

set_option maxHeartbeats 6400000 in
theorem l06Policy_any (ar df bd : Int) (l : List Rv) (v : Value) (w : World) (hv : RvAt w w.heap.size v l) (hn : l.length ≤ 1048576) (hc : ∀ x ∈ l, x.r.cs.length ≤ 1048576) :
    Calls Try.prog 76 #[polV ar df bd v] w fun e w' => ∃ u l', e = .returned (polV ar df bd u) ∧ rls l' = rls l ∧ OwnRv w.heap.size w' u l' ∧ Below w.heap.size w w' := by
  obtain ⟨a, cap, rfl, hlc, hcm⟩ := hv.len
  unfold maxLen at hcm
  have HV := Lib.hid hv
  have HC := Lib.hid hc
  clear hv hc
  go_enter Try.func76, Try.ntmps76
  go_wp2_with fail
  have hB0 : Below w.heap.size w (((w.alloc (.cells #[.int .i64 ar, .int .i64 df, .int .i64 bd, .slice a l.length cap] 32)).alloc (.cells #[.int .i64 0, .int .i64 0, .int .i64 0, .slice none 0 0] 32)).alloc (.cells #[.int .i64 ar, .int .i64 df, .int .i64 bd, .slice none 0 0] 32)) := (((Below.refl _ _).alloc (Nat.le_refl _) _).alloc (by simp) _).alloc (by simp; omega) _
  have R := rows3 (Below.refl (((w.alloc (.cells #[.int .i64 ar, .int .i64 df, .int .i64 bd, .slice a l.length cap] 32)).alloc (.cells #[.int .i64 0, .int .i64 0, .int .i64 0, .slice none 0 0] 32)).alloc (.cells #[.int .i64 ar, .int .i64 df, .int .i64 bd, .slice none 0 0] 32)).heap.size _)
  go_loopw [4] (fun i wr => ∃ (k : Nat) (u : Value) (l' : List Rv), k ≤ l.length ∧ i = .int .i64 k ∧ l'.length = k ∧ rls l' = rls (l.take k) ∧ wr.heap[w.heap.size]? = some (.cells #[.int .i64 ar, .int .i64 df, .int .i64 bd, .slice a l.length cap] 32 (0, 0)) ∧
      wr.heap[w.heap.size + 1]? = some (.cells #[.int .i64 0, .int .i64 0, .int .i64 0, .slice none 0 0] 32 (0, 0)) ∧ wr.heap[w.heap.size + 1 + 1]? = some (.cells #[.int .i64 ar, .int .i64 df, .int .i64 bd, u] 32 (0, 0)) ∧
      OwnRv (w.heap.size + 3) wr u l' ∧ Below w.heap.size w wr ∧ w.heap.size + 3 ≤ wr.heap.size) (fun i _ => l.length - (intOf i).toNat)
  case atStart => exact ⟨0, _, [], by omega, rfl, rfl, rfl, R.1, R.2.1, R.2.2.1, ⟨OwnL.nil _ _, Inner.nil _ _, fun x hx => by simp at hx⟩, hB0, by simp⟩
  case round =>
    obtain ⟨k, u, l', hk, rfl, hl', hrl, r0, r1, r2, hown, hbw, hsz⟩ := hrel
    obtain ⟨ua, ucap, rfl⟩ := hown.slice
    have p3 := row_cell r0 3
    have c3 := row_cell r2 3
    simp only [List.getElem?_toArray, List.getElem?_cons_zero, List.getElem?_cons_succ] at p3 c3
    by_cases hlt : k < l.length
    · obtain ⟨b, o, e, hb, d0, d1, d2, hwf, hcq⟩ := RvAt.place (RvAt.below HV.out hbw) (List.getElem?_eq_getElem hlt)
      subst e
      have hcl := HC.out l[k] (List.getElem_mem hlt)
      have htk : rls (l.take (k + 1)) = rls (l.take k) ++ [l[k].r] := by rw [List.take_succ_eq_append_getElem hlt, rls_append]; rfl
      generalize l[k] = y at d0 d1 d2 hcq htk hcl
      obtain ⟨⟨xn, xc, ds⟩, xv⟩ := y
      simp only at d0 d1 d2 hcq htk hcl
      obtain ⟨xva, xcap, rfl, _, _⟩ := hcq.len
      have q := fun W (h : Below wr.heap.size wr W) => l06Copy_any xn xc ds _ W (LAt.up (LAt.below hcq (h.mono hbw.size)) (Nat.le_trans hbw.size h.size)) hcl
      have QQ := Lib.hid q
      have HT := Lib.hid htk
      have HRL := Lib.hid hrl
      have R0 := Lib.hid r0
      have R1 := Lib.hid r1
      have R2 := Lib.hid r2
      have HOWN := Lib.hid hown
      have HBW := Lib.hid hbw
      have hkeep : ∀ w2 : World, Below wr.drew.heap.size wr.drew w2 → (w2.cell? ⟨w.heap.size + 1 + 1, 3, none⟩ = some (.slice ua l'.length ucap) ∧ w2.cell? ⟨w.heap.size, 3, none⟩ = some (.slice (some ⟨b, o, none⟩) l.length cap) ∧
          w2.cell? ⟨b, o + k * 3, none⟩ = some (.int .i64 xn) ∧ w2.cell? ⟨b, o + k * 3 + 1, none⟩ = some (.int .i64 xc) ∧ w2.cell? ⟨b, o + k * 3 + 2, none⟩ = some (.slice xva ds.length xcap)) := fun w2 hb2 => by
        have hb3 : Below wr.heap.size wr w2 := ((Below.refl wr.heap.size wr).drew).trans hb2
        have hbs : b < wr.heap.size := Nat.lt_of_lt_of_le hb hbw.size
        exact ⟨(World.cell?_of_block (hb3.block (w.heap.size + 1 + 1) (by omega))).trans c3, (World.cell?_of_block (hb3.block w.heap.size (by omega))).trans p3, (World.cell?_of_block (hb3.block b hbs)).trans d0, (World.cell?_of_block (hb3.block b hbs)).trans d1, (World.cell?_of_block (hb3.block b hbs)).trans d2⟩
      have HK := Lib.hid hkeep
      have hl1 : l'.length ≤ 1000000000 := by omega
      have HL := Lib.hid hl'
      have hl20 : w.heap.size + 1 + 1 < wr.heap.size := by omega
      clear q htk hrl r0 r1 r2 hown hbw hkeep hcq hwf hl'
      go_wp2_with fail
      go_region_law (first
          | ((refine step_push_rv (by rfl) _ _ (by rfl) w2 xn xc ds ub ubcap (w.heap.size + 3) (.slice ua l'.length ucap) l' (by rfl) hown2.1 (by rfl) hl1 (by omega) ?_; intro v3 w3 hown3 hg3; have hk2 := kept_row R2.out hb2 hg3 (fun j hj => by have := (OwnL.lt HOWN.out.1 j hj).1; omega); have c6 := row_cell hk2 3; simp only [List.getElem?_toArray, List.getElem?_cons_zero, List.getElem?_cons_succ] at c6; have f6 := frozen_row hk2 3; have HK2 := Lib.hid hk2; clear hk2; obtain ⟨va, vcap, rfl⟩ := hown3.slice))
          | ((go_simp; (with_reducible refine (QQ.out _ (Below.refl _ _).drew).mono ?_); rintro e w2 ⟨u2, rfl, hu2, hb2⟩; obtain ⟨ub, ubcap, rfl⟩ := OwnL.slice hu2; obtain ⟨k0, k1, k2, k3, k4⟩ := HK.out _ hb2; have hs2 : wr.heap.size ≤ w2.heap.size := hb2.size; have hw2lt : w.heap.size + 1 + 1 < w2.heap.size := Nat.lt_of_lt_of_le hl20 hs2; have hown2 := OwnRv.below HOWN.out (((Below.refl wr.heap.size wr).drew).trans hb2); dsimp only)))
      all_goals
        have hb2' : Below wr.heap.size wr w2 := ((Below.refl wr.heap.size wr).drew).trans hb2
        have hlow : ∀ j, (Value.slice ua l'.length ucap).ownBlock = some j → w.heap.size + 3 ≤ j := fun j hj => (OwnL.lt HOWN.out.1 j hj).1
        have k0 := kept_row R0.out hb2 hg3 (fun j hj => by have := hlow j hj; omega)
        have k1 := kept_row R1.out hb2 hg3 (fun j hj => by have := hlow j hj; omega)
        have hO3 := OwnRv.pushed (r := ⟨xn, xc, ds⟩) HOWN.out hb2' hu2 (by omega) hown3 hg3
        rw [List.length_append] at hO3
        have hB3 : Below w.heap.size w w3 := (HBW.out.trans (hb2'.mono HBW.out.size)).grown hg3.1 (by omega) (fun j hj => by have := hlow j hj; omega)
        have hs3 : w.heap.size + 3 ≤ w3.heap.size := by have := hg3.1.size; omega
        have hX : ∀ v : Value, (w3.setCell ⟨w.heap.size + 1 + 1, 3, none⟩ v).heap[w.heap.size]? = some (.cells #[.int .i64 ar, .int .i64 df, .int .i64 bd, .slice (some ⟨b, o, none⟩) l.length cap] 32 (0, 0)) ∧
            (w3.setCell ⟨w.heap.size + 1 + 1, 3, none⟩ v).heap[w.heap.size + 1]? = some (.cells #[.int .i64 0, .int .i64 0, .int .i64 0, .slice none 0 0] 32 (0, 0)) ∧
            OwnRv (w.heap.size + 3) (w3.setCell ⟨w.heap.size + 1 + 1, 3, none⟩ v) (.slice va (l'.length + 1) vcap) (l' ++ [⟨⟨xn, xc, ds⟩, .slice ub ds.length ubcap⟩]) ∧ Below w.heap.size w (w3.setCell ⟨w.heap.size + 1 + 1, 3, none⟩ v) ∧ w.heap.size + 3 ≤ (w3.setCell ⟨w.heap.size + 1 + 1, 3, none⟩ v).heap.size := fun v =>
          ⟨row_other k0 3 v (by omega), row_other k1 3 v (by omega), hO3.setBelow (by simp) v, hB3.setCell (p := ⟨w.heap.size + 1 + 1, 3, none⟩) (by simp; omega) v, by simp [World.setCell]; omega⟩
        have HX := Lib.hid hX
        have HRN := Lib.hid (show rls (l' ++ [⟨⟨xn, xc, ds⟩, .slice ub ds.length ubcap⟩]) = rls (l.take (k + 1)) by rw [rls_append, HRL.out, HT.out]; rfl)
        have HLN := Lib.hid (show (l' ++ [(⟨⟨xn, xc, ds⟩, .slice ub ds.length ubcap⟩ : Rv)]).length = k + 1 by rw [List.length_append, HL.out]; rfl)
        clear hX k0 k1 hO3 hB3 hown3 hg3 hu2 hlow
        go_wp2_with fail
        go_roundw
        case rel => exact ⟨k + 1, _, _, by omega, by go_num, HLN.out, HRN.out, (HX.out _).1, (HX.out _).2.1, row_put HK2.out 3 _, (HX.out _).2.2.1, (HX.out _).2.2.2.1, (HX.out _).2.2.2.2⟩
        case measure => simp [intOf]; omega
    · have hkl : k = l.length := by omega
      have HT := Lib.hid (show rls l' = rls l by rw [hrl, hkl, List.take_length])
      have HO := Lib.hid hown
      have HB := Lib.hid hbw
      have c0 := row_cell r2 0
      have c1 := row_cell r2 1
      have c2 := row_cell r2 2
      have d0 := row_cell r1 0
      have d1 := row_cell r1 1
      have d2 := row_cell r1 2
      have d3 := row_cell r1 3
      simp [-Array.getElem?_eq_getElem] at c0 c1 c2 d0 d1 d2 d3
      have f0 := frozen_row r1 0
      have f1 := frozen_row r1 1
      have f2 := frozen_row r1 2
      have f3 := frozen_row r1 3
      clear r0 r1 r2 hown hbw hrl hl'
      go_wp2_with fail
      exact bodyPost_ret (v := polV ar df bd (.slice ua l'.length ucap)) (by simp [results, Try.results76, go_sem, d0, d1, d2, d3]) rfl
        ⟨_, l', rfl, HT.out, ((((HO.out.setBelow (by simp) _).setBelow (by simp) _).setBelow (by simp) _).setBelow (by simp) _).base (by omega),
          (((HB.out.setCell (p := ⟨w.heap.size + 1, 0, none⟩) (by simp) _).setCell (p := ⟨w.heap.size + 1, 1, none⟩) (by simp) _).setCell (p := ⟨w.heap.size + 1, 2, none⟩) (by simp) _).setCell (p := ⟨w.heap.size + 1, 3, none⟩) (by simp) _⟩

end Go.Proofs.Ytmnmaijifhojiaa

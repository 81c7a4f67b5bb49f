/- withRules of the program walked. -/
import Derived.Test.YtmnmaijifhojiaaJy
import Derived.Deep.RegionLaw
set_option maxRecDepth 100000
set_option linter.unusedVariables false
set_option linter.unusedSimpArgs false
namespace Go.Proofs.Ytmnmaijifhojiaa
open Go.RowKit Go.ChangeShapes Go.WideShapes
attribute [local go_sem ↓] Go.wp_at_zero Go.wp_at_succ

theorem set_same {α : Type} {l : List α} {i : Nat} {v : α} (h : l[i]? = some v) : l.set i v = l := by
  apply List.ext_getElem?
  intro j
  by_cases hj : j = i
  · subst hj
    rw [List.getElem?_set_self (List.getElem?_eq_some_iff.1 h).1, h]
  · rw [List.getElem?_set_ne (by omega)]
theorem set_third {l : List Rv} {k : Nat} {x : Rv} (u : Value) (hx : l[k]? = some x) : (l.flatMap rvCells).set (k * 3 + 2) u = (l.set k ⟨x.r, u⟩).flatMap rvCells := by
  have hlt : k < l.length := (List.getElem?_eq_some_iff.1 hx).1
  rw [← flat_set rvS (by omega) ⟨x.r, u⟩ hlt]
  show _ = (((l.flatMap rvCells).set (k * 3) (.int .i64 x.r.nr)).set (k * 3 + 1) (.int .i64 x.r.ac)).set (k * 3 + 1 + 1) u
  have h0 : (l.flatMap rvCells)[k * 3]? = some (.int .i64 x.r.nr) := flat_at rvS hx (j := 0) (by omega)
  have h1 : (l.flatMap rvCells)[k * 3 + 1]? = some (.int .i64 x.r.ac) := flat_at rvS hx (j := 1) (by omega)
  rw [set_same h0, set_same h1]

set_option maxHeartbeats 6400000 in
theorem withRules_any (ar df bd : Int) (va : Option Addr) (vn vc : Nat) (lv : Value) (ls : List (Value × List Rv)) (w : World) (hv : LsAt w w.heap.size lv ls) (hn : (catL ls).length ≤ 1000) (hc : ∀ x ∈ catL ls, x.r.cs.length ≤ 1048576) :
    Calls Try.prog 68 #[polV ar df bd (.slice va vn vc), lv] w fun e w' => ∃ u l', e = .returned (polV ar df bd u) ∧ rls l' = rls (catL ls) ∧ OwnRv w.heap.size w' u l' ∧ Below w.heap.size w w' := by
  have hB0 : Below w.heap.size w ((w.alloc (.cells #[.int .i64 ar, .int .i64 df, .int .i64 bd, .slice va vn vc] 32)).alloc (.cells #[.int .i64 0, .int .i64 0, .int .i64 0, .slice none 0 0] 32)) := ((Below.refl _ _).alloc (Nat.le_refl _) _).alloc (by simp) _
  have q := concat_any lv ls _ (LsAt.up (LsAt.below hv hB0) hB0.size) hn
  have QC := Lib.hid q
  have hat : ∀ x ∈ catL ls, CqAt w w.heap.size x.v x.r.cs ∧ x.r.wf := fun x hx => by
    obtain ⟨y, hy, hxy⟩ := List.mem_flatMap.1 hx
    exact ⟨(hv.2 y hy).2 x hxy, (hv.2 y hy).1.2.2 x hxy⟩
  have HAT := Lib.hid hat
  have HC := Lib.hid hc
  generalize catL ls = L at *
  clear q hv hat hc
  go_enter Try.func68, Try.ntmps68
  go_wp2_with fail
  refine QC.out.mono ?_
  rintro e w1 ⟨u, rfl, hu, hb1⟩
  obtain ⟨r0, r1, hB1, hS1⟩ := rows2 hb1
  obtain ⟨ua, ucap, rfl⟩ := OwnL.slice hu
  have c3 := row_cell r0 3
  simp only [List.getElem?_toArray, List.getElem?_cons_zero, List.getElem?_cons_succ] at c3
  have f3 := frozen_row r0 3
  have hu2 : OwnL 35 3 rvCells (w.heap.size + 2) w1 (.slice ua L.length ucap) L := OwnL.base hu (by simp)
  have R0 := Lib.hid r0
  have R1 := Lib.hid r1
  have HU := Lib.hid hu2
  have HB1 := Lib.hid hB1
  clear hb1 r0 r1 hu hu2 hB1
  go_wp2_with fail
  go_loopw [13] (fun i wr => ∃ (k : Nat) (l' : List Rv), k ≤ L.length ∧ i = .int .i64 k ∧ l'.length = k ∧ rls l' = rls (L.take k) ∧ wr.heap[w.heap.size]? = some (.cells #[.int .i64 ar, .int .i64 df, .int .i64 bd, .slice ua L.length ucap] 32 (0, 0)) ∧
      wr.heap[w.heap.size + 1]? = some (.cells #[.int .i64 0, .int .i64 0, .int .i64 0, .slice none 0 0] 32 (0, 0)) ∧ wr.ownsRow (w.heap.size + 2) 35 3 (.slice ua L.length ucap) L.length ((l' ++ L.drop k).flatMap rvCells) ∧
      Inner (w.heap.size + 2) wr l' ∧ (∀ x ∈ l', Disj x.v (.slice ua L.length ucap)) ∧ Below w.heap.size w wr ∧ w.heap.size + 2 ≤ wr.heap.size) (fun i _ => L.length - (intOf i).toNat)
  case atStart => exact ⟨0, [], by omega, rfl, rfl, rfl, row_put R0.out 3 _, row_other R1.out 3 _ (by omega), HU.out.setBelow (by simp) _, Inner.nil _ _, fun x hx => by simp at hx, HB1.out.setCell (p := ⟨w.heap.size, 3, none⟩) (Nat.le_refl _) _, by simp [World.setCell]; omega⟩
  case round =>
    obtain ⟨k, l', hk, rfl, hl', hrl, r0, r1, hown, hin, hdj, hbw, hsz⟩ := hrel
    clear c3 f3
    have c3 := row_cell r0 3
    simp only [List.getElem?_toArray, List.getElem?_cons_zero, List.getElem?_cons_succ] at c3
    by_cases hlt : k < L.length
    · obtain ⟨g, cap2, cur, e, hg0, hgr, hgc, hgm, _, _⟩ : ∃ g cap cur, (Value.slice ua L.length ucap) = .slice (some ⟨g, 0, none⟩) L.length cap ∧ w.heap.size + 2 ≤ g ∧ wr.heap[g]? = some (.cells cur 35 (0, 0)) ∧ L.length ≤ cap ∧ cap ≤ maxLen ∧ cur.size = cap * 3 ∧ cur.toList.take (L.length * 3) = ((l' ++ L.drop k).flatMap rvCells) := by
        rcases hown.2 with ⟨_, hn0⟩ | h
        · omega
        · exact h
      simp only [Value.slice.injEq, true_and] at e
      obtain ⟨rfl, rfl⟩ := e
      have hget : (l' ++ L.drop k)[k]? = some L[k] := by rw [List.getElem?_append_right (by omega), hl', Nat.sub_self, List.getElem?_drop]; simp [hlt]
      obtain ⟨d0, d1, d2, f0, f1, f2⟩ := rv_own_at hown hget
      have hth := fun u2 => set_third u2 hget
      have htn := fun x => (turnL (l := L) hl' hlt x).2
      obtain ⟨hcq0, hwf0⟩ := HAT.out L[k] (List.getElem_mem hlt)
      have hcl := HC.out L[k] (List.getElem_mem hlt)
      have htk : rls (L.take (k + 1)) = rls (L.take k) ++ [L[k].r] := by rw [List.take_succ_eq_append_getElem hlt, rls_append]; rfl
      generalize L[k] = y at d0 d1 d2 hcq0 htk hcl hth
      obtain ⟨⟨xn, xc, ds⟩, xv⟩ := y
      simp only at d0 d1 d2 hcq0 htk hcl hth
      obtain ⟨xva, xcap, rfl, _, _⟩ := hcq0.len
      have hcq := LAt.up (LAt.below hcq0 hbw) hbw.size
      have hglt : g < wr.heap.size := row_here hgr
      have hBA : Below wr.heap.size wr (wr.alloc (.cells #[.int .i64 xn, .int .i64 xc, .slice xva ds.length xcap] 35)) := (Below.refl _ _).alloc (Nat.le_refl _) _
      have hcl1 := fun W (h : Below wr.heap.size wr W) => clone_any ds _ W (LAt.up (LAt.below hcq h) h.size) hcl
      have QCl := Lib.hid hcl1
      have hkeep : ∀ w2 : World, Below (wr.alloc (.cells #[.int .i64 xn, .int .i64 xc, .slice xva ds.length xcap] 35)).drew.heap.size (wr.alloc (.cells #[.int .i64 xn, .int .i64 xc, .slice xva ds.length xcap] 35)).drew w2 → (w2.cell? ⟨w.heap.size, 3, none⟩ = some (.slice (some ⟨g, 0, none⟩) L.length ucap) ∧ w2.cell? ⟨wr.heap.size, 2, none⟩ = some (.slice xva ds.length xcap) ∧ w2.cell? ⟨g, k * 3 + 2, none⟩ = some (.slice xva ds.length xcap) ∧ w2.frozen? ⟨g, k * 3 + 2, none⟩ = false) := fun w2 hb2 => by
        have hb3 : Below (wr.alloc (.cells #[.int .i64 xn, .int .i64 xc, .slice xva ds.length xcap] 35)).heap.size (wr.alloc (.cells #[.int .i64 xn, .int .i64 xc, .slice xva ds.length xcap] 35)) w2 := ((Below.refl _ _).drew).trans hb2
        have hb4 := box_below hb3
        exact ⟨row_cell (below_row hb4 r0) 3, box_cell hb3 2, (World.cell?_of_block (hb4.block g hglt)).trans d2, (hb4.frozen (p := ⟨g, k * 3 + 2, none⟩) hglt).trans f2⟩
      have HK := Lib.hid hkeep
      have HTH := Lib.hid (fun u2 => (hth u2).trans (congrArg (List.flatMap rvCells) (htn _)))
      have R0 := Lib.hid r0
      have R1 := Lib.hid r1
      have HOWN := Lib.hid hown
      have HIN := Lib.hid hin
      have HDJ := Lib.hid hdj
      have HBW := Lib.hid hbw
      have HRL := Lib.hid hrl
      have HL := Lib.hid hl'
      have HTK := Lib.hid htk
      have hltw : w.heap.size < wr.heap.size := by omega
      clear hcl1 hkeep hth htn r0 r1 hown hin hdj hbw hrl hl' htk hcq hcq0 hwf0 hget hgr
      go_wp2_with fail
      go_region_law ((go_simp; (with_reducible refine (QCl.out _ hBA.drew).mono ?_); rintro e w2 ⟨u2, rfl, hu2, hb2⟩; obtain ⟨ub, ubcap, rfl⟩ := OwnL.slice hu2; obtain ⟨k0, k1, k2, k3⟩ := HK.out _ hb2; dsimp only))
      all_goals
        have hb3 : Below wr.heap.size wr w2 := box_below (((Below.refl _ _).drew).trans hb2)
        have hu3 : CqOwn wr.heap.size w2 (.slice ub ds.length ubcap) ds := OwnL.base hu2 (by show wr.heap.size ≤ (wr.alloc _).heap.size; simp)
        have hset := ((own_below HOWN.out hb3).stored (k * 3 + 2) (.slice ub ds.length ubcap)).1
        rw [HTH.out] at hset
        have hin2 : Inner (w.heap.size + 2) w2 (l' ++ [⟨⟨xn, xc, ds⟩, .slice ub ds.length ubcap⟩]) := Inner.snoc HIN.out hb3 hu3 hsz
        have hdj2 : ∀ x ∈ l' ++ [(⟨⟨xn, xc, ds⟩, .slice ub ds.length ubcap⟩ : Rv)], Disj x.v (.slice (some ⟨g, 0, none⟩) L.length ucap) := fun x hx => by
          rcases List.mem_append.1 hx with h1 | h1
          · exact HDJ.out x h1
          · obtain rfl : x = ⟨⟨xn, xc, ds⟩, .slice ub ds.length ubcap⟩ := by simpa using h1
            intro j hj e
            have h2 := (OwnL.lt hu3 j hj).1
            simp [Value.ownBlock] at e
            omega
        have hin3 : Inner (w.heap.size + 2) (w2.setCell ⟨g, k * 3 + 2, none⟩ (.slice ub ds.length ubcap)) (l' ++ [⟨⟨xn, xc, ds⟩, .slice ub ds.length ubcap⟩]) := hin2.keep fun x hx j hj => Below.heap_setCell w2 ⟨g, k * 3 + 2, none⟩ _ j (fun e => hdj2 x hx j hj (by rw [e]; rfl))
        have HA := Lib.hid (row_other (below_row hb3 R0.out) (k * 3 + 2) (.slice ub ds.length ubcap) (h := g) (by omega))
        have HB := Lib.hid (row_other (below_row hb3 R1.out) (k * 3 + 2) (.slice ub ds.length ubcap) (h := g) (by omega))
        have HS := Lib.hid hset
        have HI := Lib.hid hin3
        have HD := Lib.hid hdj2
        have HW := Lib.hid ((HBW.out.trans (hb3.mono HBW.out.size)).setCell (p := ⟨g, k * 3 + 2, none⟩) (by show w.heap.size ≤ g; omega) (.slice ub ds.length ubcap))
        have HZ := Lib.hid (show w.heap.size + 2 ≤ (w2.setCell ⟨g, k * 3 + 2, none⟩ (.slice ub ds.length ubcap)).heap.size by have := hb3.size; simp [World.setCell]; omega)
        have HRN := Lib.hid (show rls (l' ++ [⟨⟨xn, xc, ds⟩, .slice ub ds.length ubcap⟩]) = rls (L.take (k + 1)) by rw [rls_append, HRL.out, HTK.out]; rfl)
        have HLN := Lib.hid (show (l' ++ [(⟨⟨xn, xc, ds⟩, .slice ub ds.length ubcap⟩ : Rv)]).length = k + 1 by rw [List.length_append, HL.out]; rfl)
        clear hset hin2 hin3 hdj2 hu3 hu2 hb2 hb3 k0 k1 k2 k3
        go_wp2_with fail
        go_roundw
        case rel => exact ⟨k + 1, _, by omega, by go_num, HLN.out, HRN.out, HA.out, HB.out, HS.out, HI.out, HD.out, HW.out, HZ.out⟩
        case measure => simp [intOf]; omega
    · have hkl : k = L.length := by omega
      have hO : OwnRv (w.heap.size + 2) wr (.slice ua L.length ucap) l' := by
        refine ⟨?_, hin, hdj⟩
        unfold OwnL
        rw [hl', hkl]
        rw [hkl, List.drop_length, List.append_nil] at hown
        exact hown
      have HT := Lib.hid (show rls l' = rls L by rw [hrl, hkl, List.take_length])
      have HO := Lib.hid hO
      have HB := Lib.hid hbw
      have c0 := row_cell r0 0
      have c1 := row_cell r0 1
      have c2 := row_cell r0 2
      have d0 := row_cell r1 0
      have d1 := row_cell r1 1
      have d2 := row_cell r1 2
      have d3 := row_cell r1 3
      simp only [List.getElem?_toArray, List.getElem?_cons_zero, List.getElem?_cons_succ] at c0 c1 c2 d0 d1 d2 d3
      have g0 := frozen_row r1 0
      have g1 := frozen_row r1 1
      have g2 := frozen_row r1 2
      have g3 := frozen_row r1 3
      clear r0 r1 hown hin hdj hbw hrl hl' hO
      go_wp2_with fail
      exact bodyPost_ret (v := polV ar df bd (.slice ua L.length ucap)) (by simp [results, Try.results68, go_sem, d0, d1, d2, d3]) rfl
        ⟨_, l', rfl, HT.out, ((((HO.out.setBelow (by simp) _).setBelow (by simp) _).setBelow (by simp) _).setBelow (by simp) _).base (by omega),
          (((HB.out.setCell (p := ⟨w.heap.size + 1, 0, none⟩) (by simp) _).setCell (p := ⟨w.heap.size + 1, 1, none⟩) (by simp) _).setCell (p := ⟨w.heap.size + 1, 2, none⟩) (by simp) _).setCell (p := ⟨w.heap.size + 1, 3, none⟩) (by simp) _⟩

end Go.Proofs.Ytmnmaijifhojiaa

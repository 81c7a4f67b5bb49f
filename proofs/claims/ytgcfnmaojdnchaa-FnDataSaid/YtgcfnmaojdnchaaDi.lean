/- Draws of records walked. -/
import Derived.Test.YtgcfnmaojdnchaaDh
import Derived.Deep.DeepCutAuto
import Derived.Deep.CutRange
set_option maxRecDepth 100000
set_option linter.unusedSimpArgs false
namespace Go.Proofs.Ytgcfnmaojdnchaa
open Go.RowKit
attribute [local go_sem ↓] Go.wp_at_zero Go.wp_at_succ

/-- Behind the drawn thing's append: the variable, the result and the source. -/
theorem src_push {w wr w2 w3 : World} {g R H : Nat} {a : Option Addr} {len cap : Nat} {cs : Array Value} {T : TypeId} {v : Value} {o : Obj} (haf : AfterSrc g a len cap w wr) (hgl : g < w.heap.size) (h2 : AfterSrc g a len cap wr.drew w2)
    (hrow : wr.heap[R]? = some (.cells cs T (0, 0))) (hH : wr.heap[H]? = some o) (hwR : w.heap.size ≤ R) (hwH : w.heap.size ≤ H) (hHR : H ≤ R) (hg3 : w2.grownBy w3 v.ownBlock) (hv : ∀ k, v.ownBlock = some k → R + 1 ≤ k ∧ k < w2.heap.size) :
    w3.heap[R]? = some (.cells cs T (0, 0)) ∧ w3.heap[H]? = some o ∧ AfterSrc g a len cap w w3 ∧ wr.heap.size ≤ w3.heap.size := by
  have hlt : R < wr.heap.size := row_here hrow
  have h2s : wr.heap.size ≤ w2.heap.size := h2.2.size
  have ha2 : AfterSrc g a len cap w w2 := haf.trans ⟨h2.1, ⟨h2.2.os, h2.2.tape, h2.2.output, h2.2.size, h2.2.block⟩⟩
  have r2 : w2.heap[R]? = some (.cells cs T (0, 0)) := h2.row (w := wr.drew) hrow (by omega)
  have q2 : w2.heap[H]? = some o := h2.row (w := wr.drew) hH (by omega)
  have hne : ∀ q, q ≤ R → some q ≠ v.ownBlock := fun q hq e => by have := (hv q e.symm).1; omega
  have hs1 := haf.2.size
  refine ⟨row_grown r2 hg3 (Ne.symm (hne R (Nat.le_refl _))), row_grown q2 hg3 (Ne.symm (hne H hHR)), ⟨ha2.1.keep fun q hq => hg3.block q (by omega) (hne q (by omega)), ⟨hg3.os.trans ha2.2.os, hg3.tape.trans ha2.2.tape, hg3.output.trans ha2.2.output, Nat.le_trans ha2.2.size hg3.size,
    fun q hq hn => (hg3.block q (by omega) (hne q (by omega))).trans (ha2.2.block q hq hn)⟩⟩, Nat.le_trans h2s hg3.size⟩

set_option maxHeartbeats 3200000 in
theorem srcRecordOf_any (g : Nat) (a : Option Addr) (len cap : Nat) (w : World) (hs : Src w g a len cap) :
    Calls Try.prog 44 #[.pointer (some ⟨g, 0, none⟩)] w fun e w' => ∃ (r : Rc) (u : Value), e = .returned (rcV r u) ∧ rcRight r = true ∧ WdOwn w.heap.size w' u r.args ∧ AfterSrc g a len cap w w' := by
  have hgl := hs.lt
  have ha0 : AfterSrc g a len cap w (w.alloc (.cells #[.int .i64 0, .int .i64 0, .int .i64 0, .int .i64 0, .slice none 0 0] 27)) := AfterSrc.of_below hs ((Below.refl _ _).alloc (Nat.le_refl _) _)
  have HA0 := Lib.hid ha0
  clear ha0 hs
  go_enter Try.func44, Try.ntmps44
  go_wp2_with fail
  refine (srcN_any g a len cap 5 _ HA0.out.1 (by omega) (by omega)).mono ?_
  rintro e w1 ⟨nr, rfl, hn0, hn1, _, hs1, hg1⟩
  have hnr : nr ≤ 4294967295 := by have := hn1 (by omega); omega
  have HA1 : Hid (AfterSrc g a len cap w w1) := Lib.hid (HA0.out.trans ⟨hs1, hg1⟩)
  have HR1 := Lib.hid (AfterSrc.row ⟨hs1, hg1⟩ (heap_alloc_new w _) (by omega))
  clear hn1 hs1 hg1
  go_wp2_with fail
  refine (srcWord_any g a len cap _ HA1.out.1).mono ?_
  rintro e w2 ⟨ih, il, rfl, hip, ha2⟩
  have HA2 := Lib.hid ((HA1.out.trans ha2).more (.cells #[.int .i64 nr, .int .i64 7, .int .i64 ih, .int .i64 il, .slice none 0 0] 27))
  have HH2 := Lib.hid (row_alloc (ha2.row HR1.out (by omega)) (.cells #[.int .i64 nr, .int .i64 7, .int .i64 ih, .int .i64 il, .slice none 0 0] 27))
  have HR2 := Lib.hid (heap_alloc_new w2 (.cells #[.int .i64 nr, .int .i64 7, .int .i64 ih, .int .i64 il, .slice none 0 0] 27))
  have hHR : w.heap.size < w2.heap.size := row_here (ha2.row HR1.out (by omega))
  have HIP := Lib.hid hip
  clear ha2 hip
  go_wp2_with fail
  refine (srcOne_any g a len cap 6 _ HA2.out.1 (by omega) (by omega)).mono ?_
  rintro e w3 ⟨b1, rfl, ha3⟩
  have HA3 := Lib.hid (HA2.out.trans ha3)
  have HH3 := Lib.hid (ha3.row HH2.out (by omega))
  have HR3 := Lib.hid (ha3.row HR2.out (by omega))
  clear ha3
  go_upto_if 11 with fail
  go_cut [] from 12 to 15 (fun ws => ∃ ar : Int, 0 ≤ ar ∧ ar ≤ 4294967295 ∧ ws.heap[w.heap.size]? = some (.cells #[.int .i64 0, .int .i64 0, .int .i64 0, .int .i64 0, .slice none 0 0] 27 (0, 0)) ∧ ws.heap[w2.heap.size]? = some (.cells #[.int .i64 nr, .int .i64 ar, .int .i64 ih, .int .i64 il, .slice none 0 0] 27 (0, 0)) ∧ AfterSrc g a len cap w ws)
  case first =>
    cases b1
    · go_wp2_with fail
      go_meet
      exact ⟨7, by omega, by omega, HH3.out, HR3.out, HA3.out⟩
    · go_wp2_with fail
      refine (srcN_any g a len cap 9 _ HA3.out.1 (by omega) (by omega)).mono ?_
      rintro e w4 ⟨ar, rfl, hr0, hr1, _, hs1, hg1⟩
      have har : ar ≤ 4294967295 := by have := hr1 (by omega); omega
      have ha4 : AfterSrc g a len cap w3 w4 := ⟨hs1, hg1⟩
      have HA4 := Lib.hid (HA3.out.trans ha4)
      have HH4 := Lib.hid (ha4.row HH3.out (by omega))
      have HR4 := Lib.hid (ha4.row HR3.out (by omega))
      have c1 := row_cell HR4.out 1
      have f1 := frozen_row HR4.out 1
      simp only [List.getElem?_toArray, List.getElem?_cons_zero, List.getElem?_cons_succ] at c1
      clear hr1 hs1 hg1 ha4
      go_wp2_with fail
      go_meet
      exact ⟨ar, by omega, by omega, row_other HH4.out _ _ (by omega), row_put HR4.out 1 _, HA4.out.put hgl (p := ⟨w2.heap.size, 1, none⟩) (show w.heap.size ≤ w2.heap.size by omega) _⟩
  case rest =>
  clear HA3 HH3 HR3 HA2 HH2 HR2
  obtain ⟨ar, ar0, ar1, hh, hr, ha⟩ := hcut
  have HA4 := Lib.hid ha
  have HH4 := Lib.hid hh
  have HR4 := Lib.hid hr
  clear ha hh hr
  go_wp2_with fail
  refine (srcOne_any g a len cap 10 _ HA4.out.1 (by omega) (by omega)).mono ?_
  rintro e w5 ⟨b2, rfl, ha5⟩
  have HA5 := Lib.hid (HA4.out.trans ha5)
  have HH5 := Lib.hid (ha5.row HH4.out (by omega))
  have HR5 := Lib.hid (ha5.row HR4.out (by omega))
  clear ha5
  go_upto_if 16 with fail
  go_cut [] from 17 to 20 (fun ws => ∃ nr' : Int, 0 ≤ nr' ∧ nr' ≤ 4294967295 ∧ ws.heap[w.heap.size]? = some (.cells #[.int .i64 0, .int .i64 0, .int .i64 0, .int .i64 0, .slice none 0 0] 27 (0, 0)) ∧ ws.heap[w2.heap.size]? = some (.cells #[.int .i64 nr', .int .i64 ar, .int .i64 ih, .int .i64 il, .slice none 0 0] 27 (0, 0)) ∧ AfterSrc g a len cap w ws)
  case first =>
    cases b2
    · go_wp2_with fail
      go_meet
      exact ⟨nr, by omega, by omega, HH5.out, HR5.out, HA5.out⟩
    · go_wp2_with fail
      refine (srcHalf_any g a len cap _ HA5.out.1).mono ?_
      rintro e w6 ⟨x, rfl, hx0, hx1, ha6⟩
      have HA6 := Lib.hid (HA5.out.trans ha6)
      have HH6 := Lib.hid (ha6.row HH5.out (by omega))
      have HR6 := Lib.hid (ha6.row HR5.out (by omega))
      have c0 := row_cell HR6.out 0
      have f0 := frozen_row HR6.out 0
      simp only [List.getElem?_toArray, List.getElem?_cons_zero] at c0
      clear ha6
      go_wp2_with fail
      go_meet
      exact ⟨x, by omega, by omega, row_other HH6.out _ _ (by omega), row_put HR6.out 0 _, HA6.out.put hgl (p := ⟨w2.heap.size, 0, none⟩) (show w.heap.size ≤ w2.heap.size by omega) _⟩
  case rest =>
  clear HA4 HH4 HR4 HA5 HH5 HR5 HA1 HR1 HA0
  obtain ⟨nr', nr0, nr1, hh, hr, ha⟩ := hcut
  have HA7 := Lib.hid ha
  have HH7 := Lib.hid hh
  have HR7 := Lib.hid hr
  have hs7 : w2.heap.size + 1 ≤ wc.heap.size := row_here hr
  clear ha hh hr
  go_wp2_with fail
  go_loopw [4] (fun i wr => ∃ (k : Nat) (u : Value) (l : List Wd), k ≤ 6 ∧ i = .int .i64 k ∧ l.length = k ∧ (l.all wdRight = true) ∧ wr.heap[w2.heap.size]? = some (.cells #[.int .i64 nr', .int .i64 ar, .int .i64 ih, .int .i64 il, u] 27 (0, 0)) ∧ wr.heap[w.heap.size]? = some (.cells #[.int .i64 0, .int .i64 0, .int .i64 0, .int .i64 0, .slice none 0 0] 27 (0, 0)) ∧ WdOwn (w2.heap.size + 1) wr u l ∧ AfterSrc g a len cap w wr ∧ w2.heap.size + 1 ≤ wr.heap.size)
    (fun i _ => 6 - (intOf i).toNat)
  case atStart => exact ⟨0, _, [], by omega, rfl, rfl, rfl, HR7.out, HH7.out, OwnL.nil _ _, HA7.out, hs7⟩
  case round =>
    obtain ⟨k, u, l, hk, rfl, hlen, hall, hrow, hres, hown, haf, hsz⟩ := hrel
    obtain ⟨ua, ucap, rfl⟩ := hown.slice
    have HROW := Lib.hid hrow
    have HRES := Lib.hid hres
    have HOWN := Lib.hid hown
    have HAF := Lib.hid haf
    have HL := Lib.hid hlen
    have HALL := Lib.hid hall
    clear hrow hres hown haf hlen hall
    by_cases hlt : k < 6
    · have c4 : wr.cell? ⟨w2.heap.size, 4, none⟩ = some (.slice ua l.length ucap) := by rw [cell_of_row _ _ _ _ _ _ HROW.out]; rfl
      have hq := srcWord_any g a len cap wr.drew HAF.out.1
      have QQ := Lib.hid hq
      have hlen6 : l.length ≤ 1000000000 := by have := HL.out; omega
      clear hq
      go_wp2_with fail
      go_region_law (first
          | ((refine step_push_wd (by rfl) _ _ (by rfl) _ _ _ (w2.heap.size + 1) (.slice ua l.length ucap) l (by rfl) hown2 (by rfl) hlen6 (by have := hs2; omega) ?_; intro v3 w3 hown3 hg3; have hkp := src_push HAF.out hgl HA2.out HROW.out HRES.out (by omega) (Nat.le_refl _) (by omega) hg3.1 hown2.lt; have c6 : w3.cell? ⟨w2.heap.size, 4, none⟩ = some (.slice ua l.length ucap) := (cell_of_row _ _ _ _ _ _ hkp.1).trans rfl; have f6 := frozen_row hkp.1 4; have HKP := Lib.hid hkp; clear hkp; obtain ⟨va, vcap, rfl⟩ := hown3.slice))
          | ((go_simp; (with_reducible refine QQ.out.mono ?_); rintro e w5 ⟨xh, xl, rfl, hx, ha2⟩; have HA2 := Lib.hid ha2; have c5 : w5.cell? ⟨w2.heap.size, 4, none⟩ = some (.slice ua l.length ucap) := (cell_of_row _ _ _ _ _ _ (ha2.row (w := wr.drew) HROW.out (by omega))).trans rfl; have hs2 : w2.heap.size + 1 ≤ w5.heap.size := Nat.le_trans hsz ha2.2.size; have hlt5 : w2.heap.size < w5.heap.size := hs2; have hown2 : WdOwn (w2.heap.size + 1) w5 (.slice ua l.length ucap) l := World.ownsRow.kept (w := wr.drew) HOWN.out ha2.2 (by
                rcases h : (Value.slice ua l.length ucap).ownBlock with _ | q
                · exact .inl rfl
                · exact .inr (fun e => by have := (HOWN.out.lt q h).1; injection e with e; omega)); have HX := Lib.hid hx; clear ha2 hx; dsimp only)))
      all_goals
        have hnx : (l ++ [(⟨xh, xl⟩ : Wd)]).length = k + 1 := by rw [List.length_append, HL.out]; rfl
        have hax : (l ++ [(⟨xh, xl⟩ : Wd)]).all wdRight = true := by rw [List.all_append, HALL.out]; simp [HX.out]
        have hoX : ∀ v : Value, WdOwn (w2.heap.size + 1) (w3.setCell ⟨w2.heap.size, 4, none⟩ v) (.slice va (l.length + 1) vcap) (l ++ [⟨xh, xl⟩]) := fun v => by simpa only [List.length_append, List.length_cons, List.length_nil, Nat.zero_add] using hown3.setBelow (a := ⟨w2.heap.size, 4, none⟩) (by simp) v
        have HNX := Lib.hid hnx
        have HAX := Lib.hid hax
        have HOX := Lib.hid hoX
        clear hnx hax hoX hown3 hg3
        go_wp2_with fail
        go_roundw
        case rel => exact ⟨k + 1, _, l ++ [⟨xh, xl⟩], by omega, by go_num, HNX.out, HAX.out, row_put HKP.out.1 4 _, row_other HKP.out.2.1 _ _ (by omega), HOX.out _, HKP.out.2.2.1.put hgl (p := ⟨w2.heap.size, 4, none⟩) (show w.heap.size ≤ w2.heap.size by omega) _, by have b := HKP.out.2.2.2; simp [World.setCell]; omega⟩
        case measure => simp [intOf]; omega
    · have hk6 : k = 6 := by omega
      have HK := Lib.hid hk6
      clear hk6
      have c0 := row_cell HROW.out 0
      have c1 := row_cell HROW.out 1
      have c2 := row_cell HROW.out 2
      have c3 := row_cell HROW.out 3
      have c4 := row_cell HROW.out 4
      have d0 := row_cell HRES.out 0
      have d1 := row_cell HRES.out 1
      have d2 := row_cell HRES.out 2
      have d3 := row_cell HRES.out 3
      have d4 := row_cell HRES.out 4
      have f0 := frozen_row HRES.out 0
      have f1 := frozen_row HRES.out 1
      have f2 := frozen_row HRES.out 2
      have f3 := frozen_row HRES.out 3
      have f4 := frozen_row HRES.out 4
      simp only [List.getElem?_toArray, List.getElem?_cons_zero, List.getElem?_cons_succ] at c0 c1 c2 c3 c4 d0 d1 d2 d3 d4
      go_wp2_with fail
      exact bodyPost_ret (v := .agg #[.int .i64 nr', .int .i64 ar, .int .i64 ih, .int .i64 il, .slice ua l.length ucap]) (by simp [results, Try.results44, go_sem, d0, d1, d2, d3, d4]) rfl
        ⟨⟨nr', ar, ⟨ih, il⟩, l⟩, _, rfl, by simp only [rcRight, HIP.out, HALL.out, isB_yes nr0 nr1, isB_yes ar0 ar1, HL.out, HK.out]; rfl,
          (((((HOWN.out.setBelow (by simp; omega) _).setBelow (by simp; omega) _).setBelow (by simp; omega) _).setBelow (by simp; omega) _).setBelow (by simp; omega) _).base (by omega),
          ((((HAF.out.put hgl (p := ⟨w.heap.size, 0, none⟩) (Nat.le_refl _) _).put hgl (p := ⟨w.heap.size, 1, none⟩) (Nat.le_refl _) _).put hgl (p := ⟨w.heap.size, 2, none⟩) (Nat.le_refl _) _).put hgl (p := ⟨w.heap.size, 3, none⟩) (Nat.le_refl _) _).put hgl (p := ⟨w.heap.size, 4, none⟩) (Nat.le_refl _) _⟩

end Go.Proofs.Ytgcfnmaojdnchaa

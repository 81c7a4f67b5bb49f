/- Draws of records that may be wrong; what the laws of chapter 4 draw. -/
import Derived.Test.YtgcfnmaojdnchaaDi
import Derived.Test.YtgcfnmaojdnchaaRh
set_option maxRecDepth 100000
set_option linter.unusedSimpArgs false
namespace Go.Proofs.Ytgcfnmaojdnchaa
open Go.RowKit
attribute [local go_sem ↓] Go.wp_at_zero Go.wp_at_succ

theorem wf_of_right {x : Wd} (h : wdRight x = true) : x.wf := by
  have := wd_bounds h
  unfold Wd.wf In64
  omega

theorem AfterSrc.grown {g : Nat} {a : Option Addr} {len cap : Nat} {w W : World} (h : AfterSrc g a len cap w W) : w.grownBy W (some g) := h.2

theorem own_setFirst {w : World} {base b n cap : Nat} {x0 : Wd} {tl : List Wd} (h : WdOwn base w (.slice (some ⟨b, 0, none⟩) n cap) (x0 :: tl)) (x : Int) : WdOwn base (w.setCell ⟨b, 0, none⟩ (.int .i64 x)) (.slice (some ⟨b, 0, none⟩) n cap) (⟨x, x0.l⟩ :: tl) := by
  obtain ⟨a', cap', e⟩ := OwnL.slice h
  simp only [Value.slice.injEq] at e
  obtain ⟨_, rfl, _⟩ := e
  exact (World.ownsRow.stored h 0 (.int .i64 x)).1

theorem own_first {w : World} {base b n cap : Nat} {x : Wd} {tl : List Wd} (h : WdOwn base w (.slice (some ⟨b, 0, none⟩) n cap) (x :: tl)) : w.cell? ⟨b, 0, none⟩ = some (.int .i64 x.h) ∧ w.frozen? ⟨b, 0, none⟩ = false := by
  obtain ⟨a', cap', e⟩ := OwnL.slice h
  simp only [Value.slice.injEq] at e
  obtain ⟨_, rfl, _⟩ := e
  have q := wd_own_at (k := 0) (x := x) h rfl
  simp only [Nat.zero_mul] at q
  exact ⟨q.1, q.2.2.1⟩

theorem WdAt.tail {w : World} {B b o n cap : Nat} {x : Wd} {l : List Wd} (h : WdAt w B (.slice (some ⟨b, o, none⟩) n cap) (x :: l)) : WdAt w B (.slice (some ⟨b, o + 2, none⟩) l.length (cap - 1)) l := by
  obtain ⟨hS, ⟨a', cap', e, h1, h2, h3⟩, hwf⟩ := h
  simp only [Value.slice.injEq] at e
  obtain ⟨rfl, rfl, rfl⟩ := e
  simp only [List.length_cons] at h1
  refine ⟨hS, ⟨_, _, rfl, by omega, by omega, fun _ => ?_⟩, fun y hy => hwf y (by simp [hy])⟩
  obtain ⟨b1, o1, e1, hb, hc⟩ := h3 (by simp)
  simp only [Option.some.injEq, Addr.mk.injEq] at e1
  obtain ⟨rfl, rfl, _⟩ := e1
  refine ⟨b, o + 2, rfl, hb, fun i v hv => ?_⟩
  have := hc (i + 2) v (by simpa [wdCells] using hv)
  rwa [show o + (i + 2) = o + 2 + i by omega] at this

theorem own_kept {w w' : World} {base g b n cap : Nat} {l : List Wd} (h : WdOwn base w (.slice (some ⟨b, 0, none⟩) n cap) l) (hg : w.grownBy w' (some g)) (hne : b ≠ g) : WdOwn base w' (.slice (some ⟨b, 0, none⟩) n cap) l :=
  World.ownsRow.kept h hg (.inr (fun e => hne (by injection e)))

theorem WdAt.put {w : World} {B b o n cap : Nat} {l : List Wd} (h : WdAt w B (.slice (some ⟨b, o, none⟩) n cap) l) {p : Addr} (hp : p.block ≠ b) (v : Value) : WdAt (w.setCell p v) B (.slice (some ⟨b, o, none⟩) n cap) l := by
  obtain ⟨hS, ⟨a', cap', e, h1, h2, h3⟩, hwf⟩ := h
  simp only [Value.slice.injEq] at e
  obtain ⟨rfl, rfl, rfl⟩ := e
  refine ⟨hS, ⟨_, _, rfl, h1, h2, fun h0 => ?_⟩, hwf⟩
  obtain ⟨b1, o1, e1, hb, hc⟩ := h3 h0
  simp only [Option.some.injEq, Addr.mk.injEq] at e1
  obtain ⟨rfl, rfl, _⟩ := e1
  exact ⟨b, o, rfl, hb, fun i u hu => (World.cell?_of_block (Below.heap_setCell w p v b (Ne.symm hp))).trans (hc i u hu)⟩

set_option maxHeartbeats 3200000 in
theorem srcRecord_any (g : Nat) (a : Option Addr) (len cap : Nat) (w : World) (hs : Src w g a len cap) :
    Calls Try.prog 40 #[.pointer (some ⟨g, 0, none⟩)] w fun e w' => ∃ (r : Rc) (u : Value), e = .returned (rcV r u) ∧ r.wf ∧ WdAt w' w'.heap.size u r.args ∧ r.args.length ≤ 6 ∧ (∃ b o n c, u = .slice (some ⟨b, o, none⟩) n c ∧ w.heap.size ≤ b) ∧ AfterSrc g a len cap w w' := by
  have hgl := hs.lt
  have ha0 : AfterSrc g a len cap w (w.alloc (.cells #[.int .i64 0, .int .i64 0, .int .i64 0, .int .i64 0, .slice none 0 0] 27)) := AfterSrc.of_below hs ((Below.refl _ _).alloc (Nat.le_refl _) _)
  have HA0 := Lib.hid ha0
  clear ha0 hs
  go_enter Try.func40, Try.ntmps40
  go_wp2_with fail
  refine (srcRecordOf_any g a len cap _ HA0.out.1).mono ?_
  rintro e w1 ⟨⟨nr, ar, ⟨ih, il⟩, l⟩, u, rfl, hr, ho1, ha1⟩
  obtain ⟨hn, har, hip, hlen, hargs⟩ := rcRight_parts hr
  simp only at ho1 hn har hip hlen hargs
  obtain ⟨b, ucap, rfl, hb0, hb1, hcap⟩ := ho1.more (by omega)
  rw [hlen] at ho1 hcap
  have HO1 := Lib.hid ho1
  simp only [World.size_alloc] at hb0
  have HA1 := Lib.hid ((HA0.out.trans ha1).more (.cells #[.int .i64 nr, .int .i64 ar, .int .i64 ih, .int .i64 il, .slice (some ⟨b, 0, none⟩) 6 ucap] 27))
  have HH1 := Lib.hid (row_alloc (ha1.row (heap_alloc_new w _) (by omega)) (.cells #[.int .i64 nr, .int .i64 ar, .int .i64 ih, .int .i64 il, .slice (some ⟨b, 0, none⟩) 6 ucap] 27))
  have HR1 := Lib.hid (heap_alloc_new w1 (.cells #[.int .i64 nr, .int .i64 ar, .int .i64 ih, .int .i64 il, .slice (some ⟨b, 0, none⟩) 6 ucap] 27))
  have hHR : w.heap.size < w1.heap.size := row_here (ha1.row (heap_alloc_new w _) (by omega))
  have HWF : Hid (∀ x ∈ l, x.wf) := Lib.hid (fun x hx => by
    obtain ⟨i, hi, rfl⟩ := List.getElem_of_mem hx
    exact wf_of_right (hargs i hi))
  clear ha1 hr ho1 hargs
  go_wp2_with fail
  refine (srcN_any g a len cap 12 _ HA1.out.1 (by omega) (by omega)).mono ?_
  rintro e w2 ⟨v, rfl, hv0, hv1, _, hs2, hg2⟩
  have ha2 : AfterSrc g a len cap (w1.alloc (.cells #[.int .i64 nr, .int .i64 ar, .int .i64 ih, .int .i64 il, .slice (some ⟨b, 0, none⟩) 6 ucap] 27)) w2 := ⟨hs2, hg2⟩
  have HA2 := Lib.hid (HA1.out.trans ha2)
  have HH2 := Lib.hid (ha2.row HH1.out (by omega))
  have HR2 := Lib.hid (ha2.row HR1.out (by omega))
  have HO2 : Hid (WdOwn (w.heap.size + 1) w2 (.slice (some ⟨b, 0, none⟩) 6 ucap) l) := Lib.hid (by
    have h := own_kept (OwnL.alloc HO1.out (.cells #[.int .i64 nr, .int .i64 ar, .int .i64 ih, .int .i64 il, .slice (some ⟨b, 0, none⟩) 6 ucap] 27)) hg2 (by omega)
    simp only [World.size_alloc] at h
    exact h)
  have hb2 : b < w2.heap.size := Nat.lt_of_lt_of_le hb1 (Nat.le_trans (by simp) hg2.size)
  have hipw := wf_of_right hip
  have hnr : In64 nr := ⟨by omega, by omega⟩
  have harr : In64 ar := ⟨by omega, by omega⟩
  clear hs2 hg2 ha2 hip hn har
  by_cases h0 : v = 0
  · subst h0
    have hl : ∀ W, AfterSrc g a len cap w W → W.heap[w.heap.size]? = some (.cells #[.int .i64 0, .int .i64 0, .int .i64 0, .int .i64 0, .slice none 0 0] 27 (0, 0)) → True := fun _ _ _ => trivial
    clear hl
    have HA3 := Lib.hid (HA2.out.more (.cells #[.int .i64 (-1), .int .i64 4294967295, .int .i64 4294967296] 2))
    go_wp2_with fail
    refine (srcN_any g a len cap 3 _ HA3.out.1 (by omega) (by omega)).mono ?_
    rintro e w3 ⟨i, rfl, hi0, hi1, _, hs3, hg3⟩
    have ha3 : AfterSrc g a len cap _ w3 := ⟨hs3, hg3⟩
    have HA4 := Lib.hid (HA3.out.trans ha3)
    have HH4 := Lib.hid (ha3.row (row_alloc HH2.out _) (by omega))
    have HR4 := Lib.hid (ha3.row (row_alloc HR2.out _) (by omega))
    have hlit := ha3.row (heap_alloc_new w2 _) (by have := HA2.out.lt; omega)
    have HO4 : Hid (WdOwn (w.heap.size + 1) w3 (.slice (some ⟨b, 0, none⟩) 6 ucap) l) := Lib.hid (own_kept (OwnL.alloc HO2.out _) hg3 (by omega))
    have hi3 : i < 3 := hi1 (by omega)
    have hw2 : w2.heap.size ≠ w1.heap.size := by have := row_here HR2.out; omega
    have HLIT := Lib.hid hlit
    clear hs3 hg3 ha3 hlit hi1
    rcases (by omega : i = 0 ∨ i = 1 ∨ i = 2) with rfl | rfl | rfl
    · have c := row_cell HLIT.out 0
      simp only [List.getElem?_toArray, List.getElem?_cons_zero, List.getElem?_cons_succ] at c
      have c0 := row_cell HR4.out 0
      have g0 := frozen_row HR4.out 0
      have d0 := row_cell HH4.out 0
      have f0 := frozen_row HH4.out 0
      have c1 := row_cell HR4.out 1
      have g1 := frozen_row HR4.out 1
      have d1 := row_cell HH4.out 1
      have f1 := frozen_row HH4.out 1
      have c2 := row_cell HR4.out 2
      have g2 := frozen_row HR4.out 2
      have d2 := row_cell HH4.out 2
      have f2 := frozen_row HH4.out 2
      have c3 := row_cell HR4.out 3
      have g3 := frozen_row HR4.out 3
      have d3 := row_cell HH4.out 3
      have f3 := frozen_row HH4.out 3
      have c4 := row_cell HR4.out 4
      have g4 := frozen_row HR4.out 4
      have d4 := row_cell HH4.out 4
      have f4 := frozen_row HH4.out 4
      simp only [List.getElem?_toArray, List.getElem?_cons_zero, List.getElem?_cons_succ] at c0 c1 c2 c3 c4 d0 d1 d2 d3 d4
      go_wp2_with fail
      exact bodyPost_ret (v := .agg #[.int .i64 (-1), .int .i64 ar, .int .i64 ih, .int .i64 il, .slice (some ⟨b, 0, none⟩) 6 ucap]) (by simp [results, Try.results40, go_sem, d0, d1, d2, d3, d4]) rfl
        ⟨⟨(-1), ar, ⟨ih, il⟩, l⟩, _, rfl, ⟨show In64 (-1) from ⟨by omega, by omega⟩, harr, hipw, HWF.out⟩, LAt.up (WdAt.put (WdAt.put (WdAt.put (WdAt.put (WdAt.put (WdAt.put (OwnL.lAt wdS HO4.out HWF.out) (p := ⟨w1.heap.size, 0, none⟩) (show w1.heap.size ≠ b by omega) _) (p := ⟨w.heap.size, 0, none⟩) (show w.heap.size ≠ b by omega) _) (p := ⟨w.heap.size, 1, none⟩) (show w.heap.size ≠ b by omega) _) (p := ⟨w.heap.size, 2, none⟩) (show w.heap.size ≠ b by omega) _) (p := ⟨w.heap.size, 3, none⟩) (show w.heap.size ≠ b by omega) _) (p := ⟨w.heap.size, 4, none⟩) (show w.heap.size ≠ b by omega) _) (by simp), by simp only [hlen]; omega, ⟨b, 0, _, _, rfl, by omega⟩, ((((((HA4.out.put hgl (p := ⟨w1.heap.size, 0, none⟩) (show w.heap.size ≤ w1.heap.size by omega) _).put hgl (p := ⟨w.heap.size, 0, none⟩) (Nat.le_refl _) _).put hgl (p := ⟨w.heap.size, 1, none⟩) (Nat.le_refl _) _).put hgl (p := ⟨w.heap.size, 2, none⟩) (Nat.le_refl _) _).put hgl (p := ⟨w.heap.size, 3, none⟩) (Nat.le_refl _) _).put hgl (p := ⟨w.heap.size, 4, none⟩) (Nat.le_refl _) _)⟩
    · have c := row_cell HLIT.out 1
      simp only [List.getElem?_toArray, List.getElem?_cons_zero, List.getElem?_cons_succ] at c
      have c0 := row_cell HR4.out 0
      have g0 := frozen_row HR4.out 0
      have d0 := row_cell HH4.out 0
      have f0 := frozen_row HH4.out 0
      have c1 := row_cell HR4.out 1
      have g1 := frozen_row HR4.out 1
      have d1 := row_cell HH4.out 1
      have f1 := frozen_row HH4.out 1
      have c2 := row_cell HR4.out 2
      have g2 := frozen_row HR4.out 2
      have d2 := row_cell HH4.out 2
      have f2 := frozen_row HH4.out 2
      have c3 := row_cell HR4.out 3
      have g3 := frozen_row HR4.out 3
      have d3 := row_cell HH4.out 3
      have f3 := frozen_row HH4.out 3
      have c4 := row_cell HR4.out 4
      have g4 := frozen_row HR4.out 4
      have d4 := row_cell HH4.out 4
      have f4 := frozen_row HH4.out 4
      simp only [List.getElem?_toArray, List.getElem?_cons_zero, List.getElem?_cons_succ] at c0 c1 c2 c3 c4 d0 d1 d2 d3 d4
      go_wp2_with fail
      exact bodyPost_ret (v := .agg #[.int .i64 4294967295, .int .i64 ar, .int .i64 ih, .int .i64 il, .slice (some ⟨b, 0, none⟩) 6 ucap]) (by simp [results, Try.results40, go_sem, d0, d1, d2, d3, d4]) rfl
        ⟨⟨4294967295, ar, ⟨ih, il⟩, l⟩, _, rfl, ⟨show In64 4294967295 from ⟨by omega, by omega⟩, harr, hipw, HWF.out⟩, LAt.up (WdAt.put (WdAt.put (WdAt.put (WdAt.put (WdAt.put (WdAt.put (OwnL.lAt wdS HO4.out HWF.out) (p := ⟨w1.heap.size, 0, none⟩) (show w1.heap.size ≠ b by omega) _) (p := ⟨w.heap.size, 0, none⟩) (show w.heap.size ≠ b by omega) _) (p := ⟨w.heap.size, 1, none⟩) (show w.heap.size ≠ b by omega) _) (p := ⟨w.heap.size, 2, none⟩) (show w.heap.size ≠ b by omega) _) (p := ⟨w.heap.size, 3, none⟩) (show w.heap.size ≠ b by omega) _) (p := ⟨w.heap.size, 4, none⟩) (show w.heap.size ≠ b by omega) _) (by simp), by simp only [hlen]; omega, ⟨b, 0, _, _, rfl, by omega⟩, ((((((HA4.out.put hgl (p := ⟨w1.heap.size, 0, none⟩) (show w.heap.size ≤ w1.heap.size by omega) _).put hgl (p := ⟨w.heap.size, 0, none⟩) (Nat.le_refl _) _).put hgl (p := ⟨w.heap.size, 1, none⟩) (Nat.le_refl _) _).put hgl (p := ⟨w.heap.size, 2, none⟩) (Nat.le_refl _) _).put hgl (p := ⟨w.heap.size, 3, none⟩) (Nat.le_refl _) _).put hgl (p := ⟨w.heap.size, 4, none⟩) (Nat.le_refl _) _)⟩
    · have c := row_cell HLIT.out 2
      simp only [List.getElem?_toArray, List.getElem?_cons_zero, List.getElem?_cons_succ] at c
      have c0 := row_cell HR4.out 0
      have g0 := frozen_row HR4.out 0
      have d0 := row_cell HH4.out 0
      have f0 := frozen_row HH4.out 0
      have c1 := row_cell HR4.out 1
      have g1 := frozen_row HR4.out 1
      have d1 := row_cell HH4.out 1
      have f1 := frozen_row HH4.out 1
      have c2 := row_cell HR4.out 2
      have g2 := frozen_row HR4.out 2
      have d2 := row_cell HH4.out 2
      have f2 := frozen_row HH4.out 2
      have c3 := row_cell HR4.out 3
      have g3 := frozen_row HR4.out 3
      have d3 := row_cell HH4.out 3
      have f3 := frozen_row HH4.out 3
      have c4 := row_cell HR4.out 4
      have g4 := frozen_row HR4.out 4
      have d4 := row_cell HH4.out 4
      have f4 := frozen_row HH4.out 4
      simp only [List.getElem?_toArray, List.getElem?_cons_zero, List.getElem?_cons_succ] at c0 c1 c2 c3 c4 d0 d1 d2 d3 d4
      go_wp2_with fail
      exact bodyPost_ret (v := .agg #[.int .i64 4294967296, .int .i64 ar, .int .i64 ih, .int .i64 il, .slice (some ⟨b, 0, none⟩) 6 ucap]) (by simp [results, Try.results40, go_sem, d0, d1, d2, d3, d4]) rfl
        ⟨⟨4294967296, ar, ⟨ih, il⟩, l⟩, _, rfl, ⟨show In64 4294967296 from ⟨by omega, by omega⟩, harr, hipw, HWF.out⟩, LAt.up (WdAt.put (WdAt.put (WdAt.put (WdAt.put (WdAt.put (WdAt.put (OwnL.lAt wdS HO4.out HWF.out) (p := ⟨w1.heap.size, 0, none⟩) (show w1.heap.size ≠ b by omega) _) (p := ⟨w.heap.size, 0, none⟩) (show w.heap.size ≠ b by omega) _) (p := ⟨w.heap.size, 1, none⟩) (show w.heap.size ≠ b by omega) _) (p := ⟨w.heap.size, 2, none⟩) (show w.heap.size ≠ b by omega) _) (p := ⟨w.heap.size, 3, none⟩) (show w.heap.size ≠ b by omega) _) (p := ⟨w.heap.size, 4, none⟩) (show w.heap.size ≠ b by omega) _) (by simp), by simp only [hlen]; omega, ⟨b, 0, _, _, rfl, by omega⟩, ((((((HA4.out.put hgl (p := ⟨w1.heap.size, 0, none⟩) (show w.heap.size ≤ w1.heap.size by omega) _).put hgl (p := ⟨w.heap.size, 0, none⟩) (Nat.le_refl _) _).put hgl (p := ⟨w.heap.size, 1, none⟩) (Nat.le_refl _) _).put hgl (p := ⟨w.heap.size, 2, none⟩) (Nat.le_refl _) _).put hgl (p := ⟨w.heap.size, 3, none⟩) (Nat.le_refl _) _).put hgl (p := ⟨w.heap.size, 4, none⟩) (Nat.le_refl _) _)⟩
  have q0 : (v == 0) = false := by simpa using h0
  by_cases h1 : v = 1
  · subst h1
    obtain ⟨x0, tl, rfl⟩ : ∃ x0 tl, l = x0 :: tl := by
      cases l with
      | nil => simp at hlen
      | cons x0 tl => exact ⟨x0, tl, rfl⟩
    have h5 : tl.length = 5 := by simpa using hlen
    have hu1 : ucap ≠ 1 := by omega
    have hu6 : (6 : Int) ≤ (ucap : Int) := by omega
    have hu0 : (1 : Int) ≤ (ucap : Int) := by omega
    have HT : Hid (WdAt w2 w2.heap.size (.slice (some ⟨b, 2, none⟩) 5 (ucap - 1)) tl) := Lib.hid (by
      have h := WdAt.tail (OwnL.lAt wdS HO2.out HWF.out)
      simpa only [h5, Nat.zero_add] using h)
    have c0 := row_cell HR2.out 0
    have g0 := frozen_row HR2.out 0
    have d0 := row_cell HH2.out 0
    have f0 := frozen_row HH2.out 0
    have c1 := row_cell HR2.out 1
    have g1 := frozen_row HR2.out 1
    have d1 := row_cell HH2.out 1
    have f1 := frozen_row HH2.out 1
    have c2 := row_cell HR2.out 2
    have g2 := frozen_row HR2.out 2
    have d2 := row_cell HH2.out 2
    have f2 := frozen_row HH2.out 2
    have c3 := row_cell HR2.out 3
    have g3 := frozen_row HR2.out 3
    have d3 := row_cell HH2.out 3
    have f3 := frozen_row HH2.out 3
    have c4 := row_cell HR2.out 4
    have g4 := frozen_row HR2.out 4
    have d4 := row_cell HH2.out 4
    have f4 := frozen_row HH2.out 4
    simp only [List.getElem?_toArray, List.getElem?_cons_zero, List.getElem?_cons_succ] at c0 c1 c2 c3 c4 d0 d1 d2 d3 d4
    go_wp2_with fail
    exact bodyPost_ret (v := .agg #[.int .i64 nr, .int .i64 ar, .int .i64 ih, .int .i64 il, .slice (some ⟨b, 2, none⟩) 5 (ucap - 1)]) (by simp [results, Try.results40, go_sem, d0, d1, d2, d3, d4]) rfl
      ⟨⟨nr, ar, ⟨ih, il⟩, tl⟩, _, rfl, ⟨hnr, harr, hipw, fun x hx => HWF.out x (by simp [hx])⟩, LAt.up (WdAt.put (WdAt.put (WdAt.put (WdAt.put (WdAt.put (WdAt.put HT.out (p := ⟨w1.heap.size, 4, none⟩) (show w1.heap.size ≠ b by omega) _) (p := ⟨w.heap.size, 0, none⟩) (show w.heap.size ≠ b by omega) _) (p := ⟨w.heap.size, 1, none⟩) (show w.heap.size ≠ b by omega) _) (p := ⟨w.heap.size, 2, none⟩) (show w.heap.size ≠ b by omega) _) (p := ⟨w.heap.size, 3, none⟩) (show w.heap.size ≠ b by omega) _) (p := ⟨w.heap.size, 4, none⟩) (show w.heap.size ≠ b by omega) _) (by simp), by simp only [h5]; omega, ⟨b, 2, _, _, rfl, by omega⟩, ((((((HA2.out.put hgl (p := ⟨w1.heap.size, 4, none⟩) (show w.heap.size ≤ w1.heap.size by omega) _).put hgl (p := ⟨w.heap.size, 0, none⟩) (Nat.le_refl _) _).put hgl (p := ⟨w.heap.size, 1, none⟩) (Nat.le_refl _) _).put hgl (p := ⟨w.heap.size, 2, none⟩) (Nat.le_refl _) _).put hgl (p := ⟨w.heap.size, 3, none⟩) (Nat.le_refl _) _).put hgl (p := ⟨w.heap.size, 4, none⟩) (Nat.le_refl _) _)⟩
  have q1 : (v == 1) = false := by simpa using h1
  by_cases h2 : v = 2
  · subst h2
    obtain ⟨x0, tl, rfl⟩ : ∃ x0 tl, l = x0 :: tl := by
      cases l with
      | nil => simp at hlen
      | cons x0 tl => exact ⟨x0, tl, rfl⟩
    have hu6 : (6 : Int) ≤ (ucap : Int) := by omega
    have c4 := row_cell HR2.out 4
    simp only [List.getElem?_toArray, List.getElem?_cons_zero, List.getElem?_cons_succ] at c4
    have HA3 := Lib.hid (HA2.out.more (.cells #[.int .i64 (-1), .int .i64 4294967296] 2))
    have hRlt : w1.heap.size < w2.heap.size := row_here HR2.out
    have hbH : b ≠ w.heap.size := by omega
    have hbR : b ≠ w1.heap.size := by omega
    have HsA : Src w2.drew g a len cap := HA2.out.1
    have HsB : Src (w2.alloc (.cells #[.int .i64 (-1), .int .i64 4294967296] 2)).drew g a len cap := HA3.out.1
    have hwx : ∀ x : Int, In64 x → ∀ y ∈ ((⟨x, x0.l⟩ : Wd) :: tl), y.wf := by
      intro x hxi y hy
      rcases List.mem_cons.1 hy with rfl | hy
      · exact ⟨hxi, (HWF.out x0 (by simp)).2⟩
      · exact HWF.out y (by simp [hy])
    have HWX := Lib.hid hwx
    have hxs : ∀ n : Nat, n < 2 → ∃ x : Int, In64 x ∧ (#[.int .i64 (-1), .int .i64 4294967296] : Array Value)[n]? = some (.int .i64 x) := by
      intro n hn
      rcases (by omega : n = 0 ∨ n = 1) with rfl | rfl
      · exact ⟨-1, ⟨by omega, by omega⟩, rfl⟩
      · exact ⟨4294967296, ⟨by omega, by omega⟩, rfl⟩
    have HXS := Lib.hid hxs
    clear hxs
    clear hwx
    go_wp2_with fail
    go_region_with (go_at_call 46; (refine (srcN_any g a len cap 2 _ (by first | exact HsA | exact HsB) (by omega) (by omega)).mono ?_); rintro e w3 ⟨i, rfl, hi0, hi1, _, hs3, hg3⟩; obtain ⟨n, rfl⟩ := Int.eq_ofNat_of_zero_le hi0; have hn2 : (n : Int) < 2 := hi1 (by omega); obtain ⟨x, hxx, hxi⟩ := HXS.out n (by omega); (first | (have ha3 : AfterSrc g a len cap w2 w3 := ⟨hs3, ⟨hg3.os, hg3.tape, hg3.output, hg3.size, hg3.block⟩⟩; have HAX := Lib.hid (HA2.out.trans ha3); have HHX := Lib.hid (ha3.row HH2.out (by omega)); have HRX := Lib.hid (ha3.row HR2.out (by omega)); have HOX : Hid (WdOwn (w.heap.size + 1) w3 (.slice (some ⟨b, 0, none⟩) 6 ucap) (x0 :: tl)) := Lib.hid (own_kept HO2.out ha3.grown (by omega))) | (have ha3 : AfterSrc g a len cap (w2.alloc (.cells #[.int .i64 (-1), .int .i64 4294967296] 2)) w3 := ⟨hs3, ⟨hg3.os, hg3.tape, hg3.output, hg3.size, hg3.block⟩⟩; have HAX := Lib.hid (HA3.out.trans ha3); have HHX := Lib.hid (ha3.row (row_alloc HH2.out _) (by omega)); have HRX := Lib.hid (ha3.row (row_alloc HR2.out _) (by omega)); have HOX : Hid (WdOwn (w.heap.size + 1) w3 (.slice (some ⟨b, 0, none⟩) 6 ucap) (x0 :: tl)) := Lib.hid (own_kept (OwnL.alloc HO2.out _) ha3.grown (by omega)); have r0 := ha3.row (heap_alloc_new w2 (.cells #[.int .i64 (-1), .int .i64 4294967296] 2)) (by have := HA2.out.lt; omega); have lx := (row_cell r0 n).trans hxi)); have c4 := row_cell HRX.out 4; simp only [List.getElem?_toArray, List.getElem?_cons_zero, List.getElem?_cons_succ] at c4; obtain ⟨e0, f0⟩ := own_first HOX.out; have hbX : b < w3.heap.size := (OwnL.lt HOX.out b rfl).2; have c0 := row_cell HRX.out 0; have c1 := row_cell HRX.out 1; have c2 := row_cell HRX.out 2; have c3 := row_cell HRX.out 3; have d0 := row_cell HHX.out 0; have f0' := frozen_row HHX.out 0; have d1 := row_cell HHX.out 1; have f1' := frozen_row HHX.out 1; have d2 := row_cell HHX.out 2; have f2' := frozen_row HHX.out 2; have d3 := row_cell HHX.out 3; have f3' := frozen_row HHX.out 3; have d4 := row_cell HHX.out 4; have f4' := frozen_row HHX.out 4; simp only [List.getElem?_toArray, List.getElem?_cons_zero, List.getElem?_cons_succ] at c0 c1 c2 c3 d0 d1 d2 d3 d4; have hHX : w.heap.size < w3.heap.size := row_here HHX.out; have hRX : w1.heap.size < w3.heap.size := row_here HRX.out)
    all_goals
      clear d0 d1 d2 d3 d4 f0' f1' f2' f3' f4' e0 f0 hs3 hg3
      have hown := OwnL.lAt wdS (own_setFirst HOX.out x) (HWX.out x hxx)
      first
        | (have _h := lx; generalize hW : World.setCell w3 ⟨b, 0, none⟩ (.int .i64 x) = W)
        | generalize hW : World.alloc (World.setCell w3 ⟨b, 0, none⟩ (.int .i64 x)) (.cells #[.int .i64 (-1), .int .i64 4294967296] 2) = W
      have HHW : Hid (W.heap[w.heap.size]? = some (.cells #[.int .i64 0, .int .i64 0, .int .i64 0, .int .i64 0, .slice none 0 0] 27 (0, 0))) := Lib.hid (by rw [← hW]; first | exact row_other HHX.out _ _ (Ne.symm hbH) | exact row_alloc (row_other HHX.out _ _ (Ne.symm hbH)) _)
      have HRW : Hid (W.heap[w1.heap.size]? = some (.cells #[.int .i64 nr, .int .i64 ar, .int .i64 ih, .int .i64 il, .slice (some ⟨b, 0, none⟩) 6 ucap] 27)) := Lib.hid (by rw [← hW]; first | exact row_other HRX.out _ _ (Ne.symm hbR) | exact row_alloc (row_other HRX.out _ _ (Ne.symm hbR)) _)
      have HAW : Hid (AfterSrc g a len cap w W) := Lib.hid (by rw [← hW]; first | exact HAX.out.put hgl (p := ⟨b, 0, none⟩) (show w.heap.size ≤ b by omega) _ | exact (HAX.out.put hgl (p := ⟨b, 0, none⟩) (show w.heap.size ≤ b by omega) _).more _)
      have HOW : Hid (WdAt W W.heap.size (.slice (some ⟨b, 0, none⟩) 6 ucap) (⟨x, x0.l⟩ :: tl)) := Lib.hid (by rw [← hW]; first | exact hown | exact LAt.up (LAt.below hown ((Below.refl _ _).alloc (Nat.le_refl _) _)) (by simp))
      clear hown hW HHX HRX HAX HOX HA0 HA1 HH1 HR1 HA2 HH2 HR2 HO1 HO2 HA3 HsA HsB ha3
      have c0 := row_cell HRW.out 0; have d0 := row_cell HHW.out 0; have f0 := frozen_row HHW.out 0; have c1 := row_cell HRW.out 1; have d1 := row_cell HHW.out 1; have f1 := frozen_row HHW.out 1; have c2 := row_cell HRW.out 2; have d2 := row_cell HHW.out 2; have f2 := frozen_row HHW.out 2; have c3 := row_cell HRW.out 3; have d3 := row_cell HHW.out 3; have f3 := frozen_row HHW.out 3; have c4 := row_cell HRW.out 4; have d4 := row_cell HHW.out 4; have f4 := frozen_row HHW.out 4
      simp only [List.getElem?_toArray, List.getElem?_cons_zero, List.getElem?_cons_succ] at c0 c1 c2 c3 c4 d0 d1 d2 d3 d4
      go_wp2_with fail
      exact bodyPost_ret (v := .agg #[.int .i64 nr, .int .i64 ar, .int .i64 ih, .int .i64 il, .slice (some ⟨b, 0, none⟩) 6 ucap]) (by simp [results, Try.results40, go_sem, d0, d1, d2, d3, d4]) rfl ⟨⟨nr, ar, ⟨ih, il⟩, ⟨x, x0.l⟩ :: tl⟩, _, rfl, ⟨hnr, harr, hipw, HWX.out x hxx⟩, LAt.up (WdAt.put (WdAt.put (WdAt.put (WdAt.put (WdAt.put HOW.out (p := ⟨w.heap.size, 0, none⟩) (show w.heap.size ≠ b by omega) _) (p := ⟨w.heap.size, 1, none⟩) (show w.heap.size ≠ b by omega) _) (p := ⟨w.heap.size, 2, none⟩) (show w.heap.size ≠ b by omega) _) (p := ⟨w.heap.size, 3, none⟩) (show w.heap.size ≠ b by omega) _) (p := ⟨w.heap.size, 4, none⟩) (show w.heap.size ≠ b by omega) _) (by simp), by simp only [List.length_cons] at hlen ⊢; omega, ⟨b, 0, _, _, rfl, by omega⟩, ((((((HAW.out).put hgl (p := ⟨w.heap.size, 0, none⟩) (Nat.le_refl _) _).put hgl (p := ⟨w.heap.size, 1, none⟩) (Nat.le_refl _) _).put hgl (p := ⟨w.heap.size, 2, none⟩) (Nat.le_refl _) _).put hgl (p := ⟨w.heap.size, 3, none⟩) (Nat.le_refl _) _).put hgl (p := ⟨w.heap.size, 4, none⟩) (Nat.le_refl _) _)⟩
  · have q2 : (v == 2) = false := by simpa using h2
    have c0 := row_cell HR2.out 0
    have g0 := frozen_row HR2.out 0
    have d0 := row_cell HH2.out 0
    have f0 := frozen_row HH2.out 0
    have c1 := row_cell HR2.out 1
    have g1 := frozen_row HR2.out 1
    have d1 := row_cell HH2.out 1
    have f1 := frozen_row HH2.out 1
    have c2 := row_cell HR2.out 2
    have g2 := frozen_row HR2.out 2
    have d2 := row_cell HH2.out 2
    have f2 := frozen_row HH2.out 2
    have c3 := row_cell HR2.out 3
    have g3 := frozen_row HR2.out 3
    have d3 := row_cell HH2.out 3
    have f3 := frozen_row HH2.out 3
    have c4 := row_cell HR2.out 4
    have g4 := frozen_row HR2.out 4
    have d4 := row_cell HH2.out 4
    have f4 := frozen_row HH2.out 4
    simp only [List.getElem?_toArray, List.getElem?_cons_zero, List.getElem?_cons_succ] at c0 c1 c2 c3 c4 d0 d1 d2 d3 d4
    go_wp2_with fail
    exact bodyPost_ret (v := .agg #[.int .i64 nr, .int .i64 ar, .int .i64 ih, .int .i64 il, .slice (some ⟨b, 0, none⟩) 6 ucap]) (by simp [results, Try.results40, go_sem, d0, d1, d2, d3, d4]) rfl
        ⟨⟨nr, ar, ⟨ih, il⟩, l⟩, _, rfl, ⟨hnr, harr, hipw, HWF.out⟩, LAt.up (WdAt.put (WdAt.put (WdAt.put (WdAt.put (WdAt.put (OwnL.lAt wdS HO2.out HWF.out) (p := ⟨w.heap.size, 0, none⟩) (show w.heap.size ≠ b by omega) _) (p := ⟨w.heap.size, 1, none⟩) (show w.heap.size ≠ b by omega) _) (p := ⟨w.heap.size, 2, none⟩) (show w.heap.size ≠ b by omega) _) (p := ⟨w.heap.size, 3, none⟩) (show w.heap.size ≠ b by omega) _) (p := ⟨w.heap.size, 4, none⟩) (show w.heap.size ≠ b by omega) _) (by simp), by simp only [hlen]; omega, ⟨b, 0, _, _, rfl, by omega⟩, (((((HA2.out.put hgl (p := ⟨w.heap.size, 0, none⟩) (Nat.le_refl _) _).put hgl (p := ⟨w.heap.size, 1, none⟩) (Nat.le_refl _) _).put hgl (p := ⟨w.heap.size, 2, none⟩) (Nat.le_refl _) _).put hgl (p := ⟨w.heap.size, 3, none⟩) (Nat.le_refl _) _).put hgl (p := ⟨w.heap.size, 4, none⟩) (Nat.le_refl _) _)⟩

end Go.Proofs.Ytgcfnmaojdnchaa

/- PolicyDrop of the program walked. -/
import Derived.Test.YtmnmaijifhojiaaKa
import Derived.Test.YtmnmaijifhojiaaJx
set_option maxRecDepth 100000
set_option linter.unusedVariables false
set_option linter.unusedSimpArgs false
namespace Go.Proofs.Ytmnmaijifhojiaa
open Go.RowKit Go.ChangeShapes Go.WideShapes
attribute [local go_sem ↓] Go.wp_at_zero Go.wp_at_succ

def dropW (g o n cap k : Nat) : Value := if cap = k then .slice (some ⟨g, o, none⟩) (n - k) 0 else .slice (some ⟨g, o + k * 3, none⟩) (n - k) (cap - k)
theorem RvAt.dropW {w : World} {B : Nat} {g o n cap : Nat} {l : List Rv} (h : RvAt w B (.slice (some ⟨g, o, none⟩) n cap) l) {k : Nat} (hk : k ≤ l.length) : RvAt w B (dropW g o n cap k) (l.drop k) := by
  unfold Go.Proofs.Ytmnmaijifhojiaa.dropW
  by_cases hc : cap = k
  · rw [if_pos hc]
    obtain ⟨a', cap', e, h1, h2⟩ := h.len
    simp only [Value.slice.injEq] at e
    obtain ⟨_, rfl, rfl⟩ := e
    have hn : l.drop k = [] := List.drop_eq_nil_of_le (by omega)
    rw [hn]
    exact ⟨⟨rvS, ⟨_, 0, by rw [show l.length - k = 0 by omega]; rfl, by simp, by unfold maxLen; omega, fun h0 => by simp at h0⟩, fun x hx => by simp at hx⟩, fun x hx => by simp at hx⟩
  · rw [if_neg hc]
    exact h.drop hk

set_option maxHeartbeats 6400000 in
theorem implPolicyDrop_any (ar df bd at_ : Int) (l : List Rv) (v : Value) (w : World) (hv : RvAt w w.heap.size v l) (hat : In64 at_) :
    Calls Try.prog 25 #[polV ar df bd v, .int .i64 at_] w (PolEnd w.heap.size w (polDrop ⟨ar, df, bd, rls l⟩ at_)) := by
  have q1 := fun W (h : Below w.heap.size w W) => implPolicyRight_any ar df bd l _ W (RvAt.up (RvAt.below hv h) h.size)
  obtain ⟨a, cap, rfl, hlc, hcm⟩ := hv.len
  unfold maxLen at hcm
  have hll : (rls l).length = l.length := by simp [rls]
  have hd : polDrop ⟨ar, df, bd, rls l⟩ at_ = (if !polRight ⟨ar, df, bd, rls l⟩ then (pol0, 1) else if !isB at_ 0 (((rls l).length : Int) - 1) then (pol0, 6) else (⟨ar, df, bd, (rls l).take at_.toNat ++ (rls l).drop (at_.toNat + 1)⟩, 0)) := rfl
  rw [hll] at hd
  generalize polDrop ⟨ar, df, bd, rls l⟩ at_ = res at hd ⊢
  have HB0 := Lib.hid (show Below w.heap.size w ((w.alloc (.cells #[.int .i64 ar, .int .i64 df, .int .i64 bd, .slice a l.length cap] 32)).alloc (.cells #[.int .i64 0, .int .i64 0, .int .i64 0, .slice none 0 0, .int .i64 0] 39)) from ((Below.refl _ _).alloc (Nat.le_refl _) _).alloc (by simp) _)
  cases h1 : polRight ⟨ar, df, bd, rls l⟩ <;> rw [h1] at q1
  · have HR := Lib.hid (show res = (pol0, 1) by rw [hd, h1]; rfl)
    have Q1 := Lib.hid q1
    clear hd q1 h1 hv
    go_enter Try.func25, Try.ntmps25
    go_wp2_with fail
    refine (Q1.out _ HB0.out).mono ?_
    rintro e w1 ⟨rfl, hb1⟩
    obtain ⟨r0, r1, hB, _⟩ := rows2 hb1
    have e0 := row_cell r1 0
    have e1 := row_cell r1 1
    have e2 := row_cell r1 2
    have e3 := row_cell r1 3
    have e4 := row_cell r1 4
    simp only [List.getElem?_toArray, List.getElem?_cons_zero, List.getElem?_cons_succ] at e0 e1 e2 e3 e4
    have f0 := frozen_row r1 0
    have f1 := frozen_row r1 1
    have f2 := frozen_row r1 2
    have f3 := frozen_row r1 3
    have f4 := frozen_row r1 4
    have HB := Lib.hid hB
    clear hb1 r0 r1 hB
    go_wp2_with fail
    exact bodyPost_ret (v := .agg #[.int .i64 0, .int .i64 0, .int .i64 0, .slice none 0 0, .int .i64 1]) (by simp [results, Try.results25, go_sem, e0, e1, e2, e3, e4]) rfl ⟨_, [], by rw [HR.out] <;> rfl, by rw [HR.out] <;> rfl, ⟨OwnL.nil _ _, Inner.nil _ _, fun x hx => by simp at hx⟩, ((((HB.out.setCell (p := ⟨w.heap.size + 1, 0, none⟩) (by simp <;> omega) _).setCell (p := ⟨w.heap.size + 1, 1, none⟩) (by simp <;> omega) _).setCell (p := ⟨w.heap.size + 1, 2, none⟩) (by simp <;> omega) _).setCell (p := ⟨w.heap.size + 1, 3, none⟩) (by simp <;> omega) _).setCell (p := ⟨w.heap.size + 1, 4, none⟩) (by simp <;> omega) _⟩
  rw [h1, Bool.not_true, if_neg (by simp)] at hd
  have Q1 := Lib.hid q1
  have hw1 : IntKind.i64.wrap ((l.length : Int) - 1) = (l.length : Int) - 1 := by rw [IntKind.wrap_i64]; omega
  cases h2 : isB at_ 0 ((l.length : Int) - 1)
  · rw [h2] at hd
    have HR := Lib.hid (show res = (pol0, 6) by rw [hd]; rfl)
    clear hd q1 h1 hv
    go_enter Try.func25, Try.ntmps25
    go_wp2_with fail
    refine (Q1.out _ HB0.out).mono ?_
    rintro e w1 ⟨rfl, hb1⟩
    obtain ⟨r0, r1, hB, _⟩ := rows2 hb1
    have c3 := row_cell r0 3
    simp only [List.getElem?_toArray, List.getElem?_cons_zero, List.getElem?_cons_succ] at c3
    have e0 := row_cell r1 0
    have e1 := row_cell r1 1
    have e2 := row_cell r1 2
    have e3 := row_cell r1 3
    have e4 := row_cell r1 4
    simp only [List.getElem?_toArray, List.getElem?_cons_zero, List.getElem?_cons_succ] at e0 e1 e2 e3 e4
    have f0 := frozen_row r1 0
    have f1 := frozen_row r1 1
    have f2 := frozen_row r1 2
    have f3 := frozen_row r1 3
    have f4 := frozen_row r1 4
    have HB := Lib.hid hB
    clear hb1 r0 r1 hB
    go_wp2_with (go_at_call 77; refine (within_any _ _ _).mono ?_; rintro e w' ⟨rfl, rfl⟩)
    exact bodyPost_ret (v := .agg #[.int .i64 0, .int .i64 0, .int .i64 0, .slice none 0 0, .int .i64 6]) (by simp [results, Try.results25, go_sem, e0, e1, e2, e3, e4]) rfl ⟨_, [], by rw [HR.out] <;> rfl, by rw [HR.out] <;> rfl, ⟨OwnL.nil _ _, Inner.nil _ _, fun x hx => by simp at hx⟩, ((((HB.out.setCell (p := ⟨w.heap.size + 1, 0, none⟩) (by simp <;> omega) _).setCell (p := ⟨w.heap.size + 1, 1, none⟩) (by simp <;> omega) _).setCell (p := ⟨w.heap.size + 1, 2, none⟩) (by simp <;> omega) _).setCell (p := ⟨w.heap.size + 1, 3, none⟩) (by simp <;> omega) _).setCell (p := ⟨w.heap.size + 1, 4, none⟩) (by simp <;> omega) _⟩
  rw [h2, Bool.not_true, if_neg (by simp)] at hd
  have hb2 : 0 ≤ at_ ∧ at_ ≤ (l.length : Int) - 1 := by unfold isB at h2; simpa using h2
  obtain ⟨m, rfl⟩ := Int.eq_ofNat_of_zero_le hb2.1
  rw [Int.toNat_natCast] at hd
  have hm : m < l.length := by omega
  have HR := Lib.hid hd
  have hlen24 := (polRight_rules h1).1
  have hcl : ∀ x ∈ l, x.r.cs.length ≤ 1048576 := fun x hx => by have h3 : x.r.cs.length ≤ 3 := (rlRight_cs (nr := x.r.nr) (ac := x.r.ac) ((polRight_rules h1).2 x hx)).1; omega
  obtain ⟨g, o, rfl⟩ : ∃ g o, a = some ⟨g, o, none⟩ := by
    obtain ⟨b, o, e, _⟩ := LAt.at_ hv.1 (List.getElem?_eq_getElem hm)
    exact ⟨b, o, e⟩
  have hdv := RvAt.dropW hv (k := m + 1) (by omega)
  have htv := RvAt.take hv (k := m) (by omega)
  obtain ⟨x7, hx7⟩ : ∃ x7, x7 = dropW g o l.length cap (m + 1) := ⟨_, rfl⟩
  rw [← hx7] at hdv
  have qp := fun W (h : Below w.heap.size w W) => withRules_any ar df bd (some ⟨g, o, none⟩) l.length cap _ [(.slice (some ⟨g, o, none⟩) m cap, l.take m), (x7, l.drop (m + 1))] (W.alloc (.cells #[.slice (some ⟨g, o, none⟩) m cap, x7] 30)).drew (LsAt.below (LsAt.of_row (T := 30) (w := W) (vs := [.slice (some ⟨g, o, none⟩) m cap, x7]) rfl (fun x hx => by
      rcases List.mem_cons.1 hx with e | e
      · subst e
        exact RvAt.up (RvAt.below htv h) h.size
      · obtain rfl : x = (x7, l.drop (m + 1)) := (by simpa using e)
        exact RvAt.up (RvAt.below hdv h) h.size) (by simp)) (Below.refl _ _).drew) (by simp [catL]; omega) (fun x hx => by
      have h5 : x ∈ l.take m ∨ x ∈ l.drop (m + 1) := by simpa [catL] using hx
      rcases h5 with h5 | h5
      · exact hcl x (List.mem_of_mem_take h5)
      · exact hcl x (List.mem_of_mem_drop h5))
  simp only [List.length_cons, List.length_nil, Nat.zero_add, Nat.reduceAdd] at qp
  have QPP := Lib.hid qp
  have HB02 := HB0
  clear q1 qp h1 hv hb2 hd hcl hdv htv HB0
  go_enter Try.func25, Try.ntmps25
  go_wp2_with fail
  refine (Q1.out _ HB02.out).mono ?_
  rintro e w1 ⟨rfl, hb1⟩
  obtain ⟨r0, r1, hB, hS1⟩ := rows2 hb1
  have c0 := row_cell r0 0
  have c1 := row_cell r0 1
  have c2 := row_cell r0 2
  have c3 := row_cell r0 3
  simp only [List.getElem?_toArray, List.getElem?_cons_zero, List.getElem?_cons_succ] at c0 c1 c2 c3
  have QP := Lib.hid (QPP.out w1 hB)
  have haf : ∀ W : World, Below (w1.alloc (.cells #[.slice (some ⟨g, o, none⟩) m cap, x7] 30)).drew.heap.size (w1.alloc (.cells #[.slice (some ⟨g, o, none⟩) m cap, x7] 30)).drew W → (W.cell? ⟨w.heap.size + 1, 0, none⟩ = some (.int .i64 0) ∧ W.cell? ⟨w.heap.size + 1, 1, none⟩ = some (.int .i64 0) ∧ W.cell? ⟨w.heap.size + 1, 2, none⟩ = some (.int .i64 0) ∧ W.cell? ⟨w.heap.size + 1, 3, none⟩ = some (.slice none 0 0) ∧ W.cell? ⟨w.heap.size + 1, 4, none⟩ = some (.int .i64 0) ∧ W.frozen? ⟨w.heap.size + 1, 0, none⟩ = false ∧ W.frozen? ⟨w.heap.size + 1, 1, none⟩ = false ∧ W.frozen? ⟨w.heap.size + 1, 2, none⟩ = false ∧ W.frozen? ⟨w.heap.size + 1, 3, none⟩ = false ∧ W.frozen? ⟨w.heap.size + 1, 4, none⟩ = false) := fun W hb => by
    have h1 : Below w1.heap.size w1 W := ((Below.refl w1.heap.size w1).alloc (Nat.le_refl _) (.cells #[.slice (some ⟨g, o, none⟩) m cap, x7] 30)).drew.trans (hb.mono (by show w1.heap.size ≤ (w1.alloc _).heap.size; simp))
    have k1 := below_row h1 r1
    exact ⟨row_cell k1 0, row_cell k1 1, row_cell k1 2, row_cell k1 3, row_cell k1 4, frozen_row k1 0, frozen_row k1 1, frozen_row k1 2, frozen_row k1 3, frozen_row k1 4⟩
  have hba : ∀ W : World, Below (w1.alloc (.cells #[.slice (some ⟨g, o, none⟩) m cap, x7] 30)).drew.heap.size (w1.alloc (.cells #[.slice (some ⟨g, o, none⟩) m cap, x7] 30)).drew W → Below w.heap.size w W := fun W hb => by
    have h1 : Below w1.heap.size w1 W := ((Below.refl w1.heap.size w1).alloc (Nat.le_refl _) (.cells #[.slice (some ⟨g, o, none⟩) m cap, x7] 30)).drew.trans (hb.mono (by show w1.heap.size ≤ (w1.alloc _).heap.size; simp))
    exact hB.trans (h1.mono hB.size)
  have HAF := Lib.hid haf
  have HBA := Lib.hid hba
  have HS := Lib.hid (show w.heap.size + 2 ≤ (w1.alloc (.cells #[.slice (some ⟨g, o, none⟩) m cap, x7] 30)).drew.heap.size by show _ ≤ (w1.alloc _).heap.size; simp; omega)
  have hw2 : IntKind.i64.wrap ((m : Int) + 1) = (m : Int) + 1 := by rw [IntKind.wrap_i64]; omega
  have hcap0 : (m : Int) ≤ (cap : Int) := by omega
  have hcap1 : (m : Int) + 1 ≤ (l.length : Int) := by omega
  have hcap2 : (l.length : Int) ≤ (cap : Int) := by omega
  have hcap3 : (m : Int) ≤ (m : Int) + 1 := by omega
  have hcap4 : (0 : Int) ≤ (m : Int) + 1 := by omega
  have hcap5 : (m : Int) + 1 ≤ (cap : Int) := by omega
  have hlt1 : w.heap.size < w1.heap.size := by omega
  have hlt2 : w.heap.size + 1 < w1.heap.size := by omega
  clear hb1 r0 r1 hB haf hba
  by_cases hcm : cap = m + 1
  · have hx7' : x7 = .slice (some ⟨g, o, none⟩) 0 0 := by rw [hx7]; unfold dropW; rw [if_pos hcm, show l.length - (m + 1) = 0 by omega]
    clear hx7
    subst hx7' hcm
    go_wp2_with (go_at_call 77; refine (within_any _ _ _).mono ?_; rintro e w' ⟨rfl, rfl⟩)
    go_region_law ((go_simp; (with_reducible refine (QP.out).mono ?_); rintro e w4 ⟨u4, l4, rfl, hl4, ho4, hb4⟩; obtain ⟨ua, ucap, rfl⟩ := OwnRv.slice ho4; obtain ⟨e0, e1, e2, e3, e4, f0, f1, f2, f3, f4⟩ := HAF.out _ hb4; dsimp only))
    all_goals
      have HB := Lib.hid (HBA.out _ hb4)
      have HO4 := Lib.hid (OwnRv.base ho4 (b' := w.heap.size + 2) (by have := HS.out; omega))
      have HL4 := Lib.hid (show rls l4 = (rls l).take m ++ (rls l).drop (m + 1) by rw [hl4]; simp [catL, rls])
      clear hb4 ho4 hl4
      go_wp2_with fail
      exact bodyPost_ret (v := .agg #[.int .i64 ar, .int .i64 df, .int .i64 bd, .slice ua l4.length ucap, .int .i64 0]) (by simp [results, Try.results25, go_sem, e0, e1, e2, e3, e4]) rfl ⟨_, l4, by rw [HR.out] <;> rfl, by rw [HR.out]; exact HL4.out,
        (((((HO4.out.setBelow (by simp <;> omega) _).setBelow (by simp <;> omega) _).setBelow (by simp <;> omega) _).setBelow (by simp <;> omega) _).setBelow (by simp <;> omega) _).base (by omega), ((((HB.out.setCell (p := ⟨w.heap.size + 1, 0, none⟩) (by simp <;> omega) _).setCell (p := ⟨w.heap.size + 1, 1, none⟩) (by simp <;> omega) _).setCell (p := ⟨w.heap.size + 1, 2, none⟩) (by simp <;> omega) _).setCell (p := ⟨w.heap.size + 1, 3, none⟩) (by simp <;> omega) _).setCell (p := ⟨w.heap.size + 1, 4, none⟩) (by simp <;> omega) _⟩
  · have hx7' : x7 = .slice (some ⟨g, o + (m + 1) * 3, none⟩) (l.length - (m + 1)) (cap - (m + 1)) := by rw [hx7]; unfold dropW; rw [if_neg hcm]
    clear hx7
    subst hx7'
    have hcm2 : ¬ cap ≤ m + 1 := by omega
    have hcm3 : ¬ cap - (m + 1) = 0 := by omega
    go_wp2_with (go_at_call 77; refine (within_any _ _ _).mono ?_; rintro e w' ⟨rfl, rfl⟩)
    go_region_law ((go_simp; (with_reducible refine (QP.out).mono ?_); rintro e w4 ⟨u4, l4, rfl, hl4, ho4, hb4⟩; obtain ⟨ua, ucap, rfl⟩ := OwnRv.slice ho4; obtain ⟨e0, e1, e2, e3, e4, f0, f1, f2, f3, f4⟩ := HAF.out _ hb4; dsimp only))
    all_goals
      have HB := Lib.hid (HBA.out _ hb4)
      have HO4 := Lib.hid (OwnRv.base ho4 (b' := w.heap.size + 2) (by have := HS.out; omega))
      have HL4 := Lib.hid (show rls l4 = (rls l).take m ++ (rls l).drop (m + 1) by rw [hl4]; simp [catL, rls])
      clear hb4 ho4 hl4
      go_wp2_with fail
      exact bodyPost_ret (v := .agg #[.int .i64 ar, .int .i64 df, .int .i64 bd, .slice ua l4.length ucap, .int .i64 0]) (by simp [results, Try.results25, go_sem, e0, e1, e2, e3, e4]) rfl ⟨_, l4, by rw [HR.out] <;> rfl, by rw [HR.out]; exact HL4.out,
        (((((HO4.out.setBelow (by simp <;> omega) _).setBelow (by simp <;> omega) _).setBelow (by simp <;> omega) _).setBelow (by simp <;> omega) _).setBelow (by simp <;> omega) _).base (by omega), ((((HB.out.setCell (p := ⟨w.heap.size + 1, 0, none⟩) (by simp <;> omega) _).setCell (p := ⟨w.heap.size + 1, 1, none⟩) (by simp <;> omega) _).setCell (p := ⟨w.heap.size + 1, 2, none⟩) (by simp <;> omega) _).setCell (p := ⟨w.heap.size + 1, 3, none⟩) (by simp <;> omega) _).setCell (p := ⟨w.heap.size + 1, 4, none⟩) (by simp <;> omega) _⟩

end Go.Proofs.Ytmnmaijifhojiaa

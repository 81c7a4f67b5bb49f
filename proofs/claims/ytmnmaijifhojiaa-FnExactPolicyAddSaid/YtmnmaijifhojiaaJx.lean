/- PolicyDrop of the model walked. -/
import Derived.Test.YtmnmaijifhojiaaJw
set_option maxRecDepth 100000
set_option linter.unusedVariables false
set_option linter.unusedSimpArgs false
namespace Go.Proofs.Ytmnmaijifhojiaa
open Go.RowKit Go.ChangeShapes Go.WideShapes
attribute [local go_sem ↓] Go.wp_at_zero Go.wp_at_succ

theorem RvAt.drop {w : World} {B : Nat} {g o n cap : Nat} {l : List Rv} (h : RvAt w B (.slice (some ⟨g, o, none⟩) n cap) l) {k : Nat} (hk : k ≤ l.length) : RvAt w B (.slice (some ⟨g, o + k * 3, none⟩) (n - k) (cap - k)) (l.drop k) := by
  obtain ⟨⟨hS, ⟨a', cap', e, h1, h2, h3⟩, hwf⟩, hq⟩ := h
  simp only [Value.slice.injEq] at e
  obtain ⟨rfl, rfl, rfl⟩ := e
  refine ⟨⟨hS, ⟨some ⟨g, o + k * 3, none⟩, cap - k, by rw [List.length_drop], by rw [List.length_drop]; omega, by omega, fun h0 => ?_⟩, fun x hx => hwf x (List.mem_of_mem_drop hx)⟩, fun x hx => hq x (List.mem_of_mem_drop hx)⟩
  rw [List.length_drop] at h0
  obtain ⟨b, o2, e, hb, hc⟩ := h3 (by omega)
  simp only [Option.some.injEq, Addr.mk.injEq, and_true] at e
  obtain ⟨rfl, rfl⟩ := e
  refine ⟨g, o + k * 3, rfl, hb, fun i c hi => ?_⟩
  have hmin : min k l.length = k := by omega
  have hflat : (l.flatMap rvCells)[k * 3 + i]? = ((l.drop k).flatMap rvCells)[i]? := by
    conv => lhs; rw [← List.take_append_drop k l, List.flatMap_append]
    rw [List.getElem?_append_right (by rw [flat_length rvS, List.length_take, hmin]; omega), flat_length rvS, List.length_take, hmin, Nat.add_sub_cancel_left]
  have hc2 := hc (k * 3 + i) c (hflat.trans hi)
  rwa [← Nat.add_assoc] at hc2
/-- What 'l[k:]' is: of no room left, at the row's beginning. -/
def dropV (g n cap k : Nat) : Value := if cap = k then .slice (some ⟨g, 0, none⟩) (n - k) 0 else .slice (some ⟨g, k * 3, none⟩) (n - k) (cap - k)
theorem RvAt.dropV {w : World} {B : Nat} {g n cap : Nat} {l : List Rv} (h : RvAt w B (.slice (some ⟨g, 0, none⟩) n cap) l) {k : Nat} (hk : k ≤ l.length) : RvAt w B (dropV g n cap k) (l.drop k) := by
  unfold Go.Proofs.Ytmnmaijifhojiaa.dropV
  by_cases hc : cap = k
  · rw [if_pos hc]
    obtain ⟨a', cap', e, h1, h2⟩ := h.len
    simp only [Value.slice.injEq] at e
    obtain ⟨_, rfl, rfl⟩ := e
    have hn : l.drop k = [] := List.drop_eq_nil_of_le (by omega)
    rw [hn]
    exact ⟨⟨rvS, ⟨_, 0, by rw [show l.length - k = 0 by omega]; rfl, by simp, by unfold maxLen; omega, fun h0 => by simp at h0⟩, fun x hx => by simp at hx⟩, fun x hx => by simp at hx⟩
  · rw [if_neg hc]
    have := h.drop hk
    rwa [Nat.zero_add] at this
theorem Inner.sub {base : Nat} {w : World} {l l' : List Rv} (h : Inner base w l) (hs : l'.Sublist l) : Inner base w l' := ⟨fun x hx => h.1 x (hs.subset hx), h.2.sublist hs⟩
def polDrop (p : Pol) (m : Int) : Pol × Int :=
  if !polRight p then (pol0, 1) else if !isB m 0 ((p.rs.length : Int) - 1) then (pol0, 6) else (⟨p.ar, p.df, p.bd, p.rs.take m.toNat ++ p.rs.drop (m.toNat + 1)⟩, 0)
theorem drop_sub {α : Type} (l : List α) (m : Nat) : (l.take m ++ l.drop (m + 1)).Sublist l := by
  have h : (l.take m ++ l.drop (m + 1)).Sublist (l.take m ++ l.drop m) := List.Sublist.append (List.Sublist.refl _) (by rw [← List.drop_drop]; exact List.drop_sublist 1 _)
  rwa [List.take_append_drop] at h

set_option maxHeartbeats 12800000 in
theorem specPolicyDrop_any (ar df bd at_ : Int) (l : List Rv) (v : Value) (w : World) (hv : RvAt w w.heap.size v l) (hat : In64 at_) :
    Calls Try.prog 26 #[polV ar df bd v, .int .i64 at_] w (PolEnd w.heap.size w (polDrop ⟨ar, df, bd, rls l⟩ at_)) := by
  have q1 := fun W (h : Below w.heap.size w W) => specPolicyRight_any ar df bd l _ W (RvAt.up (RvAt.below hv h) h.size)
  have hwf := Lib.hid hv.wf
  obtain ⟨a, cap, rfl, hlc, hcm⟩ := hv.len
  unfold maxLen at hcm
  have hll : (rls l).length = l.length := by simp [rls]
  have hd : polDrop ⟨ar, df, bd, rls l⟩ at_ = (if !polRight ⟨ar, df, bd, rls l⟩ then (pol0, 1) else if !isB at_ 0 (((rls l).length : Int) - 1) then (pol0, 6) else (⟨ar, df, bd, (rls l).take at_.toNat ++ (rls l).drop (at_.toNat + 1)⟩, 0)) := rfl
  rw [hll] at hd
  generalize polDrop ⟨ar, df, bd, rls l⟩ at_ = res at hd ⊢
  have HB0 := Lib.hid (show Below w.heap.size w ((w.alloc (.cells #[.int .i64 ar, .int .i64 df, .int .i64 bd, .slice a l.length cap] 32)).alloc (.cells #[.int .i64 0, .int .i64 0, .int .i64 0, .slice none 0 0, .int .i64 0] 39)) from ((Below.refl _ _).alloc (Nat.le_refl _) _).alloc (by simp) _)
  cases h1 : polRight ⟨ar, df, bd, rls l⟩ <;> rw [h1] at q1
  · have HR := Lib.hid (show res = (pol0, 1) by rw [hd, h1]; rfl)
    have Q1 := Lib.hid q1
    clear hd q1 h1 hv
    go_enter Try.func26, Try.ntmps26
    go_wp2_with fail
    refine (Q1.out _ HB0.out).mono ?_
    rintro e w1 ⟨rfl, hb1⟩
    obtain ⟨r0, r1, hB, _⟩ := rows2 hb1
    have e0 := row_cell r1 0
    have e1 := row_cell r1 1
    have e2 := row_cell r1 2
    have e3 := row_cell r1 3
    have e4 := row_cell r1 4
    simp only [List.getElem?_toArray, List.getElem?_cons_zero, List.getElem?_cons_succ] at e0 e1 e2 e3 e4
    have f0 := frozen_row r1 0
    have f1 := frozen_row r1 1
    have f2 := frozen_row r1 2
    have f3 := frozen_row r1 3
    have f4 := frozen_row r1 4
    have HB := Lib.hid hB
    clear hb1 r0 r1 hB
    go_wp2_with fail
    exact bodyPost_ret (v := .agg #[.int .i64 0, .int .i64 0, .int .i64 0, .slice none 0 0, .int .i64 1]) (by simp [results, Try.results26, go_sem, e0, e1, e2, e3, e4]) rfl ⟨_, [], by rw [HR.out] <;> rfl, by rw [HR.out] <;> rfl, ⟨OwnL.nil _ _, Inner.nil _ _, fun x hx => by simp at hx⟩, ((((HB.out.setCell (p := ⟨w.heap.size + 1, 0, none⟩) (by simp <;> omega) _).setCell (p := ⟨w.heap.size + 1, 1, none⟩) (by simp <;> omega) _).setCell (p := ⟨w.heap.size + 1, 2, none⟩) (by simp <;> omega) _).setCell (p := ⟨w.heap.size + 1, 3, none⟩) (by simp <;> omega) _).setCell (p := ⟨w.heap.size + 1, 4, none⟩) (by simp <;> omega) _⟩
  rw [h1, Bool.not_true, if_neg (by simp)] at hd
  have Q1 := Lib.hid q1
  have hw1 : IntKind.i64.wrap ((l.length : Int) - 1) = (l.length : Int) - 1 := by rw [IntKind.wrap_i64]; omega
  cases h2 : isB at_ 0 ((l.length : Int) - 1)
  · rw [h2] at hd
    have HR := Lib.hid (show res = (pol0, 6) by rw [hd]; rfl)
    clear hd q1 h1 hv
    go_enter Try.func26, Try.ntmps26
    go_wp2_with fail
    refine (Q1.out _ HB0.out).mono ?_
    rintro e w1 ⟨rfl, hb1⟩
    obtain ⟨r0, r1, hB, _⟩ := rows2 hb1
    have c3 := row_cell r0 3
    simp only [List.getElem?_toArray, List.getElem?_cons_zero, List.getElem?_cons_succ] at c3
    have e0 := row_cell r1 0
    have e1 := row_cell r1 1
    have e2 := row_cell r1 2
    have e3 := row_cell r1 3
    have e4 := row_cell r1 4
    simp only [List.getElem?_toArray, List.getElem?_cons_zero, List.getElem?_cons_succ] at e0 e1 e2 e3 e4
    have f0 := frozen_row r1 0
    have f1 := frozen_row r1 1
    have f2 := frozen_row r1 2
    have f3 := frozen_row r1 3
    have f4 := frozen_row r1 4
    have HB := Lib.hid hB
    clear hb1 r0 r1 hB
    go_wp2_with (go_at_call 78; refine (l02Is_any _ _ _ _).mono ?_; rintro e w' ⟨rfl, rfl⟩)
    exact bodyPost_ret (v := .agg #[.int .i64 0, .int .i64 0, .int .i64 0, .slice none 0 0, .int .i64 6]) (by simp [results, Try.results26, go_sem, e0, e1, e2, e3, e4]) rfl ⟨_, [], by rw [HR.out] <;> rfl, by rw [HR.out] <;> rfl, ⟨OwnL.nil _ _, Inner.nil _ _, fun x hx => by simp at hx⟩, ((((HB.out.setCell (p := ⟨w.heap.size + 1, 0, none⟩) (by simp <;> omega) _).setCell (p := ⟨w.heap.size + 1, 1, none⟩) (by simp <;> omega) _).setCell (p := ⟨w.heap.size + 1, 2, none⟩) (by simp <;> omega) _).setCell (p := ⟨w.heap.size + 1, 3, none⟩) (by simp <;> omega) _).setCell (p := ⟨w.heap.size + 1, 4, none⟩) (by simp <;> omega) _⟩
  rw [h2, Bool.not_true, if_neg (by simp)] at hd
  have hb2 : 0 ≤ at_ ∧ at_ ≤ (l.length : Int) - 1 := by unfold isB at h2; simpa using h2
  obtain ⟨m, rfl⟩ := Int.eq_ofNat_of_zero_le hb2.1
  rw [Int.toNat_natCast] at hd
  have hm : m < l.length := by omega
  have HR := Lib.hid hd
  have hlen24 := (polRight_rules h1).1
  have qp := fun W (h : Below w.heap.size w W) => l06Policy_any ar df bd l _ W (RvAt.up (RvAt.below hv h) h.size) (by omega) (fun x hx => by have h3 : x.r.cs.length ≤ 3 := (rlRight_cs (nr := x.r.nr) (ac := x.r.ac) ((polRight_rules h1).2 x hx)).1; omega)
  have QP := Lib.hid qp
  clear q1 qp h1 hv hb2 hd
  go_enter Try.func26, Try.ntmps26
  go_wp2_with fail
  refine (Q1.out _ HB0.out).mono ?_
  rintro e w1 ⟨rfl, hb1⟩
  obtain ⟨r0, r1, hB, hS1⟩ := rows2 hb1
  have c0 := row_cell r0 0
  have c1 := row_cell r0 1
  have c2 := row_cell r0 2
  have c3 := row_cell r0 3
  simp only [List.getElem?_toArray, List.getElem?_cons_zero, List.getElem?_cons_succ] at c0 c1 c2 c3
  have HB1 := Lib.hid hb1
  have HBw := Lib.hid hB
  clear hb1 r0 r1 hB
  go_wp2_with (go_at_call 78; refine (l02Is_any _ _ _ _).mono ?_; rintro e w' ⟨rfl, rfl⟩)
  refine (QP.out _ HBw.out).mono ?_
  rintro e w4 ⟨u4, l4, rfl, hl4, ho4, hb4⟩
  have hlen4 : l4.length = l.length := by have h3 := congrArg List.length hl4; simpa [rls] using h3
  obtain ⟨g, ucap, rfl, hg0, hg1, hgc⟩ := OwnL.more ho4.1 (by omega)
  have HB4 := Lib.hid (HB1.out.trans (hb4.mono HB1.out.size))
  clear c0 c1 c2 c3
  obtain ⟨r0, r1, hB, _⟩ := rows2 HB4.out
  have hr1 := row_alloc (row_alloc r1 (.cells #[.int .i64 ar, .int .i64 df, .int .i64 bd, .slice (some ⟨g, 0, none⟩) l4.length ucap] 32)) (.cells #[] 35)
  have hr5 := row_alloc (heap_alloc_new w4 (.cells #[.int .i64 ar, .int .i64 df, .int .i64 bd, .slice (some ⟨g, 0, none⟩) l4.length ucap] 32)) (.cells #[] 35)
  have hB5a : Below w4.heap.size w4 ((w4.alloc (.cells #[.int .i64 ar, .int .i64 df, .int .i64 bd, .slice (some ⟨g, 0, none⟩) l4.length ucap] 32)).alloc (.cells #[] 35)) := ((Below.refl _ _).alloc (Nat.le_refl _) _).alloc (by simp) _
  have hB5 : Below w.heap.size w ((w4.alloc (.cells #[.int .i64 ar, .int .i64 df, .int .i64 bd, .slice (some ⟨g, 0, none⟩) l4.length ucap] 32)).alloc (.cells #[] 35)) := hB.trans (hB5a.mono hB.size)
  have ho5 := (OwnRv.base ho4 (b' := w.heap.size + 2) hS1).below hB5a
  have hat5 := OwnRv.at' ho5 hl4 hwf.out
  have hlit : OwnL 35 3 rvCells (w4.heap.size + 1) ((w4.alloc (.cells #[.int .i64 ar, .int .i64 df, .int .i64 bd, .slice (some ⟨g, 0, none⟩) l4.length ucap] 32)).alloc (.cells #[] 35)) (.slice (some ⟨w4.heap.size + 1, 0, none⟩) 0 0) [] := OwnL.lit (by simp) (by simp)
  have hs5 : ((w4.alloc (.cells #[.int .i64 ar, .int .i64 df, .int .i64 bd, .slice (some ⟨g, 0, none⟩) l4.length ucap] 32)).alloc (.cells #[] 35)).heap.size = w4.heap.size + 2 := by simp
  obtain ⟨v6, w6, hra, hown6, hg6⟩ := run_append_rv 30 _ (w4.heap.size + 1) _ _ [] (l4.take m) hlit (RvAt.take hat5 (k := m) (by omega)) (by simp) (by rw [List.length_take]; omega) (by omega)
  rw [List.nil_append] at hown6
  have h6ne : ∀ j, v6.ownBlock = some j → w4.heap.size < j := fun j hj => by
    have := (OwnL.lt hown6 j hj).1
    omega
  have hG6 : ∀ j, (Value.slice (some ⟨w4.heap.size + 1, 0, none⟩) 0 0).ownBlock = some j → j = w4.heap.size + 1 := fun j hj => by simpa [Value.ownBlock] using hj.symm
  have hB6 : Below w4.heap.size w4 w6 := hB5a.grown hg6.1 (by omega) (fun j hj => by have := hG6 j hj; omega)
  have ho6 := (OwnRv.base ho4 (b' := w.heap.size + 2) hS1).below hB6
  have hat6 := OwnRv.at' ho6 hl4 hwf.out
  have hr16 := row_grown hr1 hg6.1 (fun e => by have := hG6 _ e; omega)
  have hr56 := row_grown hr5 hg6.1 (fun e => by have := hG6 _ e; omega)
  have hdv := RvAt.dropV hat6 (k := m + 1) (by omega)
  obtain ⟨x7, hx7⟩ : ∃ x7, x7 = dropV g l4.length ucap (m + 1) := ⟨_, rfl⟩
  rw [← hx7] at hdv
  obtain ⟨v7, w7, hrb, hown7, hg7⟩ := run_append_rv 30 w6 (w4.heap.size + 1) v6 x7 (l4.take m) (l4.drop (m + 1)) hown6 hdv (by rw [List.length_take]; omega) (by rw [List.length_drop]; omega) (by have := hg6.1.size; omega)
  have hr17 := row_grown hr16 hg7.1 (fun e => by have := h6ne _ e; omega)
  have hr57 := row_grown hr56 hg7.1 (fun e => by have := h6ne _ e; omega)
  have hB7 : Below w4.heap.size w4 w7 := hB6.grown hg7.1 hB6.size (fun j hj => by have := h6ne j hj; omega)
  obtain ⟨va6, n6, vc6, rfl⟩ : ∃ a n c, v6 = .slice a n c := by
    obtain ⟨a, c, e⟩ := OwnL.slice hown6
    exact ⟨a, _, c, e⟩
  obtain ⟨va, n7, vcap, rfl⟩ : ∃ a n c, v7 = .slice a n c := by
    obtain ⟨a, c, e⟩ := OwnL.slice hown7
    exact ⟨a, _, c, e⟩
  have hsub : (l4.take m ++ l4.drop (m + 1)).Sublist l4 := drop_sub l4 m
  have hin7 : Inner (w.heap.size + 2) w6 (l4.take m ++ l4.drop (m + 1)) := Inner.sub ho6.2.1 hsub
  have hO7 : OwnRv (w.heap.size + 2) w7 (.slice va n7 vcap) (l4.take m ++ l4.drop (m + 1)) := OwnRv.of_grown (w := w6) (v := .slice va6 n6 vc6) hin7 (fun x hx j hj e => by
    have h3 := h6ne j e
    have h4 := (OwnL.lt (ho4.2.1.1 x (hsub.subset hx)) j hj).2
    omega) (OwnL.base hown7 (by omega)) hg7
  have hne7 : (∀ j, (Value.slice va n7 vcap).ownBlock = some j → j ≠ w4.heap.size) ∧ ∀ x ∈ l4.take m ++ l4.drop (m + 1), ∀ j, x.v.ownBlock = some j → j ≠ w4.heap.size := by
    refine ⟨fun j hj => ?_, fun x hx j hj => ?_⟩
    · have h3 := (OwnL.lt hown7 j hj).1
      omega
    · have h4 := (OwnL.lt (ho4.2.1.1 x (hsub.subset hx)) j hj).2
      omega
  have HNE := Lib.hid hne7
  have HO := Lib.hid hO7
  have HB := Lib.hid (hB.trans (hB7.mono hB.size))
  have HLN := Lib.hid (show rls (l4.take m ++ l4.drop (m + 1)) = (rls l).take m ++ (rls l).drop (m + 1) by
    rw [← hl4]
    unfold rls
    simp)
  have hs7 : w4.heap.size < w7.heap.size := row_here hr57
  have c6 := row_cell hr56 3
  have c70 := row_cell hr57 0
  have c71 := row_cell hr57 1
  have c72 := row_cell hr57 2
  have c73 := row_cell hr57 3
  simp only [List.getElem?_toArray, List.getElem?_cons_zero, List.getElem?_cons_succ] at c6 c70 c71 c72 c73
  have f73 := frozen_row hr57 3
  have r1 := hr17
  have e0 := row_cell r1 0
  have e1 := row_cell r1 1
  have e2 := row_cell r1 2
  have e3 := row_cell r1 3
  have e4 := row_cell r1 4
  simp only [List.getElem?_toArray, List.getElem?_cons_zero, List.getElem?_cons_succ] at e0 e1 e2 e3 e4
  have f0 := frozen_row r1 0
  have f1 := frozen_row r1 1
  have f2 := frozen_row r1 2
  have f3 := frozen_row r1 3
  have f4 := frozen_row r1 4
  have hw2 : IntKind.i64.wrap ((m : Int) + 1) = (m : Int) + 1 := by rw [IntKind.wrap_i64]; omega
  have hgc0 := hgc
  have hcap0 : (m : Int) ≤ (ucap : Int) := by omega
  have hcap1 : (m : Int) + 1 ≤ (l4.length : Int) := by omega
  have hcap2 : (l4.length : Int) ≤ (ucap : Int) := by omega
  have HRA := Lib.hid hra
  have HRB := Lib.hid hrb
  have HLEN := Lib.hid hlen4
  clear hra hrb hr16 hr17 hr56 hr57 hr1 hr5 r0 r1 hb4 hg6 hg7 hlit hlen4 hne7 hO7 hin7 hsub hdv hown6 hown7 hB7 hB6 hB5 hB5a ho4 ho5 ho6 hat5 hat6 hG6 h6ne hl4 hB
  by_cases hcm : ucap = m + 1
  · have hx7' : x7 = .slice (some ⟨g, 0, none⟩) 0 0 := by rw [hx7]; unfold dropV; rw [if_pos hcm, show l4.length - (m + 1) = 0 by omega]
    clear hx7
    subst hx7' hcm
    go_wp2_with (at_builtin; first | (refine wpList_append_run rfl (.tmp 21) (.tmp 25) rfl (by rfl) (by rfl) HRA.out ?_) | (refine wpList_append_run rfl (.tmp 27) (.tmp 32) rfl (by rfl) (by rfl) HRB.out ?_))
    exact bodyPost_ret (v := .agg #[.int .i64 ar, .int .i64 df, .int .i64 bd, .slice va n7 vcap, .int .i64 0]) (by simp [results, Try.results26, go_sem, e0, e1, e2, e3, e4]) rfl ⟨_, _, by rw [HR.out] <;> rfl, by rw [HR.out]; exact HLN.out,
      ((((((HO.out.setOther (a := ⟨w4.heap.size, 3, none⟩) HNE.out.1 HNE.out.2 _).setBelow (by simp <;> omega) _).setBelow (by simp <;> omega) _).setBelow (by simp <;> omega) _).setBelow (by simp <;> omega) _).setBelow (by simp <;> omega) _).base (by omega), (((((HB.out.setCell (p := ⟨w4.heap.size, 3, none⟩) (by simp <;> omega) _).setCell (p := ⟨w.heap.size + 1, 0, none⟩) (by simp <;> omega) _).setCell (p := ⟨w.heap.size + 1, 1, none⟩) (by simp <;> omega) _).setCell (p := ⟨w.heap.size + 1, 2, none⟩) (by simp <;> omega) _).setCell (p := ⟨w.heap.size + 1, 3, none⟩) (by simp <;> omega) _).setCell (p := ⟨w.heap.size + 1, 4, none⟩) (by simp <;> omega) _⟩
  · have hx7' : x7 = .slice (some ⟨g, (m + 1) * 3, none⟩) (l4.length - (m + 1)) (ucap - (m + 1)) := by rw [hx7]; unfold dropV; rw [if_neg hcm]
    clear hx7
    subst hx7'
    have hcm2 : ¬ ucap ≤ m + 1 := by omega
    have hcm3 : ¬ ucap - (m + 1) = 0 := by omega
    go_wp2_with (at_builtin; first | (refine wpList_append_run rfl (.tmp 21) (.tmp 25) rfl (by rfl) (by rfl) HRA.out ?_) | (refine wpList_append_run rfl (.tmp 27) (.tmp 32) rfl (by rfl) (by rfl) HRB.out ?_))
    exact bodyPost_ret (v := .agg #[.int .i64 ar, .int .i64 df, .int .i64 bd, .slice va n7 vcap, .int .i64 0]) (by simp [results, Try.results26, go_sem, e0, e1, e2, e3, e4]) rfl ⟨_, _, by rw [HR.out] <;> rfl, by rw [HR.out]; exact HLN.out,
      ((((((HO.out.setOther (a := ⟨w4.heap.size, 3, none⟩) HNE.out.1 HNE.out.2 _).setBelow (by simp <;> omega) _).setBelow (by simp <;> omega) _).setBelow (by simp <;> omega) _).setBelow (by simp <;> omega) _).setBelow (by simp <;> omega) _).base (by omega), (((((HB.out.setCell (p := ⟨w4.heap.size, 3, none⟩) (by simp <;> omega) _).setCell (p := ⟨w.heap.size + 1, 0, none⟩) (by simp <;> omega) _).setCell (p := ⟨w.heap.size + 1, 1, none⟩) (by simp <;> omega) _).setCell (p := ⟨w.heap.size + 1, 2, none⟩) (by simp <;> omega) _).setCell (p := ⟨w.heap.size + 1, 3, none⟩) (by simp <;> omega) _).setCell (p := ⟨w.heap.size + 1, 4, none⟩) (by simp <;> omega) _⟩

end Go.Proofs.Ytmnmaijifhojiaa

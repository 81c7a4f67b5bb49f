/- Words of two halves: WordRight, WordLess, WordAnd, Load of the model walked. -/
import Derived.Test.YtmnmaijifhojiaaIa
import Derived.Test.YtmnmaijifhojiaaLv
set_option maxRecDepth 100000
namespace Go.Proofs.Ytmnmaijifhojiaa
open Go.RowKit

/-- A word of two halves. -/
structure Wd where
  h : Int
  l : Int
theorem Wd.ext' {a b : Wd} (h0 : a.h = b.h) (h1 : a.l = b.l) : a = b := by cases a; cases b; simp_all
instance : DecidableEq Wd := fun a b => decidable_of_iff (a.h = b.h ∧ a.l = b.l) ⟨fun h => Wd.ext' h.1 h.2, fun h => by rw [h]; exact ⟨rfl, rfl⟩⟩
def Wd.wf (x : Wd) : Prop := In64 x.h ∧ In64 x.l
def wdRight (x : Wd) : Bool := isB x.h 0 4294967295 && isB x.l 0 4294967295
def wdLess0 (a b : Wd) : Bool := decide (a.h < b.h) || (a.h == b.h && decide (a.l < b.l))
def wdLess (a b : Wd) : Bool := wdRight a && wdRight b && wdLess0 a b
def andI (a b : Int) : Int := bits .and .i64 a b
def wdAnd (a b : Wd) : Wd := if wdRight a && wdRight b then ⟨andI a.h b.h, andI a.l b.l⟩ else ⟨0, 0⟩

theorem specWordRight_any (h l : Int) (w : World) : Calls Try.prog 39 #[.agg #[.int .i64 h, .int .i64 l]] w fun e w' =>
    e = .returned (.bool (wdRight ⟨h, l⟩)) ∧ Below w.heap.size w w' := by
  by_cases h0 : isB h 0 4294967295 = true
  all_goals
    go_enter Try.func39, Try.ntmps39
    go_wp2_with (go_at_call 78; refine (l02Is_any _ _ _ _).mono ?_; rintro e w' ⟨rfl, rfl⟩)
    go_ret
    exact ⟨ret_bool (by simp [wdRight, *]), (Below.refl _ _).alloc (Nat.le_refl _) _⟩

theorem l03Less_any (h l h' l' : Int) (w : World) : Calls Try.prog 105 #[.agg #[.int .i64 h, .int .i64 l], .agg #[.int .i64 h', .int .i64 l']] w fun e w' =>
    e = .returned (.bool (wdLess0 ⟨h, l⟩ ⟨h', l'⟩)) ∧ Below w.heap.size w w' := by
  by_cases h0 : h < h'
  · have hd := Lib.hid (show wdLess0 ⟨h, l⟩ ⟨h', l'⟩ = true by simp [wdLess0, h0])
    go_enter Try.func105, Try.ntmps105
    go_wp2
    go_ret
    exact ⟨ret_bool hd.out.symm, ((Below.refl _ _).alloc (Nat.le_refl _) _).alloc (by simp) _⟩
  · have h0' : decide (h < h') = false := by simpa using h0
    by_cases h1 : h = h'
    · have hd := Lib.hid (show wdLess0 ⟨h, l⟩ ⟨h', l'⟩ = decide (l < l') by simp [wdLess0, h1])
      have hq : (h == h') = true := by simpa using h1
      clear h1
      by_cases h2 : l < l'
      · have hr := Lib.hid (hd.out.trans (decide_eq_true h2))
        go_enter Try.func105, Try.ntmps105
        go_wp2
        go_ret
        exact ⟨ret_bool hr.out.symm, ((Below.refl _ _).alloc (Nat.le_refl _) _).alloc (by simp) _⟩
      · have hr := Lib.hid (hd.out.trans (decide_eq_false h2))
        have h2' : decide (l < l') = false := by simpa using h2
        go_enter Try.func105, Try.ntmps105
        go_wp2
        go_ret
        exact ⟨ret_bool hr.out.symm, ((Below.refl _ _).alloc (Nat.le_refl _) _).alloc (by simp) _⟩
    · have hd := Lib.hid (show wdLess0 ⟨h, l⟩ ⟨h', l'⟩ = false by simp [wdLess0, h0, h1])
      have hq : (h == h') = false := by simpa using h1
      clear h1
      go_enter Try.func105, Try.ntmps105
      go_wp2
      go_ret
      exact ⟨ret_bool hd.out.symm, ((Below.refl _ _).alloc (Nat.le_refl _) _).alloc (by simp) _⟩

theorem specWordAnd_any (h l h' l' : Int) (w : World) : Calls Try.prog 97 #[.agg #[.int .i64 h, .int .i64 l], .agg #[.int .i64 h', .int .i64 l']] w fun e w' =>
    e = .returned (.agg #[.int .i64 (wdAnd ⟨h, l⟩ ⟨h', l'⟩).h, .int .i64 (wdAnd ⟨h, l⟩ ⟨h', l'⟩).l]) ∧ Below w.heap.size w w' := by
  have q1 := fun W => specWordRight_any h l W
  have q2 := fun W => specWordRight_any h' l' W
  have hd : wdAnd ⟨h, l⟩ ⟨h', l'⟩ = if wdRight ⟨h, l⟩ && wdRight ⟨h', l'⟩ then ⟨andI h h', andI l l'⟩ else ⟨0, 0⟩ := rfl
  cases ha : wdRight ⟨h, l⟩ <;> cases hb : wdRight ⟨h', l'⟩ <;> simp only [ha, hb, Bool.false_and, Bool.and_false, Bool.and_self, if_true, Bool.false_eq_true, if_false] at q1 q2 hd <;> rw [hd]
  all_goals
    have Q1 := Lib.hid q1
    have Q2 := Lib.hid q2
    clear q1 q2 hd ha hb
    go_enter Try.func97, Try.ntmps97
    go_wp2_with fail
    refine (Q1.out _).mono ?_
    rintro e w1 ⟨rfl, hb1⟩
    obtain ⟨hc, hdd, he, hf, hB⟩ := boxes3 hb1
    have HB := Lib.hid hb1
    have HX := Lib.hid hB
    have c0 := hc 0
    have c1 := hc 1
    have d0 := hdd 0
    have d1 := hdd 1
    have e0 := he 0
    have e1 := he 1
    have f0 := hf 0
    have f1 := hf 1
    simp only [List.getElem?_toArray, List.getElem?_cons_zero, List.getElem?_cons_succ] at c0 c1 d0 d1 e0 e1
    clear hb1 hc hdd he hf hB
    go_wp2_with fail
  · exact bodyPost_ret (v := .agg #[.int .i64 0, .int .i64 0]) (by simp [results, Try.results97, go_sem, e0, e1]) rfl ⟨rfl, (HX.out.setCell (by simp; omega) _).setCell (by simp; omega) _⟩
  · exact bodyPost_ret (v := .agg #[.int .i64 0, .int .i64 0]) (by simp [results, Try.results97, go_sem, e0, e1]) rfl ⟨rfl, (HX.out.setCell (by simp; omega) _).setCell (by simp; omega) _⟩
  · clear c0 c1 d0 d1 e0 e1 f0 f1
    refine (Q2.out _).mono ?_
    rintro e w2 ⟨rfl, hb2⟩
    obtain ⟨hc, hdd, he, hf, hB⟩ := boxes3 (HB.out.trans (hb2.mono HB.out.size))
    have HX := Lib.hid hB
    have e0 := he 0
    have e1 := he 1
    have f0 := hf 0
    have f1 := hf 1
    simp only [List.getElem?_toArray, List.getElem?_cons_zero, List.getElem?_cons_succ] at e0 e1
    clear hb2 hc hdd he hf hB
    go_wp2_with fail
    exact bodyPost_ret (v := .agg #[.int .i64 0, .int .i64 0]) (by simp [results, Try.results97, go_sem, e0, e1]) rfl ⟨rfl, (HX.out.setCell (by simp; omega) _).setCell (by simp; omega) _⟩
  · clear c0 c1 d0 d1 e0 e1 f0 f1
    refine (Q2.out _).mono ?_
    rintro e w2 ⟨rfl, hb2⟩
    obtain ⟨hc, hdd, he, hf, hB⟩ := boxes3 (HB.out.trans (hb2.mono HB.out.size))
    have HX := Lib.hid hB
    have c0 := hc 0
    have c1 := hc 1
    have d0 := hdd 0
    have d1 := hdd 1
    have e0 := he 0
    have e1 := he 1
    have f0 := hf 0
    have f1 := hf 1
    simp only [List.getElem?_toArray, List.getElem?_cons_zero, List.getElem?_cons_succ] at c0 c1 d0 d1 e0 e1
    clear hb2 hc hdd he hf hB
    go_wp2_with fail
    exact bodyPost_ret (v := .agg #[.int .i64 (andI h h'), .int .i64 (andI l l')]) (by simp [results, Try.results97, go_sem, e0, e1, andI]) rfl ⟨rfl, (HX.out.setCell (by simp; omega) _).setCell (by simp; omega) _⟩

/-- The number of four bytes of what is asked. -/
def loadB (s : ByteArray) (z : Int) : Int := if s.size = 64 ∧ 0 ≤ z ∧ z ≤ 60 ∧ z % 4 = 0 then leV (bytesAt s z.toNat 4) else -1
theorem loadB_yes {s : ByteArray} {z : Int} (h : s.size = 64 ∧ 0 ≤ z ∧ z ≤ 60 ∧ z % 4 = 0) : loadB s z = leV (bytesAt s z.toNat 4) := by unfold loadB; rw [if_pos h]
theorem loadB_no {s : ByteArray} {z : Int} (h : ¬ (s.size = 64 ∧ 0 ≤ z ∧ z ≤ 60 ∧ z % 4 = 0)) : loadB s z = -1 := by unfold loadB; rw [if_neg h]

end Go.Proofs.Ytmnmaijifhojiaa

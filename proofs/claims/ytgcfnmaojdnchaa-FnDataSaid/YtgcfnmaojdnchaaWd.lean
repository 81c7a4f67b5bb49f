/- Words of two halves: WordRight, WordLess, WordAnd, Load of the model walked. -/
import Derived.Test.YtgcfnmaojdnchaaIa
import Derived.Test.YtgcfnmaojdnchaaLv
set_option maxRecDepth 100000
namespace Go.Proofs.Ytgcfnmaojdnchaa
open Go.RowKit

/-- A word of two halves. -/
structure Wd where
  h : Int
  l : Int
theorem Wd.ext' {a b : Wd} (h0 : a.h = b.h) (h1 : a.l = b.l) : a = b := by cases a; cases b; simp_all
instance : DecidableEq Wd := fun a b => decidable_of_iff (a.h = b.h ∧ a.l = b.l) ⟨fun h => Wd.ext' h.1 h.2, fun h => by rw [h]; exact ⟨rfl, rfl⟩⟩
def Wd.wf (x : Wd) : Prop := In64 x.h ∧ In64 x.l
def wdRight (x : Wd) : Bool := isB x.h 0 4294967295 && isB x.l 0 4294967295
def wdLess0 (a b : Wd) : Bool := decide (a.h < b.h) || (a.h == b.h && decide (a.l < b.l))
def wdLess (a b : Wd) : Bool := wdRight a && wdRight b && wdLess0 a b
def andI (a b : Int) : Int := bits .and .i64 a b
def wdAnd (a b : Wd) : Wd := if wdRight a && wdRight b then ⟨andI a.h b.h, andI a.l b.l⟩ else ⟨0, 0⟩

theorem specWordRight_any (h l : Int) (w : World) : Calls Try.prog 29 #[.agg #[.int .i64 h, .int .i64 l]] w fun e w' =>
    e = .returned (.bool (wdRight ⟨h, l⟩)) ∧ Below w.heap.size w w' := by
  by_cases h0 : isB h 0 4294967295 = true
  all_goals
    go_enter Try.func29, Try.ntmps29
    go_wp2_with (go_at_call 58; refine (l02Is_any _ _ _ _).mono ?_; rintro e w' ⟨rfl, rfl⟩)
    go_ret
    exact ⟨ret_bool (by simp [wdRight, *]), (Below.refl _ _).alloc (Nat.le_refl _) _⟩

theorem l03Less_any (h l h' l' : Int) (w : World) : Calls Try.prog 55 #[.agg #[.int .i64 h, .int .i64 l], .agg #[.int .i64 h', .int .i64 l']] w fun e w' =>
    e = .returned (.bool (wdLess0 ⟨h, l⟩ ⟨h', l'⟩)) ∧ Below w.heap.size w w' := by
  by_cases h0 : h < h'
  · have hd := Lib.hid (show wdLess0 ⟨h, l⟩ ⟨h', l'⟩ = true by simp [wdLess0, h0])
    go_enter Try.func55, Try.ntmps55
    go_wp2
    go_ret
    exact ⟨ret_bool hd.out.symm, ((Below.refl _ _).alloc (Nat.le_refl _) _).alloc (by simp) _⟩
  · have h0' : decide (h < h') = false := by simpa using h0
    by_cases h1 : h = h'
    · have hd := Lib.hid (show wdLess0 ⟨h, l⟩ ⟨h', l'⟩ = decide (l < l') by simp [wdLess0, h1])
      have hq : (h == h') = true := by simpa using h1
      clear h1
      by_cases h2 : l < l'
      · have hr := Lib.hid (hd.out.trans (decide_eq_true h2))
        go_enter Try.func55, Try.ntmps55
        go_wp2
        go_ret
        exact ⟨ret_bool hr.out.symm, ((Below.refl _ _).alloc (Nat.le_refl _) _).alloc (by simp) _⟩
      · have hr := Lib.hid (hd.out.trans (decide_eq_false h2))
        have h2' : decide (l < l') = false := by simpa using h2
        go_enter Try.func55, Try.ntmps55
        go_wp2
        go_ret
        exact ⟨ret_bool hr.out.symm, ((Below.refl _ _).alloc (Nat.le_refl _) _).alloc (by simp) _⟩
    · have hd := Lib.hid (show wdLess0 ⟨h, l⟩ ⟨h', l'⟩ = false by simp [wdLess0, h0, h1])
      have hq : (h == h') = false := by simpa using h1
      clear h1
      go_enter Try.func55, Try.ntmps55
      go_wp2
      go_ret
      exact ⟨ret_bool hd.out.symm, ((Below.refl _ _).alloc (Nat.le_refl _) _).alloc (by simp) _⟩

theorem specWordLess_any (h l h' l' : Int) (w : World) : Calls Try.prog 22 #[.agg #[.int .i64 h, .int .i64 l], .agg #[.int .i64 h', .int .i64 l']] w fun e w' =>
    e = .returned (.bool (wdLess ⟨h, l⟩ ⟨h', l'⟩)) ∧ Below w.heap.size w w' := by
  have q1 := fun W => specWordRight_any h l W
  have q2 := fun W => specWordRight_any h' l' W
  have q3 := fun W => l03Less_any h l h' l' W
  have hd : wdLess ⟨h, l⟩ ⟨h', l'⟩ = (wdRight ⟨h, l⟩ && wdRight ⟨h', l'⟩ && wdLess0 ⟨h, l⟩ ⟨h', l'⟩) := rfl
  cases ha : wdRight ⟨h, l⟩ <;> cases hb : wdRight ⟨h', l'⟩ <;> simp only [ha, hb, Bool.false_and, Bool.and_false, Bool.true_and] at q1 q2 hd
  all_goals
    have Q1 := Lib.hid q1
    have Q2 := Lib.hid q2
    have Q3 := Lib.hid q3
    have HD := Lib.hid hd
    clear q1 q2 q3 hd ha hb
    go_enter Try.func22, Try.ntmps22
    go_wp2_with fail
    refine (Q1.out _).mono ?_
    rintro e w1 ⟨rfl, hb1⟩
  · have HB := Lib.hid (box2 hb1).2.2
    clear hb1
    go_wp2_with fail
    go_ret
    exact ⟨ret_bool HD.out.symm, HB.out⟩
  · have HB := Lib.hid (box2 hb1).2.2
    clear hb1
    go_wp2_with fail
    go_ret
    exact ⟨ret_bool HD.out.symm, HB.out⟩
  · have hb2 := box2 hb1
    have d0 := hb2.2.1 0
    have d1 := hb2.2.1 1
    simp only [List.getElem?_toArray, List.getElem?_cons_zero, List.getElem?_cons_succ] at d0 d1
    have HB := Lib.hid hb1
    clear hb1 hb2
    go_wp2_with fail
    refine (Q2.out _).mono ?_
    rintro e w2 ⟨rfl, hb3⟩
    have HC := Lib.hid (box2 (HB.out.trans (hb3.mono HB.out.size))).2.2
    clear hb3 d0 d1
    go_wp2_with fail
    go_ret
    exact ⟨ret_bool HD.out.symm, HC.out⟩
  · have hb2 := box2 hb1
    have d0 := hb2.2.1 0
    have d1 := hb2.2.1 1
    simp only [List.getElem?_toArray, List.getElem?_cons_zero, List.getElem?_cons_succ] at d0 d1
    have HB := Lib.hid hb1
    clear hb1 hb2
    go_wp2_with fail
    refine (Q2.out _).mono ?_
    rintro e w2 ⟨rfl, hb3⟩
    have HC := Lib.hid (HB.out.trans (hb3.mono HB.out.size))
    clear hb3 d0 d1
    have hb2 := box2 HC.out
    have c0 := hb2.1 0
    have c1 := hb2.1 1
    have d0 := hb2.2.1 0
    have d1 := hb2.2.1 1
    simp only [List.getElem?_toArray, List.getElem?_cons_zero, List.getElem?_cons_succ] at c0 c1 d0 d1
    clear hb2
    go_wp2_with fail
    refine (Q3.out _).mono ?_
    rintro e w3 ⟨rfl, hb4⟩
    have HE := Lib.hid (box2 (HC.out.trans (hb4.mono HC.out.size))).2.2
    clear hb4 c0 c1 d0 d1
    go_wp2_with fail
    go_ret
    exact ⟨ret_bool HD.out.symm, HE.out⟩

theorem specWordAnd_any (h l h' l' : Int) (w : World) : Calls Try.prog 23 #[.agg #[.int .i64 h, .int .i64 l], .agg #[.int .i64 h', .int .i64 l']] w fun e w' =>
    e = .returned (.agg #[.int .i64 (wdAnd ⟨h, l⟩ ⟨h', l'⟩).h, .int .i64 (wdAnd ⟨h, l⟩ ⟨h', l'⟩).l]) ∧ Below w.heap.size w w' := by
  have q1 := fun W => specWordRight_any h l W
  have q2 := fun W => specWordRight_any h' l' W
  have hd : wdAnd ⟨h, l⟩ ⟨h', l'⟩ = if wdRight ⟨h, l⟩ && wdRight ⟨h', l'⟩ then ⟨andI h h', andI l l'⟩ else ⟨0, 0⟩ := rfl
  cases ha : wdRight ⟨h, l⟩ <;> cases hb : wdRight ⟨h', l'⟩ <;> simp only [ha, hb, Bool.false_and, Bool.and_false, Bool.and_self, if_true, Bool.false_eq_true, if_false] at q1 q2 hd <;> rw [hd]
  all_goals
    have Q1 := Lib.hid q1
    have Q2 := Lib.hid q2
    clear q1 q2 hd ha hb
    go_enter Try.func23, Try.ntmps23
    go_wp2_with fail
    refine (Q1.out _).mono ?_
    rintro e w1 ⟨rfl, hb1⟩
    obtain ⟨hc, hdd, he, hf, hB⟩ := boxes3 hb1
    have HB := Lib.hid hb1
    have HX := Lib.hid hB
    have c0 := hc 0
    have c1 := hc 1
    have d0 := hdd 0
    have d1 := hdd 1
    have e0 := he 0
    have e1 := he 1
    have f0 := hf 0
    have f1 := hf 1
    simp only [List.getElem?_toArray, List.getElem?_cons_zero, List.getElem?_cons_succ] at c0 c1 d0 d1 e0 e1
    clear hb1 hc hdd he hf hB
    go_wp2_with fail
  · exact bodyPost_ret (v := .agg #[.int .i64 0, .int .i64 0]) (by simp [results, Try.results23, go_sem, e0, e1]) rfl ⟨rfl, (HX.out.setCell (by simp; omega) _).setCell (by simp; omega) _⟩
  · exact bodyPost_ret (v := .agg #[.int .i64 0, .int .i64 0]) (by simp [results, Try.results23, go_sem, e0, e1]) rfl ⟨rfl, (HX.out.setCell (by simp; omega) _).setCell (by simp; omega) _⟩
  · clear c0 c1 d0 d1 e0 e1 f0 f1
    refine (Q2.out _).mono ?_
    rintro e w2 ⟨rfl, hb2⟩
    obtain ⟨hc, hdd, he, hf, hB⟩ := boxes3 (HB.out.trans (hb2.mono HB.out.size))
    have HX := Lib.hid hB
    have e0 := he 0
    have e1 := he 1
    have f0 := hf 0
    have f1 := hf 1
    simp only [List.getElem?_toArray, List.getElem?_cons_zero, List.getElem?_cons_succ] at e0 e1
    clear hb2 hc hdd he hf hB
    go_wp2_with fail
    exact bodyPost_ret (v := .agg #[.int .i64 0, .int .i64 0]) (by simp [results, Try.results23, go_sem, e0, e1]) rfl ⟨rfl, (HX.out.setCell (by simp; omega) _).setCell (by simp; omega) _⟩
  · clear c0 c1 d0 d1 e0 e1 f0 f1
    refine (Q2.out _).mono ?_
    rintro e w2 ⟨rfl, hb2⟩
    obtain ⟨hc, hdd, he, hf, hB⟩ := boxes3 (HB.out.trans (hb2.mono HB.out.size))
    have HX := Lib.hid hB
    have c0 := hc 0
    have c1 := hc 1
    have d0 := hdd 0
    have d1 := hdd 1
    have e0 := he 0
    have e1 := he 1
    have f0 := hf 0
    have f1 := hf 1
    simp only [List.getElem?_toArray, List.getElem?_cons_zero, List.getElem?_cons_succ] at c0 c1 d0 d1 e0 e1
    clear hb2 hc hdd he hf hB
    go_wp2_with fail
    exact bodyPost_ret (v := .agg #[.int .i64 (andI h h'), .int .i64 (andI l l')]) (by simp [results, Try.results23, go_sem, e0, e1, andI]) rfl ⟨rfl, (HX.out.setCell (by simp; omega) _).setCell (by simp; omega) _⟩

/-- The number of four bytes of what is asked. -/
def loadB (s : ByteArray) (z : Int) : Int := if s.size = 64 ∧ 0 ≤ z ∧ z ≤ 60 ∧ z % 4 = 0 then leV (bytesAt s z.toNat 4) else -1
theorem loadB_yes {s : ByteArray} {z : Int} (h : s.size = 64 ∧ 0 ≤ z ∧ z ≤ 60 ∧ z % 4 = 0) : loadB s z = leV (bytesAt s z.toNat 4) := by unfold loadB; rw [if_pos h]
theorem loadB_no {s : ByteArray} {z : Int} (h : ¬ (s.size = 64 ∧ 0 ≤ z ∧ z ≤ 60 ∧ z % 4 = 0)) : loadB s z = -1 := by unfold loadB; rw [if_neg h]

theorem specLoad_any (s : ByteArray) (z : Int) (w : World) (hs : s.size ≤ maxLen) (hz0 : -9223372036854775808 ≤ z) (hz1 : z ≤ 9223372036854775807) : Calls Try.prog 25 #[.string s, .int .i64 z] w fun e w' =>
    e = .returned (.int .i64 (loadB s z)) ∧ w = w' := by
  have hs' := hs
  unfold maxLen at hs
  by_cases h1 : s.size = 64
  · have q : ((s.size : Int) != 64) = false := by rw [h1]; rfl
    have H1 := Lib.hid h1
    by_cases h2 : 0 ≤ z ∧ z ≤ 60
    · have hi := isB_yes h2.1 h2.2
      obtain ⟨n, rfl⟩ := Int.eq_ofNat_of_zero_le h2.1
      have hn : n ≤ 60 := by omega
      by_cases h3 : n % 4 = 0
      · have HL := Lib.hid (loadB_yes (s := s) (z := (n : Int)) ⟨h1, by omega, by omega, by omega⟩)
        have q3 : ((n : Int) % 4 != 0) = false := by simp; omega
        have qq := fun W => l02Get_int s (n : Int) 4 n 4 W hs' rfl rfl (by omega) (by omega)
        have QQ := Lib.hid qq
        clear h1 h2 qq
        go_enter Try.func25, Try.ntmps25
        go_wp2_with (first | (go_at_call 58; refine (l02Is_any _ _ _ _).mono ?_; rintro e w' ⟨rfl, rfl⟩) | (go_at_call 49; refine (QQ.out _).mono ?_; rintro e w' ⟨rfl, rfl⟩))
        go_ret
        exact ⟨ret_int (by rw [HL.out]; rfl), rfl⟩
      · have HL := Lib.hid (loadB_no (s := s) (z := (n : Int)) (by omega))
        have q3 : ((n : Int) % 4 != 0) = true := by simp; omega
        clear h1 h2
        go_enter Try.func25, Try.ntmps25
        go_wp2_with (first | (go_at_call 58; refine (l02Is_any _ _ _ _).mono ?_; rintro e w' ⟨rfl, rfl⟩))
        go_ret
        exact ⟨ret_int HL.out.symm, rfl⟩
    · have hi := isB_no (n := z) (lo := 0) (hi := 60) h2
      have HL := Lib.hid (loadB_no (s := s) (z := z) (by omega))
      clear h1
      go_enter Try.func25, Try.ntmps25
      go_wp2_with (first | (go_at_call 58; refine (l02Is_any _ _ _ _).mono ?_; rintro e w' ⟨rfl, rfl⟩))
      go_ret
      exact ⟨ret_int HL.out.symm, rfl⟩
  · have q : ((s.size : Int) != 64) = true := by simp; omega
    have HL := Lib.hid (loadB_no (s := s) (z := z) (by omega))
    go_enter Try.func25, Try.ntmps25
    go_wp2
    go_ret
    exact ⟨ret_int HL.out.symm, rfl⟩

end Go.Proofs.Ytgcfnmaojdnchaa

/- Walks of the program's words of two halves: WordRight, bitsOf, wordOf, WordLess, WordAnd, Load. -/
import Derived.Test.YtgcfnmaojdnchaaWd
import Derived.Test.YtgcfnmaojdnchaaPr
import Derived.Test.YtgcfnmaojdnchaaPw
import Derived.Deep.RegionHeld3
import Derived.Deep.DrawnRows
set_option maxRecDepth 100000
namespace Go.Proofs.Ytgcfnmaojdnchaa
open Go.RowKit
attribute [local go_sem ↓] Go.wp_at_zero Go.wp_at_succ

/-- The number of 64 bits of two halves, each cut to 32. -/
def bitsW (x : Wd) : Int := (x.h % 4294967296) * 4294967296 + x.l % 4294967296
def halves (u : Int) : Wd := ⟨u / 4294967296, u % 4294967296⟩
theorem bitsW_bd (x : Wd) : 0 ≤ bitsW x ∧ bitsW x ≤ 18446744073709551615 := by unfold bitsW; omega
theorem halves_right (u : Int) (h0 : 0 ≤ u) (h1 : u ≤ 18446744073709551615) : wdRight (halves u) = true := by
  unfold wdRight halves isB
  simp only [Bool.and_eq_true, decide_eq_true_eq]
  omega
theorem wdRight_bd {x : Wd} (h : wdRight x = true) : (0 ≤ x.h ∧ x.h ≤ 4294967295) ∧ (0 ≤ x.l ∧ x.l ≤ 4294967295) := by
  unfold wdRight isB at h
  simpa [and_assoc] using h
theorem bitsW_right {x : Wd} (h : wdRight x = true) : bitsW x = x.h * 4294967296 + x.l := by
  have := wdRight_bd h
  unfold bitsW
  omega
/-- A word is right just if it is what its bits are taken apart to. -/
theorem halves_bitsW (x : Wd) : halves (bitsW x) = x ↔ wdRight x = true := by
  constructor
  · intro h
    rw [← h]
    exact halves_right _ (bitsW_bd x).1 (bitsW_bd x).2
  · intro h
    have := wdRight_bd h
    rw [bitsW_right h]
    apply Wd.ext' <;> simp only [halves] <;> omega
theorem or_u64_nat (a b : Nat) (ha : a < 18446744073709551616) (hb : b < 18446744073709551616) : bits .or .u64 (a : Int) (b : Int) = ((a ||| b : Nat) : Int) := by
  have hx : a ||| b < 2 ^ 64 := Nat.or_lt_two_pow (by omega) (by omega)
  show IntKind.u64.wrap ((BitVec.ofInt 64 (a : Int) ||| BitVec.ofInt 64 (b : Int)).toNat : Int) = _
  rw [BitVec.toNat_or, ofInt_toNat 64 a (by omega), ofInt_toNat 64 b (by omega), IntKind.wrap_u64]
  omega
theorem and_u64_nat (a b : Nat) (ha : a < 18446744073709551616) (hb : b < 18446744073709551616) : bits .and .u64 (a : Int) (b : Int) = ((a &&& b : Nat) : Int) := by
  have hx : a &&& b < 2 ^ 64 := Nat.and_lt_two_pow _ (by omega)
  show IntKind.u64.wrap ((BitVec.ofInt 64 (a : Int) &&& BitVec.ofInt 64 (b : Int)).toNat : Int) = _
  rw [BitVec.toNat_and, ofInt_toNat 64 a (by omega), ofInt_toNat 64 b (by omega), IntKind.wrap_u64]
  omega
theorem or_halves (h l : Int) : bits .or .u64 ((h % 4294967296) * 4294967296) (l % 4294967296) = bitsW ⟨h, l⟩ := by
  obtain ⟨a, ha⟩ := Int.eq_ofNat_of_zero_le (show 0 ≤ h % 4294967296 by omega)
  obtain ⟨b, hb⟩ := Int.eq_ofNat_of_zero_le (show 0 ≤ l % 4294967296 by omega)
  have h1 : a < 4294967296 := by omega
  have h2 : b < 4294967296 := by omega
  have ho := or_low 4 b a (by simpa using h2)
  unfold bitsW
  simp only [ha, hb]
  rw [show (a : Int) * 4294967296 = ((a * 4294967296 : Nat) : Int) by simp, or_u64_nat _ _ (by omega) (by omega), Nat.or_comm]
  rw [show a * 4294967296 = a * 256 ^ 4 from rfl, ho]
  show ((b + a * 4294967296 : Nat) : Int) = _
  omega
theorem and_halves {x y : Wd} (hx : wdRight x = true) (hy : wdRight y = true) : halves (bits .and .u64 (bitsW x) (bitsW y)) = ⟨andI x.h y.h, andI x.l y.l⟩ := by
  obtain ⟨⟨a0, a1⟩, ⟨b0, b1⟩⟩ := wdRight_bd hx
  obtain ⟨⟨c0, c1⟩, ⟨d0, d1⟩⟩ := wdRight_bd hy
  rw [bitsW_right hx, bitsW_right hy]
  obtain ⟨h, l⟩ := x
  obtain ⟨h', l'⟩ := y
  simp only at a0 a1 b0 b1 c0 c1 d0 d1 ⊢
  obtain ⟨a, rfl⟩ := Int.eq_ofNat_of_zero_le a0
  obtain ⟨b, rfl⟩ := Int.eq_ofNat_of_zero_le b0
  obtain ⟨c, rfl⟩ := Int.eq_ofNat_of_zero_le c0
  obtain ⟨d, rfl⟩ := Int.eq_ofNat_of_zero_le d0
  rw [show (a : Int) * 4294967296 + (b : Int) = ((a * 4294967296 + b : Nat) : Int) by omega, show (c : Int) * 4294967296 + (d : Int) = ((c * 4294967296 + d : Nat) : Int) by omega, and_u64_nat _ _ (by omega) (by omega)]
  unfold andI halves
  rw [and_i64_nat _ _ (by omega) (by omega), and_i64_nat _ _ (by omega) (by omega)]
  have e1 : (((a * 4294967296 + b) &&& (c * 4294967296 + d)) / 4294967296 : Nat) = ((a * 4294967296 + b) / 4294967296) &&& ((c * 4294967296 + d) / 4294967296) := Nat.and_div_two_pow (n := 32)
  have e2 : (((a * 4294967296 + b) &&& (c * 4294967296 + d)) % 4294967296 : Nat) = ((a * 4294967296 + b) % 4294967296) &&& ((c * 4294967296 + d) % 4294967296) := Nat.and_mod_two_pow (n := 32)
  rw [show (a * 4294967296 + b) / 4294967296 = a by omega, show (c * 4294967296 + d) / 4294967296 = c by omega] at e1
  rw [show (a * 4294967296 + b) % 4294967296 = b by omega, show (c * 4294967296 + d) % 4294967296 = d by omega] at e2
  apply Wd.ext'
  · simp only
    rw [← e1]
    omega
  · simp only
    rw [← e2]
    omega
theorem less_bits {x y : Wd} (hx : wdRight x = true) (hy : wdRight y = true) : decide (bitsW x < bitsW y) = wdLess0 x y := by
  obtain ⟨⟨a0, a1⟩, ⟨b0, b1⟩⟩ := wdRight_bd hx
  obtain ⟨⟨c0, c1⟩, ⟨d0, d1⟩⟩ := wdRight_bd hy
  rw [bitsW_right hx, bitsW_right hy, Bool.eq_iff_iff]
  unfold wdLess0
  simp only [decide_eq_true_eq, Bool.or_eq_true, Bool.and_eq_true, beq_iff_eq]
  omega

theorem implWordRight_any (h l : Int) (w : World) : Calls Try.prog 28 #[.agg #[.int .i64 h, .int .i64 l]] w fun e w' =>
    e = .returned (.bool (wdRight ⟨h, l⟩)) ∧ Below w.heap.size w w' := by
  by_cases h0 : isB h 0 4294967295 = true
  all_goals
    go_enter Try.func28, Try.ntmps28
    go_wp2_with (go_at_call 56; refine (within_any _ _ _).mono ?_; rintro e w' ⟨rfl, rfl⟩)
    go_ret
    exact ⟨ret_bool (by simp [wdRight, *]), (Below.refl _ _).alloc (Nat.le_refl _) _⟩

theorem bitsOf_any (h l : Int) (w : World) : Calls Try.prog 53 #[.agg #[.int .i64 h, .int .i64 l]] w fun e w' =>
    e = .returned (.int .u64 (bitsW ⟨h, l⟩)) ∧ Below w.heap.size w w' := by
  have HO := Lib.hid (or_halves h l)
  go_enter Try.func53, Try.ntmps53
  go_wp2
  go_ret
  exact ⟨ret_int HO.out, (Below.refl _ _).alloc (Nat.le_refl _) _⟩

theorem wordOf_any (u : Int) (w : World) (h0 : 0 ≤ u) (h1 : u ≤ 18446744073709551615) : Calls Try.prog 52 #[.int .u64 u] w fun e w' =>
    e = .returned (.agg #[.int .i64 (halves u).h, .int .i64 (halves u).l]) ∧ Below w.heap.size w w' := by
  go_enter Try.func52, Try.ntmps52
  go_wp2
  exact bodyPost_ret (v := .agg #[.int .i64 (u / 4294967296), .int .i64 (u % 4294967296)]) (by simp [results, Try.results52, go_sem]) rfl ⟨rfl, (Below.refl _ _).alloc (Nat.le_refl _) _⟩

set_option maxHeartbeats 800000 in
theorem implWordLess_any (h l h' l' : Int) (w : World) : Calls Try.prog 21 #[.agg #[.int .i64 h, .int .i64 l], .agg #[.int .i64 h', .int .i64 l']] w fun e w' =>
    e = .returned (.bool (wdLess ⟨h, l⟩ ⟨h', l'⟩)) ∧ Below w.heap.size w w' := by
  have q1 := fun W => implWordRight_any h l W
  have q2 := fun W => implWordRight_any h' l' W
  have q3 := fun W => bitsOf_any h l W
  have q4 := fun W => bitsOf_any h' l' W
  have hkeep : ∀ W : World, Below ((w.alloc (.cells #[.int .i64 h, .int .i64 l] 24)).alloc (.cells #[.int .i64 h', .int .i64 l'] 24)).heap.size ((w.alloc (.cells #[.int .i64 h, .int .i64 l] 24)).alloc (.cells #[.int .i64 h', .int .i64 l'] 24)) W → (W.cell? ⟨w.heap.size, 0, none⟩ = some (.int .i64 h) ∧ W.cell? ⟨w.heap.size, 1, none⟩ = some (.int .i64 l) ∧ W.cell? ⟨w.heap.size + 1, 0, none⟩ = some (.int .i64 h') ∧ W.cell? ⟨w.heap.size + 1, 1, none⟩ = some (.int .i64 l')) := fun W hb => ⟨(box2 hb).1 0, (box2 hb).1 1, (box2 hb).2.1 0, (box2 hb).2.1 1⟩
  have HK := Lib.hid hkeep
  clear hkeep
  have hbw0 : Below ((w.alloc (.cells #[.int .i64 h, .int .i64 l] 24)).alloc (.cells #[.int .i64 h', .int .i64 l'] 24)).heap.size ((w.alloc (.cells #[.int .i64 h, .int .i64 l] 24)).alloc (.cells #[.int .i64 h', .int .i64 l'] 24)) ((w.alloc (.cells #[.int .i64 h, .int .i64 l] 24)).alloc (.cells #[.int .i64 h', .int .i64 l'] 24)).drew := (Below.refl _ _).drew
  have hd : wdLess ⟨h, l⟩ ⟨h', l'⟩ = (wdRight ⟨h, l⟩ && wdRight ⟨h', l'⟩ && wdLess0 ⟨h, l⟩ ⟨h', l'⟩) := rfl
  cases ha : wdRight ⟨h, l⟩ <;> cases hb : wdRight ⟨h', l'⟩ <;> simp only [ha, hb, Bool.false_and, Bool.and_false, Bool.true_and] at q1 q2 hd
  all_goals try rw [← less_bits ha hb] at hd
  all_goals
    generalize bitsW ⟨h, l⟩ = u1 at *
    generalize bitsW ⟨h', l'⟩ = u2 at *
    have Q1 := Lib.hid q1
    have Q2 := Lib.hid q2
    have Q3 := Lib.hid q3
    have Q4 := Lib.hid q4
    have HD := Lib.hid hd
    clear q1 q2 q3 q4 hd ha hb
    go_enter Try.func21, Try.ntmps21
    go_wp2_with fail
  · go_region_with (go_at_call 28; (with_reducible refine (Q1.out _).mono ?_); rintro e w1 ⟨rfl, hb1⟩; have hbw1 := hbw0.trans (hb1.mono hbw0.size); obtain ⟨c0, c1, d0, d1⟩ := HK.out _ hbw1)
    all_goals
      go_wp2_with fail
      go_ret
      exact ⟨ret_bool HD.out.symm, (rows2 hbw1).2.2.1⟩
  · go_region_with (go_at_call 28; (with_reducible refine (Q1.out _).mono ?_); rintro e w1 ⟨rfl, hb1⟩; have hbw1 := hbw0.trans (hb1.mono hbw0.size); obtain ⟨c0, c1, d0, d1⟩ := HK.out _ hbw1)
    all_goals
      go_wp2_with fail
      go_ret
      exact ⟨ret_bool HD.out.symm, (rows2 hbw1).2.2.1⟩
  · go_region_with (first | (go_at_call 28; (with_reducible refine (Q1.out _).mono ?_); rintro e w1 ⟨rfl, hb1⟩; have hbw1 := hbw0.trans (hb1.mono hbw0.size); obtain ⟨c0, c1, d0, d1⟩ := HK.out _ hbw1) | (go_at_call 28; (with_reducible refine (Q2.out _).mono ?_); rintro e w2 ⟨rfl, hb2⟩; have hbw2 := hbw1.trans (hb2.mono hbw1.size)))
    all_goals
      go_wp2_with fail
      go_ret
      exact ⟨ret_bool HD.out.symm, (rows2 hbw2).2.2.1⟩
  · go_region_held3 (fun w' => w'.cell? ⟨w.heap.size, 0, none⟩ = some (.int .i64 h) ∧ w'.cell? ⟨w.heap.size, 1, none⟩ = some (.int .i64 l) ∧ w'.cell? ⟨w.heap.size + 1, 0, none⟩ = some (.int .i64 h') ∧ w'.cell? ⟨w.heap.size + 1, 1, none⟩ = some (.int .i64 l'))
      (first | go_keep | exact HK.out _ hbw4 | exact HK.out _ hbw3 | exact HK.out _ hbw2 | exact HK.out _ hbw1 | exact HK.out _ hbw0)
      (first
        | (go_at_call 28; (with_reducible refine (Q1.out _).mono ?_); rintro e w1 ⟨rfl, hb1⟩; have hbw1 := hbw0.trans (hb1.mono hbw0.size))
        | (go_at_call 28; (with_reducible refine (Q2.out _).mono ?_); rintro e w2 ⟨rfl, hb2⟩; have hbw2 := hbw1.trans (hb2.mono hbw1.size))
        | (go_at_call 53; (with_reducible refine (Q3.out _).mono ?_); rintro e w3 ⟨rfl, hb3⟩; have hbw3 := hbw2.trans (hb3.mono hbw2.size))
        | (go_at_call 53; (with_reducible refine (Q4.out _).mono ?_); rintro e w4 ⟨rfl, hb4⟩; have hbw4 := hbw3.trans (hb4.mono hbw3.size)))
    have HE := Lib.hid hbw4
    clear hbw0 hbw1 hbw2 hbw3 hbw4 hb1 hb2 hb3 hb4
    go_wp2_with fail
    go_ret
    exact ⟨ret_bool HD.out.symm, (rows2 HE.out).2.2.1⟩

set_option maxHeartbeats 800000 in
theorem implWordAnd_any (h l h' l' : Int) (w : World) : Calls Try.prog 17 #[.agg #[.int .i64 h, .int .i64 l], .agg #[.int .i64 h', .int .i64 l']] w fun e w' =>
    e = .returned (.agg #[.int .i64 (wdAnd ⟨h, l⟩ ⟨h', l'⟩).h, .int .i64 (wdAnd ⟨h, l⟩ ⟨h', l'⟩).l]) ∧ Below w.heap.size w w' := by
  have q1 := fun W => implWordRight_any h l W
  have q2 := fun W => implWordRight_any h' l' W
  have q3 := fun W => bitsOf_any h l W
  have q4 := fun W => bitsOf_any h' l' W
  have hd : wdAnd ⟨h, l⟩ ⟨h', l'⟩ = if wdRight ⟨h, l⟩ && wdRight ⟨h', l'⟩ then ⟨andI h h', andI l l'⟩ else ⟨0, 0⟩ := rfl
  cases ha : wdRight ⟨h, l⟩ <;> cases hb : wdRight ⟨h', l'⟩ <;> simp only [ha, hb, Bool.false_and, Bool.and_false, Bool.and_self, if_true, Bool.false_eq_true, if_false] at q1 q2 hd <;> rw [hd]
  · have Q1 := Lib.hid q1
    clear q1 q2 q3 q4 hd ha hb
    go_enter Try.func17, Try.ntmps17
    go_wp2_with fail
    refine (Q1.out _).mono ?_
    rintro e w1 ⟨rfl, hb1⟩
    have HB1 := Lib.hid hb1
    clear hb1
    obtain ⟨hc, hdd, he, hf, hB⟩ := boxes3 HB1.out
    have HX1 := Lib.hid hB
    have c0 := hc 0
    have c1 := hc 1
    have d0 := hdd 0
    have d1 := hdd 1
    have e0 := he 0
    have e1 := he 1
    have f0 := hf 0
    have f1 := hf 1
    simp only [List.getElem?_toArray, List.getElem?_cons_zero, List.getElem?_cons_succ] at c0 c1 d0 d1 e0 e1
    clear hc hdd he hf hB
    go_wp2_with fail
    exact bodyPost_ret (v := .agg #[.int .i64 0, .int .i64 0]) (by simp [results, Try.results17, go_sem, e0, e1]) rfl ⟨rfl, (HX1.out.setCell (by simp; omega) _).setCell (by simp; omega) _⟩
  · have Q1 := Lib.hid q1
    clear q1 q2 q3 q4 hd ha hb
    go_enter Try.func17, Try.ntmps17
    go_wp2_with fail
    refine (Q1.out _).mono ?_
    rintro e w1 ⟨rfl, hb1⟩
    have HB1 := Lib.hid hb1
    clear hb1
    obtain ⟨hc, hdd, he, hf, hB⟩ := boxes3 HB1.out
    have HX1 := Lib.hid hB
    have c0 := hc 0
    have c1 := hc 1
    have d0 := hdd 0
    have d1 := hdd 1
    have e0 := he 0
    have e1 := he 1
    have f0 := hf 0
    have f1 := hf 1
    simp only [List.getElem?_toArray, List.getElem?_cons_zero, List.getElem?_cons_succ] at c0 c1 d0 d1 e0 e1
    clear hc hdd he hf hB
    go_wp2_with fail
    exact bodyPost_ret (v := .agg #[.int .i64 0, .int .i64 0]) (by simp [results, Try.results17, go_sem, e0, e1]) rfl ⟨rfl, (HX1.out.setCell (by simp; omega) _).setCell (by simp; omega) _⟩
  · have Q1 := Lib.hid q1
    have Q2 := Lib.hid q2
    clear q1 q2 q3 q4 hd ha hb
    go_enter Try.func17, Try.ntmps17
    go_wp2_with fail
    refine (Q1.out _).mono ?_
    rintro e w1 ⟨rfl, hb1⟩
    have HB1 := Lib.hid hb1
    clear hb1
    obtain ⟨hc, hdd, he, hf, hB⟩ := boxes3 HB1.out
    have HX1 := Lib.hid hB
    have c0 := hc 0
    have c1 := hc 1
    have d0 := hdd 0
    have d1 := hdd 1
    have e0 := he 0
    have e1 := he 1
    have f0 := hf 0
    have f1 := hf 1
    simp only [List.getElem?_toArray, List.getElem?_cons_zero, List.getElem?_cons_succ] at c0 c1 d0 d1 e0 e1
    clear hc hdd he hf hB
    go_wp2_with fail
    clear c0 c1 d0 d1 e0 e1 f0 f1
    refine (Q2.out _).mono ?_
    rintro e w2 ⟨rfl, hb2⟩
    have HB2 := Lib.hid (HB1.out.trans (hb2.mono HB1.out.size))
    clear hb2
    obtain ⟨hc, hdd, he, hf, hB⟩ := boxes3 HB2.out
    have HX2 := Lib.hid hB
    have c0 := hc 0
    have c1 := hc 1
    have d0 := hdd 0
    have d1 := hdd 1
    have e0 := he 0
    have e1 := he 1
    have f0 := hf 0
    have f1 := hf 1
    simp only [List.getElem?_toArray, List.getElem?_cons_zero, List.getElem?_cons_succ] at c0 c1 d0 d1 e0 e1
    clear hc hdd he hf hB
    go_wp2_with fail
    exact bodyPost_ret (v := .agg #[.int .i64 0, .int .i64 0]) (by simp [results, Try.results17, go_sem, e0, e1]) rfl ⟨rfl, (HX2.out.setCell (by simp; omega) _).setCell (by simp; omega) _⟩
  · have he := and_halves ha hb
    have hb1 := bitsW_bd ⟨h, l⟩
    have hb2 := bitsW_bd ⟨h', l'⟩
    generalize bitsW ⟨h, l⟩ = u1 at *
    generalize bitsW ⟨h', l'⟩ = u2 at *
    have hu : 0 ≤ bits .and .u64 u1 u2 ∧ bits .and .u64 u1 u2 ≤ 18446744073709551615 := by
      obtain ⟨n1, rfl⟩ := Int.eq_ofNat_of_zero_le hb1.1
      obtain ⟨n2, rfl⟩ := Int.eq_ofNat_of_zero_le hb2.1
      rw [and_u64_nat _ _ (by omega) (by omega)]
      have := Nat.and_le_left (n := n1) (m := n2)
      omega
    have q5 := fun W => wordOf_any (bits .and .u64 u1 u2) W hu.1 hu.2
    simp only [he] at q5
    simp only
    obtain ⟨x, hx⟩ : ∃ x, x = andI h h' := ⟨_, rfl⟩
    obtain ⟨y, hy⟩ : ∃ y, y = andI l l' := ⟨_, rfl⟩
    rw [← hx, ← hy] at q5 ⊢
    have Q1 := Lib.hid q1
    have Q2 := Lib.hid q2
    have Q3 := Lib.hid q3
    have Q4 := Lib.hid q4
    have Q5 := Lib.hid q5
    have hkeep : ∀ W : World, Below (((w.alloc (.cells #[.int .i64 h, .int .i64 l] 24)).alloc (.cells #[.int .i64 h', .int .i64 l'] 24)).alloc (.cells #[.int .i64 0, .int .i64 0] 24)).heap.size (((w.alloc (.cells #[.int .i64 h, .int .i64 l] 24)).alloc (.cells #[.int .i64 h', .int .i64 l'] 24)).alloc (.cells #[.int .i64 0, .int .i64 0] 24)) W → (W.cell? ⟨w.heap.size, 0, none⟩ = some (.int .i64 h) ∧ W.cell? ⟨w.heap.size, 1, none⟩ = some (.int .i64 l) ∧ W.cell? ⟨w.heap.size + 1, 0, none⟩ = some (.int .i64 h') ∧ W.cell? ⟨w.heap.size + 1, 1, none⟩ = some (.int .i64 l')) := fun W hb => ⟨(boxes3 hb).1 0, (boxes3 hb).1 1, (boxes3 hb).2.1 0, (boxes3 hb).2.1 1⟩
    have HK := Lib.hid hkeep
    have hres : ∀ W : World, Below (((w.alloc (.cells #[.int .i64 h, .int .i64 l] 24)).alloc (.cells #[.int .i64 h', .int .i64 l'] 24)).alloc (.cells #[.int .i64 0, .int .i64 0] 24)).heap.size (((w.alloc (.cells #[.int .i64 h, .int .i64 l] 24)).alloc (.cells #[.int .i64 h', .int .i64 l'] 24)).alloc (.cells #[.int .i64 0, .int .i64 0] 24)) W → (W.cell? ⟨w.heap.size + 1 + 1, 0, none⟩ = some (.int .i64 0) ∧ W.cell? ⟨w.heap.size + 1 + 1, 1, none⟩ = some (.int .i64 0) ∧ W.frozen? ⟨w.heap.size + 1 + 1, 0, none⟩ = false ∧ W.frozen? ⟨w.heap.size + 1 + 1, 1, none⟩ = false) := fun W hb => ⟨(boxes3 hb).2.2.1 0, (boxes3 hb).2.2.1 1, (boxes3 hb).2.2.2.1 0, (boxes3 hb).2.2.2.1 1⟩
    have HR := Lib.hid hres
    have hst : ∀ (W : World) (a b : Value), Below (((w.alloc (.cells #[.int .i64 h, .int .i64 l] 24)).alloc (.cells #[.int .i64 h', .int .i64 l'] 24)).alloc (.cells #[.int .i64 0, .int .i64 0] 24)).heap.size (((w.alloc (.cells #[.int .i64 h, .int .i64 l] 24)).alloc (.cells #[.int .i64 h', .int .i64 l'] 24)).alloc (.cells #[.int .i64 0, .int .i64 0] 24)) W → (((W.setCell ⟨w.heap.size + 1 + 1, 0, none⟩ a).setCell ⟨w.heap.size + 1 + 1, 1, none⟩ b).cell? ⟨w.heap.size, 0, none⟩ = some (.int .i64 h) ∧ ((W.setCell ⟨w.heap.size + 1 + 1, 0, none⟩ a).setCell ⟨w.heap.size + 1 + 1, 1, none⟩ b).cell? ⟨w.heap.size, 1, none⟩ = some (.int .i64 l) ∧ ((W.setCell ⟨w.heap.size + 1 + 1, 0, none⟩ a).setCell ⟨w.heap.size + 1 + 1, 1, none⟩ b).cell? ⟨w.heap.size + 1, 0, none⟩ = some (.int .i64 h') ∧ ((W.setCell ⟨w.heap.size + 1 + 1, 0, none⟩ a).setCell ⟨w.heap.size + 1 + 1, 1, none⟩ b).cell? ⟨w.heap.size + 1, 1, none⟩ = some (.int .i64 l')) := fun W a b hb => by
      have hb2 : Below ((w.alloc (.cells #[.int .i64 h, .int .i64 l] 24)).alloc (.cells #[.int .i64 h', .int .i64 l'] 24)).heap.size ((w.alloc (.cells #[.int .i64 h, .int .i64 l] 24)).alloc (.cells #[.int .i64 h', .int .i64 l'] 24)) W := ((Below.refl _ _).alloc (Nat.le_refl _) _).trans (hb.mono (by simp))
      have hb' := (hb2.setCell (p := ⟨w.heap.size + 1 + 1, 0, none⟩) (by simp) a).setCell (p := ⟨w.heap.size + 1 + 1, 1, none⟩) (by simp) b
      exact ⟨(box2 hb').1 0, (box2 hb').1 1, (box2 hb').2.1 0, (box2 hb').2.1 1⟩
    have HST := Lib.hid hst
    clear hst
    clear hres hkeep q1 q2 q3 q4 q5 hd ha hb he hb1 hb2 hu hx hy
    go_enter Try.func17, Try.ntmps17
    go_wp2_with fail
    refine (Q1.out _).mono ?_
    rintro e w1 ⟨rfl, hb1⟩
    have HB1 := Lib.hid hb1
    clear hb1
    obtain ⟨hc, hdd, he, hf, hB⟩ := boxes3 HB1.out
    have HX1 := Lib.hid hB
    have c0 := hc 0
    have c1 := hc 1
    have d0 := hdd 0
    have d1 := hdd 1
    have e0 := he 0
    have e1 := he 1
    have f0 := hf 0
    have f1 := hf 1
    simp only [List.getElem?_toArray, List.getElem?_cons_zero, List.getElem?_cons_succ] at c0 c1 d0 d1 e0 e1
    clear hc hdd he hf hB
    go_wp2_with fail
    clear c0 c1 d0 d1 e0 e1 f0 f1
    refine (Q2.out _).mono ?_
    rintro e w2 ⟨rfl, hb2⟩
    have HB2 := Lib.hid (HB1.out.trans (hb2.mono HB1.out.size))
    clear hb2
    obtain ⟨hc, hdd, he, hf, hB⟩ := boxes3 HB2.out
    have HX2 := Lib.hid hB
    have c0 := hc 0
    have c1 := hc 1
    have d0 := hdd 0
    have d1 := hdd 1
    have e0 := he 0
    have e1 := he 1
    have f0 := hf 0
    have f1 := hf 1
    simp only [List.getElem?_toArray, List.getElem?_cons_zero, List.getElem?_cons_succ] at c0 c1 d0 d1 e0 e1
    clear hc hdd he hf hB
    clear e0 e1 f0 f1
    have hbw3 := HB2.out.drew
    go_wp2_with fail
    go_region_held3 (fun w' => w'.cell? ⟨w.heap.size, 0, none⟩ = some (.int .i64 h) ∧ w'.cell? ⟨w.heap.size, 1, none⟩ = some (.int .i64 l) ∧ w'.cell? ⟨w.heap.size + 1, 0, none⟩ = some (.int .i64 h') ∧ w'.cell? ⟨w.heap.size + 1, 1, none⟩ = some (.int .i64 l'))
      (first | exact HST.out _ _ _ hbw6 | go_keep | exact HK.out _ hbw6 | exact HK.out _ hbw5 | exact HK.out _ hbw4 | exact HK.out _ hbw3)
      (first
        | (go_at_call 53; (with_reducible refine (Q3.out _).mono ?_); rintro e w3 ⟨rfl, hb3⟩; have hbw4 := hbw3.trans (hb3.mono hbw3.size))
        | (go_at_call 53; (with_reducible refine (Q4.out _).mono ?_); rintro e w4 ⟨rfl, hb4⟩; have hbw5 := hbw4.trans (hb4.mono hbw4.size))
        | (go_at_call 52; (with_reducible refine (Q5.out _).mono ?_); rintro e w5 ⟨rfl, hb5⟩; have hbw6 := hbw5.trans (hb5.mono hbw5.size); obtain ⟨e0, e1, f0, f1⟩ := HR.out _ hbw6))
    all_goals
      have HX := Lib.hid (boxes3 hbw6).2.2.2.2
      clear hbw3 hbw4 hbw5 hbw6 hb3 hb4 hb5 c0 c1 d0 d1
      go_wp2_with fail
      exact bodyPost_ret (v := .agg #[.int .i64 x, .int .i64 y]) (by simp [results, Try.results17, go_sem, e0, e1]) rfl ⟨rfl, (HX.out.setCell (by simp; omega) _).setCell (by simp; omega) _⟩

theorem implLoad_any (s : ByteArray) (z : Int) (w : World) (hs : s.size ≤ maxLen) (hz0 : -9223372036854775808 ≤ z) (hz1 : z ≤ 9223372036854775807) : Calls Try.prog 24 #[.string s, .int .i64 z] w fun e w' =>
    e = .returned (.int .i64 (loadB s z)) ∧ w = w' := by
  have hs' := hs
  unfold maxLen at hs
  by_cases h1 : s.size = 64
  · have q : ((s.size : Int) != 64) = false := by rw [h1]; rfl
    have H1 := Lib.hid h1
    by_cases h2 : 0 ≤ z ∧ z ≤ 60
    · have hi := isB_yes h2.1 h2.2
      obtain ⟨n, rfl⟩ := Int.eq_ofNat_of_zero_le h2.1
      have hn : n ≤ 60 := by omega
      by_cases h3 : n % 4 = 0
      · have HL := Lib.hid (loadB_yes (s := s) (z := (n : Int)) ⟨h1, by omega, by omega, by omega⟩)
        have q3 : ((n : Int) % 4 != 0) = false := by simp; omega
        have hsz : (s.extract n s.size).size = s.size - n := by rw [ByteArray.size_extract]; omega
        have qq := fun W => lowNum_any ((s.extract n s.size).extract 0 4) W (by rw [ByteArray.size_extract]; omega)
        have he : ((s.extract n s.size).extract 0 4).data.toList = bytesAt s n 4 := by
          rw [Lib.extract_data, Lib.extract_data]
          unfold bytesAt
          simp only [List.drop_zero, Nat.sub_zero]
          rw [List.take_take, Nat.min_eq_left (by omega)]
        rw [he] at qq
        have QQ := Lib.hid qq
        have hb : (n : Int) ≤ (s.size : Int) := by omega
        have hb2 : (4 : Int) ≤ ((s.size - n : Nat) : Int) := by omega
        clear h1 h2 qq he
        go_enter Try.func24, Try.ntmps24
        go_wp2_with (first | (go_at_call 56; refine (within_any _ _ _).mono ?_; rintro e w' ⟨rfl, rfl⟩) | (go_at_call 57; refine (QQ.out _).mono ?_; rintro e w' ⟨rfl, rfl⟩))
        go_ret
        exact ⟨ret_int (by rw [HL.out]; rfl), rfl⟩
      · have HL := Lib.hid (loadB_no (s := s) (z := (n : Int)) (by omega))
        have q3 : ((n : Int) % 4 != 0) = true := by simp; omega
        clear h1 h2
        go_enter Try.func24, Try.ntmps24
        go_wp2_with (first | (go_at_call 56; refine (within_any _ _ _).mono ?_; rintro e w' ⟨rfl, rfl⟩))
        go_ret
        exact ⟨ret_int HL.out.symm, rfl⟩
    · have hi := isB_no (n := z) (lo := 0) (hi := 60) h2
      have HL := Lib.hid (loadB_no (s := s) (z := z) (by omega))
      clear h1
      go_enter Try.func24, Try.ntmps24
      go_wp2_with (first | (go_at_call 56; refine (within_any _ _ _).mono ?_; rintro e w' ⟨rfl, rfl⟩))
      go_ret
      exact ⟨ret_int HL.out.symm, rfl⟩
  · have q : ((s.size : Int) != 64) = true := by simp; omega
    have HL := Lib.hid (loadB_no (s := s) (z := z) (by omega))
    go_enter Try.func24, Try.ntmps24
    go_wp2
    go_ret
    exact ⟨ret_int HL.out.symm, rfl⟩

end Go.Proofs.Ytgcfnmaojdnchaa

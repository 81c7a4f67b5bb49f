/- Walks of the program's words of two halves: WordRight, bitsOf, wordOf, WordLess, WordAnd, Load. -/
import Derived.Test.YtmnmaijifhojiaaWd
import Derived.Test.YtmnmaijifhojiaaPr
import Derived.Test.YtmnmaijifhojiaaPw
import Derived.Deep.RegionHeld3
import Derived.Deep.DrawnRows
set_option maxRecDepth 100000
namespace Go.Proofs.Ytmnmaijifhojiaa
open Go.RowKit
attribute [local go_sem ↓] Go.wp_at_zero Go.wp_at_succ

/-- The number of 64 bits of two halves, each cut to 32. -/
def bitsW (x : Wd) : Int := (x.h % 4294967296) * 4294967296 + x.l % 4294967296
def halves (u : Int) : Wd := ⟨u / 4294967296, u % 4294967296⟩
theorem bitsW_bd (x : Wd) : 0 ≤ bitsW x ∧ bitsW x ≤ 18446744073709551615 := by unfold bitsW; omega
theorem halves_right (u : Int) (h0 : 0 ≤ u) (h1 : u ≤ 18446744073709551615) : wdRight (halves u) = true := by
  unfold wdRight halves isB
  simp only [Bool.and_eq_true, decide_eq_true_eq]
  omega
theorem wdRight_bd {x : Wd} (h : wdRight x = true) : (0 ≤ x.h ∧ x.h ≤ 4294967295) ∧ (0 ≤ x.l ∧ x.l ≤ 4294967295) := by
  unfold wdRight isB at h
  simpa [and_assoc] using h
theorem bitsW_right {x : Wd} (h : wdRight x = true) : bitsW x = x.h * 4294967296 + x.l := by
  have := wdRight_bd h
  unfold bitsW
  omega
/-- A word is right just if it is what its bits are taken apart to. -/
theorem halves_bitsW (x : Wd) : halves (bitsW x) = x ↔ wdRight x = true := by
  constructor
  · intro h
    rw [← h]
    exact halves_right _ (bitsW_bd x).1 (bitsW_bd x).2
  · intro h
    have := wdRight_bd h
    rw [bitsW_right h]
    apply Wd.ext' <;> simp only [halves] <;> omega
theorem or_u64_nat (a b : Nat) (ha : a < 18446744073709551616) (hb : b < 18446744073709551616) : bits .or .u64 (a : Int) (b : Int) = ((a ||| b : Nat) : Int) := by
  have hx : a ||| b < 2 ^ 64 := Nat.or_lt_two_pow (by omega) (by omega)
  show IntKind.u64.wrap ((BitVec.ofInt 64 (a : Int) ||| BitVec.ofInt 64 (b : Int)).toNat : Int) = _
  rw [BitVec.toNat_or, ofInt_toNat 64 a (by omega), ofInt_toNat 64 b (by omega), IntKind.wrap_u64]
  omega
theorem and_u64_nat (a b : Nat) (ha : a < 18446744073709551616) (hb : b < 18446744073709551616) : bits .and .u64 (a : Int) (b : Int) = ((a &&& b : Nat) : Int) := by
  have hx : a &&& b < 2 ^ 64 := Nat.and_lt_two_pow _ (by omega)
  show IntKind.u64.wrap ((BitVec.ofInt 64 (a : Int) &&& BitVec.ofInt 64 (b : Int)).toNat : Int) = _
  rw [BitVec.toNat_and, ofInt_toNat 64 a (by omega), ofInt_toNat 64 b (by omega), IntKind.wrap_u64]
  omega
theorem or_halves (h l : Int) : bits .or .u64 ((h % 4294967296) * 4294967296) (l % 4294967296) = bitsW ⟨h, l⟩ := by
  obtain ⟨a, ha⟩ := Int.eq_ofNat_of_zero_le (show 0 ≤ h % 4294967296 by omega)
  obtain ⟨b, hb⟩ := Int.eq_ofNat_of_zero_le (show 0 ≤ l % 4294967296 by omega)
  have h1 : a < 4294967296 := by omega
  have h2 : b < 4294967296 := by omega
  have ho := or_low 4 b a (by simpa using h2)
  unfold bitsW
  simp only [ha, hb]
  rw [show (a : Int) * 4294967296 = ((a * 4294967296 : Nat) : Int) by simp, or_u64_nat _ _ (by omega) (by omega), Nat.or_comm]
  rw [show a * 4294967296 = a * 256 ^ 4 from rfl, ho]
  show ((b + a * 4294967296 : Nat) : Int) = _
  omega
theorem and_halves {x y : Wd} (hx : wdRight x = true) (hy : wdRight y = true) : halves (bits .and .u64 (bitsW x) (bitsW y)) = ⟨andI x.h y.h, andI x.l y.l⟩ := by
  obtain ⟨⟨a0, a1⟩, ⟨b0, b1⟩⟩ := wdRight_bd hx
  obtain ⟨⟨c0, c1⟩, ⟨d0, d1⟩⟩ := wdRight_bd hy
  rw [bitsW_right hx, bitsW_right hy]
  obtain ⟨h, l⟩ := x
  obtain ⟨h', l'⟩ := y
  simp only at a0 a1 b0 b1 c0 c1 d0 d1 ⊢
  obtain ⟨a, rfl⟩ := Int.eq_ofNat_of_zero_le a0
  obtain ⟨b, rfl⟩ := Int.eq_ofNat_of_zero_le b0
  obtain ⟨c, rfl⟩ := Int.eq_ofNat_of_zero_le c0
  obtain ⟨d, rfl⟩ := Int.eq_ofNat_of_zero_le d0
  rw [show (a : Int) * 4294967296 + (b : Int) = ((a * 4294967296 + b : Nat) : Int) by omega, show (c : Int) * 4294967296 + (d : Int) = ((c * 4294967296 + d : Nat) : Int) by omega, and_u64_nat _ _ (by omega) (by omega)]
  unfold andI halves
  rw [and_i64_nat _ _ (by omega) (by omega), and_i64_nat _ _ (by omega) (by omega)]
  have e1 : (((a * 4294967296 + b) &&& (c * 4294967296 + d)) / 4294967296 : Nat) = ((a * 4294967296 + b) / 4294967296) &&& ((c * 4294967296 + d) / 4294967296) := Nat.and_div_two_pow (n := 32)
  have e2 : (((a * 4294967296 + b) &&& (c * 4294967296 + d)) % 4294967296 : Nat) = ((a * 4294967296 + b) % 4294967296) &&& ((c * 4294967296 + d) % 4294967296) := Nat.and_mod_two_pow (n := 32)
  rw [show (a * 4294967296 + b) / 4294967296 = a by omega, show (c * 4294967296 + d) / 4294967296 = c by omega] at e1
  rw [show (a * 4294967296 + b) % 4294967296 = b by omega, show (c * 4294967296 + d) % 4294967296 = d by omega] at e2
  apply Wd.ext'
  · simp only
    rw [← e1]
    omega
  · simp only
    rw [← e2]
    omega
theorem less_bits {x y : Wd} (hx : wdRight x = true) (hy : wdRight y = true) : decide (bitsW x < bitsW y) = wdLess0 x y := by
  obtain ⟨⟨a0, a1⟩, ⟨b0, b1⟩⟩ := wdRight_bd hx
  obtain ⟨⟨c0, c1⟩, ⟨d0, d1⟩⟩ := wdRight_bd hy
  rw [bitsW_right hx, bitsW_right hy, Bool.eq_iff_iff]
  unfold wdLess0
  simp only [decide_eq_true_eq, Bool.or_eq_true, Bool.and_eq_true, beq_iff_eq]
  omega

theorem implWordRight_any (h l : Int) (w : World) : Calls Try.prog 62 #[.agg #[.int .i64 h, .int .i64 l]] w fun e w' =>
    e = .returned (.bool (wdRight ⟨h, l⟩)) ∧ Below w.heap.size w w' := by
  by_cases h0 : isB h 0 4294967295 = true
  all_goals
    go_enter Try.func62, Try.ntmps62
    go_wp2_with (go_at_call 77; refine (within_any _ _ _).mono ?_; rintro e w' ⟨rfl, rfl⟩)
    go_ret
    exact ⟨ret_bool (by simp [wdRight, *]), (Below.refl _ _).alloc (Nat.le_refl _) _⟩

theorem bitsOf_any (h l : Int) (w : World) : Calls Try.prog 64 #[.agg #[.int .i64 h, .int .i64 l]] w fun e w' =>
    e = .returned (.int .u64 (bitsW ⟨h, l⟩)) ∧ Below w.heap.size w w' := by
  have HO := Lib.hid (or_halves h l)
  go_enter Try.func64, Try.ntmps64
  go_wp2
  go_ret
  exact ⟨ret_int HO.out, (Below.refl _ _).alloc (Nat.le_refl _) _⟩

theorem wordOf_any (u : Int) (w : World) (h0 : 0 ≤ u) (h1 : u ≤ 18446744073709551615) : Calls Try.prog 114 #[.int .u64 u] w fun e w' =>
    e = .returned (.agg #[.int .i64 (halves u).h, .int .i64 (halves u).l]) ∧ Below w.heap.size w w' := by
  go_enter Try.func114, Try.ntmps114
  go_wp2
  exact bodyPost_ret (v := .agg #[.int .i64 (u / 4294967296), .int .i64 (u % 4294967296)]) (by simp [results, Try.results114, go_sem]) rfl ⟨rfl, (Below.refl _ _).alloc (Nat.le_refl _) _⟩

end Go.Proofs.Ytmnmaijifhojiaa

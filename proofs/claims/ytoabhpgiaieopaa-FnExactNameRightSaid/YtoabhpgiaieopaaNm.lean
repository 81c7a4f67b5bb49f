/- Walks: NameRight in the model and in the program, both against one plain function. -/
import Derived.Test.YtoabhpgiaieopaaRows
import Derived.WalkKit
import Derived.WalkSpells
import Derived.WalkLawsBesides
import Derived.Lib.Hide
import Derived.Deep.Light
namespace Go.Proofs.Ytoabhpgiaieopaa
open Go.RowKit

theorem ret_bool {a b : Bool} (h : a = b) : Ending.returned (.bool a) = .returned (.bool b) := by rw [h]

def isLetter (b : Int) : Bool := decide (97 ≤ b) && decide (b ≤ 122)
def isDigit (b : Int) : Bool := decide (48 ≤ b) && decide (b ≤ 57)
def goodAt (k : Nat) (b : Int) : Bool := isLetter b || (decide (k ≠ 0) && (isDigit b || b == 95))
def byteAt (s : ByteArray) (k : Nat) : Int := ((s.data.toList.getD k 0).toNat : Int)
theorem byteAt_eq (s : ByteArray) (k : Nat) (h : k < s.size) : byteAt s k = (s[k].toNat : Int) := by
  unfold byteAt
  have : k < s.data.toList.length := by simpa using h
  simp [List.getD_eq_getElem?_getD, List.getElem?_eq_getElem this]
  rfl
def nameOk (s : ByteArray) : Prop := 1 ≤ s.size ∧ s.size ≤ 20 ∧ ∀ j, j < s.size → goodAt j (byteAt s j) = true
noncomputable def nameOkB (s : ByteArray) : Bool := @decide (nameOk s) (Classical.propDecidable _)
theorem nameOkB_true {s : ByteArray} (h : nameOk s) : nameOkB s = true := by unfold nameOkB; exact @decide_eq_true _ (Classical.propDecidable _) h
theorem nameOkB_false {s : ByteArray} (h : ¬ nameOk s) : nameOkB s = false := by unfold nameOkB; exact @decide_eq_false _ (Classical.propDecidable _) h

theorem allGood_succ {s : ByteArray} {k : Nat} (h : ∀ j, j < k → goodAt j (byteAt s j) = true) (hk : goodAt k (byteAt s k) = true) :
    ∀ j, j < k + 1 → goodAt j (byteAt s j) = true := by
  intro j hj
  rcases Nat.lt_or_ge j k with h1 | h1
  · exact h j h1
  · obtain rfl : j = k := by omega
    exact hk

set_option maxHeartbeats 400000 in
theorem isLetter_any (b : Int) (w : World) :
    Calls Try.prog 41 #[.int .u8 b] w fun e w' => e = .returned (.bool (isLetter b)) ∧ w = w' := by
  go_enter Try.func41, Try.ntmps41
  go_wp2
  all_goals go_ret
  all_goals exact ⟨by simp [isLetter]; try omega, rfl⟩

set_option maxHeartbeats 400000 in
theorem isDigit_any (b : Int) (w : World) :
    Calls Try.prog 42 #[.int .u8 b] w fun e w' => e = .returned (.bool (isDigit b)) ∧ w = w' := by
  go_enter Try.func42, Try.ntmps42
  go_wp2
  all_goals go_ret
  all_goals exact ⟨by simp [isDigit]; try omega, rfl⟩

set_option maxHeartbeats 400000 in
theorem specName_any (s : ByteArray) (w : World) (hs : s.size ≤ maxLen) :
    Calls Try.prog 24 #[.string s] w fun e w' => e = .returned (.bool (nameOkB s)) ∧ w = w' := by
  unfold maxLen at hs
  by_cases h0 : s.size < 1
  · go_enter Try.func24, Try.ntmps24
    go_wp2
    go_ret
    exact ⟨ret_bool (nameOkB_false (by rintro ⟨h, _⟩; omega)).symm, rfl⟩
  by_cases h20 : 20 < s.size
  · go_enter Try.func24, Try.ntmps24
    go_wp2
    go_ret
    exact ⟨ret_bool (nameOkB_false (by rintro ⟨_, h, _⟩; omega)).symm, rfl⟩
  go_enter Try.func24, Try.ntmps24
  go_wp2
  go_loop [3, 4] (fun i _ => ∃ k : Nat, k ≤ s.size ∧ i = .int .i64 k ∧ ∀ j, j < k → goodAt j (byteAt s j) = true) (fun i _ => s.size - (intOf i).toNat)
  case atStart => exact ⟨0, Nat.zero_le _, rfl, fun j h => absurd h (Nat.not_lt_zero _)⟩
  case round =>
    obtain ⟨k, hk, rfl, hall⟩ := hrel
    have HA := Lib.hid hall; clear hall
    by_cases hlt : k < s.size
    · have HB := Lib.hid (byteAt_eq s k hlt)
      rcases Nat.eq_zero_or_pos k with rfl | hk0
      all_goals
        go_wp2
        all_goals first
          | (go_ret
             refine ⟨ret_bool (nameOkB_false ?_).symm, rfl⟩
             intro h
             have h2 := h.2.2 _ hlt
             rw [HB.out] at h2
             clear h
             go_light
             simp [goodAt, isLetter, isDigit] at *
             omega)
          | (go_round
             case rel =>
               first
               | exact ⟨k + 1, by omega, by go_num, allGood_succ HA.out (by rw [HB.out]; go_light; simp [goodAt, isLetter, isDigit] at *; omega)⟩
               | exact ⟨1, by omega, by go_num, allGood_succ HA.out (by rw [HB.out]; go_light; simp [goodAt, isLetter, isDigit] at *; omega)⟩
             case measure => simp [intOf]; omega)
    · go_wp2
      go_ret
      exact ⟨ret_bool (nameOkB_true ⟨by omega, by omega, fun j hj => HA.out j (by omega)⟩).symm, rfl⟩

set_option maxHeartbeats 400000 in
theorem implName_any (s : ByteArray) (w : World) (hs : s.size ≤ maxLen) :
    Calls Try.prog 25 #[.string s] w fun e w' => e = .returned (.bool (nameOkB s)) ∧ w = w' := by
  unfold maxLen at hs
  by_cases h0 : s.size < 1
  · go_enter Try.func25, Try.ntmps25
    go_wp2
    go_ret
    exact ⟨ret_bool (nameOkB_false (by rintro ⟨h, _⟩; omega)).symm, rfl⟩
  by_cases h20 : 20 < s.size
  · go_enter Try.func25, Try.ntmps25
    go_wp2
    go_ret
    exact ⟨ret_bool (nameOkB_false (by rintro ⟨_, h, _⟩; omega)).symm, rfl⟩
  have hp : 0 < s.size := by omega
  have HB0 := Lib.hid (byteAt_eq s 0 hp)
  have d1 : decide ((s.size : Int) < 1) = false := by simp; omega
  have d2 : decide (20 < (s.size : Int)) = false := by simp; omega
  rcases Bool.eq_false_or_eq_true (isLetter (s[0].toNat : Int)) with hL | hL
  case inr =>
    go_enter Try.func25, Try.ntmps25
    go_wp2_with (go_at_call 41; refine (isLetter_any _ _).mono ?_; rintro e w' ⟨rfl, rfl⟩)
    go_ret
    refine ⟨ret_bool (nameOkB_false ?_).symm, rfl⟩
    intro h
    have h2 := h.2.2 _ hp
    rw [HB0.out] at h2
    simp [goodAt, hL] at h2
  go_enter Try.func25, Try.ntmps25
  go_wp2_with (go_at_call 41; refine (isLetter_any _ _).mono ?_; rintro e w' ⟨rfl, rfl⟩)
  go_loop [3] (fun i => ∃ k : Nat, 1 ≤ k ∧ k ≤ s.size ∧ i = .int .i64 k ∧ ∀ j, j < k → goodAt j (byteAt s j) = true) (fun i => s.size - (intOf i).toNat)
  case atStart =>
    refine ⟨1, by omega, by omega, rfl, allGood_succ (fun j h => absurd h (Nat.not_lt_zero _)) ?_⟩
    rw [HB0.out]
    simp [goodAt, hL]
  case round =>
    obtain ⟨k, hk1, hk, rfl, hall⟩ := hrel
    have HA := Lib.hid hall; clear hall
    by_cases hlt : k < s.size
    · have HB := Lib.hid (byteAt_eq s k hlt)
      go_wp2_with (first | (go_at_call 41; refine (isLetter_any _ _).mono ?_; rintro e w' ⟨rfl, rfl⟩) | (go_at_call 42; refine (isDigit_any _ _).mono ?_; rintro e w' ⟨rfl, rfl⟩))
      all_goals first
          | (go_ret
             refine ⟨ret_bool (nameOkB_false ?_).symm, rfl⟩
             intro h
             have h2 := h.2.2 _ hlt
             rw [HB.out] at h2
             clear h
             go_light
             simp [goodAt] at *
             simp_all)
          | (go_round
             case rel => exact ⟨k + 1, by omega, by omega, by go_num, allGood_succ HA.out (by rw [HB.out]; go_light; simp [goodAt] at *; simp_all; first | done | omega)⟩
             case measure => simp [intOf]; omega)
    · go_wp2
      go_ret
      exact ⟨ret_bool (nameOkB_true ⟨by omega, by omega, fun j hj => HA.out j (by omega)⟩).symm, rfl⟩

end Go.Proofs.Ytoabhpgiaieopaa

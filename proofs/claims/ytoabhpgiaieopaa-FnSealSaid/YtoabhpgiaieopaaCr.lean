/- Walks: Crc and CrcMore in the model and in the program, both against one plain function. -/
import Derived.Test.YtoabhpgiaieopaaBs
import Derived.Test.YtoabhpgiaieopaaCm
namespace Go.Proofs.Ytoabhpgiaieopaa
open Go.RowKit

theorem listAt (s : ByteArray) (k : Nat) (h : k < s.size) : s.data.toList.take (k + 1) = s.data.toList.take k ++ [s[k]] := by
  rw [List.take_succ_eq_append_getElem (by simpa using h)]; rfl

set_option maxHeartbeats 400000 in
theorem crcByte_any (r : Nat) (b : UInt8) (w : World) (hr : r < 4294967296) :
    Calls Try.prog 38 #[.int .u32 (r : Int), .int .u8 (b.toNat : Int)] w fun e w' => e = .returned (.int .u32 ((crcB r b : Nat) : Int)) ∧ w = w' := by
  have hb := b.toNat_lt
  have hx : bits .xor .u32 (r : Int) (b.toNat : Int) = ((r ^^^ b.toNat : Nat) : Int) := bits_xor_u32_nat _ _ hr (by omega)
  go_enter Try.func38, Try.ntmps38
  go_wp2
  clear hx
  go_loop [0, 10] (fun u i => ∃ k : Nat, k ≤ 8 ∧ i = .int .i64 k ∧ u = .int .u32 ((crcSteps k (r ^^^ b.toNat) : Nat) : Int)) (fun _ i => 8 - (intOf i).toNat)
  case atStart => exact ⟨0, by omega, rfl, rfl⟩
  case round =>
    obtain ⟨k, hk, rfl, rfl⟩ := hrel
    have hlt := crcSteps_lt (xor_byte_lt b hr) k
    have hnext : crcSteps (k + 1) (r ^^^ b.toNat) = crcStep (crcSteps k (r ^^^ b.toNat)) := rfl
    have HN := Lib.hid hnext; clear hnext
    by_cases h8 : k < 8
    · by_cases ho : crcSteps k (r ^^^ b.toNat) % 2 = 1
      · have hand : bits .and .u32 ((crcSteps k (r ^^^ b.toNat) : Nat) : Int) 1 = 1 := by rw [bits_and_u32_one _ hlt]; omega
        have HS := Lib.hid (step_odd hlt ho)
        have HO := Lib.hid ho; clear ho
        go_wp2
        go_round
        case rel => exact ⟨k + 1, by omega, by go_num, by rw [HN.out, ← HS.out]⟩
        case measure => simp [intOf]; omega
      · have hand : bits .and .u32 ((crcSteps k (r ^^^ b.toNat) : Nat) : Int) 1 = 0 := by rw [bits_and_u32_one _ hlt]; omega
        have HS := Lib.hid (step_even ho)
        have HO := Lib.hid ho; clear ho
        go_wp2
        go_round
        case rel => exact ⟨k + 1, by omega, by go_num, by rw [HN.out, ← HS.out]⟩
        case measure => simp [intOf]; omega
    · obtain rfl : k = 8 := by omega
      go_wp2
      go_ret
      exact ⟨rfl, rfl⟩

set_option maxHeartbeats 1000000 in
theorem implCrcMore_any (c : Nat) (s : ByteArray) (w : World) (hc : c < 4294967296) (hs : s.size ≤ 8000) :
    Calls Try.prog 17 #[.int .i64 (c : Int), .string s] w fun e w' => e = .returned (.int .i64 ((crcMore c s.data.toList : Nat) : Int)) ∧ w = w' := by
  have d1 : decide (8000 < (s.size : Int)) = false := by simp; omega
  have d2 : decide ((c : Int) < 0) = false := by simp
  have d3 : decide (4294967295 < (c : Int)) = false := by simp; omega
  have hw : IntKind.u32.wrap (c : Int) = (c : Int) := by rw [IntKind.wrap_u32]; omega
  have hx : bits .xor .u32 IntKind.u32.max (c : Int) = ((turn32 c : Nat) : Int) := xor_max_u32 hc
  go_enter Try.func17, Try.ntmps17
  go_wp2
  clear hx hw
  go_loop [5, 6] (fun u i => ∃ k : Nat, k ≤ s.size ∧ i = .int .i64 k ∧ u = .int .u32 ((crcL (turn32 c) (s.data.toList.take k) : Nat) : Int)) (fun _ i => s.size - (intOf i).toNat)
  case atStart => exact ⟨0, by omega, rfl, rfl⟩
  case round =>
    obtain ⟨k, hk, rfl, rfl⟩ := hrel
    have hlt := crcL_lt (s.data.toList.take k) (turn32 c) (turn32_lt c)
    by_cases hks : k < s.size
    · have hnext : crcL (turn32 c) (s.data.toList.take (k + 1)) = crcB (crcL (turn32 c) (s.data.toList.take k)) s[k] := by rw [listAt s k hks, crcL_snoc]
      have HN := Lib.hid hnext; clear hnext
      go_wp2_with (go_at_call 38; refine (crcByte_any _ _ _ hlt).mono ?_; rintro e w' ⟨rfl, rfl⟩)
      go_round
      case rel => exact ⟨k + 1, by omega, by go_num, by rw [HN.out]⟩
      case measure => simp [intOf]; omega
    · have hfull : s.data.toList.take k = s.data.toList := List.take_of_length_le (by simp; omega)
      have hxx := xor_max_u32 hlt
      have HM : Hid (turn32 (crcL (turn32 c) (s.data.toList.take k)) = crcMore c s.data.toList) := by rw [hfull]; rfl
      clear hfull
      go_wp2
      go_ret
      exact ⟨ret_int (by rw [HM.out]; have := crcMore_lt c s.data.toList; exact IntWalk.wrap64_in _ ⟨by omega, by omega⟩), rfl⟩

set_option maxHeartbeats 1000000 in
theorem specL01Crc_any (c : Nat) (s : ByteArray) (w : World) (hc : c < 4294967296) (hs : s.size ≤ 8000) :
    Calls Try.prog 35 #[.int .i64 (c : Int), .string s] w fun e w' => e = .returned (.int .i64 ((crcMore c s.data.toList : Nat) : Int)) ∧ w = w' := by
  have hw : IntKind.u32.wrap (c : Int) = (c : Int) := by rw [IntKind.wrap_u32]; omega
  have hx : bits .xor .u32 (c : Int) 4294967295 = ((turn32 c : Nat) : Int) := xor_ones_u32 hc
  go_enter Try.func35, Try.ntmps35
  go_wp2
  clear hx hw
  go_loop [5, 6] (fun u i => ∃ k : Nat, k ≤ s.size ∧ i = .int .i64 k ∧ u = .int .u32 ((crcL (turn32 c) (s.data.toList.take k) : Nat) : Int)) (fun _ i => s.size - (intOf i).toNat)
  case atStart => exact ⟨0, by omega, rfl, rfl⟩
  case round =>
    obtain ⟨k, hk, rfl, rfl⟩ := hrel
    have hlt := crcL_lt (s.data.toList.take k) (turn32 c) (turn32_lt c)
    by_cases hks : k < s.size
    · have hb := s[k].toNat_lt
      have hxb : bits .xor .u32 ((crcL (turn32 c) (s.data.toList.take k) : Nat) : Int) (s[k].toNat : Int) = ((crcL (turn32 c) (s.data.toList.take k) ^^^ s[k].toNat : Nat) : Int) := bits_xor_u32_nat _ _ hlt (by omega)
      have hnext : crcL (turn32 c) (s.data.toList.take (k + 1)) = crcSteps 8 (crcL (turn32 c) (s.data.toList.take k) ^^^ s[k].toNat) := by rw [listAt s k hks, crcL_snoc]; rfl
      have HN := Lib.hid hnext; clear hnext
      have hr0 := xor_byte_lt s[k] hlt
      generalize hr : crcL (turn32 c) (s.data.toList.take k) ^^^ s[k].toNat = r at *
      have HR := Lib.hid hr; clear hr
      go_wp2
      clear hxb
      go_loop [5, 7] (fun u i => ∃ j : Nat, j ≤ 8 ∧ i = .int .i64 j ∧ u = .int .u32 ((crcSteps j r : Nat) : Int)) (fun _ i => 8 - (intOf i).toNat)
      case atStart => exact ⟨0, by omega, rfl, rfl⟩
      case round =>
        obtain ⟨j, hj, rfl, rfl⟩ := hrel
        have hjlt := crcSteps_lt hr0 j
        have hjnext : crcSteps (j + 1) r = crcStep (crcSteps j r) := rfl
        have HJ := Lib.hid hjnext; clear hjnext
        by_cases h8 : j < 8
        · by_cases ho : crcSteps j r % 2 = 1
          · have hand : bits .and .u32 ((crcSteps j r : Nat) : Int) 1 = 1 := by rw [bits_and_u32_one _ hjlt]; omega
            have HS := Lib.hid (step_odd hjlt ho)
            have HO := Lib.hid ho; clear ho
            go_wp2
            go_round
            case rel => exact ⟨j + 1, by omega, by go_num, by rw [HJ.out, ← HS.out]⟩
            case measure => simp [intOf]; omega
          · have hand : bits .and .u32 ((crcSteps j r : Nat) : Int) 1 = 0 := by rw [bits_and_u32_one _ hjlt]; omega
            have HS := Lib.hid (step_even ho)
            have HO := Lib.hid ho; clear ho
            go_wp2
            go_round
            case rel => exact ⟨j + 1, by omega, by go_num, by rw [HJ.out, ← HS.out]⟩
            case measure => simp [intOf]; omega
        · obtain rfl : j = 8 := by omega
          go_wp2
          go_round
          case rel => exact ⟨k + 1, by omega, by go_num, by rw [HN.out]⟩
          case measure => simp [intOf]; omega
    · have hfull : s.data.toList.take k = s.data.toList := List.take_of_length_le (by simp; omega)
      have hxx := xor_ones_u32 hlt
      have HM : Hid (turn32 (crcL (turn32 c) (s.data.toList.take k)) = crcMore c s.data.toList) := by rw [hfull]; rfl
      clear hfull
      go_wp2
      go_ret
      exact ⟨ret_int (by rw [HM.out]; have := crcMore_lt c s.data.toList; exact IntWalk.wrap64_in _ ⟨by omega, by omega⟩), rfl⟩

/-- What Crc and CrcMore answer, of whatever arguments. -/
def crcAns (c : Int) (s : ByteArray) : Int := if 8000 < s.size ∨ c < 0 ∨ 4294967295 < c then 0 else ((crcMore c.toNat s.data.toList : Nat) : Int)
theorem crcAns_no {c : Int} {s : ByteArray} (h : 8000 < s.size ∨ c < 0 ∨ 4294967295 < c) : crcAns c s = 0 := by unfold crcAns; rw [if_pos h]
theorem crcAns_yes {c : Int} {s : ByteArray} (h : ¬ (8000 < s.size ∨ c < 0 ∨ 4294967295 < c)) : crcAns c s = ((crcMore c.toNat s.data.toList : Nat) : Int) := by unfold crcAns; rw [if_neg h]
theorem crcAns_nat {c : Nat} {s : ByteArray} (hc : c < 4294967296) (hs : s.size ≤ 8000) : crcAns (c : Int) s = ((crcMore c s.data.toList : Nat) : Int) := by
  rw [crcAns_yes (by omega), Int.toNat_natCast]
theorem crcAns_bd (c : Int) (s : ByteArray) : 0 ≤ crcAns c s ∧ crcAns c s ≤ 4294967295 := by
  by_cases h : 8000 < s.size ∨ c < 0 ∨ 4294967295 < c
  · rw [crcAns_no h]; omega
  · rw [crcAns_yes h]; have := crcMore_lt c.toNat s.data.toList; omega

set_option maxHeartbeats 400000 in
theorem implCrcMore_all (c : Int) (s : ByteArray) (w : World) (hs : s.size ≤ maxLen) :
    Calls Try.prog 17 #[.int .i64 c, .string s] w fun e w' => e = .returned (.int .i64 (crcAns c s)) ∧ w = w' := by
  unfold maxLen at hs
  by_cases h1 : 8000 < s.size
  · have hd : decide (8000 < (s.size : Int)) = true := by simp; omega
    have HA := Lib.hid (crcAns_no (c := c) (s := s) (.inl h1))
    go_enter Try.func17, Try.ntmps17
    go_wp2
    go_ret
    exact ⟨ret_int HA.out.symm, rfl⟩
  have hd : decide (8000 < (s.size : Int)) = false := by simp; omega
  by_cases h2 : c < 0
  · have HA := Lib.hid (crcAns_no (c := c) (s := s) (.inr (.inl h2)))
    have hd2 : decide (c < 0) = true := by simp; omega
    go_enter Try.func17, Try.ntmps17
    go_wp2
    go_ret
    exact ⟨ret_int HA.out.symm, rfl⟩
  have hd2 : decide (c < 0) = false := by simp; omega
  by_cases h3 : 4294967295 < c
  · have HA := Lib.hid (crcAns_no (c := c) (s := s) (.inr (.inr h3)))
    have hd3 : decide (4294967295 < c) = true := by simp; omega
    go_enter Try.func17, Try.ntmps17
    go_wp2
    go_ret
    exact ⟨ret_int HA.out.symm, rfl⟩
  obtain ⟨n, rfl⟩ := Int.eq_ofNat_of_zero_le (show 0 ≤ c by omega)
  rw [crcAns_nat (by omega) (by omega)]
  exact implCrcMore_any n s w (by omega) (by omega)

set_option maxHeartbeats 400000 in
theorem specCrcMore_all (c : Int) (s : ByteArray) (w : World) (hs : s.size ≤ maxLen) :
    Calls Try.prog 18 #[.int .i64 c, .string s] w fun e w' => e = .returned (.int .i64 (crcAns c s)) ∧ w = w' := by
  unfold maxLen at hs
  by_cases h1 : 8000 < s.size
  · have hd : decide (8000 < (s.size : Int)) = true := by simp; omega
    have HA := Lib.hid (crcAns_no (c := c) (s := s) (.inl h1))
    go_enter Try.func18, Try.ntmps18
    go_wp2
    go_ret
    exact ⟨ret_int HA.out.symm, rfl⟩
  have hd : decide (8000 < (s.size : Int)) = false := by simp; omega
  by_cases h2 : c < 0
  · have HA := Lib.hid (crcAns_no (c := c) (s := s) (.inr (.inl h2)))
    have hd2 : decide (c < 0) = true := by simp; omega
    go_enter Try.func18, Try.ntmps18
    go_wp2
    go_ret
    exact ⟨ret_int HA.out.symm, rfl⟩
  have hd2 : decide (c < 0) = false := by simp; omega
  by_cases h3 : 4294967295 < c
  · have HA := Lib.hid (crcAns_no (c := c) (s := s) (.inr (.inr h3)))
    have hd3 : decide (4294967295 < c) = true := by simp; omega
    go_enter Try.func18, Try.ntmps18
    go_wp2
    go_ret
    exact ⟨ret_int HA.out.symm, rfl⟩
  have hd3 : decide (4294967295 < c) = false := by simp; omega
  obtain ⟨n, rfl⟩ := Int.eq_ofNat_of_zero_le (show 0 ≤ c by omega)
  have HA := Lib.hid (crcAns_nat (c := n) (s := s) (by omega) (by omega))
  go_enter Try.func18, Try.ntmps18
  go_wp2_with (go_at_call 35; refine (specL01Crc_any n s _ (by omega) (by omega)).mono ?_; rintro e w' ⟨rfl, rfl⟩)
  go_ret
  exact ⟨ret_int HA.out.symm, rfl⟩

set_option maxHeartbeats 400000 in
theorem implCrc_all (s : ByteArray) (w : World) (hs : s.size ≤ maxLen) :
    Calls Try.prog 19 #[.string s] w fun e w' => e = .returned (.int .i64 (crcAns 0 s)) ∧ w = w' := by
  go_enter Try.func19, Try.ntmps19
  go_wp2_with (go_at_call 17; refine (implCrcMore_all 0 s _ hs).mono ?_; rintro e w' ⟨rfl, rfl⟩)
  go_ret
  exact ⟨rfl, rfl⟩

set_option maxHeartbeats 400000 in
theorem specCrc_all (s : ByteArray) (w : World) (hs : s.size ≤ maxLen) :
    Calls Try.prog 26 #[.string s] w fun e w' => e = .returned (.int .i64 (crcAns 0 s)) ∧ w = w' := by
  unfold maxLen at hs
  by_cases h1 : 8000 < s.size
  · have HA := Lib.hid (crcAns_no (c := 0) (s := s) (.inl h1))
    go_enter Try.func26, Try.ntmps26
    go_wp2
    go_ret
    exact ⟨ret_int HA.out.symm, rfl⟩
  have HA := Lib.hid (crcAns_nat (c := 0) (s := s) (by omega) (by omega))
  go_enter Try.func26, Try.ntmps26
  go_wp2_with (go_at_call 35; refine (specL01Crc_any 0 s _ (by omega) (by omega)).mono ?_; rintro e w' ⟨rfl, rfl⟩)
  go_ret
  exact ⟨ret_int HA.out.symm, rfl⟩

end Go.Proofs.Ytoabhpgiaieopaa

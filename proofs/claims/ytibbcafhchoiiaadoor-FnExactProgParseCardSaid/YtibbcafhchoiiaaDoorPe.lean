/- The model's numbers and lines: l02Num, l02Parse. -/
import Derived.Test.YtibbcafhchoiiaaDoorPd
set_option maxRecDepth 100000
set_option linter.unusedSimpArgs false
set_option linter.unusedVariables false
namespace Go.Proofs.YtibbcafhchoiiaaDoor
open Go.RowKit

theorem numI_no {t : List UInt8} (h : numOk t = false) : numI t = -1 := by unfold numI numL; rw [h]; rfl
theorem numI_yes {t : List UInt8} (h : numOk t = true) : numI t = (valL t : Nat) := by unfold numI numL; rw [h]; rfl
theorem digit_spec (c : UInt8) : digit c = (decide ((48 : Int) ≤ c.toNat) && decide ((c.toNat : Int) ≤ 57)) := by
  unfold digit
  rw [Bool.eq_iff_iff]
  simp
  omega

/-- What is found ahead of a number's digits. -/
def headBad (t : List UInt8) : Bool := decide (t.length < 1) || decide (10 < t.length) || (decide (1 < t.length) && t.head? == some 48)
theorem numOk_head {t : List UInt8} : numOk t = (!headBad t && t.all digit) := by
  unfold numOk headBad
  rw [Bool.eq_iff_iff]
  simp only [Bool.and_eq_true, decide_eq_true_eq, Bool.not_eq_true', Bool.or_eq_false_iff, decide_eq_false_iff_not]
  constructor
  · rintro ⟨⟨h1, h2⟩, h3⟩
    exact ⟨⟨⟨by omega, by omega⟩, h2⟩, h3⟩
  · rintro ⟨⟨⟨h1, h2⟩, h3⟩, h4⟩
    exact ⟨⟨by omega, h3⟩, h4⟩

theorem take_digits {s : ByteArray} {k : Nat} (hk : k < s.size) (hl : s.data.toList.length = s.size) (h : (s.data.toList.take k).all digit = true) (hd : digit s[k] = true) :
    (s.data.toList.take (k + 1)).all digit = true ∧ valL (s.data.toList.take (k + 1)) = 10 * valL (s.data.toList.take k) + (s[k].toNat - 48) := by
  have e : s.data.toList.take (k + 1) = s.data.toList.take k ++ [s[k]] := List.take_succ_eq_append_getElem (by rw [hl]; exact hk)
  rw [e, List.all_append, h, valL_snoc]
  simp [hd]
theorem digits_no_at {s : ByteArray} {k : Nat} (hk : k < s.size) (hl : s.data.toList.length = s.size) (hd : digit s[k] = false) : numOk s.data.toList = false := by
  have hm : s[k] ∈ s.data.toList := List.getElem_mem (l := s.data.toList) (n := k) (by rw [hl]; exact hk)
  have : s.data.toList.all digit = false := List.all_eq_false.2 ⟨_, hm, by simp [hd]⟩
  rw [numOk_head, this, Bool.and_false]
theorem head_zero {s : ByteArray} (h1 : 1 < s.size) (hl : s.data.toList.length = s.size) (h0 : s[0]'(by omega) = 48) : numOk s.data.toList = false := by
  have : headBad s.data.toList = true := by
    unfold headBad
    have hh : s.data.toList.head? = some 48 := by
      rw [List.head?_eq_getElem?, List.getElem?_eq_getElem (by rw [hl]; omega)]
      exact congrArg some h0
    rw [hh]
    simp
    right; omega
  rw [numOk_head, this]
  rfl
theorem head_fine {s : ByteArray} (h1 : 1 ≤ s.size) (h2 : s.size ≤ 10) (hl : s.data.toList.length = s.size) (h0 : ¬ (1 < s.size ∧ s[0]'(by omega) = 48)) (ha : s.data.toList.all digit = true) : numOk s.data.toList = true := by
  rw [numOk_head, ha, Bool.and_true]
  unfold headBad
  rw [hl, decide_eq_false (show ¬ s.size < 1 by omega), decide_eq_false (show ¬ 10 < s.size by omega)]
  by_cases h3 : 1 < s.size
  · have hh : s.data.toList.head? = some (s[0]'(by omega)) := by
      rw [List.head?_eq_getElem?, List.getElem?_eq_getElem (by rw [hl]; omega)]
      rfl
    have : s[0]'(by omega) ≠ 48 := fun e => h0 ⟨h3, e⟩
    rw [hh]
    simp [this]
  · rw [decide_eq_false h3]
    rfl

set_option maxHeartbeats 3200000 in
theorem l02Num_any (s : ByteArray) (w : World) (hs : s.size ≤ 1000000) :
    Calls Tryd.prog 44 #[.string s] w fun e w' => e = .returned (.int .i64 (numI s.data.toList)) ∧ w = w' := by
  have HSZ := Lib.hid (show s.data.toList.length = s.size from Array.length_toList)
  by_cases h1 : s.size < 1
  · have HR := Lib.hid (show numOk s.data.toList = false by rw [numOk_head]; unfold headBad; rw [HSZ.out]; simp [h1])
    go_enter Tryd.func44, Tryd.ntmps44
    go_wp2_with fail
    go_ret
    exact ⟨ret_int (numI_no HR.out).symm, rfl⟩
  by_cases h2 : 10 < s.size
  · have HR := Lib.hid (show numOk s.data.toList = false by rw [numOk_head]; unfold headBad; rw [HSZ.out]; simp [h2])
    go_enter Tryd.func44, Tryd.ntmps44
    go_wp2_with fail
    go_ret
    exact ⟨ret_int (numI_no HR.out).symm, rfl⟩
  have hs0 : 0 < s.size := by omega
  have main : ¬ (1 < s.size ∧ s[0] = 48) → Calls Tryd.prog 44 #[.string s] w fun e w' => e = .returned (.int .i64 (numI s.data.toList)) ∧ w = w' := by
    intro h0
    have HF := Lib.hid (fun ha => head_fine (by omega) (by omega) HSZ.out h0 ha)
    by_cases h3 : 1 < s.size
    · have hq : ((s[0].toNat : Int) == 48) = false := by
        simp only [beq_eq_false_iff_ne, ne_eq]
        intro e
        exact h0 ⟨h3, UInt8.toNat_inj.1 (by simpa using (by omega : s[0].toNat = 48))⟩
      clear h0
      go_enter Tryd.func44, Tryd.ntmps44
      go_wp2_with fail
      go_loop [3, 4] (fun q i => ∃ k : Nat, k ≤ s.size ∧ i = .int .i64 k ∧ (s.data.toList.take k).all digit = true ∧ q = .int .i64 (valL (s.data.toList.take k) : Nat)) (fun _ i => s.size - (intOf i).toNat)
      case atStart => exact ⟨0, by omega, rfl, rfl, rfl⟩
      case round =>
        obtain ⟨k, hk, rfl, hall, rfl⟩ := hrel
        have HALL := Lib.hid hall
        have hvb : valL (s.data.toList.take k) < 10000000000 := by
          have h5 := valL_bound _ _ rfl hall
          have h6 : (s.data.toList.take k).length ≤ 10 := by rw [List.length_take, HSZ.out]; omega
          have h7 : 10 ^ (s.data.toList.take k).length ≤ 10 ^ 10 := Nat.pow_le_pow_right (by omega) h6
          omega
        clear hall
        by_cases hlt : k < s.size
        · have hds := digit_spec s[k]
          cases hd : digit s[k] with
          | false =>
            have HR := Lib.hid (digits_no_at hlt HSZ.out hd)
            rw [hd] at hds
            by_cases h48 : (48 : Int) ≤ s[k].toNat
            · have h57 : ¬ (s[k].toNat : Int) ≤ 57 := fun e => by simp [h48, e] at hds
              have hx1 : decide ((s[k].toNat : Int) < 48) = false := by simpa using h48
              have hx2 : decide ((57 : Int) < (s[k].toNat : Int)) = true := by simpa using h57
              clear hds hd h48 h57
              go_wp2_with fail
              go_ret
              exact ⟨ret_int (numI_no HR.out).symm, rfl⟩
            · have hx1 : decide ((s[k].toNat : Int) < 48) = true := by simpa using h48
              clear hds hd h48
              go_wp2_with fail
              go_ret
              exact ⟨ret_int (numI_no HR.out).symm, rfl⟩
          | true =>
            rw [hd] at hds
            have h48 : (48 : Int) ≤ s[k].toNat := by
              have := hds.symm
              simp only [Bool.and_eq_true, decide_eq_true_eq] at this
              exact this.1
            have h57 : (s[k].toNat : Int) ≤ 57 := by
              have := hds.symm
              simp only [Bool.and_eq_true, decide_eq_true_eq] at this
              exact this.2
            have hx1 : decide ((s[k].toNat : Int) < 48) = false := by simpa using h48
            have hx2 : decide ((57 : Int) < (s[k].toNat : Int)) = false := by simpa using h57
            obtain ⟨HT1, HT2⟩ := take_digits hlt HSZ.out HALL.out hd
            have HT1 := Lib.hid HT1
            have HT2 := Lib.hid HT2
            generalize valL (s.data.toList.take k) = vv at *
            clear hds hd
            go_wp2_with fail
            go_round
            case rel => exact ⟨k + 1, by omega, by go_num, HT1.out, congrArg (Value.int .i64) (by rw [HT2.out]; omega)⟩
            case measure => simp [intOf]; omega
        · have HOK := Lib.hid (HF.out (by have := HALL.out; rw [List.take_of_length_le (by rw [HSZ.out]; omega)] at this; exact this))
          have HTK := Lib.hid (show s.data.toList.take k = s.data.toList from List.take_of_length_le (by rw [HSZ.out]; omega))
          generalize hvv : valL (s.data.toList.take k) = vv at *
          have HVV := Lib.hid hvv
          clear hvv
          go_wp2_with fail
          go_ret
          exact ⟨ret_int (by rw [numI_yes HOK.out, ← HTK.out, HVV.out]), rfl⟩
    · have hs1 : s.size = 1 := by omega
      have hq : decide ((1 : Int) < (s.size : Int)) = false := by rw [hs1]; rfl
      clear h0 hs1
      go_enter Tryd.func44, Tryd.ntmps44
      go_wp2_with fail
      go_loop [3, 4] (fun q i => ∃ k : Nat, k ≤ s.size ∧ i = .int .i64 k ∧ (s.data.toList.take k).all digit = true ∧ q = .int .i64 (valL (s.data.toList.take k) : Nat)) (fun _ i => s.size - (intOf i).toNat)
      case atStart => exact ⟨0, by omega, rfl, rfl, rfl⟩
      case round =>
        obtain ⟨k, hk, rfl, hall, rfl⟩ := hrel
        have HALL := Lib.hid hall
        have hvb : valL (s.data.toList.take k) < 10000000000 := by
          have h5 := valL_bound _ _ rfl hall
          have h6 : (s.data.toList.take k).length ≤ 10 := by rw [List.length_take, HSZ.out]; omega
          have h7 : 10 ^ (s.data.toList.take k).length ≤ 10 ^ 10 := Nat.pow_le_pow_right (by omega) h6
          omega
        clear hall
        by_cases hlt : k < s.size
        · have hds := digit_spec s[k]
          cases hd : digit s[k] with
          | false =>
            have HR := Lib.hid (digits_no_at hlt HSZ.out hd)
            rw [hd] at hds
            by_cases h48 : (48 : Int) ≤ s[k].toNat
            · have h57 : ¬ (s[k].toNat : Int) ≤ 57 := fun e => by simp [h48, e] at hds
              have hx1 : decide ((s[k].toNat : Int) < 48) = false := by simpa using h48
              have hx2 : decide ((57 : Int) < (s[k].toNat : Int)) = true := by simpa using h57
              clear hds hd h48 h57
              go_wp2_with fail
              go_ret
              exact ⟨ret_int (numI_no HR.out).symm, rfl⟩
            · have hx1 : decide ((s[k].toNat : Int) < 48) = true := by simpa using h48
              clear hds hd h48
              go_wp2_with fail
              go_ret
              exact ⟨ret_int (numI_no HR.out).symm, rfl⟩
          | true =>
            rw [hd] at hds
            have h48 : (48 : Int) ≤ s[k].toNat := by
              have := hds.symm
              simp only [Bool.and_eq_true, decide_eq_true_eq] at this
              exact this.1
            have h57 : (s[k].toNat : Int) ≤ 57 := by
              have := hds.symm
              simp only [Bool.and_eq_true, decide_eq_true_eq] at this
              exact this.2
            have hx1 : decide ((s[k].toNat : Int) < 48) = false := by simpa using h48
            have hx2 : decide ((57 : Int) < (s[k].toNat : Int)) = false := by simpa using h57
            obtain ⟨HT1, HT2⟩ := take_digits hlt HSZ.out HALL.out hd
            have HT1 := Lib.hid HT1
            have HT2 := Lib.hid HT2
            generalize valL (s.data.toList.take k) = vv at *
            clear hds hd
            go_wp2_with fail
            go_round
            case rel => exact ⟨k + 1, by omega, by go_num, HT1.out, congrArg (Value.int .i64) (by rw [HT2.out]; omega)⟩
            case measure => simp [intOf]; omega
        · have HOK := Lib.hid (HF.out (by have := HALL.out; rw [List.take_of_length_le (by rw [HSZ.out]; omega)] at this; exact this))
          have HTK := Lib.hid (show s.data.toList.take k = s.data.toList from List.take_of_length_le (by rw [HSZ.out]; omega))
          generalize hvv : valL (s.data.toList.take k) = vv at *
          have HVV := Lib.hid hvv
          clear hvv
          go_wp2_with fail
          go_ret
          exact ⟨ret_int (by rw [numI_yes HOK.out, ← HTK.out, HVV.out]), rfl⟩
  by_cases h0 : 1 < s.size ∧ s[0] = 48
  · obtain ⟨h3, h4⟩ := h0
    have HR := Lib.hid (head_zero h3 HSZ.out h4)
    have hq : ((s[0].toNat : Int) == 48) = true := by rw [h4]; rfl
    clear main h4
    go_enter Tryd.func44, Tryd.ntmps44
    go_wp2_with fail
    go_ret
    exact ⟨ret_int (numI_no HR.out).symm, rfl⟩
  · exact main h0

end Go.Proofs.YtibbcafhchoiiaaDoor

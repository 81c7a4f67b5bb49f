/- The program's codeOfOp, isDigit, readDigits. -/
import Derived.Test.YtibbcafhchoiiaaDoorPe
set_option maxRecDepth 100000
set_option linter.unusedSimpArgs false
set_option linter.unusedVariables false
namespace Go.Proofs.YtibbcafhchoiiaaDoor
open Go.RowKit

set_option maxHeartbeats 1600000 in
theorem codeOfOp_any (t : ByteArray) (w : World) : Calls Tryd.prog 47 #[.string t] w fun e w' => e = .returned (.int .i64 (opOf t)) ∧ Below w.heap.size w w' := by
  go_enter Tryd.func47, Tryd.ntmps47
  go_wp2_with fail
  refine (opWords_any _).mono ?_
  rintro e w1 ⟨rfl, hb⟩
  have HB := Lib.hid hb
  clear hb
  go_wp2_with fail
  go_loopw [6] (fun i wr => ∃ k : Nat, k ≤ 34 ∧ i = .int .i64 k ∧ (∀ j (hj : j < 34), j < k → opNamesL[j]'(by exact hj) ≠ t.data.toList) ∧ Below w.heap.size w wr) (fun i _ => 34 - (intOf i).toNat)
  case atStart => exact ⟨0, by omega, rfl, fun j hj h => by omega, HB.out⟩
  case round =>
    obtain ⟨k, hk, rfl, hne, hbw⟩ := hrel
    have HNE := Lib.hid hne
    have HW := Lib.hid hbw
    clear hne hbw
    by_cases hlt : k < 34
    · have hix := fun W => idx_op k hlt W
      have HA := Lib.hid (fun o => HW.out.alloc HW.out.size o)
      by_cases he : opNamesL[k]'(by exact hlt) = t.data.toList
      · have hq : (opNamesL[k]'(by exact hlt) == t.toList) = true := by rw [Lib.toList_data]; simpa using he
        have hr := Lib.hid (opOf_hit hlt (fun j hj => HNE.out j (by omega) hj) he)
        clear he
        generalize opNamesL[k]'(by exact hlt) = nm at *
        generalize opCodesL[k]'(by exact hlt) = cd at *
        go_wp2_with fail
        go_ret
        exact ⟨ret_int hr.out.symm, HA.out _⟩
      · have hq : (opNamesL[k]'(by exact hlt) == t.toList) = false := by rw [Lib.toList_data]; simpa using he
        have HE := Lib.hid (show ∀ j (hj : j < 34), j < k + 1 → opNamesL[j]'(by exact hj) ≠ t.data.toList from fun j hj h => by
          rcases Nat.lt_or_ge j k with h' | h'
          · exact HNE.out j hj h'
          · obtain rfl : j = k := by omega
            exact he)
        clear he
        generalize opNamesL[k]'(by exact hlt) = nm at *
        generalize opCodesL[k]'(by exact hlt) = cd at *
        go_wp2_with fail
        go_roundw
        case rel => exact ⟨k + 1, by omega, by go_num, HE.out, HA.out _⟩
        case measure => simp [intOf]; omega
    · have hr := Lib.hid (opOf_miss (t := t) fun j hj => HNE.out j hj (by omega))
      go_wp2_with fail
      go_ret
      exact ⟨ret_int hr.out.symm, HW.out⟩

theorem isDigit_any (c : UInt8) (w : World) : Calls Tryd.prog 59 #[.int .u8 c.toNat] w fun e w' => e = .returned (.bool (digit c)) ∧ w = w' := by
  have hds := digit_spec c
  by_cases h48 : (48 : Int) ≤ c.toNat
  · have hx1 : decide ((48 : Int) ≤ (c.toNat : Int)) = true := by simpa using h48
    have HD := Lib.hid (show digit c = decide ((c.toNat : Int) ≤ 57) by rw [hds, hx1]; rfl)
    clear hds h48
    go_enter Tryd.func59, Tryd.ntmps59
    go_wp2_with fail
    go_ret
    exact ⟨congrArg (fun b => Ending.returned (Value.bool b)) HD.out.symm, rfl⟩
  · have hx1 : decide ((48 : Int) ≤ (c.toNat : Int)) = false := by simpa using h48
    have HD := Lib.hid (show digit c = false by rw [hds, hx1]; rfl)
    clear hds h48
    go_enter Tryd.func59, Tryd.ntmps59
    go_wp2_with fail
    go_ret
    exact ⟨congrArg (fun b => Ending.returned (Value.bool b)) HD.out.symm, rfl⟩

def numV (t : List UInt8) : Int := if numOk t = true then (valL t : Nat) else 0
theorem numV_no {t : List UInt8} (h : numOk t = false) : Ending.returned (.tuple #[.int .i64 0, .bool false]) = .returned (.tuple #[.int .i64 (numV t), .bool (numOk t)]) := by unfold numV; rw [h]; rfl
theorem numV_yes {t p : List UInt8} (h : numOk t = true) (hp : p = t) : Value.tuple #[.int .i64 (valL p : Nat), .bool true] = .tuple #[.int .i64 (numV t), .bool (numOk t)] := by unfold numV; rw [h, hp]; rfl

set_option maxHeartbeats 3200000 in
theorem readDigits_any (s : ByteArray) (w : World) (hs : s.size ≤ 1000000) :
    Calls Tryd.prog 48 #[.string s] w fun e w' => e = .returned (.tuple #[.int .i64 (numV s.data.toList), .bool (numOk s.data.toList)]) ∧ w = w' := by
  have HSZ := Lib.hid (show s.data.toList.length = s.size from Array.length_toList)
  by_cases h1 : s.size < 1
  · have HR := Lib.hid (show numOk s.data.toList = false by rw [numOk_head]; unfold headBad; rw [HSZ.out]; simp [h1])
    go_enter Tryd.func48, Tryd.ntmps48
    go_wp2_with fail
    exact bodyPost_ret (v := .tuple #[.int .i64 0, .bool false]) (by simp [results, Tryd.results48, go_sem]) rfl ⟨numV_no HR.out, rfl⟩
  by_cases h2 : 10 < s.size
  · have HR := Lib.hid (show numOk s.data.toList = false by rw [numOk_head]; unfold headBad; rw [HSZ.out]; simp [h2])
    go_enter Tryd.func48, Tryd.ntmps48
    go_wp2_with fail
    exact bodyPost_ret (v := .tuple #[.int .i64 0, .bool false]) (by simp [results, Tryd.results48, go_sem]) rfl ⟨numV_no HR.out, rfl⟩
  have hs0 : 0 < s.size := by omega
  by_cases h0 : 1 < s.size ∧ s[0] = 48
  · have HR := Lib.hid (head_zero h0.1 HSZ.out h0.2)
    have hq : ((s[0].toNat : Int) == 48) = true := by rw [h0.2]; rfl
    have h3 : 1 < s.size := h0.1
    clear h0
    go_enter Tryd.func48, Tryd.ntmps48
    go_wp2_with fail
    exact bodyPost_ret (v := .tuple #[.int .i64 0, .bool false]) (by simp [results, Tryd.results48, go_sem]) rfl ⟨numV_no HR.out, rfl⟩
  · have HF := Lib.hid (fun ha => head_fine (by omega) (by omega) HSZ.out h0 ha)
    by_cases h3 : 1 < s.size
    · have hq : ((s[0].toNat : Int) == 48) = false := by
        simp only [beq_eq_false_iff_ne, ne_eq]
        intro e
        exact h0 ⟨h3, UInt8.toNat_inj.1 (by simpa using (by omega : s[0].toNat = 48))⟩
      clear h0
      go_enter Tryd.func48, Tryd.ntmps48
      go_wp2_with fail
      go_loop [4, 26] (fun q i => ∃ k : Nat, k ≤ s.size ∧ i = .int .i64 k ∧ (s.data.toList.take k).all digit = true ∧ q = .int .i64 (valL (s.data.toList.take k) : Nat)) (fun _ i => s.size - (intOf i).toNat)
      case atStart => exact ⟨0, by omega, rfl, rfl, rfl⟩
      case round =>
        obtain ⟨k, hk, rfl, hall, rfl⟩ := hrel
        have HALL := Lib.hid hall
        have hvb : valL (s.data.toList.take k) < 10000000000 := by
          have h5 := valL_bound _ _ rfl hall
          have h6 : (s.data.toList.take k).length ≤ 10 := by rw [List.length_take, HSZ.out]; omega
          have h7 : 10 ^ (s.data.toList.take k).length ≤ 10 ^ 10 := Nat.pow_le_pow_right (by omega) h6
          omega
        clear hall
        by_cases hlt : k < s.size
        · have hds := digit_spec s[k]
          have qd := fun W => isDigit_any s[k] W
          cases hd : digit s[k] with
          | false =>
            have HR := Lib.hid (digits_no_at hlt HSZ.out hd)
            rw [hd] at qd
            have QD := Lib.hid qd
            clear hds hd qd
            go_wp2_with fail
            refine (QD.out _).mono ?_
            rintro e w' ⟨rfl, rfl⟩
            go_wp2_with fail
            exact bodyPost_ret (v := .tuple #[.int .i64 0, .bool false]) (by simp [results, Tryd.results48, go_sem]) rfl ⟨numV_no HR.out, rfl⟩
          | true =>
            rw [hd] at hds qd
            have h48 : (48 : Int) ≤ s[k].toNat := by
              have := hds.symm
              simp only [Bool.and_eq_true, decide_eq_true_eq] at this
              exact this.1
            have h57 : (s[k].toNat : Int) ≤ 57 := by
              have := hds.symm
              simp only [Bool.and_eq_true, decide_eq_true_eq] at this
              exact this.2
            obtain ⟨HT1, HT2⟩ := take_digits hlt HSZ.out HALL.out hd
            have HT1 := Lib.hid HT1
            have HT2 := Lib.hid HT2
            have QD := Lib.hid qd
            generalize valL (s.data.toList.take k) = vv at *
            clear hds hd qd
            go_wp2_with fail
            refine (QD.out _).mono ?_
            rintro e w' ⟨rfl, rfl⟩
            go_wp2_with fail
            go_round
            case rel => exact ⟨k + 1, by omega, by go_num, HT1.out, congrArg (Value.int .i64) (by rw [HT2.out]; omega)⟩
            case measure => simp [intOf]; omega
        · have HOK := Lib.hid (HF.out (by have := HALL.out; rw [List.take_of_length_le (by rw [HSZ.out]; omega)] at this; exact this))
          have HTK := Lib.hid (show s.data.toList.take k = s.data.toList from List.take_of_length_le (by rw [HSZ.out]; omega))
          have HV2 := Lib.hid (numV_yes HOK.out HTK.out)
          generalize valL (s.data.toList.take k) = vv at *
          go_wp2_with fail
          exact bodyPost_ret (v := .tuple #[.int .i64 vv, .bool true]) (by simp [results, Tryd.results48, go_sem]) rfl ⟨congrArg Ending.returned HV2.out, rfl⟩
    · have hs1 : s.size = 1 := by omega
      have hq : decide ((1 : Int) < (s.size : Int)) = false := by rw [hs1]; rfl
      clear h0 hs1
      go_enter Tryd.func48, Tryd.ntmps48
      go_wp2_with fail
      go_loop [4, 26] (fun q i => ∃ k : Nat, k ≤ s.size ∧ i = .int .i64 k ∧ (s.data.toList.take k).all digit = true ∧ q = .int .i64 (valL (s.data.toList.take k) : Nat)) (fun _ i => s.size - (intOf i).toNat)
      case atStart => exact ⟨0, by omega, rfl, rfl, rfl⟩
      case round =>
        obtain ⟨k, hk, rfl, hall, rfl⟩ := hrel
        have HALL := Lib.hid hall
        have hvb : valL (s.data.toList.take k) < 10000000000 := by
          have h5 := valL_bound _ _ rfl hall
          have h6 : (s.data.toList.take k).length ≤ 10 := by rw [List.length_take, HSZ.out]; omega
          have h7 : 10 ^ (s.data.toList.take k).length ≤ 10 ^ 10 := Nat.pow_le_pow_right (by omega) h6
          omega
        clear hall
        by_cases hlt : k < s.size
        · have hds := digit_spec s[k]
          have qd := fun W => isDigit_any s[k] W
          cases hd : digit s[k] with
          | false =>
            have HR := Lib.hid (digits_no_at hlt HSZ.out hd)
            rw [hd] at qd
            have QD := Lib.hid qd
            clear hds hd qd
            go_wp2_with fail
            refine (QD.out _).mono ?_
            rintro e w' ⟨rfl, rfl⟩
            go_wp2_with fail
            exact bodyPost_ret (v := .tuple #[.int .i64 0, .bool false]) (by simp [results, Tryd.results48, go_sem]) rfl ⟨numV_no HR.out, rfl⟩
          | true =>
            rw [hd] at hds qd
            have h48 : (48 : Int) ≤ s[k].toNat := by
              have := hds.symm
              simp only [Bool.and_eq_true, decide_eq_true_eq] at this
              exact this.1
            have h57 : (s[k].toNat : Int) ≤ 57 := by
              have := hds.symm
              simp only [Bool.and_eq_true, decide_eq_true_eq] at this
              exact this.2
            obtain ⟨HT1, HT2⟩ := take_digits hlt HSZ.out HALL.out hd
            have HT1 := Lib.hid HT1
            have HT2 := Lib.hid HT2
            have QD := Lib.hid qd
            generalize valL (s.data.toList.take k) = vv at *
            clear hds hd qd
            go_wp2_with fail
            refine (QD.out _).mono ?_
            rintro e w' ⟨rfl, rfl⟩
            go_wp2_with fail
            go_round
            case rel => exact ⟨k + 1, by omega, by go_num, HT1.out, congrArg (Value.int .i64) (by rw [HT2.out]; omega)⟩
            case measure => simp [intOf]; omega
        · have HOK := Lib.hid (HF.out (by have := HALL.out; rw [List.take_of_length_le (by rw [HSZ.out]; omega)] at this; exact this))
          have HTK := Lib.hid (show s.data.toList.take k = s.data.toList from List.take_of_length_le (by rw [HSZ.out]; omega))
          have HV2 := Lib.hid (numV_yes HOK.out HTK.out)
          generalize valL (s.data.toList.take k) = vv at *
          go_wp2_with fail
          exact bodyPost_ret (v := .tuple #[.int .i64 vv, .bool true]) (by simp [results, Tryd.results48, go_sem]) rfl ⟨congrArg Ending.returned HV2.out, rfl⟩

end Go.Proofs.YtibbcafhchoiiaaDoor

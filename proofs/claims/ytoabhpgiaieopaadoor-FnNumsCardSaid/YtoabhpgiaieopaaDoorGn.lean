/- Walks: GetNum in the model, against one plain function. -/
import Derived.Test.YtoabhpgiaieopaaDoorBs
import Derived.Test.YtoabhpgiaieopaaDoorGm
namespace Go.Proofs.YtoabhpgiaieopaaDoor
open Go.RowKit

def numOutOf (x : Int × Int × Int) : Value := .agg #[.int .i64 x.1, .int .i64 x.2.1, .int .i64 x.2.2]

theorem drop_at (s : ByteArray) (k : Nat) (h : k < s.size) : s.data.toList.drop k = s[k] :: s.data.toList.drop (k + 1) := by
  rw [List.drop_eq_getElem_cons (by simpa using h)]; rfl
theorem drop_end (s : ByteArray) (k : Nat) (h : s.size ≤ k) : s.data.toList.drop k = [] := List.drop_of_length_le (by simpa using h)

set_option maxHeartbeats 1600000 in
set_option maxRecDepth 100000 in
theorem specGetNum_any (s : ByteArray) (at_ : Int) (w : World) (hs : s.size ≤ maxLen) (h0 : -9223372036854775808 ≤ at_) (h1 : at_ ≤ 9223372036854775807) :
    Calls Tryd.prog 14 #[.string s, .int .i64 at_] w fun e w' => e = .returned (numOutOf (getN s at_)) ∧ Below w.heap.size w w' := by
  unfold maxLen at hs
  have hbel : ∀ cs : Array Value, Below w.heap.size w (w.alloc (.cells cs 26)) := fun _ => (Below.refl _ w).alloc (Nat.le_refl _) _
  have HBL := Lib.hid hbel
  clear hbel
  by_cases hl : 8000 < s.size
  · have HA := Lib.hid (getN_long (a := at_) hl)
    go_enter Tryd.func14, Tryd.ntmps14
    go_wp2
    exact bodyPost_ret (v := .agg #[.int .i64 0, .int .i64 0, .int .i64 2]) (by simp [results, Tryd.results14, go_sem]) rfl ⟨by rw [HA.out]; rfl, HBL.out _⟩
  by_cases hn : at_ < 0
  · have HA := Lib.hid (getN_neg hl hn)
    go_enter Tryd.func14, Tryd.ntmps14
    go_wp2
    exact bodyPost_ret (v := .agg #[.int .i64 0, .int .i64 0, .int .i64 1]) (by simp [results, Tryd.results14, go_sem]) rfl ⟨by rw [HA.out]; rfl, HBL.out _⟩
  obtain ⟨a, rfl⟩ := Int.eq_ofNat_of_zero_le (show 0 ≤ at_ by omega)
  go_enter Tryd.func14, Tryd.ntmps14
  go_wp2
  go_loop [5, 6] (fun u i => ∃ (k : Nat) (x : Int), k ≤ 10 ∧ i = .int .i64 k ∧ u = .int .u64 x ∧ 0 ≤ x ∧ (k ≤ 9 → x < 128 ^ k) ∧ getB (10 - k) k x (s.data.toList.drop (a + k)) = getB 10 0 0 (s.data.toList.drop a)) (fun _ i => 10 - (intOf i).toNat)
  case atStart => exact ⟨0, 0, by omega, rfl, rfl, by omega, fun _ => by simp, rfl⟩
  case round =>
    obtain ⟨k, x, hk, rfl, rfl, hx0, hx1, hg⟩ := hrel
    by_cases hk10 : k < 10
    · have hp := pow128_le (k := k) (by omega)
      have hx2 := hx1 (by omega)
      obtain ⟨f, hf⟩ : ∃ f, 10 - k = f + 1 := ⟨9 - k, by omega⟩
      rw [hf] at hg
      clear hx1
      by_cases hend : s.size ≤ a + k
      · rw [drop_end s _ hend, getB_end] at hg
        have HA := Lib.hid (getN_bad hl hg.symm (by decide))
        clear hg hp hx2
        have hge : (s.size : Int) - (k : Int) ≤ (a : Int) := by omega
        go_wp2
        exact bodyPost_ret (v := .agg #[.int .i64 0, .int .i64 0, .int .i64 4]) (by simp [results, Tryd.results14, go_sem]) rfl ⟨by rw [HA.out]; rfl, HBL.out _⟩
      · have hlt : a + k < s.size := by omega
        rw [drop_at s _ hlt] at hg
        have hb := s[a + k].toNat_lt
        have hnge : ¬ (s.size : Int) - (k : Int) ≤ (a : Int) := by omega
        have c128 : (s[a + k].toNat : Int) ≤ 255 := by omega
        by_cases h9 : k = 9 ∧ 1 < s[a + k].toNat
        · rw [getB_tenth h9.1 h9.2] at hg
          have HA := Lib.hid (getN_bad hl hg.symm (by decide))
          clear hg hp hx2
          obtain ⟨rfl, h91⟩ := h9
          go_wp2
          exact bodyPost_ret (v := .agg #[.int .i64 0, .int .i64 0, .int .i64 3]) (by simp [results, Tryd.results14, go_sem]) rfl ⟨by rw [HA.out]; rfl, HBL.out _⟩
        by_cases hz : s[a + k].toNat = 0 ∧ 0 < k
        · rw [getB_nought h9 hz.1 hz.2] at hg
          have HA := Lib.hid (getN_bad hl hg.symm (by decide))
          clear hg hp hx2
          go_wp2
          all_goals exact bodyPost_ret (v := .agg #[.int .i64 0, .int .i64 0, .int .i64 3]) (by simp [results, Tryd.results14, go_sem]) rfl ⟨by rw [HA.out]; rfl, HBL.out _⟩
        by_cases k9 : k = 9
        · have hc1 : s[a + k].toNat = 1 := by omega
          have h128 : s[a + k].toNat < 128 := by omega
          rw [getB_last h9 h128 hz, hc1] at hg
          obtain rfl : k = 9 := k9
          have hx3 : x < 9223372036854775808 := by
            have e : (128 : Int) ^ 9 = 9223372036854775808 := by decide
            omega
          have hu : x + ((1 : Nat) : Int) % 128 * 128 ^ 9 = x + 9223372036854775808 := by
            have e : (128 : Int) ^ 9 = 9223372036854775808 := by decide
            omega
          rw [hu] at hg
          have hA := getN_ok hl hg.symm
          have hd1 : ((9 : Int) == 9) = true := by decide
          clear hg hp hx2 hu h9 hz
          by_cases hodd : (x + 9223372036854775808) % 2 = 1
          · have HA : Hid (getN s (a : Int) = (-((x + 9223372036854775808) / 2) - 1, (a : Int) + 9 + 1, 0)) := by
              have h : getN s (a : Int) = (-((x + 9223372036854775808) / 2) - 1, (a : Int) + 9 + 1, 0) := by
                rw [hA]; unfold unfoldN; rw [if_pos hodd]; simp; omega
              exact h
            have hb1 : ((x + 9223372036854775808) % 2 == 1) = true := by rw [hodd]; rfl
            clear hA hodd
            go_wp2
            exact bodyPost_ret (v := .agg #[.int .i64 (-((x + 9223372036854775808) / 2) - 1), .int .i64 ((a : Int) + 9 + 1), .int .i64 0]) (by simp [results, Tryd.results14, go_sem]) rfl ⟨by rw [HA.out]; rfl, HBL.out _⟩
          · have HA : Hid (getN s (a : Int) = ((x + 9223372036854775808) / 2, (a : Int) + 9 + 1, 0)) := by
              have h : getN s (a : Int) = ((x + 9223372036854775808) / 2, (a : Int) + 9 + 1, 0) := by
                rw [hA]; unfold unfoldN; rw [if_neg hodd]; simp; omega
              exact h
            have hb1 : ((x + 9223372036854775808) % 2 == 1) = false := by simpa using hodd
            clear hA hodd
            go_wp2
            exact bodyPost_ret (v := .agg #[.int .i64 ((x + 9223372036854775808) / 2), .int .i64 ((a : Int) + 9 + 1), .int .i64 0]) (by simp [results, Tryd.results14, go_sem]) rfl ⟨by rw [HA.out]; rfl, HBL.out _⟩
        · have hk9 : ((k : Int) == 9) = false := by simp; omega
          have hp8 : (128 : Int) ^ k ≤ 72057594037927936 := by
            have h1 : (128 : Nat) ^ k ≤ 128 ^ 8 := Nat.pow_le_pow_right (by omega) (by omega)
            have h2 : (128 : Int) ^ k ≤ 128 ^ 8 := by exact_mod_cast h1
            have h3 : (128 : Int) ^ 8 = 72057594037927936 := by decide
            omega
          have hpk : (128 : Int) ^ (k + 1) = 128 ^ k * 128 := Int.pow_succ _ _
          obtain ⟨z, hzd⟩ : ∃ z : Int, (s[a + k].toNat : Int) % 128 * 128 ^ k = z := ⟨_, rfl⟩
          have hz0 : 0 ≤ z := by rw [← hzd]; exact Int.mul_nonneg (by omega) (by omega)
          have hz1 : z ≤ 127 * 128 ^ k := by rw [← hzd]; exact Int.mul_le_mul_of_nonneg_right (by omega) (by omega)
          have hx3 : x < 72057594037927936 := by omega
          have hz2 : z ≤ 9151314442816847872 := by omega
          have hxz : x + z < 128 ^ (k + 1) := by omega
          have hsh : IntKind.u64.wrap ((s[a + k].toNat : Int) % 128 * 2 ^ (7 * k)) = z := by
            rw [shl7, hzd, IntKind.wrap_u64]; omega
          by_cases h128 : s[a + k].toNat < 128
          · rw [getB_last h9 h128 hz, hzd] at hg
            have hA := getN_ok hl hg.symm
            have h128' : (s[a + k].toNat : Int) < 128 := by omega
            have hz' : decide (s[a + k].toNat = 0 ∧ 0 < k) = false := by simpa using hz
            have hdz : ((s[a + k].toNat : Int) == 0) = false ∨ (((s[a + k].toNat : Int) == 0) = true ∧ decide (0 < k) = false) := by
              by_cases h0 : s[a + k].toNat = 0
              · right; exact ⟨by simp [h0], by simp; omega⟩
              · left; simp [h0]
            clear hg hp hx2 hzd hz hz' hp8 hpk hz1 hxz
            rcases hdz with hdz | ⟨hdz, hdk⟩
            all_goals
              by_cases hodd : (x + z) % 2 = 1
              · have HA : Hid (getN s (a : Int) = (-((x + z) / 2) - 1, (a : Int) + (k : Int) + 1, 0)) := by
                  have h : getN s (a : Int) = (-((x + z) / 2) - 1, (a : Int) + (k : Int) + 1, 0) := by
                    rw [hA]; unfold unfoldN; rw [if_pos hodd]; simp; omega
                  exact h
                have hb1 : ((x + z) % 2 == 1) = true := by rw [hodd]; rfl
                clear hA hodd
                go_wp2
                exact bodyPost_ret (v := .agg #[.int .i64 (-((x + z) / 2) - 1), .int .i64 ((a : Int) + (k : Int) + 1), .int .i64 0]) (by simp [results, Tryd.results14, go_sem]) rfl ⟨by rw [HA.out]; rfl, HBL.out _⟩
              · have HA : Hid (getN s (a : Int) = ((x + z) / 2, (a : Int) + (k : Int) + 1, 0)) := by
                  have h : getN s (a : Int) = ((x + z) / 2, (a : Int) + (k : Int) + 1, 0) := by
                    rw [hA]; unfold unfoldN; rw [if_neg hodd]; simp; omega
                  exact h
                have hb1 : ((x + z) % 2 == 1) = false := by simpa using hodd
                clear hA hodd
                go_wp2
                exact bodyPost_ret (v := .agg #[.int .i64 ((x + z) / 2), .int .i64 ((a : Int) + (k : Int) + 1), .int .i64 0]) (by simp [results, Tryd.results14, go_sem]) rfl ⟨by rw [HA.out]; rfl, HBL.out _⟩
          · rw [getB_more h9 h128, hzd] at hg
            have HG := Lib.hid hg
            have HX := Lib.hid hxz
            have h128' : ¬ (s[a + k].toNat : Int) < 128 := by omega
            clear hg hp hx2 hzd hz hp8 hpk hz1 hxz h128
            go_wp2
            go_round
            case rel =>
              have hff : 10 - (k + 1) = f := by omega
              exact ⟨k + 1, x + z, by omega, by go_num, rfl, by omega, fun _ => HX.out, by rw [hff]; exact HG.out⟩
            case measure => simp [intOf]; omega
    · obtain rfl : k = 10 := by omega
      have hg2 : getB 10 0 0 (s.data.toList.drop a) = (0, 0, 3) := hg.symm
      have HA := Lib.hid (getN_bad hl hg2 (by decide))
      clear hg hg2
      go_wp2
      exact bodyPost_ret (v := .agg #[.int .i64 0, .int .i64 0, .int .i64 3]) (by simp [results, Tryd.results14, go_sem]) rfl ⟨by rw [HA.out]; rfl, HBL.out _⟩

end Go.Proofs.YtoabhpgiaieopaaDoor

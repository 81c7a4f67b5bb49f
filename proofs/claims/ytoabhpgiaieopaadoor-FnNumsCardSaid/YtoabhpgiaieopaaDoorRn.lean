/- Walks: GetNum in the program: placeFault, unfolded, readNum (a loop of goto), GetNum. -/
import Derived.Test.YtoabhpgiaieopaaDoorGn
import Derived.Test.YtoabhpgiaieopaaDoorAs
namespace Go.Proofs.YtoabhpgiaieopaaDoor
open Go.RowKit

def errV (c : Int) : Value := if c = 0 then .nilIface else .iface 59 (.agg #[.int .i64 c])
theorem errV_ok : errV 0 = .nilIface := rfl
theorem errV_bad {c : Int} (h : c ≠ 0) : errV c = .iface 59 (.agg #[.int .i64 c]) := by unfold errV; rw [if_neg h]

def placeF (s : ByteArray) (a : Int) : Int := if 8000 < s.size then 2 else if a < 0 then 1 else if (s.size : Int) < a then 4 else 0

set_option maxHeartbeats 400000 in
theorem placeFault_any (s : ByteArray) (a : Int) (w : World) (hs : s.size ≤ maxLen) :
    Calls Tryd.prog 30 #[.string s, .int .i64 a] w fun e w' => e = .returned (.int .i64 (placeF s a)) ∧ w = w' := by
  unfold maxLen at hs
  by_cases h1 : 8000 < s.size
  · have HA : Hid (placeF s a = 2) := by
      have h : placeF s a = 2 := by unfold placeF; rw [if_pos h1]
      exact h
    go_enter Tryd.func30, Tryd.ntmps30
    go_wp2
    go_ret
    exact ⟨ret_int HA.out.symm, rfl⟩
  by_cases h2 : a < 0
  · have HA : Hid (placeF s a = 1) := by
      have h : placeF s a = 1 := by unfold placeF; rw [if_neg h1, if_pos h2]
      exact h
    go_enter Tryd.func30, Tryd.ntmps30
    go_wp2
    go_ret
    exact ⟨ret_int HA.out.symm, rfl⟩
  by_cases h3 : (s.size : Int) < a
  · have HA : Hid (placeF s a = 4) := by
      have h : placeF s a = 4 := by unfold placeF; rw [if_neg h1, if_neg h2, if_pos h3]
      exact h
    go_enter Tryd.func30, Tryd.ntmps30
    go_wp2
    go_ret
    exact ⟨ret_int HA.out.symm, rfl⟩
  · have HA : Hid (placeF s a = 0) := by
      have h : placeF s a = 0 := by unfold placeF; rw [if_neg h1, if_neg h2, if_neg h3]
      exact h
    go_enter Tryd.func30, Tryd.ntmps30
    go_wp2
    go_ret
    exact ⟨ret_int HA.out.symm, rfl⟩

theorem and_one_u64' (x : Int) (h0 : 0 ≤ x) (h1 : x ≤ 18446744073709551615) : bits .and .u64 x 1 = x % 2 := by
  obtain ⟨n, rfl⟩ := Int.eq_ofNat_of_zero_le h0
  rw [show (1 : Int) = ((1 : Nat) : Int) from rfl, bits_and_u64_nat _ _ (by omega) (by omega), Nat.and_one_is_mod]
  omega
theorem xor_min_i64 (x : Int) (h0 : 0 ≤ x) (h1 : x ≤ 9223372036854775807) : bits .xor .i64 (-1) x = -x - 1 := by
  obtain ⟨n, rfl⟩ := Int.eq_ofNat_of_zero_le h0
  have h2 : (BitVec.ofInt 64 (-1) ^^^ BitVec.ofInt 64 (n : Int)).toNat = 18446744073709551615 - n := by
    have e : BitVec.ofInt 64 (-1) = BitVec.allOnes 64 := by decide
    rw [e, BitVec.allOnes_xor, BitVec.toNat_not, ofInt_toNat 64 n (by omega)]
  show IntKind.i64.wrap ((BitVec.ofInt 64 (-1) ^^^ BitVec.ofInt 64 (n : Int)).toNat : Int) = _
  rw [h2, IntKind.wrap_i64]
  omega

set_option maxHeartbeats 400000 in
theorem unfolded_any (u : Int) (w : World) (h0 : 0 ≤ u) (h1 : u ≤ 18446744073709551615) :
    Calls Tryd.prog 31 #[.int .u64 u] w fun e w' => e = .returned (.int .i64 (unfoldN u)) ∧ w = w' := by
  have hand := and_one_u64' u h0 h1
  by_cases ho : u % 2 = 1
  · have HA : Hid (unfoldN u = -(u / 2) - 1) := by
      have h : unfoldN u = -(u / 2) - 1 := by unfold unfoldN; rw [if_pos ho]
      exact h
    rw [ho] at hand
    have hxx := xor_min_i64 (u / 2) (by omega) (by omega)
    go_enter Tryd.func31, Tryd.ntmps31
    go_wp2
    go_ret
    exact ⟨ret_int HA.out.symm, rfl⟩
  · have HA : Hid (unfoldN u = u / 2) := by
      have h : unfoldN u = u / 2 := by unfold unfoldN; rw [if_neg ho]
      exact h
    rw [show u % 2 = 0 by omega] at hand
    go_enter Tryd.func31, Tryd.ntmps31
    go_wp2
    go_ret
    exact ⟨ret_int HA.out.symm, rfl⟩

theorem and_127_u8 (x : Int) (h0 : 0 ≤ x) (h1 : x ≤ 255) : bits .and .u8 x 127 = x % 128 := by
  have key : ∀ n : Fin 256, bits .and .u8 ((n.val : Nat) : Int) 127 = ((n.val : Nat) : Int) % 128 := by decide +kernel
  have := key ⟨x.toNat, by omega⟩
  rw [show (((⟨x.toNat, by omega⟩ : Fin 256).val : Nat) : Int) = x from by simp; omega] at this
  exact this

/-- A number below 128^k, and one that begins there, put together bit by bit. -/
theorem or_join (k : Nat) (u c : Int) (hk : k ≤ 8) (hu0 : 0 ≤ u) (hu : u < 128 ^ k) (hc0 : 0 ≤ c) (hc : c < 128) : bits .or .u64 u (c * 128 ^ k) = u + c * 128 ^ k := by
  obtain ⟨n, rfl⟩ := Int.eq_ofNat_of_zero_le hu0
  obtain ⟨m, rfl⟩ := Int.eq_ofNat_of_zero_le hc0
  have e : ((m : Int) * 128 ^ k) = ((m * 2 ^ (7 * k) : Nat) : Int) := by
    rw [Nat.pow_mul]; simp
  have hn : n < 2 ^ (7 * k) := by
    rw [Nat.pow_mul]; exact_mod_cast hu
  have h63 : 2 ^ (7 * k) ≤ 2 ^ 56 := Nat.pow_le_pow_right (by omega) (by omega)
  have hm : m * 2 ^ (7 * k) ≤ 127 * 2 ^ 56 := Nat.mul_le_mul (by omega) h63
  rw [e, bits_or_u64_nat _ _ (by omega) (by omega), Nat.or_comm]
  have h := Nat.two_pow_add_eq_or_of_lt hn m
  rw [Nat.mul_comm m, ← h]
  omega

theorem or_ninth (u : Int) (hu0 : 0 ≤ u) (hu : u < 9223372036854775808) : bits .or .u64 u 9223372036854775808 = u + 9223372036854775808 := by
  obtain ⟨n, rfl⟩ := Int.eq_ofNat_of_zero_le hu0
  rw [show (9223372036854775808 : Int) = ((9223372036854775808 : Nat) : Int) from rfl, bits_or_u64_nat _ _ (by omega) (by omega), Nat.or_comm]
  have h := Nat.two_pow_add_eq_or_of_lt (i := 63) (b := n) (by omega) 1
  rw [Nat.mul_one] at h
  rw [show (9223372036854775808 : Nat) = 2 ^ 63 by decide, ← h]
  omega

theorem getN_place {s : ByteArray} {at_ : Int} (h : placeF s at_ ≠ 0) : getN s at_ = (0, 0, placeF s at_) := by
  by_cases h1 : 8000 < s.size
  · have e : placeF s at_ = 2 := by unfold placeF; rw [if_pos h1]
    rw [e, getN_long h1]
  by_cases h2 : at_ < 0
  · have e : placeF s at_ = 1 := by unfold placeF; rw [if_neg h1, if_pos h2]
    rw [e, getN_neg h1 h2]
  by_cases h3 : (s.size : Int) < at_
  · have e : placeF s at_ = 4 := by unfold placeF; rw [if_neg h1, if_neg h2, if_pos h3]
    obtain ⟨a, rfl⟩ := Int.eq_ofNat_of_zero_le (show 0 ≤ at_ by omega)
    rw [e]
    exact getN_bad h1 (by rw [drop_end s a (by omega)]; rfl) (by decide)
  · exact absurd (by unfold placeF; rw [if_neg h1, if_neg h2, if_neg h3]) h

/-- What holds at each label of readNum: 1 (more), 2 (last), 0 (wrong). -/
def Jn (s : ByteArray) (at_ : Int) (w0 : World) : Nat → Act → World → Prop
  | 0, act, w => w = w0 ∧ ∃ (c : Int), c ≠ 0 ∧ getN s at_ = (0, 0, c) ∧ ∃ t : Value, ∃ v2 v3 v4 v5 v6 v7 v8 v9 v11 v12 v13 v14 v15 v16 v17 v18 v19 v20 v21 v22 v23 v24 v25 v26 v27 v28 v29 v30 v31 v32 v33 v34 v35 v36 v37 v38 v39 v40 v41 v42 v43 v44 v45 v46 v47 v48 v49 v50 v51 v52 v53 v54 v55 v56 v57 v58 v59 v60 v61 v62 v63 : Value, 
      act = { tmps := #[t, .int .i64 at_, v2, v3, v4, v5, v6, v7, v8, v9, .int .i64 c, v11, v12, v13, v14, v15, v16, v17, v18, v19, v20, v21, v22, v23, v24, v25, v26, v27, v28, v29, v30, v31, v32, v33, v34, v35, v36, v37, v38, v39, v40, v41, v42, v43, v44, v45, v46, v47, v48, v49, v50, v51, v52, v53, v54, v55, v56, v57, v58, v59, v60, v61, v62, v63], defers := [] }
  | 1, act, w => w = w0 ∧ ∃ (T : ByteArray) (a k : Nat) (u b : Int), at_ = (a : Int) ∧ a ≤ s.size ∧ s.size ≤ 8000 ∧ T.data.toList = s.data.toList.drop a ∧ k ≤ T.size ∧ 1 ≤ k ∧ k ≤ 9 ∧ 0 ≤ u ∧ u < 128 ^ k ∧
      getB (10 - k) k u (T.data.toList.drop k) = getB 10 0 0 T.data.toList ∧ ∃ v2 v3 v4 v5 v6 v11 v12 v13 v14 v15 v16 v17 v18 v19 v20 v21 v22 v23 v24 v25 v26 v27 v28 v29 v30 v31 v32 v33 v34 v35 v36 v37 v38 v39 v40 v41 v42 v43 v44 v45 v46 v47 v48 v49 v50 v51 v52 v53 v54 v55 v56 v57 v58 v59 v60 v61 v62 v63 : Value, 
      act = { tmps := #[.string T, .int .i64 (a : Int), v2, v3, v4, v5, v6, .int .u64 u, .int .u8 b, .int .i64 (k : Int), .int .i64 0, v11, v12, v13, v14, v15, v16, v17, v18, v19, v20, v21, v22, v23, v24, v25, v26, v27, v28, v29, v30, v31, v32, v33, v34, v35, v36, v37, v38, v39, v40, v41, v42, v43, v44, v45, v46, v47, v48, v49, v50, v51, v52, v53, v54, v55, v56, v57, v58, v59, v60, v61, v62, v63], defers := [] }
  | 2, act, w => w = w0 ∧ ∃ (T : ByteArray) (a k : Nat) (u b : Int), at_ = (a : Int) ∧ a ≤ s.size ∧ s.size ≤ 8000 ∧ 1 ≤ k ∧ k ≤ 10 ∧ 0 ≤ b ∧ b ≤ 255 ∧
      ((((k = 10 ∧ 1 < b) ∨ (1 < k ∧ b = 0)) ∧ getN s at_ = (0, 0, 3)) ∨ (¬ ((k = 10 ∧ 1 < b) ∨ (1 < k ∧ b = 0)) ∧ 0 ≤ u ∧ u ≤ 18446744073709551615 ∧ getN s at_ = (unfoldN u, (a : Int) + (k : Int), 0))) ∧ ∃ v2 v3 v4 v5 v6 v11 v12 v13 v14 v15 v16 v17 v18 v19 v20 v21 v22 v23 v24 v25 v26 v27 v28 v29 v30 v31 v32 v33 v34 v35 v36 v37 v38 v39 v40 v41 v42 v43 v44 v45 v46 v47 v48 v49 v50 v51 v52 v53 v54 v55 v56 v57 v58 v59 v60 v61 v62 v63 : Value, 
      act = { tmps := #[.string T, .int .i64 (a : Int), v2, v3, v4, v5, v6, .int .u64 u, .int .u8 b, .int .i64 (k : Int), .int .i64 0, v11, v12, v13, v14, v15, v16, v17, v18, v19, v20, v21, v22, v23, v24, v25, v26, v27, v28, v29, v30, v31, v32, v33, v34, v35, v36, v37, v38, v39, v40, v41, v42, v43, v44, v45, v46, v47, v48, v49, v50, v51, v52, v53, v54, v55, v56, v57, v58, v59, v60, v61, v62, v63], defers := [] }
  | _, _, _ => False
def muN : Nat → Act → World → Nat
  | 1, act, _ => 20 - (intOf (act.tmps.getD 9 undef)).toNat
  | 2, _, _ => 1
  | _, _, _ => 0

set_option maxHeartbeats 4000000 in
set_option maxRecDepth 100000 in
theorem readNum_any (s : ByteArray) (at_ : Int) (w : World) (hs : s.size ≤ maxLen) (h0 : -9223372036854775808 ≤ at_) (h1 : at_ ≤ 9223372036854775807) :
    Calls Tryd.prog 22 #[.string s, .int .i64 at_] w fun e w' => e = .returned (.tuple #[.int .i64 (getN s at_).1, .int .i64 (getN s at_).2.1, errV (getN s at_).2.2]) ∧ w = w' := by
  go_enter Tryd.func22, Tryd.ntmps22
  go_wp2
  refine wp_scope_labels (Jn s at_ w) muN ?_ ?_
  · unfold maxLen at hs
    by_cases hpf : placeF s at_ = 0
    · have HC : Hid (∀ w, Calls Tryd.prog 30 #[.string s, .int .i64 at_] w fun e w' => e = .returned (.int .i64 0) ∧ w = w') := fun w => by
        have h := placeFault_any s at_ w hs
        rw [hpf] at h
        exact h
      obtain ⟨a, rfl, ha, hs8⟩ : ∃ a : Nat, at_ = (a : Int) ∧ a ≤ s.size ∧ s.size ≤ 8000 := by
        unfold placeF at hpf
        split at hpf
        · omega
        · split at hpf
          · omega
          · split at hpf
            · omega
            · exact ⟨at_.toNat, by omega, by omega, by omega⟩
      have hsl : ∀ W, (Instr.slice 9 (.string s) (some (.int .i64 (a : Int))) none none).run Tryd.prog W = .ok (.string (s.extract a s.size)) W := fun W => by
        have := run_slice_string_l (P := Tryd.prog) W 9 s Tryd.underlying9 .i64 (a : Int) (by omega) (by omega)
        rw [this, Int.toNat_natCast]
      have hT : (s.extract a s.size).data.toList = s.data.toList.drop a := by
        rw [Lib.extract_data, List.take_of_length_le (by simp)]
      have hTs : (s.extract a s.size).size = s.size - a := by rw [ByteArray.size_extract]; omega
      generalize s.extract a s.size = T at hsl hT hTs
      have hl8 : ¬ 8000 < s.size := by omega
      have HT := Lib.hid hT
      have HGN : Hid (∀ {x : Int × Nat × Int}, getB 10 0 0 T.data.toList = x → getB 10 0 0 (s.data.toList.drop a) = x) := fun h => by rw [← HT.out]; exact h
      have hT8 : T.size ≤ 8000 := by omega
      have HTs := Lib.hid hTs
      clear hT hTs hpf
      have hg : getB 10 0 0 (T.data.toList.drop 0) = getB 10 0 0 T.data.toList := by rw [List.drop_zero]
      by_cases hend : T.size = 0
      · rw [drop_end T 0 (by omega), getB_end] at hg
        have HA := Lib.hid (getN_bad hl8 (HGN.out hg.symm) (by decide))
        have he : ((0 : Int) == (T.size : Int)) = true := by rw [hend]; rfl
        clear hg
        go_wp2_with (go_at_call 30; refine (HC.out _).mono ?_; rintro e w' ⟨rfl, rfl⟩)
        go_step3
        go_wp2
        go_step3
        exact ⟨rfl, 4, by decide, HA.out, _, _, _, _, _, _, _, _, _, _, _, _, _, _, _, _, _, _, _, _, _, _, _, _, _, _, _, _, _, _, _, _, _, _, _, _, _, _, _, _, _, _, _, _, _, _, _, _, _, _, _, _, _, _, _, _, _, _, _, _, _, _, rfl⟩
      · have hlt : 0 < T.size := by omega
        rw [drop_at T 0 hlt] at hg
        have hb := T[0].toNat_lt
        have c255 : (T[0].toNat : Int) ≤ 255 := by omega
        have he : ((0 : Int) == (T.size : Int)) = false := by simp; omega
        have hand := and_127_u8 (T[0].toNat : Int) (by omega) c255
        have hor0 : bits .or .u64 0 ((T[0].toNat : Int) % 128) = (T[0].toNat : Int) % 128 := by
          have h := or_join 0 0 ((T[0].toNat : Int) % 128) (by omega) (by omega) (by decide) (by omega) (by omega)
          simpa using h
        have hval : ∀ x : Int, (0 : Int) + x * (128 : Int) ^ 0 = x := fun x => by simp
        by_cases h128 : T[0].toNat < 128
        · have h128' : decide ((T[0].toNat : Int) < 128) = true := by simp; omega
          rw [getB_last (by omega) h128 (by omega), hval] at hg
          have HA := Lib.hid (getN_ok hl8 (HGN.out hg.symm))
          clear hg hval
          go_wp2_with (go_at_call 30; refine (HC.out _).mono ?_; rintro e w' ⟨rfl, rfl⟩)
          go_step3
          go_wp2
          go_step3
          exact ⟨rfl, T, a, 1, _, (T[0].toNat : Int), rfl, ha, hs8, by omega, by omega, by omega, by omega, .inr ⟨by omega, by omega, by omega, HA.out⟩, _, _, _, _, _, _, _, _, _, _, _, _, _, _, _, _, _, _, _, _, _, _, _, _, _, _, _, _, _, _, _, _, _, _, _, _, _, _, _, _, _, _, _, _, _, _, _, _, _, _, _, _, _, _, _, _, _, _, rfl⟩
        · have h128' : decide ((T[0].toNat : Int) < 128) = false := by simp; omega
          rw [getB_more (by omega) h128, hval] at hg
          have HG := Lib.hid hg
          clear hg hval
          go_wp2_with (go_at_call 30; refine (HC.out _).mono ?_; rintro e w' ⟨rfl, rfl⟩)
          go_step3
          go_wp2
          go_step3
          exact ⟨rfl, T, a, 1, (T[0].toNat : Int) % 128, (T[0].toNat : Int), rfl, ha, hs8, HT.out, by omega, by omega, by omega, by omega, by rw [Int.pow_one]; omega, HG.out, _, _, _, _, _, _, _, _, _, _, _, _, _, _, _, _, _, _, _, _, _, _, _, _, _, _, _, _, _, _, _, _, _, _, _, _, _, _, _, _, _, _, _, _, _, _, _, _, _, _, _, _, _, _, _, _, _, _, rfl⟩
    · have HC := Lib.hid (fun w => placeFault_any s at_ w hs)
      have hne : (placeF s at_ != 0) = true := by simpa using hpf
      go_wp2_with (go_at_call 30; refine (HC.out _).mono ?_; rintro e w' ⟨rfl, rfl⟩)
      go_step3
      exact ⟨rfl, placeF s at_, hpf, getN_place hpf, _, _, _, _, _, _, _, _, _, _, _, _, _, _, _, _, _, _, _, _, _, _, _, _, _, _, _, _, _, _, _, _, _, _, _, _, _, _, _, _, _, _, _, _, _, _, _, _, _, _, _, _, _, _, _, _, _, _, _, _, _, _, rfl⟩
  · intro l act w' hJ
    rcases l with _ | _ | _ | l
    · obtain ⟨rfl, c, hc, hg, t, v2, v3, v4, v5, v6, v7, v8, v9, v11, v12, v13, v14, v15, v16, v17, v18, v19, v20, v21, v22, v23, v24, v25, v26, v27, v28, v29, v30, v31, v32, v33, v34, v35, v36, v37, v38, v39, v40, v41, v42, v43, v44, v45, v46, v47, v48, v49, v50, v51, v52, v53, v54, v55, v56, v57, v58, v59, v60, v61, v62, v63, rfl⟩ := hJ
      refine ⟨_, rfl, ?_⟩
      have HG := Lib.hid hg
      clear hg
      go_wp2
      rw [Exit.jumps_ret]
      go_ret3
      exact ⟨by rw [HG.out, errV_bad hc]; rfl, rfl⟩
    · obtain ⟨rfl, T, a, k, u, b, rfl, ha, hs8, hT, hkT, hk1, hk9, hu0, hu1, hg, v2, v3, v4, v5, v6, v11, v12, v13, v14, v15, v16, v17, v18, v19, v20, v21, v22, v23, v24, v25, v26, v27, v28, v29, v30, v31, v32, v33, v34, v35, v36, v37, v38, v39, v40, v41, v42, v43, v44, v45, v46, v47, v48, v49, v50, v51, v52, v53, v54, v55, v56, v57, v58, v59, v60, v61, v62, v63, rfl⟩ := hJ
      refine ⟨_, rfl, ?_⟩
      have HT := Lib.hid hT
      have hgN : ∀ {x : Int × Nat × Int}, getB 10 0 0 T.data.toList = x → getB 10 0 0 (s.data.toList.drop a) = x := fun h => by rw [← HT.out]; exact h
      have HGN : Hid (∀ {x : Int × Nat × Int}, getB 10 0 0 T.data.toList = x → getB 10 0 0 (s.data.toList.drop a) = x) := @hgN
      clear hT hgN
      have hl8 : ¬ 8000 < s.size := by omega
      obtain ⟨f, hf⟩ : ∃ f, 10 - k = f + 1 := ⟨9 - k, by omega⟩
      rw [hf] at hg
      by_cases hend : k = T.size
      · rw [drop_end T k (by omega), getB_end] at hg
        have HA := Lib.hid (getN_bad hl8 (HGN.out hg.symm) (by decide))
        have he : ((k : Int) == (T.size : Int)) = true := by rw [hend]; simp
        clear hg
        go_wp2
        go_step3
        exact ⟨⟨rfl, 4, by decide, HA.out, _, _, _, _, _, _, _, _, _, _, _, _, _, _, _, _, _, _, _, _, _, _, _, _, _, _, _, _, _, _, _, _, _, _, _, _, _, _, _, _, _, _, _, _, _, _, _, _, _, _, _, _, _, _, _, _, _, _, _, _, _, _, rfl⟩, by simp [muN, intOf]; omega⟩
      · have hlt : k < T.size := by omega
        rw [drop_at T k hlt] at hg
        have hb := T[k].toNat_lt
        have c255 : (T[k].toNat : Int) ≤ 255 := by omega
        have he : ((k : Int) == (T.size : Int)) = false := by simp; omega
        have hand := and_127_u8 (T[k].toNat : Int) (by omega) c255
        by_cases k9 : k = 9
        · obtain rfl := k9
          have hd10 : (((9 : Nat) : Int) + 1 == 10) = true := by decide
          by_cases hb1 : 1 < T[9].toNat
          · rw [getB_tenth rfl hb1] at hg
            have HA := Lib.hid (getN_bad hl8 (HGN.out hg.symm) (by decide))
            clear hg
            go_wp2
            all_goals
              go_step3
              exact ⟨⟨rfl, T, a, 10, _, _, rfl, ha, hs8, by omega, by omega, by omega, by omega, .inl ⟨.inl ⟨rfl, by omega⟩, HA.out⟩, _, _, _, _, _, _, _, _, _, _, _, _, _, _, _, _, _, _, _, _, _, _, _, _, _, _, _, _, _, _, _, _, _, _, _, _, _, _, _, _, _, _, _, _, _, _, _, _, _, _, _, _, _, _, _, _, _, _, rfl⟩, by simp [muN, intOf]⟩
          by_cases hb0 : T[9].toNat = 0
          · rw [getB_nought (by omega) hb0 (by omega)] at hg
            have HA := Lib.hid (getN_bad hl8 (HGN.out hg.symm) (by decide))
            clear hg
            go_wp2
            all_goals
              go_step3
              exact ⟨⟨rfl, T, a, 10, _, _, rfl, ha, hs8, by omega, by omega, by omega, by omega, .inl ⟨.inr ⟨by omega, by omega⟩, HA.out⟩, _, _, _, _, _, _, _, _, _, _, _, _, _, _, _, _, _, _, _, _, _, _, _, _, _, _, _, _, _, _, _, _, _, _, _, _, _, _, _, _, _, _, _, _, _, _, _, _, _, _, _, _, _, _, _, _, _, _, rfl⟩, by simp [muN, intOf]⟩
          have hc1 : T[9].toNat = 1 := by omega
          have hx3 : u < 9223372036854775808 := by
            have e : (128 : Int) ^ 9 = 9223372036854775808 := by decide
            omega
          rw [getB_last (by omega) (by omega) (by omega), hc1] at hg
          have hu : u + ((1 : Nat) : Int) % 128 * 128 ^ 9 = u + 9223372036854775808 := by
            have e : (128 : Int) ^ 9 = 9223372036854775808 := by decide
            omega
          rw [hu] at hg
          have HA := Lib.hid (getN_ok hl8 (HGN.out hg.symm))
          have hor9 := or_ninth u hu0 hx3
          have hand1 : bits .and .u8 1 127 = 1 := by decide +kernel
          clear hg hu
          go_wp2
          all_goals
            go_step3
            exact ⟨⟨rfl, T, a, 10, _, _, rfl, ha, hs8, by omega, by omega, by omega, by omega, .inr ⟨by omega, by omega, by omega, HA.out⟩, _, _, _, _, _, _, _, _, _, _, _, _, _, _, _, _, _, _, _, _, _, _, _, _, _, _, _, _, _, _, _, _, _, _, _, _, _, _, _, _, _, _, _, _, _, _, _, _, _, _, _, _, _, _, _, _, _, _, rfl⟩, by simp [muN, intOf]⟩
        · have hd10 : ((k : Int) + 1 == 10) = false := by simp; omega
          have hp8 : (128 : Int) ^ k ≤ 72057594037927936 := by
            have h1 : (128 : Nat) ^ k ≤ 128 ^ 8 := Nat.pow_le_pow_right (by omega) (by omega)
            have h2 : (128 : Int) ^ k ≤ 128 ^ 8 := by exact_mod_cast h1
            have h3 : (128 : Int) ^ 8 = 72057594037927936 := by decide
            omega
          have hpk : (128 : Int) ^ (k + 1) = 128 ^ k * 128 := Int.pow_succ _ _
          have hjoin := or_join k u ((T[k].toNat : Int) % 128) (by omega) hu0 hu1 (by omega) (by omega)
          obtain ⟨z, hzd⟩ : ∃ z : Int, (T[k].toNat : Int) % 128 * 128 ^ k = z := ⟨_, rfl⟩
          have hz0 : 0 ≤ z := by rw [← hzd]; exact Int.mul_nonneg (by omega) (by omega)
          have hz1 : z ≤ 127 * 128 ^ k := by rw [← hzd]; exact Int.mul_le_mul_of_nonneg_right (by omega) (by omega)
          have hu3 : u < 72057594037927936 := by omega
          have hz2 : z ≤ 9151314442816847872 := by omega
          have huz : u + z < 128 ^ (k + 1) := by omega
          have hsh : IntKind.u64.wrap ((T[k].toNat : Int) % 128 * 2 ^ (7 * k)) = z := by
            rw [shl7, hzd, IntKind.wrap_u64]; omega
          rw [hzd] at hjoin
          by_cases h128 : T[k].toNat < 128
          · have h128' : decide ((T[k].toNat : Int) < 128) = true := by simp; omega
            by_cases hb0 : T[k].toNat = 0
            · rw [getB_nought (by omega) hb0 (by omega)] at hg
              have HA := Lib.hid (getN_bad hl8 (HGN.out hg.symm) (by decide))
              have HB0 := Lib.hid hb0
              clear hg hzd hp8 hpk hz1 huz hb0
              go_wp2
              go_step3
              exact ⟨⟨rfl, T, a, k + 1, u + z, (T[k].toNat : Int), rfl, ha, hs8, by omega, by omega, by omega, by omega, .inl ⟨.inr ⟨by omega, by have := HB0.out; omega⟩, HA.out⟩, _, _, _, _, _, _, _, _, _, _, _, _, _, _, _, _, _, _, _, _, _, _, _, _, _, _, _, _, _, _, _, _, _, _, _, _, _, _, _, _, _, _, _, _, _, _, _, _, _, _, _, _, _, _, _, _, _, _, by simp only [Int.natCast_add, Int.natCast_one]; rfl⟩, by simp [muN, intOf]; omega⟩
            · rw [getB_last (by omega) h128 (by omega), hzd] at hg
              have HA := Lib.hid (getN_ok hl8 (HGN.out hg.symm))
              clear hg hzd hp8 hpk hz1 huz
              go_wp2
              go_step3
              exact ⟨⟨rfl, T, a, k + 1, u + z, (T[k].toNat : Int), rfl, ha, hs8, by omega, by omega, by omega, by omega, .inr ⟨by omega, by omega, by omega, HA.out⟩, _, _, _, _, _, _, _, _, _, _, _, _, _, _, _, _, _, _, _, _, _, _, _, _, _, _, _, _, _, _, _, _, _, _, _, _, _, _, _, _, _, _, _, _, _, _, _, _, _, _, _, _, _, _, _, _, _, _, by simp only [Int.natCast_add, Int.natCast_one]; rfl⟩, by simp [muN, intOf]; omega⟩
          · have h128' : decide ((T[k].toNat : Int) < 128) = false := by simp; omega
            rw [getB_more (by omega) h128, hzd] at hg
            have HG := Lib.hid hg
            have HX := Lib.hid huz
            clear hg hzd hp8 hpk hz1 huz
            go_wp2
            go_step3
            exact ⟨⟨rfl, T, a, k + 1, u + z, _, rfl, ha, hs8, HT.out, by omega, by omega, by omega, by omega, HX.out, by rw [show 10 - (k + 1) = f by omega]; exact HG.out, _, _, _, _, _, _, _, _, _, _, _, _, _, _, _, _, _, _, _, _, _, _, _, _, _, _, _, _, _, _, _, _, _, _, _, _, _, _, _, _, _, _, _, _, _, _, _, _, _, _, _, _, _, _, _, _, _, _, by simp only [Int.natCast_add, Int.natCast_one]; rfl⟩, by simp [muN, intOf]; omega⟩
    · obtain ⟨rfl, T, a, k, u, b, rfl, ha, hs8, hk1, hk10, hb0, hb1, hor, v2, v3, v4, v5, v6, v11, v12, v13, v14, v15, v16, v17, v18, v19, v20, v21, v22, v23, v24, v25, v26, v27, v28, v29, v30, v31, v32, v33, v34, v35, v36, v37, v38, v39, v40, v41, v42, v43, v44, v45, v46, v47, v48, v49, v50, v51, v52, v53, v54, v55, v56, v57, v58, v59, v60, v61, v62, v63, rfl⟩ := hJ
      refine ⟨_, rfl, ?_⟩
      rcases hor with ⟨hbad, hg⟩ | ⟨hok, hu0, hu1, hg⟩
      · have HG := Lib.hid hg
        clear hg
        rcases hbad with ⟨rfl, hb⟩ | ⟨hk, rfl⟩
        · have hd : (((10 : Nat) : Int) == 10) = true := by decide
          have hd2 : decide (1 < b) = true := by simpa using hb
          go_wp2
          go_step3
          exact ⟨⟨rfl, 3, by decide, HG.out, _, _, _, _, _, _, _, _, _, _, _, _, _, _, _, _, _, _, _, _, _, _, _, _, _, _, _, _, _, _, _, _, _, _, _, _, _, _, _, _, _, _, _, _, _, _, _, _, _, _, _, _, _, _, _, _, _, _, _, _, _, _, rfl⟩, by simp [muN]⟩
        · have hd2 : decide (1 < (k : Int)) = true := by simp; omega
          by_cases h10 : k = 10
          · have hd : ((k : Int) == 10) = true := by rw [h10]; rfl
            go_wp2
            go_step3
            exact ⟨⟨rfl, 3, by decide, HG.out, _, _, _, _, _, _, _, _, _, _, _, _, _, _, _, _, _, _, _, _, _, _, _, _, _, _, _, _, _, _, _, _, _, _, _, _, _, _, _, _, _, _, _, _, _, _, _, _, _, _, _, _, _, _, _, _, _, _, _, _, _, _, rfl⟩, by simp [muN]⟩
          · have hd : ((k : Int) == 10) = false := by simp; omega
            go_wp2
            go_step3
            exact ⟨⟨rfl, 3, by decide, HG.out, _, _, _, _, _, _, _, _, _, _, _, _, _, _, _, _, _, _, _, _, _, _, _, _, _, _, _, _, _, _, _, _, _, _, _, _, _, _, _, _, _, _, _, _, _, _, _, _, _, _, _, _, _, _, _, _, _, _, _, _, _, _, rfl⟩, by simp [muN]⟩
      · have HG := Lib.hid hg
        clear hg
        have hak : (a : Int) + (k : Int) ≤ 8010 := by omega
        have hdd : (((k : Int) == 10) = true ∧ decide (1 < b) = false ∧ decide (1 < (k : Int)) = true ∧ (b == 0) = false) ∨ (((k : Int) == 10) = false ∧ decide (1 < (k : Int)) = true ∧ (b == 0) = false) ∨ (((k : Int) == 10) = false ∧ decide (1 < (k : Int)) = false) := by
          by_cases h10 : k = 10
          · left; refine ⟨by rw [h10]; rfl, by simp; omega, by simp; omega, by simp; omega⟩
          · right
            by_cases hk : 1 < k
            · left; exact ⟨by simp; omega, by simp; omega, by simp; omega⟩
            · right; exact ⟨by simp; omega, by simp; omega⟩
        clear hok
        rcases hdd with ⟨hd1, hd2, hd3, hd4⟩ | ⟨hd1, hd3, hd4⟩ | ⟨hd1, hd3⟩
        all_goals
          go_wp2_with (go_at_call 31; refine (unfolded_any u _ hu0 hu1).mono ?_; rintro e w1 ⟨rfl, rfl⟩)
          rw [Exit.jumps_ret]
          go_ret3
          exact ⟨by rw [HG.out]; rfl, rfl⟩
    · exact hJ.elim

end Go.Proofs.YtoabhpgiaieopaaDoor

/- Plain facts on records, their bytes and words; no program is read here but by its numbers' names. -/
import Derived.Test.YtgcfnmaojdnchaaRr
import Derived.Test.YtgcfnmaojdnchaaIs
set_option maxRecDepth 100000
set_option linter.unusedSimpArgs false
namespace Go.Proofs.Ytgcfnmaojdnchaa
open Go.RowKit

theorem leB_leV : ∀ l : List UInt8, leB l.length (leV l) = l
  | [] => rfl
  | b :: r => by
    have hb := UInt8.toNat_lt b
    have h1 : ((b.toNat : Int) + 256 * leV r) % 256 = b.toNat := by omega
    have h2 : ((b.toNat : Int) + 256 * leV r) / 256 = leV r := by omega
    simp only [List.length_cons, leB, leV, h1, h2, leB_leV r, Int.toNat_natCast]
    simp
theorem leV_leB : ∀ (m : Nat) (n : Int), 0 ≤ n → n < 256 ^ m → leV (leB m n) = n
  | 0, n, h0, h1 => by simp at h1; simp [leB, leV]; omega
  | m + 1, n, h0, h1 => by
    rw [Int.pow_succ] at h1
    have ih := leV_leB m (n / 256) (by omega) (by omega)
    have hb : ((UInt8.ofNat (n % 256).toNat).toNat : Int) = n % 256 := byte_of_int (n % 256) (by omega) (by omega)
    simp only [leB, leV, ih, hb]
    omega
theorem leV4_leB (n : Int) (h0 : 0 ≤ n) (h1 : n ≤ 4294967295) : leV (leB 4 n) = n := leV_leB 4 n h0 (by omega)
theorem leB4_bytes {s : ByteArray} {a : Nat} (h : a + 4 ≤ s.size) : leB 4 (leV (bytesAt s a 4)) = bytesAt s a 4 := by
  have e := leB_leV (bytesAt s a 4)
  rwa [bytesAt_length h] at e
theorem bytesAt_add (s : ByteArray) (a k m : Nat) : bytesAt s a (k + m) = bytesAt s a k ++ bytesAt s (a + k) m := by
  unfold bytesAt
  rw [List.take_add, List.drop_drop]

/-- The bytes of the record that is read of 64 bytes. -/
theorem rb_back {s : ByteArray} (h : rcReadC s = 0) : rbOf (rcRead s) = s := by
  have h64 : s.size = 64 := by
    unfold rcReadC at h
    split at h
    · cases h
    · split at h
      · cases h
      · omega
  have hrd : rcRead s = rcAtB s := by unfold rcRead; rw [if_pos h]
  have hb := fun i => bytes4_bd s i
  have hw : ∀ i, wdRight (wdAtB s i) = true := fun i => by
    unfold wdRight isB wdAtB
    simp only [Bool.and_eq_true, decide_eq_true_eq]
    exact ⟨hb _, hb _⟩
  have hr : rcRight (rcAtB s) = true := by
    unfold rcRight rcAtB
    simp only [Bool.and_eq_true, List.all_eq_true, decide_eq_true_eq, isB, argsB_length]
    refine ⟨⟨⟨⟨hb _, hb _⟩, hw _⟩, trivial⟩, fun x hx => ?_⟩
    simp only [argsB, List.mem_map] at hx
    obtain ⟨i, _, rfl⟩ := hx
    exact hw _
  rw [hrd, rbOf_yes hr]
  have e : rcB (rcAtB s) = bytesAt s 0 64 := by
    have ch := fun a (ha : a + 4 ≤ 64) => leB4_bytes (s := s) (a := a) (by omega)
    have e2 : ∀ a, a + 8 ≤ 64 → wdB (wdAtB s a) = bytesAt s a 8 := fun a ha => by
      unfold wdB wdAtB
      simp only
      rw [ch a (by omega), ch (a + 4) (by omega), ← bytesAt_add]
    have e3 : (argsB s 6).flatMap wdB = bytesAt s 16 48 := by
      simp only [argsB, List.range_succ, List.range_zero, List.nil_append, List.map_append, List.map_cons, List.map_nil, List.flatMap_append, List.flatMap_cons, List.flatMap_nil, List.append_nil]
      rw [e2 (16 + 8 * 0) (by omega), e2 (16 + 8 * 1) (by omega), e2 (16 + 8 * 2) (by omega), e2 (16 + 8 * 3) (by omega), e2 (16 + 8 * 4) (by omega), e2 (16 + 8 * 5) (by omega)]
      simp only [Nat.mul_zero, Nat.mul_one, Nat.reduceMul, Nat.reduceAdd, Nat.add_zero]
      rw [← bytesAt_add s 16 8 8, ← bytesAt_add s 16 16 8, ← bytesAt_add s 16 24 8, ← bytesAt_add s 16 32 8, ← bytesAt_add s 16 40 8]
    unfold rcB rcAtB
    simp only
    rw [ch 0 (by omega), ch 4 (by omega), e2 8 (by omega), e3, ← bytesAt_add s 0 4 4, ← bytesAt_add s 0 8 8, ← bytesAt_add s 0 16 48]
  rw [e]
  apply ByteArray.ext
  apply Array.toList_inj.1
  simp only [bytesAt, List.drop_zero]
  rw [List.take_of_length_le (by rw [toList_len]; omega)]

theorem chunk_at : ∀ (cs : List (List UInt8)) (i : Nat) (hi : i < cs.length), (∀ c ∈ cs, c.length = 4) → (cs.flatten.drop (4 * i)).take 4 = cs[i]
  | c :: cs, 0, _, h => by
    have := h c (by simp)
    simp only [List.flatten_cons, Nat.mul_zero, List.drop_zero, List.getElem_cons_zero]
    rw [List.take_append_of_le_length (by omega), List.take_of_length_le (by omega)]
  | c :: cs, i + 1, hi, h => by
    have := h c (by simp)
    simp only [List.flatten_cons, List.getElem_cons_succ]
    rw [show 4 * (i + 1) = c.length + 4 * i by omega, List.drop_append, show c.length + 4 * i - c.length = 4 * i by omega, List.drop_of_length_le (by omega), List.nil_append]
    exact chunk_at cs i (by simpa using hi) (fun d hd => h d (by simp [hd]))

theorem less_one {a b : Wd} (ha : wdRight a = true) (hb : wdRight b = true) (hne : a ≠ b) : wdLess a b = !wdLess b a := by
  unfold wdLess
  rw [ha, hb]
  simp only [Bool.and_self, Bool.true_and]
  unfold wdLess0
  have : ¬ (a.h = b.h ∧ a.l = b.l) := fun h => hne (Wd.ext' h.1 h.2)
  rw [Bool.eq_iff_iff]
  simp only [Bool.or_eq_true, decide_eq_true_eq, Bool.and_eq_true, beq_iff_eq, Bool.not_eq_true', Bool.or_eq_false_iff, decide_eq_false_iff_not, Bool.and_eq_false_imp]
  omega
theorem andI_nat {a b : Int} (ha : 0 ≤ a ∧ a ≤ 4294967295) (hb : 0 ≤ b ∧ b ≤ 4294967295) : ∃ m n : Nat, a = m ∧ b = n ∧ andI a b = ((m &&& n : Nat) : Int) ∧ (m &&& n) ≤ m := by
  obtain ⟨m, rfl⟩ := Int.eq_ofNat_of_zero_le ha.1
  obtain ⟨n, rfl⟩ := Int.eq_ofNat_of_zero_le hb.1
  exact ⟨m, n, rfl, rfl, and_i64_nat _ _ (by omega) (by omega), Nat.and_le_left⟩
theorem andI_comm {a b : Int} (ha : 0 ≤ a ∧ a ≤ 4294967295) (hb : 0 ≤ b ∧ b ≤ 4294967295) : andI b a = andI a b := by
  obtain ⟨m, n, rfl, rfl, e, _⟩ := andI_nat ha hb
  rw [e]
  unfold andI
  rw [and_i64_nat _ _ (by omega) (by omega), Nat.and_comm]
theorem andI_again {a b : Int} (ha : 0 ≤ a ∧ a ≤ 4294967295) (hb : 0 ≤ b ∧ b ≤ 4294967295) : andI (andI a b) a = andI a b ∧ 0 ≤ andI a b ∧ andI a b ≤ 4294967295 := by
  obtain ⟨m, n, rfl, rfl, e, hle⟩ := andI_nat ha hb
  rw [e]
  refine ⟨?_, by omega, by omega⟩
  unfold andI
  rw [and_i64_nat _ _ (by omega) (by omega), Nat.and_comm (m &&& n) m, ← Nat.and_assoc, Nat.and_self]
theorem and_both {a b : Wd} (ha : wdRight a = true) (hb : wdRight b = true) : wdAnd (wdAnd a b) a = wdAnd a b ∧ wdAnd b a = wdAnd a b := by
  obtain ⟨h1, h2⟩ := wd_bounds ha
  obtain ⟨h3, h4⟩ := wd_bounds hb
  have e : wdAnd a b = ⟨andI a.h b.h, andI a.l b.l⟩ := by unfold wdAnd; rw [ha, hb]; rfl
  have x1 := andI_again h1 h3
  have x2 := andI_again h2 h4
  have hr : wdRight ⟨andI a.h b.h, andI a.l b.l⟩ = true := by
    unfold wdRight isB
    simp only [Bool.and_eq_true, decide_eq_true_eq]
    exact ⟨x1.2, x2.2⟩
  constructor
  · rw [e]
    unfold wdAnd
    rw [hr, ha]
    exact Wd.ext' x1.1 x2.1
  · rw [e]
    unfold wdAnd
    rw [hb, ha]
    exact Wd.ext' (andI_comm h1 h3) (andI_comm h2 h4)

theorem right_parts (nr ar ih il p0 q0 p1 q1 p2 q2 p3 q3 p4 q4 p5 q5 : Int) (hr : rcRight ⟨nr, ar, ⟨ih, il⟩, [⟨p0, q0⟩, ⟨p1, q1⟩, ⟨p2, q2⟩, ⟨p3, q3⟩, ⟨p4, q4⟩, ⟨p5, q5⟩]⟩ = true) : (0 ≤ nr ∧ nr ≤ 4294967295) ∧ (0 ≤ ar ∧ ar ≤ 4294967295) ∧ (0 ≤ il ∧ il ≤ 4294967295) ∧ (0 ≤ ih ∧ ih ≤ 4294967295) ∧ (0 ≤ q0 ∧ q0 ≤ 4294967295) ∧ (0 ≤ p0 ∧ p0 ≤ 4294967295) ∧ (0 ≤ q1 ∧ q1 ≤ 4294967295) ∧ (0 ≤ p1 ∧ p1 ≤ 4294967295) ∧ (0 ≤ q2 ∧ q2 ≤ 4294967295) ∧ (0 ≤ p2 ∧ p2 ≤ 4294967295) ∧ (0 ≤ q3 ∧ q3 ≤ 4294967295) ∧ (0 ≤ p3 ∧ p3 ≤ 4294967295) ∧ (0 ≤ q4 ∧ q4 ≤ 4294967295) ∧ (0 ≤ p4 ∧ p4 ≤ 4294967295) ∧ (0 ≤ q5 ∧ q5 ≤ 4294967295) ∧ (0 ≤ p5 ∧ p5 ≤ 4294967295) := by
  obtain ⟨h1, h2, h3, _, h4⟩ := rcRight_parts hr
  have hi := wd_bounds h3
  have a0 := wd_bounds (h4 0 (by simp))
  have a1 := wd_bounds (h4 1 (by simp))
  have a2 := wd_bounds (h4 2 (by simp))
  have a3 := wd_bounds (h4 3 (by simp))
  have a4 := wd_bounds (h4 4 (by simp))
  have a5 := wd_bounds (h4 5 (by simp))
  exact ⟨h1, h2, hi.2, hi.1, a0.2, a0.1, a1.2, a1.1, a2.2, a2.1, a3.2, a3.1, a4.2, a4.1, a5.2, a5.1⟩

theorem rb_size (nr ar ih il p0 q0 p1 q1 p2 q2 p3 q3 p4 q4 p5 q5 : Int) (hr : rcRight ⟨nr, ar, ⟨ih, il⟩, [⟨p0, q0⟩, ⟨p1, q1⟩, ⟨p2, q2⟩, ⟨p3, q3⟩, ⟨p4, q4⟩, ⟨p5, q5⟩]⟩ = true) : (rbOf ⟨nr, ar, ⟨ih, il⟩, [⟨p0, q0⟩, ⟨p1, q1⟩, ⟨p2, q2⟩, ⟨p3, q3⟩, ⟨p4, q4⟩, ⟨p5, q5⟩]⟩).size = 64 := by
  rw [rbOf_yes hr, size_mk]
  simp [rcB, wdB, leB_length]

theorem rb_chunk (nr ar ih il p0 q0 p1 q1 p2 q2 p3 q3 p4 q4 p5 q5 : Int) (hr : rcRight ⟨nr, ar, ⟨ih, il⟩, [⟨p0, q0⟩, ⟨p1, q1⟩, ⟨p2, q2⟩, ⟨p3, q3⟩, ⟨p4, q4⟩, ⟨p5, q5⟩]⟩ = true) (i : Nat) (hi : i < 16) : leV (bytesAt (rbOf ⟨nr, ar, ⟨ih, il⟩, [⟨p0, q0⟩, ⟨p1, q1⟩, ⟨p2, q2⟩, ⟨p3, q3⟩, ⟨p4, q4⟩, ⟨p5, q5⟩]⟩) (4 * i) 4) = ([nr, ar, il, ih, q0, p0, q1, p1, q2, p2, q3, p3, q4, p4, q5, p5] : List Int)[i]'(by simpa using hi) := by
  have hp := right_parts nr ar ih il p0 q0 p1 q1 p2 q2 p3 q3 p4 q4 p5 q5 hr
  rw [rbOf_yes hr]
  have e : rcB ⟨nr, ar, ⟨ih, il⟩, [⟨p0, q0⟩, ⟨p1, q1⟩, ⟨p2, q2⟩, ⟨p3, q3⟩, ⟨p4, q4⟩, ⟨p5, q5⟩]⟩ = ([leB 4 nr, leB 4 ar, leB 4 il, leB 4 ih, leB 4 q0, leB 4 p0, leB 4 q1, leB 4 p1, leB 4 q2, leB 4 p2, leB 4 q3, leB 4 p3, leB 4 q4, leB 4 p4, leB 4 q5, leB 4 p5] : List (List UInt8)).flatten := by simp [rcB, wdB]
  unfold bytesAt
  simp only [e]
  rw [chunk_at _ i (by simpa using hi) (by intro c hc; simp only [List.mem_cons, List.not_mem_nil, or_false] at hc; rcases hc with rfl | rfl | rfl | rfl | rfl | rfl | rfl | rfl | rfl | rfl | rfl | rfl | rfl | rfl | rfl | rfl <;> exact leB_length 4 _)]
  obtain ⟨⟨l0, u0⟩, ⟨l1, u1⟩, ⟨l2, u2⟩, ⟨l3, u3⟩, ⟨l4, u4⟩, ⟨l5, u5⟩, ⟨l6, u6⟩, ⟨l7, u7⟩, ⟨l8, u8⟩, ⟨l9, u9⟩, ⟨l10, u10⟩, ⟨l11, u11⟩, ⟨l12, u12⟩, ⟨l13, u13⟩, ⟨l14, u14⟩, ⟨l15, u15⟩⟩ := hp
  rcases (by omega : i = 0 ∨ i = 1 ∨ i = 2 ∨ i = 3 ∨ i = 4 ∨ i = 5 ∨ i = 6 ∨ i = 7 ∨ i = 8 ∨ i = 9 ∨ i = 10 ∨ i = 11 ∨ i = 12 ∨ i = 13 ∨ i = 14 ∨ i = 15) with rfl | rfl | rfl | rfl | rfl | rfl | rfl | rfl | rfl | rfl | rfl | rfl | rfl | rfl | rfl | rfl
  · exact leV4_leB _ l0 u0
  · exact leV4_leB _ l1 u1
  · exact leV4_leB _ l2 u2
  · exact leV4_leB _ l3 u3
  · exact leV4_leB _ l4 u4
  · exact leV4_leB _ l5 u5
  · exact leV4_leB _ l6 u6
  · exact leV4_leB _ l7 u7
  · exact leV4_leB _ l8 u8
  · exact leV4_leB _ l9 u9
  · exact leV4_leB _ l10 u10
  · exact leV4_leB _ l11 u11
  · exact leV4_leB _ l12 u12
  · exact leV4_leB _ l13 u13
  · exact leV4_leB _ l14 u14
  · exact leV4_leB _ l15 u15

theorem rb_load (nr ar ih il p0 q0 p1 q1 p2 q2 p3 q3 p4 q4 p5 q5 : Int) (hr : rcRight ⟨nr, ar, ⟨ih, il⟩, [⟨p0, q0⟩, ⟨p1, q1⟩, ⟨p2, q2⟩, ⟨p3, q3⟩, ⟨p4, q4⟩, ⟨p5, q5⟩]⟩ = true) (i : Nat) (hi : i < 16) (z : Int) (hz : z = 4 * i) : loadB (rbOf ⟨nr, ar, ⟨ih, il⟩, [⟨p0, q0⟩, ⟨p1, q1⟩, ⟨p2, q2⟩, ⟨p3, q3⟩, ⟨p4, q4⟩, ⟨p5, q5⟩]⟩) z = ([nr, ar, il, ih, q0, p0, q1, p1, q2, p2, q3, p3, q4, p4, q5, p5] : List Int)[i]'(by simpa using hi) := by
  subst hz
  rw [loadB_yes ⟨rb_size nr ar ih il p0 q0 p1 q1 p2 q2 p3 q3 p4 q4 p5 q5 hr, by omega, by omega, by omega⟩, show ((4 : Int) * (i : Int)).toNat = 4 * i by omega]
  exact rb_chunk nr ar ih il p0 q0 p1 q1 p2 q2 p3 q3 p4 q4 p5 q5 hr i hi

theorem rb_read (nr ar ih il p0 q0 p1 q1 p2 q2 p3 q3 p4 q4 p5 q5 : Int) (hr : rcRight ⟨nr, ar, ⟨ih, il⟩, [⟨p0, q0⟩, ⟨p1, q1⟩, ⟨p2, q2⟩, ⟨p3, q3⟩, ⟨p4, q4⟩, ⟨p5, q5⟩]⟩ = true) : rcReadC (rbOf ⟨nr, ar, ⟨ih, il⟩, [⟨p0, q0⟩, ⟨p1, q1⟩, ⟨p2, q2⟩, ⟨p3, q3⟩, ⟨p4, q4⟩, ⟨p5, q5⟩]⟩) = 0 ∧ rcRead (rbOf ⟨nr, ar, ⟨ih, il⟩, [⟨p0, q0⟩, ⟨p1, q1⟩, ⟨p2, q2⟩, ⟨p3, q3⟩, ⟨p4, q4⟩, ⟨p5, q5⟩]⟩) = ⟨nr, ar, ⟨ih, il⟩, [⟨p0, q0⟩, ⟨p1, q1⟩, ⟨p2, q2⟩, ⟨p3, q3⟩, ⟨p4, q4⟩, ⟨p5, q5⟩]⟩ := by
  have h64 := rb_size nr ar ih il p0 q0 p1 q1 p2 q2 p3 q3 p4 q4 p5 q5 hr
  have hc : rcReadC (rbOf ⟨nr, ar, ⟨ih, il⟩, [⟨p0, q0⟩, ⟨p1, q1⟩, ⟨p2, q2⟩, ⟨p3, q3⟩, ⟨p4, q4⟩, ⟨p5, q5⟩]⟩) = 0 := by
    unfold rcReadC
    rw [if_neg (by omega), if_neg (by omega)]
  refine ⟨hc, ?_⟩
  unfold rcRead
  rw [if_pos hc]
  have ck := rb_chunk nr ar ih il p0 q0 p1 q1 p2 q2 p3 q3 p4 q4 p5 q5 hr
  generalize rbOf ⟨nr, ar, ⟨ih, il⟩, [⟨p0, q0⟩, ⟨p1, q1⟩, ⟨p2, q2⟩, ⟨p3, q3⟩, ⟨p4, q4⟩, ⟨p5, q5⟩]⟩ = t at *
  have w : ∀ (i : Nat) (hi : 2 * i + 1 < 16), wdAtB t (8 * i) = ⟨([nr, ar, il, ih, q0, p0, q1, p1, q2, p2, q3, p3, q4, p4, q5, p5] : List Int)[2 * i + 1]'(by simpa using hi), ([nr, ar, il, ih, q0, p0, q1, p1, q2, p2, q3, p3, q4, p4, q5, p5] : List Int)[2 * i]'(by simp; omega)⟩ := fun i hi => by
    have e1 := ck (2 * i) (by omega)
    have e2 := ck (2 * i + 1) hi
    rw [show 4 * (2 * i) = 8 * i by omega] at e1
    rw [show 4 * (2 * i + 1) = 8 * i + 4 by omega] at e2
    unfold wdAtB
    rw [e1, e2]
  have k0 := ck 0 (by omega)
  have k1 := ck 1 (by omega)
  have w1 := w 1 (by omega)
  have w2 := w 2 (by omega)
  have w3 := w 3 (by omega)
  have w4 := w 4 (by omega)
  have w5 := w 5 (by omega)
  have w6 := w 6 (by omega)
  have w7 := w 7 (by omega)
  simp only [Nat.reduceMul, Nat.reduceAdd, List.getElem_cons_zero, List.getElem_cons_succ, Nat.mul_zero, Nat.mul_one] at k0 k1 w1 w2 w3 w4 w5 w6 w7
  unfold rcAtB argsB
  simp only [List.range_succ, List.range_zero, List.nil_append, List.map_append, List.map_cons, List.map_nil, Nat.mul_zero, Nat.mul_one, Nat.reduceMul, Nat.reduceAdd, Nat.add_zero, k0, k1, w1, w2, w3, w4, w5, w6, w7, List.cons_append]

theorem rb_facts (r : Rc) (hr : rcRight r = true) : (rbOf r).size = 64 ∧ rcReadC (rbOf r) = 0 ∧ rcRead (rbOf r) = r ∧ loadB (rbOf r) 0 = r.nr ∧ loadB (rbOf r) 4 = r.ar ∧
    ∀ (k : Nat) (hk : k < r.args.length), loadB (rbOf r) (16 + 8 * (k : Int)) = r.args[k].l ∧ loadB (rbOf r) (20 + 8 * (k : Int)) = r.args[k].h := by
  obtain ⟨nr, ar, ⟨ih, il⟩, args⟩ := r
  obtain ⟨p0, q0, p1, q1, p2, q2, p3, q3, p4, q4, p5, q5, rfl⟩ := six_of (rcRight_parts hr).2.2.2.1
  have hl := rb_load nr ar ih il p0 q0 p1 q1 p2 q2 p3 q3 p4 q4 p5 q5 hr
  have hd := rb_read nr ar ih il p0 q0 p1 q1 p2 q2 p3 q3 p4 q4 p5 q5 hr
  refine ⟨rb_size nr ar ih il p0 q0 p1 q1 p2 q2 p3 q3 p4 q4 p5 q5 hr, hd.1, hd.2, hl 0 (by omega) 0 (by omega), hl 1 (by omega) 4 (by omega), fun k hk => ?_⟩
  simp only [List.length_cons, List.length_nil] at hk
  have h1 := hl (4 + 2 * k) (by omega) (16 + 8 * (k : Int)) (by omega)
  have h2 := hl (5 + 2 * k) (by omega) (20 + 8 * (k : Int)) (by omega)
  rcases (by omega : k = 0 ∨ k = 1 ∨ k = 2 ∨ k = 3 ∨ k = 4 ∨ k = 5) with rfl | rfl | rfl | rfl | rfl | rfl
  all_goals exact ⟨h1, h2⟩

end Go.Proofs.Ytgcfnmaojdnchaa

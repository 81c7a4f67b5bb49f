/- Plain: a number, and a text, come back from their bytes; of one byte less nothing comes. -/
import Derived.Test.YtoabhpgiaieopaaDoorPu
import Derived.Test.YtoabhpgiaieopaaDoorGt
set_option maxRecDepth 100000
namespace Go.Proofs.YtoabhpgiaieopaaDoor

theorem byte_of {u : Int} (h0 : 0 ≤ u) (h : u < 256) : ((UInt8.ofNat u.toNat).toNat : Int) = u := by
  rw [UInt8.toNat_ofNat']; omega

theorem fits_nine {u : Int} (h : fits 9 u) : u ≤ 1 := by
  have h3 : (128 : Int) ^ 9 = 9223372036854775808 := by decide
  have := h.2
  rw [h3] at this
  omega

theorem getB_numB : ∀ (f i : Nat) (u v : Int) (rest : List UInt8), i + f = 9 → fits i u → (0 < i → 0 < u) →
    getB (f + 1) i v (numB f u ++ rest) = (v + u * 128 ^ i, i + (numB f u).length, 0) := by
  intro f
  induction f with
  | zero =>
    intro i u v rest hi hf hp
    obtain rfl : i = 9 := by omega
    have h1 := fits_nine hf
    have h0 := hf.1
    have hc := byte_of h0 (show u < 256 by omega)
    rw [numB_last 0 (by omega), List.singleton_append, getB_last (by omega) (by omega) (by have := hp (by omega); omega), hc, Int.emod_eq_of_lt h0 (by omega)]
    rfl
  | succ f ih =>
    intro i u v rest hi hf hp
    have h0 := hf.1
    by_cases hu : u < 128
    · have hc := byte_of h0 (show u < 256 by omega)
      have h9 : i = 9 → u ≤ 1 := fun e => by subst e; exact fits_nine hf
      rw [numB_last _ hu, List.singleton_append, getB_last (by omega) (by omega) (by intro ⟨e1, e2⟩; have := hp e2; omega), hc, Int.emod_eq_of_lt h0 hu]
      rfl
    · obtain ⟨hf', hi9⟩ := fits_step hf hu
      have hc := byte_of (u := u % 128 + 128) (by omega) (by omega)
      rw [numB_more hu, List.cons_append, getB_more (by omega) (by omega), ih (i + 1) (u / 128) _ rest (by omega) hf' (by omega), hc, Int.pow_succ]
      have e : (u % 128 + 128) % 128 = u % 128 := by omega
      have e2 : u = u % 128 + u / 128 * 128 := by omega
      rw [e]
      refine Prod.ext ?_ (Prod.ext ?_ rfl)
      · show v + u % 128 * 128 ^ i + u / 128 * (128 ^ i * 128) = v + u * 128 ^ i
        conv => rhs; rw [e2, Int.add_mul, Int.mul_assoc, Int.mul_comm 128]
        omega
      · simp only [List.length_cons]; omega

theorem numB_ne (f : Nat) (u : Int) : numB f u ≠ [] := by
  cases f with
  | zero => simp [numB]
  | succ f => unfold numB; split <;> simp

theorem getB_short : ∀ (f i : Nat) (u v : Int), i + f = 9 → fits i u → getB (f + 1) i v (numB f u).dropLast = (0, 0, 4) := by
  intro f
  induction f with
  | zero => intro i u v _ _; rfl
  | succ f ih =>
    intro i u v hi hf
    have h0 := hf.1
    by_cases hu : u < 128
    · rw [numB_last _ hu]; rfl
    · obtain ⟨hf', hi9⟩ := fits_step hf hu
      have hc := byte_of (u := u % 128 + 128) (by omega) (by omega)
      rw [numB_more hu, List.dropLast_cons_of_ne_nil (numB_ne _ _), getB_more (by omega) (by omega), ih (i + 1) (u / 128) _ (by omega) hf']

theorem unfold_fold (n : Int) : unfoldN (foldN n) = n := by
  unfold unfoldN foldN
  split <;> split <;> omega

theorem fits_fold {n : Int} (h0 : -9223372036854775808 ≤ n) (h1 : n ≤ 9223372036854775807) : fits 0 (foldN n) := by
  have := foldN_bd n h0 h1
  exact ⟨this.1, by rw [Int.pow_zero]; omega⟩

theorem getN_put {x : ByteArray} {n : Int} {pre rest : List UInt8} (h0 : -9223372036854775808 ≤ n) (h1 : n ≤ 9223372036854775807) (hs : x.size ≤ 8000) (hx : x.data.toList = pre ++ (putN n ++ rest)) :
    getN x (pre.length : Int) = (n, (pre.length : Int) + ((putN n).length : Int), 0) := by
  have hg : getB 10 0 0 (x.data.toList.drop pre.length) = (foldN n, (putN n).length, 0) := by
    rw [hx, List.drop_left]
    unfold putN
    rw [getB_numB 9 0 (foldN n) 0 rest (by omega) (fits_fold h0 h1) (by omega)]
    simp
  rw [getN_ok (by omega) hg, unfold_fold]

theorem getN_cut {x : ByteArray} {n : Int} (h0 : -9223372036854775808 ≤ n) (h1 : n ≤ 9223372036854775807) (hs : x.size ≤ 8000) (hx : x.data.toList = (putN n).dropLast) :
    getN x 0 = (0, 0, 4) := by
  have hg : getB 10 0 0 (x.data.toList.drop 0) = (0, 0, 4) := by
    rw [hx, List.drop_zero]
    exact getB_short 9 0 (foldN n) 0 (by omega) (fits_fold h0 h1)
  exact getN_bad (a := 0) (by omega) hg (by omega)

theorem getT_put {x t : ByteArray} {pre : List UInt8} (hs : x.size ≤ 8000) (hx : x.data.toList = pre ++ (putN (t.size : Int) ++ t.data.toList)) :
    getT x (pre.length : Int) = (t, (x.size : Int), 0) := by
  have hl : x.size = pre.length + ((putN (t.size : Int)).length + t.size) := by
    rw [Lib.size_eq, hx]; simp
  unfold getT
  rw [getN_put (by omega) (by omega) hs hx]
  simp only
  rw [if_neg (by omega), if_neg (by omega), if_neg (by omega)]
  refine Prod.ext ?_ (Prod.ext ?_ rfl)
  · apply ByteArray.ext
    apply Array.toList_inj.1
    rw [Lib.extract_data, hx]
    have e1 : ((pre.length : Int) + ((putN (t.size : Int)).length : Int)).toNat = pre.length + (putN (t.size : Int)).length := by omega
    have e2 : ((pre.length : Int) + ((putN (t.size : Int)).length : Int) + (t.size : Int)).toNat = pre.length + (putN (t.size : Int)).length + t.size := by omega
    rw [e1, e2]
    simp
    exact List.take_of_length_le (by simp)
  · show (pre.length : Int) + ((putN (t.size : Int)).length : Int) + (t.size : Int) = (x.size : Int)
    omega

theorem getT_cut {x t : ByteArray} (hs : x.size ≤ 8000) (hx : x.data.toList = (putN (t.size : Int) ++ t.data.toList).dropLast) :
    (getT x 0).2.2 = 4 := by
  by_cases ht : t.data.toList = []
  · rw [ht, List.append_nil] at hx
    have ht0 : t.size = 0 := by rw [Lib.size_eq, ht]; rfl
    have hn := getN_cut (by omega) (by omega) hs hx
    unfold getT
    rw [hn]
    rfl
  · rw [List.dropLast_append_of_ne_nil ht] at hx
    have hlt : 0 < t.data.toList.length := List.length_pos_iff.2 ht
    have hl : x.size + 1 = (putN (t.size : Int)).length + t.size := by
      rw [Lib.size_eq, hx]; simp at hlt ⊢; omega
    have hn := getN_put (x := x) (n := (t.size : Int)) (pre := []) (rest := t.data.toList.dropLast) (by omega) (by omega) hs (by rw [hx, List.nil_append])
    simp only [List.length_nil, Int.natCast_zero, Int.zero_add] at hn
    have hp : 0 < (putN (t.size : Int)).length := List.length_pos_iff.2 (numB_ne 9 _)
    unfold getT
    rw [hn]
    simp only
    rw [if_neg (by omega), if_neg (by omega), if_pos (by omega)]

end Go.Proofs.YtoabhpgiaieopaaDoor

/- Plain: a sealed text comes back; with one byte turned it is refused; a CRC goes on from text to text. -/
import Derived.Test.YtoabhpgiaieopaaUn
namespace Go.Proofs.Ytoabhpgiaieopaa

theorem fourL_length (c : Nat) : (fourL c).length = 4 := rfl
theorem fourL_inj {a b : Nat} (ha : a < 4294967296) (hb : b < 4294967296) (h : fourL a = fourL b) : a = b := by
  simp only [fourL, List.cons.injEq, and_true] at h
  obtain ⟨h0, h1, h2, h3⟩ := h
  have e : ∀ x y : Nat, UInt8.ofNat (x % 256) = UInt8.ofNat (y % 256) → x % 256 = y % 256 := by
    intro x y hxy
    have := congrArg UInt8.toNat hxy
    rw [UInt8.toNat_ofNat', UInt8.toNat_ofNat'] at this
    omega
  have := e _ _ h0
  have := e _ _ h1
  have := e _ _ h2
  have := e _ _ h3
  omega

/-- The bytes of a sealed text. -/
theorem sealOf_data {t : ByteArray} (h : ¬ 7996 < t.size) : (sealOf t).data.toList = t.data.toList ++ fourL (crcMore 0 t.data.toList) := by
  rw [sealOf_yes h, ByteArray.data_append, Array.toList_append]
  rfl
theorem sealOf_size {t : ByteArray} (h : ¬ 7996 < t.size) : (sealOf t).size = t.size + 4 := by
  rw [sealOf_yes h, ByteArray.size_append, fourS_size]

/-- Unseal by its bytes. -/
theorem unsealOf_list {x : ByteArray} {p q : List UInt8} (h : x.data.toList = p ++ q) (hq : q.length = 4) (hp : p.length ≤ 7996) :
    unsealOf x = if fourL (crcMore 0 p) = q then (⟨p.toArray⟩, 0) else (⟨#[]⟩, 5) := by
  have hs : x.size = p.length + 4 := by rw [Lib.size_eq, h, List.length_append, hq]
  have e1 : x.extract 0 (x.size - 4) = ⟨p.toArray⟩ := by
    apply ByteArray.ext
    apply Array.toList_inj.1
    rw [Lib.extract_data, h, hs]
    simp
  have e2 : x.extract (x.size - 4) x.size = ⟨q.toArray⟩ := by
    apply ByteArray.ext
    apply Array.toList_inj.1
    rw [Lib.extract_data, h, hs]
    simp
    exact List.take_of_length_le (by omega)
  unfold unsealOf
  rw [if_neg (by omega), if_neg (by omega), e1, e2]
  have hc : (fourS ⟨p.toArray⟩ = ⟨q.toArray⟩) ↔ fourL (crcMore 0 p) = q := by
    unfold fourS
    constructor
    · intro hh
      have := congrArg (fun b : ByteArray => b.data.toList) hh
      simpa using this
    · intro hh
      simp [hh]
  by_cases hh : fourL (crcMore 0 p) = q
  · rw [if_pos hh, if_pos (hc.2 hh)]
  · rw [if_neg hh, if_neg (fun h => hh (hc.1 h))]

theorem unseal_seal {t : ByteArray} (h : ¬ 7996 < t.size) : unsealOf (sealOf t) = (t, 0) := by
  rw [unsealOf_list (sealOf_data h) (fourL_length _) (by simp; omega), if_pos rfl]

/-- One byte turned. -/
theorem unseal_turned {t x : ByteArray} (h : ¬ 7996 < t.size) {k : Nat} {y : UInt8} (hx : x.data.toList = (sealOf t).data.toList.set k y) (hk : k < t.size + 4) (hy : (sealOf t).data.toList[k]? ≠ some y) :
    (unsealOf x).2 = 5 := by
  have hl : t.data.toList.length = t.size := by simp
  rw [sealOf_data h] at hx hy
  by_cases hkt : k < t.size
  · rw [List.set_append_left _ _ (by omega)] at hx
    rw [unsealOf_list hx (fourL_length _) (by simp; omega)]
    rw [List.getElem?_append_left (by omega)] at hy
    have hne : ¬ fourL (crcMore 0 (t.data.toList.set k y)) = fourL (crcMore 0 t.data.toList) := by
      intro e
      have e2 := fourL_inj (crcMore_lt _ _) (crcMore_lt _ _) e
      have hkl : k < t.data.toList.length := by omega
      have s1 : t.data.toList = t.data.toList.take k ++ t.data.toList[k] :: t.data.toList.drop (k + 1) := by
        rw [List.getElem_cons_drop, List.take_append_drop]
      have s2 : t.data.toList.set k y = t.data.toList.take k ++ y :: t.data.toList.drop (k + 1) := List.set_eq_take_append_cons_drop .. |>.trans (by rw [if_pos hkl])
      rw [s2] at e2
      conv at e2 => rhs; rw [s1]
      exact crcMore_turn 0 _ _ (fun hh => hy (by rw [List.getElem?_eq_getElem hkl, hh])) e2
    rw [if_neg hne]
  · rw [List.set_append_right _ _ (by omega)] at hx
    rw [unsealOf_list hx (by simp [fourL_length]) (by omega)]
    rw [List.getElem?_append_right (by omega)] at hy
    have hne : ¬ fourL (crcMore 0 t.data.toList) = (fourL (crcMore 0 t.data.toList)).set (k - t.data.toList.length) y := by
      intro e
      apply hy
      have hkl : k - t.data.toList.length < (fourL (crcMore 0 t.data.toList)).length := by rw [fourL_length]; omega
      rw [e, List.getElem?_set_self hkl]
    rw [if_neg hne]

/-- A CRC goes on. -/
theorem crc_goes_on (t u : ByteArray) (h : t.size + u.size ≤ 8000) : crcAns (crcAns 0 t) u = crcAns 0 (t ++ u) := by
  have h0 := crcAns_nat (c := 0) (s := t) (by omega) (by omega)
  simp only [Int.natCast_zero] at h0
  rw [h0, crcAns_nat (crcMore_lt _ _) (by omega)]
  have h1 := crcAns_nat (c := 0) (s := t ++ u) (by omega) (by rw [ByteArray.size_append]; omega)
  simp only [Int.natCast_zero] at h1
  rw [h1, ByteArray.data_append, Array.toList_append, crcMore_append]

end Go.Proofs.Ytoabhpgiaieopaa

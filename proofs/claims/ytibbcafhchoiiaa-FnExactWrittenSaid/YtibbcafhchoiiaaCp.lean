/- Masks of sixteen cells as numbers of u16, and as the model's of i64. No program is read here. -/
import Derived.Test.YtibbcafhchoiiaaWt
import Derived.Test.YtibbcafhchoiiaaBi
import Derived.Lib.EndianBits
set_option maxRecDepth 100000
namespace Go.Proofs.Ytibbcafhchoiiaa
open Go.RowKit

theorem and_u16_nat (a b : Nat) (ha : a < 65536) (hb : b < 65536) : bits .and .u16 (a : Int) (b : Int) = ((a &&& b : Nat) : Int) := by
  have hx : a &&& b < 2 ^ 16 := Nat.and_lt_two_pow _ (by omega)
  show IntKind.u16.wrap ((BitVec.ofInt 16 (a : Int) &&& BitVec.ofInt 16 (b : Int)).toNat : Int) = _
  rw [BitVec.toNat_and, ofInt_toNat 16 a (by omega), ofInt_toNat 16 b (by omega), IntKind.wrap_u16]
  omega
theorem or_u16_nat (a b : Nat) (ha : a < 65536) (hb : b < 65536) : bits .or .u16 (a : Int) (b : Int) = ((a ||| b : Nat) : Int) := by
  have hx : a ||| b < 2 ^ 16 := Nat.or_lt_two_pow (by omega) (by omega)
  show IntKind.u16.wrap ((BitVec.ofInt 16 (a : Int) ||| BitVec.ofInt 16 (b : Int)).toNat : Int) = _
  rw [BitVec.toNat_or, ofInt_toNat 16 a (by omega), ofInt_toNat 16 b (by omega), IntKind.wrap_u16]
  omega
/-- Is it a mask of sixteen cells? -/
def M16 (a : Int) : Prop := 0 ≤ a ∧ a ≤ 65535
theorem and_u16 {a b : Int} (ha : M16 a) (hb : M16 b) : bits .and .u16 a b = bits .and .i64 a b ∧ M16 (bits .and .i64 a b) := by
  obtain ⟨m, rfl⟩ := Int.eq_ofNat_of_zero_le ha.1
  obtain ⟨n, rfl⟩ := Int.eq_ofNat_of_zero_le hb.1
  have h1 := ha.2
  have h2 := hb.2
  rw [and_u16_nat m n (by omega) (by omega), and_i64_nat m n (by omega) (by omega)]
  have hx : m &&& n < 2 ^ 16 := Nat.and_lt_two_pow _ (by omega)
  exact ⟨rfl, by unfold M16; omega⟩
theorem or_u16 {a b : Int} (ha : M16 a) (hb : M16 b) : bits .or .u16 a b = bits .or .i64 a b ∧ M16 (bits .or .i64 a b) := by
  obtain ⟨m, rfl⟩ := Int.eq_ofNat_of_zero_le ha.1
  obtain ⟨n, rfl⟩ := Int.eq_ofNat_of_zero_le hb.1
  have h1 := ha.2
  have h2 := hb.2
  rw [or_u16_nat m n (by omega) (by omega), or_i64_nat m n (by omega) (by omega)]
  have hx : m ||| n < 2 ^ 16 := Nat.or_lt_two_pow (by omega) (by omega)
  exact ⟨rfl, by unfold M16; omega⟩
theorem pow_m16 {k : Int} (h : k ≤ 15) : M16 (2 ^ k.toNat) ∧ wrap64 (2 ^ k.toNat) = 2 ^ k.toNat ∧ IntKind.u16.wrap (2 ^ k.toNat) = 2 ^ k.toNat := by
  have hk : k.toNat ≤ 15 := by omega
  generalize k.toNat = n at *
  have hp : (2 : Int) ^ n = ((2 ^ n : Nat) : Int) := by norm_cast
  have hn : 2 ^ n ≤ 2 ^ 15 := Nat.pow_le_pow_right (by omega) hk
  rw [hp]
  generalize 2 ^ n = p at *
  have hm : M16 (p : Int) := by unfold M16; omega
  refine ⟨hm, ?_, ?_⟩
  · unfold M16 at hm; unfold wrap64; omega
  · unfold M16 at hm; rw [IntKind.wrap_u16]; omega
theorem outM_m16 {x : Ins} {m : Int} (hm : M16 m) (hk : x.c = 2 ∨ x.c = 3 → x.k ≤ 15) : M16 (outM x m) := by
  unfold outM
  split
  · rename_i h
    have := pow_m16 (hk h)
    rw [this.2.1]
    exact (or_u16 hm this.1).2
  · exact hm
theorem getD_m16 {ms : List Int} (h : ∀ a ∈ ms, M16 a) (i : Nat) : M16 (ms.getD i 0) := by
  rw [List.getD_eq_getElem?_getD]
  rcases Nat.lt_or_ge i ms.length with hl | hl
  · rw [List.getElem?_eq_getElem hl]
    exact h _ (List.getElem_mem hl)
  · rw [List.getElem?_eq_none hl]
    exact ⟨by decide, by decide⟩
theorem passM_m16 {m : Int} {ms : List Int} (hm : M16 m) (h : ∀ a ∈ ms, M16 a) (t : Int) : ∀ a ∈ passM m ms t, M16 a := by
  intro a ha
  rcases List.mem_or_eq_of_mem_set ha with h' | rfl
  · exact h a h'
  · exact (and_u16 (getD_m16 h _) hm).2
theorem foldM_m16 {m : Int} (hm : M16 m) : ∀ (ts ms : List Int), (∀ a ∈ ms, M16 a) → ∀ a ∈ ts.foldl (passM m) ms, M16 a
  | [], _, h => h
  | t :: ts, _, h => foldM_m16 hm ts _ (passM_m16 hm h t)
theorem wrK_m16 {l : List Ins} (hok : ∀ x ∈ l, x.c = 2 ∨ x.c = 3 → x.k ≤ 15) : ∀ k, ∀ a ∈ wrK l k, M16 a
  | 0 => by
    intro a ha
    simp only [wrK, preM, List.mem_map] at ha
    obtain ⟨j, _, rfl⟩ := ha
    split <;> exact ⟨by decide, by decide⟩
  | k + 1 => by
    unfold wrK
    split
    · rename_i x hx
      exact foldM_m16 (outM_m16 (getD_m16 (wrK_m16 hok k) _) (hok x (List.mem_of_getElem? hx))) _ _ (wrK_m16 hok k)
    · exact wrK_m16 hok k
theorem preM_all (n : Nat) (h : 1 ≤ n) : (List.replicate n (65535 : Int)).set 0 0 = preM n := by
  obtain ⟨m, rfl⟩ : ∃ m, n = m + 1 := ⟨n - 1, by omega⟩
  unfold preM
  apply List.ext_getElem
  · simp
  · intro i h1 h2
    rcases Nat.eq_zero_or_pos i with rfl | hp
    · simp
    · rw [List.getElem_set_ne (by omega)]
      simp
      omega

end Go.Proofs.Ytibbcafhchoiiaa

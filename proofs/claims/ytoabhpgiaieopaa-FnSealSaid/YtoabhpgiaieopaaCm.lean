/- Plain mathematics of the CRC: a register of 32 bits, one step a bit, no two registers step to one. No program is read here. -/
import Derived.Test.YtoabhpgiaieopaaBt
namespace Go.Proofs.Ytoabhpgiaieopaa

theorem bits_xor_u32_nat (a b : Nat) (ha : a < 4294967296) (hb : b < 4294967296) : bits .xor .u32 (a : Int) (b : Int) = ((a ^^^ b : Nat) : Int) := by
  have hx : a ^^^ b < 2 ^ 32 := Nat.xor_lt_two_pow (by omega) (by omega)
  have h1 := ofInt_toNat 32 a (by omega)
  have h2 := ofInt_toNat 32 b (by omega)
  show IntKind.u32.wrap ((BitVec.ofInt 32 (a : Int) ^^^ BitVec.ofInt 32 (b : Int)).toNat : Int) = _
  rw [BitVec.toNat_xor, h1, h2, IntKind.wrap_u32]
  omega

theorem bits_and_u32_one (a : Nat) (ha : a < 4294967296) : bits .and .u32 (a : Int) 1 = ((a % 2 : Nat) : Int) := by
  have h1 := ofInt_toNat 32 a (by omega)
  show IntKind.u32.wrap ((BitVec.ofInt 32 (a : Int) &&& BitVec.ofInt 32 (1 : Int)).toNat : Int) = _
  have h2 : (BitVec.ofInt 32 (1 : Int)).toNat = 1 := by decide
  rw [BitVec.toNat_and, h1, h2, IntKind.wrap_u32, Nat.and_one_is_mod]
  omega

def poly : Nat := 3988292384
def crcStep (r : Nat) : Nat := if r % 2 = 1 then (r / 2) ^^^ poly else r / 2
def crcSteps : Nat → Nat → Nat
  | 0, r => r
  | k + 1, r => crcStep (crcSteps k r)
def crcB (r : Nat) (b : UInt8) : Nat := crcSteps 8 (r ^^^ b.toNat)
def crcL (r : Nat) (l : List UInt8) : Nat := l.foldl crcB r

theorem crcStep_lt {r : Nat} (h : r < 4294967296) : crcStep r < 4294967296 := by
  unfold crcStep
  split
  · exact Nat.xor_lt_two_pow (n := 32) (by omega) (by unfold poly; omega)
  · omega
theorem crcSteps_lt {r : Nat} (h : r < 4294967296) : ∀ k, crcSteps k r < 4294967296
  | 0 => h
  | k + 1 => crcStep_lt (crcSteps_lt h k)
theorem xor_byte_lt {r : Nat} (b : UInt8) (h : r < 4294967296) : r ^^^ b.toNat < 4294967296 :=
  Nat.xor_lt_two_pow (n := 32) (by omega) (by have := b.toNat_lt; omega)
theorem crcB_lt {r : Nat} (b : UInt8) (h : r < 4294967296) : crcB r b < 4294967296 := crcSteps_lt (xor_byte_lt b h) 8
theorem crcL_lt : ∀ (l : List UInt8) (r : Nat), r < 4294967296 → crcL r l < 4294967296
  | [], _, h => h
  | b :: l, _, h => crcL_lt l _ (crcB_lt b h)
theorem crcL_append (r : Nat) (a b : List UInt8) : crcL r (a ++ b) = crcL (crcL r a) b := by simp [crcL]
theorem crcL_snoc (r : Nat) (a : List UInt8) (b : UInt8) : crcL r (a ++ [b]) = crcB (crcL r a) b := by simp [crcL]

theorem step_odd {r : Nat} (h : r < 4294967296) (ho : r % 2 = 1) : bits .xor .u32 ((r : Int) / 2) 3988292384 = ((crcStep r : Nat) : Int) := by
  have e : ((r : Int) / 2) = ((r / 2 : Nat) : Int) := by omega
  rw [e, show (3988292384 : Int) = ((poly : Nat) : Int) from rfl, bits_xor_u32_nat _ _ (by omega) (by unfold poly; omega)]
  unfold crcStep
  rw [if_pos ho]
theorem step_even {r : Nat} (ho : ¬ r % 2 = 1) : ((r : Int) / 2) = ((crcStep r : Nat) : Int) := by
  unfold crcStep
  rw [if_neg ho]
  omega

/-- All bits turned. -/
def turn32 (r : Nat) : Nat := 4294967295 - r
theorem turn32_lt (r : Nat) : turn32 r < 4294967296 := by unfold turn32; omega
theorem turn32_turn32 {r : Nat} (h : r < 4294967296) : turn32 (turn32 r) = r := by unfold turn32; omega
theorem xor_ones32 (r : Nat) (h : r < 4294967296) : r ^^^ 4294967295 = turn32 r := by
  have h3 : (BitVec.allOnes 32 ^^^ BitVec.ofNat 32 r).toNat = (~~~ (BitVec.ofNat 32 r)).toNat := by rw [BitVec.allOnes_xor]
  rw [BitVec.toNat_xor, BitVec.toNat_not, BitVec.toNat_allOnes, BitVec.toNat_ofNat, Nat.mod_eq_of_lt (by omega)] at h3
  rw [Nat.xor_comm]
  unfold turn32
  simpa using h3
theorem xor_ones_u32 {r : Nat} (h : r < 4294967296) : bits .xor .u32 (r : Int) 4294967295 = ((turn32 r : Nat) : Int) := by
  rw [show (4294967295 : Int) = ((4294967295 : Nat) : Int) from rfl, bits_xor_u32_nat _ _ h (by omega), xor_ones32 r h]
theorem xor_max_u32 {r : Nat} (h : r < 4294967296) : bits .xor .u32 IntKind.u32.max (r : Int) = ((turn32 r : Nat) : Int) := by
  have e : IntKind.u32.max = ((4294967295 : Nat) : Int) := by decide
  rw [e, bits_xor_u32_nat _ _ (by omega) h, Nat.xor_comm, xor_ones32 r h]

/-- The CRC of what stands behind a text whose CRC is c. -/
def crcMore (c : Nat) (l : List UInt8) : Nat := turn32 (crcL (turn32 c) l)
theorem crcMore_lt (c : Nat) (l : List UInt8) : crcMore c l < 4294967296 := turn32_lt _
theorem crcMore_append (c : Nat) (a b : List UInt8) : crcMore c (a ++ b) = crcMore (crcMore c a) b := by
  unfold crcMore
  rw [crcL_append, turn32_turn32 (crcL_lt _ _ (turn32_lt _))]

theorem crcStep_top {r : Nat} (h : r < 4294967296) : 2147483648 ≤ crcStep r ↔ r % 2 = 1 := by
  unfold crcStep
  split
  · rename_i ho
    refine ⟨fun _ => ho, fun _ => ?_⟩
    have hb : ((r / 2) ^^^ poly).testBit 31 = true := by
      rw [Nat.testBit_xor, Nat.testBit_lt_two_pow (show r / 2 < 2 ^ 31 by omega)]
      decide
    exact Nat.ge_two_pow_of_testBit hb
  · rename_i ho
    refine ⟨fun h1 => ?_, fun h1 => absurd h1 ho⟩
    omega
theorem xor_cancel_right {a b c : Nat} (h : a ^^^ c = b ^^^ c) : a = b := by
  have := congrArg (· ^^^ c) h
  simpa [Nat.xor_assoc, Nat.xor_self] using this
theorem xor_cancel_left {a b c : Nat} (h : a ^^^ b = a ^^^ c) : b = c := by
  rw [Nat.xor_comm a b, Nat.xor_comm a c] at h
  exact xor_cancel_right h
theorem crcStep_inj {a b : Nat} (ha : a < 4294967296) (hb : b < 4294967296) (h : crcStep a = crcStep b) : a = b := by
  have ta := crcStep_top ha
  have tb := crcStep_top hb
  rw [h] at ta
  have hp : a % 2 = 1 ↔ b % 2 = 1 := ta.symm.trans tb
  unfold crcStep at h
  by_cases ho : a % 2 = 1
  · rw [if_pos ho, if_pos (hp.1 ho)] at h
    have := xor_cancel_right h
    omega
  · rw [if_neg ho, if_neg (fun hh => ho (hp.2 hh))] at h
    omega
theorem crcSteps_inj {a b : Nat} (ha : a < 4294967296) (hb : b < 4294967296) : ∀ k, crcSteps k a = crcSteps k b → a = b
  | 0, h => h
  | k + 1, h => crcSteps_inj ha hb k (crcStep_inj (crcSteps_lt ha k) (crcSteps_lt hb k) h)
theorem crcB_inj {a b : Nat} {x : UInt8} (ha : a < 4294967296) (hb : b < 4294967296) (h : crcB a x = crcB b x) : a = b :=
  xor_cancel_right (crcSteps_inj (xor_byte_lt x ha) (xor_byte_lt x hb) 8 h)
theorem crcB_inj_byte {a : Nat} {x y : UInt8} (ha : a < 4294967296) (h : crcB a x = crcB a y) : x = y :=
  UInt8.toNat_inj.1 (xor_cancel_left (crcSteps_inj (xor_byte_lt x ha) (xor_byte_lt y ha) 8 h))
theorem crcL_inj : ∀ (l : List UInt8) {a b : Nat}, a < 4294967296 → b < 4294967296 → crcL a l = crcL b l → a = b
  | [], _, _, _, _, h => h
  | x :: l, _, _, ha, hb, h => crcB_inj ha hb (crcL_inj l (crcB_lt x ha) (crcB_lt x hb) h)
/-- One byte turned: another CRC. -/
theorem crcMore_turn (c : Nat) (p s : List UInt8) {x y : UInt8} (h : x ≠ y) : crcMore c (p ++ x :: s) ≠ crcMore c (p ++ y :: s) := by
  intro e
  unfold crcMore at e
  have h1 := crcL_lt (p ++ x :: s) (turn32 c) (turn32_lt c)
  have h2 := crcL_lt (p ++ y :: s) (turn32 c) (turn32_lt c)
  have e2 : crcL (turn32 c) (p ++ x :: s) = crcL (turn32 c) (p ++ y :: s) := by unfold turn32 at e h1 h2 ⊢; omega
  rw [crcL_append, crcL_append] at e2
  have hp := crcL_lt p _ (turn32_lt c)
  exact h (crcB_inj_byte hp (crcL_inj s (crcB_lt x hp) (crcB_lt y hp) e2))

end Go.Proofs.Ytoabhpgiaieopaa

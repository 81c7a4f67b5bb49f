/- Each word of the program's machine does what the model's does. -/
import Derived.Test.YtekmnopgaopmlaaGreatDoorVc
import Derived.Test.YtekmnopgaopmlaaGreatDoorVa
import Derived.Test.YtekmnopgaopmlaaGreatDoorPc
set_option maxRecDepth 100000
set_option linter.unusedSimpArgs false
set_option linter.unusedVariables false
namespace Go.Proofs.YtekmnopgaopmlaaGreatDoor
open Go.RowKit

/-! The mask of the cells. -/
theorem v_and_u16 (a b : Nat) (ha : a < 65536) (hb : b < 65536) : bits .and .u16 (a : Int) (b : Int) = ((a &&& b : Nat) : Int) := by
  have hx : a &&& b < 2 ^ 16 := Nat.and_lt_two_pow _ (by omega)
  show IntKind.u16.wrap ((BitVec.ofInt 16 (a : Int) &&& BitVec.ofInt 16 (b : Int)).toNat : Int) = _
  rw [BitVec.toNat_and, ofInt_toNat 16 a (by omega), ofInt_toNat 16 b (by omega)]
  exact wraps_u16 _ (by omega) (by omega)
theorem v_or_u16 (a b : Nat) (ha : a < 65536) (hb : b < 65536) : bits .or .u16 (a : Int) (b : Int) = ((a ||| b : Nat) : Int) := by
  have hx : a ||| b < 2 ^ 16 := Nat.or_lt_two_pow (by omega) (by omega)
  show IntKind.u16.wrap ((BitVec.ofInt 16 (a : Int) ||| BitVec.ofInt 16 (b : Int)).toNat : Int) = _
  rw [BitVec.toNat_or, ofInt_toNat 16 a (by omega), ofInt_toNat 16 b (by omega)]
  exact wraps_u16 _ (by omega) (by omega)
theorem mskBit_nat (m j : Nat) (hm : m < 65536) : mskBit (m : Int) (j : Int) = if m.testBit j then 1 else 0 := by
  unfold mskBit
  have e : (m : Int) / 2 ^ (j : Int).toNat = ((m / 2 ^ j : Nat) : Int) := by simp
  have hlt : m / 2 ^ j < 65536 := Nat.lt_of_le_of_lt (Nat.div_le_self _ _) hm
  rw [e, show (1 : Int) = ((1 : Nat) : Int) from rfl, v_and_u16 _ _ hlt (by omega), Nat.and_one_is_mod, Nat.testBit_eq_decide_div_mod_eq]
  have := Nat.mod_two_eq_zero_or_one (m / 2 ^ j)
  rcases this with h | h <;> simp [h]
/-- The mask says which cells were written. -/
def MaskOf (msk : Int) (has : List Bool) : Prop := (0 ≤ msk ∧ msk ≤ 65535) ∧ ∀ j : Nat, j < 16 → mskBit msk j = if has.getD j false then 1 else 0
theorem mask0 : MaskOf 0 (List.replicate 16 false) := by
  refine ⟨by omega, fun j hj => ?_⟩
  have h := mskBit_nat 0 j (by omega)
  rw [show ((0 : Nat) : Int) = 0 from rfl] at h
  rw [h, List.getD_eq_getElem?_getD, List.getElem?_replicate, if_pos hj]
  simp
theorem MaskOf.set {msk : Int} {has : List Bool} (h : MaskOf msk has) (hl : has.length = 16) {j : Nat} (hj : j < 16) : MaskOf (bits .or .u16 msk (IntKind.u16.wrap (2 ^ (j : Int).toNat))) (has.set j true) := by
  obtain ⟨⟨h0, h1⟩, hb⟩ := h
  obtain ⟨m, rfl⟩ := Int.eq_ofNat_of_zero_le h0
  have hp : 2 ^ j < 65536 := by
    have : 2 ^ j ≤ 2 ^ 15 := Nat.pow_le_pow_right (by omega) (by omega)
    omega
  have e : IntKind.u16.wrap (2 ^ (j : Int).toNat) = ((2 ^ j : Nat) : Int) := by
    have e2 : (2 : Int) ^ (j : Int).toNat = ((2 ^ j : Nat) : Int) := by simp
    rw [e2]
    generalize 2 ^ j = p at hp
    exact wraps_u16 _ (by omega) (by omega)
  have hx : m ||| 2 ^ j < 2 ^ 16 := Nat.or_lt_two_pow (by omega) (by omega)
  rw [e, v_or_u16 m _ (by omega) hp]
  refine ⟨by omega, fun i hi => ?_⟩
  have hbi := hb i hi
  rw [mskBit_nat _ _ (by omega)] at hbi ⊢
  rw [Nat.testBit_or, Nat.testBit_two_pow]
  simp only [List.getD_eq_getElem?_getD, List.getElem?_set] at hbi ⊢
  by_cases hij : j = i
  · subst hij; simp [hl, hj]
  · simp only [hij, decide_false, Bool.or_false, if_false]; exact hbi

/-! Bits of 32. -/
theorem w_bits {op : BinOp} (a b : Int) (ha : In32 a) (hb : In32 b) :
    (bits .and .u32 a b = w32 (bits .and .i64 a b)) ∧ (bits .or .u32 a b = w32 (bits .or .i64 a b)) ∧ (bits .xor .u32 a b = w32 (bits .xor .i64 a b)) ∧ bits .and .u32 a b = bits .and .i64 a b := by
  obtain ⟨m, rfl⟩ := Int.eq_ofNat_of_zero_le ha.1
  obtain ⟨n, rfl⟩ := Int.eq_ofNat_of_zero_le hb.1
  have h1 := ha.2
  have h2 := hb.2
  have x1 : m &&& n < 2 ^ 32 := Nat.and_lt_two_pow _ (by omega)
  have x2 : m ||| n < 2 ^ 32 := Nat.or_lt_two_pow (by omega) (by omega)
  have x3 : m ^^^ n < 2 ^ 32 := Nat.xor_lt_two_pow (by omega) (by omega)
  rw [and_u32_nat _ _ (by omega) (by omega), or_u32_nat _ _ (by omega) (by omega), xor_u32_nat _ _ (by omega) (by omega), and_i64_nat _ _ (by omega) (by omega), or_i64_nat _ _ (by omega) (by omega), xor_i64_nat _ _ (by omega) (by omega)]
  refine ⟨(w32_of ?_).symm, (w32_of ?_).symm, (w32_of ?_).symm, rfl⟩ <;> (unfold In32; omega)
theorem u32_w (n : Int) : IntKind.u32.wrap n = w32 n := IntKind.wrap_u32 n

/-- The program's machine is the model's. -/
structure Rel (z : Mx) (m : Mc) : Prop where
  a : z.a = m.a
  x : z.x = m.x
  held : z.held = m.cells
  msk : MaskOf z.msk m.has
/-- A word that neither looks nor leaps nor ends was done. -/
def DoStep (b : ByteArray) (z : Mx) (m : Mc) (i : Ins) (M : Nat) (w : World) (e : Ending) (w' : World) : Prop :=
  ∃ z', PPost b z' (doM b m i).2 M w e w' ∧ ((doM b m i).2 = 0 → Rel z' (doM b m i).1) ∧ z'.pc = z.pc ∧ z'.st = z.st ∧ z'.ret = z.ret ∧ z'.done = z.done
/-- The function of a code. -/
def fnOf (c : Int) : Option Nat :=
  if c = 32 then some 95 else if c = 0 then some 96 else if c = 1 then some 97
  else if c = 96 then some 98 else if c = 97 then some 99 else if c = 2 then some 100 else if c = 3 then some 101
  else if c = 4 ∨ c = 12 then some 102 else if c = 20 ∨ c = 28 then some 103 else if c = 36 then some 104 else if c = 52 then some 105
  else if c = 68 ∨ c = 76 then some 106 else if c = 84 ∨ c = 92 then some 107 else if c = 100 then some 108 else if c = 116 then some 109
  else if c = 132 then some 110 else if c = 164 then some 111 else if c = 5 then some 112
  else if c = 21 ∨ c = 29 then some 113 else if c = 37 ∨ c = 45 then some 114 else if c = 53 ∨ c = 61 then some 115 else if c = 69 ∨ c = 77 then some 116
  else if c = 6 then some 117 else if c = 22 then some 118 else if c = 7 then some 119 else if c = 135 then some 120 else none

section
variable {b : ByteArray} {z : Mx} {m : Mc} {c y n k : Int} {M K : Nat} {w : World} {args : Array Value}
theorem sum_step {v : Int} (r : Rel z m) (hd : doM b m ⟨c, y, n, k⟩ = sumM m ⟨c, y, n, k⟩) (hs : sumA c m.a m.x k = w32 v) (H : Calls Tryz.prog K args w (PPost b { z with a := w32 v } 0 M w)) : Calls Tryz.prog K args w (DoStep b z m ⟨c, y, n, k⟩ M w) := by
  refine H.mono fun e w' hp => ?_
  unfold DoStep
  rw [hd, sumM_yes hs]
  exact ⟨_, hp, fun _ => ⟨rfl, r.x, r.held, r.msk⟩, rfl, rfl, rfl, rfl⟩
theorem sum_step_no (hd : doM b m ⟨c, y, n, k⟩ = sumM m ⟨c, y, n, k⟩) (hs : sumA c m.a m.x k = -1) (H : Calls Tryz.prog K args w (PPost b z 8 M w)) : Calls Tryz.prog K args w (DoStep b z m ⟨c, y, n, k⟩ M w) := by
  refine H.mono fun e w' hp => ?_
  unfold DoStep
  rw [hd, sumM_no hs]
  exact ⟨z, hp, fun h => by simp at h, rfl, rfl, rfl, rfl⟩
end

theorem do_step (b : ByteArray) (z : Mx) (m : Mc) (c y n k : Int) (M K : Nat) (w : World) (h : PAt w M b z) (r : Rel z m) (hok : m.ok) (hk : In32 k) (hb : b.size ≤ maxLen)
    (hop : isOp c = true) (h5 : c ≠ 5) (h6 : c ≠ 6) (h22 : c ≠ 22) (hl : looksC c = false) (hf : fnOf c = some K) :
    Calls Tryz.prog K #[.pointer (some ⟨M, 0, none⟩), .agg #[.int .i64 c, .int .i64 y, .int .i64 n, .int .i64 k]] w (DoStep b z m ⟨c, y, n, k⟩ M w) := by
  obtain ⟨ha, hx, hcl, hhl, hcs⟩ := hok
  have hza : In32 z.a := by rw [r.a]; exact ha
  have hzx : In32 z.x := by rw [r.x]; exact hx
  have hbits := w_bits (op := .and) z.a k hza hk
  have hbitx := w_bits (op := .and) z.a z.x hza hzx
  have ra := r.a
  have rx := r.x
  rcases sum_codes hop h5 h6 h22 hl with hc | hc | hc | hc
  · rcases hc with rfl | rfl | rfl | rfl
    · obtain rfl : 96 = K := by simpa [fnOf] using hf
      refine (p_Imm b z 0 y n k M w h hk).mono fun e w' hp => ⟨_, hp, fun _ => ⟨rfl, r.x, r.held, r.msk⟩, rfl, rfl, rfl, rfl⟩
    · obtain rfl : 97 = K := by simpa [fnOf] using hf
      refine (p_ImmX b z 1 y n k M w h hk).mono fun e w' hp => ⟨_, hp, fun _ => ⟨r.a, rfl, r.held, r.msk⟩, rfl, rfl, rfl, rfl⟩
    · obtain rfl : 119 = K := by simpa [fnOf] using hf
      refine (p_Tax b z 7 y n k M w h hk).mono fun e w' hp => ⟨_, hp, fun _ => ⟨r.a, r.a, r.held, r.msk⟩, rfl, rfl, rfl, rfl⟩
    · obtain rfl : 120 = K := by simpa [fnOf] using hf
      refine (p_Txa b z 135 y n k M w h hk).mono fun e w' hp => ⟨_, hp, fun _ => ⟨r.x, r.x, r.held, r.msk⟩, rfl, rfl, rfl, rfl⟩
  · have hd : doM b m ⟨c, y, n, k⟩ = cellM m ⟨c, y, n, k⟩ := by rcases hc with rfl | rfl | rfl | rfl <;> rfl
    by_cases hfar : 15 < k
    · have hcm : cellM m ⟨c, y, n, k⟩ = (m, 8) := by simp [cellM, hfar]
      rcases hc with rfl | rfl | rfl | rfl
      · obtain rfl : 98 = K := by simpa [fnOf] using hf
        refine (p_Mem b z 96 y n k M w h hk 0 8 fun W hW => cell_far b z k M W hW hfar).mono fun e w' hp => ?_
        unfold DoStep; rw [hd, hcm]
        exact ⟨_, hp, fun h => by simp at h, rfl, rfl, rfl, rfl⟩
      · obtain rfl : 99 = K := by simpa [fnOf] using hf
        refine (p_MemX b z 97 y n k M w h hk 0 8 fun W hW => cell_far b z k M W hW hfar).mono fun e w' hp => ?_
        unfold DoStep; rw [hd, hcm]
        exact ⟨_, hp, fun h => by simp at h, rfl, rfl, rfl, rfl⟩
      · obtain rfl : 100 = K := by simpa [fnOf] using hf
        refine (p_Store b z 2 y n k M w h hk z 8 fun W hW => setCell_far b z k z.a M W hW hfar).mono fun e w' hp => ?_
        unfold DoStep; rw [hd, hcm]
        exact ⟨_, hp, fun h => by simp at h, rfl, rfl, rfl, rfl⟩
      · obtain rfl : 101 = K := by simpa [fnOf] using hf
        refine (p_StoreX b z 3 y n k M w h hk z 8 fun W hW => setCell_far b z k z.x M W hW hfar).mono fun e w' hp => ?_
        unfold DoStep; rw [hd, hcm]
        exact ⟨_, hp, fun h => by simp at h, rfl, rfl, rfl, rfl⟩
    · obtain ⟨j, rfl⟩ : ∃ j : Nat, k = j := ⟨k.toNat, by have := hk.1; omega⟩
      have hj : j < 16 := by omega
      have hbit := r.msk.2 j hj
      have hmr := r.msk.1
      rcases hc with rfl | rfl | rfl | rfl
      · obtain rfl : 98 = K := by simpa [fnOf] using hf
        cases hh : m.has.getD j false
        · rw [hh] at hbit
          rw [List.getD_eq_getElem?_getD] at hh
          refine (p_Mem b z 96 y n j M w h hk 0 6 fun W hW => cell_un b z j M W hW (by omega) (by omega) hmr hbit).mono fun e w' hp => ?_
          unfold DoStep; rw [hd, show cellM m ⟨96, y, n, j⟩ = (m, 6) by simp [cellM, hfar, hh]]
          exact ⟨_, hp, fun h => by simp at h, rfl, rfl, rfl, rfl⟩
        · rw [hh] at hbit
          rw [List.getD_eq_getElem?_getD] at hh
          refine (p_Mem b z 96 y n j M w h hk _ 0 fun W hW => cell_ok b z j M W hW (by omega) (by omega) hmr hbit).mono fun e w' hp => ?_
          unfold DoStep; rw [hd, show cellM m ⟨96, y, n, j⟩ = (⟨m.cells.getD j 0, m.x, m.cells, m.has⟩, 0) by simp [cellM, hfar, hh]]
          exact ⟨_, hp, fun _ => ⟨by simp [r.held], r.x, r.held, r.msk⟩, rfl, rfl, rfl, rfl⟩
      · obtain rfl : 99 = K := by simpa [fnOf] using hf
        cases hh : m.has.getD j false
        · rw [hh] at hbit
          rw [List.getD_eq_getElem?_getD] at hh
          refine (p_MemX b z 97 y n j M w h hk 0 6 fun W hW => cell_un b z j M W hW (by omega) (by omega) hmr hbit).mono fun e w' hp => ?_
          unfold DoStep; rw [hd, show cellM m ⟨97, y, n, j⟩ = (m, 6) by simp [cellM, hfar, hh]]
          exact ⟨_, hp, fun h => by simp at h, rfl, rfl, rfl, rfl⟩
        · rw [hh] at hbit
          rw [List.getD_eq_getElem?_getD] at hh
          refine (p_MemX b z 97 y n j M w h hk _ 0 fun W hW => cell_ok b z j M W hW (by omega) (by omega) hmr hbit).mono fun e w' hp => ?_
          unfold DoStep; rw [hd, show cellM m ⟨97, y, n, j⟩ = (⟨m.a, m.cells.getD j 0, m.cells, m.has⟩, 0) by simp [cellM, hfar, hh]]
          exact ⟨_, hp, fun _ => ⟨r.a, by simp [r.held], r.held, r.msk⟩, rfl, rfl, rfl, rfl⟩
      · obtain rfl : 100 = K := by simpa [fnOf] using hf
        refine (p_Store b z 2 y n j M w h hk _ 0 fun W hW => setCell_ok b z j z.a _ M W hW (by omega) (by omega) rfl).mono fun e w' hp => ?_
        unfold DoStep; rw [hd, show cellM m ⟨2, y, n, j⟩ = (⟨m.a, m.x, m.cells.set j m.a, m.has.set j true⟩, 0) by simp [cellM, hfar]]
        exact ⟨_, hp, fun _ => ⟨r.a, r.x, by simp [r.held, r.a], r.msk.set hhl hj⟩, rfl, rfl, rfl, rfl⟩
      · obtain rfl : 101 = K := by simpa [fnOf] using hf
        refine (p_StoreX b z 3 y n j M w h hk _ 0 fun W hW => setCell_ok b z j z.x _ M W hW (by omega) (by omega) rfl).mono fun e w' hp => ?_
        unfold DoStep; rw [hd, show cellM m ⟨3, y, n, j⟩ = (⟨m.a, m.x, m.cells.set j m.x, m.has.set j true⟩, 0) by simp [cellM, hfar]]
        exact ⟨_, hp, fun _ => ⟨r.a, r.x, by simp [r.held, r.x], r.msk.set hhl hj⟩, rfl, rfl, rfl, rfl⟩
  · subst hc
    obtain rfl : 95 = K := by simpa [fnOf] using hf
    by_cases hlv : loadB b k < 0
    · refine (p_Load_no b z 32 y n k M w h hk hb hlv).mono fun e w' hp => ?_
      unfold DoStep; rw [show doM b m ⟨32, y, n, k⟩ = (m, 8) by simp [doM, hlv]]
      exact ⟨_, hp, fun h => by simp at h, rfl, rfl, rfl, rfl⟩
    · refine (p_Load b z 32 y n k M w h hk hb hlv).mono fun e w' hp => ?_
      unfold DoStep; rw [show doM b m ⟨32, y, n, k⟩ = (⟨loadB b k, m.x, m.cells, m.has⟩, 0) by simp [doM, hlv]]
      exact ⟨_, hp, fun _ => ⟨rfl, r.x, r.held, r.msk⟩, rfl, rfl, rfl, rfl⟩
  · have hd : doM b m ⟨c, y, n, k⟩ = sumM m ⟨c, y, n, k⟩ := by
      rcases hc with rfl | rfl | rfl | rfl | rfl | rfl | rfl | rfl | rfl | rfl | rfl | rfl | rfl | rfl <;> rfl
    rcases hc with rfl | rfl | rfl | rfl | rfl | rfl | rfl | rfl | rfl | rfl | rfl | rfl | rfl | rfl
    · obtain rfl : 102 = K := by simpa [fnOf] using hf
      exact sum_step (v := m.a + k) r hd rfl (p_Add b z 4 y n k _ M w h hk (by rw [show operV z 4 k = k from rfl, ra, u32_w]))
    · obtain rfl : 103 = K := by simpa [fnOf] using hf
      exact sum_step (v := m.a - k) r hd rfl (p_Sub b z 20 y n k _ M w h hk (by rw [show operV z 20 k = k from rfl, ra, u32_w]))
    · obtain rfl : 104 = K := by simpa [fnOf] using hf
      exact sum_step (v := m.a * k) r hd rfl (p_Mul b z 36 y n k _ M w h hk (by rw [show operV z 36 k = k from rfl, ra, u32_w]))
    · obtain rfl : 105 = K := by simpa [fnOf] using hf
      by_cases hk0 : k = 0
      · exact sum_step_no hd (by subst hk0; rfl) (p_Div_no b z 52 y n k M w h hk hk0)
      · exact sum_step (v := m.a / k) r hd (by simp [sumA, hk0]) (p_Div b z 52 y n k M w h hk _ hk0 hk.1 hza.1 (by rw [show operV z 52 k = k from rfl, Int.tdiv_eq_ediv_of_nonneg hza.1, ra]; rfl))
    · obtain rfl : 106 = K := by simpa [fnOf] using hf
      exact sum_step r hd rfl (p_Or b z 68 y n k _ M w h hk (by rw [show operV z 68 k = k from rfl, hbits.2.1, ra]))
    · obtain rfl : 107 = K := by simpa [fnOf] using hf
      exact sum_step r hd rfl (p_And b z 84 y n k _ M w h hk (by rw [show operV z 84 k = k from rfl, hbits.1, ra]))
    · obtain rfl : 111 = K := by simpa [fnOf] using hf
      exact sum_step r hd rfl (p_Xor b z 164 y n k _ M w h hk (by rw [show operV z 164 k = k from rfl, hbits.2.2.1, ra]))
    · obtain rfl : 102 = K := by simpa [fnOf] using hf
      exact sum_step (v := m.a + m.x) r hd rfl (p_Add b z 12 y n k _ M w h hk (by rw [show operV z 12 k = z.x from rfl, ra, rx, u32_w]))
    · obtain rfl : 103 = K := by simpa [fnOf] using hf
      exact sum_step (v := m.a - m.x) r hd rfl (p_Sub b z 28 y n k _ M w h hk (by rw [show operV z 28 k = z.x from rfl, ra, rx, u32_w]))
    · obtain rfl : 107 = K := by simpa [fnOf] using hf
      exact sum_step r hd rfl (p_And b z 92 y n k _ M w h hk (by rw [show operV z 92 k = z.x from rfl, hbitx.1, ra, rx]))
    · obtain rfl : 106 = K := by simpa [fnOf] using hf
      exact sum_step r hd rfl (p_Or b z 76 y n k _ M w h hk (by rw [show operV z 76 k = z.x from rfl, hbitx.2.1, ra, rx]))
    · obtain rfl : 110 = K := by simpa [fnOf] using hf
      exact sum_step (v := -m.a) r hd rfl (p_Neg b z 132 y n k M w h hk _ (by rw [ra, u32_w]))
    · obtain rfl : 108 = K := by simpa [fnOf] using hf
      by_cases h31 : 31 < k
      · exact sum_step_no hd (by simp [sumA, h31]) (p_Left_no b z 100 y n k M w h hk h31)
      · exact sum_step (v := m.a * 2 ^ k.toNat) r hd (by simp [sumA, h31]) (p_Left b z 100 y n k M w h hk (by omega) _ hza (by rw [ra, u32_w]))
    · obtain rfl : 109 = K := by simpa [fnOf] using hf
      by_cases h31 : 31 < k
      · exact sum_step_no hd (by simp [sumA, h31]) (p_Right_no b z 116 y n k M w h hk h31)
      · have hq : In32 (m.a / 2 ^ k.toNat) := by
          obtain ⟨p, hp⟩ := Int.eq_ofNat_of_zero_le ha.1
          have e2 : (2 : Int) ^ k.toNat = ((2 ^ k.toNat : Nat) : Int) := by simp
          have h2 := ha.2
          rw [hp] at h2 ⊢
          rw [e2, ← Int.natCast_ediv]
          have := Nat.div_le_self p (2 ^ k.toNat)
          generalize p / 2 ^ k.toNat = q at *
          unfold In32; omega
        exact sum_step (v := m.a / 2 ^ k.toNat) r hd (by simp [sumA, h31]) (p_Right b z 116 y n k M w h hk (by omega) _ hza (by rw [ra, w32_of hq]))

end Go.Proofs.YtekmnopgaopmlaaGreatDoor

/- The program's words at a cell. -/
import Derived.Test.YtekmnopgaopmlaaGreatDoorPa
import Derived.IntWalk
set_option maxRecDepth 100000
set_option linter.unusedSimpArgs false
set_option linter.unusedVariables false
namespace Go.Proofs.YtekmnopgaopmlaaGreatDoor
open Go.RowKit

/-- Is a cell written, by the mask? -/
def mskBit (msk k : Int) : Int := bits .and .u16 (msk / 2 ^ k.toNat) 1
theorem cell_far (b : ByteArray) (z : Mx) (k : Int) (M : Nat) (w : World) (h : PAt w M b z) (hk : 15 < k) :
    Calls Tryz.prog 131 #[.pointer (some ⟨M, 0, none⟩), .int .i64 k] w fun e w' => e = .returned (.tuple #[.int .u32 0, errV 8]) ∧ w = w' := by
  have hz : decide (16 ≤ k) = true := decide_eq_true (by omega)
  clear h
  go_enter Tryz.func131, Tryz.ntmps131
  go_wp2_with fail
  go_ret2
  exact ⟨rfl, rfl⟩
theorem cell_un (b : ByteArray) (z : Mx) (k : Int) (M : Nat) (w : World) (h : PAt w M b z) (h0 : 0 ≤ k) (hk : k ≤ 15) (hm : 0 ≤ z.msk ∧ z.msk ≤ 65535) (hq : mskBit z.msk k = 0) :
    Calls Tryz.prog 131 #[.pointer (some ⟨M, 0, none⟩), .int .i64 k] w fun e w' => e = .returned (.tuple #[.int .u32 0, errV 6]) ∧ w = w' := by
  have hz : decide (16 ≤ k) = false := decide_eq_false (by omega)
  have c := h.cmsk
  unfold mskBit at hq
  clear h
  go_enter Tryz.func131, Tryz.ntmps131
  go_wp2_with fail
  go_ret2
  exact ⟨rfl, rfl⟩
theorem cell_ok (b : ByteArray) (z : Mx) (k : Int) (M : Nat) (w : World) (h : PAt w M b z) (h0 : 0 ≤ k) (hk : k ≤ 15) (hm : 0 ≤ z.msk ∧ z.msk ≤ 65535) (hq : mskBit z.msk k = 1) :
    Calls Tryz.prog 131 #[.pointer (some ⟨M, 0, none⟩), .int .i64 k] w fun e w' => e = .returned (.tuple #[.int .u32 (z.held.getD k.toNat 0), errV 0]) ∧ w = w' := by
  have hz : decide (16 ≤ k) = false := decide_eq_false (by omega)
  have c := h.cmsk
  unfold mskBit at hq
  obtain ⟨j, rfl⟩ := Int.eq_ofNat_of_zero_le h0
  have hj : j < 16 := by omega
  have d := h.cheld hj
  simp only [Int.toNat_natCast] at hq ⊢
  generalize z.held.getD j 0 = hv at *
  clear h h0
  go_enter Tryz.func131, Tryz.ntmps131
  go_wp2_with fail
  go_ret2
  exact ⟨rfl, rfl⟩

set_option maxHeartbeats 1600000 in
theorem setCell_far (b : ByteArray) (z : Mx) (k v : Int) (M : Nat) (w : World) (h : PAt w M b z) (hk : 15 < k) :
    Calls Tryz.prog 132 #[.pointer (some ⟨M, 0, none⟩), .int .i64 k, .int .u32 v] w (PPost b z 8 M w) := by
  have hz : decide (16 ≤ k) = true := decide_eq_true (by omega)
  have HF := Lib.hid (p_err (c := 8) (by decide) h (KeepM.refl M M M w))
  clear h
  go_enter Tryz.func132, Tryz.ntmps132
  go_wp2_with fail
  go_ret
  exact HF.out
set_option maxHeartbeats 1600000 in
theorem setCell_ok (b : ByteArray) (z : Mx) (k v r : Int) (M : Nat) (w : World) (h : PAt w M b z) (h0 : 0 ≤ k) (hk : k ≤ 15) (hr : bits .or .u16 z.msk (IntKind.u16.wrap (2 ^ k.toNat)) = r) :
    Calls Tryz.prog 132 #[.pointer (some ⟨M, 0, none⟩), .int .i64 k, .int .u32 v] w (PPost b { z with held := z.held.set k.toNat v, msk := r } 0 M w) := by
  have hz : decide (16 ≤ k) = false := decide_eq_false (by omega)
  obtain ⟨j, rfl⟩ := Int.eq_ofNat_of_zero_le h0
  have hj : j < 16 := by omega
  simp only [Int.toNat_natCast] at hr ⊢
  have d := h.cheld hj
  have f := h.free (3 + j)
  have hs := h.setHeld hj v
  have c := hs.cmsk
  have fm := hs.free 19
  have HF := Lib.hid (p_fin (hs.setMsk r) (((KeepM.refl M M M w).set (p := ⟨M, 3 + j, none⟩) (.inl rfl) (.int .u32 v)).set (p := ⟨M, 19, none⟩) (.inl rfl) (.int .u16 r)))
  have HFD := Lib.hid (p_fin (hs.drew.setMsk r) (((KeepM.refl M M M w).set (p := ⟨M, 3 + j, none⟩) (.inl rfl) (.int .u32 v)).drew.set (p := ⟨M, 19, none⟩) (.inl rfl) (.int .u16 r)))
  clear h h0 hs
  go_enter Tryz.func132, Tryz.ntmps132
  go_wp2_with fail
  go_region_law ((fail))
  all_goals
    go_wp2_with fail
    go_ret
    first | exact HF.out | exact HFD.out

end Go.Proofs.YtekmnopgaopmlaaGreatDoor

/- The program's words that change A or X without a cell (made by tools/mk_va.py). -/
import Derived.Test.YtekmnopgaopmlaaGreatDoorPa
import Derived.Test.YtekmnopgaopmlaaGreatDoorIw
import Derived.Test.YtekmnopgaopmlaaGreatDoorRl
set_option maxRecDepth 100000
set_option linter.unusedSimpArgs false
set_option linter.unusedVariables false
namespace Go.Proofs.YtekmnopgaopmlaaGreatDoor
open Go.RowKit

set_option maxHeartbeats 1600000 in
theorem p_Imm (b : ByteArray) (z : Mx) (c y n k : Int) (M : Nat) (w : World) (h : PAt w M b z) (hk : In32 k) :
    Calls Tryz.prog 96 #[.pointer (some ⟨M, 0, none⟩), .agg #[.int .i64 c, .int .i64 y, .int .i64 n, .int .i64 k]] w (PPost b { z with a := k } 0 M w) := by
  have hb0 := (Below.refl w.heap.size w).alloc (Nat.le_refl _) (.cells #[.int .i64 c, .int .i64 y, .int .i64 n, .int .i64 k] 66)
  have hp0 := h.below hb0
  have HP := Lib.hid hp0
  have HB := Lib.hid hb0
  unfold In32 at hk
  have hkw : IntKind.u32.wrap k = k := wraps_u32 k (by omega) (by omega)
  have fm := hp0.free 1
  have c1 := hp0.ca
  have HF := Lib.hid (p_fin (hp0.setA k) (KeepM.setM hb0 1 (.int .u32 k)))
  have HFD := Lib.hid (p_fin (hp0.drew.setA k) (KeepM.setM hb0.drew 1 (.int .u32 k)))
  clear h hb0 hp0
  go_enter Tryz.func96, Tryz.ntmps96
  first
    | (go_wp2_with fail
       go_ret
       exact HF.out)
    | (go_wp2_with fail
       go_region_law ((fail))
       all_goals
         go_wp2_with fail
         go_ret
         first | exact HF.out | exact HFD.out)

set_option maxHeartbeats 1600000 in
theorem p_ImmX (b : ByteArray) (z : Mx) (c y n k : Int) (M : Nat) (w : World) (h : PAt w M b z) (hk : In32 k) :
    Calls Tryz.prog 97 #[.pointer (some ⟨M, 0, none⟩), .agg #[.int .i64 c, .int .i64 y, .int .i64 n, .int .i64 k]] w (PPost b { z with x := k } 0 M w) := by
  have hb0 := (Below.refl w.heap.size w).alloc (Nat.le_refl _) (.cells #[.int .i64 c, .int .i64 y, .int .i64 n, .int .i64 k] 66)
  have hp0 := h.below hb0
  have HP := Lib.hid hp0
  have HB := Lib.hid hb0
  unfold In32 at hk
  have hkw : IntKind.u32.wrap k = k := wraps_u32 k (by omega) (by omega)
  have fm := hp0.free 2
  have c1 := hp0.cx
  have HF := Lib.hid (p_fin (hp0.setX k) (KeepM.setM hb0 2 (.int .u32 k)))
  have HFD := Lib.hid (p_fin (hp0.drew.setX k) (KeepM.setM hb0.drew 2 (.int .u32 k)))
  clear h hb0 hp0
  go_enter Tryz.func97, Tryz.ntmps97
  first
    | (go_wp2_with fail
       go_ret
       exact HF.out)
    | (go_wp2_with fail
       go_region_law ((fail))
       all_goals
         go_wp2_with fail
         go_ret
         first | exact HF.out | exact HFD.out)

set_option maxHeartbeats 1600000 in
theorem p_Tax (b : ByteArray) (z : Mx) (c y n k : Int) (M : Nat) (w : World) (h : PAt w M b z) (hk : In32 k) :
    Calls Tryz.prog 119 #[.pointer (some ⟨M, 0, none⟩), .agg #[.int .i64 c, .int .i64 y, .int .i64 n, .int .i64 k]] w (PPost b { z with x := z.a } 0 M w) := by
  have hb0 := (Below.refl w.heap.size w).alloc (Nat.le_refl _) (.cells #[.int .i64 c, .int .i64 y, .int .i64 n, .int .i64 k] 66)
  have hp0 := h.below hb0
  have HP := Lib.hid hp0
  have HB := Lib.hid hb0
  have fm := hp0.free 2
  have c1 := hp0.ca
  have c2 := hp0.cx
  have HF := Lib.hid (p_fin (hp0.setX z.a) (KeepM.setM hb0 2 (.int .u32 z.a)))
  have HFD := Lib.hid (p_fin (hp0.drew.setX z.a) (KeepM.setM hb0.drew 2 (.int .u32 z.a)))
  clear h hb0 hp0
  go_enter Tryz.func119, Tryz.ntmps119
  first
    | (go_wp2_with fail
       go_ret
       exact HF.out)
    | (go_wp2_with fail
       go_region_law ((fail))
       all_goals
         go_wp2_with fail
         go_ret
         first | exact HF.out | exact HFD.out)

set_option maxHeartbeats 1600000 in
theorem p_Txa (b : ByteArray) (z : Mx) (c y n k : Int) (M : Nat) (w : World) (h : PAt w M b z) (hk : In32 k) :
    Calls Tryz.prog 120 #[.pointer (some ⟨M, 0, none⟩), .agg #[.int .i64 c, .int .i64 y, .int .i64 n, .int .i64 k]] w (PPost b { z with a := z.x } 0 M w) := by
  have hb0 := (Below.refl w.heap.size w).alloc (Nat.le_refl _) (.cells #[.int .i64 c, .int .i64 y, .int .i64 n, .int .i64 k] 66)
  have hp0 := h.below hb0
  have HP := Lib.hid hp0
  have HB := Lib.hid hb0
  have fm := hp0.free 1
  have c1 := hp0.ca
  have c2 := hp0.cx
  have HF := Lib.hid (p_fin (hp0.setA z.x) (KeepM.setM hb0 1 (.int .u32 z.x)))
  have HFD := Lib.hid (p_fin (hp0.drew.setA z.x) (KeepM.setM hb0.drew 1 (.int .u32 z.x)))
  clear h hb0 hp0
  go_enter Tryz.func120, Tryz.ntmps120
  first
    | (go_wp2_with fail
       go_ret
       exact HF.out)
    | (go_wp2_with fail
       go_region_law ((fail))
       all_goals
         go_wp2_with fail
         go_ret
         first | exact HF.out | exact HFD.out)

set_option maxHeartbeats 1600000 in
theorem p_Neg (b : ByteArray) (z : Mx) (c y n k : Int) (M : Nat) (w : World) (h : PAt w M b z) (hk : In32 k) (r : Int) (hr : IntKind.u32.wrap (-z.a) = r) :
    Calls Tryz.prog 110 #[.pointer (some ⟨M, 0, none⟩), .agg #[.int .i64 c, .int .i64 y, .int .i64 n, .int .i64 k]] w (PPost b { z with a := r } 0 M w) := by
  have hb0 := (Below.refl w.heap.size w).alloc (Nat.le_refl _) (.cells #[.int .i64 c, .int .i64 y, .int .i64 n, .int .i64 k] 66)
  have hp0 := h.below hb0
  have HP := Lib.hid hp0
  have HB := Lib.hid hb0
  have fm := hp0.free 1
  have c1 := hp0.ca
  have HF := Lib.hid (p_fin (hp0.setA r) (KeepM.setM hb0 1 (.int .u32 r)))
  have HFD := Lib.hid (p_fin (hp0.drew.setA r) (KeepM.setM hb0.drew 1 (.int .u32 r)))
  clear h hb0 hp0
  go_enter Tryz.func110, Tryz.ntmps110
  first
    | (go_wp2_with fail
       go_ret
       exact HF.out)
    | (go_wp2_with fail
       go_region_law ((fail))
       all_goals
         go_wp2_with fail
         go_ret
         first | exact HF.out | exact HFD.out)

set_option maxHeartbeats 1600000 in
theorem p_Left (b : ByteArray) (z : Mx) (c y n k : Int) (M : Nat) (w : World) (h : PAt w M b z) (hk : In32 k) (h31 : k ≤ 31) (r : Int) (ha : In32 z.a) (hr : IntKind.u32.wrap (z.a * 2 ^ k.toNat) = r) :
    Calls Tryz.prog 108 #[.pointer (some ⟨M, 0, none⟩), .agg #[.int .i64 c, .int .i64 y, .int .i64 n, .int .i64 k]] w (PPost b { z with a := r } 0 M w) := by
  have hb0 := (Below.refl w.heap.size w).alloc (Nat.le_refl _) (.cells #[.int .i64 c, .int .i64 y, .int .i64 n, .int .i64 k] 66)
  have hp0 := h.below hb0
  have HP := Lib.hid hp0
  have HB := Lib.hid hb0
  have fm := hp0.free 1
  have c1 := hp0.ca
  unfold In32 at hk ha
  have hz : decide (31 < k) = false := decide_eq_false (by omega)
  have HF := Lib.hid (p_fin (hp0.setA r) (KeepM.setM hb0 1 (.int .u32 r)))
  have HFD := Lib.hid (p_fin (hp0.drew.setA r) (KeepM.setM hb0.drew 1 (.int .u32 r)))
  clear h hb0 hp0
  go_enter Tryz.func108, Tryz.ntmps108
  first
    | (go_wp2_with fail
       go_ret
       exact HF.out)
    | (go_wp2_with fail
       go_region_law ((fail))
       all_goals
         go_wp2_with fail
         go_ret
         first | exact HF.out | exact HFD.out)

set_option maxHeartbeats 1600000 in
theorem p_Left_no (b : ByteArray) (z : Mx) (c y n k : Int) (M : Nat) (w : World) (h : PAt w M b z) (hk : In32 k) (h31 : 31 < k) :
    Calls Tryz.prog 108 #[.pointer (some ⟨M, 0, none⟩), .agg #[.int .i64 c, .int .i64 y, .int .i64 n, .int .i64 k]] w (PPost b z 8 M w) := by
  have hb0 := (Below.refl w.heap.size w).alloc (Nat.le_refl _) (.cells #[.int .i64 c, .int .i64 y, .int .i64 n, .int .i64 k] 66)
  have hp0 := h.below hb0
  have HP := Lib.hid hp0
  have HB := Lib.hid hb0
  have HF := Lib.hid (p_err (c := 8) (by decide) hp0 (KeepM.of (M := M) (C := M) (H := M) hb0))
  unfold In32 at hk
  have hz : decide (31 < k) = true := decide_eq_true (by omega)
  clear h hb0 hp0
  go_enter Tryz.func108, Tryz.ntmps108
  go_wp2_with fail
  go_ret
  exact HF.out

set_option maxHeartbeats 1600000 in
theorem p_Right (b : ByteArray) (z : Mx) (c y n k : Int) (M : Nat) (w : World) (h : PAt w M b z) (hk : In32 k) (h31 : k ≤ 31) (r : Int) (ha : In32 z.a) (hr : z.a / 2 ^ k.toNat = r) :
    Calls Tryz.prog 109 #[.pointer (some ⟨M, 0, none⟩), .agg #[.int .i64 c, .int .i64 y, .int .i64 n, .int .i64 k]] w (PPost b { z with a := r } 0 M w) := by
  have hb0 := (Below.refl w.heap.size w).alloc (Nat.le_refl _) (.cells #[.int .i64 c, .int .i64 y, .int .i64 n, .int .i64 k] 66)
  have hp0 := h.below hb0
  have HP := Lib.hid hp0
  have HB := Lib.hid hb0
  have fm := hp0.free 1
  have c1 := hp0.ca
  unfold In32 at hk ha
  have hz : decide (31 < k) = false := decide_eq_false (by omega)
  have HF := Lib.hid (p_fin (hp0.setA r) (KeepM.setM hb0 1 (.int .u32 r)))
  have HFD := Lib.hid (p_fin (hp0.drew.setA r) (KeepM.setM hb0.drew 1 (.int .u32 r)))
  clear h hb0 hp0
  go_enter Tryz.func109, Tryz.ntmps109
  first
    | (go_wp2_with fail
       go_ret
       exact HF.out)
    | (go_wp2_with fail
       go_region_law ((fail))
       all_goals
         go_wp2_with fail
         go_ret
         first | exact HF.out | exact HFD.out)

set_option maxHeartbeats 1600000 in
theorem p_Right_no (b : ByteArray) (z : Mx) (c y n k : Int) (M : Nat) (w : World) (h : PAt w M b z) (hk : In32 k) (h31 : 31 < k) :
    Calls Tryz.prog 109 #[.pointer (some ⟨M, 0, none⟩), .agg #[.int .i64 c, .int .i64 y, .int .i64 n, .int .i64 k]] w (PPost b z 8 M w) := by
  have hb0 := (Below.refl w.heap.size w).alloc (Nat.le_refl _) (.cells #[.int .i64 c, .int .i64 y, .int .i64 n, .int .i64 k] 66)
  have hp0 := h.below hb0
  have HP := Lib.hid hp0
  have HB := Lib.hid hb0
  have HF := Lib.hid (p_err (c := 8) (by decide) hp0 (KeepM.of (M := M) (C := M) (H := M) hb0))
  unfold In32 at hk
  have hz : decide (31 < k) = true := decide_eq_true (by omega)
  clear h hb0 hp0
  go_enter Tryz.func109, Tryz.ntmps109
  go_wp2_with fail
  go_ret
  exact HF.out

set_option maxHeartbeats 1600000 in
theorem p_Div (b : ByteArray) (z : Mx) (c y n k : Int) (M : Nat) (w : World) (h : PAt w M b z) (hk : In32 k) (r : Int) (hv : operV z c k ≠ 0) (hv0 : 0 ≤ operV z c k) (ha : 0 ≤ z.a) (hr : z.a.tdiv (operV z c k) % 4294967296 = r) :
    Calls Tryz.prog 105 #[.pointer (some ⟨M, 0, none⟩), .agg #[.int .i64 c, .int .i64 y, .int .i64 n, .int .i64 k]] w (PPost b { z with a := r } 0 M w) := by
  have hb0 := (Below.refl w.heap.size w).alloc (Nat.le_refl _) (.cells #[.int .i64 c, .int .i64 y, .int .i64 n, .int .i64 k] 66)
  have hp0 := h.below hb0
  have HP := Lib.hid hp0
  have HB := Lib.hid hb0
  have c1 := hp0.ca
  have QO := Lib.hid (operand_any b z c y n k M (w.alloc (.cells #[.int .i64 c, .int .i64 y, .int .i64 n, .int .i64 k] 66)) hp0 hk)
  generalize operV z c k = v at *
  have hz : (v == 0) = false := by simpa using hv
  clear h hb0 hp0
  go_enter Tryz.func105, Tryz.ntmps105
  go_wp2_with fail
  refine QO.out.mono ?_
  rintro e w3 ⟨rfl, hb3⟩
  have c1 := (HP.out.below hb3).ca
  have fm := (HP.out.below hb3).free 1
  have HF := Lib.hid (p_fin ((HP.out.below hb3).setA r) (KeepM.setM (HB.out.trans (hb3.mono HB.out.size)) 1 (.int .u32 r)))
  clear hb3
  go_wp2_with fail
  go_ret
  exact HF.out

set_option maxHeartbeats 1600000 in
theorem p_Div_no (b : ByteArray) (z : Mx) (c y n k : Int) (M : Nat) (w : World) (h : PAt w M b z) (hk : In32 k) (hv : operV z c k = 0) :
    Calls Tryz.prog 105 #[.pointer (some ⟨M, 0, none⟩), .agg #[.int .i64 c, .int .i64 y, .int .i64 n, .int .i64 k]] w (PPost b z 8 M w) := by
  have hb0 := (Below.refl w.heap.size w).alloc (Nat.le_refl _) (.cells #[.int .i64 c, .int .i64 y, .int .i64 n, .int .i64 k] 66)
  have hp0 := h.below hb0
  have HP := Lib.hid hp0
  have HB := Lib.hid hb0
  have QO := Lib.hid (operand_any b z c y n k M (w.alloc (.cells #[.int .i64 c, .int .i64 y, .int .i64 n, .int .i64 k] 66)) hp0 hk)
  rw [hv] at QO
  clear h hb0 hp0 hv
  go_enter Tryz.func105, Tryz.ntmps105
  go_wp2_with fail
  refine QO.out.mono ?_
  rintro e w3 ⟨rfl, hb3⟩
  have HF := Lib.hid (p_err (c := 8) (by decide) (HP.out.below hb3) (KeepM.of (M := M) (C := M) (H := M) (HB.out.trans (hb3.mono HB.out.size))))
  clear hb3
  go_wp2_with fail
  go_ret
  exact HF.out

set_option maxHeartbeats 1600000 in
theorem p_Load (b : ByteArray) (z : Mx) (c y n k : Int) (M : Nat) (w : World) (h : PAt w M b z) (hk : In32 k) (hb : b.size ≤ maxLen) (hl : ¬ loadB b k < 0) :
    Calls Tryz.prog 95 #[.pointer (some ⟨M, 0, none⟩), .agg #[.int .i64 c, .int .i64 y, .int .i64 n, .int .i64 k]] w (PPost b { z with a := loadB b k } 0 M w) := by
  have hb0 := (Below.refl w.heap.size w).alloc (Nat.le_refl _) (.cells #[.int .i64 c, .int .i64 y, .int .i64 n, .int .i64 k] 66)
  have hp0 := h.below hb0
  have HP := Lib.hid hp0
  have HB := Lib.hid hb0
  have c0 := hp0.bytes
  have c1 := hp0.ca
  have fm := hp0.free 1
  unfold In32 at hk
  have QL := Lib.hid (fun W => implLoad_any b k W hb (by omega) (by omega))
  have hv := loadB_in hl
  unfold In32 at hv
  generalize loadB b k = v at *
  have hw : IntKind.u32.wrap v = v := wraps_u32 v (by omega) (by omega)
  have hz : decide (v < 0) = false := decide_eq_false hl
  have HF := Lib.hid (p_fin (hp0.setA v) (KeepM.setM hb0 1 (.int .u32 v)))
  have HFD := Lib.hid (fun q => p_fin ((hp0.drewN q).setA v) (KeepM.setM (below_drawn hb0 q) 1 (.int .u32 v)))
  clear h hb0 hp0
  go_enter Tryz.func95, Tryz.ntmps95
  go_wp2_with fail
  go_quiet ((go_at_call 130; exact Calls.quiet_of_same (((QL.out _).mono (fun _ _ h => ⟨h.1, h.2.symm⟩)))))
  go_wp2_with fail
  go_ret
  first | exact HF.out | exact HFD.out _

set_option maxHeartbeats 1600000 in
theorem p_Load_no (b : ByteArray) (z : Mx) (c y n k : Int) (M : Nat) (w : World) (h : PAt w M b z) (hk : In32 k) (hb : b.size ≤ maxLen) (hl : loadB b k < 0) :
    Calls Tryz.prog 95 #[.pointer (some ⟨M, 0, none⟩), .agg #[.int .i64 c, .int .i64 y, .int .i64 n, .int .i64 k]] w (PPost b z 8 M w) := by
  have hb0 := (Below.refl w.heap.size w).alloc (Nat.le_refl _) (.cells #[.int .i64 c, .int .i64 y, .int .i64 n, .int .i64 k] 66)
  have hp0 := h.below hb0
  have HP := Lib.hid hp0
  have HB := Lib.hid hb0
  have c0 := hp0.bytes
  have c1 := hp0.ca
  have fm := hp0.free 1
  unfold In32 at hk
  have QL := Lib.hid (fun W => implLoad_any b k W hb (by omega) (by omega))
  generalize loadB b k = v at *
  have hz : decide (v < 0) = true := decide_eq_true hl
  have HFD := Lib.hid (fun q => p_err (c := 8) (by decide) (hp0.drewN q) (KeepM.of (M := M) (C := M) (H := M) (below_drawn hb0 q)))
  clear h hb0 hp0
  go_enter Tryz.func95, Tryz.ntmps95
  go_wp2_with fail
  go_quiet ((go_at_call 130; exact Calls.quiet_of_same (((QL.out _).mono (fun _ _ h => ⟨h.1, h.2.symm⟩)))))
  go_wp2_with fail
  go_ret
  exact HFD.out _

end Go.Proofs.YtekmnopgaopmlaaGreatDoor

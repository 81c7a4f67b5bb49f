/- The program's words that put A and an operand together (made by tools/mk_pc.py). -/
import Derived.Test.YtekmnopgaopmlaaGreatDoorPa
set_option maxRecDepth 100000
set_option linter.unusedSimpArgs false
set_option linter.unusedVariables false
namespace Go.Proofs.YtekmnopgaopmlaaGreatDoor
open Go.RowKit

set_option maxHeartbeats 1600000 in
theorem p_Add (b : ByteArray) (z : Mx) (c y n k r : Int) (M : Nat) (w : World) (h : PAt w M b z) (hk : In32 k) (hr : IntKind.u32.wrap (z.a + operV z c k) = r) :
    Calls Tryz.prog 102 #[.pointer (some ⟨M, 0, none⟩), .agg #[.int .i64 c, .int .i64 y, .int .i64 n, .int .i64 k]] w (PPost b { z with a := r } 0 M w) := by
  have hb0 := (Below.refl w.heap.size w).alloc (Nat.le_refl _) (.cells #[.int .i64 c, .int .i64 y, .int .i64 n, .int .i64 k] 66)
  have hp0 := h.below hb0
  have c1 := hp0.ca
  have HP := Lib.hid hp0
  have QO := Lib.hid (operand_any b z c y n k M (w.alloc (.cells #[.int .i64 c, .int .i64 y, .int .i64 n, .int .i64 k] 66)).drew hp0.drew hk)
  have HB := Lib.hid hb0
  generalize operV z c k = v at *
  clear h hb0 hp0
  go_enter Tryz.func102, Tryz.ntmps102
  go_wp2_with fail
  go_region_law ((go_simp; go_at_call 133; (with_reducible refine QO.out.mono ?_); rintro e w3 ⟨rfl, hb3⟩; have c1 := (HP.out.drew.below hb3).ca; have fm := (HP.out.drew.below hb3).free 1; dsimp only))
  all_goals
    have HF := Lib.hid (p_fin ((HP.out.drew.below hb3).setA r) (KeepM.setM (HB.out.drew.trans (hb3.mono HB.out.drew.size)) 1 (.int .u32 r)))
    clear hb3 c1 fm
    go_wp2_with fail
    go_ret
    exact HF.out

set_option maxHeartbeats 1600000 in
theorem p_Sub (b : ByteArray) (z : Mx) (c y n k r : Int) (M : Nat) (w : World) (h : PAt w M b z) (hk : In32 k) (hr : IntKind.u32.wrap (z.a - operV z c k) = r) :
    Calls Tryz.prog 103 #[.pointer (some ⟨M, 0, none⟩), .agg #[.int .i64 c, .int .i64 y, .int .i64 n, .int .i64 k]] w (PPost b { z with a := r } 0 M w) := by
  have hb0 := (Below.refl w.heap.size w).alloc (Nat.le_refl _) (.cells #[.int .i64 c, .int .i64 y, .int .i64 n, .int .i64 k] 66)
  have hp0 := h.below hb0
  have c1 := hp0.ca
  have HP := Lib.hid hp0
  have QO := Lib.hid (operand_any b z c y n k M (w.alloc (.cells #[.int .i64 c, .int .i64 y, .int .i64 n, .int .i64 k] 66)).drew hp0.drew hk)
  have HB := Lib.hid hb0
  generalize operV z c k = v at *
  clear h hb0 hp0
  go_enter Tryz.func103, Tryz.ntmps103
  go_wp2_with fail
  go_region_law ((go_simp; go_at_call 133; (with_reducible refine QO.out.mono ?_); rintro e w3 ⟨rfl, hb3⟩; have c1 := (HP.out.drew.below hb3).ca; have fm := (HP.out.drew.below hb3).free 1; dsimp only))
  all_goals
    have HF := Lib.hid (p_fin ((HP.out.drew.below hb3).setA r) (KeepM.setM (HB.out.drew.trans (hb3.mono HB.out.drew.size)) 1 (.int .u32 r)))
    clear hb3 c1 fm
    go_wp2_with fail
    go_ret
    exact HF.out

set_option maxHeartbeats 1600000 in
theorem p_Mul (b : ByteArray) (z : Mx) (c y n k r : Int) (M : Nat) (w : World) (h : PAt w M b z) (hk : In32 k) (hr : IntKind.u32.wrap (z.a * operV z c k) = r) :
    Calls Tryz.prog 104 #[.pointer (some ⟨M, 0, none⟩), .agg #[.int .i64 c, .int .i64 y, .int .i64 n, .int .i64 k]] w (PPost b { z with a := r } 0 M w) := by
  have hb0 := (Below.refl w.heap.size w).alloc (Nat.le_refl _) (.cells #[.int .i64 c, .int .i64 y, .int .i64 n, .int .i64 k] 66)
  have hp0 := h.below hb0
  have c1 := hp0.ca
  have HP := Lib.hid hp0
  have QO := Lib.hid (operand_any b z c y n k M (w.alloc (.cells #[.int .i64 c, .int .i64 y, .int .i64 n, .int .i64 k] 66)).drew hp0.drew hk)
  have HB := Lib.hid hb0
  generalize operV z c k = v at *
  clear h hb0 hp0
  go_enter Tryz.func104, Tryz.ntmps104
  go_wp2_with fail
  go_region_law ((go_simp; go_at_call 133; (with_reducible refine QO.out.mono ?_); rintro e w3 ⟨rfl, hb3⟩; have c1 := (HP.out.drew.below hb3).ca; have fm := (HP.out.drew.below hb3).free 1; dsimp only))
  all_goals
    have HF := Lib.hid (p_fin ((HP.out.drew.below hb3).setA r) (KeepM.setM (HB.out.drew.trans (hb3.mono HB.out.drew.size)) 1 (.int .u32 r)))
    clear hb3 c1 fm
    go_wp2_with fail
    go_ret
    exact HF.out

set_option maxHeartbeats 1600000 in
theorem p_Or (b : ByteArray) (z : Mx) (c y n k r : Int) (M : Nat) (w : World) (h : PAt w M b z) (hk : In32 k) (hr : bits .or .u32 z.a (operV z c k) = r) :
    Calls Tryz.prog 106 #[.pointer (some ⟨M, 0, none⟩), .agg #[.int .i64 c, .int .i64 y, .int .i64 n, .int .i64 k]] w (PPost b { z with a := r } 0 M w) := by
  have hb0 := (Below.refl w.heap.size w).alloc (Nat.le_refl _) (.cells #[.int .i64 c, .int .i64 y, .int .i64 n, .int .i64 k] 66)
  have hp0 := h.below hb0
  have c1 := hp0.ca
  have HP := Lib.hid hp0
  have QO := Lib.hid (operand_any b z c y n k M (w.alloc (.cells #[.int .i64 c, .int .i64 y, .int .i64 n, .int .i64 k] 66)).drew hp0.drew hk)
  have HB := Lib.hid hb0
  generalize operV z c k = v at *
  clear h hb0 hp0
  go_enter Tryz.func106, Tryz.ntmps106
  go_wp2_with fail
  go_region_law ((go_simp; go_at_call 133; (with_reducible refine QO.out.mono ?_); rintro e w3 ⟨rfl, hb3⟩; have c1 := (HP.out.drew.below hb3).ca; have fm := (HP.out.drew.below hb3).free 1; dsimp only))
  all_goals
    have HF := Lib.hid (p_fin ((HP.out.drew.below hb3).setA r) (KeepM.setM (HB.out.drew.trans (hb3.mono HB.out.drew.size)) 1 (.int .u32 r)))
    clear hb3 c1 fm
    go_wp2_with fail
    go_ret
    exact HF.out

set_option maxHeartbeats 1600000 in
theorem p_And (b : ByteArray) (z : Mx) (c y n k r : Int) (M : Nat) (w : World) (h : PAt w M b z) (hk : In32 k) (hr : bits .and .u32 z.a (operV z c k) = r) :
    Calls Tryz.prog 107 #[.pointer (some ⟨M, 0, none⟩), .agg #[.int .i64 c, .int .i64 y, .int .i64 n, .int .i64 k]] w (PPost b { z with a := r } 0 M w) := by
  have hb0 := (Below.refl w.heap.size w).alloc (Nat.le_refl _) (.cells #[.int .i64 c, .int .i64 y, .int .i64 n, .int .i64 k] 66)
  have hp0 := h.below hb0
  have c1 := hp0.ca
  have HP := Lib.hid hp0
  have QO := Lib.hid (operand_any b z c y n k M (w.alloc (.cells #[.int .i64 c, .int .i64 y, .int .i64 n, .int .i64 k] 66)).drew hp0.drew hk)
  have HB := Lib.hid hb0
  generalize operV z c k = v at *
  clear h hb0 hp0
  go_enter Tryz.func107, Tryz.ntmps107
  go_wp2_with fail
  go_region_law ((go_simp; go_at_call 133; (with_reducible refine QO.out.mono ?_); rintro e w3 ⟨rfl, hb3⟩; have c1 := (HP.out.drew.below hb3).ca; have fm := (HP.out.drew.below hb3).free 1; dsimp only))
  all_goals
    have HF := Lib.hid (p_fin ((HP.out.drew.below hb3).setA r) (KeepM.setM (HB.out.drew.trans (hb3.mono HB.out.drew.size)) 1 (.int .u32 r)))
    clear hb3 c1 fm
    go_wp2_with fail
    go_ret
    exact HF.out

set_option maxHeartbeats 1600000 in
theorem p_Xor (b : ByteArray) (z : Mx) (c y n k r : Int) (M : Nat) (w : World) (h : PAt w M b z) (hk : In32 k) (hr : bits .xor .u32 z.a (operV z c k) = r) :
    Calls Tryz.prog 111 #[.pointer (some ⟨M, 0, none⟩), .agg #[.int .i64 c, .int .i64 y, .int .i64 n, .int .i64 k]] w (PPost b { z with a := r } 0 M w) := by
  have hb0 := (Below.refl w.heap.size w).alloc (Nat.le_refl _) (.cells #[.int .i64 c, .int .i64 y, .int .i64 n, .int .i64 k] 66)
  have hp0 := h.below hb0
  have c1 := hp0.ca
  have HP := Lib.hid hp0
  have QO := Lib.hid (operand_any b z c y n k M (w.alloc (.cells #[.int .i64 c, .int .i64 y, .int .i64 n, .int .i64 k] 66)).drew hp0.drew hk)
  have HB := Lib.hid hb0
  generalize operV z c k = v at *
  clear h hb0 hp0
  go_enter Tryz.func111, Tryz.ntmps111
  go_wp2_with fail
  go_region_law ((go_simp; go_at_call 133; (with_reducible refine QO.out.mono ?_); rintro e w3 ⟨rfl, hb3⟩; have c1 := (HP.out.drew.below hb3).ca; have fm := (HP.out.drew.below hb3).free 1; dsimp only))
  all_goals
    have HF := Lib.hid (p_fin ((HP.out.drew.below hb3).setA r) (KeepM.setM (HB.out.drew.trans (hb3.mono HB.out.drew.size)) 1 (.int .u32 r)))
    clear hb3 c1 fm
    go_wp2_with fail
    go_ret
    exact HF.out

end Go.Proofs.YtekmnopgaopmlaaGreatDoor

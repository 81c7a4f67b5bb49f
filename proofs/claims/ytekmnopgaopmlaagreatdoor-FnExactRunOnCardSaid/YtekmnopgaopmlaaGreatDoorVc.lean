/- The program's words at a cell, those that look, leap and end (made by tools/mk_vc.py). -/
import Derived.Test.YtekmnopgaopmlaaGreatDoorVb
import Derived.Test.YtekmnopgaopmlaaGreatDoorRl
set_option maxRecDepth 100000
set_option linter.unusedSimpArgs false
set_option linter.unusedVariables false
namespace Go.Proofs.YtekmnopgaopmlaaGreatDoor
open Go.RowKit

set_option maxHeartbeats 1600000 in
theorem p_Mem (b : ByteArray) (z : Mx) (c y n k : Int) (M : Nat) (w : World) (h : PAt w M b z) (hk : In32 k) (v ec : Int) (hc : ∀ W, PAt W M b z → Calls Tryz.prog 131 #[.pointer (some ⟨M, 0, none⟩), .int .i64 k] W fun e w' => e = .returned (.tuple #[.int .u32 v, errV ec]) ∧ W = w') :
    Calls Tryz.prog 98 #[.pointer (some ⟨M, 0, none⟩), .agg #[.int .i64 c, .int .i64 y, .int .i64 n, .int .i64 k]] w (PPost b { z with a := v } ec M w) := by
  have hb0 := (Below.refl w.heap.size w).alloc (Nat.le_refl _) (.cells #[.int .i64 c, .int .i64 y, .int .i64 n, .int .i64 k] 66)
  have hp0 := h.below hb0
  have HP := Lib.hid hp0
  have HB := Lib.hid hb0
  have HC := Lib.hid (hc _ hp0)
  have fm := hp0.free 1
  have c1 := hp0.ca
  have c2 := hp0.cx
  have HF := Lib.hid (show ∀ ev, ev = errV ec → PPost b { z with a := v } ec M w (.returned ev) ((w.alloc (.cells #[.int .i64 c, .int .i64 y, .int .i64 n, .int .i64 k] 66)).setCell ⟨M, 1, none⟩ (.int .u32 v)) from fun ev he => ⟨by rw [he], hp0.setA v, KeepM.setM hb0 1 _⟩)
  obtain ⟨ev, hev⟩ : ∃ ev, ev = errV ec := ⟨_, rfl⟩
  rw [← hev] at HC
  have HE := Lib.hid hev
  clear h hb0 hp0 hc hev
  go_enter Tryz.func98, Tryz.ntmps98
  go_wp2_with fail
  refine HC.out.mono ?_
  rintro e w1 ⟨rfl, rfl⟩
  go_wp2_with fail
  go_ret
  exact HF.out _ HE.out

set_option maxHeartbeats 1600000 in
theorem p_MemX (b : ByteArray) (z : Mx) (c y n k : Int) (M : Nat) (w : World) (h : PAt w M b z) (hk : In32 k) (v ec : Int) (hc : ∀ W, PAt W M b z → Calls Tryz.prog 131 #[.pointer (some ⟨M, 0, none⟩), .int .i64 k] W fun e w' => e = .returned (.tuple #[.int .u32 v, errV ec]) ∧ W = w') :
    Calls Tryz.prog 99 #[.pointer (some ⟨M, 0, none⟩), .agg #[.int .i64 c, .int .i64 y, .int .i64 n, .int .i64 k]] w (PPost b { z with x := v } ec M w) := by
  have hb0 := (Below.refl w.heap.size w).alloc (Nat.le_refl _) (.cells #[.int .i64 c, .int .i64 y, .int .i64 n, .int .i64 k] 66)
  have hp0 := h.below hb0
  have HP := Lib.hid hp0
  have HB := Lib.hid hb0
  have HC := Lib.hid (hc _ hp0)
  have fm := hp0.free 2
  have c1 := hp0.ca
  have c2 := hp0.cx
  have HF := Lib.hid (show ∀ ev, ev = errV ec → PPost b { z with x := v } ec M w (.returned ev) ((w.alloc (.cells #[.int .i64 c, .int .i64 y, .int .i64 n, .int .i64 k] 66)).setCell ⟨M, 2, none⟩ (.int .u32 v)) from fun ev he => ⟨by rw [he], hp0.setX v, KeepM.setM hb0 2 _⟩)
  obtain ⟨ev, hev⟩ : ∃ ev, ev = errV ec := ⟨_, rfl⟩
  rw [← hev] at HC
  have HE := Lib.hid hev
  clear h hb0 hp0 hc hev
  go_enter Tryz.func99, Tryz.ntmps99
  go_wp2_with fail
  refine HC.out.mono ?_
  rintro e w1 ⟨rfl, rfl⟩
  go_wp2_with fail
  go_ret
  exact HF.out _ HE.out

set_option maxHeartbeats 1600000 in
theorem p_Store (b : ByteArray) (z : Mx) (c y n k : Int) (M : Nat) (w : World) (h : PAt w M b z) (hk : In32 k) (z' : Mx) (ec : Int) (hc : ∀ W, PAt W M b z → Calls Tryz.prog 132 #[.pointer (some ⟨M, 0, none⟩), .int .i64 k, .int .u32 z.a] W (PPost b z' ec M W)) :
    Calls Tryz.prog 100 #[.pointer (some ⟨M, 0, none⟩), .agg #[.int .i64 c, .int .i64 y, .int .i64 n, .int .i64 k]] w (PPost b z' ec M w) := by
  have hb0 := (Below.refl w.heap.size w).alloc (Nat.le_refl _) (.cells #[.int .i64 c, .int .i64 y, .int .i64 n, .int .i64 k] 66)
  have hp0 := h.below hb0
  have HP := Lib.hid hp0
  have HB := Lib.hid hb0
  have HC := Lib.hid (hc _ hp0.drew)
  have c1 := hp0.ca
  clear h hp0 hb0 hc
  go_enter Tryz.func100, Tryz.ntmps100
  go_wp2_with fail
  go_region_law ((go_simp; go_at_call 132; (with_reducible refine HC.out.mono ?_); rintro e w3 ⟨rfl, hp3, hk3⟩; obtain ⟨ev, hev⟩ : ∃ ev, ev = errV ec := ⟨_, rfl⟩; rw [← hev]; have HEV := Lib.hid hev; have HP3 := Lib.hid hp3; have HK3 := Lib.hid hk3; clear hev hp3 hk3; dsimp only))
  all_goals
    go_wp2_with fail
    go_ret
    exact ⟨by rw [HEV.out]; rfl, HP3.out, (KeepM.of HB.out.drew).trans HK3.out⟩

set_option maxHeartbeats 1600000 in
theorem p_StoreX (b : ByteArray) (z : Mx) (c y n k : Int) (M : Nat) (w : World) (h : PAt w M b z) (hk : In32 k) (z' : Mx) (ec : Int) (hc : ∀ W, PAt W M b z → Calls Tryz.prog 132 #[.pointer (some ⟨M, 0, none⟩), .int .i64 k, .int .u32 z.x] W (PPost b z' ec M W)) :
    Calls Tryz.prog 101 #[.pointer (some ⟨M, 0, none⟩), .agg #[.int .i64 c, .int .i64 y, .int .i64 n, .int .i64 k]] w (PPost b z' ec M w) := by
  have hb0 := (Below.refl w.heap.size w).alloc (Nat.le_refl _) (.cells #[.int .i64 c, .int .i64 y, .int .i64 n, .int .i64 k] 66)
  have hp0 := h.below hb0
  have HP := Lib.hid hp0
  have HB := Lib.hid hb0
  have HC := Lib.hid (hc _ hp0.drew)
  have c1 := hp0.cx
  clear h hp0 hb0 hc
  go_enter Tryz.func101, Tryz.ntmps101
  go_wp2_with fail
  go_region_law ((go_simp; go_at_call 132; (with_reducible refine HC.out.mono ?_); rintro e w3 ⟨rfl, hp3, hk3⟩; obtain ⟨ev, hev⟩ : ∃ ev, ev = errV ec := ⟨_, rfl⟩; rw [← hev]; have HEV := Lib.hid hev; have HP3 := Lib.hid hp3; have HK3 := Lib.hid hk3; clear hev hp3 hk3; dsimp only))
  all_goals
    go_wp2_with fail
    go_ret
    exact ⟨by rw [HEV.out]; rfl, HP3.out, (KeepM.of HB.out.drew).trans HK3.out⟩

set_option maxHeartbeats 1600000 in
theorem p_end (b : ByteArray) (z : Mx) (v : Int) (M : Nat) (w : World) (h : PAt w M b z) :
    Calls Tryz.prog 135 #[.pointer (some ⟨M, 0, none⟩), .int .u32 v] w (PPost b { z with ret := v, done := true } 0 M w) := by
  have c0 := h.cret
  have f0 := h.free 22
  have hs := h.setRet v
  have c1 := hs.cdone
  have f1 := hs.free 23
  have HF := Lib.hid (p_fin (hs.setDone true) (((KeepM.refl M M M w).set (p := ⟨M, 22, none⟩) (.inl rfl) (.int .u32 v)).set (p := ⟨M, 23, none⟩) (.inl rfl) (.bool true)))
  clear h hs
  go_enter Tryz.func135, Tryz.ntmps135
  go_wp2_with fail
  go_ret
  exact HF.out

set_option maxHeartbeats 1600000 in
theorem p_EndK (b : ByteArray) (z : Mx) (c y n k : Int) (M : Nat) (w : World) (h : PAt w M b z) (hk : In32 k) :
    Calls Tryz.prog 117 #[.pointer (some ⟨M, 0, none⟩), .agg #[.int .i64 c, .int .i64 y, .int .i64 n, .int .i64 k]] w (PPost b { z with ret := k, done := true } 0 M w) := by
  have hb0 := (Below.refl w.heap.size w).alloc (Nat.le_refl _) (.cells #[.int .i64 c, .int .i64 y, .int .i64 n, .int .i64 k] 66)
  have hp0 := h.below hb0
  have HP := Lib.hid hp0
  have HB := Lib.hid hb0
  have HC := Lib.hid (p_end b z k M _ hp0)
  have HC2 := Lib.hid (p_end b z k M _ hp0.drew)
  have c1 := hp0.ca
  unfold In32 at hk
  have hkw : IntKind.u32.wrap k = k := wraps_u32 k (by omega) (by omega)
  clear h hp0 hb0
  go_enter Tryz.func117, Tryz.ntmps117
  go_wp2_with fail
  refine HC.out.mono ?_
  rintro e w3 ⟨rfl, hp3, hk3⟩
  have HP3 := Lib.hid hp3
  have HK3 := Lib.hid hk3
  clear hp3 hk3
  go_wp2_with fail
  go_ret
  exact ⟨rfl, HP3.out, (KeepM.of HB.out).trans HK3.out⟩

set_option maxHeartbeats 1600000 in
theorem p_EndA (b : ByteArray) (z : Mx) (c y n k : Int) (M : Nat) (w : World) (h : PAt w M b z) (hk : In32 k) :
    Calls Tryz.prog 118 #[.pointer (some ⟨M, 0, none⟩), .agg #[.int .i64 c, .int .i64 y, .int .i64 n, .int .i64 k]] w (PPost b { z with ret := z.a, done := true } 0 M w) := by
  have hb0 := (Below.refl w.heap.size w).alloc (Nat.le_refl _) (.cells #[.int .i64 c, .int .i64 y, .int .i64 n, .int .i64 k] 66)
  have hp0 := h.below hb0
  have HP := Lib.hid hp0
  have HB := Lib.hid hb0
  have HC := Lib.hid (p_end b z z.a M _ hp0)
  have HC2 := Lib.hid (p_end b z z.a M _ hp0.drew)
  have c1 := hp0.ca
  unfold In32 at hk
  have hkw : IntKind.u32.wrap k = k := wraps_u32 k (by omega) (by omega)
  clear h hp0 hb0
  go_enter Tryz.func118, Tryz.ntmps118
  go_wp2_with fail
  refine HC.out.mono ?_
  rintro e w3 ⟨rfl, hp3, hk3⟩
  have HP3 := Lib.hid hp3
  have HK3 := Lib.hid hk3
  clear hp3 hk3
  go_wp2_with fail
  go_ret
  exact ⟨rfl, HP3.out, (KeepM.of HB.out).trans HK3.out⟩

set_option maxHeartbeats 1600000 in
theorem p_Jump (b : ByteArray) (z : Mx) (c y n k : Int) (M : Nat) (w : World) (h : PAt w M b z) (hk : In32 k) (hp : 0 ≤ z.pc ∧ z.pc ≤ 4294967296) :
    Calls Tryz.prog 112 #[.pointer (some ⟨M, 0, none⟩), .agg #[.int .i64 c, .int .i64 y, .int .i64 n, .int .i64 k]] w (PPost b { z with pc := z.pc + k } 0 M w) := by
  have hb0 := (Below.refl w.heap.size w).alloc (Nat.le_refl _) (.cells #[.int .i64 c, .int .i64 y, .int .i64 n, .int .i64 k] 66)
  have hp0 := h.below hb0
  have HP := Lib.hid hp0
  have HB := Lib.hid hb0
  have c1 := hp0.cpc
  have fm := hp0.free 20
  unfold In32 at hk
  have e1 : IntKind.i64.wrap (z.pc + k) = z.pc + k := IntWalk.i64_in _ (by omega)
  have HF := Lib.hid (p_fin (hp0.setPc (z.pc + k)) (KeepM.setM hb0 20 (.int .i64 (z.pc + k))))
  have HFD := Lib.hid (p_fin (hp0.drew.setPc (z.pc + k)) (KeepM.setM hb0.drew 20 (.int .i64 (z.pc + k))))
  clear h hp0 hb0
  go_enter Tryz.func112, Tryz.ntmps112
  go_wp2_with fail
  go_region_law ((fail))
  all_goals
    go_wp2_with fail
    go_ret
    first | exact HF.out | exact HFD.out

set_option maxHeartbeats 1600000 in
theorem p_goOn_yes (b : ByteArray) (z : Mx) (c y n k : Int) (M : Nat) (w : World) (h : PAt w M b z) (hy : 0 ≤ y ∧ y ≤ 255) (hp : 0 ≤ z.pc ∧ z.pc ≤ 4294967296) :
    Calls Tryz.prog 134 #[.pointer (some ⟨M, 0, none⟩), .agg #[.int .i64 c, .int .i64 y, .int .i64 n, .int .i64 k], .bool true] w (PPost b { z with pc := z.pc + y } 0 M w) := by
  have hb0 := (Below.refl w.heap.size w).alloc (Nat.le_refl _) (.cells #[.int .i64 c, .int .i64 y, .int .i64 n, .int .i64 k] 66)
  have hp0 := h.below hb0
  have c1 := hp0.cpc
  have fm := hp0.free 20
  have e1 : IntKind.i64.wrap (z.pc + y) = z.pc + y := IntWalk.i64_in _ (by omega)
  have HF := Lib.hid (p_fin (hp0.setPc (z.pc + y)) (KeepM.setM hb0 20 (.int .i64 (z.pc + y))))
  have HFD := Lib.hid (p_fin (hp0.drew.setPc (z.pc + y)) (KeepM.setM hb0.drew 20 (.int .i64 (z.pc + y))))
  clear h hp0 hb0
  go_enter Tryz.func134, Tryz.ntmps134
  go_wp2_with fail
  go_region_law ((fail))
  all_goals
    go_wp2_with fail
    go_ret
    first | exact HF.out | exact HFD.out

set_option maxHeartbeats 1600000 in
theorem p_goOn_no (b : ByteArray) (z : Mx) (c y n k : Int) (M : Nat) (w : World) (h : PAt w M b z) (hy : 0 ≤ n ∧ n ≤ 255) (hp : 0 ≤ z.pc ∧ z.pc ≤ 4294967296) :
    Calls Tryz.prog 134 #[.pointer (some ⟨M, 0, none⟩), .agg #[.int .i64 c, .int .i64 y, .int .i64 n, .int .i64 k], .bool false] w (PPost b { z with pc := z.pc + n } 0 M w) := by
  have hb0 := (Below.refl w.heap.size w).alloc (Nat.le_refl _) (.cells #[.int .i64 c, .int .i64 y, .int .i64 n, .int .i64 k] 66)
  have hp0 := h.below hb0
  have c1 := hp0.cpc
  have fm := hp0.free 20
  have e1 : IntKind.i64.wrap (z.pc + n) = z.pc + n := IntWalk.i64_in _ (by omega)
  have HF := Lib.hid (p_fin (hp0.setPc (z.pc + n)) (KeepM.setM hb0 20 (.int .i64 (z.pc + n))))
  have HFD := Lib.hid (p_fin (hp0.drew.setPc (z.pc + n)) (KeepM.setM hb0.drew 20 (.int .i64 (z.pc + n))))
  clear h hp0 hb0
  go_enter Tryz.func134, Tryz.ntmps134
  go_wp2_with fail
  go_region_law ((fail))
  all_goals
    go_wp2_with fail
    go_ret
    first | exact HF.out | exact HFD.out

theorem p_goOn (b : ByteArray) (z : Mx) (c y n k : Int) (t : Bool) (M : Nat) (w : World) (h : PAt w M b z) (hy : 0 ≤ y ∧ y ≤ 255) (hn : 0 ≤ n ∧ n ≤ 255) (hp : 0 ≤ z.pc ∧ z.pc ≤ 4294967296) :
    Calls Tryz.prog 134 #[.pointer (some ⟨M, 0, none⟩), .agg #[.int .i64 c, .int .i64 y, .int .i64 n, .int .i64 k], .bool t] w (PPost b { z with pc := z.pc + if t then y else n } 0 M w) := by
  cases t
  · exact p_goOn_no b z c y n k M w h hn hp
  · exact p_goOn_yes b z c y n k M w h hy hp

set_option maxHeartbeats 1600000 in
theorem p_Eq (b : ByteArray) (z : Mx) (c y n k : Int) (M : Nat) (w : World) (h : PAt w M b z) (hk : In32 k) (hy : 0 ≤ y ∧ y ≤ 255) (hn : 0 ≤ n ∧ n ≤ 255) (hp : 0 ≤ z.pc ∧ z.pc ≤ 4294967296) (t : Bool) (ht : (z.a == operV z c k) = t) :
    Calls Tryz.prog 113 #[.pointer (some ⟨M, 0, none⟩), .agg #[.int .i64 c, .int .i64 y, .int .i64 n, .int .i64 k]] w (PPost b { z with pc := z.pc + if t then y else n } 0 M w) := by
  have hb0 := (Below.refl w.heap.size w).alloc (Nat.le_refl _) (.cells #[.int .i64 c, .int .i64 y, .int .i64 n, .int .i64 k] 66)
  have hp0 := h.below hb0
  have HP := Lib.hid hp0
  have HB := Lib.hid hb0
  have c1 := hp0.ca
  have QO := Lib.hid (operand_any b z c y n k M (w.alloc (.cells #[.int .i64 c, .int .i64 y, .int .i64 n, .int .i64 k] 66)).drew hp0.drew hk)
  have QG := Lib.hid (fun W (hW : PAt W M b z) => p_goOn b z c y n k t M W hW hy hn hp)
  have HX0 : Hid ((w.alloc (.cells #[.int .i64 c, .int .i64 y, .int .i64 n, .int .i64 k] 66)).drew.heap[w.heap.size]? = some (.cells #[.int .i64 c, .int .i64 y, .int .i64 n, .int .i64 k] 66 (0, 0))) := Lib.hid (alloc_new_at w _ _ rfl)
  have HZ := Lib.hid (rfl : { z with pc := z.pc + if t then y else n } = { z with pc := z.pc + if t then y else n })
  generalize { z with pc := z.pc + if t then y else n } = z' at *
  generalize operV z c k = v at *
  clear h hp0 hb0 HZ
  go_enter Tryz.func113, Tryz.ntmps113
  go_wp2_with fail
  go_region_law (first
    | ((go_simp; go_at_call 133; (with_reducible refine QO.out.mono ?_); rintro e w3 ⟨rfl, hb3⟩; have HP3 := Lib.hid (HP.out.drew.below hb3); have HB3 := Lib.hid (HB.out.drew.trans (hb3.mono HB.out.drew.size)); have c1 := HP3.out.ca; have hX3 := (hb3.block _ (row_here HX0.out)).trans HX0.out; have d0 := row_cell hX3 0; have d1 := row_cell hX3 1; have d2 := row_cell hX3 2; have d3 := row_cell hX3 3; simp only [List.getElem?_toArray, List.getElem?_cons_zero, List.getElem?_cons_succ] at d0 d1 d2 d3; clear hb3 hX3; dsimp only))
    | ((go_simp; go_at_call 134; (with_reducible refine (QG.out _ HP3.out).mono ?_); rintro e w4 ⟨rfl, hp4, hk4⟩; have HP4 := Lib.hid hp4; have HK4 := Lib.hid hk4; clear hp4 hk4; dsimp only)))
  all_goals
    go_wp2_with fail
    go_ret
    exact ⟨rfl, HP4.out, (KeepM.of HB3.out).trans HK4.out⟩

set_option maxHeartbeats 1600000 in
theorem p_Gt (b : ByteArray) (z : Mx) (c y n k : Int) (M : Nat) (w : World) (h : PAt w M b z) (hk : In32 k) (hy : 0 ≤ y ∧ y ≤ 255) (hn : 0 ≤ n ∧ n ≤ 255) (hp : 0 ≤ z.pc ∧ z.pc ≤ 4294967296) (t : Bool) (ht : decide (operV z c k < z.a) = t) :
    Calls Tryz.prog 114 #[.pointer (some ⟨M, 0, none⟩), .agg #[.int .i64 c, .int .i64 y, .int .i64 n, .int .i64 k]] w (PPost b { z with pc := z.pc + if t then y else n } 0 M w) := by
  have hb0 := (Below.refl w.heap.size w).alloc (Nat.le_refl _) (.cells #[.int .i64 c, .int .i64 y, .int .i64 n, .int .i64 k] 66)
  have hp0 := h.below hb0
  have HP := Lib.hid hp0
  have HB := Lib.hid hb0
  have c1 := hp0.ca
  have QO := Lib.hid (operand_any b z c y n k M (w.alloc (.cells #[.int .i64 c, .int .i64 y, .int .i64 n, .int .i64 k] 66)).drew hp0.drew hk)
  have QG := Lib.hid (fun W (hW : PAt W M b z) => p_goOn b z c y n k t M W hW hy hn hp)
  have HX0 : Hid ((w.alloc (.cells #[.int .i64 c, .int .i64 y, .int .i64 n, .int .i64 k] 66)).drew.heap[w.heap.size]? = some (.cells #[.int .i64 c, .int .i64 y, .int .i64 n, .int .i64 k] 66 (0, 0))) := Lib.hid (alloc_new_at w _ _ rfl)
  have HZ := Lib.hid (rfl : { z with pc := z.pc + if t then y else n } = { z with pc := z.pc + if t then y else n })
  generalize { z with pc := z.pc + if t then y else n } = z' at *
  generalize operV z c k = v at *
  clear h hp0 hb0 HZ
  go_enter Tryz.func114, Tryz.ntmps114
  go_wp2_with fail
  go_region_law (first
    | ((go_simp; go_at_call 133; (with_reducible refine QO.out.mono ?_); rintro e w3 ⟨rfl, hb3⟩; have HP3 := Lib.hid (HP.out.drew.below hb3); have HB3 := Lib.hid (HB.out.drew.trans (hb3.mono HB.out.drew.size)); have c1 := HP3.out.ca; have hX3 := (hb3.block _ (row_here HX0.out)).trans HX0.out; have d0 := row_cell hX3 0; have d1 := row_cell hX3 1; have d2 := row_cell hX3 2; have d3 := row_cell hX3 3; simp only [List.getElem?_toArray, List.getElem?_cons_zero, List.getElem?_cons_succ] at d0 d1 d2 d3; clear hb3 hX3; dsimp only))
    | ((go_simp; go_at_call 134; (with_reducible refine (QG.out _ HP3.out).mono ?_); rintro e w4 ⟨rfl, hp4, hk4⟩; have HP4 := Lib.hid hp4; have HK4 := Lib.hid hk4; clear hp4 hk4; dsimp only)))
  all_goals
    go_wp2_with fail
    go_ret
    exact ⟨rfl, HP4.out, (KeepM.of HB3.out).trans HK4.out⟩

set_option maxHeartbeats 1600000 in
theorem p_Ge (b : ByteArray) (z : Mx) (c y n k : Int) (M : Nat) (w : World) (h : PAt w M b z) (hk : In32 k) (hy : 0 ≤ y ∧ y ≤ 255) (hn : 0 ≤ n ∧ n ≤ 255) (hp : 0 ≤ z.pc ∧ z.pc ≤ 4294967296) (t : Bool) (ht : decide (operV z c k ≤ z.a) = t) :
    Calls Tryz.prog 115 #[.pointer (some ⟨M, 0, none⟩), .agg #[.int .i64 c, .int .i64 y, .int .i64 n, .int .i64 k]] w (PPost b { z with pc := z.pc + if t then y else n } 0 M w) := by
  have hb0 := (Below.refl w.heap.size w).alloc (Nat.le_refl _) (.cells #[.int .i64 c, .int .i64 y, .int .i64 n, .int .i64 k] 66)
  have hp0 := h.below hb0
  have HP := Lib.hid hp0
  have HB := Lib.hid hb0
  have c1 := hp0.ca
  have QO := Lib.hid (operand_any b z c y n k M (w.alloc (.cells #[.int .i64 c, .int .i64 y, .int .i64 n, .int .i64 k] 66)).drew hp0.drew hk)
  have QG := Lib.hid (fun W (hW : PAt W M b z) => p_goOn b z c y n k t M W hW hy hn hp)
  have HX0 : Hid ((w.alloc (.cells #[.int .i64 c, .int .i64 y, .int .i64 n, .int .i64 k] 66)).drew.heap[w.heap.size]? = some (.cells #[.int .i64 c, .int .i64 y, .int .i64 n, .int .i64 k] 66 (0, 0))) := Lib.hid (alloc_new_at w _ _ rfl)
  have HZ := Lib.hid (rfl : { z with pc := z.pc + if t then y else n } = { z with pc := z.pc + if t then y else n })
  generalize { z with pc := z.pc + if t then y else n } = z' at *
  generalize operV z c k = v at *
  clear h hp0 hb0 HZ
  go_enter Tryz.func115, Tryz.ntmps115
  go_wp2_with fail
  go_region_law (first
    | ((go_simp; go_at_call 133; (with_reducible refine QO.out.mono ?_); rintro e w3 ⟨rfl, hb3⟩; have HP3 := Lib.hid (HP.out.drew.below hb3); have HB3 := Lib.hid (HB.out.drew.trans (hb3.mono HB.out.drew.size)); have c1 := HP3.out.ca; have hX3 := (hb3.block _ (row_here HX0.out)).trans HX0.out; have d0 := row_cell hX3 0; have d1 := row_cell hX3 1; have d2 := row_cell hX3 2; have d3 := row_cell hX3 3; simp only [List.getElem?_toArray, List.getElem?_cons_zero, List.getElem?_cons_succ] at d0 d1 d2 d3; clear hb3 hX3; dsimp only))
    | ((go_simp; go_at_call 134; (with_reducible refine (QG.out _ HP3.out).mono ?_); rintro e w4 ⟨rfl, hp4, hk4⟩; have HP4 := Lib.hid hp4; have HK4 := Lib.hid hk4; clear hp4 hk4; dsimp only)))
  all_goals
    go_wp2_with fail
    go_ret
    exact ⟨rfl, HP4.out, (KeepM.of HB3.out).trans HK4.out⟩

set_option maxHeartbeats 1600000 in
theorem p_Set (b : ByteArray) (z : Mx) (c y n k : Int) (M : Nat) (w : World) (h : PAt w M b z) (hk : In32 k) (hy : 0 ≤ y ∧ y ≤ 255) (hn : 0 ≤ n ∧ n ≤ 255) (hp : 0 ≤ z.pc ∧ z.pc ≤ 4294967296) (t : Bool) (ht : (bits .and .u32 z.a (operV z c k) != 0) = t) :
    Calls Tryz.prog 116 #[.pointer (some ⟨M, 0, none⟩), .agg #[.int .i64 c, .int .i64 y, .int .i64 n, .int .i64 k]] w (PPost b { z with pc := z.pc + if t then y else n } 0 M w) := by
  have hb0 := (Below.refl w.heap.size w).alloc (Nat.le_refl _) (.cells #[.int .i64 c, .int .i64 y, .int .i64 n, .int .i64 k] 66)
  have hp0 := h.below hb0
  have HP := Lib.hid hp0
  have HB := Lib.hid hb0
  have c1 := hp0.ca
  have QO := Lib.hid (operand_any b z c y n k M (w.alloc (.cells #[.int .i64 c, .int .i64 y, .int .i64 n, .int .i64 k] 66)).drew hp0.drew hk)
  have QG := Lib.hid (fun W (hW : PAt W M b z) => p_goOn b z c y n k t M W hW hy hn hp)
  have HX0 : Hid ((w.alloc (.cells #[.int .i64 c, .int .i64 y, .int .i64 n, .int .i64 k] 66)).drew.heap[w.heap.size]? = some (.cells #[.int .i64 c, .int .i64 y, .int .i64 n, .int .i64 k] 66 (0, 0))) := Lib.hid (alloc_new_at w _ _ rfl)
  have HZ := Lib.hid (rfl : { z with pc := z.pc + if t then y else n } = { z with pc := z.pc + if t then y else n })
  generalize { z with pc := z.pc + if t then y else n } = z' at *
  generalize operV z c k = v at *
  clear h hp0 hb0 HZ
  go_enter Tryz.func116, Tryz.ntmps116
  go_wp2_with fail
  go_region_law (first
    | ((go_simp; go_at_call 133; (with_reducible refine QO.out.mono ?_); rintro e w3 ⟨rfl, hb3⟩; have HP3 := Lib.hid (HP.out.drew.below hb3); have HB3 := Lib.hid (HB.out.drew.trans (hb3.mono HB.out.drew.size)); have c1 := HP3.out.ca; have hX3 := (hb3.block _ (row_here HX0.out)).trans HX0.out; have d0 := row_cell hX3 0; have d1 := row_cell hX3 1; have d2 := row_cell hX3 2; have d3 := row_cell hX3 3; simp only [List.getElem?_toArray, List.getElem?_cons_zero, List.getElem?_cons_succ] at d0 d1 d2 d3; clear hb3 hX3; dsimp only))
    | ((go_simp; go_at_call 134; (with_reducible refine (QG.out _ HP3.out).mono ?_); rintro e w4 ⟨rfl, hp4, hk4⟩; have HP4 := Lib.hid hp4; have HK4 := Lib.hid hk4; clear hp4 hk4; dsimp only)))
  all_goals
    go_wp2_with fail
    go_ret
    exact ⟨rfl, HP4.out, (KeepM.of HB3.out).trans HK4.out⟩

end Go.Proofs.YtekmnopgaopmlaaGreatDoor

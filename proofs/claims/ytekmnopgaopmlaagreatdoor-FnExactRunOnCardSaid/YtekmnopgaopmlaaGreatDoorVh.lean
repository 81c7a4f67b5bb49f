/- Run of the program, walked. -/
import Derived.Test.YtekmnopgaopmlaaGreatDoorVg
import Derived.Test.YtekmnopgaopmlaaGreatDoorRu
import Derived.Test.YtekmnopgaopmlaaGreatDoorAs
set_option maxRecDepth 100000
set_option linter.unusedSimpArgs false
set_option linter.unusedVariables false
namespace Go.Proofs.YtekmnopgaopmlaaGreatDoor
open Go.RowKit

theorem as_nil (t : Nat) (w : World) : Calls Tryz.prog 84 #[.nilIface, .iface 126 (.pointer (some ⟨t, 0, none⟩))] w fun ev w' => ev = .returned (.bool false) ∧ w = w' := by
  go_enter Tryz.func84, Tryz.ntmps84
  go_wp2
  go_ret
  exact ⟨rfl, rfl⟩
theorem codeOf_nil (w : World) : Calls Tryz.prog 53 #[.nilIface] w fun e w' => e = .returned (.int .i64 0) ∧ Below w.heap.size w w' := by
  have HH := Lib.hid (as_nil w.heap.size (w.alloc (.cells #[.int .i64 0] 124)))
  go_enter Tryz.func53, Tryz.ntmps53
  go_wp2_with (go_at_call 84; refine (HH.out).mono ?_; rintro e w2 ⟨rfl, rfl⟩)
  go_ret
  exact ⟨rfl, (Below.refl _ w).alloc (Nat.le_refl _) _⟩
theorem codeOf_errV (c : Int) (w : World) (hg : w.cell? ⟨0, 0, none⟩ = some handleV) : Calls Tryz.prog 53 #[errV c] w fun e w' => e = .returned (.int .i64 c) ∧ Below w.heap.size w w' := by
  by_cases hc : c = 0
  · subst hc; exact codeOf_nil w
  · rw [show errV c = .iface 124 (.agg #[.int .i64 c]) from if_neg hc]; exact codeOf_any c w hg

/-- What a run answers is a number of 32 bits. -/
theorem runM_in {l : List Ins} {b : ByteArray} (hl : ∀ x ∈ l, insRight x = true) : ∀ (f k : Nat) (m : Mc) (st : Nat), m.ok → In32 (runM l b f k m st).ret := by
  intro f
  induction f with
  | zero => intro k m st _; exact ⟨by show (0 : Int) ≤ 0; omega, by show (0 : Int) ≤ 4294967295; omega⟩
  | succ f ih =>
    intro k m st hm
    have z32 : In32 0 := by unfold In32; omega
    unfold runM
    cases hx : l[k]? with
    | none => exact z32
    | some i =>
      have hk := (ins_bd32 (hl i (List.mem_of_getElem? hx))).1
      simp only
      split
      · exact z32
      split
      · exact hk
      split
      · exact hm.1
      split
      · exact ih _ _ _ hm
      split
      · exact ih _ _ _ hm
      split
      · exact ih _ _ _ (doM_ok hm hk)
      · exact z32

/-- The machine's cells when it begins. -/
def mach0 (b : ByteArray) : Array Value := (mxCells b mx0).toArray
def zeroMach : Array Value := (mxCells ⟨#[]⟩ mx0).toArray
theorem zero_mach (w : World) : (zeroValue 90).run Tryz.prog w = .ok (.agg zeroMach) w := by kernel_rfl
theorem mach0_size (b : ByteArray) : (mach0 b).size = 24 := by kernel_rfl
theorem zeroMach_size : zeroMach.size = 24 := by kernel_rfl
theorem built_mach (b : ByteArray) : Tryz.prog.built 90 [(0, Value.string b)] = some (mach0 b) := by kernel_rfl
set_option maxHeartbeats 6400000 in
theorem implRun_ok (a : Option Addr) (cap : Nat) (l : List Ins) (b : ByteArray) (w : World) (h : InsAt w w.heap.size (.slice a l.length cap) l) (hlc : l.length ≤ cap) (hcm : cap ≤ 2 ^ 63 - 1) (hb : b.size ≤ maxLen) (h64 : b.size = 64) (hal : allOk l = true) (hg : w.cell? ⟨0, 0, none⟩ = some handleV) :
    Calls Tryz.prog 17 #[.slice a l.length cap, .string b] w fun e w' => e = .returned (ansV (runL l b)) ∧ Below w.heap.size w w' := by
  have hlen : l.length ≤ 400 := by unfold allOk at hal; simp at hal; exact hal.1
  have hglt : 0 < w.heap.size := by
    rcases Nat.lt_or_ge 0 w.heap.size with h | h
    · exact h
    · simp [World.cell?, Array.getElem?_eq_none h] at hg
  have HH := Lib.hid h
  have HG := Lib.hid hg
  have HB0 := Lib.hid ((Below.refl w.heap.size w).alloc (Nat.le_refl _) (.cells #[.int .i64 0, .int .i64 0, .int .i64 0] 44))
  have z1 : decide ((400 : Int) < (l.length : Int)) = false := decide_eq_false (by omega)
  have z2 : decide ((8000 : Int) < (b.size : Int)) = false := decide_eq_false (by omega)
  have z3 : ((b.size : Int) != 64) = false := by simp [h64]
  have HP := Lib.hid (allRight_any _ l _ (h.below HB0.out |>.up HB0.out.size))
  rw [hal] at HP
  have HR := Lib.hid (runL_ok (l := l) (b := b) (by omega) h64 hal)
  have QR := Lib.hid (fun M W (h : InsAt W M (.slice a l.length cap) l) hM => run_any _ l b M W h hM hal hb)
  have hin := runM_in (l := l) (b := b) (by unfold allOk at hal; simp at hal; exact hal.2) (l.length + 1) 0 mc0 0 mc0_ok
  generalize runM l b (l.length + 1) 0 mc0 0 = ans at *
  unfold In32 at hin
  have hb3 : b.size ≤ 1000 := by omega
  have HBM := Lib.hid (built_mach b)
  clear hal h hg h64 hb
  go_enter Tryz.func17, Tryz.ntmps17
  go_wp2_with fail
  refine HP.out.mono ?_
  rintro e w1 ⟨rfl, hb1⟩
  have HB := Lib.hid hb1
  clear hb1
  have hz := zero_mach
  have HRW := Lib.hid (alloc_new_at w1 zeroMach 90 (n := w1.heap.size) rfl)
  go_upto_region 5 with fail
  go_wp2_with (first
    | (refine v_build_to rfl 90 _ (mach0 b) rfl HBM.out ?_)
    | (refine wpList_store_row rfl 90 _ _ rfl w1.heap.size (mach0 b) rfl rfl 90 zeroMach HRW.out (by kernel_rfl) (by kernel_rfl) (by kernel_rfl) ?_))
  have hrow := setRow_heap _ w1.heap.size zeroMach (mach0 b) 90 (0, 0) HRW.out
  have hb5 := v_below_setRow (((Below.refl w1.heap.size w1).alloc (Nat.le_refl _) (.cells zeroMach 90))) (Nat.le_refl _) (mach0 b)
  generalize (w1.alloc (.cells zeroMach 90)).setRow w1.heap.size (mach0 b) = w5 at *
  have hsz1 : w.heap.size < w1.heap.size := by have := HB.out.size; simp at this; omega
  have hbw1 := box_below HB.out
  have hbw5 := hbw1.trans (hb5.mono hbw1.size)
  have hres5 := (hb5.block _ hsz1).trans ((HB.out.block w.heap.size (by simp)).trans (alloc_new_at w #[.int .i64 0, .int .i64 0, .int .i64 0] 44 rfl))
  have HQ := Lib.hid (QR.out w1.heap.size w5 ((HH.out.below hbw5).up (by omega)) ⟨hrow, rfl⟩)
  have HB5 := Lib.hid hbw5
  have HRES := Lib.hid hres5
  clear hrow hb5 hbw1 hbw5 hres5 hz HRW HB QR
  refine HQ.out.mono ?_
  rintro e w6 ⟨z', ⟨rfl, hp6, hk6⟩, hret, hst⟩
  have c22 := hp6.cret
  have c21 := hp6.cst
  rw [hret] at c22
  rw [hst] at c21
  have hres6 := (hk6.block w.heap.size (row_here HRES.out) (by omega) (by omega) (by omega)).trans HRES.out
  have hb6 := KeepM.below HB5.out hk6 (by omega) (by omega) (by omega) HB5.out.size
  have hg6 := (hb6.cell (p := ⟨0, 0, none⟩) hglt).trans HG.out
  have HC := Lib.hid (codeOf_errV ans.code w6.drew hg6)
  have HR6 := Lib.hid hres6
  have HB6 := Lib.hid hb6
  have hlt6 : w1.heap.size < w6.heap.size := row_here hp6.row
  have HP6 := Lib.hid hp6
  generalize errV ans.code = ev at *
  clear hp6 hk6 hret hst hres6 hb6 hg6
  go_wp2_with fail
  go_region_law ((go_simp; go_at_call 53; (with_reducible refine HC.out.mono ?_); rintro e w7 ⟨rfl, hb7⟩; have c22 := (hb7.cell (p := ⟨w1.heap.size, 22, none⟩) hlt6).trans c22; have c21 := (hb7.cell (p := ⟨w1.heap.size, 21, none⟩) hlt6).trans c21; have hres7 := (hb7.block w.heap.size (row_here HR6.out)).trans HR6.out; have q0 := row_cell hres7 0; have q1 := row_cell hres7 1; have q2 := row_cell hres7 2; have f0 := frozen_row hres7 0; have f1 := frozen_row hres7 1; have f2 := frozen_row hres7 2; simp only [List.getElem?_toArray, List.getElem?_cons_zero, List.getElem?_cons_succ] at q0 q1 q2; have HB7 := Lib.hid (HB6.out.drew.trans (hb7.mono HB6.out.drew.size)); clear hb7 hres7; dsimp only))
  all_goals
    have e1 : IntKind.i64.wrap ans.ret = ans.ret := IntWalk.i64_in _ (by omega)
    go_wp2_with fail
    exact bodyPost_ret (v := .agg #[.int .i64 ans.ret, .int .i64 ans.steps, .int .i64 ans.code]) (by simp [results, Tryz.results17, go_sem, e1, q0, q1, q2, f0, f1, f2]) rfl ⟨by rw [HR.out]; rfl, ((HB7.out.setCell (Nat.le_refl _) _).setCell (Nat.le_refl _) _).setCell (Nat.le_refl _) _⟩

set_option maxHeartbeats 6400000 in
theorem implRun_any (v : Value) (l : List Ins) (b : ByteArray) (w : World) (h : InsAt w w.heap.size v l) (hb : b.size ≤ maxLen) (hll : l.length ≤ 1048576) (hg : w.cell? ⟨0, 0, none⟩ = some handleV) :
    Calls Tryz.prog 17 #[v, .string b] w fun e w' => e = .returned (ansV (runL l b)) ∧ Below w.heap.size w w' := by
  obtain ⟨a, cap, rfl, hlc, hcm⟩ := h.len
  unfold maxLen at hcm
  have HBS := Lib.hid hb
  unfold maxLen at hb
  have HH := Lib.hid h
  have HG := Lib.hid hg
  have hglt : 0 < w.heap.size := by
    rcases Nat.lt_or_ge 0 w.heap.size with h | h
    · exact h
    · simp [World.cell?, Array.getElem?_eq_none h] at hg
  have hr0 := alloc_new_at w #[.int .i64 0, .int .i64 0, .int .i64 0] 44 rfl
  have f0 := frozen_row hr0 0
  have f1 := frozen_row hr0 1
  have f2 := frozen_row hr0 2
  have HB0 := Lib.hid ((Below.refl w.heap.size w).alloc (Nat.le_refl _) (.cells #[.int .i64 0, .int .i64 0, .int .i64 0] 44))
  clear h hr0 hg
  by_cases h4 : 400 < l.length
  · have HR := Lib.hid (runL_size (b := b) (.inl h4))
    have z1 : decide ((400 : Int) < (l.length : Int)) = true := decide_eq_true (by omega)
    go_enter Tryz.func17, Tryz.ntmps17
    go_wp2_with fail
    exact bodyPost_ret (v := .agg #[.int .i64 0, .int .i64 0, .int .i64 2]) (by simp [results, Tryz.results17, go_sem]) rfl ⟨by rw [HR.out]; rfl, (Below.refl _ _).alloc (Nat.le_refl _) _⟩
  have z1 : decide ((400 : Int) < (l.length : Int)) = false := decide_eq_false (by omega)
  by_cases h8 : 8000 < b.size
  · have HR := Lib.hid (runL_size (l := l) (.inr h8))
    have z2 : decide ((8000 : Int) < (b.size : Int)) = true := decide_eq_true (by omega)
    go_enter Tryz.func17, Tryz.ntmps17
    go_wp2_with fail
    exact bodyPost_ret (v := .agg #[.int .i64 0, .int .i64 0, .int .i64 2]) (by simp [results, Tryz.results17, go_sem]) rfl ⟨by rw [HR.out]; rfl, (Below.refl _ _).alloc (Nat.le_refl _) _⟩
  have z2 : decide ((8000 : Int) < (b.size : Int)) = false := decide_eq_false (by omega)
  by_cases h64 : b.size = 64
  · have z3 : ((b.size : Int) != 64) = false := by simp [h64]
    have HP := Lib.hid (allRight_any _ l _ (HH.out.below HB0.out |>.up HB0.out.size))
    have HS := Lib.hid h64
    clear h64
    cases hal : allOk l <;> rw [hal] at HP
    · have HR := Lib.hid (runL_form (l := l) (b := b) (by omega) (by omega) (.inr hal))
      clear hal
      go_enter Tryz.func17, Tryz.ntmps17
      go_wp2_with fail
      refine HP.out.mono ?_
      rintro e w1 ⟨rfl, hb1⟩
      have d0 := box_cell hb1 0
      have d1 := box_cell hb1 1
      have d2 := box_cell hb1 2
      have f0 := box_free hb1 0
      have f1 := box_free hb1 1
      have f2 := box_free hb1 2
      simp only [List.getElem?_toArray, List.getElem?_cons_zero, List.getElem?_cons_succ] at d0 d1 d2
      have HB := Lib.hid (box_below hb1)
      clear hb1
      go_wp2_with fail
      exact bodyPost_ret (v := .agg #[.int .i64 0, .int .i64 0, .int .i64 1]) (by simp [results, Tryz.results17, go_sem, d0, d1, d2, f0, f1, f2]) rfl ⟨by rw [HR.out]; rfl, ((HB.out.setCell (Nat.le_refl _) _).setCell (Nat.le_refl _) _).setCell (Nat.le_refl _) _⟩
    · exact implRun_ok a cap l b w HH.out hlc hcm HBS.out HS.out hal HG.out
  · have z3 : ((b.size : Int) != 64) = true := by simpa using (show ¬ (b.size : Int) = 64 by omega)
    have HR := Lib.hid (runL_form (l := l) (b := b) (by omega) (by omega) (.inl h64))
    clear h64
    go_enter Tryz.func17, Tryz.ntmps17
    go_wp2_with fail
    exact bodyPost_ret (v := .agg #[.int .i64 0, .int .i64 0, .int .i64 1]) (by simp [results, Tryz.results17, go_sem]) rfl ⟨by rw [HR.out]; rfl, (Below.refl _ _).alloc (Nat.le_refl _) _⟩

end Go.Proofs.YtekmnopgaopmlaaGreatDoor

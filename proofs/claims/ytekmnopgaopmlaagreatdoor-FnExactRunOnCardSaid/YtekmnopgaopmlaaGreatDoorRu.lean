/- Run of the model, walked. -/
import Derived.Test.YtekmnopgaopmlaaGreatDoorRl
set_option maxRecDepth 100000
set_option linter.unusedSimpArgs false
set_option linter.unusedVariables false
namespace Go.Proofs.YtekmnopgaopmlaaGreatDoor
open Go.RowKit

def ansV (a : Ans) : Value := .agg #[.int .i64 a.ret, .int .i64 a.steps, .int .i64 a.code]
theorem runL_size {l : List Ins} {b : ByteArray} (h : 400 < l.length ∨ 8000 < b.size) : runL l b = ⟨0, 0, 2⟩ := by unfold runL; rw [if_pos h]
theorem runL_form {l : List Ins} {b : ByteArray} (h1 : l.length ≤ 400) (h2 : b.size ≤ 8000) (h : b.size ≠ 64 ∨ allOk l = false) : runL l b = ⟨0, 0, 1⟩ := by unfold runL; rw [if_neg (by omega), if_pos h]
theorem runL_ok {l : List Ins} {b : ByteArray} (h1 : l.length ≤ 400) (h : b.size = 64) (h3 : allOk l = true) : runL l b = runM l b (l.length + 1) 0 mc0 0 := by unfold runL; rw [if_neg (by omega), if_neg (by simp [h, h3])]

set_option maxHeartbeats 3200000 in
theorem specRun_any (v : Value) (l : List Ins) (b : ByteArray) (w : World) (h : InsAt w w.heap.size v l) (hb : b.size ≤ maxLen) (hll : l.length ≤ 1048576) :
    Calls Tryz.prog 18 #[v, .string b] w fun e w' => e = .returned (ansV (runL l b)) ∧ Below w.heap.size w w' := by
  obtain ⟨a, cap, rfl, hlc, hcm⟩ := h.len
  unfold maxLen at hcm
  have HBS := Lib.hid hb
  unfold maxLen at hb
  have HH := Lib.hid h
  have hr0 : (w.alloc (.cells #[.int .i64 0, .int .i64 0, .int .i64 0] 44)).heap[w.heap.size]? = some (.cells #[.int .i64 0, .int .i64 0, .int .i64 0] 44 (0, 0)) := alloc_new_at _ _ _ rfl
  have f0 := frozen_row hr0 0
  have f1 := frozen_row hr0 1
  have f2 := frozen_row hr0 2
  have HB0 := Lib.hid ((Below.refl w.heap.size w).alloc (Nat.le_refl _) (.cells #[.int .i64 0, .int .i64 0, .int .i64 0] 44))
  clear h hr0
  by_cases h4 : 400 < l.length
  · have HR := Lib.hid (runL_size (b := b) (.inl h4))
    have z1 : decide ((400 : Int) < (l.length : Int)) = true := decide_eq_true (by omega)
    go_enter Tryz.func18, Tryz.ntmps18
    go_wp2_with fail
    exact bodyPost_ret (v := .agg #[.int .i64 0, .int .i64 0, .int .i64 2]) (by simp [results, Tryz.results18, go_sem]) rfl ⟨by rw [HR.out]; rfl, (Below.refl _ _).alloc (Nat.le_refl _) _⟩
  have z1 : decide ((400 : Int) < (l.length : Int)) = false := decide_eq_false (by omega)
  by_cases h8 : 8000 < b.size
  · have HR := Lib.hid (runL_size (l := l) (.inr h8))
    have z2 : decide ((8000 : Int) < (b.size : Int)) = true := decide_eq_true (by omega)
    go_enter Tryz.func18, Tryz.ntmps18
    go_wp2_with fail
    exact bodyPost_ret (v := .agg #[.int .i64 0, .int .i64 0, .int .i64 2]) (by simp [results, Tryz.results18, go_sem]) rfl ⟨by rw [HR.out]; rfl, (Below.refl _ _).alloc (Nat.le_refl _) _⟩
  have z2 : decide ((8000 : Int) < (b.size : Int)) = false := decide_eq_false (by omega)
  by_cases h64 : b.size = 64
  · have z3 : ((b.size : Int) != 64) = false := by simp [h64]
    have HP := Lib.hid (l02Prog_any _ l _ (HH.out.below HB0.out |>.up HB0.out.size))
    have HS := Lib.hid h64
    clear h64
    cases hal : allOk l <;> rw [hal] at HP
    · have HR := Lib.hid (runL_form (l := l) (b := b) (by omega) (by omega) (.inr hal))
      clear hal
      go_enter Tryz.func18, Tryz.ntmps18
      go_wp2_with fail
      refine HP.out.mono ?_
      rintro e w1 ⟨rfl, hb1⟩
      have d0 := box_cell hb1 0
      have d1 := box_cell hb1 1
      have d2 := box_cell hb1 2
      have f0 := box_free hb1 0
      have f1 := box_free hb1 1
      have f2 := box_free hb1 2
      simp only [List.getElem?_toArray, List.getElem?_cons_zero, List.getElem?_cons_succ] at d0 d1 d2
      have HB := Lib.hid (box_below hb1)
      clear hb1
      go_wp2_with fail
      exact bodyPost_ret (v := .agg #[.int .i64 0, .int .i64 0, .int .i64 1]) (by simp [results, Tryz.results18, go_sem, d0, d1, d2, f0, f1, f2]) rfl ⟨by rw [HR.out]; rfl, ((HB.out.setCell (Nat.le_refl _) _).setCell (Nat.le_refl _) _).setCell (Nat.le_refl _) _⟩
    · have HR := Lib.hid (runL_ok (l := l) (b := b) (by omega) HS.out hal)
      have QR := Lib.hid (fun W (h : Below w.heap.size w W) => l05Run_any _ l b W ((HH.out.below h).up h.size) hal HBS.out)
      generalize runM l b (l.length + 1) 0 mc0 0 = ans at *
      clear hal
      go_enter Tryz.func18, Tryz.ntmps18
      go_wp2_with fail
      refine HP.out.mono ?_
      rintro e w1 ⟨rfl, hb1⟩
      have HB := Lib.hid hb1
      clear hb1
      go_wp2_with fail
      refine (QR.out _ (box_below HB.out)).mono ?_
      rintro e w2 ⟨rfl, hb2⟩
      have hb3 := HB.out.trans (hb2.mono HB.out.size)
      have d0 := box_cell hb3 0
      have d1 := box_cell hb3 1
      have d2 := box_cell hb3 2
      have f0 := box_free hb3 0
      have f1 := box_free hb3 1
      have f2 := box_free hb3 2
      simp only [List.getElem?_toArray, List.getElem?_cons_zero, List.getElem?_cons_succ] at d0 d1 d2
      have HB3 := Lib.hid (box_below hb3)
      clear hb2 hb3
      go_wp2_with fail
      exact bodyPost_ret (v := .agg #[.int .i64 ans.ret, .int .i64 ans.steps, .int .i64 ans.code]) (by simp [results, Tryz.results18, go_sem, d0, d1, d2, f0, f1, f2]) rfl ⟨by rw [HR.out]; rfl, ((HB3.out.setCell (Nat.le_refl _) _).setCell (Nat.le_refl _) _).setCell (Nat.le_refl _) _⟩
  · have z3 : ((b.size : Int) != 64) = true := by simpa using (show ¬ (b.size : Int) = 64 by omega)
    have HR := Lib.hid (runL_form (l := l) (b := b) (by omega) (by omega) (.inl h64))
    clear h64
    go_enter Tryz.func18, Tryz.ntmps18
    go_wp2_with fail
    exact bodyPost_ret (v := .agg #[.int .i64 0, .int .i64 0, .int .i64 1]) (by simp [results, Tryz.results18, go_sem]) rfl ⟨by rw [HR.out]; rfl, (Below.refl _ _).alloc (Nat.le_refl _) _⟩

end Go.Proofs.YtekmnopgaopmlaaGreatDoor

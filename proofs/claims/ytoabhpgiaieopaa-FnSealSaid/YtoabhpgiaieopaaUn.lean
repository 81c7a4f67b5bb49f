/- Walks: Unseal in the model and in the program, both against one plain function. -/
import Derived.Test.YtoabhpgiaieopaaPt
import Derived.RegionCalls
import Derived.Deep.RegionWith
namespace Go.Proofs.Ytoabhpgiaieopaa
open Go.RowKit

/-- What Unseal answers: the text and the code. -/
def unsealOf (t : ByteArray) : ByteArray × Int :=
  if 8000 < t.size then (⟨#[]⟩, 2) else if t.size < 4 then (⟨#[]⟩, 4) else if fourS (t.extract 0 (t.size - 4)) = t.extract (t.size - 4) t.size then (t.extract 0 (t.size - 4), 0) else (⟨#[]⟩, 5)
def outOf (x : ByteArray × Int) : Value := .agg #[.string x.1, .int .i64 0, .int .i64 x.2]

set_option maxHeartbeats 1600000 in
theorem specUnseal_any (t : ByteArray) (w : World) (hs : t.size ≤ maxLen) :
    Calls Try.prog 27 #[.string t] w fun e w' => e = .returned (outOf (unsealOf t)) ∧ Below w.heap.size w w' := by
  unfold maxLen at hs
  by_cases h1 : 8000 < t.size
  · have HA : Hid (unsealOf t = (⟨#[]⟩, 2)) := by
      have h : unsealOf t = (⟨#[]⟩, 2) := by unfold unsealOf; rw [if_pos h1]
      exact h
    go_enter Try.func27, Try.ntmps27
    go_wp2
    refine bodyPost_ret (v := .agg #[.string ⟨#[]⟩, .int .i64 0, .int .i64 2]) (by simp [results, Try.results27, go_sem]) rfl ⟨by rw [HA.out]; rfl, ?_⟩
    exact (Below.refl _ _).alloc (Nat.le_refl _) _
  by_cases h4 : t.size < 4
  · have HA : Hid (unsealOf t = (⟨#[]⟩, 4)) := by
      have h : unsealOf t = (⟨#[]⟩, 4) := by unfold unsealOf; rw [if_neg h1, if_pos h4]
      exact h
    go_enter Try.func27, Try.ntmps27
    go_wp2
    refine bodyPost_ret (v := .agg #[.string ⟨#[]⟩, .int .i64 0, .int .i64 4]) (by simp [results, Try.results27, go_sem]) rfl ⟨by rw [HA.out]; rfl, ?_⟩
    exact (Below.refl _ _).alloc (Nat.le_refl _) _
  have hisz : (t.extract 0 (t.size - 4)).size ≤ 8000 := by rw [ByteArray.size_extract]; omega
  have hcrc := fun w => specL01Crc_any 0 (t.extract 0 (t.size - 4)) w (by omega) hisz
  have hfour := fun w => specFour_any (crcMore 0 (t.extract 0 (t.size - 4)).data.toList) w (crcMore_lt _ _)
  have hans : unsealOf t = if (⟨(fourL (crcMore 0 (t.extract 0 (t.size - 4)).data.toList)).toArray⟩ : ByteArray) = t.extract (t.size - 4) t.size then (t.extract 0 (t.size - 4), 0) else (⟨#[]⟩, 5) := by
    unfold unsealOf
    rw [if_neg h1, if_neg h4]
    rfl
  simp only [Int.natCast_zero] at hcrc
  have hext : (t.extract (t.size - 4) t.size).size = 4 := by rw [ByteArray.size_extract]; omega
  generalize (⟨(fourL (crcMore 0 (t.extract 0 (t.size - 4)).data.toList)).toArray⟩ : ByteArray) = A at hfour hans
  generalize crcMore 0 (t.extract 0 (t.size - 4)).data.toList = c at hcrc hfour
  have hsl : ∀ W, (Instr.slice 9 (.string t) (some (.int .i64 ((t.size : Int) - 4))) none none).run Try.prog W = .ok (.string (t.extract (t.size - 4) t.size)) W := fun W => by
    have := run_slice_string_l (P := Try.prog) W 9 t Try.underlying9 .i64 ((t.size : Int) - 4) (by omega) (by omega)
    rw [this]
    rw [show ((t.size : Int) - 4).toNat = t.size - 4 by omega]
  have hwr : IntKind.i64.wrap ((t.size : Int) - 4) = (t.size : Int) - 4 := IntWalk.i64_in _ (by omega)
  generalize t.extract (t.size - 4) t.size = B at hext hsl hans
  have HX := Lib.hid hext
  clear hext
  have HA := Lib.hid hans
  clear hans
  have HC := Lib.hid hcrc
  have HF := Lib.hid hfour
  clear hcrc hfour
  by_cases he : A = B
  · have hcmp := str_beq_true he
    have HE : Hid (unsealOf t = (t.extract 0 (t.size - 4), 0)) := by
      have h := HA.out
      rw [if_pos he] at h
      exact h
    clear he
    go_enter Try.func27, Try.ntmps27
    go_wp2_with fail
    go_region_with (first | (go_at_call 35; refine (HC.out _).mono ?_; rintro e w1 ⟨rfl, rfl⟩) | (go_at_call 34; refine (HF.out _).mono ?_; rintro e w2 ⟨rfl, hb2⟩))
    have hrow := below_row hb2 (heap_alloc_new w _)
    have c0 : w2.cell? ⟨w.heap.size, 0, none⟩ = some (.string ⟨#[]⟩) := by rw [cell_of_row _ _ _ _ _ _ hrow]; rfl
    have c1 : w2.cell? ⟨w.heap.size, 1, none⟩ = some (.int .i64 0) := by rw [cell_of_row _ _ _ _ _ _ hrow]; rfl
    have c2 : w2.cell? ⟨w.heap.size, 2, none⟩ = some (.int .i64 0) := by rw [cell_of_row _ _ _ _ _ _ hrow]; rfl
    have f0 := frozen_row hrow 0
    have f1 := frozen_row hrow 1
    have f2 := frozen_row hrow 2
    clear hrow
    have hbb : Below w.heap.size w w2 := Below.trans (((Below.refl _ w).alloc (Nat.le_refl _) _).drew) (hb2.mono (by simp))
    have hbw := fun (a b c : Value) => (((hbb.setCell (p := ⟨w.heap.size, 0, none⟩) (Nat.le_refl _) a).setCell (p := ⟨w.heap.size, 1, none⟩) (Nat.le_refl _) b).setCell (p := ⟨w.heap.size, 2, none⟩) (Nat.le_refl _) c)
    have HB := Lib.hid hbw
    clear hbb hbw hb2
    go_wp2
    exact bodyPost_ret (v := .agg #[.string (t.extract 0 (t.size - 4)), .int .i64 0, .int .i64 0]) (by simp [results, Try.results27, go_sem, c0, c1, c2]) rfl ⟨by rw [HE.out]; rfl, HB.out _ _ _⟩
  · have hcmp := str_beq_false he
    have HE : Hid (unsealOf t = (⟨#[]⟩, 5)) := by
      have h := HA.out
      rw [if_neg he] at h
      exact h
    clear he
    go_enter Try.func27, Try.ntmps27
    go_wp2_with fail
    go_region_with (first | (go_at_call 35; refine (HC.out _).mono ?_; rintro e w1 ⟨rfl, rfl⟩) | (go_at_call 34; refine (HF.out _).mono ?_; rintro e w2 ⟨rfl, hb2⟩))
    have hrow := below_row hb2 (heap_alloc_new w _)
    have c0 : w2.cell? ⟨w.heap.size, 0, none⟩ = some (.string ⟨#[]⟩) := by rw [cell_of_row _ _ _ _ _ _ hrow]; rfl
    have c1 : w2.cell? ⟨w.heap.size, 1, none⟩ = some (.int .i64 0) := by rw [cell_of_row _ _ _ _ _ _ hrow]; rfl
    have c2 : w2.cell? ⟨w.heap.size, 2, none⟩ = some (.int .i64 0) := by rw [cell_of_row _ _ _ _ _ _ hrow]; rfl
    have f0 := frozen_row hrow 0
    have f1 := frozen_row hrow 1
    have f2 := frozen_row hrow 2
    clear hrow
    have hbb : Below w.heap.size w w2 := Below.trans (((Below.refl _ w).alloc (Nat.le_refl _) _).drew) (hb2.mono (by simp))
    have hbw := fun (a b c : Value) => (((hbb.setCell (p := ⟨w.heap.size, 0, none⟩) (Nat.le_refl _) a).setCell (p := ⟨w.heap.size, 1, none⟩) (Nat.le_refl _) b).setCell (p := ⟨w.heap.size, 2, none⟩) (Nat.le_refl _) c)
    have HB := Lib.hid hbw
    clear hbb hbw hb2
    go_wp2
    exact bodyPost_ret (v := .agg #[.string ⟨#[]⟩, .int .i64 0, .int .i64 5]) (by simp [results, Try.results27, go_sem, c0, c1, c2]) rfl ⟨by rw [HE.out]; rfl, HB.out _ _ _⟩

set_option maxHeartbeats 1600000 in
theorem implUnseal_any (t : ByteArray) (w : World) (hs : t.size ≤ maxLen) :
    Calls Try.prog 15 #[.string t] w fun e w' => e = .returned (outOf (unsealOf t)) ∧ Below w.heap.size w w' := by
  unfold maxLen at hs
  by_cases h1 : 8000 < t.size
  · have HA : Hid (unsealOf t = (⟨#[]⟩, 2)) := by
      have h : unsealOf t = (⟨#[]⟩, 2) := by unfold unsealOf; rw [if_pos h1]
      exact h
    go_enter Try.func15, Try.ntmps15
    go_wp2
    refine bodyPost_ret (v := .agg #[.string ⟨#[]⟩, .int .i64 0, .int .i64 2]) (by simp [results, Try.results15, go_sem]) rfl ⟨by rw [HA.out]; rfl, ?_⟩
    exact (Below.refl _ _).alloc (Nat.le_refl _) _
  by_cases h4 : t.size < 4
  · have HA : Hid (unsealOf t = (⟨#[]⟩, 4)) := by
      have h : unsealOf t = (⟨#[]⟩, 4) := by unfold unsealOf; rw [if_neg h1, if_pos h4]
      exact h
    go_enter Try.func15, Try.ntmps15
    go_wp2
    refine bodyPost_ret (v := .agg #[.string ⟨#[]⟩, .int .i64 0, .int .i64 4]) (by simp [results, Try.results15, go_sem]) rfl ⟨by rw [HA.out]; rfl, ?_⟩
    exact (Below.refl _ _).alloc (Nat.le_refl _) _
  have hisz : (t.extract 0 (t.size - 4)).size ≤ 7996 := by rw [ByteArray.size_extract]; omega
  have hseal := fun w => implSeal_any (t.extract 0 (t.size - 4)) w (by unfold maxLen; omega)
  have hans : unsealOf t = if sealOf (t.extract 0 (t.size - 4)) = t then (t.extract 0 (t.size - 4), 0) else (⟨#[]⟩, 5) := by
    unfold unsealOf
    rw [if_neg h1, if_neg h4, sealOf_yes (by omega)]
    have ht : t = t.extract 0 (t.size - 4) ++ t.extract (t.size - 4) t.size := by
      apply ByteArray.ext
      apply Array.toList_inj.1
      rw [ByteArray.data_append, Array.toList_append, Lib.extract_data, Lib.extract_data, List.drop_zero, Nat.sub_zero, List.take_of_length_le (l := List.drop _ _) (by simp), List.take_append_drop]
    have hc : t.extract 0 (t.size - 4) ++ fourS (t.extract 0 (t.size - 4)) = t ↔ fourS (t.extract 0 (t.size - 4)) = t.extract (t.size - 4) t.size := by
      constructor
      · intro h
        have h2 := h.trans ht
        apply ByteArray.ext
        apply Array.toList_inj.1
        have h3 := congrArg (fun b : ByteArray => b.data.toList) h2
        simp only [ByteArray.data_append, Array.toList_append] at h3
        exact List.append_cancel_left h3
      · intro h
        rw [h]
        exact ht.symm
    by_cases hh : fourS (t.extract 0 (t.size - 4)) = t.extract (t.size - 4) t.size
    · rw [if_pos hh, if_pos (hc.2 hh)]
    · rw [if_neg hh, if_neg (fun h => hh (hc.1 h))]
  generalize sealOf (t.extract 0 (t.size - 4)) = A at hseal hans
  have HA := Lib.hid hans
  have HS := Lib.hid hseal
  clear hans hseal
  by_cases he : A = t
  · have hcmp := str_beq_true he
    have HE : Hid (unsealOf t = (t.extract 0 (t.size - 4), 0)) := by
      have h := HA.out
      rw [if_pos he] at h
      exact h
    clear he
    go_enter Try.func15, Try.ntmps15
    go_wp2_with fail
    refine (HS.out _).mono ?_
    rintro e w1 ⟨rfl, hb1⟩
    go_wp2_with fail
    refine (clone_any _ _ (by omega)).mono ?_
    rintro e w2 ⟨rfl, hb2⟩
    have hrow := below_row hb2 (below_row hb1 (heap_alloc_new w _))
    have c0 : w2.cell? ⟨w.heap.size, 0, none⟩ = some (.string ⟨#[]⟩) := by rw [cell_of_row _ _ _ _ _ _ hrow]; rfl
    have c1 : w2.cell? ⟨w.heap.size, 1, none⟩ = some (.int .i64 0) := by rw [cell_of_row _ _ _ _ _ _ hrow]; rfl
    have c2 : w2.cell? ⟨w.heap.size, 2, none⟩ = some (.int .i64 0) := by rw [cell_of_row _ _ _ _ _ _ hrow]; rfl
    have f0 := frozen_row hrow 0
    have f1 := frozen_row hrow 1
    have f2 := frozen_row hrow 2
    clear hrow
    have hbb : Below w.heap.size w w2 := Below.trans ((Below.refl _ w).alloc (Nat.le_refl _) _) (Below.trans (hb1.mono (by simp)) (hb2.mono (by have := hb1.size; simp at this; omega)))
    have hbw := fun (a b c : Value) => (((hbb.setCell (p := ⟨w.heap.size, 0, none⟩) (Nat.le_refl _) a).setCell (p := ⟨w.heap.size, 1, none⟩) (Nat.le_refl _) b).setCell (p := ⟨w.heap.size, 2, none⟩) (Nat.le_refl _) c)
    have HB := Lib.hid hbw
    clear hbb hbw hb1 hb2
    go_wp2
    exact bodyPost_ret (v := .agg #[.string (t.extract 0 (t.size - 4)), .int .i64 0, .int .i64 0]) (by simp [results, Try.results15, go_sem, c0, c1, c2]) rfl ⟨by rw [HE.out]; rfl, HB.out _ _ _⟩
  · have hcmp := str_beq_false he
    have HE : Hid (unsealOf t = (⟨#[]⟩, 5)) := by
      have h := HA.out
      rw [if_neg he] at h
      exact h
    clear he
    go_enter Try.func15, Try.ntmps15
    go_wp2_with fail
    refine (HS.out _).mono ?_
    rintro e w2 ⟨rfl, hb2⟩
    have hrow := below_row hb2 (heap_alloc_new w _)
    have c0 : w2.cell? ⟨w.heap.size, 0, none⟩ = some (.string ⟨#[]⟩) := by rw [cell_of_row _ _ _ _ _ _ hrow]; rfl
    have c1 : w2.cell? ⟨w.heap.size, 1, none⟩ = some (.int .i64 0) := by rw [cell_of_row _ _ _ _ _ _ hrow]; rfl
    have c2 : w2.cell? ⟨w.heap.size, 2, none⟩ = some (.int .i64 0) := by rw [cell_of_row _ _ _ _ _ _ hrow]; rfl
    have f0 := frozen_row hrow 0
    have f1 := frozen_row hrow 1
    have f2 := frozen_row hrow 2
    clear hrow
    have hbb : Below w.heap.size w w2 := Below.trans ((Below.refl _ w).alloc (Nat.le_refl _) _) (hb2.mono (by simp))
    have hbw := fun (a b c : Value) => (((hbb.setCell (p := ⟨w.heap.size, 0, none⟩) (Nat.le_refl _) a).setCell (p := ⟨w.heap.size, 1, none⟩) (Nat.le_refl _) b).setCell (p := ⟨w.heap.size, 2, none⟩) (Nat.le_refl _) c)
    have HB := Lib.hid hbw
    clear hbb hbw hb2
    go_wp2
    exact bodyPost_ret (v := .agg #[.string ⟨#[]⟩, .int .i64 0, .int .i64 5]) (by simp [results, Try.results15, go_sem, c0, c1, c2]) rfl ⟨by rw [HE.out]; rfl, HB.out _ _ _⟩

set_option maxHeartbeats 400000 in
theorem eqTextOut_same (a : ByteArray) (b c : Int) (w : World) :
    Calls Try.prog 28 #[.agg #[.string a, .int .i64 b, .int .i64 c], .agg #[.string a, .int .i64 b, .int .i64 c]] w fun e w' => e = .returned (.bool true) ∧ Below w.heap.size w w' := by
  go_enter Try.func28, Try.ntmps28
  go_wp2
  go_ret
  exact ⟨rfl, ((Below.refl _ _).alloc (Nat.le_refl _) _).alloc (by simp) _⟩

end Go.Proofs.Ytoabhpgiaieopaa

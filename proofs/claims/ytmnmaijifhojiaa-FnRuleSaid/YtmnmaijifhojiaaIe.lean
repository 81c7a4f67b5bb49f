/- Arrays of eight words compared as wholes. -/
import Derived.Test.YtmnmaijifhojiaaIc
import Derived.ChangeKeysEq
set_option maxRecDepth 100000
set_option linter.unusedSimpArgs false
namespace Go.Proofs.Ytmnmaijifhojiaa
open Go.RowKit

theorem step_items {P : Program} {w : World} {d c i : Nat} {e : TypeId} {xs ys : Array Value} {is : List Nat} {a b : Value} {r r' : Bool} (p1 : (part e xs (i * c)).run P w = .ok a w) (p2 : (part e ys (i * c)).run P w = .ok b w)
    (p3 : (Op.equalIn d e a b).run P w = .ok r w) (p4 : (Op.eqItems d e c xs ys is).run P w = .ok r' w) : (Op.eqItems d e c xs ys (i :: is)).run P w = .ok (r && r') w := by
  simp only [Op.eqItems, Sem.run_bind, p1, p2, p3, Result.andThen_ok]
  cases r
  · simp
  · simpa using p4

theorem eqWordIn (a b c d : Int) (w : World) : (Op.equalIn 9999 24 (.agg #[.int .i64 a, .int .i64 b]) (.agg #[.int .i64 c, .int .i64 d])).run Try.prog w = .ok (decide ((⟨a, b⟩ : Wd) = ⟨c, d⟩)) w := by
  have hS : Try.prog.underlying 24 = some (.struct (Try.prog.fieldsOf 24)) := by kernel_rfl
  have hp : Try.prog.stoodInHeld 24 = false := by kernel_rfl
  rw [show (9999 : Nat) = 9998 + 1 from rfl, run_equalIn_agg w 9998 24 _ _ hS hp]
  simp only [Program.fieldsOf, Try.underlying24]
  go_simp
  by_cases h1 : a = c <;> by_cases h2 : b = d <;> simp [h1, h2]

theorem cells_word : Try.prog.cellsOf 24 = 2 := by kernel_rfl
theorem cells_info : ∃ i, Try.prog.info? 24 = some i := by
  have h := info_word_size
  cases hq : Try.prog.info? 24 with
  | none => simp [hq] at h
  | some i => exact ⟨i, rfl⟩

theorem eqWords8 (a0 a1 a2 a3 a4 a5 a6 a7 a8 a9 a10 a11 a12 a13 a14 a15 b0 b1 b2 b3 b4 b5 b6 b7 b8 b9 b10 b11 b12 b13 b14 b15 : Int) (w : World) : (Op.equalIn 10000 155 (.agg #[.int .i64 a0, .int .i64 a1, .int .i64 a2, .int .i64 a3, .int .i64 a4, .int .i64 a5, .int .i64 a6, .int .i64 a7, .int .i64 a8, .int .i64 a9, .int .i64 a10, .int .i64 a11, .int .i64 a12, .int .i64 a13, .int .i64 a14, .int .i64 a15]) (.agg #[.int .i64 b0, .int .i64 b1, .int .i64 b2, .int .i64 b3, .int .i64 b4, .int .i64 b5, .int .i64 b6, .int .i64 b7, .int .i64 b8, .int .i64 b9, .int .i64 b10, .int .i64 b11, .int .i64 b12, .int .i64 b13, .int .i64 b14, .int .i64 b15])).run Try.prog w =
    .ok (decide ((⟨a0, a1⟩ : Wd) = ⟨b0, b1⟩) && (decide ((⟨a2, a3⟩ : Wd) = ⟨b2, b3⟩) && (decide ((⟨a4, a5⟩ : Wd) = ⟨b4, b5⟩) && (decide ((⟨a6, a7⟩ : Wd) = ⟨b6, b7⟩) && (decide ((⟨a8, a9⟩ : Wd) = ⟨b8, b9⟩) && (decide ((⟨a10, a11⟩ : Wd) = ⟨b10, b11⟩) && (decide ((⟨a12, a13⟩ : Wd) = ⟨b12, b13⟩) && (decide ((⟨a14, a15⟩ : Wd) = ⟨b14, b15⟩) && true)))))))) w := by
  obtain ⟨i, hi⟩ := cells_info
  rw [show (10000 : Nat) = 9999 + 1 from rfl, run_equalIn_array w 9999 _ _ Try.underlying155 hi, cells_word]
  rw [show List.range 8 = [0, 1, 2, 3, 4, 5, 6, 7] from rfl]
  have s8 : (Op.eqItems 9999 24 2 #[.int .i64 a0, .int .i64 a1, .int .i64 a2, .int .i64 a3, .int .i64 a4, .int .i64 a5, .int .i64 a6, .int .i64 a7, .int .i64 a8, .int .i64 a9, .int .i64 a10, .int .i64 a11, .int .i64 a12, .int .i64 a13, .int .i64 a14, .int .i64 a15] #[.int .i64 b0, .int .i64 b1, .int .i64 b2, .int .i64 b3, .int .i64 b4, .int .i64 b5, .int .i64 b6, .int .i64 b7, .int .i64 b8, .int .i64 b9, .int .i64 b10, .int .i64 b11, .int .i64 b12, .int .i64 b13, .int .i64 b14, .int .i64 b15] []).run Try.prog w = .ok true w := by simp [Op.eqItems]
  have s7 := step_items (i := 7) (by simp [part, go_sem]) (by simp [part, go_sem]) (eqWordIn a14 a15 b14 b15 w) s8
  have s6 := step_items (i := 6) (by simp [part, go_sem]) (by simp [part, go_sem]) (eqWordIn a12 a13 b12 b13 w) s7
  have s5 := step_items (i := 5) (by simp [part, go_sem]) (by simp [part, go_sem]) (eqWordIn a10 a11 b10 b11 w) s6
  have s4 := step_items (i := 4) (by simp [part, go_sem]) (by simp [part, go_sem]) (eqWordIn a8 a9 b8 b9 w) s5
  have s3 := step_items (i := 3) (by simp [part, go_sem]) (by simp [part, go_sem]) (eqWordIn a6 a7 b6 b7 w) s4
  have s2 := step_items (i := 2) (by simp [part, go_sem]) (by simp [part, go_sem]) (eqWordIn a4 a5 b4 b5 w) s3
  have s1 := step_items (i := 1) (by simp [part, go_sem]) (by simp [part, go_sem]) (eqWordIn a2 a3 b2 b3 w) s2
  have s0 := step_items (i := 0) (by simp [part, go_sem]) (by simp [part, go_sem]) (eqWordIn a0 a1 b0 b1 w) s1
  exact s0

end Go.Proofs.Ytmnmaijifhojiaa

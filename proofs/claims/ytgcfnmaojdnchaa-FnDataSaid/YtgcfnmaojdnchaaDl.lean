/- The laws' own comparison of records walked: lwRecord of two records that hold the same. -/
import Derived.Test.YtgcfnmaojdnchaaRh
import Derived.Deep.QuietTactic
import Derived.BigQuiet
set_option maxRecDepth 100000
set_option linter.unusedSimpArgs false
namespace Go.Proofs.Ytgcfnmaojdnchaa
open Go.RowKit

theorem eqWordAny (a b c d : Int) (w : World) : (Op.equalIn 10000 24 (.agg #[.int .i64 a, .int .i64 b]) (.agg #[.int .i64 c, .int .i64 d])).run Try.prog w = .ok (decide ((⟨a, b⟩ : Wd) = ⟨c, d⟩)) w := by
  have hS : Try.prog.underlying 24 = some (.struct (Try.prog.fieldsOf 24)) := by kernel_rfl
  have hp : Try.prog.stoodInHeld 24 = false := by kernel_rfl
  rw [show (10000 : Nat) = 9999 + 1 from rfl, run_equalIn_agg w 9999 24 _ _ hS hp]
  simp only [Program.fieldsOf, Try.underlying24]
  go_simp
  by_cases h1 : a = c <;> by_cases h2 : b = d <;> simp [h1, h2]

theorem recOut_field (w : World) (a b c d e f : Value) : (Instr.field 32 (.agg #[a, b, c, d, e, f]) 0).run Try.prog w = .ok (.agg #[a, b, c, d, e]) w := by
  simp [Instr.field, part, asAgg, go_sem]

theorem below_drewN {B : Nat} {w W : World} (h : Below B w W) : ∀ n, Below B w (W.drewN n)
  | 0 => h
  | n + 1 => (below_drewN h n).drew

set_option maxHeartbeats 1600000 in
theorem lwRecord_same (r : Rc) (v1 v2 : Value) (w : World) (h1 : WdAt w w.heap.size v1 r.args) (h2 : WdAt w w.heap.size v2 r.args) :
    Calls Try.prog 20 #[rcV r v1, rcV r v2] w fun e w' => e = .returned (.bool true) ∧ Below w.heap.size w w' := by
  obtain ⟨nr, ar, ⟨ih, il⟩, args⟩ := r
  obtain ⟨a1, cap1, rfl, hlc1, hcm1⟩ := h1.len
  obtain ⟨a2, cap2, rfl, hlc2, hcm2⟩ := h2.len
  unfold maxLen at hcm1 hcm2
  simp only at h1 h2 hlc1 hlc2 ⊢
  have H1 := Lib.hid h1
  have H2 := Lib.hid h2
  have heq := fun W => eqWordAny ih il ih il W
  simp only [decide_true] at heq
  have q1 : (nr != nr) = false := by simp
  have q2 : (ar != ar) = false := by simp
  have q3 : ((args.length : Int) != (args.length : Int)) = false := by simp
  clear h1 h2
  go_enter Try.func20, Try.ntmps20
  go_wp2_with fail
  go_loopw [5] (fun i wr => ∃ k : Nat, k ≤ args.length ∧ i = .int .i64 k ∧ Below ((w.alloc (.cells #[.int .i64 nr, .int .i64 ar, .int .i64 ih, .int .i64 il, .slice a1 args.length cap1] 27)).alloc (.cells #[.int .i64 nr, .int .i64 ar, .int .i64 ih, .int .i64 il, .slice a2 args.length cap2] 27)).heap.size ((w.alloc (.cells #[.int .i64 nr, .int .i64 ar, .int .i64 ih, .int .i64 il, .slice a1 args.length cap1] 27)).alloc (.cells #[.int .i64 nr, .int .i64 ar, .int .i64 ih, .int .i64 il, .slice a2 args.length cap2] 27)) wr) (fun i _ => args.length - (intOf i).toNat)
  case atStart => exact ⟨0, by omega, rfl, by first | exact Below.refl _ _ | exact (Below.refl _ _).drew | exact (Below.refl _ _).drewN _⟩
  case round =>
    obtain ⟨k, hk, rfl, hbw⟩ := hrel
    obtain ⟨r0, r1, hB, _⟩ := rows2 hbw
    have c4 := row_cell r0 4
    have d4 := row_cell r1 4
    simp only [List.getElem?_toArray, List.getElem?_cons_zero, List.getElem?_cons_succ] at c4 d4
    have HBW := Lib.hid hbw
    have HB := Lib.hid hB
    clear hbw r0 r1 hB heq
    by_cases hlt : k < args.length
    · obtain ⟨b, o, e, hb, x0, x1, hwf⟩ := WdAt.place (LAt.below H1.out HB.out) (List.getElem?_eq_getElem hlt)
      subst e
      obtain ⟨b', o', e, hb', y0, y1, hwf'⟩ := WdAt.place (LAt.below H2.out HB.out) (List.getElem?_eq_getElem hlt)
      subst e
      have heq := fun W => eqWordAny args[k].h args[k].l args[k].h args[k].l W
      simp only [decide_true] at heq
      clear hwf hwf'
      generalize args[k].h = xh at *
      generalize args[k].l = xl at *
      have i0 : (0 : Int) ≤ (k : Int) := by omega
      have i1 : (k : Int) < (args.length : Int) := by omega
      go_wp2_with fail
      go_quiet (fail)
      go_wp2_with fail
      go_roundw
      case rel => exact ⟨k + 1, by omega, by go_num, below_drewN HBW.out _⟩
      case measure => simp [intOf]; omega
    · go_wp2_with fail
      go_ret
      exact ⟨rfl, HB.out⟩

end Go.Proofs.Ytgcfnmaojdnchaa

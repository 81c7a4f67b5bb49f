/- Texts of one proof, put together: Sr Dr Rr Dh Di Rh Dj Dk Lk Ca. -/
import Derived.Test.YtmnmaijifhojiaaBs
import Derived.Test.YtmnmaijifhojiaaRb
import Derived.Test.YtmnmaijifhojiaaRc
import Derived.Test.YtmnmaijifhojiaaIa
import Derived.StillTailTactics
import Derived.Deep.Draws
import Derived.Deep.RegionHeld3
import Derived.Deep.RegionLaw
import Derived.Deep.DrawnRows
import Derived.Deep.DeepCutAuto
import Derived.Deep.CutRange

/- Walks: the draws' source (a struct behind a pointer, over the code that came in): what it answers is within bounds; it writes into its own block alone. -/
set_option maxRecDepth 100000
namespace Go.Proofs.Ytmnmaijifhojiaa
open Go.RowKit

/-- The code that came in: its bytes lie below block B. -/
def CodeAt (w : World) (B : Nat) (a : Option Addr) (len cap : Nat) : Prop :=
  len ≤ cap ∧ cap ≤ maxLen ∧ (0 < len → ∃ b o, a = some ⟨b, o, none⟩ ∧ b < B ∧ ∀ i, i < len → ∃ c : Int, 0 ≤ c ∧ c ≤ 255 ∧ w.cell? ⟨b, o + i, none⟩ = some (.int .u8 c))
/-- The source: its block, what it holds. -/
def SrcAt (w : World) (g : Nat) (a : Option Addr) (len cap : Nat) (at_ mix size : Int) : Prop :=
  w.heap[g]? = some (.cells #[.slice a len cap, .int .i64 at_, .int .u64 mix, .int .i64 size] 138 (0, 0)) ∧ 0 ≤ at_ ∧ at_ ≤ (len : Int) ∧ 0 ≤ mix ∧ mix ≤ 18446744073709551615 ∧ 0 ≤ size ∧ size ≤ 12
def Src (w : World) (g : Nat) (a : Option Addr) (len cap : Nat) : Prop := ∃ at_ mix size, SrcAt w g a len cap at_ mix size ∧ CodeAt w g a len cap

theorem CodeAt.keep {w w' : World} {B : Nat} {a : Option Addr} {len cap : Nat} (h : CodeAt w B a len cap) (hk : ∀ p : Addr, p.block < B → w'.cell? p = w.cell? p) : CodeAt w' B a len cap := by
  refine ⟨h.1, h.2.1, fun h0 => ?_⟩
  obtain ⟨b, o, rfl, hb, hc⟩ := h.2.2 h0
  exact ⟨b, o, rfl, hb, fun i hi => by
    obtain ⟨c, c0, c1, hcc⟩ := hc i hi
    exact ⟨c, c0, c1, (hk _ hb).trans hcc⟩⟩
theorem CodeAt.grown {w w' : World} {g : Nat} {a : Option Addr} {len cap : Nat} (h : CodeAt w g a len cap) (hg : w.grownBy w' (some g)) (hl : g ≤ w.heap.size) : CodeAt w' g a len cap :=
  h.keep fun p hp => World.cell?_of_block (hg.block p.block (by omega) (fun e => by injection e with e; omega))

theorem row_setCell {w : World} {g : Nat} {cs : Array Value} {T : TypeId} (h : w.heap[g]? = some (.cells cs T (0, 0))) (i : Nat) (v : Value) : (w.setCell ⟨g, i, none⟩ v).heap[g]? = some (.cells (cs.setIfInBounds i v) T (0, 0)) := by
  simp [World.setCell, Array.getElem?_modify, h]
theorem row_lt {w : World} {g : Nat} {o : Obj} (h : w.heap[g]? = some o) : g < w.heap.size := by
  rcases Nat.lt_or_ge g w.heap.size with hl | hl
  · exact hl
  · rw [Array.getElem?_eq_none hl] at h; cases h

theorem only_drew' {w W : World} {g : Nat} (h : w.grownBy W (some g)) : w.grownBy W.drew (some g) := ⟨h.os, h.tape, h.output, h.size, h.block⟩
theorem only_set {w W : World} {g : Nat} (h : w.grownBy W (some g)) (i : Nat) (v : Value) : w.grownBy (W.setCell ⟨g, i, none⟩ v) (some g) :=
  ⟨h.os, h.tape, h.output, by simpa [World.setCell] using h.size, fun k hk hne => (Below.heap_setCell W ⟨g, i, none⟩ v k (fun e => hne (by rw [e]))).trans (h.block k hk hne)⟩

theorem drawn_bd (x most : Int) (h0 : 0 ≤ x) (h1 : 1 < most) (h2 : most ≤ 9223372036854775807) : 0 ≤ wrap64 (x.tmod most) ∧ wrap64 (x.tmod most) < most := by
  rw [Int.tmod_eq_emod_of_nonneg h0]
  have a := Int.emod_nonneg x (show most ≠ 0 by omega)
  have b := Int.emod_lt_of_pos x (show 0 < most by omega)
  rw [IntWalk.wrap64_in _ ⟨by omega, by omega⟩]
  exact ⟨a, b⟩
theorem wrap_u64_le (x : Int) : IntKind.u64.wrap x ≤ 18446744073709551615 := by rw [IntKind.wrap_u64]; omega
theorem wrap_u64_nonneg (x : Int) : 0 ≤ IntKind.u64.wrap x := by rw [IntKind.wrap_u64]; omega

set_option maxHeartbeats 1600000 in
theorem srcN_any (g : Nat) (a : Option Addr) (len cap : Nat) (most : Int) (w : World) (hs : Src w g a len cap) (hm0 : -9223372036854775808 ≤ most) (hm : most ≤ 9223372036854775807) :
    Calls Try.prog 59 #[.pointer (some ⟨g, 0, none⟩), .int .i64 most] w fun e w' =>
      ∃ v : Int, e = .returned (.int .i64 v) ∧ 0 ≤ v ∧ (1 < most → v < most) ∧ (most ≤ 1 → v = 0) ∧ Src w' g a len cap ∧ w.grownBy w' (some g) := by
  by_cases h1 : most ≤ 1
  · go_enter Try.func59, Try.ntmps59
    go_wp2
    go_ret
    exact ⟨0, rfl, by omega, by omega, fun _ => rfl, hs, World.grownBy.refl _ _⟩
  obtain ⟨at_, mix, size, ⟨hrow, ha0, ha1, hx0, hx1, hz0, hz1⟩, hcode⟩ := hs
  have hlen := hcode.1
  have hcap := hcode.2.1
  unfold maxLen at hcap
  have c0 : w.cell? ⟨g, 0, none⟩ = some (.slice a len cap) := by rw [cell_of_row _ _ _ _ _ _ hrow]; rfl
  have c1 : w.cell? ⟨g, 1, none⟩ = some (.int .i64 at_) := by rw [cell_of_row _ _ _ _ _ _ hrow]; rfl
  have c2 : w.cell? ⟨g, 2, none⟩ = some (.int .u64 mix) := by rw [cell_of_row _ _ _ _ _ _ hrow]; rfl
  have f1 := frozen_row hrow 1
  have f2 := frozen_row hrow 2
  have HR := Lib.hid hrow
  clear hrow
  by_cases hat : at_ < (len : Int)
  · obtain ⟨b, o, rfl, hb, hcell⟩ := hcode.2.2 (by omega)
    obtain ⟨n, rfl⟩ := Int.eq_ofNat_of_zero_le ha0
    obtain ⟨c, hc0, hc1, hcc⟩ := hcell n (by omega)
    have HC := Lib.hid hcode
    clear hcode hcell
    go_enter Try.func59, Try.ntmps59
    go_wp2
    refine wp_region_still_lit (by kernel_rfl) (by kernel_rfl) ?_
    simp only [World.drew_eq]
    repeat still_step
    refine wpStill_nil ?_
    go_wp2
    refine wp_region_still_lit (by kernel_rfl) (by kernel_rfl) ?_
    simp only [World.drew_eq]
    repeat still_step
    refine wpStill_nil ?_
    go_wp2
    refine wp_region_still_tail 13 (by kernel_rfl) (by kernel_rfl) ?_
    simp only [List.take_succ_cons, List.take_zero, List.drop_succ_cons, List.drop_zero, World.drew_eq]
    repeat still_step
    refine wpStill_nil ?_
    go_wp2
    have lm1 := bits_lo_u64 .xor mix (IntKind.u64.wrap (mix * 8192))
    have um1 := bits_hi_u64 .xor mix (IntKind.u64.wrap (mix * 8192))
    generalize bits .xor .u64 mix (IntKind.u64.wrap (mix * 8192)) = m1 at lm1 um1 ⊢
    clear c1 c2 f2
    have rW1 : (((w.setCell ⟨g, 1, none⟩ (.int .i64 ((n : Int) + 1))).setCell ⟨g, 2, none⟩ (.int .u64 m1)).drew.drew.drew).heap[g]? = some (.cells #[.slice (some ⟨b, o, none⟩) len cap, .int .i64 ((n : Int) + 1), .int .u64 m1, .int .i64 size] 138 (0, 0)) := row_setCell (row_setCell HR.out 1 _) 2 _
    have gW1 : w.grownBy (((w.setCell ⟨g, 1, none⟩ (.int .i64 ((n : Int) + 1))).setCell ⟨g, 2, none⟩ (.int .u64 m1)).drew.drew.drew) (some g) := only_drew' (only_drew' (only_drew' (only_set (only_set (World.grownBy.refl w _) _ _) _ _)))
    generalize ((w.setCell ⟨g, 1, none⟩ (.int .i64 ((n : Int) + 1))).setCell ⟨g, 2, none⟩ (.int .u64 m1)).drew.drew.drew = W1 at rW1 gW1 ⊢
    have c1 : W1.cell? ⟨g, 1, none⟩ = some (.int .i64 ((n : Int) + 1)) := by rw [cell_of_row _ _ _ _ _ _ rW1]; rfl
    have c2 : W1.cell? ⟨g, 2, none⟩ = some (.int .u64 m1) := by rw [cell_of_row _ _ _ _ _ _ rW1]; rfl
    have f2 := frozen_row rW1 2
    have HRW1 := Lib.hid rW1
    have HGW1 := Lib.hid gW1
    clear rW1 gW1
    refine wp_region_still_tail 13 (by kernel_rfl) (by kernel_rfl) ?_
    simp only [List.take_succ_cons, List.take_zero, List.drop_succ_cons, List.drop_zero, World.drew_eq]
    repeat still_step
    refine wpStill_nil ?_
    go_wp2
    have lm2 := bits_lo_u64 .xor m1 (m1 / 128)
    have um2 := bits_hi_u64 .xor m1 (m1 / 128)
    generalize bits .xor .u64 m1 (m1 / 128) = m2 at lm2 um2 ⊢
    clear c1 c2 f2
    have rW2 : ((W1.setCell ⟨g, 2, none⟩ (.int .u64 m2)).drew).heap[g]? = some (.cells #[.slice (some ⟨b, o, none⟩) len cap, .int .i64 ((n : Int) + 1), .int .u64 m2, .int .i64 size] 138 (0, 0)) := row_setCell HRW1.out 2 _
    have gW2 : w.grownBy ((W1.setCell ⟨g, 2, none⟩ (.int .u64 m2)).drew) (some g) := only_drew' (only_set HGW1.out _ _)
    generalize (W1.setCell ⟨g, 2, none⟩ (.int .u64 m2)).drew = W2 at rW2 gW2 ⊢
    have c1 : W2.cell? ⟨g, 1, none⟩ = some (.int .i64 ((n : Int) + 1)) := by rw [cell_of_row _ _ _ _ _ _ rW2]; rfl
    have c2 : W2.cell? ⟨g, 2, none⟩ = some (.int .u64 m2) := by rw [cell_of_row _ _ _ _ _ _ rW2]; rfl
    have f2 := frozen_row rW2 2
    have HRW2 := Lib.hid rW2
    have HGW2 := Lib.hid gW2
    clear rW2 gW2
    refine wp_region_still_tail 13 (by kernel_rfl) (by kernel_rfl) ?_
    simp only [List.take_succ_cons, List.take_zero, List.drop_succ_cons, List.drop_zero, World.drew_eq]
    repeat still_step
    refine wpStill_nil ?_
    go_wp2
    have lm3 := bits_lo_u64 .xor m2 (IntKind.u64.wrap (m2 * 131072))
    have um3 := bits_hi_u64 .xor m2 (IntKind.u64.wrap (m2 * 131072))
    generalize bits .xor .u64 m2 (IntKind.u64.wrap (m2 * 131072)) = m3 at lm3 um3 ⊢
    go_ret
    exact ⟨_, rfl, (drawn_bd _ _ (wrap_u64_nonneg _) (by omega) hm).1, fun _ => (drawn_bd _ _ (wrap_u64_nonneg _) (by omega) hm).2, fun h => by omega, ⟨((n : Int) + 1), m3, size, ⟨row_setCell HRW2.out 2 _, by omega, by omega, lm3, um3, hz0, hz1⟩, HC.out.grown (only_drew' (only_set HGW2.out _ _)) (Nat.le_of_lt (row_lt HR.out))⟩, only_drew' (only_set HGW2.out _ _)⟩
  · have HC := Lib.hid hcode
    clear hcode
    go_enter Try.func59, Try.ntmps59
    go_wp2
    refine wp_region_still_lit (by kernel_rfl) (by kernel_rfl) ?_
    simp only [World.drew_eq]
    repeat still_step
    refine wpStill_nil ?_
    go_wp2
    refine wp_region_still_tail 13 (by kernel_rfl) (by kernel_rfl) ?_
    simp only [List.take_succ_cons, List.take_zero, List.drop_succ_cons, List.drop_zero, World.drew_eq]
    repeat still_step
    refine wpStill_nil ?_
    go_wp2
    have lm1 := bits_lo_u64 .xor mix (IntKind.u64.wrap (mix * 8192))
    have um1 := bits_hi_u64 .xor mix (IntKind.u64.wrap (mix * 8192))
    generalize bits .xor .u64 mix (IntKind.u64.wrap (mix * 8192)) = m1 at lm1 um1 ⊢
    clear c1 c2 f2
    have rW1 : ((w.setCell ⟨g, 2, none⟩ (.int .u64 m1)).drew.drew).heap[g]? = some (.cells #[.slice a len cap, .int .i64 at_, .int .u64 m1, .int .i64 size] 138 (0, 0)) := row_setCell HR.out 2 _
    have gW1 : w.grownBy ((w.setCell ⟨g, 2, none⟩ (.int .u64 m1)).drew.drew) (some g) := only_drew' (only_drew' (only_set (World.grownBy.refl w _) _ _))
    generalize (w.setCell ⟨g, 2, none⟩ (.int .u64 m1)).drew.drew = W1 at rW1 gW1 ⊢
    have c1 : W1.cell? ⟨g, 1, none⟩ = some (.int .i64 at_) := by rw [cell_of_row _ _ _ _ _ _ rW1]; rfl
    have c2 : W1.cell? ⟨g, 2, none⟩ = some (.int .u64 m1) := by rw [cell_of_row _ _ _ _ _ _ rW1]; rfl
    have f2 := frozen_row rW1 2
    have HRW1 := Lib.hid rW1
    have HGW1 := Lib.hid gW1
    clear rW1 gW1
    refine wp_region_still_tail 13 (by kernel_rfl) (by kernel_rfl) ?_
    simp only [List.take_succ_cons, List.take_zero, List.drop_succ_cons, List.drop_zero, World.drew_eq]
    repeat still_step
    refine wpStill_nil ?_
    go_wp2
    have lm2 := bits_lo_u64 .xor m1 (m1 / 128)
    have um2 := bits_hi_u64 .xor m1 (m1 / 128)
    generalize bits .xor .u64 m1 (m1 / 128) = m2 at lm2 um2 ⊢
    clear c1 c2 f2
    have rW2 : ((W1.setCell ⟨g, 2, none⟩ (.int .u64 m2)).drew).heap[g]? = some (.cells #[.slice a len cap, .int .i64 at_, .int .u64 m2, .int .i64 size] 138 (0, 0)) := row_setCell HRW1.out 2 _
    have gW2 : w.grownBy ((W1.setCell ⟨g, 2, none⟩ (.int .u64 m2)).drew) (some g) := only_drew' (only_set HGW1.out _ _)
    generalize (W1.setCell ⟨g, 2, none⟩ (.int .u64 m2)).drew = W2 at rW2 gW2 ⊢
    have c1 : W2.cell? ⟨g, 1, none⟩ = some (.int .i64 at_) := by rw [cell_of_row _ _ _ _ _ _ rW2]; rfl
    have c2 : W2.cell? ⟨g, 2, none⟩ = some (.int .u64 m2) := by rw [cell_of_row _ _ _ _ _ _ rW2]; rfl
    have f2 := frozen_row rW2 2
    have HRW2 := Lib.hid rW2
    have HGW2 := Lib.hid gW2
    clear rW2 gW2
    refine wp_region_still_tail 13 (by kernel_rfl) (by kernel_rfl) ?_
    simp only [List.take_succ_cons, List.take_zero, List.drop_succ_cons, List.drop_zero, World.drew_eq]
    repeat still_step
    refine wpStill_nil ?_
    go_wp2
    have lm3 := bits_lo_u64 .xor m2 (IntKind.u64.wrap (m2 * 131072))
    have um3 := bits_hi_u64 .xor m2 (IntKind.u64.wrap (m2 * 131072))
    generalize bits .xor .u64 m2 (IntKind.u64.wrap (m2 * 131072)) = m3 at lm3 um3 ⊢
    go_ret
    exact ⟨_, rfl, (drawn_bd _ _ (wrap_u64_nonneg _) (by omega) hm).1, fun _ => (drawn_bd _ _ (wrap_u64_nonneg _) (by omega) hm).2, fun h => by omega, ⟨at_, m3, size, ⟨row_setCell HRW2.out 2 _, by omega, by omega, lm3, um3, hz0, hz1⟩, HC.out.grown (only_drew' (only_set HGW2.out _ _)) (Nat.le_of_lt (row_lt HR.out))⟩, only_drew' (only_set HGW2.out _ _)⟩

theorem CodeAt.below {w w' : World} {B : Nat} {a : Option Addr} {len cap : Nat} (h : CodeAt w B a len cap) (hb : Below B w w') : CodeAt w' B a len cap := h.keep fun p hp => hb.cell (p := p) hp

set_option maxHeartbeats 1600000 in
theorem source_any (a : Option Addr) (len cap : Nat) (w : World) (hcode : CodeAt w w.heap.size a len cap) :
    Calls Try.prog 57 #[.slice a len cap] w fun e w' => e = .returned (.pointer (some ⟨w.heap.size, 0, none⟩)) ∧ Src w' w.heap.size a len cap ∧ Below w.heap.size w w' := by
  have hlen := hcode.1
  have hcap := hcode.2.1
  unfold maxLen at hcap
  have HC := Lib.hid hcode
  clear hcode
  go_enter Try.func57, Try.ntmps57
  go_wp2
  go_loopw [4] (fun i wr => ∃ (k : Nat) (mix : Int), k ≤ len ∧ i = .int .i64 k ∧ 0 ≤ mix ∧ mix ≤ 18446744073709551615 ∧
      wr.heap[w.heap.size]? = some (.cells #[.slice a len cap, .int .i64 0, .int .u64 mix, .int .i64 0] 138 (0, 0)) ∧ Below w.heap.size w wr) (fun i _ => len - (intOf i).toNat)
  case atStart => exact ⟨0, 88172645463325252, by omega, rfl, by omega, by omega, heap_alloc_new w _, (Below.refl _ _).alloc (Nat.le_refl _) _⟩
  case round =>
    obtain ⟨k, mix, hk, rfl, hm0, hm1, hrow, hbw⟩ := hrel
    have c2 : wr.cell? ⟨w.heap.size, 2, none⟩ = some (.int .u64 mix) := by rw [cell_of_row _ _ _ _ _ _ hrow]; rfl
    have f2 := frozen_row hrow 2
    have f3 := frozen_row hrow 3
    have HR := Lib.hid hrow
    have HB := Lib.hid hbw
    by_cases hin : k < len ∧ k < 64
    · obtain ⟨b, o, rfl, hb, hcell⟩ := (HC.out.below hbw).2.2 (by omega)
      obtain ⟨c, hc0, hc1, hcc⟩ := hcell k (by omega)
      have hd1 : decide (k < len) = true := by simpa using hin.1
      have hd2 : decide ((k : Int) < 64) = true := by simp; omega
      have hkl : k < len := hin.1
      clear hrow hbw hcell hin
      go_wp2
      refine wp_region_still_tail 14 (by kernel_rfl) (by kernel_rfl) ?_
      simp only [List.take_succ_cons, List.take_zero, List.drop_succ_cons, List.drop_zero, World.drew_eq]
      repeat still_step
      refine wpStill_nil ?_
      go_wp2
      go_roundw
      case rel => exact ⟨k + 1, _, by omega, by go_num, wrap_u64_nonneg _, wrap_u64_le _, row_setCell HR.out 2 _, (HB.out.setCell (p := ⟨w.heap.size, 2, none⟩) (Nat.le_refl _) _).drew⟩
      case measure => simp [intOf]; omega
    · have c3 : wr.cell? ⟨w.heap.size, 3, none⟩ = some (.int .i64 0) := by rw [cell_of_row _ _ _ _ _ _ hrow]; rfl
      have hq0 : 0 ≤ (len : Int) / 20 := by omega
      have hdd : (decide (k < len) = false) ∨ (decide (k < len) = true ∧ decide ((k : Int) < 64) = false) := by
        by_cases h : k < len
        · right; exact ⟨by simpa using h, by simp; omega⟩
        · left; simpa using h
      clear hrow hbw hin
      by_cases h12 : 12 < (len : Int) / 20
      · have hd12 : decide (12 < (len : Int) / 20) = true := by simpa using h12
        rcases hdd with hd | ⟨hd, hd2⟩
        all_goals
          go_wp2
          go_ret
          exact ⟨rfl, ⟨0, mix, 12, ⟨row_setCell (row_setCell HR.out 3 _) 3 _, by omega, by omega, hm0, hm1, by omega, by omega⟩, (HC.out.below HB.out).below (((Below.refl _ _).setCell (p := ⟨w.heap.size, 3, none⟩) (Nat.le_refl _) _).setCell (p := ⟨w.heap.size, 3, none⟩) (Nat.le_refl _) _)⟩, (HB.out.setCell (p := ⟨w.heap.size, 3, none⟩) (Nat.le_refl _) _).setCell (p := ⟨w.heap.size, 3, none⟩) (Nat.le_refl _) _⟩
      · have hd12 : decide (12 < (len : Int) / 20) = false := by simpa using h12
        rcases hdd with hd | ⟨hd, hd2⟩
        all_goals
          go_wp2
          go_ret
          exact ⟨rfl, ⟨0, mix, (len : Int) / 20, ⟨row_setCell HR.out 3 _, by omega, by omega, hm0, hm1, by omega, by omega⟩, (HC.out.below HB.out).below ((Below.refl _ _).setCell (p := ⟨w.heap.size, 3, none⟩) (Nat.le_refl _) _)⟩, HB.out.setCell (p := ⟨w.heap.size, 3, none⟩) (Nat.le_refl _) _⟩

/-- What a call on the source leaves: an answer, the source again, and of what was there only the source's block turned. -/
def AfterSrc (g : Nat) (a : Option Addr) (len cap : Nat) (w w' : World) : Prop := Src w' g a len cap ∧ w.grownBy w' (some g)

set_option maxHeartbeats 400000 in
theorem srcOne_any (g : Nat) (a : Option Addr) (len cap : Nat) (of_ : Int) (w : World) (hs : Src w g a len cap) (hm0 : -9223372036854775808 ≤ of_) (hm : of_ ≤ 9223372036854775807) :
    Calls Try.prog 61 #[.pointer (some ⟨g, 0, none⟩), .int .i64 of_] w fun e w' => ∃ b : Bool, e = .returned (.bool b) ∧ AfterSrc g a len cap w w' := by
  go_enter Try.func61, Try.ntmps61
  go_wp2_with (go_at_call 59; refine (srcN_any g a len cap of_ _ hs hm0 hm).mono ?_; rintro e w1 ⟨v, rfl, hv0, hv1, hv2, hs1, hg1⟩)
  go_ret
  exact ⟨_, rfl, hs1, hg1⟩

end Go.Proofs.Ytmnmaijifhojiaa

/- Walks: the draws on the source: edge, bytes, l01Any: what they answer is within bounds. -/
set_option maxRecDepth 100000
namespace Go.Proofs.Ytmnmaijifhojiaa
open Go.RowKit

theorem Src.lt {w : World} {g : Nat} {a : Option Addr} {len cap : Nat} (h : Src w g a len cap) : g < w.heap.size := by
  obtain ⟨_, _, _, ⟨hr, _⟩, _⟩ := h
  exact row_lt hr
/-- The source is kept where its block and the code's are. -/
theorem Src.keep {w w' : World} {g : Nat} {a : Option Addr} {len cap : Nat} (h : Src w g a len cap) (hk : ∀ k, k ≤ g → w'.heap[k]? = w.heap[k]?) : Src w' g a len cap := by
  obtain ⟨x, m, s, ⟨hr, hb⟩, hc⟩ := h
  exact ⟨x, m, s, ⟨(hk g (Nat.le_refl _)).trans hr, hb⟩, hc.keep fun p hp => World.cell?_of_block (hk p.block (by omega))⟩
theorem Src.below {w w' : World} {g B : Nat} {a : Option Addr} {len cap : Nat} (h : Src w g a len cap) (hb : Below B w w') (hB : g < B) : Src w' g a len cap :=
  h.keep fun k hk => hb.block k (by omega)
theorem AfterSrc.trans {g : Nat} {a : Option Addr} {len cap : Nat} {w w1 w2 : World} (h : AfterSrc g a len cap w w1) (h2 : AfterSrc g a len cap w1 w2) : AfterSrc g a len cap w w2 :=
  ⟨h2.1, ⟨h2.2.os.trans h.2.os, h2.2.tape.trans h.2.tape, h2.2.output.trans h.2.output, Nat.le_trans h.2.size h2.2.size, fun k hk hne => (h2.2.block k (Nat.lt_of_lt_of_le hk h.2.size) hne).trans (h.2.block k hk hne)⟩⟩
theorem src_grown_of_below {w w' : World} (h : Below w.heap.size w w') (row : Option Nat) : w.grownBy w' row := ⟨h.os, h.tape, h.output, h.size, fun k hk _ => h.block k hk⟩
theorem AfterSrc.of_below {g : Nat} {a : Option Addr} {len cap : Nat} {w w' : World} (h : Src w g a len cap) (hb : Below w.heap.size w w') : AfterSrc g a len cap w w' :=
  ⟨h.below hb h.lt, src_grown_of_below hb _⟩

theorem AfterSrc.own {g : Nat} {a : Option Addr} {len cap : Nat} {w w1 w2 : World} {v : Value} {bs : List UInt8} (h : AfterSrc g a len cap w w1) (hgl : g < w.heap.size) (hown : OwnB w.heap.size w1 v bs) (hg : w1.grownBy w2 v.ownBlock) :
    AfterSrc g a len cap w w2 := by
  have hne : ∀ q, q < w.heap.size → some q ≠ v.ownBlock := fun q hq e => by have := (hown.lt q e.symm).1; omega
  have hs := h.2.size
  exact ⟨h.1.keep fun q hq => hg.block q (by omega) (hne q (by omega)), ⟨hg.os.trans h.2.os, hg.tape.trans h.2.tape, hg.output.trans h.2.output, Nat.le_trans hs hg.size,
    fun q hq hn => (hg.block q (by omega) (hne q hq)).trans (h.2.block q hq hn)⟩⟩

end Go.Proofs.Ytmnmaijifhojiaa

/- Records out of bytes: l03Read and RecordRead of the model walked. -/
set_option maxRecDepth 100000
namespace Go.Proofs.Ytmnmaijifhojiaa
open Go.RowKit
attribute [local go_sem ↓] Go.wp_at_zero Go.wp_at_succ

def wdAtB (s : ByteArray) (i : Nat) : Wd := ⟨leV (bytesAt s (i + 4) 4), leV (bytesAt s i 4)⟩
def argsB (s : ByteArray) (m : Nat) : List Wd := (List.range m).map fun i => wdAtB s (16 + 8 * i)
def rcAtB (s : ByteArray) : Rc := ⟨leV (bytesAt s 0 4), leV (bytesAt s 4 4), wdAtB s 8, argsB s 6⟩
def rcReadC (s : ByteArray) : Int := if 8000 < s.size then 2 else if s.size ≠ 64 then 4 else 0
def rc0 : Rc := ⟨0, 0, ⟨0, 0⟩, []⟩
def rcRead (s : ByteArray) : Rc := if rcReadC s = 0 then rcAtB s else rc0
theorem argsB_next (s : ByteArray) (m : Nat) : argsB s (m + 1) = argsB s m ++ [wdAtB s (16 + 8 * m)] := by simp [argsB, List.range_succ]
theorem argsB_length (s : ByteArray) (m : Nat) : (argsB s m).length = m := by simp [argsB]
theorem leV4_bd (l : List UInt8) (h : l.length ≤ 4) : 0 ≤ leV l ∧ leV l ≤ 4294967295 := by
  have := leV_bd l
  have hb : (256 : Int) ^ l.length ≤ 4294967296 := by
    rcases (by omega : l.length = 0 ∨ l.length = 1 ∨ l.length = 2 ∨ l.length = 3 ∨ l.length = 4) with h | h | h | h | h <;> rw [h] <;> decide
  omega
theorem bytes4_bd (s : ByteArray) (i : Nat) : 0 ≤ leV (bytesAt s i 4) ∧ leV (bytesAt s i 4) ≤ 4294967295 := leV4_bd _ (by unfold bytesAt; exact List.length_take_le _ _)

theorem rcRead_len (s : ByteArray) : (rcRead s).args.length ≤ 6 := by
  unfold rcRead
  split
  · simp [rcAtB, argsB_length]
  · simp [rc0]
theorem wdAtB_wf (s : ByteArray) (i : Nat) : (wdAtB s i).wf := by
  have a := bytes4_bd s i
  have b := bytes4_bd s (i + 4)
  unfold Wd.wf In64 wdAtB
  simp only
  omega
theorem rcRead_wf (s : ByteArray) : ∀ x ∈ (rcRead s).args, x.wf := by
  intro x hx
  unfold rcRead at hx
  split at hx
  · simp only [rcAtB, argsB, List.mem_map] at hx
    obtain ⟨i, _, rfl⟩ := hx
    exact wdAtB_wf _ _
  · simp [rc0] at hx

/-- A record out: its record, and a code. -/
def RecEnd (base : Nat) (w : World) (r : Rc) (c : Int) (e : Ending) (w' : World) : Prop :=
  ∃ u, e = .returned (.agg #[.int .i64 r.nr, .int .i64 r.ar, .int .i64 r.ip.h, .int .i64 r.ip.l, u, .int .i64 c]) ∧ WdOwn base w' u r.args ∧ Below w.heap.size w w'

/-- The record's variable, behind a callee and an append to its words. -/
theorem rc_kept {wr w2 w3 : World} {g : Nat} {cs : Array Value} {T : TypeId} {v v' : Value} (hrow : wr.heap[g]? = some (.cells cs T (0, 0))) (hlt : g < wr.heap.size) (hb : Below wr.drew.heap.size wr.drew w2) (hg3 : GrB w2 w3 v v') (hv : ∀ k, v.ownBlock = some k → g + 1 ≤ k ∧ k < w2.heap.size) :
    w3.heap[g]? = some (.cells cs T (0, 0)) ∧ Below (g + 1) wr w3 ∧ wr.heap.size ≤ w3.heap.size := by
  have hb2 : Below wr.heap.size wr w2 := ((Below.refl wr.heap.size wr).drew).trans hb
  have hs2 := hb2.size
  have hg2 : Below (g + 1) w2 w3 := (Below.refl _ _).grown hg3.1 (by omega) (fun j hj => (hv j hj).1)
  exact ⟨(hg2.block _ (by omega)).trans ((hb2.block _ hlt).trans hrow), (hb2.mono (by omega)).trans hg2, Nat.le_trans hs2 hg2.size⟩

end Go.Proofs.Ytmnmaijifhojiaa

/- Draws of words and records walked: what they answer is within bounds. -/
set_option maxRecDepth 100000
set_option linter.unusedSimpArgs false
namespace Go.Proofs.Ytmnmaijifhojiaa
open Go.RowKit
attribute [local go_sem ↓] Go.wp_at_zero Go.wp_at_succ

def halfList : List Int := [0, 0, 1, 2, 5, 7, 4294967295, 2147483648, 256]
theorem half_cell (i : Nat) (h : i < 9) : ∃ x : Int, (halfList.map (Value.int .i64)).toArray[i]? = some (.int .i64 x) ∧ 0 ≤ x ∧ x ≤ 4294967295 := by
  rcases (by omega : i = 0 ∨ i = 1 ∨ i = 2 ∨ i = 3 ∨ i = 4 ∨ i = 5 ∨ i = 6 ∨ i = 7 ∨ i = 8) with rfl | rfl | rfl | rfl | rfl | rfl | rfl | rfl | rfl
  all_goals exact ⟨_, rfl, by decide, by decide⟩

set_option maxHeartbeats 800000 in
theorem srcHalf_any (g : Nat) (a : Option Addr) (len cap : Nat) (w : World) (hs : Src w g a len cap) :
    Calls Try.prog 98 #[.pointer (some ⟨g, 0, none⟩)] w fun e w' => ∃ x : Int, e = .returned (.int .i64 x) ∧ 0 ≤ x ∧ x ≤ 4294967295 ∧ AfterSrc g a len cap w w' := by
  have hgl := hs.lt
  have hb0 : Below w.heap.size w (w.alloc (.cells (halfList.map (Value.int .i64)).toArray 2)) := (Below.refl _ w).alloc (Nat.le_refl _) _
  have hcall := srcN_any g a len cap 9 (w.alloc (.cells (halfList.map (Value.int .i64)).toArray 2)) (hs.below hb0 hgl) (by omega) (by omega)
  have HC := Lib.hid hcall
  clear hcall
  go_enter Try.func98, Try.ntmps98
  go_wp2_with fail
  refine HC.out.mono ?_
  rintro e w1 ⟨v, rfl, hv0, hv1, _, hs1, hg1⟩
  obtain ⟨i, rfl⟩ := Int.eq_ofNat_of_zero_le hv0
  have hi : i < 9 := by have := hv1 (by omega); omega
  obtain ⟨x, hx, hx0, hx1⟩ := half_cell i hi
  have hrow : w1.heap[w.heap.size]? = some (.cells (halfList.map (Value.int .i64)).toArray 2 (0, 0)) := (hg1.block _ (by simp) (fun e => by injection e with e; omega)).trans (heap_alloc_new w _)
  have hc : w1.cell? ⟨w.heap.size, i, none⟩ = some (.int .i64 x) := by rw [cell_of_row _ _ _ _ _ _ hrow]; exact hx
  have hi' : (i : Int) < 9 := by omega
  have HA : Hid (AfterSrc g a len cap w w1) := (AfterSrc.of_below hs hb0).trans ⟨hs1, hg1⟩
  clear hrow hx hv1 hv0 hs1 hg1 HC hb0
  go_wp2
  go_ret
  exact ⟨x, rfl, hx0, hx1, HA.out⟩

theorem AfterSrc.more {g : Nat} {a : Option Addr} {len cap : Nat} {w W : World} (h : AfterSrc g a len cap w W) (o : Obj) : AfterSrc g a len cap w (W.alloc o) := h.trans (AfterSrc.of_below h.1 ((Below.refl _ _).alloc (Nat.le_refl _) _))
theorem AfterSrc.put {g : Nat} {a : Option Addr} {len cap : Nat} {w W : World} (h : AfterSrc g a len cap w W) (hg : g < w.heap.size) {p : Addr} (hp : w.heap.size ≤ p.block) (v : Value) : AfterSrc g a len cap w (W.setCell p v) :=
  ⟨h.1.keep fun k hk => Below.heap_setCell W p v k (by omega), ⟨h.2.os, h.2.tape, h.2.output, by simpa [World.setCell] using h.2.size, fun k hk hne => (Below.heap_setCell W p v k (by omega)).trans (h.2.block k hk hne)⟩⟩
theorem AfterSrc.row {g : Nat} {a : Option Addr} {len cap : Nat} {w W : World} (h : AfterSrc g a len cap w W) {k : Nat} {o : Obj} (hr : w.heap[k]? = some o) (hne : k ≠ g) : W.heap[k]? = some o :=
  (h.2.block k (row_here hr) (fun e => hne (by injection e))).trans hr
theorem AfterSrc.lt {g : Nat} {a : Option Addr} {len cap : Nat} {w W : World} (h : AfterSrc g a len cap w W) : w.heap.size ≤ W.heap.size := h.2.size
theorem AfterSrc.below {g : Nat} {a : Option Addr} {len cap : Nat} {w W : World} (h : AfterSrc g a len cap w W) {B : Nat} (hB : B ≤ g) (hg : B ≤ w.heap.size) : Below B w W :=
  ⟨h.2.os, h.2.tape, h.2.output, h.2.size, fun k hk => h.2.block k (by omega) (fun e => by injection e with e; omega)⟩

set_option maxHeartbeats 800000 in
theorem srcWord_any (g : Nat) (a : Option Addr) (len cap : Nat) (w : World) (hs : Src w g a len cap) :
    Calls Try.prog 60 #[.pointer (some ⟨g, 0, none⟩)] w fun e w' => ∃ h l : Int, e = .returned (.agg #[.int .i64 h, .int .i64 l]) ∧ wdRight ⟨h, l⟩ = true ∧ AfterSrc g a len cap w w' := by
  have hgl := hs.lt
  have ha0 : AfterSrc g a len cap w (w.alloc (.cells #[.int .i64 0, .int .i64 0] 24)) := AfterSrc.of_below hs ((Below.refl _ _).alloc (Nat.le_refl _) _)
  have HA0 := Lib.hid ha0
  clear ha0 hs
  go_enter Try.func60, Try.ntmps60
  go_wp2_with fail
  refine (srcHalf_any g a len cap _ HA0.out.1).mono ?_
  rintro e w1 ⟨x, rfl, hx0, hx1, ha1⟩
  have HA1 := Lib.hid (HA0.out.trans ha1)
  have HR1 := Lib.hid (ha1.row (heap_alloc_new w _) (by omega))
  have hl1 : w.heap.size < w1.heap.size := row_here HR1.out
  clear ha1
  go_wp2_with fail
  refine (srcOne_any g a len cap 3 _ (HA1.out.more _).1 (by omega) (by omega)).mono ?_
  rintro e w2 ⟨b, rfl, ha2⟩
  have HA2 := Lib.hid ((HA1.out.more _).trans ha2)
  have HR2 := Lib.hid (ha2.row (row_alloc HR1.out _) (by omega))
  have HV2 := Lib.hid (ha2.row (heap_alloc_new w1 _) (by omega))
  clear ha2
  cases b with
  | false =>
    have c0 := row_cell HV2.out 0
    have c1 := row_cell HV2.out 1
    have d0 := row_cell HR2.out 0
    have d1 := row_cell HR2.out 1
    have f0 := frozen_row HR2.out 0
    have f1 := frozen_row HR2.out 1
    simp only [List.getElem?_toArray, List.getElem?_cons_zero, List.getElem?_cons_succ] at c0 c1 d0 d1
    go_wp2_with fail
    exact bodyPost_ret (v := .agg #[.int .i64 0, .int .i64 x]) (by simp [results, Try.results60, go_sem, d0, d1]) rfl
      ⟨0, x, rfl, by unfold wdRight isB; simp; omega, (HA2.out.put hgl (p := ⟨w.heap.size, 0, none⟩) (Nat.le_refl _) _).put hgl (p := ⟨w.heap.size, 1, none⟩) (Nat.le_refl _) _⟩
  | true =>
    go_wp2_with fail
    refine (srcHalf_any g a len cap _ HA2.out.1).mono ?_
    rintro e w3 ⟨y, rfl, hy0, hy1, ha3⟩
    have HA3 := Lib.hid (HA2.out.trans ha3)
    have HR3 := Lib.hid (ha3.row HR2.out (by omega))
    have HV3 := Lib.hid (ha3.row HV2.out (by omega))
    clear ha3
    have c0 := row_cell HV3.out 0
    have c1 := row_cell HV3.out 1
    have g0 := frozen_row HV3.out 0
    have d0 := row_cell HR3.out 0
    have d1 := row_cell HR3.out 1
    have f0 := frozen_row HR3.out 0
    have f1 := frozen_row HR3.out 1
    simp only [List.getElem?_toArray, List.getElem?_cons_zero, List.getElem?_cons_succ] at c0 c1 d0 d1
    go_wp2_with fail
    exact bodyPost_ret (v := .agg #[.int .i64 y, .int .i64 x]) (by simp [results, Try.results60, go_sem, d0, d1]) rfl
      ⟨y, x, rfl, by unfold wdRight isB; simp; omega, ((HA3.out.put hgl (p := ⟨w1.heap.size, 0, none⟩) (show w.heap.size ≤ w1.heap.size by omega) _).put hgl (p := ⟨w.heap.size, 0, none⟩) (Nat.le_refl _) _).put hgl (p := ⟨w.heap.size, 1, none⟩) (Nat.le_refl _) _⟩

end Go.Proofs.Ytmnmaijifhojiaa

/- Draws of records walked. -/
set_option maxRecDepth 100000
set_option linter.unusedSimpArgs false
namespace Go.Proofs.Ytmnmaijifhojiaa
open Go.RowKit
attribute [local go_sem ↓] Go.wp_at_zero Go.wp_at_succ

/-- Behind the drawn thing's append: the variable, the result and the source. -/
theorem src_push {w wr w2 w3 : World} {g R H : Nat} {a : Option Addr} {len cap : Nat} {cs : Array Value} {T : TypeId} {v : Value} {o : Obj} (haf : AfterSrc g a len cap w wr) (hgl : g < w.heap.size) (h2 : AfterSrc g a len cap wr.drew w2)
    (hrow : wr.heap[R]? = some (.cells cs T (0, 0))) (hH : wr.heap[H]? = some o) (hwR : w.heap.size ≤ R) (hwH : w.heap.size ≤ H) (hHR : H ≤ R) (hg3 : w2.grownBy w3 v.ownBlock) (hv : ∀ k, v.ownBlock = some k → R + 1 ≤ k ∧ k < w2.heap.size) :
    w3.heap[R]? = some (.cells cs T (0, 0)) ∧ w3.heap[H]? = some o ∧ AfterSrc g a len cap w w3 ∧ wr.heap.size ≤ w3.heap.size := by
  have hlt : R < wr.heap.size := row_here hrow
  have h2s : wr.heap.size ≤ w2.heap.size := h2.2.size
  have ha2 : AfterSrc g a len cap w w2 := haf.trans ⟨h2.1, ⟨h2.2.os, h2.2.tape, h2.2.output, h2.2.size, h2.2.block⟩⟩
  have r2 : w2.heap[R]? = some (.cells cs T (0, 0)) := h2.row (w := wr.drew) hrow (by omega)
  have q2 : w2.heap[H]? = some o := h2.row (w := wr.drew) hH (by omega)
  have hne : ∀ q, q ≤ R → some q ≠ v.ownBlock := fun q hq e => by have := (hv q e.symm).1; omega
  have hs1 := haf.2.size
  refine ⟨row_grown r2 hg3 (Ne.symm (hne R (Nat.le_refl _))), row_grown q2 hg3 (Ne.symm (hne H hHR)), ⟨ha2.1.keep fun q hq => hg3.block q (by omega) (hne q (by omega)), ⟨hg3.os.trans ha2.2.os, hg3.tape.trans ha2.2.tape, hg3.output.trans ha2.2.output, Nat.le_trans ha2.2.size hg3.size,
    fun q hq hn => (hg3.block q (by omega) (hne q (by omega))).trans (ha2.2.block q hq hn)⟩⟩, Nat.le_trans h2s hg3.size⟩

set_option maxHeartbeats 3200000 in
theorem srcRecordOf_any (g : Nat) (a : Option Addr) (len cap : Nat) (w : World) (hs : Src w g a len cap) :
    Calls Try.prog 102 #[.pointer (some ⟨g, 0, none⟩)] w fun e w' => ∃ (r : Rc) (u : Value), e = .returned (rcV r u) ∧ rcRight r = true ∧ WdOwn w.heap.size w' u r.args ∧ AfterSrc g a len cap w w' := by
  have hgl := hs.lt
  have ha0 : AfterSrc g a len cap w (w.alloc (.cells #[.int .i64 0, .int .i64 0, .int .i64 0, .int .i64 0, .slice none 0 0] 45)) := AfterSrc.of_below hs ((Below.refl _ _).alloc (Nat.le_refl _) _)
  have HA0 := Lib.hid ha0
  clear ha0 hs
  go_enter Try.func102, Try.ntmps102
  go_wp2_with fail
  refine (srcN_any g a len cap 5 _ HA0.out.1 (by omega) (by omega)).mono ?_
  rintro e w1 ⟨nr, rfl, hn0, hn1, _, hs1, hg1⟩
  have hnr : nr ≤ 4294967295 := by have := hn1 (by omega); omega
  have HA1 : Hid (AfterSrc g a len cap w w1) := Lib.hid (HA0.out.trans ⟨hs1, hg1⟩)
  have HR1 := Lib.hid (AfterSrc.row ⟨hs1, hg1⟩ (heap_alloc_new w _) (by omega))
  clear hn1 hs1 hg1
  go_wp2_with fail
  refine (srcWord_any g a len cap _ HA1.out.1).mono ?_
  rintro e w2 ⟨ih, il, rfl, hip, ha2⟩
  have HA2 := Lib.hid ((HA1.out.trans ha2).more (.cells #[.int .i64 nr, .int .i64 7, .int .i64 ih, .int .i64 il, .slice none 0 0] 45))
  have HH2 := Lib.hid (row_alloc (ha2.row HR1.out (by omega)) (.cells #[.int .i64 nr, .int .i64 7, .int .i64 ih, .int .i64 il, .slice none 0 0] 45))
  have HR2 := Lib.hid (heap_alloc_new w2 (.cells #[.int .i64 nr, .int .i64 7, .int .i64 ih, .int .i64 il, .slice none 0 0] 45))
  have hHR : w.heap.size < w2.heap.size := row_here (ha2.row HR1.out (by omega))
  have HIP := Lib.hid hip
  clear ha2 hip
  go_wp2_with fail
  refine (srcOne_any g a len cap 6 _ HA2.out.1 (by omega) (by omega)).mono ?_
  rintro e w3 ⟨b1, rfl, ha3⟩
  have HA3 := Lib.hid (HA2.out.trans ha3)
  have HH3 := Lib.hid (ha3.row HH2.out (by omega))
  have HR3 := Lib.hid (ha3.row HR2.out (by omega))
  clear ha3
  go_upto_if 11 with fail
  go_cut [] from 12 to 15 (fun ws => ∃ ar : Int, 0 ≤ ar ∧ ar ≤ 4294967295 ∧ ws.heap[w.heap.size]? = some (.cells #[.int .i64 0, .int .i64 0, .int .i64 0, .int .i64 0, .slice none 0 0] 45 (0, 0)) ∧ ws.heap[w2.heap.size]? = some (.cells #[.int .i64 nr, .int .i64 ar, .int .i64 ih, .int .i64 il, .slice none 0 0] 45 (0, 0)) ∧ AfterSrc g a len cap w ws)
  case first =>
    cases b1
    · go_wp2_with fail
      go_meet
      exact ⟨7, by omega, by omega, HH3.out, HR3.out, HA3.out⟩
    · go_wp2_with fail
      refine (srcN_any g a len cap 9 _ HA3.out.1 (by omega) (by omega)).mono ?_
      rintro e w4 ⟨ar, rfl, hr0, hr1, _, hs1, hg1⟩
      have har : ar ≤ 4294967295 := by have := hr1 (by omega); omega
      have ha4 : AfterSrc g a len cap w3 w4 := ⟨hs1, hg1⟩
      have HA4 := Lib.hid (HA3.out.trans ha4)
      have HH4 := Lib.hid (ha4.row HH3.out (by omega))
      have HR4 := Lib.hid (ha4.row HR3.out (by omega))
      have c1 := row_cell HR4.out 1
      have f1 := frozen_row HR4.out 1
      simp only [List.getElem?_toArray, List.getElem?_cons_zero, List.getElem?_cons_succ] at c1
      clear hr1 hs1 hg1 ha4
      go_wp2_with fail
      go_meet
      exact ⟨ar, by omega, by omega, row_other HH4.out _ _ (by omega), row_put HR4.out 1 _, HA4.out.put hgl (p := ⟨w2.heap.size, 1, none⟩) (show w.heap.size ≤ w2.heap.size by omega) _⟩
  case rest =>
  clear HA3 HH3 HR3 HA2 HH2 HR2
  obtain ⟨ar, ar0, ar1, hh, hr, ha⟩ := hcut
  have HA4 := Lib.hid ha
  have HH4 := Lib.hid hh
  have HR4 := Lib.hid hr
  clear ha hh hr
  go_wp2_with fail
  refine (srcOne_any g a len cap 10 _ HA4.out.1 (by omega) (by omega)).mono ?_
  rintro e w5 ⟨b2, rfl, ha5⟩
  have HA5 := Lib.hid (HA4.out.trans ha5)
  have HH5 := Lib.hid (ha5.row HH4.out (by omega))
  have HR5 := Lib.hid (ha5.row HR4.out (by omega))
  clear ha5
  go_upto_if 16 with fail
  go_cut [] from 17 to 20 (fun ws => ∃ nr' : Int, 0 ≤ nr' ∧ nr' ≤ 4294967295 ∧ ws.heap[w.heap.size]? = some (.cells #[.int .i64 0, .int .i64 0, .int .i64 0, .int .i64 0, .slice none 0 0] 45 (0, 0)) ∧ ws.heap[w2.heap.size]? = some (.cells #[.int .i64 nr', .int .i64 ar, .int .i64 ih, .int .i64 il, .slice none 0 0] 45 (0, 0)) ∧ AfterSrc g a len cap w ws)
  case first =>
    cases b2
    · go_wp2_with fail
      go_meet
      exact ⟨nr, by omega, by omega, HH5.out, HR5.out, HA5.out⟩
    · go_wp2_with fail
      refine (srcHalf_any g a len cap _ HA5.out.1).mono ?_
      rintro e w6 ⟨x, rfl, hx0, hx1, ha6⟩
      have HA6 := Lib.hid (HA5.out.trans ha6)
      have HH6 := Lib.hid (ha6.row HH5.out (by omega))
      have HR6 := Lib.hid (ha6.row HR5.out (by omega))
      have c0 := row_cell HR6.out 0
      have f0 := frozen_row HR6.out 0
      simp only [List.getElem?_toArray, List.getElem?_cons_zero] at c0
      clear ha6
      go_wp2_with fail
      go_meet
      exact ⟨x, by omega, by omega, row_other HH6.out _ _ (by omega), row_put HR6.out 0 _, HA6.out.put hgl (p := ⟨w2.heap.size, 0, none⟩) (show w.heap.size ≤ w2.heap.size by omega) _⟩
  case rest =>
  clear HA4 HH4 HR4 HA5 HH5 HR5 HA1 HR1 HA0
  obtain ⟨nr', nr0, nr1, hh, hr, ha⟩ := hcut
  have HA7 := Lib.hid ha
  have HH7 := Lib.hid hh
  have HR7 := Lib.hid hr
  have hs7 : w2.heap.size + 1 ≤ wc.heap.size := row_here hr
  clear ha hh hr
  go_wp2_with fail
  go_loopw [4] (fun i wr => ∃ (k : Nat) (u : Value) (l : List Wd), k ≤ 6 ∧ i = .int .i64 k ∧ l.length = k ∧ (l.all wdRight = true) ∧ wr.heap[w2.heap.size]? = some (.cells #[.int .i64 nr', .int .i64 ar, .int .i64 ih, .int .i64 il, u] 45 (0, 0)) ∧ wr.heap[w.heap.size]? = some (.cells #[.int .i64 0, .int .i64 0, .int .i64 0, .int .i64 0, .slice none 0 0] 45 (0, 0)) ∧ WdOwn (w2.heap.size + 1) wr u l ∧ AfterSrc g a len cap w wr ∧ w2.heap.size + 1 ≤ wr.heap.size)
    (fun i _ => 6 - (intOf i).toNat)
  case atStart => exact ⟨0, _, [], by omega, rfl, rfl, rfl, HR7.out, HH7.out, OwnL.nil _ _, HA7.out, hs7⟩
  case round =>
    obtain ⟨k, u, l, hk, rfl, hlen, hall, hrow, hres, hown, haf, hsz⟩ := hrel
    obtain ⟨ua, ucap, rfl⟩ := hown.slice
    have HROW := Lib.hid hrow
    have HRES := Lib.hid hres
    have HOWN := Lib.hid hown
    have HAF := Lib.hid haf
    have HL := Lib.hid hlen
    have HALL := Lib.hid hall
    clear hrow hres hown haf hlen hall
    by_cases hlt : k < 6
    · have c4 : wr.cell? ⟨w2.heap.size, 4, none⟩ = some (.slice ua l.length ucap) := by rw [cell_of_row _ _ _ _ _ _ HROW.out]; rfl
      have hq := srcWord_any g a len cap wr.drew HAF.out.1
      have QQ := Lib.hid hq
      have hlen6 : l.length ≤ 1000000000 := by have := HL.out; omega
      clear hq
      go_wp2_with fail
      go_region_law (first
          | ((refine step_push_wd (by rfl) _ _ (by rfl) _ _ _ (w2.heap.size + 1) (.slice ua l.length ucap) l (by rfl) hown2 (by rfl) hlen6 (by have := hs2; omega) ?_; intro v3 w3 hown3 hg3; have hkp := src_push HAF.out hgl HA2.out HROW.out HRES.out (by omega) (Nat.le_refl _) (by omega) hg3.1 hown2.lt; have c6 : w3.cell? ⟨w2.heap.size, 4, none⟩ = some (.slice ua l.length ucap) := (cell_of_row _ _ _ _ _ _ hkp.1).trans rfl; have f6 := frozen_row hkp.1 4; have HKP := Lib.hid hkp; clear hkp; obtain ⟨va, vcap, rfl⟩ := hown3.slice))
          | ((go_simp; (with_reducible refine QQ.out.mono ?_); rintro e w5 ⟨xh, xl, rfl, hx, ha2⟩; have HA2 := Lib.hid ha2; have c5 : w5.cell? ⟨w2.heap.size, 4, none⟩ = some (.slice ua l.length ucap) := (cell_of_row _ _ _ _ _ _ (ha2.row (w := wr.drew) HROW.out (by omega))).trans rfl; have hs2 : w2.heap.size + 1 ≤ w5.heap.size := Nat.le_trans hsz ha2.2.size; have hlt5 : w2.heap.size < w5.heap.size := hs2; have hown2 : WdOwn (w2.heap.size + 1) w5 (.slice ua l.length ucap) l := World.ownsRow.kept (w := wr.drew) HOWN.out ha2.2 (by
                rcases h : (Value.slice ua l.length ucap).ownBlock with _ | q
                · exact .inl rfl
                · exact .inr (fun e => by have := (HOWN.out.lt q h).1; injection e with e; omega)); have HX := Lib.hid hx; clear ha2 hx; dsimp only)))
      all_goals
        have hnx : (l ++ [(⟨xh, xl⟩ : Wd)]).length = k + 1 := by rw [List.length_append, HL.out]; rfl
        have hax : (l ++ [(⟨xh, xl⟩ : Wd)]).all wdRight = true := by rw [List.all_append, HALL.out]; simp [HX.out]
        have hoX : ∀ v : Value, WdOwn (w2.heap.size + 1) (w3.setCell ⟨w2.heap.size, 4, none⟩ v) (.slice va (l.length + 1) vcap) (l ++ [⟨xh, xl⟩]) := fun v => by simpa only [List.length_append, List.length_cons, List.length_nil, Nat.zero_add] using hown3.setBelow (a := ⟨w2.heap.size, 4, none⟩) (by simp) v
        have HNX := Lib.hid hnx
        have HAX := Lib.hid hax
        have HOX := Lib.hid hoX
        clear hnx hax hoX hown3 hg3
        go_wp2_with fail
        go_roundw
        case rel => exact ⟨k + 1, _, l ++ [⟨xh, xl⟩], by omega, by go_num, HNX.out, HAX.out, row_put HKP.out.1 4 _, row_other HKP.out.2.1 _ _ (by omega), HOX.out _, HKP.out.2.2.1.put hgl (p := ⟨w2.heap.size, 4, none⟩) (show w.heap.size ≤ w2.heap.size by omega) _, by have b := HKP.out.2.2.2; simp [World.setCell]; omega⟩
        case measure => simp [intOf]; omega
    · have hk6 : k = 6 := by omega
      have HK := Lib.hid hk6
      clear hk6
      have c0 := row_cell HROW.out 0
      have c1 := row_cell HROW.out 1
      have c2 := row_cell HROW.out 2
      have c3 := row_cell HROW.out 3
      have c4 := row_cell HROW.out 4
      have d0 := row_cell HRES.out 0
      have d1 := row_cell HRES.out 1
      have d2 := row_cell HRES.out 2
      have d3 := row_cell HRES.out 3
      have d4 := row_cell HRES.out 4
      have f0 := frozen_row HRES.out 0
      have f1 := frozen_row HRES.out 1
      have f2 := frozen_row HRES.out 2
      have f3 := frozen_row HRES.out 3
      have f4 := frozen_row HRES.out 4
      simp only [List.getElem?_toArray, List.getElem?_cons_zero, List.getElem?_cons_succ] at c0 c1 c2 c3 c4 d0 d1 d2 d3 d4
      go_wp2_with fail
      exact bodyPost_ret (v := .agg #[.int .i64 nr', .int .i64 ar, .int .i64 ih, .int .i64 il, .slice ua l.length ucap]) (by simp [results, Try.results102, go_sem, d0, d1, d2, d3, d4]) rfl
        ⟨⟨nr', ar, ⟨ih, il⟩, l⟩, _, rfl, by simp only [rcRight, HIP.out, HALL.out, isB_yes nr0 nr1, isB_yes ar0 ar1, HL.out, HK.out]; rfl,
          (((((HOWN.out.setBelow (by simp; omega) _).setBelow (by simp; omega) _).setBelow (by simp; omega) _).setBelow (by simp; omega) _).setBelow (by simp; omega) _).base (by omega),
          ((((HAF.out.put hgl (p := ⟨w.heap.size, 0, none⟩) (Nat.le_refl _) _).put hgl (p := ⟨w.heap.size, 1, none⟩) (Nat.le_refl _) _).put hgl (p := ⟨w.heap.size, 2, none⟩) (Nat.le_refl _) _).put hgl (p := ⟨w.heap.size, 3, none⟩) (Nat.le_refl _) _).put hgl (p := ⟨w.heap.size, 4, none⟩) (Nat.le_refl _) _⟩

end Go.Proofs.Ytmnmaijifhojiaa

/- Walks of the laws' own helpers on records. -/
set_option maxRecDepth 100000
namespace Go.Proofs.Ytmnmaijifhojiaa
open Go.RowKit Go.ChangeShapes Go.WideShapes

set_option maxHeartbeats 800000 in
theorem toRecord_any (r : Rc) (v : Value) (w : World) (hv : WdAt w w.heap.size v r.args) (hn : r.args.length ≤ 1048576) :
    Calls Try.prog 47 #[rcV r v] w fun e w' => ∃ u, e = .returned (rcV r u) ∧ WdOwn w.heap.size w' u r.args ∧ Below w.heap.size w w' := by
  obtain ⟨nr, ar, ⟨ih, il⟩, args⟩ := r
  simp only at hv hn ⊢
  obtain ⟨a, cap, rfl, hlc, hcm⟩ := hv.len
  have HV := Lib.hid hv
  clear hv
  go_enter Try.func47, Try.ntmps47
  go_wp2_with fail
  refine (toWord_any _ _ _).mono ?_
  rintro e w1 ⟨rfl, hb1⟩
  obtain ⟨r0, r1, r2, hB, hS⟩ := rows3 hb1
  have c4 := row_cell r0 4
  have e2 := row_cell r2 2
  have e3 := row_cell r2 3
  simp only [List.getElem?_toArray, List.getElem?_cons_zero, List.getElem?_cons_succ] at c4 e2 e3
  have f2 := frozen_row r2 2
  have f3 := frozen_row r2 3
  have R0 := Lib.hid r0
  have R1 := Lib.hid r1
  have R2 := Lib.hid r2
  have HB := Lib.hid hB
  clear hb1 r0 r1 r2 hB
  go_wp2_with fail
  have hB2 : Below w.heap.size w ((w1.setCell ⟨w.heap.size + 1 + 1, 2, none⟩ (.int .i64 ih)).setCell ⟨w.heap.size + 1 + 1, 3, none⟩ (.int .i64 il)) := (HB.out.setCell (p := ⟨w.heap.size + 1 + 1, 2, none⟩) (by simp; omega) _).setCell (p := ⟨w.heap.size + 1 + 1, 3, none⟩) (by simp; omega) _
  have hr1 := row_other (row_other R1.out 2 (.int .i64 ih) (h := w.heap.size + 1 + 1) (by omega)) 3 (.int .i64 il) (h := w.heap.size + 1 + 1) (by omega)
  have hr2 := row_put (row_put R2.out 2 (.int .i64 ih)) 3 (.int .i64 il)
  have hS2 : w.heap.size + 3 ≤ ((w1.setCell ⟨w.heap.size + 1 + 1, 2, none⟩ (.int .i64 ih)).setCell ⟨w.heap.size + 1 + 1, 3, none⟩ (.int .i64 il)).heap.size := by simp [World.setCell]; omega
  clear c4 e2 e3 f2 f3
  generalize (w1.setCell ⟨w.heap.size + 1 + 1, 2, none⟩ (.int .i64 ih)).setCell ⟨w.heap.size + 1 + 1, 3, none⟩ (.int .i64 il) = W2 at hB2 hr1 hr2 hS2 ⊢
  refine (toWordS_any _ args _ (LAt.up (LAt.below HV.out hB2) hB2.size) hn).mono ?_
  rintro e w3 ⟨u, rfl, ho3, hb3⟩
  obtain ⟨ua, ucap, rfl⟩ := OwnL.slice ho3
  have hr1' := below_row hb3 hr1
  have hr2' := below_row hb3 hr2
  have HB3 := Lib.hid (hB2.trans (hb3.mono hB2.size))
  have HO3 := Lib.hid (OwnL.base ho3 (b' := w.heap.size + 3) hS2)
  have HR1 := Lib.hid hr1'
  have c0 := row_cell hr2' 0
  have c1 := row_cell hr2' 1
  have c2 := row_cell hr2' 2
  have c3 := row_cell hr2' 3
  have c4 := row_cell hr2' 4
  have d0 := row_cell hr1' 0
  have d1 := row_cell hr1' 1
  have d2 := row_cell hr1' 2
  have d3 := row_cell hr1' 3
  have d4 := row_cell hr1' 4
  simp [-Array.getElem?_eq_getElem] at c0 c1 c2 c3 c4 d0 d1 d2 d3 d4
  have g4 := frozen_row hr2' 4
  have f0 := frozen_row hr1' 0
  have f1 := frozen_row hr1' 1
  have f2 := frozen_row hr1' 2
  have f3 := frozen_row hr1' 3
  have f4 := frozen_row hr1' 4
  clear hb3 hB2 hr1 hr2 hr1' hr2' ho3 hS2
  go_wp2_with fail
  exact bodyPost_ret (v := .agg #[.int .i64 nr, .int .i64 ar, .int .i64 ih, .int .i64 il, .slice ua args.length ucap]) (by simp [results, Try.results47, go_sem, d0, d1, d2, d3, d4]) rfl
    ⟨_, rfl, ((((((HO3.out.setBelow (by simp) _).setBelow (by simp) _).setBelow (by simp) _).setBelow (by simp) _).setBelow (by simp) _).setBelow (by simp) _).base (by omega),
      (((((HB3.out.setCell (p := ⟨w.heap.size + 1 + 1, 4, none⟩) (by simp; omega) _).setCell (p := ⟨w.heap.size + 1, 0, none⟩) (by simp) _).setCell (p := ⟨w.heap.size + 1, 1, none⟩) (by simp) _).setCell (p := ⟨w.heap.size + 1, 2, none⟩) (by simp) _).setCell (p := ⟨w.heap.size + 1, 3, none⟩) (by simp) _).setCell (p := ⟨w.heap.size + 1, 4, none⟩) (by simp) _⟩

theorem szRecord_any (r : Rc) (a : Option Addr) (len cap : Nat) (left : Int) (w : World) (hl : len ≤ 9223372036854775807) (h0 : 0 ≤ left) (h1 : left ≤ 1048576) :
    Calls Try.prog 46 #[rcV r (.slice a len cap), .int .i64 left] w fun e w' => e = .returned (.int .i64 (if left - (len : Int) < 0 then -1 else left - (len : Int))) ∧ Below w.heap.size w w' := by
  obtain ⟨nr, ar, ⟨ih, il⟩, args⟩ := r
  have q := fun W => szWordS_any a len cap left W hl h0 h1
  have hb0 : ∀ o, Below w.heap.size w (w.alloc o) := fun o => (Below.refl _ _).alloc (Nat.le_refl _) _
  have HB := Lib.hid hb0
  by_cases h : left - (len : Int) < 0
  · rw [if_pos h] at q
    have HQ := Lib.hid q
    have he := Lib.hid (show (if left - (len : Int) < 0 then (-1 : Int) else left - (len : Int)) = -1 from if_pos h)
    clear q hb0
    go_enter Try.func46, Try.ntmps46
    go_wp2_with fail
    refine (HQ.out _).mono ?_
    rintro e w1 ⟨rfl, rfl⟩
    go_wp2_with fail
    go_ret
    first | exact ⟨rfl, HB.out _⟩ | exact ⟨ret_int he.out.symm, HB.out _⟩
  · rw [if_neg h] at q
    have HQ := Lib.hid q
    have he := Lib.hid (show (if left - (len : Int) < 0 then (-1 : Int) else left - (len : Int)) = left - (len : Int) from if_neg h)
    have hd : decide (left - (len : Int) < 0) = false := by simpa using h
    clear q hb0
    go_enter Try.func46, Try.ntmps46
    go_wp2_with fail
    refine (HQ.out _).mono ?_
    rintro e w1 ⟨rfl, rfl⟩
    go_wp2_with fail
    go_ret
    first | exact ⟨rfl, HB.out _⟩ | exact ⟨ret_int he.out.symm, HB.out _⟩

theorem eqWord_same (x : Wd) (w : World) : Calls Try.prog 89 #[.agg #[.int .i64 x.h, .int .i64 x.l], .agg #[.int .i64 x.h, .int .i64 x.l]] w fun e w' => e = .returned (.bool true) ∧ Below w.heap.size w w' :=
  (eqWord_any x x w).mono fun _ _ h => ⟨h.1.trans (ret_bool (by simp)), h.2⟩

set_option maxHeartbeats 800000 in
/-- Of two records that are alike. -/
theorem eqRecord_same (r : Rc) (v1 v2 : Value) (w : World) (h1 : WdAt w w.heap.size v1 r.args) (h2 : WdAt w w.heap.size v2 r.args) :
    Calls Try.prog 48 #[rcV r v1, rcV r v2] w fun e w' => e = .returned (.bool true) ∧ Below w.heap.size w w' := by
  obtain ⟨nr, ar, ⟨ih, il⟩, args⟩ := r
  simp only at h1 h2 ⊢
  obtain ⟨a1, cap1, rfl, hc1, hm1⟩ := h1.len
  obtain ⟨a2, cap2, rfl, hc2, hm2⟩ := h2.len
  have q1 := fun W => eqWord_same ⟨ih, il⟩ W
  have q2 := fun W (h : Below w.heap.size w W) => eqWordS_same _ _ args W (LAt.up (LAt.below h1 h) h.size) (LAt.up (LAt.below h2 h) h.size)
  have Q1 := Lib.hid q1
  have Q2 := Lib.hid q2
  clear q1 q2 h1 h2
  have hn : (nr != nr) = false := by simp
  have ha : (ar != ar) = false := by simp
  go_enter Try.func48, Try.ntmps48
  go_wp2_with fail
  refine (Q1.out _).mono ?_
  rintro e w1 ⟨rfl, hb1⟩
  obtain ⟨r0, r1, hB, _⟩ := rows2 hb1
  have c4 := row_cell r0 4
  have d4 := row_cell r1 4
  simp only [List.getElem?_toArray, List.getElem?_cons_zero, List.getElem?_cons_succ] at c4 d4
  have HB := Lib.hid hB
  clear hb1 r0 r1 hB
  go_wp2_with fail
  clear c4 d4
  refine (Q2.out _ HB.out).mono ?_
  rintro e w2 ⟨rfl, hb2⟩
  have HB2 := Lib.hid (HB.out.trans (hb2.mono HB.out.size))
  clear hb2
  go_wp2_with fail
  go_ret
  exact ⟨rfl, HB2.out⟩

abbrev roV (r : Rc) (v : Value) (c : Int) : Value := .agg #[.int .i64 r.nr, .int .i64 r.ar, .int .i64 r.ip.h, .int .i64 r.ip.l, v, .int .i64 c]

end Go.Proofs.Ytmnmaijifhojiaa

/- Draws of records that may be wrong; what the laws of chapter 4 draw. -/
set_option maxRecDepth 100000
set_option linter.unusedSimpArgs false
namespace Go.Proofs.Ytmnmaijifhojiaa
open Go.RowKit
attribute [local go_sem ↓] Go.wp_at_zero Go.wp_at_succ

theorem wf_of_right {x : Wd} (h : wdRight x = true) : x.wf := by
  have := wd_bounds h
  unfold Wd.wf In64
  omega

theorem AfterSrc.grown {g : Nat} {a : Option Addr} {len cap : Nat} {w W : World} (h : AfterSrc g a len cap w W) : w.grownBy W (some g) := h.2

theorem own_setFirst {w : World} {base b n cap : Nat} {x0 : Wd} {tl : List Wd} (h : WdOwn base w (.slice (some ⟨b, 0, none⟩) n cap) (x0 :: tl)) (x : Int) : WdOwn base (w.setCell ⟨b, 0, none⟩ (.int .i64 x)) (.slice (some ⟨b, 0, none⟩) n cap) (⟨x, x0.l⟩ :: tl) := by
  obtain ⟨a', cap', e⟩ := OwnL.slice h
  simp only [Value.slice.injEq] at e
  obtain ⟨_, rfl, _⟩ := e
  exact (World.ownsRow.stored h 0 (.int .i64 x)).1

theorem own_first {w : World} {base b n cap : Nat} {x : Wd} {tl : List Wd} (h : WdOwn base w (.slice (some ⟨b, 0, none⟩) n cap) (x :: tl)) : w.cell? ⟨b, 0, none⟩ = some (.int .i64 x.h) ∧ w.frozen? ⟨b, 0, none⟩ = false := by
  obtain ⟨a', cap', e⟩ := OwnL.slice h
  simp only [Value.slice.injEq] at e
  obtain ⟨_, rfl, _⟩ := e
  have q := wd_own_at (k := 0) (x := x) h rfl
  simp only [Nat.zero_mul] at q
  exact ⟨q.1, q.2.2.1⟩

theorem WdAt.tail {w : World} {B b o n cap : Nat} {x : Wd} {l : List Wd} (h : WdAt w B (.slice (some ⟨b, o, none⟩) n cap) (x :: l)) : WdAt w B (.slice (some ⟨b, o + 2, none⟩) l.length (cap - 1)) l := by
  obtain ⟨hS, ⟨a', cap', e, h1, h2, h3⟩, hwf⟩ := h
  simp only [Value.slice.injEq] at e
  obtain ⟨rfl, rfl, rfl⟩ := e
  simp only [List.length_cons] at h1
  refine ⟨hS, ⟨_, _, rfl, by omega, by omega, fun _ => ?_⟩, fun y hy => hwf y (by simp [hy])⟩
  obtain ⟨b1, o1, e1, hb, hc⟩ := h3 (by simp)
  simp only [Option.some.injEq, Addr.mk.injEq] at e1
  obtain ⟨rfl, rfl, _⟩ := e1
  refine ⟨b, o + 2, rfl, hb, fun i v hv => ?_⟩
  have := hc (i + 2) v (by simpa [wdCells] using hv)
  rwa [show o + (i + 2) = o + 2 + i by omega] at this

theorem own_kept {w w' : World} {base g b n cap : Nat} {l : List Wd} (h : WdOwn base w (.slice (some ⟨b, 0, none⟩) n cap) l) (hg : w.grownBy w' (some g)) (hne : b ≠ g) : WdOwn base w' (.slice (some ⟨b, 0, none⟩) n cap) l :=
  World.ownsRow.kept h hg (.inr (fun e => hne (by injection e)))

theorem WdAt.put {w : World} {B b o n cap : Nat} {l : List Wd} (h : WdAt w B (.slice (some ⟨b, o, none⟩) n cap) l) {p : Addr} (hp : p.block ≠ b) (v : Value) : WdAt (w.setCell p v) B (.slice (some ⟨b, o, none⟩) n cap) l := by
  obtain ⟨hS, ⟨a', cap', e, h1, h2, h3⟩, hwf⟩ := h
  simp only [Value.slice.injEq] at e
  obtain ⟨rfl, rfl, rfl⟩ := e
  refine ⟨hS, ⟨_, _, rfl, h1, h2, fun h0 => ?_⟩, hwf⟩
  obtain ⟨b1, o1, e1, hb, hc⟩ := h3 h0
  simp only [Option.some.injEq, Addr.mk.injEq] at e1
  obtain ⟨rfl, rfl, _⟩ := e1
  exact ⟨b, o, rfl, hb, fun i u hu => (World.cell?_of_block (Below.heap_setCell w p v b (Ne.symm hp))).trans (hc i u hu)⟩

set_option maxHeartbeats 3200000 in
theorem srcRecord_any (g : Nat) (a : Option Addr) (len cap : Nat) (w : World) (hs : Src w g a len cap) :
    Calls Try.prog 70 #[.pointer (some ⟨g, 0, none⟩)] w fun e w' => ∃ (r : Rc) (u : Value), e = .returned (rcV r u) ∧ r.wf ∧ WdAt w' w'.heap.size u r.args ∧ r.args.length ≤ 6 ∧ (∃ b o n c, u = .slice (some ⟨b, o, none⟩) n c ∧ w.heap.size ≤ b) ∧ AfterSrc g a len cap w w' := by
  have hgl := hs.lt
  have ha0 : AfterSrc g a len cap w (w.alloc (.cells #[.int .i64 0, .int .i64 0, .int .i64 0, .int .i64 0, .slice none 0 0] 45)) := AfterSrc.of_below hs ((Below.refl _ _).alloc (Nat.le_refl _) _)
  have HA0 := Lib.hid ha0
  clear ha0 hs
  go_enter Try.func70, Try.ntmps70
  go_wp2_with fail
  refine (srcRecordOf_any g a len cap _ HA0.out.1).mono ?_
  rintro e w1 ⟨⟨nr, ar, ⟨ih, il⟩, l⟩, u, rfl, hr, ho1, ha1⟩
  obtain ⟨hn, har, hip, hlen, hargs⟩ := rcRight_parts hr
  simp only at ho1 hn har hip hlen hargs
  obtain ⟨b, ucap, rfl, hb0, hb1, hcap⟩ := ho1.more (by omega)
  rw [hlen] at ho1 hcap
  have HO1 := Lib.hid ho1
  simp only [World.size_alloc] at hb0
  have HA1 := Lib.hid ((HA0.out.trans ha1).more (.cells #[.int .i64 nr, .int .i64 ar, .int .i64 ih, .int .i64 il, .slice (some ⟨b, 0, none⟩) 6 ucap] 45))
  have HH1 := Lib.hid (row_alloc (ha1.row (heap_alloc_new w _) (by omega)) (.cells #[.int .i64 nr, .int .i64 ar, .int .i64 ih, .int .i64 il, .slice (some ⟨b, 0, none⟩) 6 ucap] 45))
  have HR1 := Lib.hid (heap_alloc_new w1 (.cells #[.int .i64 nr, .int .i64 ar, .int .i64 ih, .int .i64 il, .slice (some ⟨b, 0, none⟩) 6 ucap] 45))
  have hHR : w.heap.size < w1.heap.size := row_here (ha1.row (heap_alloc_new w _) (by omega))
  have HWF : Hid (∀ x ∈ l, x.wf) := Lib.hid (fun x hx => by
    obtain ⟨i, hi, rfl⟩ := List.getElem_of_mem hx
    exact wf_of_right (hargs i hi))
  clear ha1 hr ho1 hargs
  go_wp2_with fail
  refine (srcN_any g a len cap 12 _ HA1.out.1 (by omega) (by omega)).mono ?_
  rintro e w2 ⟨v, rfl, hv0, hv1, _, hs2, hg2⟩
  have ha2 : AfterSrc g a len cap (w1.alloc (.cells #[.int .i64 nr, .int .i64 ar, .int .i64 ih, .int .i64 il, .slice (some ⟨b, 0, none⟩) 6 ucap] 45)) w2 := ⟨hs2, hg2⟩
  have HA2 := Lib.hid (HA1.out.trans ha2)
  have HH2 := Lib.hid (ha2.row HH1.out (by omega))
  have HR2 := Lib.hid (ha2.row HR1.out (by omega))
  have HO2 : Hid (WdOwn (w.heap.size + 1) w2 (.slice (some ⟨b, 0, none⟩) 6 ucap) l) := Lib.hid (by
    have h := own_kept (OwnL.alloc HO1.out (.cells #[.int .i64 nr, .int .i64 ar, .int .i64 ih, .int .i64 il, .slice (some ⟨b, 0, none⟩) 6 ucap] 45)) hg2 (by omega)
    simp only [World.size_alloc] at h
    exact h)
  have hb2 : b < w2.heap.size := Nat.lt_of_lt_of_le hb1 (Nat.le_trans (by simp) hg2.size)
  have hipw := wf_of_right hip
  have hnr : In64 nr := ⟨by omega, by omega⟩
  have harr : In64 ar := ⟨by omega, by omega⟩
  clear hs2 hg2 ha2 hip hn har
  by_cases h0 : v = 0
  · subst h0
    have hl : ∀ W, AfterSrc g a len cap w W → W.heap[w.heap.size]? = some (.cells #[.int .i64 0, .int .i64 0, .int .i64 0, .int .i64 0, .slice none 0 0] 45 (0, 0)) → True := fun _ _ _ => trivial
    clear hl
    have HA3 := Lib.hid (HA2.out.more (.cells #[.int .i64 (-1), .int .i64 4294967295, .int .i64 4294967296] 2))
    go_wp2_with fail
    refine (srcN_any g a len cap 3 _ HA3.out.1 (by omega) (by omega)).mono ?_
    rintro e w3 ⟨i, rfl, hi0, hi1, _, hs3, hg3⟩
    have ha3 : AfterSrc g a len cap _ w3 := ⟨hs3, hg3⟩
    have HA4 := Lib.hid (HA3.out.trans ha3)
    have HH4 := Lib.hid (ha3.row (row_alloc HH2.out _) (by omega))
    have HR4 := Lib.hid (ha3.row (row_alloc HR2.out _) (by omega))
    have hlit := ha3.row (heap_alloc_new w2 _) (by have := HA2.out.lt; omega)
    have HO4 : Hid (WdOwn (w.heap.size + 1) w3 (.slice (some ⟨b, 0, none⟩) 6 ucap) l) := Lib.hid (own_kept (OwnL.alloc HO2.out _) hg3 (by omega))
    have hi3 : i < 3 := hi1 (by omega)
    have hw2 : w2.heap.size ≠ w1.heap.size := by have := row_here HR2.out; omega
    have HLIT := Lib.hid hlit
    clear hs3 hg3 ha3 hlit hi1
    rcases (by omega : i = 0 ∨ i = 1 ∨ i = 2) with rfl | rfl | rfl
    · have c := row_cell HLIT.out 0
      simp only [List.getElem?_toArray, List.getElem?_cons_zero, List.getElem?_cons_succ] at c
      have c0 := row_cell HR4.out 0
      have g0 := frozen_row HR4.out 0
      have d0 := row_cell HH4.out 0
      have f0 := frozen_row HH4.out 0
      have c1 := row_cell HR4.out 1
      have g1 := frozen_row HR4.out 1
      have d1 := row_cell HH4.out 1
      have f1 := frozen_row HH4.out 1
      have c2 := row_cell HR4.out 2
      have g2 := frozen_row HR4.out 2
      have d2 := row_cell HH4.out 2
      have f2 := frozen_row HH4.out 2
      have c3 := row_cell HR4.out 3
      have g3 := frozen_row HR4.out 3
      have d3 := row_cell HH4.out 3
      have f3 := frozen_row HH4.out 3
      have c4 := row_cell HR4.out 4
      have g4 := frozen_row HR4.out 4
      have d4 := row_cell HH4.out 4
      have f4 := frozen_row HH4.out 4
      simp only [List.getElem?_toArray, List.getElem?_cons_zero, List.getElem?_cons_succ] at c0 c1 c2 c3 c4 d0 d1 d2 d3 d4
      go_wp2_with fail
      exact bodyPost_ret (v := .agg #[.int .i64 (-1), .int .i64 ar, .int .i64 ih, .int .i64 il, .slice (some ⟨b, 0, none⟩) 6 ucap]) (by simp [results, Try.results70, go_sem, d0, d1, d2, d3, d4]) rfl
        ⟨⟨(-1), ar, ⟨ih, il⟩, l⟩, _, rfl, ⟨show In64 (-1) from ⟨by omega, by omega⟩, harr, hipw, HWF.out⟩, LAt.up (WdAt.put (WdAt.put (WdAt.put (WdAt.put (WdAt.put (WdAt.put (OwnL.lAt wdS HO4.out HWF.out) (p := ⟨w1.heap.size, 0, none⟩) (show w1.heap.size ≠ b by omega) _) (p := ⟨w.heap.size, 0, none⟩) (show w.heap.size ≠ b by omega) _) (p := ⟨w.heap.size, 1, none⟩) (show w.heap.size ≠ b by omega) _) (p := ⟨w.heap.size, 2, none⟩) (show w.heap.size ≠ b by omega) _) (p := ⟨w.heap.size, 3, none⟩) (show w.heap.size ≠ b by omega) _) (p := ⟨w.heap.size, 4, none⟩) (show w.heap.size ≠ b by omega) _) (by simp), by simp only [hlen]; omega, ⟨b, 0, _, _, rfl, by omega⟩, ((((((HA4.out.put hgl (p := ⟨w1.heap.size, 0, none⟩) (show w.heap.size ≤ w1.heap.size by omega) _).put hgl (p := ⟨w.heap.size, 0, none⟩) (Nat.le_refl _) _).put hgl (p := ⟨w.heap.size, 1, none⟩) (Nat.le_refl _) _).put hgl (p := ⟨w.heap.size, 2, none⟩) (Nat.le_refl _) _).put hgl (p := ⟨w.heap.size, 3, none⟩) (Nat.le_refl _) _).put hgl (p := ⟨w.heap.size, 4, none⟩) (Nat.le_refl _) _)⟩
    · have c := row_cell HLIT.out 1
      simp only [List.getElem?_toArray, List.getElem?_cons_zero, List.getElem?_cons_succ] at c
      have c0 := row_cell HR4.out 0
      have g0 := frozen_row HR4.out 0
      have d0 := row_cell HH4.out 0
      have f0 := frozen_row HH4.out 0
      have c1 := row_cell HR4.out 1
      have g1 := frozen_row HR4.out 1
      have d1 := row_cell HH4.out 1
      have f1 := frozen_row HH4.out 1
      have c2 := row_cell HR4.out 2
      have g2 := frozen_row HR4.out 2
      have d2 := row_cell HH4.out 2
      have f2 := frozen_row HH4.out 2
      have c3 := row_cell HR4.out 3
      have g3 := frozen_row HR4.out 3
      have d3 := row_cell HH4.out 3
      have f3 := frozen_row HH4.out 3
      have c4 := row_cell HR4.out 4
      have g4 := frozen_row HR4.out 4
      have d4 := row_cell HH4.out 4
      have f4 := frozen_row HH4.out 4
      simp only [List.getElem?_toArray, List.getElem?_cons_zero, List.getElem?_cons_succ] at c0 c1 c2 c3 c4 d0 d1 d2 d3 d4
      go_wp2_with fail
      exact bodyPost_ret (v := .agg #[.int .i64 4294967295, .int .i64 ar, .int .i64 ih, .int .i64 il, .slice (some ⟨b, 0, none⟩) 6 ucap]) (by simp [results, Try.results70, go_sem, d0, d1, d2, d3, d4]) rfl
        ⟨⟨4294967295, ar, ⟨ih, il⟩, l⟩, _, rfl, ⟨show In64 4294967295 from ⟨by omega, by omega⟩, harr, hipw, HWF.out⟩, LAt.up (WdAt.put (WdAt.put (WdAt.put (WdAt.put (WdAt.put (WdAt.put (OwnL.lAt wdS HO4.out HWF.out) (p := ⟨w1.heap.size, 0, none⟩) (show w1.heap.size ≠ b by omega) _) (p := ⟨w.heap.size, 0, none⟩) (show w.heap.size ≠ b by omega) _) (p := ⟨w.heap.size, 1, none⟩) (show w.heap.size ≠ b by omega) _) (p := ⟨w.heap.size, 2, none⟩) (show w.heap.size ≠ b by omega) _) (p := ⟨w.heap.size, 3, none⟩) (show w.heap.size ≠ b by omega) _) (p := ⟨w.heap.size, 4, none⟩) (show w.heap.size ≠ b by omega) _) (by simp), by simp only [hlen]; omega, ⟨b, 0, _, _, rfl, by omega⟩, ((((((HA4.out.put hgl (p := ⟨w1.heap.size, 0, none⟩) (show w.heap.size ≤ w1.heap.size by omega) _).put hgl (p := ⟨w.heap.size, 0, none⟩) (Nat.le_refl _) _).put hgl (p := ⟨w.heap.size, 1, none⟩) (Nat.le_refl _) _).put hgl (p := ⟨w.heap.size, 2, none⟩) (Nat.le_refl _) _).put hgl (p := ⟨w.heap.size, 3, none⟩) (Nat.le_refl _) _).put hgl (p := ⟨w.heap.size, 4, none⟩) (Nat.le_refl _) _)⟩
    · have c := row_cell HLIT.out 2
      simp only [List.getElem?_toArray, List.getElem?_cons_zero, List.getElem?_cons_succ] at c
      have c0 := row_cell HR4.out 0
      have g0 := frozen_row HR4.out 0
      have d0 := row_cell HH4.out 0
      have f0 := frozen_row HH4.out 0
      have c1 := row_cell HR4.out 1
      have g1 := frozen_row HR4.out 1
      have d1 := row_cell HH4.out 1
      have f1 := frozen_row HH4.out 1
      have c2 := row_cell HR4.out 2
      have g2 := frozen_row HR4.out 2
      have d2 := row_cell HH4.out 2
      have f2 := frozen_row HH4.out 2
      have c3 := row_cell HR4.out 3
      have g3 := frozen_row HR4.out 3
      have d3 := row_cell HH4.out 3
      have f3 := frozen_row HH4.out 3
      have c4 := row_cell HR4.out 4
      have g4 := frozen_row HR4.out 4
      have d4 := row_cell HH4.out 4
      have f4 := frozen_row HH4.out 4
      simp only [List.getElem?_toArray, List.getElem?_cons_zero, List.getElem?_cons_succ] at c0 c1 c2 c3 c4 d0 d1 d2 d3 d4
      go_wp2_with fail
      exact bodyPost_ret (v := .agg #[.int .i64 4294967296, .int .i64 ar, .int .i64 ih, .int .i64 il, .slice (some ⟨b, 0, none⟩) 6 ucap]) (by simp [results, Try.results70, go_sem, d0, d1, d2, d3, d4]) rfl
        ⟨⟨4294967296, ar, ⟨ih, il⟩, l⟩, _, rfl, ⟨show In64 4294967296 from ⟨by omega, by omega⟩, harr, hipw, HWF.out⟩, LAt.up (WdAt.put (WdAt.put (WdAt.put (WdAt.put (WdAt.put (WdAt.put (OwnL.lAt wdS HO4.out HWF.out) (p := ⟨w1.heap.size, 0, none⟩) (show w1.heap.size ≠ b by omega) _) (p := ⟨w.heap.size, 0, none⟩) (show w.heap.size ≠ b by omega) _) (p := ⟨w.heap.size, 1, none⟩) (show w.heap.size ≠ b by omega) _) (p := ⟨w.heap.size, 2, none⟩) (show w.heap.size ≠ b by omega) _) (p := ⟨w.heap.size, 3, none⟩) (show w.heap.size ≠ b by omega) _) (p := ⟨w.heap.size, 4, none⟩) (show w.heap.size ≠ b by omega) _) (by simp), by simp only [hlen]; omega, ⟨b, 0, _, _, rfl, by omega⟩, ((((((HA4.out.put hgl (p := ⟨w1.heap.size, 0, none⟩) (show w.heap.size ≤ w1.heap.size by omega) _).put hgl (p := ⟨w.heap.size, 0, none⟩) (Nat.le_refl _) _).put hgl (p := ⟨w.heap.size, 1, none⟩) (Nat.le_refl _) _).put hgl (p := ⟨w.heap.size, 2, none⟩) (Nat.le_refl _) _).put hgl (p := ⟨w.heap.size, 3, none⟩) (Nat.le_refl _) _).put hgl (p := ⟨w.heap.size, 4, none⟩) (Nat.le_refl _) _)⟩
  have q0 : (v == 0) = false := by simpa using h0
  by_cases h1 : v = 1
  · subst h1
    obtain ⟨x0, tl, rfl⟩ : ∃ x0 tl, l = x0 :: tl := by
      cases l with
      | nil => simp at hlen
      | cons x0 tl => exact ⟨x0, tl, rfl⟩
    have h5 : tl.length = 5 := by simpa using hlen
    have hu1 : ucap ≠ 1 := by omega
    have hu6 : (6 : Int) ≤ (ucap : Int) := by omega
    have hu0 : (1 : Int) ≤ (ucap : Int) := by omega
    have HT : Hid (WdAt w2 w2.heap.size (.slice (some ⟨b, 2, none⟩) 5 (ucap - 1)) tl) := Lib.hid (by
      have h := WdAt.tail (OwnL.lAt wdS HO2.out HWF.out)
      simpa only [h5, Nat.zero_add] using h)
    have c0 := row_cell HR2.out 0
    have g0 := frozen_row HR2.out 0
    have d0 := row_cell HH2.out 0
    have f0 := frozen_row HH2.out 0
    have c1 := row_cell HR2.out 1
    have g1 := frozen_row HR2.out 1
    have d1 := row_cell HH2.out 1
    have f1 := frozen_row HH2.out 1
    have c2 := row_cell HR2.out 2
    have g2 := frozen_row HR2.out 2
    have d2 := row_cell HH2.out 2
    have f2 := frozen_row HH2.out 2
    have c3 := row_cell HR2.out 3
    have g3 := frozen_row HR2.out 3
    have d3 := row_cell HH2.out 3
    have f3 := frozen_row HH2.out 3
    have c4 := row_cell HR2.out 4
    have g4 := frozen_row HR2.out 4
    have d4 := row_cell HH2.out 4
    have f4 := frozen_row HH2.out 4
    simp only [List.getElem?_toArray, List.getElem?_cons_zero, List.getElem?_cons_succ] at c0 c1 c2 c3 c4 d0 d1 d2 d3 d4
    go_wp2_with fail
    exact bodyPost_ret (v := .agg #[.int .i64 nr, .int .i64 ar, .int .i64 ih, .int .i64 il, .slice (some ⟨b, 2, none⟩) 5 (ucap - 1)]) (by simp [results, Try.results70, go_sem, d0, d1, d2, d3, d4]) rfl
      ⟨⟨nr, ar, ⟨ih, il⟩, tl⟩, _, rfl, ⟨hnr, harr, hipw, fun x hx => HWF.out x (by simp [hx])⟩, LAt.up (WdAt.put (WdAt.put (WdAt.put (WdAt.put (WdAt.put (WdAt.put HT.out (p := ⟨w1.heap.size, 4, none⟩) (show w1.heap.size ≠ b by omega) _) (p := ⟨w.heap.size, 0, none⟩) (show w.heap.size ≠ b by omega) _) (p := ⟨w.heap.size, 1, none⟩) (show w.heap.size ≠ b by omega) _) (p := ⟨w.heap.size, 2, none⟩) (show w.heap.size ≠ b by omega) _) (p := ⟨w.heap.size, 3, none⟩) (show w.heap.size ≠ b by omega) _) (p := ⟨w.heap.size, 4, none⟩) (show w.heap.size ≠ b by omega) _) (by simp), by simp only [h5]; omega, ⟨b, 2, _, _, rfl, by omega⟩, ((((((HA2.out.put hgl (p := ⟨w1.heap.size, 4, none⟩) (show w.heap.size ≤ w1.heap.size by omega) _).put hgl (p := ⟨w.heap.size, 0, none⟩) (Nat.le_refl _) _).put hgl (p := ⟨w.heap.size, 1, none⟩) (Nat.le_refl _) _).put hgl (p := ⟨w.heap.size, 2, none⟩) (Nat.le_refl _) _).put hgl (p := ⟨w.heap.size, 3, none⟩) (Nat.le_refl _) _).put hgl (p := ⟨w.heap.size, 4, none⟩) (Nat.le_refl _) _)⟩
  have q1 : (v == 1) = false := by simpa using h1
  by_cases h2 : v = 2
  · subst h2
    obtain ⟨x0, tl, rfl⟩ : ∃ x0 tl, l = x0 :: tl := by
      cases l with
      | nil => simp at hlen
      | cons x0 tl => exact ⟨x0, tl, rfl⟩
    have hu6 : (6 : Int) ≤ (ucap : Int) := by omega
    have c4 := row_cell HR2.out 4
    simp only [List.getElem?_toArray, List.getElem?_cons_zero, List.getElem?_cons_succ] at c4
    have HA3 := Lib.hid (HA2.out.more (.cells #[.int .i64 (-1), .int .i64 4294967296] 2))
    have hRlt : w1.heap.size < w2.heap.size := row_here HR2.out
    have hbH : b ≠ w.heap.size := by omega
    have hbR : b ≠ w1.heap.size := by omega
    have HsA : Src w2.drew g a len cap := HA2.out.1
    have HsB : Src (w2.alloc (.cells #[.int .i64 (-1), .int .i64 4294967296] 2)).drew g a len cap := HA3.out.1
    have hwx : ∀ x : Int, In64 x → ∀ y ∈ ((⟨x, x0.l⟩ : Wd) :: tl), y.wf := by
      intro x hxi y hy
      rcases List.mem_cons.1 hy with rfl | hy
      · exact ⟨hxi, (HWF.out x0 (by simp)).2⟩
      · exact HWF.out y (by simp [hy])
    have HWX := Lib.hid hwx
    have hxs : ∀ n : Nat, n < 2 → ∃ x : Int, In64 x ∧ (#[.int .i64 (-1), .int .i64 4294967296] : Array Value)[n]? = some (.int .i64 x) := by
      intro n hn
      rcases (by omega : n = 0 ∨ n = 1) with rfl | rfl
      · exact ⟨-1, ⟨by omega, by omega⟩, rfl⟩
      · exact ⟨4294967296, ⟨by omega, by omega⟩, rfl⟩
    have HXS := Lib.hid hxs
    clear hxs
    clear hwx
    go_wp2_with fail
    go_region_with (go_at_call 59; (refine (srcN_any g a len cap 2 _ (by first | exact HsA | exact HsB) (by omega) (by omega)).mono ?_); rintro e w3 ⟨i, rfl, hi0, hi1, _, hs3, hg3⟩; obtain ⟨n, rfl⟩ := Int.eq_ofNat_of_zero_le hi0; have hn2 : (n : Int) < 2 := hi1 (by omega); obtain ⟨x, hxx, hxi⟩ := HXS.out n (by omega); (first | (have ha3 : AfterSrc g a len cap w2 w3 := ⟨hs3, ⟨hg3.os, hg3.tape, hg3.output, hg3.size, hg3.block⟩⟩; have HAX := Lib.hid (HA2.out.trans ha3); have HHX := Lib.hid (ha3.row HH2.out (by omega)); have HRX := Lib.hid (ha3.row HR2.out (by omega)); have HOX : Hid (WdOwn (w.heap.size + 1) w3 (.slice (some ⟨b, 0, none⟩) 6 ucap) (x0 :: tl)) := Lib.hid (own_kept HO2.out ha3.grown (by omega))) | (have ha3 : AfterSrc g a len cap (w2.alloc (.cells #[.int .i64 (-1), .int .i64 4294967296] 2)) w3 := ⟨hs3, ⟨hg3.os, hg3.tape, hg3.output, hg3.size, hg3.block⟩⟩; have HAX := Lib.hid (HA3.out.trans ha3); have HHX := Lib.hid (ha3.row (row_alloc HH2.out _) (by omega)); have HRX := Lib.hid (ha3.row (row_alloc HR2.out _) (by omega)); have HOX : Hid (WdOwn (w.heap.size + 1) w3 (.slice (some ⟨b, 0, none⟩) 6 ucap) (x0 :: tl)) := Lib.hid (own_kept (OwnL.alloc HO2.out _) ha3.grown (by omega)); have r0 := ha3.row (heap_alloc_new w2 (.cells #[.int .i64 (-1), .int .i64 4294967296] 2)) (by have := HA2.out.lt; omega); have lx := (row_cell r0 n).trans hxi)); have c4 := row_cell HRX.out 4; simp only [List.getElem?_toArray, List.getElem?_cons_zero, List.getElem?_cons_succ] at c4; obtain ⟨e0, f0⟩ := own_first HOX.out; have hbX : b < w3.heap.size := (OwnL.lt HOX.out b rfl).2; have c0 := row_cell HRX.out 0; have c1 := row_cell HRX.out 1; have c2 := row_cell HRX.out 2; have c3 := row_cell HRX.out 3; have d0 := row_cell HHX.out 0; have f0' := frozen_row HHX.out 0; have d1 := row_cell HHX.out 1; have f1' := frozen_row HHX.out 1; have d2 := row_cell HHX.out 2; have f2' := frozen_row HHX.out 2; have d3 := row_cell HHX.out 3; have f3' := frozen_row HHX.out 3; have d4 := row_cell HHX.out 4; have f4' := frozen_row HHX.out 4; simp only [List.getElem?_toArray, List.getElem?_cons_zero, List.getElem?_cons_succ] at c0 c1 c2 c3 d0 d1 d2 d3 d4; have hHX : w.heap.size < w3.heap.size := row_here HHX.out; have hRX : w1.heap.size < w3.heap.size := row_here HRX.out)
    all_goals
      clear d0 d1 d2 d3 d4 f0' f1' f2' f3' f4' e0 f0 hs3 hg3
      have hown := OwnL.lAt wdS (own_setFirst HOX.out x) (HWX.out x hxx)
      first
        | (have _h := lx; generalize hW : World.setCell w3 ⟨b, 0, none⟩ (.int .i64 x) = W)
        | generalize hW : World.alloc (World.setCell w3 ⟨b, 0, none⟩ (.int .i64 x)) (.cells #[.int .i64 (-1), .int .i64 4294967296] 2) = W
      have HHW : Hid (W.heap[w.heap.size]? = some (.cells #[.int .i64 0, .int .i64 0, .int .i64 0, .int .i64 0, .slice none 0 0] 45 (0, 0))) := Lib.hid (by rw [← hW]; first | exact row_other HHX.out _ _ (Ne.symm hbH) | exact row_alloc (row_other HHX.out _ _ (Ne.symm hbH)) _)
      have HRW : Hid (W.heap[w1.heap.size]? = some (.cells #[.int .i64 nr, .int .i64 ar, .int .i64 ih, .int .i64 il, .slice (some ⟨b, 0, none⟩) 6 ucap] 45)) := Lib.hid (by rw [← hW]; first | exact row_other HRX.out _ _ (Ne.symm hbR) | exact row_alloc (row_other HRX.out _ _ (Ne.symm hbR)) _)
      have HAW : Hid (AfterSrc g a len cap w W) := Lib.hid (by rw [← hW]; first | exact HAX.out.put hgl (p := ⟨b, 0, none⟩) (show w.heap.size ≤ b by omega) _ | exact (HAX.out.put hgl (p := ⟨b, 0, none⟩) (show w.heap.size ≤ b by omega) _).more _)
      have HOW : Hid (WdAt W W.heap.size (.slice (some ⟨b, 0, none⟩) 6 ucap) (⟨x, x0.l⟩ :: tl)) := Lib.hid (by rw [← hW]; first | exact hown | exact LAt.up (LAt.below hown ((Below.refl _ _).alloc (Nat.le_refl _) _)) (by simp))
      clear hown hW HHX HRX HAX HOX HA0 HA1 HH1 HR1 HA2 HH2 HR2 HO1 HO2 HA3 HsA HsB ha3
      have c0 := row_cell HRW.out 0; have d0 := row_cell HHW.out 0; have f0 := frozen_row HHW.out 0; have c1 := row_cell HRW.out 1; have d1 := row_cell HHW.out 1; have f1 := frozen_row HHW.out 1; have c2 := row_cell HRW.out 2; have d2 := row_cell HHW.out 2; have f2 := frozen_row HHW.out 2; have c3 := row_cell HRW.out 3; have d3 := row_cell HHW.out 3; have f3 := frozen_row HHW.out 3; have c4 := row_cell HRW.out 4; have d4 := row_cell HHW.out 4; have f4 := frozen_row HHW.out 4
      simp only [List.getElem?_toArray, List.getElem?_cons_zero, List.getElem?_cons_succ] at c0 c1 c2 c3 c4 d0 d1 d2 d3 d4
      go_wp2_with fail
      exact bodyPost_ret (v := .agg #[.int .i64 nr, .int .i64 ar, .int .i64 ih, .int .i64 il, .slice (some ⟨b, 0, none⟩) 6 ucap]) (by simp [results, Try.results70, go_sem, d0, d1, d2, d3, d4]) rfl ⟨⟨nr, ar, ⟨ih, il⟩, ⟨x, x0.l⟩ :: tl⟩, _, rfl, ⟨hnr, harr, hipw, HWX.out x hxx⟩, LAt.up (WdAt.put (WdAt.put (WdAt.put (WdAt.put (WdAt.put HOW.out (p := ⟨w.heap.size, 0, none⟩) (show w.heap.size ≠ b by omega) _) (p := ⟨w.heap.size, 1, none⟩) (show w.heap.size ≠ b by omega) _) (p := ⟨w.heap.size, 2, none⟩) (show w.heap.size ≠ b by omega) _) (p := ⟨w.heap.size, 3, none⟩) (show w.heap.size ≠ b by omega) _) (p := ⟨w.heap.size, 4, none⟩) (show w.heap.size ≠ b by omega) _) (by simp), by simp only [List.length_cons] at hlen ⊢; omega, ⟨b, 0, _, _, rfl, by omega⟩, ((((((HAW.out).put hgl (p := ⟨w.heap.size, 0, none⟩) (Nat.le_refl _) _).put hgl (p := ⟨w.heap.size, 1, none⟩) (Nat.le_refl _) _).put hgl (p := ⟨w.heap.size, 2, none⟩) (Nat.le_refl _) _).put hgl (p := ⟨w.heap.size, 3, none⟩) (Nat.le_refl _) _).put hgl (p := ⟨w.heap.size, 4, none⟩) (Nat.le_refl _) _)⟩
  · have q2 : (v == 2) = false := by simpa using h2
    have c0 := row_cell HR2.out 0
    have g0 := frozen_row HR2.out 0
    have d0 := row_cell HH2.out 0
    have f0 := frozen_row HH2.out 0
    have c1 := row_cell HR2.out 1
    have g1 := frozen_row HR2.out 1
    have d1 := row_cell HH2.out 1
    have f1 := frozen_row HH2.out 1
    have c2 := row_cell HR2.out 2
    have g2 := frozen_row HR2.out 2
    have d2 := row_cell HH2.out 2
    have f2 := frozen_row HH2.out 2
    have c3 := row_cell HR2.out 3
    have g3 := frozen_row HR2.out 3
    have d3 := row_cell HH2.out 3
    have f3 := frozen_row HH2.out 3
    have c4 := row_cell HR2.out 4
    have g4 := frozen_row HR2.out 4
    have d4 := row_cell HH2.out 4
    have f4 := frozen_row HH2.out 4
    simp only [List.getElem?_toArray, List.getElem?_cons_zero, List.getElem?_cons_succ] at c0 c1 c2 c3 c4 d0 d1 d2 d3 d4
    go_wp2_with fail
    exact bodyPost_ret (v := .agg #[.int .i64 nr, .int .i64 ar, .int .i64 ih, .int .i64 il, .slice (some ⟨b, 0, none⟩) 6 ucap]) (by simp [results, Try.results70, go_sem, d0, d1, d2, d3, d4]) rfl
        ⟨⟨nr, ar, ⟨ih, il⟩, l⟩, _, rfl, ⟨hnr, harr, hipw, HWF.out⟩, LAt.up (WdAt.put (WdAt.put (WdAt.put (WdAt.put (WdAt.put (OwnL.lAt wdS HO2.out HWF.out) (p := ⟨w.heap.size, 0, none⟩) (show w.heap.size ≠ b by omega) _) (p := ⟨w.heap.size, 1, none⟩) (show w.heap.size ≠ b by omega) _) (p := ⟨w.heap.size, 2, none⟩) (show w.heap.size ≠ b by omega) _) (p := ⟨w.heap.size, 3, none⟩) (show w.heap.size ≠ b by omega) _) (p := ⟨w.heap.size, 4, none⟩) (show w.heap.size ≠ b by omega) _) (by simp), by simp only [hlen]; omega, ⟨b, 0, _, _, rfl, by omega⟩, (((((HA2.out.put hgl (p := ⟨w.heap.size, 0, none⟩) (Nat.le_refl _) _).put hgl (p := ⟨w.heap.size, 1, none⟩) (Nat.le_refl _) _).put hgl (p := ⟨w.heap.size, 2, none⟩) (Nat.le_refl _) _).put hgl (p := ⟨w.heap.size, 3, none⟩) (Nat.le_refl _) _).put hgl (p := ⟨w.heap.size, 4, none⟩) (Nat.le_refl _) _)⟩

end Go.Proofs.Ytmnmaijifhojiaa

/- What the laws of chapter 4 draw: words, records, bytes. -/
set_option maxRecDepth 100000
set_option linter.unusedSimpArgs false
namespace Go.Proofs.Ytmnmaijifhojiaa
open Go.RowKit
attribute [local go_sem ↓] Go.wp_at_zero Go.wp_at_succ

theorem CodeAt.upTo {w : World} {B B' : Nat} {a : Option Addr} {len cap : Nat} (h : CodeAt w B a len cap) (hB : B ≤ B') : CodeAt w B' a len cap := ⟨h.1, h.2.1, fun h0 => by
  obtain ⟨b, o, e, hb, hc⟩ := h.2.2 h0
  exact ⟨b, o, e, by omega, hc⟩⟩

end Go.Proofs.Ytmnmaijifhojiaa

/- Small questions on codes: l02Looks, l02HasK, l04Cell, l04Reads, l01Min, l01Max of the model walked. -/
set_option maxRecDepth 100000
namespace Go.Proofs.Ytmnmaijifhojiaa
open Go.RowKit

def looksC (c : Int) : Bool := [21, 37, 53, 69, 29, 45, 61, 77].contains c
def noKC (c : Int) : Bool := [7, 135, 22, 132, 12, 28, 92, 76, 29, 45, 61, 77].contains c
def cellC (c : Int) : Bool := [96, 97, 2, 3].contains c
def readsC (c : Int) : Bool := [96, 97].contains c
theorem eq_false_of {a b : Int} (h : ¬ a = b) : (a == b) = false := by simpa using h

theorem l01Min_any (a b : Int) (w : World) : Calls Try.prog 104 #[.int .i64 a, .int .i64 b] w fun e w' => e = .returned (.int .i64 (if a < b then a else b)) ∧ w = w' := by
  by_cases h : a < b
  · have hd : decide (a < b) = true := by simpa using h
    go_enter Try.func104, Try.ntmps104
    go_wp2
    go_ret
    exact ⟨by first | rfl | rw [if_pos h], rfl⟩
  · have hd : decide (a < b) = false := by simpa using h
    go_enter Try.func104, Try.ntmps104
    go_wp2
    go_ret
    exact ⟨by first | rfl | rw [if_neg h], rfl⟩

theorem l01Max_any (a b : Int) (w : World) : Calls Try.prog 103 #[.int .i64 a, .int .i64 b] w fun e w' => e = .returned (.int .i64 (if b < a then a else b)) ∧ w = w' := by
  by_cases h : b < a
  · have hd : decide (b < a) = true := by simpa using h
    go_enter Try.func103, Try.ntmps103
    go_wp2
    go_ret
    exact ⟨by first | rfl | rw [if_pos h], rfl⟩
  · have hd : decide (b < a) = false := by simpa using h
    go_enter Try.func103, Try.ntmps103
    go_wp2
    go_ret
    exact ⟨by first | rfl | rw [if_neg h], rfl⟩

end Go.Proofs.Ytmnmaijifhojiaa

/- The code that came in, off what a law is told of it. -/
set_option maxRecDepth 100000
namespace Go.Proofs.Ytmnmaijifhojiaa
open Go.RowKit

theorem codeAt_of {w : World} {x : Addr} {len cap : Nat} {zs : List Int} (hl : len ≤ cap) (hm : cap ≤ maxLen) (hz : zs.length = cap)
    (hcell : ∀ i, i < zs.length → w.cell? (x.add i) = some (.int .u8 (zs.getD i 0))) (hw : ∀ n ∈ zs, (Lit.int .u8 n).wf = true) : CodeAt w w.heap.size (some x) len cap := by
  refine ⟨hl, hm, fun h0 => ?_⟩
  obtain ⟨b, o, s⟩ := x
  have h00 := hcell 0 (by omega)
  cases s with
  | some s => simp [World.cell?, Addr.add] at h00; split at h00 <;> simp at h00
  | none =>
    have hb : b < w.heap.size := by
      rcases Nat.lt_or_ge b w.heap.size with hlt | hge
      · exact hlt
      · simp [World.cell?, Addr.add, Array.getElem?_eq_none hge] at h00
    refine ⟨b, o, rfl, hb, fun i hi => ?_⟩
    have hi' : i < zs.length := by omega
    have hwf := hw (zs.getD i 0) (by rw [List.getD_eq_getElem?_getD, List.getElem?_eq_getElem hi']; exact List.getElem_mem _)
    have hbd : 0 ≤ zs.getD i 0 ∧ zs.getD i 0 ≤ 255 := by
      generalize zs.getD i 0 = z at hwf
      simp [Lit.wf] at hwf
      exact hwf
    have e3 : (⟨b, o, none⟩ : Addr).add i = ⟨b, o + i, none⟩ := by unfold Addr.add; split <;> simp_all
    exact ⟨zs.getD i 0, hbd.1, hbd.2, e3 ▸ hcell i hi'⟩

theorem codeAt_up {w w' : World} {B : Nat} {a : Option Addr} {len cap : Nat} (h : CodeAt w B a len cap) (hb : Below B w w') (hB : B ≤ w.heap.size) : CodeAt w' w'.heap.size a len cap := by
  have h' := h.below hb
  refine ⟨h'.1, h'.2.1, fun h0 => ?_⟩
  obtain ⟨b, o, e, hlt, hc⟩ := h'.2.2 h0
  exact ⟨b, o, e, Nat.lt_of_lt_of_le hlt (Nat.le_trans hB hb.size), hc⟩

end Go.Proofs.Ytmnmaijifhojiaa


/- Walks: the draws' source (a struct behind a pointer, over the code that came in): what it answers is within bounds; it writes into its own block alone. -/
import Derived.Test.YtgcfnmaojdnchaaBs
import Derived.StillTailTactics
import Derived.Deep.Draws
set_option maxRecDepth 100000
namespace Go.Proofs.Ytgcfnmaojdnchaa
open Go.RowKit

/-- The code that came in: its bytes lie below block B. -/
def CodeAt (w : World) (B : Nat) (a : Option Addr) (len cap : Nat) : Prop :=
  len ≤ cap ∧ cap ≤ maxLen ∧ (0 < len → ∃ b o, a = some ⟨b, o, none⟩ ∧ b < B ∧ ∀ i, i < len → ∃ c : Int, 0 ≤ c ∧ c ≤ 255 ∧ w.cell? ⟨b, o + i, none⟩ = some (.int .u8 c))
/-- The source: its block, what it holds. -/
def SrcAt (w : World) (g : Nat) (a : Option Addr) (len cap : Nat) (at_ mix size : Int) : Prop :=
  w.heap[g]? = some (.cells #[.slice a len cap, .int .i64 at_, .int .u64 mix, .int .i64 size] 88 (0, 0)) ∧ 0 ≤ at_ ∧ at_ ≤ (len : Int) ∧ 0 ≤ mix ∧ mix ≤ 18446744073709551615 ∧ 0 ≤ size ∧ size ≤ 12
def Src (w : World) (g : Nat) (a : Option Addr) (len cap : Nat) : Prop := ∃ at_ mix size, SrcAt w g a len cap at_ mix size ∧ CodeAt w g a len cap

theorem CodeAt.keep {w w' : World} {B : Nat} {a : Option Addr} {len cap : Nat} (h : CodeAt w B a len cap) (hk : ∀ p : Addr, p.block < B → w'.cell? p = w.cell? p) : CodeAt w' B a len cap := by
  refine ⟨h.1, h.2.1, fun h0 => ?_⟩
  obtain ⟨b, o, rfl, hb, hc⟩ := h.2.2 h0
  exact ⟨b, o, rfl, hb, fun i hi => by
    obtain ⟨c, c0, c1, hcc⟩ := hc i hi
    exact ⟨c, c0, c1, (hk _ hb).trans hcc⟩⟩
theorem CodeAt.grown {w w' : World} {g : Nat} {a : Option Addr} {len cap : Nat} (h : CodeAt w g a len cap) (hg : w.grownBy w' (some g)) (hl : g ≤ w.heap.size) : CodeAt w' g a len cap :=
  h.keep fun p hp => World.cell?_of_block (hg.block p.block (by omega) (fun e => by injection e with e; omega))

theorem row_setCell {w : World} {g : Nat} {cs : Array Value} {T : TypeId} (h : w.heap[g]? = some (.cells cs T (0, 0))) (i : Nat) (v : Value) : (w.setCell ⟨g, i, none⟩ v).heap[g]? = some (.cells (cs.setIfInBounds i v) T (0, 0)) := by
  simp [World.setCell, Array.getElem?_modify, h]
theorem row_lt {w : World} {g : Nat} {o : Obj} (h : w.heap[g]? = some o) : g < w.heap.size := by
  rcases Nat.lt_or_ge g w.heap.size with hl | hl
  · exact hl
  · rw [Array.getElem?_eq_none hl] at h; cases h

theorem only_drew' {w W : World} {g : Nat} (h : w.grownBy W (some g)) : w.grownBy W.drew (some g) := ⟨h.os, h.tape, h.output, h.size, h.block⟩
theorem only_set {w W : World} {g : Nat} (h : w.grownBy W (some g)) (i : Nat) (v : Value) : w.grownBy (W.setCell ⟨g, i, none⟩ v) (some g) :=
  ⟨h.os, h.tape, h.output, by simpa [World.setCell] using h.size, fun k hk hne => (Below.heap_setCell W ⟨g, i, none⟩ v k (fun e => hne (by rw [e]))).trans (h.block k hk hne)⟩

theorem drawn_bd (x most : Int) (h0 : 0 ≤ x) (h1 : 1 < most) (h2 : most ≤ 9223372036854775807) : 0 ≤ wrap64 (x.tmod most) ∧ wrap64 (x.tmod most) < most := by
  rw [Int.tmod_eq_emod_of_nonneg h0]
  have a := Int.emod_nonneg x (show most ≠ 0 by omega)
  have b := Int.emod_lt_of_pos x (show 0 < most by omega)
  rw [IntWalk.wrap64_in _ ⟨by omega, by omega⟩]
  exact ⟨a, b⟩
theorem wrap_u64_le (x : Int) : IntKind.u64.wrap x ≤ 18446744073709551615 := by rw [IntKind.wrap_u64]; omega
theorem wrap_u64_nonneg (x : Int) : 0 ≤ IntKind.u64.wrap x := by rw [IntKind.wrap_u64]; omega

set_option maxHeartbeats 1600000 in
theorem srcN_any (g : Nat) (a : Option Addr) (len cap : Nat) (most : Int) (w : World) (hs : Src w g a len cap) (hm0 : -9223372036854775808 ≤ most) (hm : most ≤ 9223372036854775807) :
    Calls Try.prog 46 #[.pointer (some ⟨g, 0, none⟩), .int .i64 most] w fun e w' =>
      ∃ v : Int, e = .returned (.int .i64 v) ∧ 0 ≤ v ∧ (1 < most → v < most) ∧ (most ≤ 1 → v = 0) ∧ Src w' g a len cap ∧ w.grownBy w' (some g) := by
  by_cases h1 : most ≤ 1
  · go_enter Try.func46, Try.ntmps46
    go_wp2
    go_ret
    exact ⟨0, rfl, by omega, by omega, fun _ => rfl, hs, World.grownBy.refl _ _⟩
  obtain ⟨at_, mix, size, ⟨hrow, ha0, ha1, hx0, hx1, hz0, hz1⟩, hcode⟩ := hs
  have hlen := hcode.1
  have hcap := hcode.2.1
  unfold maxLen at hcap
  have c0 : w.cell? ⟨g, 0, none⟩ = some (.slice a len cap) := by rw [cell_of_row _ _ _ _ _ _ hrow]; rfl
  have c1 : w.cell? ⟨g, 1, none⟩ = some (.int .i64 at_) := by rw [cell_of_row _ _ _ _ _ _ hrow]; rfl
  have c2 : w.cell? ⟨g, 2, none⟩ = some (.int .u64 mix) := by rw [cell_of_row _ _ _ _ _ _ hrow]; rfl
  have f1 := frozen_row hrow 1
  have f2 := frozen_row hrow 2
  have HR := Lib.hid hrow
  clear hrow
  by_cases hat : at_ < (len : Int)
  · obtain ⟨b, o, rfl, hb, hcell⟩ := hcode.2.2 (by omega)
    obtain ⟨n, rfl⟩ := Int.eq_ofNat_of_zero_le ha0
    obtain ⟨c, hc0, hc1, hcc⟩ := hcell n (by omega)
    have HC := Lib.hid hcode
    clear hcode hcell
    go_enter Try.func46, Try.ntmps46
    go_wp2
    refine wp_region_still_lit (by kernel_rfl) (by kernel_rfl) ?_
    simp only [World.drew_eq]
    repeat still_step
    refine wpStill_nil ?_
    go_wp2
    refine wp_region_still_lit (by kernel_rfl) (by kernel_rfl) ?_
    simp only [World.drew_eq]
    repeat still_step
    refine wpStill_nil ?_
    go_wp2
    refine wp_region_still_tail 13 (by kernel_rfl) (by kernel_rfl) ?_
    simp only [List.take_succ_cons, List.take_zero, List.drop_succ_cons, List.drop_zero, World.drew_eq]
    repeat still_step
    refine wpStill_nil ?_
    go_wp2
    have lm1 := bits_lo_u64 .xor mix (IntKind.u64.wrap (mix * 8192))
    have um1 := bits_hi_u64 .xor mix (IntKind.u64.wrap (mix * 8192))
    generalize bits .xor .u64 mix (IntKind.u64.wrap (mix * 8192)) = m1 at lm1 um1 ⊢
    clear c1 c2 f2
    have rW1 : (((w.setCell ⟨g, 1, none⟩ (.int .i64 ((n : Int) + 1))).setCell ⟨g, 2, none⟩ (.int .u64 m1)).drew.drew.drew).heap[g]? = some (.cells #[.slice (some ⟨b, o, none⟩) len cap, .int .i64 ((n : Int) + 1), .int .u64 m1, .int .i64 size] 88 (0, 0)) := row_setCell (row_setCell HR.out 1 _) 2 _
    have gW1 : w.grownBy (((w.setCell ⟨g, 1, none⟩ (.int .i64 ((n : Int) + 1))).setCell ⟨g, 2, none⟩ (.int .u64 m1)).drew.drew.drew) (some g) := only_drew' (only_drew' (only_drew' (only_set (only_set (World.grownBy.refl w _) _ _) _ _)))
    generalize ((w.setCell ⟨g, 1, none⟩ (.int .i64 ((n : Int) + 1))).setCell ⟨g, 2, none⟩ (.int .u64 m1)).drew.drew.drew = W1 at rW1 gW1 ⊢
    have c1 : W1.cell? ⟨g, 1, none⟩ = some (.int .i64 ((n : Int) + 1)) := by rw [cell_of_row _ _ _ _ _ _ rW1]; rfl
    have c2 : W1.cell? ⟨g, 2, none⟩ = some (.int .u64 m1) := by rw [cell_of_row _ _ _ _ _ _ rW1]; rfl
    have f2 := frozen_row rW1 2
    have HRW1 := Lib.hid rW1
    have HGW1 := Lib.hid gW1
    clear rW1 gW1
    refine wp_region_still_tail 13 (by kernel_rfl) (by kernel_rfl) ?_
    simp only [List.take_succ_cons, List.take_zero, List.drop_succ_cons, List.drop_zero, World.drew_eq]
    repeat still_step
    refine wpStill_nil ?_
    go_wp2
    have lm2 := bits_lo_u64 .xor m1 (m1 / 128)
    have um2 := bits_hi_u64 .xor m1 (m1 / 128)
    generalize bits .xor .u64 m1 (m1 / 128) = m2 at lm2 um2 ⊢
    clear c1 c2 f2
    have rW2 : ((W1.setCell ⟨g, 2, none⟩ (.int .u64 m2)).drew).heap[g]? = some (.cells #[.slice (some ⟨b, o, none⟩) len cap, .int .i64 ((n : Int) + 1), .int .u64 m2, .int .i64 size] 88 (0, 0)) := row_setCell HRW1.out 2 _
    have gW2 : w.grownBy ((W1.setCell ⟨g, 2, none⟩ (.int .u64 m2)).drew) (some g) := only_drew' (only_set HGW1.out _ _)
    generalize (W1.setCell ⟨g, 2, none⟩ (.int .u64 m2)).drew = W2 at rW2 gW2 ⊢
    have c1 : W2.cell? ⟨g, 1, none⟩ = some (.int .i64 ((n : Int) + 1)) := by rw [cell_of_row _ _ _ _ _ _ rW2]; rfl
    have c2 : W2.cell? ⟨g, 2, none⟩ = some (.int .u64 m2) := by rw [cell_of_row _ _ _ _ _ _ rW2]; rfl
    have f2 := frozen_row rW2 2
    have HRW2 := Lib.hid rW2
    have HGW2 := Lib.hid gW2
    clear rW2 gW2
    refine wp_region_still_tail 13 (by kernel_rfl) (by kernel_rfl) ?_
    simp only [List.take_succ_cons, List.take_zero, List.drop_succ_cons, List.drop_zero, World.drew_eq]
    repeat still_step
    refine wpStill_nil ?_
    go_wp2
    have lm3 := bits_lo_u64 .xor m2 (IntKind.u64.wrap (m2 * 131072))
    have um3 := bits_hi_u64 .xor m2 (IntKind.u64.wrap (m2 * 131072))
    generalize bits .xor .u64 m2 (IntKind.u64.wrap (m2 * 131072)) = m3 at lm3 um3 ⊢
    go_ret
    exact ⟨_, rfl, (drawn_bd _ _ (wrap_u64_nonneg _) (by omega) hm).1, fun _ => (drawn_bd _ _ (wrap_u64_nonneg _) (by omega) hm).2, fun h => by omega, ⟨((n : Int) + 1), m3, size, ⟨row_setCell HRW2.out 2 _, by omega, by omega, lm3, um3, hz0, hz1⟩, HC.out.grown (only_drew' (only_set HGW2.out _ _)) (Nat.le_of_lt (row_lt HR.out))⟩, only_drew' (only_set HGW2.out _ _)⟩
  · have HC := Lib.hid hcode
    clear hcode
    go_enter Try.func46, Try.ntmps46
    go_wp2
    refine wp_region_still_lit (by kernel_rfl) (by kernel_rfl) ?_
    simp only [World.drew_eq]
    repeat still_step
    refine wpStill_nil ?_
    go_wp2
    refine wp_region_still_tail 13 (by kernel_rfl) (by kernel_rfl) ?_
    simp only [List.take_succ_cons, List.take_zero, List.drop_succ_cons, List.drop_zero, World.drew_eq]
    repeat still_step
    refine wpStill_nil ?_
    go_wp2
    have lm1 := bits_lo_u64 .xor mix (IntKind.u64.wrap (mix * 8192))
    have um1 := bits_hi_u64 .xor mix (IntKind.u64.wrap (mix * 8192))
    generalize bits .xor .u64 mix (IntKind.u64.wrap (mix * 8192)) = m1 at lm1 um1 ⊢
    clear c1 c2 f2
    have rW1 : ((w.setCell ⟨g, 2, none⟩ (.int .u64 m1)).drew.drew).heap[g]? = some (.cells #[.slice a len cap, .int .i64 at_, .int .u64 m1, .int .i64 size] 88 (0, 0)) := row_setCell HR.out 2 _
    have gW1 : w.grownBy ((w.setCell ⟨g, 2, none⟩ (.int .u64 m1)).drew.drew) (some g) := only_drew' (only_drew' (only_set (World.grownBy.refl w _) _ _))
    generalize (w.setCell ⟨g, 2, none⟩ (.int .u64 m1)).drew.drew = W1 at rW1 gW1 ⊢
    have c1 : W1.cell? ⟨g, 1, none⟩ = some (.int .i64 at_) := by rw [cell_of_row _ _ _ _ _ _ rW1]; rfl
    have c2 : W1.cell? ⟨g, 2, none⟩ = some (.int .u64 m1) := by rw [cell_of_row _ _ _ _ _ _ rW1]; rfl
    have f2 := frozen_row rW1 2
    have HRW1 := Lib.hid rW1
    have HGW1 := Lib.hid gW1
    clear rW1 gW1
    refine wp_region_still_tail 13 (by kernel_rfl) (by kernel_rfl) ?_
    simp only [List.take_succ_cons, List.take_zero, List.drop_succ_cons, List.drop_zero, World.drew_eq]
    repeat still_step
    refine wpStill_nil ?_
    go_wp2
    have lm2 := bits_lo_u64 .xor m1 (m1 / 128)
    have um2 := bits_hi_u64 .xor m1 (m1 / 128)
    generalize bits .xor .u64 m1 (m1 / 128) = m2 at lm2 um2 ⊢
    clear c1 c2 f2
    have rW2 : ((W1.setCell ⟨g, 2, none⟩ (.int .u64 m2)).drew).heap[g]? = some (.cells #[.slice a len cap, .int .i64 at_, .int .u64 m2, .int .i64 size] 88 (0, 0)) := row_setCell HRW1.out 2 _
    have gW2 : w.grownBy ((W1.setCell ⟨g, 2, none⟩ (.int .u64 m2)).drew) (some g) := only_drew' (only_set HGW1.out _ _)
    generalize (W1.setCell ⟨g, 2, none⟩ (.int .u64 m2)).drew = W2 at rW2 gW2 ⊢
    have c1 : W2.cell? ⟨g, 1, none⟩ = some (.int .i64 at_) := by rw [cell_of_row _ _ _ _ _ _ rW2]; rfl
    have c2 : W2.cell? ⟨g, 2, none⟩ = some (.int .u64 m2) := by rw [cell_of_row _ _ _ _ _ _ rW2]; rfl
    have f2 := frozen_row rW2 2
    have HRW2 := Lib.hid rW2
    have HGW2 := Lib.hid gW2
    clear rW2 gW2
    refine wp_region_still_tail 13 (by kernel_rfl) (by kernel_rfl) ?_
    simp only [List.take_succ_cons, List.take_zero, List.drop_succ_cons, List.drop_zero, World.drew_eq]
    repeat still_step
    refine wpStill_nil ?_
    go_wp2
    have lm3 := bits_lo_u64 .xor m2 (IntKind.u64.wrap (m2 * 131072))
    have um3 := bits_hi_u64 .xor m2 (IntKind.u64.wrap (m2 * 131072))
    generalize bits .xor .u64 m2 (IntKind.u64.wrap (m2 * 131072)) = m3 at lm3 um3 ⊢
    go_ret
    exact ⟨_, rfl, (drawn_bd _ _ (wrap_u64_nonneg _) (by omega) hm).1, fun _ => (drawn_bd _ _ (wrap_u64_nonneg _) (by omega) hm).2, fun h => by omega, ⟨at_, m3, size, ⟨row_setCell HRW2.out 2 _, by omega, by omega, lm3, um3, hz0, hz1⟩, HC.out.grown (only_drew' (only_set HGW2.out _ _)) (Nat.le_of_lt (row_lt HR.out))⟩, only_drew' (only_set HGW2.out _ _)⟩

theorem CodeAt.below {w w' : World} {B : Nat} {a : Option Addr} {len cap : Nat} (h : CodeAt w B a len cap) (hb : Below B w w') : CodeAt w' B a len cap := h.keep fun p hp => hb.cell (p := p) hp

set_option maxHeartbeats 1600000 in
theorem source_any (a : Option Addr) (len cap : Nat) (w : World) (hcode : CodeAt w w.heap.size a len cap) :
    Calls Try.prog 39 #[.slice a len cap] w fun e w' => e = .returned (.pointer (some ⟨w.heap.size, 0, none⟩)) ∧ Src w' w.heap.size a len cap ∧ Below w.heap.size w w' := by
  have hlen := hcode.1
  have hcap := hcode.2.1
  unfold maxLen at hcap
  have HC := Lib.hid hcode
  clear hcode
  go_enter Try.func39, Try.ntmps39
  go_wp2
  go_loopw [4] (fun i wr => ∃ (k : Nat) (mix : Int), k ≤ len ∧ i = .int .i64 k ∧ 0 ≤ mix ∧ mix ≤ 18446744073709551615 ∧
      wr.heap[w.heap.size]? = some (.cells #[.slice a len cap, .int .i64 0, .int .u64 mix, .int .i64 0] 88 (0, 0)) ∧ Below w.heap.size w wr) (fun i _ => len - (intOf i).toNat)
  case atStart => exact ⟨0, 88172645463325252, by omega, rfl, by omega, by omega, heap_alloc_new w _, (Below.refl _ _).alloc (Nat.le_refl _) _⟩
  case round =>
    obtain ⟨k, mix, hk, rfl, hm0, hm1, hrow, hbw⟩ := hrel
    have c2 : wr.cell? ⟨w.heap.size, 2, none⟩ = some (.int .u64 mix) := by rw [cell_of_row _ _ _ _ _ _ hrow]; rfl
    have f2 := frozen_row hrow 2
    have f3 := frozen_row hrow 3
    have HR := Lib.hid hrow
    have HB := Lib.hid hbw
    by_cases hin : k < len ∧ k < 64
    · obtain ⟨b, o, rfl, hb, hcell⟩ := (HC.out.below hbw).2.2 (by omega)
      obtain ⟨c, hc0, hc1, hcc⟩ := hcell k (by omega)
      have hd1 : decide (k < len) = true := by simpa using hin.1
      have hd2 : decide ((k : Int) < 64) = true := by simp; omega
      have hkl : k < len := hin.1
      clear hrow hbw hcell hin
      go_wp2
      refine wp_region_still_tail 14 (by kernel_rfl) (by kernel_rfl) ?_
      simp only [List.take_succ_cons, List.take_zero, List.drop_succ_cons, List.drop_zero, World.drew_eq]
      repeat still_step
      refine wpStill_nil ?_
      go_wp2
      go_roundw
      case rel => exact ⟨k + 1, _, by omega, by go_num, wrap_u64_nonneg _, wrap_u64_le _, row_setCell HR.out 2 _, (HB.out.setCell (p := ⟨w.heap.size, 2, none⟩) (Nat.le_refl _) _).drew⟩
      case measure => simp [intOf]; omega
    · have c3 : wr.cell? ⟨w.heap.size, 3, none⟩ = some (.int .i64 0) := by rw [cell_of_row _ _ _ _ _ _ hrow]; rfl
      have hq0 : 0 ≤ (len : Int) / 20 := by omega
      have hdd : (decide (k < len) = false) ∨ (decide (k < len) = true ∧ decide ((k : Int) < 64) = false) := by
        by_cases h : k < len
        · right; exact ⟨by simpa using h, by simp; omega⟩
        · left; simpa using h
      clear hrow hbw hin
      by_cases h12 : 12 < (len : Int) / 20
      · have hd12 : decide (12 < (len : Int) / 20) = true := by simpa using h12
        rcases hdd with hd | ⟨hd, hd2⟩
        all_goals
          go_wp2
          go_ret
          exact ⟨rfl, ⟨0, mix, 12, ⟨row_setCell (row_setCell HR.out 3 _) 3 _, by omega, by omega, hm0, hm1, by omega, by omega⟩, (HC.out.below HB.out).below (((Below.refl _ _).setCell (p := ⟨w.heap.size, 3, none⟩) (Nat.le_refl _) _).setCell (p := ⟨w.heap.size, 3, none⟩) (Nat.le_refl _) _)⟩, (HB.out.setCell (p := ⟨w.heap.size, 3, none⟩) (Nat.le_refl _) _).setCell (p := ⟨w.heap.size, 3, none⟩) (Nat.le_refl _) _⟩
      · have hd12 : decide (12 < (len : Int) / 20) = false := by simpa using h12
        rcases hdd with hd | ⟨hd, hd2⟩
        all_goals
          go_wp2
          go_ret
          exact ⟨rfl, ⟨0, mix, (len : Int) / 20, ⟨row_setCell HR.out 3 _, by omega, by omega, hm0, hm1, by omega, by omega⟩, (HC.out.below HB.out).below ((Below.refl _ _).setCell (p := ⟨w.heap.size, 3, none⟩) (Nat.le_refl _) _)⟩, HB.out.setCell (p := ⟨w.heap.size, 3, none⟩) (Nat.le_refl _) _⟩

/-- What a call on the source leaves: an answer, the source again, and of what was there only the source's block turned. -/
def AfterSrc (g : Nat) (a : Option Addr) (len cap : Nat) (w w' : World) : Prop := Src w' g a len cap ∧ w.grownBy w' (some g)

set_option maxHeartbeats 400000 in
theorem srcOne_any (g : Nat) (a : Option Addr) (len cap : Nat) (of_ : Int) (w : World) (hs : Src w g a len cap) (hm0 : -9223372036854775808 ≤ of_) (hm : of_ ≤ 9223372036854775807) :
    Calls Try.prog 45 #[.pointer (some ⟨g, 0, none⟩), .int .i64 of_] w fun e w' => ∃ b : Bool, e = .returned (.bool b) ∧ AfterSrc g a len cap w w' := by
  go_enter Try.func45, Try.ntmps45
  go_wp2_with (go_at_call 46; refine (srcN_any g a len cap of_ _ hs hm0 hm).mono ?_; rintro e w1 ⟨v, rfl, hv0, hv1, hv2, hs1, hg1⟩)
  go_ret
  exact ⟨_, rfl, hs1, hg1⟩

end Go.Proofs.Ytgcfnmaojdnchaa

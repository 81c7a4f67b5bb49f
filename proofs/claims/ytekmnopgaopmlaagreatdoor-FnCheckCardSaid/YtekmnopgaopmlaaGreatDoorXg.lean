/- Texts of one proof, put together: Sr Dr Dh Ya Yb Yc Yd Di Dj Dk Dl Ca. -/
import Derived.Test.YtekmnopgaopmlaaGreatDoorXa
import Derived.Test.YtekmnopgaopmlaaGreatDoorXe
import Derived.StillTailTactics
import Derived.Deep.Draws
import Derived.Deep.RegionLaw
import Derived.ArgAppend
import Derived.Deep.DeepCutAuto
import Derived.Deep.CutRange
import Derived.Deep.QuietTactic
import Derived.BigQuiet

/- Walks: the draws' source (a struct behind a pointer, over the code that came in): what it answers is within bounds; it writes into its own block alone. -/
set_option maxRecDepth 100000
namespace Go.Proofs.YtekmnopgaopmlaaGreatDoor
open Go.RowKit

/-- The code that came in: its bytes lie below block B. -/
def CodeAt (w : World) (B : Nat) (a : Option Addr) (len cap : Nat) : Prop :=
  len ≤ cap ∧ cap ≤ maxLen ∧ (0 < len → ∃ b o, a = some ⟨b, o, none⟩ ∧ b < B ∧ ∀ i, i < len → ∃ c : Int, 0 ≤ c ∧ c ≤ 255 ∧ w.cell? ⟨b, o + i, none⟩ = some (.int .u8 c))
/-- The source: its block, what it holds. -/
def SrcAt (w : World) (g : Nat) (a : Option Addr) (len cap : Nat) (at_ mix size : Int) : Prop :=
  w.heap[g]? = some (.cells #[.slice a len cap, .int .i64 at_, .int .u64 mix, .int .i64 size] 105 (0, 0)) ∧ 0 ≤ at_ ∧ at_ ≤ (len : Int) ∧ 0 ≤ mix ∧ mix ≤ 18446744073709551615 ∧ 0 ≤ size ∧ size ≤ 12
def Src (w : World) (g : Nat) (a : Option Addr) (len cap : Nat) : Prop := ∃ at_ mix size, SrcAt w g a len cap at_ mix size ∧ CodeAt w g a len cap

theorem CodeAt.keep {w w' : World} {B : Nat} {a : Option Addr} {len cap : Nat} (h : CodeAt w B a len cap) (hk : ∀ p : Addr, p.block < B → w'.cell? p = w.cell? p) : CodeAt w' B a len cap := by
  refine ⟨h.1, h.2.1, fun h0 => ?_⟩
  obtain ⟨b, o, rfl, hb, hc⟩ := h.2.2 h0
  exact ⟨b, o, rfl, hb, fun i hi => by
    obtain ⟨c, c0, c1, hcc⟩ := hc i hi
    exact ⟨c, c0, c1, (hk _ hb).trans hcc⟩⟩
theorem CodeAt.grown {w w' : World} {g : Nat} {a : Option Addr} {len cap : Nat} (h : CodeAt w g a len cap) (hg : w.grownBy w' (some g)) (hl : g ≤ w.heap.size) : CodeAt w' g a len cap :=
  h.keep fun p hp => World.cell?_of_block (hg.block p.block (by omega) (fun e => by injection e with e; omega))

theorem row_setCell {w : World} {g : Nat} {cs : Array Value} {T : TypeId} (h : w.heap[g]? = some (.cells cs T (0, 0))) (i : Nat) (v : Value) : (w.setCell ⟨g, i, none⟩ v).heap[g]? = some (.cells (cs.setIfInBounds i v) T (0, 0)) := by
  simp [World.setCell, Array.getElem?_modify, h]
theorem row_lt {w : World} {g : Nat} {o : Obj} (h : w.heap[g]? = some o) : g < w.heap.size := by
  rcases Nat.lt_or_ge g w.heap.size with hl | hl
  · exact hl
  · rw [Array.getElem?_eq_none hl] at h; cases h

theorem only_drew' {w W : World} {g : Nat} (h : w.grownBy W (some g)) : w.grownBy W.drew (some g) := ⟨h.os, h.tape, h.output, h.size, h.block⟩
theorem only_set {w W : World} {g : Nat} (h : w.grownBy W (some g)) (i : Nat) (v : Value) : w.grownBy (W.setCell ⟨g, i, none⟩ v) (some g) :=
  ⟨h.os, h.tape, h.output, by simpa [World.setCell] using h.size, fun k hk hne => (Below.heap_setCell W ⟨g, i, none⟩ v k (fun e => hne (by rw [e]))).trans (h.block k hk hne)⟩

theorem drawn_bd (x most : Int) (h0 : 0 ≤ x) (h1 : 1 < most) (h2 : most ≤ 9223372036854775807) : 0 ≤ wrap64 (x.tmod most) ∧ wrap64 (x.tmod most) < most := by
  rw [Int.tmod_eq_emod_of_nonneg h0]
  have a := Int.emod_nonneg x (show most ≠ 0 by omega)
  have b := Int.emod_lt_of_pos x (show 0 < most by omega)
  rw [IntWalk.wrap64_in _ ⟨by omega, by omega⟩]
  exact ⟨a, b⟩
theorem wrap_u64_le (x : Int) : IntKind.u64.wrap x ≤ 18446744073709551615 := by rw [IntKind.wrap_u64]; omega
theorem wrap_u64_nonneg (x : Int) : 0 ≤ IntKind.u64.wrap x := by rw [IntKind.wrap_u64]; omega

set_option maxHeartbeats 1600000 in
theorem srcN_any (g : Nat) (a : Option Addr) (len cap : Nat) (most : Int) (w : World) (hs : Src w g a len cap) (hm0 : -9223372036854775808 ≤ most) (hm : most ≤ 9223372036854775807) :
    Calls Tryz.prog 29 #[.pointer (some ⟨g, 0, none⟩), .int .i64 most] w fun e w' =>
      ∃ v : Int, e = .returned (.int .i64 v) ∧ 0 ≤ v ∧ (1 < most → v < most) ∧ (most ≤ 1 → v = 0) ∧ Src w' g a len cap ∧ w.grownBy w' (some g) := by
  by_cases h1 : most ≤ 1
  · go_enter Tryz.func29, Tryz.ntmps29
    go_wp2
    go_ret
    exact ⟨0, rfl, by omega, by omega, fun _ => rfl, hs, World.grownBy.refl _ _⟩
  obtain ⟨at_, mix, size, ⟨hrow, ha0, ha1, hx0, hx1, hz0, hz1⟩, hcode⟩ := hs
  have hlen := hcode.1
  have hcap := hcode.2.1
  unfold maxLen at hcap
  have c0 : w.cell? ⟨g, 0, none⟩ = some (.slice a len cap) := by rw [cell_of_row _ _ _ _ _ _ hrow]; rfl
  have c1 : w.cell? ⟨g, 1, none⟩ = some (.int .i64 at_) := by rw [cell_of_row _ _ _ _ _ _ hrow]; rfl
  have c2 : w.cell? ⟨g, 2, none⟩ = some (.int .u64 mix) := by rw [cell_of_row _ _ _ _ _ _ hrow]; rfl
  have f1 := frozen_row hrow 1
  have f2 := frozen_row hrow 2
  have HR := Lib.hid hrow
  clear hrow
  by_cases hat : at_ < (len : Int)
  · obtain ⟨b, o, rfl, hb, hcell⟩ := hcode.2.2 (by omega)
    obtain ⟨n, rfl⟩ := Int.eq_ofNat_of_zero_le ha0
    obtain ⟨c, hc0, hc1, hcc⟩ := hcell n (by omega)
    have HC := Lib.hid hcode
    clear hcode hcell
    go_enter Tryz.func29, Tryz.ntmps29
    go_wp2
    refine wp_region_still_lit (by kernel_rfl) (by kernel_rfl) ?_
    simp only [World.drew_eq]
    repeat still_step
    refine wpStill_nil ?_
    go_wp2
    refine wp_region_still_lit (by kernel_rfl) (by kernel_rfl) ?_
    simp only [World.drew_eq]
    repeat still_step
    refine wpStill_nil ?_
    go_wp2
    refine wp_region_still_tail 13 (by kernel_rfl) (by kernel_rfl) ?_
    simp only [List.take_succ_cons, List.take_zero, List.drop_succ_cons, List.drop_zero, World.drew_eq]
    repeat still_step
    refine wpStill_nil ?_
    go_wp2
    have lm1 := bits_lo_u64 .xor mix (IntKind.u64.wrap (mix * 8192))
    have um1 := bits_hi_u64 .xor mix (IntKind.u64.wrap (mix * 8192))
    generalize bits .xor .u64 mix (IntKind.u64.wrap (mix * 8192)) = m1 at lm1 um1 ⊢
    clear c1 c2 f2
    have rW1 : (((w.setCell ⟨g, 1, none⟩ (.int .i64 ((n : Int) + 1))).setCell ⟨g, 2, none⟩ (.int .u64 m1)).drew.drew.drew).heap[g]? = some (.cells #[.slice (some ⟨b, o, none⟩) len cap, .int .i64 ((n : Int) + 1), .int .u64 m1, .int .i64 size] 105 (0, 0)) := row_setCell (row_setCell HR.out 1 _) 2 _
    have gW1 : w.grownBy (((w.setCell ⟨g, 1, none⟩ (.int .i64 ((n : Int) + 1))).setCell ⟨g, 2, none⟩ (.int .u64 m1)).drew.drew.drew) (some g) := only_drew' (only_drew' (only_drew' (only_set (only_set (World.grownBy.refl w _) _ _) _ _)))
    generalize ((w.setCell ⟨g, 1, none⟩ (.int .i64 ((n : Int) + 1))).setCell ⟨g, 2, none⟩ (.int .u64 m1)).drew.drew.drew = W1 at rW1 gW1 ⊢
    have c1 : W1.cell? ⟨g, 1, none⟩ = some (.int .i64 ((n : Int) + 1)) := by rw [cell_of_row _ _ _ _ _ _ rW1]; rfl
    have c2 : W1.cell? ⟨g, 2, none⟩ = some (.int .u64 m1) := by rw [cell_of_row _ _ _ _ _ _ rW1]; rfl
    have f2 := frozen_row rW1 2
    have HRW1 := Lib.hid rW1
    have HGW1 := Lib.hid gW1
    clear rW1 gW1
    refine wp_region_still_tail 13 (by kernel_rfl) (by kernel_rfl) ?_
    simp only [List.take_succ_cons, List.take_zero, List.drop_succ_cons, List.drop_zero, World.drew_eq]
    repeat still_step
    refine wpStill_nil ?_
    go_wp2
    have lm2 := bits_lo_u64 .xor m1 (m1 / 128)
    have um2 := bits_hi_u64 .xor m1 (m1 / 128)
    generalize bits .xor .u64 m1 (m1 / 128) = m2 at lm2 um2 ⊢
    clear c1 c2 f2
    have rW2 : ((W1.setCell ⟨g, 2, none⟩ (.int .u64 m2)).drew).heap[g]? = some (.cells #[.slice (some ⟨b, o, none⟩) len cap, .int .i64 ((n : Int) + 1), .int .u64 m2, .int .i64 size] 105 (0, 0)) := row_setCell HRW1.out 2 _
    have gW2 : w.grownBy ((W1.setCell ⟨g, 2, none⟩ (.int .u64 m2)).drew) (some g) := only_drew' (only_set HGW1.out _ _)
    generalize (W1.setCell ⟨g, 2, none⟩ (.int .u64 m2)).drew = W2 at rW2 gW2 ⊢
    have c1 : W2.cell? ⟨g, 1, none⟩ = some (.int .i64 ((n : Int) + 1)) := by rw [cell_of_row _ _ _ _ _ _ rW2]; rfl
    have c2 : W2.cell? ⟨g, 2, none⟩ = some (.int .u64 m2) := by rw [cell_of_row _ _ _ _ _ _ rW2]; rfl
    have f2 := frozen_row rW2 2
    have HRW2 := Lib.hid rW2
    have HGW2 := Lib.hid gW2
    clear rW2 gW2
    refine wp_region_still_tail 13 (by kernel_rfl) (by kernel_rfl) ?_
    simp only [List.take_succ_cons, List.take_zero, List.drop_succ_cons, List.drop_zero, World.drew_eq]
    repeat still_step
    refine wpStill_nil ?_
    go_wp2
    have lm3 := bits_lo_u64 .xor m2 (IntKind.u64.wrap (m2 * 131072))
    have um3 := bits_hi_u64 .xor m2 (IntKind.u64.wrap (m2 * 131072))
    generalize bits .xor .u64 m2 (IntKind.u64.wrap (m2 * 131072)) = m3 at lm3 um3 ⊢
    go_ret
    exact ⟨_, rfl, (drawn_bd _ _ (wrap_u64_nonneg _) (by omega) hm).1, fun _ => (drawn_bd _ _ (wrap_u64_nonneg _) (by omega) hm).2, fun h => by omega, ⟨((n : Int) + 1), m3, size, ⟨row_setCell HRW2.out 2 _, by omega, by omega, lm3, um3, hz0, hz1⟩, HC.out.grown (only_drew' (only_set HGW2.out _ _)) (Nat.le_of_lt (row_lt HR.out))⟩, only_drew' (only_set HGW2.out _ _)⟩
  · have HC := Lib.hid hcode
    clear hcode
    go_enter Tryz.func29, Tryz.ntmps29
    go_wp2
    refine wp_region_still_lit (by kernel_rfl) (by kernel_rfl) ?_
    simp only [World.drew_eq]
    repeat still_step
    refine wpStill_nil ?_
    go_wp2
    refine wp_region_still_tail 13 (by kernel_rfl) (by kernel_rfl) ?_
    simp only [List.take_succ_cons, List.take_zero, List.drop_succ_cons, List.drop_zero, World.drew_eq]
    repeat still_step
    refine wpStill_nil ?_
    go_wp2
    have lm1 := bits_lo_u64 .xor mix (IntKind.u64.wrap (mix * 8192))
    have um1 := bits_hi_u64 .xor mix (IntKind.u64.wrap (mix * 8192))
    generalize bits .xor .u64 mix (IntKind.u64.wrap (mix * 8192)) = m1 at lm1 um1 ⊢
    clear c1 c2 f2
    have rW1 : ((w.setCell ⟨g, 2, none⟩ (.int .u64 m1)).drew.drew).heap[g]? = some (.cells #[.slice a len cap, .int .i64 at_, .int .u64 m1, .int .i64 size] 105 (0, 0)) := row_setCell HR.out 2 _
    have gW1 : w.grownBy ((w.setCell ⟨g, 2, none⟩ (.int .u64 m1)).drew.drew) (some g) := only_drew' (only_drew' (only_set (World.grownBy.refl w _) _ _))
    generalize (w.setCell ⟨g, 2, none⟩ (.int .u64 m1)).drew.drew = W1 at rW1 gW1 ⊢
    have c1 : W1.cell? ⟨g, 1, none⟩ = some (.int .i64 at_) := by rw [cell_of_row _ _ _ _ _ _ rW1]; rfl
    have c2 : W1.cell? ⟨g, 2, none⟩ = some (.int .u64 m1) := by rw [cell_of_row _ _ _ _ _ _ rW1]; rfl
    have f2 := frozen_row rW1 2
    have HRW1 := Lib.hid rW1
    have HGW1 := Lib.hid gW1
    clear rW1 gW1
    refine wp_region_still_tail 13 (by kernel_rfl) (by kernel_rfl) ?_
    simp only [List.take_succ_cons, List.take_zero, List.drop_succ_cons, List.drop_zero, World.drew_eq]
    repeat still_step
    refine wpStill_nil ?_
    go_wp2
    have lm2 := bits_lo_u64 .xor m1 (m1 / 128)
    have um2 := bits_hi_u64 .xor m1 (m1 / 128)
    generalize bits .xor .u64 m1 (m1 / 128) = m2 at lm2 um2 ⊢
    clear c1 c2 f2
    have rW2 : ((W1.setCell ⟨g, 2, none⟩ (.int .u64 m2)).drew).heap[g]? = some (.cells #[.slice a len cap, .int .i64 at_, .int .u64 m2, .int .i64 size] 105 (0, 0)) := row_setCell HRW1.out 2 _
    have gW2 : w.grownBy ((W1.setCell ⟨g, 2, none⟩ (.int .u64 m2)).drew) (some g) := only_drew' (only_set HGW1.out _ _)
    generalize (W1.setCell ⟨g, 2, none⟩ (.int .u64 m2)).drew = W2 at rW2 gW2 ⊢
    have c1 : W2.cell? ⟨g, 1, none⟩ = some (.int .i64 at_) := by rw [cell_of_row _ _ _ _ _ _ rW2]; rfl
    have c2 : W2.cell? ⟨g, 2, none⟩ = some (.int .u64 m2) := by rw [cell_of_row _ _ _ _ _ _ rW2]; rfl
    have f2 := frozen_row rW2 2
    have HRW2 := Lib.hid rW2
    have HGW2 := Lib.hid gW2
    clear rW2 gW2
    refine wp_region_still_tail 13 (by kernel_rfl) (by kernel_rfl) ?_
    simp only [List.take_succ_cons, List.take_zero, List.drop_succ_cons, List.drop_zero, World.drew_eq]
    repeat still_step
    refine wpStill_nil ?_
    go_wp2
    have lm3 := bits_lo_u64 .xor m2 (IntKind.u64.wrap (m2 * 131072))
    have um3 := bits_hi_u64 .xor m2 (IntKind.u64.wrap (m2 * 131072))
    generalize bits .xor .u64 m2 (IntKind.u64.wrap (m2 * 131072)) = m3 at lm3 um3 ⊢
    go_ret
    exact ⟨_, rfl, (drawn_bd _ _ (wrap_u64_nonneg _) (by omega) hm).1, fun _ => (drawn_bd _ _ (wrap_u64_nonneg _) (by omega) hm).2, fun h => by omega, ⟨at_, m3, size, ⟨row_setCell HRW2.out 2 _, by omega, by omega, lm3, um3, hz0, hz1⟩, HC.out.grown (only_drew' (only_set HGW2.out _ _)) (Nat.le_of_lt (row_lt HR.out))⟩, only_drew' (only_set HGW2.out _ _)⟩

theorem CodeAt.below {w w' : World} {B : Nat} {a : Option Addr} {len cap : Nat} (h : CodeAt w B a len cap) (hb : Below B w w') : CodeAt w' B a len cap := h.keep fun p hp => hb.cell (p := p) hp

set_option maxHeartbeats 1600000 in
theorem source_any (a : Option Addr) (len cap : Nat) (w : World) (hcode : CodeAt w w.heap.size a len cap) :
    Calls Tryz.prog 28 #[.slice a len cap] w fun e w' => e = .returned (.pointer (some ⟨w.heap.size, 0, none⟩)) ∧ Src w' w.heap.size a len cap ∧ Below w.heap.size w w' := by
  have hlen := hcode.1
  have hcap := hcode.2.1
  unfold maxLen at hcap
  have HC := Lib.hid hcode
  clear hcode
  go_enter Tryz.func28, Tryz.ntmps28
  go_wp2
  go_loopw [4] (fun i wr => ∃ (k : Nat) (mix : Int), k ≤ len ∧ i = .int .i64 k ∧ 0 ≤ mix ∧ mix ≤ 18446744073709551615 ∧
      wr.heap[w.heap.size]? = some (.cells #[.slice a len cap, .int .i64 0, .int .u64 mix, .int .i64 0] 105 (0, 0)) ∧ Below w.heap.size w wr) (fun i _ => len - (intOf i).toNat)
  case atStart => exact ⟨0, 88172645463325252, by omega, rfl, by omega, by omega, heap_alloc_new w _, (Below.refl _ _).alloc (Nat.le_refl _) _⟩
  case round =>
    obtain ⟨k, mix, hk, rfl, hm0, hm1, hrow, hbw⟩ := hrel
    have c2 : wr.cell? ⟨w.heap.size, 2, none⟩ = some (.int .u64 mix) := by rw [cell_of_row _ _ _ _ _ _ hrow]; rfl
    have f2 := frozen_row hrow 2
    have f3 := frozen_row hrow 3
    have HR := Lib.hid hrow
    have HB := Lib.hid hbw
    by_cases hin : k < len ∧ k < 64
    · obtain ⟨b, o, rfl, hb, hcell⟩ := (HC.out.below hbw).2.2 (by omega)
      obtain ⟨c, hc0, hc1, hcc⟩ := hcell k (by omega)
      have hd1 : decide (k < len) = true := by simpa using hin.1
      have hd2 : decide ((k : Int) < 64) = true := by simp; omega
      have hkl : k < len := hin.1
      clear hrow hbw hcell hin
      go_wp2
      refine wp_region_still_tail 14 (by kernel_rfl) (by kernel_rfl) ?_
      simp only [List.take_succ_cons, List.take_zero, List.drop_succ_cons, List.drop_zero, World.drew_eq]
      repeat still_step
      refine wpStill_nil ?_
      go_wp2
      go_roundw
      case rel => exact ⟨k + 1, _, by omega, by go_num, wrap_u64_nonneg _, wrap_u64_le _, row_setCell HR.out 2 _, (HB.out.setCell (p := ⟨w.heap.size, 2, none⟩) (Nat.le_refl _) _).drew⟩
      case measure => simp [intOf]; omega
    · have c3 : wr.cell? ⟨w.heap.size, 3, none⟩ = some (.int .i64 0) := by rw [cell_of_row _ _ _ _ _ _ hrow]; rfl
      have hq0 : 0 ≤ (len : Int) / 20 := by omega
      have hdd : (decide (k < len) = false) ∨ (decide (k < len) = true ∧ decide ((k : Int) < 64) = false) := by
        by_cases h : k < len
        · right; exact ⟨by simpa using h, by simp; omega⟩
        · left; simpa using h
      clear hrow hbw hin
      by_cases h12 : 12 < (len : Int) / 20
      · have hd12 : decide (12 < (len : Int) / 20) = true := by simpa using h12
        rcases hdd with hd | ⟨hd, hd2⟩
        all_goals
          go_wp2
          go_ret
          exact ⟨rfl, ⟨0, mix, 12, ⟨row_setCell (row_setCell HR.out 3 _) 3 _, by omega, by omega, hm0, hm1, by omega, by omega⟩, (HC.out.below HB.out).below (((Below.refl _ _).setCell (p := ⟨w.heap.size, 3, none⟩) (Nat.le_refl _) _).setCell (p := ⟨w.heap.size, 3, none⟩) (Nat.le_refl _) _)⟩, (HB.out.setCell (p := ⟨w.heap.size, 3, none⟩) (Nat.le_refl _) _).setCell (p := ⟨w.heap.size, 3, none⟩) (Nat.le_refl _) _⟩
      · have hd12 : decide (12 < (len : Int) / 20) = false := by simpa using h12
        rcases hdd with hd | ⟨hd, hd2⟩
        all_goals
          go_wp2
          go_ret
          exact ⟨rfl, ⟨0, mix, (len : Int) / 20, ⟨row_setCell HR.out 3 _, by omega, by omega, hm0, hm1, by omega, by omega⟩, (HC.out.below HB.out).below ((Below.refl _ _).setCell (p := ⟨w.heap.size, 3, none⟩) (Nat.le_refl _) _)⟩, HB.out.setCell (p := ⟨w.heap.size, 3, none⟩) (Nat.le_refl _) _⟩

/-- What a call on the source leaves: an answer, the source again, and of what was there only the source's block turned. -/
def AfterSrc (g : Nat) (a : Option Addr) (len cap : Nat) (w w' : World) : Prop := Src w' g a len cap ∧ w.grownBy w' (some g)

set_option maxHeartbeats 400000 in
theorem srcOne_any (g : Nat) (a : Option Addr) (len cap : Nat) (of_ : Int) (w : World) (hs : Src w g a len cap) (hm0 : -9223372036854775808 ≤ of_) (hm : of_ ≤ 9223372036854775807) :
    Calls Tryz.prog 42 #[.pointer (some ⟨g, 0, none⟩), .int .i64 of_] w fun e w' => ∃ b : Bool, e = .returned (.bool b) ∧ AfterSrc g a len cap w w' := by
  go_enter Tryz.func42, Tryz.ntmps42
  go_wp2_with (go_at_call 29; refine (srcN_any g a len cap of_ _ hs hm0 hm).mono ?_; rintro e w1 ⟨v, rfl, hv0, hv1, hv2, hs1, hg1⟩)
  go_ret
  exact ⟨_, rfl, hs1, hg1⟩

end Go.Proofs.YtekmnopgaopmlaaGreatDoor

/- Walks: the draws on the source: edge, bytes, l01Any: what they answer is within bounds. -/
set_option maxRecDepth 100000
namespace Go.Proofs.YtekmnopgaopmlaaGreatDoor
open Go.RowKit

theorem Src.lt {w : World} {g : Nat} {a : Option Addr} {len cap : Nat} (h : Src w g a len cap) : g < w.heap.size := by
  obtain ⟨_, _, _, ⟨hr, _⟩, _⟩ := h
  exact row_lt hr
/-- The source is kept where its block and the code's are. -/
theorem Src.keep {w w' : World} {g : Nat} {a : Option Addr} {len cap : Nat} (h : Src w g a len cap) (hk : ∀ k, k ≤ g → w'.heap[k]? = w.heap[k]?) : Src w' g a len cap := by
  obtain ⟨x, m, s, ⟨hr, hb⟩, hc⟩ := h
  exact ⟨x, m, s, ⟨(hk g (Nat.le_refl _)).trans hr, hb⟩, hc.keep fun p hp => World.cell?_of_block (hk p.block (by omega))⟩
theorem Src.below {w w' : World} {g B : Nat} {a : Option Addr} {len cap : Nat} (h : Src w g a len cap) (hb : Below B w w') (hB : g < B) : Src w' g a len cap :=
  h.keep fun k hk => hb.block k (by omega)
theorem AfterSrc.trans {g : Nat} {a : Option Addr} {len cap : Nat} {w w1 w2 : World} (h : AfterSrc g a len cap w w1) (h2 : AfterSrc g a len cap w1 w2) : AfterSrc g a len cap w w2 :=
  ⟨h2.1, ⟨h2.2.os.trans h.2.os, h2.2.tape.trans h.2.tape, h2.2.output.trans h.2.output, Nat.le_trans h.2.size h2.2.size, fun k hk hne => (h2.2.block k (Nat.lt_of_lt_of_le hk h.2.size) hne).trans (h.2.block k hk hne)⟩⟩
theorem src_grown_of_below {w w' : World} (h : Below w.heap.size w w') (row : Option Nat) : w.grownBy w' row := ⟨h.os, h.tape, h.output, h.size, fun k hk _ => h.block k hk⟩
theorem AfterSrc.of_below {g : Nat} {a : Option Addr} {len cap : Nat} {w w' : World} (h : Src w g a len cap) (hb : Below w.heap.size w w') : AfterSrc g a len cap w w' :=
  ⟨h.below hb h.lt, src_grown_of_below hb _⟩

theorem AfterSrc.own {g : Nat} {a : Option Addr} {len cap : Nat} {w w1 w2 : World} {v : Value} {bs : List UInt8} (h : AfterSrc g a len cap w w1) (hgl : g < w.heap.size) (hown : OwnB w.heap.size w1 v bs) (hg : w1.grownBy w2 v.ownBlock) :
    AfterSrc g a len cap w w2 := by
  have hne : ∀ q, q < w.heap.size → some q ≠ v.ownBlock := fun q hq e => by have := (hown.lt q e.symm).1; omega
  have hs := h.2.size
  exact ⟨h.1.keep fun q hq => hg.block q (by omega) (hne q (by omega)), ⟨hg.os.trans h.2.os, hg.tape.trans h.2.tape, hg.output.trans h.2.output, Nat.le_trans hs hg.size,
    fun q hq hn => (hg.block q (by omega) (hne q hq)).trans (h.2.block q hq hn)⟩⟩

end Go.Proofs.YtekmnopgaopmlaaGreatDoor

/- Draws of words and records walked: what they answer is within bounds. -/
set_option maxRecDepth 100000
set_option linter.unusedSimpArgs false
namespace Go.Proofs.YtekmnopgaopmlaaGreatDoor
open Go.RowKit
attribute [local go_sem ↓] Go.wp_at_zero Go.wp_at_succ

def halfList : List Int := [0, 0, 1, 2, 5, 7, 4294967295, 2147483648, 256]
theorem half_cell (i : Nat) (h : i < 9) : ∃ x : Int, (halfList.map (Value.int .i64)).toArray[i]? = some (.int .i64 x) ∧ 0 ≤ x ∧ x ≤ 4294967295 := by
  rcases (by omega : i = 0 ∨ i = 1 ∨ i = 2 ∨ i = 3 ∨ i = 4 ∨ i = 5 ∨ i = 6 ∨ i = 7 ∨ i = 8) with rfl | rfl | rfl | rfl | rfl | rfl | rfl | rfl | rfl
  all_goals exact ⟨_, rfl, by decide, by decide⟩

set_option maxHeartbeats 800000 in
theorem srcHalf_any (g : Nat) (a : Option Addr) (len cap : Nat) (w : World) (hs : Src w g a len cap) :
    Calls Tryz.prog 75 #[.pointer (some ⟨g, 0, none⟩)] w fun e w' => ∃ x : Int, e = .returned (.int .i64 x) ∧ 0 ≤ x ∧ x ≤ 4294967295 ∧ AfterSrc g a len cap w w' := by
  have hgl := hs.lt
  have hb0 : Below w.heap.size w (w.alloc (.cells (halfList.map (Value.int .i64)).toArray 2)) := (Below.refl _ w).alloc (Nat.le_refl _) _
  have hcall := srcN_any g a len cap 9 (w.alloc (.cells (halfList.map (Value.int .i64)).toArray 2)) (hs.below hb0 hgl) (by omega) (by omega)
  have HC := Lib.hid hcall
  clear hcall
  go_enter Tryz.func75, Tryz.ntmps75
  go_wp2_with fail
  refine HC.out.mono ?_
  rintro e w1 ⟨v, rfl, hv0, hv1, _, hs1, hg1⟩
  obtain ⟨i, rfl⟩ := Int.eq_ofNat_of_zero_le hv0
  have hi : i < 9 := by have := hv1 (by omega); omega
  obtain ⟨x, hx, hx0, hx1⟩ := half_cell i hi
  have hrow : w1.heap[w.heap.size]? = some (.cells (halfList.map (Value.int .i64)).toArray 2 (0, 0)) := (hg1.block _ (by simp) (fun e => by injection e with e; omega)).trans (heap_alloc_new w _)
  have hc : w1.cell? ⟨w.heap.size, i, none⟩ = some (.int .i64 x) := by rw [cell_of_row _ _ _ _ _ _ hrow]; exact hx
  have hi' : (i : Int) < 9 := by omega
  have HA : Hid (AfterSrc g a len cap w w1) := (AfterSrc.of_below hs hb0).trans ⟨hs1, hg1⟩
  clear hrow hx hv1 hv0 hs1 hg1 HC hb0
  go_wp2
  go_ret
  exact ⟨x, rfl, hx0, hx1, HA.out⟩

theorem AfterSrc.more {g : Nat} {a : Option Addr} {len cap : Nat} {w W : World} (h : AfterSrc g a len cap w W) (o : Obj) : AfterSrc g a len cap w (W.alloc o) := h.trans (AfterSrc.of_below h.1 ((Below.refl _ _).alloc (Nat.le_refl _) _))
theorem AfterSrc.put {g : Nat} {a : Option Addr} {len cap : Nat} {w W : World} (h : AfterSrc g a len cap w W) (hg : g < w.heap.size) {p : Addr} (hp : w.heap.size ≤ p.block) (v : Value) : AfterSrc g a len cap w (W.setCell p v) :=
  ⟨h.1.keep fun k hk => Below.heap_setCell W p v k (by omega), ⟨h.2.os, h.2.tape, h.2.output, by simpa [World.setCell] using h.2.size, fun k hk hne => (Below.heap_setCell W p v k (by omega)).trans (h.2.block k hk hne)⟩⟩
theorem AfterSrc.row {g : Nat} {a : Option Addr} {len cap : Nat} {w W : World} (h : AfterSrc g a len cap w W) {k : Nat} {o : Obj} (hr : w.heap[k]? = some o) (hne : k ≠ g) : W.heap[k]? = some o :=
  (h.2.block k (row_here hr) (fun e => hne (by injection e))).trans hr
theorem AfterSrc.lt {g : Nat} {a : Option Addr} {len cap : Nat} {w W : World} (h : AfterSrc g a len cap w W) : w.heap.size ≤ W.heap.size := h.2.size
theorem AfterSrc.below {g : Nat} {a : Option Addr} {len cap : Nat} {w W : World} (h : AfterSrc g a len cap w W) {B : Nat} (hB : B ≤ g) (hg : B ≤ w.heap.size) : Below B w W :=
  ⟨h.2.os, h.2.tape, h.2.output, h.2.size, fun k hk => h.2.block k (by omega) (fun e => by injection e with e; omega)⟩

set_option maxHeartbeats 800000 in
theorem srcWord_any (g : Nat) (a : Option Addr) (len cap : Nat) (w : World) (hs : Src w g a len cap) :
    Calls Tryz.prog 74 #[.pointer (some ⟨g, 0, none⟩)] w fun e w' => ∃ h l : Int, e = .returned (.agg #[.int .i64 h, .int .i64 l]) ∧ wdRight ⟨h, l⟩ = true ∧ AfterSrc g a len cap w w' := by
  have hgl := hs.lt
  have ha0 : AfterSrc g a len cap w (w.alloc (.cells #[.int .i64 0, .int .i64 0] 33)) := AfterSrc.of_below hs ((Below.refl _ _).alloc (Nat.le_refl _) _)
  have HA0 := Lib.hid ha0
  clear ha0 hs
  go_enter Tryz.func74, Tryz.ntmps74
  go_wp2_with fail
  refine (srcHalf_any g a len cap _ HA0.out.1).mono ?_
  rintro e w1 ⟨x, rfl, hx0, hx1, ha1⟩
  have HA1 := Lib.hid (HA0.out.trans ha1)
  have HR1 := Lib.hid (ha1.row (heap_alloc_new w _) (by omega))
  have hl1 : w.heap.size < w1.heap.size := row_here HR1.out
  clear ha1
  go_wp2_with fail
  refine (srcOne_any g a len cap 3 _ (HA1.out.more _).1 (by omega) (by omega)).mono ?_
  rintro e w2 ⟨b, rfl, ha2⟩
  have HA2 := Lib.hid ((HA1.out.more _).trans ha2)
  have HR2 := Lib.hid (ha2.row (row_alloc HR1.out _) (by omega))
  have HV2 := Lib.hid (ha2.row (heap_alloc_new w1 _) (by omega))
  clear ha2
  cases b with
  | false =>
    have c0 := row_cell HV2.out 0
    have c1 := row_cell HV2.out 1
    have d0 := row_cell HR2.out 0
    have d1 := row_cell HR2.out 1
    have f0 := frozen_row HR2.out 0
    have f1 := frozen_row HR2.out 1
    simp only [List.getElem?_toArray, List.getElem?_cons_zero, List.getElem?_cons_succ] at c0 c1 d0 d1
    go_wp2_with fail
    exact bodyPost_ret (v := .agg #[.int .i64 0, .int .i64 x]) (by simp [results, Tryz.results74, go_sem, d0, d1]) rfl
      ⟨0, x, rfl, by unfold wdRight isB; simp; omega, (HA2.out.put hgl (p := ⟨w.heap.size, 0, none⟩) (Nat.le_refl _) _).put hgl (p := ⟨w.heap.size, 1, none⟩) (Nat.le_refl _) _⟩
  | true =>
    go_wp2_with fail
    refine (srcHalf_any g a len cap _ HA2.out.1).mono ?_
    rintro e w3 ⟨y, rfl, hy0, hy1, ha3⟩
    have HA3 := Lib.hid (HA2.out.trans ha3)
    have HR3 := Lib.hid (ha3.row HR2.out (by omega))
    have HV3 := Lib.hid (ha3.row HV2.out (by omega))
    clear ha3
    have c0 := row_cell HV3.out 0
    have c1 := row_cell HV3.out 1
    have g0 := frozen_row HV3.out 0
    have d0 := row_cell HR3.out 0
    have d1 := row_cell HR3.out 1
    have f0 := frozen_row HR3.out 0
    have f1 := frozen_row HR3.out 1
    simp only [List.getElem?_toArray, List.getElem?_cons_zero, List.getElem?_cons_succ] at c0 c1 d0 d1
    go_wp2_with fail
    exact bodyPost_ret (v := .agg #[.int .i64 y, .int .i64 x]) (by simp [results, Tryz.results74, go_sem, d0, d1]) rfl
      ⟨y, x, rfl, by unfold wdRight isB; simp; omega, ((HA3.out.put hgl (p := ⟨w1.heap.size, 0, none⟩) (show w.heap.size ≤ w1.heap.size by omega) _).put hgl (p := ⟨w.heap.size, 0, none⟩) (Nat.le_refl _) _).put hgl (p := ⟨w.heap.size, 1, none⟩) (Nat.le_refl _) _⟩

end Go.Proofs.YtekmnopgaopmlaaGreatDoor

/- A drawn word, walked: l02Insn. -/
set_option maxRecDepth 100000
set_option linter.unusedSimpArgs false
set_option linter.unusedVariables false
namespace Go.Proofs.YtekmnopgaopmlaaGreatDoor
open Go.RowKit

def InsnPost (g : Nat) (a : Option Addr) (len cap : Nat) (w : World) (e : Ending) (w' : World) : Prop := ∃ x : Ins, e = .returned (.agg #[.int .i64 x.c, .int .i64 x.y, .int .i64 x.n, .int .i64 x.k]) ∧ x.wf ∧ AfterSrc g a len cap w w'
theorem opCode_in (j : Nat) (hj : j < 34) : ∃ c : Int, opCodesL[j]'(by exact hj) = c ∧ 0 ≤ c ∧ c ≤ 164 := by
  have key : ∀ c ∈ opCodesL, 0 ≤ c ∧ c ≤ 164 := by decide
  exact ⟨_, rfl, key _ (List.getElem_mem _)⟩

theorem small_wf {c y n k : Int} (hc : 0 ≤ c ∧ c ≤ 1000000000000) (hy : 0 ≤ y ∧ y ≤ 1000000000000) (hn : 0 ≤ n ∧ n ≤ 1000000000000) (hk : 0 ≤ k ∧ k ≤ 1000000000000) : (⟨c, y, n, k⟩ : Ins).wf := by
  refine ⟨?_, ?_, ?_, ?_⟩ <;> (unfold In64; simp only; omega)
theorem six_cell (q : Nat) (h : q < 6) : ∃ x : Int, (#[Value.int .i64 0, .int .i64 1, .int .i64 5, .int .i64 255, .int .i64 4294967295, .int .i64 2147483648] : Array Value)[q]? = some (.int .i64 x) ∧ 0 ≤ x ∧ x ≤ 4294967295 := by
  rcases (by omega : q = 0 ∨ q = 1 ∨ q = 2 ∨ q = 3 ∨ q = 4 ∨ q = 5) with rfl | rfl | rfl | rfl | rfl | rfl
  all_goals exact ⟨_, rfl, by decide, by decide⟩
theorem src_ne {W : World} {g b : Nat} {a : Option Addr} {len cap : Nat} {n : Int} (h : Src W g a len cap) (hc : W.cell? ⟨b, 0, none⟩ = some (.int .i64 n)) : b ≠ g := by
  rintro rfl
  obtain ⟨_, _, _, ⟨hr, _⟩, _⟩ := h
  rw [row_cell hr 0] at hc
  simp at hc
theorem cell_kept {W W' : World} {g b i : Nat} {v : Value} (h : W.grownBy W' (some g)) (hc : W.cell? ⟨b, i, none⟩ = some v) (hne : b ≠ g) : W'.cell? ⟨b, i, none⟩ = W.cell? ⟨b, i, none⟩ := by
  have hlt : b < W.heap.size := by
    rcases Nat.lt_or_ge b W.heap.size with h | h
    · exact h
    · simp [World.cell?, Array.getElem?_eq_none h] at hc
  exact World.cell?_of_block (w := W) (h.block b hlt (fun e => hne (by injection e)))

set_option maxHeartbeats 3200000 in
theorem srcInsn_any (g : Nat) (a : Option Addr) (len cap : Nat) (left : Int) (w : World) (hs : Src w g a len cap) (hl0 : 0 ≤ left) (hl1 : left ≤ 1000) :
    Calls Tryz.prog 32 #[.pointer (some ⟨g, 0, none⟩), .int .i64 left] w (InsnPost g a len cap w) := by
  have hgl := hs.lt
  have HA0 := Lib.hid (AfterSrc.of_below hs ((Below.refl _ _).alloc (Nat.le_refl _) (.cells #[.int .i64 0, .int .i64 0, .int .i64 0, .int .i64 0] 66)))
  clear hs
  go_enter Tryz.func32, Tryz.ntmps32
  go_wp2_with fail
  refine (l02Ops_any _).mono ?_
  rintro e w1 ⟨b1, b2, rfl, _, hc, hb⟩
  have HA1 := Lib.hid (HA0.out.trans (AfterSrc.of_below HA0.out.1 hb))
  have hr1 := (hb.block w.heap.size (by simp)).trans (heap_alloc_new w (.cells #[.int .i64 0, .int .i64 0, .int .i64 0, .int .i64 0] 66))
  have HR1 := Lib.hid hr1
  have hl1' : w.heap.size < w1.heap.size := row_here hr1
  have HC := Lib.hid hc
  clear hc hb hr1
  go_wp2_with fail
  refine (srcN_any g a len cap 34 _ HA1.out.1 (by omega) (by omega)).mono ?_
  rintro e w2 ⟨v, rfl, hv0, hv1, _, hs2, hg2⟩
  obtain ⟨i, rfl⟩ := Int.eq_ofNat_of_zero_le hv0
  have hi : i < 34 := by have := hv1 (by omega); omega
  have hcl := HC.out i hi
  have hne := src_ne HA1.out.1 (HC.out 0 (by omega))
  have c0 := (cell_kept hg2 hcl hne).trans hcl
  obtain ⟨c, hcc, hc0, hc1⟩ := opCode_in i hi
  rw [hcc] at c0
  have hr2 := AfterSrc.row (g := g) (a := a) (len := len) (cap := cap) ⟨hs2, hg2⟩ HR1.out (by omega)
  have HA2 := Lib.hid ((HA1.out.trans ⟨hs2, hg2⟩).more (.cells #[.int .i64 c, .int .i64 0, .int .i64 0, .int .i64 0] 66))
  have HR2 := Lib.hid (row_alloc hr2 (.cells #[.int .i64 c, .int .i64 0, .int .i64 0, .int .i64 0] 66))
  have HX2 := Lib.hid (heap_alloc_new w2 (.cells #[.int .i64 c, .int .i64 0, .int .i64 0, .int .i64 0] 66))
  have hi34 : (i : Int) < 34 := by omega
  have hlw : w1.heap.size ≤ w2.heap.size := hg2.size
  clear hcl hne hcc hv1 hv0 hs2 hg2 HC hr2 HR1 HA1 HA0
  by_cases h32 : c = 32
  · subst h32
    go_wp2_with fail
    refine (srcN_any g a len cap (16) _ HA2.out.1 (by omega) (by omega)).mono ?_
    rintro e w3 ⟨v3, rfl, hv0, hv1, hv2, hs3, hg3⟩
    have hb3 : 0 ≤ v3 ∧ v3 ≤ 5000 := by
      by_cases h1 : (1 : Int) < 16
      · have := hv1 h1; omega
      · have := hv2 (by omega); omega
    have ha3 : AfterSrc g a len cap _ w3 := ⟨hs3, hg3⟩
    have hx3 := ha3.row HX2.out (by omega)
    have hr3 := ha3.row HR2.out (by omega)
    have k3 := row_cell hx3 3
    have m3 := frozen_row hx3 3
    have hlt3 : w2.heap.size < w3.heap.size := row_here hx3
    have hx4 := row_put hx3 3 (.int .i64 (4 * v3))
    have hr4 := row_other hr3 3 (.int .i64 (4 * v3)) (show w.heap.size ≠ w2.heap.size by omega)
    simp only [List.setIfInBounds_toArray, List.set_cons_zero, List.set_cons_succ, List.getElem?_toArray, List.getElem?_cons_zero, List.getElem?_cons_succ] at k3 hx4
    have HX4 := Lib.hid hx4
    have HR4 := Lib.hid hr4
    have HA4 := Lib.hid ((HA2.out.trans ha3).put hgl (p := ⟨w2.heap.size, 3, none⟩) (by show w.heap.size ≤ w2.heap.size; omega) (.int .i64 (4 * v3)))
    clear hv0 hv1 hv2 hs3 hg3 ha3 hx3 hr3 hx4 hr4
    have QL := Lib.hid (fun W => l02Looks_any (32) W)
    have x0 := row_cell HX4.out 0
    simp only [List.getElem?_toArray, List.getElem?_cons_zero, List.getElem?_cons_succ] at x0
    go_wp2_with fail
    refine (QL.out _).mono ?_
    rintro e w4 ⟨rfl, rfl⟩
    clear x0
    have x0 := row_cell HX4.out 0
    have x1 := row_cell HX4.out 1
    have x2 := row_cell HX4.out 2
    have x3 := row_cell HX4.out 3
    have d0 := row_cell HR4.out 0
    have d1 := row_cell HR4.out 1
    have d2 := row_cell HR4.out 2
    have d3 := row_cell HR4.out 3
    have f0 := frozen_row HR4.out 0
    have f1 := frozen_row HR4.out 1
    have f2 := frozen_row HR4.out 2
    have f3 := frozen_row HR4.out 3
    simp only [List.getElem?_toArray, List.getElem?_cons_zero, List.getElem?_cons_succ] at x0 x1 x2 x3 d0 d1 d2 d3
    go_wp2_with fail
    exact bodyPost_ret (v := .agg #[.int .i64 (32), .int .i64 (0), .int .i64 (0), .int .i64 (4 * v3)]) (by simp [results, Tryz.results32, go_sem, x0, x1, x2, x3, d0, d1, d2, d3, f0, f1, f2, f3]) rfl
      ⟨⟨32, 0, 0, 4 * v3⟩, rfl, small_wf (by omega) (by omega) (by omega) (by omega), (((HA4.out.put hgl (Nat.le_refl _) _).put hgl (Nat.le_refl _) _).put hgl (Nat.le_refl _) _).put hgl (Nat.le_refl _) _⟩
  have t32 : (c == 32) = false := by simpa using h32
  by_cases h5 : c = 5
  · subst h5
    go_wp2_with fail
    refine (srcN_any g a len cap (left + 1) _ HA2.out.1 (by omega) (by omega)).mono ?_
    rintro e w3 ⟨v3, rfl, hv0, hv1, hv2, hs3, hg3⟩
    have hb3 : 0 ≤ v3 ∧ v3 ≤ 5000 := by
      by_cases h1 : (1 : Int) < left + 1
      · have := hv1 h1; omega
      · have := hv2 (by omega); omega
    have ha3 : AfterSrc g a len cap _ w3 := ⟨hs3, hg3⟩
    have hx3 := ha3.row HX2.out (by omega)
    have hr3 := ha3.row HR2.out (by omega)
    have k3 := row_cell hx3 3
    have m3 := frozen_row hx3 3
    have hlt3 : w2.heap.size < w3.heap.size := row_here hx3
    have hx4 := row_put hx3 3 (.int .i64 (v3))
    have hr4 := row_other hr3 3 (.int .i64 (v3)) (show w.heap.size ≠ w2.heap.size by omega)
    simp only [List.setIfInBounds_toArray, List.set_cons_zero, List.set_cons_succ, List.getElem?_toArray, List.getElem?_cons_zero, List.getElem?_cons_succ] at k3 hx4
    have HX4 := Lib.hid hx4
    have HR4 := Lib.hid hr4
    have HA4 := Lib.hid ((HA2.out.trans ha3).put hgl (p := ⟨w2.heap.size, 3, none⟩) (by show w.heap.size ≤ w2.heap.size; omega) (.int .i64 (v3)))
    clear hv0 hv1 hv2 hs3 hg3 ha3 hx3 hr3 hx4 hr4
    have QL := Lib.hid (fun W => l02Looks_any (5) W)
    have x0 := row_cell HX4.out 0
    simp only [List.getElem?_toArray, List.getElem?_cons_zero, List.getElem?_cons_succ] at x0
    go_wp2_with fail
    refine (QL.out _).mono ?_
    rintro e w4 ⟨rfl, rfl⟩
    clear x0
    have x0 := row_cell HX4.out 0
    have x1 := row_cell HX4.out 1
    have x2 := row_cell HX4.out 2
    have x3 := row_cell HX4.out 3
    have d0 := row_cell HR4.out 0
    have d1 := row_cell HR4.out 1
    have d2 := row_cell HR4.out 2
    have d3 := row_cell HR4.out 3
    have f0 := frozen_row HR4.out 0
    have f1 := frozen_row HR4.out 1
    have f2 := frozen_row HR4.out 2
    have f3 := frozen_row HR4.out 3
    simp only [List.getElem?_toArray, List.getElem?_cons_zero, List.getElem?_cons_succ] at x0 x1 x2 x3 d0 d1 d2 d3
    go_wp2_with fail
    exact bodyPost_ret (v := .agg #[.int .i64 (5), .int .i64 (0), .int .i64 (0), .int .i64 (v3)]) (by simp [results, Tryz.results32, go_sem, x0, x1, x2, x3, d0, d1, d2, d3, f0, f1, f2, f3]) rfl
      ⟨⟨5, 0, 0, v3⟩, rfl, small_wf (by omega) (by omega) (by omega) (by omega), (((HA4.out.put hgl (Nat.le_refl _) _).put hgl (Nat.le_refl _) _).put hgl (Nat.le_refl _) _).put hgl (Nat.le_refl _) _⟩
  have t5 : (c == 5) = false := by simpa using h5
  by_cases h96 : c = 96
  · subst h96
    go_wp2_with fail
    refine (srcN_any g a len cap (3) _ HA2.out.1 (by omega) (by omega)).mono ?_
    rintro e w3 ⟨v3, rfl, hv0, hv1, hv2, hs3, hg3⟩
    have hb3 : 0 ≤ v3 ∧ v3 ≤ 5000 := by
      by_cases h1 : (1 : Int) < 3
      · have := hv1 h1; omega
      · have := hv2 (by omega); omega
    have ha3 : AfterSrc g a len cap _ w3 := ⟨hs3, hg3⟩
    have hx3 := ha3.row HX2.out (by omega)
    have hr3 := ha3.row HR2.out (by omega)
    have k3 := row_cell hx3 3
    have m3 := frozen_row hx3 3
    have hlt3 : w2.heap.size < w3.heap.size := row_here hx3
    have hx4 := row_put hx3 3 (.int .i64 (v3))
    have hr4 := row_other hr3 3 (.int .i64 (v3)) (show w.heap.size ≠ w2.heap.size by omega)
    simp only [List.setIfInBounds_toArray, List.set_cons_zero, List.set_cons_succ, List.getElem?_toArray, List.getElem?_cons_zero, List.getElem?_cons_succ] at k3 hx4
    have HX4 := Lib.hid hx4
    have HR4 := Lib.hid hr4
    have HA4 := Lib.hid ((HA2.out.trans ha3).put hgl (p := ⟨w2.heap.size, 3, none⟩) (by show w.heap.size ≤ w2.heap.size; omega) (.int .i64 (v3)))
    clear hv0 hv1 hv2 hs3 hg3 ha3 hx3 hr3 hx4 hr4
    have QL := Lib.hid (fun W => l02Looks_any (96) W)
    have x0 := row_cell HX4.out 0
    simp only [List.getElem?_toArray, List.getElem?_cons_zero, List.getElem?_cons_succ] at x0
    go_wp2_with fail
    refine (QL.out _).mono ?_
    rintro e w4 ⟨rfl, rfl⟩
    clear x0
    have x0 := row_cell HX4.out 0
    have x1 := row_cell HX4.out 1
    have x2 := row_cell HX4.out 2
    have x3 := row_cell HX4.out 3
    have d0 := row_cell HR4.out 0
    have d1 := row_cell HR4.out 1
    have d2 := row_cell HR4.out 2
    have d3 := row_cell HR4.out 3
    have f0 := frozen_row HR4.out 0
    have f1 := frozen_row HR4.out 1
    have f2 := frozen_row HR4.out 2
    have f3 := frozen_row HR4.out 3
    simp only [List.getElem?_toArray, List.getElem?_cons_zero, List.getElem?_cons_succ] at x0 x1 x2 x3 d0 d1 d2 d3
    go_wp2_with fail
    exact bodyPost_ret (v := .agg #[.int .i64 (96), .int .i64 (0), .int .i64 (0), .int .i64 (v3)]) (by simp [results, Tryz.results32, go_sem, x0, x1, x2, x3, d0, d1, d2, d3, f0, f1, f2, f3]) rfl
      ⟨⟨96, 0, 0, v3⟩, rfl, small_wf (by omega) (by omega) (by omega) (by omega), (((HA4.out.put hgl (Nat.le_refl _) _).put hgl (Nat.le_refl _) _).put hgl (Nat.le_refl _) _).put hgl (Nat.le_refl _) _⟩
  have t96 : (c == 96) = false := by simpa using h96
  by_cases h97 : c = 97
  · subst h97
    go_wp2_with fail
    refine (srcN_any g a len cap (3) _ HA2.out.1 (by omega) (by omega)).mono ?_
    rintro e w3 ⟨v3, rfl, hv0, hv1, hv2, hs3, hg3⟩
    have hb3 : 0 ≤ v3 ∧ v3 ≤ 5000 := by
      by_cases h1 : (1 : Int) < 3
      · have := hv1 h1; omega
      · have := hv2 (by omega); omega
    have ha3 : AfterSrc g a len cap _ w3 := ⟨hs3, hg3⟩
    have hx3 := ha3.row HX2.out (by omega)
    have hr3 := ha3.row HR2.out (by omega)
    have k3 := row_cell hx3 3
    have m3 := frozen_row hx3 3
    have hlt3 : w2.heap.size < w3.heap.size := row_here hx3
    have hx4 := row_put hx3 3 (.int .i64 (v3))
    have hr4 := row_other hr3 3 (.int .i64 (v3)) (show w.heap.size ≠ w2.heap.size by omega)
    simp only [List.setIfInBounds_toArray, List.set_cons_zero, List.set_cons_succ, List.getElem?_toArray, List.getElem?_cons_zero, List.getElem?_cons_succ] at k3 hx4
    have HX4 := Lib.hid hx4
    have HR4 := Lib.hid hr4
    have HA4 := Lib.hid ((HA2.out.trans ha3).put hgl (p := ⟨w2.heap.size, 3, none⟩) (by show w.heap.size ≤ w2.heap.size; omega) (.int .i64 (v3)))
    clear hv0 hv1 hv2 hs3 hg3 ha3 hx3 hr3 hx4 hr4
    have QL := Lib.hid (fun W => l02Looks_any (97) W)
    have x0 := row_cell HX4.out 0
    simp only [List.getElem?_toArray, List.getElem?_cons_zero, List.getElem?_cons_succ] at x0
    go_wp2_with fail
    refine (QL.out _).mono ?_
    rintro e w4 ⟨rfl, rfl⟩
    clear x0
    have x0 := row_cell HX4.out 0
    have x1 := row_cell HX4.out 1
    have x2 := row_cell HX4.out 2
    have x3 := row_cell HX4.out 3
    have d0 := row_cell HR4.out 0
    have d1 := row_cell HR4.out 1
    have d2 := row_cell HR4.out 2
    have d3 := row_cell HR4.out 3
    have f0 := frozen_row HR4.out 0
    have f1 := frozen_row HR4.out 1
    have f2 := frozen_row HR4.out 2
    have f3 := frozen_row HR4.out 3
    simp only [List.getElem?_toArray, List.getElem?_cons_zero, List.getElem?_cons_succ] at x0 x1 x2 x3 d0 d1 d2 d3
    go_wp2_with fail
    exact bodyPost_ret (v := .agg #[.int .i64 (97), .int .i64 (0), .int .i64 (0), .int .i64 (v3)]) (by simp [results, Tryz.results32, go_sem, x0, x1, x2, x3, d0, d1, d2, d3, f0, f1, f2, f3]) rfl
      ⟨⟨97, 0, 0, v3⟩, rfl, small_wf (by omega) (by omega) (by omega) (by omega), (((HA4.out.put hgl (Nat.le_refl _) _).put hgl (Nat.le_refl _) _).put hgl (Nat.le_refl _) _).put hgl (Nat.le_refl _) _⟩
  have t97 : (c == 97) = false := by simpa using h97
  by_cases h2 : c = 2
  · subst h2
    go_wp2_with fail
    refine (srcN_any g a len cap (3) _ HA2.out.1 (by omega) (by omega)).mono ?_
    rintro e w3 ⟨v3, rfl, hv0, hv1, hv2, hs3, hg3⟩
    have hb3 : 0 ≤ v3 ∧ v3 ≤ 5000 := by
      by_cases h1 : (1 : Int) < 3
      · have := hv1 h1; omega
      · have := hv2 (by omega); omega
    have ha3 : AfterSrc g a len cap _ w3 := ⟨hs3, hg3⟩
    have hx3 := ha3.row HX2.out (by omega)
    have hr3 := ha3.row HR2.out (by omega)
    have k3 := row_cell hx3 3
    have m3 := frozen_row hx3 3
    have hlt3 : w2.heap.size < w3.heap.size := row_here hx3
    have hx4 := row_put hx3 3 (.int .i64 (v3))
    have hr4 := row_other hr3 3 (.int .i64 (v3)) (show w.heap.size ≠ w2.heap.size by omega)
    simp only [List.setIfInBounds_toArray, List.set_cons_zero, List.set_cons_succ, List.getElem?_toArray, List.getElem?_cons_zero, List.getElem?_cons_succ] at k3 hx4
    have HX4 := Lib.hid hx4
    have HR4 := Lib.hid hr4
    have HA4 := Lib.hid ((HA2.out.trans ha3).put hgl (p := ⟨w2.heap.size, 3, none⟩) (by show w.heap.size ≤ w2.heap.size; omega) (.int .i64 (v3)))
    clear hv0 hv1 hv2 hs3 hg3 ha3 hx3 hr3 hx4 hr4
    have QL := Lib.hid (fun W => l02Looks_any (2) W)
    have x0 := row_cell HX4.out 0
    simp only [List.getElem?_toArray, List.getElem?_cons_zero, List.getElem?_cons_succ] at x0
    go_wp2_with fail
    refine (QL.out _).mono ?_
    rintro e w4 ⟨rfl, rfl⟩
    clear x0
    have x0 := row_cell HX4.out 0
    have x1 := row_cell HX4.out 1
    have x2 := row_cell HX4.out 2
    have x3 := row_cell HX4.out 3
    have d0 := row_cell HR4.out 0
    have d1 := row_cell HR4.out 1
    have d2 := row_cell HR4.out 2
    have d3 := row_cell HR4.out 3
    have f0 := frozen_row HR4.out 0
    have f1 := frozen_row HR4.out 1
    have f2 := frozen_row HR4.out 2
    have f3 := frozen_row HR4.out 3
    simp only [List.getElem?_toArray, List.getElem?_cons_zero, List.getElem?_cons_succ] at x0 x1 x2 x3 d0 d1 d2 d3
    go_wp2_with fail
    exact bodyPost_ret (v := .agg #[.int .i64 (2), .int .i64 (0), .int .i64 (0), .int .i64 (v3)]) (by simp [results, Tryz.results32, go_sem, x0, x1, x2, x3, d0, d1, d2, d3, f0, f1, f2, f3]) rfl
      ⟨⟨2, 0, 0, v3⟩, rfl, small_wf (by omega) (by omega) (by omega) (by omega), (((HA4.out.put hgl (Nat.le_refl _) _).put hgl (Nat.le_refl _) _).put hgl (Nat.le_refl _) _).put hgl (Nat.le_refl _) _⟩
  have t2 : (c == 2) = false := by simpa using h2
  by_cases h3 : c = 3
  · subst h3
    go_wp2_with fail
    refine (srcN_any g a len cap (3) _ HA2.out.1 (by omega) (by omega)).mono ?_
    rintro e w3 ⟨v3, rfl, hv0, hv1, hv2, hs3, hg3⟩
    have hb3 : 0 ≤ v3 ∧ v3 ≤ 5000 := by
      by_cases h1 : (1 : Int) < 3
      · have := hv1 h1; omega
      · have := hv2 (by omega); omega
    have ha3 : AfterSrc g a len cap _ w3 := ⟨hs3, hg3⟩
    have hx3 := ha3.row HX2.out (by omega)
    have hr3 := ha3.row HR2.out (by omega)
    have k3 := row_cell hx3 3
    have m3 := frozen_row hx3 3
    have hlt3 : w2.heap.size < w3.heap.size := row_here hx3
    have hx4 := row_put hx3 3 (.int .i64 (v3))
    have hr4 := row_other hr3 3 (.int .i64 (v3)) (show w.heap.size ≠ w2.heap.size by omega)
    simp only [List.setIfInBounds_toArray, List.set_cons_zero, List.set_cons_succ, List.getElem?_toArray, List.getElem?_cons_zero, List.getElem?_cons_succ] at k3 hx4
    have HX4 := Lib.hid hx4
    have HR4 := Lib.hid hr4
    have HA4 := Lib.hid ((HA2.out.trans ha3).put hgl (p := ⟨w2.heap.size, 3, none⟩) (by show w.heap.size ≤ w2.heap.size; omega) (.int .i64 (v3)))
    clear hv0 hv1 hv2 hs3 hg3 ha3 hx3 hr3 hx4 hr4
    have QL := Lib.hid (fun W => l02Looks_any (3) W)
    have x0 := row_cell HX4.out 0
    simp only [List.getElem?_toArray, List.getElem?_cons_zero, List.getElem?_cons_succ] at x0
    go_wp2_with fail
    refine (QL.out _).mono ?_
    rintro e w4 ⟨rfl, rfl⟩
    clear x0
    have x0 := row_cell HX4.out 0
    have x1 := row_cell HX4.out 1
    have x2 := row_cell HX4.out 2
    have x3 := row_cell HX4.out 3
    have d0 := row_cell HR4.out 0
    have d1 := row_cell HR4.out 1
    have d2 := row_cell HR4.out 2
    have d3 := row_cell HR4.out 3
    have f0 := frozen_row HR4.out 0
    have f1 := frozen_row HR4.out 1
    have f2 := frozen_row HR4.out 2
    have f3 := frozen_row HR4.out 3
    simp only [List.getElem?_toArray, List.getElem?_cons_zero, List.getElem?_cons_succ] at x0 x1 x2 x3 d0 d1 d2 d3
    go_wp2_with fail
    exact bodyPost_ret (v := .agg #[.int .i64 (3), .int .i64 (0), .int .i64 (0), .int .i64 (v3)]) (by simp [results, Tryz.results32, go_sem, x0, x1, x2, x3, d0, d1, d2, d3, f0, f1, f2, f3]) rfl
      ⟨⟨3, 0, 0, v3⟩, rfl, small_wf (by omega) (by omega) (by omega) (by omega), (((HA4.out.put hgl (Nat.le_refl _) _).put hgl (Nat.le_refl _) _).put hgl (Nat.le_refl _) _).put hgl (Nat.le_refl _) _⟩
  have t3 : (c == 3) = false := by simpa using h3
  by_cases h100 : c = 100
  · subst h100
    go_wp2_with fail
    refine (srcN_any g a len cap (33) _ HA2.out.1 (by omega) (by omega)).mono ?_
    rintro e w3 ⟨v3, rfl, hv0, hv1, hv2, hs3, hg3⟩
    have hb3 : 0 ≤ v3 ∧ v3 ≤ 5000 := by
      by_cases h1 : (1 : Int) < 33
      · have := hv1 h1; omega
      · have := hv2 (by omega); omega
    have ha3 : AfterSrc g a len cap _ w3 := ⟨hs3, hg3⟩
    have hx3 := ha3.row HX2.out (by omega)
    have hr3 := ha3.row HR2.out (by omega)
    have k3 := row_cell hx3 3
    have m3 := frozen_row hx3 3
    have hlt3 : w2.heap.size < w3.heap.size := row_here hx3
    have hx4 := row_put hx3 3 (.int .i64 (v3))
    have hr4 := row_other hr3 3 (.int .i64 (v3)) (show w.heap.size ≠ w2.heap.size by omega)
    simp only [List.setIfInBounds_toArray, List.set_cons_zero, List.set_cons_succ, List.getElem?_toArray, List.getElem?_cons_zero, List.getElem?_cons_succ] at k3 hx4
    have HX4 := Lib.hid hx4
    have HR4 := Lib.hid hr4
    have HA4 := Lib.hid ((HA2.out.trans ha3).put hgl (p := ⟨w2.heap.size, 3, none⟩) (by show w.heap.size ≤ w2.heap.size; omega) (.int .i64 (v3)))
    clear hv0 hv1 hv2 hs3 hg3 ha3 hx3 hr3 hx4 hr4
    have QL := Lib.hid (fun W => l02Looks_any (100) W)
    have x0 := row_cell HX4.out 0
    simp only [List.getElem?_toArray, List.getElem?_cons_zero, List.getElem?_cons_succ] at x0
    go_wp2_with fail
    refine (QL.out _).mono ?_
    rintro e w4 ⟨rfl, rfl⟩
    clear x0
    have x0 := row_cell HX4.out 0
    have x1 := row_cell HX4.out 1
    have x2 := row_cell HX4.out 2
    have x3 := row_cell HX4.out 3
    have d0 := row_cell HR4.out 0
    have d1 := row_cell HR4.out 1
    have d2 := row_cell HR4.out 2
    have d3 := row_cell HR4.out 3
    have f0 := frozen_row HR4.out 0
    have f1 := frozen_row HR4.out 1
    have f2 := frozen_row HR4.out 2
    have f3 := frozen_row HR4.out 3
    simp only [List.getElem?_toArray, List.getElem?_cons_zero, List.getElem?_cons_succ] at x0 x1 x2 x3 d0 d1 d2 d3
    go_wp2_with fail
    exact bodyPost_ret (v := .agg #[.int .i64 (100), .int .i64 (0), .int .i64 (0), .int .i64 (v3)]) (by simp [results, Tryz.results32, go_sem, x0, x1, x2, x3, d0, d1, d2, d3, f0, f1, f2, f3]) rfl
      ⟨⟨100, 0, 0, v3⟩, rfl, small_wf (by omega) (by omega) (by omega) (by omega), (((HA4.out.put hgl (Nat.le_refl _) _).put hgl (Nat.le_refl _) _).put hgl (Nat.le_refl _) _).put hgl (Nat.le_refl _) _⟩
  have t100 : (c == 100) = false := by simpa using h100
  by_cases h116 : c = 116
  · subst h116
    go_wp2_with fail
    refine (srcN_any g a len cap (33) _ HA2.out.1 (by omega) (by omega)).mono ?_
    rintro e w3 ⟨v3, rfl, hv0, hv1, hv2, hs3, hg3⟩
    have hb3 : 0 ≤ v3 ∧ v3 ≤ 5000 := by
      by_cases h1 : (1 : Int) < 33
      · have := hv1 h1; omega
      · have := hv2 (by omega); omega
    have ha3 : AfterSrc g a len cap _ w3 := ⟨hs3, hg3⟩
    have hx3 := ha3.row HX2.out (by omega)
    have hr3 := ha3.row HR2.out (by omega)
    have k3 := row_cell hx3 3
    have m3 := frozen_row hx3 3
    have hlt3 : w2.heap.size < w3.heap.size := row_here hx3
    have hx4 := row_put hx3 3 (.int .i64 (v3))
    have hr4 := row_other hr3 3 (.int .i64 (v3)) (show w.heap.size ≠ w2.heap.size by omega)
    simp only [List.setIfInBounds_toArray, List.set_cons_zero, List.set_cons_succ, List.getElem?_toArray, List.getElem?_cons_zero, List.getElem?_cons_succ] at k3 hx4
    have HX4 := Lib.hid hx4
    have HR4 := Lib.hid hr4
    have HA4 := Lib.hid ((HA2.out.trans ha3).put hgl (p := ⟨w2.heap.size, 3, none⟩) (by show w.heap.size ≤ w2.heap.size; omega) (.int .i64 (v3)))
    clear hv0 hv1 hv2 hs3 hg3 ha3 hx3 hr3 hx4 hr4
    have QL := Lib.hid (fun W => l02Looks_any (116) W)
    have x0 := row_cell HX4.out 0
    simp only [List.getElem?_toArray, List.getElem?_cons_zero, List.getElem?_cons_succ] at x0
    go_wp2_with fail
    refine (QL.out _).mono ?_
    rintro e w4 ⟨rfl, rfl⟩
    clear x0
    have x0 := row_cell HX4.out 0
    have x1 := row_cell HX4.out 1
    have x2 := row_cell HX4.out 2
    have x3 := row_cell HX4.out 3
    have d0 := row_cell HR4.out 0
    have d1 := row_cell HR4.out 1
    have d2 := row_cell HR4.out 2
    have d3 := row_cell HR4.out 3
    have f0 := frozen_row HR4.out 0
    have f1 := frozen_row HR4.out 1
    have f2 := frozen_row HR4.out 2
    have f3 := frozen_row HR4.out 3
    simp only [List.getElem?_toArray, List.getElem?_cons_zero, List.getElem?_cons_succ] at x0 x1 x2 x3 d0 d1 d2 d3
    go_wp2_with fail
    exact bodyPost_ret (v := .agg #[.int .i64 (116), .int .i64 (0), .int .i64 (0), .int .i64 (v3)]) (by simp [results, Tryz.results32, go_sem, x0, x1, x2, x3, d0, d1, d2, d3, f0, f1, f2, f3]) rfl
      ⟨⟨116, 0, 0, v3⟩, rfl, small_wf (by omega) (by omega) (by omega) (by omega), (((HA4.out.put hgl (Nat.le_refl _) _).put hgl (Nat.le_refl _) _).put hgl (Nat.le_refl _) _).put hgl (Nat.le_refl _) _⟩
  have t116 : (c == 116) = false := by simpa using h116
  clear h32 h5 h96 h97 h2 h3 h100 h116
  have QK := Lib.hid (fun W => l02HasK_any c W)
  have QL := Lib.hid (fun W => l02Looks_any c W)
  have x0 := row_cell HX2.out 0
  simp only [List.getElem?_toArray, List.getElem?_cons_zero, List.getElem?_cons_succ] at x0
  have QM := Lib.hid (fun W => l01Min_any left 255 W)
  obtain ⟨mn, hmn⟩ : ∃ mn : Int, mn = if left < 255 then left else 255 := ⟨_, rfl⟩
  rw [← hmn] at QM
  have hmb : 0 ≤ mn ∧ mn ≤ 1000 := by rw [hmn]; split <;> omega
  clear hmn
  cases hk : !noKC c <;> rw [hk] at QK
  · clear hk
    go_wp2_with fail
    refine (QK.out _).mono ?_
    rintro e w3 ⟨rfl, rfl⟩
    clear x0
    cases hl : looksC c <;> rw [hl] at QL
    · clear hl
      have y0 := row_cell HX2.out 0
      simp only [List.getElem?_toArray, List.getElem?_cons_zero, List.getElem?_cons_succ] at y0
      go_wp2_with fail
      refine (QL.out _).mono ?_
      rintro e w4 ⟨rfl, rfl⟩
      clear y0
      have x0 := row_cell HX2.out 0
      have x1 := row_cell HX2.out 1
      have x2 := row_cell HX2.out 2
      have x3 := row_cell HX2.out 3
      have d0 := row_cell HR2.out 0
      have d1 := row_cell HR2.out 1
      have d2 := row_cell HR2.out 2
      have d3 := row_cell HR2.out 3
      have f0 := frozen_row HR2.out 0
      have f1 := frozen_row HR2.out 1
      have f2 := frozen_row HR2.out 2
      have f3 := frozen_row HR2.out 3
      simp only [List.getElem?_toArray, List.getElem?_cons_zero, List.getElem?_cons_succ] at x0 x1 x2 x3 d0 d1 d2 d3
      go_wp2_with fail
      exact bodyPost_ret (v := .agg #[.int .i64 (c), .int .i64 (0), .int .i64 (0), .int .i64 (0)]) (by simp [results, Tryz.results32, go_sem, x0, x1, x2, x3, d0, d1, d2, d3, f0, f1, f2, f3]) rfl
        ⟨⟨c, 0, 0, 0⟩, rfl, small_wf (by omega) (by omega) (by omega) (by omega), (((HA2.out.put hgl (Nat.le_refl _) _).put hgl (Nat.le_refl _) _).put hgl (Nat.le_refl _) _).put hgl (Nat.le_refl _) _⟩
    · clear hl
      have y0 := row_cell HX2.out 0
      simp only [List.getElem?_toArray, List.getElem?_cons_zero, List.getElem?_cons_succ] at y0
      go_wp2_with fail
      refine (QL.out _).mono ?_
      rintro e w4 ⟨rfl, rfl⟩
      clear y0
      go_wp2_with fail
      refine (QM.out _).mono ?_
      rintro e w4 ⟨rfl, rfl⟩
      go_wp2_with fail
      refine (srcN_any g a len cap (mn + 1) _ HA2.out.1 (by omega) (by omega)).mono ?_
      rintro e w5 ⟨v1, rfl, hv0, hv1, hv2, hs3, hg3⟩
      have hb1 : 0 ≤ v1 ∧ v1 ≤ 5000 := by
        by_cases h1 : (1 : Int) < mn + 1
        · have := hv1 h1; omega
        · have := hv2 (by omega); omega
      have ha3 : AfterSrc g a len cap _ w5 := ⟨hs3, hg3⟩
      have hx3 := ha3.row HX2.out (by omega)
      have hr3 := ha3.row HR2.out (by omega)
      have k1 := row_cell hx3 1
      have m1 := frozen_row hx3 1
      have hlt1 : w2.heap.size < w5.heap.size := row_here hx3
      have hx4 := row_put hx3 1 (.int .i64 (v1))
      have hr4 := row_other hr3 1 (.int .i64 (v1)) (show w.heap.size ≠ w2.heap.size by omega)
      simp only [List.setIfInBounds_toArray, List.set_cons_zero, List.set_cons_succ, List.getElem?_toArray, List.getElem?_cons_zero, List.getElem?_cons_succ] at k1 hx4
      have HX5 := Lib.hid hx4
      have HR5 := Lib.hid hr4
      have HA5 := Lib.hid ((HA2.out.trans ha3).put hgl (p := ⟨w2.heap.size, 1, none⟩) (by show w.heap.size ≤ w2.heap.size; omega) (.int .i64 (v1)))
      clear hv0 hv1 hv2 hs3 hg3 ha3 hx3 hr3 hx4 hr4
      go_wp2_with fail
      refine (QM.out _).mono ?_
      rintro e w6 ⟨rfl, rfl⟩
      go_wp2_with fail
      refine (srcN_any g a len cap (mn + 1) _ HA5.out.1 (by omega) (by omega)).mono ?_
      rintro e w7 ⟨v2, rfl, hv0, hv1, hv2, hs3, hg3⟩
      have hb2 : 0 ≤ v2 ∧ v2 ≤ 5000 := by
        by_cases h1 : (1 : Int) < mn + 1
        · have := hv1 h1; omega
        · have := hv2 (by omega); omega
      have ha3 : AfterSrc g a len cap _ w7 := ⟨hs3, hg3⟩
      have hx3 := ha3.row HX5.out (by omega)
      have hr3 := ha3.row HR5.out (by omega)
      have k2 := row_cell hx3 2
      have m2 := frozen_row hx3 2
      have hlt2 : w2.heap.size < w7.heap.size := row_here hx3
      have hx4 := row_put hx3 2 (.int .i64 (v2))
      have hr4 := row_other hr3 2 (.int .i64 (v2)) (show w.heap.size ≠ w2.heap.size by omega)
      simp only [List.setIfInBounds_toArray, List.set_cons_zero, List.set_cons_succ, List.getElem?_toArray, List.getElem?_cons_zero, List.getElem?_cons_succ] at k2 hx4
      have HX7 := Lib.hid hx4
      have HR7 := Lib.hid hr4
      have HA7 := Lib.hid ((HA5.out.trans ha3).put hgl (p := ⟨w2.heap.size, 2, none⟩) (by show w.heap.size ≤ w2.heap.size; omega) (.int .i64 (v2)))
      clear hv0 hv1 hv2 hs3 hg3 ha3 hx3 hr3 hx4 hr4
      have x0 := row_cell HX7.out 0
      have x1 := row_cell HX7.out 1
      have x2 := row_cell HX7.out 2
      have x3 := row_cell HX7.out 3
      have d0 := row_cell HR7.out 0
      have d1 := row_cell HR7.out 1
      have d2 := row_cell HR7.out 2
      have d3 := row_cell HR7.out 3
      have f0 := frozen_row HR7.out 0
      have f1 := frozen_row HR7.out 1
      have f2 := frozen_row HR7.out 2
      have f3 := frozen_row HR7.out 3
      simp only [List.getElem?_toArray, List.getElem?_cons_zero, List.getElem?_cons_succ] at x0 x1 x2 x3 d0 d1 d2 d3
      go_wp2_with fail
      exact bodyPost_ret (v := .agg #[.int .i64 (c), .int .i64 (v1), .int .i64 (v2), .int .i64 (0)]) (by simp [results, Tryz.results32, go_sem, x0, x1, x2, x3, d0, d1, d2, d3, f0, f1, f2, f3]) rfl
        ⟨⟨c, v1, v2, 0⟩, rfl, small_wf (by omega) (by omega) (by omega) (by omega), (((HA7.out.put hgl (Nat.le_refl _) _).put hgl (Nat.le_refl _) _).put hgl (Nat.le_refl _) _).put hgl (Nat.le_refl _) _⟩
  · clear hk
    go_wp2_with fail
    refine (QK.out _).mono ?_
    rintro e w3 ⟨rfl, rfl⟩
    clear x0
    go_wp2_with fail
    have HAS := Lib.hid (HA2.out.more (.cells #[.int .i64 0, .int .i64 1, .int .i64 5, .int .i64 255, .int .i64 4294967295, .int .i64 2147483648] 2))
    have HXS := Lib.hid (row_alloc HX2.out (.cells #[.int .i64 0, .int .i64 1, .int .i64 5, .int .i64 255, .int .i64 4294967295, .int .i64 2147483648] 2))
    have HRS := Lib.hid (row_alloc HR2.out (.cells #[.int .i64 0, .int .i64 1, .int .i64 5, .int .i64 255, .int .i64 4294967295, .int .i64 2147483648] 2))
    have hsz : (w2.alloc (.cells #[.int .i64 c, .int .i64 0, .int .i64 0, .int .i64 0] 66)).heap.size = w2.heap.size + 1 := by simp
    have HSS := Lib.hid (heap_alloc_new (w2.alloc (.cells #[.int .i64 c, .int .i64 0, .int .i64 0, .int .i64 0] 66)) (.cells #[.int .i64 0, .int .i64 1, .int .i64 5, .int .i64 255, .int .i64 4294967295, .int .i64 2147483648] 2))
    refine (srcN_any g a len cap 6 _ HAS.out.1 (by omega) (by omega)).mono ?_
    rintro e w3 ⟨v, rfl, hv0, hv1, _, hs3, hg3⟩
    have hv6 := hv1 (by omega)
    obtain ⟨q, rfl⟩ := Int.eq_ofNat_of_zero_le hv0
    have hq6 : (q : Int) < 6 := hv6
    obtain ⟨v3, hc3, hb3⟩ := six_cell q (by omega)
    have ha3 : AfterSrc g a len cap _ w3 := ⟨hs3, hg3⟩
    have hx3 := ha3.row HXS.out (by omega)
    have hr3 := ha3.row HRS.out (by omega)
    have hs6 := row_cell (ha3.row HSS.out (by omega)) q
    rw [hsz, hc3] at hs6
    have k3 := row_cell hx3 3
    have m3 := frozen_row hx3 3
    have hlt3 : w2.heap.size < w3.heap.size := row_here hx3
    have hv2 := hv6
    have hx4 := row_put hx3 3 (.int .i64 (v3))
    have hr4 := row_other hr3 3 (.int .i64 (v3)) (show w.heap.size ≠ w2.heap.size by omega)
    simp only [List.setIfInBounds_toArray, List.set_cons_zero, List.set_cons_succ, List.getElem?_toArray, List.getElem?_cons_zero, List.getElem?_cons_succ] at k3 hx4
    have HX4 := Lib.hid hx4
    have HR4 := Lib.hid hr4
    have HA4 := Lib.hid ((HAS.out.trans ha3).put hgl (p := ⟨w2.heap.size, 3, none⟩) (by show w.heap.size ≤ w2.heap.size; omega) (.int .i64 (v3)))
    clear hv0 hv1 hv2 hs3 hg3 ha3 hx3 hr3 hx4 hr4
    clear HXS HRS HSS HAS hc3
    cases hl : looksC c <;> rw [hl] at QL
    · clear hl
      have y0 := row_cell HX4.out 0
      simp only [List.getElem?_toArray, List.getElem?_cons_zero, List.getElem?_cons_succ] at y0
      go_wp2_with fail
      refine (QL.out _).mono ?_
      rintro e w4 ⟨rfl, rfl⟩
      clear y0
      have x0 := row_cell HX4.out 0
      have x1 := row_cell HX4.out 1
      have x2 := row_cell HX4.out 2
      have x3 := row_cell HX4.out 3
      have d0 := row_cell HR4.out 0
      have d1 := row_cell HR4.out 1
      have d2 := row_cell HR4.out 2
      have d3 := row_cell HR4.out 3
      have f0 := frozen_row HR4.out 0
      have f1 := frozen_row HR4.out 1
      have f2 := frozen_row HR4.out 2
      have f3 := frozen_row HR4.out 3
      simp only [List.getElem?_toArray, List.getElem?_cons_zero, List.getElem?_cons_succ] at x0 x1 x2 x3 d0 d1 d2 d3
      go_wp2_with fail
      exact bodyPost_ret (v := .agg #[.int .i64 (c), .int .i64 (0), .int .i64 (0), .int .i64 (v3)]) (by simp [results, Tryz.results32, go_sem, x0, x1, x2, x3, d0, d1, d2, d3, f0, f1, f2, f3]) rfl
        ⟨⟨c, 0, 0, v3⟩, rfl, small_wf (by omega) (by omega) (by omega) (by omega), (((HA4.out.put hgl (Nat.le_refl _) _).put hgl (Nat.le_refl _) _).put hgl (Nat.le_refl _) _).put hgl (Nat.le_refl _) _⟩
    · clear hl
      have y0 := row_cell HX4.out 0
      simp only [List.getElem?_toArray, List.getElem?_cons_zero, List.getElem?_cons_succ] at y0
      go_wp2_with fail
      refine (QL.out _).mono ?_
      rintro e w4 ⟨rfl, rfl⟩
      clear y0
      go_wp2_with fail
      refine (QM.out _).mono ?_
      rintro e w4 ⟨rfl, rfl⟩
      go_wp2_with fail
      refine (srcN_any g a len cap (mn + 1) _ HA4.out.1 (by omega) (by omega)).mono ?_
      rintro e w5 ⟨v1, rfl, hv0, hv1, hv2, hs3, hg3⟩
      have hb1 : 0 ≤ v1 ∧ v1 ≤ 5000 := by
        by_cases h1 : (1 : Int) < mn + 1
        · have := hv1 h1; omega
        · have := hv2 (by omega); omega
      have ha3 : AfterSrc g a len cap _ w5 := ⟨hs3, hg3⟩
      have hx3 := ha3.row HX4.out (by omega)
      have hr3 := ha3.row HR4.out (by omega)
      have k1 := row_cell hx3 1
      have m1 := frozen_row hx3 1
      have hlt1 : w2.heap.size < w5.heap.size := row_here hx3
      have hx4 := row_put hx3 1 (.int .i64 (v1))
      have hr4 := row_other hr3 1 (.int .i64 (v1)) (show w.heap.size ≠ w2.heap.size by omega)
      simp only [List.setIfInBounds_toArray, List.set_cons_zero, List.set_cons_succ, List.getElem?_toArray, List.getElem?_cons_zero, List.getElem?_cons_succ] at k1 hx4
      have HX5 := Lib.hid hx4
      have HR5 := Lib.hid hr4
      have HA5 := Lib.hid ((HA4.out.trans ha3).put hgl (p := ⟨w2.heap.size, 1, none⟩) (by show w.heap.size ≤ w2.heap.size; omega) (.int .i64 (v1)))
      clear hv0 hv1 hv2 hs3 hg3 ha3 hx3 hr3 hx4 hr4
      go_wp2_with fail
      refine (QM.out _).mono ?_
      rintro e w6 ⟨rfl, rfl⟩
      go_wp2_with fail
      refine (srcN_any g a len cap (mn + 1) _ HA5.out.1 (by omega) (by omega)).mono ?_
      rintro e w7 ⟨v2, rfl, hv0, hv1, hv2, hs3, hg3⟩
      have hb2 : 0 ≤ v2 ∧ v2 ≤ 5000 := by
        by_cases h1 : (1 : Int) < mn + 1
        · have := hv1 h1; omega
        · have := hv2 (by omega); omega
      have ha3 : AfterSrc g a len cap _ w7 := ⟨hs3, hg3⟩
      have hx3 := ha3.row HX5.out (by omega)
      have hr3 := ha3.row HR5.out (by omega)
      have k2 := row_cell hx3 2
      have m2 := frozen_row hx3 2
      have hlt2 : w2.heap.size < w7.heap.size := row_here hx3
      have hx4 := row_put hx3 2 (.int .i64 (v2))
      have hr4 := row_other hr3 2 (.int .i64 (v2)) (show w.heap.size ≠ w2.heap.size by omega)
      simp only [List.setIfInBounds_toArray, List.set_cons_zero, List.set_cons_succ, List.getElem?_toArray, List.getElem?_cons_zero, List.getElem?_cons_succ] at k2 hx4
      have HX7 := Lib.hid hx4
      have HR7 := Lib.hid hr4
      have HA7 := Lib.hid ((HA5.out.trans ha3).put hgl (p := ⟨w2.heap.size, 2, none⟩) (by show w.heap.size ≤ w2.heap.size; omega) (.int .i64 (v2)))
      clear hv0 hv1 hv2 hs3 hg3 ha3 hx3 hr3 hx4 hr4
      have x0 := row_cell HX7.out 0
      have x1 := row_cell HX7.out 1
      have x2 := row_cell HX7.out 2
      have x3 := row_cell HX7.out 3
      have d0 := row_cell HR7.out 0
      have d1 := row_cell HR7.out 1
      have d2 := row_cell HR7.out 2
      have d3 := row_cell HR7.out 3
      have f0 := frozen_row HR7.out 0
      have f1 := frozen_row HR7.out 1
      have f2 := frozen_row HR7.out 2
      have f3 := frozen_row HR7.out 3
      simp only [List.getElem?_toArray, List.getElem?_cons_zero, List.getElem?_cons_succ] at x0 x1 x2 x3 d0 d1 d2 d3
      go_wp2_with fail
      exact bodyPost_ret (v := .agg #[.int .i64 (c), .int .i64 (v1), .int .i64 (v2), .int .i64 (v3)]) (by simp [results, Tryz.results32, go_sem, x0, x1, x2, x3, d0, d1, d2, d3, f0, f1, f2, f3]) rfl
        ⟨⟨c, v1, v2, v3⟩, rfl, small_wf (by omega) (by omega) (by omega) (by omega), (((HA7.out.put hgl (Nat.le_refl _) _).put hgl (Nat.le_refl _) _).put hgl (Nat.le_refl _) _).put hgl (Nat.le_refl _) _⟩

end Go.Proofs.YtekmnopgaopmlaaGreatDoor

/- Drawn programs, walked: l02ProgOf. -/
set_option maxRecDepth 100000
set_option linter.unusedSimpArgs false
set_option linter.unusedVariables false
namespace Go.Proofs.YtekmnopgaopmlaaGreatDoor
open Go.RowKit

/-- A program was drawn. -/
def ProgPost (most : Nat) (g : Nat) (a : Option Addr) (len cap : Nat) (w : World) (e : Ending) (w' : World) : Prop := ∃ v l, e = .returned v ∧ InsOwn w.heap.size w' v l ∧ l.length ≤ most ∧ (∀ x ∈ l, x.wf) ∧ AfterSrc g a len cap w w'
theorem ins_kept {w W W' : World} {g : Nat} {v : Value} {l : List Ins} (h : InsOwn w.heap.size W v l) (hg : W.grownBy W' (some g)) (hgl : g < w.heap.size) : InsOwn w.heap.size W' v l :=
  World.ownsRow.kept h hg (by
    rcases hv : v.ownBlock with _ | q
    · exact .inl rfl
    · exact .inr (fun e => by have := (h.lt q hv).1; injection e with e; omega))
theorem ins_grown {w W W' : World} {g : Nat} {a : Option Addr} {len cap : Nat} {v v' : Value} {l : List Ins} (haf : AfterSrc g a len cap w W) (hgl : g < w.heap.size) (h : InsOwn w.heap.size W v l) (hg : GrB W W' v v') : AfterSrc g a len cap w W' := by
  have hne : ∀ q, q < w.heap.size → some q ≠ v.ownBlock := fun q hq e => by have := (h.lt q e.symm).1; omega
  have hs := haf.2.size
  exact ⟨haf.1.keep fun q hq => hg.1.block q (by omega) (hne q (by omega)), ⟨hg.1.os.trans haf.2.os, hg.1.tape.trans haf.2.tape, hg.1.output.trans haf.2.output, Nat.le_trans hs hg.1.size,
    fun q hq hn => (hg.1.block q (by omega) (hne q hq)).trans (haf.2.block q hq hn)⟩⟩
theorem wf_push {l : List Ins} {x : Ins} (h : ∀ y ∈ l, y.wf) (hx : x.wf) : ∀ y ∈ l ++ [x], y.wf := fun y hy => by
  rcases List.mem_append.1 hy with hy | hy
  · exact h y hy
  · rw [List.mem_singleton.1 hy]; exact hx

set_option maxHeartbeats 3200000 in
theorem srcProgOf_any (g : Nat) (a : Option Addr) (len cap : Nat) (w : World) (hs : Src w g a len cap) :
    Calls Tryz.prog 64 #[.pointer (some ⟨g, 0, none⟩)] w (ProgPost 10 g a len cap w) := by
  have hgl := hs.lt
  have HA0 := Lib.hid (AfterSrc.of_below hs ((Below.refl _ _).alloc (Nat.le_refl _) (.cells #[] 66)))
  have HO0 := Lib.hid (insOwn_lit (base := w.heap.size) (w := w) (H := w.heap.size) (Nat.le_refl _) rfl)
  clear hs
  go_enter Tryz.func64, Tryz.ntmps64
  go_wp2_with fail
  refine (srcN_any g a len cap 10 _ HA0.out.1 (by omega) (by omega)).mono ?_
  rintro e w1 ⟨v, rfl, hv0, hv1, _, hs1, hg1⟩
  obtain ⟨many, rfl⟩ := Int.eq_ofNat_of_zero_le hv0
  have hmany : many < 10 := by have := hv1 (by omega); omega
  have HA1 := Lib.hid (HA0.out.trans ⟨hs1, hg1⟩)
  have HO1 := Lib.hid (ins_kept HO0.out hg1 hgl)
  clear hv0 hv1 hs1 hg1
  go_wp2_with fail
  go_loopw [3, 5] (fun v i wr => ∃ (k : Nat) (l : List Ins), i = .int .i64 k ∧ l.length + k ≤ 9 ∧ Aside (InsOwn w.heap.size wr v l ∧ (∀ x ∈ l, x.wf) ∧ AfterSrc g a len cap w wr)) (fun _ i _ => (intOf i).toNat)
  case atStart => exact ⟨many, [], rfl, by simp; omega, HO1.out, (fun x hx => by cases hx), HA1.out⟩
  case round =>
    obtain ⟨k, l, rfl, hlk, hrel⟩ := hrel
    have HX := Lib.hid hrel
    clear hrel
    by_cases hk : 0 < k
    · have hd : decide ((0 : Int) < (k : Int)) = true := decide_eq_true (by omega)
      have HI := Lib.hid (srcInsn_any g a len cap ((k : Int) - 1) wr HX.out.2.2.1 (by omega) (by omega))
      go_wp2_with fail
      refine HI.out.mono ?_
      rintro e w2 ⟨⟨c, y, n, kk⟩, rfl, hwf, ha2⟩
      have hown2 := ins_kept HX.out.1 ha2.2 hgl
      have hb2 : w.heap.size ≤ w2.heap.size := Nat.le_trans HX.out.2.2.2.size ha2.2.size
      have HA2 := Lib.hid (HX.out.2.2.trans ha2)
      have HO2 := Lib.hid hown2
      have HWF := Lib.hid (wf_push HX.out.2.1 hwf)
      clear ha2 hwf
      go_wp2_with (refine wpList_push_ins rfl _ _ rfl w2 c y n kk w.heap.size _ l (by rfl) hown2 (by rfl) (by omega) hb2 ?_; intro v3 w3 hown3 hg3)
      have HA3 := Lib.hid (ins_grown HA2.out hgl HO2.out hg3)
      have HO3 := Lib.hid hown3
      clear hown2 hown3 hg3
      go_roundw
      case rel => exact ⟨k - 1, l ++ [⟨c, y, n, kk⟩], by rw [show ((k - 1 : Nat) : Int) = (k : Int) - 1 by omega], by simp; omega, HO3.out, HWF.out, HA3.out⟩
      case measure => simp [intOf]; omega
    · have hd : decide ((0 : Int) < (k : Int)) = false := decide_eq_false (by omega)
      have HB := Lib.hid (srcOne_any g a len cap 8 wr HX.out.2.2.1 (by omega) (by omega))
      go_wp2_with fail
      refine HB.out.mono ?_
      rintro e w2 ⟨bb, rfl, ha2⟩
      have hown2 := ins_kept HX.out.1 ha2.2 hgl
      have HA2 := Lib.hid (HX.out.2.2.trans ha2)
      have HO2 := Lib.hid hown2
      clear ha2 hown2
      cases bb with
      | true =>
        go_wp2_with fail
        go_ret
        exact ⟨u3, l, rfl, HO2.out, by omega, HX.out.2.1, HA2.out⟩
      | false =>
        have HN := Lib.hid (srcN_any g a len cap 9 w2 HA2.out.1 (by omega) (by omega))
        go_wp2_with fail
        refine HN.out.mono ?_
        rintro e w3 ⟨v9, rfl, hv0, hv1, _, hs3, hg3⟩
        have hown3 := ins_kept HO2.out hg3 hgl
        have hb3 : w.heap.size ≤ w3.heap.size := Nat.le_trans HA2.out.2.size hg3.size
        have HA3 := Lib.hid (HA2.out.trans ⟨hs3, hg3⟩)
        have HO3 := Lib.hid hown3
        have HWF := Lib.hid (wf_push HX.out.2.1 (small_wf (c := 6) (y := 0) (n := 0) (k := v9) (by omega) (by omega) (by omega) (by have := hv1 (by omega); omega)))
        clear hv1 hs3 hg3
        go_wp2_with (refine wpList_push_ins rfl _ _ rfl w3 6 0 0 v9 w.heap.size _ l (by rfl) hown3 (by rfl) (by omega) hb3 ?_; intro v4 w4 hown4 hg4)
        have HA4 := Lib.hid (ins_grown HA3.out hgl HO3.out hg4)
        have HO4 := Lib.hid hown4
        clear hown3 hown4 hg4
        go_ret
        exact ⟨v4, l ++ [⟨6, 0, 0, v9⟩], rfl, HO4.out, by simp; omega, HWF.out, HA4.out⟩

end Go.Proofs.YtekmnopgaopmlaaGreatDoor

/- Drawn programs of which something may not be, walked: l02Odd. -/
set_option maxRecDepth 100000
set_option linter.unusedSimpArgs false
set_option linter.unusedVariables false
namespace Go.Proofs.YtekmnopgaopmlaaGreatDoor
open Go.RowKit

theorem pc_set0 (v : Int) : ∀ (l : List Ins) (i : Nat) (x : Ins), l[i]? = some x → (progCells l).set (i * 4) (.int .i64 v) = progCells (l.set i ⟨v, x.y, x.n, x.k⟩)
  | [], _, _, h => by simp at h
  | a :: l, 0, x, h => by
    obtain rfl : a = x := by simpa using h
    rfl
  | a :: l, i + 1, x, h => by
    have h' := pc_set0 v l i x (by simpa using h)
    have e : (i + 1) * 4 = i * 4 + 1 + 1 + 1 + 1 := by omega
    rw [e]
    simp only [progCells, List.set_cons_succ]
    rw [← h']
theorem pc_set1 (v : Int) : ∀ (l : List Ins) (i : Nat) (x : Ins), l[i]? = some x → (progCells l).set (i * 4 + 1) (.int .i64 v) = progCells (l.set i ⟨x.c, v, x.n, x.k⟩)
  | [], _, _, h => by simp at h
  | a :: l, 0, x, h => by
    obtain rfl : a = x := by simpa using h
    rfl
  | a :: l, i + 1, x, h => by
    have h' := pc_set1 v l i x (by simpa using h)
    have e : (i + 1) * 4 + 1 = i * 4 + 1 + 1 + 1 + 1 + 1 := by omega
    rw [e]
    simp only [progCells, List.set_cons_succ]
    rw [← h']
theorem pc_set2 (v : Int) : ∀ (l : List Ins) (i : Nat) (x : Ins), l[i]? = some x → (progCells l).set (i * 4 + 2) (.int .i64 v) = progCells (l.set i ⟨x.c, x.y, v, x.k⟩)
  | [], _, _, h => by simp at h
  | a :: l, 0, x, h => by
    obtain rfl : a = x := by simpa using h
    rfl
  | a :: l, i + 1, x, h => by
    have h' := pc_set2 v l i x (by simpa using h)
    have e : (i + 1) * 4 + 2 = i * 4 + 2 + 1 + 1 + 1 + 1 := by omega
    rw [e]
    simp only [progCells, List.set_cons_succ]
    rw [← h']
theorem pc_set3 (v : Int) : ∀ (l : List Ins) (i : Nat) (x : Ins), l[i]? = some x → (progCells l).set (i * 4 + 3) (.int .i64 v) = progCells (l.set i ⟨x.c, x.y, x.n, v⟩)
  | [], _, _, h => by simp at h
  | a :: l, 0, x, h => by
    obtain rfl : a = x := by simpa using h
    rfl
  | a :: l, i + 1, x, h => by
    have h' := pc_set3 v l i x (by simpa using h)
    have e : (i + 1) * 4 + 3 = i * 4 + 3 + 1 + 1 + 1 + 1 := by omega
    rw [e]
    simp only [progCells, List.set_cons_succ]
    rw [← h']
theorem ins_place {base : Nat} {w : World} {v : Value} {l : List Ins} (h : InsOwn base w v l) (hl : 0 < l.length) : ∃ b cap, v = .slice (some ⟨b, 0, none⟩) l.length cap ∧ base ≤ b ∧ b < w.heap.size := by
  rcases h.2 with ⟨_, hn⟩ | ⟨g, cap, cur, rfl, hg, hr, _⟩
  · omega
  · exact ⟨g, cap, rfl, hg, row_here hr⟩
theorem wf_set {l : List Ins} {x : Ins} {i : Nat} (h : ∀ y ∈ l, y.wf) (hx : x.wf) : ∀ y ∈ l.set i x, y.wf := fun y hy => by
  rcases List.mem_or_eq_of_mem_set hy with h' | h'
  · exact h y h'
  · rw [h']; exact hx
theorem odd_cell0 (q : Nat) (h : q < 4) : ∃ x : Int, (#[Value.int .i64 (-1), .int .i64 65535, .int .i64 65536, .int .i64 99] : Array Value)[q]? = some (.int .i64 x) ∧ In64 x := by
  rcases (by omega : q = 0 ∨ q = 1 ∨ q = 2 ∨ q = 3) with rfl | rfl | rfl | rfl
  all_goals exact ⟨_, rfl, by unfold In64; decide⟩
theorem odd_cell1 (q : Nat) (h : q < 3) : ∃ x : Int, (#[Value.int .i64 (-1), .int .i64 255, .int .i64 256] : Array Value)[q]? = some (.int .i64 x) ∧ In64 x := by
  rcases (by omega : q = 0 ∨ q = 1 ∨ q = 2) with rfl | rfl | rfl
  all_goals exact ⟨_, rfl, by unfold In64; decide⟩
theorem odd_cell2 (q : Nat) (h : q < 3) : ∃ x : Int, (#[Value.int .i64 (-1), .int .i64 255, .int .i64 256] : Array Value)[q]? = some (.int .i64 x) ∧ In64 x := by
  rcases (by omega : q = 0 ∨ q = 1 ∨ q = 2) with rfl | rfl | rfl
  all_goals exact ⟨_, rfl, by unfold In64; decide⟩
theorem odd_cell3 (q : Nat) (h : q < 3) : ∃ x : Int, (#[Value.int .i64 (-1), .int .i64 4294967295, .int .i64 4294967296] : Array Value)[q]? = some (.int .i64 x) ∧ In64 x := by
  rcases (by omega : q = 0 ∨ q = 1 ∨ q = 2) with rfl | rfl | rfl
  all_goals exact ⟨_, rfl, by unfold In64; decide⟩

set_option maxHeartbeats 3200000 in
theorem srcOdd_any (g : Nat) (a : Option Addr) (len cap : Nat) (w : World) (hs : Src w g a len cap) :
    Calls Tryz.prog 30 #[.pointer (some ⟨g, 0, none⟩)] w (ProgPost 10 g a len cap w) := by
  have hgl := hs.lt
  have HP := Lib.hid (srcProgOf_any g a len cap w hs)
  clear hs
  go_enter Tryz.func30, Tryz.ntmps30
  go_wp2_with fail
  refine HP.out.mono ?_
  rintro e w1 ⟨v, l, rfl, ho1, hlen, hwf, ha1⟩
  obtain ⟨sa, scap, rfl⟩ := ho1.slice
  have HO1 := Lib.hid ho1
  have HX := Lib.hid hwf
  have HA1 := Lib.hid ha1
  have HB := Lib.hid (srcOne_any g a len cap 6 w1 ha1.1 (by omega) (by omega))
  clear ho1 hwf ha1
  go_wp2_with fail
  refine HB.out.mono ?_
  rintro e w2 ⟨bb, rfl, ha2⟩
  have HA2 := Lib.hid (HA1.out.trans ha2)
  have HO2 := Lib.hid (ins_kept HO1.out ha2.2 hgl)
  clear ha2
  cases bb with
  | false =>
    go_wp2_with fail
    go_ret
    exact ⟨_, l, rfl, HO2.out, hlen, HX.out, HA2.out⟩
  | true =>
    by_cases h0 : 0 < l.length
    · have hd : decide ((0 : Int) < (l.length : Int)) = true := decide_eq_true (by omega)
      obtain ⟨b, bcap, hb, hbge, _⟩ := ins_place HO2.out h0
      simp only [Value.slice.injEq, true_and] at hb
      obtain ⟨rfl, rfl⟩ := hb
      have HN3 := Lib.hid (srcN_any g a len cap (l.length : Int) w2 HA2.out.1 (by omega) (by omega))
      go_wp2_with fail
      refine HN3.out.mono ?_
      rintro e w3 ⟨v3, rfl, hv0, hv1, hv2, hs3, hg3⟩
      obtain ⟨i, rfl⟩ := Int.eq_ofNat_of_zero_le hv0
      have hi : i < l.length := by
        by_cases h1 : (1 : Int) < (l.length : Int)
        · have := hv1 h1; omega
        · have := hv2 (by omega); omega
      obtain ⟨xx, hxx'⟩ : ∃ xx, l[i]? = some xx := ⟨l[i], List.getElem?_eq_getElem hi⟩
      have hwx := HX.out xx (List.mem_of_getElem? hxx')
      have HA3 := Lib.hid (HA2.out.trans ⟨hs3, hg3⟩)
      have HO3 := Lib.hid (ins_kept HO2.out hg3 hgl)
      have hii : (i : Int) < (l.length : Int) := by omega
      have HXX := Lib.hid hxx'
      have HWX := Lib.hid hwx
      clear hv0 hv1 hv2 hs3 hg3 hxx' hwx
      have HN4 := Lib.hid (srcN_any g a len cap 4 w3 HA3.out.1 (by omega) (by omega))
      go_wp2_with fail
      refine HN4.out.mono ?_
      rintro e w4 ⟨v4, rfl, hv0, hv1, _, hs4, hg4⟩
      have hv4 := hv1 (by omega)
      have HA4 := Lib.hid (HA3.out.trans ⟨hs4, hg4⟩)
      have HO4 := Lib.hid (ins_kept HO3.out hg4 hgl)
      have hxx := HXX.out
      have hwx := HWX.out
      have hlb : l.length ≤ 10 := hlen
      have hw4 := HA4.out.lt
      clear hv1 hs4 hg4
      rcases (by omega : v4 = 0 ∨ v4 = 1 ∨ v4 = 2 ∨ v4 = 3) with rfl | rfl | rfl | rfl
      · have HAS := Lib.hid (HA4.out.more (.cells #[.int .i64 (-1), .int .i64 65535, .int .i64 65536, .int .i64 99] 2))
        have HSS := Lib.hid (heap_alloc_new w4 (.cells #[.int .i64 (-1), .int .i64 65535, .int .i64 65536, .int .i64 99] 2))
        have HOS := Lib.hid (HO4.out.alloc (.cells #[.int .i64 (-1), .int .i64 65535, .int .i64 65536, .int .i64 99] 2))
        have HN := Lib.hid (srcN_any g a len cap 4 _ HAS.out.1 (by omega) (by omega))
        go_wp2_with fail
        refine HN.out.mono ?_
        rintro e w5 ⟨v5, rfl, hv0, hv1, _, hs5, hg5⟩
        have hvq := hv1 (by omega)
        obtain ⟨q, rfl⟩ := Int.eq_ofNat_of_zero_le hv0
        have hq4 : (q : Int) < 4 := hvq
        obtain ⟨vv, hcv, hvv⟩ := odd_cell0 q (by omega)
        have ha5 : AfterSrc g a len cap _ w5 := ⟨hs5, hg5⟩
        have hcell := row_cell (ha5.row HSS.out (by omega)) q
        rw [hcv] at hcell
        have hown5 := ins_kept HOS.out hg5 hgl
        have HO5 := Lib.hid hown5
        have hat := own_ins_at hown5 hxx
        obtain ⟨e0, e1, e2, e3, f0, f1, f2, f3⟩ := hat
        have hst := (World.ownsRow.stored hown5 (i * 4) (.int .i64 vv)).1
        rw [pc_set0 vv l i xx hxx] at hst
        have HOF := Lib.hid (show InsOwn w.heap.size (w5.setCell ⟨b, i * 4, none⟩ (.int .i64 vv)) (.slice (some ⟨b, 0, none⟩) l.length scap) (l.set i ⟨vv, xx.y, xx.n, xx.k⟩) by unfold InsOwn; rw [List.length_set]; exact hst)
        have HAF := Lib.hid ((HAS.out.trans ha5).put hgl (p := ⟨b, i * 4, none⟩) hbge (.int .i64 vv))
        have HWF := Lib.hid (wf_set (i := i) (x := ⟨vv, xx.y, xx.n, xx.k⟩) HX.out ⟨hvv, hwx.2.1, hwx.2.2.1, hwx.2.2.2⟩)
        clear hv0 hv1 hs5 hg5 ha5 hcv hown5 hst HSS
        go_wp2_with fail
        go_ret
        exact ⟨_, _, rfl, HOF.out, by simpa using hlen, HWF.out, HAF.out⟩
      · have HAS := Lib.hid (HA4.out.more (.cells #[.int .i64 (-1), .int .i64 255, .int .i64 256] 2))
        have HSS := Lib.hid (heap_alloc_new w4 (.cells #[.int .i64 (-1), .int .i64 255, .int .i64 256] 2))
        have HOS := Lib.hid (HO4.out.alloc (.cells #[.int .i64 (-1), .int .i64 255, .int .i64 256] 2))
        have HN := Lib.hid (srcN_any g a len cap 3 _ HAS.out.1 (by omega) (by omega))
        go_wp2_with fail
        refine HN.out.mono ?_
        rintro e w5 ⟨v5, rfl, hv0, hv1, _, hs5, hg5⟩
        have hvq := hv1 (by omega)
        obtain ⟨q, rfl⟩ := Int.eq_ofNat_of_zero_le hv0
        have hq4 : (q : Int) < 3 := hvq
        obtain ⟨vv, hcv, hvv⟩ := odd_cell1 q (by omega)
        have ha5 : AfterSrc g a len cap _ w5 := ⟨hs5, hg5⟩
        have hcell := row_cell (ha5.row HSS.out (by omega)) q
        rw [hcv] at hcell
        have hown5 := ins_kept HOS.out hg5 hgl
        have HO5 := Lib.hid hown5
        have hat := own_ins_at hown5 hxx
        obtain ⟨e0, e1, e2, e3, f0, f1, f2, f3⟩ := hat
        have hst := (World.ownsRow.stored hown5 (i * 4 + 1) (.int .i64 vv)).1
        rw [pc_set1 vv l i xx hxx] at hst
        have HOF := Lib.hid (show InsOwn w.heap.size (w5.setCell ⟨b, i * 4 + 1, none⟩ (.int .i64 vv)) (.slice (some ⟨b, 0, none⟩) l.length scap) (l.set i ⟨xx.c, vv, xx.n, xx.k⟩) by unfold InsOwn; rw [List.length_set]; exact hst)
        have HAF := Lib.hid ((HAS.out.trans ha5).put hgl (p := ⟨b, i * 4 + 1, none⟩) hbge (.int .i64 vv))
        have HWF := Lib.hid (wf_set (i := i) (x := ⟨xx.c, vv, xx.n, xx.k⟩) HX.out ⟨hwx.1, hvv, hwx.2.2.1, hwx.2.2.2⟩)
        clear hv0 hv1 hs5 hg5 ha5 hcv hown5 hst HSS
        go_wp2_with fail
        go_ret
        exact ⟨_, _, rfl, HOF.out, by simpa using hlen, HWF.out, HAF.out⟩
      · have HAS := Lib.hid (HA4.out.more (.cells #[.int .i64 (-1), .int .i64 255, .int .i64 256] 2))
        have HSS := Lib.hid (heap_alloc_new w4 (.cells #[.int .i64 (-1), .int .i64 255, .int .i64 256] 2))
        have HOS := Lib.hid (HO4.out.alloc (.cells #[.int .i64 (-1), .int .i64 255, .int .i64 256] 2))
        have HN := Lib.hid (srcN_any g a len cap 3 _ HAS.out.1 (by omega) (by omega))
        go_wp2_with fail
        refine HN.out.mono ?_
        rintro e w5 ⟨v5, rfl, hv0, hv1, _, hs5, hg5⟩
        have hvq := hv1 (by omega)
        obtain ⟨q, rfl⟩ := Int.eq_ofNat_of_zero_le hv0
        have hq4 : (q : Int) < 3 := hvq
        obtain ⟨vv, hcv, hvv⟩ := odd_cell2 q (by omega)
        have ha5 : AfterSrc g a len cap _ w5 := ⟨hs5, hg5⟩
        have hcell := row_cell (ha5.row HSS.out (by omega)) q
        rw [hcv] at hcell
        have hown5 := ins_kept HOS.out hg5 hgl
        have HO5 := Lib.hid hown5
        have hat := own_ins_at hown5 hxx
        obtain ⟨e0, e1, e2, e3, f0, f1, f2, f3⟩ := hat
        have hst := (World.ownsRow.stored hown5 (i * 4 + 2) (.int .i64 vv)).1
        rw [pc_set2 vv l i xx hxx] at hst
        have HOF := Lib.hid (show InsOwn w.heap.size (w5.setCell ⟨b, i * 4 + 2, none⟩ (.int .i64 vv)) (.slice (some ⟨b, 0, none⟩) l.length scap) (l.set i ⟨xx.c, xx.y, vv, xx.k⟩) by unfold InsOwn; rw [List.length_set]; exact hst)
        have HAF := Lib.hid ((HAS.out.trans ha5).put hgl (p := ⟨b, i * 4 + 2, none⟩) hbge (.int .i64 vv))
        have HWF := Lib.hid (wf_set (i := i) (x := ⟨xx.c, xx.y, vv, xx.k⟩) HX.out ⟨hwx.1, hwx.2.1, hvv, hwx.2.2.2⟩)
        clear hv0 hv1 hs5 hg5 ha5 hcv hown5 hst HSS
        go_wp2_with fail
        go_ret
        exact ⟨_, _, rfl, HOF.out, by simpa using hlen, HWF.out, HAF.out⟩
      · have HAS := Lib.hid (HA4.out.more (.cells #[.int .i64 (-1), .int .i64 4294967295, .int .i64 4294967296] 2))
        have HSS := Lib.hid (heap_alloc_new w4 (.cells #[.int .i64 (-1), .int .i64 4294967295, .int .i64 4294967296] 2))
        have HOS := Lib.hid (HO4.out.alloc (.cells #[.int .i64 (-1), .int .i64 4294967295, .int .i64 4294967296] 2))
        have HN := Lib.hid (srcN_any g a len cap 3 _ HAS.out.1 (by omega) (by omega))
        go_wp2_with fail
        refine HN.out.mono ?_
        rintro e w5 ⟨v5, rfl, hv0, hv1, _, hs5, hg5⟩
        have hvq := hv1 (by omega)
        obtain ⟨q, rfl⟩ := Int.eq_ofNat_of_zero_le hv0
        have hq4 : (q : Int) < 3 := hvq
        obtain ⟨vv, hcv, hvv⟩ := odd_cell3 q (by omega)
        have ha5 : AfterSrc g a len cap _ w5 := ⟨hs5, hg5⟩
        have hcell := row_cell (ha5.row HSS.out (by omega)) q
        rw [hcv] at hcell
        have hown5 := ins_kept HOS.out hg5 hgl
        have HO5 := Lib.hid hown5
        have hat := own_ins_at hown5 hxx
        obtain ⟨e0, e1, e2, e3, f0, f1, f2, f3⟩ := hat
        have hst := (World.ownsRow.stored hown5 (i * 4 + 3) (.int .i64 vv)).1
        rw [pc_set3 vv l i xx hxx] at hst
        have HOF := Lib.hid (show InsOwn w.heap.size (w5.setCell ⟨b, i * 4 + 3, none⟩ (.int .i64 vv)) (.slice (some ⟨b, 0, none⟩) l.length scap) (l.set i ⟨xx.c, xx.y, xx.n, vv⟩) by unfold InsOwn; rw [List.length_set]; exact hst)
        have HAF := Lib.hid ((HAS.out.trans ha5).put hgl (p := ⟨b, i * 4 + 3, none⟩) hbge (.int .i64 vv))
        have HWF := Lib.hid (wf_set (i := i) (x := ⟨xx.c, xx.y, xx.n, vv⟩) HX.out ⟨hwx.1, hwx.2.1, hwx.2.2.1, hvv⟩)
        clear hv0 hv1 hs5 hg5 ha5 hcv hown5 hst HSS
        go_wp2_with fail
        go_ret
        exact ⟨_, _, rfl, HOF.out, by simpa using hlen, HWF.out, HAF.out⟩
    · have hd : decide ((0 : Int) < (l.length : Int)) = false := decide_eq_false (by omega)
      go_wp2_with fail
      go_ret
      exact ⟨_, l, rfl, HO2.out, hlen, HX.out, HA2.out⟩

end Go.Proofs.YtekmnopgaopmlaaGreatDoor

/- Drawn programs that are let by, as a rule: what is needed of a list whose first word may have been cut off. -/
set_option maxRecDepth 100000
set_option linter.unusedSimpArgs false
set_option linter.unusedVariables false
namespace Go.Proofs.YtekmnopgaopmlaaGreatDoor
open Go.RowKit

/-- The list as it is drawn: a row of the call's own, or the two first words without the first one. -/
def LSt (w wr : World) (v : Value) (l : List Ins) : Prop := InsOwn w.heap.size wr v l ∨
  (v = .slice (some ⟨w.heap.size, 4, none⟩) 1 1 ∧ l = [⟨2, 0, 0, 1⟩] ∧ wr.heap[w.heap.size]? = some (.cells #[.int .i64 2, .int .i64 0, .int .i64 0, .int .i64 0, .int .i64 2, .int .i64 0, .int .i64 0, .int .i64 1] 66 (0, 0)))
theorem LSt.kept {w W W' : World} {g : Nat} {v : Value} {l : List Ins} (h : LSt w W v l) (hg : W.grownBy W' (some g)) (hgl : g < w.heap.size) : LSt w W' v l := by
  rcases h with h | ⟨rfl, rfl, hr⟩
  · exact .inl (ins_kept h hg hgl)
  · exact .inr ⟨rfl, rfl, (hg.block _ (row_here hr) (fun e => by injection e with e; omega)).trans hr⟩
theorem LSt.alloc {w W : World} {v : Value} {l : List Ins} (h : LSt w W v l) (o : Obj) : LSt w (W.alloc o) v l := by
  rcases h with h | ⟨rfl, rfl, hr⟩
  · exact .inl (h.alloc o)
  · exact .inr ⟨rfl, rfl, row_alloc hr o⟩
theorem LSt.lt {w W : World} {v : Value} {l : List Ins} (h : LSt w W v l) : ∀ k, v.ownBlock = some k → k < W.heap.size := by
  rcases h with h | ⟨rfl, rfl, hr⟩
  · exact fun k hk => (h.lt k hk).2
  · intro k hk
    simp [Value.ownBlock] at hk
    subst hk
    exact row_here hr
theorem LSt.put {w W : World} {X : Nat} {v : Value} {l : List Ins} (h : LSt w W v l) (hX : v.ownBlock ≠ some X) (hw : w.heap.size ≠ X) (i : Nat) (u : Value) : LSt w (W.setCell ⟨X, i, none⟩ u) v l := by
  rcases h with h | ⟨rfl, rfl, hr⟩
  · exact .inl (World.ownsRow.kept h (own_only (World.grownBy.refl W (some X)) i u) (.inr hX))
  · exact .inr ⟨rfl, rfl, row_other hr i u hw⟩
theorem tail_cells {wr : World} {H : Nat} (hr : wr.heap[H]? = some (.cells #[.int .i64 2, .int .i64 0, .int .i64 0, .int .i64 0, .int .i64 2, .int .i64 0, .int .i64 0, .int .i64 1] 66 (0, 0))) :
    ∀ j u, (progCells [⟨2, 0, 0, 1⟩])[j]? = some u → wr.cell? ((⟨H, 4, none⟩ : Addr).add j) = some u := by
  intro j u hj
  have hlt : j < 4 := by
    have := (List.getElem?_eq_some_iff.1 hj).1
    simpa [progCells] using this
  rw [add_at, row_cell hr]
  rcases (by omega : j = 0 ∨ j = 1 ∨ j = 2 ∨ j = 3) with rfl | rfl | rfl | rfl <;> exact hj
theorem run_push_ls {w wr : World} {g : Nat} {a : Option Addr} {len cap : Nat} {v : Value} {l : List Ins} (c y n k : Int) (ty : TypeId) (haf : AfterSrc g a len cap w wr) (hgl : g < w.heap.size) (h : LSt w wr v l) (hlen : l.length ≤ 1000000) :
    ∃ v' w', (Builtin.append_ #[23, 23] ty #[v, .slice (some ⟨wr.heap.size, 0, none⟩) 1 1]).run Tryz.prog (wr.alloc (.cells #[.int .i64 c, .int .i64 y, .int .i64 n, .int .i64 k] 66)) = .ok v' w' ∧
      InsOwn w.heap.size w' v' (l ++ [⟨c, y, n, k⟩]) ∧ AfterSrc g a len cap w w' ∧ wr.heap.size ≤ w'.heap.size := by
  obtain ⟨i0, hi, hz0, hz1, hz2⟩ := info_parts info_insn
  have hcn : ∀ j u, ([.int .i64 c, .int .i64 y, .int .i64 n, .int .i64 k] : List Value)[j]? = some u → (wr.alloc (.cells #[.int .i64 c, .int .i64 y, .int .i64 n, .int .i64 k] 66)).cell? ((⟨wr.heap.size, 0, none⟩ : Addr).add j) = some u := fun j u hj => by
    rw [add_at, Nat.zero_add, World.cell?_alloc_at _ _ _ _ rfl, ← hj]; simp
  have hone : ∀ u ∈ ([.int .i64 c, .int .i64 y, .int .i64 n, .int .i64 k] : List Value), u.oneCell' = true := by intro u hu; simp at hu; rcases hu with rfl | rfl | rfl | rfl <;> rfl
  rcases h with hown | ⟨rfl, rfl, hr⟩
  · obtain ⟨v', w', hrun, hown', hg, _, hat⟩ := run_append_own_at (P := Tryz.prog) (wr.alloc (.cells #[.int .i64 c, .int .i64 y, .int .i64 n, .int .i64 k] 66)) w.heap.size 23 ty 66 i0 _ 4 32 Tryz.underlying23 hi hz0 hz1 hz2 rfl (by decide) v l.length (progCells l)
      (World.ownsRow.alloc hown _) ⟨wr.heap.size, 0, none⟩ 1 1 [.int .i64 c, .int .i64 y, .int .i64 n, .int .i64 k] rfl hcn hone (by unfold maxLen; omega) (by omega) (by have := haf.2.size; simp; omega)
    refine ⟨v', w', hrun, ?_, ins_grown haf hgl hown (v' := v') (GrB.alloc ⟨hg, ?_⟩), by have := hg.size; simp at this; omega⟩
    · unfold InsOwn
      rw [progCells_append, List.length_append]
      exact hown'
    · rcases hat with e | e
      · exact .inl e
      · exact .inr fun g hg' => by rw [e] at hg'; injection hg' with hg'; omega
  · obtain ⟨v', w', hrun, hown', hg⟩ := run_append_arg_grows (P := Tryz.prog) (wr.alloc (.cells #[.int .i64 c, .int .i64 y, .int .i64 n, .int .i64 k] 66)) 23 ty 66 i0 _ 4 32 Tryz.underlying23 hi hz0 hz1 hz2 rfl (by decide) ⟨w.heap.size, 4, none⟩ 1 1 (progCells [⟨2, 0, 0, 1⟩]) rfl
      (tail_cells (row_alloc hr _)) ⟨wr.heap.size, 0, none⟩ 1 1 [.int .i64 c, .int .i64 y, .int .i64 n, .int .i64 k] rfl hcn (by omega) (by unfold maxLen; omega) (by omega)
    refine ⟨v', w', hrun, ?_, ?_, by have := hg.size; simp at this; omega⟩
    · refine InsOwn.base (b := (wr.alloc (.cells #[.int .i64 c, .int .i64 y, .int .i64 n, .int .i64 k] 66)).heap.size) hown' ?_
      have := haf.2.size
      simp
      omega
    · have ha2 := haf.more (.cells #[.int .i64 c, .int .i64 y, .int .i64 n, .int .i64 k] 66)
      have hs := ha2.2.size
      exact ⟨ha2.1.keep fun q hq => hg.block q (by omega) (by simp), ⟨hg.os.trans ha2.2.os, hg.tape.trans ha2.2.tape, hg.output.trans ha2.2.output, Nat.le_trans hs hg.size,
        fun q hq hn => (hg.block q (by omega) (by simp)).trans (ha2.2.block q hq hn)⟩⟩
theorem wp_push_ls {o : Oper} {A : Act} {K : Act → World → Prop} {Q : Exit → Act → World → Prop} (s x : Operand)
    (ho : o.op = .call { callee := .builtin .append, args := #[s, x], argTypes := #[23, 23] }) {w wr : World} {g : Nat} {a : Option Addr} {len cap : Nat} {v : Value} {l : List Ins} (c y n k : Int)
    (haf : AfterSrc g a len cap w wr) (hgl : g < w.heap.size) (h : LSt w wr v l) (hlen : l.length ≤ 1000000) (hs : A.eval s = v) (hx : A.eval x = .slice (some ⟨wr.heap.size, 0, none⟩) 1 1)
    (hcont : ∀ v' w', InsOwn w.heap.size w' v' (l ++ [⟨c, y, n, k⟩]) → AfterSrc g a len cap w w' → wr.heap.size ≤ w'.heap.size → K (A.put o.dst v') w') :
    Oper.wp Tryz.prog o A (wr.alloc (.cells #[.int .i64 c, .int .i64 y, .int .i64 n, .int .i64 k] 66)) K Q := by
  obtain ⟨v', w', hr, h2, h3, h4⟩ := run_push_ls c y n k o.type haf hgl h hlen
  unfold Oper.wp execOp
  simp only [ho, resolve, invoke, builtin, Sem.run_bind, Sem.run_pure, Result.andThen_ok, List.map_toArray, List.map_cons, List.map_nil, hs, hx, hr]
  exact hcont _ _ h2 h3 h4
theorem wpList_push_ls {ops : Array Oper} {rest : List Oper} {o : Oper} {A : Act} {Q : Exit → Act → World → Prop} (hgd : o.guard = none) (s x : Operand)
    (ho : o.op = .call { callee := .builtin .append, args := #[s, x], argTypes := #[23, 23] }) {w wr : World} {g : Nat} {a : Option Addr} {len cap : Nat} {v : Value} {l : List Ins} (c y n k : Int)
    (haf : AfterSrc g a len cap w wr) (hgl : g < w.heap.size) (h : LSt w wr v l) (hlen : l.length ≤ 1000000) (hs : A.eval s = v) (hx : A.eval x = .slice (some ⟨wr.heap.size, 0, none⟩) 1 1)
    (hcont : ∀ v' w', InsOwn w.heap.size w' v' (l ++ [⟨c, y, n, k⟩]) → AfterSrc g a len cap w w' → wr.heap.size ≤ w'.heap.size → wpList Tryz.prog ops Q rest (A.put o.dst v') w') :
    wpList Tryz.prog ops Q (o :: rest) A (wr.alloc (.cells #[.int .i64 c, .int .i64 y, .int .i64 n, .int .i64 k] 66)) :=
  wpList_plain hgd fun _ hK => wp_push_ls s x ho c y n k haf hgl h hlen hs hx fun v' w' h2 h3 h4 => hK _ _ (hcont v' w' h2 h3 h4)
theorem step_push_ls {ops : Array Oper} {o : Oper} {A : Act} {K : Act → World → Prop} {Q : Exit → Act → World → Prop} {E : Prop} (hgd : o.guard = none) (s x : Operand)
    (ho : o.op = .call { callee := .builtin .append, args := #[s, x], argTypes := #[23, 23] }) {w wr : World} {g : Nat} {a : Option Addr} {len cap : Nat} {v : Value} {l : List Ins} (c y n k : Int)
    (haf : AfterSrc g a len cap w wr) (hgl : g < w.heap.size) (h : LSt w wr v l) (hlen : l.length ≤ 1000000) (hs : A.eval s = v) (hx : A.eval x = .slice (some ⟨wr.heap.size, 0, none⟩) 1 1)
    (hcont : ∀ v' w', InsOwn w.heap.size w' v' (l ++ [⟨c, y, n, k⟩]) → AfterSrc g a len cap w w' → wr.heap.size ≤ w'.heap.size → K (A.put o.dst v') w') :
    if Region.wanted o (yielded ops A.tmps) = true then Oper.wp Tryz.prog o A (wr.alloc (.cells #[.int .i64 c, .int .i64 y, .int .i64 n, .int .i64 k] 66)) K Q else E := by
  have hw : Region.wanted o (yielded ops A.tmps) = true := by simp [Region.wanted, hgd]
  rw [if_pos hw]
  exact wp_push_ls s x ho c y n k haf hgl h hlen hs hx hcont

end Go.Proofs.YtekmnopgaopmlaaGreatDoor

/- Draws of records walked. -/
set_option maxRecDepth 100000
set_option linter.unusedSimpArgs false
namespace Go.Proofs.YtekmnopgaopmlaaGreatDoor
open Go.RowKit
attribute [local go_sem ↓] Go.wp_at_zero Go.wp_at_succ

/-- Behind the drawn thing's append: the variable, the result and the source. -/
theorem src_push {w wr w2 w3 : World} {g R H : Nat} {a : Option Addr} {len cap : Nat} {cs : Array Value} {T : TypeId} {v : Value} {o : Obj} (haf : AfterSrc g a len cap w wr) (hgl : g < w.heap.size) (h2 : AfterSrc g a len cap wr.drew w2)
    (hrow : wr.heap[R]? = some (.cells cs T (0, 0))) (hH : wr.heap[H]? = some o) (hwR : w.heap.size ≤ R) (hwH : w.heap.size ≤ H) (hHR : H ≤ R) (hg3 : w2.grownBy w3 v.ownBlock) (hv : ∀ k, v.ownBlock = some k → R + 1 ≤ k ∧ k < w2.heap.size) :
    w3.heap[R]? = some (.cells cs T (0, 0)) ∧ w3.heap[H]? = some o ∧ AfterSrc g a len cap w w3 ∧ wr.heap.size ≤ w3.heap.size := by
  have hlt : R < wr.heap.size := row_here hrow
  have h2s : wr.heap.size ≤ w2.heap.size := h2.2.size
  have ha2 : AfterSrc g a len cap w w2 := haf.trans ⟨h2.1, ⟨h2.2.os, h2.2.tape, h2.2.output, h2.2.size, h2.2.block⟩⟩
  have r2 : w2.heap[R]? = some (.cells cs T (0, 0)) := h2.row (w := wr.drew) hrow (by omega)
  have q2 : w2.heap[H]? = some o := h2.row (w := wr.drew) hH (by omega)
  have hne : ∀ q, q ≤ R → some q ≠ v.ownBlock := fun q hq e => by have := (hv q e.symm).1; omega
  have hs1 := haf.2.size
  refine ⟨row_grown r2 hg3 (Ne.symm (hne R (Nat.le_refl _))), row_grown q2 hg3 (Ne.symm (hne H hHR)), ⟨ha2.1.keep fun q hq => hg3.block q (by omega) (hne q (by omega)), ⟨hg3.os.trans ha2.2.os, hg3.tape.trans ha2.2.tape, hg3.output.trans ha2.2.output, Nat.le_trans ha2.2.size hg3.size,
    fun q hq hn => (hg3.block q (by omega) (hne q (by omega))).trans (ha2.2.block q hq hn)⟩⟩, Nat.le_trans h2s hg3.size⟩

set_option maxHeartbeats 3200000 in
theorem srcRecordOf_any (g : Nat) (a : Option Addr) (len cap : Nat) (w : World) (hs : Src w g a len cap) :
    Calls Tryz.prog 41 #[.pointer (some ⟨g, 0, none⟩)] w fun e w' => ∃ (r : Rc) (u : Value), e = .returned (rcV r u) ∧ rcRight r = true ∧ WdOwn w.heap.size w' u r.args ∧ AfterSrc g a len cap w w' := by
  have hgl := hs.lt
  have ha0 : AfterSrc g a len cap w (w.alloc (.cells #[.int .i64 0, .int .i64 0, .int .i64 0, .int .i64 0, .slice none 0 0] 36)) := AfterSrc.of_below hs ((Below.refl _ _).alloc (Nat.le_refl _) _)
  have HA0 := Lib.hid ha0
  clear ha0 hs
  go_enter Tryz.func41, Tryz.ntmps41
  go_wp2_with fail
  refine (srcN_any g a len cap 5 _ HA0.out.1 (by omega) (by omega)).mono ?_
  rintro e w1 ⟨nr, rfl, hn0, hn1, _, hs1, hg1⟩
  have hnr : nr ≤ 4294967295 := by have := hn1 (by omega); omega
  have HA1 : Hid (AfterSrc g a len cap w w1) := Lib.hid (HA0.out.trans ⟨hs1, hg1⟩)
  have HR1 := Lib.hid (AfterSrc.row ⟨hs1, hg1⟩ (heap_alloc_new w _) (by omega))
  clear hn1 hs1 hg1
  go_wp2_with fail
  refine (srcWord_any g a len cap _ HA1.out.1).mono ?_
  rintro e w2 ⟨ih, il, rfl, hip, ha2⟩
  have HA2 := Lib.hid ((HA1.out.trans ha2).more (.cells #[.int .i64 nr, .int .i64 7, .int .i64 ih, .int .i64 il, .slice none 0 0] 36))
  have HH2 := Lib.hid (row_alloc (ha2.row HR1.out (by omega)) (.cells #[.int .i64 nr, .int .i64 7, .int .i64 ih, .int .i64 il, .slice none 0 0] 36))
  have HR2 := Lib.hid (heap_alloc_new w2 (.cells #[.int .i64 nr, .int .i64 7, .int .i64 ih, .int .i64 il, .slice none 0 0] 36))
  have hHR : w.heap.size < w2.heap.size := row_here (ha2.row HR1.out (by omega))
  have HIP := Lib.hid hip
  clear ha2 hip
  go_wp2_with fail
  refine (srcOne_any g a len cap 6 _ HA2.out.1 (by omega) (by omega)).mono ?_
  rintro e w3 ⟨b1, rfl, ha3⟩
  have HA3 := Lib.hid (HA2.out.trans ha3)
  have HH3 := Lib.hid (ha3.row HH2.out (by omega))
  have HR3 := Lib.hid (ha3.row HR2.out (by omega))
  clear ha3
  go_upto_if 11 with fail
  go_cut [] from 12 to 15 (fun ws => ∃ ar : Int, 0 ≤ ar ∧ ar ≤ 4294967295 ∧ ws.heap[w.heap.size]? = some (.cells #[.int .i64 0, .int .i64 0, .int .i64 0, .int .i64 0, .slice none 0 0] 36 (0, 0)) ∧ ws.heap[w2.heap.size]? = some (.cells #[.int .i64 nr, .int .i64 ar, .int .i64 ih, .int .i64 il, .slice none 0 0] 36 (0, 0)) ∧ AfterSrc g a len cap w ws)
  case first =>
    cases b1
    · go_wp2_with fail
      go_meet
      exact ⟨7, by omega, by omega, HH3.out, HR3.out, HA3.out⟩
    · go_wp2_with fail
      refine (srcN_any g a len cap 9 _ HA3.out.1 (by omega) (by omega)).mono ?_
      rintro e w4 ⟨ar, rfl, hr0, hr1, _, hs1, hg1⟩
      have har : ar ≤ 4294967295 := by have := hr1 (by omega); omega
      have ha4 : AfterSrc g a len cap w3 w4 := ⟨hs1, hg1⟩
      have HA4 := Lib.hid (HA3.out.trans ha4)
      have HH4 := Lib.hid (ha4.row HH3.out (by omega))
      have HR4 := Lib.hid (ha4.row HR3.out (by omega))
      have c1 := row_cell HR4.out 1
      have f1 := frozen_row HR4.out 1
      simp only [List.getElem?_toArray, List.getElem?_cons_zero, List.getElem?_cons_succ] at c1
      clear hr1 hs1 hg1 ha4
      go_wp2_with fail
      go_meet
      exact ⟨ar, by omega, by omega, row_other HH4.out _ _ (by omega), row_put HR4.out 1 _, HA4.out.put hgl (p := ⟨w2.heap.size, 1, none⟩) (show w.heap.size ≤ w2.heap.size by omega) _⟩
  case rest =>
  clear HA3 HH3 HR3 HA2 HH2 HR2
  obtain ⟨ar, ar0, ar1, hh, hr, ha⟩ := hcut
  have HA4 := Lib.hid ha
  have HH4 := Lib.hid hh
  have HR4 := Lib.hid hr
  clear ha hh hr
  go_wp2_with fail
  refine (srcOne_any g a len cap 10 _ HA4.out.1 (by omega) (by omega)).mono ?_
  rintro e w5 ⟨b2, rfl, ha5⟩
  have HA5 := Lib.hid (HA4.out.trans ha5)
  have HH5 := Lib.hid (ha5.row HH4.out (by omega))
  have HR5 := Lib.hid (ha5.row HR4.out (by omega))
  clear ha5
  go_upto_if 16 with fail
  go_cut [] from 17 to 20 (fun ws => ∃ nr' : Int, 0 ≤ nr' ∧ nr' ≤ 4294967295 ∧ ws.heap[w.heap.size]? = some (.cells #[.int .i64 0, .int .i64 0, .int .i64 0, .int .i64 0, .slice none 0 0] 36 (0, 0)) ∧ ws.heap[w2.heap.size]? = some (.cells #[.int .i64 nr', .int .i64 ar, .int .i64 ih, .int .i64 il, .slice none 0 0] 36 (0, 0)) ∧ AfterSrc g a len cap w ws)
  case first =>
    cases b2
    · go_wp2_with fail
      go_meet
      exact ⟨nr, by omega, by omega, HH5.out, HR5.out, HA5.out⟩
    · go_wp2_with fail
      refine (srcHalf_any g a len cap _ HA5.out.1).mono ?_
      rintro e w6 ⟨x, rfl, hx0, hx1, ha6⟩
      have HA6 := Lib.hid (HA5.out.trans ha6)
      have HH6 := Lib.hid (ha6.row HH5.out (by omega))
      have HR6 := Lib.hid (ha6.row HR5.out (by omega))
      have c0 := row_cell HR6.out 0
      have f0 := frozen_row HR6.out 0
      simp only [List.getElem?_toArray, List.getElem?_cons_zero] at c0
      clear ha6
      go_wp2_with fail
      go_meet
      exact ⟨x, by omega, by omega, row_other HH6.out _ _ (by omega), row_put HR6.out 0 _, HA6.out.put hgl (p := ⟨w2.heap.size, 0, none⟩) (show w.heap.size ≤ w2.heap.size by omega) _⟩
  case rest =>
  clear HA4 HH4 HR4 HA5 HH5 HR5 HA1 HR1 HA0
  obtain ⟨nr', nr0, nr1, hh, hr, ha⟩ := hcut
  have HA7 := Lib.hid ha
  have HH7 := Lib.hid hh
  have HR7 := Lib.hid hr
  have hs7 : w2.heap.size + 1 ≤ wc.heap.size := row_here hr
  clear ha hh hr
  go_wp2_with fail
  go_loopw [4] (fun i wr => ∃ (k : Nat) (u : Value) (l : List Wd), k ≤ 6 ∧ i = .int .i64 k ∧ l.length = k ∧ (l.all wdRight = true) ∧ wr.heap[w2.heap.size]? = some (.cells #[.int .i64 nr', .int .i64 ar, .int .i64 ih, .int .i64 il, u] 36 (0, 0)) ∧ wr.heap[w.heap.size]? = some (.cells #[.int .i64 0, .int .i64 0, .int .i64 0, .int .i64 0, .slice none 0 0] 36 (0, 0)) ∧ WdOwn (w2.heap.size + 1) wr u l ∧ AfterSrc g a len cap w wr ∧ w2.heap.size + 1 ≤ wr.heap.size)
    (fun i _ => 6 - (intOf i).toNat)
  case atStart => exact ⟨0, _, [], by omega, rfl, rfl, rfl, HR7.out, HH7.out, OwnL.nil _ _, HA7.out, hs7⟩
  case round =>
    obtain ⟨k, u, l, hk, rfl, hlen, hall, hrow, hres, hown, haf, hsz⟩ := hrel
    obtain ⟨ua, ucap, rfl⟩ := hown.slice
    have HROW := Lib.hid hrow
    have HRES := Lib.hid hres
    have HOWN := Lib.hid hown
    have HAF := Lib.hid haf
    have HL := Lib.hid hlen
    have HALL := Lib.hid hall
    clear hrow hres hown haf hlen hall
    by_cases hlt : k < 6
    · have c4 : wr.cell? ⟨w2.heap.size, 4, none⟩ = some (.slice ua l.length ucap) := by rw [cell_of_row _ _ _ _ _ _ HROW.out]; rfl
      have hq := srcWord_any g a len cap wr.drew HAF.out.1
      have QQ := Lib.hid hq
      have hlen6 : l.length ≤ 1000000000 := by have := HL.out; omega
      clear hq
      go_wp2_with fail
      go_region_law (first
          | ((refine step_push_wd (by rfl) _ _ (by rfl) _ _ _ (w2.heap.size + 1) (.slice ua l.length ucap) l (by rfl) hown2 (by rfl) hlen6 (by have := hs2; omega) ?_; intro v3 w3 hown3 hg3; have hkp := src_push HAF.out hgl HA2.out HROW.out HRES.out (by omega) (Nat.le_refl _) (by omega) hg3.1 hown2.lt; have c6 : w3.cell? ⟨w2.heap.size, 4, none⟩ = some (.slice ua l.length ucap) := (cell_of_row _ _ _ _ _ _ hkp.1).trans rfl; have f6 := frozen_row hkp.1 4; have HKP := Lib.hid hkp; clear hkp; obtain ⟨va, vcap, rfl⟩ := hown3.slice))
          | ((go_simp; (with_reducible refine QQ.out.mono ?_); rintro e w5 ⟨xh, xl, rfl, hx, ha2⟩; have HA2 := Lib.hid ha2; have c5 : w5.cell? ⟨w2.heap.size, 4, none⟩ = some (.slice ua l.length ucap) := (cell_of_row _ _ _ _ _ _ (ha2.row (w := wr.drew) HROW.out (by omega))).trans rfl; have hs2 : w2.heap.size + 1 ≤ w5.heap.size := Nat.le_trans hsz ha2.2.size; have hlt5 : w2.heap.size < w5.heap.size := hs2; have hown2 : WdOwn (w2.heap.size + 1) w5 (.slice ua l.length ucap) l := World.ownsRow.kept (w := wr.drew) HOWN.out ha2.2 (by
                rcases h : (Value.slice ua l.length ucap).ownBlock with _ | q
                · exact .inl rfl
                · exact .inr (fun e => by have := (HOWN.out.lt q h).1; injection e with e; omega)); have HX := Lib.hid hx; clear ha2 hx; dsimp only)))
      all_goals
        have hnx : (l ++ [(⟨xh, xl⟩ : Wd)]).length = k + 1 := by rw [List.length_append, HL.out]; rfl
        have hax : (l ++ [(⟨xh, xl⟩ : Wd)]).all wdRight = true := by rw [List.all_append, HALL.out]; simp [HX.out]
        have hoX : ∀ v : Value, WdOwn (w2.heap.size + 1) (w3.setCell ⟨w2.heap.size, 4, none⟩ v) (.slice va (l.length + 1) vcap) (l ++ [⟨xh, xl⟩]) := fun v => by simpa only [List.length_append, List.length_cons, List.length_nil, Nat.zero_add] using hown3.setBelow (a := ⟨w2.heap.size, 4, none⟩) (by simp) v
        have HNX := Lib.hid hnx
        have HAX := Lib.hid hax
        have HOX := Lib.hid hoX
        clear hnx hax hoX hown3 hg3
        go_wp2_with fail
        go_roundw
        case rel => exact ⟨k + 1, _, l ++ [⟨xh, xl⟩], by omega, by go_num, HNX.out, HAX.out, row_put HKP.out.1 4 _, row_other HKP.out.2.1 _ _ (by omega), HOX.out _, HKP.out.2.2.1.put hgl (p := ⟨w2.heap.size, 4, none⟩) (show w.heap.size ≤ w2.heap.size by omega) _, by have b := HKP.out.2.2.2; simp [World.setCell]; omega⟩
        case measure => simp [intOf]; omega
    · have hk6 : k = 6 := by omega
      have HK := Lib.hid hk6
      clear hk6
      have c0 := row_cell HROW.out 0
      have c1 := row_cell HROW.out 1
      have c2 := row_cell HROW.out 2
      have c3 := row_cell HROW.out 3
      have c4 := row_cell HROW.out 4
      have d0 := row_cell HRES.out 0
      have d1 := row_cell HRES.out 1
      have d2 := row_cell HRES.out 2
      have d3 := row_cell HRES.out 3
      have d4 := row_cell HRES.out 4
      have f0 := frozen_row HRES.out 0
      have f1 := frozen_row HRES.out 1
      have f2 := frozen_row HRES.out 2
      have f3 := frozen_row HRES.out 3
      have f4 := frozen_row HRES.out 4
      simp only [List.getElem?_toArray, List.getElem?_cons_zero, List.getElem?_cons_succ] at c0 c1 c2 c3 c4 d0 d1 d2 d3 d4
      go_wp2_with fail
      exact bodyPost_ret (v := .agg #[.int .i64 nr', .int .i64 ar, .int .i64 ih, .int .i64 il, .slice ua l.length ucap]) (by simp [results, Tryz.results41, go_sem, d0, d1, d2, d3, d4]) rfl
        ⟨⟨nr', ar, ⟨ih, il⟩, l⟩, _, rfl, by simp only [rcRight, HIP.out, HALL.out, isB_yes nr0 nr1, isB_yes ar0 ar1, HL.out, HK.out]; rfl,
          (((((HOWN.out.setBelow (by simp; omega) _).setBelow (by simp; omega) _).setBelow (by simp; omega) _).setBelow (by simp; omega) _).setBelow (by simp; omega) _).base (by omega),
          ((((HAF.out.put hgl (p := ⟨w.heap.size, 0, none⟩) (Nat.le_refl _) _).put hgl (p := ⟨w.heap.size, 1, none⟩) (Nat.le_refl _) _).put hgl (p := ⟨w.heap.size, 2, none⟩) (Nat.le_refl _) _).put hgl (p := ⟨w.heap.size, 3, none⟩) (Nat.le_refl _) _).put hgl (p := ⟨w.heap.size, 4, none⟩) (Nat.le_refl _) _⟩

end Go.Proofs.YtekmnopgaopmlaaGreatDoor

/- Draws of records that may be wrong; what the laws of chapter 4 draw. -/
set_option maxRecDepth 100000
set_option linter.unusedSimpArgs false
namespace Go.Proofs.YtekmnopgaopmlaaGreatDoor
open Go.RowKit
attribute [local go_sem ↓] Go.wp_at_zero Go.wp_at_succ

theorem wf_of_right {x : Wd} (h : wdRight x = true) : x.wf := by
  have := wd_bounds h
  unfold Wd.wf In64
  omega

theorem AfterSrc.grown {g : Nat} {a : Option Addr} {len cap : Nat} {w W : World} (h : AfterSrc g a len cap w W) : w.grownBy W (some g) := h.2

theorem own_setFirst {w : World} {base b n cap : Nat} {x0 : Wd} {tl : List Wd} (h : WdOwn base w (.slice (some ⟨b, 0, none⟩) n cap) (x0 :: tl)) (x : Int) : WdOwn base (w.setCell ⟨b, 0, none⟩ (.int .i64 x)) (.slice (some ⟨b, 0, none⟩) n cap) (⟨x, x0.l⟩ :: tl) := by
  obtain ⟨a', cap', e⟩ := OwnL.slice h
  simp only [Value.slice.injEq] at e
  obtain ⟨_, rfl, _⟩ := e
  exact (World.ownsRow.stored h 0 (.int .i64 x)).1

theorem own_first {w : World} {base b n cap : Nat} {x : Wd} {tl : List Wd} (h : WdOwn base w (.slice (some ⟨b, 0, none⟩) n cap) (x :: tl)) : w.cell? ⟨b, 0, none⟩ = some (.int .i64 x.h) ∧ w.frozen? ⟨b, 0, none⟩ = false := by
  obtain ⟨a', cap', e⟩ := OwnL.slice h
  simp only [Value.slice.injEq] at e
  obtain ⟨_, rfl, _⟩ := e
  have q := wd_own_at (k := 0) (x := x) h rfl
  simp only [Nat.zero_mul] at q
  exact ⟨q.1, q.2.2.1⟩

theorem WdAt.tail {w : World} {B b o n cap : Nat} {x : Wd} {l : List Wd} (h : WdAt w B (.slice (some ⟨b, o, none⟩) n cap) (x :: l)) : WdAt w B (.slice (some ⟨b, o + 2, none⟩) l.length (cap - 1)) l := by
  obtain ⟨hS, ⟨a', cap', e, h1, h2, h3⟩, hwf⟩ := h
  simp only [Value.slice.injEq] at e
  obtain ⟨rfl, rfl, rfl⟩ := e
  simp only [List.length_cons] at h1
  refine ⟨hS, ⟨_, _, rfl, by omega, by omega, fun _ => ?_⟩, fun y hy => hwf y (by simp [hy])⟩
  obtain ⟨b1, o1, e1, hb, hc⟩ := h3 (by simp)
  simp only [Option.some.injEq, Addr.mk.injEq] at e1
  obtain ⟨rfl, rfl, _⟩ := e1
  refine ⟨b, o + 2, rfl, hb, fun i v hv => ?_⟩
  have := hc (i + 2) v (by simpa [wdCells] using hv)
  rwa [show o + (i + 2) = o + 2 + i by omega] at this

theorem own_kept {w w' : World} {base g b n cap : Nat} {l : List Wd} (h : WdOwn base w (.slice (some ⟨b, 0, none⟩) n cap) l) (hg : w.grownBy w' (some g)) (hne : b ≠ g) : WdOwn base w' (.slice (some ⟨b, 0, none⟩) n cap) l :=
  World.ownsRow.kept h hg (.inr (fun e => hne (by injection e)))

theorem WdAt.put {w : World} {B b o n cap : Nat} {l : List Wd} (h : WdAt w B (.slice (some ⟨b, o, none⟩) n cap) l) {p : Addr} (hp : p.block ≠ b) (v : Value) : WdAt (w.setCell p v) B (.slice (some ⟨b, o, none⟩) n cap) l := by
  obtain ⟨hS, ⟨a', cap', e, h1, h2, h3⟩, hwf⟩ := h
  simp only [Value.slice.injEq] at e
  obtain ⟨rfl, rfl, rfl⟩ := e
  refine ⟨hS, ⟨_, _, rfl, h1, h2, fun h0 => ?_⟩, hwf⟩
  obtain ⟨b1, o1, e1, hb, hc⟩ := h3 h0
  simp only [Option.some.injEq, Addr.mk.injEq] at e1
  obtain ⟨rfl, rfl, _⟩ := e1
  exact ⟨b, o, rfl, hb, fun i u hu => (World.cell?_of_block (Below.heap_setCell w p v b (Ne.symm hp))).trans (hc i u hu)⟩

set_option maxHeartbeats 3200000 in
theorem srcRecord_any (g : Nat) (a : Option Addr) (len cap : Nat) (w : World) (hs : Src w g a len cap) :
    Calls Tryz.prog 43 #[.pointer (some ⟨g, 0, none⟩)] w fun e w' => ∃ (r : Rc) (u : Value), e = .returned (rcV r u) ∧ r.wf ∧ WdAt w' w'.heap.size u r.args ∧ r.args.length ≤ 6 ∧ (∃ b o n c, u = .slice (some ⟨b, o, none⟩) n c ∧ w.heap.size ≤ b) ∧ AfterSrc g a len cap w w' := by
  have hgl := hs.lt
  have ha0 : AfterSrc g a len cap w (w.alloc (.cells #[.int .i64 0, .int .i64 0, .int .i64 0, .int .i64 0, .slice none 0 0] 36)) := AfterSrc.of_below hs ((Below.refl _ _).alloc (Nat.le_refl _) _)
  have HA0 := Lib.hid ha0
  clear ha0 hs
  go_enter Tryz.func43, Tryz.ntmps43
  go_wp2_with fail
  refine (srcRecordOf_any g a len cap _ HA0.out.1).mono ?_
  rintro e w1 ⟨⟨nr, ar, ⟨ih, il⟩, l⟩, u, rfl, hr, ho1, ha1⟩
  obtain ⟨hn, har, hip, hlen, hargs⟩ := rcRight_parts hr
  simp only at ho1 hn har hip hlen hargs
  obtain ⟨b, ucap, rfl, hb0, hb1, hcap⟩ := ho1.more (by omega)
  rw [hlen] at ho1 hcap
  have HO1 := Lib.hid ho1
  simp only [World.size_alloc] at hb0
  have HA1 := Lib.hid ((HA0.out.trans ha1).more (.cells #[.int .i64 nr, .int .i64 ar, .int .i64 ih, .int .i64 il, .slice (some ⟨b, 0, none⟩) 6 ucap] 36))
  have HH1 := Lib.hid (row_alloc (ha1.row (heap_alloc_new w _) (by omega)) (.cells #[.int .i64 nr, .int .i64 ar, .int .i64 ih, .int .i64 il, .slice (some ⟨b, 0, none⟩) 6 ucap] 36))
  have HR1 := Lib.hid (heap_alloc_new w1 (.cells #[.int .i64 nr, .int .i64 ar, .int .i64 ih, .int .i64 il, .slice (some ⟨b, 0, none⟩) 6 ucap] 36))
  have hHR : w.heap.size < w1.heap.size := row_here (ha1.row (heap_alloc_new w _) (by omega))
  have HWF : Hid (∀ x ∈ l, x.wf) := Lib.hid (fun x hx => by
    obtain ⟨i, hi, rfl⟩ := List.getElem_of_mem hx
    exact wf_of_right (hargs i hi))
  clear ha1 hr ho1 hargs
  go_wp2_with fail
  refine (srcN_any g a len cap 12 _ HA1.out.1 (by omega) (by omega)).mono ?_
  rintro e w2 ⟨v, rfl, hv0, hv1, _, hs2, hg2⟩
  have ha2 : AfterSrc g a len cap (w1.alloc (.cells #[.int .i64 nr, .int .i64 ar, .int .i64 ih, .int .i64 il, .slice (some ⟨b, 0, none⟩) 6 ucap] 36)) w2 := ⟨hs2, hg2⟩
  have HA2 := Lib.hid (HA1.out.trans ha2)
  have HH2 := Lib.hid (ha2.row HH1.out (by omega))
  have HR2 := Lib.hid (ha2.row HR1.out (by omega))
  have HO2 : Hid (WdOwn (w.heap.size + 1) w2 (.slice (some ⟨b, 0, none⟩) 6 ucap) l) := Lib.hid (by
    have h := own_kept (OwnL.alloc HO1.out (.cells #[.int .i64 nr, .int .i64 ar, .int .i64 ih, .int .i64 il, .slice (some ⟨b, 0, none⟩) 6 ucap] 36)) hg2 (by omega)
    simp only [World.size_alloc] at h
    exact h)
  have hb2 : b < w2.heap.size := Nat.lt_of_lt_of_le hb1 (Nat.le_trans (by simp) hg2.size)
  have hipw := wf_of_right hip
  have hnr : In64 nr := ⟨by omega, by omega⟩
  have harr : In64 ar := ⟨by omega, by omega⟩
  clear hs2 hg2 ha2 hip hn har
  by_cases h0 : v = 0
  · subst h0
    have hl : ∀ W, AfterSrc g a len cap w W → W.heap[w.heap.size]? = some (.cells #[.int .i64 0, .int .i64 0, .int .i64 0, .int .i64 0, .slice none 0 0] 36 (0, 0)) → True := fun _ _ _ => trivial
    clear hl
    have HA3 := Lib.hid (HA2.out.more (.cells #[.int .i64 (-1), .int .i64 4294967295, .int .i64 4294967296] 2))
    go_wp2_with fail
    refine (srcN_any g a len cap 3 _ HA3.out.1 (by omega) (by omega)).mono ?_
    rintro e w3 ⟨i, rfl, hi0, hi1, _, hs3, hg3⟩
    have ha3 : AfterSrc g a len cap _ w3 := ⟨hs3, hg3⟩
    have HA4 := Lib.hid (HA3.out.trans ha3)
    have HH4 := Lib.hid (ha3.row (row_alloc HH2.out _) (by omega))
    have HR4 := Lib.hid (ha3.row (row_alloc HR2.out _) (by omega))
    have hlit := ha3.row (heap_alloc_new w2 _) (by have := HA2.out.lt; omega)
    have HO4 : Hid (WdOwn (w.heap.size + 1) w3 (.slice (some ⟨b, 0, none⟩) 6 ucap) l) := Lib.hid (own_kept (OwnL.alloc HO2.out _) hg3 (by omega))
    have hi3 : i < 3 := hi1 (by omega)
    have hw2 : w2.heap.size ≠ w1.heap.size := by have := row_here HR2.out; omega
    have HLIT := Lib.hid hlit
    clear hs3 hg3 ha3 hlit hi1
    rcases (by omega : i = 0 ∨ i = 1 ∨ i = 2) with rfl | rfl | rfl
    · have c := row_cell HLIT.out 0
      simp only [List.getElem?_toArray, List.getElem?_cons_zero, List.getElem?_cons_succ] at c
      have c0 := row_cell HR4.out 0
      have g0 := frozen_row HR4.out 0
      have d0 := row_cell HH4.out 0
      have f0 := frozen_row HH4.out 0
      have c1 := row_cell HR4.out 1
      have g1 := frozen_row HR4.out 1
      have d1 := row_cell HH4.out 1
      have f1 := frozen_row HH4.out 1
      have c2 := row_cell HR4.out 2
      have g2 := frozen_row HR4.out 2
      have d2 := row_cell HH4.out 2
      have f2 := frozen_row HH4.out 2
      have c3 := row_cell HR4.out 3
      have g3 := frozen_row HR4.out 3
      have d3 := row_cell HH4.out 3
      have f3 := frozen_row HH4.out 3
      have c4 := row_cell HR4.out 4
      have g4 := frozen_row HR4.out 4
      have d4 := row_cell HH4.out 4
      have f4 := frozen_row HH4.out 4
      simp only [List.getElem?_toArray, List.getElem?_cons_zero, List.getElem?_cons_succ] at c0 c1 c2 c3 c4 d0 d1 d2 d3 d4
      go_wp2_with fail
      exact bodyPost_ret (v := .agg #[.int .i64 (-1), .int .i64 ar, .int .i64 ih, .int .i64 il, .slice (some ⟨b, 0, none⟩) 6 ucap]) (by simp [results, Tryz.results43, go_sem, d0, d1, d2, d3, d4]) rfl
        ⟨⟨(-1), ar, ⟨ih, il⟩, l⟩, _, rfl, ⟨show In64 (-1) from ⟨by omega, by omega⟩, harr, hipw, HWF.out⟩, LAt.up (WdAt.put (WdAt.put (WdAt.put (WdAt.put (WdAt.put (WdAt.put (OwnL.lAt wdS HO4.out HWF.out) (p := ⟨w1.heap.size, 0, none⟩) (show w1.heap.size ≠ b by omega) _) (p := ⟨w.heap.size, 0, none⟩) (show w.heap.size ≠ b by omega) _) (p := ⟨w.heap.size, 1, none⟩) (show w.heap.size ≠ b by omega) _) (p := ⟨w.heap.size, 2, none⟩) (show w.heap.size ≠ b by omega) _) (p := ⟨w.heap.size, 3, none⟩) (show w.heap.size ≠ b by omega) _) (p := ⟨w.heap.size, 4, none⟩) (show w.heap.size ≠ b by omega) _) (by simp), by simp only [hlen]; omega, ⟨b, 0, _, _, rfl, by omega⟩, ((((((HA4.out.put hgl (p := ⟨w1.heap.size, 0, none⟩) (show w.heap.size ≤ w1.heap.size by omega) _).put hgl (p := ⟨w.heap.size, 0, none⟩) (Nat.le_refl _) _).put hgl (p := ⟨w.heap.size, 1, none⟩) (Nat.le_refl _) _).put hgl (p := ⟨w.heap.size, 2, none⟩) (Nat.le_refl _) _).put hgl (p := ⟨w.heap.size, 3, none⟩) (Nat.le_refl _) _).put hgl (p := ⟨w.heap.size, 4, none⟩) (Nat.le_refl _) _)⟩
    · have c := row_cell HLIT.out 1
      simp only [List.getElem?_toArray, List.getElem?_cons_zero, List.getElem?_cons_succ] at c
      have c0 := row_cell HR4.out 0
      have g0 := frozen_row HR4.out 0
      have d0 := row_cell HH4.out 0
      have f0 := frozen_row HH4.out 0
      have c1 := row_cell HR4.out 1
      have g1 := frozen_row HR4.out 1
      have d1 := row_cell HH4.out 1
      have f1 := frozen_row HH4.out 1
      have c2 := row_cell HR4.out 2
      have g2 := frozen_row HR4.out 2
      have d2 := row_cell HH4.out 2
      have f2 := frozen_row HH4.out 2
      have c3 := row_cell HR4.out 3
      have g3 := frozen_row HR4.out 3
      have d3 := row_cell HH4.out 3
      have f3 := frozen_row HH4.out 3
      have c4 := row_cell HR4.out 4
      have g4 := frozen_row HR4.out 4
      have d4 := row_cell HH4.out 4
      have f4 := frozen_row HH4.out 4
      simp only [List.getElem?_toArray, List.getElem?_cons_zero, List.getElem?_cons_succ] at c0 c1 c2 c3 c4 d0 d1 d2 d3 d4
      go_wp2_with fail
      exact bodyPost_ret (v := .agg #[.int .i64 4294967295, .int .i64 ar, .int .i64 ih, .int .i64 il, .slice (some ⟨b, 0, none⟩) 6 ucap]) (by simp [results, Tryz.results43, go_sem, d0, d1, d2, d3, d4]) rfl
        ⟨⟨4294967295, ar, ⟨ih, il⟩, l⟩, _, rfl, ⟨show In64 4294967295 from ⟨by omega, by omega⟩, harr, hipw, HWF.out⟩, LAt.up (WdAt.put (WdAt.put (WdAt.put (WdAt.put (WdAt.put (WdAt.put (OwnL.lAt wdS HO4.out HWF.out) (p := ⟨w1.heap.size, 0, none⟩) (show w1.heap.size ≠ b by omega) _) (p := ⟨w.heap.size, 0, none⟩) (show w.heap.size ≠ b by omega) _) (p := ⟨w.heap.size, 1, none⟩) (show w.heap.size ≠ b by omega) _) (p := ⟨w.heap.size, 2, none⟩) (show w.heap.size ≠ b by omega) _) (p := ⟨w.heap.size, 3, none⟩) (show w.heap.size ≠ b by omega) _) (p := ⟨w.heap.size, 4, none⟩) (show w.heap.size ≠ b by omega) _) (by simp), by simp only [hlen]; omega, ⟨b, 0, _, _, rfl, by omega⟩, ((((((HA4.out.put hgl (p := ⟨w1.heap.size, 0, none⟩) (show w.heap.size ≤ w1.heap.size by omega) _).put hgl (p := ⟨w.heap.size, 0, none⟩) (Nat.le_refl _) _).put hgl (p := ⟨w.heap.size, 1, none⟩) (Nat.le_refl _) _).put hgl (p := ⟨w.heap.size, 2, none⟩) (Nat.le_refl _) _).put hgl (p := ⟨w.heap.size, 3, none⟩) (Nat.le_refl _) _).put hgl (p := ⟨w.heap.size, 4, none⟩) (Nat.le_refl _) _)⟩
    · have c := row_cell HLIT.out 2
      simp only [List.getElem?_toArray, List.getElem?_cons_zero, List.getElem?_cons_succ] at c
      have c0 := row_cell HR4.out 0
      have g0 := frozen_row HR4.out 0
      have d0 := row_cell HH4.out 0
      have f0 := frozen_row HH4.out 0
      have c1 := row_cell HR4.out 1
      have g1 := frozen_row HR4.out 1
      have d1 := row_cell HH4.out 1
      have f1 := frozen_row HH4.out 1
      have c2 := row_cell HR4.out 2
      have g2 := frozen_row HR4.out 2
      have d2 := row_cell HH4.out 2
      have f2 := frozen_row HH4.out 2
      have c3 := row_cell HR4.out 3
      have g3 := frozen_row HR4.out 3
      have d3 := row_cell HH4.out 3
      have f3 := frozen_row HH4.out 3
      have c4 := row_cell HR4.out 4
      have g4 := frozen_row HR4.out 4
      have d4 := row_cell HH4.out 4
      have f4 := frozen_row HH4.out 4
      simp only [List.getElem?_toArray, List.getElem?_cons_zero, List.getElem?_cons_succ] at c0 c1 c2 c3 c4 d0 d1 d2 d3 d4
      go_wp2_with fail
      exact bodyPost_ret (v := .agg #[.int .i64 4294967296, .int .i64 ar, .int .i64 ih, .int .i64 il, .slice (some ⟨b, 0, none⟩) 6 ucap]) (by simp [results, Tryz.results43, go_sem, d0, d1, d2, d3, d4]) rfl
        ⟨⟨4294967296, ar, ⟨ih, il⟩, l⟩, _, rfl, ⟨show In64 4294967296 from ⟨by omega, by omega⟩, harr, hipw, HWF.out⟩, LAt.up (WdAt.put (WdAt.put (WdAt.put (WdAt.put (WdAt.put (WdAt.put (OwnL.lAt wdS HO4.out HWF.out) (p := ⟨w1.heap.size, 0, none⟩) (show w1.heap.size ≠ b by omega) _) (p := ⟨w.heap.size, 0, none⟩) (show w.heap.size ≠ b by omega) _) (p := ⟨w.heap.size, 1, none⟩) (show w.heap.size ≠ b by omega) _) (p := ⟨w.heap.size, 2, none⟩) (show w.heap.size ≠ b by omega) _) (p := ⟨w.heap.size, 3, none⟩) (show w.heap.size ≠ b by omega) _) (p := ⟨w.heap.size, 4, none⟩) (show w.heap.size ≠ b by omega) _) (by simp), by simp only [hlen]; omega, ⟨b, 0, _, _, rfl, by omega⟩, ((((((HA4.out.put hgl (p := ⟨w1.heap.size, 0, none⟩) (show w.heap.size ≤ w1.heap.size by omega) _).put hgl (p := ⟨w.heap.size, 0, none⟩) (Nat.le_refl _) _).put hgl (p := ⟨w.heap.size, 1, none⟩) (Nat.le_refl _) _).put hgl (p := ⟨w.heap.size, 2, none⟩) (Nat.le_refl _) _).put hgl (p := ⟨w.heap.size, 3, none⟩) (Nat.le_refl _) _).put hgl (p := ⟨w.heap.size, 4, none⟩) (Nat.le_refl _) _)⟩
  have q0 : (v == 0) = false := by simpa using h0
  by_cases h1 : v = 1
  · subst h1
    obtain ⟨x0, tl, rfl⟩ : ∃ x0 tl, l = x0 :: tl := by
      cases l with
      | nil => simp at hlen
      | cons x0 tl => exact ⟨x0, tl, rfl⟩
    have h5 : tl.length = 5 := by simpa using hlen
    have hu1 : ucap ≠ 1 := by omega
    have hu6 : (6 : Int) ≤ (ucap : Int) := by omega
    have hu0 : (1 : Int) ≤ (ucap : Int) := by omega
    have HT : Hid (WdAt w2 w2.heap.size (.slice (some ⟨b, 2, none⟩) 5 (ucap - 1)) tl) := Lib.hid (by
      have h := WdAt.tail (OwnL.lAt wdS HO2.out HWF.out)
      simpa only [h5, Nat.zero_add] using h)
    have c0 := row_cell HR2.out 0
    have g0 := frozen_row HR2.out 0
    have d0 := row_cell HH2.out 0
    have f0 := frozen_row HH2.out 0
    have c1 := row_cell HR2.out 1
    have g1 := frozen_row HR2.out 1
    have d1 := row_cell HH2.out 1
    have f1 := frozen_row HH2.out 1
    have c2 := row_cell HR2.out 2
    have g2 := frozen_row HR2.out 2
    have d2 := row_cell HH2.out 2
    have f2 := frozen_row HH2.out 2
    have c3 := row_cell HR2.out 3
    have g3 := frozen_row HR2.out 3
    have d3 := row_cell HH2.out 3
    have f3 := frozen_row HH2.out 3
    have c4 := row_cell HR2.out 4
    have g4 := frozen_row HR2.out 4
    have d4 := row_cell HH2.out 4
    have f4 := frozen_row HH2.out 4
    simp only [List.getElem?_toArray, List.getElem?_cons_zero, List.getElem?_cons_succ] at c0 c1 c2 c3 c4 d0 d1 d2 d3 d4
    go_wp2_with fail
    exact bodyPost_ret (v := .agg #[.int .i64 nr, .int .i64 ar, .int .i64 ih, .int .i64 il, .slice (some ⟨b, 2, none⟩) 5 (ucap - 1)]) (by simp [results, Tryz.results43, go_sem, d0, d1, d2, d3, d4]) rfl
      ⟨⟨nr, ar, ⟨ih, il⟩, tl⟩, _, rfl, ⟨hnr, harr, hipw, fun x hx => HWF.out x (by simp [hx])⟩, LAt.up (WdAt.put (WdAt.put (WdAt.put (WdAt.put (WdAt.put (WdAt.put HT.out (p := ⟨w1.heap.size, 4, none⟩) (show w1.heap.size ≠ b by omega) _) (p := ⟨w.heap.size, 0, none⟩) (show w.heap.size ≠ b by omega) _) (p := ⟨w.heap.size, 1, none⟩) (show w.heap.size ≠ b by omega) _) (p := ⟨w.heap.size, 2, none⟩) (show w.heap.size ≠ b by omega) _) (p := ⟨w.heap.size, 3, none⟩) (show w.heap.size ≠ b by omega) _) (p := ⟨w.heap.size, 4, none⟩) (show w.heap.size ≠ b by omega) _) (by simp), by simp only [h5]; omega, ⟨b, 2, _, _, rfl, by omega⟩, ((((((HA2.out.put hgl (p := ⟨w1.heap.size, 4, none⟩) (show w.heap.size ≤ w1.heap.size by omega) _).put hgl (p := ⟨w.heap.size, 0, none⟩) (Nat.le_refl _) _).put hgl (p := ⟨w.heap.size, 1, none⟩) (Nat.le_refl _) _).put hgl (p := ⟨w.heap.size, 2, none⟩) (Nat.le_refl _) _).put hgl (p := ⟨w.heap.size, 3, none⟩) (Nat.le_refl _) _).put hgl (p := ⟨w.heap.size, 4, none⟩) (Nat.le_refl _) _)⟩
  have q1 : (v == 1) = false := by simpa using h1
  by_cases h2 : v = 2
  · subst h2
    obtain ⟨x0, tl, rfl⟩ : ∃ x0 tl, l = x0 :: tl := by
      cases l with
      | nil => simp at hlen
      | cons x0 tl => exact ⟨x0, tl, rfl⟩
    have hu6 : (6 : Int) ≤ (ucap : Int) := by omega
    have c4 := row_cell HR2.out 4
    simp only [List.getElem?_toArray, List.getElem?_cons_zero, List.getElem?_cons_succ] at c4
    have HA3 := Lib.hid (HA2.out.more (.cells #[.int .i64 (-1), .int .i64 4294967296] 2))
    have hRlt : w1.heap.size < w2.heap.size := row_here HR2.out
    have hbH : b ≠ w.heap.size := by omega
    have hbR : b ≠ w1.heap.size := by omega
    have HsA : Src w2.drew g a len cap := HA2.out.1
    have HsB : Src (w2.alloc (.cells #[.int .i64 (-1), .int .i64 4294967296] 2)).drew g a len cap := HA3.out.1
    have hwx : ∀ x : Int, In64 x → ∀ y ∈ ((⟨x, x0.l⟩ : Wd) :: tl), y.wf := by
      intro x hxi y hy
      rcases List.mem_cons.1 hy with rfl | hy
      · exact ⟨hxi, (HWF.out x0 (by simp)).2⟩
      · exact HWF.out y (by simp [hy])
    have HWX := Lib.hid hwx
    have hxs : ∀ n : Nat, n < 2 → ∃ x : Int, In64 x ∧ (#[.int .i64 (-1), .int .i64 4294967296] : Array Value)[n]? = some (.int .i64 x) := by
      intro n hn
      rcases (by omega : n = 0 ∨ n = 1) with rfl | rfl
      · exact ⟨-1, ⟨by omega, by omega⟩, rfl⟩
      · exact ⟨4294967296, ⟨by omega, by omega⟩, rfl⟩
    have HXS := Lib.hid hxs
    clear hxs
    clear hwx
    go_wp2_with fail
    go_region_with (go_at_call 29; (refine (srcN_any g a len cap 2 _ (by first | exact HsA | exact HsB) (by omega) (by omega)).mono ?_); rintro e w3 ⟨i, rfl, hi0, hi1, _, hs3, hg3⟩; obtain ⟨n, rfl⟩ := Int.eq_ofNat_of_zero_le hi0; have hn2 : (n : Int) < 2 := hi1 (by omega); obtain ⟨x, hxx, hxi⟩ := HXS.out n (by omega); (first | (have ha3 : AfterSrc g a len cap w2 w3 := ⟨hs3, ⟨hg3.os, hg3.tape, hg3.output, hg3.size, hg3.block⟩⟩; have HAX := Lib.hid (HA2.out.trans ha3); have HHX := Lib.hid (ha3.row HH2.out (by omega)); have HRX := Lib.hid (ha3.row HR2.out (by omega)); have HOX : Hid (WdOwn (w.heap.size + 1) w3 (.slice (some ⟨b, 0, none⟩) 6 ucap) (x0 :: tl)) := Lib.hid (own_kept HO2.out ha3.grown (by omega))) | (have ha3 : AfterSrc g a len cap (w2.alloc (.cells #[.int .i64 (-1), .int .i64 4294967296] 2)) w3 := ⟨hs3, ⟨hg3.os, hg3.tape, hg3.output, hg3.size, hg3.block⟩⟩; have HAX := Lib.hid (HA3.out.trans ha3); have HHX := Lib.hid (ha3.row (row_alloc HH2.out _) (by omega)); have HRX := Lib.hid (ha3.row (row_alloc HR2.out _) (by omega)); have HOX : Hid (WdOwn (w.heap.size + 1) w3 (.slice (some ⟨b, 0, none⟩) 6 ucap) (x0 :: tl)) := Lib.hid (own_kept (OwnL.alloc HO2.out _) ha3.grown (by omega)); have r0 := ha3.row (heap_alloc_new w2 (.cells #[.int .i64 (-1), .int .i64 4294967296] 2)) (by have := HA2.out.lt; omega); have lx := (row_cell r0 n).trans hxi)); have c4 := row_cell HRX.out 4; simp only [List.getElem?_toArray, List.getElem?_cons_zero, List.getElem?_cons_succ] at c4; obtain ⟨e0, f0⟩ := own_first HOX.out; have hbX : b < w3.heap.size := (OwnL.lt HOX.out b rfl).2; have c0 := row_cell HRX.out 0; have c1 := row_cell HRX.out 1; have c2 := row_cell HRX.out 2; have c3 := row_cell HRX.out 3; have d0 := row_cell HHX.out 0; have f0' := frozen_row HHX.out 0; have d1 := row_cell HHX.out 1; have f1' := frozen_row HHX.out 1; have d2 := row_cell HHX.out 2; have f2' := frozen_row HHX.out 2; have d3 := row_cell HHX.out 3; have f3' := frozen_row HHX.out 3; have d4 := row_cell HHX.out 4; have f4' := frozen_row HHX.out 4; simp only [List.getElem?_toArray, List.getElem?_cons_zero, List.getElem?_cons_succ] at c0 c1 c2 c3 d0 d1 d2 d3 d4; have hHX : w.heap.size < w3.heap.size := row_here HHX.out; have hRX : w1.heap.size < w3.heap.size := row_here HRX.out)
    all_goals
      clear d0 d1 d2 d3 d4 f0' f1' f2' f3' f4' e0 f0 hs3 hg3
      have hown := OwnL.lAt wdS (own_setFirst HOX.out x) (HWX.out x hxx)
      first
        | (have _h := lx; generalize hW : World.setCell w3 ⟨b, 0, none⟩ (.int .i64 x) = W)
        | generalize hW : World.alloc (World.setCell w3 ⟨b, 0, none⟩ (.int .i64 x)) (.cells #[.int .i64 (-1), .int .i64 4294967296] 2) = W
      have HHW : Hid (W.heap[w.heap.size]? = some (.cells #[.int .i64 0, .int .i64 0, .int .i64 0, .int .i64 0, .slice none 0 0] 36 (0, 0))) := Lib.hid (by rw [← hW]; first | exact row_other HHX.out _ _ (Ne.symm hbH) | exact row_alloc (row_other HHX.out _ _ (Ne.symm hbH)) _)
      have HRW : Hid (W.heap[w1.heap.size]? = some (.cells #[.int .i64 nr, .int .i64 ar, .int .i64 ih, .int .i64 il, .slice (some ⟨b, 0, none⟩) 6 ucap] 36)) := Lib.hid (by rw [← hW]; first | exact row_other HRX.out _ _ (Ne.symm hbR) | exact row_alloc (row_other HRX.out _ _ (Ne.symm hbR)) _)
      have HAW : Hid (AfterSrc g a len cap w W) := Lib.hid (by rw [← hW]; first | exact HAX.out.put hgl (p := ⟨b, 0, none⟩) (show w.heap.size ≤ b by omega) _ | exact (HAX.out.put hgl (p := ⟨b, 0, none⟩) (show w.heap.size ≤ b by omega) _).more _)
      have HOW : Hid (WdAt W W.heap.size (.slice (some ⟨b, 0, none⟩) 6 ucap) (⟨x, x0.l⟩ :: tl)) := Lib.hid (by rw [← hW]; first | exact hown | exact LAt.up (LAt.below hown ((Below.refl _ _).alloc (Nat.le_refl _) _)) (by simp))
      clear hown hW HHX HRX HAX HOX HA0 HA1 HH1 HR1 HA2 HH2 HR2 HO1 HO2 HA3 HsA HsB ha3
      have c0 := row_cell HRW.out 0; have d0 := row_cell HHW.out 0; have f0 := frozen_row HHW.out 0; have c1 := row_cell HRW.out 1; have d1 := row_cell HHW.out 1; have f1 := frozen_row HHW.out 1; have c2 := row_cell HRW.out 2; have d2 := row_cell HHW.out 2; have f2 := frozen_row HHW.out 2; have c3 := row_cell HRW.out 3; have d3 := row_cell HHW.out 3; have f3 := frozen_row HHW.out 3; have c4 := row_cell HRW.out 4; have d4 := row_cell HHW.out 4; have f4 := frozen_row HHW.out 4
      simp only [List.getElem?_toArray, List.getElem?_cons_zero, List.getElem?_cons_succ] at c0 c1 c2 c3 c4 d0 d1 d2 d3 d4
      go_wp2_with fail
      exact bodyPost_ret (v := .agg #[.int .i64 nr, .int .i64 ar, .int .i64 ih, .int .i64 il, .slice (some ⟨b, 0, none⟩) 6 ucap]) (by simp [results, Tryz.results43, go_sem, d0, d1, d2, d3, d4]) rfl ⟨⟨nr, ar, ⟨ih, il⟩, ⟨x, x0.l⟩ :: tl⟩, _, rfl, ⟨hnr, harr, hipw, HWX.out x hxx⟩, LAt.up (WdAt.put (WdAt.put (WdAt.put (WdAt.put (WdAt.put HOW.out (p := ⟨w.heap.size, 0, none⟩) (show w.heap.size ≠ b by omega) _) (p := ⟨w.heap.size, 1, none⟩) (show w.heap.size ≠ b by omega) _) (p := ⟨w.heap.size, 2, none⟩) (show w.heap.size ≠ b by omega) _) (p := ⟨w.heap.size, 3, none⟩) (show w.heap.size ≠ b by omega) _) (p := ⟨w.heap.size, 4, none⟩) (show w.heap.size ≠ b by omega) _) (by simp), by simp only [List.length_cons] at hlen ⊢; omega, ⟨b, 0, _, _, rfl, by omega⟩, ((((((HAW.out).put hgl (p := ⟨w.heap.size, 0, none⟩) (Nat.le_refl _) _).put hgl (p := ⟨w.heap.size, 1, none⟩) (Nat.le_refl _) _).put hgl (p := ⟨w.heap.size, 2, none⟩) (Nat.le_refl _) _).put hgl (p := ⟨w.heap.size, 3, none⟩) (Nat.le_refl _) _).put hgl (p := ⟨w.heap.size, 4, none⟩) (Nat.le_refl _) _)⟩
  · have q2 : (v == 2) = false := by simpa using h2
    have c0 := row_cell HR2.out 0
    have g0 := frozen_row HR2.out 0
    have d0 := row_cell HH2.out 0
    have f0 := frozen_row HH2.out 0
    have c1 := row_cell HR2.out 1
    have g1 := frozen_row HR2.out 1
    have d1 := row_cell HH2.out 1
    have f1 := frozen_row HH2.out 1
    have c2 := row_cell HR2.out 2
    have g2 := frozen_row HR2.out 2
    have d2 := row_cell HH2.out 2
    have f2 := frozen_row HH2.out 2
    have c3 := row_cell HR2.out 3
    have g3 := frozen_row HR2.out 3
    have d3 := row_cell HH2.out 3
    have f3 := frozen_row HH2.out 3
    have c4 := row_cell HR2.out 4
    have g4 := frozen_row HR2.out 4
    have d4 := row_cell HH2.out 4
    have f4 := frozen_row HH2.out 4
    simp only [List.getElem?_toArray, List.getElem?_cons_zero, List.getElem?_cons_succ] at c0 c1 c2 c3 c4 d0 d1 d2 d3 d4
    go_wp2_with fail
    exact bodyPost_ret (v := .agg #[.int .i64 nr, .int .i64 ar, .int .i64 ih, .int .i64 il, .slice (some ⟨b, 0, none⟩) 6 ucap]) (by simp [results, Tryz.results43, go_sem, d0, d1, d2, d3, d4]) rfl
        ⟨⟨nr, ar, ⟨ih, il⟩, l⟩, _, rfl, ⟨hnr, harr, hipw, HWF.out⟩, LAt.up (WdAt.put (WdAt.put (WdAt.put (WdAt.put (WdAt.put (OwnL.lAt wdS HO2.out HWF.out) (p := ⟨w.heap.size, 0, none⟩) (show w.heap.size ≠ b by omega) _) (p := ⟨w.heap.size, 1, none⟩) (show w.heap.size ≠ b by omega) _) (p := ⟨w.heap.size, 2, none⟩) (show w.heap.size ≠ b by omega) _) (p := ⟨w.heap.size, 3, none⟩) (show w.heap.size ≠ b by omega) _) (p := ⟨w.heap.size, 4, none⟩) (show w.heap.size ≠ b by omega) _) (by simp), by simp only [hlen]; omega, ⟨b, 0, _, _, rfl, by omega⟩, (((((HA2.out.put hgl (p := ⟨w.heap.size, 0, none⟩) (Nat.le_refl _) _).put hgl (p := ⟨w.heap.size, 1, none⟩) (Nat.le_refl _) _).put hgl (p := ⟨w.heap.size, 2, none⟩) (Nat.le_refl _) _).put hgl (p := ⟨w.heap.size, 3, none⟩) (Nat.le_refl _) _).put hgl (p := ⟨w.heap.size, 4, none⟩) (Nat.le_refl _) _)⟩

end Go.Proofs.YtekmnopgaopmlaaGreatDoor

/- What the laws of chapter 4 draw: words, records, bytes. -/
set_option maxRecDepth 100000
set_option linter.unusedSimpArgs false
namespace Go.Proofs.YtekmnopgaopmlaaGreatDoor
open Go.RowKit
attribute [local go_sem ↓] Go.wp_at_zero Go.wp_at_succ

theorem CodeAt.upTo {w : World} {B B' : Nat} {a : Option Addr} {len cap : Nat} (h : CodeAt w B a len cap) (hB : B ≤ B') : CodeAt w B' a len cap := ⟨h.1, h.2.1, fun h0 => by
  obtain ⟨b, o, e, hb, hc⟩ := h.2.2 h0
  exact ⟨b, o, e, by omega, hc⟩⟩

end Go.Proofs.YtekmnopgaopmlaaGreatDoor

/- The laws' own comparison of records walked: lwRecord of two records that hold the same. -/
set_option maxRecDepth 100000
set_option linter.unusedSimpArgs false
namespace Go.Proofs.YtekmnopgaopmlaaGreatDoor
open Go.RowKit

theorem eqWordAny (a b c d : Int) (w : World) : (Op.equalIn 10000 33 (.agg #[.int .i64 a, .int .i64 b]) (.agg #[.int .i64 c, .int .i64 d])).run Tryz.prog w = .ok (decide ((⟨a, b⟩ : Wd) = ⟨c, d⟩)) w := by
  have hS : Tryz.prog.underlying 33 = some (.struct (Tryz.prog.fieldsOf 33)) := by kernel_rfl
  have hp : Tryz.prog.stoodInHeld 33 = false := by kernel_rfl
  rw [show (10000 : Nat) = 9999 + 1 from rfl, run_equalIn_agg w 9999 33 _ _ hS hp]
  simp only [Program.fieldsOf, Tryz.underlying33]
  go_simp
  by_cases h1 : a = c <;> by_cases h2 : b = d <;> simp [h1, h2]

theorem dl_below_drewN {B : Nat} {w W : World} (h : Below B w W) : ∀ n, Below B w (W.drewN n)
  | 0 => h
  | n + 1 => (dl_below_drewN h n).drew

end Go.Proofs.YtekmnopgaopmlaaGreatDoor

/- The code that came in, off what a law is told of it. -/
set_option maxRecDepth 100000
namespace Go.Proofs.YtekmnopgaopmlaaGreatDoor
open Go.RowKit

theorem codeAt_of {w : World} {x : Addr} {len cap : Nat} {zs : List Int} (hl : len ≤ cap) (hm : cap ≤ maxLen) (hz : zs.length = cap)
    (hcell : ∀ i, i < zs.length → w.cell? (x.add i) = some (.int .u8 (zs.getD i 0))) (hw : ∀ n ∈ zs, (Lit.int .u8 n).wf = true) : CodeAt w w.heap.size (some x) len cap := by
  refine ⟨hl, hm, fun h0 => ?_⟩
  obtain ⟨b, o, s⟩ := x
  have h00 := hcell 0 (by omega)
  cases s with
  | some s => simp [World.cell?, Addr.add] at h00; split at h00 <;> simp at h00
  | none =>
    have hb : b < w.heap.size := by
      rcases Nat.lt_or_ge b w.heap.size with hlt | hge
      · exact hlt
      · simp [World.cell?, Addr.add, Array.getElem?_eq_none hge] at h00
    refine ⟨b, o, rfl, hb, fun i hi => ?_⟩
    have hi' : i < zs.length := by omega
    have hwf := hw (zs.getD i 0) (by rw [List.getD_eq_getElem?_getD, List.getElem?_eq_getElem hi']; exact List.getElem_mem _)
    have hbd : 0 ≤ zs.getD i 0 ∧ zs.getD i 0 ≤ 255 := by
      generalize zs.getD i 0 = z at hwf
      simp [Lit.wf] at hwf
      exact hwf
    have e3 : (⟨b, o, none⟩ : Addr).add i = ⟨b, o + i, none⟩ := by unfold Addr.add; split <;> simp_all
    exact ⟨zs.getD i 0, hbd.1, hbd.2, e3 ▸ hcell i hi'⟩

theorem codeAt_up {w w' : World} {B : Nat} {a : Option Addr} {len cap : Nat} (h : CodeAt w B a len cap) (hb : Below B w w') (hB : B ≤ w.heap.size) : CodeAt w' w'.heap.size a len cap := by
  have h' := h.below hb
  refine ⟨h'.1, h'.2.1, fun h0 => ?_⟩
  obtain ⟨b, o, e, hlt, hc⟩ := h'.2.2 h0
  exact ⟨b, o, e, Nat.lt_of_lt_of_le hlt (Nat.le_trans hB hb.size), hc⟩

end Go.Proofs.YtekmnopgaopmlaaGreatDoor


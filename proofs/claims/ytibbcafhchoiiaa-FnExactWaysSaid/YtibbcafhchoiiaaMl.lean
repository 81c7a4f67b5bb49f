/- Lists of numbers that the laws compare, mark, and find held. -/
import Derived.Test.YtibbcafhchoiiaaWt
import Derived.Test.YtibbcafhchoiiaaMk
set_option maxRecDepth 100000
set_option linter.unusedSimpArgs false
set_option linter.unusedVariables false
namespace Go.Proofs.Ytibbcafhchoiiaa
open Go.RowKit

/-- A list of numbers as it lies in memory. -/
abbrev IntsAt (w : World) (B : Nat) (v : Value) (l : List Int) : Prop := LAt numC 1 (fun _ => True) w B v l
abbrev I64Own (base : Nat) (w : World) (v : Value) (l : List Int) : Prop := OwnL 2 1 numC base w v l
theorem IntsAt.cell {w : World} {B : Nat} {a : Option Addr} {n cap : Nat} {l : List Int} {i : Nat} {x : Int} (h : IntsAt w B (.slice a n cap) l) (hi : l[i]? = some x) : ∃ b o, a = some ⟨b, o, none⟩ ∧ b < B ∧ w.cell? ⟨b, o + i, none⟩ = some (.int .i64 x) := by
  obtain ⟨b, o, e, hb, hcell, _⟩ := LAt.at_ h hi
  subst e
  have d := hcell 0 _ rfl
  simp only [Nat.mul_one, Nat.add_zero] at d
  exact ⟨b, o, rfl, hb, d⟩

theorem eqInt64S_same (v1 v2 : Value) (l : List Int) (w : World) (h1 : IntsAt w w.heap.size v1 l) (h2 : IntsAt w w.heap.size v2 l) :
    Calls Try.prog 14 #[v1, v2] w fun e w' => e = .returned (.bool true) ∧ Below w.heap.size w w' := by
  obtain ⟨a1, cap1, rfl, hc1, hm1⟩ := h1.len
  obtain ⟨a2, cap2, rfl, hc2, hm2⟩ := h2.len
  unfold maxLen at hm1 hm2
  have hq : ((l.length : Int) != (l.length : Int)) = false := by simp
  have H1 := Lib.hid h1
  have H2 := Lib.hid h2
  clear h1 h2
  go_enter Try.func14, Try.ntmps14
  go_wp2
  go_loopw [5] (fun i wr => ∃ k : Nat, k ≤ l.length ∧ i = .int .i64 k ∧ Below w.heap.size w wr) (fun i _ => l.length - (intOf i).toNat)
  case atStart => exact ⟨0, by omega, rfl, Below.refl _ _⟩
  case round =>
    obtain ⟨k, hk, rfl, hbw⟩ := hrel
    by_cases hlt : k < l.length
    · obtain ⟨b, o, e, hb, c⟩ := IntsAt.cell (H1.out.below hbw) (List.getElem?_eq_getElem hlt)
      obtain ⟨b', o', e', hb', c'⟩ := IntsAt.cell (H2.out.below hbw) (List.getElem?_eq_getElem hlt)
      subst e e'
      generalize l[k] = x at *
      have hx : (x != x) = false := by simp
      have HB := Lib.hid hbw.drew
      clear hbw
      go_wp2_with fail
      refine wp_region_still_lit (by kernel_rfl) (by kernel_rfl) ?_
      simp only [World.drew_eq]
      repeat still_step
      refine wpStill_nil ?_
      go_wp2_with fail
      go_roundw
      case rel => exact ⟨k + 1, by omega, by go_num, HB.out⟩
      case measure => simp [intOf]; omega
    · have HB := Lib.hid hbw
      clear hbw
      go_wp2_with fail
      go_ret
      exact ⟨rfl, HB.out⟩

/-- The marks. -/
def markN (k : Int) (n : Nat) : List Int := (List.range n).map fun i : Nat => k + (i : Int)
theorem markN_length (k : Int) (n : Nat) : (markN k n).length = n := by simp [markN]
theorem markN_next (k : Int) (n : Nat) : markN k (n + 1) = markN k n ++ [k + (n : Int)] := by simp [markN, List.range_succ]
theorem markN_get {k : Int} {n i : Nat} (h : i < n) : (markN k n)[i]? = some (k + (i : Int)) := by simp [markN, h]
theorem markN_fill {k : Int} {l : List Int} {j : Nat} (h : j < l.length) : (markN k j ++ l.drop j)[j]? = some l[j] ∧ (markN k j ++ l.drop j).set j (k + (j : Int)) = markN k (j + 1) ++ l.drop (j + 1) := by
  constructor
  · rw [List.getElem?_append_right (by rw [markN_length]; exact Nat.le_refl _), markN_length, Nat.sub_self, List.getElem?_drop]
    simp [h]
  · rw [List.set_append_right _ _ (by rw [markN_length]; exact Nat.le_refl _), markN_length, Nat.sub_self, List.drop_eq_getElem_cons h, List.set_cons_zero, markN_next, List.append_assoc]
    rfl

theorem markInt64S_any (base : Nat) (v : Value) (l : List Int) (k : Int) (w : World) (h : I64Own base w v l) (hn : l.length ≤ 1000000000) (hk0 : 0 ≤ k) (hk1 : k ≤ 1000000000) :
    Calls Try.prog 16 #[v, .int .i64 k] w fun e w' => e = .returned (.int .i64 (k + l.length)) ∧ I64Own base w' v (markN k l.length) ∧ w.grownBy w' v.ownBlock := by
  by_cases hl : l.length = 0
  · obtain rfl : l = [] := List.eq_nil_of_length_eq_zero hl
    obtain ⟨a, cap, rfl⟩ := h.slice
    simp only [List.length_nil] at *
    have HH := Lib.hid h
    clear h
    go_enter Try.func16, Try.ntmps16
    go_wp2
    refine wp_loop_rounds 1 ?_
    rw [rounds_succ]
    go_wp2
    go_ret
    exact ⟨ret_int (by simp), HH.out, World.grownBy.refl _ _⟩
  obtain ⟨g, cap, rfl, hg, hgw, hlc⟩ := h.more (by omega)
  have HH := Lib.hid h
  clear h hl
  go_enter Try.func16, Try.ntmps16
  go_wp2
  go_loopw [1, 5] (fun q i wr => ∃ j : Nat, j ≤ l.length ∧ i = .int .i64 j ∧ q = .int .i64 (k + j) ∧ wr.ownsRow base 2 1 (.slice (some ⟨g, 0, none⟩) l.length cap) l.length ((markN k j ++ l.drop j).flatMap numC) ∧ w.grownBy wr (some g))
    (fun _ i _ => l.length - (intOf i).toNat)
  case atStart => exact ⟨0, by omega, rfl, by simp, by have := HH.out; unfold I64Own OwnL at this; simpa [markN] using this, World.grownBy.refl _ _⟩
  case round =>
    obtain ⟨j, hj, rfl, rfl, hown, hgr⟩ := hrel
    by_cases hlt : j < l.length
    · have hf := markN_fill (k := k) hlt
      obtain ⟨d0, f0⟩ := int_at hown hf.1
      have hset := int_set hown (i := j) (by simp [markN_length]; omega) (k + (j : Int))
      rw [hf.2] at hset
      have HS := Lib.hid hset
      have hgX : ∀ u0 : Value, w.grownBy (wr.setCell ⟨g, j, none⟩ u0) (some g) := fun u0 => own_only hgr _ _
      have HG := Lib.hid hgX
      clear hset hf hgX hown hgr
      go_wp2_with fail
      go_roundw
      case rel => exact ⟨j + 1, by omega, by go_num, congrArg (Value.int .i64) (by omega), HS.out, HG.out _⟩
      case measure => simp [intOf]; omega
    · have hjl : j = l.length := by omega
      have ho : I64Own base wr (.slice (some ⟨g, 0, none⟩) l.length cap) (markN k l.length) := by
        unfold I64Own OwnL
        rw [markN_length]
        rw [hjl, List.drop_length, List.append_nil] at hown
        exact hown
      have HO := Lib.hid ho
      have hr := Lib.hid (show k + (j : Int) = k + l.length by omega)
      clear hown ho hjl
      go_wp2_with fail
      go_ret
      exact ⟨ret_int hr.out, HO.out, hgr⟩

theorem heldInt64S_any (v : Value) (n : Nat) (k : Int) (w : World) (h : IntsAt w w.heap.size v (markN k n)) (hn : n ≤ 1000000000) (hk0 : 0 ≤ k) (hk1 : k ≤ 1000000000) :
    Calls Try.prog 17 #[v, .int .i64 k] w fun e w' => e = .returned (.int .i64 (k + n)) ∧ w = w' := by
  obtain ⟨a, cap, rfl, hlc, hcm⟩ := h.len
  rw [markN_length] at *
  unfold maxLen at hcm
  have HH := Lib.hid h
  clear h
  go_enter Try.func17, Try.ntmps17
  go_wp2
  go_loop [1, 5] (fun q i => ∃ j : Nat, j ≤ n ∧ i = .int .i64 j ∧ q = .int .i64 (k + j)) (fun _ i => n - (intOf i).toNat)
  case atStart => exact ⟨0, by omega, rfl, by simp⟩
  case round =>
    obtain ⟨j, hj, rfl, rfl⟩ := hrel
    by_cases hlt : j < n
    · obtain ⟨b, o, e, hb, c0⟩ := IntsAt.cell HH.out (markN_get hlt)
      subst e
      have q0 : ((k + (j : Int)) != (k + (j : Int))) = false := by simp
      go_wp2_with fail
      go_round
      case rel => exact ⟨j + 1, by omega, by go_num, congrArg (Value.int .i64) (by omega)⟩
      case measure => simp [intOf]; omega
    · have hr := Lib.hid (show k + (j : Int) = k + n by omega)
      go_wp2_with fail
      go_ret
      exact ⟨ret_int hr.out, rfl⟩

end Go.Proofs.Ytibbcafhchoiiaa

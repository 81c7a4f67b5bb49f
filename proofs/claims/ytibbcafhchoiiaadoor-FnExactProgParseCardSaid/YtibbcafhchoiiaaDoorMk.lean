/- Walks of the laws' own marks on lists of words: markInsnS, heldInsnS, and on a program out. -/
import Derived.Test.YtibbcafhchoiiaaDoorGc
set_option maxRecDepth 100000
namespace Go.Proofs.YtibbcafhchoiiaaDoor
open Go.RowKit

/-- The words that the marks leave. -/
def markI (k : Int) (i : Nat) : Ins := ⟨k + 4 * i, k + 4 * i + 1, k + 4 * i + 1 + 1, k + 4 * i + 1 + 1 + 1⟩
def markL (k : Int) (n : Nat) : List Ins := (List.range n).map (markI k)
theorem markL_length (k : Int) (n : Nat) : (markL k n).length = n := by simp [markL]
theorem markL_next (k : Int) (n : Nat) : markL k (n + 1) = markL k n ++ [markI k n] := by simp [markL, List.range_succ]
theorem markL_get {k : Int} {n i : Nat} (h : i < n) : (markL k n)[i]? = some (markI k i) := by simp [markL, h]
theorem markL_wf {k : Int} {n : Nat} (h0 : 0 ≤ k) (h1 : k ≤ 1000000000) (hn : n ≤ 1000000000) : ∀ x ∈ markL k n, x.wf := by
  intro x hx
  simp only [markL, List.mem_map, List.mem_range] at hx
  obtain ⟨i, hi, rfl⟩ := hx
  simp only [Ins.wf, In64, markI]
  omega
theorem mark_fill {k : Int} {l : List Ins} {j : Nat} (h : j < l.length) : (markL k j ++ l.drop j)[j]? = some l[j] ∧ (markL k j ++ l.drop j).set j (markI k j) = markL k (j + 1) ++ l.drop (j + 1) := by
  have hl := markL_length k j
  constructor
  · rw [List.getElem?_append_right (by omega), hl, Nat.sub_self, List.getElem?_drop]; simp [h]
  · rw [List.set_append_right _ _ (by omega), hl, Nat.sub_self, markL_next, List.append_assoc, List.drop_eq_getElem_cons h]
    rfl
theorem InsOwn.more {base : Nat} {w : World} {v : Value} {l : List Ins} (h : InsOwn base w v l) (hl : 0 < l.length) : ∃ g cap, v = .slice (some ⟨g, 0, none⟩) l.length cap ∧ base ≤ g ∧ g < w.heap.size ∧ l.length ≤ cap := by
  have hlt := h.lt
  rcases h.2 with ⟨e, hn⟩ | ⟨g, cap, _, e, hg, _, hc, _⟩
  · omega
  · subst e
    exact ⟨g, cap, rfl, hg, (hlt g rfl).2, hc⟩

set_option maxHeartbeats 1600000 in
theorem markInsnS_any (base : Nat) (v : Value) (l : List Ins) (k : Int) (w : World) (h : InsOwn base w v l) (hn : l.length ≤ 1000000000) (hk0 : 0 ≤ k) (hk1 : k ≤ 1000000000) :
    Calls Tryd.prog 30 #[v, .int .i64 k] w fun e w' => e = .returned (.int .i64 (k + 4 * l.length)) ∧ InsOwn base w' v (markL k l.length) ∧ w.grownBy w' v.ownBlock := by
  by_cases hl : l.length = 0
  · obtain rfl : l = [] := List.eq_nil_of_length_eq_zero hl
    obtain ⟨a, cap, rfl⟩ := h.slice
    simp only [List.length_nil] at *
    have HH := Lib.hid h
    clear h
    go_enter Tryd.func30, Tryd.ntmps30
    go_wp2
    refine wp_loop_rounds 1 ?_
    rw [rounds_succ]
    go_wp2
    go_ret
    exact ⟨ret_int (by simp), HH.out, World.grownBy.refl _ _⟩
  obtain ⟨g, cap, rfl, hg, hgw, hlc⟩ := h.more (by omega)
  have HH := Lib.hid h
  clear h hl
  go_enter Tryd.func30, Tryd.ntmps30
  go_wp2
  go_loopw [1, 5] (fun q i wr => ∃ j : Nat, j ≤ l.length ∧ i = .int .i64 j ∧ q = .int .i64 (k + 4 * j) ∧ wr.ownsRow base 39 4 (.slice (some ⟨g, 0, none⟩) l.length cap) l.length (progCells (markL k j ++ l.drop j)) ∧ w.grownBy wr (some g))
    (fun _ i _ => l.length - (intOf i).toNat)
  case atStart => exact ⟨0, by omega, rfl, by simp, by have := HH.out; unfold InsOwn at this; simpa [markL] using this, World.grownBy.refl _ _⟩
  case round =>
    obtain ⟨j, hj, rfl, rfl, hown, hgr⟩ := hrel
    by_cases hlt : j < l.length
    · have hf := mark_fill (k := k) hlt
      obtain ⟨d0, d1, d2, d3, f0, f1, f2, f3⟩ := own_ins_at hown hf.1
      have hset := own_ins_set hown (k := j) (by simp [markL_length]; omega) (markI k j)
      rw [hf.2] at hset
      have HS := Lib.hid hset
      have hgX : ∀ u0 u1 u2 u3 : Value, w.grownBy ((((wr.setCell ⟨g, j * 4, none⟩ u0).setCell ⟨g, j * 4 + 1, none⟩ u1).setCell ⟨g, j * 4 + 2, none⟩ u2).setCell ⟨g, j * 4 + 3, none⟩ u3) (some g) :=
        fun u0 u1 u2 u3 => own_only (own_only (own_only (own_only hgr _ _) _ _) _ _) _ _
      have HG := Lib.hid hgX
      clear hset hf hgX hown hgr
      go_wp2_with fail
      go_roundw
      case rel => exact ⟨j + 1, by omega, by go_num, congrArg (Value.int .i64) (by omega), HS.out, HG.out _ _ _ _⟩
      case measure => simp [intOf]; omega
    · have hjl : j = l.length := by omega
      have ho : InsOwn base wr (.slice (some ⟨g, 0, none⟩) l.length cap) (markL k l.length) := by
        unfold InsOwn
        rw [markL_length]
        rw [hjl, List.drop_length, List.append_nil] at hown
        exact hown
      have HO := Lib.hid ho
      have hr := Lib.hid (show k + 4 * (j : Int) = k + 4 * l.length by omega)
      clear hown ho hjl
      go_wp2_with fail
      go_ret
      exact ⟨ret_int hr.out, HO.out, hgr⟩

/-- Behind the marks they are there. -/
theorem heldInsnS_any (v : Value) (n : Nat) (k : Int) (w : World) (h : InsAt w w.heap.size v (markL k n)) (hn : n ≤ 1000000000) (hk0 : 0 ≤ k) (hk1 : k ≤ 1000000000) :
    Calls Tryd.prog 31 #[v, .int .i64 k] w fun e w' => e = .returned (.int .i64 (k + 4 * n)) ∧ w = w' := by
  obtain ⟨a, cap, rfl, hlc, hcm⟩ := h.len
  rw [markL_length] at *
  unfold maxLen at hcm
  have HH := Lib.hid h
  clear h
  go_enter Tryd.func31, Tryd.ntmps31
  go_wp2
  go_loop [1, 5] (fun q i => ∃ j : Nat, j ≤ n ∧ i = .int .i64 j ∧ q = .int .i64 (k + 4 * j)) (fun _ i => n - (intOf i).toNat)
  case atStart => exact ⟨0, by omega, rfl, by simp⟩
  case round =>
    obtain ⟨j, hj, rfl, rfl⟩ := hrel
    by_cases hlt : j < n
    · obtain ⟨b, o, e, hb, c0, c1, c2, c3, hwf⟩ := HH.out.at_ (markL_get hlt)
      subst e
      simp only [markI] at c0 c1 c2 c3
      have q0 : ((k + 4 * (j : Int)) != (k + 4 * (j : Int))) = false := by simp
      have q1 : ((k + 4 * (j : Int) + 1) != (k + 4 * (j : Int) + 1)) = false := by simp
      have q2 : ((k + 4 * (j : Int) + 1 + 1) != (k + 4 * (j : Int) + 1 + 1)) = false := by simp
      have q3 : ((k + 4 * (j : Int) + 1 + 1 + 1) != (k + 4 * (j : Int) + 1 + 1 + 1)) = false := by simp
      go_wp2_with fail
      go_round
      case rel => exact ⟨j + 1, by omega, by go_num, congrArg (Value.int .i64) (by omega)⟩
      case measure => simp [intOf]; omega
    · have hr := Lib.hid (show k + 4 * (j : Int) = k + 4 * n by omega)
      go_wp2_with fail
      go_ret
      exact ⟨ret_int hr.out, rfl⟩

end Go.Proofs.YtibbcafhchoiiaaDoor

/- Every word but those that look, leap or end: l05Do of the model. -/
import Derived.Test.YtekmnopgaopmlaaGreatDoorRy
import Derived.Test.YtekmnopgaopmlaaGreatDoorRs
import Derived.Test.YtekmnopgaopmlaaGreatDoorRd
set_option maxRecDepth 100000
set_option linter.unusedSimpArgs false
set_option linter.unusedVariables false
namespace Go.Proofs.YtekmnopgaopmlaaGreatDoor
open Go.RowKit

theorem ins_bd32 {i : Ins} (h : insRight i = true) : In32 i.k ∧ (0 ≤ i.y ∧ i.y ≤ 255) ∧ (0 ≤ i.n ∧ i.n ≤ 255) := by
  unfold insRight isB at h
  simp only [Bool.and_eq_true, decide_eq_true_eq] at h
  unfold In32
  omega
theorem sum_codes {c : Int} (hop : isOp c = true) (h5 : c ≠ 5) (h6 : c ≠ 6) (h22 : c ≠ 22) (hl : looksC c = false) :
    (c = 0 ∨ c = 1 ∨ c = 7 ∨ c = 135) ∨ (c = 96 ∨ c = 97 ∨ c = 2 ∨ c = 3) ∨ c = 32 ∨
    (c = 4 ∨ c = 20 ∨ c = 36 ∨ c = 52 ∨ c = 68 ∨ c = 84 ∨ c = 164 ∨ c = 12 ∨ c = 28 ∨ c = 92 ∨ c = 76 ∨ c = 132 ∨ c = 100 ∨ c = 116) := by
  have key : ∀ c ∈ opCodesL, c ≠ 5 → c ≠ 6 → c ≠ 22 → looksC c = false → (c = 0 ∨ c = 1 ∨ c = 7 ∨ c = 135) ∨ (c = 96 ∨ c = 97 ∨ c = 2 ∨ c = 3) ∨ c = 32 ∨
    (c = 4 ∨ c = 20 ∨ c = 36 ∨ c = 52 ∨ c = 68 ∨ c = 84 ∨ c = 164 ∨ c = 12 ∨ c = 28 ∨ c = 92 ∨ c = 76 ∨ c = 132 ∨ c = 100 ∨ c = 116) := by decide
  exact key c (by simpa [isOp] using hop) h5 h6 h22 hl
theorem l05Sum_any (m : Mc) (c y n k : Int) (M C H : Nat) (w : World) (h : MAt w M C H m) (ha : In32 m.a) (hx : In32 m.x) (hk : In32 k)
    (hc : c = 4 ∨ c = 20 ∨ c = 36 ∨ c = 52 ∨ c = 68 ∨ c = 84 ∨ c = 164 ∨ c = 12 ∨ c = 28 ∨ c = 92 ∨ c = 76 ∨ c = 132 ∨ c = 100 ∨ c = 116) :
    Calls Tryz.prog 127 #[.pointer (some ⟨M, 0, none⟩), .agg #[.int .i64 c, .int .i64 y, .int .i64 n, .int .i64 k]] w (SumPost m ⟨c, y, n, k⟩ M C H w) := by
  rcases hc with rfl | rfl | rfl | rfl | rfl | rfl | rfl | rfl | rfl | rfl | rfl | rfl | rfl | rfl
  · exact l05Sum_4 m y n k M C H w h ha hx hk
  · exact l05Sum_20 m y n k M C H w h ha hx hk
  · exact l05Sum_36 m y n k M C H w h ha hx hk
  · exact l05Sum_52 m y n k M C H w h ha hx hk
  · exact l05Sum_68 m y n k M C H w h ha hx hk
  · exact l05Sum_84 m y n k M C H w h ha hx hk
  · exact l05Sum_164 m y n k M C H w h ha hx hk
  · exact l05Sum_12 m y n k M C H w h ha hx hk
  · exact l05Sum_28 m y n k M C H w h ha hx hk
  · exact l05Sum_92 m y n k M C H w h ha hx hk
  · exact l05Sum_76 m y n k M C H w h ha hx hk
  · exact l05Sum_132 m y n k M C H w h ha hx hk
  · exact l05Sum_100 m y n k M C H w h ha hx hk
  · exact l05Sum_116 m y n k M C H w h ha hx hk
theorem l05Cell_any (m : Mc) (c y n k : Int) (M C H : Nat) (w : World) (h : MAt w M C H m) (hc : m.cells.length = 16) (hh : m.has.length = 16) (hk : In32 k)
    (hcc : c = 96 ∨ c = 97 ∨ c = 2 ∨ c = 3) :
    Calls Tryz.prog 126 #[.pointer (some ⟨M, 0, none⟩), .agg #[.int .i64 c, .int .i64 y, .int .i64 n, .int .i64 k]] w (CellPost m ⟨c, y, n, k⟩ M C H w) := by
  rcases hcc with rfl | rfl | rfl | rfl
  · exact l05Cell_96 m y n k M C H w h hc hh hk
  · exact l05Cell_97 m y n k M C H w h hc hh hk
  · exact l05Cell_2 m y n k M C H w h hc hh hk
  · exact l05Cell_3 m y n k M C H w h hc hh hk
theorem l05Do_any (b : ByteArray) (m : Mc) (c y n k : Int) (M C H : Nat) (w : World) (h : MAt w M C H m) (hok : m.ok) (hb : b.size ≤ maxLen) (hk : In32 k)
    (hop : isOp c = true) (h5 : c ≠ 5) (h6 : c ≠ 6) (h22 : c ≠ 22) (hl : looksC c = false) :
    Calls Tryz.prog 86 #[.pointer (some ⟨M, 0, none⟩), .agg #[.int .i64 c, .int .i64 y, .int .i64 n, .int .i64 k], .string b] w (DoPost b m ⟨c, y, n, k⟩ M C H w) := by
  obtain ⟨ha, hx, hcl, hhl, _⟩ := hok
  rcases sum_codes hop h5 h6 h22 hl with hc | hc | hc | hc
  · exact l05Do_set b m c y n k M C H w h hc
  · exact l05Do_cell b m c y n k M C H w h hc fun W hW => l05Cell_any m c y n k M C H W hW hcl hhl hk hc
  · subst hc
    exact l05Do_load b m y n k M C H w h hb hk
  · exact l05Do_sum b m c y n k M C H w h (by omega) fun W hW => l05Sum_any m c y n k M C H W hW ha hx hk hc

/-- The machine stays one of 32 bits. -/
theorem sumM_ok {m : Mc} {i : Ins} (h : m.ok) : (sumM m i).1.ok := by
  unfold sumM
  split
  · exact h
  · rename_i hz
    refine ⟨?_, h.2⟩
    have : sumA i.c m.a m.x i.k = -1 ∨ ∃ v, sumA i.c m.a m.x i.k = w32 v := by
      have pw : ∀ u, w32 u = -1 ∨ ∃ v, w32 u = w32 v := fun u => .inr ⟨u, rfl⟩
      have pm : (-1 : Int) = -1 ∨ ∃ v, (-1 : Int) = w32 v := .inl rfl
      have pi : ∀ (p : Prop) [Decidable p] (a b : Int), (a = -1 ∨ ∃ v, a = w32 v) → (b = -1 ∨ ∃ v, b = w32 v) → ((if p then a else b) = -1 ∨ ∃ v, (if p then a else b) = w32 v) := by
        intro p _ a b h1 h2
        split
        · exact h1
        · exact h2
      unfold sumA
      repeat' first | exact pw _ | exact pm | refine pi _ _ _ ?_ ?_
    rcases this with e | ⟨v, e⟩
    · omega
    · show In32 (sumA i.c m.a m.x i.k)
      rw [e]; exact w32_in v
theorem cellM_ok {m : Mc} {i : Ins} (h : m.ok) : (cellM m i).1.ok := by
  obtain ⟨ha, hx, hc, hh, hv⟩ := h
  have hg : ∀ j, In32 (m.cells.getD j 0) := by
    intro j
    rw [List.getD_eq_getElem?_getD]
    rcases Nat.lt_or_ge j m.cells.length with hj | hj
    · rw [List.getElem?_eq_getElem hj]; exact hv _ (List.getElem_mem hj)
    · rw [List.getElem?_eq_none hj]; unfold In32; simp
  have hset : ∀ j v, In32 v → ∀ u ∈ m.cells.set j v, In32 u := fun j v hv' u hu => by
    rcases List.mem_or_eq_of_mem_set hu with h | h
    · exact hv u h
    · rw [h]; exact hv'
  unfold cellM
  repeat' split
  · exact ⟨ha, hx, hc, hh, hv⟩
  · exact ⟨ha, hx, by simp [hc], by simp [hh], hset _ _ ha⟩
  · exact ⟨ha, hx, by simp [hc], by simp [hh], hset _ _ hx⟩
  · exact ⟨ha, hx, hc, hh, hv⟩
  · exact ⟨hg _, hx, hc, hh, hv⟩
  · exact ⟨ha, hg _, hc, hh, hv⟩

end Go.Proofs.YtekmnopgaopmlaaGreatDoor

/- Walks: GetNum in the program; eqNumOut. -/
import Derived.Test.YtoabhpgiaieopaaDoorRn
namespace Go.Proofs.YtoabhpgiaieopaaDoor
open Go.RowKit

theorem glob_lt {w : World} {g : Nat} {v : Value} (h : w.cell? ⟨g, 0, none⟩ = some v) : g < w.heap.size := by
  rcases Nat.lt_or_ge g w.heap.size with hl | hl
  · exact hl
  · simp [World.cell?, Array.getElem?_eq_none hl] at h
theorem glob_below {B : Nat} {w w' : World} {g : Nat} {v : Value} (h : w.cell? ⟨g, 0, none⟩ = some v) (hb : Below B w w') (hB : g < B) : w'.cell? ⟨g, 0, none⟩ = some v :=
  (hb.cell (p := ⟨g, 0, none⟩) hB).trans h
theorem glob_alloc {w : World} {g : Nat} {v : Value} (h : w.cell? ⟨g, 0, none⟩ = some v) (o : Obj) : (w.alloc o).cell? ⟨g, 0, none⟩ = some v := by
  rw [World.cell?_alloc_lt _ _ ⟨g, 0, none⟩ (glob_lt h)]; exact h

set_option maxHeartbeats 1000000 in
theorem implGetNum_any (s : ByteArray) (at_ : Int) (w : World) (hs : s.size ≤ maxLen) (h0 : -9223372036854775808 ≤ at_) (h1 : at_ ≤ 9223372036854775807) (hg : w.cell? ⟨0, 0, none⟩ = some handleV) :
    Calls Tryd.prog 9 #[.string s, .int .i64 at_] w fun e w' => e = .returned (numOutOf (getN s at_)) ∧ Below w.heap.size w w' := by
  have hr := fun w => readNum_any s at_ w hs h0 h1
  unfold numOutOf
  have hbad : (getN s at_).2.2 ≠ 0 → (getN s at_).1 = 0 ∧ (getN s at_).2.1 = 0 := by
    intro h
    unfold getN at h ⊢
    split
    · exact ⟨rfl, rfl⟩
    · split
      · exact ⟨rfl, rfl⟩
      · split
        · rename_i h2 h3 h4
          rw [if_neg h2, if_neg h3, if_pos h4] at h
          exact absurd rfl h
        · exact ⟨rfl, rfl⟩
  generalize (getN s at_).1 = n at hr hbad
  generalize (getN s at_).2.1 = p at hr hbad
  generalize (getN s at_).2.2 = c at hr hbad
  have hga := glob_alloc hg (.cells #[.int .i64 0, .int .i64 0, .int .i64 0] 26)
  have HG := Lib.hid hga
  have HR := Lib.hid hr
  clear hr hga hg
  by_cases hc : c = 0
  · subst hc
    clear hbad
    have hr2 := HR.out
    rw [errV_ok] at hr2
    have HR2 := Lib.hid hr2
    clear hr2
    go_enter Tryd.func9, Tryd.ntmps9
    go_wp2_with (go_at_call 22; refine (HR2.out _).mono ?_; rintro e w1 ⟨rfl, rfl⟩)
    exact bodyPost_ret (v := .agg #[.int .i64 n, .int .i64 p, .int .i64 0]) (by simp [results, Tryd.results9, go_sem]) rfl ⟨rfl, (Below.refl _ _).alloc (Nat.le_refl _) _⟩
  · obtain ⟨rfl, rfl⟩ := hbad hc
    clear hbad
    have hr2 := HR.out
    rw [errV_bad hc] at hr2
    have HR2 := Lib.hid hr2
    clear hr2
    go_enter Tryd.func9, Tryd.ntmps9
    go_wp2_with (first | (go_at_call 22; refine (HR2.out _).mono ?_; rintro e w1 ⟨rfl, rfl⟩) | (go_at_call 23; refine (codeOf_any c _ HG.out).mono ?_; rintro e w2 ⟨rfl, hb2⟩; obtain ⟨c0, c1, c2, f0, f1, f2, hlt, hbw, hbs⟩ := box3 (w := w) rfl ((Below.refl _ _).alloc (Nat.le_refl _) _) hb2; have HB := Lib.hid hbs; clear hbs hbw hb2))
    all_goals exact bodyPost_ret (v := .agg #[.int .i64 0, .int .i64 0, .int .i64 c]) (by simp [results, Tryd.results9, go_sem, c0, c1, c2]) rfl ⟨rfl, HB.out _ _ _⟩

set_option maxHeartbeats 400000 in
theorem eqNumOut_same (a b c : Int) (w : World) :
    Calls Tryd.prog 15 #[.agg #[.int .i64 a, .int .i64 b, .int .i64 c], .agg #[.int .i64 a, .int .i64 b, .int .i64 c]] w fun e w' => e = .returned (.bool true) ∧ Below w.heap.size w w' := by
  go_enter Tryd.func15, Tryd.ntmps15
  go_wp2
  go_ret
  exact ⟨rfl, ((Below.refl _ _).alloc (Nat.le_refl _) _).alloc (by simp) _⟩

end Go.Proofs.YtoabhpgiaieopaaDoor

/- The program's ways: ends, looks, waysFrom. -/
import Derived.Test.YtibbcafhchoiiaaNx
set_option maxRecDepth 100000
set_option linter.unusedSimpArgs false
namespace Go.Proofs.Ytibbcafhchoiiaa
open Go.RowKit

def endsC (c : Int) : Bool := c == 6 || c == 22
theorem int64Own_lit {base : Nat} {w : World} {H : Nat} {cs : Array Value} {l : List Int} {n : Nat} (hn : n = l.length) (hb : base ≤ w.heap.size) (hH : H = w.heap.size) (hc : cs.toList = l.flatMap numC) (hl : l.length ≤ 1000) : OwnL 2 1 numC base (w.alloc (.cells cs 2)) (.slice (some ⟨H, 0, none⟩) n n) l := by
  subst hH hn
  have := World.ownsRow_lit (base := base) (e := 2) (size := 1) w cs l.length hb (by unfold maxLen; omega) (by rw [← Array.length_toList, hc, flat_length numS])
  unfold OwnL
  rw [← hc]
  exact this

theorem ends_any (c : Int) (w : World) : Calls Try.prog 24 #[.int .i64 c] w fun e w' => e = .returned (.bool (endsC c)) ∧ w = w' := by
  by_cases h6 : c = 6
  · subst h6
    go_enter Try.func24, Try.ntmps24
    go_wp2
    go_ret
    exact ⟨ret_bool (by decide), rfl⟩
  by_cases h22 : c = 22
  · subst h22
    clear h6
    go_enter Try.func24, Try.ntmps24
    go_wp2
    go_ret
    exact ⟨ret_bool (by decide), rfl⟩
  · have e6 := eq_false_of h6
    have e22 := eq_false_of h22
    have HL := Lib.hid (show endsC c = false by unfold endsC; rw [e6, e22]; rfl)
    clear h6 h22
    go_enter Try.func24, Try.ntmps24
    go_wp2
    go_ret
    exact ⟨ret_bool HL.out.symm, rfl⟩

set_option maxHeartbeats 800000 in
theorem looks_any (c : Int) (w : World) : Calls Try.prog 47 #[.int .i64 c] w fun e w' => e = .returned (.bool (looksC c)) ∧ w = w' := by
  by_cases h : c = 21 ∨ c = 37 ∨ c = 53 ∨ c = 69 ∨ c = 29 ∨ c = 45 ∨ c = 61 ∨ c = 77
  · rcases h with rfl | rfl | rfl | rfl | rfl | rfl | rfl | rfl
    all_goals
      go_enter Try.func47, Try.ntmps47
      go_wp2
      go_ret
      exact ⟨ret_bool (by decide), rfl⟩
  · simp only [not_or] at h
    obtain ⟨h0, h1, h2, h3, h4, h5, h6, h7⟩ := h
    have HL := Lib.hid (show looksC c = false by simp [looksC, *])
    have e0 := eq_false_of h0
    have e1 := eq_false_of h1
    have e2 := eq_false_of h2
    have e3 := eq_false_of h3
    have e4 := eq_false_of h4
    have e5 := eq_false_of h5
    have e6 := eq_false_of h6
    have e7 := eq_false_of h7
    clear h0 h1 h2 h3 h4 h5 h6 h7
    go_enter Try.func47, Try.ntmps47
    go_wp2
    go_ret
    exact ⟨ret_bool HL.out.symm, rfl⟩

set_option maxHeartbeats 1600000 in
theorem waysFrom_any (x : Ins) (i : Nat) (w : World) (hl : i ≤ 1048576) (hr : insRight x = true) :
    Calls Try.prog 35 #[.agg #[.int .i64 x.c, .int .i64 x.y, .int .i64 x.n, .int .i64 x.k], .int .i64 i] w fun e w' => ∃ u, e = .returned u ∧ OwnL 2 1 numC w.heap.size w' u (nextI x i) ∧ Below w.heap.size w w' := by
  unfold insRight isB at hr
  simp only [Bool.and_eq_true, decide_eq_true_eq] at hr
  obtain ⟨⟨⟨hc, hy⟩, hn⟩, hk⟩ := hr
  obtain ⟨xc, xy, xn, xk⟩ := x
  simp only at hc hy hn hk ⊢
  obtain ⟨hy0, hy1⟩ := hy
  obtain ⟨hn0, hn1⟩ := hn
  obtain ⟨hk0, hk1⟩ := hk
  have qe := fun W => ends_any xc W
  cases he : endsC xc <;> rw [he] at qe
  case true =>
    have HN := Lib.hid (show nextI ⟨xc, xy, xn, xk⟩ i = [] from by
      have h := he
      simp only [endsC, Bool.or_eq_true, beq_iff_eq] at h
      simp [nextI, h])
    have QE := Lib.hid qe
    clear qe he
    go_enter Try.func35, Try.ntmps35
    go_wp2_with fail
    refine (QE.out _).mono ?_
    rintro e w1 ⟨rfl, rfl⟩
    go_wp2_with fail
    go_ret
    exact ⟨_, rfl, by rw [HN.out]; exact OwnL.nil _ _, (Below.refl _ _).alloc (Nat.le_refl _) _⟩
  simp only [endsC, Bool.or_eq_false_iff, beq_eq_false_iff_ne, ne_eq] at he
  obtain ⟨h6, h22⟩ := he
  by_cases h5 : xc = 5
  · subst h5
    have HN := Lib.hid (show nextI ⟨5, xy, xn, xk⟩ i = [(i : Int) + 1 + xk] from by simp [nextI])
    have QE := Lib.hid qe
    clear h6 h22 qe
    go_enter Try.func35, Try.ntmps35
    go_wp2_with fail
    refine (QE.out _).mono ?_
    rintro e w1 ⟨rfl, rfl⟩
    go_wp2_with fail
    go_ret
    exact ⟨_, rfl, by rw [HN.out]; exact int64Own_lit rfl (by simp) (by simp) rfl (by simp), ((Below.refl _ _).alloc (Nat.le_refl _) _).alloc (by simp) _⟩
  have e5 := eq_false_of h5
  have hq := fun W => looks_any xc W
  cases hlk : looksC xc <;> rw [hlk] at hq
  · have HN := Lib.hid (show nextI ⟨xc, xy, xn, xk⟩ i = [(i : Int) + 1] from by simp [nextI, h6, h22, h5, hlk])
    have HQ := Lib.hid hq
    have QE := Lib.hid qe
    clear h6 h22 h5 hq hlk qe
    go_enter Try.func35, Try.ntmps35
    go_wp2_with fail
    refine (QE.out _).mono ?_
    rintro e w1 ⟨rfl, rfl⟩
    go_wp2_with fail
    refine (HQ.out _).mono ?_
    rintro e w1 ⟨rfl, rfl⟩
    go_wp2_with fail
    go_ret
    exact ⟨_, rfl, by rw [HN.out]; exact int64Own_lit rfl (by simp) (by simp) rfl (by simp), ((Below.refl _ _).alloc (Nat.le_refl _) _).alloc (by simp) _⟩
  · have HN0 := Lib.hid (show nextI ⟨xc, xy, xn, xk⟩ i = (if xy = xn then [(i : Int) + 1 + xy] else [(i : Int) + 1 + min xy xn, (i : Int) + 1 + max xy xn]) from by
      simp only [nextI, h6, h22, h5, hlk, or_self, if_false, if_true]
      by_cases hxy : xy = xn
      · rw [if_pos hxy, if_pos (by omega)]
      · rw [if_neg hxy, if_neg (by omega)]
        rcases Int.lt_or_gt_of_ne hxy with h | h
        · rw [if_pos (by omega), if_neg (by omega), Int.min_eq_left (by omega), Int.max_eq_right (by omega)]
        · rw [if_neg (by omega), if_pos (by omega), Int.min_eq_right (by omega), Int.max_eq_left (by omega)])
    have HQ := Lib.hid hq
    have QE := Lib.hid qe
    clear h6 h22 h5 hq hlk qe
    by_cases heq : xy = xn
    · have hq : (xy == xn) = true := by simpa using heq
      have HN := Lib.hid (HN0.out.trans (if_pos heq))
      clear heq HN0
      go_enter Try.func35, Try.ntmps35
      go_wp2_with fail
      refine (QE.out _).mono ?_
      rintro e w1 ⟨rfl, rfl⟩
      go_wp2_with fail
      refine (HQ.out _).mono ?_
      rintro e w1 ⟨rfl, rfl⟩
      go_wp2_with fail
      go_ret
      exact ⟨_, rfl, by rw [HN.out]; exact int64Own_lit rfl (by simp) (by simp) rfl (by simp), ((Below.refl _ _).alloc (Nat.le_refl _) _).alloc (by simp) _⟩
    · have hq : (xy == xn) = false := eq_false_of heq
      have HN := Lib.hid (HN0.out.trans (if_neg heq))
      clear HN0
      rcases Int.lt_or_gt_of_ne heq with h | h
      · have H2 := Lib.hid (HN.out.trans (show [(i : Int) + 1 + min xy xn, (i : Int) + 1 + max xy xn] = [(i : Int) + 1 + xy, (i : Int) + 1 + xn] by rw [Int.min_eq_left (by omega), Int.max_eq_right (by omega)]))
        clear heq HN
        go_enter Try.func35, Try.ntmps35
        go_wp2_with fail
        refine (QE.out _).mono ?_
        rintro e w1 ⟨rfl, rfl⟩
        go_wp2_with fail
        refine (HQ.out _).mono ?_
        rintro e w1 ⟨rfl, rfl⟩
        go_wp2_with fail
        all_goals first | omega | skip
        all_goals go_ret
        all_goals exact ⟨_, rfl, by rw [H2.out]; exact int64Own_lit rfl (by simp) (by simp) rfl (by simp), ((Below.refl _ _).alloc (Nat.le_refl _) _).alloc (by simp) _⟩
      · have H2 := Lib.hid (HN.out.trans (show [(i : Int) + 1 + min xy xn, (i : Int) + 1 + max xy xn] = [(i : Int) + 1 + xn, (i : Int) + 1 + xy] by rw [Int.min_eq_right (by omega), Int.max_eq_left (by omega)]))
        clear heq HN
        go_enter Try.func35, Try.ntmps35
        go_wp2_with fail
        refine (QE.out _).mono ?_
        rintro e w1 ⟨rfl, rfl⟩
        go_wp2_with fail
        refine (HQ.out _).mono ?_
        rintro e w1 ⟨rfl, rfl⟩
        go_wp2_with fail
        all_goals first | omega | skip
        all_goals go_ret
        all_goals exact ⟨_, rfl, by rw [H2.out]; exact int64Own_lit rfl (by simp) (by simp) rfl (by simp), ((Below.refl _ _).alloc (Nat.le_refl _) _).alloc (by simp) _⟩

end Go.Proofs.Ytibbcafhchoiiaa

/- Where one may come from a word: l04Next of the model walked. -/
import Derived.Test.YtibbcafhchoiiaaLk
import Derived.Test.YtibbcafhchoiiaaFl
import Derived.StillTailTactics
import Derived.Deep.Draws
set_option maxRecDepth 100000
namespace Go.Proofs.Ytibbcafhchoiiaa
open Go.RowKit

def numC (n : Int) : List Value := [.int .i64 n]
theorem numS (n : Int) : (numC n).length = 1 := rfl
def nextI (x : Ins) (i : Int) : List Int :=
  if x.c = 6 ∨ x.c = 22 then []
  else if x.c = 5 then [i + 1 + x.k]
  else if looksC x.c then (if i + 1 + x.y = i + 1 + x.n then [i + 1 + x.y] else [if i + 1 + x.y < i + 1 + x.n then i + 1 + x.y else i + 1 + x.n, if i + 1 + x.n < i + 1 + x.y then i + 1 + x.y else i + 1 + x.n])
  else [i + 1]
abbrev IntOwn (base : Nat) (w : World) (v : Value) (l : List Int) : Prop := OwnL 3 1 numC base w v l
theorem intOwn_lit {base : Nat} {w : World} {H : Nat} {cs : Array Value} {l : List Int} {n : Nat} (hn : n = l.length) (hb : base ≤ w.heap.size) (hH : H = w.heap.size) (hc : cs.toList = l.flatMap numC) (hl : l.length ≤ 1000) : IntOwn base (w.alloc (.cells cs 3)) (.slice (some ⟨H, 0, none⟩) n n) l := by
  subst hH hn
  have := World.ownsRow_lit (base := base) (e := 3) (size := 1) w cs l.length hb (by unfold maxLen; omega) (by rw [← Array.length_toList, hc, flat_length numS])
  unfold IntOwn OwnL
  rw [← hc]
  exact this

set_option maxHeartbeats 1600000 in
theorem l04Next_any (v : Value) (l : List Ins) (i : Nat) (x : Ins) (w : World) (h : InsAt w w.heap.size v l) (hi : l[i]? = some x) (hl : l.length ≤ 1048576) (hr : insRight x = true) :
    Calls Try.prog 33 #[v, .int .i64 i] w fun e w' => ∃ u, e = .returned u ∧ IntOwn w.heap.size w' u (nextI x i) ∧ Below w.heap.size w w' := by
  obtain ⟨a, cap, rfl, hlc, hcm⟩ := h.len
  unfold maxLen at hcm
  obtain ⟨b, o, e, hb, c0, c1, c2, c3, hwf⟩ := h.at_ hi
  subst e
  have hlt : i < l.length := (List.getElem?_eq_some_iff.1 hi).1
  unfold insRight isB at hr
  simp only [Bool.and_eq_true, decide_eq_true_eq] at hr
  obtain ⟨⟨⟨hc, hy⟩, hn⟩, hk⟩ := hr
  obtain ⟨xc, xy, xn, xk⟩ := x
  simp only at c0 c1 c2 c3 hc hy hn hk
  obtain ⟨hy0, hy1⟩ := hy
  obtain ⟨hn0, hn1⟩ := hn
  obtain ⟨hk0, hk1⟩ := hk
  clear h hi hwf
  by_cases h6 : xc = 6
  · subst h6
    have HN := Lib.hid (show nextI ⟨6, xy, xn, xk⟩ i = [] from by simp [nextI])
    go_enter Try.func33, Try.ntmps33
    go_wp2
    go_ret
    exact ⟨_, rfl, by rw [HN.out]; exact intOwn_lit rfl (by simp) (by simp) rfl (by simp), ((Below.refl _ _).alloc (Nat.le_refl _) _).alloc (by simp) _⟩
  have e6 := eq_false_of h6
  by_cases h22 : xc = 22
  · subst h22
    have HN := Lib.hid (show nextI ⟨22, xy, xn, xk⟩ i = [] from by simp [nextI])
    clear h6
    go_enter Try.func33, Try.ntmps33
    go_wp2
    go_ret
    exact ⟨_, rfl, by rw [HN.out]; exact intOwn_lit rfl (by simp) (by simp) rfl (by simp), ((Below.refl _ _).alloc (Nat.le_refl _) _).alloc (by simp) _⟩
  have e22 := eq_false_of h22
  by_cases h5 : xc = 5
  · subst h5
    have HN := Lib.hid (show nextI ⟨5, xy, xn, xk⟩ i = [(i : Int) + 1 + xk] from by simp [nextI])
    clear h6 h22
    go_enter Try.func33, Try.ntmps33
    go_wp2
    go_ret
    exact ⟨_, rfl, by rw [HN.out]; exact intOwn_lit rfl (by simp) (by simp) rfl (by simp), ((Below.refl _ _).alloc (Nat.le_refl _) _).alloc (by simp) _⟩
  have e5 := eq_false_of h5
  have hq := fun W => l02Looks_any xc W
  cases hlk : looksC xc <;> rw [hlk] at hq
  · have HN := Lib.hid (show nextI ⟨xc, xy, xn, xk⟩ i = [(i : Int) + 1] from by simp [nextI, h6, h22, h5, hlk])
    have HQ := Lib.hid hq
    clear h6 h22 h5 hq hlk
    go_enter Try.func33, Try.ntmps33
    go_wp2_with fail
    refine (HQ.out _).mono ?_
    rintro e w1 ⟨rfl, rfl⟩
    go_wp2_with fail
    go_ret
    exact ⟨_, rfl, by rw [HN.out]; exact intOwn_lit rfl (by simp) (by simp) rfl (by simp), ((Below.refl _ _).alloc (Nat.le_refl _) _).alloc (by simp) _⟩
  · have HN0 := Lib.hid (show nextI ⟨xc, xy, xn, xk⟩ i = (if (i : Int) + 1 + xy = (i : Int) + 1 + xn then [(i : Int) + 1 + xy] else [if (i : Int) + 1 + xy < (i : Int) + 1 + xn then (i : Int) + 1 + xy else (i : Int) + 1 + xn, if (i : Int) + 1 + xn < (i : Int) + 1 + xy then (i : Int) + 1 + xy else (i : Int) + 1 + xn]) from by simp only [nextI, h6, h22, h5, hlk, or_self, if_false, if_true])
    have HQ := Lib.hid hq
    clear h6 h22 h5 hq hlk
    have w0 : IntKind.i64.wrap ((i : Int) + 1) = (i : Int) + 1 := by rw [IntKind.wrap_i64]; omega
    have wy : IntKind.i64.wrap ((i : Int) + 1 + xy) = (i : Int) + 1 + xy := by rw [IntKind.wrap_i64]; omega
    have wn : IntKind.i64.wrap ((i : Int) + 1 + xn) = (i : Int) + 1 + xn := by rw [IntKind.wrap_i64]; omega
    have W0 := Lib.hid w0
    have WY := Lib.hid wy
    have WN := Lib.hid wn
    clear w0 wy wn
    go_enter Try.func33, Try.ntmps33
    go_wp2_with fail
    refine (HQ.out _).mono ?_
    rintro e w1 ⟨rfl, rfl⟩
    have w0 := W0.out
    have wy := WY.out
    have wn := WN.out
    go_wp2_with fail
    refine wp_region_still_lit (by kernel_rfl) (by kernel_rfl) ?_
    simp only [World.drew_eq]
    repeat still_step
    refine wpStill_nil ?_
    clear w0 wy wn
    by_cases heq : (i : Int) + 1 + xy = (i : Int) + 1 + xn
    · have hq : ((i : Int) + 1 + xy == (i : Int) + 1 + xn) = true := by simpa using heq
      have HN := Lib.hid (HN0.out.trans (if_pos heq))
      clear heq
      go_wp2_with fail
      go_ret
      exact ⟨_, rfl, by rw [HN.out]; exact intOwn_lit rfl (by simp) (by simp) rfl (by simp), (((Below.refl _ _).alloc (Nat.le_refl _) _).alloc (by simp) _).drew⟩
    · have hq := eq_false_of heq
      have HN := Lib.hid (HN0.out.trans (if_neg heq))
      clear heq
      have q1 := fun W => l01Min_any ((i : Int) + 1 + xy) ((i : Int) + 1 + xn) W
      have q2 := fun W => l01Max_any ((i : Int) + 1 + xy) ((i : Int) + 1 + xn) W
      generalize (if (i : Int) + 1 + xy < (i : Int) + 1 + xn then (i : Int) + 1 + xy else (i : Int) + 1 + xn) = p1 at q1 HN
      generalize (if (i : Int) + 1 + xn < (i : Int) + 1 + xy then (i : Int) + 1 + xy else (i : Int) + 1 + xn) = p2 at q2 HN
      have Q1 := Lib.hid q1
      have Q2 := Lib.hid q2
      clear q1 q2
      go_wp2_with fail
      refine (Q1.out _).mono ?_
      rintro e w1 ⟨rfl, rfl⟩
      go_wp2_with fail
      refine (Q2.out _).mono ?_
      rintro e w1 ⟨rfl, rfl⟩
      go_wp2_with fail
      go_ret
      exact ⟨_, rfl, by rw [HN.out]; exact intOwn_lit rfl (by simp) (by simp) rfl (by simp), (((Below.refl _ _).alloc (Nat.le_refl _) _).alloc (by simp) _).drew⟩

end Go.Proofs.Ytibbcafhchoiiaa

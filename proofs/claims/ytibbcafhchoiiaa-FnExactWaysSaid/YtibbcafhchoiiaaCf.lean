/- What may be wrong with a word, in the program: misfits, nameless, strays, and what readsUnwritten hands back. -/
import Derived.Test.YtibbcafhchoiiaaCw
import Derived.Test.YtibbcafhchoiiaaIo
import Derived.Test.YtibbcafhchoiiaaBd
import Derived.Deep.DeepCutAuto
import Derived.Deep.CutRange
import Derived.Deep.QuietTactic
import Derived.BigQuiet
set_option maxRecDepth 100000
set_option linter.unusedSimpArgs false
namespace Go.Proofs.Ytibbcafhchoiiaa
open Go.RowKit

set_option linter.unusedVariables false
theorem misfits_any (v : Value) (l : List Ins) (i : Nat) (x : Ins) (w : World) (h : InsAt w w.heap.size v l) (hi : l[i]? = some x) (hl : l.length ≤ 1048576) :
    Calls Try.prog 26 #[v, .int .i64 i] w fun e w' => e = .returned (.bool (!insRight x)) ∧ Below w.heap.size w w' := by
  obtain ⟨a, cap, rfl, hlc, hcm⟩ := h.len
  unfold maxLen at hcm
  obtain ⟨b, o, e, hb, c0, c1, c2, c3, hwf⟩ := h.at_ hi
  subst e
  have hlt : i < l.length := (List.getElem?_eq_some_iff.1 hi).1
  obtain ⟨xc, xy, xn, xk⟩ := x
  simp only at c0 c1 c2 c3
  have qr := fun W => isRight_impl xc xy xn xk W
  generalize insRight ⟨xc, xy, xn, xk⟩ = t at *
  have QR := Lib.hid qr
  clear qr h hi hwf
  go_enter Try.func26, Try.ntmps26
  go_wp2_with fail
  refine (QR.out _).mono ?_
  rintro e w1 ⟨rfl, hb1⟩
  have HB := Lib.hid hb1
  clear hb1
  go_wp2_with fail
  go_ret
  exact ⟨rfl, HB.out⟩

theorem nameless_any (v : Value) (l : List Ins) (i : Nat) (x : Ins) (w : World) (h : InsAt w w.heap.size v l) (hi : l[i]? = some x) (hl : l.length ≤ 1048576) :
    Calls Try.prog 27 #[v, .int .i64 i] w fun e w' => e = .returned (.bool (!isOp x.c)) ∧ Below w.heap.size w w' := by
  obtain ⟨a, cap, rfl, hlc, hcm⟩ := h.len
  unfold maxLen at hcm
  obtain ⟨b, o, e, hb, c0, c1, c2, c3, hwf⟩ := h.at_ hi
  subst e
  have hlt : i < l.length := (List.getElem?_eq_some_iff.1 hi).1
  obtain ⟨xc, xy, xn, xk⟩ := x
  simp only at c0 c1 c2 c3
  have qo := fun W => nameOfOp_any xc W
  have HE := Lib.hid (isOp_empty xc)
  generalize opNameOf xc = nm at *
  have QO := Lib.hid qo
  clear qo h hi hwf
  go_enter Try.func27, Try.ntmps27
  go_wp2_with fail
  refine (QO.out _).mono ?_
  rintro e w1 ⟨rfl, hb1⟩
  have HB := Lib.hid hb1
  clear hb1
  go_wp2_with fail
  go_ret
  exact ⟨ret_bool HE.out, HB.out⟩

/-- What strays answers of a right word that has a name. -/
def strayI (n i : Nat) (x : Ins) : Bool :=
  if x.c = 32 then (x.k % 4 != 0 || decide (60 < x.k))
  else if cellC x.c then decide (16 ≤ x.k)
  else if x.c = 52 then x.k == 0
  else if x.c = 100 ∨ x.c = 116 then decide (31 < x.k)
  else farBad n (nextI x i)

set_option maxHeartbeats 3200000 in
theorem strays_any (v : Value) (l : List Ins) (i : Nat) (x : Ins) (w : World) (h : InsAt w w.heap.size v l) (hi : l[i]? = some x) (hl : l.length ≤ 1048576) (hr : insRight x = true) :
    Calls Try.prog 28 #[v, .int .i64 i] w fun e w' => e = .returned (.bool (strayI l.length i x)) ∧ Below w.heap.size w w' := by
  obtain ⟨a, cap, rfl, hlc, hcm⟩ := h.len
  unfold maxLen at hcm
  obtain ⟨b, o, e, hb, c0, c1, c2, c3, hwf⟩ := h.at_ hi
  subst e
  have hlt : i < l.length := (List.getElem?_eq_some_iff.1 hi).1
  have hqn := fun W => waysFrom_any x i W (by omega) hr
  have hbd := ins_bd hr
  obtain ⟨xc, xy, xn, xk⟩ := x
  simp only at c0 c1 c2 c3 hbd
  obtain ⟨⟨hc0, hc1⟩, ⟨hy0, hy1⟩, ⟨hn0, hn1⟩, ⟨hk0, hk1⟩⟩ := hbd
  by_cases h32 : xc = 32
  · subst h32
    have HS := Lib.hid (show strayI l.length i ⟨32, xy, xn, xk⟩ = (xk % 4 != 0 || decide (60 < xk)) from by simp [strayI])
    clear h hi hwf hr hqn
    by_cases h4 : xk % 4 = 0
    · have q4 : (xk % 4 != 0) = false := by simpa using h4
      clear h4
      have HS2 := Lib.hid (HS.out.trans (by rw [q4]))
      go_enter Try.func28, Try.ntmps28
      go_wp2_with fail
      go_ret
      exact ⟨ret_bool (by rw [HS2.out]; rfl), (Below.refl _ _).alloc (Nat.le_refl _) _⟩
    · have q4 : (xk % 4 != 0) = true := by simpa using h4
      clear h4
      have HS2 := Lib.hid (HS.out.trans (by rw [q4]))
      go_enter Try.func28, Try.ntmps28
      go_wp2_with fail
      go_ret
      exact ⟨ret_bool (by rw [HS2.out]; rfl), (Below.refl _ _).alloc (Nat.le_refl _) _⟩
  have e32 := eq_false_of h32
  by_cases hcell : xc = 96 ∨ xc = 97 ∨ xc = 2 ∨ xc = 3
  · have HS := Lib.hid (show strayI l.length i ⟨xc, xy, xn, xk⟩ = decide (16 ≤ xk) from by rcases hcell with rfl | rfl | rfl | rfl <;> simp [strayI, cellC])
    clear h hi hwf hr hqn h32
    rcases hcell with rfl | rfl | rfl | rfl
    all_goals
      go_enter Try.func28, Try.ntmps28
      go_wp2_with fail
      go_ret
      exact ⟨ret_bool (by rw [HS.out]), (Below.refl _ _).alloc (Nat.le_refl _) _⟩
  have hcc : cellC xc = false := by
    simp only [cellC, List.contains_eq_mem, List.mem_cons, List.not_mem_nil, or_false, decide_eq_false_iff_not]
    exact hcell
  simp only [not_or] at hcell
  obtain ⟨n96, n97, n2, n3⟩ := hcell
  have e96 := eq_false_of n96
  have e97 := eq_false_of n97
  have e2 := eq_false_of n2
  have e3 := eq_false_of n3
  by_cases h52 : xc = 52
  · subst h52
    have HS := Lib.hid (show strayI l.length i ⟨52, xy, xn, xk⟩ = (xk == 0) from by simp [strayI, cellC])
    clear h hi hwf hr hqn h32 n96 n97 n2 n3 hcc
    go_enter Try.func28, Try.ntmps28
    go_wp2_with fail
    go_ret
    exact ⟨ret_bool (by rw [HS.out]), (Below.refl _ _).alloc (Nat.le_refl _) _⟩
  have e52 := eq_false_of h52
  by_cases hsh : xc = 100 ∨ xc = 116
  · have HS := Lib.hid (show strayI l.length i ⟨xc, xy, xn, xk⟩ = decide (31 < xk) from by rcases hsh with rfl | rfl <;> simp [strayI, cellC])
    clear h hi hwf hr hqn h32 n96 n97 n2 n3 hcc h52
    rcases hsh with rfl | rfl
    all_goals
      go_enter Try.func28, Try.ntmps28
      go_wp2_with fail
      go_ret
      exact ⟨ret_bool (by rw [HS.out]), (Below.refl _ _).alloc (Nat.le_refl _) _⟩
  have HS := Lib.hid (show strayI l.length i ⟨xc, xy, xn, xk⟩ = farBad l.length (nextI ⟨xc, xy, xn, xk⟩ i) from by simp [strayI, hcc, h32, h52, hsh])
  simp only [not_or] at hsh
  obtain ⟨n100, n116⟩ := hsh
  have e100 := eq_false_of n100
  have e116 := eq_false_of n116
  simp only at hqn
  generalize nextI ⟨xc, xy, xn, xk⟩ i = nx at *
  have QN := Lib.hid hqn
  clear h hi hwf hr hqn h32 n96 n97 n2 n3 hcc h52 n100 n116
  go_enter Try.func28, Try.ntmps28
  go_wp2_with fail
  refine (QN.out _).mono ?_
  rintro e w3 ⟨u, rfl, ho3, hb3⟩
  obtain ⟨ua, ucap, rfl⟩ := OwnL.slice ho3
  have HI3 := Lib.hid (ho3.lAt numS fun _ _ => trivial : LAt numC 1 (fun _ => True) w3 w3.heap.size _ nx)
  have hnl := OwnL.cap_le ho3
  unfold maxLen at hnl
  have HB3 := Lib.hid (box_below hb3)
  clear hb3 ho3
  go_wp2_with fail
  go_loop [48] (fun q => ∃ k : Nat, k ≤ nx.length ∧ q = .int .i64 k ∧ farBad l.length (nx.take k) = false) (fun q => nx.length - (intOf q).toNat)
  case atStart => exact ⟨0, by omega, rfl, rfl⟩
  case round =>
    obtain ⟨k, hk, rfl, hfar⟩ := hrel
    have HF := Lib.hid hfar
    clear hfar
    by_cases hkl : k < nx.length
    · obtain ⟨ub, uo, e, hub, hcell, _⟩ := LAt.at_ HI3.out (List.getElem?_eq_getElem hkl)
      subst e
      have d := hcell 0 _ rfl
      simp only [Nat.mul_one, Nat.add_zero] at d
      clear hcell
      by_cases hbig : (l.length : Int) ≤ nx[k]
      · have HR := Lib.hid (HS.out.trans (far_hit hkl hbig))
        have hd : decide ((l.length : Int) ≤ nx[k]) = true := by simpa using hbig
        clear hbig
        go_wp2_with fail
        go_ret
        exact ⟨ret_bool HR.out.symm, HB3.out⟩
      · have HN := Lib.hid (far_next HF.out hkl hbig)
        have hd : decide ((l.length : Int) ≤ nx[k]) = false := by simpa using hbig
        clear hbig
        go_wp2_with fail
        go_round
        case rel => exact ⟨k + 1, by omega, by go_num, HN.out⟩
        case measure => simp [intOf]; omega
    · have HR := Lib.hid (HS.out.trans (show farBad l.length nx = false by have := HF.out; rw [List.take_of_length_le (by omega)] at this; exact this))
      go_wp2_with fail
      go_ret
      exact ⟨ret_bool HR.out.symm, HB3.out⟩

theorem below_drewN {B : Nat} {a w : World} (h : Below B a w) (n : Nat) : Below B a (w.drewN n) := by
  induction n with
  | zero => exact h
  | succ n ih => exact ih.drew
def u16C (n : Int) : List Value := [.int .u16 n]
theorem u16S (n : Int) : (u16C n).length = 1 := rfl
/-- What the program's mask says of a cell. -/
def unU (m : Int) (x : Ins) : Bool := readsC x.c && (bits .and .u16 (m / 2 ^ x.k.toNat) 1 == 0)

set_option maxHeartbeats 1600000 in
theorem unwritten_any (v : Value) (l : List Ins) (i : Nat) (x : Ins) (u : Value) (ms : List Int) (m : Int) (pb : Nat) (w : World) (h : InsAt w w.heap.size v l) (hi : l[i]? = some x) (hl : l.length ≤ 1048576)
    (hp : w.cell? ⟨pb, 0, none⟩ = some u) (hpb : pb < w.heap.size) (hu : LAt u16C 1 (fun _ => True) w w.heap.size u ms) (hm : ms[i]? = some m) (hk : readsC x.c = true → 0 ≤ x.k ∧ x.k ≤ 15) (hm0 : 0 ≤ m) (hm1 : m ≤ 65535) :
    Calls Try.prog 41 #[v, .int .i64 i, .pointer (some ⟨pb, 0, none⟩)] w fun e w' => e = .returned (.bool (unU m x)) ∧ Below w.heap.size w w' := by
  obtain ⟨a, cap, rfl, hlc, hcm⟩ := h.len
  unfold maxLen at hcm
  obtain ⟨b, o, e, hb, c0, c1, c2, c3, hwf⟩ := h.at_ hi
  subst e
  have hlt : i < l.length := (List.getElem?_eq_some_iff.1 hi).1
  obtain ⟨ua, ucap, e, hul1, hul2⟩ := hu.len
  unfold maxLen at hul2
  subst e
  obtain ⟨ub, uo, e, hub, hcell, _⟩ := LAt.at_ hu hm
  subst e
  have d := hcell 0 _ rfl
  simp only [Nat.mul_one, Nat.add_zero] at d
  have hml : i < ms.length := (List.getElem?_eq_some_iff.1 hm).1
  obtain ⟨xc, xy, xn, xk⟩ := x
  simp only at c0 c1 c2 c3 hk
  by_cases hr : xc = 96 ∨ xc = 97
  · have HR := Lib.hid (show unU m ⟨xc, xy, xn, xk⟩ = (bits .and .u16 (m / 2 ^ xk.toNat) 1 == 0) from by rcases hr with rfl | rfl <;> simp [unU, readsC])
    obtain ⟨hk0, hk1⟩ := hk (by rcases hr with rfl | rfl <;> rfl)
    clear h hi hwf hu hcell hm hk
    rcases hr with rfl | rfl
    all_goals
      go_enter Try.func41, Try.ntmps41
      go_wp2_with fail
      refine wp_region_still_lit (by kernel_rfl) (by kernel_rfl) ?_
      simp only [World.drew_eq]
      repeat still_step
      refine wpStill_nil ?_
      go_wp2_with fail
      go_ret
      exact ⟨ret_bool HR.out.symm, ((Below.refl _ _).alloc (Nat.le_refl _) _).drew⟩
  · simp only [not_or] at hr
    obtain ⟨n96, n97⟩ := hr
    have e96 := eq_false_of n96
    have e97 := eq_false_of n97
    have HR := Lib.hid (show unU m ⟨xc, xy, xn, xk⟩ = false from by simp [unU, readsC, n96, n97])
    clear h hi hwf hu hcell hm hk n96 n97
    go_enter Try.func41, Try.ntmps41
    go_wp2_with fail
    go_quiet ((fail))
    go_wp2_with fail
    go_ret
    exact ⟨ret_bool HR.out.symm, below_drewN ((Below.refl _ _).alloc (Nat.le_refl _) _) _⟩

end Go.Proofs.Ytibbcafhchoiiaa

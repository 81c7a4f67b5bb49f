/- Walk of the model's ProgRead. -/
import Derived.Test.YtlocglafocnghaaPw
import Derived.Test.YtlocglafocnghaaGc
set_option maxRecDepth 100000
namespace Go.Proofs.Ytlocglafocnghaa
open Go.RowKit

/-- What ProgRead answers. -/
def readC (n : Nat) : Int := if 8000 < n then 2 else if n % 8 ≠ 0 then 4 else if 400 < n / 8 then 9 else 0
def wordsB (s : ByteArray) (m : Nat) : List Ins := (List.range m).map fun i => insAtB s (i * 8)
def readP (s : ByteArray) : List Ins := if readC s.size = 0 then wordsB s (s.size / 8) else []
theorem wordsB_next (s : ByteArray) (m : Nat) : wordsB s (m + 1) = wordsB s m ++ [insAtB s (m * 8)] := by simp [wordsB, List.range_succ]
theorem wordsB_length (s : ByteArray) (m : Nat) : (wordsB s m).length = m := by simp [wordsB]
theorem readP_no {s : ByteArray} (h : readC s.size ≠ 0) : readP s = [] := by unfold readP; rw [if_neg h]
theorem readP_yes {s : ByteArray} (h : readC s.size = 0) : readP s = wordsB s (s.size / 8) := by unfold readP; rw [if_pos h]
theorem bytes_bd {s : ByteArray} {i k : Nat} (h : i + k ≤ s.size) : 0 ≤ leV (bytesAt s i k) ∧ leV (bytesAt s i k) < 256 ^ k := by
  have := leV_bd (bytesAt s i k)
  rwa [bytesAt_length h] at this
theorem insAtB_bd {s : ByteArray} {i : Nat} (h : i + 8 ≤ s.size) : (0 ≤ (insAtB s i).c ∧ (insAtB s i).c < 65536) ∧ (0 ≤ (insAtB s i).y ∧ (insAtB s i).y < 256) ∧ (0 ≤ (insAtB s i).n ∧ (insAtB s i).n < 256) ∧ (0 ≤ (insAtB s i).k ∧ (insAtB s i).k < 4294967296) :=
  ⟨bytes_bd (s := s) (i := i) (k := 2) (by omega), bytes_bd (s := s) (i := i + 2) (k := 1) (by omega), bytes_bd (s := s) (i := i + 3) (k := 1) (by omega), bytes_bd (s := s) (i := i + 4) (k := 4) (by omega)⟩
theorem wordsB_wf {s : ByteArray} {m : Nat} (h : m * 8 ≤ s.size) : ∀ x ∈ wordsB s m, x.wf := by
  intro x hx
  simp only [wordsB, List.mem_map, List.mem_range] at hx
  obtain ⟨i, hi, rfl⟩ := hx
  have := insAtB_bd (s := s) (i := i * 8) (by omega)
  unfold Ins.wf In64
  omega
theorem readP_wf (s : ByteArray) : ∀ x ∈ readP s, x.wf := by
  unfold readP
  split
  · exact wordsB_wf (by omega)
  · intro x hx; simp at hx

/-- A program out, of no word but a code. -/
def ProgEnd (base : Nat) (w : World) (l : List Ins) (c : Int) (e : Ending) (w' : World) : Prop := ∃ u, e = .returned (.agg #[u, .int .i64 c, .int .i64 0]) ∧ InsOwn base w' u l ∧ Below w.heap.size w w'

set_option maxHeartbeats 1600000 in
theorem specProgRead_any (s : ByteArray) (w : World) (hs : s.size ≤ maxLen) :
    Calls Try.prog 14 #[.string s] w (ProgEnd w.heap.size w (readP s) (readC s.size)) := by
  unfold maxLen at hs
  by_cases h1 : 8000 < s.size
  · have hc : readC s.size = 2 := by unfold readC; rw [if_pos h1]
    have hp : readP s = [] := readP_no (by rw [hc]; decide)
    have HE : Hid (ProgEnd w.heap.size w (readP s) (readC s.size) = ProgEnd w.heap.size w [] 2) := by show _ = _; rw [hc, hp]
    rw [HE.out]
    clear hc hp
    have hd : decide (8000 < (s.size : Int)) = true := by simp; omega
    go_enter Try.func14, Try.ntmps14
    go_wp2
    exact bodyPost_ret (v := .agg #[.slice none 0 0, .int .i64 2, .int .i64 0]) (by simp [results, Try.results14, go_sem]) rfl ⟨_, rfl, InsOwn.nil _ _, (Below.refl _ _).alloc (Nat.le_refl _) _⟩
  by_cases h2 : s.size % 8 ≠ 0
  · have hc : readC s.size = 4 := by unfold readC; rw [if_neg h1, if_pos h2]
    have hp : readP s = [] := readP_no (by rw [hc]; decide)
    have HE : Hid (ProgEnd w.heap.size w (readP s) (readC s.size) = ProgEnd w.heap.size w [] 4) := by show _ = _; rw [hc, hp]
    rw [HE.out]
    clear hc hp
    have hd : decide (8000 < (s.size : Int)) = false := by simp; omega
    have hd2 : ((s.size : Int) % 8 != 0) = true := by simp; omega
    go_enter Try.func14, Try.ntmps14
    go_wp2
    exact bodyPost_ret (v := .agg #[.slice none 0 0, .int .i64 4, .int .i64 0]) (by simp [results, Try.results14, go_sem]) rfl ⟨_, rfl, InsOwn.nil _ _, (Below.refl _ _).alloc (Nat.le_refl _) _⟩
  by_cases h3 : 400 < s.size / 8
  · have hc : readC s.size = 9 := by unfold readC; rw [if_neg h1, if_neg h2, if_pos h3]
    have hp : readP s = [] := readP_no (by rw [hc]; decide)
    have HE : Hid (ProgEnd w.heap.size w (readP s) (readC s.size) = ProgEnd w.heap.size w [] 9) := by show _ = _; rw [hc, hp]
    rw [HE.out]
    clear hc hp
    have hd : decide (8000 < (s.size : Int)) = false := by simp; omega
    have hd2 : ((s.size : Int) % 8 != 0) = false := by simp; omega
    have hd3 : decide (400 < (s.size : Int) / 8) = true := by simp; omega
    go_enter Try.func14, Try.ntmps14
    go_wp2
    exact bodyPost_ret (v := .agg #[.slice none 0 0, .int .i64 9, .int .i64 0]) (by simp [results, Try.results14, go_sem]) rfl ⟨_, rfl, InsOwn.nil _ _, (Below.refl _ _).alloc (Nat.le_refl _) _⟩
  have hc : readC s.size = 0 := by unfold readC; rw [if_neg h1, if_neg h2, if_neg h3]
  have HE : Hid (ProgEnd w.heap.size w (readP s) (readC s.size) = ProgEnd w.heap.size w (wordsB s (s.size / 8)) 0) := by show _ = _; rw [readP_yes hc, hc]
  rw [HE.out]
  clear hc
  have hd : decide (8000 < (s.size : Int)) = false := by simp; omega
  have hd2 : ((s.size : Int) % 8 != 0) = false := by simp; omega
  have hd3 : decide (400 < (s.size : Int) / 8) = false := by simp; omega
  go_enter Try.func14, Try.ntmps14
  go_wp2
  go_loopw [3, 4] (fun v i wr => ∃ k : Nat, k ≤ s.size / 8 ∧ i = .int .i64 ((8 * k : Nat) : Int) ∧ InsOwn (w.heap.size + 1) wr v (wordsB s k) ∧ Below (w.alloc (.cells #[.slice none 0 0, .int .i64 0, .int .i64 0] 36)).heap.size (w.alloc (.cells #[.slice none 0 0, .int .i64 0, .int .i64 0] 36)) wr)
    (fun _ i _ => s.size - (intOf i).toNat)
  case atStart =>
    exact ⟨0, by omega, rfl, insOwn_lit (w := w.alloc (.cells #[.slice none 0 0, .int .i64 0, .int .i64 0] 36)) (by simp) (by simp), (Below.refl _ _).alloc (Nat.le_refl _) _⟩
  case round =>
    obtain ⟨k, hk, rfl, hown, hbw⟩ := hrel
    have hsz := hbw.size
    simp only [World.size_alloc] at hsz
    by_cases hlt : k < s.size / 8
    · have hl := wordsB_length s k
      have hle : (wordsB s k).length ≤ 1000000000 := by omega
      have hnx := wordsB_next s k
      have hbd := insAtB_bd (s := s) (i := k * 8) (by omega)
      have q1 := fun z w (hz : z = ((k * 8 : Nat) : Int)) => l02Get_int s z 2 (k * 8) 2 w (by unfold maxLen; omega) hz rfl (by omega) (by omega)
      have q2 := fun z w (hz : z = ((k * 8 + 2 : Nat) : Int)) => l02Get_int s z 1 (k * 8 + 2) 1 w (by unfold maxLen; omega) hz rfl (by omega) (by omega)
      have q3 := fun z w (hz : z = ((k * 8 + 3 : Nat) : Int)) => l02Get_int s z 1 (k * 8 + 3) 1 w (by unfold maxLen; omega) hz rfl (by omega) (by omega)
      have q4 := fun z w (hz : z = ((k * 8 + 4 : Nat) : Int)) => l02Get_int s z 4 (k * 8 + 4) 4 w (by unfold maxLen; omega) hz rfl (by omega) (by omega)
      have e1 : leV (bytesAt s (k * 8) 2) = (insAtB s (k * 8)).c := rfl
      have e2 : leV (bytesAt s (k * 8 + 2) 1) = (insAtB s (k * 8)).y := rfl
      have e3 : leV (bytesAt s (k * 8 + 3) 1) = (insAtB s (k * 8)).n := rfl
      have e4 : leV (bytesAt s (k * 8 + 4) 4) = (insAtB s (k * 8)).k := rfl
      rw [e1] at q1
      rw [e2] at q2
      rw [e3] at q3
      rw [e4] at q4
      clear e1 e2 e3 e4
      generalize insAtB s (k * 8) = x at *
      obtain ⟨xc, xy, xn, xk⟩ := x
      simp only at q1 q2 q3 q4 hbd
      have HN := Lib.hid hnx
      have Q1 := Lib.hid q1
      have Q2 := Lib.hid q2
      have Q3 := Lib.hid q3
      have Q4 := Lib.hid q4
      clear hnx q1 q2 q3 q4 hl
      go_wp2_with fail
      refine (Q1.out _ _ (by omega)).mono ?_
      rintro e w1 ⟨rfl, rfl⟩
      go_wp2_with fail
      refine (Q2.out _ _ (by omega)).mono ?_
      rintro e w1 ⟨rfl, rfl⟩
      go_wp2_with fail
      refine (Q3.out _ _ (by omega)).mono ?_
      rintro e w1 ⟨rfl, rfl⟩
      go_wp2_with fail
      refine (Q4.out _ _ (by omega)).mono ?_
      rintro e w1 ⟨rfl, rfl⟩
      go_wp2_with (at_builtin; refine wpList_push_ins rfl _ _ (by rfl) _ _ _ _ _ (w.heap.size + 1) _ (wordsB s k) (by rfl) hown (by rfl) hle hsz ?_; intro v1 w1 hown1 hg1)
      rw [← HN.out] at hown1
      have hb1 := hg1.below hbw (by simpa using hsz) (fun j hj => by have := (hown.lt j hj).1; simpa using this)
      go_roundw
      case rel => exact ⟨k + 1, by omega, by go_num, hown1, hb1⟩
      case measure => simp [intOf]; omega
    · have hkk : k = s.size / 8 := by omega
      have HK := Lib.hid hkk
      have c0 := box_cell hbw 0
      have c1 := box_cell hbw 1
      have c2 := box_cell hbw 2
      simp only [List.getElem?_toArray, List.getElem?_cons_zero, List.getElem?_cons_succ] at c0 c1 c2
      have f0 := box_free hbw 0
      have f1 := box_free hbw 1
      have f2 := box_free hbw 2
      have hge : s.size ≤ 8 * k := by omega
      have HB := Lib.hid (box_below hbw)
      obtain ⟨a3, cap3, rfl⟩ := hown.slice
      have HO := Lib.hid hown
      clear hbw hown hkk
      go_wp2_with fail
      exact bodyPost_ret (v := .agg #[.slice a3 (wordsB s k).length cap3, .int .i64 0, .int .i64 0]) (by simp [results, Try.results14, go_sem, c0, c1, c2]) rfl
        ⟨_, rfl, by rw [← HK.out]; exact (((HO.out.setBelow (by simp) _).setBelow (by simp) _).setBelow (by simp) _).base (by omega),
          ((HB.out.setCell (p := ⟨w.heap.size, 0, none⟩) (Nat.le_refl _) _).setCell (p := ⟨w.heap.size, 1, none⟩) (Nat.le_refl _) _).setCell (p := ⟨w.heap.size, 2, none⟩) (Nat.le_refl _) _⟩

end Go.Proofs.Ytlocglafocnghaa

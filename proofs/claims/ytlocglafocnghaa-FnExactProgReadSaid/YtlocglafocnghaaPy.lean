/- Walk of the program's ProgRead. -/
import Derived.Test.YtlocglafocnghaaPx
set_option maxRecDepth 100000
namespace Go.Proofs.Ytlocglafocnghaa
open Go.RowKit

set_option maxHeartbeats 1600000 in
theorem implProgRead_any (s : ByteArray) (w : World) (hs : s.size ≤ maxLen) :
    Calls Try.prog 15 #[.string s] w (ProgEnd w.heap.size w (readP s) (readC s.size)) := by
  obtain ⟨i0, hi, hz0, hz1, hz2⟩ := info_parts info_insn
  unfold maxLen at hs
  by_cases h1 : 8000 < s.size
  · have hc : readC s.size = 2 := by unfold readC; rw [if_pos h1]
    have hp : readP s = [] := readP_no (by rw [hc]; decide)
    have HE : Hid (ProgEnd w.heap.size w (readP s) (readC s.size) = ProgEnd w.heap.size w [] 2) := by show _ = _; rw [hc, hp]
    rw [HE.out]
    clear hc hp
    have hd : decide (8000 < (s.size : Int)) = true := by simp; omega
    go_enter Try.func15, Try.ntmps15
    go_wp2
    exact bodyPost_ret (v := .agg #[.slice none 0 0, .int .i64 2, .int .i64 0]) (by simp [results, Try.results15, go_sem]) rfl ⟨_, rfl, InsOwn.nil _ _, (Below.refl _ _).alloc (Nat.le_refl _) _⟩
  by_cases h2 : s.size % 8 ≠ 0
  · have hc : readC s.size = 4 := by unfold readC; rw [if_neg h1, if_pos h2]
    have hp : readP s = [] := readP_no (by rw [hc]; decide)
    have HE : Hid (ProgEnd w.heap.size w (readP s) (readC s.size) = ProgEnd w.heap.size w [] 4) := by show _ = _; rw [hc, hp]
    rw [HE.out]
    clear hc hp
    have hd : decide (8000 < (s.size : Int)) = false := by simp; omega
    have hd2 : ((s.size : Int) % 8 != 0) = true := by simp; omega
    go_enter Try.func15, Try.ntmps15
    go_wp2
    exact bodyPost_ret (v := .agg #[.slice none 0 0, .int .i64 4, .int .i64 0]) (by simp [results, Try.results15, go_sem]) rfl ⟨_, rfl, InsOwn.nil _ _, (Below.refl _ _).alloc (Nat.le_refl _) _⟩
  by_cases h3 : 400 < s.size / 8
  · have hc : readC s.size = 9 := by unfold readC; rw [if_neg h1, if_neg h2, if_pos h3]
    have hp : readP s = [] := readP_no (by rw [hc]; decide)
    have HE : Hid (ProgEnd w.heap.size w (readP s) (readC s.size) = ProgEnd w.heap.size w [] 9) := by show _ = _; rw [hc, hp]
    rw [HE.out]
    clear hc hp
    have hd : decide (8000 < (s.size : Int)) = false := by simp; omega
    have hd2 : ((s.size : Int) % 8 != 0) = false := by simp; omega
    have hd3 : decide (400 < (s.size : Int) / 8) = true := by simp; omega
    go_enter Try.func15, Try.ntmps15
    go_wp2
    exact bodyPost_ret (v := .agg #[.slice none 0 0, .int .i64 9, .int .i64 0]) (by simp [results, Try.results15, go_sem]) rfl ⟨_, rfl, InsOwn.nil _ _, (Below.refl _ _).alloc (Nat.le_refl _) _⟩
  have hc : readC s.size = 0 := by unfold readC; rw [if_neg h1, if_neg h2, if_neg h3]
  have HE : Hid (ProgEnd w.heap.size w (readP s) (readC s.size) = ProgEnd w.heap.size w (wordsB s (s.size / 8)) 0) := by show _ = _; rw [readP_yes hc, hc]
  rw [HE.out]
  clear hc
  have hd : decide (8000 < (s.size : Int)) = false := by simp; omega
  have hd2 : ((s.size : Int) % 8 != 0) = false := by simp; omega
  have hd3 : decide (400 < (s.size : Int) / 8) = false := by simp; omega
  have hm : (s.size : Int) / 8 = ((s.size / 8 : Nat) : Int) := by omega
  obtain ⟨m, hmm⟩ : ∃ m, m = s.size / 8 := ⟨_, rfl⟩
  rw [← hmm] at hm ⊢
  have HM := Lib.hid hm
  have HMM := Lib.hid hmm
  have hm4 : m ≤ 400 := by omega
  have hm8 : m * 8 = s.size := by omega
  clear hm hmm
  have HM8 := Lib.hid hm8
  clear hm8
  go_enter Try.func15, Try.ntmps15
  go_wp2_with (refine wpList_make_full _ rfl _ _ _ rfl (w.heap.size + 1) 25 i0 _ 4 Try.underlying31 hi hz0 hz1 .i64 .i64 _ _ m rfl rfl HM.out HM.out (by rw [hz2]; omega) (by unfold maxLen; omega) (by simp) ?_; intro w1 hown1 hg1)
  rw [made_ins] at hown1
  have hb1 : Below (w.alloc (.cells #[.slice none 0 0, .int .i64 0, .int .i64 0] 36)).heap.size (w.alloc (.cells #[.slice none 0 0, .int .i64 0, .int .i64 0] 36)) w1 := (Below.refl _ _).grown hg1 (Nat.le_refl _) (fun k hk => by cases hk)
  have HO := Lib.hid hown1
  clear hown1 hg1
  go_loopw [4, 28] (fun _ i wr => ∃ k : Nat, k ≤ m ∧ i = .int .i64 k ∧ wr.ownsRow (w.heap.size + 1) 25 4 (.slice (some ⟨w.heap.size + 1, 0, none⟩) m m) m (progCells (wordsB s k ++ List.replicate (m - k) ins0)) ∧
      Below (w.alloc (.cells #[.slice none 0 0, .int .i64 0, .int .i64 0] 36)).heap.size (w.alloc (.cells #[.slice none 0 0, .int .i64 0, .int .i64 0] 36)) wr)
    (fun _ i _ => m - (intOf i).toNat)
  case atStart => exact ⟨0, by omega, rfl, by simpa [wordsB] using HO.out, hb1⟩
  case round =>
    obtain ⟨k, hk, rfl, hown, hbw⟩ := hrel
    have hsz := hbw.size
    simp only [World.size_alloc] at hsz
    by_cases hlt : k < m
    · have hb8 : k * 8 + 8 ≤ s.size := by have := HM8.out; omega
      have hb8' : (k : Int) * 8 ≤ (s.size : Int) := by omega
      have hb0' : (0 : Int) ≤ (k : Int) * 8 := by omega
      have hx := (insAtB_extract (s := s.extract (k * 8) s.size) (a := 0) (b := 8) (by omega)).trans (insAtB_extract (s := s) (a := k * 8) (b := s.size) (by omega))
      have hz : ((s.extract (k * 8) s.size).extract 0 8).size = 8 := by
        have h1 : (s.extract (k * 8) s.size).size = s.size - k * 8 := extract_size (by omega) (by omega)
        rw [extract_size (by omega) (by omega)]
      have q := fun w => insnOf_any ((s.extract (k * 8) s.size).extract 0 8) w hz
      rw [hx] at q
      clear hx hz
      have hnx := wordsB_next s k
      have hfill := fun x => fill_at (wordsB_length s k) hlt x
      generalize insAtB s (k * 8) = x at *
      have HN := Lib.hid hnx
      have HF := Lib.hid hfill
      have Q := Lib.hid q
      clear hnx hfill q
      obtain ⟨xc, xy, xn, xk⟩ := x
      go_wp2_with fail
      refine (Q.out _).mono ?_
      rintro e w2 ⟨rfl, hb2⟩
      have hown2 := own_below hown hb2
      have hset := own_ins_set hown2 (k := k) (by simp [wordsB_length]; omega) ⟨xc, xy, xn, xk⟩
      rw [(HF.out _).2, ← HN.out] at hset
      obtain ⟨d0, d1, d2, d3, f0, f1, f2, f3⟩ := own_ins_at hown2 (HF.out ⟨xc, xy, xn, xk⟩).1
      have hbX : ∀ u0 u1 u2 u3 : Value, Below (w.alloc (.cells #[.slice none 0 0, .int .i64 0, .int .i64 0] 36)).heap.size (w.alloc (.cells #[.slice none 0 0, .int .i64 0, .int .i64 0] 36)) ((((w2.setCell ⟨w.heap.size + 1, k * 4, none⟩ u0).setCell ⟨w.heap.size + 1, k * 4 + 1, none⟩ u1).setCell ⟨w.heap.size + 1, k * 4 + 2, none⟩ u2).setCell ⟨w.heap.size + 1, k * 4 + 3, none⟩ u3) :=
        fun u0 u1 u2 u3 => ((((hbw.trans (hb2.mono (by simpa using hsz))).setCell (p := ⟨w.heap.size + 1, k * 4, none⟩) (by simp) _).setCell (p := ⟨w.heap.size + 1, k * 4 + 1, none⟩) (by simp) _).setCell (p := ⟨w.heap.size + 1, k * 4 + 2, none⟩) (by simp) _).setCell (p := ⟨w.heap.size + 1, k * 4 + 3, none⟩) (by simp) _
      have HS := Lib.hid hset
      have HB := Lib.hid hbX
      clear hset hbX hown2 hown hbw hb2
      go_wp2_with fail
      go_roundw
      case rel => exact ⟨k + 1, by omega, by go_num, HS.out, HB.out _ _ _ _⟩
      case measure => simp [intOf]; omega
    · have hkk : k = m := by omega
      have HK := Lib.hid hkk
      have c0 := box_cell hbw 0
      have c1 := box_cell hbw 1
      have c2 := box_cell hbw 2
      simp only [List.getElem?_toArray, List.getElem?_cons_zero, List.getElem?_cons_succ] at c0 c1 c2
      have f0 := box_free hbw 0
      have f1 := box_free hbw 1
      have f2 := box_free hbw 2
      have HB := Lib.hid (box_below hbw)
      have ho : InsOwn (w.heap.size + 1) wr (.slice (some ⟨w.heap.size + 1, 0, none⟩) m m) (wordsB s m) := by
        unfold InsOwn
        rw [wordsB_length]
        rw [hkk, Nat.sub_self] at hown
        simpa using hown
      have HO := Lib.hid ho
      clear hbw hown hkk ho
      go_wp2_with fail
      exact bodyPost_ret (v := .agg #[.slice (some ⟨w.heap.size + 1, 0, none⟩) m m, .int .i64 0, .int .i64 0]) (by simp [results, Try.results15, go_sem, c0, c1, c2]) rfl
        ⟨_, rfl, (((HO.out.setBelow (by simp) _).setBelow (by simp) _).setBelow (by simp) _).base (by omega),
          ((HB.out.setCell (p := ⟨w.heap.size, 0, none⟩) (Nat.le_refl _) _).setCell (p := ⟨w.heap.size, 1, none⟩) (Nat.le_refl _) _).setCell (p := ⟨w.heap.size, 2, none⟩) (Nat.le_refl _) _⟩

end Go.Proofs.Ytlocglafocnghaa

/- Walks: GetText in the model and in the program. -/
import Derived.Test.YtoabhpgiaieopaaDoorGi
import Derived.Test.YtoabhpgiaieopaaDoorJo
import Derived.StillTailTactics
import Derived.BigQuiet
set_option maxRecDepth 100000
namespace Go.Proofs.YtoabhpgiaieopaaDoor
open Go.RowKit

/-- What GetText answers. -/
def getT (s : ByteArray) (at_ : Int) : ByteArray × Int × Int :=
  if (getN s at_).2.2 ≠ 0 then (⟨#[]⟩, 0, (getN s at_).2.2)
  else if (getN s at_).1 < 0 ∨ 8000 < (getN s at_).1 then (⟨#[]⟩, 0, 3)
  else if (s.size : Int) < (getN s at_).2.1 + (getN s at_).1 then (⟨#[]⟩, 0, 4)
  else (s.extract (getN s at_).2.1.toNat ((getN s at_).2.1 + (getN s at_).1).toNat, (getN s at_).2.1 + (getN s at_).1, 0)
def textOutOf (x : ByteArray × Int × Int) : Value := .agg #[.string x.1, .int .i64 x.2.1, .int .i64 x.2.2]

theorem getB_count : ∀ (f i : Nat) (u : Int) (l : List UInt8), i + f ≤ 10 → (getB f i u l).2.1 ≤ 10
  | 0, _, _, _, _ => by simp [getB]
  | f + 1, i, u, [], _ => by simp [getB]
  | f + 1, i, u, c :: l, h => by
    unfold getB
    split
    · simp
    · split
      · split
        · simp
        · simp; omega
      · exact getB_count f (i + 1) _ l (by omega)
theorem getN_place_bd (s : ByteArray) (at_ : Int) (h1 : at_ ≤ 9223372036854775807) : 0 ≤ (getN s at_).2.1 ∧ ((getN s at_).2.2 = 0 → at_ ≤ 8000 → (getN s at_).2.1 ≤ 8010) := by
  unfold getN
  have h := getB_count 10 0 0 (s.data.toList.drop at_.toNat) (by omega)
  split
  · simp
  · split
    · simp
    · split
      · simp; omega
      · simp
theorem getN_at {s : ByteArray} {at_ : Int} (h : (getN s at_).2.2 = 0) : 0 ≤ at_ ∧ at_ ≤ s.size ∧ s.size ≤ 8000 := by
  unfold getN at h
  split at h
  · simp at h
  · split at h
    · simp at h
    · rename_i h1 h2
      refine ⟨by omega, ?_, by omega⟩
      rcases Int.lt_or_le (s.size : Int) at_ with h3 | h3
      · rw [drop_end s at_.toNat (by omega)] at h
        simp [getB] at h
      · exact h3

set_option maxHeartbeats 1600000 in
theorem specGetText_any (s : ByteArray) (at_ : Int) (w : World) (hs : s.size ≤ maxLen) (h0 : -9223372036854775808 ≤ at_) (h1 : at_ ≤ 9223372036854775807) :
    Calls Tryd.prog 16 #[.string s, .int .i64 at_] w fun e w' => e = .returned (textOutOf (getT s at_)) ∧ Below w.heap.size w w' := by
  have hgn := fun w => specGetNum_any s at_ w hs h0 h1
  have hans : getT s at_ = getT s at_ := rfl
  conv at hans => rhs; unfold getT
  have hplace := getN_place_bd s at_ h1
  have hat := @getN_at s at_
  unfold numOutOf at hgn
  generalize (getN s at_).1 = n at hgn hans
  generalize (getN s at_).2.1 = p at hgn hans hplace
  generalize (getN s at_).2.2 = c at hgn hans hplace hat
  have HN := Lib.hid hgn
  clear hgn
  by_cases hc : c = 0
  · subst hc
    obtain ⟨ha0, ha1, hs8⟩ := hat rfl
    have hp8 := hplace.2 rfl (by omega)
    have hp0 := hplace.1
    rw [if_neg (by simp)] at hans
    clear hat hplace
    by_cases hn : n < 0 ∨ 8000 < n
    · rw [if_pos hn] at hans
      have HA := Lib.hid hans
      clear hans
      have hd : (decide (n < 0) = true) ∨ (decide (n < 0) = false ∧ decide (8000 < n) = true) := by
        by_cases h : n < 0
        · left; simpa using h
        · right; exact ⟨by simpa using h, by simp; omega⟩
      clear hn
      rcases hd with hd | ⟨hd, hd2⟩
      all_goals
        go_enter Tryd.func16, Tryd.ntmps16
        go_wp2_with fail
        refine (HN.out _).mono ?_
        rintro e w2 ⟨rfl, hb2⟩
        obtain ⟨c0, c1, c2, f0, f1, f2, hlt, hbw, hbs⟩ := box3 (w := w) rfl ((Below.refl _ _).alloc (Nat.le_refl _) _) hb2
        have HB := Lib.hid hbw
        have HBS := Lib.hid hbs
        clear hbw hbs hb2
        go_wp2
        exact bodyPost_ret (v := .agg #[.string ⟨#[]⟩, .int .i64 0, .int .i64 3]) (by simp [results, Tryd.results16, go_sem, c0, c1, c2, World.cell?_alloc_lt, hlt]) rfl ⟨by rw [HA.out]; rfl, (HBS.out _ _ _).alloc (by simp; omega) _⟩
    · rw [if_neg hn] at hans
      have hn0 : 0 ≤ n := by omega
      have hn1 : n ≤ 8000 := by omega
      have hd1 : decide (n < 0) = false := by simp; omega
      have hd2 : decide (8000 < n) = false := by simp; omega
      by_cases hlong : (s.size : Int) < p + n
      · rw [if_pos hlong] at hans
        have hd3 : decide ((s.size : Int) - n < p) = true := by simp; omega
        have HA := Lib.hid hans
        clear hans hn
        go_enter Tryd.func16, Tryd.ntmps16
        go_wp2_with fail
        refine (HN.out _).mono ?_
        rintro e w2 ⟨rfl, hb2⟩
        obtain ⟨c0, c1, c2, f0, f1, f2, hlt, hbw, hbs⟩ := box3 (w := w) rfl ((Below.refl _ _).alloc (Nat.le_refl _) _) hb2
        have HB := Lib.hid hbw
        have HBS := Lib.hid hbs
        clear hbw hbs hb2
        go_wp2
        exact bodyPost_ret (v := .agg #[.string ⟨#[]⟩, .int .i64 0, .int .i64 4]) (by simp [results, Tryd.results16, go_sem, c0, c1, c2, World.cell?_alloc_lt, hlt]) rfl ⟨by rw [HA.out]; rfl, (HBS.out _ _ _).alloc (by simp; omega) _⟩
      · rw [if_neg hlong] at hans
        have hpn : p + n ≤ (s.size : Int) := by omega
        have hd3 : decide ((s.size : Int) - n < p) = false := by simp; omega
        have hsl : ∀ W, (Instr.slice 9 (.string s) (some (.int .i64 p)) (some (.int .i64 (p + n))) none).run Tryd.prog W = .ok (.string (s.extract p.toNat (p + n).toNat)) W := fun W => by
          rw [run_slice_string W 9 s .i64 .i64 p (p + n) Tryd.underlying9 (by omega) (by omega) (by omega)]
        have hwr : IntKind.i64.wrap (p + n) = p + n := IntWalk.i64_in _ (by omega)
        generalize s.extract p.toNat (p + n).toNat = X at hans hsl
        have HA := Lib.hid hans
        clear hans hn hlong
        go_enter Tryd.func16, Tryd.ntmps16
        go_wp2_with fail
        refine (HN.out _).mono ?_
        rintro e w2 ⟨rfl, hb2⟩
        obtain ⟨c0, c1, c2, f0, f1, f2, hlt, hbw, hbs⟩ := box3 (w := w) rfl ((Below.refl _ _).alloc (Nat.le_refl _) _) hb2
        have HB := Lib.hid hbw
        have HBS := Lib.hid hbs
        clear hbw hbs hb2
        go_wp2_with fail
        refine wp_region_still_tail 15 (by kernel_rfl) (by kernel_rfl) ?_
        simp only [List.take_succ_cons, List.take_zero, List.drop_succ_cons, List.drop_zero, World.drew_eq]
        repeat still_step
        refine wpStill_nil ?_
        go_wp2
        exact bodyPost_ret (v := .agg #[.string X, .int .i64 (p + n), .int .i64 0]) (by simp [results, Tryd.results16, go_sem, c0, c1, c2, World.cell?_alloc_lt, hlt]) rfl ⟨by rw [HA.out]; rfl, ((HBS.out _ _ _).alloc (by simp; omega) _).drew⟩
  · rw [if_pos hc] at hans
    have HA := Lib.hid hans
    clear hans hat hplace
    have hcb : (c != 0) = true := by simpa using hc
    go_enter Tryd.func16, Tryd.ntmps16
    go_wp2_with fail
    refine (HN.out _).mono ?_
    rintro e w2 ⟨rfl, hb2⟩
    obtain ⟨c0, c1, c2, f0, f1, f2, hlt, hbw, hbs⟩ := box3 (w := w) rfl ((Below.refl _ _).alloc (Nat.le_refl _) _) hb2
    have HB := Lib.hid hbw
    have HBS := Lib.hid hbs
    clear hbw hbs hb2
    go_wp2
    exact bodyPost_ret (v := .agg #[.string ⟨#[]⟩, .int .i64 0, .int .i64 c]) (by simp [results, Tryd.results16, go_sem, c0, c1, c2, World.cell?_alloc_lt, hlt]) rfl ⟨by rw [HA.out]; rfl, (HBS.out _ _ _).alloc (by simp; omega) _⟩

set_option maxHeartbeats 1600000 in
theorem readText_any (s : ByteArray) (at_ : Int) (w : World) (hs : s.size ≤ maxLen) (h0 : -9223372036854775808 ≤ at_) (h1 : at_ ≤ 9223372036854775807) :
    Calls Tryd.prog 28 #[.string s, .int .i64 at_] w fun e w' => e = .returned (.tuple #[.string (getT s at_).1, .int .i64 (getT s at_).2.1, errV (getT s at_).2.2]) ∧ Below w.heap.size w w' := by
  have hgn := fun w => readNum_any s at_ w hs h0 h1
  have hans : getT s at_ = getT s at_ := rfl
  conv at hans => rhs; unfold getT
  have hplace := getN_place_bd s at_ h1
  have hat := @getN_at s at_
  generalize (getN s at_).1 = n at hgn hans
  generalize (getN s at_).2.1 = p at hgn hans hplace
  generalize (getN s at_).2.2 = c at hgn hans hplace hat
  by_cases hc : c = 0
  · subst hc
    simp only [errV_ok] at hgn
    have HN := Lib.hid hgn
    clear hgn
    obtain ⟨ha0, ha1, hs8⟩ := hat rfl
    have hp8 := hplace.2 rfl (by omega)
    have hp0 := hplace.1
    rw [if_neg (by simp)] at hans
    clear hat hplace
    by_cases hn : n < 0 ∨ 8000 < n
    · rw [if_pos hn] at hans
      have HA := Lib.hid hans
      clear hans
      have hd : (decide (n < 0) = true) ∨ (decide (n < 0) = false ∧ decide (8000 < n) = true) := by
        by_cases h : n < 0
        · left; simpa using h
        · right; exact ⟨by simpa using h, by simp; omega⟩
      clear hn
      rcases hd with hd | ⟨hd, hd2⟩
      all_goals
        go_enter Tryd.func28, Tryd.ntmps28
        go_wp2_with (go_at_call 22; refine (HN.out _).mono ?_; rintro e w1 ⟨rfl, rfl⟩)
        go_ret3
        exact ⟨by rw [HA.out]; rfl, Below.refl _ _⟩
    · rw [if_neg hn] at hans
      have hn0 : 0 ≤ n := by omega
      have hn1 : n ≤ 8000 := by omega
      have hd1 : decide (n < 0) = false := by simp; omega
      have hd2 : decide (8000 < n) = false := by simp; omega
      by_cases hlong : (s.size : Int) < p + n
      · rw [if_pos hlong] at hans
        have hd3 : decide ((s.size : Int) < p + n) = true := by simp; omega
        have HA := Lib.hid hans
        clear hans hn
        go_enter Tryd.func28, Tryd.ntmps28
        go_wp2_with (go_at_call 22; refine (HN.out _).mono ?_; rintro e w1 ⟨rfl, rfl⟩)
        go_ret3
        exact ⟨by rw [HA.out]; rfl, Below.refl _ _⟩
      · rw [if_neg hlong] at hans
        have hpn : p + n ≤ (s.size : Int) := by omega
        have hd3 : decide ((s.size : Int) < p + n) = false := by simp; omega
        have hsl : ∀ W, (Instr.slice 9 (.string s) (some (.int .i64 p)) (some (.int .i64 (p + n))) none).run Tryd.prog W = .ok (.string (s.extract p.toNat (p + n).toNat)) W := fun W => by
          rw [run_slice_string W 9 s .i64 .i64 p (p + n) Tryd.underlying9 (by omega) (by omega) (by omega)]
        have hX : (s.extract p.toNat (p + n).toNat).size ≤ 8000 := by rw [ByteArray.size_extract]; omega
        generalize s.extract p.toNat (p + n).toNat = X at hans hsl hX
        have HA := Lib.hid hans
        clear hans hn hlong
        go_enter Tryd.func28, Tryd.ntmps28
        go_wp2_with (first | (go_at_call 22; refine (HN.out _).mono ?_; rintro e w1 ⟨rfl, rfl⟩) | (go_at_call 33; refine (clone_any X _ (by omega)).mono ?_; rintro e w2 ⟨rfl, hb2⟩))
        go_ret3
        exact ⟨by rw [HA.out]; rfl, hb2⟩
  · rw [if_pos hc] at hans
    simp only [errV_bad hc] at hgn
    have HN := Lib.hid hgn
    have HA : Hid (getT s at_ = (⟨#[]⟩, 0, c)) := hans
    clear hgn hans hat hplace
    go_enter Tryd.func28, Tryd.ntmps28
    go_wp2_with (go_at_call 22; refine (HN.out _).mono ?_; rintro e w1 ⟨rfl, rfl⟩)
    go_ret3
    exact ⟨by rw [HA.out, errV_bad hc]; rfl, Below.refl _ _⟩

set_option maxHeartbeats 1000000 in
theorem implGetText_any (s : ByteArray) (at_ : Int) (w : World) (hs : s.size ≤ maxLen) (h0 : -9223372036854775808 ≤ at_) (h1 : at_ ≤ 9223372036854775807) (hg : w.cell? ⟨0, 0, none⟩ = some handleV) :
    Calls Tryd.prog 13 #[.string s, .int .i64 at_] w fun e w' => e = .returned (textOutOf (getT s at_)) ∧ Below w.heap.size w w' := by
  have hr := fun w => readText_any s at_ w hs h0 h1
  unfold textOutOf
  have hbad : (getT s at_).2.2 ≠ 0 → (getT s at_).1 = ⟨#[]⟩ ∧ (getT s at_).2.1 = 0 := by
    intro h
    unfold getT at h ⊢
    split
    · exact ⟨rfl, rfl⟩
    · split
      · exact ⟨rfl, rfl⟩
      · split
        · exact ⟨rfl, rfl⟩
        · rename_i h2 h3 h4
          rw [if_neg h2, if_neg h3, if_neg h4] at h
          exact absurd rfl h
  generalize (getT s at_).1 = X at hr hbad
  generalize (getT s at_).2.1 = p at hr hbad
  generalize (getT s at_).2.2 = c at hr hbad
  have hga := glob_alloc hg (.cells #[.string ⟨#[]⟩, .int .i64 0, .int .i64 0] 31)
  have HG := Lib.hid hga
  have HGL := Lib.hid (glob_lt hga)
  clear hga hg
  by_cases hc : c = 0
  · subst hc
    clear hbad
    simp only [errV_ok] at hr
    have HR2 := Lib.hid hr
    clear hr
    go_enter Tryd.func13, Tryd.ntmps13
    go_wp2_with (go_at_call 28; refine (HR2.out _).mono ?_; rintro e w2 ⟨rfl, hb2⟩; obtain ⟨c0, c1, c2, f0, f1, f2, hlt, hbw, hbs⟩ := box3 (w := w) rfl ((Below.refl _ _).alloc (Nat.le_refl _) _) hb2; have HB := Lib.hid hbs; clear hbs hbw hb2)
    exact bodyPost_ret (v := .agg #[.string X, .int .i64 p, .int .i64 0]) (by simp [results, Tryd.results13, go_sem, c0, c1, c2]) rfl ⟨rfl, HB.out _ _ _⟩
  · obtain ⟨rfl, rfl⟩ := hbad hc
    clear hbad
    simp only [errV_bad hc] at hr
    have HR2 := Lib.hid hr
    clear hr
    go_enter Tryd.func13, Tryd.ntmps13
    go_wp2_with fail
    refine (HR2.out _).mono ?_
    rintro e w1 ⟨rfl, hb1⟩
    have hgb := glob_below HG.out hb1 HGL.out
    have HG1 := Lib.hid hgb
    clear hgb
    go_wp2_with fail
    refine (codeOf_any c _ HG1.out).mono ?_
    rintro e w2 ⟨rfl, hb2⟩
    obtain ⟨c0, c1, c2, f0, f1, f2, hlt, hbw, hbs⟩ := box3 (w := w) (W := w.alloc (.cells #[.string ⟨#[]⟩, .int .i64 0, .int .i64 0] 31)) rfl ((Below.refl _ _).alloc (Nat.le_refl _) _) (hb1.trans (hb2.mono hb1.size))
    have HB := Lib.hid hbs
    clear hbs hbw hb2 hb1
    go_wp2
    all_goals exact bodyPost_ret (v := .agg #[.string ⟨#[]⟩, .int .i64 0, .int .i64 c]) (by simp [results, Tryd.results13, go_sem, c0, c1, c2]) rfl ⟨rfl, HB.out _ _ _⟩

set_option maxHeartbeats 400000 in
theorem eqTextOut_same (a : ByteArray) (b c : Int) (w : World) :
    Calls Tryd.prog 17 #[.agg #[.string a, .int .i64 b, .int .i64 c], .agg #[.string a, .int .i64 b, .int .i64 c]] w fun e w' => e = .returned (.bool true) ∧ Below w.heap.size w w' := by
  go_enter Tryd.func17, Tryd.ntmps17
  go_wp2
  go_ret
  exact ⟨rfl, ((Below.refl _ _).alloc (Nat.le_refl _) _).alloc (by simp) _⟩

end Go.Proofs.YtoabhpgiaieopaaDoor

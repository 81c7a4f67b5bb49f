/- What the laws of chapter 4 draw: words, records, bytes. -/
import Derived.Test.YtgcfnmaojdnchaaDj
import Derived.Deep.DeepCutAuto
import Derived.Deep.CutRange
set_option maxRecDepth 100000
set_option linter.unusedSimpArgs false
namespace Go.Proofs.Ytgcfnmaojdnchaa
open Go.RowKit
attribute [local go_sem ↓] Go.wp_at_zero Go.wp_at_succ

theorem CodeAt.upTo {w : World} {B B' : Nat} {a : Option Addr} {len cap : Nat} (h : CodeAt w B a len cap) (hB : B ≤ B') : CodeAt w B' a len cap := ⟨h.1, h.2.1, fun h0 => by
  obtain ⟨b, o, e, hb, hc⟩ := h.2.2 h0
  exact ⟨b, o, e, by omega, hc⟩⟩

theorem drawRecordBytes_any (a : Option Addr) (len cap : Nat) (w : World) (hcode : CodeAt w w.heap.size a len cap) :
    Calls Try.prog 11 #[.slice a len cap] w fun e w' => ∃ (r : Rc) (u : Value), e = .returned (rcV r u) ∧ r.wf ∧ WdAt w' w'.heap.size u r.args ∧ r.args.length ≤ 6 ∧ Below w.heap.size w w' := by
  have hb0 : Below w.heap.size w (w.alloc (.cells #[.int .i64 0, .int .i64 0, .int .i64 0, .int .i64 0, .slice none 0 0] 27)) := (Below.refl _ _).alloc (Nat.le_refl _) _
  have hq := source_any a len cap (w.alloc (.cells #[.int .i64 0, .int .i64 0, .int .i64 0, .int .i64 0, .slice none 0 0] 27)) ((hcode.below hb0).upTo (by simp))
  simp only [World.size_alloc] at hq
  have HQ := Lib.hid hq
  have HB0 := Lib.hid hb0
  clear hq hcode hb0
  go_enter Try.func11, Try.ntmps11
  go_wp2_with fail
  refine HQ.out.mono ?_
  rintro e w1 ⟨rfl, hs1, hb1⟩
  have HB1 := Lib.hid (HB0.out.trans (hb1.mono (by omega)))
  have hR := hb1.block w.heap.size (by omega)
  have HR1 := Lib.hid (hR.trans (heap_alloc_new w _))
  have hs : w.heap.size + 1 ≤ w1.heap.size := by simpa using hb1.size
  clear hb1 hR
  go_wp2_with fail
  refine (srcRecord_any (w.heap.size + 1) a len cap _ hs1).mono ?_
  rintro e w2 ⟨⟨nr, ar, ⟨ih, il⟩, l⟩, u, rfl, hwf, hat, hl6, ⟨b, o, n, c, rfl, hb⟩, ha⟩
  simp only at hat hl6
  have HB2 := Lib.hid (HB1.out.trans (ha.below (B := w.heap.size) (by omega) (by omega)))
  have HR2 := Lib.hid (ha.row HR1.out (by omega))
  have HAT := Lib.hid hat
  have d0 := row_cell HR2.out 0
  have d1 := row_cell HR2.out 1
  have d2 := row_cell HR2.out 2
  have d3 := row_cell HR2.out 3
  have d4 := row_cell HR2.out 4
  have f0 := frozen_row HR2.out 0
  have f1 := frozen_row HR2.out 1
  have f2 := frozen_row HR2.out 2
  have f3 := frozen_row HR2.out 3
  have f4 := frozen_row HR2.out 4
  simp only [List.getElem?_toArray, List.getElem?_cons_zero, List.getElem?_cons_succ] at d0 d1 d2 d3 d4
  clear hat ha
  go_wp2_with fail
  exact bodyPost_ret (v := .agg #[.int .i64 nr, .int .i64 ar, .int .i64 ih, .int .i64 il, .slice (some ⟨b, o, none⟩) n c]) (by simp [results, Try.results11, go_sem, d0, d1, d2, d3, d4]) rfl
    ⟨⟨nr, ar, ⟨ih, il⟩, l⟩, _, rfl, hwf, LAt.up (WdAt.put (WdAt.put (WdAt.put (WdAt.put (WdAt.put HAT.out (p := ⟨w.heap.size, 0, none⟩) (show w.heap.size ≠ b by omega) _) (p := ⟨w.heap.size, 1, none⟩) (show w.heap.size ≠ b by omega) _) (p := ⟨w.heap.size, 2, none⟩) (show w.heap.size ≠ b by omega) _) (p := ⟨w.heap.size, 3, none⟩) (show w.heap.size ≠ b by omega) _) (p := ⟨w.heap.size, 4, none⟩) (show w.heap.size ≠ b by omega) _) (by simp), hl6,
      ((((HB2.out.setCell (p := ⟨w.heap.size, 0, none⟩) (Nat.le_refl _) _).setCell (p := ⟨w.heap.size, 1, none⟩) (Nat.le_refl _) _).setCell (p := ⟨w.heap.size, 2, none⟩) (Nat.le_refl _) _).setCell (p := ⟨w.heap.size, 3, none⟩) (Nat.le_refl _) _).setCell (p := ⟨w.heap.size, 4, none⟩) (Nat.le_refl _) _⟩

set_option maxHeartbeats 800000 in
theorem drawRecordRead_any (a : Option Addr) (len cap : Nat) (w : World) (hcode : CodeAt w w.heap.size a len cap) :
    Calls Try.prog 13 #[.slice a len cap] w fun e w' => ∃ X : ByteArray, e = .returned (.string X) ∧ X.size ≤ 70 ∧ Below w.heap.size w w' := by
  have hq := source_any a len cap w hcode
  have HQ := Lib.hid hq
  clear hq hcode
  go_enter Try.func13, Try.ntmps13
  go_wp2_with fail
  refine HQ.out.mono ?_
  rintro e w1 ⟨rfl, hs1, hb1⟩
  have HB1 := Lib.hid hb1
  have hs := hb1.size
  clear hb1
  go_wp2_with fail
  refine (srcRecordOf_any w.heap.size a len cap _ hs1).mono ?_
  rintro e w2 ⟨r, u, rfl, hr, ho2, ha2⟩
  obtain ⟨ua, ucap, rfl⟩ := OwnL.slice ho2
  have hargs := (rcRight_parts hr).2.2.2.2
  have hat : WdAt w2 w2.heap.size (.slice ua r.args.length ucap) r.args := OwnL.lAt wdS ho2 (fun x hx => by
    obtain ⟨i, hi, rfl⟩ := List.getElem_of_mem hx
    exact wf_of_right (hargs i hi))
  have hz : (rbOf r).size = 64 := by
    rw [rbOf_yes hr, size_mk]
    have h6 := (rcRight_parts hr).2.2.2.1
    simp only [rcB, List.length_append, leB_length, wdB_length, wdBs_length, h6]
  have hqb := specRecordBytes_any r _ w2 hat
  generalize rbOf r = T at *
  obtain ⟨nr, ar, ⟨ih, il⟩, args⟩ := r
  simp only at hqb ho2 hat
  have HQB := Lib.hid hqb
  have HA2 := Lib.hid ha2
  clear hqb ho2 hat hargs hr ha2 hs1
  go_wp2_with fail
  refine HQB.out.mono ?_
  rintro e w3 ⟨rfl, hb3⟩
  have HA3 := Lib.hid (HA2.out.trans (AfterSrc.of_below HA2.out.1 hb3))
  clear hb3
  go_wp2_with fail
  refine (srcOne_any w.heap.size a len cap 4 _ HA3.out.1 (by omega) (by omega)).mono ?_
  rintro e w4 ⟨b, rfl, ha4⟩
  have HA4 := Lib.hid (HA3.out.trans ha4)
  clear ha4
  cases b with
  | false =>
    go_wp2_with fail
    go_ret
    exact ⟨T, rfl, by omega, HB1.out.trans (HA4.out.below (Nat.le_refl _) hs)⟩
  | true =>
    go_wp2_with fail
    have HS4 : Hid (Src w4.drew w.heap.size a len cap) := Lib.hid HA4.out.1
    go_region_with (first | (go_at_call 46; (with_reducible refine (srcN_any w.heap.size a len cap 65 _ HS4.out (by omega) (by omega)).mono ?_); rintro e w5 ⟨kk, rfl, hk0, hk1, _, hs5, hg5⟩; obtain ⟨k, rfl⟩ := Int.eq_ofNat_of_zero_le hk0; have hk64 : (k : Int) ≤ (T.size : Int) := (by have := hk1 (by omega); omega)) | (go_at_call 46; (with_reducible refine (srcN_any w.heap.size a len cap 3 _ hs5 (by omega) (by omega)).mono ?_); rintro e w6 ⟨m, rfl, hm0, hm1, _, hs6, hg6⟩; have hm3 : m < 3 := hm1 (by omega)) | (go_at_call 47; (with_reducible refine (srcBytes_any w.heap.size a len cap m _ hs6 hm0 (by omega)).mono ?_); rintro e w7 ⟨X, rfl, hX, ha7⟩; have hX3 : X.size ≤ 2 := (by omega); have hsum : ∀ W, (Op.stringOp .add (T.extract 0 k) X).run Try.prog W = .ok (.string (T.extract 0 k ++ X)) W := fun W => run_string_add_sum W _ _ (by rw [ByteArray.size_extract]; omega)))
    all_goals
      have h1s := HA4.out.lt
      have h2s : w4.heap.size ≤ w5.heap.size := hg5.size
      have h3s := hg6.size
      have hx5 : Below w.heap.size w4 w5 := AfterSrc.below (w := w4) ⟨hs5, ⟨hg5.os, hg5.tape, hg5.output, hg5.size, hg5.block⟩⟩ (Nat.le_refl _) (by omega)
      have hx6 : Below w.heap.size w5 w6 := AfterSrc.below (w := w5) ⟨hs6, hg6⟩ (Nat.le_refl _) (by omega)
      have hx7 : Below w.heap.size w6 w7 := AfterSrc.below ha7 (Nat.le_refl _) (by omega)
      have hf := Lib.hid ((((HB1.out.trans (HA4.out.below (Nat.le_refl _) hs)).trans hx5).trans hx6).trans hx7)
      have hsz : (T.extract 0 k ++ X).size ≤ 70 := by
        simp only [ByteArray.size_append, ByteArray.size_extract]
        omega
      clear hx5 hx6 hx7 ha7 hs6 hg6 hs5 hg5
      go_wp2_with fail
      go_ret
      exact ⟨T.extract 0 k ++ X, rfl, hsz, hf.out⟩

set_option maxHeartbeats 1600000 in
theorem drawWordLess_any (a : Option Addr) (len cap : Nat) (w : World) (hcode : CodeAt w w.heap.size a len cap) :
    Calls Try.prog 16 #[.slice a len cap] w fun e w' => ∃ h l h' l' : Int, e = .returned (.tuple #[.agg #[.int .i64 h, .int .i64 l], .agg #[.int .i64 h', .int .i64 l']]) ∧ Below w.heap.size w w' := by
  have hb0 := rows2 (Below.refl _ ((w.alloc (.cells #[.int .i64 0, .int .i64 0] 24)).alloc (.cells #[.int .i64 0, .int .i64 0] 24)))
  have hq := source_any a len cap ((w.alloc (.cells #[.int .i64 0, .int .i64 0] 24)).alloc (.cells #[.int .i64 0, .int .i64 0] 24)) ((hcode.below hb0.2.2.1).upTo (by simp; omega))
  simp only [World.size_alloc] at hq
  have HQ := Lib.hid hq
  have HB0 := Lib.hid hb0
  clear hq hcode hb0
  go_enter Try.func16, Try.ntmps16
  go_wp2_with fail
  refine HQ.out.mono ?_
  rintro e w1 ⟨rfl, hs1, hb1⟩
  have HB1 := Lib.hid (HB0.out.2.2.1.trans (hb1.mono (by omega)))
  have HH1 := Lib.hid ((hb1.block w.heap.size (by omega)).trans HB0.out.1)
  have HI1 := Lib.hid ((hb1.block (w.heap.size + 1) (by omega)).trans HB0.out.2.1)
  have hs : w.heap.size + 1 + 1 ≤ w1.heap.size := by simpa using hb1.size
  have hgw : w.heap.size + 1 + 1 < w1.heap.size := hs1.lt
  clear hb1
  go_wp2_with fail
  refine (srcWord_any (w.heap.size + 1 + 1) a len cap _ hs1).mono ?_
  rintro e w2 ⟨ah, al, rfl, hra, ha2⟩
  have HA2 := Lib.hid ha2
  have HH2 := Lib.hid (ha2.row HH1.out (by omega))
  have HI2 := Lib.hid (ha2.row HI1.out (by omega))
  have hl2 : w.heap.size + 1 + 1 < w2.heap.size := ha2.1.lt
  clear ha2 hra
  go_wp2_with fail
  refine (srcWord_any (w.heap.size + 1 + 1) a len cap _ (HA2.out.more (.cells #[.int .i64 ah, .int .i64 al] 24)).1).mono ?_
  rintro e w3 ⟨bh, bl, rfl, hrb, ha3⟩
  have HA3 := Lib.hid ((HA2.out.more _).trans ha3)
  have HH3 := Lib.hid (ha3.row (row_alloc HH2.out _) (by omega))
  have HI3 := Lib.hid (ha3.row (row_alloc HI2.out _) (by omega))
  have HC3 := Lib.hid (ha3.row (heap_alloc_new w2 _) (by omega))
  have hl3 : w2.heap.size < w3.heap.size := row_here HC3.out
  clear ha3 hrb
  go_wp2_with fail
  refine (srcOne_any (w.heap.size + 1 + 1) a len cap 3 _ (HA3.out.more (.cells #[.int .i64 bh, .int .i64 bl] 24)).1 (by omega) (by omega)).mono ?_
  rintro e w4 ⟨b1, rfl, ha4⟩
  have HA4 := Lib.hid ((HA3.out.more _).trans ha4)
  have HH4 := Lib.hid (ha4.row (row_alloc HH3.out _) (by omega))
  have HI4 := Lib.hid (ha4.row (row_alloc HI3.out _) (by omega))
  have HC4 := Lib.hid (ha4.row (row_alloc HC3.out _) (by omega))
  have HD4 := Lib.hid (ha4.row (heap_alloc_new w3 _) (by omega))
  clear ha4
  go_upto_if 14 with fail
  go_cut [] from 15 to 18 (fun ws => ∃ x : Int, ws.heap[w.heap.size]? = some (.cells #[.int .i64 0, .int .i64 0] 24 (0, 0)) ∧ ws.heap[w.heap.size + 1]? = some (.cells #[.int .i64 0, .int .i64 0] 24 (0, 0)) ∧ ws.heap[w2.heap.size]? = some (.cells #[.int .i64 ah, .int .i64 al] 24 (0, 0)) ∧ ws.heap[w3.heap.size]? = some (.cells #[.int .i64 x, .int .i64 bl] 24 (0, 0)) ∧ AfterSrc (w.heap.size + 1 + 1) a len cap w1 ws)
  case first =>
    cases b1
    · go_wp2_with fail
      go_meet
      exact ⟨bh, HH4.out, HI4.out, HC4.out, HD4.out, HA4.out⟩
    · have c0 := row_cell HC4.out 0
      have d0 := row_cell HD4.out 0
      have f0 := frozen_row HD4.out 0
      simp only [List.getElem?_toArray, List.getElem?_cons_zero] at c0 d0
      go_wp2_with fail
      go_meet
      exact ⟨ah, row_other HH4.out _ _ (by omega), row_other HI4.out _ _ (by omega), row_other HC4.out _ _ (by omega), row_put HD4.out 0 _, HA4.out.put hgw (p := ⟨w3.heap.size, 0, none⟩) (show w1.heap.size ≤ w3.heap.size by have := HA3.out.lt; omega) _⟩
  case rest =>
  obtain ⟨x, rh, ri, ra, rb, hs5⟩ := hcut
  have HA5 := Lib.hid hs5
  have HH5 := Lib.hid rh
  have HI5 := Lib.hid ri
  have HC5 := Lib.hid ra
  have HD5 := Lib.hid rb
  clear rh ri ra rb hs5 HA4 HH4 HI4 HC4 HD4
  go_wp2_with fail
  refine (srcOne_any (w.heap.size + 1 + 1) a len cap 12 _ HA5.out.1 (by omega) (by omega)).mono ?_
  rintro e w6 ⟨b2, rfl, ha6⟩
  have HA6 := Lib.hid (HA5.out.trans ha6)
  have HH6 := Lib.hid (ha6.row HH5.out (by omega))
  have HI6 := Lib.hid (ha6.row HI5.out (by omega))
  have HC6 := Lib.hid (ha6.row HC5.out (by omega))
  have HD6 := Lib.hid (ha6.row HD5.out (by omega))
  clear ha6
  go_upto_if 19 with fail
  go_cut [] from 20 to 21 (fun ws => ∃ y : Int, ws.heap[w.heap.size]? = some (.cells #[.int .i64 0, .int .i64 0] 24 (0, 0)) ∧ ws.heap[w.heap.size + 1]? = some (.cells #[.int .i64 0, .int .i64 0] 24 (0, 0)) ∧ ws.heap[w2.heap.size]? = some (.cells #[.int .i64 ah, .int .i64 al] 24 (0, 0)) ∧ ws.heap[w3.heap.size]? = some (.cells #[.int .i64 x, .int .i64 y] 24 (0, 0)) ∧ AfterSrc (w.heap.size + 1 + 1) a len cap w1 ws)
  case first =>
    cases b2
    · go_wp2_with fail
      go_meet
      exact ⟨bl, HH6.out, HI6.out, HC6.out, HD6.out, HA6.out⟩
    · have d1 := row_cell HD6.out 1
      have f1 := frozen_row HD6.out 1
      simp only [List.getElem?_toArray, List.getElem?_cons_zero, List.getElem?_cons_succ] at d1
      go_wp2_with fail
      go_meet
      exact ⟨-1, row_other HH6.out _ _ (by omega), row_other HI6.out _ _ (by omega), row_other HC6.out _ _ (by omega), row_put HD6.out 1 _, HA6.out.put hgw (p := ⟨w3.heap.size, 1, none⟩) (show w1.heap.size ≤ w3.heap.size by have := HA3.out.lt; omega) _⟩
  case rest =>
  obtain ⟨y, rh, ri, ra, rb, ha7⟩ := hcut
  have c0 := row_cell ra 0
  have cf0 := frozen_row ra 0
  have c1 := row_cell ra 1
  have cf1 := frozen_row ra 1
  have d0 := row_cell rb 0
  have df0 := frozen_row rb 0
  have d1 := row_cell rb 1
  have df1 := frozen_row rb 1
  have p0 := row_cell rh 0
  have pf0 := frozen_row rh 0
  have p1 := row_cell rh 1
  have pf1 := frozen_row rh 1
  have q0 := row_cell ri 0
  have qf0 := frozen_row ri 0
  have q1 := row_cell ri 1
  have qf1 := frozen_row ri 1
  simp only [List.getElem?_toArray, List.getElem?_cons_zero, List.getElem?_cons_succ] at c0 c1 d0 d1 p0 p1 q0 q1
  have HB7 := Lib.hid (HB1.out.trans (ha7.below (B := w.heap.size) (by omega) (by omega)))
  clear rh ri ra rb ha7 HA6 HH6 HI6 HC6 HD6 HA5 HH5 HI5 HC5 HD5
  go_wp2_with fail
  go_region
  all_goals
    go_wp2_with fail
    exact bodyPost_ret (v := .tuple #[.agg #[.int .i64 ah, .int .i64 al], .agg #[.int .i64 x, .int .i64 y]]) (by simp [results, Try.results16, go_sem, p0, p1, q0, q1]) rfl
      ⟨ah, al, x, y, rfl, (((HB7.out.drew.setCell (p := ⟨w.heap.size, 0, none⟩) (Nat.le_refl _) _).setCell (p := ⟨w.heap.size, 1, none⟩) (Nat.le_refl _) _).setCell (p := ⟨w.heap.size + 1, 0, none⟩) (by simp) _).setCell (p := ⟨w.heap.size + 1, 1, none⟩) (by simp) _⟩

set_option maxHeartbeats 1600000 in
theorem drawLoad_any (a : Option Addr) (len cap : Nat) (w : World) (hcode : CodeAt w w.heap.size a len cap) :
    Calls Try.prog 18 #[.slice a len cap] w fun e w' => ∃ (s : ByteArray) (z : Int), e = .returned (.tuple #[.string s, .int .i64 z]) ∧ s.size ≤ 64 ∧ -1 ≤ z ∧ z ≤ 64 ∧ Below w.heap.size w w' := by
  have hq := source_any a len cap w hcode
  have HQ := Lib.hid hq
  clear hq hcode
  go_enter Try.func18, Try.ntmps18
  go_wp2_with fail
  refine HQ.out.mono ?_
  rintro e w1 ⟨rfl, hs1, hb1⟩
  have HB1 := Lib.hid hb1
  have hs := hb1.size
  clear hb1
  go_wp2_with fail
  refine (srcN_any w.heap.size a len cap 17 _ hs1 (by omega) (by omega)).mono ?_
  rintro e w2 ⟨x, rfl, hx0, hx1, _, hs2, hg2⟩
  have hx : x ≤ 16 := by have := hx1 (by omega); omega
  have HA2 : Hid (AfterSrc w.heap.size a len cap w1 w2) := Lib.hid ⟨hs2, hg2⟩
  clear hx1 hg2
  go_wp2_with fail
  refine (srcN_any w.heap.size a len cap 2 _ hs2 (by omega) (by omega)).mono ?_
  rintro e w3 ⟨y, rfl, hy0, hy1, _, hs3, hg3⟩
  have hy : y ≤ 1 := by have := hy1 (by omega); omega
  have HA3 : Hid (AfterSrc w.heap.size a len cap w1 w3) := Lib.hid (HA2.out.trans ⟨hs3, hg3⟩)
  clear hy1 hg3
  go_wp2_with fail
  refine (srcN_any w.heap.size a len cap 2 _ hs3 (by omega) (by omega)).mono ?_
  rintro e w4 ⟨t, rfl, ht0, ht1, _, hs4, hg4⟩
  have ht : t ≤ 1 := by have := ht1 (by omega); omega
  have HA4 : Hid (AfterSrc w.heap.size a len cap w1 w4) := Lib.hid (HA3.out.trans ⟨hs4, hg4⟩)
  clear ht1 hg4
  obtain ⟨z, hz⟩ : ∃ z, z = 4 * x - y * t := ⟨_, rfl⟩
  have hyt : y * t = 0 ∨ y * t = 1 := by
    rcases (by omega : y = 0 ∨ y = 1) with rfl | rfl <;> rcases (by omega : t = 0 ∨ t = 1) with rfl | rfl <;> simp
  have hz0 : -1 ≤ z ∧ z ≤ 64 := by omega
  go_wp2_with fail
  have HZ := Lib.hid hz
  clear hz
  refine (srcRecord_any w.heap.size a len cap _ hs4).mono ?_
  rintro e w5 ⟨r, u, rfl, hwf, hat, hl6, _, ha5⟩
  have hqb := specRecordBytes_any r u w5 hat
  have hsz : (rbOf r).size ≤ 64 := by
    cases hr : rcRight r with
    | false => rw [rbOf_no hr]; exact Nat.zero_le _
    | true =>
      rw [rbOf_yes hr, size_mk]
      have h6 := (rcRight_parts hr).2.2.2.1
      simp only [rcB, List.length_append, leB_length, wdB_length, wdBs_length, h6]
      omega
  generalize rbOf r = T at *
  have HQB := Lib.hid hqb
  have HA5 := Lib.hid (HA4.out.trans ha5)
  clear hqb hat hwf hl6 ha5
  go_wp2_with fail
  refine HQB.out.mono ?_
  rintro e w6 ⟨rfl, hb6⟩
  have HB6 := Lib.hid ((HB1.out.trans (HA5.out.below (Nat.le_refl _) hs)).trans (hb6.mono (by have := HA5.out.lt; omega)))
  clear hb6
  go_wp2_with fail
  go_ret2
  exact ⟨T, 4 * x - y * t, rfl, hsz, by rw [← HZ.out]; exact hz0.1, by rw [← HZ.out]; exact hz0.2, HB6.out⟩

end Go.Proofs.Ytgcfnmaojdnchaa

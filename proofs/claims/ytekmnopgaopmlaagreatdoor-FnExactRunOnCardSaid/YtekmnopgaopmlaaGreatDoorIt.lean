/- Walks of the program's addLow at any number of 64 bits, and RecordBytes. -/
import Derived.Test.YtekmnopgaopmlaaGreatDoorIs
set_option maxRecDepth 100000
set_option linter.unusedSimpArgs false
namespace Go.Proofs.YtekmnopgaopmlaaGreatDoor
open Go.RowKit
attribute [local go_sem ↓] Go.wp_at_zero Go.wp_at_succ

/-- A number of 64 bits as one of int64. -/
abbrev sgn (u : Int) : Int := wrap64 u
theorem sgn_back (u : Int) (h0 : 0 ≤ u) (h1 : u ≤ 18446744073709551615) : IntKind.u64.wrap (sgn u) = u := by
  unfold sgn wrap64
  rw [IntKind.wrap_u64]
  omega
theorem sgn_mod (u : Int) (h0 : 0 ≤ u) (h1 : u ≤ 18446744073709551615) : sgn u % 18446744073709551616 = u := by
  unfold sgn wrap64
  omega

set_option maxHeartbeats 800000 in
theorem addLow8_any (base : Nat) (v0 : Value) (bs : List UInt8) (u : Int) (w : World) (hown0 : OwnB base w v0 bs) (hbase : base ≤ w.heap.size) (hlen : bs.length ≤ 1000000000) (h0 : 0 ≤ u) (h1 : u ≤ 18446744073709551615) :
    Calls Tryz.prog 90 #[v0, .int .i64 (sgn u), .int .i64 8] w fun e w' => ∃ v', e = .returned v' ∧ OwnB base w' v' (bs ++ leB 8 u) ∧ GrB w w' v0 v' := by
  have e1 := sgn_back u h0 h1
  have e2 := sgn_mod u h0 h1
  unfold sgn at *
  generalize wrap64 u = n at *
  go_enter Tryz.func90, Tryz.ntmps90
  go_wp2
  go_loopw [0, 7, 11] (fun v u' i wr => ∃ (k : Nat) (pre : List UInt8) (x : Int), k ≤ 8 ∧ u' = .int .u64 x ∧ i = .int .i64 k ∧ pre.length = k ∧ 0 ≤ x ∧ x ≤ 18446744073709551615 ∧ pre ++ leB (8 - k) x = leB 8 u ∧ OwnB base wr v (bs ++ pre) ∧ GrB w wr v0 v) (fun _ _ i _ => 8 - (intOf i).toNat)
  case atStart => exact ⟨0, [], u, by omega, by first | rfl | rw [e2] | rw [e1], rfl, rfl, h0, h1, by simp, by simpa using hown0, GrB.refl _ _⟩
  case round =>
    obtain ⟨k, pre, x, hk, rfl, rfl, hl, hx0, hx1, he, hown, hg⟩ := hrel
    have HE := Lib.hid he
    have HL := Lib.hid hl
    clear he hl
    have hsz : base ≤ _ := Nat.le_trans hbase hg.1.size
    by_cases hlt : k < 8
    · have hnext : (pre ++ [UInt8.ofNat (x % 256).toNat]) ++ leB (8 - (k + 1)) (x / 256) = leB 8 u := by
        have := HE.out
        rw [show 8 - k = (8 - (k + 1)) + 1 by omega] at this
        rw [List.append_assoc]
        exact this
      have hpl : (bs ++ pre).length ≤ 1000000008 := by have := HL.out; simp; omega
      have HN := Lib.hid hnext
      clear hnext
      go_wp2_with (at_builtin; refine wpList_push_u8s rfl _ _ rfl _ _ [x % 256] rfl 1 rfl base _ _ rfl hown (by intro n hn; simp at hn; omega) rfl (by omega) hsz ?_; intro v1 w1 hown1 hg1)
      go_roundw
      case rel => exact ⟨k + 1, _, x / 256, by omega, rfl, by go_num, by simp [HL.out], by omega, by omega, HN.out, by rw [← List.append_assoc]; exact hown1, hg.trans hg1⟩
      case measure => simp [intOf]; omega
    · have hfin : pre = leB 8 u := by
        have := HE.out
        rw [show 8 - k = 0 by omega] at this
        simpa [leB] using this
      have HF := Lib.hid hfin
      clear hfin
      go_wp2_with fail
      go_ret
      exact ⟨_, rfl, by rw [← HF.out]; exact hown, hg⟩

theorem leB8_halves (h l : Int) (l0 : 0 ≤ l) (l1 : l ≤ 4294967295) : leB 8 (h * 4294967296 + l) = wdB ⟨h, l⟩ := by
  unfold wdB
  simp only [leB]
  rw [show (h * 4294967296 + l) / 256 / 256 / 256 / 256 = h by omega]
  rw [show (h * 4294967296 + l) % 256 = l % 256 by omega, show (h * 4294967296 + l) / 256 % 256 = l / 256 % 256 by omega, show (h * 4294967296 + l) / 256 / 256 % 256 = l / 256 / 256 % 256 by omega, show (h * 4294967296 + l) / 256 / 256 / 256 % 256 = l / 256 / 256 / 256 % 256 by omega]
  rfl

theorem OwnB.below' {base : Nat} {w w' : World} {v : Value} {bs : List UInt8} (h : OwnB base w v bs) (hb : Below w.heap.size w w') : OwnB base w' v bs := own_below h hb
/-- The bytes of numbers, eight each. -/
def us8 (us : List Int) : List UInt8 := us.flatMap (leB 8)
theorem us8_length (us : List Int) : (us8 us).length = 8 * us.length := by
  induction us with
  | nil => rfl
  | cons x l ih => simp only [us8, List.flatMap_cons, List.length_append, leB_length, List.length_cons] at ih ⊢; rw [ih]; omega
theorem leB8_bits (x : Wd) (h : wdRight x = true) : leB 8 (bitsW x) = wdB x := by
  obtain ⟨⟨h0, h1⟩, ⟨l0, l1⟩⟩ := wdRight_bd h
  rw [bitsW_right h]
  exact leB8_halves x.h x.l l0 l1

set_option maxHeartbeats 3200000 in
theorem implRecordBytes_any (r : Rc) (v : Value) (w : World) (hv : WdAt w w.heap.size v r.args) :
    Calls Tryz.prog 56 #[rcV r v] w fun e w' => e = .returned (.string (rbOf r)) ∧ Below w.heap.size w w' := by
  obtain ⟨a, cap, rfl, hlc, hcm⟩ := hv.len
  have hb0 : ∀ o, Below w.heap.size w (w.alloc o) := fun o => (Below.refl _ _).alloc (Nat.le_refl _) _
  have hv0 := fun o => LAt.up (LAt.below hv (hb0 o)) (hb0 o).size
  have q1 := fun o => implRecordRight_any r _ (w.alloc o) (hv0 o)
  cases hr : rcRight r with
  | false =>
    have HN := Lib.hid (rbOf_no hr)
    simp only [hr] at q1
    have Q1 := Lib.hid q1
    clear q1 hv0 hv hb0 hr
    obtain ⟨nr, ar, ⟨ih, il⟩, args⟩ := r
    simp only at Q1 ⊢
    go_enter Tryz.func56, Tryz.ntmps56
    go_wp2_with fail
    refine (Q1.out _).mono ?_
    rintro e w1 ⟨rfl, hb1⟩
    have HB := Lib.hid (box_below hb1)
    clear hb1
    go_wp2_with fail
    go_ret
    exact ⟨ret_str HN.out.symm, HB.out⟩
  | true =>
    have HN := Lib.hid (rbOf_yes hr)
    obtain ⟨hn, ha, hip, hlen, hargs⟩ := rcRight_parts hr
    simp only [hr] at q1
    have Q1 := Lib.hid q1
    clear q1 hv0
    obtain ⟨nr, ar, ⟨ih, il⟩, args⟩ := r
    simp only at Q1 hlc hn ha hip hlen hargs hv HN ⊢
    obtain ⟨p0, q0, p1, q1, p2, q2, p3, q3, p4, q4, p5, q5, rfl⟩ := six_of hlen
    have qa := fun W (h : Below w.heap.size w W) => wordsOf_any nr ar ih il p0 q0 p1 q1 p2 q2 p3 q3 p4 q4 p5 q5 _ W (LAt.up (LAt.below hv h) h.size)
    have qb := fun W => rowOf_any ar nr ih il p0 q0 p1 q1 p2 q2 p3 q3 p4 q4 p5 q5 W
    have hwn : wdRight ⟨ar, nr⟩ = true := by unfold wdRight isB; simp only [Bool.and_eq_true, decide_eq_true_eq]; omega
    have hw0 : wdRight ⟨p0, q0⟩ = true := hargs 0 (by simp)
    have hw1 : wdRight ⟨p1, q1⟩ = true := hargs 1 (by simp)
    have hw2 : wdRight ⟨p2, q2⟩ = true := hargs 2 (by simp)
    have hw3 : wdRight ⟨p3, q3⟩ = true := hargs 3 (by simp)
    have hw4 : wdRight ⟨p4, q4⟩ = true := hargs 4 (by simp)
    have hw5 : wdRight ⟨p5, q5⟩ = true := hargs 5 (by simp)
    have hall : (rcB ⟨nr, ar, ⟨ih, il⟩, [⟨p0, q0⟩, ⟨p1, q1⟩, ⟨p2, q2⟩, ⟨p3, q3⟩, ⟨p4, q4⟩, ⟨p5, q5⟩]⟩) = us8 [bitsW ⟨ar, nr⟩, bitsW ⟨ih, il⟩, bitsW ⟨p0, q0⟩, bitsW ⟨p1, q1⟩, bitsW ⟨p2, q2⟩, bitsW ⟨p3, q3⟩, bitsW ⟨p4, q4⟩, bitsW ⟨p5, q5⟩] := by
      simp only [us8, List.flatMap_cons, List.flatMap_nil, leB8_bits _ hwn, leB8_bits _ hip, leB8_bits _ hw0, leB8_bits _ hw1, leB8_bits _ hw2, leB8_bits _ hw3, leB8_bits _ hw4, leB8_bits _ hw5]
      simp [rcB, wdB]
    have bd0 := bitsW_bd ⟨ar, nr⟩
    have bd1 := bitsW_bd ⟨ih, il⟩
    have bd2 := bitsW_bd ⟨p0, q0⟩
    have bd3 := bitsW_bd ⟨p1, q1⟩
    have bd4 := bitsW_bd ⟨p2, q2⟩
    have bd5 := bitsW_bd ⟨p3, q3⟩
    have bd6 := bitsW_bd ⟨p4, q4⟩
    have bd7 := bitsW_bd ⟨p5, q5⟩
    generalize bitsW ⟨ar, nr⟩ = b0 at *
    generalize bitsW ⟨ih, il⟩ = b1 at *
    generalize bitsW ⟨p0, q0⟩ = b2 at *
    generalize bitsW ⟨p1, q1⟩ = b3 at *
    generalize bitsW ⟨p2, q2⟩ = b4 at *
    generalize bitsW ⟨p3, q3⟩ = b5 at *
    generalize bitsW ⟨p4, q4⟩ = b6 at *
    generalize bitsW ⟨p5, q5⟩ = b7 at *
    have HA := Lib.hid hall
    simp only [List.length_cons, List.length_nil, Nat.zero_add, Nat.reduceAdd] at qa hlc Q1 ⊢
    have QA := Lib.hid qa
    have QB := Lib.hid qb
    clear qa qb hv hb0 hr hn ha hip hlen hargs hall hwn hw0 hw1 hw2 hw3 hw4 hw5
    go_enter Tryz.func56, Tryz.ntmps56
    go_wp2_with fail
    refine (Q1.out _).mono ?_
    rintro e w1 ⟨rfl, hb1⟩
    have c0 := box_cell hb1 0
    have c1 := box_cell hb1 1
    have c2 := box_cell hb1 2
    have c3 := box_cell hb1 3
    have c4 := box_cell hb1 4
    simp only [List.getElem?_toArray, List.getElem?_cons_zero, List.getElem?_cons_succ] at c0 c1 c2 c3 c4
    have HB := Lib.hid hb1
    have HB1 := Lib.hid (box_below hb1)
    have hs1 := HB.out.size
    clear hb1
    obtain ⟨i0, hi, hz0, hz1, hz2⟩ := info_parts info_u8
    simp only [World.size_alloc] at hs1
    go_wp2_with (refine wpList_make_own _ rfl _ _ _ rfl (w.heap.size + 1) 5 i0 _ 1 Tryz.underlying22 hi hz0 hz1 .i64 .i64 _ 64 rfl rfl (by omega) (by rw [hz2]; omega) (by unfold maxLen; omega) hs1 ?_; intro w2 hown2 hg2; have hbx := HB.out.grown hg2 (by simp; omega) (fun k hk => by cases hk); have c0 := box_cell hbx 0; have c1 := box_cell hbx 1; have c2 := box_cell hbx 2; have c3 := box_cell hbx 3; have c4 := box_cell hbx 4; simp only [List.getElem?_toArray, List.getElem?_cons_zero, List.getElem?_cons_succ] at c0 c1 c2 c3 c4; have HBX := Lib.hid hbx; have HO2 := Lib.hid (show OwnB (w.heap.size + 1) w2 _ [] from hown2); clear hbx hown2 hg2)
    clear c0 c1 c2 c3 c4
    refine (QA.out _ (box_below HBX.out)).mono ?_
    rintro e w3 ⟨rfl, hb3⟩
    have hsz3 := hb3.size
    have HO3 := Lib.hid (OwnB.below' HO2.out hb3)
    have HB3 := Lib.hid ((box_below HBX.out).trans (hb3.mono (box_below HBX.out).size))
    clear hb3
    go_wp2_with fail
    refine (QB.out _).mono ?_
    rintro e w4 ⟨rfl, hb4⟩
    have HO4 := Lib.hid (OwnB.below' HO3.out hb4)
    have HB4 := Lib.hid (HB3.out.trans (hb4.mono HB3.out.size))
    have hs4 : w.heap.size + 1 ≤ w4.heap.size := by
      have a := HBX.out.size
      simp only [World.size_alloc] at a
      exact Nat.le_trans a (Nat.le_trans hsz3 hb4.size)
    clear hb4
    go_wp2_with fail
    go_loopw [3, 13] (fun v i wr => ∃ k : Nat, k ≤ 8 ∧ i = .int .i64 k ∧ OwnB (w.heap.size + 1) wr v (us8 ([b0, b1, b2, b3, b4, b5, b6, b7].take k)) ∧ Below w.heap.size w wr ∧ w.heap.size + 1 ≤ wr.heap.size) (fun _ i _ => 8 - (intOf i).toNat)
    case atStart => exact ⟨0, by omega, rfl, HO4.out, HB4.out, hs4⟩
    case round =>
      obtain ⟨k, hk, rfl, hown, hbw, hsz⟩ := hrel
      have HB := Lib.hid hbw
      have HO := Lib.hid hown
      clear hbw hown
      rcases (by omega : k = 0 ∨ k = 1 ∨ k = 2 ∨ k = 3 ∨ k = 4 ∨ k = 5 ∨ k = 6 ∨ k = 7 ∨ k = 8) with rfl | rfl | rfl | rfl | rfl | rfl | rfl | rfl | rfl
      · have ix := fun W => idxR0 b0 b1 b2 b3 b4 b5 b6 b7 W
        go_wp2_with fail
        have ql := addLow8_any (w.heap.size + 1) _ _ b0 _ HO.out hsz (by rw [us8_length]; simp) bd0.1 bd0.2
        unfold sgn at ql
        refine ql.mono ?_
        rintro e w5 ⟨v5, rfl, hown5, hg5⟩
        have hbX := hg5.below (base := w.heap.size) HB.out (by omega) (fun k hk => by have := (HO.out.lt k hk).1; omega)
        have hn : us8 ([b0, b1, b2, b3, b4, b5, b6, b7].take 0) ++ leB 8 b0 = us8 ([b0, b1, b2, b3, b4, b5, b6, b7].take 1) := by simp [us8]
        rw [hn] at hown5
        have HX := Lib.hid hbX
        have HO5 := Lib.hid hown5
        have hs5 := hg5.1.size
        clear hown5 hbX hg5 hn ix ql
        go_wp2_with fail
        go_roundw
        case rel => exact ⟨1, by omega, rfl, HO5.out, HX.out, by omega⟩
        case measure => simp [intOf]
      · have ix := fun W => idxR1 b0 b1 b2 b3 b4 b5 b6 b7 W
        go_wp2_with fail
        have ql := addLow8_any (w.heap.size + 1) _ _ b1 _ HO.out hsz (by rw [us8_length]; simp) bd1.1 bd1.2
        unfold sgn at ql
        refine ql.mono ?_
        rintro e w5 ⟨v5, rfl, hown5, hg5⟩
        have hbX := hg5.below (base := w.heap.size) HB.out (by omega) (fun k hk => by have := (HO.out.lt k hk).1; omega)
        have hn : us8 ([b0, b1, b2, b3, b4, b5, b6, b7].take 1) ++ leB 8 b1 = us8 ([b0, b1, b2, b3, b4, b5, b6, b7].take 2) := by simp [us8]
        rw [hn] at hown5
        have HX := Lib.hid hbX
        have HO5 := Lib.hid hown5
        have hs5 := hg5.1.size
        clear hown5 hbX hg5 hn ix ql
        go_wp2_with fail
        go_roundw
        case rel => exact ⟨2, by omega, rfl, HO5.out, HX.out, by omega⟩
        case measure => simp [intOf]
      · have ix := fun W => idxR2 b0 b1 b2 b3 b4 b5 b6 b7 W
        go_wp2_with fail
        have ql := addLow8_any (w.heap.size + 1) _ _ b2 _ HO.out hsz (by rw [us8_length]; simp) bd2.1 bd2.2
        unfold sgn at ql
        refine ql.mono ?_
        rintro e w5 ⟨v5, rfl, hown5, hg5⟩
        have hbX := hg5.below (base := w.heap.size) HB.out (by omega) (fun k hk => by have := (HO.out.lt k hk).1; omega)
        have hn : us8 ([b0, b1, b2, b3, b4, b5, b6, b7].take 2) ++ leB 8 b2 = us8 ([b0, b1, b2, b3, b4, b5, b6, b7].take 3) := by simp [us8]
        rw [hn] at hown5
        have HX := Lib.hid hbX
        have HO5 := Lib.hid hown5
        have hs5 := hg5.1.size
        clear hown5 hbX hg5 hn ix ql
        go_wp2_with fail
        go_roundw
        case rel => exact ⟨3, by omega, rfl, HO5.out, HX.out, by omega⟩
        case measure => simp [intOf]
      · have ix := fun W => idxR3 b0 b1 b2 b3 b4 b5 b6 b7 W
        go_wp2_with fail
        have ql := addLow8_any (w.heap.size + 1) _ _ b3 _ HO.out hsz (by rw [us8_length]; simp) bd3.1 bd3.2
        unfold sgn at ql
        refine ql.mono ?_
        rintro e w5 ⟨v5, rfl, hown5, hg5⟩
        have hbX := hg5.below (base := w.heap.size) HB.out (by omega) (fun k hk => by have := (HO.out.lt k hk).1; omega)
        have hn : us8 ([b0, b1, b2, b3, b4, b5, b6, b7].take 3) ++ leB 8 b3 = us8 ([b0, b1, b2, b3, b4, b5, b6, b7].take 4) := by simp [us8]
        rw [hn] at hown5
        have HX := Lib.hid hbX
        have HO5 := Lib.hid hown5
        have hs5 := hg5.1.size
        clear hown5 hbX hg5 hn ix ql
        go_wp2_with fail
        go_roundw
        case rel => exact ⟨4, by omega, rfl, HO5.out, HX.out, by omega⟩
        case measure => simp [intOf]
      · have ix := fun W => idxR4 b0 b1 b2 b3 b4 b5 b6 b7 W
        go_wp2_with fail
        have ql := addLow8_any (w.heap.size + 1) _ _ b4 _ HO.out hsz (by rw [us8_length]; simp) bd4.1 bd4.2
        unfold sgn at ql
        refine ql.mono ?_
        rintro e w5 ⟨v5, rfl, hown5, hg5⟩
        have hbX := hg5.below (base := w.heap.size) HB.out (by omega) (fun k hk => by have := (HO.out.lt k hk).1; omega)
        have hn : us8 ([b0, b1, b2, b3, b4, b5, b6, b7].take 4) ++ leB 8 b4 = us8 ([b0, b1, b2, b3, b4, b5, b6, b7].take 5) := by simp [us8]
        rw [hn] at hown5
        have HX := Lib.hid hbX
        have HO5 := Lib.hid hown5
        have hs5 := hg5.1.size
        clear hown5 hbX hg5 hn ix ql
        go_wp2_with fail
        go_roundw
        case rel => exact ⟨5, by omega, rfl, HO5.out, HX.out, by omega⟩
        case measure => simp [intOf]
      · have ix := fun W => idxR5 b0 b1 b2 b3 b4 b5 b6 b7 W
        go_wp2_with fail
        have ql := addLow8_any (w.heap.size + 1) _ _ b5 _ HO.out hsz (by rw [us8_length]; simp) bd5.1 bd5.2
        unfold sgn at ql
        refine ql.mono ?_
        rintro e w5 ⟨v5, rfl, hown5, hg5⟩
        have hbX := hg5.below (base := w.heap.size) HB.out (by omega) (fun k hk => by have := (HO.out.lt k hk).1; omega)
        have hn : us8 ([b0, b1, b2, b3, b4, b5, b6, b7].take 5) ++ leB 8 b5 = us8 ([b0, b1, b2, b3, b4, b5, b6, b7].take 6) := by simp [us8]
        rw [hn] at hown5
        have HX := Lib.hid hbX
        have HO5 := Lib.hid hown5
        have hs5 := hg5.1.size
        clear hown5 hbX hg5 hn ix ql
        go_wp2_with fail
        go_roundw
        case rel => exact ⟨6, by omega, rfl, HO5.out, HX.out, by omega⟩
        case measure => simp [intOf]
      · have ix := fun W => idxR6 b0 b1 b2 b3 b4 b5 b6 b7 W
        go_wp2_with fail
        have ql := addLow8_any (w.heap.size + 1) _ _ b6 _ HO.out hsz (by rw [us8_length]; simp) bd6.1 bd6.2
        unfold sgn at ql
        refine ql.mono ?_
        rintro e w5 ⟨v5, rfl, hown5, hg5⟩
        have hbX := hg5.below (base := w.heap.size) HB.out (by omega) (fun k hk => by have := (HO.out.lt k hk).1; omega)
        have hn : us8 ([b0, b1, b2, b3, b4, b5, b6, b7].take 6) ++ leB 8 b6 = us8 ([b0, b1, b2, b3, b4, b5, b6, b7].take 7) := by simp [us8]
        rw [hn] at hown5
        have HX := Lib.hid hbX
        have HO5 := Lib.hid hown5
        have hs5 := hg5.1.size
        clear hown5 hbX hg5 hn ix ql
        go_wp2_with fail
        go_roundw
        case rel => exact ⟨7, by omega, rfl, HO5.out, HX.out, by omega⟩
        case measure => simp [intOf]
      · have ix := fun W => idxR7 b0 b1 b2 b3 b4 b5 b6 b7 W
        go_wp2_with fail
        have ql := addLow8_any (w.heap.size + 1) _ _ b7 _ HO.out hsz (by rw [us8_length]; simp) bd7.1 bd7.2
        unfold sgn at ql
        refine ql.mono ?_
        rintro e w5 ⟨v5, rfl, hown5, hg5⟩
        have hbX := hg5.below (base := w.heap.size) HB.out (by omega) (fun k hk => by have := (HO.out.lt k hk).1; omega)
        have hn : us8 ([b0, b1, b2, b3, b4, b5, b6, b7].take 7) ++ leB 8 b7 = us8 ([b0, b1, b2, b3, b4, b5, b6, b7].take 8) := by simp [us8]
        rw [hn] at hown5
        have HX := Lib.hid hbX
        have HO5 := Lib.hid hown5
        have hs5 := hg5.1.size
        clear hown5 hbX hg5 hn ix ql
        go_wp2_with fail
        go_roundw
        case rel => exact ⟨8, by omega, rfl, HO5.out, HX.out, by omega⟩
        case measure => simp [intOf]
      · have hst := HO.out.string
        go_wp2_with fail
        go_ret
        exact ⟨ret_str (by rw [HN.out, HA.out]), HB.out⟩

end Go.Proofs.YtekmnopgaopmlaaGreatDoor

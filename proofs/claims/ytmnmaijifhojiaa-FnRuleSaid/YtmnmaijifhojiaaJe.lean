/- Walks of the laws' own helpers on Cmps and slices of them (made by gen_type.py). -/
import Derived.Test.YtmnmaijifhojiaaFl
import Derived.Test.YtmnmaijifhojiaaJa
import Derived.Test.YtmnmaijifhojiaaWw
import Derived.OwnWalk
import Derived.Laws.OwnMore
import Derived.StillTailTactics
import Derived.Deep.Draws
import Derived.Maps.AppendAt
set_option maxRecDepth 100000
namespace Go.Proofs.Ytmnmaijifhojiaa
open Go.RowKit Go.ChangeShapes Go.WideShapes

def cqCells (x : Cq) : List Value := [.int .i64 x.a, .int .i64 x.o, .int .i64 x.mh, .int .i64 x.ml, .int .i64 x.vh, .int .i64 x.vl]
theorem cqS (x : Cq) : (cqCells x).length = 6 := rfl
def cq0 : Cq := ⟨0, 0, 0, 0, 0, 0⟩

theorem info_cq : (Try.prog.info? 26).map (fun i => (i.zero, i.size, i.bytes)) = some (some (.agg #[.int .i64 0, .int .i64 0, .int .i64 0, .int .i64 0, .int .i64 0, .int .i64 0]), 6, 48) := by kernel_rfl

/-- A slice of them, and one that the call made. -/
abbrev CqAt (w : World) (B : Nat) (v : Value) (l : List Cq) : Prop := LAt cqCells 6 Cq.wf w B v l
abbrev CqOwn (base : Nat) (w : World) (v : Value) (l : List Cq) : Prop := OwnL 26 6 cqCells base w v l

set_option maxHeartbeats 1600000 in
theorem toCmp_any (a o mh ml vh vl : Int) (w : World) : Calls Try.prog 41 #[.agg #[.int .i64 a, .int .i64 o, .int .i64 mh, .int .i64 ml, .int .i64 vh, .int .i64 vl]] w fun e w' =>
    e = .returned (.agg #[.int .i64 a, .int .i64 o, .int .i64 mh, .int .i64 ml, .int .i64 vh, .int .i64 vl]) ∧ Below w.heap.size w w' := by
  have q1 := fun W => toWord_any mh ml W
  have q2 := fun W => toWord_any vh vl W
  have Q1 := Lib.hid q1
  have Q2 := Lib.hid q2
  clear q1 q2
  go_enter Try.func41, Try.ntmps41
  go_wp2_with fail
  refine (Q1.out _).mono ?_
  rintro e w1 ⟨rfl, hb1⟩
  obtain ⟨r0, r1, r2, hB, hS⟩ := rows3 hb1
  have c4 := row_cell r0 4
  have c5 := row_cell r0 5
  have e2 := row_cell r2 2
  have e3 := row_cell r2 3
  simp [-Array.getElem?_eq_getElem] at c4 c5 e2 e3
  have f2 := frozen_row r2 2
  have f3 := frozen_row r2 3
  have R1 := Lib.hid r1
  have R2 := Lib.hid r2
  have HB := Lib.hid hB
  clear hb1 r0 r1 r2 hB
  go_wp2_with fail
  have hB2 : Below w.heap.size w ((w1.setCell ⟨w.heap.size + 1 + 1, 2, none⟩ (.int .i64 mh)).setCell ⟨w.heap.size + 1 + 1, 3, none⟩ (.int .i64 ml)) := (HB.out.setCell (p := ⟨w.heap.size + 1 + 1, 2, none⟩) (by simp; omega) _).setCell (p := ⟨w.heap.size + 1 + 1, 3, none⟩) (by simp; omega) _
  have hr1 := row_other (row_other R1.out 2 (.int .i64 mh) (h := w.heap.size + 1 + 1) (by omega)) 3 (.int .i64 ml) (h := w.heap.size + 1 + 1) (by omega)
  have hr2 := row_put (row_put R2.out 2 (.int .i64 mh)) 3 (.int .i64 ml)
  have hS2 : w.heap.size + 3 ≤ ((w1.setCell ⟨w.heap.size + 1 + 1, 2, none⟩ (.int .i64 mh)).setCell ⟨w.heap.size + 1 + 1, 3, none⟩ (.int .i64 ml)).heap.size := by simp [World.setCell]; omega
  clear c4 c5 e2 e3 f2 f3
  generalize (w1.setCell ⟨w.heap.size + 1 + 1, 2, none⟩ (.int .i64 mh)).setCell ⟨w.heap.size + 1 + 1, 3, none⟩ (.int .i64 ml) = W2 at hB2 hr1 hr2 hS2 ⊢
  refine (Q2.out _).mono ?_
  rintro e w3 ⟨rfl, hb3⟩
  have hr1' := below_row hb3 hr1
  have hr2' := below_row hb3 hr2
  have HB3 := Lib.hid (hB2.trans (hb3.mono hB2.size))
  have c0 := row_cell hr2' 0
  have c1 := row_cell hr2' 1
  have c2 := row_cell hr2' 2
  have c3 := row_cell hr2' 3
  have c4 := row_cell hr2' 4
  have c5 := row_cell hr2' 5
  have d0 := row_cell hr1' 0
  have d1 := row_cell hr1' 1
  have d2 := row_cell hr1' 2
  have d3 := row_cell hr1' 3
  have d4 := row_cell hr1' 4
  have d5 := row_cell hr1' 5
  simp [-Array.getElem?_eq_getElem] at c0 c1 c2 c3 c4 c5 d0 d1 d2 d3 d4 d5
  have g4 := frozen_row hr2' 4
  have g5 := frozen_row hr2' 5
  have f0 := frozen_row hr1' 0
  have f1 := frozen_row hr1' 1
  have f2 := frozen_row hr1' 2
  have f3 := frozen_row hr1' 3
  have f4 := frozen_row hr1' 4
  have f5 := frozen_row hr1' 5
  clear hb3 hB2 hr1 hr2 hr1' hr2' hS2
  go_wp2_with fail
  exact bodyPost_ret (v := .agg #[.int .i64 a, .int .i64 o, .int .i64 mh, .int .i64 ml, .int .i64 vh, .int .i64 vl]) (by simp [results, Try.results41, go_sem, d0, d1, d2, d3, d4, d5]) rfl
    ⟨rfl, (((((((HB3.out.setCell (p := ⟨w.heap.size + 1 + 1, 4, none⟩) (by simp; omega) _).setCell (p := ⟨w.heap.size + 1 + 1, 5, none⟩) (by simp; omega) _).setCell (p := ⟨w.heap.size + 1, 0, none⟩) (by simp) _).setCell (p := ⟨w.heap.size + 1, 1, none⟩) (by simp) _).setCell (p := ⟨w.heap.size + 1, 2, none⟩) (by simp) _).setCell (p := ⟨w.heap.size + 1, 3, none⟩) (by simp) _).setCell (p := ⟨w.heap.size + 1, 4, none⟩) (by simp) _).setCell (p := ⟨w.heap.size + 1, 5, none⟩) (by simp) _⟩

set_option maxHeartbeats 1600000 in
theorem eqCmp_any (a b : Cq) (w : World) : Calls Try.prog 111 #[.agg #[.int .i64 a.a, .int .i64 a.o, .int .i64 a.mh, .int .i64 a.ml, .int .i64 a.vh, .int .i64 a.vl], .agg #[.int .i64 b.a, .int .i64 b.o, .int .i64 b.mh, .int .i64 b.ml, .int .i64 b.vh, .int .i64 b.vl]] w fun e w' =>
    e = .returned (.bool (decide (a = b))) ∧ Below w.heap.size w w' := by
  obtain ⟨a, o, mh, ml, vh, vl⟩ := a
  obtain ⟨a', o', mh', ml', vh', vl'⟩ := b
  simp only
  by_cases h0 : a = a'
  · by_cases h1 : o = o'
    · have q1 := fun W => eqWord_any ⟨mh, ml⟩ ⟨mh', ml'⟩ W
      simp only at q1
      by_cases h2 : (⟨mh, ml⟩ : Wd) = ⟨mh', ml'⟩
      · rw [decide_eq_true h2] at q1
        have q2 := fun W => eqWord_any ⟨vh, vl⟩ ⟨vh', vl'⟩ W
        simp only at q2
        have HD := Lib.hid (show decide ((⟨a, o, mh, ml, vh, vl⟩ : Cq) = ⟨a', o', mh', ml', vh', vl'⟩) = decide ((⟨vh, vl⟩ : Wd) = ⟨vh', vl'⟩) by
          injection h2 with e1 e2
          subst h0 h1 e1 e2
          rw [Bool.eq_iff_iff]
          simp)
        generalize decide ((⟨vh, vl⟩ : Wd) = ⟨vh', vl'⟩) = r at *
        subst h0 h1
        have Q1 := Lib.hid q1
        have Q2 := Lib.hid q2
        clear q1 q2 h2
        go_enter Try.func111, Try.ntmps111
        go_wp2_with fail
        refine (Q1.out _).mono ?_
        rintro e w1 ⟨rfl, hb1⟩
        obtain ⟨r0, r1, hB, _⟩ := rows2 hb1
        have c4 := row_cell r0 4
        have c5 := row_cell r0 5
        have d4 := row_cell r1 4
        have d5 := row_cell r1 5
        simp only [List.getElem?_toArray, List.getElem?_cons_zero, List.getElem?_cons_succ] at c4 c5 d4 d5
        have HB := Lib.hid hB
        clear hb1 r0 r1 hB
        go_wp2_with fail
        clear c4 c5 d4 d5
        refine (Q2.out _).mono ?_
        rintro e w2 ⟨rfl, hb2⟩
        have HB2 := Lib.hid (HB.out.trans (hb2.mono HB.out.size))
        clear hb2
        cases r
        all_goals
          go_wp2_with fail
          go_ret
          exact ⟨ret_bool HD.out.symm, HB2.out⟩
      · rw [decide_eq_false h2] at q1
        have HD := Lib.hid (show decide ((⟨a, o, mh, ml, vh, vl⟩ : Cq) = ⟨a', o', mh', ml', vh', vl'⟩) = false by
          simp only [decide_eq_false_iff_not]
          intro e
          injection e with _ _ e1 e2
          exact h2 (by rw [e1, e2]))
        subst h0 h1
        have Q1 := Lib.hid q1
        clear q1 h2
        go_enter Try.func111, Try.ntmps111
        go_wp2_with fail
        refine (Q1.out _).mono ?_
        rintro e w1 ⟨rfl, hb1⟩
        have HB := Lib.hid (box2 hb1).2.2
        clear hb1
        go_wp2_with fail
        go_ret
        exact ⟨ret_bool HD.out.symm, HB.out⟩
    · have HD := Lib.hid (show decide ((⟨a, o, mh, ml, vh, vl⟩ : Cq) = ⟨a', o', mh', ml', vh', vl'⟩) = false by simp [h1])
      have h := ne_int h1
      clear h1
      subst h0
      go_enter Try.func111, Try.ntmps111
      go_wp2
      go_ret
      exact ⟨ret_bool HD.out.symm, ((Below.refl _ _).alloc (Nat.le_refl _) _).alloc (by simp) _⟩
  · have HD := Lib.hid (show decide ((⟨a, o, mh, ml, vh, vl⟩ : Cq) = ⟨a', o', mh', ml', vh', vl'⟩) = false by simp [h0])
    have h := ne_int h0
    clear h0
    go_enter Try.func111, Try.ntmps111
    go_wp2
    go_ret
    exact ⟨ret_bool HD.out.symm, ((Below.refl _ _).alloc (Nat.le_refl _) _).alloc (by simp) _⟩

theorem szCmpS_any (a : Option Addr) (len cap : Nat) (left : Int) (w : World) (hl : len ≤ 9223372036854775807) (h0 : 0 ≤ left) (h1 : left ≤ 1048576) :
    Calls Try.prog 84 #[.slice a len cap, .int .i64 left] w fun e w' => e = .returned (.int .i64 (if left - (len : Int) < 0 then -1 else left - (len : Int))) ∧ w = w' := by
  by_cases h : left - (len : Int) < 0
  all_goals
    go_enter Try.func84, Try.ntmps84
    go_wp2
    go_ret
    exact ⟨rfl, rfl⟩

theorem CqAt.place {w : World} {B : Nat} {a : Option Addr} {n cap : Nat} {l : List Cq} (h : CqAt w B (.slice a n cap) l) {i : Nat} {x : Cq} (hi : l[i]? = some x) : ∃ b o, a = some ⟨b, o, none⟩ ∧ b < B ∧
    w.cell? ⟨b, o + i * 6, none⟩ = some (.int .i64 x.a) ∧ w.cell? ⟨b, o + i * 6 + 1, none⟩ = some (.int .i64 x.o) ∧ w.cell? ⟨b, o + i * 6 + 2, none⟩ = some (.int .i64 x.mh) ∧ w.cell? ⟨b, o + i * 6 + 3, none⟩ = some (.int .i64 x.ml) ∧ w.cell? ⟨b, o + i * 6 + 4, none⟩ = some (.int .i64 x.vh) ∧ w.cell? ⟨b, o + i * 6 + 5, none⟩ = some (.int .i64 x.vl) ∧ x.wf := by
  obtain ⟨b, o, e, hb, hc, hw⟩ := LAt.at_ h hi
  exact ⟨b, o, e, hb, hc 0 _ rfl, hc 1 _ rfl, hc 2 _ rfl, hc 3 _ rfl, hc 4 _ rfl, hc 5 _ rfl, hw⟩
theorem cq_own_at {w : World} {base : Nat} {g n cap : Nat} {l : List Cq} (h : w.ownsRow base 26 6 (.slice (some ⟨g, 0, none⟩) n cap) n (l.flatMap cqCells)) {k : Nat} {x : Cq} (hx : l[k]? = some x) :
    w.cell? ⟨g, k * 6, none⟩ = some (.int .i64 x.a) ∧ w.cell? ⟨g, k * 6 + 1, none⟩ = some (.int .i64 x.o) ∧ w.cell? ⟨g, k * 6 + 2, none⟩ = some (.int .i64 x.mh) ∧ w.cell? ⟨g, k * 6 + 3, none⟩ = some (.int .i64 x.ml) ∧ w.cell? ⟨g, k * 6 + 4, none⟩ = some (.int .i64 x.vh) ∧ w.cell? ⟨g, k * 6 + 5, none⟩ = some (.int .i64 x.vl) ∧
    w.frozen? ⟨g, k * 6, none⟩ = false ∧ w.frozen? ⟨g, k * 6 + 1, none⟩ = false ∧ w.frozen? ⟨g, k * 6 + 2, none⟩ = false ∧ w.frozen? ⟨g, k * 6 + 3, none⟩ = false ∧ w.frozen? ⟨g, k * 6 + 4, none⟩ = false ∧ w.frozen? ⟨g, k * 6 + 5, none⟩ = false := by
  obtain ⟨hc, hf⟩ := OwnL.at_ cqS h hx
  exact ⟨hc 0 _ rfl, hc 1 _ rfl, hc 2 _ rfl, hc 3 _ rfl, hc 4 _ rfl, hc 5 _ rfl, hf _, hf _, hf _, hf _, hf _, hf _⟩
theorem made_cq (n : Nat) : (madeCells (.agg #[.int .i64 0, .int .i64 0, .int .i64 0, .int .i64 0, .int .i64 0, .int .i64 0] : Value).cells (n * 6)).toList = (List.replicate n cq0).flatMap cqCells := by
  have hz : (List.replicate n cq0).flatMap cqCells = List.replicate (n * 6) (.int .i64 0) := by
    induction n with
    | zero => rfl
    | succ n ih => rw [List.replicate_succ, List.flatMap_cons, ih, Nat.succ_mul, Nat.add_comm, ← List.replicate_append_replicate]; rfl
  rw [hz, List.eq_replicate_iff]
  refine ⟨by simp [madeCells], fun b hb => ?_⟩
  simp only [madeCells, Array.toList_map, List.mem_map] at hb
  obtain ⟨j, _, rfl⟩ := hb
  have key : ∀ r : Fin 6, (Value.cells (.agg #[.int .i64 0, .int .i64 0, .int .i64 0, .int .i64 0, .int .i64 0, .int .i64 0]))[r.val]! = .int .i64 0 := by
    intro r
    match r with
    | 0 => rfl
    | 1 => rfl
    | 2 => rfl
    | 3 => rfl
    | 4 => rfl
    | 5 => rfl
  exact key ⟨j % 6, Nat.mod_lt _ (by omega)⟩

set_option maxHeartbeats 800000 in
theorem toCmpS_any (v : Value) (l : List Cq) (w : World) (h : CqAt w w.heap.size v l) (hn : l.length ≤ 1048576) :
    Calls Try.prog 85 #[v] w fun e w' => ∃ u, e = .returned u ∧ CqOwn w.heap.size w' u l ∧ Below w.heap.size w w' := by
  obtain ⟨i0, hi, hz0, hz1, hz2⟩ := info_parts info_cq
  obtain ⟨a, cap, rfl, hlc, hcm⟩ := h.len
  unfold maxLen at hcm
  go_enter Try.func85, Try.ntmps85
  go_wp2_with (refine wpList_make_full _ rfl _ _ _ rfl w.heap.size 26 i0 _ 6 Try.underlying33 hi hz0 hz1 .i64 .i64 _ _ l.length rfl rfl rfl rfl (by rw [hz2]; omega) (by unfold maxLen; omega) (Nat.le_refl _) ?_; intro w1 hown1 hg1)
  rw [made_cq] at hown1
  have hlt1 := hown1.lt w.heap.size rfl
  have hb1 : Below w.heap.size w w1 := (Below.refl _ _).grown hg1 (Nat.le_refl _) (fun k hk => by cases hk)
  have HO := Lib.hid hown1
  clear hown1 hg1
  have HH := Lib.hid h
  clear h
  go_loopw [4] (fun i wr => ∃ k : Nat, k ≤ l.length ∧ i = .int .i64 k ∧ wr.ownsRow w.heap.size 26 6 (.slice (some ⟨w.heap.size, 0, none⟩) l.length l.length) l.length ((l.take k ++ List.replicate (l.length - k) cq0).flatMap cqCells) ∧ Below w.heap.size w wr)
    (fun i _ => l.length - (intOf i).toNat)
  case atStart => exact ⟨0, by omega, rfl, by simpa using HO.out, hb1⟩
  case round =>
    obtain ⟨k, hk, rfl, hown, hbw⟩ := hrel
    by_cases hlt : k < l.length
    · obtain ⟨b, o, e, hb, c0, c1, c2, c3, c4, c5, hwf⟩ := CqAt.place (LAt.below HH.out hbw) (List.getElem?_eq_getElem hlt)
      subst e
      have hsz := hbw.size
      go_wp2_with fail
      refine (toCmp_any _ _ _ _ _ _ _).mono ?_
      rintro e w2 ⟨rfl, hb2⟩
      have hown2 := own_below hown hb2
      have hfill := fillL (pre := l.take k) (d := cq0) (k := k) (m := l.length) (by rw [List.length_take]; omega) hlt l[k]
      have hset := OwnL.set cqS (by omega) hown2 (i := k) (by simp; omega) l[k]
      rw [hfill.2, ← List.take_succ_eq_append_getElem hlt] at hset
      obtain ⟨d0, d1, d2, d3, d4, d5, f0, f1, f2, f3, f4, f5⟩ := cq_own_at hown2 hfill.1
      have hbX : ∀ u0 u1 u2 u3 u4 u5 : Value, Below w.heap.size w (((((((w2.setCell ⟨w.heap.size, k * 6, none⟩ u0).setCell ⟨w.heap.size, k * 6 + 1, none⟩ u1).setCell ⟨w.heap.size, k * 6 + 2, none⟩ u2).setCell ⟨w.heap.size, k * 6 + 3, none⟩ u3).setCell ⟨w.heap.size, k * 6 + 4, none⟩ u4).setCell ⟨w.heap.size, k * 6 + 5, none⟩ u5)) :=
        fun u0 u1 u2 u3 u4 u5 => setRow_below (Nat.le_refl _) [u0, u1, u2, u3, u4, u5] (k * 6) (hbw.trans (hb2.mono hsz))
      have HS := Lib.hid hset
      have HB := Lib.hid hbX
      clear hset hbX hfill hown2 hown hbw hb2
      go_wp2_with fail
      go_roundw
      case rel => exact ⟨k + 1, by omega, by go_num, HS.out, HB.out _ _ _ _ _ _⟩
      case measure => simp [intOf]; omega
    · have hfin : w.heap.size ≤ wr.heap.size ∧ CqOwn w.heap.size wr (.slice (some ⟨w.heap.size, 0, none⟩) l.length l.length) l :=
        ⟨hbw.size, by unfold CqOwn OwnL; rw [List.take_of_length_le (by omega), show l.length - k = 0 by omega] at hown; simpa using hown⟩
      have HF := Lib.hid hfin
      clear hown hfin
      go_wp2_with fail
      go_ret
      exact ⟨_, rfl, HF.out.2, hbw⟩

set_option maxHeartbeats 800000 in
theorem eqCmpS_any (v1 v2 : Value) (l1 l2 : List Cq) (w : World) (h1 : CqAt w w.heap.size v1 l1) (h2 : CqAt w w.heap.size v2 l2) :
    Calls Try.prog 86 #[v1, v2] w fun e w' => e = .returned (.bool (decide (l1 = l2))) ∧ Below w.heap.size w w' := by
  obtain ⟨a1, cap1, rfl, hc1, hm1⟩ := h1.len
  obtain ⟨a2, cap2, rfl, hc2, hm2⟩ := h2.len
  unfold maxLen at hm1 hm2
  by_cases hl : l1.length = l2.length
  · have HL := Lib.hid hl
    have hq : ((l1.length : Int) != (l2.length : Int)) = false := by rw [hl]; simp
    clear hl
    have H1 := Lib.hid h1
    have H2 := Lib.hid h2
    clear h1 h2
    go_enter Try.func86, Try.ntmps86
    go_wp2
    go_loopw [5] (fun i wr => ∃ k : Nat, k ≤ l1.length ∧ i = .int .i64 k ∧ l1.take k = l2.take k ∧ Below w.heap.size w wr) (fun i _ => l1.length - (intOf i).toNat)
    case atStart => exact ⟨0, by omega, rfl, by simp, Below.refl _ _⟩
    case round =>
      obtain ⟨k, hk, rfl, heq, hbw⟩ := hrel
      have HE := Lib.hid heq
      clear heq
      by_cases hlt : k < l1.length
      · have hlt2 : k < l2.length := by have := HL.out; omega
        obtain ⟨b, o, e, hb, c0, c1, c2, c3, c4, c5, hwf⟩ := CqAt.place (LAt.below H1.out hbw) (List.getElem?_eq_getElem hlt)
        obtain ⟨b', o', e', hb', d0, d1, d2, d3, d4, d5, hwf'⟩ := CqAt.place (LAt.below H2.out hbw) (List.getElem?_eq_getElem hlt2)
        subst e e'
        have hsz := hbw.size
        go_wp2_with fail
        refine wp_region_still_tail 8 (by kernel_rfl) (by kernel_rfl) ?_
        simp only [List.take_succ_cons, List.take_zero, List.drop_succ_cons, List.drop_zero, World.drew_eq]
        repeat still_step
        refine wpStill_nil ?_
        go_wp2_with fail
        refine (eqCmp_any l1[k] l2[k] _).mono ?_
        rintro e w2 ⟨rfl, hb2⟩
        have hbX : Below w.heap.size w w2 := hbw.drew.trans (hb2.mono hsz)
        have HB := Lib.hid hbX
        clear hbX hb2 hbw
        by_cases hx : l1[k] = l2[k]
        · have HT := Lib.hid (take_ext HE.out hlt hlt2 hx)
          have hd : decide (l1[k] = l2[k]) = true := by simpa using hx
          clear hx
          go_wp2_with fail
          go_roundw
          case rel => exact ⟨k + 1, by omega, by go_num, HT.out, HB.out⟩
          case measure => simp [intOf]; omega
        · have hd : decide (l1[k] = l2[k]) = false := by simpa using hx
          have HD := Lib.hid (show decide (l1 = l2) = false by simp; intro e; apply hx; simp [e])
          clear hx
          go_wp2_with fail
          go_ret
          exact ⟨ret_bool HD.out.symm, HB.out⟩
      · have hl12 : l1 = l2 := by
          have := HE.out
          rwa [List.take_of_length_le (by omega), List.take_of_length_le (by have := HL.out; omega)] at this
        have HD := Lib.hid (show decide (l1 = l2) = true by simpa using hl12)
        clear hl12
        go_wp2_with fail
        go_ret
        exact ⟨ret_bool HD.out.symm, hbw⟩
  · have HD := Lib.hid (show decide (l1 = l2) = false by simp; intro e; exact hl (by rw [e]))
    have hq : ((l1.length : Int) != (l2.length : Int)) = true := by simp; omega
    go_enter Try.func86, Try.ntmps86
    go_wp2
    go_ret
    exact ⟨ret_bool HD.out.symm, Below.refl _ _⟩

theorem eqCmpS_same (v1 v2 : Value) (l : List Cq) (w : World) (h1 : CqAt w w.heap.size v1 l) (h2 : CqAt w w.heap.size v2 l) :
    Calls Try.prog 86 #[v1, v2] w fun e w' => e = .returned (.bool true) ∧ Below w.heap.size w w' :=
  (eqCmpS_any v1 v2 l l w h1 h2).mono fun _ _ h => ⟨h.1.trans (ret_bool (by simp)), h.2⟩

/-- The things that the marks leave. -/
def markCq (k : Int) (i : Nat) : Cq := ⟨k + 6 * i, k + 6 * i + 1, k + 6 * i + 1 + 1, k + 6 * i + 1 + 1 + 1, k + 6 * i + 1 + 1 + 1 + 1, k + 6 * i + 1 + 1 + 1 + 1 + 1⟩
def markCqL (k : Int) (n : Nat) : List Cq := (List.range n).map (markCq k)
theorem markCqL_length (k : Int) (n : Nat) : (markCqL k n).length = n := by simp [markCqL]
theorem markCqL_next (k : Int) (n : Nat) : markCqL k (n + 1) = markCqL k n ++ [markCq k n] := by simp [markCqL, List.range_succ]
theorem markCqL_get {k : Int} {n i : Nat} (h : i < n) : (markCqL k n)[i]? = some (markCq k i) := by simp [markCqL, h]
theorem markCqL_wf {k : Int} {n : Nat} (h0 : 0 ≤ k) (h1 : k ≤ 1000000000) (hn : n ≤ 1000000000) : ∀ x ∈ markCqL k n, x.wf := by
  intro x hx
  simp only [markCqL, List.mem_map, List.mem_range] at hx
  obtain ⟨i, hi, rfl⟩ := hx
  simp only [Cq.wf, In64, markCq]
  omega

set_option maxHeartbeats 1600000 in
theorem markCmpS_any (base : Nat) (v : Value) (l : List Cq) (k : Int) (w : World) (h : CqOwn base w v l) (hn : l.length ≤ 1000000000) (hk0 : 0 ≤ k) (hk1 : k ≤ 1000000000) :
    Calls Try.prog 95 #[v, .int .i64 k] w fun e w' => e = .returned (.int .i64 (k + 6 * l.length)) ∧ CqOwn base w' v (markCqL k l.length) ∧ w.grownBy w' v.ownBlock := by
  by_cases hl : l.length = 0
  · obtain rfl : l = [] := List.eq_nil_of_length_eq_zero hl
    obtain ⟨a, cap, rfl⟩ := OwnL.slice h
    simp only [List.length_nil] at *
    have HH := Lib.hid h
    clear h
    go_enter Try.func95, Try.ntmps95
    go_wp2
    refine wp_loop_rounds 1 ?_
    rw [rounds_succ]
    go_wp2
    go_ret
    exact ⟨ret_int (by simp), HH.out, World.grownBy.refl _ _⟩
  obtain ⟨g, cap, rfl, hg, hgw, hlc⟩ := OwnL.more h (by omega)
  have HH := Lib.hid h
  clear h hl
  go_enter Try.func95, Try.ntmps95
  go_wp2
  go_loopw [1, 5] (fun q i wr => ∃ j : Nat, j ≤ l.length ∧ i = .int .i64 j ∧ q = .int .i64 (k + 6 * j) ∧ wr.ownsRow base 26 6 (.slice (some ⟨g, 0, none⟩) l.length cap) l.length ((markCqL k j ++ l.drop j).flatMap cqCells) ∧ w.grownBy wr (some g))
    (fun _ i _ => l.length - (intOf i).toNat)
  case atStart => exact ⟨0, by omega, rfl, by simp, by have := HH.out; unfold CqOwn OwnL at this; simpa [markCqL] using this, World.grownBy.refl _ _⟩
  case round =>
    obtain ⟨j, hj, rfl, rfl, hown, hgr⟩ := hrel
    by_cases hlt : j < l.length
    · have hf := turnL (markCqL_length k j) hlt (markCq k j)
      rw [← markCqL_next] at hf
      obtain ⟨d0, d1, d2, d3, d4, d5, f0, f1, f2, f3, f4, f5⟩ := cq_own_at hown hf.1
      have hset := OwnL.set cqS (by omega) hown (i := j) (by simp [markCqL_length]; omega) (markCq k j)
      rw [hf.2] at hset
      have HS := Lib.hid hset
      have hgX : ∀ u0 u1 u2 u3 u4 u5 : Value, w.grownBy (((((((wr.setCell ⟨g, j * 6, none⟩ u0).setCell ⟨g, j * 6 + 1, none⟩ u1).setCell ⟨g, j * 6 + 2, none⟩ u2).setCell ⟨g, j * 6 + 3, none⟩ u3).setCell ⟨g, j * 6 + 4, none⟩ u4).setCell ⟨g, j * 6 + 5, none⟩ u5)) (some g) :=
        fun u0 u1 u2 u3 u4 u5 => setRow_only [u0, u1, u2, u3, u4, u5] (j * 6) hgr
      have HG := Lib.hid hgX
      clear hset hf hgX hown hgr
      go_wp2_with fail
      go_roundw
      case rel => exact ⟨j + 1, by omega, by go_num, congrArg (Value.int .i64) (by omega), HS.out, HG.out _ _ _ _ _ _⟩
      case measure => simp [intOf]; omega
    · have hjl : j = l.length := by omega
      have ho : CqOwn base wr (.slice (some ⟨g, 0, none⟩) l.length cap) (markCqL k l.length) := by
        unfold CqOwn OwnL
        rw [markCqL_length]
        rw [hjl, List.drop_length, List.append_nil] at hown
        exact hown
      have HO := Lib.hid ho
      have hr := Lib.hid (show k + 6 * (j : Int) = k + 6 * l.length by omega)
      clear hown ho hjl
      go_wp2_with fail
      go_ret
      exact ⟨ret_int hr.out, HO.out, hgr⟩

set_option maxHeartbeats 800000 in
theorem heldCmpS_any (v : Value) (n : Nat) (k : Int) (w : World) (h : CqAt w w.heap.size v (markCqL k n)) (hn : n ≤ 1000000000) (hk0 : 0 ≤ k) (hk1 : k ≤ 1000000000) :
    Calls Try.prog 115 #[v, .int .i64 k] w fun e w' => e = .returned (.int .i64 (k + 6 * n)) ∧ w = w' := by
  obtain ⟨a, cap, rfl, hlc, hcm⟩ := h.len
  rw [markCqL_length] at *
  unfold maxLen at hcm
  have HH := Lib.hid h
  clear h
  go_enter Try.func115, Try.ntmps115
  go_wp2
  go_loop [1, 5] (fun q i => ∃ j : Nat, j ≤ n ∧ i = .int .i64 j ∧ q = .int .i64 (k + 6 * j)) (fun _ i => n - (intOf i).toNat)
  case atStart => exact ⟨0, by omega, rfl, by simp⟩
  case round =>
    obtain ⟨j, hj, rfl, rfl⟩ := hrel
    by_cases hlt : j < n
    · obtain ⟨b, o, e, hb, c0, c1, c2, c3, c4, c5, hwf⟩ := CqAt.place HH.out (markCqL_get hlt)
      subst e
      simp only [markCq] at c0 c1 c2 c3 c4 c5
      have q0 : ((k + 6 * (j : Int)) != (k + 6 * (j : Int))) = false := by simp
      have q1 : ((k + 6 * (j : Int) + 1) != (k + 6 * (j : Int) + 1)) = false := by simp
      have q2 : ((k + 6 * (j : Int) + 1 + 1) != (k + 6 * (j : Int) + 1 + 1)) = false := by simp
      have q3 : ((k + 6 * (j : Int) + 1 + 1 + 1) != (k + 6 * (j : Int) + 1 + 1 + 1)) = false := by simp
      have q4 : ((k + 6 * (j : Int) + 1 + 1 + 1 + 1) != (k + 6 * (j : Int) + 1 + 1 + 1 + 1)) = false := by simp
      have q5 : ((k + 6 * (j : Int) + 1 + 1 + 1 + 1 + 1) != (k + 6 * (j : Int) + 1 + 1 + 1 + 1 + 1)) = false := by simp
      go_wp2_with fail
      go_round
      case rel => exact ⟨j + 1, by omega, by go_num, congrArg (Value.int .i64) (by omega)⟩
      case measure => simp [intOf]; omega
    · have hr := Lib.hid (show k + 6 * (j : Int) = k + 6 * n by omega)
      go_wp2_with fail
      go_ret
      exact ⟨ret_int hr.out, rfl⟩

/-- 'append(l, Cmp{..})': the thing lies in a block of its own. -/
theorem run_push_cq (wr : World) (xa xo xmh xml xvh xvl : Int) (ty : TypeId)
    (base : Nat) (v : Value) (ls : List Cq) (hown : CqOwn base wr v ls) (hlen : ls.length ≤ 1000000000) (hbase : base ≤ wr.heap.size) :
    ∃ v' w', (Builtin.append_ #[33, 33] ty #[v, .slice (some ⟨wr.heap.size, 0, none⟩) 1 1]).run Try.prog (wr.alloc (.cells #[.int .i64 xa, .int .i64 xo, .int .i64 xmh, .int .i64 xml, .int .i64 xvh, .int .i64 xvl] 26)) = .ok v' w' ∧
      CqOwn base w' v' (ls ++ [⟨xa, xo, xmh, xml, xvh, xvl⟩]) ∧ GrB wr w' v v' := by
  obtain ⟨i0, hi, hz0, hz1, hz2⟩ := info_parts info_cq
  obtain ⟨v', w', hr, hown', hg, _, hat⟩ := run_append_own_at (P := Try.prog) (wr.alloc (.cells #[.int .i64 xa, .int .i64 xo, .int .i64 xmh, .int .i64 xml, .int .i64 xvh, .int .i64 xvl] 26)) base 33 ty 26 i0 _ 6 48 Try.underlying33 hi hz0 hz1 hz2 rfl (by decide) v ls.length (ls.flatMap cqCells)
    (World.ownsRow.alloc hown _) ⟨wr.heap.size, 0, none⟩ 1 1 [.int .i64 xa, .int .i64 xo, .int .i64 xmh, .int .i64 xml, .int .i64 xvh, .int .i64 xvl] rfl (fun j u hj => by rw [add_at, Nat.zero_add, World.cell?_alloc_at _ _ _ _ rfl, ← hj]; simp) (by intro u hu; simp at hu; rcases hu with rfl | rfl | rfl | rfl | rfl | rfl <;> rfl) (by unfold maxLen; omega) (by omega) (by simp; omega)
  refine ⟨v', w', hr, ?_, GrB.alloc ⟨hg, ?_⟩⟩
  · unfold CqOwn OwnL
    rw [List.flatMap_append, List.length_append]
    exact hown'
  · rcases hat with e | e
    · exact .inl e
    · exact .inr fun g hg' => by rw [e] at hg'; injection hg' with hg'; omega
theorem wp_push_cq {o : Oper} {a : Act} {K : Act → World → Prop} {Q : Exit → Act → World → Prop} (s x : Operand)
    (ho : o.op = .call { callee := .builtin .append, args := #[s, x], argTypes := #[33, 33] }) (wr : World) (xa xo xmh xml xvh xvl : Int)
    (base : Nat) (v : Value) (ls : List Cq) (hs : a.eval s = v) (hown : CqOwn base wr v ls)
    (hx : a.eval x = .slice (some ⟨wr.heap.size, 0, none⟩) 1 1) (hlen : ls.length ≤ 1000000000) (hbase : base ≤ wr.heap.size)
    (hcont : ∀ v' w', CqOwn base w' v' (ls ++ [⟨xa, xo, xmh, xml, xvh, xvl⟩]) → GrB wr w' v v' → K (a.put o.dst v') w') :
    Oper.wp Try.prog o a (wr.alloc (.cells #[.int .i64 xa, .int .i64 xo, .int .i64 xmh, .int .i64 xml, .int .i64 xvh, .int .i64 xvl] 26)) K Q := by
  obtain ⟨v', w', hr, h2, h3⟩ := run_push_cq wr xa xo xmh xml xvh xvl o.type base v ls hown hlen hbase
  unfold Oper.wp execOp
  simp only [ho, resolve, invoke, builtin, Sem.run_bind, Sem.run_pure, Result.andThen_ok, List.map_toArray, List.map_cons, List.map_nil, hs, hx, hr]
  exact hcont _ _ h2 h3
theorem wpList_push_cq {ops : Array Oper} {rest : List Oper} {o : Oper} {a : Act} {Q : Exit → Act → World → Prop} (hgd : o.guard = none) (s x : Operand)
    (ho : o.op = .call { callee := .builtin .append, args := #[s, x], argTypes := #[33, 33] }) (wr : World) (xa xo xmh xml xvh xvl : Int)
    (base : Nat) (v : Value) (ls : List Cq) (hs : a.eval s = v) (hown : CqOwn base wr v ls)
    (hx : a.eval x = .slice (some ⟨wr.heap.size, 0, none⟩) 1 1) (hlen : ls.length ≤ 1000000000) (hbase : base ≤ wr.heap.size)
    (hcont : ∀ v' w', CqOwn base w' v' (ls ++ [⟨xa, xo, xmh, xml, xvh, xvl⟩]) → GrB wr w' v v' → wpList Try.prog ops Q rest (a.put o.dst v') w') :
    wpList Try.prog ops Q (o :: rest) a (wr.alloc (.cells #[.int .i64 xa, .int .i64 xo, .int .i64 xmh, .int .i64 xml, .int .i64 xvh, .int .i64 xvl] 26)) :=
  wpList_plain hgd fun _ hK => wp_push_cq s x ho wr xa xo xmh xml xvh xvl base v ls hs hown hx hlen hbase fun v' w' h2 h3 => hK _ _ (hcont v' w' h2 h3)
theorem step_push_cq {ops : Array Oper} {o : Oper} {a : Act} {K : Act → World → Prop} {Q : Exit → Act → World → Prop} {E : Prop} (hgd : o.guard = none) (s x : Operand)
    (ho : o.op = .call { callee := .builtin .append, args := #[s, x], argTypes := #[33, 33] }) (wr : World) (xa xo xmh xml xvh xvl : Int)
    (base : Nat) (v : Value) (ls : List Cq) (hs : a.eval s = v) (hown : CqOwn base wr v ls)
    (hx : a.eval x = .slice (some ⟨wr.heap.size, 0, none⟩) 1 1) (hlen : ls.length ≤ 1000000000) (hbase : base ≤ wr.heap.size)
    (hcont : ∀ v' w', CqOwn base w' v' (ls ++ [⟨xa, xo, xmh, xml, xvh, xvl⟩]) → GrB wr w' v v' → K (a.put o.dst v') w') :
    if Region.wanted o (yielded ops a.tmps) = true then Oper.wp Try.prog o a (wr.alloc (.cells #[.int .i64 xa, .int .i64 xo, .int .i64 xmh, .int .i64 xml, .int .i64 xvh, .int .i64 xvl] 26)) K Q else E := by
  have hw : Region.wanted o (yielded ops a.tmps) = true := by simp [Region.wanted, hgd]
  rw [if_pos hw]
  exact wp_push_cq s x ho wr xa xo xmh xml xvh xvl base v ls hs hown hx hlen hbase hcont

end Go.Proofs.Ytmnmaijifhojiaa

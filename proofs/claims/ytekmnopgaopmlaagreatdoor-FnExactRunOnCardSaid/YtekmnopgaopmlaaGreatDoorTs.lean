/- Walks of the laws' own helpers on lists of words: toInsnS, szInsnS, eqInsnS. -/
import Derived.Test.YtekmnopgaopmlaaGreatDoorSq
import Derived.OwnWalk
import Derived.Laws.OwnMore
import Derived.StillTailTactics
import Derived.Deep.Draws
set_option maxRecDepth 100000
namespace Go.Proofs.YtekmnopgaopmlaaGreatDoor
open Go.RowKit

theorem info_insn : (Tryz.prog.info? 66).map (fun i => (i.zero, i.size, i.bytes)) = some (some (.agg #[.int .i64 0, .int .i64 0, .int .i64 0, .int .i64 0]), 4, 32) := by kernel_rfl

/-- A list of words that the call made. -/
def InsOwn (base : Nat) (w : World) (v : Value) (l : List Ins) : Prop := w.ownsRow base 66 4 v l.length (progCells l)
def ins0 : Ins := ⟨0, 0, 0, 0⟩
theorem InsOwn.insAt {base : Nat} {w : World} {v : Value} {l : List Ins} (h : InsOwn base w v l) (hw : ∀ x ∈ l, x.wf) : InsAt w w.heap.size v l := ⟨SlAt.of_own h, hw⟩

theorem grown_of_below {w w' : World} (h : Below w.heap.size w w') (row : Option Nat) : w.grownBy w' row := ⟨h.os, h.tape, h.output, h.size, fun k hk _ => h.block k hk⟩
theorem own_below {w w' : World} {base : Nat} {e : TypeId} {size : Nat} {v : Value} {n : Nat} {cs : List Value} (h : w.ownsRow base e size v n cs) (hb : Below w.heap.size w w') : w'.ownsRow base e size v n cs := by
  rcases h.2 with ⟨rfl, hn⟩ | ⟨g, cap, cur, rfl, hg, hr, h1, h2, h3, h4⟩
  · exact ⟨h.1, .inl ⟨rfl, hn⟩⟩
  · exact ⟨h.1, .inr ⟨g, cap, cur, rfl, hg, below_row hb hr, h1, h2, h3, h4⟩⟩

theorem szInsnS_any (a : Option Addr) (len cap : Nat) (left : Int) (w : World) (hl : len ≤ 9223372036854775807) (h0 : 0 ≤ left) (h1 : left ≤ 1048576) :
    Calls Tryz.prog 21 #[.slice a len cap, .int .i64 left] w fun e w' => e = .returned (.int .i64 (if left - (len : Int) < 0 then -1 else left - (len : Int))) ∧ w = w' := by
  by_cases h : left - (len : Int) < 0
  · go_enter Tryz.func21, Tryz.ntmps21
    go_wp2
    go_ret
    exact ⟨rfl, rfl⟩
  · go_enter Tryz.func21, Tryz.ntmps21
    go_wp2
    go_ret
    exact ⟨rfl, rfl⟩

theorem progCells_zero : ∀ n : Nat, progCells (List.replicate n ins0) = List.replicate (n * 4) (.int .i64 0)
  | 0 => rfl
  | n + 1 => by
    rw [List.replicate_succ, show (n + 1) * 4 = n * 4 + 1 + 1 + 1 + 1 by omega]
    have h := progCells_zero n
    simp only [ins0] at h
    simp only [List.replicate_succ, progCells, ins0, h]
theorem made_ins (n : Nat) : (madeCells (.agg #[.int .i64 0, .int .i64 0, .int .i64 0, .int .i64 0] : Value).cells (n * 4)).toList = progCells (List.replicate n ins0) := by
  rw [progCells_zero, List.eq_replicate_iff]
  refine ⟨by simp [madeCells], fun b hb => ?_⟩
  simp only [madeCells, Array.toList_map, List.mem_map] at hb
  obtain ⟨j, _, rfl⟩ := hb
  have key : ∀ r : Fin 4, (Value.cells (.agg #[.int .i64 0, .int .i64 0, .int .i64 0, .int .i64 0]))[r.val]! = .int .i64 0 := by
    intro r
    match r with
    | 0 => rfl
    | 1 => rfl
    | 2 => rfl
    | 3 => rfl
  exact key ⟨j % 4, by omega⟩

/-- One word's four cells in a list's. -/
theorem progCells_set : ∀ (l : List Ins) (i : Nat) (x : Ins), i < l.length →
    ((((progCells l).set (i * 4) (.int .i64 x.c)).set (i * 4 + 1) (.int .i64 x.y)).set (i * 4 + 2) (.int .i64 x.n)).set (i * 4 + 3) (.int .i64 x.k) = progCells (l.set i x)
  | [], _, _, h => by simp at h
  | a :: l, 0, x, _ => rfl
  | a :: l, i + 1, x, h => by
    have h' := progCells_set l i x (by simpa using h)
    have e : (i + 1) * 4 = i * 4 + 1 + 1 + 1 + 1 := by omega
    rw [e]
    simp only [progCells, List.set_cons_succ, Nat.add_right_comm _ _ 1]
    rw [← h']

/-- A word's place in a row that the call owns: what it holds, and what a store of a word does. -/
theorem own_ins_at {w : World} {base : Nat} {e : TypeId} {g n cap : Nat} {l : List Ins} (h : w.ownsRow base e 4 (.slice (some ⟨g, 0, none⟩) n cap) n (progCells l)) {k : Nat} {x : Ins} (hx : l[k]? = some x) :
    w.cell? ⟨g, k * 4, none⟩ = some (.int .i64 x.c) ∧ w.cell? ⟨g, k * 4 + 1, none⟩ = some (.int .i64 x.y) ∧ w.cell? ⟨g, k * 4 + 2, none⟩ = some (.int .i64 x.n) ∧ w.cell? ⟨g, k * 4 + 3, none⟩ = some (.int .i64 x.k) ∧
    w.frozen? ⟨g, k * 4, none⟩ = false ∧ w.frozen? ⟨g, k * 4 + 1, none⟩ = false ∧ w.frozen? ⟨g, k * 4 + 2, none⟩ = false ∧ w.frozen? ⟨g, k * 4 + 3, none⟩ = false := by
  have hl := h.1
  rw [progCells_length] at hl
  have hlt := (List.getElem?_eq_some_iff.1 hx).1
  obtain ⟨p0, p1, p2, p3⟩ := progCells_at l k x hx
  exact ⟨(h.cellAt _ (by omega)).trans p0, (h.cellAt _ (by omega)).trans p1, (h.cellAt _ (by omega)).trans p2, (h.cellAt _ (by omega)).trans p3, h.frozenAt _, h.frozenAt _, h.frozenAt _, h.frozenAt _⟩
theorem own_ins_set {w : World} {base : Nat} {e : TypeId} {g n cap : Nat} {l : List Ins} (h : w.ownsRow base e 4 (.slice (some ⟨g, 0, none⟩) n cap) n (progCells l)) {k : Nat} (hk : k < l.length) (x : Ins) :
    ((((w.setCell ⟨g, k * 4, none⟩ (.int .i64 x.c)).setCell ⟨g, k * 4 + 1, none⟩ (.int .i64 x.y)).setCell ⟨g, k * 4 + 2, none⟩ (.int .i64 x.n)).setCell ⟨g, k * 4 + 3, none⟩ (.int .i64 x.k)).ownsRow base e 4 (.slice (some ⟨g, 0, none⟩) n cap) n (progCells (l.set k x)) := by
  rw [← progCells_set l k x hk]
  exact ((((h.stored _ _).1.stored _ _).1.stored _ _).1.stored _ _).1
theorem ins_fill (l : List Ins) (k : Nat) (hk : k < l.length) : (l.take k ++ List.replicate (l.length - k) ins0)[k]? = some ins0 ∧
    (l.take k ++ List.replicate (l.length - k) ins0).set k l[k] = l.take (k + 1) ++ List.replicate (l.length - (k + 1)) ins0 := by
  have ht : (l.take k).length = k := by rw [List.length_take]; omega
  obtain ⟨m, hm⟩ : ∃ m, l.length - k = m + 1 := ⟨l.length - k - 1, by omega⟩
  have hm' : l.length - (k + 1) = m := by omega
  constructor
  · rw [List.getElem?_append_right (by omega), ht, hm]; simp
  · rw [List.set_append_right _ _ (by omega), ht, hm, hm', List.take_succ_eq_append_getElem hk, List.append_assoc]
    simp [List.replicate_succ]

set_option maxHeartbeats 400000 in
theorem toInsnS_any (v : Value) (l : List Ins) (w : World) (h : InsAt w w.heap.size v l) (hn : l.length ≤ 1048576) :
    Calls Tryz.prog 23 #[v] w fun e w' => ∃ u, e = .returned u ∧ InsOwn w.heap.size w' u l ∧ Below w.heap.size w w' := by
  obtain ⟨i0, hi, hz0, hz1, hz2⟩ := info_parts info_insn
  obtain ⟨a, cap, rfl, hlc, hcm⟩ := h.len
  unfold maxLen at hcm
  go_enter Tryz.func23, Tryz.ntmps23
  go_wp2_with (refine wpList_make_full _ rfl _ _ _ rfl w.heap.size 66 i0 _ 4 Tryz.underlying23 hi hz0 hz1 .i64 .i64 _ _ l.length rfl rfl rfl rfl (by rw [hz2]; omega) (by unfold maxLen; omega) (Nat.le_refl _) ?_; intro w1 hown1 hg1)
  rw [made_ins] at hown1
  have hlt1 := hown1.lt w.heap.size rfl
  have hb1 : Below w.heap.size w w1 := (Below.refl _ _).grown hg1 (Nat.le_refl _) (fun k hk => by cases hk)
  have HO := Lib.hid hown1
  clear hown1 hg1
  have HH := Lib.hid h
  clear h
  go_loopw [4] (fun i wr => ∃ k : Nat, k ≤ l.length ∧ i = .int .i64 k ∧ wr.ownsRow w.heap.size 66 4 (.slice (some ⟨w.heap.size, 0, none⟩) l.length l.length) l.length (progCells (l.take k ++ List.replicate (l.length - k) ins0)) ∧ Below w.heap.size w wr)
    (fun i _ => l.length - (intOf i).toNat)
  case atStart => exact ⟨0, by omega, rfl, by simpa using HO.out, hb1⟩
  case round =>
    obtain ⟨k, hk, rfl, hown, hbw⟩ := hrel
    by_cases hlt : k < l.length
    · obtain ⟨b, o, e, hb, c0, c1, c2, c3, hwf⟩ := (HH.out.below hbw).at_ (List.getElem?_eq_getElem hlt)
      subst e
      have hsz := hbw.size
      go_wp2_with fail
      refine (toInsn_any _ _ _ _ _).mono ?_
      rintro e w2 ⟨rfl, hb2⟩
      have hown2 := own_below hown hb2
      have hfill := ins_fill l k hlt
      have hset := own_ins_set hown2 (k := k) (by simp; omega) l[k]
      rw [hfill.2] at hset
      obtain ⟨d0, d1, d2, d3, f0, f1, f2, f3⟩ := own_ins_at hown2 hfill.1
      have hbX : ∀ u0 u1 u2 u3 : Value, Below w.heap.size w ((((w2.setCell ⟨w.heap.size, k * 4, none⟩ u0).setCell ⟨w.heap.size, k * 4 + 1, none⟩ u1).setCell ⟨w.heap.size, k * 4 + 2, none⟩ u2).setCell ⟨w.heap.size, k * 4 + 3, none⟩ u3) :=
        fun u0 u1 u2 u3 => ((((hbw.trans (hb2.mono hsz)).setCell (p := ⟨w.heap.size, k * 4, none⟩) (Nat.le_refl _) _).setCell (p := ⟨w.heap.size, k * 4 + 1, none⟩) (Nat.le_refl _) _).setCell (p := ⟨w.heap.size, k * 4 + 2, none⟩) (Nat.le_refl _) _).setCell (p := ⟨w.heap.size, k * 4 + 3, none⟩) (Nat.le_refl _) _
      have HS := Lib.hid hset
      have HB := Lib.hid hbX
      clear hset hbX hfill hown2 hown hbw hb2
      go_wp2_with fail
      go_roundw
      case rel => exact ⟨k + 1, by omega, by go_num, HS.out, HB.out _ _ _ _⟩
      case measure => simp [intOf]; omega
    · go_wp2_with fail
      go_ret
      exact ⟨_, rfl, by unfold InsOwn; rw [List.take_of_length_le (by omega), show l.length - k = 0 by omega] at hown; simpa using hown, hbw⟩

theorem take_ext {α : Type} {a b : List α} {k : Nat} (h : a.take k = b.take k) (ha : k < a.length) (hb : k < b.length) (e : a[k] = b[k]) : a.take (k + 1) = b.take (k + 1) := by
  rw [List.take_succ_eq_append_getElem ha, List.take_succ_eq_append_getElem hb, h, e]

set_option maxHeartbeats 800000 in
theorem eqInsnS_any (v1 v2 : Value) (l1 l2 : List Ins) (w : World) (h1 : InsAt w w.heap.size v1 l1) (h2 : InsAt w w.heap.size v2 l2) :
    Calls Tryz.prog 26 #[v1, v2] w fun e w' => e = .returned (.bool (decide (l1 = l2))) ∧ Below w.heap.size w w' := by
  obtain ⟨a1, cap1, rfl, hc1, hm1⟩ := h1.len
  obtain ⟨a2, cap2, rfl, hc2, hm2⟩ := h2.len
  unfold maxLen at hm1 hm2
  by_cases hl : l1.length = l2.length
  · have HL := Lib.hid hl
    have hq : ((l1.length : Int) != (l2.length : Int)) = false := by rw [hl]; simp
    clear hl
    have H1 := Lib.hid h1
    have H2 := Lib.hid h2
    clear h1 h2
    go_enter Tryz.func26, Tryz.ntmps26
    go_wp2
    go_loopw [5] (fun i wr => ∃ k : Nat, k ≤ l1.length ∧ i = .int .i64 k ∧ l1.take k = l2.take k ∧ Below w.heap.size w wr) (fun i _ => l1.length - (intOf i).toNat)
    case atStart => exact ⟨0, by omega, rfl, by simp, Below.refl _ _⟩
    case round =>
      obtain ⟨k, hk, rfl, heq, hbw⟩ := hrel
      have HE := Lib.hid heq
      clear heq
      by_cases hlt : k < l1.length
      · have hlt2 : k < l2.length := by have := HL.out; omega
        obtain ⟨b, o, e, hb, c0, c1, c2, c3, hwf⟩ := (H1.out.below hbw).at_ (List.getElem?_eq_getElem hlt)
        obtain ⟨b', o', e', hb', d0, d1, d2, d3, hwf'⟩ := (H2.out.below hbw).at_ (List.getElem?_eq_getElem hlt2)
        subst e e'
        have hsz := hbw.size
        go_wp2_with fail
        refine wp_region_still_tail 8 (by kernel_rfl) (by kernel_rfl) ?_
        simp only [List.take_succ_cons, List.take_zero, List.drop_succ_cons, List.drop_zero, World.drew_eq]
        repeat still_step
        refine wpStill_nil ?_
        go_wp2_with fail
        refine (eqInsn_any l1[k] l2[k] _).mono ?_
        rintro e w2 ⟨rfl, hb2⟩
        have hbX : Below w.heap.size w w2 := hbw.drew.trans (hb2.mono hsz)
        have HB := Lib.hid hbX
        clear hbX hb2 hbw
        by_cases hx : l1[k] = l2[k]
        · have HT := Lib.hid (take_ext HE.out hlt hlt2 hx)
          have hd : decide (l1[k] = l2[k]) = true := by simpa using hx
          clear hx
          go_wp2_with fail
          go_roundw
          case rel => exact ⟨k + 1, by omega, by go_num, HT.out, HB.out⟩
          case measure => simp [intOf]; omega
        · have hd : decide (l1[k] = l2[k]) = false := by simpa using hx
          have HD := Lib.hid (show decide (l1 = l2) = false by simp; intro e; apply hx; simp [e])
          clear hx
          go_wp2_with fail
          go_ret
          exact ⟨ret_bool HD.out.symm, HB.out⟩
      · have hl12 : l1 = l2 := by
          have := HE.out
          rwa [List.take_of_length_le (by omega), List.take_of_length_le (by have := HL.out; omega)] at this
        have HD := Lib.hid (show decide (l1 = l2) = true by simpa using hl12)
        clear hl12
        go_wp2_with fail
        go_ret
        exact ⟨ret_bool HD.out.symm, hbw⟩
  · have HD := Lib.hid (show decide (l1 = l2) = false by simp; intro e; exact hl (by rw [e]))
    have hq : ((l1.length : Int) != (l2.length : Int)) = true := by simp; omega
    go_enter Tryz.func26, Tryz.ntmps26
    go_wp2
    go_ret
    exact ⟨ret_bool HD.out.symm, Below.refl _ _⟩

end Go.Proofs.YtekmnopgaopmlaaGreatDoor

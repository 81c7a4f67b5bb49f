/- The laws' own helpers on rows of rules and on policies: toRuleS, szRuleS, eqRuleS, toPolicy, szPolicy, eqPolicy. -/
import Derived.Test.YtmnmaijifhojiaaJi
import Derived.Deep.RegionHeld3
import Derived.Deep.DrawnRows
set_option maxRecDepth 100000
set_option linter.unusedVariables false
set_option linter.unusedSimpArgs false
namespace Go.Proofs.Ytmnmaijifhojiaa
open Go.RowKit Go.ChangeShapes Go.WideShapes
attribute [local go_sem ↓] Go.wp_at_zero Go.wp_at_succ

theorem rv_own_at {w : World} {base : Nat} {g n cap : Nat} {l : List Rv} (h : w.ownsRow base 35 3 (.slice (some ⟨g, 0, none⟩) n cap) n (l.flatMap rvCells)) {k : Nat} {x : Rv} (hx : l[k]? = some x) :
    w.cell? ⟨g, k * 3, none⟩ = some (.int .i64 x.r.nr) ∧ w.cell? ⟨g, k * 3 + 1, none⟩ = some (.int .i64 x.r.ac) ∧ w.cell? ⟨g, k * 3 + 2, none⟩ = some x.v ∧
    w.frozen? ⟨g, k * 3, none⟩ = false ∧ w.frozen? ⟨g, k * 3 + 1, none⟩ = false ∧ w.frozen? ⟨g, k * 3 + 2, none⟩ = false := by
  obtain ⟨hc, hf⟩ := OwnL.at_ rvS h hx
  exact ⟨hc 0 _ rfl, hc 1 _ rfl, hc 2 _ rfl, hf _, hf _, hf _⟩
theorem made_rv (n : Nat) : (madeCells (.agg #[.int .i64 0, .int .i64 0, .slice none 0 0] : Value).cells (n * 3)).toList = (List.replicate n rv0).flatMap rvCells := by
  apply List.ext_getElem?
  intro p
  by_cases hp : p < n * 3
  · obtain ⟨q, r, hr, rfl⟩ : ∃ q r, r < 3 ∧ p = q * 3 + r := ⟨p / 3, p % 3, by omega, by omega⟩
    rw [flat_at rvS (x := rv0) (by rw [List.getElem?_replicate, if_pos (by omega)]) hr]
    have hm : (q * 3 + r) % 3 = r := by omega
    have hc : (madeCells (.agg #[.int .i64 0, .int .i64 0, .slice none 0 0] : Value).cells (n * 3)).toList[q * 3 + r]? = some ((Value.cells (.agg #[.int .i64 0, .int .i64 0, .slice none 0 0]))[r]!) := by
      simp only [madeCells, Array.toList_map, List.getElem?_map]
      rw [show (Array.range (n * 3)).toList[q * 3 + r]? = some (q * 3 + r) by simp [hp]]
      simp only [Option.map_some]
      congr 1
      show (Value.cells _)[(q * 3 + r) % 3]! = _
      rw [hm]
    rw [hc]
    rcases (by omega : r = 0 ∨ r = 1 ∨ r = 2) with rfl | rfl | rfl <;> rfl
  · rw [List.getElem?_eq_none (by simp [madeCells]; omega), List.getElem?_eq_none (by rw [flat_length rvS]; simp; omega)]
theorem rls_take (l : List Rv) (k : Nat) : (rls l).take k = rls (l.take k) := by unfold rls; rw [List.map_take]
theorem rls_append (a b : List Rv) : rls (a ++ b) = rls a ++ rls b := by unfold rls; simp

/-- How many rules and comparisons may still come. -/
def szR : Int → List Rl → Int
  | left, [] => left
  | left, r :: l => if left - (r.cs.length : Int) < 0 then -1 else szR (left - (r.cs.length : Int)) l
def szRs (left : Int) (l : List Rl) : Int := if left - (l.length : Int) < 0 then -1 else szR (left - (l.length : Int)) l
theorem szR_cons (x : Int) (r : Rl) (l : List Rl) : szR x (r :: l) = if x - (r.cs.length : Int) < 0 then -1 else szR (x - (r.cs.length : Int)) l := rfl
theorem szR_bd : ∀ (l : List Rl) (x : Int), 0 ≤ szR x l → szR x l ≤ x ∧ ∀ r ∈ l, (r.cs.length : Int) ≤ x
  | [], x, _ => ⟨Int.le_refl _, fun r hr => by simp at hr⟩
  | r :: l, x, h => by
    unfold szR at h ⊢
    by_cases hc : x - (r.cs.length : Int) < 0
    · rw [if_pos hc] at h; omega
    · rw [if_neg hc] at h ⊢
      obtain ⟨h1, h2⟩ := szR_bd l _ h
      refine ⟨by omega, fun y hy => ?_⟩
      rcases List.mem_cons.1 hy with rfl | hy
      · omega
      · have := h2 y hy; omega
theorem szRs_bd {l : List Rl} {x : Int} (h : 0 ≤ szRs x l) : szRs x l ≤ x ∧ (l.length : Int) ≤ x ∧ ∀ r ∈ l, (r.cs.length : Int) ≤ x := by
  unfold szRs at h ⊢
  by_cases hc : x - (l.length : Int) < 0
  · rw [if_pos hc] at h; omega
  · rw [if_neg hc] at h ⊢
    obtain ⟨h1, h2⟩ := szR_bd l _ h
    exact ⟨by omega, by omega, fun r hr => by have := h2 r hr; omega⟩
theorem szR_ge : ∀ (l : List Rl) (x : Int), -1 ≤ x → -1 ≤ szR x l
  | [], x, h => h
  | r :: l, x, h => by
    unfold szR
    by_cases hc : x - (r.cs.length : Int) < 0
    · rw [if_pos hc]; omega
    · rw [if_neg hc]; exact szR_ge l _ (by omega)
theorem szRs_ge {l : List Rl} {x : Int} : -1 ≤ szRs x l := by
  unfold szRs
  by_cases hc : x - (l.length : Int) < 0
  · rw [if_pos hc]; omega
  · rw [if_neg hc]; exact szR_ge l _ (by omega)

set_option maxHeartbeats 3200000 in
theorem szRuleS_any (v : Value) (l : List Rv) (left : Int) (w : World) (hv : RvAt w w.heap.size v l) (h0 : 0 ≤ left) (h1 : left ≤ 1048576) :
    Calls Try.prog 91 #[v, .int .i64 left] w fun e w' => e = .returned (.int .i64 (szRs left (rls l))) ∧ Below w.heap.size w w' := by
  obtain ⟨a, cap, rfl, hlc, hcm⟩ := hv.len
  unfold maxLen at hcm
  have hll : (rls l).length = l.length := by simp [rls]
  by_cases hneg : left - (l.length : Int) < 0
  · have HR := Lib.hid (show szRs left (rls l) = -1 by unfold szRs; rw [hll, if_pos hneg])
    clear hv
    go_enter Try.func91, Try.ntmps91
    go_wp2_with fail
    go_ret
    exact ⟨ret_int HR.out.symm, Below.refl _ _⟩
  · have HR := Lib.hid (show szRs left (rls l) = szR (left - (l.length : Int)) (rls l) by unfold szRs; rw [hll, if_neg hneg])
    have hneg' : decide (left - (l.length : Int) < 0) = false := by simpa using hneg
    have HV := Lib.hid hv
    clear hv hneg
    have hb0 : 0 ≤ left - (l.length : Int) := by simpa using hneg'
    go_enter Try.func91, Try.ntmps91
    go_wp2_with fail
    go_loopw [1, 5] (fun q i wr => ∃ (k : Nat) (x : Int), k ≤ l.length ∧ i = .int .i64 k ∧ q = .int .i64 x ∧ 0 ≤ x ∧ x ≤ 1048576 ∧ szR x (rls (l.drop k)) = szR (left - (l.length : Int)) (rls l) ∧ Below w.heap.size w wr) (fun _ i _ => l.length - (intOf i).toNat)
    case atStart => exact ⟨0, left - (l.length : Int), by omega, rfl, rfl, by omega, by omega, by simp, Below.refl _ _⟩
    case round =>
      obtain ⟨k, x, hk, rfl, rfl, hx0, hx1, hall, hbw⟩ := hrel
      by_cases hlt : k < l.length
      · obtain ⟨b, o, e, hb, d0, d1, d2, hwf, hcq⟩ := RvAt.place (RvAt.below HV.out hbw) (List.getElem?_eq_getElem hlt)
        subst e
        have hdr : rls (l.drop k) = l[k].r :: rls (l.drop (k + 1)) := by unfold rls; rw [List.drop_eq_getElem_cons hlt]; rfl
        rw [hdr, szR_cons] at hall
        generalize l[k] = y at d0 d1 d2 hcq hall
        obtain ⟨⟨xn, xc, ds⟩, xv⟩ := y
        simp only at d0 d1 d2 hcq hall
        obtain ⟨xva, xcap, rfl, hxc, hxm⟩ := hcq.len
        unfold maxLen at hxm
        have q1 := fun W => szRule_any xn xc xva ds.length xcap x W (by omega) hx0 hx1
        clear hcq hwf hdr
        have HB := Lib.hid hbw
        clear hbw
        by_cases hc : x - (ds.length : Int) < 0
        · rw [if_pos hc] at hall
          simp only [if_pos hc] at q1
          have HN := Lib.hid (HR.out.trans hall.symm)
          have Q1 := Lib.hid q1
          clear hall q1
          go_wp2_with fail
          refine (Q1.out _).mono ?_
          rintro e w2 ⟨rfl, hb2⟩
          have HZ := Lib.hid (HB.out.trans (hb2.mono HB.out.size))
          clear hb2
          go_wp2_with fail
          go_ret
          exact ⟨ret_int HN.out.symm, HZ.out⟩
        · rw [if_neg hc] at hall
          simp only [if_neg hc] at q1
          have HN := Lib.hid hall
          have Q1 := Lib.hid q1
          have hc' : decide (x - (ds.length : Int) < 0) = false := by simpa using hc
          clear hall q1
          go_wp2_with fail
          refine (Q1.out _).mono ?_
          rintro e w2 ⟨rfl, hb2⟩
          have HZ := Lib.hid (HB.out.trans (hb2.mono HB.out.size))
          clear hb2
          go_wp2_with fail
          go_roundw
          case rel => exact ⟨k + 1, x - (ds.length : Int), by omega, by go_num, rfl, by omega, by omega, HN.out, HZ.out⟩
          case measure => simp [intOf]; omega
      · have HN := Lib.hid (show szRs left (rls l) = x by
          rw [HR.out, ← hall, List.drop_eq_nil_of_le (by omega)]
          rfl)
        clear hall
        go_wp2_with fail
        go_ret
        exact ⟨ret_int HN.out.symm, hbw⟩

set_option maxHeartbeats 3200000 in
theorem toRuleS_any (v : Value) (l : List Rv) (w : World) (h : RvAt w w.heap.size v l) (hn : l.length ≤ 1048576) (hc : ∀ x ∈ l, x.r.cs.length ≤ 1048576) :
    Calls Try.prog 92 #[v] w fun e w' => ∃ u l', e = .returned u ∧ rls l' = rls l ∧ OwnRv w.heap.size w' u l' ∧ Below w.heap.size w w' := by
  obtain ⟨i0, hi, hz0, hz1, hz2⟩ := info_parts info_rv
  obtain ⟨a, cap, rfl, hlc, hcm⟩ := h.len
  unfold maxLen at hcm
  have HC := Lib.hid hc
  go_enter Try.func92, Try.ntmps92
  go_wp2_with (refine wpList_make_full _ rfl _ _ _ rfl w.heap.size 35 i0 _ 3 Try.underlying30 hi hz0 hz1 .i64 .i64 _ _ l.length rfl rfl rfl rfl (by rw [hz2]; omega) (by unfold maxLen; omega) (Nat.le_refl _) ?_; intro w1 hown1 hg1)
  rw [made_rv] at hown1
  have hlt1 := hown1.lt w.heap.size rfl
  have hb1 : Below w.heap.size w w1 := (Below.refl _ _).grown hg1 (Nat.le_refl _) (fun k hk => by cases hk)
  have HO := Lib.hid hown1
  clear hown1 hg1
  have HH := Lib.hid h
  clear h hc
  go_loopw [4] (fun i wr => ∃ (k : Nat) (l' : List Rv), k ≤ l.length ∧ i = .int .i64 k ∧ l'.length = k ∧ rls l' = rls (l.take k) ∧ wr.ownsRow w.heap.size 35 3 (.slice (some ⟨w.heap.size, 0, none⟩) l.length l.length) l.length ((l' ++ List.replicate (l.length - k) rv0).flatMap rvCells) ∧ Inner (w.heap.size + 1) wr l' ∧ w.heap.size < wr.heap.size ∧ Below w.heap.size w wr)
    (fun i _ => l.length - (intOf i).toNat)
  case atStart => exact ⟨0, [], by omega, rfl, rfl, rfl, by simpa using HO.out, Inner.nil _ _, hlt1.2, hb1⟩
  case round =>
    obtain ⟨k, l', hk, rfl, hl', hrl, hown, hin, hsz0, hbw⟩ := hrel
    by_cases hlt : k < l.length
    · obtain ⟨b, o, e, hb, c0, c1, c2, hwf, hcq⟩ := RvAt.place (RvAt.below HH.out hbw) (List.getElem?_eq_getElem hlt)
      subst e
      have hsz := hbw.size
      have hcl := HC.out l[k] (List.getElem_mem hlt)
      have htk : rls (l.take (k + 1)) = rls (l.take k) ++ [l[k].r] := by rw [List.take_succ_eq_append_getElem hlt, rls_append]; rfl
      generalize l[k] = y at c0 c1 c2 hcq htk hcl
      obtain ⟨⟨xn, xc, ds⟩, xv⟩ := y
      simp only at c0 c1 c2 hcq htk hcl
      obtain ⟨xva, xcap, rfl, hxc, hxm⟩ := hcq.len
      have q1 := toRule_any xn xc ds _ wr (LAt.up hcq hsz) hcl
      have HQ := Lib.hid q1
      clear q1 hcq
      go_wp2_with fail
      refine HQ.out.mono ?_
      rintro e w2 ⟨u, rfl, hu, hb2⟩
      obtain ⟨ua, ucap, rfl⟩ := OwnL.slice hu
      have hown2 := own_below hown hb2
      have hfill := fillL (pre := l') (d := rv0) (k := k) (m := l.length) hl' hlt ⟨⟨xn, xc, ds⟩, .slice ua ds.length ucap⟩
      have hset := OwnL.set rvS (by omega) hown2 (i := k) (by simp [hl']; omega) ⟨⟨xn, xc, ds⟩, .slice ua ds.length ucap⟩
      rw [hfill.2] at hset
      obtain ⟨d0, d1, d2, f0, f1, f2⟩ := rv_own_at hown2 hfill.1
      have hin2 : Inner (w.heap.size + 1) w2 (l' ++ [⟨⟨xn, xc, ds⟩, .slice ua ds.length ucap⟩]) := Inner.snoc hin hb2 hu hsz0
      have hinX : ∀ u0 u1 u2 : Value, Inner (w.heap.size + 1) (((w2.setCell ⟨w.heap.size, k * 3, none⟩ u0).setCell ⟨w.heap.size, k * 3 + 1, none⟩ u1).setCell ⟨w.heap.size, k * 3 + 2, none⟩ u2) (l' ++ [⟨⟨xn, xc, ds⟩, .slice ua ds.length ucap⟩]) :=
        fun u0 u1 u2 => ((hin2.setBelow (by simp) _).setBelow (by simp) _).setBelow (by simp) _
      have hbX : ∀ u0 u1 u2 : Value, Below w.heap.size w (((w2.setCell ⟨w.heap.size, k * 3, none⟩ u0).setCell ⟨w.heap.size, k * 3 + 1, none⟩ u1).setCell ⟨w.heap.size, k * 3 + 2, none⟩ u2) :=
        fun u0 u1 u2 => setRow_below (Nat.le_refl _) [u0, u1, u2] (k * 3) (hbw.trans (hb2.mono hsz))
      have hsX : ∀ u0 u1 u2 : Value, w.heap.size < (((w2.setCell ⟨w.heap.size, k * 3, none⟩ u0).setCell ⟨w.heap.size, k * 3 + 1, none⟩ u1).setCell ⟨w.heap.size, k * 3 + 2, none⟩ u2).heap.size := fun u0 u1 u2 => by
        have := hb2.size
        simp [World.setCell]; omega
      have HS := Lib.hid hset
      have HB := Lib.hid hbX
      have HI := Lib.hid hinX
      have HZ := Lib.hid hsX
      have HT := Lib.hid (show rls (l' ++ [⟨⟨xn, xc, ds⟩, .slice ua ds.length ucap⟩]) = rls (l.take (k + 1)) by rw [rls_append, hrl, htk]; rfl)
      have HL := Lib.hid (show (l' ++ [(⟨⟨xn, xc, ds⟩, .slice ua ds.length ucap⟩ : Rv)]).length = k + 1 by simp [hl'])
      clear hset hbX hinX hsX hfill hown2 hown hbw hb2 hin hin2 hu htk hrl
      go_wp2_with fail
      go_roundw
      case rel => exact ⟨k + 1, _, by omega, by go_num, HL.out, HT.out, HS.out, HI.out _ _ _, HZ.out _ _ _, HB.out _ _ _⟩
      case measure => simp [intOf]; omega
    · have hkl : k = l.length := by omega
      have hfin : OwnRv w.heap.size wr (.slice (some ⟨w.heap.size, 0, none⟩) l.length l.length) l' := by
        refine ⟨?_, hin.base (by omega), fun x hx g hg e => ?_⟩
        · unfold OwnL
          rw [hl', hkl]
          rw [show l.length - k = 0 by omega] at hown
          simpa using hown
        · have h1 := (OwnL.lt (hin.1 x hx) g hg).1
          simp only [Value.ownBlock, Option.some.injEq] at e
          omega
      have HF := Lib.hid hfin
      have HT := Lib.hid (show rls l' = rls l by rw [hrl, hkl, List.take_length])
      have HB := Lib.hid hbw
      clear hown hfin hin hrl hbw
      go_wp2_with fail
      go_ret
      exact ⟨_, l', rfl, HT.out, HF.out, HB.out⟩

set_option maxHeartbeats 3200000 in
theorem eqRuleS_any (v1 v2 : Value) (l1 l2 : List Rv) (w : World) (h1 : RvAt w w.heap.size v1 l1) (h2 : RvAt w w.heap.size v2 l2) :
    Calls Try.prog 93 #[v1, v2] w fun e w' => e = .returned (.bool (decide (rls l1 = rls l2))) ∧ Below w.heap.size w w' := by
  obtain ⟨a1, cap1, rfl, hc1, hm1⟩ := h1.len
  obtain ⟨a2, cap2, rfl, hc2, hm2⟩ := h2.len
  unfold maxLen at hm1 hm2
  by_cases hl : l1.length = l2.length
  · have HL := Lib.hid hl
    have hq : ((l1.length : Int) != (l2.length : Int)) = false := by rw [hl]; simp
    clear hl
    have H1 := Lib.hid h1
    have H2 := Lib.hid h2
    clear h1 h2
    go_enter Try.func93, Try.ntmps93
    go_wp2
    go_loopw [5] (fun i wr => ∃ k : Nat, k ≤ l1.length ∧ i = .int .i64 k ∧ (rls l1).take k = (rls l2).take k ∧ Below w.heap.size w wr) (fun i _ => l1.length - (intOf i).toNat)
    case atStart => exact ⟨0, by omega, rfl, by simp, Below.refl _ _⟩
    case round =>
      obtain ⟨k, hk, rfl, heq, hbw⟩ := hrel
      have HE := Lib.hid heq
      clear heq
      by_cases hlt : k < l1.length
      · have hlt2 : k < l2.length := by have := HL.out; omega
        obtain ⟨b, o, e, hb, d0, d1, d2, hwf, hcq⟩ := RvAt.place H1.out (List.getElem?_eq_getElem hlt)
        obtain ⟨b', o', e', hb', y0, y1, y2, hwf', hcq'⟩ := RvAt.place H2.out (List.getElem?_eq_getElem hlt2)
        subst e e'
        have hk1 : k < (rls l1).length := by simpa [rls] using hlt
        have hk2 : k < (rls l2).length := by simpa [rls] using hlt2
        have g1 : (rls l1)[k] = l1[k].r := by simp [rls]
        have g2 : (rls l2)[k] = l2[k].r := by simp [rls]
        have HT := Lib.hid (fun h : l1[k].r = l2[k].r => take_ext HE.out hk1 hk2 (by rw [g1, g2, h]))
        have HF := Lib.hid (fun h : ¬ l1[k].r = l2[k].r => (show decide (rls l1 = rls l2) = false by
          simp only [decide_eq_false_iff_not]
          intro e
          apply h
          rw [← g1, ← g2]
          simp [e]))
        clear g1 g2 hk1 hk2
        generalize l1[k] = x at d0 d1 d2 hcq HT HF
        generalize l2[k] = y at y0 y1 y2 hcq' HT HF
        obtain ⟨⟨xn, xc, ds⟩, xv⟩ := x
        obtain ⟨⟨yn, yc, es⟩, yv⟩ := y
        simp only at d0 d1 d2 hcq y0 y1 y2 hcq' HT HF
        have q1 := fun W (h : Below w.heap.size w W) => eqRule_any xn xc yn yc ds es xv yv W (LAt.up (LAt.below hcq h) h.size) (LAt.up (LAt.below hcq' h) h.size)
        have hkeep : ∀ W : World, Below w.heap.size w W → (W.cell? ⟨b, o + k * 3, none⟩ = some (.int .i64 xn) ∧ W.cell? ⟨b, o + k * 3 + 1, none⟩ = some (.int .i64 xc) ∧ W.cell? ⟨b, o + k * 3 + 2, none⟩ = some xv ∧ W.cell? ⟨b', o' + k * 3, none⟩ = some (.int .i64 yn) ∧ W.cell? ⟨b', o' + k * 3 + 1, none⟩ = some (.int .i64 yc) ∧ W.cell? ⟨b', o' + k * 3 + 2, none⟩ = some yv) := fun W hbx => ⟨(World.cell?_of_block (hbx.block b hb)).trans d0, (World.cell?_of_block (hbx.block b hb)).trans d1, (World.cell?_of_block (hbx.block b hb)).trans d2, (World.cell?_of_block (hbx.block b' hb')).trans y0, (World.cell?_of_block (hbx.block b' hb')).trans y1, (World.cell?_of_block (hbx.block b' hb')).trans y2⟩
        have HK := Lib.hid hkeep
        have hbw0 := hbw.drew
        have hk2 : (k : Int) < (l2.length : Int) := by omega
        clear hkeep d0 d1 d2 y0 y1 y2 hwf hwf' hcq hcq'
        obtain ⟨d0, d1, d2, y0, y1, y2⟩ := HK.out _ hbw
        clear hbw
        by_cases hxy : (⟨xn, xc, ds⟩ : Rl) = ⟨yn, yc, es⟩
        · rw [decide_eq_true hxy] at q1
          have Q1 := Lib.hid q1
          have HN := Lib.hid (HT.out hxy)
          clear hxy HT HF q1
          go_wp2_with fail
          refine wp_region_noPanic ?_
          refine wp_region_held_drew (S := fun w' => w'.cell? ⟨b, o + k * 3, none⟩ = some (.int .i64 xn) ∧ w'.cell? ⟨b, o + k * 3 + 1, none⟩ = some (.int .i64 xc) ∧ w'.cell? ⟨b, o + k * 3 + 2, none⟩ = some xv ∧ w'.cell? ⟨b', o' + k * 3, none⟩ = some (.int .i64 yn) ∧ w'.cell? ⟨b', o' + k * 3 + 1, none⟩ = some (.int .i64 yc) ∧ w'.cell? ⟨b', o' + k * 3 + 2, none⟩ = some yv) (by kernel_rfl) ?_ (fun hHeld => ?_)
          · exact HK.out _ hbw0
          refine wpAnyH_take (i := 0) (v := ?qv101) rfl (by kernel_rfl) (by kernel_rfl) (by kernel_rfl) (fun _ _ _ h => h) (Or.inl ⟨by rfl, ?qhy101⟩) (by assumption) ?qrest101
          case qhy101 =>
            intro W hSw
            try dsimp only at hSw
            go_simp
            try with_reducible rfl
          try simp only [Act.put, List.getElem_toArray, List.getElem_cons_zero, List.getElem_cons_succ, List.setIfInBounds_toArray, List.set_cons_zero, List.set_cons_succ]
          refine wpAnyH_take (i := 1) (v := ?qv102) rfl (by kernel_rfl) (by kernel_rfl) (by kernel_rfl) (fun _ _ _ h => h) (Or.inl ⟨by rfl, ?qhy102⟩) (by assumption) ?qrest102
          case qhy102 =>
            intro W hSw
            try dsimp only at hSw
            go_simp
            try with_reducible rfl
          try simp only [Act.put, List.getElem_toArray, List.getElem_cons_zero, List.getElem_cons_succ, List.setIfInBounds_toArray, List.set_cons_zero, List.set_cons_succ]
          refine wpAnyH_take (i := 2) (v := ?qv103) rfl (by kernel_rfl) (by kernel_rfl) (by kernel_rfl) (fun _ _ _ h => h) (Or.inl ⟨by rfl, ?qhy103⟩) (by assumption) ?qrest103
          case qhy103 =>
            intro W hSw
            try dsimp only at hSw
            go_simp
            try with_reducible rfl
          try simp only [Act.put, List.getElem_toArray, List.getElem_cons_zero, List.getElem_cons_succ, List.setIfInBounds_toArray, List.set_cons_zero, List.set_cons_succ]
          refine wpAnyH_take (i := 3) (v := ?qv104) rfl (by kernel_rfl) (by kernel_rfl) (by kernel_rfl) (fun _ _ _ h => h) (Or.inl ⟨by rfl, ?qhy104⟩) (by assumption) ?qrest104
          case qhy104 =>
            intro W hSw
            try dsimp only at hSw
            go_simp
            try with_reducible rfl
          try simp only [Act.put, List.getElem_toArray, List.getElem_cons_zero, List.getElem_cons_succ, List.setIfInBounds_toArray, List.set_cons_zero, List.set_cons_succ]
          refine wpAnyH_take (i := 4) (v := ?qv105) rfl (by kernel_rfl) (by kernel_rfl) (by kernel_rfl) (fun _ _ _ h => h) (Or.inl ⟨by rfl, ?qhy105⟩) (by assumption) ?qrest105
          case qhy105 =>
            intro W hSw
            try dsimp only at hSw
            go_simp
            try with_reducible rfl
          try simp only [Act.put, List.getElem_toArray, List.getElem_cons_zero, List.getElem_cons_succ, List.setIfInBounds_toArray, List.set_cons_zero, List.set_cons_succ]
          refine wpAnyH_take (i := 5) (v := ?qv106) rfl (by kernel_rfl) (by kernel_rfl) (by kernel_rfl) (fun _ _ _ h => h) (Or.inl ⟨by rfl, ?qhy106⟩) (by assumption) ?qrest106
          case qhy106 =>
            intro W hSw
            try dsimp only at hSw
            go_simp
            try with_reducible rfl
          try simp only [Act.put, List.getElem_toArray, List.getElem_cons_zero, List.getElem_cons_succ, List.setIfInBounds_toArray, List.set_cons_zero, List.set_cons_succ]
          refine wpAnyH_take (i := 6) (v := ?qv107) rfl (by kernel_rfl) (by kernel_rfl) (by kernel_rfl) (fun _ _ _ h => h) (Or.inl ⟨by rfl, ?qhy107⟩) (by assumption) ?qrest107
          case qhy107 =>
            intro W hSw
            try dsimp only at hSw
            go_simp
            try with_reducible rfl
          try simp only [Act.put, List.getElem_toArray, List.getElem_cons_zero, List.getElem_cons_succ, List.setIfInBounds_toArray, List.set_cons_zero, List.set_cons_succ]
          refine wpAnyH_take (i := 7) (v := ?qv108) rfl (by kernel_rfl) (by kernel_rfl) (by kernel_rfl) (fun _ _ _ h => h) (Or.inl ⟨by rfl, ?qhy108⟩) (by assumption) ?qrest108
          case qhy108 =>
            intro W hSw
            try dsimp only at hSw
            go_simp
            try with_reducible rfl
          try simp only [Act.put, List.getElem_toArray, List.getElem_cons_zero, List.getElem_cons_succ, List.setIfInBounds_toArray, List.set_cons_zero, List.set_cons_succ]
          refine wpAnyH_ready (rs := [8]) (by kernel_rfl) (by simp) ?_
          refine AllReadyH.cons rfl (fun K hK => ?_) AllReadyH.nil
          go_simp
          refine (Q1.out _ hbw0).mono ?_
          rintro e v1 ⟨rfl, hb1⟩
          have hbw1 := hbw0.trans (hb1.mono hbw0.size)
          go_wp2_with fail
          refine hK.out _ _ ?_ (fun hHeld => ?_)
          · exact HK.out _ hbw1
          clear hK K hb1
          try simp only [Act.put, List.getElem_toArray, List.getElem_cons_zero, List.getElem_cons_succ, List.setIfInBounds_toArray, List.set_cons_zero, List.set_cons_succ]
          refine wpAnyH_take (i := 9) (v := ?qv109) rfl (by kernel_rfl) (by kernel_rfl) (by kernel_rfl) (fun _ _ _ h => h) (Or.inl ⟨by rfl, ?qhy109⟩) (by assumption) ?qrest109
          case qhy109 =>
            intro W hSw
            try dsimp only at hSw
            go_simp
            try with_reducible rfl
          try simp only [Act.put, List.getElem_toArray, List.getElem_cons_zero, List.getElem_cons_succ, List.setIfInBounds_toArray, List.set_cons_zero, List.set_cons_succ]
          refine wpAnyH_done (by kernel_rfl) ?_ _
          refine NoPanic.normal ?_
          have HZ := Lib.hid hbw1
          clear hbw0 hbw1
          go_wp2_with fail
          go_roundw
          case rel => exact ⟨k + 1, by omega, by go_num, HN.out, HZ.out⟩
          case measure => simp [intOf]; omega
        · rw [decide_eq_false hxy] at q1
          have Q1 := Lib.hid q1
          have HN := Lib.hid (HF.out hxy)
          clear hxy HT HF q1
          go_wp2_with fail
          refine wp_region_noPanic ?_
          refine wp_region_held_drew (S := fun w' => w'.cell? ⟨b, o + k * 3, none⟩ = some (.int .i64 xn) ∧ w'.cell? ⟨b, o + k * 3 + 1, none⟩ = some (.int .i64 xc) ∧ w'.cell? ⟨b, o + k * 3 + 2, none⟩ = some xv ∧ w'.cell? ⟨b', o' + k * 3, none⟩ = some (.int .i64 yn) ∧ w'.cell? ⟨b', o' + k * 3 + 1, none⟩ = some (.int .i64 yc) ∧ w'.cell? ⟨b', o' + k * 3 + 2, none⟩ = some yv) (by kernel_rfl) ?_ (fun hHeld => ?_)
          · exact HK.out _ hbw0
          refine wpAnyH_take (i := 0) (v := ?qv210) rfl (by kernel_rfl) (by kernel_rfl) (by kernel_rfl) (fun _ _ _ h => h) (Or.inl ⟨by rfl, ?qhy210⟩) (by assumption) ?qrest210
          case qhy210 =>
            intro W hSw
            try dsimp only at hSw
            go_simp
            try with_reducible rfl
          try simp only [Act.put, List.getElem_toArray, List.getElem_cons_zero, List.getElem_cons_succ, List.setIfInBounds_toArray, List.set_cons_zero, List.set_cons_succ]
          refine wpAnyH_take (i := 1) (v := ?qv211) rfl (by kernel_rfl) (by kernel_rfl) (by kernel_rfl) (fun _ _ _ h => h) (Or.inl ⟨by rfl, ?qhy211⟩) (by assumption) ?qrest211
          case qhy211 =>
            intro W hSw
            try dsimp only at hSw
            go_simp
            try with_reducible rfl
          try simp only [Act.put, List.getElem_toArray, List.getElem_cons_zero, List.getElem_cons_succ, List.setIfInBounds_toArray, List.set_cons_zero, List.set_cons_succ]
          refine wpAnyH_take (i := 2) (v := ?qv212) rfl (by kernel_rfl) (by kernel_rfl) (by kernel_rfl) (fun _ _ _ h => h) (Or.inl ⟨by rfl, ?qhy212⟩) (by assumption) ?qrest212
          case qhy212 =>
            intro W hSw
            try dsimp only at hSw
            go_simp
            try with_reducible rfl
          try simp only [Act.put, List.getElem_toArray, List.getElem_cons_zero, List.getElem_cons_succ, List.setIfInBounds_toArray, List.set_cons_zero, List.set_cons_succ]
          refine wpAnyH_take (i := 3) (v := ?qv213) rfl (by kernel_rfl) (by kernel_rfl) (by kernel_rfl) (fun _ _ _ h => h) (Or.inl ⟨by rfl, ?qhy213⟩) (by assumption) ?qrest213
          case qhy213 =>
            intro W hSw
            try dsimp only at hSw
            go_simp
            try with_reducible rfl
          try simp only [Act.put, List.getElem_toArray, List.getElem_cons_zero, List.getElem_cons_succ, List.setIfInBounds_toArray, List.set_cons_zero, List.set_cons_succ]
          refine wpAnyH_take (i := 4) (v := ?qv214) rfl (by kernel_rfl) (by kernel_rfl) (by kernel_rfl) (fun _ _ _ h => h) (Or.inl ⟨by rfl, ?qhy214⟩) (by assumption) ?qrest214
          case qhy214 =>
            intro W hSw
            try dsimp only at hSw
            go_simp
            try with_reducible rfl
          try simp only [Act.put, List.getElem_toArray, List.getElem_cons_zero, List.getElem_cons_succ, List.setIfInBounds_toArray, List.set_cons_zero, List.set_cons_succ]
          refine wpAnyH_take (i := 5) (v := ?qv215) rfl (by kernel_rfl) (by kernel_rfl) (by kernel_rfl) (fun _ _ _ h => h) (Or.inl ⟨by rfl, ?qhy215⟩) (by assumption) ?qrest215
          case qhy215 =>
            intro W hSw
            try dsimp only at hSw
            go_simp
            try with_reducible rfl
          try simp only [Act.put, List.getElem_toArray, List.getElem_cons_zero, List.getElem_cons_succ, List.setIfInBounds_toArray, List.set_cons_zero, List.set_cons_succ]
          refine wpAnyH_take (i := 6) (v := ?qv216) rfl (by kernel_rfl) (by kernel_rfl) (by kernel_rfl) (fun _ _ _ h => h) (Or.inl ⟨by rfl, ?qhy216⟩) (by assumption) ?qrest216
          case qhy216 =>
            intro W hSw
            try dsimp only at hSw
            go_simp
            try with_reducible rfl
          try simp only [Act.put, List.getElem_toArray, List.getElem_cons_zero, List.getElem_cons_succ, List.setIfInBounds_toArray, List.set_cons_zero, List.set_cons_succ]
          refine wpAnyH_take (i := 7) (v := ?qv217) rfl (by kernel_rfl) (by kernel_rfl) (by kernel_rfl) (fun _ _ _ h => h) (Or.inl ⟨by rfl, ?qhy217⟩) (by assumption) ?qrest217
          case qhy217 =>
            intro W hSw
            try dsimp only at hSw
            go_simp
            try with_reducible rfl
          try simp only [Act.put, List.getElem_toArray, List.getElem_cons_zero, List.getElem_cons_succ, List.setIfInBounds_toArray, List.set_cons_zero, List.set_cons_succ]
          refine wpAnyH_ready (rs := [8]) (by kernel_rfl) (by simp) ?_
          refine AllReadyH.cons rfl (fun K hK => ?_) AllReadyH.nil
          go_simp
          refine (Q1.out _ hbw0).mono ?_
          rintro e v1 ⟨rfl, hb1⟩
          have hbw1 := hbw0.trans (hb1.mono hbw0.size)
          go_wp2_with fail
          refine hK.out _ _ ?_ (fun hHeld => ?_)
          · exact HK.out _ hbw1
          clear hK K hb1
          try simp only [Act.put, List.getElem_toArray, List.getElem_cons_zero, List.getElem_cons_succ, List.setIfInBounds_toArray, List.set_cons_zero, List.set_cons_succ]
          refine wpAnyH_take (i := 9) (v := ?qv218) rfl (by kernel_rfl) (by kernel_rfl) (by kernel_rfl) (fun _ _ _ h => h) (Or.inl ⟨by rfl, ?qhy218⟩) (by assumption) ?qrest218
          case qhy218 =>
            intro W hSw
            try dsimp only at hSw
            go_simp
            try with_reducible rfl
          try simp only [Act.put, List.getElem_toArray, List.getElem_cons_zero, List.getElem_cons_succ, List.setIfInBounds_toArray, List.set_cons_zero, List.set_cons_succ]
          refine wpAnyH_done (by kernel_rfl) ?_ _
          refine NoPanic.normal ?_
          have HZ := Lib.hid hbw1
          clear hbw0 hbw1
          go_wp2_with fail
          go_ret
          exact ⟨ret_bool HN.out.symm, HZ.out⟩
      · have HN := Lib.hid (show decide (rls l1 = rls l2) = true by
          have h := HE.out
          have := HL.out
          rw [List.take_of_length_le (by simp [rls]; omega), List.take_of_length_le (by simp [rls]; omega)] at h
          exact decide_eq_true h)
        go_wp2_with fail
        go_ret
        exact ⟨ret_bool HN.out.symm, hbw⟩
  · have HD := Lib.hid (show decide (rls l1 = rls l2) = false by
      simp only [decide_eq_false_iff_not]
      intro e
      apply hl
      have := congrArg List.length e
      simpa [rls] using this)
    have hq : ((l1.length : Int) != (l2.length : Int)) = true := by simp; omega
    clear h1 h2
    go_enter Try.func93, Try.ntmps93
    go_wp2
    go_ret
    exact ⟨ret_bool HD.out.symm, Below.refl _ _⟩

set_option maxHeartbeats 1600000 in
theorem toPolicy_any (ar df bd : Int) (l : List Rv) (v : Value) (w : World) (hv : RvAt w w.heap.size v l) (hn : l.length ≤ 1048576) (hc : ∀ x ∈ l, x.r.cs.length ≤ 1048576) :
    Calls Try.prog 50 #[polV ar df bd v] w fun e w' => ∃ u l', e = .returned (polV ar df bd u) ∧ rls l' = rls l ∧ OwnRv w.heap.size w' u l' ∧ Below w.heap.size w w' := by
  obtain ⟨a, cap, rfl, hlc, hcm⟩ := hv.len
  have HV := Lib.hid hv
  clear hv
  go_enter Try.func50, Try.ntmps50
  go_wp2_with fail
  have hB0 : Below w.heap.size w (((w.alloc (.cells #[.int .i64 ar, .int .i64 df, .int .i64 bd, .slice a l.length cap] 88)).alloc (.cells #[.int .i64 0, .int .i64 0, .int .i64 0, .slice none 0 0] 32)).alloc (.cells #[.int .i64 ar, .int .i64 df, .int .i64 bd, .slice none 0 0] 32)) := (((Below.refl _ _).alloc (Nat.le_refl _) _).alloc (by simp) _).alloc (by simp; omega) _
  refine (toRuleS_any _ l _ (RvAt.up (RvAt.below HV.out hB0) hB0.size) hn hc).mono ?_
  rintro e w1 ⟨u, l', rfl, hrl, ho, hb1⟩
  obtain ⟨ua, ucap, rfl⟩ := OwnRv.slice ho
  obtain ⟨r0, r1, r2, hB, hS⟩ := rows3 hb1
  have c0 := row_cell r2 0
  have c1 := row_cell r2 1
  have c2 := row_cell r2 2
  have c3 := row_cell r2 3
  have d0 := row_cell r1 0
  have d1 := row_cell r1 1
  have d2 := row_cell r1 2
  have d3 := row_cell r1 3
  simp [-Array.getElem?_eq_getElem] at c0 c1 c2 c3 d0 d1 d2 d3
  have g3 := frozen_row r2 3
  have f0 := frozen_row r1 0
  have f1 := frozen_row r1 1
  have f2 := frozen_row r1 2
  have f3 := frozen_row r1 3
  have HB := Lib.hid hB
  have HO := Lib.hid (OwnRv.base ho (b' := w.heap.size + 3) (by simp))
  have HT := Lib.hid hrl
  clear hb1 r0 r1 r2 hB ho hB0 hrl hc
  go_wp2_with fail
  exact bodyPost_ret (v := polV ar df bd (.slice ua l'.length ucap)) (by simp [results, Try.results50, go_sem, d0, d1, d2, d3]) rfl
    ⟨_, l', rfl, HT.out, (((((HO.out.setBelow (by simp) _).setBelow (by simp) _).setBelow (by simp) _).setBelow (by simp) _).setBelow (by simp) _).base (by omega),
      ((((HB.out.setCell (p := ⟨w.heap.size + 1 + 1, 3, none⟩) (by simp; omega) _).setCell (p := ⟨w.heap.size + 1, 0, none⟩) (by simp) _).setCell (p := ⟨w.heap.size + 1, 1, none⟩) (by simp) _).setCell (p := ⟨w.heap.size + 1, 2, none⟩) (by simp) _).setCell (p := ⟨w.heap.size + 1, 3, none⟩) (by simp) _⟩

theorem szPolicy_any (ar df bd : Int) (v : Value) (l : List Rv) (left : Int) (w : World) (hv : RvAt w w.heap.size v l) (h0 : 0 ≤ left) (h1 : left ≤ 1048576) :
    Calls Try.prog 49 #[polV ar df bd v, .int .i64 left] w fun e w' => e = .returned (.int .i64 (szRs left (rls l))) ∧ Below w.heap.size w w' := by
  have q := fun W (h : Below w.heap.size w W) => szRuleS_any v l left W (RvAt.up (RvAt.below hv h) h.size) h0 h1
  obtain ⟨a, cap, rfl, hlc, hcm⟩ := hv.len
  have hge : -1 ≤ szRs left (rls l) := szRs_ge
  have hle : szRs left (rls l) ≤ 1048576 := by
    by_cases h : 0 ≤ szRs left (rls l)
    · have := (szRs_bd h).1; omega
    · omega
  generalize szRs left (rls l) = s at *
  have HQ := Lib.hid q
  have HB0 := Lib.hid (show ∀ o : Obj, Below w.heap.size w (w.alloc o) from fun o => (Below.refl _ _).alloc (Nat.le_refl _) _)
  clear q hv
  by_cases h : s < 0
  · have he := Lib.hid (show s = -1 by omega)
    go_enter Try.func49, Try.ntmps49
    go_wp2_with fail
    refine (HQ.out _ (HB0.out _)).mono ?_
    rintro e w1 ⟨rfl, hb1⟩
    have HZ := Lib.hid ((HB0.out _).trans (hb1.mono (HB0.out _).size))
    clear hb1
    go_wp2_with fail
    go_ret
    exact ⟨ret_int he.out.symm, HZ.out⟩
  · have hd : decide (s < 0) = false := by simpa using h
    go_enter Try.func49, Try.ntmps49
    go_wp2_with fail
    refine (HQ.out _ (HB0.out _)).mono ?_
    rintro e w1 ⟨rfl, hb1⟩
    have HZ := Lib.hid ((HB0.out _).trans (hb1.mono (HB0.out _).size))
    clear hb1
    go_wp2_with fail
    go_ret
    exact ⟨rfl, HZ.out⟩

set_option maxHeartbeats 1600000 in
theorem eqPolicy_any (ar df bd ar' df' bd' : Int) (l l' : List Rv) (v1 v2 : Value) (w : World) (h1 : RvAt w w.heap.size v1 l) (h2 : RvAt w w.heap.size v2 l') :
    Calls Try.prog 51 #[polV ar df bd v1, polV ar' df' bd' v2] w fun e w' => e = .returned (.bool (decide ((⟨ar, df, bd, rls l⟩ : Pol) = ⟨ar', df', bd', rls l'⟩))) ∧ Below w.heap.size w w' := by
  obtain ⟨a1, cap1, rfl, hc1, hm1⟩ := h1.len
  obtain ⟨a2, cap2, rfl, hc2, hm2⟩ := h2.len
  have HB0 := Lib.hid (show ∀ o o' : Obj, Below w.heap.size w ((w.alloc o).alloc o') from fun o o' => ((Below.refl _ _).alloc (Nat.le_refl _) _).alloc (by simp) _)
  by_cases e0 : ar = ar'
  · by_cases e1 : df = df'
    · by_cases e2 : bd = bd'
      · have q2 := fun W (h : Below w.heap.size w W) => eqRuleS_any _ _ l l' W (RvAt.up (RvAt.below h1 h) h.size) (RvAt.up (RvAt.below h2 h) h.size)
        have HD := Lib.hid (show decide ((⟨ar, df, bd, rls l⟩ : Pol) = ⟨ar', df', bd', rls l'⟩) = decide (rls l = rls l') by
          subst e0 e1 e2
          rw [Bool.eq_iff_iff]
          simp)
        generalize decide (rls l = rls l') = r at *
        subst e0 e1 e2
        have Q2 := Lib.hid q2
        clear q2 h1 h2
        have n0 : (ar != ar) = false := by simp
        have n1 : (df != df) = false := by simp
        have n2 : (bd != bd) = false := by simp
        go_enter Try.func51, Try.ntmps51
        go_wp2_with fail
        refine (Q2.out _ (HB0.out _ _)).mono ?_
        rintro e w1 ⟨rfl, hb1⟩
        have HB := Lib.hid ((HB0.out _ _).trans (hb1.mono (HB0.out _ _).size))
        clear hb1
        cases r
        all_goals
          go_wp2_with fail
          go_ret
          exact ⟨ret_bool HD.out.symm, HB.out⟩
      · have HD := Lib.hid (show decide ((⟨ar, df, bd, rls l⟩ : Pol) = ⟨ar', df', bd', rls l'⟩) = false by simp [e2])
        have n0 := nn_int e0
        have n1 := nn_int e1
        have h := ne_int e2
        clear e2 h1 h2
        subst e0 e1
        go_enter Try.func51, Try.ntmps51
        go_wp2
        go_ret
        exact ⟨ret_bool HD.out.symm, HB0.out _ _⟩
    · have HD := Lib.hid (show decide ((⟨ar, df, bd, rls l⟩ : Pol) = ⟨ar', df', bd', rls l'⟩) = false by simp [e1])
      have n0 := nn_int e0
      have h := ne_int e1
      clear e1 h1 h2
      subst e0
      go_enter Try.func51, Try.ntmps51
      go_wp2
      go_ret
      exact ⟨ret_bool HD.out.symm, HB0.out _ _⟩
  · have HD := Lib.hid (show decide ((⟨ar, df, bd, rls l⟩ : Pol) = ⟨ar', df', bd', rls l'⟩) = false by simp [e0])
    have h := ne_int e0
    clear e0 h1 h2
    go_enter Try.func51, Try.ntmps51
    go_wp2
    go_ret
    exact ⟨ret_bool HD.out.symm, HB0.out _ _⟩

end Go.Proofs.Ytmnmaijifhojiaa

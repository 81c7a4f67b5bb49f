/- Records out of bytes: l03Read and RecordRead of the model walked. -/
import Derived.Test.YtgcfnmaojdnchaaRb
import Derived.Deep.RegionHeld3
import Derived.Deep.RegionLaw
import Derived.Deep.DrawnRows
import Derived.StillTailTactics
import Derived.Deep.Draws
set_option maxRecDepth 100000
namespace Go.Proofs.Ytgcfnmaojdnchaa
open Go.RowKit
attribute [local go_sem ↓] Go.wp_at_zero Go.wp_at_succ

def wdAtB (s : ByteArray) (i : Nat) : Wd := ⟨leV (bytesAt s (i + 4) 4), leV (bytesAt s i 4)⟩
def argsB (s : ByteArray) (m : Nat) : List Wd := (List.range m).map fun i => wdAtB s (16 + 8 * i)
def rcAtB (s : ByteArray) : Rc := ⟨leV (bytesAt s 0 4), leV (bytesAt s 4 4), wdAtB s 8, argsB s 6⟩
def rcReadC (s : ByteArray) : Int := if 8000 < s.size then 2 else if s.size ≠ 64 then 4 else 0
def rc0 : Rc := ⟨0, 0, ⟨0, 0⟩, []⟩
def rcRead (s : ByteArray) : Rc := if rcReadC s = 0 then rcAtB s else rc0
theorem argsB_next (s : ByteArray) (m : Nat) : argsB s (m + 1) = argsB s m ++ [wdAtB s (16 + 8 * m)] := by simp [argsB, List.range_succ]
theorem argsB_length (s : ByteArray) (m : Nat) : (argsB s m).length = m := by simp [argsB]
theorem leV4_bd (l : List UInt8) (h : l.length ≤ 4) : 0 ≤ leV l ∧ leV l ≤ 4294967295 := by
  have := leV_bd l
  have hb : (256 : Int) ^ l.length ≤ 4294967296 := by
    rcases (by omega : l.length = 0 ∨ l.length = 1 ∨ l.length = 2 ∨ l.length = 3 ∨ l.length = 4) with h | h | h | h | h <;> rw [h] <;> decide
  omega
theorem bytes4_bd (s : ByteArray) (i : Nat) : 0 ≤ leV (bytesAt s i 4) ∧ leV (bytesAt s i 4) ≤ 4294967295 := leV4_bd _ (by unfold bytesAt; exact List.length_take_le _ _)

theorem rcRead_len (s : ByteArray) : (rcRead s).args.length ≤ 6 := by
  unfold rcRead
  split
  · simp [rcAtB, argsB_length]
  · simp [rc0]
theorem wdAtB_wf (s : ByteArray) (i : Nat) : (wdAtB s i).wf := by
  have a := bytes4_bd s i
  have b := bytes4_bd s (i + 4)
  unfold Wd.wf In64 wdAtB
  simp only
  omega
theorem rcRead_wf (s : ByteArray) : ∀ x ∈ (rcRead s).args, x.wf := by
  intro x hx
  unfold rcRead at hx
  split at hx
  · simp only [rcAtB, argsB, List.mem_map] at hx
    obtain ⟨i, _, rfl⟩ := hx
    exact wdAtB_wf _ _
  · simp [rc0] at hx

theorem l03Read_any (s : ByteArray) (z : Int) (i : Nat) (w : World) (hs : s.size ≤ maxLen) (hz : z = i) (hi : i + 8 ≤ s.size) :
    Calls Try.prog 50 #[.string s, .int .i64 z] w fun e w' => e = .returned (.agg #[.int .i64 (wdAtB s i).h, .int .i64 (wdAtB s i).l]) ∧ Below w.heap.size w w' := by
  subst hz
  have q1 := fun W => l02Get_int s (i : Int) 4 i 4 W hs rfl rfl (by omega) (by omega)
  have q2 := fun W => l02Get_int s ((i : Int) + 4) 4 (i + 4) 4 W hs (by omega) rfl (by omega) (by omega)
  have e1 : leV (bytesAt s i 4) = (wdAtB s i).l := rfl
  have e2 : leV (bytesAt s (i + 4) 4) = (wdAtB s i).h := rfl
  rw [e1] at q1
  rw [e2] at q2
  clear e1 e2
  generalize wdAtB s i = x at *
  obtain ⟨h, l⟩ := x
  simp only at q1 q2 ⊢
  have Q1 := Lib.hid q1
  have Q2 := Lib.hid q2
  unfold maxLen at hs
  clear q1 q2
  go_enter Try.func50, Try.ntmps50
  go_wp2_with fail
  refine (Q1.out _).mono ?_
  rintro e w1 ⟨rfl, rfl⟩
  go_wp2_with fail
  refine (Q2.out _).mono ?_
  rintro e w1 ⟨rfl, rfl⟩
  go_wp2_with fail
  exact bodyPost_ret (v := .agg #[.int .i64 h, .int .i64 l]) (by simp [results, Try.results50, go_sem]) rfl ⟨rfl, (Below.refl _ _).alloc (Nat.le_refl _) _⟩

/-- A record out: its record, and a code. -/
def RecEnd (base : Nat) (w : World) (r : Rc) (c : Int) (e : Ending) (w' : World) : Prop :=
  ∃ u, e = .returned (.agg #[.int .i64 r.nr, .int .i64 r.ar, .int .i64 r.ip.h, .int .i64 r.ip.l, u, .int .i64 c]) ∧ WdOwn base w' u r.args ∧ Below w.heap.size w w'

/-- The record's variable, behind a callee and an append to its words. -/
theorem rc_kept {wr w2 w3 : World} {g : Nat} {cs : Array Value} {T : TypeId} {v v' : Value} (hrow : wr.heap[g]? = some (.cells cs T (0, 0))) (hlt : g < wr.heap.size) (hb : Below wr.drew.heap.size wr.drew w2) (hg3 : GrB w2 w3 v v') (hv : ∀ k, v.ownBlock = some k → g + 1 ≤ k ∧ k < w2.heap.size) :
    w3.heap[g]? = some (.cells cs T (0, 0)) ∧ Below (g + 1) wr w3 ∧ wr.heap.size ≤ w3.heap.size := by
  have hb2 : Below wr.heap.size wr w2 := ((Below.refl wr.heap.size wr).drew).trans hb
  have hs2 := hb2.size
  have hg2 : Below (g + 1) w2 w3 := (Below.refl _ _).grown hg3.1 (by omega) (fun j hj => (hv j hj).1)
  exact ⟨(hg2.block _ (by omega)).trans ((hb2.block _ hlt).trans hrow), (hb2.mono (by omega)).trans hg2, Nat.le_trans hs2 hg2.size⟩

set_option maxHeartbeats 3200000 in
theorem specRecordRead_any (s : ByteArray) (w : World) (hs : s.size ≤ maxLen) :
    Calls Try.prog 15 #[.string s] w (RecEnd w.heap.size w (rcRead s) (rcReadC s)) := by
  have hs' := hs
  unfold maxLen at hs
  by_cases h1 : 8000 < s.size
  · have hc : rcReadC s = 2 := by unfold rcReadC; rw [if_pos h1]
    have HE : Hid (RecEnd w.heap.size w (rcRead s) (rcReadC s) = RecEnd w.heap.size w rc0 2) := by show _ = _; unfold rcRead; rw [hc, if_neg (by decide)]
    rw [HE.out]
    clear hc
    have hd : decide (8000 < (s.size : Int)) = true := by simp; omega
    go_enter Try.func15, Try.ntmps15
    go_wp2
    exact bodyPost_ret (v := .agg #[.int .i64 0, .int .i64 0, .int .i64 0, .int .i64 0, .slice none 0 0, .int .i64 2]) (by simp [results, Try.results15, go_sem]) rfl ⟨_, rfl, OwnL.nil _ _, (Below.refl _ _).alloc (Nat.le_refl _) _⟩
  by_cases h2 : s.size ≠ 64
  · have hc : rcReadC s = 4 := by unfold rcReadC; rw [if_neg h1, if_pos h2]
    have HE : Hid (RecEnd w.heap.size w (rcRead s) (rcReadC s) = RecEnd w.heap.size w rc0 4) := by show _ = _; unfold rcRead; rw [hc, if_neg (by decide)]
    rw [HE.out]
    clear hc
    have hd : decide (8000 < (s.size : Int)) = false := by simp; omega
    have hq : ((s.size : Int) != 64) = true := by simp; omega
    go_enter Try.func15, Try.ntmps15
    go_wp2
    exact bodyPost_ret (v := .agg #[.int .i64 0, .int .i64 0, .int .i64 0, .int .i64 0, .slice none 0 0, .int .i64 4]) (by simp [results, Try.results15, go_sem]) rfl ⟨_, rfl, OwnL.nil _ _, (Below.refl _ _).alloc (Nat.le_refl _) _⟩
  have hc : rcReadC s = 0 := by unfold rcReadC; rw [if_neg h1, if_neg h2]
  have HE : Hid (RecEnd w.heap.size w (rcRead s) (rcReadC s) = RecEnd w.heap.size w (rcAtB s) 0) := by show _ = _; unfold rcRead; rw [hc, if_pos rfl]
  rw [HE.out]
  have h64 : s.size = 64 := by omega
  have hd : decide (8000 < (s.size : Int)) = false := by simp; omega
  have hq : ((s.size : Int) != 64) = false := by rw [h64]; rfl
  have q1 := fun W => l02Get_int s 0 4 0 4 W hs' rfl rfl (by omega) (by omega)
  have q2 := fun W => l02Get_int s 4 4 4 4 W hs' rfl rfl (by omega) (by omega)
  have q3 := fun W => l03Read_any s 8 8 W hs' rfl (by omega)
  have q4 := fun z i W (hz : z = ((16 + 8 * i : Nat) : Int)) (hi : i < 6) => l03Read_any s z (16 + 8 * i) W hs' hz (by omega)
  obtain ⟨nr, hnr⟩ : ∃ n, n = leV (bytesAt s 0 4) := ⟨_, rfl⟩
  obtain ⟨ar, har⟩ : ∃ n, n = leV (bytesAt s 4 4) := ⟨_, rfl⟩
  obtain ⟨ip, hip⟩ : ∃ n, n = wdAtB s 8 := ⟨_, rfl⟩
  have HRC := Lib.hid (show rcAtB s = ⟨nr, ar, ip, argsB s 6⟩ by rw [hnr, har, hip]; rfl)
  rw [← hnr] at q1
  rw [← har] at q2
  rw [← hip] at q3
  obtain ⟨ih, il⟩ := ip
  simp only at q3
  have H64 := Lib.hid h64
  have Q1 := Lib.hid q1
  have Q2 := Lib.hid q2
  have Q3 := Lib.hid q3
  have Q4 := Lib.hid q4
  clear q1 q2 q3 q4 hnr har hip h64 hc h1 h2
  go_enter Try.func15, Try.ntmps15
  go_wp2_with fail
  refine (Q1.out _).mono ?_
  rintro e w1 ⟨rfl, rfl⟩
  go_wp2_with fail
  refine (Q2.out _).mono ?_
  rintro e w1 ⟨rfl, rfl⟩
  go_wp2_with fail
  refine (Q3.out _).mono ?_
  rintro e w1 ⟨rfl, hb1⟩
  have HB1 := Lib.hid hb1
  clear hb1
  go_wp2_with fail
  go_loopw [4] (fun i wr => ∃ (k : Nat) (u : Value), k ≤ 6 ∧ i = .int .i64 k ∧ wr.heap[w1.heap.size]? = some (.cells #[.int .i64 nr, .int .i64 ar, .int .i64 ih, .int .i64 il, u] 27 (0, 0)) ∧ WdOwn (w1.heap.size + 1) wr u (argsB s k) ∧
      Below w1.heap.size w1 wr ∧ w1.heap.size + 1 ≤ wr.heap.size) (fun i _ => 6 - (intOf i).toNat)
  case atStart => exact ⟨0, _, by omega, rfl, heap_alloc_new w1 _, OwnL.nil _ _, (Below.refl _ _).alloc (Nat.le_refl _) _, by simp⟩
  case round =>
    obtain ⟨k, u, hk, rfl, hrow, hown, hbw, hsz⟩ := hrel
    obtain ⟨ua, ucap, rfl⟩ := hown.slice
    have hul := argsB_length s k
    have c4 : wr.cell? ⟨w1.heap.size, 4, none⟩ = some (.slice ua (argsB s k).length ucap) := by rw [cell_of_row _ _ _ _ _ _ hrow]; rfl
    have f4 := frozen_row hrow 4
    by_cases hlt : k < 6
    · have hnx := argsB_next s k
      have q := fun W => Q4.out (16 + 8 * (k : Int)) k W (by omega) hlt
      generalize wdAtB s (16 + 8 * k) = x at *
      obtain ⟨xh, xl⟩ := x
      simp only at q
      have QQ := Lib.hid q
      have HN := Lib.hid hnx
      have HROW := Lib.hid hrow
      have HOWN := Lib.hid hown
      have HBW := Lib.hid hbw
      have HL := Lib.hid hul
      clear q hnx hrow hown hbw hul c4 f4
      have e16 : IntKind.i64.wrap (8 * (k : Int)) = 8 * (k : Int) := by rw [IntKind.wrap_i64]; omega
      have e17 : IntKind.i64.wrap (16 + 8 * (k : Int)) = 16 + 8 * (k : Int) := by rw [IntKind.wrap_i64]; omega
      have c4 : wr.cell? ⟨w1.heap.size, 4, none⟩ = some (.slice ua (argsB s k).length ucap) := by rw [cell_of_row _ _ _ _ _ _ HROW.out]; rfl
      go_wp2_with fail
      have hd1 : WdOwn (w1.heap.size + 1) wr.drew (.slice ua (argsB s k).length ucap) (argsB s k) := HOWN.out
      have hkeep : ∀ w2 : World, Below wr.drew.heap.size wr.drew w2 → w2.cell? ⟨w1.heap.size, 4, none⟩ = some (.slice ua (argsB s k).length ucap) := fun w2 hb => (hb.cell (p := ⟨w1.heap.size, 4, none⟩) (by show w1.heap.size < wr.heap.size; omega)).trans c4
      have HK := Lib.hid hkeep
      have hlt1 : w1.heap.size < wr.heap.size := by omega
      have hlen6 : (argsB s k).length ≤ 1000000000 := by have := HL.out; omega
      clear hkeep
      go_region_law (first
          | ((refine step_push_wd (by rfl) _ _ (by rfl) _ _ _ (w1.heap.size + 1) (.slice ua (argsB s k).length ucap) (argsB s k) (by rfl) hown2 (by rfl) hlen6 (by have : wr.heap.size ≤ _ := hs2; omega) ?_; intro v3 w3 hown3 hg3; have hkp := rc_kept HROW.out hlt1 hb2 hg3 hown2.lt; have c6 : w3.cell? ⟨w1.heap.size, 4, none⟩ = some (.slice ua (argsB s k).length ucap) := (cell_of_row _ _ _ _ _ _ hkp.1).trans rfl; have f6 := frozen_row hkp.1 4; have HKP := Lib.hid hkp; clear hkp; obtain ⟨va, vcap, rfl⟩ := hown3.slice))
          | ((go_simp; (with_reducible refine (QQ.out _).mono ?_); rintro e w2 ⟨rfl, hb2⟩; have c5 := HK.out _ hb2; have hs2 := hb2.size; have hlt2 : w1.heap.size < w2.heap.size := Nat.lt_of_lt_of_le hlt1 hs2; have hown2 := OwnL.below hd1 hb2; dsimp only)))
      all_goals
        have hbX : ∀ v : Value, Below w1.heap.size w1 (w3.setCell ⟨w1.heap.size, 4, none⟩ v) := fun v => (HBW.out.trans (HKP.out.2.1.mono (by omega))).setCell (p := ⟨w1.heap.size, 4, none⟩) (Nat.le_refl _) v
        have hsX : ∀ v : Value, w1.heap.size + 1 ≤ (w3.setCell ⟨w1.heap.size, 4, none⟩ v).heap.size := fun v => by
          have b := HKP.out.2.2
          simp [World.setCell]; omega
        have hoX : ∀ v : Value, WdOwn (w1.heap.size + 1) (w3.setCell ⟨w1.heap.size, 4, none⟩ v) (.slice va ((argsB s k).length + 1) vcap) (argsB s (k + 1)) := fun v => by rw [HN.out]; have := hown3.setBelow (a := ⟨w1.heap.size, 4, none⟩) (by simp) v; rwa [List.length_append] at this
        have HBX := Lib.hid hbX
        have HSX := Lib.hid hsX
        have HOX := Lib.hid hoX
        clear hbX hsX hoX hown3 hg3
        go_wp2_with fail
        go_roundw
        case rel => exact ⟨k + 1, _, by omega, by go_num, row_put HKP.out.1 4 _, HOX.out _, HBX.out _, HSX.out _⟩
        case measure => simp [intOf]; omega
    · have hk6 : k = 6 := by omega
      subst hk6
      have hB0 := HB1.out
      have e0 := fun i => (Below.cell hbw (p := ⟨w.heap.size, i, none⟩) (by have := hB0.size; simp at this; show w.heap.size < _; omega)).trans (box_cell hB0 i)
      have g0 := fun i => (Below.frozen hbw (p := ⟨w.heap.size, i, none⟩) (by have := hB0.size; simp at this; show w.heap.size < _; omega)).trans (box_free hB0 i)
      have a0 := e0 0
      have a1 := e0 1
      have a2 := e0 2
      have a3 := e0 3
      have a4 := e0 4
      have a5 := e0 5
      simp only [List.getElem?_toArray, List.getElem?_cons_zero, List.getElem?_cons_succ] at a0 a1 a2 a3 a4 a5
      have b0 := g0 0
      have b1 := g0 1
      have b2 := g0 2
      have b3 := g0 3
      have b4 := g0 4
      have b5 := g0 5
      have c0 : wr.cell? ⟨w1.heap.size, 0, none⟩ = some (.int .i64 nr) := (cell_of_row _ _ _ _ _ _ hrow).trans rfl
      have c1 : wr.cell? ⟨w1.heap.size, 1, none⟩ = some (.int .i64 ar) := (cell_of_row _ _ _ _ _ _ hrow).trans rfl
      have c2 : wr.cell? ⟨w1.heap.size, 2, none⟩ = some (.int .i64 ih) := (cell_of_row _ _ _ _ _ _ hrow).trans rfl
      have c3 : wr.cell? ⟨w1.heap.size, 3, none⟩ = some (.int .i64 il) := (cell_of_row _ _ _ _ _ _ hrow).trans rfl
      have hb0 : Below w.heap.size w wr := (box_below hB0).trans (hbw.mono (by have := hB0.size; simp at this; omega))
      have HB := Lib.hid hb0
      have HO := Lib.hid hown
      have hlt0 : w.heap.size < w1.heap.size := by have := hB0.size; simp at this; omega
      clear hrow hown hbw e0 g0 hb0 hB0
      go_wp2_with fail
      exact bodyPost_ret (v := .agg #[.int .i64 nr, .int .i64 ar, .int .i64 ih, .int .i64 il, .slice ua (argsB s 6).length ucap, .int .i64 0]) (by simp [results, Try.results15, go_sem, a0, a1, a2, a3, a4, a5, argsB_length]) rfl
        ⟨_, by rw [HRC.out], by rw [HRC.out]; exact ((((((HO.out.setBelow (by simp; omega) _).setBelow (by simp; omega) _).setBelow (by simp; omega) _).setBelow (by simp; omega) _).setBelow (by simp; omega) _).setBelow (by simp; omega) _).base (by omega),
          (((((HB.out.setCell (p := ⟨w.heap.size, 0, none⟩) (Nat.le_refl _) _).setCell (p := ⟨w.heap.size, 1, none⟩) (Nat.le_refl _) _).setCell (p := ⟨w.heap.size, 2, none⟩) (Nat.le_refl _) _).setCell (p := ⟨w.heap.size, 3, none⟩) (Nat.le_refl _) _).setCell (p := ⟨w.heap.size, 4, none⟩) (Nat.le_refl _) _).setCell (p := ⟨w.heap.size, 5, none⟩) (Nat.le_refl _) _⟩

end Go.Proofs.Ytgcfnmaojdnchaa

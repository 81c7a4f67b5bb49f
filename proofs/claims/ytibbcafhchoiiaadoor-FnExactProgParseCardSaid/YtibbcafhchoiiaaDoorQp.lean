/- ProgParse of the model. -/
import Derived.Test.YtibbcafhchoiiaaDoorPm
import Derived.Test.YtibbcafhchoiiaaDoorGc
set_option maxRecDepth 100000
set_option linter.unusedSimpArgs false
set_option linter.unusedVariables false
namespace Go.Proofs.YtibbcafhchoiiaaDoor
open Go.RowKit

theorem cut_le (c : UInt8) : ∀ (t p : List UInt8), p ∈ cutAt c t → p.length ≤ t.length
  | [], p, h => by simp [cutAt] at h; simp [h]
  | b :: t, p, h => by
    unfold cutAt at h
    split at h
    · rcases List.mem_cons.1 h with rfl | h
      · simp
      · have := cut_le c t p h; simp; omega
    · split at h
      · rename_i q qs hq
        rcases List.mem_cons.1 h with rfl | h
        · have := cut_le c t q (by rw [hq]; simp); simp; omega
        · have := cut_le c t p (by rw [hq]; simp [h]); simp; omega
      · simp at h; simp [h]
theorem numI_bd (t : List UInt8) : -1 ≤ numI t ∧ numI t < 10000000000 := by
  unfold numI numL
  by_cases h : numOk t = true
  · rw [if_pos h]
    unfold numOk at h
    simp only [Bool.and_eq_true, decide_eq_true_eq] at h
    have h1 := valL_bound t.length t rfl h.2
    have h2 : (10 : Nat) ^ t.length ≤ 10 ^ 10 := Nat.pow_le_pow_right (by decide) h.1.1.2
    have h3 : (10 : Nat) ^ 10 = 10000000000 := by decide
    simp only
    omega
  · rw [if_neg h]; simp
theorem opOfL_bd (t : List UInt8) : -1 ≤ opOfL t ∧ opOfL t ≤ 65535 := by
  by_cases h : opOfL t = -1
  · omega
  · have hm := ofFind_mem (l := opNamesL.zip opCodesL) (n := t) h
    have key : ∀ p ∈ opNamesL.zip opCodesL, 0 ≤ p.2 ∧ p.2 ≤ 65535 := by decide
    have := key _ hm
    unfold opOfL
    simp only at this
    omega
theorem parse_wf (ps : List (List UInt8)) : (parsePs ps).wf := by
  have h0 := opOfL_bd (ps.headD [])
  have h1 := numI_bd (ps.getD 1 [])
  have h2 := numI_bd (ps.getD 2 [])
  have h3 := numI_bd (ps.getD (if lksP ps then 3 else 1) [])
  unfold Ins.wf In64 parsePs
  simp only
  generalize (if lksP ps then 3 else 1) = j at *
  refine ⟨by omega, ?_, ?_, ?_⟩ <;> split <;> omega

def rowsI (l : List ByteArray) (k : Nat) : List Ins := (l.take k).map fun q => parsePs (cutAt 32 q.data.toList)
theorem rowsI_next {l : List ByteArray} {k : Nat} (h : k < l.length) : rowsI l (k + 1) = rowsI l k ++ [parsePs (cutAt 32 l[k].data.toList)] := by
  unfold rowsI
  rw [List.take_succ_eq_append_getElem h, List.map_append]
  rfl
theorem rowsI_length {l : List ByteArray} {k : Nat} (h : k ≤ l.length) : (rowsI l k).length = k := by simp [rowsI]; omega
theorem rowsI_model {l : List ByteArray} {t : List UInt8} {k : Nat} (h : datas l = cutAt 10 t) (h1 : k ≤ l.length - 1) (h2 : k ≤ 401) (h3 : k = l.length - 1 ∨ k = 401) : rowsI l k = modelL t := by
  unfold modelL rowsI
  rw [← h, List.dropLast_eq_take, datas_len, List.take_take]
  unfold datas
  rw [← List.map_take, List.map_map, show min 401 (l.length - 1) = k by omega]
  rfl
theorem rowsI_wf (l : List ByteArray) (k : Nat) : ∀ x ∈ rowsI l k, x.wf := by
  intro x hx
  unfold rowsI at hx
  obtain ⟨q, _, rfl⟩ := List.mem_map.1 hx
  exact parse_wf _

/-- A program out, and what it is. -/
def ParseEnd (base : Nat) (t : List UInt8) (w : World) (e : Ending) (w' : World) : Prop := ∃ (l : List Ins) (c : Int) (u : Value), ParseRes t l c ∧ e = .returned (.agg #[u, .int .i64 c, .int .i64 0]) ∧ InsOwn base w' u l ∧ Below w.heap.size w w'

set_option maxHeartbeats 3200000 in
theorem specProgParse_any (s : ByteArray) (w : World) (hs : s.size ≤ maxLen) :
    Calls Tryd.prog 10 #[.string s] w (ParseEnd w.heap.size s.data.toList w) := by
  unfold maxLen at hs
  have hsz : s.data.toList.length = s.size := Array.length_toList
  have HSZ := Lib.hid hsz
  clear hsz
  by_cases h1 : 8000 < s.size
  · have hd : decide (8000 < (s.size : Int)) = true := by simp; omega
    go_enter Tryd.func10, Tryd.ntmps10
    go_wp2
    exact bodyPost_ret (v := .agg #[.slice none 0 0, .int .i64 2, .int .i64 0]) (by simp [results, Tryd.results10, go_sem]) rfl ⟨[], 2, _, .inl ⟨by rw [HSZ.out]; exact h1, rfl, rfl⟩, rfl, InsOwn.nil _ _, (Below.refl _ _).alloc (Nat.le_refl _) _⟩
  have hd : decide (8000 < (s.size : Int)) = false := by simp; omega
  have qs := fun W => l01Split_any s 10 W (by omega)
  have QS := Lib.hid qs
  clear qs
  go_enter Tryd.func10, Tryd.ntmps10
  go_wp2_with fail
  refine (QS.out _).mono ?_
  rintro e w1 ⟨u, l, rfl, ho1, hps, hll, hb1⟩
  have hl0 : 0 < l.length := by
    rcases Nat.eq_zero_or_pos l.length with h | h
    · exact absurd (by rw [← hps, List.eq_nil_of_length_eq_zero h]; rfl) (cutAt_ne 10 s.data.toList)
    · exact h
  obtain ⟨g, cap, rfl, hg, hgw, hlc⟩ := ho1.more hl0
  have HCELL := Lib.hid (fun i (hi : i < l.length) => str_cell ho1 hi)
  have HSP := Lib.hid (fun (i : Nat) (hi : i < l.length) => show l[i].size ≤ 8000 by
    have := cut_le 10 s.data.toList (l[i].data.toList) (by rw [← hps]; exact List.mem_map.2 ⟨_, List.getElem_mem hi, rfl⟩)
    rw [HSZ.out, Array.length_toList] at this
    exact Nat.le_trans this (by omega))
  have HPS := Lib.hid hps
  have HB1 := Lib.hid ((box_below hb1).trans ((Below.refl _ _)))
  have hbw1 : Below (w.alloc (.cells #[.slice none 0 0, .int .i64 0, .int .i64 0] 30)).heap.size (w.alloc (.cells #[.slice none 0 0, .int .i64 0, .int .i64 0] 30)) w1 := box_below hb1
  have HBW1 := Lib.hid hbw1
  have hlit : InsOwn (w.heap.size + 1) w1 (.slice (some ⟨w.heap.size + 1, 0, none⟩) 0 0) [] := (insOwn_lit (base := w.heap.size + 1) (w := w.alloc (.cells #[.slice none 0 0, .int .i64 0, .int .i64 0] 30)) (by simp) (by simp)).below hb1
  have HLIT := Lib.hid hlit
  have hgl : w.heap.size + 1 < g := by simp at hg; omega
  clear ho1 hps hb1 hbw1 hlit hg HB1
  go_wp2_with fail
  go_loopw [3, 5] (fun v i wr => ∃ k : Nat, k ≤ l.length - 1 ∧ k ≤ 401 ∧ i = .int .i64 (k : Nat) ∧ InsOwn (w.heap.size + 1) wr v (rowsI l k) ∧ v.ownBlock ≠ some g ∧ (∀ (i : Nat) (hi : i < l.length), wr.cell? ⟨g, i, none⟩ = some (.string l[i])) ∧ g < wr.heap.size ∧ Below (w.alloc (.cells #[.slice none 0 0, .int .i64 0, .int .i64 0] 30)).heap.size (w.alloc (.cells #[.slice none 0 0, .int .i64 0, .int .i64 0] 30)) wr)
    (fun _ i _ => 401 - (intOf i).toNat)
  case atStart =>
    exact ⟨0, by omega, by omega, rfl, HLIT.out, by simp [Value.ownBlock] <;> omega, HCELL.out, hgw, HBW1.out⟩
  case round =>
    obtain ⟨k, hk, hk4, rfl, hown, hne, hcell, hgr, hbw⟩ := hrel
    have hsz := hbw.size
    simp only [World.size_alloc] at hsz
    have HO := Lib.hid hown
    have HC := Lib.hid hcell
    have HB := Lib.hid hbw
    clear hown hcell hbw
    by_cases hlt : k < l.length - 1 ∧ k ≤ 400
    · obtain ⟨hk1, hk2⟩ := hlt
      have t1 : decide ((k : Int) < (l.length : Int) - 1) = true := by simp; omega
      have t2 : decide ((k : Int) ≤ 400) = true := by simp; omega
      have dk := HC.out k (by omega)
      have qp := fun W => l02Parse_any l[k] W (Nat.le_trans (HSP.out k (by omega)) (by omega))
      have hnx := rowsI_next (l := l) (k := k) (by omega)
      have hrl := rowsI_length (l := l) (k := k) (by omega)
      generalize parsePs (cutAt 32 l[k].data.toList) = x at *
      obtain ⟨xc, xy, xn, xk⟩ := x
      simp only at qp
      have QP := Lib.hid qp
      have HNX := Lib.hid hnx
      have hle : (rowsI l k).length ≤ 1000000000 := by omega
      clear qp hnx hrl
      go_wp2_with fail
      refine (QP.out _).mono ?_
      rintro e w2 ⟨rfl, hb2⟩
      have HO2 := Lib.hid (HO.out.below hb2)
      have HB2 := Lib.hid (HB.out.trans (hb2.mono HB.out.size))
      have HC2 := Lib.hid (fun (i : Nat) (hi : i < l.length) => (hb2.cell (p := ⟨g, i, none⟩) hgr).trans (HC.out i hi))
      have hsz2 : w.heap.size + 1 ≤ w2.heap.size := Nat.le_trans hsz hb2.size
      have hgr2 : g < w2.heap.size := Nat.lt_of_lt_of_le hgr hb2.size
      clear hb2
      go_wp2_with (at_builtin; refine wpList_push_ins rfl _ _ (by rfl) _ _ _ _ _ (w.heap.size + 1) _ (rowsI l k) (by rfl) HO2.out (by rfl) hle hsz2 ?_; intro v1 w3 hown1 hg1)
      rw [← HNX.out] at hown1
      have hb3 := hg1.below HB2.out (by simpa using hsz2) (fun j hj => by have := (HO2.out.lt j hj).1; simpa using this)
      have hne3 : v1.ownBlock ≠ some g := by
        rcases hg1.2 with e | e
        · rw [e]; exact hne
        · intro e'; have := e g e'; omega
      have hc3 : ∀ (i : Nat) (hi : i < l.length), w3.cell? ⟨g, i, none⟩ = some (.string l[i]) := fun i hi => (hg1.cell (p := ⟨g, i, none⟩) hgr2 hne).trans (HC2.out i hi)
      have hgr3 : g < w3.heap.size := Nat.lt_of_lt_of_le hgr2 hg1.1.size
      go_roundw
      case rel => exact ⟨k + 1, by omega, by omega, by go_num, hown1, hne3, hc3, hgr3, hb3⟩
      case measure => simp [intOf]; omega
    · have hkk : k = l.length - 1 ∨ k = 401 := by omega
      have HM := Lib.hid (rowsI_model HPS.out hk hk4 hkk)
      have qt := specProgText_any _ _ _ (show InsAt wr wr.heap.size u3 (rowsI l k) from ⟨SlAt.of_own HO.out, rowsI_wf l k⟩)
      rw [HM.out] at qt
      have QT := Lib.hid qt
      obtain ⟨a3, cap3, rfl⟩ := HO.out.slice
      clear qt
      generalize rowsI l k = rows at *
      by_cases hk1 : k < l.length - 1
      · have t1 : decide ((k : Int) < (l.length : Int) - 1) = true := by simp; omega
        have t2 : decide ((k : Int) ≤ 400) = false := by simp; omega
        go_wp2_with fail
        refine QT.out.mono ?_
        rintro e w2 ⟨rfl, hb2⟩
        have HO2 := Lib.hid (HO.out.below hb2)
        have HB2 := Lib.hid (HB.out.trans (hb2.mono HB.out.size))
        clear hb2
        have c0 := box_cell HB2.out 0
        have c1 := box_cell HB2.out 1
        have c2 := box_cell HB2.out 2
        have f0 := box_free HB2.out 0
        have f1 := box_free HB2.out 1
        have f2 := box_free HB2.out 2
        simp only [List.getElem?_toArray, List.getElem?_cons_zero, List.getElem?_cons_succ] at c0 c1 c2
        by_cases hpt : ptOf (modelL s.data.toList) = s
        · have HV := Lib.hid (model_vt (t := s.data.toList) (by rw [hpt]))
          go_wp2_with fail
          exact bodyPost_ret (v := .agg #[.slice a3 rows.length cap3, .int .i64 0, .int .i64 0]) (by simp [results, Tryd.results10, go_sem, c0, c1, c2]) rfl
            ⟨rows, 0, _, .inr ⟨by rw [HSZ.out]; omega, .inl ⟨rfl, by rw [HM.out]; exact HV.out⟩⟩, rfl, (((HO2.out.setBelow (by simp) _).setBelow (by simp) _).setBelow (by simp) _).base (by omega),
              (((box_below HB2.out).setCell (p := ⟨w.heap.size, 0, none⟩) (Nat.le_refl _) _).setCell (p := ⟨w.heap.size, 1, none⟩) (Nat.le_refl _) _).setCell (p := ⟨w.heap.size, 2, none⟩) (Nat.le_refl _) _⟩
        · have HV := Lib.hid (fun l' (h : VT s.data.toList l') => hpt (ByteArray.ext (Array.toList_inj.1 (vt_model h))))
          have hq := str_beq_false hpt
          go_wp2_with fail
          exact bodyPost_ret (v := .agg #[.slice none 0 0, .int .i64 3, .int .i64 0]) (by simp [results, Tryd.results10, go_sem, c0, c1, c2]) rfl
            ⟨[], 3, _, .inr ⟨by rw [HSZ.out]; omega, .inr ⟨rfl, rfl, HV.out⟩⟩, rfl, InsOwn.nil _ _,
              (((box_below HB2.out).setCell (p := ⟨w.heap.size, 0, none⟩) (Nat.le_refl _) _).setCell (p := ⟨w.heap.size, 1, none⟩) (Nat.le_refl _) _).setCell (p := ⟨w.heap.size, 2, none⟩) (Nat.le_refl _) _⟩
      · have t1 : decide ((k : Int) < (l.length : Int) - 1) = false := by simp; omega
        go_wp2_with fail
        refine QT.out.mono ?_
        rintro e w2 ⟨rfl, hb2⟩
        have HO2 := Lib.hid (HO.out.below hb2)
        have HB2 := Lib.hid (HB.out.trans (hb2.mono HB.out.size))
        clear hb2
        have c0 := box_cell HB2.out 0
        have c1 := box_cell HB2.out 1
        have c2 := box_cell HB2.out 2
        have f0 := box_free HB2.out 0
        have f1 := box_free HB2.out 1
        have f2 := box_free HB2.out 2
        simp only [List.getElem?_toArray, List.getElem?_cons_zero, List.getElem?_cons_succ] at c0 c1 c2
        by_cases hpt : ptOf (modelL s.data.toList) = s
        · have HV := Lib.hid (model_vt (t := s.data.toList) (by rw [hpt]))
          go_wp2_with fail
          exact bodyPost_ret (v := .agg #[.slice a3 rows.length cap3, .int .i64 0, .int .i64 0]) (by simp [results, Tryd.results10, go_sem, c0, c1, c2]) rfl
            ⟨rows, 0, _, .inr ⟨by rw [HSZ.out]; omega, .inl ⟨rfl, by rw [HM.out]; exact HV.out⟩⟩, rfl, (((HO2.out.setBelow (by simp) _).setBelow (by simp) _).setBelow (by simp) _).base (by omega),
              (((box_below HB2.out).setCell (p := ⟨w.heap.size, 0, none⟩) (Nat.le_refl _) _).setCell (p := ⟨w.heap.size, 1, none⟩) (Nat.le_refl _) _).setCell (p := ⟨w.heap.size, 2, none⟩) (Nat.le_refl _) _⟩
        · have HV := Lib.hid (fun l' (h : VT s.data.toList l') => hpt (ByteArray.ext (Array.toList_inj.1 (vt_model h))))
          have hq := str_beq_false hpt
          go_wp2_with fail
          exact bodyPost_ret (v := .agg #[.slice none 0 0, .int .i64 3, .int .i64 0]) (by simp [results, Tryd.results10, go_sem, c0, c1, c2]) rfl
            ⟨[], 3, _, .inr ⟨by rw [HSZ.out]; omega, .inr ⟨rfl, rfl, HV.out⟩⟩, rfl, InsOwn.nil _ _,
              (((box_below HB2.out).setCell (p := ⟨w.heap.size, 0, none⟩) (Nat.le_refl _) _).setCell (p := ⟨w.heap.size, 1, none⟩) (Nat.le_refl _) _).setCell (p := ⟨w.heap.size, 2, none⟩) (Nat.le_refl _) _⟩

end Go.Proofs.YtibbcafhchoiiaaDoor

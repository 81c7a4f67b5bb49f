/- The model reads a line: l02Parse. -/
import Derived.Test.YtibbcafhchoiiaaDoorPe
set_option maxRecDepth 100000
set_option linter.unusedSimpArgs false
set_option linter.unusedVariables false
namespace Go.Proofs.YtibbcafhchoiiaaDoor
open Go.RowKit

theorem str_cell {w : World} {g cap base : Nat} {l : List ByteArray} {i : Nat} (h : StrOwn base w (.slice (some ⟨g, 0, none⟩) l.length cap) l) (hi : i < l.length) : w.cell? ⟨g, i, none⟩ = some (.string l[i]) := by
  obtain ⟨b, o, e, hb, hcell, _⟩ := LAt.at_ (h.lAt strS fun _ _ => trivial : LAt strC 1 (fun _ => True) w w.heap.size _ l) (List.getElem?_eq_getElem hi)
  injection e with e
  injection e with e1 e2 _
  subst e1 e2
  have d := hcell 0 _ rfl
  simpa using d
theorem cell_here {w : World} {a : Addr} {v : Value} (h : w.cell? a = some v) : a.block < w.heap.size := by
  unfold World.cell? at h
  split at h
  · rename_i hx
    exact (Array.getElem?_eq_some_iff.1 hx).1
  · cases h
theorem datas_len (l : List ByteArray) : (datas l).length = l.length := by simp [datas]
theorem datas_get {l : List ByteArray} {i : Nat} (hi : i < l.length) : (datas l).getD i [] = l[i].data.toList := by
  unfold datas
  rw [List.getD_eq_getElem?_getD, List.getElem?_map, List.getElem?_eq_getElem hi]
  rfl
theorem datas_head {l : List ByteArray} (hi : 0 < l.length) : (datas l).headD [] = l[0].data.toList := by
  cases l with
  | nil => simp at hi
  | cons a l => rfl
theorem pieces_le {l : List ByteArray} {s : ByteArray} (h : datas l = cutAt 32 s.data.toList) {i : Nat} (hi : i < l.length) : l[i].size ≤ s.size := by
  have hj := join_cut s.data.toList
  rw [← h] at hj
  have hm : ∀ (ps : List (List UInt8)) (p : List UInt8), p ∈ ps → p.length ≤ (joinSp ps).length := by
    intro ps p hp
    have key : ∀ ps : List (List UInt8), p ∈ ps → p.length ≤ (ps.flatMap fun q => 32 :: q).length := by
      intro ps
      induction ps with
      | nil => intro h; simp at h
      | cons q ps ih =>
        intro h
        rw [List.flatMap_cons, List.length_append]
        rcases List.mem_cons.1 h with rfl | h
        · simp; omega
        · have := ih h; omega
    cases ps with
    | nil => simp at hp
    | cons q ps =>
      simp only [joinSp, List.length_append]
      rcases List.mem_cons.1 hp with rfl | hp
      · omega
      · have := key ps hp; omega
  have := hm (datas l) (l[i].data.toList) (List.mem_map.2 ⟨_, List.getElem_mem hi, rfl⟩)
  rw [hj] at this
  rw [Array.length_toList, Array.length_toList] at this
  exact this

set_option maxHeartbeats 3200000 in
theorem l02Parse_any (s : ByteArray) (w : World) (hs : s.size ≤ 1000000) :
    Calls Tryd.prog 27 #[.string s] w fun e w' => e = .returned (.agg #[.int .i64 (parsePs (cutAt 32 s.data.toList)).c, .int .i64 (parsePs (cutAt 32 s.data.toList)).y, .int .i64 (parsePs (cutAt 32 s.data.toList)).n, .int .i64 (parsePs (cutAt 32 s.data.toList)).k]) ∧ Below w.heap.size w w' := by
  have qs := fun W => l01Split_any s 32 W hs
  have hne := cutAt_ne 32 s.data.toList
  have HPL := Lib.hid (fun (l : List ByteArray) (h : datas l = cutAt 32 s.data.toList) (i : Nat) (hi : i < l.length) => pieces_le h hi)
  generalize cutAt 32 s.data.toList = ps at *
  obtain ⟨P, hP⟩ : ∃ P, parsePs ps = P := ⟨_, rfl⟩
  rw [hP]
  obtain ⟨pc, py, pn, pk⟩ := P
  simp only
  have HP := Lib.hid hP
  clear hP
  have QS := Lib.hid qs
  clear qs
  go_enter Tryd.func27, Tryd.ntmps27
  go_wp2_with fail
  refine (QS.out _).mono ?_
  rintro e w1 ⟨u, l, rfl, ho1, hps, hll, hb1⟩
  have hl0 : 0 < l.length := by
    rcases Nat.eq_zero_or_pos l.length with h | h
    · exact absurd (by rw [← hps, List.eq_nil_of_length_eq_zero h]; rfl) hne
    · exact h
  obtain ⟨g, cap, rfl, hg, hgw, hlc⟩ := ho1.more hl0
  have d0 := str_cell ho1 hl0
  have HCELL := Lib.hid (fun i (hi : i < l.length) => str_cell ho1 hi)
  have HSZ := Lib.hid (fun i (hi : i < l.length) => Nat.le_trans (HPL.out l hps i hi) hs)
  have HB1 := Lib.hid hb1
  have hB0l : w.heap.size < w1.heap.size := by have := hb1.size; simp at this; omega
  have hP : parsePs (datas l) = ⟨pc, py, pn, pk⟩ := by rw [hps]; exact HP.out
  have hH0 := datas_head hl0
  have hcc : opOf l[0] = opOfL l[0].data.toList := rfl
  have hG1 := fun h => datas_get (l := l) (i := 1) h
  have hG2 := fun h => datas_get (l := l) (i := 2) h
  have hG3 := fun h => datas_get (l := l) (i := 3) h
  have hDL := datas_len l
  obtain ⟨lk, hlk⟩ : ∃ lk, lksP (datas l) = lk := ⟨_, rfl⟩
  have hpc : (parsePs (datas l)).c = opOf l[0] := by unfold parsePs; rw [hH0, hcc]
  have hlk2 : lk = (looksC (opOf l[0]) && decide (2 < l.length)) := by rw [← hlk]; unfold lksP; rw [hH0, hcc, hDL]
  have hpy : (parsePs (datas l)).y = if lk then numI ((datas l).getD 1 []) else 0 := by unfold parsePs; rw [hlk]
  have hpn : (parsePs (datas l)).n = if lk then numI ((datas l).getD 2 []) else 0 := by unfold parsePs; rw [hlk]
  have hpk : (parsePs (datas l)).k = if (!noKC (opOf l[0]) && decide ((if lk then 3 else 1) < l.length)) = true then numI ((datas l).getD (if lk then 3 else 1) []) else 0 := by unfold parsePs; rw [hlk, hH0, hcc, hDL]
  rw [hP] at hpc hpy hpn hpk
  simp only at hpc hpy hpn hpk
  have qo := fun W => specOpOf_any l[0] W
  rw [← hpc] at hlk2 hpk qo
  have ql := fun W => l02Looks_any pc W
  have qk := fun W => l02HasK_any pc W
  have HL2 := Lib.hid hlk2
  have HPY := Lib.hid hpy
  have HPN := Lib.hid hpn
  have HPK := Lib.hid hpk
  have HG1 := Lib.hid hG1
  have HG2 := Lib.hid hG2
  have HG3 := Lib.hid hG3
  have QO := Lib.hid qo
  have QL := Lib.hid ql
  have QK := Lib.hid qk
  have HO1 := Lib.hid ho1
  clear qo ql qk hps ho1 hb1 hcc hlk2 hpy hpn hpk hG1 hG2 hG3 hDL hH0 hpc hP hlk
  go_wp2_with fail
  refine (QO.out _).mono ?_
  rintro e w2 ⟨rfl, hb2⟩
  have HB2 := Lib.hid (HB1.out.trans (hb2.mono HB1.out.size))
  have HC2 := Lib.hid (fun (i : Nat) (hi : i < l.length) => (hb2.cell (p := ⟨g, i, none⟩) hgw).trans (HCELL.out i hi))
  clear hb2
  obtain ⟨X, hX⟩ : ∃ X, w2.heap.size = X := ⟨_, rfl⟩
  have hXl : w.heap.size < X := by rw [← hX]; have := HB2.out.size; simp at this; omega
  have hXg : g < X := by rw [← hX]; exact cell_here (HC2.out 0 hl0)
  have hgX : g ≠ X := by omega
  have hx0 := heap_alloc_new w2 (.cells #[.int .i64 pc, .int .i64 0, .int .i64 0, .int .i64 0] 39)
  have HBA := Lib.hid (HB2.out.alloc HB2.out.size (.cells #[.int .i64 pc, .int .i64 0, .int .i64 0, .int .i64 0] 39))
  have HCA := Lib.hid (fun (i : Nat) (hi : i < l.length) => ((show (w2.alloc (.cells #[.int .i64 pc, .int .i64 0, .int .i64 0, .int .i64 0] 39)).cell? ⟨g, i, none⟩ = w2.cell? ⟨g, i, none⟩ from ((Below.refl w2.heap.size w2).alloc (Nat.le_refl _) _).cell (p := ⟨g, i, none⟩) (by simp only; omega)).trans (HC2.out i hi)))
  generalize hwa : w2.alloc (.cells #[.int .i64 pc, .int .i64 0, .int .i64 0, .int .i64 0] 39) = wa at *
  rw [hX] at hx0
  have HX0 := Lib.hid hx0
  have HWA := Lib.hid hwa
  have hxl : X < wa.heap.size := row_here hx0
  clear hx0 hwa
  go_upto_region 4 with fail
  go_cut [20] from 13 to 20 (fun p ws => p = .bool lk ∧ ws = wa)
  case first =>
    obtain ⟨lo, hlo⟩ : ∃ lo, looksC pc = lo := ⟨_, rfl⟩
    have hlk := HL2.out
    rw [hlo] at hlk
    rw [hlo] at QL
    have c0 := row_cell HX0.out 0
    simp only [List.getElem?_toArray, List.getElem?_cons_zero, List.getElem?_cons_succ] at c0
    go_wp2_with fail
    refine (QL.out _).mono ?_
    rintro e w' ⟨rfl, rfl⟩
    cases lo
    case false =>
      have HF := Lib.hid (show lk = false by rw [hlk]; rfl)
      clear hlk
      go_wp2_with fail
      go_meet
      exact ⟨congrArg Value.bool HF.out.symm, HWA.out⟩
    case true =>
      have HF := Lib.hid (show lk = decide (2 < (l.length : Int)) by rw [hlk]; simp; omega)
      clear hlk
      go_wp2_with fail
      go_meet
      exact ⟨congrArg Value.bool HF.out.symm, HWA.out⟩
  case rest =>
  obtain ⟨rfl, hwc⟩ := hcut
  obtain rfl := hwc.symm
  go_upto_if 20 with fail
  go_cut [5] from 20 to 30 (fun p ws => p = .int .i64 ((if lk then 3 else 1 : Nat) : Int) ∧ ws.heap[X]? = some (.cells #[.int .i64 pc, .int .i64 py, .int .i64 pn, .int .i64 0] 39 (0, 0)) ∧ (∀ (i : Nat) (hi : i < l.length), ws.cell? ⟨g, i, none⟩ = some (.string l[i])) ∧ Below (w.alloc (.cells #[.int .i64 0, .int .i64 0, .int .i64 0, .int .i64 0] 39)).heap.size (w.alloc (.cells #[.int .i64 0, .int .i64 0, .int .i64 0, .int .i64 0] 39)) ws)
  case first =>
    cases hlk : lk
    case false =>
      have ey : py = 0 := HPY.out.trans (by rw [hlk]; rfl)
      have en : pn = 0 := HPN.out.trans (by rw [hlk]; rfl)
      have HX1 := HX0.out
      have HA1 := HCA.out
      have HB1 := HBA.out
      subst ey en
      have HX1 := Lib.hid HX1
      have HA1 := Lib.hid HA1
      have HB1 := Lib.hid HB1
      have HLK := Lib.hid hlk
      clear hlk
      go_wp2_with fail
      go_meet
      exact ⟨by rw [HLK.out]; rfl, HX1.out, HA1.out, HB1.out⟩
    case true =>
      have h2 : 2 < l.length := by
        have := HL2.out
        rw [hlk] at this
        simp at this
        exact this.2
      have ey : py = numI ((datas l).getD 1 []) := HPY.out.trans (by rw [hlk]; rfl)
      have en : pn = numI ((datas l).getD 2 []) := HPN.out.trans (by rw [hlk]; rfl)
      rw [HG1.out (by omega)] at ey
      rw [HG2.out (by omega)] at en
      have d1 := HCA.out 1 (by omega)
      have d2 := HCA.out 2 (by omega)
      have q1 := fun W => l02Num_any l[1] W (HSZ.out 1 (by omega))
      have q2 := fun W => l02Num_any l[2] W (HSZ.out 2 (by omega))
      rw [← ey] at q1
      rw [← en] at q2
      have Q1 := Lib.hid q1
      have Q2 := Lib.hid q2
      have c1 := row_cell HX0.out 1
      have f1 := frozen_row HX0.out 1
      have hr1 := row_put HX0.out 1 (.int .i64 py)
      have hr2 := row_put hr1 2 (.int .i64 pn)
      have g1 := row_cell hr1 2
      have gf1 := frozen_row hr1 2
      have gd2 : (wa.setCell ⟨X, 1, none⟩ (.int .i64 py)).cell? ⟨g, 2, none⟩ = some (.string l[2]) := (World.cell?_of_block (heap_setCell_other _ _ _ _ hgX)).trans d2
      simp only [List.setIfInBounds_toArray, List.set_cons_zero, List.set_cons_succ, List.getElem?_toArray, List.getElem?_cons_zero, List.getElem?_cons_succ] at c1 g1 hr2
      have HR2 := Lib.hid hr2
      have HCE := Lib.hid (fun (i : Nat) (hi : i < l.length) => (World.cell?_of_block (w := wa.setCell ⟨X, 1, none⟩ (.int .i64 py)) (heap_setCell_other _ ⟨X, 2, none⟩ _ (.int .i64 pn) hgX)).trans ((World.cell?_of_block (w := wa) (heap_setCell_other _ ⟨X, 1, none⟩ _ (.int .i64 py) hgX)).trans (HCA.out i hi)))
      have HBE := Lib.hid ((HBA.out.setCell (p := ⟨X, 1, none⟩) (show _ ≤ X by simp; omega) (.int .i64 py)).setCell (p := ⟨X, 2, none⟩) (show _ ≤ X by simp; omega) (.int .i64 pn))
      have HLK := Lib.hid hlk
      clear hr1 hr2 q1 q2 ey en hlk
      go_wp2_with fail
      refine (Q1.out _).mono ?_
      rintro e w' ⟨rfl, rfl⟩
      go_wp2_with fail
      refine (Q2.out _).mono ?_
      rintro e w' ⟨rfl, rfl⟩
      go_wp2_with fail
      go_meet
      exact ⟨by rw [HLK.out]; rfl, HR2.out, HCE.out, HBE.out⟩
  case rest =>
  obtain ⟨rfl, hxr, hcr, hbr⟩ := hcut
  have HXR := Lib.hid hxr
  have HCR := Lib.hid hcr
  have HBR := Lib.hid hbr
  have hbx := (HBR.out).size
  obtain ⟨i, hi⟩ : ∃ i : Nat, (if lk then 3 else 1) = i := ⟨_, rfl⟩
  have hpk := HPK.out
  rw [hi] at hpk ⊢
  obtain ⟨nk, hnk⟩ : ∃ nk, noKC pc = nk := ⟨_, rfl⟩
  rw [hnk] at hpk QK
  have c0 := row_cell HXR.out 0
  have c3 := row_cell HXR.out 3
  have f3 := frozen_row HXR.out 3
  simp only [List.getElem?_toArray, List.getElem?_cons_zero, List.getElem?_cons_succ] at c0 c3
  have hr3 := fun v => row_put HXR.out 3 v
  simp only [List.setIfInBounds_toArray, List.set_cons_zero, List.set_cons_succ] at hr3
  have e0 := box_cell HBR.out 0
  have e1 := box_cell HBR.out 1
  have e2 := box_cell HBR.out 2
  have e3 := box_cell HBR.out 3
  have fe0 := box_free HBR.out 0
  have fe1 := box_free HBR.out 1
  have fe2 := box_free HBR.out 2
  have fe3 := box_free HBR.out 3
  simp only [List.getElem?_toArray, List.getElem?_cons_zero, List.getElem?_cons_succ] at e0 e1 e2 e3
  have hXw : X ≠ w.heap.size := by omega
  have hwX : w.heap.size ≠ X := by omega
  have HPK2 := Lib.hid hpk
  have HI := Lib.hid hi
  have HBX := Lib.hid hbx
  have HR3 := Lib.hid hr3
  have HE := Lib.hid (And.intro e0 (And.intro e1 (And.intro e2 (And.intro e3 (And.intro fe0 (And.intro fe1 (And.intro fe2 fe3)))))))
  have HQN := Lib.hid hnk
  clear hpk hi hbx hnk hr3 e0 e1 e2 e3 fe0 fe1 fe2 fe3
  obtain ⟨kk, hkk⟩ : ∃ kk, (!nk && decide (i < l.length)) = kk := ⟨_, rfl⟩
  rw [hkk] at HPK2
  have HKK := Lib.hid hkk
  clear hkk
  go_upto_region 8 with fail
  go_cut [39] from 31 to 39 (fun p ws => p = .bool kk ∧ ws = wc)
  case first =>
    go_wp2_with fail
    refine (QK.out _).mono ?_
    rintro e w' ⟨rfl, rfl⟩
    cases nk
    case true =>
      have HF := Lib.hid (show kk = false by rw [← HKK.out]; rfl)
      go_wp2_with fail
      go_meet
      exact ⟨congrArg Value.bool HF.out.symm, rfl⟩
    case false =>
      have HF := Lib.hid (show kk = decide (i < l.length) by rw [← HKK.out]; simp)
      go_wp2_with fail
      go_meet
      exact ⟨congrArg Value.bool HF.out.symm, rfl⟩
  case rest =>
  obtain ⟨rfl, hwc⟩ := hcut
  obtain rfl := hwc.symm
  go_upto_if 39 with fail
  go_cut [] from 39 to 45 (fun ws => ws.heap[X]? = some (.cells #[.int .i64 pc, .int .i64 py, .int .i64 pn, .int .i64 pk] 39 (0, 0)) ∧ Below (w.alloc (.cells #[.int .i64 0, .int .i64 0, .int .i64 0, .int .i64 0] 39)).heap.size (w.alloc (.cells #[.int .i64 0, .int .i64 0, .int .i64 0, .int .i64 0] 39)) ws)
  case first =>
    cases hkk : kk
    case false =>
      have ek : pk = 0 := HPK2.out.trans (by rw [hkk]; rfl)
      clear hkk
      go_wp2_with fail
      go_meet
      exact ⟨by rw [ek]; exact HXR.out, HBR.out⟩
    case true =>
      have hil : i < l.length := by
        have := HKK.out
        rw [hkk] at this
        simp at this
        exact this.2
      have ek : pk = numI ((datas l).getD i []) := HPK2.out.trans (by rw [hkk]; rfl)
      rw [datas_get hil] at ek
      have di := HCR.out i hil
      have qi := fun W => l02Num_any l[i] W (HSZ.out i hil)
      rw [← ek] at qi
      have QI := Lib.hid qi
      have HXE := Lib.hid (HR3.out (.int .i64 pk))
      have HBE := Lib.hid (HBR.out.setCell (p := ⟨X, 3, none⟩) (show _ ≤ X by simp; omega) (.int .i64 pk))
      clear hkk ek qi
      go_wp2_with fail
      refine (QI.out _).mono ?_
      rintro e w' ⟨rfl, rfl⟩
      go_wp2_with fail
      go_meet
      exact ⟨HXE.out, HBE.out⟩
  case rest =>
  obtain ⟨hxe, hbe⟩ := hcut
  have x0 := row_cell hxe 0
  have x1 := row_cell hxe 1
  have x2 := row_cell hxe 2
  have x3 := row_cell hxe 3
  simp only [List.getElem?_toArray, List.getElem?_cons_zero, List.getElem?_cons_succ] at x0 x1 x2 x3
  have e0 := box_cell hbe 0
  have e1 := box_cell hbe 1
  have e2 := box_cell hbe 2
  have e3 := box_cell hbe 3
  have fe0 := box_free hbe 0
  have fe1 := box_free hbe 1
  have fe2 := box_free hbe 2
  have fe3 := box_free hbe 3
  simp only [List.getElem?_toArray, List.getElem?_cons_zero, List.getElem?_cons_succ] at e0 e1 e2 e3
  have HBE := Lib.hid hbe
  clear hxe hbe
  have hrow : wc.heap[w.heap.size]? = some (.cells #[.int .i64 0, .int .i64 0, .int .i64 0, .int .i64 0] 39 (0, 0)) := (HBE.out.block w.heap.size (by simp)).trans (heap_alloc_new w _)
  have hr4 := row_put (row_put (row_put (row_put hrow 0 (.int .i64 pc)) 1 (.int .i64 py)) 2 (.int .i64 pn)) 3 (.int .i64 pk)
  simp only [List.setIfInBounds_toArray, List.set_cons_zero, List.set_cons_succ] at hr4
  have z0 := row_cell hr4 0
  have z1 := row_cell hr4 1
  have z2 := row_cell hr4 2
  have z3 := row_cell hr4 3
  simp only [List.getElem?_toArray, List.getElem?_cons_zero, List.getElem?_cons_succ] at z0 z1 z2 z3
  have HZ := Lib.hid (And.intro z0 (And.intro z1 (And.intro z2 z3)))
  have HBZ := Lib.hid (((((box_below HBE.out).setCell (p := ⟨w.heap.size, 0, none⟩) (Nat.le_refl _) (.int .i64 pc)).setCell (p := ⟨w.heap.size, 1, none⟩) (Nat.le_refl _) (.int .i64 py)).setCell (p := ⟨w.heap.size, 2, none⟩) (Nat.le_refl _) (.int .i64 pn)).setCell (p := ⟨w.heap.size, 3, none⟩) (Nat.le_refl _) (.int .i64 pk))
  clear hrow hr4 z0 z1 z2 z3
  go_upto_region 10 with fail
  go_wp2_with fail
  obtain ⟨z0, z1, z2, z3⟩ := HZ.out
  exact bodyPost_ret (v := .agg #[.int .i64 pc, .int .i64 py, .int .i64 pn, .int .i64 pk]) (by simp only [results, Tryd.results27]; simp [go_sem, z0, z1, z2, z3]) rfl ⟨rfl, HBZ.out⟩

end Go.Proofs.YtibbcafhchoiiaaDoor

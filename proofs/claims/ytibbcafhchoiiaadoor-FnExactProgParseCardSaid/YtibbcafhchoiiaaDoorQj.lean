/- The program's readInsn. -/
import Derived.Test.YtibbcafhchoiiaaDoorQi
import Derived.Test.YtibbcafhchoiiaaDoorPm
import Derived.Deep.RegionHeld3
set_option maxRecDepth 100000
set_option linter.unusedSimpArgs false
set_option linter.unusedVariables false
namespace Go.Proofs.YtibbcafhchoiiaaDoor
open Go.RowKit

theorem split_datas (s : ByteArray) : datas (Lib.splitB ⟨#[32]⟩ 0 (Lib.countB s ⟨#[32]⟩) s) = cutAt 32 s.data.toList := by
  have h := Lib.splitB_data ⟨#[32]⟩ 0 (Lib.countB s ⟨#[32]⟩) s
  unfold datas
  rw [h]
  exact splitK_cut 32 _ _ (Nat.le_refl _)
theorem cells_at {l : List ByteArray} {i : Nat} (hi : i < l.length) : (l.map Value.string).toArray[i]? = some (.string l[i]) := by simp [hi]
theorem readFs_step {x : Ins} {fs : List Nat} {ts : List (List UInt8)} {j : Nat} (hf : j < fs.length) (ht : j < ts.length) :
    readFs x ((fs.drop j).zip (ts.drop j)) = match numL ts[j] with | some v => readFs (setFld x fs[j] v) ((fs.drop (j + 1)).zip (ts.drop (j + 1))) | none => none := by
  rw [List.drop_eq_getElem_cons hf, List.drop_eq_getElem_cons ht, List.zip_cons_cons]
  rfl
def insC (x : Ins) : Array Value := #[.int .i64 x.c, .int .i64 x.y, .int .i64 x.n, .int .i64 x.k]
theorem setFld_c (x : Ins) (i : Nat) (v : Int) : (setFld x i v).c = x.c := by unfold setFld; split; rfl; split <;> rfl
theorem setFld_put {x : Ins} {i : Nat} (v : Int) (hi : i = 1 ∨ i = 2 ∨ i = 3) : (insC x).setIfInBounds i (.int .i64 v) = insC (setFld x i v) := by
  rcases hi with rfl | rfl | rfl <;> rfl
theorem numL_no {t : List UInt8} (h : numOk t = false) : numL t = none := by unfold numL; rw [h]; rfl
theorem numL_yes {t : List UInt8} (h : numOk t = true) : ∃ v : Nat, numL t = some v ∧ numV t = v := by unfold numL numV; rw [h]; exact ⟨_, rfl, rfl⟩
theorem readPs_bad {ps : List (List UInt8)} (h : badHead ps) : readPs ps = none := by unfold readPs; rw [if_pos h]
def endPs : Option Ins → Option Ins
  | some x => if insRight x = true then some x else none
  | none => none
theorem readPs_fine {ps : List (List UInt8)} (h : ¬ badHead ps) : readPs ps = endPs (readFs ⟨opOfL (ps.headD []), 0, 0, 0⟩ ((fldsI (opOfL (ps.headD []))).zip ps.tail)) := by
  unfold readPs
  rw [if_neg h]
  rfl
theorem cut_count (c : UInt8) : ∀ (n : Nat) (t : List UInt8), t.length ≤ n → (cutAt c t).length = Lib.count t [c] + 1 := by
  intro n
  induction n with
  | zero =>
    intro t ht
    obtain rfl : t = [] := List.eq_nil_of_length_eq_zero (by omega)
    rfl
  | succ n ih =>
    intro t ht
    rcases cut_cases c t with h | ⟨a, r, rfl, h⟩
    · rw [Lib.count_miss (index_miss h), cutAt_miss h]
      rfl
    · have hi := index_at (r := r) h
      have hd : (a ++ c :: r).drop (a.length + 1) = r := by simp
      have hc : Lib.count (a ++ c :: r) [c] = Lib.count r [c] + 1 := by
        have := Lib.count_hit (s := a ++ c :: r) (sub := [c]) (i := a.length) (by simp) hi
        rw [show [c].length = 1 from rfl, hd] at this
        omega
      rw [hc, cutAt_hit h, List.length_cons, ih r (by simp at ht; omega)]
theorem split_length (s : ByteArray) : (Lib.splitB ⟨#[32]⟩ 0 (Lib.countB s ⟨#[32]⟩) s).length = Lib.countB s ⟨#[32]⟩ + 1 := by
  rw [← datas_len, split_datas, cut_count 32 _ _ (Nat.le_refl _)]

theorem box_four {W : World} {B : Nat} {T : TypeId} {a b c d p q r t : Value} (h : W.heap[B]? = some (.cells #[a, b, c, d] T (0, 0))) :
    ((((W.setCell ⟨B, 0, none⟩ p).setCell ⟨B, 1, none⟩ q).setCell ⟨B, 2, none⟩ r).setCell ⟨B, 3, none⟩ t).cell? ⟨B, 0, none⟩ = some p ∧ ((((W.setCell ⟨B, 0, none⟩ p).setCell ⟨B, 1, none⟩ q).setCell ⟨B, 2, none⟩ r).setCell ⟨B, 3, none⟩ t).cell? ⟨B, 1, none⟩ = some q ∧ ((((W.setCell ⟨B, 0, none⟩ p).setCell ⟨B, 1, none⟩ q).setCell ⟨B, 2, none⟩ r).setCell ⟨B, 3, none⟩ t).cell? ⟨B, 2, none⟩ = some r ∧ ((((W.setCell ⟨B, 0, none⟩ p).setCell ⟨B, 1, none⟩ q).setCell ⟨B, 2, none⟩ r).setCell ⟨B, 3, none⟩ t).cell? ⟨B, 3, none⟩ = some t := by
  have hr := row_put (row_put (row_put (row_put h 0 p) 1 q) 2 r) 3 t
  simp only [List.setIfInBounds_toArray, List.set_cons_zero, List.set_cons_succ] at hr
  have z0 := row_cell hr 0
  have z1 := row_cell hr 1
  have z2 := row_cell hr 2
  have z3 := row_cell hr 3
  simp only [List.getElem?_toArray, List.getElem?_cons_zero, List.getElem?_cons_succ] at z0 z1 z2 z3
  exact ⟨z0, z1, z2, z3⟩
theorem keep_box {W : World} {X B : Nat} {a b c d p q r t : Value} (hne : X ≠ B) (h : W.cell? ⟨X, 0, none⟩ = some a ∧ W.cell? ⟨X, 1, none⟩ = some b ∧ W.cell? ⟨X, 2, none⟩ = some c ∧ W.cell? ⟨X, 3, none⟩ = some d) :
    ((((W.setCell ⟨B, 0, none⟩ p).setCell ⟨B, 1, none⟩ q).setCell ⟨B, 2, none⟩ r).setCell ⟨B, 3, none⟩ t).cell? ⟨X, 0, none⟩ = some a ∧ ((((W.setCell ⟨B, 0, none⟩ p).setCell ⟨B, 1, none⟩ q).setCell ⟨B, 2, none⟩ r).setCell ⟨B, 3, none⟩ t).cell? ⟨X, 1, none⟩ = some b ∧ ((((W.setCell ⟨B, 0, none⟩ p).setCell ⟨B, 1, none⟩ q).setCell ⟨B, 2, none⟩ r).setCell ⟨B, 3, none⟩ t).cell? ⟨X, 2, none⟩ = some c ∧ ((((W.setCell ⟨B, 0, none⟩ p).setCell ⟨B, 1, none⟩ q).setCell ⟨B, 2, none⟩ r).setCell ⟨B, 3, none⟩ t).cell? ⟨X, 3, none⟩ = some d := by
  have key : ∀ i, ((((W.setCell ⟨B, 0, none⟩ p).setCell ⟨B, 1, none⟩ q).setCell ⟨B, 2, none⟩ r).setCell ⟨B, 3, none⟩ t).cell? ⟨X, i, none⟩ = W.cell? ⟨X, i, none⟩ := fun i =>
    World.cell?_of_block (by
      rw [heap_setCell_other _ ⟨B, 3, none⟩ X _ hne, heap_setCell_other _ ⟨B, 2, none⟩ X _ hne, heap_setCell_other _ ⟨B, 1, none⟩ X _ hne, heap_setCell_other _ ⟨B, 0, none⟩ X _ hne])
  exact ⟨(key 0).trans h.1, (key 1).trans h.2.1, (key 2).trans h.2.2.1, (key 3).trans h.2.2.2⟩

set_option maxHeartbeats 6400000 in
theorem readInsn_any (s : ByteArray) (m : Int) (w : World) (hs : s.size ≤ 1000000) (hm : w.cell? ⟨1, 0, none⟩ = some (.int .i64 m)) (h1 : 1 < w.heap.size) :
    Calls Tryd.prog 29 #[.string s] w fun e w' => ∃ (x : Ins) (b : Bool), e = .returned (.tuple #[.agg #[.int .i64 x.c, .int .i64 x.y, .int .i64 x.n, .int .i64 x.k], .bool b]) ∧ ((b = true ∧ readPs (cutAt 32 s.data.toList) = some x) ∨ (b = false ∧ readPs (cutAt 32 s.data.toList) = none)) ∧ Below w.heap.size w w' := by
  have hd := split_datas s
  have hlen : (Lib.splitB ⟨#[32]⟩ 0 (Lib.countB s ⟨#[32]⟩) s).length = Lib.countB s ⟨#[32]⟩ + 1 := split_length s
  have qs := fun W hm => Tryd.strings_Split s ⟨#[32]⟩ m W (by omega) hm (by decide)
  have hne := cutAt_ne 32 s.data.toList
  rw [← hlen] at qs
  have hsz : ∀ (i : Nat) (hi : i < (Lib.splitB ⟨#[32]⟩ 0 (Lib.countB s ⟨#[32]⟩) s).length), (Lib.splitB ⟨#[32]⟩ 0 (Lib.countB s ⟨#[32]⟩) s)[i].size ≤ 1000000 := fun i hi => Nat.le_trans (pieces_le hd hi) hs
  have hbig : (Lib.splitB ⟨#[32]⟩ 0 (Lib.countB s ⟨#[32]⟩) s).length ≤ 1000001 := by
    rw [hlen]
    have := Lib.countB_le ⟨#[32]⟩ (by decide) s.size s (Nat.le_refl _)
    omega
  rw [← hd]
  clear hlen
  generalize Lib.splitB ⟨#[32]⟩ 0 (Lib.countB s ⟨#[32]⟩) s = P at *
  have hl0 : 0 < P.length := by
    rcases Nat.eq_zero_or_pos P.length with h | h
    · exact absurd (by rw [← hd, List.eq_nil_of_length_eq_zero h]; rfl) hne
    · exact h
  clear hd hne
  have hH0 := datas_head hl0
  have hDL := datas_len P
  have hcc : opOf P[0] = opOfL P[0].data.toList := rfl
  have hbad : badHead (datas P) ↔ (opOf P[0] < 0 ∨ P.length ≠ 1 + (fldsI (opOf P[0])).length) := by unfold badHead; rw [hH0, hDL, hcc]
  have hfine : ¬ badHead (datas P) → readPs (datas P) = endPs (readFs ⟨opOf P[0], 0, 0, 0⟩ ((fldsI (opOf P[0])).zip (datas P).tail)) := by
    intro h
    have := readPs_fine h
    rw [hH0, ← hcc] at this
    exact this
  have hno := fun h => readPs_bad (ps := datas P) h
  have htl : ∀ (j : Nat) (hj : 1 + j < P.length), (datas P).tail[j]? = some P[1 + j].data.toList := by
    intro j hj
    rw [List.getElem?_tail, Nat.add_comm j 1]
    unfold datas
    rw [List.getElem?_map, List.getElem?_eq_getElem hj]
    rfl
  have htn : (datas P).tail.length = P.length - 1 := by rw [List.length_tail, hDL]
  have qo := fun W => codeOfOp_any P[0] W
  obtain ⟨c, hc⟩ : ∃ c, opOf P[0] = c := ⟨_, rfl⟩
  obtain ⟨ts, hts⟩ : ∃ ts, (datas P).tail = ts := ⟨_, rfl⟩
  obtain ⟨fs, hfs⟩ : ∃ fs, fldsI c = fs := ⟨_, rfl⟩
  have hm3 := flds_length c
  have hin3 := fun i (hi : i ∈ fldsI c) => flds_in hi
  have qsh := fun X W hc' hX => shown_any X c W hc' hX
  simp only [hc, hts, hfs] at hbad hfine htl htn qo hm3 hin3 qsh
  obtain ⟨R, hR⟩ : ∃ R, readPs (datas P) = R := ⟨_, rfl⟩
  simp only [hR] at hfine hno
  rw [hR]
  have HNO := Lib.hid (fun h => hno (hbad.2 h))
  have HFI := Lib.hid (fun (h : ¬ (c < 0 ∨ P.length ≠ 1 + fs.length)) => hfine (fun h' => h (hbad.1 h')))
  have HTL := Lib.hid htl
  have HIN := Lib.hid hin3
  have QS := Lib.hid qs
  have QO := Lib.hid qo
  have QSH := Lib.hid qsh
  have HSZ := Lib.hid hsz
  have HM := Lib.hid hm
  clear hH0 hDL hcc hbad hfine hno htl qo qs qsh hsz hin3 hc hts hfs hR hm
  go_enter Tryd.func29, Tryd.ntmps29
  go_wp2_with fail
  have hb0 := (Below.refl w.heap.size w).alloc (Nat.le_refl _) (.cells #[.int .i64 0, .int .i64 0, .int .i64 0, .int .i64 0] 39)
  refine (QS.out _ ((hb0.cell (p := ⟨1, 0, none⟩) h1).trans HM.out)).mono ?_
  rintro e w1 ⟨rfl, hw1⟩
  have hrow1 : w1.heap[(w.alloc (.cells #[.int .i64 0, .int .i64 0, .int .i64 0, .int .i64 0] 39)).heap.size]? = some (.cells (P.map Value.string).toArray 9 (0, 0)) := by rw [hw1]; exact heap_alloc_new _ _
  have hb1 : Below (w.alloc (.cells #[.int .i64 0, .int .i64 0, .int .i64 0, .int .i64 0] 39)).heap.size (w.alloc (.cells #[.int .i64 0, .int .i64 0, .int .i64 0, .int .i64 0] 39)) w1 := by rw [hw1]; exact (Below.refl _ _).alloc (Nat.le_refl _) _
  obtain ⟨g, hg⟩ : ∃ g, (w.alloc (.cells #[.int .i64 0, .int .i64 0, .int .i64 0, .int .i64 0] 39)).heap.size = g := ⟨_, rfl⟩
  rw [hg] at hrow1
  have hgw : w.heap.size < g := by rw [← hg]; simp
  have d0 := (row_cell hrow1 0).trans (cells_at hl0)
  have HB1 := Lib.hid hb1
  have HR1 := Lib.hid hrow1
  have HG := Lib.hid hg
  clear hb1 hrow1 hw1 hb0
  go_wp2_with fail
  refine (QO.out _).mono ?_
  rintro e w2 ⟨rfl, hb2⟩
  have hg2 := (hb2.block g (by rw [← HG.out]; exact row_here (HG.out ▸ HR1.out))).trans HR1.out
  have HG2 := Lib.hid hg2
  have HB2 := Lib.hid (HB1.out.trans (hb2.mono HB1.out.size))
  have hgl2 : g < w2.heap.size := row_here hg2
  clear hb2 hg2
  obtain ⟨X, hX⟩ : ∃ X, w2.heap.size = X := ⟨_, rfl⟩
  have hgX : g < X := by omega
  have hx0 := heap_alloc_new w2 (.cells #[.int .i64 c, .int .i64 0, .int .i64 0, .int .i64 0] 39)
  have hba := HB2.out.alloc HB2.out.size (.cells #[.int .i64 c, .int .i64 0, .int .i64 0, .int .i64 0] 39)
  have hga := row_alloc HG2.out (.cells #[.int .i64 c, .int .i64 0, .int .i64 0, .int .i64 0] 39)
  rw [hX] at hx0
  have hcx := row_cell hx0 0
  simp only [List.getElem?_toArray, List.getElem?_cons_zero] at hcx
  have hxl := row_here hx0
  have HX0 := Lib.hid hx0
  have HBA := Lib.hid hba
  have HGA := Lib.hid hga
  clear hx0 hba hga
  go_wp2_with fail
  refine (QSH.out X _ hcx hxl).mono ?_
  rintro e w3 ⟨u, rfl, ho3, hb3⟩
  have hx3 := (hb3.block X hxl).trans HX0.out
  have hg3 := (hb3.block g (row_here HGA.out)).trans HGA.out
  have hB3 := HBA.out.trans (hb3.mono HBA.out.size)
  obtain ⟨ua, ucap, rfl⟩ := OwnL.slice ho3
  obtain ⟨_, _, e, hum1, hum2, _⟩ := PtrOwn.at_ (B := X) ho3 hxl
  obtain ⟨rfl, rfl⟩ : ua = _ ∧ ucap = _ := by injection e with e1 e2 e3; exact ⟨e1, e3⟩
  unfold maxLen at hum2
  have HO3 := Lib.hid ho3
  have HX3 := Lib.hid hx3
  have HG3 := Lib.hid hg3
  have HB3 := Lib.hid hB3
  have c0 := (row_cell hx3 0)
  simp only [List.getElem?_toArray, List.getElem?_cons_zero] at c0
  have e0 := box_cell hB3 0
  have e1 := box_cell hB3 1
  have e2 := box_cell hB3 2
  have e3 := box_cell hB3 3
  have fe0 := box_free hB3 0
  have fe1 := box_free hB3 1
  have fe2 := box_free hB3 2
  have fe3 := box_free hB3 3
  simp only [List.getElem?_toArray, List.getElem?_cons_zero, List.getElem?_cons_succ] at e0 e1 e2 e3
  clear ho3 hb3 hx3 hg3 hB3 hcx
  have HE := Lib.hid (And.intro e0 (And.intro e1 (And.intro e2 (And.intro e3 (And.intro fe0 (And.intro fe1 (And.intro fe2 fe3)))))))
  by_cases hneg : c < 0
  · have HN := Lib.hid (HNO.out (.inl hneg))
    go_wp2_with fail
    exact bodyPost_ret (v := .tuple #[.agg #[.int .i64 0, .int .i64 0, .int .i64 0, .int .i64 0], .bool false]) (by simp [results, Tryd.results29, go_sem, e0, e1, e2, e3]) rfl
      ⟨⟨0, 0, 0, 0⟩, false, rfl, .inr ⟨rfl, HN.out⟩, ((((box_below HB3.out).setCell (p := ⟨w.heap.size, 0, none⟩) (Nat.le_refl _) _).setCell (p := ⟨w.heap.size, 1, none⟩) (Nat.le_refl _) _).setCell (p := ⟨w.heap.size, 2, none⟩) (Nat.le_refl _) _).setCell (p := ⟨w.heap.size, 3, none⟩) (Nat.le_refl _) _⟩
  by_cases hln : P.length ≠ 1 + fs.length
  · have HN := Lib.hid (HNO.out (.inr hln))
    have hq : ((P.length : Int) != 1 + (fs.length : Int)) = true := by simp; omega
    go_wp2_with fail
    exact bodyPost_ret (v := .tuple #[.agg #[.int .i64 0, .int .i64 0, .int .i64 0, .int .i64 0], .bool false]) (by simp [results, Tryd.results29, go_sem, e0, e1, e2, e3]) rfl
      ⟨⟨0, 0, 0, 0⟩, false, rfl, .inr ⟨rfl, HN.out⟩, ((((box_below HB3.out).setCell (p := ⟨w.heap.size, 0, none⟩) (Nat.le_refl _) _).setCell (p := ⟨w.heap.size, 1, none⟩) (Nat.le_refl _) _).setCell (p := ⟨w.heap.size, 2, none⟩) (Nat.le_refl _) _).setCell (p := ⟨w.heap.size, 3, none⟩) (Nat.le_refl _) _⟩
  have hln' : P.length = 1 + fs.length := by omega
  have hq : ((P.length : Int) != 1 + (fs.length : Int)) = false := by simp; omega
  have HF := Lib.hid (HFI.out (by intro h; rcases h with h | h <;> omega))
  have hzero : insC ⟨c, 0, 0, 0⟩ = #[.int .i64 c, .int .i64 0, .int .i64 0, .int .i64 0] := rfl
  rw [← hzero] at HX3
  clear hzero hln e0 e1 e2 e3 fe0 fe1 fe2 fe3
  go_wp2_with fail
  go_loopw [33] (fun q wr => ∃ (j : Nat) (x : Ins), j ≤ fs.length ∧ q = .int .i64 j ∧ readFs ⟨c, 0, 0, 0⟩ (fs.zip ts) = readFs x ((fs.drop j).zip (ts.drop j)) ∧ wr.heap[X]? = some (.cells (insC x) 39 (0, 0)) ∧ wr.heap[g]? = some (.cells (P.map Value.string).toArray 9 (0, 0)) ∧ PtrOwn X (X + 1) wr (.slice ua fs.length ucap) fs ∧ Below (w.alloc (.cells #[.int .i64 0, .int .i64 0, .int .i64 0, .int .i64 0] 39)).heap.size (w.alloc (.cells #[.int .i64 0, .int .i64 0, .int .i64 0, .int .i64 0] 39)) wr) (fun q _ => fs.length - (intOf q).toNat)
  case atStart => exact ⟨0, ⟨c, 0, 0, 0⟩, by omega, rfl, rfl, HX3.out, HG3.out, by have := HO3.out; rw [World.size_alloc, hX] at this; exact this, HB3.out⟩
  case round =>
    obtain ⟨j, x, hj, rfl, hrd, hxr, hgr, hpr, hbr⟩ := hrel
    have HRD := Lib.hid hrd
    have HXR := Lib.hid hxr
    have HGR := Lib.hid hgr
    have HPR := Lib.hid hpr
    have HBR := Lib.hid hbr
    clear hrd hxr hgr hpr hbr
    by_cases hjl : j < fs.length
    · obtain ⟨_, _, _, _, _, hpp⟩ := PtrOwn.at_ (B := X) HPR.out (by omega)
      obtain ⟨gp, cur, e, hgp, hgc, hgj⟩ := hpp j _ (List.getElem?_eq_getElem hjl)
      have hcellp : wr.cell? ⟨gp, j, none⟩ = some (.pointer (some ⟨X, fs[j], none⟩)) := (row_cell hgc j).trans hgj
      have hfi := HIN.out fs[j] (List.getElem_mem hjl)
      have fc := field_cell (x := x) HXR.out hfi
      have ff := frozen_row HXR.out fs[j]
      have hj1 : 1 + j < P.length := by omega
      have dj := (row_cell HGR.out (1 + j)).trans (cells_at hj1)
      have qd := fun W => readDigits_any P[1 + j] W (HSZ.out _ hj1)
      have htj := HTL.out j hj1
      have hjt : j < ts.length := by
        rcases Nat.lt_or_ge j ts.length with h | h
        · exact h
        · rw [List.getElem?_eq_none h] at htj; cases htj
      have hst := readFs_step (x := x) hjl hjt
      rw [List.getElem?_eq_getElem hjt] at htj
      rw [Option.some.inj htj] at hst
      have hput := fun v => setFld_put (x := x) (i := fs[j]) v hfi
      obtain ⟨q, hq2⟩ : ∃ q, q = P[1 + j] := ⟨_, rfl⟩
      rw [← hq2] at dj qd hst htj
      clear hq2
      have hown := fun v => OwnL.setBelow HPR.out (a := ⟨X, fs[j], none⟩) (by simp) v
      have hrow := fun v => row_put HXR.out fs[j] v
      have hoth := fun v => row_other HGR.out (h := X) fs[j] v (by omega)
      have hbel := fun v => HBR.out.setCell (p := ⟨X, fs[j], none⟩) (by simp; omega) v
      generalize fs[j] = fi at *
      subst e
      cases hok : numOk q.data.toList with
      | false =>
        rw [hok] at qd
        have QD := Lib.hid qd
        have HN := Lib.hid (show R = none by rw [HF.out, HRD.out, hst, numL_no hok]; rfl)
        have e0 := box_cell HBR.out 0
        have e1 := box_cell HBR.out 1
        have e2 := box_cell HBR.out 2
        have e3 := box_cell HBR.out 3
        have fe0 := box_free HBR.out 0
        have fe1 := box_free HBR.out 1
        have fe2 := box_free HBR.out 2
        have fe3 := box_free HBR.out 3
        simp only [List.getElem?_toArray, List.getElem?_cons_zero, List.getElem?_cons_succ] at e0 e1 e2 e3
        clear qd hst hok htj hput hown hrow hoth hbel fc ff hpp hgj hgc
        go_wp2_with fail
        refine (QD.out _).mono ?_
        rintro e w' ⟨rfl, rfl⟩
        go_wp2_with fail
        exact bodyPost_ret (v := .tuple #[.agg #[.int .i64 0, .int .i64 0, .int .i64 0, .int .i64 0], .bool false]) (by simp [results, Tryd.results29, go_sem, e0, e1, e2, e3]) rfl
          ⟨⟨0, 0, 0, 0⟩, false, rfl, .inr ⟨rfl, HN.out⟩, ((((box_below HBR.out).setCell (p := ⟨w.heap.size, 0, none⟩) (Nat.le_refl _) _).setCell (p := ⟨w.heap.size, 1, none⟩) (Nat.le_refl _) _).setCell (p := ⟨w.heap.size, 2, none⟩) (Nat.le_refl _) _).setCell (p := ⟨w.heap.size, 3, none⟩) (Nat.le_refl _) _⟩
      | true =>
        obtain ⟨v, hv1, hv2⟩ := numL_yes hok
        rw [hok, hv2] at qd
        rw [hv1] at hst
        have HST := Lib.hid (HRD.out.trans hst)
        have QD := Lib.hid qd
        have HOW := Lib.hid (hown (.int .i64 v))
        have HRO := Lib.hid (show (wr.setCell ⟨X, fi, none⟩ (.int .i64 v)).heap[X]? = some (.cells (insC (setFld x fi v)) 39 (0, 0)) by rw [hrow, hput])
        have HOT := Lib.hid (hoth (.int .i64 v))
        have HBE := Lib.hid (hbel (.int .i64 v))
        clear qd hst hok htj hput hown hrow hoth hbel hpp hgj hgc hv1 hv2
        go_wp2_with fail
        refine (QD.out _).mono ?_
        rintro e w' ⟨rfl, rfl⟩
        go_wp2_with fail
        go_roundw
        case rel => exact ⟨j + 1, setFld x fi v, by omega, by go_num, HST.out, HRO.out, HOT.out, HOW.out, HBE.out⟩
        case measure => simp [intOf]; omega
    · have hj2 : fs.length ≤ j := by omega
      have HN := Lib.hid (show R = endPs (some x) by rw [HF.out, HRD.out, List.drop_eq_nil_of_le hj2]; rfl)
      have x0 := row_cell HXR.out 0
      have x1 := row_cell HXR.out 1
      have x2 := row_cell HXR.out 2
      have x3 := row_cell HXR.out 3
      unfold insC at x0 x1 x2 x3
      obtain ⟨xc, xy, xn, xk⟩ := x
      simp only [List.getElem?_toArray, List.getElem?_cons_zero, List.getElem?_cons_succ] at x0 x1 x2 x3
      have qr := fun W => isRight_impl xc xy xn xk W
      have QR := Lib.hid qr
      clear qr
      have hkeep : ∀ w' : World, Below wr.heap.size wr w' → (w'.cell? ⟨X, 0, none⟩ = some (.int .i64 xc) ∧ w'.cell? ⟨X, 1, none⟩ = some (.int .i64 xy) ∧ w'.cell? ⟨X, 2, none⟩ = some (.int .i64 xn) ∧ w'.cell? ⟨X, 3, none⟩ = some (.int .i64 xk)) := fun w' hb' =>
        ⟨(hb'.cell (row_here HXR.out)).trans x0, (hb'.cell (row_here HXR.out)).trans x1, (hb'.cell (row_here HXR.out)).trans x2, (hb'.cell (row_here HXR.out)).trans x3⟩
      have HKP := Lib.hid hkeep
      have hbw1 := (Below.refl wr.heap.size wr).drew
      have hXw : X ≠ w.heap.size := by omega
      have HBX := Lib.hid (fun w' (hb' : Below wr.heap.size wr w') => HBR.out.trans (hb'.mono HBR.out.size))
      clear hkeep x0 x1 x2 x3
      go_wp2_with fail
      go_region_held3 (fun w' => w'.cell? ⟨X, 0, none⟩ = some (.int .i64 xc) ∧ w'.cell? ⟨X, 1, none⟩ = some (.int .i64 xy) ∧ w'.cell? ⟨X, 2, none⟩ = some (.int .i64 xn) ∧ w'.cell? ⟨X, 3, none⟩ = some (.int .i64 xk))
        (first | exact HKP.out _ hbw2 | exact HKP.out _ hbw1 | exact keep_box hXw (HKP.out _ hbw2) | go_keep)
        (first
          | (go_at_call 37; (with_reducible refine (QR.out _).mono ?_); rintro e w2' ⟨rfl, hb2⟩; have hbw2 := hbw1.trans (hb2.mono hbw1.size); have e0 := box_cell (HBX.out _ hbw2) 0; have e1 := box_cell (HBX.out _ hbw2) 1; have e2 := box_cell (HBX.out _ hbw2) 2; have e3 := box_cell (HBX.out _ hbw2) 3; have fe0 := box_free (HBX.out _ hbw2) 0; have fe1 := box_free (HBX.out _ hbw2) 1; have fe2 := box_free (HBX.out _ hbw2) 2; have fe3 := box_free (HBX.out _ hbw2) 3; simp only [List.getElem?_toArray, List.getElem?_cons_zero, List.getElem?_cons_succ] at e0 e1 e2 e3))
      all_goals
        have hbz := HBX.out _ hbw2
        obtain ⟨z0, z1, z2, z3⟩ := box_four (W := w2') (B := w.heap.size) (p := .int .i64 xc) (q := .int .i64 xy) (r := .int .i64 xn) (t := .int .i64 xk) ((hbz.block w.heap.size (by simp)).trans (heap_alloc_new w _))
        have HZ := Lib.hid (And.intro z0 (And.intro z1 (And.intro z2 z3)))
        have HBZ := Lib.hid (((((box_below hbz).setCell (p := ⟨w.heap.size, 0, none⟩) (Nat.le_refl _) (.int .i64 xc)).setCell (p := ⟨w.heap.size, 1, none⟩) (Nat.le_refl _) (.int .i64 xy)).setCell (p := ⟨w.heap.size, 2, none⟩) (Nat.le_refl _) (.int .i64 xn)).setCell (p := ⟨w.heap.size, 3, none⟩) (Nat.le_refl _) (.int .i64 xk))
        clear hbz z0 z1 z2 z3 e0 e1 e2 e3
        go_wp2_with fail
        obtain ⟨z0, z1, z2, z3⟩ := HZ.out
        exact bodyPost_ret (v := .tuple #[.agg #[.int .i64 xc, .int .i64 xy, .int .i64 xn, .int .i64 xk], .bool (insRight ⟨xc, xy, xn, xk⟩)]) (by simp only [results, Tryd.results29]; simp [go_sem, z0, z1, z2, z3]) rfl
          ⟨⟨xc, xy, xn, xk⟩, insRight ⟨xc, xy, xn, xk⟩, rfl, by
            cases hir : insRight ⟨xc, xy, xn, xk⟩
            · exact .inr ⟨rfl, by rw [HN.out]; simp [endPs, hir]⟩
            · exact .inl ⟨rfl, by rw [HN.out]; simp [endPs, hir]⟩, HBZ.out⟩

end Go.Proofs.YtibbcafhchoiiaaDoor

/- ProgParse of the program. -/
import Derived.Test.YtibbcafhchoiiaaDoorQj
import Derived.Test.YtibbcafhchoiiaaDoorQp
set_option maxRecDepth 100000
set_option linter.unusedSimpArgs false
set_option linter.unusedVariables false
namespace Go.Proofs.YtibbcafhchoiiaaDoor
open Go.RowKit

theorem fail_miss {t r : List UInt8} {d : List Ins} (h : t = textB d ++ r) (hd : ∀ x ∈ d, okIns x) (hne : r ≠ []) (hm : 10 ∉ r) : ∀ l', ¬ VT t l' := by
  rintro l' ⟨e, _, hl⟩
  obtain ⟨m, rfl, hr⟩ := text_prefix hd hl (h.symm.trans e)
  cases m with
  | nil => exact hne hr
  | cons x m =>
    rw [textB_cons] at hr
    exact hm (by rw [hr]; simp)
theorem fail_line {t a r : List UInt8} {d : List Ins} (h : t = textB d ++ (a ++ 10 :: r)) (hd : ∀ x ∈ d, okIns x) (ha : 10 ∉ a) (hn : readPs (cutAt 32 a) = none) : ∀ l', ¬ VT t l' := by
  rintro l' ⟨e, _, hl⟩
  obtain ⟨m, rfl, hr⟩ := text_prefix hd hl (h.symm.trans e)
  cases m with
  | nil => simp [textB] at hr
  | cons x m =>
    have hx := hl x (by simp)
    rw [textB_cons] at hr
    obtain ⟨h1, _⟩ := split_ten ha (line_no10 hx.1) hr
    rw [h1, line_read hx.1 hx.2.1 hx.2.2] at hn
    cases hn
theorem fail_full {t r : List UInt8} {d : List Ins} (h : t = textB d ++ r) (hd : ∀ x ∈ d, okIns x) (hne : r ≠ []) (hf : 400 ≤ d.length) : ∀ l', ¬ VT t l' := by
  rintro l' ⟨e, h4, hl⟩
  obtain ⟨m, rfl, hr⟩ := text_prefix hd hl (h.symm.trans e)
  cases m with
  | nil => exact hne hr
  | cons x m => simp at h4; omega
theorem textB_snoc (d : List Ins) (x : Ins) : textB (d ++ [x]) = textB d ++ (lineB x ++ [10]) := by simp [textB]

def strSize : Value → Nat
  | .string b => b.data.toList.length
  | _ => 0
theorem below_drawn {B : Nat} {a w : World} (h : Below B a w) (n : Nat) : Below B a (w.drewN n) := by
  induction n with
  | zero => exact h
  | succ n ih => exact ih.drew
theorem str_empty {r : ByteArray} : r.toList.isEmpty = decide (r.data.toList = []) := by
  rw [Lib.toList_data]
  cases r.data.toList <;> simp

set_option maxHeartbeats 6400000 in
theorem implProgParse_any (s : ByteArray) (m : Int) (w : World) (hs : s.size ≤ maxLen) (hm : w.cell? ⟨1, 0, none⟩ = some (.int .i64 m)) (h1 : 1 < w.heap.size) :
    Calls Tryd.prog 11 #[.string s] w (ParseEnd w.heap.size s.data.toList w) := by
  unfold maxLen at hs
  have hsz : s.data.toList.length = s.size := Array.length_toList
  have HSZ := Lib.hid hsz
  have HM := Lib.hid hm
  clear hsz hm
  by_cases h8 : 8000 < s.size
  · have hd : decide (8000 < (s.size : Int)) = true := by simp; omega
    go_enter Tryd.func11, Tryd.ntmps11
    go_wp2
    exact bodyPost_ret (v := .agg #[.slice none 0 0, .int .i64 2, .int .i64 0]) (by simp [results, Tryd.results11, go_sem]) rfl ⟨[], 2, _, .inl ⟨by rw [HSZ.out]; exact h8, rfl, rfl⟩, rfl, InsOwn.nil _ _, (Below.refl _ _).alloc (Nat.le_refl _) _⟩
  have hd : decide (8000 < (s.size : Int)) = false := by simp; omega
  go_enter Tryd.func11, Tryd.ntmps11
  go_wp2_with fail
  go_loopw [0, 3] (fun t v wr => ∃ (r : ByteArray) (d : List Ins), t = .string r ∧ s.data.toList = textB d ++ r.data.toList ∧ (∀ x ∈ d, okIns x) ∧ d.length ≤ 400 ∧ InsOwn (w.heap.size + 1) wr v d ∧ Below (w.alloc (.cells #[.slice none 0 0, .int .i64 0, .int .i64 0] 30)).heap.size (w.alloc (.cells #[.slice none 0 0, .int .i64 0, .int .i64 0] 30)) wr)
    (fun t _ _ => strSize t)
  case atStart => exact ⟨s, [], rfl, by simp [textB], by simp, by simp, InsOwn.nil _ _, Below.refl _ _⟩
  case round =>
    obtain ⟨r, d, rfl, ht, hok, hd4, hown, hbw⟩ := hrel
    have hrs : r.size ≤ 8000 := by
      have h2 := congrArg List.length ht
      rw [HSZ.out, List.length_append] at h2
      have h3 : r.data.toList.length = r.size := Array.length_toList
      omega
    have hsz := hbw.size
    simp only [World.size_alloc] at hsz
    have HT := Lib.hid ht
    have HOK := Lib.hid hok
    have HO := Lib.hid hown
    have HB := Lib.hid hbw
    have HMR := Lib.hid ((hbw.cell (p := ⟨1, 0, none⟩) (by simp; omega)).trans ((((Below.refl w.heap.size w).alloc (Nat.le_refl _) _).cell (p := ⟨1, 0, none⟩) h1).trans HM.out))
    clear ht hok hown hbw
    by_cases hre : r.data.toList = []
    · have hem : r.toList.isEmpty = true := by rw [str_empty]; simp [hre]
      have HV := Lib.hid (show VT s.data.toList d from ⟨by rw [HT.out, hre, List.append_nil], hd4, HOK.out⟩)
      obtain ⟨a3, cap3, rfl⟩ := HO.out.slice
      have c0 := box_cell HB.out 0
      have c1 := box_cell HB.out 1
      have c2 := box_cell HB.out 2
      have f0 := box_free HB.out 0
      have f1 := box_free HB.out 1
      have f2 := box_free HB.out 2
      simp only [List.getElem?_toArray, List.getElem?_cons_zero, List.getElem?_cons_succ] at c0 c1 c2
      clear hre
      go_wp2_with fail
      exact bodyPost_ret (v := .agg #[.slice a3 d.length cap3, .int .i64 0, .int .i64 0]) (by simp [results, Tryd.results11, go_sem, c0, c1, c2]) rfl
        ⟨d, 0, _, .inr ⟨by rw [HSZ.out]; omega, .inl ⟨rfl, HV.out⟩⟩, rfl, (((HO.out.setBelow (by simp) _).setBelow (by simp) _).setBelow (by simp) _).base (by omega),
          (((box_below HB.out).setCell (p := ⟨w.heap.size, 0, none⟩) (Nat.le_refl _) _).setCell (p := ⟨w.heap.size, 1, none⟩) (Nat.le_refl _) _).setCell (p := ⟨w.heap.size, 2, none⟩) (Nat.le_refl _) _⟩
    · have hem : r.toList.isEmpty = false := by rw [str_empty]; simp [hre]
      have HNE := Lib.hid hre
      have qc := Tryd.strings_Cut r ⟨#[10]⟩ m wr (by omega) HMR.out
      clear hre
      rcases cut_cases 10 r.data.toList with hmiss | ⟨a, q, hq, ha⟩
      · have e1 : Lib.cut r.data.toList (⟨#[10]⟩ : ByteArray).data.toList = (r.data.toList, [], false) := cut_miss hmiss
        rw [e1] at qc
        have HZR := Lib.hid (show (⟨r.data.toList.toArray⟩ : ByteArray).size ≤ 1000000 from Nat.le_trans hrs (by omega))
        have HF := Lib.hid (fail_miss HT.out HOK.out HNE.out hmiss)
        have QC := Lib.hid qc
        clear qc e1 hmiss
        go_wp2_with fail
        refine QC.out.mono ?_
        rintro e w1 ⟨rfl, nn, hw1⟩
        have hb1 : Below wr.heap.size wr w1 := by rw [hw1]; exact below_drawn (Below.refl _ _) _
        have HB1 := Lib.hid (HB.out.trans (hb1.mono HB.out.size))
        have HO1 := Lib.hid (HO.out.below hb1)
        have hm1 := (hb1.cell (p := ⟨1, 0, none⟩) (by simp only; omega)).trans HMR.out
        have h11 : 1 < w1.heap.size := by have := hb1.size; omega
        have qr := readInsn_any ⟨r.data.toList.toArray⟩ m w1 (HZR.out) hm1 h11
        have QR := Lib.hid qr
        clear hw1 hb1 qr hm1
        go_wp2_with fail
        refine QR.out.mono ?_
        rintro e w2 ⟨x, b, rfl, hres, hb2⟩
        have HO2 := Lib.hid (HO1.out.below hb2)
        have HB2 := Lib.hid (HB1.out.trans (hb2.mono HB1.out.size))
        obtain ⟨xc, xy, xn, xk⟩ := x
        simp only
        clear hb2
        have HB3 := Lib.hid (HB2.out.alloc HB2.out.size (.cells #[.int .i64 xc, .int .i64 xy, .int .i64 xn, .int .i64 xk] 39))
        have c0 := box_cell HB3.out 0
        have c1 := box_cell HB3.out 1
        have c2 := box_cell HB3.out 2
        have f0 := box_free HB3.out 0
        have f1 := box_free HB3.out 1
        have f2 := box_free HB3.out 2
        simp only [List.getElem?_toArray, List.getElem?_cons_zero, List.getElem?_cons_succ] at c0 c1 c2
        go_wp2_with fail
        exact bodyPost_ret (v := .agg #[.slice none 0 0, .int .i64 3, .int .i64 0]) (by simp [results, Tryd.results11, go_sem, c0, c1, c2]) rfl
          ⟨[], 3, _, .inr ⟨by rw [HSZ.out]; omega, .inr ⟨rfl, rfl, HF.out⟩⟩, rfl, InsOwn.nil _ _,
            (((box_below HB3.out).setCell (p := ⟨w.heap.size, 0, none⟩) (Nat.le_refl _) _).setCell (p := ⟨w.heap.size, 1, none⟩) (Nat.le_refl _) _).setCell (p := ⟨w.heap.size, 2, none⟩) (Nat.le_refl _) _⟩
      · have e1 : Lib.cut r.data.toList (⟨#[10]⟩ : ByteArray).data.toList = (a, q, true) := by rw [hq]; exact cut_at ha
        rw [e1] at qc
        have HT2 := Lib.hid (HT.out.trans (by rw [hq]))
        have hal := congrArg List.length hq
        rw [List.length_append, List.length_cons] at hal
        have hrl : r.data.toList.length = r.size := Array.length_toList
        have HZR := Lib.hid (show (⟨a.toArray⟩ : ByteArray).size ≤ 1000000 from by
          show a.toArray.size ≤ _
          rw [List.size_toArray]
          omega)
        have HQL := Lib.hid (show strSize (.string ⟨q.toArray⟩) < strSize (.string r) by simp only [strSize]; omega)
        have HA := Lib.hid ha
        have QC := Lib.hid qc
        clear qc e1 hq ha hal hrl
        go_wp2_with fail
        refine QC.out.mono ?_
        rintro e w1 ⟨rfl, nn, hw1⟩
        have hb1 : Below wr.heap.size wr w1 := by rw [hw1]; exact below_drawn (Below.refl _ _) _
        have HB1 := Lib.hid (HB.out.trans (hb1.mono HB.out.size))
        have HO1 := Lib.hid (HO.out.below hb1)
        have hm1 := (hb1.cell (p := ⟨1, 0, none⟩) (by simp only; omega)).trans HMR.out
        have h11 : 1 < w1.heap.size := by have := hb1.size; omega
        have qr := readInsn_any ⟨a.toArray⟩ m w1 (HZR.out) hm1 h11
        have QR := Lib.hid qr
        clear hw1 hb1 qr hm1
        go_wp2_with fail
        refine QR.out.mono ?_
        rintro e w2 ⟨x, b, rfl, hres, hb2⟩
        have HO2 := Lib.hid (HO1.out.below hb2)
        have HB2 := Lib.hid (HB1.out.trans (hb2.mono HB1.out.size))
        obtain ⟨xc, xy, xn, xk⟩ := x
        simp only
        clear hb2
        have HRES := Lib.hid hres
        clear hres
        cases b with
        | false =>
          have HF := Lib.hid (show ∀ l', ¬ VT s.data.toList l' from by
            rcases HRES.out with ⟨h, _⟩ | ⟨_, h⟩
            · cases h
            · exact fail_line HT2.out HOK.out HA.out h)
          have HB3 := Lib.hid (HB2.out.alloc HB2.out.size (.cells #[.int .i64 xc, .int .i64 xy, .int .i64 xn, .int .i64 xk] 39))
          have c0 := box_cell HB3.out 0
          have c1 := box_cell HB3.out 1
          have c2 := box_cell HB3.out 2
          have f0 := box_free HB3.out 0
          have f1 := box_free HB3.out 1
          have f2 := box_free HB3.out 2
          simp only [List.getElem?_toArray, List.getElem?_cons_zero, List.getElem?_cons_succ] at c0 c1 c2
          go_wp2_with fail
          exact bodyPost_ret (v := .agg #[.slice none 0 0, .int .i64 3, .int .i64 0]) (by simp [results, Tryd.results11, go_sem, c0, c1, c2]) rfl
            ⟨[], 3, _, .inr ⟨by rw [HSZ.out]; omega, .inr ⟨rfl, rfl, HF.out⟩⟩, rfl, InsOwn.nil _ _,
              (((box_below HB3.out).setCell (p := ⟨w.heap.size, 0, none⟩) (Nat.le_refl _) _).setCell (p := ⟨w.heap.size, 1, none⟩) (Nat.le_refl _) _).setCell (p := ⟨w.heap.size, 2, none⟩) (Nat.le_refl _) _⟩
        | true =>
          by_cases h4 : d.length = 400
          · have HF := Lib.hid (fail_full HT.out HOK.out HNE.out (by omega))
            obtain ⟨a3, cap3, rfl⟩ := HO2.out.slice
            have hq4 : ((d.length : Int) == 400) = true := by rw [h4]; rfl
            clear h4
            have HB3 := Lib.hid (HB2.out.alloc HB2.out.size (.cells #[.int .i64 xc, .int .i64 xy, .int .i64 xn, .int .i64 xk] 39))
            have c0 := box_cell HB3.out 0
            have c1 := box_cell HB3.out 1
            have c2 := box_cell HB3.out 2
            have f0 := box_free HB3.out 0
            have f1 := box_free HB3.out 1
            have f2 := box_free HB3.out 2
            simp only [List.getElem?_toArray, List.getElem?_cons_zero, List.getElem?_cons_succ] at c0 c1 c2
            go_wp2_with fail
            exact bodyPost_ret (v := .agg #[.slice none 0 0, .int .i64 3, .int .i64 0]) (by simp [results, Tryd.results11, go_sem, c0, c1, c2]) rfl
              ⟨[], 3, _, .inr ⟨by rw [HSZ.out]; omega, .inr ⟨rfl, rfl, HF.out⟩⟩, rfl, InsOwn.nil _ _,
                (((box_below HB3.out).setCell (p := ⟨w.heap.size, 0, none⟩) (Nat.le_refl _) _).setCell (p := ⟨w.heap.size, 1, none⟩) (Nat.le_refl _) _).setCell (p := ⟨w.heap.size, 2, none⟩) (Nat.le_refl _) _⟩
          · obtain ⟨a3, cap3, rfl⟩ := HO2.out.slice
            have hq4 : ((d.length : Int) == 400) = false := by simp; omega
            have hrd : readPs (cutAt 32 a) = some ⟨xc, xy, xn, xk⟩ := by
              rcases HRES.out with ⟨_, h⟩ | ⟨h, _⟩
              · exact h
              · cases h
            obtain ⟨hl1, hl2⟩ := read_line hrd
            have HTN := Lib.hid (show s.data.toList = textB (d ++ [⟨xc, xy, xn, xk⟩]) ++ (⟨q.toArray⟩ : ByteArray).data.toList by
              rw [HT2.out, textB_snoc, ← hl1]
              simp)
            have HKN := Lib.hid (show ∀ y ∈ d ++ [⟨xc, xy, xn, xk⟩], okIns y from by
              intro y hy
              rcases List.mem_append.1 hy with hy | hy
              · exact HOK.out y hy
              · rw [List.mem_singleton.1 hy]; exact hl2)
            have hrow := heap_alloc_new w2 (.cells #[.int .i64 xc, .int .i64 xy, .int .i64 xn, .int .i64 xk] 39)
            have HB3 := Lib.hid (HB2.out.alloc HB2.out.size (.cells #[.int .i64 xc, .int .i64 xy, .int .i64 xn, .int .i64 xk] 39))
            have HO3 := Lib.hid (HO2.out.alloc (.cells #[.int .i64 xc, .int .i64 xy, .int .i64 xn, .int .i64 xk] 39))
            have hsz3 : w.heap.size + 1 ≤ (w2.alloc (.cells #[.int .i64 xc, .int .i64 xy, .int .i64 xn, .int .i64 xk] 39)).heap.size := by have := HB3.out.size; simp only [World.size_alloc] at this ⊢; omega
            have hle : d.length ≤ 1000000000 := by omega
            clear hrd hl1 hl2
            go_wp2_with (at_builtin; refine wpList_push_ins rfl _ _ (by rfl) (w2.alloc (.cells #[.int .i64 xc, .int .i64 xy, .int .i64 xn, .int .i64 xk] 39)) _ _ _ _ (w.heap.size + 1) _ d (by rfl) HO3.out (by simp only [World.size_alloc]; rfl) hle hsz3 ?_; intro v1 w3 hown1 hg1)
            have hb4 := hg1.below HB3.out (by simpa using hsz3) (fun j hj => by have := (HO3.out.lt j hj).1; simpa using this)
            go_roundw
            case rel => exact ⟨⟨q.toArray⟩, d ++ [⟨xc, xy, xn, xk⟩], rfl, HTN.out, HKN.out, by simp; omega, hown1, hb4⟩
            case measure => exact HQL.out

theorem ins_wf {x : Ins} (h : okIns x) : x.wf := by
  have h0 := h.2.1
  unfold insRight isB at h0
  simp only [Bool.and_eq_true, decide_eq_true_eq] at h0
  unfold Ins.wf In64
  omega
theorem parseRes_wf {t : List UInt8} {l : List Ins} {c : Int} (h : ParseRes t l c) : ∀ x ∈ l, x.wf := by
  rcases h with ⟨_, rfl, _⟩ | ⟨_, ⟨_, hv⟩ | ⟨_, rfl, _⟩⟩
  · intro x hx; simp at hx
  · exact fun x hx => ins_wf (hv.2.2 x hx)
  · intro x hx; simp at hx
theorem parseRes_len {t : List UInt8} {l : List Ins} {c : Int} (h : ParseRes t l c) : l.length ≤ 1000000 := by
  rcases h with ⟨_, rfl, _⟩ | ⟨_, ⟨_, hv⟩ | ⟨_, rfl, _⟩⟩
  · simp
  · have := hv.2.1; omega
  · simp
theorem parse_same {base : Nat} {t : List UInt8} {l : List Ins} {c : Int} {w w' : World} {e : Ending} (h : ParseRes t l c) (h' : ParseEnd base t w e w') : ∃ u, e = .returned (.agg #[u, .int .i64 c, .int .i64 0]) ∧ InsOwn base w' u l ∧ Below w.heap.size w w' := by
  obtain ⟨l', c', u, hp, he, ho, hb⟩ := h'
  obtain ⟨rfl, rfl⟩ := h.uniq hp
  exact ⟨u, he, ho, hb⟩

end Go.Proofs.YtibbcafhchoiiaaDoor

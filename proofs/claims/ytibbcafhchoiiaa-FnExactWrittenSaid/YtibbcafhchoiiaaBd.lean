/- What is wrong with a word: l04Bad of the model walked. -/
import Derived.Test.YtibbcafhchoiiaaNx
import Derived.Test.YtibbcafhchoiiaaOn
import Derived.Deep.DeepCutAuto
import Derived.Deep.CutRange
set_option maxRecDepth 100000
set_option linter.unusedSimpArgs false
namespace Go.Proofs.Ytibbcafhchoiiaa
open Go.RowKit

def rangeBad (x : Ins) : Bool := (x.c == 32 && (x.k % 4 != 0 || decide (60 < x.k))) || (cellC x.c && decide (15 < x.k)) || (x.c == 52 && x.k == 0) || ((x.c == 100 || x.c == 116) && decide (31 < x.k))
def farBad (n : Nat) (l : List Int) : Bool := l.any fun t => decide ((n : Int) ≤ t)
def badI (n : Nat) (i : Nat) (x : Ins) : Int := if insRight x = false then 1 else if isOp x.c = false then 3 else if rangeBad x = true then 8 else if farBad n (nextI x i) = true then 8 else 0
theorem isOp_empty (c : Int) : (opNameOf c).toList.isEmpty = !isOp c := by
  have key : ∀ (cs : List Int) (ns : List (List UInt8)), cs.length = ns.length → (∀ n ∈ ns, n ≠ []) → ((opFind (cs.zip ns) c).isEmpty = !cs.contains c) := by
    intro cs
    induction cs with
    | nil => intro ns _ _; simp [opFind]
    | cons a cs ih =>
      intro ns hl hn
      cases ns with
      | nil => simp at hl
      | cons m ns =>
        simp only [List.zip_cons_cons, opFind]
        by_cases h : a = c
        · rw [if_pos h]
          have := hn m (by simp)
          cases m with
          | nil => exact absurd rfl this
          | cons b m => simp [h]
        · rw [if_neg h, ih ns (by simpa using hl) (fun n hn' => hn n (by simp [hn']))]
          have h' : ¬ c = a := fun e => h e.symm
          simp [h']
  have := key opCodesL opNamesL rfl (by decide)
  rw [Lib.toList_data]
  unfold opNameOf opNameL isOp
  simpa using this
theorem intAt_of {base : Nat} {w : World} {u : Value} {l : List Int} (h : IntOwn base w u l) : LAt numC 1 (fun _ => True) w w.heap.size u l := OwnL.lAt numS h fun _ _ => trivial

theorem ins_bd {x : Ins} (h : insRight x = true) : (0 ≤ x.c ∧ x.c ≤ 65535) ∧ (0 ≤ x.y ∧ x.y ≤ 255) ∧ (0 ≤ x.n ∧ x.n ≤ 255) ∧ (0 ≤ x.k ∧ x.k ≤ 4294967295) := by
  unfold insRight isB at h
  simpa [and_assoc] using h
theorem far_hit {n : Nat} {l : List Int} {k : Nat} (hk : k < l.length) (h : (n : Int) ≤ l[k]) : farBad n l = true := by
  unfold farBad
  rw [List.any_eq_true]
  exact ⟨l[k], List.getElem_mem hk, by simpa using h⟩
theorem far_next {n : Nat} {l : List Int} {k : Nat} (hf : farBad n (l.take k) = false) (hk : k < l.length) (h : ¬ (n : Int) ≤ l[k]) : farBad n (l.take (k + 1)) = false := by
  unfold farBad at hf ⊢
  rw [List.take_succ_eq_append_getElem hk, List.any_append, hf]
  simpa using h
theorem cell_not {c : Int} (h : cellC c = true) : ¬ c = 52 ∧ ¬ c = 100 ∧ ¬ c = 116 := by
  refine ⟨?_, ?_, ?_⟩ <;> (rintro rfl; revert h; decide)
theorem OwnL.cap_le {α : Type} {f : α → List Value} {S : Nat} {E : TypeId} {base : Nat} {w : World} {a : Option Addr} {n cap : Nat} {l : List α} (h : OwnL E S f base w (.slice a n cap) l) : n ≤ maxLen := by
  rcases h.2 with ⟨e, _⟩ | ⟨g, c, _, e, _, _, h1, h2, _⟩
  · simp only [Value.slice.injEq] at e; obtain ⟨_, rfl, _⟩ := e; unfold maxLen; omega
  · simp only [Value.slice.injEq] at e; obtain ⟨_, rfl, rfl⟩ := e; omega

set_option maxHeartbeats 6400000 in
theorem l04Bad_any (v : Value) (l : List Ins) (i : Nat) (x : Ins) (w : World) (h : InsAt w w.heap.size v l) (hi : l[i]? = some x) (hl : l.length ≤ 1048576) :
    Calls Try.prog 20 #[v, .int .i64 i] w fun e w' => e = .returned (.int .i64 (badI l.length i x)) ∧ Below w.heap.size w w' := by
  obtain ⟨a, cap, rfl, hlc, hcm⟩ := h.len
  unfold maxLen at hcm
  obtain ⟨b, o, e, hb, c0, c1, c2, c3, hwf⟩ := h.at_ hi
  subst e
  have hlt : i < l.length := (List.getElem?_eq_some_iff.1 hi).1
  have hmain : Hid (InsAt w w.heap.size (.slice (some ⟨b, o, none⟩) l.length cap) l) := h
  obtain ⟨xc, xy, xn, xk⟩ := x
  simp only at c0 c1 c2 c3
  have qr := fun W => isRight_spec xc xy xn xk W
  have qo := fun W => specOpName_any xc W
  have he := isOp_empty xc
  cases hr : insRight ⟨xc, xy, xn, xk⟩ <;> rw [hr] at qr
  · have HA := Lib.hid (show badI l.length i ⟨xc, xy, xn, xk⟩ = 1 by unfold badI; rw [if_pos hr])
    have QR := Lib.hid qr
    clear qr qo he hr h hi hwf
    go_enter Try.func20, Try.ntmps20
    go_wp2_with fail
    refine (QR.out _).mono ?_
    rintro e w1 ⟨rfl, hb1⟩
    have HB := Lib.hid (box_below hb1)
    clear hb1
    go_wp2_with fail
    go_ret
    exact ⟨ret_int HA.out.symm, HB.out⟩
  have hqn := fun W (h : Below w.heap.size w W) => l04Next_any _ l i _ W ((hmain.out.below h).up h.size) hi hl hr
  have hbd := ins_bd hr
  simp only at hbd
  obtain ⟨⟨hc0, hc1⟩, ⟨hy0, hy1⟩, ⟨hn0, hn1⟩, ⟨hk0, hk1⟩⟩ := hbd
  cases ho : isOp xc <;> rw [ho] at he
  · have HA := Lib.hid (show badI l.length i ⟨xc, xy, xn, xk⟩ = 3 by unfold badI; rw [if_neg (by simp [hr]), if_pos ho])
    simp only [Bool.not_false] at he
    generalize opNameOf xc = nm at *
    have QR := Lib.hid qr
    have QO := Lib.hid qo
    clear qr qo hr h hi hwf ho hqn
    go_enter Try.func20, Try.ntmps20
    go_wp2_with fail
    refine (QR.out _).mono ?_
    rintro e w1 ⟨rfl, hb1⟩
    have d0 := box_cell hb1 0
    simp only [List.getElem?_toArray, List.getElem?_cons_zero] at d0
    have HB1 := Lib.hid hb1
    clear hb1
    go_wp2_with fail
    refine (QO.out _).mono ?_
    rintro e w2 ⟨rfl, hb2⟩
    have HB2 := Lib.hid (box_below (HB1.out.trans (hb2.mono HB1.out.size)))
    clear hb2
    go_wp2_with fail
    go_ret
    exact ⟨ret_int HA.out.symm, HB2.out⟩
  simp only [Bool.not_true] at he
  have hA0 : badI l.length i ⟨xc, xy, xn, xk⟩ = if rangeBad ⟨xc, xy, xn, xk⟩ = true then 8 else if farBad l.length (nextI ⟨xc, xy, xn, xk⟩ i) = true then 8 else 0 := by
    unfold badI; rw [if_neg (by simp [hr]), if_neg (by simp [ho])]
  have qc := fun W => l04Cell_any xc W
  obtain ⟨t1, ht1⟩ : ∃ t, t = (xc == 32 && (xk % 4 != 0 || decide (60 < xk))) := ⟨_, rfl⟩
  obtain ⟨t2, ht2⟩ : ∃ t, t = (cellC xc && decide (15 < xk)) := ⟨_, rfl⟩
  obtain ⟨t3, ht3⟩ : ∃ t, t = (xc == 52 && xk == 0) := ⟨_, rfl⟩
  obtain ⟨t4, ht4⟩ : ∃ t, t = ((xc == 100 || xc == 116) && decide (31 < xk)) := ⟨_, rfl⟩
  rw [show rangeBad ⟨xc, xy, xn, xk⟩ = (t1 || t2 || t3 || t4) by rw [ht1, ht2, ht3, ht4]; rfl] at hA0
  generalize cellC xc = cc at *
  generalize opNameOf xc = nm at *
  generalize nextI ⟨xc, xy, xn, xk⟩ i = nx at *
  have QR := Lib.hid qr
  have QO := Lib.hid qo
  have QN := Lib.hid hqn
  clear qr qo hr h hi hwf ho hqn
  have HA0 := Lib.hid hA0
  have QC := Lib.hid qc
  have T1 := Lib.hid ht1
  have T2 := Lib.hid ht2
  have T3 := Lib.hid ht3
  have T4 := Lib.hid ht4
  clear hA0 qc ht1 ht2 ht3 ht4
  go_enter Try.func20, Try.ntmps20
  go_wp2_with fail
  refine (QR.out _).mono ?_
  rintro e w1 ⟨rfl, hb1⟩
  have d0 := box_cell hb1 0
  have d3 := box_cell hb1 3
  simp only [List.getElem?_toArray, List.getElem?_cons_zero, List.getElem?_cons_succ] at d0 d3
  have HB1 := Lib.hid hb1
  clear hb1
  go_wp2_with fail
  refine (QO.out _).mono ?_
  rintro e w2 ⟨rfl, hb2⟩
  have HB2 := Lib.hid (HB1.out.trans (hb2.mono HB1.out.size))
  clear hb2 d0 d3
  have d0 := box_cell HB2.out 0
  have d3 := box_cell HB2.out 3
  simp only [List.getElem?_toArray, List.getElem?_cons_zero, List.getElem?_cons_succ] at d0 d3
  go_upto_region 6 with fail
  go_cut [21] from 22 to 35 (fun s ws => s = .bool t1 ∧ ws = w2)
  case first =>
    by_cases h32 : xc = 32
    · have e1 : (xc == 32) = true := by simpa using h32
      by_cases h4 : xk % 4 = 0
      · have q4 : (xk % 4 != 0) = false := by simpa using h4
        go_wp2_with fail
        go_meet
        exact ⟨congrArg Value.bool (by rw [T1.out]; simp [h32, h4]), rfl⟩
      · have q4 : (xk % 4 != 0) = true := by simpa using h4
        go_wp2_with fail
        go_meet
        exact ⟨congrArg Value.bool (by rw [T1.out]; simp [h32, h4]), rfl⟩
    · have e1 : (xc == 32) = false := by simpa using h32
      go_wp2_with fail
      go_meet
      exact ⟨congrArg Value.bool (by rw [T1.out]; simp [h32]), rfl⟩
  case rest =>
  obtain ⟨rfl, hwc⟩ := hcut
  obtain rfl := hwc.symm
  cases t1
  case true =>
    have HA := Lib.hid (HA0.out.trans (if_pos (by simp)))
    go_wp2_with fail
    go_ret
    exact ⟨ret_int HA.out.symm, box_below HB2.out⟩
  case false =>
  go_upto_region 7 with fail
  go_cut [21] from 36 to 43 (fun s ws => s = .bool t2 ∧ ws = w2)
  case first =>
    go_wp2_with fail
    refine (QC.out _).mono ?_
    rintro e w' ⟨rfl, rfl⟩
    cases cc
    · go_wp2_with fail
      go_meet
      exact ⟨congrArg Value.bool (by rw [T2.out]; simp), rfl⟩
    · go_wp2_with fail
      go_meet
      exact ⟨congrArg Value.bool (by rw [T2.out]; simp), rfl⟩
  case rest =>
  obtain ⟨rfl, hwc⟩ := hcut
  obtain rfl := hwc.symm
  cases t2
  case true =>
    have HA := Lib.hid (HA0.out.trans (if_pos (by simp)))
    go_wp2_with fail
    go_ret
    exact ⟨ret_int HA.out.symm, box_below HB2.out⟩
  case false =>
  go_upto_region 8 with fail
  go_cut [21] from 44 to 51 (fun s ws => s = .bool t3 ∧ ws = w2)
  case first =>
    by_cases h52 : xc = 52
    · have e1 : (xc == 52) = true := by simpa using h52
      have H52 := Lib.hid h52
      clear h52
      go_wp2_with fail
      go_meet
      exact ⟨congrArg Value.bool (by rw [T3.out]; simp [H52.out]), rfl⟩
    · have e1 : (xc == 52) = false := by simpa using h52
      go_wp2_with fail
      go_meet
      exact ⟨congrArg Value.bool (by rw [T3.out]; simp [h52]), rfl⟩
  case rest =>
  obtain ⟨rfl, hwc⟩ := hcut
  obtain rfl := hwc.symm
  cases t3
  case true =>
    have HA := Lib.hid (HA0.out.trans (if_pos (by simp)))
    go_wp2_with fail
    go_ret
    exact ⟨ret_int HA.out.symm, box_below HB2.out⟩
  case false =>
  go_upto_region 9 with fail
  go_cut [21] from 52 to 64 (fun s ws => s = .bool t4 ∧ ws = w2)
  case first =>
    by_cases h100 : xc = 100
    · have e1 : (xc == 100) = true := by simpa using h100
      have H100 := Lib.hid h100
      clear h100
      go_wp2_with fail
      go_meet
      exact ⟨congrArg Value.bool (by rw [T4.out]; simp [H100.out]), rfl⟩
    · have e1 : (xc == 100) = false := by simpa using h100
      by_cases h116 : xc = 116
      · have e2 : (xc == 116) = true := by simpa using h116
        have H116 := Lib.hid h116
        clear h116
        go_wp2_with fail
        go_meet
        exact ⟨congrArg Value.bool (by rw [T4.out]; simp [h100, H116.out]), rfl⟩
      · have e2 : (xc == 116) = false := by simpa using h116
        go_wp2_with fail
        go_meet
        exact ⟨congrArg Value.bool (by rw [T4.out]; simp [h100, h116]), rfl⟩
  case rest =>
  obtain ⟨rfl, hwc⟩ := hcut
  obtain rfl := hwc.symm
  cases t4
  case true =>
    have HA := Lib.hid (HA0.out.trans (if_pos (by simp)))
    go_wp2_with fail
    go_ret
    exact ⟨ret_int HA.out.symm, box_below HB2.out⟩
  case false =>
  have HA := Lib.hid (HA0.out.trans (if_neg (by simp)))
  clear HA0
  go_wp2_with fail
  refine (QN.out _ (box_below HB2.out)).mono ?_
  rintro e w3 ⟨u, rfl, ho3, hb3⟩
  obtain ⟨ua, ucap, rfl⟩ := OwnL.slice ho3
  have HI3 := Lib.hid (intAt_of ho3)
  have hnl := OwnL.cap_le ho3
  unfold maxLen at hnl
  have HB3 := Lib.hid ((box_below HB2.out).trans (hb3.mono (box_below HB2.out).size))
  clear hb3 ho3 d0 d3
  go_wp2_with fail
  go_loop [7] (fun q => ∃ k : Nat, k ≤ nx.length ∧ q = .int .i64 k ∧ farBad l.length (nx.take k) = false) (fun q => nx.length - (intOf q).toNat)
  case atStart => exact ⟨0, by omega, rfl, by simp [farBad]⟩
  case round =>
    obtain ⟨k, hk, rfl, hfar⟩ := hrel
    have HF := Lib.hid hfar
    clear hfar
    by_cases hkl : k < nx.length
    · obtain ⟨ub, uo, e, hub, hcell, _⟩ := LAt.at_ HI3.out (List.getElem?_eq_getElem hkl)
      subst e
      have d := hcell 0 _ rfl
      simp only [Nat.mul_one, Nat.add_zero] at d
      clear hcell
      by_cases hbig : (l.length : Int) ≤ nx[k]
      · have HR := Lib.hid (HA.out.trans (if_pos (far_hit hkl hbig)))
        have hd : decide ((l.length : Int) ≤ nx[k]) = true := by simpa using hbig
        clear hbig
        go_wp2_with fail
        go_ret
        exact ⟨ret_int HR.out.symm, HB3.out⟩
      · have HN := Lib.hid (far_next HF.out hkl hbig)
        have hd : decide ((l.length : Int) ≤ nx[k]) = false := by simpa using hbig
        clear hbig
        go_wp2_with fail
        go_round
        case rel => exact ⟨k + 1, by omega, by go_num, HN.out⟩
        case measure => simp [intOf]; omega
    · have HR := Lib.hid (HA.out.trans (if_neg (by have := HF.out; rw [List.take_of_length_le (by omega)] at this; simp [this])))
      go_wp2_with fail
      go_ret
      exact ⟨ret_int HR.out.symm, HB3.out⟩

end Go.Proofs.Ytibbcafhchoiiaa

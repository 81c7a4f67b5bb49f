/- Texts of one proof, put together: Nx Bd Wt Kc Cp Ml Cw Io Cf Cb Ff Ci Cl Cv. -/
import Derived.Test.YtekmnopgaopmlaaGreatDoorXa
import Derived.StillTailTactics
import Derived.Deep.Draws
import Derived.Deep.DeepCutAuto
import Derived.Deep.CutRange
import Derived.OwnWalk
import Derived.Laws.OwnMore
import Derived.BigQuiet
import Derived.Lib.EndianBits
import Derived.Laws.Tables
import Derived.Laws.Rows
import Derived.Deep.QuietTactic
import Derived.WalkMore
import Derived.Laws.EntriesVeiled
import Derived.Deep.LoopGhost

/- Where one may come from a word: l04Next of the model walked. -/
set_option maxRecDepth 100000
namespace Go.Proofs.YtekmnopgaopmlaaGreatDoor
open Go.RowKit

def numC (n : Int) : List Value := [.int .i64 n]
theorem numS (n : Int) : (numC n).length = 1 := rfl
def nextI (x : Ins) (i : Int) : List Int :=
  if x.c = 6 ∨ x.c = 22 then []
  else if x.c = 5 then [i + 1 + x.k]
  else if looksC x.c then (if i + 1 + x.y = i + 1 + x.n then [i + 1 + x.y] else [if i + 1 + x.y < i + 1 + x.n then i + 1 + x.y else i + 1 + x.n, if i + 1 + x.n < i + 1 + x.y then i + 1 + x.y else i + 1 + x.n])
  else [i + 1]
abbrev IntOwn (base : Nat) (w : World) (v : Value) (l : List Int) : Prop := OwnL 3 1 numC base w v l
theorem intOwn_lit {base : Nat} {w : World} {H : Nat} {cs : Array Value} {l : List Int} {n : Nat} (hn : n = l.length) (hb : base ≤ w.heap.size) (hH : H = w.heap.size) (hc : cs.toList = l.flatMap numC) (hl : l.length ≤ 1000) : IntOwn base (w.alloc (.cells cs 3)) (.slice (some ⟨H, 0, none⟩) n n) l := by
  subst hH hn
  have := World.ownsRow_lit (base := base) (e := 3) (size := 1) w cs l.length hb (by unfold maxLen; omega) (by rw [← Array.length_toList, hc, flat_length numS])
  unfold IntOwn OwnL
  rw [← hc]
  exact this

set_option maxHeartbeats 1600000 in
theorem l04Next_any (v : Value) (l : List Ins) (i : Nat) (x : Ins) (w : World) (h : InsAt w w.heap.size v l) (hi : l[i]? = some x) (hl : l.length ≤ 1048576) (hr : insRight x = true) :
    Calls Tryz.prog 50 #[v, .int .i64 i] w fun e w' => ∃ u, e = .returned u ∧ IntOwn w.heap.size w' u (nextI x i) ∧ Below w.heap.size w w' := by
  obtain ⟨a, cap, rfl, hlc, hcm⟩ := h.len
  unfold maxLen at hcm
  obtain ⟨b, o, e, hb, c0, c1, c2, c3, hwf⟩ := h.at_ hi
  subst e
  have hlt : i < l.length := (List.getElem?_eq_some_iff.1 hi).1
  unfold insRight isB at hr
  simp only [Bool.and_eq_true, decide_eq_true_eq] at hr
  obtain ⟨⟨⟨hc, hy⟩, hn⟩, hk⟩ := hr
  obtain ⟨xc, xy, xn, xk⟩ := x
  simp only at c0 c1 c2 c3 hc hy hn hk
  obtain ⟨hy0, hy1⟩ := hy
  obtain ⟨hn0, hn1⟩ := hn
  obtain ⟨hk0, hk1⟩ := hk
  clear h hi hwf
  by_cases h6 : xc = 6
  · subst h6
    have HN := Lib.hid (show nextI ⟨6, xy, xn, xk⟩ i = [] from by simp [nextI])
    go_enter Tryz.func50, Tryz.ntmps50
    go_wp2
    go_ret
    exact ⟨_, rfl, by rw [HN.out]; exact intOwn_lit rfl (by simp) (by simp) rfl (by simp), ((Below.refl _ _).alloc (Nat.le_refl _) _).alloc (by simp) _⟩
  have e6 := eq_false_of h6
  by_cases h22 : xc = 22
  · subst h22
    have HN := Lib.hid (show nextI ⟨22, xy, xn, xk⟩ i = [] from by simp [nextI])
    clear h6
    go_enter Tryz.func50, Tryz.ntmps50
    go_wp2
    go_ret
    exact ⟨_, rfl, by rw [HN.out]; exact intOwn_lit rfl (by simp) (by simp) rfl (by simp), ((Below.refl _ _).alloc (Nat.le_refl _) _).alloc (by simp) _⟩
  have e22 := eq_false_of h22
  by_cases h5 : xc = 5
  · subst h5
    have HN := Lib.hid (show nextI ⟨5, xy, xn, xk⟩ i = [(i : Int) + 1 + xk] from by simp [nextI])
    clear h6 h22
    go_enter Tryz.func50, Tryz.ntmps50
    go_wp2
    go_ret
    exact ⟨_, rfl, by rw [HN.out]; exact intOwn_lit rfl (by simp) (by simp) rfl (by simp), ((Below.refl _ _).alloc (Nat.le_refl _) _).alloc (by simp) _⟩
  have e5 := eq_false_of h5
  have hq := fun W => l02Looks_any xc W
  cases hlk : looksC xc <;> rw [hlk] at hq
  · have HN := Lib.hid (show nextI ⟨xc, xy, xn, xk⟩ i = [(i : Int) + 1] from by simp [nextI, h6, h22, h5, hlk])
    have HQ := Lib.hid hq
    clear h6 h22 h5 hq hlk
    go_enter Tryz.func50, Tryz.ntmps50
    go_wp2_with fail
    refine (HQ.out _).mono ?_
    rintro e w1 ⟨rfl, rfl⟩
    go_wp2_with fail
    go_ret
    exact ⟨_, rfl, by rw [HN.out]; exact intOwn_lit rfl (by simp) (by simp) rfl (by simp), ((Below.refl _ _).alloc (Nat.le_refl _) _).alloc (by simp) _⟩
  · have HN0 := Lib.hid (show nextI ⟨xc, xy, xn, xk⟩ i = (if (i : Int) + 1 + xy = (i : Int) + 1 + xn then [(i : Int) + 1 + xy] else [if (i : Int) + 1 + xy < (i : Int) + 1 + xn then (i : Int) + 1 + xy else (i : Int) + 1 + xn, if (i : Int) + 1 + xn < (i : Int) + 1 + xy then (i : Int) + 1 + xy else (i : Int) + 1 + xn]) from by simp only [nextI, h6, h22, h5, hlk, or_self, if_false, if_true])
    have HQ := Lib.hid hq
    clear h6 h22 h5 hq hlk
    have w0 : IntKind.i64.wrap ((i : Int) + 1) = (i : Int) + 1 := by rw [IntKind.wrap_i64]; omega
    have wy : IntKind.i64.wrap ((i : Int) + 1 + xy) = (i : Int) + 1 + xy := by rw [IntKind.wrap_i64]; omega
    have wn : IntKind.i64.wrap ((i : Int) + 1 + xn) = (i : Int) + 1 + xn := by rw [IntKind.wrap_i64]; omega
    have W0 := Lib.hid w0
    have WY := Lib.hid wy
    have WN := Lib.hid wn
    clear w0 wy wn
    go_enter Tryz.func50, Tryz.ntmps50
    go_wp2_with fail
    refine (HQ.out _).mono ?_
    rintro e w1 ⟨rfl, rfl⟩
    have w0 := W0.out
    have wy := WY.out
    have wn := WN.out
    go_wp2_with fail
    refine wp_region_still_lit (by kernel_rfl) (by kernel_rfl) ?_
    simp only [World.drew_eq]
    repeat still_step
    refine wpStill_nil ?_
    clear w0 wy wn
    by_cases heq : (i : Int) + 1 + xy = (i : Int) + 1 + xn
    · have hq : ((i : Int) + 1 + xy == (i : Int) + 1 + xn) = true := by simpa using heq
      have HN := Lib.hid (HN0.out.trans (if_pos heq))
      clear heq
      go_wp2_with fail
      go_ret
      exact ⟨_, rfl, by rw [HN.out]; exact intOwn_lit rfl (by simp) (by simp) rfl (by simp), (((Below.refl _ _).alloc (Nat.le_refl _) _).alloc (by simp) _).drew⟩
    · have hq := eq_false_of heq
      have HN := Lib.hid (HN0.out.trans (if_neg heq))
      clear heq
      have q1 := fun W => l01Min_any ((i : Int) + 1 + xy) ((i : Int) + 1 + xn) W
      have q2 := fun W => l01Max_any ((i : Int) + 1 + xy) ((i : Int) + 1 + xn) W
      generalize (if (i : Int) + 1 + xy < (i : Int) + 1 + xn then (i : Int) + 1 + xy else (i : Int) + 1 + xn) = p1 at q1 HN
      generalize (if (i : Int) + 1 + xn < (i : Int) + 1 + xy then (i : Int) + 1 + xy else (i : Int) + 1 + xn) = p2 at q2 HN
      have Q1 := Lib.hid q1
      have Q2 := Lib.hid q2
      clear q1 q2
      go_wp2_with fail
      refine (Q1.out _).mono ?_
      rintro e w1 ⟨rfl, rfl⟩
      go_wp2_with fail
      refine (Q2.out _).mono ?_
      rintro e w1 ⟨rfl, rfl⟩
      go_wp2_with fail
      go_ret
      exact ⟨_, rfl, by rw [HN.out]; exact intOwn_lit rfl (by simp) (by simp) rfl (by simp), (((Below.refl _ _).alloc (Nat.le_refl _) _).alloc (by simp) _).drew⟩

end Go.Proofs.YtekmnopgaopmlaaGreatDoor

/- What is wrong with a word: l04Bad of the model walked. -/
set_option maxRecDepth 100000
set_option linter.unusedSimpArgs false
namespace Go.Proofs.YtekmnopgaopmlaaGreatDoor
open Go.RowKit

def rangeBad (x : Ins) : Bool := (x.c == 32 && (x.k % 4 != 0 || decide (60 < x.k))) || (cellC x.c && decide (15 < x.k)) || (x.c == 52 && x.k == 0) || ((x.c == 100 || x.c == 116) && decide (31 < x.k))
def farBad (n : Nat) (l : List Int) : Bool := l.any fun t => decide ((n : Int) ≤ t)
def badI (n : Nat) (i : Nat) (x : Ins) : Int := if insRight x = false then 1 else if isOp x.c = false then 3 else if rangeBad x = true then 8 else if farBad n (nextI x i) = true then 8 else 0
theorem intAt_of {base : Nat} {w : World} {u : Value} {l : List Int} (h : IntOwn base w u l) : LAt numC 1 (fun _ => True) w w.heap.size u l := OwnL.lAt numS h fun _ _ => trivial

theorem ins_bd {x : Ins} (h : insRight x = true) : (0 ≤ x.c ∧ x.c ≤ 65535) ∧ (0 ≤ x.y ∧ x.y ≤ 255) ∧ (0 ≤ x.n ∧ x.n ≤ 255) ∧ (0 ≤ x.k ∧ x.k ≤ 4294967295) := by
  unfold insRight isB at h
  simpa [and_assoc] using h
theorem far_hit {n : Nat} {l : List Int} {k : Nat} (hk : k < l.length) (h : (n : Int) ≤ l[k]) : farBad n l = true := by
  unfold farBad
  rw [List.any_eq_true]
  exact ⟨l[k], List.getElem_mem hk, by simpa using h⟩
theorem far_next {n : Nat} {l : List Int} {k : Nat} (hf : farBad n (l.take k) = false) (hk : k < l.length) (h : ¬ (n : Int) ≤ l[k]) : farBad n (l.take (k + 1)) = false := by
  unfold farBad at hf ⊢
  rw [List.take_succ_eq_append_getElem hk, List.any_append, hf]
  simpa using h
theorem cell_not {c : Int} (h : cellC c = true) : ¬ c = 52 ∧ ¬ c = 100 ∧ ¬ c = 116 := by
  refine ⟨?_, ?_, ?_⟩ <;> (rintro rfl; revert h; decide)
theorem OwnL.cap_le {α : Type} {f : α → List Value} {S : Nat} {E : TypeId} {base : Nat} {w : World} {a : Option Addr} {n cap : Nat} {l : List α} (h : OwnL E S f base w (.slice a n cap) l) : n ≤ maxLen := by
  rcases h.2 with ⟨e, _⟩ | ⟨g, c, _, e, _, _, h1, h2, _⟩
  · simp only [Value.slice.injEq] at e; obtain ⟨_, rfl, _⟩ := e; unfold maxLen; omega
  · simp only [Value.slice.injEq] at e; obtain ⟨_, rfl, rfl⟩ := e; omega

set_option maxHeartbeats 6400000 in
theorem l04Bad_any (v : Value) (l : List Ins) (i : Nat) (x : Ins) (w : World) (h : InsAt w w.heap.size v l) (hi : l[i]? = some x) (hl : l.length ≤ 1048576) :
    Calls Tryz.prog 44 #[v, .int .i64 i] w fun e w' => e = .returned (.int .i64 (badI l.length i x)) ∧ Below w.heap.size w w' := by
  obtain ⟨a, cap, rfl, hlc, hcm⟩ := h.len
  unfold maxLen at hcm
  obtain ⟨b, o, e, hb, c0, c1, c2, c3, hwf⟩ := h.at_ hi
  subst e
  have hlt : i < l.length := (List.getElem?_eq_some_iff.1 hi).1
  have hmain : Hid (InsAt w w.heap.size (.slice (some ⟨b, o, none⟩) l.length cap) l) := h
  obtain ⟨xc, xy, xn, xk⟩ := x
  simp only at c0 c1 c2 c3
  have qr := fun W => isRight_spec xc xy xn xk W
  have qo := fun W => specOpName_any xc W
  have he := isOp_empty xc
  cases hr : insRight ⟨xc, xy, xn, xk⟩ <;> rw [hr] at qr
  · have HA := Lib.hid (show badI l.length i ⟨xc, xy, xn, xk⟩ = 1 by unfold badI; rw [if_pos hr])
    have QR := Lib.hid qr
    clear qr qo he hr h hi hwf
    go_enter Tryz.func44, Tryz.ntmps44
    go_wp2_with fail
    refine (QR.out _).mono ?_
    rintro e w1 ⟨rfl, hb1⟩
    have HB := Lib.hid (box_below hb1)
    clear hb1
    go_wp2_with fail
    go_ret
    exact ⟨ret_int HA.out.symm, HB.out⟩
  have hqn := fun W (h : Below w.heap.size w W) => l04Next_any _ l i _ W ((hmain.out.below h).up h.size) hi hl hr
  have hbd := ins_bd hr
  simp only at hbd
  obtain ⟨⟨hc0, hc1⟩, ⟨hy0, hy1⟩, ⟨hn0, hn1⟩, ⟨hk0, hk1⟩⟩ := hbd
  cases ho : isOp xc <;> rw [ho] at he
  · have HA := Lib.hid (show badI l.length i ⟨xc, xy, xn, xk⟩ = 3 by unfold badI; rw [if_neg (by simp [hr]), if_pos ho])
    simp only [Bool.not_false] at he
    generalize opNameOf xc = nm at *
    have QR := Lib.hid qr
    have QO := Lib.hid qo
    clear qr qo hr h hi hwf ho hqn
    go_enter Tryz.func44, Tryz.ntmps44
    go_wp2_with fail
    refine (QR.out _).mono ?_
    rintro e w1 ⟨rfl, hb1⟩
    have d0 := box_cell hb1 0
    simp only [List.getElem?_toArray, List.getElem?_cons_zero] at d0
    have HB1 := Lib.hid hb1
    clear hb1
    go_wp2_with fail
    refine (QO.out _).mono ?_
    rintro e w2 ⟨rfl, hb2⟩
    have HB2 := Lib.hid (box_below (HB1.out.trans (hb2.mono HB1.out.size)))
    clear hb2
    go_wp2_with fail
    go_ret
    exact ⟨ret_int HA.out.symm, HB2.out⟩
  simp only [Bool.not_true] at he
  have hA0 : badI l.length i ⟨xc, xy, xn, xk⟩ = if rangeBad ⟨xc, xy, xn, xk⟩ = true then 8 else if farBad l.length (nextI ⟨xc, xy, xn, xk⟩ i) = true then 8 else 0 := by
    unfold badI; rw [if_neg (by simp [hr]), if_neg (by simp [ho])]
  have qc := fun W => l04Cell_any xc W
  obtain ⟨t1, ht1⟩ : ∃ t, t = (xc == 32 && (xk % 4 != 0 || decide (60 < xk))) := ⟨_, rfl⟩
  obtain ⟨t2, ht2⟩ : ∃ t, t = (cellC xc && decide (15 < xk)) := ⟨_, rfl⟩
  obtain ⟨t3, ht3⟩ : ∃ t, t = (xc == 52 && xk == 0) := ⟨_, rfl⟩
  obtain ⟨t4, ht4⟩ : ∃ t, t = ((xc == 100 || xc == 116) && decide (31 < xk)) := ⟨_, rfl⟩
  rw [show rangeBad ⟨xc, xy, xn, xk⟩ = (t1 || t2 || t3 || t4) by rw [ht1, ht2, ht3, ht4]; rfl] at hA0
  generalize cellC xc = cc at *
  generalize opNameOf xc = nm at *
  generalize nextI ⟨xc, xy, xn, xk⟩ i = nx at *
  have QR := Lib.hid qr
  have QO := Lib.hid qo
  have QN := Lib.hid hqn
  clear qr qo hr h hi hwf ho hqn
  have HA0 := Lib.hid hA0
  have QC := Lib.hid qc
  have T1 := Lib.hid ht1
  have T2 := Lib.hid ht2
  have T3 := Lib.hid ht3
  have T4 := Lib.hid ht4
  clear hA0 qc ht1 ht2 ht3 ht4
  go_enter Tryz.func44, Tryz.ntmps44
  go_wp2_with fail
  refine (QR.out _).mono ?_
  rintro e w1 ⟨rfl, hb1⟩
  have d0 := box_cell hb1 0
  have d3 := box_cell hb1 3
  simp only [List.getElem?_toArray, List.getElem?_cons_zero, List.getElem?_cons_succ] at d0 d3
  have HB1 := Lib.hid hb1
  clear hb1
  go_wp2_with fail
  refine (QO.out _).mono ?_
  rintro e w2 ⟨rfl, hb2⟩
  have HB2 := Lib.hid (HB1.out.trans (hb2.mono HB1.out.size))
  clear hb2 d0 d3
  have d0 := box_cell HB2.out 0
  have d3 := box_cell HB2.out 3
  simp only [List.getElem?_toArray, List.getElem?_cons_zero, List.getElem?_cons_succ] at d0 d3
  go_upto_region 6 with fail
  go_cut [21] from 22 to 35 (fun s ws => s = .bool t1 ∧ ws = w2)
  case first =>
    by_cases h32 : xc = 32
    · have e1 : (xc == 32) = true := by simpa using h32
      by_cases h4 : xk % 4 = 0
      · have q4 : (xk % 4 != 0) = false := by simpa using h4
        go_wp2_with fail
        go_meet
        exact ⟨congrArg Value.bool (by rw [T1.out]; simp [h32, h4]), rfl⟩
      · have q4 : (xk % 4 != 0) = true := by simpa using h4
        go_wp2_with fail
        go_meet
        exact ⟨congrArg Value.bool (by rw [T1.out]; simp [h32, h4]), rfl⟩
    · have e1 : (xc == 32) = false := by simpa using h32
      go_wp2_with fail
      go_meet
      exact ⟨congrArg Value.bool (by rw [T1.out]; simp [h32]), rfl⟩
  case rest =>
  obtain ⟨rfl, hwc⟩ := hcut
  obtain rfl := hwc.symm
  cases t1
  case true =>
    have HA := Lib.hid (HA0.out.trans (if_pos (by simp)))
    go_wp2_with fail
    go_ret
    exact ⟨ret_int HA.out.symm, box_below HB2.out⟩
  case false =>
  go_upto_region 7 with fail
  go_cut [21] from 36 to 43 (fun s ws => s = .bool t2 ∧ ws = w2)
  case first =>
    go_wp2_with fail
    refine (QC.out _).mono ?_
    rintro e w' ⟨rfl, rfl⟩
    cases cc
    · go_wp2_with fail
      go_meet
      exact ⟨congrArg Value.bool (by rw [T2.out]; simp), rfl⟩
    · go_wp2_with fail
      go_meet
      exact ⟨congrArg Value.bool (by rw [T2.out]; simp), rfl⟩
  case rest =>
  obtain ⟨rfl, hwc⟩ := hcut
  obtain rfl := hwc.symm
  cases t2
  case true =>
    have HA := Lib.hid (HA0.out.trans (if_pos (by simp)))
    go_wp2_with fail
    go_ret
    exact ⟨ret_int HA.out.symm, box_below HB2.out⟩
  case false =>
  go_upto_region 8 with fail
  go_cut [21] from 44 to 51 (fun s ws => s = .bool t3 ∧ ws = w2)
  case first =>
    by_cases h52 : xc = 52
    · have e1 : (xc == 52) = true := by simpa using h52
      have H52 := Lib.hid h52
      clear h52
      go_wp2_with fail
      go_meet
      exact ⟨congrArg Value.bool (by rw [T3.out]; simp [H52.out]), rfl⟩
    · have e1 : (xc == 52) = false := by simpa using h52
      go_wp2_with fail
      go_meet
      exact ⟨congrArg Value.bool (by rw [T3.out]; simp [h52]), rfl⟩
  case rest =>
  obtain ⟨rfl, hwc⟩ := hcut
  obtain rfl := hwc.symm
  cases t3
  case true =>
    have HA := Lib.hid (HA0.out.trans (if_pos (by simp)))
    go_wp2_with fail
    go_ret
    exact ⟨ret_int HA.out.symm, box_below HB2.out⟩
  case false =>
  go_upto_region 9 with fail
  go_cut [21] from 52 to 64 (fun s ws => s = .bool t4 ∧ ws = w2)
  case first =>
    by_cases h100 : xc = 100
    · have e1 : (xc == 100) = true := by simpa using h100
      have H100 := Lib.hid h100
      clear h100
      go_wp2_with fail
      go_meet
      exact ⟨congrArg Value.bool (by rw [T4.out]; simp [H100.out]), rfl⟩
    · have e1 : (xc == 100) = false := by simpa using h100
      by_cases h116 : xc = 116
      · have e2 : (xc == 116) = true := by simpa using h116
        have H116 := Lib.hid h116
        clear h116
        go_wp2_with fail
        go_meet
        exact ⟨congrArg Value.bool (by rw [T4.out]; simp [h100, H116.out]), rfl⟩
      · have e2 : (xc == 116) = false := by simpa using h116
        go_wp2_with fail
        go_meet
        exact ⟨congrArg Value.bool (by rw [T4.out]; simp [h100, h116]), rfl⟩
  case rest =>
  obtain ⟨rfl, hwc⟩ := hcut
  obtain rfl := hwc.symm
  cases t4
  case true =>
    have HA := Lib.hid (HA0.out.trans (if_pos (by simp)))
    go_wp2_with fail
    go_ret
    exact ⟨ret_int HA.out.symm, box_below HB2.out⟩
  case false =>
  have HA := Lib.hid (HA0.out.trans (if_neg (by simp)))
  clear HA0
  go_wp2_with fail
  refine (QN.out _ (box_below HB2.out)).mono ?_
  rintro e w3 ⟨u, rfl, ho3, hb3⟩
  obtain ⟨ua, ucap, rfl⟩ := OwnL.slice ho3
  have HI3 := Lib.hid (intAt_of ho3)
  have hnl := OwnL.cap_le ho3
  unfold maxLen at hnl
  have HB3 := Lib.hid ((box_below HB2.out).trans (hb3.mono (box_below HB2.out).size))
  clear hb3 ho3 d0 d3
  go_wp2_with fail
  go_loop [7] (fun q => ∃ k : Nat, k ≤ nx.length ∧ q = .int .i64 k ∧ farBad l.length (nx.take k) = false) (fun q => nx.length - (intOf q).toNat)
  case atStart => exact ⟨0, by omega, rfl, by simp [farBad]⟩
  case round =>
    obtain ⟨k, hk, rfl, hfar⟩ := hrel
    have HF := Lib.hid hfar
    clear hfar
    by_cases hkl : k < nx.length
    · obtain ⟨ub, uo, e, hub, hcell, _⟩ := LAt.at_ HI3.out (List.getElem?_eq_getElem hkl)
      subst e
      have d := hcell 0 _ rfl
      simp only [Nat.mul_one, Nat.add_zero] at d
      clear hcell
      by_cases hbig : (l.length : Int) ≤ nx[k]
      · have HR := Lib.hid (HA.out.trans (if_pos (far_hit hkl hbig)))
        have hd : decide ((l.length : Int) ≤ nx[k]) = true := by simpa using hbig
        clear hbig
        go_wp2_with fail
        go_ret
        exact ⟨ret_int HR.out.symm, HB3.out⟩
      · have HN := Lib.hid (far_next HF.out hkl hbig)
        have hd : decide ((l.length : Int) ≤ nx[k]) = false := by simpa using hbig
        clear hbig
        go_wp2_with fail
        go_round
        case rel => exact ⟨k + 1, by omega, by go_num, HN.out⟩
        case measure => simp [intOf]; omega
    · have HR := Lib.hid (HA.out.trans (if_neg (by have := HF.out; rw [List.take_of_length_le (by omega)] at this; simp [this])))
      go_wp2_with fail
      go_ret
      exact ⟨ret_int HR.out.symm, HB3.out⟩

end Go.Proofs.YtekmnopgaopmlaaGreatDoor

/- What is written before each word: l04Written of the model walked. -/
set_option maxRecDepth 100000
set_option linter.unusedSimpArgs false
namespace Go.Proofs.YtekmnopgaopmlaaGreatDoor
open Go.RowKit

theorem info_int64 : (Tryz.prog.info? 2).map (fun i => (i.zero, i.size, i.bytes)) = some (some (.int .i64 0), 1, 8) := by kernel_rfl
theorem made_int (n : Nat) : (madeCells (.int .i64 0 : Value).cells (n * 1)).toList = (List.replicate n (0 : Int)).flatMap numC := by
  have hz : (List.replicate n (0 : Int)).flatMap numC = List.replicate n (.int .i64 0) := by
    induction n with
    | zero => rfl
    | succ n ih => rw [List.replicate_succ, List.flatMap_cons, ih]; rfl
  rw [hz, List.eq_replicate_iff]
  refine ⟨by simp [madeCells], fun b hb => ?_⟩
  simp only [madeCells, Array.toList_map, List.mem_map] at hb
  obtain ⟨j, _, rfl⟩ := hb
  simp [Value.cells, Nat.mod_one]
theorem int_at {E : TypeId} {w : World} {base g n cap : Nat} {l : List Int} {i : Nat} {x : Int} (h : w.ownsRow base E 1 (.slice (some ⟨g, 0, none⟩) n cap) n (l.flatMap numC)) (hi : l[i]? = some x) : w.cell? ⟨g, i, none⟩ = some (.int .i64 x) ∧ w.frozen? ⟨g, i, none⟩ = false := by
  have h2 := OwnL.at_ numS h hi
  exact ⟨by simpa using h2.1 0 _ rfl, h2.2 i⟩
theorem int_set {E : TypeId} {w : World} {base g n cap : Nat} {l : List Int} {i : Nat} (h : w.ownsRow base E 1 (.slice (some ⟨g, 0, none⟩) n cap) n (l.flatMap numC)) (hi : i < l.length) (x : Int) : (w.setCell ⟨g, i, none⟩ (.int .i64 x)).ownsRow base E 1 (.slice (some ⟨g, 0, none⟩) n cap) n ((l.set i x).flatMap numC) := by
  have h2 := OwnL.set numS (by omega) h hi x
  rw [Nat.mul_one] at h2
  exact h2
theorem intAt_own {E : TypeId} {base : Nat} {w : World} {v : Value} {l : List Int} (h : OwnL E 1 numC base w v l) : LAt numC 1 (fun _ => True) w w.heap.size v l := h.lAt numS fun _ _ => trivial

/-- The masks before anything is known. -/
def preM (k : Nat) : List Int := (List.range k).map fun i => if i = 0 then 0 else 65535
theorem preM_length (k : Nat) : (preM k).length = k := by simp [preM]
theorem preM_succ {k : Nat} (h : 1 ≤ k) : preM (k + 1) = preM k ++ [65535] := by
  unfold preM
  rw [List.range_succ, List.map_append]
  simp
  omega
/-- What one word hands on. -/
def outM (x : Ins) (m : Int) : Int := if x.c = 2 ∨ x.c = 3 then bits .or .i64 m (wrap64 (2 ^ x.k.toNat)) else m
def passM (m : Int) (ms : List Int) (t : Int) : List Int := ms.set t.toNat (bits .and .i64 (ms.getD t.toNat 0) m)
theorem passM_length (m : Int) (ms : List Int) (t : Int) : (passM m ms t).length = ms.length := by simp [passM]
theorem foldM_length (m : Int) : ∀ (ts ms : List Int), (ts.foldl (passM m) ms).length = ms.length
  | [], _ => rfl
  | t :: ts, ms => by rw [List.foldl_cons, foldM_length m ts, passM_length]
theorem foldM_next {m : Int} {ts ms : List Int} {j : Nat} (h : j < ts.length) : (ts.take (j + 1)).foldl (passM m) ms = passM m ((ts.take j).foldl (passM m) ms) ts[j] := by
  rw [List.take_succ_eq_append_getElem h, List.foldl_append]
  rfl
def stepM (ms : List Int) (i : Nat) (x : Ins) : List Int := (nextI x i).foldl (passM (outM x (ms.getD i 0))) ms
def wrK (l : List Ins) : Nat → List Int
  | 0 => preM l.length
  | k + 1 => match l[k]? with
    | some x => stepM (wrK l k) k x
    | none => wrK l k
theorem wrK_length (l : List Ins) : ∀ k, (wrK l k).length = l.length
  | 0 => preM_length _
  | k + 1 => by
    unfold wrK
    split
    · rw [stepM, foldM_length, wrK_length l k]
    · exact wrK_length l k
theorem wrK_next {l : List Ins} {k : Nat} (h : k < l.length) : wrK l (k + 1) = stepM (wrK l k) k l[k] := by
  rw [wrK, List.getElem?_eq_getElem h]
def wrL (l : List Ins) : List Int := wrK l l.length

set_option maxHeartbeats 3200000 in
theorem l04Written_any (v : Value) (l : List Ins) (w : World) (h : InsAt w w.heap.size v l) (h1 : 1 ≤ l.length) (hn : l.length ≤ 100000)
    (hok : ∀ (i : Nat) (hi : i < l.length), insRight l[i] = true ∧ (l[i].c = 2 ∨ l[i].c = 3 → l[i].k ≤ 63) ∧ ∀ t ∈ nextI l[i] i, 0 ≤ t ∧ t < l.length) :
    Calls Tryz.prog 45 #[v] w fun e w' => ∃ u, e = .returned u ∧ OwnL 2 1 numC w.heap.size w' u (wrL l) ∧ Below w.heap.size w w' := by
  obtain ⟨i0, hi, hz0, hz1, hz2⟩ := info_parts info_int64
  obtain ⟨a, cap, rfl, hlc, hcm⟩ := h.len
  unfold maxLen at hcm
  have HH := Lib.hid h
  have HOK := Lib.hid hok
  clear h hok
  go_enter Tryz.func45, Tryz.ntmps45
  go_wp2_with (refine wpList_make_full _ rfl _ _ _ rfl w.heap.size 2 i0 _ 1 Tryz.underlying40 hi hz0 hz1 .i64 .i64 _ _ l.length rfl rfl rfl rfl (by rw [hz2]; omega) (by unfold maxLen; omega) (Nat.le_refl _) ?_; intro w1 hown1 hg1)
  rw [made_int] at hown1
  have hlt1 := hown1.lt w.heap.size rfl
  have hb1 : Below w.heap.size w w1 := (Below.refl _ _).grown hg1 (Nat.le_refl _) (fun k hk => by cases hk)
  have HO := Lib.hid (show w1.ownsRow w.heap.size 2 1 (.slice (some ⟨w.heap.size, 0, none⟩) l.length l.length) l.length ((preM 1 ++ List.replicate (l.length - 1) (0 : Int)).flatMap numC) by
    have e : preM 1 ++ List.replicate (l.length - 1) (0 : Int) = List.replicate l.length 0 := by
      obtain ⟨m, hm⟩ : ∃ m, l.length = m + 1 := ⟨l.length - 1, by omega⟩
      rw [hm]
      rfl
    rw [e]
    exact hown1)
  clear hown1 hg1
  go_loopw [4] (fun i wr => ∃ k : Nat, 1 ≤ k ∧ k ≤ l.length ∧ i = .int .i64 k ∧ wr.ownsRow w.heap.size 2 1 (.slice (some ⟨w.heap.size, 0, none⟩) l.length l.length) l.length ((preM k ++ List.replicate (l.length - k) (0 : Int)).flatMap numC) ∧ Below w.heap.size w wr ∧ w.heap.size < wr.heap.size)
    (fun i _ => l.length - (intOf i).toNat)
  case atStart => exact ⟨1, by omega, h1, rfl, HO.out, hb1, hlt1.2⟩
  case round =>
    obtain ⟨k, hk1, hk, rfl, hown, hbw, hgl⟩ := hrel
    by_cases hlt : k < l.length
    · have hfill := fillL (d := (0 : Int)) (preM_length k) hlt 65535
      rw [← preM_succ hk1] at hfill
      have hset := int_set hown (i := k) (by simp [preM_length]; omega) 65535
      rw [hfill.2] at hset
      obtain ⟨d0, f0⟩ := int_at hown hfill.1
      have hbX : ∀ u0 : Value, Below w.heap.size w (wr.setCell ⟨w.heap.size, k, none⟩ u0) := fun u0 => hbw.setCell (p := ⟨w.heap.size, k, none⟩) (Nat.le_refl _) _
      have HS := Lib.hid hset
      have HB := Lib.hid hbX
      clear hset hbX hfill hown hbw
      go_wp2_with fail
      go_roundw
      case rel => exact ⟨k + 1, by omega, by omega, by go_num, HS.out, HB.out _, by simpa using hgl⟩
      case measure => simp [intOf]; omega
    · have hM := Lib.hid (show wr.ownsRow w.heap.size 2 1 (.slice (some ⟨w.heap.size, 0, none⟩) l.length l.length) l.length ((wrK l 0).flatMap numC) by
        have e : k = l.length := by omega
        subst e
        rw [Nat.sub_self, List.replicate_zero, List.append_nil] at hown
        exact hown)
      have HBW := Lib.hid hbw
      clear hown hbw hk1
      go_wp2_with fail
      go_loopw [5] (fun i ws => ∃ k : Nat, k ≤ l.length ∧ i = .int .i64 k ∧ ws.ownsRow w.heap.size 2 1 (.slice (some ⟨w.heap.size, 0, none⟩) l.length l.length) l.length ((wrK l k).flatMap numC) ∧ Below w.heap.size w ws ∧ w.heap.size < ws.heap.size)
        (fun i _ => l.length - (intOf i).toNat)
      case atStart => exact ⟨0, by omega, rfl, hM.out, HBW.out, hgl⟩
      case round =>
        obtain ⟨k, hk, rfl, hown, hbs, hgs⟩ := hrel
        by_cases hlt : k < l.length
        · obtain ⟨b, o, e, hb, c0, c1, c2, c3, hwf⟩ := (HH.out.below hbs).at_ (List.getElem?_eq_getElem hlt)
          subst e
          have hx := HOK.out k hlt
          have hI := (HH.out.below hbs).up hbs.size
          have hq := fun W (hW : InsAt W W.heap.size _ l) => l04Next_any (.slice (some ⟨b, o, none⟩) l.length cap) l k l[k] W hW (List.getElem?_eq_getElem hlt) (by omega) hx.1
          obtain ⟨m, hm⟩ : ∃ m, (wrK l k)[k]? = some m := ⟨_, List.getElem?_eq_getElem (by rw [wrK_length]; exact hlt)⟩
          obtain ⟨d0, f0⟩ := int_at hown hm
          have hstep : wrK l (k + 1) = (nextI l[k] k).foldl (passM (outM l[k] m)) (wrK l k) := by
            rw [wrK_next hlt, stepM, List.getD_eq_getElem?_getD, hm]
            rfl
          have hms := wrK_length l k
          have hr := hx.1
          unfold insRight isB at hr
          simp only [Bool.and_eq_true, decide_eq_true_eq] at hr
          have hk0 := hr.2.1
          have hkm := hx.2.1
          have htg := hx.2.2
          generalize hxx : l[k] = x at *
          obtain ⟨xc, xy, xn, xk⟩ := x
          simp only at c0 c1 c2 c3 hk0 hkm
          generalize nextI ⟨xc, xy, xn, xk⟩ k = nx at *
          generalize wrK l k = ms at *
          have HQ := Lib.hid hq
          have HS := Lib.hid hstep
          have HT := Lib.hid htg
          have HW := Lib.hid hbs
          have HI := Lib.hid hI
          have HM := Lib.hid hown
          clear hq hstep htg hbs hI hown hx hr hwf hxx hm
          obtain ⟨B3, hB3⟩ : ∃ B3, wr.heap.size = B3 := ⟨_, rfl⟩
          have key : xc = 2 ∨ xc = 3 ∨ (xc ≠ 2 ∧ xc ≠ 3) := by omega
          rcases key with h2 | h3 | ⟨n2, n3⟩
          · subst h2
            have hk63 := hkm (.inl rfl)
            have hX := show outM ⟨2, xy, xn, xk⟩ m = bits .or .i64 m (wrap64 (2 ^ xk.toNat)) from by simp [outM]
            clear hkm
            go_wp2_with fail
            generalize bits .or .i64 m (wrap64 (2 ^ xk.toNat)) = m' at hX ⊢
            have HX := Lib.hid hX
            clear hX
            refine (HQ.out _ HI.out).mono ?_
            rintro e w3 ⟨u, rfl, ho3, hb3⟩
            obtain ⟨ua, ucap, rfl⟩ := OwnL.slice ho3
            have hnl := OwnL.cap_le ho3
            unfold maxLen at hnl
            have hM3 := Lib.hid (own_below HM.out hb3)
            have hW3 := Lib.hid (HW.out.trans (hb3.mono HW.out.size))
            have hO3 := Lib.hid (hB3 ▸ ho3 : IntOwn B3 w3 _ nx)
            have hg3 := Nat.lt_of_lt_of_le hgs hb3.size
            clear ho3 hb3 d0 f0 c0 c1 c2 c3
            go_wp2_with fail
            go_loopw [8] (fun q ws => ∃ j : Nat, j ≤ nx.length ∧ q = .int .i64 j ∧ ws.ownsRow w.heap.size 2 1 (.slice (some ⟨w.heap.size, 0, none⟩) l.length l.length) l.length (((nx.take j).foldl (passM m') ms).flatMap numC) ∧ IntOwn B3 ws (.slice ua nx.length ucap) nx ∧ Below w.heap.size w ws ∧ w.heap.size < ws.heap.size)
              (fun q _ => nx.length - (intOf q).toNat)
            case atStart => exact ⟨0, by omega, rfl, hM3.out, hO3.out, hW3.out, hg3⟩
            case round =>
              obtain ⟨j, hj, rfl, hown, hont, hbj, hgj⟩ := hrel
              by_cases hjl : j < nx.length
              · obtain ⟨ub, uo, e, hub, hcell, _⟩ := LAt.at_ (intAt_own hont) (List.getElem?_eq_getElem hjl)
                subst e
                have d := hcell 0 _ rfl
                simp only [Nat.mul_one, Nat.add_zero] at d
                clear hcell
                obtain ⟨ht0, ht1⟩ := HT.out nx[j] (List.getElem_mem hjl)
                have hnext := foldM_next (m := m') (ms := ms) hjl
                obtain ⟨tn, htn⟩ := Int.eq_ofNat_of_zero_le ht0
                rw [htn] at d ht1 hnext
                have htl : tn < l.length := by omega
                have hfl : ((nx.take j).foldl (passM m') ms).length = l.length := by rw [foldM_length]; exact hms
                obtain ⟨mm, hmm⟩ : ∃ mm, ((nx.take j).foldl (passM m') ms)[tn]? = some mm := ⟨_, List.getElem?_eq_getElem (by omega)⟩
                obtain ⟨dm, fm⟩ := int_at hown hmm
                have hset := int_set hown (i := tn) (by omega) (bits .and .i64 mm m')
                rw [show ((nx.take j).foldl (passM m') ms).set tn (bits .and .i64 mm m') = (nx.take (j + 1)).foldl (passM m') ms by
                  rw [hnext, passM, Int.toNat_natCast, List.getD_eq_getElem?_getD, hmm]; rfl] at hset
                have hbX : ∀ u0 : Value, Below w.heap.size w (wr.setCell ⟨w.heap.size, tn, none⟩ u0).drew := fun u0 => (hbj.setCell (p := ⟨w.heap.size, tn, none⟩) (Nat.le_refl _) _).drew
                have hoX : ∀ u0 : Value, IntOwn B3 (wr.setCell ⟨w.heap.size, tn, none⟩ u0).drew (.slice (some ⟨ub, uo, none⟩) nx.length ucap) nx := fun u0 => OwnL.setBelow hont (a := ⟨w.heap.size, tn, none⟩) (by rw [← hB3]; exact hgs) u0
                have HSJ := Lib.hid hset
                have HBJ := Lib.hid hbX
                have HOJ := Lib.hid hoX
                clear hset hbX hoX hown hont hbj hmm hfl hnext htn
                go_wp2_with fail
                refine wp_region_still_tail 15 (by kernel_rfl) (by kernel_rfl) ?_
                simp only [List.take_succ_cons, List.take_zero, List.drop_succ_cons, List.drop_zero, World.drew_eq]
                repeat still_step
                refine wpStill_nil ?_
                go_wp2_with fail
                go_roundw
                case rel => exact ⟨j + 1, by omega, by go_num, HSJ.out, HOJ.out _, HBJ.out _, by simpa using hgj⟩
                case measure => simp [intOf]; omega
              · have hF := Lib.hid (show wr.ownsRow w.heap.size 2 1 (.slice (some ⟨w.heap.size, 0, none⟩) l.length l.length) l.length ((wrK l (k + 1)).flatMap numC) by
                  rw [HS.out, HX.out]
                  rw [List.take_of_length_le (by omega)] at hown
                  exact hown)
                clear hown hont
                go_wp2_with fail
                go_roundw
                case rel => exact ⟨k + 1, by omega, by go_num, hF.out, hbj, hgj⟩
                case measure => simp [intOf]; omega
          · subst h3
            have hk63 := hkm (.inr rfl)
            have hX := show outM ⟨3, xy, xn, xk⟩ m = bits .or .i64 m (wrap64 (2 ^ xk.toNat)) from by simp [outM]
            clear hkm
            go_wp2_with fail
            generalize bits .or .i64 m (wrap64 (2 ^ xk.toNat)) = m' at hX ⊢
            have HX := Lib.hid hX
            clear hX
            refine (HQ.out _ HI.out).mono ?_
            rintro e w3 ⟨u, rfl, ho3, hb3⟩
            obtain ⟨ua, ucap, rfl⟩ := OwnL.slice ho3
            have hnl := OwnL.cap_le ho3
            unfold maxLen at hnl
            have hM3 := Lib.hid (own_below HM.out hb3)
            have hW3 := Lib.hid (HW.out.trans (hb3.mono HW.out.size))
            have hO3 := Lib.hid (hB3 ▸ ho3 : IntOwn B3 w3 _ nx)
            have hg3 := Nat.lt_of_lt_of_le hgs hb3.size
            clear ho3 hb3 d0 f0 c0 c1 c2 c3
            go_wp2_with fail
            go_loopw [8] (fun q ws => ∃ j : Nat, j ≤ nx.length ∧ q = .int .i64 j ∧ ws.ownsRow w.heap.size 2 1 (.slice (some ⟨w.heap.size, 0, none⟩) l.length l.length) l.length (((nx.take j).foldl (passM m') ms).flatMap numC) ∧ IntOwn B3 ws (.slice ua nx.length ucap) nx ∧ Below w.heap.size w ws ∧ w.heap.size < ws.heap.size)
              (fun q _ => nx.length - (intOf q).toNat)
            case atStart => exact ⟨0, by omega, rfl, hM3.out, hO3.out, hW3.out, hg3⟩
            case round =>
              obtain ⟨j, hj, rfl, hown, hont, hbj, hgj⟩ := hrel
              by_cases hjl : j < nx.length
              · obtain ⟨ub, uo, e, hub, hcell, _⟩ := LAt.at_ (intAt_own hont) (List.getElem?_eq_getElem hjl)
                subst e
                have d := hcell 0 _ rfl
                simp only [Nat.mul_one, Nat.add_zero] at d
                clear hcell
                obtain ⟨ht0, ht1⟩ := HT.out nx[j] (List.getElem_mem hjl)
                have hnext := foldM_next (m := m') (ms := ms) hjl
                obtain ⟨tn, htn⟩ := Int.eq_ofNat_of_zero_le ht0
                rw [htn] at d ht1 hnext
                have htl : tn < l.length := by omega
                have hfl : ((nx.take j).foldl (passM m') ms).length = l.length := by rw [foldM_length]; exact hms
                obtain ⟨mm, hmm⟩ : ∃ mm, ((nx.take j).foldl (passM m') ms)[tn]? = some mm := ⟨_, List.getElem?_eq_getElem (by omega)⟩
                obtain ⟨dm, fm⟩ := int_at hown hmm
                have hset := int_set hown (i := tn) (by omega) (bits .and .i64 mm m')
                rw [show ((nx.take j).foldl (passM m') ms).set tn (bits .and .i64 mm m') = (nx.take (j + 1)).foldl (passM m') ms by
                  rw [hnext, passM, Int.toNat_natCast, List.getD_eq_getElem?_getD, hmm]; rfl] at hset
                have hbX : ∀ u0 : Value, Below w.heap.size w (wr.setCell ⟨w.heap.size, tn, none⟩ u0).drew := fun u0 => (hbj.setCell (p := ⟨w.heap.size, tn, none⟩) (Nat.le_refl _) _).drew
                have hoX : ∀ u0 : Value, IntOwn B3 (wr.setCell ⟨w.heap.size, tn, none⟩ u0).drew (.slice (some ⟨ub, uo, none⟩) nx.length ucap) nx := fun u0 => OwnL.setBelow hont (a := ⟨w.heap.size, tn, none⟩) (by rw [← hB3]; exact hgs) u0
                have HSJ := Lib.hid hset
                have HBJ := Lib.hid hbX
                have HOJ := Lib.hid hoX
                clear hset hbX hoX hown hont hbj hmm hfl hnext htn
                go_wp2_with fail
                refine wp_region_still_tail 15 (by kernel_rfl) (by kernel_rfl) ?_
                simp only [List.take_succ_cons, List.take_zero, List.drop_succ_cons, List.drop_zero, World.drew_eq]
                repeat still_step
                refine wpStill_nil ?_
                go_wp2_with fail
                go_roundw
                case rel => exact ⟨j + 1, by omega, by go_num, HSJ.out, HOJ.out _, HBJ.out _, by simpa using hgj⟩
                case measure => simp [intOf]; omega
              · have hF := Lib.hid (show wr.ownsRow w.heap.size 2 1 (.slice (some ⟨w.heap.size, 0, none⟩) l.length l.length) l.length ((wrK l (k + 1)).flatMap numC) by
                  rw [HS.out, HX.out]
                  rw [List.take_of_length_le (by omega)] at hown
                  exact hown)
                clear hown hont
                go_wp2_with fail
                go_roundw
                case rel => exact ⟨k + 1, by omega, by go_num, hF.out, hbj, hgj⟩
                case measure => simp [intOf]; omega
          · have e2 := eq_false_of n2
            have e3 := eq_false_of n3
            have hX := show outM ⟨xc, xy, xn, xk⟩ m = m from by simp [outM, n2, n3]
            clear hkm n2 n3
            go_wp2_with fail
            have HX := Lib.hid hX
            clear hX
            refine (HQ.out _ HI.out).mono ?_
            rintro e w3 ⟨u, rfl, ho3, hb3⟩
            obtain ⟨ua, ucap, rfl⟩ := OwnL.slice ho3
            have hnl := OwnL.cap_le ho3
            unfold maxLen at hnl
            have hM3 := Lib.hid (own_below HM.out hb3)
            have hW3 := Lib.hid (HW.out.trans (hb3.mono HW.out.size))
            have hO3 := Lib.hid (hB3 ▸ ho3 : IntOwn B3 w3 _ nx)
            have hg3 := Nat.lt_of_lt_of_le hgs hb3.size
            clear ho3 hb3 d0 f0 c0 c1 c2 c3
            go_wp2_with fail
            go_loopw [8] (fun q ws => ∃ j : Nat, j ≤ nx.length ∧ q = .int .i64 j ∧ ws.ownsRow w.heap.size 2 1 (.slice (some ⟨w.heap.size, 0, none⟩) l.length l.length) l.length (((nx.take j).foldl (passM m) ms).flatMap numC) ∧ IntOwn B3 ws (.slice ua nx.length ucap) nx ∧ Below w.heap.size w ws ∧ w.heap.size < ws.heap.size)
              (fun q _ => nx.length - (intOf q).toNat)
            case atStart => exact ⟨0, by omega, rfl, hM3.out, hO3.out, hW3.out, hg3⟩
            case round =>
              obtain ⟨j, hj, rfl, hown, hont, hbj, hgj⟩ := hrel
              by_cases hjl : j < nx.length
              · obtain ⟨ub, uo, e, hub, hcell, _⟩ := LAt.at_ (intAt_own hont) (List.getElem?_eq_getElem hjl)
                subst e
                have d := hcell 0 _ rfl
                simp only [Nat.mul_one, Nat.add_zero] at d
                clear hcell
                obtain ⟨ht0, ht1⟩ := HT.out nx[j] (List.getElem_mem hjl)
                have hnext := foldM_next (m := m) (ms := ms) hjl
                obtain ⟨tn, htn⟩ := Int.eq_ofNat_of_zero_le ht0
                rw [htn] at d ht1 hnext
                have htl : tn < l.length := by omega
                have hfl : ((nx.take j).foldl (passM m) ms).length = l.length := by rw [foldM_length]; exact hms
                obtain ⟨mm, hmm⟩ : ∃ mm, ((nx.take j).foldl (passM m) ms)[tn]? = some mm := ⟨_, List.getElem?_eq_getElem (by omega)⟩
                obtain ⟨dm, fm⟩ := int_at hown hmm
                have hset := int_set hown (i := tn) (by omega) (bits .and .i64 mm m)
                rw [show ((nx.take j).foldl (passM m) ms).set tn (bits .and .i64 mm m) = (nx.take (j + 1)).foldl (passM m) ms by
                  rw [hnext, passM, Int.toNat_natCast, List.getD_eq_getElem?_getD, hmm]; rfl] at hset
                have hbX : ∀ u0 : Value, Below w.heap.size w (wr.setCell ⟨w.heap.size, tn, none⟩ u0).drew := fun u0 => (hbj.setCell (p := ⟨w.heap.size, tn, none⟩) (Nat.le_refl _) _).drew
                have hoX : ∀ u0 : Value, IntOwn B3 (wr.setCell ⟨w.heap.size, tn, none⟩ u0).drew (.slice (some ⟨ub, uo, none⟩) nx.length ucap) nx := fun u0 => OwnL.setBelow hont (a := ⟨w.heap.size, tn, none⟩) (by rw [← hB3]; exact hgs) u0
                have HSJ := Lib.hid hset
                have HBJ := Lib.hid hbX
                have HOJ := Lib.hid hoX
                clear hset hbX hoX hown hont hbj hmm hfl hnext htn
                go_wp2_with fail
                refine wp_region_still_tail 15 (by kernel_rfl) (by kernel_rfl) ?_
                simp only [List.take_succ_cons, List.take_zero, List.drop_succ_cons, List.drop_zero, World.drew_eq]
                repeat still_step
                refine wpStill_nil ?_
                go_wp2_with fail
                go_roundw
                case rel => exact ⟨j + 1, by omega, by go_num, HSJ.out, HOJ.out _, HBJ.out _, by simpa using hgj⟩
                case measure => simp [intOf]; omega
              · have hF := Lib.hid (show wr.ownsRow w.heap.size 2 1 (.slice (some ⟨w.heap.size, 0, none⟩) l.length l.length) l.length ((wrK l (k + 1)).flatMap numC) by
                  rw [HS.out, HX.out]
                  rw [List.take_of_length_le (by omega)] at hown
                  exact hown)
                clear hown hont
                go_wp2_with fail
                go_roundw
                case rel => exact ⟨k + 1, by omega, by go_num, hF.out, hbj, hgj⟩
                case measure => simp [intOf]; omega
        · have hO := Lib.hid (show OwnL 2 1 numC w.heap.size wr (.slice (some ⟨w.heap.size, 0, none⟩) l.length l.length) (wrL l) by
            have e : k = l.length := by omega
            subst e
            unfold OwnL wrL
            rw [wrK_length]
            exact hown)
          clear hown
          go_wp2_with fail
          go_ret
          exact ⟨_, rfl, hO.out, hbs⟩

end Go.Proofs.YtekmnopgaopmlaaGreatDoor

/- Check of the model walked. -/
set_option maxRecDepth 100000
set_option linter.unusedSimpArgs false
namespace Go.Proofs.YtekmnopgaopmlaaGreatDoor
open Go.RowKit

def badP (l : List Ins) (i : Nat) : Bool := match l[i]? with
  | some x => badI l.length i x != 0
  | none => false
def unI (l : List Ins) (i : Nat) (x : Ins) : Bool := readsC x.c && (bits .and .i64 ((wrL l).getD i 0 / 2 ^ x.k.toNat) 1 == 0)
def unP (l : List Ins) (i : Nat) : Bool := match l[i]? with
  | some x => unI l i x
  | none => false
def endC (c : Int) : Bool := c == 6 || c == 22
def badAt (l : List Ins) (i : Nat) : Int := match l[i]? with
  | some x => badI l.length i x
  | none => 0
def lastEnds (l : List Ins) : Bool := match l[l.length - 1]? with
  | some x => endC x.c
  | none => false
def checkL (l : List Ins) : Int × Int :=
  if 400 < l.length then (0, 2)
  else if l.length = 0 then (0, 1)
  else if lastEnds l = false then ((l.length - 1 : Nat), 1)
  else match (List.range l.length).find? (badP l) with
    | some i => (i, badAt l i)
    | none => match (List.range l.length).find? (unP l) with
      | some i => (i, 6)
      | none => (0, 0)
theorem find_hit {p : Nat → Bool} {n k : Nat} (h : ∀ j, j < k → p j = false) (hk : k < n) (hp : p k = true) : (List.range n).find? p = some k := by
  rw [List.find?_range_eq_some]
  exact ⟨hp, List.mem_range.2 hk, fun j hj => by simp [h j hj]⟩
theorem find_none {p : Nat → Bool} {n : Nat} (h : ∀ j, j < n → p j = false) : (List.range n).find? p = none := by
  rw [List.find?_range_eq_none]
  exact fun j hj => by simp [h j hj]
theorem below_next {p : Nat → Bool} {k : Nat} (h : ∀ j, j < k → p j = false) (hk : p k = false) : ∀ j, j < k + 1 → p j = false := fun j hj => by
  rcases Nat.lt_or_ge j k with hl | hl
  · exact h j hl
  · obtain rfl : j = k := by omega
    exact hk

/-- What a word's being right brings. -/
theorem bad_zero {n i : Nat} {x : Ins} (h : badI n i x = 0) : insRight x = true ∧ (cellC x.c = true → x.k ≤ 15) ∧ ∀ t ∈ nextI x i, 0 ≤ t ∧ t < n := by
  unfold badI at h
  cases hr : insRight x <;> rw [hr] at h
  · simp at h
  simp only [Bool.true_eq_false, if_false] at h
  split at h
  · omega
  split at h
  · omega
  rename_i hg
  split at h
  · omega
  rename_i hf
  refine ⟨rfl, fun hc => ?_, fun t ht => ?_⟩
  · simp only [rangeBad, hc, Bool.true_and, Bool.or_eq_true, not_or, decide_eq_true_eq] at hg
    omega
  · have h1 : t < (n : Int) := by
      simp only [farBad, List.any_eq_true, decide_eq_true_eq, not_exists, not_and] at hf
      have := hf t ht
      omega
    refine ⟨?_, h1⟩
    have hb := ins_bd hr
    obtain ⟨_, ⟨hy, _⟩, ⟨hn, _⟩, ⟨hk, _⟩⟩ := hb
    unfold nextI at ht
    split at ht
    · simp at ht
    split at ht
    · simp at ht; omega
    split at ht
    · split at ht
      · simp at ht; omega
      · simp only [List.mem_cons, List.not_mem_nil, or_false] at ht
        rcases ht with rfl | rfl <;> split <;> omega
    · simp at ht; omega

set_option maxHeartbeats 3200000 in
theorem Check_any (v : Value) (l : List Ins) (w : World) (h : InsAt w w.heap.size v l) :
    Calls Tryz.prog 11 #[v] w fun e w' => e = .returned (.agg #[.int .i64 (checkL l).1, .int .i64 (checkL l).2]) ∧ Below w.heap.size w w' := by
  obtain ⟨a, cap, rfl, hlc, hcm⟩ := h.len
  unfold maxLen at hcm
  by_cases h400 : 400 < l.length
  · have HA := Lib.hid (show checkL l = (0, 2) by unfold checkL; rw [if_pos h400])
    clear h
    go_enter Tryz.func11, Tryz.ntmps11
    go_wp2_with fail
    exact bodyPost_ret (v := .agg #[.int .i64 0, .int .i64 2]) (by simp [results, Tryz.results11, go_sem]) rfl ⟨by rw [HA.out], (Below.refl _ _).alloc (Nat.le_refl _) _⟩
  by_cases h0 : l.length = 0
  · have HA := Lib.hid (show checkL l = (0, 1) by unfold checkL; rw [if_neg h400, if_pos h0])
    clear h
    rw [h0] at *
    clear h0
    go_enter Tryz.func11, Tryz.ntmps11
    go_wp2_with fail
    exact bodyPost_ret (v := .agg #[.int .i64 0, .int .i64 1]) (by simp [results, Tryz.results11, go_sem]) rfl ⟨by rw [HA.out], (Below.refl _ _).alloc (Nat.le_refl _) _⟩
  have hA0 : checkL l = if lastEnds l = false then (((l.length - 1 : Nat) : Int), 1) else match (List.range l.length).find? (badP l) with
    | some i => (i, badAt l i)
    | none => match (List.range l.length).find? (unP l) with
      | some i => (i, 6)
      | none => (0, 0) := by unfold checkL; rw [if_neg h400, if_neg h0]
  have hlast : l.length - 1 < l.length := by omega
  have hq0 : ((l.length : Int) == 0) = false := beq_eq_false_iff_ne.2 (by omega)
  have hq4 : decide ((400 : Int) < (l.length : Int)) = false := decide_eq_false (by omega)
  have hsub : ((l.length : Int) - 1) = ((l.length - 1 : Nat) : Int) := by omega
  have hle : lastEnds l = endC (l[l.length - 1]).c := by unfold lastEnds; rw [List.getElem?_eq_getElem hlast]
  have HH := Lib.hid h
  obtain ⟨b, o, e, hb, c0, c1, c2, c3, hwf⟩ := h.at_ (List.getElem?_eq_getElem hlast)
  subst e
  generalize hx : l[l.length - 1] = x at *
  obtain ⟨xc, xy, xn, xk⟩ := x
  simp only at c0 c1 c2 c3 hle
  rw [hle] at hA0
  by_cases hend : xc = 6 ∨ xc = 22
  · have hec : endC xc = true := by simpa [endC] using hend
    rw [if_neg (by simp [hec])] at hA0
    have HA0 := Lib.hid hA0
    have q1 : xc = 6 ∨ xc = 22 := hend
    clear h hend hec hA0 hle hx hwf
    go_enter Tryz.func11, Tryz.ntmps11
    go_upto_region 6 with fail
    go_cut [31] from 16 to 31 (fun s ws => s = .bool false ∧ ws = (w.alloc (.cells #[.int .i64 0, .int .i64 0] 26)))
    case first =>
      rcases q1 with rfl | rfl
      · go_wp2_with fail
        go_meet
        exact ⟨rfl, rfl⟩
      · go_wp2_with fail
        go_meet
        exact ⟨rfl, rfl⟩
    case rest =>
    obtain ⟨rfl, rfl⟩ := hcut
    clear c0 c1 c2 c3 q1 hsub hlast
    go_wp2_with fail
    go_loopw [4] (fun i wr => ∃ k : Nat, k ≤ l.length ∧ i = .int .i64 k ∧ (∀ j, j < k → badP l j = false) ∧ Below (w.alloc (.cells #[.int .i64 0, .int .i64 0] 26)).heap.size (w.alloc (.cells #[.int .i64 0, .int .i64 0] 26)) wr) (fun i _ => l.length - (intOf i).toNat)
    case atStart => exact ⟨0, by omega, rfl, fun j hj => by omega, Below.refl _ _⟩
    case round =>
      obtain ⟨k, hk, rfl, hgood, hbw⟩ := hrel
      have HG := Lib.hid hgood
      have HB := Lib.hid hbw
      clear hgood hbw
      by_cases hlt : k < l.length
      · have HI := Lib.hid ((HH.out.below (box_below HB.out)).up (box_below HB.out).size)
        have hq := fun W (hW : InsAt W W.heap.size _ l) => l04Bad_any (.slice (some ⟨b, o, none⟩) l.length cap) l k l[k] W hW (List.getElem?_eq_getElem hlt) (by omega)
        have hbd : badP l k = (badI l.length k l[k] != 0) := by unfold badP; rw [List.getElem?_eq_getElem hlt]
        have hba : badAt l k = badI l.length k l[k] := by unfold badAt; rw [List.getElem?_eq_getElem hlt]
        generalize badI l.length k l[k] = bd at *
        by_cases hz : bd = 0
        · subst hz
          have HN := Lib.hid (below_next HG.out (by rw [hbd]; rfl))
          have HQ := Lib.hid hq
          clear hq hbd hba
          go_wp2_with fail
          refine (HQ.out _ HI.out).mono ?_
          rintro e w3 ⟨rfl, hb3⟩
          have HB3 := Lib.hid (HB.out.trans (hb3.mono HB.out.size))
          clear hb3
          go_wp2_with fail
          go_roundw
          case rel => exact ⟨k + 1, by omega, by go_num, HN.out, HB3.out⟩
          case measure => simp [intOf]; omega
        · have hz1 : (bd != 0) = true := by simpa using hz
          have HA := Lib.hid (show checkL l = ((k : Int), bd) by rw [HA0.out, find_hit HG.out hlt (by rw [hbd]; exact hz1)]; simp only [hba])
          have HQ := Lib.hid hq
          clear hq hbd hba hz
          go_wp2_with fail
          refine (HQ.out _ HI.out).mono ?_
          rintro e w3 ⟨rfl, hb3⟩
          have hb4 := HB.out.trans (hb3.mono HB.out.size)
          have HB3 := Lib.hid hb4
          have d0 := box_cell hb4 0
          have d1 := box_cell hb4 1
          have f0 := box_free hb4 0
          have f1 := box_free hb4 1
          simp only [List.getElem?_toArray, List.getElem?_cons_zero, List.getElem?_cons_succ] at d0 d1
          clear hb3 hb4
          go_wp2_with fail
          exact bodyPost_ret (v := .agg #[.int .i64 k, .int .i64 bd]) (by simp [results, Tryz.results11, go_sem, d0, d1, f0, f1]) rfl ⟨by rw [HA.out], ((box_below HB3.out).setCell (Nat.le_refl _) _).setCell (Nat.le_refl _) _⟩
      · have hkl : k = l.length := by omega
        rw [hkl] at HG
        have hA1 := HA0.out
        rw [find_none HG.out] at hA1
        have HA1 := Lib.hid hA1
        have HOK := Lib.hid (fun (i : Nat) (hi : i < l.length) => bad_zero (n := l.length) (i := i) (x := l[i]) (by
          have := HG.out i hi
          unfold badP at this
          rw [List.getElem?_eq_getElem hi] at this
          simpa using this))
        have hq := l04Written_any (.slice (some ⟨b, o, none⟩) l.length cap) l wr ((HH.out.below (box_below HB.out)).up (box_below HB.out).size) (by omega) (by omega) (fun i hi => ⟨(HOK.out i hi).1, fun h23 => by
          have := (HOK.out i hi).2.1 (by rcases h23 with e | e <;> rw [e] <;> rfl)
          omega, (HOK.out i hi).2.2⟩)
        have HQ := Lib.hid hq
        clear hq hA1 HG HA0 hkl
        go_wp2_with fail
        refine HQ.out.mono ?_
        rintro e w3 ⟨u, rfl, ho3, hb3⟩
        obtain ⟨ua, ucap, rfl⟩ := OwnL.slice ho3
        have hwl := wrK_length l l.length
        rw [show (wrL l).length = l.length from hwl] at ho3 ⊢
        have HO3 := Lib.hid ho3
        have HB3 := Lib.hid (HB.out.trans (hb3.mono HB.out.size))
        clear ho3 hb3 hwl
        generalize wr.heap.size = B3 at *
        clear HQ
        go_wp2_with fail
        go_loopw [7] (fun i ws => ∃ k : Nat, k ≤ l.length ∧ i = .int .i64 k ∧ (∀ j, j < k → unP l j = false) ∧ OwnL 2 1 numC B3 ws (.slice ua l.length ucap) (wrL l) ∧ Below (w.alloc (.cells #[.int .i64 0, .int .i64 0] 26)).heap.size (w.alloc (.cells #[.int .i64 0, .int .i64 0] 26)) ws) (fun i _ => l.length - (intOf i).toNat)
        case atStart => exact ⟨0, by omega, rfl, fun j hj => by omega, HO3.out, HB3.out⟩
        case round =>
          obtain ⟨k, hk, rfl, hgood, hown, hbw⟩ := hrel
          have HG := Lib.hid hgood
          have HO := Lib.hid hown
          have HB := Lib.hid hbw
          clear hgood hown hbw HO3 HB3
          by_cases hlt : k < l.length
          · obtain ⟨b', o', e, hb', c0, c1, c2, c3, hwf⟩ := (HH.out.below (box_below HB.out)).at_ (List.getElem?_eq_getElem hlt)
            simp only [Option.some.injEq, Addr.mk.injEq, and_true] at e
            obtain ⟨rfl, rfl⟩ := e
            obtain ⟨m, hm⟩ : ∃ m, (wrL l)[k]? = some m := ⟨_, List.getElem?_eq_getElem (by rw [show (wrL l).length = l.length from wrK_length l _]; exact hlt)⟩
            obtain ⟨ub, uo, e, hub, hcell, _⟩ := LAt.at_ (n := l.length) (l := wrL l) (w := wr) (intAt_own (by have := HO.out; exact this)) hm
            subst e
            have d := hcell 0 _ rfl
            simp only [Nat.mul_one, Nat.add_zero] at d
            clear hcell
            have hun : unP l k = unI l k l[k] := by unfold unP; rw [List.getElem?_eq_getElem hlt]
            have hui : unI l k l[k] = (readsC l[k].c && (bits .and .i64 (m / 2 ^ l[k].k.toNat) 1 == 0)) := by unfold unI; rw [List.getD_eq_getElem?_getD, hm]; rfl
            have hz := HOK.out k hlt
            have hr := hz.1
            unfold insRight isB at hr
            simp only [Bool.and_eq_true, decide_eq_true_eq] at hr
            have hk0 := hr.2.1
            have hk15 := hz.2.1
            generalize hxx : l[k] = x at *
            obtain ⟨xc, xy, xn, xk⟩ := x
            simp only at c0 c1 c2 c3 hk0 hk15 hui
            generalize unI l k ⟨xc, xy, xn, xk⟩ = t at *
            have qr := fun W => l04Reads_any xc W
            have hcr : readsC xc = true → cellC xc = true := by
              simp only [readsC, cellC, List.contains_eq_mem, List.mem_cons, List.not_mem_nil, or_false, decide_eq_true_eq]
              rintro (rfl | rfl) <;> simp
            have hkr := fun hc => hk15 (hcr hc)
            generalize readsC xc = rc at *
            have HT := Lib.hid hui
            have HU := Lib.hid hun
            have QR := Lib.hid qr
            clear hui hun qr hz hr hk15 hcr hxx hm hwf
            go_upto_region 18 with fail
            go_cut [74] from 50 to 76 (fun s wx => s = .bool t ∧ OwnL 2 1 numC B3 wx (.slice (some ⟨ub, uo, none⟩) l.length ucap) (wrL l) ∧ Below (w.alloc (.cells #[.int .i64 0, .int .i64 0] 26)).heap.size (w.alloc (.cells #[.int .i64 0, .int .i64 0] 26)) wx)
            case first =>
              cases rc
              · go_quiet ((go_at_call 46; exact Calls.quiet_of_same ((QR.out _).mono fun _ _ h => ⟨h.1, h.2.symm⟩)))
                go_wp2_with fail
                go_meet
                exact ⟨congrArg Value.bool (by rw [HT.out]; rfl), HO.out, by induction nq with | zero => exact HB.out | succ n ih => exact ih.drew⟩
              · have hk15 := hkr rfl
                go_quiet ((go_at_call 46; exact Calls.quiet_of_same ((QR.out _).mono fun _ _ h => ⟨h.1, h.2.symm⟩)))
                go_wp2_with fail
                go_meet
                exact ⟨congrArg Value.bool (by rw [HT.out]; simp), HO.out, by induction nq with | zero => exact HB.out | succ n ih => exact ih.drew⟩
            case rest =>
            obtain ⟨rfl, hown, hbw⟩ := hcut
            have HO2 := Lib.hid hown
            have HB2 := Lib.hid hbw
            clear HO HB
            cases t
            · have HN := Lib.hid (below_next HG.out HU.out)
              clear hown hbw
              go_wp2_with fail
              go_roundw
              case rel => exact ⟨k + 1, by omega, by go_num, HN.out, HO2.out, HB2.out⟩
              case measure => simp [intOf]; omega
            · have HA := Lib.hid (show checkL l = ((k : Int), 6) by rw [HA1.out, find_hit HG.out hlt HU.out])
              have d0 := box_cell hbw 0
              have d1 := box_cell hbw 1
              have f0 := box_free hbw 0
              have f1 := box_free hbw 1
              simp only [List.getElem?_toArray, List.getElem?_cons_zero, List.getElem?_cons_succ] at d0 d1
              clear hown hbw
              go_wp2_with fail
              exact bodyPost_ret (v := .agg #[.int .i64 k, .int .i64 6]) (by simp [results, Tryz.results11, go_sem, d0, d1, f0, f1]) rfl ⟨by rw [HA.out], ((box_below HB2.out).setCell (Nat.le_refl _) _).setCell (Nat.le_refl _) _⟩
          · have hkl : k = l.length := by omega
            rw [hkl] at HG
            have HA := Lib.hid (show checkL l = (0, 0) by rw [HA1.out, find_none HG.out])
            have hbw := HB.out
            have d0 := box_cell hbw 0
            have d1 := box_cell hbw 1
            have f0 := box_free hbw 0
            have f1 := box_free hbw 1
            simp only [List.getElem?_toArray, List.getElem?_cons_zero, List.getElem?_cons_succ] at d0 d1
            clear hbw hkl HG
            go_wp2_with fail
            exact bodyPost_ret (v := .agg #[.int .i64 0, .int .i64 0]) (by simp [results, Tryz.results11, go_sem, d0, d1, f0, f1]) rfl ⟨by rw [HA.out], ((box_below HB.out).setCell (Nat.le_refl _) _).setCell (Nat.le_refl _) _⟩
  · have hec : endC xc = false := by simpa [endC] using hend
    have HA := Lib.hid (hA0.trans (if_pos hec))
    have n6 := eq_false_of (fun e => hend (.inl e))
    have n22 := eq_false_of (fun e => hend (.inr e))
    have q6 : (xc != 6) = true := by simpa using n6
    have q22 : (xc != 22) = true := by simpa using n22
    clear h hend hec hA0 hle hx n6 n22 hwf
    go_enter Tryz.func11, Tryz.ntmps11
    go_wp2_with fail
    exact bodyPost_ret (v := .agg #[.int .i64 ((l.length - 1 : Nat) : Int), .int .i64 1]) (by simp [results, Tryz.results11, go_sem]) rfl ⟨by rw [HA.out], (Below.refl _ _).alloc (Nat.le_refl _) _⟩

end Go.Proofs.YtekmnopgaopmlaaGreatDoor

/- Masks of sixteen cells as numbers of u16, and as the model's of i64. No program is read here. -/
set_option maxRecDepth 100000
namespace Go.Proofs.YtekmnopgaopmlaaGreatDoor
open Go.RowKit

theorem and_u16_nat (a b : Nat) (ha : a < 65536) (hb : b < 65536) : bits .and .u16 (a : Int) (b : Int) = ((a &&& b : Nat) : Int) := by
  have hx : a &&& b < 2 ^ 16 := Nat.and_lt_two_pow _ (by omega)
  show IntKind.u16.wrap ((BitVec.ofInt 16 (a : Int) &&& BitVec.ofInt 16 (b : Int)).toNat : Int) = _
  rw [BitVec.toNat_and, ofInt_toNat 16 a (by omega), ofInt_toNat 16 b (by omega), IntKind.wrap_u16]
  omega
theorem or_u16_nat (a b : Nat) (ha : a < 65536) (hb : b < 65536) : bits .or .u16 (a : Int) (b : Int) = ((a ||| b : Nat) : Int) := by
  have hx : a ||| b < 2 ^ 16 := Nat.or_lt_two_pow (by omega) (by omega)
  show IntKind.u16.wrap ((BitVec.ofInt 16 (a : Int) ||| BitVec.ofInt 16 (b : Int)).toNat : Int) = _
  rw [BitVec.toNat_or, ofInt_toNat 16 a (by omega), ofInt_toNat 16 b (by omega), IntKind.wrap_u16]
  omega
/-- Is it a mask of sixteen cells? -/
def M16 (a : Int) : Prop := 0 ≤ a ∧ a ≤ 65535
theorem and_u16 {a b : Int} (ha : M16 a) (hb : M16 b) : bits .and .u16 a b = bits .and .i64 a b ∧ M16 (bits .and .i64 a b) := by
  obtain ⟨m, rfl⟩ := Int.eq_ofNat_of_zero_le ha.1
  obtain ⟨n, rfl⟩ := Int.eq_ofNat_of_zero_le hb.1
  have h1 := ha.2
  have h2 := hb.2
  rw [and_u16_nat m n (by omega) (by omega), and_i64_nat m n (by omega) (by omega)]
  have hx : m &&& n < 2 ^ 16 := Nat.and_lt_two_pow _ (by omega)
  exact ⟨rfl, by unfold M16; omega⟩
theorem or_u16 {a b : Int} (ha : M16 a) (hb : M16 b) : bits .or .u16 a b = bits .or .i64 a b ∧ M16 (bits .or .i64 a b) := by
  obtain ⟨m, rfl⟩ := Int.eq_ofNat_of_zero_le ha.1
  obtain ⟨n, rfl⟩ := Int.eq_ofNat_of_zero_le hb.1
  have h1 := ha.2
  have h2 := hb.2
  rw [or_u16_nat m n (by omega) (by omega), or_i64_nat m n (by omega) (by omega)]
  have hx : m ||| n < 2 ^ 16 := Nat.or_lt_two_pow (by omega) (by omega)
  exact ⟨rfl, by unfold M16; omega⟩
theorem pow_m16 {k : Int} (h : k ≤ 15) : M16 (2 ^ k.toNat) ∧ wrap64 (2 ^ k.toNat) = 2 ^ k.toNat ∧ IntKind.u16.wrap (2 ^ k.toNat) = 2 ^ k.toNat := by
  have hk : k.toNat ≤ 15 := by omega
  generalize k.toNat = n at *
  have hp : (2 : Int) ^ n = ((2 ^ n : Nat) : Int) := by norm_cast
  have hn : 2 ^ n ≤ 2 ^ 15 := Nat.pow_le_pow_right (by omega) hk
  rw [hp]
  generalize 2 ^ n = p at *
  have hm : M16 (p : Int) := by unfold M16; omega
  refine ⟨hm, ?_, ?_⟩
  · unfold M16 at hm; unfold wrap64; omega
  · unfold M16 at hm; rw [IntKind.wrap_u16]; omega
theorem outM_m16 {x : Ins} {m : Int} (hm : M16 m) (hk : x.c = 2 ∨ x.c = 3 → x.k ≤ 15) : M16 (outM x m) := by
  unfold outM
  split
  · rename_i h
    have := pow_m16 (hk h)
    rw [this.2.1]
    exact (or_u16 hm this.1).2
  · exact hm
theorem getD_m16 {ms : List Int} (h : ∀ a ∈ ms, M16 a) (i : Nat) : M16 (ms.getD i 0) := by
  rw [List.getD_eq_getElem?_getD]
  rcases Nat.lt_or_ge i ms.length with hl | hl
  · rw [List.getElem?_eq_getElem hl]
    exact h _ (List.getElem_mem hl)
  · rw [List.getElem?_eq_none hl]
    exact ⟨by decide, by decide⟩
theorem passM_m16 {m : Int} {ms : List Int} (hm : M16 m) (h : ∀ a ∈ ms, M16 a) (t : Int) : ∀ a ∈ passM m ms t, M16 a := by
  intro a ha
  rcases List.mem_or_eq_of_mem_set ha with h' | rfl
  · exact h a h'
  · exact (and_u16 (getD_m16 h _) hm).2
theorem foldM_m16 {m : Int} (hm : M16 m) : ∀ (ts ms : List Int), (∀ a ∈ ms, M16 a) → ∀ a ∈ ts.foldl (passM m) ms, M16 a
  | [], _, h => h
  | t :: ts, _, h => foldM_m16 hm ts _ (passM_m16 hm h t)
theorem wrK_m16 {l : List Ins} (hok : ∀ x ∈ l, x.c = 2 ∨ x.c = 3 → x.k ≤ 15) : ∀ k, ∀ a ∈ wrK l k, M16 a
  | 0 => by
    intro a ha
    simp only [wrK, preM, List.mem_map] at ha
    obtain ⟨j, _, rfl⟩ := ha
    split <;> exact ⟨by decide, by decide⟩
  | k + 1 => by
    unfold wrK
    split
    · rename_i x hx
      exact foldM_m16 (outM_m16 (getD_m16 (wrK_m16 hok k) _) (hok x (List.mem_of_getElem? hx))) _ _ (wrK_m16 hok k)
    · exact wrK_m16 hok k
theorem preM_all (n : Nat) (h : 1 ≤ n) : (List.replicate n (65535 : Int)).set 0 0 = preM n := by
  obtain ⟨m, rfl⟩ : ∃ m, n = m + 1 := ⟨n - 1, by omega⟩
  unfold preM
  apply List.ext_getElem
  · simp
  · intro i h1 h2
    rcases Nat.eq_zero_or_pos i with rfl | hp
    · simp
    · rw [List.getElem_set_ne (by omega)]
      simp
      omega

end Go.Proofs.YtekmnopgaopmlaaGreatDoor

/- Lists of numbers that the laws compare, mark, and find held. -/
set_option maxRecDepth 100000
set_option linter.unusedSimpArgs false
set_option linter.unusedVariables false
namespace Go.Proofs.YtekmnopgaopmlaaGreatDoor
open Go.RowKit

/-- A list of numbers as it lies in memory. -/
abbrev IntsAt (w : World) (B : Nat) (v : Value) (l : List Int) : Prop := LAt numC 1 (fun _ => True) w B v l
abbrev I64Own (base : Nat) (w : World) (v : Value) (l : List Int) : Prop := OwnL 2 1 numC base w v l
theorem IntsAt.cell {w : World} {B : Nat} {a : Option Addr} {n cap : Nat} {l : List Int} {i : Nat} {x : Int} (h : IntsAt w B (.slice a n cap) l) (hi : l[i]? = some x) : ∃ b o, a = some ⟨b, o, none⟩ ∧ b < B ∧ w.cell? ⟨b, o + i, none⟩ = some (.int .i64 x) := by
  obtain ⟨b, o, e, hb, hcell, _⟩ := LAt.at_ h hi
  subst e
  have d := hcell 0 _ rfl
  simp only [Nat.mul_one, Nat.add_zero] at d
  exact ⟨b, o, rfl, hb, d⟩

/-- The marks. -/
def markN (k : Int) (n : Nat) : List Int := (List.range n).map fun i : Nat => k + (i : Int)
theorem markN_length (k : Int) (n : Nat) : (markN k n).length = n := by simp [markN]
theorem markN_next (k : Int) (n : Nat) : markN k (n + 1) = markN k n ++ [k + (n : Int)] := by simp [markN, List.range_succ]
theorem markN_get {k : Int} {n i : Nat} (h : i < n) : (markN k n)[i]? = some (k + (i : Int)) := by simp [markN, h]
theorem markN_fill {k : Int} {l : List Int} {j : Nat} (h : j < l.length) : (markN k j ++ l.drop j)[j]? = some l[j] ∧ (markN k j ++ l.drop j).set j (k + (j : Int)) = markN k (j + 1) ++ l.drop (j + 1) := by
  constructor
  · rw [List.getElem?_append_right (by rw [markN_length]; exact Nat.le_refl _), markN_length, Nat.sub_self, List.getElem?_drop]
    simp [h]
  · rw [List.set_append_right _ _ (by rw [markN_length]; exact Nat.le_refl _), markN_length, Nat.sub_self, List.drop_eq_getElem_cons h, List.set_cons_zero, markN_next, List.append_assoc]
    rfl

end Go.Proofs.YtekmnopgaopmlaaGreatDoor

/- The program's ways: ends, looks, waysFrom. -/
set_option maxRecDepth 100000
set_option linter.unusedSimpArgs false
namespace Go.Proofs.YtekmnopgaopmlaaGreatDoor
open Go.RowKit

def endsC (c : Int) : Bool := c == 6 || c == 22
theorem int64Own_lit {base : Nat} {w : World} {H : Nat} {cs : Array Value} {l : List Int} {n : Nat} (hn : n = l.length) (hb : base ≤ w.heap.size) (hH : H = w.heap.size) (hc : cs.toList = l.flatMap numC) (hl : l.length ≤ 1000) : OwnL 2 1 numC base (w.alloc (.cells cs 2)) (.slice (some ⟨H, 0, none⟩) n n) l := by
  subst hH hn
  have := World.ownsRow_lit (base := base) (e := 2) (size := 1) w cs l.length hb (by unfold maxLen; omega) (by rw [← Array.length_toList, hc, flat_length numS])
  unfold OwnL
  rw [← hc]
  exact this

theorem ends_any (c : Int) (w : World) : Calls Tryz.prog 33 #[.int .i64 c] w fun e w' => e = .returned (.bool (endsC c)) ∧ w = w' := by
  by_cases h6 : c = 6
  · subst h6
    go_enter Tryz.func33, Tryz.ntmps33
    go_wp2
    go_ret
    exact ⟨ret_bool (by decide), rfl⟩
  by_cases h22 : c = 22
  · subst h22
    clear h6
    go_enter Tryz.func33, Tryz.ntmps33
    go_wp2
    go_ret
    exact ⟨ret_bool (by decide), rfl⟩
  · have e6 := eq_false_of h6
    have e22 := eq_false_of h22
    have HL := Lib.hid (show endsC c = false by unfold endsC; rw [e6, e22]; rfl)
    clear h6 h22
    go_enter Tryz.func33, Tryz.ntmps33
    go_wp2
    go_ret
    exact ⟨ret_bool HL.out.symm, rfl⟩

set_option maxHeartbeats 800000 in
theorem looks_any (c : Int) (w : World) : Calls Tryz.prog 80 #[.int .i64 c] w fun e w' => e = .returned (.bool (looksC c)) ∧ w = w' := by
  by_cases h : c = 21 ∨ c = 37 ∨ c = 53 ∨ c = 69 ∨ c = 29 ∨ c = 45 ∨ c = 61 ∨ c = 77
  · rcases h with rfl | rfl | rfl | rfl | rfl | rfl | rfl | rfl
    all_goals
      go_enter Tryz.func80, Tryz.ntmps80
      go_wp2
      go_ret
      exact ⟨ret_bool (by decide), rfl⟩
  · simp only [not_or] at h
    obtain ⟨h0, h1, h2, h3, h4, h5, h6, h7⟩ := h
    have HL := Lib.hid (show looksC c = false by simp [looksC, *])
    have e0 := eq_false_of h0
    have e1 := eq_false_of h1
    have e2 := eq_false_of h2
    have e3 := eq_false_of h3
    have e4 := eq_false_of h4
    have e5 := eq_false_of h5
    have e6 := eq_false_of h6
    have e7 := eq_false_of h7
    clear h0 h1 h2 h3 h4 h5 h6 h7
    go_enter Tryz.func80, Tryz.ntmps80
    go_wp2
    go_ret
    exact ⟨ret_bool HL.out.symm, rfl⟩

set_option maxHeartbeats 1600000 in
theorem waysFrom_any (x : Ins) (i : Nat) (w : World) (hl : i ≤ 1048576) (hr : insRight x = true) :
    Calls Tryz.prog 48 #[.agg #[.int .i64 x.c, .int .i64 x.y, .int .i64 x.n, .int .i64 x.k], .int .i64 i] w fun e w' => ∃ u, e = .returned u ∧ OwnL 2 1 numC w.heap.size w' u (nextI x i) ∧ Below w.heap.size w w' := by
  unfold insRight isB at hr
  simp only [Bool.and_eq_true, decide_eq_true_eq] at hr
  obtain ⟨⟨⟨hc, hy⟩, hn⟩, hk⟩ := hr
  obtain ⟨xc, xy, xn, xk⟩ := x
  simp only at hc hy hn hk ⊢
  obtain ⟨hy0, hy1⟩ := hy
  obtain ⟨hn0, hn1⟩ := hn
  obtain ⟨hk0, hk1⟩ := hk
  have qe := fun W => ends_any xc W
  cases he : endsC xc <;> rw [he] at qe
  case true =>
    have HN := Lib.hid (show nextI ⟨xc, xy, xn, xk⟩ i = [] from by
      have h := he
      simp only [endsC, Bool.or_eq_true, beq_iff_eq] at h
      simp [nextI, h])
    have QE := Lib.hid qe
    clear qe he
    go_enter Tryz.func48, Tryz.ntmps48
    go_wp2_with fail
    refine (QE.out _).mono ?_
    rintro e w1 ⟨rfl, rfl⟩
    go_wp2_with fail
    go_ret
    exact ⟨_, rfl, by rw [HN.out]; exact OwnL.nil _ _, (Below.refl _ _).alloc (Nat.le_refl _) _⟩
  simp only [endsC, Bool.or_eq_false_iff, beq_eq_false_iff_ne, ne_eq] at he
  obtain ⟨h6, h22⟩ := he
  by_cases h5 : xc = 5
  · subst h5
    have HN := Lib.hid (show nextI ⟨5, xy, xn, xk⟩ i = [(i : Int) + 1 + xk] from by simp [nextI])
    have QE := Lib.hid qe
    clear h6 h22 qe
    go_enter Tryz.func48, Tryz.ntmps48
    go_wp2_with fail
    refine (QE.out _).mono ?_
    rintro e w1 ⟨rfl, rfl⟩
    go_wp2_with fail
    go_ret
    exact ⟨_, rfl, by rw [HN.out]; exact int64Own_lit rfl (by simp) (by simp) rfl (by simp), ((Below.refl _ _).alloc (Nat.le_refl _) _).alloc (by simp) _⟩
  have e5 := eq_false_of h5
  have hq := fun W => looks_any xc W
  cases hlk : looksC xc <;> rw [hlk] at hq
  · have HN := Lib.hid (show nextI ⟨xc, xy, xn, xk⟩ i = [(i : Int) + 1] from by simp [nextI, h6, h22, h5, hlk])
    have HQ := Lib.hid hq
    have QE := Lib.hid qe
    clear h6 h22 h5 hq hlk qe
    go_enter Tryz.func48, Tryz.ntmps48
    go_wp2_with fail
    refine (QE.out _).mono ?_
    rintro e w1 ⟨rfl, rfl⟩
    go_wp2_with fail
    refine (HQ.out _).mono ?_
    rintro e w1 ⟨rfl, rfl⟩
    go_wp2_with fail
    go_ret
    exact ⟨_, rfl, by rw [HN.out]; exact int64Own_lit rfl (by simp) (by simp) rfl (by simp), ((Below.refl _ _).alloc (Nat.le_refl _) _).alloc (by simp) _⟩
  · have HN0 := Lib.hid (show nextI ⟨xc, xy, xn, xk⟩ i = (if xy = xn then [(i : Int) + 1 + xy] else [(i : Int) + 1 + min xy xn, (i : Int) + 1 + max xy xn]) from by
      simp only [nextI, h6, h22, h5, hlk, or_self, if_false, if_true]
      by_cases hxy : xy = xn
      · rw [if_pos hxy, if_pos (by omega)]
      · rw [if_neg hxy, if_neg (by omega)]
        rcases Int.lt_or_gt_of_ne hxy with h | h
        · rw [if_pos (by omega), if_neg (by omega), Int.min_eq_left (by omega), Int.max_eq_right (by omega)]
        · rw [if_neg (by omega), if_pos (by omega), Int.min_eq_right (by omega), Int.max_eq_left (by omega)])
    have HQ := Lib.hid hq
    have QE := Lib.hid qe
    clear h6 h22 h5 hq hlk qe
    by_cases heq : xy = xn
    · have hq : (xy == xn) = true := by simpa using heq
      have HN := Lib.hid (HN0.out.trans (if_pos heq))
      clear heq HN0
      go_enter Tryz.func48, Tryz.ntmps48
      go_wp2_with fail
      refine (QE.out _).mono ?_
      rintro e w1 ⟨rfl, rfl⟩
      go_wp2_with fail
      refine (HQ.out _).mono ?_
      rintro e w1 ⟨rfl, rfl⟩
      go_wp2_with fail
      go_ret
      exact ⟨_, rfl, by rw [HN.out]; exact int64Own_lit rfl (by simp) (by simp) rfl (by simp), ((Below.refl _ _).alloc (Nat.le_refl _) _).alloc (by simp) _⟩
    · have hq : (xy == xn) = false := eq_false_of heq
      have HN := Lib.hid (HN0.out.trans (if_neg heq))
      clear HN0
      rcases Int.lt_or_gt_of_ne heq with h | h
      · have H2 := Lib.hid (HN.out.trans (show [(i : Int) + 1 + min xy xn, (i : Int) + 1 + max xy xn] = [(i : Int) + 1 + xy, (i : Int) + 1 + xn] by rw [Int.min_eq_left (by omega), Int.max_eq_right (by omega)]))
        clear heq HN
        go_enter Tryz.func48, Tryz.ntmps48
        go_wp2_with fail
        refine (QE.out _).mono ?_
        rintro e w1 ⟨rfl, rfl⟩
        go_wp2_with fail
        refine (HQ.out _).mono ?_
        rintro e w1 ⟨rfl, rfl⟩
        go_wp2_with fail
        all_goals first | omega | skip
        all_goals go_ret
        all_goals exact ⟨_, rfl, by rw [H2.out]; exact int64Own_lit rfl (by simp) (by simp) rfl (by simp), ((Below.refl _ _).alloc (Nat.le_refl _) _).alloc (by simp) _⟩
      · have H2 := Lib.hid (HN.out.trans (show [(i : Int) + 1 + min xy xn, (i : Int) + 1 + max xy xn] = [(i : Int) + 1 + xn, (i : Int) + 1 + xy] by rw [Int.min_eq_right (by omega), Int.max_eq_left (by omega)]))
        clear heq HN
        go_enter Tryz.func48, Tryz.ntmps48
        go_wp2_with fail
        refine (QE.out _).mono ?_
        rintro e w1 ⟨rfl, rfl⟩
        go_wp2_with fail
        refine (HQ.out _).mono ?_
        rintro e w1 ⟨rfl, rfl⟩
        go_wp2_with fail
        all_goals first | omega | skip
        all_goals go_ret
        all_goals exact ⟨_, rfl, by rw [H2.out]; exact int64Own_lit rfl (by simp) (by simp) rfl (by simp), ((Below.refl _ _).alloc (Nat.le_refl _) _).alloc (by simp) _⟩

end Go.Proofs.YtekmnopgaopmlaaGreatDoor

/- The program's table of codes and words walked: opWords, nameOfOp, codeOfOp. -/
set_option maxRecDepth 100000
set_option linter.unusedSimpArgs false
namespace Go.Proofs.YtekmnopgaopmlaaGreatDoor
open Go.RowKit

/-- The table's cells: each code, and its word. -/
def opCells : List Value := (opCodesL.zip opNamesL).flatMap fun p => [.int .i64 p.1, .string ⟨p.2.toArray⟩]
def opArr : Array Value := opCells.toArray
/-- The same cells, of nothing yet. -/
def zeroOps : Array Value := ((List.range 34).flatMap fun _ => [.int .i64 0, .string ⟨#[]⟩]).toArray
theorem zeroOps_size : zeroOps.size = 68 := by kernel_rfl
theorem opArr_size : opArr.size = 68 := by kernel_rfl
theorem zero_ops (w : World) : (zeroValue 141).run Tryz.prog w = .ok (.agg zeroOps) w := by kernel_rfl
theorem wpList_build_to {P : Program} {ops : Array Oper} {rest : List Oper} {o : Oper} {a : Act} {w : World} {Q : Exit → Act → World → Prop} (hg : o.guard = none) (t : TypeId) (parts : Array (Nat × Operand)) (cells : Array Value) (ho : o.op = .build t parts)
    (hf : P.built t (parts.map fun (i, x) => (i, a.eval x)).toList = some cells)
    (h : wpList P ops Q rest (a.put o.dst (.agg cells)) w) : wpList P ops Q (o :: rest) a w :=
  wpList_build hg t parts ho (by rw [hf]; rfl) (by rw [hf]; exact h)

theorem below_setRow {B g : Nat} {a w : World} (h : Below B a w) (hg : B ≤ g) (cs : Array Value) : Below B a (w.setRow g cs) :=
  ⟨h.os, h.tape, h.output, by rw [setRow_size]; exact h.size, fun k hk => (setRow_other w g k cs (by omega)).trans (h.block k hk)⟩

set_option maxHeartbeats 1600000 in
theorem opWords_any (w : World) : Calls Tryz.prog 91 #[] w fun e w' => e = .returned (.agg opArr) ∧ Below w.heap.size w w' := by
  have hz := zero_ops
  have hrow : (w.alloc (.cells zeroOps 141)).heap[w.heap.size]? = some (.cells zeroOps 141 (0, 0)) := by simp only [World.alloc, Array.getElem?_push_size]
  have hnew := setRow_heap _ w.heap.size zeroOps opArr 141 (0, 0) hrow
  have hld := fun (_ : Unit) => run_loadVar_row (P := Tryz.prog) _ w.heap.size 141 141 opArr (0, 0) _ hnew Tryz.underlying141 rfl (by kernel_rfl)
  have HL := Lib.hid (hld ())
  have HR := Lib.hid hrow
  clear hrow hnew hld
  go_enter Tryz.func91, Tryz.ntmps91
  go_wp2_with (first
    | (refine wpList_build_to rfl 141 _ opArr rfl (by kernel_rfl) ?_)
    | (refine wpList_store_row rfl 141 _ _ rfl w.heap.size opArr rfl rfl 141 zeroOps HR.out (by kernel_rfl) (by kernel_rfl) (by kernel_rfl) ?_))
  have hl := HL.out
  exact bodyPost_ret (v := .agg opArr) (by simp [results, Tryz.results91, Act.put, asAddr, hl]) rfl ⟨rfl, below_setRow ((Below.refl _ _).alloc (Nat.le_refl _) _) (Nat.le_refl _) _⟩

theorem idx_op : ∀ (k : Nat) (hk : k < 34) (w : World), (Instr.index 141 (.agg opArr) (.int .i64 k)).run Tryz.prog w = .ok (.agg #[.int .i64 (opCodesL[k]'(by exact hk)), .string ⟨(opNamesL[k]'(by exact hk)).toArray⟩]) w
  | 0, _, _ => by kernel_rfl
  | 1, _, _ => by kernel_rfl
  | 2, _, _ => by kernel_rfl
  | 3, _, _ => by kernel_rfl
  | 4, _, _ => by kernel_rfl
  | 5, _, _ => by kernel_rfl
  | 6, _, _ => by kernel_rfl
  | 7, _, _ => by kernel_rfl
  | 8, _, _ => by kernel_rfl
  | 9, _, _ => by kernel_rfl
  | 10, _, _ => by kernel_rfl
  | 11, _, _ => by kernel_rfl
  | 12, _, _ => by kernel_rfl
  | 13, _, _ => by kernel_rfl
  | 14, _, _ => by kernel_rfl
  | 15, _, _ => by kernel_rfl
  | 16, _, _ => by kernel_rfl
  | 17, _, _ => by kernel_rfl
  | 18, _, _ => by kernel_rfl
  | 19, _, _ => by kernel_rfl
  | 20, _, _ => by kernel_rfl
  | 21, _, _ => by kernel_rfl
  | 22, _, _ => by kernel_rfl
  | 23, _, _ => by kernel_rfl
  | 24, _, _ => by kernel_rfl
  | 25, _, _ => by kernel_rfl
  | 26, _, _ => by kernel_rfl
  | 27, _, _ => by kernel_rfl
  | 28, _, _ => by kernel_rfl
  | 29, _, _ => by kernel_rfl
  | 30, _, _ => by kernel_rfl
  | 31, _, _ => by kernel_rfl
  | 32, _, _ => by kernel_rfl
  | 33, _, _ => by kernel_rfl
  | n + 34, h, _ => absurd h (by omega)

set_option maxHeartbeats 1600000 in
theorem nameOfOp_any (c : Int) (w : World) : Calls Tryz.prog 70 #[.int .i64 c] w fun e w' => e = .returned (.string (opNameOf c)) ∧ Below w.heap.size w w' := by
  go_enter Tryz.func70, Tryz.ntmps70
  go_wp2_with fail
  refine (opWords_any _).mono ?_
  rintro e w1 ⟨rfl, hb⟩
  have HB := Lib.hid hb
  clear hb
  go_wp2_with fail
  go_loopw [6] (fun i wr => ∃ k : Nat, k ≤ 34 ∧ i = .int .i64 k ∧ (∀ j (hj : j < 34), j < k → opCodesL[j]'(by exact hj) ≠ c) ∧ Below w.heap.size w wr) (fun i _ => 34 - (intOf i).toNat)
  case atStart => exact ⟨0, by omega, rfl, fun j hj h => by omega, HB.out⟩
  case round =>
    obtain ⟨k, hk, rfl, hne, hbw⟩ := hrel
    have HNE := Lib.hid hne
    have HW := Lib.hid hbw
    clear hne hbw
    by_cases hlt : k < 34
    · have hix := fun W => idx_op k hlt W
      have HA := Lib.hid (fun o => HW.out.alloc HW.out.size o)
      by_cases he : opCodesL[k]'(by exact hlt) = c
      · have hq : (opCodesL[k]'(by exact hlt) == c) = true := by simpa using he
        have hr := Lib.hid (opName_hit hlt (fun j hj => HNE.out j (by omega) hj) he)
        clear he
        generalize opNamesL[k]'(by exact hlt) = nm at *
        generalize opCodesL[k]'(by exact hlt) = cd at *
        go_wp2_with fail
        go_ret
        exact ⟨ret_str (by unfold opNameOf; rw [hr.out]), HA.out _⟩
      · have hq : (opCodesL[k]'(by exact hlt) == c) = false := by simpa using he
        have HE := Lib.hid (show ∀ j (hj : j < 34), j < k + 1 → opCodesL[j]'(by exact hj) ≠ c from fun j hj h => by
          rcases Nat.lt_or_ge j k with h' | h'
          · exact HNE.out j hj h'
          · obtain rfl : j = k := by omega
            exact he)
        clear he
        generalize opNamesL[k]'(by exact hlt) = nm at *
        generalize opCodesL[k]'(by exact hlt) = cd at *
        go_wp2_with fail
        go_roundw
        case rel => exact ⟨k + 1, by omega, by go_num, HE.out, HA.out _⟩
        case measure => simp [intOf]; omega
    · have hr := Lib.hid (opName_miss (c := c) fun j hj => HNE.out j hj (by omega))
      go_wp2_with fail
      go_ret
      exact ⟨ret_str (by unfold opNameOf; rw [hr.out]), HW.out⟩

end Go.Proofs.YtekmnopgaopmlaaGreatDoor

/- What may be wrong with a word, in the program: misfits, nameless, strays, and what readsUnwritten hands back. -/
set_option maxRecDepth 100000
set_option linter.unusedSimpArgs false
namespace Go.Proofs.YtekmnopgaopmlaaGreatDoor
open Go.RowKit

set_option linter.unusedVariables false
theorem misfits_any (v : Value) (l : List Ins) (i : Nat) (x : Ins) (w : World) (h : InsAt w w.heap.size v l) (hi : l[i]? = some x) (hl : l.length ≤ 1048576) :
    Calls Tryz.prog 35 #[v, .int .i64 i] w fun e w' => e = .returned (.bool (!insRight x)) ∧ Below w.heap.size w w' := by
  obtain ⟨a, cap, rfl, hlc, hcm⟩ := h.len
  unfold maxLen at hcm
  obtain ⟨b, o, e, hb, c0, c1, c2, c3, hwf⟩ := h.at_ hi
  subst e
  have hlt : i < l.length := (List.getElem?_eq_some_iff.1 hi).1
  obtain ⟨xc, xy, xn, xk⟩ := x
  simp only at c0 c1 c2 c3
  have qr := fun W => isRight_impl xc xy xn xk W
  generalize insRight ⟨xc, xy, xn, xk⟩ = t at *
  have QR := Lib.hid qr
  clear qr h hi hwf
  go_enter Tryz.func35, Tryz.ntmps35
  go_wp2_with fail
  refine (QR.out _).mono ?_
  rintro e w1 ⟨rfl, hb1⟩
  have HB := Lib.hid hb1
  clear hb1
  go_wp2_with fail
  go_ret
  exact ⟨rfl, HB.out⟩

theorem nameless_any (v : Value) (l : List Ins) (i : Nat) (x : Ins) (w : World) (h : InsAt w w.heap.size v l) (hi : l[i]? = some x) (hl : l.length ≤ 1048576) :
    Calls Tryz.prog 36 #[v, .int .i64 i] w fun e w' => e = .returned (.bool (!isOp x.c)) ∧ Below w.heap.size w w' := by
  obtain ⟨a, cap, rfl, hlc, hcm⟩ := h.len
  unfold maxLen at hcm
  obtain ⟨b, o, e, hb, c0, c1, c2, c3, hwf⟩ := h.at_ hi
  subst e
  have hlt : i < l.length := (List.getElem?_eq_some_iff.1 hi).1
  obtain ⟨xc, xy, xn, xk⟩ := x
  simp only at c0 c1 c2 c3
  have qo := fun W => nameOfOp_any xc W
  have HE := Lib.hid (isOp_empty xc)
  generalize opNameOf xc = nm at *
  have QO := Lib.hid qo
  clear qo h hi hwf
  go_enter Tryz.func36, Tryz.ntmps36
  go_wp2_with fail
  refine (QO.out _).mono ?_
  rintro e w1 ⟨rfl, hb1⟩
  have HB := Lib.hid hb1
  clear hb1
  go_wp2_with fail
  go_ret
  exact ⟨ret_bool HE.out, HB.out⟩

/-- What strays answers of a right word that has a name. -/
def strayI (n i : Nat) (x : Ins) : Bool :=
  if x.c = 32 then (x.k % 4 != 0 || decide (60 < x.k))
  else if cellC x.c then decide (16 ≤ x.k)
  else if x.c = 52 then x.k == 0
  else if x.c = 100 ∨ x.c = 116 then decide (31 < x.k)
  else farBad n (nextI x i)

set_option maxHeartbeats 3200000 in
theorem strays_any (v : Value) (l : List Ins) (i : Nat) (x : Ins) (w : World) (h : InsAt w w.heap.size v l) (hi : l[i]? = some x) (hl : l.length ≤ 1048576) (hr : insRight x = true) :
    Calls Tryz.prog 37 #[v, .int .i64 i] w fun e w' => e = .returned (.bool (strayI l.length i x)) ∧ Below w.heap.size w w' := by
  obtain ⟨a, cap, rfl, hlc, hcm⟩ := h.len
  unfold maxLen at hcm
  obtain ⟨b, o, e, hb, c0, c1, c2, c3, hwf⟩ := h.at_ hi
  subst e
  have hlt : i < l.length := (List.getElem?_eq_some_iff.1 hi).1
  have hqn := fun W => waysFrom_any x i W (by omega) hr
  have hbd := ins_bd hr
  obtain ⟨xc, xy, xn, xk⟩ := x
  simp only at c0 c1 c2 c3 hbd
  obtain ⟨⟨hc0, hc1⟩, ⟨hy0, hy1⟩, ⟨hn0, hn1⟩, ⟨hk0, hk1⟩⟩ := hbd
  by_cases h32 : xc = 32
  · subst h32
    have HS := Lib.hid (show strayI l.length i ⟨32, xy, xn, xk⟩ = (xk % 4 != 0 || decide (60 < xk)) from by simp [strayI])
    clear h hi hwf hr hqn
    by_cases h4 : xk % 4 = 0
    · have q4 : (xk % 4 != 0) = false := by simpa using h4
      clear h4
      have HS2 := Lib.hid (HS.out.trans (by rw [q4]))
      go_enter Tryz.func37, Tryz.ntmps37
      go_wp2_with fail
      go_ret
      exact ⟨ret_bool (by rw [HS2.out]; rfl), (Below.refl _ _).alloc (Nat.le_refl _) _⟩
    · have q4 : (xk % 4 != 0) = true := by simpa using h4
      clear h4
      have HS2 := Lib.hid (HS.out.trans (by rw [q4]))
      go_enter Tryz.func37, Tryz.ntmps37
      go_wp2_with fail
      go_ret
      exact ⟨ret_bool (by rw [HS2.out]; rfl), (Below.refl _ _).alloc (Nat.le_refl _) _⟩
  have e32 := eq_false_of h32
  by_cases hcell : xc = 96 ∨ xc = 97 ∨ xc = 2 ∨ xc = 3
  · have HS := Lib.hid (show strayI l.length i ⟨xc, xy, xn, xk⟩ = decide (16 ≤ xk) from by rcases hcell with rfl | rfl | rfl | rfl <;> simp [strayI, cellC])
    clear h hi hwf hr hqn h32
    rcases hcell with rfl | rfl | rfl | rfl
    all_goals
      go_enter Tryz.func37, Tryz.ntmps37
      go_wp2_with fail
      go_ret
      exact ⟨ret_bool (by rw [HS.out]), (Below.refl _ _).alloc (Nat.le_refl _) _⟩
  have hcc : cellC xc = false := by
    simp only [cellC, List.contains_eq_mem, List.mem_cons, List.not_mem_nil, or_false, decide_eq_false_iff_not]
    exact hcell
  simp only [not_or] at hcell
  obtain ⟨n96, n97, n2, n3⟩ := hcell
  have e96 := eq_false_of n96
  have e97 := eq_false_of n97
  have e2 := eq_false_of n2
  have e3 := eq_false_of n3
  by_cases h52 : xc = 52
  · subst h52
    have HS := Lib.hid (show strayI l.length i ⟨52, xy, xn, xk⟩ = (xk == 0) from by simp [strayI, cellC])
    clear h hi hwf hr hqn h32 n96 n97 n2 n3 hcc
    go_enter Tryz.func37, Tryz.ntmps37
    go_wp2_with fail
    go_ret
    exact ⟨ret_bool (by rw [HS.out]), (Below.refl _ _).alloc (Nat.le_refl _) _⟩
  have e52 := eq_false_of h52
  by_cases hsh : xc = 100 ∨ xc = 116
  · have HS := Lib.hid (show strayI l.length i ⟨xc, xy, xn, xk⟩ = decide (31 < xk) from by rcases hsh with rfl | rfl <;> simp [strayI, cellC])
    clear h hi hwf hr hqn h32 n96 n97 n2 n3 hcc h52
    rcases hsh with rfl | rfl
    all_goals
      go_enter Tryz.func37, Tryz.ntmps37
      go_wp2_with fail
      go_ret
      exact ⟨ret_bool (by rw [HS.out]), (Below.refl _ _).alloc (Nat.le_refl _) _⟩
  have HS := Lib.hid (show strayI l.length i ⟨xc, xy, xn, xk⟩ = farBad l.length (nextI ⟨xc, xy, xn, xk⟩ i) from by simp [strayI, hcc, h32, h52, hsh])
  simp only [not_or] at hsh
  obtain ⟨n100, n116⟩ := hsh
  have e100 := eq_false_of n100
  have e116 := eq_false_of n116
  simp only at hqn
  generalize nextI ⟨xc, xy, xn, xk⟩ i = nx at *
  have QN := Lib.hid hqn
  clear h hi hwf hr hqn h32 n96 n97 n2 n3 hcc h52 n100 n116
  go_enter Tryz.func37, Tryz.ntmps37
  go_wp2_with fail
  refine (QN.out _).mono ?_
  rintro e w3 ⟨u, rfl, ho3, hb3⟩
  obtain ⟨ua, ucap, rfl⟩ := OwnL.slice ho3
  have HI3 := Lib.hid (ho3.lAt numS fun _ _ => trivial : LAt numC 1 (fun _ => True) w3 w3.heap.size _ nx)
  have hnl := OwnL.cap_le ho3
  unfold maxLen at hnl
  have HB3 := Lib.hid (box_below hb3)
  clear hb3 ho3
  go_wp2_with fail
  go_loop [48] (fun q => ∃ k : Nat, k ≤ nx.length ∧ q = .int .i64 k ∧ farBad l.length (nx.take k) = false) (fun q => nx.length - (intOf q).toNat)
  case atStart => exact ⟨0, by omega, rfl, rfl⟩
  case round =>
    obtain ⟨k, hk, rfl, hfar⟩ := hrel
    have HF := Lib.hid hfar
    clear hfar
    by_cases hkl : k < nx.length
    · obtain ⟨ub, uo, e, hub, hcell, _⟩ := LAt.at_ HI3.out (List.getElem?_eq_getElem hkl)
      subst e
      have d := hcell 0 _ rfl
      simp only [Nat.mul_one, Nat.add_zero] at d
      clear hcell
      by_cases hbig : (l.length : Int) ≤ nx[k]
      · have HR := Lib.hid (HS.out.trans (far_hit hkl hbig))
        have hd : decide ((l.length : Int) ≤ nx[k]) = true := by simpa using hbig
        clear hbig
        go_wp2_with fail
        go_ret
        exact ⟨ret_bool HR.out.symm, HB3.out⟩
      · have HN := Lib.hid (far_next HF.out hkl hbig)
        have hd : decide ((l.length : Int) ≤ nx[k]) = false := by simpa using hbig
        clear hbig
        go_wp2_with fail
        go_round
        case rel => exact ⟨k + 1, by omega, by go_num, HN.out⟩
        case measure => simp [intOf]; omega
    · have HR := Lib.hid (HS.out.trans (show farBad l.length nx = false by have := HF.out; rw [List.take_of_length_le (by omega)] at this; exact this))
      go_wp2_with fail
      go_ret
      exact ⟨ret_bool HR.out.symm, HB3.out⟩

theorem below_drewN {B : Nat} {a w : World} (h : Below B a w) (n : Nat) : Below B a (w.drewN n) := by
  induction n with
  | zero => exact h
  | succ n ih => exact ih.drew
def u16C (n : Int) : List Value := [.int .u16 n]
theorem u16S (n : Int) : (u16C n).length = 1 := rfl
/-- What the program's mask says of a cell. -/
def unU (m : Int) (x : Ins) : Bool := readsC x.c && (bits .and .u16 (m / 2 ^ x.k.toNat) 1 == 0)

set_option maxHeartbeats 1600000 in
theorem unwritten_any (v : Value) (l : List Ins) (i : Nat) (x : Ins) (u : Value) (ms : List Int) (m : Int) (pb : Nat) (w : World) (h : InsAt w w.heap.size v l) (hi : l[i]? = some x) (hl : l.length ≤ 1048576)
    (hp : w.cell? ⟨pb, 0, none⟩ = some u) (hpb : pb < w.heap.size) (hu : LAt u16C 1 (fun _ => True) w w.heap.size u ms) (hm : ms[i]? = some m) (hk : readsC x.c = true → 0 ≤ x.k ∧ x.k ≤ 15) (hm0 : 0 ≤ m) (hm1 : m ≤ 65535) :
    Calls Tryz.prog 71 #[v, .int .i64 i, .pointer (some ⟨pb, 0, none⟩)] w fun e w' => e = .returned (.bool (unU m x)) ∧ Below w.heap.size w w' := by
  obtain ⟨a, cap, rfl, hlc, hcm⟩ := h.len
  unfold maxLen at hcm
  obtain ⟨b, o, e, hb, c0, c1, c2, c3, hwf⟩ := h.at_ hi
  subst e
  have hlt : i < l.length := (List.getElem?_eq_some_iff.1 hi).1
  obtain ⟨ua, ucap, e, hul1, hul2⟩ := hu.len
  unfold maxLen at hul2
  subst e
  obtain ⟨ub, uo, e, hub, hcell, _⟩ := LAt.at_ hu hm
  subst e
  have d := hcell 0 _ rfl
  simp only [Nat.mul_one, Nat.add_zero] at d
  have hml : i < ms.length := (List.getElem?_eq_some_iff.1 hm).1
  obtain ⟨xc, xy, xn, xk⟩ := x
  simp only at c0 c1 c2 c3 hk
  by_cases hr : xc = 96 ∨ xc = 97
  · have HR := Lib.hid (show unU m ⟨xc, xy, xn, xk⟩ = (bits .and .u16 (m / 2 ^ xk.toNat) 1 == 0) from by rcases hr with rfl | rfl <;> simp [unU, readsC])
    obtain ⟨hk0, hk1⟩ := hk (by rcases hr with rfl | rfl <;> rfl)
    clear h hi hwf hu hcell hm hk
    rcases hr with rfl | rfl
    all_goals
      go_enter Tryz.func71, Tryz.ntmps71
      go_wp2_with fail
      refine wp_region_still_lit (by kernel_rfl) (by kernel_rfl) ?_
      simp only [World.drew_eq]
      repeat still_step
      refine wpStill_nil ?_
      go_wp2_with fail
      go_ret
      exact ⟨ret_bool HR.out.symm, ((Below.refl _ _).alloc (Nat.le_refl _) _).drew⟩
  · simp only [not_or] at hr
    obtain ⟨n96, n97⟩ := hr
    have e96 := eq_false_of n96
    have e97 := eq_false_of n97
    have HR := Lib.hid (show unU m ⟨xc, xy, xn, xk⟩ = false from by simp [unU, readsC, n96, n97])
    clear h hi hwf hu hcell hm hk n96 n97
    go_enter Tryz.func71, Tryz.ntmps71
    go_wp2_with fail
    go_quiet ((fail))
    go_wp2_with fail
    go_ret
    exact ⟨ret_bool HR.out.symm, below_drewN ((Below.refl _ _).alloc (Nat.le_refl _) _) _⟩

end Go.Proofs.YtekmnopgaopmlaaGreatDoor

/- What is written ahead of each word, in the program: cellsAhead. -/
set_option maxRecDepth 100000
set_option linter.unusedSimpArgs false
set_option linter.unusedVariables false
namespace Go.Proofs.YtekmnopgaopmlaaGreatDoor
open Go.RowKit

theorem info_cells : (Tryz.prog.info? 85).map (fun i => (i.zero, i.size, i.bytes)) = some (some (.int .u16 0), 1, 2) := by kernel_rfl
theorem made_u16 (n : Nat) : (madeCells (.int .u16 0 : Value).cells (n * 1)).toList = (List.replicate n (0 : Int)).flatMap u16C := by
  have hz : (List.replicate n (0 : Int)).flatMap u16C = List.replicate n (.int .u16 0) := by
    induction n with
    | zero => rfl
    | succ n ih => rw [List.replicate_succ, List.flatMap_cons, ih]; rfl
  rw [hz, List.eq_replicate_iff]
  refine ⟨by simp [madeCells], fun b hb => ?_⟩
  simp only [madeCells, Array.toList_map, List.mem_map] at hb
  obtain ⟨j, _, rfl⟩ := hb
  simp [Value.cells, Nat.mod_one]
theorem u16_at {E : TypeId} {w : World} {base g n cap : Nat} {l : List Int} {i : Nat} {x : Int} (h : w.ownsRow base E 1 (.slice (some ⟨g, 0, none⟩) n cap) n (l.flatMap u16C)) (hi : l[i]? = some x) : w.cell? ⟨g, i, none⟩ = some (.int .u16 x) ∧ w.frozen? ⟨g, i, none⟩ = false := by
  have h2 := OwnL.at_ u16S h hi
  exact ⟨by simpa using h2.1 0 _ rfl, h2.2 i⟩
theorem u16_set {E : TypeId} {w : World} {base g n cap : Nat} {l : List Int} {i : Nat} (h : w.ownsRow base E 1 (.slice (some ⟨g, 0, none⟩) n cap) n (l.flatMap u16C)) (hi : i < l.length) (x : Int) : (w.setCell ⟨g, i, none⟩ (.int .u16 x)).ownsRow base E 1 (.slice (some ⟨g, 0, none⟩) n cap) n ((l.set i x).flatMap u16C) := by
  have h2 := OwnL.set u16S (by omega) h hi x
  rw [Nat.mul_one] at h2
  exact h2
theorem rep_succ (k : Nat) : List.replicate (k + 1) (65535 : Int) = List.replicate k 65535 ++ [65535] := by rw [List.replicate_succ']

set_option maxHeartbeats 3200000 in
theorem cellsAhead_any (v : Value) (l : List Ins) (w : World) (h : InsAt w w.heap.size v l) (h1 : 1 ≤ l.length) (hn : l.length ≤ 100000)
    (hok : ∀ (i : Nat) (hi : i < l.length), insRight l[i] = true ∧ (l[i].c = 2 ∨ l[i].c = 3 → l[i].k ≤ 15) ∧ ∀ t ∈ nextI l[i] i, 0 ≤ t ∧ t < l.length) :
    Calls Tryz.prog 39 #[v] w fun e w' => ∃ u, e = .returned u ∧ OwnL 85 1 u16C w.heap.size w' u (wrL l) ∧ Below w.heap.size w w' := by
  obtain ⟨i0, hi, hz0, hz1, hz2⟩ := info_parts info_cells
  obtain ⟨a, cap, rfl, hlc, hcm⟩ := h.len
  unfold maxLen at hcm
  have HM16 := Lib.hid (wrK_m16 (l := l) fun x hx => by
    obtain ⟨i, hi, rfl⟩ := List.getElem_of_mem hx
    exact (hok i hi).2.1)
  have HH := Lib.hid h
  have HOK := Lib.hid hok
  clear h hok
  go_enter Tryz.func39, Tryz.ntmps39
  go_wp2_with (refine wpList_make_full _ rfl _ _ _ rfl w.heap.size 85 i0 _ 1 Tryz.underlying75 hi hz0 hz1 .i64 .i64 _ _ l.length rfl rfl rfl rfl (by rw [hz2]; omega) (by unfold maxLen; omega) (Nat.le_refl _) ?_; intro w1 hown1 hg1)
  rw [made_u16] at hown1
  have hlt1 := hown1.lt w.heap.size rfl
  have hb1 : Below w.heap.size w w1 := (Below.refl _ _).grown hg1 (Nat.le_refl _) (fun k hk => by cases hk)
  have HO := Lib.hid hown1
  clear hown1 hg1
  go_loopw [15] (fun i wr => ∃ k : Nat, k ≤ l.length ∧ i = .int .i64 k ∧ wr.ownsRow w.heap.size 85 1 (.slice (some ⟨w.heap.size, 0, none⟩) l.length l.length) l.length ((List.replicate k (65535 : Int) ++ List.replicate (l.length - k) (0 : Int)).flatMap u16C) ∧ Below w.heap.size w wr ∧ w.heap.size < wr.heap.size)
    (fun i _ => l.length - (intOf i).toNat)
  case atStart => exact ⟨0, by omega, rfl, HO.out, hb1, hlt1.2⟩
  case round =>
    obtain ⟨k, hk, rfl, hown, hbw, hgl⟩ := hrel
    by_cases hlt : k < l.length
    · have hfill := fillL (pre := List.replicate k (65535 : Int)) (d := (0 : Int)) (by simp) hlt 65535
      rw [← rep_succ k] at hfill
      have hset := u16_set hown (i := k) (by simp; omega) 65535
      rw [hfill.2] at hset
      obtain ⟨d0, f0⟩ := u16_at hown hfill.1
      have hbX : ∀ u0 : Value, Below w.heap.size w (wr.setCell ⟨w.heap.size, k, none⟩ u0) := fun u0 => hbw.setCell (p := ⟨w.heap.size, k, none⟩) (Nat.le_refl _) _
      have HS := Lib.hid hset
      have HB := Lib.hid hbX
      clear hset hbX hfill hown hbw
      go_wp2_with fail
      go_roundw
      case rel => exact ⟨k + 1, by omega, by go_num, HS.out, HB.out _, by simpa using hgl⟩
      case measure => simp [intOf]; omega
    · have e : k = l.length := by omega
      rw [e] at hown
      clear e
      rw [Nat.sub_self, List.replicate_zero, List.append_nil] at hown
      have hset := u16_set hown (i := 0) (by simp; omega) 0
      rw [preM_all l.length h1] at hset
      obtain ⟨d0, f0⟩ := u16_at hown (i := 0) (x := 65535) (by rw [List.getElem?_replicate, if_pos (by omega)])
      have hbX : ∀ u0 : Value, Below w.heap.size w (wr.setCell ⟨w.heap.size, 0, none⟩ u0) := fun u0 => hbw.setCell (p := ⟨w.heap.size, 0, none⟩) (Nat.le_refl _) _
      have HM0 := Lib.hid (hset : (wr.setCell ⟨w.heap.size, 0, none⟩ (.int .u16 0)).ownsRow w.heap.size 85 1 (.slice (some ⟨w.heap.size, 0, none⟩) l.length l.length) l.length ((wrK l 0).flatMap u16C))
      have HBW := Lib.hid hbX
      have hl0 : 0 < l.length := by omega
      clear hown hbw hset hbX
      go_wp2_with fail
      go_loopw [26] (fun i ws => ∃ k : Nat, k ≤ l.length ∧ i = .int .i64 k ∧ ws.ownsRow w.heap.size 85 1 (.slice (some ⟨w.heap.size, 0, none⟩) l.length l.length) l.length ((wrK l k).flatMap u16C) ∧ Below w.heap.size w ws ∧ w.heap.size < ws.heap.size)
        (fun i _ => l.length - (intOf i).toNat)
      case atStart => exact ⟨0, by omega, rfl, HM0.out, HBW.out _, by simpa using hgl⟩
      case round =>
        obtain ⟨k, hk, rfl, hown, hbs, hgs⟩ := hrel
        clear d0 f0
        by_cases hlt : k < l.length
        · obtain ⟨b, o, e, hb, c0, c1, c2, c3, hwf⟩ := (HH.out.below hbs).at_ (List.getElem?_eq_getElem hlt)
          subst e
          have hx := HOK.out k hlt
          have hq := fun W => waysFrom_any l[k] k W (by omega) hx.1
          obtain ⟨m, hm⟩ : ∃ m, (wrK l k)[k]? = some m := ⟨_, List.getElem?_eq_getElem (by rw [wrK_length]; exact hlt)⟩
          have hmm := HM16.out k m (List.mem_of_getElem? hm)
          obtain ⟨d0, f0⟩ := u16_at hown hm
          have hstep : wrK l (k + 1) = (nextI l[k] k).foldl (passM (outM l[k] m)) (wrK l k) := by
            rw [wrK_next hlt, stepM, List.getD_eq_getElem?_getD, hm]
            rfl
          have hms := wrK_length l k
          have hr := hx.1
          unfold insRight isB at hr
          simp only [Bool.and_eq_true, decide_eq_true_eq] at hr
          have hk0 := hr.2.1
          have hkm := hx.2.1
          have htg := hx.2.2
          have hom := outM_m16 hmm hkm
          generalize hxx : l[k] = x at *
          obtain ⟨xc, xy, xn, xk⟩ := x
          simp only at c0 c1 c2 c3 hk0 hkm hq
          obtain ⟨m', hm'⟩ : ∃ m', m' = outM ⟨xc, xy, xn, xk⟩ m := ⟨_, rfl⟩
          rw [← hm'] at hstep hom
          generalize nextI ⟨xc, xy, xn, xk⟩ k = nx at *
          have HMK := Lib.hid (HM16.out k)
          generalize wrK l k = ms at *
          have HQ := Lib.hid hq
          have HS := Lib.hid hstep
          have HT := Lib.hid htg
          have HW := Lib.hid hbs
          have HM := Lib.hid hown
          have HP := Lib.hid hm'
          have HOM := Lib.hid hom
          clear hq hstep htg hbs hown hx hr hwf hxx hm hm' hom
          obtain ⟨t, ht⟩ : ∃ t, t = (xc == 2 || xc == 3) := ⟨_, rfl⟩
          have HTT := Lib.hid ht
          clear ht
          go_upto_region 12 with fail
          go_cut [42] from 35 to 42 (fun s ws => s = .bool t ∧ ws = wr.alloc (.cells #[.int .i64 xc, .int .i64 xy, .int .i64 xn, .int .i64 xk] 66))
          case first =>
            have key : xc = 2 ∨ (xc ≠ 2 ∧ xc = 3) ∨ (xc ≠ 2 ∧ xc ≠ 3) := by omega
            rcases key with h2 | ⟨n2, h3⟩ | ⟨n2, n3⟩
            · have e2 : (xc == 2) = true := by simpa using h2
              have HT2 := Lib.hid (HTT.out.trans (by rw [e2]; rfl) : t = true)
              clear h2
              go_wp2_with fail
              go_meet
              exact ⟨congrArg Value.bool HT2.out.symm, rfl⟩
            · have e2 : (xc == 2) = false := eq_false_of n2
              have e3 : (xc == 3) = true := by simpa using h3
              have HT2 := Lib.hid (HTT.out.trans (by rw [e2, e3]; rfl) : t = true)
              clear h3 n2
              go_wp2_with fail
              go_meet
              exact ⟨congrArg Value.bool HT2.out.symm, rfl⟩
            · have e2 : (xc == 2) = false := eq_false_of n2
              have e3 : (xc == 3) = false := eq_false_of n3
              have HT2 := Lib.hid (HTT.out.trans (by rw [e2, e3]; rfl) : t = false)
              clear n3 n2
              go_wp2_with fail
              go_meet
              exact ⟨congrArg Value.bool HT2.out.symm, rfl⟩
          case rest =>
          obtain ⟨rfl, hwc⟩ := hcut
          subst hwc
          go_upto_if 42 with fail
          go_cut [7] from 43 to 47 (fun s ws => s = .int .u16 m' ∧ ws = wr.alloc (.cells #[.int .i64 xc, .int .i64 xy, .int .i64 xn, .int .i64 xk] 66))
          case first =>
            cases t
            · have HX := Lib.hid (HP.out.trans (show outM ⟨xc, xy, xn, xk⟩ m = m by
                have := HTT.out
                simp only [Bool.false_eq, Bool.or_eq_false_iff, beq_eq_false_iff_ne, ne_eq] at this
                exact if_neg (show ¬ (xc = 2 ∨ xc = 3) by omega)))
              go_wp2_with fail
              go_meet
              exact ⟨congrArg (Value.int .u16) HX.out.symm, rfl⟩
            · have hor : xc = 2 ∨ xc = 3 := by
                have := HTT.out
                simpa using this
              have hk15 := hkm hor
              have HX := Lib.hid (HP.out.trans (show outM ⟨xc, xy, xn, xk⟩ m = bits .or .i64 m (wrap64 (2 ^ xk.toNat)) from if_pos hor))
              clear hkm hor
              have HY := Lib.hid (show bits .or .u16 m (IntKind.u16.wrap (2 ^ xk.toNat)) = m' by
                have hp := pow_m16 hk15
                rw [hp.2.2, (or_u16 hmm hp.1).1, HX.out, hp.2.1])
              go_wp2_with fail
              go_meet
              exact ⟨congrArg (Value.int .u16) HY.out, rfl⟩
          case rest =>
          obtain ⟨rfl, hwc⟩ := hcut
          subst hwc
          obtain ⟨B3, hB3⟩ : ∃ B3, wr.heap.size + 1 = B3 := ⟨_, rfl⟩
          have HBX := Lib.hid (HW.out.alloc HW.out.size (.cells #[.int .i64 xc, .int .i64 xy, .int .i64 xn, .int .i64 xk] 66))
          have HMX := Lib.hid (World.ownsRow.alloc HM.out (.cells #[.int .i64 xc, .int .i64 xy, .int .i64 xn, .int .i64 xk] 66))
          clear HW HM
          go_wp2_with fail
          refine (HQ.out _).mono ?_
          rintro e w3 ⟨u, rfl, ho3, hb3⟩
          obtain ⟨ua, ucap, rfl⟩ := OwnL.slice ho3
          have hnl := OwnL.cap_le ho3
          unfold maxLen at hnl
          have hM3 := Lib.hid (own_below HMX.out hb3)
          have hW3 := Lib.hid (HBX.out.trans (hb3.mono HBX.out.size))
          have hO3 := Lib.hid ((by simpa using hB3 : (wr.alloc (.cells #[.int .i64 xc, .int .i64 xy, .int .i64 xn, .int .i64 xk] 66)).heap.size = B3) ▸ ho3 : OwnL 2 1 numC B3 w3 _ nx)
          have hg3 : w.heap.size < w3.heap.size := Nat.lt_of_lt_of_le hgs (Nat.le_trans (by simp) hb3.size)
          clear ho3 hb3 d0 f0 c0 c1 c2 c3
          go_wp2_with fail
          go_loopw [52] (fun q ws => ∃ j : Nat, j ≤ nx.length ∧ q = .int .i64 j ∧ ws.ownsRow w.heap.size 85 1 (.slice (some ⟨w.heap.size, 0, none⟩) l.length l.length) l.length (((nx.take j).foldl (passM m') ms).flatMap u16C) ∧ OwnL 2 1 numC B3 ws (.slice ua nx.length ucap) nx ∧ Below w.heap.size w ws ∧ w.heap.size < ws.heap.size)
            (fun q _ => nx.length - (intOf q).toNat)
          case atStart => exact ⟨0, by omega, rfl, hM3.out, hO3.out, hW3.out, hg3⟩
          case round =>
            obtain ⟨j, hj, rfl, hown, hont, hbj, hgj⟩ := hrel
            by_cases hjl : j < nx.length
            · obtain ⟨ub, uo, e, hub, hcell, _⟩ := LAt.at_ (intAt_own hont) (List.getElem?_eq_getElem hjl)
              subst e
              have d := hcell 0 _ rfl
              simp only [Nat.mul_one, Nat.add_zero] at d
              clear hcell
              obtain ⟨ht0, ht1⟩ := HT.out nx[j] (List.getElem_mem hjl)
              have hnext := foldM_next (m := m') (ms := ms) hjl
              obtain ⟨tn, htn⟩ := Int.eq_ofNat_of_zero_le ht0
              rw [htn] at d ht1 hnext
              have htl : tn < l.length := by omega
              have hfl : ((nx.take j).foldl (passM m') ms).length = l.length := by rw [foldM_length]; exact hms
              obtain ⟨mm, hmm2⟩ : ∃ mm, ((nx.take j).foldl (passM m') ms)[tn]? = some mm := ⟨_, List.getElem?_eq_getElem (by omega)⟩
              have hmm16 := foldM_m16 HOM.out (nx.take j) ms HMK.out mm (List.mem_of_getElem? hmm2)
              obtain ⟨dm, fm⟩ := u16_at hown hmm2
              have hset := u16_set hown (i := tn) (by omega) (bits .and .i64 mm m')
              rw [show ((nx.take j).foldl (passM m') ms).set tn (bits .and .i64 mm m') = (nx.take (j + 1)).foldl (passM m') ms by
                rw [hnext, passM, Int.toNat_natCast, List.getD_eq_getElem?_getD, hmm2]; rfl] at hset
              rw [← (and_u16 hmm16 HOM.out).1] at hset
              have hbX : ∀ u0 : Value, Below w.heap.size w (wr.setCell ⟨w.heap.size, tn, none⟩ u0) := fun u0 => hbj.setCell (p := ⟨w.heap.size, tn, none⟩) (Nat.le_refl _) _
              have hoX : ∀ u0 : Value, OwnL 2 1 numC B3 (wr.setCell ⟨w.heap.size, tn, none⟩ u0) (.slice (some ⟨ub, uo, none⟩) nx.length ucap) nx := fun u0 => OwnL.setBelow hont (a := ⟨w.heap.size, tn, none⟩) (show w.heap.size < B3 by omega) u0
              have HSJ := Lib.hid hset
              have HBJ := Lib.hid hbX
              have HOJ := Lib.hid hoX
              clear hset hbX hoX hown hont hbj hmm2 hfl hnext htn hmm16
              go_wp2_with fail
              go_roundw
              case rel => exact ⟨j + 1, by omega, by go_num, HSJ.out, HOJ.out _, HBJ.out _, by simpa using hgj⟩
              case measure => simp [intOf]; omega
            · have hF := Lib.hid (show wr.ownsRow w.heap.size 85 1 (.slice (some ⟨w.heap.size, 0, none⟩) l.length l.length) l.length ((wrK l (k + 1)).flatMap u16C) by
                rw [HS.out]
                rw [List.take_of_length_le (by omega)] at hown
                exact hown)
              clear hown hont
              go_wp2_with fail
              go_roundw
              case rel => exact ⟨k + 1, by omega, by go_num, hF.out, hbj, hgj⟩
              case measure => simp [intOf]; omega
        · have hO := Lib.hid (show OwnL 85 1 u16C w.heap.size wr (.slice (some ⟨w.heap.size, 0, none⟩) l.length l.length) (wrL l) by
            have e : k = l.length := by omega
            subst e
            unfold OwnL wrL
            rw [wrK_length]
            exact hown)
          clear hown
          go_wp2_with fail
          go_ret
          exact ⟨_, rfl, hO.out, hbs⟩

end Go.Proofs.YtekmnopgaopmlaaGreatDoor

/- The first fault of a program's words, in the program: firstFault, whatever the faults are. -/
set_option maxRecDepth 100000
set_option linter.unusedSimpArgs false
set_option linter.unusedVariables false
namespace Go.Proofs.YtekmnopgaopmlaaGreatDoor
open Go.RowKit

/-- Of the first place with a fault the place, and the first fault's code. -/
def faultJ (p : Nat → Nat → Bool) (m i : Nat) : Option Nat := (List.range m).find? fun j => p j i
def faultI (p : Nat → Nat → Bool) (m n : Nat) : Option Nat := (List.range n).find? fun i => (faultJ p m i).isSome
def faultAt (p : Nat → Nat → Bool) (code : Nat → Int) (m n : Nat) : Int × Int := match faultI p m n with
  | some i => (i, match faultJ p m i with
    | some j => code j
    | none => 0)
  | none => (0, 0)
theorem range_hit {p : Nat → Bool} {n k : Nat} (h : ∀ j, j < k → p j = false) (hk : k < n) (hp : p k = true) : (List.range n).find? p = some k := by
  rw [List.find?_range_eq_some]
  exact ⟨hp, List.mem_range.2 hk, fun j hj => by simp [h j hj]⟩
theorem range_none {p : Nat → Bool} {n : Nat} (h : ∀ j, j < n → p j = false) : (List.range n).find? p = none := by
  rw [List.find?_range_eq_none]
  exact fun j hj => by simp [h j hj]
theorem fault_hit {p : Nat → Nat → Bool} {code : Nat → Int} {m n i j : Nat} (hi : i < n) (hj : j < m) (h0 : ∀ a, a < i → faultJ p m a = none) (h1 : ∀ b, b < j → p b i = false) (h2 : p j i = true) : faultAt p code m n = ((i : Int), code j) := by
  have hJ : faultJ p m i = some j := range_hit h1 hj h2
  have hI : faultI p m n = some i := range_hit (fun a ha => by rw [h0 a ha]; rfl) hi (by rw [hJ]; rfl)
  unfold faultAt
  rw [hI]
  simp only [hJ]
theorem fault_none {p : Nat → Nat → Bool} {code : Nat → Int} {m n : Nat} (h0 : ∀ a, a < n → faultJ p m a = none) : faultAt p code m n = (0, 0) := by
  have hI : faultI p m n = none := range_none (fun a ha => by rw [h0 a ha]; rfl)
  unfold faultAt
  rw [hI]

set_option maxHeartbeats 3200000 in
theorem firstFault_any (v : Value) (l : List Ins) (fb m : Nat) (code : Nat → Int) (K : Nat → Nat) (cp : Nat → Array Value) (p : Nat → Nat → Bool) (w : World) (h : InsAt w w.heap.size v l) (hn : l.length ≤ 100000) (hm : m ≤ 1000) (hfb : fb < w.heap.size)
    (hcode : ∀ j, j < m → w.cell? ⟨fb, j * 2, none⟩ = some (.int .i64 (code j))) (hfun : ∀ j, j < m → w.cell? ⟨fb, j * 2 + 1, none⟩ = some (.func (.func (K j)) #[] (cp j)))
    (henter : ∀ j, j < m → ∀ args W, (callFunc (K j) args).run Tryz.prog W = .ok (.enter (K j) args) W)
    (hcall : ∀ j i W, j < m → i < l.length → (∀ b, b < j → p b i = false) → Below w.heap.size w W → Calls Tryz.prog (K j) (#[v, .int .i64 i] ++ cp j) W fun e w' => e = .returned (.bool (p j i)) ∧ Below W.heap.size W w') :
    Calls Tryz.prog 34 #[v, .slice (some ⟨fb, 0, none⟩) m m] w fun e w' => e = .returned (.agg #[.int .i64 (faultAt p code m l.length).1, .int .i64 (faultAt p code m l.length).2]) ∧ Below w.heap.size w w' := by
  obtain ⟨a, cap, rfl, hlc, hcm⟩ := h.len
  unfold maxLen at hcm
  have HC := Lib.hid hcode
  have HF := Lib.hid hfun
  have HE := Lib.hid henter
  have HQ := Lib.hid hcall
  clear hcode hfun henter hcall h
  go_enter Tryz.func34, Tryz.ntmps34
  go_wp2
  go_step3
  go_wp2
  go_step3
  go_wp2
  go_loopg [12] l.length (fun g s wx => ∃ i : Nat, i + g = l.length ∧ s = .int .i64 i ∧ Aside (∀ a, a < i → faultJ p m a = none) ∧ Below ((w.alloc (.cells #[.int .i64 0, .int .i64 0] 26)).alloc (.cells #[.int .i64 0, .int .i64 0] 26)).heap.size ((w.alloc (.cells #[.int .i64 0, .int .i64 0] 26)).alloc (.cells #[.int .i64 0, .int .i64 0] 26)) wx)
  case atStart => exact ⟨0, by omega, rfl, fun a h => by omega, Below.refl _ _⟩
  case round =>
    obtain ⟨i, hig, rfl, HN, hbw⟩ := hrel
    have HB := Lib.hid hbw
    clear hbw
    cases gk with
    | zero =>
      have hz : decide (i < l.length) = false := decide_eq_false (by omega)
      have e : i = l.length := by omega
      rw [e] at HN
      clear e
      have HA := Lib.hid (fault_none (code := code) HN.out)
      have hb2 := box2 HB.out
      have hr2 := rows2 HB.out
      have f0 := frozen_row hr2.1 0
      have f1 := frozen_row hr2.1 1
      have hbb := hb2.2.2
      have d0 := hb2.1 0
      have d1 := hb2.1 1
      have e0 := hb2.2.1 0
      have e1 := hb2.2.1 1
      simp only [List.getElem?_toArray, List.getElem?_cons_zero, List.getElem?_cons_succ] at d0 d1 e0 e1
      have HBB := Lib.hid hbb
      clear hb2 hr2 hbb
      go_wp2_with fail
      rw [Exit.noGoto_ret]
      exact bodyPost_ret (v := .agg #[.int .i64 0, .int .i64 0]) (by simp [results, Tryz.results34, go_sem, d0, d1, f0, f1]) rfl ⟨by rw [HA.out], (HBB.out.setCell (Nat.le_refl _) _).setCell (Nat.le_refl _) _⟩
    | succ g =>
      have hz : decide (i < l.length) = true := decide_eq_true (by omega)
      have hi : i < l.length := by omega
      go_wp2_with fail
      go_loopg [18] m (fun g2 s wy => ∃ j : Nat, j + g2 = m ∧ s = .int .i64 j ∧ Aside (∀ b, b < j → p b i = false) ∧ Below ((w.alloc (.cells #[.int .i64 0, .int .i64 0] 26)).alloc (.cells #[.int .i64 0, .int .i64 0] 26)).heap.size ((w.alloc (.cells #[.int .i64 0, .int .i64 0] 26)).alloc (.cells #[.int .i64 0, .int .i64 0] 26)) wy)
      case atStart => exact ⟨0, by omega, rfl, fun a h => by omega, HB.out⟩
      case round =>
        obtain ⟨j, hjg, rfl, HP, hbw⟩ := hrel
        have HB := Lib.hid hbw
        clear hbw
        cases gk with
        | zero =>
          have hz2 : decide (j < m) = false := decide_eq_false (by omega)
          have e : j = m := by omega
          rw [e] at HP
          clear e
          go_wp2_with fail
          go_roundg g
          case measure => omega
          case rel => exact ⟨i + 1, by omega, by go_num, fun a h => by
            rcases Nat.lt_or_ge a i with h' | h'
            · exact HN.out a h'
            · obtain rfl : a = i := by omega
              exact range_none HP.out, HB.out⟩
        | succ g2 =>
          have hz2 : decide (j < m) = true := decide_eq_true (by omega)
          have hj : j < m := by omega
          have hb2 := box2 HB.out
          have k0 := (hb2.2.2.cell (p := ⟨fb, j * 2, none⟩) hfb).trans (HC.out j hj)
          have k1 := (hb2.2.2.cell (p := ⟨fb, j * 2 + 1, none⟩) hfb).trans (HF.out j hj)
          have ke := HE.out j hj
          have HQJ := Lib.hid (fun W => HQ.out j i W hj hi HP.out)
          have HBB := Lib.hid (fun o => hb2.2.2.alloc hb2.2.2.size o)
          have HBA := Lib.hid (fun o => HB.out.alloc HB.out.size o)
          clear hb2
          cases hpj : p j i with
          | false =>
            have HPF := Lib.hid hpj
            rw [hpj] at HQJ
            clear hpj
            go_wp2_with fail
            refine (HQJ.out _ (HBB.out _)).mono ?_
            rintro e w3 ⟨rfl, hb3⟩
            have HB3 := Lib.hid ((HBA.out _).trans (hb3.mono (HBA.out _).size))
            clear hb3
            go_wp2_with fail
            go_roundg g2
            case measure => omega
            case rel => exact ⟨j + 1, by omega, by go_num, fun b h => by
              rcases Nat.lt_or_ge b j with h' | h'
              · exact HP.out b h'
              · obtain rfl : b = j := by omega
                exact HPF.out, HB3.out⟩
          | true =>
            have HA := Lib.hid (fault_hit (code := code) hi hj HN.out HP.out hpj)
            rw [hpj] at HQJ
            clear hpj
            go_wp2_with fail
            refine (HQJ.out _ (HBB.out _)).mono ?_
            rintro e w3 ⟨rfl, hb3⟩
            have kc := box_cell hb3 0
            have hb4 := (HBA.out (.cells #[.int .i64 (code j), .func (.func (K j)) #[] (cp j)] 72)).trans (hb3.mono (HBA.out _).size)
            have hb2 := box2 hb4
            have hr2 := rows2 hb4
            have f0 := frozen_row hr2.1 0
            have f1 := frozen_row hr2.1 1
            have g0 := frozen_row hr2.2.1 0
            have g1 := frozen_row hr2.2.1 1
            have d0 := hb2.1 0
            have d1 := hb2.1 1
            have e0 := hb2.2.1 0
            have e1 := hb2.2.1 1
            simp only [List.getElem?_toArray, List.getElem?_cons_zero, List.getElem?_cons_succ] at d0 d1 e0 e1 kc
            have HBF := Lib.hid hb2.2.2
            clear hb3 hb4 hb2 hr2
            go_wp2_with fail
            rw [Exit.noGoto_ret]
            exact bodyPost_ret (v := .agg #[.int .i64 i, .int .i64 (code j)]) (by simp [results, Tryz.results34, go_sem, d0, d1, f0, f1, e0, e1, g0, g1]) rfl ⟨by rw [HA.out], (((HBF.out.setCell (by simp) _).setCell (by simp) _).setCell (Nat.le_refl _) _).setCell (Nat.le_refl _) _⟩

end Go.Proofs.YtekmnopgaopmlaaGreatDoor

/- Check of the program. -/
set_option maxRecDepth 100000
set_option linter.unusedSimpArgs false
set_option linter.unusedVariables false
namespace Go.Proofs.YtekmnopgaopmlaaGreatDoor
open Go.RowKit

/-- The three faults, and their codes, functions. -/
def p3 (l : List Ins) (j i : Nat) : Bool := match l[i]? with
  | some x => if j = 0 then !insRight x else if j = 1 then !isOp x.c else strayI l.length i x
  | none => false
def code3 (j : Nat) : Int := if j = 0 then 1 else if j = 1 then 3 else 8
def fun3 (j : Nat) : Nat := if j = 0 then 35 else if j = 1 then 36 else 37
def p1 (l : List Ins) (_ i : Nat) : Bool := match l[i]? with
  | some x => unU ((wrL l).getD i 0) x
  | none => false

theorem last_next {n i : Nat} {x : Ins} (hi : i + 1 < n) (h6 : x.c ≠ 6) (h22 : x.c ≠ 22) (h5 : x.c ≠ 5) (hl : looksC x.c = false) : farBad n (nextI x i) = false := by
  have : nextI x i = [(i : Int) + 1] := by simp [nextI, h6, h22, h5, hl]
  rw [this]
  simp [farBad]
  omega
theorem stray_eq {l : List Ins} {i : Nat} {x : Ins} (hle : lastEnds l = true) (hi : l[i]? = some x) (hr : insRight x = true) : strayI l.length i x = (rangeBad x || farBad l.length (nextI x i)) := by
  have hlt : i < l.length := (List.getElem?_eq_some_iff.1 hi).1
  have hend : i + 1 = l.length → endC x.c = true := by
    intro e
    unfold lastEnds at hle
    rw [show l.length - 1 = i by omega, hi] at hle
    exact hle
  have hk := (ins_bd hr).2.2.2
  have far : ∀ c, c = x.c → endC c = false → c ≠ 5 → looksC c = false → farBad l.length (nextI x i) = false := by
    rintro c rfl he h5 hl
    have hi1 : i + 1 < l.length := by
      rcases Nat.lt_or_ge (i + 1) l.length with h | h
      · exact h
      · have := hend (by omega)
        rw [he] at this
        cases this
    simp only [endC, Bool.or_eq_false_iff, beq_eq_false_iff_ne, ne_eq] at he
    exact last_next hi1 he.1 he.2 h5 hl
  unfold strayI rangeBad
  by_cases h32 : x.c = 32
  · rw [if_pos h32, far 32 h32.symm (by decide) (by decide) (by decide), h32]
    simp [cellC]
  rw [if_neg h32]
  by_cases hc : cellC x.c = true
  · rw [if_pos hc]
    have hcc := hc
    simp only [cellC, List.contains_eq_mem, List.mem_cons, List.not_mem_nil, or_false, decide_eq_true_eq] at hcc
    have hf : farBad l.length (nextI x i) = false := by
      rcases hcc with h | h | h | h <;> exact far _ h.symm (by decide) (by decide) (by decide)
    rw [hf, hc]
    have n52 := (cell_not hc)
    simp only [beq_eq_false_iff_ne.2 h32, beq_eq_false_iff_ne.2 n52.1, beq_eq_false_iff_ne.2 n52.2.1, beq_eq_false_iff_ne.2 n52.2.2, Bool.false_and, Bool.true_and, Bool.false_or, Bool.or_false]
    by_cases h : 16 ≤ x.k
    · rw [decide_eq_true h, decide_eq_true (by omega)]
    · rw [decide_eq_false h, decide_eq_false (by omega)]
  rw [if_neg hc]
  have hc' : cellC x.c = false := by simpa using hc
  by_cases h52 : x.c = 52
  · rw [if_pos h52, far 52 h52.symm (by decide) (by decide) (by decide), h52]
    simp [cellC]
  rw [if_neg h52]
  by_cases hs : x.c = 100 ∨ x.c = 116
  · rw [if_pos hs]
    have hf : farBad l.length (nextI x i) = false := by
      rcases hs with h | h <;> exact far _ h.symm (by decide) (by decide) (by decide)
    rw [hf, hc']
    rcases hs with h | h <;> simp [h]
  · rw [if_neg hs]
    have h1 : x.c ≠ 100 := fun h => hs (.inl h)
    have h2 : x.c ≠ 116 := fun h => hs (.inr h)
    simp [h32, hc', h52, h1, h2]

theorem faultJ3 {l : List Ins} {i : Nat} {x : Ins} (hle : lastEnds l = true) (hi : l[i]? = some x) :
    (badI l.length i x = 0 ∧ faultJ (p3 l) 3 i = none) ∨ (badI l.length i x ≠ 0 ∧ ∃ j, faultJ (p3 l) 3 i = some j ∧ code3 j = badI l.length i x) := by
  have q0 : p3 l 0 i = !insRight x := by unfold p3; rw [hi]; rfl
  have q1 : p3 l 1 i = !isOp x.c := by unfold p3; rw [hi]; rfl
  have q2 : p3 l 2 i = strayI l.length i x := by unfold p3; rw [hi]; rfl
  cases hr : insRight x with
  | false =>
    have hb : badI l.length i x = 1 := by unfold badI; rw [if_pos hr]
    exact .inr ⟨by rw [hb]; decide, 0, range_hit (fun j hj => by omega) (by omega) (by rw [q0, hr]; rfl), hb.symm⟩
  | true =>
    cases ho : isOp x.c with
    | false =>
      have hb : badI l.length i x = 3 := by unfold badI; rw [if_neg (by simp [hr]), if_pos ho]
      exact .inr ⟨by rw [hb]; decide, 1, range_hit (fun j hj => by obtain rfl : j = 0 := (by omega); rw [q0, hr]; rfl) (by omega) (by rw [q1, ho]; rfl), hb.symm⟩
    | true =>
      rw [stray_eq hle hi hr] at q2
      have hb : badI l.length i x = if rangeBad x = true then 8 else if farBad l.length (nextI x i) = true then 8 else 0 := by
        unfold badI; rw [if_neg (by simp [hr]), if_neg (by simp [ho])]
      have h01 : ∀ j, j < 2 → p3 l j i = false := fun j hj => by
        rcases (by omega : j = 0 ∨ j = 1) with rfl | rfl
        · rw [q0, hr]; rfl
        · rw [q1, ho]; rfl
      cases hs : (rangeBad x || farBad l.length (nextI x i)) with
      | false =>
        rw [hs] at q2
        simp only [Bool.or_eq_false_iff] at hs
        rw [if_neg (by simp [hs.1]), if_neg (by simp [hs.2])] at hb
        exact .inl ⟨hb, range_none fun j hj => by
          rcases (by omega : j < 2 ∨ j = 2) with h | rfl
          · exact h01 j h
          · exact q2⟩
      | true =>
        rw [hs] at q2
        have hb8 : badI l.length i x = 8 := by
          rw [hb]
          cases h1 : rangeBad x
          · rw [h1] at hs
            rw [if_neg (by simp), if_pos (by simpa using hs)]
          · rw [if_pos rfl]
        exact .inr ⟨by rw [hb8]; decide, 2, range_hit h01 (by omega) q2, hb8.symm⟩
theorem find_congr {p q : Nat → Bool} {n : Nat} (h : ∀ i, i < n → p i = q i) : (List.range n).find? p = (List.range n).find? q := by
  have : ∀ (l : List Nat), (∀ i ∈ l, p i = q i) → l.find? p = l.find? q := by
    intro l
    induction l with
    | nil => intro _; rfl
    | cons a l ih =>
      intro h
      simp only [List.find?_cons]
      rw [h a (by simp), ih fun i hi => h i (by simp [hi])]
  exact this _ fun i hi => h i (List.mem_range.1 hi)
theorem fault3 {l : List Ins} (hle : lastEnds l = true) : faultAt (p3 l) code3 3 l.length = match (List.range l.length).find? (badP l) with
    | some i => ((i : Int), badAt l i)
    | none => (0, 0) := by
  have hI : faultI (p3 l) 3 l.length = (List.range l.length).find? (badP l) := find_congr fun i hi => by
    have hx := List.getElem?_eq_getElem hi
    have hb : badP l i = (badI l.length i l[i] != 0) := by unfold badP; rw [hx]
    rw [hb]
    rcases faultJ3 hle hx with ⟨h0, h1⟩ | ⟨h0, j, h1, _⟩
    · rw [h0, h1]; rfl
    · rw [h1]; simpa using h0
  unfold faultAt
  rw [hI]
  cases hf : (List.range l.length).find? (badP l) with
  | none => rfl
  | some i =>
    have hi : i < l.length := List.mem_range.1 (List.mem_of_find?_eq_some hf)
    have hp := List.find?_some hf
    have hx := List.getElem?_eq_getElem hi
    have hb : badP l i = (badI l.length i l[i] != 0) := by unfold badP; rw [hx]
    have ha : badAt l i = badI l.length i l[i] := by unfold badAt; rw [hx]
    rw [hb] at hp
    simp only [bne_iff_ne, ne_eq] at hp
    rcases faultJ3 hle hx with ⟨h0, _⟩ | ⟨_, j, h1, h2⟩
    · exact absurd h0 hp
    · simp only [h1, h2, ha]
theorem unU_eq {l : List Ins} {i : Nat} {x : Ins} (h : ∀ a ∈ wrL l, M16 a) (hk : readsC x.c = true → 0 ≤ x.k ∧ x.k ≤ 15) : unU ((wrL l).getD i 0) x = unI l i x := by
  unfold unU unI
  cases hr : readsC x.c with
  | false => rfl
  | true =>
    have hm := getD_m16 h i
    have hq : M16 ((wrL l).getD i 0 / 2 ^ x.k.toNat) := by
      have hp : (0 : Int) < 2 ^ x.k.toNat := Int.pow_pos (by decide)
      exact ⟨Int.ediv_nonneg hm.1 (by omega), Int.le_trans (Int.ediv_le_self _ hm.1) hm.2⟩
    rw [(and_u16 hq (⟨by decide, by decide⟩ : M16 1)).1]
theorem fault1 {l : List Ins} (h : ∀ a ∈ wrL l, M16 a) (hk : ∀ x ∈ l, readsC x.c = true → 0 ≤ x.k ∧ x.k ≤ 15) : faultAt (p1 l) (fun _ => 6) 1 l.length = match (List.range l.length).find? (unP l) with
    | some i => ((i : Int), 6)
    | none => (0, 0) := by
  have key : ∀ i, i < l.length → faultJ (p1 l) 1 i = if unP l i then some 0 else none := fun i hi => by
    have hx := List.getElem?_eq_getElem hi
    have hb : unP l i = p1 l 0 i := by unfold unP p1; rw [hx]; exact (unU_eq h (hk _ (List.getElem_mem hi))).symm
    rw [hb]
    cases hp : p1 l 0 i
    · exact range_none fun j hj => by obtain rfl : j = 0 := (by omega); exact hp
    · exact range_hit (fun j hj => by omega) (by omega) hp
  have hI : faultI (p1 l) 1 l.length = (List.range l.length).find? (unP l) := find_congr fun i hi => by
    rw [key i hi]
    cases unP l i <;> rfl
  unfold faultAt
  rw [hI]
  cases hf : (List.range l.length).find? (unP l) with
  | none => rfl
  | some i =>
    have hi : i < l.length := List.mem_range.1 (List.mem_of_find?_eq_some hf)
    simp only [key i hi, List.find?_some hf, if_true]

theorem readsUnwritten_any (ua : Option Addr) (n cap : Nat) (w : World) : Calls Tryz.prog 38 #[.slice ua n cap] w fun e w' => e = .returned (.func (.func 71) #[] #[.pointer (some ⟨w.heap.size, 0, none⟩)]) ∧ w' = w.alloc (.cells #[.slice ua n cap] 75) := by
  have hmf : ∀ (fn : Fn) (first cap : Array Value) (w : World), (Instr.makeFunc fn first cap).run Tryz.prog w = .ok (.func fn first cap) w := fun _ _ _ _ => rfl
  go_enter Tryz.func38, Tryz.ntmps38
  go_wp2
  go_ret
  exact ⟨rfl, rfl⟩

theorem cells3 (w : World) (o : Obj) (E : TypeId) : ∀ j, j < 3 → ((w.alloc o).alloc (.cells #[.int .i64 1, .func (.func 35) #[] #[], .int .i64 3, .func (.func 36) #[] #[], .int .i64 8, .func (.func 37) #[] #[]] E)).cell? ⟨w.heap.size + 1, j * 2, none⟩ = some (.int .i64 (code3 j)) := by
  intro j hj
  rw [World.cell?_alloc_at _ _ _ _ (by simp)]
  rcases (by omega : j = 0 ∨ j = 1 ∨ j = 2) with rfl | rfl | rfl <;> rfl
theorem funs3 (w : World) (o : Obj) (E : TypeId) : ∀ j, j < 3 → ((w.alloc o).alloc (.cells #[.int .i64 1, .func (.func 35) #[] #[], .int .i64 3, .func (.func 36) #[] #[], .int .i64 8, .func (.func 37) #[] #[]] E)).cell? ⟨w.heap.size + 1, j * 2 + 1, none⟩ = some (.func (.func (fun3 j)) #[] #[]) := by
  intro j hj
  rw [World.cell?_alloc_at _ _ _ _ (by simp)]
  rcases (by omega : j = 0 ∨ j = 1 ∨ j = 2) with rfl | rfl | rfl <;> rfl
theorem enter3 : ∀ j, j < 3 → ∀ args W, (callFunc (fun3 j) args).run Tryz.prog W = .ok (.enter (fun3 j) args) W := by
  intro j hj args W
  rcases (by omega : j = 0 ∨ j = 1 ∨ j = 2) with rfl | rfl | rfl
  · exact Tryz.call35 args W
  · exact Tryz.call36 args W
  · exact Tryz.call37 args W
theorem call3 (v : Value) (l : List Ins) (w : World) (h : InsAt w w.heap.size v l) (hn : l.length ≤ 1048576) (w1 : World) (hb : Below w.heap.size w w1) : ∀ j i W, j < 3 → i < l.length → (∀ b, b < j → p3 l b i = false) → Below w1.heap.size w1 W →
    Calls Tryz.prog (fun3 j) (#[v, .int .i64 i] ++ #[]) W fun e w' => e = .returned (.bool (p3 l j i)) ∧ Below W.heap.size W w' := by
  intro j i W hj hi hp hW
  have hb2 := hb.trans (hW.mono hb.size)
  have hI := (h.below hb2).up hb2.size
  have hx := List.getElem?_eq_getElem hi
  have q0 : p3 l 0 i = !insRight l[i] := by unfold p3; rw [hx]; rfl
  have q1 : p3 l 1 i = !isOp l[i].c := by unfold p3; rw [hx]; rfl
  have q2 : p3 l 2 i = strayI l.length i l[i] := by unfold p3; rw [hx]; rfl
  rcases (by omega : j = 0 ∨ j = 1 ∨ j = 2) with rfl | rfl | rfl
  · rw [q0]; exact misfits_any v l i _ W hI hx hn
  · rw [q1]; exact nameless_any v l i _ W hI hx hn
  · have hr := hp 0 (by omega)
    rw [q0] at hr
    rw [q2]; exact strays_any v l i _ W hI hx hn (by simpa using hr)

theorem cells1 (w : World) (o : Obj) (E : TypeId) (f : Value) : ∀ j, j < 1 → ((w.alloc o).alloc (.cells #[.int .i64 6, f] E)).cell? ⟨w.heap.size + 1, j * 2, none⟩ = some (.int .i64 6) := by
  intro j hj
  rw [World.cell?_alloc_at _ _ _ _ (by simp)]
  obtain rfl : j = 0 := by omega
  rfl
theorem funs1 (w : World) (o : Obj) (E : TypeId) (f : Value) : ∀ j, j < 1 → ((w.alloc o).alloc (.cells #[.int .i64 6, f] E)).cell? ⟨w.heap.size + 1, j * 2 + 1, none⟩ = some f := by
  intro j hj
  rw [World.cell?_alloc_at _ _ _ _ (by simp)]
  obtain rfl : j = 0 := by omega
  rfl
theorem call1 (v : Value) (l : List Ins) (w : World) (h : InsAt w w.heap.size v l) (hn : l.length ≤ 1048576) (E : TypeId) (ua : Option Addr) (n ucap : Nat) (w4 : World) (o : Obj) (hb : Below w.heap.size w ((w4.alloc (.cells #[.slice ua n ucap] E)).alloc o))
    (hu : LAt u16C 1 (fun _ => True) w4 w4.heap.size (.slice ua n ucap) (wrL l)) (hM : ∀ a ∈ wrL l, M16 a) (hR : ∀ x ∈ l, readsC x.c = true → 0 ≤ x.k ∧ x.k ≤ 15) :
    ∀ j i W, j < 1 → i < l.length → (∀ b, b < j → p1 l b i = false) → Below ((w4.alloc (.cells #[.slice ua n ucap] E)).alloc o).heap.size ((w4.alloc (.cells #[.slice ua n ucap] E)).alloc o) W →
    Calls Tryz.prog 71 (#[v, .int .i64 i] ++ #[.pointer (some ⟨w4.heap.size, 0, none⟩)]) W fun e w' => e = .returned (.bool (p1 l j i)) ∧ Below W.heap.size W w' := by
  intro j i W hj hi hp hW
  have hb2 := hb.trans (hW.mono hb.size)
  have hI := (h.below hb2).up hb2.size
  have hx := List.getElem?_eq_getElem hi
  have hil : i < (wrL l).length := by rw [show (wrL l).length = l.length from wrK_length l _]; exact hi
  have hm := List.getElem?_eq_getElem hil
  have q0 : p1 l j i = unU (wrL l)[i] l[i] := by unfold p1; rw [hx]; simp only [List.getD_eq_getElem?_getD, hm, Option.getD_some]
  have h4W : Below w4.heap.size w4 W := (((Below.refl _ _).alloc (Nat.le_refl _) _).alloc (by simp) _).trans (hW.mono (by simp; omega))
  have hc : W.cell? ⟨w4.heap.size, 0, none⟩ = some (.slice ua n ucap) := by
    rw [hW.cell (p := ⟨w4.heap.size, 0, none⟩) (by simp; omega), World.cell?_alloc_past _ _ _ (by simp), World.cell?_alloc_at _ _ _ _ rfl]
    rfl
  have hmm := hM _ (List.getElem_mem hil)
  rw [q0]
  exact unwritten_any v l i _ (.slice ua n ucap) (wrL l) (wrL l)[i] w4.heap.size W hI hx hn hc (by have := hW.size; simp at this; omega) ((hu.below h4W).up h4W.size) hm (hR _ (List.getElem_mem hi)) hmm.1 hmm.2

set_option maxHeartbeats 3200000 in
theorem implCheck_any (v : Value) (l : List Ins) (w : World) (h : InsAt w w.heap.size v l) :
    Calls Tryz.prog 6 #[v] w fun e w' => e = .returned (.agg #[.int .i64 (checkL l).1, .int .i64 (checkL l).2]) ∧ Below w.heap.size w w' := by
  obtain ⟨a, cap, rfl, hlc, hcm⟩ := h.len
  unfold maxLen at hcm
  by_cases h400 : 400 < l.length
  · have HA := Lib.hid (show checkL l = (0, 2) by unfold checkL; rw [if_pos h400])
    clear h
    go_enter Tryz.func6, Tryz.ntmps6
    go_wp2_with fail
    exact bodyPost_ret (v := .agg #[.int .i64 0, .int .i64 2]) (by simp [results, Tryz.results6, go_sem]) rfl ⟨by rw [HA.out], (Below.refl _ _).alloc (Nat.le_refl _) _⟩
  by_cases h0 : l.length = 0
  · have HA := Lib.hid (show checkL l = (0, 1) by unfold checkL; rw [if_neg h400, if_pos h0])
    clear h
    rw [h0] at *
    clear h0
    go_enter Tryz.func6, Tryz.ntmps6
    go_wp2_with fail
    exact bodyPost_ret (v := .agg #[.int .i64 0, .int .i64 1]) (by simp [results, Tryz.results6, go_sem]) rfl ⟨by rw [HA.out], (Below.refl _ _).alloc (Nat.le_refl _) _⟩
  have hA0 : checkL l = if lastEnds l = false then (((l.length - 1 : Nat) : Int), 1) else match (List.range l.length).find? (badP l) with
    | some i => (i, badAt l i)
    | none => match (List.range l.length).find? (unP l) with
      | some i => (i, 6)
      | none => (0, 0) := by unfold checkL; rw [if_neg h400, if_neg h0] <;> rfl
  have hlast : l.length - 1 < l.length := by omega
  have hq4 : decide ((400 : Int) < (l.length : Int)) = false := decide_eq_false (by omega)
  have hsub : ((l.length : Int) - 1) = ((l.length - 1 : Nat) : Int) := by omega
  have hle : lastEnds l = endC (l[l.length - 1]).c := by unfold lastEnds; rw [List.getElem?_eq_getElem hlast]
  have HH := Lib.hid h
  obtain ⟨b, o, e, hb, c0, c1, c2, c3, hwf⟩ := h.at_ (List.getElem?_eq_getElem hlast)
  subst e
  generalize hx : l[l.length - 1] = x at *
  obtain ⟨xc, xy, xn, xk⟩ := x
  simp only at c0 c1 c2 c3 hle
  have qe := fun W => ends_any xc W
  rw [show endsC xc = lastEnds l from hle.symm] at qe
  have QE := Lib.hid qe
  clear h qe hx hwf
  have HLE := Lib.hid hle
  clear hle
  cases hte : lastEnds l with
  | false =>
    rw [hte] at hA0 QE
    rw [if_pos rfl] at hA0
    have HA := Lib.hid hA0
    clear hA0 hte
    go_enter Tryz.func6, Tryz.ntmps6
    go_wp2_with fail
    refine (QE.out _).mono ?_
    rintro e w1 ⟨rfl, rfl⟩
    go_wp2_with fail
    exact bodyPost_ret (v := .agg #[.int .i64 ((l.length - 1 : Nat) : Int), .int .i64 1]) (by simp [results, Tryz.results6, go_sem]) rfl ⟨by rw [HA.out], (Below.refl _ _).alloc (Nat.le_refl _) _⟩
  | true =>
    rw [hte] at hA0 QE
    rw [if_neg (by decide)] at hA0
    have hf3 := fault3 hte
    have HTE := Lib.hid hte
    clear hte
    obtain ⟨f, hf⟩ : ∃ f, (List.range l.length).find? (badP l) = f := ⟨_, rfl⟩
    rw [hf] at hA0 hf3
    have HF := Lib.hid hf
    have HA0 := Lib.hid hA0
    have HF3 := Lib.hid hf3
    clear hA0 hf hf3
    go_enter Tryz.func6, Tryz.ntmps6
    go_wp2_with fail
    refine (QE.out _).mono ?_
    rintro e w1 ⟨rfl, rfl⟩
    go_wp2_with fail
    have hbw1 : Below w.heap.size w ((w.alloc (.cells #[.int .i64 0, .int .i64 0] 26)).alloc (.cells #[.int .i64 1, .func (.func 35) #[] #[], .int .i64 3, .func (.func 36) #[] #[], .int .i64 8, .func (.func 37) #[] #[]] 72)) := ((Below.refl _ _).alloc (Nat.le_refl _) _).alloc (by simp) _
    have HB1 := Lib.hid hbw1
    clear hbw1
    have hq3 := firstFault_any _ l (w.heap.size + 1) 3 code3 fun3 (fun _ => #[]) (p3 l) _ ((HH.out.below HB1.out).up HB1.out.size) (by omega) (by omega) (by simp) (cells3 w _ _) (funs3 w _ _) enter3 (call3 _ l w HH.out (by omega) _ HB1.out)
    rw [HF3.out] at hq3
    cases f with
    | some i =>
      have hi : i < l.length := List.mem_range.1 (List.mem_of_find?_eq_some HF.out)
      have hbad : badAt l i ≠ 0 := by
        have hp := List.find?_some HF.out
        have hx := List.getElem?_eq_getElem hi
        have hb : badP l i = (badI l.length i l[i] != 0) := by unfold badP; rw [hx]
        have ha : badAt l i = badI l.length i l[i] := by unfold badAt; rw [hx]
        rw [hb] at hp
        rw [ha]
        simpa using hp
      have hn0 : (badAt l i != 0) = true := by simpa using hbad
      have HA := Lib.hid (show checkL l = ((i : Int), badAt l i) from HA0.out)
      clear HA0 HF3 HF
      simp only at hq3
      have HQ3 := Lib.hid hq3
      clear hq3 hbad
      generalize badAt l i = bd at *
      refine HQ3.out.mono ?_
      rintro e w2 ⟨rfl, hb2⟩
      have hbx := (Below.refl _ (w.alloc (.cells #[.int .i64 0, .int .i64 0] 26))).trans (((Below.refl _ _).alloc (Nat.le_refl _) _).trans (hb2.mono (by simp)))
      have HBX := Lib.hid hbx
      have d0 := box_cell hbx 0
      have d1 := box_cell hbx 1
      have f0 := box_free hbx 0
      have f1 := box_free hbx 1
      have hlt : w.heap.size < w2.heap.size := by have := hbx.size; simp at this; omega
      simp only [List.getElem?_toArray, List.getElem?_cons_zero, List.getElem?_cons_succ] at d0 d1
      clear hbx hb2
      go_wp2_with fail
      exact bodyPost_ret (v := .agg #[.int .i64 i, .int .i64 bd]) (by simp [results, Tryz.results6, go_sem, d0, d1, f0, f1, hlt, World.cell?_alloc_past]) rfl ⟨by rw [HA.out], (((box_below HBX.out).setCell (p := ⟨w.heap.size, 0, none⟩) (Nat.le_refl _) _).setCell (p := ⟨w.heap.size, 1, none⟩) (Nat.le_refl _) _).alloc (by simp; omega) _⟩
    | none =>
      have hok : ∀ (i : Nat) (hi : i < l.length), insRight l[i] = true ∧ (cellC l[i].c = true → l[i].k ≤ 15) ∧ ∀ t ∈ nextI l[i] i, 0 ≤ t ∧ t < l.length := fun i hi => bad_zero (n := l.length) (i := i) (x := l[i]) (by
        have hx := List.getElem?_eq_getElem hi
        have hb : badP l i = (badI l.length i l[i] != 0) := by unfold badP; rw [hx]
        have := List.find?_range_eq_none.1 HF.out i hi
        rw [hb] at this
        simpa using this)
      simp only at hq3
      have HOK := Lib.hid hok
      have HQ3 := Lib.hid hq3
      clear hq3 hok
      refine HQ3.out.mono ?_
      rintro e w2 ⟨rfl, hb2⟩
      have hbx := (Below.refl _ (w.alloc (.cells #[.int .i64 0, .int .i64 0] 26))).trans (((Below.refl _ _).alloc (Nat.le_refl _) _).trans (hb2.mono (by simp)))
      have hbx2 := hbx.alloc hbx.size (.cells #[.int .i64 0, .int .i64 0] 26)
      have HBX2 := Lib.hid hbx2
      clear hbx hbx2 hb2
      have HCA := Lib.hid (fun W (hW : InsAt W W.heap.size (.slice (some ⟨b, o, none⟩) l.length cap) l) => cellsAhead_any _ l W hW (by omega) (by omega) (fun i hi => ⟨(HOK.out i hi).1, fun h23 => (HOK.out i hi).2.1 (by rcases h23 with e | e <;> rw [e] <;> rfl), (HOK.out i hi).2.2⟩))
      go_wp2_with fail
      refine (HCA.out _ ((HH.out.below (box_below HBX2.out)).up (box_below HBX2.out).size)).mono ?_
      rintro e w4 ⟨u, rfl, ho4, hb4⟩
      obtain ⟨ua, ucap, rfl⟩ := OwnL.slice ho4
      have hL4 := Lib.hid (ho4.lAt u16S fun _ _ => trivial : LAt u16C 1 (fun _ => True) w4 w4.heap.size _ (wrL l))
      have hwl : (wrL l).length = l.length := wrK_length l _
      rw [hwl] at hL4 ⊢
      have HB4 := Lib.hid (HBX2.out.trans (hb4.mono HBX2.out.size))
      clear ho4 hb4 hwl
      go_wp2_with fail
      refine (readsUnwritten_any ua l.length ucap _).mono ?_
      rintro e w5 ⟨rfl, rfl⟩
      go_wp2_with fail
      have hM := wrK_m16 (l := l) (fun x hx h23 => by
        obtain ⟨i, hi, rfl⟩ := List.getElem_of_mem hx
        exact (HOK.out i hi).2.1 (by rcases h23 with e | e <;> rw [e] <;> rfl)) l.length
      have hR : ∀ x ∈ l, readsC x.c = true → 0 ≤ x.k ∧ x.k ≤ 15 := fun x hx hr => by
        obtain ⟨i, hi, rfl⟩ := List.getElem_of_mem hx
        refine ⟨(ins_bd (HOK.out i hi).1).2.2.2.1, (HOK.out i hi).2.1 ?_⟩
        simp only [readsC, cellC, List.contains_eq_mem, List.mem_cons, List.not_mem_nil, or_false, decide_eq_true_eq] at hr ⊢
        rcases hr with e | e <;> simp [e]
      have HA := Lib.hid (show checkL l = faultAt (p1 l) (fun _ => 6) 1 l.length from HA0.out.trans (fault1 hM hR).symm)
      have hb6 : Below w.heap.size w ((w4.alloc (.cells #[.slice ua l.length ucap] 75)).alloc (.cells #[.int .i64 6, .func (.func 71) #[] #[.pointer (some ⟨w4.heap.size, 0, none⟩)]] 72)) := ((box_below HB4.out).alloc (box_below HB4.out).size _).alloc (Nat.le_trans (box_below HB4.out).size (by simp)) _
      have HB6 := Lib.hid hb6
      clear hb6
      have hq1 := firstFault_any _ l (w4.heap.size + 1) 1 (fun _ => 6) (fun _ => 71) (fun _ => #[.pointer (some ⟨w4.heap.size, 0, none⟩)]) (p1 l) _ ((HH.out.below HB6.out).up HB6.out.size) (by omega) (by omega) (by simp) (cells1 w4 _ _ _) (funs1 w4 _ _ _) (fun _ _ => Tryz.call71) (call1 _ l w HH.out (by omega) _ ua l.length ucap w4 _ HB6.out hL4.out hM hR)
      have HQ1 := Lib.hid hq1
      clear hq1 hM hR
      generalize faultAt (p1 l) (fun _ => 6) 1 l.length = fa at *
      refine HQ1.out.mono ?_
      rintro e w6 ⟨rfl, hb6⟩
      have hbx := HB4.out.trans ((((Below.refl _ _).alloc (Nat.le_refl _) _).alloc (by simp) _).trans (hb6.mono (by simp; omega)) |>.mono HB4.out.size)
      have HBX := Lib.hid hbx
      have d0 := box_cell hbx 0
      have d1 := box_cell hbx 1
      have f0 := box_free hbx 0
      have f1 := box_free hbx 1
      simp only [List.getElem?_toArray, List.getElem?_cons_zero, List.getElem?_cons_succ] at d0 d1
      clear hbx hb6
      go_wp2_with fail
      exact bodyPost_ret (v := .agg #[.int .i64 fa.1, .int .i64 fa.2]) (by simp [results, Tryz.results6, go_sem, d0, d1, f0, f1]) rfl ⟨by rw [HA.out], ((box_below HBX.out).setCell (p := ⟨w.heap.size, 0, none⟩) (Nat.le_refl _) _).setCell (p := ⟨w.heap.size, 1, none⟩) (Nat.le_refl _) _⟩

end Go.Proofs.YtekmnopgaopmlaaGreatDoor

/- What the laws of chapter 5 ask beside: CheckOuts compared; lists of numbers compared, marked, held. -/
set_option maxRecDepth 100000
set_option linter.unusedSimpArgs false
set_option linter.unusedVariables false
namespace Go.Proofs.YtekmnopgaopmlaaGreatDoor
open Go.RowKit

/-- A row of two numbers. -/
def CoAt (W : World) (b : Nat) (p q : Int) : Prop := W.cell? ⟨b, 0, none⟩ = some (.int .i64 p) ∧ W.cell? ⟨b, 1, none⟩ = some (.int .i64 q) ∧ b < W.heap.size
theorem CoAt.new (w : World) (p q : Int) (T : TypeId) : CoAt (w.alloc (.cells #[.int .i64 p, .int .i64 q] T)) w.heap.size p q :=
  ⟨World.cell?_alloc_at _ _ _ _ rfl, World.cell?_alloc_at _ _ _ _ rfl, by simp⟩
theorem CoAt.below {W W' : World} {b : Nat} {p q : Int} (h : CoAt W b p q) (hb : Below W.heap.size W W') : CoAt W' b p q :=
  ⟨(hb.cell (p := ⟨b, 0, none⟩) h.2.2).trans h.1, (hb.cell (p := ⟨b, 1, none⟩) h.2.2).trans h.2.1, Nat.lt_of_lt_of_le h.2.2 hb.size⟩

end Go.Proofs.YtekmnopgaopmlaaGreatDoor

/- Ways and Written, of the model and of the program; a program that is let by, and a place of it. -/
set_option maxRecDepth 100000
set_option linter.unusedSimpArgs false
set_option linter.unusedVariables false
namespace Go.Proofs.YtekmnopgaopmlaaGreatDoor
open Go.RowKit

def goodI (l : List Ins) (at_ : Int) : Bool := (checkL l).2 == 0 && isB at_ 0 ((l.length : Int) - 1)
theorem good_facts {l : List Ins} (h : (checkL l).2 = 0) : 1 ≤ l.length ∧ l.length ≤ 400 ∧ ∀ (i : Nat) (hi : i < l.length), insRight l[i] = true ∧ (cellC l[i].c = true → l[i].k ≤ 15) ∧ ∀ t ∈ nextI l[i] i, 0 ≤ t ∧ t < l.length := by
  unfold checkL at h
  split at h
  · simp at h
  split at h
  · simp at h
  split at h
  · simp at h
  rename_i h1 h2 h3
  refine ⟨by omega, by omega, fun i hi => bad_zero (n := l.length) (i := i) (x := l[i]) ?_⟩
  cases hf : (List.range l.length).find? (badP l) with
  | some j =>
    rw [hf] at h
    simp only at h
    have hj : j < l.length := List.mem_range.1 (List.mem_of_find?_eq_some hf)
    have hp := List.find?_some hf
    have hx := List.getElem?_eq_getElem hj
    have hb : badP l j = (badI l.length j l[j] != 0) := by unfold badP; rw [hx]
    have ha : badAt l j = badI l.length j l[j] := by unfold badAt; rw [hx]
    rw [hb] at hp
    rw [ha] at h
    rw [h] at hp
    simp at hp
  | none =>
    have hx := List.getElem?_eq_getElem hi
    have hb : badP l i = (badI l.length i l[i] != 0) := by unfold badP; rw [hx]
    have := List.find?_range_eq_none.1 hf i hi
    rw [hb] at this
    simpa using this
theorem good_store {l : List Ins} (h : ∀ (i : Nat) (hi : i < l.length), insRight l[i] = true ∧ (cellC l[i].c = true → l[i].k ≤ 15) ∧ ∀ t ∈ nextI l[i] i, 0 ≤ t ∧ t < l.length) :
    ∀ (i : Nat) (hi : i < l.length), insRight l[i] = true ∧ (l[i].c = 2 ∨ l[i].c = 3 → l[i].k ≤ 15) ∧ ∀ t ∈ nextI l[i] i, 0 ≤ t ∧ t < l.length :=
  fun i hi => ⟨(h i hi).1, fun h23 => (h i hi).2.1 (by rcases h23 with e | e <;> rw [e] <;> rfl), (h i hi).2.2⟩
theorem code_out (w : World) (a b : Value) : (Instr.field 26 (.agg #[a, b]) 1).run Tryz.prog w = .ok b w := by
  simp [Instr.field, part, asAgg, go_sem]

theorem specGood_any (v : Value) (l : List Ins) (at_ : Int) (w : World) (h : InsAt w w.heap.size v l) (ha : In64 at_) :
    Calls Tryz.prog 49 #[v, .int .i64 at_] w fun e w' => e = .returned (.bool (goodI l at_)) ∧ Below w.heap.size w w' := by
  obtain ⟨a, cap, rfl, hlc, hcm⟩ := h.len
  unfold maxLen at hcm
  have hf := code_out
  have hq := Check_any _ l w h
  have q2 := fun W => l02Is_any at_ 0 ((l.length : Int) - 1) W
  have HG := Lib.hid (show goodI l at_ = ((checkL l).2 == 0 && isB at_ 0 ((l.length : Int) - 1)) from rfl)
  generalize isB at_ 0 ((l.length : Int) - 1) = t at *
  generalize goodI l at_ = g at *
  generalize checkL l = r at *
  obtain ⟨rp, rq⟩ := r
  simp only at hq HG
  have HQ := Lib.hid hq
  have Q2 := Lib.hid q2
  clear hq q2 h
  by_cases h0 : rq = 0
  · subst h0
    go_enter Tryz.func49, Tryz.ntmps49
    go_wp2_with fail
    refine HQ.out.mono ?_
    rintro e w1 ⟨rfl, hb1⟩
    have HB := Lib.hid hb1
    clear hb1
    go_wp2_with fail
    refine (Q2.out _).mono ?_
    rintro e w2 ⟨rfl, rfl⟩
    go_wp2_with fail
    go_ret
    exact ⟨ret_bool (by rw [HG.out]; rfl), HB.out⟩
  · have e0 : (rq == 0) = false := eq_false_of h0
    have HG2 := Lib.hid (HG.out.trans (by rw [e0]; rfl) : g = false)
    clear h0
    go_enter Tryz.func49, Tryz.ntmps49
    go_wp2_with fail
    refine HQ.out.mono ?_
    rintro e w1 ⟨rfl, hb1⟩
    have HB := Lib.hid hb1
    clear hb1
    go_wp2_with fail
    go_ret
    exact ⟨ret_bool HG2.out.symm, HB.out⟩

theorem hasPlace_any (v : Value) (l : List Ins) (at_ : Int) (w : World) (h : InsAt w w.heap.size v l) (ha : In64 at_) :
    Calls Tryz.prog 47 #[v, .int .i64 at_] w fun e w' => e = .returned (.bool (goodI l at_)) ∧ Below w.heap.size w w' := by
  obtain ⟨a, cap, rfl, hlc, hcm⟩ := h.len
  unfold maxLen at hcm
  have hf := code_out
  have hq := implCheck_any _ l w h
  have q2 := fun W => within_any at_ ((l.length : Int) - 1) W
  have HG := Lib.hid (show goodI l at_ = ((checkL l).2 == 0 && isB at_ 0 ((l.length : Int) - 1)) from rfl)
  generalize isB at_ 0 ((l.length : Int) - 1) = t at *
  generalize goodI l at_ = g at *
  generalize checkL l = r at *
  obtain ⟨rp, rq⟩ := r
  simp only at hq HG
  have HQ := Lib.hid hq
  have Q2 := Lib.hid q2
  clear hq q2 h
  by_cases h0 : rq = 0
  · subst h0
    go_enter Tryz.func47, Tryz.ntmps47
    go_wp2_with fail
    refine HQ.out.mono ?_
    rintro e w1 ⟨rfl, hb1⟩
    have HB := Lib.hid hb1
    clear hb1
    go_wp2_with fail
    refine (Q2.out _).mono ?_
    rintro e w2 ⟨rfl, rfl⟩
    go_wp2_with fail
    go_ret
    exact ⟨ret_bool (by rw [HG.out]; rfl), HB.out⟩
  · have e0 : (rq == 0) = false := eq_false_of h0
    have HG2 := Lib.hid (HG.out.trans (by rw [e0]; rfl) : g = false)
    clear h0
    go_enter Tryz.func47, Tryz.ntmps47
    go_wp2_with fail
    refine HQ.out.mono ?_
    rintro e w1 ⟨rfl, hb1⟩
    have HB := Lib.hid hb1
    clear hb1
    go_wp2_with fail
    go_ret
    exact ⟨ret_bool HG2.out.symm, HB.out⟩

theorem good_true {l : List Ins} {at_ : Int} (h : goodI l at_ = true) : (checkL l).2 = 0 ∧ ∃ k : Nat, at_ = k ∧ k < l.length := by
  unfold goodI isB at h
  simp only [Bool.and_eq_true, beq_iff_eq, decide_eq_true_eq] at h
  obtain ⟨h0, h1, h2⟩ := h
  obtain ⟨k, rfl⟩ := Int.eq_ofNat_of_zero_le h1
  exact ⟨h0, k, rfl, by omega⟩
def writtenI (l : List Ins) (at_ : Int) : Int := if goodI l at_ then (wrL l).getD at_.toNat 0 else -1

theorem specWritten_any (v : Value) (l : List Ins) (at_ : Int) (w : World) (h : InsAt w w.heap.size v l) (ha : In64 at_) :
    Calls Tryz.prog 16 #[v, .int .i64 at_] w fun e w' => e = .returned (.int .i64 (writtenI l at_)) ∧ Below w.heap.size w w' := by
  obtain ⟨a, cap, rfl, hlc, hcm⟩ := h.len
  unfold maxLen at hcm
  have HH := Lib.hid h
  have hq := specGood_any _ l at_ w h ha
  cases hg : goodI l at_ <;> rw [hg] at hq
  · have HW := Lib.hid (show writtenI l at_ = -1 by unfold writtenI; rw [hg]; rfl)
    have HQ := Lib.hid hq
    clear h hq hg
    go_enter Tryz.func16, Tryz.ntmps16
    go_wp2_with fail
    refine HQ.out.mono ?_
    rintro e w1 ⟨rfl, hb1⟩
    have HB := Lib.hid hb1
    clear hb1
    go_wp2_with fail
    go_ret
    exact ⟨ret_int HW.out.symm, HB.out⟩
  · obtain ⟨hc, k, rfl, hk⟩ := good_true hg
    obtain ⟨hn1, hn2, hok⟩ := good_facts hc
    obtain ⟨m, hm⟩ : ∃ m, (wrL l)[k]? = some m := ⟨_, List.getElem?_eq_getElem (by rw [show (wrL l).length = l.length from wrK_length l _]; exact hk)⟩
    have HW := Lib.hid (show writtenI l (k : Int) = m by unfold writtenI; rw [hg, if_pos rfl, Int.toNat_natCast, List.getD_eq_getElem?_getD, hm]; rfl)
    have HM := Lib.hid hm
    have HQ := Lib.hid hq
    have HOK := Lib.hid (good_store hok)
    clear h hq hg hm hok hc
    go_enter Tryz.func16, Tryz.ntmps16
    go_wp2_with fail
    refine HQ.out.mono ?_
    rintro e w1 ⟨rfl, hb1⟩
    have HB := Lib.hid hb1
    clear hb1
    go_wp2_with fail
    refine (l04Written_any _ l _ ((HH.out.below HB.out).up HB.out.size) hn1 (by omega) (fun i hi => ⟨(HOK.out i hi).1, fun h => Int.le_trans ((HOK.out i hi).2.1 h) (by decide), (HOK.out i hi).2.2⟩)).mono ?_
    rintro e w2 ⟨u, rfl, ho, hb2⟩
    obtain ⟨ua, ucap, rfl⟩ := OwnL.slice ho
    obtain ⟨ub, uo, e, hub, hcell, _⟩ := LAt.at_ (intAt_own ho) HM.out
    subst e
    have d := hcell 0 _ rfl
    simp only [Nat.mul_one, Nat.add_zero] at d
    have HB2 := Lib.hid (HB.out.trans (hb2.mono HB.out.size))
    have hwl : (wrL l).length = l.length := wrK_length l _
    have hkw : k < (wrL l).length := by omega
    have hnl := OwnL.cap_le ho
    unfold maxLen at hnl
    clear hcell ho hb2 hwl
    go_wp2_with fail
    go_ret
    exact ⟨ret_int HW.out.symm, HB2.out⟩

theorem implWritten_any (v : Value) (l : List Ins) (at_ : Int) (w : World) (h : InsAt w w.heap.size v l) (ha : In64 at_) :
    Calls Tryz.prog 15 #[v, .int .i64 at_] w fun e w' => e = .returned (.int .i64 (writtenI l at_)) ∧ Below w.heap.size w w' := by
  obtain ⟨a, cap, rfl, hlc, hcm⟩ := h.len
  unfold maxLen at hcm
  have HH := Lib.hid h
  have hq := hasPlace_any _ l at_ w h ha
  cases hg : goodI l at_ <;> rw [hg] at hq
  · have HW := Lib.hid (show writtenI l at_ = -1 by unfold writtenI; rw [hg]; rfl)
    have HQ := Lib.hid hq
    clear h hq hg
    go_enter Tryz.func15, Tryz.ntmps15
    go_wp2_with fail
    refine HQ.out.mono ?_
    rintro e w1 ⟨rfl, hb1⟩
    have HB := Lib.hid hb1
    clear hb1
    go_wp2_with fail
    go_ret
    exact ⟨ret_int HW.out.symm, HB.out⟩
  · obtain ⟨hc, k, rfl, hk⟩ := good_true hg
    obtain ⟨hn1, hn2, hok⟩ := good_facts hc
    obtain ⟨m, hm⟩ : ∃ m, (wrL l)[k]? = some m := ⟨_, List.getElem?_eq_getElem (by rw [show (wrL l).length = l.length from wrK_length l _]; exact hk)⟩
    have HW := Lib.hid (show writtenI l (k : Int) = m by unfold writtenI; rw [hg, if_pos rfl, Int.toNat_natCast, List.getD_eq_getElem?_getD, hm]; rfl)
    have HM := Lib.hid hm
    have HQ := Lib.hid hq
    have HOK := Lib.hid (good_store hok)
    have hm16 := wrK_m16 (l := l) (fun x hx => by
      obtain ⟨i, hi, rfl⟩ := List.getElem_of_mem hx
      exact (HOK.out i hi).2.1) l.length m (List.mem_of_getElem? hm)
    obtain ⟨hm0, hm1⟩ := hm16
    clear h hq hg hm hok hc
    go_enter Tryz.func15, Tryz.ntmps15
    go_wp2_with fail
    refine HQ.out.mono ?_
    rintro e w1 ⟨rfl, hb1⟩
    have HB := Lib.hid hb1
    clear hb1
    go_wp2_with fail
    refine (cellsAhead_any _ l _ ((HH.out.below HB.out).up HB.out.size) hn1 (by omega) HOK.out).mono ?_
    rintro e w2 ⟨u, rfl, ho, hb2⟩
    obtain ⟨ua, ucap, rfl⟩ := OwnL.slice ho
    obtain ⟨ub, uo, e, hub, hcell, _⟩ := LAt.at_ (ho.lAt u16S fun _ _ => trivial : LAt u16C 1 (fun _ => True) w2 w2.heap.size _ (wrL l)) HM.out
    subst e
    have d := hcell 0 _ rfl
    simp only [Nat.mul_one, Nat.add_zero] at d
    have HB2 := Lib.hid (HB.out.trans (hb2.mono HB.out.size))
    have hwl : (wrL l).length = l.length := wrK_length l _
    have hkw : k < (wrL l).length := by omega
    have hnl := OwnL.cap_le ho
    unfold maxLen at hnl
    clear hcell ho hb2 hwl
    go_wp2_with fail
    go_ret
    exact ⟨ret_int HW.out.symm, HB2.out⟩

def waysI (l : List Ins) (at_ : Int) : List Int := if goodI l at_ then (match l[at_.toNat]? with
  | some x => nextI x at_
  | none => []) else []

theorem implWays_any (v : Value) (l : List Ins) (at_ : Int) (w : World) (h : InsAt w w.heap.size v l) (ha : In64 at_) :
    Calls Tryz.prog 13 #[v, .int .i64 at_] w fun e w' => ∃ u, e = .returned u ∧ OwnL 2 1 numC w.heap.size w' u (waysI l at_) ∧ Below w.heap.size w w' := by
  obtain ⟨a, cap, rfl, hlc, hcm⟩ := h.len
  unfold maxLen at hcm
  have HH := Lib.hid h
  have hq := hasPlace_any _ l at_ w h ha
  cases hg : goodI l at_ <;> rw [hg] at hq
  · have HW := Lib.hid (show waysI l at_ = [] by unfold waysI; rw [hg]; rfl)
    have HQ := Lib.hid hq
    clear h hq hg
    go_enter Tryz.func13, Tryz.ntmps13
    go_wp2_with fail
    refine HQ.out.mono ?_
    rintro e w1 ⟨rfl, hb1⟩
    have HB := Lib.hid hb1
    clear hb1
    go_wp2_with fail
    go_ret
    exact ⟨_, rfl, by rw [HW.out]; exact OwnL.nil _ _, HB.out⟩
  · obtain ⟨hc, k, rfl, hk⟩ := good_true hg
    obtain ⟨hn1, hn2, hok⟩ := good_facts hc
    have HW := Lib.hid (show waysI l (k : Int) = nextI l[k] k by unfold waysI; rw [hg, if_pos rfl, Int.toNat_natCast, List.getElem?_eq_getElem hk])
    have HQ := Lib.hid hq
    have hr := (hok k hk).1
    have hqn := fun W => waysFrom_any l[k] k W (by omega) hr
    clear h hq hg hok hc hr
    generalize hxx : l[k] = x at *
    have HX := Lib.hid (show l[k]? = some x by rw [List.getElem?_eq_getElem hk, hxx])
    obtain ⟨xc, xy, xn, xk⟩ := x
    simp only at hqn
    generalize nextI ⟨xc, xy, xn, xk⟩ k = nx at *
    have QN := Lib.hid hqn
    clear hqn hxx
    go_enter Tryz.func13, Tryz.ntmps13
    go_wp2_with fail
    refine HQ.out.mono ?_
    rintro e w1 ⟨rfl, hb1⟩
    obtain ⟨b, o, e, hb, c0, c1, c2, c3, hwf⟩ := (HH.out.below hb1).at_ HX.out
    subst e
    simp only at c0 c1 c2 c3
    have HB := Lib.hid hb1
    clear hb1 hwf
    go_wp2_with fail
    refine (QN.out _).mono ?_
    rintro e w2 ⟨u, rfl, ho, hb2⟩
    have HO := Lib.hid ho
    have HB2 := Lib.hid (HB.out.trans (hb2.mono HB.out.size))
    clear ho hb2
    go_wp2_with fail
    go_ret
    exact ⟨_, rfl, by rw [HW.out]; exact HO.out.base HB.out.size, HB2.out⟩

theorem int64Own_empty {base : Nat} {w : World} {H : Nat} (hb : base ≤ w.heap.size) (hH : H = w.heap.size) : OwnL 2 1 numC base (w.alloc (.cells #[] 2)) (.slice (some ⟨H, 0, none⟩) 0 0) [] := OwnL.lit hb hH
/-- 'append(l, n)': the number lies in a block of its own. -/
theorem wpList_push_int {ops : Array Oper} {rest : List Oper} {o : Oper} {a : Act} {Q : Exit → Act → World → Prop} (hgd : o.guard = none) (s x : Operand)
    (ho : o.op = .call { callee := .builtin .append, args := #[s, x], argTypes := #[40, 40] }) (wr : World) (c : Int)
    (base : Nat) (v : Value) (l : List Int) (hs : a.eval s = v) (hown : OwnL 2 1 numC base wr v l)
    (hx : a.eval x = .slice (some ⟨wr.heap.size, 0, none⟩) 1 1) (hlen : l.length ≤ 1000000000) (hbase : base ≤ wr.heap.size)
    (h : ∀ v' w', OwnL 2 1 numC base w' v' (l ++ [c]) → GrB wr w' v v' → wpList Tryz.prog ops Q rest (a.put o.dst v') w') :
    wpList Tryz.prog ops Q (o :: rest) a (wr.alloc (.cells #[.int .i64 c] 2)) := by
  obtain ⟨i0, hi, hz0, hz1, hz2⟩ := info_parts info_int64
  refine wpList_append_own_at _ hgd s x 40 ho base 2 i0 _ 1 8 Tryz.underlying40 hi hz0 hz1 hz2 rfl (by decide) v l.length (l.flatMap numC) hs
    (World.ownsRow.alloc hown _) ⟨wr.heap.size, 0, none⟩ 1 1 [.int .i64 c] hx rfl (fun j u hj => ?_) (by intro u hu; simp at hu; subst hu; rfl) (by unfold maxLen; omega) (by omega) (by simp; omega) ?_
  · rw [add_at, Nat.zero_add, World.cell?_alloc_at _ _ _ _ rfl, ← hj]; simp
  intro v' w' hown' hg _ hat
  refine h v' w' ?_ (GrB.alloc ⟨hg, ?_⟩)
  · unfold OwnL
    rw [List.flatMap_append, List.length_append]
    exact hown'
  · rcases hat with e | e
    · exact .inl e
    · exact .inr fun g hg' => by rw [e] at hg'; injection hg' with hg'; omega

theorem nextI_length (x : Ins) (i : Int) : (nextI x i).length ≤ 2 := by
  unfold nextI
  repeat' split
  all_goals simp
/-- A list that is read, beside one that grows. -/
def KeepL (ua : Option Addr) (nx : List Int) (w : World) (v : Value) : Prop := ∀ j x, nx[j]? = some x → ∃ ub uo, ua = some ⟨ub, uo, none⟩ ∧ ub < w.heap.size ∧ v.ownBlock ≠ some ub ∧ w.cell? ⟨ub, uo + j, none⟩ = some (.int .i64 x)
theorem KeepL.start {ua : Option Addr} {n ucap B : Nat} {nx : List Int} {w : World} {H m c : Nat} (h : IntOwn B w (.slice ua n ucap) nx) (hH : H < B) : KeepL ua nx w (.slice (some ⟨H, 0, none⟩) m c) := by
  intro j x hj
  obtain ⟨ub, uo, e, hub, hcell, _⟩ := LAt.at_ (intAt_own h) hj
  subst e
  have d := hcell 0 _ rfl
  simp only [Nat.mul_one, Nat.add_zero] at d
  refine ⟨ub, uo, rfl, hub, fun e => ?_, d⟩
  have := (h.lt ub rfl).1
  have : H = ub := by simpa [Value.ownBlock] using e
  omega
theorem KeepL.push {ua : Option Addr} {nx : List Int} {w w' : World} {v v' : Value} (h : KeepL ua nx w v) (hg : GrB w w' v v') : KeepL ua nx w' v' := by
  intro j x hj
  obtain ⟨ub, uo, e, hub, hne, d⟩ := h j x hj
  refine ⟨ub, uo, e, ?_, ?_, (hg.cell (p := ⟨ub, uo + j, none⟩) hub hne).trans d⟩
  · exact Nat.lt_of_lt_of_le hub hg.1.size
  · rcases hg.2 with e' | e'
    · rw [e']; exact hne
    · intro e2
      have := e' ub e2
      omega

set_option maxHeartbeats 1600000 in
theorem specWays_any (v : Value) (l : List Ins) (at_ : Int) (w : World) (h : InsAt w w.heap.size v l) (ha : In64 at_) :
    Calls Tryz.prog 14 #[v, .int .i64 at_] w fun e w' => ∃ u, e = .returned u ∧ OwnL 2 1 numC w.heap.size w' u (waysI l at_) ∧ Below w.heap.size w w' := by
  obtain ⟨a, cap, rfl, hlc, hcm⟩ := h.len
  unfold maxLen at hcm
  have HH := Lib.hid h
  have hq := fun W (hb : Below w.heap.size w W) => specGood_any _ l at_ W ((HH.out.below hb).up hb.size) ha
  have hb0 : Below w.heap.size w (w.alloc (.cells #[] 2)) := (Below.refl _ _).alloc (Nat.le_refl _) _
  have HB0 := Lib.hid hb0
  clear hb0
  cases hg : goodI l at_ <;> rw [hg] at hq
  · have HW := Lib.hid (show waysI l at_ = [] by unfold waysI; rw [hg]; rfl)
    have HQ := Lib.hid hq
    clear h hq hg
    go_enter Tryz.func14, Tryz.ntmps14
    go_wp2_with fail
    refine (HQ.out _ HB0.out).mono ?_
    rintro e w1 ⟨rfl, hb1⟩
    have HO := Lib.hid ((int64Own_empty (Nat.le_refl w.heap.size) rfl).below hb1)
    have HB := Lib.hid (HB0.out.trans (hb1.mono HB0.out.size))
    clear hb1
    go_wp2_with fail
    go_ret
    exact ⟨_, rfl, by rw [HW.out]; exact HO.out, HB.out⟩
  · obtain ⟨hc, k, rfl, hk⟩ := good_true hg
    obtain ⟨hn1, hn2, hok⟩ := good_facts hc
    have HW := Lib.hid (show waysI l (k : Int) = nextI l[k] k by unfold waysI; rw [hg, if_pos rfl, Int.toNat_natCast, List.getElem?_eq_getElem hk])
    have HQ := Lib.hid hq
    have hr := (hok k hk).1
    have hqn := fun W (hW : InsAt W W.heap.size _ l) => l04Next_any (.slice a l.length cap) l k l[k] W hW (List.getElem?_eq_getElem hk) (by omega) hr
    have hnx := nextI_length l[k] k
    clear h hq hg hok hc hr
    generalize nextI l[k] k = nx at *
    have QN := Lib.hid hqn
    clear hqn
    go_enter Tryz.func14, Tryz.ntmps14
    go_wp2_with fail
    refine (HQ.out _ HB0.out).mono ?_
    rintro e w1 ⟨rfl, hb1⟩
    have HO := Lib.hid ((int64Own_empty (Nat.le_refl w.heap.size) rfl).below hb1)
    have HB := Lib.hid (HB0.out.trans (hb1.mono HB0.out.size))
    have hgt : w.heap.size < w1.heap.size := by have := hb1.size; simp at this; omega
    clear hb1
    go_wp2_with fail
    refine (QN.out _ ((HH.out.below HB.out).up HB.out.size)).mono ?_
    rintro e w2 ⟨u, rfl, ho, hb2⟩
    obtain ⟨ua, ucap, rfl⟩ := OwnL.slice ho
    have hnl := OwnL.cap_le ho
    unfold maxLen at hnl
    obtain ⟨B2, hB2⟩ : ∃ B2, w1.heap.size = B2 := ⟨_, rfl⟩
    have HN := Lib.hid (hB2 ▸ ho : IntOwn B2 w2 _ nx)
    have HO2 := Lib.hid (HO.out.below hb2)
    have HB2 := Lib.hid (HB.out.trans (hb2.mono HB.out.size))
    clear ho hb2
    go_wp2_with fail
    go_loopw [5, 7] (fun v i ws => ∃ k : Nat, k ≤ nx.length ∧ i = .int .i64 k ∧ OwnL 2 1 numC w.heap.size ws v (nx.take k) ∧ Below w.heap.size w ws ∧ KeepL ua nx ws v) (fun _ i _ => nx.length - (intOf i).toNat)
    case atStart => exact ⟨0, by omega, rfl, HO2.out, HB2.out, KeepL.start HN.out (by omega)⟩
    case round =>
      obtain ⟨j, hj, rfl, hown, hbw, hkp⟩ := hrel
      by_cases hlt : j < nx.length
      · obtain ⟨ub, uo, e, hub, hne, d⟩ := hkp j _ (List.getElem?_eq_getElem hlt)
        have hnext : nx.take (j + 1) = nx.take j ++ [nx[j]] := List.take_succ_eq_append_getElem hlt
        have hle : (nx.take j).length ≤ 1000000000 := by rw [List.length_take]; omega
        have HKP := Lib.hid hkp
        have HE := Lib.hid e
        subst e
        generalize nx[j] = c at *
        have HNX := Lib.hid hnext
        have hsz := hbw.size
        clear hnext hkp
        go_wp2_with (at_builtin; refine wpList_push_int rfl _ _ (by rfl) _ _ w.heap.size _ (nx.take j) (by rfl) hown (by rfl) hle hsz ?_; intro v1 w3 hown1 hg1)
        rw [← HNX.out] at hown1
        have hb1 := hg1.below hbw hsz (fun q hq => (hown.lt q hq).1)
        go_roundw
        case rel => exact ⟨j + 1, by omega, by go_num, hown1, hb1, HKP.out.push hg1⟩
        case measure => simp [intOf]; omega
      · have hO := Lib.hid (show OwnL 2 1 numC w.heap.size wr _ nx by rw [List.take_of_length_le (by omega)] at hown; exact hown)
        clear hown hkp
        go_wp2_with fail
        go_ret
        exact ⟨_, rfl, by rw [HW.out]; exact hO.out, hbw⟩

end Go.Proofs.YtekmnopgaopmlaaGreatDoor


/- Check of the model walked. -/
import Derived.Test.YtibbcafhchoiiaaWt
import Derived.Deep.DeepCutAuto
import Derived.Deep.CutRange
import Derived.StillTailTactics
import Derived.BigQuiet
import Derived.Deep.Draws
set_option maxRecDepth 100000
set_option linter.unusedSimpArgs false
namespace Go.Proofs.Ytibbcafhchoiiaa
open Go.RowKit

def badP (l : List Ins) (i : Nat) : Bool := match l[i]? with
  | some x => badI l.length i x != 0
  | none => false
def unI (l : List Ins) (i : Nat) (x : Ins) : Bool := readsC x.c && (bits .and .i64 ((wrL l).getD i 0 / 2 ^ x.k.toNat) 1 == 0)
def unP (l : List Ins) (i : Nat) : Bool := match l[i]? with
  | some x => unI l i x
  | none => false
def endC (c : Int) : Bool := c == 6 || c == 22
def badAt (l : List Ins) (i : Nat) : Int := match l[i]? with
  | some x => badI l.length i x
  | none => 0
def lastEnds (l : List Ins) : Bool := match l[l.length - 1]? with
  | some x => endC x.c
  | none => false
def checkL (l : List Ins) : Int × Int :=
  if 400 < l.length then (0, 2)
  else if l.length = 0 then (0, 1)
  else if lastEnds l = false then ((l.length - 1 : Nat), 1)
  else match (List.range l.length).find? (badP l) with
    | some i => (i, badAt l i)
    | none => match (List.range l.length).find? (unP l) with
      | some i => (i, 6)
      | none => (0, 0)
theorem find_hit {p : Nat → Bool} {n k : Nat} (h : ∀ j, j < k → p j = false) (hk : k < n) (hp : p k = true) : (List.range n).find? p = some k := by
  rw [List.find?_range_eq_some]
  exact ⟨hp, List.mem_range.2 hk, fun j hj => by simp [h j hj]⟩
theorem find_none {p : Nat → Bool} {n : Nat} (h : ∀ j, j < n → p j = false) : (List.range n).find? p = none := by
  rw [List.find?_range_eq_none]
  exact fun j hj => by simp [h j hj]
theorem below_next {p : Nat → Bool} {k : Nat} (h : ∀ j, j < k → p j = false) (hk : p k = false) : ∀ j, j < k + 1 → p j = false := fun j hj => by
  rcases Nat.lt_or_ge j k with hl | hl
  · exact h j hl
  · obtain rfl : j = k := by omega
    exact hk

/-- What a word's being right brings. -/
theorem bad_zero {n i : Nat} {x : Ins} (h : badI n i x = 0) : insRight x = true ∧ (cellC x.c = true → x.k ≤ 15) ∧ ∀ t ∈ nextI x i, 0 ≤ t ∧ t < n := by
  unfold badI at h
  cases hr : insRight x <;> rw [hr] at h
  · simp at h
  simp only [Bool.true_eq_false, if_false] at h
  split at h
  · omega
  split at h
  · omega
  rename_i hg
  split at h
  · omega
  rename_i hf
  refine ⟨rfl, fun hc => ?_, fun t ht => ?_⟩
  · simp only [rangeBad, hc, Bool.true_and, Bool.or_eq_true, not_or, decide_eq_true_eq] at hg
    omega
  · have h1 : t < (n : Int) := by
      simp only [farBad, List.any_eq_true, decide_eq_true_eq, not_exists, not_and] at hf
      have := hf t ht
      omega
    refine ⟨?_, h1⟩
    have hb := ins_bd hr
    obtain ⟨_, ⟨hy, _⟩, ⟨hn, _⟩, ⟨hk, _⟩⟩ := hb
    unfold nextI at ht
    split at ht
    · simp at ht
    split at ht
    · simp at ht; omega
    split at ht
    · split at ht
      · simp at ht; omega
      · simp only [List.mem_cons, List.not_mem_nil, or_false] at ht
        rcases ht with rfl | rfl <;> split <;> omega
    · simp at ht; omega

set_option maxHeartbeats 3200000 in
theorem Check_any (v : Value) (l : List Ins) (w : World) (h : InsAt w w.heap.size v l) :
    Calls Try.prog 7 #[v] w fun e w' => e = .returned (.agg #[.int .i64 (checkL l).1, .int .i64 (checkL l).2]) ∧ Below w.heap.size w w' := by
  obtain ⟨a, cap, rfl, hlc, hcm⟩ := h.len
  unfold maxLen at hcm
  by_cases h400 : 400 < l.length
  · have HA := Lib.hid (show checkL l = (0, 2) by unfold checkL; rw [if_pos h400])
    clear h
    go_enter Try.func7, Try.ntmps7
    go_wp2_with fail
    exact bodyPost_ret (v := .agg #[.int .i64 0, .int .i64 2]) (by simp [results, Try.results7, go_sem]) rfl ⟨by rw [HA.out], (Below.refl _ _).alloc (Nat.le_refl _) _⟩
  by_cases h0 : l.length = 0
  · have HA := Lib.hid (show checkL l = (0, 1) by unfold checkL; rw [if_neg h400, if_pos h0])
    clear h
    rw [h0] at *
    clear h0
    go_enter Try.func7, Try.ntmps7
    go_wp2_with fail
    exact bodyPost_ret (v := .agg #[.int .i64 0, .int .i64 1]) (by simp [results, Try.results7, go_sem]) rfl ⟨by rw [HA.out], (Below.refl _ _).alloc (Nat.le_refl _) _⟩
  have hA0 : checkL l = if lastEnds l = false then (((l.length - 1 : Nat) : Int), 1) else match (List.range l.length).find? (badP l) with
    | some i => (i, badAt l i)
    | none => match (List.range l.length).find? (unP l) with
      | some i => (i, 6)
      | none => (0, 0) := by unfold checkL; rw [if_neg h400, if_neg h0]
  have hlast : l.length - 1 < l.length := by omega
  have hq0 : ((l.length : Int) == 0) = false := beq_eq_false_iff_ne.2 (by omega)
  have hq4 : decide ((400 : Int) < (l.length : Int)) = false := decide_eq_false (by omega)
  have hsub : ((l.length : Int) - 1) = ((l.length - 1 : Nat) : Int) := by omega
  have hle : lastEnds l = endC (l[l.length - 1]).c := by unfold lastEnds; rw [List.getElem?_eq_getElem hlast]
  have HH := Lib.hid h
  obtain ⟨b, o, e, hb, c0, c1, c2, c3, hwf⟩ := h.at_ (List.getElem?_eq_getElem hlast)
  subst e
  generalize hx : l[l.length - 1] = x at *
  obtain ⟨xc, xy, xn, xk⟩ := x
  simp only at c0 c1 c2 c3 hle
  rw [hle] at hA0
  by_cases hend : xc = 6 ∨ xc = 22
  · have hec : endC xc = true := by simpa [endC] using hend
    rw [if_neg (by simp [hec])] at hA0
    have HA0 := Lib.hid hA0
    have q1 : xc = 6 ∨ xc = 22 := hend
    clear h hend hec hA0 hle hx hwf
    go_enter Try.func7, Try.ntmps7
    go_upto_region 6 with fail
    go_cut [31] from 16 to 31 (fun s ws => s = .bool false ∧ ws = (w.alloc (.cells #[.int .i64 0, .int .i64 0] 25)))
    case first =>
      rcases q1 with rfl | rfl
      · go_wp2_with fail
        go_meet
        exact ⟨rfl, rfl⟩
      · go_wp2_with fail
        go_meet
        exact ⟨rfl, rfl⟩
    case rest =>
    obtain ⟨rfl, rfl⟩ := hcut
    clear c0 c1 c2 c3 q1 hsub hlast
    go_wp2_with fail
    go_loopw [4] (fun i wr => ∃ k : Nat, k ≤ l.length ∧ i = .int .i64 k ∧ (∀ j, j < k → badP l j = false) ∧ Below (w.alloc (.cells #[.int .i64 0, .int .i64 0] 25)).heap.size (w.alloc (.cells #[.int .i64 0, .int .i64 0] 25)) wr) (fun i _ => l.length - (intOf i).toNat)
    case atStart => exact ⟨0, by omega, rfl, fun j hj => by omega, Below.refl _ _⟩
    case round =>
      obtain ⟨k, hk, rfl, hgood, hbw⟩ := hrel
      have HG := Lib.hid hgood
      have HB := Lib.hid hbw
      clear hgood hbw
      by_cases hlt : k < l.length
      · have HI := Lib.hid ((HH.out.below (box_below HB.out)).up (box_below HB.out).size)
        have hq := fun W (hW : InsAt W W.heap.size _ l) => l04Bad_any (.slice (some ⟨b, o, none⟩) l.length cap) l k l[k] W hW (List.getElem?_eq_getElem hlt) (by omega)
        have hbd : badP l k = (badI l.length k l[k] != 0) := by unfold badP; rw [List.getElem?_eq_getElem hlt]
        have hba : badAt l k = badI l.length k l[k] := by unfold badAt; rw [List.getElem?_eq_getElem hlt]
        generalize badI l.length k l[k] = bd at *
        by_cases hz : bd = 0
        · subst hz
          have HN := Lib.hid (below_next HG.out (by rw [hbd]; rfl))
          have HQ := Lib.hid hq
          clear hq hbd hba
          go_wp2_with fail
          refine (HQ.out _ HI.out).mono ?_
          rintro e w3 ⟨rfl, hb3⟩
          have HB3 := Lib.hid (HB.out.trans (hb3.mono HB.out.size))
          clear hb3
          go_wp2_with fail
          go_roundw
          case rel => exact ⟨k + 1, by omega, by go_num, HN.out, HB3.out⟩
          case measure => simp [intOf]; omega
        · have hz1 : (bd != 0) = true := by simpa using hz
          have HA := Lib.hid (show checkL l = ((k : Int), bd) by rw [HA0.out, find_hit HG.out hlt (by rw [hbd]; exact hz1)]; simp only [hba])
          have HQ := Lib.hid hq
          clear hq hbd hba hz
          go_wp2_with fail
          refine (HQ.out _ HI.out).mono ?_
          rintro e w3 ⟨rfl, hb3⟩
          have hb4 := HB.out.trans (hb3.mono HB.out.size)
          have HB3 := Lib.hid hb4
          have d0 := box_cell hb4 0
          have d1 := box_cell hb4 1
          have f0 := box_free hb4 0
          have f1 := box_free hb4 1
          simp only [List.getElem?_toArray, List.getElem?_cons_zero, List.getElem?_cons_succ] at d0 d1
          clear hb3 hb4
          go_wp2_with fail
          exact bodyPost_ret (v := .agg #[.int .i64 k, .int .i64 bd]) (by simp [results, Try.results7, go_sem, d0, d1, f0, f1]) rfl ⟨by rw [HA.out], ((box_below HB3.out).setCell (Nat.le_refl _) _).setCell (Nat.le_refl _) _⟩
      · have hkl : k = l.length := by omega
        rw [hkl] at HG
        have hA1 := HA0.out
        rw [find_none HG.out] at hA1
        have HA1 := Lib.hid hA1
        have HOK := Lib.hid (fun (i : Nat) (hi : i < l.length) => bad_zero (n := l.length) (i := i) (x := l[i]) (by
          have := HG.out i hi
          unfold badP at this
          rw [List.getElem?_eq_getElem hi] at this
          simpa using this))
        have hq := l04Written_any (.slice (some ⟨b, o, none⟩) l.length cap) l wr ((HH.out.below (box_below HB.out)).up (box_below HB.out).size) (by omega) (by omega) (fun i hi => ⟨(HOK.out i hi).1, fun h23 => by
          have := (HOK.out i hi).2.1 (by rcases h23 with e | e <;> rw [e] <;> rfl)
          omega, (HOK.out i hi).2.2⟩)
        have HQ := Lib.hid hq
        clear hq hA1 HG HA0 hkl
        go_wp2_with fail
        refine HQ.out.mono ?_
        rintro e w3 ⟨u, rfl, ho3, hb3⟩
        obtain ⟨ua, ucap, rfl⟩ := OwnL.slice ho3
        have hwl := wrK_length l l.length
        rw [show (wrL l).length = l.length from hwl] at ho3 ⊢
        have HO3 := Lib.hid ho3
        have HB3 := Lib.hid (HB.out.trans (hb3.mono HB.out.size))
        clear ho3 hb3 hwl
        generalize wr.heap.size = B3 at *
        clear HQ
        go_wp2_with fail
        go_loopw [7] (fun i ws => ∃ k : Nat, k ≤ l.length ∧ i = .int .i64 k ∧ (∀ j, j < k → unP l j = false) ∧ OwnL 2 1 numC B3 ws (.slice ua l.length ucap) (wrL l) ∧ Below (w.alloc (.cells #[.int .i64 0, .int .i64 0] 25)).heap.size (w.alloc (.cells #[.int .i64 0, .int .i64 0] 25)) ws) (fun i _ => l.length - (intOf i).toNat)
        case atStart => exact ⟨0, by omega, rfl, fun j hj => by omega, HO3.out, HB3.out⟩
        case round =>
          obtain ⟨k, hk, rfl, hgood, hown, hbw⟩ := hrel
          have HG := Lib.hid hgood
          have HO := Lib.hid hown
          have HB := Lib.hid hbw
          clear hgood hown hbw HO3 HB3
          by_cases hlt : k < l.length
          · obtain ⟨b', o', e, hb', c0, c1, c2, c3, hwf⟩ := (HH.out.below (box_below HB.out)).at_ (List.getElem?_eq_getElem hlt)
            simp only [Option.some.injEq, Addr.mk.injEq, and_true] at e
            obtain ⟨rfl, rfl⟩ := e
            obtain ⟨m, hm⟩ : ∃ m, (wrL l)[k]? = some m := ⟨_, List.getElem?_eq_getElem (by rw [show (wrL l).length = l.length from wrK_length l _]; exact hlt)⟩
            obtain ⟨ub, uo, e, hub, hcell, _⟩ := LAt.at_ (n := l.length) (l := wrL l) (w := wr) (intAt_own (by have := HO.out; exact this)) hm
            subst e
            have d := hcell 0 _ rfl
            simp only [Nat.mul_one, Nat.add_zero] at d
            clear hcell
            have hun : unP l k = unI l k l[k] := by unfold unP; rw [List.getElem?_eq_getElem hlt]
            have hui : unI l k l[k] = (readsC l[k].c && (bits .and .i64 (m / 2 ^ l[k].k.toNat) 1 == 0)) := by unfold unI; rw [List.getD_eq_getElem?_getD, hm]; rfl
            have hz := HOK.out k hlt
            have hr := hz.1
            unfold insRight isB at hr
            simp only [Bool.and_eq_true, decide_eq_true_eq] at hr
            have hk0 := hr.2.1
            have hk15 := hz.2.1
            generalize hxx : l[k] = x at *
            obtain ⟨xc, xy, xn, xk⟩ := x
            simp only at c0 c1 c2 c3 hk0 hk15 hui
            generalize unI l k ⟨xc, xy, xn, xk⟩ = t at *
            have qr := fun W => l04Reads_any xc W
            have hcr : readsC xc = true → cellC xc = true := by
              simp only [readsC, cellC, List.contains_eq_mem, List.mem_cons, List.not_mem_nil, or_false, decide_eq_true_eq]
              rintro (rfl | rfl) <;> simp
            have hkr := fun hc => hk15 (hcr hc)
            generalize readsC xc = rc at *
            have HT := Lib.hid hui
            have HU := Lib.hid hun
            have QR := Lib.hid qr
            clear hui hun qr hz hr hk15 hcr hxx hm hwf
            go_upto_region 18 with fail
            go_cut [74] from 50 to 76 (fun s wx => s = .bool t ∧ OwnL 2 1 numC B3 wx (.slice (some ⟨ub, uo, none⟩) l.length ucap) (wrL l) ∧ Below (w.alloc (.cells #[.int .i64 0, .int .i64 0] 25)).heap.size (w.alloc (.cells #[.int .i64 0, .int .i64 0] 25)) wx)
            case first =>
              cases rc
              · go_quiet ((go_at_call 22; exact Calls.quiet_of_same ((QR.out _).mono fun _ _ h => ⟨h.1, h.2.symm⟩)))
                go_wp2_with fail
                go_meet
                exact ⟨congrArg Value.bool (by rw [HT.out]; rfl), HO.out, by induction nq with | zero => exact HB.out | succ n ih => exact ih.drew⟩
              · have hk15 := hkr rfl
                go_quiet ((go_at_call 22; exact Calls.quiet_of_same ((QR.out _).mono fun _ _ h => ⟨h.1, h.2.symm⟩)))
                go_wp2_with fail
                go_meet
                exact ⟨congrArg Value.bool (by rw [HT.out]; simp), HO.out, by induction nq with | zero => exact HB.out | succ n ih => exact ih.drew⟩
            case rest =>
            obtain ⟨rfl, hown, hbw⟩ := hcut
            have HO2 := Lib.hid hown
            have HB2 := Lib.hid hbw
            clear HO HB
            cases t
            · have HN := Lib.hid (below_next HG.out HU.out)
              clear hown hbw
              go_wp2_with fail
              go_roundw
              case rel => exact ⟨k + 1, by omega, by go_num, HN.out, HO2.out, HB2.out⟩
              case measure => simp [intOf]; omega
            · have HA := Lib.hid (show checkL l = ((k : Int), 6) by rw [HA1.out, find_hit HG.out hlt HU.out])
              have d0 := box_cell hbw 0
              have d1 := box_cell hbw 1
              have f0 := box_free hbw 0
              have f1 := box_free hbw 1
              simp only [List.getElem?_toArray, List.getElem?_cons_zero, List.getElem?_cons_succ] at d0 d1
              clear hown hbw
              go_wp2_with fail
              exact bodyPost_ret (v := .agg #[.int .i64 k, .int .i64 6]) (by simp [results, Try.results7, go_sem, d0, d1, f0, f1]) rfl ⟨by rw [HA.out], ((box_below HB2.out).setCell (Nat.le_refl _) _).setCell (Nat.le_refl _) _⟩
          · have hkl : k = l.length := by omega
            rw [hkl] at HG
            have HA := Lib.hid (show checkL l = (0, 0) by rw [HA1.out, find_none HG.out])
            have hbw := HB.out
            have d0 := box_cell hbw 0
            have d1 := box_cell hbw 1
            have f0 := box_free hbw 0
            have f1 := box_free hbw 1
            simp only [List.getElem?_toArray, List.getElem?_cons_zero, List.getElem?_cons_succ] at d0 d1
            clear hbw hkl HG
            go_wp2_with fail
            exact bodyPost_ret (v := .agg #[.int .i64 0, .int .i64 0]) (by simp [results, Try.results7, go_sem, d0, d1, f0, f1]) rfl ⟨by rw [HA.out], ((box_below HB.out).setCell (Nat.le_refl _) _).setCell (Nat.le_refl _) _⟩
  · have hec : endC xc = false := by simpa [endC] using hend
    have HA := Lib.hid (hA0.trans (if_pos hec))
    have n6 := eq_false_of (fun e => hend (.inl e))
    have n22 := eq_false_of (fun e => hend (.inr e))
    have q6 : (xc != 6) = true := by simpa using n6
    have q22 : (xc != 22) = true := by simpa using n22
    clear h hend hec hA0 hle hx n6 n22 hwf
    go_enter Try.func7, Try.ntmps7
    go_wp2_with fail
    exact bodyPost_ret (v := .agg #[.int .i64 ((l.length - 1 : Nat) : Int), .int .i64 1]) (by simp [results, Try.results7, go_sem]) rfl ⟨by rw [HA.out], (Below.refl _ _).alloc (Nat.le_refl _) _⟩

end Go.Proofs.Ytibbcafhchoiiaa

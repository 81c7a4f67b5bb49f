/- The first fault of a program's words, in the program: firstFault, whatever the faults are. -/
import Derived.Test.YtibbcafhchoiiaaCb
import Derived.WalkMore
import Derived.Laws.EntriesVeiled
import Derived.Deep.LoopGhost
set_option maxRecDepth 100000
set_option linter.unusedSimpArgs false
set_option linter.unusedVariables false
namespace Go.Proofs.Ytibbcafhchoiiaa
open Go.RowKit

/-- Of the first place with a fault the place, and the first fault's code. -/
def faultJ (p : Nat → Nat → Bool) (m i : Nat) : Option Nat := (List.range m).find? fun j => p j i
def faultI (p : Nat → Nat → Bool) (m n : Nat) : Option Nat := (List.range n).find? fun i => (faultJ p m i).isSome
def faultAt (p : Nat → Nat → Bool) (code : Nat → Int) (m n : Nat) : Int × Int := match faultI p m n with
  | some i => (i, match faultJ p m i with
    | some j => code j
    | none => 0)
  | none => (0, 0)
theorem range_hit {p : Nat → Bool} {n k : Nat} (h : ∀ j, j < k → p j = false) (hk : k < n) (hp : p k = true) : (List.range n).find? p = some k := by
  rw [List.find?_range_eq_some]
  exact ⟨hp, List.mem_range.2 hk, fun j hj => by simp [h j hj]⟩
theorem range_none {p : Nat → Bool} {n : Nat} (h : ∀ j, j < n → p j = false) : (List.range n).find? p = none := by
  rw [List.find?_range_eq_none]
  exact fun j hj => by simp [h j hj]
theorem fault_hit {p : Nat → Nat → Bool} {code : Nat → Int} {m n i j : Nat} (hi : i < n) (hj : j < m) (h0 : ∀ a, a < i → faultJ p m a = none) (h1 : ∀ b, b < j → p b i = false) (h2 : p j i = true) : faultAt p code m n = ((i : Int), code j) := by
  have hJ : faultJ p m i = some j := range_hit h1 hj h2
  have hI : faultI p m n = some i := range_hit (fun a ha => by rw [h0 a ha]; rfl) hi (by rw [hJ]; rfl)
  unfold faultAt
  rw [hI]
  simp only [hJ]
theorem fault_none {p : Nat → Nat → Bool} {code : Nat → Int} {m n : Nat} (h0 : ∀ a, a < n → faultJ p m a = none) : faultAt p code m n = (0, 0) := by
  have hI : faultI p m n = none := range_none (fun a ha => by rw [h0 a ha]; rfl)
  unfold faultAt
  rw [hI]

set_option maxHeartbeats 3200000 in
theorem firstFault_any (v : Value) (l : List Ins) (fb m : Nat) (code : Nat → Int) (K : Nat → Nat) (cp : Nat → Array Value) (p : Nat → Nat → Bool) (w : World) (h : InsAt w w.heap.size v l) (hn : l.length ≤ 100000) (hm : m ≤ 1000) (hfb : fb < w.heap.size)
    (hcode : ∀ j, j < m → w.cell? ⟨fb, j * 2, none⟩ = some (.int .i64 (code j))) (hfun : ∀ j, j < m → w.cell? ⟨fb, j * 2 + 1, none⟩ = some (.func (.func (K j)) #[] (cp j)))
    (henter : ∀ j, j < m → ∀ args W, (callFunc (K j) args).run Try.prog W = .ok (.enter (K j) args) W)
    (hcall : ∀ j i W, j < m → i < l.length → (∀ b, b < j → p b i = false) → Below w.heap.size w W → Calls Try.prog (K j) (#[v, .int .i64 i] ++ cp j) W fun e w' => e = .returned (.bool (p j i)) ∧ Below W.heap.size W w') :
    Calls Try.prog 25 #[v, .slice (some ⟨fb, 0, none⟩) m m] w fun e w' => e = .returned (.agg #[.int .i64 (faultAt p code m l.length).1, .int .i64 (faultAt p code m l.length).2]) ∧ Below w.heap.size w w' := by
  obtain ⟨a, cap, rfl, hlc, hcm⟩ := h.len
  unfold maxLen at hcm
  have HC := Lib.hid hcode
  have HF := Lib.hid hfun
  have HE := Lib.hid henter
  have HQ := Lib.hid hcall
  clear hcode hfun henter hcall h
  go_enter Try.func25, Try.ntmps25
  go_wp2
  go_step3
  go_wp2
  go_step3
  go_wp2
  go_loopg [12] l.length (fun g s wx => ∃ i : Nat, i + g = l.length ∧ s = .int .i64 i ∧ Aside (∀ a, a < i → faultJ p m a = none) ∧ Below ((w.alloc (.cells #[.int .i64 0, .int .i64 0] 25)).alloc (.cells #[.int .i64 0, .int .i64 0] 25)).heap.size ((w.alloc (.cells #[.int .i64 0, .int .i64 0] 25)).alloc (.cells #[.int .i64 0, .int .i64 0] 25)) wx)
  case atStart => exact ⟨0, by omega, rfl, fun a h => by omega, Below.refl _ _⟩
  case round =>
    obtain ⟨i, hig, rfl, HN, hbw⟩ := hrel
    have HB := Lib.hid hbw
    clear hbw
    cases gk with
    | zero =>
      have hz : decide (i < l.length) = false := decide_eq_false (by omega)
      have e : i = l.length := by omega
      rw [e] at HN
      clear e
      have HA := Lib.hid (fault_none (code := code) HN.out)
      have hb2 := box2 HB.out
      have hr2 := rows2 HB.out
      have f0 := frozen_row hr2.1 0
      have f1 := frozen_row hr2.1 1
      have hbb := hb2.2.2
      have d0 := hb2.1 0
      have d1 := hb2.1 1
      have e0 := hb2.2.1 0
      have e1 := hb2.2.1 1
      simp only [List.getElem?_toArray, List.getElem?_cons_zero, List.getElem?_cons_succ] at d0 d1 e0 e1
      have HBB := Lib.hid hbb
      clear hb2 hr2 hbb
      go_wp2_with fail
      rw [Exit.noGoto_ret]
      exact bodyPost_ret (v := .agg #[.int .i64 0, .int .i64 0]) (by simp [results, Try.results25, go_sem, d0, d1, f0, f1]) rfl ⟨by rw [HA.out], (HBB.out.setCell (Nat.le_refl _) _).setCell (Nat.le_refl _) _⟩
    | succ g =>
      have hz : decide (i < l.length) = true := decide_eq_true (by omega)
      have hi : i < l.length := by omega
      go_wp2_with fail
      go_loopg [18] m (fun g2 s wy => ∃ j : Nat, j + g2 = m ∧ s = .int .i64 j ∧ Aside (∀ b, b < j → p b i = false) ∧ Below ((w.alloc (.cells #[.int .i64 0, .int .i64 0] 25)).alloc (.cells #[.int .i64 0, .int .i64 0] 25)).heap.size ((w.alloc (.cells #[.int .i64 0, .int .i64 0] 25)).alloc (.cells #[.int .i64 0, .int .i64 0] 25)) wy)
      case atStart => exact ⟨0, by omega, rfl, fun a h => by omega, HB.out⟩
      case round =>
        obtain ⟨j, hjg, rfl, HP, hbw⟩ := hrel
        have HB := Lib.hid hbw
        clear hbw
        cases gk with
        | zero =>
          have hz2 : decide (j < m) = false := decide_eq_false (by omega)
          have e : j = m := by omega
          rw [e] at HP
          clear e
          go_wp2_with fail
          go_roundg g
          case measure => omega
          case rel => exact ⟨i + 1, by omega, by go_num, fun a h => by
            rcases Nat.lt_or_ge a i with h' | h'
            · exact HN.out a h'
            · obtain rfl : a = i := by omega
              exact range_none HP.out, HB.out⟩
        | succ g2 =>
          have hz2 : decide (j < m) = true := decide_eq_true (by omega)
          have hj : j < m := by omega
          have hb2 := box2 HB.out
          have k0 := (hb2.2.2.cell (p := ⟨fb, j * 2, none⟩) hfb).trans (HC.out j hj)
          have k1 := (hb2.2.2.cell (p := ⟨fb, j * 2 + 1, none⟩) hfb).trans (HF.out j hj)
          have ke := HE.out j hj
          have HQJ := Lib.hid (fun W => HQ.out j i W hj hi HP.out)
          have HBB := Lib.hid (fun o => hb2.2.2.alloc hb2.2.2.size o)
          have HBA := Lib.hid (fun o => HB.out.alloc HB.out.size o)
          clear hb2
          cases hpj : p j i with
          | false =>
            have HPF := Lib.hid hpj
            rw [hpj] at HQJ
            clear hpj
            go_wp2_with fail
            refine (HQJ.out _ (HBB.out _)).mono ?_
            rintro e w3 ⟨rfl, hb3⟩
            have HB3 := Lib.hid ((HBA.out _).trans (hb3.mono (HBA.out _).size))
            clear hb3
            go_wp2_with fail
            go_roundg g2
            case measure => omega
            case rel => exact ⟨j + 1, by omega, by go_num, fun b h => by
              rcases Nat.lt_or_ge b j with h' | h'
              · exact HP.out b h'
              · obtain rfl : b = j := by omega
                exact HPF.out, HB3.out⟩
          | true =>
            have HA := Lib.hid (fault_hit (code := code) hi hj HN.out HP.out hpj)
            rw [hpj] at HQJ
            clear hpj
            go_wp2_with fail
            refine (HQJ.out _ (HBB.out _)).mono ?_
            rintro e w3 ⟨rfl, hb3⟩
            have kc := box_cell hb3 0
            have hb4 := (HBA.out (.cells #[.int .i64 (code j), .func (.func (K j)) #[] (cp j)] 49)).trans (hb3.mono (HBA.out _).size)
            have hb2 := box2 hb4
            have hr2 := rows2 hb4
            have f0 := frozen_row hr2.1 0
            have f1 := frozen_row hr2.1 1
            have g0 := frozen_row hr2.2.1 0
            have g1 := frozen_row hr2.2.1 1
            have d0 := hb2.1 0
            have d1 := hb2.1 1
            have e0 := hb2.2.1 0
            have e1 := hb2.2.1 1
            simp only [List.getElem?_toArray, List.getElem?_cons_zero, List.getElem?_cons_succ] at d0 d1 e0 e1 kc
            have HBF := Lib.hid hb2.2.2
            clear hb3 hb4 hb2 hr2
            go_wp2_with fail
            rw [Exit.noGoto_ret]
            exact bodyPost_ret (v := .agg #[.int .i64 i, .int .i64 (code j)]) (by simp [results, Try.results25, go_sem, d0, d1, f0, f1, e0, e1, g0, g1]) rfl ⟨by rw [HA.out], (((HBF.out.setCell (by simp) _).setCell (by simp) _).setCell (Nat.le_refl _) _).setCell (Nat.le_refl _) _⟩

end Go.Proofs.Ytibbcafhchoiiaa

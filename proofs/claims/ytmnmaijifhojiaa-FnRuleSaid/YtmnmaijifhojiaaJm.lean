/- Rules alike: RuleSame of the model and of the program, slices.Equal, l06At, hasRule walked. -/
import Derived.Test.YtmnmaijifhojiaaJl
import Derived.Test.YtmnmaijifhojiaaJi
set_option maxRecDepth 100000
set_option linter.unusedVariables false
set_option linter.unusedSimpArgs false
namespace Go.Proofs.Ytmnmaijifhojiaa
open Go.RowKit
attribute [local go_sem ↓] Go.wp_at_zero Go.wp_at_succ

theorem eqCmpIn (xa xo xmh xml xvh xvl ya yo ymh yml yvh yvl : Int) (w : World) : (Op.equalIn 10000 26 (.agg #[.int .i64 xa, .int .i64 xo, .int .i64 xmh, .int .i64 xml, .int .i64 xvh, .int .i64 xvl]) (.agg #[.int .i64 ya, .int .i64 yo, .int .i64 ymh, .int .i64 yml, .int .i64 yvh, .int .i64 yvl])).run Try.prog w = .ok (decide ((⟨xa, xo, xmh, xml, xvh, xvl⟩ : Cq) = ⟨ya, yo, ymh, yml, yvh, yvl⟩)) w := by
  have hS : Try.prog.underlying 26 = some (.struct (Try.prog.fieldsOf 26)) := by kernel_rfl
  have hp : Try.prog.stoodInHeld 26 = false := by kernel_rfl
  have w1 := eqWordIn xmh xml ymh yml w
  have w2 := eqWordIn xvh xvl yvh yvl w
  rw [show (10000 : Nat) = 9999 + 1 from rfl, run_equalIn_agg w 9999 26 _ _ hS hp]
  simp only [Program.fieldsOf, Try.underlying26]
  go_simp
  by_cases h1 : xa = ya <;> by_cases h2 : xo = yo <;> by_cases h3 : xmh = ymh <;> by_cases h4 : xml = yml <;> by_cases h5 : xvh = yvh <;> by_cases h6 : xvl = yvl <;> simp [h1, h2, h3, h4, h5, h6]

set_option maxHeartbeats 6400000 in
theorem specRuleSame_any (nr ac nr' ac' : Int) (cs ds : List Cq) (v u : Value) (w : World) (hv : CqAt w w.heap.size v cs) (hu : CqAt w w.heap.size u ds) :
    Calls Try.prog 30 #[.agg #[.int .i64 nr, .int .i64 ac, v], .agg #[.int .i64 nr', .int .i64 ac', u]] w fun e w' =>
      e = .returned (.bool (decide ((⟨nr, ac, cs⟩ : Rl) = ⟨nr', ac', ds⟩))) ∧ Below w.heap.size w w' := by
  obtain ⟨a, cap, rfl, hlc, hcm⟩ := hv.len
  obtain ⟨a', cap', rfl, hlc', hcm'⟩ := hu.len
  unfold maxLen at hcm hcm'
  by_cases e0 : nr = nr'
  · by_cases e1 : ac = ac'
    · by_cases hl : cs.length = ds.length
      · have HR := Lib.hid (show decide ((⟨nr, ac, cs⟩ : Rl) = ⟨nr', ac', ds⟩) = decide (cs = ds) by
          subst e0 e1
          rw [Bool.eq_iff_iff]
          simp)
        have n0 := nn_int e0
        have n1 := nn_int e1
        have n2 : ((cs.length : Int) != (ds.length : Int)) = false := by rw [hl]; simp
        have HL := Lib.hid hl
        have HV := Lib.hid hv
        have HU := Lib.hid hu
        subst e0 e1
        clear hv hu hl
        go_enter Try.func30, Try.ntmps30
        go_wp2_with fail
        go_loopw [5] (fun i wr => ∃ k : Nat, k ≤ cs.length ∧ i = .int .i64 k ∧ cs.take k = ds.take k ∧ Below ((w.alloc (.cells #[.int .i64 nr, .int .i64 ac, .slice a cs.length cap] 35)).alloc (.cells #[.int .i64 nr, .int .i64 ac, .slice a' ds.length cap'] 35)).heap.size ((w.alloc (.cells #[.int .i64 nr, .int .i64 ac, .slice a cs.length cap] 35)).alloc (.cells #[.int .i64 nr, .int .i64 ac, .slice a' ds.length cap'] 35)) wr) (fun i _ => cs.length - (intOf i).toNat)
        case atStart => exact ⟨0, by omega, rfl, by simp, Below.refl _ _⟩
        case round =>
          obtain ⟨k, hk, rfl, hall, hbw⟩ := hrel
          have c2 := (box2 hbw).1 2
          simp only [List.getElem?_toArray, List.getElem?_cons_zero, List.getElem?_cons_succ] at c2
          have HA := Lib.hid hall
          have HX := Lib.hid (box2 hbw).2.2
          clear hall
          by_cases hlt : k < cs.length
          · have hlt2 : k < ds.length := by have := HL.out; omega
            obtain ⟨b, o, e, hb, d0, d1, d2, d3, d4, d5, hwf⟩ := CqAt.place HV.out (List.getElem?_eq_getElem hlt)
            obtain ⟨b', o', e', hb', y0, y1, y2, y3, y4, y5, hwf'⟩ := CqAt.place HU.out (List.getElem?_eq_getElem hlt2)
            subst e e'
            have hxe : cs[k] = cs[k] := rfl
            have hye : ds[k] = ds[k] := rfl
            have HT := Lib.hid (fun h : cs[k] = ds[k] => take_ext HA.out hlt hlt2 h)
            have HF := Lib.hid (fun h : ¬ cs[k] = ds[k] => (show decide (cs = ds) = false by simp; intro e; apply h; simp [e]))
            generalize cs[k] = x at d0 d1 d2 d3 d4 d5 HT HF
            generalize ds[k] = y at y0 y1 y2 y3 y4 y5 HT HF
            obtain ⟨xa, xo, xmh, xml, xvh, xvl⟩ := x
            obtain ⟨ya, yo, ymh, yml, yvh, yvl⟩ := y
            simp only at d0 d1 d2 d3 d4 d5 y0 y1 y2 y3 y4 y5
            have hkeep : ∀ W : World, Below ((w.alloc (.cells #[.int .i64 nr, .int .i64 ac, .slice (some ⟨b, o, none⟩) cs.length cap] 35)).alloc (.cells #[.int .i64 nr, .int .i64 ac, .slice (some ⟨b', o', none⟩) ds.length cap'] 35)).heap.size ((w.alloc (.cells #[.int .i64 nr, .int .i64 ac, .slice (some ⟨b, o, none⟩) cs.length cap] 35)).alloc (.cells #[.int .i64 nr, .int .i64 ac, .slice (some ⟨b', o', none⟩) ds.length cap'] 35)) W → (W.cell? ⟨w.heap.size, 2, none⟩ = some (.slice (some ⟨b, o, none⟩) cs.length cap) ∧ W.cell? ⟨w.heap.size + 1, 2, none⟩ = some (.slice (some ⟨b', o', none⟩) ds.length cap') ∧ W.cell? ⟨b, o + k * 6, none⟩ = some (.int .i64 xa) ∧ W.cell? ⟨b, o + k * 6 + 1, none⟩ = some (.int .i64 xo) ∧ W.cell? ⟨b, o + k * 6 + 2, none⟩ = some (.int .i64 xmh) ∧ W.cell? ⟨b, o + k * 6 + 3, none⟩ = some (.int .i64 xml) ∧ W.cell? ⟨b, o + k * 6 + 4, none⟩ = some (.int .i64 xvh) ∧ W.cell? ⟨b, o + k * 6 + 5, none⟩ = some (.int .i64 xvl) ∧ W.cell? ⟨b', o' + k * 6, none⟩ = some (.int .i64 ya) ∧ W.cell? ⟨b', o' + k * 6 + 1, none⟩ = some (.int .i64 yo) ∧ W.cell? ⟨b', o' + k * 6 + 2, none⟩ = some (.int .i64 ymh) ∧ W.cell? ⟨b', o' + k * 6 + 3, none⟩ = some (.int .i64 yml) ∧ W.cell? ⟨b', o' + k * 6 + 4, none⟩ = some (.int .i64 yvh) ∧ W.cell? ⟨b', o' + k * 6 + 5, none⟩ = some (.int .i64 yvl)) := fun W hb2 => by
              have hbx := (box2 hb2).2.2
              exact ⟨(box2 hb2).1 2, (box2 hb2).2.1 2, (World.cell?_of_block (hbx.block b hb)).trans d0, (World.cell?_of_block (hbx.block b hb)).trans d1, (World.cell?_of_block (hbx.block b hb)).trans d2, (World.cell?_of_block (hbx.block b hb)).trans d3, (World.cell?_of_block (hbx.block b hb)).trans d4, (World.cell?_of_block (hbx.block b hb)).trans d5, (World.cell?_of_block (hbx.block b' hb')).trans y0, (World.cell?_of_block (hbx.block b' hb')).trans y1, (World.cell?_of_block (hbx.block b' hb')).trans y2, (World.cell?_of_block (hbx.block b' hb')).trans y3, (World.cell?_of_block (hbx.block b' hb')).trans y4, (World.cell?_of_block (hbx.block b' hb')).trans y5⟩
            have HK := Lib.hid hkeep
            have hbw0 := hbw.drew
            have heq := fun W => eqCmpIn xa xo xmh xml xvh xvl ya yo ymh yml yvh yvl W
            have hk2 : (k : Int) < (ds.length : Int) := by omega
            clear hkeep d0 d1 d2 d3 d4 d5 y0 y1 y2 y3 y4 y5 hwf hwf' c2 hxe hye
            obtain ⟨c2, c4, d0, d1, d2, d3, d4, d5, y0, y1, y2, y3, y4, y5⟩ := HK.out _ hbw
            have HB := Lib.hid hbw
            clear hbw
            by_cases hxy : (⟨xa, xo, xmh, xml, xvh, xvl⟩ : Cq) = ⟨ya, yo, ymh, yml, yvh, yvl⟩
            · rw [decide_eq_true hxy] at heq
              have HN := Lib.hid (HT.out hxy)
              clear hxy HT HF
              go_wp2_with fail
              refine wp_region_noPanic ?_
              refine wp_region_held_drew (S := fun w' => w'.cell? ⟨w.heap.size, 2, none⟩ = some (.slice (some ⟨b, o, none⟩) cs.length cap) ∧ w'.cell? ⟨w.heap.size + 1, 2, none⟩ = some (.slice (some ⟨b', o', none⟩) ds.length cap') ∧ w'.cell? ⟨b, o + k * 6, none⟩ = some (.int .i64 xa) ∧ w'.cell? ⟨b, o + k * 6 + 1, none⟩ = some (.int .i64 xo) ∧ w'.cell? ⟨b, o + k * 6 + 2, none⟩ = some (.int .i64 xmh) ∧ w'.cell? ⟨b, o + k * 6 + 3, none⟩ = some (.int .i64 xml) ∧ w'.cell? ⟨b, o + k * 6 + 4, none⟩ = some (.int .i64 xvh) ∧ w'.cell? ⟨b, o + k * 6 + 5, none⟩ = some (.int .i64 xvl) ∧ w'.cell? ⟨b', o' + k * 6, none⟩ = some (.int .i64 ya) ∧ w'.cell? ⟨b', o' + k * 6 + 1, none⟩ = some (.int .i64 yo) ∧ w'.cell? ⟨b', o' + k * 6 + 2, none⟩ = some (.int .i64 ymh) ∧ w'.cell? ⟨b', o' + k * 6 + 3, none⟩ = some (.int .i64 yml) ∧ w'.cell? ⟨b', o' + k * 6 + 4, none⟩ = some (.int .i64 yvh) ∧ w'.cell? ⟨b', o' + k * 6 + 5, none⟩ = some (.int .i64 yvl)) (by kernel_rfl) ?_ (fun hHeld => ?_)
              · exact HK.out _ hbw0
              refine wpAnyH_take (i := 0) (v := ?qv101) rfl (by kernel_rfl) (by kernel_rfl) (by kernel_rfl) (fun _ _ _ h => h) (Or.inl ⟨by rfl, ?qhy101⟩) (by assumption) ?qrest101
              case qhy101 =>
                intro W hSw
                try dsimp only at hSw
                go_simp
                try with_reducible rfl
              try simp only [Act.put, List.getElem_toArray, List.getElem_cons_zero, List.getElem_cons_succ, List.setIfInBounds_toArray, List.set_cons_zero, List.set_cons_succ]
              refine wpAnyH_take (i := 1) (v := ?qv102) rfl (by kernel_rfl) (by kernel_rfl) (by kernel_rfl) (fun _ _ _ h => h) (Or.inl ⟨by rfl, ?qhy102⟩) (by assumption) ?qrest102
              case qhy102 =>
                intro W hSw
                try dsimp only at hSw
                go_simp
                try with_reducible rfl
              try simp only [Act.put, List.getElem_toArray, List.getElem_cons_zero, List.getElem_cons_succ, List.setIfInBounds_toArray, List.set_cons_zero, List.set_cons_succ]
              refine wpAnyH_take (i := 2) (v := ?qv103) rfl (by kernel_rfl) (by kernel_rfl) (by kernel_rfl) (fun _ _ _ h => h) (Or.inl ⟨by rfl, ?qhy103⟩) (by assumption) ?qrest103
              case qhy103 =>
                intro W hSw
                try dsimp only at hSw
                go_simp
                try with_reducible rfl
              try simp only [Act.put, List.getElem_toArray, List.getElem_cons_zero, List.getElem_cons_succ, List.setIfInBounds_toArray, List.set_cons_zero, List.set_cons_succ]
              refine wpAnyH_take (i := 3) (v := ?qv104) rfl (by kernel_rfl) (by kernel_rfl) (by kernel_rfl) (fun _ _ _ h => h) (Or.inl ⟨by rfl, ?qhy104⟩) (by assumption) ?qrest104
              case qhy104 =>
                intro W hSw
                try dsimp only at hSw
                go_simp
                try with_reducible rfl
              try simp only [Act.put, List.getElem_toArray, List.getElem_cons_zero, List.getElem_cons_succ, List.setIfInBounds_toArray, List.set_cons_zero, List.set_cons_succ]
              refine wpAnyH_take (i := 4) (v := ?qv105) rfl (by kernel_rfl) (by kernel_rfl) (by kernel_rfl) (fun _ _ _ h => h) (Or.inl ⟨by rfl, ?qhy105⟩) (by assumption) ?qrest105
              case qhy105 =>
                intro W hSw
                try dsimp only at hSw
                go_simp
                try with_reducible rfl
              try simp only [Act.put, List.getElem_toArray, List.getElem_cons_zero, List.getElem_cons_succ, List.setIfInBounds_toArray, List.set_cons_zero, List.set_cons_succ]
              refine wpAnyH_take (i := 5) (v := ?qv106) rfl (by kernel_rfl) (by kernel_rfl) (by kernel_rfl) (fun _ _ _ h => h) (Or.inl ⟨by rfl, ?qhy106⟩) (by assumption) ?qrest106
              case qhy106 =>
                intro W hSw
                try dsimp only at hSw
                go_simp
                try with_reducible rfl
              try simp only [Act.put, List.getElem_toArray, List.getElem_cons_zero, List.getElem_cons_succ, List.setIfInBounds_toArray, List.set_cons_zero, List.set_cons_succ]
              refine wpAnyH_take (i := 6) (v := ?qv107) rfl (by kernel_rfl) (by kernel_rfl) (by kernel_rfl) (fun _ _ _ h => h) (Or.inl ⟨by rfl, ?qhy107⟩) (by assumption) ?qrest107
              case qhy107 =>
                intro W hSw
                try dsimp only at hSw
                go_simp
                try with_reducible rfl
              try simp only [Act.put, List.getElem_toArray, List.getElem_cons_zero, List.getElem_cons_succ, List.setIfInBounds_toArray, List.set_cons_zero, List.set_cons_succ]
              refine wpAnyH_take (i := 7) (v := ?qv108) rfl (by kernel_rfl) (by kernel_rfl) (by kernel_rfl) (fun _ _ _ h => h) (Or.inl ⟨by rfl, ?qhy108⟩) (by assumption) ?qrest108
              case qhy108 =>
                intro W hSw
                try dsimp only at hSw
                go_simp
                try with_reducible rfl
              try simp only [Act.put, List.getElem_toArray, List.getElem_cons_zero, List.getElem_cons_succ, List.setIfInBounds_toArray, List.set_cons_zero, List.set_cons_succ]
              refine wpAnyH_take (i := 8) (v := ?qv109) rfl (by kernel_rfl) (by kernel_rfl) (by kernel_rfl) (fun _ _ _ h => h) (Or.inl ⟨by rfl, ?qhy109⟩) (by assumption) ?qrest109
              case qhy109 =>
                intro W hSw
                try dsimp only at hSw
                go_simp
                try with_reducible rfl
              try simp only [Act.put, List.getElem_toArray, List.getElem_cons_zero, List.getElem_cons_succ, List.setIfInBounds_toArray, List.set_cons_zero, List.set_cons_succ]
              refine wpAnyH_take (i := 9) (v := ?qv110) rfl (by kernel_rfl) (by kernel_rfl) (by kernel_rfl) (fun _ _ _ h => h) (Or.inl ⟨by rfl, ?qhy110⟩) (by assumption) ?qrest110
              case qhy110 =>
                intro W hSw
                try dsimp only at hSw
                go_simp
                try with_reducible rfl
              try simp only [Act.put, List.getElem_toArray, List.getElem_cons_zero, List.getElem_cons_succ, List.setIfInBounds_toArray, List.set_cons_zero, List.set_cons_succ]
              refine wpAnyH_take (i := 10) (v := ?qv111) rfl (by kernel_rfl) (by kernel_rfl) (by kernel_rfl) (fun _ _ _ h => h) (Or.inl ⟨by rfl, ?qhy111⟩) (by assumption) ?qrest111
              case qhy111 =>
                intro W hSw
                try dsimp only at hSw
                go_simp
                try with_reducible rfl
              try simp only [Act.put, List.getElem_toArray, List.getElem_cons_zero, List.getElem_cons_succ, List.setIfInBounds_toArray, List.set_cons_zero, List.set_cons_succ]
              refine wpAnyH_done (by kernel_rfl) ?_ _
              refine NoPanic.normal ?_
              clear hbw0
              go_wp2_with fail
              go_roundw
              case rel => exact ⟨k + 1, by omega, by go_num, HN.out, HB.out.drew⟩
              case measure => simp [intOf]; omega
            · rw [decide_eq_false hxy] at heq
              have HN := Lib.hid (HR.out.trans (HF.out hxy))
              clear hxy HT HF
              go_wp2_with fail
              refine wp_region_noPanic ?_
              refine wp_region_held_drew (S := fun w' => w'.cell? ⟨w.heap.size, 2, none⟩ = some (.slice (some ⟨b, o, none⟩) cs.length cap) ∧ w'.cell? ⟨w.heap.size + 1, 2, none⟩ = some (.slice (some ⟨b', o', none⟩) ds.length cap') ∧ w'.cell? ⟨b, o + k * 6, none⟩ = some (.int .i64 xa) ∧ w'.cell? ⟨b, o + k * 6 + 1, none⟩ = some (.int .i64 xo) ∧ w'.cell? ⟨b, o + k * 6 + 2, none⟩ = some (.int .i64 xmh) ∧ w'.cell? ⟨b, o + k * 6 + 3, none⟩ = some (.int .i64 xml) ∧ w'.cell? ⟨b, o + k * 6 + 4, none⟩ = some (.int .i64 xvh) ∧ w'.cell? ⟨b, o + k * 6 + 5, none⟩ = some (.int .i64 xvl) ∧ w'.cell? ⟨b', o' + k * 6, none⟩ = some (.int .i64 ya) ∧ w'.cell? ⟨b', o' + k * 6 + 1, none⟩ = some (.int .i64 yo) ∧ w'.cell? ⟨b', o' + k * 6 + 2, none⟩ = some (.int .i64 ymh) ∧ w'.cell? ⟨b', o' + k * 6 + 3, none⟩ = some (.int .i64 yml) ∧ w'.cell? ⟨b', o' + k * 6 + 4, none⟩ = some (.int .i64 yvh) ∧ w'.cell? ⟨b', o' + k * 6 + 5, none⟩ = some (.int .i64 yvl)) (by kernel_rfl) ?_ (fun hHeld => ?_)
              · exact HK.out _ hbw0
              refine wpAnyH_take (i := 0) (v := ?qv212) rfl (by kernel_rfl) (by kernel_rfl) (by kernel_rfl) (fun _ _ _ h => h) (Or.inl ⟨by rfl, ?qhy212⟩) (by assumption) ?qrest212
              case qhy212 =>
                intro W hSw
                try dsimp only at hSw
                go_simp
                try with_reducible rfl
              try simp only [Act.put, List.getElem_toArray, List.getElem_cons_zero, List.getElem_cons_succ, List.setIfInBounds_toArray, List.set_cons_zero, List.set_cons_succ]
              refine wpAnyH_take (i := 1) (v := ?qv213) rfl (by kernel_rfl) (by kernel_rfl) (by kernel_rfl) (fun _ _ _ h => h) (Or.inl ⟨by rfl, ?qhy213⟩) (by assumption) ?qrest213
              case qhy213 =>
                intro W hSw
                try dsimp only at hSw
                go_simp
                try with_reducible rfl
              try simp only [Act.put, List.getElem_toArray, List.getElem_cons_zero, List.getElem_cons_succ, List.setIfInBounds_toArray, List.set_cons_zero, List.set_cons_succ]
              refine wpAnyH_take (i := 2) (v := ?qv214) rfl (by kernel_rfl) (by kernel_rfl) (by kernel_rfl) (fun _ _ _ h => h) (Or.inl ⟨by rfl, ?qhy214⟩) (by assumption) ?qrest214
              case qhy214 =>
                intro W hSw
                try dsimp only at hSw
                go_simp
                try with_reducible rfl
              try simp only [Act.put, List.getElem_toArray, List.getElem_cons_zero, List.getElem_cons_succ, List.setIfInBounds_toArray, List.set_cons_zero, List.set_cons_succ]
              refine wpAnyH_take (i := 3) (v := ?qv215) rfl (by kernel_rfl) (by kernel_rfl) (by kernel_rfl) (fun _ _ _ h => h) (Or.inl ⟨by rfl, ?qhy215⟩) (by assumption) ?qrest215
              case qhy215 =>
                intro W hSw
                try dsimp only at hSw
                go_simp
                try with_reducible rfl
              try simp only [Act.put, List.getElem_toArray, List.getElem_cons_zero, List.getElem_cons_succ, List.setIfInBounds_toArray, List.set_cons_zero, List.set_cons_succ]
              refine wpAnyH_take (i := 4) (v := ?qv216) rfl (by kernel_rfl) (by kernel_rfl) (by kernel_rfl) (fun _ _ _ h => h) (Or.inl ⟨by rfl, ?qhy216⟩) (by assumption) ?qrest216
              case qhy216 =>
                intro W hSw
                try dsimp only at hSw
                go_simp
                try with_reducible rfl
              try simp only [Act.put, List.getElem_toArray, List.getElem_cons_zero, List.getElem_cons_succ, List.setIfInBounds_toArray, List.set_cons_zero, List.set_cons_succ]
              refine wpAnyH_take (i := 5) (v := ?qv217) rfl (by kernel_rfl) (by kernel_rfl) (by kernel_rfl) (fun _ _ _ h => h) (Or.inl ⟨by rfl, ?qhy217⟩) (by assumption) ?qrest217
              case qhy217 =>
                intro W hSw
                try dsimp only at hSw
                go_simp
                try with_reducible rfl
              try simp only [Act.put, List.getElem_toArray, List.getElem_cons_zero, List.getElem_cons_succ, List.setIfInBounds_toArray, List.set_cons_zero, List.set_cons_succ]
              refine wpAnyH_take (i := 6) (v := ?qv218) rfl (by kernel_rfl) (by kernel_rfl) (by kernel_rfl) (fun _ _ _ h => h) (Or.inl ⟨by rfl, ?qhy218⟩) (by assumption) ?qrest218
              case qhy218 =>
                intro W hSw
                try dsimp only at hSw
                go_simp
                try with_reducible rfl
              try simp only [Act.put, List.getElem_toArray, List.getElem_cons_zero, List.getElem_cons_succ, List.setIfInBounds_toArray, List.set_cons_zero, List.set_cons_succ]
              refine wpAnyH_take (i := 7) (v := ?qv219) rfl (by kernel_rfl) (by kernel_rfl) (by kernel_rfl) (fun _ _ _ h => h) (Or.inl ⟨by rfl, ?qhy219⟩) (by assumption) ?qrest219
              case qhy219 =>
                intro W hSw
                try dsimp only at hSw
                go_simp
                try with_reducible rfl
              try simp only [Act.put, List.getElem_toArray, List.getElem_cons_zero, List.getElem_cons_succ, List.setIfInBounds_toArray, List.set_cons_zero, List.set_cons_succ]
              refine wpAnyH_take (i := 8) (v := ?qv220) rfl (by kernel_rfl) (by kernel_rfl) (by kernel_rfl) (fun _ _ _ h => h) (Or.inl ⟨by rfl, ?qhy220⟩) (by assumption) ?qrest220
              case qhy220 =>
                intro W hSw
                try dsimp only at hSw
                go_simp
                try with_reducible rfl
              try simp only [Act.put, List.getElem_toArray, List.getElem_cons_zero, List.getElem_cons_succ, List.setIfInBounds_toArray, List.set_cons_zero, List.set_cons_succ]
              refine wpAnyH_take (i := 9) (v := ?qv221) rfl (by kernel_rfl) (by kernel_rfl) (by kernel_rfl) (fun _ _ _ h => h) (Or.inl ⟨by rfl, ?qhy221⟩) (by assumption) ?qrest221
              case qhy221 =>
                intro W hSw
                try dsimp only at hSw
                go_simp
                try with_reducible rfl
              try simp only [Act.put, List.getElem_toArray, List.getElem_cons_zero, List.getElem_cons_succ, List.setIfInBounds_toArray, List.set_cons_zero, List.set_cons_succ]
              refine wpAnyH_take (i := 10) (v := ?qv222) rfl (by kernel_rfl) (by kernel_rfl) (by kernel_rfl) (fun _ _ _ h => h) (Or.inl ⟨by rfl, ?qhy222⟩) (by assumption) ?qrest222
              case qhy222 =>
                intro W hSw
                try dsimp only at hSw
                go_simp
                try with_reducible rfl
              try simp only [Act.put, List.getElem_toArray, List.getElem_cons_zero, List.getElem_cons_succ, List.setIfInBounds_toArray, List.set_cons_zero, List.set_cons_succ]
              refine wpAnyH_done (by kernel_rfl) ?_ _
              refine NoPanic.normal ?_
              clear hbw0
              go_wp2_with fail
              go_ret
              exact ⟨ret_bool HN.out.symm, HX.out.drew⟩
          · have HN := Lib.hid (show decide ((⟨nr, ac, cs⟩ : Rl) = ⟨nr, ac, ds⟩) = true by
              have h := HA.out
              have := HL.out
              rw [HR.out]
              rw [List.take_of_length_le (by omega), List.take_of_length_le (by omega)] at h
              exact decide_eq_true h)
            clear hbw
            go_wp2_with fail
            go_ret
            exact ⟨ret_bool HN.out.symm, HX.out⟩
      · have HR := Lib.hid (show decide ((⟨nr, ac, cs⟩ : Rl) = ⟨nr', ac', ds⟩) = false by
          simp only [decide_eq_false_iff_not]
          intro e
          injection e with _ _ e
          exact hl (by rw [e]))
        have n0 := nn_int e0
        have n1 := nn_int e1
        have n2 : ((cs.length : Int) != (ds.length : Int)) = true := by simp; omega
        subst e0 e1
        clear hv hu hl
        go_enter Try.func30, Try.ntmps30
        go_wp2_with fail
        go_ret
        exact ⟨ret_bool HR.out.symm, ((Below.refl _ _).alloc (Nat.le_refl _) _).alloc (by simp) _⟩
    · have HR := Lib.hid (show decide ((⟨nr, ac, cs⟩ : Rl) = ⟨nr', ac', ds⟩) = false by simp [e1])
      have n0 := nn_int e0
      have n1 := ne_int e1
      subst e0
      clear hv hu e1
      go_enter Try.func30, Try.ntmps30
      go_wp2_with fail
      go_ret
      exact ⟨ret_bool HR.out.symm, ((Below.refl _ _).alloc (Nat.le_refl _) _).alloc (by simp) _⟩
  · have HR := Lib.hid (show decide ((⟨nr, ac, cs⟩ : Rl) = ⟨nr', ac', ds⟩) = false by simp [e0])
    have n0 := ne_int e0
    clear hv hu e0
    go_enter Try.func30, Try.ntmps30
    go_wp2_with fail
    go_ret
    exact ⟨ret_bool HR.out.symm, ((Below.refl _ _).alloc (Nat.le_refl _) _).alloc (by simp) _⟩

set_option maxHeartbeats 6400000 in
theorem equalCmps_any (cs ds : List Cq) (v u : Value) (w : World) (hv : CqAt w w.heap.size v cs) (hu : CqAt w w.heap.size u ds) :
    Calls Try.prog 82 #[v, u] w fun e w' => e = .returned (.bool (decide (cs = ds))) ∧ Below w.heap.size w w' := by
  obtain ⟨a, cap, rfl, hlc, hcm⟩ := hv.len
  obtain ⟨a', cap', rfl, hlc', hcm'⟩ := hu.len
  unfold maxLen at hcm hcm'
  by_cases hl : cs.length = ds.length
  · have n2 : ((cs.length : Int) != (ds.length : Int)) = false := by rw [hl]; simp
    have HL := Lib.hid hl
    have HV := Lib.hid hv
    have HU := Lib.hid hu
    clear hv hu hl
    go_enter Try.func82, Try.ntmps82
    go_wp2_with fail
    go_loopw [13] (fun i wr => ∃ k : Nat, k ≤ cs.length ∧ i = .int .i64 k ∧ cs.take k = ds.take k ∧ Below w.heap.size w wr) (fun i _ => cs.length - (intOf i).toNat)
    case atStart => exact ⟨0, by omega, rfl, by simp, Below.refl _ _⟩
    case round =>
      obtain ⟨k, hk, rfl, hall, hbw⟩ := hrel
      have HA := Lib.hid hall
      clear hall
      by_cases hlt : k < cs.length
      · have hlt2 : k < ds.length := by have := HL.out; omega
        obtain ⟨b, o, e, hb, d0, d1, d2, d3, d4, d5, hwf⟩ := CqAt.place HV.out (List.getElem?_eq_getElem hlt)
        obtain ⟨b', o', e', hb', y0, y1, y2, y3, y4, y5, hwf'⟩ := CqAt.place HU.out (List.getElem?_eq_getElem hlt2)
        subst e e'
        have HT := Lib.hid (fun h : cs[k] = ds[k] => take_ext HA.out hlt hlt2 h)
        have HF := Lib.hid (fun h : ¬ cs[k] = ds[k] => (show decide (cs = ds) = false by simp; intro e; apply h; simp [e]))
        generalize cs[k] = x at d0 d1 d2 d3 d4 d5 HT HF
        generalize ds[k] = y at y0 y1 y2 y3 y4 y5 HT HF
        obtain ⟨xa, xo, xmh, xml, xvh, xvl⟩ := x
        obtain ⟨ya, yo, ymh, yml, yvh, yvl⟩ := y
        simp only at d0 d1 d2 d3 d4 d5 y0 y1 y2 y3 y4 y5
        have hkeep : ∀ W : World, Below w.heap.size w W → (W.cell? ⟨b, o + k * 6, none⟩ = some (.int .i64 xa) ∧ W.cell? ⟨b, o + k * 6 + 1, none⟩ = some (.int .i64 xo) ∧ W.cell? ⟨b, o + k * 6 + 2, none⟩ = some (.int .i64 xmh) ∧ W.cell? ⟨b, o + k * 6 + 3, none⟩ = some (.int .i64 xml) ∧ W.cell? ⟨b, o + k * 6 + 4, none⟩ = some (.int .i64 xvh) ∧ W.cell? ⟨b, o + k * 6 + 5, none⟩ = some (.int .i64 xvl) ∧ W.cell? ⟨b', o' + k * 6, none⟩ = some (.int .i64 ya) ∧ W.cell? ⟨b', o' + k * 6 + 1, none⟩ = some (.int .i64 yo) ∧ W.cell? ⟨b', o' + k * 6 + 2, none⟩ = some (.int .i64 ymh) ∧ W.cell? ⟨b', o' + k * 6 + 3, none⟩ = some (.int .i64 yml) ∧ W.cell? ⟨b', o' + k * 6 + 4, none⟩ = some (.int .i64 yvh) ∧ W.cell? ⟨b', o' + k * 6 + 5, none⟩ = some (.int .i64 yvl)) := fun W hbx => ⟨(World.cell?_of_block (hbx.block b hb)).trans d0, (World.cell?_of_block (hbx.block b hb)).trans d1, (World.cell?_of_block (hbx.block b hb)).trans d2, (World.cell?_of_block (hbx.block b hb)).trans d3, (World.cell?_of_block (hbx.block b hb)).trans d4, (World.cell?_of_block (hbx.block b hb)).trans d5, (World.cell?_of_block (hbx.block b' hb')).trans y0, (World.cell?_of_block (hbx.block b' hb')).trans y1, (World.cell?_of_block (hbx.block b' hb')).trans y2, (World.cell?_of_block (hbx.block b' hb')).trans y3, (World.cell?_of_block (hbx.block b' hb')).trans y4, (World.cell?_of_block (hbx.block b' hb')).trans y5⟩
        have HK := Lib.hid hkeep
        have hbw0 := hbw.drew
        have heq := fun W => eqCmpIn xa xo xmh xml xvh xvl ya yo ymh yml yvh yvl W
        have hk2 : (k : Int) < (ds.length : Int) := by omega
        clear hkeep d0 d1 d2 d3 d4 d5 y0 y1 y2 y3 y4 y5 hwf hwf'
        obtain ⟨d0, d1, d2, d3, d4, d5, y0, y1, y2, y3, y4, y5⟩ := HK.out _ hbw
        have HB := Lib.hid hbw
        clear hbw
        by_cases hxy : (⟨xa, xo, xmh, xml, xvh, xvl⟩ : Cq) = ⟨ya, yo, ymh, yml, yvh, yvl⟩
        · rw [decide_eq_true hxy] at heq
          have HN := Lib.hid (HT.out hxy)
          clear hxy HT HF
          go_wp2_with fail
          refine wp_region_noPanic ?_
          refine wp_region_held_drew (S := fun w' => w'.cell? ⟨b, o + k * 6, none⟩ = some (.int .i64 xa) ∧ w'.cell? ⟨b, o + k * 6 + 1, none⟩ = some (.int .i64 xo) ∧ w'.cell? ⟨b, o + k * 6 + 2, none⟩ = some (.int .i64 xmh) ∧ w'.cell? ⟨b, o + k * 6 + 3, none⟩ = some (.int .i64 xml) ∧ w'.cell? ⟨b, o + k * 6 + 4, none⟩ = some (.int .i64 xvh) ∧ w'.cell? ⟨b, o + k * 6 + 5, none⟩ = some (.int .i64 xvl) ∧ w'.cell? ⟨b', o' + k * 6, none⟩ = some (.int .i64 ya) ∧ w'.cell? ⟨b', o' + k * 6 + 1, none⟩ = some (.int .i64 yo) ∧ w'.cell? ⟨b', o' + k * 6 + 2, none⟩ = some (.int .i64 ymh) ∧ w'.cell? ⟨b', o' + k * 6 + 3, none⟩ = some (.int .i64 yml) ∧ w'.cell? ⟨b', o' + k * 6 + 4, none⟩ = some (.int .i64 yvh) ∧ w'.cell? ⟨b', o' + k * 6 + 5, none⟩ = some (.int .i64 yvl)) (by kernel_rfl) ?_ (fun hHeld => ?_)
          · exact HK.out _ hbw0
          refine wpAnyH_take (i := 0) (v := ?qv323) rfl (by kernel_rfl) (by kernel_rfl) (by kernel_rfl) (fun _ _ _ h => h) (Or.inl ⟨by rfl, ?qhy323⟩) (by assumption) ?qrest323
          case qhy323 =>
            intro W hSw
            try dsimp only at hSw
            go_simp
            try with_reducible rfl
          try simp only [Act.put, List.getElem_toArray, List.getElem_cons_zero, List.getElem_cons_succ, List.setIfInBounds_toArray, List.set_cons_zero, List.set_cons_succ]
          refine wpAnyH_take (i := 1) (v := ?qv324) rfl (by kernel_rfl) (by kernel_rfl) (by kernel_rfl) (fun _ _ _ h => h) (Or.inl ⟨by rfl, ?qhy324⟩) (by assumption) ?qrest324
          case qhy324 =>
            intro W hSw
            try dsimp only at hSw
            go_simp
            try with_reducible rfl
          try simp only [Act.put, List.getElem_toArray, List.getElem_cons_zero, List.getElem_cons_succ, List.setIfInBounds_toArray, List.set_cons_zero, List.set_cons_succ]
          refine wpAnyH_take (i := 2) (v := ?qv325) rfl (by kernel_rfl) (by kernel_rfl) (by kernel_rfl) (fun _ _ _ h => h) (Or.inl ⟨by rfl, ?qhy325⟩) (by assumption) ?qrest325
          case qhy325 =>
            intro W hSw
            try dsimp only at hSw
            go_simp
            try with_reducible rfl
          try simp only [Act.put, List.getElem_toArray, List.getElem_cons_zero, List.getElem_cons_succ, List.setIfInBounds_toArray, List.set_cons_zero, List.set_cons_succ]
          refine wpAnyH_take (i := 3) (v := ?qv326) rfl (by kernel_rfl) (by kernel_rfl) (by kernel_rfl) (fun _ _ _ h => h) (Or.inl ⟨by rfl, ?qhy326⟩) (by assumption) ?qrest326
          case qhy326 =>
            intro W hSw
            try dsimp only at hSw
            go_simp
            try with_reducible rfl
          try simp only [Act.put, List.getElem_toArray, List.getElem_cons_zero, List.getElem_cons_succ, List.setIfInBounds_toArray, List.set_cons_zero, List.set_cons_succ]
          refine wpAnyH_take (i := 4) (v := ?qv327) rfl (by kernel_rfl) (by kernel_rfl) (by kernel_rfl) (fun _ _ _ h => h) (Or.inl ⟨by rfl, ?qhy327⟩) (by assumption) ?qrest327
          case qhy327 =>
            intro W hSw
            try dsimp only at hSw
            go_simp
            try with_reducible rfl
          try simp only [Act.put, List.getElem_toArray, List.getElem_cons_zero, List.getElem_cons_succ, List.setIfInBounds_toArray, List.set_cons_zero, List.set_cons_succ]
          refine wpAnyH_take (i := 5) (v := ?qv328) rfl (by kernel_rfl) (by kernel_rfl) (by kernel_rfl) (fun _ _ _ h => h) (Or.inl ⟨by rfl, ?qhy328⟩) (by assumption) ?qrest328
          case qhy328 =>
            intro W hSw
            try dsimp only at hSw
            go_simp
            try with_reducible rfl
          try simp only [Act.put, List.getElem_toArray, List.getElem_cons_zero, List.getElem_cons_succ, List.setIfInBounds_toArray, List.set_cons_zero, List.set_cons_succ]
          refine wpAnyH_take (i := 6) (v := ?qv329) rfl (by kernel_rfl) (by kernel_rfl) (by kernel_rfl) (fun _ _ _ h => h) (Or.inl ⟨by rfl, ?qhy329⟩) (by assumption) ?qrest329
          case qhy329 =>
            intro W hSw
            try dsimp only at hSw
            go_simp
            try with_reducible rfl
          try simp only [Act.put, List.getElem_toArray, List.getElem_cons_zero, List.getElem_cons_succ, List.setIfInBounds_toArray, List.set_cons_zero, List.set_cons_succ]
          refine wpAnyH_take (i := 7) (v := ?qv330) rfl (by kernel_rfl) (by kernel_rfl) (by kernel_rfl) (fun _ _ _ h => h) (Or.inl ⟨by rfl, ?qhy330⟩) (by assumption) ?qrest330
          case qhy330 =>
            intro W hSw
            try dsimp only at hSw
            go_simp
            try with_reducible rfl
          try simp only [Act.put, List.getElem_toArray, List.getElem_cons_zero, List.getElem_cons_succ, List.setIfInBounds_toArray, List.set_cons_zero, List.set_cons_succ]
          refine wpAnyH_take (i := 8) (v := ?qv331) rfl (by kernel_rfl) (by kernel_rfl) (by kernel_rfl) (fun _ _ _ h => h) (Or.inl ⟨by rfl, ?qhy331⟩) (by assumption) ?qrest331
          case qhy331 =>
            intro W hSw
            try dsimp only at hSw
            go_simp
            try with_reducible rfl
          try simp only [Act.put, List.getElem_toArray, List.getElem_cons_zero, List.getElem_cons_succ, List.setIfInBounds_toArray, List.set_cons_zero, List.set_cons_succ]
          refine wpAnyH_done (by kernel_rfl) ?_ _
          refine NoPanic.normal ?_
          clear hbw0
          go_wp2_with fail
          go_roundw
          case rel => exact ⟨k + 1, by omega, by go_num, HN.out, HB.out.drew⟩
          case measure => simp [intOf]; omega
        · rw [decide_eq_false hxy] at heq
          have HN := Lib.hid (HF.out hxy)
          clear hxy HT HF
          go_wp2_with fail
          refine wp_region_noPanic ?_
          refine wp_region_held_drew (S := fun w' => w'.cell? ⟨b, o + k * 6, none⟩ = some (.int .i64 xa) ∧ w'.cell? ⟨b, o + k * 6 + 1, none⟩ = some (.int .i64 xo) ∧ w'.cell? ⟨b, o + k * 6 + 2, none⟩ = some (.int .i64 xmh) ∧ w'.cell? ⟨b, o + k * 6 + 3, none⟩ = some (.int .i64 xml) ∧ w'.cell? ⟨b, o + k * 6 + 4, none⟩ = some (.int .i64 xvh) ∧ w'.cell? ⟨b, o + k * 6 + 5, none⟩ = some (.int .i64 xvl) ∧ w'.cell? ⟨b', o' + k * 6, none⟩ = some (.int .i64 ya) ∧ w'.cell? ⟨b', o' + k * 6 + 1, none⟩ = some (.int .i64 yo) ∧ w'.cell? ⟨b', o' + k * 6 + 2, none⟩ = some (.int .i64 ymh) ∧ w'.cell? ⟨b', o' + k * 6 + 3, none⟩ = some (.int .i64 yml) ∧ w'.cell? ⟨b', o' + k * 6 + 4, none⟩ = some (.int .i64 yvh) ∧ w'.cell? ⟨b', o' + k * 6 + 5, none⟩ = some (.int .i64 yvl)) (by kernel_rfl) ?_ (fun hHeld => ?_)
          · exact HK.out _ hbw0
          refine wpAnyH_take (i := 0) (v := ?qv432) rfl (by kernel_rfl) (by kernel_rfl) (by kernel_rfl) (fun _ _ _ h => h) (Or.inl ⟨by rfl, ?qhy432⟩) (by assumption) ?qrest432
          case qhy432 =>
            intro W hSw
            try dsimp only at hSw
            go_simp
            try with_reducible rfl
          try simp only [Act.put, List.getElem_toArray, List.getElem_cons_zero, List.getElem_cons_succ, List.setIfInBounds_toArray, List.set_cons_zero, List.set_cons_succ]
          refine wpAnyH_take (i := 1) (v := ?qv433) rfl (by kernel_rfl) (by kernel_rfl) (by kernel_rfl) (fun _ _ _ h => h) (Or.inl ⟨by rfl, ?qhy433⟩) (by assumption) ?qrest433
          case qhy433 =>
            intro W hSw
            try dsimp only at hSw
            go_simp
            try with_reducible rfl
          try simp only [Act.put, List.getElem_toArray, List.getElem_cons_zero, List.getElem_cons_succ, List.setIfInBounds_toArray, List.set_cons_zero, List.set_cons_succ]
          refine wpAnyH_take (i := 2) (v := ?qv434) rfl (by kernel_rfl) (by kernel_rfl) (by kernel_rfl) (fun _ _ _ h => h) (Or.inl ⟨by rfl, ?qhy434⟩) (by assumption) ?qrest434
          case qhy434 =>
            intro W hSw
            try dsimp only at hSw
            go_simp
            try with_reducible rfl
          try simp only [Act.put, List.getElem_toArray, List.getElem_cons_zero, List.getElem_cons_succ, List.setIfInBounds_toArray, List.set_cons_zero, List.set_cons_succ]
          refine wpAnyH_take (i := 3) (v := ?qv435) rfl (by kernel_rfl) (by kernel_rfl) (by kernel_rfl) (fun _ _ _ h => h) (Or.inl ⟨by rfl, ?qhy435⟩) (by assumption) ?qrest435
          case qhy435 =>
            intro W hSw
            try dsimp only at hSw
            go_simp
            try with_reducible rfl
          try simp only [Act.put, List.getElem_toArray, List.getElem_cons_zero, List.getElem_cons_succ, List.setIfInBounds_toArray, List.set_cons_zero, List.set_cons_succ]
          refine wpAnyH_take (i := 4) (v := ?qv436) rfl (by kernel_rfl) (by kernel_rfl) (by kernel_rfl) (fun _ _ _ h => h) (Or.inl ⟨by rfl, ?qhy436⟩) (by assumption) ?qrest436
          case qhy436 =>
            intro W hSw
            try dsimp only at hSw
            go_simp
            try with_reducible rfl
          try simp only [Act.put, List.getElem_toArray, List.getElem_cons_zero, List.getElem_cons_succ, List.setIfInBounds_toArray, List.set_cons_zero, List.set_cons_succ]
          refine wpAnyH_take (i := 5) (v := ?qv437) rfl (by kernel_rfl) (by kernel_rfl) (by kernel_rfl) (fun _ _ _ h => h) (Or.inl ⟨by rfl, ?qhy437⟩) (by assumption) ?qrest437
          case qhy437 =>
            intro W hSw
            try dsimp only at hSw
            go_simp
            try with_reducible rfl
          try simp only [Act.put, List.getElem_toArray, List.getElem_cons_zero, List.getElem_cons_succ, List.setIfInBounds_toArray, List.set_cons_zero, List.set_cons_succ]
          refine wpAnyH_take (i := 6) (v := ?qv438) rfl (by kernel_rfl) (by kernel_rfl) (by kernel_rfl) (fun _ _ _ h => h) (Or.inl ⟨by rfl, ?qhy438⟩) (by assumption) ?qrest438
          case qhy438 =>
            intro W hSw
            try dsimp only at hSw
            go_simp
            try with_reducible rfl
          try simp only [Act.put, List.getElem_toArray, List.getElem_cons_zero, List.getElem_cons_succ, List.setIfInBounds_toArray, List.set_cons_zero, List.set_cons_succ]
          refine wpAnyH_take (i := 7) (v := ?qv439) rfl (by kernel_rfl) (by kernel_rfl) (by kernel_rfl) (fun _ _ _ h => h) (Or.inl ⟨by rfl, ?qhy439⟩) (by assumption) ?qrest439
          case qhy439 =>
            intro W hSw
            try dsimp only at hSw
            go_simp
            try with_reducible rfl
          try simp only [Act.put, List.getElem_toArray, List.getElem_cons_zero, List.getElem_cons_succ, List.setIfInBounds_toArray, List.set_cons_zero, List.set_cons_succ]
          refine wpAnyH_take (i := 8) (v := ?qv440) rfl (by kernel_rfl) (by kernel_rfl) (by kernel_rfl) (fun _ _ _ h => h) (Or.inl ⟨by rfl, ?qhy440⟩) (by assumption) ?qrest440
          case qhy440 =>
            intro W hSw
            try dsimp only at hSw
            go_simp
            try with_reducible rfl
          try simp only [Act.put, List.getElem_toArray, List.getElem_cons_zero, List.getElem_cons_succ, List.setIfInBounds_toArray, List.set_cons_zero, List.set_cons_succ]
          refine wpAnyH_done (by kernel_rfl) ?_ _
          refine NoPanic.normal ?_
          clear hbw0
          go_wp2_with fail
          go_ret
          exact ⟨ret_bool HN.out.symm, HB.out.drew⟩
      · have HN := Lib.hid (show decide (cs = ds) = true by
          have h := HA.out
          have := HL.out
          rw [List.take_of_length_le (by omega), List.take_of_length_le (by omega)] at h
          exact decide_eq_true h)
        go_wp2_with fail
        go_ret
        exact ⟨ret_bool HN.out.symm, hbw⟩
  · have HR := Lib.hid (show decide (cs = ds) = false by simp; intro e; exact hl (by rw [e]))
    have n2 : ((cs.length : Int) != (ds.length : Int)) = true := by simp; omega
    clear hv hu hl
    go_enter Try.func82, Try.ntmps82
    go_wp2_with fail
    go_ret
    exact ⟨ret_bool HR.out.symm, Below.refl _ _⟩

end Go.Proofs.Ytmnmaijifhojiaa

/- The program's run, walked. -/
import Derived.Test.YtekmnopgaopmlaaGreatDoorVf
set_option maxRecDepth 100000
set_option linter.unusedSimpArgs false
set_option linter.unusedVariables false
namespace Go.Proofs.YtekmnopgaopmlaaGreatDoor
open Go.RowKit

def mx0 : Mx := ⟨0, 0, List.replicate 16 0, 0, 0, 0, 0, false⟩
theorem rel0 : Rel mx0 mc0 := ⟨rfl, rfl, rfl, mask0⟩
theorem head0 (l : List Ins) (b : ByteArray) : Head l b (runM l b (l.length + 1) 0 mc0 0) l.length mx0 := .inl ⟨rfl, 0, 0, mc0, rfl, rfl, rfl, by omega, by omega, by omega, mc0_ok, rel0, rfl⟩
/-- The run's end. -/
def RunPost (b : ByteArray) (ans : Ans) (M : Nat) (w : World) (e : Ending) (w' : World) : Prop := ∃ z', PPost b z' ans.code M w e w' ∧ z'.ret = ans.ret ∧ z'.st = ans.steps
/-- What the run's loop keeps of memory. -/
structure RunP (w : World) (M D : Nat) (b : ByteArray) (z : Mx) (x : World) : Prop where
  mac : PAt x M b z
  tab : x.heap[D]? = some (.cells doArr 121 (0, 0))
  keep : KeepM M M M w x
  dm : M ≠ D
section
variable {w x x' : World} {M D : Nat} {b : ByteArray} {z z' : Mx}
theorem RunP.below (h : RunP w M D b z x) (hb : Below x.heap.size x x') : RunP w M D b z x' := ⟨h.mac.below hb, (hb.block _ (row_here h.tab)).trans h.tab, h.keep.trans (KeepM.of hb), h.dm⟩
theorem RunP.alloc (h : RunP w M D b z x) (o : Obj) : RunP w M D b z (x.alloc o) := h.below ((Below.refl _ _).alloc (Nat.le_refl _) o)
theorem RunP.step (h : RunP w M D b z x) (hp : PAt x' M b z') (hk : KeepM M M M x x') : RunP w M D b z' x' := ⟨hp, (hk.block _ (row_here h.tab) (Ne.symm h.dm) (Ne.symm h.dm) (Ne.symm h.dm)).trans h.tab, h.keep.trans hk, h.dm⟩
theorem RunP.setPc (h : RunP w M D b z x) (v : Int) : RunP w M D b { z with pc := v } (x.setCell ⟨M, 20, none⟩ (.int .i64 v)) := h.step (h.mac.setPc v) ((KeepM.refl M M M x).set (p := ⟨M, 20, none⟩) (.inl rfl) _)
theorem RunP.setSt (h : RunP w M D b z x) (v : Int) : RunP w M D b { z with st := v } (x.setCell ⟨M, 21, none⟩ (.int .i64 v)) := h.step (h.mac.setSt v) ((KeepM.refl M M M x).set (p := ⟨M, 21, none⟩) (.inl rfl) _)
theorem RunP.cell (h : RunP w M D b z x) {c : Nat} (hc : c < 165) : x.cell? ⟨D, c, none⟩ = some (doCell (c : Int)) := by rw [row_cell h.tab, doArr_cell hc]
theorem RunP.word (h : RunP w M D b z x) {bb : Nat} (hb : bb < M) (hM : M < w.heap.size) (i : Nat) : x.cell? ⟨bb, i, none⟩ = w.cell? ⟨bb, i, none⟩ :=
  World.cell?_of_block (w := w) (h.keep.block bb (by omega) (by omega) (by omega) (by omega))
end

theorem nil_func (W : World) : Sem.run Tryz.prog (binOp BinOp.eql 120 Value.nilFunc Value.nilFunc) W = .ok (.bool true) W := by kernel_rfl
theorem some_func (K : Nat) (W : World) : Sem.run Tryz.prog (binOp BinOp.eql 120 (Value.func (.func K) #[] #[]) Value.nilFunc) W = .ok (.bool false) W := by kernel_rfl

set_option maxHeartbeats 6400000 in
theorem run_any (v : Value) (l : List Ins) (b : ByteArray) (M : Nat) (w : World) (h : InsAt w M v l) (hM : PAt w M b mx0) (hl : allOk l = true) (hb : b.size ≤ maxLen) :
    Calls Tryz.prog 52 #[.pointer (some ⟨M, 0, none⟩), v] w (RunPost b (runM l b (l.length + 1) 0 mc0 0) M w) := by
  have hlen : l.length ≤ 400 := by unfold allOk at hl; simp at hl; exact hl.1
  have hri : ∀ x ∈ l, insRight x = true := by unfold allOk at hl; simp at hl; exact hl.2
  obtain ⟨a, cap, rfl, hlc, hcm⟩ := h.len
  unfold maxLen at hcm
  have hMlt : M < w.heap.size := row_here hM.row
  have HH := Lib.hid h
  have HM := Lib.hid hM
  have HRI := Lib.hid hri
  have HBS := Lib.hid hb
  have HD0 := Lib.hid (head0 l b)
  have hz := zero_do
  obtain ⟨ans, hans⟩ : ∃ ans, ans = runM l b (l.length + 1) 0 mc0 0 := ⟨_, rfl⟩
  rw [← hans] at HD0 ⊢
  clear h hM hl hri hb hans
  go_enter Tryz.func52, Tryz.ntmps52
  go_wp2_with fail
  refine (doings_any _).mono ?_
  rintro e w1 ⟨rfl, hb1⟩
  have HB1 := Lib.hid hb1
  have HR := Lib.hid (alloc_new_at w1 zeroDo 121 (n := w1.heap.size) rfl)
  clear hb1
  go_wp2_with (first
    | (refine wpList_store_row rfl 121 _ _ rfl w1.heap.size doArr rfl rfl 121 zeroDo HR.out (by kernel_rfl) (by kernel_rfl) (by kernel_rfl) ?_))
  simp only [Act.put, List.getElem_toArray, List.getElem_cons_zero, List.getElem_cons_succ, List.setIfInBounds_toArray, List.set_cons_zero, List.set_cons_succ]
  have hrow := setRow_heap _ w1.heap.size zeroDo doArr 121 (0, 0) HR.out
  have hb2 := v_below_setRow (HB1.out.alloc HB1.out.size (.cells zeroDo 121)) HB1.out.size doArr
  generalize (w1.alloc (.cells zeroDo 121)).setRow w1.heap.size doArr = w2 at *
  obtain ⟨D, hD⟩ : ∃ D, D = w1.heap.size := ⟨_, rfl⟩
  rw [← hD] at hrow ⊢
  have HP2 := Lib.hid (show RunP w M D b mx0 w2 from ⟨HM.out.below hb2, hrow, KeepM.of hb2, by have := HB1.out.size; omega⟩)
  clear hrow hb2 HR hz hD HB1
  go_loopg [7] l.length (fun g s wx => Aside (∃ z, Head l b ans g z ∧ RunP w M D b z wx))
  case atStart => exact ⟨mx0, HD0.out, HP2.out⟩
  case round =>
    have HREL := Lib.hid hrel
    clear hrel
    obtain ⟨z, hh, hp⟩ := HREL.out
    clear HREL
    rcases hh with ⟨hd, k, st, m, hpc, hst, hret, hk5, hkg, hsg, hok, hr, ha⟩ | ⟨hd, hc, hret, hst⟩
    · have c23 := hp.mac.cdone
      have c20 := hp.mac.cpc
      have c21 := hp.mac.cst
      rw [hd] at c23
      rw [hpc] at c20
      rw [hst] at c21
      by_cases hlt : k < l.length
      · cases gk with
        | zero => omega
        | succ g =>
        obtain ⟨x, hx⟩ : ∃ x, l[k]? = some x := ⟨l[k], List.getElem?_eq_getElem hlt⟩
        have hrx := HRI.out x (List.mem_of_getElem? hx)
        obtain ⟨bb, oo, e, hbb, d0', d1', d2', d3', _⟩ := HH.out.at_ hx
        subst e
        have d0 := (hp.word hbb hMlt (oo + k * 4)).trans d0'
        have d1 := (hp.word hbb hMlt (oo + k * 4 + 1)).trans d1'
        have d2 := (hp.word hbb hMlt (oo + k * 4 + 2)).trans d2'
        have d3 := (hp.word hbb hMlt (oo + k * 4 + 3)).trans d3'
        clear d0' d1' d2' d3'
        have hcb : 0 ≤ x.c ∧ x.c ≤ 65535 := by unfold insRight isB at hrx; simp only [Bool.and_eq_true, decide_eq_true_eq] at hrx; omega
        obtain ⟨xc, xy, xn, xk⟩ := x
        simp only at d0 d1 d2 d3 hcb
        obtain ⟨cn, rfl⟩ : ∃ cn : Nat, xc = cn := ⟨xc.toNat, by omega⟩
        have hdec : decide (l.length ≤ k) = false := decide_eq_false (by omega)
        have hk4 : (k : Int) < 400 := by omega
        have hst4 : (st : Int) < 400 := by omega
        have hltX : M < wr.heap.size ∧ D < wr.heap.size := ⟨row_here hp.mac.row, row_here hp.tab⟩
        obtain ⟨hltM, hltD⟩ := hltX
        have hMD := hp.dm
        have hDM := Ne.symm hMD
        have f20 := hp.mac.free 20
        have f21 := hp.mac.free 21
        have hp7 := ((hp.setPc ((k : Int) + 1)).setSt ((st : Int) + 1)).alloc (.cells #[.int .i64 cn, .int .i64 xy, .int .i64 xn, .int .i64 xk] 66)
        have HP7 := Lib.hid hp7
        cases ho : isOp (cn : Int) with
        | false =>
          rw [runM_noop hx ho] at ha
          have HF := Lib.hid (show RunPost b ans M w (.returned (.iface 124 (.agg #[.int .i64 3]))) _ from by
            subst ha
            exact ⟨_, p_err (c := 3) (by decide) hp7.mac hp7.keep, hret, by simp⟩)
          by_cases hfar : cn < 165
          · have hfn : fnOf (cn : Int) = none := by
              have := fnOf_op ⟨cn, hfar⟩
              simp only at this
              rw [ho] at this
              simpa using this
            have c7 := hp.cell hfar
            simp only [doCell, hfn] at c7
            have hdec2 : decide ((165 : Int) ≤ cn) = false := decide_eq_false (by omega)
            have hcl : (cn : Int) < 165 := by omega
            have hnf := nil_func
            clear hp hp7 hr hok ha hd hpc hst hret ho hfn hx hrx hcb
            go_wp2_with fail
            go_ret
            exact HF.out
          · have hdec2 : decide ((165 : Int) ≤ cn) = true := decide_eq_true (by omega)
            clear hp hp7 hr hok ha hd hpc hst hret ho hx hrx hcb
            go_wp2_with fail
            go_ret
            exact HF.out
        | true =>
          have hfar : cn < 165 := by
            rcases Nat.lt_or_ge cn 165 with h | h
            · exact h
            · rw [isOp_far (by omega)] at ho; cases ho
          obtain ⟨K, hK⟩ : ∃ K, fnOf (cn : Int) = some K := by
            have := fnOf_op ⟨cn, hfar⟩
            simp only at this
            rw [ho] at this
            exact Option.isSome_iff_exists.1 this
          have c7 := hp.cell hfar
          simp only [doCell, hK] at c7
          have ke := enter_of hK
          have HS := Lib.hid (fun W hW => step_all l b ans g k st m z ⟨cn, xy, xn, xk⟩ M K W HBS.out hlen hx hrx hd hpc hst hret hkg hsg hok hr ha ho hK hW)
          simp only [hpc, hst] at HS
          have hdec2 : decide ((165 : Int) ≤ cn) = false := decide_eq_false (by omega)
          have hcl : (cn : Int) < 165 := by omega
          have hnf := some_func
          clear hp hp7 hr hok ha hd hpc hst hret ho hx hrx hcb hK
          go_wp2_with fail
          go_region_law ((go_simp; (with_reducible refine (HS.out _ HP7.out.mac.drew).mono ?_); rintro e w3 ⟨z', cd, ⟨he, hp3, hk3⟩, haf⟩; subst he; have HP3 := Lib.hid ((HP7.out.below (Below.refl _ _).drew).step hp3 hk3); have HAF := Lib.hid haf; clear hp3 hk3 haf; dsimp only))
          all_goals
            rcases HAF.out with ⟨hc, hcode, hret, hst⟩ | ⟨hc, hh⟩
            · have hev : errV cd = .iface 124 (.agg #[.int .i64 cd]) := if_neg hc
              have HF := Lib.hid (show RunPost b ans M w (.returned (.iface 124 (.agg #[.int .i64 cd]))) w3 from ⟨z', by rw [hcode]; exact p_err hc HP3.out.mac HP3.out.keep, hret, hst⟩)
              simp only [hev]
              clear hc hcode hret hst hev
              go_wp2_with fail
              go_ret
              exact HF.out
            · subst hc
              have HX := Lib.hid hh
              clear hh
              simp only [show errV 0 = .nilIface from rfl]
              go_wp2_with fail
              go_roundg g
              case measure => omega
              case rel => exact ⟨z', HX.out, HP3.out⟩
      · have hE := runM_end (b := b) (f := gk) (m := m) (st := st) (show l.length ≤ k by omega)
        rw [hE] at ha
        have hz : decide (l.length ≤ k) = true := decide_eq_true (by omega)
        have HF := Lib.hid (show RunPost b ans M w (.returned (.iface 124 (.agg #[.int .i64 4]))) wr from by
          subst ha
          exact ⟨z, p_err (c := 4) (by decide) hp.mac hp.keep, hret, hst⟩)
        clear hp hr hok ha hE hd hpc hst hret
        go_wp2_with fail
        go_ret
        exact HF.out
    · have c23 := hp.mac.cdone
      rw [hd] at c23
      have HF := Lib.hid (show RunPost b ans M w (.returned .nilIface) wr from ⟨z, by rw [hc]; exact p_fin hp.mac hp.keep, hret, hst⟩)
      clear hp hc hret hst hd
      go_wp2_with fail
      go_ret
      exact HF.out

end Go.Proofs.YtekmnopgaopmlaaGreatDoor

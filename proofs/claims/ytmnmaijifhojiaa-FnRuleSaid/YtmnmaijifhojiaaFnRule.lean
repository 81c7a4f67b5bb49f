/-
  FnRule: for every input that the row speaks of, the law returns true, and its arguments read afterwards as before. No further conditions.
-/
import Derived.Test.YtmnmaijifhojiaaRows
import Derived.Test.YtmnmaijifhojiaaXh
import Derived.Deep.RegionHeld3
import Derived.Deep.RegionLaw
import Derived.Deep.DeepCutAuto
import Derived.Deep.CutRange
import Derived.Deep.QuietTactic
import Derived.BigQuiet
import Derived.WalkKit
import Derived.ProofKit
import Derived.OpenShut
import Derived.ShutString
import Derived.ChangeOld
import Derived.Below
set_option maxRecDepth 100000
namespace Go.Proofs.Ytmnmaijifhojiaa.fnRule
open Go.ChangeShapes Go.WideShapes Go.ChangeAt Go.RowKit
set_option linter.unusedVariables false
set_option linter.unusedSimpArgs false
open Go.ChangeMaps (open_string shut_string)
set_option linter.unusedVariables false

theorem own : ownKnob Try.prog.godebug = none := by kernel_rfl
theorem laidOut : laidOutB Try.prog = true := by kernel_rfl

/-- WHAT THE WALK IS TOLD OF A SLICE OF INTEGERS THAT CAME IN: it is nil; or it leads to a row of 'cap' cells, the numbers 'zs' (the first 'len' are its elements, the rest its spare room), each fitting its kind. -/
def IsRow (k : IntKind) (w : World) (a : Option Addr) (len cap : Nat) (zs : List Int) : Prop :=
  (a = none ∧ len = 0 ∧ cap = 0 ∧ zs = []) ∨
  ∃ x, a = some x ∧ len ≤ cap ∧ cap ≤ maxLen ∧ zs.length = cap ∧ (∀ i, i < zs.length → w.cell? (x.add i) = some (.int k (zs.getD i 0))) ∧ ∀ n ∈ zs, (Lit.int k n).wf = true

set_option maxHeartbeats 60000000 in
theorem walk (a0 : Option Addr) (len0 cap0 : Nat) (z0 : List Int) (a1 : Option Addr) (len1 cap1 : Nat) (z1 : List Int) (w : World) (w0 : IsRow .u8 w a0 len0 cap0 z0) (w1 : IsRow .u8 w a1 len1 cap1 z1) :
    Calls Try.prog 3 #[.slice a0 len0 cap0, .slice a1 len1 cap1] w fun e w' => e = .returned (.bool true) ∧ Below w.heap.size w w' := by
  have hc0 : CodeAt w w.heap.size a0 len0 cap0 := by
    rcases w0 with ⟨rfl, rfl, rfl, _⟩ | ⟨x, rfl, hl, hm, hz, hcell, hwf⟩
    · exact ⟨by omega, by unfold maxLen; omega, fun h => by omega⟩
    · exact codeAt_of hl hm hz hcell hwf
  have hc1 : CodeAt w w.heap.size a1 len1 cap1 := by
    rcases w1 with ⟨rfl, rfl, rfl, _⟩ | ⟨x, rfl, hl, hm, hz, hcell, hwf⟩
    · exact ⟨by omega, by unfold maxLen; omega, fun h => by omega⟩
    · exact codeAt_of hl hm hz hcell hwf
  clear w0 w1
  by_cases hb0 : 1048576 < len0
  · have hd0 : decide (1048576 < (len0 : Int)) = true := by simp; omega
    go_enter Try.func3, Try.ntmps3
    go_wp2
    go_ret
    exact ⟨rfl, Below.refl _ _⟩
  have hd0 : decide (1048576 < (len0 : Int)) = false := by simp; omega
  by_cases hb1 : 1048576 < len1
  · have hd1 : decide (1048576 < (len1 : Int)) = true := by simp; omega
    go_enter Try.func3, Try.ntmps3
    go_wp2
    go_ret
    exact ⟨rfl, Below.refl _ _⟩
  have hd1 : decide (1048576 < (len1 : Int)) = false := by simp; omega
  have HC0 := Lib.hid hc0
  have HC1 := Lib.hid hc1
  have HB := Lib.hid (Below.refl w.heap.size w)
  have HK := Lib.hid (fun (W : World) (h : Below w.heap.size w W) => True.intro)
  clear hc0 hc1
  go_enter Try.func3, Try.ntmps3
  have HQ := Lib.hid (drawCmpHolds_any a0 len0 cap0 _ (codeAt_up HC0.out HB.out (Nat.le_refl _)))
  go_wp2_with fail
  refine HQ.out.mono ?_
  rintro e w1 ⟨⟨ca, co, cmh, cml, cvh, cvl⟩, vh, vl, rfl, hb⟩
  have hr := two_rows (w := w1) #[.int .i64 ca, .int .i64 co, .int .i64 cmh, .int .i64 cml, .int .i64 cvh, .int .i64 cvl] #[.int .i64 vh, .int .i64 vl] 26 24
  have hstep := k_chain hb hr.2.2
  have HK := Lib.hid (fun (W : World) (h : Below ((w1.alloc (.cells #[.int .i64 ca, .int .i64 co, .int .i64 cmh, .int .i64 cml, .int .i64 cvh, .int .i64 cvl] 26)).alloc (.cells #[.int .i64 vh, .int .i64 vl] 24)).heap.size ((w1.alloc (.cells #[.int .i64 ca, .int .i64 co, .int .i64 cmh, .int .i64 cml, .int .i64 cvh, .int .i64 cvl] 26)).alloc (.cells #[.int .i64 vh, .int .i64 vl] 24)) W) => And.intro (And.intro (HK.out W (k_chain hstep h)) (keep_row h hr.1)) (keep_row h hr.2.1))
  have HB := Lib.hid (k_chain HB.out hstep)
  clear hr hstep hb HQ 
  go_upto_region 4 with fail
  generalize ((w1.alloc (.cells #[.int .i64 ca, .int .i64 co, .int .i64 cmh, .int .i64 cml, .int .i64 cvh, .int .i64 cvl] 26)).alloc (.cells #[.int .i64 vh, .int .i64 vl] 24)) = v1 at *
  obtain ⟨hc, hhc⟩ : ∃ b, b = cqHolds ⟨ca, co, cmh, cml, cvh, cvl⟩ ⟨vh, vl⟩ := ⟨_, rfl⟩
  have hc := (HK.out _ (Below.refl _ _)).1.2
  have c0 := row_cell hc 0
  have c1 := row_cell hc 1
  have c2 := row_cell hc 2
  have c3 := row_cell hc 3
  have c4 := row_cell hc 4
  have c5 := row_cell hc 5
  clear hc
  have hd := (HK.out _ (Below.refl _ _)).2
  have d0 := row_cell hd 0
  have d1 := row_cell hd 1
  clear hd
  simp only [List.getElem?_toArray, List.getElem?_cons_zero, List.getElem?_cons_succ] at c0 c1 c2 c3 c4 c5 d0 d1
  have hq := implCmpHolds_any ca co cmh cml cvh cvl vh vl v1
  rw [← hhc] at hq
  have HHC := Lib.hid hhc
  have HQ := Lib.hid hq
  clear hq hhc
  go_wp2_with fail
  refine HQ.out.mono ?_
  rintro e z1 ⟨rfl, hb⟩
  have HB := Lib.hid (k_chain HB.out hb)
  have HK := Lib.hid (fun (W : World) (h : Below z1.heap.size z1 W) => HK.out W (k_chain hb h))
  clear hb HQ c0 c1 c2 c3 c4 c5 d0 d1
  have HQ := Lib.hid (drawPolicyAdd_any a1 len1 cap1 _ (codeAt_up HC1.out HB.out (Nat.le_refl _)))
  go_wp2_with fail
  refine HQ.out.mono ?_
  rintro e w2 ⟨par, pdf, pbd, pu, pl, ⟨rnr, rac, rcs⟩, ru, rfl, hpv, hrv, hb⟩
  obtain ⟨pa, pcap, rfl⟩ : ∃ a c, pu = .slice a pl.length c := by obtain ⟨a, c, q, _⟩ := hpv.len; exact ⟨a, c, q⟩
  obtain ⟨ra, rcap, rfl⟩ : ∃ a c, ru = .slice a rcs.length c := by obtain ⟨a, c, q, _⟩ := LAt.len hrv; exact ⟨a, c, q⟩
  have hr := two_rows (w := w2) #[.int .i64 par, .int .i64 pdf, .int .i64 pbd, .slice pa pl.length pcap] #[.int .i64 rnr, .int .i64 rac, .slice ra rcs.length rcap] 32 35
  have hstep := k_chain hb hr.2.2
  have HK := Lib.hid (fun (W : World) (h : Below ((w2.alloc (.cells #[.int .i64 par, .int .i64 pdf, .int .i64 pbd, .slice pa pl.length pcap] 32)).alloc (.cells #[.int .i64 rnr, .int .i64 rac, .slice ra rcs.length rcap] 35)).heap.size ((w2.alloc (.cells #[.int .i64 par, .int .i64 pdf, .int .i64 pbd, .slice pa pl.length pcap] 32)).alloc (.cells #[.int .i64 rnr, .int .i64 rac, .slice ra rcs.length rcap] 35)) W) => And.intro (And.intro (And.intro (And.intro (HK.out W (k_chain hstep h)) (keep_row h hr.1)) (keep_row h hr.2.1)) (rv_to hpv (k_chain hr.2.2 h))) (cq_to hrv (k_chain hr.2.2 h)))
  have HB := Lib.hid (k_chain HB.out hstep)
  clear hr hstep hb HQ hpv hrv
  go_upto_region 6 with fail
  generalize ((w2.alloc (.cells #[.int .i64 par, .int .i64 pdf, .int .i64 pbd, .slice pa pl.length pcap] 32)).alloc (.cells #[.int .i64 rnr, .int .i64 rac, .slice ra rcs.length rcap] 35)) = v2 at *
  have hp := (HK.out _ (Below.refl _ _)).1.1.1.2
  have p0 := row_cell hp 0
  have p1 := row_cell hp 1
  have p2 := row_cell hp 2
  have p3 := row_cell hp 3
  clear hp
  have hr := (HK.out _ (Below.refl _ _)).1.1.2
  have r0 := row_cell hr 0
  have r1 := row_cell hr 1
  have r2 := row_cell hr 2
  clear hr
  simp only [List.getElem?_toArray, List.getElem?_cons_zero, List.getElem?_cons_succ] at p0 p1 p2 p3 r0 r1 r2
  obtain ⟨pc, hpc⟩ : ∃ pc, pc = polAdd ⟨par, pdf, pbd, rls pl⟩ ⟨rnr, rac, rcs⟩ := ⟨_, rfl⟩
  have hq := implPolicyAdd_any par pdf pbd pl rnr rac rcs _ _ v2 (HK.out _ (Below.refl _ _)).1.2 (HK.out _ (Below.refl _ _)).2
  have hxw : rlsWf pc.1.rs := hpc ▸ polAdd_wf' ((HK.out _ (Below.refl _ _)).1.2).wf
  rw [← hpc] at hq
  have HPC := Lib.hid hpc
  have HXW := Lib.hid hxw
  obtain ⟨⟨xar, xdf, xbd, xrs⟩, xc⟩ := pc
  have HQ := Lib.hid hq
  clear hq hpc hxw
  go_wp2_with fail
  refine HQ.out.mono ?_
  rintro e z2 ⟨xu, xl, rfl, hxl, hxo, hb⟩
  obtain ⟨xa, xcap, rfl⟩ := hxo.slice
  simp only at hxl
  have hxv := rv_of_own hxo hxl HXW.out
  have hr := heap_alloc_new z2 (.cells #[.int .i64 xar, .int .i64 xdf, .int .i64 xbd, .slice xa xl.length xcap, .int .i64 xc] 39)
  have hlw := k_al (Below.refl z2.heap.size z2) (.cells #[.int .i64 xar, .int .i64 xdf, .int .i64 xbd, .slice xa xl.length xcap, .int .i64 xc] 39)
  have hstep := k_chain hb hlw
  have HK := Lib.hid (fun (W : World) (h : Below (z2.alloc (.cells #[.int .i64 xar, .int .i64 xdf, .int .i64 xbd, .slice xa xl.length xcap, .int .i64 xc] 39)).heap.size (z2.alloc (.cells #[.int .i64 xar, .int .i64 xdf, .int .i64 xbd, .slice xa xl.length xcap, .int .i64 xc] 39)) W) => And.intro (And.intro (HK.out W (k_chain hstep h)) (keep_row h hr)) (rv_to hxv (k_chain hlw h)))
  have HB := Lib.hid (k_chain HB.out hstep)
  have HXL := Lib.hid hxl
  clear hr hstep hb HQ hxo hxv hlw hxl p0 p1 p2 p3 r0 r1 r2
  go_upto_region 7 with fail
  generalize z2.alloc (.cells #[.int .i64 xar, .int .i64 xdf, .int .i64 xbd, .slice xa xl.length xcap, .int .i64 xc] 39) = v2 at *
  have HQ := Lib.hid (drawPolicyDrop_any a0 len0 cap0 _ (codeAt_up HC0.out HB.out (Nat.le_refl _)))
  go_wp2_with fail
  refine HQ.out.mono ?_
  rintro e w3 ⟨dar, ddf, dbd, du, dl, dat, rfl, hat, hdv, hb⟩
  obtain ⟨da, dcap, rfl⟩ : ∃ a c, du = .slice a dl.length c := by obtain ⟨a, c, q, _⟩ := hdv.len; exact ⟨a, c, q⟩
  have hr := heap_alloc_new w3 (.cells #[.int .i64 dar, .int .i64 ddf, .int .i64 dbd, .slice da dl.length dcap] 32)
  have hlw := k_al (Below.refl w3.heap.size w3) (.cells #[.int .i64 dar, .int .i64 ddf, .int .i64 dbd, .slice da dl.length dcap] 32)
  have hstep := k_chain hb hlw
  have HK := Lib.hid (fun (W : World) (h : Below (w3.alloc (.cells #[.int .i64 dar, .int .i64 ddf, .int .i64 dbd, .slice da dl.length dcap] 32)).heap.size (w3.alloc (.cells #[.int .i64 dar, .int .i64 ddf, .int .i64 dbd, .slice da dl.length dcap] 32)) W) => And.intro (And.intro (HK.out W (k_chain hstep h)) (keep_row h hr)) (rv_to hdv (k_chain hlw h)))
  have HB := Lib.hid (k_chain HB.out hstep)
  clear hr hstep hb HQ hdv hlw
  go_upto_region 8 with fail
  generalize (w3.alloc (.cells #[.int .i64 dar, .int .i64 ddf, .int .i64 dbd, .slice da dl.length dcap] 32)) = v3 at *
  have HAT := Lib.hid hat
  clear hat
  have HQ := Lib.hid (drawDecide_any a1 len1 cap1 _ (codeAt_up HC1.out HB.out (Nat.le_refl _)))
  go_wp2_with fail
  refine HQ.out.mono ?_
  rintro e w4 ⟨qar, qdf, qbd, qu, ql, ⟨zn, za, ⟨zh, zl⟩, zs⟩, zu, rfl, hqv, hzv, hb⟩
  obtain ⟨qa, qcap, rfl⟩ : ∃ a c, qu = .slice a ql.length c := by obtain ⟨a, c, q, _⟩ := hqv.len; exact ⟨a, c, q⟩
  simp only at hzv
  obtain ⟨zsa, zcap, rfl⟩ : ∃ a c, zu = .slice a zs.length c := by obtain ⟨a, c, q, _⟩ := LAt.len hzv; exact ⟨a, c, q⟩
  have hr := two_rows (w := w4) #[.int .i64 qar, .int .i64 qdf, .int .i64 qbd, .slice qa ql.length qcap] #[.int .i64 zn, .int .i64 za, .int .i64 zh, .int .i64 zl, .slice zsa zs.length zcap] 32 45
  have hstep := k_chain hb hr.2.2
  have HK := Lib.hid (fun (W : World) (h : Below ((w4.alloc (.cells #[.int .i64 qar, .int .i64 qdf, .int .i64 qbd, .slice qa ql.length qcap] 32)).alloc (.cells #[.int .i64 zn, .int .i64 za, .int .i64 zh, .int .i64 zl, .slice zsa zs.length zcap] 45)).heap.size ((w4.alloc (.cells #[.int .i64 qar, .int .i64 qdf, .int .i64 qbd, .slice qa ql.length qcap] 32)).alloc (.cells #[.int .i64 zn, .int .i64 za, .int .i64 zh, .int .i64 zl, .slice zsa zs.length zcap] 45)) W) => And.intro (And.intro (And.intro (And.intro (HK.out W (k_chain hstep h)) (keep_row h hr.1)) (keep_row h hr.2.1)) (rv_to hqv (k_chain hr.2.2 h))) (wd_to hzv (k_chain hr.2.2 h)))
  have HB := Lib.hid (k_chain HB.out hstep)
  clear hr hstep hb HQ hqv hzv
  go_upto_region 9 with fail
  generalize ((w4.alloc (.cells #[.int .i64 qar, .int .i64 qdf, .int .i64 qbd, .slice qa ql.length qcap] 32)).alloc (.cells #[.int .i64 zn, .int .i64 za, .int .i64 zh, .int .i64 zl, .slice zsa zs.length zcap] 45)) = v4 at *
  have HQ := Lib.hid (drawRuleSame_any a1 len1 cap1 _ (codeAt_up HC1.out HB.out (Nat.le_refl _)))
  go_wp2_with fail
  refine HQ.out.mono ?_
  rintro e w5 ⟨⟨anr, aac, acs⟩, ⟨bnr, bac, bcs⟩, au, bu, rfl, hart, hav, hbv, hb⟩
  have HART := Lib.hid hart
  clear hart
  simp only at hav hbv
  obtain ⟨aa, acap, rfl⟩ : ∃ a c, au = .slice a acs.length c := by obtain ⟨a, c, q, _⟩ := LAt.len hav; exact ⟨a, c, q⟩
  obtain ⟨ba, bcap, rfl⟩ : ∃ a c, bu = .slice a bcs.length c := by obtain ⟨a, c, q, _⟩ := LAt.len hbv; exact ⟨a, c, q⟩
  have hr := two_rows (w := w5) #[.int .i64 anr, .int .i64 aac, .slice aa acs.length acap] #[.int .i64 bnr, .int .i64 bac, .slice ba bcs.length bcap] 35 35
  have hstep := k_chain hb hr.2.2
  have HK := Lib.hid (fun (W : World) (h : Below ((w5.alloc (.cells #[.int .i64 anr, .int .i64 aac, .slice aa acs.length acap] 35)).alloc (.cells #[.int .i64 bnr, .int .i64 bac, .slice ba bcs.length bcap] 35)).heap.size ((w5.alloc (.cells #[.int .i64 anr, .int .i64 aac, .slice aa acs.length acap] 35)).alloc (.cells #[.int .i64 bnr, .int .i64 bac, .slice ba bcs.length bcap] 35)) W) => And.intro (And.intro (And.intro (And.intro (HK.out W (k_chain hstep h)) (keep_row h hr.1)) (keep_row h hr.2.1)) (cq_to hav (k_chain hr.2.2 h))) (cq_to hbv (k_chain hr.2.2 h)))
  have HB := Lib.hid (k_chain HB.out hstep)
  clear hr hstep hb HQ hav hbv
  go_upto_region 10 with fail
  generalize ((w5.alloc (.cells #[.int .i64 anr, .int .i64 aac, .slice aa acs.length acap] 35)).alloc (.cells #[.int .i64 bnr, .int .i64 bac, .slice ba bcs.length bcap] 35)) = v5 at *
  have HQ := Lib.hid (drawRuleHolds_any a0 len0 cap0 _ (codeAt_up HC0.out HB.out (Nat.le_refl _)))
  go_wp2_with fail
  refine HQ.out.mono ?_
  rintro e w6 ⟨⟨enr, eac, ecs⟩, eu, ⟨fn, fa, ⟨fh, fl⟩, fs⟩, fu, rfl, hev, hfv, hb⟩
  simp only at hev hfv
  obtain ⟨ea, ecap, rfl⟩ : ∃ a c, eu = .slice a ecs.length c := by obtain ⟨a, c, q, _⟩ := LAt.len hev; exact ⟨a, c, q⟩
  obtain ⟨fsa, fcap, rfl⟩ : ∃ a c, fu = .slice a fs.length c := by obtain ⟨a, c, q, _⟩ := LAt.len hfv; exact ⟨a, c, q⟩
  have hr := two_rows (w := w6) #[.int .i64 enr, .int .i64 eac, .slice ea ecs.length ecap] #[.int .i64 fn, .int .i64 fa, .int .i64 fh, .int .i64 fl, .slice fsa fs.length fcap] 35 45
  have hstep := k_chain hb hr.2.2
  have HK := Lib.hid (fun (W : World) (h : Below ((w6.alloc (.cells #[.int .i64 enr, .int .i64 eac, .slice ea ecs.length ecap] 35)).alloc (.cells #[.int .i64 fn, .int .i64 fa, .int .i64 fh, .int .i64 fl, .slice fsa fs.length fcap] 45)).heap.size ((w6.alloc (.cells #[.int .i64 enr, .int .i64 eac, .slice ea ecs.length ecap] 35)).alloc (.cells #[.int .i64 fn, .int .i64 fa, .int .i64 fh, .int .i64 fl, .slice fsa fs.length fcap] 45)) W) => And.intro (And.intro (And.intro (And.intro (HK.out W (k_chain hstep h)) (keep_row h hr.1)) (keep_row h hr.2.1)) (cq_to hev (k_chain hr.2.2 h))) (wd_to hfv (k_chain hr.2.2 h)))
  have HB := Lib.hid (k_chain HB.out hstep)
  clear hr hstep hb HQ hev hfv
  go_upto_region 11 with fail
  generalize ((w6.alloc (.cells #[.int .i64 enr, .int .i64 eac, .slice ea ecs.length ecap] 35)).alloc (.cells #[.int .i64 fn, .int .i64 fa, .int .i64 fh, .int .i64 fl, .slice fsa fs.length fcap] 45)) = v6 at *
  have HQ := Lib.hid (drawCmpRight_any a1 len1 cap1 _ (codeAt_up HC1.out HB.out (Nat.le_refl _)))
  go_wp2_with fail
  refine HQ.out.mono ?_
  rintro e w7 ⟨⟨ga, go, gmh, gml, gvh, gvl⟩, rfl, hb⟩
  have hr := heap_alloc_new w7 (.cells #[.int .i64 ga, .int .i64 go, .int .i64 gmh, .int .i64 gml, .int .i64 gvh, .int .i64 gvl] 26)
  have hlw := k_al (Below.refl w7.heap.size w7) (.cells #[.int .i64 ga, .int .i64 go, .int .i64 gmh, .int .i64 gml, .int .i64 gvh, .int .i64 gvl] 26)
  have hstep := k_chain hb hlw
  have HK := Lib.hid (fun (W : World) (h : Below (w7.alloc (.cells #[.int .i64 ga, .int .i64 go, .int .i64 gmh, .int .i64 gml, .int .i64 gvh, .int .i64 gvl] 26)).heap.size (w7.alloc (.cells #[.int .i64 ga, .int .i64 go, .int .i64 gmh, .int .i64 gml, .int .i64 gvh, .int .i64 gvl] 26)) W) => And.intro (HK.out W (k_chain hstep h)) (keep_row h hr))
  have HB := Lib.hid (k_chain HB.out hstep)
  clear hr hstep hb HQ  hlw
  go_upto_region 12 with fail
  generalize (w7.alloc (.cells #[.int .i64 ga, .int .i64 go, .int .i64 gmh, .int .i64 gml, .int .i64 gvh, .int .i64 gvl] 26)) = v7 at *
  go_cut [143] from 73 to 142 (fun t ws => t = .bool false ∧ Below v7.heap.size v7 ws)
  case first =>
    as_aux_lemma =>
      have hbw0 : Below v7.heap.size v7 v7.drew := (Below.refl _ _).drew
      have nhc : (hc != hc) = false := by simp
      obtain ⟨dc, hdc⟩ : ∃ pc, pc = polDrop ⟨dar, ddf, dbd, rls dl⟩ dat := ⟨_, rfl⟩
      have hdw : rlsWf dc.1.rs := hdc ▸ polDrop_wf ((HK.out _ hbw0).1.1.1.1.1.1.1.1.1.1.1.1.1.2).wf
      have HDW := Lib.hid hdw
      have HDC := Lib.hid hdc
      clear hdw hdc
      obtain ⟨⟨tar, tdf, tbd, trs⟩, tc⟩ := dc
      obtain ⟨dq, hdq⟩ : ∃ b, b = polDecide ⟨qar, qdf, qbd, rls ql⟩ ⟨zn, za, ⟨zh, zl⟩, zs⟩ := ⟨_, rfl⟩
      have Hdq := Lib.hid hdq
      clear hdq
      have ndq : (dq != dq) = false := by simp
      obtain ⟨bs, hbs⟩ : ∃ b, b = decide ((⟨anr, aac, acs⟩ : Rl) = ⟨bnr, bac, bcs⟩) := ⟨_, rfl⟩
      have Hbs := Lib.hid hbs
      clear hbs
      have nbs : (bs != bs) = false := by simp
      obtain ⟨bh, hbh⟩ : ∃ b, b = rlHolds ⟨enr, eac, ecs⟩ ⟨fn, fa, ⟨fh, fl⟩, fs⟩ := ⟨_, rfl⟩
      have Hbh := Lib.hid hbh
      clear hbh
      have nbh : (bh != bh) = false := by simp
      obtain ⟨bg, hbg⟩ : ∃ b, b = cqRight ⟨ga, go, gmh, gml, gvh, gvl⟩ := ⟨_, rfl⟩
      have Hbg := Lib.hid hbg
      clear hbg
      have nbg : (bg != bg) = false := by simp
      obtain ⟨br, hbr⟩ : ∃ b, b = rlRight ⟨enr, eac, ecs⟩ := ⟨_, rfl⟩
      have Hbr := Lib.hid hbr
      clear hbr
      have nbr : (br != br) = false := by simp
      obtain ⟨bp, hbp⟩ : ∃ b, b = polRight ⟨par, pdf, pbd, rls pl⟩ := ⟨_, rfl⟩
      have Hbp := Lib.hid hbp
      clear hbp
      have nbp : (bp != bp) = false := by simp
      have hpr : xc = 0 → polRight ⟨xar, xdf, xbd, rls xl⟩ = true := fun h => by
        rw [HXL.out]
        have h2 := polAdd_right (p := ⟨par, pdf, pbd, rls pl⟩) (r := ⟨rnr, rac, rcs⟩) (by rw [← HPC.out]; exact h)
        rw [← HPC.out] at h2
        exact h2
      have HPR := Lib.hid hpr
      clear hpr
      go_wp2_with fail
      refine wp_region_noPanic ?_
      refine wp_region_held_drew (S := fun w' => Below v7.heap.size v7 w') (by kernel_rfl) ?_ (fun hHeld => ?_)
      · exact hbw0
      refine wpAnyH_take (i := 0) (v := ?qv1) rfl (by kernel_rfl) (by kernel_rfl) (by kernel_rfl) (fun _ _ _ h => h) (Or.inl ⟨by rfl, ?qhy1⟩) (by assumption) ?qrest1
      case qhy1 =>
        intro W hSw
        go_simp
        try with_reducible rfl
      try simp only [Act.put, List.getElem_toArray, List.getElem_cons_zero, List.getElem_cons_succ, List.setIfInBounds_toArray, List.set_cons_zero, List.set_cons_succ]
      refine wpAnyH_take (i := 1) (v := ?qv2) rfl (by kernel_rfl) (by kernel_rfl) (by kernel_rfl) (fun _ _ _ h => h) (Or.inl ⟨by rfl, ?qhy2⟩) (by assumption) ?qrest2
      case qhy2 =>
        intro W hSw
        have hr := (HK.out _ hSw).1.1.1.1.1.1.1.1.1.1.1.1.1.1.1.1.1.1.1.1.1.1.2
        have c0 := row_cell hr 0
        have c1 := row_cell hr 1
        have c2 := row_cell hr 2
        have c3 := row_cell hr 3
        have c4 := row_cell hr 4
        have c5 := row_cell hr 5
        simp only [List.getElem?_toArray, List.getElem?_cons_zero, List.getElem?_cons_succ] at c0 c1 c2 c3 c4 c5
        clear hr
        go_simp
        try with_reducible rfl
      try simp only [Act.put, List.getElem_toArray, List.getElem_cons_zero, List.getElem_cons_succ, List.setIfInBounds_toArray, List.set_cons_zero, List.set_cons_succ]
      refine wpAnyH_take (i := 2) (v := ?qv3) rfl (by kernel_rfl) (by kernel_rfl) (by kernel_rfl) (fun _ _ _ h => h) (Or.inl ⟨by rfl, ?qhy3⟩) (by assumption) ?qrest3
      case qhy3 =>
        intro W hSw
        have hr := (HK.out _ hSw).1.1.1.1.1.1.1.1.1.1.1.1.1.1.1.1.1.1.1.1.1.2
        have c0 := row_cell hr 0
        have c1 := row_cell hr 1
        simp only [List.getElem?_toArray, List.getElem?_cons_zero, List.getElem?_cons_succ] at c0 c1
        clear hr
        go_simp
        try with_reducible rfl
      try simp only [Act.put, List.getElem_toArray, List.getElem_cons_zero, List.getElem_cons_succ, List.setIfInBounds_toArray, List.set_cons_zero, List.set_cons_succ]
      have hq := specCmpHolds_any ca co cmh cml cvh cvl vh vl v7.drew
      rw [← HHC.out] at hq
      have HQ := Lib.hid hq
      clear hq
      refine wpAnyH_ready (rs := [3]) (by kernel_rfl) (by simp) ?_
      refine AllReadyH.cons rfl (fun K hK => ?_) AllReadyH.nil
      go_simp
      refine HQ.out.mono ?_
      rintro e y1 ⟨rfl, hb⟩
      have hbw1 := k_chain hbw0 hb
      clear hb HQ hbw0
      go_wp2_with fail
      refine hK.out _ _ ?_ (fun hHeld => ?_)
      · exact hbw1
      clear hK K
      try simp only [Act.put, List.getElem_toArray, List.getElem_cons_zero, List.getElem_cons_succ, List.setIfInBounds_toArray, List.set_cons_zero, List.set_cons_succ]
      refine wpAnyH_take (i := 4) (v := ?qv4) rfl (by kernel_rfl) (by kernel_rfl) (by kernel_rfl) (fun _ _ _ h => h) (Or.inl ⟨by rfl, ?qhy4⟩) (by assumption) ?qrest4
      case qhy4 =>
        intro W hSw
        go_simp
        try with_reducible rfl
      try simp only [Act.put, List.getElem_toArray, List.getElem_cons_zero, List.getElem_cons_succ, List.setIfInBounds_toArray, List.set_cons_zero, List.set_cons_succ]
      refine wpAnyH_take (i := 5) (v := ?qv5) rfl (by kernel_rfl) (by kernel_rfl) (by kernel_rfl) (fun _ _ _ h => h) (Or.inl ⟨by rfl, ?qhy5⟩) (by assumption) ?qrest5
      case qhy5 =>
        intro W hSw
        go_simp
        try with_reducible rfl
      try simp only [Act.put, List.getElem_toArray, List.getElem_cons_zero, List.getElem_cons_succ, List.setIfInBounds_toArray, List.set_cons_zero, List.set_cons_succ]
      refine wpAnyH_take (i := 6) (v := ?qv6) rfl (by kernel_rfl) (by kernel_rfl) (by kernel_rfl) (fun _ _ _ h => h) (Or.inl ⟨by rfl, ?qhy6⟩) (by assumption) ?qrest6
      case qhy6 =>
        intro W hSw
        have hr := (HK.out _ hSw).1.1.1.1.1.1.1.1.1.1.1.1.1.1.1.1.2
        have c0 := row_cell hr 0
        have c1 := row_cell hr 1
        have c2 := row_cell hr 2
        have c3 := row_cell hr 3
        have c4 := row_cell hr 4
        simp only [List.getElem?_toArray, List.getElem?_cons_zero, List.getElem?_cons_succ] at c0 c1 c2 c3 c4
        clear hr
        go_simp
        try with_reducible rfl
      try simp only [Act.put, List.getElem_toArray, List.getElem_cons_zero, List.getElem_cons_succ, List.setIfInBounds_toArray, List.set_cons_zero, List.set_cons_succ]
      refine wpAnyH_take (i := 7) (v := ?qv7) rfl (by kernel_rfl) (by kernel_rfl) (by kernel_rfl) (fun _ _ _ h => h) (Or.inl ⟨by rfl, ?qhy7⟩) (by assumption) ?qrest7
      case qhy7 =>
        intro W hSw
        have hr := (HK.out _ hSw).1.1.1.1.1.1.1.1.1.1.1.1.1.1.1.1.1.1.1.1.2
        have c0 := row_cell hr 0
        have c1 := row_cell hr 1
        have c2 := row_cell hr 2
        have c3 := row_cell hr 3
        simp only [List.getElem?_toArray, List.getElem?_cons_zero, List.getElem?_cons_succ] at c0 c1 c2 c3
        clear hr
        go_simp
        try with_reducible rfl
      try simp only [Act.put, List.getElem_toArray, List.getElem_cons_zero, List.getElem_cons_succ, List.setIfInBounds_toArray, List.set_cons_zero, List.set_cons_succ]
      refine wpAnyH_take (i := 8) (v := ?qv8) rfl (by kernel_rfl) (by kernel_rfl) (by kernel_rfl) (fun _ _ _ h => h) (Or.inl ⟨by rfl, ?qhy8⟩) (by assumption) ?qrest8
      case qhy8 =>
        intro W hSw
        have hr := (HK.out _ hSw).1.1.1.1.1.1.1.1.1.1.1.1.1.1.1.1.1.1.1.2
        have c0 := row_cell hr 0
        have c1 := row_cell hr 1
        have c2 := row_cell hr 2
        simp only [List.getElem?_toArray, List.getElem?_cons_zero, List.getElem?_cons_succ] at c0 c1 c2
        clear hr
        go_simp
        try with_reducible rfl
      try simp only [Act.put, List.getElem_toArray, List.getElem_cons_zero, List.getElem_cons_succ, List.setIfInBounds_toArray, List.set_cons_zero, List.set_cons_succ]
      have hq := specPolicyAdd_any par pdf pbd pl rnr rac rcs _ _ y1 ((HK.out _ hbw1).1.1.1.1.1.1.1.1.1.1.1.1.1.1.1.1.1.1.2) ((HK.out _ hbw1).1.1.1.1.1.1.1.1.1.1.1.1.1.1.1.1.1.2)
      rw [← HPC.out] at hq
      have HQ := Lib.hid hq
      clear hq
      refine wpAnyH_ready (rs := [9]) (by kernel_rfl) (by simp) ?_
      refine AllReadyH.cons rfl (fun K hK => ?_) AllReadyH.nil
      go_simp
      refine HQ.out.mono ?_
      rintro e y2 ⟨su, sl, rfl, hsl, hso, hb⟩
      obtain ⟨sa, scap, rfl⟩ := hso.slice
      simp only at hsl
      have HSV := Lib.hid (rv_of_own hso hsl HXW.out)
      have HSL := Lib.hid hsl
      clear hso hsl
      have hbw2 := k_chain hbw1 hb
      clear hb HQ hbw1
      go_wp2_with fail
      refine hK.out _ _ ?_ (fun hHeld => ?_)
      · exact hbw2
      clear hK K
      try simp only [Act.put, List.getElem_toArray, List.getElem_cons_zero, List.getElem_cons_succ, List.setIfInBounds_toArray, List.set_cons_zero, List.set_cons_succ]
      have hq := lwPolicies_same xar xdf xbd xc xl sl _ _ y2 ((HK.out _ hbw2).1.1.1.1.1.1.1.1.1.1.1.1.1.1.1.2) HSV.out (HXL.out.trans HSL.out.symm) HPR.out
      have HQ := Lib.hid hq
      clear hq
      refine wpAnyH_ready (rs := [10]) (by kernel_rfl) (by simp) ?_
      refine AllReadyH.cons rfl (fun K hK => ?_) AllReadyH.nil
      go_simp
      refine HQ.out.mono ?_
      rintro e y3 ⟨rfl, hb⟩
      clear HSV HSL
      have hbw3 := k_chain hbw2 hb
      clear hb HQ hbw2
      go_wp2_with fail
      refine hK.out _ _ ?_ (fun hHeld => ?_)
      · exact hbw3
      clear hK K
      try simp only [Act.put, List.getElem_toArray, List.getElem_cons_zero, List.getElem_cons_succ, List.setIfInBounds_toArray, List.set_cons_zero, List.set_cons_succ]
      refine wpAnyH_take (i := 11) (v := ?qv9) rfl (by kernel_rfl) (by kernel_rfl) (by kernel_rfl) (fun _ _ _ h => h) (Or.inl ⟨by rfl, ?qhy9⟩) (by assumption) ?qrest9
      case qhy9 =>
        intro W hSw
        go_simp
        try with_reducible rfl
      try simp only [Act.put, List.getElem_toArray, List.getElem_cons_zero, List.getElem_cons_succ, List.setIfInBounds_toArray, List.set_cons_zero, List.set_cons_succ]
      refine wpAnyH_take (i := 12) (v := ?qv10) rfl (by kernel_rfl) (by kernel_rfl) (by kernel_rfl) (fun _ _ _ h => h) (Or.inl ⟨by rfl, ?qhy10⟩) (by assumption) ?qrest10
      case qhy10 =>
        intro W hSw
        go_simp
        try with_reducible rfl
      try simp only [Act.put, List.getElem_toArray, List.getElem_cons_zero, List.getElem_cons_succ, List.setIfInBounds_toArray, List.set_cons_zero, List.set_cons_succ]
      refine wpAnyH_take (i := 13) (v := ?qv11) rfl (by kernel_rfl) (by kernel_rfl) (by kernel_rfl) (fun _ _ _ h => h) (Or.inl ⟨by rfl, ?qhy11⟩) (by assumption) ?qrest11
      case qhy11 =>
        intro W hSw
        go_simp
        try with_reducible rfl
      try simp only [Act.put, List.getElem_toArray, List.getElem_cons_zero, List.getElem_cons_succ, List.setIfInBounds_toArray, List.set_cons_zero, List.set_cons_succ]
      refine wpAnyH_take (i := 14) (v := ?qv12) rfl (by kernel_rfl) (by kernel_rfl) (by kernel_rfl) (fun _ _ _ h => h) (Or.inl ⟨by rfl, ?qhy12⟩) (by assumption) ?qrest12
      case qhy12 =>
        intro W hSw
        have hr := (HK.out _ hSw).1.1.1.1.1.1.1.1.1.1.1.1.1.1.2
        have c0 := row_cell hr 0
        have c1 := row_cell hr 1
        have c2 := row_cell hr 2
        have c3 := row_cell hr 3
        simp only [List.getElem?_toArray, List.getElem?_cons_zero, List.getElem?_cons_succ] at c0 c1 c2 c3
        clear hr
        go_simp
        try with_reducible rfl
      try simp only [Act.put, List.getElem_toArray, List.getElem_cons_zero, List.getElem_cons_succ, List.setIfInBounds_toArray, List.set_cons_zero, List.set_cons_succ]
      refine wpAnyH_take (i := 15) (v := ?qv13) rfl (by kernel_rfl) (by kernel_rfl) (by kernel_rfl) (fun _ _ _ h => h) (Or.inl ⟨by rfl, ?qhy13⟩) (by assumption) ?qrest13
      case qhy13 =>
        intro W hSw
        go_simp
        try with_reducible rfl
      try simp only [Act.put, List.getElem_toArray, List.getElem_cons_zero, List.getElem_cons_succ, List.setIfInBounds_toArray, List.set_cons_zero, List.set_cons_succ]
      refine wpAnyH_take (i := 17) (v := ?qv14) rfl (by kernel_rfl) (by kernel_rfl) (by kernel_rfl) (fun _ _ _ h => h) (Or.inl ⟨by rfl, ?qhy14⟩) (by assumption) ?qrest14
      case qhy14 =>
        intro W hSw
        have hr := (HK.out _ hSw).1.1.1.1.1.1.1.1.1.1.1.1.1.1.2
        have c0 := row_cell hr 0
        have c1 := row_cell hr 1
        have c2 := row_cell hr 2
        have c3 := row_cell hr 3
        simp only [List.getElem?_toArray, List.getElem?_cons_zero, List.getElem?_cons_succ] at c0 c1 c2 c3
        clear hr
        go_simp
        try with_reducible rfl
      try simp only [Act.put, List.getElem_toArray, List.getElem_cons_zero, List.getElem_cons_succ, List.setIfInBounds_toArray, List.set_cons_zero, List.set_cons_succ]
      refine wpAnyH_take (i := 18) (v := ?qv15) rfl (by kernel_rfl) (by kernel_rfl) (by kernel_rfl) (fun _ _ _ h => h) (Or.inl ⟨by rfl, ?qhy15⟩) (by assumption) ?qrest15
      case qhy15 =>
        intro W hSw
        go_simp
        try with_reducible rfl
      try simp only [Act.put, List.getElem_toArray, List.getElem_cons_zero, List.getElem_cons_succ, List.setIfInBounds_toArray, List.set_cons_zero, List.set_cons_succ]
      have hq := implPolicyDrop_any dar ddf dbd dat dl _ y3 ((HK.out _ hbw3).1.1.1.1.1.1.1.1.1.1.1.1.1.2) HAT.out
      rw [← HDC.out] at hq
      have HQ := Lib.hid hq
      clear hq
      refine wpAnyH_ready (rs := [16]) (by kernel_rfl) (by simp) ?_
      refine AllReadyH.cons rfl (fun K hK => ?_) AllReadyH.nil
      go_simp
      refine HQ.out.mono ?_
      rintro e y4 ⟨tu, tl, rfl, htl, hto, hb⟩
      obtain ⟨ta, tcap, rfl⟩ := hto.slice
      simp only at htl
      have HTV := Lib.hid (rv_of_own hto htl HDW.out)
      have HTL := Lib.hid htl
      clear hto htl
      have hbw4 := k_chain hbw3 hb
      clear hb HQ hbw3
      go_wp2_with fail
      refine hK.out _ _ ?_ (fun hHeld => ?_)
      · exact hbw4
      clear hK K
      try simp only [Act.put, List.getElem_toArray, List.getElem_cons_zero, List.getElem_cons_succ, List.setIfInBounds_toArray, List.set_cons_zero, List.set_cons_succ]
      have hq := specPolicyDrop_any dar ddf dbd dat dl _ y4 ((HK.out _ hbw4).1.1.1.1.1.1.1.1.1.1.1.1.1.2) HAT.out
      rw [← HDC.out] at hq
      have HQ := Lib.hid hq
      clear hq
      refine wpAnyH_ready (rs := [19]) (by kernel_rfl) (by simp) ?_
      refine AllReadyH.cons rfl (fun K hK => ?_) AllReadyH.nil
      go_simp
      refine HQ.out.mono ?_
      rintro e y5 ⟨su, sl, rfl, hsl, hso, hb⟩
      obtain ⟨sa, scap, rfl⟩ := hso.slice
      simp only at hsl
      have HSV := Lib.hid (rv_of_own hso hsl HDW.out)
      have HSL := Lib.hid hsl
      have HTV := Lib.hid (rv_to HTV.out hb)
      clear hso hsl
      have hbw5 := k_chain hbw4 hb
      clear hb HQ hbw4
      go_wp2_with fail
      refine hK.out _ _ ?_ (fun hHeld => ?_)
      · exact hbw5
      clear hK K
      try simp only [Act.put, List.getElem_toArray, List.getElem_cons_zero, List.getElem_cons_succ, List.setIfInBounds_toArray, List.set_cons_zero, List.set_cons_succ]
      have hdr : tc = 0 → polRight ⟨tar, tdf, tbd, rls tl⟩ = true := fun h => by
        rw [HTL.out]
        have h2 := polDrop_right (p := ⟨dar, ddf, dbd, rls dl⟩) (m := dat) (by rw [← HDC.out]; exact h)
        rw [← HDC.out] at h2
        exact h2
      have HDR := Lib.hid hdr
      clear hdr
      have hq := lwPolicies_same tar tdf tbd tc tl sl _ _ y5 HTV.out HSV.out (HTL.out.trans HSL.out.symm) HDR.out
      have HQ := Lib.hid hq
      clear hq
      refine wpAnyH_ready (rs := [20]) (by kernel_rfl) (by simp) ?_
      refine AllReadyH.cons rfl (fun K hK => ?_) AllReadyH.nil
      go_simp
      refine HQ.out.mono ?_
      rintro e y6 ⟨rfl, hb⟩
      clear HSV HSL HTV HTL HDW HDC HDR
      have hbw6 := k_chain hbw5 hb
      clear hb HQ hbw5
      go_wp2_with fail
      refine hK.out _ _ ?_ (fun hHeld => ?_)
      · exact hbw6
      clear hK K
      try simp only [Act.put, List.getElem_toArray, List.getElem_cons_zero, List.getElem_cons_succ, List.setIfInBounds_toArray, List.set_cons_zero, List.set_cons_succ]
      refine wpAnyH_take (i := 21) (v := ?qv16) rfl (by kernel_rfl) (by kernel_rfl) (by kernel_rfl) (fun _ _ _ h => h) (Or.inl ⟨by rfl, ?qhy16⟩) (by assumption) ?qrest16
      case qhy16 =>
        intro W hSw
        go_simp
        try with_reducible rfl
      try simp only [Act.put, List.getElem_toArray, List.getElem_cons_zero, List.getElem_cons_succ, List.setIfInBounds_toArray, List.set_cons_zero, List.set_cons_succ]
      refine wpAnyH_take (i := 22) (v := ?qv17) rfl (by kernel_rfl) (by kernel_rfl) (by kernel_rfl) (fun _ _ _ h => h) (Or.inl ⟨by rfl, ?qhy17⟩) (by assumption) ?qrest17
      case qhy17 =>
        intro W hSw
        go_simp
        try with_reducible rfl
      try simp only [Act.put, List.getElem_toArray, List.getElem_cons_zero, List.getElem_cons_succ, List.setIfInBounds_toArray, List.set_cons_zero, List.set_cons_succ]
      refine wpAnyH_take (i := 23) (v := ?qv18) rfl (by kernel_rfl) (by kernel_rfl) (by kernel_rfl) (fun _ _ _ h => h) (Or.inl ⟨by rfl, ?qhy18⟩) (by assumption) ?qrest18
      case qhy18 =>
        intro W hSw
        go_simp
        try with_reducible rfl
      try simp only [Act.put, List.getElem_toArray, List.getElem_cons_zero, List.getElem_cons_succ, List.setIfInBounds_toArray, List.set_cons_zero, List.set_cons_succ]
      refine wpAnyH_take (i := 24) (v := ?qv19) rfl (by kernel_rfl) (by kernel_rfl) (by kernel_rfl) (fun _ _ _ h => h) (Or.inl ⟨by rfl, ?qhy19⟩) (by assumption) ?qrest19
      case qhy19 =>
        intro W hSw
        have hr := (HK.out _ hSw).1.1.1.1.1.1.1.1.1.1.1.1.2
        have c0 := row_cell hr 0
        have c1 := row_cell hr 1
        have c2 := row_cell hr 2
        have c3 := row_cell hr 3
        simp only [List.getElem?_toArray, List.getElem?_cons_zero, List.getElem?_cons_succ] at c0 c1 c2 c3
        clear hr
        go_simp
        try with_reducible rfl
      try simp only [Act.put, List.getElem_toArray, List.getElem_cons_zero, List.getElem_cons_succ, List.setIfInBounds_toArray, List.set_cons_zero, List.set_cons_succ]
      refine wpAnyH_take (i := 25) (v := ?qv20) rfl (by kernel_rfl) (by kernel_rfl) (by kernel_rfl) (fun _ _ _ h => h) (Or.inl ⟨by rfl, ?qhy20⟩) (by assumption) ?qrest20
      case qhy20 =>
        intro W hSw
        have hr := (HK.out _ hSw).1.1.1.1.1.1.1.1.1.1.1.2
        have c0 := row_cell hr 0
        have c1 := row_cell hr 1
        have c2 := row_cell hr 2
        have c3 := row_cell hr 3
        have c4 := row_cell hr 4
        simp only [List.getElem?_toArray, List.getElem?_cons_zero, List.getElem?_cons_succ] at c0 c1 c2 c3 c4
        clear hr
        go_simp
        try with_reducible rfl
      try simp only [Act.put, List.getElem_toArray, List.getElem_cons_zero, List.getElem_cons_succ, List.setIfInBounds_toArray, List.set_cons_zero, List.set_cons_succ]
      refine wpAnyH_take (i := 27) (v := ?qv21) rfl (by kernel_rfl) (by kernel_rfl) (by kernel_rfl) (fun _ _ _ h => h) (Or.inl ⟨by rfl, ?qhy21⟩) (by assumption) ?qrest21
      case qhy21 =>
        intro W hSw
        have hr := (HK.out _ hSw).1.1.1.1.1.1.1.1.1.1.1.1.2
        have c0 := row_cell hr 0
        have c1 := row_cell hr 1
        have c2 := row_cell hr 2
        have c3 := row_cell hr 3
        simp only [List.getElem?_toArray, List.getElem?_cons_zero, List.getElem?_cons_succ] at c0 c1 c2 c3
        clear hr
        go_simp
        try with_reducible rfl
      try simp only [Act.put, List.getElem_toArray, List.getElem_cons_zero, List.getElem_cons_succ, List.setIfInBounds_toArray, List.set_cons_zero, List.set_cons_succ]
      refine wpAnyH_take (i := 28) (v := ?qv22) rfl (by kernel_rfl) (by kernel_rfl) (by kernel_rfl) (fun _ _ _ h => h) (Or.inl ⟨by rfl, ?qhy22⟩) (by assumption) ?qrest22
      case qhy22 =>
        intro W hSw
        have hr := (HK.out _ hSw).1.1.1.1.1.1.1.1.1.1.1.2
        have c0 := row_cell hr 0
        have c1 := row_cell hr 1
        have c2 := row_cell hr 2
        have c3 := row_cell hr 3
        have c4 := row_cell hr 4
        simp only [List.getElem?_toArray, List.getElem?_cons_zero, List.getElem?_cons_succ] at c0 c1 c2 c3 c4
        clear hr
        go_simp
        try with_reducible rfl
      try simp only [Act.put, List.getElem_toArray, List.getElem_cons_zero, List.getElem_cons_succ, List.setIfInBounds_toArray, List.set_cons_zero, List.set_cons_succ]
      have hq := implDecide_any qar qdf qbd ql zn za zh zl zs _ _ y6 ((HK.out _ hbw6).1.1.1.1.1.1.1.1.1.1.2) ((HK.out _ hbw6).1.1.1.1.1.1.1.1.1.2)
      rw [← Hdq.out] at hq
      have HQ := Lib.hid hq
      clear hq
      refine wpAnyH_ready (rs := [26]) (by kernel_rfl) (by simp) ?_
      refine AllReadyH.cons rfl (fun K hK => ?_) AllReadyH.nil
      go_simp
      refine HQ.out.mono ?_
      rintro e y7 ⟨rfl, hb⟩
      have hbw7 := k_chain hbw6 hb
      clear hb HQ hbw6
      go_wp2_with fail
      refine hK.out _ _ ?_ (fun hHeld => ?_)
      · exact hbw7
      clear hK K
      try simp only [Act.put, List.getElem_toArray, List.getElem_cons_zero, List.getElem_cons_succ, List.setIfInBounds_toArray, List.set_cons_zero, List.set_cons_succ]
      have hq := specDecide_any qar qdf qbd ql zn za zh zl zs _ _ y7 ((HK.out _ hbw7).1.1.1.1.1.1.1.1.1.1.2) ((HK.out _ hbw7).1.1.1.1.1.1.1.1.1.2)
      rw [← Hdq.out] at hq
      have HQ := Lib.hid hq
      clear hq
      refine wpAnyH_ready (rs := [29]) (by kernel_rfl) (by simp) ?_
      refine AllReadyH.cons rfl (fun K hK => ?_) AllReadyH.nil
      go_simp
      refine HQ.out.mono ?_
      rintro e y8 ⟨rfl, hb⟩
      have hbw8 := k_chain hbw7 hb
      clear hb HQ hbw7
      go_wp2_with fail
      refine hK.out _ _ ?_ (fun hHeld => ?_)
      · exact hbw8
      clear hK K
      try simp only [Act.put, List.getElem_toArray, List.getElem_cons_zero, List.getElem_cons_succ, List.setIfInBounds_toArray, List.set_cons_zero, List.set_cons_succ]
      refine wpAnyH_take (i := 30) (v := ?qv23) rfl (by kernel_rfl) (by kernel_rfl) (by kernel_rfl) (fun _ _ _ h => h) (Or.inl ⟨by rfl, ?qhy23⟩) (by assumption) ?qrest23
      case qhy23 =>
        intro W hSw
        go_simp
        try with_reducible rfl
      try simp only [Act.put, List.getElem_toArray, List.getElem_cons_zero, List.getElem_cons_succ, List.setIfInBounds_toArray, List.set_cons_zero, List.set_cons_succ]
      refine wpAnyH_take (i := 31) (v := ?qv24) rfl (by kernel_rfl) (by kernel_rfl) (by kernel_rfl) (fun _ _ _ h => h) (Or.inl ⟨by rfl, ?qhy24⟩) (by assumption) ?qrest24
      case qhy24 =>
        intro W hSw
        go_simp
        try with_reducible rfl
      try simp only [Act.put, List.getElem_toArray, List.getElem_cons_zero, List.getElem_cons_succ, List.setIfInBounds_toArray, List.set_cons_zero, List.set_cons_succ]
      refine wpAnyH_take (i := 32) (v := ?qv25) rfl (by kernel_rfl) (by kernel_rfl) (by kernel_rfl) (fun _ _ _ h => h) (Or.inl ⟨by rfl, ?qhy25⟩) (by assumption) ?qrest25
      case qhy25 =>
        intro W hSw
        go_simp
        try with_reducible rfl
      try simp only [Act.put, List.getElem_toArray, List.getElem_cons_zero, List.getElem_cons_succ, List.setIfInBounds_toArray, List.set_cons_zero, List.set_cons_succ]
      refine wpAnyH_take (i := 33) (v := ?qv26) rfl (by kernel_rfl) (by kernel_rfl) (by kernel_rfl) (fun _ _ _ h => h) (Or.inl ⟨by rfl, ?qhy26⟩) (by assumption) ?qrest26
      case qhy26 =>
        intro W hSw
        have hr := (HK.out _ hSw).1.1.1.1.1.1.1.1.2
        have c0 := row_cell hr 0
        have c1 := row_cell hr 1
        have c2 := row_cell hr 2
        simp only [List.getElem?_toArray, List.getElem?_cons_zero, List.getElem?_cons_succ] at c0 c1 c2
        clear hr
        go_simp
        try with_reducible rfl
      try simp only [Act.put, List.getElem_toArray, List.getElem_cons_zero, List.getElem_cons_succ, List.setIfInBounds_toArray, List.set_cons_zero, List.set_cons_succ]
      refine wpAnyH_take (i := 34) (v := ?qv27) rfl (by kernel_rfl) (by kernel_rfl) (by kernel_rfl) (fun _ _ _ h => h) (Or.inl ⟨by rfl, ?qhy27⟩) (by assumption) ?qrest27
      case qhy27 =>
        intro W hSw
        have hr := (HK.out _ hSw).1.1.1.1.1.1.1.2
        have c0 := row_cell hr 0
        have c1 := row_cell hr 1
        have c2 := row_cell hr 2
        simp only [List.getElem?_toArray, List.getElem?_cons_zero, List.getElem?_cons_succ] at c0 c1 c2
        clear hr
        go_simp
        try with_reducible rfl
      try simp only [Act.put, List.getElem_toArray, List.getElem_cons_zero, List.getElem_cons_succ, List.setIfInBounds_toArray, List.set_cons_zero, List.set_cons_succ]
      refine wpAnyH_take (i := 36) (v := ?qv28) rfl (by kernel_rfl) (by kernel_rfl) (by kernel_rfl) (fun _ _ _ h => h) (Or.inl ⟨by rfl, ?qhy28⟩) (by assumption) ?qrest28
      case qhy28 =>
        intro W hSw
        have hr := (HK.out _ hSw).1.1.1.1.1.1.1.1.2
        have c0 := row_cell hr 0
        have c1 := row_cell hr 1
        have c2 := row_cell hr 2
        simp only [List.getElem?_toArray, List.getElem?_cons_zero, List.getElem?_cons_succ] at c0 c1 c2
        clear hr
        go_simp
        try with_reducible rfl
      try simp only [Act.put, List.getElem_toArray, List.getElem_cons_zero, List.getElem_cons_succ, List.setIfInBounds_toArray, List.set_cons_zero, List.set_cons_succ]
      refine wpAnyH_take (i := 37) (v := ?qv29) rfl (by kernel_rfl) (by kernel_rfl) (by kernel_rfl) (fun _ _ _ h => h) (Or.inl ⟨by rfl, ?qhy29⟩) (by assumption) ?qrest29
      case qhy29 =>
        intro W hSw
        have hr := (HK.out _ hSw).1.1.1.1.1.1.1.2
        have c0 := row_cell hr 0
        have c1 := row_cell hr 1
        have c2 := row_cell hr 2
        simp only [List.getElem?_toArray, List.getElem?_cons_zero, List.getElem?_cons_succ] at c0 c1 c2
        clear hr
        go_simp
        try with_reducible rfl
      try simp only [Act.put, List.getElem_toArray, List.getElem_cons_zero, List.getElem_cons_succ, List.setIfInBounds_toArray, List.set_cons_zero, List.set_cons_succ]
      have hq := implRuleSame_any anr aac bnr bac acs bcs _ _ y8 ((HK.out _ hbw8).1.1.1.1.1.1.2) ((HK.out _ hbw8).1.1.1.1.1.2)
      rw [HART.out, Bool.true_and, ← Hbs.out] at hq
      have HQ := Lib.hid hq
      clear hq
      refine wpAnyH_ready (rs := [35]) (by kernel_rfl) (by simp) ?_
      refine AllReadyH.cons rfl (fun K hK => ?_) AllReadyH.nil
      go_simp
      refine HQ.out.mono ?_
      rintro e y9 ⟨rfl, hb⟩
      have hbw9 := k_chain hbw8 hb
      clear hb HQ hbw8
      go_wp2_with fail
      refine hK.out _ _ ?_ (fun hHeld => ?_)
      · exact hbw9
      clear hK K
      try simp only [Act.put, List.getElem_toArray, List.getElem_cons_zero, List.getElem_cons_succ, List.setIfInBounds_toArray, List.set_cons_zero, List.set_cons_succ]
      have hq := specRuleSame_any anr aac bnr bac acs bcs _ _ y9 ((HK.out _ hbw9).1.1.1.1.1.1.2) ((HK.out _ hbw9).1.1.1.1.1.2)
      rw [← Hbs.out] at hq
      have HQ := Lib.hid hq
      clear hq
      refine wpAnyH_ready (rs := [38]) (by kernel_rfl) (by simp) ?_
      refine AllReadyH.cons rfl (fun K hK => ?_) AllReadyH.nil
      go_simp
      refine HQ.out.mono ?_
      rintro e y10 ⟨rfl, hb⟩
      have hbw10 := k_chain hbw9 hb
      clear hb HQ hbw9
      go_wp2_with fail
      refine hK.out _ _ ?_ (fun hHeld => ?_)
      · exact hbw10
      clear hK K
      try simp only [Act.put, List.getElem_toArray, List.getElem_cons_zero, List.getElem_cons_succ, List.setIfInBounds_toArray, List.set_cons_zero, List.set_cons_succ]
      refine wpAnyH_take (i := 39) (v := ?qv30) rfl (by kernel_rfl) (by kernel_rfl) (by kernel_rfl) (fun _ _ _ h => h) (Or.inl ⟨by rfl, ?qhy30⟩) (by assumption) ?qrest30
      case qhy30 =>
        intro W hSw
        go_simp
        try with_reducible rfl
      try simp only [Act.put, List.getElem_toArray, List.getElem_cons_zero, List.getElem_cons_succ, List.setIfInBounds_toArray, List.set_cons_zero, List.set_cons_succ]
      refine wpAnyH_take (i := 40) (v := ?qv31) rfl (by kernel_rfl) (by kernel_rfl) (by kernel_rfl) (fun _ _ _ h => h) (Or.inl ⟨by rfl, ?qhy31⟩) (by assumption) ?qrest31
      case qhy31 =>
        intro W hSw
        go_simp
        try with_reducible rfl
      try simp only [Act.put, List.getElem_toArray, List.getElem_cons_zero, List.getElem_cons_succ, List.setIfInBounds_toArray, List.set_cons_zero, List.set_cons_succ]
      refine wpAnyH_take (i := 41) (v := ?qv32) rfl (by kernel_rfl) (by kernel_rfl) (by kernel_rfl) (fun _ _ _ h => h) (Or.inl ⟨by rfl, ?qhy32⟩) (by assumption) ?qrest32
      case qhy32 =>
        intro W hSw
        go_simp
        try with_reducible rfl
      try simp only [Act.put, List.getElem_toArray, List.getElem_cons_zero, List.getElem_cons_succ, List.setIfInBounds_toArray, List.set_cons_zero, List.set_cons_succ]
      refine wpAnyH_take (i := 42) (v := ?qv33) rfl (by kernel_rfl) (by kernel_rfl) (by kernel_rfl) (fun _ _ _ h => h) (Or.inl ⟨by rfl, ?qhy33⟩) (by assumption) ?qrest33
      case qhy33 =>
        intro W hSw
        have hr := (HK.out _ hSw).1.1.1.1.2
        have c0 := row_cell hr 0
        have c1 := row_cell hr 1
        have c2 := row_cell hr 2
        simp only [List.getElem?_toArray, List.getElem?_cons_zero, List.getElem?_cons_succ] at c0 c1 c2
        clear hr
        go_simp
        try with_reducible rfl
      try simp only [Act.put, List.getElem_toArray, List.getElem_cons_zero, List.getElem_cons_succ, List.setIfInBounds_toArray, List.set_cons_zero, List.set_cons_succ]
      refine wpAnyH_take (i := 43) (v := ?qv34) rfl (by kernel_rfl) (by kernel_rfl) (by kernel_rfl) (fun _ _ _ h => h) (Or.inl ⟨by rfl, ?qhy34⟩) (by assumption) ?qrest34
      case qhy34 =>
        intro W hSw
        have hr := (HK.out _ hSw).1.1.1.2
        have c0 := row_cell hr 0
        have c1 := row_cell hr 1
        have c2 := row_cell hr 2
        have c3 := row_cell hr 3
        have c4 := row_cell hr 4
        simp only [List.getElem?_toArray, List.getElem?_cons_zero, List.getElem?_cons_succ] at c0 c1 c2 c3 c4
        clear hr
        go_simp
        try with_reducible rfl
      try simp only [Act.put, List.getElem_toArray, List.getElem_cons_zero, List.getElem_cons_succ, List.setIfInBounds_toArray, List.set_cons_zero, List.set_cons_succ]
      refine wpAnyH_take (i := 45) (v := ?qv35) rfl (by kernel_rfl) (by kernel_rfl) (by kernel_rfl) (fun _ _ _ h => h) (Or.inl ⟨by rfl, ?qhy35⟩) (by assumption) ?qrest35
      case qhy35 =>
        intro W hSw
        have hr := (HK.out _ hSw).1.1.1.1.2
        have c0 := row_cell hr 0
        have c1 := row_cell hr 1
        have c2 := row_cell hr 2
        simp only [List.getElem?_toArray, List.getElem?_cons_zero, List.getElem?_cons_succ] at c0 c1 c2
        clear hr
        go_simp
        try with_reducible rfl
      try simp only [Act.put, List.getElem_toArray, List.getElem_cons_zero, List.getElem_cons_succ, List.setIfInBounds_toArray, List.set_cons_zero, List.set_cons_succ]
      refine wpAnyH_take (i := 46) (v := ?qv36) rfl (by kernel_rfl) (by kernel_rfl) (by kernel_rfl) (fun _ _ _ h => h) (Or.inl ⟨by rfl, ?qhy36⟩) (by assumption) ?qrest36
      case qhy36 =>
        intro W hSw
        have hr := (HK.out _ hSw).1.1.1.2
        have c0 := row_cell hr 0
        have c1 := row_cell hr 1
        have c2 := row_cell hr 2
        have c3 := row_cell hr 3
        have c4 := row_cell hr 4
        simp only [List.getElem?_toArray, List.getElem?_cons_zero, List.getElem?_cons_succ] at c0 c1 c2 c3 c4
        clear hr
        go_simp
        try with_reducible rfl
      try simp only [Act.put, List.getElem_toArray, List.getElem_cons_zero, List.getElem_cons_succ, List.setIfInBounds_toArray, List.set_cons_zero, List.set_cons_succ]
      have hq := implRuleHolds_any enr eac ecs fn fa fh fl fs _ _ y10 ((HK.out _ hbw10).1.1.2) ((HK.out _ hbw10).1.2)
      rw [← Hbh.out] at hq
      have HQ := Lib.hid hq
      clear hq
      refine wpAnyH_ready (rs := [44]) (by kernel_rfl) (by simp) ?_
      refine AllReadyH.cons rfl (fun K hK => ?_) AllReadyH.nil
      go_simp
      refine HQ.out.mono ?_
      rintro e y11 ⟨rfl, hb⟩
      have hbw11 := k_chain hbw10 hb
      clear hb HQ hbw10
      go_wp2_with fail
      refine hK.out _ _ ?_ (fun hHeld => ?_)
      · exact hbw11
      clear hK K
      try simp only [Act.put, List.getElem_toArray, List.getElem_cons_zero, List.getElem_cons_succ, List.setIfInBounds_toArray, List.set_cons_zero, List.set_cons_succ]
      have hq := specRuleHolds_any enr eac ecs fn fa fh fl fs _ _ y11 ((HK.out _ hbw11).1.1.2) ((HK.out _ hbw11).1.2)
      rw [← Hbh.out] at hq
      have HQ := Lib.hid hq
      clear hq
      refine wpAnyH_ready (rs := [47]) (by kernel_rfl) (by simp) ?_
      refine AllReadyH.cons rfl (fun K hK => ?_) AllReadyH.nil
      go_simp
      refine HQ.out.mono ?_
      rintro e y12 ⟨rfl, hb⟩
      have hbw12 := k_chain hbw11 hb
      clear hb HQ hbw11
      go_wp2_with fail
      refine hK.out _ _ ?_ (fun hHeld => ?_)
      · exact hbw12
      clear hK K
      try simp only [Act.put, List.getElem_toArray, List.getElem_cons_zero, List.getElem_cons_succ, List.setIfInBounds_toArray, List.set_cons_zero, List.set_cons_succ]
      refine wpAnyH_take (i := 48) (v := ?qv37) rfl (by kernel_rfl) (by kernel_rfl) (by kernel_rfl) (fun _ _ _ h => h) (Or.inl ⟨by rfl, ?qhy37⟩) (by assumption) ?qrest37
      case qhy37 =>
        intro W hSw
        go_simp
        try with_reducible rfl
      try simp only [Act.put, List.getElem_toArray, List.getElem_cons_zero, List.getElem_cons_succ, List.setIfInBounds_toArray, List.set_cons_zero, List.set_cons_succ]
      refine wpAnyH_take (i := 49) (v := ?qv38) rfl (by kernel_rfl) (by kernel_rfl) (by kernel_rfl) (fun _ _ _ h => h) (Or.inl ⟨by rfl, ?qhy38⟩) (by assumption) ?qrest38
      case qhy38 =>
        intro W hSw
        go_simp
        try with_reducible rfl
      try simp only [Act.put, List.getElem_toArray, List.getElem_cons_zero, List.getElem_cons_succ, List.setIfInBounds_toArray, List.set_cons_zero, List.set_cons_succ]
      refine wpAnyH_take (i := 50) (v := ?qv39) rfl (by kernel_rfl) (by kernel_rfl) (by kernel_rfl) (fun _ _ _ h => h) (Or.inl ⟨by rfl, ?qhy39⟩) (by assumption) ?qrest39
      case qhy39 =>
        intro W hSw
        go_simp
        try with_reducible rfl
      try simp only [Act.put, List.getElem_toArray, List.getElem_cons_zero, List.getElem_cons_succ, List.setIfInBounds_toArray, List.set_cons_zero, List.set_cons_succ]
      refine wpAnyH_take (i := 51) (v := ?qv40) rfl (by kernel_rfl) (by kernel_rfl) (by kernel_rfl) (fun _ _ _ h => h) (Or.inl ⟨by rfl, ?qhy40⟩) (by assumption) ?qrest40
      case qhy40 =>
        intro W hSw
        have hr := (HK.out _ hSw).2
        have c0 := row_cell hr 0
        have c1 := row_cell hr 1
        have c2 := row_cell hr 2
        have c3 := row_cell hr 3
        have c4 := row_cell hr 4
        have c5 := row_cell hr 5
        simp only [List.getElem?_toArray, List.getElem?_cons_zero, List.getElem?_cons_succ] at c0 c1 c2 c3 c4 c5
        clear hr
        go_simp
        try with_reducible rfl
      try simp only [Act.put, List.getElem_toArray, List.getElem_cons_zero, List.getElem_cons_succ, List.setIfInBounds_toArray, List.set_cons_zero, List.set_cons_succ]
      refine wpAnyH_take (i := 53) (v := ?qv41) rfl (by kernel_rfl) (by kernel_rfl) (by kernel_rfl) (fun _ _ _ h => h) (Or.inl ⟨by rfl, ?qhy41⟩) (by assumption) ?qrest41
      case qhy41 =>
        intro W hSw
        have hr := (HK.out _ hSw).2
        have c0 := row_cell hr 0
        have c1 := row_cell hr 1
        have c2 := row_cell hr 2
        have c3 := row_cell hr 3
        have c4 := row_cell hr 4
        have c5 := row_cell hr 5
        simp only [List.getElem?_toArray, List.getElem?_cons_zero, List.getElem?_cons_succ] at c0 c1 c2 c3 c4 c5
        clear hr
        go_simp
        try with_reducible rfl
      try simp only [Act.put, List.getElem_toArray, List.getElem_cons_zero, List.getElem_cons_succ, List.setIfInBounds_toArray, List.set_cons_zero, List.set_cons_succ]
      have hq := implCmpRight_any ga go gmh gml gvh gvl y12
      rw [← Hbg.out] at hq
      have HQ := Lib.hid hq
      clear hq
      refine wpAnyH_ready (rs := [52]) (by kernel_rfl) (by simp) ?_
      refine AllReadyH.cons rfl (fun K hK => ?_) AllReadyH.nil
      go_simp
      refine HQ.out.mono ?_
      rintro e y13 ⟨rfl, hb⟩
      have hbw13 := k_chain hbw12 hb
      clear hb HQ hbw12
      go_wp2_with fail
      refine hK.out _ _ ?_ (fun hHeld => ?_)
      · exact hbw13
      clear hK K
      try simp only [Act.put, List.getElem_toArray, List.getElem_cons_zero, List.getElem_cons_succ, List.setIfInBounds_toArray, List.set_cons_zero, List.set_cons_succ]
      have hq := specCmpRight_any ga go gmh gml gvh gvl y13
      rw [← Hbg.out] at hq
      have HQ := Lib.hid hq
      clear hq
      refine wpAnyH_ready (rs := [54]) (by kernel_rfl) (by simp) ?_
      refine AllReadyH.cons rfl (fun K hK => ?_) AllReadyH.nil
      go_simp
      refine HQ.out.mono ?_
      rintro e y14 ⟨rfl, hb⟩
      have hbw14 := k_chain hbw13 hb
      clear hb HQ hbw13
      go_wp2_with fail
      refine hK.out _ _ ?_ (fun hHeld => ?_)
      · exact hbw14
      clear hK K
      try simp only [Act.put, List.getElem_toArray, List.getElem_cons_zero, List.getElem_cons_succ, List.setIfInBounds_toArray, List.set_cons_zero, List.set_cons_succ]
      refine wpAnyH_take (i := 55) (v := ?qv42) rfl (by kernel_rfl) (by kernel_rfl) (by kernel_rfl) (fun _ _ _ h => h) (Or.inl ⟨by rfl, ?qhy42⟩) (by assumption) ?qrest42
      case qhy42 =>
        intro W hSw
        go_simp
        try with_reducible rfl
      try simp only [Act.put, List.getElem_toArray, List.getElem_cons_zero, List.getElem_cons_succ, List.setIfInBounds_toArray, List.set_cons_zero, List.set_cons_succ]
      refine wpAnyH_take (i := 56) (v := ?qv43) rfl (by kernel_rfl) (by kernel_rfl) (by kernel_rfl) (fun _ _ _ h => h) (Or.inl ⟨by rfl, ?qhy43⟩) (by assumption) ?qrest43
      case qhy43 =>
        intro W hSw
        go_simp
        try with_reducible rfl
      try simp only [Act.put, List.getElem_toArray, List.getElem_cons_zero, List.getElem_cons_succ, List.setIfInBounds_toArray, List.set_cons_zero, List.set_cons_succ]
      refine wpAnyH_take (i := 57) (v := ?qv44) rfl (by kernel_rfl) (by kernel_rfl) (by kernel_rfl) (fun _ _ _ h => h) (Or.inl ⟨by rfl, ?qhy44⟩) (by assumption) ?qrest44
      case qhy44 =>
        intro W hSw
        go_simp
        try with_reducible rfl
      try simp only [Act.put, List.getElem_toArray, List.getElem_cons_zero, List.getElem_cons_succ, List.setIfInBounds_toArray, List.set_cons_zero, List.set_cons_succ]
      refine wpAnyH_take (i := 58) (v := ?qv45) rfl (by kernel_rfl) (by kernel_rfl) (by kernel_rfl) (fun _ _ _ h => h) (Or.inl ⟨by rfl, ?qhy45⟩) (by assumption) ?qrest45
      case qhy45 =>
        intro W hSw
        have hr := (HK.out _ hSw).1.1.1.1.2
        have c0 := row_cell hr 0
        have c1 := row_cell hr 1
        have c2 := row_cell hr 2
        simp only [List.getElem?_toArray, List.getElem?_cons_zero, List.getElem?_cons_succ] at c0 c1 c2
        clear hr
        go_simp
        try with_reducible rfl
      try simp only [Act.put, List.getElem_toArray, List.getElem_cons_zero, List.getElem_cons_succ, List.setIfInBounds_toArray, List.set_cons_zero, List.set_cons_succ]
      refine wpAnyH_take (i := 60) (v := ?qv46) rfl (by kernel_rfl) (by kernel_rfl) (by kernel_rfl) (fun _ _ _ h => h) (Or.inl ⟨by rfl, ?qhy46⟩) (by assumption) ?qrest46
      case qhy46 =>
        intro W hSw
        have hr := (HK.out _ hSw).1.1.1.1.2
        have c0 := row_cell hr 0
        have c1 := row_cell hr 1
        have c2 := row_cell hr 2
        simp only [List.getElem?_toArray, List.getElem?_cons_zero, List.getElem?_cons_succ] at c0 c1 c2
        clear hr
        go_simp
        try with_reducible rfl
      try simp only [Act.put, List.getElem_toArray, List.getElem_cons_zero, List.getElem_cons_succ, List.setIfInBounds_toArray, List.set_cons_zero, List.set_cons_succ]
      have hq := implRuleRight_any enr eac ecs _ y14 ((HK.out _ hbw14).1.1.2)
      rw [← Hbr.out] at hq
      have HQ := Lib.hid hq
      clear hq
      refine wpAnyH_ready (rs := [59]) (by kernel_rfl) (by simp) ?_
      refine AllReadyH.cons rfl (fun K hK => ?_) AllReadyH.nil
      go_simp
      refine HQ.out.mono ?_
      rintro e y15 ⟨rfl, hb⟩
      have hbw15 := k_chain hbw14 hb
      clear hb HQ hbw14
      go_wp2_with fail
      refine hK.out _ _ ?_ (fun hHeld => ?_)
      · exact hbw15
      clear hK K
      try simp only [Act.put, List.getElem_toArray, List.getElem_cons_zero, List.getElem_cons_succ, List.setIfInBounds_toArray, List.set_cons_zero, List.set_cons_succ]
      have hq := specRuleRight_any enr eac ecs _ y15 ((HK.out _ hbw15).1.1.2)
      rw [← Hbr.out] at hq
      have HQ := Lib.hid hq
      clear hq
      refine wpAnyH_ready (rs := [61]) (by kernel_rfl) (by simp) ?_
      refine AllReadyH.cons rfl (fun K hK => ?_) AllReadyH.nil
      go_simp
      refine HQ.out.mono ?_
      rintro e y16 ⟨rfl, hb⟩
      have hbw16 := k_chain hbw15 hb
      clear hb HQ hbw15
      go_wp2_with fail
      refine hK.out _ _ ?_ (fun hHeld => ?_)
      · exact hbw16
      clear hK K
      try simp only [Act.put, List.getElem_toArray, List.getElem_cons_zero, List.getElem_cons_succ, List.setIfInBounds_toArray, List.set_cons_zero, List.set_cons_succ]
      refine wpAnyH_take (i := 62) (v := ?qv47) rfl (by kernel_rfl) (by kernel_rfl) (by kernel_rfl) (fun _ _ _ h => h) (Or.inl ⟨by rfl, ?qhy47⟩) (by assumption) ?qrest47
      case qhy47 =>
        intro W hSw
        go_simp
        try with_reducible rfl
      try simp only [Act.put, List.getElem_toArray, List.getElem_cons_zero, List.getElem_cons_succ, List.setIfInBounds_toArray, List.set_cons_zero, List.set_cons_succ]
      refine wpAnyH_take (i := 63) (v := ?qv48) rfl (by kernel_rfl) (by kernel_rfl) (by kernel_rfl) (fun _ _ _ h => h) (Or.inl ⟨by rfl, ?qhy48⟩) (by assumption) ?qrest48
      case qhy48 =>
        intro W hSw
        go_simp
        try with_reducible rfl
      try simp only [Act.put, List.getElem_toArray, List.getElem_cons_zero, List.getElem_cons_succ, List.setIfInBounds_toArray, List.set_cons_zero, List.set_cons_succ]
      refine wpAnyH_take (i := 64) (v := ?qv49) rfl (by kernel_rfl) (by kernel_rfl) (by kernel_rfl) (fun _ _ _ h => h) (Or.inl ⟨by rfl, ?qhy49⟩) (by assumption) ?qrest49
      case qhy49 =>
        intro W hSw
        go_simp
        try with_reducible rfl
      try simp only [Act.put, List.getElem_toArray, List.getElem_cons_zero, List.getElem_cons_succ, List.setIfInBounds_toArray, List.set_cons_zero, List.set_cons_succ]
      refine wpAnyH_take (i := 65) (v := ?qv50) rfl (by kernel_rfl) (by kernel_rfl) (by kernel_rfl) (fun _ _ _ h => h) (Or.inl ⟨by rfl, ?qhy50⟩) (by assumption) ?qrest50
      case qhy50 =>
        intro W hSw
        have hr := (HK.out _ hSw).1.1.1.1.1.1.1.1.1.1.1.1.1.1.1.1.1.1.1.1.2
        have c0 := row_cell hr 0
        have c1 := row_cell hr 1
        have c2 := row_cell hr 2
        have c3 := row_cell hr 3
        simp only [List.getElem?_toArray, List.getElem?_cons_zero, List.getElem?_cons_succ] at c0 c1 c2 c3
        clear hr
        go_simp
        try with_reducible rfl
      try simp only [Act.put, List.getElem_toArray, List.getElem_cons_zero, List.getElem_cons_succ, List.setIfInBounds_toArray, List.set_cons_zero, List.set_cons_succ]
      refine wpAnyH_take (i := 67) (v := ?qv51) rfl (by kernel_rfl) (by kernel_rfl) (by kernel_rfl) (fun _ _ _ h => h) (Or.inl ⟨by rfl, ?qhy51⟩) (by assumption) ?qrest51
      case qhy51 =>
        intro W hSw
        have hr := (HK.out _ hSw).1.1.1.1.1.1.1.1.1.1.1.1.1.1.1.1.1.1.1.1.2
        have c0 := row_cell hr 0
        have c1 := row_cell hr 1
        have c2 := row_cell hr 2
        have c3 := row_cell hr 3
        simp only [List.getElem?_toArray, List.getElem?_cons_zero, List.getElem?_cons_succ] at c0 c1 c2 c3
        clear hr
        go_simp
        try with_reducible rfl
      try simp only [Act.put, List.getElem_toArray, List.getElem_cons_zero, List.getElem_cons_succ, List.setIfInBounds_toArray, List.set_cons_zero, List.set_cons_succ]
      have hq := implPolicyRight_any par pdf pbd pl _ y16 ((HK.out _ hbw16).1.1.1.1.1.1.1.1.1.1.1.1.1.1.1.1.1.1.2)
      rw [← Hbp.out] at hq
      have HQ := Lib.hid hq
      clear hq
      refine wpAnyH_ready (rs := [66]) (by kernel_rfl) (by simp) ?_
      refine AllReadyH.cons rfl (fun K hK => ?_) AllReadyH.nil
      go_simp
      refine HQ.out.mono ?_
      rintro e y17 ⟨rfl, hb⟩
      have hbw17 := k_chain hbw16 hb
      clear hb HQ hbw16
      go_wp2_with fail
      refine hK.out _ _ ?_ (fun hHeld => ?_)
      · exact hbw17
      clear hK K
      try simp only [Act.put, List.getElem_toArray, List.getElem_cons_zero, List.getElem_cons_succ, List.setIfInBounds_toArray, List.set_cons_zero, List.set_cons_succ]
      have hq := specPolicyRight_any par pdf pbd pl _ y17 ((HK.out _ hbw17).1.1.1.1.1.1.1.1.1.1.1.1.1.1.1.1.1.1.2)
      rw [← Hbp.out] at hq
      have HQ := Lib.hid hq
      clear hq
      refine wpAnyH_ready (rs := [68]) (by kernel_rfl) (by simp) ?_
      refine AllReadyH.cons rfl (fun K hK => ?_) AllReadyH.nil
      go_simp
      refine HQ.out.mono ?_
      rintro e y18 ⟨rfl, hb⟩
      have hbw18 := k_chain hbw17 hb
      clear hb HQ hbw17
      go_wp2_with fail
      refine hK.out _ _ ?_ (fun hHeld => ?_)
      · exact hbw18
      clear hK K
      try simp only [Act.put, List.getElem_toArray, List.getElem_cons_zero, List.getElem_cons_succ, List.setIfInBounds_toArray, List.set_cons_zero, List.set_cons_succ]
      refine wpAnyH_take (i := 69) (v := ?qv52) rfl (by kernel_rfl) (by kernel_rfl) (by kernel_rfl) (fun _ _ _ h => h) (Or.inl ⟨by rfl, ?qhy52⟩) (by assumption) ?qrest52
      case qhy52 =>
        intro W hSw
        go_simp
        try with_reducible rfl
      try simp only [Act.put, List.getElem_toArray, List.getElem_cons_zero, List.getElem_cons_succ, List.setIfInBounds_toArray, List.set_cons_zero, List.set_cons_succ]
      refine wpAnyH_take (i := 70) (v := ?qv53) rfl (by kernel_rfl) (by kernel_rfl) (by kernel_rfl) (fun _ _ _ h => h) (Or.inl ⟨by rfl, ?qhy53⟩) (by assumption) ?qrest53
      case qhy53 =>
        intro W hSw
        go_simp
        try with_reducible rfl
      try simp only [Act.put, List.getElem_toArray, List.getElem_cons_zero, List.getElem_cons_succ, List.setIfInBounds_toArray, List.set_cons_zero, List.set_cons_succ]
      refine wpAnyH_done (by kernel_rfl) ?_ _
      refine NoPanic.normal ?_
      go_wp2_with fail
      go_meet
      exact ⟨rfl, hbw18⟩
  case rest =>
  generalize wc = w12 at *
  obtain ⟨rfl, hbW⟩ := hcut
  have HB := Lib.hid (k_chain HB.out hbW)
  have HK := Lib.hid (fun (W : World) (h : Below w12.heap.size w12 W) => HK.out W (k_chain hbW h))
  clear hbW
  go_upto_region 14 with fail
  go_cut [154] from 144 to 153 (fun t ws => ∃ b : Bool, t = .bool b ∧ (b = true → co ≤ 6 ∧ cqRight ⟨ca, co, cmh, cml, cvh, cvl⟩ = true ∧ wdRight ⟨vh, vl⟩ = true) ∧ Below w12.heap.size w12 ws)
  case first =>
    have hr := (HK.out _ (Below.refl _ _)).1.1.1.1.1.1.1.1.1.1.1.1.1.1.1.1.1.1.1.1.1.1.2
    have c0 := row_cell hr 0
    have c1 := row_cell hr 1
    have c2 := row_cell hr 2
    have c3 := row_cell hr 3
    have c4 := row_cell hr 4
    have c5 := row_cell hr 5
    clear hr
    simp only [List.getElem?_toArray, List.getElem?_cons_zero, List.getElem?_cons_succ] at c0 c1 c2 c3 c4 c5
    by_cases h6 : co ≤ 6
    · have e6 : decide (co ≤ 6) = true := decide_eq_true h6
      have H6 := Lib.hid h6
      have hq := specCmpRight_any ca co cmh cml cvh cvl w12
      clear h6
      cases hr : cqRight ⟨ca, co, cmh, cml, cvh, cvl⟩ <;> rw [hr] at hq
      · have HQ := Lib.hid hq
        clear hq hr
        go_wp2_with fail
        refine HQ.out.mono ?_
        rintro e z ⟨rfl, hb⟩
        have HZ := Lib.hid hb
        clear hb HQ c0 c1 c2 c3 c4 c5
        go_wp2_with fail
        go_meet
        exact ⟨false, rfl, (fun h => by cases h), HZ.out⟩
      · have HQ := Lib.hid hq
        have HR := Lib.hid hr
        clear hq hr
        go_wp2_with fail
        refine HQ.out.mono ?_
        rintro e z ⟨rfl, hb⟩
        have HZ := Lib.hid hb
        clear hb HQ c0 c1 c2 c3 c4 c5
        have hr := (HK.out _ HZ.out).1.1.1.1.1.1.1.1.1.1.1.1.1.1.1.1.1.1.1.1.1.2
        have d0 := row_cell hr 0
        have d1 := row_cell hr 1
        simp only [List.getElem?_toArray, List.getElem?_cons_zero, List.getElem?_cons_succ] at d0 d1
        have hq := specWordRight_any vh vl z
        have HQ := Lib.hid hq
        clear hq hr
        go_wp2_with fail
        refine HQ.out.mono ?_
        rintro e z2 ⟨rfl, hb⟩
        have HZ := Lib.hid (k_chain HZ.out hb)
        clear hb
        cases hv : wdRight ⟨vh, vl⟩
        · go_wp2_with fail
          go_meet
          exact ⟨false, rfl, (fun h => by cases h), HZ.out⟩
        · have HV := Lib.hid hv
          clear hv
          go_wp2_with fail
          go_meet
          exact ⟨true, rfl, (fun _ => ⟨H6.out, HR.out, HV.out⟩), HZ.out⟩
    · have e6 : decide (co ≤ 6) = false := decide_eq_false h6
      clear h6
      go_wp2_with fail
      go_meet
      exact ⟨false, rfl, (fun h => by cases h), Below.refl _ _⟩
  case rest =>
  generalize wc = w14 at *
  obtain ⟨b14, rfl, hb14, hbW⟩ := hcut
  have HB14 := Lib.hid hb14
  clear hb14
  have HB := Lib.hid (k_chain HB.out hbW)
  have HK := Lib.hid (fun (W : World) (h : Below w14.heap.size w14 W) => HK.out W (k_chain hbW h))
  clear hbW
  go_upto_if 154 with fail
  go_cut [] from 20 to 166 (fun ws => Below w14.heap.size w14 ws)
  case first =>
    cases b14
    · go_wp2_with fail
      go_meet
      exact Below.refl _ _
    · obtain ⟨h6, hcr, hvr⟩ := HB14.out rfl
      have hop := cq_op hcr
      have hopp := oppo_holds hcr hvr h6
      simp only at hop hopp
      rw [← HHC.out] at hopp
      have hq := implCmpHolds_any ca (oppo co) cmh cml cvh cvl vh vl
      rw [hopp] at hq
      have HQ := Lib.hid hq
      clear hopp hq hcr hvr
      have hr := (HK.out _ (Below.refl _ _)).1.1.1.1.1.1.1.1.1.1.1.1.1.1.1.1.1.1.1.1.1.1.2
      have c0 := row_cell hr 0
      have c1 := row_cell hr 1
      have c2 := row_cell hr 2
      have c3 := row_cell hr 3
      have c4 := row_cell hr 4
      have c5 := row_cell hr 5
      clear hr
      simp only [List.getElem?_toArray, List.getElem?_cons_zero, List.getElem?_cons_succ] at c0 c1 c2 c3 c4 c5
      go_upto_region 16 with fail
      have hbO := k_al (Below.refl w14.heap.size w14) (.cells #[.int .i64 ca, .int .i64 co, .int .i64 cmh, .int .i64 cml, .int .i64 cvh, .int .i64 cvl] 26)
      have hO := heap_alloc_new w14 (.cells #[.int .i64 ca, .int .i64 co, .int .i64 cmh, .int .i64 cml, .int .i64 cvh, .int .i64 cvl] 26)
      have hCO := (HK.out _ hbO).1.1.1.1.1.1.1.1.1.1.1.1.1.1.1.1.1.1.1.1.1.1.2
      have hVO := (HK.out _ hbO).1.1.1.1.1.1.1.1.1.1.1.1.1.1.1.1.1.1.1.1.1.2
      have hOlt : w1.heap.size < w14.heap.size ∧ (w1.heap.size + 1) < w14.heap.size := ⟨row_here ((HK.out _ (Below.refl _ _)).1.1.1.1.1.1.1.1.1.1.1.1.1.1.1.1.1.1.1.1.1.1.2), row_here ((HK.out _ (Below.refl _ _)).1.1.1.1.1.1.1.1.1.1.1.1.1.1.1.1.1.1.1.1.1.2)⟩
      generalize w14.alloc (.cells #[.int .i64 ca, .int .i64 co, .int .i64 cmh, .int .i64 cml, .int .i64 cvh, .int .i64 cvl] 26) = wo at *
      clear c0 c1 c2 c3 c4 c5
      obtain ⟨m, rfl⟩ := Int.eq_ofNat_of_zero_le (show 0 ≤ co by omega)
      have hm7 : m < 7 := by omega
      have hm1 : 1 ≤ m := by omega
      have c1 := row_cell hCO 1
      have o0 := row_cell hO 0
      have o1 := row_cell hO 1
      have o2 := row_cell hO 2
      have o3 := row_cell hO 3
      have o4 := row_cell hO 4
      have o5 := row_cell hO 5
      have of1 := frozen_row hO 1
      simp only [List.getElem?_toArray, List.getElem?_cons_zero, List.getElem?_cons_succ] at c1 o0 o1 o2 o3 o4 o5
      have hlit : (wo.alloc (.cells #[.int .i64 0, .int .i64 2, .int .i64 1, .int .i64 6, .int .i64 5, .int .i64 4, .int .i64 3] 2)).cell? ⟨wo.heap.size, m, none⟩ = some (.int .i64 (oppo (m : Int))) := by
        rw [World.cell?_alloc_at _ _ _ _ rfl]
        rcases (by omega : m = 1 ∨ m = 2 ∨ m = 3 ∨ m = 4 ∨ m = 5 ∨ m = 6) with rfl | rfl | rfl | rfl | rfl | rfl <;> rfl
      have hmI : (m : Int) < 7 := by omega
      have hOo : w14.heap.size < wo.heap.size := row_here hO
      have hCo : w1.heap.size < wo.heap.size := row_here hCO
      obtain ⟨op, hop'⟩ : ∃ op, op = oppo (m : Int) := ⟨_, rfl⟩
      rw [← hop'] at hlit HQ
      clear hop'
      go_upto_region 17 with fail
      have hOp := row_alloc (row_put hO 1 (.int .i64 op)) (.cells #[.int .i64 0, .int .i64 2, .int .i64 1, .int .i64 6, .int .i64 5, .int .i64 4, .int .i64 3] 2)
      simp only [List.setIfInBounds_toArray, List.set_cons_zero, List.set_cons_succ] at hOp
      have hVp := row_alloc (row_other hVO 1 (.int .i64 op) (h := w14.heap.size) (Nat.ne_of_lt hOlt.2)) (.cells #[.int .i64 0, .int .i64 2, .int .i64 1, .int .i64 6, .int .i64 5, .int .i64 4, .int .i64 3] 2)
      have hbP : Below w14.heap.size w14 ((wo.setCell ⟨w14.heap.size, 1, none⟩ (.int .i64 op)).alloc (.cells #[.int .i64 0, .int .i64 2, .int .i64 1, .int .i64 6, .int .i64 5, .int .i64 4, .int .i64 3] 2)) := k_al (hbO.setCell (p := ⟨w14.heap.size, 1, none⟩) (Nat.le_refl _) _) _
      generalize ((wo.setCell ⟨w14.heap.size, 1, none⟩ (.int .i64 op)).alloc (.cells #[.int .i64 0, .int .i64 2, .int .i64 1, .int .i64 6, .int .i64 5, .int .i64 4, .int .i64 3] 2)) = wp at *
      clear c1 o0 o1 o2 o3 o4 o5 of1 hlit hCO hVO hO
      have o0 := row_cell hOp 0
      have o1 := row_cell hOp 1
      have o2 := row_cell hOp 2
      have o3 := row_cell hOp 3
      have o4 := row_cell hOp 4
      have o5 := row_cell hOp 5
      have d0 := row_cell hVp 0
      have d1 := row_cell hVp 1
      simp only [List.getElem?_toArray, List.getElem?_cons_zero, List.getElem?_cons_succ] at o0 o1 o2 o3 o4 o5 d0 d1
      clear hOp hVp hbO
      have HBP := Lib.hid hbP
      clear hbP
      go_wp2_with fail
      refine (HQ.out _).mono ?_
      rintro e z ⟨rfl, hb⟩
      have HBP := Lib.hid (k_chain HBP.out hb)
      have nh : ((!hc) == hc) = false := by cases hc <;> rfl
      clear hb o0 o1 o2 o3 o4 o5 d0 d1
      go_wp2_with fail
      go_meet
      exact HBP.out
  case rest =>
  generalize wc = w15 at *
  have hbW := hcut
  clear hcut HB14 HHC
  have HB := Lib.hid (k_chain HB.out hbW)
  have HK := Lib.hid (fun (W : World) (h : Below w15.heap.size w15 W) => HK.out W (k_chain hbW h))
  clear hbW
  go_upto_region 19 with fail
  have HQ := Lib.hid (drawDecide_any a1 len1 cap1 _ (codeAt_up HC1.out HB.out (Nat.le_refl _)))
  go_wp2_with fail
  refine HQ.out.mono ?_
  rintro e w8 ⟨uar, udf, ubd, uu, ul, ⟨yn, ya, ⟨yh, yl⟩, ys⟩, yu, rfl, huv, hyv, hb⟩
  obtain ⟨ua, ucap, rfl⟩ : ∃ a c, uu = .slice a ul.length c := by obtain ⟨a, c, q, _⟩ := huv.len; exact ⟨a, c, q⟩
  simp only at hyv
  obtain ⟨ysa, ycap, rfl⟩ : ∃ a c, yu = .slice a ys.length c := by obtain ⟨a, c, q, _⟩ := LAt.len hyv; exact ⟨a, c, q⟩
  have hr := two_rows (w := w8) #[.int .i64 uar, .int .i64 udf, .int .i64 ubd, .slice ua ul.length ucap] #[.int .i64 yn, .int .i64 ya, .int .i64 yh, .int .i64 yl, .slice ysa ys.length ycap] 32 45
  have hstep := k_chain hb hr.2.2
  have HK := Lib.hid (fun (W : World) (h : Below ((w8.alloc (.cells #[.int .i64 uar, .int .i64 udf, .int .i64 ubd, .slice ua ul.length ucap] 32)).alloc (.cells #[.int .i64 yn, .int .i64 ya, .int .i64 yh, .int .i64 yl, .slice ysa ys.length ycap] 45)).heap.size ((w8.alloc (.cells #[.int .i64 uar, .int .i64 udf, .int .i64 ubd, .slice ua ul.length ucap] 32)).alloc (.cells #[.int .i64 yn, .int .i64 ya, .int .i64 yh, .int .i64 yl, .slice ysa ys.length ycap] 45)) W) => And.intro (And.intro (And.intro (And.intro (HK.out W (k_chain hstep h)) (keep_row h hr.1)) (keep_row h hr.2.1)) (rv_to huv (k_chain hr.2.2 h))) (wd_to hyv (k_chain hr.2.2 h)))
  have HB := Lib.hid (k_chain HB.out hstep)
  clear hr hstep hb HQ huv hyv
  go_upto_region 20 with fail
  generalize ((w8.alloc (.cells #[.int .i64 uar, .int .i64 udf, .int .i64 ubd, .slice ua ul.length ucap] 32)).alloc (.cells #[.int .i64 yn, .int .i64 ya, .int .i64 yh, .int .i64 yl, .slice ysa ys.length ycap] 45)) = v8 at *
  have hr := (HK.out _ (Below.refl _ _)).1.1.1.1.1.1.1.1.1.1.1.1.1.1.1.1.1.1.1.1.2
  have x4 := row_cell hr 4
  clear hr
  simp only [List.getElem?_toArray, List.getElem?_cons_zero, List.getElem?_cons_succ] at x4
  by_cases hx0 : xc = 0
  rotate_left
  · have ex : (xc != 0) = true := by simpa using hx0
    clear hx0
    go_wp2_with fail
    go_ret
    exact ⟨rfl, HB.out⟩
  have ex : (xc != 0) = false := by simpa using hx0
  have HX0 := Lib.hid hx0
  clear hx0
  have hr := (HK.out _ (Below.refl _ _)).1.1.2
  have k0 := row_cell hr 0
  have k1 := row_cell hr 1
  have k2 := row_cell hr 2
  have k3 := row_cell hr 3
  have k4 := row_cell hr 4
  clear hr
  simp only [List.getElem?_toArray, List.getElem?_cons_zero, List.getElem?_cons_succ] at k0 k1 k2 k3 k4
  have hq := specRecordRight_any ⟨yn, ya, ⟨yh, yl⟩, ys⟩ _ v8 ((HK.out _ (Below.refl _ _)).2)
  cases hrr : rcRight ⟨yn, ya, ⟨yh, yl⟩, ys⟩ <;> rw [hrr] at hq
  · have HQ := Lib.hid hq
    clear hq hrr
    go_wp2_with fail
    refine HQ.out.mono ?_
    rintro e z ⟨rfl, hb⟩
    have HZ := Lib.hid (k_chain HB.out hb)
    clear hb HQ x4 k0 k1 k2 k3 k4
    go_wp2_with fail
    go_ret
    exact ⟨rfl, HZ.out⟩
  have HQ := Lib.hid hq
  have HRR := Lib.hid hrr
  clear hq hrr
  go_wp2_with fail
  refine HQ.out.mono ?_
  rintro e z20 ⟨rfl, hbW⟩
  have HB := Lib.hid (k_chain HB.out hbW)
  have HK := Lib.hid (fun (W : World) (h : Below z20.heap.size z20 W) => HK.out W (k_chain hbW h))
  clear hbW HQ ex x4 k0 k1 k2 k3 k4
  go_upto_region 22 with fail
  obtain ⟨dw, hdw⟩ : ∃ n, n = polDecide ⟨par, pdf, pbd, rls pl⟩ ⟨yn, ya, ⟨yh, yl⟩, ys⟩ := ⟨_, rfl⟩
  obtain ⟨di, hdi⟩ : ∃ n, n = polDecide ⟨xar, xdf, xbd, rls xl⟩ ⟨yn, ya, ⟨yh, yl⟩, ys⟩ := ⟨_, rfl⟩
  have HMORE := Lib.hid (fun (hne : dw ≠ di) => (by
    have hadd : polAdd ⟨par, pdf, pbd, rls pl⟩ ⟨rnr, rac, rcs⟩ = (⟨xar, xdf, xbd, rls xl⟩, 0) := by rw [← HPC.out, HXL.out, HX0.out]
    have h := decide_more ⟨yn, ya, ⟨yh, yl⟩, ys⟩ hadd HRR.out (by rw [← hdw, ← hdi]; exact hne)
    rw [← hdw, ← hdi] at h
    exact h : rlHolds ⟨rnr, rac, rcs⟩ ⟨yn, ya, ⟨yh, yl⟩, ys⟩ = true ∧ di = rac ∧ (dw = pdf ∨ di ≤ dw)))
  have HTURN := Lib.hid (show polDecide ⟨xar, xdf, xbd, (rls xl).reverse⟩ ⟨yn, ya, ⟨yh, yl⟩, ys⟩ = di by rw [hdi]; exact decide_turned ⟨xar, xdf, xbd, rls xl⟩ ⟨yn, ya, ⟨yh, yl⟩, ys⟩)
  have HDW := Lib.hid hdw
  have HDI := Lib.hid hdi
  clear hdw hdi
  have hbw0 : Below z20.heap.size z20 z20.drew := (Below.refl _ _).drew
  go_cut [23, 24] from 180 to 186 (fun t u ws => t = .int .i64 dw ∧ u = .int .i64 di ∧ Below z20.heap.size z20 ws)
  case first =>
    go_wp2_with fail
    refine wp_region_noPanic ?_
    refine wp_region_held_drew (S := fun w' => Below z20.heap.size z20 w') (by kernel_rfl) ?_ (fun hHeld => ?_)
    · exact hbw0
    refine wpAnyH_take (i := 0) (v := ?qv54) rfl (by kernel_rfl) (by kernel_rfl) (by kernel_rfl) (fun _ _ _ h => h) (Or.inl ⟨by rfl, ?qhy54⟩) (by assumption) ?qrest54
    case qhy54 =>
      intro W hSw
      have hr := (HK.out _ hSw).1.1.1.1.1.1.1.1.1.1.1.1.1.1.1.1.1.1.1.1.1.1.1.1.2
      have c0 := row_cell hr 0
      have c1 := row_cell hr 1
      have c2 := row_cell hr 2
      have c3 := row_cell hr 3
      simp only [List.getElem?_toArray, List.getElem?_cons_zero, List.getElem?_cons_succ] at c0 c1 c2 c3
      clear hr
      go_simp
      try with_reducible rfl
    try simp only [Act.put, List.getElem_toArray, List.getElem_cons_zero, List.getElem_cons_succ, List.setIfInBounds_toArray, List.set_cons_zero, List.set_cons_succ]
    refine wpAnyH_take (i := 1) (v := ?qv55) rfl (by kernel_rfl) (by kernel_rfl) (by kernel_rfl) (fun _ _ _ h => h) (Or.inl ⟨by rfl, ?qhy55⟩) (by assumption) ?qrest55
    case qhy55 =>
      intro W hSw
      have hr := (HK.out _ hSw).1.1.2
      have c0 := row_cell hr 0
      have c1 := row_cell hr 1
      have c2 := row_cell hr 2
      have c3 := row_cell hr 3
      have c4 := row_cell hr 4
      simp only [List.getElem?_toArray, List.getElem?_cons_zero, List.getElem?_cons_succ] at c0 c1 c2 c3 c4
      clear hr
      go_simp
      try with_reducible rfl
    try simp only [Act.put, List.getElem_toArray, List.getElem_cons_zero, List.getElem_cons_succ, List.setIfInBounds_toArray, List.set_cons_zero, List.set_cons_succ]
    refine wpAnyH_take (i := 3) (v := ?qv56) rfl (by kernel_rfl) (by kernel_rfl) (by kernel_rfl) (fun _ _ _ h => h) (Or.inl ⟨by rfl, ?qhy56⟩) (by assumption) ?qrest56
    case qhy56 =>
      intro W hSw
      go_simp
      try with_reducible rfl
    try simp only [Act.put, List.getElem_toArray, List.getElem_cons_zero, List.getElem_cons_succ, List.setIfInBounds_toArray, List.set_cons_zero, List.set_cons_succ]
    refine wpAnyH_take (i := 4) (v := ?qv57) rfl (by kernel_rfl) (by kernel_rfl) (by kernel_rfl) (fun _ _ _ h => h) (Or.inl ⟨by rfl, ?qhy57⟩) (by assumption) ?qrest57
    case qhy57 =>
      intro W hSw
      have hr := (HK.out _ hSw).1.1.1.1.1.1.1.1.1.1.1.1.1.1.1.1.1.1.1.1.2
      have c0 := row_cell hr 0
      have c1 := row_cell hr 1
      have c2 := row_cell hr 2
      have c3 := row_cell hr 3
      have c4 := row_cell hr 4
      simp only [List.getElem?_toArray, List.getElem?_cons_zero, List.getElem?_cons_succ] at c0 c1 c2 c3 c4
      clear hr
      go_simp
      try with_reducible rfl
    try simp only [Act.put, List.getElem_toArray, List.getElem_cons_zero, List.getElem_cons_succ, List.setIfInBounds_toArray, List.set_cons_zero, List.set_cons_succ]
    refine wpAnyH_take (i := 5) (v := ?qv58) rfl (by kernel_rfl) (by kernel_rfl) (by kernel_rfl) (fun _ _ _ h => h) (Or.inl ⟨by rfl, ?qhy58⟩) (by assumption) ?qrest58
    case qhy58 =>
      intro W hSw
      have hr := (HK.out _ hSw).1.1.2
      have c0 := row_cell hr 0
      have c1 := row_cell hr 1
      have c2 := row_cell hr 2
      have c3 := row_cell hr 3
      have c4 := row_cell hr 4
      simp only [List.getElem?_toArray, List.getElem?_cons_zero, List.getElem?_cons_succ] at c0 c1 c2 c3 c4
      clear hr
      go_simp
      try with_reducible rfl
    try simp only [Act.put, List.getElem_toArray, List.getElem_cons_zero, List.getElem_cons_succ, List.setIfInBounds_toArray, List.set_cons_zero, List.set_cons_succ]
    have hq := implDecide_any par pdf pbd pl yn ya yh yl ys _ _ z20.drew ((HK.out _ hbw0).1.1.1.1.1.1.1.1.1.1.1.1.1.1.1.1.1.1.1.1.1.1.2) ((HK.out _ hbw0).2)
    rw [← HDW.out] at hq
    have HQ := Lib.hid hq
    clear hq
    refine wpAnyH_ready (rs := [2]) (by kernel_rfl) (by simp) ?_
    refine AllReadyH.cons rfl (fun K hK => ?_) AllReadyH.nil
    go_simp
    refine HQ.out.mono ?_
    rintro e y1 ⟨rfl, hb⟩
    have hbw1 := k_chain hbw0 hb
    clear hb HQ hbw0
    go_wp2_with fail
    refine hK.out _ _ ?_ (fun hHeld => ?_)
    · exact hbw1
    clear hK K
    try simp only [Act.put, List.getElem_toArray, List.getElem_cons_zero, List.getElem_cons_succ, List.setIfInBounds_toArray, List.set_cons_zero, List.set_cons_succ]
    have hq := implDecide_any xar xdf xbd xl yn ya yh yl ys _ _ y1 ((HK.out _ hbw1).1.1.1.1.1.1.1.1.1.1.1.1.1.1.1.1.1.1.1.2) ((HK.out _ hbw1).2)
    rw [← HDI.out] at hq
    have HQ := Lib.hid hq
    clear hq
    refine wpAnyH_ready (rs := [6]) (by kernel_rfl) (by simp) ?_
    refine AllReadyH.cons rfl (fun K hK => ?_) AllReadyH.nil
    go_simp
    refine HQ.out.mono ?_
    rintro e y2 ⟨rfl, hb⟩
    have hbw2 := k_chain hbw1 hb
    clear hb HQ hbw1
    go_wp2_with fail
    refine hK.out _ _ ?_ (fun hHeld => ?_)
    · exact hbw2
    clear hK K
    try simp only [Act.put, List.getElem_toArray, List.getElem_cons_zero, List.getElem_cons_succ, List.setIfInBounds_toArray, List.set_cons_zero, List.set_cons_succ]
    refine wpAnyH_take (i := 7) (v := ?qv59) rfl (by kernel_rfl) (by kernel_rfl) (by kernel_rfl) (fun _ _ _ h => h) (Or.inl ⟨by rfl, ?qhy59⟩) (by assumption) ?qrest59
    case qhy59 =>
      intro W hSw
      go_simp
      try with_reducible rfl
    try simp only [Act.put, List.getElem_toArray, List.getElem_cons_zero, List.getElem_cons_succ, List.setIfInBounds_toArray, List.set_cons_zero, List.set_cons_succ]
    refine wpAnyH_take (i := 8) (v := ?qv60) rfl (by kernel_rfl) (by kernel_rfl) (by kernel_rfl) (fun _ _ _ h => h) (Or.inl ⟨by rfl, ?qhy60⟩) (by assumption) ?qrest60
    case qhy60 =>
      intro W hSw
      go_simp
      try with_reducible rfl
    try simp only [Act.put, List.getElem_toArray, List.getElem_cons_zero, List.getElem_cons_succ, List.setIfInBounds_toArray, List.set_cons_zero, List.set_cons_succ]
    refine wpAnyH_done (by kernel_rfl) ?_ _
    refine NoPanic.normal ?_
    go_wp2_with fail
    go_meet
    exact ⟨rfl, rfl, hbw2⟩
  case rest =>
  generalize wc = w22 at *
  obtain ⟨rfl, rfl, hbW⟩ := hcut
  clear hbw0
  have HB := Lib.hid (k_chain HB.out hbW)
  have HK := Lib.hid (fun (W : World) (h : Below w22.heap.size w22 W) => HK.out W (k_chain hbW h))
  clear hbW
  go_upto_region 23 with fail
  go_cut [212] from 187 to 211 (fun t ws => t = .bool false ∧ Below w22.heap.size w22 ws)
  case first =>
    by_cases hne : dw = di
    · have e1 : (dw != di) = false := by simpa using hne
      clear hne
      go_wp2_with fail
      go_meet
      exact ⟨rfl, Below.refl _ _⟩
    have e1 : (dw != di) = true := by simpa using hne
    obtain ⟨hh, hdr, hless⟩ := HMORE.out hne
    clear hne
    have hr := (HK.out _ (Below.refl _ _)).1.1.1.1.1.1.1.1.1.1.1.1.1.1.1.1.1.1.1.1.1.1.1.2
    have r0 := row_cell hr 0
    have r1 := row_cell hr 1
    have r2 := row_cell hr 2
    clear hr
    simp only [List.getElem?_toArray, List.getElem?_cons_zero, List.getElem?_cons_succ] at r0 r1 r2
    have hr := (HK.out _ (Below.refl _ _)).1.1.2
    have k0 := row_cell hr 0
    have k1 := row_cell hr 1
    have k2 := row_cell hr 2
    have k3 := row_cell hr 3
    have k4 := row_cell hr 4
    clear hr
    simp only [List.getElem?_toArray, List.getElem?_cons_zero, List.getElem?_cons_succ] at k0 k1 k2 k3 k4
    have hq := specRuleHolds_any rnr rac rcs yn ya yh yl ys _ _ w22 ((HK.out _ (Below.refl _ _)).1.1.1.1.1.1.1.1.1.1.1.1.1.1.1.1.1.1.1.1.1.2) ((HK.out _ (Below.refl _ _)).2)
    rw [hh] at hq
    have HQ := Lib.hid hq
    have HDR := Lib.hid hdr
    have HLS := Lib.hid hless
    clear hq hh hdr hless
    go_wp2_with fail
    refine HQ.out.mono ?_
    rintro e z ⟨rfl, hb⟩
    have HZ := Lib.hid hb
    clear hb HQ r0 r1 r2 k0 k1 k2 k3 k4
    have hr := (HK.out _ HZ.out).1.1.1.1.1.1.1.1.1.1.1.1.1.1.1.1.1.1.1.1.1.1.1.2
    have r1 := row_cell hr 1
    have hp := (HK.out _ HZ.out).1.1.1.1.1.1.1.1.1.1.1.1.1.1.1.1.1.1.1.1.1.1.1.1.2
    have p1 := row_cell hp 1
    simp only [List.getElem?_toArray, List.getElem?_cons_zero, List.getElem?_cons_succ] at r1 p1
    clear hr hp
    have e2 : (di != rac) = false := by simpa using HDR.out
    by_cases hd : dw = pdf
    · have e3 : (dw != pdf) = false := by simpa using hd
      clear hd
      go_wp2_with fail
      go_meet
      exact ⟨rfl, HZ.out⟩
    have e3 : (dw != pdf) = true := by simpa using hd
    have e4 : decide (dw < di) = false := not_less HLS.out hd
    clear hd
    go_wp2_with fail
    go_meet
    exact ⟨rfl, HZ.out⟩
  case rest =>
  generalize wc = w23 at *
  obtain ⟨rfl, hbW⟩ := hcut
  have HB := Lib.hid (k_chain HB.out hbW)
  have HK := Lib.hid (fun (W : World) (h : Below w23.heap.size w23 W) => HK.out W (k_chain hbW h))
  clear hbW HMORE
  have hr := (HK.out _ (Below.refl _ _)).1.1.1.1.1.1.1.1.1.1.1.1.1.1.1.1.1.1.1.1.2
  have x0 := row_cell hr 0
  have x1 := row_cell hr 1
  have x2 := row_cell hr 2
  have x3 := row_cell hr 3
  have x4 := row_cell hr 4
  clear hr
  simp only [List.getElem?_toArray, List.getElem?_cons_zero, List.getElem?_cons_succ] at x0 x1 x2 x3 x4
  go_upto_region 26 with fail
  have hstep := k_al (Below.refl w23.heap.size w23) (.cells #[.int .i64 xar, .int .i64 xdf, .int .i64 xbd, .slice none 0 0] 32)
  have hT := heap_alloc_new w23 (.cells #[.int .i64 xar, .int .i64 xdf, .int .i64 xbd, .slice none 0 0] 32)
  have hlen := ((HK.out _ (Below.refl _ _)).1.1.1.1.1.1.1.1.1.1.1.1.1.1.1.1.1.1.1.2).len
  obtain ⟨_, _, _, hlc, hcm⟩ := hlen
  unfold maxLen at hcm
  have hTlt : w23.heap.size + 1 ≤ (w23.alloc (.cells #[.int .i64 xar, .int .i64 xdf, .int .i64 xbd, .slice none 0 0] 32)).heap.size := by simp
  generalize (w23.alloc (.cells #[.int .i64 xar, .int .i64 xdf, .int .i64 xbd, .slice none 0 0] 32)) = w25 at *
  clear x0 x1 x2 x3 x4
  have hr := (HK.out _ hstep).1.1.1.1.1.1.1.1.1.1.1.1.1.1.1.1.1.1.1.1.2
  have x3 := row_cell hr 3
  have x4 := row_cell hr 4
  clear hr
  simp only [List.getElem?_toArray, List.getElem?_cons_zero, List.getElem?_cons_succ] at x3 x4
  have hlen' : xl.length ≤ 9223372036854775807 := by omega
  have HT := Lib.hid hT
  have HS25 := Lib.hid hstep
  clear hT hstep
  go_wp2_with fail
  go_loopw [26] (fun i wr => ∃ (k : Nat) (n : Int) (u : Value), k ≤ xl.length ∧ n = (k : Int) - 1 ∧ i = .int .i64 n ∧ Aside (wr.heap[w23.heap.size]? = some (.cells #[.int .i64 xar, .int .i64 xdf, .int .i64 xbd, u] 32 (0, 0)) ∧ OwnL 35 3 rvCells (w23.heap.size + 1) wr u (turnedFrom xl k) ∧ Below w23.heap.size w23 wr ∧ w23.heap.size + 1 ≤ wr.heap.size))
    (fun i _ => (intOf i + 1).toNat)
  case atStart => exact ⟨xl.length, _, _, Nat.le_refl _, rfl, rfl, HT.out, by rw [turned_end]; exact OwnL.nil _ _, HS25.out, hTlt⟩
  case round =>
    obtain ⟨k, n, u, hk, hn, rfl, hx⟩ := hrel
    obtain ⟨ta, tcap, rfl⟩ : ∃ a c, u = .slice a (turnedFrom xl k).length c := OwnL.slice hx.2.1
    have HX := Lib.hid hx
    clear hx
    clear x3 x4
    rcases k with _ | j
    · obtain rfl : n = -1 := by omega
      clear hn
      have t0 := row_cell HX.out.1 0
      have t1 := row_cell HX.out.1 1
      have t2 := row_cell HX.out.1 2
      have t3 := row_cell HX.out.1 3
      simp only [List.getElem?_toArray, List.getElem?_cons_zero, List.getElem?_cons_succ] at t0 t1 t2 t3
      have hr := (HK.out _ HX.out.2.2.1).1.1.2
      have k0 := row_cell hr 0
      have k1 := row_cell hr 1
      have k2 := row_cell hr 2
      have k3 := row_cell hr 3
      have k4 := row_cell hr 4
      clear hr
      simp only [List.getElem?_toArray, List.getElem?_cons_zero, List.getElem?_cons_succ] at k0 k1 k2 k3 k4
      have hq := implDecide_any xar xdf xbd (turnedFrom xl 0) yn ya yh yl ys _ _ wr (turned_rv ((HK.out _ HX.out.2.2.1).1.1.1.1.1.1.1.1.1.1.1.1.1.1.1.1.1.1.1.2) HX.out.2.1) ((HK.out _ HX.out.2.2.1).2)
      rw [turned_all, HTURN.out] at hq
      have HQ := Lib.hid hq
      clear hq
      have e5 : (di == di) = true := by simp
      go_wp2_with fail
      refine HQ.out.mono ?_
      rintro e z ⟨rfl, hb⟩
      have HZ := Lib.hid (k_chain HB.out (HX.out.2.2.1.trans (hb.mono HX.out.2.2.1.size)))
      clear hb
      go_wp2_with fail
      go_ret
      exact ⟨rfl, HZ.out⟩
    · obtain rfl : n = (j : Int) := by omega
      clear hn
      have hjl : j < xl.length := by omega
      have hjI : (j : Int) < (xl.length : Int) := by omega
      obtain ⟨⟨⟨qn, qc, qcs⟩, qv⟩, hxj⟩ : ∃ x, xl[j]? = some x := ⟨_, List.getElem?_eq_getElem hjl⟩
      have hv := (HK.out _ HX.out.2.2.1).1.1.1.1.1.1.1.1.1.1.1.1.1.1.1.1.1.1.1.2
      obtain ⟨b, o, hxa, hbb, q0, q1, q2, _⟩ := RvAt.place hv hxj
      obtain ⟨qa, qcap, rfl⟩ : ∃ a c, qv = .slice a qcs.length c := by obtain ⟨a, c, q, _⟩ := LAt.len (hv.2 _ (List.mem_of_getElem? hxj)); exact ⟨a, c, q⟩
      have hXr := (HK.out _ HX.out.2.2.1).1.1.1.1.1.1.1.1.1.1.1.1.1.1.1.1.1.1.1.1.2
      have x3 := row_cell hXr 3
      have t3 := row_cell HX.out.1 3
      simp only [List.getElem?_toArray, List.getElem?_cons_zero, List.getElem?_cons_succ] at x3 t3
      clear hXr hv
      have hl24 : xl.length ≤ 24 := by
        have h2 := polAdd_right (p := ⟨par, pdf, pbd, rls pl⟩) (r := ⟨rnr, rac, rcs⟩) (by rw [← HPC.out]; exact HX0.out)
        rw [← HPC.out] at h2
        exact (polRight_rules (ar := xar) (df := xdf) (bd := xbd) (l := xl) (by rw [HXL.out]; exact h2)).1
      have htl := turned_length xl (j + 1)
      have htn : (turnedFrom xl (j + 1)).length ≤ 1000 := by omega
      obtain ⟨v', w', hrun, hown', hg⟩ := run_push_rv wr.drew qn qc qcs qa qcap 30 (w23.heap.size + 1) (.slice ta (turnedFrom xl (j + 1)).length tcap) (turnedFrom xl (j + 1)) (OwnL.below HX.out.2.1 (Below.refl _ _).drew) (by omega) HX.out.2.2.2
      obtain ⟨va, vcap, rfl⟩ : ∃ a c, v' = .slice a (turnedFrom xl (j + 1) ++ [(⟨⟨qn, qc, qcs⟩, .slice qa qcs.length qcap⟩ : Rv)]).length c := OwnL.slice hown'
      have hnx := turned_next hxj
      rw [← hnx] at hown' hrun hg
      have hTr : w'.heap[w23.heap.size]? = some (.cells #[.int .i64 xar, .int .i64 xdf, .int .i64 xbd, .slice ta (turnedFrom xl (j + 1)).length tcap] 32 (0, 0)) := row_grown (w := wr.drew) HX.out.1 hg.1 (fun e => by have := (OwnL.lt HX.out.2.1 _ e).1; omega)
      have hbw : Below w23.heap.size w23 w' := GrB.below (w := wr.drew) HX.out.2.2.1.drew hg (by have := HX.out.2.2.2; show w23.heap.size ≤ wr.heap.size; omega) (fun k hk => by have := (OwnL.lt HX.out.2.1 k hk).1; omega)
      have hsz : wr.heap.size ≤ w'.heap.size := hg.1.size
      have c6 := row_cell hTr 3
      have f6 := frozen_row hTr 3
      simp only [List.getElem?_toArray, List.getElem?_cons_zero, List.getElem?_cons_succ] at c6
      have HR := Lib.hid (And.intro (row_put hTr 3 (.slice va (turnedFrom xl j).length vcap)) (And.intro (OwnL.setBelow hown' (a := ⟨w23.heap.size, 3, none⟩) (Nat.lt_succ_self _) (.slice va (turnedFrom xl j).length vcap)) (And.intro (hbw.setCell (p := ⟨w23.heap.size, 3, none⟩) (Nat.le_refl _) (.slice va (turnedFrom xl j).length vcap)) (show w23.heap.size + 1 ≤ (w'.setCell ⟨w23.heap.size, 3, none⟩ (.slice va (turnedFrom xl j).length vcap)).heap.size by have := HX.out.2.2.2; simp [World.setCell]; omega))))
      simp only [List.setIfInBounds_toArray, List.set_cons_zero, List.set_cons_succ] at HR
      have hTw : w23.heap.size < wr.heap.size := by have := HX.out.2.2.2; omega
      have HRUN := Lib.hid hrun
      clear hrun hown' hg hTr hbw hnx htl htn hxj hl24
      subst hxa
      go_wp2_with fail
      go_region_law ((refine step_append_run (by rfl) _ _ (by rfl) (by rfl) (by rfl) HRUN.out ?_))
      all_goals
        go_wp2_with fail
        go_roundw
        case rel => exact ⟨j, (j : Int) - 1, _, by omega, rfl, rfl, HR.out⟩
        case measure => simp [intOf] <;> omega

set_option maxRecDepth 100000 in
theorem lifted (os : Os) (started : os.Started) (H : Type) (enc : TypeId × Value → H) :
    ReturnsInHanded {} Try.checked os 3 .any (Rows.fnRuleSpec.pre6 enc Try.prog Try.f3 Rows.fnRuleRow.domain false) (Rows.fnRuleSpec.post enc Try.prog Try.f3 false true false false) := by
  refine returnsInHanded_of_change (C := Try.checked) own started (by kernel_rfl) Try.func3
    (ChangeSpec.witness6 (enc := enc) (C := Try.checked) false ⟨#[], #[.slice none 0 0, .slice none 0 0], []⟩ 8 (by kernel_rfl) (by kernel_rfl) (by kernel_rfl) (by kernel_rfl)) ?_
  intro W base args ds gs before hval0 hW hcnd _
  have hval : ∀ (j : Nat) t v, Try.f3.params[j]? = some t → args[j]? = some v → Value.okWide Try.prog W .any base t v := hval0
  have hW' := hW
  obtain ⟨p, q, hA0, hV, rfl, hfz, hnd⟩ := hW
  have hA : DataW.TrodAll enc Try.prog W 0 (fun _ => true) true Try.f3.params.toList args.toList ds p := hA0
  rw [Try.params3] at hA hval
  obtain ⟨v0, vs0, d0, ds0, p0, q0, hargs, rfl, rfl, h0, r0⟩ := trodAll_cons hA
  obtain ⟨v1, vs1, d1, ds1, p1, q1, rfl, rfl, rfl, h1, r1⟩ := trodAll_cons r0
  obtain ⟨rfl, rfl, rfl⟩ := trodAll_nil r1
  obtain rfl : args = #[v0, v1] := by cases args; simp_all
  obtain ⟨rfl, rfl⟩ := trodVars_none hV
  obtain ⟨a0, len0, cap0, rfl⟩ := okWide_slice Try.underlying22 (hval 0 22 v0 rfl rfl)
  have k0 := h0
  have lt0 : ∀ x ∈ p0, x.block < W.heap.size := by obtain ⟨m, hm⟩ := k0; exact DataW.trod_lt m _ _ _ hm
  obtain ⟨z0, w0⟩ : ∃ zs, IsRow .u8 W a0 len0 cap0 zs := by
    obtain ⟨fuel, hf⟩ := h0
    rcases open_ints Try.underlying22 Try.underlying5 (by kernel_rfl) hf with ⟨hcs, _⟩ | ⟨x, l, c, zs, hcs, _, hl, hm, hz, _, hcell, hwz⟩
    · simp [Value.cells] at hcs
      obtain ⟨rfl, rfl, rfl⟩ := hcs
      exact ⟨[], .inl ⟨rfl, rfl, rfl, rfl⟩⟩
    · simp [Value.cells] at hcs
      obtain ⟨rfl, rfl, rfl⟩ := hcs
      exact ⟨zs, .inr ⟨_, rfl, hl, hm, by simpa using hz, hcell, hwz⟩⟩
  obtain ⟨a1, len1, cap1, rfl⟩ := okWide_slice Try.underlying22 (hval 1 22 v1 rfl rfl)
  have k1 := h1
  have lt1 : ∀ x ∈ p1, x.block < W.heap.size := by obtain ⟨m, hm⟩ := k1; exact DataW.trod_lt m _ _ _ hm
  obtain ⟨z1, w1⟩ : ∃ zs, IsRow .u8 W a1 len1 cap1 zs := by
    obtain ⟨fuel, hf⟩ := h1
    rcases open_ints Try.underlying22 Try.underlying5 (by kernel_rfl) hf with ⟨hcs, _⟩ | ⟨x, l, c, zs, hcs, _, hl, hm, hz, _, hcell, hwz⟩
    · simp [Value.cells] at hcs
      obtain ⟨rfl, rfl, rfl⟩ := hcs
      exact ⟨[], .inl ⟨rfl, rfl, rfl, rfl⟩⟩
    · simp [Value.cells] at hcs
      obtain ⟨rfl, rfl, rfl⟩ := hcs
      exact ⟨zs, .inr ⟨_, rfl, hl, hm, by simpa using hz, hcell, hwz⟩⟩
  clear hA0 hval0
  refine (walk a0 len0 cap0 z0 a1 len1 cap1 z1 W w0 w1).mono fun e W' ⟨he, bel⟩ => ?_
  subst he
  exact ⟨_, rfl, _, _, _, [], _, [], hW', trodAll_mk1 (shut_bool Try.underlying4 _), (trodAll_cons_mk (Below.trod laidOut (by kernel_rfl) (of_decide_eq_true (by kernel_rfl)) k0 bel lt0) (trodAll_cons_mk (Below.trod laidOut (by kernel_rfl) (of_decide_eq_true (by kernel_rfl)) k1 bel lt1) trodAll_mk0)), rfl, bel.frame _, fun h => by cases h⟩

theorem over : Rows.fnRuleRow.holds Try.pinned (OpenSpec.ofChange Rows.fnRuleSpec) :=
  OpenClaim.holds_of_wide 3 Try.f3 rfl rfl rfl rfl rfl rfl rfl ⟨rfl, rfl, rfl, rfl, rfl⟩ rfl rfl rfl rfl rfl (by kernel_rfl) Try.func3 (by kernel_rfl)
    (of_decide_eq_true (by kernel_rfl)) (by unfold Func.isWrapper; first | (rw [if_pos (by decide +kernel)]; kernel_rfl) | (rw [if_neg (by decide +kernel)]; exact ⟨rfl, rfl⟩))
    (fun os started H enc _ => lifted os started H enc)

theorem proved : Rows.FnRuleSaid := over
#print axioms proved
end Go.Proofs.Ytmnmaijifhojiaa.fnRule

/-
  FnExactProgParse: for every input that the row speaks of, the law returns true, and its arguments read afterwards as before. The row lists tables of Go's library with what they hold when the call begins; the card ties that to the program's text.
-/
import Derived.Test.YtibbcafhchoiiaaDoorCards
import Derived.Test.YtibbcafhchoiiaaDoorTie
import Derived.Test.YtibbcafhchoiiaaDoorRows
import Derived.Test.YtibbcafhchoiiaaDoorQk
import Derived.Test.YtibbcafhchoiiaaDoorMp
import Derived.Test.YtibbcafhchoiiaaDoorOs
import Derived.WalkKit
import Derived.ProofKit
import Derived.ChangeSame
import Derived.ChangeVars
import Derived.JoinedOf
import Derived.RowKitTokens
import Derived.LaidLaws
import Derived.LaidHandle
import Derived.LaidMore
import Derived.Stop.Joined
import Derived.Stop.LaidErr
import Derived.SevenTiedAt
import Derived.Lib.LaidTab
import Derived.HandedShaped
import Derived.OpenShut
import Derived.ShutString
import Derived.ChangeOld
import Derived.Below
set_option maxRecDepth 100000
namespace Go.Proofs.YtibbcafhchoiiaaDoor.fnExactProgParse
open Go.ChangeShapes Go.WideShapes Go.ChangeAt Go.RowKit
open Go.ChangeMaps (open_string shut_string)
set_option linter.unusedVariables false

theorem own : ownKnob Tryd.prog.godebug = none := by kernel_rfl
theorem laidOut : laidOutB Tryd.prog = true := by kernel_rfl

set_option maxHeartbeats 3200000 in
theorem walk (a0 : Value) (w : World) (w0 : IsStr w a0) (m : Int) (hm : w.cell? ⟨1, 0, none⟩ = some (.int .i64 m)) (h1 : 1 < w.heap.size) :
    Calls Tryd.prog 4 #[a0] w fun e w' => e = .returned (.bool true) ∧ Below w.heap.size w w' := by
  obtain ⟨s, rfl, hs⟩ := w0
  by_cases hb : 1048576 < s.size
  · unfold maxLen at hs
    go_enter Tryd.func4, Tryd.ntmps4
    go_wp2
    go_ret
    exact ⟨rfl, Below.refl _ _⟩
  have q1 := fun W => specProgParse_any s W hs
  have q2 := fun W hm1 h11 => implProgParse_any s m W hs hm1 h11
  unfold maxLen at hs
  have QA := Lib.hid q1
  have QB := Lib.hid q2
  have HM := Lib.hid hm
  clear q1 q2 hm
  go_enter Tryd.func4, Tryd.ntmps4
  go_wp2_with fail
  refine (QA.out _).mono ?_
  rintro e w1 ⟨l, c, u1, hres, rfl, ho1, hb1⟩
  have hwf := Lib.hid (parseRes_wf hres)
  have hlen := parseRes_len hres
  have q2 := fun W (hbw : Below w.heap.size w W) => (QB.out W ((hbw.cell (p := ⟨1, 0, none⟩) h1).trans HM.out) (Nat.lt_of_lt_of_le h1 hbw.size)).mono (fun e w' (h : ParseEnd W.heap.size s.data.toList W e w') => (parse_same hres h : ∃ u, e = .returned (.agg #[u, .int .i64 c, .int .i64 0]) ∧ InsOwn W.heap.size w' u l ∧ Below W.heap.size W w'))
  have Q2 := Lib.hid q2
  clear q2 hres QA QB
  obtain ⟨a1, cap1, rfl⟩ := ho1.slice
  have HB1 := Lib.hid hb1
  have HI1 := Lib.hid (ho1.insAt hwf.out)
  clear ho1 hb1
  go_wp2_with fail
  refine (Q2.out _ (HB1.out.alloc HB1.out.size _)).mono ?_
  rintro e w2 ⟨u2, rfl, ho2, hb2⟩
  obtain ⟨a2, cap2, rfl⟩ := ho2.slice
  have hp2 := (PoAt.new w1 (.slice a1 l.length cap1) c 30).below hb2
  have HP2 := Lib.hid hp2
  have HO2 := Lib.hid (ho2.base (b' := w1.heap.size + 1) (by simp))
  have HI2 := Lib.hid (ho2.insAt hwf.out)
  have HB2 := Lib.hid (HB1.out.trans ((box_below hb2).mono HB1.out.size))
  have HJ2 := Lib.hid (HI1.out.below (box_below hb2))
  have HS2 := Lib.hid (show w1.heap.size + 1 ≤ w2.heap.size by have := hb2.size; simpa using this)
  clear ho2 hb2
  obtain ⟨c0, c1, c2, hz⟩ := hp2
  go_wp2_with fail
  clear c0 c1 c2 hz
  have hal := (Below.refl w2.heap.size w2).alloc (Nat.le_refl _) (.cells #[.slice a2 l.length cap2, .int .i64 c, .int .i64 0] 30)
  refine (eqProgOut_same _ _ l _ _ _ ((HI2.out.below hal).up hal.size) ((HJ2.out.below (hal.mono (by have := HS2.out; omega))).up (by have := HS2.out; have := hal.size; omega))).mono ?_
  rintro e w3 ⟨rfl, hb3⟩
  have HP3 := Lib.hid ((HP2.out.alloc _).below hb3)
  have HR3 := Lib.hid ((PoAt.new w2 (.slice a2 l.length cap2) c 30).below hb3)
  have HO3 := Lib.hid ((HO2.out.below hal).below hb3)
  have hbx : Below w2.heap.size w2 w3 := box_below hb3
  have HB3 := Lib.hid (HB2.out.trans (hbx.mono HB2.out.size))
  have HJ3 := Lib.hid (HJ2.out.below (hbx.mono (by have := HS2.out; omega)))
  have HS3 := Lib.hid (show w1.heap.size + 1 ≤ w3.heap.size from Nat.le_trans HS2.out hbx.size)
  have HL2 := Lib.hid (HO2.out.lt)
  clear hb3 hbx hal
  obtain ⟨d0, d1, d2, hz⟩ := HR3.out
  go_wp2_with fail
  clear d0 d1 d2 hz
  refine (markProgOut_any _ _ l _ _ 1 _ HO3.out (by omega) (by omega) (by omega)).mono ?_
  rintro e w4 ⟨rfl, ho4, hg4⟩
  have hb4 : Below (w1.heap.size + 1) w3 w4 := (Below.refl _ _).grown hg4 HS3.out (fun k hk => (HO3.out.lt k hk).1)
  have HP4 := Lib.hid (HP3.out.grown hg4 (fun e => by have := (HL2.out _ e).1; omega))
  have HR4 := Lib.hid (HR3.out.grown hg4 (fun e => by have := (HL2.out _ e).2; omega))
  have HI4 := Lib.hid (ho4.insAt (markL_wf (k := 1) (n := l.length) (by omega) (by omega) (by omega)))
  have HB4 := Lib.hid (HB3.out.trans (hb4.mono (by have := HB1.out.size; omega)))
  have HJ4 := Lib.hid (HJ3.out.below (hb4.mono (by omega)))
  have HS4 := Lib.hid (Nat.le_trans HS3.out hb4.size)
  clear ho4 hg4 hb4
  obtain ⟨d0, d1, d2, hz⟩ := HR4.out
  go_wp2_with fail
  clear d0 d1 d2 hz
  refine (heldProgOut_any _ _ _ _ 1 _ HI4.out (by omega) (by omega) (by omega)).mono ?_
  rintro e w5 ⟨rfl, hb5⟩
  have HI5 := Lib.hid ((HI4.out.below hb5).up hb5.size)
  have HP5 := Lib.hid (HP4.out.below hb5)
  have HR5 := Lib.hid (HR4.out.below hb5)
  have HB5 := Lib.hid (HB4.out.trans (hb5.mono HB4.out.size))
  have HJ5 := Lib.hid (HJ4.out.below (hb5.mono (by have := HS4.out; omega)))
  have HS5 := Lib.hid (Nat.le_trans HS4.out hb5.size)
  clear hb5
  have hq : ((1 + 4 * (l.length : Int)) != (1 + 4 * (l.length : Int))) = false := by simp
  have hq0 : decide (1 + 4 * (l.length : Int) < 0) = false := by simp; omega
  go_wp2_with fail
  refine (Q2.out _ HB5.out).mono ?_
  rintro e w6 ⟨u6, rfl, ho6, hb6⟩
  obtain ⟨a6, cap6, rfl⟩ := ho6.slice
  have HI6 := Lib.hid (ho6.insAt hwf.out)
  have HP6 := Lib.hid (HP5.out.below hb6)
  have HR6 := Lib.hid (HR5.out.below hb6)
  have HB6 := Lib.hid (HB5.out.trans (hb6.mono HB5.out.size))
  have HJ6 := Lib.hid (HJ5.out.below (hb6.mono (by have := HS5.out; omega)))
  have HK6 := Lib.hid ((HI5.out.below hb6).up hb6.size)
  have HS6 := Lib.hid (Nat.le_trans HS5.out hb6.size)
  clear ho6 hb6
  obtain ⟨c0, c1, c2, hz⟩ := HP6.out
  go_wp2_with fail
  clear c0 c1 c2 hz
  have hal := (Below.refl w6.heap.size w6).alloc (Nat.le_refl _) (.cells #[.slice a6 l.length cap6, .int .i64 c, .int .i64 0] 30)
  refine (eqProgOut_same _ _ l _ _ _ ((HI6.out.below hal).up hal.size) ((HJ6.out.below (hal.mono (by have := HS6.out; omega))).up (by have := HS6.out; have := hal.size; omega))).mono ?_
  rintro e w7 ⟨rfl, hb7⟩
  have hbx : Below w6.heap.size w6 w7 := box_below hb7
  have HR7 := Lib.hid (HR6.out.below hbx)
  have HB7 := Lib.hid (HB6.out.trans (hbx.mono HB6.out.size))
  have HK7 := Lib.hid ((HK6.out.below hbx).up hbx.size)
  clear hb7 hbx hal
  obtain ⟨d0, d1, d2, hz⟩ := HR7.out
  go_wp2_with fail
  clear d0 d1 d2 hz
  refine (heldProgOut_any _ _ _ _ 1 _ HK7.out (by omega) (by omega) (by omega)).mono ?_
  rintro e w8 ⟨rfl, hb8⟩
  have HB8 := Lib.hid (HB7.out.trans (hb8.mono HB7.out.size))
  clear hb8
  go_wp2_with fail
  go_ret
  exact ⟨rfl, HB8.out⟩

/-- The cells of a table that the row lists. -/
def cells1 : DataW Unit → List Value
  | .lit (.int k n) => [.int k n]
  | _ => []
def cells2 : DataW Unit → List Value
  | .agg l => l.flatMap cells1
  | d => cells1 d
def cells3 : DataW Unit → List Value
  | .agg l => l.flatMap cells2
  | d => cells1 d
def laidIn (d : DataW Unit) : Obj → Obj
  | .cells _ t frozen => .cells (cells3 d).toArray t frozen
  | o => o
/-- A world for the witness: the settled one, the tables laid. -/
noncomputable def laidWorld (os : Os) : World :=
  { World.holding Tryd.prog os ⟨#[], #[], []⟩ with heap := (((World.holding Tryd.prog os ⟨#[], #[], []⟩).heap.modify 5 (laidIn Rows.laid_unicode_utf8_acceptRanges)).modify 4 (laidIn Rows.laid_unicode_utf8_first)) }
theorem laidWorld_met (os : Os) (args : Array Value) : laidMetH Tryd.prog Rows.fnExactProgParseRow.laid ((laidWorld os).forCall (fun _ _ => 0) ⟨#[], args, []⟩).memory :=
  laidMetH_of_parts (laidMet_of_run' 100 (by kernel_rfl) (by kernel_rfl)) (by kernel_rfl)

theorem max_shaped {W : World} (h : W.ShapedOpen Tryd.prog) : ∃ m, W.cell? ⟨1, 0, none⟩ = some (.int .i64 m) ∧ 1 < W.heap.size := by
  obtain ⟨m, hm⟩ := Tryd.laysM145.s1_3 W h
  have hm' : W.cell? ⟨1, 0, none⟩ = some (.int .i64 m) := hm
  exact ⟨m, hm', cell_here hm'⟩
/-- As the library's two laws of this name's halves: a fact of the world at the call (X), and that world's shape, both handed on. -/
theorem returnsInHanded_of_change_and_shaped {H : Type} {enc : TypeId × Value → H} {a : Assume} {C : Checked} {os : Os} {f : FuncId} {fn : Func} {s : ChangeSpec} {conds : List PathCond} {apart fresh handsOn again : Bool} {X : World → Array Value → Prop}
    (hX : ∀ (w w' : World) (args : Array Value), w.heap = w'.heap → X w args → X w' args)
    (own : ownKnob C.prog.godebug = none) (started : os.Started) (noInit : C.prog.inits.idxOf? f = none) (hfn : C.prog.funcs[f]? = some fn)
    (witness : ∃ (w : World) (tape : Tape) (i : Input), w.os = os ∧ (w.forCall tape i).Shaped C.prog ∧ i.vars = [] ∧ Input.okWide C.prog (w.forCall tape i) .any w.heap.size f i ∧
      ((s.pre enc C.prog fn conds apart (w.forCall tape i).memory i.args ∧ X (w.forCall tape i).memory i.args) ∧ sizedMet enc C.prog fn (OpenSpec.ofChange s) apart (w.forCall tape i).memory i.args) ∧ a.holds C.prog (lone (Frame.enter C.prog f i.args .normal) [] (w.forCall tape i)))
    (contract : ∀ (W : World) (base : Nat) (args : Array Value) (ds gs : List (DataW H)) (before : List MemPlace),
      (∀ (j : Nat) t v, fn.params[j]? = some t → args[j]? = some v → Value.okWide C.prog W .any base t v) →
      DataW.Whole enc C.prog fn.params.toList s.vars apart W args.toList ds gs before →
      conds.all (PathCond.test C.prog ⟨fn.params.toList, ds, s.plain.varTypes C.prog, gs⟩) = true →
      (DataW.weightsEach C.prog (fn.params.toList ++ s.plain.varTypes C.prog) (ds ++ gs)).all (· ≤ reachBytes) = true → X W args → W.ShapedOpen C.prog →
      a.holds C.prog (lone (Frame.enter C.prog f args .normal) [] W) →
      Calls C.prog f args W fun e W' => ∃ v, e = .returned v ∧ s.post enc C.prog fn apart fresh handsOn again W args v W') :
    ReturnsInHanded a C os f .any (fun w args => (s.pre enc C.prog fn conds apart w args ∧ X w args) ∧ sizedMet enc C.prog fn (OpenSpec.ofChange s) apart w args) (s.post enc C.prog fn apart fresh handsOn again) := by
  refine returnsInHanded_of_calls own started noInit witness ?_
  intro w tape i _ hsh _ hok hpre hholds
  obtain ⟨_, _, _, fn', hfn', _, _, _, _, hval⟩ := hok
  have e : fn' = fn := Option.some.inj (hfn'.symm.trans hfn)
  subst e
  obtain ⟨⟨⟨ds, gs, before, hw, hc⟩, hx⟩, hz⟩ := hpre
  have hw' := DataW.Whole.of_heap (w' := w.forCall tape i) (by rfl) hw
  refine (contract (w.forCall tape i) w.heap.size i.args ds gs before hval hw' hc (hz.weights hw) (hX _ _ _ (by rfl) hx) hsh hholds).mono fun e W' ⟨v, he, hp⟩ => ?_
  subst he
  exact ChangeSpec.post_blind hp

set_option maxRecDepth 100000 in
theorem lifted (os : Os) (started : os.Started) (H : Type) (enc : TypeId × Value → H) :
    ReturnsInHanded {} Tryd.checked os 4 .any (fun w args => (Rows.fnExactProgParseSpec.pre enc Tryd.prog Tryd.f4 [] false w args ∧ laidMetH Tryd.prog Rows.fnExactProgParseRow.laid w) ∧ sizedMet enc Tryd.prog Tryd.f4 (OpenSpec.ofChange Rows.fnExactProgParseSpec) false w args)
      (Rows.fnExactProgParseSpec.post enc Tryd.prog Tryd.f4 false true false false) := by
  refine returnsInHanded_of_change_and_shaped (C := Tryd.checked) (X := fun w _ => laidMetH Tryd.prog Rows.fnExactProgParseRow.laid w) (fun _ _ _ hh h => h.of_heap hh) own started (by kernel_rfl) Tryd.func4
    (ChangeSpec.witness_at (enc := enc) (C := Tryd.checked) (os := os) (X := fun w _ => laidMetH Tryd.prog Rows.fnExactProgParseRow.laid w) false (laidWorld os) #[.string ByteArray.empty] 8 rfl (by kernel_rfl) (by kernel_rfl) (by kernel_rfl) (by kernel_rfl) (by kernel_rfl) (laidWorld_met os _)) ?_
  intro W base args ds gs before hval0 hW _ _ hL hsh _
  have hval : ∀ (j : Nat) t v, Tryd.f4.params[j]? = some t → args[j]? = some v → Value.okWide Tryd.prog W .any base t v := hval0
  have hW' := hW
  obtain ⟨p, q, hA0, hV, rfl, hfz, hnd⟩ := hW
  have hA : DataW.TrodAll enc Tryd.prog W 0 (fun _ => true) true Tryd.f4.params.toList args.toList ds p := hA0
  rw [Tryd.params4] at hA hval
  obtain ⟨v0, vs0, d0, ds0, p0, q0, hargs, rfl, rfl, h0, r0⟩ := trodAll_cons hA
  obtain ⟨rfl, rfl, rfl⟩ := trodAll_nil r0
  obtain rfl : args = #[v0] := by cases args; simp_all
  obtain ⟨rfl, rfl⟩ := trodVars_none hV
  have lt0 : ∀ x ∈ p0, x.block < W.heap.size := by obtain ⟨m, hm⟩ := h0; exact DataW.trod_lt m _ _ _ hm
  have w0 := open_isStr (hval 0 9 v0 rfl rfl) h0
  clear hA0 hval0
  refine (walk v0 W w0 (max_shaped hsh).choose (max_shaped hsh).choose_spec.1 (max_shaped hsh).choose_spec.2).mono fun e W' ⟨he, bel⟩ => ?_
  subst he
  exact ⟨_, rfl, _, _, _, [], _, [], hW', trodAll_mk1 (shut_bool Tryd.underlying4 _), (trodAll_cons_mk (Below.trod laidOut (by kernel_rfl) (of_decide_eq_true (by kernel_rfl)) h0 bel lt0) trodAll_mk0), rfl, bel.frame _, fun h => by cases h⟩

theorem over : Rows.fnExactProgParseRow.holds Tryd.pinned (OpenSpec.ofChange Rows.fnExactProgParseSpec) :=
  OpenClaim.holds_of_wide 4 Tryd.f4 rfl rfl rfl rfl rfl rfl rfl ⟨rfl, rfl, rfl, rfl, rfl⟩ rfl rfl rfl rfl rfl (by kernel_rfl) Tryd.func4 (by kernel_rfl)
    (of_decide_eq_true (by kernel_rfl)) (by unfold Func.isWrapper; first | (rw [if_pos (by decide +kernel)]; kernel_rfl) | (rw [if_neg (by decide +kernel)]; exact ⟨rfl, rfl⟩))
    (fun os started H enc _ => lifted os started H enc)

/-- What the card asks of the parameters: none wants a stand-in. -/
theorem plain (f : FuncId) (fn : Func) (hf : Tryd.pinned.checked.prog.funcNamed "loop.example/s0083/laws.FnExactProgParse" = some f) (hfn : Tryd.pinned.checked.prog.funcs[f]? = some fn) :
    Rows.fnExactProgParseCard.stood.looks = Tryd.pinned.checked.prog.looks [] ∧ ∀ (j : Nat) t, fn.params[j]? = some t → Tryd.pinned.checked.prog.wantsStandIn t = false := by
  obtain rfl : f = 4 := Option.some.inj ((show Tryd.prog.funcNamed "loop.example/s0083/laws.FnExactProgParse" = some 4 by kernel_rfl).symm.trans hf) |>.symm
  obtain rfl : fn = Tryd.f4 := (Option.some.inj (Tryd.func4.symm.trans hfn)).symm
  refine ⟨by kernel_rfl, fun j t ht => ?_⟩
  rw [Tryd.params4] at ht
  have hm : t ∈ [9] := by simpa using Array.mem_of_getElem? ht
  have hall : ([9].all fun u => !Tryd.prog.wantsStandIn u) = true := by kernel_rfl
  exact (show Tryd.prog.wantsStandIn t = false by simpa using List.all_eq_true.1 hall t hm)

theorem proved : Rows.FnExactProgParseCardSaid :=
  Claim7.holds_tied_plain_at .later [] _ _ _ _ over (fun _ h => by cases h) (by kernel_rfl) (fun _ h => by cases h) fnExactProgParse_row_tie rfl ⟨rfl, rfl⟩ (by kernel_rfl) rfl plain (by kernel_rfl)
#print axioms proved
end Go.Proofs.YtibbcafhchoiiaaDoor.fnExactProgParse

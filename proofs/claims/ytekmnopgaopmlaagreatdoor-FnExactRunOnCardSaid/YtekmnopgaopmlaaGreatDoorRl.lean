/- A program run, walked in the model: l05Run. -/
import Derived.Test.YtekmnopgaopmlaaGreatDoorRv
import Derived.Test.YtekmnopgaopmlaaGreatDoorSq
import Derived.Deep.DeepCutAuto
import Derived.Deep.CutRange
import Derived.Deep.RegionLaw
import Derived.Deep.OwnRows
set_option maxRecDepth 100000
set_option linter.unusedSimpArgs false
set_option linter.unusedVariables false
namespace Go.Proofs.YtekmnopgaopmlaaGreatDoor
open Go.RowKit

theorem info_i64b : (Tryz.prog.info? 2).map (fun i => (i.zero, i.size, i.bytes)) = some (some (.int .i64 0), 1, 8) := by kernel_rfl
theorem info_boolb : (Tryz.prog.info? 4).map (fun i => (i.zero, i.size, i.bytes)) = some (some (.bool false), 1, 1) := by kernel_rfl
def ints16 : Array Value := #[.int .i64 0, .int .i64 0, .int .i64 0, .int .i64 0, .int .i64 0, .int .i64 0, .int .i64 0, .int .i64 0, .int .i64 0, .int .i64 0, .int .i64 0, .int .i64 0, .int .i64 0, .int .i64 0, .int .i64 0, .int .i64 0]
def bools16 : Array Value := #[.bool false, .bool false, .bool false, .bool false, .bool false, .bool false, .bool false, .bool false, .bool false, .bool false, .bool false, .bool false, .bool false, .bool false, .bool false, .bool false]
theorem make_ints (W : World) : (Instr.makeSlice 40 (.int .i64 16) (.int .i64 16)).run Tryz.prog W = .ok (.slice (some ⟨W.heap.size, 0, none⟩) 16 16) (W.alloc (.cells ints16 2)) := by
  have h := run_make_row' (P := Tryz.prog) 40 2 (.int .i64 0) 8 Tryz.underlying40 info_i64b rfl .i64 .i64 16 (by omega) (by omega) W
  rw [show madeCells #[Value.int .i64 0] 16 = ints16 by kernel_rfl] at h
  exact h
theorem make_bools (W : World) : (Instr.makeSlice 128 (.int .i64 16) (.int .i64 16)).run Tryz.prog W = .ok (.slice (some ⟨W.heap.size, 0, none⟩) 16 16) (W.alloc (.cells bools16 4)) := by
  have h := run_make_row' (P := Tryz.prog) 128 4 (.bool false) 1 Tryz.underlying128 info_boolb rfl .i64 .i64 16 (by omega) (by omega) W
  rw [show madeCells #[Value.bool false] 16 = bools16 by kernel_rfl] at h
  exact h
theorem alloc_new_at (W : World) (cs : Array Value) (T : TypeId) {n : Nat} (h : n = W.heap.size) : (W.alloc (.cells cs T)).heap[n]? = some (.cells cs T (0, 0)) := by subst h; exact heap_alloc_new W (.cells cs T)
theorem mat_new1 {W W1 W2 W3 : World} {n : Nat} (hn : n = W.heap.size) (h1 : W1 = W.alloc (.cells ints16 2)) (h2 : W2 = W1.alloc (.cells bools16 4))
    (h3 : W3 = W2.alloc (.cells #[.int .i64 0, .int .i64 0, .slice (some ⟨n, 0, none⟩) 16 16, .slice (some ⟨n + 1, 0, none⟩) 16 16] 130)) : MAt W3 (n + 1 + 1) n (n + 1) mc0 := by
  subst h3 h2 h1 hn
  exact ⟨alloc_new_at _ _ _ (by simp), row_alloc (row_alloc (alloc_new_at _ _ _ rfl) _) _, row_alloc (alloc_new_at _ _ _ (by simp)) _, by omega, by omega, by omega⟩
theorem mat_new2 {W W1 W2 W3 : World} {n : Nat} (hn : n = W.heap.size) (h1 : W1 = W.alloc (.cells bools16 4)) (h2 : W2 = W1.alloc (.cells ints16 2))
    (h3 : W3 = W2.alloc (.cells #[.int .i64 0, .int .i64 0, .slice (some ⟨n + 1, 0, none⟩) 16 16, .slice (some ⟨n, 0, none⟩) 16 16] 130)) : MAt W3 (n + 1 + 1) (n + 1) n mc0 := by
  subst h3 h2 h1 hn
  exact ⟨alloc_new_at _ _ _ (by simp), row_alloc (alloc_new_at _ _ _ (by simp)) _, row_alloc (row_alloc (alloc_new_at _ _ _ rfl) _) _, by omega, by omega, by omega⟩
/-! One step of the run. -/
theorem runM_end {l : List Ins} {b : ByteArray} {f k : Nat} {m : Mc} {st : Nat} (h : l.length ≤ k) : runM l b (f + 1) k m st = ⟨0, st, 4⟩ := by
  simp [runM, h]
theorem runM_noop {l : List Ins} {b : ByteArray} {f k : Nat} {m : Mc} {st : Nat} {i : Ins} (hi : l[k]? = some i) (h : isOp i.c = false) : runM l b (f + 1) k m st = ⟨0, (st + 1 : Nat), 3⟩ := by
  simp [runM, hi, h]
theorem runM_ret {l : List Ins} {b : ByteArray} {f k : Nat} {m : Mc} {st : Nat} {i : Ins} (hi : l[k]? = some i) (h : i.c = 6) : runM l b (f + 1) k m st = ⟨i.k, (st + 1 : Nat), 0⟩ := by
  simp [runM, hi, h, show isOp 6 = true by decide]
theorem runM_retA {l : List Ins} {b : ByteArray} {f k : Nat} {m : Mc} {st : Nat} {i : Ins} (hi : l[k]? = some i) (h : i.c = 22) : runM l b (f + 1) k m st = ⟨m.a, (st + 1 : Nat), 0⟩ := by
  simp [runM, hi, h, show isOp 22 = true by decide]
theorem runM_jump {l : List Ins} {b : ByteArray} {f k : Nat} {m : Mc} {st : Nat} {i : Ins} (hi : l[k]? = some i) (h : i.c = 5) : runM l b (f + 1) k m st = runM l b f (k + i.k.toNat + 1) m (st + 1) := by
  simp [runM, hi, h, show isOp 5 = true by decide]
theorem runM_look {l : List Ins} {b : ByteArray} {f k : Nat} {m : Mc} {st : Nat} {i : Ins} (hi : l[k]? = some i) (ho : isOp i.c = true) (h5 : i.c ≠ 5) (h6 : i.c ≠ 6) (h22 : i.c ≠ 22) (h : looksC i.c = true) :
    runM l b (f + 1) k m st = runM l b f (k + (if lookM m i then i.y else i.n).toNat + 1) m (st + 1) := by
  simp [runM, hi, ho, h5, h6, h22, h]
theorem runM_do {l : List Ins} {b : ByteArray} {f k : Nat} {m : Mc} {st : Nat} {i : Ins} (hi : l[k]? = some i) (ho : isOp i.c = true) (h5 : i.c ≠ 5) (h6 : i.c ≠ 6) (h22 : i.c ≠ 22) (h : looksC i.c = false) (hd : (doM b m i).2 = 0) :
    runM l b (f + 1) k m st = runM l b f (k + 1) (doM b m i).1 (st + 1) := by
  simp [runM, hi, ho, h5, h6, h22, h, hd]
theorem runM_err {l : List Ins} {b : ByteArray} {f k : Nat} {m : Mc} {st : Nat} {i : Ins} (hi : l[k]? = some i) (ho : isOp i.c = true) (h5 : i.c ≠ 5) (h6 : i.c ≠ 6) (h22 : i.c ≠ 22) (h : looksC i.c = false) (hd : (doM b m i).2 ≠ 0) :
    runM l b (f + 1) k m st = ⟨0, (st + 1 : Nat), (doM b m i).2⟩ := by
  simp [runM, hi, ho, h5, h6, h22, h, hd]
theorem leV_in {l : List UInt8} (h : l.length = 4) : In32 (leV l) := by
  match l, h with
  | [a, b, c, d], _ =>
    have := a.toNat_lt; have := b.toNat_lt; have := c.toNat_lt; have := d.toNat_lt
    unfold In32; simp only [leV]; omega
theorem loadB_in {b : ByteArray} {k : Int} (h : ¬ loadB b k < 0) : In32 (loadB b k) := by
  by_cases hc : b.size = 64 ∧ 0 ≤ k ∧ k ≤ 60 ∧ k % 4 = 0
  · rw [loadB_yes hc]
    refine leV_in ?_
    exact bytesAt_length (by omega)
  · rw [loadB_no hc] at h; omega
theorem doM_ok {b : ByteArray} {m : Mc} {i : Ins} (h : m.ok) (hk : In32 i.k) : (doM b m i).1.ok := by
  unfold doM
  split
  · split
    · exact h
    · rename_i hz; exact ⟨loadB_in hz, h.2⟩
  split
  · exact ⟨hk, h.2⟩
  split
  · exact ⟨h.1, hk, h.2.2⟩
  split
  · exact ⟨h.1, h.1, h.2.2⟩
  split
  · exact ⟨h.2.1, h.2.1, h.2.2⟩
  split
  · exact cellM_ok h
  · exact sumM_ok h

theorem mc0_ok : mc0.ok := by unfold Mc.ok mc0 In32; simp
/-- What the run's loop keeps of memory: the machine, the answer in the making, the result's place, and all that was. -/
structure RunW (w : World) (M C H O R : Nat) (m : Mc) (r st cd : Int) (x : World) : Prop where
  mat : MAt x M C H m
  out : x.heap[O]? = some (.cells #[.int .i64 r, .int .i64 st, .int .i64 cd] 44 (0, 0))
  res : x.heap[R]? = some (.cells #[.int .i64 0, .int .i64 0, .int .i64 0] 44 (0, 0))
  bel : Below w.heap.size w x
  neO : O ≠ M ∧ O ≠ C ∧ O ≠ H
  neR : R ≠ M ∧ R ≠ C ∧ R ≠ H ∧ R ≠ O
  ge : w.heap.size ≤ O ∧ w.heap.size ≤ R ∧ w.heap.size ≤ M ∧ w.heap.size ≤ C ∧ w.heap.size ≤ H
section
variable {w x x' : World} {M C H O R : Nat} {m : Mc} {r st cd : Int}
theorem RunW.below (h : RunW w M C H O R m r st cd x) (hb : Below x.heap.size x x') : RunW w M C H O R m r st cd x' :=
  ⟨h.mat.below hb, (hb.block _ (row_here h.out)).trans h.out, (hb.block _ (row_here h.res)).trans h.res, h.bel.trans (hb.mono h.bel.size), h.neO, h.neR, h.ge⟩
theorem RunW.alloc (h : RunW w M C H O R m r st cd x) (o : Obj) : RunW w M C H O R m r st cd (x.alloc o) := h.below ((Below.refl _ _).alloc (Nat.le_refl _) o)
theorem RunW.keep (h : RunW w M C H O R m r st cd x) {m' : Mc} (hm : MAt x' M C H m') (hk : KeepM M C H x x') : RunW w M C H O R m' r st cd x' :=
  ⟨hm, (hk.block _ (row_here h.out) h.neO.1 h.neO.2.1 h.neO.2.2).trans h.out, (hk.block _ (row_here h.res) h.neR.1 h.neR.2.1 h.neR.2.2.1).trans h.res,
    KeepM.below h.bel hk h.ge.2.2.1 h.ge.2.2.2.1 h.ge.2.2.2.2 h.bel.size, h.neO, h.neR, h.ge⟩
theorem MAt.other {x : World} (h : MAt x M C H m) {O : Nat} (hO : O ≠ M ∧ O ≠ C ∧ O ≠ H) (i : Nat) (v : Value) : MAt (x.setCell ⟨O, i, none⟩ v) M C H m :=
  ⟨row_other h.1 i v (Ne.symm hO.1), row_other h.2.1 i v (Ne.symm hO.2.1), row_other h.2.2.1 i v (Ne.symm hO.2.2), h.2.2.2⟩
theorem RunW.setR (h : RunW w M C H O R m r st cd x) (v : Int) : RunW w M C H O R m v st cd (x.setCell ⟨O, 0, none⟩ (.int .i64 v)) := by
  have hr := row_put h.out 0 (.int .i64 v)
  simp only [List.setIfInBounds_toArray, List.set_cons_zero, List.set_cons_succ] at hr
  exact ⟨h.mat.other h.neO _ _, hr, row_other h.res 0 _ h.neR.2.2.2, h.bel.setCell h.ge.1 _, h.neO, h.neR, h.ge⟩
theorem RunW.setS (h : RunW w M C H O R m r st cd x) (v : Int) : RunW w M C H O R m r v cd (x.setCell ⟨O, 1, none⟩ (.int .i64 v)) := by
  have hr := row_put h.out 1 (.int .i64 v)
  simp only [List.setIfInBounds_toArray, List.set_cons_zero, List.set_cons_succ] at hr
  exact ⟨h.mat.other h.neO _ _, hr, row_other h.res 1 _ h.neR.2.2.2, h.bel.setCell h.ge.1 _, h.neO, h.neR, h.ge⟩
theorem RunW.setC (h : RunW w M C H O R m r st cd x) (v : Int) : RunW w M C H O R m r st v (x.setCell ⟨O, 2, none⟩ (.int .i64 v)) := by
  have hr := row_put h.out 2 (.int .i64 v)
  simp only [List.setIfInBounds_toArray, List.set_cons_zero, List.set_cons_succ] at hr
  exact ⟨h.mat.other h.neO _ _, hr, row_other h.res 2 _ h.neR.2.2.2, h.bel.setCell h.ge.1 _, h.neO, h.neR, h.ge⟩
theorem RunW.cells (h : RunW w M C H O R m r st cd x) : x.cell? ⟨O, 0, none⟩ = some (.int .i64 r) ∧ x.cell? ⟨O, 1, none⟩ = some (.int .i64 st) ∧ x.cell? ⟨O, 2, none⟩ = some (.int .i64 cd) := by
  have c0 := row_cell h.out 0
  have c1 := row_cell h.out 1
  have c2 := row_cell h.out 2
  simp only [List.getElem?_toArray, List.getElem?_cons_zero, List.getElem?_cons_succ] at c0 c1 c2
  exact ⟨c0, c1, c2⟩
theorem RunW.res3 (h : RunW w M C H O R m r st cd x) : x.cell? ⟨R, 0, none⟩ = some (.int .i64 0) ∧ x.cell? ⟨R, 1, none⟩ = some (.int .i64 0) ∧ x.cell? ⟨R, 2, none⟩ = some (.int .i64 0) := by
  have c0 := row_cell h.res 0
  have c1 := row_cell h.res 1
  have c2 := row_cell h.res 2
  simp only [List.getElem?_toArray, List.getElem?_cons_zero, List.getElem?_cons_succ] at c0 c1 c2
  exact ⟨c0, c1, c2⟩
theorem RunW.free (h : RunW w M C H O R m r st cd x) (i : Nat) : x.frozen? ⟨O, i, none⟩ = false ∧ x.frozen? ⟨R, i, none⟩ = false := ⟨frozen_row h.out i, frozen_row h.res i⟩
theorem RunW.lt (h : RunW w M C H O R m r st cd x) : O < x.heap.size ∧ R < x.heap.size ∧ M < x.heap.size := ⟨row_here h.out, row_here h.res, row_here h.mat.1⟩
theorem RunW.fin (h : RunW w M C H O R m r st cd x) (a b c : Value) : Below w.heap.size w (((x.setCell ⟨R, 0, none⟩ a).setCell ⟨R, 1, none⟩ b).setCell ⟨R, 2, none⟩ c) :=
  ((h.bel.setCell h.ge.2.1 _).setCell h.ge.2.1 _).setCell h.ge.2.1 _
end

set_option maxHeartbeats 6400000 in
theorem l05Run_any (v : Value) (l : List Ins) (b : ByteArray) (w : World) (h : InsAt w w.heap.size v l) (hl : allOk l = true) (hb : b.size ≤ maxLen) :
    Calls Tryz.prog 55 #[v, .string b] w fun e w' => e = .returned (.agg #[.int .i64 (runM l b (l.length + 1) 0 mc0 0).ret, .int .i64 (runM l b (l.length + 1) 0 mc0 0).steps, .int .i64 (runM l b (l.length + 1) 0 mc0 0).code]) ∧ Below w.heap.size w w' := by
  have hlen : l.length ≤ 400 := by unfold allOk at hl; simp at hl; exact hl.1
  have hri : ∀ x ∈ l, insRight x = true := by unfold allOk at hl; simp at hl; exact hl.2
  obtain ⟨a, cap, rfl, hlc, hcm⟩ := h.len
  unfold maxLen at hcm
  have HH := Lib.hid h
  have HRI := Lib.hid hri
  have HBS := Lib.hid hb
  have mk1 := make_ints
  have mk2 := make_bools
  clear h hl hri hb
  go_enter Tryz.func55, Tryz.ntmps55
  go_upto_region 1 with fail
  go_cut [5] from 10 to 13 (fun p ws => ∃ M C H, p = .pointer (some ⟨M, 0, none⟩) ∧ MAt ws M C H mc0 ∧ w.heap.size < M ∧ w.heap.size < C ∧ w.heap.size < H ∧ Below (w.alloc (.cells #[.int .i64 0, .int .i64 0, .int .i64 0] 44)).heap.size (w.alloc (.cells #[.int .i64 0, .int .i64 0, .int .i64 0] 44)) ws)
  case first =>
    go_region
    all_goals
      go_wp2_with fail
      go_meet
      first
        | exact ⟨_, _, _, rfl, (mat_new1 (n := w.heap.size + 1) (W := w.alloc (.cells #[.int .i64 0, .int .i64 0, .int .i64 0] 44)) (by simp) rfl rfl rfl).drew, by omega, by omega, by omega, ((((Below.refl _ _).alloc (Nat.le_refl _) _).alloc (by simp) _).alloc (by simp) _).drew⟩
        | exact ⟨_, _, _, rfl, (mat_new2 (n := w.heap.size + 1) (W := w.alloc (.cells #[.int .i64 0, .int .i64 0, .int .i64 0] 44)) (by simp) rfl rfl rfl).drew, by omega, by omega, by omega, ((((Below.refl _ _).alloc (Nat.le_refl _) _).alloc (by simp) _).alloc (by simp) _).drew⟩
  case rest =>
  obtain ⟨M, C, H, rfl, hm, hM, hC, hH, hb1⟩ := hcut
  have hlM := row_here hm.1
  have hlC := row_here hm.2.1
  have hlH := row_here hm.2.2.1
  have hsz : w.heap.size + 1 ≤ wc.heap.size := by have := hb1.size; simpa using this
  have HW0 := Lib.hid (show RunW w M C H wc.heap.size w.heap.size mc0 0 0 0 (wc.alloc (.cells #[.int .i64 0, .int .i64 0, .int .i64 0] 44)) from
    ⟨hm.below ((Below.refl _ _).alloc (Nat.le_refl _) _), alloc_new_at _ _ _ rfl, row_alloc ((hb1.block _ (by simp)).trans (alloc_new_at _ _ _ rfl)) _,
      (box_below hb1).alloc (box_below hb1).size _, by omega, by omega, by omega⟩)
  clear hm hb1
  go_wp2_with fail
  go_loopg [7] l.length (fun g s wx => ∃ (k st : Nat) (m : Mc), s = .int .i64 k ∧ k ≤ 5000000000 ∧ l.length ≤ k + g ∧ st + g = l.length ∧ Aside (m.ok ∧ RunW w M C H wc.heap.size w.heap.size m 0 st 0 wx ∧ runM l b (l.length + 1) 0 mc0 0 = runM l b (g + 1) k m st))
  case atStart => exact ⟨0, 0, mc0, rfl, by omega, by omega, by omega, mc0_ok, HW0.out, rfl⟩
  case round =>
    obtain ⟨k, st, m, rfl, hk, hkg, hsg, hx⟩ := hrel
    have HX := Lib.hid hx
    clear hx
    by_cases hlt : k < l.length
    · cases gk with
      | zero => omega
      | succ g =>
      obtain ⟨x, hx⟩ : ∃ x, l[k]? = some x := ⟨l[k], List.getElem?_eq_getElem hlt⟩
      obtain ⟨hok, hW, hrun⟩ := HX.out
      have hbd := ins_bd32 (HRI.out x (List.mem_of_getElem? hx))
      obtain ⟨bb, oo, e, hbb, c0', c1', c2', c3', _⟩ := HH.out.at_ hx
      subst e
      have c0 := (hW.bel.cell (p := ⟨bb, oo + k * 4, none⟩) hbb).trans c0'
      have c1 := (hW.bel.cell (p := ⟨bb, oo + k * 4 + 1, none⟩) hbb).trans c1'
      have c2 := (hW.bel.cell (p := ⟨bb, oo + k * 4 + 2, none⟩) hbb).trans c2'
      have c3 := (hW.bel.cell (p := ⟨bb, oo + k * 4 + 3, none⟩) hbb).trans c3'
      clear c0' c1' c2' c3' HX
      obtain ⟨xc, xy, xn, xk⟩ := x
      simp only at c0 c1 c2 c3 hbd
      obtain ⟨hkk, hyy, hnn⟩ := hbd
      have HKK := Lib.hid hkk
      unfold In32 at hkk
      have hz : decide (k < l.length) = true := decide_eq_true hlt
      have hlW := hW.lt
      have hW1 := hW.alloc (.cells #[.int .i64 xc, .int .i64 xy, .int .i64 xn, .int .i64 xk] 66)
      obtain ⟨b0, b1, b2⟩ := hW1.cells
      have g1 := (hW1.free 1).1
      have hXO : wr.heap.size ≠ wc.heap.size := by omega
      have HW2 := Lib.hid ((hW.setS (st + 1)).alloc (.cells #[.int .i64 xc, .int .i64 xy, .int .i64 xn, .int .i64 xk] 66))
      have HX2 := Lib.hid (alloc_new_at (wr.setCell ⟨wc.heap.size, 1, none⟩ (.int .i64 (st + 1))) #[.int .i64 xc, .int .i64 xy, .int .i64 xn, .int .i64 xk] 66 (n := wr.heap.size) (by simp [World.setCell]))
      have he := isOp_empty xc
      have QO := Lib.hid (fun W => specOpName_any xc W)
      generalize opNameOf xc = nm at *
      have HIX := Lib.hid hx
      have HOK := Lib.hid hok
      have HRUN := Lib.hid hrun
      have hst : (st : Int) ≤ 400 := by omega
      clear hW hW1 hx hok hrun
      cases ho : isOp xc <;> rw [ho] at he
      · have HR := Lib.hid (HRUN.out.trans (runM_noop HIX.out ho))
        simp only [Bool.not_false] at he
        clear ho
        go_wp2_with fail
        refine (QO.out _).mono ?_
        rintro e w3 ⟨rfl, hb3⟩
        have hW3 := HW2.out.below hb3
        obtain ⟨b0, b1, b2⟩ := hW3.cells
        have g2 := (hW3.free 2).1
        have hW4 := hW3.setC 3
        obtain ⟨d0, d1, d2⟩ := hW4.cells
        obtain ⟨e0, e1, e2⟩ := hW4.res3
        have f0 := (hW4.free 0).2
        have f1 := (hW4.free 1).2
        have f2 := (hW4.free 2).2
        have hOR : w.heap.size ≠ wc.heap.size := by omega
        have hRO : wc.heap.size ≠ w.heap.size := by omega
        have HW := Lib.hid hW4
        clear hb3 hW3 hW4
        go_wp2_with fail
        exact bodyPost_ret (v := .agg #[.int .i64 0, .int .i64 (st + 1), .int .i64 3]) (by simp [results, Tryz.results55, go_sem, d0, d1, d2, e0, e1, e2, f0, f1, f2, hOR, hRO]) rfl ⟨by rw [HR.out]; rfl, HW.out.fin _ _ _⟩
      simp only [Bool.not_true] at he
      go_wp2_with fail
      refine (QO.out _).mono ?_
      rintro e w3 ⟨rfl, hb3⟩
      have hW3 := HW2.out.below hb3
      have hX3 := (hb3.block _ (row_here HX2.out)).trans HX2.out
      have x0 := row_cell hX3 0
      have x1 := row_cell hX3 1
      have x2 := row_cell hX3 2
      have x3 := row_cell hX3 3
      simp only [List.getElem?_toArray, List.getElem?_cons_zero, List.getElem?_cons_succ] at x0 x1 x2 x3
      have HX3 := Lib.hid hX3
      have HW3 := Lib.hid hW3
      obtain ⟨b0, b1, b2⟩ := hW3.cells
      have g0 := (hW3.free 0).1
      have g1 := (hW3.free 1).1
      have g2 := (hW3.free 2).1
      have hOR : w.heap.size ≠ wc.heap.size := by omega
      have hRO : wc.heap.size ≠ w.heap.size := by omega
      clear hb3 hW3 hX3
      by_cases h6 : xc = 6
      · have HR := Lib.hid (HRUN.out.trans (runM_ret HIX.out h6))
        subst h6
        have hW4 := HW3.out.setR xk
        obtain ⟨d0, d1, d2⟩ := hW4.cells
        obtain ⟨e0, e1, e2⟩ := hW4.res3
        have f0 := (hW4.free 0).2
        have f1 := (hW4.free 1).2
        have f2 := (hW4.free 2).2
        have HW := Lib.hid hW4
        clear hW4
        go_wp2_with fail
        exact bodyPost_ret (v := .agg #[.int .i64 xk, .int .i64 (st + 1), .int .i64 0]) (by simp [results, Tryz.results55, go_sem, d0, d1, d2, e0, e1, e2, f0, f1, f2, hOR, hRO]) rfl ⟨by rw [HR.out]; rfl, HW.out.fin _ _ _⟩
      by_cases h22 : xc = 22
      · have HR := Lib.hid (HRUN.out.trans (runM_retA HIX.out h22))
        subst h22
        have hW4 := HW3.out.setR xk
        have m0 := hW4.mat.cellsM.1
        have y0 := hW4.cells
        obtain ⟨y0, y1, y2⟩ := y0
        have fy := (hW4.free 0).1
        have hW5 := hW4.setR m.a
        obtain ⟨d0, d1, d2⟩ := hW5.cells
        obtain ⟨e0, e1, e2⟩ := hW5.res3
        have f0 := (hW5.free 0).2
        have f1 := (hW5.free 1).2
        have f2 := (hW5.free 2).2
        have HW := Lib.hid hW5
        have hMO : M ≠ wc.heap.size := by omega
        have hOM : wc.heap.size ≠ M := by omega
        clear hW4 hW5
        go_wp2_with fail
        exact bodyPost_ret (v := .agg #[.int .i64 m.a, .int .i64 (st + 1), .int .i64 0]) (by simp [results, Tryz.results55, go_sem, d0, d1, d2, e0, e1, e2, f0, f1, f2, hOR, hRO]) rfl ⟨by rw [HR.out]; rfl, HW.out.fin _ _ _⟩
      have t6 : (xc == 6) = false := by simpa using h6
      have t22 : (xc == 22) = false := by simpa using h22
      by_cases h5 : xc = 5
      · have HR := Lib.hid (HRUN.out.trans (runM_jump HIX.out h5))
        subst h5
        go_wp2_with fail
        go_roundg g
        case measure => omega
        case rel => exact ⟨k + xk.toNat + 1, st + 1, m, by rw [show ((k + xk.toNat + 1 : Nat) : Int) = k + xk + 1 by omega], by omega, by omega, by omega, HOK.out, HW3.out, HR.out⟩
      have t5 : (xc == 5) = false := by simpa using h5
      have QL := Lib.hid (fun W => l02Looks_any xc W)
      cases hl : looksC xc <;> rw [hl] at QL
      · have QD := Lib.hid (l05Do_any b m xc xy xn xk M C H w3 HW3.out.mat HOK.out HBS.out HKK.out ho h5 h6 h22 hl)
        have hdok := doM_ok (b := b) (m := m) (i := ⟨xc, xy, xn, xk⟩) HOK.out HKK.out
        obtain ⟨mm, dc, hd⟩ : ∃ mm dc, doM b m ⟨xc, xy, xn, xk⟩ = (mm, dc) := ⟨_, _, rfl⟩
        have QD' := QD.out
        unfold DoPost at QD'
        simp only [hd] at QD' hdok
        have HQ := Lib.hid QD'
        have HDOK := Lib.hid hdok
        clear QD QD' hdok
        by_cases hdc : dc = 0
        · have HR := Lib.hid (HRUN.out.trans (runM_do HIX.out ho h5 h6 h22 hl (by rw [hd]; exact hdc)))
          rw [hd] at HR
          clear hd ho h5 h6 h22 hl
          subst hdc
          go_wp2_with fail
          refine (QL.out _).mono ?_
          rintro e w4 ⟨rfl, rfl⟩
          go_wp2_with fail
          refine HQ.out.mono ?_
          rintro e w4 ⟨rfl, hm4, hk4⟩
          have HW4 := Lib.hid (HW3.out.keep hm4 hk4)
          clear hm4 hk4
          go_wp2_with fail
          go_roundg g
          case measure => omega
          case rel => exact ⟨k + 1, st + 1, mm, by go_num, by omega, by omega, by omega, HDOK.out, HW4.out, HR.out⟩
        · have HR := Lib.hid (HRUN.out.trans (runM_err HIX.out ho h5 h6 h22 hl (by rw [hd]; exact hdc)))
          rw [hd] at HR
          have td : (dc != 0) = true := by simpa using hdc
          clear hd ho h5 h6 h22 hl
          go_wp2_with fail
          refine (QL.out _).mono ?_
          rintro e w4 ⟨rfl, rfl⟩
          go_wp2_with fail
          refine HQ.out.mono ?_
          rintro e w4 ⟨rfl, hm4, hk4⟩
          have hW4 := HW3.out.keep hm4 hk4
          obtain ⟨b0, b1, b2⟩ := hW4.cells
          have g2 := (hW4.free 2).1
          have hW5 := hW4.setC dc
          obtain ⟨d0, d1, d2⟩ := hW5.cells
          obtain ⟨e0, e1, e2⟩ := hW5.res3
          have f0 := (hW5.free 0).2
          have f1 := (hW5.free 1).2
          have f2 := (hW5.free 2).2
          have HW := Lib.hid hW5
          clear hm4 hk4 hW4 hW5
          go_wp2_with fail
          exact bodyPost_ret (v := .agg #[.int .i64 0, .int .i64 (st + 1), .int .i64 dc]) (by simp [results, Tryz.results55, go_sem, d0, d1, d2, e0, e1, e2, f0, f1, f2, hOR, hRO]) rfl ⟨by rw [HR.out]; rfl, HW.out.fin _ _ _⟩
      · have QD := Lib.hid (l05Look_any m xc xy xn xk M C H w3 HW3.out.mat hl)
        have HR := Lib.hid (HRUN.out.trans (runM_look HIX.out ho h5 h6 h22 hl))
        clear ho h5 h6 h22 hl
        simp only at HR
        cases hq : lookM m ⟨xc, xy, xn, xk⟩ <;> rw [hq] at QD HR
        all_goals
          clear hq
          go_wp2_with fail
          refine (QL.out _).mono ?_
          rintro e w4 ⟨rfl, rfl⟩
          go_wp2_with fail
          refine QD.out.mono ?_
          rintro e w4 ⟨rfl, hb4⟩
          have hX4 := (hb4.block _ (row_here HX3.out)).trans HX3.out
          have y1 := row_cell hX4 1
          have y2 := row_cell hX4 2
          simp only [List.getElem?_toArray, List.getElem?_cons_zero, List.getElem?_cons_succ] at y1 y2
          have HW4 := Lib.hid (HW3.out.below hb4)
          clear hb4 hX4
          go_wp2_with fail
          go_roundg g
          case measure => omega
          first
            | case rel => exact ⟨k + xn.toNat + 1, st + 1, m, by rw [show ((k + xn.toNat + 1 : Nat) : Int) = k + xn + 1 by omega], by omega, by omega, by omega, HOK.out, HW4.out, HR.out⟩
            | case rel => exact ⟨k + xy.toNat + 1, st + 1, m, by rw [show ((k + xy.toNat + 1 : Nat) : Int) = k + xy + 1 by omega], by omega, by omega, by omega, HOK.out, HW4.out, HR.out⟩
    · have hz : decide (k < l.length) = false := decide_eq_false hlt
      obtain ⟨_, hW, hrun⟩ := HX.out
      have hE := runM_end (b := b) (f := gk) (m := m) (st := st) (show l.length ≤ k by omega)
      rw [hE] at hrun
      clear hE
      have HR := Lib.hid hrun
      obtain ⟨b0, b1, b2⟩ := hW.cells
      obtain ⟨d0, d1, d2⟩ := (hW.setC 4).cells
      obtain ⟨e0, e1, e2⟩ := (hW.setC 4).res3
      have f0 := ((hW.setC 4).free 0).2
      have f1 := ((hW.setC 4).free 1).2
      have f2 := ((hW.setC 4).free 2).2
      have g2 := (hW.free 2).1
      have hOR : w.heap.size ≠ wc.heap.size := by omega
      have hRO : wc.heap.size ≠ w.heap.size := by omega
      have HW := Lib.hid (hW.setC 4)
      clear hW hrun
      go_wp2_with fail
      exact bodyPost_ret (v := .agg #[.int .i64 0, .int .i64 st, .int .i64 4]) (by simp [results, Tryz.results55, go_sem, d0, d1, d2, e0, e1, e2, f0, f1, f2, hOR, hRO]) rfl ⟨by rw [HR.out], HW.out.fin _ _ _⟩

end Go.Proofs.YtekmnopgaopmlaaGreatDoor

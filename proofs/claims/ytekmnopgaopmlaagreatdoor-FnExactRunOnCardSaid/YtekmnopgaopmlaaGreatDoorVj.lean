/- RunOn of the model and of the program, walked. -/
import Derived.Test.YtekmnopgaopmlaaGreatDoorVi
import Derived.Test.YtekmnopgaopmlaaGreatDoorRb
import Derived.Test.YtekmnopgaopmlaaGreatDoorIt
set_option maxRecDepth 100000
set_option linter.unusedSimpArgs false
set_option linter.unusedVariables false
namespace Go.Proofs.YtekmnopgaopmlaaGreatDoor
open Go.RowKit

theorem wdB_all : ∀ l : List Wd, (l.flatMap wdB).length = l.length * 8
  | [] => rfl
  | x :: l => by simp only [List.flatMap_cons, List.length_append, wdB_length, wdB_all l, List.length_cons]; omega
theorem rbOf_le (r : Rc) : (rbOf r).size ≤ maxLen := by
  unfold rbOf maxLen
  split
  · rename_i h
    have h6 : r.args.length = 6 := by unfold rcRight at h; simp only [Bool.and_eq_true, decide_eq_true_eq] at h; exact h.1.2
    rw [size_mk]
    simp only [rcB, List.length_append, leB_length, wdB_length, wdB_all, h6]
    omega
  · rw [show ((⟨#[]⟩ : ByteArray).size) = 0 from rfl]; omega
theorem below_al {a x : World} (h : Below a.heap.size a x) (o : Obj) : Below a.heap.size a (x.alloc o) := h.alloc h.size o
theorem below_chain {a x y : World} (h : Below a.heap.size a x) (k : Below x.heap.size x y) : Below a.heap.size a y := h.trans (k.mono h.size)
theorem box_row {w w' : World} {cs : Array Value} {T : TypeId} (h : Below (w.alloc (.cells cs T)).heap.size (w.alloc (.cells cs T)) w') : w'.heap[w.heap.size]? = some (.cells cs T (0, 0)) := (h.block _ (by simp)).trans (alloc_new_at w cs T rfl)
theorem box_rowd {w w' : World} {cs : Array Value} {T : TypeId} (h : Below (w.alloc (.cells cs T)).drew.heap.size (w.alloc (.cells cs T)).drew w') : w'.heap[w.heap.size]? = some (.cells cs T (0, 0)) := box_row (w := w) (cs := cs) (T := T) ⟨h.os, h.tape, h.output, h.size, h.block⟩
theorem row2_at {w w' : World} {A B : Array Value} {T U : TypeId} (h : Below ((w.alloc (.cells A T)).alloc (.cells B U)).heap.size ((w.alloc (.cells A T)).alloc (.cells B U)) w') :
    w'.heap[w.heap.size]? = some (.cells A T (0, 0)) ∧ w'.heap[w.heap.size + 1]? = some (.cells B U (0, 0)) :=
  ⟨(h.block _ (by simp; omega)).trans (row_alloc (alloc_new_at w A T rfl) _), (h.block _ (by simp)).trans (alloc_new_at _ B U (by simp))⟩

theorem ins_al {W : World} {v : Value} {l : List Ins} (h : InsAt W W.heap.size v l) (o : Obj) : InsAt (W.alloc o) (W.alloc o).heap.size v l := (h.below (below_al (Below.refl _ _) o)).up (below_al (Below.refl W.heap.size W) o).size
theorem wd_al {W : World} {v : Value} {l : List Wd} (h : WdAt W W.heap.size v l) (o : Obj) : WdAt (W.alloc o) (W.alloc o).heap.size v l := LAt.up (LAt.below h (below_al (Below.refl _ _) o)) (below_al (Below.refl W.heap.size W) o).size

set_option maxHeartbeats 1600000 in
theorem specRunOn_any (v : Value) (l : List Ins) (r : Rc) (u : Value) (w : World) (h : InsAt w w.heap.size v l) (hu : WdAt w w.heap.size u r.args) (hll : l.length ≤ 1048576) :
    Calls Tryz.prog 20 #[v, rcV r u] w fun e w' => e = .returned (ansV (runL l (rbOf r))) ∧ Below w.heap.size w w' := by
  obtain ⟨a, cap, rfl, hlc, hcm⟩ := h.len
  obtain ⟨a2, cap2, rfl, hlc2, hcm2⟩ := hu.len
  have hb0 := below_al (below_al (Below.refl w.heap.size w) (.cells #[.int .i64 r.nr, .int .i64 r.ar, .int .i64 r.ip.h, .int .i64 r.ip.l, .slice a2 r.args.length cap2] 36)) (.cells #[.int .i64 0, .int .i64 0, .int .i64 0] 44)
  have HB0 := Lib.hid hb0
  have QB := Lib.hid (specRecordBytes_any r _ _ ((LAt.below hu hb0).up hb0.size))
  have QR := Lib.hid (fun W (hW : Below w.heap.size w W) => specRun_any _ l (rbOf r) W ((h.below hW).up hW.size) (rbOf_le r) hll)
  generalize rbOf r = bs at *
  generalize runL l bs = ans at *
  obtain ⟨nr, ar, ⟨ih, il⟩, args⟩ := r
  obtain ⟨rp, rq, rr⟩ := ans
  simp only [ansV] at QB QR HB0 ⊢
  clear h hu hb0
  go_enter Tryz.func20, Tryz.ntmps20
  go_wp2_with fail
  refine QB.out.mono ?_
  rintro e w1 ⟨rfl, hb1⟩
  have HB1 := Lib.hid hb1
  clear hb1
  go_wp2_with fail
  refine (QR.out _ (below_chain HB0.out HB1.out)).mono ?_
  rintro e w2 ⟨rfl, hb2⟩
  have hr := row2_at (below_chain HB1.out hb2)
  have d0 := row_cell hr.2 0
  have d1 := row_cell hr.2 1
  have d2 := row_cell hr.2 2
  have f0 := frozen_row hr.2 0
  have f1 := frozen_row hr.2 1
  have f2 := frozen_row hr.2 2
  simp only [List.getElem?_toArray, List.getElem?_cons_zero, List.getElem?_cons_succ] at d0 d1 d2
  have HB2 := Lib.hid (below_chain HB0.out (below_chain HB1.out hb2))
  clear hb2 hr
  go_wp2_with fail
  exact bodyPost_ret (v := .agg #[.int .i64 rp, .int .i64 rq, .int .i64 rr]) (by simp [results, Tryz.results20, go_sem, d0, d1, d2, f0, f1, f2]) rfl ⟨rfl, ((HB2.out.setCell (by simp) _).setCell (by simp) _).setCell (by simp) _⟩

set_option maxHeartbeats 1600000 in
theorem implRunOn_any (v : Value) (l : List Ins) (r : Rc) (u : Value) (w : World) (h : InsAt w w.heap.size v l) (hu : WdAt w w.heap.size u r.args) (hll : l.length ≤ 1048576) (hg : w.cell? ⟨0, 0, none⟩ = some handleV) :
    Calls Tryz.prog 19 #[v, rcV r u] w fun e w' => e = .returned (ansV (runL l (rbOf r))) ∧ Below w.heap.size w w' := by
  obtain ⟨a, cap, rfl, hlc, hcm⟩ := h.len
  obtain ⟨a2, cap2, rfl, hlc2, hcm2⟩ := hu.len
  have hglt : 0 < w.heap.size := by
    rcases Nat.lt_or_ge 0 w.heap.size with h | h
    · exact h
    · simp [World.cell?, Array.getElem?_eq_none h] at hg
  have hb0 := below_al (below_al (Below.refl w.heap.size w) (.cells #[.int .i64 r.nr, .int .i64 r.ar, .int .i64 r.ip.h, .int .i64 r.ip.l, .slice a2 r.args.length cap2] 36)) (.cells #[.int .i64 0, .int .i64 0, .int .i64 0] 44)
  have HB0 := Lib.hid hb0
  have QB := Lib.hid (implRecordBytes_any r _ _ ((LAt.below hu hb0).up hb0.size))
  have QR := Lib.hid (fun W (hW : Below w.heap.size w W) => implRun_any _ l (rbOf r) W ((h.below hW).up hW.size) (rbOf_le r) hll ((hW.cell (p := ⟨0, 0, none⟩) hglt).trans hg))
  generalize rbOf r = bs at *
  generalize runL l bs = ans at *
  obtain ⟨nr, ar, ⟨ih, il⟩, args⟩ := r
  obtain ⟨rp, rq, rr⟩ := ans
  simp only [ansV] at QB QR HB0 ⊢
  clear h hu hb0 hg
  go_enter Tryz.func19, Tryz.ntmps19
  go_wp2_with fail
  refine QB.out.mono ?_
  rintro e w1 ⟨rfl, hb1⟩
  have HB1 := Lib.hid hb1
  clear hb1
  go_wp2_with fail
  refine (QR.out _ (below_chain HB0.out HB1.out)).mono ?_
  rintro e w2 ⟨rfl, hb2⟩
  have hr := row2_at (below_chain HB1.out hb2)
  have d0 := row_cell hr.2 0
  have d1 := row_cell hr.2 1
  have d2 := row_cell hr.2 2
  have f0 := frozen_row hr.2 0
  have f1 := frozen_row hr.2 1
  have f2 := frozen_row hr.2 2
  simp only [List.getElem?_toArray, List.getElem?_cons_zero, List.getElem?_cons_succ] at d0 d1 d2
  have HB2 := Lib.hid (below_chain HB0.out (below_chain HB1.out hb2))
  clear hb2 hr
  go_wp2_with fail
  exact bodyPost_ret (v := .agg #[.int .i64 rp, .int .i64 rq, .int .i64 rr]) (by simp [results, Tryz.results19, go_sem, d0, d1, d2, f0, f1, f2]) rfl ⟨rfl, ((HB2.out.setCell (by simp) _).setCell (by simp) _).setCell (by simp) _⟩

end Go.Proofs.YtekmnopgaopmlaaGreatDoor

/- Texts of one proof, put together: Ww Rc Rb Ir Ic Ie Is It Rr Rh. -/
import Derived.Test.YtekmnopgaopmlaaGreatDoorXa
import Derived.OwnWalk
import Derived.Laws.OwnMore
import Derived.StillTailTactics
import Derived.Deep.Draws
import Derived.Maps.AppendAt
import Derived.Deep.RegionHeld3
import Derived.Deep.DrawnRows
import Derived.Laws.CopyRow
import Derived.ChangeKeysEq
import Derived.Deep.RegionLaw

/- Walks of the laws' own helpers on Words and slices of them (made by gen_type.py). -/
set_option maxRecDepth 100000
namespace Go.Proofs.YtekmnopgaopmlaaGreatDoor
open Go.RowKit Go.ChangeShapes Go.WideShapes

def wdCells (x : Wd) : List Value := [.int .i64 x.h, .int .i64 x.l]
theorem wdS (x : Wd) : (wdCells x).length = 2 := rfl
def wd0 : Wd := ⟨0, 0⟩

theorem info_wd : (Tryz.prog.info? 33).map (fun i => (i.zero, i.size, i.bytes)) = some (some (.agg #[.int .i64 0, .int .i64 0]), 2, 16) := by kernel_rfl

/-- A slice of them, and one that the call made. -/
abbrev WdAt (w : World) (B : Nat) (v : Value) (l : List Wd) : Prop := LAt wdCells 2 Wd.wf w B v l
abbrev WdOwn (base : Nat) (w : World) (v : Value) (l : List Wd) : Prop := OwnL 33 2 wdCells base w v l

theorem toWord_any (h l : Int) (w : World) : Calls Tryz.prog 59 #[.agg #[.int .i64 h, .int .i64 l]] w fun e w' =>
    e = .returned (.agg #[.int .i64 h, .int .i64 l]) ∧ Below w.heap.size w w' := by
  go_enter Tryz.func59, Tryz.ntmps59
  go_wp2
  exact bodyPost_ret (v := .agg #[.int .i64 h, .int .i64 l]) (by simp [results, Tryz.results59, go_sem]) rfl ⟨rfl, (((Below.refl _ _).alloc (Nat.le_refl _) _).alloc (by simp) _).alloc (by simp; omega) _⟩

set_option maxHeartbeats 800000 in
theorem eqWord_any (a b : Wd) (w : World) : Calls Tryz.prog 62 #[.agg #[.int .i64 a.h, .int .i64 a.l], .agg #[.int .i64 b.h, .int .i64 b.l]] w fun e w' =>
    e = .returned (.bool (decide (a = b))) ∧ Below w.heap.size w w' := by
  obtain ⟨h, l⟩ := a
  obtain ⟨h', l'⟩ := b
  by_cases h0 : h = h'
  · by_cases h1 : l = l'
    · have HD := Lib.hid (show decide ((⟨h, l⟩ : Wd) = ⟨h', l'⟩) = true by simp [h0, h1])
      subst h0 h1
      go_enter Tryz.func62, Tryz.ntmps62
      go_wp2
      go_ret
      exact ⟨ret_bool HD.out.symm, ((Below.refl _ _).alloc (Nat.le_refl _) _).alloc (by simp) _⟩
    · have HD := Lib.hid (show decide ((⟨h, l⟩ : Wd) = ⟨h', l'⟩) = false by simp [h1])
      have h := ne_int h1
      clear h1
      subst h0
      go_enter Tryz.func62, Tryz.ntmps62
      go_wp2
      go_ret
      exact ⟨ret_bool HD.out.symm, ((Below.refl _ _).alloc (Nat.le_refl _) _).alloc (by simp) _⟩
  · have HD := Lib.hid (show decide ((⟨h, l⟩ : Wd) = ⟨h', l'⟩) = false by simp [h0])
    have h := ne_int h0
    clear h0
    go_enter Tryz.func62, Tryz.ntmps62
    go_wp2
    go_ret
    exact ⟨ret_bool HD.out.symm, ((Below.refl _ _).alloc (Nat.le_refl _) _).alloc (by simp) _⟩

theorem szWordS_any (a : Option Addr) (len cap : Nat) (left : Int) (w : World) (hl : len ≤ 9223372036854775807) (h0 : 0 ≤ left) (h1 : left ≤ 1048576) :
    Calls Tryz.prog 57 #[.slice a len cap, .int .i64 left] w fun e w' => e = .returned (.int .i64 (if left - (len : Int) < 0 then -1 else left - (len : Int))) ∧ w = w' := by
  by_cases h : left - (len : Int) < 0
  all_goals
    go_enter Tryz.func57, Tryz.ntmps57
    go_wp2
    go_ret
    exact ⟨rfl, rfl⟩

theorem WdAt.place {w : World} {B : Nat} {a : Option Addr} {n cap : Nat} {l : List Wd} (h : WdAt w B (.slice a n cap) l) {i : Nat} {x : Wd} (hi : l[i]? = some x) : ∃ b o, a = some ⟨b, o, none⟩ ∧ b < B ∧
    w.cell? ⟨b, o + i * 2, none⟩ = some (.int .i64 x.h) ∧ w.cell? ⟨b, o + i * 2 + 1, none⟩ = some (.int .i64 x.l) ∧ x.wf := by
  obtain ⟨b, o, e, hb, hc, hw⟩ := LAt.at_ h hi
  exact ⟨b, o, e, hb, hc 0 _ rfl, hc 1 _ rfl, hw⟩
theorem wd_own_at {w : World} {base : Nat} {g n cap : Nat} {l : List Wd} (h : w.ownsRow base 33 2 (.slice (some ⟨g, 0, none⟩) n cap) n (l.flatMap wdCells)) {k : Nat} {x : Wd} (hx : l[k]? = some x) :
    w.cell? ⟨g, k * 2, none⟩ = some (.int .i64 x.h) ∧ w.cell? ⟨g, k * 2 + 1, none⟩ = some (.int .i64 x.l) ∧
    w.frozen? ⟨g, k * 2, none⟩ = false ∧ w.frozen? ⟨g, k * 2 + 1, none⟩ = false := by
  obtain ⟨hc, hf⟩ := OwnL.at_ wdS h hx
  exact ⟨hc 0 _ rfl, hc 1 _ rfl, hf _, hf _⟩
theorem made_wd (n : Nat) : (madeCells (.agg #[.int .i64 0, .int .i64 0] : Value).cells (n * 2)).toList = (List.replicate n wd0).flatMap wdCells := by
  have hz : (List.replicate n wd0).flatMap wdCells = List.replicate (n * 2) (.int .i64 0) := by
    induction n with
    | zero => rfl
    | succ n ih => rw [List.replicate_succ, List.flatMap_cons, ih, Nat.succ_mul, Nat.add_comm, ← List.replicate_append_replicate]; rfl
  rw [hz, List.eq_replicate_iff]
  refine ⟨by simp [madeCells], fun b hb => ?_⟩
  simp only [madeCells, Array.toList_map, List.mem_map] at hb
  obtain ⟨j, _, rfl⟩ := hb
  have key : ∀ r : Fin 2, (Value.cells (.agg #[.int .i64 0, .int .i64 0]))[r.val]! = .int .i64 0 := by
    intro r
    match r with
    | 0 => rfl
    | 1 => rfl
  exact key ⟨j % 2, Nat.mod_lt _ (by omega)⟩

set_option maxHeartbeats 800000 in
theorem toWordS_any (v : Value) (l : List Wd) (w : World) (h : WdAt w w.heap.size v l) (hn : l.length ≤ 1048576) :
    Calls Tryz.prog 60 #[v] w fun e w' => ∃ u, e = .returned u ∧ WdOwn w.heap.size w' u l ∧ Below w.heap.size w w' := by
  obtain ⟨i0, hi, hz0, hz1, hz2⟩ := info_parts info_wd
  obtain ⟨a, cap, rfl, hlc, hcm⟩ := h.len
  unfold maxLen at hcm
  go_enter Tryz.func60, Tryz.ntmps60
  go_wp2_with (refine wpList_make_full _ rfl _ _ _ rfl w.heap.size 33 i0 _ 2 Tryz.underlying34 hi hz0 hz1 .i64 .i64 _ _ l.length rfl rfl rfl rfl (by rw [hz2]; omega) (by unfold maxLen; omega) (Nat.le_refl _) ?_; intro w1 hown1 hg1)
  rw [made_wd] at hown1
  have hlt1 := hown1.lt w.heap.size rfl
  have hb1 : Below w.heap.size w w1 := (Below.refl _ _).grown hg1 (Nat.le_refl _) (fun k hk => by cases hk)
  have HO := Lib.hid hown1
  clear hown1 hg1
  have HH := Lib.hid h
  clear h
  go_loopw [4] (fun i wr => ∃ k : Nat, k ≤ l.length ∧ i = .int .i64 k ∧ wr.ownsRow w.heap.size 33 2 (.slice (some ⟨w.heap.size, 0, none⟩) l.length l.length) l.length ((l.take k ++ List.replicate (l.length - k) wd0).flatMap wdCells) ∧ Below w.heap.size w wr)
    (fun i _ => l.length - (intOf i).toNat)
  case atStart => exact ⟨0, by omega, rfl, by simpa using HO.out, hb1⟩
  case round =>
    obtain ⟨k, hk, rfl, hown, hbw⟩ := hrel
    by_cases hlt : k < l.length
    · obtain ⟨b, o, e, hb, c0, c1, hwf⟩ := WdAt.place (LAt.below HH.out hbw) (List.getElem?_eq_getElem hlt)
      subst e
      have hsz := hbw.size
      go_wp2_with fail
      refine (toWord_any _ _ _).mono ?_
      rintro e w2 ⟨rfl, hb2⟩
      have hown2 := own_below hown hb2
      have hfill := fillL (pre := l.take k) (d := wd0) (k := k) (m := l.length) (by rw [List.length_take]; omega) hlt l[k]
      have hset := OwnL.set wdS (by omega) hown2 (i := k) (by simp; omega) l[k]
      rw [hfill.2, ← List.take_succ_eq_append_getElem hlt] at hset
      obtain ⟨d0, d1, f0, f1⟩ := wd_own_at hown2 hfill.1
      have hbX : ∀ u0 u1 : Value, Below w.heap.size w (((w2.setCell ⟨w.heap.size, k * 2, none⟩ u0).setCell ⟨w.heap.size, k * 2 + 1, none⟩ u1)) :=
        fun u0 u1 => setRow_below (Nat.le_refl _) [u0, u1] (k * 2) (hbw.trans (hb2.mono hsz))
      have HS := Lib.hid hset
      have HB := Lib.hid hbX
      clear hset hbX hfill hown2 hown hbw hb2
      go_wp2_with fail
      go_roundw
      case rel => exact ⟨k + 1, by omega, by go_num, HS.out, HB.out _ _⟩
      case measure => simp [intOf]; omega
    · have hfin : w.heap.size ≤ wr.heap.size ∧ WdOwn w.heap.size wr (.slice (some ⟨w.heap.size, 0, none⟩) l.length l.length) l :=
        ⟨hbw.size, by unfold WdOwn OwnL; rw [List.take_of_length_le (by omega), show l.length - k = 0 by omega] at hown; simpa using hown⟩
      have HF := Lib.hid hfin
      clear hown hfin
      go_wp2_with fail
      go_ret
      exact ⟨_, rfl, HF.out.2, hbw⟩

set_option maxHeartbeats 800000 in
theorem eqWordS_any (v1 v2 : Value) (l1 l2 : List Wd) (w : World) (h1 : WdAt w w.heap.size v1 l1) (h2 : WdAt w w.heap.size v2 l2) :
    Calls Tryz.prog 63 #[v1, v2] w fun e w' => e = .returned (.bool (decide (l1 = l2))) ∧ Below w.heap.size w w' := by
  obtain ⟨a1, cap1, rfl, hc1, hm1⟩ := h1.len
  obtain ⟨a2, cap2, rfl, hc2, hm2⟩ := h2.len
  unfold maxLen at hm1 hm2
  by_cases hl : l1.length = l2.length
  · have HL := Lib.hid hl
    have hq : ((l1.length : Int) != (l2.length : Int)) = false := by rw [hl]; simp
    clear hl
    have H1 := Lib.hid h1
    have H2 := Lib.hid h2
    clear h1 h2
    go_enter Tryz.func63, Tryz.ntmps63
    go_wp2
    go_loopw [5] (fun i wr => ∃ k : Nat, k ≤ l1.length ∧ i = .int .i64 k ∧ l1.take k = l2.take k ∧ Below w.heap.size w wr) (fun i _ => l1.length - (intOf i).toNat)
    case atStart => exact ⟨0, by omega, rfl, by simp, Below.refl _ _⟩
    case round =>
      obtain ⟨k, hk, rfl, heq, hbw⟩ := hrel
      have HE := Lib.hid heq
      clear heq
      by_cases hlt : k < l1.length
      · have hlt2 : k < l2.length := by have := HL.out; omega
        obtain ⟨b, o, e, hb, c0, c1, hwf⟩ := WdAt.place (LAt.below H1.out hbw) (List.getElem?_eq_getElem hlt)
        obtain ⟨b', o', e', hb', d0, d1, hwf'⟩ := WdAt.place (LAt.below H2.out hbw) (List.getElem?_eq_getElem hlt2)
        subst e e'
        have hsz := hbw.size
        go_wp2_with fail
        refine wp_region_still_tail 8 (by kernel_rfl) (by kernel_rfl) ?_
        simp only [List.take_succ_cons, List.take_zero, List.drop_succ_cons, List.drop_zero, World.drew_eq]
        repeat still_step
        refine wpStill_nil ?_
        go_wp2_with fail
        refine (eqWord_any l1[k] l2[k] _).mono ?_
        rintro e w2 ⟨rfl, hb2⟩
        have hbX : Below w.heap.size w w2 := hbw.drew.trans (hb2.mono hsz)
        have HB := Lib.hid hbX
        clear hbX hb2 hbw
        by_cases hx : l1[k] = l2[k]
        · have HT := Lib.hid (take_ext HE.out hlt hlt2 hx)
          have hd : decide (l1[k] = l2[k]) = true := by simpa using hx
          clear hx
          go_wp2_with fail
          go_roundw
          case rel => exact ⟨k + 1, by omega, by go_num, HT.out, HB.out⟩
          case measure => simp [intOf]; omega
        · have hd : decide (l1[k] = l2[k]) = false := by simpa using hx
          have HD := Lib.hid (show decide (l1 = l2) = false by simp; intro e; apply hx; simp [e])
          clear hx
          go_wp2_with fail
          go_ret
          exact ⟨ret_bool HD.out.symm, HB.out⟩
      · have hl12 : l1 = l2 := by
          have := HE.out
          rwa [List.take_of_length_le (by omega), List.take_of_length_le (by have := HL.out; omega)] at this
        have HD := Lib.hid (show decide (l1 = l2) = true by simpa using hl12)
        clear hl12
        go_wp2_with fail
        go_ret
        exact ⟨ret_bool HD.out.symm, hbw⟩
  · have HD := Lib.hid (show decide (l1 = l2) = false by simp; intro e; exact hl (by rw [e]))
    have hq : ((l1.length : Int) != (l2.length : Int)) = true := by simp; omega
    go_enter Tryz.func63, Tryz.ntmps63
    go_wp2
    go_ret
    exact ⟨ret_bool HD.out.symm, Below.refl _ _⟩

theorem eqWordS_same (v1 v2 : Value) (l : List Wd) (w : World) (h1 : WdAt w w.heap.size v1 l) (h2 : WdAt w w.heap.size v2 l) :
    Calls Tryz.prog 63 #[v1, v2] w fun e w' => e = .returned (.bool true) ∧ Below w.heap.size w w' :=
  (eqWordS_any v1 v2 l l w h1 h2).mono fun _ _ h => ⟨h.1.trans (ret_bool (by simp)), h.2⟩

/-- The things that the marks leave. -/
def markWd (k : Int) (i : Nat) : Wd := ⟨k + 2 * i, k + 2 * i + 1⟩
def markWdL (k : Int) (n : Nat) : List Wd := (List.range n).map (markWd k)
theorem markWdL_length (k : Int) (n : Nat) : (markWdL k n).length = n := by simp [markWdL]
theorem markWdL_next (k : Int) (n : Nat) : markWdL k (n + 1) = markWdL k n ++ [markWd k n] := by simp [markWdL, List.range_succ]
theorem markWdL_get {k : Int} {n i : Nat} (h : i < n) : (markWdL k n)[i]? = some (markWd k i) := by simp [markWdL, h]
theorem markWdL_wf {k : Int} {n : Nat} (h0 : 0 ≤ k) (h1 : k ≤ 1000000000) (hn : n ≤ 1000000000) : ∀ x ∈ markWdL k n, x.wf := by
  intro x hx
  simp only [markWdL, List.mem_map, List.mem_range] at hx
  obtain ⟨i, hi, rfl⟩ := hx
  simp only [Wd.wf, In64, markWd]
  omega

/-- 'append(l, Word{..})': the thing lies in a block of its own. -/
theorem run_push_wd (wr : World) (xh xl : Int) (ty : TypeId)
    (base : Nat) (v : Value) (ls : List Wd) (hown : WdOwn base wr v ls) (hlen : ls.length ≤ 1000000000) (hbase : base ≤ wr.heap.size) :
    ∃ v' w', (Builtin.append_ #[34, 34] ty #[v, .slice (some ⟨wr.heap.size, 0, none⟩) 1 1]).run Tryz.prog (wr.alloc (.cells #[.int .i64 xh, .int .i64 xl] 33)) = .ok v' w' ∧
      WdOwn base w' v' (ls ++ [⟨xh, xl⟩]) ∧ GrB wr w' v v' := by
  obtain ⟨i0, hi, hz0, hz1, hz2⟩ := info_parts info_wd
  obtain ⟨v', w', hr, hown', hg, _, hat⟩ := run_append_own_at (P := Tryz.prog) (wr.alloc (.cells #[.int .i64 xh, .int .i64 xl] 33)) base 34 ty 33 i0 _ 2 16 Tryz.underlying34 hi hz0 hz1 hz2 rfl (by decide) v ls.length (ls.flatMap wdCells)
    (World.ownsRow.alloc hown _) ⟨wr.heap.size, 0, none⟩ 1 1 [.int .i64 xh, .int .i64 xl] rfl (fun j u hj => by rw [add_at, Nat.zero_add, World.cell?_alloc_at _ _ _ _ rfl, ← hj]; simp) (by intro u hu; simp at hu; rcases hu with rfl | rfl <;> rfl) (by unfold maxLen; omega) (by omega) (by simp; omega)
  refine ⟨v', w', hr, ?_, GrB.alloc ⟨hg, ?_⟩⟩
  · unfold WdOwn OwnL
    rw [List.flatMap_append, List.length_append]
    exact hown'
  · rcases hat with e | e
    · exact .inl e
    · exact .inr fun g hg' => by rw [e] at hg'; injection hg' with hg'; omega
theorem wp_push_wd {o : Oper} {a : Act} {K : Act → World → Prop} {Q : Exit → Act → World → Prop} (s x : Operand)
    (ho : o.op = .call { callee := .builtin .append, args := #[s, x], argTypes := #[34, 34] }) (wr : World) (xh xl : Int)
    (base : Nat) (v : Value) (ls : List Wd) (hs : a.eval s = v) (hown : WdOwn base wr v ls)
    (hx : a.eval x = .slice (some ⟨wr.heap.size, 0, none⟩) 1 1) (hlen : ls.length ≤ 1000000000) (hbase : base ≤ wr.heap.size)
    (hcont : ∀ v' w', WdOwn base w' v' (ls ++ [⟨xh, xl⟩]) → GrB wr w' v v' → K (a.put o.dst v') w') :
    Oper.wp Tryz.prog o a (wr.alloc (.cells #[.int .i64 xh, .int .i64 xl] 33)) K Q := by
  obtain ⟨v', w', hr, h2, h3⟩ := run_push_wd wr xh xl o.type base v ls hown hlen hbase
  unfold Oper.wp execOp
  simp only [ho, resolve, invoke, builtin, Sem.run_bind, Sem.run_pure, Result.andThen_ok, List.map_toArray, List.map_cons, List.map_nil, hs, hx, hr]
  exact hcont _ _ h2 h3
theorem wpList_push_wd {ops : Array Oper} {rest : List Oper} {o : Oper} {a : Act} {Q : Exit → Act → World → Prop} (hgd : o.guard = none) (s x : Operand)
    (ho : o.op = .call { callee := .builtin .append, args := #[s, x], argTypes := #[34, 34] }) (wr : World) (xh xl : Int)
    (base : Nat) (v : Value) (ls : List Wd) (hs : a.eval s = v) (hown : WdOwn base wr v ls)
    (hx : a.eval x = .slice (some ⟨wr.heap.size, 0, none⟩) 1 1) (hlen : ls.length ≤ 1000000000) (hbase : base ≤ wr.heap.size)
    (hcont : ∀ v' w', WdOwn base w' v' (ls ++ [⟨xh, xl⟩]) → GrB wr w' v v' → wpList Tryz.prog ops Q rest (a.put o.dst v') w') :
    wpList Tryz.prog ops Q (o :: rest) a (wr.alloc (.cells #[.int .i64 xh, .int .i64 xl] 33)) :=
  wpList_plain hgd fun _ hK => wp_push_wd s x ho wr xh xl base v ls hs hown hx hlen hbase fun v' w' h2 h3 => hK _ _ (hcont v' w' h2 h3)
theorem step_push_wd {ops : Array Oper} {o : Oper} {a : Act} {K : Act → World → Prop} {Q : Exit → Act → World → Prop} {E : Prop} (hgd : o.guard = none) (s x : Operand)
    (ho : o.op = .call { callee := .builtin .append, args := #[s, x], argTypes := #[34, 34] }) (wr : World) (xh xl : Int)
    (base : Nat) (v : Value) (ls : List Wd) (hs : a.eval s = v) (hown : WdOwn base wr v ls)
    (hx : a.eval x = .slice (some ⟨wr.heap.size, 0, none⟩) 1 1) (hlen : ls.length ≤ 1000000000) (hbase : base ≤ wr.heap.size)
    (hcont : ∀ v' w', WdOwn base w' v' (ls ++ [⟨xh, xl⟩]) → GrB wr w' v v' → K (a.put o.dst v') w') :
    if Region.wanted o (yielded ops a.tmps) = true then Oper.wp Tryz.prog o a (wr.alloc (.cells #[.int .i64 xh, .int .i64 xl] 33)) K Q else E := by
  have hw : Region.wanted o (yielded ops a.tmps) = true := by simp [Region.wanted, hgd]
  rw [if_pos hw]
  exact wp_push_wd s x ho wr xh xl base v ls hs hown hx hlen hbase hcont

end Go.Proofs.YtekmnopgaopmlaaGreatDoor

/- Records: RecordRight of the model walked. -/
set_option maxRecDepth 100000
namespace Go.Proofs.YtekmnopgaopmlaaGreatDoor
open Go.RowKit

/-- What is asked. -/
structure Rc where
  nr : Int
  ar : Int
  ip : Wd
  args : List Wd
def Rc.wf (r : Rc) : Prop := In64 r.nr ∧ In64 r.ar ∧ r.ip.wf ∧ ∀ x ∈ r.args, x.wf
def rcRight (r : Rc) : Bool := isB r.nr 0 4294967295 && isB r.ar 0 4294967295 && wdRight r.ip && decide (r.args.length = 6) && r.args.all wdRight
/-- Its value: the cells, with the slice of its words. -/
abbrev rcV (r : Rc) (v : Value) : Value := .agg #[.int .i64 r.nr, .int .i64 r.ar, .int .i64 r.ip.h, .int .i64 r.ip.l, v]

theorem allW_take {l : List Wd} {k : Nat} (h : (l.take k).all wdRight = true) (hk : k < l.length) (hx : wdRight l[k] = true) : (l.take (k + 1)).all wdRight = true := by
  rw [List.take_succ_eq_append_getElem hk, List.all_append, h]
  simp [hx]
theorem allW_bad {l : List Wd} {k : Nat} (hk : k < l.length) (hx : wdRight l[k] = false) : l.all wdRight = false := by
  rw [List.all_eq_false]
  exact ⟨l[k], List.getElem_mem hk, by simp [hx]⟩

set_option maxHeartbeats 1600000 in
theorem specRecordRight_any (r : Rc) (v : Value) (w : World) (hv : WdAt w w.heap.size v r.args) :
    Calls Tryz.prog 72 #[rcV r v] w fun e w' => e = .returned (.bool (rcRight r)) ∧ Below w.heap.size w w' := by
  obtain ⟨nr, ar, ⟨ih, il⟩, args⟩ := r
  obtain ⟨a, cap, rfl, hlc, hcm⟩ := hv.len
  unfold maxLen at hcm
  simp only at hv hlc ⊢
  have qw := fun W => specWordRight_any ih il W
  have hr : rcRight ⟨nr, ar, ⟨ih, il⟩, args⟩ = (isB nr 0 4294967295 && isB ar 0 4294967295 && wdRight ⟨ih, il⟩ && decide (args.length = 6) && args.all wdRight) := rfl
  cases h0 : isB nr 0 4294967295
  · have HR := Lib.hid (show rcRight ⟨nr, ar, ⟨ih, il⟩, args⟩ = false by rw [hr, h0]; simp)
    clear hr qw hv
    go_enter Tryz.func72, Tryz.ntmps72
    go_wp2_with (go_at_call 81; refine (l02Is_any _ _ _ _).mono ?_; rintro e w' ⟨rfl, rfl⟩)
    go_ret
    exact ⟨ret_bool HR.out.symm, (Below.refl _ _).alloc (Nat.le_refl _) _⟩
  cases h1 : isB ar 0 4294967295
  · have HR := Lib.hid (show rcRight ⟨nr, ar, ⟨ih, il⟩, args⟩ = false by rw [hr, h1]; simp)
    clear hr qw hv
    go_enter Tryz.func72, Tryz.ntmps72
    go_wp2_with (go_at_call 81; refine (l02Is_any _ _ _ _).mono ?_; rintro e w' ⟨rfl, rfl⟩)
    go_ret
    exact ⟨ret_bool HR.out.symm, (Below.refl _ _).alloc (Nat.le_refl _) _⟩
  cases h2 : wdRight ⟨ih, il⟩ <;> rw [h2] at qw
  · have HR := Lib.hid (show rcRight ⟨nr, ar, ⟨ih, il⟩, args⟩ = false by rw [hr, h2]; simp)
    have QW := Lib.hid qw
    clear hr qw hv h2
    go_enter Tryz.func72, Tryz.ntmps72
    go_wp2_with (go_at_call 81; refine (l02Is_any _ _ _ _).mono ?_; rintro e w' ⟨rfl, rfl⟩)
    refine (QW.out _).mono ?_
    rintro e w1 ⟨rfl, hb1⟩
    have HB := Lib.hid (box_below hb1)
    clear hb1
    go_wp2_with fail
    go_ret
    exact ⟨ret_bool HR.out.symm, HB.out⟩
  have QW := Lib.hid qw
  have HV := Lib.hid hv
  clear qw hv
  by_cases h3 : args.length = 6
  · have HR := Lib.hid (show rcRight ⟨nr, ar, ⟨ih, il⟩, args⟩ = args.all wdRight by rw [hr, h0, h1, h2, h3]; simp)
    have hq : ((args.length : Int) != 6) = false := by rw [h3]; rfl
    have H3 := Lib.hid h3
    have hl6 : args.length ≤ 6 := by omega
    clear hr h3 h2
    go_enter Tryz.func72, Tryz.ntmps72
    go_wp2_with (go_at_call 81; refine (l02Is_any _ _ _ _).mono ?_; rintro e w' ⟨rfl, rfl⟩)
    refine (QW.out _).mono ?_
    rintro e w1 ⟨rfl, hb1⟩
    have c4 := box_cell hb1 4
    simp only [List.getElem?_toArray, List.getElem?_cons_zero, List.getElem?_cons_succ] at c4
    have HB1 := Lib.hid hb1
    clear hb1
    go_wp2_with fail
    go_loopw [3] (fun i wr => ∃ k : Nat, k ≤ args.length ∧ i = .int .i64 k ∧ (args.take k).all wdRight = true ∧
        Below (w.alloc (.cells #[.int .i64 nr, .int .i64 ar, .int .i64 ih, .int .i64 il, .slice a args.length cap] 36)).heap.size (w.alloc (.cells #[.int .i64 nr, .int .i64 ar, .int .i64 ih, .int .i64 il, .slice a args.length cap] 36)) wr)
      (fun i _ => args.length - (intOf i).toNat)
    case atStart => exact ⟨0, by omega, rfl, by simp, HB1.out⟩
    case round =>
      obtain ⟨k, hk, rfl, hall, hbw⟩ := hrel
      have c4 := box_cell hbw 4
      simp only [List.getElem?_toArray, List.getElem?_cons_zero, List.getElem?_cons_succ] at c4
      have HA := Lib.hid hall
      have HX := Lib.hid (box_below hbw)
      have HB := Lib.hid hbw
      clear hall hbw
      by_cases hlt : k < args.length
      · obtain ⟨b, o, e, hb, d0, d1, hwf⟩ := WdAt.place (LAt.below HV.out HX.out) (List.getElem?_eq_getElem hlt)
        subst e
        go_wp2_with fail
        refine (specWordRight_any _ _ _).mono ?_
        rintro e w2 ⟨rfl, hb2⟩
        have HB2 := Lib.hid (HB.out.trans (hb2.mono HB.out.size))
        clear hb2
        cases hx : wdRight args[k] with
        | true =>
          have HN := Lib.hid (allW_take HA.out hlt hx)
          have hx' : wdRight ⟨args[k].h, args[k].l⟩ = true := hx
          clear hx
          go_wp2_with fail
          go_roundw
          case rel => exact ⟨k + 1, by omega, by go_num, HN.out, HB2.out⟩
          case measure => simp [intOf]; omega
        | false =>
          have HN := Lib.hid (HR.out.trans (allW_bad hlt hx))
          have hx' : wdRight ⟨args[k].h, args[k].l⟩ = false := hx
          clear hx
          go_wp2_with fail
          go_ret
          exact ⟨ret_bool HN.out.symm, box_below HB2.out⟩
      · have HN := Lib.hid (show rcRight ⟨nr, ar, ⟨ih, il⟩, args⟩ = true by
          have := HA.out
          rw [List.take_of_length_le (by omega)] at this
          rw [HR.out, this])
        go_wp2_with fail
        go_ret
        exact ⟨ret_bool HN.out.symm, HX.out⟩
  · have HR := Lib.hid (show rcRight ⟨nr, ar, ⟨ih, il⟩, args⟩ = false by rw [hr]; simp [h3])
    have hq : ((args.length : Int) != 6) = true := by simp; omega
    clear hr h3 h2
    go_enter Tryz.func72, Tryz.ntmps72
    go_wp2_with (go_at_call 81; refine (l02Is_any _ _ _ _).mono ?_; rintro e w' ⟨rfl, rfl⟩)
    refine (QW.out _).mono ?_
    rintro e w1 ⟨rfl, hb1⟩
    have c4 := box_cell hb1 4
    simp only [List.getElem?_toArray, List.getElem?_cons_zero, List.getElem?_cons_succ] at c4
    have HB1 := Lib.hid (box_below hb1)
    clear hb1
    go_wp2_with fail
    go_ret
    exact ⟨ret_bool HR.out.symm, HB1.out⟩

end Go.Proofs.YtekmnopgaopmlaaGreatDoor

/- Records as bytes: l03Word, l03Bytes, RecordBytes of the model walked. -/
set_option maxRecDepth 100000
namespace Go.Proofs.YtekmnopgaopmlaaGreatDoor
open Go.RowKit
attribute [local go_sem ↓] Go.wp_at_zero Go.wp_at_succ

def wdB (x : Wd) : List UInt8 := leB 4 x.l ++ leB 4 x.h
def rcB (r : Rc) : List UInt8 := leB 4 r.nr ++ leB 4 r.ar ++ wdB r.ip ++ r.args.flatMap wdB
theorem wdB_length (x : Wd) : (wdB x).length = 8 := by simp [wdB, leB_length]
def rbOf (r : Rc) : ByteArray := if rcRight r then ⟨(rcB r).toArray⟩ else ⟨#[]⟩
theorem wd_bounds {x : Wd} (h : wdRight x = true) : (0 ≤ x.h ∧ x.h ≤ 4294967295) ∧ (0 ≤ x.l ∧ x.l ≤ 4294967295) := by
  unfold wdRight isB at h
  simpa [and_assoc] using h

theorem put4W_any (n : Int) (w : World) (h0 : 0 ≤ n) (h1 : n ≤ 9223372036854775807) : Calls Tryz.prog 93 #[.int .i64 n, .int .i64 4] w fun e w' => e = .returned (.string ⟨(leB 4 n).toArray⟩) ∧ Below w.heap.size w w' := l02Put_any n 4 w h0 h1 (by omega)

set_option maxHeartbeats 1600000 in
theorem l03Word_any (h l : Int) (w : World) (h0 : 0 ≤ h) (h1 : h ≤ 4294967295) (l0 : 0 ≤ l) (l1 : l ≤ 4294967295) :
    Calls Tryz.prog 94 #[.agg #[.int .i64 h, .int .i64 l]] w fun e w' => e = .returned (.string ⟨(wdB ⟨h, l⟩).toArray⟩) ∧ Below w.heap.size w w' := by
  have hq1 := fun W => put4W_any l W l0 (by omega)
  have hq2 := fun W => put4W_any h W h0 (by omega)
  obtain ⟨A1, hA1⟩ : ∃ A : ByteArray, A = ⟨(leB 4 l).toArray⟩ := ⟨_, rfl⟩
  obtain ⟨A2, hA2⟩ : ∃ A : ByteArray, A = ⟨(leB 4 h).toArray⟩ := ⟨_, rfl⟩
  have HY := Lib.hid (show (⟨(wdB ⟨h, l⟩).toArray⟩ : ByteArray) = A1 ++ A2 by rw [hA1, hA2]; apply ByteArray.ext; simp [ByteArray.data_append, wdB])
  simp only [← hA1] at hq1
  simp only [← hA2] at hq2
  have hz1 : A1.size ≤ 4 := by rw [hA1, size_mk, leB_length]; omega
  have hz2 : A2.size ≤ 4 := by rw [hA2, size_mk, leB_length]; omega
  have s1 : ∀ W, (Op.stringOp .add A1 A2).run Tryz.prog W = .ok (.string (A1 ++ A2)) W := fun W => run_string_add_sum W _ _ (by omega)
  have Q1 := Lib.hid hq1
  have Q2 := Lib.hid hq2
  clear hq1 hq2 hA1 hA2
  have hkeep : ∀ w' : World, Below (w.alloc (.cells #[.int .i64 h, .int .i64 l] 33)).heap.size (w.alloc (.cells #[.int .i64 h, .int .i64 l] 33)) w' → (w'.cell? ⟨w.heap.size, 0, none⟩ = some (.int .i64 h) ∧ w'.cell? ⟨w.heap.size, 1, none⟩ = some (.int .i64 l)) :=
    fun w' hb => ⟨box_cell hb 0, box_cell hb 1⟩
  have HK := Lib.hid hkeep
  clear hkeep
  have hbw1 : Below (w.alloc (.cells #[.int .i64 h, .int .i64 l] 33)).heap.size (w.alloc (.cells #[.int .i64 h, .int .i64 l] 33)) (w.alloc (.cells #[.int .i64 h, .int .i64 l] 33)).drew := (Below.refl _ _).drew
  go_enter Tryz.func94, Tryz.ntmps94
  go_wp2_with fail
  go_region_held3 (fun w' => w'.cell? ⟨w.heap.size, 0, none⟩ = some (.int .i64 h) ∧ w'.cell? ⟨w.heap.size, 1, none⟩ = some (.int .i64 l))
    (first | go_keep | exact HK.out _ hbw3 | exact HK.out _ hbw2)
    (first
      | (go_at_call 93; (with_reducible refine (Q1.out _).mono ?_); rintro e w2 ⟨rfl, hb2⟩; have hbw2 := hbw1.trans (hb2.mono hbw1.size))
      | (go_at_call 93; (with_reducible refine (Q2.out _).mono ?_); rintro e w3 ⟨rfl, hb3⟩; have hbw3 := hbw2.trans (hb3.mono hbw2.size)))
  all_goals
    go_wp2_with fail
    go_ret
    exact ⟨ret_str HY.out.symm, box_below hbw3⟩

theorem rcRight_parts {r : Rc} (h : rcRight r = true) : (0 ≤ r.nr ∧ r.nr ≤ 4294967295) ∧ (0 ≤ r.ar ∧ r.ar ≤ 4294967295) ∧ wdRight r.ip = true ∧ r.args.length = 6 ∧ ∀ i (hi : i < r.args.length), wdRight r.args[i] = true := by
  unfold rcRight isB at h
  simp only [Bool.and_eq_true, decide_eq_true_eq, List.all_eq_true] at h
  exact ⟨h.1.1.1.1, h.1.1.1.2, h.1.1.2, h.1.2, fun i hi => h.2 _ (List.getElem_mem hi)⟩
theorem wdBs_next {l : List Wd} {k : Nat} (hk : k < l.length) : (l.take (k + 1)).flatMap wdB = (l.take k).flatMap wdB ++ wdB l[k] := by
  rw [List.take_succ_eq_append_getElem hk, List.flatMap_append]; simp
theorem wdBs_length (l : List Wd) : (l.flatMap wdB).length = 8 * l.length := by
  induction l with
  | nil => rfl
  | cons x l ih => rw [List.flatMap_cons, List.length_append, wdB_length, ih, List.length_cons]; omega
theorem str_app (a b : List UInt8) : (⟨a.toArray⟩ : ByteArray) ++ ⟨b.toArray⟩ = ⟨(a ++ b).toArray⟩ := by apply ByteArray.ext; simp [ByteArray.data_append]

set_option maxHeartbeats 3200000 in
theorem l03Bytes_any (r : Rc) (v : Value) (w : World) (hv : WdAt w w.heap.size v r.args) (hr : rcRight r = true) :
    Calls Tryz.prog 73 #[rcV r v] w fun e w' => e = .returned (.string ⟨(rcB r).toArray⟩) ∧ Below w.heap.size w w' := by
  obtain ⟨nr, ar, ⟨ih, il⟩, args⟩ := r
  obtain ⟨⟨n0, n1⟩, ⟨r0, r1⟩, hip, hlen, hargs⟩ := rcRight_parts hr
  simp only at n0 n1 r0 r1 hip hlen hargs hv ⊢
  obtain ⟨⟨ih0, ih1⟩, ⟨il0, il1⟩⟩ := wd_bounds hip
  simp only at ih0 ih1 il0 il1
  obtain ⟨a, cap, rfl, hlc, hcm⟩ := hv.len
  unfold maxLen at hcm
  have HV := Lib.hid hv
  have HA := Lib.hid hargs
  have HLEN := Lib.hid hlen
  have hl6 : args.length ≤ 6 := by omega
  have hq1 := fun W => put4W_any nr W n0 (by omega)
  have hq2 := fun W => put4W_any ar W r0 (by omega)
  have hq3 := fun W => l03Word_any ih il W ih0 ih1 il0 il1
  obtain ⟨A1, hA1⟩ : ∃ A : ByteArray, A = ⟨(leB 4 nr).toArray⟩ := ⟨_, rfl⟩
  obtain ⟨A2, hA2⟩ : ∃ A : ByteArray, A = ⟨(leB 4 ar).toArray⟩ := ⟨_, rfl⟩
  obtain ⟨A3, hA3⟩ : ∃ A : ByteArray, A = ⟨(wdB ⟨ih, il⟩).toArray⟩ := ⟨_, rfl⟩
  have HY := Lib.hid (show A1 ++ A2 ++ A3 = (⟨(leB 4 nr ++ leB 4 ar ++ wdB ⟨ih, il⟩).toArray⟩ : ByteArray) by rw [hA1, hA2, hA3, str_app, str_app])
  simp only [← hA1] at hq1
  simp only [← hA2] at hq2
  simp only [← hA3] at hq3
  have hz1 : A1.size ≤ 4 := by rw [hA1, size_mk, leB_length]; omega
  have hz2 : A2.size ≤ 4 := by rw [hA2, size_mk, leB_length]; omega
  have hz3 : A3.size ≤ 8 := by rw [hA3, size_mk, wdB_length]; omega
  have s1 : ∀ W, (Op.stringOp .add A1 A2).run Tryz.prog W = .ok (.string (A1 ++ A2)) W := fun W => run_string_add_sum W _ _ (by omega)
  have s2 : ∀ W, (Op.stringOp .add (A1 ++ A2) A3).run Tryz.prog W = .ok (.string (A1 ++ A2 ++ A3)) W := fun W => run_string_add_sum W _ _ (by simp only [ByteArray.size_append]; omega)
  have Q1 := Lib.hid hq1
  have Q2 := Lib.hid hq2
  have Q3 := Lib.hid hq3
  clear hq1 hq2 hq3 hA1 hA2 hA3 hv hr hip hargs hlen
  have hkeep : ∀ w' : World, Below (w.alloc (.cells #[.int .i64 nr, .int .i64 ar, .int .i64 ih, .int .i64 il, .slice a args.length cap] 36)).heap.size (w.alloc (.cells #[.int .i64 nr, .int .i64 ar, .int .i64 ih, .int .i64 il, .slice a args.length cap] 36)) w' →
      (w'.cell? ⟨w.heap.size, 0, none⟩ = some (.int .i64 nr) ∧ w'.cell? ⟨w.heap.size, 1, none⟩ = some (.int .i64 ar) ∧ w'.cell? ⟨w.heap.size, 2, none⟩ = some (.int .i64 ih) ∧ w'.cell? ⟨w.heap.size, 3, none⟩ = some (.int .i64 il)) :=
    fun w' hb => ⟨box_cell hb 0, box_cell hb 1, box_cell hb 2, box_cell hb 3⟩
  have HK := Lib.hid hkeep
  clear hkeep
  have hbw1 : Below (w.alloc (.cells #[.int .i64 nr, .int .i64 ar, .int .i64 ih, .int .i64 il, .slice a args.length cap] 36)).heap.size (w.alloc (.cells #[.int .i64 nr, .int .i64 ar, .int .i64 ih, .int .i64 il, .slice a args.length cap] 36)) (w.alloc (.cells #[.int .i64 nr, .int .i64 ar, .int .i64 ih, .int .i64 il, .slice a args.length cap] 36)).drew := (Below.refl _ _).drew
  go_enter Tryz.func73, Tryz.ntmps73
  go_wp2_with fail
  go_region_held3 (fun w' => w'.cell? ⟨w.heap.size, 0, none⟩ = some (.int .i64 nr) ∧ w'.cell? ⟨w.heap.size, 1, none⟩ = some (.int .i64 ar) ∧ w'.cell? ⟨w.heap.size, 2, none⟩ = some (.int .i64 ih) ∧ w'.cell? ⟨w.heap.size, 3, none⟩ = some (.int .i64 il))
    (first | go_keep | exact HK.out _ hbw4 | exact HK.out _ hbw3 | exact HK.out _ hbw2)
    (first
      | (go_at_call 93; (with_reducible refine (Q1.out _).mono ?_); rintro e w2 ⟨rfl, hb2⟩; have hbw2 := hbw1.trans (hb2.mono hbw1.size))
      | (go_at_call 93; (with_reducible refine (Q2.out _).mono ?_); rintro e w3 ⟨rfl, hb3⟩; have hbw3 := hbw2.trans (hb3.mono hbw2.size))
      | (go_at_call 94; (with_reducible refine (Q3.out _).mono ?_); rintro e w4 ⟨rfl, hb4⟩; have hbw4 := hbw3.trans (hb4.mono hbw3.size)))
  have HB4 := Lib.hid hbw4
  clear hbw4 hbw3 hbw2 hb2 hb3 hb4 s1 s2
  go_wp2_with fail
  go_loopw [3, 4] (fun u i wr => ∃ (k : Nat) (T : ByteArray), k ≤ args.length ∧ i = .int .i64 k ∧ u = .string T ∧ T.size ≤ 16 + 8 * k ∧ T = ⟨((leB 4 nr ++ leB 4 ar ++ wdB ⟨ih, il⟩) ++ (args.take k).flatMap wdB).toArray⟩ ∧
      Below (w.alloc (.cells #[.int .i64 nr, .int .i64 ar, .int .i64 ih, .int .i64 il, .slice a args.length cap] 36)).heap.size (w.alloc (.cells #[.int .i64 nr, .int .i64 ar, .int .i64 ih, .int .i64 il, .slice a args.length cap] 36)) wr)
    (fun _ i _ => args.length - (intOf i).toNat)
  case atStart => exact ⟨0, _, by omega, rfl, rfl, by simp only [ByteArray.size_append]; omega, by rw [HY.out]; simp, HB4.out⟩
  case round =>
    obtain ⟨k, T, hk, rfl, rfl, hTs, hT, hbw⟩ := hrel
    have c4 := box_cell hbw 4
    simp only [List.getElem?_toArray, List.getElem?_cons_zero, List.getElem?_cons_succ] at c4
    have HT := Lib.hid hT
    have HX := Lib.hid (box_below hbw)
    have HB := Lib.hid hbw
    clear hT hbw
    by_cases hlt : k < args.length
    · obtain ⟨b, o, e, hb, d0, d1, hwf⟩ := WdAt.place (LAt.below HV.out HX.out) (List.getElem?_eq_getElem hlt)
      subst e
      have hx := HA.out k hlt
      have hbd := wd_bounds hx
      have hnx := wdBs_next hlt
      generalize args[k] = x at *
      obtain ⟨xh, xl⟩ := x
      obtain ⟨⟨xh0, xh1⟩, ⟨xl0, xl1⟩⟩ := hbd
      simp only at xh0 xh1 xl0 xl1 d0 d1
      have q := fun W => l03Word_any xh xl W xh0 xh1 xl0 xl1
      obtain ⟨C, hC⟩ : ∃ C : ByteArray, C = ⟨(wdB ⟨xh, xl⟩).toArray⟩ := ⟨_, rfl⟩
      simp only [← hC] at q
      have hzC : C.size ≤ 8 := by rw [hC, size_mk, wdB_length]; omega
      have HN := Lib.hid (show T ++ C = ⟨((leB 4 nr ++ leB 4 ar ++ wdB ⟨ih, il⟩) ++ (args.take (k + 1)).flatMap wdB).toArray⟩ by rw [HT.out, hC, hnx, str_app, List.append_assoc])
      have HTC := Lib.hid (show (T ++ C).size ≤ 16 + 8 * (k + 1) by simp only [ByteArray.size_append]; omega)
      have QQ := Lib.hid q
      clear q hC hnx hx
      go_wp2_with fail
      refine (QQ.out _).mono ?_
      rintro e w2 ⟨rfl, hb2⟩
      have HB2 := Lib.hid (HB.out.trans (hb2.mono HB.out.size))
      clear hb2
      go_wp2_with fail
      go_roundw
      case rel => exact ⟨k + 1, _, by omega, by go_num, rfl, HTC.out, HN.out, HB2.out⟩
      case measure => simp [intOf]; omega
    · have HF := Lib.hid (show T = ⟨(rcB ⟨nr, ar, ⟨ih, il⟩, args⟩).toArray⟩ by
        rw [HT.out, List.take_of_length_le (by omega)]; rfl)
      go_wp2_with fail
      go_ret
      exact ⟨ret_str HF.out, HX.out⟩

theorem rbOf_no {r : Rc} (h : rcRight r = false) : rbOf r = ⟨#[]⟩ := by unfold rbOf; rw [if_neg (by simp [h])]
theorem rbOf_yes {r : Rc} (h : rcRight r = true) : rbOf r = ⟨(rcB r).toArray⟩ := by unfold rbOf; rw [if_pos h]

set_option maxHeartbeats 800000 in
theorem specRecordBytes_any (r : Rc) (v : Value) (w : World) (hv : WdAt w w.heap.size v r.args) :
    Calls Tryz.prog 40 #[rcV r v] w fun e w' => e = .returned (.string (rbOf r)) ∧ Below w.heap.size w w' := by
  obtain ⟨a, cap, rfl, hlc, hcm⟩ := hv.len
  have hb0 : ∀ o, Below w.heap.size w (w.alloc o) := fun o => (Below.refl _ _).alloc (Nat.le_refl _) _
  have hv0 := fun o => LAt.up (LAt.below hv (hb0 o)) (hb0 o).size
  have q1 := fun o => specRecordRight_any r _ (w.alloc o) (hv0 o)
  cases hr : rcRight r with
  | false =>
    have HN := Lib.hid (rbOf_no hr)
    simp only [hr] at q1
    have Q1 := Lib.hid q1
    clear q1 hv0 hv hb0 hr
    obtain ⟨nr, ar, ⟨ih, il⟩, args⟩ := r
    simp only at Q1 ⊢
    go_enter Tryz.func40, Tryz.ntmps40
    go_wp2_with fail
    refine (Q1.out _).mono ?_
    rintro e w1 ⟨rfl, hb1⟩
    have HB := Lib.hid (box_below hb1)
    clear hb1
    go_wp2_with fail
    go_ret
    exact ⟨ret_str HN.out.symm, HB.out⟩
  | true =>
    have HN := Lib.hid (rbOf_yes hr)
    have q2 := fun W (h : Below w.heap.size w W) => l03Bytes_any r _ W (LAt.up (LAt.below hv h) h.size) hr
    have hz : (⟨(rcB r).toArray⟩ : ByteArray).size ≤ 64 := by
      have := (rcRight_parts hr).2.2.2.1
      rw [size_mk]
      simp only [rcB, List.length_append, leB_length, wdB_length, wdBs_length, this]
      omega
    simp only [hr] at q1
    generalize (⟨(rcB r).toArray⟩ : ByteArray) = A at *
    have Q1 := Lib.hid q1
    have Q2 := Lib.hid q2
    clear q1 q2 hv0 hv hb0 hr
    obtain ⟨nr, ar, ⟨ih, il⟩, args⟩ := r
    simp only at Q1 Q2 hlc ⊢
    go_enter Tryz.func40, Tryz.ntmps40
    go_wp2_with fail
    refine (Q1.out _).mono ?_
    rintro e w1 ⟨rfl, hb1⟩
    have c0 := box_cell hb1 0
    have c1 := box_cell hb1 1
    have c2 := box_cell hb1 2
    have c3 := box_cell hb1 3
    have c4 := box_cell hb1 4
    simp only [List.getElem?_toArray, List.getElem?_cons_zero, List.getElem?_cons_succ] at c0 c1 c2 c3 c4
    have HB := Lib.hid (box_below hb1)
    clear hb1
    go_wp2_with fail
    clear c0 c1 c2 c3 c4
    refine (Q2.out _ HB.out).mono ?_
    rintro e w2 ⟨rfl, hb2⟩
    have HB2 := Lib.hid (HB.out.trans (hb2.mono HB.out.size))
    clear hb2
    go_wp2_with fail
    go_ret
    exact ⟨ret_str HN.out.symm, HB2.out⟩

end Go.Proofs.YtekmnopgaopmlaaGreatDoor

/- Walks of the program's records: rowOf, words, wordsOf, RecordRight. -/
set_option maxRecDepth 100000
set_option linter.unusedSimpArgs false
namespace Go.Proofs.YtekmnopgaopmlaaGreatDoor
open Go.RowKit
attribute [local go_sem ↓] Go.wp_at_zero Go.wp_at_succ

/-- A row of cells, filled up to a place. -/
def fillV (vs : List Value) (z : Value) (k : Nat) : Array Value := (vs.take k ++ List.replicate (vs.length - k) z).toArray

theorem idxW0 (h0 l0 h1 l1 h2 l2 h3 l3 h4 l4 h5 l5 h6 l6 h7 l7 : Int) (w : World) : (Instr.index 136 (.agg #[.int .i64 h0, .int .i64 l0, .int .i64 h1, .int .i64 l1, .int .i64 h2, .int .i64 l2, .int .i64 h3, .int .i64 l3, .int .i64 h4, .int .i64 l4, .int .i64 h5, .int .i64 l5, .int .i64 h6, .int .i64 l6, .int .i64 h7, .int .i64 l7]) (.int .i64 0)).run Tryz.prog w = .ok (.agg #[.int .i64 h0, .int .i64 l0]) w := by
  simp [Instr.index, part, asIntOf, go_sem]

theorem idxW1 (h0 l0 h1 l1 h2 l2 h3 l3 h4 l4 h5 l5 h6 l6 h7 l7 : Int) (w : World) : (Instr.index 136 (.agg #[.int .i64 h0, .int .i64 l0, .int .i64 h1, .int .i64 l1, .int .i64 h2, .int .i64 l2, .int .i64 h3, .int .i64 l3, .int .i64 h4, .int .i64 l4, .int .i64 h5, .int .i64 l5, .int .i64 h6, .int .i64 l6, .int .i64 h7, .int .i64 l7]) (.int .i64 1)).run Tryz.prog w = .ok (.agg #[.int .i64 h1, .int .i64 l1]) w := by
  simp [Instr.index, part, asIntOf, go_sem]

theorem idxW2 (h0 l0 h1 l1 h2 l2 h3 l3 h4 l4 h5 l5 h6 l6 h7 l7 : Int) (w : World) : (Instr.index 136 (.agg #[.int .i64 h0, .int .i64 l0, .int .i64 h1, .int .i64 l1, .int .i64 h2, .int .i64 l2, .int .i64 h3, .int .i64 l3, .int .i64 h4, .int .i64 l4, .int .i64 h5, .int .i64 l5, .int .i64 h6, .int .i64 l6, .int .i64 h7, .int .i64 l7]) (.int .i64 2)).run Tryz.prog w = .ok (.agg #[.int .i64 h2, .int .i64 l2]) w := by
  simp [Instr.index, part, asIntOf, go_sem]

theorem idxW3 (h0 l0 h1 l1 h2 l2 h3 l3 h4 l4 h5 l5 h6 l6 h7 l7 : Int) (w : World) : (Instr.index 136 (.agg #[.int .i64 h0, .int .i64 l0, .int .i64 h1, .int .i64 l1, .int .i64 h2, .int .i64 l2, .int .i64 h3, .int .i64 l3, .int .i64 h4, .int .i64 l4, .int .i64 h5, .int .i64 l5, .int .i64 h6, .int .i64 l6, .int .i64 h7, .int .i64 l7]) (.int .i64 3)).run Tryz.prog w = .ok (.agg #[.int .i64 h3, .int .i64 l3]) w := by
  simp [Instr.index, part, asIntOf, go_sem]

theorem idxW4 (h0 l0 h1 l1 h2 l2 h3 l3 h4 l4 h5 l5 h6 l6 h7 l7 : Int) (w : World) : (Instr.index 136 (.agg #[.int .i64 h0, .int .i64 l0, .int .i64 h1, .int .i64 l1, .int .i64 h2, .int .i64 l2, .int .i64 h3, .int .i64 l3, .int .i64 h4, .int .i64 l4, .int .i64 h5, .int .i64 l5, .int .i64 h6, .int .i64 l6, .int .i64 h7, .int .i64 l7]) (.int .i64 4)).run Tryz.prog w = .ok (.agg #[.int .i64 h4, .int .i64 l4]) w := by
  simp [Instr.index, part, asIntOf, go_sem]

theorem idxW5 (h0 l0 h1 l1 h2 l2 h3 l3 h4 l4 h5 l5 h6 l6 h7 l7 : Int) (w : World) : (Instr.index 136 (.agg #[.int .i64 h0, .int .i64 l0, .int .i64 h1, .int .i64 l1, .int .i64 h2, .int .i64 l2, .int .i64 h3, .int .i64 l3, .int .i64 h4, .int .i64 l4, .int .i64 h5, .int .i64 l5, .int .i64 h6, .int .i64 l6, .int .i64 h7, .int .i64 l7]) (.int .i64 5)).run Tryz.prog w = .ok (.agg #[.int .i64 h5, .int .i64 l5]) w := by
  simp [Instr.index, part, asIntOf, go_sem]

theorem idxW6 (h0 l0 h1 l1 h2 l2 h3 l3 h4 l4 h5 l5 h6 l6 h7 l7 : Int) (w : World) : (Instr.index 136 (.agg #[.int .i64 h0, .int .i64 l0, .int .i64 h1, .int .i64 l1, .int .i64 h2, .int .i64 l2, .int .i64 h3, .int .i64 l3, .int .i64 h4, .int .i64 l4, .int .i64 h5, .int .i64 l5, .int .i64 h6, .int .i64 l6, .int .i64 h7, .int .i64 l7]) (.int .i64 6)).run Tryz.prog w = .ok (.agg #[.int .i64 h6, .int .i64 l6]) w := by
  simp [Instr.index, part, asIntOf, go_sem]

theorem idxW7 (h0 l0 h1 l1 h2 l2 h3 l3 h4 l4 h5 l5 h6 l6 h7 l7 : Int) (w : World) : (Instr.index 136 (.agg #[.int .i64 h0, .int .i64 l0, .int .i64 h1, .int .i64 l1, .int .i64 h2, .int .i64 l2, .int .i64 h3, .int .i64 l3, .int .i64 h4, .int .i64 l4, .int .i64 h5, .int .i64 l5, .int .i64 h6, .int .i64 l6, .int .i64 h7, .int .i64 l7]) (.int .i64 7)).run Tryz.prog w = .ok (.agg #[.int .i64 h7, .int .i64 l7]) w := by
  simp [Instr.index, part, asIntOf, go_sem]

set_option maxHeartbeats 3200000 in
theorem rowOf_any (h0 l0 h1 l1 h2 l2 h3 l3 h4 l4 h5 l5 h6 l6 h7 l7 : Int) (w : World) : Calls Tryz.prog 88 #[.agg #[.int .i64 h0, .int .i64 l0, .int .i64 h1, .int .i64 l1, .int .i64 h2, .int .i64 l2, .int .i64 h3, .int .i64 l3, .int .i64 h4, .int .i64 l4, .int .i64 h5, .int .i64 l5, .int .i64 h6, .int .i64 l6, .int .i64 h7, .int .i64 l7]] w fun e w' =>
    e = .returned (.agg #[.int .u64 (bitsW ⟨h0, l0⟩), .int .u64 (bitsW ⟨h1, l1⟩), .int .u64 (bitsW ⟨h2, l2⟩), .int .u64 (bitsW ⟨h3, l3⟩), .int .u64 (bitsW ⟨h4, l4⟩), .int .u64 (bitsW ⟨h5, l5⟩), .int .u64 (bitsW ⟨h6, l6⟩), .int .u64 (bitsW ⟨h7, l7⟩)]) ∧ Below w.heap.size w w' := by
  have q0 := fun W => bitsOf_any h0 l0 W
  have q1 := fun W => bitsOf_any h1 l1 W
  have q2 := fun W => bitsOf_any h2 l2 W
  have q3 := fun W => bitsOf_any h3 l3 W
  have q4 := fun W => bitsOf_any h4 l4 W
  have q5 := fun W => bitsOf_any h5 l5 W
  have q6 := fun W => bitsOf_any h6 l6 W
  have q7 := fun W => bitsOf_any h7 l7 W
  generalize bitsW ⟨h0, l0⟩ = b0 at *
  generalize bitsW ⟨h1, l1⟩ = b1 at *
  generalize bitsW ⟨h2, l2⟩ = b2 at *
  generalize bitsW ⟨h3, l3⟩ = b3 at *
  generalize bitsW ⟨h4, l4⟩ = b4 at *
  generalize bitsW ⟨h5, l5⟩ = b5 at *
  generalize bitsW ⟨h6, l6⟩ = b6 at *
  generalize bitsW ⟨h7, l7⟩ = b7 at *
  have Q0 := Lib.hid q0
  have Q1 := Lib.hid q1
  have Q2 := Lib.hid q2
  have Q3 := Lib.hid q3
  have Q4 := Lib.hid q4
  have Q5 := Lib.hid q5
  have Q6 := Lib.hid q6
  have Q7 := Lib.hid q7
  clear q0 q1 q2 q3 q4 q5 q6 q7
  go_enter Tryz.func88, Tryz.ntmps88
  go_wp2_with fail
  go_loopw [7] (fun i wr => ∃ k : Nat, k ≤ 8 ∧ i = .int .i64 k ∧ wr.heap[w.heap.size + 1 + 1]? = some (.cells (fillV [.int .u64 b0, .int .u64 b1, .int .u64 b2, .int .u64 b3, .int .u64 b4, .int .u64 b5, .int .u64 b6, .int .u64 b7] (.int .u64 0) (1 * k)) 134 (0, 0)) ∧ wr.heap[w.heap.size + 1]? = some (.cells #[.int .u64 0, .int .u64 0, .int .u64 0, .int .u64 0, .int .u64 0, .int .u64 0, .int .u64 0, .int .u64 0] 134 (0, 0)) ∧ Below w.heap.size w wr)
    (fun i _ => 8 - (intOf i).toNat)
  case atStart =>
    have hb := rows3 (Below.refl _ (((w.alloc (.cells #[.int .i64 h0, .int .i64 l0, .int .i64 h1, .int .i64 l1, .int .i64 h2, .int .i64 l2, .int .i64 h3, .int .i64 l3, .int .i64 h4, .int .i64 l4, .int .i64 h5, .int .i64 l5, .int .i64 h6, .int .i64 l6, .int .i64 h7, .int .i64 l7] 136)).alloc (.cells #[.int .u64 0, .int .u64 0, .int .u64 0, .int .u64 0, .int .u64 0, .int .u64 0, .int .u64 0, .int .u64 0] 134)).alloc (.cells #[.int .u64 0, .int .u64 0, .int .u64 0, .int .u64 0, .int .u64 0, .int .u64 0, .int .u64 0, .int .u64 0] 134)))
    exact ⟨0, by omega, rfl, hb.2.2.1, hb.2.1, hb.2.2.2.1⟩
  case round =>
    obtain ⟨k, hk, rfl, hrow, hres, hbw⟩ := hrel
    have HB := Lib.hid hbw
    have HS := Lib.hid hres
    have hlt : w.heap.size + 1 + 1 < wr.heap.size := row_here hrow
    have HR := Lib.hid hrow
    clear hbw hres hrow
    rcases (by omega : k = 0 ∨ k = 1 ∨ k = 2 ∨ k = 3 ∨ k = 4 ∨ k = 5 ∨ k = 6 ∨ k = 7 ∨ k = 8) with rfl | rfl | rfl | rfl | rfl | rfl | rfl | rfl | rfl
    · have hrow : wr.heap[w.heap.size + 1 + 1]? = some (.cells #[.int .u64 0, .int .u64 0, .int .u64 0, .int .u64 0, .int .u64 0, .int .u64 0, .int .u64 0, .int .u64 0] 134 (0, 0)) := HR.out
      have HR0 := Lib.hid hrow
      have ix := fun W => idxW0 h0 l0 h1 l1 h2 l2 h3 l3 h4 l4 h5 l5 h6 l6 h7 l7 W
      clear hrow
      go_wp2_with fail
      refine (Q0.out _).mono ?_
      rintro e w2 ⟨rfl, hb2⟩
      have hbx : Below wr.heap.size wr w2 := box_below hb2
      have hrow2 := (hbx.block _ hlt).trans HR0.out
      have hres2 := (hbx.block _ (by omega)).trans HS.out
      have HX := Lib.hid hbx
      have HR2 := Lib.hid hrow2
      have HS2 := Lib.hid hres2
      have c0 := row_cell hrow2 0
      have f0 := frozen_row hrow2 0
      simp only [List.getElem?_toArray, List.getElem?_cons_zero, List.getElem?_cons_succ] at c0
      clear hb2 hbx hrow2 hres2 ix
      go_wp2_with fail
      go_roundw
      case rel => exact ⟨1, by omega, rfl, (row_put HR2.out 0 _), (row_other HS2.out _ _ (by omega)), ((HB.out.trans (HX.out.mono HB.out.size)).setCell (p := ⟨w.heap.size + 1 + 1, 0, none⟩) (by simp; omega) _)⟩
      case measure => simp [intOf]
    · have hrow : wr.heap[w.heap.size + 1 + 1]? = some (.cells #[.int .u64 b0, .int .u64 0, .int .u64 0, .int .u64 0, .int .u64 0, .int .u64 0, .int .u64 0, .int .u64 0] 134 (0, 0)) := HR.out
      have HR1 := Lib.hid hrow
      have ix := fun W => idxW1 h0 l0 h1 l1 h2 l2 h3 l3 h4 l4 h5 l5 h6 l6 h7 l7 W
      clear hrow
      go_wp2_with fail
      refine (Q1.out _).mono ?_
      rintro e w2 ⟨rfl, hb2⟩
      have hbx : Below wr.heap.size wr w2 := box_below hb2
      have hrow2 := (hbx.block _ hlt).trans HR1.out
      have hres2 := (hbx.block _ (by omega)).trans HS.out
      have HX := Lib.hid hbx
      have HR2 := Lib.hid hrow2
      have HS2 := Lib.hid hres2
      have c0 := row_cell hrow2 1
      have f0 := frozen_row hrow2 1
      simp only [List.getElem?_toArray, List.getElem?_cons_zero, List.getElem?_cons_succ] at c0
      clear hb2 hbx hrow2 hres2 ix
      go_wp2_with fail
      go_roundw
      case rel => exact ⟨2, by omega, rfl, (row_put HR2.out 1 _), (row_other HS2.out _ _ (by omega)), ((HB.out.trans (HX.out.mono HB.out.size)).setCell (p := ⟨w.heap.size + 1 + 1, 1, none⟩) (by simp; omega) _)⟩
      case measure => simp [intOf]
    · have hrow : wr.heap[w.heap.size + 1 + 1]? = some (.cells #[.int .u64 b0, .int .u64 b1, .int .u64 0, .int .u64 0, .int .u64 0, .int .u64 0, .int .u64 0, .int .u64 0] 134 (0, 0)) := HR.out
      have HR2 := Lib.hid hrow
      have ix := fun W => idxW2 h0 l0 h1 l1 h2 l2 h3 l3 h4 l4 h5 l5 h6 l6 h7 l7 W
      clear hrow
      go_wp2_with fail
      refine (Q2.out _).mono ?_
      rintro e w2 ⟨rfl, hb2⟩
      have hbx : Below wr.heap.size wr w2 := box_below hb2
      have hrow2 := (hbx.block _ hlt).trans HR2.out
      have hres2 := (hbx.block _ (by omega)).trans HS.out
      have HX := Lib.hid hbx
      have HR2 := Lib.hid hrow2
      have HS2 := Lib.hid hres2
      have c0 := row_cell hrow2 2
      have f0 := frozen_row hrow2 2
      simp only [List.getElem?_toArray, List.getElem?_cons_zero, List.getElem?_cons_succ] at c0
      clear hb2 hbx hrow2 hres2 ix
      go_wp2_with fail
      go_roundw
      case rel => exact ⟨3, by omega, rfl, (row_put HR2.out 2 _), (row_other HS2.out _ _ (by omega)), ((HB.out.trans (HX.out.mono HB.out.size)).setCell (p := ⟨w.heap.size + 1 + 1, 2, none⟩) (by simp; omega) _)⟩
      case measure => simp [intOf]
    · have hrow : wr.heap[w.heap.size + 1 + 1]? = some (.cells #[.int .u64 b0, .int .u64 b1, .int .u64 b2, .int .u64 0, .int .u64 0, .int .u64 0, .int .u64 0, .int .u64 0] 134 (0, 0)) := HR.out
      have HR3 := Lib.hid hrow
      have ix := fun W => idxW3 h0 l0 h1 l1 h2 l2 h3 l3 h4 l4 h5 l5 h6 l6 h7 l7 W
      clear hrow
      go_wp2_with fail
      refine (Q3.out _).mono ?_
      rintro e w2 ⟨rfl, hb2⟩
      have hbx : Below wr.heap.size wr w2 := box_below hb2
      have hrow2 := (hbx.block _ hlt).trans HR3.out
      have hres2 := (hbx.block _ (by omega)).trans HS.out
      have HX := Lib.hid hbx
      have HR2 := Lib.hid hrow2
      have HS2 := Lib.hid hres2
      have c0 := row_cell hrow2 3
      have f0 := frozen_row hrow2 3
      simp only [List.getElem?_toArray, List.getElem?_cons_zero, List.getElem?_cons_succ] at c0
      clear hb2 hbx hrow2 hres2 ix
      go_wp2_with fail
      go_roundw
      case rel => exact ⟨4, by omega, rfl, (row_put HR2.out 3 _), (row_other HS2.out _ _ (by omega)), ((HB.out.trans (HX.out.mono HB.out.size)).setCell (p := ⟨w.heap.size + 1 + 1, 3, none⟩) (by simp; omega) _)⟩
      case measure => simp [intOf]
    · have hrow : wr.heap[w.heap.size + 1 + 1]? = some (.cells #[.int .u64 b0, .int .u64 b1, .int .u64 b2, .int .u64 b3, .int .u64 0, .int .u64 0, .int .u64 0, .int .u64 0] 134 (0, 0)) := HR.out
      have HR4 := Lib.hid hrow
      have ix := fun W => idxW4 h0 l0 h1 l1 h2 l2 h3 l3 h4 l4 h5 l5 h6 l6 h7 l7 W
      clear hrow
      go_wp2_with fail
      refine (Q4.out _).mono ?_
      rintro e w2 ⟨rfl, hb2⟩
      have hbx : Below wr.heap.size wr w2 := box_below hb2
      have hrow2 := (hbx.block _ hlt).trans HR4.out
      have hres2 := (hbx.block _ (by omega)).trans HS.out
      have HX := Lib.hid hbx
      have HR2 := Lib.hid hrow2
      have HS2 := Lib.hid hres2
      have c0 := row_cell hrow2 4
      have f0 := frozen_row hrow2 4
      simp only [List.getElem?_toArray, List.getElem?_cons_zero, List.getElem?_cons_succ] at c0
      clear hb2 hbx hrow2 hres2 ix
      go_wp2_with fail
      go_roundw
      case rel => exact ⟨5, by omega, rfl, (row_put HR2.out 4 _), (row_other HS2.out _ _ (by omega)), ((HB.out.trans (HX.out.mono HB.out.size)).setCell (p := ⟨w.heap.size + 1 + 1, 4, none⟩) (by simp; omega) _)⟩
      case measure => simp [intOf]
    · have hrow : wr.heap[w.heap.size + 1 + 1]? = some (.cells #[.int .u64 b0, .int .u64 b1, .int .u64 b2, .int .u64 b3, .int .u64 b4, .int .u64 0, .int .u64 0, .int .u64 0] 134 (0, 0)) := HR.out
      have HR5 := Lib.hid hrow
      have ix := fun W => idxW5 h0 l0 h1 l1 h2 l2 h3 l3 h4 l4 h5 l5 h6 l6 h7 l7 W
      clear hrow
      go_wp2_with fail
      refine (Q5.out _).mono ?_
      rintro e w2 ⟨rfl, hb2⟩
      have hbx : Below wr.heap.size wr w2 := box_below hb2
      have hrow2 := (hbx.block _ hlt).trans HR5.out
      have hres2 := (hbx.block _ (by omega)).trans HS.out
      have HX := Lib.hid hbx
      have HR2 := Lib.hid hrow2
      have HS2 := Lib.hid hres2
      have c0 := row_cell hrow2 5
      have f0 := frozen_row hrow2 5
      simp only [List.getElem?_toArray, List.getElem?_cons_zero, List.getElem?_cons_succ] at c0
      clear hb2 hbx hrow2 hres2 ix
      go_wp2_with fail
      go_roundw
      case rel => exact ⟨6, by omega, rfl, (row_put HR2.out 5 _), (row_other HS2.out _ _ (by omega)), ((HB.out.trans (HX.out.mono HB.out.size)).setCell (p := ⟨w.heap.size + 1 + 1, 5, none⟩) (by simp; omega) _)⟩
      case measure => simp [intOf]
    · have hrow : wr.heap[w.heap.size + 1 + 1]? = some (.cells #[.int .u64 b0, .int .u64 b1, .int .u64 b2, .int .u64 b3, .int .u64 b4, .int .u64 b5, .int .u64 0, .int .u64 0] 134 (0, 0)) := HR.out
      have HR6 := Lib.hid hrow
      have ix := fun W => idxW6 h0 l0 h1 l1 h2 l2 h3 l3 h4 l4 h5 l5 h6 l6 h7 l7 W
      clear hrow
      go_wp2_with fail
      refine (Q6.out _).mono ?_
      rintro e w2 ⟨rfl, hb2⟩
      have hbx : Below wr.heap.size wr w2 := box_below hb2
      have hrow2 := (hbx.block _ hlt).trans HR6.out
      have hres2 := (hbx.block _ (by omega)).trans HS.out
      have HX := Lib.hid hbx
      have HR2 := Lib.hid hrow2
      have HS2 := Lib.hid hres2
      have c0 := row_cell hrow2 6
      have f0 := frozen_row hrow2 6
      simp only [List.getElem?_toArray, List.getElem?_cons_zero, List.getElem?_cons_succ] at c0
      clear hb2 hbx hrow2 hres2 ix
      go_wp2_with fail
      go_roundw
      case rel => exact ⟨7, by omega, rfl, (row_put HR2.out 6 _), (row_other HS2.out _ _ (by omega)), ((HB.out.trans (HX.out.mono HB.out.size)).setCell (p := ⟨w.heap.size + 1 + 1, 6, none⟩) (by simp; omega) _)⟩
      case measure => simp [intOf]
    · have hrow : wr.heap[w.heap.size + 1 + 1]? = some (.cells #[.int .u64 b0, .int .u64 b1, .int .u64 b2, .int .u64 b3, .int .u64 b4, .int .u64 b5, .int .u64 b6, .int .u64 0] 134 (0, 0)) := HR.out
      have HR7 := Lib.hid hrow
      have ix := fun W => idxW7 h0 l0 h1 l1 h2 l2 h3 l3 h4 l4 h5 l5 h6 l6 h7 l7 W
      clear hrow
      go_wp2_with fail
      refine (Q7.out _).mono ?_
      rintro e w2 ⟨rfl, hb2⟩
      have hbx : Below wr.heap.size wr w2 := box_below hb2
      have hrow2 := (hbx.block _ hlt).trans HR7.out
      have hres2 := (hbx.block _ (by omega)).trans HS.out
      have HX := Lib.hid hbx
      have HR2 := Lib.hid hrow2
      have HS2 := Lib.hid hres2
      have c0 := row_cell hrow2 7
      have f0 := frozen_row hrow2 7
      simp only [List.getElem?_toArray, List.getElem?_cons_zero, List.getElem?_cons_succ] at c0
      clear hb2 hbx hrow2 hres2 ix
      go_wp2_with fail
      go_roundw
      case rel => exact ⟨8, by omega, rfl, (row_put HR2.out 7 _), (row_other HS2.out _ _ (by omega)), ((HB.out.trans (HX.out.mono HB.out.size)).setCell (p := ⟨w.heap.size + 1 + 1, 7, none⟩) (by simp; omega) _)⟩
      case measure => simp [intOf]
    · have hrow : wr.heap[w.heap.size + 1 + 1]? = some (.cells #[.int .u64 b0, .int .u64 b1, .int .u64 b2, .int .u64 b3, .int .u64 b4, .int .u64 b5, .int .u64 b6, .int .u64 b7] 134 (0, 0)) := HR.out
      have HR8 := Lib.hid hrow
      clear hrow
      have c0 := row_cell HR8.out 0
      have d0 := row_cell HS.out 0
      have f0 := frozen_row HS.out 0
      have c1 := row_cell HR8.out 1
      have d1 := row_cell HS.out 1
      have f1 := frozen_row HS.out 1
      have c2 := row_cell HR8.out 2
      have d2 := row_cell HS.out 2
      have f2 := frozen_row HS.out 2
      have c3 := row_cell HR8.out 3
      have d3 := row_cell HS.out 3
      have f3 := frozen_row HS.out 3
      have c4 := row_cell HR8.out 4
      have d4 := row_cell HS.out 4
      have f4 := frozen_row HS.out 4
      have c5 := row_cell HR8.out 5
      have d5 := row_cell HS.out 5
      have f5 := frozen_row HS.out 5
      have c6 := row_cell HR8.out 6
      have d6 := row_cell HS.out 6
      have f6 := frozen_row HS.out 6
      have c7 := row_cell HR8.out 7
      have d7 := row_cell HS.out 7
      have f7 := frozen_row HS.out 7
      simp only [List.getElem?_toArray, List.getElem?_cons_zero, List.getElem?_cons_succ] at c0 d0 c1 d1 c2 d2 c3 d3 c4 d4 c5 d5 c6 d6 c7 d7
      go_wp2_with fail
      exact bodyPost_ret (v := .agg #[.int .u64 b0, .int .u64 b1, .int .u64 b2, .int .u64 b3, .int .u64 b4, .int .u64 b5, .int .u64 b6, .int .u64 b7]) (by simp [results, Tryz.results88, go_sem, d0, d1, d2, d3, d4, d5, d6, d7]) rfl ⟨rfl, ((((((((HB.out.setCell (p := ⟨w.heap.size + 1, 0, none⟩) (by simp) _).setCell (p := ⟨w.heap.size + 1, 1, none⟩) (by simp) _).setCell (p := ⟨w.heap.size + 1, 2, none⟩) (by simp) _).setCell (p := ⟨w.heap.size + 1, 3, none⟩) (by simp) _).setCell (p := ⟨w.heap.size + 1, 4, none⟩) (by simp) _).setCell (p := ⟨w.heap.size + 1, 5, none⟩) (by simp) _).setCell (p := ⟨w.heap.size + 1, 6, none⟩) (by simp) _).setCell (p := ⟨w.heap.size + 1, 7, none⟩) (by simp) _)⟩

theorem idxR0 (b0 b1 b2 b3 b4 b5 b6 b7 : Int) (w : World) : (Instr.index 134 (.agg #[.int .u64 b0, .int .u64 b1, .int .u64 b2, .int .u64 b3, .int .u64 b4, .int .u64 b5, .int .u64 b6, .int .u64 b7]) (.int .i64 0)).run Tryz.prog w = .ok (.int .u64 b0) w := by
  simp [Instr.index, part, asIntOf, go_sem]

theorem idxR1 (b0 b1 b2 b3 b4 b5 b6 b7 : Int) (w : World) : (Instr.index 134 (.agg #[.int .u64 b0, .int .u64 b1, .int .u64 b2, .int .u64 b3, .int .u64 b4, .int .u64 b5, .int .u64 b6, .int .u64 b7]) (.int .i64 1)).run Tryz.prog w = .ok (.int .u64 b1) w := by
  simp [Instr.index, part, asIntOf, go_sem]

theorem idxR2 (b0 b1 b2 b3 b4 b5 b6 b7 : Int) (w : World) : (Instr.index 134 (.agg #[.int .u64 b0, .int .u64 b1, .int .u64 b2, .int .u64 b3, .int .u64 b4, .int .u64 b5, .int .u64 b6, .int .u64 b7]) (.int .i64 2)).run Tryz.prog w = .ok (.int .u64 b2) w := by
  simp [Instr.index, part, asIntOf, go_sem]

theorem idxR3 (b0 b1 b2 b3 b4 b5 b6 b7 : Int) (w : World) : (Instr.index 134 (.agg #[.int .u64 b0, .int .u64 b1, .int .u64 b2, .int .u64 b3, .int .u64 b4, .int .u64 b5, .int .u64 b6, .int .u64 b7]) (.int .i64 3)).run Tryz.prog w = .ok (.int .u64 b3) w := by
  simp [Instr.index, part, asIntOf, go_sem]

theorem idxR4 (b0 b1 b2 b3 b4 b5 b6 b7 : Int) (w : World) : (Instr.index 134 (.agg #[.int .u64 b0, .int .u64 b1, .int .u64 b2, .int .u64 b3, .int .u64 b4, .int .u64 b5, .int .u64 b6, .int .u64 b7]) (.int .i64 4)).run Tryz.prog w = .ok (.int .u64 b4) w := by
  simp [Instr.index, part, asIntOf, go_sem]

theorem idxR5 (b0 b1 b2 b3 b4 b5 b6 b7 : Int) (w : World) : (Instr.index 134 (.agg #[.int .u64 b0, .int .u64 b1, .int .u64 b2, .int .u64 b3, .int .u64 b4, .int .u64 b5, .int .u64 b6, .int .u64 b7]) (.int .i64 5)).run Tryz.prog w = .ok (.int .u64 b5) w := by
  simp [Instr.index, part, asIntOf, go_sem]

theorem idxR6 (b0 b1 b2 b3 b4 b5 b6 b7 : Int) (w : World) : (Instr.index 134 (.agg #[.int .u64 b0, .int .u64 b1, .int .u64 b2, .int .u64 b3, .int .u64 b4, .int .u64 b5, .int .u64 b6, .int .u64 b7]) (.int .i64 6)).run Tryz.prog w = .ok (.int .u64 b6) w := by
  simp [Instr.index, part, asIntOf, go_sem]

theorem idxR7 (b0 b1 b2 b3 b4 b5 b6 b7 : Int) (w : World) : (Instr.index 134 (.agg #[.int .u64 b0, .int .u64 b1, .int .u64 b2, .int .u64 b3, .int .u64 b4, .int .u64 b5, .int .u64 b6, .int .u64 b7]) (.int .i64 7)).run Tryz.prog w = .ok (.int .u64 b7) w := by
  simp [Instr.index, part, asIntOf, go_sem]

set_option maxHeartbeats 3200000 in
theorem words_any (b0 b1 b2 b3 b4 b5 b6 b7 : Int) (w : World) (hb0 : 0 ≤ b0 ∧ b0 ≤ 18446744073709551615) (hb1 : 0 ≤ b1 ∧ b1 ≤ 18446744073709551615) (hb2 : 0 ≤ b2 ∧ b2 ≤ 18446744073709551615) (hb3 : 0 ≤ b3 ∧ b3 ≤ 18446744073709551615) (hb4 : 0 ≤ b4 ∧ b4 ≤ 18446744073709551615) (hb5 : 0 ≤ b5 ∧ b5 ≤ 18446744073709551615) (hb6 : 0 ≤ b6 ∧ b6 ≤ 18446744073709551615) (hb7 : 0 ≤ b7 ∧ b7 ≤ 18446744073709551615) : Calls Tryz.prog 128 #[.agg #[.int .u64 b0, .int .u64 b1, .int .u64 b2, .int .u64 b3, .int .u64 b4, .int .u64 b5, .int .u64 b6, .int .u64 b7]] w fun e w' =>
    e = .returned (.agg #[.int .i64 (halves b0).h, .int .i64 (halves b0).l, .int .i64 (halves b1).h, .int .i64 (halves b1).l, .int .i64 (halves b2).h, .int .i64 (halves b2).l, .int .i64 (halves b3).h, .int .i64 (halves b3).l, .int .i64 (halves b4).h, .int .i64 (halves b4).l, .int .i64 (halves b5).h, .int .i64 (halves b5).l, .int .i64 (halves b6).h, .int .i64 (halves b6).l, .int .i64 (halves b7).h, .int .i64 (halves b7).l]) ∧ Below w.heap.size w w' := by
  have q0 := fun W => wordOf_any b0 W hb0.1 hb0.2
  have q1 := fun W => wordOf_any b1 W hb1.1 hb1.2
  have q2 := fun W => wordOf_any b2 W hb2.1 hb2.2
  have q3 := fun W => wordOf_any b3 W hb3.1 hb3.2
  have q4 := fun W => wordOf_any b4 W hb4.1 hb4.2
  have q5 := fun W => wordOf_any b5 W hb5.1 hb5.2
  have q6 := fun W => wordOf_any b6 W hb6.1 hb6.2
  have q7 := fun W => wordOf_any b7 W hb7.1 hb7.2
  generalize (halves b0).h = h0 at *
  generalize (halves b0).l = l0 at *
  generalize (halves b1).h = h1 at *
  generalize (halves b1).l = l1 at *
  generalize (halves b2).h = h2 at *
  generalize (halves b2).l = l2 at *
  generalize (halves b3).h = h3 at *
  generalize (halves b3).l = l3 at *
  generalize (halves b4).h = h4 at *
  generalize (halves b4).l = l4 at *
  generalize (halves b5).h = h5 at *
  generalize (halves b5).l = l5 at *
  generalize (halves b6).h = h6 at *
  generalize (halves b6).l = l6 at *
  generalize (halves b7).h = h7 at *
  generalize (halves b7).l = l7 at *
  have Q0 := Lib.hid q0
  have Q1 := Lib.hid q1
  have Q2 := Lib.hid q2
  have Q3 := Lib.hid q3
  have Q4 := Lib.hid q4
  have Q5 := Lib.hid q5
  have Q6 := Lib.hid q6
  have Q7 := Lib.hid q7
  clear q0 q1 q2 q3 q4 q5 q6 q7 hb0 hb1 hb2 hb3 hb4 hb5 hb6 hb7
  go_enter Tryz.func128, Tryz.ntmps128
  go_wp2_with fail
  go_loopw [7] (fun i wr => ∃ k : Nat, k ≤ 8 ∧ i = .int .i64 k ∧ wr.heap[w.heap.size + 1 + 1]? = some (.cells (fillV [.int .i64 h0, .int .i64 l0, .int .i64 h1, .int .i64 l1, .int .i64 h2, .int .i64 l2, .int .i64 h3, .int .i64 l3, .int .i64 h4, .int .i64 l4, .int .i64 h5, .int .i64 l5, .int .i64 h6, .int .i64 l6, .int .i64 h7, .int .i64 l7] (.int .i64 0) (2 * k)) 136 (0, 0)) ∧ wr.heap[w.heap.size + 1]? = some (.cells #[.int .i64 0, .int .i64 0, .int .i64 0, .int .i64 0, .int .i64 0, .int .i64 0, .int .i64 0, .int .i64 0, .int .i64 0, .int .i64 0, .int .i64 0, .int .i64 0, .int .i64 0, .int .i64 0, .int .i64 0, .int .i64 0] 136 (0, 0)) ∧ Below w.heap.size w wr)
    (fun i _ => 8 - (intOf i).toNat)
  case atStart =>
    have hb := rows3 (Below.refl _ (((w.alloc (.cells #[.int .u64 b0, .int .u64 b1, .int .u64 b2, .int .u64 b3, .int .u64 b4, .int .u64 b5, .int .u64 b6, .int .u64 b7] 134)).alloc (.cells #[.int .i64 0, .int .i64 0, .int .i64 0, .int .i64 0, .int .i64 0, .int .i64 0, .int .i64 0, .int .i64 0, .int .i64 0, .int .i64 0, .int .i64 0, .int .i64 0, .int .i64 0, .int .i64 0, .int .i64 0, .int .i64 0] 136)).alloc (.cells #[.int .i64 0, .int .i64 0, .int .i64 0, .int .i64 0, .int .i64 0, .int .i64 0, .int .i64 0, .int .i64 0, .int .i64 0, .int .i64 0, .int .i64 0, .int .i64 0, .int .i64 0, .int .i64 0, .int .i64 0, .int .i64 0] 136)))
    exact ⟨0, by omega, rfl, hb.2.2.1, hb.2.1, hb.2.2.2.1⟩
  case round =>
    obtain ⟨k, hk, rfl, hrow, hres, hbw⟩ := hrel
    have HB := Lib.hid hbw
    have HS := Lib.hid hres
    have hlt : w.heap.size + 1 + 1 < wr.heap.size := row_here hrow
    have HR := Lib.hid hrow
    clear hbw hres hrow
    rcases (by omega : k = 0 ∨ k = 1 ∨ k = 2 ∨ k = 3 ∨ k = 4 ∨ k = 5 ∨ k = 6 ∨ k = 7 ∨ k = 8) with rfl | rfl | rfl | rfl | rfl | rfl | rfl | rfl | rfl
    · have hrow : wr.heap[w.heap.size + 1 + 1]? = some (.cells #[.int .i64 0, .int .i64 0, .int .i64 0, .int .i64 0, .int .i64 0, .int .i64 0, .int .i64 0, .int .i64 0, .int .i64 0, .int .i64 0, .int .i64 0, .int .i64 0, .int .i64 0, .int .i64 0, .int .i64 0, .int .i64 0] 136 (0, 0)) := HR.out
      have HR0 := Lib.hid hrow
      have ix := fun W => idxR0 b0 b1 b2 b3 b4 b5 b6 b7 W
      clear hrow
      go_wp2_with fail
      refine (Q0.out _).mono ?_
      rintro e w2 ⟨rfl, hb2⟩
      have hbx : Below wr.heap.size wr w2 := hb2
      have hrow2 := (hbx.block _ hlt).trans HR0.out
      have hres2 := (hbx.block _ (by omega)).trans HS.out
      have HX := Lib.hid hbx
      have HR2 := Lib.hid hrow2
      have HS2 := Lib.hid hres2
      have c0 := row_cell hrow2 0
      have f0 := frozen_row hrow2 0
      have c1 := row_cell hrow2 1
      have f1 := frozen_row hrow2 1
      simp only [List.getElem?_toArray, List.getElem?_cons_zero, List.getElem?_cons_succ] at c0 c1
      clear hb2 hbx hrow2 hres2 ix
      go_wp2_with fail
      go_roundw
      case rel => exact ⟨1, by omega, rfl, (row_put (row_put HR2.out 0 _) 1 _), (row_other (row_other HS2.out _ _ (by omega)) _ _ (by omega)), (((HB.out.trans (HX.out.mono HB.out.size)).setCell (p := ⟨w.heap.size + 1 + 1, 0, none⟩) (by simp; omega) _).setCell (p := ⟨w.heap.size + 1 + 1, 1, none⟩) (by simp; omega) _)⟩
      case measure => simp [intOf]
    · have hrow : wr.heap[w.heap.size + 1 + 1]? = some (.cells #[.int .i64 h0, .int .i64 l0, .int .i64 0, .int .i64 0, .int .i64 0, .int .i64 0, .int .i64 0, .int .i64 0, .int .i64 0, .int .i64 0, .int .i64 0, .int .i64 0, .int .i64 0, .int .i64 0, .int .i64 0, .int .i64 0] 136 (0, 0)) := HR.out
      have HR1 := Lib.hid hrow
      have ix := fun W => idxR1 b0 b1 b2 b3 b4 b5 b6 b7 W
      clear hrow
      go_wp2_with fail
      refine (Q1.out _).mono ?_
      rintro e w2 ⟨rfl, hb2⟩
      have hbx : Below wr.heap.size wr w2 := hb2
      have hrow2 := (hbx.block _ hlt).trans HR1.out
      have hres2 := (hbx.block _ (by omega)).trans HS.out
      have HX := Lib.hid hbx
      have HR2 := Lib.hid hrow2
      have HS2 := Lib.hid hres2
      have c0 := row_cell hrow2 2
      have f0 := frozen_row hrow2 2
      have c1 := row_cell hrow2 3
      have f1 := frozen_row hrow2 3
      simp only [List.getElem?_toArray, List.getElem?_cons_zero, List.getElem?_cons_succ] at c0 c1
      clear hb2 hbx hrow2 hres2 ix
      go_wp2_with fail
      go_roundw
      case rel => exact ⟨2, by omega, rfl, (row_put (row_put HR2.out 2 _) 3 _), (row_other (row_other HS2.out _ _ (by omega)) _ _ (by omega)), (((HB.out.trans (HX.out.mono HB.out.size)).setCell (p := ⟨w.heap.size + 1 + 1, 2, none⟩) (by simp; omega) _).setCell (p := ⟨w.heap.size + 1 + 1, 3, none⟩) (by simp; omega) _)⟩
      case measure => simp [intOf]
    · have hrow : wr.heap[w.heap.size + 1 + 1]? = some (.cells #[.int .i64 h0, .int .i64 l0, .int .i64 h1, .int .i64 l1, .int .i64 0, .int .i64 0, .int .i64 0, .int .i64 0, .int .i64 0, .int .i64 0, .int .i64 0, .int .i64 0, .int .i64 0, .int .i64 0, .int .i64 0, .int .i64 0] 136 (0, 0)) := HR.out
      have HR2 := Lib.hid hrow
      have ix := fun W => idxR2 b0 b1 b2 b3 b4 b5 b6 b7 W
      clear hrow
      go_wp2_with fail
      refine (Q2.out _).mono ?_
      rintro e w2 ⟨rfl, hb2⟩
      have hbx : Below wr.heap.size wr w2 := hb2
      have hrow2 := (hbx.block _ hlt).trans HR2.out
      have hres2 := (hbx.block _ (by omega)).trans HS.out
      have HX := Lib.hid hbx
      have HR2 := Lib.hid hrow2
      have HS2 := Lib.hid hres2
      have c0 := row_cell hrow2 4
      have f0 := frozen_row hrow2 4
      have c1 := row_cell hrow2 5
      have f1 := frozen_row hrow2 5
      simp only [List.getElem?_toArray, List.getElem?_cons_zero, List.getElem?_cons_succ] at c0 c1
      clear hb2 hbx hrow2 hres2 ix
      go_wp2_with fail
      go_roundw
      case rel => exact ⟨3, by omega, rfl, (row_put (row_put HR2.out 4 _) 5 _), (row_other (row_other HS2.out _ _ (by omega)) _ _ (by omega)), (((HB.out.trans (HX.out.mono HB.out.size)).setCell (p := ⟨w.heap.size + 1 + 1, 4, none⟩) (by simp; omega) _).setCell (p := ⟨w.heap.size + 1 + 1, 5, none⟩) (by simp; omega) _)⟩
      case measure => simp [intOf]
    · have hrow : wr.heap[w.heap.size + 1 + 1]? = some (.cells #[.int .i64 h0, .int .i64 l0, .int .i64 h1, .int .i64 l1, .int .i64 h2, .int .i64 l2, .int .i64 0, .int .i64 0, .int .i64 0, .int .i64 0, .int .i64 0, .int .i64 0, .int .i64 0, .int .i64 0, .int .i64 0, .int .i64 0] 136 (0, 0)) := HR.out
      have HR3 := Lib.hid hrow
      have ix := fun W => idxR3 b0 b1 b2 b3 b4 b5 b6 b7 W
      clear hrow
      go_wp2_with fail
      refine (Q3.out _).mono ?_
      rintro e w2 ⟨rfl, hb2⟩
      have hbx : Below wr.heap.size wr w2 := hb2
      have hrow2 := (hbx.block _ hlt).trans HR3.out
      have hres2 := (hbx.block _ (by omega)).trans HS.out
      have HX := Lib.hid hbx
      have HR2 := Lib.hid hrow2
      have HS2 := Lib.hid hres2
      have c0 := row_cell hrow2 6
      have f0 := frozen_row hrow2 6
      have c1 := row_cell hrow2 7
      have f1 := frozen_row hrow2 7
      simp only [List.getElem?_toArray, List.getElem?_cons_zero, List.getElem?_cons_succ] at c0 c1
      clear hb2 hbx hrow2 hres2 ix
      go_wp2_with fail
      go_roundw
      case rel => exact ⟨4, by omega, rfl, (row_put (row_put HR2.out 6 _) 7 _), (row_other (row_other HS2.out _ _ (by omega)) _ _ (by omega)), (((HB.out.trans (HX.out.mono HB.out.size)).setCell (p := ⟨w.heap.size + 1 + 1, 6, none⟩) (by simp; omega) _).setCell (p := ⟨w.heap.size + 1 + 1, 7, none⟩) (by simp; omega) _)⟩
      case measure => simp [intOf]
    · have hrow : wr.heap[w.heap.size + 1 + 1]? = some (.cells #[.int .i64 h0, .int .i64 l0, .int .i64 h1, .int .i64 l1, .int .i64 h2, .int .i64 l2, .int .i64 h3, .int .i64 l3, .int .i64 0, .int .i64 0, .int .i64 0, .int .i64 0, .int .i64 0, .int .i64 0, .int .i64 0, .int .i64 0] 136 (0, 0)) := HR.out
      have HR4 := Lib.hid hrow
      have ix := fun W => idxR4 b0 b1 b2 b3 b4 b5 b6 b7 W
      clear hrow
      go_wp2_with fail
      refine (Q4.out _).mono ?_
      rintro e w2 ⟨rfl, hb2⟩
      have hbx : Below wr.heap.size wr w2 := hb2
      have hrow2 := (hbx.block _ hlt).trans HR4.out
      have hres2 := (hbx.block _ (by omega)).trans HS.out
      have HX := Lib.hid hbx
      have HR2 := Lib.hid hrow2
      have HS2 := Lib.hid hres2
      have c0 := row_cell hrow2 8
      have f0 := frozen_row hrow2 8
      have c1 := row_cell hrow2 9
      have f1 := frozen_row hrow2 9
      simp only [List.getElem?_toArray, List.getElem?_cons_zero, List.getElem?_cons_succ] at c0 c1
      clear hb2 hbx hrow2 hres2 ix
      go_wp2_with fail
      go_roundw
      case rel => exact ⟨5, by omega, rfl, (row_put (row_put HR2.out 8 _) 9 _), (row_other (row_other HS2.out _ _ (by omega)) _ _ (by omega)), (((HB.out.trans (HX.out.mono HB.out.size)).setCell (p := ⟨w.heap.size + 1 + 1, 8, none⟩) (by simp; omega) _).setCell (p := ⟨w.heap.size + 1 + 1, 9, none⟩) (by simp; omega) _)⟩
      case measure => simp [intOf]
    · have hrow : wr.heap[w.heap.size + 1 + 1]? = some (.cells #[.int .i64 h0, .int .i64 l0, .int .i64 h1, .int .i64 l1, .int .i64 h2, .int .i64 l2, .int .i64 h3, .int .i64 l3, .int .i64 h4, .int .i64 l4, .int .i64 0, .int .i64 0, .int .i64 0, .int .i64 0, .int .i64 0, .int .i64 0] 136 (0, 0)) := HR.out
      have HR5 := Lib.hid hrow
      have ix := fun W => idxR5 b0 b1 b2 b3 b4 b5 b6 b7 W
      clear hrow
      go_wp2_with fail
      refine (Q5.out _).mono ?_
      rintro e w2 ⟨rfl, hb2⟩
      have hbx : Below wr.heap.size wr w2 := hb2
      have hrow2 := (hbx.block _ hlt).trans HR5.out
      have hres2 := (hbx.block _ (by omega)).trans HS.out
      have HX := Lib.hid hbx
      have HR2 := Lib.hid hrow2
      have HS2 := Lib.hid hres2
      have c0 := row_cell hrow2 10
      have f0 := frozen_row hrow2 10
      have c1 := row_cell hrow2 11
      have f1 := frozen_row hrow2 11
      simp only [List.getElem?_toArray, List.getElem?_cons_zero, List.getElem?_cons_succ] at c0 c1
      clear hb2 hbx hrow2 hres2 ix
      go_wp2_with fail
      go_roundw
      case rel => exact ⟨6, by omega, rfl, (row_put (row_put HR2.out 10 _) 11 _), (row_other (row_other HS2.out _ _ (by omega)) _ _ (by omega)), (((HB.out.trans (HX.out.mono HB.out.size)).setCell (p := ⟨w.heap.size + 1 + 1, 10, none⟩) (by simp; omega) _).setCell (p := ⟨w.heap.size + 1 + 1, 11, none⟩) (by simp; omega) _)⟩
      case measure => simp [intOf]
    · have hrow : wr.heap[w.heap.size + 1 + 1]? = some (.cells #[.int .i64 h0, .int .i64 l0, .int .i64 h1, .int .i64 l1, .int .i64 h2, .int .i64 l2, .int .i64 h3, .int .i64 l3, .int .i64 h4, .int .i64 l4, .int .i64 h5, .int .i64 l5, .int .i64 0, .int .i64 0, .int .i64 0, .int .i64 0] 136 (0, 0)) := HR.out
      have HR6 := Lib.hid hrow
      have ix := fun W => idxR6 b0 b1 b2 b3 b4 b5 b6 b7 W
      clear hrow
      go_wp2_with fail
      refine (Q6.out _).mono ?_
      rintro e w2 ⟨rfl, hb2⟩
      have hbx : Below wr.heap.size wr w2 := hb2
      have hrow2 := (hbx.block _ hlt).trans HR6.out
      have hres2 := (hbx.block _ (by omega)).trans HS.out
      have HX := Lib.hid hbx
      have HR2 := Lib.hid hrow2
      have HS2 := Lib.hid hres2
      have c0 := row_cell hrow2 12
      have f0 := frozen_row hrow2 12
      have c1 := row_cell hrow2 13
      have f1 := frozen_row hrow2 13
      simp only [List.getElem?_toArray, List.getElem?_cons_zero, List.getElem?_cons_succ] at c0 c1
      clear hb2 hbx hrow2 hres2 ix
      go_wp2_with fail
      go_roundw
      case rel => exact ⟨7, by omega, rfl, (row_put (row_put HR2.out 12 _) 13 _), (row_other (row_other HS2.out _ _ (by omega)) _ _ (by omega)), (((HB.out.trans (HX.out.mono HB.out.size)).setCell (p := ⟨w.heap.size + 1 + 1, 12, none⟩) (by simp; omega) _).setCell (p := ⟨w.heap.size + 1 + 1, 13, none⟩) (by simp; omega) _)⟩
      case measure => simp [intOf]
    · have hrow : wr.heap[w.heap.size + 1 + 1]? = some (.cells #[.int .i64 h0, .int .i64 l0, .int .i64 h1, .int .i64 l1, .int .i64 h2, .int .i64 l2, .int .i64 h3, .int .i64 l3, .int .i64 h4, .int .i64 l4, .int .i64 h5, .int .i64 l5, .int .i64 h6, .int .i64 l6, .int .i64 0, .int .i64 0] 136 (0, 0)) := HR.out
      have HR7 := Lib.hid hrow
      have ix := fun W => idxR7 b0 b1 b2 b3 b4 b5 b6 b7 W
      clear hrow
      go_wp2_with fail
      refine (Q7.out _).mono ?_
      rintro e w2 ⟨rfl, hb2⟩
      have hbx : Below wr.heap.size wr w2 := hb2
      have hrow2 := (hbx.block _ hlt).trans HR7.out
      have hres2 := (hbx.block _ (by omega)).trans HS.out
      have HX := Lib.hid hbx
      have HR2 := Lib.hid hrow2
      have HS2 := Lib.hid hres2
      have c0 := row_cell hrow2 14
      have f0 := frozen_row hrow2 14
      have c1 := row_cell hrow2 15
      have f1 := frozen_row hrow2 15
      simp only [List.getElem?_toArray, List.getElem?_cons_zero, List.getElem?_cons_succ] at c0 c1
      clear hb2 hbx hrow2 hres2 ix
      go_wp2_with fail
      go_roundw
      case rel => exact ⟨8, by omega, rfl, (row_put (row_put HR2.out 14 _) 15 _), (row_other (row_other HS2.out _ _ (by omega)) _ _ (by omega)), (((HB.out.trans (HX.out.mono HB.out.size)).setCell (p := ⟨w.heap.size + 1 + 1, 14, none⟩) (by simp; omega) _).setCell (p := ⟨w.heap.size + 1 + 1, 15, none⟩) (by simp; omega) _)⟩
      case measure => simp [intOf]
    · have hrow : wr.heap[w.heap.size + 1 + 1]? = some (.cells #[.int .i64 h0, .int .i64 l0, .int .i64 h1, .int .i64 l1, .int .i64 h2, .int .i64 l2, .int .i64 h3, .int .i64 l3, .int .i64 h4, .int .i64 l4, .int .i64 h5, .int .i64 l5, .int .i64 h6, .int .i64 l6, .int .i64 h7, .int .i64 l7] 136 (0, 0)) := HR.out
      have HR8 := Lib.hid hrow
      clear hrow
      have c0 := row_cell HR8.out 0
      have d0 := row_cell HS.out 0
      have f0 := frozen_row HS.out 0
      have c1 := row_cell HR8.out 1
      have d1 := row_cell HS.out 1
      have f1 := frozen_row HS.out 1
      have c2 := row_cell HR8.out 2
      have d2 := row_cell HS.out 2
      have f2 := frozen_row HS.out 2
      have c3 := row_cell HR8.out 3
      have d3 := row_cell HS.out 3
      have f3 := frozen_row HS.out 3
      have c4 := row_cell HR8.out 4
      have d4 := row_cell HS.out 4
      have f4 := frozen_row HS.out 4
      have c5 := row_cell HR8.out 5
      have d5 := row_cell HS.out 5
      have f5 := frozen_row HS.out 5
      have c6 := row_cell HR8.out 6
      have d6 := row_cell HS.out 6
      have f6 := frozen_row HS.out 6
      have c7 := row_cell HR8.out 7
      have d7 := row_cell HS.out 7
      have f7 := frozen_row HS.out 7
      have c8 := row_cell HR8.out 8
      have d8 := row_cell HS.out 8
      have f8 := frozen_row HS.out 8
      have c9 := row_cell HR8.out 9
      have d9 := row_cell HS.out 9
      have f9 := frozen_row HS.out 9
      have c10 := row_cell HR8.out 10
      have d10 := row_cell HS.out 10
      have f10 := frozen_row HS.out 10
      have c11 := row_cell HR8.out 11
      have d11 := row_cell HS.out 11
      have f11 := frozen_row HS.out 11
      have c12 := row_cell HR8.out 12
      have d12 := row_cell HS.out 12
      have f12 := frozen_row HS.out 12
      have c13 := row_cell HR8.out 13
      have d13 := row_cell HS.out 13
      have f13 := frozen_row HS.out 13
      have c14 := row_cell HR8.out 14
      have d14 := row_cell HS.out 14
      have f14 := frozen_row HS.out 14
      have c15 := row_cell HR8.out 15
      have d15 := row_cell HS.out 15
      have f15 := frozen_row HS.out 15
      simp only [List.getElem?_toArray, List.getElem?_cons_zero, List.getElem?_cons_succ] at c0 d0 c1 d1 c2 d2 c3 d3 c4 d4 c5 d5 c6 d6 c7 d7 c8 d8 c9 d9 c10 d10 c11 d11 c12 d12 c13 d13 c14 d14 c15 d15
      go_wp2_with fail
      exact bodyPost_ret (v := .agg #[.int .i64 h0, .int .i64 l0, .int .i64 h1, .int .i64 l1, .int .i64 h2, .int .i64 l2, .int .i64 h3, .int .i64 l3, .int .i64 h4, .int .i64 l4, .int .i64 h5, .int .i64 l5, .int .i64 h6, .int .i64 l6, .int .i64 h7, .int .i64 l7]) (by simp [results, Tryz.results128, go_sem, d0, d1, d2, d3, d4, d5, d6, d7, d8, d9, d10, d11, d12, d13, d14, d15]) rfl ⟨rfl, ((((((((((((((((HB.out.setCell (p := ⟨w.heap.size + 1, 0, none⟩) (by simp) _).setCell (p := ⟨w.heap.size + 1, 1, none⟩) (by simp) _).setCell (p := ⟨w.heap.size + 1, 2, none⟩) (by simp) _).setCell (p := ⟨w.heap.size + 1, 3, none⟩) (by simp) _).setCell (p := ⟨w.heap.size + 1, 4, none⟩) (by simp) _).setCell (p := ⟨w.heap.size + 1, 5, none⟩) (by simp) _).setCell (p := ⟨w.heap.size + 1, 6, none⟩) (by simp) _).setCell (p := ⟨w.heap.size + 1, 7, none⟩) (by simp) _).setCell (p := ⟨w.heap.size + 1, 8, none⟩) (by simp) _).setCell (p := ⟨w.heap.size + 1, 9, none⟩) (by simp) _).setCell (p := ⟨w.heap.size + 1, 10, none⟩) (by simp) _).setCell (p := ⟨w.heap.size + 1, 11, none⟩) (by simp) _).setCell (p := ⟨w.heap.size + 1, 12, none⟩) (by simp) _).setCell (p := ⟨w.heap.size + 1, 13, none⟩) (by simp) _).setCell (p := ⟨w.heap.size + 1, 14, none⟩) (by simp) _).setCell (p := ⟨w.heap.size + 1, 15, none⟩) (by simp) _)⟩

end Go.Proofs.YtekmnopgaopmlaaGreatDoor

/- Copies of rows of things of several cells; the program's wordsOf and recordOf walked. -/
set_option maxRecDepth 100000
set_option linter.unusedSimpArgs false
namespace Go.Proofs.YtekmnopgaopmlaaGreatDoor
open Go.RowKit
attribute [local go_sem ↓] Go.wp_at_zero Go.wp_at_succ

/-- copy into a row of the call's own, of things of m cells each. -/
theorem run_copy_rows {P : Program} (w : World) (dT sT ty elem : TypeId) (m g o dLen dCap : Nat) (a : Addr) (sLen sCap : Nat) (cur : Array Value) (t : TypeId) (cs : List Value)
    (hu : P.underlying dT = some (.slice elem)) (hs : (P.info? elem).map (·.size) = some m)
    (hg : w.heap[g]? = some (.cells cur t (0, 0))) (hn : cs.length = Nat.min sLen dLen * m)
    (hsrc : ∀ j v, cs[j]? = some v → w.cell? (a.add j) = some v) (hfit : o + cs.length ≤ cur.size) (h1 : ∀ v ∈ cs, v.oneCell' = true) :
    (Builtin.copy_ #[dT, sT] ty #[.slice (some ⟨g, o, none⟩) dLen dCap, .slice (some a) sLen sCap]).run P w =
      .ok (goInt (Nat.min sLen dLen)) (w.setRow g (cur.toList.take o ++ cs ++ cur.toList.drop (o + cs.length)).toArray) := by
  have hl := run_loadCells_list (P := P) w a cs hsrc
  have hst := run_storeCells_at P g o t cs 0 cur w hg (by simpa using hfit) h1
  cases hq : P.info? elem with
  | none => simp [hq] at hs
  | some i =>
    have hi : i.size = m := by simpa [hq] using hs
    simp [Builtin.copy_, run_underlying hu, Builtin.lenOf, Builtin.firstCells, sizeOf, typeInfo, hq, hi, ← hn, hl, hst]

theorem info_word_size : (Tryz.prog.info? 33).map (·.size) = some 2 := by kernel_rfl

/-- The copy of six words behind the first two of a row. -/
theorem copy_words (w W : World) (g : Nat) (T : TypeId) (b o cap : Nat) (v0 v1 v2 v3 : Value) (p0 q0 p1 q1 p2 q2 p3 q3 p4 q4 p5 q5 : Int) (hg : W.heap[g]? = some (.cells #[v0, v1, v2, v3, .int .i64 0, .int .i64 0, .int .i64 0, .int .i64 0, .int .i64 0, .int .i64 0, .int .i64 0, .int .i64 0, .int .i64 0, .int .i64 0, .int .i64 0, .int .i64 0] T (0, 0))) (hw : w.heap.size ≤ g) (hb : Below w.heap.size w W) (hlt : b < w.heap.size)
    (hc : ∀ i v, ([.int .i64 p0, .int .i64 q0, .int .i64 p1, .int .i64 q1, .int .i64 p2, .int .i64 q2, .int .i64 p3, .int .i64 q3, .int .i64 p4, .int .i64 q4, .int .i64 p5, .int .i64 q5] : List Value)[i]? = some v → w.cell? ⟨b, o + i, none⟩ = some v) : ∃ w1 : World,
    (Builtin.copy_ #[34, 34] 3 #[.slice (some ⟨g, 4, none⟩) 6 6, .slice (some ⟨b, o, none⟩) 6 cap]).run Tryz.prog W = .ok (.int .i64 6) w1 ∧
    w1.heap[g]? = some (.cells #[v0, v1, v2, v3, .int .i64 p0, .int .i64 q0, .int .i64 p1, .int .i64 q1, .int .i64 p2, .int .i64 q2, .int .i64 p3, .int .i64 q3, .int .i64 p4, .int .i64 q4, .int .i64 p5, .int .i64 q5] T (0, 0)) ∧ Below w.heap.size w w1 ∧ W.grownBy w1 (some g) := by
  have hr := run_copy_rows (P := Tryz.prog) W 34 34 3 33 2 g 4 6 6 ⟨b, o, none⟩ 6 cap _ T [.int .i64 p0, .int .i64 q0, .int .i64 p1, .int .i64 q1, .int .i64 p2, .int .i64 q2, .int .i64 p3, .int .i64 q3, .int .i64 p4, .int .i64 q4, .int .i64 p5, .int .i64 q5] Tryz.underlying34 info_word_size hg rfl (fun j v hj => by
    have e : (⟨b, o, none⟩ : Addr).add j = ⟨b, o + j, none⟩ := by unfold Addr.add; split <;> simp_all
    rw [e, hb.cell (p := ⟨b, o + j, none⟩) hlt]
    exact hc j v hj) (by simp) (by intro v hv; simp only [List.mem_cons, List.not_mem_nil, or_false] at hv; rcases hv with rfl | rfl | rfl | rfl | rfl | rfl | rfl | rfl | rfl | rfl | rfl | rfl <;> rfl)
  refine ⟨_, hr, setRow_heap _ _ _ _ T (0, 0) hg, ?_, ?_⟩
  · exact ⟨hb.os, hb.tape, hb.output, by simpa using hb.size, fun k hk => (setRow_other _ _ _ _ (by omega)).trans (hb.block k hk)⟩
  · exact ⟨rfl, rfl, rfl, by simp, fun k hk hne => setRow_other _ _ _ _ (fun e => hne (by rw [e]))⟩

set_option maxHeartbeats 1600000 in
theorem wordsOf_any (nr ar ih il p0 q0 p1 q1 p2 q2 p3 q3 p4 q4 p5 q5 : Int) (v : Value) (w : World) (hv : WdAt w w.heap.size v [⟨p0, q0⟩, ⟨p1, q1⟩, ⟨p2, q2⟩, ⟨p3, q3⟩, ⟨p4, q4⟩, ⟨p5, q5⟩]) :
    Calls Tryz.prog 89 #[.agg #[.int .i64 nr, .int .i64 ar, .int .i64 ih, .int .i64 il, v]] w fun e w' => e = .returned (.agg #[.int .i64 ar, .int .i64 nr, .int .i64 ih, .int .i64 il, .int .i64 p0, .int .i64 q0, .int .i64 p1, .int .i64 q1, .int .i64 p2, .int .i64 q2, .int .i64 p3, .int .i64 q3, .int .i64 p4, .int .i64 q4, .int .i64 p5, .int .i64 q5]) ∧ Below w.heap.size w w' := by
  obtain ⟨_, ⟨a, cap, rfl, hlc, hcm, h3⟩, _⟩ := hv
  obtain ⟨b, o, rfl, hb, hc⟩ := h3 (by simp)
  unfold maxLen at hcm
  simp only [List.length_cons, List.length_nil] at hlc
  have h3' := rows3 (w := w) (Below.refl _ (((w.alloc (.cells #[.int .i64 nr, .int .i64 ar, .int .i64 ih, .int .i64 il, .slice (some ⟨b, o, none⟩) 6 cap] 36)).alloc (.cells #[.int .i64 0, .int .i64 0, .int .i64 0, .int .i64 0, .int .i64 0, .int .i64 0, .int .i64 0, .int .i64 0, .int .i64 0, .int .i64 0, .int .i64 0, .int .i64 0, .int .i64 0, .int .i64 0, .int .i64 0, .int .i64 0] 136)).alloc (.cells #[.int .i64 ar, .int .i64 nr, .int .i64 ih, .int .i64 il, .int .i64 0, .int .i64 0, .int .i64 0, .int .i64 0, .int .i64 0, .int .i64 0, .int .i64 0, .int .i64 0, .int .i64 0, .int .i64 0, .int .i64 0, .int .i64 0] 136)))
  obtain ⟨w1, hcp, hg1, hb1, hgr⟩ := copy_words w (((w.alloc (.cells #[.int .i64 nr, .int .i64 ar, .int .i64 ih, .int .i64 il, .slice (some ⟨b, o, none⟩) 6 cap] 36)).alloc (.cells #[.int .i64 0, .int .i64 0, .int .i64 0, .int .i64 0, .int .i64 0, .int .i64 0, .int .i64 0, .int .i64 0, .int .i64 0, .int .i64 0, .int .i64 0, .int .i64 0, .int .i64 0, .int .i64 0, .int .i64 0, .int .i64 0] 136)).alloc (.cells #[.int .i64 ar, .int .i64 nr, .int .i64 ih, .int .i64 il, .int .i64 0, .int .i64 0, .int .i64 0, .int .i64 0, .int .i64 0, .int .i64 0, .int .i64 0, .int .i64 0, .int .i64 0, .int .i64 0, .int .i64 0, .int .i64 0] 136)).drew (w.heap.size + 1 + 1) 136 b o cap (.int .i64 ar) (.int .i64 nr) (.int .i64 ih) (.int .i64 il) p0 q0 p1 q1 p2 q2 p3 q3 p4 q4 p5 q5 h3'.2.2.1 (by omega) h3'.2.2.2.1.drew hb hc
  have hz1 := row_grown (b := w.heap.size + 1) (w := (((w.alloc (.cells #[.int .i64 nr, .int .i64 ar, .int .i64 ih, .int .i64 il, .slice (some ⟨b, o, none⟩) 6 cap] 36)).alloc (.cells #[.int .i64 0, .int .i64 0, .int .i64 0, .int .i64 0, .int .i64 0, .int .i64 0, .int .i64 0, .int .i64 0, .int .i64 0, .int .i64 0, .int .i64 0, .int .i64 0, .int .i64 0, .int .i64 0, .int .i64 0, .int .i64 0] 136)).alloc (.cells #[.int .i64 ar, .int .i64 nr, .int .i64 ih, .int .i64 il, .int .i64 0, .int .i64 0, .int .i64 0, .int .i64 0, .int .i64 0, .int .i64 0, .int .i64 0, .int .i64 0, .int .i64 0, .int .i64 0, .int .i64 0, .int .i64 0] 136)).drew) h3'.2.1 hgr (by simp)
  have HB := Lib.hid hb1
  have c0 := row_cell hg1 0
  have d0 := row_cell hz1 0
  have f0 := frozen_row hz1 0
  have c1 := row_cell hg1 1
  have d1 := row_cell hz1 1
  have f1 := frozen_row hz1 1
  have c2 := row_cell hg1 2
  have d2 := row_cell hz1 2
  have f2 := frozen_row hz1 2
  have c3 := row_cell hg1 3
  have d3 := row_cell hz1 3
  have f3 := frozen_row hz1 3
  have c4 := row_cell hg1 4
  have d4 := row_cell hz1 4
  have f4 := frozen_row hz1 4
  have c5 := row_cell hg1 5
  have d5 := row_cell hz1 5
  have f5 := frozen_row hz1 5
  have c6 := row_cell hg1 6
  have d6 := row_cell hz1 6
  have f6 := frozen_row hz1 6
  have c7 := row_cell hg1 7
  have d7 := row_cell hz1 7
  have f7 := frozen_row hz1 7
  have c8 := row_cell hg1 8
  have d8 := row_cell hz1 8
  have f8 := frozen_row hz1 8
  have c9 := row_cell hg1 9
  have d9 := row_cell hz1 9
  have f9 := frozen_row hz1 9
  have c10 := row_cell hg1 10
  have d10 := row_cell hz1 10
  have f10 := frozen_row hz1 10
  have c11 := row_cell hg1 11
  have d11 := row_cell hz1 11
  have f11 := frozen_row hz1 11
  have c12 := row_cell hg1 12
  have d12 := row_cell hz1 12
  have f12 := frozen_row hz1 12
  have c13 := row_cell hg1 13
  have d13 := row_cell hz1 13
  have f13 := frozen_row hz1 13
  have c14 := row_cell hg1 14
  have d14 := row_cell hz1 14
  have f14 := frozen_row hz1 14
  have c15 := row_cell hg1 15
  have d15 := row_cell hz1 15
  have f15 := frozen_row hz1 15
  simp only [List.getElem?_toArray, List.getElem?_cons_zero, List.getElem?_cons_succ] at c0 d0 c1 d1 c2 d2 c3 d3 c4 d4 c5 d5 c6 d6 c7 d7 c8 d8 c9 d9 c10 d10 c11 d11 c12 d12 c13 d13 c14 d14 c15 d15
  clear hg1 hb1 hgr hz1 h3' h3 hc
  go_enter Tryz.func89, Tryz.ntmps89
  go_wp2_with fail
  refine wp_region_still_tail 3 (by kernel_rfl) (by kernel_rfl) ?_
  simp only [List.take_succ_cons, List.take_zero, List.drop_succ_cons, List.drop_zero, World.drew_eq]
  repeat still_step
  refine wpStill_nil ?_
  go_wp2
  exact bodyPost_ret (v := .agg #[.int .i64 ar, .int .i64 nr, .int .i64 ih, .int .i64 il, .int .i64 p0, .int .i64 q0, .int .i64 p1, .int .i64 q1, .int .i64 p2, .int .i64 q2, .int .i64 p3, .int .i64 q3, .int .i64 p4, .int .i64 q4, .int .i64 p5, .int .i64 q5]) (by simp [results, Tryz.results89, go_sem, d0, d1, d2, d3, d4, d5, d6, d7, d8, d9, d10, d11, d12, d13, d14, d15]) rfl ⟨rfl, ((((((((((((((((HB.out.setCell (p := ⟨w.heap.size + 1, 0, none⟩) (by simp) _).setCell (p := ⟨w.heap.size + 1, 1, none⟩) (by simp) _).setCell (p := ⟨w.heap.size + 1, 2, none⟩) (by simp) _).setCell (p := ⟨w.heap.size + 1, 3, none⟩) (by simp) _).setCell (p := ⟨w.heap.size + 1, 4, none⟩) (by simp) _).setCell (p := ⟨w.heap.size + 1, 5, none⟩) (by simp) _).setCell (p := ⟨w.heap.size + 1, 6, none⟩) (by simp) _).setCell (p := ⟨w.heap.size + 1, 7, none⟩) (by simp) _).setCell (p := ⟨w.heap.size + 1, 8, none⟩) (by simp) _).setCell (p := ⟨w.heap.size + 1, 9, none⟩) (by simp) _).setCell (p := ⟨w.heap.size + 1, 10, none⟩) (by simp) _).setCell (p := ⟨w.heap.size + 1, 11, none⟩) (by simp) _).setCell (p := ⟨w.heap.size + 1, 12, none⟩) (by simp) _).setCell (p := ⟨w.heap.size + 1, 13, none⟩) (by simp) _).setCell (p := ⟨w.heap.size + 1, 14, none⟩) (by simp) _).setCell (p := ⟨w.heap.size + 1, 15, none⟩) (by simp) _)⟩

end Go.Proofs.YtekmnopgaopmlaaGreatDoor

/- Arrays of eight words compared as wholes. -/
set_option maxRecDepth 100000
set_option linter.unusedSimpArgs false
namespace Go.Proofs.YtekmnopgaopmlaaGreatDoor
open Go.RowKit

theorem step_items {P : Program} {w : World} {d c i : Nat} {e : TypeId} {xs ys : Array Value} {is : List Nat} {a b : Value} {r r' : Bool} (p1 : (part e xs (i * c)).run P w = .ok a w) (p2 : (part e ys (i * c)).run P w = .ok b w)
    (p3 : (Op.equalIn d e a b).run P w = .ok r w) (p4 : (Op.eqItems d e c xs ys is).run P w = .ok r' w) : (Op.eqItems d e c xs ys (i :: is)).run P w = .ok (r && r') w := by
  simp only [Op.eqItems, Sem.run_bind, p1, p2, p3, Result.andThen_ok]
  cases r
  · simp
  · simpa using p4

theorem eqWordIn (a b c d : Int) (w : World) : (Op.equalIn 9999 33 (.agg #[.int .i64 a, .int .i64 b]) (.agg #[.int .i64 c, .int .i64 d])).run Tryz.prog w = .ok (decide ((⟨a, b⟩ : Wd) = ⟨c, d⟩)) w := by
  have hS : Tryz.prog.underlying 33 = some (.struct (Tryz.prog.fieldsOf 33)) := by kernel_rfl
  have hp : Tryz.prog.stoodInHeld 33 = false := by kernel_rfl
  rw [show (9999 : Nat) = 9998 + 1 from rfl, run_equalIn_agg w 9998 33 _ _ hS hp]
  simp only [Program.fieldsOf, Tryz.underlying33]
  go_simp
  by_cases h1 : a = c <;> by_cases h2 : b = d <;> simp [h1, h2]

theorem cells_word : Tryz.prog.cellsOf 33 = 2 := by kernel_rfl
theorem cells_info : ∃ i, Tryz.prog.info? 33 = some i := by
  have h := info_word_size
  cases hq : Tryz.prog.info? 33 with
  | none => simp [hq] at h
  | some i => exact ⟨i, rfl⟩

theorem eqWords8 (a0 a1 a2 a3 a4 a5 a6 a7 a8 a9 a10 a11 a12 a13 a14 a15 b0 b1 b2 b3 b4 b5 b6 b7 b8 b9 b10 b11 b12 b13 b14 b15 : Int) (w : World) : (Op.equalIn 10000 136 (.agg #[.int .i64 a0, .int .i64 a1, .int .i64 a2, .int .i64 a3, .int .i64 a4, .int .i64 a5, .int .i64 a6, .int .i64 a7, .int .i64 a8, .int .i64 a9, .int .i64 a10, .int .i64 a11, .int .i64 a12, .int .i64 a13, .int .i64 a14, .int .i64 a15]) (.agg #[.int .i64 b0, .int .i64 b1, .int .i64 b2, .int .i64 b3, .int .i64 b4, .int .i64 b5, .int .i64 b6, .int .i64 b7, .int .i64 b8, .int .i64 b9, .int .i64 b10, .int .i64 b11, .int .i64 b12, .int .i64 b13, .int .i64 b14, .int .i64 b15])).run Tryz.prog w =
    .ok (decide ((⟨a0, a1⟩ : Wd) = ⟨b0, b1⟩) && (decide ((⟨a2, a3⟩ : Wd) = ⟨b2, b3⟩) && (decide ((⟨a4, a5⟩ : Wd) = ⟨b4, b5⟩) && (decide ((⟨a6, a7⟩ : Wd) = ⟨b6, b7⟩) && (decide ((⟨a8, a9⟩ : Wd) = ⟨b8, b9⟩) && (decide ((⟨a10, a11⟩ : Wd) = ⟨b10, b11⟩) && (decide ((⟨a12, a13⟩ : Wd) = ⟨b12, b13⟩) && (decide ((⟨a14, a15⟩ : Wd) = ⟨b14, b15⟩) && true)))))))) w := by
  obtain ⟨i, hi⟩ := cells_info
  rw [show (10000 : Nat) = 9999 + 1 from rfl, run_equalIn_array w 9999 _ _ Tryz.underlying136 hi, cells_word]
  rw [show List.range 8 = [0, 1, 2, 3, 4, 5, 6, 7] from rfl]
  have s8 : (Op.eqItems 9999 33 2 #[.int .i64 a0, .int .i64 a1, .int .i64 a2, .int .i64 a3, .int .i64 a4, .int .i64 a5, .int .i64 a6, .int .i64 a7, .int .i64 a8, .int .i64 a9, .int .i64 a10, .int .i64 a11, .int .i64 a12, .int .i64 a13, .int .i64 a14, .int .i64 a15] #[.int .i64 b0, .int .i64 b1, .int .i64 b2, .int .i64 b3, .int .i64 b4, .int .i64 b5, .int .i64 b6, .int .i64 b7, .int .i64 b8, .int .i64 b9, .int .i64 b10, .int .i64 b11, .int .i64 b12, .int .i64 b13, .int .i64 b14, .int .i64 b15] []).run Tryz.prog w = .ok true w := by simp [Op.eqItems]
  have s7 := step_items (i := 7) (by simp [part, go_sem]) (by simp [part, go_sem]) (eqWordIn a14 a15 b14 b15 w) s8
  have s6 := step_items (i := 6) (by simp [part, go_sem]) (by simp [part, go_sem]) (eqWordIn a12 a13 b12 b13 w) s7
  have s5 := step_items (i := 5) (by simp [part, go_sem]) (by simp [part, go_sem]) (eqWordIn a10 a11 b10 b11 w) s6
  have s4 := step_items (i := 4) (by simp [part, go_sem]) (by simp [part, go_sem]) (eqWordIn a8 a9 b8 b9 w) s5
  have s3 := step_items (i := 3) (by simp [part, go_sem]) (by simp [part, go_sem]) (eqWordIn a6 a7 b6 b7 w) s4
  have s2 := step_items (i := 2) (by simp [part, go_sem]) (by simp [part, go_sem]) (eqWordIn a4 a5 b4 b5 w) s3
  have s1 := step_items (i := 1) (by simp [part, go_sem]) (by simp [part, go_sem]) (eqWordIn a2 a3 b2 b3 w) s2
  have s0 := step_items (i := 0) (by simp [part, go_sem]) (by simp [part, go_sem]) (eqWordIn a0 a1 b0 b1 w) s1
  exact s0

end Go.Proofs.YtekmnopgaopmlaaGreatDoor

/- Walks of the program's RecordRight and RecordBytes. -/
set_option maxRecDepth 100000
set_option linter.unusedSimpArgs false
namespace Go.Proofs.YtekmnopgaopmlaaGreatDoor
open Go.RowKit
attribute [local go_sem ↓] Go.wp_at_zero Go.wp_at_succ

theorem six_of {l : List Wd} (h : l.length = 6) : ∃ p0 q0 p1 q1 p2 q2 p3 q3 p4 q4 p5 q5 : Int, l = [⟨p0, q0⟩, ⟨p1, q1⟩, ⟨p2, q2⟩, ⟨p3, q3⟩, ⟨p4, q4⟩, ⟨p5, q5⟩] := by
  match l, h with
  | [⟨p0, q0⟩, ⟨p1, q1⟩, ⟨p2, q2⟩, ⟨p3, q3⟩, ⟨p4, q4⟩, ⟨p5, q5⟩], _ => exact ⟨p0, q0, p1, q1, p2, q2, p3, q3, p4, q4, p5, q5, rfl⟩

theorem same_word (a b : Int) : decide ((⟨(halves (bitsW ⟨a, b⟩)).h, (halves (bitsW ⟨a, b⟩)).l⟩ : Wd) = ⟨a, b⟩) = wdRight ⟨a, b⟩ := by
  have h := halves_bitsW ⟨a, b⟩
  rw [Bool.eq_iff_iff, decide_eq_true_eq]
  exact h

set_option maxHeartbeats 1600000 in
theorem implRecordRight_any (r : Rc) (v : Value) (w : World) (hv : WdAt w w.heap.size v r.args) :
    Calls Tryz.prog 87 #[rcV r v] w fun e w' => e = .returned (.bool (rcRight r)) ∧ Below w.heap.size w w' := by
  obtain ⟨nr, ar, ⟨ih, il⟩, args⟩ := r
  obtain ⟨a, cap, rfl, hlc, hcm⟩ := hv.len
  unfold maxLen at hcm
  simp only at hv hlc ⊢
  by_cases h3 : args.length = 6
  · obtain ⟨p0, q0, p1, q1, p2, q2, p3, q3, p4, q4, p5, q5, rfl⟩ := six_of h3
    have qa := fun W (h : Below w.heap.size w W) => wordsOf_any nr ar ih il p0 q0 p1 q1 p2 q2 p3 q3 p4 q4 p5 q5 _ W (LAt.up (LAt.below hv h) h.size)
    have qb := fun W => rowOf_any ar nr ih il p0 q0 p1 q1 p2 q2 p3 q3 p4 q4 p5 q5 W
    have heq := fun W => eqWords8 (halves (bitsW ⟨ar, nr⟩)).h (halves (bitsW ⟨ar, nr⟩)).l (halves (bitsW ⟨ih, il⟩)).h (halves (bitsW ⟨ih, il⟩)).l (halves (bitsW ⟨p0, q0⟩)).h (halves (bitsW ⟨p0, q0⟩)).l (halves (bitsW ⟨p1, q1⟩)).h (halves (bitsW ⟨p1, q1⟩)).l (halves (bitsW ⟨p2, q2⟩)).h (halves (bitsW ⟨p2, q2⟩)).l (halves (bitsW ⟨p3, q3⟩)).h (halves (bitsW ⟨p3, q3⟩)).l (halves (bitsW ⟨p4, q4⟩)).h (halves (bitsW ⟨p4, q4⟩)).l (halves (bitsW ⟨p5, q5⟩)).h (halves (bitsW ⟨p5, q5⟩)).l ar nr ih il p0 q0 p1 q1 p2 q2 p3 q3 p4 q4 p5 q5 W
    have hres : rcRight ⟨nr, ar, ⟨ih, il⟩, [⟨p0, q0⟩, ⟨p1, q1⟩, ⟨p2, q2⟩, ⟨p3, q3⟩, ⟨p4, q4⟩, ⟨p5, q5⟩]⟩ = (wdRight ⟨ar, nr⟩ && (wdRight ⟨ih, il⟩ && (wdRight ⟨p0, q0⟩ && (wdRight ⟨p1, q1⟩ && (wdRight ⟨p2, q2⟩ && (wdRight ⟨p3, q3⟩ && (wdRight ⟨p4, q4⟩ && (wdRight ⟨p5, q5⟩ && true)))))))) := by
      simp only [rcRight, List.all_cons, List.all_nil, wdRight, List.length_cons, List.length_nil, Nat.zero_add, Nat.reduceAdd, decide_true, Bool.and_true]
      cases isB nr 0 4294967295 <;> cases isB ar 0 4294967295 <;> simp [Bool.and_assoc]
    rw [same_word ar nr, same_word ih il, same_word p0 q0, same_word p1 q1, same_word p2 q2, same_word p3 q3, same_word p4 q4, same_word p5 q5, ← hres] at heq
    generalize hrr : rcRight ⟨nr, ar, ⟨ih, il⟩, [⟨p0, q0⟩, ⟨p1, q1⟩, ⟨p2, q2⟩, ⟨p3, q3⟩, ⟨p4, q4⟩, ⟨p5, q5⟩]⟩ = rr at *
    clear hres hrr
    have bd0 := bitsW_bd ⟨ar, nr⟩
    have bd1 := bitsW_bd ⟨ih, il⟩
    have bd2 := bitsW_bd ⟨p0, q0⟩
    have bd3 := bitsW_bd ⟨p1, q1⟩
    have bd4 := bitsW_bd ⟨p2, q2⟩
    have bd5 := bitsW_bd ⟨p3, q3⟩
    have bd6 := bitsW_bd ⟨p4, q4⟩
    have bd7 := bitsW_bd ⟨p5, q5⟩
    have qc := fun W => words_any (bitsW ⟨ar, nr⟩) (bitsW ⟨ih, il⟩) (bitsW ⟨p0, q0⟩) (bitsW ⟨p1, q1⟩) (bitsW ⟨p2, q2⟩) (bitsW ⟨p3, q3⟩) (bitsW ⟨p4, q4⟩) (bitsW ⟨p5, q5⟩) W bd0 bd1 bd2 bd3 bd4 bd5 bd6 bd7
    generalize bitsW ⟨ar, nr⟩ = u0 at *
    generalize bitsW ⟨ih, il⟩ = u1 at *
    generalize bitsW ⟨p0, q0⟩ = u2 at *
    generalize bitsW ⟨p1, q1⟩ = u3 at *
    generalize bitsW ⟨p2, q2⟩ = u4 at *
    generalize bitsW ⟨p3, q3⟩ = u5 at *
    generalize bitsW ⟨p4, q4⟩ = u6 at *
    generalize bitsW ⟨p5, q5⟩ = u7 at *
    simp only [List.length_cons, List.length_nil, Nat.zero_add, Nat.reduceAdd] at qa hlc ⊢
    have QA := Lib.hid qa
    have QB := Lib.hid qb
    have QC := Lib.hid qc
    clear qa qb qc hv bd0 bd1 bd2 bd3 bd4 bd5 bd6 bd7
    go_enter Tryz.func87, Tryz.ntmps87
    go_wp2_with fail
    refine (QA.out _ ((Below.refl _ _).alloc (Nat.le_refl _) _)).mono ?_
    rintro e w1 ⟨rfl, hb1⟩
    have HB1 := Lib.hid (box_below hb1)
    clear hb1
    have hkeep : ∀ W : World, Below (w1.alloc (.cells #[.int .i64 ar, .int .i64 nr, .int .i64 ih, .int .i64 il, .int .i64 p0, .int .i64 q0, .int .i64 p1, .int .i64 q1, .int .i64 p2, .int .i64 q2, .int .i64 p3, .int .i64 q3, .int .i64 p4, .int .i64 q4, .int .i64 p5, .int .i64 q5] 136)).heap.size (w1.alloc (.cells #[.int .i64 ar, .int .i64 nr, .int .i64 ih, .int .i64 il, .int .i64 p0, .int .i64 q0, .int .i64 p1, .int .i64 q1, .int .i64 p2, .int .i64 q2, .int .i64 p3, .int .i64 q3, .int .i64 p4, .int .i64 q4, .int .i64 p5, .int .i64 q5] 136)) W → (W.cell? ⟨w1.heap.size, 0, none⟩ = some (.int .i64 ar) ∧ W.cell? ⟨w1.heap.size, 1, none⟩ = some (.int .i64 nr) ∧ W.cell? ⟨w1.heap.size, 2, none⟩ = some (.int .i64 ih) ∧ W.cell? ⟨w1.heap.size, 3, none⟩ = some (.int .i64 il) ∧ W.cell? ⟨w1.heap.size, 4, none⟩ = some (.int .i64 p0) ∧ W.cell? ⟨w1.heap.size, 5, none⟩ = some (.int .i64 q0) ∧ W.cell? ⟨w1.heap.size, 6, none⟩ = some (.int .i64 p1) ∧ W.cell? ⟨w1.heap.size, 7, none⟩ = some (.int .i64 q1) ∧ W.cell? ⟨w1.heap.size, 8, none⟩ = some (.int .i64 p2) ∧ W.cell? ⟨w1.heap.size, 9, none⟩ = some (.int .i64 q2) ∧ W.cell? ⟨w1.heap.size, 10, none⟩ = some (.int .i64 p3) ∧ W.cell? ⟨w1.heap.size, 11, none⟩ = some (.int .i64 q3) ∧ W.cell? ⟨w1.heap.size, 12, none⟩ = some (.int .i64 p4) ∧ W.cell? ⟨w1.heap.size, 13, none⟩ = some (.int .i64 q4) ∧ W.cell? ⟨w1.heap.size, 14, none⟩ = some (.int .i64 p5) ∧ W.cell? ⟨w1.heap.size, 15, none⟩ = some (.int .i64 q5)) := fun W hb => ⟨box_cell hb 0, box_cell hb 1, box_cell hb 2, box_cell hb 3, box_cell hb 4, box_cell hb 5, box_cell hb 6, box_cell hb 7, box_cell hb 8, box_cell hb 9, box_cell hb 10, box_cell hb 11, box_cell hb 12, box_cell hb 13, box_cell hb 14, box_cell hb 15⟩
    have HK := Lib.hid hkeep
    clear hkeep
    have hbw0 : Below (w1.alloc (.cells #[.int .i64 ar, .int .i64 nr, .int .i64 ih, .int .i64 il, .int .i64 p0, .int .i64 q0, .int .i64 p1, .int .i64 q1, .int .i64 p2, .int .i64 q2, .int .i64 p3, .int .i64 q3, .int .i64 p4, .int .i64 q4, .int .i64 p5, .int .i64 q5] 136)).heap.size (w1.alloc (.cells #[.int .i64 ar, .int .i64 nr, .int .i64 ih, .int .i64 il, .int .i64 p0, .int .i64 q0, .int .i64 p1, .int .i64 q1, .int .i64 p2, .int .i64 q2, .int .i64 p3, .int .i64 q3, .int .i64 p4, .int .i64 q4, .int .i64 p5, .int .i64 q5] 136)) (w1.alloc (.cells #[.int .i64 ar, .int .i64 nr, .int .i64 ih, .int .i64 il, .int .i64 p0, .int .i64 q0, .int .i64 p1, .int .i64 q1, .int .i64 p2, .int .i64 q2, .int .i64 p3, .int .i64 q3, .int .i64 p4, .int .i64 q4, .int .i64 p5, .int .i64 q5] 136)).drew := (Below.refl _ _).drew
    go_wp2_with fail
    go_region_held3 (fun w' => w'.cell? ⟨w1.heap.size, 0, none⟩ = some (.int .i64 ar) ∧ w'.cell? ⟨w1.heap.size, 1, none⟩ = some (.int .i64 nr) ∧ w'.cell? ⟨w1.heap.size, 2, none⟩ = some (.int .i64 ih) ∧ w'.cell? ⟨w1.heap.size, 3, none⟩ = some (.int .i64 il) ∧ w'.cell? ⟨w1.heap.size, 4, none⟩ = some (.int .i64 p0) ∧ w'.cell? ⟨w1.heap.size, 5, none⟩ = some (.int .i64 q0) ∧ w'.cell? ⟨w1.heap.size, 6, none⟩ = some (.int .i64 p1) ∧ w'.cell? ⟨w1.heap.size, 7, none⟩ = some (.int .i64 q1) ∧ w'.cell? ⟨w1.heap.size, 8, none⟩ = some (.int .i64 p2) ∧ w'.cell? ⟨w1.heap.size, 9, none⟩ = some (.int .i64 q2) ∧ w'.cell? ⟨w1.heap.size, 10, none⟩ = some (.int .i64 p3) ∧ w'.cell? ⟨w1.heap.size, 11, none⟩ = some (.int .i64 q3) ∧ w'.cell? ⟨w1.heap.size, 12, none⟩ = some (.int .i64 p4) ∧ w'.cell? ⟨w1.heap.size, 13, none⟩ = some (.int .i64 q4) ∧ w'.cell? ⟨w1.heap.size, 14, none⟩ = some (.int .i64 p5) ∧ w'.cell? ⟨w1.heap.size, 15, none⟩ = some (.int .i64 q5))
      (first | exact HK.out _ hbw2 | exact HK.out _ hbw1 | exact HK.out _ hbw0 | go_keep)
      (first
        | (go_at_call 88; (with_reducible refine (QB.out _).mono ?_); rintro e w2 ⟨rfl, hb2⟩; have hbw1 := hbw0.trans (hb2.mono hbw0.size))
        | (go_at_call 128; (with_reducible refine (QC.out _).mono ?_); rintro e w3 ⟨rfl, hb3⟩; have hbw2 := hbw1.trans (hb3.mono hbw1.size)))
    have HE := Lib.hid (HB1.out.trans ((box_below hbw2).mono HB1.out.size))
    clear hbw0 hbw1 hbw2 hb2 hb3 heq
    go_wp2_with fail
    go_ret
    exact ⟨rfl, HE.out⟩
  · have HR := Lib.hid (show rcRight ⟨nr, ar, ⟨ih, il⟩, args⟩ = false by simp [rcRight, h3])
    have hq : ((args.length : Int) != 6) = true := by simp; omega
    clear h3 hv
    go_enter Tryz.func87, Tryz.ntmps87
    go_wp2_with fail
    go_ret
    exact ⟨ret_bool HR.out.symm, (Below.refl _ _).alloc (Nat.le_refl _) _⟩

end Go.Proofs.YtekmnopgaopmlaaGreatDoor

/- Walks of the program's addLow at any number of 64 bits, and RecordBytes. -/
set_option maxRecDepth 100000
set_option linter.unusedSimpArgs false
namespace Go.Proofs.YtekmnopgaopmlaaGreatDoor
open Go.RowKit
attribute [local go_sem ↓] Go.wp_at_zero Go.wp_at_succ

/-- A number of 64 bits as one of int64. -/
abbrev sgn (u : Int) : Int := wrap64 u
theorem sgn_back (u : Int) (h0 : 0 ≤ u) (h1 : u ≤ 18446744073709551615) : IntKind.u64.wrap (sgn u) = u := by
  unfold sgn wrap64
  rw [IntKind.wrap_u64]
  omega
theorem sgn_mod (u : Int) (h0 : 0 ≤ u) (h1 : u ≤ 18446744073709551615) : sgn u % 18446744073709551616 = u := by
  unfold sgn wrap64
  omega

set_option maxHeartbeats 800000 in
theorem addLow8_any (base : Nat) (v0 : Value) (bs : List UInt8) (u : Int) (w : World) (hown0 : OwnB base w v0 bs) (hbase : base ≤ w.heap.size) (hlen : bs.length ≤ 1000000000) (h0 : 0 ≤ u) (h1 : u ≤ 18446744073709551615) :
    Calls Tryz.prog 90 #[v0, .int .i64 (sgn u), .int .i64 8] w fun e w' => ∃ v', e = .returned v' ∧ OwnB base w' v' (bs ++ leB 8 u) ∧ GrB w w' v0 v' := by
  have e1 := sgn_back u h0 h1
  have e2 := sgn_mod u h0 h1
  unfold sgn at *
  generalize wrap64 u = n at *
  go_enter Tryz.func90, Tryz.ntmps90
  go_wp2
  go_loopw [0, 7, 11] (fun v u' i wr => ∃ (k : Nat) (pre : List UInt8) (x : Int), k ≤ 8 ∧ u' = .int .u64 x ∧ i = .int .i64 k ∧ pre.length = k ∧ 0 ≤ x ∧ x ≤ 18446744073709551615 ∧ pre ++ leB (8 - k) x = leB 8 u ∧ OwnB base wr v (bs ++ pre) ∧ GrB w wr v0 v) (fun _ _ i _ => 8 - (intOf i).toNat)
  case atStart => exact ⟨0, [], u, by omega, by first | rfl | rw [e2] | rw [e1], rfl, rfl, h0, h1, by simp, by simpa using hown0, GrB.refl _ _⟩
  case round =>
    obtain ⟨k, pre, x, hk, rfl, rfl, hl, hx0, hx1, he, hown, hg⟩ := hrel
    have HE := Lib.hid he
    have HL := Lib.hid hl
    clear he hl
    have hsz : base ≤ _ := Nat.le_trans hbase hg.1.size
    by_cases hlt : k < 8
    · have hnext : (pre ++ [UInt8.ofNat (x % 256).toNat]) ++ leB (8 - (k + 1)) (x / 256) = leB 8 u := by
        have := HE.out
        rw [show 8 - k = (8 - (k + 1)) + 1 by omega] at this
        rw [List.append_assoc]
        exact this
      have hpl : (bs ++ pre).length ≤ 1000000008 := by have := HL.out; simp; omega
      have HN := Lib.hid hnext
      clear hnext
      go_wp2_with (at_builtin; refine wpList_push_u8s rfl _ _ rfl _ _ [x % 256] rfl 1 rfl base _ _ rfl hown (by intro n hn; simp at hn; omega) rfl (by omega) hsz ?_; intro v1 w1 hown1 hg1)
      go_roundw
      case rel => exact ⟨k + 1, _, x / 256, by omega, rfl, by go_num, by simp [HL.out], by omega, by omega, HN.out, by rw [← List.append_assoc]; exact hown1, hg.trans hg1⟩
      case measure => simp [intOf]; omega
    · have hfin : pre = leB 8 u := by
        have := HE.out
        rw [show 8 - k = 0 by omega] at this
        simpa [leB] using this
      have HF := Lib.hid hfin
      clear hfin
      go_wp2_with fail
      go_ret
      exact ⟨_, rfl, by rw [← HF.out]; exact hown, hg⟩

theorem leB8_halves (h l : Int) (l0 : 0 ≤ l) (l1 : l ≤ 4294967295) : leB 8 (h * 4294967296 + l) = wdB ⟨h, l⟩ := by
  unfold wdB
  simp only [leB]
  rw [show (h * 4294967296 + l) / 256 / 256 / 256 / 256 = h by omega]
  rw [show (h * 4294967296 + l) % 256 = l % 256 by omega, show (h * 4294967296 + l) / 256 % 256 = l / 256 % 256 by omega, show (h * 4294967296 + l) / 256 / 256 % 256 = l / 256 / 256 % 256 by omega, show (h * 4294967296 + l) / 256 / 256 / 256 % 256 = l / 256 / 256 / 256 % 256 by omega]
  rfl

theorem OwnB.below' {base : Nat} {w w' : World} {v : Value} {bs : List UInt8} (h : OwnB base w v bs) (hb : Below w.heap.size w w') : OwnB base w' v bs := own_below h hb
/-- The bytes of numbers, eight each. -/
def us8 (us : List Int) : List UInt8 := us.flatMap (leB 8)
theorem us8_length (us : List Int) : (us8 us).length = 8 * us.length := by
  induction us with
  | nil => rfl
  | cons x l ih => simp only [us8, List.flatMap_cons, List.length_append, leB_length, List.length_cons] at ih ⊢; rw [ih]; omega
theorem leB8_bits (x : Wd) (h : wdRight x = true) : leB 8 (bitsW x) = wdB x := by
  obtain ⟨⟨h0, h1⟩, ⟨l0, l1⟩⟩ := wdRight_bd h
  rw [bitsW_right h]
  exact leB8_halves x.h x.l l0 l1

set_option maxHeartbeats 3200000 in
theorem implRecordBytes_any (r : Rc) (v : Value) (w : World) (hv : WdAt w w.heap.size v r.args) :
    Calls Tryz.prog 56 #[rcV r v] w fun e w' => e = .returned (.string (rbOf r)) ∧ Below w.heap.size w w' := by
  obtain ⟨a, cap, rfl, hlc, hcm⟩ := hv.len
  have hb0 : ∀ o, Below w.heap.size w (w.alloc o) := fun o => (Below.refl _ _).alloc (Nat.le_refl _) _
  have hv0 := fun o => LAt.up (LAt.below hv (hb0 o)) (hb0 o).size
  have q1 := fun o => implRecordRight_any r _ (w.alloc o) (hv0 o)
  cases hr : rcRight r with
  | false =>
    have HN := Lib.hid (rbOf_no hr)
    simp only [hr] at q1
    have Q1 := Lib.hid q1
    clear q1 hv0 hv hb0 hr
    obtain ⟨nr, ar, ⟨ih, il⟩, args⟩ := r
    simp only at Q1 ⊢
    go_enter Tryz.func56, Tryz.ntmps56
    go_wp2_with fail
    refine (Q1.out _).mono ?_
    rintro e w1 ⟨rfl, hb1⟩
    have HB := Lib.hid (box_below hb1)
    clear hb1
    go_wp2_with fail
    go_ret
    exact ⟨ret_str HN.out.symm, HB.out⟩
  | true =>
    have HN := Lib.hid (rbOf_yes hr)
    obtain ⟨hn, ha, hip, hlen, hargs⟩ := rcRight_parts hr
    simp only [hr] at q1
    have Q1 := Lib.hid q1
    clear q1 hv0
    obtain ⟨nr, ar, ⟨ih, il⟩, args⟩ := r
    simp only at Q1 hlc hn ha hip hlen hargs hv HN ⊢
    obtain ⟨p0, q0, p1, q1, p2, q2, p3, q3, p4, q4, p5, q5, rfl⟩ := six_of hlen
    have qa := fun W (h : Below w.heap.size w W) => wordsOf_any nr ar ih il p0 q0 p1 q1 p2 q2 p3 q3 p4 q4 p5 q5 _ W (LAt.up (LAt.below hv h) h.size)
    have qb := fun W => rowOf_any ar nr ih il p0 q0 p1 q1 p2 q2 p3 q3 p4 q4 p5 q5 W
    have hwn : wdRight ⟨ar, nr⟩ = true := by unfold wdRight isB; simp only [Bool.and_eq_true, decide_eq_true_eq]; omega
    have hw0 : wdRight ⟨p0, q0⟩ = true := hargs 0 (by simp)
    have hw1 : wdRight ⟨p1, q1⟩ = true := hargs 1 (by simp)
    have hw2 : wdRight ⟨p2, q2⟩ = true := hargs 2 (by simp)
    have hw3 : wdRight ⟨p3, q3⟩ = true := hargs 3 (by simp)
    have hw4 : wdRight ⟨p4, q4⟩ = true := hargs 4 (by simp)
    have hw5 : wdRight ⟨p5, q5⟩ = true := hargs 5 (by simp)
    have hall : (rcB ⟨nr, ar, ⟨ih, il⟩, [⟨p0, q0⟩, ⟨p1, q1⟩, ⟨p2, q2⟩, ⟨p3, q3⟩, ⟨p4, q4⟩, ⟨p5, q5⟩]⟩) = us8 [bitsW ⟨ar, nr⟩, bitsW ⟨ih, il⟩, bitsW ⟨p0, q0⟩, bitsW ⟨p1, q1⟩, bitsW ⟨p2, q2⟩, bitsW ⟨p3, q3⟩, bitsW ⟨p4, q4⟩, bitsW ⟨p5, q5⟩] := by
      simp only [us8, List.flatMap_cons, List.flatMap_nil, leB8_bits _ hwn, leB8_bits _ hip, leB8_bits _ hw0, leB8_bits _ hw1, leB8_bits _ hw2, leB8_bits _ hw3, leB8_bits _ hw4, leB8_bits _ hw5]
      simp [rcB, wdB]
    have bd0 := bitsW_bd ⟨ar, nr⟩
    have bd1 := bitsW_bd ⟨ih, il⟩
    have bd2 := bitsW_bd ⟨p0, q0⟩
    have bd3 := bitsW_bd ⟨p1, q1⟩
    have bd4 := bitsW_bd ⟨p2, q2⟩
    have bd5 := bitsW_bd ⟨p3, q3⟩
    have bd6 := bitsW_bd ⟨p4, q4⟩
    have bd7 := bitsW_bd ⟨p5, q5⟩
    generalize bitsW ⟨ar, nr⟩ = b0 at *
    generalize bitsW ⟨ih, il⟩ = b1 at *
    generalize bitsW ⟨p0, q0⟩ = b2 at *
    generalize bitsW ⟨p1, q1⟩ = b3 at *
    generalize bitsW ⟨p2, q2⟩ = b4 at *
    generalize bitsW ⟨p3, q3⟩ = b5 at *
    generalize bitsW ⟨p4, q4⟩ = b6 at *
    generalize bitsW ⟨p5, q5⟩ = b7 at *
    have HA := Lib.hid hall
    simp only [List.length_cons, List.length_nil, Nat.zero_add, Nat.reduceAdd] at qa hlc Q1 ⊢
    have QA := Lib.hid qa
    have QB := Lib.hid qb
    clear qa qb hv hb0 hr hn ha hip hlen hargs hall hwn hw0 hw1 hw2 hw3 hw4 hw5
    go_enter Tryz.func56, Tryz.ntmps56
    go_wp2_with fail
    refine (Q1.out _).mono ?_
    rintro e w1 ⟨rfl, hb1⟩
    have c0 := box_cell hb1 0
    have c1 := box_cell hb1 1
    have c2 := box_cell hb1 2
    have c3 := box_cell hb1 3
    have c4 := box_cell hb1 4
    simp only [List.getElem?_toArray, List.getElem?_cons_zero, List.getElem?_cons_succ] at c0 c1 c2 c3 c4
    have HB := Lib.hid hb1
    have HB1 := Lib.hid (box_below hb1)
    have hs1 := HB.out.size
    clear hb1
    obtain ⟨i0, hi, hz0, hz1, hz2⟩ := info_parts info_u8
    simp only [World.size_alloc] at hs1
    go_wp2_with (refine wpList_make_own _ rfl _ _ _ rfl (w.heap.size + 1) 5 i0 _ 1 Tryz.underlying22 hi hz0 hz1 .i64 .i64 _ 64 rfl rfl (by omega) (by rw [hz2]; omega) (by unfold maxLen; omega) hs1 ?_; intro w2 hown2 hg2; have hbx := HB.out.grown hg2 (by simp; omega) (fun k hk => by cases hk); have c0 := box_cell hbx 0; have c1 := box_cell hbx 1; have c2 := box_cell hbx 2; have c3 := box_cell hbx 3; have c4 := box_cell hbx 4; simp only [List.getElem?_toArray, List.getElem?_cons_zero, List.getElem?_cons_succ] at c0 c1 c2 c3 c4; have HBX := Lib.hid hbx; have HO2 := Lib.hid (show OwnB (w.heap.size + 1) w2 _ [] from hown2); clear hbx hown2 hg2)
    clear c0 c1 c2 c3 c4
    refine (QA.out _ (box_below HBX.out)).mono ?_
    rintro e w3 ⟨rfl, hb3⟩
    have hsz3 := hb3.size
    have HO3 := Lib.hid (OwnB.below' HO2.out hb3)
    have HB3 := Lib.hid ((box_below HBX.out).trans (hb3.mono (box_below HBX.out).size))
    clear hb3
    go_wp2_with fail
    refine (QB.out _).mono ?_
    rintro e w4 ⟨rfl, hb4⟩
    have HO4 := Lib.hid (OwnB.below' HO3.out hb4)
    have HB4 := Lib.hid (HB3.out.trans (hb4.mono HB3.out.size))
    have hs4 : w.heap.size + 1 ≤ w4.heap.size := by
      have a := HBX.out.size
      simp only [World.size_alloc] at a
      exact Nat.le_trans a (Nat.le_trans hsz3 hb4.size)
    clear hb4
    go_wp2_with fail
    go_loopw [3, 13] (fun v i wr => ∃ k : Nat, k ≤ 8 ∧ i = .int .i64 k ∧ OwnB (w.heap.size + 1) wr v (us8 ([b0, b1, b2, b3, b4, b5, b6, b7].take k)) ∧ Below w.heap.size w wr ∧ w.heap.size + 1 ≤ wr.heap.size) (fun _ i _ => 8 - (intOf i).toNat)
    case atStart => exact ⟨0, by omega, rfl, HO4.out, HB4.out, hs4⟩
    case round =>
      obtain ⟨k, hk, rfl, hown, hbw, hsz⟩ := hrel
      have HB := Lib.hid hbw
      have HO := Lib.hid hown
      clear hbw hown
      rcases (by omega : k = 0 ∨ k = 1 ∨ k = 2 ∨ k = 3 ∨ k = 4 ∨ k = 5 ∨ k = 6 ∨ k = 7 ∨ k = 8) with rfl | rfl | rfl | rfl | rfl | rfl | rfl | rfl | rfl
      · have ix := fun W => idxR0 b0 b1 b2 b3 b4 b5 b6 b7 W
        go_wp2_with fail
        have ql := addLow8_any (w.heap.size + 1) _ _ b0 _ HO.out hsz (by rw [us8_length]; simp) bd0.1 bd0.2
        unfold sgn at ql
        refine ql.mono ?_
        rintro e w5 ⟨v5, rfl, hown5, hg5⟩
        have hbX := hg5.below (base := w.heap.size) HB.out (by omega) (fun k hk => by have := (HO.out.lt k hk).1; omega)
        have hn : us8 ([b0, b1, b2, b3, b4, b5, b6, b7].take 0) ++ leB 8 b0 = us8 ([b0, b1, b2, b3, b4, b5, b6, b7].take 1) := by simp [us8]
        rw [hn] at hown5
        have HX := Lib.hid hbX
        have HO5 := Lib.hid hown5
        have hs5 := hg5.1.size
        clear hown5 hbX hg5 hn ix ql
        go_wp2_with fail
        go_roundw
        case rel => exact ⟨1, by omega, rfl, HO5.out, HX.out, by omega⟩
        case measure => simp [intOf]
      · have ix := fun W => idxR1 b0 b1 b2 b3 b4 b5 b6 b7 W
        go_wp2_with fail
        have ql := addLow8_any (w.heap.size + 1) _ _ b1 _ HO.out hsz (by rw [us8_length]; simp) bd1.1 bd1.2
        unfold sgn at ql
        refine ql.mono ?_
        rintro e w5 ⟨v5, rfl, hown5, hg5⟩
        have hbX := hg5.below (base := w.heap.size) HB.out (by omega) (fun k hk => by have := (HO.out.lt k hk).1; omega)
        have hn : us8 ([b0, b1, b2, b3, b4, b5, b6, b7].take 1) ++ leB 8 b1 = us8 ([b0, b1, b2, b3, b4, b5, b6, b7].take 2) := by simp [us8]
        rw [hn] at hown5
        have HX := Lib.hid hbX
        have HO5 := Lib.hid hown5
        have hs5 := hg5.1.size
        clear hown5 hbX hg5 hn ix ql
        go_wp2_with fail
        go_roundw
        case rel => exact ⟨2, by omega, rfl, HO5.out, HX.out, by omega⟩
        case measure => simp [intOf]
      · have ix := fun W => idxR2 b0 b1 b2 b3 b4 b5 b6 b7 W
        go_wp2_with fail
        have ql := addLow8_any (w.heap.size + 1) _ _ b2 _ HO.out hsz (by rw [us8_length]; simp) bd2.1 bd2.2
        unfold sgn at ql
        refine ql.mono ?_
        rintro e w5 ⟨v5, rfl, hown5, hg5⟩
        have hbX := hg5.below (base := w.heap.size) HB.out (by omega) (fun k hk => by have := (HO.out.lt k hk).1; omega)
        have hn : us8 ([b0, b1, b2, b3, b4, b5, b6, b7].take 2) ++ leB 8 b2 = us8 ([b0, b1, b2, b3, b4, b5, b6, b7].take 3) := by simp [us8]
        rw [hn] at hown5
        have HX := Lib.hid hbX
        have HO5 := Lib.hid hown5
        have hs5 := hg5.1.size
        clear hown5 hbX hg5 hn ix ql
        go_wp2_with fail
        go_roundw
        case rel => exact ⟨3, by omega, rfl, HO5.out, HX.out, by omega⟩
        case measure => simp [intOf]
      · have ix := fun W => idxR3 b0 b1 b2 b3 b4 b5 b6 b7 W
        go_wp2_with fail
        have ql := addLow8_any (w.heap.size + 1) _ _ b3 _ HO.out hsz (by rw [us8_length]; simp) bd3.1 bd3.2
        unfold sgn at ql
        refine ql.mono ?_
        rintro e w5 ⟨v5, rfl, hown5, hg5⟩
        have hbX := hg5.below (base := w.heap.size) HB.out (by omega) (fun k hk => by have := (HO.out.lt k hk).1; omega)
        have hn : us8 ([b0, b1, b2, b3, b4, b5, b6, b7].take 3) ++ leB 8 b3 = us8 ([b0, b1, b2, b3, b4, b5, b6, b7].take 4) := by simp [us8]
        rw [hn] at hown5
        have HX := Lib.hid hbX
        have HO5 := Lib.hid hown5
        have hs5 := hg5.1.size
        clear hown5 hbX hg5 hn ix ql
        go_wp2_with fail
        go_roundw
        case rel => exact ⟨4, by omega, rfl, HO5.out, HX.out, by omega⟩
        case measure => simp [intOf]
      · have ix := fun W => idxR4 b0 b1 b2 b3 b4 b5 b6 b7 W
        go_wp2_with fail
        have ql := addLow8_any (w.heap.size + 1) _ _ b4 _ HO.out hsz (by rw [us8_length]; simp) bd4.1 bd4.2
        unfold sgn at ql
        refine ql.mono ?_
        rintro e w5 ⟨v5, rfl, hown5, hg5⟩
        have hbX := hg5.below (base := w.heap.size) HB.out (by omega) (fun k hk => by have := (HO.out.lt k hk).1; omega)
        have hn : us8 ([b0, b1, b2, b3, b4, b5, b6, b7].take 4) ++ leB 8 b4 = us8 ([b0, b1, b2, b3, b4, b5, b6, b7].take 5) := by simp [us8]
        rw [hn] at hown5
        have HX := Lib.hid hbX
        have HO5 := Lib.hid hown5
        have hs5 := hg5.1.size
        clear hown5 hbX hg5 hn ix ql
        go_wp2_with fail
        go_roundw
        case rel => exact ⟨5, by omega, rfl, HO5.out, HX.out, by omega⟩
        case measure => simp [intOf]
      · have ix := fun W => idxR5 b0 b1 b2 b3 b4 b5 b6 b7 W
        go_wp2_with fail
        have ql := addLow8_any (w.heap.size + 1) _ _ b5 _ HO.out hsz (by rw [us8_length]; simp) bd5.1 bd5.2
        unfold sgn at ql
        refine ql.mono ?_
        rintro e w5 ⟨v5, rfl, hown5, hg5⟩
        have hbX := hg5.below (base := w.heap.size) HB.out (by omega) (fun k hk => by have := (HO.out.lt k hk).1; omega)
        have hn : us8 ([b0, b1, b2, b3, b4, b5, b6, b7].take 5) ++ leB 8 b5 = us8 ([b0, b1, b2, b3, b4, b5, b6, b7].take 6) := by simp [us8]
        rw [hn] at hown5
        have HX := Lib.hid hbX
        have HO5 := Lib.hid hown5
        have hs5 := hg5.1.size
        clear hown5 hbX hg5 hn ix ql
        go_wp2_with fail
        go_roundw
        case rel => exact ⟨6, by omega, rfl, HO5.out, HX.out, by omega⟩
        case measure => simp [intOf]
      · have ix := fun W => idxR6 b0 b1 b2 b3 b4 b5 b6 b7 W
        go_wp2_with fail
        have ql := addLow8_any (w.heap.size + 1) _ _ b6 _ HO.out hsz (by rw [us8_length]; simp) bd6.1 bd6.2
        unfold sgn at ql
        refine ql.mono ?_
        rintro e w5 ⟨v5, rfl, hown5, hg5⟩
        have hbX := hg5.below (base := w.heap.size) HB.out (by omega) (fun k hk => by have := (HO.out.lt k hk).1; omega)
        have hn : us8 ([b0, b1, b2, b3, b4, b5, b6, b7].take 6) ++ leB 8 b6 = us8 ([b0, b1, b2, b3, b4, b5, b6, b7].take 7) := by simp [us8]
        rw [hn] at hown5
        have HX := Lib.hid hbX
        have HO5 := Lib.hid hown5
        have hs5 := hg5.1.size
        clear hown5 hbX hg5 hn ix ql
        go_wp2_with fail
        go_roundw
        case rel => exact ⟨7, by omega, rfl, HO5.out, HX.out, by omega⟩
        case measure => simp [intOf]
      · have ix := fun W => idxR7 b0 b1 b2 b3 b4 b5 b6 b7 W
        go_wp2_with fail
        have ql := addLow8_any (w.heap.size + 1) _ _ b7 _ HO.out hsz (by rw [us8_length]; simp) bd7.1 bd7.2
        unfold sgn at ql
        refine ql.mono ?_
        rintro e w5 ⟨v5, rfl, hown5, hg5⟩
        have hbX := hg5.below (base := w.heap.size) HB.out (by omega) (fun k hk => by have := (HO.out.lt k hk).1; omega)
        have hn : us8 ([b0, b1, b2, b3, b4, b5, b6, b7].take 7) ++ leB 8 b7 = us8 ([b0, b1, b2, b3, b4, b5, b6, b7].take 8) := by simp [us8]
        rw [hn] at hown5
        have HX := Lib.hid hbX
        have HO5 := Lib.hid hown5
        have hs5 := hg5.1.size
        clear hown5 hbX hg5 hn ix ql
        go_wp2_with fail
        go_roundw
        case rel => exact ⟨8, by omega, rfl, HO5.out, HX.out, by omega⟩
        case measure => simp [intOf]
      · have hst := HO.out.string
        go_wp2_with fail
        go_ret
        exact ⟨ret_str (by rw [HN.out, HA.out]), HB.out⟩

end Go.Proofs.YtekmnopgaopmlaaGreatDoor

/- Records out of bytes: l03Read and RecordRead of the model walked. -/
set_option maxRecDepth 100000
namespace Go.Proofs.YtekmnopgaopmlaaGreatDoor
open Go.RowKit
attribute [local go_sem ↓] Go.wp_at_zero Go.wp_at_succ

def wdAtB (s : ByteArray) (i : Nat) : Wd := ⟨leV (bytesAt s (i + 4) 4), leV (bytesAt s i 4)⟩
def argsB (s : ByteArray) (m : Nat) : List Wd := (List.range m).map fun i => wdAtB s (16 + 8 * i)
def rcAtB (s : ByteArray) : Rc := ⟨leV (bytesAt s 0 4), leV (bytesAt s 4 4), wdAtB s 8, argsB s 6⟩
def rcReadC (s : ByteArray) : Int := if 8000 < s.size then 2 else if s.size ≠ 64 then 4 else 0
def rc0 : Rc := ⟨0, 0, ⟨0, 0⟩, []⟩
def rcRead (s : ByteArray) : Rc := if rcReadC s = 0 then rcAtB s else rc0
theorem argsB_next (s : ByteArray) (m : Nat) : argsB s (m + 1) = argsB s m ++ [wdAtB s (16 + 8 * m)] := by simp [argsB, List.range_succ]
theorem argsB_length (s : ByteArray) (m : Nat) : (argsB s m).length = m := by simp [argsB]
theorem leV4_bd (l : List UInt8) (h : l.length ≤ 4) : 0 ≤ leV l ∧ leV l ≤ 4294967295 := by
  have := leV_bd l
  have hb : (256 : Int) ^ l.length ≤ 4294967296 := by
    rcases (by omega : l.length = 0 ∨ l.length = 1 ∨ l.length = 2 ∨ l.length = 3 ∨ l.length = 4) with h | h | h | h | h <;> rw [h] <;> decide
  omega
theorem bytes4_bd (s : ByteArray) (i : Nat) : 0 ≤ leV (bytesAt s i 4) ∧ leV (bytesAt s i 4) ≤ 4294967295 := leV4_bd _ (by unfold bytesAt; exact List.length_take_le _ _)

theorem rcRead_len (s : ByteArray) : (rcRead s).args.length ≤ 6 := by
  unfold rcRead
  split
  · simp [rcAtB, argsB_length]
  · simp [rc0]
theorem wdAtB_wf (s : ByteArray) (i : Nat) : (wdAtB s i).wf := by
  have a := bytes4_bd s i
  have b := bytes4_bd s (i + 4)
  unfold Wd.wf In64 wdAtB
  simp only
  omega
theorem rcRead_wf (s : ByteArray) : ∀ x ∈ (rcRead s).args, x.wf := by
  intro x hx
  unfold rcRead at hx
  split at hx
  · simp only [rcAtB, argsB, List.mem_map] at hx
    obtain ⟨i, _, rfl⟩ := hx
    exact wdAtB_wf _ _
  · simp [rc0] at hx

/-- A record out: its record, and a code. -/
def RecEnd (base : Nat) (w : World) (r : Rc) (c : Int) (e : Ending) (w' : World) : Prop :=
  ∃ u, e = .returned (.agg #[.int .i64 r.nr, .int .i64 r.ar, .int .i64 r.ip.h, .int .i64 r.ip.l, u, .int .i64 c]) ∧ WdOwn base w' u r.args ∧ Below w.heap.size w w'

/-- The record's variable, behind a callee and an append to its words. -/
theorem rc_kept {wr w2 w3 : World} {g : Nat} {cs : Array Value} {T : TypeId} {v v' : Value} (hrow : wr.heap[g]? = some (.cells cs T (0, 0))) (hlt : g < wr.heap.size) (hb : Below wr.drew.heap.size wr.drew w2) (hg3 : GrB w2 w3 v v') (hv : ∀ k, v.ownBlock = some k → g + 1 ≤ k ∧ k < w2.heap.size) :
    w3.heap[g]? = some (.cells cs T (0, 0)) ∧ Below (g + 1) wr w3 ∧ wr.heap.size ≤ w3.heap.size := by
  have hb2 : Below wr.heap.size wr w2 := ((Below.refl wr.heap.size wr).drew).trans hb
  have hs2 := hb2.size
  have hg2 : Below (g + 1) w2 w3 := (Below.refl _ _).grown hg3.1 (by omega) (fun j hj => (hv j hj).1)
  exact ⟨(hg2.block _ (by omega)).trans ((hb2.block _ hlt).trans hrow), (hb2.mono (by omega)).trans hg2, Nat.le_trans hs2 hg2.size⟩

end Go.Proofs.YtekmnopgaopmlaaGreatDoor

/- Walks of the laws' own helpers on records. -/
set_option maxRecDepth 100000
namespace Go.Proofs.YtekmnopgaopmlaaGreatDoor
open Go.RowKit Go.ChangeShapes Go.WideShapes

set_option maxHeartbeats 800000 in
theorem toRecord_any (r : Rc) (v : Value) (w : World) (hv : WdAt w w.heap.size v r.args) (hn : r.args.length ≤ 1048576) :
    Calls Tryz.prog 24 #[rcV r v] w fun e w' => ∃ u, e = .returned (rcV r u) ∧ WdOwn w.heap.size w' u r.args ∧ Below w.heap.size w w' := by
  obtain ⟨nr, ar, ⟨ih, il⟩, args⟩ := r
  simp only at hv hn ⊢
  obtain ⟨a, cap, rfl, hlc, hcm⟩ := hv.len
  have HV := Lib.hid hv
  clear hv
  go_enter Tryz.func24, Tryz.ntmps24
  go_wp2_with fail
  refine (toWord_any _ _ _).mono ?_
  rintro e w1 ⟨rfl, hb1⟩
  obtain ⟨r0, r1, r2, hB, hS⟩ := rows3 hb1
  have c4 := row_cell r0 4
  have e2 := row_cell r2 2
  have e3 := row_cell r2 3
  simp only [List.getElem?_toArray, List.getElem?_cons_zero, List.getElem?_cons_succ] at c4 e2 e3
  have f2 := frozen_row r2 2
  have f3 := frozen_row r2 3
  have R0 := Lib.hid r0
  have R1 := Lib.hid r1
  have R2 := Lib.hid r2
  have HB := Lib.hid hB
  clear hb1 r0 r1 r2 hB
  go_wp2_with fail
  have hB2 : Below w.heap.size w ((w1.setCell ⟨w.heap.size + 1 + 1, 2, none⟩ (.int .i64 ih)).setCell ⟨w.heap.size + 1 + 1, 3, none⟩ (.int .i64 il)) := (HB.out.setCell (p := ⟨w.heap.size + 1 + 1, 2, none⟩) (by simp; omega) _).setCell (p := ⟨w.heap.size + 1 + 1, 3, none⟩) (by simp; omega) _
  have hr1 := row_other (row_other R1.out 2 (.int .i64 ih) (h := w.heap.size + 1 + 1) (by omega)) 3 (.int .i64 il) (h := w.heap.size + 1 + 1) (by omega)
  have hr2 := row_put (row_put R2.out 2 (.int .i64 ih)) 3 (.int .i64 il)
  have hS2 : w.heap.size + 3 ≤ ((w1.setCell ⟨w.heap.size + 1 + 1, 2, none⟩ (.int .i64 ih)).setCell ⟨w.heap.size + 1 + 1, 3, none⟩ (.int .i64 il)).heap.size := by simp [World.setCell]; omega
  clear c4 e2 e3 f2 f3
  generalize (w1.setCell ⟨w.heap.size + 1 + 1, 2, none⟩ (.int .i64 ih)).setCell ⟨w.heap.size + 1 + 1, 3, none⟩ (.int .i64 il) = W2 at hB2 hr1 hr2 hS2 ⊢
  refine (toWordS_any _ args _ (LAt.up (LAt.below HV.out hB2) hB2.size) hn).mono ?_
  rintro e w3 ⟨u, rfl, ho3, hb3⟩
  obtain ⟨ua, ucap, rfl⟩ := OwnL.slice ho3
  have hr1' := below_row hb3 hr1
  have hr2' := below_row hb3 hr2
  have HB3 := Lib.hid (hB2.trans (hb3.mono hB2.size))
  have HO3 := Lib.hid (OwnL.base ho3 (b' := w.heap.size + 3) hS2)
  have HR1 := Lib.hid hr1'
  have c0 := row_cell hr2' 0
  have c1 := row_cell hr2' 1
  have c2 := row_cell hr2' 2
  have c3 := row_cell hr2' 3
  have c4 := row_cell hr2' 4
  have d0 := row_cell hr1' 0
  have d1 := row_cell hr1' 1
  have d2 := row_cell hr1' 2
  have d3 := row_cell hr1' 3
  have d4 := row_cell hr1' 4
  simp [-Array.getElem?_eq_getElem] at c0 c1 c2 c3 c4 d0 d1 d2 d3 d4
  have g4 := frozen_row hr2' 4
  have f0 := frozen_row hr1' 0
  have f1 := frozen_row hr1' 1
  have f2 := frozen_row hr1' 2
  have f3 := frozen_row hr1' 3
  have f4 := frozen_row hr1' 4
  clear hb3 hB2 hr1 hr2 hr1' hr2' ho3 hS2
  go_wp2_with fail
  exact bodyPost_ret (v := .agg #[.int .i64 nr, .int .i64 ar, .int .i64 ih, .int .i64 il, .slice ua args.length ucap]) (by simp [results, Tryz.results24, go_sem, d0, d1, d2, d3, d4]) rfl
    ⟨_, rfl, ((((((HO3.out.setBelow (by simp) _).setBelow (by simp) _).setBelow (by simp) _).setBelow (by simp) _).setBelow (by simp) _).setBelow (by simp) _).base (by omega),
      (((((HB3.out.setCell (p := ⟨w.heap.size + 1 + 1, 4, none⟩) (by simp; omega) _).setCell (p := ⟨w.heap.size + 1, 0, none⟩) (by simp) _).setCell (p := ⟨w.heap.size + 1, 1, none⟩) (by simp) _).setCell (p := ⟨w.heap.size + 1, 2, none⟩) (by simp) _).setCell (p := ⟨w.heap.size + 1, 3, none⟩) (by simp) _).setCell (p := ⟨w.heap.size + 1, 4, none⟩) (by simp) _⟩

theorem szRecord_any (r : Rc) (a : Option Addr) (len cap : Nat) (left : Int) (w : World) (hl : len ≤ 9223372036854775807) (h0 : 0 ≤ left) (h1 : left ≤ 1048576) :
    Calls Tryz.prog 22 #[rcV r (.slice a len cap), .int .i64 left] w fun e w' => e = .returned (.int .i64 (if left - (len : Int) < 0 then -1 else left - (len : Int))) ∧ Below w.heap.size w w' := by
  obtain ⟨nr, ar, ⟨ih, il⟩, args⟩ := r
  have q := fun W => szWordS_any a len cap left W hl h0 h1
  have hb0 : ∀ o, Below w.heap.size w (w.alloc o) := fun o => (Below.refl _ _).alloc (Nat.le_refl _) _
  have HB := Lib.hid hb0
  by_cases h : left - (len : Int) < 0
  · rw [if_pos h] at q
    have HQ := Lib.hid q
    have he := Lib.hid (show (if left - (len : Int) < 0 then (-1 : Int) else left - (len : Int)) = -1 from if_pos h)
    clear q hb0
    go_enter Tryz.func22, Tryz.ntmps22
    go_wp2_with fail
    refine (HQ.out _).mono ?_
    rintro e w1 ⟨rfl, rfl⟩
    go_wp2_with fail
    go_ret
    first | exact ⟨rfl, HB.out _⟩ | exact ⟨ret_int he.out.symm, HB.out _⟩
  · rw [if_neg h] at q
    have HQ := Lib.hid q
    have he := Lib.hid (show (if left - (len : Int) < 0 then (-1 : Int) else left - (len : Int)) = left - (len : Int) from if_neg h)
    have hd : decide (left - (len : Int) < 0) = false := by simpa using h
    clear q hb0
    go_enter Tryz.func22, Tryz.ntmps22
    go_wp2_with fail
    refine (HQ.out _).mono ?_
    rintro e w1 ⟨rfl, rfl⟩
    go_wp2_with fail
    go_ret
    first | exact ⟨rfl, HB.out _⟩ | exact ⟨ret_int he.out.symm, HB.out _⟩

theorem eqWord_same (x : Wd) (w : World) : Calls Tryz.prog 62 #[.agg #[.int .i64 x.h, .int .i64 x.l], .agg #[.int .i64 x.h, .int .i64 x.l]] w fun e w' => e = .returned (.bool true) ∧ Below w.heap.size w w' :=
  (eqWord_any x x w).mono fun _ _ h => ⟨h.1.trans (ret_bool (by simp)), h.2⟩

set_option maxHeartbeats 800000 in
/-- Of two records that are alike. -/
theorem eqRecord_same (r : Rc) (v1 v2 : Value) (w : World) (h1 : WdAt w w.heap.size v1 r.args) (h2 : WdAt w w.heap.size v2 r.args) :
    Calls Tryz.prog 27 #[rcV r v1, rcV r v2] w fun e w' => e = .returned (.bool true) ∧ Below w.heap.size w w' := by
  obtain ⟨nr, ar, ⟨ih, il⟩, args⟩ := r
  simp only at h1 h2 ⊢
  obtain ⟨a1, cap1, rfl, hc1, hm1⟩ := h1.len
  obtain ⟨a2, cap2, rfl, hc2, hm2⟩ := h2.len
  have q1 := fun W => eqWord_same ⟨ih, il⟩ W
  have q2 := fun W (h : Below w.heap.size w W) => eqWordS_same _ _ args W (LAt.up (LAt.below h1 h) h.size) (LAt.up (LAt.below h2 h) h.size)
  have Q1 := Lib.hid q1
  have Q2 := Lib.hid q2
  clear q1 q2 h1 h2
  have hn : (nr != nr) = false := by simp
  have ha : (ar != ar) = false := by simp
  go_enter Tryz.func27, Tryz.ntmps27
  go_wp2_with fail
  refine (Q1.out _).mono ?_
  rintro e w1 ⟨rfl, hb1⟩
  obtain ⟨r0, r1, hB, _⟩ := rows2 hb1
  have c4 := row_cell r0 4
  have d4 := row_cell r1 4
  simp only [List.getElem?_toArray, List.getElem?_cons_zero, List.getElem?_cons_succ] at c4 d4
  have HB := Lib.hid hB
  clear hb1 r0 r1 hB
  go_wp2_with fail
  clear c4 d4
  refine (Q2.out _ HB.out).mono ?_
  rintro e w2 ⟨rfl, hb2⟩
  have HB2 := Lib.hid (HB.out.trans (hb2.mono HB.out.size))
  clear hb2
  go_wp2_with fail
  go_ret
  exact ⟨rfl, HB2.out⟩

abbrev roV (r : Rc) (v : Value) (c : Int) : Value := .agg #[.int .i64 r.nr, .int .i64 r.ar, .int .i64 r.ip.h, .int .i64 r.ip.l, v, .int .i64 c]

end Go.Proofs.YtekmnopgaopmlaaGreatDoor


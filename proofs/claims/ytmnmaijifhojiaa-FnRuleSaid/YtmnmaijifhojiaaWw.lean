/- Walks of the laws' own helpers on Words and slices of them (made by gen_type.py). -/
import Derived.Test.YtmnmaijifhojiaaFl
import Derived.Test.YtmnmaijifhojiaaWd
import Derived.OwnWalk
import Derived.Laws.OwnMore
import Derived.StillTailTactics
import Derived.Deep.Draws
import Derived.Maps.AppendAt
set_option maxRecDepth 100000
namespace Go.Proofs.Ytmnmaijifhojiaa
open Go.RowKit Go.ChangeShapes Go.WideShapes

def wdCells (x : Wd) : List Value := [.int .i64 x.h, .int .i64 x.l]
theorem wdS (x : Wd) : (wdCells x).length = 2 := rfl
def wd0 : Wd := ⟨0, 0⟩

theorem info_wd : (Try.prog.info? 24).map (fun i => (i.zero, i.size, i.bytes)) = some (some (.agg #[.int .i64 0, .int .i64 0]), 2, 16) := by kernel_rfl

/-- A slice of them, and one that the call made. -/
abbrev WdAt (w : World) (B : Nat) (v : Value) (l : List Wd) : Prop := LAt wdCells 2 Wd.wf w B v l
abbrev WdOwn (base : Nat) (w : World) (v : Value) (l : List Wd) : Prop := OwnL 24 2 wdCells base w v l

theorem toWord_any (h l : Int) (w : World) : Calls Try.prog 42 #[.agg #[.int .i64 h, .int .i64 l]] w fun e w' =>
    e = .returned (.agg #[.int .i64 h, .int .i64 l]) ∧ Below w.heap.size w w' := by
  go_enter Try.func42, Try.ntmps42
  go_wp2
  exact bodyPost_ret (v := .agg #[.int .i64 h, .int .i64 l]) (by simp [results, Try.results42, go_sem]) rfl ⟨rfl, (((Below.refl _ _).alloc (Nat.le_refl _) _).alloc (by simp) _).alloc (by simp; omega) _⟩

set_option maxHeartbeats 800000 in
theorem eqWord_any (a b : Wd) (w : World) : Calls Try.prog 89 #[.agg #[.int .i64 a.h, .int .i64 a.l], .agg #[.int .i64 b.h, .int .i64 b.l]] w fun e w' =>
    e = .returned (.bool (decide (a = b))) ∧ Below w.heap.size w w' := by
  obtain ⟨h, l⟩ := a
  obtain ⟨h', l'⟩ := b
  by_cases h0 : h = h'
  · by_cases h1 : l = l'
    · have HD := Lib.hid (show decide ((⟨h, l⟩ : Wd) = ⟨h', l'⟩) = true by simp [h0, h1])
      subst h0 h1
      go_enter Try.func89, Try.ntmps89
      go_wp2
      go_ret
      exact ⟨ret_bool HD.out.symm, ((Below.refl _ _).alloc (Nat.le_refl _) _).alloc (by simp) _⟩
    · have HD := Lib.hid (show decide ((⟨h, l⟩ : Wd) = ⟨h', l'⟩) = false by simp [h1])
      have h := ne_int h1
      clear h1
      subst h0
      go_enter Try.func89, Try.ntmps89
      go_wp2
      go_ret
      exact ⟨ret_bool HD.out.symm, ((Below.refl _ _).alloc (Nat.le_refl _) _).alloc (by simp) _⟩
  · have HD := Lib.hid (show decide ((⟨h, l⟩ : Wd) = ⟨h', l'⟩) = false by simp [h0])
    have h := ne_int h0
    clear h0
    go_enter Try.func89, Try.ntmps89
    go_wp2
    go_ret
    exact ⟨ret_bool HD.out.symm, ((Below.refl _ _).alloc (Nat.le_refl _) _).alloc (by simp) _⟩

theorem szWordS_any (a : Option Addr) (len cap : Nat) (left : Int) (w : World) (hl : len ≤ 9223372036854775807) (h0 : 0 ≤ left) (h1 : left ≤ 1048576) :
    Calls Try.prog 87 #[.slice a len cap, .int .i64 left] w fun e w' => e = .returned (.int .i64 (if left - (len : Int) < 0 then -1 else left - (len : Int))) ∧ w = w' := by
  by_cases h : left - (len : Int) < 0
  all_goals
    go_enter Try.func87, Try.ntmps87
    go_wp2
    go_ret
    exact ⟨rfl, rfl⟩

theorem WdAt.place {w : World} {B : Nat} {a : Option Addr} {n cap : Nat} {l : List Wd} (h : WdAt w B (.slice a n cap) l) {i : Nat} {x : Wd} (hi : l[i]? = some x) : ∃ b o, a = some ⟨b, o, none⟩ ∧ b < B ∧
    w.cell? ⟨b, o + i * 2, none⟩ = some (.int .i64 x.h) ∧ w.cell? ⟨b, o + i * 2 + 1, none⟩ = some (.int .i64 x.l) ∧ x.wf := by
  obtain ⟨b, o, e, hb, hc, hw⟩ := LAt.at_ h hi
  exact ⟨b, o, e, hb, hc 0 _ rfl, hc 1 _ rfl, hw⟩
theorem wd_own_at {w : World} {base : Nat} {g n cap : Nat} {l : List Wd} (h : w.ownsRow base 24 2 (.slice (some ⟨g, 0, none⟩) n cap) n (l.flatMap wdCells)) {k : Nat} {x : Wd} (hx : l[k]? = some x) :
    w.cell? ⟨g, k * 2, none⟩ = some (.int .i64 x.h) ∧ w.cell? ⟨g, k * 2 + 1, none⟩ = some (.int .i64 x.l) ∧
    w.frozen? ⟨g, k * 2, none⟩ = false ∧ w.frozen? ⟨g, k * 2 + 1, none⟩ = false := by
  obtain ⟨hc, hf⟩ := OwnL.at_ wdS h hx
  exact ⟨hc 0 _ rfl, hc 1 _ rfl, hf _, hf _⟩
theorem made_wd (n : Nat) : (madeCells (.agg #[.int .i64 0, .int .i64 0] : Value).cells (n * 2)).toList = (List.replicate n wd0).flatMap wdCells := by
  have hz : (List.replicate n wd0).flatMap wdCells = List.replicate (n * 2) (.int .i64 0) := by
    induction n with
    | zero => rfl
    | succ n ih => rw [List.replicate_succ, List.flatMap_cons, ih, Nat.succ_mul, Nat.add_comm, ← List.replicate_append_replicate]; rfl
  rw [hz, List.eq_replicate_iff]
  refine ⟨by simp [madeCells], fun b hb => ?_⟩
  simp only [madeCells, Array.toList_map, List.mem_map] at hb
  obtain ⟨j, _, rfl⟩ := hb
  have key : ∀ r : Fin 2, (Value.cells (.agg #[.int .i64 0, .int .i64 0]))[r.val]! = .int .i64 0 := by
    intro r
    match r with
    | 0 => rfl
    | 1 => rfl
  exact key ⟨j % 2, Nat.mod_lt _ (by omega)⟩

set_option maxHeartbeats 800000 in
theorem toWordS_any (v : Value) (l : List Wd) (w : World) (h : WdAt w w.heap.size v l) (hn : l.length ≤ 1048576) :
    Calls Try.prog 88 #[v] w fun e w' => ∃ u, e = .returned u ∧ WdOwn w.heap.size w' u l ∧ Below w.heap.size w w' := by
  obtain ⟨i0, hi, hz0, hz1, hz2⟩ := info_parts info_wd
  obtain ⟨a, cap, rfl, hlc, hcm⟩ := h.len
  unfold maxLen at hcm
  go_enter Try.func88, Try.ntmps88
  go_wp2_with (refine wpList_make_full _ rfl _ _ _ rfl w.heap.size 24 i0 _ 2 Try.underlying43 hi hz0 hz1 .i64 .i64 _ _ l.length rfl rfl rfl rfl (by rw [hz2]; omega) (by unfold maxLen; omega) (Nat.le_refl _) ?_; intro w1 hown1 hg1)
  rw [made_wd] at hown1
  have hlt1 := hown1.lt w.heap.size rfl
  have hb1 : Below w.heap.size w w1 := (Below.refl _ _).grown hg1 (Nat.le_refl _) (fun k hk => by cases hk)
  have HO := Lib.hid hown1
  clear hown1 hg1
  have HH := Lib.hid h
  clear h
  go_loopw [4] (fun i wr => ∃ k : Nat, k ≤ l.length ∧ i = .int .i64 k ∧ wr.ownsRow w.heap.size 24 2 (.slice (some ⟨w.heap.size, 0, none⟩) l.length l.length) l.length ((l.take k ++ List.replicate (l.length - k) wd0).flatMap wdCells) ∧ Below w.heap.size w wr)
    (fun i _ => l.length - (intOf i).toNat)
  case atStart => exact ⟨0, by omega, rfl, by simpa using HO.out, hb1⟩
  case round =>
    obtain ⟨k, hk, rfl, hown, hbw⟩ := hrel
    by_cases hlt : k < l.length
    · obtain ⟨b, o, e, hb, c0, c1, hwf⟩ := WdAt.place (LAt.below HH.out hbw) (List.getElem?_eq_getElem hlt)
      subst e
      have hsz := hbw.size
      go_wp2_with fail
      refine (toWord_any _ _ _).mono ?_
      rintro e w2 ⟨rfl, hb2⟩
      have hown2 := own_below hown hb2
      have hfill := fillL (pre := l.take k) (d := wd0) (k := k) (m := l.length) (by rw [List.length_take]; omega) hlt l[k]
      have hset := OwnL.set wdS (by omega) hown2 (i := k) (by simp; omega) l[k]
      rw [hfill.2, ← List.take_succ_eq_append_getElem hlt] at hset
      obtain ⟨d0, d1, f0, f1⟩ := wd_own_at hown2 hfill.1
      have hbX : ∀ u0 u1 : Value, Below w.heap.size w (((w2.setCell ⟨w.heap.size, k * 2, none⟩ u0).setCell ⟨w.heap.size, k * 2 + 1, none⟩ u1)) :=
        fun u0 u1 => setRow_below (Nat.le_refl _) [u0, u1] (k * 2) (hbw.trans (hb2.mono hsz))
      have HS := Lib.hid hset
      have HB := Lib.hid hbX
      clear hset hbX hfill hown2 hown hbw hb2
      go_wp2_with fail
      go_roundw
      case rel => exact ⟨k + 1, by omega, by go_num, HS.out, HB.out _ _⟩
      case measure => simp [intOf]; omega
    · have hfin : w.heap.size ≤ wr.heap.size ∧ WdOwn w.heap.size wr (.slice (some ⟨w.heap.size, 0, none⟩) l.length l.length) l :=
        ⟨hbw.size, by unfold WdOwn OwnL; rw [List.take_of_length_le (by omega), show l.length - k = 0 by omega] at hown; simpa using hown⟩
      have HF := Lib.hid hfin
      clear hown hfin
      go_wp2_with fail
      go_ret
      exact ⟨_, rfl, HF.out.2, hbw⟩

set_option maxHeartbeats 800000 in
theorem eqWordS_any (v1 v2 : Value) (l1 l2 : List Wd) (w : World) (h1 : WdAt w w.heap.size v1 l1) (h2 : WdAt w w.heap.size v2 l2) :
    Calls Try.prog 90 #[v1, v2] w fun e w' => e = .returned (.bool (decide (l1 = l2))) ∧ Below w.heap.size w w' := by
  obtain ⟨a1, cap1, rfl, hc1, hm1⟩ := h1.len
  obtain ⟨a2, cap2, rfl, hc2, hm2⟩ := h2.len
  unfold maxLen at hm1 hm2
  by_cases hl : l1.length = l2.length
  · have HL := Lib.hid hl
    have hq : ((l1.length : Int) != (l2.length : Int)) = false := by rw [hl]; simp
    clear hl
    have H1 := Lib.hid h1
    have H2 := Lib.hid h2
    clear h1 h2
    go_enter Try.func90, Try.ntmps90
    go_wp2
    go_loopw [5] (fun i wr => ∃ k : Nat, k ≤ l1.length ∧ i = .int .i64 k ∧ l1.take k = l2.take k ∧ Below w.heap.size w wr) (fun i _ => l1.length - (intOf i).toNat)
    case atStart => exact ⟨0, by omega, rfl, by simp, Below.refl _ _⟩
    case round =>
      obtain ⟨k, hk, rfl, heq, hbw⟩ := hrel
      have HE := Lib.hid heq
      clear heq
      by_cases hlt : k < l1.length
      · have hlt2 : k < l2.length := by have := HL.out; omega
        obtain ⟨b, o, e, hb, c0, c1, hwf⟩ := WdAt.place (LAt.below H1.out hbw) (List.getElem?_eq_getElem hlt)
        obtain ⟨b', o', e', hb', d0, d1, hwf'⟩ := WdAt.place (LAt.below H2.out hbw) (List.getElem?_eq_getElem hlt2)
        subst e e'
        have hsz := hbw.size
        go_wp2_with fail
        refine wp_region_still_tail 8 (by kernel_rfl) (by kernel_rfl) ?_
        simp only [List.take_succ_cons, List.take_zero, List.drop_succ_cons, List.drop_zero, World.drew_eq]
        repeat still_step
        refine wpStill_nil ?_
        go_wp2_with fail
        refine (eqWord_any l1[k] l2[k] _).mono ?_
        rintro e w2 ⟨rfl, hb2⟩
        have hbX : Below w.heap.size w w2 := hbw.drew.trans (hb2.mono hsz)
        have HB := Lib.hid hbX
        clear hbX hb2 hbw
        by_cases hx : l1[k] = l2[k]
        · have HT := Lib.hid (take_ext HE.out hlt hlt2 hx)
          have hd : decide (l1[k] = l2[k]) = true := by simpa using hx
          clear hx
          go_wp2_with fail
          go_roundw
          case rel => exact ⟨k + 1, by omega, by go_num, HT.out, HB.out⟩
          case measure => simp [intOf]; omega
        · have hd : decide (l1[k] = l2[k]) = false := by simpa using hx
          have HD := Lib.hid (show decide (l1 = l2) = false by simp; intro e; apply hx; simp [e])
          clear hx
          go_wp2_with fail
          go_ret
          exact ⟨ret_bool HD.out.symm, HB.out⟩
      · have hl12 : l1 = l2 := by
          have := HE.out
          rwa [List.take_of_length_le (by omega), List.take_of_length_le (by have := HL.out; omega)] at this
        have HD := Lib.hid (show decide (l1 = l2) = true by simpa using hl12)
        clear hl12
        go_wp2_with fail
        go_ret
        exact ⟨ret_bool HD.out.symm, hbw⟩
  · have HD := Lib.hid (show decide (l1 = l2) = false by simp; intro e; exact hl (by rw [e]))
    have hq : ((l1.length : Int) != (l2.length : Int)) = true := by simp; omega
    go_enter Try.func90, Try.ntmps90
    go_wp2
    go_ret
    exact ⟨ret_bool HD.out.symm, Below.refl _ _⟩

theorem eqWordS_same (v1 v2 : Value) (l : List Wd) (w : World) (h1 : WdAt w w.heap.size v1 l) (h2 : WdAt w w.heap.size v2 l) :
    Calls Try.prog 90 #[v1, v2] w fun e w' => e = .returned (.bool true) ∧ Below w.heap.size w w' :=
  (eqWordS_any v1 v2 l l w h1 h2).mono fun _ _ h => ⟨h.1.trans (ret_bool (by simp)), h.2⟩

/-- The things that the marks leave. -/
def markWd (k : Int) (i : Nat) : Wd := ⟨k + 2 * i, k + 2 * i + 1⟩
def markWdL (k : Int) (n : Nat) : List Wd := (List.range n).map (markWd k)
theorem markWdL_length (k : Int) (n : Nat) : (markWdL k n).length = n := by simp [markWdL]
theorem markWdL_next (k : Int) (n : Nat) : markWdL k (n + 1) = markWdL k n ++ [markWd k n] := by simp [markWdL, List.range_succ]
theorem markWdL_get {k : Int} {n i : Nat} (h : i < n) : (markWdL k n)[i]? = some (markWd k i) := by simp [markWdL, h]
theorem markWdL_wf {k : Int} {n : Nat} (h0 : 0 ≤ k) (h1 : k ≤ 1000000000) (hn : n ≤ 1000000000) : ∀ x ∈ markWdL k n, x.wf := by
  intro x hx
  simp only [markWdL, List.mem_map, List.mem_range] at hx
  obtain ⟨i, hi, rfl⟩ := hx
  simp only [Wd.wf, In64, markWd]
  omega

/-- 'append(l, Word{..})': the thing lies in a block of its own. -/
theorem run_push_wd (wr : World) (xh xl : Int) (ty : TypeId)
    (base : Nat) (v : Value) (ls : List Wd) (hown : WdOwn base wr v ls) (hlen : ls.length ≤ 1000000000) (hbase : base ≤ wr.heap.size) :
    ∃ v' w', (Builtin.append_ #[43, 43] ty #[v, .slice (some ⟨wr.heap.size, 0, none⟩) 1 1]).run Try.prog (wr.alloc (.cells #[.int .i64 xh, .int .i64 xl] 24)) = .ok v' w' ∧
      WdOwn base w' v' (ls ++ [⟨xh, xl⟩]) ∧ GrB wr w' v v' := by
  obtain ⟨i0, hi, hz0, hz1, hz2⟩ := info_parts info_wd
  obtain ⟨v', w', hr, hown', hg, _, hat⟩ := run_append_own_at (P := Try.prog) (wr.alloc (.cells #[.int .i64 xh, .int .i64 xl] 24)) base 43 ty 24 i0 _ 2 16 Try.underlying43 hi hz0 hz1 hz2 rfl (by decide) v ls.length (ls.flatMap wdCells)
    (World.ownsRow.alloc hown _) ⟨wr.heap.size, 0, none⟩ 1 1 [.int .i64 xh, .int .i64 xl] rfl (fun j u hj => by rw [add_at, Nat.zero_add, World.cell?_alloc_at _ _ _ _ rfl, ← hj]; simp) (by intro u hu; simp at hu; rcases hu with rfl | rfl <;> rfl) (by unfold maxLen; omega) (by omega) (by simp; omega)
  refine ⟨v', w', hr, ?_, GrB.alloc ⟨hg, ?_⟩⟩
  · unfold WdOwn OwnL
    rw [List.flatMap_append, List.length_append]
    exact hown'
  · rcases hat with e | e
    · exact .inl e
    · exact .inr fun g hg' => by rw [e] at hg'; injection hg' with hg'; omega
theorem wp_push_wd {o : Oper} {a : Act} {K : Act → World → Prop} {Q : Exit → Act → World → Prop} (s x : Operand)
    (ho : o.op = .call { callee := .builtin .append, args := #[s, x], argTypes := #[43, 43] }) (wr : World) (xh xl : Int)
    (base : Nat) (v : Value) (ls : List Wd) (hs : a.eval s = v) (hown : WdOwn base wr v ls)
    (hx : a.eval x = .slice (some ⟨wr.heap.size, 0, none⟩) 1 1) (hlen : ls.length ≤ 1000000000) (hbase : base ≤ wr.heap.size)
    (hcont : ∀ v' w', WdOwn base w' v' (ls ++ [⟨xh, xl⟩]) → GrB wr w' v v' → K (a.put o.dst v') w') :
    Oper.wp Try.prog o a (wr.alloc (.cells #[.int .i64 xh, .int .i64 xl] 24)) K Q := by
  obtain ⟨v', w', hr, h2, h3⟩ := run_push_wd wr xh xl o.type base v ls hown hlen hbase
  unfold Oper.wp execOp
  simp only [ho, resolve, invoke, builtin, Sem.run_bind, Sem.run_pure, Result.andThen_ok, List.map_toArray, List.map_cons, List.map_nil, hs, hx, hr]
  exact hcont _ _ h2 h3
theorem wpList_push_wd {ops : Array Oper} {rest : List Oper} {o : Oper} {a : Act} {Q : Exit → Act → World → Prop} (hgd : o.guard = none) (s x : Operand)
    (ho : o.op = .call { callee := .builtin .append, args := #[s, x], argTypes := #[43, 43] }) (wr : World) (xh xl : Int)
    (base : Nat) (v : Value) (ls : List Wd) (hs : a.eval s = v) (hown : WdOwn base wr v ls)
    (hx : a.eval x = .slice (some ⟨wr.heap.size, 0, none⟩) 1 1) (hlen : ls.length ≤ 1000000000) (hbase : base ≤ wr.heap.size)
    (hcont : ∀ v' w', WdOwn base w' v' (ls ++ [⟨xh, xl⟩]) → GrB wr w' v v' → wpList Try.prog ops Q rest (a.put o.dst v') w') :
    wpList Try.prog ops Q (o :: rest) a (wr.alloc (.cells #[.int .i64 xh, .int .i64 xl] 24)) :=
  wpList_plain hgd fun _ hK => wp_push_wd s x ho wr xh xl base v ls hs hown hx hlen hbase fun v' w' h2 h3 => hK _ _ (hcont v' w' h2 h3)
theorem step_push_wd {ops : Array Oper} {o : Oper} {a : Act} {K : Act → World → Prop} {Q : Exit → Act → World → Prop} {E : Prop} (hgd : o.guard = none) (s x : Operand)
    (ho : o.op = .call { callee := .builtin .append, args := #[s, x], argTypes := #[43, 43] }) (wr : World) (xh xl : Int)
    (base : Nat) (v : Value) (ls : List Wd) (hs : a.eval s = v) (hown : WdOwn base wr v ls)
    (hx : a.eval x = .slice (some ⟨wr.heap.size, 0, none⟩) 1 1) (hlen : ls.length ≤ 1000000000) (hbase : base ≤ wr.heap.size)
    (hcont : ∀ v' w', WdOwn base w' v' (ls ++ [⟨xh, xl⟩]) → GrB wr w' v v' → K (a.put o.dst v') w') :
    if Region.wanted o (yielded ops a.tmps) = true then Oper.wp Try.prog o a (wr.alloc (.cells #[.int .i64 xh, .int .i64 xl] 24)) K Q else E := by
  have hw : Region.wanted o (yielded ops a.tmps) = true := by simp [Region.wanted, hgd]
  rw [if_pos hw]
  exact wp_push_wd s x ho wr xh xl base v ls hs hown hx hlen hbase hcont

end Go.Proofs.Ytmnmaijifhojiaa

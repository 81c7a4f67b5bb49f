/- ProgText of the program: a Builder, and pointers to the fields of each word. -/
import Derived.Test.YtibbcafhchoiiaaDoorTx
import Derived.Test.YtibbcafhchoiiaaDoorTi
import Derived.Test.YtibbcafhchoiiaaDoorSb
import Derived.Lib.LaidTab
import Derived.Lib.AppendIntMem
set_option maxRecDepth 100000
set_option linter.unusedSimpArgs false
set_option linter.unusedVariables false
namespace Go.Proofs.YtibbcafhchoiiaaDoor
open Go.RowKit

abbrev BuiltF (B : Nat) (l : List UInt8) (w : World) : Prop := Lib.IsBuilderF 45 5 B B (Lib.byteCells l) w
abbrev KeptF (B : Nat) (w w' : World) : Prop := Lib.OthersKept 5 (some B) w w'
theorem builderF_below {T e : TypeId} {B b : Nat} {bs : List Value} {w w' : World} (h : Lib.IsBuilderF T e B b bs w) (hb : Below w.heap.size w w') : Lib.IsBuilderF T e B b bs w' := by
  have key : ∀ p, Lib.BuilderAtF T e B b p bs w → Lib.BuilderAtF T e B b p bs w' := by
    rintro p ⟨hB, v, hc, hown, hne⟩
    have hlt : ∀ {k o}, w.heap[k]? = some o → w'.heap[k]? = some o := fun {k o} hk => (hb.block k (row_here hk)).trans hk
    refine ⟨hB, v, hlt hc, ⟨hown.1, ?_⟩, hne⟩
    rcases hown.2 with h0 | ⟨g, cap, cur, fz, hv, h1, h2, r⟩
    · exact .inl h0
    · exact .inr ⟨g, cap, cur, fz, hv, h1, hlt h2, r⟩
  exact h.elim (fun x => .inl (key _ x)) (fun x => .inr (key _ x))
theorem kept_below {B : Nat} {w w' : World} (hb : Below w.heap.size w w') : KeptF B w w' := fun k o hk _ _ => (hb.block k (row_here hk)).trans hk

/-- The table of powers of ten, as the library's variable holds it. -/
abbrev Pow10At (w : World) : Prop := Lib.TabIs Tryd.prog w "internal/strconv.uint64pow10" .u64 Lib.pow10Tab
theorem pow_global : Tryd.prog.globalNamed "internal/strconv.uint64pow10" = some 0 := by kernel_rfl
theorem Pow10At.below {B : Nat} {w w' : World} (h : Pow10At w) (hb : Below B w w') (hB : 0 < B) : Pow10At w' := by
  unfold Pow10At Lib.TabIs World.var? at h ⊢
  rw [pow_global] at h ⊢
  simp only [Option.bind_some] at h ⊢
  rw [hb.block _ hB]
  exact h

/-- Pointers to fields in a row. -/
def PtrAt (B X : Nat) (w : World) (u : Value) (l : List Nat) : Prop := ∃ (a : Option Addr) (cap : Nat), u = .slice a l.length cap ∧ l.length ≤ cap ∧ cap ≤ maxLen ∧ ∀ (j i : Nat), l[j]? = some i → ∃ (g : Nat) (cur : Array Value), a = some ⟨g, 0, none⟩ ∧ g ≠ B ∧ w.heap[g]? = some (.cells cur 53 (0, 0)) ∧ cur[j]? = some (Value.pointer (some ⟨X, i, none⟩))
theorem PtrOwn.at_ {B X base : Nat} {w : World} {u : Value} {l : List Nat} (h : PtrOwn X base w u l) (hB : B < base) : PtrAt B X w u l := by
  obtain ⟨h1, h2⟩ := h
  rcases h2 with ⟨rfl, hn⟩ | ⟨g, cap, cur, rfl, hg, hc, h3, h4, h5, h6⟩
  · obtain rfl : l = [] := List.eq_nil_of_length_eq_zero hn
    exact ⟨none, 0, rfl, by simp, by unfold maxLen; omega, fun j i hj => absurd hj (by simp)⟩
  · refine ⟨_, cap, rfl, h3, h4, fun j i hj => ⟨g, cur, rfl, by omega, hc, ?_⟩⟩
    have hjl : j < l.length := (List.getElem?_eq_some_iff.1 hj).1
    have hf := flat_at (ptrS X) (l := l) (i := j) (x := i) (j := 0) hj (by omega)
    rw [← h6] at hf
    simp only [Nat.mul_one, Nat.add_zero] at hf
    rw [List.getElem?_take_of_lt (by omega)] at hf
    simpa [ptrC] using hf
theorem PtrAt.kept {B X : Nat} {w w' : World} {u : Value} {l : List Nat} (h : PtrAt B X w u l) (hk : KeptF B w w') : PtrAt B X w' u l := by
  obtain ⟨a, cap, e, h1, h2, h3⟩ := h
  refine ⟨a, cap, e, h1, h2, fun j i hj => ?_⟩
  obtain ⟨g, cur, ea, hg, hc, hj'⟩ := h3 j i hj
  exact ⟨g, cur, ea, hg, hk g _ hc (fun e => hg (Option.some.inj e)) (fun c fz e => by injection e with _ e2 _; exact absurd e2 (by decide)), hj'⟩

def fieldI (x : Ins) (i : Nat) : Int := if i = 1 then x.y else if i = 2 then x.n else x.k
def fldB (x : Ins) (i : Nat) : List UInt8 := [32] ++ decB (fieldI x i)
theorem flds_in {c : Int} {i : Nat} (h : i ∈ fldsI c) : i = 1 ∨ i = 2 ∨ i = 3 := by
  unfold fldsI at h
  rcases List.mem_append.1 h with h | h
  · split at h <;> simp at h
    omega
  · split at h <;> simp at h
    omega
theorem flds_length (c : Int) : (fldsI c).length ≤ 3 := by
  unfold fldsI
  split <;> split <;> simp
theorem line_flds {x : Ins} (h : isOp x.c = true) : lineB x = opNameL x.c ++ (fldsI x.c).flatMap (fldB x) := by
  unfold lineB lineLooks lineK fldsI
  rw [showsK_op h]
  cases looksC x.c <;> cases noKC x.c <;> simp [fldB, fieldI]
theorem itoa_dec {n : Int} (h : 0 ≤ n) : Lib.itoa n = decB n := by
  unfold Lib.itoa decB
  rw [if_neg (by omega)]
theorem field_cell {X : Nat} {w : World} {x : Ins} {i : Nat} {T : TypeId} (h : w.heap[X]? = some (.cells #[.int .i64 x.c, .int .i64 x.y, .int .i64 x.n, .int .i64 x.k] T (0, 0))) (hi : i = 1 ∨ i = 2 ∨ i = 3) : w.cell? ⟨X, i, none⟩ = some (.int .i64 (fieldI x i)) := by
  rw [row_cell h]
  rcases hi with rfl | rfl | rfl <;> rfl
theorem field_bd {x : Ins} (h : insRight x = true) (i : Nat) : 0 ≤ fieldI x i ∧ fieldI x i ≤ 4294967295 := by
  unfold insRight isB at h
  simp only [Bool.and_eq_true, decide_eq_true_eq] at h
  obtain ⟨⟨⟨_, hy⟩, hn⟩, hk⟩ := h
  unfold fieldI
  split
  · omega
  split <;> omega

set_option maxHeartbeats 6400000 in
theorem implProgText_any (v : Value) (l : List Ins) (w : World) (h : InsAt w w.heap.size v l) (hT : Pow10At w) (hg0 : 0 < w.heap.size) :
    Calls Tryd.prog 8 #[v] w fun e w' => e = .returned (.string (ptOf l)) ∧ Below w.heap.size w w' := by
  obtain ⟨a, cap, rfl, hlc, hcm⟩ := h.len
  unfold maxLen at hcm
  have HP := Lib.hid (allRight_any _ l w h)
  have HH := Lib.hid h
  have HTB := Lib.hid hT
  clear h hT
  cases hok : allOk l with
  | false =>
    have HN := Lib.hid (show ptOf l = ⟨#[]⟩ by unfold ptOf; rw [if_neg (by simp [hok])])
    rw [hok] at HP
    clear hok
    go_enter Tryd.func8, Tryd.ntmps8
    go_wp2_with fail
    refine HP.out.mono ?_
    rintro e w1 ⟨rfl, hb1⟩
    go_wp2_with fail
    go_ret
    exact ⟨ret_str HN.out.symm, hb1⟩
  | true =>
    have HO := Lib.hid (all_right hok)
    have HAO := Lib.hid hok
    have hlen := HO.out.1
    rw [hok] at HP
    clear hok
    go_enter Tryd.func8, Tryd.ntmps8
    go_wp2_with fail
    refine HP.out.mono ?_
    rintro e w1 ⟨rfl, hb1⟩
    obtain ⟨B, hB⟩ : ∃ B, w1.heap.size = B := ⟨_, rfl⟩
    have hBw : w.heap.size ≤ B := by rw [← hB]; exact hb1.size
    have HB1 := Lib.hid (hb1.alloc hb1.size (.cells #[.pointer none, .slice none 0 0] 45))
    have hf0 := Lib.fresh_isBuilder 45 5 w1
    rw [hB] at hf0
    have HF1 := Lib.hid (show BuiltF B [] _ from Lib.IsBuilderF.of hf0)
    have hs1 : B < w1.heap.size + 1 := by omega
    clear hb1 hf0
    go_wp2_with fail
    go_loopw [14] (fun i wr => ∃ k : Nat, k ≤ l.length ∧ i = .int .i64 k ∧ namedOk (l.take k) = true ∧ BuiltF B (textB (l.take k)) wr ∧ Below w.heap.size w wr ∧ B < wr.heap.size) (fun i _ => l.length - (intOf i).toNat)
    case atStart => exact ⟨0, by omega, rfl, rfl, HF1.out, HB1.out, by simpa using hs1⟩
    case round =>
      obtain ⟨k, hk, rfl, hnm, hbuilt, hbw, hBr⟩ := hrel
      have HNM := Lib.hid hnm
      have HBF := Lib.hid hbuilt
      have HBW := Lib.hid hbw
      clear hnm hbuilt hbw
      by_cases hlt : k < l.length
      · obtain ⟨b, o, e, hb, c0, c1, c2, c3, hwf⟩ := (HH.out.below HBW.out).at_ (List.getElem?_eq_getElem hlt)
        subst e
        have hr := HO.out.2 k hlt
        have hpl := textB_length (l := l.take k) (fun i hi => by rw [List.getElem_take]; exact HO.out.2 _ (by rw [List.length_take] at hi; omega))
        rw [List.length_take] at hpl
        have HTN := Lib.hid (textB_next hlt)
        have HPL := Lib.hid (show (textB (l.take k)).length ≤ 28000 by omega)
        have HIS := Lib.hid (isOp_empty l[k].c)
        have HNX := Lib.hid (named_next HNM.out hlt)
        have HNO := Lib.hid (named_no (l := l) hlt)
        have qo := fun W => nameOfOp_any l[k].c W
        clear hpl
        generalize hx : l[k] = x at *
        clear hx
        have HR := Lib.hid hr
        obtain ⟨nm, hnm⟩ : ∃ nm, nm = opNameOf x.c := ⟨_, rfl⟩
        rw [← hnm] at HIS qo
        have hzn : nm.size ≤ 6 := by rw [hnm]; exact opNameL_length x.c
        have HNT := Lib.hid (show nm.data.toList = opNameL x.c by rw [hnm]; rfl)
        have QO := Lib.hid qo
        generalize textB (l.take k) = acc at *
        obtain ⟨xc, xy, xn, xk⟩ := x
        simp only at c0 c1 c2 c3 QO
        clear qo hr hnm hwf
        have HX0 := Lib.hid (show (wr.alloc (.cells #[.int .i64 xc, .int .i64 xy, .int .i64 xn, .int .i64 xk] 39)).heap[wr.heap.size]? = some (.cells #[.int .i64 xc, .int .i64 xy, .int .i64 xn, .int .i64 xk] 39 (0, 0)) from heap_alloc_new wr _)
        have HF0 := Lib.hid (show BuiltF B acc (wr.alloc (.cells #[.int .i64 xc, .int .i64 xy, .int .i64 xn, .int .i64 xk] 39)) from HBF.out.alloc _)
        have HB0 := Lib.hid (HBW.out.alloc HBW.out.size (.cells #[.int .i64 xc, .int .i64 xy, .int .i64 xn, .int .i64 xk] 39))
        obtain ⟨X, hX⟩ : ∃ X, wr.heap.size = X := ⟨_, rfl⟩
        rw [hX] at HX0
        have hXB : B < X := by omega
        have hsz0 : (wr.alloc (.cells #[.int .i64 xc, .int .i64 xy, .int .i64 xn, .int .i64 xk] 39)).heap.size = X + 1 := by simp [hX]
        have HSZ0 := Lib.hid hsz0
        clear hsz0
        cases hop : isOp xc with
        | false =>
          have hem : nm.toList.isEmpty = true := by rw [HIS.out]; simp [hop]
          have HN := Lib.hid (show ptOf l = ⟨#[]⟩ by unfold ptOf; rw [if_neg (by simp [HNO.out hop])])
          clear hop
          go_wp2_with fail
          refine (QO.out _).mono ?_
          rintro e w2 ⟨rfl, hb2⟩
          have HB2 := Lib.hid (HB0.out.trans (hb2.mono HB0.out.size))
          clear hb2
          go_wp2_with fail
          go_ret
          exact ⟨ret_str HN.out.symm, HB2.out⟩
        | true =>
          have hem : nm.toList.isEmpty = false := by rw [HIS.out]; simp [hop]
          have HN := Lib.hid (HNX.out hop)
          have HLF := Lib.hid (line_flds (x := ⟨xc, xy, xn, xk⟩) hop)
          clear hop
          go_wp2_with fail
          refine (QO.out _).mono ?_
          rintro e w2 ⟨rfl, hb2⟩
          have hX2 := (hb2.block X (by have := HSZ0.out; omega)).trans HX0.out
          have HX2 := Lib.hid hX2
          have HF2 := Lib.hid (builderF_below HF0.out hb2)
          have hb2' := HB0.out.trans (hb2.mono HB0.out.size)
          have HB2 := Lib.hid hb2'
          have hX2l : X < w2.heap.size := row_here hX2
          have hB2 : B ≤ w2.heap.size := by omega
          clear hX2 hb2 hb2'
          go_wp2_with fail
          refine (sbWrite B B (Lib.byteCells acc) nm w2 HF2.out (by rw [Lib.byteCells_length]; have := HPL.out; omega) hB2).mono ?_
          rintro e w3 ⟨rfl, hf3, hb3, hk3⟩
          have HF3 := Lib.hid (show BuiltF B (acc ++ opNameL xc) w3 by
            have := Or.inr (a := Lib.BuilderAtF 45 5 B B (.pointer none) (Lib.byteCells acc ++ Lib.strCells nm) w3) hf3
            rw [Lib.strCells_eq, ← Lib.byteCells_append, HNT.out] at this
            exact this)
          have hX3 := hk3 X _ HX2.out (by simp; omega) (fun c fz e => by injection e with _ e2 _; exact absurd e2 (by decide))
          have HX3 := Lib.hid hX3
          have hX3l : X < w3.heap.size := row_here hX3
          have HB3 := Lib.hid (HB2.out.trans (hb3.mono hBw))
          have hc3 := row_cell hX3 0
          simp only [List.getElem?_toArray, List.getElem?_cons_zero] at hc3
          clear hf3 hk3 hb3 hX3
          go_wp2_with fail
          refine (shown_any X xc w3 hc3 hX3l).mono ?_
          rintro e w4 ⟨u, rfl, ho4, hb4⟩
          have hp4 := PtrOwn.at_ (B := B) ho4 (by omega)
          obtain ⟨ua, ucap, rfl, hum1, hum2, _⟩ := hp4
          unfold maxLen at hum2
          have hm3 := flds_length xc
          have HP4 := Lib.hid (PtrOwn.at_ (B := B) ho4 (by omega))
          have HF4 := Lib.hid (builderF_below HF3.out hb4)
          have hX4 := (hb4.block X hX3l).trans HX3.out
          have HX4 := Lib.hid hX4
          have HB4 := Lib.hid (HB3.out.trans (hb4.mono HB3.out.size))
          obtain ⟨flds, hflds⟩ : ∃ flds, flds = fldsI xc := ⟨_, rfl⟩
          have HFL := Lib.hid hflds
          rw [← hflds] at HP4 hum1 hm3
          rw [show (fldsI xc).length = flds.length by rw [hflds]] at *
          have HLF2 := Lib.hid (HLF.out.trans (by rw [show fldsI xc = flds from hflds.symm]) : lineB ⟨xc, xy, xn, xk⟩ = opNameL xc ++ flds.flatMap (fldB ⟨xc, xy, xn, xk⟩))
          clear ho4 hb4 hX4 hflds hc3 HLF
          go_wp2_with fail
          go_loopw [27] (fun q ws => ∃ j : Nat, j ≤ flds.length ∧ q = .int .i64 j ∧ BuiltF B (acc ++ opNameL xc ++ (flds.take j).flatMap (fldB ⟨xc, xy, xn, xk⟩)) ws ∧ ws.heap[X]? = some (.cells #[.int .i64 xc, .int .i64 xy, .int .i64 xn, .int .i64 xk] 39 (0, 0)) ∧ PtrAt B X ws (.slice ua flds.length ucap) flds ∧ Below w.heap.size w ws) (fun q _ => flds.length - (intOf q).toNat)
          case atStart => exact ⟨0, by omega, rfl, by simpa using HF4.out, HX4.out, HP4.out, HB4.out⟩
          case round =>
            obtain ⟨j, hj, rfl, hbf, hxr, hpt, hbj⟩ := hrel
            have HBJ := Lib.hid hbj
            have HFJ := Lib.hid hbf
            have HXJ := Lib.hid hxr
            have HPJ := Lib.hid hpt
            have hXl : X < wr.heap.size := row_here hxr
            have hBl : B ≤ wr.heap.size := by omega
            clear hbj hbf hxr hpt
            by_cases hjl : j < flds.length
            · obtain ⟨_, _, _, _, _, hpp⟩ := HPJ.out
              obtain ⟨g, cur, e, hgB, hgc, hgj⟩ := hpp j _ (List.getElem?_eq_getElem hjl)
              have hin : flds[j] ∈ fldsI xc := by rw [← HFL.out]; exact List.getElem_mem hjl
              have hi3 := flds_in hin
              have hgcell : wr.cell? ⟨g, j, none⟩ = some (.pointer (some ⟨X, flds[j], none⟩)) := (row_cell hgc j).trans hgj
              have hfc := field_cell (x := ⟨xc, xy, xn, xk⟩) HXJ.out hi3
              have hfb := field_bd HR.out flds[j]
              have htake : (flds.take (j + 1)).flatMap (fldB ⟨xc, xy, xn, xk⟩) = (flds.take j).flatMap (fldB ⟨xc, xy, xn, xk⟩) ++ ([32] ++ decB (fieldI ⟨xc, xy, xn, xk⟩ flds[j])) := by
                rw [List.take_succ_eq_append_getElem hjl, List.flatMap_append]
                simp [fldB]
              have hlb : ((flds.take j).flatMap (fldB ⟨xc, xy, xn, xk⟩)).length ≤ 69 := by
                have h1 := lineB_length HR.out
                rw [HLF2.out, List.length_append] at h1
                have h2 : flds.flatMap (fldB ⟨xc, xy, xn, xk⟩) = (flds.take j).flatMap (fldB ⟨xc, xy, xn, xk⟩) ++ (flds.drop j).flatMap (fldB ⟨xc, xy, xn, xk⟩) := by rw [← List.flatMap_append, List.take_append_drop]
                rw [h2, List.length_append] at h1
                omega
              have HTK := Lib.hid htake
              generalize (flds.take j).flatMap (fldB ⟨xc, xy, xn, xk⟩) = part at *
              generalize fieldI ⟨xc, xy, xn, xk⟩ flds[j] = fv at *
              generalize flds[j] = fi at *
              subst e
              obtain ⟨D, hD⟩ : ∃ D : ByteArray, D = ⟨(decB fv).toArray⟩ := ⟨_, rfl⟩
              have hq := Tryd.strconv_FormatInt_10 fv (by omega) (by omega) wr (HTB.out.below HBJ.out hg0)
              rw [itoa_dec hfb.1, ← hD] at hq
              have hzD : D.size ≤ 20 := by rw [hD]; exact decB_length hfb.1 (by omega)
              have hS1 : (⟨#[32]⟩ ++ D : ByteArray).data.toList = [32] ++ decB fv := by rw [hD]; simp [ByteArray.data_append]
              have hzS : (⟨#[32]⟩ ++ D : ByteArray).size ≤ 21 := by
                have e : (⟨#[32]⟩ : ByteArray).size = 1 := rfl
                simp only [ByteArray.size_append, e]; omega
              have s1 : ∀ W, (Op.stringOp .add ⟨#[32]⟩ D).run Tryd.prog W = .ok (.string (⟨#[32]⟩ ++ D)) W := fun W => run_string_add_sum W _ _ (by
                have e : (⟨#[32]⟩ : ByteArray).size = 1 := rfl
                omega)
              have HQ := Lib.hid hq
              have HS1 := Lib.hid hS1
              generalize (⟨#[32]⟩ ++ D : ByteArray) = S1 at *
              clear hq hS1 hD hpp hgj hgc htake hin hi3 hfb
              go_wp2_with fail
              refine HQ.out.mono ?_
              rintro e w5 ⟨rfl, kk, os, hw⟩
              have hb5 : Below wr.heap.size wr w5 := by rw [hw]; exact Lib.below_grow _ _ (Nat.le_refl _) _ _
              have HF5 := Lib.hid (builderF_below HFJ.out hb5)
              have HP5 := Lib.hid (HPJ.out.kept (kept_below hb5))
              have hX5 := (hb5.block X hXl).trans HXJ.out
              have HX5 := Lib.hid hX5
              have HB5 := Lib.hid (HBJ.out.trans (hb5.mono HBJ.out.size))
              have hB5 : B ≤ w5.heap.size := Nat.le_trans hBl hb5.size
              clear hw hb5 hX5
              go_wp2_with fail
              refine (sbWrite B B _ S1 w5 HF5.out (by rw [Lib.byteCells_length]; have := HPL.out; have := opNameL_length xc; simp only [List.length_append]; omega) hB5).mono ?_
              rintro e w6 ⟨rfl, hf6, hb6, hk6⟩
              have HF6 := Lib.hid (show BuiltF B (acc ++ opNameL xc ++ (flds.take (j + 1)).flatMap (fldB ⟨xc, xy, xn, xk⟩)) w6 by
                have := Or.inr (a := Lib.BuilderAtF 45 5 B B (.pointer none) (Lib.byteCells (acc ++ opNameL xc ++ part) ++ Lib.strCells S1) w6) hf6
                rw [Lib.strCells_eq, ← Lib.byteCells_append, HS1.out, List.append_assoc, ← HTK.out] at this
                exact this)
              have HX6 := Lib.hid (hk6 X _ HX5.out (by simp; omega) (fun c fz e => by injection e with _ e2 _; exact absurd e2 (by decide)))
              have HP6 := Lib.hid (HP5.out.kept hk6)
              have HB6 := Lib.hid (HB5.out.trans (hb6.mono hBw))
              clear hf6 hk6 hb6
              go_wp2_with fail
              go_roundw
              case rel => exact ⟨j + 1, by omega, by go_num, HF6.out, HX6.out, HP6.out, HB6.out⟩
              case measure => simp [intOf]; omega
            · have HF5 := Lib.hid (show BuiltF B (acc ++ lineB ⟨xc, xy, xn, xk⟩) wr by
                have := HFJ.out
                rw [List.take_of_length_le (by omega), List.append_assoc, ← HLF2.out] at this
                exact this)
              have hll := lineB_length HR.out
              go_wp2_with fail
              refine (sbWrite B B _ ⟨#[10]⟩ wr HF5.out (by
                have e : (⟨#[10]⟩ : ByteArray).size = 1 := rfl
                rw [Lib.byteCells_length, e]; have := HPL.out; simp only [List.length_append]; omega) hBl).mono ?_
              rintro e w6 ⟨rfl, hf6, hb6, hk6⟩
              have HF6 := Lib.hid (show BuiltF B (textB (l.take (k + 1))) w6 by
                have := Or.inr (a := Lib.BuilderAtF 45 5 B B (.pointer none) (Lib.byteCells (acc ++ lineB ⟨xc, xy, xn, xk⟩) ++ Lib.strCells ⟨#[10]⟩) w6) hf6
                rw [Lib.strCells_eq, ← Lib.byteCells_append, List.append_assoc, show (⟨#[10]⟩ : ByteArray).data.toList = [10] from rfl, ← HTN.out] at this
                exact this)
              have HB6 := Lib.hid (HBJ.out.trans (hb6.mono hBw))
              have hsz6 : B < w6.heap.size := by have := hb6.size; omega
              clear hf6 hk6 hb6
              go_wp2_with fail
              go_roundw
              case rel => exact ⟨k + 1, by omega, by go_num, HN.out, HF6.out, HB6.out, hsz6⟩
              case measure => simp [intOf]; omega
      · have HN := Lib.hid (show ptOf l = ⟨(textB l).toArray⟩ by
          unfold ptOf
          rw [if_pos ⟨HAO.out, by have := HNM.out; rw [List.take_of_length_le (by omega)] at this; exact this⟩])
        have HFE := Lib.hid (show BuiltF B (textB l) wr by have := HBF.out; rw [List.take_of_length_le (by omega)] at this; exact this)
        have hBr' : B ≤ wr.heap.size := by omega
        go_wp2_with fail
        refine (Tryd.Builder_String_any_k B B (textB l) _ HFE.out hBr').mono ?_
        rintro e w2 ⟨rfl, _, hb2, _⟩
        have HB2 := Lib.hid (HBW.out.trans (hb2.mono hBw))
        clear hb2
        go_wp2_with fail
        go_ret
        exact ⟨ret_str HN.out.symm, HB2.out⟩

end Go.Proofs.YtibbcafhchoiiaaDoor

/- ProgText of the model. -/
import Derived.Test.YtibbcafhchoiiaaDoorLn
import Derived.Test.YtibbcafhchoiiaaDoorPb
import Derived.Lib.AppendStr
set_option maxRecDepth 100000
set_option linter.unusedSimpArgs false
set_option linter.unusedVariables false
namespace Go.Proofs.YtibbcafhchoiiaaDoor
open Go.RowKit

theorem wpList_push_str {ops : Array Oper} {rest : List Oper} {o : Oper} {a : Act} {Q : Exit → Act → World → Prop} {w : World} (hgd : o.guard = none) (sl x : Operand)
    (ho : o.op = .call { callee := .builtin .append, args := #[sl, x], argTypes := #[36, 9] })
    (base : Nat) (v : Value) (bs : List UInt8) (hs : a.eval sl = v) (hown : OwnB base w v bs) (t : ByteArray) (hx : a.eval x = .string t)
    (hlen : bs.length + t.size ≤ 140737488355328) (hbase : base ≤ w.heap.size)
    (h : ∀ v' w', OwnB base w' v' (bs ++ t.data.toList) → w.grownBy w' v.ownBlock → wpList Tryd.prog ops Q rest (a.put o.dst v') w') : wpList Tryd.prog ops Q (o :: rest) a w := by
  obtain ⟨i0, hi, hz0, hz1, hz2⟩ := info_parts info_u8
  refine Lib.wpList_append_own_string _ hgd sl x 36 9 ho base 5 i0 Tryd.underlying36 Tryd.underlying9 hi hz0 hz1 hz2 v bs.length (byteCells bs) hs hown t hx (by unfold maxLen; omega) hlen hbase ?_
  intro v' w' h2 h3 _
  refine h _ _ ?_ h3
  unfold OwnB
  rw [byteCells_append, List.length_append]
  exact h2

/-- The lines of words, one after the other. -/
def textB (l : List Ins) : List UInt8 := l.flatMap fun x => lineB x ++ [10]
def namedOk (l : List Ins) : Bool := l.all fun x => isOp x.c
def ptOf (l : List Ins) : ByteArray := if allOk l = true ∧ namedOk l = true then ⟨(textB l).toArray⟩ else ⟨#[]⟩
theorem textB_next {l : List Ins} {k : Nat} (hk : k < l.length) : textB (l.take (k + 1)) = textB (l.take k) ++ (lineB l[k] ++ [10]) := by
  unfold textB; rw [List.take_succ_eq_append_getElem hk, List.flatMap_append]; simp
theorem named_next {l : List Ins} {k : Nat} (h : namedOk (l.take k) = true) (hk : k < l.length) (hx : isOp l[k].c = true) : namedOk (l.take (k + 1)) = true := by
  unfold namedOk at h ⊢
  rw [List.take_succ_eq_append_getElem hk, List.all_append, h]
  simp [hx]
theorem named_no {l : List Ins} {k : Nat} (hk : k < l.length) (hx : isOp l[k].c = false) : namedOk l = false := by
  unfold namedOk
  rw [List.all_eq_false]
  exact ⟨l[k], List.getElem_mem hk, by simp [hx]⟩
theorem all_right {l : List Ins} (h : allOk l = true) : l.length ≤ 400 ∧ ∀ i (hi : i < l.length), insRight l[i] = true := by
  unfold allOk at h
  simp at h
  exact ⟨h.1, fun i hi => h.2 _ (List.getElem_mem hi)⟩
theorem lineB_length {x : Ins} (h : insRight x = true) : (lineB x).length ≤ 69 := by
  unfold insRight isB at h
  simp only [Bool.and_eq_true, decide_eq_true_eq] at h
  obtain ⟨⟨⟨_, hy⟩, hn⟩, hk⟩ := h
  have h0 := opNameL_length x.c
  have h1 := decB_length hy.1 (by omega)
  have h2 := decB_length hn.1 (by omega)
  have h3 := decB_length hk.1 (by omega)
  unfold lineB lineLooks lineK
  simp only [List.length_append]
  split <;> split <;> simp <;> omega
theorem textB_length {l : List Ins} (h : ∀ i (hi : i < l.length), insRight l[i] = true) : (textB l).length ≤ 70 * l.length := by
  have key : ∀ (l : List Ins), (∀ x ∈ l, insRight x = true) → (textB l).length ≤ 70 * l.length := by
    intro l
    induction l with
    | nil => intro _; simp [textB]
    | cons x l ih =>
      intro h
      have h1 := lineB_length (h x (by simp))
      have h2 := ih fun y hy => h y (by simp [hy])
      unfold textB at h2 ⊢
      simp only [List.flatMap_cons, List.length_append, List.length_cons, List.length_nil]
      omega
  exact key l fun x hx => by obtain ⟨i, hi, rfl⟩ := List.getElem_of_mem hx; exact h i hi

set_option maxHeartbeats 3200000 in
theorem specProgText_any (v : Value) (l : List Ins) (w : World) (h : InsAt w w.heap.size v l) :
    Calls Tryd.prog 6 #[v] w fun e w' => e = .returned (.string (ptOf l)) ∧ Below w.heap.size w w' := by
  obtain ⟨a, cap, rfl, hlc, hcm⟩ := h.len
  unfold maxLen at hcm
  have HP := Lib.hid (l02Prog_any _ l w h)
  have HH := Lib.hid h
  clear h
  cases hok : allOk l with
  | false =>
    have HN := Lib.hid (show ptOf l = ⟨#[]⟩ by unfold ptOf; rw [if_neg (by simp [hok])])
    rw [hok] at HP
    clear hok
    go_enter Tryd.func6, Tryd.ntmps6
    go_wp2_with fail
    refine HP.out.mono ?_
    rintro e w1 ⟨rfl, hb1⟩
    go_wp2_with fail
    go_ret
    exact ⟨ret_str HN.out.symm, hb1⟩
  | true =>
    have HO := Lib.hid (all_right hok)
    have HAO := Lib.hid hok
    have hlen := HO.out.1
    rw [hok] at HP
    clear hok
    go_enter Tryd.func6, Tryd.ntmps6
    go_wp2_with fail
    refine HP.out.mono ?_
    rintro e w1 ⟨rfl, hb1⟩
    have HB1 := Lib.hid hb1
    have hs1 := hb1.size
    clear hb1
    go_wp2_with fail
    go_loopw [3, 4] (fun v i wr => ∃ k : Nat, k ≤ l.length ∧ i = .int .i64 k ∧ namedOk (l.take k) = true ∧ OwnB w.heap.size wr v (textB (l.take k)) ∧ Below w.heap.size w wr) (fun _ i _ => l.length - (intOf i).toNat)
    case atStart => exact ⟨0, by omega, rfl, rfl, World.ownsRow_lit _ _ _ hs1 (by unfold maxLen; omega) (by simp), HB1.out.alloc hs1 _⟩
    case round =>
      obtain ⟨k, hk, rfl, hnm, hown, hbw⟩ := hrel
      have hsz := hbw.size
      have HNM := Lib.hid hnm
      clear hnm
      by_cases hlt : k < l.length
      · obtain ⟨b, o, e, hb, c0, c1, c2, c3, hwf⟩ := (HH.out.below hbw).at_ (List.getElem?_eq_getElem hlt)
        subst e
        have hr := HO.out.2 k hlt
        have hpl := textB_length (l := l.take k) (fun i hi => by rw [List.getElem_take]; exact HO.out.2 _ (by rw [List.length_take] at hi; omega))
        rw [List.length_take] at hpl
        have hll := lineB_length hr
        have HTN := Lib.hid (textB_next hlt)
        have HPL := Lib.hid (show (textB (l.take k)).length ≤ 28000 by omega)
        have HIS := Lib.hid (isOp_empty l[k].c)
        have HNX := Lib.hid (named_next HNM.out hlt)
        have HNO := Lib.hid (named_no (l := l) hlt)
        have qo := fun W => specOpName_any l[k].c W
        have ql := fun W => l02Line_any l[k] W hr
        clear hpl
        generalize hx : l[k] = x at *
        clear hx
        obtain ⟨xc, xy, xn, xk⟩ := x
        simp only at c0 c1 c2 c3 qo ql
        generalize opNameOf xc = nm at *
        obtain ⟨L, hL⟩ : ∃ L : ByteArray, L = ⟨(lineB ⟨xc, xy, xn, xk⟩).toArray⟩ := ⟨_, rfl⟩
        have hzL : L.size ≤ 69 := by rw [hL]; exact hll
        have HLT := Lib.hid (show (L ++ ⟨#[10]⟩).data.toList = lineB ⟨xc, xy, xn, xk⟩ ++ [10] by rw [hL]; simp [ByteArray.data_append])
        have HLZ := Lib.hid (show (L ++ ⟨#[10]⟩).size ≤ 70 by
          have e : (⟨#[10]⟩ : ByteArray).size = 1 := rfl
          simp only [ByteArray.size_append, e]; omega)
        have s1 : ∀ W, (Op.stringOp .add L ⟨#[10]⟩).run Tryd.prog W = .ok (.string (L ++ ⟨#[10]⟩)) W := fun W => run_string_add_sum W _ _ (by
          have e : (⟨#[10]⟩ : ByteArray).size = 1 := rfl
          omega)
        rw [← hL] at ql
        have QO := Lib.hid qo
        have QL := Lib.hid ql
        clear qo ql hL hll hr hwf
        generalize (L ++ (⟨#[10]⟩ : ByteArray)) = L2 at *
        have HOW := Lib.hid hown
        have HBW := Lib.hid hbw
        clear hown hbw
        cases hop : isOp xc with
        | false =>
          have hem : nm.toList.isEmpty = true := by rw [HIS.out, hop]; rfl
          have HN := Lib.hid (show ptOf l = ⟨#[]⟩ by unfold ptOf; rw [if_neg (by simp [HNO.out hop])])
          clear hop
          go_wp2_with fail
          refine (QO.out _).mono ?_
          rintro e w2 ⟨rfl, hb2⟩
          have HB2 := Lib.hid (HBW.out.trans (hb2.mono hsz))
          clear hb2
          go_wp2_with fail
          go_ret
          exact ⟨ret_str HN.out.symm, HB2.out⟩
        | true =>
          have hem : nm.toList.isEmpty = false := by rw [HIS.out, hop]; rfl
          have HN := Lib.hid (HNX.out hop)
          clear hop
          go_wp2_with fail
          refine (QO.out _).mono ?_
          rintro e w2 ⟨rfl, hb2⟩
          have e0 := (hb2.cell (p := ⟨b, o + k * 4, none⟩) (show b < wr.heap.size by omega)).trans c0
          have e1 := (hb2.cell (p := ⟨b, o + k * 4 + 1, none⟩) (show b < wr.heap.size by omega)).trans c1
          have e2 := (hb2.cell (p := ⟨b, o + k * 4 + 2, none⟩) (show b < wr.heap.size by omega)).trans c2
          have e3 := (hb2.cell (p := ⟨b, o + k * 4 + 3, none⟩) (show b < wr.heap.size by omega)).trans c3
          have HB2 := Lib.hid (HBW.out.trans (hb2.mono hsz))
          have HO2 := Lib.hid (show OwnB _ _ _ _ from own_below HOW.out hb2)
          clear hb2 c0 c1 c2 c3
          go_wp2_with fail
          refine (QL.out _).mono ?_
          rintro e w3 ⟨rfl, hb3⟩
          have hb3' := HB2.out.trans (hb3.mono HB2.out.size)
          have HO3 := Lib.hid (show OwnB _ _ _ _ from own_below HO2.out hb3)
          have HB3 := Lib.hid hb3'
          have hsz3 := hb3'.size
          clear hb3 hb3'
          go_wp2_with (at_builtin; refine wpList_push_str rfl _ _ (by rfl) w.heap.size _ (textB (l.take k)) (by rfl) HO3.out _ (by rfl) (by have := HLZ.out; have := HPL.out; omega) hsz3 ?_; intro v4 w4 hown4 hg4)
          rw [HLT.out, ← HTN.out] at hown4
          have hb4 := HB3.out.grown hg4 hsz3 (fun q hq => (HO3.out.lt q hq).1)
          go_roundw
          case rel => exact ⟨k + 1, by omega, by go_num, HN.out, hown4, hb4⟩
          case measure => simp [intOf]; omega
      · have hst := hown.string
        have HF := Lib.hid (show textB (l.take k) = textB l by rw [List.take_of_length_le (by omega)])
        have HN := Lib.hid (show ptOf l = ⟨(textB l).toArray⟩ by
          unfold ptOf
          rw [if_pos ⟨HAO.out, by have := HNM.out; rw [List.take_of_length_le (by omega)] at this; exact this⟩])
        go_wp2_with fail
        go_ret
        exact ⟨ret_str (by rw [HN.out, HF.out]), hbw⟩

end Go.Proofs.YtibbcafhchoiiaaDoor

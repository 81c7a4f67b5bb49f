/- Plain facts on lines of words read, and on texts of programs. No program is read here. -/
import Derived.Test.YtibbcafhchoiiaaDoorPq
import Derived.Test.YtibbcafhchoiiaaDoorTp
set_option maxRecDepth 100000
set_option linter.unusedSimpArgs false
set_option linter.unusedVariables false
namespace Go.Proofs.YtibbcafhchoiiaaDoor
open Go.RowKit

theorem len_two {α : Type} {l : List α} (h : l.length = 2) : ∃ a b, l = [a, b] := by
  match l, h with
  | [a, b], _ => exact ⟨a, b, rfl⟩
theorem len_three {α : Type} {l : List α} (h : l.length = 3) : ∃ a b c, l = [a, b, c] := by
  match l, h with
  | [a, b, c], _ => exact ⟨a, b, c, rfl⟩
def opOfL (t : List UInt8) : Int := ofFind (opNamesL.zip opCodesL) t
theorem ofFind_mem {n : List UInt8} : ∀ {l : List (List UInt8 × Int)}, ofFind l n ≠ -1 → (n, ofFind l n) ∈ l
  | [], h => absurd rfl h
  | p :: l, h => by
    unfold ofFind at h ⊢
    split
    · rename_i e
      rw [← e]
      simp
    · rename_i e
      rw [if_neg e] at h
      exact List.mem_cons_of_mem _ (ofFind_mem h)
theorem opOf_ok {t : List UInt8} (h : 0 ≤ opOfL t) : isOp (opOfL t) = true ∧ opNameL (opOfL t) = t := by
  have hm := ofFind_mem (l := opNamesL.zip opCodesL) (n := t) (show opOfL t ≠ -1 by omega)
  have key : ∀ p ∈ opNamesL.zip opCodesL, isOp p.2 = true ∧ opNameL p.2 = p.1 := by decide
  exact key _ hm
theorem op_back {c : Int} (h : isOp c = true) : opOfL (opNameL c) = c ∧ 0 ≤ c ∧ 32 ∉ opNameL c ∧ 10 ∉ opNameL c := by
  have key : ∀ c ∈ opCodesL, opOfL (opNameL c) = c ∧ 0 ≤ c ∧ 32 ∉ opNameL c ∧ 10 ∉ opNameL c := by decide
  exact key c (by simpa [isOp] using h)

/-- What is not written in the line is 0. -/
def normI (x : Ins) : Ins := ⟨x.c, if looksC x.c then x.y else 0, if looksC x.c then x.n else 0, if noKC x.c then 0 else x.k⟩
def numI (t : List UInt8) : Int := match numL t with
  | some n => n
  | none => -1
/-- The model's reading of a line's parts. -/
def lksP (ps : List (List UInt8)) : Bool := looksC (opOfL (ps.headD [])) && decide (2 < ps.length)
def parsePs (ps : List (List UInt8)) : Ins := ⟨opOfL (ps.headD []), if lksP ps then numI (ps.getD 1 []) else 0, if lksP ps then numI (ps.getD 2 []) else 0,
  if (!noKC (opOfL (ps.headD [])) && decide ((if lksP ps then 3 else 1) < ps.length)) = true then numI (ps.getD (if lksP ps then 3 else 1) []) else 0⟩
/-- The program's. -/
def setFld (x : Ins) (i : Nat) (v : Int) : Ins := if i = 1 then { x with y := v } else if i = 2 then { x with n := v } else { x with k := v }
def readFs (x : Ins) : List (Nat × List UInt8) → Option Ins
  | [] => some x
  | q :: r => match numL q.2 with
    | some v => readFs (setFld x q.1 v) r
    | none => none
def badHead (ps : List (List UInt8)) : Prop := opOfL (ps.headD []) < 0 ∨ ps.length ≠ 1 + (fldsI (opOfL (ps.headD []))).length
instance (ps : List (List UInt8)) : Decidable (badHead ps) := by unfold badHead; infer_instance
def readPs (ps : List (List UInt8)) : Option Ins := if badHead ps then none
  else match readFs ⟨opOfL (ps.headD []), 0, 0, 0⟩ ((fldsI (opOfL (ps.headD []))).zip ps.tail) with
    | some x => if insRight x = true then some x else none
    | none => none
def joinSp : List (List UInt8) → List UInt8
  | [] => []
  | p :: ps => p ++ ps.flatMap fun q => 32 :: q
theorem join_cut : ∀ t : List UInt8, joinSp (cutAt 32 t) = t
  | [] => rfl
  | b :: t => by
    have ih := join_cut t
    unfold cutAt
    split
    · rename_i e
      subst e
      cases hq : cutAt 32 t with
      | nil => exact absurd hq (cutAt_ne _ _)
      | cons p ps =>
        rw [hq] at ih
        simp only [joinSp, List.nil_append, List.flatMap_cons] at ih ⊢
        rw [← ih]
        rfl
    · cases hq : cutAt 32 t with
      | nil => exact absurd hq (cutAt_ne _ _)
      | cons p ps =>
        rw [hq] at ih
        simp only [joinSp, List.cons_append] at ih ⊢
        rw [ih]
theorem cut_join : ∀ (L : List (List UInt8)) (nm : List UInt8), 32 ∉ nm → (∀ p ∈ L, 32 ∉ p) → cutAt 32 (nm ++ L.flatMap fun q => 32 :: q) = nm :: L
  | [], nm, h, _ => by simp [cutAt_miss h]
  | p :: L, nm, h, hL => by
    rw [List.flatMap_cons, List.cons_append, cutAt_hit h, cut_join L p (hL p (by simp)) (fun q hq => hL q (by simp [hq]))]
theorem digits_no {n : Nat} {c : UInt8} (h : c.toNat < 48) : c ∉ Lib.decDigits n := by
  intro hm
  have := List.all_eq_true.1 (decDigits_props n n (Nat.le_refl _)).1 c hm
  simp [digit] at this
  omega
theorem decB_no (v : Int) {c : UInt8} (h : c.toNat < 48) : c ∉ decB v := digits_no h
theorem line_join {x : Ins} (h : isOp x.c = true) : lineB x = opNameL x.c ++ ((fldsI x.c).map fun i => decB (fieldI x i)).flatMap fun q => 32 :: q := by
  rw [line_flds h, List.flatMap_map]
  rfl
theorem line_cut {x : Ins} (h : isOp x.c = true) : cutAt 32 (lineB x) = opNameL x.c :: (fldsI x.c).map fun i => decB (fieldI x i) := by
  rw [line_join h, cut_join _ _ (op_back h).2.2.1]
  intro p hp
  obtain ⟨i, _, rfl⟩ := List.mem_map.1 hp
  exact decB_no _ (by decide)
theorem line_no10 {x : Ins} (h : isOp x.c = true) : 10 ∉ lineB x := by
  rw [line_join h]
  intro hm
  rcases List.mem_append.1 hm with hm | hm
  · exact (op_back h).2.2.2 hm
  · obtain ⟨p, hp, hq⟩ := List.mem_flatMap.1 hm
    obtain ⟨i, _, rfl⟩ := List.mem_map.1 hp
    rcases List.mem_cons.1 hq with e | hq
    · exact absurd e (by decide)
    · exact decB_no _ (by decide) hq
theorem numL_decB {v : Int} (h0 : 0 ≤ v) (h1 : v ≤ 4294967295) : numL (decB v) = some v.toNat := dec_numL (by omega)
theorem ins_num {x : Ins} (h : insRight x = true) : (0 ≤ x.y ∧ x.y ≤ 4294967295) ∧ (0 ≤ x.n ∧ x.n ≤ 4294967295) ∧ (0 ≤ x.k ∧ x.k ≤ 4294967295) := by
  unfold insRight isB at h
  simp only [Bool.and_eq_true, decide_eq_true_eq] at h
  omega
/-- What the line of a right word is read as. -/
theorem line_back {x : Ins} (h : isOp x.c = true) (hr : insRight x = true) : parsePs (cutAt 32 (lineB x)) = normI x := by
  obtain ⟨⟨y0, y1⟩, ⟨n0, n1⟩, ⟨k0, k1⟩⟩ := ins_num hr
  have hb := (op_back h).1
  have hy : numI (decB x.y) = x.y := by unfold numI; rw [numL_decB y0 y1]; simp; omega
  have hn : numI (decB x.n) = x.n := by unfold numI; rw [numL_decB n0 n1]; simp; omega
  have hk : numI (decB x.k) = x.k := by unfold numI; rw [numL_decB k0 k1]; simp; omega
  rw [line_cut h]
  unfold parsePs normI lksP fldsI
  rw [showsK_op h]
  simp only [List.headD_cons, hb]
  cases looksC x.c <;> cases noKC x.c <;> simp [fieldI, hy, hn, hk]
theorem line_read {x : Ins} (h : isOp x.c = true) (hr : insRight x = true) (hn : normI x = x) : readPs (cutAt 32 (lineB x)) = some x := by
  obtain ⟨⟨y0, y1⟩, ⟨n0, n1⟩, ⟨k0, k1⟩⟩ := ins_num hr
  have hb := op_back h
  have ey : ((x.y.toNat : Nat) : Int) = x.y := by omega
  have en : ((x.n.toNat : Nat) : Int) = x.n := by omega
  have ek : ((x.k.toNat : Nat) : Int) = x.k := by omega
  rw [line_cut h]
  unfold readPs
  rw [if_neg (by unfold badHead; simp only [List.headD_cons, hb.1, List.length_cons, List.length_map]; omega)]
  simp only [List.headD_cons, hb.1, List.tail_cons]
  have hres : readFs ⟨x.c, 0, 0, 0⟩ ((fldsI x.c).zip ((fldsI x.c).map fun i => decB (fieldI x i))) = some (normI x) := by
    unfold fldsI normI
    rw [showsK_op h]
    cases looksC x.c <;> cases noKC x.c <;> simp [readFs, fieldI, setFld, numL_decB y0 y1, numL_decB n0 n1, numL_decB k0 k1, ey, en, ek]
  rw [hres, hn]
  simp [hr]
/-- Whatever line the program reads is that of what it reads. -/
theorem read_line {t : List UInt8} {x : Ins} (h : readPs (cutAt 32 t) = some x) : t = lineB x ∧ isOp x.c = true ∧ insRight x = true ∧ normI x = x := by
  have hj := join_cut t
  generalize cutAt 32 t = ps at *
  unfold readPs at h
  split at h
  · cases h
  rename_i hbad
  unfold badHead at hbad
  simp only [not_or, Int.not_lt, Decidable.not_not] at hbad
  obtain ⟨h0, hlen⟩ := hbad
  cases ps with
  | nil => simp at hlen; omega
  | cons nm rest =>
    simp only [List.headD_cons, List.tail_cons, List.length_cons] at h h0 hlen
    obtain ⟨hop, hnm⟩ := opOf_ok h0
    generalize opOfL nm = c at *
    have hsk := showsK_op hop
    have hdec : ∀ {p : List UInt8} {v : Nat}, numL p = some v → p = decB (v : Int) := fun {p v} hp => by rw [numL_dec hp]; unfold decB; simp
    have fin : ∀ z : Ins, z.c = c → (fldsI c).map (fun i => decB (fieldI z i)) = rest → normI z = z → insRight z = true → t = lineB z ∧ isOp z.c = true ∧ insRight z = true ∧ normI z = z := by
      intro z hz hm hn hr
      subst hz
      refine ⟨?_, hop, hr, hn⟩
      rw [line_join hop, hm, hnm, ← hj]
      rfl
    unfold fldsI at h hlen fin
    cases hl : looksC c <;> cases hk : showsKI c <;> rw [hl, hk] at h hlen fin <;> simp only [Bool.false_eq_true, if_false, if_true, List.append_nil, List.nil_append, List.cons_append, List.length_nil, List.length_cons] at h hlen fin <;> rw [hk] at hsk <;> simp only [Bool.eq_not, Bool.false_eq, Bool.true_eq, Bool.not_eq_false', Bool.not_eq_true'] at hsk
    · obtain rfl : rest = [] := List.eq_nil_of_length_eq_zero (by omega)
      simp only [List.zip_nil_left, readFs] at h
      split at h
      · simp only [Option.some.injEq] at h
        subst h
        exact fin _ rfl rfl (by simp [normI]) (by assumption)
      · cases h
    · obtain ⟨a, rfl⟩ : ∃ a, rest = [a] := List.length_eq_one_iff.1 (by omega)
      simp only [List.zip_cons_cons, List.zip_nil_left, readFs] at h
      cases ha : numL a with
      | none => simp [ha] at h
      | some v =>
        simp only [ha, setFld] at h
        simp at h
        obtain ⟨hr, rfl⟩ := h
        exact fin _ rfl (by rw [hdec ha]; simp [fieldI]) (by simp_all [normI]) hr
    · obtain ⟨a, b, rfl⟩ : ∃ a b, rest = [a, b] := len_two (by omega)
      simp only [List.zip_cons_cons, List.zip_nil_left, readFs] at h
      cases ha : numL a with
      | none => simp [ha] at h
      | some v =>
        cases hb : numL b with
        | none => simp [ha, hb] at h
        | some v2 =>
          simp only [ha, hb, setFld] at h
          simp at h
          obtain ⟨hr, rfl⟩ := h
          exact fin _ rfl (by rw [hdec ha, hdec hb]; simp [fieldI]) (by simp_all [normI]) hr
    · obtain ⟨a, b, d, rfl⟩ : ∃ a b d, rest = [a, b, d] := len_three (by omega)
      simp only [List.zip_cons_cons, List.zip_nil_left, readFs] at h
      cases ha : numL a with
      | none => simp [ha] at h
      | some v =>
        cases hb : numL b with
        | none => simp [ha, hb] at h
        | some v2 =>
          cases hd : numL d with
          | none => simp [ha, hb, hd] at h
          | some v3 =>
            simp only [ha, hb, hd, setFld] at h
            simp at h
            obtain ⟨hr, rfl⟩ := h
            exact fin _ rfl (by rw [hdec ha, hdec hb, hdec hd]; simp [fieldI]) (by simp_all [normI]) hr

theorem parse_norm (ps : List (List UInt8)) : normI (parsePs ps) = parsePs ps := by
  unfold normI parsePs lksP
  cases h : looksC (opOfL (ps.headD [])) <;> cases h2 : noKC (opOfL (ps.headD [])) <;> simp [h, h2]

/-- Is it the text of that program? -/
def okIns (x : Ins) : Prop := isOp x.c = true ∧ insRight x = true ∧ normI x = x
def VT (t : List UInt8) (l : List Ins) : Prop := t = textB l ∧ l.length ≤ 400 ∧ ∀ x ∈ l, okIns x
theorem textB_cons (x : Ins) (l : List Ins) : textB (x :: l) = lineB x ++ 10 :: textB l := by
  unfold textB
  rw [List.flatMap_cons, List.append_assoc]
  rfl
theorem split_ten {a b r s : List UInt8} (ha : 10 ∉ a) (hb : 10 ∉ b) (h : a ++ (10 : UInt8) :: r = b ++ 10 :: s) : a = b ∧ r = s := by
  have h1 := cut_at (r := r) ha
  have h2 := cut_at (r := s) hb
  rw [h, h2] at h1
  injection h1 with e1 e2
  injection e2 with e2 _
  exact ⟨e1.symm, e2.symm⟩
theorem line_inj {x y : Ins} (hx : okIns x) (hy : okIns y) (h : lineB x = lineB y) : x = y := by
  have h1 := line_back hx.1 hx.2.1
  have h2 := line_back hy.1 hy.2.1
  rw [h, h2, hx.2.2, hy.2.2] at h1
  exact h1.symm
theorem text_prefix : ∀ {d l : List Ins} {r : List UInt8}, (∀ x ∈ d, okIns x) → (∀ x ∈ l, okIns x) → textB d ++ r = textB l → ∃ l', l = d ++ l' ∧ r = textB l'
  | [], l, r, _, _, h => ⟨l, rfl, by simpa [textB] using h⟩
  | x :: d, [], r, _, _, h => by
    rw [textB_cons] at h
    have := congrArg List.length h
    simp [textB] at this
  | x :: d, y :: l, r, hd, hl, h => by
    rw [textB_cons, textB_cons, List.append_assoc, List.cons_append] at h
    obtain ⟨h1, h2⟩ := split_ten (line_no10 (hd x (by simp)).1) (line_no10 (hl y (by simp)).1) h
    obtain rfl := line_inj (hd x (by simp)) (hl y (by simp)) h1
    obtain ⟨l', rfl, hr⟩ := text_prefix (fun z hz => hd z (by simp [hz])) (fun z hz => hl z (by simp [hz])) h2
    exact ⟨l', rfl, hr⟩
theorem VT.uniq {t : List UInt8} {l l' : List Ins} (h : VT t l) (h' : VT t l') : l = l' := by
  obtain ⟨m, rfl, hm⟩ := text_prefix (r := []) h.2.2 h'.2.2 (by rw [List.append_nil, ← h.1]; exact h'.1)
  cases m with
  | nil => simp
  | cons x m =>
    rw [textB_cons] at hm
    have := congrArg List.length hm
    simp at this
/-- What is answered of a text: the program, and the code. -/
def ParseRes (t : List UInt8) (l : List Ins) (c : Int) : Prop := (8000 < t.length ∧ l = [] ∧ c = 2) ∨ (t.length ≤ 8000 ∧ ((c = 0 ∧ VT t l) ∨ (c = 3 ∧ l = [] ∧ ∀ l', ¬ VT t l')))
theorem ParseRes.uniq {t : List UInt8} {l l' : List Ins} {c c' : Int} (h : ParseRes t l c) (h' : ParseRes t l' c') : l = l' ∧ c = c' := by
  rcases h with ⟨h1, h2, h3⟩ | ⟨h1, ⟨h2, h3⟩ | ⟨h2, h3, h4⟩⟩ <;> rcases h' with ⟨k1, k2, k3⟩ | ⟨k1, ⟨k2, k3⟩ | ⟨k2, k3, k4⟩⟩
  · exact ⟨h2.trans k2.symm, h3.trans k3.symm⟩
  · omega
  · omega
  · omega
  · exact ⟨h3.uniq k3, h2.trans k2.symm⟩
  · exact absurd h3 (k4 _)
  · omega
  · exact absurd k3 (h4 _)
  · exact ⟨h3.trans k3.symm, h2.trans k2.symm⟩
/-- The model's way: the lines read, and written again. -/
def modelL (t : List UInt8) : List Ins := ((cutAt 10 t).dropLast.take 401).map fun s => parsePs (cutAt 32 s)
theorem cut_text : ∀ {l : List Ins}, (∀ x ∈ l, okIns x) → cutAt 10 (textB l) = l.map lineB ++ [[]]
  | [], _ => rfl
  | x :: l, h => by
    rw [textB_cons, cutAt_hit (line_no10 (h x (by simp)).1), cut_text fun y hy => h y (by simp [hy])]
    rfl
theorem model_of {t : List UInt8} {l : List Ins} (h : VT t l) : modelL t = l := by
  obtain ⟨rfl, h1, h2⟩ := h
  unfold modelL
  rw [cut_text h2, List.dropLast_concat, List.take_of_length_le (by rw [List.length_map]; omega), List.map_map]
  have : ∀ x ∈ l, ((fun s => parsePs (cutAt 32 s)) ∘ lineB) x = x := fun x hx => by
    simp only [Function.comp]
    rw [line_back (h2 x hx).1 (h2 x hx).2.1, (h2 x hx).2.2]
  rw [List.map_congr_left this, List.map_id']
theorem pt_toList {l : List Ins} (h : allOk l = true ∧ namedOk l = true) : (ptOf l).data.toList = textB l := by unfold ptOf; rw [if_pos h]
theorem model_vt {t : List UInt8} (h : (ptOf (modelL t)).data.toList = t) : VT t (modelL t) := by
  by_cases hk : allOk (modelL t) = true ∧ namedOk (modelL t) = true
  · rw [pt_toList hk] at h
    refine ⟨h.symm, ?_, fun x hx => ⟨?_, ?_, ?_⟩⟩
    · exact (all_right hk.1).1
    · have := hk.2
      unfold namedOk at this
      exact List.all_eq_true.1 this x hx
    · obtain ⟨i, hi, rfl⟩ := List.getElem_of_mem hx
      exact (all_right hk.1).2 i hi
    · unfold modelL at hx
      obtain ⟨s, _, rfl⟩ := List.mem_map.1 hx
      exact parse_norm _
  · unfold ptOf at h
    rw [if_neg hk] at h
    have ht : t = [] := by simpa using h.symm
    subst ht
    exact ⟨rfl, by decide, fun x hx => by simp [modelL, cutAt] at hx⟩
theorem vt_model {t : List UInt8} {l : List Ins} (h : VT t l) : (ptOf (modelL t)).data.toList = t := by
  rw [model_of h]
  rw [pt_toList, h.1]
  constructor
  · unfold allOk
    simp only [Bool.and_eq_true, decide_eq_true_eq]
    exact ⟨h.2.1, List.all_eq_true.2 fun x hx => (h.2.2 x hx).2.1⟩
  · unfold namedOk
    exact List.all_eq_true.2 fun x hx => (h.2.2 x hx).1

end Go.Proofs.YtibbcafhchoiiaaDoor

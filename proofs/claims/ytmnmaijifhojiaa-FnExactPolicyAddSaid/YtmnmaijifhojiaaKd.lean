/- The laws' own marks on rows of rules: markRuleS, heldRuleS; what marking leaves. -/
import Derived.Test.YtmnmaijifhojiaaJv
import Derived.Test.YtmnmaijifhojiaaJq
set_option maxRecDepth 100000
set_option linter.unusedVariables false
set_option linter.unusedSimpArgs false
namespace Go.Proofs.Ytmnmaijifhojiaa
open Go.RowKit Go.ChangeShapes Go.WideShapes
attribute [local go_sem ↓] Go.wp_at_zero Go.wp_at_succ

/-- Where the numbering ends, and the rules numbered on. -/
def mkEnd : Int → List Rl → Int
  | k, [] => k
  | k, r :: t => mkEnd (k + 1 + 1 + 6 * (r.cs.length : Int)) t
def mkR (k : Int) (r : Rl) : Rl := ⟨k, k + 1, markCqL (k + 1 + 1) r.cs.length⟩
def mkRs : Int → List Rl → List Rl
  | _, [] => []
  | k, r :: t => mkR k r :: mkRs (k + 1 + 1 + 6 * (r.cs.length : Int)) t
theorem mkEnd_append : ∀ (a b : List Rl) (k : Int), mkEnd k (a ++ b) = mkEnd (mkEnd k a) b
  | [], _, _ => rfl
  | r :: t, b, k => mkEnd_append t b _
theorem mkRs_append : ∀ (a b : List Rl) (k : Int), mkRs k (a ++ b) = mkRs k a ++ mkRs (mkEnd k a) b
  | [], _, _ => rfl
  | r :: t, b, k => by
    show mkR k r :: mkRs _ (t ++ b) = mkR k r :: (mkRs _ t ++ mkRs _ b)
    rw [mkRs_append t b]
    rfl
theorem mkEnd_ge : ∀ (l : List Rl) (k : Int), k ≤ mkEnd k l
  | [], k => Int.le_refl _
  | r :: t, k => by
    have := mkEnd_ge t (k + 1 + 1 + 6 * (r.cs.length : Int))
    unfold mkEnd
    omega
theorem mkEnd_at {l : List Rl} {j : Nat} {r : Rl} (h : l[j]? = some r) (k : Int) : mkEnd k (l.take (j + 1)) = mkEnd k (l.take j) + 1 + 1 + 6 * (r.cs.length : Int) ∧ mkEnd k (l.take (j + 1)) ≤ mkEnd k l ∧ k ≤ mkEnd k (l.take j) ∧
    mkRs k (l.take (j + 1)) = mkRs k (l.take j) ++ [mkR (mkEnd k (l.take j)) r] := by
  have ht : l.take (j + 1) = l.take j ++ [r] := by rw [List.take_add_one, h]; rfl
  refine ⟨by rw [ht, mkEnd_append]; rfl, ?_, mkEnd_ge _ _, by rw [ht, mkRs_append]; rfl⟩
  have h2 := mkEnd_append (l.take (j + 1)) (l.drop (j + 1)) k
  rw [List.take_append_drop] at h2
  rw [h2]
  exact mkEnd_ge _ _
theorem mkRs_length : ∀ (l : List Rl) (k : Int), (mkRs k l).length = l.length
  | [], _ => rfl
  | r :: t, k => by show (mkRs _ t).length + 1 = t.length + 1; rw [mkRs_length t]
theorem mkRs_get {l : List Rl} {j : Nat} {r : Rl} (h : l[j]? = some r) (k : Int) : (mkRs k l)[j]? = some (mkR (mkEnd k (l.take j)) r) := by
  have h2 := mkRs_append (l.take (j + 1)) (l.drop (j + 1)) k
  rw [List.take_append_drop] at h2
  have hj : j < l.length := (List.getElem?_eq_some_iff.1 h).1
  have hl : (mkRs k (l.take j)).length = j := by rw [mkRs_length]; simp; omega
  rw [h2, (mkEnd_at h k).2.2.2, List.append_assoc, List.getElem?_append_right (by omega), hl]
  simp
theorem mkRs_wf {l : List Rl} {k : Int} (h0 : 0 ≤ k) (h1 : mkEnd k l ≤ 1000000000) : rlsWf (mkRs k l) := by
  intro r hr
  obtain ⟨j, hj⟩ := List.mem_iff_getElem?.1 hr
  have hlt : j < l.length := by have := (List.getElem?_eq_some_iff.1 hj).1; rwa [mkRs_length] at this
  have hg := mkRs_get (List.getElem?_eq_getElem hlt) k
  obtain ⟨m0, m1, m2, _⟩ := mkEnd_at (List.getElem?_eq_getElem hlt) k
  rw [hj] at hg
  obtain rfl := Option.some.inj hg
  refine ⟨?_, markCqL_wf (by omega) (by omega) (by omega)⟩
  simp only [Rl.wf, mkR, In64]
  omega

/-- Nothing is written but in the blocks of S. -/
structure OnlyIn (S : Nat → Prop) (w w' : World) : Prop where
  os : w'.os = w.os
  tape : w'.tape = w.tape
  output : w'.output = w.output
  size : w.heap.size ≤ w'.heap.size
  block : ∀ b, b < w.heap.size → ¬ S b → w'.heap[b]? = w.heap[b]?
theorem OnlyIn.refl (S : Nat → Prop) (w : World) : OnlyIn S w w := ⟨rfl, rfl, rfl, Nat.le_refl _, fun _ _ _ => rfl⟩
theorem OnlyIn.trans {S : Nat → Prop} {a b c : World} (h : OnlyIn S a b) (k : OnlyIn S b c) : OnlyIn S a c :=
  ⟨k.os.trans h.os, k.tape.trans h.tape, k.output.trans h.output, Nat.le_trans h.size k.size, fun x hx hs => (k.block x (Nat.lt_of_lt_of_le hx h.size) hs).trans (h.block x hx hs)⟩
theorem OnlyIn.grown {S : Nat → Prop} {a b c : World} {row : Option Nat} (h : OnlyIn S a b) (hg : b.grownBy c row) (hr : ∀ k, row = some k → S k) : OnlyIn S a c :=
  h.trans ⟨hg.os, hg.tape, hg.output, hg.size, fun x hx hs => hg.block x hx fun e => hs (hr x e.symm)⟩
theorem OnlyIn.setCell {S : Nat → Prop} {a b : World} (h : OnlyIn S a b) {p : Addr} (hp : S p.block) (u : Value) : OnlyIn S a (b.setCell p u) :=
  h.trans ⟨rfl, rfl, rfl, by simp [World.setCell], fun x hx hs => Below.heap_setCell _ _ _ _ (by rintro rfl; exact hs hp)⟩
theorem OnlyIn.below {S : Nat → Prop} {w w' : World} {B : Nat} (h : OnlyIn S w w') (hS : ∀ k, S k → B ≤ k) (hB : B ≤ w.heap.size) : Below B w w' :=
  ⟨h.os, h.tape, h.output, h.size, fun k hk => h.block k (by omega) fun hs => by have := hS k hs; omega⟩
theorem OnlyIn.alloc {S : Nat → Prop} {w w' : World} {o : Obj} (h : OnlyIn S (w.alloc o) w') : OnlyIn S w w' :=
  ⟨h.os, h.tape, h.output, Nat.le_trans (by simp) h.size, fun k hk hs => (h.block k (by simp; omega) hs).trans (Below.heap_alloc _ _ _ hk)⟩
/-- The blocks of a row of rules. -/
def RvBlk (v : Value) (l : List Rv) (b : Nat) : Prop := v.ownBlock = some b ∨ ∃ u ∈ l.map Rv.v, u.ownBlock = some b
theorem OwnRv.lt {base : Nat} {w : World} {v : Value} {l : List Rv} (h : OwnRv base w v l) : ∀ b, RvBlk v l b → base ≤ b ∧ b < w.heap.size := by
  intro b hb
  rcases hb with hb | ⟨u, hu, hb⟩
  · exact OwnL.lt h.1 b hb
  · obtain ⟨x, hx, rfl⟩ := List.mem_map.1 hu
    exact OwnL.lt (h.2.1.1 x hx) b hb
theorem OwnRv.only {base : Nat} {w w' : World} {v : Value} {l : List Rv} {S : Nat → Prop} (h : OwnRv base w v l) (ho : OnlyIn S w w') (hS : ∀ k, S k → k < base) : OwnRv base w' v l :=
  ⟨h.1.keep fun g hg => ho.block g (OwnL.lt h.1 g hg).2 (fun hs => by have := hS g hs; have := (OwnL.lt h.1 g hg).1; omega),
   h.2.1.keep fun x hx g hg => ho.block g (OwnL.lt (h.2.1.1 x hx) g hg).2 (fun hs => by have := hS g hs; have := (OwnL.lt (h.2.1.1 x hx) g hg).1; omega), h.2.2⟩
theorem rv_set2 {w : World} {base : Nat} {g n cap : Nat} {l : List Rv} (h : w.ownsRow base 35 3 (.slice (some ⟨g, 0, none⟩) n cap) n (l.flatMap rvCells)) {i : Nat} {x : Rv} (hx : l[i]? = some x) (nr ac : Int) (cs : List Cq) :
    ((w.setCell ⟨g, i * 3, none⟩ (.int .i64 nr)).setCell ⟨g, i * 3 + 1, none⟩ (.int .i64 ac)).ownsRow base 35 3 (.slice (some ⟨g, 0, none⟩) n cap) n ((l.set i ⟨⟨nr, ac, cs⟩, x.v⟩).flatMap rvCells) := by
  have hlt : i < l.length := (List.getElem?_eq_some_iff.1 hx).1
  have h2 := ownsRow_setRow [.int .i64 nr, .int .i64 ac] (i * 3) h
  have e : setFrom (l.flatMap rvCells) (i * 3) [.int .i64 nr, .int .i64 ac] = (l.set i ⟨⟨nr, ac, cs⟩, x.v⟩).flatMap rvCells := by
    rw [← flat_set rvS (by omega) (⟨⟨nr, ac, cs⟩, x.v⟩ : Rv) hlt]
    have hv := flat_at rvS hx (j := 2) (by omega)
    have hl := (List.getElem?_eq_some_iff.1 (hv.trans (show _ = some x.v from rfl))).1
    apply List.ext_getElem?
    intro p
    rw [setFrom_get _ _ _ _ (by show i * 3 + 2 ≤ _; omega), setFrom_get _ _ _ _ (by show i * 3 + 3 ≤ _; omega)]
    by_cases hp : p = i * 3 + 2
    · subst hp
      rw [if_neg (by simp), if_pos (by refine ⟨by omega, ?_⟩; show _ < i * 3 + 3; omega), hv]
      simp [rvCells]
    · by_cases h3 : i * 3 ≤ p ∧ p < i * 3 + 2
      · obtain ⟨q, rfl⟩ : ∃ q, p = i * 3 + q := ⟨p - i * 3, by omega⟩
        rw [if_pos (by simp; omega), if_pos (by refine ⟨by omega, ?_⟩; show _ < i * 3 + 3; omega)]
        have : q = 0 ∨ q = 1 := by omega
        rcases this with rfl | rfl <;> simp [rvCells]
      · rw [if_neg (by simp; omega), if_neg (by intro h4; have h5 : p < i * 3 + 3 := h4.2; omega)]
  rw [← e]
  exact h2
theorem OwnRv.turned {base : Nat} {w w2 : World} {v : Value} {P Q : List Rv} {x : Rv} {y : Rl} (h : OwnRv base w v (P ++ x :: Q)) (ho : OwnL 35 3 rvCells base w2 v (P ++ ⟨y, x.v⟩ :: Q)) (hx : CqOwn base w2 x.v y.cs)
    (hk : ∀ z, z ∈ P ∨ z ∈ Q → ∀ g, z.v.ownBlock = some g → w2.heap[g]? = w.heap[g]?) : OwnRv base w2 v (P ++ ⟨y, x.v⟩ :: Q) := by
  have hm : (P ++ ⟨y, x.v⟩ :: Q).map Rv.v = (P ++ x :: Q).map Rv.v := by simp
  have hmem : ∀ z, z ∈ P ∨ z ∈ Q → z ∈ P ++ x :: Q := fun z hz => by rcases hz with hz | hz <;> simp [hz]
  have hin : ∀ z ∈ P ++ ⟨y, x.v⟩ :: Q, z = ⟨y, x.v⟩ ∨ z ∈ P ∨ z ∈ Q := fun z hz => by
    rcases List.mem_append.1 hz with h1 | h1
    · exact .inr (.inl h1)
    · rcases List.mem_cons.1 h1 with h1 | h1
      · exact .inl h1
      · exact .inr (.inr h1)
  refine ⟨ho, ⟨fun z hz => ?_, ?_⟩, fun z hz => ?_⟩
  · rcases hin z hz with rfl | h1
    · exact hx
    · exact (h.2.1.1 z (hmem z h1)).keep (hk z h1)
  · have h1 : ((P ++ x :: Q).map Rv.v).Pairwise Disj := List.pairwise_map.2 h.2.1.2
    rw [← hm] at h1
    exact List.pairwise_map.1 h1
  · rcases hin z hz with rfl | h1
    · exact h.2.2 x (by simp)
    · exact h.2.2 z (hmem z h1)

set_option maxHeartbeats 3200000 in
theorem markRuleS_any (base : Nat) (v : Value) (l : List Rv) (k : Int) (w : World) (h : OwnRv base w v l) (hn : l.length ≤ 1048576) (hk0 : 0 ≤ k) (hk1 : mkEnd k (rls l) ≤ 1000000000) :
    Calls Try.prog 94 #[v, .int .i64 k] w fun e w' => ∃ l', e = .returned (.int .i64 (mkEnd k (rls l))) ∧ rls l' = mkRs k (rls l) ∧ OwnRv base w' v l' ∧ OnlyIn (RvBlk v l) w w' := by
  by_cases hl : l.length = 0
  · obtain rfl : l = [] := List.eq_nil_of_length_eq_zero hl
    obtain ⟨a, cap, rfl⟩ := OwnRv.slice h
    simp only [List.length_nil] at *
    have HH := Lib.hid h
    clear h hk1
    go_enter Try.func94, Try.ntmps94
    go_wp2
    refine wp_loop_rounds 1 ?_
    rw [rounds_succ]
    go_wp2
    go_ret
    exact ⟨[], rfl, rfl, HH.out, OnlyIn.refl _ _⟩
  obtain ⟨g, cap, rfl, hg, hgw, hlc⟩ := OwnL.more h.1 (by omega)
  have HH := Lib.hid h
  have hS : RvBlk (.slice (some ⟨g, 0, none⟩) l.length cap) l g := .inl rfl
  have HS := Lib.hid hS
  have HM := Lib.hid hk1
  clear h hl hS hk1
  go_enter Try.func94, Try.ntmps94
  go_wp2
  go_loopw [1, 5] (fun q i wr => ∃ j : Nat, ∃ P : List Rv, j ≤ l.length ∧ i = .int .i64 j ∧ q = .int .i64 (mkEnd k ((rls l).take j)) ∧ P.length = j ∧ rls P = mkRs k ((rls l).take j) ∧ P.map Rv.v = (l.take j).map Rv.v ∧
      OwnRv base wr (.slice (some ⟨g, 0, none⟩) l.length cap) (P ++ l.drop j) ∧ OnlyIn (RvBlk (.slice (some ⟨g, 0, none⟩) l.length cap) l) w wr)
    (fun _ i _ => l.length - (intOf i).toNat)
  case atStart => exact ⟨0, [], by omega, rfl, rfl, rfl, rfl, rfl, HH.out, OnlyIn.refl _ _⟩
  case round =>
    obtain ⟨j, P, hj, rfl, rfl, hPl, hPr, hPv, hown, honly⟩ := hrel
    by_cases hlt : j < l.length
    · obtain ⟨x, hx⟩ : ∃ x, l[j]? = some x := ⟨_, List.getElem?_eq_getElem hlt⟩
      have hdr : l.drop j = x :: l.drop (j + 1) := by
        rw [List.drop_eq_getElem_cons hlt]
        rw [List.getElem?_eq_getElem hlt] at hx
        rw [Option.some.inj hx]
      have htk : l.take (j + 1) = l.take j ++ [x] := by rw [List.take_add_one, hx]; rfl
      rw [hdr] at hown
      have hrj : (rls l)[j]? = some x.r := by simp [rls, hx]
      have hxl : x ∈ l := List.mem_of_getElem? hx
      obtain ⟨m0, m1, m2, m3⟩ := mkEnd_at hrj k
      have hmM := HM.out
      have HN := Lib.hid m0
      have HR3 := Lib.hid m3
      generalize mkEnd k ((rls l).take j) = kj at *
      rw [m0] at m1
      obtain ⟨⟨nr, ac, cs⟩, xv⟩ := x
      have hxo := hown.2.1.1 ⟨⟨nr, ac, cs⟩, xv⟩ (by simp)
      have hxd := hown.2.2 ⟨⟨nr, ac, cs⟩, xv⟩ (by simp)
      obtain ⟨xa, xcap, exv⟩ := OwnL.slice hxo
      dsimp only at exv hxo hxd m0 m1
      subst exv
      have hlen : (P ++ ⟨⟨nr, ac, cs⟩, .slice xa cs.length xcap⟩ :: l.drop (j + 1)).length = l.length := by simp; omega
      have hrow := hown.1
      unfold OwnL at hrow
      rw [hlen] at hrow
      have hget : (P ++ ⟨⟨nr, ac, cs⟩, .slice xa cs.length xcap⟩ :: l.drop (j + 1))[j]? = some ⟨⟨nr, ac, cs⟩, .slice xa cs.length xcap⟩ := by rw [List.getElem?_append_right (by omega), hPl, Nat.sub_self]; rfl
      obtain ⟨d0, d1, d2, f0, f1, f2⟩ := rv_own_at hrow hget
      have hset := rv_set2 hrow hget kj (kj + 1) (markCqL (kj + 1 + 1) cs.length)
      rw [List.set_append_right _ _ (by omega), hPl, Nat.sub_self, List.set_cons_zero] at hset
      dsimp only at hset d0 d1 d2
      have hget2 : (P ++ (⟨⟨kj, kj + 1, markCqL (kj + 1 + 1) cs.length⟩, .slice xa cs.length xcap⟩ : Rv) :: l.drop (j + 1))[j]? = some ⟨⟨kj, kj + 1, markCqL (kj + 1 + 1) cs.length⟩, .slice xa cs.length xcap⟩ := by rw [List.getElem?_append_right (by omega), hPl, Nat.sub_self]; rfl
      obtain ⟨_, _, e2, _, _, _⟩ := rv_own_at hset hget2
      dsimp only at e2
      obtain ⟨W2, hW2⟩ : ∃ W2, W2 = (wr.setCell ⟨g, j * 3, none⟩ (.int .i64 kj)).setCell ⟨g, j * 3 + 1, none⟩ (.int .i64 (kj + 1)) := ⟨_, rfl⟩
      rw [← hW2] at hset
      have hsame : ∀ b, b ≠ g → W2.heap[b]? = wr.heap[b]? := fun b hb => by
        rw [hW2, Below.heap_setCell _ _ _ _ (by simpa using hb), Below.heap_setCell _ _ _ _ (by simpa using hb)]
      have hsz : wr.heap.size ≤ W2.heap.size := by rw [hW2]; simp [World.setCell]
      have hon2 : OnlyIn (RvBlk (.slice (some ⟨g, 0, none⟩) l.length cap) l) w W2 := by rw [hW2]; exact (honly.setCell (p := ⟨g, j * 3, none⟩) HS.out _).setCell (p := ⟨g, j * 3 + 1, none⟩) HS.out _
      have hxo2 : CqOwn base W2 (.slice xa cs.length xcap) cs := OwnL.keep hxo fun b hb => hsame b (by rintro rfl; exact hxd b hb rfl)
      have hcall := markCmpS_any base (.slice xa cs.length xcap) cs (kj + 1 + 1) W2 hxo2 (by omega) (by omega) (by omega)
      rw [hW2] at hcall
      have HC := Lib.hid hcall
      have hrel2 : ∀ w2 : World, CqOwn base w2 (.slice xa cs.length xcap) (markCqL (kj + 1 + 1) cs.length) → W2.grownBy w2 (Value.slice xa cs.length xcap).ownBlock → ∃ (j' : Nat) (P' : List Rv), j' ≤ l.length ∧ Value.int .i64 ((j : Int) + 1) = .int .i64 j' ∧ Value.int .i64 (kj + 1 + 1 + 6 * (cs.length : Int)) = .int .i64 (mkEnd k ((rls l).take j')) ∧ P'.length = j' ∧ rls P' = mkRs k ((rls l).take j') ∧ P'.map Rv.v = (l.take j').map Rv.v ∧
          OwnRv base w2 (.slice (some ⟨g, 0, none⟩) l.length cap) (P' ++ l.drop j') ∧ OnlyIn (RvBlk (.slice (some ⟨g, 0, none⟩) l.length cap) l) w w2 := fun w2 ho hgr => by
        refine ⟨j + 1, P ++ [⟨⟨kj, kj + 1, markCqL (kj + 1 + 1) cs.length⟩, .slice xa cs.length xcap⟩], by omega, by simp, congrArg _ HN.out.symm, by simp [hPl], ?_, ?_, ?_, ?_⟩
        · rw [HR3.out, ← hPr]
          simp [rls, mkR]
        · rw [htk]
          simp [hPv]
        · rw [List.append_assoc]
          refine OwnRv.turned hown ?_ ho (fun z hz b hb => ?_)
          · unfold OwnL
            rw [show (P ++ (⟨⟨kj, kj + 1, markCqL (kj + 1 + 1) cs.length⟩, .slice xa cs.length xcap⟩ : Rv) :: l.drop (j + 1)).length = l.length by simp; omega]
            have hO : OwnL 35 3 rvCells base W2 (.slice (some ⟨g, 0, none⟩) l.length cap) (P ++ (⟨⟨kj, kj + 1, markCqL (kj + 1 + 1) cs.length⟩, .slice xa cs.length xcap⟩ : Rv) :: l.drop (j + 1)) := by
              unfold OwnL
              rw [show (P ++ (⟨⟨kj, kj + 1, markCqL (kj + 1 + 1) cs.length⟩, .slice xa cs.length xcap⟩ : Rv) :: l.drop (j + 1)).length = l.length by simp; omega]
              exact hset
            have hO2 := hO.keep (w' := w2) fun b hb => hgr.block b (OwnL.lt hO b hb).2 (fun e => hxd b e.symm hb)
            unfold OwnL at hO2
            rw [show (P ++ (⟨⟨kj, kj + 1, markCqL (kj + 1 + 1) cs.length⟩, .slice xa cs.length xcap⟩ : Rv) :: l.drop (j + 1)).length = l.length by simp; omega] at hO2
            exact hO2
          · have hpw := hown.2.1.2
            rw [List.pairwise_append] at hpw
            have hzm : z ∈ P ++ ⟨⟨nr, ac, cs⟩, .slice xa cs.length xcap⟩ :: l.drop (j + 1) := by rcases hz with hz | hz <;> simp [hz]
            have hzd : Disj z.v (.slice xa cs.length xcap) := by
              rcases hz with hz | hz
              · exact hpw.2.2 z hz ⟨⟨nr, ac, cs⟩, .slice xa cs.length xcap⟩ (by simp)
              · exact Disj.symm ((List.pairwise_cons.1 hpw.2.1).1 z hz)
            have hlz := (OwnL.lt (hown.2.1.1 z hzm) b hb).2
            rw [hgr.block b (by omega) (fun e => hzd b hb e.symm)]
            exact hsame b (by rintro rfl; exact hown.2.2 z hzm b hb rfl)
        · exact hon2.grown hgr (fun b hb => .inr ⟨_, List.mem_map.2 ⟨_, hxl, rfl⟩, hb⟩)
      subst hW2
      have HREL := Lib.hid hrel2
      clear hrel2 hcall hxo2 hon2 hsame hsz hset hget2 hrow hget hown honly hxo hxd hPl hPr hPv hdr htk hrj hx hxl m0 m3 hlen HN HR3
      go_wp2_with fail
      refine HC.out.mono ?_
      rintro e w2 ⟨rfl, ho, hgr⟩
      have HT := Lib.hid (HREL.out w2 ho hgr)
      clear ho hgr
      go_wp2_with fail
      go_roundw
      case rel => exact HT.out
      case measure => simp [intOf]; omega
    · have hjl : j = l.length := by omega
      subst hjl
      have hll : (rls l).length = l.length := by simp [rls]
      rw [List.drop_length, List.append_nil] at hown
      rw [← hll, List.take_length] at hPr
      have HP := Lib.hid hPr
      have HO := Lib.hid hown
      have hr := Lib.hid (show mkEnd k ((rls l).take l.length) = mkEnd k (rls l) by rw [← hll, List.take_length])
      clear hown hPr hPv hPl hll
      generalize mkEnd k ((rls l).take l.length) = kj at *
      go_wp2_with fail
      go_ret
      exact ⟨P, ret_int hr.out, HP.out, HO.out, honly⟩

end Go.Proofs.Ytmnmaijifhojiaa

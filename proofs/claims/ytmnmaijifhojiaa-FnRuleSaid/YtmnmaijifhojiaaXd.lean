/- Texts of one proof, put together: Kd Ke Em Ea Jx En Jy Jz Ka Kb Kf. -/
import Derived.Test.YtmnmaijifhojiaaJv
import Derived.Test.YtmnmaijifhojiaaJq
import Derived.Test.YtmnmaijifhojiaaJw
import Derived.Test.YtmnmaijifhojiaaJm
import Derived.Test.YtmnmaijifhojiaaJp
import Derived.Test.YtmnmaijifhojiaaJr
import Derived.Lib.AppendZerosOnto
import Derived.Deep.RegionLaw

/- The laws' own marks on rows of rules: markRuleS, heldRuleS; what marking leaves. -/
set_option maxRecDepth 100000
set_option linter.unusedVariables false
set_option linter.unusedSimpArgs false
namespace Go.Proofs.Ytmnmaijifhojiaa
open Go.RowKit Go.ChangeShapes Go.WideShapes
attribute [local go_sem ↓] Go.wp_at_zero Go.wp_at_succ

/-- Where the numbering ends, and the rules numbered on. -/
def mkEnd : Int → List Rl → Int
  | k, [] => k
  | k, r :: t => mkEnd (k + 1 + 1 + 6 * (r.cs.length : Int)) t
def mkR (k : Int) (r : Rl) : Rl := ⟨k, k + 1, markCqL (k + 1 + 1) r.cs.length⟩
def mkRs : Int → List Rl → List Rl
  | _, [] => []
  | k, r :: t => mkR k r :: mkRs (k + 1 + 1 + 6 * (r.cs.length : Int)) t
theorem mkEnd_append : ∀ (a b : List Rl) (k : Int), mkEnd k (a ++ b) = mkEnd (mkEnd k a) b
  | [], _, _ => rfl
  | r :: t, b, k => mkEnd_append t b _
theorem mkRs_append : ∀ (a b : List Rl) (k : Int), mkRs k (a ++ b) = mkRs k a ++ mkRs (mkEnd k a) b
  | [], _, _ => rfl
  | r :: t, b, k => by
    show mkR k r :: mkRs _ (t ++ b) = mkR k r :: (mkRs _ t ++ mkRs _ b)
    rw [mkRs_append t b]
    rfl
theorem mkEnd_ge : ∀ (l : List Rl) (k : Int), k ≤ mkEnd k l
  | [], k => Int.le_refl _
  | r :: t, k => by
    have := mkEnd_ge t (k + 1 + 1 + 6 * (r.cs.length : Int))
    unfold mkEnd
    omega
theorem mkEnd_at {l : List Rl} {j : Nat} {r : Rl} (h : l[j]? = some r) (k : Int) : mkEnd k (l.take (j + 1)) = mkEnd k (l.take j) + 1 + 1 + 6 * (r.cs.length : Int) ∧ mkEnd k (l.take (j + 1)) ≤ mkEnd k l ∧ k ≤ mkEnd k (l.take j) ∧
    mkRs k (l.take (j + 1)) = mkRs k (l.take j) ++ [mkR (mkEnd k (l.take j)) r] := by
  have ht : l.take (j + 1) = l.take j ++ [r] := by rw [List.take_add_one, h]; rfl
  refine ⟨by rw [ht, mkEnd_append]; rfl, ?_, mkEnd_ge _ _, by rw [ht, mkRs_append]; rfl⟩
  have h2 := mkEnd_append (l.take (j + 1)) (l.drop (j + 1)) k
  rw [List.take_append_drop] at h2
  rw [h2]
  exact mkEnd_ge _ _
theorem mkRs_length : ∀ (l : List Rl) (k : Int), (mkRs k l).length = l.length
  | [], _ => rfl
  | r :: t, k => by show (mkRs _ t).length + 1 = t.length + 1; rw [mkRs_length t]
theorem mkRs_get {l : List Rl} {j : Nat} {r : Rl} (h : l[j]? = some r) (k : Int) : (mkRs k l)[j]? = some (mkR (mkEnd k (l.take j)) r) := by
  have h2 := mkRs_append (l.take (j + 1)) (l.drop (j + 1)) k
  rw [List.take_append_drop] at h2
  have hj : j < l.length := (List.getElem?_eq_some_iff.1 h).1
  have hl : (mkRs k (l.take j)).length = j := by rw [mkRs_length]; simp; omega
  rw [h2, (mkEnd_at h k).2.2.2, List.append_assoc, List.getElem?_append_right (by omega), hl]
  simp
theorem mkRs_wf {l : List Rl} {k : Int} (h0 : 0 ≤ k) (h1 : mkEnd k l ≤ 1000000000) : rlsWf (mkRs k l) := by
  intro r hr
  obtain ⟨j, hj⟩ := List.mem_iff_getElem?.1 hr
  have hlt : j < l.length := by have := (List.getElem?_eq_some_iff.1 hj).1; rwa [mkRs_length] at this
  have hg := mkRs_get (List.getElem?_eq_getElem hlt) k
  obtain ⟨m0, m1, m2, _⟩ := mkEnd_at (List.getElem?_eq_getElem hlt) k
  rw [hj] at hg
  obtain rfl := Option.some.inj hg
  refine ⟨?_, markCqL_wf (by omega) (by omega) (by omega)⟩
  simp only [Rl.wf, mkR, In64]
  omega

/-- Nothing is written but in the blocks of S. -/
structure OnlyIn (S : Nat → Prop) (w w' : World) : Prop where
  os : w'.os = w.os
  tape : w'.tape = w.tape
  output : w'.output = w.output
  size : w.heap.size ≤ w'.heap.size
  block : ∀ b, b < w.heap.size → ¬ S b → w'.heap[b]? = w.heap[b]?
theorem OnlyIn.refl (S : Nat → Prop) (w : World) : OnlyIn S w w := ⟨rfl, rfl, rfl, Nat.le_refl _, fun _ _ _ => rfl⟩
theorem OnlyIn.trans {S : Nat → Prop} {a b c : World} (h : OnlyIn S a b) (k : OnlyIn S b c) : OnlyIn S a c :=
  ⟨k.os.trans h.os, k.tape.trans h.tape, k.output.trans h.output, Nat.le_trans h.size k.size, fun x hx hs => (k.block x (Nat.lt_of_lt_of_le hx h.size) hs).trans (h.block x hx hs)⟩
theorem OnlyIn.grown {S : Nat → Prop} {a b c : World} {row : Option Nat} (h : OnlyIn S a b) (hg : b.grownBy c row) (hr : ∀ k, row = some k → S k) : OnlyIn S a c :=
  h.trans ⟨hg.os, hg.tape, hg.output, hg.size, fun x hx hs => hg.block x hx fun e => hs (hr x e.symm)⟩
theorem OnlyIn.setCell {S : Nat → Prop} {a b : World} (h : OnlyIn S a b) {p : Addr} (hp : S p.block) (u : Value) : OnlyIn S a (b.setCell p u) :=
  h.trans ⟨rfl, rfl, rfl, by simp [World.setCell], fun x hx hs => Below.heap_setCell _ _ _ _ (by rintro rfl; exact hs hp)⟩
theorem OnlyIn.below {S : Nat → Prop} {w w' : World} {B : Nat} (h : OnlyIn S w w') (hS : ∀ k, S k → B ≤ k) (hB : B ≤ w.heap.size) : Below B w w' :=
  ⟨h.os, h.tape, h.output, h.size, fun k hk => h.block k (by omega) fun hs => by have := hS k hs; omega⟩
theorem OnlyIn.alloc {S : Nat → Prop} {w w' : World} {o : Obj} (h : OnlyIn S (w.alloc o) w') : OnlyIn S w w' :=
  ⟨h.os, h.tape, h.output, Nat.le_trans (by simp) h.size, fun k hk hs => (h.block k (by simp; omega) hs).trans (Below.heap_alloc _ _ _ hk)⟩
/-- The blocks of a row of rules. -/
def RvBlk (v : Value) (l : List Rv) (b : Nat) : Prop := v.ownBlock = some b ∨ ∃ u ∈ l.map Rv.v, u.ownBlock = some b
theorem OwnRv.lt {base : Nat} {w : World} {v : Value} {l : List Rv} (h : OwnRv base w v l) : ∀ b, RvBlk v l b → base ≤ b ∧ b < w.heap.size := by
  intro b hb
  rcases hb with hb | ⟨u, hu, hb⟩
  · exact OwnL.lt h.1 b hb
  · obtain ⟨x, hx, rfl⟩ := List.mem_map.1 hu
    exact OwnL.lt (h.2.1.1 x hx) b hb
theorem OwnRv.only {base : Nat} {w w' : World} {v : Value} {l : List Rv} {S : Nat → Prop} (h : OwnRv base w v l) (ho : OnlyIn S w w') (hS : ∀ k, S k → k < base) : OwnRv base w' v l :=
  ⟨h.1.keep fun g hg => ho.block g (OwnL.lt h.1 g hg).2 (fun hs => by have := hS g hs; have := (OwnL.lt h.1 g hg).1; omega),
   h.2.1.keep fun x hx g hg => ho.block g (OwnL.lt (h.2.1.1 x hx) g hg).2 (fun hs => by have := hS g hs; have := (OwnL.lt (h.2.1.1 x hx) g hg).1; omega), h.2.2⟩
theorem rv_set2 {w : World} {base : Nat} {g n cap : Nat} {l : List Rv} (h : w.ownsRow base 35 3 (.slice (some ⟨g, 0, none⟩) n cap) n (l.flatMap rvCells)) {i : Nat} {x : Rv} (hx : l[i]? = some x) (nr ac : Int) (cs : List Cq) :
    ((w.setCell ⟨g, i * 3, none⟩ (.int .i64 nr)).setCell ⟨g, i * 3 + 1, none⟩ (.int .i64 ac)).ownsRow base 35 3 (.slice (some ⟨g, 0, none⟩) n cap) n ((l.set i ⟨⟨nr, ac, cs⟩, x.v⟩).flatMap rvCells) := by
  have hlt : i < l.length := (List.getElem?_eq_some_iff.1 hx).1
  have h2 := ownsRow_setRow [.int .i64 nr, .int .i64 ac] (i * 3) h
  have e : setFrom (l.flatMap rvCells) (i * 3) [.int .i64 nr, .int .i64 ac] = (l.set i ⟨⟨nr, ac, cs⟩, x.v⟩).flatMap rvCells := by
    rw [← flat_set rvS (by omega) (⟨⟨nr, ac, cs⟩, x.v⟩ : Rv) hlt]
    have hv := flat_at rvS hx (j := 2) (by omega)
    have hl := (List.getElem?_eq_some_iff.1 (hv.trans (show _ = some x.v from rfl))).1
    apply List.ext_getElem?
    intro p
    rw [setFrom_get _ _ _ _ (by show i * 3 + 2 ≤ _; omega), setFrom_get _ _ _ _ (by show i * 3 + 3 ≤ _; omega)]
    by_cases hp : p = i * 3 + 2
    · subst hp
      rw [if_neg (by simp), if_pos (by refine ⟨by omega, ?_⟩; show _ < i * 3 + 3; omega), hv]
      simp [rvCells]
    · by_cases h3 : i * 3 ≤ p ∧ p < i * 3 + 2
      · obtain ⟨q, rfl⟩ : ∃ q, p = i * 3 + q := ⟨p - i * 3, by omega⟩
        rw [if_pos (by simp; omega), if_pos (by refine ⟨by omega, ?_⟩; show _ < i * 3 + 3; omega)]
        have : q = 0 ∨ q = 1 := by omega
        rcases this with rfl | rfl <;> simp [rvCells]
      · rw [if_neg (by simp; omega), if_neg (by intro h4; have h5 : p < i * 3 + 3 := h4.2; omega)]
  rw [← e]
  exact h2
theorem OwnRv.turned {base : Nat} {w w2 : World} {v : Value} {P Q : List Rv} {x : Rv} {y : Rl} (h : OwnRv base w v (P ++ x :: Q)) (ho : OwnL 35 3 rvCells base w2 v (P ++ ⟨y, x.v⟩ :: Q)) (hx : CqOwn base w2 x.v y.cs)
    (hk : ∀ z, z ∈ P ∨ z ∈ Q → ∀ g, z.v.ownBlock = some g → w2.heap[g]? = w.heap[g]?) : OwnRv base w2 v (P ++ ⟨y, x.v⟩ :: Q) := by
  have hm : (P ++ ⟨y, x.v⟩ :: Q).map Rv.v = (P ++ x :: Q).map Rv.v := by simp
  have hmem : ∀ z, z ∈ P ∨ z ∈ Q → z ∈ P ++ x :: Q := fun z hz => by rcases hz with hz | hz <;> simp [hz]
  have hin : ∀ z ∈ P ++ ⟨y, x.v⟩ :: Q, z = ⟨y, x.v⟩ ∨ z ∈ P ∨ z ∈ Q := fun z hz => by
    rcases List.mem_append.1 hz with h1 | h1
    · exact .inr (.inl h1)
    · rcases List.mem_cons.1 h1 with h1 | h1
      · exact .inl h1
      · exact .inr (.inr h1)
  refine ⟨ho, ⟨fun z hz => ?_, ?_⟩, fun z hz => ?_⟩
  · rcases hin z hz with rfl | h1
    · exact hx
    · exact (h.2.1.1 z (hmem z h1)).keep (hk z h1)
  · have h1 : ((P ++ x :: Q).map Rv.v).Pairwise Disj := List.pairwise_map.2 h.2.1.2
    rw [← hm] at h1
    exact List.pairwise_map.1 h1
  · rcases hin z hz with rfl | h1
    · exact h.2.2 x (by simp)
    · exact h.2.2 z (hmem z h1)

set_option maxHeartbeats 3200000 in
theorem markRuleS_any (base : Nat) (v : Value) (l : List Rv) (k : Int) (w : World) (h : OwnRv base w v l) (hn : l.length ≤ 1048576) (hk0 : 0 ≤ k) (hk1 : mkEnd k (rls l) ≤ 1000000000) :
    Calls Try.prog 94 #[v, .int .i64 k] w fun e w' => ∃ l', e = .returned (.int .i64 (mkEnd k (rls l))) ∧ rls l' = mkRs k (rls l) ∧ OwnRv base w' v l' ∧ OnlyIn (RvBlk v l) w w' := by
  by_cases hl : l.length = 0
  · obtain rfl : l = [] := List.eq_nil_of_length_eq_zero hl
    obtain ⟨a, cap, rfl⟩ := OwnRv.slice h
    simp only [List.length_nil] at *
    have HH := Lib.hid h
    clear h hk1
    go_enter Try.func94, Try.ntmps94
    go_wp2
    refine wp_loop_rounds 1 ?_
    rw [rounds_succ]
    go_wp2
    go_ret
    exact ⟨[], rfl, rfl, HH.out, OnlyIn.refl _ _⟩
  obtain ⟨g, cap, rfl, hg, hgw, hlc⟩ := OwnL.more h.1 (by omega)
  have HH := Lib.hid h
  have hS : RvBlk (.slice (some ⟨g, 0, none⟩) l.length cap) l g := .inl rfl
  have HS := Lib.hid hS
  have HM := Lib.hid hk1
  clear h hl hS hk1
  go_enter Try.func94, Try.ntmps94
  go_wp2
  go_loopw [1, 5] (fun q i wr => ∃ j : Nat, ∃ P : List Rv, j ≤ l.length ∧ i = .int .i64 j ∧ q = .int .i64 (mkEnd k ((rls l).take j)) ∧ P.length = j ∧ rls P = mkRs k ((rls l).take j) ∧ P.map Rv.v = (l.take j).map Rv.v ∧
      OwnRv base wr (.slice (some ⟨g, 0, none⟩) l.length cap) (P ++ l.drop j) ∧ OnlyIn (RvBlk (.slice (some ⟨g, 0, none⟩) l.length cap) l) w wr)
    (fun _ i _ => l.length - (intOf i).toNat)
  case atStart => exact ⟨0, [], by omega, rfl, rfl, rfl, rfl, rfl, HH.out, OnlyIn.refl _ _⟩
  case round =>
    obtain ⟨j, P, hj, rfl, rfl, hPl, hPr, hPv, hown, honly⟩ := hrel
    by_cases hlt : j < l.length
    · obtain ⟨x, hx⟩ : ∃ x, l[j]? = some x := ⟨_, List.getElem?_eq_getElem hlt⟩
      have hdr : l.drop j = x :: l.drop (j + 1) := by
        rw [List.drop_eq_getElem_cons hlt]
        rw [List.getElem?_eq_getElem hlt] at hx
        rw [Option.some.inj hx]
      have htk : l.take (j + 1) = l.take j ++ [x] := by rw [List.take_add_one, hx]; rfl
      rw [hdr] at hown
      have hrj : (rls l)[j]? = some x.r := by simp [rls, hx]
      have hxl : x ∈ l := List.mem_of_getElem? hx
      obtain ⟨m0, m1, m2, m3⟩ := mkEnd_at hrj k
      have hmM := HM.out
      have HN := Lib.hid m0
      have HR3 := Lib.hid m3
      generalize mkEnd k ((rls l).take j) = kj at *
      rw [m0] at m1
      obtain ⟨⟨nr, ac, cs⟩, xv⟩ := x
      have hxo := hown.2.1.1 ⟨⟨nr, ac, cs⟩, xv⟩ (by simp)
      have hxd := hown.2.2 ⟨⟨nr, ac, cs⟩, xv⟩ (by simp)
      obtain ⟨xa, xcap, exv⟩ := OwnL.slice hxo
      dsimp only at exv hxo hxd m0 m1
      subst exv
      have hlen : (P ++ ⟨⟨nr, ac, cs⟩, .slice xa cs.length xcap⟩ :: l.drop (j + 1)).length = l.length := by simp; omega
      have hrow := hown.1
      unfold OwnL at hrow
      rw [hlen] at hrow
      have hget : (P ++ ⟨⟨nr, ac, cs⟩, .slice xa cs.length xcap⟩ :: l.drop (j + 1))[j]? = some ⟨⟨nr, ac, cs⟩, .slice xa cs.length xcap⟩ := by rw [List.getElem?_append_right (by omega), hPl, Nat.sub_self]; rfl
      obtain ⟨d0, d1, d2, f0, f1, f2⟩ := rv_own_at hrow hget
      have hset := rv_set2 hrow hget kj (kj + 1) (markCqL (kj + 1 + 1) cs.length)
      rw [List.set_append_right _ _ (by omega), hPl, Nat.sub_self, List.set_cons_zero] at hset
      dsimp only at hset d0 d1 d2
      have hget2 : (P ++ (⟨⟨kj, kj + 1, markCqL (kj + 1 + 1) cs.length⟩, .slice xa cs.length xcap⟩ : Rv) :: l.drop (j + 1))[j]? = some ⟨⟨kj, kj + 1, markCqL (kj + 1 + 1) cs.length⟩, .slice xa cs.length xcap⟩ := by rw [List.getElem?_append_right (by omega), hPl, Nat.sub_self]; rfl
      obtain ⟨_, _, e2, _, _, _⟩ := rv_own_at hset hget2
      dsimp only at e2
      obtain ⟨W2, hW2⟩ : ∃ W2, W2 = (wr.setCell ⟨g, j * 3, none⟩ (.int .i64 kj)).setCell ⟨g, j * 3 + 1, none⟩ (.int .i64 (kj + 1)) := ⟨_, rfl⟩
      rw [← hW2] at hset
      have hsame : ∀ b, b ≠ g → W2.heap[b]? = wr.heap[b]? := fun b hb => by
        rw [hW2, Below.heap_setCell _ _ _ _ (by simpa using hb), Below.heap_setCell _ _ _ _ (by simpa using hb)]
      have hsz : wr.heap.size ≤ W2.heap.size := by rw [hW2]; simp [World.setCell]
      have hon2 : OnlyIn (RvBlk (.slice (some ⟨g, 0, none⟩) l.length cap) l) w W2 := by rw [hW2]; exact (honly.setCell (p := ⟨g, j * 3, none⟩) HS.out _).setCell (p := ⟨g, j * 3 + 1, none⟩) HS.out _
      have hxo2 : CqOwn base W2 (.slice xa cs.length xcap) cs := OwnL.keep hxo fun b hb => hsame b (by rintro rfl; exact hxd b hb rfl)
      have hcall := markCmpS_any base (.slice xa cs.length xcap) cs (kj + 1 + 1) W2 hxo2 (by omega) (by omega) (by omega)
      rw [hW2] at hcall
      have HC := Lib.hid hcall
      have hrel2 : ∀ w2 : World, CqOwn base w2 (.slice xa cs.length xcap) (markCqL (kj + 1 + 1) cs.length) → W2.grownBy w2 (Value.slice xa cs.length xcap).ownBlock → ∃ (j' : Nat) (P' : List Rv), j' ≤ l.length ∧ Value.int .i64 ((j : Int) + 1) = .int .i64 j' ∧ Value.int .i64 (kj + 1 + 1 + 6 * (cs.length : Int)) = .int .i64 (mkEnd k ((rls l).take j')) ∧ P'.length = j' ∧ rls P' = mkRs k ((rls l).take j') ∧ P'.map Rv.v = (l.take j').map Rv.v ∧
          OwnRv base w2 (.slice (some ⟨g, 0, none⟩) l.length cap) (P' ++ l.drop j') ∧ OnlyIn (RvBlk (.slice (some ⟨g, 0, none⟩) l.length cap) l) w w2 := fun w2 ho hgr => by
        refine ⟨j + 1, P ++ [⟨⟨kj, kj + 1, markCqL (kj + 1 + 1) cs.length⟩, .slice xa cs.length xcap⟩], by omega, by simp, congrArg _ HN.out.symm, by simp [hPl], ?_, ?_, ?_, ?_⟩
        · rw [HR3.out, ← hPr]
          simp [rls, mkR]
        · rw [htk]
          simp [hPv]
        · rw [List.append_assoc]
          refine OwnRv.turned hown ?_ ho (fun z hz b hb => ?_)
          · unfold OwnL
            rw [show (P ++ (⟨⟨kj, kj + 1, markCqL (kj + 1 + 1) cs.length⟩, .slice xa cs.length xcap⟩ : Rv) :: l.drop (j + 1)).length = l.length by simp; omega]
            have hO : OwnL 35 3 rvCells base W2 (.slice (some ⟨g, 0, none⟩) l.length cap) (P ++ (⟨⟨kj, kj + 1, markCqL (kj + 1 + 1) cs.length⟩, .slice xa cs.length xcap⟩ : Rv) :: l.drop (j + 1)) := by
              unfold OwnL
              rw [show (P ++ (⟨⟨kj, kj + 1, markCqL (kj + 1 + 1) cs.length⟩, .slice xa cs.length xcap⟩ : Rv) :: l.drop (j + 1)).length = l.length by simp; omega]
              exact hset
            have hO2 := hO.keep (w' := w2) fun b hb => hgr.block b (OwnL.lt hO b hb).2 (fun e => hxd b e.symm hb)
            unfold OwnL at hO2
            rw [show (P ++ (⟨⟨kj, kj + 1, markCqL (kj + 1 + 1) cs.length⟩, .slice xa cs.length xcap⟩ : Rv) :: l.drop (j + 1)).length = l.length by simp; omega] at hO2
            exact hO2
          · have hpw := hown.2.1.2
            rw [List.pairwise_append] at hpw
            have hzm : z ∈ P ++ ⟨⟨nr, ac, cs⟩, .slice xa cs.length xcap⟩ :: l.drop (j + 1) := by rcases hz with hz | hz <;> simp [hz]
            have hzd : Disj z.v (.slice xa cs.length xcap) := by
              rcases hz with hz | hz
              · exact hpw.2.2 z hz ⟨⟨nr, ac, cs⟩, .slice xa cs.length xcap⟩ (by simp)
              · exact Disj.symm ((List.pairwise_cons.1 hpw.2.1).1 z hz)
            have hlz := (OwnL.lt (hown.2.1.1 z hzm) b hb).2
            rw [hgr.block b (by omega) (fun e => hzd b hb e.symm)]
            exact hsame b (by rintro rfl; exact hown.2.2 z hzm b hb rfl)
        · exact hon2.grown hgr (fun b hb => .inr ⟨_, List.mem_map.2 ⟨_, hxl, rfl⟩, hb⟩)
      subst hW2
      have HREL := Lib.hid hrel2
      clear hrel2 hcall hxo2 hon2 hsame hsz hset hget2 hrow hget hown honly hxo hxd hPl hPr hPv hdr htk hrj hx hxl m0 m3 hlen HN HR3
      go_wp2_with fail
      refine HC.out.mono ?_
      rintro e w2 ⟨rfl, ho, hgr⟩
      have HT := Lib.hid (HREL.out w2 ho hgr)
      clear ho hgr
      go_wp2_with fail
      go_roundw
      case rel => exact HT.out
      case measure => simp [intOf]; omega
    · have hjl : j = l.length := by omega
      subst hjl
      have hll : (rls l).length = l.length := by simp [rls]
      rw [List.drop_length, List.append_nil] at hown
      rw [← hll, List.take_length] at hPr
      have HP := Lib.hid hPr
      have HO := Lib.hid hown
      have hr := Lib.hid (show mkEnd k ((rls l).take l.length) = mkEnd k (rls l) by rw [← hll, List.take_length])
      clear hown hPr hPv hPl hll
      generalize mkEnd k ((rls l).take l.length) = kj at *
      go_wp2_with fail
      go_ret
      exact ⟨P, ret_int hr.out, HP.out, HO.out, honly⟩

end Go.Proofs.Ytmnmaijifhojiaa

/- The laws' own marks on rules, policies and policies out: held and marked. -/
set_option maxRecDepth 100000
set_option linter.unusedVariables false
set_option linter.unusedSimpArgs false
namespace Go.Proofs.Ytmnmaijifhojiaa
open Go.RowKit Go.ChangeShapes Go.WideShapes
attribute [local go_sem ↓] Go.wp_at_zero Go.wp_at_succ

set_option maxHeartbeats 1600000 in
theorem heldRuleS_any (v : Value) (l : List Rv) (rs : List Rl) (k : Int) (w : World) (h : RvAt w w.heap.size v l) (hr : rls l = mkRs k rs) (hk0 : 0 ≤ k) (hk1 : mkEnd k rs ≤ 1000000000) :
    Calls Try.prog 112 #[v, .int .i64 k] w fun e w' => e = .returned (.int .i64 (mkEnd k rs)) ∧ w = w' := by
  obtain ⟨a, cap, rfl, hlc, hcm⟩ := h.len
  unfold maxLen at hcm
  have hll : l.length = rs.length := by have := congrArg List.length hr; rw [mkRs_length] at this; simpa [rls] using this
  have HH := Lib.hid h
  have HR := Lib.hid hr
  have HM := Lib.hid hk1
  have HL := Lib.hid hll
  clear h hr hk1 hll
  go_enter Try.func112, Try.ntmps112
  go_wp2
  go_loop [1, 5] (fun q i => ∃ j : Nat, j ≤ l.length ∧ i = .int .i64 j ∧ q = .int .i64 (mkEnd k (rs.take j))) (fun _ i => l.length - (intOf i).toNat)
  case atStart => exact ⟨0, by omega, rfl, rfl⟩
  case round =>
    obtain ⟨j, hj, rfl, rfl⟩ := hrel
    by_cases hlt : j < l.length
    · obtain ⟨x, hx⟩ : ∃ x, l[j]? = some x := ⟨_, List.getElem?_eq_getElem hlt⟩
      have hlt2 : j < rs.length := by have := HL.out; omega
      obtain ⟨r, hrr⟩ : ∃ r, rs[j]? = some r := ⟨_, List.getElem?_eq_getElem hlt2⟩
      have hxr : x.r = mkR (mkEnd k (rs.take j)) r := by
        have h1 : (rls l)[j]? = some x.r := by simp [rls, hx]
        rw [HR.out, mkRs_get hrr k] at h1
        exact (Option.some.inj h1).symm
      obtain ⟨m0, m1, m2, m3⟩ := mkEnd_at hrr k
      have hmM := HM.out
      have HN := Lib.hid m0
      obtain ⟨b, o, e, hb, c0, c1, c2, hwf, hcq⟩ := RvAt.place HH.out hx
      subst e
      rw [hxr] at c0 c1 hcq
      generalize mkEnd k (rs.take j) = kj at *
      rw [m0] at m1
      obtain ⟨xr, xv⟩ := x
      obtain ⟨xa, xcap, exv, _, _⟩ := hcq.len
      dsimp only [mkR] at c0 c1 c2 hcq exv
      rw [markCqL_length] at exv
      subst exv
      have hcall := heldCmpS_any _ r.cs.length (kj + 1 + 1) w hcq (by omega) (by omega) (by omega)
      have HC := Lib.hid hcall
      have q0 : (kj != kj) = false := by simp
      have q1 : ((kj + 1) != (kj + 1)) = false := by simp
      have q2 : decide (kj + 1 + 1 + 6 * (r.cs.length : Int) < 0) = false := by simp; omega
      clear hcall hcq m0 m3 hxr hx hrr hwf hlt2
      go_wp2_with fail
      refine HC.out.mono ?_
      rintro e w2 ⟨rfl, rfl⟩
      go_wp2_with fail
      go_round
      case rel => exact ⟨j + 1, by omega, by go_num, congrArg _ HN.out.symm⟩
      case measure => simp [intOf]; omega
    · have hjl : j = rs.length := by have := HL.out; omega
      have hr := Lib.hid (show mkEnd k (rs.take j) = mkEnd k rs by rw [hjl, List.take_length])
      clear hjl
      generalize mkEnd k (rs.take j) = kj at *
      go_wp2_with fail
      go_ret
      exact ⟨ret_int hr.out, rfl⟩

theorem markPolicy_any (base : Nat) (ar df bd : Int) (v : Value) (l : List Rv) (k : Int) (w : World) (h : OwnRv base w v l) (hn : l.length ≤ 1048576) (hk0 : 0 ≤ k) (hk1 : mkEnd k (rls l) ≤ 1000000000) :
    Calls Try.prog 53 #[polV ar df bd v, .int .i64 k] w fun e w' => ∃ l', e = .returned (.int .i64 (mkEnd k (rls l))) ∧ rls l' = mkRs k (rls l) ∧ OwnRv base w' v l' ∧ OnlyIn (RvBlk v l) w w' := by
  obtain ⟨a, cap, rfl⟩ := h.slice
  have Q := Lib.hid fun o => markRuleS_any base _ l k (w.alloc o) (h.below ((Below.refl _ _).alloc (Nat.le_refl _) o)) hn hk0 hk1
  clear h
  go_enter Try.func53, Try.ntmps53
  go_wp2_with fail
  refine (Q.out _).mono ?_
  rintro e w1 ⟨l', rfl, hr, ho1, hg1⟩
  have HR := Lib.hid hr
  have HO := Lib.hid ho1
  have HG := Lib.hid hg1.alloc
  clear ho1 hg1 hr
  go_wp2_with fail
  go_ret
  exact ⟨l', rfl, HR.out, HO.out, HG.out⟩
theorem heldPolicy_any (ar df bd : Int) (v : Value) (l : List Rv) (rs : List Rl) (k : Int) (w : World) (h : RvAt w w.heap.size v l) (hr : rls l = mkRs k rs) (hk0 : 0 ≤ k) (hk1 : mkEnd k rs ≤ 1000000000) :
    Calls Try.prog 96 #[polV ar df bd v, .int .i64 k] w fun e w' => e = .returned (.int .i64 (mkEnd k rs)) ∧ Below w.heap.size w w' := by
  obtain ⟨a, cap, rfl, _, _⟩ := h.len
  have hb0 : ∀ o, Below w.heap.size w (w.alloc o) := fun o => (Below.refl _ _).alloc (Nat.le_refl _) _
  have Q := Lib.hid fun o => heldRuleS_any _ l rs k (w.alloc o) ((h.below (hb0 o)).up (hb0 o).size) hr hk0 hk1
  have HB := Lib.hid hb0
  have hge := mkEnd_ge rs k
  generalize mkEnd k rs = m at *
  have q2 : decide (m < 0) = false := by simp; omega
  clear h hb0 hr
  go_enter Try.func96, Try.ntmps96
  go_wp2_with fail
  refine (Q.out _).mono ?_
  rintro e w1 ⟨rfl, rfl⟩
  go_wp2_with fail
  go_ret
  exact ⟨rfl, HB.out _⟩
theorem markRule_any (base : Nat) (nr ac : Int) (v : Value) (l : List Cq) (k : Int) (w : World) (h : CqOwn base w v l) (hn : l.length ≤ 1000000000) (hk0 : 0 ≤ k) (hk1 : k ≤ 1000000000) :
    Calls Try.prog 54 #[.agg #[.int .i64 nr, .int .i64 ac, v], .int .i64 k] w fun e w' => e = .returned (.int .i64 (k + 6 * l.length)) ∧ CqOwn base w' v (markCqL k l.length) ∧ w.grownBy w' v.ownBlock := by
  obtain ⟨a, cap, rfl⟩ := OwnL.slice h
  have Q := Lib.hid fun o => markCmpS_any base _ l k (w.alloc o) (OwnL.alloc h o) hn hk0 hk1
  clear h
  go_enter Try.func54, Try.ntmps54
  go_wp2_with fail
  refine (Q.out _).mono ?_
  rintro e w1 ⟨rfl, ho1, hg1⟩
  have HO := Lib.hid ho1
  have HG := Lib.hid (grown_alloc hg1)
  clear ho1 hg1
  go_wp2_with fail
  go_ret
  exact ⟨rfl, HO.out, HG.out⟩
/-- A policy out. -/
abbrev outV (ar df bd : Int) (v : Value) (c : Int) : Value := .agg #[.int .i64 ar, .int .i64 df, .int .i64 bd, v, .int .i64 c]
theorem markPolicyOut_any (base : Nat) (ar df bd c : Int) (v : Value) (l : List Rv) (k : Int) (w : World) (h : OwnRv base w v l) (hn : l.length ≤ 1048576) (hk0 : 0 ≤ k) (hk1 : mkEnd k (rls l) ≤ 1000000000) :
    Calls Try.prog 55 #[outV ar df bd v c, .int .i64 k] w fun e w' => ∃ l', e = .returned (.int .i64 (mkEnd k (rls l))) ∧ rls l' = mkRs k (rls l) ∧ OwnRv base w' v l' ∧ OnlyIn (RvBlk v l) w w' := by
  obtain ⟨a, cap, rfl⟩ := h.slice
  have Q := Lib.hid fun o => markPolicy_any base ar df bd _ l k (w.alloc o) (h.below ((Below.refl _ _).alloc (Nat.le_refl _) o)) hn hk0 hk1
  clear h
  go_enter Try.func55, Try.ntmps55
  go_wp2_with fail
  refine (Q.out _).mono ?_
  rintro e w1 ⟨l', rfl, hr, ho1, hg1⟩
  have HR := Lib.hid hr
  have HO := Lib.hid ho1
  have HG := Lib.hid hg1.alloc
  clear ho1 hg1 hr
  go_wp2_with fail
  go_ret
  exact ⟨l', rfl, HR.out, HO.out, HG.out⟩
theorem heldPolicyOut_any (ar df bd c : Int) (v : Value) (l : List Rv) (rs : List Rl) (k : Int) (w : World) (h : RvAt w w.heap.size v l) (hr : rls l = mkRs k rs) (hk0 : 0 ≤ k) (hk1 : mkEnd k rs ≤ 1000000000) :
    Calls Try.prog 56 #[outV ar df bd v c, .int .i64 k] w fun e w' => e = .returned (.int .i64 (mkEnd k rs)) ∧ Below w.heap.size w w' := by
  obtain ⟨a, cap, rfl, _, _⟩ := h.len
  have hb0 : ∀ o, Below w.heap.size w (w.alloc o) := fun o => (Below.refl _ _).alloc (Nat.le_refl _) _
  have Q := Lib.hid fun o => heldPolicy_any ar df bd _ l rs k (w.alloc o) ((h.below (hb0 o)).up (hb0 o).size) hr hk0 hk1
  have HB := Lib.hid hb0
  have hge := mkEnd_ge rs k
  generalize mkEnd k rs = m at *
  have q2 : decide (m < 0) = false := by simp; omega
  clear h hb0 hr
  go_enter Try.func56, Try.ntmps56
  go_wp2_with fail
  refine (Q.out _).mono ?_
  rintro e w1 ⟨rfl, hb1⟩
  have HB1 := Lib.hid ((HB.out _).trans (hb1.mono (HB.out _).size))
  clear hb1
  go_wp2_with fail
  go_ret
  exact ⟨rfl, HB1.out⟩
theorem eqPolicyOut_same (ar df bd c : Int) (l l' : List Rv) (v1 v2 : Value) (w : World) (h1 : RvAt w w.heap.size v1 l) (h2 : RvAt w w.heap.size v2 l') (he : rls l = rls l') :
    Calls Try.prog 52 #[outV ar df bd v1 c, outV ar df bd v2 c] w fun e w' => e = .returned (.bool true) ∧ Below w.heap.size w w' := by
  obtain ⟨a1, cap1, rfl, hc1, hm1⟩ := h1.len
  obtain ⟨a2, cap2, rfl, hc2, hm2⟩ := h2.len
  have HB0 := Lib.hid (show ∀ o o' : Obj, Below w.heap.size w ((w.alloc o).alloc o') from fun o o' => ((Below.refl _ _).alloc (Nat.le_refl _) _).alloc (by simp) _)
  have q2 := fun W (h : Below w.heap.size w W) => eqPolicy_any ar df bd ar df bd l l' _ _ W (RvAt.up (RvAt.below h1 h) h.size) (RvAt.up (RvAt.below h2 h) h.size)
  rw [he] at q2
  simp only [decide_true] at q2
  have Q2 := Lib.hid q2
  have n0 : (c != c) = false := by simp
  clear q2 h1 h2 he
  go_enter Try.func52, Try.ntmps52
  go_wp2_with fail
  refine (Q2.out _ (HB0.out _ _)).mono ?_
  rintro e w1 ⟨rfl, hb1⟩
  obtain ⟨r0, r1, hB, _⟩ := rows2 hb1
  have c0 := row_cell r0 4
  have c1 := row_cell r1 4
  simp only [List.getElem?_toArray] at c0 c1
  have HB := Lib.hid ((HB0.out _ _).trans (hb1.mono (HB0.out _ _).size))
  clear hb1 r0 r1 hB
  go_wp2_with fail
  go_ret
  exact ⟨rfl, HB.out⟩

end Go.Proofs.Ytmnmaijifhojiaa

/- What the laws themselves compare: rules, policies. -/
set_option maxRecDepth 100000
set_option linter.unusedSimpArgs false
set_option linter.unusedVariables false
namespace Go.Proofs.Ytmnmaijifhojiaa
open Go.RowKit
attribute [local go_sem ↓] Go.wp_at_zero Go.wp_at_succ

set_option maxHeartbeats 6400000 in
theorem lwRule_any (nr ac nr' ac' : Int) (cs ds : List Cq) (v u : Value) (w : World) (hv : CqAt w w.heap.size v cs) (hu : CqAt w w.heap.size u ds) :
    Calls Try.prog 106 #[.agg #[.int .i64 nr, .int .i64 ac, v], .agg #[.int .i64 nr', .int .i64 ac', u]] w fun e w' =>
      e = .returned (.bool (decide ((⟨nr, ac, cs⟩ : Rl) = ⟨nr', ac', ds⟩))) ∧ Below w.heap.size w w' := by
  obtain ⟨a, cap, rfl, hlc, hcm⟩ := hv.len
  obtain ⟨a', cap', rfl, hlc', hcm'⟩ := hu.len
  unfold maxLen at hcm hcm'
  by_cases e0 : nr = nr'
  · by_cases e1 : ac = ac'
    · by_cases hl : cs.length = ds.length
      · have HR := Lib.hid (show decide ((⟨nr, ac, cs⟩ : Rl) = ⟨nr', ac', ds⟩) = decide (cs = ds) by
          subst e0 e1
          rw [Bool.eq_iff_iff]
          simp)
        have n0 := nn_int e0
        have n1 := nn_int e1
        have n2 : ((cs.length : Int) != (ds.length : Int)) = false := by rw [hl]; simp
        have HL := Lib.hid hl
        have HV := Lib.hid hv
        have HU := Lib.hid hu
        subst e0 e1
        clear hv hu hl
        go_enter Try.func106, Try.ntmps106
        go_wp2_with fail
        go_loopw [5] (fun i wr => ∃ k : Nat, k ≤ cs.length ∧ i = .int .i64 k ∧ cs.take k = ds.take k ∧ Below ((w.alloc (.cells #[.int .i64 nr, .int .i64 ac, .slice a cs.length cap] 35)).alloc (.cells #[.int .i64 nr, .int .i64 ac, .slice a' ds.length cap'] 35)).heap.size ((w.alloc (.cells #[.int .i64 nr, .int .i64 ac, .slice a cs.length cap] 35)).alloc (.cells #[.int .i64 nr, .int .i64 ac, .slice a' ds.length cap'] 35)) wr) (fun i _ => cs.length - (intOf i).toNat)
        case atStart => exact ⟨0, by omega, rfl, by simp, Below.refl _ _⟩
        case round =>
          obtain ⟨k, hk, rfl, hall, hbw⟩ := hrel
          have c2 := (box2 hbw).1 2
          simp only [List.getElem?_toArray, List.getElem?_cons_zero, List.getElem?_cons_succ] at c2
          have HA := Lib.hid hall
          have HX := Lib.hid (box2 hbw).2.2
          clear hall
          by_cases hlt : k < cs.length
          · have hlt2 : k < ds.length := by have := HL.out; omega
            obtain ⟨b, o, e, hb, d0, d1, d2, d3, d4, d5, hwf⟩ := CqAt.place HV.out (List.getElem?_eq_getElem hlt)
            obtain ⟨b', o', e', hb', y0, y1, y2, y3, y4, y5, hwf'⟩ := CqAt.place HU.out (List.getElem?_eq_getElem hlt2)
            subst e e'
            have hxe : cs[k] = cs[k] := rfl
            have hye : ds[k] = ds[k] := rfl
            have HT := Lib.hid (fun h : cs[k] = ds[k] => take_ext HA.out hlt hlt2 h)
            have HF := Lib.hid (fun h : ¬ cs[k] = ds[k] => (show decide (cs = ds) = false by simp; intro e; apply h; simp [e]))
            generalize cs[k] = x at d0 d1 d2 d3 d4 d5 HT HF
            generalize ds[k] = y at y0 y1 y2 y3 y4 y5 HT HF
            obtain ⟨xa, xo, xmh, xml, xvh, xvl⟩ := x
            obtain ⟨ya, yo, ymh, yml, yvh, yvl⟩ := y
            simp only at d0 d1 d2 d3 d4 d5 y0 y1 y2 y3 y4 y5
            have hkeep : ∀ W : World, Below ((w.alloc (.cells #[.int .i64 nr, .int .i64 ac, .slice (some ⟨b, o, none⟩) cs.length cap] 35)).alloc (.cells #[.int .i64 nr, .int .i64 ac, .slice (some ⟨b', o', none⟩) ds.length cap'] 35)).heap.size ((w.alloc (.cells #[.int .i64 nr, .int .i64 ac, .slice (some ⟨b, o, none⟩) cs.length cap] 35)).alloc (.cells #[.int .i64 nr, .int .i64 ac, .slice (some ⟨b', o', none⟩) ds.length cap'] 35)) W → (W.cell? ⟨w.heap.size, 2, none⟩ = some (.slice (some ⟨b, o, none⟩) cs.length cap) ∧ W.cell? ⟨w.heap.size + 1, 2, none⟩ = some (.slice (some ⟨b', o', none⟩) ds.length cap') ∧ W.cell? ⟨b, o + k * 6, none⟩ = some (.int .i64 xa) ∧ W.cell? ⟨b, o + k * 6 + 1, none⟩ = some (.int .i64 xo) ∧ W.cell? ⟨b, o + k * 6 + 2, none⟩ = some (.int .i64 xmh) ∧ W.cell? ⟨b, o + k * 6 + 3, none⟩ = some (.int .i64 xml) ∧ W.cell? ⟨b, o + k * 6 + 4, none⟩ = some (.int .i64 xvh) ∧ W.cell? ⟨b, o + k * 6 + 5, none⟩ = some (.int .i64 xvl) ∧ W.cell? ⟨b', o' + k * 6, none⟩ = some (.int .i64 ya) ∧ W.cell? ⟨b', o' + k * 6 + 1, none⟩ = some (.int .i64 yo) ∧ W.cell? ⟨b', o' + k * 6 + 2, none⟩ = some (.int .i64 ymh) ∧ W.cell? ⟨b', o' + k * 6 + 3, none⟩ = some (.int .i64 yml) ∧ W.cell? ⟨b', o' + k * 6 + 4, none⟩ = some (.int .i64 yvh) ∧ W.cell? ⟨b', o' + k * 6 + 5, none⟩ = some (.int .i64 yvl)) := fun W hb2 => by
              have hbx := (box2 hb2).2.2
              exact ⟨(box2 hb2).1 2, (box2 hb2).2.1 2, (World.cell?_of_block (hbx.block b hb)).trans d0, (World.cell?_of_block (hbx.block b hb)).trans d1, (World.cell?_of_block (hbx.block b hb)).trans d2, (World.cell?_of_block (hbx.block b hb)).trans d3, (World.cell?_of_block (hbx.block b hb)).trans d4, (World.cell?_of_block (hbx.block b hb)).trans d5, (World.cell?_of_block (hbx.block b' hb')).trans y0, (World.cell?_of_block (hbx.block b' hb')).trans y1, (World.cell?_of_block (hbx.block b' hb')).trans y2, (World.cell?_of_block (hbx.block b' hb')).trans y3, (World.cell?_of_block (hbx.block b' hb')).trans y4, (World.cell?_of_block (hbx.block b' hb')).trans y5⟩
            have HK := Lib.hid hkeep
            have hbw0 := hbw.drew
            have heq := fun W => eqCmpIn xa xo xmh xml xvh xvl ya yo ymh yml yvh yvl W
            have hk2 : (k : Int) < (ds.length : Int) := by omega
            clear hkeep d0 d1 d2 d3 d4 d5 y0 y1 y2 y3 y4 y5 hwf hwf' c2 hxe hye
            obtain ⟨c2, c4, d0, d1, d2, d3, d4, d5, y0, y1, y2, y3, y4, y5⟩ := HK.out _ hbw
            have HB := Lib.hid hbw
            clear hbw
            by_cases hxy : (⟨xa, xo, xmh, xml, xvh, xvl⟩ : Cq) = ⟨ya, yo, ymh, yml, yvh, yvl⟩
            · rw [decide_eq_true hxy] at heq
              have HN := Lib.hid (HT.out hxy)
              clear hxy HT HF
              go_wp2_with fail
              refine wp_region_noPanic ?_
              refine wp_region_held_drew (S := fun w' => w'.cell? ⟨w.heap.size, 2, none⟩ = some (.slice (some ⟨b, o, none⟩) cs.length cap) ∧ w'.cell? ⟨w.heap.size + 1, 2, none⟩ = some (.slice (some ⟨b', o', none⟩) ds.length cap') ∧ w'.cell? ⟨b, o + k * 6, none⟩ = some (.int .i64 xa) ∧ w'.cell? ⟨b, o + k * 6 + 1, none⟩ = some (.int .i64 xo) ∧ w'.cell? ⟨b, o + k * 6 + 2, none⟩ = some (.int .i64 xmh) ∧ w'.cell? ⟨b, o + k * 6 + 3, none⟩ = some (.int .i64 xml) ∧ w'.cell? ⟨b, o + k * 6 + 4, none⟩ = some (.int .i64 xvh) ∧ w'.cell? ⟨b, o + k * 6 + 5, none⟩ = some (.int .i64 xvl) ∧ w'.cell? ⟨b', o' + k * 6, none⟩ = some (.int .i64 ya) ∧ w'.cell? ⟨b', o' + k * 6 + 1, none⟩ = some (.int .i64 yo) ∧ w'.cell? ⟨b', o' + k * 6 + 2, none⟩ = some (.int .i64 ymh) ∧ w'.cell? ⟨b', o' + k * 6 + 3, none⟩ = some (.int .i64 yml) ∧ w'.cell? ⟨b', o' + k * 6 + 4, none⟩ = some (.int .i64 yvh) ∧ w'.cell? ⟨b', o' + k * 6 + 5, none⟩ = some (.int .i64 yvl)) (by kernel_rfl) ?_ (fun hHeld => ?_)
              · exact HK.out _ hbw0
              refine wpAnyH_take (i := 0) (v := ?qv101) rfl (by kernel_rfl) (by kernel_rfl) (by kernel_rfl) (fun _ _ _ h => h) (Or.inl ⟨by rfl, ?qhy101⟩) (by assumption) ?qrest101
              case qhy101 =>
                intro W hSw
                try dsimp only at hSw
                go_simp
                try with_reducible rfl
              try simp only [Act.put, List.getElem_toArray, List.getElem_cons_zero, List.getElem_cons_succ, List.setIfInBounds_toArray, List.set_cons_zero, List.set_cons_succ]
              refine wpAnyH_take (i := 1) (v := ?qv102) rfl (by kernel_rfl) (by kernel_rfl) (by kernel_rfl) (fun _ _ _ h => h) (Or.inl ⟨by rfl, ?qhy102⟩) (by assumption) ?qrest102
              case qhy102 =>
                intro W hSw
                try dsimp only at hSw
                go_simp
                try with_reducible rfl
              try simp only [Act.put, List.getElem_toArray, List.getElem_cons_zero, List.getElem_cons_succ, List.setIfInBounds_toArray, List.set_cons_zero, List.set_cons_succ]
              refine wpAnyH_take (i := 2) (v := ?qv103) rfl (by kernel_rfl) (by kernel_rfl) (by kernel_rfl) (fun _ _ _ h => h) (Or.inl ⟨by rfl, ?qhy103⟩) (by assumption) ?qrest103
              case qhy103 =>
                intro W hSw
                try dsimp only at hSw
                go_simp
                try with_reducible rfl
              try simp only [Act.put, List.getElem_toArray, List.getElem_cons_zero, List.getElem_cons_succ, List.setIfInBounds_toArray, List.set_cons_zero, List.set_cons_succ]
              refine wpAnyH_take (i := 3) (v := ?qv104) rfl (by kernel_rfl) (by kernel_rfl) (by kernel_rfl) (fun _ _ _ h => h) (Or.inl ⟨by rfl, ?qhy104⟩) (by assumption) ?qrest104
              case qhy104 =>
                intro W hSw
                try dsimp only at hSw
                go_simp
                try with_reducible rfl
              try simp only [Act.put, List.getElem_toArray, List.getElem_cons_zero, List.getElem_cons_succ, List.setIfInBounds_toArray, List.set_cons_zero, List.set_cons_succ]
              refine wpAnyH_take (i := 4) (v := ?qv105) rfl (by kernel_rfl) (by kernel_rfl) (by kernel_rfl) (fun _ _ _ h => h) (Or.inl ⟨by rfl, ?qhy105⟩) (by assumption) ?qrest105
              case qhy105 =>
                intro W hSw
                try dsimp only at hSw
                go_simp
                try with_reducible rfl
              try simp only [Act.put, List.getElem_toArray, List.getElem_cons_zero, List.getElem_cons_succ, List.setIfInBounds_toArray, List.set_cons_zero, List.set_cons_succ]
              refine wpAnyH_take (i := 5) (v := ?qv106) rfl (by kernel_rfl) (by kernel_rfl) (by kernel_rfl) (fun _ _ _ h => h) (Or.inl ⟨by rfl, ?qhy106⟩) (by assumption) ?qrest106
              case qhy106 =>
                intro W hSw
                try dsimp only at hSw
                go_simp
                try with_reducible rfl
              try simp only [Act.put, List.getElem_toArray, List.getElem_cons_zero, List.getElem_cons_succ, List.setIfInBounds_toArray, List.set_cons_zero, List.set_cons_succ]
              refine wpAnyH_take (i := 6) (v := ?qv107) rfl (by kernel_rfl) (by kernel_rfl) (by kernel_rfl) (fun _ _ _ h => h) (Or.inl ⟨by rfl, ?qhy107⟩) (by assumption) ?qrest107
              case qhy107 =>
                intro W hSw
                try dsimp only at hSw
                go_simp
                try with_reducible rfl
              try simp only [Act.put, List.getElem_toArray, List.getElem_cons_zero, List.getElem_cons_succ, List.setIfInBounds_toArray, List.set_cons_zero, List.set_cons_succ]
              refine wpAnyH_take (i := 7) (v := ?qv108) rfl (by kernel_rfl) (by kernel_rfl) (by kernel_rfl) (fun _ _ _ h => h) (Or.inl ⟨by rfl, ?qhy108⟩) (by assumption) ?qrest108
              case qhy108 =>
                intro W hSw
                try dsimp only at hSw
                go_simp
                try with_reducible rfl
              try simp only [Act.put, List.getElem_toArray, List.getElem_cons_zero, List.getElem_cons_succ, List.setIfInBounds_toArray, List.set_cons_zero, List.set_cons_succ]
              refine wpAnyH_take (i := 8) (v := ?qv109) rfl (by kernel_rfl) (by kernel_rfl) (by kernel_rfl) (fun _ _ _ h => h) (Or.inl ⟨by rfl, ?qhy109⟩) (by assumption) ?qrest109
              case qhy109 =>
                intro W hSw
                try dsimp only at hSw
                go_simp
                try with_reducible rfl
              try simp only [Act.put, List.getElem_toArray, List.getElem_cons_zero, List.getElem_cons_succ, List.setIfInBounds_toArray, List.set_cons_zero, List.set_cons_succ]
              refine wpAnyH_take (i := 9) (v := ?qv110) rfl (by kernel_rfl) (by kernel_rfl) (by kernel_rfl) (fun _ _ _ h => h) (Or.inl ⟨by rfl, ?qhy110⟩) (by assumption) ?qrest110
              case qhy110 =>
                intro W hSw
                try dsimp only at hSw
                go_simp
                try with_reducible rfl
              try simp only [Act.put, List.getElem_toArray, List.getElem_cons_zero, List.getElem_cons_succ, List.setIfInBounds_toArray, List.set_cons_zero, List.set_cons_succ]
              refine wpAnyH_take (i := 10) (v := ?qv111) rfl (by kernel_rfl) (by kernel_rfl) (by kernel_rfl) (fun _ _ _ h => h) (Or.inl ⟨by rfl, ?qhy111⟩) (by assumption) ?qrest111
              case qhy111 =>
                intro W hSw
                try dsimp only at hSw
                go_simp
                try with_reducible rfl
              try simp only [Act.put, List.getElem_toArray, List.getElem_cons_zero, List.getElem_cons_succ, List.setIfInBounds_toArray, List.set_cons_zero, List.set_cons_succ]
              refine wpAnyH_done (by kernel_rfl) ?_ _
              refine NoPanic.normal ?_
              clear hbw0
              go_wp2_with fail
              go_roundw
              case rel => exact ⟨k + 1, by omega, by go_num, HN.out, HB.out.drew⟩
              case measure => simp [intOf]; omega
            · rw [decide_eq_false hxy] at heq
              have HN := Lib.hid (HR.out.trans (HF.out hxy))
              clear hxy HT HF
              go_wp2_with fail
              refine wp_region_noPanic ?_
              refine wp_region_held_drew (S := fun w' => w'.cell? ⟨w.heap.size, 2, none⟩ = some (.slice (some ⟨b, o, none⟩) cs.length cap) ∧ w'.cell? ⟨w.heap.size + 1, 2, none⟩ = some (.slice (some ⟨b', o', none⟩) ds.length cap') ∧ w'.cell? ⟨b, o + k * 6, none⟩ = some (.int .i64 xa) ∧ w'.cell? ⟨b, o + k * 6 + 1, none⟩ = some (.int .i64 xo) ∧ w'.cell? ⟨b, o + k * 6 + 2, none⟩ = some (.int .i64 xmh) ∧ w'.cell? ⟨b, o + k * 6 + 3, none⟩ = some (.int .i64 xml) ∧ w'.cell? ⟨b, o + k * 6 + 4, none⟩ = some (.int .i64 xvh) ∧ w'.cell? ⟨b, o + k * 6 + 5, none⟩ = some (.int .i64 xvl) ∧ w'.cell? ⟨b', o' + k * 6, none⟩ = some (.int .i64 ya) ∧ w'.cell? ⟨b', o' + k * 6 + 1, none⟩ = some (.int .i64 yo) ∧ w'.cell? ⟨b', o' + k * 6 + 2, none⟩ = some (.int .i64 ymh) ∧ w'.cell? ⟨b', o' + k * 6 + 3, none⟩ = some (.int .i64 yml) ∧ w'.cell? ⟨b', o' + k * 6 + 4, none⟩ = some (.int .i64 yvh) ∧ w'.cell? ⟨b', o' + k * 6 + 5, none⟩ = some (.int .i64 yvl)) (by kernel_rfl) ?_ (fun hHeld => ?_)
              · exact HK.out _ hbw0
              refine wpAnyH_take (i := 0) (v := ?qv212) rfl (by kernel_rfl) (by kernel_rfl) (by kernel_rfl) (fun _ _ _ h => h) (Or.inl ⟨by rfl, ?qhy212⟩) (by assumption) ?qrest212
              case qhy212 =>
                intro W hSw
                try dsimp only at hSw
                go_simp
                try with_reducible rfl
              try simp only [Act.put, List.getElem_toArray, List.getElem_cons_zero, List.getElem_cons_succ, List.setIfInBounds_toArray, List.set_cons_zero, List.set_cons_succ]
              refine wpAnyH_take (i := 1) (v := ?qv213) rfl (by kernel_rfl) (by kernel_rfl) (by kernel_rfl) (fun _ _ _ h => h) (Or.inl ⟨by rfl, ?qhy213⟩) (by assumption) ?qrest213
              case qhy213 =>
                intro W hSw
                try dsimp only at hSw
                go_simp
                try with_reducible rfl
              try simp only [Act.put, List.getElem_toArray, List.getElem_cons_zero, List.getElem_cons_succ, List.setIfInBounds_toArray, List.set_cons_zero, List.set_cons_succ]
              refine wpAnyH_take (i := 2) (v := ?qv214) rfl (by kernel_rfl) (by kernel_rfl) (by kernel_rfl) (fun _ _ _ h => h) (Or.inl ⟨by rfl, ?qhy214⟩) (by assumption) ?qrest214
              case qhy214 =>
                intro W hSw
                try dsimp only at hSw
                go_simp
                try with_reducible rfl
              try simp only [Act.put, List.getElem_toArray, List.getElem_cons_zero, List.getElem_cons_succ, List.setIfInBounds_toArray, List.set_cons_zero, List.set_cons_succ]
              refine wpAnyH_take (i := 3) (v := ?qv215) rfl (by kernel_rfl) (by kernel_rfl) (by kernel_rfl) (fun _ _ _ h => h) (Or.inl ⟨by rfl, ?qhy215⟩) (by assumption) ?qrest215
              case qhy215 =>
                intro W hSw
                try dsimp only at hSw
                go_simp
                try with_reducible rfl
              try simp only [Act.put, List.getElem_toArray, List.getElem_cons_zero, List.getElem_cons_succ, List.setIfInBounds_toArray, List.set_cons_zero, List.set_cons_succ]
              refine wpAnyH_take (i := 4) (v := ?qv216) rfl (by kernel_rfl) (by kernel_rfl) (by kernel_rfl) (fun _ _ _ h => h) (Or.inl ⟨by rfl, ?qhy216⟩) (by assumption) ?qrest216
              case qhy216 =>
                intro W hSw
                try dsimp only at hSw
                go_simp
                try with_reducible rfl
              try simp only [Act.put, List.getElem_toArray, List.getElem_cons_zero, List.getElem_cons_succ, List.setIfInBounds_toArray, List.set_cons_zero, List.set_cons_succ]
              refine wpAnyH_take (i := 5) (v := ?qv217) rfl (by kernel_rfl) (by kernel_rfl) (by kernel_rfl) (fun _ _ _ h => h) (Or.inl ⟨by rfl, ?qhy217⟩) (by assumption) ?qrest217
              case qhy217 =>
                intro W hSw
                try dsimp only at hSw
                go_simp
                try with_reducible rfl
              try simp only [Act.put, List.getElem_toArray, List.getElem_cons_zero, List.getElem_cons_succ, List.setIfInBounds_toArray, List.set_cons_zero, List.set_cons_succ]
              refine wpAnyH_take (i := 6) (v := ?qv218) rfl (by kernel_rfl) (by kernel_rfl) (by kernel_rfl) (fun _ _ _ h => h) (Or.inl ⟨by rfl, ?qhy218⟩) (by assumption) ?qrest218
              case qhy218 =>
                intro W hSw
                try dsimp only at hSw
                go_simp
                try with_reducible rfl
              try simp only [Act.put, List.getElem_toArray, List.getElem_cons_zero, List.getElem_cons_succ, List.setIfInBounds_toArray, List.set_cons_zero, List.set_cons_succ]
              refine wpAnyH_take (i := 7) (v := ?qv219) rfl (by kernel_rfl) (by kernel_rfl) (by kernel_rfl) (fun _ _ _ h => h) (Or.inl ⟨by rfl, ?qhy219⟩) (by assumption) ?qrest219
              case qhy219 =>
                intro W hSw
                try dsimp only at hSw
                go_simp
                try with_reducible rfl
              try simp only [Act.put, List.getElem_toArray, List.getElem_cons_zero, List.getElem_cons_succ, List.setIfInBounds_toArray, List.set_cons_zero, List.set_cons_succ]
              refine wpAnyH_take (i := 8) (v := ?qv220) rfl (by kernel_rfl) (by kernel_rfl) (by kernel_rfl) (fun _ _ _ h => h) (Or.inl ⟨by rfl, ?qhy220⟩) (by assumption) ?qrest220
              case qhy220 =>
                intro W hSw
                try dsimp only at hSw
                go_simp
                try with_reducible rfl
              try simp only [Act.put, List.getElem_toArray, List.getElem_cons_zero, List.getElem_cons_succ, List.setIfInBounds_toArray, List.set_cons_zero, List.set_cons_succ]
              refine wpAnyH_take (i := 9) (v := ?qv221) rfl (by kernel_rfl) (by kernel_rfl) (by kernel_rfl) (fun _ _ _ h => h) (Or.inl ⟨by rfl, ?qhy221⟩) (by assumption) ?qrest221
              case qhy221 =>
                intro W hSw
                try dsimp only at hSw
                go_simp
                try with_reducible rfl
              try simp only [Act.put, List.getElem_toArray, List.getElem_cons_zero, List.getElem_cons_succ, List.setIfInBounds_toArray, List.set_cons_zero, List.set_cons_succ]
              refine wpAnyH_take (i := 10) (v := ?qv222) rfl (by kernel_rfl) (by kernel_rfl) (by kernel_rfl) (fun _ _ _ h => h) (Or.inl ⟨by rfl, ?qhy222⟩) (by assumption) ?qrest222
              case qhy222 =>
                intro W hSw
                try dsimp only at hSw
                go_simp
                try with_reducible rfl
              try simp only [Act.put, List.getElem_toArray, List.getElem_cons_zero, List.getElem_cons_succ, List.setIfInBounds_toArray, List.set_cons_zero, List.set_cons_succ]
              refine wpAnyH_done (by kernel_rfl) ?_ _
              refine NoPanic.normal ?_
              clear hbw0
              go_wp2_with fail
              go_ret
              exact ⟨ret_bool HN.out.symm, HX.out.drew⟩
          · have HN := Lib.hid (show decide ((⟨nr, ac, cs⟩ : Rl) = ⟨nr, ac, ds⟩) = true by
              have h := HA.out
              have := HL.out
              rw [HR.out]
              rw [List.take_of_length_le (by omega), List.take_of_length_le (by omega)] at h
              exact decide_eq_true h)
            clear hbw
            go_wp2_with fail
            go_ret
            exact ⟨ret_bool HN.out.symm, HX.out⟩
      · have HR := Lib.hid (show decide ((⟨nr, ac, cs⟩ : Rl) = ⟨nr', ac', ds⟩) = false by
          simp only [decide_eq_false_iff_not]
          intro e
          injection e with _ _ e
          exact hl (by rw [e]))
        have n0 := nn_int e0
        have n1 := nn_int e1
        have n2 : ((cs.length : Int) != (ds.length : Int)) = true := by simp; omega
        subst e0 e1
        clear hv hu hl
        go_enter Try.func106, Try.ntmps106
        go_wp2_with fail
        go_ret
        exact ⟨ret_bool HR.out.symm, ((Below.refl _ _).alloc (Nat.le_refl _) _).alloc (by simp) _⟩
    · have HR := Lib.hid (show decide ((⟨nr, ac, cs⟩ : Rl) = ⟨nr', ac', ds⟩) = false by simp [e1])
      have n0 := nn_int e0
      have n1 := ne_int e1
      subst e0
      clear hv hu e1
      go_enter Try.func106, Try.ntmps106
      go_wp2_with fail
      go_ret
      exact ⟨ret_bool HR.out.symm, ((Below.refl _ _).alloc (Nat.le_refl _) _).alloc (by simp) _⟩
  · have HR := Lib.hid (show decide ((⟨nr, ac, cs⟩ : Rl) = ⟨nr', ac', ds⟩) = false by simp [e0])
    have n0 := ne_int e0
    clear hv hu e0
    go_enter Try.func106, Try.ntmps106
    go_wp2_with fail
    go_ret
    exact ⟨ret_bool HR.out.symm, ((Below.refl _ _).alloc (Nat.le_refl _) _).alloc (by simp) _⟩

theorem rls_at {l l' : List Rv} (he : rls l = rls l') {k : Nat} (hk : k < l.length) : ∃ (r : Rl) (v v' : Value), l[k]? = some ⟨r, v⟩ ∧ l'[k]? = some ⟨r, v'⟩ := by
  have hk' : k < l'.length := by have := congrArg List.length he; simp [rls] at this; omega
  have h1 : (rls l)[k]? = some l[k].r := by unfold rls; simp [hk]
  have h2 : (rls l')[k]? = some l'[k].r := by unfold rls; simp [hk']
  rw [he, h2] at h1
  injection h1 with h1
  exact ⟨l[k].r, l[k].v, l'[k].v, List.getElem?_eq_getElem hk, by rw [List.getElem?_eq_getElem hk', ← h1]⟩
theorem lwRule_same (nr ac : Int) (cs : List Cq) (v u : Value) (w : World) (hv : CqAt w w.heap.size v cs) (hu : CqAt w w.heap.size u cs) :
    Calls Try.prog 106 #[.agg #[.int .i64 nr, .int .i64 ac, v], .agg #[.int .i64 nr, .int .i64 ac, u]] w fun e w' => e = .returned (.bool true) ∧ Below w.heap.size w w' :=
  (lwRule_any nr ac nr ac cs cs v u w hv hu).mono fun _ _ h => ⟨h.1.trans (ret_bool (by simp)), h.2⟩

set_option maxHeartbeats 3200000 in
theorem lwPolicy_same (ar df bd : Int) (l l' : List Rv) (v1 v2 : Value) (w : World) (h1 : RvAt w w.heap.size v1 l) (h2 : RvAt w w.heap.size v2 l') (he : rls l = rls l') :
    Calls Try.prog 74 #[polV ar df bd v1, polV ar df bd v2] w fun e w' => e = .returned (.bool true) ∧ Below w.heap.size w w' := by
  obtain ⟨a, cap, rfl, hlc, hcm⟩ := h1.len
  obtain ⟨a', cap', rfl, hlc', hcm'⟩ := h2.len
  unfold maxLen at hcm hcm'
  have hl : l.length = l'.length := by have := congrArg List.length he; simpa [rls] using this
  have n0 : (ar != ar) = false := by simp
  have n1 : (df != df) = false := by simp
  have n2 : (bd != bd) = false := by simp
  have n3 : ((l.length : Int) != (l'.length : Int)) = false := by rw [hl]; simp
  have hb0 := rows2 (Below.refl _ ((w.alloc (.cells #[.int .i64 ar, .int .i64 df, .int .i64 bd, .slice a l.length cap] 32)).alloc (.cells #[.int .i64 ar, .int .i64 df, .int .i64 bd, .slice a' l'.length cap'] 32)))
  have HB0 := Lib.hid hb0.2.2.1
  have HV := Lib.hid h1
  have HU := Lib.hid h2
  have HE := Lib.hid he
  have HL := Lib.hid hl
  clear h1 h2 he hl hb0
  go_enter Try.func74, Try.ntmps74
  go_wp2_with fail
  go_loopw [5] (fun i wr => ∃ k : Nat, k ≤ l.length ∧ i = .int .i64 k ∧ Below ((w.alloc (.cells #[.int .i64 ar, .int .i64 df, .int .i64 bd, .slice a l.length cap] 32)).alloc (.cells #[.int .i64 ar, .int .i64 df, .int .i64 bd, .slice a' l'.length cap'] 32)).heap.size ((w.alloc (.cells #[.int .i64 ar, .int .i64 df, .int .i64 bd, .slice a l.length cap] 32)).alloc (.cells #[.int .i64 ar, .int .i64 df, .int .i64 bd, .slice a' l'.length cap'] 32)) wr) (fun i _ => l.length - (intOf i).toNat)
  case atStart => exact ⟨0, by omega, rfl, Below.refl _ _⟩
  case round =>
    obtain ⟨k, hk, rfl, hbw⟩ := hrel
    obtain ⟨r1, r2, hb, hsz⟩ := rows2 hbw
    have p3 := row_cell r1 3
    have q3 := row_cell r2 3
    simp only [List.getElem?_toArray, List.getElem?_cons_zero, List.getElem?_cons_succ] at p3 q3
    have HBW := Lib.hid hbw
    have HB := Lib.hid hb
    clear hbw hb r1 r2 n0 n1 n2 n3
    by_cases hlt : k < l.length
    · have hlt' : k < l'.length := by have := HL.out; omega
      obtain ⟨⟨rn, rc, cs⟩, rv, rv', hx, hx'⟩ := rls_at HE.out hlt
      have HV1 := RvAt.below HV.out HB.out
      have HU1 := RvAt.below HU.out HB.out
      have hc := HV1.2 _ (List.mem_of_getElem? hx)
      have hc' := HU1.2 _ (List.mem_of_getElem? hx')
      obtain ⟨x1, x2, rfl⟩ : ∃ x1 x2, rv = .slice x1 cs.length x2 := by obtain ⟨x1, x2, e, _⟩ := LAt.len hc; exact ⟨x1, x2, e⟩
      obtain ⟨y1, y2, rfl⟩ : ∃ x1 x2, rv' = .slice x1 cs.length x2 := by obtain ⟨x1, x2, e, _⟩ := LAt.len hc'; exact ⟨x1, x2, e⟩
      obtain ⟨b, o, e, hbb, c0, c1, c2, _⟩ := RvAt.place HV1 hx
      obtain ⟨b', o', e', hbb', d0, d1, d2, _⟩ := RvAt.place HU1 hx'
      subst e e'
      have HQ := Lib.hid (fun W (h : Below w.heap.size w W) => lwRule_same rn rc cs _ _ W (LAt.up (LAt.below ((RvAt.below HV.out h).2 _ (List.mem_of_getElem? hx)) (Below.refl _ _)) h.size) (LAt.up (LAt.below ((RvAt.below HU.out h).2 _ (List.mem_of_getElem? hx')) (Below.refl _ _)) h.size))
      clear hx hx' hc hc' HV1 HU1
      go_wp2_with fail
      refine wp_region_still_tail 10 (by kernel_rfl) (by kernel_rfl) ?_
      simp only [List.take_succ_cons, List.take_zero, List.drop_succ_cons, List.drop_zero, World.drew_eq]
      repeat still_step
      refine wpStill_nil ?_
      go_wp2_with fail
      refine (HQ.out _ HB.out.drew).mono ?_
      rintro e w2 ⟨rfl, hb2⟩
      have HX := Lib.hid (HBW.out.drew.trans (hb2.mono HBW.out.size))
      clear hb2
      go_wp2_with fail
      go_roundw
      case rel => exact ⟨k + 1, by omega, by go_num, HX.out⟩
      case measure => simp [intOf]; omega
    · go_wp2_with fail
      go_ret
      exact ⟨rfl, HB.out⟩

end Go.Proofs.Ytmnmaijifhojiaa

/- Rules in plain words: an opposite comparison, one rule more, another order. -/
set_option linter.unusedVariables false
set_option linter.unusedSimpArgs false
namespace Go.Proofs.Ytmnmaijifhojiaa
open Go.RowKit

/-- The opposite of a comparison. -/
def oppo (o : Int) : Int := if o = 1 then 2 else if o = 2 then 1 else if o = 3 then 6 else if o = 4 then 5 else if o = 5 then 4 else 3
theorem cq_op {x : Cq} (h : cqRight x = true) : 1 ≤ x.o ∧ x.o ≤ 7 := by
  unfold cqRight isB at h
  simp only [Bool.and_eq_true, decide_eq_true_eq] at h
  exact ⟨by omega, by omega⟩
theorem oppo_right {x : Cq} (h : cqRight x = true) (ho : x.o ≤ 6) : cqRight ⟨x.a, oppo x.o, x.mh, x.ml, x.vh, x.vl⟩ = true := by
  have h1 := cq_op h
  obtain ⟨a, o, mh, ml, vh, vl⟩ := x
  simp only at ho h1
  unfold cqRight isB at h ⊢
  simp only [Bool.and_eq_true, Bool.or_eq_true, decide_eq_true_eq, beq_iff_eq] at h ⊢
  have hn : cqNone ⟨a, o, mh, ml, vh, vl⟩ = true := by
    rcases h.2 with h2 | h2
    · omega
    · exact h2
  refine ⟨⟨⟨⟨h.1.1.1.1, ?_⟩, h.1.1.2⟩, h.1.2⟩, Or.inr hn⟩
  unfold oppo
  rcases (by omega : o = 1 ∨ o = 2 ∨ o = 3 ∨ o = 4 ∨ o = 5 ∨ o = 6) with rfl | rfl | rfl | rfl | rfl | rfl <;> decide
theorem oppo_holds {x : Cq} {u : Wd} (h : cqRight x = true) (hu : wdRight u = true) (ho : x.o ≤ 6) : cqHolds ⟨x.a, oppo x.o, x.mh, x.ml, x.vh, x.vl⟩ u = !cqHolds x u := by
  have h1 := cq_op h
  unfold cqHolds
  rw [oppo_right h ho, h, hu]
  obtain ⟨a, o, mh, ml, vh, vl⟩ := x
  simp only at ho h1
  rcases (by omega : o = 1 ∨ o = 2 ∨ o = 3 ∨ o = 4 ∨ o = 5 ∨ o = 6) with rfl | rfl | rfl | rfl | rfl | rfl <;> simp [oppo, cqHolds0]

/-- What makes rules of a policy right, one behind the other. -/
theorem polsOk_snoc (df : Int) (l : List Rl) (r : Rl) : polsOk df (l ++ [r]) = (polsOk df l && (rlRight r && !(r.ac == df) && !hasR l r)) := by
  unfold polsOk
  rw [List.length_append, List.length_singleton, List.range_succ, List.all_append]
  congr 1
  · rw [Bool.eq_iff_iff, List.all_eq_true, List.all_eq_true]
    constructor
    · intro h i hi
      have := h i hi
      have hl := List.mem_range.1 hi
      unfold polStep rlAt at this ⊢
      rw [List.getD_eq_getElem?_getD, List.getElem?_append_left hl, ← List.getD_eq_getElem?_getD, List.take_append_of_le_length (by omega)] at this
      exact this
    · intro h i hi
      have := h i hi
      have hl := List.mem_range.1 hi
      unfold polStep rlAt at this ⊢
      rw [List.getD_eq_getElem?_getD, List.getElem?_append_left hl, ← List.getD_eq_getElem?_getD, List.take_append_of_le_length (by omega)]
      exact this
  · simp only [List.all_cons, List.all_nil, Bool.and_true]
    unfold polStep rlAt
    rw [List.getD_eq_getElem?_getD, List.getElem?_append_right (Nat.le_refl _), Nat.sub_self, List.take_left]
    rfl
theorem hasR_mem {l : List Rl} {r : Rl} : hasR l r = true ↔ r ∈ l := by
  unfold hasR
  rw [List.any_eq_true]
  constructor
  · rintro ⟨x, hx, he⟩
    exact (of_decide_eq_true he) ▸ hx
  · exact fun h => ⟨r, h, by simp⟩
theorem polsOk_iff (df : Int) (l : List Rl) : polsOk df l = true ↔ (∀ r ∈ l, rlRight r = true ∧ r.ac ≠ df) ∧ l.Nodup := by
  suffices H : ∀ n, ∀ l : List Rl, l.length = n → (polsOk df l = true ↔ (∀ r ∈ l, rlRight r = true ∧ r.ac ≠ df) ∧ l.Nodup) from H _ l rfl
  intro n
  induction n with
  | zero =>
    intro l h
    obtain rfl := List.eq_nil_of_length_eq_zero h
    exact ⟨fun _ => ⟨fun r hr => (by simp at hr), List.nodup_nil⟩, fun _ => rfl⟩
  | succ n ih =>
    intro l h
    have hne : l ≠ [] := fun e => by rw [e] at h; simp at h
    have hd := List.dropLast_concat_getLast hne
    generalize l.dropLast = q at hd
    generalize l.getLast hne = r at hd
    subst hd
    rw [polsOk_snoc, Bool.and_eq_true, Bool.and_eq_true, Bool.and_eq_true, ih q (by simpa using h)]
    have hh := @hasR_mem q r
    cases hc : hasR q r with
    | true =>
      have hm := hh.1 hc
      constructor
      · rintro ⟨_, _, h3⟩
        simp at h3
      · rintro ⟨_, h2⟩
        exact absurd rfl ((List.nodup_append.1 h2).2.2 r hm r (by simp))
    | false =>
      have hm : r ∉ q := fun hx => by rw [hh.2 hx] at hc; cases hc
      constructor
      · rintro ⟨⟨h1, h2⟩, ⟨h3, h4⟩, _⟩
        refine ⟨fun x hx => ?_, List.nodup_append.2 ⟨h2, by simp, fun a ha b hb => ?_⟩⟩
        · rcases List.mem_append.1 hx with hx | hx
          · exact h1 x hx
          · rw [List.mem_singleton.1 hx]
            exact ⟨h3, by simpa using h4⟩
        · rw [List.mem_singleton.1 hb]
          exact fun e => hm (e ▸ ha)
      · rintro ⟨h1, h2⟩
        have hr := h1 r (by simp)
        exact ⟨⟨fun x hx => h1 x (by simp [hx]), (List.nodup_append.1 h2).1⟩, ⟨hr.1, by simpa using hr.2⟩, rfl⟩
theorem polsOk_turned {df : Int} {l : List Rl} : polsOk df l.reverse = polsOk df l := by
  rw [Bool.eq_iff_iff, polsOk_iff, polsOk_iff, (List.reverse_perm l).nodup_iff]
  simp only [List.mem_reverse]
theorem polRight_turned (ar df bd : Int) (l : List Rl) : polRight ⟨ar, df, bd, l.reverse⟩ = polRight ⟨ar, df, bd, l⟩ := by
  unfold polRight
  simp only [List.length_reverse, polsOk_turned]

/-- The least Action of those that hold. -/
def Least (x : Rc) (l : List Rl) (b : Int) : Prop := (b = -1 ∧ ∀ r ∈ l, rlHolds0 r x = false) ∨ (0 ≤ b ∧ (∃ r ∈ l, rlHolds0 r x = true ∧ r.ac = b) ∧ ∀ r ∈ l, rlHolds0 r x = true → b ≤ r.ac)
theorem Least.one {x : Rc} {l l' : List Rl} {b b' : Int} (h : Least x l b) (h' : Least x l' b') (hm : ∀ r, r ∈ l ↔ r ∈ l') : b = b' := by
  rcases h with ⟨e, h⟩ | ⟨h0, ⟨r, hr, hh, rfl⟩, hl⟩ <;> rcases h' with ⟨e', h'⟩ | ⟨h0', ⟨r', hr', hh', rfl⟩, hl'⟩
  · omega
  · have := h r' ((hm r').2 hr')
    rw [hh'] at this; cases this
  · have := h' r ((hm r).1 hr)
    rw [hh] at this; cases this
  · have a := hl r' ((hm r').2 hr') hh'
    have b := hl' r ((hm r).1 hr) hh
    omega
theorem Least.step {x : Rc} {l : List Rl} {b : Int} {r : Rl} (h : Least x l b) (hr : 0 ≤ r.ac) : Least x (l ++ [r]) (bestStep x b r) := by
  unfold bestStep
  cases hh : rlHolds0 r x with
  | false =>
    rw [if_neg (by simp)]
    rcases h with ⟨e, h⟩ | ⟨h0, ⟨q, hq, hh', rfl⟩, hl⟩
    · refine .inl ⟨e, fun y hy => ?_⟩
      rcases List.mem_append.1 hy with hy | hy
      · exact h y hy
      · rw [List.mem_singleton.1 hy]; exact hh
    · refine .inr ⟨h0, ⟨q, by simp [hq], hh', rfl⟩, fun y hy hy' => ?_⟩
      rcases List.mem_append.1 hy with hy | hy
      · exact hl y hy hy'
      · rw [List.mem_singleton.1 hy, hh] at hy'; cases hy'
  | true =>
    rcases h with ⟨e, h⟩ | ⟨h0, ⟨q, hq, hh', rfl⟩, hl⟩
    · rw [if_pos (by simp; omega)]
      refine .inr ⟨hr, ⟨r, by simp, hh, rfl⟩, fun y hy hy' => ?_⟩
      rcases List.mem_append.1 hy with hy | hy
      · rw [h y hy] at hy'; cases hy'
      · rw [List.mem_singleton.1 hy]; exact Int.le_refl _
    · by_cases hc : r.ac < q.ac
      · rw [if_pos (by simp; omega)]
        refine .inr ⟨hr, ⟨r, by simp, hh, rfl⟩, fun y hy hy' => ?_⟩
        rcases List.mem_append.1 hy with hy | hy
        · have := hl y hy hy'; omega
        · rw [List.mem_singleton.1 hy]; exact Int.le_refl _
      · rw [if_neg (by simp; omega)]
        refine .inr ⟨h0, ⟨q, by simp [hq], hh', rfl⟩, fun y hy hy' => ?_⟩
        rcases List.mem_append.1 hy with hy | hy
        · exact hl y hy hy'
        · rw [List.mem_singleton.1 hy]; omega
theorem least_go {x : Rc} : ∀ (l p : List Rl) (b : Int), Least x p b → (∀ r ∈ l, 0 ≤ r.ac) → Least x (p ++ l) (l.foldl (bestStep x) b)
  | [], p, b, h, _ => by rw [List.append_nil]; exact h
  | r :: l, p, b, h, hr => by
    rw [List.foldl_cons, show p ++ r :: l = (p ++ [r]) ++ l by simp]
    exact least_go l _ _ (h.step (hr r (by simp))) fun y hy => hr y (by simp [hy])
theorem bestOf_least {x : Rc} {l : List Rl} (h : ∀ r ∈ l, 0 ≤ r.ac) : Least x l (bestOf x l) := by
  have := least_go (x := x) l [] (-1) (.inl ⟨rfl, fun r hr => (by simp at hr)⟩) h
  rwa [List.nil_append] at this
theorem rlRight_ac' {r : Rl} (h : rlRight r = true) : 0 ≤ r.ac := by
  obtain ⟨nr, ac, cs⟩ := r
  exact (rlRight_ac h).1
theorem polRight_ok {p : Pol} (h : polRight p = true) : polsOk p.df p.rs = true ∧ p.rs.length ≤ 24 := by
  unfold polRight at h
  simp only [Bool.and_eq_true, decide_eq_true_eq] at h
  exact ⟨h.2, h.1.2⟩
theorem decide_turned (p : Pol) (x : Rc) : polDecide ⟨p.ar, p.df, p.bd, p.rs.reverse⟩ x = polDecide p x := by
  unfold polDecide
  rw [polRight_turned]
  show (if (!(polRight p && rcRight x)) = true then (-1 : Int) else if x.ar ≠ p.ar then p.bd else if bestOf x p.rs.reverse < 0 then p.df else bestOf x p.rs.reverse) = _
  cases hp : polRight p with
  | false => rfl
  | true =>
    have ho := ((polsOk_iff p.df p.rs).1 (polRight_ok hp).1).1
    have e : bestOf x p.rs.reverse = bestOf x p.rs :=
      Least.one (bestOf_least fun r hr => rlRight_ac' (ho r (by simpa using hr)).1) (bestOf_least fun r hr => rlRight_ac' (ho r hr).1) (fun r => by simp)
    simp only [e]
theorem polAdd_ok {p : Pol} {r : Rl} {p' : Pol} (h : polAdd p r = (p', 0)) : polRight p = true ∧ rlRight r = true ∧ polRight p' = true ∧ (p' = p ∨ p' = ⟨p.ar, p.df, p.bd, p.rs ++ [r]⟩) := by
  unfold polAdd at h
  cases hp : polRight p with
  | false => rw [hp] at h; simp at h
  | true =>
    cases hr : rlRight r with
    | false => rw [hp, hr] at h; simp at h
    | true =>
      rw [hp, hr] at h
      simp only [Bool.and_self, Bool.not_true, Bool.false_eq_true, if_false] at h
      refine ⟨rfl, rfl, ?_⟩
      by_cases h1 : r.ac = p.df
      · rw [if_pos h1] at h; simp at h
      · rw [if_neg h1] at h
        cases h2 : hasR p.rs r with
        | true =>
          rw [h2] at h
          simp only [if_true, Prod.mk.injEq, and_true] at h
          subst h
          exact ⟨hp, .inl rfl⟩
        | false =>
          rw [h2] at h
          simp only [Bool.false_eq_true, if_false] at h
          by_cases h3 : 24 ≤ p.rs.length
          · rw [if_pos h3] at h; simp at h
          · rw [if_neg h3] at h
            simp only [Prod.mk.injEq, and_true] at h
            subst h
            refine ⟨?_, .inr rfl⟩
            have hh := hp
            unfold polRight at hp ⊢
            simp only [Bool.and_eq_true, decide_eq_true_eq] at hp ⊢
            refine ⟨⟨hp.1.1, by simp; omega⟩, ?_⟩
            rw [polsOk_snoc, hp.2, hr, h2]
            simpa using h1
/-- One rule more can just make what is decided less, and only where it holds. -/
theorem decide_more {p : Pol} {r : Rl} {p' : Pol} (x : Rc) (h : polAdd p r = (p', 0)) (hx : rcRight x = true) (hne : polDecide p x ≠ polDecide p' x) :
    rlHolds r x = true ∧ polDecide p' x = r.ac ∧ (polDecide p x = p.df ∨ polDecide p' x ≤ polDecide p x) := by
  obtain ⟨h1, h2, h3, rfl | rfl⟩ := polAdd_ok h
  · exact absurd rfl hne
  · have hac := rlRight_ac' h2
    have e1 : polDecide p x = if x.ar ≠ p.ar then p.bd else if bestOf x p.rs < 0 then p.df else bestOf x p.rs := by unfold polDecide; rw [h1, hx]; rfl
    have e2 : polDecide ⟨p.ar, p.df, p.bd, p.rs ++ [r]⟩ x = if x.ar ≠ p.ar then p.bd else if bestStep x (bestOf x p.rs) r < 0 then p.df else bestStep x (bestOf x p.rs) r := by
      unfold polDecide
      rw [h3, hx]
      show (if x.ar ≠ p.ar then p.bd else if bestOf x (p.rs ++ [r]) < 0 then p.df else bestOf x (p.rs ++ [r])) = _
      unfold bestOf
      rw [List.foldl_append]
      rfl
    rw [e1, e2] at hne ⊢
    by_cases ha : x.ar ≠ p.ar
    · rw [if_pos ha, if_pos ha] at hne; exact absurd rfl hne
    · rw [if_neg ha, if_neg ha] at hne ⊢
      unfold bestStep at hne ⊢
      cases hh : rlHolds0 r x with
      | false => rw [hh] at hne; simp at hne
      | true =>
        rw [hh] at hne
        refine ⟨by unfold rlHolds; rw [h2, hx, hh]; rfl, ?_⟩
        generalize bestOf x p.rs = b at hne ⊢
        by_cases hb : b < 0 ∨ r.ac < b
        · have hb' : (true && (decide (b < 0) || decide (r.ac < b))) = true := by simpa using hb
          rw [if_pos hb', if_neg (by omega)]
          refine ⟨rfl, ?_⟩
          by_cases hb0 : b < 0
          · rw [if_pos hb0]; exact .inl rfl
          · rw [if_neg hb0]; exact .inr (by omega)
        · have hb' : ¬ (true && (decide (b < 0) || decide (r.ac < b))) = true := by simpa using hb
          rw [if_neg hb'] at hne
          exact absurd rfl hne

end Go.Proofs.Ytmnmaijifhojiaa

/- PolicyDrop of the model walked. -/
set_option maxRecDepth 100000
set_option linter.unusedVariables false
set_option linter.unusedSimpArgs false
namespace Go.Proofs.Ytmnmaijifhojiaa
open Go.RowKit Go.ChangeShapes Go.WideShapes
attribute [local go_sem ↓] Go.wp_at_zero Go.wp_at_succ

theorem RvAt.drop {w : World} {B : Nat} {g o n cap : Nat} {l : List Rv} (h : RvAt w B (.slice (some ⟨g, o, none⟩) n cap) l) {k : Nat} (hk : k ≤ l.length) : RvAt w B (.slice (some ⟨g, o + k * 3, none⟩) (n - k) (cap - k)) (l.drop k) := by
  obtain ⟨⟨hS, ⟨a', cap', e, h1, h2, h3⟩, hwf⟩, hq⟩ := h
  simp only [Value.slice.injEq] at e
  obtain ⟨rfl, rfl, rfl⟩ := e
  refine ⟨⟨hS, ⟨some ⟨g, o + k * 3, none⟩, cap - k, by rw [List.length_drop], by rw [List.length_drop]; omega, by omega, fun h0 => ?_⟩, fun x hx => hwf x (List.mem_of_mem_drop hx)⟩, fun x hx => hq x (List.mem_of_mem_drop hx)⟩
  rw [List.length_drop] at h0
  obtain ⟨b, o2, e, hb, hc⟩ := h3 (by omega)
  simp only [Option.some.injEq, Addr.mk.injEq, and_true] at e
  obtain ⟨rfl, rfl⟩ := e
  refine ⟨g, o + k * 3, rfl, hb, fun i c hi => ?_⟩
  have hmin : min k l.length = k := by omega
  have hflat : (l.flatMap rvCells)[k * 3 + i]? = ((l.drop k).flatMap rvCells)[i]? := by
    conv => lhs; rw [← List.take_append_drop k l, List.flatMap_append]
    rw [List.getElem?_append_right (by rw [flat_length rvS, List.length_take, hmin]; omega), flat_length rvS, List.length_take, hmin, Nat.add_sub_cancel_left]
  have hc2 := hc (k * 3 + i) c (hflat.trans hi)
  rwa [← Nat.add_assoc] at hc2
/-- What 'l[k:]' is: of no room left, at the row's beginning. -/
def dropV (g n cap k : Nat) : Value := if cap = k then .slice (some ⟨g, 0, none⟩) (n - k) 0 else .slice (some ⟨g, k * 3, none⟩) (n - k) (cap - k)
theorem RvAt.dropV {w : World} {B : Nat} {g n cap : Nat} {l : List Rv} (h : RvAt w B (.slice (some ⟨g, 0, none⟩) n cap) l) {k : Nat} (hk : k ≤ l.length) : RvAt w B (dropV g n cap k) (l.drop k) := by
  unfold Go.Proofs.Ytmnmaijifhojiaa.dropV
  by_cases hc : cap = k
  · rw [if_pos hc]
    obtain ⟨a', cap', e, h1, h2⟩ := h.len
    simp only [Value.slice.injEq] at e
    obtain ⟨_, rfl, rfl⟩ := e
    have hn : l.drop k = [] := List.drop_eq_nil_of_le (by omega)
    rw [hn]
    exact ⟨⟨rvS, ⟨_, 0, by rw [show l.length - k = 0 by omega]; rfl, by simp, by unfold maxLen; omega, fun h0 => by simp at h0⟩, fun x hx => by simp at hx⟩, fun x hx => by simp at hx⟩
  · rw [if_neg hc]
    have := h.drop hk
    rwa [Nat.zero_add] at this
theorem Inner.sub {base : Nat} {w : World} {l l' : List Rv} (h : Inner base w l) (hs : l'.Sublist l) : Inner base w l' := ⟨fun x hx => h.1 x (hs.subset hx), h.2.sublist hs⟩
def polDrop (p : Pol) (m : Int) : Pol × Int :=
  if !polRight p then (pol0, 1) else if !isB m 0 ((p.rs.length : Int) - 1) then (pol0, 6) else (⟨p.ar, p.df, p.bd, p.rs.take m.toNat ++ p.rs.drop (m.toNat + 1)⟩, 0)
theorem drop_sub {α : Type} (l : List α) (m : Nat) : (l.take m ++ l.drop (m + 1)).Sublist l := by
  have h : (l.take m ++ l.drop (m + 1)).Sublist (l.take m ++ l.drop m) := List.Sublist.append (List.Sublist.refl _) (by rw [← List.drop_drop]; exact List.drop_sublist 1 _)
  rwa [List.take_append_drop] at h

set_option maxHeartbeats 12800000 in
theorem specPolicyDrop_any (ar df bd at_ : Int) (l : List Rv) (v : Value) (w : World) (hv : RvAt w w.heap.size v l) (hat : In64 at_) :
    Calls Try.prog 26 #[polV ar df bd v, .int .i64 at_] w (PolEnd w.heap.size w (polDrop ⟨ar, df, bd, rls l⟩ at_)) := by
  have q1 := fun W (h : Below w.heap.size w W) => specPolicyRight_any ar df bd l _ W (RvAt.up (RvAt.below hv h) h.size)
  have hwf := Lib.hid hv.wf
  obtain ⟨a, cap, rfl, hlc, hcm⟩ := hv.len
  unfold maxLen at hcm
  have hll : (rls l).length = l.length := by simp [rls]
  have hd : polDrop ⟨ar, df, bd, rls l⟩ at_ = (if !polRight ⟨ar, df, bd, rls l⟩ then (pol0, 1) else if !isB at_ 0 (((rls l).length : Int) - 1) then (pol0, 6) else (⟨ar, df, bd, (rls l).take at_.toNat ++ (rls l).drop (at_.toNat + 1)⟩, 0)) := rfl
  rw [hll] at hd
  generalize polDrop ⟨ar, df, bd, rls l⟩ at_ = res at hd ⊢
  have HB0 := Lib.hid (show Below w.heap.size w ((w.alloc (.cells #[.int .i64 ar, .int .i64 df, .int .i64 bd, .slice a l.length cap] 32)).alloc (.cells #[.int .i64 0, .int .i64 0, .int .i64 0, .slice none 0 0, .int .i64 0] 39)) from ((Below.refl _ _).alloc (Nat.le_refl _) _).alloc (by simp) _)
  cases h1 : polRight ⟨ar, df, bd, rls l⟩ <;> rw [h1] at q1
  · have HR := Lib.hid (show res = (pol0, 1) by rw [hd, h1]; rfl)
    have Q1 := Lib.hid q1
    clear hd q1 h1 hv
    go_enter Try.func26, Try.ntmps26
    go_wp2_with fail
    refine (Q1.out _ HB0.out).mono ?_
    rintro e w1 ⟨rfl, hb1⟩
    obtain ⟨r0, r1, hB, _⟩ := rows2 hb1
    have e0 := row_cell r1 0
    have e1 := row_cell r1 1
    have e2 := row_cell r1 2
    have e3 := row_cell r1 3
    have e4 := row_cell r1 4
    simp only [List.getElem?_toArray, List.getElem?_cons_zero, List.getElem?_cons_succ] at e0 e1 e2 e3 e4
    have f0 := frozen_row r1 0
    have f1 := frozen_row r1 1
    have f2 := frozen_row r1 2
    have f3 := frozen_row r1 3
    have f4 := frozen_row r1 4
    have HB := Lib.hid hB
    clear hb1 r0 r1 hB
    go_wp2_with fail
    exact bodyPost_ret (v := .agg #[.int .i64 0, .int .i64 0, .int .i64 0, .slice none 0 0, .int .i64 1]) (by simp [results, Try.results26, go_sem, e0, e1, e2, e3, e4]) rfl ⟨_, [], by rw [HR.out] <;> rfl, by rw [HR.out] <;> rfl, ⟨OwnL.nil _ _, Inner.nil _ _, fun x hx => by simp at hx⟩, ((((HB.out.setCell (p := ⟨w.heap.size + 1, 0, none⟩) (by simp <;> omega) _).setCell (p := ⟨w.heap.size + 1, 1, none⟩) (by simp <;> omega) _).setCell (p := ⟨w.heap.size + 1, 2, none⟩) (by simp <;> omega) _).setCell (p := ⟨w.heap.size + 1, 3, none⟩) (by simp <;> omega) _).setCell (p := ⟨w.heap.size + 1, 4, none⟩) (by simp <;> omega) _⟩
  rw [h1, Bool.not_true, if_neg (by simp)] at hd
  have Q1 := Lib.hid q1
  have hw1 : IntKind.i64.wrap ((l.length : Int) - 1) = (l.length : Int) - 1 := by rw [IntKind.wrap_i64]; omega
  cases h2 : isB at_ 0 ((l.length : Int) - 1)
  · rw [h2] at hd
    have HR := Lib.hid (show res = (pol0, 6) by rw [hd]; rfl)
    clear hd q1 h1 hv
    go_enter Try.func26, Try.ntmps26
    go_wp2_with fail
    refine (Q1.out _ HB0.out).mono ?_
    rintro e w1 ⟨rfl, hb1⟩
    obtain ⟨r0, r1, hB, _⟩ := rows2 hb1
    have c3 := row_cell r0 3
    simp only [List.getElem?_toArray, List.getElem?_cons_zero, List.getElem?_cons_succ] at c3
    have e0 := row_cell r1 0
    have e1 := row_cell r1 1
    have e2 := row_cell r1 2
    have e3 := row_cell r1 3
    have e4 := row_cell r1 4
    simp only [List.getElem?_toArray, List.getElem?_cons_zero, List.getElem?_cons_succ] at e0 e1 e2 e3 e4
    have f0 := frozen_row r1 0
    have f1 := frozen_row r1 1
    have f2 := frozen_row r1 2
    have f3 := frozen_row r1 3
    have f4 := frozen_row r1 4
    have HB := Lib.hid hB
    clear hb1 r0 r1 hB
    go_wp2_with (go_at_call 78; refine (l02Is_any _ _ _ _).mono ?_; rintro e w' ⟨rfl, rfl⟩)
    exact bodyPost_ret (v := .agg #[.int .i64 0, .int .i64 0, .int .i64 0, .slice none 0 0, .int .i64 6]) (by simp [results, Try.results26, go_sem, e0, e1, e2, e3, e4]) rfl ⟨_, [], by rw [HR.out] <;> rfl, by rw [HR.out] <;> rfl, ⟨OwnL.nil _ _, Inner.nil _ _, fun x hx => by simp at hx⟩, ((((HB.out.setCell (p := ⟨w.heap.size + 1, 0, none⟩) (by simp <;> omega) _).setCell (p := ⟨w.heap.size + 1, 1, none⟩) (by simp <;> omega) _).setCell (p := ⟨w.heap.size + 1, 2, none⟩) (by simp <;> omega) _).setCell (p := ⟨w.heap.size + 1, 3, none⟩) (by simp <;> omega) _).setCell (p := ⟨w.heap.size + 1, 4, none⟩) (by simp <;> omega) _⟩
  rw [h2, Bool.not_true, if_neg (by simp)] at hd
  have hb2 : 0 ≤ at_ ∧ at_ ≤ (l.length : Int) - 1 := by unfold isB at h2; simpa using h2
  obtain ⟨m, rfl⟩ := Int.eq_ofNat_of_zero_le hb2.1
  rw [Int.toNat_natCast] at hd
  have hm : m < l.length := by omega
  have HR := Lib.hid hd
  have hlen24 := (polRight_rules h1).1
  have qp := fun W (h : Below w.heap.size w W) => l06Policy_any ar df bd l _ W (RvAt.up (RvAt.below hv h) h.size) (by omega) (fun x hx => by have h3 : x.r.cs.length ≤ 3 := (rlRight_cs (nr := x.r.nr) (ac := x.r.ac) ((polRight_rules h1).2 x hx)).1; omega)
  have QP := Lib.hid qp
  clear q1 qp h1 hv hb2 hd
  go_enter Try.func26, Try.ntmps26
  go_wp2_with fail
  refine (Q1.out _ HB0.out).mono ?_
  rintro e w1 ⟨rfl, hb1⟩
  obtain ⟨r0, r1, hB, hS1⟩ := rows2 hb1
  have c0 := row_cell r0 0
  have c1 := row_cell r0 1
  have c2 := row_cell r0 2
  have c3 := row_cell r0 3
  simp only [List.getElem?_toArray, List.getElem?_cons_zero, List.getElem?_cons_succ] at c0 c1 c2 c3
  have HB1 := Lib.hid hb1
  have HBw := Lib.hid hB
  clear hb1 r0 r1 hB
  go_wp2_with (go_at_call 78; refine (l02Is_any _ _ _ _).mono ?_; rintro e w' ⟨rfl, rfl⟩)
  refine (QP.out _ HBw.out).mono ?_
  rintro e w4 ⟨u4, l4, rfl, hl4, ho4, hb4⟩
  have hlen4 : l4.length = l.length := by have h3 := congrArg List.length hl4; simpa [rls] using h3
  obtain ⟨g, ucap, rfl, hg0, hg1, hgc⟩ := OwnL.more ho4.1 (by omega)
  have HB4 := Lib.hid (HB1.out.trans (hb4.mono HB1.out.size))
  clear c0 c1 c2 c3
  obtain ⟨r0, r1, hB, _⟩ := rows2 HB4.out
  have hr1 := row_alloc (row_alloc r1 (.cells #[.int .i64 ar, .int .i64 df, .int .i64 bd, .slice (some ⟨g, 0, none⟩) l4.length ucap] 32)) (.cells #[] 35)
  have hr5 := row_alloc (heap_alloc_new w4 (.cells #[.int .i64 ar, .int .i64 df, .int .i64 bd, .slice (some ⟨g, 0, none⟩) l4.length ucap] 32)) (.cells #[] 35)
  have hB5a : Below w4.heap.size w4 ((w4.alloc (.cells #[.int .i64 ar, .int .i64 df, .int .i64 bd, .slice (some ⟨g, 0, none⟩) l4.length ucap] 32)).alloc (.cells #[] 35)) := ((Below.refl _ _).alloc (Nat.le_refl _) _).alloc (by simp) _
  have hB5 : Below w.heap.size w ((w4.alloc (.cells #[.int .i64 ar, .int .i64 df, .int .i64 bd, .slice (some ⟨g, 0, none⟩) l4.length ucap] 32)).alloc (.cells #[] 35)) := hB.trans (hB5a.mono hB.size)
  have ho5 := (OwnRv.base ho4 (b' := w.heap.size + 2) hS1).below hB5a
  have hat5 := OwnRv.at' ho5 hl4 hwf.out
  have hlit : OwnL 35 3 rvCells (w4.heap.size + 1) ((w4.alloc (.cells #[.int .i64 ar, .int .i64 df, .int .i64 bd, .slice (some ⟨g, 0, none⟩) l4.length ucap] 32)).alloc (.cells #[] 35)) (.slice (some ⟨w4.heap.size + 1, 0, none⟩) 0 0) [] := OwnL.lit (by simp) (by simp)
  have hs5 : ((w4.alloc (.cells #[.int .i64 ar, .int .i64 df, .int .i64 bd, .slice (some ⟨g, 0, none⟩) l4.length ucap] 32)).alloc (.cells #[] 35)).heap.size = w4.heap.size + 2 := by simp
  obtain ⟨v6, w6, hra, hown6, hg6⟩ := run_append_rv 30 _ (w4.heap.size + 1) _ _ [] (l4.take m) hlit (RvAt.take hat5 (k := m) (by omega)) (by simp) (by rw [List.length_take]; omega) (by omega)
  rw [List.nil_append] at hown6
  have h6ne : ∀ j, v6.ownBlock = some j → w4.heap.size < j := fun j hj => by
    have := (OwnL.lt hown6 j hj).1
    omega
  have hG6 : ∀ j, (Value.slice (some ⟨w4.heap.size + 1, 0, none⟩) 0 0).ownBlock = some j → j = w4.heap.size + 1 := fun j hj => by simpa [Value.ownBlock] using hj.symm
  have hB6 : Below w4.heap.size w4 w6 := hB5a.grown hg6.1 (by omega) (fun j hj => by have := hG6 j hj; omega)
  have ho6 := (OwnRv.base ho4 (b' := w.heap.size + 2) hS1).below hB6
  have hat6 := OwnRv.at' ho6 hl4 hwf.out
  have hr16 := row_grown hr1 hg6.1 (fun e => by have := hG6 _ e; omega)
  have hr56 := row_grown hr5 hg6.1 (fun e => by have := hG6 _ e; omega)
  have hdv := RvAt.dropV hat6 (k := m + 1) (by omega)
  obtain ⟨x7, hx7⟩ : ∃ x7, x7 = dropV g l4.length ucap (m + 1) := ⟨_, rfl⟩
  rw [← hx7] at hdv
  obtain ⟨v7, w7, hrb, hown7, hg7⟩ := run_append_rv 30 w6 (w4.heap.size + 1) v6 x7 (l4.take m) (l4.drop (m + 1)) hown6 hdv (by rw [List.length_take]; omega) (by rw [List.length_drop]; omega) (by have := hg6.1.size; omega)
  have hr17 := row_grown hr16 hg7.1 (fun e => by have := h6ne _ e; omega)
  have hr57 := row_grown hr56 hg7.1 (fun e => by have := h6ne _ e; omega)
  have hB7 : Below w4.heap.size w4 w7 := hB6.grown hg7.1 hB6.size (fun j hj => by have := h6ne j hj; omega)
  obtain ⟨va6, n6, vc6, rfl⟩ : ∃ a n c, v6 = .slice a n c := by
    obtain ⟨a, c, e⟩ := OwnL.slice hown6
    exact ⟨a, _, c, e⟩
  obtain ⟨va, n7, vcap, rfl⟩ : ∃ a n c, v7 = .slice a n c := by
    obtain ⟨a, c, e⟩ := OwnL.slice hown7
    exact ⟨a, _, c, e⟩
  have hsub : (l4.take m ++ l4.drop (m + 1)).Sublist l4 := drop_sub l4 m
  have hin7 : Inner (w.heap.size + 2) w6 (l4.take m ++ l4.drop (m + 1)) := Inner.sub ho6.2.1 hsub
  have hO7 : OwnRv (w.heap.size + 2) w7 (.slice va n7 vcap) (l4.take m ++ l4.drop (m + 1)) := OwnRv.of_grown (w := w6) (v := .slice va6 n6 vc6) hin7 (fun x hx j hj e => by
    have h3 := h6ne j e
    have h4 := (OwnL.lt (ho4.2.1.1 x (hsub.subset hx)) j hj).2
    omega) (OwnL.base hown7 (by omega)) hg7
  have hne7 : (∀ j, (Value.slice va n7 vcap).ownBlock = some j → j ≠ w4.heap.size) ∧ ∀ x ∈ l4.take m ++ l4.drop (m + 1), ∀ j, x.v.ownBlock = some j → j ≠ w4.heap.size := by
    refine ⟨fun j hj => ?_, fun x hx j hj => ?_⟩
    · have h3 := (OwnL.lt hown7 j hj).1
      omega
    · have h4 := (OwnL.lt (ho4.2.1.1 x (hsub.subset hx)) j hj).2
      omega
  have HNE := Lib.hid hne7
  have HO := Lib.hid hO7
  have HB := Lib.hid (hB.trans (hB7.mono hB.size))
  have HLN := Lib.hid (show rls (l4.take m ++ l4.drop (m + 1)) = (rls l).take m ++ (rls l).drop (m + 1) by
    rw [← hl4]
    unfold rls
    simp)
  have hs7 : w4.heap.size < w7.heap.size := row_here hr57
  have c6 := row_cell hr56 3
  have c70 := row_cell hr57 0
  have c71 := row_cell hr57 1
  have c72 := row_cell hr57 2
  have c73 := row_cell hr57 3
  simp only [List.getElem?_toArray, List.getElem?_cons_zero, List.getElem?_cons_succ] at c6 c70 c71 c72 c73
  have f73 := frozen_row hr57 3
  have r1 := hr17
  have e0 := row_cell r1 0
  have e1 := row_cell r1 1
  have e2 := row_cell r1 2
  have e3 := row_cell r1 3
  have e4 := row_cell r1 4
  simp only [List.getElem?_toArray, List.getElem?_cons_zero, List.getElem?_cons_succ] at e0 e1 e2 e3 e4
  have f0 := frozen_row r1 0
  have f1 := frozen_row r1 1
  have f2 := frozen_row r1 2
  have f3 := frozen_row r1 3
  have f4 := frozen_row r1 4
  have hw2 : IntKind.i64.wrap ((m : Int) + 1) = (m : Int) + 1 := by rw [IntKind.wrap_i64]; omega
  have hgc0 := hgc
  have hcap0 : (m : Int) ≤ (ucap : Int) := by omega
  have hcap1 : (m : Int) + 1 ≤ (l4.length : Int) := by omega
  have hcap2 : (l4.length : Int) ≤ (ucap : Int) := by omega
  have HRA := Lib.hid hra
  have HRB := Lib.hid hrb
  have HLEN := Lib.hid hlen4
  clear hra hrb hr16 hr17 hr56 hr57 hr1 hr5 r0 r1 hb4 hg6 hg7 hlit hlen4 hne7 hO7 hin7 hsub hdv hown6 hown7 hB7 hB6 hB5 hB5a ho4 ho5 ho6 hat5 hat6 hG6 h6ne hl4 hB
  by_cases hcm : ucap = m + 1
  · have hx7' : x7 = .slice (some ⟨g, 0, none⟩) 0 0 := by rw [hx7]; unfold dropV; rw [if_pos hcm, show l4.length - (m + 1) = 0 by omega]
    clear hx7
    subst hx7' hcm
    go_wp2_with (at_builtin; first | (refine wpList_append_run rfl (.tmp 21) (.tmp 25) rfl (by rfl) (by rfl) HRA.out ?_) | (refine wpList_append_run rfl (.tmp 27) (.tmp 32) rfl (by rfl) (by rfl) HRB.out ?_))
    exact bodyPost_ret (v := .agg #[.int .i64 ar, .int .i64 df, .int .i64 bd, .slice va n7 vcap, .int .i64 0]) (by simp [results, Try.results26, go_sem, e0, e1, e2, e3, e4]) rfl ⟨_, _, by rw [HR.out] <;> rfl, by rw [HR.out]; exact HLN.out,
      ((((((HO.out.setOther (a := ⟨w4.heap.size, 3, none⟩) HNE.out.1 HNE.out.2 _).setBelow (by simp <;> omega) _).setBelow (by simp <;> omega) _).setBelow (by simp <;> omega) _).setBelow (by simp <;> omega) _).setBelow (by simp <;> omega) _).base (by omega), (((((HB.out.setCell (p := ⟨w4.heap.size, 3, none⟩) (by simp <;> omega) _).setCell (p := ⟨w.heap.size + 1, 0, none⟩) (by simp <;> omega) _).setCell (p := ⟨w.heap.size + 1, 1, none⟩) (by simp <;> omega) _).setCell (p := ⟨w.heap.size + 1, 2, none⟩) (by simp <;> omega) _).setCell (p := ⟨w.heap.size + 1, 3, none⟩) (by simp <;> omega) _).setCell (p := ⟨w.heap.size + 1, 4, none⟩) (by simp <;> omega) _⟩
  · have hx7' : x7 = .slice (some ⟨g, (m + 1) * 3, none⟩) (l4.length - (m + 1)) (ucap - (m + 1)) := by rw [hx7]; unfold dropV; rw [if_neg hcm]
    clear hx7
    subst hx7'
    have hcm2 : ¬ ucap ≤ m + 1 := by omega
    have hcm3 : ¬ ucap - (m + 1) = 0 := by omega
    go_wp2_with (at_builtin; first | (refine wpList_append_run rfl (.tmp 21) (.tmp 25) rfl (by rfl) (by rfl) HRA.out ?_) | (refine wpList_append_run rfl (.tmp 27) (.tmp 32) rfl (by rfl) (by rfl) HRB.out ?_))
    exact bodyPost_ret (v := .agg #[.int .i64 ar, .int .i64 df, .int .i64 bd, .slice va n7 vcap, .int .i64 0]) (by simp [results, Try.results26, go_sem, e0, e1, e2, e3, e4]) rfl ⟨_, _, by rw [HR.out] <;> rfl, by rw [HR.out]; exact HLN.out,
      ((((((HO.out.setOther (a := ⟨w4.heap.size, 3, none⟩) HNE.out.1 HNE.out.2 _).setBelow (by simp <;> omega) _).setBelow (by simp <;> omega) _).setBelow (by simp <;> omega) _).setBelow (by simp <;> omega) _).setBelow (by simp <;> omega) _).base (by omega), (((((HB.out.setCell (p := ⟨w4.heap.size, 3, none⟩) (by simp <;> omega) _).setCell (p := ⟨w.heap.size + 1, 0, none⟩) (by simp <;> omega) _).setCell (p := ⟨w.heap.size + 1, 1, none⟩) (by simp <;> omega) _).setCell (p := ⟨w.heap.size + 1, 2, none⟩) (by simp <;> omega) _).setCell (p := ⟨w.heap.size + 1, 3, none⟩) (by simp <;> omega) _).setCell (p := ⟨w.heap.size + 1, 4, none⟩) (by simp <;> omega) _⟩

end Go.Proofs.Ytmnmaijifhojiaa

/- What the law of rules compares: policies out. -/
set_option maxRecDepth 100000
set_option linter.unusedSimpArgs false
set_option linter.unusedVariables false
namespace Go.Proofs.Ytmnmaijifhojiaa
open Go.RowKit
attribute [local go_sem ↓] Go.wp_at_zero Go.wp_at_succ

theorem polAdd_right {p : Pol} {r : Rl} (h : (polAdd p r).2 = 0) : polRight (polAdd p r).1 = true :=
  (polAdd_ok (p := p) (r := r) (p' := (polAdd p r).1) (by rw [← h])).2.2.1
theorem polDrop_right {p : Pol} {m : Int} (h : (polDrop p m).2 = 0) : polRight (polDrop p m).1 = true := by
  unfold polDrop at h ⊢
  cases hp : polRight p with
  | false => rw [hp] at h; simp at h
  | true =>
    rw [hp] at h
    simp only [Bool.not_true, Bool.false_eq_true, if_false] at h ⊢
    cases hb : isB m 0 ((p.rs.length : Int) - 1) with
    | false => rw [hb] at h; simp at h
    | true =>
      simp only [Bool.not_true, Bool.false_eq_true, if_false]
      have hs := drop_sub p.rs m.toNat
      have hok := (polsOk_iff p.df p.rs).1 (polRight_ok hp).1
      have hlen := hs.length_le
      unfold polRight at hp ⊢
      simp only [Bool.and_eq_true, decide_eq_true_eq] at hp ⊢
      exact ⟨⟨hp.1.1, by omega⟩, (polsOk_iff _ _).2 ⟨fun r hr => hok.1 r (hs.subset hr), hok.2.sublist hs⟩⟩

set_option maxHeartbeats 3200000 in
theorem lwPolicies_same (ar df bd c : Int) (l l' : List Rv) (v1 v2 : Value) (w : World) (h1 : RvAt w w.heap.size v1 l) (h2 : RvAt w w.heap.size v2 l') (he : rls l = rls l') (hc : c = 0 → polRight ⟨ar, df, bd, rls l⟩ = true) :
    Calls Try.prog 23 #[outV ar df bd v1 c, outV ar df bd v2 c] w fun e w' => e = .returned (.bool true) ∧ Below w.heap.size w w' := by
  obtain ⟨a, cap, rfl, hlc, hcm⟩ := h1.len
  obtain ⟨a', cap', rfl, hlc', hcm'⟩ := h2.len
  unfold maxLen at hcm hcm'
  have n4 : (c == c) = true := by simp
  have HV := Lib.hid h1
  have HU := Lib.hid h2
  have HQ1 := Lib.hid (fun W (h : Below w.heap.size w W) => lwPolicy_same ar df bd l l' _ _ W (RvAt.up (RvAt.below h1 h) h.size) (RvAt.up (RvAt.below h2 h) h.size) he)
  have HB0 := Lib.hid (show Below w.heap.size w ((w.alloc (.cells #[.int .i64 ar, .int .i64 df, .int .i64 bd, .slice a l.length cap, .int .i64 c] 39)).alloc (.cells #[.int .i64 ar, .int .i64 df, .int .i64 bd, .slice a' l'.length cap', .int .i64 c] 39)) from ((Below.refl _ _).alloc (Nat.le_refl _) _).alloc (by simp) _)
  have HQ2 := Lib.hid (fun W (h : Below w.heap.size w W) => specPolicyRight_any ar df bd l _ W (RvAt.up (RvAt.below h1 h) h.size))
  have HC := Lib.hid hc
  clear h1 h2 he hc
  go_enter Try.func23, Try.ntmps23
  go_wp2_with fail
  refine (HQ1.out _ HB0.out).mono ?_
  rintro e w2 ⟨rfl, hb2⟩
  obtain ⟨r1, r2, hb, hsz⟩ := rows2 hb2
  have p0 := row_cell r1 0
  have p1 := row_cell r1 1
  have p2 := row_cell r1 2
  have p3 := row_cell r1 3
  have p4 := row_cell r1 4
  simp only [List.getElem?_toArray, List.getElem?_cons_zero, List.getElem?_cons_succ] at p0 p1 p2 p3 p4
  have HB := Lib.hid hb
  clear hb2 r1 r2 hb
  by_cases h0 : c = 0
  · have e0 : (c != 0) = false := by simpa using h0
    have HP := Lib.hid (HC.out h0)
    clear h0
    go_wp2_with fail
    refine (HQ2.out _ HB.out).mono ?_
    rintro e w3 ⟨rfl, hb3⟩
    have HB3 := Lib.hid (HB.out.trans (hb3.mono HB.out.size))
    clear hb3
    go_wp2_with fail
    go_ret
    exact ⟨ret_bool HP.out, HB3.out⟩
  · have e0 : (c != 0) = true := by simpa using h0
    go_wp2_with fail
    go_ret
    exact ⟨rfl, HB.out⟩

end Go.Proofs.Ytmnmaijifhojiaa

/- The library's Grow (of nothing), Clone and Concat at rules walked. -/
set_option maxRecDepth 100000
set_option linter.unusedVariables false
set_option linter.unusedSimpArgs false
namespace Go.Proofs.Ytmnmaijifhojiaa
open Go.RowKit Go.ChangeShapes Go.WideShapes
attribute [local go_sem ↓] Go.wp_at_zero Go.wp_at_succ

theorem wpList_append_run2 {ops : Array Oper} {rest : List Oper} {o : Oper} {a : Act} {Q : Exit → Act → World → Prop} {T U : TypeId} (hgd : o.guard = none) (s x : Operand) (ho : o.op = .call { callee := .builtin .append, args := #[s, x], argTypes := #[T, U] }) {w w' : World} {v u v' : Value}
    (hs : a.eval s = v) (hx : a.eval x = u) (hr : (Builtin.append_ #[T, U] o.type #[v, u]).run Try.prog w = .ok v' w') (h : wpList Try.prog ops Q rest (a.put o.dst v') w') : wpList Try.prog ops Q (o :: rest) a w :=
  wpList_plain hgd fun K hK => by
    unfold Oper.wp execOp
    simp only [ho, resolve, invoke, builtin, Sem.run_bind, Sem.run_pure, Result.andThen_ok, List.map_toArray, List.map_cons, List.map_nil, hs, hx, hr]
    exact hK _ _ h

theorem growRules_run (k : Nat) (w : World) (h0 : 0 < k) (hk : k ≤ 1000) : ∃ cap w', (Builtin.append_ #[30, 3] 30 #[.slice none 0 0, .int .i64 k]).run Try.prog w = .ok (.slice (some ⟨w.heap.size, 0, none⟩) k cap) w' ∧ k ≤ cap ∧
    OwnL 35 3 rvCells w.heap.size w' (.slice (some ⟨w.heap.size, 0, none⟩) 0 cap) [] ∧ Below w.heap.size w w' := by
  obtain ⟨i0, hi, hz0, hz1, hz2⟩ := info_parts info_rv
  have hr := Lib.run_append_grow_zeros (P := Try.prog) w 30 3 30 35 i0 _ .i64 .i64 Try.underlying30 Try.underlying3 hi hz0 none 0 0 [] (by simp [Builtin.firstCells, go_sem]) k h0 (by omega) (by omega) (by omega) (by rw [hz2]; omega)
    (by rw [hz2]; unfold Builtin.nextslicecap; rw [if_pos (by omega)]; omega)
  rw [Nat.zero_add] at hr
  have hge := grownCap_ge w k 0 35
  have hle := grownCap_le_maxLen w k 0 35 (by unfold maxLen; omega)
  generalize grownCap w k 0 35 = cap at *
  refine ⟨cap, _, hr, hge, ⟨by simp, .inr ⟨w.heap.size, cap, _, rfl, Nat.le_refl _, heap_alloc_new w.drew _, by simp, hle, ?_, by simp⟩⟩, (Below.refl _ _).drew.alloc (Nat.le_refl _) _⟩
  simp only [Array.size_append, size_zeroCells]
  show 0 + k * 3 + (cap - k) * 3 = cap * 3
  omega

set_option maxHeartbeats 1600000 in
theorem grow_any (k : Nat) (w : World) (hk : k ≤ 1000) :
    Calls Try.prog 113 #[.slice none 0 0, .int .i64 k] w fun e w' => ∃ u, e = .returned u ∧ OwnL 35 3 rvCells w.heap.size w' u [] ∧ Below w.heap.size w w' := by
  by_cases h0 : k = 0
  · subst h0
    go_enter Try.func113, Try.ntmps113
    go_wp2
    go_ret
    exact ⟨_, rfl, OwnL.nil _ _, Below.refl _ _⟩
  · obtain ⟨cap, w1, hr, hc, ho, hb⟩ := growRules_run k w (by omega) hk
    have HO := Lib.hid ho
    have HB := Lib.hid hb
    have hk0 : 0 < k := by omega
    have hkd : decide (0 < k) = true := by simpa using hk0
    have hc2 : (0 : Int) ≤ (cap : Int) := by omega
    clear ho hb h0
    go_enter Try.func113, Try.ntmps113
    go_wp2_with (at_builtin; refine wpList_append_run2 rfl (.tmp 20) (.tmp 21) rfl (by rfl) (by rfl) hr ?_)
    go_ret
    exact ⟨_, rfl, HO.out, HB.out⟩

theorem nil_yes (n cap : Nat) (w : World) : Sem.run Try.prog (binOp BinOp.eql 33 (.slice none n cap) (.slice none 0 0)) w = .ok (.bool true) w := by kernel_rfl
theorem nil_no (a : Addr) (n cap : Nat) (w : World) : Sem.run Try.prog (binOp BinOp.eql 33 (.slice (some a) n cap) (.slice none 0 0)) w = .ok (.bool false) w := by kernel_rfl

set_option maxHeartbeats 1600000 in
theorem clone_any (cs : List Cq) (v : Value) (w : World) (hv : CqAt w w.heap.size v cs) (hn : cs.length ≤ 1048576) :
    Calls Try.prog 101 #[v] w fun e w' => ∃ u, e = .returned u ∧ CqOwn w.heap.size w' u cs ∧ Below w.heap.size w w' := by
  obtain ⟨a, cap, rfl, hlc, hcm⟩ := hv.len
  cases a with
  | none =>
    have hcs : cs = [] := by
      obtain ⟨_, ⟨a', cap', e, _, _, h3⟩, _⟩ := hv
      cases cs with
      | nil => rfl
      | cons x l =>
        obtain ⟨b, o, e2, _⟩ := h3 (by simp)
        simp only [Value.slice.injEq] at e
        rw [← e.1] at e2
        cases e2
    subst hcs
    clear hv
    have tn := nil_yes
    go_enter Try.func101, Try.ntmps101
    go_wp2
    go_ret
    exact ⟨_, rfl, OwnL.nil _ _, Below.refl _ _⟩
  | some ad =>
    have hB0 : Below w.heap.size w (w.alloc (.cells #[] 26)) := (Below.refl _ _).alloc (Nat.le_refl _) _
    have hown0 : CqOwn w.heap.size (w.alloc (.cells #[] 26)) (.slice (some ⟨w.heap.size, 0, none⟩) 0 0) [] := OwnL.lit (by simp) (by simp)
    obtain ⟨v', w1, hr, hown, hg⟩ := run_append_cq 33 _ w.heap.size _ _ [] cs hown0 (LAt.up (LAt.below hv hB0) hB0.size) (by simp) (by omega) (by simp)
    rw [List.nil_append] at hown
    have HO := Lib.hid hown
    have HB := Lib.hid (hB0.grown hg.1 hB0.size (fun j hj => by simp [Value.ownBlock] at hj; omega))
    clear hv hown hg hown0 hB0
    have tn := nil_no
    go_enter Try.func101, Try.ntmps101
    go_wp2_with (at_builtin; refine wpList_append_run rfl (.tmp 5) (.tmp 6) rfl (by rfl) (by rfl) hr ?_)
    go_ret
    exact ⟨_, rfl, HO.out, HB.out⟩

/-- A slice of slices of rules. -/
def LsAt (w : World) (B : Nat) (v : Value) (ls : List (Value × List Rv)) : Prop := LAt (fun x : Value × List Rv => [x.1]) 1 (fun _ => True) w B v ls ∧ ∀ x ∈ ls, RvAt w B x.1 x.2
theorem LsAt.below {w w' : World} {B : Nat} {v : Value} {ls : List (Value × List Rv)} (h : LsAt w B v ls) (hb : Below B w w') : LsAt w' B v ls := ⟨h.1.below hb, fun x hx => (h.2 x hx).below hb⟩
theorem LsAt.up {w : World} {B B' : Nat} {v : Value} {ls : List (Value × List Rv)} (h : LsAt w B v ls) (hB : B ≤ B') : LsAt w B' v ls := ⟨h.1.up hB, fun x hx => (h.2 x hx).up hB⟩
def catL (ls : List (Value × List Rv)) : List Rv := ls.flatMap Prod.snd
theorem catL_take {ls : List (Value × List Rv)} {k : Nat} (h : k < ls.length) : catL (ls.take (k + 1)) = catL (ls.take k) ++ ls[k].2 := by
  unfold catL
  rw [List.take_succ_eq_append_getElem h, List.flatMap_append]
  simp
theorem catL_le (ls : List (Value × List Rv)) (k : Nat) : (catL (ls.take k)).length ≤ (catL ls).length := by
  have h : catL ls = catL (ls.take k) ++ catL (ls.drop k) := by
    unfold catL
    rw [← List.flatMap_append, List.take_append_drop]
  rw [h, List.length_append]
  omega

set_option maxHeartbeats 3200000 in
theorem concat_any (v : Value) (ls : List (Value × List Rv)) (w : World) (hv : LsAt w w.heap.size v ls) (hn : (catL ls).length ≤ 1000) :
    Calls Try.prog 100 #[v] w fun e w' => ∃ u, e = .returned u ∧ OwnL 35 3 rvCells w.heap.size w' u (catL ls) ∧ Below w.heap.size w w' := by
  obtain ⟨a, cap, rfl, hlc, hcm⟩ := hv.1.len
  unfold maxLen at hcm
  have HV := Lib.hid hv
  have HN := Lib.hid (fun k => Nat.le_trans (catL_le ls k) hn)
  clear hv
  go_enter Try.func100, Try.ntmps100
  go_wp2_with fail
  go_loopw [3, 11] (fun q i wr => ∃ k : Nat, k ≤ ls.length ∧ i = .int .i64 k ∧ q = .int .i64 ((catL (ls.take k)).length : Int) ∧ wr = w) (fun _ i _ => ls.length - (intOf i).toNat)
  case atStart => exact ⟨0, by omega, rfl, rfl, rfl⟩
  case round =>
    obtain ⟨k, hk, rfl, rfl, hwr⟩ := hrel
    have hwr' := hwr.symm
    clear hwr
    subst hwr'
    by_cases hlt : k < ls.length
    · obtain ⟨b, o, e, hb, hc, _⟩ := LAt.at_ HV.out.1 (List.getElem?_eq_getElem hlt)
      subst e
      have c0 := hc 0 _ rfl
      simp only [Nat.mul_one, Nat.add_zero] at c0
      have hrv := HV.out.2 ls[k] (List.getElem_mem hlt)
      have hnx := catL_take hlt
      have hb1 := HN.out (k + 1)
      generalize ls[k] = y at c0 hrv hnx
      obtain ⟨yv, yl⟩ := y
      simp only at c0 hrv hnx
      obtain ⟨ya, ycap, rfl, _, _⟩ := hrv.len
      rw [hnx, List.length_append] at hb1
      have hw : IntKind.i64.wrap (((catL (ls.take k)).length : Int) + (yl.length : Int)) = ((catL (ls.take k)).length : Int) + (yl.length : Int) := by rw [IntKind.wrap_i64]; omega
      have HNX := Lib.hid hnx
      have hge : decide (((catL (ls.take k)).length : Int) + (yl.length : Int) < 0) = false := by simp; omega
      clear hc hrv hnx
      go_wp2_with fail
      go_roundw
      case rel => exact ⟨k + 1, by omega, by go_num, by rw [HNX.out, List.length_append]; simp, by first | rfl | trivial⟩
      case measure => simp [intOf]; omega
    · have hkl : ls.take k = ls := List.take_of_length_le (by omega)
      rw [hkl]
      have q := grow_any (catL ls).length w hn
      have QG := Lib.hid q
      clear q hkl
      go_wp2_with fail
      refine QG.out.mono ?_
      rintro e w1 ⟨u, rfl, hu, hb1⟩
      have HU := Lib.hid hu
      have HB1 := Lib.hid hb1
      clear hu hb1
      go_wp2_with fail
      go_loopw [6, 27] (fun u i wr => ∃ k : Nat, k ≤ ls.length ∧ i = .int .i64 k ∧ OwnL 35 3 rvCells w.heap.size wr u (catL (ls.take k)) ∧ Below w.heap.size w wr) (fun _ i _ => ls.length - (intOf i).toNat)
      case atStart => exact ⟨0, by omega, rfl, HU.out, HB1.out⟩
      case round =>
        obtain ⟨k2, hk2, rfl, hown, hbs⟩ := hrel
        obtain ⟨ua, un, ucap, rfl⟩ : ∃ a n c, u6 = .slice a n c := by
          obtain ⟨a, c, e⟩ := OwnL.slice hown
          exact ⟨a, _, c, e⟩
        by_cases hlt2 : k2 < ls.length
        · obtain ⟨b, o, e, hb, hc, _⟩ := LAt.at_ (HV.out.1.below hbs) (List.getElem?_eq_getElem hlt2)
          subst e
          have c0 := hc 0 _ rfl
          simp only [Nat.mul_one, Nat.add_zero] at c0
          have hrv := RvAt.up (RvAt.below (HV.out.2 ls[k2] (List.getElem_mem hlt2)) hbs) hbs.size
          have hnx := catL_take hlt2
          have hb1 := HN.out (k2 + 1)
          generalize ls[k2] = y at c0 hrv hnx
          obtain ⟨yv, yl⟩ := y
          simp only at c0 hrv hnx
          obtain ⟨ya, yn, ycap, rfl⟩ : ∃ a n c, yv = .slice a n c := by
            obtain ⟨a, c, e, _⟩ := hrv.len
            exact ⟨a, _, c, e⟩
          rw [hnx, List.length_append] at hb1
          obtain ⟨v3, w3, hr3, hown3, hg3⟩ := run_append_rv 30 wr w.heap.size _ _ _ yl hown hrv (by omega) (by omega) hbs.size
          rw [← hnx] at hown3
          have hlow : ∀ j, (Value.slice ua un ucap).ownBlock = some j → w.heap.size ≤ j := fun j hj => (OwnL.lt hown j hj).1
          have HB3 := Lib.hid (hbs.grown hg3.1 hbs.size hlow)
          have HO3 := Lib.hid hown3
          clear hc hrv hnx hown hbs hown3 hg3 hlow hb1
          go_wp2_with (at_builtin; refine wpList_append_run rfl (.tmp 31) (.tmp 32) rfl (by rfl) (by rfl) hr3 ?_)
          go_roundw
          case rel => exact ⟨k2 + 1, by omega, by go_num, HO3.out, HB3.out⟩
          case measure => simp [intOf]; omega
        · have hkl : ls.take k2 = ls := List.take_of_length_le (by omega)
          rw [hkl] at hown
          have HO := Lib.hid hown
          have HB := Lib.hid hbs
          clear hown hbs hkl
          go_wp2_with fail
          go_ret
          exact ⟨_, rfl, HO.out, HB.out⟩

end Go.Proofs.Ytmnmaijifhojiaa

/- withRules of the program walked. -/
set_option maxRecDepth 100000
set_option linter.unusedVariables false
set_option linter.unusedSimpArgs false
namespace Go.Proofs.Ytmnmaijifhojiaa
open Go.RowKit Go.ChangeShapes Go.WideShapes
attribute [local go_sem ↓] Go.wp_at_zero Go.wp_at_succ

theorem set_same {α : Type} {l : List α} {i : Nat} {v : α} (h : l[i]? = some v) : l.set i v = l := by
  apply List.ext_getElem?
  intro j
  by_cases hj : j = i
  · subst hj
    rw [List.getElem?_set_self (List.getElem?_eq_some_iff.1 h).1, h]
  · rw [List.getElem?_set_ne (by omega)]
theorem set_third {l : List Rv} {k : Nat} {x : Rv} (u : Value) (hx : l[k]? = some x) : (l.flatMap rvCells).set (k * 3 + 2) u = (l.set k ⟨x.r, u⟩).flatMap rvCells := by
  have hlt : k < l.length := (List.getElem?_eq_some_iff.1 hx).1
  rw [← flat_set rvS (by omega) ⟨x.r, u⟩ hlt]
  show _ = (((l.flatMap rvCells).set (k * 3) (.int .i64 x.r.nr)).set (k * 3 + 1) (.int .i64 x.r.ac)).set (k * 3 + 1 + 1) u
  have h0 : (l.flatMap rvCells)[k * 3]? = some (.int .i64 x.r.nr) := flat_at rvS hx (j := 0) (by omega)
  have h1 : (l.flatMap rvCells)[k * 3 + 1]? = some (.int .i64 x.r.ac) := flat_at rvS hx (j := 1) (by omega)
  rw [set_same h0, set_same h1]

set_option maxHeartbeats 6400000 in
theorem withRules_any (ar df bd : Int) (va : Option Addr) (vn vc : Nat) (lv : Value) (ls : List (Value × List Rv)) (w : World) (hv : LsAt w w.heap.size lv ls) (hn : (catL ls).length ≤ 1000) (hc : ∀ x ∈ catL ls, x.r.cs.length ≤ 1048576) :
    Calls Try.prog 68 #[polV ar df bd (.slice va vn vc), lv] w fun e w' => ∃ u l', e = .returned (polV ar df bd u) ∧ rls l' = rls (catL ls) ∧ OwnRv w.heap.size w' u l' ∧ Below w.heap.size w w' := by
  have hB0 : Below w.heap.size w ((w.alloc (.cells #[.int .i64 ar, .int .i64 df, .int .i64 bd, .slice va vn vc] 32)).alloc (.cells #[.int .i64 0, .int .i64 0, .int .i64 0, .slice none 0 0] 32)) := ((Below.refl _ _).alloc (Nat.le_refl _) _).alloc (by simp) _
  have q := concat_any lv ls _ (LsAt.up (LsAt.below hv hB0) hB0.size) hn
  have QC := Lib.hid q
  have hat : ∀ x ∈ catL ls, CqAt w w.heap.size x.v x.r.cs ∧ x.r.wf := fun x hx => by
    obtain ⟨y, hy, hxy⟩ := List.mem_flatMap.1 hx
    exact ⟨(hv.2 y hy).2 x hxy, (hv.2 y hy).1.2.2 x hxy⟩
  have HAT := Lib.hid hat
  have HC := Lib.hid hc
  generalize catL ls = L at *
  clear q hv hat hc
  go_enter Try.func68, Try.ntmps68
  go_wp2_with fail
  refine QC.out.mono ?_
  rintro e w1 ⟨u, rfl, hu, hb1⟩
  obtain ⟨r0, r1, hB1, hS1⟩ := rows2 hb1
  obtain ⟨ua, ucap, rfl⟩ := OwnL.slice hu
  have c3 := row_cell r0 3
  simp only [List.getElem?_toArray, List.getElem?_cons_zero, List.getElem?_cons_succ] at c3
  have f3 := frozen_row r0 3
  have hu2 : OwnL 35 3 rvCells (w.heap.size + 2) w1 (.slice ua L.length ucap) L := OwnL.base hu (by simp)
  have R0 := Lib.hid r0
  have R1 := Lib.hid r1
  have HU := Lib.hid hu2
  have HB1 := Lib.hid hB1
  clear hb1 r0 r1 hu hu2 hB1
  go_wp2_with fail
  go_loopw [13] (fun i wr => ∃ (k : Nat) (l' : List Rv), k ≤ L.length ∧ i = .int .i64 k ∧ l'.length = k ∧ rls l' = rls (L.take k) ∧ wr.heap[w.heap.size]? = some (.cells #[.int .i64 ar, .int .i64 df, .int .i64 bd, .slice ua L.length ucap] 32 (0, 0)) ∧
      wr.heap[w.heap.size + 1]? = some (.cells #[.int .i64 0, .int .i64 0, .int .i64 0, .slice none 0 0] 32 (0, 0)) ∧ wr.ownsRow (w.heap.size + 2) 35 3 (.slice ua L.length ucap) L.length ((l' ++ L.drop k).flatMap rvCells) ∧
      Inner (w.heap.size + 2) wr l' ∧ (∀ x ∈ l', Disj x.v (.slice ua L.length ucap)) ∧ Below w.heap.size w wr ∧ w.heap.size + 2 ≤ wr.heap.size) (fun i _ => L.length - (intOf i).toNat)
  case atStart => exact ⟨0, [], by omega, rfl, rfl, rfl, row_put R0.out 3 _, row_other R1.out 3 _ (by omega), HU.out.setBelow (by simp) _, Inner.nil _ _, fun x hx => by simp at hx, HB1.out.setCell (p := ⟨w.heap.size, 3, none⟩) (Nat.le_refl _) _, by simp [World.setCell]; omega⟩
  case round =>
    obtain ⟨k, l', hk, rfl, hl', hrl, r0, r1, hown, hin, hdj, hbw, hsz⟩ := hrel
    clear c3 f3
    have c3 := row_cell r0 3
    simp only [List.getElem?_toArray, List.getElem?_cons_zero, List.getElem?_cons_succ] at c3
    by_cases hlt : k < L.length
    · obtain ⟨g, cap2, cur, e, hg0, hgr, hgc, hgm, _, _⟩ : ∃ g cap cur, (Value.slice ua L.length ucap) = .slice (some ⟨g, 0, none⟩) L.length cap ∧ w.heap.size + 2 ≤ g ∧ wr.heap[g]? = some (.cells cur 35 (0, 0)) ∧ L.length ≤ cap ∧ cap ≤ maxLen ∧ cur.size = cap * 3 ∧ cur.toList.take (L.length * 3) = ((l' ++ L.drop k).flatMap rvCells) := by
        rcases hown.2 with ⟨_, hn0⟩ | h
        · omega
        · exact h
      simp only [Value.slice.injEq, true_and] at e
      obtain ⟨rfl, rfl⟩ := e
      have hget : (l' ++ L.drop k)[k]? = some L[k] := by rw [List.getElem?_append_right (by omega), hl', Nat.sub_self, List.getElem?_drop]; simp [hlt]
      obtain ⟨d0, d1, d2, f0, f1, f2⟩ := rv_own_at hown hget
      have hth := fun u2 => set_third u2 hget
      have htn := fun x => (turnL (l := L) hl' hlt x).2
      obtain ⟨hcq0, hwf0⟩ := HAT.out L[k] (List.getElem_mem hlt)
      have hcl := HC.out L[k] (List.getElem_mem hlt)
      have htk : rls (L.take (k + 1)) = rls (L.take k) ++ [L[k].r] := by rw [List.take_succ_eq_append_getElem hlt, rls_append]; rfl
      generalize L[k] = y at d0 d1 d2 hcq0 htk hcl hth
      obtain ⟨⟨xn, xc, ds⟩, xv⟩ := y
      simp only at d0 d1 d2 hcq0 htk hcl hth
      obtain ⟨xva, xcap, rfl, _, _⟩ := hcq0.len
      have hcq := LAt.up (LAt.below hcq0 hbw) hbw.size
      have hglt : g < wr.heap.size := row_here hgr
      have hBA : Below wr.heap.size wr (wr.alloc (.cells #[.int .i64 xn, .int .i64 xc, .slice xva ds.length xcap] 35)) := (Below.refl _ _).alloc (Nat.le_refl _) _
      have hcl1 := fun W (h : Below wr.heap.size wr W) => clone_any ds _ W (LAt.up (LAt.below hcq h) h.size) hcl
      have QCl := Lib.hid hcl1
      have hkeep : ∀ w2 : World, Below (wr.alloc (.cells #[.int .i64 xn, .int .i64 xc, .slice xva ds.length xcap] 35)).drew.heap.size (wr.alloc (.cells #[.int .i64 xn, .int .i64 xc, .slice xva ds.length xcap] 35)).drew w2 → (w2.cell? ⟨w.heap.size, 3, none⟩ = some (.slice (some ⟨g, 0, none⟩) L.length ucap) ∧ w2.cell? ⟨wr.heap.size, 2, none⟩ = some (.slice xva ds.length xcap) ∧ w2.cell? ⟨g, k * 3 + 2, none⟩ = some (.slice xva ds.length xcap) ∧ w2.frozen? ⟨g, k * 3 + 2, none⟩ = false) := fun w2 hb2 => by
        have hb3 : Below (wr.alloc (.cells #[.int .i64 xn, .int .i64 xc, .slice xva ds.length xcap] 35)).heap.size (wr.alloc (.cells #[.int .i64 xn, .int .i64 xc, .slice xva ds.length xcap] 35)) w2 := ((Below.refl _ _).drew).trans hb2
        have hb4 := box_below hb3
        exact ⟨row_cell (below_row hb4 r0) 3, box_cell hb3 2, (World.cell?_of_block (hb4.block g hglt)).trans d2, (hb4.frozen (p := ⟨g, k * 3 + 2, none⟩) hglt).trans f2⟩
      have HK := Lib.hid hkeep
      have HTH := Lib.hid (fun u2 => (hth u2).trans (congrArg (List.flatMap rvCells) (htn _)))
      have R0 := Lib.hid r0
      have R1 := Lib.hid r1
      have HOWN := Lib.hid hown
      have HIN := Lib.hid hin
      have HDJ := Lib.hid hdj
      have HBW := Lib.hid hbw
      have HRL := Lib.hid hrl
      have HL := Lib.hid hl'
      have HTK := Lib.hid htk
      have hltw : w.heap.size < wr.heap.size := by omega
      clear hcl1 hkeep hth htn r0 r1 hown hin hdj hbw hrl hl' htk hcq hcq0 hwf0 hget hgr
      go_wp2_with fail
      go_region_law ((go_simp; (with_reducible refine (QCl.out _ hBA.drew).mono ?_); rintro e w2 ⟨u2, rfl, hu2, hb2⟩; obtain ⟨ub, ubcap, rfl⟩ := OwnL.slice hu2; obtain ⟨k0, k1, k2, k3⟩ := HK.out _ hb2; dsimp only))
      all_goals
        have hb3 : Below wr.heap.size wr w2 := box_below (((Below.refl _ _).drew).trans hb2)
        have hu3 : CqOwn wr.heap.size w2 (.slice ub ds.length ubcap) ds := OwnL.base hu2 (by show wr.heap.size ≤ (wr.alloc _).heap.size; simp)
        have hset := ((own_below HOWN.out hb3).stored (k * 3 + 2) (.slice ub ds.length ubcap)).1
        rw [HTH.out] at hset
        have hin2 : Inner (w.heap.size + 2) w2 (l' ++ [⟨⟨xn, xc, ds⟩, .slice ub ds.length ubcap⟩]) := Inner.snoc HIN.out hb3 hu3 hsz
        have hdj2 : ∀ x ∈ l' ++ [(⟨⟨xn, xc, ds⟩, .slice ub ds.length ubcap⟩ : Rv)], Disj x.v (.slice (some ⟨g, 0, none⟩) L.length ucap) := fun x hx => by
          rcases List.mem_append.1 hx with h1 | h1
          · exact HDJ.out x h1
          · obtain rfl : x = ⟨⟨xn, xc, ds⟩, .slice ub ds.length ubcap⟩ := by simpa using h1
            intro j hj e
            have h2 := (OwnL.lt hu3 j hj).1
            simp [Value.ownBlock] at e
            omega
        have hin3 : Inner (w.heap.size + 2) (w2.setCell ⟨g, k * 3 + 2, none⟩ (.slice ub ds.length ubcap)) (l' ++ [⟨⟨xn, xc, ds⟩, .slice ub ds.length ubcap⟩]) := hin2.keep fun x hx j hj => Below.heap_setCell w2 ⟨g, k * 3 + 2, none⟩ _ j (fun e => hdj2 x hx j hj (by rw [e]; rfl))
        have HA := Lib.hid (row_other (below_row hb3 R0.out) (k * 3 + 2) (.slice ub ds.length ubcap) (h := g) (by omega))
        have HB := Lib.hid (row_other (below_row hb3 R1.out) (k * 3 + 2) (.slice ub ds.length ubcap) (h := g) (by omega))
        have HS := Lib.hid hset
        have HI := Lib.hid hin3
        have HD := Lib.hid hdj2
        have HW := Lib.hid ((HBW.out.trans (hb3.mono HBW.out.size)).setCell (p := ⟨g, k * 3 + 2, none⟩) (by show w.heap.size ≤ g; omega) (.slice ub ds.length ubcap))
        have HZ := Lib.hid (show w.heap.size + 2 ≤ (w2.setCell ⟨g, k * 3 + 2, none⟩ (.slice ub ds.length ubcap)).heap.size by have := hb3.size; simp [World.setCell]; omega)
        have HRN := Lib.hid (show rls (l' ++ [⟨⟨xn, xc, ds⟩, .slice ub ds.length ubcap⟩]) = rls (L.take (k + 1)) by rw [rls_append, HRL.out, HTK.out]; rfl)
        have HLN := Lib.hid (show (l' ++ [(⟨⟨xn, xc, ds⟩, .slice ub ds.length ubcap⟩ : Rv)]).length = k + 1 by rw [List.length_append, HL.out]; rfl)
        clear hset hin2 hin3 hdj2 hu3 hu2 hb2 hb3 k0 k1 k2 k3
        go_wp2_with fail
        go_roundw
        case rel => exact ⟨k + 1, _, by omega, by go_num, HLN.out, HRN.out, HA.out, HB.out, HS.out, HI.out, HD.out, HW.out, HZ.out⟩
        case measure => simp [intOf]; omega
    · have hkl : k = L.length := by omega
      have hO : OwnRv (w.heap.size + 2) wr (.slice ua L.length ucap) l' := by
        refine ⟨?_, hin, hdj⟩
        unfold OwnL
        rw [hl', hkl]
        rw [hkl, List.drop_length, List.append_nil] at hown
        exact hown
      have HT := Lib.hid (show rls l' = rls L by rw [hrl, hkl, List.take_length])
      have HO := Lib.hid hO
      have HB := Lib.hid hbw
      have c0 := row_cell r0 0
      have c1 := row_cell r0 1
      have c2 := row_cell r0 2
      have d0 := row_cell r1 0
      have d1 := row_cell r1 1
      have d2 := row_cell r1 2
      have d3 := row_cell r1 3
      simp only [List.getElem?_toArray, List.getElem?_cons_zero, List.getElem?_cons_succ] at c0 c1 c2 d0 d1 d2 d3
      have g0 := frozen_row r1 0
      have g1 := frozen_row r1 1
      have g2 := frozen_row r1 2
      have g3 := frozen_row r1 3
      clear r0 r1 hown hin hdj hbw hrl hl' hO
      go_wp2_with fail
      exact bodyPost_ret (v := polV ar df bd (.slice ua L.length ucap)) (by simp [results, Try.results68, go_sem, d0, d1, d2, d3]) rfl
        ⟨_, l', rfl, HT.out, ((((HO.out.setBelow (by simp) _).setBelow (by simp) _).setBelow (by simp) _).setBelow (by simp) _).base (by omega),
          (((HB.out.setCell (p := ⟨w.heap.size + 1, 0, none⟩) (by simp) _).setCell (p := ⟨w.heap.size + 1, 1, none⟩) (by simp) _).setCell (p := ⟨w.heap.size + 1, 2, none⟩) (by simp) _).setCell (p := ⟨w.heap.size + 1, 3, none⟩) (by simp) _⟩

end Go.Proofs.Ytmnmaijifhojiaa

/- PolicyAdd of the program walked. -/
set_option maxRecDepth 100000
set_option linter.unusedVariables false
set_option linter.unusedSimpArgs false
namespace Go.Proofs.Ytmnmaijifhojiaa
open Go.RowKit Go.ChangeShapes Go.WideShapes
attribute [local go_sem ↓] Go.wp_at_zero Go.wp_at_succ

theorem fst_flat : ∀ ls : List (Value × List Rv), ls.flatMap (fun x : Value × List Rv => [x.1]) = ls.map Prod.fst
  | [] => rfl
  | x :: l => by rw [List.flatMap_cons, List.map_cons, fst_flat l]; rfl
theorem LsAt.of_row {w : World} {vs : List Value} {ls : List (Value × List Rv)} {T : TypeId} (hm : vs = ls.map Prod.fst) (h : ∀ x ∈ ls, RvAt w w.heap.size x.1 x.2) (hl : ls.length ≤ 1000) :
    LsAt (w.alloc (.cells vs.toArray T)) (w.alloc (.cells vs.toArray T)).heap.size (.slice (some ⟨w.heap.size, 0, none⟩) ls.length ls.length) ls := by
  have hb : Below w.heap.size w (w.alloc (.cells vs.toArray T)) := (Below.refl _ _).alloc (Nat.le_refl _) _
  refine ⟨⟨fun x => rfl, ⟨_, ls.length, rfl, Nat.le_refl _, by unfold maxLen; omega, fun _ => ⟨w.heap.size, 0, rfl, by simp, fun i c hi => ?_⟩⟩, fun _ _ => trivial⟩, fun x hx => RvAt.up (RvAt.below (h x hx) hb) hb.size⟩
  have hf : ls.flatMap (fun x : Value × List Rv => [x.1]) = vs := by rw [hm]; exact fst_flat ls
  rw [hf] at hi
  rw [Nat.zero_add, World.cell?_alloc_at _ _ _ _ rfl]
  simpa using hi
theorem RvAt.lit {w : World} {nr ac : Int} {cs : List Cq} {v : Value} (hv : CqAt w w.heap.size v cs) (hw : In64 nr ∧ In64 ac) : RvAt (w.alloc (.cells #[.int .i64 nr, .int .i64 ac, v] 35)) (w.alloc (.cells #[.int .i64 nr, .int .i64 ac, v] 35)).heap.size (.slice (some ⟨w.heap.size, 0, none⟩) 1 1) [⟨⟨nr, ac, cs⟩, v⟩] := by
  have hb : Below w.heap.size w (w.alloc (.cells #[.int .i64 nr, .int .i64 ac, v] 35)) := (Below.refl _ _).alloc (Nat.le_refl _) _
  refine ⟨⟨rvS, ⟨_, 1, rfl, Nat.le_refl _, by unfold maxLen; omega, fun _ => ⟨w.heap.size, 0, rfl, by simp, fun i c hi => ?_⟩⟩, fun x hx => by obtain rfl : x = ⟨⟨nr, ac, cs⟩, v⟩ := (by simpa using hx); exact hw⟩, fun x hx => by
    obtain rfl : x = ⟨⟨nr, ac, cs⟩, v⟩ := (by simpa using hx)
    exact LAt.up (LAt.below hv hb) hb.size⟩
  rw [Nat.zero_add, World.cell?_alloc_at _ _ _ _ rfl]
  simpa [rvCells] using hi
theorem rlRight_wf {nr ac : Int} {cs : List Cq} (h : rlRight ⟨nr, ac, cs⟩ = true) : In64 nr ∧ In64 ac := by
  unfold rlRight isB at h
  simp only [Bool.and_eq_true, decide_eq_true_eq] at h
  obtain ⟨⟨⟨h1, h2⟩, _⟩, _⟩ := h
  unfold In64
  omega

set_option maxHeartbeats 12800000 in
theorem implPolicyAdd_any (ar df bd : Int) (l : List Rv) (nr ac : Int) (cs : List Cq) (v u : Value) (w : World) (hv : RvAt w w.heap.size v l) (hu : CqAt w w.heap.size u cs) :
    Calls Try.prog 16 #[polV ar df bd v, .agg #[.int .i64 nr, .int .i64 ac, u]] w (PolEnd w.heap.size w (polAdd ⟨ar, df, bd, rls l⟩ ⟨nr, ac, cs⟩)) := by
  have q1 := fun W (h : Below w.heap.size w W) => implPolicyRight_any ar df bd l _ W (RvAt.up (RvAt.below hv h) h.size)
  have q2 := fun W (h : Below w.heap.size w W) => implRuleRight_any nr ac cs _ W (LAt.up (LAt.below hu h) h.size)
  have q3 := fun W (h : Below w.heap.size w W) (hr : rlRight ⟨nr, ac, cs⟩ = true) => hasRule_any _ _ l nr ac cs W (RvAt.up (RvAt.below hv h) h.size) (LAt.up (LAt.below hu h) h.size) hr
  obtain ⟨a, cap, rfl, hlc, hcm⟩ := hv.len
  obtain ⟨ra, rcap, rfl, hlc', hcm'⟩ := hu.len
  unfold maxLen at hcm hcm'
  have hll : (rls l).length = l.length := by simp [rls]
  have hd : polAdd ⟨ar, df, bd, rls l⟩ ⟨nr, ac, cs⟩ = (if !(polRight ⟨ar, df, bd, rls l⟩ && rlRight ⟨nr, ac, cs⟩) then (pol0, 1) else if ac = df then (pol0, 10) else if hasR (rls l) ⟨nr, ac, cs⟩ then (⟨ar, df, bd, rls l⟩, 0) else if 24 ≤ (rls l).length then (pol0, 9) else (⟨ar, df, bd, rls l ++ [⟨nr, ac, cs⟩]⟩, 0)) := rfl
  rw [hll] at hd
  generalize polAdd ⟨ar, df, bd, rls l⟩ ⟨nr, ac, cs⟩ = res at hd ⊢
  have HB0 := Lib.hid (show Below w.heap.size w (((w.alloc (.cells #[.int .i64 ar, .int .i64 df, .int .i64 bd, .slice a l.length cap] 32)).alloc (.cells #[.int .i64 nr, .int .i64 ac, .slice ra cs.length rcap] 35)).alloc (.cells #[.int .i64 0, .int .i64 0, .int .i64 0, .slice none 0 0, .int .i64 0] 39)) from (((Below.refl _ _).alloc (Nat.le_refl _) _).alloc (by simp) _).alloc (by simp <;> omega) _)
  cases h1 : polRight ⟨ar, df, bd, rls l⟩ <;> rw [h1] at q1
  · have HR := Lib.hid (show res = (pol0, 1) by rw [hd, h1]; rfl)
    have Q1 := Lib.hid q1
    clear hd q1 q2 q3 h1 hv hu
    go_enter Try.func16, Try.ntmps16
    go_wp2_with fail
    refine (Q1.out _ HB0.out).mono ?_
    rintro e w1 ⟨rfl, hb1⟩
    obtain ⟨r0, r1, r2, hB, _⟩ := rows3 hb1
    have e0 := row_cell r2 0
    have e1 := row_cell r2 1
    have e2 := row_cell r2 2
    have e3 := row_cell r2 3
    have e4 := row_cell r2 4
    simp only [List.getElem?_toArray, List.getElem?_cons_zero, List.getElem?_cons_succ] at e0 e1 e2 e3 e4
    have f0 := frozen_row r2 0
    have f1 := frozen_row r2 1
    have f2 := frozen_row r2 2
    have f3 := frozen_row r2 3
    have f4 := frozen_row r2 4
    have HB := Lib.hid hB
    clear hb1 r0 r1 r2 hB
    go_wp2_with fail
    exact bodyPost_ret (v := .agg #[.int .i64 0, .int .i64 0, .int .i64 0, .slice none 0 0, .int .i64 1]) (by simp [results, Try.results16, go_sem, e0, e1, e2, e3, e4]) rfl ⟨_, [], by rw [HR.out] <;> rfl, by rw [HR.out] <;> rfl, ⟨OwnL.nil _ _, Inner.nil _ _, fun x hx => by simp at hx⟩, ((((HB.out.setCell (p := ⟨w.heap.size + 1 + 1, 0, none⟩) (by simp <;> omega) _).setCell (p := ⟨w.heap.size + 1 + 1, 1, none⟩) (by simp <;> omega) _).setCell (p := ⟨w.heap.size + 1 + 1, 2, none⟩) (by simp <;> omega) _).setCell (p := ⟨w.heap.size + 1 + 1, 3, none⟩) (by simp <;> omega) _).setCell (p := ⟨w.heap.size + 1 + 1, 4, none⟩) (by simp <;> omega) _⟩
  cases h2 : rlRight ⟨nr, ac, cs⟩ <;> rw [h2] at q2
  · have HR := Lib.hid (show res = (pol0, 1) by rw [hd, h1, h2]; rfl)
    have Q1 := Lib.hid q1
    have Q2 := Lib.hid q2
    clear hd q1 q2 q3 h1 h2 hv hu
    go_enter Try.func16, Try.ntmps16
    go_wp2_with fail
    refine (Q1.out _ HB0.out).mono ?_
    rintro e w1 ⟨rfl, hb1⟩
    obtain ⟨r0, r1, r2, hB, _⟩ := rows3 hb1
    have d0 := row_cell r1 0
    have d1 := row_cell r1 1
    have d2 := row_cell r1 2
    simp only [List.getElem?_toArray, List.getElem?_cons_zero, List.getElem?_cons_succ] at d0 d1 d2
    have HB1 := Lib.hid hb1
    have HBw := Lib.hid hB
    clear hb1 r0 r1 r2 hB
    go_wp2_with fail
    refine (Q2.out _ HBw.out).mono ?_
    rintro e w2 ⟨rfl, hb2⟩
    obtain ⟨r0, r1, r2, hB, _⟩ := rows3 (HB1.out.trans (hb2.mono HB1.out.size))
    clear d0 d1 d2
    have e0 := row_cell r2 0
    have e1 := row_cell r2 1
    have e2 := row_cell r2 2
    have e3 := row_cell r2 3
    have e4 := row_cell r2 4
    simp only [List.getElem?_toArray, List.getElem?_cons_zero, List.getElem?_cons_succ] at e0 e1 e2 e3 e4
    have f0 := frozen_row r2 0
    have f1 := frozen_row r2 1
    have f2 := frozen_row r2 2
    have f3 := frozen_row r2 3
    have f4 := frozen_row r2 4
    have HB := Lib.hid hB
    clear hb2 r0 r1 r2 hB
    go_wp2_with fail
    exact bodyPost_ret (v := .agg #[.int .i64 0, .int .i64 0, .int .i64 0, .slice none 0 0, .int .i64 1]) (by simp [results, Try.results16, go_sem, e0, e1, e2, e3, e4]) rfl ⟨_, [], by rw [HR.out] <;> rfl, by rw [HR.out] <;> rfl, ⟨OwnL.nil _ _, Inner.nil _ _, fun x hx => by simp at hx⟩, ((((HB.out.setCell (p := ⟨w.heap.size + 1 + 1, 0, none⟩) (by simp <;> omega) _).setCell (p := ⟨w.heap.size + 1 + 1, 1, none⟩) (by simp <;> omega) _).setCell (p := ⟨w.heap.size + 1 + 1, 2, none⟩) (by simp <;> omega) _).setCell (p := ⟨w.heap.size + 1 + 1, 3, none⟩) (by simp <;> omega) _).setCell (p := ⟨w.heap.size + 1 + 1, 4, none⟩) (by simp <;> omega) _⟩
  rw [h1, h2, Bool.true_and, Bool.not_true, if_neg (by simp)] at hd
  have Q1 := Lib.hid q1
  have Q2 := Lib.hid q2
  by_cases hac : ac = df
  · rw [if_pos hac] at hd
    have HR := Lib.hid hd
    have hacb : (ac == df) = true := by simpa using hac
    clear hd q1 q2 q3 h1 h2 hv hu hac
    go_enter Try.func16, Try.ntmps16
    go_wp2_with fail
    refine (Q1.out _ HB0.out).mono ?_
    rintro e w1 ⟨rfl, hb1⟩
    obtain ⟨r0, r1, r2, hB, _⟩ := rows3 hb1
    have d0 := row_cell r1 0
    have d1 := row_cell r1 1
    have d2 := row_cell r1 2
    simp only [List.getElem?_toArray, List.getElem?_cons_zero, List.getElem?_cons_succ] at d0 d1 d2
    have HB1 := Lib.hid hb1
    have HBw := Lib.hid hB
    clear hb1 r0 r1 r2 hB
    go_wp2_with fail
    refine (Q2.out _ HBw.out).mono ?_
    rintro e w2 ⟨rfl, hb2⟩
    obtain ⟨r0, r1, r2, hB, _⟩ := rows3 (HB1.out.trans (hb2.mono HB1.out.size))
    clear d0 d1 d2
    have c1 := row_cell r0 1
    have d1 := row_cell r1 1
    simp only [List.getElem?_toArray, List.getElem?_cons_zero, List.getElem?_cons_succ] at c1 d1
    have e0 := row_cell r2 0
    have e1 := row_cell r2 1
    have e2 := row_cell r2 2
    have e3 := row_cell r2 3
    have e4 := row_cell r2 4
    simp only [List.getElem?_toArray, List.getElem?_cons_zero, List.getElem?_cons_succ] at e0 e1 e2 e3 e4
    have f0 := frozen_row r2 0
    have f1 := frozen_row r2 1
    have f2 := frozen_row r2 2
    have f3 := frozen_row r2 3
    have f4 := frozen_row r2 4
    have HB := Lib.hid hB
    clear hb2 r0 r1 r2 hB
    go_wp2_with fail
    exact bodyPost_ret (v := .agg #[.int .i64 0, .int .i64 0, .int .i64 0, .slice none 0 0, .int .i64 10]) (by simp [results, Try.results16, go_sem, e0, e1, e2, e3, e4]) rfl ⟨_, [], by rw [HR.out] <;> rfl, by rw [HR.out] <;> rfl, ⟨OwnL.nil _ _, Inner.nil _ _, fun x hx => by simp at hx⟩, ((((HB.out.setCell (p := ⟨w.heap.size + 1 + 1, 0, none⟩) (by simp <;> omega) _).setCell (p := ⟨w.heap.size + 1 + 1, 1, none⟩) (by simp <;> omega) _).setCell (p := ⟨w.heap.size + 1 + 1, 2, none⟩) (by simp <;> omega) _).setCell (p := ⟨w.heap.size + 1 + 1, 3, none⟩) (by simp <;> omega) _).setCell (p := ⟨w.heap.size + 1 + 1, 4, none⟩) (by simp <;> omega) _⟩
  rw [if_neg hac] at hd
  have hacb : (ac == df) = false := by simpa using hac
  have hlen24 := (polRight_rules h1).1
  have hcl : ∀ x ∈ l, x.r.cs.length ≤ 1048576 := fun x hx => by have h3 : x.r.cs.length ≤ 3 := (rlRight_cs (nr := x.r.nr) (ac := x.r.ac) ((polRight_rules h1).2 x hx)).1; omega
  have hcs3 : cs.length ≤ 1048576 := by have := (rlRight_cs h2).1; omega
  have hwf3 := rlRight_wf h2
  have qp1 := fun W (h : Below w.heap.size w W) => withRules_any ar df bd a l.length cap _ [(.slice a l.length cap, l)] _ (LsAt.of_row (T := 30) (vs := [.slice a l.length cap]) rfl (fun x hx => by obtain rfl : x = (.slice a l.length cap, l) := (by simpa using hx); exact RvAt.up (RvAt.below hv h) h.size) (by simp)) (by simp [catL]; omega) (fun x hx => hcl x (by simpa [catL] using hx))
  have qp2 := fun W (h : Below w.heap.size w W) => by
    have hB := (Below.refl W.heap.size W).alloc (Nat.le_refl _) (.cells #[.int .i64 nr, .int .i64 ac, .slice ra cs.length rcap] 35)
    exact withRules_any ar df bd a l.length cap _ [(.slice a l.length cap, l), (.slice (some ⟨W.heap.size, 0, none⟩) 1 1, [⟨⟨nr, ac, cs⟩, .slice ra cs.length rcap⟩])] _ (LsAt.of_row (T := 30) (w := W.alloc (.cells #[.int .i64 nr, .int .i64 ac, .slice ra cs.length rcap] 35)) (vs := [.slice a l.length cap, .slice (some ⟨W.heap.size, 0, none⟩) 1 1]) rfl (fun x hx => by
      rcases List.mem_cons.1 hx with e | e
      · subst e
        have h4 := h.trans (hB.mono h.size)
        exact RvAt.up (RvAt.below hv h4) h4.size
      · obtain rfl : x = (.slice (some ⟨W.heap.size, 0, none⟩) 1 1, [⟨⟨nr, ac, cs⟩, .slice ra cs.length rcap⟩]) := (by simpa using e)
        exact RvAt.lit (LAt.up (LAt.below hu h) h.size) hwf3) (by simp)) (by simp [catL]; omega) (fun x hx => by
      have h5 : x ∈ l ∨ x = ⟨⟨nr, ac, cs⟩, .slice ra cs.length rcap⟩ := by simpa [catL] using hx
      rcases h5 with h5 | h5
      · exact hcl x h5
      · rw [h5]; exact hcs3)
  simp only [List.length_cons, List.length_nil, Nat.zero_add, Nat.reduceAdd, World.size_alloc] at qp1 qp2
  have Q3 := Lib.hid (fun W h => q3 W h h2)
  have QP := Lib.hid qp1
  have QD := Lib.hid qp2
  clear q1 q2 q3 qp1 qp2 h1 h2 hv hu hac hcl hcs3 hwf3
  cases hh : hasR (rls l) ⟨nr, ac, cs⟩
  · rw [hh] at hd Q3
    rw [if_neg (by simp)] at hd
    by_cases h24 : 24 ≤ l.length
    · rw [if_pos h24] at hd
      have HR := Lib.hid hd
      have h24e : l.length = 24 := by omega
      have h24b : ((l.length : Int) == 24) = true := by rw [h24e]; rfl
      clear h24 h24e
      clear hd hh
      go_enter Try.func16, Try.ntmps16
      go_wp2_with fail
      refine (Q1.out _ HB0.out).mono ?_
      rintro e w1 ⟨rfl, hb1⟩
      obtain ⟨r0, r1, r2, hB, _⟩ := rows3 hb1
      have d0 := row_cell r1 0
      have d1 := row_cell r1 1
      have d2 := row_cell r1 2
      simp only [List.getElem?_toArray, List.getElem?_cons_zero, List.getElem?_cons_succ] at d0 d1 d2
      have HB1 := Lib.hid hb1
      have HBw := Lib.hid hB
      clear hb1 r0 r1 r2 hB
      go_wp2_with fail
      refine (Q2.out _ HBw.out).mono ?_
      rintro e w2 ⟨rfl, hb2⟩
      have HB2 := Lib.hid (HB1.out.trans (hb2.mono HB1.out.size))
      clear hb2 d0 d1 d2
      obtain ⟨r0, r1, r2, hB, _⟩ := rows3 HB2.out
      have c1 := row_cell r0 1
      have c3 := row_cell r0 3
      have d0 := row_cell r1 0
      have d1 := row_cell r1 1
      have d2 := row_cell r1 2
      simp only [List.getElem?_toArray, List.getElem?_cons_zero, List.getElem?_cons_succ] at c1 c3 d0 d1 d2
      have HBw2 := Lib.hid hB
      clear r0 r1 r2 hB
      go_wp2_with fail
      refine (Q3.out _ HBw2.out).mono ?_
      rintro e w3 ⟨rfl, hb3⟩
      have HB3 := Lib.hid (HB2.out.trans (hb3.mono HB2.out.size))
      clear hb3 c1 c3 d0 d1 d2
      obtain ⟨r0, r1, r2, hB, hS3⟩ := rows3 HB3.out
      have c0 := row_cell r0 0
      have c1 := row_cell r0 1
      have c2 := row_cell r0 2
      have c3 := row_cell r0 3
      simp only [List.getElem?_toArray, List.getElem?_cons_zero, List.getElem?_cons_succ] at c0 c1 c2 c3
      have e0 := row_cell r2 0
      have e1 := row_cell r2 1
      have e2 := row_cell r2 2
      have e3 := row_cell r2 3
      have e4 := row_cell r2 4
      simp only [List.getElem?_toArray, List.getElem?_cons_zero, List.getElem?_cons_succ] at e0 e1 e2 e3 e4
      have f0 := frozen_row r2 0
      have f1 := frozen_row r2 1
      have f2 := frozen_row r2 2
      have f3 := frozen_row r2 3
      have f4 := frozen_row r2 4
      have HB := Lib.hid hB
      clear r0 r1 r2 hB
      go_wp2_with fail
      exact bodyPost_ret (v := .agg #[.int .i64 0, .int .i64 0, .int .i64 0, .slice none 0 0, .int .i64 9]) (by simp [results, Try.results16, go_sem, e0, e1, e2, e3, e4]) rfl ⟨_, [], by rw [HR.out] <;> rfl, by rw [HR.out] <;> rfl, ⟨OwnL.nil _ _, Inner.nil _ _, fun x hx => by simp at hx⟩, ((((HB.out.setCell (p := ⟨w.heap.size + 1 + 1, 0, none⟩) (by simp <;> omega) _).setCell (p := ⟨w.heap.size + 1 + 1, 1, none⟩) (by simp <;> omega) _).setCell (p := ⟨w.heap.size + 1 + 1, 2, none⟩) (by simp <;> omega) _).setCell (p := ⟨w.heap.size + 1 + 1, 3, none⟩) (by simp <;> omega) _).setCell (p := ⟨w.heap.size + 1 + 1, 4, none⟩) (by simp <;> omega) _⟩
    · rw [if_neg h24] at hd
      have HR := Lib.hid hd
      have h24' : decide (24 ≤ l.length) = false := by simpa using h24
      have h24z : ((l.length : Int) == 24) = false := by simp; omega
      clear hd hh h24
      go_enter Try.func16, Try.ntmps16
      go_wp2_with fail
      refine (Q1.out _ HB0.out).mono ?_
      rintro e w1 ⟨rfl, hb1⟩
      obtain ⟨r0, r1, r2, hB, _⟩ := rows3 hb1
      have d0 := row_cell r1 0
      have d1 := row_cell r1 1
      have d2 := row_cell r1 2
      simp only [List.getElem?_toArray, List.getElem?_cons_zero, List.getElem?_cons_succ] at d0 d1 d2
      have HB1 := Lib.hid hb1
      have HBw := Lib.hid hB
      clear hb1 r0 r1 r2 hB
      go_wp2_with fail
      refine (Q2.out _ HBw.out).mono ?_
      rintro e w2 ⟨rfl, hb2⟩
      have HB2 := Lib.hid (HB1.out.trans (hb2.mono HB1.out.size))
      clear hb2 d0 d1 d2
      obtain ⟨r0, r1, r2, hB, _⟩ := rows3 HB2.out
      have c1 := row_cell r0 1
      have c3 := row_cell r0 3
      have d0 := row_cell r1 0
      have d1 := row_cell r1 1
      have d2 := row_cell r1 2
      simp only [List.getElem?_toArray, List.getElem?_cons_zero, List.getElem?_cons_succ] at c1 c3 d0 d1 d2
      have HBw2 := Lib.hid hB
      clear r0 r1 r2 hB
      go_wp2_with fail
      refine (Q3.out _ HBw2.out).mono ?_
      rintro e w3 ⟨rfl, hb3⟩
      have HB3 := Lib.hid (HB2.out.trans (hb3.mono HB2.out.size))
      clear hb3 c1 c3 d0 d1 d2
      obtain ⟨r0, r1, r2, hB, hS3⟩ := rows3 HB3.out
      have c0 := row_cell r0 0
      have c1 := row_cell r0 1
      have c2 := row_cell r0 2
      have c3 := row_cell r0 3
      simp only [List.getElem?_toArray, List.getElem?_cons_zero, List.getElem?_cons_succ] at c0 c1 c2 c3
      have d0 := row_cell r1 0
      have d1 := row_cell r1 1
      have d2 := row_cell r1 2
      simp only [List.getElem?_toArray, List.getElem?_cons_zero, List.getElem?_cons_succ] at d0 d1 d2
      have HBw3 := Lib.hid hB
      clear r0 r1 r2 hB
      go_wp2_with fail
      refine (QD.out _ HBw3.out).mono ?_
      rintro e w4 ⟨u4, l4, rfl, hl4, ho4, hb4⟩
      have hbA := ((Below.refl w3.heap.size w3).alloc (Nat.le_refl _) (.cells #[.int .i64 nr, .int .i64 ac, .slice ra cs.length rcap] 35)).alloc (by simp) (.cells #[.slice a l.length cap, .slice (some ⟨w3.heap.size, 0, none⟩) 1 1] 30)
      have hb34 := hbA.trans (hb4.mono (by omega))
      obtain ⟨ua, ucap, rfl⟩ := OwnRv.slice ho4
      have HB4 := Lib.hid (HB3.out.trans (hb34.mono HB3.out.size))
      clear c0 c1 c2 c3 d0 d1 d2
      obtain ⟨r0, r1, r2, hB, _⟩ := rows3 HB4.out
      have e0 := row_cell r2 0
      have e1 := row_cell r2 1
      have e2 := row_cell r2 2
      have e3 := row_cell r2 3
      have e4 := row_cell r2 4
      simp only [List.getElem?_toArray, List.getElem?_cons_zero, List.getElem?_cons_succ] at e0 e1 e2 e3 e4
      have f0 := frozen_row r2 0
      have f1 := frozen_row r2 1
      have f2 := frozen_row r2 2
      have f3 := frozen_row r2 3
      have f4 := frozen_row r2 4
      have HB := Lib.hid hB
      have HO4 := Lib.hid (OwnRv.base ho4 (b' := w.heap.size + 3) (by first | (simp; omega) | omega))
      have HL4 := Lib.hid (show rls l4 = rls l ++ [⟨nr, ac, cs⟩] by rw [hl4]; simp [catL, rls])
      clear hb4 r0 r1 r2 hB ho4 hl4 hbA hb34
      go_wp2_with fail
      exact bodyPost_ret (v := .agg #[.int .i64 ar, .int .i64 df, .int .i64 bd, .slice ua l4.length ucap, .int .i64 0]) (by simp [results, Try.results16, go_sem, e0, e1, e2, e3, e4]) rfl ⟨_, l4, by rw [HR.out] <;> rfl, by rw [HR.out]; exact HL4.out,
        (((((HO4.out.setBelow (by simp <;> omega) _).setBelow (by simp <;> omega) _).setBelow (by simp <;> omega) _).setBelow (by simp <;> omega) _).setBelow (by simp <;> omega) _).base (by omega), ((((HB.out.setCell (p := ⟨w.heap.size + 1 + 1, 0, none⟩) (by simp <;> omega) _).setCell (p := ⟨w.heap.size + 1 + 1, 1, none⟩) (by simp <;> omega) _).setCell (p := ⟨w.heap.size + 1 + 1, 2, none⟩) (by simp <;> omega) _).setCell (p := ⟨w.heap.size + 1 + 1, 3, none⟩) (by simp <;> omega) _).setCell (p := ⟨w.heap.size + 1 + 1, 4, none⟩) (by simp <;> omega) _⟩

  · rw [hh] at hd Q3
    rw [if_pos rfl] at hd
    have HR := Lib.hid hd
    clear hd hh
    go_enter Try.func16, Try.ntmps16
    go_wp2_with fail
    refine (Q1.out _ HB0.out).mono ?_
    rintro e w1 ⟨rfl, hb1⟩
    obtain ⟨r0, r1, r2, hB, _⟩ := rows3 hb1
    have d0 := row_cell r1 0
    have d1 := row_cell r1 1
    have d2 := row_cell r1 2
    simp only [List.getElem?_toArray, List.getElem?_cons_zero, List.getElem?_cons_succ] at d0 d1 d2
    have HB1 := Lib.hid hb1
    have HBw := Lib.hid hB
    clear hb1 r0 r1 r2 hB
    go_wp2_with fail
    refine (Q2.out _ HBw.out).mono ?_
    rintro e w2 ⟨rfl, hb2⟩
    have HB2 := Lib.hid (HB1.out.trans (hb2.mono HB1.out.size))
    clear hb2 d0 d1 d2
    obtain ⟨r0, r1, r2, hB, _⟩ := rows3 HB2.out
    have c1 := row_cell r0 1
    have c3 := row_cell r0 3
    have d0 := row_cell r1 0
    have d1 := row_cell r1 1
    have d2 := row_cell r1 2
    simp only [List.getElem?_toArray, List.getElem?_cons_zero, List.getElem?_cons_succ] at c1 c3 d0 d1 d2
    have HBw2 := Lib.hid hB
    clear r0 r1 r2 hB
    go_wp2_with fail
    refine (Q3.out _ HBw2.out).mono ?_
    rintro e w3 ⟨rfl, hb3⟩
    have HB3 := Lib.hid (HB2.out.trans (hb3.mono HB2.out.size))
    clear hb3 c1 c3 d0 d1 d2
    obtain ⟨r0, r1, r2, hB, hS3⟩ := rows3 HB3.out
    have c0 := row_cell r0 0
    have c1 := row_cell r0 1
    have c2 := row_cell r0 2
    have c3 := row_cell r0 3
    simp only [List.getElem?_toArray, List.getElem?_cons_zero, List.getElem?_cons_succ] at c0 c1 c2 c3
    have d0 := row_cell r1 0
    have d1 := row_cell r1 1
    have d2 := row_cell r1 2
    simp only [List.getElem?_toArray, List.getElem?_cons_zero, List.getElem?_cons_succ] at d0 d1 d2
    have HBw3 := Lib.hid hB
    clear r0 r1 r2 hB
    go_wp2_with fail
    refine (QP.out _ HBw3.out).mono ?_
    rintro e w4 ⟨u4, l4, rfl, hl4, ho4, hb4⟩
    have hbA := (Below.refl w3.heap.size w3).alloc (Nat.le_refl _) (.cells #[.slice a l.length cap] 30)
    have hb34 := hbA.trans (hb4.mono (by omega))
    obtain ⟨ua, ucap, rfl⟩ := OwnRv.slice ho4
    have HB4 := Lib.hid (HB3.out.trans (hb34.mono HB3.out.size))
    clear c0 c1 c2 c3 d0 d1 d2
    obtain ⟨r0, r1, r2, hB, _⟩ := rows3 HB4.out
    have e0 := row_cell r2 0
    have e1 := row_cell r2 1
    have e2 := row_cell r2 2
    have e3 := row_cell r2 3
    have e4 := row_cell r2 4
    simp only [List.getElem?_toArray, List.getElem?_cons_zero, List.getElem?_cons_succ] at e0 e1 e2 e3 e4
    have f0 := frozen_row r2 0
    have f1 := frozen_row r2 1
    have f2 := frozen_row r2 2
    have f3 := frozen_row r2 3
    have f4 := frozen_row r2 4
    have HB := Lib.hid hB
    have HO4 := Lib.hid (OwnRv.base ho4 (b' := w.heap.size + 3) (by first | (simp; omega) | omega))
    have HL4 := Lib.hid (show rls l4 = rls l by rw [hl4]; simp [catL, rls])
    clear hb4 r0 r1 r2 hB ho4 hl4 hbA hb34
    go_wp2_with fail
    exact bodyPost_ret (v := .agg #[.int .i64 ar, .int .i64 df, .int .i64 bd, .slice ua l4.length ucap, .int .i64 0]) (by simp [results, Try.results16, go_sem, e0, e1, e2, e3, e4]) rfl ⟨_, l4, by rw [HR.out] <;> rfl, by rw [HR.out]; exact HL4.out,
      (((((HO4.out.setBelow (by simp <;> omega) _).setBelow (by simp <;> omega) _).setBelow (by simp <;> omega) _).setBelow (by simp <;> omega) _).setBelow (by simp <;> omega) _).base (by omega), ((((HB.out.setCell (p := ⟨w.heap.size + 1 + 1, 0, none⟩) (by simp <;> omega) _).setCell (p := ⟨w.heap.size + 1 + 1, 1, none⟩) (by simp <;> omega) _).setCell (p := ⟨w.heap.size + 1 + 1, 2, none⟩) (by simp <;> omega) _).setCell (p := ⟨w.heap.size + 1 + 1, 3, none⟩) (by simp <;> omega) _).setCell (p := ⟨w.heap.size + 1 + 1, 4, none⟩) (by simp <;> omega) _⟩

end Go.Proofs.Ytmnmaijifhojiaa

/- PolicyDrop of the program walked. -/
set_option maxRecDepth 100000
set_option linter.unusedVariables false
set_option linter.unusedSimpArgs false
namespace Go.Proofs.Ytmnmaijifhojiaa
open Go.RowKit Go.ChangeShapes Go.WideShapes
attribute [local go_sem ↓] Go.wp_at_zero Go.wp_at_succ

def dropW (g o n cap k : Nat) : Value := if cap = k then .slice (some ⟨g, o, none⟩) (n - k) 0 else .slice (some ⟨g, o + k * 3, none⟩) (n - k) (cap - k)
theorem RvAt.dropW {w : World} {B : Nat} {g o n cap : Nat} {l : List Rv} (h : RvAt w B (.slice (some ⟨g, o, none⟩) n cap) l) {k : Nat} (hk : k ≤ l.length) : RvAt w B (dropW g o n cap k) (l.drop k) := by
  unfold Go.Proofs.Ytmnmaijifhojiaa.dropW
  by_cases hc : cap = k
  · rw [if_pos hc]
    obtain ⟨a', cap', e, h1, h2⟩ := h.len
    simp only [Value.slice.injEq] at e
    obtain ⟨_, rfl, rfl⟩ := e
    have hn : l.drop k = [] := List.drop_eq_nil_of_le (by omega)
    rw [hn]
    exact ⟨⟨rvS, ⟨_, 0, by rw [show l.length - k = 0 by omega]; rfl, by simp, by unfold maxLen; omega, fun h0 => by simp at h0⟩, fun x hx => by simp at hx⟩, fun x hx => by simp at hx⟩
  · rw [if_neg hc]
    exact h.drop hk

set_option maxHeartbeats 6400000 in
theorem implPolicyDrop_any (ar df bd at_ : Int) (l : List Rv) (v : Value) (w : World) (hv : RvAt w w.heap.size v l) (hat : In64 at_) :
    Calls Try.prog 25 #[polV ar df bd v, .int .i64 at_] w (PolEnd w.heap.size w (polDrop ⟨ar, df, bd, rls l⟩ at_)) := by
  have q1 := fun W (h : Below w.heap.size w W) => implPolicyRight_any ar df bd l _ W (RvAt.up (RvAt.below hv h) h.size)
  obtain ⟨a, cap, rfl, hlc, hcm⟩ := hv.len
  unfold maxLen at hcm
  have hll : (rls l).length = l.length := by simp [rls]
  have hd : polDrop ⟨ar, df, bd, rls l⟩ at_ = (if !polRight ⟨ar, df, bd, rls l⟩ then (pol0, 1) else if !isB at_ 0 (((rls l).length : Int) - 1) then (pol0, 6) else (⟨ar, df, bd, (rls l).take at_.toNat ++ (rls l).drop (at_.toNat + 1)⟩, 0)) := rfl
  rw [hll] at hd
  generalize polDrop ⟨ar, df, bd, rls l⟩ at_ = res at hd ⊢
  have HB0 := Lib.hid (show Below w.heap.size w ((w.alloc (.cells #[.int .i64 ar, .int .i64 df, .int .i64 bd, .slice a l.length cap] 32)).alloc (.cells #[.int .i64 0, .int .i64 0, .int .i64 0, .slice none 0 0, .int .i64 0] 39)) from ((Below.refl _ _).alloc (Nat.le_refl _) _).alloc (by simp) _)
  cases h1 : polRight ⟨ar, df, bd, rls l⟩ <;> rw [h1] at q1
  · have HR := Lib.hid (show res = (pol0, 1) by rw [hd, h1]; rfl)
    have Q1 := Lib.hid q1
    clear hd q1 h1 hv
    go_enter Try.func25, Try.ntmps25
    go_wp2_with fail
    refine (Q1.out _ HB0.out).mono ?_
    rintro e w1 ⟨rfl, hb1⟩
    obtain ⟨r0, r1, hB, _⟩ := rows2 hb1
    have e0 := row_cell r1 0
    have e1 := row_cell r1 1
    have e2 := row_cell r1 2
    have e3 := row_cell r1 3
    have e4 := row_cell r1 4
    simp only [List.getElem?_toArray, List.getElem?_cons_zero, List.getElem?_cons_succ] at e0 e1 e2 e3 e4
    have f0 := frozen_row r1 0
    have f1 := frozen_row r1 1
    have f2 := frozen_row r1 2
    have f3 := frozen_row r1 3
    have f4 := frozen_row r1 4
    have HB := Lib.hid hB
    clear hb1 r0 r1 hB
    go_wp2_with fail
    exact bodyPost_ret (v := .agg #[.int .i64 0, .int .i64 0, .int .i64 0, .slice none 0 0, .int .i64 1]) (by simp [results, Try.results25, go_sem, e0, e1, e2, e3, e4]) rfl ⟨_, [], by rw [HR.out] <;> rfl, by rw [HR.out] <;> rfl, ⟨OwnL.nil _ _, Inner.nil _ _, fun x hx => by simp at hx⟩, ((((HB.out.setCell (p := ⟨w.heap.size + 1, 0, none⟩) (by simp <;> omega) _).setCell (p := ⟨w.heap.size + 1, 1, none⟩) (by simp <;> omega) _).setCell (p := ⟨w.heap.size + 1, 2, none⟩) (by simp <;> omega) _).setCell (p := ⟨w.heap.size + 1, 3, none⟩) (by simp <;> omega) _).setCell (p := ⟨w.heap.size + 1, 4, none⟩) (by simp <;> omega) _⟩
  rw [h1, Bool.not_true, if_neg (by simp)] at hd
  have Q1 := Lib.hid q1
  have hw1 : IntKind.i64.wrap ((l.length : Int) - 1) = (l.length : Int) - 1 := by rw [IntKind.wrap_i64]; omega
  cases h2 : isB at_ 0 ((l.length : Int) - 1)
  · rw [h2] at hd
    have HR := Lib.hid (show res = (pol0, 6) by rw [hd]; rfl)
    clear hd q1 h1 hv
    go_enter Try.func25, Try.ntmps25
    go_wp2_with fail
    refine (Q1.out _ HB0.out).mono ?_
    rintro e w1 ⟨rfl, hb1⟩
    obtain ⟨r0, r1, hB, _⟩ := rows2 hb1
    have c3 := row_cell r0 3
    simp only [List.getElem?_toArray, List.getElem?_cons_zero, List.getElem?_cons_succ] at c3
    have e0 := row_cell r1 0
    have e1 := row_cell r1 1
    have e2 := row_cell r1 2
    have e3 := row_cell r1 3
    have e4 := row_cell r1 4
    simp only [List.getElem?_toArray, List.getElem?_cons_zero, List.getElem?_cons_succ] at e0 e1 e2 e3 e4
    have f0 := frozen_row r1 0
    have f1 := frozen_row r1 1
    have f2 := frozen_row r1 2
    have f3 := frozen_row r1 3
    have f4 := frozen_row r1 4
    have HB := Lib.hid hB
    clear hb1 r0 r1 hB
    go_wp2_with (go_at_call 77; refine (within_any _ _ _).mono ?_; rintro e w' ⟨rfl, rfl⟩)
    exact bodyPost_ret (v := .agg #[.int .i64 0, .int .i64 0, .int .i64 0, .slice none 0 0, .int .i64 6]) (by simp [results, Try.results25, go_sem, e0, e1, e2, e3, e4]) rfl ⟨_, [], by rw [HR.out] <;> rfl, by rw [HR.out] <;> rfl, ⟨OwnL.nil _ _, Inner.nil _ _, fun x hx => by simp at hx⟩, ((((HB.out.setCell (p := ⟨w.heap.size + 1, 0, none⟩) (by simp <;> omega) _).setCell (p := ⟨w.heap.size + 1, 1, none⟩) (by simp <;> omega) _).setCell (p := ⟨w.heap.size + 1, 2, none⟩) (by simp <;> omega) _).setCell (p := ⟨w.heap.size + 1, 3, none⟩) (by simp <;> omega) _).setCell (p := ⟨w.heap.size + 1, 4, none⟩) (by simp <;> omega) _⟩
  rw [h2, Bool.not_true, if_neg (by simp)] at hd
  have hb2 : 0 ≤ at_ ∧ at_ ≤ (l.length : Int) - 1 := by unfold isB at h2; simpa using h2
  obtain ⟨m, rfl⟩ := Int.eq_ofNat_of_zero_le hb2.1
  rw [Int.toNat_natCast] at hd
  have hm : m < l.length := by omega
  have HR := Lib.hid hd
  have hlen24 := (polRight_rules h1).1
  have hcl : ∀ x ∈ l, x.r.cs.length ≤ 1048576 := fun x hx => by have h3 : x.r.cs.length ≤ 3 := (rlRight_cs (nr := x.r.nr) (ac := x.r.ac) ((polRight_rules h1).2 x hx)).1; omega
  obtain ⟨g, o, rfl⟩ : ∃ g o, a = some ⟨g, o, none⟩ := by
    obtain ⟨b, o, e, _⟩ := LAt.at_ hv.1 (List.getElem?_eq_getElem hm)
    exact ⟨b, o, e⟩
  have hdv := RvAt.dropW hv (k := m + 1) (by omega)
  have htv := RvAt.take hv (k := m) (by omega)
  obtain ⟨x7, hx7⟩ : ∃ x7, x7 = dropW g o l.length cap (m + 1) := ⟨_, rfl⟩
  rw [← hx7] at hdv
  have qp := fun W (h : Below w.heap.size w W) => withRules_any ar df bd (some ⟨g, o, none⟩) l.length cap _ [(.slice (some ⟨g, o, none⟩) m cap, l.take m), (x7, l.drop (m + 1))] (W.alloc (.cells #[.slice (some ⟨g, o, none⟩) m cap, x7] 30)).drew (LsAt.below (LsAt.of_row (T := 30) (w := W) (vs := [.slice (some ⟨g, o, none⟩) m cap, x7]) rfl (fun x hx => by
      rcases List.mem_cons.1 hx with e | e
      · subst e
        exact RvAt.up (RvAt.below htv h) h.size
      · obtain rfl : x = (x7, l.drop (m + 1)) := (by simpa using e)
        exact RvAt.up (RvAt.below hdv h) h.size) (by simp)) (Below.refl _ _).drew) (by simp [catL]; omega) (fun x hx => by
      have h5 : x ∈ l.take m ∨ x ∈ l.drop (m + 1) := by simpa [catL] using hx
      rcases h5 with h5 | h5
      · exact hcl x (List.mem_of_mem_take h5)
      · exact hcl x (List.mem_of_mem_drop h5))
  simp only [List.length_cons, List.length_nil, Nat.zero_add, Nat.reduceAdd] at qp
  have QPP := Lib.hid qp
  have HB02 := HB0
  clear q1 qp h1 hv hb2 hd hcl hdv htv HB0
  go_enter Try.func25, Try.ntmps25
  go_wp2_with fail
  refine (Q1.out _ HB02.out).mono ?_
  rintro e w1 ⟨rfl, hb1⟩
  obtain ⟨r0, r1, hB, hS1⟩ := rows2 hb1
  have c0 := row_cell r0 0
  have c1 := row_cell r0 1
  have c2 := row_cell r0 2
  have c3 := row_cell r0 3
  simp only [List.getElem?_toArray, List.getElem?_cons_zero, List.getElem?_cons_succ] at c0 c1 c2 c3
  have QP := Lib.hid (QPP.out w1 hB)
  have haf : ∀ W : World, Below (w1.alloc (.cells #[.slice (some ⟨g, o, none⟩) m cap, x7] 30)).drew.heap.size (w1.alloc (.cells #[.slice (some ⟨g, o, none⟩) m cap, x7] 30)).drew W → (W.cell? ⟨w.heap.size + 1, 0, none⟩ = some (.int .i64 0) ∧ W.cell? ⟨w.heap.size + 1, 1, none⟩ = some (.int .i64 0) ∧ W.cell? ⟨w.heap.size + 1, 2, none⟩ = some (.int .i64 0) ∧ W.cell? ⟨w.heap.size + 1, 3, none⟩ = some (.slice none 0 0) ∧ W.cell? ⟨w.heap.size + 1, 4, none⟩ = some (.int .i64 0) ∧ W.frozen? ⟨w.heap.size + 1, 0, none⟩ = false ∧ W.frozen? ⟨w.heap.size + 1, 1, none⟩ = false ∧ W.frozen? ⟨w.heap.size + 1, 2, none⟩ = false ∧ W.frozen? ⟨w.heap.size + 1, 3, none⟩ = false ∧ W.frozen? ⟨w.heap.size + 1, 4, none⟩ = false) := fun W hb => by
    have h1 : Below w1.heap.size w1 W := ((Below.refl w1.heap.size w1).alloc (Nat.le_refl _) (.cells #[.slice (some ⟨g, o, none⟩) m cap, x7] 30)).drew.trans (hb.mono (by show w1.heap.size ≤ (w1.alloc _).heap.size; simp))
    have k1 := below_row h1 r1
    exact ⟨row_cell k1 0, row_cell k1 1, row_cell k1 2, row_cell k1 3, row_cell k1 4, frozen_row k1 0, frozen_row k1 1, frozen_row k1 2, frozen_row k1 3, frozen_row k1 4⟩
  have hba : ∀ W : World, Below (w1.alloc (.cells #[.slice (some ⟨g, o, none⟩) m cap, x7] 30)).drew.heap.size (w1.alloc (.cells #[.slice (some ⟨g, o, none⟩) m cap, x7] 30)).drew W → Below w.heap.size w W := fun W hb => by
    have h1 : Below w1.heap.size w1 W := ((Below.refl w1.heap.size w1).alloc (Nat.le_refl _) (.cells #[.slice (some ⟨g, o, none⟩) m cap, x7] 30)).drew.trans (hb.mono (by show w1.heap.size ≤ (w1.alloc _).heap.size; simp))
    exact hB.trans (h1.mono hB.size)
  have HAF := Lib.hid haf
  have HBA := Lib.hid hba
  have HS := Lib.hid (show w.heap.size + 2 ≤ (w1.alloc (.cells #[.slice (some ⟨g, o, none⟩) m cap, x7] 30)).drew.heap.size by show _ ≤ (w1.alloc _).heap.size; simp; omega)
  have hw2 : IntKind.i64.wrap ((m : Int) + 1) = (m : Int) + 1 := by rw [IntKind.wrap_i64]; omega
  have hcap0 : (m : Int) ≤ (cap : Int) := by omega
  have hcap1 : (m : Int) + 1 ≤ (l.length : Int) := by omega
  have hcap2 : (l.length : Int) ≤ (cap : Int) := by omega
  have hcap3 : (m : Int) ≤ (m : Int) + 1 := by omega
  have hcap4 : (0 : Int) ≤ (m : Int) + 1 := by omega
  have hcap5 : (m : Int) + 1 ≤ (cap : Int) := by omega
  have hlt1 : w.heap.size < w1.heap.size := by omega
  have hlt2 : w.heap.size + 1 < w1.heap.size := by omega
  clear hb1 r0 r1 hB haf hba
  by_cases hcm : cap = m + 1
  · have hx7' : x7 = .slice (some ⟨g, o, none⟩) 0 0 := by rw [hx7]; unfold dropW; rw [if_pos hcm, show l.length - (m + 1) = 0 by omega]
    clear hx7
    subst hx7' hcm
    go_wp2_with (go_at_call 77; refine (within_any _ _ _).mono ?_; rintro e w' ⟨rfl, rfl⟩)
    go_region_law ((go_simp; (with_reducible refine (QP.out).mono ?_); rintro e w4 ⟨u4, l4, rfl, hl4, ho4, hb4⟩; obtain ⟨ua, ucap, rfl⟩ := OwnRv.slice ho4; obtain ⟨e0, e1, e2, e3, e4, f0, f1, f2, f3, f4⟩ := HAF.out _ hb4; dsimp only))
    all_goals
      have HB := Lib.hid (HBA.out _ hb4)
      have HO4 := Lib.hid (OwnRv.base ho4 (b' := w.heap.size + 2) (by have := HS.out; omega))
      have HL4 := Lib.hid (show rls l4 = (rls l).take m ++ (rls l).drop (m + 1) by rw [hl4]; simp [catL, rls])
      clear hb4 ho4 hl4
      go_wp2_with fail
      exact bodyPost_ret (v := .agg #[.int .i64 ar, .int .i64 df, .int .i64 bd, .slice ua l4.length ucap, .int .i64 0]) (by simp [results, Try.results25, go_sem, e0, e1, e2, e3, e4]) rfl ⟨_, l4, by rw [HR.out] <;> rfl, by rw [HR.out]; exact HL4.out,
        (((((HO4.out.setBelow (by simp <;> omega) _).setBelow (by simp <;> omega) _).setBelow (by simp <;> omega) _).setBelow (by simp <;> omega) _).setBelow (by simp <;> omega) _).base (by omega), ((((HB.out.setCell (p := ⟨w.heap.size + 1, 0, none⟩) (by simp <;> omega) _).setCell (p := ⟨w.heap.size + 1, 1, none⟩) (by simp <;> omega) _).setCell (p := ⟨w.heap.size + 1, 2, none⟩) (by simp <;> omega) _).setCell (p := ⟨w.heap.size + 1, 3, none⟩) (by simp <;> omega) _).setCell (p := ⟨w.heap.size + 1, 4, none⟩) (by simp <;> omega) _⟩
  · have hx7' : x7 = .slice (some ⟨g, o + (m + 1) * 3, none⟩) (l.length - (m + 1)) (cap - (m + 1)) := by rw [hx7]; unfold dropW; rw [if_neg hcm]
    clear hx7
    subst hx7'
    have hcm2 : ¬ cap ≤ m + 1 := by omega
    have hcm3 : ¬ cap - (m + 1) = 0 := by omega
    go_wp2_with (go_at_call 77; refine (within_any _ _ _).mono ?_; rintro e w' ⟨rfl, rfl⟩)
    go_region_law ((go_simp; (with_reducible refine (QP.out).mono ?_); rintro e w4 ⟨u4, l4, rfl, hl4, ho4, hb4⟩; obtain ⟨ua, ucap, rfl⟩ := OwnRv.slice ho4; obtain ⟨e0, e1, e2, e3, e4, f0, f1, f2, f3, f4⟩ := HAF.out _ hb4; dsimp only))
    all_goals
      have HB := Lib.hid (HBA.out _ hb4)
      have HO4 := Lib.hid (OwnRv.base ho4 (b' := w.heap.size + 2) (by have := HS.out; omega))
      have HL4 := Lib.hid (show rls l4 = (rls l).take m ++ (rls l).drop (m + 1) by rw [hl4]; simp [catL, rls])
      clear hb4 ho4 hl4
      go_wp2_with fail
      exact bodyPost_ret (v := .agg #[.int .i64 ar, .int .i64 df, .int .i64 bd, .slice ua l4.length ucap, .int .i64 0]) (by simp [results, Try.results25, go_sem, e0, e1, e2, e3, e4]) rfl ⟨_, l4, by rw [HR.out] <;> rfl, by rw [HR.out]; exact HL4.out,
        (((((HO4.out.setBelow (by simp <;> omega) _).setBelow (by simp <;> omega) _).setBelow (by simp <;> omega) _).setBelow (by simp <;> omega) _).setBelow (by simp <;> omega) _).base (by omega), ((((HB.out.setCell (p := ⟨w.heap.size + 1, 0, none⟩) (by simp <;> omega) _).setCell (p := ⟨w.heap.size + 1, 1, none⟩) (by simp <;> omega) _).setCell (p := ⟨w.heap.size + 1, 2, none⟩) (by simp <;> omega) _).setCell (p := ⟨w.heap.size + 1, 3, none⟩) (by simp <;> omega) _).setCell (p := ⟨w.heap.size + 1, 4, none⟩) (by simp <;> omega) _⟩

end Go.Proofs.Ytmnmaijifhojiaa

/- How far the marks of a policy go; what a policy with a rule more or less is like. -/
set_option maxRecDepth 100000
set_option linter.unusedVariables false
namespace Go.Proofs.Ytmnmaijifhojiaa
open Go.RowKit Go.ChangeShapes Go.WideShapes

theorem mkEnd_le3 : ∀ (l : List Rl) (k : Int), (∀ r ∈ l, r.cs.length ≤ 3) → mkEnd k l ≤ k + 20 * (l.length : Int)
  | [], k, _ => by show k ≤ _; simp
  | r :: t, k, h => by
    have h1 := mkEnd_le3 t (k + 1 + 1 + 6 * (r.cs.length : Int)) (fun x hx => h x (by simp [hx]))
    have h2 := h r (by simp)
    unfold mkEnd
    simp only [List.length_cons]
    omega
theorem szR_end : ∀ (l : List Rl) (x k : Int), 0 ≤ szR x l → mkEnd k l ≤ k + 2 * (l.length : Int) + 6 * (x - szR x l)
  | [], x, k, _ => by show k ≤ _ + 6 * (x - x); simp
  | r :: t, x, k, h => by
    rw [szR_cons] at h ⊢
    by_cases hc : x - (r.cs.length : Int) < 0
    · rw [if_pos hc] at h; omega
    · rw [if_neg hc] at h ⊢
      have h1 := szR_end t _ (k + 1 + 1 + 6 * (r.cs.length : Int)) h
      unfold mkEnd
      simp only [List.length_cons]
      omega
theorem szRs_end {l : List Rl} (h : 0 ≤ szRs 1048576 l) : mkEnd 1 l ≤ 1000000000 := by
  unfold szRs at h
  by_cases hc : 1048576 - (l.length : Int) < 0
  · rw [if_pos hc] at h; omega
  · rw [if_neg hc] at h
    have := szR_end l _ 1 h
    omega
/-- A list of rules that can be marked. -/
def Small (rs : List Rl) : Prop := rlsWf rs ∧ mkEnd 1 rs ≤ 1000000000 ∧ rs.length ≤ 1048576
theorem Small.nil : Small [] := ⟨fun r hr => by simp at hr, by show (1 : Int) ≤ _; omega, by simp⟩
theorem Small.of3 {rs : List Rl} (hw : rlsWf rs) (hn : rs.length ≤ 25) (hc : ∀ r ∈ rs, r.cs.length ≤ 3) : Small rs := ⟨hw, by have := mkEnd_le3 rs 1 hc; omega, by omega⟩
theorem polDrop_small (ar df bd m : Int) (l : List Rv) (hw : rlsWf (rls l)) : Small (polDrop ⟨ar, df, bd, rls l⟩ m).1.rs := by
  unfold polDrop
  split
  · exact Small.nil
  · rename_i h1
    split
    · exact Small.nil
    · simp only [Bool.not_eq_true', Bool.not_eq_false] at h1
      obtain ⟨h2, h3⟩ := polRight_rules h1
      have hs := drop_sub (rls l) m.toNat
      refine Small.of3 (fun r hr => hw r (hs.subset hr)) ?_ (fun r hr => ?_)
      · have := hs.length_le
        simp only [rls, List.length_map] at this
        simp only [rls] at this ⊢
        omega
      · obtain ⟨x, hx, rfl⟩ := List.mem_map.1 (hs.subset hr)
        exact (rlRight_cs (nr := x.r.nr) (ac := x.r.ac) (h3 x hx)).1
theorem polAdd_small (ar df bd nr ac : Int) (cs : List Cq) (l : List Rv) (hw : rlsWf (rls l)) (hr : (⟨nr, ac, cs⟩ : Rl).wf ∧ ∀ c ∈ cs, c.wf) : Small (polAdd ⟨ar, df, bd, rls l⟩ ⟨nr, ac, cs⟩).1.rs := by
  unfold polAdd
  split
  · exact Small.nil
  · rename_i h1
    simp only [Bool.not_eq_true', Bool.not_eq_false, Bool.and_eq_true] at h1
    obtain ⟨h2, h3⟩ := polRight_rules h1.1
    have h4 := (rlRight_cs h1.2).1
    have hc : ∀ r ∈ rls l, r.cs.length ≤ 3 := fun r hr => by
      obtain ⟨x, hx, rfl⟩ := List.mem_map.1 hr
      exact (rlRight_cs (nr := x.r.nr) (ac := x.r.ac) (h3 x hx)).1
    have hl : (rls l).length ≤ 24 := by simpa [rls] using h2
    split
    · exact Small.nil
    · split
      · exact Small.of3 hw (by show (rls l).length ≤ 25; omega) hc
      · split
        · exact Small.nil
        · refine Small.of3 (fun r h => ?_) (by simp; omega) (fun r h => ?_)
          · rcases List.mem_append.1 h with h | h
            · exact hw r h
            · obtain rfl : r = ⟨nr, ac, cs⟩ := by simpa using h
              exact hr
          · rcases List.mem_append.1 h with h | h
            · exact hc r h
            · obtain rfl : r = ⟨nr, ac, cs⟩ := by simpa using h
              exact h4
theorem OnlyIn.row {S : Nat → Prop} {w w' : World} {b : Nat} {o : Obj} (h : OnlyIn S w w') (hr : w.heap[b]? = some o) (hb : ¬ S b) : w'.heap[b]? = some o := (h.block b (row_here hr) hb).trans hr
theorem keep_row {w w' : World} {b : Nat} {o : Obj} (h : Below w.heap.size w w') (hr : w.heap[b]? = some o) : w'.heap[b]? = some o := (h.block b (row_here hr)).trans hr

theorem k_al {a x : World} (h : Below a.heap.size a x) (o : Obj) : Below a.heap.size a (x.alloc o) := h.alloc h.size o
theorem k_chain {a x y : World} (h : Below a.heap.size a x) (k : Below x.heap.size x y) : Below a.heap.size a y := h.trans (k.mono h.size)
theorem k_new (W : World) (cs : Array Value) (T : TypeId) {n : Nat} (h : n = W.heap.size) : (W.alloc (.cells cs T)).heap[n]? = some (.cells cs T (0, 0)) := by subst h; exact heap_alloc_new W (.cells cs T)
theorem k_box {w w' : World} {cs : Array Value} {T : TypeId} (h : Below (w.alloc (.cells cs T)).heap.size (w.alloc (.cells cs T)) w') : w'.heap[w.heap.size]? = some (.cells cs T (0, 0)) := (h.block _ (by simp)).trans (k_new w cs T rfl)
theorem k_boxd {w w' : World} {cs : Array Value} {T : TypeId} (h : Below (w.alloc (.cells cs T)).drew.heap.size (w.alloc (.cells cs T)).drew w') : w'.heap[w.heap.size]? = some (.cells cs T (0, 0)) := k_box (w := w) (cs := cs) (T := T) ⟨h.os, h.tape, h.output, h.size, h.block⟩
theorem base_le {base b' : Nat} {w : World} {v : Value} {l : List Rv} (h : OwnRv base w v l) (hb : b' ≤ base) : b' ≤ base := hb
theorem cq_al {W : World} {v : Value} {l : List Cq} (h : CqAt W W.heap.size v l) (o : Obj) : CqAt (W.alloc o) (W.alloc o).heap.size v l := LAt.up (LAt.below h (k_al (Below.refl _ _) o)) (k_al (Below.refl W.heap.size W) o).size
theorem rv_al {W : World} {v : Value} {l : List Rv} (h : RvAt W W.heap.size v l) (o : Obj) : RvAt (W.alloc o) (W.alloc o).heap.size v l := RvAt.up (RvAt.below h (k_al (Below.refl _ _) o)) (k_al (Below.refl W.heap.size W) o).size

end Go.Proofs.Ytmnmaijifhojiaa


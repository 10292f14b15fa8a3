/- My texts Bac, Bad, Err, Ent, Entb, in one. -/
import Derived.Test.YtckffliiidgilaaDoorBcb
import Derived.Deep.RegionHeld2
import Derived.Maps.AppendAt
import Derived.Lib.BitFns
import Derived.WalkMore
import Derived.Test.YtckffliiidgilaaDoorRows
import Derived.Test.YtckffliiidgilaaDoorBca
import Derived.ChangeOld
import Derived.Test.YtckffliiidgilaaDoorTie
import Derived.Test.YtckffliiidgilaaDoorCards
import Derived.WalkKit
import Derived.LaidEql
import Derived.Stop.Asserts
import Derived.RowKitTokens
import Derived.Stop.LaidErr
import Derived.Deep.DeepHandedRow
import Derived.Tactics
import Derived.Tactics2
import Derived.Defers
import Derived.Recover
import Derived.Laws.Pointers
import Derived.WalkLawsBesides
/- My texts CqM, CountIm, Go, Tri, TriC, CtSp, GoList, AvSp, Bits, CtIm, NearM, Near, Fit, Cqo, Cit, Fos, in one. -/
/- Cliques as the model keeps them: points with their bits, free bits, lists. Nothing of the program. -/
namespace Go.Proofs.YtckffliiidgilaaDoor
set_option linter.unusedVariables false
set_option linter.unusedSimpArgs false
/-- Is p a neighbour of all points of s? -/
def fitR (R : Nat → Nat) (s : List Nat) (p : Nat) : Bool := s.all fun q => (R q).testBit p
theorem fitR_cons (R : Nat → Nat) (q : Nat) (s : List Nat) (p : Nat) : fitR R (q :: s) p = ((R q).testBit p && fitR R s p) := rfl
theorem fitR_mono (R : Nat → Nat) (s : List Nat) (p q : Nat) (h : fitR R (q :: s) p = true) : fitR R s p = true := by
  rw [fitR_cons, Bool.and_eq_true] at h; exact h.2
/-- The free points, as digits: the last d ones that are neighbours of all of s. -/
def frB (R : Nat → Nat) (N : Nat) (s : List Nat) (d : Nat) : Nat := arK (fun p => decide (N - d ≤ p) && fitR R s p) N
theorem frB_bit {R : Nat → Nat} {N : Nat} {s : List Nat} {d j : Nat} (h : j < N) : (frB R N s d).testBit j = (decide (N - d ≤ j) && fitR R s j) := by
  unfold frB; rw [arK_bit, decide_eq_true h, Bool.true_and]
theorem frB_lt (R : Nat → Nat) {N : Nat} (hN : N ≤ 17) (s : List Nat) (d : Nat) : frB R N s d < 2 ^ 17 :=
  Nat.lt_of_lt_of_le (arK_lt _ _) (Nat.pow_le_pow_right (by omega) hN)
theorem cnt_from (f : Nat → Bool) {i : Nat} : ∀ N, i < N → cnt (fun p => decide (i ≤ p) && f p) N = cnt (fun p => decide (i + 1 ≤ p) && f p) N + (if f i = true then 1 else 0)
  | 0, h => by omega
  | N + 1, h => by
    unfold cnt
    by_cases e : i = N
    · subst e
      have h1 : cnt (fun p => decide (i ≤ p) && f p) i = cnt (fun p => decide (i + 1 ≤ p) && f p) i := cnt_congr i fun j hj => by
        rw [decide_eq_false (show ¬ i ≤ j by omega), decide_eq_false (show ¬ i + 1 ≤ j by omega)]
      rw [h1, decide_eq_true (Nat.le_refl i), decide_eq_false (show ¬ (i + 1 ≤ i) by omega), Bool.true_and, Bool.false_and]
      simp
    · have := cnt_from f (i := i) N (by omega)
      rw [this, decide_eq_true (show i ≤ N by omega), decide_eq_true (show i + 1 ≤ N by omega)]
      omega
theorem cnt_none' {f : Nat → Bool} : ∀ N, (∀ j, j < N → f j = false) → cnt f N = 0
  | 0, _ => rfl
  | N + 1, h => by unfold cnt; rw [cnt_none' N (fun j hj => h j (by omega)), h N (by omega)]; rfl
theorem cqN_cnt (R : Nat → Nat) (N : Nat) (s : List Nat) : ∀ d, d ≤ N → cqN (fitR R) N d s = cnt (fun p => decide (N - d ≤ p) && fitR R s p) N
  | 0, _ => by
    rw [cqN, cnt_none' N]
    intro j hj
    rw [decide_eq_false (by omega)]; rfl
  | d + 1, h => by
    rw [cqN, cqN_cnt R N s d (by omega), cnt_from (fun p => fitR R s p) (i := N - (d + 1)) N (by omega), show N - (d + 1) + 1 = N - d by omega]
theorem frB_ones {R : Nat → Nat} {N : Nat} {s : List Nat} {d : Nat} (h : d ≤ N) : ones (frB R N s d) = cqN (fitR R) N d s := by
  unfold frB
  rw [ones_arK, cqN_cnt R N s d h]
theorem arK_high {f : Nat → Bool} {k j : Nat} (h : k ≤ j) : (arK f k).testBit j = false := by rw [arK_bit, decide_eq_false (by omega)]; rfl
/-- What is free behind a point that is taken. -/
theorem frB_next {R : Nat → Nat} (h0 : ∀ q, (R q).testBit q = false) {N d j : Nat} {s : List Nat} (hj : j < N) (hd : N - d ≤ j) :
    hiB (frB R N s d &&& R j) j = frB R N (j :: s) (N - (j + 1)) := by
  apply Nat.eq_of_testBit_eq
  intro q
  rw [hiB_bit, Nat.testBit_and]
  by_cases hq : q < N
  · rw [frB_bit hq, frB_bit hq, fitR_cons, show N - (N - (j + 1)) = j + 1 by omega]
    by_cases e : j = q
    · subst e
      rw [h0 j]; simp
    · by_cases h1 : j ≤ q
      · rw [decide_eq_true h1, decide_eq_true (show N - d ≤ q by omega), decide_eq_true (show j + 1 ≤ q by omega)]
        cases (R j).testBit q <;> cases fitR R s q <;> rfl
      · rw [decide_eq_false h1, decide_eq_false (show ¬ j + 1 ≤ q by omega)]; rfl
  · unfold frB
    rw [arK_high (by omega), arK_high (by omega)]; simp
/-- A clique as the list that stands for it. -/
def rv (s : List Nat) : List Int := s.reverse.map fun (x : Nat) => (x : Int)
theorem rv_len (s : List Nat) : (rv s).length = s.length := by simp [rv]
theorem rv_cons (q : Nat) (s : List Nat) : rv (q :: s) = rv s ++ [(q : Int)] := by simp [rv]
/-- The cliques of m points that go on from s with the last d points, as lists. -/
def cqL (R : Nat → Nat) (N m d : Nat) (s : List Nat) : List (List Int) := ((cqE (fitR R) N d s).filter fun c => decide (c.length = m)).map rv
/-- The same, and s itself. -/
def cqH (R : Nat → Nat) (N m d : Nat) (s : List Nat) : List (List Int) := (cqF (fitR R) N m d s).map rv
theorem cqH_here {R : Nat → Nat} {N m d : Nat} {s : List Nat} (h : s.length = m) : cqH R N m d s = [rv s] := by unfold cqH; rw [cqF_here h]; rfl
theorem cqH_less {R : Nat → Nat} {N m d : Nat} {s : List Nat} (h : s.length ≠ m) : cqH R N m d s = cqL R N m d s := by unfold cqH cqL; rw [cqF_less h]
theorem cqH_none {R : Nat → Nat} {N m d : Nat} {s : List Nat} (hd : d ≤ N) (h0 : s.length ≠ m) (h : s.length + ones (frB R N s d) < m) : cqH R N m d s = [] := by
  rw [cqH_less h0]
  unfold cqL
  rw [frB_ones hd] at h
  rw [cqG_none (fitR_mono R) h]; rfl
theorem cqL_fit {R : Nat → Nat} {N m d : Nat} {s : List Nat} (h : fitR R s (N - (d + 1)) = true) : cqL R N m (d + 1) s = cqH R N m d ((N - (d + 1)) :: s) ++ cqL R N m d s := by
  unfold cqL cqH
  rw [cqG_fit h, List.map_append]
theorem cqL_skip {R : Nat → Nat} {N m d : Nat} {s : List Nat} (h : fitR R s (N - (d + 1)) = false) : cqL R N m (d + 1) s = cqL R N m d s := by
  unfold cqL
  rw [cqG_skip h]
theorem cqL_zero {R : Nat → Nat} {N m : Nat} {s : List Nat} : cqL R N m 0 s = [] := rfl
/-- The list on its way: dn has come, of the last e points the rest is to come. -/
def Way (R : Nat → Nat) (N m d : Nat) (s : List Nat) (L : List (List Int)) (most e : Nat) (cur : List (List Int)) : Prop :=
  ∃ dn, dn ++ cqL R N m (min d e) s = cqL R N m d s ∧ cur = (L ++ dn).take most
theorem way_start {R : Nat → Nat} {N m d : Nat} {s : List Nat} {L : List (List Int)} {most : Nat} (hd : d ≤ N) (hL : L.length < most) : Way R N m d s L most N L :=
  ⟨[], by rw [Nat.min_eq_left hd]; rfl, by rw [List.append_nil, List.take_of_length_le (by omega)]⟩
theorem way_end {R : Nat → Nat} {N m d : Nat} {s : List Nat} {L cur : List (List Int)} {most e : Nat} (h : Way R N m d s L most e cur) (he : e = 0 ∨ most ≤ cur.length) : cur = (L ++ cqL R N m d s).take most := by
  obtain ⟨dn, h1, h2⟩ := h
  rcases he with rfl | he
  · rw [Nat.min_eq_right (Nat.zero_le _), cqL_zero, List.append_nil] at h1
    rw [← h1]; exact h2
  · have hl : most ≤ (L ++ dn).length := by rw [h2, List.length_take] at he; omega
    rw [← h1, ← List.append_assoc, List.take_append_of_le_length hl]; exact h2
theorem way_skip {R : Nat → Nat} {N m d : Nat} {s : List Nat} {L cur : List (List Int)} {most j : Nat} (h : Way R N m d s L most (N - j) cur) (hj : j < N) (hb : (frB R N s d).testBit j = false) : Way R N m d s L most (N - (j + 1)) cur := by
  obtain ⟨dn, h1, h2⟩ := h
  refine ⟨dn, ?_, h2⟩
  rw [frB_bit hj] at hb
  by_cases hd : N - d ≤ j
  · rw [decide_eq_true hd, Bool.true_and] at hb
    rw [Nat.min_eq_right (show N - j ≤ d by omega)] at h1
    rw [Nat.min_eq_right (show N - (j + 1) ≤ d by omega), ← h1]
    have e : N - j = (N - (j + 1)) + 1 := by omega
    have e2 : N - (N - (j + 1) + 1) = j := by omega
    rw [e, cqL_skip (by rw [e2]; exact hb)]
  · rw [Nat.min_eq_left (show d ≤ N - j by omega)] at h1
    rw [Nat.min_eq_left (show d ≤ N - (j + 1) by omega)]; exact h1
theorem way_take {R : Nat → Nat} {N m d : Nat} {s : List Nat} {L cur : List (List Int)} {most j : Nat} (h : Way R N m d s L most (N - j) cur) (hj : j < N) (hb : (frB R N s d).testBit j = true) (hl : cur.length < most) : Way R N m d s L most (N - (j + 1)) ((cur ++ cqH R N m (N - (j + 1)) (j :: s)).take most) := by
  obtain ⟨dn, h1, h2⟩ := h
  rw [frB_bit hj, Bool.and_eq_true] at hb
  have hd := of_decide_eq_true hb.1
  have hw : cur = L ++ dn := by rw [h2] at hl ⊢; rw [List.length_take] at hl; exact List.take_of_length_le (by omega)
  rw [Nat.min_eq_right (show N - j ≤ d by omega)] at h1
  refine ⟨dn ++ cqH R N m (N - (j + 1)) (j :: s), ?_, by rw [hw, List.append_assoc]⟩
  rw [Nat.min_eq_right (show N - (j + 1) ≤ d by omega), ← h1]
  have e : N - j = (N - (j + 1)) + 1 := by omega
  have e2 : N - (N - (j + 1) + 1) = j := by omega
  rw [e, cqL_fit (by rw [e2]; exact hb.2), e2, List.append_assoc]
theorem way_len {R : Nat → Nat} {N m d : Nat} {s : List Nat} {L cur : List (List Int)} {most e : Nat} (h : Way R N m d s L most e cur) : cur.length ≤ most := by
  obtain ⟨dn, h1, h2⟩ := h
  rw [h2, List.length_take]; omega
end Go.Proofs.YtckffliiidgilaaDoor
/- l02Count: the walk, by recursion on the number of points that are still to be taken. -/
namespace Go.Proofs.YtckffliiidgilaaDoor
set_option linter.unusedVariables false
set_option linter.unusedSimpArgs false
open Go Go.RowKit Go.Shelf
theorem xor_bit {X Y j : Nat} (hX : X < 2 ^ 17) (hj : j < 17) (h : X ^^^ 2 ^ j = Y) : bits .xor .i64 (X : Int) (wrap64 (2 ^ j)) = (Y : Int) := by
  subst h
  have h2 : 2 ^ j < 2 ^ 17 := Nat.pow_lt_pow_right (by omega) hj
  have e : (2 : Int) ^ j = ((2 ^ j : Nat) : Int) := by simp
  rw [e]
  generalize 2 ^ j = y at *
  rw [IntWalk.wrap64_in _ ⟨by omega, by omega⟩]
  exact i64_xor_nat X y (by omega) (by omega)
/-- The rows as a slice of the model. -/
structure Rws (N : Nat) (R : Nat → Nat) (zs : List Int) : Prop where
  len : zs.length = N
  get : ∀ p, p < N → zs.getD p 0 = (R p : Int)
  lt : ∀ p, p < N → R p < 2 ^ 17
theorem hiB_lt {F j : Nat} (h : F < 2 ^ 17) : hiB F j < 2 ^ 17 := Nat.lt_of_le_of_lt (hiB_le _ _) h
theorem hiB_bitj {F j : Nat} : (hiB F j).testBit j = F.testBit j := by rw [hiB_bit]; simp
end Go.Proofs.YtckffliiidgilaaDoor
/- l02Go: the cliques of m points that begin with some points, put to a list of lists. -/
namespace Go.Proofs.YtckffliiidgilaaDoor
set_option linter.unusedVariables false
set_option linter.unusedSimpArgs false
open Go Go.RowKit Go.Shelf
/-- A list of numbers in a block from its first cell on. -/
def BgL (w : World) (a : Option Addr) (zs : List Int) : Prop :=
  ∃ g C, a = some ⟨g, 0, none⟩ ∧ Blk w g C 2 ∧ zs.length ≤ C.size ∧ ∀ j, j < zs.length → C[j]? = some (.int .i64 (zs.getD j 0))
theorem BgL.below {w w' : World} {B : Nat} {a : Option Addr} {zs : List Int} (h : BgL w a zs) (hb : Below B w w') (hB : w.heap.size ≤ B) : BgL w' a zs := by
  obtain ⟨g, C, h1, h2, h3⟩ := h
  exact ⟨g, C, h1, h2.below hb (Nat.lt_of_lt_of_le h2.lt hB), h3⟩
theorem OwnL.grown {w w' : World} {row : Option Nat} {B : Nat} {a : Option Addr} {zs : List Int} (h : OwnL w B a zs) (hg : w.grownBy w' row) (hr : ∀ r, row = some r → ∃ C, Blk w r C 25) : OwnL w' B a zs := by
  rcases h with h | ⟨g, C, h1, h2, h3, h4⟩
  · exact .inl h
  · refine .inr ⟨g, C, h1, h2, (hg.block g h3.lt (fun e => ?_)).trans h3, h4⟩
    obtain ⟨C', hC'⟩ := hr g e.symm
    unfold Blk at h3 hC'
    rw [hC'] at h3
    cases h3
theorem BgL.grown {w w' : World} {row : Option Nat} {a : Option Addr} {zs : List Int} (h : BgL w a zs) (hg : w.grownBy w' row) (hr : ∀ r, row = some r → ∃ C, Blk w r C 25) : BgL w' a zs := by
  obtain ⟨g, C, h1, h3, h4⟩ := h
  refine ⟨g, C, h1, (hg.block g h3.lt (fun e => ?_)).trans h3, h4⟩
  obtain ⟨C', hC'⟩ := hr g e.symm
  unfold Blk at h3 hC'
  rw [hC'] at h3
  cases h3
theorem BgL.own {w : World} {a : Option Addr} {zs : List Int} (h : BgL w a zs) : OwnL w 0 a zs := by
  obtain ⟨g, C, h1, h3, h4, h5⟩ := h
  exact .inr ⟨g, C, Nat.zero_le _, h1, h3, h4, h5⟩
theorem BgL.ofOwn {w : World} {B : Nat} {a : Option Addr} {zs : List Int} (h : OwnL w B a zs) (hz : zs ≠ []) : BgL w a zs := by
  rcases h with h | ⟨g, C, _, h2, h3, h4, h5⟩
  · exact absurd h hz
  · exact ⟨g, C, h2, h3, h4, h5⟩
/-- A list of lists. -/
def LL (w : World) (v : Value) (L : List (List Int)) : Prop :=
  ∃ xs, w.ownsRow 0 25 1 v L.length xs ∧ ∀ (i : Nat) (zs : List Int), L[i]? = some zs → ∃ a cap, xs[i]? = some (Value.slice a zs.length cap) ∧ OwnL w 0 a zs
theorem LL.row {w : World} {v : Value} {L : List (List Int)} (h : LL w v L) : ∀ r, v.ownBlock = some r → ∃ C, Blk w r C 25 := by
  obtain ⟨xs, h1, h2⟩ := h
  intro r hr
  obtain ⟨_, h | ⟨g, cap, cur, hv, hg, hc, _⟩⟩ := h1
  · rw [h.1] at hr; cases hr
  · rw [hv] at hr; cases hr; exact ⟨cur, hc⟩
theorem LL.shape {w : World} {v : Value} {L : List (List Int)} (h : LL w v L) : ∃ a cap, v = .slice a L.length cap := by
  obtain ⟨xs, ⟨_, h | ⟨g, cap, cur, hv, _⟩⟩, _⟩ := h
  · exact ⟨none, 0, by rw [h.1, h.2]⟩
  · exact ⟨_, _, hv⟩
theorem LL.below {w w' : World} {v : Value} {L : List (List Int)} (h : LL w v L) (hb : Below w.heap.size w w') : LL w' v L := by
  obtain ⟨xs, h1, h2⟩ := h
  refine ⟨xs, own_below h1 hb (Nat.le_refl _), fun i zs hi => ?_⟩
  obtain ⟨a, cap, h3, h4⟩ := h2 i zs hi
  exact ⟨a, cap, h3, h4.below hb (Nat.le_refl _)⟩
/-- What may turn: the list's own block. -/
def Fr (w w' : World) (v v' : Value) : Prop := w.grownBy w' v.ownBlock ∧ ∀ r, v'.ownBlock = some r → w.heap.size ≤ r ∨ v.ownBlock = some r
theorem Fr.refl (w : World) (v : Value) : Fr w w v v := ⟨World.grownBy.refl _ _, fun r h => .inr h⟩
theorem Fr.trans {w w1 w2 : World} {v v1 v2 : Value} (h : Fr w w1 v v1) (k : Fr w1 w2 v1 v2) : Fr w w2 v v2 :=
  ⟨h.1.andThen k.1 h.2, fun r hr => by
    rcases k.2 r hr with h3 | h3
    · exact .inl (Nat.le_trans h.1.size h3)
    · exact h.2 r h3⟩
theorem below_grown {w w' : World} (h : Below w.heap.size w w') (row : Option Nat) : w.grownBy w' row := ⟨h.os, h.tape, h.output, h.size, fun k hk _ => h.block k hk⟩
theorem Fr.below {w w' : World} (h : Below w.heap.size w w') (v : Value) : Fr w w' v v := ⟨below_grown h _, fun r h => .inr h⟩
theorem LL.push {w w' : World} {v v' : Value} {L : List (List Int)} {a : Option Addr} {cap : Nat} {zs : List Int} {xs : List Value} (hx : ∀ (i : Nat) (ys : List Int), L[i]? = some ys → ∃ a cap, xs[i]? = some (Value.slice a ys.length cap) ∧ OwnL w 0 a ys) (hxl : xs.length = L.length)
    (hr : ∀ r, v.ownBlock = some r → ∃ C, Blk w r C 25) (hg : w.grownBy w' v.ownBlock) (ho : OwnL w 0 a zs) (h' : w'.ownsRow 0 25 1 v' (L.length + 1) (xs ++ [Value.slice a zs.length cap])) : LL w' v' (L ++ [zs]) := by
  refine ⟨xs ++ [Value.slice a zs.length cap], by rw [List.length_append]; exact h', fun i ys hi => ?_⟩
  by_cases hl : i < L.length
  · rw [List.getElem?_append_left hl] at hi
    obtain ⟨a', c', h1, h2⟩ := hx i ys hi
    exact ⟨a', c', by rw [List.getElem?_append_left (by omega)]; exact h1, h2.grown hg hr⟩
  · have hi' : i = L.length := by
      have := (List.getElem?_eq_some_iff.1 hi).1
      simp at this; omega
    subst hi'
    rw [List.getElem?_append_right (Nat.le_refl _)] at hi
    simp at hi
    subst hi
    exact ⟨a, cap, by rw [List.getElem?_append_right (by omega)]; simp [hxl], ho.grown hg hr⟩
theorem BgL.cell {w : World} {g : Nat} {zs : List Int} (h : BgL w (some ⟨g, 0, none⟩) zs) {j : Nat} (hj : j < zs.length) {x : Int} (hx : zs.getD j 0 = x) : w.cell? ⟨g, j, none⟩ = some (.int .i64 x) := by
  obtain ⟨g', C, h1, h2, h3, h4⟩ := h
  cases h1
  rw [← hx]
  exact h2.cell (h4 j hj)
theorem info25 : (Tryd.prog.info? 25).map (fun i => (i.zero, i.size, i.bytes)) = some (some (.slice none 0 0), 1, 24) := by kernel_rfl
set_option maxRecDepth 100000 in
theorem own63 (zs : List Int) (a : Option Addr) (cap : Nat) (w : World) (h : BgL w a zs) (hl : zs.length ≤ 1000) :
    Calls Tryd.prog 102 #[.slice a zs.length cap] w fun e w' => ∃ a' c', e = .returned (.slice a' zs.length c') ∧ w'.ownsRow w.heap.size 2 1 (.slice a' zs.length c') zs.length (icells zs) ∧ Below w.heap.size w w' := by
  obtain ⟨t0, hi2, hz0, hz1, hz3⟩ := info_parts info2
  have HIF := hidd (And.intro hi2 (And.intro hz0 (And.intro hz1 hz3)))
  obtain ⟨g, C, rfl, hC, hCl, hCc⟩ := h
  have hlt := hC.lt
  have HC := hidd hC
  have HCC := hidd hCc
  have HL := hidd (icells_len zs)
  clear hi2 hz0 hz1 hz3 hC hCc
  go_enter Tryd.func102, Tryd.ntmps102
  go_wp2_with (at_builtin; refine wpList_append_own _ rfl _ _ 25 rfl w.heap.size 2 t0 (.int .i64 0) 1 8 Tryd.underlying25 HIF.out.1 HIF.out.2.1 HIF.out.2.2.1 HIF.out.2.2.2 rfl (by decide) _ 0 [] rfl ⟨rfl, .inr ⟨w.heap.size, 0, #[], rfl, Nat.le_refl _, Blk.new _ _ _ _ rfl, Nat.le_refl _, by simp [maxLen], rfl, rfl⟩⟩ ⟨g, 0, none⟩ zs.length cap (icells zs) rfl ?c1 ?c2 ?c3 ?c4 ?c5 ?c6 ?_)
  case c1 => rw [HL.out]; omega
  case c2 =>
    intro j u hu
    have hj : j < zs.length := by have := (List.getElem?_eq_some_iff.1 hu).1; rw [HL.out] at this; exact this
    rw [Addr.add_mid, Nat.zero_add]
    refine ((HC.out.alloc _).cell ?_)
    rw [HCC.out j hj]
    have := icells_get hj
    rw [List.getElem?_toArray] at this
    rw [← hu, this]
  case c3 => intro u hu; obtain ⟨z, _, rfl⟩ := List.mem_map.1 hu; rfl
  case c4 => unfold maxLen; omega
  case c5 => omega
  case c6 => simp
  intro v' w2 hown hgrow _
  have K := hidd (And.intro hown (((Below.refl w.heap.size w).alloc (Nat.le_refl _) (.cells #[] 2)).grown hgrow (by simp) (fun g hg => by cases hg; exact Nat.le_refl _)))
  clear hown hgrow
  obtain ⟨a2, c2, rfl, _⟩ := own_list K.out.1
  go_wp2_with fail
  go_ret
  exact ⟨a2, c2, rfl, K.out⟩
end Go.Proofs.YtckffliiidgilaaDoor
/- Triangles of one colour: the program's sum (by the greatest point) and the model's (by the least) are equal. Nothing of the program. -/
namespace Go.Proofs.YtckffliiidgilaaDoor
set_option linter.unusedVariables false
set_option linter.unusedSimpArgs false
theorem sm_ext {f g : Nat → Nat} (m : Nat) (h : ∀ j, j < m → f j = g j) : sm f m = sm g m := sm_congr m h
theorem sm_cut (f : Nat → Nat) : ∀ (d m : Nat), sm f m = sm (fun i => if i < m then f i else 0) (m + d)
  | 0, m => sm_congr m fun j hj => by rw [if_pos hj]
  | d + 1, m => by
    rw [show m + (d + 1) = (m + d) + 1 by omega, sm, ← sm_cut f d m, if_neg (by omega)]
    rfl
theorem sm_cut' (f : Nat → Nat) {m N : Nat} (h : m ≤ N) : sm f m = sm (fun i => if i < m then f i else 0) N := by
  have := sm_cut f (N - m) m
  rwa [show m + (N - m) = N by omega] at this
theorem sm_if (c : Prop) [Decidable c] (f : Nat → Nat) (N : Nat) : (if c then sm f N else 0) = sm (fun i => if c then f i else 0) N := by
  split
  · rfl
  · exact (sm_zero N).symm
/-- Triples p < q < r by the greatest, then the middle one. -/
def triHi (t : Nat → Nat → Nat → Nat) (N : Nat) : Nat := sm (fun r => sm (fun q => sm (fun p => t p q r) q) r) N
/-- The same by the least, then the middle one. -/
def triLo (t : Nat → Nat → Nat → Nat) (N : Nat) : Nat := sm (fun p => sm (fun q => if p < q then sm (fun r => if q < r then t p q r else 0) N else 0) N) N
theorem tri_eq (t : Nat → Nat → Nat → Nat) (N : Nat) : triHi t N = triLo t N := by
  have h1 : triHi t N = sm (fun r => sm (fun q => sm (fun p => if q < r then (if p < q then t p q r else 0) else 0) N) N) N := by
    refine sm_congr N fun r hr => ?_
    show sm (fun q => sm (fun p => t p q r) q) r = _
    rw [sm_cut' _ (Nat.le_of_lt hr)]
    refine sm_congr N fun q hq => ?_
    rw [sm_cut' (fun p => t p q r) (Nat.le_of_lt hq), sm_if]
  have h2 : triLo t N = sm (fun p => sm (fun q => sm (fun r => if q < r then (if p < q then t p q r else 0) else 0) N) N) N := by
    refine sm_congr N fun p hp => sm_congr N fun q hq => ?_
    show (if p < q then sm (fun r => if q < r then t p q r else 0) N else 0) = _
    rw [sm_if]
    refine sm_congr N fun r hr => ?_
    by_cases ha : p < q <;> by_cases hb : q < r <;> simp [ha, hb]
  rw [h1, h2, sm_swap (fun r q => sm (fun p => if q < r then (if p < q then t p q r else 0) else 0) N) N N]
  rw [sm_congr N (g := fun q => sm (fun p => sm (fun r => if q < r then (if p < q then t p q r else 0) else 0) N) N) fun q hq => sm_swap (fun r p => if q < r then (if p < q then t p q r else 0) else 0) N N]
  rw [sm_swap (fun q p => sm (fun r => if q < r then (if p < q then t p q r else 0) else 0) N) N N]
end Go.Proofs.YtckffliiidgilaaDoor
/- Triangles counted: by the model (a point, then greater ones) and by the program (an edge, then lesser points). Nothing of the program. -/
namespace Go.Proofs.YtckffliiidgilaaDoor
set_option linter.unusedVariables false
set_option linter.unusedSimpArgs false
/-- A triangle of the colour c. -/
def tT (bs : List Nat) (c : Int) (p q r : Nat) : Nat := if colAt bs p q = c ∧ colAt bs p r = c ∧ colAt bs q r = c then 1 else 0
def rwN (bs : List Nat) (c : Int) (N : Nat) (p : Nat) : Nat := arK (nbB bs (p : Int) c) N
theorem nbB_ne {bs : List Nat} {c : Int} {p q : Nat} (h : p ≠ q) : nbB bs (p : Int) c q = decide (colAt bs p q = c) := by
  unfold nbB
  rw [decide_eq_true (by omega), Bool.true_and]
theorem rwN_bit {bs : List Nat} {c : Int} {N p q : Nat} (h : p ≠ q) (hq : q < N) : (rwN bs c N p).testBit q = decide (colAt bs p q = c) := by
  unfold rwN
  rw [arK_bit, decide_eq_true hq, Bool.true_and, nbB_ne h]
theorem full_bit {N p : Nat} (h : p < N) : (2 ^ N - 1).testBit p = true := by
  rw [Nat.testBit_two_pow_sub_one]; simp [h]
theorem cC_three (bs : List Nat) (c : Int) (N : Nat) : cC (rwN bs c N) N 3 (2 ^ N - 1) = triLo (tT bs c) N := by
  rw [cC_succ]
  unfold triLo
  refine sm_congr N fun p hp => ?_
  rw [cT, if_pos (full_bit hp), cC_succ]
  refine sm_congr N fun q hq => ?_
  have h1 : (hiB (2 ^ N - 1) (p + 1) &&& rwN bs c N p).testBit q = (decide (p < q) && decide (colAt bs p q = c)) := by
    rw [Nat.testBit_and, hiB_bit, full_bit hq, Bool.and_true]
    by_cases h : p < q
    · rw [rwN_bit (by omega) hq, decide_eq_true (show p + 1 ≤ q by omega), decide_eq_true h]
    · rw [decide_eq_false (show ¬ p + 1 ≤ q by omega), decide_eq_false h]; simp
  rw [cT, h1]
  by_cases h : p < q
  · rw [decide_eq_true h, Bool.true_and, if_pos h]
    by_cases hc : colAt bs p q = c
    · rw [if_pos (by simpa using hc), cC_succ]
      refine sm_congr N fun r hr => ?_
      have h2 : (hiB (hiB (2 ^ N - 1) (p + 1) &&& rwN bs c N p) (q + 1) &&& rwN bs c N q).testBit r = (decide (q < r) && (decide (colAt bs p r = c) && decide (colAt bs q r = c))) := by
        rw [Nat.testBit_and, hiB_bit, Nat.testBit_and, hiB_bit, full_bit hr, Bool.and_true]
        by_cases h' : q < r
        · rw [rwN_bit (by omega) hr, rwN_bit (by omega) hr, decide_eq_true (show q + 1 ≤ r by omega), decide_eq_true (show p + 1 ≤ r by omega), decide_eq_true h']; simp
        · rw [decide_eq_false (show ¬ q + 1 ≤ r by omega), decide_eq_false h']; simp
      rw [cT]
      have h3 : (hiB (2 ^ N - 1) (p + 1) &&& rwN bs c N p).testBit r = (decide (p < r) && decide (colAt bs p r = c)) := by
        rw [Nat.testBit_and, hiB_bit, full_bit hr, Bool.and_true]
        by_cases h' : p < r
        · rw [rwN_bit (by omega) hr, decide_eq_true (show p + 1 ≤ r by omega), decide_eq_true h']
        · rw [decide_eq_false (show ¬ p + 1 ≤ r by omega), decide_eq_false h']; simp
      show (if (hiB (hiB (2 ^ N - 1) (p + 1) &&& rwN bs c N p) (q + 1) &&& rwN bs c N q).testBit r = true then cC (rwN bs c N) N 0 _ else 0) = _
      rw [h2]
      unfold tT
      rw [show cC (rwN bs c N) N 0 (hiB (hiB (hiB (2 ^ N - 1) (p + 1) &&& rwN bs c N p) (q + 1) &&& rwN bs c N q) (r + 1) &&& rwN bs c N r) = 1 from rfl]
      by_cases h' : q < r
      · rw [if_pos h', decide_eq_true h', Bool.true_and]
        by_cases c1 : colAt bs p r = c <;> by_cases c2 : colAt bs q r = c <;> simp [hc, c1, c2]
      · rw [if_neg h', decide_eq_false h', Bool.false_and]; rfl
    · rw [if_neg (by simpa using hc)]
      refine (sm_zero' N fun r hr => ?_).symm
      unfold tT
      split
      · rw [if_neg (fun e => hc e.1)]
      · rfl
  · rw [decide_eq_false h, Bool.false_and, if_neg h]; rfl
/-- What an edge adds, with the lesser points below m. -/
def teF (bs : List Nat) (c : Int) (lo hi : Nat) (p : Nat) : Nat := if colAt bs p lo = c ∧ colAt bs p hi = c then 1 else 0
def teS (bs : List Nat) (c : Int) (t : Nat × Nat × Nat) : Nat := if ((bs.getD t.1 0 : Nat) : Int) = c then sm (teF bs c t.2.1 t.2.2) t.2.1 else 0
def teC (bs : List Nat) (l : List (Nat × Nat × Nat)) (c : Nat) : Nat := l.foldr (fun t s => teS bs (c : Int) t + s) 0
theorem teC_app (bs : List Nat) (c : Nat) : ∀ (a b : List (Nat × Nat × Nat)), teC bs (a ++ b) c = teC bs a c + teC bs b c
  | [], b => by simp [teC]
  | t :: a, b => by
    have := teC_app bs c a b
    unfold teC at *
    rw [List.cons_append, List.foldr_cons, List.foldr_cons, this]; omega
theorem teC_snoc (bs : List Nat) (l : List (Nat × Nat × Nat)) (t : Nat × Nat × Nat) (c : Nat) : teC bs (l ++ [t]) c = teC bs l c + teS bs (c : Int) t := by
  rw [teC_app]; simp [teC]
theorem teC_row (bs : List Nat) (c h : Nat) : ∀ l, teC bs (rowE h l) c = sm (fun q => teS bs (c : Int) (eN h + q, q, h)) l
  | 0 => rfl
  | l + 1 => by rw [rowE_succ, teC_snoc, teC_row bs c h l]; rfl
theorem teC_seq (bs : List Nat) (c : Nat) : ∀ h, teC bs (eseq h) c = sm (fun r => sm (fun q => teS bs (c : Int) (eN r + q, q, r)) r) h
  | 0 => rfl
  | h + 1 => by rw [eseq, teC_app, teC_seq bs c h, teC_row]; rfl
theorem teS_tri (bs : List Nat) (c : Int) {q r : Nat} (h : q < r) : teS bs c (eN r + q, q, r) = sm (fun p => tT bs c p q r) q := by
  unfold teS
  show (if ((bs.getD (eN r + q) 0 : Nat) : Int) = c then sm (teF bs c q r) q else 0) = _
  rw [← colAt_eN bs h, sm_if]
  refine sm_congr q fun p hp => ?_
  unfold tT teF
  by_cases c1 : colAt bs (q : Int) (r : Int) = c <;> by_cases c2 : colAt bs (p : Int) (q : Int) = c <;> by_cases c3 : colAt bs (p : Int) (r : Int) = c <;> simp [c1, c2, c3]
theorem teC_hi (bs : List Nat) (c N : Nat) : teC bs (eseq N) c = triHi (tT bs (c : Int)) N := by
  rw [teC_seq]
  unfold triHi
  exact sm_congr N fun r hr => sm_congr r fun q hq => teS_tri bs (c : Int) hq
theorem teC_cC (bs : List Nat) (c N : Nat) : teC bs (eseq N) c = cC (rwN bs (c : Int) N) N 3 (2 ^ N - 1) := by rw [teC_hi, tri_eq, cC_three]
theorem teS_le (bs : List Nat) (c : Int) (t : Nat × Nat × Nat) : teS bs c t ≤ t.2.1 := by
  unfold teS
  split
  · have := sm_le (f := teF bs c t.2.1 t.2.2) (B := 1) t.2.1 (fun j _ => by unfold teF; split <;> omega)
    omega
  · omega
/-- The counts on their way: the edges that have come, and of the next one the lesser points below m. -/
def teP (bs : List Nat) (l : List (Nat × Nat × Nat)) (t : Nat × Nat × Nat) (m : Nat) (c : Nat) : Nat := teC bs l c + (if ((bs.getD t.1 0 : Nat) : Int) = c then sm (teF bs c t.2.1 t.2.2) m else 0)
theorem teP_zero (bs : List Nat) (l : List (Nat × Nat × Nat)) (t : Nat × Nat × Nat) (c : Nat) : teP bs l t 0 c = teC bs l c := by
  unfold teP; split <;> simp [sm]
theorem teP_done (bs : List Nat) (l : List (Nat × Nat × Nat)) (t : Nat × Nat × Nat) (c : Nat) : teP bs l t t.2.1 c = teC bs (l ++ [t]) c := by
  rw [teC_snoc]; rfl
theorem teP_step (bs : List Nat) (l : List (Nat × Nat × Nat)) (t : Nat × Nat × Nat) (m c : Nat) : teP bs l t (m + 1) c = teP bs l t m c + (if ((bs.getD t.1 0 : Nat) : Int) = c ∧ colAt bs m t.2.1 = c ∧ colAt bs m t.2.2 = c then 1 else 0) := by
  unfold teP
  by_cases h : ((bs.getD t.1 0 : Nat) : Int) = c
  · rw [if_pos h, if_pos h, sm]
    unfold teF
    by_cases hh : colAt bs (m : Int) (t.2.1 : Int) = c ∧ colAt bs (m : Int) (t.2.2 : Int) = c
    · rw [if_pos hh, if_pos ⟨h, hh⟩]; omega
    · rw [if_neg hh, if_neg (fun e => hh e.2)]; omega
  · rw [if_neg h, if_neg h, if_neg (fun e => h e.1)]
end Go.Proofs.YtckffliiidgilaaDoor
/- CountTriangles: its model. -/
namespace Go.Proofs.YtckffliiidgilaaDoor
set_option linter.unusedVariables false
set_option linter.unusedSimpArgs false
open Go Go.RowKit Go.Shelf
def ctF (bs : List Nat) (N c : Nat) : Nat := cC (rwN bs (c : Int) N) N 3 (2 ^ N - 1)
def ctList (n k : Int) (bs : List Nat) : List Int := if isCol n k bs then dgL k.toNat (ctF bs n.toNat) else []
theorem fillA_get' {f : Nat → Int} {d j : Nat} (h : j < d) : (fillA f d).getD j 0 = f j := by
  induction d with
  | zero => omega
  | succ d ih =>
    rw [fillA_snoc, List.getD_eq_getElem?_getD]
    by_cases e : j = d
    · subst e; rw [List.getElem?_append_right (by rw [fillA_len]; omega), fillA_len]; simp
    · rw [List.getElem?_append_left (by rw [fillA_len]; omega), ← List.getD_eq_getElem?_getD, ih (by omega)]
theorem rows_rws {N : Nat} (hN : N ≤ 17) (bs : List Nat) (c : Int) : Rws N (rwN bs c N) (fillA (rowF N bs c) N) :=
  ⟨fillA_len _ _, fun p hp => by rw [fillA_get' hp]; rfl, fun p hp => Nat.lt_of_lt_of_le (arK_lt _ _) (Nat.pow_le_pow_right (by omega) hN)⟩
def RelCt (N : Nat) (bs : List Nat) (C : Array Value) (w : World) (d : Nat) (v : Value) (wr : World) : Prop :=
  Blk wr w.heap.size C 28 ∧ wr.ownsRow (w.heap.size + 1) 2 1 v (dgL d (ctF bs N)).length (icells (dgL d (ctF bs N))) ∧ Below w.heap.size w wr
theorem ctF_le (bs : List Nat) {N : Nat} (hN : N ≤ 17) (c : Nat) : ctF bs N c ≤ 4913 := by have := cC_le (R := rwN bs (c : Int) N) hN 3 (2 ^ N - 1); unfold ctF; omega
theorem full_int {N : Nat} (hN : N ≤ 17) : wrap64 (2 ^ N) - 1 = ((2 ^ N - 1 : Nat) : Int) := by
  have h2 : 2 ^ N ≤ 2 ^ 17 := Nat.pow_le_pow_right (by omega) hN
  have h3 : 1 ≤ 2 ^ N := Nat.one_le_two_pow
  have e : (2 : Int) ^ N = ((2 ^ N : Nat) : Int) := by simp
  rw [e]
  generalize 2 ^ N = y at *
  rw [IntWalk.wrap64_in _ ⟨by omega, by omega⟩]; omega
theorem load_row {w : World} {b : Nat} {n k : Int} {bs : List Nat} (hb : Bys bs) (h : Blk w b (ccells n k bs).toArray 28) :
    (Instr.loadAt 28 (.pointer (some ⟨b, 0, none⟩))).run Tryd.prog w = .ok (.agg (ccells n k bs).toArray) w :=
  run_loadAt_mid w b 0 28 (ccells n k bs) _ (h.range 0 _ (fun j v hj => by simpa using hj)) Tryd.underlying28 rfl (by rw [size_c26 n k hb]; simp)
end Go.Proofs.YtckffliiidgilaaDoor
/- l02List: the cliques of m points, in order, but not more than told. -/
namespace Go.Proofs.YtckffliiidgilaaDoor
set_option linter.unusedVariables false
set_option linter.unusedSimpArgs false
open Go Go.RowKit Go.Shelf
theorem rwN_irr (bs : List Nat) (c : Int) (N : Nat) : ∀ q, (rwN bs c N q).testBit q = false := fun q => by
  unfold rwN nbB
  rw [arK_bit]; simp
theorem frB_full (R : Nat → Nat) (N : Nat) : frB R N [] N = 2 ^ N - 1 := by
  apply Nat.eq_of_testBit_eq
  intro q
  rw [Nat.testBit_two_pow_sub_one]
  by_cases h : q < N
  · rw [frB_bit h]; simp [h, fitR]
  · unfold frB; rw [arK_high (by omega)]; simp [h]
/-- The cliques of m points of a colour, as lists. -/
def clqL (bs : List Nat) (c : Int) (N m : Nat) : List (List Int) := cqH (rwN bs c N) N m N []
theorem blk_ne28 {W : World} {a b : Nat} {C D : Array Value} (h : Blk W a C 28) (k : Blk W b D 25) : a ≠ b := fun e => by
  subst e
  unfold Blk at h k
  rw [h] at k
  cases k
theorem bg_empty {w : World} {b : Nat} (h : Blk w b #[] 2) : BgL w (some ⟨b, 0, none⟩) (rv []) := ⟨b, #[], rfl, h, by simp [rv], fun j hj => by simp [rv] at hj⟩
theorem ll_empty {w : World} {b : Nat} (h : Blk w b #[] 25) : LL w (.slice (some ⟨b, 0, none⟩) 0 0) [] := ⟨[], ⟨rfl, .inr ⟨b, 0, #[], rfl, Nat.zero_le _, h, Nat.le_refl _, by simp [maxLen], rfl, rfl⟩⟩, fun i zs h => by simp at h⟩
end Go.Proofs.YtckffliiidgilaaDoor
/- AvoidsSizes: its model. -/
namespace Go.Proofs.YtckffliiidgilaaDoor
set_option linter.unusedVariables false
set_option linter.unusedSimpArgs false
open Go Go.RowKit Go.Shelf
theorem cell_below {w w' : World} {p : Addr} {v : Value} (h : w.cell? p = some v) (hb : Below w.heap.size w w') : w'.cell? p = some v := by
  rw [World.cell?_of_block (hb.block _ (World.block_lt_of_cell? w p h))]; exact h
def szP (zs : List Int) (d : Nat) : Bool := (List.range d).all fun j => inB (zs.getD j 0) 1 17
theorem szP_step (zs : List Int) (d : Nat) : szP zs (d + 1) = (szP zs d && inB (zs.getD d 0) 1 17) := by simp [szP, List.range_succ]
theorem szP_get {zs : List Int} {d j : Nat} (h : szP zs d = true) (hj : j < d) : inB (zs.getD j 0) 1 17 = true := List.all_eq_true.1 h j (List.mem_range.2 hj)
theorem szP_fall {zs : List Int} {d m : Nat} (h : inB (zs.getD d 0) 1 17 = false) (hm : d < m) : szP zs m = false := by
  unfold szP
  rw [List.all_eq_false]
  exact ⟨d, List.mem_range.2 hm, by rw [h]; simp⟩
def szOk (k : Int) (zs : List Int) : Bool := decide ((zs.length : Int) = k) && szP zs zs.length
def szCode (n k : Int) (bs : List Nat) (zs : List Int) : Int := if isCol n k bs then (if szOk k zs then 0 else 2) else 1
theorem szCode_1 {n k : Int} {bs : List Nat} {zs : List Int} (h : isCol n k bs = false) : szCode n k bs zs = 1 := by simp [szCode, h]
theorem szCode_2 {n k : Int} {bs : List Nat} {zs : List Int} (h : isCol n k bs = true) (h2 : szOk k zs = false) : szCode n k bs zs = 2 := by simp [szCode, h, h2]
theorem szCode_0 {n k : Int} {bs : List Nat} {zs : List Int} (h : isCol n k bs = true) (h2 : szOk k zs = true) : szCode n k bs zs = 0 := by simp [szCode, h, h2]
/-- Is there no clique of the size of one of the first d colours? -/
def avP (N : Nat) (bs : List Nat) (zs : List Int) (d : Nat) : Bool := (List.range d).all fun c => (clqL bs (c : Int) N (zs.getD c 0).toNat).isEmpty
theorem avP_step (N : Nat) (bs : List Nat) (zs : List Int) (d : Nat) : avP N bs zs (d + 1) = (avP N bs zs d && (clqL bs (d : Int) N (zs.getD d 0).toNat).isEmpty) := by simp [avP, List.range_succ]
theorem avP_fall {N : Nat} {bs : List Nat} {zs : List Int} {d m : Nat} (h : (clqL bs (d : Int) N (zs.getD d 0).toNat).isEmpty = false) (hm : d < m) : avP N bs zs m = false := by
  unfold avP
  rw [List.all_eq_false]
  exact ⟨d, List.mem_range.2 hm, by rw [h]; simp⟩
def avB (n k : Int) (bs : List Nat) (zs : List Int) : Bool := decide (szCode n k bs zs = 0) && avP n.toNat bs zs k.toNat
end Go.Proofs.YtckffliiidgilaaDoor
/- Sets of points as numbers of 32 bits: how many, which is the last, does a point fit. -/
namespace Go.Proofs.YtckffliiidgilaaDoor
set_option linter.unusedVariables false
set_option linter.unusedSimpArgs false
open Go Go.RowKit Go.Shelf
theorem pop_ones : ∀ (f x : Nat), x < 2 ^ f → Lib.popAux f x = ones x
  | 0, x, h => by
    have : x = 0 := by simpa using h
    subst this; rw [ones_0]; rfl
  | f + 1, x, h => by
    rw [Lib.popAux, ones_eq x, pop_ones f (x / 2) (by rw [Nat.pow_succ] at h; omega)]
theorem pop8_ones (y : Nat) (h : y < 256) : Lib.pop8 (y : Int) = (ones y : Int) := by
  have := Lib.pop8_eq ⟨y, h⟩
  rw [this]
  unfold Lib.onesCount
  rw [pop_ones 64 y (by omega)]
theorem ones_split : ∀ (k X : Nat), ones X = ones (X % 2 ^ k) + ones (X / 2 ^ k)
  | 0, X => by simp [Nat.mod_one, ones_0]
  | k + 1, X => by
    rw [ones_eq X, ones_split k (X / 2), ones_eq (X % 2 ^ (k + 1)), Nat.div_div_eq_div_mul, show 2 * 2 ^ k = 2 ^ (k + 1) by rw [Nat.pow_succ, Nat.mul_comm]]
    have h1 : X % 2 ^ (k + 1) % 2 = X % 2 := by rw [Nat.pow_succ, Nat.mul_comm, Nat.mod_mul_right_mod]
    have h2 : X % 2 ^ (k + 1) / 2 = X / 2 % 2 ^ k := by rw [Nat.pow_succ, Nat.mul_comm, Nat.mod_mul_right_div_self]
    rw [h1, h2]; omega
theorem idx_pop {S : ByteArray} (hS : S = Lib.pop8tab) (k : IntKind) (y : Int) (h0 : 0 ≤ y) (h1 : y ≤ 255) (w : World) : (Instr.index 9 (.string S) (.int k y)).run Tryd.prog w = .ok (.int .u8 (Lib.pop8 y)) w := by
  subst hS
  exact Lib.run_index_pop8tab w 9 k y Tryd.underlying9 h0 h1
theorem quiet_idx {o : Oper} {a : Act} {C : World → Prop} {w : World} {S : ByteArray} {k : IntKind} {y : Int} (t : Tmp) (ho : o.op = .index 9 (.const (.string S)) (.tmp t)) (ht : a.eval (.tmp t) = .int k y) (hS : S = Lib.pop8tab) (h0 : 0 ≤ y) (h1 : y ≤ 255) (hC : C w) : o.quietAt Tryd.prog a C w (.int .u8 (Lib.pop8 y)) := by
  have h := idx_pop hS k y h0 h1 w
  have e : (execOp a.eval o).run Tryd.prog w = .ok (.value (.int .u8 (Lib.pop8 y))) w := by
    unfold execOp
    simp only [ho, ht, Act.eval, Sem.run_bind, Sem.run_pure] at ht h ⊢
    simp only [ht, h, Result.andThen_ok]
  unfold Oper.quietAt
  rw [e]
  exact ⟨rfl, rfl⟩
theorem ofInt_u32 (a : Nat) (ha : a < 4294967296) : (BitVec.ofInt 32 (a : Int)).toNat = a := by
  rw [BitVec.toNat_ofInt]; omega
theorem u32_and_nat (a b : Nat) (ha : a < 4294967296) (hb : b < 4294967296) : bits .and .u32 (a : Int) (b : Int) = ((a &&& b : Nat) : Int) := by
  have hx : a &&& b < 2 ^ 32 := Nat.and_lt_two_pow _ (by omega)
  show IntKind.u32.wrap ((BitVec.ofInt 32 (a : Int) &&& BitVec.ofInt 32 (b : Int)).toNat : Int) = _
  rw [BitVec.toNat_and, ofInt_u32 a ha, ofInt_u32 b hb]
  unfold IntKind.wrap; simp [IntKind.signed, IntKind.bits]; omega
theorem u32_or_nat (a b : Nat) (ha : a < 4294967296) (hb : b < 4294967296) : bits .or .u32 (a : Int) (b : Int) = ((a ||| b : Nat) : Int) := by
  have hx : a ||| b < 2 ^ 32 := Nat.or_lt_two_pow (by omega) (by omega)
  show IntKind.u32.wrap ((BitVec.ofInt 32 (a : Int) ||| BitVec.ofInt 32 (b : Int)).toNat : Int) = _
  rw [BitVec.toNat_or, ofInt_u32 a ha, ofInt_u32 b hb]
  unfold IntKind.wrap; simp [IntKind.signed, IntKind.bits]; omega
theorem u32_mask (a : Nat) (ha : a < 4294967296) : bits .and .u32 (a : Int) 255 = ((a % 256 : Nat) : Int) := by
  have := u32_and_nat a 255 ha (by omega)
  rw [show (255 : Nat) = 2 ^ 8 - 1 from rfl, Nat.and_two_pow_sub_one_eq_mod] at this
  exact this
theorem u8_wrap {a : Int} (h0 : 0 ≤ a) (h1 : a < 256) : IntKind.u8.wrap a = a := u8_in h0 h1
theorem ones_lt8 {y : Nat} (h : y < 256) : ones y ≤ 8 := by
  have := Lib.onesCount_le8 ⟨y, h⟩
  unfold Lib.onesCount at this
  rwa [pop_ones 64 y (by omega)] at this
set_option maxRecDepth 100000 in
set_option maxHeartbeats 2000000 in
theorem ones49 (X : Nat) (hX : X < 2 ^ 17) (w : World) : Calls Tryd.prog 103 #[.int .u32 (X : Int)] w fun e w' => e = .returned (.int .i64 (ones X : Nat)) ∧ w' = w.drew := by
  have hx1 : (X : Int) / 16777216 = 0 := by omega
  have hp0 : Lib.pop8 0 = 0 := by have := pop8_ones 0 (by omega); rw [ones_0] at this; exact this
  obtain ⟨a1, ha1⟩ : ∃ a1, a1 = X / 65536 % 256 := ⟨_, rfl⟩
  obtain ⟨a2, ha2⟩ : ∃ a2, a2 = X / 256 % 256 := ⟨_, rfl⟩
  obtain ⟨a3, ha3⟩ : ∃ a3, a3 = X % 256 := ⟨_, rfl⟩
  have hx2 : bits .and .u32 ((X : Int) / 65536) 255 = (a1 : Int) := by rw [ha1]; exact u32_mask (X / 65536) (by omega)
  have hx3 : bits .and .u32 ((X : Int) / 256) 255 = (a2 : Int) := by rw [ha2]; exact u32_mask (X / 256) (by omega)
  have hx4 : bits .and .u32 (X : Int) 255 = (a3 : Int) := by rw [ha3]; exact u32_mask X (by omega)
  have hl1 : a1 < 256 := by omega
  have hl2 : a2 < 256 := by omega
  have hl3 : a3 < 256 := by omega
  have hp1 := pop8_ones a1 hl1
  have hp2 := pop8_ones a2 hl2
  have hp3 := pop8_ones a3 hl3
  have hb1 := ones_lt8 hl1
  have hb2 := ones_lt8 hl2
  have hb3 := ones_lt8 hl3
  have hsum : ones X = ones a1 + ones a2 + ones a3 := by
    rw [ones_split 8 X, ones_split 8 (X / 2 ^ 8), Nat.div_div_eq_div_mul, ha1, ha2, ha3]
    have e : X / 65536 % 256 = X / (2 ^ 8 * 2 ^ 8) := by rw [show 2 ^ 8 * 2 ^ 8 = 65536 from rfl]; exact Nat.mod_eq_of_lt (by omega)
    rw [e]
    show ones (X % 256) + (ones (X / 256 % 256) + _) = _
    omega
  obtain ⟨o1, ho1⟩ : ∃ o1, o1 = ones a1 := ⟨_, rfl⟩
  obtain ⟨o2, ho2⟩ : ∃ o2, o2 = ones a2 := ⟨_, rfl⟩
  obtain ⟨o3, ho3⟩ : ∃ o3, o3 = ones a3 := ⟨_, rfl⟩
  rw [← ho1] at hp1 hb1 hsum
  rw [← ho2] at hp2 hb2 hsum
  rw [← ho3] at hp3 hb3 hsum
  have HSUM := hidd hsum
  have hw1 : IntKind.u8.wrap (o1 : Int) = (o1 : Int) := u8_wrap (by omega) (by omega)
  obtain ⟨s2, hs2⟩ : ∃ s2, s2 = o1 + o2 := ⟨_, rfl⟩
  obtain ⟨s3, hs3⟩ : ∃ s3, s3 = s2 + o3 := ⟨_, rfl⟩
  have hw2 : IntKind.u8.wrap ((o1 : Int) + (o2 : Int)) = (s2 : Int) := by rw [u8_wrap (by omega) (by omega)]; omega
  have hw3 : IntKind.u8.wrap ((s2 : Int) + (o3 : Int)) = (s3 : Int) := by rw [u8_wrap (by omega) (by omega)]; omega
  have hw4 : IntKind.i64.wrap (s3 : Int) = (s3 : Int) := IntWalk.i64_in _ (by omega)
  have HS := hidd (show ones X = s3 by omega)
  clear ha1 ha2 ha3 ho1 ho2 ho3 hsum hs2 hs3
  go_enter Tryd.func103, Tryd.ntmps103
  go_wp2_with fail
  refine wp_region_quiet_at (fun w' => w' = w.drew) rfl (by kernel_rfl) (rfl) ?_
  refine qs rfl (fun KQ hKQ => ?_)
  apply Exists.intro
  refine ⟨fun w' hw' => ?_, ?_⟩
  · go_simp; exact rfl
  go_simp
  refine hKQ _ ?_
  clear hKQ KQ
  refine qs rfl (fun KQ hKQ => ?_)
  apply Exists.intro
  refine ⟨fun w' hw' => ?_, ?_⟩
  · go_simp; exact rfl
  go_simp
  refine hKQ _ ?_
  clear hKQ KQ
  refine qs rfl (fun KQ hKQ => ?_)
  apply Exists.intro
  refine ⟨fun w' hw' => ?_, ?_⟩
  · exact quiet_idx 4 rfl rfl (by kernel_rfl) (by omega) (by omega) hw'
  go_simp
  refine hKQ _ ?_
  clear hKQ KQ
  refine qs rfl (fun KQ hKQ => ?_)
  apply Exists.intro
  refine ⟨fun w' hw' => ?_, ?_⟩
  · go_simp; exact rfl
  go_simp
  refine hKQ _ ?_
  clear hKQ KQ
  refine qs rfl (fun KQ hKQ => ?_)
  apply Exists.intro
  refine ⟨fun w' hw' => ?_, ?_⟩
  · go_simp; exact rfl
  go_simp
  refine hKQ _ ?_
  clear hKQ KQ
  refine qs rfl (fun KQ hKQ => ?_)
  apply Exists.intro
  refine ⟨fun w' hw' => ?_, ?_⟩
  · go_simp; exact rfl
  go_simp
  refine hKQ _ ?_
  clear hKQ KQ
  refine qs rfl (fun KQ hKQ => ?_)
  apply Exists.intro
  refine ⟨fun w' hw' => ?_, ?_⟩
  · exact quiet_idx 8 rfl rfl (by kernel_rfl) (by omega) (by omega) hw'
  go_simp
  refine hKQ _ ?_
  clear hKQ KQ
  refine qs rfl (fun KQ hKQ => ?_)
  apply Exists.intro
  refine ⟨fun w' hw' => ?_, ?_⟩
  · go_simp; exact rfl
  go_simp
  refine hKQ _ ?_
  clear hKQ KQ
  refine qs rfl (fun KQ hKQ => ?_)
  apply Exists.intro
  refine ⟨fun w' hw' => ?_, ?_⟩
  · go_simp; exact rfl
  go_simp
  refine hKQ _ ?_
  clear hKQ KQ
  refine qs rfl (fun KQ hKQ => ?_)
  apply Exists.intro
  refine ⟨fun w' hw' => ?_, ?_⟩
  · go_simp; exact rfl
  go_simp
  refine hKQ _ ?_
  clear hKQ KQ
  refine qs rfl (fun KQ hKQ => ?_)
  apply Exists.intro
  refine ⟨fun w' hw' => ?_, ?_⟩
  · go_simp; exact rfl
  go_simp
  refine hKQ _ ?_
  clear hKQ KQ
  refine qs rfl (fun KQ hKQ => ?_)
  apply Exists.intro
  refine ⟨fun w' hw' => ?_, ?_⟩
  · exact quiet_idx 13 rfl rfl (by kernel_rfl) (by omega) (by omega) hw'
  go_simp
  refine hKQ _ ?_
  clear hKQ KQ
  refine qs rfl (fun KQ hKQ => ?_)
  apply Exists.intro
  refine ⟨fun w' hw' => ?_, ?_⟩
  · go_simp; exact rfl
  go_simp
  refine hKQ _ ?_
  clear hKQ KQ
  refine qs rfl (fun KQ hKQ => ?_)
  apply Exists.intro
  refine ⟨fun w' hw' => ?_, ?_⟩
  · go_simp; exact rfl
  go_simp
  refine hKQ _ ?_
  clear hKQ KQ
  refine qs rfl (fun KQ hKQ => ?_)
  apply Exists.intro
  refine ⟨fun w' hw' => ?_, ?_⟩
  · go_simp; exact rfl
  go_simp
  refine hKQ _ ?_
  clear hKQ KQ
  refine qs rfl (fun KQ hKQ => ?_)
  apply Exists.intro
  refine ⟨fun w' hw' => ?_, ?_⟩
  · exact quiet_idx 17 rfl rfl (by kernel_rfl) (by omega) (by omega) hw'
  go_simp
  refine hKQ _ ?_
  clear hKQ KQ
  refine qs rfl (fun KQ hKQ => ?_)
  apply Exists.intro
  refine ⟨fun w' hw' => ?_, ?_⟩
  · go_simp; exact rfl
  go_simp
  refine hKQ _ ?_
  clear hKQ KQ
  refine qs rfl (fun KQ hKQ => ?_)
  apply Exists.intro
  refine ⟨fun w' hw' => ?_, ?_⟩
  · go_simp; exact rfl
  go_simp
  refine hKQ _ ?_
  clear hKQ KQ
  refine qs rfl (fun KQ hKQ => ?_)
  apply Exists.intro
  refine ⟨fun w' hw' => ?_, ?_⟩
  · go_simp; exact rfl
  go_simp
  refine hKQ _ ?_
  clear hKQ KQ
  refine wpQuiet_nil ?_
  intro w' hw'
  subst hw'
  go_wp2_with fail
  go_ret
  exact ⟨by rw [HS.out]; rfl, rfl⟩
theorem len_log : ∀ (k X : Nat), 2 ^ k ≤ X → X < 2 ^ (k + 1) → k < 64 → Lib.bitLen X = k + 1 := fun k X h1 h2 hk => by
  have hlt : X < 2 ^ 64 := Nat.lt_of_lt_of_le h2 (Nat.pow_le_pow_right (by omega) (by omega))
  rw [Lib.bitLen_shift k X h1 hlt]
  have : X / 2 ^ k = 1 := by
    rw [Nat.pow_succ] at h2
    have hp : 0 < 2 ^ k := Nat.two_pow_pos k
    refine Nat.div_eq_of_lt_le (by omega) (by omega)
  rw [this]; rfl
theorem wpList_idx_len {ops : Array Oper} {rest : List Oper} {o : Oper} {a : Act} {w : World} {Q : Exit → Act → World → Prop} (hgd : o.guard = none) {S : ByteArray} {k : IntKind} {y : Int} (t : Tmp) (ho : o.op = .index 9 (.const (.string S)) (.tmp t)) (ht : a.eval (.tmp t) = .int k y) (hS : S = Lib.len8tab) (h0 : 0 ≤ y) (h1 : y ≤ 255)
    (h : wpList Tryd.prog ops Q rest (a.put o.dst (.int .u8 (Lib.len8 y))) w) : wpList Tryd.prog ops Q (o :: rest) a w := by
  refine wpList_plain hgd fun K hK => ?_
  have hr := Lib.run_index_len8tab (P := Tryd.prog) w 9 k y Tryd.underlying9 h0 h1
  rw [← hS] at hr
  unfold Oper.wp execOp
  simp only [Act.eval] at ht
  simp only [ho, Act.eval, ht, Sem.run_bind, Sem.run_pure, hr, Result.andThen_ok]
  exact hK _ _ h
theorem len8_nat (y : Nat) (h : y < 256) : Lib.len8 (y : Int) = (Lib.bitLen y : Int) := Lib.len8_eq ⟨y, h⟩
theorem bl_le8 {y : Nat} (h : y < 256) : Lib.bitLen y ≤ 8 := Lib.bitLen_le8 ⟨y, h⟩
set_option maxRecDepth 100000 in
set_option maxHeartbeats 2000000 in
theorem len64 (X : Nat) (hX : X < 2 ^ 17) (w : World) : Calls Tryd.prog 101 #[.int .u32 (X : Int)] w fun e w' => e = .returned (.int .i64 (Lib.bitLen X : Nat)) ∧ w = w' := by
  by_cases h1 : 65536 ≤ X
  · have hg1 : decide (65536 ≤ (X : Int)) = true := by simp; omega
    obtain ⟨y, hy⟩ : ∃ y, y = X / 65536 := ⟨_, rfl⟩
    have hyX : (X : Int) / 65536 = (y : Int) := by omega
    have hy1 : y < 256 := by omega
    have hg2 : decide (256 ≤ (y : Int)) = false := by simp; omega
    have hb := bl_le8 hy1
    have hl := len8_nat y hy1
    have hs := Lib.bitLen_shift16 X h1 (by omega)
    rw [← hy] at hs
    obtain ⟨L, hL⟩ : ∃ L, L = Lib.bitLen y := ⟨_, rfl⟩
    rw [← hL] at hs hb hl
    have hwl : IntKind.i64.wrap (16 + (L : Int)) = 16 + (L : Int) := IntWalk.i64_in _ (by omega)
    have hwy : IntKind.u8.wrap (y : Int) = (y : Int) := u8_wrap (by omega) (by omega)
    have HS := hidd hs
    clear hs hL hy
    go_enter Tryd.func101, Tryd.ntmps101
    go_wp2_with (refine wpList_idx_len rfl 15 rfl rfl (by kernel_rfl) (by omega) (by omega) ?_)
    go_ret
    exact ⟨by rw [HS.out]; rfl, rfl⟩
  · have hg1 : decide (65536 ≤ (X : Int)) = false := by simp; omega
    by_cases h2 : 256 ≤ X
    · have hg2 : decide (256 ≤ (X : Int)) = true := by simp; omega
      obtain ⟨y, hy⟩ : ∃ y, y = X / 256 := ⟨_, rfl⟩
      have hyX : (X : Int) / 256 = (y : Int) := by omega
      have hy1 : y < 256 := by omega
      have hb := bl_le8 hy1
      have hl := len8_nat y hy1
      have hs := Lib.bitLen_shift8 X h2 (by omega)
      rw [← hy] at hs
      obtain ⟨L, hL⟩ : ∃ L, L = Lib.bitLen y := ⟨_, rfl⟩
      rw [← hL] at hs hb hl
      have hwl : IntKind.i64.wrap (8 + (L : Int)) = 8 + (L : Int) := IntWalk.i64_in _ (by omega)
      have hwy : IntKind.u8.wrap (y : Int) = (y : Int) := u8_wrap (by omega) (by omega)
      have HS := hidd hs
      clear hs hL hy
      go_enter Tryd.func101, Tryd.ntmps101
      go_wp2_with (refine wpList_idx_len rfl 15 rfl rfl (by kernel_rfl) (by omega) (by omega) ?_)
      go_ret
      exact ⟨by rw [HS.out]; rfl, rfl⟩
    · have hg2 : decide (256 ≤ (X : Int)) = false := by simp; omega
      have hy1 : X < 256 := by omega
      have hb := bl_le8 hy1
      have hl := len8_nat X hy1
      obtain ⟨L, hL⟩ : ∃ L, L = Lib.bitLen X := ⟨_, rfl⟩
      rw [← hL] at hb hl
      have hwl : IntKind.i64.wrap (L : Int) = (L : Int) := IntWalk.i64_in _ (by omega)
      have hwy : IntKind.u8.wrap (X : Int) = (X : Int) := u8_wrap (by omega) (by omega)
      have HS := hidd hL
      clear hL
      go_enter Tryd.func101, Tryd.ntmps101
      go_wp2_with (refine wpList_idx_len rfl 15 rfl rfl (by kernel_rfl) (by omega) (by omega) ?_)
      go_ret
      exact ⟨by rw [← HS.out]; rfl, rfl⟩
/-- The digits of a set of points. -/
def bitS : List Nat → Nat
  | [] => 0
  | q :: s => bitS s ||| 2 ^ q
theorem bitS_bit : ∀ (s : List Nat) (j : Nat), (bitS s).testBit j = decide (j ∈ s)
  | [], j => by simp [bitS]
  | q :: s, j => by
    rw [bitS, Nat.testBit_or, bitS_bit s j, Nat.testBit_two_pow]
    by_cases h : j = q
    · subst h; simp
    · by_cases h2 : j ∈ s
      · simp [h, h2]
      · simp [h, h2, show ¬ q = j from fun e => h e.symm]
theorem bitS_lt : ∀ (s : List Nat) {m : Nat}, (∀ q ∈ s, q < m) → bitS s < 2 ^ m
  | [], m, _ => Nat.two_pow_pos m
  | q :: s, m, h => by
    refine Nat.or_lt_two_pow (bitS_lt s (fun p hp => h p (List.mem_cons_of_mem _ hp))) (Nat.pow_lt_pow_right (by omega) (h q (List.mem_cons_self ..)))
theorem bitS_top {q : Nat} {s : List Nat} (h : ∀ p ∈ s, p < q) : 2 ^ q ≤ bitS (q :: s) ∧ bitS (q :: s) < 2 ^ (q + 1) := by
  refine ⟨?_, bitS_lt _ (fun p hp => ?_)⟩
  · show 2 ^ q ≤ bitS s ||| 2 ^ q
    exact Nat.right_le_or
  · rcases List.mem_cons.1 hp with rfl | hp
    · omega
    · have := h p hp; omega
theorem bitS_drop {q : Nat} {s : List Nat} (h : ∀ p ∈ s, p < q) : bitS (q :: s) = bitS s + 2 ^ q := by
  show bitS s ||| 2 ^ q = _
  have e := Nat.two_pow_add_eq_or_of_lt (bitS_lt s h) 1
  rw [Nat.mul_one] at e
  rw [Nat.or_comm, ← e]; omega
theorem bitS_zero {s : List Nat} : bitS s = 0 ↔ s = [] := by
  constructor
  · intro h
    cases s with
    | nil => rfl
    | cons q s =>
      have : (bitS (q :: s)).testBit q = true := by rw [bitS_bit]; simp
      rw [h] at this; simp at this
  · intro h; subst h; rfl
theorem ones_bitS : ∀ (s : List Nat), s.Pairwise (· > ·) → ones (bitS s) = s.length
  | [], _ => ones_0
  | q :: s, h => by
    rw [List.pairwise_cons] at h
    have hq : ∀ p ∈ s, p < q := fun p hp => h.1 p hp
    rw [bitS_drop hq, ones_pow q _ (bitS_lt s hq), ones_bitS s h.2]; rfl
set_option maxRecDepth 100000 in
theorem last60 {q : Nat} {s : List Nat} (h : ∀ p ∈ s, p < q) (hq : q < 17) (w : World) : Calls Tryd.prog 76 #[.int .u32 (bitS (q :: s) : Nat)] w fun e w' => e = .returned (.int .i64 (q : Int)) ∧ w = w' := by
  obtain ⟨t1, t2⟩ := bitS_top h
  have hX : bitS (q :: s) < 2 ^ 17 := Nat.lt_of_lt_of_le t2 (Nat.pow_le_pow_right (by omega) (by omega))
  have hl := len_log q _ t1 t2 (by omega)
  obtain ⟨X, hXX⟩ : ∃ X, X = bitS (q :: s) := ⟨_, rfl⟩
  rw [← hXX] at hl hX ⊢
  have HL := hidd (fun W => len64 X hX W)
  rw [hl] at HL
  clear hl hXX t1 t2
  go_enter Tryd.func76, Tryd.ntmps76
  go_wp2_with (go_at_call 101; refine (HL.out _).mono ?_; rintro e w' ⟨rfl, rfl⟩)
  go_ret
  refine ⟨?_, rfl⟩
  simp
set_option maxRecDepth 100000 in
theorem size34 (X : Nat) (hX : X < 2 ^ 17) (w : World) : Calls Tryd.prog 87 #[.int .u32 (X : Int)] w fun e w' => e = .returned (.int .i64 (ones X : Nat)) ∧ w' = w.drew := by
  have HL := hidd (fun W => ones49 X hX W)
  go_enter Tryd.func87, Tryd.ntmps87
  go_wp2_with (go_at_call 103; refine (HL.out _).mono ?_; rintro e w' ⟨rfl, rfl⟩)
  go_ret
  exact ⟨rfl, rfl⟩
/-- The sets of neighbours as the program has them. -/
def ncell (f : Nat → Nat) : List Value := (List.range 17).map fun p => Value.int .u32 (f p : Int)
theorem ncell_get {f : Nat → Nat} {p : Nat} (h : p < 17) : (ncell f).toArray[p]? = some (.int .u32 (f p : Int)) := by simp [ncell, h]
theorem ncell_len (f : Nat → Nat) : (ncell f).length = 17 := by simp [ncell]
theorem ncell_set (f : Nat → Nat) (i v : Nat) : (ncell f).toArray.setIfInBounds i (.int .u32 (v : Int)) = (ncell (fun p => if p = i then v else f p)).toArray := by
  apply Array.ext'
  rw [Array.toList_setIfInBounds]
  apply List.ext_getElem
  · simp [ncell]
  · intro j h1 h2
    simp [ncell, List.getElem_set]
    by_cases e : i = j
    · subst e; simp
    · simp [e, show ¬ j = i from fun h => e h.symm]
theorem info84 : (Tryd.prog.info? 125).map (fun i => (i.zero, i.size)) = some (some (.agg (ncell fun _ => 0).toArray), 17) := by kernel_rfl
theorem size84 : (Tryd.prog.info? 125).map (·.size) = some 17 := (zero_of_info info84).2
end Go.Proofs.YtckffliiidgilaaDoor
/- CountTriangles: the program's own text. -/
namespace Go.Proofs.YtckffliiidgilaaDoor
set_option linter.unusedVariables false
set_option linter.unusedSimpArgs false
open Go Go.RowKit Go.Shelf
attribute [local go_sem] Oper.semAt_some
theorem inLoadRowIf {F : Fence} {n : Nat} {P : Program} {ops : Array Oper} {rest : List Oper} {o : Oper} {a : Act} {w : World} {Q : Exit → Act → World → Prop} (hw : Region.wanted o (yielded ops a.tmps) = true) (ty : TypeId) (x : Operand) (ho : o.op = .load ty x)
    (g : Nat) (hx : a.eval x = .pointer (some ⟨g, 0, none⟩)) (t : TypeId) (cs : Array Value) (d : TypeDesc) (hg : Blk w g cs t)
    (hu : P.underlying ty = some d) (hd : (match d with | .struct _ | .array _ _ => true | _ => false) = true) (hi : (P.info? ty).map (·.size) = some cs.size)
    (h : wpListIn F n P ops Q rest (a.put o.dst (.agg cs)) w) : wpListIn F n P ops Q (o :: rest) a w := by
  refine BigFrame.wpListIn_want hw fun K hK => ?_
  unfold Oper.wpIn
  rw [Oper.semAt_eq _ _ _ (fun c h => by rw [ho] at h; cases h)]
  refine ⟨fun f hf => by simp [Oper.about, ho] at hf, ?_⟩
  unfold execOp
  simp only [ho, hx, Instr.loadAt, Instr.sureAddr, Sem.run_bind, Sem.run_pure, Result.andThen_ok, run_loadVar_row w g t ty cs (0, 0) d hg hu hd hi]
  exact hK _ _ h
theorem teC_le (bs : List Nat) (c : Nat) : ∀ (l : List (Nat × Nat × Nat)) (B : Nat), (∀ t ∈ l, t.2.1 ≤ B) → teC bs l c ≤ l.length * B
  | [], B, _ => by simp [teC]
  | t :: l, B, h => by
    have h1 := teC_le bs c l B (fun t ht => h t (List.mem_cons_of_mem _ ht))
    have h2 := teS_le bs (c : Int) t
    have h3 := h t (List.mem_cons_self ..)
    have : teC bs (t :: l) c = teS bs (c : Int) t + teC bs l c := rfl
    rw [this, List.length_cons, Nat.succ_mul]; omega
theorem te_hit {K : Nat} {bs : List Nat} {l : List (Nat × Nat × Nat)} {t : Nat × Nat × Nat} {m y : Nat} (hy : bs.getD t.1 0 = y) (h1 : colAt bs m t.2.1 = y) (h2 : colAt bs m t.2.2 = y) :
    (dgL K (teP bs l t m)).set y ((teP bs l t m y : Int) + 1) = dgL K (teP bs l t (m + 1)) := by
  have := dgL_set K (teP bs l t m) y (teP bs l t m y + 1)
  rw [Int.natCast_add] at this
  rw [show (1 : Int) = ((1 : Nat) : Int) from rfl, this]
  refine dgL_congr fun c _ => ?_
  rw [teP_step, hy]
  by_cases e : c = y
  · subst e; rw [if_pos rfl, if_pos ⟨rfl, h1, h2⟩]
  · rw [if_neg e, if_neg (fun h => e (by have := h.1; omega))]; rfl
theorem te_miss {K : Nat} {bs : List Nat} {l : List (Nat × Nat × Nat)} {t : Nat × Nat × Nat} {m y : Nat} (hy : bs.getD t.1 0 = y) (h : ¬ (colAt bs m t.2.1 = y ∧ colAt bs m t.2.2 = y)) :
    dgL K (teP bs l t (m + 1)) = dgL K (teP bs l t m) := by
  refine dgL_congr fun c _ => ?_
  rw [teP_step, hy]
  by_cases e : c = y
  · subst e; rw [if_neg (fun h' => h h'.2)]; rfl
  · rw [if_neg (fun h' => e (by have := h'.1; omega))]; rfl
theorem teP_le {N : Nat} (hN : N ≤ 17) (bs : List Nat) (pre : List (Edg N)) (hl : pre.length < 136) (t : Nat × Nat × Nat) (m c : Nat) (hm : m ≤ 17) : teP bs (pre.map Edg.v) t m c ≤ 4096 := by
  have h1 := teC_le bs c (pre.map Edg.v) 17 (fun t ht => by
    obtain ⟨x, _, rfl⟩ := List.mem_map.1 ht
    have := x.2
    show x.1.2.1 ≤ 17
    omega)
  rw [List.length_map] at h1
  unfold teP
  have h2 := sm_le (f := teF bs (c : Int) t.2.1 t.2.2) (B := 1) m (fun j _ => by unfold teF; split <;> omega)
  split <;> omega
def RelTd {N : Nat} (K : Nat) (k : Int) (bs : List Nat) (g : Nat) (w : World) (pre : List (Edg N)) (W : World) : Prop :=
  Blk W w.heap.size (ccells (N : Int) k bs).toArray 28 ∧ Blk W g (icells (dgL K (teC bs (pre.map Edg.v)))).toArray 2 ∧ Blk W (g + 1) #[.slice (some ⟨g, 0, none⟩) K K] 25 ∧ Below w.heap.size w W
theorem dgL_zero' (K : Nat) (bs : List Nat) : zrow K = (icells (dgL K (teC bs []))).toArray := by
  rw [zrow_icells]
  congr 2
  apply List.ext_getElem
  · simp [dgL]
  · intro p h1 h2
    simp [dgL, teC]
/-- In the inner loop. -/
def RelTi {N : Nat} (K : Nat) (k : Int) (bs : List Nat) (g b B : Nat) (w W : World) (pre : List (Edg N)) (t : Nat × Nat × Nat) (m : Nat) (wr : World) : Prop :=
  Blk wr w.heap.size (ccells (N : Int) k bs).toArray 28 ∧ Blk wr g (icells (dgL K (teP bs (pre.map Edg.v) t m))).toArray 2 ∧ Blk wr (g + 1) #[.slice (some ⟨g, 0, none⟩) K K] 25 ∧ Below w.heap.size w wr ∧
    Blk wr b #[.int .i64 (t.2.1 : Int), .int .i64 (t.2.2 : Int)] 145 ∧ KeepsFrom B W wr ∧ KpB (g + 1 + 1) W wr ∧ g + 1 + 1 < wr.heap.size
theorem relTi_step {N K : Nat} {k : Int} {bs : List Nat} {g b B : Nat} {w W : World} {pre : List (Edg N)} {t : Nat × Nat × Nat} {m : Nat} {wr w1 : World} (h : RelTi K k bs g b B w W pre t m wr) (hb : Below wr.heap.size wr w1) : RelTi K k bs g b B w W pre t m w1 :=
  ⟨h.1.below hb h.1.lt, h.2.1.below hb h.2.1.lt, h.2.2.1.below hb h.2.2.1.lt, h.2.2.2.1.trans (hb.mono h.2.2.2.1.size), h.2.2.2.2.1.below hb h.2.2.2.2.1.lt, h.2.2.2.2.2.1.trans (keeps_below hb), kpB_t h.2.2.2.2.2.2.1 (hb.block _ h.2.2.2.2.2.2.2), Nat.lt_of_lt_of_le h.2.2.2.2.2.2.2 hb.size⟩
end Go.Proofs.YtckffliiidgilaaDoor
/- The sets of neighbours of the points in one colour, edge by edge. Nothing of the program. -/
namespace Go.Proofs.YtckffliiidgilaaDoor
set_option linter.unusedVariables false
set_option linter.unusedSimpArgs false
open Go Go.RowKit Go.Shelf
/-- Does an edge of the colour join p and j? -/
def adjT (bs : List Nat) (c : Int) (p j : Nat) (t : Nat × Nat × Nat) : Bool :=
  decide (((bs.getD t.1 0 : Nat) : Int) = c) && ((decide (t.2.1 = p) && decide (t.2.2 = j)) || (decide (t.2.2 = p) && decide (t.2.1 = j)))
def nsF (bs : List Nat) (c : Int) (l : List (Nat × Nat × Nat)) (p : Nat) : Nat := arK (fun j => l.any (adjT bs c p j)) 17
theorem nsF_bit {bs : List Nat} {c : Int} {l : List (Nat × Nat × Nat)} {p j : Nat} : (nsF bs c l p).testBit j = (decide (j < 17) && l.any (adjT bs c p j)) := arK_bit _ _ _
theorem nsF_lt (bs : List Nat) (c : Int) (l : List (Nat × Nat × Nat)) (p : Nat) : nsF bs c l p < 2 ^ 17 := arK_lt _ _
theorem nsF_nil (bs : List Nat) (c : Int) : nsF bs c [] = fun _ => 0 := by
  funext p
  apply Nat.eq_of_testBit_eq
  intro j
  rw [nsF_bit]; simp
theorem nsF_miss {bs : List Nat} {c : Int} {l : List (Nat × Nat × Nat)} {t : Nat × Nat × Nat} (h : ((bs.getD t.1 0 : Nat) : Int) ≠ c) : nsF bs c (l ++ [t]) = nsF bs c l := by
  funext p
  apply Nat.eq_of_testBit_eq
  intro j
  rw [nsF_bit, nsF_bit, List.any_append]
  have : adjT bs c p j t = false := by unfold adjT; rw [decide_eq_false h]; rfl
  simp [this]
def setF (f : Nat → Nat) (i v : Nat) : Nat → Nat := fun p => if p = i then v else f p
theorem nsF_hit {bs : List Nat} {c : Int} {l : List (Nat × Nat × Nat)} {j lo hi : Nat} (hc : ((bs.getD j 0 : Nat) : Int) = c) (h : lo < hi) (h17 : hi < 17) :
    nsF bs c (l ++ [(j, lo, hi)]) = setF (setF (nsF bs c l) lo (nsF bs c l lo ||| 2 ^ hi)) hi (nsF bs c l hi ||| 2 ^ lo) := by
  funext p
  apply Nat.eq_of_testBit_eq
  intro q
  rw [nsF_bit, List.any_append]
  have ha : adjT bs c p q (j, lo, hi) = ((decide (lo = p) && decide (hi = q)) || (decide (hi = p) && decide (lo = q))) := by unfold adjT; rw [decide_eq_true hc]; rfl
  have hb : ([(j, lo, hi)] : List (Nat × Nat × Nat)).any (adjT bs c p q) = ((decide (lo = p) && decide (hi = q)) || (decide (hi = p) && decide (lo = q))) := by rw [List.any_cons, List.any_nil, Bool.or_false, ha]
  rw [hb]
  unfold setF
  by_cases e1 : p = hi
  · subst e1
    rw [if_pos rfl, Nat.testBit_or, nsF_bit, Nat.testBit_two_pow, decide_eq_false (show ¬ lo = p by omega), decide_eq_true (rfl : p = p)]
    by_cases hq : lo = q
    · subst hq; rw [decide_eq_true (show lo < 17 by omega)]; simp
    · rw [decide_eq_false hq]; simp
  · rw [if_neg e1]
    by_cases e2 : p = lo
    · subst e2
      rw [if_pos rfl, Nat.testBit_or, nsF_bit, Nat.testBit_two_pow, decide_eq_true (rfl : p = p), decide_eq_false (show ¬ hi = p by omega)]
      by_cases hq : hi = q
      · subst hq; rw [decide_eq_true h17]; simp
      · rw [decide_eq_false hq]; simp
    · rw [if_neg e2, nsF_bit, decide_eq_false (show ¬ lo = p by omega), decide_eq_false (show ¬ hi = p by omega)]; simp
theorem rowE_has (bs : List Nat) (c : Int) (p q h : Nat) : ∀ l, (rowE h l).any (adjT bs c p q) = (decide (((bs.getD (eN h + p) 0 : Nat) : Int) = c) && (decide (h = q) && decide (p < l)) || decide (((bs.getD (eN h + q) 0 : Nat) : Int) = c) && (decide (h = p) && decide (q < l)))
  | 0 => by simp [rowE]
  | l + 1 => by
    rw [rowE_succ, List.any_append, rowE_has bs c p q h l, List.any_cons, List.any_nil, Bool.or_false]
    unfold adjT
    rw [Bool.eq_iff_iff]
    simp only [Bool.or_eq_true, Bool.and_eq_true, decide_eq_true_eq]
    constructor
    · rintro ((⟨h1, h2, h3⟩ | ⟨h1, h2, h3⟩) | ⟨h1, (⟨h2, h3⟩ | ⟨h2, h3⟩)⟩)
      · exact .inl ⟨h1, h2, by omega⟩
      · exact .inr ⟨h1, h2, by omega⟩
      · subst h2; exact .inl ⟨h1, h3, by omega⟩
      · subst h3; exact .inr ⟨h1, h2, by omega⟩
    · rintro (⟨h1, h2, h3⟩ | ⟨h1, h2, h3⟩)
      · by_cases e : p = l
        · subst e; exact .inr ⟨h1, .inl ⟨rfl, h2⟩⟩
        · exact .inl (.inl ⟨h1, h2, by omega⟩)
      · by_cases e : q = l
        · subst e; exact .inr ⟨h1, .inr ⟨h2, rfl⟩⟩
        · exact .inl (.inr ⟨h1, h2, by omega⟩)
theorem eseq_has (bs : List Nat) (c : Int) (p q : Nat) : ∀ h, (eseq h).any (adjT bs c p q) = (decide (((bs.getD (eN q + p) 0 : Nat) : Int) = c) && (decide (p < q) && decide (q < h)) || decide (((bs.getD (eN p + q) 0 : Nat) : Int) = c) && (decide (q < p) && decide (p < h)))
  | 0 => by simp [eseq]
  | h + 1 => by
    rw [eseq, List.any_append, eseq_has bs c p q h, rowE_has]
    rw [Bool.eq_iff_iff]
    simp only [Bool.or_eq_true, Bool.and_eq_true, decide_eq_true_eq]
    constructor
    · rintro ((⟨h1, h2, h3⟩ | ⟨h1, h2, h3⟩) | (⟨h1, h2, h3⟩ | ⟨h1, h2, h3⟩))
      · exact .inl ⟨h1, h2, by omega⟩
      · exact .inr ⟨h1, h2, by omega⟩
      · subst h2; exact .inl ⟨h1, h3, by omega⟩
      · subst h2; exact .inr ⟨h1, h3, by omega⟩
    · rintro (⟨h1, h2, h3⟩ | ⟨h1, h2, h3⟩)
      · by_cases e : q = h
        · subst e; exact .inr (.inl ⟨h1, rfl, h2⟩)
        · exact .inl (.inl ⟨h1, h2, by omega⟩)
      · by_cases e : p = h
        · subst e; exact .inr (.inr ⟨h1, rfl, h2⟩)
        · exact .inl (.inr ⟨h1, h2, by omega⟩)
/-- The sets of the program are the rows of the model. -/
theorem nsF_rw (bs : List Nat) (c : Int) {N p : Nat} (hp : p < N) (hN : N ≤ 17) : nsF bs c (eseq N) p = rwN bs c N p := by
  apply Nat.eq_of_testBit_eq
  intro q
  rw [nsF_bit, eseq_has]
  unfold rwN
  rw [arK_bit]
  by_cases hq : q < N
  · rw [decide_eq_true hq, decide_eq_true (show q < 17 by omega), Bool.true_and, Bool.true_and]
    by_cases e : p = q
    · subst e
      unfold nbB
      rw [decide_eq_false (show ¬ p < p by omega)]; simp
    · rw [nbB_ne e]
      by_cases hlt : p < q
      · rw [colAt_eN bs hlt, decide_eq_true hlt, decide_eq_false (show ¬ q < p by omega)]; simp
      · rw [colAt_eN' bs (show q < p by omega), decide_eq_false hlt, decide_eq_true (show q < p by omega), decide_eq_true hp]; simp
  · rw [decide_eq_false hq, Bool.false_and]
    have h1 : decide (q < N) = false := decide_eq_false hq
    by_cases hlt : q < p
    · omega
    · rw [decide_eq_false hlt]; simp
theorem nsF_hi (bs : List Nat) (c : Int) {N p q : Nat} (hp : N ≤ p) (hN : N ≤ 17) : (nsF bs c (eseq N) p) = 0 := by
  apply Nat.eq_of_testBit_eq
  intro q
  rw [nsF_bit, eseq_has, decide_eq_false (show ¬ p < N by omega), Nat.zero_testBit]
  by_cases hlt : p < q
  · rw [decide_eq_false (show ¬ q < N by omega)]; simp
  · rw [decide_eq_false hlt]; simp
end Go.Proofs.YtckffliiidgilaaDoor
/- neighbourSetsOf: the sets of neighbours of the points in one colour, as the program fills them. -/
namespace Go.Proofs.YtckffliiidgilaaDoor
set_option linter.unusedVariables false
set_option linter.unusedSimpArgs false
open Go Go.RowKit Go.Shelf
attribute [local go_sem] Oper.semAt_some
theorem u32_in {a : Int} (h0 : 0 ≤ a) (h1 : a < 4294967296) : IntKind.u32.wrap a = a := by
  unfold IntKind.wrap; simp [IntKind.signed, IntKind.bits]; omega
theorem zero84 : ∀ w, (zeroValue 125).run Tryd.prog w = .ok (.agg (ncell fun _ => 0).toArray) w := (zero_of_info info84).1
theorem size_n (f : Nat → Nat) : (Tryd.prog.info? 125).map (·.size) = some (ncell f).toArray.size := by rw [size84]; simp [ncell]
theorem ncell_one (f : Nat → Nat) : (ncell f).toArray.all (·.oneCell') = true := by
  rw [Array.all_eq_true_iff_forall_mem]
  intro v hv
  simp only [ncell, List.mem_toArray, List.mem_map] at hv
  obtain ⟨p, _, rfl⟩ := hv
  rfl
theorem ncell_setF (f : Nat → Nat) (i v : Nat) : (ncell f).toArray.setIfInBounds i (.int .u32 (v : Int)) = (ncell (setF f i v)).toArray := ncell_set f i v
def RelNe {N : Nat} (k c : Int) (bs : List Nat) (w : World) (pre : List (Edg N)) (W : World) : Prop :=
  Blk W w.heap.size (ccells (N : Int) k bs).toArray 28 ∧ Blk W (w.heap.size + 1) #[.int .i64 c] 2 ∧ Blk W (w.heap.size + 1 + 1) (ncell fun _ => 0).toArray 125 ∧ Blk W (w.heap.size + 1 + 1 + 1) (ncell (nsF bs c (pre.map Edg.v))).toArray 125 ∧ Below w.heap.size w W
set_option maxRecDepth 100000 in
set_option maxHeartbeats 2000000 in
theorem near57 (N : Nat) (k c : Int) (bs : List Nat) (hb : Bys bs) (w : World) (N1 : 1 ≤ N) (N2 : N ≤ 17) :
    Calls Tryd.prog 109 #[.agg (ccells (N : Int) k bs).toArray, .int .i64 c] w fun e w' => e = .returned (.agg (ncell (nsF bs c (eseq N))).toArray) ∧ Below w.heap.size w w' := by
  have Hz := zero84
  have HC0 := hidd (show (ccells (N : Int) k bs).toArray[0]? = some (.int .i64 (N : Int)) from rfl)
  have hfn : ∀ f, Fence.wide.fn f := fun _ => trivial
  have g0 : ((((w.alloc (Obj.cells (ccells (N : Int) k bs).toArray 28)).alloc (Obj.cells #[.int .i64 c] 2)).alloc (Obj.cells (ncell fun _ => 0).toArray 125)).alloc (Obj.cells (ncell fun _ => 0).toArray 125)).cell? ⟨w.heap.size, 0, none⟩ = some (.int .i64 (N : Int)) :=
    ((((Blk.new w (ccells (N : Int) k bs).toArray 28 _ rfl).alloc _).alloc _).alloc _).cell HC0.out
  refine (callsIn_wide (n := 8)).1 (callsIn_of_wp_marks Tryd.func109 rfl trivial ?_ rfl)
  simp only [Tryd.ntmps109, List.size_toArray, List.length_cons, List.length_nil, Nat.reduceAdd, Nat.reduceSub, Array.replicate_succ, Array.replicate_zero, List.push_toArray, List.append_toArray, List.nil_append, List.cons_append]
  gi_wp2_with (gi_at_call 112; refine (callsIn_wide.2 (edges66 _ _)).mono ?_; rintro e w' ⟨rfl, rfl⟩)
  obtain ⟨W0, hW0⟩ : ∃ W0, W0 = ((((w.alloc (Obj.cells (ccells (N : Int) k bs).toArray 28)).alloc (Obj.cells #[.int .i64 c] 2)).alloc (Obj.cells (ncell fun _ => 0).toArray 125)).alloc (Obj.cells (ncell fun _ => 0).toArray 125)).alloc (Obj.cells #[Value.int IntKind.i64 (N : Int)] 2) := ⟨_, rfl⟩
  have hBn : Blk W0 (w.heap.size + 1 + 1 + 1 + 1) #[.int .i64 (N : Int)] 2 := by rw [hW0]; exact Blk.new _ _ _ _ (by simp)
  have hBy : Blk W0 (w.heap.size + 1 + 1 + 1) (ncell fun _ => 0).toArray 125 := by rw [hW0]; exact (Blk.new _ _ _ _ (by simp)).alloc _
  have hBz : Blk W0 (w.heap.size + 1 + 1) (ncell fun _ => 0).toArray 125 := by rw [hW0]; exact ((Blk.new _ _ _ _ (by simp)).alloc _).alloc _
  have hBc : Blk W0 (w.heap.size + 1) #[.int .i64 c] 2 := by rw [hW0]; exact (((Blk.new _ _ _ _ (by simp)).alloc _).alloc _).alloc _
  have hBx : Blk W0 w.heap.size (ccells (N : Int) k bs).toArray 28 := by rw [hW0]; exact ((((Blk.new _ _ _ _ rfl).alloc _).alloc _).alloc _).alloc _
  have hbl0 : Below w.heap.size w W0 := by
    rw [hW0]
    exact (((((Below.refl _ _).alloc (Nat.le_refl _) _).alloc (by simp) _).alloc (by simp; omega) _).alloc (by simp; omega) _).alloc (by simp; omega) _
  rw [← hW0]
  clear hW0 g0
  refine wpIn_rangeFunc_ownH rfl (by omega) (gf := 113) (lb := #[.pointer (some ⟨w.heap.size + 1 + 1 + 1 + 1, 0, none⟩)]) rfl trivial (enters_of Tryd.func113 (by kernel_rfl) rfl)
    (seq80 6 (w.heap.size + 1 + 1 + 1 + 1) N N1 N2 W0 hBn) kpB_t (kpB_b hBn.lt) (Below.refl _ _) (fun _ => rfl)
    (fun pre W => RelNe k c bs w pre W ∧ w.heap.size + 1 + 1 + 1 + 1 < W.heap.size)
    (fun _ _ _ => False)
    (fun s A B row hs hg hr => ⟨⟨blk_own hs.1.1 hg hr, blk_own hs.1.2.1 hg hr, blk_own hs.1.2.2.1 hg hr, blk_own hs.1.2.2.2.1 hg hr, ownFrom_below (β := Unit) (Nat.le_refl _) hbl0.size () A B row hs.1.2.2.2.2 hg hr⟩, Nat.lt_of_lt_of_le hs.2 hg.size⟩)
    (fun _ _ _ _ _ hs _ _ => hs)
    ⟨⟨hBx, hBc, hBz, by rw [show nsF bs c (([] : List (Edg N)).map Edg.v) = fun _ => 0 from nsF_nil bs c]; exact hBy, hbl0⟩, hBn.lt⟩
    (fun x a' W => ∃ b, a' = { tmps := #[.agg (ccells (N : Int) k bs).toArray, .int .i64 c, .pointer (some ⟨w.heap.size, 0, none⟩), .pointer (some ⟨w.heap.size + 1, 0, none⟩), .pointer (some ⟨w.heap.size + 1 + 1, 0, none⟩), .pointer (some ⟨w.heap.size + 1 + 1 + 1, 0, none⟩), .int .i64 (x.1.1 : Int), .pointer (some ⟨b, 0, none⟩), .pointer (some ⟨w.heap.size, 0, none⟩), .int .i64 (N : Int), .func (.func 113) #[] #[.pointer (some ⟨w.heap.size + 1 + 1 + 1 + 1, 0, none⟩)], .int .i64 (x.1.1 : Int), .agg #[.int .i64 (x.1.2.1 : Int), .int .i64 (x.1.2.2 : Int)], undef, undef, undef, undef, undef, undef, undef, undef, undef, undef, undef, undef, undef, undef, undef, undef, undef, undef, undef, undef, undef, undef, undef, undef, undef, undef], defers := [] } ∧ w.heap.size + 1 + 1 + 1 + 1 < b ∧ Blk W b #[.int .i64 (x.1.2.1 : Int), .int .i64 (x.1.2.2 : Int)] 145)
    (fun x a' s A B row hs hg hr => by obtain ⟨b, h1, h2, h3⟩ := hs; exact ⟨b, h1, h2, blk_own h3 hg hr⟩) ?assign ?body ?done ?stop
  case assign =>
    intro l pre x W Kx hI hK
    have HI := hidd hI
    have HK := hidd hK
    clear hI hK
    dsimp only [encE]
    gi_wp2
    refine HK.out _ _ ((KeepsOthers.alloc W _).from _) ?_ ?_ ?_
    · exact Below.heap_alloc W _ _ HI.out.2
    · exact ⟨⟨HI.out.1.1.alloc _, HI.out.1.2.1.alloc _, HI.out.1.2.2.1.alloc _, HI.out.1.2.2.2.1.alloc _, HI.out.1.2.2.2.2.alloc HI.out.1.2.2.2.2.size _⟩, by have := HI.out.2; simp; omega⟩
    · exact ⟨W.heap.size, rfl, by have := HI.out.2; omega, Blk.new _ _ _ _ rfl⟩
  case body =>
    rintro l pre x a' W hl _ ⟨⟨h1, h2, h3, h4, h5⟩, h6⟩ ⟨b, rfl, hb', h7⟩ hlen
    have hx := x.lt
    obtain ⟨hx1, hx2, hx3⟩ := x.2
    have h17 := eN_17 N2
    obtain ⟨j, hj⟩ : ∃ j, j = x.1.1 := ⟨_, rfl⟩
    obtain ⟨lo, hlo⟩ : ∃ lo, lo = x.1.2.1 := ⟨_, rfl⟩
    obtain ⟨hi, hhi⟩ : ∃ hi, hi = x.1.2.2 := ⟨_, rfl⟩
    rw [← hlo, ← hhi] at h7 hx2
    rw [← hhi] at hx3
    rw [← hj] at hx ⊢
    rw [← hlo, ← hhi]
    have HX := hidd (show x.1 = (j, lo, hi) by rw [hj, hlo, hhi])
    have HPRE : (pre ++ [x]).map Edg.v = pre.map Edg.v ++ [(j, lo, hi)] := by rw [List.map_append, show [x].map Edg.v = [(j, lo, hi)] by simp [Edg.v, HX.out]]
    have HP := hidd HPRE
    have c0 := h1.cell (hb.cget (N : Int) k (show j < 136 by omega))
    obtain ⟨y, hy⟩ : ∃ y, y = bs.getD j 0 := ⟨_, rfl⟩
    have hy256 : y < 256 := by rw [hy]; exact hb.lt j
    rw [← hy] at c0
    have HY := hidd hy
    have cc := h2.cell (j := 0) (show _ = some (Value.int .i64 c) from rfl)
    have d0 := h7.cell (j := 0) (show _ = some (Value.int .i64 (lo : Int)) from rfl)
    have d1 := h7.cell (j := 1) (show _ = some (Value.int .i64 (hi : Int)) from rfl)
    have hj136 : (j : Int) < 136 := by omega
    have hwy : IntKind.i64.wrap (y : Int) = y := IntWalk.i64_in _ (by omega)
    have HH := hidd (And.intro h1 (And.intro h2 (And.intro h3 (And.intro h4 (And.intro h5 (And.intro h6 h7))))))
    clear hj hlo hhi hy h1 h2 h3 h4 h5 h6 h7 hx1 HPRE
    cases hq : ((y : Int) == c) with
    | false =>
      have hne := (beq_eq_false_iff_ne.1 hq)
      have HM := hidd (nsF_miss (l := pre.map Edg.v) (t := (j, lo, hi)) (show ((bs.getD j 0 : Nat) : Int) ≠ c by rw [← HY.out]; exact hne))
      gi_wp2_with fail
      refine wpIn_region_tail_lit (lets_round l _) 6 (fun w' => w' = W.drew) (by decide) (by kernel_rfl) rfl (by kernel_rfl) (by kernel_rfl) (by kernel_rfl) (by kernel_rfl) (by kernel_rfl) ?_
      simp only [List.take_succ_cons, List.take_zero, List.drop_succ_cons, List.drop_zero, List.map_cons, List.map_nil, List.cons_append, List.nil_append, idle]
      refine qs rfl (fun KQ hKQ => ?_)
      apply Exists.intro
      refine ⟨fun w' hw' => ?_, ?_⟩
      · go_simp; exact rfl
      go_simp
      refine hKQ _ ?_
      clear hKQ KQ
      refine qs rfl (fun KQ hKQ => ?_)
      apply Exists.intro
      refine ⟨fun w' hw' => ?_, ?_⟩
      · go_simp; exact rfl
      go_simp
      refine hKQ _ ?_
      clear hKQ KQ
      refine qs rfl (fun KQ hKQ => ?_)
      apply Exists.intro
      refine ⟨fun w' hw' => ?_, ?_⟩
      · go_simp; exact rfl
      go_simp
      refine hKQ _ ?_
      clear hKQ KQ
      refine qs rfl (fun KQ hKQ => ?_)
      apply Exists.intro
      refine ⟨fun w' hw' => ?_, ?_⟩
      · subst hw'; go_simp; exact rfl
      go_simp
      refine hKQ _ ?_
      clear hKQ KQ
      refine qs rfl (fun KQ hKQ => ?_)
      apply Exists.intro
      refine ⟨fun w' hw' => ?_, ?_⟩
      · go_simp; exact rfl
      go_simp
      refine hKQ _ ?_
      clear hKQ KQ
      refine qs rfl (fun KQ hKQ => ?_)
      apply Exists.intro
      refine ⟨fun w' hw' => ?_, ?_⟩
      · subst hw'; go_simp; exact rfl
      go_simp
      refine hKQ _ ?_
      clear hKQ KQ
      refine qs rfl (fun KQ hKQ => ?_)
      apply Exists.intro
      refine ⟨fun w' hw' => ?_, ?_⟩
      · go_simp; exact rfl
      go_simp
      refine hKQ _ ?_
      clear hKQ KQ
      refine wpQuiet_nil ?_
      intro w' hw'
      subst hw'
      gi_wp2_with fail
      exact ⟨keeps_below ((Below.refl _ _).drew), rfl, ⟨⟨HH.out.1, HH.out.2.1, HH.out.2.2.1, by rw [HP.out, HM.out]; exact HH.out.2.2.2.1, HH.out.2.2.2.2.1.trans (((Below.refl _ _).drew).mono HH.out.2.2.2.2.1.size)⟩, HH.out.2.2.2.2.2.1⟩⟩
    | true =>
      have heq := beq_iff_eq.1 hq
      have HM := hidd (nsF_hit (l := pre.map Edg.v) (show ((bs.getD j 0 : Nat) : Int) = c by rw [← HY.out]; exact heq) hx2 (show hi < 17 by omega))
      gi_wp2_with fail
      refine wpIn_region_tail_lit (lets_round l _) 6 (fun w' => w' = W.drew) (by decide) (by kernel_rfl) rfl (by kernel_rfl) (by kernel_rfl) (by kernel_rfl) (by kernel_rfl) (by kernel_rfl) ?_
      simp only [List.take_succ_cons, List.take_zero, List.drop_succ_cons, List.drop_zero, List.map_cons, List.map_nil, List.cons_append, List.nil_append, idle]
      refine qs rfl (fun KQ hKQ => ?_)
      apply Exists.intro
      refine ⟨fun w' hw' => ?_, ?_⟩
      · go_simp; exact rfl
      go_simp
      refine hKQ _ ?_
      clear hKQ KQ
      refine qs rfl (fun KQ hKQ => ?_)
      apply Exists.intro
      refine ⟨fun w' hw' => ?_, ?_⟩
      · go_simp; exact rfl
      go_simp
      refine hKQ _ ?_
      clear hKQ KQ
      refine qs rfl (fun KQ hKQ => ?_)
      apply Exists.intro
      refine ⟨fun w' hw' => ?_, ?_⟩
      · go_simp; exact rfl
      go_simp
      refine hKQ _ ?_
      clear hKQ KQ
      refine qs rfl (fun KQ hKQ => ?_)
      apply Exists.intro
      refine ⟨fun w' hw' => ?_, ?_⟩
      · subst hw'; go_simp; exact rfl
      go_simp
      refine hKQ _ ?_
      clear hKQ KQ
      refine qs rfl (fun KQ hKQ => ?_)
      apply Exists.intro
      refine ⟨fun w' hw' => ?_, ?_⟩
      · go_simp; exact rfl
      go_simp
      refine hKQ _ ?_
      clear hKQ KQ
      refine qs rfl (fun KQ hKQ => ?_)
      apply Exists.intro
      refine ⟨fun w' hw' => ?_, ?_⟩
      · subst hw'; go_simp; exact rfl
      go_simp
      refine hKQ _ ?_
      clear hKQ KQ
      refine qs rfl (fun KQ hKQ => ?_)
      apply Exists.intro
      refine ⟨fun w' hw' => ?_, ?_⟩
      · go_simp; exact rfl
      go_simp
      refine hKQ _ ?_
      clear hKQ KQ
      refine wpQuiet_nil ?_
      intro w' hw'
      subst hw'
      obtain ⟨F, hF⟩ : ∃ F, F = nsF bs c (pre.map Edg.v) := ⟨_, rfl⟩
      have h4 := HH.out.2.2.2.1
      rw [← hF] at h4 HM
      have HF := hidd hF
      have hA17 : F lo < 2 ^ 17 := by rw [hF]; exact nsF_lt _ _ _ _
      have hB17 : F hi < 2 ^ 17 := by rw [hF]; exact nsF_lt _ _ _ _
      have fl := h4.cell (ncell_get (f := F) (show lo < 17 by omega))
      have hfro := h4.fro lo
      have hs4 := h4.same lo
      have lo17 : (lo : Int) < 17 := by omega
      have hi17 : (hi : Int) < 17 := by omega
      have t1 : min hi 64 = hi := by omega
      have t2 : min lo 64 = lo := by omega
      have p1 : 2 ^ hi < 2 ^ 17 := Nat.pow_lt_pow_right (by omega) (by omega)
      have p2 : 2 ^ lo < 2 ^ 17 := Nat.pow_lt_pow_right (by omega) (by omega)
      obtain ⟨P1, hP1⟩ : ∃ P1, P1 = 2 ^ hi := ⟨_, rfl⟩
      obtain ⟨P2, hP2⟩ : ∃ P2, P2 = 2 ^ lo := ⟨_, rfl⟩
      have s1 : IntKind.u32.wrap (2 ^ hi) = (P1 : Int) := by rw [hP1]; rw [show ((2 : Int) ^ hi) = ((2 ^ hi : Nat) : Int) by simp]; exact u32_in (by omega) (by omega)
      have s2 : IntKind.u32.wrap (2 ^ lo) = (P2 : Int) := by rw [hP2]; rw [show ((2 : Int) ^ lo) = ((2 ^ lo : Nat) : Int) by simp]; exact u32_in (by omega) (by omega)
      rw [← hP1] at HM p1
      rw [← hP2] at HM p2
      obtain ⟨A, hA⟩ : ∃ A, A = F lo := ⟨_, rfl⟩
      obtain ⟨B, hB⟩ : ∃ B, B = F hi := ⟨_, rfl⟩
      have u1 := u32_or_nat A P1 (by omega) (by omega)
      have u2 := u32_or_nat B P2 (by omega) (by omega)
      rw [← hA] at HM fl
      rw [← hB] at HM
      obtain ⟨G1, hG1⟩ : ∃ G1, G1 = A ||| P1 := ⟨_, rfl⟩
      obtain ⟨G2, hG2⟩ : ∃ G2, G2 = B ||| P2 := ⟨_, rfl⟩
      rw [← hG1] at u1 HM
      rw [← hG2] at u2 HM
      have HAB := hidd (And.intro hA hB)
      clear hF hA17 hB17 hA hB hP1 hP2 hG1 hG2
      gi_wp2_with fail
      refine wpIn_region_tail_lit (lets_round l _) 9 (fun w' => w' = W.drew.drew) (by decide) (by kernel_rfl) rfl (by kernel_rfl) (by kernel_rfl) (by kernel_rfl) (by kernel_rfl) (by kernel_rfl) ?_
      simp only [List.take_succ_cons, List.take_zero, List.drop_succ_cons, List.drop_zero, List.map_cons, List.map_nil, List.cons_append, List.nil_append, idle]
      refine qs rfl (fun KQ hKQ => ?_)
      apply Exists.intro
      refine ⟨fun w' hw' => ?_, ?_⟩
      · go_simp; exact rfl
      go_simp
      refine hKQ _ ?_
      clear hKQ KQ
      refine qs rfl (fun KQ hKQ => ?_)
      apply Exists.intro
      refine ⟨fun w' hw' => ?_, ?_⟩
      · subst hw'; go_simp; exact rfl
      go_simp
      refine hKQ _ ?_
      clear hKQ KQ
      refine qs rfl (fun KQ hKQ => ?_)
      apply Exists.intro
      refine ⟨fun w' hw' => ?_, ?_⟩
      · go_simp; exact rfl
      go_simp
      refine hKQ _ ?_
      clear hKQ KQ
      refine qs rfl (fun KQ hKQ => ?_)
      apply Exists.intro
      refine ⟨fun w' hw' => ?_, ?_⟩
      · subst hw'; go_simp; exact rfl
      go_simp
      refine hKQ _ ?_
      clear hKQ KQ
      refine qs rfl (fun KQ hKQ => ?_)
      apply Exists.intro
      refine ⟨fun w' hw' => ?_, ?_⟩
      · go_simp; exact rfl
      go_simp
      refine hKQ _ ?_
      clear hKQ KQ
      refine qs rfl (fun KQ hKQ => ?_)
      apply Exists.intro
      refine ⟨fun w' hw' => ?_, ?_⟩
      · subst hw'; go_simp; exact rfl
      go_simp
      refine hKQ _ ?_
      clear hKQ KQ
      refine qs rfl (fun KQ hKQ => ?_)
      apply Exists.intro
      refine ⟨fun w' hw' => ?_, ?_⟩
      · go_simp; exact rfl
      go_simp
      refine hKQ _ ?_
      clear hKQ KQ
      refine qs rfl (fun KQ hKQ => ?_)
      apply Exists.intro
      refine ⟨fun w' hw' => ?_, ?_⟩
      · go_simp; exact rfl
      go_simp
      refine hKQ _ ?_
      clear hKQ KQ
      refine qs rfl (fun KQ hKQ => ?_)
      apply Exists.intro
      refine ⟨fun w' hw' => ?_, ?_⟩
      · go_simp; exact rfl
      go_simp
      refine hKQ _ ?_
      clear hKQ KQ
      refine qs rfl (fun KQ hKQ => ?_)
      apply Exists.intro
      refine ⟨fun w' hw' => ?_, ?_⟩
      · go_simp; exact rfl
      go_simp
      refine hKQ _ ?_
      clear hKQ KQ
      refine wpQuiet_nil ?_
      intro w' hw'
      subst hw'
      gi_wp2_with fail
      obtain ⟨V, hV⟩ : ∃ V, V = (W.setCell ⟨w.heap.size + 1 + 1 + 1, lo, none⟩ (.int .u32 (G1 : Int))).drew.drew := ⟨_, rfl⟩
      have b4 : Blk V (w.heap.size + 1 + 1 + 1) (ncell (setF F lo G1)).toArray 125 := by
        rw [hV, ← ncell_setF]
        exact Blk.same (w := W) h4 lo _
      have nb : b ≠ w.heap.size + 1 + 1 + 1 := by omega
      have b7 : Blk V b #[Value.int IntKind.i64 ↑lo, Value.int IntKind.i64 ↑hi] 145 := by rw [hV]; exact Blk.other (w := W) HH.out.2.2.2.2.2.2 _ _ nb
      have e0 := b7.cell (j := 0) (show _ = some (Value.int .i64 (lo : Int)) from rfl)
      have e1 := b7.cell (j := 1) (show _ = some (Value.int .i64 (hi : Int)) from rfl)
      have fh := b4.cell (ncell_get (f := setF F lo G1) (show hi < 17 by omega))
      rw [show setF F lo G1 hi = B by rw [HAB.out.2]; unfold setF; rw [if_neg (by omega)]] at fh
      have hfr2 := b4.fro hi
      have s5 : Blk (V.drew.setCell ⟨w.heap.size + 1 + 1 + 1, hi, none⟩ (.int .u32 (G2 : Int))) (w.heap.size + 1 + 1 + 1) (ncell (setF (setF F lo G1) hi G2)).toArray 125 := by
        rw [← ncell_setF]
        exact Blk.same (w := V.drew) b4 hi _
      have kd : KeepsOthers W V := by rw [hV]; exact (KeepsOthers.setCell W _ _).trans ((ko_drew _).trans (ko_drew _))
      have K1 := hidd (show RelNe k c bs w (pre ++ [x]) (V.drew.setCell ⟨w.heap.size + 1 + 1 + 1, hi, none⟩ (.int .u32 (G2 : Int))) from by
        refine ⟨?_, ?_, ?_, ?_, ?_⟩
        · refine Blk.other (w := V.drew) ?_ _ _ (by show w.heap.size ≠ w.heap.size + 1 + 1 + 1; omega)
          show Blk V _ _ _
          rw [hV]; exact Blk.other (w := W) HH.out.1 _ _ (by show w.heap.size ≠ w.heap.size + 1 + 1 + 1; omega)
        · refine Blk.other (w := V.drew) ?_ _ _ (by show w.heap.size + 1 ≠ w.heap.size + 1 + 1 + 1; omega)
          show Blk V _ _ _
          rw [hV]; exact Blk.other (w := W) HH.out.2.1 _ _ (by show w.heap.size + 1 ≠ w.heap.size + 1 + 1 + 1; omega)
        · refine Blk.other (w := V.drew) ?_ _ _ (by show w.heap.size + 1 + 1 ≠ w.heap.size + 1 + 1 + 1; omega)
          show Blk V _ _ _
          rw [hV]; exact Blk.other (w := W) HH.out.2.2.1 _ _ (by show w.heap.size + 1 + 1 ≠ w.heap.size + 1 + 1 + 1; omega)
        · rw [HP.out, HM.out]; exact s5
        · refine Below.setCell (Below.drew ?_) (by show w.heap.size ≤ w.heap.size + 1 + 1 + 1; omega) _
          rw [hV]
          exact (Below.setCell (HH.out.2.2.2.2.1) (by show w.heap.size ≤ w.heap.size + 1 + 1 + 1; omega) _).drew.drew)
      have K2 := hidd (show KeepsFrom W0.heap.size W (V.drew.setCell ⟨w.heap.size + 1 + 1 + 1, hi, none⟩ (.int .u32 (G2 : Int))) from
        (kd.from _).trans ((keeps_below ((Below.refl _ _).drew)).trans ((KeepsOthers.setCell V.drew _ _).from _)))
      have K3 := hidd (show KpB (w.heap.size + 1 + 1 + 1 + 1) W (V.drew.setCell ⟨w.heap.size + 1 + 1 + 1, hi, none⟩ (.int .u32 (G2 : Int))) from
        (heap_setCell_other V.drew _ (w.heap.size + 1 + 1 + 1 + 1) _ (by show w.heap.size + 1 + 1 + 1 + 1 ≠ w.heap.size + 1 + 1 + 1; omega)).trans (by
          rw [hV]; exact heap_setCell_other W _ (w.heap.size + 1 + 1 + 1 + 1) _ (by show w.heap.size + 1 + 1 + 1 + 1 ≠ w.heap.size + 1 + 1 + 1; omega)))
      have K4 := hidd (show w.heap.size + 1 + 1 + 1 + 1 < (V.drew.setCell ⟨w.heap.size + 1 + 1 + 1, hi, none⟩ (.int .u32 (G2 : Int))).heap.size from by
        have h6 := HH.out.2.2.2.2.2.1
        rw [hV]; simpa [World.setCell] using h6)
      rw [← hV]
      clear hV b4 b7 s5 kd h4 hs4 c0 cc d0 d1 fl hfro
      refine wpIn_region_tail_lit (lets_round l _) 9 (fun w' => w' = V.drew) (by decide) (by kernel_rfl) rfl (by kernel_rfl) (by kernel_rfl) (by kernel_rfl) (by kernel_rfl) (by kernel_rfl) ?_
      simp only [List.take_succ_cons, List.take_zero, List.drop_succ_cons, List.drop_zero, List.map_cons, List.map_nil, List.cons_append, List.nil_append, idle]
      refine qs rfl (fun KQ hKQ => ?_)
      apply Exists.intro
      refine ⟨fun w' hw' => ?_, ?_⟩
      · go_simp; exact rfl
      go_simp
      refine hKQ _ ?_
      clear hKQ KQ
      refine qs rfl (fun KQ hKQ => ?_)
      apply Exists.intro
      refine ⟨fun w' hw' => ?_, ?_⟩
      · subst hw'; go_simp; exact rfl
      go_simp
      refine hKQ _ ?_
      clear hKQ KQ
      refine qs rfl (fun KQ hKQ => ?_)
      apply Exists.intro
      refine ⟨fun w' hw' => ?_, ?_⟩
      · go_simp; exact rfl
      go_simp
      refine hKQ _ ?_
      clear hKQ KQ
      refine qs rfl (fun KQ hKQ => ?_)
      apply Exists.intro
      refine ⟨fun w' hw' => ?_, ?_⟩
      · subst hw'; go_simp; exact rfl
      go_simp
      refine hKQ _ ?_
      clear hKQ KQ
      refine qs rfl (fun KQ hKQ => ?_)
      apply Exists.intro
      refine ⟨fun w' hw' => ?_, ?_⟩
      · go_simp; exact rfl
      go_simp
      refine hKQ _ ?_
      clear hKQ KQ
      refine qs rfl (fun KQ hKQ => ?_)
      apply Exists.intro
      refine ⟨fun w' hw' => ?_, ?_⟩
      · subst hw'; go_simp; exact rfl
      go_simp
      refine hKQ _ ?_
      clear hKQ KQ
      refine qs rfl (fun KQ hKQ => ?_)
      apply Exists.intro
      refine ⟨fun w' hw' => ?_, ?_⟩
      · go_simp; exact rfl
      go_simp
      refine hKQ _ ?_
      clear hKQ KQ
      refine qs rfl (fun KQ hKQ => ?_)
      apply Exists.intro
      refine ⟨fun w' hw' => ?_, ?_⟩
      · go_simp; exact rfl
      go_simp
      refine hKQ _ ?_
      clear hKQ KQ
      refine qs rfl (fun KQ hKQ => ?_)
      apply Exists.intro
      refine ⟨fun w' hw' => ?_, ?_⟩
      · go_simp; exact rfl
      go_simp
      refine hKQ _ ?_
      clear hKQ KQ
      refine qs rfl (fun KQ hKQ => ?_)
      apply Exists.intro
      refine ⟨fun w' hw' => ?_, ?_⟩
      · go_simp; exact rfl
      go_simp
      refine hKQ _ ?_
      clear hKQ KQ
      refine wpQuiet_nil ?_
      intro w' hw'
      subst hw'
      gi_wp2_with fail
      exact ⟨K2.out, K3.out, K1.out, K4.out⟩
  case done =>
    rintro D xs W hD hxs ⟨⟨h1, h2, h3, h4, h5⟩, h6⟩ hK
    rw [hxs] at h4
    obtain ⟨F, hF⟩ : ∃ F, F = nsF bs c (eseq N) := ⟨_, rfl⟩
    rw [← hF] at h4
    have HFE := hidd hF
    clear hF
    have HS1 := hidd (size_n F)
    have HO1 := hidd (show (ncell fun _ => 0).toArray.size = (ncell F).toArray.size by simp [ncell])
    have HA1 := hidd (ncell_one F)
    have R := hidd (And.intro h3 (And.intro h4 (And.intro (h3.rowSame (ncell F).toArray) (below_setRow h5 (g := w.heap.size + 1 + 1) (by omega) (ncell F).toArray))))
    have hK' : (W.setRow (w.heap.size + 1 + 1) (ncell F).toArray).heap[D]? = some (.deferred (some [])) := (setRow_other W (w.heap.size + 1 + 1) D _ (by have := hBn.lt; omega)).trans hK
    have HK := hidd hK'
    clear h1 h2 h3 h4 hK hK'
    gi_wp2_with (first
      | (refine inLoadRow rfl 125 (.tmp 5) rfl (w.heap.size + 1 + 1 + 1) rfl 125 _ _ R.out.2.1 Tryd.underlying125 rfl HS1.out ?_)
      | (refine inStoreRow rfl 125 (.tmp 4) (.tmp 38) rfl (w.heap.size + 1 + 1) _ rfl rfl 125 _ R.out.1 HS1.out HO1.out HA1.out ?_))
    have hDW : W0.heap.size ≤ D := hD
    have hlt := hBn.lt
    refine ⟨by simp [Act.put], .inl ⟨_, _, rfl, run_takeDeferred HK.out, ?_⟩⟩
    have hr : Blk ((W.setRow (w.heap.size + 1 + 1) (ncell F).toArray).putObj D (.deferred none)) (w.heap.size + 1 + 1) (ncell F).toArray 125 := (World.putObj_heap_other (by omega)).trans R.out.2.2.1
    have hb2 : Below w.heap.size w ((W.setRow (w.heap.size + 1 + 1) (ncell F).toArray).putObj D (.deferred none)) := R.out.2.2.2.grown (grownBy_putObj' _ D (.deferred none)) R.out.2.2.2.size (fun k e => by cases e; omega)
    rw [← HFE.out]
    exact ⟨_, results_cell_row rfl _ _ (w.heap.size + 1 + 1) 125 _ (0,0) _ rfl hr Tryd.underlying125 rfl HS1.out, rfl, hb2⟩
  case stop =>
    rintro D c pre W _ _ h _
    exact h.elim
end Go.Proofs.YtckffliiidgilaaDoor
/- Does a point fit to a clique: the sets of neighbours as digits. -/
namespace Go.Proofs.YtckffliiidgilaaDoor
set_option linter.unusedVariables false
set_option linter.unusedSimpArgs false
open Go Go.RowKit Go.Shelf
def adn (a b : Nat) : Nat := ((BitVec.ofNat 32 a) &&& ~~~(BitVec.ofNat 32 b)).toNat
theorem adn_lt32 (a b : Nat) : adn a b < 2 ^ 32 := BitVec.isLt _
theorem adn_bit {a b j : Nat} (ha : a < 2 ^ 32) : (adn a b).testBit j = (a.testBit j && !b.testBit j) := by
  unfold adn
  rw [BitVec.testBit_toNat, BitVec.getLsbD_and, BitVec.getLsbD_not, BitVec.getLsbD_ofNat, BitVec.getLsbD_ofNat]
  by_cases h : j < 32
  · simp [h]
  · have : a.testBit j = false := Nat.testBit_lt_two_pow (Nat.lt_of_lt_of_le ha (Nat.pow_le_pow_right (by omega) (by omega)))
    simp [h, this]
theorem u32_andnot_nat (a b : Nat) (ha : a < 4294967296) (hb : b < 4294967296) : bits .andNot .u32 (a : Int) (b : Int) = ((adn a b : Nat) : Int) := by
  have hx : adn a b < 2 ^ 32 := adn_lt32 a b
  show IntKind.u32.wrap ((BitVec.ofInt 32 (a : Int) &&& ~~~BitVec.ofInt 32 (b : Int)).toNat : Int) = _
  rw [BitVec.ofInt_natCast, BitVec.ofInt_natCast]
  show IntKind.u32.wrap (adn a b : Int) = _
  unfold IntKind.wrap; simp [IntKind.signed, IntKind.bits]; omega
theorem adn_drop {q : Nat} {s : List Nat} (h : ∀ p ∈ s, p < q) (hq : q < 17) : adn (bitS (q :: s)) (2 ^ q) = bitS s := by
  apply Nat.eq_of_testBit_eq
  intro j
  have hX : bitS (q :: s) < 2 ^ 32 := Nat.lt_of_lt_of_le (bitS_top h).2 (Nat.pow_le_pow_right (by omega) (by omega))
  rw [adn_bit hX, bitS_bit, bitS_bit, Nat.testBit_two_pow]
  by_cases e : q = j
  · subst e
    have : ¬ q ∈ s := fun hm => by have := h q hm; omega
    simp [this]
  · simp [e, show ¬ j = q from fun h => e h.symm]
theorem adn_fit {R : Nat → Nat} {s : List Nat} {p : Nat} (hs : ∀ q ∈ s, q < 17) (hsym : ∀ q ∈ s, (R q).testBit p = (R p).testBit q) : (adn (bitS s) (R p) = 0) ↔ fitR R s p = true := by
  have hX : bitS s < 2 ^ 32 := Nat.lt_of_lt_of_le (bitS_lt s hs) (Nat.pow_le_pow_right (by omega) (by omega))
  constructor
  · intro h
    unfold fitR
    refine List.all_eq_true.2 fun q hq => ?_
    have := congrArg (fun x => x.testBit q) h
    simp only [adn_bit hX, bitS_bit, Nat.zero_testBit, decide_eq_true hq] at this
    rw [hsym q hq]
    simpa using this
  · intro h
    apply Nat.eq_of_testBit_eq
    intro j
    rw [adn_bit hX, bitS_bit, Nat.zero_testBit]
    by_cases hj : j ∈ s
    · have := List.all_eq_true.1 h j hj
      rw [hsym j hj] at this
      rw [this]; simp
    · simp [hj]
end Go.Proofs.YtckffliiidgilaaDoor
/- cliquesOf: the sets of neighbours are laid once; and does a point fit. -/
namespace Go.Proofs.YtckffliiidgilaaDoor
set_option linter.unusedVariables false
set_option linter.unusedSimpArgs false
open Go Go.RowKit Go.Shelf
set_option maxRecDepth 100000 in
theorem fits59 (R : Nat → Nat) (X p : Nat) (hR : R p < 2 ^ 17) (hX : X < 2 ^ 17) (hp : p < 17) (w : World) :
    Calls Tryd.prog 111 #[.agg (ncell R).toArray, .int .u32 (X : Int), .int .i64 (p : Int)] w fun e w' => e = .returned (.bool (((adn X (R p) : Nat) : Int) == 0)) ∧ Below w.heap.size w w' := by
  have c0 := (Blk.new w (ncell R).toArray 125 _ rfl).cell (ncell_get (f := R) hp)
  obtain ⟨Y, hY⟩ : ∃ Y, Y = R p := ⟨_, rfl⟩
  rw [← hY] at c0 hR
  have hand := u32_andnot_nat X Y (by omega) (by omega)
  obtain ⟨d, hd⟩ : ∃ d, d = adn X Y := ⟨_, rfl⟩
  rw [← hd] at hand
  rw [← hY, ← hd]
  have hp17 : (p : Int) < 17 := by omega
  clear hY hd
  go_enter Tryd.func111, Tryd.ntmps111
  go_wp2_with fail
  go_ret
  exact ⟨rfl, (Below.refl _ _).alloc (Nat.le_refl _) _⟩
set_option maxRecDepth 100000 in
theorem cliques48 (N : Nat) (k c : Int) (bs : List Nat) (hb : Bys bs) (w : World) (N1 : 1 ≤ N) (N2 : N ≤ 17) :
    Calls Tryd.prog 100 #[.agg (ccells (N : Int) k bs).toArray, .int .i64 c] w fun e w' => ∃ bx bn : Nat, e = .returned (.func (.func 110) #[] #[.pointer (some ⟨bx, 0, none⟩), .pointer (some ⟨bn, 0, none⟩)]) ∧
      Blk w' bx (ccells (N : Int) k bs).toArray 28 ∧ Blk w' bn (ncell (nsF bs c (eseq N))).toArray 125 ∧ Below w.heap.size w w' := by
  have Hz := zero84
  have hmf : ∀ (fn : Fn) (first cap : Array Value) (w : World), (Instr.makeFunc fn first cap).run Tryd.prog w = .ok (.func fn first cap) w := fun _ _ _ _ => rfl
  have HS := hidd (size_c26 (N : Int) k hb)
  obtain ⟨F, hF⟩ : ∃ F, F = nsF bs c (eseq N) := ⟨_, rfl⟩
  have HN := hidd (fun W => near57 N k c bs hb W N1 N2)
  rw [← hF] at HN ⊢
  have HS1 := hidd (size_n F)
  have HO1 := hidd (show (ncell fun _ => 0).toArray.size = (ncell F).toArray.size by simp [ncell])
  have HA1 := hidd (ncell_one F)
  clear hF
  go_enter Tryd.func100, Tryd.ntmps100
  go_wp2_with (first
    | (refine wpList_load_row rfl 28 (.tmp 2) rfl w.heap.size rfl 28 _ (0,0) _ (Blk.new _ _ _ _ rfl) Tryd.underlying28 rfl HS.out ?_)
    | (refine wpList_store_row rfl 125 (.tmp 5) (.tmp 8) rfl _ _ rfl rfl 125 _ (Blk.new _ _ _ _ rfl) HS1.out HO1.out HA1.out ?_)
    | (go_at_call 109; refine (HN.out _).mono ?_; rintro e w1 ⟨rfl, hb1⟩))
  have hB := (Blk.new w (ccells (N : Int) k bs).toArray 28 _ rfl).below hb1 (by simp)
  have hbl := ((Below.refl _ _).alloc (Nat.le_refl _) _).trans (hb1.mono (B' := w.heap.size) (by simp))
  have hz1 := hB.lt
  go_ret
  exact ⟨_, _, rfl, (hB.alloc _).rowOther _ _ (by omega), (Blk.new _ _ _ _ rfl).rowSame _, below_setRow (hbl.alloc hbl.size _) (by omega) _⟩
end Go.Proofs.YtckffliiidgilaaDoor
/- The iterator of the cliques: its order is that of the lists. -/
namespace Go.Proofs.YtckffliiidgilaaDoor
set_option linter.unusedVariables false
set_option linter.unusedSimpArgs false
open Go Go.RowKit Go.Shelf
attribute [local go_sem] Oper.semAt_some
section
variable {P : Program} {b : Frame} {a : Act} {k : List Item} {cs : List Frame} {w : World} {Q : Exit → Act → World → Prop} {F : Fence} {n : Nat}
theorem stepR_scope {c : Code} : step P (lone (b.atR a (.code (.scope c) :: k)) cs w) = .next (lone (b.atR a (.code c :: .inScope c :: k)) cs w) :=
  step_lone_go (by simp [stepG, stepG.exec, Frame.atR])
theorem stepR_inScope {c : Code} : step P (lone (b.atR a (.inScope c :: k)) cs w) = .next (lone (b.atR a k) cs w) :=
  step_lone_go (by simp [stepG, stepG.exec, Frame.atR])
/-- A scope through which the run goes without a jump, inside a fence. -/
theorem wpIn_scope_straight {c : Code} (h : c.wpIn F n P (Exit.noGoto Q) a w) : (Code.scope c).wpIn F n P Q a w := by
  intro b k cs hro hb hr
  have h0 : (lone (b.atR a (.code (.scope c) :: k)) cs w).fenced P F := fenced_calm hb hr rfl
  obtain ⟨e, a₁, w₁, hq, harr⟩ := h b (.inScope c :: k) cs hro hb hr
  cases e with
  | normal => exact ⟨.normal, a₁, w₁, hq, .head h0 stepR_scope (StepsIn.trans harr (.one (fenced_calm hb hr rfl) stepR_inScope))⟩
  | exit id =>
    have hx : exitTo id (.inScope c :: k) = exitTo id k := by simp [exitTo]
    exact ⟨.exit id, a₁, w₁, hq, .of_steps (.one h0 stepR_scope) ⟨fun k' hk => harr.1 k' (by rw [hx]; exact hk), fun h1 h2 => harr.2 h1 (by rw [hx]; exact h2)⟩⟩
  | goto l => exact hq.elim
  | ret => exact ⟨_, a₁, w₁, hq, .of_steps (.one h0 stepR_scope) harr⟩
  | panic ch => exact ⟨_, a₁, w₁, hq, .of_steps (.one h0 stepR_scope) harr⟩
  | outgrown => exact ⟨_, a₁, w₁, hq, .of_steps (.one h0 stepR_scope) harr⟩
end
def stK (X : Nat) : Nat → List Nat
  | 0 => []
  | k + 1 => if X.testBit k = true then k :: stK X k else stK X k
theorem stK_congr {X Y : Nat} : ∀ k, (∀ j, j < k → X.testBit j = Y.testBit j) → stK X k = stK Y k
  | 0, _ => rfl
  | k + 1, h => by rw [stK, stK, h k (by omega), stK_congr k (fun j hj => h j (by omega))]
theorem stK_bitS : ∀ (k : Nat) (s : List Nat), s.Pairwise (· > ·) → (∀ q ∈ s, q < k) → stK (bitS s) k = s
  | 0, s, _, h => by
    cases s with
    | nil => rfl
    | cons q s => exact absurd (h q (List.mem_cons_self ..)) (by omega)
  | k + 1, s, hp, h => by
    rw [stK]
    cases s with
    | nil =>
      rw [if_neg (by rw [bitS_bit]; simp), stK_bitS k [] hp (by simp)]
    | cons q s =>
      rw [List.pairwise_cons] at hp
      have hq := h q (List.mem_cons_self ..)
      by_cases e : q = k
      · subst e
        rw [if_pos (by rw [bitS_bit]; simp)]
        congr 1
        rw [stK_congr (Y := bitS s) q (fun j hj => ?_), stK_bitS q s hp.2 (fun p hp' => hp.1 p hp')]
        rw [bitS_bit, bitS_bit]
        simp [show ¬ j = q by omega]
      · have hk : ¬ k ∈ q :: s := by
          intro hm
          rcases List.mem_cons.1 hm with h1 | h1
          · exact e h1.symm
          · have := hp.1 k h1; omega
        rw [if_neg (by rw [bitS_bit]; simp only [decide_eq_true_eq]; exact hk)]
        exact stK_bitS k (q :: s) (List.pairwise_cons.2 hp) (fun p hp' => by
          have h1 := h p hp'
          rcases List.mem_cons.1 hp' with h2 | h2
          · omega
          · have := hp.1 p h2; omega)
/-- What a round of the search still has before it. -/
def mea (F : Nat → Nat) (N : Nat) (X l : Nat) : Nat := 2 * (cqR (fitR F) N (stK X 17) (N - l)).length + (stK X 17).length
theorem mea_eq {F : Nat → Nat} {N l : Nat} {s : List Nat} (hN : N ≤ 17) (hl : l ≤ N) (hp : s.Pairwise (· > ·)) (h : ∀ q ∈ s, q < l) : mea F N (bitS s) l = 2 * (cqR (fitR F) N s (N - l)).length + s.length := by
  unfold mea
  rw [stK_bitS 17 s hp (fun q hq => by have := h q hq; omega)]
/-- A clique as the iterator tells it: its last point first. -/
def Cl (N : Nat) : Type := { s : List Nat // s.Pairwise (· > ·) ∧ (∀ q ∈ s, q < N) ∧ s ≠ [] }
def Cl.v {N : Nat} (x : Cl N) : List Nat := x.1
def encC {N : Nat} (x : Cl N) : Array Value := #[.int .u32 (bitS x.1 : Nat)]
def KpC (bx bn : Nat) (W W' : World) : Prop := KpB bx W W' ∧ KpB bn W W'
theorem below_grows {W W' : World} (h : Below W.heap.size W W') : W.grownBy W' none := ⟨h.os, h.tape, h.output, h.size, fun k hk _ => h.block k hk⟩
def RelCi (bx bn N : Nat) (CC NN : Array Value) (F : Nat → Nat) (J : List (Cl N) → World → Prop) (s : List Nat) (l : Nat) (wr : World) : Prop :=
  (∃ ys : List (Cl N), ys.map Cl.v ++ cqR (fitR F) N s (N - l) = cqR (fitR F) N [] N ∧ J ys wr) ∧ Blk wr bx CC 28 ∧ Blk wr bn NN 125
theorem RelCi.grow {bx bn N : Nat} {CC NN : Array Value} {F : Nat → Nat} {J : List (Cl N) → World → Prop} {s : List Nat} {l B : Nat} {wr w1 : World} (hJ : AbidesFrom B J) (h : RelCi bx bn N CC NN F J s l wr) (hb : Below wr.heap.size wr w1) : RelCi bx bn N CC NN F J s l w1 := by
  obtain ⟨⟨ys, h1, h2⟩, h3, h4⟩ := h
  exact ⟨⟨ys, h1, hJ _ _ _ none h2 (below_grows hb) (fun r e => by cases e)⟩, h3.below hb h3.lt, h4.below hb h4.lt⟩
theorem RelCi.skip {bx bn N : Nat} {CC NN : Array Value} {F : Nat → Nat} {J : List (Cl N) → World → Prop} {s : List Nat} {p : Nat} {wr : World} (h : RelCi bx bn N CC NN F J s p wr) (hp : p < N) (hf : fitR F s p = false) : RelCi bx bn N CC NN F J s (p + 1) wr := by
  obtain ⟨⟨ys, h1, h2⟩, h3⟩ := h
  refine ⟨⟨ys, ?_, h2⟩, h3⟩
  rw [← h1, show N - p = (N - (p + 1)) + 1 by omega, cqR_skip (by rw [show N - (N - (p + 1) + 1) = p by omega]; exact hf)]
theorem cq_skip {F : Nat → Nat} {N p : Nat} {s : List Nat} (hp : p < N) (hf : fitR F s p = false) : cqR (fitR F) N s (N - (p + 1)) = cqR (fitR F) N s (N - p) := by
  have e : N - (N - (p + 1) + 1) = p := by omega
  rw [show N - p = (N - (p + 1)) + 1 by omega, cqR_skip (by rw [e]; exact hf)]
theorem cq_fit {F : Nat → Nat} {N p : Nat} {s : List Nat} (hp : p < N) (hf : fitR F s p = true) : cqR (fitR F) N s (N - p) = (p :: s) :: cqR (fitR F) N (p :: s) (N - (p + 1)) := by
  have e : N - (N - (p + 1) + 1) = p := by omega
  rw [show N - p = (N - (p + 1)) + 1 by omega, cqR_fit (by omega) (by rw [e]; exact hf), e]
set_option maxRecDepth 100000 in
set_option maxHeartbeats 1000000 in
theorem iter58 (m l bx bn : Nat) (N : Nat) (k : Int) (bs : List Nat) (hb : Bys bs) (F : Nat → Nat) (hN1 : 1 ≤ N) (hN : N ≤ 17) (hF : ∀ p, F p < 2 ^ 17) (hsym : ∀ p q, p < N → q < N → (F q).testBit p = (F p).testBit q) (J Jx : List (Cl N) → World → Prop)
    (B : Nat) (hJ : AbidesFrom B J)
    (hY : ∀ pre x W, J pre W → pre.length < (cqR (fitR F) N [] N).length → YieldAt Fence.wide m Tryd.prog l (encC x) W fun e W' =>
      (e = .returned (.bool true) ∧ J (pre ++ [x]) W' ∧ KpC bx bn W W') ∨ (e = .returned (.bool false) ∧ Jx (pre ++ [x]) W'))
    (W : World) (hB1 : Blk W bx (ccells (N : Int) k bs).toArray 28) (hB2 : Blk W bn (ncell F).toArray 125) (h0 : J [] W) :
    CallsIn Fence.wide (m + 1) Tryd.prog 110 #[.func (.yield l) #[] #[], .pointer (some ⟨bx, 0, none⟩), .pointer (some ⟨bn, 0, none⟩)] W fun e W' => (∃ v, e = .returned v) ∧
      ((∃ ys : List (Cl N), ys.map Cl.v = cqR (fitR F) N [] N ∧ J ys W') ∨ (∃ pre : List (Cl N), (∃ rest, pre.map Cl.v ++ rest = cqR (fitR F) N [] N) ∧ Jx pre W')) := by
  have HF := hidd hF
  have HSY := hidd hsym
  have HJ := hidd hJ
  have HY := hidd hY
  have hfn : ∀ f, Fence.wide.fn f := fun _ => trivial
  have HC0 := hidd (show (ccells (N : Int) k bs).toArray[0]? = some (.int .i64 (N : Int)) from rfl)
  have HS1 := hidd (size_n F)
  have H0 := hidd (show RelCi bx bn N (ccells (N : Int) k bs).toArray (ncell F).toArray F J [] 0 W from ⟨⟨[], rfl, h0⟩, hB1, hB2⟩)
  clear hF hsym hY hJ h0 hB1 hB2
  refine callsIn_of_wp Tryd.func110 rfl trivial ?_ rfl
  simp only [Tryd.ntmps110, List.size_toArray, List.length_cons, List.length_nil, Nat.reduceAdd, Nat.reduceSub, Array.replicate_succ, Array.replicate_zero, List.push_toArray, List.append_toArray, List.nil_append, List.cons_append]
  gi_wp2_with (first | apply wpIn_scope_straight | apply wpIn_label)
  gi_loopw [4, 5] (fun c h wr => ∃ (s : List Nat) (a X : Nat), a ≤ N ∧ X < 2 ^ 17 ∧ c = .int .u32 (X : Int) ∧ h = .int .i64 (a : Int) ∧ Hid (s.Pairwise (· > ·) ∧ (∀ q ∈ s, q < a) ∧ X = bitS s) ∧ Hid (RelCi bx bn N (ccells (N : Int) k bs).toArray (ncell F).toArray F J s a wr))
    (fun c h _ => mea F N (intOf c).toNat (intOf h).toNat)
  case atStart => exact ⟨[], 0, 0, by omega, by omega, rfl, rfl, ⟨List.Pairwise.nil, by simp, rfl⟩, H0.out⟩
  case round =>
    obtain ⟨s, a, X, ha, hX, rfl, rfl, HS, HR⟩ := hrel
    obtain ⟨wo, rfl⟩ : ∃ wo : World, wo = wr := ⟨_, rfl⟩
    gi_wp2
    gi_loopw [4, 5, 6] (fun c h e wr => c = .int .u32 (X : Int) ∧ h = .int .i64 (a : Int) ∧ ∃ p : Nat, p ≤ N ∧ a ≤ p ∧ e = .int .i64 (p : Int) ∧ Hid (cqR (fitR F) N s (N - p) = cqR (fitR F) N s (N - a)) ∧ Hid (RelCi bx bn N (ccells (N : Int) k bs).toArray (ncell F).toArray F J s p wr))
      (fun _ _ e _ => N - (intOf e).toNat)
    case atStart => exact ⟨rfl, rfl, a, ha, by omega, rfl, rfl, HR.out⟩
    case round =>
      obtain ⟨rfl, rfl, p, hp, hpa, rfl, HCQ, HR2⟩ := hrel
      have c0 := HR2.out.2.1.cell HC0.out
      have hsp : ∀ q ∈ s, q < p := fun q hq => by have := HS.out.2.1 q hq; omega
      have HSP := hidd hsp
      clear hsp
      by_cases hlt : p < N
      · have HFT := hidd (fun W => fits59 F X p (HF.out p) hX (by omega) W)
        have hiff := adn_fit (R := F) (s := s) (p := p) (fun q hq => by have := HSP.out q hq; omega) (fun q hq => HSY.out p q hlt (by have := HSP.out q hq; omega))
        rw [← HS.out.2.2] at hiff
        cases hv : (((adn X (F p) : Nat) : Int) == 0) with
        | true =>
          rw [hv] at HFT
          have hft : fitR F s p = true := hiff.1 (by have := beq_iff_eq.1 hv; omega)
          have t1 : min p 64 = p := by omega
          have p1 : 2 ^ p < 2 ^ 17 := Nat.pow_lt_pow_right (by omega) (by omega)
          obtain ⟨P1, hP1⟩ : ∃ P1, P1 = 2 ^ p := ⟨_, rfl⟩
          have s1 : IntKind.u32.wrap (2 ^ p) = (P1 : Int) := by rw [hP1]; rw [show ((2 : Int) ^ p) = ((2 ^ p : Nat) : Int) by simp]; exact u32_in (by omega) (by omega)
          have u1 := u32_or_nat X P1 (by omega) (by omega)
          obtain ⟨Y, hYe⟩ : ∃ Y, Y = X ||| P1 := ⟨_, rfl⟩
          rw [← hYe] at u1
          have hY17 : Y < 2 ^ 17 := by rw [hYe]; exact Nat.or_lt_two_pow hX (by omega)
          have hYb : Y = bitS (p :: s) := by rw [hYe, HS.out.2.2, hP1]; rfl
          have HYB := hidd hYb
          clear hYe hP1 hiff p1 hYb hv
          gi_wp2_with (refine inLoadRow rfl 125 (.tmp 2) rfl bn rfl 125 _ _ HR2.out.2.2 Tryd.underlying125 rfl HS1.out ?_)
          refine (callsIn_wide.2 (HFT.out _)).mono ?_
          rintro e w1 ⟨rfl, hb1⟩
          obtain ⟨⟨ys, hys, hJy⟩, hBx, hBn⟩ := HR2.out.grow HJ.out hb1
          rw [cq_fit hlt hft] at hys
          have hlen : ys.length < (cqR (fitR F) N [] N).length := by rw [← hys]; simp
          have HYS := hidd hys
          have HSO := hidd (show (p :: s).Pairwise (· > ·) ∧ (∀ q ∈ p :: s, q < p + 1) from ⟨List.pairwise_cons.2 ⟨HSP.out, HS.out.1⟩, fun q hq => by
            rcases List.mem_cons.1 hq with h1 | h1
            · omega
            · have := HSP.out q h1; omega⟩)
          obtain ⟨fn, tmps, assign, body, hy, hR⟩ := HY.out ys ⟨p :: s, HSO.out.1, fun q hq => by have := HSO.out.2 q hq; omega, by simp⟩ w1 hJy hlen
          have HK := hidd (And.intro hBx hBn)
          have HRR := hidd hR
          clear hBx hBn hR hlen hJy hys hb1
          dsimp only [encC] at hy
          rw [← HYB.out] at hy
          gi_wp2
          refine HRR.out.mono ?_
          rintro e W3 (⟨rfl, hJ3, hk3⟩ | ⟨rfl, hx3⟩)
          · have K3 := hidd (show RelCi bx bn N (ccells (N : Int) k bs).toArray (ncell F).toArray F J (p :: s) (p + 1) W3 from ⟨⟨_, by rw [List.map_append, ← HYS.out, List.append_assoc]; rfl, hJ3⟩, blk_kp HK.out.1 hk3.1, blk_kp HK.out.2 hk3.2⟩)
            clear hJ3 hk3
            gi_wp2
            go_roundw
            case rel => exact ⟨p :: s, p + 1, Y, by omega, hY17, rfl, by go_num, ⟨HSO.out.1, HSO.out.2, HYB.out⟩, K3.out⟩
            case measure =>
              have hm1 := mea_eq (F := F) (l := p + 1) hN (by omega) HSO.out.1 HSO.out.2
              have hm2 := mea_eq (F := F) (l := a) hN ha HS.out.1 HS.out.2.1
              rw [← HYB.out] at hm1
              rw [← HS.out.2.2, ← HCQ.out, cq_fit hlt hft] at hm2
              show mea F N (Y : Int).toNat ((p : Int) + 1).toNat < mea F N (X : Int).toNat (a : Int).toNat
              rw [show ((p : Int) + 1).toNat = p + 1 by omega, Int.toNat_natCast, Int.toNat_natCast, Int.toNat_natCast, hm1, hm2]
              simp only [List.length_cons]; omega
          · have X3 := hidd hx3
            clear hx3
            gi_wp2
            rw [Exit.noGoto_ret]
            refine bodyPost_ret (results_none rfl _ _ _) rfl ?_
            exact ⟨⟨_, rfl⟩, .inr ⟨_, ⟨cqR (fitR F) N (p :: s) (N - (p + 1)), by rw [List.map_append, ← HYS.out, List.append_assoc]; rfl⟩, X3.out⟩⟩
        | false =>
          rw [hv] at HFT
          have hft : fitR F s p = false := by
            cases hf : fitR F s p with
            | false => rfl
            | true => have := hiff.2 hf; rw [this] at hv; exact absurd hv (by decide)
          clear hiff hv
          gi_wp2_with (refine inLoadRow rfl 125 (.tmp 2) rfl bn rfl 125 _ _ HR2.out.2.2 Tryd.underlying125 rfl HS1.out ?_)
          refine (callsIn_wide.2 (HFT.out _)).mono ?_
          rintro e w1 ⟨rfl, hb1⟩
          have K1 := hidd ((HR2.out.grow HJ.out hb1).skip hlt hft)
          have HCS := hidd ((cq_skip hlt hft).trans HCQ.out)
          clear hb1
          gi_wp2
          go_roundw
          case rel => exact ⟨rfl, rfl, p + 1, by omega, by omega, by go_num, HCS.out, K1.out⟩
          case measure => simp [intOf]; omega
      · have hpN : p = N := by omega
        subst hpN
        by_cases hX0 : X = 0
        · subst hX0
          have hs0 : s = [] := bitS_zero.1 HS.out.2.2.symm
          subst hs0
          obtain ⟨⟨ys, hys, hJy⟩, hBx, hBn⟩ := HR2.out
          rw [Nat.sub_self, cqR_end, List.append_nil] at hys
          have K1 := hidd (And.intro hys hJy)
          clear hys hJy hBx hBn
          gi_wp2
          rw [Exit.noGoto_ret]
          refine bodyPost_ret (results_none rfl _ _ _) rfl ?_
          exact ⟨⟨_, rfl⟩, .inl ⟨_, K1.out⟩⟩
        · obtain ⟨q, s', rfl⟩ : ∃ q s', s = q :: s' := by
            cases s with
            | nil => exact absurd (by rw [HS.out.2.2]; rfl) hX0
            | cons q s' => exact ⟨q, s', rfl⟩
          have hpw := List.pairwise_cons.1 HS.out.1
          have hqa := HS.out.2.1 q (List.mem_cons_self ..)
          have hlq : ∀ r ∈ s', r < q := fun r hr => hpw.1 r hr
          have HL := hidd (fun W => last60 hlq (show q < 17 by omega) W)
          rw [← HS.out.2.2] at HL
          have t1 : min q 64 = q := by omega
          have p1 : 2 ^ q < 2 ^ 17 := Nat.pow_lt_pow_right (by omega) (by omega)
          have hdr := adn_drop hlq (show q < 17 by omega)
          rw [← HS.out.2.2] at hdr
          obtain ⟨P1, hP1⟩ : ∃ P1, P1 = 2 ^ q := ⟨_, rfl⟩
          rw [← hP1] at hdr p1
          have s1 : IntKind.u32.wrap (2 ^ q) = (P1 : Int) := by rw [hP1]; rw [show ((2 : Int) ^ q) = ((2 ^ q : Nat) : Int) by simp]; exact u32_in (by omega) (by omega)
          have u1 := u32_andnot_nat X P1 (by omega) (by omega)
          obtain ⟨Y, hYe⟩ : ∃ Y, Y = bitS s' := ⟨_, rfl⟩
          rw [hdr, ← hYe] at u1
          have hY17 : Y < 2 ^ 17 := by rw [hYe]; exact bitS_lt _ (fun r hr => by have := hlq r hr; omega)
          have hXI : ((X : Int) == 0) = false := by rw [beq_eq_false_iff_ne]; omega
          have HYB := hidd hYe
          have HSO := hidd (And.intro hpw.2 hlq)
          have hcq : cqR (fitR F) p (q :: s') (p - p) = cqR (fitR F) p s' (p - (q + 1)) := by rw [Nat.sub_self]; exact cqR_up q s'
          have hcu := HCQ.out
          rw [hcq] at hcu
          have HCU := hidd hcu
          obtain ⟨⟨ys, hys, hJy⟩, hBx, hBn⟩ := HR2.out
          rw [hcq] at hys
          have K1 := hidd (show RelCi bx bn p (ccells (p : Int) k bs).toArray (ncell F).toArray F J s' (q + 1) wr from ⟨⟨ys, hys, hJy⟩, hBx, hBn⟩)
          clear hys hJy hBx hBn hcu hcq hdr p1 hP1 hYe hlq hpw
          gi_wp2_with (gi_at_call 76; refine (callsIn_wide.2 (HL.out _)).mono ?_; rintro e w1 ⟨rfl, rfl⟩)
          go_roundw
          case rel => exact ⟨s', q + 1, Y, by omega, hY17, rfl, by go_num, ⟨HSO.out.1, fun r hr => by have := HSO.out.2 r hr; omega, HYB.out⟩, K1.out⟩
          case measure =>
            have hm1 := mea_eq (F := F) (N := p) (l := q + 1) hN (by omega) HSO.out.1 (fun r hr => by have := HSO.out.2 r hr; omega)
            have hm2 := mea_eq (F := F) (N := p) (l := a) hN ha HS.out.1 HS.out.2.1
            rw [← HYB.out] at hm1
            rw [← HS.out.2.2, ← HCU.out] at hm2
            show mea F p (Y : Int).toNat ((q : Int) + 1).toNat < mea F p (X : Int).toNat (a : Int).toNat
            rw [show ((q : Int) + 1).toNat = q + 1 by omega, Int.toNat_natCast, Int.toNat_natCast, Int.toNat_natCast, hm1, hm2]
            simp only [List.length_cons]; omega
end Go.Proofs.YtckffliiidgilaaDoor
/- firstOfSize: the first clique of a colour with so many points. -/
namespace Go.Proofs.YtckffliiidgilaaDoor
set_option linter.unusedVariables false
set_option linter.unusedSimpArgs false
open Go Go.RowKit Go.Shelf
attribute [local go_sem] Oper.semAt_some
theorem nsF_sym (bs : List Nat) (c : Int) (l : List (Nat × Nat × Nat)) {N : Nat} (hN : N ≤ 17) : ∀ p q, p < N → q < N → (nsF bs c l q).testBit p = (nsF bs c l p).testBit q := by
  intro p q hp hq
  rw [nsF_bit, nsF_bit, decide_eq_true (show p < 17 by omega), decide_eq_true (show q < 17 by omega)]
  have : adjT bs c q p = adjT bs c p q := by
    funext t
    unfold adjT
    congr 1
    rw [Bool.or_comm, Bool.and_comm (decide (t.2.2 = q)), Bool.and_comm (decide (t.2.1 = q))]
  rw [this]
theorem kpC_t {bx bn : Nat} {X Y Z : World} (h : KpC bx bn X Y) (k : KpC bx bn Y Z) : KpC bx bn X Z := ⟨kpB_t h.1 k.1, kpB_t h.2 k.2⟩
theorem kpC_b {bx bn : Nat} {w : World} (h1 : bx < w.heap.size) (h2 : bn < w.heap.size) (W : World) (l : Nat) (o o' : Obj) (hl : w.heap.size ≤ l) (a : W.heap[l]? = some o) (b : o.isCells = false) (c : o.isWalk = false) : KpC bx bn W (W.putObj l o') :=
  ⟨kpB_b h1 W l o o' hl a b c, kpB_b h2 W l o o' hl a b c⟩
theorem seq58 (m bx bn : Nat) (N : Nat) (k : Int) (bs : List Nat) (hb : Bys bs) (F : Nat → Nat) (hN1 : 1 ≤ N) (hN : N ≤ 17) (hF : ∀ p, F p < 2 ^ 17) (hsym : ∀ p q, p < N → q < N → (F q).testBit p = (F p).testBit q)
    (w : World) (hB1 : Blk w bx (ccells (N : Int) k bs).toArray 28) (hB2 : Blk w bn (ncell F).toArray 125) :
    SeqStopsK Fence.wide (m + 1) Tryd.prog 110 #[.pointer (some ⟨bx, 0, none⟩), .pointer (some ⟨bn, 0, none⟩)] (fun x : Cl N => encC x) (KpC bx bn) (fun ys => ys.map Cl.v = cqR (fitR F) N [] N) (fun pre => ∃ rest, pre.map Cl.v ++ rest = cqR (fitR F) N [] N) (cqR (fitR F) N [] N).length w := fun l J Jx W hW hJ _ hY h0 =>
  iter58 m l bx bn N k bs hb F hN1 hN hF hsym J Jx W.heap.size hJ hY W (hB1.below hW hB1.lt) (hB2.below hW hB2.lt) h0
theorem results_cell_one {P : Program} {fn : Func} {p : Tmp} {ty : TypeId} (h : fn.results = #[.cell p ty]) (tmps : Array Value) (w : World) (g : Nat) (v : Value)
    (hp : tmps.getD p undef = .pointer (some ⟨g, 0, none⟩)) (hl : (loadVar ty ⟨g, 0, none⟩).run P w = .ok v w) :
    (results fn tmps).run P w = .ok v w := by
  have hp' : tmps[p]?.getD undef = .pointer (some ⟨g, 0, none⟩) := by simpa using hp
  simp [results, h, hp', asAddr, hl]
theorem load56 {w : World} {g : Nat} {v : Value} (h : w.cell? ⟨g, 0, none⟩ = some v) : (loadVar 88 ⟨g, 0, none⟩).run Tryd.prog w = .ok v w := by
  go_simp
/-- The first of them with so many points. -/
def fosX (F : Nat → Nat) (N : Nat) (m : Int) : Nat := bitS (((cqR (fitR F) N [] N).find? fun s => decide ((s.length : Int) = m)).getD [])
theorem find_none {α : Type} {p : α → Bool} {l : List α} (h : ∀ x ∈ l, p x = false) : l.find? p = none := List.find?_eq_none.2 fun x hx => by rw [h x hx]; simp
theorem find_here {α : Type} {p : α → Bool} {l r : List α} {x : α} (h : ∀ y ∈ l, p y = false) (hx : p x = true) : (l ++ x :: r).find? p = some x := by
  rw [List.find?_append, find_none h, List.find?_cons, hx]; rfl
def RelFo {N : Nat} (bx bn : Nat) (m : Int) (B : Nat) (w : World) (pre : List (Cl N)) (W : World) : Prop :=
  Blk W (w.heap.size + 1) #[.int .i64 m] 2 ∧ Blk W (w.heap.size + 1 + 1) #[.int .u32 0] 88 ∧ Below w.heap.size w W ∧ (∀ s ∈ pre.map Cl.v, decide ((s.length : Int) = m) = false) ∧ B ≤ W.heap.size
def RelFx {N : Nat} (F : Nat → Nat) (m : Int) (w : World) (c : Code) (pre : List (Cl N)) (W : World) : Prop :=
  c = .ret ∧ Below w.heap.size w W ∧ ∃ (pr : List (Cl N)) (x : Cl N), pre = pr ++ [x] ∧ (∀ s ∈ pr.map Cl.v, decide ((s.length : Int) = m) = false) ∧ decide ((x.1.length : Int) = m) = true ∧ Blk W (w.heap.size + 1 + 1) #[.int .u32 (bitS x.1 : Nat)] 88
set_option maxRecDepth 100000 in
set_option maxHeartbeats 1000000 in
theorem fos47 (N : Nat) (k c m : Int) (bs : List Nat) (hb : Bys bs) (w : World) (N1 : 1 ≤ N) (N2 : N ≤ 17) :
    Calls Tryd.prog 73 #[.agg (ccells (N : Int) k bs).toArray, .int .i64 c, .int .i64 m] w fun e w' => e = .returned (.int .u32 (fosX (nsF bs c (eseq N)) N m : Nat)) ∧ Below w.heap.size w w' := by
  have hfn : ∀ f, Fence.wide.fn f := fun _ => trivial
  have HS := hidd (size_c26 (N : Int) k hb)
  have HQ := hidd (fun W => cliques48 N k c bs hb W N1 N2)
  have hF := fun p => nsF_lt bs c (eseq N) p
  have hsym := nsF_sym bs c (eseq N) N2
  obtain ⟨F, hFe⟩ : ∃ F, F = nsF bs c (eseq N) := ⟨_, rfl⟩
  rw [← hFe] at HQ hF hsym ⊢
  have HF := hidd hF
  have HSY := hidd hsym
  clear hFe hF hsym
  refine (callsIn_wide (n := 8)).1 (callsIn_of_wp_marks Tryd.func73 rfl trivial ?_ rfl)
  simp only [Tryd.ntmps73, List.size_toArray, List.length_cons, List.length_nil, Nat.reduceAdd, Nat.reduceSub, Array.replicate_succ, Array.replicate_zero, List.push_toArray, List.append_toArray, List.nil_append, List.cons_append]
  have b3 : Blk (((w.alloc (Obj.cells (ccells (N : Int) k bs).toArray 28)).alloc (Obj.cells #[.int .i64 m] 2)).alloc (Obj.cells #[.int .u32 0] 88)) w.heap.size (ccells (N : Int) k bs).toArray 28 := ((Blk.new _ _ _ _ rfl).alloc _).alloc _
  have H3 := hidd b3
  gi_wp2_with (refine inLoadRow rfl 28 (.tmp 3) rfl w.heap.size rfl 28 _ _ H3.out Tryd.underlying28 rfl HS.out ?_)
  have b5 : Blk (((w.alloc (Obj.cells (ccells (N : Int) k bs).toArray 28)).alloc (Obj.cells #[.int .i64 m] 2)).alloc (Obj.cells #[.int .u32 0] 88)) (w.heap.size + 1) #[.int .i64 m] 2 := (Blk.new _ _ _ _ (by simp)).alloc _
  have b6 : Blk (((w.alloc (Obj.cells (ccells (N : Int) k bs).toArray 28)).alloc (Obj.cells #[.int .i64 m] 2)).alloc (Obj.cells #[.int .u32 0] 88)) (w.heap.size + 1 + 1) #[.int .u32 0] 88 := Blk.new _ _ _ _ (by simp)
  refine (callsIn_wide.2 (HQ.out _)).mono ?_
  rintro e W0 ⟨bx, bn, rfl, hBx, hBn, hb1⟩
  have hbl0 : Below w.heap.size w W0 := ((((Below.refl _ _).alloc (Nat.le_refl _) _).alloc (by simp) _).alloc (by simp; omega) _).trans (hb1.mono (by simp; omega))
  have h5 := b5.below hb1 b5.lt
  have h6 := b6.below hb1 b6.lt
  clear hb1 b3 b5 b6
  gi_wp2
  refine wpIn_rangeFunc_ownH rfl (by omega) (gf := 110) (lb := #[.pointer (some ⟨bx, 0, none⟩), .pointer (some ⟨bn, 0, none⟩)]) rfl trivial (enters_of Tryd.func110 (by kernel_rfl) rfl)
    (seq58 6 bx bn N k bs hb F N1 N2 HF.out HSY.out W0 hBx hBn) kpC_t (kpC_b hBx.lt hBn.lt) (Below.refl _ _) (fun _ => rfl)
    (fun pre W => RelFo bx bn m W0.heap.size w pre W)
    (fun c pre W => RelFx F m w c pre W)
    (fun s A B row hs hg hr => ⟨blk_own hs.1 hg hr, blk_own hs.2.1 hg hr, ownFrom_below (β := Unit) (Nat.le_refl _) hbl0.size () A B row hs.2.2.1 hg hr, hs.2.2.2.1, Nat.le_trans hs.2.2.2.2 hg.size⟩)
    (fun c s A B row hs hg hr => ⟨hs.1, ownFrom_below (β := Unit) (Nat.le_refl _) hbl0.size () A B row hs.2.1 hg hr, by
      obtain ⟨pr, x, h1, h2, h3, h4⟩ := hs.2.2
      exact ⟨pr, x, h1, h2, h3, blk_own h4 hg hr⟩⟩)
    ⟨h5, h6, hbl0, by simp, Nat.le_refl _⟩
    (fun x a' W => a' = { tmps := #[.agg (ccells (N : Int) k bs).toArray, .int .i64 c, .int .i64 m, .pointer (some ⟨w.heap.size, 0, none⟩), undef, .pointer (some ⟨w.heap.size + 1, 0, none⟩), .pointer (some ⟨w.heap.size + 1 + 1, 0, none⟩), .int .u32 (bitS x.1 : Nat), .agg (ccells (N : Int) k bs).toArray, .int .i64 c, .func (.func 110) #[] #[.pointer (some ⟨bx, 0, none⟩), .pointer (some ⟨bn, 0, none⟩)], .int .u32 (bitS x.1 : Nat), undef, undef, undef, undef, undef], defers := [] })
    (fun x a' s A B row hs hg hr => hs) ?assign ?body ?done ?stop
  case assign =>
    intro l pre x W Kx hI hK
    have HI := hidd hI
    have HK := hidd hK
    clear hI hK
    dsimp only [encC]
    gi_wp2
    exact HK.out _ _ (KeepsFrom.refl _ _) ⟨rfl, rfl⟩ HI.out rfl
  case body =>
    rintro l pre x a' W hl _ ⟨g5, g6, g7, g8, g9⟩ rfl hlen
    obtain ⟨xs1, xs2, xs3⟩ := x.2
    have hX17 : bitS x.1 < 2 ^ 17 := bitS_lt _ (fun q hq => by have := xs2 q hq; omega)
    have HZ := hidd (fun W => size34 (bitS x.1) hX17 W)
    rw [ones_bitS x.1 xs1] at HZ
    obtain ⟨X, hX⟩ : ∃ X, X = bitS x.1 := ⟨_, rfl⟩
    obtain ⟨ln, hln⟩ : ∃ ln, ln = x.1.length := ⟨_, rfl⟩
    rw [← hX, ← hln] at HZ
    rw [← hX]
    have HG := hidd (And.intro g5 (And.intro g6 (And.intro g7 (And.intro g8 g9))))
    have HXL := hidd (And.intro hX hln)
    clear g5 g6 g7 g8 g9 hX17 xs1 xs2 xs3 hX hln
    cases hq : ((ln : Int) == m) with
    | false =>
      have hd : decide ((x.1.length : Int) = m) = false := by rw [← HXL.out.2]; exact decide_eq_false (beq_eq_false_iff_ne.1 hq)
      have HD := hidd hd
      clear hd
      gi_wp2
      refine wpIn_region_tail_lit (lets_round l _) 3 (fun w' => Below W.heap.size W w') (by decide) (by kernel_rfl) ((Below.refl _ _).drew) (by kernel_rfl) (by kernel_rfl) (by kernel_rfl) (by kernel_rfl) (by kernel_rfl) ?_
      simp only [List.take_succ_cons, List.take_zero, List.drop_succ_cons, List.drop_zero, List.map_cons, List.map_nil, List.cons_append, List.nil_append, idle]
      refine qs rfl (fun KQ hKQ => ?_)
      apply Exists.intro
      refine ⟨fun w' hw' => ?_, ?_⟩
      · go_simp; exact rfl
      go_simp
      refine hKQ _ ?_
      clear hKQ KQ
      refine qs rfl (fun KQ hKQ => ?_)
      apply Exists.intro
      refine ⟨fun w' hw' => ?_, ?_⟩
      · go_simp; exact (HZ.out _).mono fun _ _ h => ⟨h.1, by rw [h.2]; exact hw'.drew⟩
      go_simp
      refine hKQ _ ?_
      clear hKQ KQ
      refine qs rfl (fun KQ hKQ => ?_)
      apply Exists.intro
      refine ⟨fun w' hw' => ?_, ?_⟩
      · have e1 := (HG.out.1.below hw' HG.out.1.lt).cell (j := 0) (show _ = some (Value.int .i64 m) from rfl); go_simp; exact rfl
      go_simp
      refine hKQ _ ?_
      clear hKQ KQ
      refine qs rfl (fun KQ hKQ => ?_)
      apply Exists.intro
      refine ⟨fun w' hw' => ?_, ?_⟩
      · go_simp; exact rfl
      go_simp
      refine hKQ _ ?_
      clear hKQ KQ
      refine wpQuiet_nil ?_
      intro w' hw'
      have hWx := Nat.lt_of_lt_of_le hBx.lt HG.out.2.2.2.2
      have hWn := Nat.lt_of_lt_of_le hBn.lt HG.out.2.2.2.2
      have K1 := hidd (show RelFo bx bn m W0.heap.size w (pre ++ [x]) w' from ⟨HG.out.1.below hw' HG.out.1.lt, HG.out.2.1.below hw' HG.out.2.1.lt, HG.out.2.2.1.trans (hw'.mono HG.out.2.2.1.size), fun s hs => by
        rw [List.map_append] at hs
        rcases List.mem_append.1 hs with h | h
        · exact HG.out.2.2.2.1 s h
        · rw [List.map_cons, List.map_nil, List.mem_singleton] at h
          rw [h]; exact HD.out, Nat.le_trans HG.out.2.2.2.2 hw'.size⟩)
      have K2 := hidd (show KpC bx bn W w' from ⟨hw'.block _ hWx, hw'.block _ hWn⟩)
      have K3 := hidd (keeps_below (B := W0.heap.size) hw')
      clear hw'
      gi_wp2_with fail
      exact ⟨K3.out, K2.out, K1.out⟩
    | true =>
      have hd : decide ((x.1.length : Int) = m) = true := by rw [← HXL.out.2]; exact decide_eq_true (beq_iff_eq.1 hq)
      have HD := hidd hd
      clear hd
      gi_wp2
      refine wpIn_region_tail_lit (lets_round l _) 3 (fun w' => Below W.heap.size W w') (by decide) (by kernel_rfl) ((Below.refl _ _).drew) (by kernel_rfl) (by kernel_rfl) (by kernel_rfl) (by kernel_rfl) (by kernel_rfl) ?_
      simp only [List.take_succ_cons, List.take_zero, List.drop_succ_cons, List.drop_zero, List.map_cons, List.map_nil, List.cons_append, List.nil_append, idle]
      refine qs rfl (fun KQ hKQ => ?_)
      apply Exists.intro
      refine ⟨fun w' hw' => ?_, ?_⟩
      · go_simp; exact rfl
      go_simp
      refine hKQ _ ?_
      clear hKQ KQ
      refine qs rfl (fun KQ hKQ => ?_)
      apply Exists.intro
      refine ⟨fun w' hw' => ?_, ?_⟩
      · go_simp; exact (HZ.out _).mono fun _ _ h => ⟨h.1, by rw [h.2]; exact hw'.drew⟩
      go_simp
      refine hKQ _ ?_
      clear hKQ KQ
      refine qs rfl (fun KQ hKQ => ?_)
      apply Exists.intro
      refine ⟨fun w' hw' => ?_, ?_⟩
      · have e1 := (HG.out.1.below hw' HG.out.1.lt).cell (j := 0) (show _ = some (Value.int .i64 m) from rfl); go_simp; exact rfl
      go_simp
      refine hKQ _ ?_
      clear hKQ KQ
      refine qs rfl (fun KQ hKQ => ?_)
      apply Exists.intro
      refine ⟨fun w' hw' => ?_, ?_⟩
      · go_simp; exact rfl
      go_simp
      refine hKQ _ ?_
      clear hKQ KQ
      refine wpQuiet_nil ?_
      intro w' hw'
      have r6 := HG.out.2.1.below hw' HG.out.2.1.lt
      have f6 := r6.fro 0
      have c6 := r6.cell (j := 0) (show _ = some (Value.int .u32 0) from rfl)
      have K1 := hidd (show RelFx F m w .ret (pre ++ [x]) (w'.setCell ⟨w.heap.size + 1 + 1, 0, none⟩ (.int .u32 (X : Int))) from ⟨rfl, (HG.out.2.2.1.trans (hw'.mono HG.out.2.2.1.size)).setCell (by show w.heap.size ≤ w.heap.size + 1 + 1; omega) _, pre, x, rfl, HG.out.2.2.2.1, HD.out, by
        rw [← HXL.out.1]; exact r6.same 0 _⟩)
      have K3 := hidd ((keeps_below (B := W0.heap.size) hw').trans ((KeepsOthers.setCell w' ⟨w.heap.size + 1 + 1, 0, none⟩ (.int .u32 (X : Int))).from _))
      clear hw' r6
      gi_wp2_with fail
      exact ⟨K3.out, K1.out⟩
  case done =>
    rintro D xs W hD hxs ⟨g5, g6, g7, g8, g9⟩ hK
    have hfx : fosX F N m = 0 := by unfold fosX; rw [← hxs, find_none g8]; rfl
    have f6 := g6.fro 0
    have c6 := g6.cell (j := 0) (show _ = some (Value.int .u32 0) from rfl)
    have hlt := hBx.lt
    have r6 := g6.same 0 (.int .u32 0)
    have hb2 : Below w.heap.size w (W.setCell ⟨w.heap.size + 1 + 1, 0, none⟩ (.int .u32 0)) := g7.setCell (by show w.heap.size ≤ w.heap.size + 1 + 1; omega) _
    have hDW : W0.heap.size ≤ D := hD
    have hlt6 := h6.lt
    have hK' : (W.setCell ⟨w.heap.size + 1 + 1, 0, none⟩ (.int .u32 0)).heap[D]? = some (.deferred (some [])) := (heap_setCell_other W ⟨w.heap.size + 1 + 1, 0, none⟩ D _ (by show D ≠ w.heap.size + 1 + 1; omega)).trans hK
    have R := hidd (And.intro r6 (And.intro hb2 hK'))
    have HFX := hidd hfx
    clear r6 hb2 hK' hK g5 g6 g7 g8 hfx
    gi_wp2
    refine ⟨by simp [Act.put], .inl ⟨_, _, rfl, run_takeDeferred R.out.2.2, ?_⟩⟩
    have hr : Blk ((W.setCell ⟨w.heap.size + 1 + 1, 0, none⟩ (.int .u32 0)).putObj D (.deferred none)) (w.heap.size + 1 + 1) #[.int .u32 0] 88 := (World.putObj_heap_other (by omega)).trans R.out.1
    have hb3 : Below w.heap.size w ((W.setCell ⟨w.heap.size + 1 + 1, 0, none⟩ (.int .u32 0)).putObj D (.deferred none)) := R.out.2.1.grown (grownBy_putObj' _ D (.deferred none)) R.out.2.1.size (fun k e => by cases e; omega)
    rw [HFX.out]
    exact ⟨_, results_cell_one rfl _ _ (w.heap.size + 1 + 1) _ rfl (load56 (hr.cell (j := 0) rfl)), rfl, hb3⟩
  case stop =>
    rintro D c pre W hD ⟨rest, hrest⟩ ⟨rfl, g1, pr, x, rfl, g2, g3, g4⟩ hK
    have hfx : fosX F N m = bitS x.1 := by
      unfold fosX
      rw [← hrest, List.map_append, List.append_assoc]
      show bitS ((List.find? _ (pr.map Cl.v ++ x.1 :: rest)).getD []) = _
      rw [find_here g2 g3]; rfl
    have HFX := hidd hfx
    have hDW : W0.heap.size ≤ D := hD
    have hlt6 := h6.lt
    have R := hidd (And.intro g4 (And.intro g1 hK))
    clear g4 g1 hK hfx
    apply wpIn_ret
    refine ⟨by simp [Act.put], .inl ⟨_, _, rfl, run_takeDeferred R.out.2.2, ?_⟩⟩
    have hr : Blk (W.putObj D (.deferred none)) (w.heap.size + 1 + 1) #[.int .u32 (bitS x.1 : Nat)] 88 := (World.putObj_heap_other (by omega)).trans R.out.1
    have hb3 : Below w.heap.size w (W.putObj D (.deferred none)) := R.out.2.1.grown (grownBy_putObj' _ D (.deferred none)) R.out.2.1.size (fun k e => by cases e; omega)
    rw [HFX.out]
    exact ⟨_, results_cell_one rfl _ _ (w.heap.size + 1 + 1) _ rfl (load56 (hr.cell (j := 0) rfl)), rfl, hb3⟩
end Go.Proofs.YtckffliiidgilaaDoor
/- My texts Avi, Ge, Cos, in one. -/
/- AvoidsSizes: the program's own text. -/
namespace Go.Proofs.YtckffliiidgilaaDoor
set_option linter.unusedVariables false
set_option linter.unusedSimpArgs false
open Go Go.RowKit Go.Shelf
attribute [local go_sem] Oper.semAt_some
theorem fitR_congr {F R : Nat → Nat} {N : Nat} (h : ∀ p, p < N → F p = R p) (p : Nat) : ∀ (s : List Nat), (∀ q ∈ s, q < N) → fitR F s p = fitR R s p
  | [], _ => rfl
  | q :: s, hs => by rw [fitR_cons, fitR_cons, h q (hs q (List.mem_cons_self ..)), fitR_congr h p s (fun r hr => hs r (List.mem_cons_of_mem _ hr))]
theorem cqE_congr {F R : Nat → Nat} {N : Nat} (h : ∀ p, p < N → F p = R p) : ∀ (d : Nat) (s : List Nat), d ≤ N → (∀ q ∈ s, q < N) → cqE (fitR F) N d s = cqE (fitR R) N d s
  | 0, _, _, _ => rfl
  | d + 1, s, hd, hs => by
    have hc : ∀ q ∈ (N - (d + 1)) :: s, q < N := fun q hq => by
      rcases List.mem_cons.1 hq with h1 | h1
      · omega
      · exact hs q h1
    rw [cqE, cqE, fitR_congr h _ s hs, cqE_congr h d s (by omega) hs, cqE_congr h d _ (by omega) hc]
/-- There is a clique of so many points where the model's list is not empty. -/
theorem fosX_zero (bs : List Nat) (c : Int) {N m : Nat} (hN : N ≤ 17) (hm : m ≠ 0) : (fosX (nsF bs c (eseq N)) N (m : Int) = 0) ↔ (clqL bs c N m).isEmpty = true := by
  have hl : cqR (fitR (nsF bs c (eseq N))) N [] N = cqE (fitR (rwN bs c N)) N N [] := cqE_congr (fun p hp => nsF_rw bs c hp hN) N [] (Nat.le_refl _) (by simp)
  unfold fosX clqL
  rw [cqH_less (by simpa using fun e => hm e.symm), hl]
  unfold cqL
  rw [List.isEmpty_iff, List.map_eq_nil_iff, List.filter_eq_nil_iff]
  cases hf : (cqE (fitR (rwN bs c N)) N N []).find? fun s => decide ((s.length : Int) = (m : Int)) with
  | none =>
    rw [List.find?_eq_none] at hf
    constructor
    · intro _ s hs
      have := hf s hs
      simp only [decide_eq_true_eq] at this ⊢
      omega
    · intro _; rfl
  | some s =>
    have h1 := List.mem_of_find?_eq_some hf
    have h2 := List.find?_some hf
    constructor
    · intro h
      have : s = [] := bitS_zero.1 h
      subst this
      simp at h2; omega
    · intro h
      simp only [decide_eq_true_eq] at h2
      exact absurd (by simp only [decide_eq_true_eq]; omega) (h s h1)
/-- The least colour with a clique of its size, and the first such clique. -/
def fsR (N : Nat) (bs : List Nat) (zs : List Int) (K : Nat) : Nat × Nat :=
  match (List.range K).find? fun (c : Nat) => decide (fosX (nsF bs (c : Int) (eseq N)) N (zs.getD c 0) ≠ 0) with
  | none => (0, 0)
  | some c => (c, fosX (nsF bs (c : Int) (eseq N)) N (zs.getD c 0))
theorem fsR_none {N : Nat} {bs : List Nat} {zs : List Int} {K : Nat} (h : ∀ j, j < K → fosX (nsF bs (j : Int) (eseq N)) N (zs.getD j 0) = 0) : fsR N bs zs K = (0, 0) := by
  unfold fsR
  rw [List.find?_eq_none.2 (fun j hj => by rw [h j (List.mem_range.1 hj)]; simp)]
theorem fsR_hit {N : Nat} {bs : List Nat} {zs : List Int} {K d : Nat} (h : ∀ j, j < d → fosX (nsF bs (j : Int) (eseq N)) N (zs.getD j 0) = 0) (hd : d < K) (h2 : fosX (nsF bs (d : Int) (eseq N)) N (zs.getD d 0) ≠ 0) :
    fsR N bs zs K = (d, fosX (nsF bs (d : Int) (eseq N)) N (zs.getD d 0)) := by
  unfold fsR
  have e : (List.range K).find? (fun (c : Nat) => decide (fosX (nsF bs (c : Int) (eseq N)) N (zs.getD c 0) ≠ 0)) = some d := by
    rw [List.find?_range_eq_some]
    exact ⟨by simpa using h2, List.mem_range.2 hd, fun j hj => by rw [h j hj]; simp⟩
  rw [e]
theorem fsR_av {N : Nat} {bs : List Nat} {zs : List Int} {K : Nat} (hN : N ≤ 17) (hsz : szP zs K = true) : (((fsR N bs zs K).2 : Int) == 0) = avP N bs zs K := by
  have hz : ∀ j, j < K → ((fosX (nsF bs (j : Int) (eseq N)) N (zs.getD j 0) = 0) ↔ (clqL bs (j : Int) N (zs.getD j 0).toNat).isEmpty = true) := fun j hj => by
    have h1 := szP_get hsz hj
    have h2 : 1 ≤ zs.getD j 0 := by
      unfold inB at h1
      simp at h1; simp; omega
    obtain ⟨m, hm⟩ := Int.eq_ofNat_of_zero_le (show 0 ≤ zs.getD j 0 by omega)
    rw [hm, Int.toNat_natCast]
    exact fosX_zero bs j hN (by omega)
  cases ha : avP N bs zs K with
  | true =>
    rw [fsR_none (fun j hj => (hz j hj).2 (List.all_eq_true.1 ha j (List.mem_range.2 hj)))]; rfl
  | false =>
    rw [beq_eq_false_iff_ne]
    intro h0
    unfold fsR at h0
    split at h0
    · rename_i hn
      rw [List.find?_eq_none] at hn
      have : avP N bs zs K = true := List.all_eq_true.2 fun j hj => (hz j (List.mem_range.1 hj)).1 (by simpa using hn j hj)
      rw [this] at ha; cases ha
    · rename_i c hc
      have := List.find?_some hc
      simp at this h0
      exact this h0
set_option maxRecDepth 100000 in
set_option maxHeartbeats 1000000 in
theorem sizes30 (k : Int) (zs : List Int) (a : Option Addr) (cap : Nat) (w : World) (hs : SlI w a zs) (hl : zs.length ≤ 1048576) :
    Calls Tryd.prog 108 #[.slice a zs.length cap, .int .i64 k] w fun e w' => e = .returned (.bool (szOk k zs)) ∧ w = w' := by
  have HSL := hidd hs
  have hwl : IntKind.i64.wrap (zs.length : Int) = zs.length := IntWalk.i64_in _ (by omega)
  go_enter Tryd.func108, Tryd.ntmps108
  go_wp2_with fail
  go_loopw [9] (fun e wr => ∃ j : Nat, j ≤ zs.length ∧ e = .int .i64 (j : Int) ∧ Hid (szP zs j = true) ∧ Hid (w = wr)) (fun e _ => zs.length - (intOf e).toNat)
  case atStart => exact ⟨0, Nat.zero_le _, rfl, rfl, rfl⟩
  case round =>
    obtain ⟨j, hj, rfl, HK, hww⟩ := hrel
    obtain rfl : w = wr := hww
    by_cases hlt : j < zs.length
    · have hltI : decide ((j : Int) < (zs.length : Int)) = true := by simp; omega
      rcases HSL.out with hz | ⟨bl, off, ha, hc⟩
      · rw [hz] at hlt; simp at hlt
      · subst ha
        have cj := hc j hlt
        obtain ⟨z, hzz⟩ : ∃ z, z = zs.getD j 0 := ⟨_, rfl⟩
        rw [← hzz] at cj
        have hst := szP_step zs j
        rw [HK.out, Bool.true_and, ← hzz] at hst
        cases hin : inB z 1 17 with
        | true =>
          have HST := hidd (hst.trans hin)
          have HIN := hidd hin
          clear hc hst hin hzz
          go_wp2_with (go_at_call 62; refine (within45 _ _ _ _).mono ?_; rintro e w' ⟨rfl, rfl⟩; rw [HIN.out])
          go_roundw
          case rel => exact ⟨j + 1, by omega, by go_num, HST.out, trivial⟩
          case measure => simp [intOf]; omega
        | false =>
          have HST := hidd (szP_fall (zs := zs) (d := j) (by rw [← hzz]; exact hin) hlt)
          have HIN := hidd hin
          clear hc hst hin hzz
          go_wp2_with (go_at_call 62; refine (within45 _ _ _ _).mono ?_; rintro e w' ⟨rfl, rfl⟩; rw [HIN.out])
          go_ret
          exact ⟨by unfold szOk; rw [HST.out, Bool.and_false]; rfl, rfl⟩
    · have hltI : decide ((j : Int) < (zs.length : Int)) = false := by simp; omega
      have hje : j = zs.length := by omega
      have HP := hidd (show szP zs zs.length = true by rw [← hje]; exact HK.out)
      clear hje
      go_wp2_with fail
      go_ret
      exact ⟨by unfold szOk; rw [HP.out, Bool.and_true]; rfl, rfl⟩
set_option maxRecDepth 100000 in
set_option maxHeartbeats 1000000 in
theorem firsts31 (N K : Nat) (bs : List Nat) (hb : Bys bs) (zs : List Int) (a : Option Addr) (cap : Nat) (w : World) (hs : SlI w a zs) (hl : zs.length = K) (n1 : 1 ≤ N) (hN17 : N ≤ 17) (hK : K ≤ 4) :
    Calls Tryd.prog 81 #[.agg (ccells (N : Int) (K : Int) bs).toArray, .slice a K cap] w fun e w' => e = .returned (.tuple #[.int .i64 ((fsR N bs zs K).1 : Int), .int .u32 ((fsR N bs zs K).2 : Int)]) ∧ Below w.heap.size w w' := by
  have HS := hidd (size_c26 (N : Int) (K : Int) hb)
  have HSL := hidd hs
  have HL := hidd hl
  have HFO := hidd (fun c m W => fos47 N (K : Int) c m bs hb W n1 hN17)
  clear hs hl
  go_enter Tryd.func81, Tryd.ntmps81
  go_wp2_with fail
  go_loopw [11] (fun e wr => ∃ j : Nat, j ≤ K ∧ e = .int .i64 (j : Int) ∧ Hid ((∀ i, i < j → fosX (nsF bs (i : Int) (eseq N)) N (zs.getD i 0) = 0) ∧ Blk wr w.heap.size (ccells (N : Int) (K : Int) bs).toArray 28 ∧ Below w.heap.size w wr)) (fun e _ => K - (intOf e).toNat)
  case atStart => exact ⟨0, Nat.zero_le _, rfl, fun i hi => by omega, Blk.new _ _ _ _ rfl, (Below.refl _ _).alloc (Nat.le_refl _) _⟩
  case round =>
    obtain ⟨j, hj, rfl, HK⟩ := hrel
    by_cases hlt : j < K
    · have hltI : decide ((j : Int) < (K : Int)) = true := by simp; omega
      rcases HSL.out with hz | ⟨bl, off, ha, hc⟩
      · have := HL.out; rw [hz] at this; simp at this; omega
      · subst ha
        have cj := cell_below (hc j (by rw [HL.out]; exact hlt)) HK.out.2.2
        obtain ⟨z, hzz⟩ : ∃ z, z = zs.getD j 0 := ⟨_, rfl⟩
        rw [← hzz] at cj
        have HF := hidd (HFO.out (j : Int) z)
        obtain ⟨X, hX⟩ : ∃ X, X = fosX (nsF bs (j : Int) (eseq N)) N z := ⟨_, rfl⟩
        rw [← hX] at HF
        rw [hzz] at hX
        by_cases h0 : X = 0
        · have HX := hidd (hX.symm.trans h0)
          have hXI : ((X : Int) != 0) = false := by rw [bne_eq_false_iff_eq]; omega
          clear hc hzz hX h0
          go_wp2_with (refine wpList_load_row rfl 28 (.tmp 2) rfl w.heap.size rfl 28 _ (0,0) _ HK.out.2.1 Tryd.underlying28 rfl HS.out ?_)
          refine (HF.out _).mono ?_
          rintro e w1 ⟨rfl, hb1⟩
          have K1 := hidd (And.intro (HK.out.2.1.below hb1 HK.out.2.1.lt) (HK.out.2.2.trans (hb1.mono HK.out.2.2.size)))
          clear hb1
          go_wp2_with fail
          go_roundw
          case rel =>
            refine ⟨j + 1, by omega, by go_num, ⟨fun i hi => ?_, K1.out⟩⟩
            by_cases e : i = j
            · subst e; exact HX.out
            · exact HK.out.1 i (by omega)
          case measure => simp [intOf]; omega
        · have HR := hidd (fsR_hit (zs := zs) (K := K) HK.out.1 hlt (by rw [← hX]; exact h0))
          have HX := hidd hX
          have hXI : ((X : Int) != 0) = true := by rw [bne_iff_ne]; omega
          clear hc hzz hX h0
          go_wp2_with (refine wpList_load_row rfl 28 (.tmp 2) rfl w.heap.size rfl 28 _ (0,0) _ HK.out.2.1 Tryd.underlying28 rfl HS.out ?_)
          refine (HF.out _).mono ?_
          rintro e w1 ⟨rfl, hb1⟩
          have K1 := hidd (HK.out.2.2.trans (hb1.mono HK.out.2.2.size))
          clear hb1
          go_wp2_with fail
          go_ret2
          exact ⟨by rw [HR.out, ← HX.out]; rfl, K1.out⟩
    · have hltI : decide ((j : Int) < (K : Int)) = false := by simp; omega
      have hje : j = K := by omega
      subst hje
      have HR := hidd (fsR_none HK.out.1)
      go_wp2_with fail
      go_ret2
      exact ⟨by rw [HR.out]; rfl, HK.out.2.2⟩
end Go.Proofs.YtckffliiidgilaaDoor
/- My texts Law, Laws, Keep, in one. -/
/- What every law's proof wants of the program as a whole. -/
namespace Go.Proofs.YtckffliiidgilaaDoor
open Go Go.RowKit Go.ChangeShapes Go.WideShapes Go.ChangeAt
theorem own : ownKnob Tryd.prog.godebug = none := by kernel_rfl
theorem laidOut : laidOutB Tryd.prog = true := by kernel_rfl
theorem read24 : Tryd.prog.readableRec 24 = true := by kernel_rfl
theorem read2 : Tryd.prog.readableRec 2 = true := by kernel_rfl
theorem read29 : Tryd.prog.readableRec 25 = true := by kernel_rfl
theorem row24 : 24 < Tryd.prog.types.size := of_decide_eq_true (by kernel_rfl)
theorem row2 : 2 < Tryd.prog.types.size := of_decide_eq_true (by kernel_rfl)
theorem row29 : 25 < Tryd.prog.types.size := of_decide_eq_true (by kernel_rfl)
set_option maxRecDepth 100000 in
/-- A number that came in. -/
theorem open_num {H : Type} {enc : TypeId × Value → H} {w : World} {base : Nat} {spare : Nat → Bool} {held : Bool} {v : Value} {d : DataW H} {ps : List MemPlace} {r : Reach} {b : Nat}
    (hv : Value.okWide Tryd.prog w r b 2 v) (h : DataW.Trod enc Tryd.prog w base spare held 2 v d ps) : ∃ n, v = .int .i64 n ∧ -9223372036854775808 ≤ n ∧ n ≤ 9223372036854775807 := by
  obtain ⟨n, rfl, _, _, wn⟩ := open_int Tryd.underlying2 hv h
  exact ⟨n, rfl, i64_bd wn⟩
theorem lt_of_trod {H : Type} {enc : TypeId × Value → H} {w : World} {spare : Nat → Bool} {held : Bool} {t : TypeId} {v : Value} {d : DataW H} {ps : List MemPlace}
    (h : DataW.Trod enc Tryd.prog w 0 spare held t v d ps) : ∀ x ∈ ps, x.block < w.heap.size := by
  obtain ⟨m, hm⟩ := h; exact DataW.trod_lt m _ _ _ hm
end Go.Proofs.YtckffliiidgilaaDoor
/- Lists that came in. -/
namespace Go.Proofs.YtckffliiidgilaaDoor
set_option linter.unusedVariables false
set_option linter.unusedSimpArgs false
open Go Go.RowKit Go.ChangeShapes Go.WideShapes Go.ChangeAt
set_option maxRecDepth 100000 in
theorem open_list {H : Type} {enc : TypeId × Value → H} {w : World} {base : Nat} {held : Bool} {v : Value} {d : DataW H} {ps : List MemPlace} {r : Reach} {b : Nat}
    (hv : Value.okWide Tryd.prog w r b 25 v) (h : DataW.Trod enc Tryd.prog w base (fun _ => true) held 25 v d ps) :
    ∃ a zs cap, v = .slice a (zs : List Int).length cap ∧ SlI w a zs ∧ zs.length ≤ 9223372036854775807 ∧ ∀ j, j < zs.length → -9223372036854775808 ≤ zs.getD j 0 ∧ zs.getD j 0 ≤ 9223372036854775807 := by
  obtain ⟨a, len, cap, rfl⟩ := okWide_slice Tryd.underlying25 hv
  obtain ⟨fuel, hf⟩ := h
  rcases open_ints Tryd.underlying25 Tryd.underlying2 cells2 hf with ⟨hcs, _⟩ | ⟨x, l, c, zs, hcs, _, hl, hm, hz, _, hcell, hwz⟩
  · simp [Value.cells] at hcs
    obtain ⟨rfl, rfl, rfl⟩ := hcs
    exact ⟨none, [], 0, rfl, .inl rfl, by simp, fun j hj => by simp at hj⟩
  · simp [Value.cells] at hcs
    obtain ⟨rfl, rfl, rfl⟩ := hcs
    have hzl : zs.length = cap := by simpa using hz
    have htl : (zs.take len).length = len := by simp; omega
    unfold maxLen at hm
    refine ⟨some x, zs.take len, cap, by rw [htl], ?_, by omega, fun j hj => ?_⟩
    · by_cases h0 : len = 0
      · left; simp [h0]
      · obtain ⟨bl, off, spot⟩ := x
        have hc := hcell 0 (by omega)
        have hspot : spot = none := by simpa [Addr.add] using World.cell?_spot hc
        subst hspot
        refine .inr ⟨bl, off, rfl, fun j hj => ?_⟩
        rw [htl] at hj
        have hcj := hcell j (by omega)
        rw [Addr.add_mid] at hcj
        rw [hcj]
        simp [List.getD, List.getElem?_take, hj]
    · rw [htl] at hj
      have hj2 : j < zs.length := by omega
      have e : (zs.take len).getD j 0 = zs[j] := by simp [List.getD, List.getElem?_take, hj, hj2]
      rw [e]
      exact i64_bd (hwz _ (List.getElem_mem hj2))
end Go.Proofs.YtckffliiidgilaaDoor
/- What is kept when a law stores a result and goes on. -/
namespace Go.Proofs.YtckffliiidgilaaDoor
set_option linter.unusedVariables false
set_option linter.unusedSimpArgs false
open Go Go.RowKit Go.ChangeShapes Go.WideShapes Go.ChangeAt
/-- A variable of its own for a colouring: what is known behind the store. -/
theorem kept_row {w w2 : World} {C D : Array Value} {b : Nat} {t : TypeId} (g : Blk w2 b C t) (h : Below w.heap.size w w2) (Z : Array Value) :
    Blk ((w2.alloc (.cells Z 28)).setRow w2.heap.size D) b C t ∧ Blk ((w2.alloc (.cells Z 28)).setRow w2.heap.size D) w2.heap.size D 28 ∧ Below w.heap.size w ((w2.alloc (.cells Z 28)).setRow w2.heap.size D) :=
  ⟨(g.alloc _).rowOther _ _ (by have := g.lt; omega), (Blk.new _ _ _ _ rfl).rowSame _, below_setRow (h.alloc h.size _) h.size _⟩
theorem copy19b (zs : List Int) (a : Option Addr) (cap : Nat) (w : World) (b : Nat) (hb : b = w.heap.size) (hs : SlI w a zs) (hl : zs.length ≤ 1048576) :
    Calls Tryd.prog 15 #[.slice a zs.length cap] w fun e w' => e = .returned (.slice (some ⟨b, 0, none⟩) zs.length zs.length) ∧ Blk w' b (icells zs).toArray 2 ∧ Below w.heap.size w w' := by
  subst hb; exact copy19 zs a cap w hs hl
theorem kept_more {w2 : World} {C D : Array Value} {b : Nat} {t : TypeId} (g : Blk w2 b C t) (Z : Array Value) : Blk ((w2.alloc (.cells Z 28)).setRow w2.heap.size D) b C t :=
  (g.alloc _).rowOther _ _ (by have := g.lt; omega)
end Go.Proofs.YtckffliiidgilaaDoor
/- cliquesOfSize: the cliques of one size, in a list of sets. -/
namespace Go.Proofs.YtckffliiidgilaaDoor
set_option linter.unusedVariables false
set_option linter.unusedSimpArgs false
open Go Go.RowKit Go.Shelf
attribute [local go_sem] Oper.semAt_some
theorem cqE_many (R : List Nat → Nat → Bool) (N : Nat) : ∀ (d : Nat) (s : List Nat), (cqE R N d s).length + 1 ≤ 2 ^ d
  | 0, s => by simp [cqE]
  | d + 1, s => by
    have h1 := cqE_many R N d ((N - (d + 1)) :: s)
    have h2 := cqE_many R N d s
    rw [cqE, Nat.pow_succ]
    split
    · simp; omega
    · omega
theorem cqR_many (F : Nat → Nat) {N : Nat} (hN : N ≤ 17) : (cqR (fitR F) N [] N).length ≤ 131072 := by
  have h1 := cqE_many (fitR F) N N []
  have h2 : 2 ^ N ≤ 2 ^ 17 := Nat.pow_le_pow_right (by omega) hN
  show (cqE (fitR F) N N []).length ≤ _
  omega
/-- The ones of m points among the cliques that have come. -/
def clS {N : Nat} (m : Int) (pre : List (Cl N)) : List (List Nat) := (pre.map Cl.v).filter fun s => decide ((s.length : Int) = m)
theorem clS_no {N : Nat} {m : Int} {pre : List (Cl N)} {x : Cl N} (h : decide ((x.1.length : Int) = m) = false) : clS m (pre ++ [x]) = clS m pre := by
  unfold clS
  rw [List.map_append, List.filter_append, List.map_cons, List.map_nil, show List.filter (fun s => decide ((s.length : Int) = m)) [Cl.v x] = [] from by
    rw [List.filter_cons_of_neg (by show ¬ (decide ((x.1.length : Int) = m) = true); rw [h]; simp)]; rfl, List.append_nil]
theorem clS_yes {N : Nat} {m : Int} {pre : List (Cl N)} {x : Cl N} (h : decide ((x.1.length : Int) = m) = true) : clS m (pre ++ [x]) = clS m pre ++ [x.1] := by
  unfold clS
  rw [List.map_append, List.filter_append, List.map_cons, List.map_nil, show List.filter (fun s => decide ((s.length : Int) = m)) [Cl.v x] = [x.1] from by
    rw [List.filter_cons_of_pos (by show decide ((x.1.length : Int) = m) = true; exact h)]; rfl]
theorem clS_len {N : Nat} {m : Int} (pre : List (Cl N)) : (clS m pre).length ≤ pre.length := by
  unfold clS
  exact Nat.le_trans (List.length_filter_le _ _) (by simp)
/-- All cliques of m points. -/
def csL (F : Nat → Nat) (N : Nat) (m : Int) : List (List Nat) := (cqR (fitR F) N [] N).filter fun s => decide ((s.length : Int) = m)
def ucs (L : List (List Nat)) : List Value := L.map fun s => .int .u32 (bitS s : Nat)
theorem ucs_len (L : List (List Nat)) : (ucs L).length = L.length := by simp [ucs]
theorem ucs_app (L M : List (List Nat)) : ucs (L ++ M) = ucs L ++ ucs M := by simp [ucs]
/-- A list of sets that can be read. -/
def SlU (w : World) (a : Option Addr) (L : List (List Nat)) : Prop := L = [] ∨ ∃ g, a = some ⟨g, 0, none⟩ ∧ g < w.heap.size ∧ ∀ j s, L[j]? = some s → w.cell? ⟨g, j, none⟩ = some (.int .u32 (bitS s : Nat))
theorem SlU.below {w w' : World} {a : Option Addr} {L : List (List Nat)} (h : SlU w a L) (hb : Below w.heap.size w w') : SlU w' a L := by
  rcases h with h | ⟨g, h1, h2, h3⟩
  · exact .inl h
  · exact .inr ⟨g, h1, Nat.lt_of_lt_of_le h2 hb.size, fun j s hj => by
      rw [hb.cell (p := ⟨g, j, none⟩) h2]; exact h3 j s hj⟩
theorem slU_own {w : World} {B : Nat} {v : Value} {L : List (List Nat)} (h : w.ownsRow B 88 1 v L.length (ucs L)) : ∃ a cap, v = .slice a L.length cap ∧ SlU w a L := by
  obtain ⟨_, h | ⟨g, cap, cur, hv, hg, hc, hn, _, hs, ht⟩⟩ := h
  · obtain ⟨rfl, h0⟩ := h
    have hz : L = [] := List.length_eq_zero_iff.1 h0
    subst hz
    exact ⟨none, 0, rfl, .inl rfl⟩
  · refine ⟨some ⟨g, 0, none⟩, cap, hv, .inr ⟨g, rfl, (Array.getElem?_eq_some_iff.1 hc).1, fun j s hj => ?_⟩⟩
    have hB : Blk w g cur 88 := hc
    refine hB.cell ?_
    have hjl : j < L.length := (List.getElem?_eq_some_iff.1 hj).1
    have e : (ucs L)[j]? = some (.int .u32 (bitS s : Nat)) := by unfold ucs; rw [List.getElem?_map, hj]; rfl
    rw [← ht, List.getElem?_take_of_lt (by omega)] at e
    simpa using e
theorem ownR_grow {W W' : World} {B : Nat} {t : TypeId} {v : Value} {n : Nat} {xs : List Value} {row : Option Nat} (h : W.ownsRow B t 1 v n xs) (hg : W.grownBy W' row) (hr : ∀ r, row = some r → ∃ o : Obj, W.heap[r]? = some o ∧ o.isCells = false) : W'.ownsRow B t 1 v n xs := by
  refine ⟨h.1, ?_⟩
  rcases h.2 with h2 | ⟨g, cap, cur, hv, hB, hc, r⟩
  · exact .inl h2
  · refine .inr ⟨g, cap, cur, hv, hB, (hg.block g (Array.getElem?_eq_some_iff.1 hc).1 (fun e => ?_)).trans hc, r⟩
    obtain ⟨o, ho, hoc⟩ := hr g e.symm
    rw [hc] at ho
    cases ho; cases hoc
theorem ownR_set {W : World} {B : Nat} {t : TypeId} {v : Value} {n : Nat} {xs : List Value} (h : W.ownsRow B t 1 v n xs) (p : Addr) (u : Value) (hp : p.block < B) : (W.setCell p u).ownsRow B t 1 v n xs := by
  refine ⟨h.1, ?_⟩
  rcases h.2 with h2 | ⟨g, cap, cur, hv, hB, hc, r⟩
  · exact .inl h2
  · exact .inr ⟨g, cap, cur, hv, hB, (heap_setCell_other W p g u (by omega)).trans hc, r⟩
theorem keeps_grown {W W' : World} {B b : Nat} {e : TypeId} {size : Nat} {v : Value} {n : Nat} {xs : List Value} (hown : W.ownsRow b e size v n xs) (hg : W.grownBy W' v.ownBlock) : KeepsFrom B W W' := by
  refine ⟨hg.size, fun k o _ hk hc => (hg.block k (Array.getElem?_eq_some_iff.1 hk).1 (fun he => ?_)).trans hk⟩
  rcases hown.2 with ⟨h1, _⟩ | ⟨g, cap, cur, hv, _, hcur, _⟩
  · rw [h1] at he; cases he
  · rw [hv] at he
    cases he
    rw [hcur] at hk
    cases hk; cases hc
theorem info88 : (Tryd.prog.info? 88).map (fun i => (i.zero, i.size, i.bytes)) = some (some (.int .u32 0), 1, 4) := by kernel_rfl
def RelCz {N : Nat} (m : Int) (w : World) (B : Nat) (pre : List (Cl N)) (W : World) : Prop :=
  Blk W (w.heap.size + 1) #[.int .i64 m] 2 ∧ (∃ v, Blk W (w.heap.size + 1 + 1) #[v] 90 ∧ W.ownsRow B 88 1 v (clS m pre).length (ucs (clS m pre))) ∧ Below w.heap.size w W ∧ B ≤ W.heap.size
set_option maxRecDepth 100000 in
set_option maxHeartbeats 2000000 in
theorem cos75 (N : Nat) (k c m : Int) (bs : List Nat) (hb : Bys bs) (w : World) (N1 : 1 ≤ N) (N2 : N ≤ 17) :
    Calls Tryd.prog 75 #[.agg (ccells (N : Int) k bs).toArray, .int .i64 c, .int .i64 m] w fun e w' => ∃ a cap, e = .returned (.slice a (csL (nsF bs c (eseq N)) N m).length cap) ∧ SlU w' a (csL (nsF bs c (eseq N)) N m) ∧ Below w.heap.size w w' := by
  have hfn : ∀ f, Fence.wide.fn f := fun _ => trivial
  have HS := hidd (size_c26 (N : Int) k hb)
  have HQ := hidd (fun W => cliques48 N k c bs hb W N1 N2)
  have hF := fun p => nsF_lt bs c (eseq N) p
  have hsym := nsF_sym bs c (eseq N) N2
  obtain ⟨F, hFe⟩ : ∃ F, F = nsF bs c (eseq N) := ⟨_, rfl⟩
  rw [← hFe] at HQ hF hsym ⊢
  have HF := hidd hF
  have HSY := hidd hsym
  have HMA := hidd (cqR_many F N2)
  clear hFe hF hsym
  obtain ⟨t0, hi2, hz0, hz1, hz3⟩ := info_parts info88
  have HIF := hidd (And.intro hi2 (And.intro hz0 (And.intro hz1 hz3)))
  clear hi2 hz0 hz1 hz3
  refine (callsIn_wide (n := 8)).1 (callsIn_of_wp_marks Tryd.func75 rfl trivial ?_ rfl)
  simp only [Tryd.ntmps75, List.size_toArray, List.length_cons, List.length_nil, Nat.reduceAdd, Nat.reduceSub, Array.replicate_succ, Array.replicate_zero, List.push_toArray, List.append_toArray, List.nil_append, List.cons_append]
  have b3 : Blk (((w.alloc (Obj.cells (ccells (N : Int) k bs).toArray 28)).alloc (Obj.cells #[.int .i64 m] 2)).alloc (Obj.cells #[.slice none 0 0] 90)) w.heap.size (ccells (N : Int) k bs).toArray 28 := ((Blk.new _ _ _ _ rfl).alloc _).alloc _
  have H3 := hidd b3
  gi_wp2_with (refine inLoadRow rfl 28 (.tmp 3) rfl w.heap.size rfl 28 _ _ H3.out Tryd.underlying28 rfl HS.out ?_)
  have b5 : Blk (((w.alloc (Obj.cells (ccells (N : Int) k bs).toArray 28)).alloc (Obj.cells #[.int .i64 m] 2)).alloc (Obj.cells #[.slice none 0 0] 90)) (w.heap.size + 1) #[.int .i64 m] 2 := (Blk.new _ _ _ _ (by simp)).alloc _
  have b6 : Blk (((w.alloc (Obj.cells (ccells (N : Int) k bs).toArray 28)).alloc (Obj.cells #[.int .i64 m] 2)).alloc (Obj.cells #[.slice none 0 0] 90)) (w.heap.size + 1 + 1) #[.slice none 0 0] 90 := Blk.new _ _ _ _ (by simp)
  refine (callsIn_wide.2 (HQ.out _)).mono ?_
  rintro e W0 ⟨bx, bn, rfl, hBx, hBn, hb1⟩
  have hbl0 : Below w.heap.size w W0 := ((((Below.refl _ _).alloc (Nat.le_refl _) _).alloc (by simp) _).alloc (by simp; omega) _).trans (hb1.mono (by simp; omega))
  have h5 := b5.below hb1 b5.lt
  have h6 := b6.below hb1 b6.lt
  clear hb1 b3 b5 b6
  have hlt6 := h6.lt
  have hnx : bx ≠ w.heap.size + 1 + 1 := fun e => by subst e; have h1 := hBx; have h2 := h6; unfold Blk at h1 h2; rw [h1] at h2; cases h2
  have hnn : bn ≠ w.heap.size + 1 + 1 := fun e => by subst e; have h1 := hBn; have h2 := h6; unfold Blk at h1 h2; rw [h1] at h2; cases h2
  have HNX := hidd (And.intro hnx hnn)
  have HL6 := hidd hlt6
  clear hnx hnn hlt6
  gi_wp2
  refine wpIn_rangeFunc_ownH rfl (by omega) (gf := 110) (lb := #[.pointer (some ⟨bx, 0, none⟩), .pointer (some ⟨bn, 0, none⟩)]) rfl trivial (enters_of Tryd.func110 (by kernel_rfl) rfl)
    (seq58 6 bx bn N k bs hb F N1 N2 HF.out HSY.out W0 hBx hBn) kpC_t (kpC_b hBx.lt hBn.lt) (Below.refl _ _) (fun _ => rfl)
    (fun pre W => RelCz m w W0.heap.size pre W)
    (fun c pre W => False)
    (fun s A B row hs hg hr => ⟨blk_own hs.1 hg hr, by
      obtain ⟨v, h1, h2⟩ := hs.2.1
      exact ⟨v, blk_own h1 hg hr, ownR_grow h2 hg (fun r e => (hr r e).2)⟩, ownFrom_below (β := Unit) (Nat.le_refl _) hbl0.size () A B row hs.2.2.1 hg hr, Nat.le_trans hs.2.2.2 hg.size⟩)
    (fun c s A B row hs hg hr => hs)
    ⟨h5, ⟨_, h6, rfl, .inl ⟨rfl, rfl⟩⟩, hbl0, Nat.le_refl _⟩
    (fun x a' W => a' = { tmps := #[.agg (ccells (N : Int) k bs).toArray, .int .i64 c, .int .i64 m, .pointer (some ⟨w.heap.size, 0, none⟩), undef, .pointer (some ⟨w.heap.size + 1, 0, none⟩), .slice none 0 0, .pointer (some ⟨w.heap.size + 1 + 1, 0, none⟩), .int .u32 (bitS x.1 : Nat), .agg (ccells (N : Int) k bs).toArray, .int .i64 c, .func (.func 110) #[] #[.pointer (some ⟨bx, 0, none⟩), .pointer (some ⟨bn, 0, none⟩)], .int .u32 (bitS x.1 : Nat), undef, undef, undef, undef, undef, undef, undef, undef, undef], defers := [] })
    (fun x a' s A B row hs hg hr => hs) ?assign ?body ?done ?stop
  case assign =>
    intro l pre x W Kx hI hK
    have HI := hidd hI
    have HK := hidd hK
    clear hI hK
    dsimp only [encC]
    gi_wp2
    exact HK.out _ _ (KeepsFrom.refl _ _) ⟨rfl, rfl⟩ HI.out rfl
  case body =>
    rintro l pre x a' W hl _ ⟨g5, ⟨v, g6, gv⟩, g7, g9⟩ rfl hlen
    obtain ⟨xs1, xs2, xs3⟩ := x.2
    have hX17 : bitS x.1 < 2 ^ 17 := bitS_lt _ (fun q hq => by have := xs2 q hq; omega)
    have HZ := hidd (fun W => size34 (bitS x.1) hX17 W)
    rw [ones_bitS x.1 xs1] at HZ
    obtain ⟨X, hX⟩ : ∃ X, X = bitS x.1 := ⟨_, rfl⟩
    obtain ⟨ln, hln⟩ : ∃ ln, ln = x.1.length := ⟨_, rfl⟩
    rw [← hX, ← hln] at HZ
    rw [← hX]
    have HG := hidd (And.intro g5 (And.intro g6 (And.intro gv (And.intro g7 g9))))
    have HXL := hidd (And.intro hX hln)
    have HLN := hidd (show (clS m pre).length < 131072 by
      have := clS_len (m := m) pre
      have := HMA.out
      omega)
    clear g5 g6 g7 g9 gv hX17 xs1 xs2 xs3 hX hln hlen
    have hWx := Nat.lt_of_lt_of_le hBx.lt HG.out.2.2.2.2
    have hWn := Nat.lt_of_lt_of_le hBn.lt HG.out.2.2.2.2
    cases hq : ((ln : Int) == m) with
    | false =>
      have hd : decide ((x.1.length : Int) = m) = false := by rw [← HXL.out.2]; exact decide_eq_false (beq_eq_false_iff_ne.1 hq)
      have HD := hidd (clS_no (pre := pre) hd)
      clear hd
      gi_wp2
      refine wpIn_region_tail_lit (lets_round l _) 3 (fun w' => Below W.heap.size W w') (by decide) (by kernel_rfl) ((Below.refl _ _).drew) (by kernel_rfl) (by kernel_rfl) (by kernel_rfl) (by kernel_rfl) (by kernel_rfl) ?_
      simp only [List.take_succ_cons, List.take_zero, List.drop_succ_cons, List.drop_zero, List.map_cons, List.map_nil, List.cons_append, List.nil_append, idle]
      refine qs rfl (fun KQ hKQ => ?_)
      apply Exists.intro
      refine ⟨fun w' hw' => ?_, ?_⟩
      · go_simp; exact rfl
      go_simp
      refine hKQ _ ?_
      clear hKQ KQ
      refine qs rfl (fun KQ hKQ => ?_)
      apply Exists.intro
      refine ⟨fun w' hw' => ?_, ?_⟩
      · go_simp; exact (HZ.out _).mono fun _ _ h => ⟨h.1, by rw [h.2]; exact hw'.drew⟩
      go_simp
      refine hKQ _ ?_
      clear hKQ KQ
      refine qs rfl (fun KQ hKQ => ?_)
      apply Exists.intro
      refine ⟨fun w' hw' => ?_, ?_⟩
      · have e1 := (HG.out.1.below hw' HG.out.1.lt).cell (j := 0) (show _ = some (Value.int .i64 m) from rfl); go_simp; exact rfl
      go_simp
      refine hKQ _ ?_
      clear hKQ KQ
      refine qs rfl (fun KQ hKQ => ?_)
      apply Exists.intro
      refine ⟨fun w' hw' => ?_, ?_⟩
      · go_simp; exact rfl
      go_simp
      refine hKQ _ ?_
      clear hKQ KQ
      refine wpQuiet_nil ?_
      intro w' hw'
      have K1 := hidd (show RelCz m w W0.heap.size (pre ++ [x]) w' from ⟨HG.out.1.below hw' HG.out.1.lt, ⟨v, HG.out.2.1.below hw' HG.out.2.1.lt, by rw [HD.out]; exact own_below HG.out.2.2.1 hw' (Nat.le_refl _)⟩, HG.out.2.2.2.1.trans (hw'.mono HG.out.2.2.2.1.size), Nat.le_trans HG.out.2.2.2.2 hw'.size⟩)
      have K2 := hidd (show KpC bx bn W w' from ⟨hw'.block _ hWx, hw'.block _ hWn⟩)
      have K3 := hidd (keeps_below (B := W0.heap.size) hw')
      clear hw'
      gi_wp2_with fail
      exact ⟨K3.out, K2.out, K1.out⟩
    | true =>
      have hd : decide ((x.1.length : Int) = m) = true := by rw [← HXL.out.2]; exact decide_eq_true (beq_iff_eq.1 hq)
      have HD := hidd (clS_yes (pre := pre) hd)
      clear hd
      gi_wp2
      refine wpIn_region_tail_lit (lets_round l _) 3 (fun w' => Below W.heap.size W w') (by decide) (by kernel_rfl) ((Below.refl _ _).drew) (by kernel_rfl) (by kernel_rfl) (by kernel_rfl) (by kernel_rfl) (by kernel_rfl) ?_
      simp only [List.take_succ_cons, List.take_zero, List.drop_succ_cons, List.drop_zero, List.map_cons, List.map_nil, List.cons_append, List.nil_append, idle]
      refine qs rfl (fun KQ hKQ => ?_)
      apply Exists.intro
      refine ⟨fun w' hw' => ?_, ?_⟩
      · go_simp; exact rfl
      go_simp
      refine hKQ _ ?_
      clear hKQ KQ
      refine qs rfl (fun KQ hKQ => ?_)
      apply Exists.intro
      refine ⟨fun w' hw' => ?_, ?_⟩
      · go_simp; exact (HZ.out _).mono fun _ _ h => ⟨h.1, by rw [h.2]; exact hw'.drew⟩
      go_simp
      refine hKQ _ ?_
      clear hKQ KQ
      refine qs rfl (fun KQ hKQ => ?_)
      apply Exists.intro
      refine ⟨fun w' hw' => ?_, ?_⟩
      · have e1 := (HG.out.1.below hw' HG.out.1.lt).cell (j := 0) (show _ = some (Value.int .i64 m) from rfl); go_simp; exact rfl
      go_simp
      refine hKQ _ ?_
      clear hKQ KQ
      refine qs rfl (fun KQ hKQ => ?_)
      apply Exists.intro
      refine ⟨fun w' hw' => ?_, ?_⟩
      · go_simp; exact rfl
      go_simp
      refine hKQ _ ?_
      clear hKQ KQ
      refine wpQuiet_nil ?_
      intro w' hw'
      have r5 := HG.out.1.below hw' HG.out.1.lt
      have r6 := HG.out.2.1.below hw' HG.out.2.1.lt
      have rv := own_below HG.out.2.2.1 hw' (Nat.le_refl _)
      have r7 := HG.out.2.2.2.1.trans (hw'.mono HG.out.2.2.2.1.size)
      have rs := Nat.le_trans HG.out.2.2.2.2 hw'.size
      have f6 := r6.fro 0
      have c6 := r6.cell (j := 0) rfl
      have HA := hidd (own_below rv ((Below.refl w'.heap.size w').alloc (Nat.le_refl _) (.cells #[.int .u32 (X : Int)] 88)) (Nat.le_refl _))
      have HR := hidd (And.intro r5 (And.intro r6 (And.intro r7 rs)))
      have HW := hidd hw'
      clear r5 r6 rv r7 rs hw'
      gi_wp2_with (gi_at_builtin; refine wpListIn_append_own _ rfl _ _ 90 rfl W0.heap.size 88 t0 (.int .u32 0) 1 4 Tryd.underlying90 HIF.out.1 HIF.out.2.1 HIF.out.2.2.1 HIF.out.2.2.2 rfl (by decide) _ _ _ rfl HA.out ⟨w'.heap.size, 0, none⟩ 1 1 [.int .u32 (X : Int)] rfl rfl ?c1 ?c2 ?c3 ?c4 ?c5 ?_)
      case c1 => exact one_new _ _ _
      case c2 => intro u hu; simp at hu; subst hu; rfl
      case c3 => unfold maxLen; have := HLN.out; omega
      case c4 => have := HLN.out; omega
      case c5 => have := HR.out.2.2.2; simp; omega
      intro v' Y hown' hgrow _
      have hL2 : (clS m pre).length + 1 = (clS m (pre ++ [x])).length := by rw [HD.out]; simp
      have hX2 : ucs (clS m pre) ++ [.int .u32 (X : Int)] = ucs (clS m (pre ++ [x])) := by rw [HD.out, ucs_app, HXL.out.1]; rfl
      rw [hL2, hX2] at hown'
      obtain ⟨aN, cN, rfl, _⟩ := slU_own hown'
      have hbY : Below W0.heap.size (w'.alloc (.cells #[.int .u32 (X : Int)] 88)) Y := grown_plain HA.out hgrow (by have := HR.out.2.2.2; simp; omega)
      have hbA : Below w'.heap.size w' (w'.alloc (.cells #[.int .u32 (X : Int)] 88)) := (Below.refl w'.heap.size w').alloc (Nat.le_refl _) _
      have k5 : Blk Y (w.heap.size + 1) #[.int .i64 m] 2 := (HR.out.1.below hbA HR.out.1.lt).below hbY h5.lt
      have k6 : Blk Y (w.heap.size + 1 + 1) #[v] 90 := (HR.out.2.1.below hbA HR.out.2.1.lt).below hbY h6.lt
      have k7 : Below w.heap.size w Y := (HR.out.2.2.1.trans (hbA.mono HR.out.2.2.1.size)).trans (hbY.mono hbl0.size)
      have e6 := k6.cell (j := 0) rfl
      have g6 := k6.fro 0
      obtain ⟨lN, hvN⟩ : ∃ lN, lN = (clS m (pre ++ [x])).length := ⟨_, rfl⟩
      rw [← hvN] at hown' ⊢
      have hown2 : Y.ownsRow W0.heap.size 88 1 (.slice aN lN cN) (clS m (pre ++ [x])).length (ucs (clS m (pre ++ [x]))) := by rw [← hvN]; exact hown'
      have K1 := hidd (show RelCz m w W0.heap.size (pre ++ [x]) (Y.setCell ⟨w.heap.size + 1 + 1, 0, none⟩ (.slice aN lN cN)) from
        ⟨k5.other _ _ (by simp), ⟨_, k6.same 0 _, ownR_set hown2 _ _ (by show w.heap.size + 1 + 1 < W0.heap.size; have := HL6.out; omega)⟩, k7.setCell (by show w.heap.size ≤ w.heap.size + 1 + 1; omega) _, by
          have := HR.out.2.2.2
          simp [World.setCell]
          have h3 := hbY.size
          simp at h3
          omega⟩)
      have K2 := hidd (show KpC bx bn W (Y.setCell ⟨w.heap.size + 1 + 1, 0, none⟩ (.slice aN lN cN)) from
        ⟨(heap_setCell_other _ _ bx _ HNX.out.1).trans ((hbY.block _ hBx.lt).trans ((hbA.block _ (Nat.lt_of_lt_of_le hWx HW.out.size)).trans (HW.out.block _ hWx))),
         (heap_setCell_other _ _ bn _ HNX.out.2).trans ((hbY.block _ hBn.lt).trans ((hbA.block _ (Nat.lt_of_lt_of_le hWn HW.out.size)).trans (HW.out.block _ hWn)))⟩)
      have K3 := hidd ((((keeps_below (B := W0.heap.size) HW.out).trans (keeps_below (B := W0.heap.size) hbA)).trans (keeps_grown HA.out hgrow)).trans ((KeepsOthers.setCell Y ⟨w.heap.size + 1 + 1, 0, none⟩ (.slice aN lN cN)).from _))
      clear hbY hbA k5 k6 k7 hown' hown2 hgrow hL2 hX2 hvN
      gi_wp2_with fail
      exact ⟨K3.out, K2.out, K1.out⟩
  case done =>
    rintro D xs W hD hxs ⟨g5, ⟨v, g6, gv⟩, g7, g9⟩ hK
    have hall : clS m xs = csL F N m := by unfold clS csL; rw [hxs]
    rw [hall] at gv
    obtain ⟨aL, cL, rfl, _⟩ := slU_own gv
    obtain ⟨lL, hL⟩ : ∃ lL, lL = (csL F N m).length := ⟨_, rfl⟩
    have gv2 : W.ownsRow W0.heap.size 88 1 (.slice aL (csL F N m).length cL) (csL F N m).length (ucs (csL F N m)) := gv
    rw [← hL] at g6
    have HLL := hidd hL
    have gv := gv2
    clear gv2
    have c6 := g6.cell (j := 0) rfl
    have R := hidd (And.intro gv (And.intro g7 (And.intro hK g9)))
    have hDW : W0.heap.size ≤ D := hD
    have hl0 := hbl0.size
    clear gv g7 hK g9 g5 hL hall hxs
    gi_wp2
    refine ⟨by simp [Act.put], .inl ⟨_, _, rfl, run_takeDeferred R.out.2.2.1, ?_⟩⟩
    have hb3 : Below w.heap.size w (W.putObj D (.deferred none)) := R.out.2.1.grown (grownBy_putObj' _ D (.deferred none)) R.out.2.1.size (fun k e => by cases e; omega)
    have hv := ownR_grow R.out.1 (grownBy_putObj' _ D (.deferred none)) (fun r e => by cases e; exact ⟨_, R.out.2.2.1, rfl⟩)
    obtain ⟨aM, cM, hvM, hSU⟩ := slU_own hv
    cases hvM
    refine ⟨.slice aL lL cL, ?_, aL, cL, ?_, hSU, hb3⟩
    · simp [results, show Tryd.f75.results = #[.tmp 6] from rfl]
    · rw [← HLL.out]
  case stop =>
    rintro D c pre W hD _ h
    exact h.elim
end Go.Proofs.YtckffliiidgilaaDoor
/- errors.Is of the one sentinel with itself; what the row's listed variable gives. -/
namespace Go.Proofs.YtckffliiidgilaaDoor
set_option linter.unusedVariables false
set_option linter.unusedSimpArgs false
open Go Go.RowKit Go.Extern.Stop Go.Stop Go.Extern Go.ChangeShapes Go.WideShapes Go.ChangeAt
theorem gErr : Tryd.prog.globalNamed "loop.example/g01362/impl.errNoSizes" = some 0 := by kernel_rfl
theorem gErrT : (Tryd.prog.globals[0]?).map (·.type) = some 107 := by kernel_rfl
theorem gSize : Tryd.prog.globals.size = 1 := by kernel_rfl
theorem isTypeOf (v : Value) (w : World) : (Extern.ReflectliteType.typeOf #[.iface 147 v]).run Tryd.prog w = .ok (.iface 131 (.agg #[.pointer (some ⟨1, 147, none⟩)])) w := by kernel_rfl
def entry82 : Array Value → Sem Value := Extern.ReflectliteType.method fun t => do Extern.Rtype.noPackHeld "Comparable" t; pure (.bool (← typeInfo t).comparable)
theorem isComparable (w : World) : (entry82 #[.agg #[.pointer (some ⟨1, 147, none⟩)]]).run Tryd.prog w = .ok (.bool true) w := by kernel_rfl
theorem isMethodComparable (v : Value) (w : World) : (Go.method 284 131 v "Comparable").run Tryd.prog w = .ok (133, v) w := by kernel_rfl
theorem isComp : (Tryd.prog.info? 147).map (·.comparable) = some true := by kernel_rfl
theorem isSize : (Tryd.prog.info? 172).map (·.size) = some 1 := by kernel_rfl
set_option maxRecDepth 100000 in
/-- errors.Is(x, x), x a pointer to an errors.errorString. -/
theorem is_same (a : Addr) (w : World) :
    Calls Tryd.prog 90 #[.iface 147 (.pointer (some a)), .iface 147 (.pointer (some a))] w fun e w' => e = .returned (.bool true) ∧ w' = w := by
  obtain ⟨i, hi, hcmp⟩ := Option.map_eq_some_iff.1 isComp
  obtain ⟨j, hj, hjs⟩ := Option.map_eq_some_iff.1 isSize
  have h8 := @run_callFunc_extern Tryd.prog 106 _ Extern.ReflectliteType.typeOf Tryd.func106 (by kernel_rfl) (by kernel_rfl) (by kernel_rfl) (by kernel_rfl)
  have h32 := @run_callFunc_extern Tryd.prog 133 _ entry82 Tryd.func133 (by kernel_rfl) (by kernel_rfl) (by kernel_rfl) (by kernel_rfl)
  have tT := isTypeOf
  have cT := isComparable
  have mR := isMethodComparable
  have heq := run_eql_iface_ptr_same (P := Tryd.prog) w a Tryd.underlying107 Tryd.underlying147 hi hcmp hj
  go_enter Tryd.func90, Tryd.ntmps90
  go_wp2
  refine wp_loop_rounds 1 ?_
  rw [rounds_succ]
  go_wp2
  go_ret
  exact ⟨rfl, rfl⟩
/-- The sentinel lies where the program's text lays it. -/
def Er (w : World) (a : Addr) : Prop := w.cell? ⟨0, 0, none⟩ = some (.iface 147 (.pointer (some a)))
theorem Er.lt {w : World} {a : Addr} (h : Er w a) : 0 < w.heap.size := World.block_lt_of_cell? w _ h
theorem Er.below {w w' : World} {a : Addr} (h : Er w a) {B : Nat} (hb : Below B w w') (hB : 0 < B) : Er w' a := by
  unfold Er; rw [hb.cell (p := ⟨0, 0, none⟩) hB]; exact h
theorem errStar : "*" ++ "errors.errorString" = "*errors.errorString" := by decide
theorem rowErr : ∀ u, Tryd.prog.typeName? 3 u = some "*errors.errorString" → u = 147 := by
  intro u hu
  exact typeName_ptr_named (nm := "errors.errorString") (by rw [errStar]; kernel_rfl) (by kernel_rfl) (by decide) u (by rw [errStar]; exact hu)
theorem er_of {W : World} (h : laidMetH Tryd.prog [("loop.example/g01362/impl.errNoSizes", Rows.laid_loop_example_g01362_impl_errNoSizes)] W) : ∃ a, Er W a := by
  obtain ⟨a, s, hv, _, _, _⟩ := laid_sentinel (r := []) (nm := "*errors.errorString") h gErr gErrT Tryd.underlying107 rowErr Tryd.underlying147 Tryd.underlying172 rfl rfl Tryd.underlying9 (by kernel_rfl) (by kernel_rfl)
  exact ⟨a, World.var?_cell gErr hv 0⟩
end Go.Proofs.YtckffliiidgilaaDoor
/- enterBound and what it calls: the door that turns the one panic into ErrRange. -/
namespace Go.Proofs.YtckffliiidgilaaDoor
set_option linter.unusedVariables false
set_option linter.unusedSimpArgs false
open Go Go.RowKit Go.Extern.Stop Go.Stop Go.Extern
/-- The panic of the door. -/
def pan (a : Addr) : List PanicEntry := [{ v := .iface 147 (.pointer (some a)), recovered := false }]
theorem within53 (n lo hi : Int) (w : World) : Calls Tryd.prog 62 #[.int .i64 n, .int .i64 lo, .int .i64 hi] w fun e w' => e = .returned (.bool (inB n lo hi)) ∧ w = w' := by
  go_enter Tryd.func62, Tryd.ntmps62
  by_cases h1 : lo ≤ n
  · by_cases h2 : n ≤ hi
    · rw [inB_yes h1 h2]
      go_wp2
      go_ret
      exact ⟨rfl, rfl⟩
    · rw [inB_no (by omega)]
      go_wp2
      go_ret
      exact ⟨rfl, rfl⟩
  · rw [inB_no (by omega)]
    go_wp2
    go_ret
    exact ⟨rfl, rfl⟩
theorem asE (v : Value) (xT : TypeId) (w : World) : (Instr.typeAssert (.iface 147 v) xT 107 true).run Tryd.prog w = .ok (.tuple #[.iface 147 v, .bool true]) w := run_typeAssert_hasB Tryd.underlying107 (by kernel_rfl) v xT w
theorem asNil (w : World) : (Instr.typeAssert .nilIface 20 107 true).run Tryd.prog w = .ok (.tuple #[.nilIface, .bool false]) w := by kernel_rfl
theorem tm51 (p a b c d e f g : Value) : #[p] ++ (((((((Array.replicate 13 undef).setIfInBounds 3 a).setIfInBounds 4 b).setIfInBounds 2 c).setIfInBounds 5 d).setIfInBounds 6 e).setIfInBounds 0 f).setIfInBounds 1 g = #[p, f, g, c, a, b, d, e, undef, undef, undef, undef, undef, undef] := by apply Array.ext'; simp [List.replicate, List.set]
end Go.Proofs.YtckffliiidgilaaDoor
/- enterBound by the contract of what it enters; mustBeWithin. -/
namespace Go.Proofs.YtckffliiidgilaaDoor
set_option linter.unusedVariables false
set_option linter.unusedSimpArgs false
open Go Go.RowKit
/-- All numbers of a list lie in a range. -/
def inAll (lo hi : Int) (zs : List Int) : Bool := zs.all fun z => inB z lo hi
theorem inAll_no {lo hi : Int} {zs : List Int} {j : Nat} (hj : j < zs.length) (h : inB (zs.getD j 0) lo hi = false) : inAll lo hi zs = false := by
  simp only [inAll, List.all_eq_false]
  refine ⟨zs[j], List.getElem_mem hj, ?_⟩
  have e : zs.getD j 0 = zs[j] := by simp [List.getD, hj]
  rw [e] at h; simp [h]
theorem inAll_yes {lo hi : Int} {zs : List Int} (h : ∀ j, j < zs.length → inB (zs.getD j 0) lo hi = true) : inAll lo hi zs = true := by
  simp only [inAll, List.all_eq_true]
  intro z hz
  obtain ⟨j, hj, rfl⟩ := List.getElem_of_mem hz
  have e : zs.getD j 0 = zs[j] := by simp [List.getD, hj]
  rw [← e]; exact h j hj
end Go.Proofs.YtckffliiidgilaaDoor

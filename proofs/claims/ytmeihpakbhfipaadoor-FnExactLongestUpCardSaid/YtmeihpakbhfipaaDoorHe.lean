/- My texts Go, Tri, TriC, CtSp, GoList, AvSp, in one. -/
import Derived.Test.YtmeihpakbhfipaaDoorHd
import Derived.Deep.RegionHeld2
import Derived.Maps.AppendAt
/- l02Go: the cliques of m points that begin with some points, put to a list of lists. -/
namespace Go.Proofs.YtmeihpakbhfipaaDoor
set_option linter.unusedVariables false
set_option linter.unusedSimpArgs false
open Go Go.RowKit Go.Shelf
/-- A list of numbers in a block from its first cell on. -/
def BgL (w : World) (a : Option Addr) (zs : List Int) : Prop :=
  ∃ g C, a = some ⟨g, 0, none⟩ ∧ Blk w g C 2 ∧ zs.length ≤ C.size ∧ ∀ j, j < zs.length → C[j]? = some (.int .i64 (zs.getD j 0))
theorem BgL.below {w w' : World} {B : Nat} {a : Option Addr} {zs : List Int} (h : BgL w a zs) (hb : Below B w w') (hB : w.heap.size ≤ B) : BgL w' a zs := by
  obtain ⟨g, C, h1, h2, h3⟩ := h
  exact ⟨g, C, h1, h2.below hb (Nat.lt_of_lt_of_le h2.lt hB), h3⟩
theorem OwnL.grown {w w' : World} {row : Option Nat} {B : Nat} {a : Option Addr} {zs : List Int} (h : OwnL w B a zs) (hg : w.grownBy w' row) (hr : ∀ r, row = some r → ∃ C, Blk w r C 25) : OwnL w' B a zs := by
  rcases h with h | ⟨g, C, h1, h2, h3, h4⟩
  · exact .inl h
  · refine .inr ⟨g, C, h1, h2, (hg.block g h3.lt (fun e => ?_)).trans h3, h4⟩
    obtain ⟨C', hC'⟩ := hr g e.symm
    unfold Blk at h3 hC'
    rw [hC'] at h3
    cases h3
theorem BgL.grown {w w' : World} {row : Option Nat} {a : Option Addr} {zs : List Int} (h : BgL w a zs) (hg : w.grownBy w' row) (hr : ∀ r, row = some r → ∃ C, Blk w r C 25) : BgL w' a zs := by
  obtain ⟨g, C, h1, h3, h4⟩ := h
  refine ⟨g, C, h1, (hg.block g h3.lt (fun e => ?_)).trans h3, h4⟩
  obtain ⟨C', hC'⟩ := hr g e.symm
  unfold Blk at h3 hC'
  rw [hC'] at h3
  cases h3
theorem BgL.own {w : World} {a : Option Addr} {zs : List Int} (h : BgL w a zs) : OwnL w 0 a zs := by
  obtain ⟨g, C, h1, h3, h4, h5⟩ := h
  exact .inr ⟨g, C, Nat.zero_le _, h1, h3, h4, h5⟩
theorem BgL.ofOwn {w : World} {B : Nat} {a : Option Addr} {zs : List Int} (h : OwnL w B a zs) (hz : zs ≠ []) : BgL w a zs := by
  rcases h with h | ⟨g, C, _, h2, h3, h4, h5⟩
  · exact absurd h hz
  · exact ⟨g, C, h2, h3, h4, h5⟩
/-- A list of lists. -/
def LL (w : World) (v : Value) (L : List (List Int)) : Prop :=
  ∃ xs, w.ownsRow 0 25 1 v L.length xs ∧ ∀ (i : Nat) (zs : List Int), L[i]? = some zs → ∃ a cap, xs[i]? = some (Value.slice a zs.length cap) ∧ OwnL w 0 a zs
theorem LL.row {w : World} {v : Value} {L : List (List Int)} (h : LL w v L) : ∀ r, v.ownBlock = some r → ∃ C, Blk w r C 25 := by
  obtain ⟨xs, h1, h2⟩ := h
  intro r hr
  obtain ⟨_, h | ⟨g, cap, cur, hv, hg, hc, _⟩⟩ := h1
  · rw [h.1] at hr; cases hr
  · rw [hv] at hr; cases hr; exact ⟨cur, hc⟩
theorem LL.shape {w : World} {v : Value} {L : List (List Int)} (h : LL w v L) : ∃ a cap, v = .slice a L.length cap := by
  obtain ⟨xs, ⟨_, h | ⟨g, cap, cur, hv, _⟩⟩, _⟩ := h
  · exact ⟨none, 0, by rw [h.1, h.2]⟩
  · exact ⟨_, _, hv⟩
theorem LL.below {w w' : World} {v : Value} {L : List (List Int)} (h : LL w v L) (hb : Below w.heap.size w w') : LL w' v L := by
  obtain ⟨xs, h1, h2⟩ := h
  refine ⟨xs, own_below h1 hb (Nat.le_refl _), fun i zs hi => ?_⟩
  obtain ⟨a, cap, h3, h4⟩ := h2 i zs hi
  exact ⟨a, cap, h3, h4.below hb (Nat.le_refl _)⟩
/-- What may turn: the list's own block. -/
def Fr (w w' : World) (v v' : Value) : Prop := w.grownBy w' v.ownBlock ∧ ∀ r, v'.ownBlock = some r → w.heap.size ≤ r ∨ v.ownBlock = some r
theorem Fr.refl (w : World) (v : Value) : Fr w w v v := ⟨World.grownBy.refl _ _, fun r h => .inr h⟩
theorem Fr.trans {w w1 w2 : World} {v v1 v2 : Value} (h : Fr w w1 v v1) (k : Fr w1 w2 v1 v2) : Fr w w2 v v2 :=
  ⟨h.1.andThen k.1 h.2, fun r hr => by
    rcases k.2 r hr with h3 | h3
    · exact .inl (Nat.le_trans h.1.size h3)
    · exact h.2 r h3⟩
theorem below_grown {w w' : World} (h : Below w.heap.size w w') (row : Option Nat) : w.grownBy w' row := ⟨h.os, h.tape, h.output, h.size, fun k hk _ => h.block k hk⟩
theorem Fr.below {w w' : World} (h : Below w.heap.size w w') (v : Value) : Fr w w' v v := ⟨below_grown h _, fun r h => .inr h⟩
theorem LL.push {w w' : World} {v v' : Value} {L : List (List Int)} {a : Option Addr} {cap : Nat} {zs : List Int} {xs : List Value} (hx : ∀ (i : Nat) (ys : List Int), L[i]? = some ys → ∃ a cap, xs[i]? = some (Value.slice a ys.length cap) ∧ OwnL w 0 a ys) (hxl : xs.length = L.length)
    (hr : ∀ r, v.ownBlock = some r → ∃ C, Blk w r C 25) (hg : w.grownBy w' v.ownBlock) (ho : OwnL w 0 a zs) (h' : w'.ownsRow 0 25 1 v' (L.length + 1) (xs ++ [Value.slice a zs.length cap])) : LL w' v' (L ++ [zs]) := by
  refine ⟨xs ++ [Value.slice a zs.length cap], by rw [List.length_append]; exact h', fun i ys hi => ?_⟩
  by_cases hl : i < L.length
  · rw [List.getElem?_append_left hl] at hi
    obtain ⟨a', c', h1, h2⟩ := hx i ys hi
    exact ⟨a', c', by rw [List.getElem?_append_left (by omega)]; exact h1, h2.grown hg hr⟩
  · have hi' : i = L.length := by
      have := (List.getElem?_eq_some_iff.1 hi).1
      simp at this; omega
    subst hi'
    rw [List.getElem?_append_right (Nat.le_refl _)] at hi
    simp at hi
    subst hi
    exact ⟨a, cap, by rw [List.getElem?_append_right (by omega)]; simp [hxl], ho.grown hg hr⟩
theorem BgL.cell {w : World} {g : Nat} {zs : List Int} (h : BgL w (some ⟨g, 0, none⟩) zs) {j : Nat} (hj : j < zs.length) {x : Int} (hx : zs.getD j 0 = x) : w.cell? ⟨g, j, none⟩ = some (.int .i64 x) := by
  obtain ⟨g', C, h1, h2, h3, h4⟩ := h
  cases h1
  rw [← hx]
  exact h2.cell (h4 j hj)
theorem info25 : (Tryd.prog.info? 25).map (fun i => (i.zero, i.size, i.bytes)) = some (some (.slice none 0 0), 1, 24) := by kernel_rfl
end Go.Proofs.YtmeihpakbhfipaaDoor
/- Triangles of one colour: the program's sum (by the greatest point) and the model's (by the least) are equal. Nothing of the program. -/
namespace Go.Proofs.YtmeihpakbhfipaaDoor
set_option linter.unusedVariables false
set_option linter.unusedSimpArgs false
theorem sm_ext {f g : Nat → Nat} (m : Nat) (h : ∀ j, j < m → f j = g j) : sm f m = sm g m := sm_congr m h
theorem sm_cut (f : Nat → Nat) : ∀ (d m : Nat), sm f m = sm (fun i => if i < m then f i else 0) (m + d)
  | 0, m => sm_congr m fun j hj => by rw [if_pos hj]
  | d + 1, m => by
    rw [show m + (d + 1) = (m + d) + 1 by omega, sm, ← sm_cut f d m, if_neg (by omega)]
    rfl
theorem sm_cut' (f : Nat → Nat) {m N : Nat} (h : m ≤ N) : sm f m = sm (fun i => if i < m then f i else 0) N := by
  have := sm_cut f (N - m) m
  rwa [show m + (N - m) = N by omega] at this
theorem sm_if (c : Prop) [Decidable c] (f : Nat → Nat) (N : Nat) : (if c then sm f N else 0) = sm (fun i => if c then f i else 0) N := by
  split
  · rfl
  · exact (sm_zero N).symm
/-- Triples p < q < r by the greatest, then the middle one. -/
def triHi (t : Nat → Nat → Nat → Nat) (N : Nat) : Nat := sm (fun r => sm (fun q => sm (fun p => t p q r) q) r) N
/-- The same by the least, then the middle one. -/
def triLo (t : Nat → Nat → Nat → Nat) (N : Nat) : Nat := sm (fun p => sm (fun q => if p < q then sm (fun r => if q < r then t p q r else 0) N else 0) N) N
theorem tri_eq (t : Nat → Nat → Nat → Nat) (N : Nat) : triHi t N = triLo t N := by
  have h1 : triHi t N = sm (fun r => sm (fun q => sm (fun p => if q < r then (if p < q then t p q r else 0) else 0) N) N) N := by
    refine sm_congr N fun r hr => ?_
    show sm (fun q => sm (fun p => t p q r) q) r = _
    rw [sm_cut' _ (Nat.le_of_lt hr)]
    refine sm_congr N fun q hq => ?_
    rw [sm_cut' (fun p => t p q r) (Nat.le_of_lt hq), sm_if]
  have h2 : triLo t N = sm (fun p => sm (fun q => sm (fun r => if q < r then (if p < q then t p q r else 0) else 0) N) N) N := by
    refine sm_congr N fun p hp => sm_congr N fun q hq => ?_
    show (if p < q then sm (fun r => if q < r then t p q r else 0) N else 0) = _
    rw [sm_if]
    refine sm_congr N fun r hr => ?_
    by_cases ha : p < q <;> by_cases hb : q < r <;> simp [ha, hb]
  rw [h1, h2, sm_swap (fun r q => sm (fun p => if q < r then (if p < q then t p q r else 0) else 0) N) N N]
  rw [sm_congr N (g := fun q => sm (fun p => sm (fun r => if q < r then (if p < q then t p q r else 0) else 0) N) N) fun q hq => sm_swap (fun r p => if q < r then (if p < q then t p q r else 0) else 0) N N]
  rw [sm_swap (fun q p => sm (fun r => if q < r then (if p < q then t p q r else 0) else 0) N) N N]
end Go.Proofs.YtmeihpakbhfipaaDoor
/- Triangles counted: by the model (a point, then greater ones) and by the program (an edge, then lesser points). Nothing of the program. -/
namespace Go.Proofs.YtmeihpakbhfipaaDoor
set_option linter.unusedVariables false
set_option linter.unusedSimpArgs false
/-- A triangle of the colour c. -/
def tT (bs : List Nat) (c : Int) (p q r : Nat) : Nat := if colAt bs p q = c ∧ colAt bs p r = c ∧ colAt bs q r = c then 1 else 0
def rwN (bs : List Nat) (c : Int) (N : Nat) (p : Nat) : Nat := arK (nbB bs (p : Int) c) N
theorem nbB_ne {bs : List Nat} {c : Int} {p q : Nat} (h : p ≠ q) : nbB bs (p : Int) c q = decide (colAt bs p q = c) := by
  unfold nbB
  rw [decide_eq_true (by omega), Bool.true_and]
theorem rwN_bit {bs : List Nat} {c : Int} {N p q : Nat} (h : p ≠ q) (hq : q < N) : (rwN bs c N p).testBit q = decide (colAt bs p q = c) := by
  unfold rwN
  rw [arK_bit, decide_eq_true hq, Bool.true_and, nbB_ne h]
theorem full_bit {N p : Nat} (h : p < N) : (2 ^ N - 1).testBit p = true := by
  rw [Nat.testBit_two_pow_sub_one]; simp [h]
theorem cC_three (bs : List Nat) (c : Int) (N : Nat) : cC (rwN bs c N) N 3 (2 ^ N - 1) = triLo (tT bs c) N := by
  rw [cC_succ]
  unfold triLo
  refine sm_congr N fun p hp => ?_
  rw [cT, if_pos (full_bit hp), cC_succ]
  refine sm_congr N fun q hq => ?_
  have h1 : (hiB (2 ^ N - 1) (p + 1) &&& rwN bs c N p).testBit q = (decide (p < q) && decide (colAt bs p q = c)) := by
    rw [Nat.testBit_and, hiB_bit, full_bit hq, Bool.and_true]
    by_cases h : p < q
    · rw [rwN_bit (by omega) hq, decide_eq_true (show p + 1 ≤ q by omega), decide_eq_true h]
    · rw [decide_eq_false (show ¬ p + 1 ≤ q by omega), decide_eq_false h]; simp
  rw [cT, h1]
  by_cases h : p < q
  · rw [decide_eq_true h, Bool.true_and, if_pos h]
    by_cases hc : colAt bs p q = c
    · rw [if_pos (by simpa using hc), cC_succ]
      refine sm_congr N fun r hr => ?_
      have h2 : (hiB (hiB (2 ^ N - 1) (p + 1) &&& rwN bs c N p) (q + 1) &&& rwN bs c N q).testBit r = (decide (q < r) && (decide (colAt bs p r = c) && decide (colAt bs q r = c))) := by
        rw [Nat.testBit_and, hiB_bit, Nat.testBit_and, hiB_bit, full_bit hr, Bool.and_true]
        by_cases h' : q < r
        · rw [rwN_bit (by omega) hr, rwN_bit (by omega) hr, decide_eq_true (show q + 1 ≤ r by omega), decide_eq_true (show p + 1 ≤ r by omega), decide_eq_true h']; simp
        · rw [decide_eq_false (show ¬ q + 1 ≤ r by omega), decide_eq_false h']; simp
      rw [cT]
      have h3 : (hiB (2 ^ N - 1) (p + 1) &&& rwN bs c N p).testBit r = (decide (p < r) && decide (colAt bs p r = c)) := by
        rw [Nat.testBit_and, hiB_bit, full_bit hr, Bool.and_true]
        by_cases h' : p < r
        · rw [rwN_bit (by omega) hr, decide_eq_true (show p + 1 ≤ r by omega), decide_eq_true h']
        · rw [decide_eq_false (show ¬ p + 1 ≤ r by omega), decide_eq_false h']; simp
      show (if (hiB (hiB (2 ^ N - 1) (p + 1) &&& rwN bs c N p) (q + 1) &&& rwN bs c N q).testBit r = true then cC (rwN bs c N) N 0 _ else 0) = _
      rw [h2]
      unfold tT
      rw [show cC (rwN bs c N) N 0 (hiB (hiB (hiB (2 ^ N - 1) (p + 1) &&& rwN bs c N p) (q + 1) &&& rwN bs c N q) (r + 1) &&& rwN bs c N r) = 1 from rfl]
      by_cases h' : q < r
      · rw [if_pos h', decide_eq_true h', Bool.true_and]
        by_cases c1 : colAt bs p r = c <;> by_cases c2 : colAt bs q r = c <;> simp [hc, c1, c2]
      · rw [if_neg h', decide_eq_false h', Bool.false_and]; rfl
    · rw [if_neg (by simpa using hc)]
      refine (sm_zero' N fun r hr => ?_).symm
      unfold tT
      split
      · rw [if_neg (fun e => hc e.1)]
      · rfl
  · rw [decide_eq_false h, Bool.false_and, if_neg h]; rfl
/-- What an edge adds, with the lesser points below m. -/
def teF (bs : List Nat) (c : Int) (lo hi : Nat) (p : Nat) : Nat := if colAt bs p lo = c ∧ colAt bs p hi = c then 1 else 0
def teS (bs : List Nat) (c : Int) (t : Nat × Nat × Nat) : Nat := if ((bs.getD t.1 0 : Nat) : Int) = c then sm (teF bs c t.2.1 t.2.2) t.2.1 else 0
def teC (bs : List Nat) (l : List (Nat × Nat × Nat)) (c : Nat) : Nat := l.foldr (fun t s => teS bs (c : Int) t + s) 0
theorem teC_app (bs : List Nat) (c : Nat) : ∀ (a b : List (Nat × Nat × Nat)), teC bs (a ++ b) c = teC bs a c + teC bs b c
  | [], b => by simp [teC]
  | t :: a, b => by
    have := teC_app bs c a b
    unfold teC at *
    rw [List.cons_append, List.foldr_cons, List.foldr_cons, this]; omega
theorem teC_snoc (bs : List Nat) (l : List (Nat × Nat × Nat)) (t : Nat × Nat × Nat) (c : Nat) : teC bs (l ++ [t]) c = teC bs l c + teS bs (c : Int) t := by
  rw [teC_app]; simp [teC]
theorem teC_row (bs : List Nat) (c h : Nat) : ∀ l, teC bs (rowE h l) c = sm (fun q => teS bs (c : Int) (eN h + q, q, h)) l
  | 0 => rfl
  | l + 1 => by rw [rowE_succ, teC_snoc, teC_row bs c h l]; rfl
theorem teC_seq (bs : List Nat) (c : Nat) : ∀ h, teC bs (eseq h) c = sm (fun r => sm (fun q => teS bs (c : Int) (eN r + q, q, r)) r) h
  | 0 => rfl
  | h + 1 => by rw [eseq, teC_app, teC_seq bs c h, teC_row]; rfl
theorem teS_tri (bs : List Nat) (c : Int) {q r : Nat} (h : q < r) : teS bs c (eN r + q, q, r) = sm (fun p => tT bs c p q r) q := by
  unfold teS
  show (if ((bs.getD (eN r + q) 0 : Nat) : Int) = c then sm (teF bs c q r) q else 0) = _
  rw [← colAt_eN bs h, sm_if]
  refine sm_congr q fun p hp => ?_
  unfold tT teF
  by_cases c1 : colAt bs (q : Int) (r : Int) = c <;> by_cases c2 : colAt bs (p : Int) (q : Int) = c <;> by_cases c3 : colAt bs (p : Int) (r : Int) = c <;> simp [c1, c2, c3]
theorem teC_hi (bs : List Nat) (c N : Nat) : teC bs (eseq N) c = triHi (tT bs (c : Int)) N := by
  rw [teC_seq]
  unfold triHi
  exact sm_congr N fun r hr => sm_congr r fun q hq => teS_tri bs (c : Int) hq
theorem teC_cC (bs : List Nat) (c N : Nat) : teC bs (eseq N) c = cC (rwN bs (c : Int) N) N 3 (2 ^ N - 1) := by rw [teC_hi, tri_eq, cC_three]
theorem teS_le (bs : List Nat) (c : Int) (t : Nat × Nat × Nat) : teS bs c t ≤ t.2.1 := by
  unfold teS
  split
  · have := sm_le (f := teF bs c t.2.1 t.2.2) (B := 1) t.2.1 (fun j _ => by unfold teF; split <;> omega)
    omega
  · omega
/-- The counts on their way: the edges that have come, and of the next one the lesser points below m. -/
def teP (bs : List Nat) (l : List (Nat × Nat × Nat)) (t : Nat × Nat × Nat) (m : Nat) (c : Nat) : Nat := teC bs l c + (if ((bs.getD t.1 0 : Nat) : Int) = c then sm (teF bs c t.2.1 t.2.2) m else 0)
theorem teP_zero (bs : List Nat) (l : List (Nat × Nat × Nat)) (t : Nat × Nat × Nat) (c : Nat) : teP bs l t 0 c = teC bs l c := by
  unfold teP; split <;> simp [sm]
theorem teP_done (bs : List Nat) (l : List (Nat × Nat × Nat)) (t : Nat × Nat × Nat) (c : Nat) : teP bs l t t.2.1 c = teC bs (l ++ [t]) c := by
  rw [teC_snoc]; rfl
theorem teP_step (bs : List Nat) (l : List (Nat × Nat × Nat)) (t : Nat × Nat × Nat) (m c : Nat) : teP bs l t (m + 1) c = teP bs l t m c + (if ((bs.getD t.1 0 : Nat) : Int) = c ∧ colAt bs m t.2.1 = c ∧ colAt bs m t.2.2 = c then 1 else 0) := by
  unfold teP
  by_cases h : ((bs.getD t.1 0 : Nat) : Int) = c
  · rw [if_pos h, if_pos h, sm]
    unfold teF
    by_cases hh : colAt bs (m : Int) (t.2.1 : Int) = c ∧ colAt bs (m : Int) (t.2.2 : Int) = c
    · rw [if_pos hh, if_pos ⟨h, hh⟩]; omega
    · rw [if_neg hh, if_neg (fun e => hh e.2)]; omega
  · rw [if_neg h, if_neg h, if_neg (fun e => h e.1)]
end Go.Proofs.YtmeihpakbhfipaaDoor
/- CountTriangles: its model. -/
namespace Go.Proofs.YtmeihpakbhfipaaDoor
set_option linter.unusedVariables false
set_option linter.unusedSimpArgs false
open Go Go.RowKit Go.Shelf
def ctF (bs : List Nat) (N c : Nat) : Nat := cC (rwN bs (c : Int) N) N 3 (2 ^ N - 1)
def ctList (n k : Int) (bs : List Nat) : List Int := if isCol n k bs then dgL k.toNat (ctF bs n.toNat) else []
theorem fillA_get' {f : Nat → Int} {d j : Nat} (h : j < d) : (fillA f d).getD j 0 = f j := by
  induction d with
  | zero => omega
  | succ d ih =>
    rw [fillA_snoc, List.getD_eq_getElem?_getD]
    by_cases e : j = d
    · subst e; rw [List.getElem?_append_right (by rw [fillA_len]; omega), fillA_len]; simp
    · rw [List.getElem?_append_left (by rw [fillA_len]; omega), ← List.getD_eq_getElem?_getD, ih (by omega)]
theorem rows_rws {N : Nat} (hN : N ≤ 17) (bs : List Nat) (c : Int) : Rws N (rwN bs c N) (fillA (rowF N bs c) N) :=
  ⟨fillA_len _ _, fun p hp => by rw [fillA_get' hp]; rfl, fun p hp => Nat.lt_of_lt_of_le (arK_lt _ _) (Nat.pow_le_pow_right (by omega) hN)⟩
def RelCt (N : Nat) (bs : List Nat) (C : Array Value) (w : World) (d : Nat) (v : Value) (wr : World) : Prop :=
  Blk wr w.heap.size C 28 ∧ wr.ownsRow (w.heap.size + 1) 2 1 v (dgL d (ctF bs N)).length (icells (dgL d (ctF bs N))) ∧ Below w.heap.size w wr
theorem ctF_le (bs : List Nat) {N : Nat} (hN : N ≤ 17) (c : Nat) : ctF bs N c ≤ 4913 := by have := cC_le (R := rwN bs (c : Int) N) hN 3 (2 ^ N - 1); unfold ctF; omega
theorem full_int {N : Nat} (hN : N ≤ 17) : wrap64 (2 ^ N) - 1 = ((2 ^ N - 1 : Nat) : Int) := by
  have h2 : 2 ^ N ≤ 2 ^ 17 := Nat.pow_le_pow_right (by omega) hN
  have h3 : 1 ≤ 2 ^ N := Nat.one_le_two_pow
  have e : (2 : Int) ^ N = ((2 ^ N : Nat) : Int) := by simp
  rw [e]
  generalize 2 ^ N = y at *
  rw [IntWalk.wrap64_in _ ⟨by omega, by omega⟩]; omega
theorem load_row {w : World} {b : Nat} {n k : Int} {bs : List Nat} (hb : Bys bs) (h : Blk w b (ccells n k bs).toArray 28) :
    (Instr.loadAt 28 (.pointer (some ⟨b, 0, none⟩))).run Tryd.prog w = .ok (.agg (ccells n k bs).toArray) w :=
  run_loadAt_mid w b 0 28 (ccells n k bs) _ (h.range 0 _ (fun j v hj => by simpa using hj)) Tryd.underlying28 rfl (by rw [size_c26 n k hb]; simp)
end Go.Proofs.YtmeihpakbhfipaaDoor
/- l02List: the cliques of m points, in order, but not more than told. -/
namespace Go.Proofs.YtmeihpakbhfipaaDoor
set_option linter.unusedVariables false
set_option linter.unusedSimpArgs false
open Go Go.RowKit Go.Shelf
theorem rwN_irr (bs : List Nat) (c : Int) (N : Nat) : ∀ q, (rwN bs c N q).testBit q = false := fun q => by
  unfold rwN nbB
  rw [arK_bit]; simp
theorem frB_full (R : Nat → Nat) (N : Nat) : frB R N [] N = 2 ^ N - 1 := by
  apply Nat.eq_of_testBit_eq
  intro q
  rw [Nat.testBit_two_pow_sub_one]
  by_cases h : q < N
  · rw [frB_bit h]; simp [h, fitR]
  · unfold frB; rw [arK_high (by omega)]; simp [h]
/-- The cliques of m points of a colour, as lists. -/
def clqL (bs : List Nat) (c : Int) (N m : Nat) : List (List Int) := cqH (rwN bs c N) N m N []
theorem blk_ne28 {W : World} {a b : Nat} {C D : Array Value} (h : Blk W a C 28) (k : Blk W b D 25) : a ≠ b := fun e => by
  subst e
  unfold Blk at h k
  rw [h] at k
  cases k
theorem bg_empty {w : World} {b : Nat} (h : Blk w b #[] 2) : BgL w (some ⟨b, 0, none⟩) (rv []) := ⟨b, #[], rfl, h, by simp [rv], fun j hj => by simp [rv] at hj⟩
theorem ll_empty {w : World} {b : Nat} (h : Blk w b #[] 25) : LL w (.slice (some ⟨b, 0, none⟩) 0 0) [] := ⟨[], ⟨rfl, .inr ⟨b, 0, #[], rfl, Nat.zero_le _, h, Nat.le_refl _, by simp [maxLen], rfl, rfl⟩⟩, fun i zs h => by simp at h⟩
end Go.Proofs.YtmeihpakbhfipaaDoor
/- AvoidsSizes: its model. -/
namespace Go.Proofs.YtmeihpakbhfipaaDoor
set_option linter.unusedVariables false
set_option linter.unusedSimpArgs false
open Go Go.RowKit Go.Shelf
theorem cell_below {w w' : World} {p : Addr} {v : Value} (h : w.cell? p = some v) (hb : Below w.heap.size w w') : w'.cell? p = some v := by
  rw [World.cell?_of_block (hb.block _ (World.block_lt_of_cell? w p h))]; exact h
def szP (zs : List Int) (d : Nat) : Bool := (List.range d).all fun j => inB (zs.getD j 0) 1 17
theorem szP_step (zs : List Int) (d : Nat) : szP zs (d + 1) = (szP zs d && inB (zs.getD d 0) 1 17) := by simp [szP, List.range_succ]
theorem szP_get {zs : List Int} {d j : Nat} (h : szP zs d = true) (hj : j < d) : inB (zs.getD j 0) 1 17 = true := List.all_eq_true.1 h j (List.mem_range.2 hj)
theorem szP_fall {zs : List Int} {d m : Nat} (h : inB (zs.getD d 0) 1 17 = false) (hm : d < m) : szP zs m = false := by
  unfold szP
  rw [List.all_eq_false]
  exact ⟨d, List.mem_range.2 hm, by rw [h]; simp⟩
def szOk (k : Int) (zs : List Int) : Bool := decide ((zs.length : Int) = k) && szP zs zs.length
def szCode (n k : Int) (bs : List Nat) (zs : List Int) : Int := if isCol n k bs then (if szOk k zs then 0 else 2) else 1
theorem szCode_1 {n k : Int} {bs : List Nat} {zs : List Int} (h : isCol n k bs = false) : szCode n k bs zs = 1 := by simp [szCode, h]
theorem szCode_2 {n k : Int} {bs : List Nat} {zs : List Int} (h : isCol n k bs = true) (h2 : szOk k zs = false) : szCode n k bs zs = 2 := by simp [szCode, h, h2]
theorem szCode_0 {n k : Int} {bs : List Nat} {zs : List Int} (h : isCol n k bs = true) (h2 : szOk k zs = true) : szCode n k bs zs = 0 := by simp [szCode, h, h2]
/-- Is there no clique of the size of one of the first d colours? -/
def avP (N : Nat) (bs : List Nat) (zs : List Int) (d : Nat) : Bool := (List.range d).all fun c => (clqL bs (c : Int) N (zs.getD c 0).toNat).isEmpty
theorem avP_step (N : Nat) (bs : List Nat) (zs : List Int) (d : Nat) : avP N bs zs (d + 1) = (avP N bs zs d && (clqL bs (d : Int) N (zs.getD d 0).toNat).isEmpty) := by simp [avP, List.range_succ]
theorem avP_fall {N : Nat} {bs : List Nat} {zs : List Int} {d m : Nat} (h : (clqL bs (d : Int) N (zs.getD d 0).toNat).isEmpty = false) (hm : d < m) : avP N bs zs m = false := by
  unfold avP
  rw [List.all_eq_false]
  exact ⟨d, List.mem_range.2 hm, by rw [h]; simp⟩
def avB (n k : Int) (bs : List Nat) (zs : List Int) : Bool := decide (szCode n k bs zs = 0) && avP n.toNat bs zs k.toNat
end Go.Proofs.YtmeihpakbhfipaaDoor

/- The colourings that begin with one and avoid sizes, in order; what a call of 'grow' promises. -/
import Derived.Test.YtckffliiidgilaaDoorFce
namespace Go.Proofs.YtckffliiidgilaaDoor
set_option linter.unusedVariables false
set_option linter.unusedSimpArgs false
open Go Go.RowKit Go.Shelf
/-- One point more. -/
def puB (N : Nat) (bs : List Nat) (cs : List Int) : List Nat := putK bs (edg (N : Int)).toNat cs cs.length
/-- All with r points more. -/
def grL (zs : List Int) (K : Nat) : Nat → Nat → List Nat → List (List Nat)
  | 0, _, bs => [bs]
  | r + 1, N, bs => (exA bs N K zs).flatMap fun cs => grL zs K r (N + 1) (puB N bs cs)
theorem exL_rng {ok : Nat → Nat → Nat → Bool} {K N : Nat} : ∀ (r : Nat) (s : Nat → Nat) (cs : List Int), (∀ z ∈ cs, 0 ≤ z ∧ z < K) → ∀ x ∈ exL ok K N r s cs, ∀ z ∈ x, 0 ≤ z ∧ z < (K : Int)
  | 0, s, cs, h, x, hx => by rw [exL, List.mem_singleton] at hx; rw [hx]; exact h
  | r + 1, s, cs, h, x, hx => by
    rw [exL, List.mem_flatMap] at hx
    obtain ⟨c, hc, hx⟩ := hx
    rw [List.mem_range] at hc
    split at hx
    · refine exL_rng r _ _ (fun z hz => ?_) x hx
      rcases List.mem_append.1 hz with hz | hz
      · exact h z hz
      · rw [List.mem_singleton] at hz; omega
    · cases hx
theorem exA_row {bs : List Nat} {N K : Nat} {zs x : List Int} (hx : x ∈ exA bs N K zs) : x.length = N ∧ ∀ z ∈ x, 0 ≤ z ∧ z < (K : Int) :=
  ⟨by have := exL_len _ _ _ _ hx; simpa using this, exL_rng _ _ _ (by simp) x hx⟩
theorem getD_rng {cs : List Int} {K : Nat} (h : ∀ z ∈ cs, 0 ≤ z ∧ z < (K : Int)) {j : Nat} (hj : j < cs.length) : 0 ≤ cs.getD j 0 ∧ cs.getD j 0 < (K : Int) :=
  h _ (by simp [List.getD, hj])
theorem puB_bys {bs : List Nat} (hb : Bys bs) {N K : Nat} (hK : K ≤ 4) {cs : List Int} (h : ∀ z ∈ cs, 0 ≤ z ∧ z < (K : Int)) : Bys (puB N bs cs) :=
  putK_bys hb _ (fun j hj => by have := getD_rng h hj; omega) _ (Nat.le_refl _)
theorem putK_at {bs : List Nat} {E : Nat} {zs : List Int} : ∀ (m : Nat), E + m ≤ bs.length → ∀ j, (putK bs E zs m).getD j 0 = if E ≤ j ∧ j < E + m then (zs.getD (j - E) 0).toNat else bs.getD j 0
  | 0, _, j => by rw [if_neg (by omega)]; rfl
  | m + 1, h, j => by
    have hl : ∀ m, (putK bs E zs m).length = bs.length := fun m => by
      induction m with
      | zero => rfl
      | succ m ih => rw [putK, List.length_set, ih]
    rw [putK]
    by_cases e : E + m = j
    · subst e
      rw [if_pos (by omega), show E + m - E = m by omega]
      simp [List.getD, List.getElem?_set, hl, show E + m < bs.length by omega]
    · have h1 : ((putK bs E zs m).set (E + m) (zs.getD m 0).toNat).getD j 0 = (putK bs E zs m).getD j 0 := by
        simp [List.getD, List.getElem?_set, e]
      rw [h1, putK_at m (by omega) j]
      by_cases h2 : E ≤ j ∧ j < E + m
      · rw [if_pos h2, if_pos (by omega)]
      · rw [if_neg h2, if_neg (by omega)]
/-- One point more is a colouring. -/
theorem col_put {N K : Nat} {bs : List Nat} (hb : Bys bs) {cs : List Int} (hi : isCol (N : Int) (K : Int) bs = true) (hl : cs.length = N) (hc : ∀ z ∈ cs, 0 ≤ z ∧ z < (K : Int)) (hN : N < 17) : isCol ((N : Int) + 1) (K : Int) (puB N bs cs) = true := by
  obtain ⟨n1, n2, k1, k2⟩ := isCol_bd hi
  obtain ⟨hs, hg⟩ := isCol_good hi
  have hE : (edg (N : Int)).toNat = eN N := by rw [← eN_edg]; exact Int.toNat_natCast _
  have hE1 : edg ((N : Int) + 1) = ((eN N + N : Nat) : Int) := by
    have h1 := eN_edg (N + 1)
    rw [show ((N + 1 : Nat) : Int) = (N : Int) + 1 by omega] at h1
    rw [← h1]; rfl
  have h136 : eN N + N ≤ 136 := by have := eN_17 (show N + 1 ≤ 17 by omega); rw [eN] at this; exact this
  refine isCol_yes ?_ fun j hj => ?_
  · unfold shapeB at hs ⊢
    simp only [Bool.and_eq_true, decide_eq_true_eq] at hs ⊢
    omega
  · have hgj := hg j hj
    unfold puB
    rw [hE]
    have hat := putK_at (bs := bs) (E := eN N) (zs := cs) cs.length (by rw [hl, hb.len]; exact h136) j
    unfold goodAt at hgj ⊢
    rw [hat, hE1, hl]
    rw [← eN_edg] at hgj
    by_cases h1 : j < eN N
    · rw [if_pos (by omega)] at hgj
      rw [if_pos (by omega), if_neg (by omega)]; exact hgj
    · rw [if_neg (by omega)] at hgj
      by_cases h2 : j < eN N + N
      · rw [if_pos (by omega), if_pos (by omega)]
        have := getD_rng hc (show j - eN N < cs.length by omega)
        exact decide_eq_true (by omega)
      · rw [if_neg (by omega), if_neg (by omega)]; exact hgj
/-- The call of 'grow': what it promises. -/
def GrowC (zs : List Int) (K bl off cap n r : Nat) : Prop :=
  ∀ (N : Nat) (bs : List Nat) (w : World) (nb : List Nat) (B l : Nat) (J Jx : List (List Nat) → World → Prop),
    1 ≤ N → N + r = n → Bys bs → isCol (N : Int) (K : Int) bs = true → SlI w (some ⟨bl, off, none⟩) zs → bl ∈ nb → bl < w.heap.size → B ≤ w.heap.size → Stab B J → StabX B Jx →
    (∀ pre x rest W1, w.heap.size ≤ W1.heap.size → grL zs K r N bs = pre ++ x :: rest → J pre W1 → YieldAt Fence.wide 0 Tryd.prog l #[.agg (ccells (n : Int) (K : Int) x).toArray] W1 fun e W' =>
      Kx nb B W1 W' ∧ ((e = .returned (.bool true) ∧ J (pre ++ [x]) W') ∨ (e = .returned (.bool false) ∧ Jx (pre ++ [x]) W'))) →
    J [] w →
    Calls Tryd.prog 93 #[.agg (scl (N : Int) (K : Int) bs (some ⟨bl, off, none⟩) K cap).toArray, .int .i64 (n : Int), .func (.yield l) #[] #[]] w fun e W' =>
      Kx nb B w W' ∧ ((e = .returned (.bool true) ∧ J (grL zs K r N bs) W') ∨ (e = .returned (.bool false) ∧ ∃ pre x rest, grL zs K r N bs = pre ++ x :: rest ∧ Jx (pre ++ [x]) W'))
end Go.Proofs.YtckffliiidgilaaDoor

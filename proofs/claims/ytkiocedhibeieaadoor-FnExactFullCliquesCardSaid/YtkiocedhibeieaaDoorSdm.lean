/- Sides by layers. -/
import Derived.Test.YtkiocedhibeieaaDoorSdn
namespace Go.Proofs.YtkiocedhibeieaaDoor
set_option linter.unusedVariables false
set_option linter.unusedSimpArgs false
open Go Go.RowKit Go.Shelf
theorem Nbrs.c17 {N : Nat} {F : Nat → Nat} (h : Nbrs N F) {v : Nat} (hv : v < N) : cmC F 17 v = cmC F N v := cmC_congr (fun _ _ => rfl) h.lt hv h.top
/-- The layers of one parity. -/
def lyB (F : Nat → Nat) (v b : Nat) : Nat → Nat
  | 0 => 0
  | k + 1 => if k % 2 = b then lyB F v b k ||| cmL F 17 v k else lyB F v b k
theorem lyB_bit {F : Nat → Nat} {v b x : Nat} : ∀ {K}, (lyB F v b K).testBit x = true ↔ ∃ k, k < K ∧ k % 2 = b ∧ (cmL F 17 v k).testBit x = true
  | 0 => by simp [lyB]
  | K + 1 => by
    rw [lyB]
    by_cases h : K % 2 = b
    · rw [if_pos h, Nat.testBit_or, Bool.or_eq_true, lyB_bit]
      constructor
      · rintro (⟨k, h1, h2⟩ | h1)
        · exact ⟨k, by omega, h2⟩
        · exact ⟨K, by omega, h, h1⟩
      · rintro ⟨k, h1, h2, h3⟩
        by_cases e : k = K
        · subst e; exact .inr h3
        · exact .inl ⟨k, by omega, h2, h3⟩
    · rw [if_neg h, lyB_bit]
      constructor
      · rintro ⟨k, h1, h2⟩; exact ⟨k, by omega, h2⟩
      · rintro ⟨k, h1, h2, h3⟩
        by_cases e : k = K
        · subst e; exact absurd h2 h
        · exact ⟨k, by omega, h2, h3⟩
theorem lyB_lt {F : Nat → Nat} (hF : ∀ p, F p < 2 ^ 17) {v b : Nat} (hv : v < 17) (K : Nat) : lyB F v b K < 2 ^ 17 := bits_lt fun q hq => by
  obtain ⟨k, _, _, h⟩ := lyB_bit.1 hq
  exact bit_lt (cmL_lt (N := 17) hF hv k) h
/-- How many layers there are. -/
noncomputable def kE (F : Nat → Nat) (v : Nat) : Nat := by
  classical
  exact if h : ∃ K, cmL F 17 v K = 0 ∧ ∀ j, j < K → cmL F 17 v j ≠ 0 then Classical.choose h else 0
theorem kE_spec {F : Nat → Nat} (hF : ∀ p, F p < 2 ^ 17) {v : Nat} (hv : v < 17) : cmL F 17 v (kE F v) = 0 ∧ ∀ j, j < kE F v → cmL F 17 v j ≠ 0 := by
  have h := layers_end hF hv
  unfold kE
  rw [dif_pos h]
  exact Classical.choose_spec h
/-- All layers of one parity. -/
noncomputable def sdA (F : Nat → Nat) (b : Nat) (s : Nat) (cs : List Nat) : Nat := cs.foldl (fun s c => s ||| lyB F (Lib.ctz 32 c) b (kE F (Lib.ctz 32 c))) s
theorem sdA_bit {F : Nat → Nat} {b x : Nat} : ∀ (cs : List Nat) (s : Nat), (sdA F b s cs).testBit x = true ↔ s.testBit x = true ∨ ∃ c, c ∈ cs ∧ ∃ k, k < kE F (Lib.ctz 32 c) ∧ k % 2 = b ∧ (cmL F 17 (Lib.ctz 32 c) k).testBit x = true
  | [], s => by simp [sdA]
  | c :: cs, s => by
    have h := sdA_bit (F := F) (b := b) (x := x) cs (s ||| lyB F (Lib.ctz 32 c) b (kE F (Lib.ctz 32 c)))
    rw [show sdA F b s (c :: cs) = sdA F b (s ||| lyB F (Lib.ctz 32 c) b (kE F (Lib.ctz 32 c))) cs from rfl, h, Nat.testBit_or, Bool.or_eq_true, lyB_bit]
    constructor
    · rintro ((h1 | h1) | ⟨d, h1, h2⟩)
      · exact .inl h1
      · exact .inr ⟨c, by simp, h1⟩
      · exact .inr ⟨d, by simp [h1], h2⟩
    · rintro (h1 | ⟨d, h1, h2⟩)
      · exact .inl (.inl h1)
      · rcases List.mem_cons.1 h1 with rfl | h1
        · exact .inl (.inr h2)
        · exact .inr ⟨d, h1, h2⟩
theorem mps_mem {F : Nat → Nat} {N : Nat} : ∀ d p met s, p + d = N → s ∈ mps F N d p met → ∃ v, v < N ∧ s = cmC F N v
  | 0, p, met, s, hp, h => by simp [mps] at h
  | d + 1, p, met, s, hp, h => by
    rw [mps] at h
    split at h
    · exact mps_mem d (p + 1) met s (by omega) h
    · rcases List.mem_cons.1 h with rfl | h
      · exact ⟨p, by omega, rfl⟩
      · exact mps_mem d (p + 1) _ s (by omega) h
theorem mps_cover {F : Nat → Nat} {N : Nat} : ∀ d p met x, p + d = N → (∀ q, q < p → met.testBit q = true) → x < N → met.testBit x = true ∨ ∃ s, s ∈ mps F N d p met ∧ s.testBit x = true
  | 0, p, met, x, hp, hm, hx => .inl (hm x (by omega))
  | d + 1, p, met, x, hp, hm, hx => by
    rw [mps]
    by_cases h : met.testBit p = true
    · rw [if_pos h]
      exact mps_cover d (p + 1) met x (by omega) (fun q hq => by
        by_cases e : q = p
        · subst e; exact h
        · exact hm q (by omega)) hx
    · rw [if_neg h]
      rcases mps_cover (F := F) d (p + 1) (met ||| cmC F N p) x (by omega) (fun q hq => by
        rw [Nat.testBit_or]
        by_cases e : q = p
        · subst e; rw [show (cmC F N q).testBit q = true from cmC_own]; simp
        · rw [hm q (by omega)]; rfl) hx with h1 | ⟨s, h1, h2⟩
      · rw [Nat.testBit_or, Bool.or_eq_true] at h1
        rcases h1 with h1 | h1
        · exact .inl h1
        · exact .inr ⟨_, by simp, h1⟩
      · exact .inr ⟨s, by simp [h1], h2⟩
/-- What is reached by the layers up to k. -/
theorem cmP_bit {F : Nat → Nat} (hF : ∀ p, F p < 2 ^ 17) {v : Nat} (hv : v < 17) {x : Nat} : ∀ k, (cmP F 17 v k).testBit x = true → ∃ j, j < k ∧ (cmL F 17 v j).testBit x = true
  | 0, h => by simp [cmP] at h
  | k + 1, h => by
    rw [← cmP_or (N := 17) hF hv k, Nat.testBit_or, Bool.or_eq_true] at h
    rcases h with h | h
    · obtain ⟨j, h1, h2⟩ := cmP_bit hF hv k h
      exact ⟨j, by omega, h2⟩
    · exact ⟨k, by omega, h⟩
theorem layer_at {F : Nat → Nat} (hF : ∀ p, F p < 2 ^ 17) {v : Nat} (hv : v < 17) {x : Nat} (hx : (cmC F 17 v).testBit x = true) : ∃ k, k < kE F v ∧ (cmL F 17 v k).testBit x = true := by
  have h := kE_spec hF hv
  rw [← cmP_end hF hv h.1] at hx
  exact cmP_bit hF hv _ hx
theorem layer_back {F : Nat → Nat} {v k x : Nat} (hx : (cmL F 17 v (k + 1)).testBit x = true) : ∃ y, y < 17 ∧ (cmL F 17 v k).testBit y = true ∧ (F y).testBit x = true := by
  rw [← cmL_next] at hx
  have h1 : (arU F (cmL F 17 v k) 17).testBit x = true := by
    unfold adn at hx
    rw [BitVec.toNat_and, Nat.testBit_and, Bool.and_eq_true] at hx
    have h2 := hx.1
    rw [BitVec.toNat_ofNat, Nat.testBit_mod_two_pow, Bool.and_eq_true] at h2
    exact h2.2
  obtain ⟨y, h2, h3, h4⟩ := arU_bit.1 h1
  exact ⟨y, h2, h3, h4⟩
/-- The program's components of N points. -/
def cpN (N : Nat) (F : Nat → Nat) : List Nat := cpl F (2 ^ N - 1)
theorem Nbrs.comps {N : Nat} {F : Nat → Nat} (h : Nbrs N F) : cpN N F = mps F N N 0 0 :=
  cpl_mps h.top (fun v hv => h.c17 hv) N 0 0 _ (by omega) (fun q => all_bit N q) (fun q hq => absurd hq (by omega))
theorem Nbrs.comp_mem {N : Nat} {F : Nat → Nat} (h : Nbrs N F) {c : Nat} (hc : c ∈ cpN N F) : ∃ v, v < N ∧ c = cmC F N v := mps_mem N 0 0 c (by omega) (h.comps ▸ hc)
theorem Nbrs.comp_at {N : Nat} {F : Nat → Nat} (h : Nbrs N F) {x : Nat} (hx : x < N) : cmC F N x ∈ cpN N F := by
  rcases mps_cover (F := F) (N := N) N 0 0 x (by omega) (fun q hq => absurd hq (by omega)) hx with h1 | ⟨s, h1, h2⟩
  · simp at h1
  · obtain ⟨v, hv, rfl⟩ := mps_mem N 0 0 s (by omega) h1
    rw [h.same hv h2, h.comps]
    exact h1
/-- The sides that the program finds. -/
noncomputable def sdS (N : Nat) (F : Nat → Nat) (b : Nat) : Nat := sdA F b 0 (cpN N F)
theorem sdS_bit {N : Nat} {F : Nat → Nat} {b x : Nat} (h : Nbrs N F) : (sdS N F b).testBit x = true ↔ ∃ v, v < N ∧ ∃ k, k < kE F (lst F N v) ∧ k % 2 = b ∧ (cmL F 17 (lst F N v) k).testBit x = true := by
  unfold sdS
  rw [sdA_bit]
  constructor
  · rintro (h1 | ⟨c, h1, h2⟩)
    · simp at h1
    · obtain ⟨v, hv, rfl⟩ := h.comp_mem h1
      exact ⟨v, hv, h2⟩
  · rintro ⟨v, hv, h2⟩
    exact .inr ⟨_, h.comp_at hv, h2⟩
theorem sdS_lt {N : Nat} {F : Nat → Nat} {b : Nat} (h : Nbrs N F) : sdS N F b < 2 ^ 17 := bits_lt fun q hq => by
  obtain ⟨v, hv, k, _, _, h3⟩ := (sdS_bit h).1 hq
  have := (h.lst hv).2
  have ht := h.top
  exact bit_lt (cmL_lt (N := 17) h.lt17 (by omega) k) h3
theorem sdS_all {N : Nat} {F : Nat → Nat} {x : Nat} (h : Nbrs N F) (hx : x < N) : ∃ k, k < kE F (lst F N x) ∧ (cmL F 17 (lst F N x) k).testBit x = true := by
  obtain ⟨h1, h2⟩ := h.lst hx
  have ht := h.top
  refine layer_at h.lt17 (by omega) ?_
  rw [h.c17 h2]
  exact h.symm hx h1
theorem sds_layers {N : Nat} {F : Nat → Nat} {f : Nat → Bool} (h : Nbrs N F) (hf : Sds N F f) {v : Nat} (hv : v < N) : ∀ k x, (cmL F 17 (lst F N v) k).testBit x = true → x < N ∧ f x = decide (k % 2 = 1)
  | 0, x, hx => by
    have h1 : cmL F 17 (lst F N v) 0 = 2 ^ (lst F N v) := rfl
    rw [h1, Nat.testBit_two_pow] at hx
    have e : lst F N v = x := of_decide_eq_true hx
    rw [← e]
    exact ⟨(h.lst hv).2, by rw [hf.2 v hv]; rfl⟩
  | k + 1, x, hx => by
    obtain ⟨y, hy, h1, h2⟩ := layer_back hx
    obtain ⟨h3, h4⟩ := sds_layers h hf hv k y h1
    have hx' : x < N := bit_lt (h.lt y) h2
    have h5 := hf.1 y x h3 hx' h2
    refine ⟨hx', ?_⟩
    rw [h4] at h5
    have hm : k % 2 = 0 ∨ k % 2 = 1 := by omega
    rcases hm with hm | hm
    · rw [decide_eq_true (show (k + 1) % 2 = 1 by omega)]
      rw [decide_eq_false (by omega)] at h5
      revert h5; cases f x <;> simp
    · rw [decide_eq_false (show ¬ (k + 1) % 2 = 1 by omega)]
      rw [decide_eq_true hm] at h5
      revert h5; cases f x <;> simp
/-- If there are sides, the program finds them. -/
theorem sds_found {N : Nat} {F : Nat → Nat} {f : Nat → Bool} (h : Nbrs N F) (hf : Sds N F f) (b : Nat) (hb : b < 2) (x : Nat) : (sdS N F b).testBit x = true ↔ x < N ∧ f x = decide (b = 1) := by
  rw [sdS_bit h]
  constructor
  · rintro ⟨v, hv, k, _, h2, h3⟩
    have h4 := sds_layers h hf hv k x h3
    rw [h2] at h4
    exact h4
  · rintro ⟨hx, hfx⟩
    obtain ⟨k, h1, h2⟩ := sdS_all h hx
    refine ⟨x, hx, k, h1, ?_, h2⟩
    have h4 := (sds_layers h hf hx k x h2).2
    rw [hfx] at h4
    have h5 : (b = 1) ↔ (k % 2 = 1) := by
      constructor
      · intro e; rw [decide_eq_true e] at h4; exact of_decide_eq_true h4.symm
      · intro e; rw [decide_eq_true e] at h4; exact of_decide_eq_true h4
    omega
theorem sds_apart {N : Nat} {F : Nat → Nat} {f : Nat → Bool} (h : Nbrs N F) (hf : Sds N F f) (b : Nat) (hb : b < 2) : arU F (sdS N F b) 17 &&& sdS N F b = 0 := by
  apply Nat.eq_of_testBit_eq
  intro q
  rw [Nat.zero_testBit, Nat.testBit_and, Bool.and_eq_false_iff]
  by_cases hq : (sdS N F b).testBit q = true
  · left
    cases he : (arU F (sdS N F b) 17).testBit q
    · rfl
    · obtain ⟨p, _, h1, h2⟩ := arU_bit.1 he
      obtain ⟨p1, p2⟩ := (sds_found h hf b hb p).1 h1
      obtain ⟨q1, q2⟩ := (sds_found h hf b hb q).1 hq
      exact absurd (p2.trans q2.symm) (hf.1 p q p1 q1 h2)
  · right; simpa using hq
/-- If no edge joins points of one side, the sides are ones. -/
theorem sds_made {N : Nat} {F : Nat → Nat} (h : Nbrs N F) (ha : ∀ b, b < 2 → arU F (sdS N F b) 17 &&& sdS N F b = 0) : Sds N F (fun x => (sdS N F 1).testBit x) := by
  have ht := h.top
  have hno : ∀ b, b < 2 → ∀ p q, p < N → (F p).testBit q = true → (sdS N F b).testBit p = true → (sdS N F b).testBit q = true → False := by
    intro b hb p q hp hpq h1 h2
    have h3 : (arU F (sdS N F b) 17 &&& sdS N F b).testBit q = true := by
      rw [Nat.testBit_and, h2, Bool.and_true]
      exact arU_bit.2 ⟨p, by omega, h1, hpq⟩
    rw [ha b hb] at h3
    simp at h3
  have hall : ∀ x, x < N → (sdS N F 0).testBit x = true ∨ (sdS N F 1).testBit x = true := by
    intro x hx
    obtain ⟨k, h1, h2⟩ := sdS_all h hx
    have hm : k % 2 = 0 ∨ k % 2 = 1 := by omega
    rcases hm with hm | hm
    · exact .inl ((sdS_bit h).2 ⟨x, hx, k, h1, hm, h2⟩)
    · exact .inr ((sdS_bit h).2 ⟨x, hx, k, h1, hm, h2⟩)
  refine ⟨fun p q hp hq hpq e => ?_, fun p hp => ?_⟩
  · simp only at e
    cases h1 : (sdS N F 1).testBit p
    · rw [h1] at e
      have p0 := (hall p hp).resolve_right (by rw [h1]; simp)
      have q0 := (hall q hq).resolve_right (by rw [← e]; simp)
      exact hno 0 (by omega) p q hp hpq p0 q0
    · rw [h1] at e
      exact hno 1 (by omega) p q hp hpq h1 e.symm
  · cases h1 : (sdS N F 1).testBit (lst F N p)
    · exact h1
    · exfalso
      have hw := (h.lst hp).2
      have h0 : (sdS N F 0).testBit (lst F N p) = true := by
        obtain ⟨hk0, hk1⟩ := kE_spec h.lt17 (show lst F N p < 17 by omega)
        have hpos : 0 < kE F (lst F N p) := by
          rcases Nat.eq_zero_or_pos (kE F (lst F N p)) with e | e
          · rw [e] at hk0
            exact absurd hk0 (Nat.pos_iff_ne_zero.1 (Nat.two_pow_pos _))
          · exact e
        exact (sdS_bit h).2 ⟨p, hp, 0, hpos, rfl, by rw [show cmL F 17 (lst F N p) 0 = 2 ^ (lst F N p) from rfl, Nat.testBit_two_pow]; simp⟩
      obtain ⟨v, hv, k, hk, hk2, hx⟩ := (sdS_bit h).1 h1
      obtain ⟨k', rfl⟩ : ∃ k', k = k' + 1 := ⟨k - 1, by omega⟩
      obtain ⟨y, hy, h3, h4⟩ := layer_back hx
      have hyN : y < N := by
        have hv2 := (h.lst hv).2
        have h5 : (cmS F 17 (lst F N v) k').testBit y = true := by
          cases k' with
          | zero => exact h3
          | succ j => exact ((cmL_bit h.lt17 (by omega)).1 h3).1
        have h6 : ∀ j q, (cmS F 17 (lst F N v) j).testBit q = true → q < N := by
          intro j q hq
          exact bit_lt (cmS_lt h.lt hv2 j) hq
        exact h6 _ _ h5
      have y0 : (sdS N F 0).testBit y = true := (sdS_bit h).2 ⟨v, hv, k', by omega, by omega, h3⟩
      exact hno 0 (by omega) y (lst F N p) hyN h4 y0 h0
end Go.Proofs.YtkiocedhibeieaaDoor

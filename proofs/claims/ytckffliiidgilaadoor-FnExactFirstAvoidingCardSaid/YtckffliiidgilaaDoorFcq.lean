/- Free changes: the edges one by one, the colours one by one; which changes are free. Nothing of the program. -/
import Derived.Test.YtckffliiidgilaaDoorBch
namespace Go.Proofs.YtckffliiidgilaaDoor
set_option linter.unusedVariables false
set_option linter.unusedSimpArgs false
open Go Go.RowKit
/-- A changed edge. -/
theorem setAt_at {bs : List Nat} (hb : Bys bs) {N i j p q c : Nat} (hN : N ≤ 17) (hij : i < j) (hj : j < N) (hpq : p ≠ q) (hp : p < N) (hq : q < N) :
    colAt (setAt bs (i : Int) (j : Int) (c : Int)) (p : Int) (q : Int) = if (p = i ∧ q = j) ∨ (p = j ∧ q = i) then (c : Int) else colAt bs (p : Int) (q : Int) := by
  have key : ∀ (lo hi : Nat), lo < hi → hi < N → colAt (setAt bs (i : Int) (j : Int) (c : Int)) (lo : Int) (hi : Int) = if lo = i ∧ hi = j then (c : Int) else colAt bs (lo : Int) (hi : Int) := fun lo hi h1 h2 => by
    have hlt : eN j + i < 136 := by
      have h3 := eN_mono (show j + 1 ≤ N by omega)
      have h4 := eN_17 hN
      rw [eN] at h3; omega
    rw [colAt_eN _ h1, colAt_eN _ h1]
    unfold setAt
    rw [eix_eN hij, Int.toNat_natCast, Int.toNat_natCast]
    by_cases e : lo = i ∧ hi = j
    · rw [if_pos e, e.1, e.2]
      simp [List.getD, List.getElem?_set, hb.len, hlt]
    · rw [if_neg e]
      have hne : eN j + i ≠ eN hi + lo := fun h => by
        rcases Nat.lt_trichotomy hi j with h5 | h5 | h5
        · have := eN_mono (show hi + 1 ≤ j by omega)
          rw [eN] at this; omega
        · subst h5; exact e ⟨by omega, rfl⟩
        · have := eN_mono (show j + 1 ≤ hi by omega)
          rw [eN] at this; omega
      simp [List.getD, List.getElem?_set, hne]
  rcases Nat.lt_or_gt_of_ne hpq with h | h
  · rw [key p q h hq]
    by_cases e : p = i ∧ q = j
    · rw [if_pos e, if_pos (.inl e)]
    · rw [if_neg e, if_neg (fun x => by rcases x with x | x; exact e x; omega)]
  · rw [colAt_comm _ (show ((p : Int)) ≠ (q : Int) by omega), key q p h hp]
    by_cases e : q = i ∧ p = j
    · rw [if_pos e, if_pos (.inr ⟨e.2, e.1⟩)]
    · rw [if_neg e, if_neg (fun x => by rcases x with x | x; omega; exact e ⟨x.2, x.1⟩)]
      rw [colAt_comm _ (show ((q : Int)) ≠ (p : Int) by omega)]
theorem rw_set {bs : List Nat} (hb : Bys bs) {N i j p q c : Nat} (hN : N ≤ 17) (hij : i < j) (hj : j < N) (hpq : p ≠ q) (hp : p < N) (hq : q < N) :
    (rwN (setAt bs (i : Int) (j : Int) (c : Int)) (c : Int) N p).testBit q = (decide ((p = i ∧ q = j) ∨ (p = j ∧ q = i)) || (rwN bs (c : Int) N p).testBit q) := by
  rw [rwN_bit hpq hq, rwN_bit hpq hq, setAt_at hb hN hij hj hpq hp hq]
  by_cases e : (p = i ∧ q = j) ∨ (p = j ∧ q = i)
  · rw [if_pos e, decide_eq_true e]; simp
  · rw [if_neg e, decide_eq_false e]; simp
/-- A new clique has both points. -/
theorem new_clique {bs : List Nat} (hb : Bys bs) {N i j c m : Nat} (hN : N ≤ 17) (hij : i < j) (hj : j < N) (hx : hasK (rwN bs (c : Int) N) N m (2 ^ N - 1) = false) (hm : 1 ≤ m) :
    hasK (rwN (setAt bs (i : Int) (j : Int) (c : Int)) (c : Int) N) N m (2 ^ N - 1) = (decide (2 ≤ m) && hasK (rwN bs (c : Int) N) N (m - 2) (rwN bs (c : Int) N i &&& rwN bs (c : Int) N j)) := by
  have hs1 := rwN_sym (bs := bs) (c := (c : Int)) (N := N)
  have hs2 := rwN_sym (bs := setAt bs (i : Int) (j : Int) (c : Int)) (c := (c : Int)) (N := N)
  have hfull : ∀ p, p < N → (2 ^ N - 1).testBit p = true := fun p hp => by rw [Nat.testBit_two_pow_sub_one]; exact decide_eq_true hp
  rw [Bool.eq_iff_iff, Bool.and_eq_true, hasK_iff hs2, hasK_iff hs1, decide_eq_true_eq]
  constructor
  · rintro ⟨l, h1, h2, h3, h4⟩
    have hold : ∀ p ∈ l, ∀ q ∈ l, p ≠ q → ¬ ((p = i ∧ q = j) ∨ (p = j ∧ q = i)) → (rwN bs (c : Int) N p).testBit q = true := fun p hp q hq hne hn => by
      have := h4 p hp q hq hne
      rw [rw_set hb hN hij hj hne (h3 p hp).1 (h3 q hq).1, decide_eq_false hn] at this
      simpa using this
    have hboth : i ∈ l ∧ j ∈ l := by
      refine Classical.byContradiction fun hno => ?_
      have : hasK (rwN bs (c : Int) N) N m (2 ^ N - 1) = true := (hasK_iff hs1).2 ⟨l, h1, h2, h3, fun p hp q hq hne => hold p hp q hq hne fun e => by
        rcases e with ⟨rfl, rfl⟩ | ⟨rfl, rfl⟩
        · exact hno ⟨hp, hq⟩
        · exact hno ⟨hq, hp⟩⟩
      rw [hx] at this; cases this
    have hji : j ∈ l.erase i := by rw [h1.mem_erase_iff]; exact ⟨by omega, hboth.2⟩
    have hnd : (l.erase i).Nodup := h1.erase i
    have hle : (l.erase i).length = m - 1 := by rw [List.length_erase_of_mem hboth.1, h2]
    have hl2 : ((l.erase i).erase j).length = m - 2 := by rw [List.length_erase_of_mem hji, hle]; omega
    have hm2 : 2 ≤ m := by have := List.length_pos_of_mem hji; omega
    refine ⟨hm2, (l.erase i).erase j, hnd.erase j, hl2, fun p hp => ?_, fun p hp q hq hne => ?_⟩
    · rw [hnd.mem_erase_iff, h1.mem_erase_iff] at hp
      obtain ⟨e1, e2, hpl⟩ := hp
      refine ⟨(h3 p hpl).1, ?_⟩
      rw [Nat.testBit_and, hold i hboth.1 p hpl (fun e => e2 e.symm) (by omega), hold j hboth.2 p hpl (fun e => e1 e.symm) (by omega)]; rfl
    · rw [hnd.mem_erase_iff, h1.mem_erase_iff] at hp hq
      exact hold p hp.2.2 q hq.2.2 hne (by omega)
  · rintro ⟨hm2, l, h1, h2, h3, h4⟩
    have hin : ∀ p ∈ l, p < N ∧ (rwN bs (c : Int) N i).testBit p = true ∧ (rwN bs (c : Int) N j).testBit p = true := fun p hp => by
      have := (h3 p hp).2
      rw [Nat.testBit_and, Bool.and_eq_true] at this
      exact ⟨(h3 p hp).1, this⟩
    have hni : i ∉ l := fun h => by have := (hin i h).2.1; rw [rwN_irr] at this; cases this
    have hnj : j ∉ l := fun h => by have := (hin j h).2.2; rw [rwN_irr] at this; cases this
    have hup : ∀ p q, p ≠ q → p < N → q < N → (rwN bs (c : Int) N p).testBit q = true → (rwN (setAt bs (i : Int) (j : Int) (c : Int)) (c : Int) N p).testBit q = true := fun p q hne hp hq h => by
      rw [rw_set hb hN hij hj hne hp hq, h]; simp
    have hi : i < N := by omega
    refine ⟨i :: j :: l, ?_, by simp [h2]; omega, fun p hp => ?_, fun p hp q hq hne => ?_⟩
    · rw [List.nodup_cons, List.nodup_cons, List.mem_cons]
      exact ⟨fun h => by rcases h with h | h; omega; exact hni h, hnj, h1⟩
    · rcases List.mem_cons.1 hp with rfl | hp
      · exact ⟨hi, hfull _ hi⟩
      · rcases List.mem_cons.1 hp with rfl | hp
        · exact ⟨hj, hfull _ hj⟩
        · exact ⟨(hin p hp).1, hfull _ (hin p hp).1⟩
    · have key : ∀ p q, p ≠ q → p ∈ i :: j :: l → q ∈ i :: j :: l → (p = i ∨ (p = j ∧ q ≠ i) ∨ (p ∈ l ∧ q ∈ l)) → (rwN (setAt bs (i : Int) (j : Int) (c : Int)) (c : Int) N p).testBit q = true := fun p q hne hp hq h => by
        rcases h with rfl | ⟨rfl, hqi⟩ | ⟨hpl, hql⟩
        · rcases List.mem_cons.1 hq with rfl | hq
          · exact absurd rfl hne
          · rcases List.mem_cons.1 hq with rfl | hq
            · rw [rw_set hb hN hij hj hne hi hj, decide_eq_true (.inl ⟨rfl, rfl⟩)]; rfl
            · exact hup _ _ hne hi (hin q hq).1 (hin q hq).2.1
        · rcases List.mem_cons.1 hq with rfl | hq
          · exact absurd rfl hqi
          · rcases List.mem_cons.1 hq with rfl | hq
            · exact absurd rfl hne
            · exact hup _ _ hne hj (hin q hq).1 (hin q hq).2.2
        · exact hup _ _ hne (hin p hpl).1 (hin q hql).1 (h4 p hpl q hql hne)
      by_cases h5 : p = i ∨ (p = j ∧ q ≠ i) ∨ (p ∈ l ∧ q ∈ l)
      · exact key p q hne hp hq h5
      · have hpN : p < N := by
          rcases List.mem_cons.1 hp with rfl | hp
          · exact hi
          · rcases List.mem_cons.1 hp with rfl | hp
            · exact hj
            · exact (hin p hp).1
        have hqN : q < N := by
          rcases List.mem_cons.1 hq with rfl | hq
          · exact hi
          · rcases List.mem_cons.1 hq with rfl | hq
            · exact hj
            · exact (hin q hq).1
        rw [hs2 p q hpN hqN]
        refine key q p (fun e => hne e.symm) hq hp ?_
        rcases List.mem_cons.1 hp with e | hp2
        · exact absurd (.inl e) h5
        · rcases List.mem_cons.1 hp2 with e | hp3
          · by_cases e2 : q = i
            · exact .inl e2
            · exact absurd (.inr (.inl ⟨e, e2⟩)) h5
          · rcases List.mem_cons.1 hq with e | hq2
            · exact .inl e
            · rcases List.mem_cons.1 hq2 with e | hq3
              · by_cases e2 : p = i
                · exact absurd (.inl e2) h5
                · exact .inr (.inl ⟨e, e2⟩)
              · exact absurd (.inr (.inr ⟨hp3, hq3⟩)) h5
/-- The changes of one edge to colours below c. -/
def chR (bs : List Nat) (i j : Nat) (c : Nat) : List (Nat × Nat × Nat) := (List.range c).flatMap fun (c : Nat) => if (c : Int) = colAt bs (i : Int) (j : Int) then [] else [(i, j, c)]
/-- Of the edges of i to points from i + 1 on, h of them. -/
def chQ (bs : List Nat) (K i : Nat) (h : Nat) : List (Nat × Nat × Nat) := (List.range h).flatMap fun d => chR bs i (i + 1 + d) K
/-- Of the first m points to later ones. -/
def chL (bs : List Nat) (K N : Nat) (m : Nat) : List (Nat × Nat × Nat) := (List.range m).flatMap fun i => chQ bs K i (N - (i + 1))
theorem chR_step (bs : List Nat) (i j c : Nat) : chR bs i j (c + 1) = chR bs i j c ++ if (c : Int) = colAt bs (i : Int) (j : Int) then [] else [(i, j, c)] := by
  unfold chR; rw [List.range_succ, List.flatMap_append]; simp
theorem chQ_step (bs : List Nat) (K i h : Nat) : chQ bs K i (h + 1) = chQ bs K i h ++ chR bs i (i + 1 + h) K := by
  unfold chQ; rw [List.range_succ, List.flatMap_append]; simp
theorem chL_step (bs : List Nat) (K N m : Nat) : chL bs K N (m + 1) = chL bs K N m ++ chQ bs K m (N - (m + 1)) := by
  unfold chL; rw [List.range_succ, List.flatMap_append]; simp
theorem fm_more {α β : Type} (f : Nat → List β) (a : Nat) : ∀ d, ∃ r, (List.range (a + d)).flatMap f = (List.range a).flatMap f ++ r
  | 0 => ⟨[], by simp⟩
  | d + 1 => by
    obtain ⟨r, hr⟩ := fm_more (α := α) f a d
    exact ⟨r ++ f (a + d), by rw [← Nat.add_assoc, List.range_succ, List.flatMap_append, hr]; simp⟩
/-- What lies ahead of one change, and what behind. -/
theorem ch_at {bs : List Nat} {K N i h c : Nat} (hi : i < N) (hh : i + 1 + h < N) (hc : c < K) (hn : (c : Int) ≠ colAt bs (i : Int) ((i + 1 + h : Nat) : Int)) :
    ∃ r, chL bs K N N = (chL bs K N i ++ chQ bs K i h ++ chR bs i (i + 1 + h) c) ++ (i, i + 1 + h, c) :: r := by
  obtain ⟨r1, h1⟩ := fm_more (α := Nat) (fun i => chQ bs K i (N - (i + 1))) (i + 1) (N - (i + 1))
  obtain ⟨r2, h2⟩ := fm_more (α := Nat) (fun d => chR bs i (i + 1 + d) K) (h + 1) (N - (i + 1) - (h + 1))
  obtain ⟨r3, h3⟩ := fm_more (α := Nat) (fun (c : Nat) => if (c : Int) = colAt bs (i : Int) ((i + 1 + h : Nat) : Int) then [] else [(i, i + 1 + h, c)]) (c + 1) (K - (c + 1))
  rw [show i + 1 + (N - (i + 1)) = N by omega] at h1
  rw [show h + 1 + (N - (i + 1) - (h + 1)) = N - (i + 1) by omega] at h2
  rw [show c + 1 + (K - (c + 1)) = K by omega] at h3
  have e1 : chL bs K N N = chL bs K N (i + 1) ++ r1 := h1
  have e2 : chQ bs K i (N - (i + 1)) = chQ bs K i (h + 1) ++ r2 := h2
  have e3 : chR bs i (i + 1 + h) K = chR bs i (i + 1 + h) (c + 1) ++ r3 := h3
  rw [chR_step, if_neg hn] at e3
  rw [chQ_step, e3] at e2
  rw [chL_step, e2] at e1
  exact ⟨r3 ++ r2 ++ r1, by rw [e1]; simp⟩
theorem chL_mem {bs : List Nat} {K N : Nat} {x : Nat × Nat × Nat} (h : x ∈ chL bs K N N) : x.1 < x.2.1 ∧ x.2.1 < N ∧ x.2.2 < K := by
  unfold chL at h
  rw [List.mem_flatMap] at h
  obtain ⟨i, hi, h⟩ := h
  unfold chQ at h
  rw [List.mem_flatMap] at h
  obtain ⟨d, hd, h⟩ := h
  unfold chR at h
  rw [List.mem_flatMap] at h
  obtain ⟨c, hc, h⟩ := h
  rw [List.mem_range] at hi hd hc
  split at h
  · cases h
  · rw [List.mem_singleton] at h
    subst h
    exact ⟨by show i < i + 1 + d; omega, by show i + 1 + d < N; omega, hc⟩
theorem fm_len {β : Type} {f : Nat → List β} {b : Nat} : ∀ m, (∀ i, i < m → (f i).length ≤ b) → ((List.range m).flatMap f).length ≤ m * b
  | 0, _ => by simp
  | m + 1, h => by
    rw [List.range_succ, List.flatMap_append, List.length_append]
    have h1 := fm_len m (fun i hi => h i (by omega))
    have h2 := h m (by omega)
    rw [Nat.succ_mul, List.flatMap_cons, List.flatMap_nil, List.append_nil]
    omega
theorem chL_len {bs : List Nat} {K N : Nat} (hN : N ≤ 17) (hK : K ≤ 4) : (chL bs K N N).length ≤ 1000 := by
  have key : ∀ m, m ≤ N → (chL bs K N m).length ≤ 4 * (eN N - eN (N - m)) := by
    intro m
    induction m with
    | zero => intro _; simp [chL]
    | succ m ih =>
      intro hm
      have h1 := ih (by omega)
      have h2 : (chQ bs K m (N - (m + 1))).length ≤ (N - (m + 1)) * 4 := fm_len _ fun d _ => by
        have := fm_len (f := fun (c : Nat) => if (c : Int) = colAt bs (m : Int) ((m + 1 + d : Nat) : Int) then [] else [(m, m + 1 + d, c)]) (b := 1) K (fun c _ => by split <;> simp)
        have e : chR bs m (m + 1 + d) K = (List.range K).flatMap fun (c : Nat) => if (c : Int) = colAt bs (m : Int) ((m + 1 + d : Nat) : Int) then [] else [(m, m + 1 + d, c)] := rfl
        rw [e]; omega
      rw [chL_step, List.length_append]
      have h3 : eN (N - m) = eN (N - (m + 1)) + (N - (m + 1)) := by
        rw [show N - m = (N - (m + 1)) + 1 by omega, eN]
      have h4 := eN_mono (show N - m ≤ N by omega)
      omega
  have h1 := key N (Nat.le_refl _)
  have h2 := eN_17 hN
  omega
/-- Is a change free, as the model asks it? -/
def frC (bs : List Nat) (N : Nat) (zs : List Int) (x : Nat × Nat × Nat) : Bool := !decide (zs.getD x.2.2 0 < 3) && !hasK (rwN bs (x.2.2 : Int) N) N ((zs.getD x.2.2 0).toNat - 2) (rwN bs (x.2.2 : Int) N x.1 &&& rwN bs (x.2.2 : Int) N x.2.1)
/-- .. and as the program does. -/
theorem frC_prog {bs : List Nat} (hb : Bys bs) {N K : Nat} {zs : List Int} (hN1 : 1 ≤ N) (hN : N ≤ 17) (hsz : szP zs K = true) (hav : avP N bs zs K = true) {x : Nat × Nat × Nat} (h1 : x.1 < x.2.1) (h2 : x.2.1 < N) (h3 : x.2.2 < K) :
    frC bs N zs x = decide (fosX (nsF (setAt bs (x.1 : Int) (x.2.1 : Int) (x.2.2 : Int)) (x.2.2 : Int) (eseq N)) N (zs.getD x.2.2 0) = 0) := by
  obtain ⟨i, j, c⟩ := x
  dsimp only at *
  have hz := inB_bd (szP_get hsz h3)
  obtain ⟨m, hm⟩ : ∃ m : Nat, zs.getD c 0 = (m : Int) := ⟨(zs.getD c 0).toNat, by omega⟩
  have hne : (clqL bs (c : Int) N m).isEmpty = true := by
    unfold avP at hav
    have := List.all_eq_true.1 hav c (List.mem_range.2 h3)
    rw [hm, Int.toNat_natCast] at this
    exact this
  rw [clqL_has, Bool.not_eq_true'] at hne
  have hnc := new_clique hb hN h1 h2 hne (by omega)
  have hfos := fosX_zero (setAt bs (i : Int) (j : Int) (c : Int)) (c : Int) (N := N) (m := m) hN (by omega)
  unfold frC
  dsimp only
  rw [hm, Int.toNat_natCast]
  rw [clqL_has, hnc] at hfos
  have hm1 : m ≠ 1 := fun e => by
    subst e
    have : hasK (rwN bs (c : Int) N) N 1 (2 ^ N - 1) = true := hasK_of 1 _ [0] ⟨by simp, rfl, fun p hp => by
      rw [List.mem_singleton] at hp; subst hp
      exact ⟨by omega, by rw [Nat.testBit_two_pow_sub_one]; exact decide_eq_true (by omega)⟩, fun p hp q hq hne => by
      rw [List.mem_singleton] at hp hq; omega⟩
    rw [hne] at this; cases this
  rw [Bool.eq_iff_iff, decide_eq_true_eq, hfos]
  by_cases hm3 : m < 3
  · have hm2 : m = 2 := by omega
    subst hm2
    have : hasK (rwN bs (c : Int) N) N 0 (rwN bs (c : Int) N i &&& rwN bs (c : Int) N j) = true := hasK_0 _ _ _
    rw [show 2 - 2 = 0 from rfl, this]
    simp
  · rw [decide_eq_false (show ¬ ((m : Int) < 3) by omega), decide_eq_true (show 2 ≤ m by omega)]
    simp
def trL (x : Nat × Nat × Nat) : List Int := [(x.1 : Int), (x.2.1 : Int), (x.2.2 : Int)]
/-- What FreeChanges answers. -/
def fcA (n k : Int) (bs : List Nat) (zs : List Int) : List (List Int) := ((chL bs k.toNat n.toNat n.toNat).filter (frC bs n.toNat zs)).map trL
def fcV (n k : Int) (bs : List Nat) (zs : List Int) : List (List Int) := if eaC 17 n k bs zs = 0 then fcA n k bs zs else []
theorem fcV_bad {n k : Int} {bs : List Nat} {zs : List Int} (h : eaC 17 n k bs zs ≠ 0) : fcV n k bs zs = [] := by unfold fcV; rw [if_neg h]
theorem fcV_good {n k : Int} {bs : List Nat} {zs : List Int} (h : eaC 17 n k bs zs = 0) : fcV n k bs zs = fcA n k bs zs := by unfold fcV; rw [if_pos h]
theorem fcV_len {n k : Int} {bs : List Nat} {zs : List Int} : (fcV n k bs zs).length ≤ 1000 ∧ ∀ z ∈ fcV n k bs zs, z.length ≤ 17 := by
  by_cases h : eaC 17 n k bs zs = 0
  · rw [fcV_good h]
    obtain ⟨hsz, _, _⟩ := eaC_ok h
    obtain ⟨hi, _⟩ := szCode_ok hsz
    obtain ⟨n1, n2, k1, k2⟩ := isCol_bd hi
    unfold fcA
    constructor
    · rw [List.length_map]
      exact Nat.le_trans (List.length_filter_le _ _) (chL_len (by omega) (by omega))
    · intro z hz
      rw [List.mem_map] at hz
      obtain ⟨x, _, rfl⟩ := hz
      simp [trL]
  · rw [fcV_bad h]; simp
end Go.Proofs.YtckffliiidgilaaDoor

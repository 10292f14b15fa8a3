/- Numbers of ways to part a set into free sets: point by point and set by set. Nothing of the program. -/
import Derived.Test.YtckffliiidgilaaDoorUcl
import Derived.Test.YtckffliiidgilaaDoorBac
namespace Go.Proofs.YtckffliiidgilaaDoor
set_option linter.unusedVariables false
set_option linter.unusedSimpArgs false
/-- The sum of g over all subsets of the first N points of S. -/
def sub : Nat → Nat → (Nat → Nat) → Nat
  | 0, _, g => g 0
  | N + 1, S, g => sub N S g + (if S.testBit N = true then sub N S (fun p => g (2 ^ N + p)) else 0)
theorem sub_low : ∀ (N : Nat) {S T : Nat} (g : Nat → Nat), (∀ j, j < N → S.testBit j = T.testBit j) → sub N S g = sub N T g
  | 0, _, _, _, _ => rfl
  | N + 1, S, T, g, h => by
    rw [sub, sub, sub_low N g (fun j hj => h j (by omega)), sub_low N (fun p => g (2 ^ N + p)) (fun j hj => h j (by omega)), h N (by omega)]
theorem sub_add (N S : Nat) : ∀ g h : Nat → Nat, sub N S (fun p => g p + h p) = sub N S g + sub N S h := by
  induction N with
  | zero => intro g h; rfl
  | succ N ih =>
    intro g h
    rw [sub, sub, sub, ih]
    split
    · rw [ih]; omega
    · omega
theorem sub_zero (N S : Nat) : sub N S (fun _ => 0) = 0 := by
  induction N with
  | zero => rfl
  | succ N ih => rw [sub, ih]; split <;> simp [ih]
theorem sub_sm (N S : Nat) (g : Nat → Nat → Nat) : ∀ K, sub N S (fun p => sm (fun c => g c p) K) = sm (fun c => sub N S (g c)) K
  | 0 => sub_zero N S
  | K + 1 => by
    show sub N S (fun p => sm (fun c => g c p) K + g K p) = _
    rw [sub_add, sub_sm N S g K, sm]
theorem sub_le {B : Nat} : ∀ (N S : Nat) (g : Nat → Nat), (∀ p, p < 2 ^ N → g p ≤ B) → sub N S g ≤ 2 ^ N * B
  | 0, S, g, h => by have := h 0 (by simp); simp [sub]; exact this
  | N + 1, S, g, h => by
    have h1 := sub_le N S g (fun p hp => h p (by rw [Nat.pow_succ]; omega))
    have h2 := sub_le N S (fun p => g (2 ^ N + p)) (fun p hp => h _ (by rw [Nat.pow_succ]; omega))
    rw [sub, Nat.pow_succ, Nat.mul_assoc, Nat.mul_comm 2 B, ← Nat.mul_assoc, Nat.mul_two]
    split <;> omega
theorem hi_sub {N p S : Nat} (hp : p < 2 ^ N) : (2 ^ N + p) &&& S = 2 ^ N + p ↔ (S.testBit N = true ∧ p &&& S = p) := by
  have hb : ∀ j, (2 ^ N + p).testBit j = (decide (j = N) || p.testBit j) := fun j => by
    have e := Nat.two_pow_add_eq_or_of_lt hp 1
    rw [Nat.mul_one] at e
    rw [e, Nat.testBit_or, Nat.testBit_two_pow]
    congr 1
    simp only [eq_comm]
  constructor
  · intro h
    have h2 : ∀ j, ((2 ^ N + p) &&& S).testBit j = (2 ^ N + p).testBit j := fun j => by rw [h]
    refine ⟨?_, Nat.eq_of_testBit_eq fun j => ?_⟩
    · have := h2 N
      rw [Nat.testBit_and, hb] at this
      simpa using this
    · have := h2 j
      rw [Nat.testBit_and, hb] at this
      rw [Nat.testBit_and]
      by_cases e : j = N
      · subst e
        rw [Nat.testBit_lt_two_pow hp]; rfl
      · rw [decide_eq_false e, Bool.false_or] at this; exact this
  · rintro ⟨h1, h2⟩
    apply Nat.eq_of_testBit_eq
    intro j
    have h3 : (p &&& S).testBit j = p.testBit j := by rw [h2]
    rw [Nat.testBit_and] at h3
    rw [Nat.testBit_and, hb]
    by_cases e : j = N
    · subst e; rw [h1]; simp
    · rw [decide_eq_false e, Bool.false_or]; exact h3
theorem sub_congr {S : Nat} : ∀ (N : Nat) {g h : Nat → Nat}, (∀ p, p < 2 ^ N → p &&& S = p → g p = h p) → sub N S g = sub N S h
  | 0, g, h, e => e 0 (by simp) (by simp)
  | N + 1, g, h, e => by
    rw [sub, sub, sub_congr N (g := g) (h := h) (fun p hp hs => e p (by rw [Nat.pow_succ]; omega) hs)]
    by_cases hb : S.testBit N = true
    · rw [if_pos hb, if_pos hb, sub_congr N (g := fun p => g (2 ^ N + p)) (h := fun p => h (2 ^ N + p)) (fun p hp hs => e _ (by rw [Nat.pow_succ]; omega) ((hi_sub hp).2 ⟨hb, hs⟩))]
    · rw [if_neg hb, if_neg hb]
theorem sm_two (f : Nat → Nat) (a : Nat) : ∀ b, sm f (a + b) = sm f a + sm (fun i => f (a + i)) b
  | 0 => rfl
  | b + 1 => by rw [← Nat.add_assoc, sm, sm_two f a b, sm]; omega
theorem sub_eq {S : Nat} : ∀ (N : Nat) (g : Nat → Nat), sub N S g = sm (fun p => if p &&& S = p then g p else 0) (2 ^ N)
  | 0, g => by simp [sub, sm]
  | N + 1, g => by
    rw [sub, Nat.pow_succ, Nat.mul_two, sm_two, ← sub_eq N g]
    congr 1
    by_cases hb : S.testBit N = true
    · rw [if_pos hb, sub_eq N]
      refine sm_congr _ fun i hi => ?_
      by_cases h : i &&& S = i
      · rw [if_pos h, if_pos ((hi_sub hi).2 ⟨hb, h⟩)]
      · rw [if_neg h, if_neg (fun h2 => h ((hi_sub hi).1 h2).2)]
    · rw [if_neg hb, sm_zero' _ (fun i hi => if_neg (fun h2 => hb ((hi_sub hi).1 h2).1))]
theorem orb_bit {a n j : Nat} : (a ||| 2 ^ n).testBit j = (a.testBit j || decide (j = n)) := by
  rw [Nat.testBit_or, Nat.testBit_two_pow]
  congr 1
  simp only [eq_comm]
theorem sub_split {n T : Nat} (hT : T.testBit n = false) : ∀ (N : Nat) (g : Nat → Nat), n < N → sub N (T ||| 2 ^ n) g = sub N T g + sub N T (fun p => g (p ||| 2 ^ n))
  | 0, g, h => by omega
  | N + 1, g, h => by
    by_cases e : n = N
    · subst e
      have h1 : ∀ (g : Nat → Nat), sub n (T ||| 2 ^ n) g = sub n T g := fun g => sub_low n g fun j hj => by rw [orb_bit, decide_eq_false (by omega), Bool.or_false]
      rw [sub, sub, sub, h1, h1, orb_bit, hT]
      simp
      exact sub_congr n fun p hp _ => by
        have e2 := Nat.two_pow_add_eq_or_of_lt hp 1
        rw [Nat.mul_one] at e2
        rw [e2, Nat.or_comm]
    · have hb : (T ||| 2 ^ n).testBit N = T.testBit N := by rw [orb_bit, decide_eq_false (fun x => e x.symm), Bool.or_false]
      rw [sub, sub, sub, sub_split hT N g (by omega), sub_split hT N _ (by omega), hb]
      have h2 : sub N T (fun p => g (2 ^ N + (p ||| 2 ^ n))) = sub N T (fun p => g ((2 ^ N + p) ||| 2 ^ n)) := sub_congr N fun p hp _ => by
        have hlt : p ||| 2 ^ n < 2 ^ N := Nat.or_lt_two_pow hp (Nat.pow_lt_pow_right (by omega) (by omega))
        have e1 := Nat.two_pow_add_eq_or_of_lt hp 1
        have e2 := Nat.two_pow_add_eq_or_of_lt hlt 1
        rw [Nat.mul_one] at e1 e2
        rw [e1, e2, Nat.or_assoc]
      by_cases hN : T.testBit N = true
      · rw [if_pos hN, if_pos hN, if_pos hN, h2]; omega
      · rw [if_neg hN, if_neg hN, if_neg hN]; omega
theorem sm_mul (a : Nat) (f : Nat → Nat) : ∀ m, a * sm f m = sm (fun i => a * f i) m
  | 0 => rfl
  | m + 1 => by rw [sm, Nat.mul_add, sm_mul a f m, sm]
theorem sm_head (f : Nat → Nat) : ∀ m, sm f (m + 1) = f 0 + sm (fun i => f (i + 1)) m
  | 0 => by simp [sm]
  | m + 1 => by rw [sm, sm_head f m, sm]; omega
/-- The sets of S for the last e colours, each way with its weight. -/
def Wb (w : Nat → Nat → Nat) (K N : Nat) (s : Nat → Nat) : Nat → Nat → Nat
  | 0, S => if S = 0 then 1 else 0
  | e + 1, S => sub N S fun p => w (K - (e + 1)) (s (K - (e + 1)) ||| p) * Wb w K N s e (S ^^^ p)
theorem setF_same (f : Nat → Nat) (i v : Nat) : setF f i v i = v := by simp [setF]
theorem setF_ne (f : Nat → Nat) {i j : Nat} (v : Nat) (h : j ≠ i) : setF f i v j = f j := by simp [setF, h]
theorem Wb_setF {w : Nat → Nat → Nat} {K N : Nat} {s : Nat → Nat} {c v : Nat} : ∀ (e S : Nat), e ≤ K → c < K - e → Wb w K N (setF s c v) e S = Wb w K N s e S
  | 0, _, _, _ => rfl
  | e + 1, S, he, hc => by
    rw [Wb, Wb]
    refine sub_congr N fun p _ _ => ?_
    rw [setF_ne _ _ (by omega), Wb_setF e _ (by omega) (by omega)]
theorem sub_of {T p : Nat} (h : p &&& T = p) (j : Nat) : (p.testBit j && T.testBit j) = p.testBit j := by rw [← Nat.testBit_and, h]
theorem Wb_point {w : Nat → Nat → Nat} {K N n : Nat} (hn : n < N) : ∀ (e : Nat) (s : Nat → Nat) (T : Nat), e ≤ K → T.testBit n = false →
    Wb w K N s e (T ||| 2 ^ n) = sm (fun i => Wb w K N (setF s (K - e + i) (s (K - e + i) ||| 2 ^ n)) e T) e
  | 0, s, T, _, hT => by
    rw [Wb, if_neg]
    · rfl
    · intro h
      have := orb_bit (a := T) (n := n) (j := n)
      rw [h] at this; simp at this
  | e + 1, s, T, he, hT => by
    have hbn : ∀ p, p &&& T = p → p.testBit n = false := fun p hp => by have := sub_of hp n; rw [hT] at this; simpa using this.symm
    rw [Wb, sub_split hT N _ hn]
    have h1 : sub N T (fun p => w (K - (e + 1)) (s (K - (e + 1)) ||| p) * Wb w K N s e ((T ||| 2 ^ n) ^^^ p)) =
        sm (fun i => Wb w K N (setF s (K - e + i) (s (K - e + i) ||| 2 ^ n)) (e + 1) T) e := by
      have h2 : sub N T (fun p => w (K - (e + 1)) (s (K - (e + 1)) ||| p) * Wb w K N s e ((T ||| 2 ^ n) ^^^ p)) =
          sub N T (fun p => sm (fun i => w (K - (e + 1)) (s (K - (e + 1)) ||| p) * Wb w K N (setF s (K - e + i) (s (K - e + i) ||| 2 ^ n)) e (T ^^^ p)) e) := sub_congr N fun p hp hs => by
        have e1 : (T ||| 2 ^ n) ^^^ p = (T ^^^ p) ||| 2 ^ n := by
          apply Nat.eq_of_testBit_eq
          intro j
          rw [Nat.testBit_xor, orb_bit, orb_bit, Nat.testBit_xor]
          by_cases ej : j = n
          · subst ej; rw [hbn p hs]; simp
          · rw [decide_eq_false ej]; simp
        have e2 : (T ^^^ p).testBit n = false := by rw [Nat.testBit_xor, hT, hbn p hs]; rfl
        rw [e1, Wb_point hn e s _ (by omega) e2, sm_mul]
      rw [h2, sub_sm]
      refine sm_congr e fun i hi => ?_
      rw [Wb, setF_ne _ _ (by omega)]
    have h3 : sub N T (fun p => w (K - (e + 1)) (s (K - (e + 1)) ||| (p ||| 2 ^ n)) * Wb w K N s e ((T ||| 2 ^ n) ^^^ (p ||| 2 ^ n))) = Wb w K N (setF s (K - (e + 1)) (s (K - (e + 1)) ||| 2 ^ n)) (e + 1) T := by
      rw [Wb, setF_same]
      refine sub_congr N fun p hp hs => ?_
      have e1 : (T ||| 2 ^ n) ^^^ (p ||| 2 ^ n) = T ^^^ p := by
        apply Nat.eq_of_testBit_eq
        intro j
        rw [Nat.testBit_xor, orb_bit, orb_bit, Nat.testBit_xor]
        by_cases ej : j = n
        · subst ej; rw [hbn p hs, hT]; simp
        · rw [decide_eq_false ej]; simp
      rw [e1, Wb_setF e _ (by omega) (by omega), Nat.or_assoc, Nat.or_comm p]
    rw [h1, h3, sm_head]
    have h4 : ∀ i, K - (e + 1) + (i + 1) = K - e + i := fun i => by omega
    rw [Nat.add_zero, Nat.add_comm]
    congr 1
    exact sm_congr e fun i hi => by rw [h4]
theorem Wb_dead {w : Nat → Nat → Nat} {K N c : Nat} {s : Nat → Nat} (hc : c < K) (h : ∀ p, w c (s c ||| p) = 0) : ∀ (e S : Nat), e ≤ K → K - e ≤ c → Wb w K N s e S = 0
  | 0, S, _, hk => by omega
  | e + 1, S, he, hk => by
    rw [Wb, ← sub_zero N S]
    refine sub_congr N fun p _ _ => ?_
    by_cases e1 : c = K - (e + 1)
    · rw [← e1, h, Nat.zero_mul]
    · rw [Wb_dead hc h e _ (by omega) (by omega), Nat.mul_zero]
theorem sub_none (N : Nat) (g : Nat → Nat) : sub N 0 g = g 0 := by
  induction N with
  | zero => rfl
  | succ N ih => rw [sub, ih]; simp
theorem Wb_leaf {w : Nat → Nat → Nat} {K N : Nat} {s : Nat → Nat} : ∀ e, e ≤ K → (∀ c, K - e ≤ c → c < K → w c (s c) = 1) → Wb w K N s e 0 = 1
  | 0, _, _ => rfl
  | e + 1, he, h => by
    rw [Wb, sub_none, Nat.or_zero, h _ (Nat.le_refl _) (by omega), Nat.one_mul]
    exact Wb_leaf e (by omega) (fun c h1 h2 => h c (by omega) h2)
/-- Point by point. -/
def dcn (ok : Nat → Nat → Nat → Bool) (K N : Nat) (fin : Nat → Nat) : Nat → (Nat → Nat) → Nat
  | 0, s => fin (s 0)
  | r + 1, s => sm (fun c => if ok c (N - (r + 1)) (s c) = true then dcn ok K N fin r (setF s c (s c ||| 2 ^ (N - (r + 1)))) else 0) K
/-- The last r points. -/
def rst (N r : Nat) : Nat := arK (fun j => decide (N - r ≤ j)) N
theorem rst_bit {N r j : Nat} : (rst N r).testBit j = (decide (j < N) && decide (N - r ≤ j)) := arK_bit _ _ _
theorem rst_0 (N : Nat) : rst N 0 = 0 := by
  apply Nat.eq_of_testBit_eq
  intro j
  rw [rst_bit, Nat.zero_testBit]
  by_cases h : j < N
  · rw [decide_eq_false (show ¬ N - 0 ≤ j by omega)]; simp
  · rw [decide_eq_false h]; rfl
theorem rst_succ {N r : Nat} (h : r < N) : rst N (r + 1) = rst N r ||| 2 ^ (N - (r + 1)) := by
  apply Nat.eq_of_testBit_eq
  intro j
  rw [orb_bit, rst_bit, rst_bit]
  by_cases h1 : j < N
  · rw [decide_eq_true h1, Bool.true_and, Bool.true_and]
    by_cases e : j = N - (r + 1)
    · rw [decide_eq_true e, decide_eq_true (by omega)]; simp
    · rw [decide_eq_false e, Bool.or_false]
      by_cases h2 : N - (r + 1) ≤ j
      · rw [decide_eq_true h2, decide_eq_true (by omega)]
      · rw [decide_eq_false h2, decide_eq_false (by omega)]
  · rw [decide_eq_false h1, decide_eq_false (show ¬ j = N - (r + 1) by omega)]; simp
theorem rst_full (N : Nat) : rst N N = 2 ^ N - 1 := by
  apply Nat.eq_of_testBit_eq
  intro j
  rw [rst_bit, Nat.testBit_two_pow_sub_one, decide_eq_true (show N - N ≤ j by omega), Bool.and_true]
/-- The weight of a class. -/
def wgt (fr : Nat → Nat → Bool) (fin : Nat → Nat) (c p : Nat) : Nat := if fr c p = true then (if c = 0 then fin p else 1) else 0
theorem dcn_W {ok : Nat → Nat → Nat → Bool} {fr : Nat → Nat → Bool} {fin : Nat → Nat} {K N : Nat} (hK : 1 ≤ K) (hmono : ∀ c p q, c < K → fr c p = false → fr c (p ||| q) = false)
    (hok : ∀ c n T, c < K → n < N → T < 2 ^ n → fr c T = true → ok c n T = fr c (T ||| 2 ^ n)) : ∀ (r : Nat) (s : Nat → Nat), r ≤ N → (∀ c, c < K → s c < 2 ^ (N - r) ∧ fr c (s c) = true) →
    dcn ok K N fin r s = Wb (wgt fr fin) K N s K (rst N r)
  | 0, s, _, hs => by
    rw [dcn, rst_0]
    obtain ⟨E, rfl⟩ : ∃ E, K = E + 1 := ⟨K - 1, by omega⟩
    rw [Wb, sub_none, Nat.or_zero, Nat.sub_self, Nat.xor_self, Wb_leaf E (by omega) (fun c h1 h2 => by unfold wgt; rw [(hs c h2).2]; simp; omega), Nat.mul_one]
    unfold wgt
    rw [(hs 0 (by omega)).2]; simp
  | r + 1, s, hr, hs => by
    rw [dcn, rst_succ (by omega), Wb_point (by omega) K s _ (Nat.le_refl _) (by rw [rst_bit, decide_eq_false (show ¬ N - r ≤ N - (r + 1) by omega), Bool.and_false])]
    refine sm_congr K fun c hc => ?_
    rw [Nat.sub_self, Nat.zero_add]
    have hsc := hs c hc
    rw [hok c _ _ hc (by omega) hsc.1 hsc.2]
    by_cases hf : fr c (s c ||| 2 ^ (N - (r + 1))) = true
    · rw [if_pos hf]
      refine dcn_W hK hmono hok r _ (by omega) (fun c' hc' => ?_)
      by_cases e : c' = c
      · subst e
        rw [setF_same]
        refine ⟨?_, hf⟩
        have h2 : 2 ^ (N - (r + 1)) < 2 ^ (N - r) := Nat.pow_lt_pow_right (by omega) (by omega)
        exact Nat.or_lt_two_pow (Nat.lt_trans hsc.1 h2) h2
      · rw [setF_ne _ _ e]
        exact ⟨Nat.lt_of_lt_of_le (hs c' hc').1 (Nat.pow_le_pow_right (by omega) (by omega)), (hs c' hc').2⟩
    · rw [if_neg hf]
      refine (Wb_dead hc (fun p => ?_) K _ (Nat.le_refl _) (by omega)).symm
      unfold wgt
      rw [setF_same, hmono c _ p hc (by simpa using hf)]; rfl
end Go.Proofs.YtckffliiidgilaaDoor

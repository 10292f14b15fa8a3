/- Extensions counted: what both sides answer. Nothing of the program. -/
import Derived.Test.YtckffliiidgilaaDoorCxq
import Derived.Test.YtckffliiidgilaaDoorBac
namespace Go.Proofs.YtckffliiidgilaaDoor
set_option linter.unusedVariables false
set_option linter.unusedSimpArgs false
/-- May a class be S: has it no clique that needs one point more? -/
def fre (bs : List Nat) (N : Nat) (zs : List Int) (c S : Nat) : Bool := !hasK (rwN bs (c : Int) N) N ((zs.getD c 0).toNat - 1) S
def okx (bs : List Nat) (N : Nat) (zs : List Int) (c n T : Nat) : Bool := !hasK (rwN bs (c : Int) N) N ((zs.getD c 0).toNat - 2) (T &&& rwN bs (c : Int) N n)
/-- No size is 1. -/
def no1 (zs : List Int) (K : Nat) : Prop := ∀ c, c < K → 2 ≤ zs.getD c 0
theorem fre_mono {bs : List Nat} {N : Nat} {zs : List Int} (c p q : Nat) (h : fre bs N zs c p = false) : fre bs N zs c (p ||| q) = false := by
  unfold fre at h ⊢
  have h1 : hasK (rwN bs (c : Int) N) N ((zs.getD c 0).toNat - 1) p = true := by simpa using h
  obtain ⟨l, a1, a2, a3, a4⟩ := (hasK_iff rwN_sym).1 h1
  rw [hasK_of _ _ l ⟨a1, a2, fun x hx => ⟨(a3 x hx).1, by rw [Nat.testBit_or, (a3 x hx).2]; rfl⟩, a4⟩]; rfl
theorem fre_ok {bs : List Nat} {N K : Nat} {zs : List Int} (h2 : no1 zs K) (c n T : Nat) (hc : c < K) (hn : n < N) (hT : T < 2 ^ n) (hf : fre bs N zs c T = true) : okx bs N zs c n T = fre bs N zs c (T ||| 2 ^ n) := by
  have hz := h2 c hc
  unfold fre at hf ⊢
  unfold okx
  have hf' : hasK (rwN bs (c : Int) N) N ((zs.getD c 0).toNat - 1) T = false := by simpa using hf
  obtain ⟨m, hm⟩ : ∃ m : Nat, (zs.getD c 0).toNat = m + 2 := ⟨(zs.getD c 0).toNat - 2, by omega⟩
  rw [hm] at hf' ⊢
  simp only [Nat.add_sub_cancel] at hf' ⊢
  rw [show m + 2 - 1 = m + 1 by omega] at hf' ⊢
  congr 1
  have hTn : T.testBit n = false := Nat.testBit_lt_two_pow hT
  have hsym := rwN_sym (bs := bs) (c := (c : Int)) (N := N)
  rw [Bool.eq_iff_iff]
  constructor
  · intro h
    obtain ⟨l, a1, a2, a3, a4⟩ := (hasK_iff hsym).1 h
    have hl : ∀ x ∈ l, x < N ∧ T.testBit x = true ∧ (rwN bs (c : Int) N n).testBit x = true := fun x hx => by
      have := a3 x hx
      rw [Nat.testBit_and, Bool.and_eq_true] at this
      exact this
    refine hasK_of _ _ (n :: l) ⟨?_, by simp [a2], ?_, ?_⟩
    · rw [List.nodup_cons]
      exact ⟨fun hx => absurd ((hl n hx).2.1) (by rw [hTn]; simp), a1⟩
    · intro x hx
      rcases List.mem_cons.1 hx with e | hx
      · rw [e, orb_bit]; exact ⟨hn, by simp⟩
      · rw [orb_bit, (hl x hx).2.1]; exact ⟨(hl x hx).1, rfl⟩
    · intro x hx y hy hne
      rcases List.mem_cons.1 hx with e | hx
      · rcases List.mem_cons.1 hy with e' | hy
        · exact absurd (e.trans e'.symm) hne
        · rw [e]; exact (hl y hy).2.2
      · rcases List.mem_cons.1 hy with e' | hy
        · rw [e', hsym x n (hl x hx).1 hn]; exact (hl x hx).2.2
        · exact a4 x hx y hy hne
  · intro h
    obtain ⟨l, a1, a2, a3, a4⟩ := (hasK_iff hsym).1 h
    by_cases hnl : n ∈ l
    · refine hasK_of _ _ (l.erase n) ⟨a1.erase n, by rw [List.length_erase_of_mem hnl]; omega, ?_, fun x hx y hy hne => a4 x (List.mem_of_mem_erase hx) y (List.mem_of_mem_erase hy) hne⟩
      intro x hx
      rw [a1.mem_erase_iff] at hx
      have h3 := a3 x hx.2
      rw [orb_bit, decide_eq_false hx.1, Bool.or_false] at h3
      exact ⟨h3.1, by rw [Nat.testBit_and, h3.2, a4 n hnl x hx.2 (fun e => hx.1 e.symm)]; rfl⟩
    · have : hasK (rwN bs (c : Int) N) N (m + 1) T = true := hasK_of _ _ l ⟨a1, a2, fun x hx => by
        have h3 := a3 x hx
        rw [orb_bit, decide_eq_false (show ¬ x = n from fun e => hnl (by rw [← e]; exact hx)), Bool.or_false] at h3
        exact h3, a4⟩
      rw [hf'] at this; cases this
/-- How often the colour 0 has d points. -/
def fnd (d T : Nat) : Nat := if ones T = d then 1 else 0
/-- The weights of the classes; the ways from a colour on. -/
def wyG (bs : List Nat) (N : Nat) (zs : List Int) (d : Nat) : Nat → Nat → Nat := wgt (fre bs N zs) (fnd d)
def wyW (bs : List Nat) (N K : Nat) (zs : List Int) (e S : Nat) : Nat := Wb (wyG bs N zs 0) K N (fun _ => 0) e S
theorem Wb_tail {w v : Nat → Nat → Nat} {K N : Nat} {s : Nat → Nat} (h : ∀ c p, 1 ≤ c → w c p = v c p) : ∀ e S, e + 1 ≤ K → Wb w K N s e S = Wb v K N s e S
  | 0, _, _ => rfl
  | e + 1, S, he => by
    rw [Wb, Wb]
    exact sub_congr N fun p _ _ => by rw [h _ _ (by omega), Wb_tail h e _ (by omega)]
/-- The numbers of extensions by degree. -/
def cdN (bs : List Nat) (N K : Nat) (zs : List Int) (d : Nat) : Nat := dcn (okx bs N zs) K N (fnd d) N (fun _ => 0)
theorem fre_empty {bs : List Nat} {N K : Nat} {zs : List Int} (hN : N ≤ 17) (h2 : no1 zs K) {c : Nat} (hc : c < K) : fre bs N zs c 0 = true := by
  have := h2 c hc
  unfold fre
  rw [hasK_few hN (by simp) (by rw [ones_0]; omega)]; rfl
/-- What the program sums. -/
def pdN (bs : List Nat) (N K : Nat) (zs : List Int) (d j : Nat) : Nat := sm (fun S => if fre bs N zs 0 S = true ∧ ones S = d then wyW bs N K zs (K - 1) ((2 ^ N - 1) ^^^ S) else 0) j
theorem cd_pd {bs : List Nat} {N K : Nat} {zs : List Int} (hN : N ≤ 17) (hK : 1 ≤ K) (h2 : no1 zs K) (d : Nat) : cdN bs N K zs d = pdN bs N K zs d (2 ^ N) := by
  unfold cdN pdN
  rw [dcn_W (fr := fre bs N zs) hK (fun c p q _ h => fre_mono c p q h) (fun c n T hc hn hT hf => fre_ok h2 c n T hc hn hT hf) N _ (Nat.le_refl _) (fun c hc => ⟨Nat.two_pow_pos _, fre_empty hN h2 hc⟩), rst_full]
  obtain ⟨E, rfl⟩ : ∃ E, K = E + 1 := ⟨K - 1, by omega⟩
  rw [Wb, sub_eq]
  refine sm_congr _ fun S hS => ?_
  have hsub : S &&& (2 ^ N - 1) = S := by rw [Nat.and_two_pow_sub_one_eq_mod]; exact Nat.mod_eq_of_lt hS
  rw [if_pos hsub, Nat.sub_self, Nat.zero_or, Nat.add_sub_cancel]
  unfold wyW
  rw [Wb_tail (w := wgt (fre bs N zs) (fnd d)) (v := wyG bs N zs 0) (fun c p hc => by unfold wyG wgt; rw [if_neg (show ¬ c = 0 by omega), if_neg (show ¬ c = 0 by omega)]) E _ (by omega)]
  unfold wgt fnd
  by_cases h3 : fre bs N zs 0 S = true
  · by_cases h4 : ones S = d
    · simp [h3, h4]
    · simp [h3, h4]
  · simp [h3]
theorem wy_zero (bs : List Nat) (N K : Nat) (zs : List Int) (S : Nat) : wyW bs N K zs 0 S = if S = 0 then 1 else 0 := rfl
theorem wy_succ {bs : List Nat} {N K : Nat} {zs : List Int} {e : Nat} (he : e + 2 ≤ K) (S : Nat) : wyW bs N K zs (e + 1) S = sm (fun p => if p &&& S = p ∧ fre bs N zs (K - (e + 1)) p = true then wyW bs N K zs e (S ^^^ p) else 0) (2 ^ N) := by
  unfold wyW
  rw [Wb, sub_eq]
  refine sm_congr _ fun p hp => ?_
  rw [Nat.zero_or]
  unfold wyG wgt
  by_cases h1 : p &&& S = p
  · by_cases h2 : fre bs N zs (K - (e + 1)) p = true
    · rw [if_pos h1, if_pos h2, if_neg (by omega), if_pos ⟨h1, h2⟩, Nat.one_mul]
    · rw [if_pos h1, if_neg h2, if_neg (fun h => h2 h.2), Nat.zero_mul]
  · rw [if_neg h1, if_neg (fun h => h1 h.1)]
theorem wy_le {bs : List Nat} {N K : Nat} {zs : List Int} : ∀ e S, e + 1 ≤ K → wyW bs N K zs e S ≤ (2 ^ N) ^ e
  | 0, S, _ => by rw [wy_zero]; split <;> simp
  | e + 1, S, he => by
    unfold wyW
    rw [Wb, Nat.pow_succ, Nat.mul_comm]
    refine sub_le N S _ fun p _ => ?_
    have h1 := wy_le (bs := bs) (N := N) (K := K) (zs := zs) e (S ^^^ p) (by omega)
    have h2 : wyG bs N zs 0 (K - (e + 1)) ((fun _ => 0) (K - (e + 1)) ||| p) ≤ 1 := by unfold wyG wgt; split <;> (try split) <;> omega
    unfold wyW at h1
    calc _ ≤ 1 * (2 ^ N) ^ e := Nat.mul_le_mul h2 h1
      _ = _ := Nat.one_mul _
end Go.Proofs.YtckffliiidgilaaDoor

/- Free sets: by the cliques of one size, and by the search. Nothing of the program but the lists of cliques. -/
import Derived.Test.YtckffliiidgilaaDoorCxm
import Derived.Test.YtckffliiidgilaaDoorLbm
namespace Go.Proofs.YtckffliiidgilaaDoor
set_option linter.unusedVariables false
set_option linter.unusedSimpArgs false
theorem mem_stK {X q : Nat} : ∀ k, q ∈ stK X k ↔ q < k ∧ X.testBit q = true
  | 0 => by simp [stK]
  | k + 1 => by
    rw [stK]
    have ih := mem_stK (X := X) (q := q) k
    by_cases hb : X.testBit k = true
    · rw [if_pos hb, List.mem_cons, ih]
      constructor
      · rintro (h | h)
        · subst h; exact ⟨by omega, hb⟩
        · exact ⟨by omega, h.2⟩
      · rintro ⟨h1, h2⟩
        by_cases e : q = k
        · exact .inl e
        · exact .inr ⟨by omega, h2⟩
    · rw [if_neg hb, ih]
      constructor
      · rintro ⟨h1, h2⟩; exact ⟨by omega, h2⟩
      · rintro ⟨h1, h2⟩
        refine ⟨?_, h2⟩
        by_cases e : q = k
        · subst e; exact absurd h2 hb
        · omega
theorem stK_desc {X : Nat} : ∀ k, (stK X k).Pairwise (· > ·)
  | 0 => List.Pairwise.nil
  | k + 1 => by
    rw [stK]
    split
    · exact List.pairwise_cons.2 ⟨fun q hq => ((mem_stK k).1 hq).1, stK_desc k⟩
    · exact stK_desc k
theorem adn_sub {s : List Nat} {S : Nat} (h17 : ∀ q ∈ s, q < 17) : adn (bitS s) S = 0 ↔ ∀ q ∈ s, S.testBit q = true := by
  have hX : bitS s < 2 ^ 32 := Nat.lt_of_lt_of_le (bitS_lt s h17) (Nat.pow_le_pow_right (by omega) (by omega))
  constructor
  · intro h q hq
    have h1 := adn_bit (a := bitS s) (b := S) (j := q) hX
    rw [h, bitS_bit, decide_eq_true hq] at h1
    simpa using h1.symm
  · intro h
    apply Nat.eq_of_testBit_eq
    intro j
    rw [adn_bit hX, bitS_bit, Nat.zero_testBit]
    by_cases hj : j ∈ s
    · rw [h j hj]; simp
    · rw [decide_eq_false hj]; rfl
/-- Some clique of the list lies in S. -/
theorem cs_in {bs : List Nat} {c : Int} {N m S : Nat} (hN : N ≤ 17) (hm : m ≠ 0) : (∃ s ∈ csL (nsF bs c (eseq N)) N (m : Int), adn (bitS s) S = 0) ↔ hasK (rwN bs c N) N m S = true := by
  have hsym := rwN_sym (bs := bs) (c := c) (N := N)
  constructor
  · rintro ⟨s, hs, ha⟩
    obtain ⟨h1, h2⟩ := cs_mem hN hs
    obtain ⟨h3, h4, h5⟩ := mem_cqE.1 h1
    obtain ⟨u1, u2, u3, u4⟩ := chn_uc hsym h4 h5
    exact hasK_of _ _ s ⟨u1, by omega, fun p hp => ⟨h5 p hp, (adn_sub (fun q hq => by have := h5 q hq; omega)).1 ha p hp⟩, u4⟩
  · intro h
    obtain ⟨l, a1, a2, a3, a4⟩ := (hasK_iff hsym).1 h
    have hmem : ∀ q, q ∈ stK (bitS l) N ↔ q ∈ l := fun q => by
      rw [mem_stK, bitS_bit, decide_eq_true_eq]
      exact ⟨fun h => h.2, fun h => ⟨(a3 q h).1, h⟩⟩
    have hd := stK_desc (X := bitS l) N
    have hlen : (stK (bitS l) N).length = m := by
      rw [← a2]
      exact ((List.perm_ext_iff_of_nodup (hd.imp (fun h e => by omega)) a1).2 hmem).length_eq
    refine ⟨stK (bitS l) N, mem_cs hN (mem_cqE.2 ⟨fun e => by rw [e] at hlen; simp at hlen; omega, ?_, fun q hq => (a3 q ((hmem q).1 hq)).1⟩) (by rw [hlen]), ?_⟩
    · refine List.Pairwise.imp_of_mem ?_ hd
      intro x y hx hy hxy
      exact ⟨hxy, a4 y ((hmem y).1 hy) x ((hmem x).1 hx) (by omega)⟩
    · refine (adn_sub (fun q hq => by have := (a3 q ((hmem q).1 hq)).1; omega)).2 fun q hq => (a3 q ((hmem q).1 hq)).2
theorem fre_no {bs : List Nat} {N K c S : Nat} {zs : List Int} (hN : N ≤ 17) (h2 : no1 zs K) (hc : c < K) {s : List Nat} (hs : s ∈ csL (nsF bs (c : Int) (eseq N)) N (zs.getD c 0 - 1)) (ha : adn (bitS s) S = 0) : fre bs N zs c S = false := by
  have hz := h2 c hc
  unfold fre
  rw [(cs_in hN (by omega)).1 ⟨s, by rw [show (((zs.getD c 0).toNat - 1 : Nat) : Int) = zs.getD c 0 - 1 by omega]; exact hs, ha⟩]; rfl
theorem fre_yes {bs : List Nat} {N K c S : Nat} {zs : List Int} (hN : N ≤ 17) (h2 : no1 zs K) (hc : c < K) (h : ∀ s ∈ csL (nsF bs (c : Int) (eseq N)) N (zs.getD c 0 - 1), adn (bitS s) S ≠ 0) : fre bs N zs c S = true := by
  have hz := h2 c hc
  unfold fre
  cases hk : hasK (rwN bs (c : Int) N) N ((zs.getD c 0).toNat - 1) S with
  | false => rfl
  | true =>
    obtain ⟨s, hs, ha⟩ := (cs_in hN (show (zs.getD c 0).toNat - 1 ≠ 0 by omega)).2 hk
    rw [show (((zs.getD c 0).toNat - 1 : Nat) : Int) = zs.getD c 0 - 1 by omega] at hs
    exact absurd ha (h s hs)
end Go.Proofs.YtckffliiidgilaaDoor

/- Triangles as sets of edges in 16 bits: do they lie in a player's set? -/
import Derived.Test.YtidengcihakijaaRdp
namespace Go.Proofs.Ytidengcihakijaa
set_option linter.unusedVariables false
set_option linter.unusedSimpArgs false
open Go Go.RowKit
theorem andnot_bit (m T j : Nat) (hm : m < 65536) (hT : T < 65536) : (BitVec.ofInt 16 (m : Int) &&& ~~~BitVec.ofInt 16 (T : Int)).toNat.testBit j = (m.testBit j && (decide (j < 16) && !T.testBit j)) := by
  rw [BitVec.toNat_and, BitVec.toNat_not, ofInt_u16 m hm, ofInt_u16 T hT, Nat.testBit_and]
  rw [show 2 ^ 16 - 1 - T = 2 ^ 16 - (T + 1) by omega, Nat.testBit_two_pow_sub_succ (by omega)]
theorem u16_fit (m T : Nat) (hm : m < 65536) (hT : T < 65536) : (bits .andNot .u16 (m : Int) (T : Int) == 0) = true ↔ (∀ j, m.testBit j = true → T.testBit j = true) := by
  show (IntKind.u16.wrap ((BitVec.ofInt 16 (m : Int) &&& ~~~BitVec.ofInt 16 (T : Int)).toNat : Int) == 0) = true ↔ _
  have hb := fun j => andnot_bit m T j hm hT
  have hlt := (BitVec.ofInt 16 (m : Int) &&& ~~~BitVec.ofInt 16 (T : Int)).isLt
  generalize (BitVec.ofInt 16 (m : Int) &&& ~~~BitVec.ofInt 16 (T : Int)).toNat = X at *
  rw [u16_wrap X hlt, beq_iff_eq]
  constructor
  · intro hX j hj
    have h := hb j
    obtain rfl : X = 0 := by omega
    have hj16 : j < 16 := by
      rcases Nat.lt_or_ge j 16 with h | h
      · exact h
      · rw [Nat.testBit_lt_two_pow (Nat.lt_of_lt_of_le hm (show 2 ^ 16 ≤ 2 ^ j from Nat.pow_le_pow_right (by omega) h))] at hj; cases hj
    rw [hj, Nat.zero_testBit, Bool.true_and] at h
    simpa [hj16] using h.symm
  · intro h
    have : X = 0 := by
      apply Nat.eq_of_testBit_eq
      intro j
      rw [hb j, Nat.zero_testBit]
      cases hj : m.testBit j with
      | false => rfl
      | true => rw [h j hj]; simp
    omega
theorem fit_mk {P : Int} {zs : List Int} {k j i : Nat} (hlen : zs.length ≤ 10) (hA : eN j + i < zs.length) (hB : eN k + i < zs.length) (hC : eN k + j < zs.length) :
    (bits .andNot .u16 (mk3 k j i : Nat) (tkn P zs zs.length : Nat) == 0) = has3 P zs k j i := by
  have hT := tkn_lt (P := P) (zs := zs) (k := zs.length) hlen
  have hbit : ∀ q, q < zs.length → (tkn P zs zs.length).testBit q = pw P zs q := fun q hq => by unfold tkn; rw [arK_bit]; simp [hq]
  have p : ∀ q, q < zs.length → 2 ^ q < 2 ^ 10 := fun q hq => Nat.pow_lt_pow_right (by omega) (by omega)
  have hm : mk3 k j i < 2 ^ 10 := Nat.or_lt_two_pow (Nat.or_lt_two_pow (p _ hA) (p _ hB)) (p _ hC)
  rw [Bool.eq_iff_iff, u16_fit _ _ (by omega) (by omega)]
  have hmb : ∀ q, (mk3 k j i).testBit q = ((decide (eN j + i = q) || decide (eN k + i = q)) || decide (eN k + j = q)) := fun q => by
    unfold mk3; rw [Nat.testBit_or, Nat.testBit_or, Nat.testBit_two_pow, Nat.testBit_two_pow, Nat.testBit_two_pow]
  unfold has3
  rw [Bool.and_eq_true, Bool.and_eq_true]
  constructor
  · intro h
    exact ⟨⟨by rw [← hbit _ hA]; exact h _ (by rw [hmb]; simp), by rw [← hbit _ hB]; exact h _ (by rw [hmb]; simp)⟩, by rw [← hbit _ hC]; exact h _ (by rw [hmb]; simp)⟩
  · rintro ⟨⟨h1, h2⟩, h3⟩ q hq
    rw [hmb] at hq
    simp only [Bool.or_eq_true, decide_eq_true_eq] at hq
    rcases hq with (rfl | rfl) | rfl
    · rw [hbit _ hA]; exact h1
    · rw [hbit _ hB]; exact h2
    · rw [hbit _ hC]; exact h3
/-- The program's way of writing a triangle. -/
theorem u16_mk {A B C : Nat} (hA : A < 10) (hB : B < 10) (hC : C < 10) : bits .or .u16 (bits .or .u16 (IntKind.u16.wrap (2 ^ C)) (IntKind.u16.wrap (2 ^ A))) (IntKind.u16.wrap (2 ^ B)) = ((2 ^ A ||| 2 ^ B ||| 2 ^ C : Nat) : Int) := by
  have p : ∀ q, q < 10 → IntKind.u16.wrap (2 ^ q) = ((2 ^ q : Nat) : Int) ∧ 2 ^ q < 2 ^ 10 := fun q hq => by
    have h2 : 2 ^ q < 2 ^ 10 := Nat.pow_lt_pow_right (by omega) hq
    have e : (2 : Int) ^ q = ((2 ^ q : Nat) : Int) := by simp
    rw [e]
    generalize 2 ^ q = y at *
    exact ⟨u16_wrap y (by omega), h2⟩
  obtain ⟨a1, a2⟩ := p A hA
  obtain ⟨b1, b2⟩ := p B hB
  obtain ⟨c1, c2⟩ := p C hC
  have h1 := Nat.or_lt_two_pow c2 a2
  rw [a1, b1, c1, u16_or_nat _ _ (by omega) (by omega), u16_or_nat _ _ (by omega) (by omega)]
  congr 1
  rw [Nat.or_assoc, Nat.or_comm]
set_option maxRecDepth 100000 in
theorem tri67 (n : Int) (a b : Nat) (P : Int) (w : World) :
    Calls Try.prog 56 #[psV n a b, .int .i64 P] w fun e w' => e = .returned (.func (.func 67) #[] #[.pointer (some ⟨w.heap.size, 0, none⟩), .pointer (some ⟨w.heap.size + 1, 0, none⟩)]) ∧
      Blk w' w.heap.size (psC n a b) 44 ∧ Blk w' (w.heap.size + 1) #[.int .i64 P] 2 ∧ Below w.heap.size w w' := by
  have hmf : ∀ (fn : Fn) (first cap : Array Value) (w : World), (Instr.makeFunc fn first cap).run Try.prog w = .ok (.func fn first cap) w := fun _ _ _ _ => rfl
  have hb := hidd (((Below.refl w.heap.size w).alloc (Nat.le_refl _) (.cells (psC n a b) 44)).alloc (by simp) (.cells #[.int .i64 P] 2))
  have h1 := hidd ((Blk.new w (psC n a b) 44 _ rfl).alloc (.cells #[.int .i64 P] 2))
  have h2 := hidd (Blk.new (w.alloc (.cells (psC n a b) 44)) #[.int .i64 P] 2 (w.heap.size + 1) (by simp))
  rw [psV_eq]
  go_enter Try.func56, Try.ntmps56
  go_wp2
  go_ret
  exact ⟨rfl, h1.out, h2.out, hb.out⟩
end Go.Proofs.Ytidengcihakijaa

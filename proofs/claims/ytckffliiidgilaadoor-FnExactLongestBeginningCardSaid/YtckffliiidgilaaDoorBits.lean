/- Sets of points as numbers of 32 bits: how many, which is the last, does a point fit. -/
import Derived.Test.YtckffliiidgilaaDoorCqM
import Derived.Lib.BitFns
namespace Go.Proofs.YtckffliiidgilaaDoor
set_option linter.unusedVariables false
set_option linter.unusedSimpArgs false
open Go Go.RowKit Go.Shelf
theorem pop_ones : ∀ (f x : Nat), x < 2 ^ f → Lib.popAux f x = ones x
  | 0, x, h => by
    have : x = 0 := by simpa using h
    subst this; rw [ones_0]; rfl
  | f + 1, x, h => by
    rw [Lib.popAux, ones_eq x, pop_ones f (x / 2) (by rw [Nat.pow_succ] at h; omega)]
theorem pop8_ones (y : Nat) (h : y < 256) : Lib.pop8 (y : Int) = (ones y : Int) := by
  have := Lib.pop8_eq ⟨y, h⟩
  rw [this]
  unfold Lib.onesCount
  rw [pop_ones 64 y (by omega)]
theorem ones_split : ∀ (k X : Nat), ones X = ones (X % 2 ^ k) + ones (X / 2 ^ k)
  | 0, X => by simp [Nat.mod_one, ones_0]
  | k + 1, X => by
    rw [ones_eq X, ones_split k (X / 2), ones_eq (X % 2 ^ (k + 1)), Nat.div_div_eq_div_mul, show 2 * 2 ^ k = 2 ^ (k + 1) by rw [Nat.pow_succ, Nat.mul_comm]]
    have h1 : X % 2 ^ (k + 1) % 2 = X % 2 := by rw [Nat.pow_succ, Nat.mul_comm, Nat.mod_mul_right_mod]
    have h2 : X % 2 ^ (k + 1) / 2 = X / 2 % 2 ^ k := by rw [Nat.pow_succ, Nat.mul_comm, Nat.mod_mul_right_div_self]
    rw [h1, h2]; omega
theorem idx_pop {S : ByteArray} (hS : S = Lib.pop8tab) (k : IntKind) (y : Int) (h0 : 0 ≤ y) (h1 : y ≤ 255) (w : World) : (Instr.index 9 (.string S) (.int k y)).run Tryd.prog w = .ok (.int .u8 (Lib.pop8 y)) w := by
  subst hS
  exact Lib.run_index_pop8tab w 9 k y Tryd.underlying9 h0 h1
theorem quiet_idx {o : Oper} {a : Act} {C : World → Prop} {w : World} {S : ByteArray} {k : IntKind} {y : Int} (t : Tmp) (ho : o.op = .index 9 (.const (.string S)) (.tmp t)) (ht : a.eval (.tmp t) = .int k y) (hS : S = Lib.pop8tab) (h0 : 0 ≤ y) (h1 : y ≤ 255) (hC : C w) : o.quietAt Tryd.prog a C w (.int .u8 (Lib.pop8 y)) := by
  have h := idx_pop hS k y h0 h1 w
  have e : (execOp a.eval o).run Tryd.prog w = .ok (.value (.int .u8 (Lib.pop8 y))) w := by
    unfold execOp
    simp only [ho, ht, Act.eval, Sem.run_bind, Sem.run_pure] at ht h ⊢
    simp only [ht, h, Result.andThen_ok]
  unfold Oper.quietAt
  rw [e]
  exact ⟨rfl, rfl⟩
theorem ofInt_u32 (a : Nat) (ha : a < 4294967296) : (BitVec.ofInt 32 (a : Int)).toNat = a := by
  rw [BitVec.toNat_ofInt]; omega
theorem u32_and_nat (a b : Nat) (ha : a < 4294967296) (hb : b < 4294967296) : bits .and .u32 (a : Int) (b : Int) = ((a &&& b : Nat) : Int) := by
  have hx : a &&& b < 2 ^ 32 := Nat.and_lt_two_pow _ (by omega)
  show IntKind.u32.wrap ((BitVec.ofInt 32 (a : Int) &&& BitVec.ofInt 32 (b : Int)).toNat : Int) = _
  rw [BitVec.toNat_and, ofInt_u32 a ha, ofInt_u32 b hb]
  unfold IntKind.wrap; simp [IntKind.signed, IntKind.bits]; omega
theorem u32_or_nat (a b : Nat) (ha : a < 4294967296) (hb : b < 4294967296) : bits .or .u32 (a : Int) (b : Int) = ((a ||| b : Nat) : Int) := by
  have hx : a ||| b < 2 ^ 32 := Nat.or_lt_two_pow (by omega) (by omega)
  show IntKind.u32.wrap ((BitVec.ofInt 32 (a : Int) ||| BitVec.ofInt 32 (b : Int)).toNat : Int) = _
  rw [BitVec.toNat_or, ofInt_u32 a ha, ofInt_u32 b hb]
  unfold IntKind.wrap; simp [IntKind.signed, IntKind.bits]; omega
theorem u32_mask (a : Nat) (ha : a < 4294967296) : bits .and .u32 (a : Int) 255 = ((a % 256 : Nat) : Int) := by
  have := u32_and_nat a 255 ha (by omega)
  rw [show (255 : Nat) = 2 ^ 8 - 1 from rfl, Nat.and_two_pow_sub_one_eq_mod] at this
  exact this
theorem u8_wrap {a : Int} (h0 : 0 ≤ a) (h1 : a < 256) : IntKind.u8.wrap a = a := u8_in h0 h1
theorem ones_lt8 {y : Nat} (h : y < 256) : ones y ≤ 8 := by
  have := Lib.onesCount_le8 ⟨y, h⟩
  unfold Lib.onesCount at this
  rwa [pop_ones 64 y (by omega)] at this
set_option maxRecDepth 100000 in
set_option maxHeartbeats 2000000 in
theorem ones49 (X : Nat) (hX : X < 2 ^ 17) (w : World) : Calls Tryd.prog 103 #[.int .u32 (X : Int)] w fun e w' => e = .returned (.int .i64 (ones X : Nat)) ∧ w' = w.drew := by
  have hx1 : (X : Int) / 16777216 = 0 := by omega
  have hp0 : Lib.pop8 0 = 0 := by have := pop8_ones 0 (by omega); rw [ones_0] at this; exact this
  obtain ⟨a1, ha1⟩ : ∃ a1, a1 = X / 65536 % 256 := ⟨_, rfl⟩
  obtain ⟨a2, ha2⟩ : ∃ a2, a2 = X / 256 % 256 := ⟨_, rfl⟩
  obtain ⟨a3, ha3⟩ : ∃ a3, a3 = X % 256 := ⟨_, rfl⟩
  have hx2 : bits .and .u32 ((X : Int) / 65536) 255 = (a1 : Int) := by rw [ha1]; exact u32_mask (X / 65536) (by omega)
  have hx3 : bits .and .u32 ((X : Int) / 256) 255 = (a2 : Int) := by rw [ha2]; exact u32_mask (X / 256) (by omega)
  have hx4 : bits .and .u32 (X : Int) 255 = (a3 : Int) := by rw [ha3]; exact u32_mask X (by omega)
  have hl1 : a1 < 256 := by omega
  have hl2 : a2 < 256 := by omega
  have hl3 : a3 < 256 := by omega
  have hp1 := pop8_ones a1 hl1
  have hp2 := pop8_ones a2 hl2
  have hp3 := pop8_ones a3 hl3
  have hb1 := ones_lt8 hl1
  have hb2 := ones_lt8 hl2
  have hb3 := ones_lt8 hl3
  have hsum : ones X = ones a1 + ones a2 + ones a3 := by
    rw [ones_split 8 X, ones_split 8 (X / 2 ^ 8), Nat.div_div_eq_div_mul, ha1, ha2, ha3]
    have e : X / 65536 % 256 = X / (2 ^ 8 * 2 ^ 8) := by rw [show 2 ^ 8 * 2 ^ 8 = 65536 from rfl]; exact Nat.mod_eq_of_lt (by omega)
    rw [e]
    show ones (X % 256) + (ones (X / 256 % 256) + _) = _
    omega
  obtain ⟨o1, ho1⟩ : ∃ o1, o1 = ones a1 := ⟨_, rfl⟩
  obtain ⟨o2, ho2⟩ : ∃ o2, o2 = ones a2 := ⟨_, rfl⟩
  obtain ⟨o3, ho3⟩ : ∃ o3, o3 = ones a3 := ⟨_, rfl⟩
  rw [← ho1] at hp1 hb1 hsum
  rw [← ho2] at hp2 hb2 hsum
  rw [← ho3] at hp3 hb3 hsum
  have HSUM := hidd hsum
  have hw1 : IntKind.u8.wrap (o1 : Int) = (o1 : Int) := u8_wrap (by omega) (by omega)
  obtain ⟨s2, hs2⟩ : ∃ s2, s2 = o1 + o2 := ⟨_, rfl⟩
  obtain ⟨s3, hs3⟩ : ∃ s3, s3 = s2 + o3 := ⟨_, rfl⟩
  have hw2 : IntKind.u8.wrap ((o1 : Int) + (o2 : Int)) = (s2 : Int) := by rw [u8_wrap (by omega) (by omega)]; omega
  have hw3 : IntKind.u8.wrap ((s2 : Int) + (o3 : Int)) = (s3 : Int) := by rw [u8_wrap (by omega) (by omega)]; omega
  have hw4 : IntKind.i64.wrap (s3 : Int) = (s3 : Int) := IntWalk.i64_in _ (by omega)
  have HS := hidd (show ones X = s3 by omega)
  clear ha1 ha2 ha3 ho1 ho2 ho3 hsum hs2 hs3
  go_enter Tryd.func103, Tryd.ntmps103
  go_wp2_with fail
  refine wp_region_quiet_at (fun w' => w' = w.drew) rfl (by kernel_rfl) (rfl) ?_
  refine qs rfl (fun KQ hKQ => ?_)
  apply Exists.intro
  refine ⟨fun w' hw' => ?_, ?_⟩
  · go_simp; exact rfl
  go_simp
  refine hKQ _ ?_
  clear hKQ KQ
  refine qs rfl (fun KQ hKQ => ?_)
  apply Exists.intro
  refine ⟨fun w' hw' => ?_, ?_⟩
  · go_simp; exact rfl
  go_simp
  refine hKQ _ ?_
  clear hKQ KQ
  refine qs rfl (fun KQ hKQ => ?_)
  apply Exists.intro
  refine ⟨fun w' hw' => ?_, ?_⟩
  · exact quiet_idx 4 rfl rfl (by kernel_rfl) (by omega) (by omega) hw'
  go_simp
  refine hKQ _ ?_
  clear hKQ KQ
  refine qs rfl (fun KQ hKQ => ?_)
  apply Exists.intro
  refine ⟨fun w' hw' => ?_, ?_⟩
  · go_simp; exact rfl
  go_simp
  refine hKQ _ ?_
  clear hKQ KQ
  refine qs rfl (fun KQ hKQ => ?_)
  apply Exists.intro
  refine ⟨fun w' hw' => ?_, ?_⟩
  · go_simp; exact rfl
  go_simp
  refine hKQ _ ?_
  clear hKQ KQ
  refine qs rfl (fun KQ hKQ => ?_)
  apply Exists.intro
  refine ⟨fun w' hw' => ?_, ?_⟩
  · go_simp; exact rfl
  go_simp
  refine hKQ _ ?_
  clear hKQ KQ
  refine qs rfl (fun KQ hKQ => ?_)
  apply Exists.intro
  refine ⟨fun w' hw' => ?_, ?_⟩
  · exact quiet_idx 8 rfl rfl (by kernel_rfl) (by omega) (by omega) hw'
  go_simp
  refine hKQ _ ?_
  clear hKQ KQ
  refine qs rfl (fun KQ hKQ => ?_)
  apply Exists.intro
  refine ⟨fun w' hw' => ?_, ?_⟩
  · go_simp; exact rfl
  go_simp
  refine hKQ _ ?_
  clear hKQ KQ
  refine qs rfl (fun KQ hKQ => ?_)
  apply Exists.intro
  refine ⟨fun w' hw' => ?_, ?_⟩
  · go_simp; exact rfl
  go_simp
  refine hKQ _ ?_
  clear hKQ KQ
  refine qs rfl (fun KQ hKQ => ?_)
  apply Exists.intro
  refine ⟨fun w' hw' => ?_, ?_⟩
  · go_simp; exact rfl
  go_simp
  refine hKQ _ ?_
  clear hKQ KQ
  refine qs rfl (fun KQ hKQ => ?_)
  apply Exists.intro
  refine ⟨fun w' hw' => ?_, ?_⟩
  · go_simp; exact rfl
  go_simp
  refine hKQ _ ?_
  clear hKQ KQ
  refine qs rfl (fun KQ hKQ => ?_)
  apply Exists.intro
  refine ⟨fun w' hw' => ?_, ?_⟩
  · exact quiet_idx 13 rfl rfl (by kernel_rfl) (by omega) (by omega) hw'
  go_simp
  refine hKQ _ ?_
  clear hKQ KQ
  refine qs rfl (fun KQ hKQ => ?_)
  apply Exists.intro
  refine ⟨fun w' hw' => ?_, ?_⟩
  · go_simp; exact rfl
  go_simp
  refine hKQ _ ?_
  clear hKQ KQ
  refine qs rfl (fun KQ hKQ => ?_)
  apply Exists.intro
  refine ⟨fun w' hw' => ?_, ?_⟩
  · go_simp; exact rfl
  go_simp
  refine hKQ _ ?_
  clear hKQ KQ
  refine qs rfl (fun KQ hKQ => ?_)
  apply Exists.intro
  refine ⟨fun w' hw' => ?_, ?_⟩
  · go_simp; exact rfl
  go_simp
  refine hKQ _ ?_
  clear hKQ KQ
  refine qs rfl (fun KQ hKQ => ?_)
  apply Exists.intro
  refine ⟨fun w' hw' => ?_, ?_⟩
  · exact quiet_idx 17 rfl rfl (by kernel_rfl) (by omega) (by omega) hw'
  go_simp
  refine hKQ _ ?_
  clear hKQ KQ
  refine qs rfl (fun KQ hKQ => ?_)
  apply Exists.intro
  refine ⟨fun w' hw' => ?_, ?_⟩
  · go_simp; exact rfl
  go_simp
  refine hKQ _ ?_
  clear hKQ KQ
  refine qs rfl (fun KQ hKQ => ?_)
  apply Exists.intro
  refine ⟨fun w' hw' => ?_, ?_⟩
  · go_simp; exact rfl
  go_simp
  refine hKQ _ ?_
  clear hKQ KQ
  refine qs rfl (fun KQ hKQ => ?_)
  apply Exists.intro
  refine ⟨fun w' hw' => ?_, ?_⟩
  · go_simp; exact rfl
  go_simp
  refine hKQ _ ?_
  clear hKQ KQ
  refine wpQuiet_nil ?_
  intro w' hw'
  subst hw'
  go_wp2_with fail
  go_ret
  exact ⟨by rw [HS.out]; rfl, rfl⟩
theorem len_log : ∀ (k X : Nat), 2 ^ k ≤ X → X < 2 ^ (k + 1) → k < 64 → Lib.bitLen X = k + 1 := fun k X h1 h2 hk => by
  have hlt : X < 2 ^ 64 := Nat.lt_of_lt_of_le h2 (Nat.pow_le_pow_right (by omega) (by omega))
  rw [Lib.bitLen_shift k X h1 hlt]
  have : X / 2 ^ k = 1 := by
    rw [Nat.pow_succ] at h2
    have hp : 0 < 2 ^ k := Nat.two_pow_pos k
    refine Nat.div_eq_of_lt_le (by omega) (by omega)
  rw [this]; rfl
theorem wpList_idx_len {ops : Array Oper} {rest : List Oper} {o : Oper} {a : Act} {w : World} {Q : Exit → Act → World → Prop} (hgd : o.guard = none) {S : ByteArray} {k : IntKind} {y : Int} (t : Tmp) (ho : o.op = .index 9 (.const (.string S)) (.tmp t)) (ht : a.eval (.tmp t) = .int k y) (hS : S = Lib.len8tab) (h0 : 0 ≤ y) (h1 : y ≤ 255)
    (h : wpList Tryd.prog ops Q rest (a.put o.dst (.int .u8 (Lib.len8 y))) w) : wpList Tryd.prog ops Q (o :: rest) a w := by
  refine wpList_plain hgd fun K hK => ?_
  have hr := Lib.run_index_len8tab (P := Tryd.prog) w 9 k y Tryd.underlying9 h0 h1
  rw [← hS] at hr
  unfold Oper.wp execOp
  simp only [Act.eval] at ht
  simp only [ho, Act.eval, ht, Sem.run_bind, Sem.run_pure, hr, Result.andThen_ok]
  exact hK _ _ h
theorem len8_nat (y : Nat) (h : y < 256) : Lib.len8 (y : Int) = (Lib.bitLen y : Int) := Lib.len8_eq ⟨y, h⟩
theorem bl_le8 {y : Nat} (h : y < 256) : Lib.bitLen y ≤ 8 := Lib.bitLen_le8 ⟨y, h⟩
set_option maxRecDepth 100000 in
set_option maxHeartbeats 2000000 in
theorem len64 (X : Nat) (hX : X < 2 ^ 17) (w : World) : Calls Tryd.prog 101 #[.int .u32 (X : Int)] w fun e w' => e = .returned (.int .i64 (Lib.bitLen X : Nat)) ∧ w = w' := by
  by_cases h1 : 65536 ≤ X
  · have hg1 : decide (65536 ≤ (X : Int)) = true := by simp; omega
    obtain ⟨y, hy⟩ : ∃ y, y = X / 65536 := ⟨_, rfl⟩
    have hyX : (X : Int) / 65536 = (y : Int) := by omega
    have hy1 : y < 256 := by omega
    have hg2 : decide (256 ≤ (y : Int)) = false := by simp; omega
    have hb := bl_le8 hy1
    have hl := len8_nat y hy1
    have hs := Lib.bitLen_shift16 X h1 (by omega)
    rw [← hy] at hs
    obtain ⟨L, hL⟩ : ∃ L, L = Lib.bitLen y := ⟨_, rfl⟩
    rw [← hL] at hs hb hl
    have hwl : IntKind.i64.wrap (16 + (L : Int)) = 16 + (L : Int) := IntWalk.i64_in _ (by omega)
    have hwy : IntKind.u8.wrap (y : Int) = (y : Int) := u8_wrap (by omega) (by omega)
    have HS := hidd hs
    clear hs hL hy
    go_enter Tryd.func101, Tryd.ntmps101
    go_wp2_with (refine wpList_idx_len rfl 15 rfl rfl (by kernel_rfl) (by omega) (by omega) ?_)
    go_ret
    exact ⟨by rw [HS.out]; rfl, rfl⟩
  · have hg1 : decide (65536 ≤ (X : Int)) = false := by simp; omega
    by_cases h2 : 256 ≤ X
    · have hg2 : decide (256 ≤ (X : Int)) = true := by simp; omega
      obtain ⟨y, hy⟩ : ∃ y, y = X / 256 := ⟨_, rfl⟩
      have hyX : (X : Int) / 256 = (y : Int) := by omega
      have hy1 : y < 256 := by omega
      have hb := bl_le8 hy1
      have hl := len8_nat y hy1
      have hs := Lib.bitLen_shift8 X h2 (by omega)
      rw [← hy] at hs
      obtain ⟨L, hL⟩ : ∃ L, L = Lib.bitLen y := ⟨_, rfl⟩
      rw [← hL] at hs hb hl
      have hwl : IntKind.i64.wrap (8 + (L : Int)) = 8 + (L : Int) := IntWalk.i64_in _ (by omega)
      have hwy : IntKind.u8.wrap (y : Int) = (y : Int) := u8_wrap (by omega) (by omega)
      have HS := hidd hs
      clear hs hL hy
      go_enter Tryd.func101, Tryd.ntmps101
      go_wp2_with (refine wpList_idx_len rfl 15 rfl rfl (by kernel_rfl) (by omega) (by omega) ?_)
      go_ret
      exact ⟨by rw [HS.out]; rfl, rfl⟩
    · have hg2 : decide (256 ≤ (X : Int)) = false := by simp; omega
      have hy1 : X < 256 := by omega
      have hb := bl_le8 hy1
      have hl := len8_nat X hy1
      obtain ⟨L, hL⟩ : ∃ L, L = Lib.bitLen X := ⟨_, rfl⟩
      rw [← hL] at hb hl
      have hwl : IntKind.i64.wrap (L : Int) = (L : Int) := IntWalk.i64_in _ (by omega)
      have hwy : IntKind.u8.wrap (X : Int) = (X : Int) := u8_wrap (by omega) (by omega)
      have HS := hidd hL
      clear hL
      go_enter Tryd.func101, Tryd.ntmps101
      go_wp2_with (refine wpList_idx_len rfl 15 rfl rfl (by kernel_rfl) (by omega) (by omega) ?_)
      go_ret
      exact ⟨by rw [← HS.out]; rfl, rfl⟩
/-- The digits of a set of points. -/
def bitS : List Nat → Nat
  | [] => 0
  | q :: s => bitS s ||| 2 ^ q
theorem bitS_bit : ∀ (s : List Nat) (j : Nat), (bitS s).testBit j = decide (j ∈ s)
  | [], j => by simp [bitS]
  | q :: s, j => by
    rw [bitS, Nat.testBit_or, bitS_bit s j, Nat.testBit_two_pow]
    by_cases h : j = q
    · subst h; simp
    · by_cases h2 : j ∈ s
      · simp [h, h2]
      · simp [h, h2, show ¬ q = j from fun e => h e.symm]
theorem bitS_lt : ∀ (s : List Nat) {m : Nat}, (∀ q ∈ s, q < m) → bitS s < 2 ^ m
  | [], m, _ => Nat.two_pow_pos m
  | q :: s, m, h => by
    refine Nat.or_lt_two_pow (bitS_lt s (fun p hp => h p (List.mem_cons_of_mem _ hp))) (Nat.pow_lt_pow_right (by omega) (h q (List.mem_cons_self ..)))
theorem bitS_top {q : Nat} {s : List Nat} (h : ∀ p ∈ s, p < q) : 2 ^ q ≤ bitS (q :: s) ∧ bitS (q :: s) < 2 ^ (q + 1) := by
  refine ⟨?_, bitS_lt _ (fun p hp => ?_)⟩
  · show 2 ^ q ≤ bitS s ||| 2 ^ q
    exact Nat.right_le_or
  · rcases List.mem_cons.1 hp with rfl | hp
    · omega
    · have := h p hp; omega
theorem bitS_drop {q : Nat} {s : List Nat} (h : ∀ p ∈ s, p < q) : bitS (q :: s) = bitS s + 2 ^ q := by
  show bitS s ||| 2 ^ q = _
  have e := Nat.two_pow_add_eq_or_of_lt (bitS_lt s h) 1
  rw [Nat.mul_one] at e
  rw [Nat.or_comm, ← e]; omega
theorem bitS_zero {s : List Nat} : bitS s = 0 ↔ s = [] := by
  constructor
  · intro h
    cases s with
    | nil => rfl
    | cons q s =>
      have : (bitS (q :: s)).testBit q = true := by rw [bitS_bit]; simp
      rw [h] at this; simp at this
  · intro h; subst h; rfl
theorem ones_bitS : ∀ (s : List Nat), s.Pairwise (· > ·) → ones (bitS s) = s.length
  | [], _ => ones_0
  | q :: s, h => by
    rw [List.pairwise_cons] at h
    have hq : ∀ p ∈ s, p < q := fun p hp => h.1 p hp
    rw [bitS_drop hq, ones_pow q _ (bitS_lt s hq), ones_bitS s h.2]; rfl
set_option maxRecDepth 100000 in
theorem last60 {q : Nat} {s : List Nat} (h : ∀ p ∈ s, p < q) (hq : q < 17) (w : World) : Calls Tryd.prog 76 #[.int .u32 (bitS (q :: s) : Nat)] w fun e w' => e = .returned (.int .i64 (q : Int)) ∧ w = w' := by
  obtain ⟨t1, t2⟩ := bitS_top h
  have hX : bitS (q :: s) < 2 ^ 17 := Nat.lt_of_lt_of_le t2 (Nat.pow_le_pow_right (by omega) (by omega))
  have hl := len_log q _ t1 t2 (by omega)
  obtain ⟨X, hXX⟩ : ∃ X, X = bitS (q :: s) := ⟨_, rfl⟩
  rw [← hXX] at hl hX ⊢
  have HL := hidd (fun W => len64 X hX W)
  rw [hl] at HL
  clear hl hXX t1 t2
  go_enter Tryd.func76, Tryd.ntmps76
  go_wp2_with (go_at_call 101; refine (HL.out _).mono ?_; rintro e w' ⟨rfl, rfl⟩)
  go_ret
  refine ⟨?_, rfl⟩
  simp
set_option maxRecDepth 100000 in
theorem size34 (X : Nat) (hX : X < 2 ^ 17) (w : World) : Calls Tryd.prog 87 #[.int .u32 (X : Int)] w fun e w' => e = .returned (.int .i64 (ones X : Nat)) ∧ w' = w.drew := by
  have HL := hidd (fun W => ones49 X hX W)
  go_enter Tryd.func87, Tryd.ntmps87
  go_wp2_with (go_at_call 103; refine (HL.out _).mono ?_; rintro e w' ⟨rfl, rfl⟩)
  go_ret
  exact ⟨rfl, rfl⟩
/-- The sets of neighbours as the program has them. -/
def ncell (f : Nat → Nat) : List Value := (List.range 17).map fun p => Value.int .u32 (f p : Int)
theorem ncell_get {f : Nat → Nat} {p : Nat} (h : p < 17) : (ncell f).toArray[p]? = some (.int .u32 (f p : Int)) := by simp [ncell, h]
theorem ncell_len (f : Nat → Nat) : (ncell f).length = 17 := by simp [ncell]
theorem ncell_set (f : Nat → Nat) (i v : Nat) : (ncell f).toArray.setIfInBounds i (.int .u32 (v : Int)) = (ncell (fun p => if p = i then v else f p)).toArray := by
  apply Array.ext'
  rw [Array.toList_setIfInBounds]
  apply List.ext_getElem
  · simp [ncell]
  · intro j h1 h2
    simp [ncell, List.getElem_set]
    by_cases e : i = j
    · subst e; simp
    · simp [e, show ¬ j = i from fun h => e h.symm]
theorem info84 : (Tryd.prog.info? 125).map (fun i => (i.zero, i.size)) = some (some (.agg (ncell fun _ => 0).toArray), 17) := by kernel_rfl
theorem size84 : (Tryd.prog.info? 125).map (·.size) = some 17 := (zero_of_info info84).2
end Go.Proofs.YtckffliiidgilaaDoor

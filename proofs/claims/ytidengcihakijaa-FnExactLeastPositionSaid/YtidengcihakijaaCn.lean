/- How many edges a player has: OnesCount16, size, mover, moveCount. -/
import Derived.Test.YtidengcihakijaaGm
import Derived.Test.YtidengcihakijaaQs
import Derived.Lib.BitFns
namespace Go.Proofs.Ytidengcihakijaa
set_option linter.unusedVariables false
set_option linter.unusedSimpArgs false
open Go Go.RowKit
theorem pop_ones : ∀ (f x : Nat), x < 2 ^ f → Lib.popAux f x = ones x
  | 0, x, h => by
    have : x = 0 := by simpa using h
    subst this; rw [ones_0]; rfl
  | f + 1, x, h => by
    rw [Lib.popAux, ones_eq x, pop_ones f (x / 2) (by rw [Nat.pow_succ] at h; omega)]
theorem pop8_ones (y : Nat) (h : y < 256) : Lib.pop8 (y : Int) = (ones y : Int) := by
  have := Lib.pop8_eq ⟨y, h⟩
  rw [this]
  unfold Lib.onesCount
  rw [pop_ones 64 y (by omega)]
theorem idx_pop {S : ByteArray} (hS : S = Lib.pop8tab) (k : IntKind) (y : Int) (h0 : 0 ≤ y) (h1 : y ≤ 255) (w : World) : (Instr.index 9 (.string S) (.int k y)).run Try.prog w = .ok (.int .u8 (Lib.pop8 y)) w := by
  subst hS
  exact Lib.run_index_pop8tab w 9 k y Try.underlying9 h0 h1
theorem quiet_idx {o : Oper} {a : Act} {C : World → Prop} {w : World} {S : ByteArray} {k : IntKind} {y : Int} (t : Tmp) (ho : o.op = .index 9 (.const (.string S)) (.tmp t)) (ht : a.eval (.tmp t) = .int k y) (hS : S = Lib.pop8tab) (h0 : 0 ≤ y) (h1 : y ≤ 255) (hC : C w) : o.quietAt Try.prog a C w (.int .u8 (Lib.pop8 y)) := by
  have h := idx_pop hS k y h0 h1 w
  have e : (execOp a.eval o).run Try.prog w = .ok (.value (.int .u8 (Lib.pop8 y))) w := by
    unfold execOp
    simp only [ho, ht, Act.eval, Sem.run_bind, Sem.run_pure] at ht h ⊢
    simp only [ht, h, Result.andThen_ok]
  unfold Oper.quietAt
  rw [e]
  exact ⟨rfl, rfl⟩
theorem ofInt_u16 (a : Nat) (ha : a < 65536) : (BitVec.ofInt 16 (a : Int)).toNat = a := by
  rw [BitVec.toNat_ofInt]; omega
theorem u16_wrap (a : Nat) (ha : a < 65536) : IntKind.u16.wrap (a : Int) = (a : Int) := by
  unfold IntKind.wrap; simp [IntKind.signed, IntKind.bits]; omega
theorem u16_and_nat (a b : Nat) (ha : a < 65536) (hb : b < 65536) : bits .and .u16 (a : Int) (b : Int) = ((a &&& b : Nat) : Int) := by
  have hx : a &&& b < 2 ^ 16 := Nat.and_lt_two_pow _ (by omega)
  show IntKind.u16.wrap ((BitVec.ofInt 16 (a : Int) &&& BitVec.ofInt 16 (b : Int)).toNat : Int) = _
  rw [BitVec.toNat_and, ofInt_u16 a ha, ofInt_u16 b hb]
  exact u16_wrap _ hx
theorem u16_or_nat (a b : Nat) (ha : a < 65536) (hb : b < 65536) : bits .or .u16 (a : Int) (b : Int) = ((a ||| b : Nat) : Int) := by
  have hx : a ||| b < 2 ^ 16 := Nat.or_lt_two_pow (by omega) (by omega)
  show IntKind.u16.wrap ((BitVec.ofInt 16 (a : Int) ||| BitVec.ofInt 16 (b : Int)).toNat : Int) = _
  rw [BitVec.toNat_or, ofInt_u16 a ha, ofInt_u16 b hb]
  exact u16_wrap _ hx
theorem u16_mask (a : Nat) (ha : a < 65536) : bits .and .u16 (a : Int) 255 = ((a % 256 : Nat) : Int) := by
  have := u16_and_nat a 255 ha (by omega)
  rw [show (255 : Nat) = 2 ^ 8 - 1 from rfl, Nat.and_two_pow_sub_one_eq_mod] at this
  exact this
theorem ones_lt8 {y : Nat} (h : y < 256) : ones y ≤ 8 := by
  have := Lib.onesCount_le8 ⟨y, h⟩
  unfold Lib.onesCount at this
  rwa [pop_ones 64 y (by omega)] at this
set_option maxRecDepth 100000 in
set_option maxHeartbeats 2000000 in
theorem ones68 (X : Nat) (hX : X < 2 ^ 10) (w : World) : Calls Try.prog 74 #[.int .u16 (X : Int)] w fun e w' => e = .returned (.int .i64 (ones X : Nat)) ∧ w' = w.drew := by
  obtain ⟨a2, ha2⟩ : ∃ a2, a2 = X / 256 := ⟨_, rfl⟩
  obtain ⟨a3, ha3⟩ : ∃ a3, a3 = X % 256 := ⟨_, rfl⟩
  have hx3 : (X : Int) / 256 = (a2 : Int) := by omega
  have hx4 : bits .and .u16 (X : Int) 255 = (a3 : Int) := by rw [ha3]; exact u16_mask X (by omega)
  have hl2 : a2 < 256 := by omega
  have hl3 : a3 < 256 := by omega
  have hp2 := pop8_ones a2 hl2
  have hp3 := pop8_ones a3 hl3
  have hb2 := ones_lt8 hl2
  have hb3 := ones_lt8 hl3
  have hsum : ones X = ones a2 + ones a3 := by
    rw [ones_split 8 X, ha2, ha3]
    show ones (X % 256) + ones (X / 256) = _
    omega
  obtain ⟨o2, ho2⟩ : ∃ o2, o2 = ones a2 := ⟨_, rfl⟩
  obtain ⟨o3, ho3⟩ : ∃ o3, o3 = ones a3 := ⟨_, rfl⟩
  rw [← ho2] at hp2 hb2 hsum
  rw [← ho3] at hp3 hb3 hsum
  obtain ⟨s2, hs2⟩ : ∃ s2, s2 = o2 + o3 := ⟨_, rfl⟩
  have hw2 : IntKind.u8.wrap ((o2 : Int) + (o3 : Int)) = (s2 : Int) := by rw [show (o2 : Int) + (o3 : Int) = (s2 : Int) by omega]; unfold IntKind.wrap; simp [IntKind.signed, IntKind.bits]; omega
  have hw4 : IntKind.i64.wrap (s2 : Int) = (s2 : Int) := IntWalk.i64_in _ (by omega)
  have HS := hidd (show ones X = s2 by omega)
  clear ha2 ha3 ho2 ho3 hsum hs2
  go_enter Try.func74, Try.ntmps74
  go_wp2_with fail
  refine wp_region_quiet_at (fun w' => w' = w.drew) rfl (by kernel_rfl) (rfl) ?_
  refine qs rfl (fun KQ hKQ => ?_)
  apply Exists.intro
  refine ⟨fun w' hw' => ?_, ?_⟩
  · go_simp; exact rfl
  go_simp
  refine hKQ _ ?_
  clear hKQ KQ
  refine qs rfl (fun KQ hKQ => ?_)
  apply Exists.intro
  refine ⟨fun w' hw' => ?_, ?_⟩
  · go_simp; exact rfl
  go_simp
  refine hKQ _ ?_
  clear hKQ KQ
  refine qs rfl (fun KQ hKQ => ?_)
  apply Exists.intro
  refine ⟨fun w' hw' => ?_, ?_⟩
  · exact quiet_idx 4 rfl rfl (by kernel_rfl) (by omega) (by omega) hw'
  go_simp
  refine hKQ _ ?_
  clear hKQ KQ
  refine qs rfl (fun KQ hKQ => ?_)
  apply Exists.intro
  refine ⟨fun w' hw' => ?_, ?_⟩
  · go_simp; exact rfl
  go_simp
  refine hKQ _ ?_
  clear hKQ KQ
  refine qs rfl (fun KQ hKQ => ?_)
  apply Exists.intro
  refine ⟨fun w' hw' => ?_, ?_⟩
  · go_simp; exact rfl
  go_simp
  refine hKQ _ ?_
  clear hKQ KQ
  refine qs rfl (fun KQ hKQ => ?_)
  apply Exists.intro
  refine ⟨fun w' hw' => ?_, ?_⟩
  · exact quiet_idx 7 rfl rfl (by kernel_rfl) (by omega) (by omega) hw'
  go_simp
  refine hKQ _ ?_
  clear hKQ KQ
  refine qs rfl (fun KQ hKQ => ?_)
  apply Exists.intro
  refine ⟨fun w' hw' => ?_, ?_⟩
  · go_simp; exact rfl
  go_simp
  refine hKQ _ ?_
  clear hKQ KQ
  refine qs rfl (fun KQ hKQ => ?_)
  apply Exists.intro
  refine ⟨fun w' hw' => ?_, ?_⟩
  · go_simp; exact rfl
  go_simp
  refine hKQ _ ?_
  clear hKQ KQ
  refine qs rfl (fun KQ hKQ => ?_)
  apply Exists.intro
  refine ⟨fun w' hw' => ?_, ?_⟩
  · go_simp; exact rfl
  go_simp
  refine hKQ _ ?_
  clear hKQ KQ
  refine wpQuiet_nil ?_
  intro w' hw'
  subst hw'
  go_wp2
  go_ret
  exact ⟨by rw [HS.out]; rfl, rfl⟩
theorem size55 (X : Nat) (hX : X < 2 ^ 10) (w : World) : Calls Try.prog 66 #[.int .u16 (X : Int)] w fun e w' => e = .returned (.int .i64 (ones X : Nat)) ∧ w' = w.drew := by
  go_enter Try.func66, Try.ntmps66
  go_wp2_with fail
  refine (ones68 X hX _).mono ?_
  rintro e w' ⟨rfl, rfl⟩
  go_wp2
  go_ret
  exact ⟨rfl, rfl⟩
/-- A position as the program holds it: its points, and both players' edges. -/
def psV (n : Int) (a b : Nat) : Value := .agg #[.int .i64 n, .int .u16 (a : Int), .int .u16 (b : Int)]
theorem psV_eq (n : Int) (a b : Nat) : psV n a b = .agg #[.int .i64 n, .int .u16 (a : Int), .int .u16 (b : Int)] := rfl
def psC (n : Int) (a b : Nat) : Array Value := #[.int .i64 n, .int .u16 (a : Int), .int .u16 (b : Int)]
theorem ones_le10 {X : Nat} (h : X < 2 ^ 10) : ones X ≤ 1024 := Nat.le_trans (ones_le X) (by omega)
set_option maxRecDepth 100000 in
set_option maxHeartbeats 2000000 in
theorem mover33 (n : Int) (a b : Nat) (ha : a < 2 ^ 10) (hb : b < 2 ^ 10) (w : World) : Calls Try.prog 54 #[psV n a b] w fun e w' => e = .returned (.int .i64 ((ones a : Int) - (ones b : Int))) ∧ Below w.heap.size w w' := by
  have h1 := ones_le10 ha
  have h2 := ones_le10 hb
  have H1 := hidd (fun w => size55 a ha w)
  have H2 := hidd (fun w => size55 b hb w)
  generalize ones a = A at *
  generalize ones b = B at *
  clear ha hb
  have HWR := hidd (show IntKind.i64.wrap ((A : Int) - (B : Int)) = (A : Int) - (B : Int) from IntWalk.i64_in _ (by omega))
  rw [psV_eq]
  have HB := hidd (And.intro (Blk.new w (psC n a b) 44 _ rfl) ((Below.refl w.heap.size w).alloc (Nat.le_refl _) (.cells (psC n a b) 44)))
  go_enter Try.func54, Try.ntmps54
  go_wp2_with fail
  refine wp_region_quiet_at (fun w' => Blk w' w.heap.size (psC n a b) 44 ∧ Below w.heap.size w w') rfl (by kernel_rfl) (⟨HB.out.1.drew, HB.out.2.drew⟩) ?_
  refine qs rfl (fun KQ hKQ => ?_)
  apply Exists.intro
  refine ⟨fun w' hw' => ?_, ?_⟩
  · go_simp; exact rfl
  go_simp
  refine hKQ _ ?_
  clear hKQ KQ
  refine qs rfl (fun KQ hKQ => ?_)
  apply Exists.intro
  refine ⟨fun w' hw' => ?_, ?_⟩
  · go_simp; exact rfl
  go_simp
  refine hKQ _ ?_
  clear hKQ KQ
  refine qs rfl (fun KQ hKQ => ?_)
  apply Exists.intro
  refine ⟨fun w' hw' => ?_, ?_⟩
  · have c1 := hw'.1.cell (j := 1) (show _ = some (Value.int .u16 (a : Int)) from rfl); go_simp; exact rfl
  go_simp
  refine hKQ _ ?_
  clear hKQ KQ
  refine qs rfl (fun KQ hKQ => ?_)
  apply Exists.intro
  refine ⟨fun w' hw' => ?_, ?_⟩
  · go_simp; exact (H1.out _).mono fun _ _ h => ⟨h.1, by rw [h.2]; exact ⟨hw'.1.drew, hw'.2.drew⟩⟩
  go_simp
  refine hKQ _ ?_
  clear hKQ KQ
  refine qs rfl (fun KQ hKQ => ?_)
  apply Exists.intro
  refine ⟨fun w' hw' => ?_, ?_⟩
  · go_simp; exact rfl
  go_simp
  refine hKQ _ ?_
  clear hKQ KQ
  refine qs rfl (fun KQ hKQ => ?_)
  apply Exists.intro
  refine ⟨fun w' hw' => ?_, ?_⟩
  · go_simp; exact rfl
  go_simp
  refine hKQ _ ?_
  clear hKQ KQ
  refine qs rfl (fun KQ hKQ => ?_)
  apply Exists.intro
  refine ⟨fun w' hw' => ?_, ?_⟩
  · have c1 := hw'.1.cell (j := 2) (show _ = some (Value.int .u16 (b : Int)) from rfl); go_simp; exact rfl
  go_simp
  refine hKQ _ ?_
  clear hKQ KQ
  refine qs rfl (fun KQ hKQ => ?_)
  apply Exists.intro
  refine ⟨fun w' hw' => ?_, ?_⟩
  · go_simp; exact (H2.out _).mono fun _ _ h => ⟨h.1, by rw [h.2]; exact ⟨hw'.1.drew, hw'.2.drew⟩⟩
  go_simp
  refine hKQ _ ?_
  clear hKQ KQ
  refine qs rfl (fun KQ hKQ => ?_)
  apply Exists.intro
  refine ⟨fun w' hw' => ?_, ?_⟩
  · go_simp; exact rfl
  go_simp
  refine hKQ _ ?_
  clear hKQ KQ
  refine qs rfl (fun KQ hKQ => ?_)
  apply Exists.intro
  refine ⟨fun w' hw' => ?_, ?_⟩
  · go_simp; exact rfl
  go_simp
  refine hKQ _ ?_
  clear hKQ KQ
  refine wpQuiet_nil ?_
  intro w' hw'
  have HW := hidd hw'
  clear hw'
  go_wp2
  go_ret
  exact ⟨by rw [HWR.out]; rfl, HW.out.2⟩
end Go.Proofs.Ytidengcihakijaa

/- The layers' function as a value, and what its rounds promise. -/
import Derived.Test.YtkiocedhibeieaaDoorLay2
namespace Go.Proofs.YtkiocedhibeieaaDoor
set_option linter.unusedVariables false
set_option linter.unusedSimpArgs false
open Go Go.RowKit Go.Shelf
set_option maxRecDepth 100000 in
theorem layers84 (U v : Nat) (F : Nat → Nat) (w : World) : Calls Tryd.prog 84 #[.agg (gcell U F).toArray, .int .i64 (v : Int)] w fun e w' =>
    e = .returned (.func (.func 92) #[] #[.pointer (some ⟨w.heap.size + 1, 0, none⟩), .pointer (some ⟨w.heap.size, 0, none⟩)]) ∧ (w.alloc (.cells (gcell U F).toArray 79)).alloc (.cells #[.int .i64 (v : Int)] 2) = w' := by
  have hmf : ∀ (fn : Fn) (first cap : Array Value) (w : World), (Instr.makeFunc fn first cap).run Tryd.prog w = .ok (.func fn first cap) w := fun _ _ _ _ => rfl
  go_enter Tryd.func84, Tryd.ntmps84
  go_wp2
  go_ret
  exact ⟨rfl, rfl⟩
theorem seq92 (m bp bg U v : Nat) (F : Nat → Nat) (hF : ∀ p, F p < 2 ^ 17) (hv : v < 17) (w : World) (hP : Blk w bp #[.int .i64 (v : Int)] 2) (hG : Blk w bg (gcell U F).toArray 79) (hT : Tz w) :
    SeqStopsK Fence.wide (m + 1) Tryd.prog 92 #[.pointer (some ⟨bp, 0, none⟩), .pointer (some ⟨bg, 0, none⟩)] (encL F v) (KpL bp bg) (fun ys => ∃ K, ys = List.range K ∧ cmL F 17 v K = 0) (fun _ => True) (2 ^ 17) w := fun l J Jx W hW hJ _ hY h0 =>
  iter92 m l bp bg U v F hF hv J Jx (fun xs W1 W2 h hb => hJ xs W1 W2 none h (below_grows hb) (fun r e => by cases e)) hY W (hP.below hW hP.lt) (hG.below hW hG.lt) (hT.below hW (Nat.lt_of_le_of_lt (Nat.zero_le _) hP.lt)) h0
/-- Among N points, with rows below 2^N, the program's sets are the model's. -/
theorem arU_top {F : Nat → Nat} {S N : Nat} (hS : S < 2 ^ N) : ∀ d, N ≤ d → arU F S d = arU F S N := by
  intro d hd
  apply Nat.eq_of_testBit_eq
  intro q
  have h : (arU F S d).testBit q = true ↔ (arU F S N).testBit q = true := by
    rw [arU_bit, arU_bit]
    constructor
    · rintro ⟨p, hp, h1, h2⟩
      exact ⟨p, bit_lt hS h1, h1, h2⟩
    · rintro ⟨p, hp, h1, h2⟩
      exact ⟨p, by omega, h1, h2⟩
  cases ha : (arU F S d).testBit q <;> cases hb : (arU F S N).testBit q <;> simp_all
theorem arU_congr {F G : Nat → Nat} {S : Nat} : ∀ {j}, (∀ p, p < j → F p = G p) → arU F S j = arU G S j
  | 0, _ => rfl
  | j + 1, h => by rw [arU, arU, arU_congr fun p hp => h p (by omega), h j (by omega)]
theorem cmS_congr {F G : Nat → Nat} {N v : Nat} (h : ∀ p, p < N → F p = G p) (hG : ∀ p, G p < 2 ^ N) (hv : v < N) (hN : N ≤ 17) : ∀ k, cmS F 17 v k = cmS G N v k
  | 0 => rfl
  | k + 1 => by
    rw [cmS, cmS, cmS_congr h hG hv hN k, grU, grU, arU_top (cmS_lt hG hv k) 17 hN, arU_congr h]
theorem cmC_congr {F G : Nat → Nat} {N v : Nat} (h : ∀ p, p < N → F p = G p) (hG : ∀ p, G p < 2 ^ N) (hv : v < N) (hN : N ≤ 17) : cmC F 17 v = cmC G N v := cmS_congr h hG hv hN _
/-- Where the layers end, what was reached is the component. -/
theorem cmP_end {F : Nat → Nat} {N v K : Nat} (hF : ∀ p, F p < 2 ^ 17) (hv : v < 17) (h : cmL F N v K = 0) : cmP F N v K = cmC F N v := by
  cases K with
  | zero => exact absurd h (Nat.pos_iff_ne_zero.1 (Nat.two_pow_pos v))
  | succ k => exact ((cmC_of hF hv ((cmL_zero hF hv k).1 h))).symm
end Go.Proofs.YtkiocedhibeieaaDoor

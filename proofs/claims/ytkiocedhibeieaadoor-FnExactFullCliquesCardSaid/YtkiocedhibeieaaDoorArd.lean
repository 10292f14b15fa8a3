/- The points around a set: the program. -/
import Derived.Test.YtkiocedhibeieaaDoorCmm
import Derived.Test.YtkiocedhibeieaaDoorDbi
namespace Go.Proofs.YtkiocedhibeieaaDoor
set_option linter.unusedVariables false
set_option linter.unusedSimpArgs false
open Go Go.RowKit Go.Shelf
def orF (F : Nat → Nat) (a p : Nat) : Nat := a ||| F p
theorem setD_or (F : Nat → Nat) (S : Nat) : ∀ d, (setD S d).reverse.foldl (orF F) 0 = arU F S d
  | 0 => rfl
  | d + 1 => by
    have ih := setD_or F S d
    rw [setD, arU]
    split
    · rw [List.reverse_cons, List.foldl_append, ih, List.foldl_cons, List.foldl_nil]; rfl
    · exact ih
theorem orF_lt {F : Nat → Nat} (hF : ∀ p, F p < 2 ^ 17) : ∀ (l : List Nat) (a : Nat), a < 2 ^ 17 → l.foldl (orF F) a < 2 ^ 17
  | [], a, h => h
  | p :: l, a, h => orF_lt hF l _ (Nat.or_lt_two_pow h (hF p))
set_option maxRecDepth 100000 in
set_option maxHeartbeats 2000000 in
theorem around86 (U : Nat) (F : Nat → Nat) (S : Nat) (hS : S < 2 ^ 17) (hF : ∀ p, F p < 2 ^ 17) (w : World) (hT : Tz w) (hw0 : 0 < w.heap.size) :
    Calls Tryd.prog 86 #[.agg (gcell U F).toArray, .int .u32 (S : Int)] w fun e w' => e = .returned (.int .u32 (arU F S 17 : Nat)) ∧ Below w.heap.size w w' := by
  have HP := hidd (fun W hW h0 => points47X S hS W hW h0)
  obtain ⟨L, hL⟩ : ∃ L, L = (setD S 17).reverse := ⟨_, rfl⟩
  obtain ⟨ln, hln⟩ : ∃ ln, ln = L.length := ⟨_, rfl⟩
  have HLN := hidd hln
  have hsl : (setL S).length = ln := by rw [setL, rv_len, hln, hL, List.length_reverse]
  have HSL := hidd hsl
  have hl17 : ln ≤ 17 := by rw [← hsl, setL_len hS]; exact ones_17 hS
  have HLG := hidd (fun m (hm : m < L.length) => (by simp only [setL, rv, ← hL]; simp [List.getD, hm] : (setL S).getD m 0 = ((L[m] : Nat) : Int)))
  have HME := hidd (fun m (hm : m < L.length) => (setD_mem.1 (List.mem_reverse.1 (by rw [← hL]; exact List.getElem_mem hm)) : L[m] < 17 ∧ S.testBit L[m] = true).1)
  have HFO := hidd (show L.foldl (orF F) 0 = arU F S 17 by rw [hL]; exact setD_or F S 17)
  have HAL := hidd (fun m => orF_lt hF (L.take m) 0 (by omega))
  have HF := hidd hF
  have HT := hidd hT
  have H0 := hidd (Blk.new w (gcell U F).toArray 79 _ rfl)
  have HBW := hidd ((Below.refl w.heap.size w).alloc (Nat.le_refl _) (.cells (gcell U F).toArray 79))
  rw [hsl] at HP
  clear hL hln hsl hF hT
  go_enter Tryd.func86, Tryd.ntmps86
  go_wp2_with fail
  refine (HP.out _ (HT.out.below HBW.out hw0) (by simp)).mono ?_
  rintro e w1 ⟨a, cap, rfl, ho, hb1⟩
  have G := hidd (show Blk w1 w.heap.size (gcell U F).toArray 79 ∧ SlI w1 a (setL S) ∧ Below w.heap.size w w1 from ⟨H0.out.below hb1 H0.out.lt, ho.sl, HBW.out.trans (hb1.mono (by simp))⟩)
  clear hb1 ho
  go_wp2_with fail
  go_loopw [5, 11] (fun b ii wq => ∃ m : Nat, m ≤ ln ∧ ii = .int .i64 (m : Int) ∧ b = .int .u32 ((L.take m).foldl (orF F) 0 : Nat) ∧ Hid (wq = w1)) (fun _ ii _ => ln - (intOf ii).toNat)
  case atStart => exact ⟨0, Nat.zero_le _, rfl, rfl, hidd rfl⟩
  case round =>
    obtain ⟨m, hm, rfl, rfl, HW⟩ := hrel
    have ew := HW.out
    clear HW
    subst wr
    by_cases hlt : m < ln
    · have hltm : decide ((m : Int) < (ln : Int)) = true := by simp; omega
      have hmL : m < L.length := by have := HLN.out; omega
      have hq1 := HME.out m hmL
      have hlg := HLG.out m hmL
      have hsn := foldl_snoc (orF F) 0 L m L[m] (List.getElem?_eq_getElem hmL)
      have hal := HAL.out m
      generalize L[m] = q at hq1 hlg hsn
      have hfq := HF.out q
      rcases G.out.2.1 with hz | ⟨bl, off, ha, hc⟩
      · rw [hz] at hlg
        have := HSL.out
        rw [hz] at this; simp at this; omega
      · subst ha
        have cq := hc m (by rw [HSL.out]; exact hlt)
        rw [hlg] at cq
        have e1 := G.out.1.cell (gcell_near (x := U) (f := F) hq1)
        obtain ⟨A, hA⟩ : ∃ A, A = (L.take m).foldl (orF F) 0 := ⟨_, rfl⟩
        rw [← hA] at hsn hal ⊢
        have hor := u32_or_nat A (F q) (by omega) (by omega)
        have HSN := hidd (show (L.take (m + 1)).foldl (orF F) 0 = A ||| F q from hsn)
        generalize F q = B at e1 hfq hor HSN
        generalize A ||| B = D at hor HSN
        clear hc hlg hsn hal hfq hA
        go_wp2_with fail
        go_roundw
        case rel => exact ⟨m + 1, by omega, by go_num, by rw [HSN.out], hidd trivial⟩
        case measure => simp [intOf]; omega
    · have hltm : decide ((m : Int) < (ln : Int)) = false := by simp; omega
      have hme : m = L.length := by have := HLN.out; omega
      have HSN := hidd (show (L.take m).foldl (orF F) 0 = arU F S 17 by rw [hme, List.take_length, HFO.out])
      generalize (L.take m).foldl (orF F) 0 = A at HSN ⊢
      clear hme
      go_wp2_with fail
      go_ret
      exact ⟨by rw [← HSN.out]; rfl, G.out.2.2⟩
end Go.Proofs.YtkiocedhibeieaaDoor

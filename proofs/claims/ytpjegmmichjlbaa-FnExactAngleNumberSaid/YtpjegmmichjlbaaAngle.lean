/- The angle number: sums, and the model. -/
import Derived.Test.YtpjegmmichjlbaaPartSpec
import Derived.Test.YtpjegmmichjlbaaDegreesIm
namespace Go.Proofs.Ytpjegmmichjlbaa
set_option linter.unusedVariables false
set_option linter.unusedSimpArgs false
open Go Go.RowKit Go.Shelf
def sm (f : Nat → Nat) : Nat → Nat
  | 0 => 0
  | m + 1 => sm f m + f m
theorem sm_congr {f g : Nat → Nat} : ∀ m, (∀ j, j < m → f j = g j) → sm f m = sm g m
  | 0, _ => rfl
  | m + 1, h => by rw [sm, sm, sm_congr m fun j hj => h j (by omega), h m (by omega)]
theorem sm_add (f g : Nat → Nat) : ∀ m, sm (fun i => f i + g i) m = sm f m + sm g m
  | 0 => rfl
  | m + 1 => by rw [sm, sm, sm, sm_add f g m]; omega
theorem sm_zero : ∀ m, sm (fun _ => 0) m = 0
  | 0 => rfl
  | m + 1 => by rw [sm, sm_zero m]
theorem sm_swap (f : Nat → Nat → Nat) (m : Nat) : ∀ n, sm (fun i => sm (fun j => f i j) m) n = sm (fun j => sm (fun i => f i j) n) m
  | 0 => by simp only [sm]; exact (sm_zero m).symm
  | n + 1 => by
    rw [sm, sm_swap f m n, ← sm_add]
    rfl
theorem sm_le {f : Nat → Nat} {B : Nat} : ∀ m, (∀ j, j < m → f j ≤ B) → sm f m ≤ m * B
  | 0, _ => by simp [sm]
  | m + 1, h => by
    have h1 := sm_le m fun j hj => h j (by omega)
    have h2 := h m (by omega)
    rw [sm, Nat.succ_mul]; omega
theorem i64_in {z : Int} (h0 : 0 ≤ z) (h1 : z ≤ 9223372036854775807) : IntKind.i64.wrap z = z := by
  simp [IntKind.wrap, IntKind.bits, IntKind.signed]; omega
def DD (bs : List Nat) (N p c : Nat) : Nat := cnt (nbB bs (p : Int) (c : Int)) N
theorem DD_le (bs : List Nat) (N p c : Nat) : DD bs N p c ≤ N := cnt_le _ N
def anH (bs : List Nat) (N p c d : Nat) : Nat := DD bs N p c * DD bs N p d
def anG (bs : List Nat) (N p c : Nat) : Nat := sm (anH bs N p c) c
def anF (bs : List Nat) (N K p : Nat) : Nat := sm (anG bs N p) K
def anS (bs : List Nat) (N K : Nat) : Nat := sm (anF bs N K) N
def anI (bs : List Nat) (N K : Nat) : Nat := sm (fun d => sm (fun c => sm (fun p => anH bs N p c d) N) d) K
theorem an_eq (bs : List Nat) (N K : Nat) : anI bs N K = anS bs N K := by
  have e : anS bs N K = sm (fun p => sm (fun d => sm (fun c => anH bs N p d c) d) K) N := rfl
  rw [e, sm_swap (fun p d => sm (fun c => anH bs N p d c) d)]
  refine sm_congr K fun d _ => ?_
  rw [sm_swap (fun p c => anH bs N p d c)]
  exact sm_congr d fun c _ => sm_congr N fun p _ => Nat.mul_comm _ _
theorem anH_le {bs : List Nat} {N : Nat} (hN : N ≤ 17) (p c d : Nat) : anH bs N p c d ≤ 289 := by
  have h1 := DD_le bs N p c
  have h2 := DD_le bs N p d
  exact Nat.le_trans (Nat.mul_le_mul (Nat.le_trans h1 hN) (Nat.le_trans h2 hN)) (by omega)
theorem anG_le {bs : List Nat} {N : Nat} (hN : N ≤ 17) {c : Nat} (hc : c ≤ 4) (p : Nat) : anG bs N p c ≤ 1156 :=
  Nat.le_trans (sm_le c fun j _ => anH_le hN p c j) (by omega)
theorem anF_le {bs : List Nat} {N K : Nat} (hN : N ≤ 17) (hK : K ≤ 4) (p : Nat) : anF bs N K p ≤ 4624 :=
  Nat.le_trans (sm_le K fun j hj => anG_le hN (show j ≤ 4 by omega) p) (by omega)
def anCode (n k : Int) (bs : List Nat) : Int := if isCol n k bs = true then 0 else 1
def anV (n k : Int) (bs : List Nat) : Int := if isCol n k bs = true then ((anS bs n.toNat k.toNat : Nat) : Int) else 0
theorem ones_DD (bs : List Nat) (N p c : Nat) : ones (arK (nbB bs (p : Int) (c : Int)) N) = DD bs N p c := ones_arK _ N
set_option maxRecDepth 100000 in
set_option maxHeartbeats 4000000 in
theorem spec15 (n k : Int) (bs : List Nat) (hb : Bys bs) (w : World) :
    Calls Try.prog 15 #[.agg (ccells n k bs).toArray] w fun e w' => e = .returned (.tuple #[.int .i64 (anV n k bs), .int .i64 (anCode n k bs)]) ∧ Below w.heap.size w w' := by
  have HS := hidd (size_c26 n k hb)
  cases hi : isCol n k bs with
  | false =>
    have HV := hidd (show anV n k bs = 0 ∧ anCode n k bs = 1 by simp [anV, anCode, hi])
    rw [HV.out.1, HV.out.2]
    have HI := hidd hi
    clear hi
    go_enter Try.func15, Try.ntmps15
    go_wp2_with (refine wpList_load_row rfl 29 (.tmp 1) rfl w.heap.size rfl 29 _ (0,0) _ (Blk.new _ _ _ _ rfl) Try.underlying29 rfl HS.out ?_)
    refine (l01Is_any n k bs hb _).mono ?_
    rintro e w1 ⟨rfl, hb1⟩
    rw [HI.out]
    have R := hidd (((Below.refl w.heap.size w).alloc (Nat.le_refl _) (.cells (ccells n k bs).toArray 29)).trans (hb1.mono (by simp)))
    clear hb1
    go_wp2
    go_ret2
    exact ⟨rfl, R.out⟩
  | true =>
    obtain ⟨n1, n2, k1, k2⟩ := isCol_bd hi
    obtain ⟨N, rfl⟩ := Int.eq_ofNat_of_zero_le (show 0 ≤ n by omega)
    obtain ⟨K, rfl⟩ := Int.eq_ofNat_of_zero_le (show 0 ≤ k by omega)
    have HV := hidd (show anV (N : Int) (K : Int) bs = ((anS bs N K : Nat) : Int) ∧ anCode (N : Int) (K : Int) bs = 0 by simp [anV, anCode, hi])
    rw [HV.out.1, HV.out.2]
    have HC0 := hidd (show (ccells (N : Int) (K : Int) bs).toArray[0]? = some (.int .i64 (N : Int)) from rfl)
    have HC1 := hidd (show (ccells (N : Int) (K : Int) bs).toArray[1]? = some (.int .i64 (K : Int)) from rfl)
    have HI := hidd hi
    clear hi
    go_enter Try.func15, Try.ntmps15
    go_wp2_with (refine wpList_load_row rfl 29 (.tmp 1) rfl w.heap.size rfl 29 _ (0,0) _ (Blk.new _ _ _ _ rfl) Try.underlying29 rfl HS.out ?_)
    refine (l01Is_any (N : Int) (K : Int) bs hb _).mono ?_
    rintro e w1 ⟨rfl, hb1⟩
    rw [HI.out]
    have G := hidd (show Rel63 (ccells (N : Int) (K : Int) bs).toArray w w1 from ⟨(Blk.new _ _ _ _ rfl).below hb1 (by simp), ((Below.refl w.heap.size w).alloc (Nat.le_refl _) (.cells (ccells (N : Int) (K : Int) bs).toArray 29)).trans (hb1.mono (by simp))⟩)
    clear hb1
    go_wp2_with fail
    go_loopw [4, 5] (fun s e wr => ∃ p : Nat, p ≤ N ∧ e = .int .i64 p ∧ s = .int .i64 ((sm (anF bs N K) p : Nat) : Int) ∧ Rel63 (ccells (N : Int) (K : Int) bs).toArray w wr) (fun _ e _ => N - (intOf e).toNat)
    case atStart => exact ⟨0, by omega, rfl, rfl, G.out⟩
    case round =>
      obtain ⟨p, hp, rfl, rfl, HR⟩ := hrel
      have hw0 := HR.1.cell HC0.out
      have HK := hidd HR
      clear HR
      by_cases hlt : p < N
      · go_wp2_with fail
        clear hw0
        go_loopw [4, 6] (fun s e wr => ∃ c : Nat, c ≤ K ∧ e = .int .i64 c ∧ s = .int .i64 ((sm (anF bs N K) p + sm (anG bs N p) c : Nat) : Int) ∧ Rel63 (ccells (N : Int) (K : Int) bs).toArray w wr) (fun _ e _ => K - (intOf e).toNat)
        case atStart => exact ⟨0, by omega, rfl, by simp [sm], HK.out⟩
        case round =>
          obtain ⟨c, hc, rfl, rfl, HR⟩ := hrel
          have hw1 := HR.1.cell HC1.out
          have HK1 := hidd HR
          clear HR
          by_cases hltc : c < K
          · go_wp2_with fail
            clear hw1
            go_loopw [4, 7] (fun s e wr => ∃ d : Nat, d ≤ c ∧ e = .int .i64 d ∧ s = .int .i64 ((sm (anF bs N K) p + sm (anG bs N p) c + sm (anH bs N p c) d : Nat) : Int) ∧ Rel63 (ccells (N : Int) (K : Int) bs).toArray w wr) (fun _ e _ => c - (intOf e).toNat)
            case atStart => exact ⟨0, by omega, rfl, by simp [sm], HK1.out⟩
            case round =>
              obtain ⟨d, hd, rfl, rfl, HR⟩ := hrel
              have HK2 := hidd HR
              clear HR
              by_cases hltd : d < c
              · have l1 := sm_le (f := anF bs N K) p fun j _ => anF_le (show N ≤ 17 by omega) (show K ≤ 4 by omega) j
                have l2 := sm_le (f := anG bs N p) c fun j hj => anG_le (show N ≤ 17 by omega) (show j ≤ 4 by omega) p
                have l3 := sm_le (f := anH bs N p c) d fun j _ => anH_le (show N ≤ 17 by omega) p c j
                obtain ⟨X, hX⟩ : ∃ X, X = sm (anF bs N K) p + sm (anG bs N p) c + sm (anH bs N p c) d := ⟨_, rfl⟩
                have hX9 : X ≤ 100000 := by omega
                rw [← hX]
                have h9 := anH_le (bs := bs) (show N ≤ 17 by omega) p c d
                have HN := hidd (show X + anH bs N p c d = sm (anF bs N K) p + sm (anG bs N p) c + sm (anH bs N p c) (d + 1) by rw [hX, sm]; omega)
                obtain ⟨A, hA⟩ : ∃ A, A = DD bs N p c := ⟨_, rfl⟩
                obtain ⟨B, hB⟩ : ∃ B, B = DD bs N p d := ⟨_, rfl⟩
                have HAB := hidd (And.intro (show ones (arK (nbB bs (p : Int) (c : Int)) N) = A by rw [hA]; exact ones_DD bs N p c) (show ones (arK (nbB bs (p : Int) (d : Int)) N) = B by rw [hB]; exact ones_DD bs N p d))
                have HM := hidd (show ((A : Int) * (B : Int)) = ((anH bs N p c d : Nat) : Int) by rw [hA, hB, anH]; simp)
                have HWR := hidd (show IntKind.i64.wrap ((X : Int) + IntKind.i64.wrap ((A : Int) * (B : Int))) = ((X + anH bs N p c d : Nat) : Int) by rw [HM.out, i64_in (z := ((anH bs N p c d : Nat) : Int)) (by omega) (by omega), i64_in (z := (X : Int) + ((anH bs N p c d : Nat) : Int)) (by omega) (by omega)]; omega)
                have hm0 : 0 ≤ (A : Int) * (B : Int) := by rw [HM.out]; omega
                have hm1 : (A : Int) * (B : Int) ≤ 289 := by rw [HM.out]; omega
                have hAlt : arK (nbB bs (p : Int) (c : Int)) N < 4611686018427387904 := Nat.lt_of_lt_of_le (arK_lt _ N) (Nat.le_trans (Nat.pow_le_pow_right (by omega) (show N ≤ 17 by omega)) (by omega))
                have hBlt : arK (nbB bs (p : Int) (d : Int)) N < 4611686018427387904 := Nat.lt_of_lt_of_le (arK_lt _ N) (Nat.le_trans (Nat.pow_le_pow_right (by omega) (show N ≤ 17 by omega)) (by omega))
                have HLT := hidd (And.intro hAlt hBlt)
                clear hX hA hB l1 l2 l3 hAlt hBlt
                go_wp2_with fail
                refine wp_region_last_lit 13 (fun w' => Below wr.heap.size wr w') rfl rfl (by kernel_rfl) ((Below.refl _ _).drew) (by kernel_rfl) (by kernel_rfl) (by kernel_rfl) ?_
                simp only [List.take_succ_cons, List.take_zero, List.cons_append, List.nil_append, idle]
                refine qs rfl (fun KQ hKQ => ?_)
                apply Exists.intro
                refine ⟨fun w' hw' => ?_, ?_⟩
                · (go_simp; exact rfl)
                go_simp
                refine hKQ _ ?_
                clear hKQ KQ
                refine qs rfl (fun KQ hKQ => ?_)
                apply Exists.intro
                refine ⟨fun w' hw' => ?_, ?_⟩
                · (exact quietRow 29 (.tmp 1) rfl w.heap.size rfl 29 _ _ (HK2.out.1.below hw' HK2.out.1.lt) Try.underlying29 rfl HS.out)
                go_simp
                refine hKQ _ ?_
                clear hKQ KQ
                refine qs rfl (fun KQ hKQ => ?_)
                apply Exists.intro
                refine ⟨fun w' hw' => ?_, ?_⟩
                · (go_simp; exact rfl)
                go_simp
                refine hKQ _ ?_
                clear hKQ KQ
                refine qs rfl (fun KQ hKQ => ?_)
                apply Exists.intro
                refine ⟨fun w' hw' => ?_, ?_⟩
                · (go_simp; exact rfl)
                go_simp
                refine hKQ _ ?_
                clear hKQ KQ
                refine qs rfl (fun KQ hKQ => ?_)
                apply Exists.intro
                refine ⟨fun w' hw' => ?_, ?_⟩
                · (go_simp; exact (around63 (N : Int) (K : Int) bs hb p c _ n1 n2 (by omega) (by omega)).mono fun _ _ h => ⟨by rw [h.1, Int.toNat_natCast], hw'.trans (h.2.mono hw'.size)⟩)
                go_simp
                refine hKQ _ ?_
                clear hKQ KQ
                refine qs rfl (fun KQ hKQ => ?_)
                apply Exists.intro
                refine ⟨fun w' hw' => ?_, ?_⟩
                · (go_simp; exact (ones65 _ _ HLT.out.1).mono fun _ _ h => ⟨by rw [h.1, HAB.out.1], by rw [← h.2]; exact hw'⟩)
                go_simp
                refine hKQ _ ?_
                clear hKQ KQ
                refine qs rfl (fun KQ hKQ => ?_)
                apply Exists.intro
                refine ⟨fun w' hw' => ?_, ?_⟩
                · (exact quietRow 29 (.tmp 1) rfl w.heap.size rfl 29 _ _ (HK2.out.1.below hw' HK2.out.1.lt) Try.underlying29 rfl HS.out)
                go_simp
                refine hKQ _ ?_
                clear hKQ KQ
                refine qs rfl (fun KQ hKQ => ?_)
                apply Exists.intro
                refine ⟨fun w' hw' => ?_, ?_⟩
                · (go_simp; exact rfl)
                go_simp
                refine hKQ _ ?_
                clear hKQ KQ
                refine qs rfl (fun KQ hKQ => ?_)
                apply Exists.intro
                refine ⟨fun w' hw' => ?_, ?_⟩
                · (go_simp; exact rfl)
                go_simp
                refine hKQ _ ?_
                clear hKQ KQ
                refine qs rfl (fun KQ hKQ => ?_)
                apply Exists.intro
                refine ⟨fun w' hw' => ?_, ?_⟩
                · (go_simp; exact (around63 (N : Int) (K : Int) bs hb p d _ n1 n2 (by omega) (by omega)).mono fun _ _ h => ⟨by rw [h.1, Int.toNat_natCast], hw'.trans (h.2.mono hw'.size)⟩)
                go_simp
                refine hKQ _ ?_
                clear hKQ KQ
                refine qs rfl (fun KQ hKQ => ?_)
                apply Exists.intro
                refine ⟨fun w' hw' => ?_, ?_⟩
                · (go_simp; exact (ones65 _ _ HLT.out.2).mono fun _ _ h => ⟨by rw [h.1, HAB.out.2], by rw [← h.2]; exact hw'⟩)
                go_simp
                refine hKQ _ ?_
                clear hKQ KQ
                refine qs rfl (fun KQ hKQ => ?_)
                apply Exists.intro
                refine ⟨fun w' hw' => ?_, ?_⟩
                · (go_simp; exact rfl)
                go_simp
                refine hKQ _ ?_
                clear hKQ KQ
                refine qs rfl (fun KQ hKQ => ?_)
                apply Exists.intro
                refine ⟨fun w' hw' => ?_, ?_⟩
                · (go_simp; exact rfl)
                go_simp
                refine hKQ _ ?_
                clear hKQ KQ
                refine qs rfl (fun KQ hKQ => ?_)
                apply Exists.intro
                refine ⟨fun w' hw' => ?_, ?_⟩
                · (go_simp; exact rfl)
                go_simp
                refine hKQ _ ?_
                clear hKQ KQ
                refine wpQuiet_nil ?_
                intro w' hw'
                have K9 := hidd (show Rel63 (ccells (N : Int) (K : Int) bs).toArray w w' from ⟨HK2.out.1.below hw' HK2.out.1.lt, HK2.out.2.trans (hw'.mono HK2.out.2.size)⟩)
                go_wp2
                go_roundw
                case rel => exact ⟨d + 1, by omega, by go_num, by rw [← HN.out, ← HWR.out], K9.out⟩
                case measure => simp [intOf]; omega
              · have hde : d = c := by omega
                subst hde
                go_wp2_with fail
                go_roundw
                case rel => exact ⟨d + 1, by omega, by go_num, congrArg (fun x : Nat => Value.int .i64 (x : Int)) (Nat.add_assoc (sm (anF bs N K) p) (sm (anG bs N p) d) (anG bs N p d)), HK2.out⟩
                case measure => simp [intOf]; omega
          · have hce : c = K := by omega
            subst hce
            go_wp2_with fail
            go_roundw
            case rel => exact ⟨p + 1, by omega, by go_num, rfl, HK1.out⟩
            case measure => simp [intOf]; omega
      · have hpe : p = N := by omega
        subst hpe
        go_wp2_with fail
        go_ret2
        exact ⟨rfl, HK.out.2⟩
end Go.Proofs.Ytpjegmmichjlbaa

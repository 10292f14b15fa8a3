/- The least position as plain arithmetic; which of two lists comes before. -/
import Derived.Test.YtidengcihakijaaRni
namespace Go.Proofs.Ytidengcihakijaa
set_option linter.unusedVariables false
set_option linter.unusedSimpArgs false
open Go Go.RowKit Go.Shelf
/-- Does a list come before another one? -/
def befB : List Int → List Int → Bool
  | [], _ => false
  | _ :: _, [] => false
  | x :: xs, y :: ys => if x = y then befB xs ys else decide (x < y)
theorem befB_ne : ∀ (i : Nat) (xs ys : List Int), xs.length = ys.length → i < xs.length → (∀ j, j < i → xs.getD j 0 = ys.getD j 0) → xs.getD i 0 ≠ ys.getD i 0 → befB xs ys = decide (xs.getD i 0 < ys.getD i 0)
  | i, [], ys, h, hi, _, _ => by simp at hi
  | i, x :: xs, [], h, _, _, _ => by simp at h
  | 0, x :: xs, y :: ys, h, hi, hj, hn => by
    have : x ≠ y := hn
    rw [befB, if_neg this]; rfl
  | i + 1, x :: xs, y :: ys, h, hi, hj, hn => by
    have h0 : x = y := hj 0 (by omega)
    rw [befB, if_pos h0]
    exact befB_ne i xs ys (by simpa using h) (by simpa using hi) (fun j hjl => hj (j + 1) (by omega)) hn
theorem befB_same : ∀ (xs ys : List Int), xs.length = ys.length → (∀ j, j < xs.length → xs.getD j 0 = ys.getD j 0) → befB xs ys = false
  | [], ys, _, _ => by rw [befB]
  | x :: xs, [], h, _ => by simp at h
  | x :: xs, y :: ys, h, hj => by
    have h0 : x = y := hj 0 (by simp)
    rw [befB, if_pos h0]
    exact befB_same xs ys (by simpa using h) (fun j hjl => hj (j + 1) (by simpa using hjl))
/-- All orders that begin with one, of r points more. -/
def ordM (N : Nat) : Nat → List Int → List (List Int)
  | 0, b => [b]
  | r + 1, b => (List.range N).flatMap fun (p : Nat) => if b.contains (p : Int) = true then [] else ordM N r (b ++ [(p : Int)])
/-- The least one of what comes from orders. -/
def minL (f : List Int → List Int) (best : List Int) (os : List (List Int)) : List Int := os.foldl (fun b o => if befB (f o) b = true then f o else b) best
theorem minL_app (f : List Int → List Int) (best : List Int) (os ps : List (List Int)) : minL f best (os ++ ps) = minL f (minL f best os) ps := by simp [minL]
theorem minL_one (f : List Int → List Int) (best o : List Int) : minL f best [o] = if befB (f o) best = true then f o else best := rfl
theorem minL_len {f : List Int → List Int} {n : Nat} (hf : ∀ o, (f o).length = n) : ∀ (os : List (List Int)) (best : List Int), best.length = n → (minL f best os).length = n
  | [], best, h => h
  | o :: os, best, h => by
    show (minL f (if befB (f o) best = true then f o else best) os).length = n
    refine minL_len hf os _ ?_
    split
    · exact hf o
    · exact h
set_option maxRecDepth 100000 in
set_option maxHeartbeats 2000000 in
theorem before35 (xs ys : List Int) (a : Option Addr) (ca : Nat) (b : Option Addr) (cb : Nat) (w : World) (hx : SlI w a xs) (hy : SlI w b ys) (hl : xs.length = ys.length) (hl2 : xs.length ≤ 1048576) :
    Calls Try.prog 35 #[.slice a xs.length ca, .slice b ys.length cb] w fun e w' => e = .returned (.bool (befB xs ys)) ∧ Below w.heap.size w w' := by
  have HX := hidd hx
  have HY := hidd hy
  have HL := hidd hl
  have HNE := hidd (fun i h1 h2 h3 => befB_ne i xs ys hl h1 h2 h3)
  have HSM := hidd (befB_same xs ys hl)
  obtain ⟨q, hq⟩ : ∃ q, q = befB xs ys := ⟨_, rfl⟩
  rw [← hq] at HNE HSM ⊢
  clear hx hy hl hq
  go_enter Try.func35, Try.ntmps35
  go_wp2_with fail
  go_loopw [5] (fun ii wr => ∃ i : Nat, i ≤ xs.length ∧ ii = .int .i64 (i : Int) ∧ (∀ j, j < i → xs.getD j 0 = ys.getD j 0) ∧ Hid (Below w.heap.size w wr)) (fun ii _ => xs.length - (intOf ii).toNat)
  case atStart => exact ⟨0, Nat.zero_le _, rfl, fun j hj => by omega, Below.refl _ _⟩
  case round =>
    obtain ⟨i, hi, rfl, hsame, HK⟩ := hrel
    have HS := hidd hsame
    clear hsame
    by_cases hlt : i < xs.length
    · have hlt2 : i < ys.length := by have := HL.out; omega
      rcases HX.out.below HK.out (Nat.le_refl _) with hz | ⟨xb, xo, rfl, hxc⟩
      · subst hz; simp at hlt
      · rcases HY.out.below HK.out (Nat.le_refl _) with hz | ⟨yb, yo, rfl, hyc⟩
        · subst hz; simp at hlt2
        · have cx := hxc i hlt
          have cy := hyc i hlt2
          have hI1 : (i : Int) < (xs.length : Int) := by omega
          have hI2 : (i : Int) < (ys.length : Int) := by omega
          have HE := hidd (HNE.out i hlt HS.out)
          obtain ⟨x, hxx⟩ : ∃ x, x = xs.getD i 0 := ⟨_, rfl⟩
          obtain ⟨y, hyy⟩ : ∃ y, y = ys.getD i 0 := ⟨_, rfl⟩
          rw [← hxx] at cx HE
          rw [← hyy] at cy HE
          have HXY := hidd (And.intro hxx hyy)
          clear hxc hyc hxx hyy
          by_cases he : x = y
          · have hne : (x != y) = false := by rw [he]; simp
            have K := hidd (show Below w.heap.size w wr.drew ∧ (∀ j, j < i + 1 → xs.getD j 0 = ys.getD j 0) from ⟨HK.out.drew, fun j hj => by
              by_cases hji : j = i
              · rw [hji, ← HXY.out.1, ← HXY.out.2, he]
              · exact HS.out j (by omega)⟩)
            clear he
            go_wp2_with fail
            refine wp_region_still_lit (by kernel_rfl) (by kernel_rfl) ?_
            iterate 9 still_step
            refine wpStill_nil ?_
            go_wp2
            go_roundw
            case rel => exact ⟨i + 1, by omega, by go_num, K.out.2, K.out.1⟩
            case measure => simp [intOf]; omega
          · have hne : (x != y) = true := by rw [bne_iff_ne]; exact he
            have HQ := hidd (HE.out he)
            clear he
            go_wp2_with fail
            refine wp_region_still_lit (by kernel_rfl) (by kernel_rfl) ?_
            iterate 9 still_step
            refine wpStill_nil ?_
            obtain ⟨W1, hW1⟩ : ∃ W1 : World, W1 = { wr with drawn := wr.drawn + 1 } := ⟨_, rfl⟩
            have cx1 : W1.cell? ⟨xb, xo + i, none⟩ = some (.int .i64 x) := by rw [hW1]; exact cx
            have cy1 : W1.cell? ⟨yb, yo + i, none⟩ = some (.int .i64 y) := by rw [hW1]; exact cy
            have HK1 := hidd (show Below w.heap.size w W1 from by rw [hW1]; exact HK.out.drew)
            go_wp2_with fail
            rw [← hW1]
            clear hW1 cx cy
            refine wp_region_still_tail 9 (by kernel_rfl) (by kernel_rfl) ?_
            simp only [List.take_succ_cons, List.take_zero, List.drop_succ_cons, List.drop_zero]
            iterate 9 still_step
            refine wpStill_nil ?_
            go_wp2
            go_ret
            exact ⟨by rw [HQ.out]; rfl, HK1.out.drew⟩
    · have hlt2 : ¬ (i : Int) < (xs.length : Int) := by omega
      have hie : i = xs.length := by omega
      have HQ := hidd (HSM.out (fun j hj => HS.out j (by omega)))
      clear hie
      go_wp2_with fail
      go_ret
      exact ⟨by rw [HQ.out]; rfl, HK.out⟩
end Go.Proofs.Ytidengcihakijaa

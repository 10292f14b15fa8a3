/- CupsAndCaps: the model. -/
import Derived.Test.YtljlbonoohhhdaaCcj
namespace Go.Proofs.Ytljlbonoohhhdaa
set_option linter.unusedVariables false
set_option linter.unusedSimpArgs false
open Go Go.RowKit Go.Shelf
attribute [local go_sem] Oper.semAt_some
set_option maxRecDepth 100000 in
set_option maxHeartbeats 4000000 in
theorem spec18 (L : List (List Int)) (a : Option Addr) (cap : Nat) (w : World) (hs : LLa w a L) (hl : L.length ≤ 9223372036854775807) (hi : ∀ i, i < L.length → (L.getD i []).length ≤ 9223372036854775807) :
    Calls Try.prog 18 #[.slice a L.length cap] w fun e w' => e = .returned (.tuple #[.int .i64 (cups L), .int .i64 (caps L), .int .i64 (cuC L)]) ∧ Below w.heap.size w w' := by
  have HRW := hidd (row36 L a cap w hs hl hi)
  have HS := hidd hs
  clear hs hi
  cases hr : rowB L with
  | true =>
    rw [hr] at HRW
    have HC1 := hidd (fun W h => chain37 1 (.inl rfl) L hr a cap W h)
    have HC2 := hidd (fun W h => chain37 (-1) (.inr rfl) L hr a cap W h)
    have HE := hidd (show cups L = cpJ (cupV (upS 1 (xL L) (yL L))) L.length ∧ caps L = cpJ (cupV (upS (-1) (xL L) (yL L))) L.length ∧ cuC L = 0 by unfold cups caps cuC; rw [if_pos hr, if_pos hr, if_pos hr, upS_one, upS_neg]; exact ⟨rfl, rfl, rfl⟩)
    clear hr
    go_enter Try.func18, Try.ntmps18
    go_wp2_with fail
    refine HRW.out.mono ?_
    rintro e w1 ⟨rfl, hb⟩
    have G1 := hidd (And.intro (HS.out.below hb (Nat.le_refl _)) hb)
    clear hb
    go_wp2_with fail
    refine (HC1.out w1 G1.out.1).mono ?_
    rintro e w2 ⟨rfl, hb⟩
    have G2 := hidd (And.intro (G1.out.1.below hb (Nat.le_refl _)) (G1.out.2.trans (hb.mono G1.out.2.size)))
    clear hb
    go_wp2_with fail
    refine (HC2.out w2 G2.out.1).mono ?_
    rintro e w3 ⟨rfl, hb⟩
    have G3 := hidd (G2.out.2.trans (hb.mono G2.out.2.size))
    clear hb
    go_wp2_with fail
    go_ret3
    exact ⟨by rw [HE.out.1, HE.out.2.1, HE.out.2.2]; rfl, G3.out⟩
  | false =>
    rw [hr] at HRW
    have HE := hidd (show cups L = 0 ∧ caps L = 0 ∧ cuC L = 2 by unfold cups caps cuC; rw [if_neg (by rw [hr]; simp), if_neg (by rw [hr]; simp), if_neg (by rw [hr]; simp)]; exact ⟨rfl, rfl, rfl⟩)
    clear hr
    go_enter Try.func18, Try.ntmps18
    go_wp2_with fail
    refine HRW.out.mono ?_
    rintro e w1 ⟨rfl, hb⟩
    have G1 := hidd hb
    clear hb
    go_wp2_with fail
    go_ret3
    exact ⟨by rw [HE.out.1, HE.out.2.1, HE.out.2.2]; rfl, G1.out⟩
end Go.Proofs.Ytljlbonoohhhdaa

/- CupsAndCaps: the program. -/
import Derived.Test.YtljlbonoohhhdaaCrd
import Derived.OwnWalk
namespace Go.Proofs.Ytljlbonoohhhdaa
set_option linter.unusedVariables false
set_option linter.unusedSimpArgs false
open Go Go.RowKit Go.Shelf
attribute [local go_sem] Oper.semAt_some
def cups (L : List (List Int)) : Int := if rowB L = true then cpJ (cupV (upB (xL L) (yL L))) L.length else 0
def caps (L : List (List Int)) : Int := if rowB L = true then cpJ (cupV (upB (xL L) fun q => - yL L q)) L.length else 0
def cuC (L : List (List Int)) : Int := if rowB L = true then 0 else 2
theorem rowB_bd {L : List (List Int)} (h : rowB L = true) : 1 ≤ L.length ∧ L.length ≤ 17 ∧ ∀ i, i < L.length → okR L i := by
  unfold rowB at h
  rw [Bool.and_eq_true, decide_eq_true_iff] at h
  have h1 := h.1
  unfold inB at h1
  rw [Bool.and_eq_true, decide_eq_true_iff, decide_eq_true_iff] at h1
  exact ⟨by omega, by omega, h.2⟩
set_option maxRecDepth 100000 in
set_option maxHeartbeats 4000000 in
theorem impl20 (L : List (List Int)) (a : Option Addr) (cap : Nat) (w : World) (hs : LLa w a L) (hl : L.length ≤ 9223372036854775807) (hi : ∀ i, i < L.length → (L.getD i []).length ≤ 9223372036854775807) :
    Calls Try.prog 20 #[.slice a L.length cap] w fun e w' => e = .returned (.tuple #[.int .i64 (cups L), .int .i64 (caps L), .int .i64 (cuC L)]) ∧ Below w.heap.size w w' := by
  have HRD := hidd (read38 L a cap w hs hl hi)
  clear hs hi
  go_enter Try.func20, Try.ntmps20
  go_wp2_with fail
  refine HRD.out.mono ?_
  rintro e w1 (⟨hr, rfl, hP, hb⟩ | ⟨hr, rfl, hb⟩)
  · obtain ⟨n1, n2, hok⟩ := rowB_bd hr
    have G1 := hidd (And.intro hP hb)
    have HX := hidd (fun i (h : i < L.length) => (hok i h).2.1)
    have HY := hidd (fun i (h : i < L.length) => (hok i h).2.2.1)
    have HE := hidd (show cups L = cpJ (cupV (upB (xL L) (yL L))) L.length ∧ caps L = cpJ (cupV (upB (xL L) fun q => - yL L q)) L.length ∧ cuC L = 0 by unfold cups caps cuC; rw [if_pos hr, if_pos hr, if_pos hr]; exact ⟨rfl, rfl, rfl⟩)
    clear hr hP hb hok
    go_wp2_with fail
    refine (cup39 (xL L) (yL L) L.length n1 n2 HX.out HY.out w.heap.size w1 G1.out.1).mono ?_
    rintro e w2 ⟨rfl, hb2⟩
    have G2 := hidd (And.intro (show Prs w2 w.heap.size (xL L) (yL L) L.length from Blk.below G1.out.1 hb2 (Blk.lt G1.out.1)) (G1.out.2.trans (hb2.mono G1.out.2.size)))
    clear hb2
    go_wp2_with fail
    refine (upside40 (xL L) (yL L) L.length n1 n2 HY.out w.heap.size w2 G2.out.1).mono ?_
    rintro e w3 ⟨rfl, hP3, hb3⟩
    have G3 := hidd (And.intro hP3 (G2.out.2.trans (hb3.mono G2.out.2.size)))
    clear hb3 hP3
    go_wp2_with fail
    refine (cup39 (xL L) (fun q => - yL L q) L.length n1 n2 HX.out (fun q hq => by have h := HY.out q hq; unfold In1 at h ⊢; omega) w2.heap.size w3 G3.out.1).mono ?_
    rintro e w4 ⟨rfl, hb4⟩
    have G4 := hidd (G3.out.2.trans (hb4.mono G3.out.2.size))
    clear hb4
    go_wp2_with fail
    go_ret3
    exact ⟨by rw [HE.out.1, HE.out.2.1, HE.out.2.2]; rfl, G4.out⟩
  · have G1 := hidd hb
    have HE := hidd (show cups L = 0 ∧ caps L = 0 ∧ cuC L = 2 by unfold cups caps cuC; rw [if_neg (by rw [hr]; simp), if_neg (by rw [hr]; simp), if_neg (by rw [hr]; simp)]; exact ⟨rfl, rfl, rfl⟩)
    clear hr hb
    go_wp2_with fail
    go_ret3
    exact ⟨by rw [HE.out.1, HE.out.2.1, HE.out.2.2]; rfl, G1.out⟩
end Go.Proofs.Ytljlbonoohhhdaa

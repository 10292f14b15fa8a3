/- The next order of a list as plain arithmetic; that all orders come so is computed for few numbers. -/
import Derived.Test.YtidengcihakijaaLp5
import Derived.Test.YtidengcihakijaaBse
namespace Go.Proofs.Ytidengcihakijaa
set_option linter.unusedVariables false
set_option linter.unusedSimpArgs false
open Go Go.RowKit Go.Shelf
/-- The last place below k that does not descend. -/
def lowF (L : List Int) : Nat → Option Nat
  | 0 => none
  | k + 1 => if L.getD (k + 1) 0 < L.getD k 0 then lowF L k else some k
/-- What lies behind a place, turned round. -/
def bhL (L : List Int) (l : Nat) : List Int := (L.drop (l + 1)).reverse
def atN (L : List Int) (l : Nat) : Nat := (bhL L l).countP (· < L.getD l 0)
def nxtL (L : List Int) (l : Nat) : List Int := L.take l ++ (bhL L l).getD (atN L l) 0 :: (bhL L l).set (atN L l) (L.getD l 0)
def advF (L : List Int) : Option (List Int) := (lowF L (L.length - 1)).map (nxtL L)
def iotaL (N : Nat) : List Int := (List.range N).map fun (i : Nat) => (i : Int)
def chainB : List Int → List (List Int) → Bool
  | a, [] => (advF a).isNone
  | a, b :: t => decide (advF a = some b) && chainB b t
def chkB (N : Nat) : Bool :=
  match ordM N N [] with
  | [] => false
  | a :: t => decide (a = iotaL N) && chainB a t
theorem chk_all : ∀ N, N ∈ [1, 2, 3, 4, 5, 6] → chkB N = true := by decide +kernel
theorem chain_at : ∀ (t : List (List Int)) (a : List Int), chainB a t = true → ∀ (pre : List (List Int)) (x : List Int) (rest : List (List Int)), a :: t = pre ++ x :: rest → advF x = rest.head?
  | t, a, h, [], x, rest, he => by
    simp only [List.nil_append, List.cons.injEq] at he
    obtain ⟨rfl, rfl⟩ := he
    cases t with
    | nil => simpa [chainB] using h
    | cons b t => simp only [chainB, Bool.and_eq_true, decide_eq_true_eq] at h; exact h.1
  | t, a, h, p :: pre, x, rest, he => by
    simp only [List.cons_append, List.cons.injEq] at he
    cases t with
    | nil => have := he.2; cases pre <;> simp at this
    | cons b t =>
      simp only [chainB, Bool.and_eq_true] at h
      exact chain_at t b h.2 pre x rest he.2
theorem ord_chain {N : Nat} (h1 : 1 ≤ N) (h6 : N ≤ 6) : (∃ t, ordM N N [] = iotaL N :: t) ∧ ∀ (pre : List (List Int)) (x : List Int) (rest : List (List Int)), ordM N N [] = pre ++ x :: rest → advF x = rest.head? := by
  have hc := chk_all N (by simp; omega)
  unfold chkB at hc
  cases ho : ordM N N [] with
  | nil => rw [ho] at hc; cases hc
  | cons a t =>
    rw [ho] at hc
    simp only [Bool.and_eq_true, decide_eq_true_eq] at hc
    exact ⟨⟨t, by rw [hc.1]⟩, fun pre x rest he => chain_at t a hc.2 pre x rest he⟩
theorem lowF_some {L : List Int} : ∀ {k l : Nat}, lowF L k = some l → l < k ∧ ¬ L.getD (l + 1) 0 < L.getD l 0
  | 0, l, h => by cases h
  | k + 1, l, h => by
    rw [lowF] at h
    split at h
    · have := lowF_some h; exact ⟨by omega, this.2⟩
    · rename_i hn; cases h; exact ⟨by omega, hn⟩
end Go.Proofs.Ytidengcihakijaa

/- The extensions, one behind the other: what has been given, what is left, and a number that falls. -/
import Derived.Test.YtckffliiidgilaaDoorExq
namespace Go.Proofs.YtckffliiidgilaaDoor
set_option linter.unusedVariables false
set_option linter.unusedSimpArgs false
open Go Go.RowKit
theorem fm_congr {α β : Type} {f g : α → List β} : ∀ {L : List α}, (∀ x ∈ L, f x = g x) → L.flatMap f = L.flatMap g
  | [], _ => rfl
  | x :: L, h => by
    rw [List.flatMap_cons, List.flatMap_cons, h x List.mem_cons_self, fm_congr fun y hy => h y (List.mem_cons_of_mem _ hy)]
/-- A set of points may get a colour with the point n besides. -/
def okf (fr : Nat → Nat → Bool) (c n T : Nat) : Bool := fr c (T ||| 2 ^ n)
theorem exL_free {bs : List Nat} {N K : Nat} {zs : List Int} (h2 : no1 zs K) : ∀ (r : Nat), r ≤ N → ∀ (s : Nat → Nat) (cs : List Int), (∀ c, c < K → fre bs N zs c (s c) = true) → (∀ c, c < K → s c < 2 ^ (N - r)) → exL (okx bs N zs) K N r s cs = exL (okf (fre bs N zs)) K N r s cs
  | 0, _, s, cs, _, _ => rfl
  | r + 1, hr, s, cs, hf, hs => by
    unfold exL
    refine fm_congr fun c hc => ?_
    rw [List.mem_range] at hc
    have hT : s c < 2 ^ (N - (r + 1)) := hs c hc
    have e : okx bs N zs c (N - (r + 1)) (s c) = okf (fre bs N zs) c (N - (r + 1)) (s c) := fre_ok h2 c _ _ hc (by omega) hT (hf c hc)
    rw [e]
    by_cases ho : okf (fre bs N zs) c (N - (r + 1)) (s c) = true
    · rw [if_pos ho, if_pos ho]
      refine exL_free h2 r (by omega) _ _ (fun c' hc' => ?_) (fun c' hc' => ?_)
      · by_cases h : c' = c
        · rw [h, setF_same]; exact ho
        · rw [setF_ne _ _ h]; exact hf c' hc'
      · have h22 : 2 ^ (N - (r + 1)) < 2 ^ (N - r) := Nat.pow_lt_pow_right (by omega) (by omega)
        by_cases h : c' = c
        · rw [h, setF_same]; exact Nat.or_lt_two_pow (Nat.lt_trans hT h22) h22
        · rw [setF_ne _ _ h]; exact Nat.lt_trans (hs c' hc') h22
    · rw [if_neg ho, if_neg ho]
/-- The points by colour, when the colours have been given (the last one first). -/
def stO : List Nat → Nat → Nat
  | [] => fun _ => 0
  | d :: ds => setF (stO ds) d (stO ds d ||| 2 ^ ds.length)
def colI (ds : List Nat) : List Int := ds.reverse.map fun d : Nat => (d : Int)
theorem colI_len (ds : List Nat) : (colI ds).length = ds.length := by simp [colI]
theorem colI_cons (d : Nat) (ds : List Nat) : colI (d :: ds) = colI ds ++ [(d : Int)] := by simp [colI]
theorem stO_lt (ds : List Nat) (c : Nat) : stO ds c < 2 ^ ds.length := by
  induction ds with
  | nil => simp [stO]
  | cons d ds ih =>
    have h22 : 2 ^ ds.length < 2 ^ (ds.length + 1) := Nat.pow_lt_pow_right (by omega) (by omega)
    have hT : ∀ c, stO ds c < 2 ^ (ds.length + 1) → stO (d :: ds) c < 2 ^ (ds.length + 1) ∨ c = d := fun c h => by
      by_cases e : c = d
      · exact .inr e
      · left; unfold stO; rw [setF_ne _ _ e]; exact h
    show stO (d :: ds) c < 2 ^ (ds.length + 1)
    by_cases e : c = d
    · subst e
      have h1 : stO ds c < 2 ^ ds.length := ih
      unfold stO; rw [setF_same]
      exact Nat.or_lt_two_pow (Nat.lt_trans h1 h22) h22
    · unfold stO; rw [setF_ne _ _ e]; exact Nat.lt_trans ih h22
section
variable (ok : Nat → Nat → Nat → Bool) (K N : Nat)
/-- All that begin so. -/
def exX (ds : List Nat) : List (List Int) := exL ok K N (N - ds.length) (stO ds) (colI ds)
/-- Those of them whose next colour is at least c. -/
def exT (ds : List Nat) (c : Nat) : List (List Int) := ((List.range K).drop c).flatMap fun c' => if ok c' ds.length (stO ds c') = true then exX ok K N (c' :: ds) else []
/-- What is left behind them. -/
def exB : List Nat → List (List Int)
  | [] => []
  | d :: ds => exT ok K N ds (d + 1) ++ exB ds
end
section
variable {ok : Nat → Nat → Nat → Bool} {K N : Nat}
theorem exX_nil : exX ok K N [] = exL ok K N N (fun _ => 0) [] := rfl
theorem exX_full {ds : List Nat} (h : ds.length = N) : exX ok K N ds = [colI ds] := by unfold exX; rw [h, Nat.sub_self]; rfl
theorem exX_next {ds : List Nat} (h : ds.length < N) : exX ok K N ds = exT ok K N ds 0 := by
  unfold exX exT
  obtain ⟨r, hr⟩ : ∃ r, N - ds.length = r + 1 := ⟨N - ds.length - 1, by omega⟩
  have e : N - (r + 1) = ds.length := by omega
  rw [hr, exL, e]
  rw [List.drop_zero]
  refine fm_congr fun c hc => ?_
  by_cases ho : ok c ds.length (stO ds c) = true
  · rw [if_pos ho, if_pos ho]
    unfold exX
    rw [colI_cons, show N - (c :: ds).length = r by simp; omega]
    rfl
  · rw [if_neg ho, if_neg ho]
theorem exT_end {ds : List Nat} : exT ok K N ds K = [] := by unfold exT; rw [List.drop_eq_nil_of_le (by simp)]; rfl
theorem exT_step {ds : List Nat} {c : Nat} (h : c < K) : exT ok K N ds c = (if ok c ds.length (stO ds c) = true then exX ok K N (c :: ds) else []) ++ exT ok K N ds (c + 1) := by
  unfold exT
  rw [List.drop_eq_getElem_cons (by simpa using h)]
  simp
theorem exT_no {ds : List Nat} {c : Nat} (h : c < K) (ho : ok c ds.length (stO ds c) = false) : exT ok K N ds c = exT ok K N ds (c + 1) := by
  rw [exT_step h, if_neg (by rw [ho]; simp), List.nil_append]
theorem exT_yes {ds : List Nat} {c : Nat} (h : c < K) (ho : ok c ds.length (stO ds c) = true) : exT ok K N ds c ++ exB ok K N ds = exX ok K N (c :: ds) ++ exB ok K N (c :: ds) := by
  rw [exT_step h, if_pos ho, exB, List.append_assoc]
/-- What is left at a jump forward. -/
def exR (ok : Nat → Nat → Nat → Bool) (K N : Nat) (ds : List Nat) (c : Nat) : List (List Int) := (if ds.length = N then [colI ds] else exT ok K N ds c) ++ exB ok K N ds
theorem exR_full {ds : List Nat} {c : Nat} (h : ds.length = N) : exR ok K N ds c = colI ds :: exB ok K N ds := by unfold exR; rw [if_pos h]; rfl
theorem exR_in {ds : List Nat} {c : Nat} (h : ds.length < N) : exR ok K N ds c = exT ok K N ds c ++ exB ok K N ds := by unfold exR; rw [if_neg (by omega)]
theorem exR_new {ds : List Nat} (h : ds.length ≤ N) : exR ok K N ds 0 = exX ok K N ds ++ exB ok K N ds := by
  unfold exR
  by_cases e : ds.length = N
  · rw [if_pos e, exX_full e]
  · rw [if_neg e, exX_next (by omega)]
theorem exB_cons {d : Nat} {ds : List Nat} (h : ds.length < N) : exB ok K N (d :: ds) = exR ok K N ds (d + 1) := by rw [exR_in h]; rfl
end
/-- All extensions, as the program finds them. -/
theorem exA_f {bs : List Nat} {N K : Nat} {zs : List Int} (hN : N ≤ 17) (h2 : no1 zs K) : exA bs N K zs = exR (okf (fre bs N zs)) K N [] 0 := by
  rw [exR_new (Nat.zero_le _)]
  unfold exA
  rw [exX_nil, exL_free h2 N (Nat.le_refl _) _ _ (fun c hc => fre_empty hN h2 hc) (fun c hc => Nat.two_pow_pos _)]
  rw [show exB (okf (fre bs N zs)) K N [] = [] from rfl, List.append_nil]
/-- The number that grows. -/
def dgO (K : Nat) : List Nat → Nat
  | [] => 0
  | d :: ds => dgO K ds * (K + 1) + d
theorem dgO_lt {K : Nat} : ∀ ds : List Nat, (∀ d ∈ ds, d < K) → dgO K ds < (K + 1) ^ ds.length
  | [], _ => by simp [dgO]
  | d :: ds, h => by
    have h1 := dgO_lt ds (fun x hx => h x (List.mem_cons_of_mem _ hx))
    have h2 := h d List.mem_cons_self
    have h3 : (dgO K ds + 1) * (K + 1) ≤ (K + 1) ^ ds.length * (K + 1) := Nat.mul_le_mul_right _ h1
    rw [dgO, List.length_cons, Nat.pow_succ]
    rw [Nat.add_mul] at h3
    omega
def xvO (K N : Nat) (ds : List Nat) (c : Nat) : Nat := (dgO K ds * (K + 1) + c) * (K + 1) ^ (N - ds.length)
theorem xvO_down {K N c c0 : Nat} {ds : List Nat} (h : ds.length < N) (hc : c0 ≤ c) : xvO K N ds c0 ≤ xvO K N (c :: ds) 0 := by
  unfold xvO
  have e : (dgO K (c :: ds) * (K + 1) + 0) * (K + 1) ^ (N - (c :: ds).length) = (dgO K ds * (K + 1) + c) * (K + 1) ^ (N - ds.length) := by
    obtain ⟨q, hq⟩ : ∃ q, N - ds.length = q + 1 := ⟨N - ds.length - 1, by omega⟩
    rw [dgO, Nat.add_zero, List.length_cons, show N - (ds.length + 1) = q by omega, hq, Nat.pow_succ', Nat.mul_assoc]
  rw [e]
  exact Nat.mul_le_mul_right _ (by omega)
theorem xvO_up {K N c d : Nat} {ds : List Nat} (h : ds.length < N) (hc : c ≤ K) : xvO K N (d :: ds) c < xvO K N ds (d + 1) := by
  unfold xvO
  rw [dgO, List.length_cons]
  obtain ⟨q, hq⟩ : ∃ q, N - ds.length = q + 1 := ⟨N - ds.length - 1, by omega⟩
  rw [show N - (ds.length + 1) = q by omega, hq, Nat.pow_succ', ← Nat.mul_assoc]
  refine Nat.mul_lt_mul_of_pos_right ?_ (Nat.pow_pos (by omega))
  rw [← Nat.add_assoc, Nat.add_mul (dgO K ds * (K + 1) + d) 1 (K + 1)]
  omega
theorem xvO_le {K N d : Nat} {ds : List Nat} (h : ds.length ≤ N) (hd : ∀ d ∈ ds, d < K) (hk : d ≤ K) : xvO K N ds d ≤ (K + 1) ^ (N + 1) := by
  unfold xvO
  have h1 := dgO_lt ds hd
  have h3 : (dgO K ds + 1) * (K + 1) ≤ (K + 1) ^ ds.length * (K + 1) := Nat.mul_le_mul_right _ h1
  rw [Nat.add_mul] at h3
  have h4 : dgO K ds * (K + 1) + d ≤ (K + 1) ^ (ds.length + 1) := by rw [Nat.pow_succ]; omega
  have h5 : (K + 1) ^ (N + 1) = (K + 1) ^ (ds.length + 1) * (K + 1) ^ (N - ds.length) := by rw [← Nat.pow_add]; congr 1; omega
  rw [h5]
  exact Nat.mul_le_mul_right _ h4
/-- The number that falls: at a jump forward (true) or back (false). -/
def muO (K N : Nat) (f : Bool) (ds : List Nat) (c : Nat) : Nat := 2 * (((K + 1) ^ (N + 1) - xvO K N ds c) * (N + 1) + (N - ds.length)) + if f then 1 else 0
theorem muO_down {K N c c0 : Nat} {ds : List Nat} (h : ds.length < N) (hc : c0 ≤ c) : muO K N true (c :: ds) 0 < muO K N true ds c0 := by
  unfold muO
  have h1 := xvO_down (K := K) h hc
  have h2 : ((K + 1) ^ (N + 1) - xvO K N (c :: ds) 0) * (N + 1) ≤ ((K + 1) ^ (N + 1) - xvO K N ds c0) * (N + 1) := Nat.mul_le_mul_right _ (by omega)
  rw [List.length_cons]
  simp only [if_true]
  omega
theorem muO_leaf {K N : Nat} {ds : List Nat} : muO K N false ds 0 < muO K N true ds 0 := by unfold muO; simp
theorem muO_up {K N c d : Nat} {f : Bool} {ds : List Nat} (h : ds.length < N) (hc : c ≤ K) (hds : ∀ d ∈ ds, d < K) (hd : d < K) : muO K N true ds (d + 1) < muO K N f (d :: ds) c := by
  unfold muO
  have h1 := xvO_up (d := d) h hc
  have h2 := xvO_le (N := N) (d := d + 1) (by omega) hds (by omega)
  have h3 : ((K + 1) ^ (N + 1) - xvO K N ds (d + 1) + 1) * (N + 1) ≤ ((K + 1) ^ (N + 1) - xvO K N (d :: ds) c) * (N + 1) := Nat.mul_le_mul_right _ (by omega)
  rw [Nat.add_mul] at h3
  rw [List.length_cons]
  simp only [if_true]
  cases f <;> simp <;> omega
end Go.Proofs.YtckffliiidgilaaDoor

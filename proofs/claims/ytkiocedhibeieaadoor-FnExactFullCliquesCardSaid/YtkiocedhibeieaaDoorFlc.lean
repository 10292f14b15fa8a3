/- FullCliques: the order; l02Before. -/
import Derived.Test.YtkiocedhibeieaaDoorFlb
namespace Go.Proofs.YtkiocedhibeieaaDoor
set_option linter.unusedVariables false
set_option linter.unusedSimpArgs false
open Go Go.RowKit Go.Shelf
/-- The one list comes ahead of the other. -/
def lexB : List Int → List Int → Bool
  | [], [] => false
  | [], _ :: _ => true
  | _ :: _, [] => false
  | a :: l, b :: m => if a = b then lexB l m else decide (a < b)
theorem lexB_pre : ∀ (u x y : List Int), lexB (u ++ x) (u ++ y) = lexB x y
  | [], _, _ => rfl
  | a :: u, x, y => by rw [List.cons_append, List.cons_append, lexB, if_pos rfl, lexB_pre u x y]
theorem lexB_nil (t : List Int) : lexB t [] = false := by cases t <;> rfl
theorem lexB_irr : ∀ t : List Int, lexB t t = false
  | [] => rfl
  | a :: t => by rw [lexB, if_pos rfl, lexB_irr t]
/-- A clique that goes on from s, as a list. -/
theorem cqE_from {fit : List Nat → Nat → Bool} {N : Nat} : ∀ (d : Nat) (s c : List Nat), d ≤ N → c ∈ cqE fit N d s → ∃ (q : Nat) (t : List Int), rv c = rv s ++ (q : Int) :: t ∧ N - d ≤ q
  | 0, s, c, _, h => by simp [cqE] at h
  | d + 1, s, c, hd, h => by
    rw [cqE] at h
    have h2 : ∀ (h : c ∈ cqE fit N d s), ∃ (q : Nat) (t : List Int), rv c = rv s ++ (q : Int) :: t ∧ N - (d + 1) ≤ q := fun h => by
      obtain ⟨q, t, h1, h2⟩ := cqE_from d s c (by omega) h
      exact ⟨q, t, h1, by omega⟩
    split at h
    · rcases List.mem_cons.1 h with rfl | h
      · exact ⟨N - (d + 1), [], by rw [rv_cons], Nat.le_refl _⟩
      · rcases List.mem_append.1 h with h | h
        · obtain ⟨q, t, h1, _⟩ := cqE_from d _ c (by omega) h
          refine ⟨N - (d + 1), (q : Int) :: t, ?_, Nat.le_refl _⟩
          rw [h1, rv_cons, List.append_assoc]; rfl
        · exact h2 h
    · exact h2 h
theorem cqE_lex {fit : List Nat → Nat → Bool} {N : Nat} : ∀ (d : Nat) (s : List Nat), d ≤ N → (cqE fit N d s).Pairwise fun x y => lexB (rv y) (rv x) = false
  | 0, s, _ => by simp [cqE]
  | d + 1, s, hd => by
    rw [cqE]
    split
    · have hfar : ∀ c, (c = (N - (d + 1)) :: s ∨ c ∈ cqE fit N d ((N - (d + 1)) :: s)) → ∀ y, y ∈ cqE fit N d s → lexB (rv y) (rv c) = false := fun c hc y hy => by
        obtain ⟨q, t, h1, h2⟩ := cqE_from d s y (by omega) hy
        have h3 : ∃ u : List Int, rv c = rv s ++ ((N - (d + 1) : Nat) : Int) :: u := by
          rcases hc with rfl | hc
          · exact ⟨[], rv_cons _ _⟩
          · obtain ⟨q', t', h4, _⟩ := cqE_from d _ c (by omega) hc
            exact ⟨(q' : Int) :: t', by rw [h4, rv_cons, List.append_assoc]; rfl⟩
        obtain ⟨u, h3⟩ := h3
        rw [h1, h3, lexB_pre, lexB, if_neg (by omega)]
        exact decide_eq_false (by omega)
      refine List.pairwise_cons.2 ⟨fun y hy => ?_, List.pairwise_append.2 ⟨cqE_lex d _ (by omega), cqE_lex d s (by omega), fun x hx y hy => hfar x (.inr hx) y hy⟩⟩
      rcases List.mem_append.1 hy with hy | hy
      · obtain ⟨q, t, h1, _⟩ := cqE_from d _ y (by omega) hy
        have e := lexB_pre (rv ((N - (d + 1)) :: s)) ((q : Int) :: t) []
        rw [List.append_nil] at e
        rw [h1, e]
        exact lexB_nil _
      · exact hfar _ (.inl rfl) y hy
    · exact cqE_lex d s (by omega)
theorem fqE_lex {R : Nat → Nat} {N d : Nat} {s : List Nat} (hd : d ≤ N) : (fqE R N d s).Pairwise fun x y => lexB (rv y) (rv x) = false := (cqE_lex d s hd).filter _
/-- The two lists from place i on. -/
theorem lexB_drop {xs ys : List Int} {i : Nat} (hx : i < xs.length) (hy : i < ys.length) : lexB (xs.drop i) (ys.drop i) = if xs.getD i 0 = ys.getD i 0 then lexB (xs.drop (i + 1)) (ys.drop (i + 1)) else decide (xs.getD i 0 < ys.getD i 0) := by
  rw [List.drop_eq_getElem_cons hx, List.drop_eq_getElem_cons hy, lexB]
  simp [List.getD, hx, hy]
theorem lexB_over {xs ys : List Int} {i : Nat} (h : xs.length ≤ i ∨ ys.length ≤ i) (h2 : i ≤ xs.length) (h3 : i ≤ ys.length) : lexB (xs.drop i) (ys.drop i) = decide (xs.length < ys.length) := by
  rcases h with h | h
  · rw [List.drop_eq_nil_of_le h]
    have hx : xs.length = i := by omega
    cases hd : ys.drop i with
    | nil =>
      have : ys.length ≤ i := List.drop_eq_nil_iff.1 hd
      rw [decide_eq_false (by omega)]; rfl
    | cons a t =>
      have : i < ys.length := by
        by_cases e : ys.length ≤ i
        · rw [List.drop_eq_nil_of_le e] at hd; cases hd
        · omega
      rw [decide_eq_true (by omega)]; rfl
  · rw [List.drop_eq_nil_of_le h, lexB_nil, decide_eq_false (by omega)]
set_option maxRecDepth 100000 in
set_option maxHeartbeats 4000000 in
theorem before59 (xs ys : List Int) (a b : Option Addr) (ca cb : Nat) (w : World) (hx : SlI w a xs) (hy : SlI w b ys) (hxl : xs.length ≤ 1000) (hyl : ys.length ≤ 1000) :
    Calls Tryd.prog 59 #[.slice a xs.length ca, .slice b ys.length cb] w fun e w' => e = .returned (.bool (lexB xs ys)) ∧ ∃ n, w' = w.drewN n := by
  have HX := hidd hx
  have HY := hidd hy
  have HL := hidd (show lexB (xs.drop 0) (ys.drop 0) = lexB xs ys by rw [List.drop_zero, List.drop_zero])
  obtain ⟨ans, hans⟩ : ∃ b, b = lexB xs ys := ⟨_, rfl⟩
  rw [← hans] at HL ⊢
  clear hans hx hy
  go_enter Tryd.func59, Tryd.ntmps59
  go_wp2_with fail
  go_loopw [5] (fun e wr => ∃ i : Nat, i ≤ xs.length ∧ i ≤ ys.length ∧ e = .int .i64 (i : Int) ∧ Hid (lexB (xs.drop i) (ys.drop i) = ans ∧ ∃ n, wr = w.drewN n)) (fun e _ => xs.length - (intOf e).toNat)
  case atStart => exact ⟨0, Nat.zero_le _, Nat.zero_le _, rfl, hidd ⟨HL.out, 0, rfl⟩⟩
  case round =>
    clear HL
    obtain ⟨i, hi1, hi2, rfl, HK⟩ := hrel
    by_cases h1 : i < xs.length
    · have d1 : decide ((i : Int) < (xs.length : Int)) = true := by simp; omega
      by_cases h2 : i < ys.length
      · have d2 : decide ((i : Int) < (ys.length : Int)) = true := by simp; omega
        obtain ⟨hk, n, hn⟩ := HK.out
        rcases HX.out with e | ⟨gx, ox, rfl, hcx⟩
        · rw [e] at h1; simp at h1
        rcases HY.out with e | ⟨gy, oy, rfl, hcy⟩
        · rw [e] at h2; simp at h2
        have c1 : wr.cell? ⟨gx, ox + i, none⟩ = some (.int .i64 (xs.getD i 0)) := by rw [hn]; exact hcx i h1
        have c2 : wr.cell? ⟨gy, oy + i, none⟩ = some (.int .i64 (ys.getD i 0)) := by rw [hn]; exact hcy i h2
        rw [lexB_drop h1 h2] at hk
        have HK2 := hidd hk
        obtain ⟨x, hxe⟩ : ∃ x, x = xs.getD i 0 := ⟨_, rfl⟩
        obtain ⟨y, hye⟩ : ∃ y, y = ys.getD i 0 := ⟨_, rfl⟩
        rw [← hxe, ← hye] at HK2
        rw [← hxe] at c1
        rw [← hye] at c2
        have HN := hidd hn
        clear hn hk hxe hye hcx hcy HK
        by_cases hxy : x = y
        · have hq : (x != y) = false := by simp [hxy]
          have HR := hidd (show lexB (xs.drop (i + 1)) (ys.drop (i + 1)) = ans by have h := HK2.out; rw [if_pos hxy] at h; exact h)
          clear hxy HK2
          go_wp2_with fail
          go_quiet (fail)
          go_wp2_with fail
          go_roundw
          case rel => exact ⟨i + 1, by omega, by omega, by go_num, hidd ⟨HR.out, _, by rw [HN.out, World.drewN_drewN]⟩⟩
          case measure => simp [intOf]; omega
        · have hq : (x != y) = true := by simp [hxy]
          have HR := hidd (show decide (x < y) = ans by have h := HK2.out; rw [if_neg hxy] at h; exact h)
          clear hxy HK2
          go_wp2_with fail
          go_quiet (fail)
          go_wp2_with fail
          go_quiet (fail)
          go_wp2_with fail
          go_ret
          exact ⟨by rw [HR.out]; rfl, _, by rw [HN.out, World.drewN_drewN, World.drewN_drewN]⟩
      · have d2 : decide ((i : Int) < (ys.length : Int)) = false := by simp; omega
        have HE := hidd (lexB_over (xs := xs) (ys := ys) (i := i) (.inr (by omega)) hi1 hi2)
        have HF := hidd (HE.out.symm.trans HK.out.1)
        go_wp2_with fail
        go_ret
        exact ⟨by rw [HF.out]; rfl, HK.out.2⟩
    · have d1 : decide ((i : Int) < (xs.length : Int)) = false := by simp; omega
      have HE := hidd (lexB_over (xs := xs) (ys := ys) (i := i) (.inl (by omega)) hi1 hi2)
      have HF := hidd (HE.out.symm.trans HK.out.1)
      go_wp2_with fail
      go_ret
      exact ⟨by rw [HF.out]; rfl, HK.out.2⟩
end Go.Proofs.YtkiocedhibeieaaDoor

/- The function that hands out the edges: its promise. -/
import Derived.Test.YtidengcihakijaaOut
import Derived.Test.YtidengcihakijaaCn
namespace Go.Proofs.Ytidengcihakijaa
set_option linter.unusedVariables false
set_option linter.unusedSimpArgs false
open Go Go.RowKit Go.Shelf
attribute [local go_sem] Oper.semAt_some
def encD (x : Nat × Nat × Nat) : Array Value := #[.int .i64 (x.1 : Int), .agg #[.int .i64 (x.2.1 : Int), .int .i64 (x.2.2 : Int)]]
theorem rowE_more (h l : Nat) : ∀ d, ∃ r, rowE h (l + d) = rowE h l ++ r
  | 0 => ⟨[], by simp⟩
  | d + 1 => by
    obtain ⟨r, hr⟩ := rowE_more h l d
    exact ⟨r ++ [(eN h + (l + d), l + d, h)], by rw [← Nat.add_assoc, rowE_succ, hr, List.append_assoc]⟩
theorem eseq_more (h : Nat) : ∀ d, ∃ r, eseq (h + d) = eseq h ++ r
  | 0 => ⟨[], by simp⟩
  | d + 1 => by
    obtain ⟨r, hr⟩ := eseq_more h d
    exact ⟨r ++ rowE (h + d) (h + d), by rw [← Nat.add_assoc, eseq, hr, List.append_assoc]⟩
theorem eseq_at {N b i : Nat} (hb : b < N) (hi : i < b) : ∃ r, eseq N = (eseq b ++ rowE b i) ++ (eN b + i, i, b) :: r := by
  obtain ⟨r1, h1⟩ := rowE_more b (i + 1) (b - (i + 1))
  obtain ⟨r2, h2⟩ := eseq_more (b + 1) (N - (b + 1))
  rw [show i + 1 + (b - (i + 1)) = b by omega, rowE_succ] at h1
  rw [show b + 1 + (N - (b + 1)) = N by omega, eseq, h1] at h2
  exact ⟨r1 ++ r2, by rw [h2]; simp⟩
/-- What holds at each edge. -/
def RelD (Bn N : Nat) (W : World) (J : List (Nat × Nat × Nat) → World → Prop) (xs : List (Nat × Nat × Nat)) (wr : World) : Prop := J xs wr ∧ Blk wr Bn #[.int .i64 (N : Int)] 2 ∧ W.heap.size ≤ wr.heap.size
set_option maxRecDepth 100000 in
set_option maxHeartbeats 2000000 in
theorem iter73 (m Bn N : Nat) (hN1 : 1 ≤ N) (hN : N ≤ 17) (w : World) (hB : Blk w Bn #[.int .i64 (N : Int)] 2) :
    Gives m 60 #[.pointer (some ⟨Bn, 0, none⟩)] encD [Bn] (eseq N) w := by
  intro l J Jx W hsz hbs hJ hJx hY h0
  have hB0 : Blk W Bn #[.int .i64 (N : Int)] 2 := (hbs Bn (by simp)).trans hB
  have HIN := hidd (show Bn < W.heap.size from hB0.lt)
  have HR0 := hidd (show RelD Bn N W J [] W from ⟨h0, hB0, Nat.le_refl _⟩)
  have HY := hidd hY
  refine callsIn_of_wp Try.func60 rfl trivial ?_ rfl
  simp only [Try.ntmps60, List.size_toArray, List.length_cons, List.length_nil, Nat.reduceAdd, Nat.reduceSub, Array.replicate_succ, Array.replicate_zero, List.push_toArray, List.append_toArray, List.nil_append, List.cons_append]
  clear hY hB hB0 h0 hbs hsz
  gi_wp2
  gi_loopw [3, 4] (fun k h wr => ∃ b : Nat, b ≤ N ∧ 1 ≤ b ∧ h = .int .i64 b ∧ k = .int .i64 (eN b : Nat) ∧ Hid (RelD Bn N W J (eseq b) wr))
    (fun _ h _ => N - (intOf h).toNat)
  case atStart => exact ⟨1, hN1, Nat.le_refl _, rfl, rfl, HR0⟩
  case round =>
    obtain ⟨b, hb, hb1, rfl, rfl, HR⟩ := hrel
    obtain ⟨wo, rfl⟩ : ∃ wo : World, wo = wr := ⟨_, rfl⟩
    have hc := HR.out.2.1.cell (j := 0) (show _ = some (Value.int .i64 (N : Int)) from rfl)
    have hbig := eN_17 hN
    have hbb := eN_mono hb
    by_cases hlt : b < N
    · gi_wp2
      gi_loopw [3, 5] (fun k e wr => ∃ i q : Nat, i ≤ b ∧ q = eN b + i ∧ e = .int .i64 i ∧ k = .int .i64 (q : Int) ∧ Hid (RelD Bn N W J (eseq b ++ rowE b i) wr))
        (fun _ e _ => b - (intOf e).toNat)
      case atStart => exact ⟨0, eN b, by omega, rfl, rfl, rfl, by have h := HR.out; simp only [rowE, List.range_zero, List.map_nil, List.append_nil]; exact h⟩
      case round =>
        obtain ⟨i, q, hi, hq, rfl, rfl, HR2⟩ := hrel
        have hqb : q ≤ 272 := by omega
        have HQ := hidd hq
        clear hq
        by_cases hlt2 : i < b
        · obtain ⟨r, hr⟩ := eseq_at hlt hlt2
          rw [← HQ.out] at hr
          obtain ⟨fn, tmps, assign, body, hy, hR⟩ := HY.out (eseq b ++ rowE b i) (q, i, b) r wr hr HR2.out.1
          have HRR := hidd hR
          have HALL := hidd hr
          clear hR hr
          dsimp only [encD] at hy
          gi_wp2
          refine HRR.out.mono ?_
          rintro e W3 ⟨hk3, ⟨rfl, hJ3⟩ | ⟨rfl, hx3⟩⟩
          · have hrow : rowE b (i + 1) = rowE b i ++ [(q, i, b)] := by rw [rowE_succ, HQ.out]
            have K3 := hidd (show RelD Bn N W J (eseq b ++ rowE b (i + 1)) W3 from ⟨by rw [hrow, ← List.append_assoc]; exact hJ3,
              (hk3.2 Bn (Nat.lt_of_lt_of_le HIN.out HR2.out.2.2) (.inr (by simp))).trans HR2.out.2.1, Nat.le_trans HR2.out.2.2 hk3.1⟩)
            clear hJ3 hk3 hrow
            gi_wp2
            go_roundw
            case rel => exact ⟨i + 1, q + 1, by omega, by have := HQ.out; omega, by go_num, by go_num, K3⟩
            case measure => simp [intOf]; omega
          · have X3 := hidd hx3
            clear hx3 hk3
            gi_wp2
            refine bodyPost_ret (results_none rfl _ _ _) rfl ?_
            exact ⟨⟨_, rfl⟩, .inr ⟨_, _, _, HALL.out, X3.out⟩⟩
        · have hib : i = b := by omega
          subst hib
          gi_wp2
          go_roundw
          case rel => exact ⟨i + 1, by omega, by omega, by go_num, by rw [eN, ← HQ.out], by rw [eseq]; exact HR2⟩
          case measure => simp [intOf]; omega
    · have hbN : b = N := by omega
      subst hbN
      gi_wp2
      go_end0
      exact ⟨⟨_, rfl⟩, .inl HR.out.1⟩
end Go.Proofs.Ytidengcihakijaa

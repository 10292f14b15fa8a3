/- slices.Backward over steps: its promise. -/
import Derived.Test.YtmeihpakbhfipaaDoorRng
import Derived.Test.YtmeihpakbhfipaaDoorLuq
namespace Go.Proofs.YtmeihpakbhfipaaDoor
set_option linter.unusedVariables false
set_option linter.unusedSimpArgs false
open Go Go.RowKit Go.Shelf
attribute [local go_sem] Oper.semAt_some
def encB (x : Nat × Value) : Array Value := #[.int .i64 (x.1 : Int), x.2]
/-- The last d rows, from behind. -/
def bwL (C : Array Value) (N : Nat) : Nat → List (Nat × Value)
  | 0 => []
  | d + 1 => bwL C N d ++ [(N - 1 - d, C.getD (N - 1 - d) undef)]
theorem bwL_more (C : Array Value) (N d : Nat) : ∀ e, ∃ r, bwL C N (d + e) = bwL C N d ++ r
  | 0 => ⟨[], by simp⟩
  | e + 1 => by
    obtain ⟨r, hr⟩ := bwL_more C N d e
    exact ⟨r ++ [(N - 1 - (d + e), C.getD (N - 1 - (d + e)) undef)], by rw [← Nat.add_assoc, bwL, hr, List.append_assoc]⟩
theorem bwL_at (C : Array Value) {N d : Nat} (h : d < N) : ∃ r, bwL C N N = bwL C N d ++ (N - 1 - d, C.getD (N - 1 - d) undef) :: r := by
  obtain ⟨r, hr⟩ := bwL_more C N (d + 1) (N - (d + 1))
  rw [show d + 1 + (N - (d + 1)) = N by omega, bwL, List.append_assoc] at hr
  exact ⟨r, hr⟩
theorem bwL_len (C : Array Value) (N : Nat) : ∀ d, (bwL C N d).length = d
  | 0 => rfl
  | d + 1 => by rw [bwL, List.length_append, bwL_len C N d]; rfl
/-- Where an element stands in the list: which one it is, and what is before it. -/
theorem bwL_split {C : Array Value} {N : Nat} {pre rest : List (Nat × Value)} {x : Nat × Value} (h : bwL C N N = pre ++ x :: rest) : pre.length < N ∧ pre = bwL C N pre.length ∧ x = (N - 1 - pre.length, C.getD (N - 1 - pre.length) undef) := by
  have hl : pre.length < N := by
    have := congrArg List.length h
    rw [bwL_len, List.length_append, List.length_cons] at this
    omega
  obtain ⟨r, hr⟩ := bwL_at C hl
  rw [hr] at h
  have h1 := List.append_inj h (bwL_len C N pre.length)
  have h2 := List.cons.inj h1.2
  exact ⟨hl, h1.1.symm, h2.1.symm⟩
def RelBw (Bn g N : Nat) (C : Array Value) (W : World) (J : List (Nat × Value) → World → Prop) (xs : List (Nat × Value)) (wr : World) : Prop :=
  J xs wr ∧ Blk wr Bn #[.slice (some ⟨g, 0, none⟩) N N] 41 ∧ Blk wr g C 25 ∧ W.heap.size ≤ wr.heap.size
set_option maxRecDepth 100000 in
set_option maxHeartbeats 2000000 in
theorem iter68 (m Bn g N : Nat) (C : Array Value) (hC : C.size = N) (hN : N ≤ 17) (w : World) (hB : Blk w Bn #[.slice (some ⟨g, 0, none⟩) N N] 41) (hG : Blk w g C 25) :
    Gives m 68 #[.pointer (some ⟨Bn, 0, none⟩)] encB [Bn, g] (bwL C N N) w := by
  intro l J Jx W hsz hbs hJ hJx hY h0
  have hB0 : Blk W Bn #[.slice (some ⟨g, 0, none⟩) N N] 41 := (hbs Bn (by simp)).trans hB
  have hG0 : Blk W g C 25 := (hbs g (by simp)).trans hG
  have HIN := hidd (And.intro hB0.lt hG0.lt)
  have HR0 := hidd (show RelBw Bn g N C W J [] W from ⟨h0, hB0, hG0, Nat.le_refl _⟩)
  have HY := hidd hY
  have HCS := hidd hC
  have c0 := hB0.cell (j := 0) (show _ = some (Value.slice (some ⟨g, 0, none⟩) N N) from rfl)
  refine callsIn_of_wp Tryd.func68 rfl trivial ?_ rfl
  simp only [Tryd.ntmps68, List.size_toArray, List.length_cons, List.length_nil, Nat.reduceAdd, Nat.reduceSub, Array.replicate_succ, Array.replicate_zero, List.push_toArray, List.append_toArray, List.nil_append, List.cons_append]
  clear hY hB hB0 hG hG0 h0 hbs hsz hC
  gi_wp2
  clear c0
  gi_loopw [3] (fun h wr => ∃ d : Nat, ∃ e : Int, d ≤ N ∧ e + 1 + d = N ∧ h = .int .i64 e ∧ Hid (RelBw Bn g N C W J (bwL C N d) wr))
    (fun h _ => (intOf h + 1).toNat)
  case atStart => exact ⟨0, (N : Int) - 1, by omega, by omega, rfl, HR0⟩
  case round =>
    obtain ⟨d, e, hd, he, rfl, HR⟩ := hrel
    have hc := HR.out.2.1.cell (j := 0) (show _ = some (Value.slice (some ⟨g, 0, none⟩) N N) from rfl)
    by_cases hlt : d < N
    · obtain ⟨p, hp⟩ : ∃ p : Nat, p = N - 1 - d := ⟨_, rfl⟩
      obtain rfl : e = (p : Int) := by omega
      have hpN : p < N := by omega
      obtain ⟨r, hr⟩ := bwL_at C hlt
      rw [← hp] at hr
      have HP := hidd hp
      obtain ⟨v, hv⟩ : ∃ v, v = C.getD p undef := ⟨_, rfl⟩
      have hCp : C[p]? = some v := by
        rw [hv, Array.getD, dif_pos (show p < C.size by have := HCS.out; omega)]
        exact Array.getElem?_eq_getElem _
      have cp := HR.out.2.2.1.cell hCp
      rw [← hv] at hr
      have HV := hidd hv
      obtain ⟨fn, tmps, assign, body, hy, hR⟩ := HY.out (bwL C N d) (p, v) r wr hr HR.out.1
      have HRR := hidd hR
      have HALL := hidd hr
      clear hR hr hp hv hCp he
      dsimp only [encB] at hy
      gi_wp2
      refine HRR.out.mono ?_
      rintro e W3 ⟨hk3, ⟨rfl, hJ3⟩ | ⟨rfl, hx3⟩⟩
      · have K3 := hidd (show RelBw Bn g N C W J (bwL C N (d + 1)) W3 from ⟨by rw [bwL, ← HP.out, ← HV.out]; exact hJ3,
          (hk3.2 Bn (Nat.lt_of_lt_of_le HIN.out.1 HR.out.2.2.2) (.inr (by simp))).trans HR.out.2.1, (hk3.2 g (Nat.lt_of_lt_of_le HIN.out.2 HR.out.2.2.2) (.inr (by simp))).trans HR.out.2.2.1, Nat.le_trans HR.out.2.2.2 hk3.1⟩)
        clear hJ3 hk3
        gi_wp2
        go_roundw
        case rel => exact ⟨d + 1, (p : Int) - 1, by omega, by have := HP.out; omega, by go_num, K3⟩
        case measure => simp [intOf]
      · have X3 := hidd hx3
        clear hx3 hk3
        gi_wp2
        refine bodyPost_ret (results_none rfl _ _ _) rfl ?_
        exact ⟨⟨_, rfl⟩, .inr ⟨_, _, _, HALL.out, X3.out⟩⟩
    · obtain rfl : d = N := by omega
      obtain rfl : e = -1 := by omega
      gi_wp2
      go_end0
      exact ⟨⟨_, rfl⟩, .inl HR.out.1⟩
end Go.Proofs.YtmeihpakbhfipaaDoor

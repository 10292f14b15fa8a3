/- Closed colours: the model. -/
import Derived.Test.YtmeihpakbhfipaaDoorStq
namespace Go.Proofs.YtmeihpakbhfipaaDoor
set_option linter.unusedVariables false
set_option linter.unusedSimpArgs false
open Go Go.RowKit Go.Shelf
/-- The load of a whole row behind a guard that lets it by. -/
theorem wpList_load_row_want {P : Program} {ops : Array Oper} {rest : List Oper} {o : Oper} {a : Act} {w : World} {Q : Exit → Act → World → Prop} (hw : Region.wanted o (yielded ops a.tmps) = true) (ty : TypeId) (x : Operand) (ho : o.op = .load ty x)
    (g : Nat) (hx : a.eval x = .pointer (some ⟨g, 0, none⟩)) (t : TypeId) (cs : Array Value) (fr : Nat × Nat) (d : TypeDesc) (hg : w.heap[g]? = some (.cells cs t fr))
    (hu : P.underlying ty = some d) (hd : (match d with | .struct _ | .array _ _ => true | _ => false) = true) (hi : (P.info? ty).map (·.size) = some cs.size)
    (h : wpList P ops Q rest (a.put o.dst (.agg cs)) w) : wpList P ops Q (o :: rest) a w :=
  Go.BigFrame.wpList_want hw fun _ hK => wp_load_row ty x ho g hx t cs fr d hg hu hd hi (hK _ _ h)
/-- No step is missing before place l, j, i. -/
def Clo (bs : List Nat) (c : Int) (l j i : Nat) : Prop := ∀ l' j' i' : Nat, i' < j' → j' < l' → (l' < l ∨ (l' = l ∧ (j' < j ∨ (j' = j ∧ i' < i)))) → colAt bs (i' : Int) (j' : Int) = c → colAt bs (j' : Int) (l' : Int) = c → colAt bs (i' : Int) (l' : Int) = c
theorem Clo.step {bs : List Nat} {c : Int} {l j i : Nat} (h : Clo bs c l j i) (hs : colAt bs (i : Int) (j : Int) = c → colAt bs (j : Int) (l : Int) = c → colAt bs (i : Int) (l : Int) = c) : Clo bs c l j (i + 1) := by
  intro l' j' i' h1 h2 h3
  by_cases e : l' = l ∧ j' = j ∧ i' = i
  · obtain ⟨rfl, rfl, rfl⟩ := e; exact hs
  · exact h l' j' i' h1 h2 (by omega)
theorem Clo.row {bs : List Nat} {c : Int} {l j : Nat} (h : Clo bs c l j j) : Clo bs c l (j + 1) 0 := fun l' j' i' h1 h2 h3 => h l' j' i' h1 h2 (by omega)
theorem Clo.tab {bs : List Nat} {c : Int} {l : Nat} (h : Clo bs c l l 0) : Clo bs c (l + 1) 1 0 := fun l' j' i' h1 h2 h3 => h l' j' i' h1 h2 (by omega)
theorem Clo.done {bs : List Nat} {c : Int} {l N : Nat} (h : Clo bs c l 1 0) (hl : N ≤ l) : clB bs c N = true := by
  unfold clB
  rw [decide_eq_true_iff]
  exact fun l' h1 j' h2 i' h3 => h l' j' i' h3 h2 (.inl (by omega))
def RelKl (C : Array Value) (w wr : World) : Prop := Blk wr w.heap.size C 28 ∧ Below w.heap.size w wr
theorem RelKl.more {C : Array Value} {w wr w2 : World} (h : RelKl C w wr) (hb : Below wr.heap.size wr w2) : RelKl C w w2 := ⟨h.1.below hb h.1.lt, h.2.trans (hb.mono h.2.size)⟩
set_option maxRecDepth 100000 in
set_option maxHeartbeats 4000000 in
theorem closed27 (N : Nat) (k c : Int) (bs : List Nat) (hb : Bys bs) (w : World) (N2 : N ≤ 17) :
    Calls Tryd.prog 27 #[.agg (ccells (N : Int) k bs).toArray, .int .i64 c] w fun e w' => e = .returned (.bool (clB bs c N)) ∧ Below w.heap.size w w' := by
  have HS := hidd (size_c26 (N : Int) k hb)
  have HCX := hidd (show (ccells (N : Int) k bs).toArray[0]? = some (.int .i64 (N : Int)) from rfl)
  have HAT := hidd (fun (i j : Nat) (hi : i < N) (hj : j < N) (hij : i ≠ j) W => at57 (N : Int) k bs hb (N : Int) (i : Int) (j : Int) W (by omega) (by omega) (by omega) (by omega) (by omega) (by omega))
  have G := hidd (show RelKl (ccells (N : Int) k bs).toArray w (w.alloc (.cells (ccells (N : Int) k bs).toArray 28)) from ⟨Blk.new _ _ _ _ rfl, (Below.refl _ _).alloc (Nat.le_refl _) _⟩)
  go_enter Tryd.func27, Tryd.ntmps27
  go_wp2_with fail
  go_loopw [5] (fun e wr => ∃ l : Nat, 2 ≤ l ∧ (l ≤ N ∨ l = 2) ∧ e = .int .i64 (l : Int) ∧ Hid (Clo bs c l 1 0) ∧ RelKl (ccells (N : Int) k bs).toArray w wr) (fun e _ => N - (intOf e).toNat)
  case atStart => exact ⟨2, by omega, .inr rfl, rfl, fun l' j' i' h1 h2 h3 => by omega, G.out⟩
  case round =>
    obtain ⟨l, hl2, hl, rfl, HC, HR⟩ := hrel
    have HK := hidd HR
    have c0 := HR.1.cell HCX.out
    clear HR
    by_cases hlt : l < N
    · go_wp2_with fail
      clear c0
      go_loopw [6] (fun e wr => ∃ j : Nat, 1 ≤ j ∧ j ≤ l ∧ e = .int .i64 (j : Int) ∧ Hid (Clo bs c l j 0) ∧ RelKl (ccells (N : Int) k bs).toArray w wr) (fun e _ => l - (intOf e).toNat)
      case atStart => exact ⟨1, by omega, by omega, rfl, HC.out, HK.out⟩
      case round =>
        obtain ⟨j, hj1, hj, rfl, HC2, HR⟩ := hrel
        have HK2 := hidd HR
        clear HR
        by_cases hjl : j < l
        · go_wp2_with fail
          go_loopw [7] (fun e wr => ∃ i : Nat, i ≤ j ∧ e = .int .i64 (i : Int) ∧ Hid (Clo bs c l j i) ∧ RelKl (ccells (N : Int) k bs).toArray w wr) (fun e _ => j - (intOf e).toNat)
          case atStart => exact ⟨0, by omega, rfl, HC2.out, HK2.out⟩
          case round =>
            obtain ⟨i, hi, rfl, HC3, HR⟩ := hrel
            have HK3 := hidd HR
            clear HR
            by_cases hij : i < j
            · have A1 := hidd (HAT.out i j (by omega) (by omega) (by omega))
              have A2 := hidd (HAT.out j l (by omega) (by omega) (by omega))
              have A3 := hidd (HAT.out i l (by omega) (by omega) (by omega))
              have HSP := hidd (fun h => HC3.out.step h)
              have HNO := hidd (fun h1 h2 h3 => clB_no (bs := bs) (c := c) (N := N) hlt hij hjl h1 h2 h3)
              generalize colAt bs (i : Int) (j : Int) = x at A1 HSP HNO
              generalize colAt bs (j : Int) (l : Int) = y at A2 HSP HNO
              generalize colAt bs (i : Int) (l : Int) = z at A3 HSP HNO
              by_cases hx : x = c
              · have ex : (x == c) = true := by simpa using hx
                by_cases hy : y = c
                · have ey : (y == c) = true := by simpa using hy
                  by_cases hz : z = c
                  · have ez : (z != c) = false := by simpa using hz
                    have HN := hidd (HSP.out (fun _ _ => hz))
                    clear hx hy hz
                    go_wp2_with (refine wpList_load_row rfl 28 (.tmp 2) rfl w.heap.size rfl 28 _ (0,0) _ HK3.out.1 Tryd.underlying28 rfl HS.out ?_)
                    refine (A1.out _).mono ?_
                    rintro e w3 ⟨rfl, hb3⟩
                    have G3 := hidd (HK3.out.more hb3)
                    clear hb3
                    go_wp2_with (refine wpList_load_row_want rfl 28 (.tmp 2) rfl w.heap.size rfl 28 _ (0,0) _ G3.out.1 Tryd.underlying28 rfl HS.out ?_)
                    refine (A2.out _).mono ?_
                    rintro e w4 ⟨rfl, hb3⟩
                    have G4 := hidd (G3.out.more hb3)
                    clear hb3
                    go_wp2_with (refine wpList_load_row_want rfl 28 (.tmp 2) rfl w.heap.size rfl 28 _ (0,0) _ G4.out.1 Tryd.underlying28 rfl HS.out ?_)
                    refine (A3.out _).mono ?_
                    rintro e w5 ⟨rfl, hb3⟩
                    have G5 := hidd (G4.out.more hb3)
                    clear hb3
                    go_wp2_with fail
                    go_roundw
                    case rel => exact ⟨i + 1, by omega, by go_num, HN, G5.out⟩
                    case measure => simp [intOf]; omega
                  · have ez : (z != c) = true := by rw [bne_iff_ne]; exact hz
                    have HF := hidd (HNO.out hx hy hz)
                    clear hx hy hz
                    go_wp2_with (refine wpList_load_row rfl 28 (.tmp 2) rfl w.heap.size rfl 28 _ (0,0) _ HK3.out.1 Tryd.underlying28 rfl HS.out ?_)
                    refine (A1.out _).mono ?_
                    rintro e w3 ⟨rfl, hb3⟩
                    have G3 := hidd (HK3.out.more hb3)
                    clear hb3
                    go_wp2_with (refine wpList_load_row_want rfl 28 (.tmp 2) rfl w.heap.size rfl 28 _ (0,0) _ G3.out.1 Tryd.underlying28 rfl HS.out ?_)
                    refine (A2.out _).mono ?_
                    rintro e w4 ⟨rfl, hb3⟩
                    have G4 := hidd (G3.out.more hb3)
                    clear hb3
                    go_wp2_with (refine wpList_load_row_want rfl 28 (.tmp 2) rfl w.heap.size rfl 28 _ (0,0) _ G4.out.1 Tryd.underlying28 rfl HS.out ?_)
                    refine (A3.out _).mono ?_
                    rintro e w5 ⟨rfl, hb3⟩
                    have G5 := hidd (G4.out.more hb3)
                    clear hb3
                    go_wp2_with fail
                    go_ret
                    exact ⟨by rw [HF.out]; rfl, G5.out.2⟩
                · have ey : (y == c) = false := by rw [beq_eq_false_iff_ne]; exact hy
                  have HN := hidd (HSP.out (fun _ h => absurd h hy))
                  clear hx hy
                  go_wp2_with (refine wpList_load_row rfl 28 (.tmp 2) rfl w.heap.size rfl 28 _ (0,0) _ HK3.out.1 Tryd.underlying28 rfl HS.out ?_)
                  refine (A1.out _).mono ?_
                  rintro e w3 ⟨rfl, hb3⟩
                  have G3 := hidd (HK3.out.more hb3)
                  clear hb3
                  go_wp2_with (refine wpList_load_row_want rfl 28 (.tmp 2) rfl w.heap.size rfl 28 _ (0,0) _ G3.out.1 Tryd.underlying28 rfl HS.out ?_)
                  refine (A2.out _).mono ?_
                  rintro e w4 ⟨rfl, hb3⟩
                  have G4 := hidd (G3.out.more hb3)
                  clear hb3
                  go_wp2_with fail
                  go_roundw
                  case rel => exact ⟨i + 1, by omega, by go_num, HN, G4.out⟩
                  case measure => simp [intOf]; omega
              · have ex : (x == c) = false := by rw [beq_eq_false_iff_ne]; exact hx
                have HN := hidd (HSP.out (fun h _ => absurd h hx))
                clear hx
                go_wp2_with (refine wpList_load_row rfl 28 (.tmp 2) rfl w.heap.size rfl 28 _ (0,0) _ HK3.out.1 Tryd.underlying28 rfl HS.out ?_)
                refine (A1.out _).mono ?_
                rintro e w3 ⟨rfl, hb3⟩
                have G3 := hidd (HK3.out.more hb3)
                clear hb3
                go_wp2_with fail
                go_roundw
                case rel => exact ⟨i + 1, by omega, by go_num, HN, G3.out⟩
                case measure => simp [intOf]; omega
            · obtain rfl : i = j := by omega
              have HN := hidd HC3.out.row
              go_wp2_with fail
              go_roundw
              case rel => exact ⟨i + 1, by omega, by omega, by go_num, HN, HK3.out⟩
              case measure => simp [intOf]; omega
        · obtain rfl : j = l := by omega
          have HN := hidd HC2.out.tab
          go_wp2_with fail
          go_roundw
          case rel => exact ⟨j + 1, by omega, .inl (by omega), by go_num, HN, HK2.out⟩
          case measure => simp [intOf]; omega
    · have HT := hidd (HC.out.done (N := N) (by omega))
      go_wp2_with fail
      go_ret
      exact ⟨by rw [HT.out]; rfl, HK.out.2⟩
end Go.Proofs.YtmeihpakbhfipaaDoor

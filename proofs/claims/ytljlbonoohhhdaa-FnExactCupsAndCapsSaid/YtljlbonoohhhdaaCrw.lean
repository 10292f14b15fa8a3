/- Rows of points: what they are; the model's test. -/
import Derived.Test.YtljlbonoohhhdaaCbn
import Derived.Test.YtljlbonoohhhdaaErd
import Derived.Test.YtljlbonoohhhdaaQs
import Derived.Test.YtljlbonoohhhdaaGiv
namespace Go.Proofs.Ytljlbonoohhhdaa
set_option linter.unusedVariables false
set_option linter.unusedSimpArgs false
open Go Go.RowKit Go.Shelf
attribute [local go_sem] Oper.semAt_some
/-- A list of lists that can be read, wherever it begins. -/
def LLa (w : World) (a : Option Addr) (L : List (List Int)) : Prop :=
  L = [] ∨ ∃ g o, a = some ⟨g, o, none⟩ ∧ ∀ j, j < L.length → ∃ b c, w.cell? ⟨g, o + j, none⟩ = some (.slice b (L.getD j []).length c) ∧ SlI w b (L.getD j [])
def xL (L : List (List Int)) (i : Nat) : Int := (L.getD i []).getD 0 0
def yL (L : List (List Int)) (i : Nat) : Int := (L.getD i []).getD 1 0
/-- Point i of a row is as told. -/
def okR (L : List (List Int)) (i : Nat) : Prop := (L.getD i []).length = 2 ∧ In1 (xL L i) ∧ In1 (yL L i) ∧ (0 < i → xL L (i - 1) < xL L i)
def RowA (L : List (List Int)) (n : Nat) : Prop := ∀ i, i < n → okR L i
instance (z : Int) : Decidable (In1 z) := by unfold In1; infer_instance
instance (L : List (List Int)) (i : Nat) : Decidable (okR L i) := by unfold okR; infer_instance
instance (L : List (List Int)) (n : Nat) : Decidable (RowA L n) := by unfold RowA; infer_instance
def rowB (L : List (List Int)) : Bool := inB L.length 1 17 && decide (RowA L L.length)
theorem rowB_no {L : List (List Int)} {i : Nat} (hi : i < L.length) (h : ¬ okR L i) : rowB L = false := by
  unfold rowB
  rw [show decide (RowA L L.length) = false by rw [decide_eq_false_iff_not]; exact fun k => h (k i hi), Bool.and_false]
theorem RowA.step {L : List (List Int)} {n : Nat} (h : RowA L n) (k : okR L n) : RowA L (n + 1) := fun i hi => by
  by_cases e : i = n
  · subst e; exact k
  · exact h i (by omega)
/-- A row of two numbers: where it lies. -/
theorem two_at {w : World} {b : Option Addr} {zs : List Int} (hs : SlI w b zs) (h : zs.length = 2) : ∃ g o, b = some ⟨g, o, none⟩ ∧ w.cell? ⟨g, o, none⟩ = some (.int .i64 (zs.getD 0 0)) ∧ w.cell? ⟨g, o + 1, none⟩ = some (.int .i64 (zs.getD 1 0)) := by
  rcases hs with hz | ⟨g, o, ha, hc⟩
  · subst hz; simp at h
  · exact ⟨g, o, ha, by simpa using hc 0 (by omega), hc 1 (by omega)⟩
set_option maxRecDepth 100000 in
set_option maxHeartbeats 4000000 in
theorem row36 (L : List (List Int)) (a : Option Addr) (cap : Nat) (w : World) (hs : LLa w a L) (hl : L.length ≤ 9223372036854775807) (hi : ∀ i, i < L.length → (L.getD i []).length ≤ 9223372036854775807) :
    Calls Try.prog 36 #[.slice a L.length cap] w fun e w' => e = .returned (.bool (rowB L)) ∧ Below w.heap.size w w' := by
  by_cases h1 : 1 ≤ L.length
  · by_cases h17 : L.length ≤ 17
    · have HIB := hidd (show inB (L.length : Int) 1 17 = true from inB_yes (by omega) (by omega))
      rcases hs with hz | ⟨g, o, rfl, hc⟩
      · subst hz; simp at h1
      have HC := hidd hc
      have HI := hidd hi
      clear hc hi
      go_enter Try.func36, Try.ntmps36
      go_wp2_with fail
      go_loopw [3] (fun e wr => ∃ i : Nat, i ≤ L.length ∧ e = .int .i64 (i : Int) ∧ Hid (RowA L i) ∧ Below w.heap.size w wr) (fun e _ => L.length - (intOf e).toNat)
      case atStart => exact ⟨0, Nat.zero_le _, rfl, fun i hi => by omega, Below.refl _ _⟩
      case round =>
        obtain ⟨i, hi, rfl, HR, hbr⟩ := hrel
        have HBR := hidd hbr
        clear hbr
        by_cases hlt : i < L.length
        · obtain ⟨b, c, hcell0, hsl⟩ := HC.out i hlt
          have hcell := (HBR.out.cell (p := ⟨g, o + i, none⟩) (block_lt_of_cell hcell0)).trans hcell0
          have hbd := HI.out i hlt
          have HSL := hidd (hsl.below HBR.out (Nat.le_refl _))
          obtain ⟨zs, hzs⟩ : ∃ zs, zs = L.getD i [] := ⟨_, rfl⟩
          have HZS := hidd hzs
          rw [← hzs] at hcell hbd HSL
          clear hzs hsl hcell0
          by_cases h2 : zs.length = 2
          · obtain ⟨g2, o2, rfl, cx, cy⟩ := two_at HSL.out h2
            rw [h2] at hcell
            obtain ⟨x, hx⟩ : ∃ x, x = zs.getD 0 0 := ⟨_, rfl⟩
            obtain ⟨y, hy⟩ : ∃ y, y = zs.getD 1 0 := ⟨_, rfl⟩
            rw [← hx] at cx
            rw [← hy] at cy
            have HX := hidd (show x = xL L i by rw [hx, HZS.out]; rfl)
            have HY := hidd (show y = yL L i by rw [hy, HZS.out]; rfl)
            have H2 := hidd (show (L.getD i []).length = 2 by rw [← HZS.out]; exact h2)
            clear hx hy h2 hbd
            have HIX := hidd (fun W => in49 x (-1000) 1000 W)
            have HIY := hidd (fun W => in49 y (-1000) 1000 W)
            have hqx : ∀ {z : Int}, inB z (-1000) 1000 = true → In1 z := fun {z} h => by unfold inB at h; rw [Bool.and_eq_true, decide_eq_true_iff, decide_eq_true_iff] at h; exact h
            have hqn : ∀ {z : Int}, inB z (-1000) 1000 = false → ¬ In1 z := fun {z} h k => by rw [inB_yes k.1 k.2] at h; cases h
            have HQ := hidd (And.intro (@hqx) (@hqn))
            clear hqx hqn
            cases hbx : inB x (-1000) 1000 with
            | false =>
              have HF := hidd (rowB_no hlt (fun h => HQ.out.2 hbx (by rw [HX.out]; exact h.2.1)))
              rw [hbx] at HIX
              clear hbx
              go_wp2_with fail
              refine wp_region_quiet_at (fun w' => Below wr.heap.size wr w') rfl (by kernel_rfl) ((Below.refl _ _).drew) ?_
              refine qs rfl (fun KQ hKQ => ?_)
              apply Exists.intro
              refine ⟨fun w' hw' => ?_, ?_⟩
              · go_simp; exact rfl
              go_simp
              refine hKQ _ ?_
              clear hKQ KQ
              refine qs rfl (fun KQ hKQ => ?_)
              apply Exists.intro
              refine ⟨fun w' hw' => ?_, ?_⟩
              · go_simp; exact rfl
              go_simp
              refine hKQ _ ?_
              clear hKQ KQ
              refine qs rfl (fun KQ hKQ => ?_)
              apply Exists.intro
              refine ⟨fun w' hw' => ?_, ?_⟩
              · go_simp; exact rfl
              go_simp
              refine hKQ _ ?_
              clear hKQ KQ
              refine qs rfl (fun KQ hKQ => ?_)
              apply Exists.intro
              refine ⟨fun w' hw' => ?_, ?_⟩
              · have hc := (hw'.cell (p := ⟨g, o + i, none⟩) (block_lt_of_cell hcell)).trans hcell; go_simp; exact rfl
              go_simp
              refine hKQ _ ?_
              clear hKQ KQ
              refine qs rfl (fun KQ hKQ => ?_)
              apply Exists.intro
              refine ⟨fun w' hw' => ?_, ?_⟩
              · go_simp; exact rfl
              go_simp
              refine hKQ _ ?_
              clear hKQ KQ
              refine qs rfl (fun KQ hKQ => ?_)
              apply Exists.intro
              refine ⟨fun w' hw' => ?_, ?_⟩
              · go_simp; exact rfl
              go_simp
              refine hKQ _ ?_
              clear hKQ KQ
              refine qs rfl (fun KQ hKQ => ?_)
              apply Exists.intro
              refine ⟨fun w' hw' => ?_, ?_⟩
              · go_simp; exact rfl
              go_simp
              refine hKQ _ ?_
              clear hKQ KQ
              go_big_quiet_want
              rename_i KQ hKQ
              apply Exists.intro
              refine ⟨fun w' hw' => ?_, ?_⟩
              · go_simp; exact rfl
              go_simp
              refine hKQ _ ?_
              clear hKQ KQ
              go_big_quiet_want
              rename_i KQ hKQ
              apply Exists.intro
              refine ⟨fun w' hw' => ?_, ?_⟩
              · go_simp; exact rfl
              go_simp
              refine hKQ _ ?_
              clear hKQ KQ
              go_big_quiet_want
              rename_i KQ hKQ
              apply Exists.intro
              refine ⟨fun w' hw' => ?_, ?_⟩
              · go_simp; exact rfl
              go_simp
              refine hKQ _ ?_
              clear hKQ KQ
              go_big_quiet_want
              rename_i KQ hKQ
              apply Exists.intro
              refine ⟨fun w' hw' => ?_, ?_⟩
              · have hc := (hw'.cell (p := ⟨g, o + i, none⟩) (block_lt_of_cell hcell)).trans hcell; go_simp; exact rfl
              go_simp
              refine hKQ _ ?_
              clear hKQ KQ
              go_big_quiet_want
              rename_i KQ hKQ
              apply Exists.intro
              refine ⟨fun w' hw' => ?_, ?_⟩
              · go_simp; exact rfl
              go_simp
              refine hKQ _ ?_
              clear hKQ KQ
              go_big_quiet_want
              rename_i KQ hKQ
              apply Exists.intro
              refine ⟨fun w' hw' => ?_, ?_⟩
              · have hc := (hw'.cell (p := ⟨g2, o2, none⟩) (block_lt_of_cell cx)).trans cx; go_simp; exact rfl
              go_simp
              refine hKQ _ ?_
              clear hKQ KQ
              go_big_quiet_want
              rename_i KQ hKQ
              apply Exists.intro
              refine ⟨fun w' hw' => ?_, ?_⟩
              · go_simp; exact (HIX.out _).mono fun _ _ h => ⟨h.1, by rw [← h.2]; exact hw'⟩
              go_simp
              refine hKQ _ ?_
              clear hKQ KQ
              go_big_quiet_want
              rename_i KQ hKQ
              apply Exists.intro
              refine ⟨fun w' hw' => ?_, ?_⟩
              · go_simp; exact rfl
              go_simp
              refine hKQ _ ?_
              clear hKQ KQ
              refine qs rfl (fun KQ hKQ => ?_)
              apply Exists.intro
              refine ⟨fun w' hw' => ?_, ?_⟩
              · go_simp; exact rfl
              go_simp
              refine hKQ _ ?_
              clear hKQ KQ
              refine qs rfl (fun KQ hKQ => ?_)
              apply Exists.intro
              refine ⟨fun w' hw' => ?_, ?_⟩
              · go_simp; exact rfl
              go_simp
              refine hKQ _ ?_
              clear hKQ KQ
              go_big_quiet_skip
              go_big_quiet_skip
              go_big_quiet_skip
              go_big_quiet_skip
              go_big_quiet_skip
              go_big_quiet_skip
              go_big_quiet_skip
              go_big_quiet_skip
              refine qs rfl (fun KQ hKQ => ?_)
              apply Exists.intro
              refine ⟨fun w' hw' => ?_, ?_⟩
              · go_simp; exact rfl
              go_simp
              refine hKQ _ ?_
              clear hKQ KQ
              refine qs rfl (fun KQ hKQ => ?_)
              apply Exists.intro
              refine ⟨fun w' hw' => ?_, ?_⟩
              · go_simp; exact rfl
              go_simp
              refine hKQ _ ?_
              clear hKQ KQ
              go_big_quiet_skip
              go_big_quiet_skip
              go_big_quiet_skip
              go_big_quiet_skip
              go_big_quiet_skip
              go_big_quiet_skip
              go_big_quiet_skip
              go_big_quiet_skip
              go_big_quiet_skip
              go_big_quiet_skip
              go_big_quiet_skip
              go_big_quiet_skip
              go_big_quiet_skip
              go_big_quiet_skip
              go_big_quiet_skip
              go_big_quiet_skip
              go_big_quiet_skip
              go_big_quiet_skip
              refine qs rfl (fun KQ hKQ => ?_)
              apply Exists.intro
              refine ⟨fun w' hw' => ?_, ?_⟩
              · go_simp; exact rfl
              go_simp
              refine hKQ _ ?_
              clear hKQ KQ
              refine wpQuiet_nil ?_
              intro w' hw'
              have HW := hidd (HBR.out.trans (hw'.mono HBR.out.size))
              clear hw'
              go_wp2_with fail
              go_ret
              exact ⟨by rw [HF.out]; rfl, HW.out⟩
            | true =>
              have HOX := hidd (HQ.out.1 hbx)
              rw [hbx] at HIX
              clear hbx
              cases hby : inB y (-1000) 1000 with
              | false =>
                have HF := hidd (rowB_no hlt (fun h => HQ.out.2 hby (by rw [HY.out]; exact h.2.2.1)))
                rw [hby] at HIY
                clear hby
                go_wp2_with fail
                refine wp_region_quiet_at (fun w' => Below wr.heap.size wr w') rfl (by kernel_rfl) ((Below.refl _ _).drew) ?_
                refine qs rfl (fun KQ hKQ => ?_)
                apply Exists.intro
                refine ⟨fun w' hw' => ?_, ?_⟩
                · go_simp; exact rfl
                go_simp
                refine hKQ _ ?_
                clear hKQ KQ
                refine qs rfl (fun KQ hKQ => ?_)
                apply Exists.intro
                refine ⟨fun w' hw' => ?_, ?_⟩
                · go_simp; exact rfl
                go_simp
                refine hKQ _ ?_
                clear hKQ KQ
                refine qs rfl (fun KQ hKQ => ?_)
                apply Exists.intro
                refine ⟨fun w' hw' => ?_, ?_⟩
                · go_simp; exact rfl
                go_simp
                refine hKQ _ ?_
                clear hKQ KQ
                refine qs rfl (fun KQ hKQ => ?_)
                apply Exists.intro
                refine ⟨fun w' hw' => ?_, ?_⟩
                · have hc := (hw'.cell (p := ⟨g, o + i, none⟩) (block_lt_of_cell hcell)).trans hcell; go_simp; exact rfl
                go_simp
                refine hKQ _ ?_
                clear hKQ KQ
                refine qs rfl (fun KQ hKQ => ?_)
                apply Exists.intro
                refine ⟨fun w' hw' => ?_, ?_⟩
                · go_simp; exact rfl
                go_simp
                refine hKQ _ ?_
                clear hKQ KQ
                refine qs rfl (fun KQ hKQ => ?_)
                apply Exists.intro
                refine ⟨fun w' hw' => ?_, ?_⟩
                · go_simp; exact rfl
                go_simp
                refine hKQ _ ?_
                clear hKQ KQ
                refine qs rfl (fun KQ hKQ => ?_)
                apply Exists.intro
                refine ⟨fun w' hw' => ?_, ?_⟩
                · go_simp; exact rfl
                go_simp
                refine hKQ _ ?_
                clear hKQ KQ
                go_big_quiet_want
                rename_i KQ hKQ
                apply Exists.intro
                refine ⟨fun w' hw' => ?_, ?_⟩
                · go_simp; exact rfl
                go_simp
                refine hKQ _ ?_
                clear hKQ KQ
                go_big_quiet_want
                rename_i KQ hKQ
                apply Exists.intro
                refine ⟨fun w' hw' => ?_, ?_⟩
                · go_simp; exact rfl
                go_simp
                refine hKQ _ ?_
                clear hKQ KQ
                go_big_quiet_want
                rename_i KQ hKQ
                apply Exists.intro
                refine ⟨fun w' hw' => ?_, ?_⟩
                · go_simp; exact rfl
                go_simp
                refine hKQ _ ?_
                clear hKQ KQ
                go_big_quiet_want
                rename_i KQ hKQ
                apply Exists.intro
                refine ⟨fun w' hw' => ?_, ?_⟩
                · have hc := (hw'.cell (p := ⟨g, o + i, none⟩) (block_lt_of_cell hcell)).trans hcell; go_simp; exact rfl
                go_simp
                refine hKQ _ ?_
                clear hKQ KQ
                go_big_quiet_want
                rename_i KQ hKQ
                apply Exists.intro
                refine ⟨fun w' hw' => ?_, ?_⟩
                · go_simp; exact rfl
                go_simp
                refine hKQ _ ?_
                clear hKQ KQ
                go_big_quiet_want
                rename_i KQ hKQ
                apply Exists.intro
                refine ⟨fun w' hw' => ?_, ?_⟩
                · have hc := (hw'.cell (p := ⟨g2, o2, none⟩) (block_lt_of_cell cx)).trans cx; go_simp; exact rfl
                go_simp
                refine hKQ _ ?_
                clear hKQ KQ
                go_big_quiet_want
                rename_i KQ hKQ
                apply Exists.intro
                refine ⟨fun w' hw' => ?_, ?_⟩
                · go_simp; exact (HIX.out _).mono fun _ _ h => ⟨h.1, by rw [← h.2]; exact hw'⟩
                go_simp
                refine hKQ _ ?_
                clear hKQ KQ
                go_big_quiet_want
                rename_i KQ hKQ
                apply Exists.intro
                refine ⟨fun w' hw' => ?_, ?_⟩
                · go_simp; exact rfl
                go_simp
                refine hKQ _ ?_
                clear hKQ KQ
                refine qs rfl (fun KQ hKQ => ?_)
                apply Exists.intro
                refine ⟨fun w' hw' => ?_, ?_⟩
                · go_simp; exact rfl
                go_simp
                refine hKQ _ ?_
                clear hKQ KQ
                refine qs rfl (fun KQ hKQ => ?_)
                apply Exists.intro
                refine ⟨fun w' hw' => ?_, ?_⟩
                · go_simp; exact rfl
                go_simp
                refine hKQ _ ?_
                clear hKQ KQ
                go_big_quiet_want
                rename_i KQ hKQ
                apply Exists.intro
                refine ⟨fun w' hw' => ?_, ?_⟩
                · go_simp; exact rfl
                go_simp
                refine hKQ _ ?_
                clear hKQ KQ
                go_big_quiet_want
                rename_i KQ hKQ
                apply Exists.intro
                refine ⟨fun w' hw' => ?_, ?_⟩
                · go_simp; exact rfl
                go_simp
                refine hKQ _ ?_
                clear hKQ KQ
                go_big_quiet_want
                rename_i KQ hKQ
                apply Exists.intro
                refine ⟨fun w' hw' => ?_, ?_⟩
                · go_simp; exact rfl
                go_simp
                refine hKQ _ ?_
                clear hKQ KQ
                go_big_quiet_want
                rename_i KQ hKQ
                apply Exists.intro
                refine ⟨fun w' hw' => ?_, ?_⟩
                · have hc := (hw'.cell (p := ⟨g, o + i, none⟩) (block_lt_of_cell hcell)).trans hcell; go_simp; exact rfl
                go_simp
                refine hKQ _ ?_
                clear hKQ KQ
                go_big_quiet_want
                rename_i KQ hKQ
                apply Exists.intro
                refine ⟨fun w' hw' => ?_, ?_⟩
                · go_simp; exact rfl
                go_simp
                refine hKQ _ ?_
                clear hKQ KQ
                go_big_quiet_want
                rename_i KQ hKQ
                apply Exists.intro
                refine ⟨fun w' hw' => ?_, ?_⟩
                · have hc := (hw'.cell (p := ⟨g2, o2 + 1, none⟩) (block_lt_of_cell cy)).trans cy; go_simp; exact rfl
                go_simp
                refine hKQ _ ?_
                clear hKQ KQ
                go_big_quiet_want
                rename_i KQ hKQ
                apply Exists.intro
                refine ⟨fun w' hw' => ?_, ?_⟩
                · go_simp; exact (HIY.out _).mono fun _ _ h => ⟨h.1, by rw [← h.2]; exact hw'⟩
                go_simp
                refine hKQ _ ?_
                clear hKQ KQ
                go_big_quiet_want
                rename_i KQ hKQ
                apply Exists.intro
                refine ⟨fun w' hw' => ?_, ?_⟩
                · go_simp; exact rfl
                go_simp
                refine hKQ _ ?_
                clear hKQ KQ
                refine qs rfl (fun KQ hKQ => ?_)
                apply Exists.intro
                refine ⟨fun w' hw' => ?_, ?_⟩
                · go_simp; exact rfl
                go_simp
                refine hKQ _ ?_
                clear hKQ KQ
                refine qs rfl (fun KQ hKQ => ?_)
                apply Exists.intro
                refine ⟨fun w' hw' => ?_, ?_⟩
                · go_simp; exact rfl
                go_simp
                refine hKQ _ ?_
                clear hKQ KQ
                go_big_quiet_skip
                go_big_quiet_skip
                go_big_quiet_skip
                go_big_quiet_skip
                go_big_quiet_skip
                go_big_quiet_skip
                go_big_quiet_skip
                go_big_quiet_skip
                go_big_quiet_skip
                go_big_quiet_skip
                go_big_quiet_skip
                go_big_quiet_skip
                go_big_quiet_skip
                go_big_quiet_skip
                go_big_quiet_skip
                go_big_quiet_skip
                go_big_quiet_skip
                go_big_quiet_skip
                refine qs rfl (fun KQ hKQ => ?_)
                apply Exists.intro
                refine ⟨fun w' hw' => ?_, ?_⟩
                · go_simp; exact rfl
                go_simp
                refine hKQ _ ?_
                clear hKQ KQ
                refine wpQuiet_nil ?_
                intro w' hw'
                have HW := hidd (HBR.out.trans (hw'.mono HBR.out.size))
                clear hw'
                go_wp2_with fail
                go_ret
                exact ⟨by rw [HF.out]; rfl, HW.out⟩
              | true =>
                have HOY := hidd (HQ.out.1 hby)
                rw [hby] at HIY
                clear hby
                by_cases h0 : i = 0
                · have HOK := hidd (show okR L i from ⟨H2.out, by rw [← HX.out]; exact HOX.out, by rw [← HY.out]; exact HOY.out, fun h => by omega⟩)
                  have hgt : decide ((i : Int) > 0) = false := by simp; omega
                  have hgt1 : decide ((0 : Int) < (i : Int)) = false := by simp; omega
                  have hgt2 : decide (0 < i) = false := by simp; omega
                  clear h0
                  go_wp2_with fail
                  refine wp_region_quiet_at (fun w' => Below wr.heap.size wr w') rfl (by kernel_rfl) ((Below.refl _ _).drew) ?_
                  refine qs rfl (fun KQ hKQ => ?_)
                  apply Exists.intro
                  refine ⟨fun w' hw' => ?_, ?_⟩
                  · go_simp; exact rfl
                  go_simp
                  refine hKQ _ ?_
                  clear hKQ KQ
                  refine qs rfl (fun KQ hKQ => ?_)
                  apply Exists.intro
                  refine ⟨fun w' hw' => ?_, ?_⟩
                  · go_simp; exact rfl
                  go_simp
                  refine hKQ _ ?_
                  clear hKQ KQ
                  refine qs rfl (fun KQ hKQ => ?_)
                  apply Exists.intro
                  refine ⟨fun w' hw' => ?_, ?_⟩
                  · go_simp; exact rfl
                  go_simp
                  refine hKQ _ ?_
                  clear hKQ KQ
                  refine qs rfl (fun KQ hKQ => ?_)
                  apply Exists.intro
                  refine ⟨fun w' hw' => ?_, ?_⟩
                  · have hc := (hw'.cell (p := ⟨g, o + i, none⟩) (block_lt_of_cell hcell)).trans hcell; go_simp; exact rfl
                  go_simp
                  refine hKQ _ ?_
                  clear hKQ KQ
                  refine qs rfl (fun KQ hKQ => ?_)
                  apply Exists.intro
                  refine ⟨fun w' hw' => ?_, ?_⟩
                  · go_simp; exact rfl
                  go_simp
                  refine hKQ _ ?_
                  clear hKQ KQ
                  refine qs rfl (fun KQ hKQ => ?_)
                  apply Exists.intro
                  refine ⟨fun w' hw' => ?_, ?_⟩
                  · go_simp; exact rfl
                  go_simp
                  refine hKQ _ ?_
                  clear hKQ KQ
                  refine qs rfl (fun KQ hKQ => ?_)
                  apply Exists.intro
                  refine ⟨fun w' hw' => ?_, ?_⟩
                  · go_simp; exact rfl
                  go_simp
                  refine hKQ _ ?_
                  clear hKQ KQ
                  go_big_quiet_want
                  rename_i KQ hKQ
                  apply Exists.intro
                  refine ⟨fun w' hw' => ?_, ?_⟩
                  · go_simp; exact rfl
                  go_simp
                  refine hKQ _ ?_
                  clear hKQ KQ
                  go_big_quiet_want
                  rename_i KQ hKQ
                  apply Exists.intro
                  refine ⟨fun w' hw' => ?_, ?_⟩
                  · go_simp; exact rfl
                  go_simp
                  refine hKQ _ ?_
                  clear hKQ KQ
                  go_big_quiet_want
                  rename_i KQ hKQ
                  apply Exists.intro
                  refine ⟨fun w' hw' => ?_, ?_⟩
                  · go_simp; exact rfl
                  go_simp
                  refine hKQ _ ?_
                  clear hKQ KQ
                  go_big_quiet_want
                  rename_i KQ hKQ
                  apply Exists.intro
                  refine ⟨fun w' hw' => ?_, ?_⟩
                  · have hc := (hw'.cell (p := ⟨g, o + i, none⟩) (block_lt_of_cell hcell)).trans hcell; go_simp; exact rfl
                  go_simp
                  refine hKQ _ ?_
                  clear hKQ KQ
                  go_big_quiet_want
                  rename_i KQ hKQ
                  apply Exists.intro
                  refine ⟨fun w' hw' => ?_, ?_⟩
                  · go_simp; exact rfl
                  go_simp
                  refine hKQ _ ?_
                  clear hKQ KQ
                  go_big_quiet_want
                  rename_i KQ hKQ
                  apply Exists.intro
                  refine ⟨fun w' hw' => ?_, ?_⟩
                  · have hc := (hw'.cell (p := ⟨g2, o2, none⟩) (block_lt_of_cell cx)).trans cx; go_simp; exact rfl
                  go_simp
                  refine hKQ _ ?_
                  clear hKQ KQ
                  go_big_quiet_want
                  rename_i KQ hKQ
                  apply Exists.intro
                  refine ⟨fun w' hw' => ?_, ?_⟩
                  · go_simp; exact (HIX.out _).mono fun _ _ h => ⟨h.1, by rw [← h.2]; exact hw'⟩
                  go_simp
                  refine hKQ _ ?_
                  clear hKQ KQ
                  go_big_quiet_want
                  rename_i KQ hKQ
                  apply Exists.intro
                  refine ⟨fun w' hw' => ?_, ?_⟩
                  · go_simp; exact rfl
                  go_simp
                  refine hKQ _ ?_
                  clear hKQ KQ
                  refine qs rfl (fun KQ hKQ => ?_)
                  apply Exists.intro
                  refine ⟨fun w' hw' => ?_, ?_⟩
                  · go_simp; exact rfl
                  go_simp
                  refine hKQ _ ?_
                  clear hKQ KQ
                  refine qs rfl (fun KQ hKQ => ?_)
                  apply Exists.intro
                  refine ⟨fun w' hw' => ?_, ?_⟩
                  · go_simp; exact rfl
                  go_simp
                  refine hKQ _ ?_
                  clear hKQ KQ
                  go_big_quiet_want
                  rename_i KQ hKQ
                  apply Exists.intro
                  refine ⟨fun w' hw' => ?_, ?_⟩
                  · go_simp; exact rfl
                  go_simp
                  refine hKQ _ ?_
                  clear hKQ KQ
                  go_big_quiet_want
                  rename_i KQ hKQ
                  apply Exists.intro
                  refine ⟨fun w' hw' => ?_, ?_⟩
                  · go_simp; exact rfl
                  go_simp
                  refine hKQ _ ?_
                  clear hKQ KQ
                  go_big_quiet_want
                  rename_i KQ hKQ
                  apply Exists.intro
                  refine ⟨fun w' hw' => ?_, ?_⟩
                  · go_simp; exact rfl
                  go_simp
                  refine hKQ _ ?_
                  clear hKQ KQ
                  go_big_quiet_want
                  rename_i KQ hKQ
                  apply Exists.intro
                  refine ⟨fun w' hw' => ?_, ?_⟩
                  · have hc := (hw'.cell (p := ⟨g, o + i, none⟩) (block_lt_of_cell hcell)).trans hcell; go_simp; exact rfl
                  go_simp
                  refine hKQ _ ?_
                  clear hKQ KQ
                  go_big_quiet_want
                  rename_i KQ hKQ
                  apply Exists.intro
                  refine ⟨fun w' hw' => ?_, ?_⟩
                  · go_simp; exact rfl
                  go_simp
                  refine hKQ _ ?_
                  clear hKQ KQ
                  go_big_quiet_want
                  rename_i KQ hKQ
                  apply Exists.intro
                  refine ⟨fun w' hw' => ?_, ?_⟩
                  · have hc := (hw'.cell (p := ⟨g2, o2 + 1, none⟩) (block_lt_of_cell cy)).trans cy; go_simp; exact rfl
                  go_simp
                  refine hKQ _ ?_
                  clear hKQ KQ
                  go_big_quiet_want
                  rename_i KQ hKQ
                  apply Exists.intro
                  refine ⟨fun w' hw' => ?_, ?_⟩
                  · go_simp; exact (HIY.out _).mono fun _ _ h => ⟨h.1, by rw [← h.2]; exact hw'⟩
                  go_simp
                  refine hKQ _ ?_
                  clear hKQ KQ
                  go_big_quiet_want
                  rename_i KQ hKQ
                  apply Exists.intro
                  refine ⟨fun w' hw' => ?_, ?_⟩
                  · go_simp; exact rfl
                  go_simp
                  refine hKQ _ ?_
                  clear hKQ KQ
                  refine qs rfl (fun KQ hKQ => ?_)
                  apply Exists.intro
                  refine ⟨fun w' hw' => ?_, ?_⟩
                  · go_simp; exact rfl
                  go_simp
                  refine hKQ _ ?_
                  clear hKQ KQ
                  refine qs rfl (fun KQ hKQ => ?_)
                  apply Exists.intro
                  refine ⟨fun w' hw' => ?_, ?_⟩
                  · go_simp; exact rfl
                  go_simp
                  refine hKQ _ ?_
                  clear hKQ KQ
                  go_big_quiet_want
                  rename_i KQ hKQ
                  apply Exists.intro
                  refine ⟨fun w' hw' => ?_, ?_⟩
                  · go_simp; exact rfl
                  go_simp
                  refine hKQ _ ?_
                  clear hKQ KQ
                  go_big_quiet_want
                  rename_i KQ hKQ
                  apply Exists.intro
                  refine ⟨fun w' hw' => ?_, ?_⟩
                  · go_simp; exact rfl
                  go_simp
                  refine hKQ _ ?_
                  clear hKQ KQ
                  go_big_quiet_want
                  rename_i KQ hKQ
                  apply Exists.intro
                  refine ⟨fun w' hw' => ?_, ?_⟩
                  · go_simp; exact rfl
                  go_simp
                  refine hKQ _ ?_
                  clear hKQ KQ
                  go_big_quiet_skip
                  go_big_quiet_skip
                  go_big_quiet_skip
                  go_big_quiet_skip
                  go_big_quiet_skip
                  go_big_quiet_skip
                  go_big_quiet_skip
                  go_big_quiet_skip
                  go_big_quiet_skip
                  go_big_quiet_skip
                  go_big_quiet_skip
                  go_big_quiet_skip
                  go_big_quiet_skip
                  go_big_quiet_skip
                  go_big_quiet_want
                  rename_i KQ hKQ
                  apply Exists.intro
                  refine ⟨fun w' hw' => ?_, ?_⟩
                  · go_simp; exact rfl
                  go_simp
                  refine hKQ _ ?_
                  clear hKQ KQ
                  refine qs rfl (fun KQ hKQ => ?_)
                  apply Exists.intro
                  refine ⟨fun w' hw' => ?_, ?_⟩
                  · go_simp; exact rfl
                  go_simp
                  refine hKQ _ ?_
                  clear hKQ KQ
                  refine wpQuiet_nil ?_
                  intro w' hw'
                  have HW := hidd (HBR.out.trans (hw'.mono HBR.out.size))
                  clear hw'
                  go_wp2_with fail
                  go_roundw
                  case rel => exact ⟨i + 1, by omega, by go_num, HR.out.step HOK.out, HW.out⟩
                  case measure => simp [intOf]; omega
                · have hpr := HR.out (i - 1) (by omega)
                  obtain ⟨bp, cp, pcell0, psl⟩ := HC.out (i - 1) (by omega)
                  have pcell := (HBR.out.cell (p := ⟨g, o + (i - 1), none⟩) (block_lt_of_cell pcell0)).trans pcell0
                  obtain ⟨g3, o3, rfl, px, _⟩ := two_at (psl.below HBR.out (Nat.le_refl _)) hpr.1
                  rw [hpr.1] at pcell
                  obtain ⟨u, hu⟩ : ∃ u, u = (L.getD (i - 1) []).getD 0 0 := ⟨_, rfl⟩
                  rw [← hu] at px
                  have HU := hidd (show u = xL L (i - 1) from hu)
                  have hgt : decide ((i : Int) > 0) = true := by simp; omega
                  have hgt1 : decide ((0 : Int) < (i : Int)) = true := by simp; omega
                  have hgt2 : decide (0 < i) = true := by simp; omega
                  have hi0 : (0 : Int) ≤ (i : Int) - 1 := by omega
                  have hi2 : (1 : Int) ≤ (i : Int) := by omega
                  have hi1 : (i : Int) - 1 < (L.length : Int) := by omega
                  have hwi : IntKind.i64.wrap ((i : Int) - 1) = (i : Int) - 1 := IntWalk.i64_in _ (by omega)
                  have hti : ((i : Int) - 1).toNat = i - 1 := by omega
                  clear hu hpr psl pcell0
                  by_cases hle : x ≤ u
                  · have hld : decide (x ≤ u) = true := by simpa using hle
                    have HF := hidd (rowB_no hlt (fun h => by have := h.2.2.2 (by omega); rw [← HX.out, ← HU.out] at this; omega))
                    clear hle
                    go_wp2_with fail
                    refine wp_region_quiet_at (fun w' => Below wr.heap.size wr w') rfl (by kernel_rfl) ((Below.refl _ _).drew) ?_
                    refine qs rfl (fun KQ hKQ => ?_)
                    apply Exists.intro
                    refine ⟨fun w' hw' => ?_, ?_⟩
                    · go_simp; exact rfl
                    go_simp
                    refine hKQ _ ?_
                    clear hKQ KQ
                    refine qs rfl (fun KQ hKQ => ?_)
                    apply Exists.intro
                    refine ⟨fun w' hw' => ?_, ?_⟩
                    · go_simp; exact rfl
                    go_simp
                    refine hKQ _ ?_
                    clear hKQ KQ
                    refine qs rfl (fun KQ hKQ => ?_)
                    apply Exists.intro
                    refine ⟨fun w' hw' => ?_, ?_⟩
                    · go_simp; exact rfl
                    go_simp
                    refine hKQ _ ?_
                    clear hKQ KQ
                    refine qs rfl (fun KQ hKQ => ?_)
                    apply Exists.intro
                    refine ⟨fun w' hw' => ?_, ?_⟩
                    · have hc := (hw'.cell (p := ⟨g, o + i, none⟩) (block_lt_of_cell hcell)).trans hcell; go_simp; exact rfl
                    go_simp
                    refine hKQ _ ?_
                    clear hKQ KQ
                    refine qs rfl (fun KQ hKQ => ?_)
                    apply Exists.intro
                    refine ⟨fun w' hw' => ?_, ?_⟩
                    · go_simp; exact rfl
                    go_simp
                    refine hKQ _ ?_
                    clear hKQ KQ
                    refine qs rfl (fun KQ hKQ => ?_)
                    apply Exists.intro
                    refine ⟨fun w' hw' => ?_, ?_⟩
                    · go_simp; exact rfl
                    go_simp
                    refine hKQ _ ?_
                    clear hKQ KQ
                    refine qs rfl (fun KQ hKQ => ?_)
                    apply Exists.intro
                    refine ⟨fun w' hw' => ?_, ?_⟩
                    · go_simp; exact rfl
                    go_simp
                    refine hKQ _ ?_
                    clear hKQ KQ
                    go_big_quiet_want
                    rename_i KQ hKQ
                    apply Exists.intro
                    refine ⟨fun w' hw' => ?_, ?_⟩
                    · go_simp; exact rfl
                    go_simp
                    refine hKQ _ ?_
                    clear hKQ KQ
                    go_big_quiet_want
                    rename_i KQ hKQ
                    apply Exists.intro
                    refine ⟨fun w' hw' => ?_, ?_⟩
                    · go_simp; exact rfl
                    go_simp
                    refine hKQ _ ?_
                    clear hKQ KQ
                    go_big_quiet_want
                    rename_i KQ hKQ
                    apply Exists.intro
                    refine ⟨fun w' hw' => ?_, ?_⟩
                    · go_simp; exact rfl
                    go_simp
                    refine hKQ _ ?_
                    clear hKQ KQ
                    go_big_quiet_want
                    rename_i KQ hKQ
                    apply Exists.intro
                    refine ⟨fun w' hw' => ?_, ?_⟩
                    · have hc := (hw'.cell (p := ⟨g, o + i, none⟩) (block_lt_of_cell hcell)).trans hcell; go_simp; exact rfl
                    go_simp
                    refine hKQ _ ?_
                    clear hKQ KQ
                    go_big_quiet_want
                    rename_i KQ hKQ
                    apply Exists.intro
                    refine ⟨fun w' hw' => ?_, ?_⟩
                    · go_simp; exact rfl
                    go_simp
                    refine hKQ _ ?_
                    clear hKQ KQ
                    go_big_quiet_want
                    rename_i KQ hKQ
                    apply Exists.intro
                    refine ⟨fun w' hw' => ?_, ?_⟩
                    · have hc := (hw'.cell (p := ⟨g2, o2, none⟩) (block_lt_of_cell cx)).trans cx; go_simp; exact rfl
                    go_simp
                    refine hKQ _ ?_
                    clear hKQ KQ
                    go_big_quiet_want
                    rename_i KQ hKQ
                    apply Exists.intro
                    refine ⟨fun w' hw' => ?_, ?_⟩
                    · go_simp; exact (HIX.out _).mono fun _ _ h => ⟨h.1, by rw [← h.2]; exact hw'⟩
                    go_simp
                    refine hKQ _ ?_
                    clear hKQ KQ
                    go_big_quiet_want
                    rename_i KQ hKQ
                    apply Exists.intro
                    refine ⟨fun w' hw' => ?_, ?_⟩
                    · go_simp; exact rfl
                    go_simp
                    refine hKQ _ ?_
                    clear hKQ KQ
                    refine qs rfl (fun KQ hKQ => ?_)
                    apply Exists.intro
                    refine ⟨fun w' hw' => ?_, ?_⟩
                    · go_simp; exact rfl
                    go_simp
                    refine hKQ _ ?_
                    clear hKQ KQ
                    refine qs rfl (fun KQ hKQ => ?_)
                    apply Exists.intro
                    refine ⟨fun w' hw' => ?_, ?_⟩
                    · go_simp; exact rfl
                    go_simp
                    refine hKQ _ ?_
                    clear hKQ KQ
                    go_big_quiet_want
                    rename_i KQ hKQ
                    apply Exists.intro
                    refine ⟨fun w' hw' => ?_, ?_⟩
                    · go_simp; exact rfl
                    go_simp
                    refine hKQ _ ?_
                    clear hKQ KQ
                    go_big_quiet_want
                    rename_i KQ hKQ
                    apply Exists.intro
                    refine ⟨fun w' hw' => ?_, ?_⟩
                    · go_simp; exact rfl
                    go_simp
                    refine hKQ _ ?_
                    clear hKQ KQ
                    go_big_quiet_want
                    rename_i KQ hKQ
                    apply Exists.intro
                    refine ⟨fun w' hw' => ?_, ?_⟩
                    · go_simp; exact rfl
                    go_simp
                    refine hKQ _ ?_
                    clear hKQ KQ
                    go_big_quiet_want
                    rename_i KQ hKQ
                    apply Exists.intro
                    refine ⟨fun w' hw' => ?_, ?_⟩
                    · have hc := (hw'.cell (p := ⟨g, o + i, none⟩) (block_lt_of_cell hcell)).trans hcell; go_simp; exact rfl
                    go_simp
                    refine hKQ _ ?_
                    clear hKQ KQ
                    go_big_quiet_want
                    rename_i KQ hKQ
                    apply Exists.intro
                    refine ⟨fun w' hw' => ?_, ?_⟩
                    · go_simp; exact rfl
                    go_simp
                    refine hKQ _ ?_
                    clear hKQ KQ
                    go_big_quiet_want
                    rename_i KQ hKQ
                    apply Exists.intro
                    refine ⟨fun w' hw' => ?_, ?_⟩
                    · have hc := (hw'.cell (p := ⟨g2, o2 + 1, none⟩) (block_lt_of_cell cy)).trans cy; go_simp; exact rfl
                    go_simp
                    refine hKQ _ ?_
                    clear hKQ KQ
                    go_big_quiet_want
                    rename_i KQ hKQ
                    apply Exists.intro
                    refine ⟨fun w' hw' => ?_, ?_⟩
                    · go_simp; exact (HIY.out _).mono fun _ _ h => ⟨h.1, by rw [← h.2]; exact hw'⟩
                    go_simp
                    refine hKQ _ ?_
                    clear hKQ KQ
                    go_big_quiet_want
                    rename_i KQ hKQ
                    apply Exists.intro
                    refine ⟨fun w' hw' => ?_, ?_⟩
                    · go_simp; exact rfl
                    go_simp
                    refine hKQ _ ?_
                    clear hKQ KQ
                    refine qs rfl (fun KQ hKQ => ?_)
                    apply Exists.intro
                    refine ⟨fun w' hw' => ?_, ?_⟩
                    · go_simp; exact rfl
                    go_simp
                    refine hKQ _ ?_
                    clear hKQ KQ
                    refine qs rfl (fun KQ hKQ => ?_)
                    apply Exists.intro
                    refine ⟨fun w' hw' => ?_, ?_⟩
                    · go_simp; exact rfl
                    go_simp
                    refine hKQ _ ?_
                    clear hKQ KQ
                    go_big_quiet_want
                    rename_i KQ hKQ
                    apply Exists.intro
                    refine ⟨fun w' hw' => ?_, ?_⟩
                    · go_simp; exact rfl
                    go_simp
                    refine hKQ _ ?_
                    clear hKQ KQ
                    go_big_quiet_want
                    rename_i KQ hKQ
                    apply Exists.intro
                    refine ⟨fun w' hw' => ?_, ?_⟩
                    · go_simp; exact rfl
                    go_simp
                    refine hKQ _ ?_
                    clear hKQ KQ
                    go_big_quiet_want
                    rename_i KQ hKQ
                    apply Exists.intro
                    refine ⟨fun w' hw' => ?_, ?_⟩
                    · go_simp; exact rfl
                    go_simp
                    refine hKQ _ ?_
                    clear hKQ KQ
                    go_big_quiet_want
                    rename_i KQ hKQ
                    apply Exists.intro
                    refine ⟨fun w' hw' => ?_, ?_⟩
                    · go_simp; exact rfl
                    go_simp
                    refine hKQ _ ?_
                    clear hKQ KQ
                    go_big_quiet_want
                    rename_i KQ hKQ
                    apply Exists.intro
                    refine ⟨fun w' hw' => ?_, ?_⟩
                    · go_simp; exact rfl
                    go_simp
                    refine hKQ _ ?_
                    clear hKQ KQ
                    go_big_quiet_want
                    rename_i KQ hKQ
                    apply Exists.intro
                    refine ⟨fun w' hw' => ?_, ?_⟩
                    · go_simp; exact rfl
                    go_simp
                    refine hKQ _ ?_
                    clear hKQ KQ
                    go_big_quiet_want
                    rename_i KQ hKQ
                    apply Exists.intro
                    refine ⟨fun w' hw' => ?_, ?_⟩
                    · have hc := (hw'.cell (p := ⟨g, o + i, none⟩) (block_lt_of_cell hcell)).trans hcell; go_simp; exact rfl
                    go_simp
                    refine hKQ _ ?_
                    clear hKQ KQ
                    go_big_quiet_want
                    rename_i KQ hKQ
                    apply Exists.intro
                    refine ⟨fun w' hw' => ?_, ?_⟩
                    · go_simp; exact rfl
                    go_simp
                    refine hKQ _ ?_
                    clear hKQ KQ
                    go_big_quiet_want
                    rename_i KQ hKQ
                    apply Exists.intro
                    refine ⟨fun w' hw' => ?_, ?_⟩
                    · have hc := (hw'.cell (p := ⟨g2, o2, none⟩) (block_lt_of_cell cx)).trans cx; go_simp; exact rfl
                    go_simp
                    refine hKQ _ ?_
                    clear hKQ KQ
                    go_big_quiet_want
                    rename_i KQ hKQ
                    apply Exists.intro
                    refine ⟨fun w' hw' => ?_, ?_⟩
                    · go_simp; exact rfl
                    go_simp
                    refine hKQ _ ?_
                    clear hKQ KQ
                    go_big_quiet_want
                    rename_i KQ hKQ
                    apply Exists.intro
                    refine ⟨fun w' hw' => ?_, ?_⟩
                    · go_simp; exact rfl
                    go_simp
                    refine hKQ _ ?_
                    clear hKQ KQ
                    go_big_quiet_want
                    rename_i KQ hKQ
                    apply Exists.intro
                    refine ⟨fun w' hw' => ?_, ?_⟩
                    · go_simp; exact rfl
                    go_simp
                    refine hKQ _ ?_
                    clear hKQ KQ
                    go_big_quiet_want
                    rename_i KQ hKQ
                    apply Exists.intro
                    refine ⟨fun w' hw' => ?_, ?_⟩
                    · go_simp; exact rfl
                    go_simp
                    refine hKQ _ ?_
                    clear hKQ KQ
                    go_big_quiet_want
                    rename_i KQ hKQ
                    apply Exists.intro
                    refine ⟨fun w' hw' => ?_, ?_⟩
                    · have hc := (hw'.cell (p := ⟨g, o + (i - 1), none⟩) (block_lt_of_cell pcell)).trans pcell; go_simp; exact rfl
                    go_simp
                    refine hKQ _ ?_
                    clear hKQ KQ
                    go_big_quiet_want
                    rename_i KQ hKQ
                    apply Exists.intro
                    refine ⟨fun w' hw' => ?_, ?_⟩
                    · go_simp; exact rfl
                    go_simp
                    refine hKQ _ ?_
                    clear hKQ KQ
                    go_big_quiet_want
                    rename_i KQ hKQ
                    apply Exists.intro
                    refine ⟨fun w' hw' => ?_, ?_⟩
                    · have hc := (hw'.cell (p := ⟨g3, o3, none⟩) (block_lt_of_cell px)).trans px; go_simp; exact rfl
                    go_simp
                    refine hKQ _ ?_
                    clear hKQ KQ
                    go_big_quiet_want
                    rename_i KQ hKQ
                    apply Exists.intro
                    refine ⟨fun w' hw' => ?_, ?_⟩
                    · go_simp; exact rfl
                    go_simp
                    refine hKQ _ ?_
                    clear hKQ KQ
                    go_big_quiet_want
                    rename_i KQ hKQ
                    apply Exists.intro
                    refine ⟨fun w' hw' => ?_, ?_⟩
                    · go_simp; exact rfl
                    go_simp
                    refine hKQ _ ?_
                    clear hKQ KQ
                    refine qs rfl (fun KQ hKQ => ?_)
                    apply Exists.intro
                    refine ⟨fun w' hw' => ?_, ?_⟩
                    · go_simp; exact rfl
                    go_simp
                    refine hKQ _ ?_
                    clear hKQ KQ
                    refine wpQuiet_nil ?_
                    intro w' hw'
                    have HW := hidd (HBR.out.trans (hw'.mono HBR.out.size))
                    clear hw'
                    go_wp2_with fail
                    go_ret
                    exact ⟨by rw [HF.out]; rfl, HW.out⟩
                  · have hld : decide (x ≤ u) = false := by simpa using hle
                    have HOK := hidd (show okR L i from ⟨H2.out, by rw [← HX.out]; exact HOX.out, by rw [← HY.out]; exact HOY.out, fun h => by rw [← HX.out, ← HU.out]; omega⟩)
                    clear hle
                    go_wp2_with fail
                    refine wp_region_quiet_at (fun w' => Below wr.heap.size wr w') rfl (by kernel_rfl) ((Below.refl _ _).drew) ?_
                    refine qs rfl (fun KQ hKQ => ?_)
                    apply Exists.intro
                    refine ⟨fun w' hw' => ?_, ?_⟩
                    · go_simp; exact rfl
                    go_simp
                    refine hKQ _ ?_
                    clear hKQ KQ
                    refine qs rfl (fun KQ hKQ => ?_)
                    apply Exists.intro
                    refine ⟨fun w' hw' => ?_, ?_⟩
                    · go_simp; exact rfl
                    go_simp
                    refine hKQ _ ?_
                    clear hKQ KQ
                    refine qs rfl (fun KQ hKQ => ?_)
                    apply Exists.intro
                    refine ⟨fun w' hw' => ?_, ?_⟩
                    · go_simp; exact rfl
                    go_simp
                    refine hKQ _ ?_
                    clear hKQ KQ
                    refine qs rfl (fun KQ hKQ => ?_)
                    apply Exists.intro
                    refine ⟨fun w' hw' => ?_, ?_⟩
                    · have hc := (hw'.cell (p := ⟨g, o + i, none⟩) (block_lt_of_cell hcell)).trans hcell; go_simp; exact rfl
                    go_simp
                    refine hKQ _ ?_
                    clear hKQ KQ
                    refine qs rfl (fun KQ hKQ => ?_)
                    apply Exists.intro
                    refine ⟨fun w' hw' => ?_, ?_⟩
                    · go_simp; exact rfl
                    go_simp
                    refine hKQ _ ?_
                    clear hKQ KQ
                    refine qs rfl (fun KQ hKQ => ?_)
                    apply Exists.intro
                    refine ⟨fun w' hw' => ?_, ?_⟩
                    · go_simp; exact rfl
                    go_simp
                    refine hKQ _ ?_
                    clear hKQ KQ
                    refine qs rfl (fun KQ hKQ => ?_)
                    apply Exists.intro
                    refine ⟨fun w' hw' => ?_, ?_⟩
                    · go_simp; exact rfl
                    go_simp
                    refine hKQ _ ?_
                    clear hKQ KQ
                    go_big_quiet_want
                    rename_i KQ hKQ
                    apply Exists.intro
                    refine ⟨fun w' hw' => ?_, ?_⟩
                    · go_simp; exact rfl
                    go_simp
                    refine hKQ _ ?_
                    clear hKQ KQ
                    go_big_quiet_want
                    rename_i KQ hKQ
                    apply Exists.intro
                    refine ⟨fun w' hw' => ?_, ?_⟩
                    · go_simp; exact rfl
                    go_simp
                    refine hKQ _ ?_
                    clear hKQ KQ
                    go_big_quiet_want
                    rename_i KQ hKQ
                    apply Exists.intro
                    refine ⟨fun w' hw' => ?_, ?_⟩
                    · go_simp; exact rfl
                    go_simp
                    refine hKQ _ ?_
                    clear hKQ KQ
                    go_big_quiet_want
                    rename_i KQ hKQ
                    apply Exists.intro
                    refine ⟨fun w' hw' => ?_, ?_⟩
                    · have hc := (hw'.cell (p := ⟨g, o + i, none⟩) (block_lt_of_cell hcell)).trans hcell; go_simp; exact rfl
                    go_simp
                    refine hKQ _ ?_
                    clear hKQ KQ
                    go_big_quiet_want
                    rename_i KQ hKQ
                    apply Exists.intro
                    refine ⟨fun w' hw' => ?_, ?_⟩
                    · go_simp; exact rfl
                    go_simp
                    refine hKQ _ ?_
                    clear hKQ KQ
                    go_big_quiet_want
                    rename_i KQ hKQ
                    apply Exists.intro
                    refine ⟨fun w' hw' => ?_, ?_⟩
                    · have hc := (hw'.cell (p := ⟨g2, o2, none⟩) (block_lt_of_cell cx)).trans cx; go_simp; exact rfl
                    go_simp
                    refine hKQ _ ?_
                    clear hKQ KQ
                    go_big_quiet_want
                    rename_i KQ hKQ
                    apply Exists.intro
                    refine ⟨fun w' hw' => ?_, ?_⟩
                    · go_simp; exact (HIX.out _).mono fun _ _ h => ⟨h.1, by rw [← h.2]; exact hw'⟩
                    go_simp
                    refine hKQ _ ?_
                    clear hKQ KQ
                    go_big_quiet_want
                    rename_i KQ hKQ
                    apply Exists.intro
                    refine ⟨fun w' hw' => ?_, ?_⟩
                    · go_simp; exact rfl
                    go_simp
                    refine hKQ _ ?_
                    clear hKQ KQ
                    refine qs rfl (fun KQ hKQ => ?_)
                    apply Exists.intro
                    refine ⟨fun w' hw' => ?_, ?_⟩
                    · go_simp; exact rfl
                    go_simp
                    refine hKQ _ ?_
                    clear hKQ KQ
                    refine qs rfl (fun KQ hKQ => ?_)
                    apply Exists.intro
                    refine ⟨fun w' hw' => ?_, ?_⟩
                    · go_simp; exact rfl
                    go_simp
                    refine hKQ _ ?_
                    clear hKQ KQ
                    go_big_quiet_want
                    rename_i KQ hKQ
                    apply Exists.intro
                    refine ⟨fun w' hw' => ?_, ?_⟩
                    · go_simp; exact rfl
                    go_simp
                    refine hKQ _ ?_
                    clear hKQ KQ
                    go_big_quiet_want
                    rename_i KQ hKQ
                    apply Exists.intro
                    refine ⟨fun w' hw' => ?_, ?_⟩
                    · go_simp; exact rfl
                    go_simp
                    refine hKQ _ ?_
                    clear hKQ KQ
                    go_big_quiet_want
                    rename_i KQ hKQ
                    apply Exists.intro
                    refine ⟨fun w' hw' => ?_, ?_⟩
                    · go_simp; exact rfl
                    go_simp
                    refine hKQ _ ?_
                    clear hKQ KQ
                    go_big_quiet_want
                    rename_i KQ hKQ
                    apply Exists.intro
                    refine ⟨fun w' hw' => ?_, ?_⟩
                    · have hc := (hw'.cell (p := ⟨g, o + i, none⟩) (block_lt_of_cell hcell)).trans hcell; go_simp; exact rfl
                    go_simp
                    refine hKQ _ ?_
                    clear hKQ KQ
                    go_big_quiet_want
                    rename_i KQ hKQ
                    apply Exists.intro
                    refine ⟨fun w' hw' => ?_, ?_⟩
                    · go_simp; exact rfl
                    go_simp
                    refine hKQ _ ?_
                    clear hKQ KQ
                    go_big_quiet_want
                    rename_i KQ hKQ
                    apply Exists.intro
                    refine ⟨fun w' hw' => ?_, ?_⟩
                    · have hc := (hw'.cell (p := ⟨g2, o2 + 1, none⟩) (block_lt_of_cell cy)).trans cy; go_simp; exact rfl
                    go_simp
                    refine hKQ _ ?_
                    clear hKQ KQ
                    go_big_quiet_want
                    rename_i KQ hKQ
                    apply Exists.intro
                    refine ⟨fun w' hw' => ?_, ?_⟩
                    · go_simp; exact (HIY.out _).mono fun _ _ h => ⟨h.1, by rw [← h.2]; exact hw'⟩
                    go_simp
                    refine hKQ _ ?_
                    clear hKQ KQ
                    go_big_quiet_want
                    rename_i KQ hKQ
                    apply Exists.intro
                    refine ⟨fun w' hw' => ?_, ?_⟩
                    · go_simp; exact rfl
                    go_simp
                    refine hKQ _ ?_
                    clear hKQ KQ
                    refine qs rfl (fun KQ hKQ => ?_)
                    apply Exists.intro
                    refine ⟨fun w' hw' => ?_, ?_⟩
                    · go_simp; exact rfl
                    go_simp
                    refine hKQ _ ?_
                    clear hKQ KQ
                    refine qs rfl (fun KQ hKQ => ?_)
                    apply Exists.intro
                    refine ⟨fun w' hw' => ?_, ?_⟩
                    · go_simp; exact rfl
                    go_simp
                    refine hKQ _ ?_
                    clear hKQ KQ
                    go_big_quiet_want
                    rename_i KQ hKQ
                    apply Exists.intro
                    refine ⟨fun w' hw' => ?_, ?_⟩
                    · go_simp; exact rfl
                    go_simp
                    refine hKQ _ ?_
                    clear hKQ KQ
                    go_big_quiet_want
                    rename_i KQ hKQ
                    apply Exists.intro
                    refine ⟨fun w' hw' => ?_, ?_⟩
                    · go_simp; exact rfl
                    go_simp
                    refine hKQ _ ?_
                    clear hKQ KQ
                    go_big_quiet_want
                    rename_i KQ hKQ
                    apply Exists.intro
                    refine ⟨fun w' hw' => ?_, ?_⟩
                    · go_simp; exact rfl
                    go_simp
                    refine hKQ _ ?_
                    clear hKQ KQ
                    go_big_quiet_want
                    rename_i KQ hKQ
                    apply Exists.intro
                    refine ⟨fun w' hw' => ?_, ?_⟩
                    · go_simp; exact rfl
                    go_simp
                    refine hKQ _ ?_
                    clear hKQ KQ
                    go_big_quiet_want
                    rename_i KQ hKQ
                    apply Exists.intro
                    refine ⟨fun w' hw' => ?_, ?_⟩
                    · go_simp; exact rfl
                    go_simp
                    refine hKQ _ ?_
                    clear hKQ KQ
                    go_big_quiet_want
                    rename_i KQ hKQ
                    apply Exists.intro
                    refine ⟨fun w' hw' => ?_, ?_⟩
                    · go_simp; exact rfl
                    go_simp
                    refine hKQ _ ?_
                    clear hKQ KQ
                    go_big_quiet_want
                    rename_i KQ hKQ
                    apply Exists.intro
                    refine ⟨fun w' hw' => ?_, ?_⟩
                    · have hc := (hw'.cell (p := ⟨g, o + i, none⟩) (block_lt_of_cell hcell)).trans hcell; go_simp; exact rfl
                    go_simp
                    refine hKQ _ ?_
                    clear hKQ KQ
                    go_big_quiet_want
                    rename_i KQ hKQ
                    apply Exists.intro
                    refine ⟨fun w' hw' => ?_, ?_⟩
                    · go_simp; exact rfl
                    go_simp
                    refine hKQ _ ?_
                    clear hKQ KQ
                    go_big_quiet_want
                    rename_i KQ hKQ
                    apply Exists.intro
                    refine ⟨fun w' hw' => ?_, ?_⟩
                    · have hc := (hw'.cell (p := ⟨g2, o2, none⟩) (block_lt_of_cell cx)).trans cx; go_simp; exact rfl
                    go_simp
                    refine hKQ _ ?_
                    clear hKQ KQ
                    go_big_quiet_want
                    rename_i KQ hKQ
                    apply Exists.intro
                    refine ⟨fun w' hw' => ?_, ?_⟩
                    · go_simp; exact rfl
                    go_simp
                    refine hKQ _ ?_
                    clear hKQ KQ
                    go_big_quiet_want
                    rename_i KQ hKQ
                    apply Exists.intro
                    refine ⟨fun w' hw' => ?_, ?_⟩
                    · go_simp; exact rfl
                    go_simp
                    refine hKQ _ ?_
                    clear hKQ KQ
                    go_big_quiet_want
                    rename_i KQ hKQ
                    apply Exists.intro
                    refine ⟨fun w' hw' => ?_, ?_⟩
                    · go_simp; exact rfl
                    go_simp
                    refine hKQ _ ?_
                    clear hKQ KQ
                    go_big_quiet_want
                    rename_i KQ hKQ
                    apply Exists.intro
                    refine ⟨fun w' hw' => ?_, ?_⟩
                    · go_simp; exact rfl
                    go_simp
                    refine hKQ _ ?_
                    clear hKQ KQ
                    go_big_quiet_want
                    rename_i KQ hKQ
                    apply Exists.intro
                    refine ⟨fun w' hw' => ?_, ?_⟩
                    · have hc := (hw'.cell (p := ⟨g, o + (i - 1), none⟩) (block_lt_of_cell pcell)).trans pcell; go_simp; exact rfl
                    go_simp
                    refine hKQ _ ?_
                    clear hKQ KQ
                    go_big_quiet_want
                    rename_i KQ hKQ
                    apply Exists.intro
                    refine ⟨fun w' hw' => ?_, ?_⟩
                    · go_simp; exact rfl
                    go_simp
                    refine hKQ _ ?_
                    clear hKQ KQ
                    go_big_quiet_want
                    rename_i KQ hKQ
                    apply Exists.intro
                    refine ⟨fun w' hw' => ?_, ?_⟩
                    · have hc := (hw'.cell (p := ⟨g3, o3, none⟩) (block_lt_of_cell px)).trans px; go_simp; exact rfl
                    go_simp
                    refine hKQ _ ?_
                    clear hKQ KQ
                    go_big_quiet_want
                    rename_i KQ hKQ
                    apply Exists.intro
                    refine ⟨fun w' hw' => ?_, ?_⟩
                    · go_simp; exact rfl
                    go_simp
                    refine hKQ _ ?_
                    clear hKQ KQ
                    go_big_quiet_want
                    rename_i KQ hKQ
                    apply Exists.intro
                    refine ⟨fun w' hw' => ?_, ?_⟩
                    · go_simp; exact rfl
                    go_simp
                    refine hKQ _ ?_
                    clear hKQ KQ
                    refine qs rfl (fun KQ hKQ => ?_)
                    apply Exists.intro
                    refine ⟨fun w' hw' => ?_, ?_⟩
                    · go_simp; exact rfl
                    go_simp
                    refine hKQ _ ?_
                    clear hKQ KQ
                    refine wpQuiet_nil ?_
                    intro w' hw'
                    have HW := hidd (HBR.out.trans (hw'.mono HBR.out.size))
                    clear hw'
                    go_wp2_with fail
                    go_roundw
                    case rel => exact ⟨i + 1, by omega, by go_num, HR.out.step HOK.out, HW.out⟩
                    case measure => simp [intOf]; omega
          · have hne : ((zs.length : Int) != 2) = true := by rw [bne_iff_ne]; omega
            have HF := hidd (rowB_no hlt (fun h => h2 (by rw [HZS.out]; exact h.1)))
            clear h2
            go_wp2_with fail
            refine wp_region_quiet_at (fun w' => Below wr.heap.size wr w') rfl (by kernel_rfl) ((Below.refl _ _).drew) ?_
            refine qs rfl (fun KQ hKQ => ?_)
            apply Exists.intro
            refine ⟨fun w' hw' => ?_, ?_⟩
            · go_simp; exact rfl
            go_simp
            refine hKQ _ ?_
            clear hKQ KQ
            refine qs rfl (fun KQ hKQ => ?_)
            apply Exists.intro
            refine ⟨fun w' hw' => ?_, ?_⟩
            · go_simp; exact rfl
            go_simp
            refine hKQ _ ?_
            clear hKQ KQ
            refine qs rfl (fun KQ hKQ => ?_)
            apply Exists.intro
            refine ⟨fun w' hw' => ?_, ?_⟩
            · go_simp; exact rfl
            go_simp
            refine hKQ _ ?_
            clear hKQ KQ
            refine qs rfl (fun KQ hKQ => ?_)
            apply Exists.intro
            refine ⟨fun w' hw' => ?_, ?_⟩
            · have hc := (hw'.cell (p := ⟨g, o + i, none⟩) (block_lt_of_cell hcell)).trans hcell; go_simp; exact rfl
            go_simp
            refine hKQ _ ?_
            clear hKQ KQ
            refine qs rfl (fun KQ hKQ => ?_)
            apply Exists.intro
            refine ⟨fun w' hw' => ?_, ?_⟩
            · go_simp; exact rfl
            go_simp
            refine hKQ _ ?_
            clear hKQ KQ
            refine qs rfl (fun KQ hKQ => ?_)
            apply Exists.intro
            refine ⟨fun w' hw' => ?_, ?_⟩
            · go_simp; exact rfl
            go_simp
            refine hKQ _ ?_
            clear hKQ KQ
            refine qs rfl (fun KQ hKQ => ?_)
            apply Exists.intro
            refine ⟨fun w' hw' => ?_, ?_⟩
            · go_simp; exact rfl
            go_simp
            refine hKQ _ ?_
            clear hKQ KQ
            go_big_quiet_skip
            go_big_quiet_skip
            go_big_quiet_skip
            go_big_quiet_skip
            go_big_quiet_skip
            go_big_quiet_skip
            go_big_quiet_skip
            go_big_quiet_skip
            refine qs rfl (fun KQ hKQ => ?_)
            apply Exists.intro
            refine ⟨fun w' hw' => ?_, ?_⟩
            · go_simp; exact rfl
            go_simp
            refine hKQ _ ?_
            clear hKQ KQ
            refine qs rfl (fun KQ hKQ => ?_)
            apply Exists.intro
            refine ⟨fun w' hw' => ?_, ?_⟩
            · go_simp; exact rfl
            go_simp
            refine hKQ _ ?_
            clear hKQ KQ
            go_big_quiet_skip
            go_big_quiet_skip
            go_big_quiet_skip
            go_big_quiet_skip
            go_big_quiet_skip
            go_big_quiet_skip
            go_big_quiet_skip
            go_big_quiet_skip
            refine qs rfl (fun KQ hKQ => ?_)
            apply Exists.intro
            refine ⟨fun w' hw' => ?_, ?_⟩
            · go_simp; exact rfl
            go_simp
            refine hKQ _ ?_
            clear hKQ KQ
            refine qs rfl (fun KQ hKQ => ?_)
            apply Exists.intro
            refine ⟨fun w' hw' => ?_, ?_⟩
            · go_simp; exact rfl
            go_simp
            refine hKQ _ ?_
            clear hKQ KQ
            go_big_quiet_skip
            go_big_quiet_skip
            go_big_quiet_skip
            go_big_quiet_skip
            go_big_quiet_skip
            go_big_quiet_skip
            go_big_quiet_skip
            go_big_quiet_skip
            go_big_quiet_skip
            go_big_quiet_skip
            go_big_quiet_skip
            go_big_quiet_skip
            go_big_quiet_skip
            go_big_quiet_skip
            go_big_quiet_skip
            go_big_quiet_skip
            go_big_quiet_skip
            go_big_quiet_skip
            refine qs rfl (fun KQ hKQ => ?_)
            apply Exists.intro
            refine ⟨fun w' hw' => ?_, ?_⟩
            · go_simp; exact rfl
            go_simp
            refine hKQ _ ?_
            clear hKQ KQ
            refine wpQuiet_nil ?_
            intro w' hw'
            have HW := hidd (HBR.out.trans (hw'.mono HBR.out.size))
            clear hw'
            go_wp2_with fail
            go_ret
            exact ⟨by rw [HF.out]; rfl, HW.out⟩
        · obtain rfl : i = L.length := by omega
          have HF := hidd (show rowB L = true by unfold rowB; rw [HIB.out]; simpa using HR.out)
          go_wp2_with fail
          go_ret
          exact ⟨by rw [HF.out]; rfl, HBR.out⟩
    · have HF := hidd (show rowB L = false by unfold rowB; rw [inB_no (by omega)]; rfl)
      have hd1 : decide ((L.length : Int) < 1) = false := by simp; omega
      have hd2 : decide ((L.length : Int) > 17) = true := by simp; omega
      clear hs hi h1 h17
      go_enter Try.func36, Try.ntmps36
      go_wp2_with fail
      go_ret
      exact ⟨by rw [HF.out]; rfl, Below.refl _ _⟩
  · have HF := hidd (show rowB L = false by unfold rowB; rw [inB_no (by omega)]; rfl)
    have hd1 : decide ((L.length : Int) < 1) = true := by simp; omega
    clear hs hi h1
    go_enter Try.func36, Try.ntmps36
    go_wp2_with fail
    go_ret
    exact ⟨by rw [HF.out]; rfl, Below.refl _ _⟩
end Go.Proofs.Ytljlbonoohhhdaa

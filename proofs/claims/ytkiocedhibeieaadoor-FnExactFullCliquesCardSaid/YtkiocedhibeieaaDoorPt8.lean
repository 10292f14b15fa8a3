/- The model's list of the points of a set. -/
import Derived.Test.YtkiocedhibeieaaDoorCpo
import Derived.Test.YtkiocedhibeieaaDoorHh
import Derived.Test.YtkiocedhibeieaaDoorCms
namespace Go.Proofs.YtkiocedhibeieaaDoor
set_option linter.unusedVariables false
set_option linter.unusedSimpArgs false
open Go Go.RowKit Go.Shelf
theorem setD_top {X : Nat} (h : X < 2 ^ 17) : ∀ d, setD X (17 + d) = setD X 17
  | 0 => rfl
  | d + 1 => by
    rw [← Nat.add_assoc, setD, if_neg (by
      have : X.testBit (17 + d) = false := Nat.testBit_lt_two_pow (Nat.lt_of_lt_of_le h (Nat.pow_le_pow_right (by omega) (by omega)))
      rw [this]; simp), setD_top h d]
theorem setD_len (X : Nat) : ∀ d, (setD X d).length ≤ d
  | 0 => Nat.le_refl _
  | d + 1 => by
    rw [setD]
    have := setD_len X d
    split
    · simp only [List.length_cons]; omega
    · omega
def RelP8 (w : World) (X i : Nat) (v : Value) (wr : World) : Prop := wr.ownsRow w.heap.size 2 1 v (rv (setD X i)).length (icells (rv (setD X i))) ∧ Below w.heap.size w wr
set_option maxRecDepth 100000 in
set_option maxHeartbeats 1000000 in
theorem points58 (X : Nat) (hX : X < 2 ^ 17) (w : World) :
    Calls Tryd.prog 58 #[.int .i64 (X : Int)] w fun e w' => ∃ v, e = .returned v ∧ w'.ownsRow w.heap.size 2 1 v (setL X).length (icells (setL X)) ∧ Below w.heap.size w w' := by
  obtain ⟨t0, hi2, hz0, hz1, hz3⟩ := info_parts info2
  have HIF := hidd (And.intro hi2 (And.intro hz0 (And.intro hz1 hz3)))
  have HEND := hidd (show setL X = rv (setD X 62) by unfold setL; rw [show (62 : Nat) = 17 + 45 by rfl, setD_top hX])
  clear hi2 hz0 hz1 hz3
  go_enter Tryd.func58, Tryd.ntmps58
  go_wp2_with fail
  go_loopw [3, 4] (fun v e wr => ∃ (i : Nat) (x : Value), i ≤ 62 ∧ e = .int .i64 (i : Int) ∧ x = v ∧ Hid (RelP8 w X i x wr)) (fun _ e _ => 62 - (intOf e).toNat)
  case atStart =>
    exact ⟨0, _, by omega, rfl, rfl, hidd ⟨⟨rfl, .inr ⟨w.heap.size, 0, #[], rfl, Nat.le_refl _, Blk.new _ _ _ _ rfl, Nat.le_refl _, by simp [maxLen], rfl, rfl⟩⟩, (Below.refl _ _).alloc (Nat.le_refl _) _⟩⟩
  case round =>
    obtain ⟨i, x, hi, rfl, rfl, HR⟩ := hrel
    by_cases hlt : i < 62
    · have hltI : decide ((i : Int) < 62) = true := by simp; omega
      have hbt := bit_test X i (by omega)
      have hu2 : IntKind.u64.wrap (i : Int) = (i : Int) := by unfold IntKind.wrap; simp [IntKind.signed, IntKind.bits]; omega
      have hmn2 : min i 64 = i := by omega
      have hlen : (rv (setD X i)).length ≤ 62 := by rw [rv_len]; have := setD_len X i; omega
      cases hb : X.testBit i with
      | true =>
        have hb3 := hbt.trans hb
        have HS := hidd (show rv (setD X (i + 1)) = rv (setD X i) ++ [(i : Int)] by rw [setD, if_pos hb]; exact rv_cons i _)
        have hown := HR.out.1
        have hsz := HR.out.2.size
        clear hbt hb
        go_wp2_with (at_builtin; refine wpList_append_own _ rfl _ _ 25 rfl w.heap.size 2 t0 (.int .i64 0) 1 8 Tryd.underlying25 HIF.out.1 HIF.out.2.1 HIF.out.2.2.1 HIF.out.2.2.2 rfl (by decide) _ _ _ rfl (hown.alloc _) ⟨wr.heap.size, 0, none⟩ 1 1 [.int .i64 (i : Int)] rfl rfl ?c1 ?c2 ?c3 ?c4 ?c5 ?_)
        case c1 => exact one_new _ _ _
        case c2 => intro u hu; simp at hu; subst hu; rfl
        case c3 => unfold maxLen; omega
        case c4 => omega
        case c5 => simp; omega
        intro v' w2 hown' hgrow _
        have K3 := hidd (show RelP8 w X (i + 1) v' w2 from ⟨by rw [HS.out, icells_app, List.length_append]; exact hown', HR.out.2.trans ((grown_step hown hgrow (by omega)).mono (by omega))⟩)
        clear hown' hgrow hown
        go_wp2
        go_roundw
        case rel => exact ⟨i + 1, _, by omega, by go_num, rfl, K3⟩
        case measure => simp [intOf]; omega
      | false =>
        have hb3 := hbt.trans hb
        have K3 := hidd (show RelP8 w X (i + 1) x wr by unfold RelP8; rw [setD, if_neg (by rw [hb]; simp)]; exact HR.out)
        clear hbt hb
        go_wp2_with fail
        go_roundw
        case rel => exact ⟨i + 1, _, by omega, by go_num, rfl, K3⟩
        case measure => simp [intOf]; omega
    · have hie : i = 62 := by omega
      subst hie
      go_wp2_with fail
      go_ret
      exact ⟨x, rfl, by rw [HEND.out]; exact HR.out.1, HR.out.2⟩
end Go.Proofs.YtkiocedhibeieaaDoor

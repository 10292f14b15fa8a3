/- l02Rows, l02Count: the numbers of cliques, by the model. -/
import Derived.Test.YtldlobpjmiacgaaLst
import Derived.Test.YtldlobpjmiacgaaGf
namespace Go.Proofs.Ytldlobpjmiacgaa
set_option linter.unusedVariables false
set_option linter.unusedSimpArgs false
open Go Go.RowKit Go.Shelf
/-- The rows of a colour: the neighbours of each point, as digits. -/
def rowF (N : Nat) (bs : List Nat) (c : Int) (i : Nat) : Int := ((arK (nbB bs (i : Int) c) N : Nat) : Int)
def RelRw (N : Nat) (bs : List Nat) (c : Int) (C : Array Value) (w : World) (d : Nat) (v : Value) (wr : World) : Prop :=
  Blk wr w.heap.size C 28 ∧ wr.ownsRow (w.heap.size + 1) 2 1 v (fillA (rowF N bs c) d).length (icells (fillA (rowF N bs c) d)) ∧ Below w.heap.size w wr
set_option maxRecDepth 100000 in
set_option maxHeartbeats 2000000 in
theorem rows74 (N : Nat) (k : Int) (bs : List Nat) (hb : Bys bs) (c : Int) (n1 : 1 ≤ N) (n2 : N ≤ 17) (w : World) :
    Calls Try.prog 20 #[.agg (ccells (N : Int) k bs).toArray, .int .i64 c] w fun e w' => ∃ a cap, e = .returned (.slice a N cap) ∧ OwnL w' w.heap.size a (fillA (rowF N bs c) N) ∧ Below w.heap.size w w' := by
  have HS := hidd (size_c26 (N : Int) k hb)
  have HC0 := hidd (show (ccells (N : Int) k bs).toArray[0]? = some (.int .i64 (N : Int)) from rfl)
  obtain ⟨t0, hi2, hz0, hz1, hz3⟩ := info_parts info2
  have HIF := hidd (And.intro hi2 (And.intro hz0 (And.intro hz1 hz3)))
  clear hi2 hz0 hz1 hz3
  go_enter Try.func20, Try.ntmps20
  go_wp2_with fail
  go_loopw [5, 6] (fun v e wr => ∃ d : Nat, d ≤ N ∧ e = .int .i64 d ∧ RelRw N bs c (ccells (N : Int) k bs).toArray w d v wr) (fun _ e _ => N - (intOf e).toNat)
  case atStart =>
    refine ⟨0, by omega, rfl, (Blk.new _ _ _ _ rfl).alloc _, ⟨rfl, .inr ⟨w.heap.size + 1, 0, #[], by simp [fillA], by omega, ?_, ?_, ?_, rfl, rfl⟩⟩, ((Below.refl _ _).alloc (Nat.le_refl _) _).alloc (by simp) _⟩
    · exact Blk.new _ _ _ _ (by simp)
    · simp [fillA]
    · simp [maxLen]
  case round =>
    obtain ⟨d, hd2, rfl, HR⟩ := hrel
    have HK := hidd HR
    clear HR
    have c0 := HK.out.1.cell HC0.out
    by_cases hlt : d < N
    · obtain ⟨v1, hv⟩ : ∃ v : Int, v = rowF N bs c d := ⟨_, rfl⟩
      have HAR := hidd (fun W => around63 (N : Int) k bs hb (d : Int) c W (by omega) (by omega) (by omega) (by omega))
      rw [Int.toNat_natCast, show ((arK (nbB bs (d : Int) c) N : Nat) : Int) = v1 from hv.symm] at HAR
      have HSN := hidd (fillA_snoc (rowF N bs c) d)
      rw [← hv] at HSN
      clear hv
      go_wp2_with (refine wpList_load_row rfl 28 (.tmp 2) rfl w.heap.size rfl 28 _ (0,0) _ HK.out.1 Try.underlying28 rfl HS.out ?_)
      refine (HAR.out _).mono ?_
      rintro e w1 ⟨rfl, hb1⟩
      have K1 := hidd (And.intro (HK.out.1.below hb1 HK.out.1.lt) (And.intro (own_below HK.out.2.1 hb1 (Nat.le_refl _)) (HK.out.2.2.trans (hb1.mono HK.out.2.2.size))))
      clear hb1 c0
      have hown := K1.out.2.1
      have hlen := fillA_len (rowF N bs c) d
      have hsz := K1.out.2.2.size
      have hszC := K1.out.1.lt
      go_wp2_with (at_builtin; refine wpList_append_own _ rfl _ _ 25 rfl (w.heap.size + 1) 2 t0 (.int .i64 0) 1 8 Try.underlying25 HIF.out.1 HIF.out.2.1 HIF.out.2.2.1 HIF.out.2.2.2 rfl (by decide) _ _ _ rfl (hown.alloc _) ⟨w1.heap.size, 0, none⟩ 1 1 [.int .i64 v1] rfl rfl ?c1 ?c2 ?c3 ?c4 ?c5 ?_)
      case c1 => exact one_new _ _ _
      case c2 => intro u hu; simp at hu; subst hu; rfl
      case c3 => unfold maxLen; omega
      case c4 => omega
      case c5 => simp; omega
      intro v' w2 hown' hgrow _
      have K3 := hidd (show RelRw N bs c (ccells (N : Int) k bs).toArray w (d + 1) v' w2 from ⟨K1.out.1.below (grown_step hown hgrow (by omega)) (by omega), by rw [HSN.out, icells_app, List.length_append, fillA_len]; exact hown', K1.out.2.2.trans ((grown_step hown hgrow (by omega)).mono (by omega))⟩)
      clear hown' hgrow hown
      go_wp2
      go_roundw
      case rel => exact ⟨d + 1, by omega, by go_num, K3.out⟩
      case measure => simp [intOf]; omega
    · have hde : d = N := by omega
      subst hde
      obtain ⟨a, cap, rfl, ho⟩ := own_list HK.out.2.1
      have K := hidd (And.intro ho HK.out.2.2)
      have HL2 := hidd (fillA_len (rowF d bs c) d)
      clear HK ho
      rw [HL2.out]
      go_wp2_with fail
      go_ret
      exact ⟨a, cap, rfl, ownL_base K.out.1 (by omega), K.out.2⟩
end Go.Proofs.Ytldlobpjmiacgaa

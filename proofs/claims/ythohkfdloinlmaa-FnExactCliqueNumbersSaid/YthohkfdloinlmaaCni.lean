/- CliqueNumbers: the program's own text. -/
import Derived.Test.YthohkfdloinlmaaGof
namespace Go.Proofs.Ythohkfdloinlmaa
set_option linter.unusedVariables false
set_option linter.unusedSimpArgs false
open Go Go.RowKit Go.Shelf
def RelCg (N K : Nat) (bs : List Nat) (C : Array Value) (w : World) (g j : Nat) (wr : World) : Prop := Blk wr w.heap.size C 28 ∧ Blk wr g (icells (fillK (cnF N bs) K j)).toArray 2 ∧ Below w.heap.size w wr ∧ w.heap.size < g
set_option maxRecDepth 100000 in
set_option maxHeartbeats 1000000 in
theorem impl17 (n k : Int) (bs : List Nat) (hb : Bys bs) (w : World) :
    Calls Try.prog 17 #[.agg (ccells n k bs).toArray] w (LOut w (cnList n k bs) (ceCode n k bs)) := by
  have HS := hidd (size_c26 n k hb)
  cases hi : isCol n k bs with
  | false =>
    have e1 : cnList n k bs = [] := by simp [cnList, hi]
    have e2 : ceCode n k bs = 1 := by simp [ceCode, hi]
    have HI := hidd hi
    rw [e1, e2]
    clear hi e1 e2
    go_enter Try.func17, Try.ntmps17
    go_wp2_with (refine wpList_load_row rfl 28 (.tmp 1) rfl w.heap.size rfl 28 _ (0,0) _ (Blk.new _ _ _ _ rfl) Try.underlying28 rfl HS.out ?_)
    refine (implIs_any n k bs hb _).mono ?_
    rintro e w1 ⟨rfl, hb1⟩
    rw [HI.out]
    have G := hidd (((Below.refl w.heap.size w).alloc (Nat.le_refl _) (.cells (ccells n k bs).toArray 28)).trans (hb1.mono (by simp)))
    clear hb1
    go_wp2_with fail
    go_ret2
    exact lout_nil rfl G.out
  | true =>
    obtain ⟨n1, n2, k1, k2⟩ := isCol_bd hi
    have e1 : cnList n k bs = fillA (cnF n.toNat bs) k.toNat := by simp [cnList, hi]
    have e2 : ceCode n k bs = 0 := by simp [ceCode, hi]
    rw [e1, e2]
    have HI := hidd hi
    obtain ⟨N, rfl⟩ := Int.eq_ofNat_of_zero_le (show 0 ≤ n by omega)
    obtain ⟨K, rfl⟩ := Int.eq_ofNat_of_zero_le (show 0 ≤ k by omega)
    rw [Int.toNat_natCast, Int.toNat_natCast]
    have HC1 := hidd (show (ccells (N : Int) (K : Int) bs).toArray[1]? = some (.int .i64 (K : Int)) from rfl)
    have hN17 : N ≤ 17 := by omega
    have hmk := make29 K (by omega)
    rw [fillK_zero (cnF N bs) K] at hmk
    clear hi e1 e2
    go_enter Try.func17, Try.ntmps17
    go_wp2_with (refine wpList_load_row rfl 28 (.tmp 1) rfl w.heap.size rfl 28 _ (0,0) _ (Blk.new _ _ _ _ rfl) Try.underlying28 rfl HS.out ?_)
    refine (implIs_any (N : Int) (K : Int) bs hb _).mono ?_
    rintro e w1 ⟨rfl, hb1⟩
    rw [HI.out]
    have B1 := (Blk.new w (ccells (N : Int) (K : Int) bs).toArray 28 _ rfl).below hb1 (by simp)
    have c1 := B1.cell HC1.out
    have hz1 := B1.lt
    have G := hidd (And.intro B1 (((Below.refl w.heap.size w).alloc (Nat.le_refl _) (.cells (ccells (N : Int) (K : Int) bs).toArray 28)).trans (hb1.mono (by simp))))
    clear hb1 B1
    go_wp2_with fail
    go_loopw [14] (fun i wr => ∃ j : Nat, j ≤ K ∧ i = .int .i64 j ∧ RelCg N K bs (ccells (N : Int) (K : Int) bs).toArray w w1.heap.size j wr) (fun i _ => K - (intOf i).toNat)
    case atStart =>
      have := G.out.1.lt
      exact ⟨0, by omega, rfl, G.out.1.alloc _, Blk.new _ _ _ _ rfl, G.out.2.alloc G.out.2.size _, this⟩
    case round =>
      obtain ⟨j, hj, rfl, HR⟩ := hrel
      have HK := hidd HR
      clear HR
      by_cases hlt : j < K
      · have HGR := hidd (fun W => greatest33 N (K : Int) (j : Int) bs hb W (by omega) hN17)
        have HSET := hidd (fillK_set (cnF N bs) K j)
        have hcn : cnF N bs j = ((gsz N bs (j : Int) : Nat) : Int) := rfl
        rw [hcn] at HSET
        obtain ⟨X, hX⟩ : ∃ X, X = grB N bs (j : Int) := ⟨_, rfl⟩
        obtain ⟨v, hv⟩ : ∃ v, v = gsz N bs (j : Int) := ⟨_, rfl⟩
        rw [← hX, ← hv] at HGR
        rw [← hv] at HSET
        clear hX hv hcn
        go_wp2_with (refine wpList_load_row rfl 28 (.tmp 1) rfl w.heap.size rfl 28 _ (0,0) _ HK.out.1 Try.underlying28 rfl HS.out ?_)
        refine (HGR.out _).mono ?_
        rintro e w2 ⟨rfl, hb2, ho2, hx2⟩
        have HZ := hidd (fun W => size34 X hx2 W)
        rw [ho2] at HZ
        have q1 := HK.out.1.below hb2 HK.out.1.lt
        have q2 := (HK.out.2.1.below hb2 HK.out.2.1.lt).drew
        have q3 := HK.out.2.2.1.trans (hb2.mono HK.out.2.2.1.size)
        have G2 := hidd (And.intro (HK.out.1.below hb2 HK.out.1.lt) (And.intro (HK.out.2.1.below hb2 HK.out.2.1.lt) (And.intro q3 HK.out.2.2.2)))
        clear hb2 q1 q2 q3 ho2 hx2
        go_wp2_with fail
        refine (HZ.out _).mono ?_
        rintro e w3 ⟨rfl, rfl⟩
        have hbd := (Below.refl w2.heap.size w2).drew
        have q1 := G2.out.1.below hbd G2.out.1.lt
        have q2 := G2.out.2.1.below hbd G2.out.2.1.lt
        have q3 := G2.out.2.2.1.trans (hbd.mono G2.out.2.2.1.size)
        obtain ⟨w3, hw3⟩ : ∃ w3, w3 = w2.drew := ⟨_, rfl⟩
        rw [← hw3] at q1 q2 q3 ⊢
        obtain ⟨old, hold⟩ : ∃ old, w3.cell? ⟨w1.heap.size, j, none⟩ = some old := ⟨_, q2.cell (icells_get (by rw [fillK_len]; exact hlt))⟩
        have hf := q2.fro j
        have hst := q2.same j (.int .i64 (v : Int))
        rw [icells_set, HSET.out] at hst
        have hg := G2.out.2.2.2
        have K1 := hidd (show RelCg N K bs (ccells (N : Int) (K : Int) bs).toArray w w1.heap.size (j + 1) (w3.setCell ⟨w1.heap.size, j, none⟩ (.int .i64 (v : Int))) from ⟨q1.other _ _ (by show w.heap.size ≠ w1.heap.size; omega), hst, q3.setCell (by show w.heap.size ≤ w1.heap.size; omega) _, hg⟩)
        have hjM : (j : Int) < (K : Int) := by omega
        clear q1 q2 q3 hst hbd hw3
        go_wp2_with fail
        go_roundw
        case rel => exact ⟨j + 1, by omega, by go_num, K1.out⟩
        case measure => simp [intOf]; omega
      · have hje : j = K := by omega
        subst hje
        have q2 := HK.out.2.1
        rw [fillK_done] at q2
        have R := hidd (And.intro q2 (And.intro HK.out.2.2.1 HK.out.2.2.2))
        have HL := hidd (fillA_len (cnF N bs) j)
        clear q2 HK
        go_wp2_with fail
        go_ret2
        exact ⟨some ⟨w1.heap.size, 0, none⟩, j, by rw [HL.out]; rfl, own_blk R.out.1 (by have := R.out.2.2; omega), R.out.2.1⟩
end Go.Proofs.Ythohkfdloinlmaa

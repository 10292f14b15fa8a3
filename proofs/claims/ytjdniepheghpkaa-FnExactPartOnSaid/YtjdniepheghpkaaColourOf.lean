/- ColourOf: the program and its model. -/
import Derived.Test.YtjdniepheghpkaaGiven
namespace Go.Proofs.Ytjdniepheghpkaa
open Go Go.RowKit
/-- The code of an edge that is asked for. -/
def codeE (n k : Int) (bs : List Nat) (i j : Int) : Int := if isCol n k bs then (if pairB i j n then 0 else 2) else 1
def colE (n k : Int) (bs : List Nat) (i j : Int) : Int := if isCol n k bs && pairB i j n then colAt bs i j else 0
theorem codeE_1 {n k : Int} {bs : List Nat} {i j : Int} (h : isCol n k bs = false) : codeE n k bs i j = 1 ∧ colE n k bs i j = 0 := by simp [codeE, colE, h]
theorem codeE_2 {n k : Int} {bs : List Nat} {i j : Int} (h : isCol n k bs = true) (h2 : pairB i j n = false) : codeE n k bs i j = 2 ∧ colE n k bs i j = 0 := by simp [codeE, colE, h, h2]
theorem codeE_0 {n k : Int} {bs : List Nat} {i j : Int} (h : isCol n k bs = true) (h2 : pairB i j n = true) : codeE n k bs i j = 0 ∧ colE n k bs i j = colAt bs i j := by simp [codeE, colE, h, h2]
theorem all2 (i j n : Int) : allB [i, j] n = (belowB i n && belowB j n) := by simp [allB]
theorem pair_of {i j n : Int} (h : allB [i, j] n = true) (h2 : i ≠ j) : pairB i j n = true := by
  rw [all2, Bool.and_eq_true] at h; exact pairB_yes h.1 h.2 h2
theorem pair_not {i j n : Int} (h : allB [i, j] n = false) : pairB i j n = false := by
  rw [all2, Bool.and_eq_false_iff] at h
  rcases h with h | h
  · exact pairB_no1 h
  · exact pairB_no2 h
theorem below0 {k : Int} (h : 1 ≤ k) : belowB 0 k = true := inB_yes (by omega) (by omega)
theorem sl2 (w : World) (i j : Int) (t : TypeId) (b : Nat) (hb : b = w.heap.size) : SlI (w.alloc (.cells #[.int .i64 i, .int .i64 j] t)) (some ⟨b, 0, none⟩) [i, j] := by
  refine .inr ⟨_, _, rfl, fun m hm => ?_⟩
  have hB := Blk.new w #[.int .i64 i, .int .i64 j] t b hb
  match m, hm with
  | 0, _ => exact hB.cell rfl
  | 1, _ => exact hB.cell rfl
set_option maxRecDepth 100000 in
set_option maxHeartbeats 400000 in
theorem spec23 (n k : Int) (bs : List Nat) (hb : Bys bs) (i j : Int) (w : World) :
    Calls Try.prog 23 #[.agg (ccells n k bs).toArray, .int .i64 i, .int .i64 j] w fun e w' => e = .returned (.tuple #[.int .i64 (colE n k bs i j), .int .i64 (codeE n k bs i j)]) ∧ Below w.heap.size w w' := by
  have HS := hidd (size_c26 n k hb)
  cases hi : isCol n k bs with
  | false =>
    have H := hidd (codeE_1 (i := i) (j := j) hi)
    have HG := hidd (given_1 (c := 0) (zs := [i, j]) hi)
    clear hi
    go_enter Try.func23, Try.ntmps23
    go_wp2_with (refine wpList_load_row rfl 26 (.tmp 3) rfl w.heap.size rfl 26 _ (0,0) _ (Blk.new _ _ _ _ rfl) Try.underlying26 rfl HS.out ?_)
    refine (given56 n k bs hb 0 [i, j] (some ⟨w.heap.size + 1, 0, none⟩) 2 _ (sl2 _ i j _ _ (by simp)) (by simp)).mono ?_
    rintro e w1 ⟨rfl, hb1⟩
    rw [HG.out]
    go_wp2
    go_ret2
    exact ⟨by rw [H.out.1, H.out.2]; rfl, (((Below.refl _ _).alloc (Nat.le_refl _) _).alloc (by simp) _).trans (hb1.mono (by simp; omega))⟩
  | true =>
    have HI := hidd hi
    obtain ⟨n1, n2, k1, k2⟩ := isCol_bd hi
    cases ha : allB [i, j] n with
    | false =>
      have H := hidd (codeE_2 hi (pair_not ha))
      have HG := hidd (given_2 (c := 0) (zs := [i, j]) hi (by rw [ha, Bool.and_false]))
      clear hi ha
      go_enter Try.func23, Try.ntmps23
      go_wp2_with (refine wpList_load_row rfl 26 (.tmp 3) rfl w.heap.size rfl 26 _ (0,0) _ (Blk.new _ _ _ _ rfl) Try.underlying26 rfl HS.out ?_)
      refine (given56 n k bs hb 0 [i, j] (some ⟨w.heap.size + 1, 0, none⟩) 2 _ (sl2 _ i j _ _ (by simp)) (by simp)).mono ?_
      rintro e w1 ⟨rfl, hb1⟩
      rw [HG.out]
      go_wp2
      go_ret2
      exact ⟨by rw [H.out.1, H.out.2]; rfl, (((Below.refl _ _).alloc (Nat.le_refl _) _).alloc (by simp) _).trans (hb1.mono (by simp; omega))⟩
    | true =>
      have HG := hidd (given_0 (c := 0) (zs := [i, j]) hi (below0 k1) ha)
      by_cases hij : i = j
      · subst hij
        have H := hidd (codeE_2 hi (pairB_no3 (i := i) (n := n)))
        have hz : (i == i) = true := by simp
        clear hi ha
        go_enter Try.func23, Try.ntmps23
        go_wp2_with (refine wpList_load_row rfl 26 (.tmp 3) rfl w.heap.size rfl 26 _ (0,0) _ (Blk.new _ _ _ _ rfl) Try.underlying26 rfl HS.out ?_)
        refine (given56 n k bs hb 0 [i, i] (some ⟨w.heap.size + 1, 0, none⟩) 2 _ (sl2 _ i i _ _ (by simp)) (by simp)).mono ?_
        rintro e w1 ⟨rfl, hb1⟩
        rw [HG.out]
        go_wp2
        go_ret2
        exact ⟨by rw [H.out.1, H.out.2]; rfl, (((Below.refl _ _).alloc (Nat.le_refl _) _).alloc (by simp) _).trans (hb1.mono (by simp; omega))⟩
      · have hp := pair_of ha hij
        have H := hidd (codeE_0 hi hp)
        obtain ⟨p1, p2, p3, p4, _⟩ := pairB_bd hp
        have hz : (i == j) = false := by simpa using hij
        have HJ := hidd hij
        clear hi ha hp hij
        go_enter Try.func23, Try.ntmps23
        go_wp2_with (refine wpList_load_row rfl 26 (.tmp 3) rfl w.heap.size rfl 26 _ (0,0) _ (Blk.new _ _ _ _ rfl) Try.underlying26 rfl HS.out ?_)
        refine (given56 n k bs hb 0 [i, j] (some ⟨w.heap.size + 1, 0, none⟩) 2 _ (sl2 _ i j _ _ (by simp)) (by simp)).mono ?_
        rintro e w1 ⟨rfl, hb1⟩
        rw [HG.out]
        have hB := ((Blk.new w (ccells n k bs).toArray 26 _ rfl).alloc _).below hb1 (by simp; omega)
        have hbl := (((Below.refl _ _).alloc (Nat.le_refl _) _).alloc (by simp) _).trans (hb1.mono (B' := w.heap.size) (by simp; omega))
        have G := hidd (And.intro hB hbl)
        clear hb1 hB hbl
        go_wp2_with (refine wpList_load_row rfl 26 (.tmp 3) rfl w.heap.size rfl 26 _ (0,0) _ G.out.1 Try.underlying26 rfl HS.out ?_)
        refine (at57 n k bs hb n i j _ n2 p1 p2 p3 p4 HJ.out).mono ?_
        rintro e w2 ⟨rfl, hb2⟩
        go_wp2
        go_ret2
        exact ⟨by rw [H.out.1, H.out.2]; rfl, G.out.2.trans (hb2.mono G.out.2.size)⟩
set_option maxRecDepth 100000 in
set_option maxHeartbeats 400000 in
theorem impl24 (n k : Int) (bs : List Nat) (hb : Bys bs) (i j : Int) (w : World) :
    Calls Try.prog 24 #[.agg (ccells n k bs).toArray, .int .i64 i, .int .i64 j] w fun e w' => e = .returned (.tuple #[.int .i64 (colE n k bs i j), .int .i64 (codeE n k bs i j)]) ∧ Below w.heap.size w w' := by
  have HS := hidd (size_c26 n k hb)
  cases hi : isCol n k bs with
  | false =>
    have H := hidd (codeE_1 (i := i) (j := j) hi)
    have HI := hidd hi
    clear hi
    go_enter Try.func24, Try.ntmps24
    go_wp2_with (refine wpList_load_row rfl 26 (.tmp 3) rfl w.heap.size rfl 26 _ (0,0) _ (Blk.new _ _ _ _ rfl) Try.underlying26 rfl HS.out ?_)
    refine (implIs_any n k bs hb _).mono ?_
    rintro e w1 ⟨rfl, hb1⟩
    rw [HI.out]
    go_wp2
    go_ret2
    exact ⟨by rw [H.out.1, H.out.2]; rfl, ((Below.refl _ _).alloc (Nat.le_refl _) _).trans (hb1.mono (by simp))⟩
  | true =>
    have HI := hidd hi
    obtain ⟨n1, n2, k1, k2⟩ := isCol_bd hi
    have HC := hidd (show (ccells n k bs).toArray[0]? = some (.int .i64 n) from rfl)
    cases hp : pairB i j n with
    | false =>
      have H := hidd (codeE_2 hi hp)
      have HP := hidd hp
      clear hi hp
      go_enter Try.func24, Try.ntmps24
      go_wp2_with (refine wpList_load_row rfl 26 (.tmp 3) rfl w.heap.size rfl 26 _ (0,0) _ (Blk.new _ _ _ _ rfl) Try.underlying26 rfl HS.out ?_)
      refine (implIs_any n k bs hb _).mono ?_
      rintro e w1 ⟨rfl, hb1⟩
      rw [HI.out]
      have hB := (Blk.new w (ccells n k bs).toArray 26 _ rfl).below hb1 (by simp)
      have g0 := hB.cell HC.out
      have hbl := ((Below.refl _ _).alloc (Nat.le_refl _) _).trans (hb1.mono (B' := w.heap.size) (by simp))
      have G := hidd (And.intro hB hbl)
      clear hb1 hB hbl
      go_wp2_with (go_at_call 58; refine (pair58 _ _ _ _).mono ?_; rintro e w' ⟨rfl, rfl⟩; rw [HP.out])
      go_ret2
      exact ⟨by rw [H.out.1, H.out.2]; rfl, G.out.2⟩
    | true =>
      have H := hidd (codeE_0 hi hp)
      have HP := hidd hp
      obtain ⟨p1, p2, p3, p4, hij⟩ := pairB_bd hp
      have HJ := hidd hij
      clear hi hp hij
      go_enter Try.func24, Try.ntmps24
      go_wp2_with (refine wpList_load_row rfl 26 (.tmp 3) rfl w.heap.size rfl 26 _ (0,0) _ (Blk.new _ _ _ _ rfl) Try.underlying26 rfl HS.out ?_)
      refine (implIs_any n k bs hb _).mono ?_
      rintro e w1 ⟨rfl, hb1⟩
      rw [HI.out]
      have hB := (Blk.new w (ccells n k bs).toArray 26 _ rfl).below hb1 (by simp)
      have g0 := hB.cell HC.out
      have hbl := ((Below.refl _ _).alloc (Nat.le_refl _) _).trans (hb1.mono (B' := w.heap.size) (by simp))
      have G := hidd (And.intro hB hbl)
      clear hb1 hB hbl
      go_wp2_with (first | (refine wpList_load_row rfl 26 (.tmp 3) rfl w.heap.size rfl 26 _ (0,0) _ G.out.1 Try.underlying26 rfl HS.out ?_) | (go_at_call 58; refine (pair58 _ _ _ _).mono ?_; rintro e w' ⟨rfl, rfl⟩; rw [HP.out]))
      refine (at59 n k bs hb n i j _ n2 p1 p2 p3 p4 HJ.out).mono ?_
      rintro e w2 ⟨rfl, hb2⟩
      go_wp2
      go_ret2
      exact ⟨by rw [H.out.1, H.out.2]; rfl, G.out.2.trans (hb2.mono G.out.2.size)⟩
end Go.Proofs.Ytjdniepheghpkaa

/- NeighboursOf: the program and its model. -/
import Derived.Test.YtjdniepheghpkaaAround
namespace Go.Proofs.Ytjdniepheghpkaa
set_option linter.unusedVariables false
set_option linter.unusedSimpArgs false
open Go Go.RowKit
/-- A list of the call's own and a code. -/
def LOut (w : World) (zs : List Int) (code : Int) (e : Ending) (w' : World) : Prop :=
  ∃ a cap, e = .returned (.tuple #[.slice a zs.length cap, .int .i64 code]) ∧ OwnL w' w.heap.size a zs ∧ Below w.heap.size w w'
theorem lout_nil {w w' : World} {code : Int} {e : Ending} (he : e = .returned (.tuple #[.slice none 0 0, .int .i64 code])) (hb : Below w.heap.size w w') : LOut w [] code e w' := ⟨none, 0, he, .inl rfl, hb⟩
theorem lout_own {w w' : World} {zs : List Int} {code : Int} {e : Ending} {v : Value} {B : Nat} (he : e = .returned (.tuple #[v, .int .i64 code])) (h : w'.ownsRow B 2 1 v zs.length (icells zs)) (hB : w.heap.size ≤ B) (hb : Below w.heap.size w w') : LOut w zs code e w' := by
  obtain ⟨a, cap, rfl, ho⟩ := own_list (own_base h hB)
  exact ⟨a, cap, he, ho, hb⟩
def nbCode (n k : Int) (bs : List Nat) (i c : Int) : Int := given n k bs c [i]
def nbList (n k : Int) (bs : List Nat) (i c : Int) : List Int := if given n k bs c [i] = 0 then nbK (nbB bs i c) n.toNat else []
theorem all1 (i n : Int) : allB [i] n = belowB i n := by simp [allB]
theorem nb_bad {n k : Int} {bs : List Nat} {i c m : Int} (h : given n k bs c [i] = m) (hm : m ≠ 0) : nbList n k bs i c = [] ∧ nbCode n k bs i c = m := by
  unfold nbList nbCode; rw [h]; exact ⟨if_neg hm, rfl⟩
theorem nb_good {n k : Int} {bs : List Nat} {i c : Int} (h : given n k bs c [i] = 0) : nbList n k bs i c = nbK (nbB bs i c) n.toNat ∧ nbCode n k bs i c = 0 := by
  unfold nbList nbCode; rw [h]; exact ⟨if_pos rfl, rfl⟩
theorem nbList_len {n k : Int} {bs : List Nat} {i c : Int} : (nbList n k bs i c).length ≤ 17 := by
  unfold nbList
  split
  · rename_i h
    cases hi : isCol n k bs with
    | false => rw [given_1 hi] at h; cases h
    | true =>
      have := isCol_bd hi
      have := nbK_len (nbB bs i c) n.toNat
      omega
  · simp
theorem nb62 (p : Nat → Bool) (N : Nat) (h : N ≤ 62) : nbK (fun j => decide (j < N) && p j) 62 = nbK p N := by
  have h1 := nbK_more (p := fun j => decide (j < N) && p j) (m := N) (fun j hj => by simp [show ¬ j < N by omega]) (62 - N)
  rw [show N + (62 - N) = 62 by omega] at h1
  rw [h1]
  exact nbK_congr N (fun j hj => by simp [hj])
theorem sl1 (w : World) (i : Int) (t : TypeId) (b : Nat) (hb : b = w.heap.size) : SlI (w.alloc (.cells #[.int .i64 i] t)) (some ⟨b, 0, none⟩) [i] := by
  refine .inr ⟨_, _, rfl, fun m hm => ?_⟩
  have hB := Blk.new w #[.int .i64 i] t b hb
  match m, hm with
  | 0, _ => exact hB.cell rfl
set_option maxRecDepth 100000 in
set_option maxHeartbeats 1000000 in
theorem spec27 (n k : Int) (bs : List Nat) (hb : Bys bs) (i c : Int) (w : World) :
    Calls Try.prog 27 #[.agg (ccells n k bs).toArray, .int .i64 i, .int .i64 c] w (LOut w (nbList n k bs i c) (nbCode n k bs i c)) := by
  have HS := hidd (size_c26 n k hb)
  obtain ⟨g, hg⟩ : ∃ g, g = given n k bs c [i] := ⟨_, rfl⟩
  by_cases h0 : g = 0
  · have hgg := hg.symm.trans h0
    obtain ⟨e1, e2⟩ := nb_good hgg
    rw [e1, e2]
    have HG := hidd hgg
    have hi : isCol n k bs = true := by
      cases hi : isCol n k bs with
      | true => rfl
      | false => rw [given_1 hi] at hgg; cases hgg
    obtain ⟨n1, n2, k1, k2⟩ := isCol_bd hi
    have hbi : belowB i n = true := by
      cases hx : belowB i n with
      | true => rfl
      | false => rw [given_2 hi (by rw [all1, hx, Bool.and_false])] at hgg; cases hgg
    obtain ⟨i0, i1⟩ := inB_bd hbi
    have i1 : i < n := by omega
    clear h0 hg hgg e1 e2 hi hbi
    go_enter Try.func27, Try.ntmps27
    go_wp2_with (refine wpList_load_row rfl 26 (.tmp 3) rfl w.heap.size rfl 26 _ (0,0) _ (Blk.new _ _ _ _ rfl) Try.underlying26 rfl HS.out ?_)
    refine (given56 n k bs hb c [i] (some ⟨w.heap.size + 1, 0, none⟩) 1 _ (sl1 _ i _ _ (by simp)) (by simp)).mono ?_
    rintro e w1 ⟨rfl, hb1⟩
    rw [HG.out]
    have hB := ((Blk.new w (ccells n k bs).toArray 26 _ rfl).alloc _).below hb1 (by simp; omega)
    have hbl := (((Below.refl _ _).alloc (Nat.le_refl _) _).alloc (by simp) _).trans (hb1.mono (B' := w.heap.size) (by simp; omega))
    have G := hidd (And.intro hB hbl)
    clear hb1 hB hbl
    go_wp2_with (refine wpList_load_row rfl 26 (.tmp 3) rfl w.heap.size rfl 26 _ (0,0) _ G.out.1 Try.underlying26 rfl HS.out ?_)
    refine (around63 n k bs hb i c _ n1 n2 i0 i1).mono ?_
    rintro e w2 ⟨rfl, hb2⟩
    go_wp2_with fail
    refine (points62 (fun j => decide (j < n.toNat) && nbB bs i c j) (arK (nbB bs i c) n.toNat) _ (Nat.lt_of_lt_of_le (arK_lt _ _) (Nat.le_trans (Nat.pow_le_pow_right (n := 2) (by omega) (show n.toNat ≤ 17 by omega)) (by omega))) (arK_bit _ _)).mono ?_
    rintro e w3 ⟨v, rfl, ho, hb3⟩
    rw [nb62 _ _ (by omega)] at ho
    have hz3 := hb2.trans (hb3.mono hb2.size)
    have R := hidd (And.intro (own_base ho (Nat.le_trans G.out.2.size hb2.size)) (G.out.2.trans (hz3.mono G.out.2.size)))
    clear hb2 hb3 ho hz3
    go_wp2_with fail
    go_ret2
    exact lout_own rfl R.out.1 (Nat.le_refl _) R.out.2
  · have hgg := hg.symm
    obtain ⟨e1, e2⟩ := nb_bad hgg h0
    rw [e1, e2]
    have HG := hidd hgg
    have hq : (g != 0) = true := by rw [bne_iff_ne]; exact h0
    clear hg hgg h0 e1 e2
    go_enter Try.func27, Try.ntmps27
    go_wp2_with (refine wpList_load_row rfl 26 (.tmp 3) rfl w.heap.size rfl 26 _ (0,0) _ (Blk.new _ _ _ _ rfl) Try.underlying26 rfl HS.out ?_)
    refine (given56 n k bs hb c [i] (some ⟨w.heap.size + 1, 0, none⟩) 1 _ (sl1 _ i _ _ (by simp)) (by simp)).mono ?_
    rintro e w1 ⟨rfl, hb1⟩
    rw [HG.out]
    have G := hidd ((((Below.refl _ _).alloc (Nat.le_refl _) _).alloc (by simp) _).trans (hb1.mono (B' := w.heap.size) (by simp; omega)))
    clear hb1
    go_wp2
    go_ret2
    exact lout_nil rfl G.out
set_option maxRecDepth 100000 in
set_option maxHeartbeats 1000000 in
theorem impl28 (n k : Int) (bs : List Nat) (hb : Bys bs) (i c : Int) (w : World) :
    Calls Try.prog 28 #[.agg (ccells n k bs).toArray, .int .i64 i, .int .i64 c] w (LOut w (nbList n k bs i c) (nbCode n k bs i c)) := by
  have HS := hidd (size_c26 n k hb)
  have HC0 := hidd (show (ccells n k bs).toArray[0]? = some (.int .i64 n) from rfl)
  have HC1 := hidd (show (ccells n k bs).toArray[1]? = some (.int .i64 k) from rfl)
  cases hi : isCol n k bs with
  | false =>
    obtain ⟨e1, e2⟩ := nb_bad (given_1 (c := c) (zs := [i]) hi) (by omega)
    rw [e1, e2]
    have HI := hidd hi
    clear hi e1 e2
    go_enter Try.func28, Try.ntmps28
    go_wp2_with (refine wpList_load_row rfl 26 (.tmp 3) rfl w.heap.size rfl 26 _ (0,0) _ (Blk.new _ _ _ _ rfl) Try.underlying26 rfl HS.out ?_)
    refine (implIs_any n k bs hb _).mono ?_
    rintro e w1 ⟨rfl, hb1⟩
    rw [HI.out]
    have hB := (Blk.new w (ccells n k bs).toArray 26 _ rfl).below hb1 (by simp)
    have g0 := hB.cell HC0.out
    have g1 := hB.cell HC1.out
    have hbl := ((Below.refl _ _).alloc (Nat.le_refl _) _).trans (hb1.mono (B' := w.heap.size) (by simp))
    have G := hidd (And.intro hB hbl)
    clear hb1 hB hbl
    go_wp2
    go_ret2
    exact lout_nil rfl G.out.2
  | true =>
    have HI := hidd hi
    obtain ⟨n1, n2, k1, k2⟩ := isCol_bd hi
    cases h1 : belowB i n with
    | false =>
      obtain ⟨e1, e2⟩ := nb_bad (given_2 (c := c) (zs := [i]) hi (by rw [all1, h1, Bool.and_false])) (by omega)
      rw [e1, e2]
      have H1 := hidd h1
      clear hi e1 e2 h1
      go_enter Try.func28, Try.ntmps28
      go_wp2_with (refine wpList_load_row rfl 26 (.tmp 3) rfl w.heap.size rfl 26 _ (0,0) _ (Blk.new _ _ _ _ rfl) Try.underlying26 rfl HS.out ?_)
      refine (implIs_any n k bs hb _).mono ?_
      rintro e w1 ⟨rfl, hb1⟩
      rw [HI.out]
      have hB := (Blk.new w (ccells n k bs).toArray 26 _ rfl).below hb1 (by simp)
      have g0 := hB.cell HC0.out
      have g1 := hB.cell HC1.out
      have hbl := ((Below.refl _ _).alloc (Nat.le_refl _) _).trans (hb1.mono (B' := w.heap.size) (by simp))
      have G := hidd (And.intro hB hbl)
      clear hb1 hB hbl
      go_wp2_with (go_at_call 61; refine (below61 _ _ _).mono ?_; rintro e w' ⟨rfl, rfl⟩; rw [H1.out])
      go_ret2
      exact lout_nil rfl G.out.2
    | true =>
      have H1 := hidd h1
      cases h2 : belowB c k with
      | false =>
        obtain ⟨e1, e2⟩ := nb_bad (given_2 (c := c) (zs := [i]) hi (by rw [h2]; rfl)) (by omega)
        rw [e1, e2]
        have H2 := hidd h2
        clear hi e1 e2 h1 h2
        go_enter Try.func28, Try.ntmps28
        go_wp2_with (refine wpList_load_row rfl 26 (.tmp 3) rfl w.heap.size rfl 26 _ (0,0) _ (Blk.new _ _ _ _ rfl) Try.underlying26 rfl HS.out ?_)
        refine (implIs_any n k bs hb _).mono ?_
        rintro e w1 ⟨rfl, hb1⟩
        rw [HI.out]
        have hB := (Blk.new w (ccells n k bs).toArray 26 _ rfl).below hb1 (by simp)
        have g0 := hB.cell HC0.out
        have g1 := hB.cell HC1.out
        have hbl := ((Below.refl _ _).alloc (Nat.le_refl _) _).trans (hb1.mono (B' := w.heap.size) (by simp))
        have G := hidd (And.intro hB hbl)
        clear hb1 hB hbl
        go_wp2_with (go_at_call 61; refine (below61 _ _ _).mono ?_; rintro e w' ⟨rfl, rfl⟩; first | rw [H1.out] | rw [H2.out])
        go_ret2
        exact lout_nil rfl G.out.2
      | true =>
        have H2 := hidd h2
        obtain ⟨e1, e2⟩ := nb_good (given_0 (c := c) (zs := [i]) hi h2 (by rw [all1]; exact h1))
        rw [e1, e2]
        obtain ⟨i0, i1⟩ := inB_bd h1
        have i1 : i < n := by omega
        clear hi e1 e2 h1 h2
        go_enter Try.func28, Try.ntmps28
        go_wp2_with (refine wpList_load_row rfl 26 (.tmp 3) rfl w.heap.size rfl 26 _ (0,0) _ (Blk.new _ _ _ _ rfl) Try.underlying26 rfl HS.out ?_)
        refine (implIs_any n k bs hb _).mono ?_
        rintro e w1 ⟨rfl, hb1⟩
        rw [HI.out]
        have hB := (Blk.new w (ccells n k bs).toArray 26 _ rfl).below hb1 (by simp)
        have g0 := hB.cell HC0.out
        have g1 := hB.cell HC1.out
        have hbl := ((Below.refl _ _).alloc (Nat.le_refl _) _).trans (hb1.mono (B' := w.heap.size) (by simp))
        have G := hidd (And.intro hB hbl)
        clear hb1 hB hbl
        go_wp2_with (first | (refine wpList_load_row rfl 26 (.tmp 3) rfl w.heap.size rfl 26 _ (0,0) _ G.out.1 Try.underlying26 rfl HS.out ?_) | (go_at_call 61; refine (below61 _ _ _).mono ?_; rintro e w' ⟨rfl, rfl⟩; first | rw [H1.out] | rw [H2.out]))
        refine (nbrs64 n k bs hb i c _ n1 n2 i0 i1).mono ?_
        rintro e w2 ⟨v, rfl, ho, hb2⟩
        have R := hidd (And.intro (own_base ho G.out.2.size) (G.out.2.trans (hb2.mono G.out.2.size)))
        clear hb2 ho
        go_wp2_with fail
        go_ret2
        exact lout_own rfl R.out.1 (Nat.le_refl _) R.out.2
end Go.Proofs.Ytjdniepheghpkaa

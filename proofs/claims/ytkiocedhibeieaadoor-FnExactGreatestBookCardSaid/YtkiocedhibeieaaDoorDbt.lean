/- GreatestDouble, GreatestBook: what they answer; their models. -/
import Derived.Test.YtkiocedhibeieaaDoorDbs
namespace Go.Proofs.YtkiocedhibeieaaDoor
set_option linter.unusedVariables false
set_option linter.unusedSimpArgs false
open Go Go.RowKit Go.Shelf
/-- The greatest double or book. -/
def dzS (n k : Int) (bs : List Nat) (c : Int) (bk : Bool) : Int × Nat × Nat := dbA (rwN bs c n.toNat) bk n.toNat n.toNat
def dzCode (n k : Int) (bs : List Nat) (c : Int) (bk : Bool) : Int := if given n k bs c [] ≠ 0 then given n k bs c [] else if (dzS n k bs c bk).1 < 0 then 4 else 0
def dzL (n k : Int) (bs : List Nat) (c : Int) (bk : Bool) : List Int := if dzCode n k bs c bk = 0 then atL (dzS n k bs c bk) else []
def dzN (n k : Int) (bs : List Nat) (c : Int) (bk : Bool) : Int := if dzCode n k bs c bk = 0 then (dzS n k bs c bk).1 else 0
theorem dz_bad {n k : Int} {bs : List Nat} {c : Int} {bk : Bool} (h : given n k bs c [] ≠ 0) : dzL n k bs c bk = [] ∧ dzN n k bs c bk = 0 ∧ dzCode n k bs c bk = given n k bs c [] := by
  have e : dzCode n k bs c bk = given n k bs c [] := if_pos h
  exact ⟨by unfold dzL; rw [e, if_neg h], by unfold dzN; rw [e, if_neg h], e⟩
theorem dz_none {n k : Int} {bs : List Nat} {c : Int} {bk : Bool} (h : given n k bs c [] = 0) (h2 : (dzS n k bs c bk).1 < 0) : dzL n k bs c bk = [] ∧ dzN n k bs c bk = 0 ∧ dzCode n k bs c bk = 4 := by
  have e : dzCode n k bs c bk = 4 := by unfold dzCode; rw [if_neg (by omega), if_pos h2]
  exact ⟨by unfold dzL; rw [e, if_neg (by omega)], by unfold dzN; rw [e, if_neg (by omega)], e⟩
theorem dz_some {n k : Int} {bs : List Nat} {c : Int} {bk : Bool} (h : given n k bs c [] = 0) (h2 : ¬ (dzS n k bs c bk).1 < 0) : dzL n k bs c bk = atL (dzS n k bs c bk) ∧ dzN n k bs c bk = (dzS n k bs c bk).1 ∧ dzCode n k bs c bk = 0 := by
  have e : dzCode n k bs c bk = 0 := by unfold dzCode; rw [if_neg (by omega), if_neg h2]
  exact ⟨by unfold dzL; rw [e, if_pos rfl], by unfold dzN; rw [e, if_pos rfl], e⟩
theorem dzL_len {n k : Int} {bs : List Nat} {c : Int} {bk : Bool} : (dzL n k bs c bk).length ≤ 17 := by
  unfold dzL atL
  split
  · split <;> simp
  · simp
/-- A list, a number and a code; the list need not be new. -/
def LNOut0 (w : World) (zs : List Int) (x code : Int) (e : Ending) (w' : World) : Prop :=
  ∃ a cap, e = .returned (.tuple #[.slice a zs.length cap, .int .i64 x, .int .i64 code]) ∧ OwnL w' 0 a zs ∧ Below w.heap.size w w'
def LNOut (w : World) (zs : List Int) (x code : Int) (e : Ending) (w' : World) : Prop :=
  ∃ a cap, e = .returned (.tuple #[.slice a zs.length cap, .int .i64 x, .int .i64 code]) ∧ OwnL w' w.heap.size a zs ∧ Below w.heap.size w w'
set_option maxRecDepth 100000 in
set_option maxHeartbeats 1000000 in
theorem spec31 (n k : Int) (bs : List Nat) (hb : Bys bs) (c : Int) (w : World) :
    Calls Tryd.prog 31 #[.agg (ccells n k bs).toArray, .int .i64 c] w (LNOut0 w (dzL n k bs c false) (dzN n k bs c false) (dzCode n k bs c false)) := by
  have HS := hidd (size_c26 n k hb)
  have HG := hidd (fun W => given56 n k bs hb c [] none 0 W (sl_none W) (by simp))
  by_cases h0 : given n k bs c [] = 0
  · obtain ⟨n1, n2, k1, k2⟩ := isCol_bd (given_ok h0).1
    rw [h0] at HG
    have HQ := hidd (fun N (h1 : 1 ≤ N) (h17 : N ≤ 17) W => double65 N k bs hb c false h1 h17 W)
    by_cases h2 : (dzS n k bs c false).1 < 0
    · have he := dz_none h0 h2
      rw [he.1, he.2.1, he.2.2]
      obtain ⟨N, rfl⟩ := Int.eq_ofNat_of_zero_le (show 0 ≤ n by omega)
      have hq := HQ.out N (by omega) (by omega)
      unfold dzS at h2
      rw [Int.toNat_natCast] at h2
      have HQ2 := hidd hq
      generalize dbA (rwN bs c N) false N N = s at HQ2 h2
      have hneg : decide (s.1 < 0) = true := decide_eq_true h2
      clear h0 he hq h2 HQ
      go_enter Tryd.func31, Tryd.ntmps31
      go_wp2_with (refine wpList_load_row rfl 28 (.tmp 2) rfl w.heap.size rfl 28 _ (0,0) _ (Blk.new _ _ _ _ rfl) Tryd.underlying28 rfl HS.out ?_)
      refine (HG.out _).mono ?_
      rintro e w1 ⟨rfl, hb1⟩
      have hB := (Blk.new w (ccells (N : Int) k bs).toArray 28 _ rfl).below hb1 (by simp)
      have G := hidd (And.intro (((Below.refl w.heap.size w).alloc (Nat.le_refl _) (.cells (ccells (N : Int) k bs).toArray 28)).trans (hb1.mono (by simp))) hB)
      clear hb1 hB
      go_wp2_with (refine wpList_load_row rfl 28 (.tmp 2) rfl w.heap.size rfl 28 _ (0,0) _ G.out.2 Tryd.underlying28 rfl HS.out ?_)
      refine (HQ2.out _).mono ?_
      rintro e w2 ⟨a, cap, rfl, ho, hb2⟩
      have G2 := hidd (G.out.1.trans (hb2.mono G.out.1.size))
      clear hb2 ho
      go_wp2_with fail
      go_ret3
      exact ⟨none, 0, rfl, .inl rfl, G2.out⟩
    · have he := dz_some h0 h2
      rw [he.1, he.2.1, he.2.2]
      obtain ⟨N, rfl⟩ := Int.eq_ofNat_of_zero_le (show 0 ≤ n by omega)
      have hq := HQ.out N (by omega) (by omega)
      unfold dzS at h2 ⊢
      rw [Int.toNat_natCast] at h2 ⊢
      have HQ2 := hidd hq
      clear he hq
      generalize dbA (rwN bs c N) false N N = s at HQ2 h2
      have hneg : decide (s.1 < 0) = false := decide_eq_false h2
      clear h0 h2 HQ
      go_enter Tryd.func31, Tryd.ntmps31
      go_wp2_with (refine wpList_load_row rfl 28 (.tmp 2) rfl w.heap.size rfl 28 _ (0,0) _ (Blk.new _ _ _ _ rfl) Tryd.underlying28 rfl HS.out ?_)
      refine (HG.out _).mono ?_
      rintro e w1 ⟨rfl, hb1⟩
      have hB := (Blk.new w (ccells (N : Int) k bs).toArray 28 _ rfl).below hb1 (by simp)
      have G := hidd (And.intro (((Below.refl w.heap.size w).alloc (Nat.le_refl _) (.cells (ccells (N : Int) k bs).toArray 28)).trans (hb1.mono (by simp))) hB)
      clear hb1 hB
      go_wp2_with (refine wpList_load_row rfl 28 (.tmp 2) rfl w.heap.size rfl 28 _ (0,0) _ G.out.2 Tryd.underlying28 rfl HS.out ?_)
      refine (HQ2.out _).mono ?_
      rintro e w2 ⟨a, cap, rfl, ho, hb2⟩
      have G2 := hidd (And.intro ho (G.out.1.trans (hb2.mono G.out.1.size)))
      clear hb2 ho
      go_wp2_with fail
      go_ret3
      exact ⟨a, cap, rfl, G2.out.1, G2.out.2⟩
  · have he := dz_bad (bk := false) h0
    rw [he.1, he.2.1, he.2.2]
    obtain ⟨cd, hcd⟩ : ∃ cd, cd = given n k bs c [] := ⟨_, rfl⟩
    rw [← hcd] at HG h0 ⊢
    have hne : (cd != 0) = true := by rw [bne_iff_ne]; exact h0
    clear h0 he hcd
    go_enter Tryd.func31, Tryd.ntmps31
    go_wp2_with (refine wpList_load_row rfl 28 (.tmp 2) rfl w.heap.size rfl 28 _ (0,0) _ (Blk.new _ _ _ _ rfl) Tryd.underlying28 rfl HS.out ?_)
    refine (HG.out _).mono ?_
    rintro e w1 ⟨rfl, hb1⟩
    have G := hidd (((Below.refl w.heap.size w).alloc (Nat.le_refl _) (.cells (ccells n k bs).toArray 28)).trans (hb1.mono (by simp)))
    clear hb1
    go_wp2_with fail
    go_ret3
    exact ⟨none, 0, rfl, .inl rfl, G.out⟩
set_option maxRecDepth 100000 in
set_option maxHeartbeats 1000000 in
theorem spec33 (n k : Int) (bs : List Nat) (hb : Bys bs) (c : Int) (w : World) :
    Calls Tryd.prog 33 #[.agg (ccells n k bs).toArray, .int .i64 c] w (LNOut0 w (dzL n k bs c true) (dzN n k bs c true) (dzCode n k bs c true)) := by
  have HS := hidd (size_c26 n k hb)
  have HG := hidd (fun W => given56 n k bs hb c [] none 0 W (sl_none W) (by simp))
  by_cases h0 : given n k bs c [] = 0
  · obtain ⟨n1, n2, k1, k2⟩ := isCol_bd (given_ok h0).1
    rw [h0] at HG
    have HQ := hidd (fun N (h1 : 1 ≤ N) (h17 : N ≤ 17) W => double65 N k bs hb c true h1 h17 W)
    by_cases h2 : (dzS n k bs c true).1 < 0
    · have he := dz_none h0 h2
      rw [he.1, he.2.1, he.2.2]
      obtain ⟨N, rfl⟩ := Int.eq_ofNat_of_zero_le (show 0 ≤ n by omega)
      have hq := HQ.out N (by omega) (by omega)
      unfold dzS at h2
      rw [Int.toNat_natCast] at h2
      have HQ2 := hidd hq
      generalize dbA (rwN bs c N) true N N = s at HQ2 h2
      have hneg : decide (s.1 < 0) = true := decide_eq_true h2
      clear h0 he hq h2 HQ
      go_enter Tryd.func33, Tryd.ntmps33
      go_wp2_with (refine wpList_load_row rfl 28 (.tmp 2) rfl w.heap.size rfl 28 _ (0,0) _ (Blk.new _ _ _ _ rfl) Tryd.underlying28 rfl HS.out ?_)
      refine (HG.out _).mono ?_
      rintro e w1 ⟨rfl, hb1⟩
      have hB := (Blk.new w (ccells (N : Int) k bs).toArray 28 _ rfl).below hb1 (by simp)
      have G := hidd (And.intro (((Below.refl w.heap.size w).alloc (Nat.le_refl _) (.cells (ccells (N : Int) k bs).toArray 28)).trans (hb1.mono (by simp))) hB)
      clear hb1 hB
      go_wp2_with (refine wpList_load_row rfl 28 (.tmp 2) rfl w.heap.size rfl 28 _ (0,0) _ G.out.2 Tryd.underlying28 rfl HS.out ?_)
      refine (HQ2.out _).mono ?_
      rintro e w2 ⟨a, cap, rfl, ho, hb2⟩
      have G2 := hidd (G.out.1.trans (hb2.mono G.out.1.size))
      clear hb2 ho
      go_wp2_with fail
      go_ret3
      exact ⟨none, 0, rfl, .inl rfl, G2.out⟩
    · have he := dz_some h0 h2
      rw [he.1, he.2.1, he.2.2]
      obtain ⟨N, rfl⟩ := Int.eq_ofNat_of_zero_le (show 0 ≤ n by omega)
      have hq := HQ.out N (by omega) (by omega)
      unfold dzS at h2 ⊢
      rw [Int.toNat_natCast] at h2 ⊢
      have HQ2 := hidd hq
      clear he hq
      generalize dbA (rwN bs c N) true N N = s at HQ2 h2
      have hneg : decide (s.1 < 0) = false := decide_eq_false h2
      clear h0 h2 HQ
      go_enter Tryd.func33, Tryd.ntmps33
      go_wp2_with (refine wpList_load_row rfl 28 (.tmp 2) rfl w.heap.size rfl 28 _ (0,0) _ (Blk.new _ _ _ _ rfl) Tryd.underlying28 rfl HS.out ?_)
      refine (HG.out _).mono ?_
      rintro e w1 ⟨rfl, hb1⟩
      have hB := (Blk.new w (ccells (N : Int) k bs).toArray 28 _ rfl).below hb1 (by simp)
      have G := hidd (And.intro (((Below.refl w.heap.size w).alloc (Nat.le_refl _) (.cells (ccells (N : Int) k bs).toArray 28)).trans (hb1.mono (by simp))) hB)
      clear hb1 hB
      go_wp2_with (refine wpList_load_row rfl 28 (.tmp 2) rfl w.heap.size rfl 28 _ (0,0) _ G.out.2 Tryd.underlying28 rfl HS.out ?_)
      refine (HQ2.out _).mono ?_
      rintro e w2 ⟨a, cap, rfl, ho, hb2⟩
      have G2 := hidd (And.intro ho (G.out.1.trans (hb2.mono G.out.1.size)))
      clear hb2 ho
      go_wp2_with fail
      go_ret3
      exact ⟨a, cap, rfl, G2.out.1, G2.out.2⟩
  · have he := dz_bad (bk := true) h0
    rw [he.1, he.2.1, he.2.2]
    obtain ⟨cd, hcd⟩ : ∃ cd, cd = given n k bs c [] := ⟨_, rfl⟩
    rw [← hcd] at HG h0 ⊢
    have hne : (cd != 0) = true := by rw [bne_iff_ne]; exact h0
    clear h0 he hcd
    go_enter Tryd.func33, Tryd.ntmps33
    go_wp2_with (refine wpList_load_row rfl 28 (.tmp 2) rfl w.heap.size rfl 28 _ (0,0) _ (Blk.new _ _ _ _ rfl) Tryd.underlying28 rfl HS.out ?_)
    refine (HG.out _).mono ?_
    rintro e w1 ⟨rfl, hb1⟩
    have G := hidd (((Below.refl w.heap.size w).alloc (Nat.le_refl _) (.cells (ccells n k bs).toArray 28)).trans (hb1.mono (by simp)))
    clear hb1
    go_wp2_with fail
    go_ret3
    exact ⟨none, 0, rfl, .inl rfl, G.out⟩
end Go.Proofs.YtkiocedhibeieaaDoor

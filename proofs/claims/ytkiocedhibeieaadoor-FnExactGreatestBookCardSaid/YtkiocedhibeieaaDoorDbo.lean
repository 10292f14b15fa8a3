/- GreatestDouble, GreatestBook: the program. -/
import Derived.Test.YtkiocedhibeieaaDoorDbi
import Derived.Test.YtkiocedhibeieaaDoorDbt
namespace Go.Proofs.YtkiocedhibeieaaDoor
set_option linter.unusedVariables false
set_option linter.unusedSimpArgs false
open Go Go.RowKit Go.Shelf
theorem dz_eq {n k : Int} {bs : List Nat} {c : Int} {bk : Bool} (h17 : n.toNat ≤ 17) : dbA (nsF bs c (eseq n.toNat)) bk n.toNat n.toNat = dzS n k bs c bk :=
  dbA_congr (fun p hp => nsF_rw bs c hp h17) _ (Nat.le_refl _)
theorem own_two' (w : World) (B : Nat) (hB : B ≤ w.heap.size) (b : Nat) (hb : w.heap.size = b) (i j : Int) : OwnL (w.alloc (.cells #[.int .i64 i, .int .i64 j] 2)) B (some ⟨b, 0, none⟩) [i, j] := by
  subst hb
  exact .inr ⟨w.heap.size, _, hB, rfl, Blk.new _ _ _ _ rfl, Nat.le_refl _, fun m hm => by
    match m, hm with
    | 0, _ => rfl
    | 1, _ => rfl⟩
set_option maxRecDepth 100000 in
set_option maxHeartbeats 2000000 in
theorem impl66 (n k : Int) (bs : List Nat) (hb : Bys bs) (c : Int) (bk : Bool) (w : World) (hT : Tz w) (hw0 : 0 < w.heap.size) :
    Calls Tryd.prog 66 #[.agg (ccells n k bs).toArray, .int .i64 c, .bool bk] w (LNOut w (dzL n k bs c bk) (dzN n k bs c bk) (dzCode n k bs c bk)) := by
  have HS := hidd (size_c26 n k hb)
  have HG := hidd (fun W => graph63 n k c bs hb W)
  have HT := hidd hT
  have HZ1 := hidd (size79 (grA n k bs c) (grF n k bs c))
  have HO1 := hidd (show (gcell 0 fun _ => 0).toArray.size = (gcell (grA n k bs c) (grF n k bs c)).toArray.size by simp [gcell_len])
  have HA1 := hidd (gcell_one (grA n k bs c) (grF n k bs c))
  have Hz := zero79
  have Hz2 := zero101
  clear hT
  by_cases h0 : given n k bs c [] = 0
  · obtain ⟨n1, n2, k1, k2⟩ := isCol_bd (given_ok h0).1
    have e3 : grA n k bs c = 2 ^ n.toNat - 1 := if_pos h0
    have e4 : grF n k bs c = nsF bs c (eseq n.toNat) := if_pos h0
    rw [h0, e3, e4] at HG
    rw [e3, e4] at HZ1 HO1 HA1
    have hq := fun W hW hp => greatest83 n.toNat (nsF bs c (eseq n.toNat)) bk W (by omega) (by omega) (nsF_lt bs c (eseq n.toNat)) hW hp
    rw [dz_eq (k := k) (by omega)] at hq
    have HQ := hidd hq
    have hnone := dz_none (bk := bk) h0
    have hsome := dz_some (bk := bk) h0
    generalize dzS n k bs c bk = s at HQ hnone hsome
    generalize nsF bs c (eseq n.toNat) = F at HQ HG HZ1 HO1 HA1
    generalize 2 ^ n.toNat - 1 = U at HQ HG HZ1 HO1 HA1
    clear h0 e3 e4 hq
    obtain ⟨x, i, j⟩ := s
    have HZ2 := hidd (size101 i j)
    have HA2 := hidd (ecell_one i j)
    by_cases h2 : x < 0
    · obtain ⟨r1, r2, r3⟩ := hnone h2
      rw [r1, r2, r3]
      have hneg : decide (x < 0) = true := decide_eq_true h2
      clear hnone hsome h2 r1 r2 r3
      go_enter Tryd.func66, Tryd.ntmps66
      go_wp2_with (refine wpList_load_row rfl 28 (.tmp 3) rfl w.heap.size rfl 28 _ (0,0) _ (Blk.new _ _ _ _ rfl) Tryd.underlying28 rfl HS.out ?_)
      refine (HG.out _).mono ?_
      rintro e w1 ⟨rfl, hb1⟩
      have G := hidd (((Below.refl w.heap.size w).alloc (Nat.le_refl _) (.cells (ccells n k bs).toArray 28)).trans (hb1.mono (by simp)))
      have GB := hidd (show Blk ((w1.alloc (.cells (gcell 0 fun _ => 0).toArray 79)).setRow w1.heap.size (gcell U F).toArray) w1.heap.size (gcell U F).toArray 79 ∧ Below w.heap.size w ((w1.alloc (.cells (gcell 0 fun _ => 0).toArray 79)).setRow w1.heap.size (gcell U F).toArray) from
        ⟨(Blk.new _ _ _ _ rfl).rowSame _, below_setRow (G.out.alloc G.out.size _) G.out.size _⟩)
      clear hb1
      go_wp2_with (first
        | (refine wpList_store_row rfl 79 (.tmp 9) (.tmp 17) rfl w1.heap.size _ rfl rfl 79 _ (Blk.new _ _ _ _ rfl) HZ1.out HO1.out HA1.out ?_)
        | (refine wpList_load_row rfl 79 (.tmp 9) rfl w1.heap.size rfl 79 _ (0,0) _ GB.out.1 Tryd.underlying79 rfl HZ1.out ?_))
      refine (HQ.out _ (HT.out.below GB.out.2 hw0) (by have := GB.out.2.size; omega)).mono ?_
      rintro e w2 ⟨rfl, hb2⟩
      have G2 := hidd (GB.out.2.trans (hb2.mono GB.out.2.size))
      have GF := hidd (show Blk ((w2.alloc (.cells (ecell 0 0) 101)).setRow w2.heap.size (ecell i j)) w2.heap.size (ecell i j) 101 ∧ Below w.heap.size w ((w2.alloc (.cells (ecell 0 0) 101)).setRow w2.heap.size (ecell i j)) from
        ⟨(Blk.new _ _ _ _ rfl).rowSame _, below_setRow (G2.out.alloc G2.out.size _) G2.out.size _⟩)
      have ci := GF.out.1.cell (j := 0) (show (ecell i j)[0]? = some (.int .i64 (i : Int)) from rfl)
      have cj := GF.out.1.cell (j := 1) (show (ecell i j)[1]? = some (.int .i64 (j : Int)) from rfl)
      clear hb2
      go_wp2_with (refine wpList_store_row rfl 101 (.tmp 11) (.tmp 26) rfl w2.heap.size _ rfl rfl 101 _ (Blk.new _ _ _ _ rfl) HZ2.out rfl HA2.out ?_)
      go_ret3
      exact ⟨none, 0, rfl, .inl rfl, GF.out.2⟩
    · obtain ⟨r1, r2, r3⟩ := hsome h2
      have e5 : atL (x, i, j) = [(i : Int), (j : Int)] := by unfold atL; rw [if_neg h2]
      rw [r1, r2, r3, e5]
      have hneg : decide (x < 0) = false := decide_eq_false h2
      clear hnone hsome h2 r1 r2 r3 e5
      go_enter Tryd.func66, Tryd.ntmps66
      go_wp2_with (refine wpList_load_row rfl 28 (.tmp 3) rfl w.heap.size rfl 28 _ (0,0) _ (Blk.new _ _ _ _ rfl) Tryd.underlying28 rfl HS.out ?_)
      refine (HG.out _).mono ?_
      rintro e w1 ⟨rfl, hb1⟩
      have G := hidd (((Below.refl w.heap.size w).alloc (Nat.le_refl _) (.cells (ccells n k bs).toArray 28)).trans (hb1.mono (by simp)))
      have GB := hidd (show Blk ((w1.alloc (.cells (gcell 0 fun _ => 0).toArray 79)).setRow w1.heap.size (gcell U F).toArray) w1.heap.size (gcell U F).toArray 79 ∧ Below w.heap.size w ((w1.alloc (.cells (gcell 0 fun _ => 0).toArray 79)).setRow w1.heap.size (gcell U F).toArray) from
        ⟨(Blk.new _ _ _ _ rfl).rowSame _, below_setRow (G.out.alloc G.out.size _) G.out.size _⟩)
      clear hb1
      go_wp2_with (first
        | (refine wpList_store_row rfl 79 (.tmp 9) (.tmp 17) rfl w1.heap.size _ rfl rfl 79 _ (Blk.new _ _ _ _ rfl) HZ1.out HO1.out HA1.out ?_)
        | (refine wpList_load_row rfl 79 (.tmp 9) rfl w1.heap.size rfl 79 _ (0,0) _ GB.out.1 Tryd.underlying79 rfl HZ1.out ?_))
      refine (HQ.out _ (HT.out.below GB.out.2 hw0) (by have := GB.out.2.size; omega)).mono ?_
      rintro e w2 ⟨rfl, hb2⟩
      have G2 := hidd (GB.out.2.trans (hb2.mono GB.out.2.size))
      have GF := hidd (show Blk ((w2.alloc (.cells (ecell 0 0) 101)).setRow w2.heap.size (ecell i j)) w2.heap.size (ecell i j) 101 ∧ Below w.heap.size w ((w2.alloc (.cells (ecell 0 0) 101)).setRow w2.heap.size (ecell i j)) from
        ⟨(Blk.new _ _ _ _ rfl).rowSame _, below_setRow (G2.out.alloc G2.out.size _) G2.out.size _⟩)
      have ci := GF.out.1.cell (j := 0) (show (ecell i j)[0]? = some (.int .i64 (i : Int)) from rfl)
      have cj := GF.out.1.cell (j := 1) (show (ecell i j)[1]? = some (.int .i64 (j : Int)) from rfl)
      clear hb2
      go_wp2_with (refine wpList_store_row rfl 101 (.tmp 11) (.tmp 26) rfl w2.heap.size _ rfl rfl 101 _ (Blk.new _ _ _ _ rfl) HZ2.out rfl HA2.out ?_)
      go_ret3
      have hal : Below w.heap.size w (((w2.alloc (.cells (ecell 0 0) 101)).setRow w2.heap.size (ecell i j)).alloc (.cells #[.int .i64 (i : Int), .int .i64 (j : Int)] 2)) := GF.out.2.alloc GF.out.2.size _
      exact ⟨_, _, rfl, own_two' _ _ GF.out.2.size _ (by simp) _ _, hal⟩
  · have he := dz_bad (bk := bk) h0
    rw [he.1, he.2.1, he.2.2]
    obtain ⟨cd, hcd⟩ : ∃ cd, cd = given n k bs c [] := ⟨_, rfl⟩
    rw [← hcd] at HG h0 ⊢
    have hne : (cd != 0) = true := by rw [bne_iff_ne]; exact h0
    clear h0 he hcd
    generalize grF n k bs c = F at HG HZ1 HO1 HA1
    generalize grA n k bs c = U at HG HZ1 HO1 HA1
    go_enter Tryd.func66, Tryd.ntmps66
    go_wp2_with (refine wpList_load_row rfl 28 (.tmp 3) rfl w.heap.size rfl 28 _ (0,0) _ (Blk.new _ _ _ _ rfl) Tryd.underlying28 rfl HS.out ?_)
    refine (HG.out _).mono ?_
    rintro e w1 ⟨rfl, hb1⟩
    have G := hidd (((Below.refl w.heap.size w).alloc (Nat.le_refl _) (.cells (ccells n k bs).toArray 28)).trans (hb1.mono (by simp)))
    clear hb1
    go_wp2_with (refine wpList_store_row rfl 79 (.tmp 9) (.tmp 17) rfl w1.heap.size _ rfl rfl 79 _ (Blk.new _ _ _ _ rfl) HZ1.out HO1.out HA1.out ?_)
    go_ret3
    exact ⟨none, 0, rfl, .inl rfl, below_setRow (G.out.alloc G.out.size _) G.out.size _⟩
set_option maxRecDepth 100000 in
set_option maxHeartbeats 1000000 in
theorem impl32 (n k : Int) (bs : List Nat) (hb : Bys bs) (c : Int) (w : World) (hT : Tz w) (hw0 : 0 < w.heap.size) :
    Calls Tryd.prog 32 #[.agg (ccells n k bs).toArray, .int .i64 c] w (LNOut w (dzL n k bs c false) (dzN n k bs c false) (dzCode n k bs c false)) := by
  have HS := hidd (size_c26 n k hb)
  have HT := hidd hT
  have HQ := hidd (fun W hW h0 => impl66 n k bs hb c false W hW h0)
  generalize dzL n k bs c false = zs at HQ ⊢
  generalize dzN n k bs c false = x at HQ ⊢
  generalize dzCode n k bs c false = cd at HQ ⊢
  have HB := hidd ((Below.refl w.heap.size w).alloc (Nat.le_refl _) (.cells (ccells n k bs).toArray 28))
  clear hT
  go_enter Tryd.func32, Tryd.ntmps32
  go_wp2_with (refine wpList_load_row rfl 28 (.tmp 2) rfl w.heap.size rfl 28 _ (0,0) _ (Blk.new _ _ _ _ rfl) Tryd.underlying28 rfl HS.out ?_)
  refine (HQ.out _ (HT.out.below HB.out hw0) (by simp)).mono ?_
  rintro e w1 ⟨a, cap, rfl, ho, hb1⟩
  have G := hidd (And.intro (ownL_base ho (by simp : w.heap.size ≤ (w.alloc (.cells (ccells n k bs).toArray 28)).heap.size)) (HB.out.trans (hb1.mono (by simp))))
  clear ho hb1
  go_wp2_with fail
  go_ret3
  exact ⟨a, cap, rfl, G.out.1, G.out.2⟩
set_option maxRecDepth 100000 in
set_option maxHeartbeats 1000000 in
theorem impl34 (n k : Int) (bs : List Nat) (hb : Bys bs) (c : Int) (w : World) (hT : Tz w) (hw0 : 0 < w.heap.size) :
    Calls Tryd.prog 34 #[.agg (ccells n k bs).toArray, .int .i64 c] w (LNOut w (dzL n k bs c true) (dzN n k bs c true) (dzCode n k bs c true)) := by
  have HS := hidd (size_c26 n k hb)
  have HT := hidd hT
  have HQ := hidd (fun W hW h0 => impl66 n k bs hb c true W hW h0)
  generalize dzL n k bs c true = zs at HQ ⊢
  generalize dzN n k bs c true = x at HQ ⊢
  generalize dzCode n k bs c true = cd at HQ ⊢
  have HB := hidd ((Below.refl w.heap.size w).alloc (Nat.le_refl _) (.cells (ccells n k bs).toArray 28))
  clear hT
  go_enter Tryd.func34, Tryd.ntmps34
  go_wp2_with (refine wpList_load_row rfl 28 (.tmp 2) rfl w.heap.size rfl 28 _ (0,0) _ (Blk.new _ _ _ _ rfl) Tryd.underlying28 rfl HS.out ?_)
  refine (HQ.out _ (HT.out.below HB.out hw0) (by simp)).mono ?_
  rintro e w1 ⟨a, cap, rfl, ho, hb1⟩
  have G := hidd (And.intro (ownL_base ho (by simp : w.heap.size ≤ (w.alloc (.cells (ccells n k bs).toArray 28)).heap.size)) (HB.out.trans (hb1.mono (by simp))))
  clear ho hb1
  go_wp2_with fail
  go_ret3
  exact ⟨a, cap, rfl, G.out.1, G.out.2⟩
end Go.Proofs.YtkiocedhibeieaaDoor

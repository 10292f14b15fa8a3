/- DegreesOf: the program and its model. -/
import Derived.Test.YtjdniepheghpkaaDeg
namespace Go.Proofs.Ytjdniepheghpkaa
set_option linter.unusedVariables false
set_option linter.unusedSimpArgs false
open Go Go.RowKit Go.Shelf
def RelDg (bs : List Nat) (c : Int) (N : Nat) (C : Array Value) (w : World) (j : Nat) (v : Value) (wr : World) : Prop :=
  Blk wr w.heap.size C 26 ∧ wr.ownsRow (w.heap.size + 1) 2 1 v (dgL j (fun p => cnt (nbB bs p c) N)).length (icells (dgL j (fun p => cnt (nbB bs p c) N))) ∧ Below w.heap.size w wr
set_option maxRecDepth 100000 in
set_option maxHeartbeats 1000000 in
theorem spec31 (n k : Int) (bs : List Nat) (hb : Bys bs) (c : Int) (w : World) :
    Calls Try.prog 31 #[.agg (ccells n k bs).toArray, .int .i64 c] w (LOut w (dgList n k bs c) (dgCode n k bs c)) := by
  have HS := hidd (size_c26 n k hb)
  obtain ⟨g, hg⟩ : ∃ g, g = given n k bs c [] := ⟨_, rfl⟩
  by_cases h0 : g = 0
  · have hgg := hg.symm.trans h0
    obtain ⟨e1, e2⟩ := dg_good hgg
    rw [e1, e2]
    have HG := hidd hgg
    have hi : isCol n k bs = true := by
      cases hi : isCol n k bs with
      | true => rfl
      | false => rw [given_1 hi] at hgg; cases hgg
    obtain ⟨n1, n2, k1, k2⟩ := isCol_bd hi
    obtain ⟨N, rfl⟩ := Int.eq_ofNat_of_zero_le (show 0 ≤ n by omega)
    rw [Int.toNat_natCast]
    obtain ⟨t0, hi2, hz0, hz1, hz2⟩ := info_parts info2
    have HI := hidd (And.intro hi2 (And.intro hz0 (And.intro hz1 hz2)))
    have HC0 := hidd (show (ccells (N : Int) k bs).toArray[0]? = some (.int .i64 (N : Int)) from rfl)
    clear h0 hg hgg e1 e2 hi hi2 hz0 hz1 hz2
    go_enter Try.func31, Try.ntmps31
    go_wp2_with (refine wpList_load_row rfl 26 (.tmp 2) rfl w.heap.size rfl 26 _ (0,0) _ (Blk.new _ _ _ _ rfl) Try.underlying26 rfl HS.out ?_)
    refine (given56 (N : Int) k bs hb c [] none 0 _ (.inl rfl) (by simp)).mono ?_
    rintro e w1 ⟨rfl, hb1⟩
    rw [HG.out]
    have hB := (Blk.new w (ccells (N : Int) k bs).toArray 26 _ rfl).below hb1 (by simp)
    have hbl := ((Below.refl _ _).alloc (Nat.le_refl _) _).trans (hb1.mono (B' := w.heap.size) (by simp))
    have G := hidd (And.intro hB hbl)
    clear hb1 hB hbl
    go_wp2_with fail
    go_loopw [7, 8] (fun v e wr => ∃ j : Nat, j ≤ N ∧ e = .int .i64 j ∧ RelDg bs c N (ccells (N : Int) k bs).toArray w j v wr) (fun _ e _ => N - (intOf e).toNat)
    case atStart =>
      have hlt := G.out.1.lt
      refine ⟨0, by omega, rfl, G.out.1.alloc _, ⟨rfl, .inr ⟨w1.heap.size, 0, #[], rfl, by omega, heap_alloc_new w1 _, ?_, ?_, rfl, rfl⟩⟩, G.out.2.alloc G.out.2.size _⟩
      · simp [dgL]
      · simp [maxLen]
    case round =>
      obtain ⟨j, hj, rfl, HR⟩ := hrel
      have hw0 := HR.1.cell HC0.out
      by_cases hlt : j < N
      · have HK := hidd HR
        obtain ⟨p, hp⟩ : ∃ p, p = nbB bs (j : Int) c := ⟨_, rfl⟩
        have HP := hidd hp
        have HON := hidd (ones_arK p N)
        have hcl := cnt_le p N
        have HH := hidd (dgL_snoc j (fun q => cnt (nbB bs q c) N))
        have harl := arK_lt p N
        have harl2 := Nat.pow_le_pow_right (n := 2) (by omega) (show N ≤ 17 by omega)
        clear HR hp
        go_wp2_with (refine wpList_load_row rfl 26 (.tmp 2) rfl w.heap.size rfl 26 _ (0,0) _ HK.out.1 Try.underlying26 rfl HS.out ?_)
        refine (around63 (N : Int) k bs hb (j : Int) c _ n1 n2 (by omega) (by omega)).mono ?_
        rintro e w2 ⟨rfl, hb2⟩
        rw [← HP.out, Int.toNat_natCast]
        have K2 := hidd (And.intro (HK.out.1.below hb2 HK.out.1.lt) (HK.out.2.2.trans (hb2.mono HK.out.2.2.size)))
        have hown := own_below HK.out.2.1 hb2 (Nat.le_refl _)
        rw [dgL_len] at hown
        have hsz := K2.out.2.size
        have hszC := K2.out.1.lt
        clear hb2
        go_wp2_with (first
          | (go_at_call 65; refine (ones65 _ _ (by omega)).mono ?_; rintro e w' ⟨rfl, rfl⟩; rw [HON.out])
          | (at_builtin; refine wpList_append_own _ rfl _ _ 29 rfl (w.heap.size + 1) 2 t0 (.int .i64 0) 1 8 Try.underlying29 HI.out.1 HI.out.2.1 HI.out.2.2.1 HI.out.2.2.2 rfl (by decide) _ _ _ rfl (hown.alloc _) ⟨w2.heap.size, 0, none⟩ 1 1 [.int .i64 (cnt p N : Nat)] rfl rfl ?c1 ?c2 ?c3 ?c4 ?c5 ?_))
        case c1 => exact one_new _ _ _
        case c2 => intro u hu; simp at hu; subst hu; rfl
        case c3 => unfold maxLen; omega
        case c4 => omega
        case c5 => simp; omega
        intro v' w3 hown' hgrow _
        have K3 := hidd (show RelDg bs c N (ccells (N : Int) k bs).toArray w (j + 1) v' w3 from ⟨K2.out.1.below (grown_step hown hgrow (by omega)) (by omega), by rw [← HH.out, ← HP.out, icells_app, List.length_append, dgL_len]; exact hown', K2.out.2.trans ((grown_step hown hgrow (by omega)).mono (by omega))⟩)
        clear hown' hgrow hown
        go_wp2
        go_roundw
        case rel => exact ⟨j + 1, by omega, by go_num, K3.out⟩
        case measure => simp [intOf]; omega
      · have hje : j = N := by omega
        subst hje
        go_wp2_with fail
        go_ret2
        exact lout_own rfl HR.2.1 (by omega) HR.2.2
  · have hgg := hg.symm
    obtain ⟨e1, e2⟩ := dg_bad hgg h0
    rw [e1, e2]
    have HG := hidd hgg
    have hq : (g != 0) = true := by rw [bne_iff_ne]; exact h0
    clear hg hgg h0 e1 e2
    go_enter Try.func31, Try.ntmps31
    go_wp2_with (refine wpList_load_row rfl 26 (.tmp 2) rfl w.heap.size rfl 26 _ (0,0) _ (Blk.new _ _ _ _ rfl) Try.underlying26 rfl HS.out ?_)
    refine (given56 n k bs hb c [] none 0 _ (.inl rfl) (by simp)).mono ?_
    rintro e w1 ⟨rfl, hb1⟩
    rw [HG.out]
    have G := hidd (((Below.refl _ _).alloc (Nat.le_refl _) _).trans (hb1.mono (B' := w.heap.size) (by simp)))
    clear hb1
    go_wp2
    go_ret2
    exact lout_nil rfl G.out
end Go.Proofs.Ytjdniepheghpkaa

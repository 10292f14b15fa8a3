/- NamedColouring: the program's loop. -/
import Derived.Test.YtoiamgmlehmomaaNci
namespace Go.Proofs.Ytoiamgmlehmomaa
set_option linter.unusedVariables false
set_option linter.unusedSimpArgs false
open Go Go.RowKit Go.Maps Go.ChangeMaps
def NcR (w : World) (s : ByteArray) (b r n : Nat) (D : DataW Unit) (wr : World) : Prop :=
  ∃ (left : Lit → Bool) (cnt : Nat), wr.ranges Try.prog 24 (plainElem Try.prog 9) b r n D left cnt ∧ Blk wr w.heap.size (ccells 0 0 zbl).toArray 24 ∧ Below w.heap.size w wr ∧ (∀ kl, left kl = true → Maps.has D kl = true) ∧ ∀ i, i < 5 → left (pcL i) = false → pcT i ≠ s
set_option maxRecDepth 100000 in
set_option maxHeartbeats 4000000 in
theorem impl7 (s : ByteArray) (w : World) : Calls Try.prog 7 #[.string s] w fun e w' => e = .returned (ncOut s) ∧ Below w.heap.size w w' := by
  have Hz := zero26
  have HZ := hidd (size_c26 0 0 zbl_bys)
  go_enter Try.func7, Try.ntmps7
  go_wp2_with fail
  refine (names16 _).mono ?_
  rintro e w1 ⟨b, rfl, hb, hb1, n, D, hown, hn, hD1, hD2⟩
  have g1 : Blk w1 w.heap.size (ccells 0 0 zbl).toArray 24 := (Blk.new _ _ _ _ rfl).below hb1 (by simp)
  have c1 : Below w.heap.size w w1 := ((Below.refl _ _).alloc (Nat.le_refl _) _).trans (hb1.mono (by simp))
  have hb' : w.heap.size < b := by simp at hb; omega
  have H1 := hidd (And.intro g1 (And.intro c1 (And.intro hb' (And.intro hown.lt (And.intro hD1 hD2)))))
  clear g1 c1 hb hb' hb1 hD1 hD2
  go_wp2_with (first
    | (at_range; refine wpList_range_own _ rfl _ 42 rfl 24 9 law24 Try.underlying42 _ b n _ rfl hown ?_; intro w0 hrg0 hg0 hs0)
    | go_in)
  go_frame
  go_loopw [4] (fun _ wr => NcR w s b w1.heap.size n D wr) (fun _ wr => wr.rangeLeft b w1.heap.size)
  case atStart =>
    refine ⟨_, _, hrg0, ?_, ?_, fun kl h => h, fun i hi h => ?_⟩
    · unfold Blk; rw [hg0.block _ H1.out.1.lt (by simp)]; exact H1.out.1
    · exact H1.out.2.1.trans (grown_below (r := w1.heap.size) (hg0.but _) H1.out.2.1.size H1.out.2.1.size)
    · rw [H1.out.2.2.2.2.2 i hi trivial] at h; cases h
  case round =>
    obtain ⟨left, cnt, hrg, hZ, hbel, hl, hno⟩ := hrel
    have HR := hidd (And.intro hZ (And.intro hbel (And.intro hl hno)))
    clear hZ hbel hl hno
    go_wp2_with (first
      | (at_next; refine wpList_next_ranges _ rfl (.tmp 7) rfl 24 law24 (plainElem Try.prog 9) Value.agg Value.string (fun key kl h => key24_inv h) (fun v y h => by obtain ⟨s, rfl, _⟩ := plainElem_str_inv h; exact ⟨s, rfl⟩) b w1.heap.size n _ _ _ rfl hrg ?_ ?_)
      | go_in)
    · intro _ hl0
      have HE := hidd (ncOut_none (s := s) (fun i hi => HR.out.2.2.2 i hi (hl0 _)))
      have G := hidd (And.intro HR.out.1 (And.intro (HR.out.1.rowSame (ccells 0 0 zbl).toArray) (below_setRow HR.out.2.1 (g := w.heap.size) (Nat.le_refl _) (ccells 0 0 zbl).toArray)))
      clear HR hl0
      have HO := hidd (ccells_one 0 0 zbl)
      go_wp2_with (first
        | (refine wpList_zero26 rfl rfl ?_)
        | (refine wpList_store_row rfl 24 (.tmp 2) (.tmp 17) rfl w.heap.size _ rfl rfl 24 _ G.out.1 HZ.out rfl HO.out ?_)
        | go_in)
      exact ret_col (u := 3) rfl zbl_bys rfl G.out.2.1 rfl (v := ncOut s) HE.out ⟨rfl, G.out.2.2⟩
    · intro x c kl yd yp w2 cnt2 hk hlk hR hat hrg2 hlt hg2 hs2 hen
      obtain ⟨i, hi, rfl, hz⟩ := H1.out.2.2.2.2.1 kl (HR.out.2.2.1 kl hlk)
      obtain ⟨c', ec, ey⟩ := plainElem_str_inv hR
      injection ey with ey1 ey2
      subst ey1
      injection ec with ec
      subst ec
      have hc : c = pcT i := by
        have h1 := hat (.agg [])
        rw [hz] at h1
        injection h1 with h1
        injection h1 with h1
        have h2 : (pcT i).data = c.data := Array.toList_inj.1 h1
        cases c
        cases hp : pcT i
        rw [hp] at h2
        simp at h2
        rw [h2]
      subst hc
      have hx : Value.agg x = pcV i := law24.inj hk (pcL_key i)
      unfold pcV at hx
      injection hx with hx
      have HX := hidd hx
      have HXZ := hidd (show (Try.prog.info? 24).map (·.size) = some x.size by rw [hx]; exact size_c26 _ _ (pcB_bys i))
      have HXO := hidd (show (ccells 0 0 zbl).toArray.size = x.size by rw [hx]; exact size_cc 0 0 _ _ zbl_bys (pcB_bys i))
      have HX1 := hidd (show x.all (·.oneCell') = true by rw [hx]; exact ccells_one _ _ _)
      have HS2 := hidd hs2
      clear hs2
      have HAT := hidd hat
      have HZZ := hidd hz
      have hwl : w.heap.size < w1.heap.size := H1.out.1.lt
      have z2 : Blk w2 w.heap.size (ccells 0 0 zbl).toArray 24 := by
        unfold Blk; rw [hg2.block _ HR.out.1.lt (by simp; omega)]; exact HR.out.1
      have b2 : Below w.heap.size w w2 := HR.out.2.1.trans (grown_below hg2 (by omega) HR.out.2.1.size)
      have B3 : Below w2.heap.size w2 ((w2.alloc (.cells (ccells 0 0 zbl).toArray 24)).setRow w2.heap.size x) := below_setRow ((Below.refl _ _).alloc (Nat.le_refl _) _) (Nat.le_refl _) x
      have G3 := hidd (And.intro (hrg2.kept (below_grown B3) (by simp) (by simp)) (And.intro (z2.below B3 z2.lt) (And.intro (b2.trans (B3.mono b2.size)) (And.intro ((Blk.new w2 (ccells 0 0 zbl).toArray 24 _ rfl).rowSame x) z2.lt))))
      have G4 := hidd (And.intro (G3.out.2.1.rowSame x) (below_setRow G3.out.2.2.1 (g := w.heap.size) (Nat.le_refl _) x))
      clear hx hk hat hz hR z2 b2 B3 hwl
      go_wp2_with (first
        | (refine wpList_store_row rfl 24 (.tmp 4) (.tmp 11) rfl w2.heap.size _ rfl rfl 24 _ (Blk.new _ _ _ _ rfl) HXZ.out HXO.out HX1.out ?_)
        | (refine wpList_load_row rfl 24 (.tmp 4) rfl w2.heap.size rfl 24 _ (0,0) _ G3.out.2.2.2.1 Try.underlying24 rfl HXZ.out ?_)
        | (refine wpList_store_row rfl 24 (.tmp 2) (.tmp 16) rfl w.heap.size _ rfl rfl 24 _ G3.out.2.1 HXZ.out HXO.out HX1.out ?_)
        | go_in)
      · rename_i hq
        have hs : s = pcT i := by
          have h1 : (pcT i).toList = s.toList := by simpa using hq
          rw [ByteArray.toList_eq, ByteArray.toList_eq] at h1
          have h2 := Array.toList_inj.1 h1
          cases s
          cases hp : pcT i
          rw [hp] at h2
          simp at h2
          rw [h2]
        have e := ncOut_at i hi
        rw [← hs] at e
        unfold pcV at e
        have G5 : Blk (((w2.alloc (.cells (ccells 0 0 zbl).toArray 24)).setRow w2.heap.size x).setRow w.heap.size x) w.heap.size (ccells (pcN i : Int) (pcK i) (pcB i)).toArray 24 := by rw [← HX.out]; exact G4.out.1
        exact ret_col (u := 3) rfl (pcB_bys i) rfl G5 rfl (v := ncOut s) e ⟨rfl, G4.out.2⟩
      · rename_i hq
        refine ⟨⟨_, cnt2, G3.out.1, G3.out.2.1, G3.out.2.2.1, fun kl h => ?_, fun j hj h => ?_⟩, ?_⟩
        · rw [Bool.and_eq_true] at h
          exact HR.out.2.2.1 kl h.1
        · by_cases e : pcL j = pcL i
          · have := pcL_inj hj hi e
            subst this
            rintro rfl
            simp at hq
          · refine HR.out.2.2.2 j hj ?_
            have hk : (pcL j).sameKey (pcL i) = false := by
              cases hs : (pcL j).sameKey (pcL i)
              · rfl
              · exact absurd (WideAt.sameKey_eq hs) e
            simpa [hk] using h
        · rw [G3.out.1.left_eq, hrg.left_eq]; exact hlt
end Go.Proofs.Ytoiamgmlehmomaa

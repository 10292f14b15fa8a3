/- l05Count: the extensions that go on, counted by degree. -/
import Derived.Test.YtckffliiidgilaaDoorCxm
import Derived.Test.YtckffliiidgilaaDoorClq
import Derived.Test.YtckffliiidgilaaDoorBac
import Derived.Deep.CutRange
import Derived.Deep.AppendLies
import Derived.Maps.RangeWalk
import Derived.Test.YtckffliiidgilaaDoorFrs
namespace Go.Proofs.YtckffliiidgilaaDoor
set_option linter.unusedVariables false
set_option linter.unusedSimpArgs false
open Go Go.RowKit Go.Shelf
theorem BgL.put {w : World} {g K c : Nat} {s : Nat → Nat} (h : BgL w (some ⟨g, 0, none⟩) (dgL K s)) (hc : c < K) (v : Nat) : BgL (w.setCell ⟨g, c, none⟩ (.int .i64 (v : Int))) (some ⟨g, 0, none⟩) (dgL K (setF s c v)) := by
  obtain ⟨g', C, h1, h2, h3, h4⟩ := h
  cases h1
  rw [dgL_len] at h3 h4
  refine ⟨g, C.setIfInBounds c (.int .i64 (v : Int)), rfl, h2.same c _, by rw [dgL_len]; simpa using h3, fun j hj => ?_⟩
  rw [dgL_len] at hj
  rw [Array.getElem?_setIfInBounds, dgL_get hj]
  by_cases e : c = j
  · subst e
    rw [if_pos rfl, if_pos (by omega), setF_same]
  · rw [if_neg e, setF_ne _ _ (fun x => e x.symm), h4 j hj, dgL_get hj]
theorem BgL.fro {w : World} {g : Nat} {zs : List Int} (h : BgL w (some ⟨g, 0, none⟩) zs) (j : Nat) : w.frozen? ⟨g, j, none⟩ = false := by
  obtain ⟨g', C, h1, h2, _⟩ := h
  cases h1
  exact h2.fro j
theorem BgL.lt {w : World} {g : Nat} {zs : List Int} (h : BgL w (some ⟨g, 0, none⟩) zs) : g < w.heap.size := by
  obtain ⟨g', C, h1, h2, _⟩ := h
  cases h1
  exact h2.lt
theorem BgL.far {w w' : World} {g : Nat} {zs : List Int} {row : Option Nat} (h : BgL w (some ⟨g, 0, none⟩) zs) (hg : w.grownBy w' row) (hne : some g ≠ row) : BgL w' (some ⟨g, 0, none⟩) zs := by
  obtain ⟨g', C, h1, h2, h3⟩ := h
  cases h1
  exact ⟨g, C, rfl, (hg.block g h2.lt hne).trans h2, h3⟩
theorem Blk.far {w w' : World} {b : Nat} {C : Array Value} {t : TypeId} {row : Option Nat} (h : Blk w b C t) (hg : w.grownBy w' row) (hne : some b ≠ row) : Blk w' b C t := (hg.block b h.lt hne).trans h
theorem grown_set {w w' : World} {row : Option Nat} (hg : w.grownBy w' row) {b : Nat} (hb : w.heap.size ≤ b ∨ row = some b) (o : Nat) (v : Value) : w.grownBy (w'.setCell ⟨b, o, none⟩ v) row :=
  ⟨hg.os, hg.tape, hg.output, by have := hg.size; simp [World.setCell]; omega, fun k hk hne => (heap_setCell_other w' ⟨b, o, none⟩ k v (by
    show k ≠ b
    rcases hb with h | h
    · omega
    · intro e; subst e; exact hne h.symm)).trans (hg.block k hk hne)⟩
theorem dg_cellL {w : World} {b M i : Nat} {f : Nat → Nat} (h : Blk w b (icells (dgL M f)).toArray 2) (hi : i < M) : w.cell? ⟨b, i, none⟩ = some (.int .i64 (f i : Int)) := by
  refine h.cell ?_
  have h1 := icells_get (zs := dgL M f) (j := i) (by rw [dgL_len]; exact hi)
  rw [dgL_get hi] at h1
  simpa using h1
/-- The memory that a call of the search is handed. -/
structure Lc (bs : List Nat) (N K : Nat) (zs : List Int) (bl off gs gc : Nat) (s f : Nat → Nat) (w : World) : Prop where
  zc : ∀ j, j < K → w.cell? ⟨bl, off + j, none⟩ = some (.int .i64 (zs.getD j 0))
  st : BgL w (some ⟨gs, 0, none⟩) (dgL K s)
  ct : Blk w gc (icells (dgL (N + 1) f)).toArray 2
  ns : gs ≠ gc
  nz : bl ≠ gc
set_option maxRecDepth 100000 in
set_option maxHeartbeats 4000000 in
theorem lcn_leaf (N K : Nat) (bs : List Nat) (hb : Bys bs) (zs : List Int) (bl off cap : Nat) (n1 : 1 ≤ N) (hN12 : N ≤ 12) (hK1 : 1 ≤ K) (s f : Nat → Nat) (gs cs gc : Nat) (w : World)
    (hL : Lc bs N K zs bl off gs gc s f w) (hs : s 0 < 2 ^ N) (hf : ∀ d, f d + 1 ≤ 4611686018427387904) :
    Calls Tryd.prog 82 #[.agg (ccells (N : Int) (K : Int) bs).toArray, .slice (some ⟨bl, off, none⟩) K cap, .int .i64 (N : Int), .slice (some ⟨gs, 0, none⟩) K cs, .slice (some ⟨gc, 0, none⟩) (N + 1) (N + 1)] w fun e w' => e = .returned (.tuple #[]) ∧
      Blk w' gc (icells (dgL (N + 1) (fun d => f d + fnd d (s 0)))).toArray 2 ∧ w.grownBy w' (some gc) := by
  have hs17 : s 0 < 2 ^ 17 := Nat.lt_of_lt_of_le hs (Nat.pow_le_pow_right (by decide) (by omega))
  have HO := hidd (fun W => ones65 (s 0) W (by omega))
  have hon : ones (s 0) ≤ N := by rw [ones_cnt hs]; exact cnt_le _ _
  have e0 := hL.st.cell (j := 0) (x := (s 0 : Int)) (by rw [dgL_len]; omega) (by rw [dgL_get (by omega)])
  have e1 := dg_cellL hL.ct (show ones (s 0) < N + 1 by omega)
  have e2 := hL.ct.fro (ones (s 0))
  have hfo := hf (ones (s 0))
  have HG := hidd (show Blk ((w.alloc (.cells (ccells (N : Int) (K : Int) bs).toArray 28)).setCell ⟨gc, ones (s 0), none⟩ (.int .i64 ((f (ones (s 0)) : Int) + 1))) gc (icells (dgL (N + 1) (fun d => f d + fnd d (s 0)))).toArray 2 ∧ w.grownBy ((w.alloc (.cells (ccells (N : Int) (K : Int) bs).toArray 28)).setCell ⟨gc, ones (s 0), none⟩ (.int .i64 ((f (ones (s 0)) : Int) + 1))) (some gc) from by
    have h1 := (hL.ct.alloc (.cells (ccells (N : Int) (K : Int) bs).toArray 28)).same (ones (s 0)) (.int .i64 ((f (ones (s 0)) + 1 : Nat) : Int))
    rw [icells_set, dgL_set] at h1
    rw [show ((f (ones (s 0)) : Int) + 1) = ((f (ones (s 0)) + 1 : Nat) : Int) by omega]
    refine ⟨?_, grown_set (below_grown ((Below.refl w.heap.size w).alloc (Nat.le_refl _) _) _) (.inr rfl) _ _⟩
    rw [show (fun d => f d + fnd d (s 0)) = (fun p => if p = ones (s 0) then f (ones (s 0)) + 1 else f p) from by
      funext d
      unfold fnd
      by_cases h : d = ones (s 0)
      · rw [if_pos h, if_pos h.symm, h]
      · rw [if_neg h, if_neg (fun x => h x.symm)]; rfl]
    exact h1)
  have a0 := (below_grown ((Below.refl w.heap.size w).alloc (Nat.le_refl _) (.cells (ccells (N : Int) (K : Int) bs).toArray 28)) none).block
  have c0 := (Blk.new w (ccells (N : Int) (K : Int) bs).toArray 28 _ rfl).cell (j := 0) (show _ = some (Value.int .i64 (N : Int)) from rfl)
  have e0' : (w.alloc (.cells (ccells (N : Int) (K : Int) bs).toArray 28)).cell? ⟨gs, 0, none⟩ = some (.int .i64 (s 0 : Int)) := by rw [World.cell?_of_block (a0 gs hL.st.lt (by simp))]; exact e0
  have e1' : (w.alloc (.cells (ccells (N : Int) (K : Int) bs).toArray 28)).cell? ⟨gc, ones (s 0), none⟩ = some (.int .i64 (f (ones (s 0)) : Int)) := by rw [World.cell?_of_block (a0 gc hL.ct.lt (by simp))]; exact e1
  have e2' : (w.alloc (.cells (ccells (N : Int) (K : Int) bs).toArray 28)).frozen? ⟨gc, ones (s 0), none⟩ = false := by rw [World.frozen?_of_block (a0 gc hL.ct.lt (by simp))]; exact e2
  obtain ⟨o, ho⟩ : ∃ o, o = ones (s 0) := ⟨_, rfl⟩
  obtain ⟨x, hx⟩ : ∃ x, x = s 0 := ⟨_, rfl⟩
  rw [← ho, ← hx] at HO
  rw [← ho] at HG e1' e2' hfo hon
  rw [← hx] at e0'
  obtain ⟨y, hy⟩ : ∃ y, y = f o := ⟨_, rfl⟩
  rw [← hy] at HG e1' hfo
  have hsum : IntKind.i64.wrap ((y : Int) + 1) = (y : Int) + 1 := IntWalk.i64_in _ (by omega)
  have hsum2 : wrap64 ((y : Int) + 1) = (y : Int) + 1 := IntWalk.wrap64_in _ ⟨by omega, by omega⟩
  have hnn : ((N : Int) == (N : Int)) = true := by simp
  obtain ⟨F2, hF2⟩ : ∃ F2, F2 = dgL (N + 1) (fun d => f d + fnd d (s 0)) := ⟨_, rfl⟩
  rw [← hF2] at HG ⊢
  have hoD : o < N + 1 := by omega
  clear hL e0 e1 e2 a0 ho hx hy hF2 hf hs hs17
  go_enter Tryd.func82, Tryd.ntmps82
  go_wp2_with (go_at_call 94; refine (HO.out _).mono ?_; rintro e w' ⟨rfl, rfl⟩)
  try simp only [Exit.inBlock, Exit.then]
  refine bodyPost_ret (results_none rfl _ _ _) rfl ?_
  exact ⟨rfl, HG.out.1, HG.out.2⟩
theorem Lc.far {bs : List Nat} {N K : Nat} {zs : List Int} {bl off gs gc : Nat} {s f g : Nat → Nat} {w w' : World} (h : Lc bs N K zs bl off gs gc s f w) (hK : 1 ≤ K) (hg : w.grownBy w' (some gc)) (hc : Blk w' gc (icells (dgL (N + 1) g)).toArray 2) : Lc bs N K zs bl off gs gc s g w' :=
  ⟨fun j hj => by rw [hg.cell_far ⟨bl, off + j, none⟩ (World.block_lt_of_cell? w _ (h.zc j hj)) (by show some bl ≠ some gc; intro e; cases e; exact h.nz rfl)]; exact h.zc j hj,
    h.st.far hg (by intro e; cases e; exact h.ns rfl), hc, h.ns, h.nz⟩
/-- What the counts are when the first c colours have been tried. -/
def pfC (bs : List Nat) (N K : Nat) (zs : List Int) (r : Nat) (s f : Nat → Nat) (c d : Nat) : Nat := f d + sm (fun c => if okx bs N zs c (N - (r + 1)) (s c) = true then dcn (okx bs N zs) K N (fnd d) r (setF s c (s c ||| 2 ^ (N - (r + 1)))) else 0) c
theorem pfC_0 (bs : List Nat) (N K : Nat) (zs : List Int) (r : Nat) (s f : Nat → Nat) : f = pfC bs N K zs r s f 0 := by funext d; simp [pfC, sm]
theorem pfC_K (bs : List Nat) (N K : Nat) (zs : List Int) (r : Nat) (s f : Nat → Nat) : pfC bs N K zs r s f K = fun d => f d + dcn (okx bs N zs) K N (fnd d) (r + 1) s := rfl
theorem pfC_no {bs : List Nat} {N K : Nat} {zs : List Int} {r c : Nat} {s f : Nat → Nat} (h : okx bs N zs c (N - (r + 1)) (s c) = false) : pfC bs N K zs r s f (c + 1) = pfC bs N K zs r s f c := by
  funext d; unfold pfC; rw [sm, if_neg (by rw [h]; simp), Nat.add_zero]
theorem pfC_yes {bs : List Nat} {N K : Nat} {zs : List Int} {r c : Nat} {s f : Nat → Nat} (h : okx bs N zs c (N - (r + 1)) (s c) = true) : pfC bs N K zs r s f (c + 1) = fun d => pfC bs N K zs r s f c d + dcn (okx bs N zs) K N (fnd d) r (setF s c (s c ||| 2 ^ (N - (r + 1)))) := by
  funext d; unfold pfC; rw [sm, if_pos h]; omega
theorem pfC_le {bs : List Nat} {N K : Nat} {zs : List Int} {r c : Nat} {s f : Nat → Nat} (hc : c ≤ K) (d : Nat) : pfC bs N K zs r s f c d ≤ pfC bs N K zs r s f K d := by
  unfold pfC
  have := sm_mono (f := fun c => if okx bs N zs c (N - (r + 1)) (s c) = true then dcn (okx bs N zs) K N (fnd d) r (setF s c (s c ||| 2 ^ (N - (r + 1)))) else 0) K hc
  omega
def LcPost (bs : List Nat) (N K : Nat) (zs : List Int) (gc r : Nat) (s f : Nat → Nat) (w : World) (e : Ending) (w' : World) : Prop :=
  e = .returned (.tuple #[]) ∧ Blk w' gc (icells (dgL (N + 1) (fun d => f d + dcn (okx bs N zs) K N (fnd d) r s))).toArray 2 ∧ w.grownBy w' (some gc)
def LcCall (bs : List Nat) (N K : Nat) (zs : List Int) (bl off cap gc r : Nat) : Prop :=
  ∀ (s f : Nat → Nat) (gs cs : Nat) (w : World), Lc bs N K zs bl off gs gc s f w → (∀ c, c < K → s c < 2 ^ (N - r)) → (∀ d, f d + dcn (okx bs N zs) K N (fnd d) r s + 1 ≤ 4611686018427387904) →
    Calls Tryd.prog 82 #[.agg (ccells (N : Int) (K : Int) bs).toArray, .slice (some ⟨bl, off, none⟩) K cap, .int .i64 ((N - r : Nat) : Int), .slice (some ⟨gs, 0, none⟩) K cs, .slice (some ⟨gc, 0, none⟩) (N + 1) (N + 1)] w (LcPost bs N K zs gc r s f w)
set_option maxRecDepth 100000 in
set_option maxHeartbeats 8000000 in
theorem lcn_step (N K : Nat) (bs : List Nat) (hb : Bys bs) (zs : List Int) (bl off cap gc : Nat) (n1 : 1 ≤ N) (hN12 : N ≤ 12) (hK1 : 1 ≤ K) (hK : K ≤ 4) (h2 : no1 zs K) (hsz : szP zs K = true) (r : Nat) (hr : r + 1 ≤ N) (IH : LcCall bs N K zs bl off cap gc r) : LcCall bs N K zs bl off cap gc (r + 1) := by
  intro s f gs cs w hL hs hf
  have HIH := hidd IH
  have HS := hidd (size_c26 (N : Int) (K : Int) hb)
  have HC0 := hidd (show (ccells (N : Int) (K : Int) bs).toArray[0]? = some (.int .i64 (N : Int)) from rfl)
  have HC1 := hidd (show (ccells (N : Int) (K : Int) bs).toArray[1]? = some (.int .i64 (K : Int)) from rfl)
  have HLE := hidd (fun c d (hc : c ≤ K) => (show pfC bs N K zs r s f c d + 1 ≤ 4611686018427387904 by
    have h1 : pfC bs N K zs r s f c d ≤ f d + dcn (okx bs N zs) K N (fnd d) (r + 1) s := by
      have h4 := pfC_le (bs := bs) (N := N) (K := K) (zs := zs) (r := r) (s := s) (f := f) hc d
      rw [pfC_K] at h4
      exact h4
    exact Nat.le_trans (Nat.succ_le_succ h1) (hf d)))
  have HF0 := pfC_0 bs N K zs r s f
  have hgcl := hL.ct.lt
  have HG := hidd (show Blk (w.alloc (.cells (ccells (N : Int) (K : Int) bs).toArray 28)) w.heap.size (ccells (N : Int) (K : Int) bs).toArray 28 ∧ Lc bs N K zs bl off gs gc s (pfC bs N K zs r s f 0) (w.alloc (.cells (ccells (N : Int) (K : Int) bs).toArray 28)) ∧ w.grownBy (w.alloc (.cells (ccells (N : Int) (K : Int) bs).toArray 28)) (some gc) from by
    rw [← HF0]
    have hg := below_grown ((Below.refl w.heap.size w).alloc (Nat.le_refl _) (.cells (ccells (N : Int) (K : Int) bs).toArray 28)) (some gc)
    exact ⟨Blk.new _ _ _ _ rfl, hL.far hK1 hg (hL.ct.alloc _), hg⟩)
  obtain ⟨n, hn⟩ : ∃ n, n = N - (r + 1) := ⟨_, rfl⟩
  have hnN : n < N := by omega
  have hr1 : N - r = n + 1 := by omega
  have hnn : ((n : Int) == (N : Int)) = false := by rw [beq_eq_false_iff_ne]; omega
  rw [← hn] at hs ⊢
  obtain ⟨p, hp⟩ : ∃ p : Nat → Nat → Nat, p = pfC bs N K zs r s f := ⟨_, rfl⟩
  have HPN := hidd (fun c (h : okx bs N zs c n (s c) = false) => (show p (c + 1) = p c by rw [hp]; exact pfC_no (by rw [← hn]; exact h)))
  have HPY := hidd (fun c (h : okx bs N zs c n (s c) = true) => (show p (c + 1) = fun d => p c d + dcn (okx bs N zs) K N (fnd d) r (setF s c (s c ||| 2 ^ n)) by rw [hp, pfC_yes (by rw [← hn]; exact h), ← hn]))
  have HPK := hidd (show p K = fun d => f d + dcn (okx bs N zs) K N (fnd d) (r + 1) s by rw [hp]; exact pfC_K bs N K zs r s f)
  rw [← hp] at HLE HG
  have HSZ := hidd (fun c (hc : c < K) => inB_bd (szP_get hsz hc))
  have HN1 := hidd h2
  have HSS := hidd hs
  obtain ⟨W0, hW0⟩ : ∃ W0, W0 = w.alloc (.cells (ccells (N : Int) (K : Int) bs).toArray 28) := ⟨_, rfl⟩
  rw [← hW0] at HG
  have HGL := hidd hgcl
  have HN := hidd hn
  clear hL hs hf HF0 hp IH hsz h2 hgcl hn
  go_enter Tryd.func82, Tryd.ntmps82
  go_upto_region 1 with fail
  rw [← hW0]
  clear hW0
  have c0 := HG.out.1.cell HC0.out
  go_wp2_with fail
  clear c0
  go_loopw [10] (fun e wr => ∃ c : Nat, c ≤ K ∧ e = .int .i64 (c : Int) ∧ Hid (Blk wr w.heap.size (ccells (N : Int) (K : Int) bs).toArray 28 ∧ Lc bs N K zs bl off gs gc s (p c) wr ∧ w.grownBy wr (some gc))) (fun e _ => K - (intOf e).toNat)
  case atStart => exact ⟨0, Nat.zero_le _, rfl, HG.out⟩
  case round =>
  obtain ⟨c, hc, rfl, HK⟩ := hrel
  have c1 := HK.out.1.cell HC1.out
  by_cases hlt : c < K
  · have hz := HSZ.out c hlt
    have hz2 := HN1.out c hlt
    have hsc := HSS.out c hlt
    obtain ⟨m, hm⟩ : ∃ m : Nat, zs.getD c 0 = (m : Int) + 2 := ⟨(zs.getD c 0).toNat - 2, by omega⟩
    have hm17 : m ≤ 15 := by omega
    have hok : okx bs N zs c n (s c) = !hasK (rwN bs (c : Int) N) N m (s c &&& rwN bs (c : Int) N n) := by unfold okx; rw [hm]; congr 2
    have cz := HK.out.2.1.zc c hlt
    rw [hm] at cz
    have cs0 := HK.out.2.1.st.cell (j := c) (x := (s c : Int)) (by rw [dgL_len]; exact hlt) (by rw [dgL_get hlt])
    have HCZ := hidd (fun W (h : Below wr.heap.size wr W) => cell_below cz h)
    have HCS := hidd (fun W (h : Below wr.heap.size wr W) => cell_below cs0 h)
    have HAR := hidd (fun W => around63 (N : Int) (K : Int) bs hb (n : Int) (c : Int) W (by omega) (by omega) (by omega) (by omega))
    obtain ⟨rw', hrw⟩ : ∃ rw', rw' = rwN bs (c : Int) N n := ⟨_, rfl⟩
    rw [Int.toNat_natCast, show arK (nbB bs (n : Int) (c : Int)) N = rwN bs (c : Int) N n from rfl, ← hrw] at HAR
    rw [← hrw] at hok
    obtain ⟨sc, hsce⟩ : ∃ sc, sc = s c := ⟨_, rfl⟩
    rw [← hsce] at hok hsc HCS
    have hs17 : sc < 2 ^ 12 := Nat.lt_of_lt_of_le hsc (Nat.pow_le_pow_right (by decide) (by omega))
    clear hsc
    have hr17 : rw' < 2 ^ 17 := by rw [hrw]; unfold rwN; exact Nat.lt_of_lt_of_le (arK_lt _ _) (Nat.pow_le_pow_right (by decide) (by omega))
    have hand := i64_and_nat sc rw' (by omega) (by omega)
    have hA17 : sc &&& rw' < 2 ^ 17 := Nat.lt_of_le_of_lt Nat.and_le_left (by omega)
    obtain ⟨A, hA⟩ : ∃ A, A = sc &&& rw' := ⟨_, rfl⟩
    rw [← hA] at hand hA17 hok
    have HCQ := hidd (fun W => clq69 N (K : Int) (c : Int) bs hb n1 (by omega) m (by omega) A hA17 W)
    obtain ⟨x, hx⟩ : ∃ x, x = hasK (rwN bs (c : Int) N) N m A := ⟨_, rfl⟩
    rw [← hx] at HCQ hok
    have hlt2 : decide ((m : Int) + 2 < 2) = false := by simp; omega
    have hmw : IntKind.i64.wrap (m : Int) = (m : Int) := IntWalk.i64_in _ (by omega)
    have HOK := hidd hok
    have HSE := hidd hsce
    clear hsce
    clear cz cs0 hm hz hz2 hrw hA hx hok
    go_wp2_with fail
    refine wp_region_quiet_at (fun w' => Below wr.heap.size wr w') rfl (by kernel_rfl) ((Below.refl _ _).drew) ?_
    refine qs rfl (fun KQ hKQ => ?_)
    apply Exists.intro
    refine ⟨fun w' hw' => ?_, ?_⟩
    · go_simp; exact rfl
    go_simp
    refine hKQ _ ?_
    clear hKQ KQ
    refine qs rfl (fun KQ hKQ => ?_)
    apply Exists.intro
    refine ⟨fun w' hw' => ?_, ?_⟩
    · go_simp; exact rfl
    go_simp
    refine hKQ _ ?_
    clear hKQ KQ
    refine qs rfl (fun KQ hKQ => ?_)
    apply Exists.intro
    refine ⟨fun w' hw' => ?_, ?_⟩
    · go_simp; exact rfl
    go_simp
    refine hKQ _ ?_
    clear hKQ KQ
    refine qs rfl (fun KQ hKQ => ?_)
    apply Exists.intro
    refine ⟨fun w' hw' => ?_, ?_⟩
    · have e1 := HCZ.out w' hw'; go_simp; exact rfl
    go_simp
    refine hKQ _ ?_
    clear hKQ KQ
    refine qs rfl (fun KQ hKQ => ?_)
    apply Exists.intro
    refine ⟨fun w' hw' => ?_, ?_⟩
    · go_simp; exact rfl
    go_simp
    refine hKQ _ ?_
    clear hKQ KQ
    refine qs rfl (fun KQ hKQ => ?_)
    apply Exists.intro
    refine ⟨fun w' hw' => ?_, ?_⟩
    · go_simp; exact rfl
    go_simp
    refine hKQ _ ?_
    clear hKQ KQ
    go_big_quiet_want
    rename_i KQ hKQ
    apply Exists.intro
    refine ⟨fun w' hw' => ?_, ?_⟩
    · exact quietRow 28 (.tmp 5) rfl w.heap.size rfl 28 _ _ (HK.out.1.below hw' HK.out.1.lt) Tryd.underlying28 rfl HS.out
    go_simp
    refine hKQ _ ?_
    clear hKQ KQ
    go_big_quiet_want
    rename_i KQ hKQ
    apply Exists.intro
    refine ⟨fun w' hw' => ?_, ?_⟩
    · go_simp; exact rfl
    go_simp
    refine hKQ _ ?_
    clear hKQ KQ
    go_big_quiet_want
    rename_i KQ hKQ
    apply Exists.intro
    refine ⟨fun w' hw' => ?_, ?_⟩
    · go_simp; exact rfl
    go_simp
    refine hKQ _ ?_
    clear hKQ KQ
    go_big_quiet_want
    rename_i KQ hKQ
    apply Exists.intro
    refine ⟨fun w' hw' => ?_, ?_⟩
    · go_simp; exact rfl
    go_simp
    refine hKQ _ ?_
    clear hKQ KQ
    go_big_quiet_want
    rename_i KQ hKQ
    apply Exists.intro
    refine ⟨fun w' hw' => ?_, ?_⟩
    · go_simp; exact rfl
    go_simp
    refine hKQ _ ?_
    clear hKQ KQ
    go_big_quiet_want
    rename_i KQ hKQ
    apply Exists.intro
    refine ⟨fun w' hw' => ?_, ?_⟩
    · have e1 := HCS.out w' hw'; go_simp; exact rfl
    go_simp
    refine hKQ _ ?_
    clear hKQ KQ
    go_big_quiet_want
    rename_i KQ hKQ
    apply Exists.intro
    refine ⟨fun w' hw' => ?_, ?_⟩
    · exact quietRow 28 (.tmp 5) rfl w.heap.size rfl 28 _ _ (HK.out.1.below hw' HK.out.1.lt) Tryd.underlying28 rfl HS.out
    go_simp
    refine hKQ _ ?_
    clear hKQ KQ
    go_big_quiet_want
    rename_i KQ hKQ
    apply Exists.intro
    refine ⟨fun w' hw' => ?_, ?_⟩
    · go_simp; exact rfl
    go_simp
    refine hKQ _ ?_
    clear hKQ KQ
    go_big_quiet_want
    rename_i KQ hKQ
    apply Exists.intro
    refine ⟨fun w' hw' => ?_, ?_⟩
    · go_simp; exact rfl
    go_simp
    refine hKQ _ ?_
    clear hKQ KQ
    go_big_quiet_want
    rename_i KQ hKQ
    apply Exists.intro
    refine ⟨fun w' hw' => ?_, ?_⟩
    · go_simp; exact (HAR.out _).mono fun _ _ h => ⟨h.1, hw'.trans (h.2.mono hw'.size)⟩
    go_simp
    refine hKQ _ ?_
    clear hKQ KQ
    go_big_quiet_want
    rename_i KQ hKQ
    apply Exists.intro
    refine ⟨fun w' hw' => ?_, ?_⟩
    · go_simp; exact rfl
    go_simp
    refine hKQ _ ?_
    clear hKQ KQ
    go_big_quiet_want
    rename_i KQ hKQ
    apply Exists.intro
    refine ⟨fun w' hw' => ?_, ?_⟩
    · go_simp; exact rfl
    go_simp
    refine hKQ _ ?_
    clear hKQ KQ
    go_big_quiet_want
    rename_i KQ hKQ
    apply Exists.intro
    refine ⟨fun w' hw' => ?_, ?_⟩
    · go_simp; exact rfl
    go_simp
    refine hKQ _ ?_
    clear hKQ KQ
    go_big_quiet_want
    rename_i KQ hKQ
    apply Exists.intro
    refine ⟨fun w' hw' => ?_, ?_⟩
    · go_simp; exact rfl
    go_simp
    refine hKQ _ ?_
    clear hKQ KQ
    go_big_quiet_want
    rename_i KQ hKQ
    apply Exists.intro
    refine ⟨fun w' hw' => ?_, ?_⟩
    · have e1 := HCZ.out w' hw'; go_simp; exact rfl
    go_simp
    refine hKQ _ ?_
    clear hKQ KQ
    go_big_quiet_want
    rename_i KQ hKQ
    apply Exists.intro
    refine ⟨fun w' hw' => ?_, ?_⟩
    · go_simp; exact rfl
    go_simp
    refine hKQ _ ?_
    clear hKQ KQ
    go_big_quiet_want
    rename_i KQ hKQ
    apply Exists.intro
    refine ⟨fun w' hw' => ?_, ?_⟩
    · go_simp; exact (HCQ.out _).mono fun _ _ h => ⟨h.1, hw'.trans (h.2.mono hw'.size)⟩
    go_simp
    refine hKQ _ ?_
    clear hKQ KQ
    refine qs rfl (fun KQ hKQ => ?_)
    apply Exists.intro
    refine ⟨fun w' hw' => ?_, ?_⟩
    · go_simp; exact rfl
    go_simp
    refine hKQ _ ?_
    clear hKQ KQ
    refine wpQuiet_nil ?_
    intro w' hw'
    have HW := hidd (show Blk w' w.heap.size (ccells (N : Int) (K : Int) bs).toArray 28 ∧ Lc bs N K zs bl off gs gc s (p c) w' ∧ w.grownBy w' (some gc) from
      ⟨HK.out.1.below hw' HK.out.1.lt, HK.out.2.1.far hK1 (below_grown hw' _) (HK.out.2.1.ct.below hw' HK.out.2.1.ct.lt), HK.out.2.2.trans (below_grown hw' _)⟩)
    clear hw'
    cases x with
    | true =>
      have hpn := HPN.out c (by rw [← HSE.out]; exact HOK.out)
      have H3 := hidd (show Blk w' w.heap.size (ccells (N : Int) (K : Int) bs).toArray 28 ∧ Lc bs N K zs bl off gs gc s (p (c + 1)) w' ∧ w.grownBy w' (some gc) by rw [hpn]; exact HW.out)
      clear hpn
      go_wp2_with fail
      go_roundw
      case rel => exact ⟨c + 1, by omega, by go_num, H3.out⟩
      case measure => simp [intOf]; omega
    | false =>
      have HPC := hidd (HPY.out c (by rw [← HSE.out]; exact HOK.out))
      have HOW := hidd (own63 (dgL K s) (some ⟨gs, 0, none⟩) cs w' HW.out.2.1.st (by rw [dgL_len]; omega))
      rw [dgL_len] at HOW
      go_wp2_with fail
      refine HOW.out.mono ?_
      rintro e w5 ⟨a5, c5, rfl, ho5, hb5⟩
      obtain ⟨a6, c6, hv6, hO⟩ := own_list (zs := dgL K s) (by rw [dgL_len]; exact ho5)
      rw [dgL_len] at hv6
      cases hv6
      rcases hO with hO | ⟨g, C5, hgB, rfl, hC5, hl5, hc5⟩
      · have := dgL_len K s; rw [hO] at this; simp at this; omega
      have hgc := HGL.out
      have hww := HW.out.2.2.size
      have hB5 : BgL w5 (some ⟨g, 0, none⟩) (dgL K s) := ⟨g, C5, rfl, hC5, hl5, hc5⟩
      have cO := hB5.cell (j := c) (x := (sc : Int)) (by rw [dgL_len]; exact hlt) (by rw [dgL_get hlt, HSE.out])
      have fO := hB5.fro c
      obtain ⟨V, hV⟩ : ∃ V, V = sc ||| 2 ^ n := ⟨_, rfl⟩
      have HOR := hidd (show bits .or .i64 (sc : Int) (wrap64 (2 ^ n)) = (V : Int) by rw [hV]; exact or_bit sc n (by omega) (by omega))
      have hPV : ∀ d, p (c + 1) d = p c d + dcn (okx bs N zs) K N (fnd d) r (setF s c V) := fun d => by rw [HPC.out, hV, HSE.out]
      have HV := hidd hV
      clear hV
      have hB6 := hB5.put hlt V
      have hg5 : w.grownBy w5 (some gc) := HW.out.2.2.trans (below_grown hb5 _)
      have hg6 : w.grownBy (w5.setCell ⟨g, c, none⟩ (.int .i64 (V : Int))) (some gc) := grown_set hg5 (.inl (by omega)) c _
      have hL5 := HW.out.2.1.far hK1 (below_grown hb5 _) (HW.out.2.1.ct.below hb5 HW.out.2.1.ct.lt)
      have hc6 : Blk (w5.setCell ⟨g, c, none⟩ (.int .i64 (V : Int))) gc (icells (dgL (N + 1) (p c))).toArray 2 := hL5.ct.other _ _ (by show gc ≠ g; omega)
      have hz6 : ∀ j, j < K → (w5.setCell ⟨g, c, none⟩ (.int .i64 (V : Int))).cell? ⟨bl, off + j, none⟩ = some (.int .i64 (zs.getD j 0)) := fun j hj => by
        have h1 := HW.out.2.1.zc j hj
        have h2 := World.block_lt_of_cell? w' _ h1
        have h2' : bl < w'.heap.size := h2
        rw [World.cell?_of_block (a := ⟨bl, off + j, none⟩) (heap_setCell_other w5 ⟨g, c, none⟩ bl _ (by show bl ≠ g; omega))]
        exact hL5.zc j hj
      have hL6 : Lc bs N K zs bl off g gc (setF s c V) (p c) (w5.setCell ⟨g, c, none⟩ (.int .i64 (V : Int))) := ⟨hz6, hB6, hc6, by omega, HK.out.2.1.nz⟩
      have hCl := HIH.out (setF s c V) (p c) g c5 _ hL6 (fun c' hc' => by
        rw [hr1]
        have h22 : 2 ^ n < 2 ^ (n + 1) := Nat.pow_lt_pow_right (by omega) (by omega)
        by_cases e : c' = c
        · subst e
          rw [setF_same, HV.out]
          exact Nat.or_lt_two_pow (by rw [HSE.out]; exact Nat.lt_trans (HSS.out c' hc') h22) h22
        · rw [setF_ne _ _ e]; exact Nat.lt_trans (HSS.out c' hc') h22) (fun d => by
        have h1 := HLE.out (c + 1) d (by omega)
        rw [hPV] at h1
        exact h1)
      rw [hr1, show ((n + 1 : Nat) : Int) = (n : Int) + 1 by omega] at hCl
      have HCL := hidd hCl
      have hfin : (fun d => p c d + dcn (okx bs N zs) K N (fnd d) r (setF s c V)) = p (c + 1) := by funext d; exact (hPV d).symm
      have HFI := hidd hfin
      have H28 := hidd (show Blk (w5.setCell ⟨g, c, none⟩ (.int .i64 (V : Int))) w.heap.size (ccells (N : Int) (K : Int) bs).toArray 28 from (HW.out.1.below hb5 HW.out.1.lt).other _ _ (by show w.heap.size ≠ g; have := HW.out.1.lt; omega))
      have HG6 := hidd hg6
      have HB5 := hidd hb5
      have HGB := hidd hgB
      have HL6 := hidd hL6
      have hu : IntKind.u64.wrap (n : Int) = (n : Int) := by unfold IntKind.wrap; simp [IntKind.signed, IntKind.bits]; omega
      have hmn : min n 64 = n := by omega
      have hor := HOR.out
      have hnw : IntKind.i64.wrap ((n : Int) + 1) = (n : Int) + 1 := IntWalk.i64_in _ (by omega)
      have hnw2 : wrap64 ((n : Int) + 1) = (n : Int) + 1 := IntWalk.wrap64_in _ ⟨by omega, by omega⟩
      clear hgB hb5 hCl hfin hPV hL6 hg6 hB6 hc6 hz6 hL5 hg5 hB5 ho5 hC5 hl5 hc5
      clear hand hA17 hs17 hr17 hlt2 hmw hm17 hgc hww hnw hnw2 c1 hnn
      go_upto_region 8 with fail
      go_upto_region 9 with fail
      clear cO fO hor hu hmn
      have hnw2 : wrap64 ((n : Int) + 1) = (n : Int) + 1 := IntWalk.wrap64_in _ ⟨by omega, by omega⟩
      have hnw : IntKind.i64.wrap ((n : Int) + 1) = (n : Int) + 1 := IntWalk.i64_in _ (by omega)
      go_wp2_with (refine wpList_load_row rfl 28 (.tmp 5) rfl w.heap.size rfl 28 _ (0,0) _ H28.out Tryd.underlying28 rfl HS.out ?_)
      refine HCL.out.mono ?_
      rintro e w7 ⟨rfl, k1, k2⟩
      rw [HFI.out] at k1
      have H7 := hidd (show Blk w7 w.heap.size (ccells (N : Int) (K : Int) bs).toArray 28 ∧ Lc bs N K zs bl off gs gc s (p (c + 1)) w7 ∧ w.grownBy w7 (some gc) from by
        have hgs : gs < w'.heap.size := HW.out.2.1.st.lt
        have hgw : w'.grownBy (w5.setCell ⟨g, c, none⟩ (.int .i64 (V : Int))) none := grown_set (below_grown HB5.out _) (.inl HGB.out) c _
        have hgw2 : w'.grownBy w7 (some gc) := (hgw.but _).trans k2
        exact ⟨H28.out.far k2 (by intro e; cases e; have := HGL.out; omega), HW.out.2.1.far hK1 hgw2 k1, HG6.out.trans k2⟩)
      clear k1 k2
      go_wp2_with fail
      go_roundw
      case rel => exact ⟨c + 1, by omega, by go_num, H7.out⟩
      case measure => simp [intOf]; omega
  · have hce : c = K := by omega
    subst hce
    have hltI : decide ((c : Int) < (c : Int)) = false := by simp
    have H3 := hidd (show Blk wr gc (icells (dgL (N + 1) (fun d => f d + dcn (okx bs N zs) c N (fnd d) (r + 1) s))).toArray 2 by rw [← HPK.out]; exact HK.out.2.1.ct)
    go_wp2_with fail
    go_end0
    exact ⟨rfl, H3.out, HK.out.2.2⟩
end Go.Proofs.YtckffliiidgilaaDoor

/- ColoursNext: the model. -/
import Derived.Test.YthmjmlmmbmdodaaFsp
import Derived.Test.YthmjmlmmbmdodaaCls
namespace Go.Proofs.Ythmjmlmmbmdodaa
set_option linter.unusedVariables false
set_option linter.unusedSimpArgs false
open Go Go.RowKit Go.Shelf
set_option maxRecDepth 100000 in
set_option maxHeartbeats 1000000 in
theorem own58 (b off cap : Nat) (zs : List Int) (w : World) (hs : SlI w (some ⟨b, off, none⟩) zs) (hl : zs.length ≤ 1048576) :
    Calls Try.prog 58 #[.slice (some ⟨b, off, none⟩) zs.length cap] w fun e w' => ∃ g c, e = .returned (.slice (some ⟨g, 0, none⟩) zs.length c) ∧ w'.ownsRow w.heap.size 2 1 (.slice (some ⟨g, 0, none⟩) zs.length c) zs.length (icells zs) ∧ Below w.heap.size w w' := by
  obtain ⟨t0, hi2, hz0, hz1, hz3⟩ := info_parts info2
  have HIF := hidd (And.intro hi2 (And.intro hz0 (And.intro hz1 hz3)))
  have hown := empty_own w
  have HSL := hidd hs
  clear hi2 hz0 hz1 hz3 hs
  go_enter Try.func58, Try.ntmps58
  go_wp2_with (at_builtin; refine wpList_append_own _ rfl _ _ 22 rfl w.heap.size 2 t0 (.int .i64 0) 1 8 Try.underlying22 HIF.out.1 HIF.out.2.1 HIF.out.2.2.1 HIF.out.2.2.2 rfl (by decide) _ _ _ rfl hown ⟨b, off, none⟩ zs.length cap (icells zs) rfl ?c0 ?c1 ?c2 ?c3 ?c4 ?c5 ?_)
  case c0 => simp [icells]
  case c1 =>
    intro j u hu
    have hj : j < zs.length := by have := (List.getElem?_eq_some_iff.1 hu).1; simpa [icells] using this
    rcases HSL.out with hz | ⟨b', off', ha, hc⟩
    · subst hz; simp at hj
    · cases ha
      have h1 := hc j hj
      have h2 := (show (icells zs)[j]? = some (Value.int .i64 (zs.getD j 0)) by simpa using icells_get hj)
      rw [h2] at hu; cases hu
      have hlt := block_lt_of_cell h1
      rw [show (⟨b, off, none⟩ : Addr).add j = ⟨b, off + j, none⟩ from by simp [Addr.add]]
      rw [Below.cell ((Below.refl w.heap.size w).alloc (Nat.le_refl _) (.cells #[] 2)) (by exact hlt)]
      exact h1
  case c2 => intro u hu; simp only [icells, List.mem_map] at hu; obtain ⟨x, _, rfl⟩ := hu; rfl
  case c3 => unfold maxLen; omega
  case c4 => omega
  case c5 => simp
  intro v' w1 hown' hgrow hnn
  have hb1 := ((Below.refl w.heap.size w).alloc (Nat.le_refl _) (.cells #[] 2)).grown hgrow (by simp) (fun k hk => by cases hk; exact Nat.le_refl _)
  simp only [Nat.zero_add, icells, List.map_nil, List.nil_append] at hown'
  have R := hidd (And.intro hown' (And.intro hb1 hnn))
  clear hown' hgrow hnn hb1 hown
  go_wp2
  go_ret
  obtain ⟨r1, r2, r3⟩ := R.out
  rcases r1.2 with ⟨rfl, _⟩ | ⟨g, c, cur, rfl, hx⟩
  · exact (r3 rfl).elim
  · exact ⟨g, c, rfl, r1, r2⟩
/-- Stays the part free with the colour c? -/
def nxB (zs : List Int) (kind : Int) (c : Int) : Bool := (rowL (zs ++ [c]) kind (zs.length + 1)).isEmpty
/-- The colours up to j with which it does. -/
def nxK (zs : List Int) (kind : Int) : Nat → List Int
  | 0 => []
  | j + 1 => nxK zs kind j ++ (if nxB zs kind (j : Int) = true then [(j : Int)] else [])
theorem nxK_len (zs : List Int) (kind : Int) : ∀ j, (nxK zs kind j).length ≤ j
  | 0 => by simp [nxK]
  | j + 1 => by have := nxK_len zs kind j; simp only [nxK, List.length_append]; split <;> simp <;> omega
set_option maxRecDepth 100000 in
set_option maxHeartbeats 4000000 in
theorem next39 (K : Nat) (zs : List Int) (kind : Int) (b : Nat) (cap : Nat) (w : World) (hs : SlI w (some ⟨b, 0, none⟩) zs) (hl : zs.length ≤ 40) (k0 : 0 ≤ kind) (k2 : kind ≤ 2) (K3 : K ≤ 3) :
    Calls Try.prog 39 #[.int .i64 (K : Int), .slice (some ⟨b, 0, none⟩) zs.length cap, .int .i64 kind] w (LOne w (nxK zs kind K)) := by
  have HSL := hidd hs
  obtain ⟨t0, hi2, hz0, hz1, hz3⟩ := info_parts info2
  have HIF := hidd (And.intro hi2 (And.intro hz0 (And.intro hz1 hz3)))
  have HE := hidd (empty_own w)
  clear hs hi2 hz0 hz1 hz3
  go_enter Try.func39, Try.ntmps39
  go_wp2_with fail
  go_loopw [7, 8] (fun v i wr => ∃ j : Nat, j ≤ K ∧ i = .int .i64 j ∧ RelLa zs (some ⟨b, 0, none⟩) w (nxK zs kind j) v wr) (fun _ i _ => K - (intOf i).toNat)
  case atStart =>
    have hb := (Below.refl w.heap.size w).alloc (Nat.le_refl _) (.cells #[] 2)
    exact ⟨0, by omega, rfl, HE.out, HSL.out.below hb (Nat.le_refl _), hb⟩
  case round =>
    obtain ⟨j, hj, rfl, HR⟩ := hrel
    have HK := hidd HR
    clear HR
    by_cases hlt : j < K
    · have HSN := hidd (show nxK zs kind (j + 1) = nxK zs kind j ++ (if nxB zs kind (j : Int) = true then [(j : Int)] else []) from rfl)
      have hlx : (nxK zs kind j).length ≤ 40 := by have := nxK_len zs kind j; omega
      obtain ⟨xs, hxs⟩ : ∃ xs, xs = nxK zs kind j := ⟨_, rfl⟩
      rw [← hxs] at HK HSN hlx
      clear hxs
      go_wp2_with fail
      refine (own58 b 0 cap zs _ HK.out.2.1 (by omega)).mono ?_
      rintro e w1 ⟨g1, c1, rfl, hrow, hb1⟩
      have K1 := hidd (And.intro hb1 hrow)
      have hs1 := hb1.size
      have hsw := HK.out.2.2.size
      clear hb1 hrow
      have hown1 := K1.out.2
      go_wp2_with (at_builtin; refine wpList_append_own _ rfl _ _ 22 rfl wr.heap.size 2 t0 (.int .i64 0) 1 8 Try.underlying22 HIF.out.1 HIF.out.2.1 HIF.out.2.2.1 HIF.out.2.2.2 rfl (by decide) _ _ _ rfl (hown1.alloc _) ⟨w1.heap.size, 0, none⟩ 1 1 [.int .i64 (j : Int)] rfl rfl ?c1 ?c2 ?c3 ?c4 ?c5 ?_)
      case c1 => exact one_new _ _ _
      case c2 => intro u hu; simp at hu; subst hu; rfl
      case c3 => unfold maxLen; omega
      case c4 => omega
      case c5 => simp; omega
      intro v2 w2 hown2 hgrow2 _
      have hb12 := K1.out.1.trans (grown_step hown1 hgrow2 hs1)
      have hown2' : w2.ownsRow wr.heap.size 2 1 v2 (zs ++ [(j : Int)]).length (icells (zs ++ [(j : Int)])) := by rw [icells_app, List.length_append]; exact hown2
      obtain ⟨a2, c2, rfl, ho2⟩ := own_list hown2'
      obtain ⟨ys, hys⟩ : ∃ ys, ys = zs ++ [(j : Int)] := ⟨_, rfl⟩
      have hyl : ys.length = zs.length + 1 := by rw [hys]; simp
      have HF := hidd (fun W hW => fault34 ys a2 c2 kind (zs.length + 1) W hW (by omega) k0 k2 (by omega) (by omega))
      rw [show ys.length + 1 - (zs.length + 1) = 1 by omega, hyl] at HF
      rw [← hys] at ho2
      have HB := hidd (show nxB zs kind (j : Int) = decide ((headL (fsL ys kind (zs.length + 1) 1)).length = 0) by
        have e1 : fsL ys kind (zs.length + 1) 1 = rowL ys kind (zs.length + 1) := by simp [fsL]
        unfold nxB
        rw [← hys, e1]
        cases h : rowL ys kind (zs.length + 1) <;> simp [headL])
      obtain ⟨L, hL⟩ : ∃ L, L = headL (fsL ys kind (zs.length + 1) 1) := ⟨_, rfl⟩
      have hL3 : L.length ≤ 3 := by rw [hL]; exact headL_len _
      rw [← hL] at HF HB
      have K2 := hidd (And.intro hb12 ho2.sl)
      have hlI : (zs.length : Int) ≤ 40 := by omega
      clear hown2 hgrow2 hb12 hown2' ho2 hys hyl hL hown1
      go_wp2_with fail
      refine (HF.out _ K2.out.2).mono ?_
      rintro e w3 ⟨a3, c3, rfl, _, hb3⟩
      have hb13 := K2.out.1.trans (hb3.mono K2.out.1.size)
      have K3 := hidd (show RelLa zs (some ⟨b, 0, none⟩) w xs u7 w3 from ⟨own_below HK.out.1 hb13 (Nat.le_refl _), HK.out.2.1.below hb13 (Nat.le_refl _), HK.out.2.2.trans (hb13.mono HK.out.2.2.size)⟩)
      have hs3 := K3.out.2.2.size
      clear hb3 hb13
      by_cases h0 : L.length = 0
      · have hq : ((L.length : Int) == 0) = true := by rw [h0]; rfl
        have HS1 := hidd (show nxK zs kind (j + 1) = xs ++ [(j : Int)] by rw [HSN.out, HB.out, decide_eq_true h0]; rfl)
        have hown := K3.out.1
        clear h0
        go_wp2_with (at_builtin; refine wpList_append_own _ rfl _ _ 22 rfl w.heap.size 2 t0 (.int .i64 0) 1 8 Try.underlying22 HIF.out.1 HIF.out.2.1 HIF.out.2.2.1 HIF.out.2.2.2 rfl (by decide) _ _ _ rfl (hown.alloc _) ⟨w3.heap.size, 0, none⟩ 1 1 [.int .i64 (j : Int)] rfl rfl ?c1 ?c2 ?c3 ?c4 ?c5 ?_)
        case c1 => exact one_new _ _ _
        case c2 => intro u hu; simp at hu; subst hu; rfl
        case c3 => unfold maxLen; omega
        case c4 => omega
        case c5 => simp; omega
        intro v4 w4 hown4 hgrow4 _
        have K4 := hidd (K3.out.step HSL.out hown4 hgrow4)
        rw [← HS1.out] at K4
        clear hown4 hgrow4 hown
        go_wp2
        go_roundw
        case rel => exact ⟨j + 1, by omega, by go_num, K4.out⟩
        case measure => simp [intOf]; omega
      · have hq : ((L.length : Int) == 0) = false := by rw [beq_eq_false_iff_ne]; omega
        have HS1 := hidd (show nxK zs kind (j + 1) = xs by rw [HSN.out, HB.out, decide_eq_false h0]; simp)
        clear h0
        go_wp2_with fail
        go_roundw
        case rel => exact ⟨j + 1, by omega, by go_num, by rw [HS1.out]; exact K3.out⟩
        case measure => simp [intOf]; omega
    · have hje : j = K := by omega
      subst hje
      go_wp2_with fail
      go_ret
      obtain ⟨a', cap', rfl, ho⟩ := own_list (zs := nxK zs kind j) HK.out.1
      exact ⟨a', cap', rfl, ho, HK.out.2.2⟩
end Go.Proofs.Ythmjmlmmbmdodaa

/- My texts Go, Tri, TriC, CtSp, GoList, AvSp, in one. -/
import Derived.Test.YtkiocedhibeieaaDoorHd
import Derived.Deep.RegionHeld2
import Derived.Maps.AppendAt
/- l02Go: the cliques of m points that begin with some points, put to a list of lists. -/
namespace Go.Proofs.YtkiocedhibeieaaDoor
set_option linter.unusedVariables false
set_option linter.unusedSimpArgs false
open Go Go.RowKit Go.Shelf
/-- A list of numbers in a block from its first cell on. -/
def BgL (w : World) (a : Option Addr) (zs : List Int) : Prop :=
  ∃ g C, a = some ⟨g, 0, none⟩ ∧ Blk w g C 2 ∧ zs.length ≤ C.size ∧ ∀ j, j < zs.length → C[j]? = some (.int .i64 (zs.getD j 0))
theorem BgL.below {w w' : World} {B : Nat} {a : Option Addr} {zs : List Int} (h : BgL w a zs) (hb : Below B w w') (hB : w.heap.size ≤ B) : BgL w' a zs := by
  obtain ⟨g, C, h1, h2, h3⟩ := h
  exact ⟨g, C, h1, h2.below hb (Nat.lt_of_lt_of_le h2.lt hB), h3⟩
theorem OwnL.grown {w w' : World} {row : Option Nat} {B : Nat} {a : Option Addr} {zs : List Int} (h : OwnL w B a zs) (hg : w.grownBy w' row) (hr : ∀ r, row = some r → ∃ C, Blk w r C 25) : OwnL w' B a zs := by
  rcases h with h | ⟨g, C, h1, h2, h3, h4⟩
  · exact .inl h
  · refine .inr ⟨g, C, h1, h2, (hg.block g h3.lt (fun e => ?_)).trans h3, h4⟩
    obtain ⟨C', hC'⟩ := hr g e.symm
    unfold Blk at h3 hC'
    rw [hC'] at h3
    cases h3
theorem BgL.grown {w w' : World} {row : Option Nat} {a : Option Addr} {zs : List Int} (h : BgL w a zs) (hg : w.grownBy w' row) (hr : ∀ r, row = some r → ∃ C, Blk w r C 25) : BgL w' a zs := by
  obtain ⟨g, C, h1, h3, h4⟩ := h
  refine ⟨g, C, h1, (hg.block g h3.lt (fun e => ?_)).trans h3, h4⟩
  obtain ⟨C', hC'⟩ := hr g e.symm
  unfold Blk at h3 hC'
  rw [hC'] at h3
  cases h3
theorem BgL.own {w : World} {a : Option Addr} {zs : List Int} (h : BgL w a zs) : OwnL w 0 a zs := by
  obtain ⟨g, C, h1, h3, h4, h5⟩ := h
  exact .inr ⟨g, C, Nat.zero_le _, h1, h3, h4, h5⟩
theorem BgL.ofOwn {w : World} {B : Nat} {a : Option Addr} {zs : List Int} (h : OwnL w B a zs) (hz : zs ≠ []) : BgL w a zs := by
  rcases h with h | ⟨g, C, _, h2, h3, h4, h5⟩
  · exact absurd h hz
  · exact ⟨g, C, h2, h3, h4, h5⟩
/-- A list of lists. -/
def LL (w : World) (v : Value) (L : List (List Int)) : Prop :=
  ∃ xs, w.ownsRow 0 25 1 v L.length xs ∧ ∀ (i : Nat) (zs : List Int), L[i]? = some zs → ∃ a cap, xs[i]? = some (Value.slice a zs.length cap) ∧ OwnL w 0 a zs
theorem LL.row {w : World} {v : Value} {L : List (List Int)} (h : LL w v L) : ∀ r, v.ownBlock = some r → ∃ C, Blk w r C 25 := by
  obtain ⟨xs, h1, h2⟩ := h
  intro r hr
  obtain ⟨_, h | ⟨g, cap, cur, hv, hg, hc, _⟩⟩ := h1
  · rw [h.1] at hr; cases hr
  · rw [hv] at hr; cases hr; exact ⟨cur, hc⟩
theorem LL.shape {w : World} {v : Value} {L : List (List Int)} (h : LL w v L) : ∃ a cap, v = .slice a L.length cap := by
  obtain ⟨xs, ⟨_, h | ⟨g, cap, cur, hv, _⟩⟩, _⟩ := h
  · exact ⟨none, 0, by rw [h.1, h.2]⟩
  · exact ⟨_, _, hv⟩
theorem LL.below {w w' : World} {v : Value} {L : List (List Int)} (h : LL w v L) (hb : Below w.heap.size w w') : LL w' v L := by
  obtain ⟨xs, h1, h2⟩ := h
  refine ⟨xs, own_below h1 hb (Nat.le_refl _), fun i zs hi => ?_⟩
  obtain ⟨a, cap, h3, h4⟩ := h2 i zs hi
  exact ⟨a, cap, h3, h4.below hb (Nat.le_refl _)⟩
/-- What may turn: the list's own block. -/
def Fr (w w' : World) (v v' : Value) : Prop := w.grownBy w' v.ownBlock ∧ ∀ r, v'.ownBlock = some r → w.heap.size ≤ r ∨ v.ownBlock = some r
theorem Fr.refl (w : World) (v : Value) : Fr w w v v := ⟨World.grownBy.refl _ _, fun r h => .inr h⟩
theorem Fr.trans {w w1 w2 : World} {v v1 v2 : Value} (h : Fr w w1 v v1) (k : Fr w1 w2 v1 v2) : Fr w w2 v v2 :=
  ⟨h.1.andThen k.1 h.2, fun r hr => by
    rcases k.2 r hr with h3 | h3
    · exact .inl (Nat.le_trans h.1.size h3)
    · exact h.2 r h3⟩
theorem below_grown {w w' : World} (h : Below w.heap.size w w') (row : Option Nat) : w.grownBy w' row := ⟨h.os, h.tape, h.output, h.size, fun k hk _ => h.block k hk⟩
theorem Fr.below {w w' : World} (h : Below w.heap.size w w') (v : Value) : Fr w w' v v := ⟨below_grown h _, fun r h => .inr h⟩
theorem LL.push {w w' : World} {v v' : Value} {L : List (List Int)} {a : Option Addr} {cap : Nat} {zs : List Int} {xs : List Value} (hx : ∀ (i : Nat) (ys : List Int), L[i]? = some ys → ∃ a cap, xs[i]? = some (Value.slice a ys.length cap) ∧ OwnL w 0 a ys) (hxl : xs.length = L.length)
    (hr : ∀ r, v.ownBlock = some r → ∃ C, Blk w r C 25) (hg : w.grownBy w' v.ownBlock) (ho : OwnL w 0 a zs) (h' : w'.ownsRow 0 25 1 v' (L.length + 1) (xs ++ [Value.slice a zs.length cap])) : LL w' v' (L ++ [zs]) := by
  refine ⟨xs ++ [Value.slice a zs.length cap], by rw [List.length_append]; exact h', fun i ys hi => ?_⟩
  by_cases hl : i < L.length
  · rw [List.getElem?_append_left hl] at hi
    obtain ⟨a', c', h1, h2⟩ := hx i ys hi
    exact ⟨a', c', by rw [List.getElem?_append_left (by omega)]; exact h1, h2.grown hg hr⟩
  · have hi' : i = L.length := by
      have := (List.getElem?_eq_some_iff.1 hi).1
      simp at this; omega
    subst hi'
    rw [List.getElem?_append_right (Nat.le_refl _)] at hi
    simp at hi
    subst hi
    exact ⟨a, cap, by rw [List.getElem?_append_right (by omega)]; simp [hxl], ho.grown hg hr⟩
theorem BgL.cell {w : World} {g : Nat} {zs : List Int} (h : BgL w (some ⟨g, 0, none⟩) zs) {j : Nat} (hj : j < zs.length) {x : Int} (hx : zs.getD j 0 = x) : w.cell? ⟨g, j, none⟩ = some (.int .i64 x) := by
  obtain ⟨g', C, h1, h2, h3, h4⟩ := h
  cases h1
  rw [← hx]
  exact h2.cell (h4 j hj)
theorem info25 : (Tryd.prog.info? 25).map (fun i => (i.zero, i.size, i.bytes)) = some (some (.slice none 0 0), 1, 24) := by kernel_rfl
set_option maxRecDepth 100000 in
theorem own63 (zs : List Int) (a : Option Addr) (cap : Nat) (w : World) (h : BgL w a zs) (hl : zs.length ≤ 1000) :
    Calls Tryd.prog 87 #[.slice a zs.length cap] w fun e w' => ∃ a' c', e = .returned (.slice a' zs.length c') ∧ w'.ownsRow w.heap.size 2 1 (.slice a' zs.length c') zs.length (icells zs) ∧ Below w.heap.size w w' := by
  obtain ⟨t0, hi2, hz0, hz1, hz3⟩ := info_parts info2
  have HIF := hidd (And.intro hi2 (And.intro hz0 (And.intro hz1 hz3)))
  obtain ⟨g, C, rfl, hC, hCl, hCc⟩ := h
  have hlt := hC.lt
  have HC := hidd hC
  have HCC := hidd hCc
  have HL := hidd (icells_len zs)
  clear hi2 hz0 hz1 hz3 hC hCc
  go_enter Tryd.func87, Tryd.ntmps87
  go_wp2_with (at_builtin; refine wpList_append_own _ rfl _ _ 25 rfl w.heap.size 2 t0 (.int .i64 0) 1 8 Tryd.underlying25 HIF.out.1 HIF.out.2.1 HIF.out.2.2.1 HIF.out.2.2.2 rfl (by decide) _ 0 [] rfl ⟨rfl, .inr ⟨w.heap.size, 0, #[], rfl, Nat.le_refl _, Blk.new _ _ _ _ rfl, Nat.le_refl _, by simp [maxLen], rfl, rfl⟩⟩ ⟨g, 0, none⟩ zs.length cap (icells zs) rfl ?c1 ?c2 ?c3 ?c4 ?c5 ?c6 ?_)
  case c1 => rw [HL.out]; omega
  case c2 =>
    intro j u hu
    have hj : j < zs.length := by have := (List.getElem?_eq_some_iff.1 hu).1; rw [HL.out] at this; exact this
    rw [Addr.add_mid, Nat.zero_add]
    refine ((HC.out.alloc _).cell ?_)
    rw [HCC.out j hj]
    have := icells_get hj
    rw [List.getElem?_toArray] at this
    rw [← hu, this]
  case c3 => intro u hu; obtain ⟨z, _, rfl⟩ := List.mem_map.1 hu; rfl
  case c4 => unfold maxLen; omega
  case c5 => omega
  case c6 => simp
  intro v' w2 hown hgrow _
  have K := hidd (And.intro hown (((Below.refl w.heap.size w).alloc (Nat.le_refl _) (.cells #[] 2)).grown hgrow (by simp) (fun g hg => by cases hg; exact Nat.le_refl _)))
  clear hown hgrow
  obtain ⟨a2, c2, rfl, _⟩ := own_list K.out.1
  go_wp2_with fail
  go_ret
  exact ⟨a2, c2, rfl, K.out⟩
set_option maxRecDepth 100000 in
set_option maxHeartbeats 4000000 in
theorem go56 (N : Nat) (hN : N ≤ 17) (R : Nat → Nat) (h0 : ∀ q, (R q).testBit q = false) (zs : List Int) (hz : Rws N R zs) (a : Option Addr) (cap : Nat) (m : Nat) (hm : m ≤ 18) (most : Nat) (hm1 : 1 ≤ most) (hm2 : most ≤ 1000) :
    ∀ (r : Nat) (s : List Nat) (d : Nat), s.length + r = m → d ≤ N → ∀ (w : World) (ab : Option Addr) (cb : Nat) (ao : Option Addr) (co : Nat) (L : List (List Int)), BgL w a zs → BgL w ab (rv s) → LL w (.slice ao L.length co) L → L.length < most →
    Calls Tryd.prog 71 #[.slice a N cap, .slice ab s.length cb, .int .i64 (frB R N s d : Nat), .int .i64 (m : Int), .slice ao L.length co, .int .i64 (most : Int)] w fun e w' => ∃ a' c', e = .returned (.slice a' ((L ++ cqH R N m d s).take most).length c') ∧ LL w' (.slice a' ((L ++ cqH R N m d s).take most).length c') ((L ++ cqH R N m d s).take most) ∧ Fr w w' (.slice ao L.length co) (.slice a' ((L ++ cqH R N m d s).take most).length c')
  | 0, s, d, hs, hd, w, ab, cb, ao, co, L, hA, hB, hL, hlm => by
    obtain ⟨t0, hi2, hz0, hz1, hz3⟩ := info_parts info25
    have HIF := hidd (And.intro hi2 (And.intro hz0 (And.intro hz1 hz3)))
    have hsm : s.length = m := by omega
    have hsI : ((s.length : Int) == (m : Int)) = true := by rw [beq_iff_eq]; omega
    have hres : (L ++ cqH R N m d s).take most = L ++ [rv s] := by rw [cqH_here hsm]; exact List.take_of_length_le (by simp; omega)
    rw [hres]
    have HB := hidd (fun W h => own63 (rv s) ab cb W h (by rw [rv_len]; omega))
    have HL := hidd hL
    have HBG := hidd hB
    have HRL := hidd (rv_len s)
    rw [HRL.out] at HB
    clear hres hA hB hL hsm hi2 hz0 hz1 hz3
    go_enter Tryd.func71, Tryd.ntmps71
    go_wp2_with fail
    refine (HB.out _ HBG.out).mono ?_
    rintro e w1 ⟨a1, c1, rfl, ho, hb1⟩
    rw [← HRL.out] at ho
    obtain ⟨a1', c1', hv, hO⟩ := own_list ho
    cases hv
    have hLA := (HL.out.below hb1).below (((Below.refl w1.heap.size w1).alloc (Nat.le_refl _) (.cells #[.slice a1 s.length c1] 25)))
    have KF := hidd (Fr.trans (Fr.below hb1 (.slice ao L.length co)) (Fr.below (((Below.refl w1.heap.size w1).alloc (Nat.le_refl _) (.cells #[.slice a1 s.length c1] 25))) (.slice ao L.length co)))
    have KO := hidd ((ownL_base hO (Nat.zero_le _)).below (((Below.refl w1.heap.size w1).alloc (Nat.le_refl _) (.cells #[.slice a1 s.length c1] 25))) (Nat.le_refl _))
    have KR := hidd hLA.row
    obtain ⟨xs, hxo, hxs⟩ := hLA
    have hxl : xs.length = L.length := by have := hxo.1; omega
    have HX := hidd hxs
    have HXO := hidd hxo
    have HXL := hidd hxl
    clear hxs hO hb1 ho hxl hxo
    go_wp2_with (at_builtin; refine wpList_append_own_at _ rfl _ _ 37 rfl 0 25 t0 (.slice none 0 0) 1 24 Tryd.underlying37 HIF.out.1 HIF.out.2.1 HIF.out.2.2.1 HIF.out.2.2.2 rfl (by decide) _ L.length xs rfl HXO.out ⟨w1.heap.size, 0, none⟩ 1 1 [.slice a1 s.length c1] rfl rfl ?c1 ?c2 ?c3 ?c4 ?c5 ?_)
    case c1 => exact one_new _ _ _
    case c2 => intro u hu; simp at hu; subst hu; rfl
    case c3 => unfold maxLen; omega
    case c4 => omega
    case c5 => omega
    intro v' w2 hown hgrow hnil hat
    have hp := LL.push (zs := rv s) HX.out HXL.out KR.out hgrow KO.out (by rw [HRL.out]; exact hown)
    obtain ⟨a', c', rfl⟩ := hp.shape
    have K := hidd (And.intro hp (KF.out.trans ⟨hgrow, fun r hr => by
      rcases hat with e | e
      · exact .inr (by rw [← e]; exact hr)
      · rw [hr] at e; cases e; exact .inl (by simp)⟩))
    clear hp hown hgrow hat
    go_wp2_with fail
    go_ret
    exact ⟨a', c', rfl, K.out⟩
  | r + 1, s, d, hs, hd, w, ab, cb, ao, co, L, hA, hB, hL, hlm => by
    obtain ⟨t2, hi2, hz0, hz1, hz3⟩ := info_parts info2
    have HI2 := hidd (And.intro hi2 (And.intro hz0 (And.intro hz1 hz3)))
    clear hi2 hz0 hz1 hz3
    have HREC := hidd (fun s hs d hd => go56 N hN R h0 zs hz a cap m hm most hm1 hm2 r s d hs hd)
    have hsm : s.length ≠ m := by omega
    have hsl : s.length ≤ 17 := by omega
    have hsI : ((s.length : Int) == (m : Int)) = false := by rw [beq_eq_false_iff_ne]; omega
    have HZ := hidd hz
    have HA := hidd hA
    have HBG := hidd hB
    have HL := hidd hL
    have hF17 := frB_lt R hN s d
    have hres := cqH_none (R := R) (N := N) (m := m) (d := d) (s := s) hd hsm
    have HLESS := hidd (cqH_less (R := R) (N := N) (d := d) hsm)
    obtain ⟨F, hF⟩ : ∃ F, F = frB R N s d := ⟨_, rfl⟩
    rw [← hF] at hF17 hres ⊢
    have HO := hidd (fun W => ones65 F W (by omega))
    have hobd : ones F ≤ 131072 := Nat.le_trans (ones_le F) (by omega)
    obtain ⟨o, ho⟩ : ∃ o, o = ones F := ⟨_, rfl⟩
    rw [← ho] at HO hobd hres
    by_cases hfew : s.length + o < m
    · have hfI : decide ((s.length : Int) + (o : Int) < (m : Int)) = true := by simp; omega
      have hres2 : (L ++ cqH R N m d s).take most = L := by rw [hres hfew, List.append_nil]; exact List.take_of_length_le (by omega)
      rw [hres2]
      clear hres hres2 hA hB hL hsm hF ho hz
      go_enter Tryd.func71, Tryd.ntmps71
      go_wp2_with (go_at_call 82; refine (HO.out _).mono ?_; rintro e w' ⟨rfl, rfl⟩)
      go_ret
      exact ⟨ao, co, rfl, HL.out, Fr.refl _ _⟩
    · have hfI : decide ((s.length : Int) + (o : Int) < (m : Int)) = false := by simp; omega
      have HF := hidd hF
      have HS1 := hidd hs
      clear hres hA hB hL hsm hF ho hz hs
      go_enter Tryd.func71, Tryd.ntmps71
      go_wp2_with (go_at_call 82; refine (HO.out _).mono ?_; rintro e w' ⟨rfl, rfl⟩)
      go_loopw [4, 13] (fun v e wr => ∃ (j : Nat) (a' : Option Addr) (c' : Nat) (cur : List (List Int)), j ≤ N ∧ e = .int .i64 (j : Int) ∧ v = .slice a' cur.length c' ∧ Hid (LL wr (.slice a' cur.length c') cur ∧ Way R N m d s L most (N - j) cur ∧ Fr w wr (.slice ao L.length co) (.slice a' cur.length c'))) (fun _ e _ => N - (intOf e).toNat)
      case atStart => exact ⟨0, ao, co, L, by omega, rfl, rfl, HL.out, way_start hd hlm, Fr.refl _ _⟩
      case round =>
        obtain ⟨j, a', c', cur, hj, rfl, rfl, HR⟩ := hrel
        have hcl := way_len HR.out.2.1
        by_cases hlt : j < N
        · by_cases hcm : cur.length < most
          · have hcI : decide ((cur.length : Int) < (most : Int)) = true := by simp; omega
            cases hbit : F.testBit j with
            | false =>
              have hbt := (bit_test F j (by omega)).trans hbit
              have HW := hidd (way_skip HR.out.2.1 hlt (by rw [← HF.out]; exact hbit))
              clear hbit
              go_wp2_with fail
              go_roundw
              case rel => exact ⟨j + 1, a', c', cur, by omega, by go_num, rfl, HR.out.1, HW.out, HR.out.2.2⟩
              case measure => simp [intOf]; omega
            | true =>
              have hbt := (bit_test F j (by omega)).trans hbit
              have HW := hidd (way_take HR.out.2.1 hlt (by rw [← HF.out]; exact hbit) hcm)
              have hfb := hbit
              rw [HF.out, frB_bit hlt, Bool.and_eq_true] at hfb
              have hnx := frB_next h0 (s := s) hlt (of_decide_eq_true hfb.1)
              rw [← HF.out] at hnx
              obtain ⟨x, hx⟩ : ∃ x, x = R j := ⟨_, rfl⟩
              have hx17 : x < 2 ^ 17 := by rw [hx]; exact HZ.out.lt j hlt
              have hand := i64_and_nat F x (by omega) (by omega)
              have hA17 : F &&& x < 2 ^ 17 := Nat.lt_of_le_of_lt Nat.and_le_left hF17
              rw [← hx] at hnx
              obtain ⟨X, hX⟩ : ∃ X, X = F &&& x := ⟨_, rfl⟩
              rw [← hX] at hand hA17 hnx
              have hAW := HA.out.grown HR.out.2.2.1 HL.out.row
              obtain ⟨g, C, rfl, hC, hCl, hCc⟩ := hAW
              have HAW := hidd (show BgL wr (some ⟨g, 0, none⟩) zs from ⟨g, C, rfl, hC, hCl, hCc⟩)
              have HCJ := hidd (fun W (h : BgL W (some ⟨g, 0, none⟩) zs) => h.cell (j := j) (by have := HZ.out.len; omega) (x := (x : Int)) (by rw [HZ.out.get j hlt, hx]))
              have cj := HCJ.out _ HAW.out
              have hju : IntKind.u64.wrap (j : Int) = (j : Int) := by unfold IntKind.wrap; simp [IntKind.signed, IntKind.bits]; omega
              have hmn : min j 64 = j := by omega
              have HBW := hidd (HBG.out.grown HR.out.2.2.1 HL.out.row)
              obtain ⟨Y1, hY1⟩ : ∃ Y1 : Nat, Y1 = X / 2 ^ j := ⟨_, rfl⟩
              obtain ⟨Z, hZ⟩ : ∃ Z : Nat, Z = hiB X j := ⟨_, rfl⟩
              have hZ17 : Z < 2 ^ 17 := by rw [hZ]; exact hiB_lt hA17
              have hsr : (X : Int) / 2 ^ j = (Y1 : Int) := by rw [hY1]; simp
              have hsw : IntKind.i64.wrap ((Y1 : Int) * 2 ^ j) = (Z : Int) := by
                have e : (Y1 : Int) * 2 ^ j = ((Z : Nat) : Int) := by
                  rw [hZ, hiB, Nat.shiftRight_eq_div_pow, Nat.shiftLeft_eq, ← hY1]; simp
                rw [e]; exact IntWalk.i64_in _ (by omega)
              rw [← hZ] at hnx
              have HNX := hidd hnx
              clear hCc hC hfb hX hx hbit hnx hY1 hZ
              go_wp2_with fail
              refine wp_region_held_drew (S := (fun W => W.cell? ⟨g, j, none⟩ = some (.int .i64 (x : Int)))) (by kernel_rfl) ?_ (fun hHeld => ?_)
              · exact cj
              refine wpAnyH_take (i := 0) (oi := _) (v := ?_) rfl (by kernel_rfl) (by kernel_rfl) (by kernel_rfl) (fun _ _ _ h => h) (Or.inl ⟨by rfl, ?_⟩) (by assumption) ?_
              rotate_left
              · intro wX hSw; (try dsimp only at hSw); go_simp; first | done | with_reducible rfl
              simp only [List.getElem_toArray, List.getElem_cons_succ, List.getElem_cons_zero, Act.put, List.setIfInBounds_toArray, List.set_cons_zero, List.set_cons_succ]
              refine wpAnyH_take (i := 1) (oi := _) (v := ?_) rfl (by kernel_rfl) (by kernel_rfl) (by kernel_rfl) (fun _ _ _ h => h) (Or.inl ⟨by rfl, ?_⟩) (by assumption) ?_
              rotate_left
              · intro wX hSw; (try dsimp only at hSw); go_simp; first | done | with_reducible rfl
              simp only [List.getElem_toArray, List.getElem_cons_succ, List.getElem_cons_zero, Act.put, List.setIfInBounds_toArray, List.set_cons_zero, List.set_cons_succ]
              refine wpAnyH_take (i := 3) (oi := _) (v := ?_) rfl (by kernel_rfl) (by kernel_rfl) (by kernel_rfl) (fun _ _ _ h => h) (Or.inl ⟨by rfl, ?_⟩) (by assumption) ?_
              rotate_left
              · intro wX hSw; (try dsimp only at hSw); go_simp; first | done | with_reducible rfl
              simp only [List.getElem_toArray, List.getElem_cons_succ, List.getElem_cons_zero, Act.put, List.setIfInBounds_toArray, List.set_cons_zero, List.set_cons_succ]
              refine wpAnyH_take (i := 6) (oi := _) (v := ?_) rfl (by kernel_rfl) (by kernel_rfl) (by kernel_rfl) (fun _ _ _ h => h) (Or.inl ⟨by rfl, ?_⟩) (by assumption) ?_
              rotate_left
              · intro wX hSw; (try dsimp only at hSw); go_simp; first | done | with_reducible rfl
              simp only [List.getElem_toArray, List.getElem_cons_succ, List.getElem_cons_zero, Act.put, List.setIfInBounds_toArray, List.set_cons_zero, List.set_cons_succ]
              refine wpAnyH_take (i := 7) (oi := _) (v := ?_) rfl (by kernel_rfl) (by kernel_rfl) (by kernel_rfl) (fun _ _ _ h => h) (Or.inl ⟨by rfl, ?_⟩) (by assumption) ?_
              rotate_left
              · intro wX hSw; (try dsimp only at hSw); go_simp; first | done | with_reducible rfl
              simp only [List.getElem_toArray, List.getElem_cons_succ, List.getElem_cons_zero, Act.put, List.setIfInBounds_toArray, List.set_cons_zero, List.set_cons_succ]
              refine wpAnyH_take (i := 8) (oi := _) (v := ?_) rfl (by kernel_rfl) (by kernel_rfl) (by kernel_rfl) (fun _ _ _ h => h) (Or.inl ⟨by rfl, ?_⟩) (by assumption) ?_
              rotate_left
              · intro wX hSw; (try dsimp only at hSw); go_simp; first | done | with_reducible rfl
              simp only [List.getElem_toArray, List.getElem_cons_succ, List.getElem_cons_zero, Act.put, List.setIfInBounds_toArray, List.set_cons_zero, List.set_cons_succ]
              refine wpAnyH_take (i := 9) (oi := _) (v := ?_) rfl (by kernel_rfl) (by kernel_rfl) (by kernel_rfl) (fun _ _ _ h => h) (Or.inl ⟨by rfl, ?_⟩) (by assumption) ?_
              rotate_left
              · intro wX hSw; (try dsimp only at hSw); go_simp; first | done | with_reducible rfl
              simp only [List.getElem_toArray, List.getElem_cons_succ, List.getElem_cons_zero, Act.put, List.setIfInBounds_toArray, List.set_cons_zero, List.set_cons_succ]
              refine wpAnyH_take (i := 10) (oi := _) (v := ?_) rfl (by kernel_rfl) (by kernel_rfl) (by kernel_rfl) (fun _ _ _ h => h) (Or.inl ⟨by rfl, ?_⟩) (by assumption) ?_
              rotate_left
              · intro wX hSw; (try dsimp only at hSw); go_simp; first | done | with_reducible rfl
              simp only [List.getElem_toArray, List.getElem_cons_succ, List.getElem_cons_zero, Act.put, List.setIfInBounds_toArray, List.set_cons_zero, List.set_cons_succ]
              refine wpAnyH_take (i := 11) (oi := _) (v := ?_) rfl (by kernel_rfl) (by kernel_rfl) (by kernel_rfl) (fun _ _ _ h => h) (Or.inl ⟨by rfl, ?_⟩) (by assumption) ?_
              rotate_left
              · intro wX hSw; (try dsimp only at hSw); go_simp; first | done | with_reducible rfl
              simp only [List.getElem_toArray, List.getElem_cons_succ, List.getElem_cons_zero, Act.put, List.setIfInBounds_toArray, List.set_cons_zero, List.set_cons_succ]
              refine wpAnyH_take (i := 12) (oi := _) (v := ?_) rfl (by kernel_rfl) (by kernel_rfl) (by kernel_rfl) (fun _ _ _ h => h) (Or.inl ⟨by rfl, ?_⟩) (by assumption) ?_
              rotate_left
              · intro wX hSw; (try dsimp only at hSw); go_simp; first | done | with_reducible rfl
              simp only [List.getElem_toArray, List.getElem_cons_succ, List.getElem_cons_zero, Act.put, List.setIfInBounds_toArray, List.set_cons_zero, List.set_cons_succ]
              refine wpAnyH_take (i := 13) (oi := _) (v := ?_) rfl (by kernel_rfl) (by kernel_rfl) (by kernel_rfl) (fun _ _ _ h => h) (Or.inl ⟨by rfl, ?_⟩) (by assumption) ?_
              rotate_left
              · intro wX hSw; (try dsimp only at hSw); go_simp; first | done | with_reducible rfl
              simp only [List.getElem_toArray, List.getElem_cons_succ, List.getElem_cons_zero, Act.put, List.setIfInBounds_toArray, List.set_cons_zero, List.set_cons_succ]
              refine wpAnyH_take (i := 14) (oi := _) (v := ?_) rfl (by kernel_rfl) (by kernel_rfl) (by kernel_rfl) (fun _ _ _ h => h) (Or.inl ⟨by rfl, ?_⟩) (by assumption) ?_
              rotate_left
              · intro wX hSw; (try dsimp only at hSw); go_simp; first | done | with_reducible rfl
              simp only [List.getElem_toArray, List.getElem_cons_succ, List.getElem_cons_zero, Act.put, List.setIfInBounds_toArray, List.set_cons_zero, List.set_cons_succ]
              refine wpAnyH_take (i := 15) (oi := _) (v := ?_) rfl (by kernel_rfl) (by kernel_rfl) (by kernel_rfl) (fun _ _ _ h => h) (Or.inl ⟨by rfl, ?_⟩) (by assumption) ?_
              rotate_left
              · intro wX hSw; (try dsimp only at hSw); go_simp; first | done | with_reducible rfl
              simp only [List.getElem_toArray, List.getElem_cons_succ, List.getElem_cons_zero, Act.put, List.setIfInBounds_toArray, List.set_cons_zero, List.set_cons_succ]
              refine wpAnyH_take (i := 16) (oi := _) (v := ?_) rfl (by kernel_rfl) (by kernel_rfl) (by kernel_rfl) (fun _ _ _ h => h) (Or.inl ⟨by rfl, ?_⟩) (by assumption) ?_
              rotate_left
              · intro wX hSw; (try dsimp only at hSw); go_simp; first | done | with_reducible rfl
              simp only [List.getElem_toArray, List.getElem_cons_succ, List.getElem_cons_zero, Act.put, List.setIfInBounds_toArray, List.set_cons_zero, List.set_cons_succ]
              refine wpAnyH_take (i := 17) (oi := _) (v := ?_) rfl (by kernel_rfl) (by kernel_rfl) (by kernel_rfl) (fun _ _ _ h => h) (Or.inl ⟨by rfl, ?_⟩) (by assumption) ?_
              rotate_left
              · intro wX hSw; (try dsimp only at hSw); go_simp; first | done | with_reducible rfl
              simp only [List.getElem_toArray, List.getElem_cons_succ, List.getElem_cons_zero, Act.put, List.setIfInBounds_toArray, List.set_cons_zero, List.set_cons_succ]
              refine wpAnyH_take (i := 18) (oi := _) (v := ?_) rfl (by kernel_rfl) (by kernel_rfl) (by kernel_rfl) (fun _ _ _ h => h) (Or.inl ⟨by rfl, ?_⟩) (by assumption) ?_
              rotate_left
              · intro wX hSw; (try dsimp only at hSw); go_simp; first | done | with_reducible rfl
              simp only [List.getElem_toArray, List.getElem_cons_succ, List.getElem_cons_zero, Act.put, List.setIfInBounds_toArray, List.set_cons_zero, List.set_cons_succ]
              refine wpAnyH_take (i := 19) (oi := _) (v := ?_) rfl (by kernel_rfl) (by kernel_rfl) (by kernel_rfl) (fun _ _ _ h => h) (Or.inl ⟨by rfl, ?_⟩) (by assumption) ?_
              rotate_left
              · intro wX hSw; (try dsimp only at hSw); go_simp; first | done | with_reducible rfl
              simp only [List.getElem_toArray, List.getElem_cons_succ, List.getElem_cons_zero, Act.put, List.setIfInBounds_toArray, List.set_cons_zero, List.set_cons_succ]
              refine wpAnyH_take (i := 20) (oi := _) (v := ?_) rfl (by kernel_rfl) (by kernel_rfl) (by kernel_rfl) (fun _ _ _ h => h) (Or.inl ⟨by rfl, ?_⟩) (by assumption) ?_
              rotate_left
              · intro wX hSw; (try dsimp only at hSw); go_simp; first | done | with_reducible rfl
              simp only [List.getElem_toArray, List.getElem_cons_succ, List.getElem_cons_zero, Act.put, List.setIfInBounds_toArray, List.set_cons_zero, List.set_cons_succ]
              have HOW := hidd (fun W (h : Below wr.heap.size wr W) => own63 (rv s) ab cb W (HBW.out.below h (Nat.le_refl _)) (by rw [rv_len]; omega))
              rw [rv_len] at HOW
              have HAB := hidd (fun W (h : Below wr.heap.size wr W) => HCJ.out W (HAW.out.below h (Nat.le_refl _)))
              refine wpAnyH_ready (rs := [2, 4]) (by kernel_rfl) (by simp) (AllReadyH.cons (o := _) rfl (fun KQ hKQ => ?_) (AllReadyH.cons (o := _) rfl (fun KQ hKQ => ?_) AllReadyH.nil))
              · go_simp
                refine (HOW.out _ ((Below.refl wr.heap.size wr).drew)).mono ?_
                rintro e W1 ⟨a1, c1, rfl, ho1, hb1⟩
                have hbX : Below wr.heap.size wr W1 := ((Below.refl wr.heap.size wr).drew).trans hb1
                have hKX : Below wr.heap.size wr (W1.alloc (.cells #[.int .i64 (j : Int)] 2)) ∧ (W1.alloc (.cells #[.int .i64 (j : Int)] 2)).ownsRow wr.heap.size 2 1 (.slice a1 s.length c1) s.length (icells (rv s)) ∧ Blk (W1.alloc (.cells #[.int .i64 (j : Int)] 2)) W1.heap.size #[.int .i64 (j : Int)] 2 :=
                  ⟨hbX.alloc hbX.size _, (own_base ho1 (Nat.le_refl _)).alloc _, Blk.new _ _ _ _ rfl⟩
                have HKX := hidd hKX
                clear hKX ho1 hb1
                go_wp2_with fail
                refine hKQ.out _ _ ?_ (fun hNext => ?_)
                · exact HAB.out _ hbX
                clear hKQ KQ hHeld
                have hHeld := hNext
                clear hNext
                refine wpAnyH_ready (rs := [4]) (by kernel_rfl) (by simp) (AllReadyH.cons (o := _) rfl (fun KQ hKQ => ?_) AllReadyH.nil)
                go_simp
                refine hKQ.out _ _ ?_ (fun hNext => ?_)
                · exact HAB.out _ (hbX.alloc hbX.size _)
                clear hKQ KQ hHeld
                have hHeld := hNext
                clear hNext
                have hKX := HKX.out
                clear HKX hbX
                obtain ⟨ad, had⟩ : ∃ ad, ad = W1.heap.size := ⟨_, rfl⟩
                rw [← had] at hKX ⊢
                obtain ⟨WX, hWX⟩ : ∃ WX, WX = W1.alloc (.cells #[.int .i64 (j : Int)] 2) := ⟨_, rfl⟩
                rw [← hWX] at hKX hHeld ⊢
                clear hWX had
                have KX := hidd (show Below wr.heap.size wr WX ∧ WX.ownsRow wr.heap.size 2 1 (.slice a1 s.length c1) s.length (icells (rv s)) ∧ Blk WX ad #[.int .i64 (j : Int)] 2 from hKX)
                clear hKX
                have hsz := KX.out.1.size
                refine wpAnyH_ready (rs := [5]) (by kernel_rfl) (by simp) (AllReadyH.cons (o := _) rfl (fun KQ hKQ => ?_) AllReadyH.nil)
                rw [if_pos (by rfl)]
                refine wp_append_own _ _ _ 25 rfl wr.heap.size 2 t2 (.int .i64 0) 1 8 Tryd.underlying25 HI2.out.1 HI2.out.2.1 HI2.out.2.2.1 HI2.out.2.2.2 rfl (by decide) _ s.length (icells (rv s)) rfl KX.out.2.1 ⟨ad, 0, none⟩ 1 1 [.int .i64 (j : Int)] rfl rfl ?c1 ?c2 ?c3 ?c4 ?c5 ?_
                case c1 => intro i u hi; rw [Addr.add_mid]; cases i with
                  | zero => exact KX.out.2.2.cell (by simpa using hi)
                  | succ i => simp at hi
                case c2 => intro u hu; simp at hu; subst hu; rfl
                case c3 => unfold maxLen; omega
                case c4 => omega
                case c5 => omega
                intro v' w3 hown' hgrow _
                have hb3 : Below wr.heap.size wr w3 := KX.out.1.grown hgrow hsz (fun r hr => by
                  rcases KX.out.2.1.2 with ⟨h1, _⟩ | ⟨g', cap', cur', h1, h2, _⟩
                  · rw [h1] at hr; cases hr
                  · rw [h1] at hr; cases hr; exact h2)
                have hrv : icells (rv s) ++ [.int .i64 (j : Int)] = icells (rv (j :: s)) := by rw [rv_cons, icells_app]; rfl
                have hrl : (rv (j :: s)).length = s.length + 1 := by rw [rv_len]; rfl
                rw [hrv, ← hrl] at hown'
                obtain ⟨a3, c3, hv3, ho3⟩ := own_list hown'
                rw [hrl] at hv3
                subst hv3
                have hB3 : BgL w3 a3 (rv (j :: s)) := BgL.ofOwn ho3 (by rw [rv_cons]; simp)
                have K3 := hidd (And.intro hB3 (And.intro (HAW.out.below hb3 (Nat.le_refl _)) (And.intro (HR.out.1.below hb3) (Fr.below hb3 (.slice a' cur.length c')))))
                clear hB3 ho3 hown' hgrow hb3 hrv hrl
                refine hKQ.out _ _ ?_ (fun hNext => ?_)
                · exact HCJ.out _ K3.out.2.1
                clear hKQ KQ hHeld
                have hHeld := hNext
                clear hNext
                simp only [List.getElem_toArray, List.getElem_cons_succ, List.getElem_cons_zero, Act.put, List.setIfInBounds_toArray, List.set_cons_zero, List.set_cons_succ]
                have HG := hidd (HREC.out (j :: s) (by have := HS1.out; simp; omega) (N - (j + 1)) (by omega) w3 a3 c3 a' c' cur K3.out.2.1 K3.out.1 K3.out.2.2.1 hcm)
                rw [← HNX.out, List.length_cons] at HG
                refine wpAnyH_ready (rs := [21]) (by kernel_rfl) (by simp) (AllReadyH.cons (o := _) rfl (fun KQ hKQ => ?_) AllReadyH.nil)
                go_simp
                refine HG.out.mono ?_
                rintro e w4 ⟨a4, c4, rfl, hL4, hF4⟩
                have K4 := hidd (And.intro (K3.out.2.1.grown hF4.1 K3.out.2.2.1.row) (And.intro hL4 (HR.out.2.2.trans (K3.out.2.2.2.trans hF4))))
                clear hL4 hF4
                go_wp2_with fail
                refine hKQ.out _ _ ?_ (fun hNext => ?_)
                · exact HCJ.out _ K4.out.1
                clear hKQ KQ hHeld
                have hHeld := hNext
                clear hNext
                refine wpAnyH_ready (rs := [22]) (by kernel_rfl) (by simp) (AllReadyH.cons (o := _) rfl (fun KQ hKQ => ?_) AllReadyH.nil)
                go_simp
                refine hKQ.out _ _ ?_ (fun hNext => ?_)
                · exact hHeld
                clear hKQ KQ hHeld
                refine wpAnyH_done (by kernel_rfl) ?_ _
                clear hNext
                go_wp2_with fail
                go_roundw
                case rel => exact ⟨j + 1, a4, c4, _, by omega, by go_num, by rw [List.length_take, List.length_append], K4.out.2.1, HW.out, K4.out.2.2⟩
                case measure => simp [intOf]; omega
              · go_simp
                refine hKQ.out _ _ ?_ (fun hNext => ?_)
                · exact HAB.out _ (((Below.refl wr.heap.size wr).drew).alloc (Nat.le_refl _) _)
                clear hKQ KQ hHeld
                have hHeld := hNext
                clear hNext
                refine wpAnyH_ready (rs := [2]) (by kernel_rfl) (by simp) (AllReadyH.cons (o := _) rfl (fun KQ hKQ => ?_) AllReadyH.nil)
                go_simp
                refine (HOW.out _ (((Below.refl wr.heap.size wr).drew).alloc (Nat.le_refl _) (.cells #[.int .i64 (j : Int)] 2))).mono ?_
                rintro e WX ⟨a1, c1, rfl, ho1, hb1⟩
                have hbY : Below wr.heap.size wr (wr.drew.alloc (.cells #[.int .i64 (j : Int)] 2)) := (((Below.refl wr.heap.size wr).drew).alloc (Nat.le_refl _) (.cells #[.int .i64 (j : Int)] 2))
                have hbX : Below wr.heap.size wr WX := hbY.trans (hb1.mono hbY.size)
                have hKX : Below wr.heap.size wr WX ∧ WX.ownsRow wr.heap.size 2 1 (.slice a1 s.length c1) s.length (icells (rv s)) ∧ Blk WX wr.heap.size #[.int .i64 (j : Int)] 2 :=
                  ⟨hbX, own_base ho1 hbY.size, (Blk.new wr.drew #[.int .i64 (j : Int)] 2 _ rfl).below hb1 (by simp)⟩
                have HKX := hidd hKX
                clear hKX ho1 hb1 hbY
                go_wp2_with fail
                refine hKQ.out _ _ ?_ (fun hNext => ?_)
                · exact HAB.out _ hbX
                clear hKQ KQ hHeld
                have hHeld := hNext
                clear hNext
                have hKX := HKX.out
                clear HKX hbX
                have KX := hidd (show Below wr.heap.size wr WX ∧ WX.ownsRow wr.heap.size 2 1 (.slice a1 s.length c1) s.length (icells (rv s)) ∧ Blk WX wr.heap.size #[.int .i64 (j : Int)] 2 from hKX)
                clear hKX
                have hsz := KX.out.1.size
                refine wpAnyH_ready (rs := [5]) (by kernel_rfl) (by simp) (AllReadyH.cons (o := _) rfl (fun KQ hKQ => ?_) AllReadyH.nil)
                rw [if_pos (by rfl)]
                refine wp_append_own _ _ _ 25 rfl wr.heap.size 2 t2 (.int .i64 0) 1 8 Tryd.underlying25 HI2.out.1 HI2.out.2.1 HI2.out.2.2.1 HI2.out.2.2.2 rfl (by decide) _ s.length (icells (rv s)) rfl KX.out.2.1 ⟨wr.heap.size, 0, none⟩ 1 1 [.int .i64 (j : Int)] rfl rfl ?c1 ?c2 ?c3 ?c4 ?c5 ?_
                case c1 => intro i u hi; rw [Addr.add_mid]; cases i with
                  | zero => exact KX.out.2.2.cell (by simpa using hi)
                  | succ i => simp at hi
                case c2 => intro u hu; simp at hu; subst hu; rfl
                case c3 => unfold maxLen; omega
                case c4 => omega
                case c5 => omega
                intro v' w3 hown' hgrow _
                have hb3 : Below wr.heap.size wr w3 := KX.out.1.grown hgrow hsz (fun r hr => by
                  rcases KX.out.2.1.2 with ⟨h1, _⟩ | ⟨g', cap', cur', h1, h2, _⟩
                  · rw [h1] at hr; cases hr
                  · rw [h1] at hr; cases hr; exact h2)
                have hrv : icells (rv s) ++ [.int .i64 (j : Int)] = icells (rv (j :: s)) := by rw [rv_cons, icells_app]; rfl
                have hrl : (rv (j :: s)).length = s.length + 1 := by rw [rv_len]; rfl
                rw [hrv, ← hrl] at hown'
                obtain ⟨a3, c3, hv3, ho3⟩ := own_list hown'
                rw [hrl] at hv3
                subst hv3
                have hB3 : BgL w3 a3 (rv (j :: s)) := BgL.ofOwn ho3 (by rw [rv_cons]; simp)
                have K3 := hidd (And.intro hB3 (And.intro (HAW.out.below hb3 (Nat.le_refl _)) (And.intro (HR.out.1.below hb3) (Fr.below hb3 (.slice a' cur.length c')))))
                clear hB3 ho3 hown' hgrow hb3 hrv hrl
                refine hKQ.out _ _ ?_ (fun hNext => ?_)
                · exact HCJ.out _ K3.out.2.1
                clear hKQ KQ hHeld
                have hHeld := hNext
                clear hNext
                simp only [List.getElem_toArray, List.getElem_cons_succ, List.getElem_cons_zero, Act.put, List.setIfInBounds_toArray, List.set_cons_zero, List.set_cons_succ]
                have HG := hidd (HREC.out (j :: s) (by have := HS1.out; simp; omega) (N - (j + 1)) (by omega) w3 a3 c3 a' c' cur K3.out.2.1 K3.out.1 K3.out.2.2.1 hcm)
                rw [← HNX.out, List.length_cons] at HG
                refine wpAnyH_ready (rs := [21]) (by kernel_rfl) (by simp) (AllReadyH.cons (o := _) rfl (fun KQ hKQ => ?_) AllReadyH.nil)
                go_simp
                refine HG.out.mono ?_
                rintro e w4 ⟨a4, c4, rfl, hL4, hF4⟩
                have K4 := hidd (And.intro (K3.out.2.1.grown hF4.1 K3.out.2.2.1.row) (And.intro hL4 (HR.out.2.2.trans (K3.out.2.2.2.trans hF4))))
                clear hL4 hF4
                go_wp2_with fail
                refine hKQ.out _ _ ?_ (fun hNext => ?_)
                · exact HCJ.out _ K4.out.1
                clear hKQ KQ hHeld
                have hHeld := hNext
                clear hNext
                refine wpAnyH_ready (rs := [22]) (by kernel_rfl) (by simp) (AllReadyH.cons (o := _) rfl (fun KQ hKQ => ?_) AllReadyH.nil)
                go_simp
                refine hKQ.out _ _ ?_ (fun hNext => ?_)
                · exact hHeld
                clear hKQ KQ hHeld
                refine wpAnyH_done (by kernel_rfl) ?_ _
                clear hNext
                go_wp2_with fail
                go_roundw
                case rel => exact ⟨j + 1, a4, c4, _, by omega, by go_num, by rw [List.length_take, List.length_append], K4.out.2.1, HW.out, K4.out.2.2⟩
                case measure => simp [intOf]; omega
          · have hcI : decide ((cur.length : Int) < (most : Int)) = false := by simp; omega
            have HE := hidd (way_end HR.out.2.1 (.inr (by omega)))
            go_wp2_with fail
            go_ret
            rw [HLESS.out, ← HE.out]
            exact ⟨a', c', rfl, HR.out.1, HR.out.2.2⟩
        · have hje : j = N := by omega
          subst hje
          have HE := hidd (way_end HR.out.2.1 (.inl (by omega)))
          go_wp2_with fail
          go_ret
          rw [HLESS.out, ← HE.out]
          exact ⟨a', c', rfl, HR.out.1, HR.out.2.2⟩
end Go.Proofs.YtkiocedhibeieaaDoor
/- Triangles of one colour: the program's sum (by the greatest point) and the model's (by the least) are equal. Nothing of the program. -/
namespace Go.Proofs.YtkiocedhibeieaaDoor
set_option linter.unusedVariables false
set_option linter.unusedSimpArgs false
theorem sm_ext {f g : Nat → Nat} (m : Nat) (h : ∀ j, j < m → f j = g j) : sm f m = sm g m := sm_congr m h
theorem sm_cut (f : Nat → Nat) : ∀ (d m : Nat), sm f m = sm (fun i => if i < m then f i else 0) (m + d)
  | 0, m => sm_congr m fun j hj => by rw [if_pos hj]
  | d + 1, m => by
    rw [show m + (d + 1) = (m + d) + 1 by omega, sm, ← sm_cut f d m, if_neg (by omega)]
    rfl
theorem sm_cut' (f : Nat → Nat) {m N : Nat} (h : m ≤ N) : sm f m = sm (fun i => if i < m then f i else 0) N := by
  have := sm_cut f (N - m) m
  rwa [show m + (N - m) = N by omega] at this
theorem sm_if (c : Prop) [Decidable c] (f : Nat → Nat) (N : Nat) : (if c then sm f N else 0) = sm (fun i => if c then f i else 0) N := by
  split
  · rfl
  · exact (sm_zero N).symm
/-- Triples p < q < r by the greatest, then the middle one. -/
def triHi (t : Nat → Nat → Nat → Nat) (N : Nat) : Nat := sm (fun r => sm (fun q => sm (fun p => t p q r) q) r) N
/-- The same by the least, then the middle one. -/
def triLo (t : Nat → Nat → Nat → Nat) (N : Nat) : Nat := sm (fun p => sm (fun q => if p < q then sm (fun r => if q < r then t p q r else 0) N else 0) N) N
theorem tri_eq (t : Nat → Nat → Nat → Nat) (N : Nat) : triHi t N = triLo t N := by
  have h1 : triHi t N = sm (fun r => sm (fun q => sm (fun p => if q < r then (if p < q then t p q r else 0) else 0) N) N) N := by
    refine sm_congr N fun r hr => ?_
    show sm (fun q => sm (fun p => t p q r) q) r = _
    rw [sm_cut' _ (Nat.le_of_lt hr)]
    refine sm_congr N fun q hq => ?_
    rw [sm_cut' (fun p => t p q r) (Nat.le_of_lt hq), sm_if]
  have h2 : triLo t N = sm (fun p => sm (fun q => sm (fun r => if q < r then (if p < q then t p q r else 0) else 0) N) N) N := by
    refine sm_congr N fun p hp => sm_congr N fun q hq => ?_
    show (if p < q then sm (fun r => if q < r then t p q r else 0) N else 0) = _
    rw [sm_if]
    refine sm_congr N fun r hr => ?_
    by_cases ha : p < q <;> by_cases hb : q < r <;> simp [ha, hb]
  rw [h1, h2, sm_swap (fun r q => sm (fun p => if q < r then (if p < q then t p q r else 0) else 0) N) N N]
  rw [sm_congr N (g := fun q => sm (fun p => sm (fun r => if q < r then (if p < q then t p q r else 0) else 0) N) N) fun q hq => sm_swap (fun r p => if q < r then (if p < q then t p q r else 0) else 0) N N]
  rw [sm_swap (fun q p => sm (fun r => if q < r then (if p < q then t p q r else 0) else 0) N) N N]
end Go.Proofs.YtkiocedhibeieaaDoor
/- Triangles counted: by the model (a point, then greater ones) and by the program (an edge, then lesser points). Nothing of the program. -/
namespace Go.Proofs.YtkiocedhibeieaaDoor
set_option linter.unusedVariables false
set_option linter.unusedSimpArgs false
/-- A triangle of the colour c. -/
def tT (bs : List Nat) (c : Int) (p q r : Nat) : Nat := if colAt bs p q = c ∧ colAt bs p r = c ∧ colAt bs q r = c then 1 else 0
def rwN (bs : List Nat) (c : Int) (N : Nat) (p : Nat) : Nat := arK (nbB bs (p : Int) c) N
theorem nbB_ne {bs : List Nat} {c : Int} {p q : Nat} (h : p ≠ q) : nbB bs (p : Int) c q = decide (colAt bs p q = c) := by
  unfold nbB
  rw [decide_eq_true (by omega), Bool.true_and]
theorem rwN_bit {bs : List Nat} {c : Int} {N p q : Nat} (h : p ≠ q) (hq : q < N) : (rwN bs c N p).testBit q = decide (colAt bs p q = c) := by
  unfold rwN
  rw [arK_bit, decide_eq_true hq, Bool.true_and, nbB_ne h]
theorem full_bit {N p : Nat} (h : p < N) : (2 ^ N - 1).testBit p = true := by
  rw [Nat.testBit_two_pow_sub_one]; simp [h]
theorem cC_three (bs : List Nat) (c : Int) (N : Nat) : cC (rwN bs c N) N 3 (2 ^ N - 1) = triLo (tT bs c) N := by
  rw [cC_succ]
  unfold triLo
  refine sm_congr N fun p hp => ?_
  rw [cT, if_pos (full_bit hp), cC_succ]
  refine sm_congr N fun q hq => ?_
  have h1 : (hiB (2 ^ N - 1) (p + 1) &&& rwN bs c N p).testBit q = (decide (p < q) && decide (colAt bs p q = c)) := by
    rw [Nat.testBit_and, hiB_bit, full_bit hq, Bool.and_true]
    by_cases h : p < q
    · rw [rwN_bit (by omega) hq, decide_eq_true (show p + 1 ≤ q by omega), decide_eq_true h]
    · rw [decide_eq_false (show ¬ p + 1 ≤ q by omega), decide_eq_false h]; simp
  rw [cT, h1]
  by_cases h : p < q
  · rw [decide_eq_true h, Bool.true_and, if_pos h]
    by_cases hc : colAt bs p q = c
    · rw [if_pos (by simpa using hc), cC_succ]
      refine sm_congr N fun r hr => ?_
      have h2 : (hiB (hiB (2 ^ N - 1) (p + 1) &&& rwN bs c N p) (q + 1) &&& rwN bs c N q).testBit r = (decide (q < r) && (decide (colAt bs p r = c) && decide (colAt bs q r = c))) := by
        rw [Nat.testBit_and, hiB_bit, Nat.testBit_and, hiB_bit, full_bit hr, Bool.and_true]
        by_cases h' : q < r
        · rw [rwN_bit (by omega) hr, rwN_bit (by omega) hr, decide_eq_true (show q + 1 ≤ r by omega), decide_eq_true (show p + 1 ≤ r by omega), decide_eq_true h']; simp
        · rw [decide_eq_false (show ¬ q + 1 ≤ r by omega), decide_eq_false h']; simp
      rw [cT]
      have h3 : (hiB (2 ^ N - 1) (p + 1) &&& rwN bs c N p).testBit r = (decide (p < r) && decide (colAt bs p r = c)) := by
        rw [Nat.testBit_and, hiB_bit, full_bit hr, Bool.and_true]
        by_cases h' : p < r
        · rw [rwN_bit (by omega) hr, decide_eq_true (show p + 1 ≤ r by omega), decide_eq_true h']
        · rw [decide_eq_false (show ¬ p + 1 ≤ r by omega), decide_eq_false h']; simp
      show (if (hiB (hiB (2 ^ N - 1) (p + 1) &&& rwN bs c N p) (q + 1) &&& rwN bs c N q).testBit r = true then cC (rwN bs c N) N 0 _ else 0) = _
      rw [h2]
      unfold tT
      rw [show cC (rwN bs c N) N 0 (hiB (hiB (hiB (2 ^ N - 1) (p + 1) &&& rwN bs c N p) (q + 1) &&& rwN bs c N q) (r + 1) &&& rwN bs c N r) = 1 from rfl]
      by_cases h' : q < r
      · rw [if_pos h', decide_eq_true h', Bool.true_and]
        by_cases c1 : colAt bs p r = c <;> by_cases c2 : colAt bs q r = c <;> simp [hc, c1, c2]
      · rw [if_neg h', decide_eq_false h', Bool.false_and]; rfl
    · rw [if_neg (by simpa using hc)]
      refine (sm_zero' N fun r hr => ?_).symm
      unfold tT
      split
      · rw [if_neg (fun e => hc e.1)]
      · rfl
  · rw [decide_eq_false h, Bool.false_and, if_neg h]; rfl
/-- What an edge adds, with the lesser points below m. -/
def teF (bs : List Nat) (c : Int) (lo hi : Nat) (p : Nat) : Nat := if colAt bs p lo = c ∧ colAt bs p hi = c then 1 else 0
def teS (bs : List Nat) (c : Int) (t : Nat × Nat × Nat) : Nat := if ((bs.getD t.1 0 : Nat) : Int) = c then sm (teF bs c t.2.1 t.2.2) t.2.1 else 0
def teC (bs : List Nat) (l : List (Nat × Nat × Nat)) (c : Nat) : Nat := l.foldr (fun t s => teS bs (c : Int) t + s) 0
theorem teC_app (bs : List Nat) (c : Nat) : ∀ (a b : List (Nat × Nat × Nat)), teC bs (a ++ b) c = teC bs a c + teC bs b c
  | [], b => by simp [teC]
  | t :: a, b => by
    have := teC_app bs c a b
    unfold teC at *
    rw [List.cons_append, List.foldr_cons, List.foldr_cons, this]; omega
theorem teC_snoc (bs : List Nat) (l : List (Nat × Nat × Nat)) (t : Nat × Nat × Nat) (c : Nat) : teC bs (l ++ [t]) c = teC bs l c + teS bs (c : Int) t := by
  rw [teC_app]; simp [teC]
theorem teC_row (bs : List Nat) (c h : Nat) : ∀ l, teC bs (rowE h l) c = sm (fun q => teS bs (c : Int) (eN h + q, q, h)) l
  | 0 => rfl
  | l + 1 => by rw [rowE_succ, teC_snoc, teC_row bs c h l]; rfl
theorem teC_seq (bs : List Nat) (c : Nat) : ∀ h, teC bs (eseq h) c = sm (fun r => sm (fun q => teS bs (c : Int) (eN r + q, q, r)) r) h
  | 0 => rfl
  | h + 1 => by rw [eseq, teC_app, teC_seq bs c h, teC_row]; rfl
theorem teS_tri (bs : List Nat) (c : Int) {q r : Nat} (h : q < r) : teS bs c (eN r + q, q, r) = sm (fun p => tT bs c p q r) q := by
  unfold teS
  show (if ((bs.getD (eN r + q) 0 : Nat) : Int) = c then sm (teF bs c q r) q else 0) = _
  rw [← colAt_eN bs h, sm_if]
  refine sm_congr q fun p hp => ?_
  unfold tT teF
  by_cases c1 : colAt bs (q : Int) (r : Int) = c <;> by_cases c2 : colAt bs (p : Int) (q : Int) = c <;> by_cases c3 : colAt bs (p : Int) (r : Int) = c <;> simp [c1, c2, c3]
theorem teC_hi (bs : List Nat) (c N : Nat) : teC bs (eseq N) c = triHi (tT bs (c : Int)) N := by
  rw [teC_seq]
  unfold triHi
  exact sm_congr N fun r hr => sm_congr r fun q hq => teS_tri bs (c : Int) hq
theorem teC_cC (bs : List Nat) (c N : Nat) : teC bs (eseq N) c = cC (rwN bs (c : Int) N) N 3 (2 ^ N - 1) := by rw [teC_hi, tri_eq, cC_three]
theorem teS_le (bs : List Nat) (c : Int) (t : Nat × Nat × Nat) : teS bs c t ≤ t.2.1 := by
  unfold teS
  split
  · have := sm_le (f := teF bs c t.2.1 t.2.2) (B := 1) t.2.1 (fun j _ => by unfold teF; split <;> omega)
    omega
  · omega
/-- The counts on their way: the edges that have come, and of the next one the lesser points below m. -/
def teP (bs : List Nat) (l : List (Nat × Nat × Nat)) (t : Nat × Nat × Nat) (m : Nat) (c : Nat) : Nat := teC bs l c + (if ((bs.getD t.1 0 : Nat) : Int) = c then sm (teF bs c t.2.1 t.2.2) m else 0)
theorem teP_zero (bs : List Nat) (l : List (Nat × Nat × Nat)) (t : Nat × Nat × Nat) (c : Nat) : teP bs l t 0 c = teC bs l c := by
  unfold teP; split <;> simp [sm]
theorem teP_done (bs : List Nat) (l : List (Nat × Nat × Nat)) (t : Nat × Nat × Nat) (c : Nat) : teP bs l t t.2.1 c = teC bs (l ++ [t]) c := by
  rw [teC_snoc]; rfl
theorem teP_step (bs : List Nat) (l : List (Nat × Nat × Nat)) (t : Nat × Nat × Nat) (m c : Nat) : teP bs l t (m + 1) c = teP bs l t m c + (if ((bs.getD t.1 0 : Nat) : Int) = c ∧ colAt bs m t.2.1 = c ∧ colAt bs m t.2.2 = c then 1 else 0) := by
  unfold teP
  by_cases h : ((bs.getD t.1 0 : Nat) : Int) = c
  · rw [if_pos h, if_pos h, sm]
    unfold teF
    by_cases hh : colAt bs (m : Int) (t.2.1 : Int) = c ∧ colAt bs (m : Int) (t.2.2 : Int) = c
    · rw [if_pos hh, if_pos ⟨h, hh⟩]; omega
    · rw [if_neg hh, if_neg (fun e => hh e.2)]; omega
  · rw [if_neg h, if_neg h, if_neg (fun e => h e.1)]
end Go.Proofs.YtkiocedhibeieaaDoor
/- CountTriangles: its model. -/
namespace Go.Proofs.YtkiocedhibeieaaDoor
set_option linter.unusedVariables false
set_option linter.unusedSimpArgs false
open Go Go.RowKit Go.Shelf
def ctF (bs : List Nat) (N c : Nat) : Nat := cC (rwN bs (c : Int) N) N 3 (2 ^ N - 1)
def ctList (n k : Int) (bs : List Nat) : List Int := if isCol n k bs then dgL k.toNat (ctF bs n.toNat) else []
theorem fillA_get' {f : Nat → Int} {d j : Nat} (h : j < d) : (fillA f d).getD j 0 = f j := by
  induction d with
  | zero => omega
  | succ d ih =>
    rw [fillA_snoc, List.getD_eq_getElem?_getD]
    by_cases e : j = d
    · subst e; rw [List.getElem?_append_right (by rw [fillA_len]; omega), fillA_len]; simp
    · rw [List.getElem?_append_left (by rw [fillA_len]; omega), ← List.getD_eq_getElem?_getD, ih (by omega)]
theorem rows_rws {N : Nat} (hN : N ≤ 17) (bs : List Nat) (c : Int) : Rws N (rwN bs c N) (fillA (rowF N bs c) N) :=
  ⟨fillA_len _ _, fun p hp => by rw [fillA_get' hp]; rfl, fun p hp => Nat.lt_of_lt_of_le (arK_lt _ _) (Nat.pow_le_pow_right (by omega) hN)⟩
def RelCt (N : Nat) (bs : List Nat) (C : Array Value) (w : World) (d : Nat) (v : Value) (wr : World) : Prop :=
  Blk wr w.heap.size C 28 ∧ wr.ownsRow (w.heap.size + 1) 2 1 v (dgL d (ctF bs N)).length (icells (dgL d (ctF bs N))) ∧ Below w.heap.size w wr
theorem ctF_le (bs : List Nat) {N : Nat} (hN : N ≤ 17) (c : Nat) : ctF bs N c ≤ 4913 := by have := cC_le (R := rwN bs (c : Int) N) hN 3 (2 ^ N - 1); unfold ctF; omega
theorem full_int {N : Nat} (hN : N ≤ 17) : wrap64 (2 ^ N) - 1 = ((2 ^ N - 1 : Nat) : Int) := by
  have h2 : 2 ^ N ≤ 2 ^ 17 := Nat.pow_le_pow_right (by omega) hN
  have h3 : 1 ≤ 2 ^ N := Nat.one_le_two_pow
  have e : (2 : Int) ^ N = ((2 ^ N : Nat) : Int) := by simp
  rw [e]
  generalize 2 ^ N = y at *
  rw [IntWalk.wrap64_in _ ⟨by omega, by omega⟩]; omega
theorem load_row {w : World} {b : Nat} {n k : Int} {bs : List Nat} (hb : Bys bs) (h : Blk w b (ccells n k bs).toArray 28) :
    (Instr.loadAt 28 (.pointer (some ⟨b, 0, none⟩))).run Tryd.prog w = .ok (.agg (ccells n k bs).toArray) w :=
  run_loadAt_mid w b 0 28 (ccells n k bs) _ (h.range 0 _ (fun j v hj => by simpa using hj)) Tryd.underlying28 rfl (by rw [size_c26 n k hb]; simp)
end Go.Proofs.YtkiocedhibeieaaDoor
/- l02List: the cliques of m points, in order, but not more than told. -/
namespace Go.Proofs.YtkiocedhibeieaaDoor
set_option linter.unusedVariables false
set_option linter.unusedSimpArgs false
open Go Go.RowKit Go.Shelf
theorem rwN_irr (bs : List Nat) (c : Int) (N : Nat) : ∀ q, (rwN bs c N q).testBit q = false := fun q => by
  unfold rwN nbB
  rw [arK_bit]; simp
theorem frB_full (R : Nat → Nat) (N : Nat) : frB R N [] N = 2 ^ N - 1 := by
  apply Nat.eq_of_testBit_eq
  intro q
  rw [Nat.testBit_two_pow_sub_one]
  by_cases h : q < N
  · rw [frB_bit h]; simp [h, fitR]
  · unfold frB; rw [arK_high (by omega)]; simp [h]
/-- The cliques of m points of a colour, as lists. -/
def clqL (bs : List Nat) (c : Int) (N m : Nat) : List (List Int) := cqH (rwN bs c N) N m N []
theorem blk_ne28 {W : World} {a b : Nat} {C D : Array Value} (h : Blk W a C 28) (k : Blk W b D 25) : a ≠ b := fun e => by
  subst e
  unfold Blk at h k
  rw [h] at k
  cases k
theorem bg_empty {w : World} {b : Nat} (h : Blk w b #[] 2) : BgL w (some ⟨b, 0, none⟩) (rv []) := ⟨b, #[], rfl, h, by simp [rv], fun j hj => by simp [rv] at hj⟩
theorem ll_empty {w : World} {b : Nat} (h : Blk w b #[] 25) : LL w (.slice (some ⟨b, 0, none⟩) 0 0) [] := ⟨[], ⟨rfl, .inr ⟨b, 0, #[], rfl, Nat.zero_le _, h, Nat.le_refl _, by simp [maxLen], rfl, rfl⟩⟩, fun i zs h => by simp at h⟩
set_option maxRecDepth 100000 in
set_option maxHeartbeats 8000000 in
theorem list45 (N : Nat) (k : Int) (bs : List Nat) (hb : Bys bs) (c : Int) (m most : Nat) (n1 : 1 ≤ N) (hN17 : N ≤ 17) (hm : m ≤ 18) (hm1 : 1 ≤ most) (hm2 : most ≤ 1000) (w : World) :
    Calls Tryd.prog 42 #[.agg (ccells (N : Int) k bs).toArray, .int .i64 c, .int .i64 (m : Int), .int .i64 (most : Int)] w fun e w' => ∃ a' c', e = .returned (.slice a' ((clqL bs c N m).take most).length c') ∧ LL w' (.slice a' ((clqL bs c N m).take most).length c') ((clqL bs c N m).take most) ∧ Below w.heap.size w w' := by
  have HS := hidd (size_c26 (N : Int) k hb)
  have HC0 := hidd (show (ccells (N : Int) k bs).toArray[0]? = some (.int .i64 (N : Int)) from rfl)
  obtain ⟨FU, hFU⟩ : ∃ FU, FU = 2 ^ N - 1 := ⟨_, rfl⟩
  have hFU17 : FU < 2 ^ 17 := by rw [hFU]; have : 2 ^ N ≤ 2 ^ 17 := Nat.pow_le_pow_right (by omega) hN17; have : 1 ≤ 2 ^ N := Nat.one_le_two_pow; omega
  have hu : IntKind.u64.wrap (N : Int) = (N : Int) := by unfold IntKind.wrap; simp [IntKind.signed, IntKind.bits]; omega
  have hmn : min N 64 = N := by omega
  obtain ⟨Y, hY⟩ : ∃ Y : Nat, Y = 2 ^ N := ⟨_, rfl⟩
  have hY17 : Y ≤ 2 ^ 17 := by rw [hY]; exact Nat.pow_le_pow_right (by omega) hN17
  have hY1 : 1 ≤ Y := by rw [hY]; exact Nat.one_le_two_pow
  have hsh : IntKind.i64.wrap (2 ^ N) = (Y : Int) := by rw [show (2 : Int) ^ N = ((2 ^ N : Nat) : Int) by simp, ← hY]; exact IntWalk.i64_in _ (by omega)
  have hfu : IntKind.i64.wrap ((Y : Int) - 1) = (FU : Int) := by rw [IntWalk.i64_in _ (by omega), hFU, ← hY]; omega
  have HRO := hidd (fun W => rows74 N k bs hb c n1 hN17 W)
  have HCB := hidd (fun W (h : Blk W w.heap.size (ccells (N : Int) k bs).toArray 28) => (And.intro h (h.cell HC0.out) : Blk W w.heap.size (ccells (N : Int) k bs).toArray 28 ∧ W.cell? ⟨w.heap.size, 0, none⟩ = some (.int .i64 (N : Int))))
  have HRG := hidd (fun W (h : Blk W w.heap.size (ccells (N : Int) k bs).toArray 28 ∧ W.cell? ⟨w.heap.size, 0, none⟩ = some (.int .i64 (N : Int))) => h.1.range 0 (ccells (N : Int) k bs) (fun j v hj => by simpa using hj))
  have HSZ := hidd (show (Tryd.prog.info? 28).map (·.size) = some (ccells (N : Int) k bs).length by rw [HS.out]; simp)
  have HGO := hidd (fun (a : Option Addr) (cap : Nat) (W : World) (b3 b10 : Nat) (hA : BgL W a (fillA (rowF N bs c) N)) (h3 : Blk W b3 #[] 2) (h10 : Blk W b10 #[] 25) =>
    (show Calls Tryd.prog 71 #[.slice a N cap, .slice (some ⟨b3, 0, none⟩) 0 0, .int .i64 (FU : Int), .int .i64 (m : Int), .slice (some ⟨b10, 0, none⟩) 0 0, .int .i64 (most : Int)] W fun e w' => ∃ a' c', e = .returned (.slice a' ((clqL bs c N m).take most).length c') ∧ LL w' (.slice a' ((clqL bs c N m).take most).length c') ((clqL bs c N m).take most) ∧ Fr W w' (.slice (some ⟨b10, 0, none⟩) 0 0) (.slice a' ((clqL bs c N m).take most).length c') by
      have h := go56 N hN17 (rwN bs c N) (rwN_irr bs c N) _ (rows_rws hN17 bs c) a cap m hm most hm1 hm2 m [] N (by simp) (Nat.le_refl _) W (some ⟨b3, 0, none⟩) 0 (some ⟨b10, 0, none⟩) 0 [] hA (bg_empty h3) (ll_empty h10) (by simp; omega)
      rw [frB_full, ← hFU] at h
      exact h))
  have HNZ := hidd (show fillA (rowF N bs c) N ≠ [] from fun e => by have := fillA_len (rowF N bs c) N; rw [e] at this; simp at this; omega)
  clear hFU hY
  go_enter Tryd.func42, Tryd.ntmps42
  go_wp2_with fail
  obtain ⟨W0, hW0⟩ : ∃ W0, W0 = w.alloc (.cells (ccells (N : Int) k bs).toArray 28) := ⟨_, rfl⟩
  have hB0 : Blk W0 w.heap.size (ccells (N : Int) k bs).toArray 28 ∧ Below w.heap.size w W0 := by rw [hW0]; exact ⟨Blk.new _ _ _ _ rfl, (Below.refl _ _).alloc (Nat.le_refl _) _⟩
  have H0 := hidd hB0
  rw [← hW0]
  clear hB0 hW0
  refine wp_region_held_drew (S := (fun W => Blk W w.heap.size (ccells (N : Int) k bs).toArray 28 ∧ W.cell? ⟨w.heap.size, 0, none⟩ = some (.int .i64 (N : Int)))) (by kernel_rfl) ?_ (fun hHeld => ?_)
  · exact HCB.out _ H0.out.1
  refine wpAnyH_take (i := 0) (oi := _) (v := _) rfl (by kernel_rfl) (by kernel_rfl) (by kernel_rfl) (fun _ _ _ h => h) (yieldsIf_load_mid (by rfl) _ _ rfl _ _ rfl _ _ (HRG.out) Tryd.underlying28 rfl (HSZ.out)) (by assumption) ?_
  simp only [List.getElem_toArray, List.getElem_cons_succ, List.getElem_cons_zero, Act.put, List.setIfInBounds_toArray, List.set_cons_zero, List.set_cons_succ]
  refine wpAnyH_take (i := 1) (oi := _) (v := ?_) rfl (by kernel_rfl) (by kernel_rfl) (by kernel_rfl) (fun _ _ _ h => h) (Or.inl ⟨by rfl, ?_⟩) (by assumption) ?_
  rotate_left
  · intro wX hSw; (try dsimp only at hSw); go_simp; first | done | with_reducible rfl
  simp only [List.getElem_toArray, List.getElem_cons_succ, List.getElem_cons_zero, Act.put, List.setIfInBounds_toArray, List.set_cons_zero, List.set_cons_succ]
  refine wpAnyH_take (i := 4) (oi := _) (v := ?_) rfl (by kernel_rfl) (by kernel_rfl) (by kernel_rfl) (fun _ _ _ h => h) (Or.inl ⟨by rfl, ?_⟩) (by assumption) ?_
  rotate_left
  · intro wX hSw; (try dsimp only at hSw); go_simp; first | done | with_reducible rfl
  simp only [List.getElem_toArray, List.getElem_cons_succ, List.getElem_cons_zero, Act.put, List.setIfInBounds_toArray, List.set_cons_zero, List.set_cons_succ]
  refine wpAnyH_take (i := 5) (oi := _) (v := ?_) rfl (by kernel_rfl) (by kernel_rfl) (by kernel_rfl) (fun _ _ _ h => h) (Or.inl ⟨by rfl, ?_⟩) (by assumption) ?_
  rotate_left
  · intro wX hSw; (try dsimp only at hSw); go_simp; first | done | with_reducible rfl
  simp only [List.getElem_toArray, List.getElem_cons_succ, List.getElem_cons_zero, Act.put, List.setIfInBounds_toArray, List.set_cons_zero, List.set_cons_succ]
  refine wpAnyH_take (i := 6) (oi := _) (v := ?_) rfl (by kernel_rfl) (by kernel_rfl) (by kernel_rfl) (fun _ _ _ h => h) (Or.inl ⟨by rfl, ?_⟩) (by assumption) ?_
  rotate_left
  · intro wX hSw; (try dsimp only at hSw); go_simp; first | done | with_reducible rfl
  simp only [List.getElem_toArray, List.getElem_cons_succ, List.getElem_cons_zero, Act.put, List.setIfInBounds_toArray, List.set_cons_zero, List.set_cons_succ]
  refine wpAnyH_take (i := 7) (oi := _) (v := ?_) rfl (by kernel_rfl) (by kernel_rfl) (by kernel_rfl) (fun _ _ _ h => h) (Or.inl ⟨by rfl, ?_⟩) (by assumption) ?_
  rotate_left
  · intro wX hSw; (try dsimp only at hSw); go_simp; first | done | with_reducible rfl
  simp only [List.getElem_toArray, List.getElem_cons_succ, List.getElem_cons_zero, Act.put, List.setIfInBounds_toArray, List.set_cons_zero, List.set_cons_succ]
  refine wpAnyH_take (i := 8) (oi := _) (v := ?_) rfl (by kernel_rfl) (by kernel_rfl) (by kernel_rfl) (fun _ _ _ h => h) (Or.inl ⟨by rfl, ?_⟩) (by assumption) ?_
  rotate_left
  · intro wX hSw; (try dsimp only at hSw); go_simp; first | done | with_reducible rfl
  simp only [List.getElem_toArray, List.getElem_cons_succ, List.getElem_cons_zero, Act.put, List.setIfInBounds_toArray, List.set_cons_zero, List.set_cons_succ]
  refine wpAnyH_take (i := 9) (oi := _) (v := ?_) rfl (by kernel_rfl) (by kernel_rfl) (by kernel_rfl) (fun _ _ _ h => h) (Or.inl ⟨by rfl, ?_⟩) (by assumption) ?_
  rotate_left
  · intro wX hSw; (try dsimp only at hSw); go_simp; first | done | with_reducible rfl
  simp only [List.getElem_toArray, List.getElem_cons_succ, List.getElem_cons_zero, Act.put, List.setIfInBounds_toArray, List.set_cons_zero, List.set_cons_succ]
  refine wpAnyH_take (i := 11) (oi := _) (v := ?_) rfl (by kernel_rfl) (by kernel_rfl) (by kernel_rfl) (fun _ _ _ h => h) (Or.inl ⟨by rfl, ?_⟩) (by assumption) ?_
  rotate_left
  · intro wX hSw; (try dsimp only at hSw); go_simp; first | done | with_reducible rfl
  simp only [List.getElem_toArray, List.getElem_cons_succ, List.getElem_cons_zero, Act.put, List.setIfInBounds_toArray, List.set_cons_zero, List.set_cons_succ]
  obtain ⟨V0, hV0⟩ : ∃ V0, V0 = W0.drew := ⟨_, rfl⟩
  rw [← hV0] at hHeld ⊢
  have G0 := hidd (show Blk V0 w.heap.size (ccells (N : Int) k bs).toArray 28 ∧ Below w.heap.size w V0 from by rw [hV0]; exact ⟨H0.out.1.drew, H0.out.2.drew⟩)
  clear hV0
  refine wpAnyH_ready (rs := [2, 3, 10]) (by kernel_rfl) (by simp) (AllReadyH.cons (o := _) rfl (fun KQ hKQ => ?_) (AllReadyH.cons (o := _) rfl (fun KQ hKQ => ?_) (AllReadyH.cons (o := _) rfl (fun KQ hKQ => ?_) AllReadyH.nil)))
  · go_simp
    refine (HRO.out _).mono ?_
    rintro e V1 ⟨aX, capX, rfl, hoX, hbX⟩
    have G1 := hidd (show Blk V1 w.heap.size (ccells (N : Int) k bs).toArray 28 ∧ Below w.heap.size w V1 from ⟨G0.out.1.below hbX G0.out.1.lt, G0.out.2.trans (hbX.mono G0.out.2.size)⟩)
    have F2 := hidd (BgL.ofOwn hoX HNZ.out)
    clear hoX hbX
    go_wp2_with fail
    refine hKQ.out _ _ ?_ (fun hNext => ?_)
    · exact HCB.out _ G1.out.1
    clear hKQ KQ hHeld
    have hHeld := hNext
    clear hNext
    refine wpAnyH_ready (rs := [3, 10]) (by kernel_rfl) (by simp) (AllReadyH.cons (o := _) rfl (fun KQ hKQ => ?_) (AllReadyH.cons (o := _) rfl (fun KQ hKQ => ?_) AllReadyH.nil))
    · go_simp
      refine hKQ.out _ _ ?_ (fun hNext => ?_)
      · exact HCB.out _ (G1.out.1.alloc _)
      clear hKQ KQ hHeld
      have hHeld := hNext
      clear hNext
      obtain ⟨V2, hV2⟩ : ∃ V2, V2 = V1.alloc (.cells #[] 2) := ⟨_, rfl⟩
      rw [← hV2] at hHeld ⊢
      have G2 := hidd (show Blk V2 w.heap.size (ccells (N : Int) k bs).toArray 28 ∧ Below w.heap.size w V2 from by rw [hV2]; exact ⟨G1.out.1.alloc _, G1.out.2.alloc G1.out.2.size _⟩)
      have F2 := hidd (F2.out.below ((Below.refl V1.heap.size V1).alloc (Nat.le_refl _) (.cells #[] 2)) (Nat.le_refl _))
      rw [← hV2] at F2
      have F3 := hidd (show Blk V2 V1.heap.size #[] 2 from by rw [hV2]; exact Blk.new _ _ _ _ rfl)
      clear hV2
      refine wpAnyH_ready (rs := [10]) (by kernel_rfl) (by simp) (AllReadyH.cons (o := _) rfl (fun KQ hKQ => ?_) AllReadyH.nil)
      · go_simp
        refine hKQ.out _ _ ?_ (fun hNext => ?_)
        · exact HCB.out _ (G2.out.1.alloc _)
        clear hKQ KQ hHeld
        have hHeld := hNext
        clear hNext
        obtain ⟨V3, hV2⟩ : ∃ V3, V3 = V2.alloc (.cells #[] 25) := ⟨_, rfl⟩
        rw [← hV2] at hHeld ⊢
        have G3 := hidd (show Blk V3 w.heap.size (ccells (N : Int) k bs).toArray 28 ∧ Below w.heap.size w V3 from by rw [hV2]; exact ⟨G2.out.1.alloc _, G2.out.2.alloc G2.out.2.size _⟩)
        have F2 := hidd (F2.out.below ((Below.refl V2.heap.size V2).alloc (Nat.le_refl _) (.cells #[] 25)) (Nat.le_refl _))
        rw [← hV2] at F2
        have F3 := hidd (F3.out.alloc (.cells #[] 25))
        rw [← hV2] at F3
        have F10 := hidd (show Blk V3 V2.heap.size #[] 25 ∧ w.heap.size ≤ V2.heap.size from by rw [hV2]; exact ⟨Blk.new _ _ _ _ rfl, G2.out.2.size⟩)
        clear hV2
        refine wpAnyH_ready (rs := [12]) (by kernel_rfl) (by simp) (AllReadyH.cons (o := _) rfl (fun KQ hKQ => ?_) AllReadyH.nil)
        go_simp
        refine (HGO.out _ _ _ _ _ F2.out F3.out F10.out.1).mono ?_
        rintro e W4 ⟨a4, c4, rfl, hL4, hF4⟩
        have hb10 := F10.out.2
        have hbZ : Below w.heap.size w W4 := G3.out.2.grown hF4.1 G3.out.2.size (fun r hr => by cases hr; exact hb10)
        have hbC : Blk W4 w.heap.size (ccells (N : Int) k bs).toArray 28 := (hF4.1.block _ G3.out.1.lt (fun e => blk_ne28 G3.out.1 F10.out.1 (Option.some.inj e))).trans G3.out.1
        have K := hidd (And.intro hL4 (And.intro hbZ hbC))
        clear hL4 hF4 hbZ hbC
        go_wp2_with fail
        refine hKQ.out _ _ ?_ (fun hNext => ?_)
        · exact HCB.out _ K.out.2.2
        clear hKQ KQ hHeld
        have hHeld := hNext
        clear hNext
        refine wpAnyH_ready (rs := [13]) (by kernel_rfl) (by simp) (AllReadyH.cons (o := _) rfl (fun KQ hKQ => ?_) AllReadyH.nil)
        go_simp
        refine hKQ.out _ _ ?_ (fun hNext => ?_)
        · exact hHeld
        clear hKQ KQ hHeld
        refine wpAnyH_done (by kernel_rfl) ?_ _
        clear hNext
        go_wp2_with fail
        go_ret
        exact ⟨a4, c4, by first | rfl | (rw [List.length_take]; rfl), K.out.1, K.out.2.1⟩
    · go_simp
      refine hKQ.out _ _ ?_ (fun hNext => ?_)
      · exact HCB.out _ (G1.out.1.alloc _)
      clear hKQ KQ hHeld
      have hHeld := hNext
      clear hNext
      obtain ⟨V4, hV2⟩ : ∃ V4, V4 = V1.alloc (.cells #[] 25) := ⟨_, rfl⟩
      rw [← hV2] at hHeld ⊢
      have G4 := hidd (show Blk V4 w.heap.size (ccells (N : Int) k bs).toArray 28 ∧ Below w.heap.size w V4 from by rw [hV2]; exact ⟨G1.out.1.alloc _, G1.out.2.alloc G1.out.2.size _⟩)
      have F2 := hidd (F2.out.below ((Below.refl V1.heap.size V1).alloc (Nat.le_refl _) (.cells #[] 25)) (Nat.le_refl _))
      rw [← hV2] at F2
      have F10 := hidd (show Blk V4 V1.heap.size #[] 25 ∧ w.heap.size ≤ V1.heap.size from by rw [hV2]; exact ⟨Blk.new _ _ _ _ rfl, G1.out.2.size⟩)
      clear hV2
      refine wpAnyH_ready (rs := [3]) (by kernel_rfl) (by simp) (AllReadyH.cons (o := _) rfl (fun KQ hKQ => ?_) AllReadyH.nil)
      · go_simp
        refine hKQ.out _ _ ?_ (fun hNext => ?_)
        · exact HCB.out _ (G4.out.1.alloc _)
        clear hKQ KQ hHeld
        have hHeld := hNext
        clear hNext
        obtain ⟨V5, hV2⟩ : ∃ V5, V5 = V4.alloc (.cells #[] 2) := ⟨_, rfl⟩
        rw [← hV2] at hHeld ⊢
        have G5 := hidd (show Blk V5 w.heap.size (ccells (N : Int) k bs).toArray 28 ∧ Below w.heap.size w V5 from by rw [hV2]; exact ⟨G4.out.1.alloc _, G4.out.2.alloc G4.out.2.size _⟩)
        have F2 := hidd (F2.out.below ((Below.refl V4.heap.size V4).alloc (Nat.le_refl _) (.cells #[] 2)) (Nat.le_refl _))
        rw [← hV2] at F2
        have F10 := hidd (And.intro (F10.out.1.alloc (.cells #[] 2)) F10.out.2)
        rw [← hV2] at F10
        have F3 := hidd (show Blk V5 V4.heap.size #[] 2 from by rw [hV2]; exact Blk.new _ _ _ _ rfl)
        clear hV2
        refine wpAnyH_ready (rs := [12]) (by kernel_rfl) (by simp) (AllReadyH.cons (o := _) rfl (fun KQ hKQ => ?_) AllReadyH.nil)
        go_simp
        refine (HGO.out _ _ _ _ _ F2.out F3.out F10.out.1).mono ?_
        rintro e W4 ⟨a4, c4, rfl, hL4, hF4⟩
        have hb10 := F10.out.2
        have hbZ : Below w.heap.size w W4 := G5.out.2.grown hF4.1 G5.out.2.size (fun r hr => by cases hr; exact hb10)
        have hbC : Blk W4 w.heap.size (ccells (N : Int) k bs).toArray 28 := (hF4.1.block _ G5.out.1.lt (fun e => blk_ne28 G5.out.1 F10.out.1 (Option.some.inj e))).trans G5.out.1
        have K := hidd (And.intro hL4 (And.intro hbZ hbC))
        clear hL4 hF4 hbZ hbC
        go_wp2_with fail
        refine hKQ.out _ _ ?_ (fun hNext => ?_)
        · exact HCB.out _ K.out.2.2
        clear hKQ KQ hHeld
        have hHeld := hNext
        clear hNext
        refine wpAnyH_ready (rs := [13]) (by kernel_rfl) (by simp) (AllReadyH.cons (o := _) rfl (fun KQ hKQ => ?_) AllReadyH.nil)
        go_simp
        refine hKQ.out _ _ ?_ (fun hNext => ?_)
        · exact hHeld
        clear hKQ KQ hHeld
        refine wpAnyH_done (by kernel_rfl) ?_ _
        clear hNext
        go_wp2_with fail
        go_ret
        exact ⟨a4, c4, by first | rfl | (rw [List.length_take]; rfl), K.out.1, K.out.2.1⟩
  · go_simp
    refine hKQ.out _ _ ?_ (fun hNext => ?_)
    · exact HCB.out _ (G0.out.1.alloc _)
    clear hKQ KQ hHeld
    have hHeld := hNext
    clear hNext
    obtain ⟨V6, hV2⟩ : ∃ V6, V6 = V0.alloc (.cells #[] 2) := ⟨_, rfl⟩
    rw [← hV2] at hHeld ⊢
    have G6 := hidd (show Blk V6 w.heap.size (ccells (N : Int) k bs).toArray 28 ∧ Below w.heap.size w V6 from by rw [hV2]; exact ⟨G0.out.1.alloc _, G0.out.2.alloc G0.out.2.size _⟩)
    have F3 := hidd (show Blk V6 V0.heap.size #[] 2 from by rw [hV2]; exact Blk.new _ _ _ _ rfl)
    clear hV2
    refine wpAnyH_ready (rs := [2, 10]) (by kernel_rfl) (by simp) (AllReadyH.cons (o := _) rfl (fun KQ hKQ => ?_) (AllReadyH.cons (o := _) rfl (fun KQ hKQ => ?_) AllReadyH.nil))
    · go_simp
      refine (HRO.out _).mono ?_
      rintro e V7 ⟨aX, capX, rfl, hoX, hbX⟩
      have G7 := hidd (show Blk V7 w.heap.size (ccells (N : Int) k bs).toArray 28 ∧ Below w.heap.size w V7 from ⟨G6.out.1.below hbX G6.out.1.lt, G6.out.2.trans (hbX.mono G6.out.2.size)⟩)
      have F2 := hidd (BgL.ofOwn hoX HNZ.out)
      have F3 := hidd (F3.out.below hbX F3.out.lt)
      clear hoX hbX
      go_wp2_with fail
      refine hKQ.out _ _ ?_ (fun hNext => ?_)
      · exact HCB.out _ G7.out.1
      clear hKQ KQ hHeld
      have hHeld := hNext
      clear hNext
      refine wpAnyH_ready (rs := [10]) (by kernel_rfl) (by simp) (AllReadyH.cons (o := _) rfl (fun KQ hKQ => ?_) AllReadyH.nil)
      · go_simp
        refine hKQ.out _ _ ?_ (fun hNext => ?_)
        · exact HCB.out _ (G7.out.1.alloc _)
        clear hKQ KQ hHeld
        have hHeld := hNext
        clear hNext
        obtain ⟨V8, hV2⟩ : ∃ V8, V8 = V7.alloc (.cells #[] 25) := ⟨_, rfl⟩
        rw [← hV2] at hHeld ⊢
        have G8 := hidd (show Blk V8 w.heap.size (ccells (N : Int) k bs).toArray 28 ∧ Below w.heap.size w V8 from by rw [hV2]; exact ⟨G7.out.1.alloc _, G7.out.2.alloc G7.out.2.size _⟩)
        have F2 := hidd (F2.out.below ((Below.refl V7.heap.size V7).alloc (Nat.le_refl _) (.cells #[] 25)) (Nat.le_refl _))
        rw [← hV2] at F2
        have F3 := hidd (F3.out.alloc (.cells #[] 25))
        rw [← hV2] at F3
        have F10 := hidd (show Blk V8 V7.heap.size #[] 25 ∧ w.heap.size ≤ V7.heap.size from by rw [hV2]; exact ⟨Blk.new _ _ _ _ rfl, G7.out.2.size⟩)
        clear hV2
        refine wpAnyH_ready (rs := [12]) (by kernel_rfl) (by simp) (AllReadyH.cons (o := _) rfl (fun KQ hKQ => ?_) AllReadyH.nil)
        go_simp
        refine (HGO.out _ _ _ _ _ F2.out F3.out F10.out.1).mono ?_
        rintro e W4 ⟨a4, c4, rfl, hL4, hF4⟩
        have hb10 := F10.out.2
        have hbZ : Below w.heap.size w W4 := G8.out.2.grown hF4.1 G8.out.2.size (fun r hr => by cases hr; exact hb10)
        have hbC : Blk W4 w.heap.size (ccells (N : Int) k bs).toArray 28 := (hF4.1.block _ G8.out.1.lt (fun e => blk_ne28 G8.out.1 F10.out.1 (Option.some.inj e))).trans G8.out.1
        have K := hidd (And.intro hL4 (And.intro hbZ hbC))
        clear hL4 hF4 hbZ hbC
        go_wp2_with fail
        refine hKQ.out _ _ ?_ (fun hNext => ?_)
        · exact HCB.out _ K.out.2.2
        clear hKQ KQ hHeld
        have hHeld := hNext
        clear hNext
        refine wpAnyH_ready (rs := [13]) (by kernel_rfl) (by simp) (AllReadyH.cons (o := _) rfl (fun KQ hKQ => ?_) AllReadyH.nil)
        go_simp
        refine hKQ.out _ _ ?_ (fun hNext => ?_)
        · exact hHeld
        clear hKQ KQ hHeld
        refine wpAnyH_done (by kernel_rfl) ?_ _
        clear hNext
        go_wp2_with fail
        go_ret
        exact ⟨a4, c4, by first | rfl | (rw [List.length_take]; rfl), K.out.1, K.out.2.1⟩
    · go_simp
      refine hKQ.out _ _ ?_ (fun hNext => ?_)
      · exact HCB.out _ (G6.out.1.alloc _)
      clear hKQ KQ hHeld
      have hHeld := hNext
      clear hNext
      obtain ⟨V9, hV2⟩ : ∃ V9, V9 = V6.alloc (.cells #[] 25) := ⟨_, rfl⟩
      rw [← hV2] at hHeld ⊢
      have G9 := hidd (show Blk V9 w.heap.size (ccells (N : Int) k bs).toArray 28 ∧ Below w.heap.size w V9 from by rw [hV2]; exact ⟨G6.out.1.alloc _, G6.out.2.alloc G6.out.2.size _⟩)
      have F3 := hidd (F3.out.alloc (.cells #[] 25))
      rw [← hV2] at F3
      have F10 := hidd (show Blk V9 V6.heap.size #[] 25 ∧ w.heap.size ≤ V6.heap.size from by rw [hV2]; exact ⟨Blk.new _ _ _ _ rfl, G6.out.2.size⟩)
      clear hV2
      refine wpAnyH_ready (rs := [2]) (by kernel_rfl) (by simp) (AllReadyH.cons (o := _) rfl (fun KQ hKQ => ?_) AllReadyH.nil)
      · go_simp
        refine (HRO.out _).mono ?_
        rintro e V10 ⟨aX, capX, rfl, hoX, hbX⟩
        have G10 := hidd (show Blk V10 w.heap.size (ccells (N : Int) k bs).toArray 28 ∧ Below w.heap.size w V10 from ⟨G9.out.1.below hbX G9.out.1.lt, G9.out.2.trans (hbX.mono G9.out.2.size)⟩)
        have F2 := hidd (BgL.ofOwn hoX HNZ.out)
        have F3 := hidd (F3.out.below hbX F3.out.lt)
        have F10 := hidd (And.intro (F10.out.1.below hbX F10.out.1.lt) F10.out.2)
        clear hoX hbX
        go_wp2_with fail
        refine hKQ.out _ _ ?_ (fun hNext => ?_)
        · exact HCB.out _ G10.out.1
        clear hKQ KQ hHeld
        have hHeld := hNext
        clear hNext
        refine wpAnyH_ready (rs := [12]) (by kernel_rfl) (by simp) (AllReadyH.cons (o := _) rfl (fun KQ hKQ => ?_) AllReadyH.nil)
        go_simp
        refine (HGO.out _ _ _ _ _ F2.out F3.out F10.out.1).mono ?_
        rintro e W4 ⟨a4, c4, rfl, hL4, hF4⟩
        have hb10 := F10.out.2
        have hbZ : Below w.heap.size w W4 := G10.out.2.grown hF4.1 G10.out.2.size (fun r hr => by cases hr; exact hb10)
        have hbC : Blk W4 w.heap.size (ccells (N : Int) k bs).toArray 28 := (hF4.1.block _ G10.out.1.lt (fun e => blk_ne28 G10.out.1 F10.out.1 (Option.some.inj e))).trans G10.out.1
        have K := hidd (And.intro hL4 (And.intro hbZ hbC))
        clear hL4 hF4 hbZ hbC
        go_wp2_with fail
        refine hKQ.out _ _ ?_ (fun hNext => ?_)
        · exact HCB.out _ K.out.2.2
        clear hKQ KQ hHeld
        have hHeld := hNext
        clear hNext
        refine wpAnyH_ready (rs := [13]) (by kernel_rfl) (by simp) (AllReadyH.cons (o := _) rfl (fun KQ hKQ => ?_) AllReadyH.nil)
        go_simp
        refine hKQ.out _ _ ?_ (fun hNext => ?_)
        · exact hHeld
        clear hKQ KQ hHeld
        refine wpAnyH_done (by kernel_rfl) ?_ _
        clear hNext
        go_wp2_with fail
        go_ret
        exact ⟨a4, c4, by first | rfl | (rw [List.length_take]; rfl), K.out.1, K.out.2.1⟩
  · go_simp
    refine hKQ.out _ _ ?_ (fun hNext => ?_)
    · exact HCB.out _ (G0.out.1.alloc _)
    clear hKQ KQ hHeld
    have hHeld := hNext
    clear hNext
    obtain ⟨V11, hV2⟩ : ∃ V11, V11 = V0.alloc (.cells #[] 25) := ⟨_, rfl⟩
    rw [← hV2] at hHeld ⊢
    have G11 := hidd (show Blk V11 w.heap.size (ccells (N : Int) k bs).toArray 28 ∧ Below w.heap.size w V11 from by rw [hV2]; exact ⟨G0.out.1.alloc _, G0.out.2.alloc G0.out.2.size _⟩)
    have F10 := hidd (show Blk V11 V0.heap.size #[] 25 ∧ w.heap.size ≤ V0.heap.size from by rw [hV2]; exact ⟨Blk.new _ _ _ _ rfl, G0.out.2.size⟩)
    clear hV2
    refine wpAnyH_ready (rs := [2, 3]) (by kernel_rfl) (by simp) (AllReadyH.cons (o := _) rfl (fun KQ hKQ => ?_) (AllReadyH.cons (o := _) rfl (fun KQ hKQ => ?_) AllReadyH.nil))
    · go_simp
      refine (HRO.out _).mono ?_
      rintro e V12 ⟨aX, capX, rfl, hoX, hbX⟩
      have G12 := hidd (show Blk V12 w.heap.size (ccells (N : Int) k bs).toArray 28 ∧ Below w.heap.size w V12 from ⟨G11.out.1.below hbX G11.out.1.lt, G11.out.2.trans (hbX.mono G11.out.2.size)⟩)
      have F2 := hidd (BgL.ofOwn hoX HNZ.out)
      have F10 := hidd (And.intro (F10.out.1.below hbX F10.out.1.lt) F10.out.2)
      clear hoX hbX
      go_wp2_with fail
      refine hKQ.out _ _ ?_ (fun hNext => ?_)
      · exact HCB.out _ G12.out.1
      clear hKQ KQ hHeld
      have hHeld := hNext
      clear hNext
      refine wpAnyH_ready (rs := [3]) (by kernel_rfl) (by simp) (AllReadyH.cons (o := _) rfl (fun KQ hKQ => ?_) AllReadyH.nil)
      · go_simp
        refine hKQ.out _ _ ?_ (fun hNext => ?_)
        · exact HCB.out _ (G12.out.1.alloc _)
        clear hKQ KQ hHeld
        have hHeld := hNext
        clear hNext
        obtain ⟨V13, hV2⟩ : ∃ V13, V13 = V12.alloc (.cells #[] 2) := ⟨_, rfl⟩
        rw [← hV2] at hHeld ⊢
        have G13 := hidd (show Blk V13 w.heap.size (ccells (N : Int) k bs).toArray 28 ∧ Below w.heap.size w V13 from by rw [hV2]; exact ⟨G12.out.1.alloc _, G12.out.2.alloc G12.out.2.size _⟩)
        have F2 := hidd (F2.out.below ((Below.refl V12.heap.size V12).alloc (Nat.le_refl _) (.cells #[] 2)) (Nat.le_refl _))
        rw [← hV2] at F2
        have F10 := hidd (And.intro (F10.out.1.alloc (.cells #[] 2)) F10.out.2)
        rw [← hV2] at F10
        have F3 := hidd (show Blk V13 V12.heap.size #[] 2 from by rw [hV2]; exact Blk.new _ _ _ _ rfl)
        clear hV2
        refine wpAnyH_ready (rs := [12]) (by kernel_rfl) (by simp) (AllReadyH.cons (o := _) rfl (fun KQ hKQ => ?_) AllReadyH.nil)
        go_simp
        refine (HGO.out _ _ _ _ _ F2.out F3.out F10.out.1).mono ?_
        rintro e W4 ⟨a4, c4, rfl, hL4, hF4⟩
        have hb10 := F10.out.2
        have hbZ : Below w.heap.size w W4 := G13.out.2.grown hF4.1 G13.out.2.size (fun r hr => by cases hr; exact hb10)
        have hbC : Blk W4 w.heap.size (ccells (N : Int) k bs).toArray 28 := (hF4.1.block _ G13.out.1.lt (fun e => blk_ne28 G13.out.1 F10.out.1 (Option.some.inj e))).trans G13.out.1
        have K := hidd (And.intro hL4 (And.intro hbZ hbC))
        clear hL4 hF4 hbZ hbC
        go_wp2_with fail
        refine hKQ.out _ _ ?_ (fun hNext => ?_)
        · exact HCB.out _ K.out.2.2
        clear hKQ KQ hHeld
        have hHeld := hNext
        clear hNext
        refine wpAnyH_ready (rs := [13]) (by kernel_rfl) (by simp) (AllReadyH.cons (o := _) rfl (fun KQ hKQ => ?_) AllReadyH.nil)
        go_simp
        refine hKQ.out _ _ ?_ (fun hNext => ?_)
        · exact hHeld
        clear hKQ KQ hHeld
        refine wpAnyH_done (by kernel_rfl) ?_ _
        clear hNext
        go_wp2_with fail
        go_ret
        exact ⟨a4, c4, by first | rfl | (rw [List.length_take]; rfl), K.out.1, K.out.2.1⟩
    · go_simp
      refine hKQ.out _ _ ?_ (fun hNext => ?_)
      · exact HCB.out _ (G11.out.1.alloc _)
      clear hKQ KQ hHeld
      have hHeld := hNext
      clear hNext
      obtain ⟨V14, hV2⟩ : ∃ V14, V14 = V11.alloc (.cells #[] 2) := ⟨_, rfl⟩
      rw [← hV2] at hHeld ⊢
      have G14 := hidd (show Blk V14 w.heap.size (ccells (N : Int) k bs).toArray 28 ∧ Below w.heap.size w V14 from by rw [hV2]; exact ⟨G11.out.1.alloc _, G11.out.2.alloc G11.out.2.size _⟩)
      have F10 := hidd (And.intro (F10.out.1.alloc (.cells #[] 2)) F10.out.2)
      rw [← hV2] at F10
      have F3 := hidd (show Blk V14 V11.heap.size #[] 2 from by rw [hV2]; exact Blk.new _ _ _ _ rfl)
      clear hV2
      refine wpAnyH_ready (rs := [2]) (by kernel_rfl) (by simp) (AllReadyH.cons (o := _) rfl (fun KQ hKQ => ?_) AllReadyH.nil)
      · go_simp
        refine (HRO.out _).mono ?_
        rintro e V15 ⟨aX, capX, rfl, hoX, hbX⟩
        have G15 := hidd (show Blk V15 w.heap.size (ccells (N : Int) k bs).toArray 28 ∧ Below w.heap.size w V15 from ⟨G14.out.1.below hbX G14.out.1.lt, G14.out.2.trans (hbX.mono G14.out.2.size)⟩)
        have F2 := hidd (BgL.ofOwn hoX HNZ.out)
        have F3 := hidd (F3.out.below hbX F3.out.lt)
        have F10 := hidd (And.intro (F10.out.1.below hbX F10.out.1.lt) F10.out.2)
        clear hoX hbX
        go_wp2_with fail
        refine hKQ.out _ _ ?_ (fun hNext => ?_)
        · exact HCB.out _ G15.out.1
        clear hKQ KQ hHeld
        have hHeld := hNext
        clear hNext
        refine wpAnyH_ready (rs := [12]) (by kernel_rfl) (by simp) (AllReadyH.cons (o := _) rfl (fun KQ hKQ => ?_) AllReadyH.nil)
        go_simp
        refine (HGO.out _ _ _ _ _ F2.out F3.out F10.out.1).mono ?_
        rintro e W4 ⟨a4, c4, rfl, hL4, hF4⟩
        have hb10 := F10.out.2
        have hbZ : Below w.heap.size w W4 := G15.out.2.grown hF4.1 G15.out.2.size (fun r hr => by cases hr; exact hb10)
        have hbC : Blk W4 w.heap.size (ccells (N : Int) k bs).toArray 28 := (hF4.1.block _ G15.out.1.lt (fun e => blk_ne28 G15.out.1 F10.out.1 (Option.some.inj e))).trans G15.out.1
        have K := hidd (And.intro hL4 (And.intro hbZ hbC))
        clear hL4 hF4 hbZ hbC
        go_wp2_with fail
        refine hKQ.out _ _ ?_ (fun hNext => ?_)
        · exact HCB.out _ K.out.2.2
        clear hKQ KQ hHeld
        have hHeld := hNext
        clear hNext
        refine wpAnyH_ready (rs := [13]) (by kernel_rfl) (by simp) (AllReadyH.cons (o := _) rfl (fun KQ hKQ => ?_) AllReadyH.nil)
        go_simp
        refine hKQ.out _ _ ?_ (fun hNext => ?_)
        · exact hHeld
        clear hKQ KQ hHeld
        refine wpAnyH_done (by kernel_rfl) ?_ _
        clear hNext
        go_wp2_with fail
        go_ret
        exact ⟨a4, c4, by first | rfl | (rw [List.length_take]; rfl), K.out.1, K.out.2.1⟩
end Go.Proofs.YtkiocedhibeieaaDoor
/- AvoidsSizes: its model. -/
namespace Go.Proofs.YtkiocedhibeieaaDoor
set_option linter.unusedVariables false
set_option linter.unusedSimpArgs false
open Go Go.RowKit Go.Shelf
theorem cell_below {w w' : World} {p : Addr} {v : Value} (h : w.cell? p = some v) (hb : Below w.heap.size w w') : w'.cell? p = some v := by
  rw [World.cell?_of_block (hb.block _ (World.block_lt_of_cell? w p h))]; exact h
def szP (zs : List Int) (d : Nat) : Bool := (List.range d).all fun j => inB (zs.getD j 0) 1 17
theorem szP_step (zs : List Int) (d : Nat) : szP zs (d + 1) = (szP zs d && inB (zs.getD d 0) 1 17) := by simp [szP, List.range_succ]
theorem szP_get {zs : List Int} {d j : Nat} (h : szP zs d = true) (hj : j < d) : inB (zs.getD j 0) 1 17 = true := List.all_eq_true.1 h j (List.mem_range.2 hj)
theorem szP_fall {zs : List Int} {d m : Nat} (h : inB (zs.getD d 0) 1 17 = false) (hm : d < m) : szP zs m = false := by
  unfold szP
  rw [List.all_eq_false]
  exact ⟨d, List.mem_range.2 hm, by rw [h]; simp⟩
def szOk (k : Int) (zs : List Int) : Bool := decide ((zs.length : Int) = k) && szP zs zs.length
def szCode (n k : Int) (bs : List Nat) (zs : List Int) : Int := if isCol n k bs then (if szOk k zs then 0 else 2) else 1
theorem szCode_1 {n k : Int} {bs : List Nat} {zs : List Int} (h : isCol n k bs = false) : szCode n k bs zs = 1 := by simp [szCode, h]
theorem szCode_2 {n k : Int} {bs : List Nat} {zs : List Int} (h : isCol n k bs = true) (h2 : szOk k zs = false) : szCode n k bs zs = 2 := by simp [szCode, h, h2]
theorem szCode_0 {n k : Int} {bs : List Nat} {zs : List Int} (h : isCol n k bs = true) (h2 : szOk k zs = true) : szCode n k bs zs = 0 := by simp [szCode, h, h2]
/-- Is there no clique of the size of one of the first d colours? -/
def avP (N : Nat) (bs : List Nat) (zs : List Int) (d : Nat) : Bool := (List.range d).all fun c => (clqL bs (c : Int) N (zs.getD c 0).toNat).isEmpty
theorem avP_step (N : Nat) (bs : List Nat) (zs : List Int) (d : Nat) : avP N bs zs (d + 1) = (avP N bs zs d && (clqL bs (d : Int) N (zs.getD d 0).toNat).isEmpty) := by simp [avP, List.range_succ]
theorem avP_fall {N : Nat} {bs : List Nat} {zs : List Int} {d m : Nat} (h : (clqL bs (d : Int) N (zs.getD d 0).toNat).isEmpty = false) (hm : d < m) : avP N bs zs m = false := by
  unfold avP
  rw [List.all_eq_false]
  exact ⟨d, List.mem_range.2 hm, by rw [h]; simp⟩
def avB (n k : Int) (bs : List Nat) (zs : List Int) : Bool := decide (szCode n k bs zs = 0) && avP n.toNat bs zs k.toNat
set_option maxRecDepth 100000 in
set_option maxHeartbeats 2000000 in
theorem sizes28 (n k : Int) (bs : List Nat) (hb : Bys bs) (zs : List Int) (a : Option Addr) (cap : Nat) (w : World) (hs : SlI w a zs) (hl : zs.length ≤ 1048576) :
    Calls Tryd.prog 41 #[.agg (ccells n k bs).toArray, .slice a zs.length cap] w fun e w' => e = .returned (.int .i64 (szCode n k bs zs)) ∧ Below w.heap.size w w' := by
  have HS := hidd (size_c26 n k hb)
  have HC1 := hidd (show (ccells n k bs).toArray[1]? = some (.int .i64 k) from rfl)
  have HSL := hidd hs
  cases hi : isCol n k bs with
  | false =>
    have HI := hidd hi
    rw [szCode_1 hi]
    clear hi hs
    go_enter Tryd.func41, Tryd.ntmps41
    go_wp2_with (refine wpList_load_row rfl 28 (.tmp 2) rfl w.heap.size rfl 28 _ (0,0) _ (Blk.new _ _ _ _ rfl) Tryd.underlying28 rfl HS.out ?_)
    refine (l01Is_any n k bs hb _).mono ?_
    rintro e w1 ⟨rfl, hb1⟩
    rw [HI.out]
    have G := hidd (((Below.refl w.heap.size w).alloc (Nat.le_refl _) (.cells (ccells n k bs).toArray 28)).trans (hb1.mono (by simp)))
    clear hb1
    go_wp2_with fail
    go_ret
    exact ⟨rfl, G.out⟩
  | true =>
    obtain ⟨n1, n2, k1, k2⟩ := isCol_bd hi
    have HI := hidd hi
    cases hlk : decide ((zs.length : Int) = k) with
    | false =>
      have hne : ((zs.length : Int) != k) = true := by rw [bne_iff_ne]; exact of_decide_eq_false hlk
      rw [szCode_2 hi (by unfold szOk; rw [hlk]; rfl)]
      clear hi hlk hs
      go_enter Tryd.func41, Tryd.ntmps41
      go_wp2_with (refine wpList_load_row rfl 28 (.tmp 2) rfl w.heap.size rfl 28 _ (0,0) _ (Blk.new _ _ _ _ rfl) Tryd.underlying28 rfl HS.out ?_)
      refine (l01Is_any n k bs hb _).mono ?_
      rintro e w1 ⟨rfl, hb1⟩
      rw [HI.out]
      have c1 := ((Blk.new w (ccells n k bs).toArray 28 _ rfl).below hb1 (by simp)).cell HC1.out
      have G := hidd (((Below.refl w.heap.size w).alloc (Nat.le_refl _) (.cells (ccells n k bs).toArray 28)).trans (hb1.mono (by simp)))
      clear hb1
      go_wp2_with fail
      go_ret
      exact ⟨rfl, G.out⟩
    | true =>
      have hne : ((zs.length : Int) != k) = false := by rw [bne_eq_false_iff_eq]; exact of_decide_eq_true hlk
      have hsz : szCode n k bs zs = if szP zs zs.length then 0 else 2 := by unfold szCode szOk; rw [hi, hlk, if_pos rfl, Bool.true_and]
      obtain ⟨cd, hcd⟩ : ∃ cd, cd = szCode n k bs zs := ⟨_, rfl⟩
      rw [← hcd]
      rw [hsz] at hcd
      have HCD := hidd hcd
      clear hi hlk hs hsz hcd
      go_enter Tryd.func41, Tryd.ntmps41
      go_wp2_with (refine wpList_load_row rfl 28 (.tmp 2) rfl w.heap.size rfl 28 _ (0,0) _ (Blk.new _ _ _ _ rfl) Tryd.underlying28 rfl HS.out ?_)
      refine (l01Is_any n k bs hb _).mono ?_
      rintro e w1 ⟨rfl, hb1⟩
      rw [HI.out]
      have c1 := ((Blk.new w (ccells n k bs).toArray 28 _ rfl).below hb1 (by simp)).cell HC1.out
      have G := hidd (((Below.refl w.heap.size w).alloc (Nat.le_refl _) (.cells (ccells n k bs).toArray 28)).trans (hb1.mono (by simp)))
      clear hb1
      go_wp2_with fail
      go_loopw [5] (fun e wr => ∃ j : Nat, j ≤ zs.length ∧ e = .int .i64 (j : Int) ∧ Hid (szP zs j = true ∧ Below w.heap.size w wr)) (fun e _ => zs.length - (intOf e).toNat)
      case atStart => exact ⟨0, Nat.zero_le _, rfl, rfl, G.out⟩
      case round =>
        obtain ⟨j, hj, rfl, HK⟩ := hrel
        by_cases hlt : j < zs.length
        · have hltI : decide ((j : Int) < (zs.length : Int)) = true := by simp; omega
          rcases HSL.out with hz | ⟨bl, off, ha, hc⟩
          · rw [hz] at hlt; simp at hlt
          · subst ha
            have cj := cell_below (hc j hlt) HK.out.2
            obtain ⟨z, hzz⟩ : ∃ z, z = zs.getD j 0 := ⟨_, rfl⟩
            rw [← hzz] at cj
            have hst := szP_step zs j
            rw [HK.out.1, Bool.true_and, ← hzz] at hst
            cases hin : inB z 1 17 with
            | true =>
              have HST := hidd (hst.trans hin)
              have HIN := hidd hin
              clear hc hst hin hzz
              go_wp2_with (go_at_call 52; refine (in49 _ _ _ _).mono ?_; rintro e w' ⟨rfl, rfl⟩; rw [HIN.out])
              go_roundw
              case rel => exact ⟨j + 1, by omega, by go_num, HST.out, HK.out.2⟩
              case measure => simp [intOf]; omega
            | false =>
              have HST := hidd (szP_fall (zs := zs) (d := j) (by rw [← hzz]; exact hin) hlt)
              have HIN := hidd hin
              clear hc hst hin hzz
              go_wp2_with (go_at_call 52; refine (in49 _ _ _ _).mono ?_; rintro e w' ⟨rfl, rfl⟩; rw [HIN.out])
              go_ret
              exact ⟨by rw [HCD.out, HST.out]; rfl, HK.out.2⟩
        · have hltI : decide ((j : Int) < (zs.length : Int)) = false := by simp; omega
          have hje : j = zs.length := by omega
          have HP := hidd (show szP zs zs.length = true by rw [← hje]; exact HK.out.1)
          clear hje
          go_wp2_with fail
          go_ret
          exact ⟨by rw [HCD.out, HP.out]; rfl, HK.out.2⟩
end Go.Proofs.YtkiocedhibeieaaDoor

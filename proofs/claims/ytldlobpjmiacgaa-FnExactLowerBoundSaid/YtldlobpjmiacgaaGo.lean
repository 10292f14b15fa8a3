/- l02Go: the cliques of m points that begin with some points, put to a list of lists. -/
import Derived.Test.YtldlobpjmiacgaaCqM
import Derived.Test.YtldlobpjmiacgaaCountIm
import Derived.Deep.RegionHeld2
import Derived.Maps.AppendAt
namespace Go.Proofs.Ytldlobpjmiacgaa
set_option linter.unusedVariables false
set_option linter.unusedSimpArgs false
open Go Go.RowKit Go.Shelf
/-- A list of numbers in a block from its first cell on. -/
def BgL (w : World) (a : Option Addr) (zs : List Int) : Prop :=
  ∃ g C, a = some ⟨g, 0, none⟩ ∧ Blk w g C 2 ∧ zs.length ≤ C.size ∧ ∀ j, j < zs.length → C[j]? = some (.int .i64 (zs.getD j 0))
theorem BgL.below {w w' : World} {B : Nat} {a : Option Addr} {zs : List Int} (h : BgL w a zs) (hb : Below B w w') (hB : w.heap.size ≤ B) : BgL w' a zs := by
  obtain ⟨g, C, h1, h2, h3⟩ := h
  exact ⟨g, C, h1, h2.below hb (Nat.lt_of_lt_of_le h2.lt hB), h3⟩
theorem OwnL.grown {w w' : World} {row : Option Nat} {B : Nat} {a : Option Addr} {zs : List Int} (h : OwnL w B a zs) (hg : w.grownBy w' row) (hr : ∀ r, row = some r → ∃ C, Blk w r C 25) : OwnL w' B a zs := by
  rcases h with h | ⟨g, C, h1, h2, h3, h4⟩
  · exact .inl h
  · refine .inr ⟨g, C, h1, h2, (hg.block g h3.lt (fun e => ?_)).trans h3, h4⟩
    obtain ⟨C', hC'⟩ := hr g e.symm
    unfold Blk at h3 hC'
    rw [hC'] at h3
    cases h3
theorem BgL.grown {w w' : World} {row : Option Nat} {a : Option Addr} {zs : List Int} (h : BgL w a zs) (hg : w.grownBy w' row) (hr : ∀ r, row = some r → ∃ C, Blk w r C 25) : BgL w' a zs := by
  obtain ⟨g, C, h1, h3, h4⟩ := h
  refine ⟨g, C, h1, (hg.block g h3.lt (fun e => ?_)).trans h3, h4⟩
  obtain ⟨C', hC'⟩ := hr g e.symm
  unfold Blk at h3 hC'
  rw [hC'] at h3
  cases h3
theorem BgL.own {w : World} {a : Option Addr} {zs : List Int} (h : BgL w a zs) : OwnL w 0 a zs := by
  obtain ⟨g, C, h1, h3, h4, h5⟩ := h
  exact .inr ⟨g, C, Nat.zero_le _, h1, h3, h4, h5⟩
theorem BgL.ofOwn {w : World} {B : Nat} {a : Option Addr} {zs : List Int} (h : OwnL w B a zs) (hz : zs ≠ []) : BgL w a zs := by
  rcases h with h | ⟨g, C, _, h2, h3, h4, h5⟩
  · exact absurd h hz
  · exact ⟨g, C, h2, h3, h4, h5⟩
/-- A list of lists. -/
def LL (w : World) (v : Value) (L : List (List Int)) : Prop :=
  ∃ xs, w.ownsRow 0 25 1 v L.length xs ∧ ∀ (i : Nat) (zs : List Int), L[i]? = some zs → ∃ a cap, xs[i]? = some (Value.slice a zs.length cap) ∧ OwnL w 0 a zs
theorem LL.row {w : World} {v : Value} {L : List (List Int)} (h : LL w v L) : ∀ r, v.ownBlock = some r → ∃ C, Blk w r C 25 := by
  obtain ⟨xs, h1, h2⟩ := h
  intro r hr
  obtain ⟨_, h | ⟨g, cap, cur, hv, hg, hc, _⟩⟩ := h1
  · rw [h.1] at hr; cases hr
  · rw [hv] at hr; cases hr; exact ⟨cur, hc⟩
theorem LL.shape {w : World} {v : Value} {L : List (List Int)} (h : LL w v L) : ∃ a cap, v = .slice a L.length cap := by
  obtain ⟨xs, ⟨_, h | ⟨g, cap, cur, hv, _⟩⟩, _⟩ := h
  · exact ⟨none, 0, by rw [h.1, h.2]⟩
  · exact ⟨_, _, hv⟩
theorem LL.below {w w' : World} {v : Value} {L : List (List Int)} (h : LL w v L) (hb : Below w.heap.size w w') : LL w' v L := by
  obtain ⟨xs, h1, h2⟩ := h
  refine ⟨xs, own_below h1 hb (Nat.le_refl _), fun i zs hi => ?_⟩
  obtain ⟨a, cap, h3, h4⟩ := h2 i zs hi
  exact ⟨a, cap, h3, h4.below hb (Nat.le_refl _)⟩
/-- What may turn: the list's own block. -/
def Fr (w w' : World) (v v' : Value) : Prop := w.grownBy w' v.ownBlock ∧ ∀ r, v'.ownBlock = some r → w.heap.size ≤ r ∨ v.ownBlock = some r
theorem Fr.refl (w : World) (v : Value) : Fr w w v v := ⟨World.grownBy.refl _ _, fun r h => .inr h⟩
theorem Fr.trans {w w1 w2 : World} {v v1 v2 : Value} (h : Fr w w1 v v1) (k : Fr w1 w2 v1 v2) : Fr w w2 v v2 :=
  ⟨h.1.andThen k.1 h.2, fun r hr => by
    rcases k.2 r hr with h3 | h3
    · exact .inl (Nat.le_trans h.1.size h3)
    · exact h.2 r h3⟩
theorem below_grown {w w' : World} (h : Below w.heap.size w w') (row : Option Nat) : w.grownBy w' row := ⟨h.os, h.tape, h.output, h.size, fun k hk _ => h.block k hk⟩
theorem Fr.below {w w' : World} (h : Below w.heap.size w w') (v : Value) : Fr w w' v v := ⟨below_grown h _, fun r h => .inr h⟩
theorem LL.push {w w' : World} {v v' : Value} {L : List (List Int)} {a : Option Addr} {cap : Nat} {zs : List Int} {xs : List Value} (hx : ∀ (i : Nat) (ys : List Int), L[i]? = some ys → ∃ a cap, xs[i]? = some (Value.slice a ys.length cap) ∧ OwnL w 0 a ys) (hxl : xs.length = L.length)
    (hr : ∀ r, v.ownBlock = some r → ∃ C, Blk w r C 25) (hg : w.grownBy w' v.ownBlock) (ho : OwnL w 0 a zs) (h' : w'.ownsRow 0 25 1 v' (L.length + 1) (xs ++ [Value.slice a zs.length cap])) : LL w' v' (L ++ [zs]) := by
  refine ⟨xs ++ [Value.slice a zs.length cap], by rw [List.length_append]; exact h', fun i ys hi => ?_⟩
  by_cases hl : i < L.length
  · rw [List.getElem?_append_left hl] at hi
    obtain ⟨a', c', h1, h2⟩ := hx i ys hi
    exact ⟨a', c', by rw [List.getElem?_append_left (by omega)]; exact h1, h2.grown hg hr⟩
  · have hi' : i = L.length := by
      have := (List.getElem?_eq_some_iff.1 hi).1
      simp at this; omega
    subst hi'
    rw [List.getElem?_append_right (Nat.le_refl _)] at hi
    simp at hi
    subst hi
    exact ⟨a, cap, by rw [List.getElem?_append_right (by omega)]; simp [hxl], ho.grown hg hr⟩
theorem BgL.cell {w : World} {g : Nat} {zs : List Int} (h : BgL w (some ⟨g, 0, none⟩) zs) {j : Nat} (hj : j < zs.length) {x : Int} (hx : zs.getD j 0 = x) : w.cell? ⟨g, j, none⟩ = some (.int .i64 x) := by
  obtain ⟨g', C, h1, h2, h3, h4⟩ := h
  cases h1
  rw [← hx]
  exact h2.cell (h4 j hj)
theorem info25 : (Try.prog.info? 25).map (fun i => (i.zero, i.size, i.bytes)) = some (some (.slice none 0 0), 1, 24) := by kernel_rfl
set_option maxRecDepth 100000 in
theorem own63 (zs : List Int) (a : Option Addr) (cap : Nat) (w : World) (h : BgL w a zs) (hl : zs.length ≤ 1000) :
    Calls Try.prog 25 #[.slice a zs.length cap] w fun e w' => ∃ a' c', e = .returned (.slice a' zs.length c') ∧ w'.ownsRow w.heap.size 2 1 (.slice a' zs.length c') zs.length (icells zs) ∧ Below w.heap.size w w' := by
  obtain ⟨t0, hi2, hz0, hz1, hz3⟩ := info_parts info2
  have HIF := hidd (And.intro hi2 (And.intro hz0 (And.intro hz1 hz3)))
  obtain ⟨g, C, rfl, hC, hCl, hCc⟩ := h
  have hlt := hC.lt
  have HC := hidd hC
  have HCC := hidd hCc
  have HL := hidd (icells_len zs)
  clear hi2 hz0 hz1 hz3 hC hCc
  go_enter Try.func25, Try.ntmps25
  go_wp2_with (at_builtin; refine wpList_append_own _ rfl _ _ 25 rfl w.heap.size 2 t0 (.int .i64 0) 1 8 Try.underlying25 HIF.out.1 HIF.out.2.1 HIF.out.2.2.1 HIF.out.2.2.2 rfl (by decide) _ 0 [] rfl ⟨rfl, .inr ⟨w.heap.size, 0, #[], rfl, Nat.le_refl _, Blk.new _ _ _ _ rfl, Nat.le_refl _, by simp [maxLen], rfl, rfl⟩⟩ ⟨g, 0, none⟩ zs.length cap (icells zs) rfl ?c1 ?c2 ?c3 ?c4 ?c5 ?c6 ?_)
  case c1 => rw [HL.out]; omega
  case c2 =>
    intro j u hu
    have hj : j < zs.length := by have := (List.getElem?_eq_some_iff.1 hu).1; rw [HL.out] at this; exact this
    rw [Addr.add_mid, Nat.zero_add]
    refine ((HC.out.alloc _).cell ?_)
    rw [HCC.out j hj]
    have := icells_get hj
    rw [List.getElem?_toArray] at this
    rw [← hu, this]
  case c3 => intro u hu; obtain ⟨z, _, rfl⟩ := List.mem_map.1 hu; rfl
  case c4 => unfold maxLen; omega
  case c5 => omega
  case c6 => simp
  intro v' w2 hown hgrow _
  have K := hidd (And.intro hown (((Below.refl w.heap.size w).alloc (Nat.le_refl _) (.cells #[] 2)).grown hgrow (by simp) (fun g hg => by cases hg; exact Nat.le_refl _)))
  clear hown hgrow
  obtain ⟨a2, c2, rfl, _⟩ := own_list K.out.1
  go_wp2_with fail
  go_ret
  exact ⟨a2, c2, rfl, K.out⟩
set_option maxRecDepth 100000 in
set_option maxHeartbeats 4000000 in
theorem go56 (N : Nat) (hN : N ≤ 17) (R : Nat → Nat) (h0 : ∀ q, (R q).testBit q = false) (zs : List Int) (hz : Rws N R zs) (a : Option Addr) (cap : Nat) (m : Nat) (hm : m ≤ 18) (most : Nat) (hm1 : 1 ≤ most) (hm2 : most ≤ 1000) :
    ∀ (r : Nat) (s : List Nat) (d : Nat), s.length + r = m → d ≤ N → ∀ (w : World) (ab : Option Addr) (cb : Nat) (ao : Option Addr) (co : Nat) (L : List (List Int)), BgL w a zs → BgL w ab (rv s) → LL w (.slice ao L.length co) L → L.length < most →
    Calls Try.prog 19 #[.slice a N cap, .slice ab s.length cb, .int .i64 (frB R N s d : Nat), .int .i64 (m : Int), .slice ao L.length co, .int .i64 (most : Int)] w fun e w' => ∃ a' c', e = .returned (.slice a' ((L ++ cqH R N m d s).take most).length c') ∧ LL w' (.slice a' ((L ++ cqH R N m d s).take most).length c') ((L ++ cqH R N m d s).take most) ∧ Fr w w' (.slice ao L.length co) (.slice a' ((L ++ cqH R N m d s).take most).length c')
  | 0, s, d, hs, hd, w, ab, cb, ao, co, L, hA, hB, hL, hlm => by
    obtain ⟨t0, hi2, hz0, hz1, hz3⟩ := info_parts info25
    have HIF := hidd (And.intro hi2 (And.intro hz0 (And.intro hz1 hz3)))
    have hsm : s.length = m := by omega
    have hsI : ((s.length : Int) == (m : Int)) = true := by rw [beq_iff_eq]; omega
    have hres : (L ++ cqH R N m d s).take most = L ++ [rv s] := by rw [cqH_here hsm]; exact List.take_of_length_le (by simp; omega)
    rw [hres]
    have HB := hidd (fun W h => own63 (rv s) ab cb W h (by rw [rv_len]; omega))
    have HL := hidd hL
    have HBG := hidd hB
    have HRL := hidd (rv_len s)
    rw [HRL.out] at HB
    clear hres hA hB hL hsm hi2 hz0 hz1 hz3
    go_enter Try.func19, Try.ntmps19
    go_wp2_with fail
    refine (HB.out _ HBG.out).mono ?_
    rintro e w1 ⟨a1, c1, rfl, ho, hb1⟩
    rw [← HRL.out] at ho
    obtain ⟨a1', c1', hv, hO⟩ := own_list ho
    cases hv
    have hLA := (HL.out.below hb1).below (((Below.refl w1.heap.size w1).alloc (Nat.le_refl _) (.cells #[.slice a1 s.length c1] 25)))
    have KF := hidd (Fr.trans (Fr.below hb1 (.slice ao L.length co)) (Fr.below (((Below.refl w1.heap.size w1).alloc (Nat.le_refl _) (.cells #[.slice a1 s.length c1] 25))) (.slice ao L.length co)))
    have KO := hidd ((ownL_base hO (Nat.zero_le _)).below (((Below.refl w1.heap.size w1).alloc (Nat.le_refl _) (.cells #[.slice a1 s.length c1] 25))) (Nat.le_refl _))
    have KR := hidd hLA.row
    obtain ⟨xs, hxo, hxs⟩ := hLA
    have hxl : xs.length = L.length := by have := hxo.1; omega
    have HX := hidd hxs
    have HXO := hidd hxo
    have HXL := hidd hxl
    clear hxs hO hb1 ho hxl hxo
    go_wp2_with (at_builtin; refine wpList_append_own_at _ rfl _ _ 40 rfl 0 25 t0 (.slice none 0 0) 1 24 Try.underlying40 HIF.out.1 HIF.out.2.1 HIF.out.2.2.1 HIF.out.2.2.2 rfl (by decide) _ L.length xs rfl HXO.out ⟨w1.heap.size, 0, none⟩ 1 1 [.slice a1 s.length c1] rfl rfl ?c1 ?c2 ?c3 ?c4 ?c5 ?_)
    case c1 => exact one_new _ _ _
    case c2 => intro u hu; simp at hu; subst hu; rfl
    case c3 => unfold maxLen; omega
    case c4 => omega
    case c5 => omega
    intro v' w2 hown hgrow hnil hat
    have hp := LL.push (zs := rv s) HX.out HXL.out KR.out hgrow KO.out (by rw [HRL.out]; exact hown)
    obtain ⟨a', c', rfl⟩ := hp.shape
    have K := hidd (And.intro hp (KF.out.trans ⟨hgrow, fun r hr => by
      rcases hat with e | e
      · exact .inr (by rw [← e]; exact hr)
      · rw [hr] at e; cases e; exact .inl (by simp)⟩))
    clear hp hown hgrow hat
    go_wp2_with fail
    go_ret
    exact ⟨a', c', rfl, K.out⟩
  | r + 1, s, d, hs, hd, w, ab, cb, ao, co, L, hA, hB, hL, hlm => by
    obtain ⟨t2, hi2, hz0, hz1, hz3⟩ := info_parts info2
    have HI2 := hidd (And.intro hi2 (And.intro hz0 (And.intro hz1 hz3)))
    clear hi2 hz0 hz1 hz3
    have HREC := hidd (fun s hs d hd => go56 N hN R h0 zs hz a cap m hm most hm1 hm2 r s d hs hd)
    have hsm : s.length ≠ m := by omega
    have hsl : s.length ≤ 17 := by omega
    have hsI : ((s.length : Int) == (m : Int)) = false := by rw [beq_eq_false_iff_ne]; omega
    have HZ := hidd hz
    have HA := hidd hA
    have HBG := hidd hB
    have HL := hidd hL
    have hF17 := frB_lt R hN s d
    have hres := cqH_none (R := R) (N := N) (m := m) (d := d) (s := s) hd hsm
    have HLESS := hidd (cqH_less (R := R) (N := N) (d := d) hsm)
    obtain ⟨F, hF⟩ : ∃ F, F = frB R N s d := ⟨_, rfl⟩
    rw [← hF] at hF17 hres ⊢
    have HO := hidd (fun W => ones65 F W (by omega))
    have hobd : ones F ≤ 131072 := Nat.le_trans (ones_le F) (by omega)
    obtain ⟨o, ho⟩ : ∃ o, o = ones F := ⟨_, rfl⟩
    rw [← ho] at HO hobd hres
    by_cases hfew : s.length + o < m
    · have hfI : decide ((s.length : Int) + (o : Int) < (m : Int)) = true := by simp; omega
      have hres2 : (L ++ cqH R N m d s).take most = L := by rw [hres hfew, List.append_nil]; exact List.take_of_length_le (by omega)
      rw [hres2]
      clear hres hres2 hA hB hL hsm hF ho hz
      go_enter Try.func19, Try.ntmps19
      go_wp2_with (go_at_call 26; refine (HO.out _).mono ?_; rintro e w' ⟨rfl, rfl⟩)
      go_ret
      exact ⟨ao, co, rfl, HL.out, Fr.refl _ _⟩
    · have hfI : decide ((s.length : Int) + (o : Int) < (m : Int)) = false := by simp; omega
      have HF := hidd hF
      have HS1 := hidd hs
      clear hres hA hB hL hsm hF ho hz hs
      go_enter Try.func19, Try.ntmps19
      go_wp2_with (go_at_call 26; refine (HO.out _).mono ?_; rintro e w' ⟨rfl, rfl⟩)
      go_loopw [4, 13] (fun v e wr => ∃ (j : Nat) (a' : Option Addr) (c' : Nat) (cur : List (List Int)), j ≤ N ∧ e = .int .i64 (j : Int) ∧ v = .slice a' cur.length c' ∧ Hid (LL wr (.slice a' cur.length c') cur ∧ Way R N m d s L most (N - j) cur ∧ Fr w wr (.slice ao L.length co) (.slice a' cur.length c'))) (fun _ e _ => N - (intOf e).toNat)
      case atStart => exact ⟨0, ao, co, L, by omega, rfl, rfl, HL.out, way_start hd hlm, Fr.refl _ _⟩
      case round =>
        obtain ⟨j, a', c', cur, hj, rfl, rfl, HR⟩ := hrel
        have hcl := way_len HR.out.2.1
        by_cases hlt : j < N
        · by_cases hcm : cur.length < most
          · have hcI : decide ((cur.length : Int) < (most : Int)) = true := by simp; omega
            cases hbit : F.testBit j with
            | false =>
              have hbt := (bit_test F j (by omega)).trans hbit
              have HW := hidd (way_skip HR.out.2.1 hlt (by rw [← HF.out]; exact hbit))
              clear hbit
              go_wp2_with fail
              go_roundw
              case rel => exact ⟨j + 1, a', c', cur, by omega, by go_num, rfl, HR.out.1, HW.out, HR.out.2.2⟩
              case measure => simp [intOf]; omega
            | true =>
              have hbt := (bit_test F j (by omega)).trans hbit
              have HW := hidd (way_take HR.out.2.1 hlt (by rw [← HF.out]; exact hbit) hcm)
              have hfb := hbit
              rw [HF.out, frB_bit hlt, Bool.and_eq_true] at hfb
              have hnx := frB_next h0 (s := s) hlt (of_decide_eq_true hfb.1)
              rw [← HF.out] at hnx
              obtain ⟨x, hx⟩ : ∃ x, x = R j := ⟨_, rfl⟩
              have hx17 : x < 2 ^ 17 := by rw [hx]; exact HZ.out.lt j hlt
              have hand := i64_and_nat F x (by omega) (by omega)
              have hA17 : F &&& x < 2 ^ 17 := Nat.lt_of_le_of_lt Nat.and_le_left hF17
              rw [← hx] at hnx
              obtain ⟨X, hX⟩ : ∃ X, X = F &&& x := ⟨_, rfl⟩
              rw [← hX] at hand hA17 hnx
              have hAW := HA.out.grown HR.out.2.2.1 HL.out.row
              obtain ⟨g, C, rfl, hC, hCl, hCc⟩ := hAW
              have HAW := hidd (show BgL wr (some ⟨g, 0, none⟩) zs from ⟨g, C, rfl, hC, hCl, hCc⟩)
              have HCJ := hidd (fun W (h : BgL W (some ⟨g, 0, none⟩) zs) => h.cell (j := j) (by have := HZ.out.len; omega) (x := (x : Int)) (by rw [HZ.out.get j hlt, hx]))
              have cj := HCJ.out _ HAW.out
              have hju : IntKind.u64.wrap (j : Int) = (j : Int) := by unfold IntKind.wrap; simp [IntKind.signed, IntKind.bits]; omega
              have hmn : min j 64 = j := by omega
              have HBW := hidd (HBG.out.grown HR.out.2.2.1 HL.out.row)
              obtain ⟨Y1, hY1⟩ : ∃ Y1 : Nat, Y1 = X / 2 ^ j := ⟨_, rfl⟩
              obtain ⟨Z, hZ⟩ : ∃ Z : Nat, Z = hiB X j := ⟨_, rfl⟩
              have hZ17 : Z < 2 ^ 17 := by rw [hZ]; exact hiB_lt hA17
              have hsr : (X : Int) / 2 ^ j = (Y1 : Int) := by rw [hY1]; simp
              have hsw : IntKind.i64.wrap ((Y1 : Int) * 2 ^ j) = (Z : Int) := by
                have e : (Y1 : Int) * 2 ^ j = ((Z : Nat) : Int) := by
                  rw [hZ, hiB, Nat.shiftRight_eq_div_pow, Nat.shiftLeft_eq, ← hY1]; simp
                rw [e]; exact IntWalk.i64_in _ (by omega)
              rw [← hZ] at hnx
              have HNX := hidd hnx
              clear hCc hC hfb hX hx hbit hnx hY1 hZ
              go_wp2_with fail
              refine wp_region_held_drew (S := (fun W => W.cell? ⟨g, j, none⟩ = some (.int .i64 (x : Int)))) (by kernel_rfl) ?_ (fun hHeld => ?_)
              · exact cj
              refine wpAnyH_take (i := 0) (oi := _) (v := ?_) rfl (by kernel_rfl) (by kernel_rfl) (by kernel_rfl) (fun _ _ _ h => h) (Or.inl ⟨by rfl, ?_⟩) (by assumption) ?_
              rotate_left
              · intro wX hSw; (try dsimp only at hSw); go_simp; first | done | with_reducible rfl
              simp only [List.getElem_toArray, List.getElem_cons_succ, List.getElem_cons_zero, Act.put, List.setIfInBounds_toArray, List.set_cons_zero, List.set_cons_succ]
              refine wpAnyH_take (i := 1) (oi := _) (v := ?_) rfl (by kernel_rfl) (by kernel_rfl) (by kernel_rfl) (fun _ _ _ h => h) (Or.inl ⟨by rfl, ?_⟩) (by assumption) ?_
              rotate_left
              · intro wX hSw; (try dsimp only at hSw); go_simp; first | done | with_reducible rfl
              simp only [List.getElem_toArray, List.getElem_cons_succ, List.getElem_cons_zero, Act.put, List.setIfInBounds_toArray, List.set_cons_zero, List.set_cons_succ]
              refine wpAnyH_take (i := 3) (oi := _) (v := ?_) rfl (by kernel_rfl) (by kernel_rfl) (by kernel_rfl) (fun _ _ _ h => h) (Or.inl ⟨by rfl, ?_⟩) (by assumption) ?_
              rotate_left
              · intro wX hSw; (try dsimp only at hSw); go_simp; first | done | with_reducible rfl
              simp only [List.getElem_toArray, List.getElem_cons_succ, List.getElem_cons_zero, Act.put, List.setIfInBounds_toArray, List.set_cons_zero, List.set_cons_succ]
              refine wpAnyH_take (i := 6) (oi := _) (v := ?_) rfl (by kernel_rfl) (by kernel_rfl) (by kernel_rfl) (fun _ _ _ h => h) (Or.inl ⟨by rfl, ?_⟩) (by assumption) ?_
              rotate_left
              · intro wX hSw; (try dsimp only at hSw); go_simp; first | done | with_reducible rfl
              simp only [List.getElem_toArray, List.getElem_cons_succ, List.getElem_cons_zero, Act.put, List.setIfInBounds_toArray, List.set_cons_zero, List.set_cons_succ]
              refine wpAnyH_take (i := 7) (oi := _) (v := ?_) rfl (by kernel_rfl) (by kernel_rfl) (by kernel_rfl) (fun _ _ _ h => h) (Or.inl ⟨by rfl, ?_⟩) (by assumption) ?_
              rotate_left
              · intro wX hSw; (try dsimp only at hSw); go_simp; first | done | with_reducible rfl
              simp only [List.getElem_toArray, List.getElem_cons_succ, List.getElem_cons_zero, Act.put, List.setIfInBounds_toArray, List.set_cons_zero, List.set_cons_succ]
              refine wpAnyH_take (i := 8) (oi := _) (v := ?_) rfl (by kernel_rfl) (by kernel_rfl) (by kernel_rfl) (fun _ _ _ h => h) (Or.inl ⟨by rfl, ?_⟩) (by assumption) ?_
              rotate_left
              · intro wX hSw; (try dsimp only at hSw); go_simp; first | done | with_reducible rfl
              simp only [List.getElem_toArray, List.getElem_cons_succ, List.getElem_cons_zero, Act.put, List.setIfInBounds_toArray, List.set_cons_zero, List.set_cons_succ]
              refine wpAnyH_take (i := 9) (oi := _) (v := ?_) rfl (by kernel_rfl) (by kernel_rfl) (by kernel_rfl) (fun _ _ _ h => h) (Or.inl ⟨by rfl, ?_⟩) (by assumption) ?_
              rotate_left
              · intro wX hSw; (try dsimp only at hSw); go_simp; first | done | with_reducible rfl
              simp only [List.getElem_toArray, List.getElem_cons_succ, List.getElem_cons_zero, Act.put, List.setIfInBounds_toArray, List.set_cons_zero, List.set_cons_succ]
              refine wpAnyH_take (i := 10) (oi := _) (v := ?_) rfl (by kernel_rfl) (by kernel_rfl) (by kernel_rfl) (fun _ _ _ h => h) (Or.inl ⟨by rfl, ?_⟩) (by assumption) ?_
              rotate_left
              · intro wX hSw; (try dsimp only at hSw); go_simp; first | done | with_reducible rfl
              simp only [List.getElem_toArray, List.getElem_cons_succ, List.getElem_cons_zero, Act.put, List.setIfInBounds_toArray, List.set_cons_zero, List.set_cons_succ]
              refine wpAnyH_take (i := 11) (oi := _) (v := ?_) rfl (by kernel_rfl) (by kernel_rfl) (by kernel_rfl) (fun _ _ _ h => h) (Or.inl ⟨by rfl, ?_⟩) (by assumption) ?_
              rotate_left
              · intro wX hSw; (try dsimp only at hSw); go_simp; first | done | with_reducible rfl
              simp only [List.getElem_toArray, List.getElem_cons_succ, List.getElem_cons_zero, Act.put, List.setIfInBounds_toArray, List.set_cons_zero, List.set_cons_succ]
              refine wpAnyH_take (i := 12) (oi := _) (v := ?_) rfl (by kernel_rfl) (by kernel_rfl) (by kernel_rfl) (fun _ _ _ h => h) (Or.inl ⟨by rfl, ?_⟩) (by assumption) ?_
              rotate_left
              · intro wX hSw; (try dsimp only at hSw); go_simp; first | done | with_reducible rfl
              simp only [List.getElem_toArray, List.getElem_cons_succ, List.getElem_cons_zero, Act.put, List.setIfInBounds_toArray, List.set_cons_zero, List.set_cons_succ]
              refine wpAnyH_take (i := 13) (oi := _) (v := ?_) rfl (by kernel_rfl) (by kernel_rfl) (by kernel_rfl) (fun _ _ _ h => h) (Or.inl ⟨by rfl, ?_⟩) (by assumption) ?_
              rotate_left
              · intro wX hSw; (try dsimp only at hSw); go_simp; first | done | with_reducible rfl
              simp only [List.getElem_toArray, List.getElem_cons_succ, List.getElem_cons_zero, Act.put, List.setIfInBounds_toArray, List.set_cons_zero, List.set_cons_succ]
              refine wpAnyH_take (i := 14) (oi := _) (v := ?_) rfl (by kernel_rfl) (by kernel_rfl) (by kernel_rfl) (fun _ _ _ h => h) (Or.inl ⟨by rfl, ?_⟩) (by assumption) ?_
              rotate_left
              · intro wX hSw; (try dsimp only at hSw); go_simp; first | done | with_reducible rfl
              simp only [List.getElem_toArray, List.getElem_cons_succ, List.getElem_cons_zero, Act.put, List.setIfInBounds_toArray, List.set_cons_zero, List.set_cons_succ]
              refine wpAnyH_take (i := 15) (oi := _) (v := ?_) rfl (by kernel_rfl) (by kernel_rfl) (by kernel_rfl) (fun _ _ _ h => h) (Or.inl ⟨by rfl, ?_⟩) (by assumption) ?_
              rotate_left
              · intro wX hSw; (try dsimp only at hSw); go_simp; first | done | with_reducible rfl
              simp only [List.getElem_toArray, List.getElem_cons_succ, List.getElem_cons_zero, Act.put, List.setIfInBounds_toArray, List.set_cons_zero, List.set_cons_succ]
              refine wpAnyH_take (i := 16) (oi := _) (v := ?_) rfl (by kernel_rfl) (by kernel_rfl) (by kernel_rfl) (fun _ _ _ h => h) (Or.inl ⟨by rfl, ?_⟩) (by assumption) ?_
              rotate_left
              · intro wX hSw; (try dsimp only at hSw); go_simp; first | done | with_reducible rfl
              simp only [List.getElem_toArray, List.getElem_cons_succ, List.getElem_cons_zero, Act.put, List.setIfInBounds_toArray, List.set_cons_zero, List.set_cons_succ]
              refine wpAnyH_take (i := 17) (oi := _) (v := ?_) rfl (by kernel_rfl) (by kernel_rfl) (by kernel_rfl) (fun _ _ _ h => h) (Or.inl ⟨by rfl, ?_⟩) (by assumption) ?_
              rotate_left
              · intro wX hSw; (try dsimp only at hSw); go_simp; first | done | with_reducible rfl
              simp only [List.getElem_toArray, List.getElem_cons_succ, List.getElem_cons_zero, Act.put, List.setIfInBounds_toArray, List.set_cons_zero, List.set_cons_succ]
              refine wpAnyH_take (i := 18) (oi := _) (v := ?_) rfl (by kernel_rfl) (by kernel_rfl) (by kernel_rfl) (fun _ _ _ h => h) (Or.inl ⟨by rfl, ?_⟩) (by assumption) ?_
              rotate_left
              · intro wX hSw; (try dsimp only at hSw); go_simp; first | done | with_reducible rfl
              simp only [List.getElem_toArray, List.getElem_cons_succ, List.getElem_cons_zero, Act.put, List.setIfInBounds_toArray, List.set_cons_zero, List.set_cons_succ]
              refine wpAnyH_take (i := 19) (oi := _) (v := ?_) rfl (by kernel_rfl) (by kernel_rfl) (by kernel_rfl) (fun _ _ _ h => h) (Or.inl ⟨by rfl, ?_⟩) (by assumption) ?_
              rotate_left
              · intro wX hSw; (try dsimp only at hSw); go_simp; first | done | with_reducible rfl
              simp only [List.getElem_toArray, List.getElem_cons_succ, List.getElem_cons_zero, Act.put, List.setIfInBounds_toArray, List.set_cons_zero, List.set_cons_succ]
              refine wpAnyH_take (i := 20) (oi := _) (v := ?_) rfl (by kernel_rfl) (by kernel_rfl) (by kernel_rfl) (fun _ _ _ h => h) (Or.inl ⟨by rfl, ?_⟩) (by assumption) ?_
              rotate_left
              · intro wX hSw; (try dsimp only at hSw); go_simp; first | done | with_reducible rfl
              simp only [List.getElem_toArray, List.getElem_cons_succ, List.getElem_cons_zero, Act.put, List.setIfInBounds_toArray, List.set_cons_zero, List.set_cons_succ]
              have HOW := hidd (fun W (h : Below wr.heap.size wr W) => own63 (rv s) ab cb W (HBW.out.below h (Nat.le_refl _)) (by rw [rv_len]; omega))
              rw [rv_len] at HOW
              have HAB := hidd (fun W (h : Below wr.heap.size wr W) => HCJ.out W (HAW.out.below h (Nat.le_refl _)))
              refine wpAnyH_ready (rs := [2, 4]) (by kernel_rfl) (by simp) (AllReadyH.cons (o := _) rfl (fun KQ hKQ => ?_) (AllReadyH.cons (o := _) rfl (fun KQ hKQ => ?_) AllReadyH.nil))
              · go_simp
                refine (HOW.out _ ((Below.refl wr.heap.size wr).drew)).mono ?_
                rintro e W1 ⟨a1, c1, rfl, ho1, hb1⟩
                have hbX : Below wr.heap.size wr W1 := ((Below.refl wr.heap.size wr).drew).trans hb1
                have hKX : Below wr.heap.size wr (W1.alloc (.cells #[.int .i64 (j : Int)] 2)) ∧ (W1.alloc (.cells #[.int .i64 (j : Int)] 2)).ownsRow wr.heap.size 2 1 (.slice a1 s.length c1) s.length (icells (rv s)) ∧ Blk (W1.alloc (.cells #[.int .i64 (j : Int)] 2)) W1.heap.size #[.int .i64 (j : Int)] 2 :=
                  ⟨hbX.alloc hbX.size _, (own_base ho1 (Nat.le_refl _)).alloc _, Blk.new _ _ _ _ rfl⟩
                have HKX := hidd hKX
                clear hKX ho1 hb1
                go_wp2_with fail
                refine hKQ.out _ _ ?_ (fun hNext => ?_)
                · exact HAB.out _ hbX
                clear hKQ KQ hHeld
                have hHeld := hNext
                clear hNext
                refine wpAnyH_ready (rs := [4]) (by kernel_rfl) (by simp) (AllReadyH.cons (o := _) rfl (fun KQ hKQ => ?_) AllReadyH.nil)
                go_simp
                refine hKQ.out _ _ ?_ (fun hNext => ?_)
                · exact HAB.out _ (hbX.alloc hbX.size _)
                clear hKQ KQ hHeld
                have hHeld := hNext
                clear hNext
                have hKX := HKX.out
                clear HKX hbX
                obtain ⟨ad, had⟩ : ∃ ad, ad = W1.heap.size := ⟨_, rfl⟩
                rw [← had] at hKX ⊢
                obtain ⟨WX, hWX⟩ : ∃ WX, WX = W1.alloc (.cells #[.int .i64 (j : Int)] 2) := ⟨_, rfl⟩
                rw [← hWX] at hKX hHeld ⊢
                clear hWX had
                have KX := hidd (show Below wr.heap.size wr WX ∧ WX.ownsRow wr.heap.size 2 1 (.slice a1 s.length c1) s.length (icells (rv s)) ∧ Blk WX ad #[.int .i64 (j : Int)] 2 from hKX)
                clear hKX
                have hsz := KX.out.1.size
                refine wpAnyH_ready (rs := [5]) (by kernel_rfl) (by simp) (AllReadyH.cons (o := _) rfl (fun KQ hKQ => ?_) AllReadyH.nil)
                rw [if_pos (by rfl)]
                refine wp_append_own _ _ _ 25 rfl wr.heap.size 2 t2 (.int .i64 0) 1 8 Try.underlying25 HI2.out.1 HI2.out.2.1 HI2.out.2.2.1 HI2.out.2.2.2 rfl (by decide) _ s.length (icells (rv s)) rfl KX.out.2.1 ⟨ad, 0, none⟩ 1 1 [.int .i64 (j : Int)] rfl rfl ?c1 ?c2 ?c3 ?c4 ?c5 ?_
                case c1 => intro i u hi; rw [Addr.add_mid]; cases i with
                  | zero => exact KX.out.2.2.cell (by simpa using hi)
                  | succ i => simp at hi
                case c2 => intro u hu; simp at hu; subst hu; rfl
                case c3 => unfold maxLen; omega
                case c4 => omega
                case c5 => omega
                intro v' w3 hown' hgrow _
                have hb3 : Below wr.heap.size wr w3 := KX.out.1.grown hgrow hsz (fun r hr => by
                  rcases KX.out.2.1.2 with ⟨h1, _⟩ | ⟨g', cap', cur', h1, h2, _⟩
                  · rw [h1] at hr; cases hr
                  · rw [h1] at hr; cases hr; exact h2)
                have hrv : icells (rv s) ++ [.int .i64 (j : Int)] = icells (rv (j :: s)) := by rw [rv_cons, icells_app]; rfl
                have hrl : (rv (j :: s)).length = s.length + 1 := by rw [rv_len]; rfl
                rw [hrv, ← hrl] at hown'
                obtain ⟨a3, c3, hv3, ho3⟩ := own_list hown'
                rw [hrl] at hv3
                subst hv3
                have hB3 : BgL w3 a3 (rv (j :: s)) := BgL.ofOwn ho3 (by rw [rv_cons]; simp)
                have K3 := hidd (And.intro hB3 (And.intro (HAW.out.below hb3 (Nat.le_refl _)) (And.intro (HR.out.1.below hb3) (Fr.below hb3 (.slice a' cur.length c')))))
                clear hB3 ho3 hown' hgrow hb3 hrv hrl
                refine hKQ.out _ _ ?_ (fun hNext => ?_)
                · exact HCJ.out _ K3.out.2.1
                clear hKQ KQ hHeld
                have hHeld := hNext
                clear hNext
                simp only [List.getElem_toArray, List.getElem_cons_succ, List.getElem_cons_zero, Act.put, List.setIfInBounds_toArray, List.set_cons_zero, List.set_cons_succ]
                have HG := hidd (HREC.out (j :: s) (by have := HS1.out; simp; omega) (N - (j + 1)) (by omega) w3 a3 c3 a' c' cur K3.out.2.1 K3.out.1 K3.out.2.2.1 hcm)
                rw [← HNX.out, List.length_cons] at HG
                refine wpAnyH_ready (rs := [21]) (by kernel_rfl) (by simp) (AllReadyH.cons (o := _) rfl (fun KQ hKQ => ?_) AllReadyH.nil)
                go_simp
                refine HG.out.mono ?_
                rintro e w4 ⟨a4, c4, rfl, hL4, hF4⟩
                have K4 := hidd (And.intro (K3.out.2.1.grown hF4.1 K3.out.2.2.1.row) (And.intro hL4 (HR.out.2.2.trans (K3.out.2.2.2.trans hF4))))
                clear hL4 hF4
                go_wp2_with fail
                refine hKQ.out _ _ ?_ (fun hNext => ?_)
                · exact HCJ.out _ K4.out.1
                clear hKQ KQ hHeld
                have hHeld := hNext
                clear hNext
                refine wpAnyH_ready (rs := [22]) (by kernel_rfl) (by simp) (AllReadyH.cons (o := _) rfl (fun KQ hKQ => ?_) AllReadyH.nil)
                go_simp
                refine hKQ.out _ _ ?_ (fun hNext => ?_)
                · exact hHeld
                clear hKQ KQ hHeld
                refine wpAnyH_done (by kernel_rfl) ?_ _
                clear hNext
                go_wp2_with fail
                go_roundw
                case rel => exact ⟨j + 1, a4, c4, _, by omega, by go_num, by rw [List.length_take, List.length_append], K4.out.2.1, HW.out, K4.out.2.2⟩
                case measure => simp [intOf]; omega
              · go_simp
                refine hKQ.out _ _ ?_ (fun hNext => ?_)
                · exact HAB.out _ (((Below.refl wr.heap.size wr).drew).alloc (Nat.le_refl _) _)
                clear hKQ KQ hHeld
                have hHeld := hNext
                clear hNext
                refine wpAnyH_ready (rs := [2]) (by kernel_rfl) (by simp) (AllReadyH.cons (o := _) rfl (fun KQ hKQ => ?_) AllReadyH.nil)
                go_simp
                refine (HOW.out _ (((Below.refl wr.heap.size wr).drew).alloc (Nat.le_refl _) (.cells #[.int .i64 (j : Int)] 2))).mono ?_
                rintro e WX ⟨a1, c1, rfl, ho1, hb1⟩
                have hbY : Below wr.heap.size wr (wr.drew.alloc (.cells #[.int .i64 (j : Int)] 2)) := (((Below.refl wr.heap.size wr).drew).alloc (Nat.le_refl _) (.cells #[.int .i64 (j : Int)] 2))
                have hbX : Below wr.heap.size wr WX := hbY.trans (hb1.mono hbY.size)
                have hKX : Below wr.heap.size wr WX ∧ WX.ownsRow wr.heap.size 2 1 (.slice a1 s.length c1) s.length (icells (rv s)) ∧ Blk WX wr.heap.size #[.int .i64 (j : Int)] 2 :=
                  ⟨hbX, own_base ho1 hbY.size, (Blk.new wr.drew #[.int .i64 (j : Int)] 2 _ rfl).below hb1 (by simp)⟩
                have HKX := hidd hKX
                clear hKX ho1 hb1 hbY
                go_wp2_with fail
                refine hKQ.out _ _ ?_ (fun hNext => ?_)
                · exact HAB.out _ hbX
                clear hKQ KQ hHeld
                have hHeld := hNext
                clear hNext
                have hKX := HKX.out
                clear HKX hbX
                have KX := hidd (show Below wr.heap.size wr WX ∧ WX.ownsRow wr.heap.size 2 1 (.slice a1 s.length c1) s.length (icells (rv s)) ∧ Blk WX wr.heap.size #[.int .i64 (j : Int)] 2 from hKX)
                clear hKX
                have hsz := KX.out.1.size
                refine wpAnyH_ready (rs := [5]) (by kernel_rfl) (by simp) (AllReadyH.cons (o := _) rfl (fun KQ hKQ => ?_) AllReadyH.nil)
                rw [if_pos (by rfl)]
                refine wp_append_own _ _ _ 25 rfl wr.heap.size 2 t2 (.int .i64 0) 1 8 Try.underlying25 HI2.out.1 HI2.out.2.1 HI2.out.2.2.1 HI2.out.2.2.2 rfl (by decide) _ s.length (icells (rv s)) rfl KX.out.2.1 ⟨wr.heap.size, 0, none⟩ 1 1 [.int .i64 (j : Int)] rfl rfl ?c1 ?c2 ?c3 ?c4 ?c5 ?_
                case c1 => intro i u hi; rw [Addr.add_mid]; cases i with
                  | zero => exact KX.out.2.2.cell (by simpa using hi)
                  | succ i => simp at hi
                case c2 => intro u hu; simp at hu; subst hu; rfl
                case c3 => unfold maxLen; omega
                case c4 => omega
                case c5 => omega
                intro v' w3 hown' hgrow _
                have hb3 : Below wr.heap.size wr w3 := KX.out.1.grown hgrow hsz (fun r hr => by
                  rcases KX.out.2.1.2 with ⟨h1, _⟩ | ⟨g', cap', cur', h1, h2, _⟩
                  · rw [h1] at hr; cases hr
                  · rw [h1] at hr; cases hr; exact h2)
                have hrv : icells (rv s) ++ [.int .i64 (j : Int)] = icells (rv (j :: s)) := by rw [rv_cons, icells_app]; rfl
                have hrl : (rv (j :: s)).length = s.length + 1 := by rw [rv_len]; rfl
                rw [hrv, ← hrl] at hown'
                obtain ⟨a3, c3, hv3, ho3⟩ := own_list hown'
                rw [hrl] at hv3
                subst hv3
                have hB3 : BgL w3 a3 (rv (j :: s)) := BgL.ofOwn ho3 (by rw [rv_cons]; simp)
                have K3 := hidd (And.intro hB3 (And.intro (HAW.out.below hb3 (Nat.le_refl _)) (And.intro (HR.out.1.below hb3) (Fr.below hb3 (.slice a' cur.length c')))))
                clear hB3 ho3 hown' hgrow hb3 hrv hrl
                refine hKQ.out _ _ ?_ (fun hNext => ?_)
                · exact HCJ.out _ K3.out.2.1
                clear hKQ KQ hHeld
                have hHeld := hNext
                clear hNext
                simp only [List.getElem_toArray, List.getElem_cons_succ, List.getElem_cons_zero, Act.put, List.setIfInBounds_toArray, List.set_cons_zero, List.set_cons_succ]
                have HG := hidd (HREC.out (j :: s) (by have := HS1.out; simp; omega) (N - (j + 1)) (by omega) w3 a3 c3 a' c' cur K3.out.2.1 K3.out.1 K3.out.2.2.1 hcm)
                rw [← HNX.out, List.length_cons] at HG
                refine wpAnyH_ready (rs := [21]) (by kernel_rfl) (by simp) (AllReadyH.cons (o := _) rfl (fun KQ hKQ => ?_) AllReadyH.nil)
                go_simp
                refine HG.out.mono ?_
                rintro e w4 ⟨a4, c4, rfl, hL4, hF4⟩
                have K4 := hidd (And.intro (K3.out.2.1.grown hF4.1 K3.out.2.2.1.row) (And.intro hL4 (HR.out.2.2.trans (K3.out.2.2.2.trans hF4))))
                clear hL4 hF4
                go_wp2_with fail
                refine hKQ.out _ _ ?_ (fun hNext => ?_)
                · exact HCJ.out _ K4.out.1
                clear hKQ KQ hHeld
                have hHeld := hNext
                clear hNext
                refine wpAnyH_ready (rs := [22]) (by kernel_rfl) (by simp) (AllReadyH.cons (o := _) rfl (fun KQ hKQ => ?_) AllReadyH.nil)
                go_simp
                refine hKQ.out _ _ ?_ (fun hNext => ?_)
                · exact hHeld
                clear hKQ KQ hHeld
                refine wpAnyH_done (by kernel_rfl) ?_ _
                clear hNext
                go_wp2_with fail
                go_roundw
                case rel => exact ⟨j + 1, a4, c4, _, by omega, by go_num, by rw [List.length_take, List.length_append], K4.out.2.1, HW.out, K4.out.2.2⟩
                case measure => simp [intOf]; omega
          · have hcI : decide ((cur.length : Int) < (most : Int)) = false := by simp; omega
            have HE := hidd (way_end HR.out.2.1 (.inr (by omega)))
            go_wp2_with fail
            go_ret
            rw [HLESS.out, ← HE.out]
            exact ⟨a', c', rfl, HR.out.1, HR.out.2.2⟩
        · have hje : j = N := by omega
          subst hje
          have HE := hidd (way_end HR.out.2.1 (.inl (by omega)))
          go_wp2_with fail
          go_ret
          rw [HLESS.out, ← HE.out]
          exact ⟨a', c', rfl, HR.out.1, HR.out.2.2⟩
end Go.Proofs.Ytldlobpjmiacgaa

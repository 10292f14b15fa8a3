/- IsBalanced: the program and its model. -/
import Derived.Test.YtikcmgmgdbbcfaaGc
namespace Go.Proofs.Ytikcmgmgdbbcfaa
set_option linter.unusedVariables false
set_option linter.unusedSimpArgs false
open Go Go.RowKit Go.Shelf
/-- The least of the first j numbers. -/
def IsMin (zs : List Int) (j : Nat) (m : Int) : Prop := (∀ i, i < j → m ≤ zs.getD i 0) ∧ ∃ i, i < j ∧ zs.getD i 0 = m
def IsMax (zs : List Int) (j : Nat) (m : Int) : Prop := (∀ i, i < j → zs.getD i 0 ≤ m) ∧ ∃ i, i < j ∧ zs.getD i 0 = m
theorem IsMin.one (zs : List Int) : IsMin zs 1 (zs.getD 0 0) := ⟨fun q hq => by obtain rfl : q = 0 := by omega
                                                                                exact Int.le_refl _, 0, by omega, rfl⟩
theorem IsMax.one (zs : List Int) : IsMax zs 1 (zs.getD 0 0) := ⟨fun q hq => by obtain rfl : q = 0 := by omega
                                                                                exact Int.le_refl _, 0, by omega, rfl⟩
theorem IsMin.step {zs : List Int} {j : Nat} {m : Int} (h : IsMin zs j m) : IsMin zs (j + 1) (min m (zs.getD j 0)) := by
  obtain ⟨h1, i, h2, h3⟩ := h
  refine ⟨fun q hq => ?_, ?_⟩
  · by_cases e : q = j
    · subst e; omega
    · have := h1 q (by omega); omega
  · by_cases e : m ≤ zs.getD j 0
    · exact ⟨i, by omega, by omega⟩
    · exact ⟨j, by omega, by omega⟩
theorem IsMax.step {zs : List Int} {j : Nat} {m : Int} (h : IsMax zs j m) : IsMax zs (j + 1) (max m (zs.getD j 0)) := by
  obtain ⟨h1, i, h2, h3⟩ := h
  refine ⟨fun q hq => ?_, ?_⟩
  · by_cases e : q = j
    · subst e; omega
    · have := h1 q (by omega); omega
  · by_cases e : zs.getD j 0 ≤ m
    · exact ⟨i, by omega, by omega⟩
    · exact ⟨j, by omega, by omega⟩
set_option maxRecDepth 100000 in
theorem min63 (zs : List Int) (a : Option Addr) (cap : Nat) (w : World) (hs : SlI w a zs) (h1 : 1 ≤ zs.length) (hl : zs.length ≤ 1048576) :
    Calls Try.prog 63 #[.slice a zs.length cap] w fun e w' => ∃ m, e = .returned (.int .i64 m) ∧ IsMin zs zs.length m ∧ w = w' := by
  rcases hs with hz | ⟨b, off, rfl, hc⟩
  · rw [hz] at h1; simp at h1
  · have hc0 := hc 0 (by omega)
    rw [Nat.add_zero] at hc0
    obtain ⟨z0, hz0⟩ : ∃ z, z = zs.getD 0 0 := ⟨_, rfl⟩
    rw [← hz0] at hc0
    have HZ0 := hidd hz0
    have HC := hidd hc
    have hd : decide ((zs.length : Int) < 1) = false := by simp; omega
    have hp : (0 : Int) < (zs.length : Int) := by omega
    clear hc hz0
    go_enter Try.func63, Try.ntmps63
    go_wp2_with fail
    go_loop [3, 4] (fun m i => ∃ (j : Nat) (v : Int), 1 ≤ j ∧ j ≤ zs.length ∧ i = .int .i64 j ∧ m = .int .i64 v ∧ Hid (IsMin zs j v)) (fun _ i => zs.length - (intOf i).toNat)
    case atStart => exact ⟨1, z0, by omega, h1, rfl, rfl, by rw [HZ0.out]; exact IsMin.one zs⟩
    case round =>
      obtain ⟨j, v, hj1, hj, rfl, rfl, HM⟩ := hrel
      by_cases hlt : j < zs.length
      · have hcj := HC.out j hlt
        have HST := hidd HM.out.step
        obtain ⟨z, hz⟩ : ∃ z, z = zs.getD j 0 := ⟨_, rfl⟩
        rw [← hz] at hcj HST
        clear hz
        go_wp2_with fail
        go_round
        case rel => exact ⟨j + 1, min v z, by omega, by omega, by go_num, by congr 1; split <;> omega, HST.out⟩
        case measure => simp [intOf]; omega
      · have hje : j = zs.length := by omega
        subst hje
        go_wp2_with fail
        go_ret
        exact ⟨v, rfl, HM.out, rfl⟩
set_option maxRecDepth 100000 in
theorem max64 (zs : List Int) (a : Option Addr) (cap : Nat) (w : World) (hs : SlI w a zs) (h1 : 1 ≤ zs.length) (hl : zs.length ≤ 1048576) :
    Calls Try.prog 64 #[.slice a zs.length cap] w fun e w' => ∃ m, e = .returned (.int .i64 m) ∧ IsMax zs zs.length m ∧ w = w' := by
  rcases hs with hz | ⟨b, off, rfl, hc⟩
  · rw [hz] at h1; simp at h1
  · have hc0 := hc 0 (by omega)
    rw [Nat.add_zero] at hc0
    obtain ⟨z0, hz0⟩ : ∃ z, z = zs.getD 0 0 := ⟨_, rfl⟩
    rw [← hz0] at hc0
    have HZ0 := hidd hz0
    have HC := hidd hc
    have hd : decide ((zs.length : Int) < 1) = false := by simp; omega
    have hp : (0 : Int) < (zs.length : Int) := by omega
    clear hc hz0
    go_enter Try.func64, Try.ntmps64
    go_wp2_with fail
    go_loop [3, 4] (fun m i => ∃ (j : Nat) (v : Int), 1 ≤ j ∧ j ≤ zs.length ∧ i = .int .i64 j ∧ m = .int .i64 v ∧ Hid (IsMax zs j v)) (fun _ i => zs.length - (intOf i).toNat)
    case atStart => exact ⟨1, z0, by omega, h1, rfl, rfl, by rw [HZ0.out]; exact IsMax.one zs⟩
    case round =>
      obtain ⟨j, v, hj1, hj, rfl, rfl, HM⟩ := hrel
      by_cases hlt : j < zs.length
      · have hcj := HC.out j hlt
        have HST := hidd HM.out.step
        obtain ⟨z, hz⟩ : ∃ z, z = zs.getD j 0 := ⟨_, rfl⟩
        rw [← hz] at hcj HST
        clear hz
        go_wp2_with fail
        go_round
        case rel => exact ⟨j + 1, max v z, by omega, by omega, by go_num, by congr 1; split <;> omega, HST.out⟩
        case measure => simp [intOf]; omega
      · have hje : j = zs.length := by omega
        subst hje
        go_wp2_with fail
        go_ret
        exact ⟨v, rfl, HM.out, rfl⟩
/-- The degree of a point. -/
def degN (bs : List Nat) (N : Nat) (c : Int) (p : Nat) : Nat := cnt (nbB bs (p : Int) c) N
/-- Has each point the degree of the point 0 in a colour? -/
def balC (bs : List Nat) (N : Nat) (c : Int) : Bool := (List.range N).all fun p => degN bs N c p == degN bs N c 0
def balB (bs : List Nat) (N K : Nat) : Bool := (List.range K).all fun (c : Nat) => balC bs N (c : Int)
theorem balC_iff {bs : List Nat} {N : Nat} {c : Int} : balC bs N c = true ↔ ∀ p, p < N → degN bs N c p = degN bs N c 0 := by simp [balC]
theorem balC_no {bs : List Nat} {N : Nat} {c : Int} {p : Nat} (hp : p < N) (h : degN bs N c p ≠ degN bs N c 0) : balC bs N c = false := by
  rw [Bool.eq_false_iff]; intro h2; exact h (balC_iff.1 h2 p hp)
theorem balB_yes {bs : List Nat} {N K : Nat} (h : ∀ c : Nat, c < K → balC bs N (c : Int) = true) : balB bs N K = true := by simpa [balB] using h
theorem balB_no {bs : List Nat} {N K c : Nat} (hc : c < K) (h : balC bs N (c : Int) = false) : balB bs N K = false := by
  rw [Bool.eq_false_iff]; intro h2
  have : ∀ c : Nat, c < K → balC bs N (c : Int) = true := by simpa [balB] using h2
  rw [this c hc] at h; cases h
theorem bal_minmax {bs : List Nat} {N : Nat} {c mn mx : Int} (h1 : 1 ≤ N) (hm : IsMin (dgL N (degN bs N c)) N mn) (hx : IsMax (dgL N (degN bs N c)) N mx) : balC bs N c = true ↔ mn = mx := by
  have hg : ∀ p, p < N → (dgL N (degN bs N c)).getD p 0 = (degN bs N c p : Int) := fun p hp => dgL_get hp
  obtain ⟨m1, i, hi, m2⟩ := hm
  obtain ⟨x1, j, hj, x2⟩ := hx
  rw [hg i hi] at m2
  rw [hg j hj] at x2
  rw [balC_iff]
  constructor
  · intro h
    have := h i hi; have := h j hj; omega
  · intro h p hp
    have a1 := m1 p hp; have a2 := x1 p hp; have a3 := m1 0 (by omega); have a4 := x1 0 (by omega)
    rw [hg p hp] at a1 a2; rw [hg 0 (by omega)] at a3 a4
    omega
def blCode (n k : Int) (bs : List Nat) : Int := if isCol n k bs = true then 0 else 1
def blVal (n k : Int) (bs : List Nat) : Bool := if isCol n k bs = true then balB bs n.toNat k.toNat else false
theorem bl_bad {n k : Int} {bs : List Nat} (h : isCol n k bs = false) : blVal n k bs = false ∧ blCode n k bs = 1 := by simp [blVal, blCode, h]
theorem bl_good {n k : Int} {bs : List Nat} (h : isCol n k bs = true) : blVal n k bs = balB bs n.toNat k.toNat ∧ blCode n k bs = 0 := by simp [blVal, blCode, h]
def RelBl (bs : List Nat) (N : Nat) (C : Array Value) (w : World) (c : Nat) (wr : World) : Prop := Blk wr w.heap.size C 25 ∧ (∀ q : Nat, q < c → balC bs N (q : Int) = true) ∧ Below w.heap.size w wr
set_option maxRecDepth 100000 in
set_option maxHeartbeats 1000000 in
theorem impl25b (n k : Int) (bs : List Nat) (hb : Bys bs) (w : World) :
    Calls Try.prog 25 #[.agg (ccells n k bs).toArray] w fun e w' => e = .returned (.tuple #[.bool (blVal n k bs), .int .i64 (blCode n k bs)]) ∧ Below w.heap.size w w' := by
  have HS := hidd (size_c26 n k hb)
  have HC0 := hidd (show (ccells n k bs).toArray[0]? = some (.int .i64 n) from rfl)
  have HC1 := hidd (show (ccells n k bs).toArray[1]? = some (.int .i64 k) from rfl)
  cases hi : isCol n k bs with
  | false =>
    obtain ⟨e1, e2⟩ := bl_bad hi
    have H := hidd (And.intro e1 e2)
    have HI := hidd hi
    clear hi e1 e2
    go_enter Try.func25, Try.ntmps25
    go_wp2_with (refine wpList_load_row rfl 25 (.tmp 1) rfl w.heap.size rfl 25 _ (0,0) _ (Blk.new _ _ _ _ rfl) Try.underlying25 rfl HS.out ?_)
    refine (implIs_any n k bs hb _).mono ?_
    rintro e w1 ⟨rfl, hb1⟩
    rw [HI.out]
    have G := hidd (((Below.refl w.heap.size w).alloc (Nat.le_refl _) (.cells (ccells n k bs).toArray 25)).trans (hb1.mono (by simp)))
    clear hb1
    go_wp2_with fail
    go_ret2
    exact ⟨by rw [H.out.1, H.out.2]; rfl, G.out⟩
  | true =>
    obtain ⟨n1, n2, k1, k2⟩ := isCol_bd hi
    obtain ⟨e1, e2⟩ := bl_good hi
    obtain ⟨N, rfl⟩ := Int.eq_ofNat_of_zero_le (show 0 ≤ n by omega)
    obtain ⟨K, rfl⟩ := Int.eq_ofNat_of_zero_le (show 0 ≤ k by omega)
    rw [Int.toNat_natCast, Int.toNat_natCast] at e1
    have H := hidd (And.intro e1 e2)
    have HI := hidd hi
    have HDG := hidd (fun (c : Nat) (hc : c < K) => dg_good (given_0 (c := (c : Int)) (zs := []) hi (inB_yes (by omega) (by omega)) rfl))
    clear hi e1 e2
    go_enter Try.func25, Try.ntmps25
    go_wp2_with (refine wpList_load_row rfl 25 (.tmp 1) rfl w.heap.size rfl 25 _ (0,0) _ (Blk.new _ _ _ _ rfl) Try.underlying25 rfl HS.out ?_)
    refine (implIs_any (N : Int) (K : Int) bs hb _).mono ?_
    rintro e w1 ⟨rfl, hb1⟩
    rw [HI.out]
    have G := hidd (And.intro ((Blk.new w (ccells (N : Int) (K : Int) bs).toArray 25 _ rfl).below hb1 (by simp)) (((Below.refl w.heap.size w).alloc (Nat.le_refl _) (.cells (ccells (N : Int) (K : Int) bs).toArray 25)).trans (hb1.mono (by simp))))
    have c1 := G.out.1.cell HC1.out
    clear hb1
    go_wp2_with fail
    clear c1
    go_loopw [12] (fun e wr => ∃ c : Nat, c ≤ K ∧ e = .int .i64 c ∧ RelBl bs N (ccells (N : Int) (K : Int) bs).toArray w c wr) (fun e _ => K - (intOf e).toNat)
    case atStart => exact ⟨0, by omega, rfl, G.out.1, fun q hq => absurd hq (by omega), G.out.2⟩
    case round =>
      obtain ⟨c, hc, rfl, HR⟩ := hrel
      have HK := hidd HR
      clear HR
      by_cases hlt : c < K
      · go_wp2_with (refine wpList_load_row rfl 25 (.tmp 1) rfl w.heap.size rfl 25 _ (0,0) _ HK.out.1 Try.underlying25 rfl HS.out ?_)
        refine (impl32 (N : Int) (K : Int) bs hb (c : Int) wr).mono ?_
        rintro e w2 ⟨a, cap, rfl, hown, hb2⟩
        obtain ⟨d1, d2⟩ := HDG.out c hlt
        rw [Int.toNat_natCast] at d1
        have hlen : (dgList (N : Int) (K : Int) bs (c : Int)).length = N := by rw [d1, dgL_len]
        rw [d2, hlen]
        have hsl := hown.sl
        rw [d1] at hsl
        have G2 := hidd (And.intro (HK.out.1.below hb2 HK.out.1.lt) (And.intro hsl (HK.out.2.2.trans (hb2.mono HK.out.2.2.size))))
        have HMN := hidd (fun W (hW : SlI W a (dgL N (degN bs N (c : Int)))) => by have h := min63 (dgL N (degN bs N (c : Int))) a cap W hW (by rw [dgL_len]; omega) (by rw [dgL_len]; omega); rw [dgL_len] at h; exact h)
        have HMX := hidd (fun W (hW : SlI W a (dgL N (degN bs N (c : Int)))) => by have h := max64 (dgL N (degN bs N (c : Int))) a cap W hW (by rw [dgL_len]; omega) (by rw [dgL_len]; omega); rw [dgL_len] at h; exact h)
        clear hb2 hown hsl d1 d2 hlen
        go_wp2_with fail
        refine (HMN.out _ G2.out.2.1).mono ?_
        rintro e w' ⟨mn, rfl, hmn, rfl⟩
        go_wp2_with fail
        refine (HMX.out _ G2.out.2.1).mono ?_
        rintro e w' ⟨mx, rfl, hmx, rfl⟩
        have hiff := bal_minmax (by omega) hmn hmx
        clear hmn hmx
        by_cases he : mn = mx
        · have hz : (mn != mx) = false := by rw [he]; simp
          have HB := hidd (hiff.2 he)
          clear hiff he
          have K := hidd (show RelBl bs N (ccells (N : Int) (K : Int) bs).toArray w (c + 1) w2 from ⟨G2.out.1, fun q hq => by
            by_cases e : q = c
            · subst e; exact HB.out
            · exact HK.out.2.1 q (by omega), G2.out.2.2⟩)
          go_wp2_with fail
          go_roundw
          case rel => exact ⟨c + 1, by omega, by go_num, K.out⟩
          case measure => simp [intOf]; omega
        · have hz : (mn != mx) = true := by rw [bne_iff_ne]; exact he
          have HB := hidd (balB_no (bs := bs) (N := N) hlt (by rw [Bool.eq_false_iff]; intro h; exact he (hiff.1 h)))
          clear hiff he
          go_wp2_with fail
          go_ret2
          exact ⟨by rw [H.out.1, H.out.2, HB.out]; rfl, G2.out.2.2⟩
      · have hce : c = K := by omega
        subst hce
        have HB := hidd (balB_yes HK.out.2.1)
        go_wp2_with fail
        go_ret2
        exact ⟨by rw [H.out.1, H.out.2, HB.out]; rfl, HK.out.2.2⟩
def RelBi (bs : List Nat) (N : Nat) (c : Int) (C : Array Value) (w : World) (i : Nat) (wr : World) : Prop := Blk wr w.heap.size C 25 ∧ (∀ q, q < i → degN bs N c q = degN bs N c 0) ∧ Below w.heap.size w wr
set_option maxRecDepth 100000 in
set_option maxHeartbeats 2000000 in
theorem spec24b (n k : Int) (bs : List Nat) (hb : Bys bs) (w : World) :
    Calls Try.prog 24 #[.agg (ccells n k bs).toArray] w fun e w' => e = .returned (.tuple #[.bool (blVal n k bs), .int .i64 (blCode n k bs)]) ∧ Below w.heap.size w w' := by
  have HS := hidd (size_c26 n k hb)
  have HC0 := hidd (show (ccells n k bs).toArray[0]? = some (.int .i64 n) from rfl)
  have HC1 := hidd (show (ccells n k bs).toArray[1]? = some (.int .i64 k) from rfl)
  cases hi : isCol n k bs with
  | false =>
    obtain ⟨e1, e2⟩ := bl_bad hi
    have H := hidd (And.intro e1 e2)
    have HI := hidd hi
    clear hi e1 e2
    go_enter Try.func24, Try.ntmps24
    go_wp2_with (refine wpList_load_row rfl 25 (.tmp 1) rfl w.heap.size rfl 25 _ (0,0) _ (Blk.new _ _ _ _ rfl) Try.underlying25 rfl HS.out ?_)
    refine (l01Is_any n k bs hb _).mono ?_
    rintro e w1 ⟨rfl, hb1⟩
    rw [HI.out]
    have G := hidd (((Below.refl w.heap.size w).alloc (Nat.le_refl _) (.cells (ccells n k bs).toArray 25)).trans (hb1.mono (by simp)))
    clear hb1
    go_wp2_with fail
    go_ret2
    exact ⟨by rw [H.out.1, H.out.2]; rfl, G.out⟩
  | true =>
    obtain ⟨n1, n2, k1, k2⟩ := isCol_bd hi
    obtain ⟨e1, e2⟩ := bl_good hi
    obtain ⟨N, rfl⟩ := Int.eq_ofNat_of_zero_le (show 0 ≤ n by omega)
    obtain ⟨K, rfl⟩ := Int.eq_ofNat_of_zero_le (show 0 ≤ k by omega)
    rw [Int.toNat_natCast, Int.toNat_natCast] at e1
    have H := hidd (And.intro e1 e2)
    have HI := hidd hi
    have HAL := hidd (fun (p : Nat → Bool) => show arK p N < 4611686018427387904 from Nat.lt_of_lt_of_le (arK_lt p N) (Nat.le_trans (Nat.pow_le_pow_right (by omega) (show N ≤ 17 by omega)) (by decide)))
    clear hi e1 e2
    go_enter Try.func24, Try.ntmps24
    go_wp2_with (refine wpList_load_row rfl 25 (.tmp 1) rfl w.heap.size rfl 25 _ (0,0) _ (Blk.new _ _ _ _ rfl) Try.underlying25 rfl HS.out ?_)
    refine (l01Is_any (N : Int) (K : Int) bs hb _).mono ?_
    rintro e w1 ⟨rfl, hb1⟩
    rw [HI.out]
    have G := hidd (And.intro ((Blk.new w (ccells (N : Int) (K : Int) bs).toArray 25 _ rfl).below hb1 (by simp)) (((Below.refl w.heap.size w).alloc (Nat.le_refl _) (.cells (ccells (N : Int) (K : Int) bs).toArray 25)).trans (hb1.mono (by simp))))
    clear hb1
    go_wp2_with fail
    go_loopw [4] (fun e wr => ∃ c : Nat, c ≤ K ∧ e = .int .i64 c ∧ RelBl bs N (ccells (N : Int) (K : Int) bs).toArray w c wr) (fun e _ => K - (intOf e).toNat)
    case atStart => exact ⟨0, by omega, rfl, G.out.1, fun q hq => absurd hq (by omega), G.out.2⟩
    case round =>
      obtain ⟨c, hc, rfl, HR⟩ := hrel
      have HK := hidd HR
      have c1 := HR.1.cell HC1.out
      clear HR
      by_cases hlt : c < K
      · go_wp2_with fail
        clear c1
        go_loopw [5] (fun e wr => ∃ i : Nat, 1 ≤ i ∧ i ≤ N ∧ e = .int .i64 i ∧ RelBi bs N (c : Int) (ccells (N : Int) (K : Int) bs).toArray w i wr) (fun e _ => N - (intOf e).toNat)
        case atStart => exact ⟨1, by omega, by omega, rfl, HK.out.1, fun q hq => by rw [show q = 0 by omega], HK.out.2.2⟩
        case round =>
          obtain ⟨i, hi1, hi, rfl, HR2⟩ := hrel
          have HK2 := hidd HR2
          have c0 := HR2.1.cell HC0.out
          clear HR2
          by_cases hlt2 : i < N
          · have hdi : degN bs N (c : Int) i = ones (arK (nbB bs (i : Int) (c : Int)) N) := (ones_arK _ _).symm
            have hd0 : degN bs N (c : Int) 0 = ones (arK (nbB bs ((0 : Nat) : Int) (c : Int)) N) := (ones_arK _ _).symm
            obtain ⟨x, hx⟩ : ∃ x, x = degN bs N (c : Int) i := ⟨_, rfl⟩
            obtain ⟨y, hy⟩ : ∃ y, y = degN bs N (c : Int) 0 := ⟨_, rfl⟩
            obtain ⟨A, hA⟩ : ∃ A, A = arK (nbB bs (i : Int) (c : Int)) N := ⟨_, rfl⟩
            obtain ⟨B, hB⟩ : ∃ B, B = arK (nbB bs ((0 : Nat) : Int) (c : Int)) N := ⟨_, rfl⟩
            have HXY := hidd (And.intro hx hy)
            have hAl := HAL.out (nbB bs (i : Int) (c : Int))
            have hBl := HAL.out (nbB bs ((0 : Nat) : Int) (c : Int))
            rw [← hA, ← hx] at hdi
            rw [← hB, ← hy] at hd0
            rw [← hA] at hAl
            rw [← hB] at hBl
            have HA := hidd (fun W => (around63 (N : Int) (K : Int) bs hb (i : Int) (c : Int) W n1 n2 (by omega) (by omega)))
            have HB := hidd (fun W => (around63 (N : Int) (K : Int) bs hb 0 (c : Int) W n1 n2 (by omega) (by omega)))
            rw [Int.toNat_natCast, ← hA] at HA
            rw [Int.toNat_natCast, show (0 : Int) = ((0 : Nat) : Int) from rfl, ← hB] at HB
            have HD := hidd (And.intro hdi hd0)
            clear hx hy hdi hd0 hA hB
            go_wp2_with fail
            clear c0
            refine wp_region_tail_lit 9 (fun w' => Below wr.heap.size wr w') (by decide) rfl ((Below.refl _ _).drew) (by kernel_rfl) (by kernel_rfl) (by kernel_rfl) (by kernel_rfl) ?_
            simp only [List.take_succ_cons, List.take_zero, List.drop_succ_cons, List.drop_zero, List.map_cons, List.map_nil, List.cons_append, List.nil_append, idle]
            refine qs rfl (fun KQ hKQ => ?_)
            apply Exists.intro
            refine ⟨fun w' hw' => ?_, ?_⟩
            · exact quietRow 25 (.tmp 1) rfl w.heap.size rfl 25 _ _ (HK2.out.1.below hw' HK2.out.1.lt) Try.underlying25 rfl HS.out
            go_simp
            refine hKQ _ ?_
            clear hKQ KQ
            refine qs rfl (fun KQ hKQ => ?_)
            apply Exists.intro
            refine ⟨fun w' hw' => ?_, ?_⟩
            · go_simp; exact rfl
            go_simp
            refine hKQ _ ?_
            clear hKQ KQ
            refine qs rfl (fun KQ hKQ => ?_)
            apply Exists.intro
            refine ⟨fun w' hw' => ?_, ?_⟩
            · go_simp; exact rfl
            go_simp
            refine hKQ _ ?_
            clear hKQ KQ
            refine qs rfl (fun KQ hKQ => ?_)
            apply Exists.intro
            refine ⟨fun w' hw' => ?_, ?_⟩
            · go_simp; exact (HA.out _).mono fun _ _ h => ⟨h.1, hw'.trans (h.2.mono hw'.size)⟩
            go_simp
            refine hKQ _ ?_
            clear hKQ KQ
            refine qs rfl (fun KQ hKQ => ?_)
            apply Exists.intro
            refine ⟨fun w' hw' => ?_, ?_⟩
            · go_simp; exact (ones65 A _ hAl).mono fun _ _ h => ⟨by rw [h.1, ← HD.out.1], by rw [← h.2]; exact hw'⟩
            go_simp
            refine hKQ _ ?_
            clear hKQ KQ
            refine qs rfl (fun KQ hKQ => ?_)
            apply Exists.intro
            refine ⟨fun w' hw' => ?_, ?_⟩
            · exact quietRow 25 (.tmp 1) rfl w.heap.size rfl 25 _ _ (HK2.out.1.below hw' HK2.out.1.lt) Try.underlying25 rfl HS.out
            go_simp
            refine hKQ _ ?_
            clear hKQ KQ
            refine qs rfl (fun KQ hKQ => ?_)
            apply Exists.intro
            refine ⟨fun w' hw' => ?_, ?_⟩
            · go_simp; exact rfl
            go_simp
            refine hKQ _ ?_
            clear hKQ KQ
            refine qs rfl (fun KQ hKQ => ?_)
            apply Exists.intro
            refine ⟨fun w' hw' => ?_, ?_⟩
            · go_simp; exact (HB.out _).mono fun _ _ h => ⟨h.1, hw'.trans (h.2.mono hw'.size)⟩
            go_simp
            refine hKQ _ ?_
            clear hKQ KQ
            refine qs rfl (fun KQ hKQ => ?_)
            apply Exists.intro
            refine ⟨fun w' hw' => ?_, ?_⟩
            · go_simp; exact (ones65 B _ hBl).mono fun _ _ h => ⟨by rw [h.1, ← HD.out.2], by rw [← h.2]; exact hw'⟩
            go_simp
            refine hKQ _ ?_
            clear hKQ KQ
            refine qs rfl (fun KQ hKQ => ?_)
            apply Exists.intro
            refine ⟨fun w' hw' => ?_, ?_⟩
            · go_simp; exact rfl
            go_simp
            refine hKQ _ ?_
            clear hKQ KQ
            refine wpQuiet_nil ?_
            intro w' hw'
            have G3 := hidd (And.intro (HK2.out.1.below hw' HK2.out.1.lt) (HK2.out.2.2.trans (hw'.mono HK2.out.2.2.size)))
            clear hw'
            by_cases he : x = y
            · have hz : ((x : Int) != (y : Int)) = false := by rw [he]; simp
              have K := hidd (show RelBi bs N (c : Int) (ccells (N : Int) (K : Int) bs).toArray w (i + 1) w' from ⟨G3.out.1, fun q hq => by
                by_cases e : q = i
                · subst e; rw [← HXY.out.1, ← HXY.out.2, he]
                · exact HK2.out.2.1 q (by omega), G3.out.2⟩)
              clear he
              go_wp2_with fail
              go_roundw
              case rel => exact ⟨i + 1, by omega, by omega, by go_num, K.out⟩
              case measure => simp [intOf]; omega
            · have hz : ((x : Int) != (y : Int)) = true := by rw [bne_iff_ne]; omega
              have HBF := hidd (balB_no (bs := bs) (N := N) hlt (balC_no hlt2 (by rw [← HXY.out.1, ← HXY.out.2]; exact he)))
              clear he
              go_wp2_with fail
              go_ret2
              exact ⟨by rw [H.out.1, H.out.2, HBF.out]; rfl, G3.out.2⟩
          · have hie : i = N := by omega
            subst hie
            have K := hidd (show RelBl bs i (ccells (i : Int) (K : Int) bs).toArray w (c + 1) wr from ⟨HK2.out.1, fun q hq => by
              by_cases e : q = c
              · subst e; exact balC_iff.2 HK2.out.2.1
              · exact HK.out.2.1 q (by omega), HK2.out.2.2⟩)
            go_wp2_with fail
            go_roundw
            case rel => exact ⟨c + 1, by omega, by go_num, K.out⟩
            case measure => simp [intOf]; omega
      · have hce : c = K := by omega
        subst hce
        have HBF := hidd (balB_yes HK.out.2.1)
        go_wp2_with fail
        go_ret2
        exact ⟨by rw [H.out.1, H.out.2, HBF.out]; rfl, HK.out.2.2⟩
end Go.Proofs.Ytikcmgmgdbbcfaa

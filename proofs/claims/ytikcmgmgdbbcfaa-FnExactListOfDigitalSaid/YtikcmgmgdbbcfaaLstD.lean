/- ListOfDigital: the program and its model. -/
import Derived.Test.YtikcmgmgdbbcfaaLstSp
import Derived.Test.YtikcmgmgdbbcfaaDigOf
namespace Go.Proofs.Ytikcmgmgdbbcfaa
set_option linter.unusedVariables false
set_option linter.unusedSimpArgs false
open Go Go.RowKit Go.Shelf
/-- Is a number 2^d, d at least 1? -/
def pw2 (N : Nat) : Bool := decide (2 ≤ N) && (N &&& (N - 1) == 0)
theorem pw2_cases : ∀ N, N < 18 → pw2 N = true → N = 2 ∨ N = 4 ∨ N = 8 ∨ N = 16 := by decide +kernel
theorem pw2_pow {N : Nat} (h : N < 18) (h2 : pw2 N = true) : ∃ D, 1 ≤ D ∧ D ≤ 4 ∧ N = 2 ^ D := by
  rcases pw2_cases N h h2 with rfl | rfl | rfl | rfl
  · exact ⟨1, by omega, by omega, rfl⟩
  · exact ⟨2, by omega, by omega, rfl⟩
  · exact ⟨3, by omega, by omega, rfl⟩
  · exact ⟨4, by omega, by omega, rfl⟩
theorem pw2_len {N lo hi : Nat} (h : N < 18) (h2 : pw2 N = true) (h3 : lo < hi) (h4 : hi < N) : (lo ^^^ hi) - 1 < N - 1 := by
  obtain ⟨D, d1, d2, rfl⟩ := pw2_pow h h2
  exact xor_len h3 h4 d2
theorem pw2_and (N : Nat) (h1 : 1 ≤ N) (h : N ≤ 17) : bits .and .i64 (N : Int) ((N : Int) - 1) = ((N &&& (N - 1) : Nat) : Int) := by
  rw [show (N : Int) - 1 = ((N - 1 : Nat) : Int) by omega]
  exact i64_and_nat N (N - 1) (by omega) (by omega)
theorem pw2_ne (N : Nat) (h : 2 ≤ N) : pw2 N = !(((N &&& (N - 1) : Nat) : Int) != 0) := by
  unfold pw2
  rw [decide_eq_true h, Bool.true_and, bne, Bool.not_not]
  exact (int_beq _ 0).symm
set_option maxRecDepth 100000 in
theorem isdig70 (N : Nat) (h1 : 1 ≤ N) (h2 : N ≤ 17) (w : World) : Calls Try.prog 70 #[.int .i64 (N : Int)] w fun e w' => e = .returned (.bool (pw2 N)) ∧ w = w' := by
  cases c1 : inB (N : Int) 2 16 with
  | false =>
    have H1 := hidd c1
    have H := hidd (show pw2 N = false by
      have hh := inB_out c1
      have : N = 1 ∨ N = 17 := by omega
      rcases this with rfl | rfl <;> decide)
    clear c1
    go_enter Try.func70, Try.ntmps70
    go_wp2_with (go_at_call 45; refine (within45 _ _ _ _).mono ?_; rintro e w' ⟨rfl, rfl⟩; rw [H1.out])
    go_ret
    exact ⟨by rw [H.out]; rfl, rfl⟩
  | true =>
    have H1 := hidd c1
    have hb := inB_bd c1
    have ha := pw2_and N h1 h2
    have hp := pw2_ne N (by omega)
    obtain ⟨A, hA⟩ : ∃ A : Int, A = ((N &&& (N - 1) : Nat) : Int) := ⟨_, rfl⟩
    rw [← hA] at ha hp
    clear c1 hA
    cases hz : (A == 0) with
    | true =>
      have H := hidd (show pw2 N = true by rw [hp, bne, hz]; rfl)
      clear hp
      go_enter Try.func70, Try.ntmps70
      go_wp2_with (go_at_call 45; refine (within45 _ _ _ _).mono ?_; rintro e w' ⟨rfl, rfl⟩; rw [H1.out])
      go_ret
      exact ⟨by rw [H.out]; rfl, rfl⟩
    | false =>
      have H := hidd (show pw2 N = false by rw [hp, bne, hz]; rfl)
      clear hp
      go_enter Try.func70, Try.ntmps70
      go_wp2_with (go_at_call 45; refine (within45 _ _ _ _).mono ?_; rintro e w' ⟨rfl, rfl⟩; rw [H1.out])
      go_ret
      exact ⟨by rw [H.out]; rfl, rfl⟩
/-- The list of a digital colouring. -/
def ldL (N : Nat) (bs : List Nat) : List Int := fillA (fcol bs) (N - 1)
theorem ldL_len (N : Nat) (bs : List Nat) : (ldL N bs).length = N - 1 := fillA_len _ _
/-- The colouring that the list tells. -/
def ldP (N : Nat) (bs : List Nat) : List Nat := paintB N (fun lo hi => (ldL N bs).getD ((lo ^^^ hi) - 1) 0)
theorem ldP_bys {bs : List Nat} (hb : Bys bs) (N : Nat) : Bys (ldP N bs) := paintB_bys fun lo hi => fcol_rng hb _ _
def digB (N : Nat) (bs : List Nat) : Bool := pw2 N && (ldP N bs == bs)
def ldCode (n k : Int) (bs : List Nat) : Int := if isCol n k bs = true then (if digB n.toNat bs = true then 0 else 5) else 1
def ldList (n k : Int) (bs : List Nat) : List Int := if ldCode n k bs = 0 then ldL n.toNat bs else []
theorem ld_1 {n k : Int} {bs : List Nat} (h : isCol n k bs = false) : ldList n k bs = [] ∧ ldCode n k bs = 1 := by
  have e : ldCode n k bs = 1 := by simp [ldCode, h]
  exact ⟨by simp [ldList, e], e⟩
theorem ld_5 {n k : Int} {bs : List Nat} (h : isCol n k bs = true) (h2 : digB n.toNat bs = false) : ldList n k bs = [] ∧ ldCode n k bs = 5 := by
  have e : ldCode n k bs = 5 := by simp [ldCode, h, h2]
  exact ⟨by simp [ldList, e], e⟩
theorem ld_0 {n k : Int} {bs : List Nat} (h : isCol n k bs = true) (h2 : digB n.toNat bs = true) : ldList n k bs = ldL n.toNat bs ∧ ldCode n k bs = 0 := by
  have e : ldCode n k bs = 0 := by simp [ldCode, h, h2]
  exact ⟨by simp [ldList, e], e⟩
theorem ldList_len {n k : Int} {bs : List Nat} : (ldList n k bs).length ≤ 17 := by
  cases h : isCol n k bs with
  | false => rw [(ld_1 h).1]; simp
  | true =>
    have := isCol_bd h
    cases h2 : digB n.toNat bs with
    | false => rw [(ld_5 h h2).1]; simp
    | true => rw [(ld_0 h h2).1, ldL_len]; omega
set_option maxRecDepth 100000 in
set_option maxHeartbeats 2000000 in
theorem impl33l (n k : Int) (bs : List Nat) (hb : Bys bs) (w : World) :
    Calls Try.prog 33 #[.agg (ccells n k bs).toArray] w (LOut w (ldList n k bs) (ldCode n k bs)) := by
  have HS := hidd (size_c26 n k hb)
  have HC0 := hidd (show (ccells n k bs).toArray[0]? = some (.int .i64 n) from rfl)
  have HC1 := hidd (show (ccells n k bs).toArray[1]? = some (.int .i64 k) from rfl)
  cases hi : isCol n k bs with
  | false =>
    obtain ⟨e1, e2⟩ := ld_1 hi
    have HI := hidd hi
    rw [e1, e2]
    clear hi e1 e2
    go_enter Try.func33, Try.ntmps33
    go_wp2_with (refine wpList_load_row rfl 25 (.tmp 1) rfl w.heap.size rfl 25 _ (0,0) _ (Blk.new _ _ _ _ rfl) Try.underlying25 rfl HS.out ?_)
    refine (implIs_any n k bs hb _).mono ?_
    rintro e w1 ⟨rfl, hb1⟩
    rw [HI.out]
    have G := hidd (((Below.refl w.heap.size w).alloc (Nat.le_refl _) (.cells (ccells n k bs).toArray 25)).trans (hb1.mono (by simp)))
    clear hb1
    go_wp2_with fail
    go_ret2
    exact lout_nil rfl G.out
  | true =>
    obtain ⟨n1, n2, k1, k2⟩ := isCol_bd hi
    have HI := hidd hi
    obtain ⟨N, rfl⟩ := Int.eq_ofNat_of_zero_le (show 0 ≤ n by omega)
    have HM1 := hidd (show (N : Int) - 1 = ((N - 1 : Nat) : Int) by omega)
    have HHT := hidd (fun (hc : digB N bs = true) => ld_0 (n := (N : Int)) (k := k) hi (by rw [Int.toNat_natCast]; exact hc))
    have HHF := hidd (fun (hc : digB N bs = false) => ld_5 (n := (N : Int)) (k := k) hi (by rw [Int.toNat_natCast]; exact hc))
    rw [Int.toNat_natCast] at HHT
    have hN1 : 1 ≤ N := by omega
    have hN17 : N ≤ 17 := by omega
    clear hi
    cases hp : pw2 N with
    | false =>
      obtain ⟨e1, e2⟩ := HHF.out (by unfold digB; rw [hp]; rfl)
      rw [e1, e2]
      have HP := hidd hp
      clear e1 e2 hp
      go_enter Try.func33, Try.ntmps33
      go_wp2_with (refine wpList_load_row rfl 25 (.tmp 1) rfl w.heap.size rfl 25 _ (0,0) _ (Blk.new _ _ _ _ rfl) Try.underlying25 rfl HS.out ?_)
      refine (implIs_any (N : Int) k bs hb _).mono ?_
      rintro e w1 ⟨rfl, hb1⟩
      rw [HI.out]
      have G := hidd (And.intro ((Blk.new w (ccells (N : Int) k bs).toArray 25 _ rfl).below hb1 (by simp)) (((Below.refl w.heap.size w).alloc (Nat.le_refl _) (.cells (ccells (N : Int) k bs).toArray 25)).trans (hb1.mono (by simp))))
      have c0 := G.out.1.cell HC0.out
      clear hb1
      go_wp2_with (go_at_call 70; refine (isdig70 N hN1 hN17 _).mono ?_; rintro e w' ⟨rfl, rfl⟩; rw [HP.out])
      go_ret2
      exact lout_nil rfl G.out.2
    | true =>
      have HP := hidd hp
      have h2N : 2 ≤ N ∧ N ≤ 16 := by rcases pw2_cases N (by omega) hp with rfl | rfl | rfl | rfl <;> decide
      obtain ⟨PB, hPB⟩ : ∃ PB, PB = ldP N bs := ⟨_, rfl⟩
      have HPB := hidd (show Bys PB by rw [hPB]; exact ldP_bys hb N)
      have HCI := hidd (fun W => dig51 (lst15 (ldL N bs)) N k W (lst15_len _) hN1 h2N.2 (lst15_rng (fcol_rng hb _)))
      rw [dig_lst N (ldL N bs) h2N.2, show paintB N (fun lo hi => (ldL N bs).getD ((lo ^^^ hi) - 1) 0) = PB from hPB.symm] at HCI
      have HL := hidd (fun (a : Option Addr) (cap : Nat) W (hW : SlI W a (ldL N bs)) => by have h := list48 (ldL N bs) a cap W hW (by rw [ldL_len]; omega) (by rw [ldL_len]; omega); rw [ldL_len] at h; exact h)
      cases hq : (PB == bs) with
      | true =>
        obtain ⟨e1, e2⟩ := HHT.out (by unfold digB; rw [← hPB, hq, hp]; rfl)
        rw [e1, e2]
        have HQ := hidd hq
        clear e1 e2 hPB hq hp
        go_enter Try.func33, Try.ntmps33
        go_wp2_with (refine wpList_load_row rfl 25 (.tmp 1) rfl w.heap.size rfl 25 _ (0,0) _ (Blk.new _ _ _ _ rfl) Try.underlying25 rfl HS.out ?_)
        refine (implIs_any (N : Int) k bs hb _).mono ?_
        rintro e w1 ⟨rfl, hb1⟩
        rw [HI.out]
        have G := hidd (And.intro ((Blk.new w (ccells (N : Int) k bs).toArray 25 _ rfl).below hb1 (by simp)) (((Below.refl w.heap.size w).alloc (Nat.le_refl _) (.cells (ccells (N : Int) k bs).toArray 25)).trans (hb1.mono (by simp))))
        have c0 := G.out.1.cell HC0.out
        clear hb1
        go_wp2_with (first
          | (go_at_call 70; refine (isdig70 N hN1 hN17 _).mono ?_; rintro e w' ⟨rfl, rfl⟩; rw [HP.out])
          | (refine wpList_load_row rfl 25 (.tmp 1) rfl w.heap.size rfl 25 _ (0,0) _ G.out.1 Try.underlying25 rfl HS.out ?_))
        rw [HM1.out]
        refine (first68 (N : Int) k bs hb (N - 1) (by omega) n2 w1).mono ?_
        rintro e w2 ⟨a, rfl, hown, hb2⟩
        have G2 := hidd (And.intro (G.out.1.below hb2 G.out.1.lt) (And.intro (G.out.2.trans (hb2.mono G.out.2.size)) hown))
        clear hb2 hown c0
        go_wp2_with fail
        refine wp_region_quiet_at (fun w' => Below w2.heap.size w2 w') rfl (by kernel_rfl) ((Below.refl _ _).drew) ?_
        refine qs rfl (fun KQ hKQ => ?_)
        apply Exists.intro
        refine ⟨fun w' hw' => ?_, ?_⟩
        · go_simp; exact rfl
        go_simp
        refine hKQ _ ?_
        clear hKQ KQ
        refine qs rfl (fun KQ hKQ => ?_)
        apply Exists.intro
        refine ⟨fun w' hw' => ?_, ?_⟩
        · have c0 := (G2.out.1.below hw' G2.out.1.lt).cell HC0.out; go_simp; exact rfl
        go_simp
        refine hKQ _ ?_
        clear hKQ KQ
        refine qs rfl (fun KQ hKQ => ?_)
        apply Exists.intro
        refine ⟨fun w' hw' => ?_, ?_⟩
        · go_simp; exact rfl
        go_simp
        refine hKQ _ ?_
        clear hKQ KQ
        refine qs rfl (fun KQ hKQ => ?_)
        apply Exists.intro
        refine ⟨fun w' hw' => ?_, ?_⟩
        · have c0 := (G2.out.1.below hw' G2.out.1.lt).cell HC1.out; go_simp; exact rfl
        go_simp
        refine hKQ _ ?_
        clear hKQ KQ
        refine qs rfl (fun KQ hKQ => ?_)
        apply Exists.intro
        refine ⟨fun w' hw' => ?_, ?_⟩
        · go_simp; exact rfl
        go_simp
        refine hKQ _ ?_
        clear hKQ KQ
        refine qs rfl (fun KQ hKQ => ?_)
        apply Exists.intro
        refine ⟨fun w' hw' => ?_, ?_⟩
        · go_simp; exact (HL.out a _ _ (G2.out.2.2.sl.below hw' (Nat.le_refl _))).mono fun _ _ h => ⟨h.1, hw'.trans (h.2.mono hw'.size)⟩
        go_simp
        refine hKQ _ ?_
        clear hKQ KQ
        refine qs rfl (fun KQ hKQ => ?_)
        apply Exists.intro
        refine ⟨fun w' hw' => ?_, ?_⟩
        · go_simp; exact (HCI.out _).mono fun _ _ h => ⟨h.1, hw'.trans (h.2.mono hw'.size)⟩
        go_simp
        refine hKQ _ ?_
        clear hKQ KQ
        refine qs rfl (fun KQ hKQ => ?_)
        apply Exists.intro
        refine ⟨fun w' hw' => ?_, ?_⟩
        · exact quietRow 25 (.tmp 1) rfl w.heap.size rfl 25 _ _ (G2.out.1.below hw' G2.out.1.lt) Try.underlying25 rfl HS.out
        go_simp
        refine hKQ _ ?_
        clear hKQ KQ
        refine qs rfl (fun KQ hKQ => ?_)
        apply Exists.intro
        refine ⟨fun w' hw' => ?_, ?_⟩
        · exact quietNeq25 _ _ rfl (N : Int) k PB bs HPB.out hb rfl rfl
        go_simp
        refine hKQ _ ?_
        clear hKQ KQ
        refine wpQuiet_nil ?_
        intro w' hw'
        rw [HQ.out]
        have R := hidd (And.intro (G2.out.2.2.below hw' (Nat.le_refl _)) (G2.out.2.1.trans (hw'.mono G2.out.2.1.size)))
        have HLN := hidd (ldL_len N bs)
        clear hw'
        go_wp2_with fail
        go_ret2
        exact ⟨a, N - 1, by rw [HLN.out]; rfl, ownL_base R.out.1 (by have := G.out.2.size; omega), R.out.2⟩
      | false =>
        obtain ⟨e1, e2⟩ := HHF.out (by unfold digB; rw [← hPB, hq, Bool.and_false])
        rw [e1, e2]
        have HQ := hidd hq
        clear e1 e2 hPB hq hp
        go_enter Try.func33, Try.ntmps33
        go_wp2_with (refine wpList_load_row rfl 25 (.tmp 1) rfl w.heap.size rfl 25 _ (0,0) _ (Blk.new _ _ _ _ rfl) Try.underlying25 rfl HS.out ?_)
        refine (implIs_any (N : Int) k bs hb _).mono ?_
        rintro e w1 ⟨rfl, hb1⟩
        rw [HI.out]
        have G := hidd (And.intro ((Blk.new w (ccells (N : Int) k bs).toArray 25 _ rfl).below hb1 (by simp)) (((Below.refl w.heap.size w).alloc (Nat.le_refl _) (.cells (ccells (N : Int) k bs).toArray 25)).trans (hb1.mono (by simp))))
        have c0 := G.out.1.cell HC0.out
        clear hb1
        go_wp2_with (first
          | (go_at_call 70; refine (isdig70 N hN1 hN17 _).mono ?_; rintro e w' ⟨rfl, rfl⟩; rw [HP.out])
          | (refine wpList_load_row rfl 25 (.tmp 1) rfl w.heap.size rfl 25 _ (0,0) _ G.out.1 Try.underlying25 rfl HS.out ?_))
        rw [HM1.out]
        refine (first68 (N : Int) k bs hb (N - 1) (by omega) n2 w1).mono ?_
        rintro e w2 ⟨a, rfl, hown, hb2⟩
        have G2 := hidd (And.intro (G.out.1.below hb2 G.out.1.lt) (And.intro (G.out.2.trans (hb2.mono G.out.2.size)) hown))
        clear hb2 hown c0
        go_wp2_with fail
        refine wp_region_quiet_at (fun w' => Below w2.heap.size w2 w') rfl (by kernel_rfl) ((Below.refl _ _).drew) ?_
        refine qs rfl (fun KQ hKQ => ?_)
        apply Exists.intro
        refine ⟨fun w' hw' => ?_, ?_⟩
        · go_simp; exact rfl
        go_simp
        refine hKQ _ ?_
        clear hKQ KQ
        refine qs rfl (fun KQ hKQ => ?_)
        apply Exists.intro
        refine ⟨fun w' hw' => ?_, ?_⟩
        · have c0 := (G2.out.1.below hw' G2.out.1.lt).cell HC0.out; go_simp; exact rfl
        go_simp
        refine hKQ _ ?_
        clear hKQ KQ
        refine qs rfl (fun KQ hKQ => ?_)
        apply Exists.intro
        refine ⟨fun w' hw' => ?_, ?_⟩
        · go_simp; exact rfl
        go_simp
        refine hKQ _ ?_
        clear hKQ KQ
        refine qs rfl (fun KQ hKQ => ?_)
        apply Exists.intro
        refine ⟨fun w' hw' => ?_, ?_⟩
        · have c0 := (G2.out.1.below hw' G2.out.1.lt).cell HC1.out; go_simp; exact rfl
        go_simp
        refine hKQ _ ?_
        clear hKQ KQ
        refine qs rfl (fun KQ hKQ => ?_)
        apply Exists.intro
        refine ⟨fun w' hw' => ?_, ?_⟩
        · go_simp; exact rfl
        go_simp
        refine hKQ _ ?_
        clear hKQ KQ
        refine qs rfl (fun KQ hKQ => ?_)
        apply Exists.intro
        refine ⟨fun w' hw' => ?_, ?_⟩
        · go_simp; exact (HL.out a _ _ (G2.out.2.2.sl.below hw' (Nat.le_refl _))).mono fun _ _ h => ⟨h.1, hw'.trans (h.2.mono hw'.size)⟩
        go_simp
        refine hKQ _ ?_
        clear hKQ KQ
        refine qs rfl (fun KQ hKQ => ?_)
        apply Exists.intro
        refine ⟨fun w' hw' => ?_, ?_⟩
        · go_simp; exact (HCI.out _).mono fun _ _ h => ⟨h.1, hw'.trans (h.2.mono hw'.size)⟩
        go_simp
        refine hKQ _ ?_
        clear hKQ KQ
        refine qs rfl (fun KQ hKQ => ?_)
        apply Exists.intro
        refine ⟨fun w' hw' => ?_, ?_⟩
        · exact quietRow 25 (.tmp 1) rfl w.heap.size rfl 25 _ _ (G2.out.1.below hw' G2.out.1.lt) Try.underlying25 rfl HS.out
        go_simp
        refine hKQ _ ?_
        clear hKQ KQ
        refine qs rfl (fun KQ hKQ => ?_)
        apply Exists.intro
        refine ⟨fun w' hw' => ?_, ?_⟩
        · exact quietNeq25 _ _ rfl (N : Int) k PB bs HPB.out hb rfl rfl
        go_simp
        refine hKQ _ ?_
        clear hKQ KQ
        refine wpQuiet_nil ?_
        intro w' hw'
        rw [HQ.out]
        have R := hidd (And.intro (G2.out.2.2.below hw' (Nat.le_refl _)) (G2.out.2.1.trans (hw'.mono G2.out.2.1.size)))
        have HLN := hidd (ldL_len N bs)
        clear hw'
        go_wp2_with fail
        go_ret2
        exact lout_nil rfl R.out.2
set_option maxRecDepth 100000 in
set_option maxHeartbeats 4000000 in
theorem spec32l (n k : Int) (bs : List Nat) (hb : Bys bs) (w : World) :
    Calls Try.prog 32 #[.agg (ccells n k bs).toArray] w (LOut w (ldList n k bs) (ldCode n k bs)) := by
  have HS := hidd (size_c26 n k hb)
  have HC0 := hidd (show (ccells n k bs).toArray[0]? = some (.int .i64 n) from rfl)
  have HC1 := hidd (show (ccells n k bs).toArray[1]? = some (.int .i64 k) from rfl)
  cases hi : isCol n k bs with
  | false =>
    obtain ⟨e1, e2⟩ := ld_1 hi
    have HI := hidd hi
    rw [e1, e2]
    clear hi e1 e2
    go_enter Try.func32, Try.ntmps32
    go_wp2_with (refine wpList_load_row rfl 25 (.tmp 1) rfl w.heap.size rfl 25 _ (0,0) _ (Blk.new _ _ _ _ rfl) Try.underlying25 rfl HS.out ?_)
    refine (l01Is_any n k bs hb _).mono ?_
    rintro e w1 ⟨rfl, hb1⟩
    rw [HI.out]
    have G := hidd (((Below.refl w.heap.size w).alloc (Nat.le_refl _) (.cells (ccells n k bs).toArray 25)).trans (hb1.mono (by simp)))
    clear hb1
    go_wp2_with fail
    go_ret2
    exact lout_nil rfl G.out
  | true =>
    obtain ⟨n1, n2, k1, k2⟩ := isCol_bd hi
    have HI := hidd hi
    obtain ⟨N, rfl⟩ := Int.eq_ofNat_of_zero_le (show 0 ≤ n by omega)
    have HHT := hidd (fun (hc : digB N bs = true) => ld_0 (n := (N : Int)) (k := k) hi (by rw [Int.toNat_natCast]; exact hc))
    have HHF := hidd (fun (hc : digB N bs = false) => ld_5 (n := (N : Int)) (k := k) hi (by rw [Int.toNat_natCast]; exact hc))
    rw [Int.toNat_natCast] at HHT
    have hN1 : 1 ≤ N := by omega
    have hN17 : N ≤ 17 := by omega
    clear hi
    by_cases h2 : 2 ≤ N
    · have hd : decide ((N : Int) < 2) = false := by simp; omega
      have ha := pw2_and N hN1 hN17
      have hpn := pw2_ne N h2
      obtain ⟨A, hA⟩ : ∃ A : Int, A = ((N &&& (N - 1) : Nat) : Int) := ⟨_, rfl⟩
      rw [← hA] at ha hpn
      cases hz : (A != 0) with
      | true =>
        have hp : pw2 N = false := by rw [hpn, hz]; rfl
        obtain ⟨e1, e2⟩ := HHF.out (by unfold digB; rw [hp]; rfl)
        rw [e1, e2]
        clear e1 e2 hp hpn hA
        go_enter Try.func32, Try.ntmps32
        go_wp2_with (refine wpList_load_row rfl 25 (.tmp 1) rfl w.heap.size rfl 25 _ (0,0) _ (Blk.new _ _ _ _ rfl) Try.underlying25 rfl HS.out ?_)
        refine (l01Is_any (N : Int) k bs hb _).mono ?_
        rintro e w1 ⟨rfl, hb1⟩
        rw [HI.out]
        have G := hidd (And.intro ((Blk.new w (ccells (N : Int) k bs).toArray 25 _ rfl).below hb1 (by simp)) (((Below.refl w.heap.size w).alloc (Nat.le_refl _) (.cells (ccells (N : Int) k bs).toArray 25)).trans (hb1.mono (by simp))))
        have c0 := G.out.1.cell HC0.out
        clear hb1
        go_wp2_with fail
        go_ret2
        exact lout_nil rfl G.out.2
      | false =>
        have hp : pw2 N = true := by rw [hpn, hz]; rfl
        have h16 : N ≤ 16 := by rcases pw2_cases N (by omega) hp with rfl | rfl | rfl | rfl <;> decide
        obtain ⟨PB, hPB⟩ : ∃ PB, PB = ldP N bs := ⟨_, rfl⟩
        have HPB := hidd (show Bys PB by rw [hPB]; exact ldP_bys hb N)
        have HSC := hidd (fun (a : Option Addr) (cap : Nat) (W : World) (hW : SlI W a (ldL N bs)) => by have h := sdig50 N k (ldL N bs) a cap W hW hN1 h16 (fun lo hi h3 h4 => by rw [ldL_len]; exact pw2_len (by omega) hp h3 h4) (by rw [ldL_len]; omega) (fcol_rng hb _); rw [ldL_len, show paintB N (fun lo hi => (ldL N bs).getD ((lo ^^^ hi) - 1) 0) = PB from hPB.symm] at h; exact h)
        obtain ⟨t0, hi2, hz0, hz1, hz3⟩ := info_parts info2
        have HIF := hidd (And.intro hi2 (And.intro hz0 (And.intro hz1 hz3)))
        have HLN := hidd (ldL_len N bs)
        have hq2 : digB N bs = (PB == bs) := by unfold digB; rw [← hPB, hp, Bool.true_and]
        obtain ⟨q, hq⟩ : ∃ q, q = (PB == bs) := ⟨_, rfl⟩
        have HQ := hidd hq
        have HDB := hidd (hq2.trans hq.symm)
        clear hp hpn hA hPB hq2 hq hi2 hz0 hz1 hz3
        go_enter Try.func32, Try.ntmps32
        go_wp2_with (refine wpList_load_row rfl 25 (.tmp 1) rfl w.heap.size rfl 25 _ (0,0) _ (Blk.new _ _ _ _ rfl) Try.underlying25 rfl HS.out ?_)
        refine (l01Is_any (N : Int) k bs hb _).mono ?_
        rintro e w1 ⟨rfl, hb1⟩
        rw [HI.out]
        have G := hidd (And.intro ((Blk.new w (ccells (N : Int) k bs).toArray 25 _ rfl).below hb1 (by simp)) (((Below.refl w.heap.size w).alloc (Nat.le_refl _) (.cells (ccells (N : Int) k bs).toArray 25)).trans (hb1.mono (by simp))))
        have c0 := G.out.1.cell HC0.out
        clear hb1
        go_wp2_with fail
        clear c0
        go_loopw [4, 5] (fun v e wr => ∃ d : Nat, d ≤ N - 1 ∧ e = .int .i64 ((d : Int) + 1) ∧ RelLs bs (ccells (N : Int) k bs).toArray w d v wr) (fun _ e _ => N + 1 - (intOf e).toNat)
        case atStart =>
          have hlt1 := G.out.1.lt
          refine ⟨0, by omega, rfl, G.out.1.alloc _, ⟨rfl, .inr ⟨w1.heap.size, 0, #[], by simp [fillA], by omega, ?_, ?_, ?_, rfl, rfl⟩⟩, G.out.2.alloc G.out.2.size _⟩
          · exact Blk.new _ _ _ _ rfl
          · simp [fillA]
          · simp [maxLen]
        case round =>
          obtain ⟨d, hd2, rfl, HR⟩ := hrel
          have HK := hidd HR
          clear HR
          have c0 := HK.out.1.cell HC0.out
          by_cases hlt : d < N - 1
          · obtain ⟨v1, hv⟩ : ∃ v : Int, v = fcol bs d := ⟨_, rfl⟩
            have HV := hidd hv
            clear hv
            have HSN := hidd (fillA_snoc (fcol bs) d)
            have hdl : (d : Int) + 1 < (N : Int) := by omega
            go_wp2_with (refine wpList_load_row rfl 25 (.tmp 1) rfl w.heap.size rfl 25 _ (0,0) _ HK.out.1 Try.underlying25 rfl HS.out ?_)
            refine (at57 (N : Int) k bs hb (N : Int) 0 ((d : Int) + 1) _ (by omega) (by omega) (by omega) (by omega) (by omega) (by omega)).mono ?_
            rintro e w2 ⟨he, hb1⟩
            rw [show colAt bs 0 ((d : Int) + 1) = v1 from HV.out.symm] at he
            subst he
            have K1 := hidd (And.intro (HK.out.1.below hb1 HK.out.1.lt) (And.intro (own_below HK.out.2.1 hb1 (Nat.le_refl _)) (HK.out.2.2.trans (hb1.mono HK.out.2.2.size))))
            clear hb1 c0
            have hown := K1.out.2.1
            have hlen := fillA_len (fcol bs) d
            have hsz := K1.out.2.2.size
            have hszC := K1.out.1.lt
            go_wp2_with (at_builtin; refine wpList_append_own _ rfl _ _ 22 rfl (w.heap.size + 1) 2 t0 (.int .i64 0) 1 8 Try.underlying22 HIF.out.1 HIF.out.2.1 HIF.out.2.2.1 HIF.out.2.2.2 rfl (by decide) _ _ _ rfl (hown.alloc _) ⟨w2.heap.size, 0, none⟩ 1 1 [.int .i64 v1] rfl rfl ?c1 ?c2 ?c3 ?c4 ?c5 ?_)
            case c1 => exact one_new _ _ _
            case c2 => intro u hu; simp at hu; subst hu; rfl
            case c3 => unfold maxLen; omega
            case c4 => omega
            case c5 => simp; omega
            intro v' w3 hown' hgrow _
            have K3 := hidd (show RelLs bs (ccells (N : Int) k bs).toArray w (d + 1) v' w3 from ⟨K1.out.1.below (grown_step hown hgrow (by omega)) (by omega), by rw [HSN.out, ← HV.out, icells_app, List.length_append, fillA_len]; exact hown', K1.out.2.2.trans ((grown_step hown hgrow (by omega)).mono (by omega))⟩)
            clear hown' hgrow hown
            go_wp2
            go_roundw
            case rel => exact ⟨d + 1, by omega, by go_num, K3.out⟩
            case measure => simp [intOf]; omega
          · have hde : d = N - 1 := by omega
            subst hde
            obtain ⟨a, cap, rfl, ho⟩ := own_list HK.out.2.1
            have K := hidd (And.intro HK.out.1 (And.intro ho HK.out.2.2))
            have HL2 := hidd (fillA_len (fcol bs) (N - 1))
            clear HK ho
            rw [HL2.out]
            have hdi : decide (((N - 1 : Nat) : Int) + 1 < (N : Int)) = false := by simp; omega
            cases q with
            | true =>
              go_wp2_with fail
              refine wp_region_quiet_at (fun w' => Below wr.heap.size wr w') rfl (by kernel_rfl) ((Below.refl _ _).drew) ?_
              refine qs rfl (fun KQ hKQ => ?_)
              apply Exists.intro
              refine ⟨fun w' hw' => ?_, ?_⟩
              · go_simp; exact rfl
              go_simp
              refine hKQ _ ?_
              clear hKQ KQ
              refine qs rfl (fun KQ hKQ => ?_)
              apply Exists.intro
              refine ⟨fun w' hw' => ?_, ?_⟩
              · have c0 := (K.out.1.below hw' K.out.1.lt).cell HC0.out; go_simp; exact rfl
              go_simp
              refine hKQ _ ?_
              clear hKQ KQ
              refine qs rfl (fun KQ hKQ => ?_)
              apply Exists.intro
              refine ⟨fun w' hw' => ?_, ?_⟩
              · go_simp; exact rfl
              go_simp
              refine hKQ _ ?_
              clear hKQ KQ
              refine qs rfl (fun KQ hKQ => ?_)
              apply Exists.intro
              refine ⟨fun w' hw' => ?_, ?_⟩
              · have c0 := (K.out.1.below hw' K.out.1.lt).cell HC1.out; go_simp; exact rfl
              go_simp
              refine hKQ _ ?_
              clear hKQ KQ
              refine qs rfl (fun KQ hKQ => ?_)
              apply Exists.intro
              refine ⟨fun w' hw' => ?_, ?_⟩
              · go_simp; exact rfl
              go_simp
              refine hKQ _ ?_
              clear hKQ KQ
              refine qs rfl (fun KQ hKQ => ?_)
              apply Exists.intro
              refine ⟨fun w' hw' => ?_, ?_⟩
              · go_simp; exact (HSC.out a cap _ (K.out.2.1.sl.below hw' (Nat.le_refl _))).mono fun _ _ h => ⟨h.1, hw'.trans (h.2.mono hw'.size)⟩
              go_simp
              refine hKQ _ ?_
              clear hKQ KQ
              refine qs rfl (fun KQ hKQ => ?_)
              apply Exists.intro
              refine ⟨fun w' hw' => ?_, ?_⟩
              · exact quietRow 25 (.tmp 1) rfl w.heap.size rfl 25 _ _ (K.out.1.below hw' K.out.1.lt) Try.underlying25 rfl HS.out
              go_simp
              refine hKQ _ ?_
              clear hKQ KQ
              refine qs rfl (fun KQ hKQ => ?_)
              apply Exists.intro
              refine ⟨fun w' hw' => ?_, ?_⟩
              · exact quietNeq25 _ _ rfl (N : Int) k PB bs HPB.out hb rfl rfl
              go_simp
              refine hKQ _ ?_
              clear hKQ KQ
              refine wpQuiet_nil ?_
              intro w' hw'
              rw [← HQ.out]
              have R := hidd (And.intro (K.out.2.1.below hw' (Nat.le_refl _)) (K.out.2.2.trans (hw'.mono K.out.2.2.size)))
              clear hw'
              go_wp2_with fail
              go_ret2
              rw [(HHT.out HDB.out).1, (HHT.out HDB.out).2]
              exact ⟨a, cap, by rw [HLN.out]; rfl, ownL_base R.out.1 (by omega), R.out.2⟩
            | false =>
              go_wp2_with fail
              refine wp_region_quiet_at (fun w' => Below wr.heap.size wr w') rfl (by kernel_rfl) ((Below.refl _ _).drew) ?_
              refine qs rfl (fun KQ hKQ => ?_)
              apply Exists.intro
              refine ⟨fun w' hw' => ?_, ?_⟩
              · go_simp; exact rfl
              go_simp
              refine hKQ _ ?_
              clear hKQ KQ
              refine qs rfl (fun KQ hKQ => ?_)
              apply Exists.intro
              refine ⟨fun w' hw' => ?_, ?_⟩
              · have c0 := (K.out.1.below hw' K.out.1.lt).cell HC0.out; go_simp; exact rfl
              go_simp
              refine hKQ _ ?_
              clear hKQ KQ
              refine qs rfl (fun KQ hKQ => ?_)
              apply Exists.intro
              refine ⟨fun w' hw' => ?_, ?_⟩
              · go_simp; exact rfl
              go_simp
              refine hKQ _ ?_
              clear hKQ KQ
              refine qs rfl (fun KQ hKQ => ?_)
              apply Exists.intro
              refine ⟨fun w' hw' => ?_, ?_⟩
              · have c0 := (K.out.1.below hw' K.out.1.lt).cell HC1.out; go_simp; exact rfl
              go_simp
              refine hKQ _ ?_
              clear hKQ KQ
              refine qs rfl (fun KQ hKQ => ?_)
              apply Exists.intro
              refine ⟨fun w' hw' => ?_, ?_⟩
              · go_simp; exact rfl
              go_simp
              refine hKQ _ ?_
              clear hKQ KQ
              refine qs rfl (fun KQ hKQ => ?_)
              apply Exists.intro
              refine ⟨fun w' hw' => ?_, ?_⟩
              · go_simp; exact (HSC.out a cap _ (K.out.2.1.sl.below hw' (Nat.le_refl _))).mono fun _ _ h => ⟨h.1, hw'.trans (h.2.mono hw'.size)⟩
              go_simp
              refine hKQ _ ?_
              clear hKQ KQ
              refine qs rfl (fun KQ hKQ => ?_)
              apply Exists.intro
              refine ⟨fun w' hw' => ?_, ?_⟩
              · exact quietRow 25 (.tmp 1) rfl w.heap.size rfl 25 _ _ (K.out.1.below hw' K.out.1.lt) Try.underlying25 rfl HS.out
              go_simp
              refine hKQ _ ?_
              clear hKQ KQ
              refine qs rfl (fun KQ hKQ => ?_)
              apply Exists.intro
              refine ⟨fun w' hw' => ?_, ?_⟩
              · exact quietNeq25 _ _ rfl (N : Int) k PB bs HPB.out hb rfl rfl
              go_simp
              refine hKQ _ ?_
              clear hKQ KQ
              refine wpQuiet_nil ?_
              intro w' hw'
              rw [← HQ.out]
              have R := hidd (And.intro (K.out.2.1.below hw' (Nat.le_refl _)) (K.out.2.2.trans (hw'.mono K.out.2.2.size)))
              clear hw'
              go_wp2_with fail
              go_ret2
              rw [(HHF.out HDB.out).1, (HHF.out HDB.out).2]
              exact lout_nil rfl R.out.2
    · have hd : decide ((N : Int) < 2) = true := by simp; omega
      obtain ⟨e1, e2⟩ := HHF.out (by unfold digB pw2; rw [decide_eq_false h2]; rfl)
      rw [e1, e2]
      clear e1 e2 h2
      go_enter Try.func32, Try.ntmps32
      go_wp2_with (refine wpList_load_row rfl 25 (.tmp 1) rfl w.heap.size rfl 25 _ (0,0) _ (Blk.new _ _ _ _ rfl) Try.underlying25 rfl HS.out ?_)
      refine (l01Is_any (N : Int) k bs hb _).mono ?_
      rintro e w1 ⟨rfl, hb1⟩
      rw [HI.out]
      have G := hidd (And.intro ((Blk.new w (ccells (N : Int) k bs).toArray 25 _ rfl).below hb1 (by simp)) (((Below.refl w.heap.size w).alloc (Nat.le_refl _) (.cells (ccells (N : Int) k bs).toArray 25)).trans (hb1.mono (by simp))))
      have c0 := G.out.1.cell HC0.out
      clear hb1
      go_wp2_with fail
      go_ret2
      exact lout_nil rfl G.out.2
end Go.Proofs.Ytikcmgmgdbbcfaa

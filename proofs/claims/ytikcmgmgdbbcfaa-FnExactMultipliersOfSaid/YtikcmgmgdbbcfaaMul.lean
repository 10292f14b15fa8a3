/- MultipliersOf: the program. -/
import Derived.Test.YtikcmgmgdbbcfaaLst
import Derived.Test.YtikcmgmgdbbcfaaGcd
import Derived.Deep.RegionHeld
namespace Go.Proofs.Ytikcmgmgdbbcfaa
set_option linter.unusedVariables false
set_option linter.unusedSimpArgs false
open Go Go.RowKit Go.Shelf
theorem rest_all : ((List.range 18).all fun N => (List.range 18).all fun t => (List.range 18).all fun e => !(Nat.gcd N t == 1) || (e == 0) || !(decide (e < N)) || decide (1 ≤ t * e % N)) = true := by decide +kernel
theorem rest_pos (N : Nat) (hN : N < 18) (t : Nat) (ht : t < 18) (e : Nat) (he : e < 18) (hg : Nat.gcd N t = 1) (h1 : 1 ≤ e) (h2 : e < N) : 1 ≤ t * e % N := by
  have h := List.all_eq_true.1 (List.all_eq_true.1 (List.all_eq_true.1 rest_all N (List.mem_range.2 hN)) t (List.mem_range.2 ht)) e (List.mem_range.2 he)
  rw [beq_iff_eq.2 hg, beq_eq_false_iff_ne.2 (show e ≠ 0 by omega), decide_eq_true h2] at h
  simpa using h
/-- Has each of the first m distances the colour of the one to which t takes it? -/
def kpB (N : Nat) (zs : List Int) (t m : Nat) : Bool := (List.range m).all fun d => zs.getD (dst N 0 (t * (d + 1) % N) - 1) 0 == zs.getD d 0
theorem kpB_yes {N : Nat} {zs : List Int} {t m : Nat} (h : ∀ d, d < m → zs.getD (dst N 0 (t * (d + 1) % N) - 1) 0 = zs.getD d 0) : kpB N zs t m = true := by
  unfold kpB
  rw [List.all_eq_true]
  intro d hd
  rw [beq_iff_eq]; exact h d (List.mem_range.1 hd)
theorem kpB_no {N : Nat} {zs : List Int} {t m d : Nat} (hd : d < m) (h : zs.getD (dst N 0 (t * (d + 1) % N) - 1) 0 ≠ zs.getD d 0) : kpB N zs t m = false := by
  unfold kpB
  rw [List.all_eq_false]
  exact ⟨d, List.mem_range.2 hd, by rw [beq_iff_eq]; exact h⟩
def goodM (N : Nat) (zs : List Int) (t : Nat) : Bool := (Nat.gcd N t == 1) && kpB N zs t (N / 2)
/-- The multipliers among 1 to j. -/
def muL (N : Nat) (zs : List Int) : Nat → List Int
  | 0 => []
  | j + 1 => muL N zs j ++ (if goodM N zs (j + 1) = true then [((j + 1 : Nat) : Int)] else [])
theorem muL_len (N : Nat) (zs : List Int) : ∀ j, (muL N zs j).length ≤ j
  | 0 => Nat.le_refl _
  | j + 1 => by
    have := muL_len N zs j
    rw [muL, List.length_append]
    split <;> simp <;> omega
def mpList (n k : Int) (bs : List Nat) : List Int := if lcCode n k bs = 0 then muL n.toNat (lcL n.toNat bs) (n.toNat - 1) else []
theorem mpList_len {n k : Int} {bs : List Nat} : (mpList n k bs).length ≤ 17 := by
  unfold mpList
  split
  · rename_i h
    have hi : isCol n k bs = true := by
      cases hi : isCol n k bs with
      | true => rfl
      | false => rw [(lc_1 hi).2] at h; cases h
    have := isCol_bd hi
    have := muL_len n.toNat (lcL n.toNat bs) (n.toNat - 1)
    omega
  · simp
theorem mul_rng' {T e N : Nat} (h1 : T < N) (h2 : e < N) (h3 : N ≤ 17) : 0 ≤ (T : Int) * (e : Int) ∧ (T : Int) * (e : Int) ≤ 289 := mul_rng (by omega) h2 h3
set_option maxRecDepth 100000 in
set_option maxHeartbeats 1000000 in
theorem keeps72 (N t : Nat) (zs : List Int) (a : Option Addr) (cap b0 b1 : Nat) (W : World) (hT : Blk W b0 #[.int .i64 (t : Int)] 2) (hN : Blk W b1 #[.int .i64 (N : Int)] 2) (hs : SlI W a zs) (n2 : N ≤ 17) (t1 : 1 ≤ t) (t2 : t < N) (hg : Nat.gcd N t = 1) (hl : zs.length = N / 2) :
    Calls Try.prog 72 #[.int .i64 (N : Int), .slice a zs.length cap, .func (.func 94) #[] #[.pointer (some ⟨b0, 0, none⟩), .pointer (some ⟨b1, 0, none⟩)]] W fun e w' => e = .returned (.bool (kpB N zs t (N / 2))) ∧ W = w' := by
  have HT := hidd hT
  have HN := hidd hN
  have HS := hidd hs
  have HG := hidd hg
  have HL := hidd hl
  clear hT hN hs hg hl
  go_enter Try.func72, Try.ntmps72
  go_wp2_with fail
  go_loop [11] (fun i => ∃ j : Nat, j ≤ zs.length ∧ i = .int .i64 j ∧ Hid (∀ d, d < j → zs.getD (dst N 0 (t * (d + 1) % N) - 1) 0 = zs.getD d 0)) (fun i => zs.length - (intOf i).toNat)
  case atStart => exact ⟨0, by omega, rfl, fun d hd => absurd hd (by omega)⟩
  case round =>
    obtain ⟨j, hj, rfl, HA⟩ := hrel
    by_cases hlt : j < zs.length
    · rcases HS.out with hz | ⟨b, off, ha, hc⟩
      · subst hz; simp at hlt
      · subst ha
        have hjN : j < N / 2 := by rw [← HL.out]; exact hlt
        have hr1 := rest_pos N (by omega) t (by omega) (j + 1) (by omega) HG.out (by omega) (by omega)
        have hr2 : t * (j + 1) % N < N := Nat.mod_lt _ (by omega)
        obtain ⟨r, hr⟩ : ∃ r, r = t * (j + 1) % N := ⟨_, rfl⟩
        have HTK := hidd (take94 t N (j + 1) b0 b1 W HT.out HN.out (by omega) (by omega) n2)
        rw [← hr] at hr1 hr2 HTK
        obtain ⟨hd1, hd2⟩ := dst_bd (N := N) (lo := 0) (hi := r) (by omega) hr2
        have hDI := dst_int (N := N) (lo := 0) (hi := r) (by omega) hr2
        obtain ⟨F, hF⟩ : ∃ F, F = dst N 0 r - 1 := ⟨_, rfl⟩
        have HDI := hidd (show min ((r : Int) - 0) ((N : Int) - (r : Int) + 0) = (F : Int) + 1 by rw [show (0 : Int) = ((0 : Nat) : Int) from rfl, hDI]; omega)
        have hFl : F < zs.length := by rw [HL.out]; omega
        have hcj := hc j hlt
        have hcF := hc F hFl
        obtain ⟨z, hz⟩ : ∃ z, z = zs.getD j 0 := ⟨_, rfl⟩
        obtain ⟨y, hy⟩ : ∃ y, y = zs.getD F 0 := ⟨_, rfl⟩
        rw [← hz] at hcj
        rw [← hy] at hcF
        have HZ := hidd (show zs.getD j 0 = z ∧ zs.getD (dst N 0 (t * (j + 1) % N) - 1) 0 = y from ⟨hz.symm, by rw [← hr, ← hF, hy]⟩)
        have hFI : (F : Int) < (zs.length : Int) := by omega
        have hF9 : (F : Int) ≤ 8 := by omega
        have hrI : (r : Int) < (N : Int) := by omega
        have HCAST := hidd (show ((j + 1 : Nat) : Int) = (j : Int) + 1 from rfl)
        rw [HCAST.out] at HTK
        have HDS := hidd (dist88 (N : Int) 0 (r : Int) (by omega) (by omega) hrI (by omega) W)
        rw [HDI.out] at HDS
        clear hc hz hy hr hF hDI hd1 hd2
        by_cases he : y = z
        · have hq : (y != z) = false := by rw [he]; simp
          have K := hidd (show ∀ d, d < j + 1 → zs.getD (dst N 0 (t * (d + 1) % N) - 1) 0 = zs.getD d 0 from fun d hd => by
            by_cases e : d = j
            · subst e; rw [HZ.out.1, HZ.out.2, he]
            · exact HA.out d (by omega))
          clear he
          go_wp2_with (first
            | (go_at_call 94; refine HTK.out.mono ?_; rintro e w' ⟨rfl, rfl⟩)
            | (go_at_call 88; refine HDS.out.mono ?_; rintro e w' ⟨rfl, rfl⟩))
          go_round
          case rel => exact ⟨j + 1, by omega, by go_num, K.out⟩
          case measure => simp [intOf]; omega
        · have hq : (y != z) = true := by rw [bne_iff_ne]; exact he
          have H := hidd (show kpB N zs t (N / 2) = false from kpB_no (d := j) (by rw [← HL.out]; exact hlt) (by rw [HZ.out.1, HZ.out.2]; exact he))
          clear he
          go_wp2_with (first
            | (go_at_call 94; refine HTK.out.mono ?_; rintro e w' ⟨rfl, rfl⟩)
            | (go_at_call 88; refine HDS.out.mono ?_; rintro e w' ⟨rfl, rfl⟩))
          go_ret
          exact ⟨by rw [H.out]; rfl, rfl⟩
    · have hje : j = zs.length := by omega
      subst hje
      have H := hidd (show kpB N zs t (N / 2) = true from kpB_yes (by rw [← HL.out]; exact HA.out))
      go_wp2_with fail
      go_ret
      exact ⟨by rw [H.out]; rfl, rfl⟩
end Go.Proofs.Ytikcmgmgdbbcfaa

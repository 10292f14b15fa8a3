/- The model's test of positions: l09Is, l09Code. -/
import Derived.Test.YtidengcihakijaaSp2
namespace Go.Proofs.Ytidengcihakijaa
set_option linter.unusedVariables false
set_option linter.unusedSimpArgs false
open Go Go.RowKit
theorem pos_m {N : Nat} {zs : List Int} (h : inB (mvr zs) 0 1 = false) : posB N zs = false := by simp [posB, h]
theorem pos_val {N : Nat} {zs : List Int} (h : inB (mvr zs) 0 1 = true) (hN : N ≤ 5) :
    posB N zs = ((((triK (mvr zs) zs N).length : Int) == 0) && ((((triK (1 - mvr zs) zs N).length : Int) == 0) || (((cmL (2 ^ eN N - 1) (triK (1 - mvr zs) zs N) : Nat) : Int) != 0))) := by
  unfold posB
  rw [h, Bool.true_and]
  have e : ∀ l : List Nat, l.isEmpty = (((l.length : Int) == 0)) := by
    intro l
    cases l with
    | nil => rfl
    | cons x l => rw [List.isEmpty_cons, List.length_cons]; symm; rw [beq_eq_false_iff_ne]; omega
  rw [e]
  congr 1
  generalize hL : triK (1 - mvr zs) zs N = L
  have hz : ∀ c : Nat, ((c : Int) != 0) = (c != 0) := by
    intro c
    rw [Bool.eq_iff_iff, bne_iff_ne, bne_iff_ne]; omega
  rw [hz]
  cases L with
  | nil => rfl
  | cons x l =>
    have hcm := cm_both (P := 1 - mvr zs) (zs := zs) hN (by rw [hL]; simp)
    rw [hL] at hcm
    rw [← hcm]
    have : (((x :: l).length : Int) == 0) = false := by rw [beq_eq_false_iff_ne, List.length_cons]; omega
    rw [this, Bool.false_or]
theorem inB_out' {m : Int} (h : inB m 0 1 = true) : m = 0 ∨ m = 1 := by have := inB_bd h; omega
set_option maxRecDepth 100000 in
set_option maxHeartbeats 2000000 in
theorem is29 (N : Nat) (zs : List Int) (a : Option Addr) (cap : Nat) (w : World) (hs : SlI w a zs) (hN1 : 1 ≤ N) (hN : N ≤ 5) (hlen : zs.length = eN N) :
    Calls Try.prog 33 #[.int .i64 (N : Int), .slice a zs.length cap] w fun e w' => e = .returned (.bool (posB N zs)) ∧ w = w' := by
  have hl10 : zs.length ≤ 10 := by rw [hlen]; exact Nat.le_trans (eN_mono hN) (by decide)
  have HM := hidd (mover32 zs a cap w hs hl10)
  have HC := hidd (fun P => common39 N P zs a cap w hs hN1 hN hlen)
  clear hlen hs
  cases q : inB (mvr zs) 0 1 with
  | false =>
    have hne := inB_out q
    have H := hidd (pos_m (N := N) q)
    generalize mvr zs = m at *
    have d0 : (m != 0) = true := by rw [bne_iff_ne]; omega
    have d1 : (m != 1) = true := by rw [bne_iff_ne]; omega
    clear q hne HC
    go_enter Try.func33, Try.ntmps33
    go_wp2_with fail
    refine HM.out.mono ?_
    rintro e w' ⟨rfl, rfl⟩
    go_wp2_with fail
    go_ret
    exact ⟨by rw [H.out]; rfl, rfl⟩
  | true =>
    have H := hidd (pos_val q hN)
    have hm := inB_out' q
    generalize mvr zs = m at *
    clear q
    have HO := hidd (HC.out m)
    have HP := hidd (HC.out (1 - m))
    clear HC
    generalize cmL (2 ^ eN N - 1) (triK m zs N) = c1 at *
    generalize cmL (2 ^ eN N - 1) (triK (1 - m) zs N) = c2 at *
    generalize (triK m zs N).length = l1 at *
    generalize (triK (1 - m) zs N).length = l2 at *
    have hw1 : IntKind.i64.wrap (1 - m) = 1 - m := IntWalk.i64_in _ (by omega)
    have d01 : ((m != 0) && (m != 1)) = false := by
      rcases hm with rfl | rfl <;> rfl
    obtain ⟨b1, h1⟩ : ∃ b, ((l1 : Int) == 0) = b := ⟨_, rfl⟩
    obtain ⟨b2, h2⟩ : ∃ b, ((l2 : Int) == 0) = b := ⟨_, rfl⟩
    obtain ⟨b3, h3⟩ : ∃ b, ((c2 : Int) != 0) = b := ⟨_, rfl⟩
    rw [h1, h2, h3] at H
    have d0 : (m != 0) = true → (m != 1) = false := by
      rcases hm with rfl | rfl
      · intro h; cases h
      · intro _; rfl
    cases q0 : (m != 0) with
    | false =>
      clear d0 d01 hm
      cases b1 <;> cases b2 <;> cases b3 <;>
      (go_enter Try.func33, Try.ntmps33
       go_wp2_with fail
       refine HM.out.mono ?_
       rintro e w' ⟨rfl, rfl⟩
       go_wp2_with fail
       refine HO.out.mono ?_
       rintro e w' ⟨rfl, rfl⟩
       go_wp2_with fail
       refine HP.out.mono ?_
       rintro e w' ⟨rfl, rfl⟩
       go_wp2_with fail
       go_ret
       exact ⟨by rw [H.out]; rfl, rfl⟩)
    | true =>
      have q1 := d0 q0
      clear d0 d01 hm
      cases b1 <;> cases b2 <;> cases b3 <;>
      (go_enter Try.func33, Try.ntmps33
       go_wp2_with fail
       refine HM.out.mono ?_
       rintro e w' ⟨rfl, rfl⟩
       go_wp2_with fail
       refine HO.out.mono ?_
       rintro e w' ⟨rfl, rfl⟩
       go_wp2_with fail
       refine HP.out.mono ?_
       rintro e w' ⟨rfl, rfl⟩
       go_wp2_with fail
       go_ret
       exact ⟨by rw [H.out]; rfl, rfl⟩)
theorem gm_2 {n : Int} {zs : List Int} (h : lstB n zs = false) : gmCode n zs = 2 := by simp [gmCode, h]
theorem gm_1 {n : Int} {zs : List Int} (h : lstB n zs = true) (h2 : posB n.toNat zs = false) : gmCode n zs = 1 := by simp [gmCode, h, h2]
theorem gm_0 {n : Int} {zs : List Int} (h : lstB n zs = true) (h2 : posB n.toNat zs = true) : gmCode n zs = 0 := by simp [gmCode, h, h2]
theorem lst_len {n : Int} {zs : List Int} (h : lstB n zs = true) : ∃ N : Nat, n = (N : Int) ∧ 1 ≤ N ∧ N ≤ 5 ∧ zs.length = eN N ∧ zs.length ≤ 10 := by
  obtain ⟨h1, h2, h3, h4⟩ := lst_get h
  obtain ⟨N, rfl⟩ := Int.eq_ofNat_of_zero_le (show 0 ≤ n by omega)
  have h5 := len_eN h3
  exact ⟨N, rfl, by omega, by omega, h5, by rw [h5]; exact Nat.le_trans (eN_mono (show N ≤ 5 by omega)) (by decide)⟩
set_option maxRecDepth 100000 in
theorem code31 (n : Int) (zs : List Int) (a : Option Addr) (cap : Nat) (w : World) (hs : SlI w a zs) (hl : zs.length ≤ 9223372036854775807) :
    Calls Try.prog 15 #[.int .i64 n, .slice a zs.length cap] w fun e w' => e = .returned (.int .i64 (gmCode n zs)) ∧ w = w' := by
  have HL := hidd (lists28 n zs a cap w hs hl)
  cases q : lstB n zs with
  | false =>
    rw [ls_2 q] at HL
    have H := hidd (gm_2 q)
    clear q
    go_enter Try.func15, Try.ntmps15
    go_wp2_with fail
    refine HL.out.mono ?_
    rintro e w' ⟨rfl, rfl⟩
    go_wp2_with fail
    go_ret
    exact ⟨by rw [H.out]; rfl, rfl⟩
  | true =>
    rw [ls_0 q] at HL
    obtain ⟨N, rfl, n1, n5, hlen, hl10⟩ := lst_len q
    have HI := hidd (is29 N zs a cap w hs n1 n5 hlen)
    cases p : posB N zs with
    | false =>
      rw [p] at HI
      have H := hidd (gm_1 q p)
      clear q p hlen
      go_enter Try.func15, Try.ntmps15
      go_wp2_with fail
      refine HL.out.mono ?_
      rintro e w' ⟨rfl, rfl⟩
      go_wp2_with fail
      refine HI.out.mono ?_
      rintro e w' ⟨rfl, rfl⟩
      go_wp2_with fail
      go_ret
      exact ⟨by rw [H.out]; rfl, rfl⟩
    | true =>
      rw [p] at HI
      have H := hidd (gm_0 q p)
      clear q p hlen
      go_enter Try.func15, Try.ntmps15
      go_wp2_with fail
      refine HL.out.mono ?_
      rintro e w' ⟨rfl, rfl⟩
      go_wp2_with fail
      refine HI.out.mono ?_
      rintro e w' ⟨rfl, rfl⟩
      go_wp2_with fail
      go_ret
      exact ⟨by rw [H.out]; rfl, rfl⟩
end Go.Proofs.Ytidengcihakijaa

/- isClosed, and what stepsOf answers where something is wrong. -/
import Derived.Test.YtmeihpakbhfipaaDoorStp
import Derived.Test.YtmeihpakbhfipaaDoorCon
namespace Go.Proofs.YtmeihpakbhfipaaDoor
set_option linter.unusedVariables false
set_option linter.unusedSimpArgs false
open Go Go.RowKit Go.Shelf
def ClQ (bs : List Nat) (c : Int) (N p m : Nat) : Prop := ∀ i, i < m → i < (upR bs c N p).length → ∀ y ∈ upR bs c N ((upR bs c N p).getD i 0).toNat, y ∈ upR bs c N p
def ClR (bs : List Nat) (c : Int) (N p q k : Nat) : Prop := ∀ i, i < k → i < (upR bs c N q).length → (upR bs c N q).getD i 0 ∈ upR bs c N p
theorem mem_getD {zs : List Int} {z : Int} (h : z ∈ zs) : ∃ i, i < zs.length ∧ zs.getD i 0 = z := by
  obtain ⟨i, hi, rfl⟩ := List.getElem_of_mem h
  exact ⟨i, hi, by simp [List.getD, List.getElem?_eq_getElem hi]⟩
theorem ClQ.all {bs : List Nat} {c : Int} {N p m : Nat} (h : ClQ bs c N p m) (hm : (upR bs c N p).length ≤ m) : ClP bs c N p := by
  intro z hz
  obtain ⟨i, hi, rfl⟩ := mem_getD hz
  exact h i (by omega) hi
theorem ClR.all {bs : List Nat} {c : Int} {N p q m k : Nat} (h : ClR bs c N p q k) (hk : (upR bs c N q).length ≤ k) (h2 : ClQ bs c N p m) (hz : (upR bs c N p).getD m 0 = (q : Int)) : ClQ bs c N p (m + 1) := by
  intro i hi hl y hy
  by_cases e : i = m
  · subst e
    rw [hz, Int.toNat_natCast] at hy
    obtain ⟨i', hi', rfl⟩ := mem_getD hy
    exact h i' (by omega) hi'
  · exact h2 i (by omega) hl y hy
theorem ClR.step {bs : List Nat} {c : Int} {N p q k : Nat} (h : ClR bs c N p q k) (hm : (upR bs c N q).getD k 0 ∈ upR bs c N p) : ClR bs c N p q (k + 1) := by
  intro i hi hl
  by_cases e : i = k
  · subst e; exact hm
  · exact h i (by omega) hl
set_option maxRecDepth 100000 in
set_option maxHeartbeats 4000000 in
theorem closed28 (N : Nat) (c : Int) (bs : List Nat) (g : Nat) (w : World) (N2 : N ≤ 17) (hS : StI w g (upR bs c N) N) :
    Calls Tryd.prog 28 #[.slice (some ⟨g, 0, none⟩) N N] w fun e w' => e = .returned (.bool (clB bs c N)) ∧ w = w' := by
  obtain ⟨C, hC, hCs, hCr⟩ := hS
  have HR := hidd (fun p (hp : p < N) => (show ∃ a cap, w.cell? ⟨g, p, none⟩ = some (.slice a (upR bs c N p).length cap) ∧ SlI w a (upR bs c N p) by
    obtain ⟨a, cap, e, hs⟩ := hCr p hp
    exact ⟨a, cap, hC.cell e, hs⟩))
  clear hC hCs hCr
  go_enter Tryd.func28, Tryd.ntmps28
  go_wp2_with fail
  go_loop [11] (fun i => ∃ p : Nat, p ≤ N ∧ i = .int .i64 (p : Int) ∧ Hid (∀ p', p' < p → ClP bs c N p')) (fun i => N - (intOf i).toNat)
  case atStart => exact ⟨0, Nat.zero_le _, rfl, fun p' h => by omega⟩
  case round =>
    obtain ⟨p, hp, rfl, HP⟩ := hrel
    by_cases hlt : p < N
    · obtain ⟨a, cap, cp, hsp⟩ := HR.out p hlt
      have HSP := hidd hsp
      have hrl := upR_len bs c N p
      have hl17 : (upR bs c N p).length ≤ 17 := by omega
      clear hsp hrl
      go_wp2_with fail
      clear cp
      go_loop [17] (fun i => ∃ m : Nat, m ≤ (upR bs c N p).length ∧ i = .int .i64 (m : Int) ∧ Hid (ClQ bs c N p m)) (fun i => (upR bs c N p).length - (intOf i).toNat)
      case atStart => exact ⟨0, Nat.zero_le _, rfl, fun i h => by omega⟩
      case round =>
        obtain ⟨m, hm, rfl, HQ⟩ := hrel
        by_cases hml : m < (upR bs c N p).length
        · obtain ⟨q, hq, hpq, hqN, hqc⟩ := upR_get hml
          rcases HSP.out with hz | ⟨b, off, ha, hc⟩
          · rw [hz] at hml; simp at hml
          subst ha
          have cm := hc m hml
          rw [hq] at cm
          obtain ⟨a2, cap2, cq, hsq⟩ := HR.out q hqN
          have HSQ := hidd hsq
          have HZ := hidd hq
          have HQC := hidd hqc
          have hrl2 := upR_len bs c N q
          have hl172 : (upR bs c N q).length ≤ 17 := by omega
          clear hc hq hqc hsq hrl2
          go_wp2_with fail
          clear cm cq
          go_loop [26] (fun i => ∃ k : Nat, k ≤ (upR bs c N q).length ∧ i = .int .i64 (k : Int) ∧ Hid (ClR bs c N p q k)) (fun i => (upR bs c N q).length - (intOf i).toNat)
          case atStart => exact ⟨0, Nat.zero_le _, rfl, fun i h => by omega⟩
          case round =>
            obtain ⟨k, hk, rfl, HK⟩ := hrel
            by_cases hkl : k < (upR bs c N q).length
            · obtain ⟨r, hr, hqr, hrN, hrc⟩ := upR_get hkl
              rcases HSQ.out with hz | ⟨b2, off2, ha2, hc2⟩
              · rw [hz] at hkl; simp at hkl
              subst ha2
              have ck := hc2 k hkl
              rw [hr] at ck
              have HCN := hidd (contains99 (upR bs c N p) _ cap (r : Int) w HSP.out (by omega))
              have HRR := hidd (And.intro hr hrc)
              clear hc2 hr hrc
              by_cases hmem : (r : Int) ∈ upR bs c N p
              · have hd : decide ((r : Int) ∈ upR bs c N p) = true := decide_eq_true hmem
                have HK2 := hidd (HK.out.step (by rw [HRR.out.1]; exact hmem))
                clear hmem
                go_wp2_with (go_at_call 46; refine HCN.out.mono ?_; rintro e _ ⟨rfl, rfl⟩; rw [hd])
                go_round
                case rel => exact ⟨k + 1, by omega, by go_num, HK2⟩
                case measure => simp [intOf]; omega
              · have hd : decide ((r : Int) ∈ upR bs c N p) = false := decide_eq_false hmem
                have HF := hidd (clB_no hrN hpq hqr HQC.out HRR.out.2 (fun e => hmem (upR_mem.2 ⟨r, rfl, by omega, hrN, e⟩)))
                clear hmem
                go_wp2_with (go_at_call 46; refine HCN.out.mono ?_; rintro e _ ⟨rfl, rfl⟩; rw [hd])
                go_ret
                exact ⟨by rw [HF.out]; rfl, rfl⟩
            · have HQ2 := hidd (HK.out.all (by omega) HQ.out HZ.out)
              go_wp2_with fail
              go_round
              case rel => exact ⟨m + 1, by omega, by go_num, HQ2⟩
              case measure => simp [intOf]; omega
        · have HP2 := hidd (HQ.out.all (by omega))
          go_wp2_with fail
          go_round
          case rel => exact ⟨p + 1, by omega, by go_num, fun p' hp' => by
            by_cases e : p' = p
            · subst e; exact HP2.out
            · exact HP.out p' (by omega)⟩
          case measure => simp [intOf]; omega
    · obtain rfl : p = N := by omega
      have HT := hidd (clB_yes HP.out)
      go_wp2_with fail
      go_ret
      exact ⟨by rw [HT.out]; rfl, rfl⟩
end Go.Proofs.YtmeihpakbhfipaaDoor

/- l09Least: the model's search. -/
import Derived.Test.YtidengcihakijaaLpq
namespace Go.Proofs.Ytidengcihakijaa
set_option linter.unusedVariables false
set_option linter.unusedSimpArgs false
open Go Go.RowKit Go.Shelf
/-- Numbers of N points, no two equal. -/
def Beg (N : Nat) (b : List Int) : Prop := b.Nodup ∧ ∀ x ∈ b, 0 ≤ x ∧ x < (N : Int)
theorem Beg.put {N : Nat} {b : List Int} (h : Beg N b) {p : Nat} (hp : p < N) (hc : b.contains (p : Int) = false) : Beg N (b ++ [(p : Int)]) := by
  have hm : (p : Int) ∉ b := by
    intro hm
    rw [List.contains_iff_mem.2 hm] at hc
    cases hc
  refine ⟨List.nodup_append.2 ⟨h.1, by simp, fun x hx y hy => ?_⟩, fun x hx => ?_⟩
  · rw [List.mem_singleton] at hy
    rintro rfl
    exact hm (hy ▸ hx)
  · rcases List.mem_append.1 hx with hx | hx
    · exact h.2 x hx
    · rw [List.mem_singleton] at hx; omega
theorem contains_take (b : List Int) (p : Int) (i : Nat) (hi : i < b.length) : (b.take (i + 1)).contains p = ((b.take i).contains p || (b.getD i 0 == p)) := by
  have e : b.take (i + 1) = b.take i ++ [b.getD i 0] := by
    rw [List.take_add_one, List.getElem?_eq_getElem hi]
    simp [List.getD, hi]
  rw [e]
  have h2 : ∀ l : List Int, (l ++ [b.getD i 0]).contains p = (l.contains p || (b.getD i 0 == p)) := by
    intro l
    rw [Bool.eq_iff_iff]
    simp only [List.contains_iff_mem, List.mem_append, List.mem_singleton, Bool.or_eq_true, beq_iff_eq]
    exact ⟨fun h => h.imp id Eq.symm, fun h => h.imp id Eq.symm⟩
  exact h2 _
def LstC (n : Nat) (zs : List Int) (bl off cap r : Nat) : Prop :=
  ∀ (B : Nat) (bg : List Int) (pb po capp : Nat) (best : List Int) (av : Option Addr) (capv : Nat) (w : World), bg.length + r = n → Beg n bg → SlI w (some ⟨bl, off, none⟩) zs → SlI w (some ⟨pb, po, none⟩) bg → OwnL w B av best → B ≤ w.heap.size → best.length = zs.length →
    Calls Try.prog 16 #[.int .i64 (n : Int), .slice (some ⟨bl, off, none⟩) zs.length cap, .slice (some ⟨pb, po, none⟩) bg.length capp, .slice av zs.length capv] w fun e w' =>
      ∃ a c, e = .returned (.slice a zs.length c) ∧ OwnL w' B a (minL (rnZ n zs) best (ordM n r bg)) ∧ Below w.heap.size w w'
set_option maxRecDepth 100000 in
set_option maxHeartbeats 2000000 in
theorem lst_base (n : Nat) (zs : List Int) (bl off cap : Nat) (n1 : 1 ≤ n) (n5 : n ≤ 5) (hlen : zs.length = eN n) : LstC n zs bl off cap 0 := by
  intro B bg pb po capp best av capv w hl hB hz hp ho hBw hbl
  have hl10 : zs.length ≤ 10 := by rw [hlen]; exact Nat.le_trans (eN_mono n5) (by decide)
  have hO : Ordr n bg := ⟨by omega, hB.1, hB.2⟩
  have HR := hidd (ren49 n zs bg n1 n5 hlen hO bl off cap (some ⟨pb, po, none⟩) capp w hz hp)
  have hrl := rnZ_len n zs bg
  have HO := hidd ho
  obtain ⟨R, hR⟩ : ∃ R, R = rnZ n zs bg := ⟨_, rfl⟩
  have hm : minL (rnZ n zs) best (ordM n 0 bg) = if befB R best = true then R else best := by rw [hR]; rfl
  rw [hm]
  rw [← hR] at HR hrl
  have HBF := hidd (fun a ca W h1 h2 => before35 R best a ca av capv W h1 h2 (by omega) (by omega))
  rw [hrl, hbl] at HBF
  have HRL := hidd hrl
  have hEq : ((bg.length : Int) == (n : Int)) = true := by rw [beq_iff_eq]; omega
  obtain ⟨q, hq⟩ : ∃ q, q = befB R best := ⟨_, rfl⟩
  rw [← hq] at HBF ⊢
  clear hl hB hz hp ho hbl hlen hO hR hm hq hrl
  have HBW := hidd hBw
  go_enter Try.func16, Try.ntmps16
  go_wp2_with fail
  refine HR.out.mono ?_
  rintro e w1 ⟨a1, c1, rfl, ho1, hb1⟩
  rw [HRL.out]
  have K1 := hidd (And.intro ho1 (And.intro (HO.out.below hb1 (Nat.le_refl _)) hb1))
  clear ho1 hb1
  go_wp2_with fail
  refine (HBF.out _ _ _ K1.out.1.sl K1.out.2.1.sl).mono ?_
  rintro e w2 ⟨rfl, hb2⟩
  have K2 := hidd (show OwnL w2 w.heap.size a1 R ∧ OwnL w2 B av best ∧ Below w.heap.size w w2 from ⟨K1.out.1.below hb2 (Nat.le_refl _), K1.out.2.1.below hb2 (Nat.le_refl _), K1.out.2.2.trans (hb2.mono K1.out.2.2.size)⟩)
  clear hb2
  cases q with
  | true =>
    go_wp2_with fail
    go_ret
    exact ⟨_, ⟨_, rfl⟩, K2.out.1.bas HBW.out, K2.out.2.2⟩
  | false =>
    go_wp2_with fail
    go_ret
    exact ⟨_, ⟨_, rfl⟩, K2.out.2.1, K2.out.2.2⟩
set_option maxRecDepth 100000 in
set_option maxHeartbeats 4000000 in
theorem lst_step (n : Nat) (zs : List Int) (bl off cap r : Nat) (n1 : 1 ≤ n) (n5 : n ≤ 5) (hlen : zs.length = eN n) (IH : LstC n zs bl off cap r) : LstC n zs bl off cap (r + 1) := by
  intro B bg pb po capp best av capv w hl hB hz hp ho hBw hbl
  have hl10 : zs.length ≤ 10 := by rw [hlen]; exact Nat.le_trans (eN_mono n5) (by decide)
  have HIH := hidd IH
  have HZ := hidd hz
  have HP := hidd hp
  have HO := hidd ho
  have HBW := hidd hBw
  have HBG := hidd hB
  have HL := hidd hl
  have hbg5 : bg.length ≤ 5 := by omega
  obtain ⟨t0, hi2, hz0, hz1, hz3⟩ := info_parts info2
  have HIF := hidd (And.intro hi2 (And.intro hz0 (And.intro hz1 hz3)))
  have hEq : ((bg.length : Int) == (n : Int)) = false := by rw [beq_eq_false_iff_ne]; omega
  obtain ⟨G, hG⟩ : ∃ G : Nat → List (List Int), G = fun (p : Nat) => if bg.contains (p : Int) = true then [] else ordM n r (bg ++ [(p : Int)]) := ⟨_, rfl⟩
  have hord : ordM n (r + 1) bg = (List.range n).flatMap G := by rw [hG]; rfl
  rw [hord]
  have HG := hidd (show ∀ p, G p = if bg.contains (p : Int) = true then [] else ordM n r (bg ++ [(p : Int)]) from fun p => by rw [hG])
  obtain ⟨M, hM⟩ : ∃ M : Nat → List Int, M = fun p => minL (rnZ n zs) best ((List.range p).flatMap G) := ⟨_, rfl⟩
  have HM := hidd (show M 0 = best ∧ (∀ p, M (p + 1) = minL (rnZ n zs) (M p) (G p)) ∧ M n = minL (rnZ n zs) best ((List.range n).flatMap G) ∧ ∀ p, (M p).length = zs.length from by
    rw [hM]
    refine ⟨by rfl, fun p => ?_, by rfl, fun p => minL_len (fun o => rnZ_len n zs o) _ _ hbl⟩
    show minL (rnZ n zs) best ((List.range (p + 1)).flatMap G) = _
    rw [List.range_succ, List.flatMap_append, minL_app]
    simp)
  rw [← HM.out.2.2.1]
  clear hl hB hz hp ho hBw hbl hlen IH hi2 hz0 hz1 hz3 hG hord hM
  go_enter Try.func16, Try.ntmps16
  go_wp2_with fail
  go_loopw [3, 10] (fun bv pv wr => ∃ p : Nat, p ≤ n ∧ pv = .int .i64 (p : Int) ∧ (∃ a c, bv = .slice a zs.length c ∧ Hid (OwnL wr B a (M p) ∧ Below w.heap.size w wr))) (fun _ pv _ => n - (intOf pv).toNat)
  case atStart => exact ⟨0, Nat.zero_le _, rfl, av, capv, rfl, by rw [HM.out.1]; exact HO.out, Below.refl _ _⟩
  case round =>
    obtain ⟨p, hp, rfl, a, c, rfl, HK⟩ := hrel
    by_cases hlt : p < n
    · have hltI : decide ((p : Int) < (n : Int)) = true := by simp; omega
      obtain ⟨wo, rfl⟩ : ∃ wo : World, wo = wr := ⟨_, rfl⟩
      go_wp2_with fail
      go_loopw [11, 12] (fun kv iv wr => ∃ i : Nat, i ≤ bg.length ∧ kv = .bool ((bg.take i).contains (p : Int)) ∧ iv = .int .i64 (i : Int) ∧ wo = wr) (fun _ iv _ => bg.length - (intOf iv).toNat)
      case atStart => exact ⟨0, Nat.zero_le _, rfl, rfl, rfl⟩
      case round =>
        obtain ⟨i, hi, rfl, rfl, hww⟩ := hrel
        obtain rfl : wo = wr := hww
        by_cases hli : i < bg.length
        · have hliI : (i : Int) < (bg.length : Int) := by omega
          rcases HP.out.below HK.out.2 (Nat.le_refl _) with hz | ⟨pb', po', hpe, hpc⟩
          · rw [hz] at hli; simp at hli
          · cases hpe
            have cp := hpc i hli
            have HCT := hidd (contains_take bg (p : Int) i hli)
            obtain ⟨z, hz⟩ : ∃ z, z = bg.getD i 0 := ⟨_, rfl⟩
            rw [← hz] at cp HCT
            obtain ⟨k, hk⟩ : ∃ k, k = (bg.take i).contains (p : Int) := ⟨_, rfl⟩
            rw [← hk] at HCT ⊢
            clear hpc hz hk
            cases k with
            | true =>
              go_wp2_with fail
              go_roundw
              case rel => exact ⟨i + 1, by omega, by rw [HCT.out]; rfl, by go_num, trivial⟩
              case measure => simp [intOf]; omega
            | false =>
              go_wp2_with fail
              go_roundw
              case rel => exact ⟨i + 1, by omega, by rw [HCT.out]; rfl, by go_num, trivial⟩
              case measure => simp [intOf]; omega
        · have hliI : ¬ (i : Int) < (bg.length : Int) := by omega
          have hie : bg.take i = bg := List.take_of_length_le (by omega)
          rw [hie]
          have HGP := hidd (HG.out p)
          obtain ⟨k, hk⟩ : ∃ k, k = bg.contains (p : Int) := ⟨_, rfl⟩
          have HKK := hidd hk
          rw [← hk] at HGP ⊢
          clear hie hk
          cases k with
          | true =>
            rw [if_pos rfl] at HGP
            have HMP := hidd (show M (p + 1) = M p from by rw [HM.out.2.1, HGP.out]; rfl)
            go_wp2_with fail
            go_roundw
            case rel => exact ⟨p + 1, by omega, by go_num, a, c, rfl, by rw [HMP.out]; exact HK.out.1, HK.out.2⟩
            case measure => simp [intOf]; omega
          | false =>
            rw [if_neg (by decide)] at HGP
            have HMP := hidd (show M (p + 1) = minL (rnZ n zs) (M p) (ordM n r (bg ++ [(p : Int)])) from by rw [HM.out.2.1, HGP.out])
            have HB2 := hidd (HBG.out.put hlt HKK.out.symm)
            go_wp2_with fail
            refine (own60 pb po capp bg _ (HP.out.below HK.out.2 (Nat.le_refl _)) (by omega)).mono ?_
            rintro e w1 ⟨g1, c1, rfl, ho1, hb1⟩
            have R1 := hidd (show RelLa zs (some ⟨bl, off, none⟩) wo bg (.slice (some ⟨g1, 0, none⟩) bg.length c1) w1 from ⟨ho1, (HZ.out.below HK.out.2 (Nat.le_refl _)).below hb1 (Nat.le_refl _), hb1⟩)
            have hs1 := hb1.size
            clear hb1
            go_wp2_with (at_builtin; refine wpList_append_own _ rfl _ _ 22 rfl wo.heap.size 2 t0 (.int .i64 0) 1 8 Try.underlying22 HIF.out.1 HIF.out.2.1 HIF.out.2.2.1 HIF.out.2.2.2 rfl (by decide) _ _ _ rfl (ho1.alloc _) ⟨w1.heap.size, 0, none⟩ 1 1 [.int .i64 (p : Int)] rfl rfl ?c1 ?c2 ?c3 ?c4 ?c5 ?_)
            case c1 => exact one_new _ _ _
            case c2 => intro u hu; simp at hu; subst hu; rfl
            case c3 => unfold maxLen; omega
            case c4 => omega
            case c5 => simp; omega
            intro v' w2 hown' hgrow _
            have R2 := hidd (R1.out.step (HZ.out.below HK.out.2 (Nat.le_refl _)) hown' hgrow)
            clear hown' hgrow ho1 hs1
            obtain ⟨a2, c2, rfl, ho2⟩ := own_list R2.out.1
            have hln : (bg ++ [(p : Int)]).length = bg.length + 1 := by simp
            obtain ⟨pb2, po2, rfl⟩ : ∃ pb2 po2, a2 = some ⟨pb2, po2, none⟩ := by
              rcases ho2.sl with hz | ⟨pb2, po2, h, _⟩
              · simp at hz
              · exact ⟨pb2, po2, h⟩
            have R3 := hidd (show SlI w2 (some ⟨pb2, po2, none⟩) (bg ++ [(p : Int)]) ∧ OwnL w2 B a (M p) ∧ Below w.heap.size w w2 from ⟨ho2.sl, HK.out.1.below R2.out.2.2 (Nat.le_refl _), HK.out.2.trans (R2.out.2.2.mono HK.out.2.size)⟩)
            have HI := hidd (HIH.out B (bg ++ [(p : Int)]) pb2 po2 c2 (M p) a c w2 (by have := HL.out; omega) HB2.out R2.out.2.1 R3.out.1 R3.out.2.1 (Nat.le_trans HBW.out R3.out.2.2.size) (HM.out.2.2.2 p))
            rw [hln] at HI ⊢
            clear ho2 hln
            go_wp2_with fail
            refine HI.out.mono ?_
            rintro e w3 ⟨a3, c3, rfl, ho3, hb3⟩
            have R4 := hidd (show OwnL w3 B a3 (M (p + 1)) ∧ Below w.heap.size w w3 from ⟨by rw [HMP.out]; exact ho3, R3.out.2.2.trans (hb3.mono R3.out.2.2.size)⟩)
            clear ho3 hb3
            go_wp2_with fail
            go_roundw
            case rel => exact ⟨p + 1, by omega, by go_num, a3, c3, rfl, R4.out.1, R4.out.2⟩
            case measure => simp [intOf]; omega
    · have hltI : decide ((p : Int) < (n : Int)) = false := by simp; omega
      have hpn : p = n := by omega
      subst hpn
      go_wp2_with fail
      go_ret
      exact ⟨_, _, rfl, HK.out.1, HK.out.2⟩
theorem least16 (n : Nat) (zs : List Int) (bl off cap : Nat) (n1 : 1 ≤ n) (n5 : n ≤ 5) (hlen : zs.length = eN n) : ∀ r, LstC n zs bl off cap r
  | 0 => lst_base n zs bl off cap n1 n5 hlen
  | r + 1 => lst_step n zs bl off cap r n1 n5 hlen (least16 n zs bl off cap n1 n5 hlen r)
end Go.Proofs.Ytidengcihakijaa

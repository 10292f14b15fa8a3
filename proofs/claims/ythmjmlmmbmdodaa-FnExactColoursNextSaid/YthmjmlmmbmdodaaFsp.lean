/- IsFree, FirstFault, CountFaults: the model. -/
import Derived.Test.YthmjmlmmbmdodaaFlt
namespace Go.Proofs.Ythmjmlmmbmdodaa
set_option linter.unusedVariables false
set_option linter.unusedSimpArgs false
open Go Go.RowKit Go.Shelf
/-- All faults of a part. -/
def FT (zs : List Int) (kind : Int) : List Flt := fsL zs kind 1 zs.length
theorem head_nil {l : List Flt} : (headL l).length = 0 ↔ l = [] := by cases l <;> simp [headL]
theorem pt_cases (k : Int) (zs : List Int) (kind : Int) : ptCode k zs kind = 2 ∨ (ptCode k zs kind = 0 ∧ partB k zs = true ∧ 0 ≤ kind ∧ kind ≤ 2) := by
  unfold ptCode
  by_cases h : partB k zs = true ∧ inB kind 0 2 = true
  · rw [if_pos h]; have := inB_bd h.2; exact .inr ⟨rfl, h.1, this.1, this.2⟩
  · rw [if_neg h]; exact .inl rfl
theorem frL_len (zs : List Int) (kind : Int) (z : Nat) : ∀ m, (frL zs kind z m).length ≤ m
  | 0 => by simp [frL]
  | m + 1 => by have := frL_len zs kind z m; simp only [frL, List.length_append]; split <;> simp <;> omega
theorem fsL_len (zs : List Int) (kind : Int) (f : Nat) : ∀ d, (fsL zs kind f d).length ≤ d * (f + d)
  | 0 => by simp [fsL]
  | d + 1 => by
    have h1 := fsL_len zs kind f d
    have h2 := frL_len zs kind (f + d) (f + d - 1)
    simp only [fsL, rowL, List.length_append]
    have h3 : d * (f + d) ≤ d * (f + (d + 1)) := Nat.mul_le_mul_left d (by omega)
    rw [show (d + 1) * (f + (d + 1)) = d * (f + (d + 1)) + (f + (d + 1)) by rw [Nat.add_mul, Nat.one_mul]]
    omega
def ifVal (k : Int) (zs : List Int) (kind : Int) : Bool := if ptCode k zs kind = 0 then (FT zs kind).isEmpty else false
set_option maxRecDepth 100000 in
set_option maxHeartbeats 1000000 in
theorem spec11f (k : Int) (zs : List Int) (kind : Int) (a : Option Addr) (cap : Nat) (w : World) (hs : SlI w a zs) (hl : zs.length ≤ 9223372036854775807) :
    Calls Try.prog 11 #[.int .i64 k, .slice a zs.length cap, .int .i64 kind] w fun e w' => e = .returned (.tuple #[.bool (ifVal k zs kind), .int .i64 (ptCode k zs kind)]) ∧ Below w.heap.size w w' := by
  have HSL := hidd hs
  clear hs
  rcases pt_cases k zs kind with hc | ⟨hc, hp, k0, k2⟩
  · have HC := hidd hc
    have HV := hidd (show ifVal k zs kind = false by unfold ifVal; rw [hc]; rfl)
    clear hc
    go_enter Try.func11, Try.ntmps11
    go_wp2_with (go_at_call 33; refine (code33 _ _ _ _ _ _ HSL.out hl).mono ?_; rintro e w' ⟨rfl, rfl⟩; rw [HC.out])
    go_ret2
    exact ⟨by rw [HV.out, HC.out]; rfl, Below.refl _ _⟩
  · have HC := hidd hc
    obtain ⟨p1, p2, p3, p4⟩ := partB_bd hp
    have HV := hidd (show ifVal k zs kind = decide ((headL (FT zs kind)).length = 0) by
      unfold ifVal; rw [hc, if_pos rfl]
      cases h : FT zs kind <;> simp [headL])
    have HF := hidd (fun W hW => fault34 zs a cap kind 1 W hW (by omega) k0 k2 (by omega) (by omega))
    rw [show zs.length + 1 - 1 = zs.length by omega] at HF
    obtain ⟨L, hL⟩ : ∃ L, L = headL (FT zs kind) := ⟨_, rfl⟩
    rw [show headL (fsL zs kind 1 zs.length) = L from hL.symm] at HF
    rw [← hL] at HV
    have hL3 : L.length ≤ 3 := by rw [hL]; exact headL_len _
    clear hc hp hL p4
    go_enter Try.func11, Try.ntmps11
    go_wp2_with (go_at_call 33; refine (code33 _ _ _ _ _ _ HSL.out hl).mono ?_; rintro e w' ⟨rfl, rfl⟩; rw [HC.out])
    refine (HF.out _ HSL.out).mono ?_
    rintro e w1 ⟨a1, c1, rfl, _, hb1⟩
    have R := hidd hb1
    clear hb1
    by_cases h0 : L.length = 0
    · have hq : ((L.length : Int) == 0) = true := by rw [h0]; rfl
      have HV2 := hidd (HV.out.trans (decide_eq_true h0))
      clear h0
      go_wp2_with fail
      go_ret2
      exact ⟨by rw [HV2.out, HC.out]; rfl, R.out⟩
    · have hq : ((L.length : Int) == 0) = false := by rw [beq_eq_false_iff_ne]; omega
      have HV2 := hidd (HV.out.trans (decide_eq_false h0))
      clear h0
      go_wp2_with fail
      go_ret2
      exact ⟨by rw [HV2.out, HC.out]; rfl, R.out⟩
def ffCode (k : Int) (zs : List Int) (kind : Int) : Int := if ptCode k zs kind = 0 then (if FT zs kind = [] then 4 else 0) else 2
def ffList (k : Int) (zs : List Int) (kind : Int) : List Int := if ptCode k zs kind = 0 then headL (FT zs kind) else []
theorem ffList_len {k : Int} {zs : List Int} {kind : Int} : (ffList k zs kind).length ≤ 1000 := by
  unfold ffList
  split
  · have := headL_len (FT zs kind); omega
  · simp
theorem ff_2 {k : Int} {zs : List Int} {kind : Int} (h : ptCode k zs kind = 2) : ffList k zs kind = [] ∧ ffCode k zs kind = 2 := by
  unfold ffList ffCode
  rw [if_neg (by omega), if_neg (by omega)]; exact ⟨rfl, rfl⟩
theorem ff_4 {k : Int} {zs : List Int} {kind : Int} (h : ptCode k zs kind = 0) (h2 : FT zs kind = []) : ffList k zs kind = [] ∧ ffCode k zs kind = 4 := by
  unfold ffList ffCode
  rw [if_pos h, if_pos h, if_pos h2, h2]; exact ⟨rfl, rfl⟩
theorem ff_0 {k : Int} {zs : List Int} {kind : Int} (h : ptCode k zs kind = 0) (h2 : FT zs kind ≠ []) : ffList k zs kind = headL (FT zs kind) ∧ ffCode k zs kind = 0 := by
  unfold ffList ffCode
  rw [if_pos h, if_pos h, if_neg h2]; exact ⟨rfl, rfl⟩
set_option maxRecDepth 100000 in
set_option maxHeartbeats 1000000 in
theorem spec15f (k : Int) (zs : List Int) (kind : Int) (a : Option Addr) (cap : Nat) (w : World) (hs : SlI w a zs) (hl : zs.length ≤ 9223372036854775807) :
    Calls Try.prog 15 #[.int .i64 k, .slice a zs.length cap, .int .i64 kind] w (LOut w (ffList k zs kind) (ffCode k zs kind)) := by
  have HSL := hidd hs
  clear hs
  rcases pt_cases k zs kind with hc | ⟨hc, hp, k0, k2⟩
  · have HC := hidd hc
    obtain ⟨e1, e2⟩ := ff_2 hc
    rw [e1, e2]
    clear hc e1 e2
    go_enter Try.func15, Try.ntmps15
    go_wp2_with (go_at_call 33; refine (code33 _ _ _ _ _ _ HSL.out hl).mono ?_; rintro e w' ⟨rfl, rfl⟩; rw [HC.out])
    go_ret2
    exact lout_nil rfl (Below.refl _ _)
  · have HC := hidd hc
    obtain ⟨p1, p2, p3, p4⟩ := partB_bd hp
    have HF := hidd (fun W hW => fault34 zs a cap kind 1 W hW (by omega) k0 k2 (by omega) (by omega))
    rw [show zs.length + 1 - 1 = zs.length by omega] at HF
    have HT := hidd (fun (h : FT zs kind = []) => ff_4 hc h)
    have HN := hidd (fun (h : FT zs kind ≠ []) => ff_0 hc h)
    have HI := hidd (head_nil (l := FT zs kind))
    obtain ⟨L, hL⟩ : ∃ L, L = headL (FT zs kind) := ⟨_, rfl⟩
    rw [show headL (fsL zs kind 1 zs.length) = L from hL.symm] at HF
    rw [← hL] at HI HN
    have hL3 : L.length ≤ 3 := by rw [hL]; exact headL_len _
    clear hc hp hL p4
    go_enter Try.func15, Try.ntmps15
    go_wp2_with (go_at_call 33; refine (code33 _ _ _ _ _ _ HSL.out hl).mono ?_; rintro e w' ⟨rfl, rfl⟩; rw [HC.out])
    refine (HF.out _ HSL.out).mono ?_
    rintro e w1 ⟨a1, c1, rfl, o1, hb1⟩
    have R := hidd (And.intro o1 hb1)
    clear hb1 o1
    by_cases h0 : L.length = 0
    · have hq : ((L.length : Int) == 0) = true := by rw [h0]; rfl
      have HEE := hidd (HT.out (HI.out.1 h0))
      clear h0
      go_wp2_with fail
      go_ret2
      rw [HEE.out.1, HEE.out.2]
      exact lout_nil rfl R.out.2
    · have hq : ((L.length : Int) == 0) = false := by rw [beq_eq_false_iff_ne]; omega
      have HEE := hidd (HN.out (fun h => h0 (HI.out.2 h)))
      clear h0
      go_wp2_with fail
      go_ret2
      rw [HEE.out.1, HEE.out.2]
      exact ⟨a1, c1, rfl, R.out.1, R.out.2⟩
def cfVal (k : Int) (zs : List Int) (kind : Int) : Int := if ptCode k zs kind = 0 then ((FT zs kind).length : Int) else 0
set_option maxRecDepth 100000 in
set_option maxHeartbeats 2000000 in
theorem spec19f (k : Int) (zs : List Int) (kind : Int) (a : Option Addr) (cap : Nat) (w : World) (hs : SlI w a zs) (hl : zs.length ≤ 9223372036854775807) :
    Calls Try.prog 19 #[.int .i64 k, .slice a zs.length cap, .int .i64 kind] w fun e w' => e = .returned (.tuple #[.int .i64 (cfVal k zs kind), .int .i64 (ptCode k zs kind)]) ∧ Below w.heap.size w w' := by
  have HSL := hidd hs
  clear hs
  rcases pt_cases k zs kind with hc | ⟨hc, hp, k0, k2⟩
  · have HC := hidd hc
    have HV := hidd (show cfVal k zs kind = 0 by unfold cfVal; rw [hc]; rfl)
    clear hc
    go_enter Try.func19, Try.ntmps19
    go_wp2_with (go_at_call 33; refine (code33 _ _ _ _ _ _ HSL.out hl).mono ?_; rintro e w' ⟨rfl, rfl⟩; rw [HC.out])
    go_ret2
    exact ⟨by rw [HV.out, HC.out]; rfl, Below.refl _ _⟩
  · have HC := hidd hc
    obtain ⟨p1, p2, p3, p4⟩ := partB_bd hp
    have HV := hidd (show cfVal k zs kind = ((fsL zs kind 1 zs.length).length : Int) by unfold cfVal; rw [hc, if_pos rfl]; rfl)
    have hl40 : (zs.length : Int) ≤ 41 := by omega
    clear hc hp p4
    go_enter Try.func19, Try.ntmps19
    go_wp2_with (go_at_call 33; refine (code33 _ _ _ _ _ _ HSL.out hl).mono ?_; rintro e w' ⟨rfl, rfl⟩; rw [HC.out])
    go_loopw [9, 10] (fun c e wr => ∃ d z n : Nat, d ≤ zs.length ∧ z = 1 + d ∧ e = .int .i64 (z : Int) ∧ c = .int .i64 (n : Int) ∧ Hid (n = (fsL zs kind 1 d).length) ∧ Hid (RelFl zs a w wr)) (fun _ e _ => zs.length + 1 - (intOf e).toNat)
    case atStart => exact ⟨0, 1, 0, by omega, rfl, rfl, rfl, rfl, HSL.out, Below.refl _ _⟩
    case round =>
      obtain ⟨d, z, n, hd, hz, rfl, rfl, HN, HK⟩ := hrel
      obtain ⟨wo, rfl⟩ : ∃ wo : World, wo = wr := ⟨_, rfl⟩
      have HZ := hidd hz
      have hz1 : 1 ≤ z := by omega
      have hn : n ≤ 1764 := by
        have h1 := HN.out
        have h2 := fsL_len zs kind 1 d
        have h3 : d * (1 + d) ≤ 40 * 41 := Nat.mul_le_mul (by omega) (by omega)
        omega
      by_cases hlt : d < zs.length
      · have hzl : (z : Int) ≤ (zs.length : Int) := by omega
        clear hz
        go_wp2_with fail
        go_loopw [9, 11] (fun c e wr => ∃ m y q : Nat, m + 1 ≤ z ∧ y = m + 1 ∧ e = .int .i64 (y : Int) ∧ c = .int .i64 (q : Int) ∧ q ≤ n + m ∧ Hid (q = n + (frL zs kind z m).length) ∧ Hid (RelFl zs a w wr)) (fun _ e _ => z - (intOf e).toNat)
        case atStart => exact ⟨0, 1, n, by omega, rfl, rfl, rfl, by omega, rfl, HK⟩
        case round =>
          obtain ⟨m, y, q, hm, hy, rfl, rfl, hqm, HQ, HK2⟩ := hrel
          have HY := hidd hy
          have hq2 : q ≤ 1900 := by omega
          by_cases hlt2 : y < z
          · have hyI : (y : Int) < (z : Int) := by omega
            have y1 : (1 : Int) ≤ (y : Int) := by omega
            clear hy
            cases hq : ftB zs kind (y : Int) (z : Int) with
            | true =>
              have HX := hidd (ftAt_yes hq)
              have hx := ftB_lo hq
              have HQ3 := hidd (show q + 1 = n + (frL zs kind z (m + 1)).length by
                have e1 := HY.out
                subst e1
                rw [frL, if_pos hq, List.length_append, ← Nat.add_assoc, ← HQ.out]; rfl)
              obtain ⟨x, hxx⟩ : ∃ x, x = ftX kind (y : Int) (z : Int) := ⟨_, rfl⟩
              rw [← hxx] at HX hx
              have hxp : 0 < x := by omega
              clear hq hxx
              go_wp2_with fail
              refine (at38 zs a cap kind (y : Int) (z : Int) _ HK2.out.1 y1 hyI hzl hl40 k0 k2).mono ?_
              rintro e w2 ⟨rfl, hb2⟩
              rw [HX.out]
              have R := hidd (HK2.out.go hb2)
              clear hb2
              go_wp2_with fail
              go_roundw
              case rel => exact ⟨m + 1, y + 1, q + 1, by have := HY.out; omega, by have := HY.out; omega, by go_num, by go_num, by omega, HQ3, R⟩
              case measure => simp [intOf]; omega
            | false =>
              have HX := hidd (ftAt_no hq)
              have HQ3 := hidd (show q = n + (frL zs kind z (m + 1)).length by
                have e1 := HY.out
                subst e1
                rw [frL, if_neg (by rw [hq]; simp), List.append_nil]; exact HQ.out)
              clear hq
              go_wp2_with fail
              refine (at38 zs a cap kind (y : Int) (z : Int) _ HK2.out.1 y1 hyI hzl hl40 k0 k2).mono ?_
              rintro e w2 ⟨rfl, hb2⟩
              rw [HX.out]
              have R := hidd (HK2.out.go hb2)
              clear hb2
              go_wp2_with fail
              go_roundw
              case rel => exact ⟨m + 1, y + 1, q, by have := HY.out; omega, by have := HY.out; omega, by go_num, rfl, by omega, HQ3, R⟩
              case measure => simp [intOf]; omega
          · have hmz : m = z - 1 := by omega
            have HN3 := hidd (show q = (fsL zs kind 1 (d + 1)).length by
              have e2 := HZ.out
              rw [fsL, rowL, List.length_append, ← e2, ← hmz, ← HN.out]; exact HQ.out)
            clear hy hmz
            go_wp2_with fail
            go_roundw
            case rel => exact ⟨d + 1, z + 1, q, by omega, by have := HZ.out; omega, by go_num, rfl, HN3, HK2⟩
            case measure => simp [intOf]; omega
      · have hdD : d = zs.length := by omega
        have HE := hidd (show cfVal k zs kind = (n : Int) by rw [HV.out, HN.out, hdD])
        have hzl : (zs.length : Int) < (z : Int) := by omega
        clear hz hdD
        go_wp2_with fail
        go_ret2
        exact ⟨by rw [HE.out, HC.out]; rfl, HK.out.2⟩
end Go.Proofs.Ythmjmlmmbmdodaa

/- knownNumber. -/
import Derived.Test.YtblehhiojednhaaDoorMst
import Derived.Laws.StructEq
namespace Go.Proofs.YtblehhiojednhaaDoor
set_option linter.unusedVariables false
set_option linter.unusedSimpArgs false
open Go Go.RowKit
/-- The known number of two sizes, the lesser one first; 0 if there is none. -/
def knL (l h : Int) : Int := if l = 1 then 1 else if l = 2 then h else if l = 3 ∧ h = 3 then 6 else if l = 3 ∧ h = 4 then 9 else if l = 3 ∧ h = 5 then 14 else if l = 4 ∧ h = 4 then 18 else 0
theorem kn_cases (l h : Int) : l = 1 ∨ l = 2 ∨ (l = 3 ∧ h = 3) ∨ (l = 3 ∧ h = 4) ∨ (l = 3 ∧ h = 5) ∨ (l = 3 ∧ (h == 3) = false ∧ (h == 4) = false ∧ (h == 5) = false) ∨ (l = 4 ∧ h = 4) ∨ (l = 4 ∧ (h == 4) = false) ∨
    ((l == 1) = false ∧ (l == 2) = false ∧ (l == 3) = false ∧ (l == 4) = false) := by
  simp only [beq_eq_false_iff_ne, ne_eq]; omega
set_option maxRecDepth 100000 in
set_option maxHeartbeats 1000000 in
theorem known44 (l h : Int) (w : World) :
    Calls Tryd.prog 44 #[.agg #[.int .i64 l, .int .i64 h]] w fun e w' => e = .returned (.int .i64 (knL l h)) ∧ Below w.heap.size w w' := by
  have HN := hidd (fun o => (Below.refl w.heap.size w).alloc (Nat.le_refl _) o)
  rcases kn_cases l h with rfl | rfl | ⟨rfl, rfl⟩ | ⟨rfl, rfl⟩ | ⟨rfl, rfl⟩ | ⟨rfl, n3, n4, n5⟩ | ⟨rfl, rfl⟩ | ⟨rfl, n4⟩ | ⟨n1, n2, n3, n4⟩
  all_goals
    go_enter Tryd.func44, Tryd.ntmps44
    go_wp2
    go_ret
    refine ⟨?_, HN.out _⟩
    simp_all [knL]
/-- The known number of two sizes in either order. -/
def knV (a b : Int) : Int := knL (if a ≤ b then a else b) (if a ≤ b then b else a)
/-- What KnownNumber answers. -/
def kA (a b : Int) : Int := if inB a 1 17 && inB b 1 17 then knV a b else 0
def kB (a b : Int) : Int := if inB a 1 17 && inB b 1 17 then (if knV a b = 0 then 4 else 0) else 2
set_option maxRecDepth 100000 in
set_option maxHeartbeats 2000000 in
theorem spec19 (a b : Int) (w : World) :
    Calls Tryd.prog 19 #[.int .i64 a, .int .i64 b] w fun e w' => e = .returned (.tuple #[.int .i64 (kA a b), .int .i64 (kB a b)]) ∧ Below w.heap.size w w' := by
  have H0 := hidd (Below.refl w.heap.size w)
  cases ha : inB a 1 17 with
  | false =>
    have HA := hidd ha
    clear ha
    go_enter Tryd.func19, Tryd.ntmps19
    go_wp2_with (go_at_call 29; refine (in49 _ _ _ _).mono ?_; rintro e w' ⟨rfl, rfl⟩; rw [HA.out])
    all_goals (go_ret2; exact ⟨by simp [kA, kB, HA.out], H0.out⟩)
  | true =>
    cases hb : inB b 1 17 with
    | false =>
      have HA := hidd ha
      have HB := hidd hb
      clear ha hb
      go_enter Tryd.func19, Tryd.ntmps19
      go_wp2_with (go_at_call 29; refine (in49 _ _ _ _).mono ?_; rintro e w' ⟨rfl, rfl⟩; first | rw [HA.out] | rw [HB.out])
      all_goals (go_ret2; exact ⟨by simp [kA, kB, HA.out, HB.out], H0.out⟩)
    | true =>
      have HA := hidd ha
      have HB := hidd hb
      have h1 := inB_bd ha
      have h2 := inB_bd hb
      clear ha hb
      have na : (a = 0) = False := eq_false (by omega)
      have nb : (b = 0) = False := eq_false (by omega)
      rcases (show a < b ∨ a = b ∨ b < a by omega) with hab | rfl | hab
      · have e1 : (a ≤ b) = True := eq_true (by omega)
        rcases kn_cases a b with rfl | rfl | ⟨rfl, h5⟩ | ⟨rfl, h5⟩ | ⟨rfl, h5⟩ | ⟨rfl, n3, n4, n5⟩ | ⟨rfl, h5⟩ | ⟨rfl, n4⟩ | ⟨n1, n2, n3, n4⟩
        all_goals first | (exfalso; omega) | (subst h5) | skip
        all_goals
          go_enter Tryd.func19, Tryd.ntmps19
          go_wp2_with (go_at_call 29; refine (in49 _ _ _ _).mono ?_; rintro e w' ⟨rfl, rfl⟩; first | rw [HA.out] | rw [HB.out])
        all_goals (go_ret2; refine ⟨?_, H0.out⟩)
        all_goals first | (simp [kA, kB, HA.out, HB.out, knV, knL, *]; done) | (simp_all [kA, kB, HA.out, HB.out, knV, knL]; done) | (simp only [beq_eq_false_iff_ne, ne_eq] at *; simp [kA, kB, HA.out, HB.out, knV, knL, *]; done) | (have hh : ¬ a ≤ 3 := by omega; have hh4 : ¬ a ≤ 4 := by omega; simp only [beq_eq_false_iff_ne, ne_eq] at *; simp [kA, kB, HA.out, HB.out, knV, knL, hh, hh4, *]; done)
      · rcases kn_cases a a with rfl | rfl | ⟨rfl, h5⟩ | ⟨rfl, h5⟩ | ⟨rfl, h5⟩ | ⟨rfl, n3, n4, n5⟩ | ⟨rfl, h5⟩ | ⟨rfl, n4⟩ | ⟨n1, n2, n3, n4⟩
        all_goals first | (exfalso; omega) | (subst h5) | skip
        all_goals
          go_enter Tryd.func19, Tryd.ntmps19
          go_wp2_with (go_at_call 29; refine (in49 _ _ _ _).mono ?_; rintro e w' ⟨rfl, rfl⟩; first | rw [HA.out] | rw [HB.out])
        all_goals (go_ret2; refine ⟨?_, H0.out⟩)
        all_goals first | (simp [kA, kB, HA.out, HB.out, knV, knL, *]; done) | (simp_all [kA, kB, HA.out, HB.out, knV, knL]; done) | (simp only [beq_eq_false_iff_ne, ne_eq] at *; simp [kA, kB, HA.out, HB.out, knV, knL, *]; done) | (have hh : ¬ a ≤ 3 := by omega; have hh4 : ¬ a ≤ 4 := by omega; simp only [beq_eq_false_iff_ne, ne_eq] at *; simp [kA, kB, HA.out, HB.out, knV, knL, hh, hh4, *]; done)
      · have e1 : (a ≤ b) = False := eq_false (by omega)
        rcases kn_cases b a with rfl | rfl | ⟨rfl, h5⟩ | ⟨rfl, h5⟩ | ⟨rfl, h5⟩ | ⟨rfl, n3, n4, n5⟩ | ⟨rfl, h5⟩ | ⟨rfl, n4⟩ | ⟨n1, n2, n3, n4⟩
        all_goals first | (exfalso; omega) | (subst h5) | skip
        all_goals
          go_enter Tryd.func19, Tryd.ntmps19
          go_wp2_with (go_at_call 29; refine (in49 _ _ _ _).mono ?_; rintro e w' ⟨rfl, rfl⟩; first | rw [HA.out] | rw [HB.out])
        all_goals (go_ret2; refine ⟨?_, H0.out⟩)
        all_goals first | (simp [kA, kB, HA.out, HB.out, knV, knL, *]; done) | (simp_all [kA, kB, HA.out, HB.out, knV, knL]; done) | (simp only [beq_eq_false_iff_ne, ne_eq] at *; simp [kA, kB, HA.out, HB.out, knV, knL, *]; done) | (have hh : ¬ a ≤ 3 := by omega; have hh4 : ¬ a ≤ 4 := by omega; simp only [beq_eq_false_iff_ne, ne_eq] at *; simp [kA, kB, HA.out, HB.out, knV, knL, hh, hh4, *]; done)
theorem ent43 (args : Array Value) (w : World) : (callFunc 43 args).run Tryd.prog w = .ok (.enter 43 args) w := by kernel_rfl
set_option maxRecDepth 100000 in
set_option maxHeartbeats 1000000 in
theorem clo43 (a b : Int) (p q : Nat) (e0 : Addr) (w : World) (hp : w.cell? ⟨p, 0, none⟩ = some (.int .i64 a)) (hq : w.cell? ⟨q, 0, none⟩ = some (.int .i64 b)) (hE : Er w e0) :
    Calls Tryd.prog 43 #[.pointer (some ⟨p, 0, none⟩), .pointer (some ⟨q, 0, none⟩)] w fun e w' => e = (if inB a 1 17 && inB b 1 17 then .returned (.int .i64 (knV a b)) else .panicked (pan e0)) ∧ Below w.heap.size w w' := by
  have HN := hidd ((Below.refl w.heap.size w).alloc (Nat.le_refl _) (.cells #[.int .i64 a, .int .i64 b] 2))
  have HM := hidd (must2 1 17 a b w.heap.size e0 _ (Blk.new w #[.int .i64 a, .int .i64 b] 2 _ rfl) (hE.alloc _))
  have hp2 := cell_past hp (.cells #[.int .i64 a, .int .i64 b] 2)
  have hq2 := cell_past hq (.cells #[.int .i64 a, .int .i64 b] 2)
  clear hE
  cases hc : (inB a 1 17 && inB b 1 17) with
  | false =>
    have HC := hidd hc
    clear hc
    go_enter Tryd.func43, Tryd.ntmps43
    go_wp2_with fail
    refine HM.out.mono ?_
    rintro e w1 ⟨rfl, rfl⟩
    rw [HC.out]
    exact ⟨rfl, rfl, HN.out⟩
  | true =>
    have h1 := inB_bd (Bool.and_eq_true_iff.1 hc).1
    have h2 := inB_bd (Bool.and_eq_true_iff.1 hc).2
    have HC := hidd hc
    clear hc
    go_enter Tryd.func43, Tryd.ntmps43
    go_wp2_with fail
    refine HM.out.mono ?_
    rintro e w1 ⟨rfl, rfl⟩
    rw [HC.out]
    rcases (show a < b ∨ a = b ∨ b < a by omega) with hab | rfl | hab
    · go_wp2_with fail
      refine (known44 a b _).mono ?_
      rintro e w2 ⟨rfl, hb2⟩
      have HX := hidd (HN.out.trans (hb2.mono HN.out.size))
      clear hb2
      go_wp2
      go_ret
      exact ⟨by simp [knV, show a ≤ b by omega], HX.out⟩
    · go_wp2_with fail
      refine (known44 a a _).mono ?_
      rintro e w2 ⟨rfl, hb2⟩
      have HX := hidd (HN.out.trans (hb2.mono HN.out.size))
      clear hb2
      go_wp2
      go_ret
      exact ⟨by simp [knV], HX.out⟩
    · go_wp2_with fail
      refine (known44 b a _).mono ?_
      rintro e w2 ⟨rfl, hb2⟩
      have HX := hidd (HN.out.trans (hb2.mono HN.out.size))
      clear hb2
      go_wp2
      go_ret
      exact ⟨by simp [knV, show ¬ a ≤ b by omega], HX.out⟩
set_option maxRecDepth 100000 in
set_option maxHeartbeats 1000000 in
theorem impl20 (a b : Int) (e0 : Addr) (w : World) (hE : Er w e0) :
    Calls Tryd.prog 20 #[.int .i64 a, .int .i64 b] w fun e w' => e = .returned (.tuple #[.int .i64 (kA a b), .int .i64 (kB a b)]) ∧ Below w.heap.size w w' := by
  have hmf : ∀ (fn : Fn) (first cap : Array Value) (w : World), (Instr.makeFunc fn first cap).run Tryd.prog w = .ok (.func fn first cap) w := fun _ _ _ _ => rfl
  obtain ⟨W, hW⟩ : ∃ W, W = (w.alloc (.cells #[.int .i64 a] 2)).alloc (.cells #[.int .i64 b] 2) := ⟨_, rfl⟩
  have hsz : W.heap.size = w.heap.size + 2 := by rw [hW]; simp
  have hlo : Below w.heap.size w W := by rw [hW]; exact ((Below.refl w.heap.size w).alloc (Nat.le_refl _) _).alloc (by simp) _
  have hE1 : Er W e0 := by rw [hW]; exact (hE.alloc _).alloc _
  have hA1 : W.cell? ⟨w.heap.size, 0, none⟩ = some (.int .i64 a) := by rw [hW]; exact cell_past ((Blk.new w #[.int .i64 a] 2 _ rfl).cell rfl) _
  have hB1 : W.cell? ⟨w.heap.size + 1, 0, none⟩ = some (.int .i64 b) := by rw [hW]; exact (Blk.new _ #[.int .i64 b] 2 _ (by simp)).cell rfl
  have hE2 : Er (W.alloc (.cells #[.int .i64 0] 2)) e0 := hE1.alloc _
  have hK := clo43 a b w.heap.size (w.heap.size + 1) e0 (W.alloc (.cells #[.int .i64 0] 2)) (cell_past hA1 _) (cell_past hB1 _) hE2
  cases hc : (inB a 1 17 && inB b 1 17) with
  | false =>
    rw [hc] at hK
    have HI := hidd (enter_bad 43 #[.pointer (some ⟨w.heap.size, 0, none⟩), .pointer (some ⟨w.heap.size + 1, 0, none⟩)] e0 W ent43 hE1 (hK.mono fun e w2 h => ⟨h.1, h.2.mono (by simp)⟩))
    have HC := hidd hc
    have HW := hidd hW
    have HL := hidd (And.intro hlo hsz)
    clear hW hK hE1 hA1 hB1 hE2 hE hc hlo hsz
    go_enter Tryd.func20, Tryd.ntmps20
    go_wp2_with fail
    rw [← HW.out]
    refine HI.out.mono ?_
    rintro e w1 ⟨rfl, hb⟩
    have HB := hidd (HL.out.1.trans (hb.mono (by have := HL.out.2; omega)))
    clear hb
    go_wp2
    go_ret2
    exact ⟨by simp [kA, kB, HC.out], HB.out⟩
  | true =>
    rw [hc] at hK
    have HI := hidd (enter_ok 43 #[.pointer (some ⟨w.heap.size, 0, none⟩), .pointer (some ⟨w.heap.size + 1, 0, none⟩)] (knV a b) W ent43 (hK.mono fun e w2 h => ⟨h.1, h.2.mono (by simp)⟩))
    have HC := hidd hc
    have HW := hidd hW
    have HL := hidd (And.intro hlo hsz)
    clear hW hK hE1 hA1 hB1 hE2 hE hc hlo hsz
    go_enter Tryd.func20, Tryd.ntmps20
    go_wp2_with fail
    rw [← HW.out]
    refine HI.out.mono ?_
    rintro e w1 ⟨rfl, hb⟩
    have HB := hidd (HL.out.1.trans (hb.mono (by have := HL.out.2; omega)))
    clear hb
    by_cases hv : knV a b = 0
    · rw [hv]
      go_wp2
      go_ret2
      exact ⟨by simp [kA, kB, HC.out, hv], HB.out⟩
    · have hv2 : (knV a b == 0) = false := by simpa using hv
      go_wp2
      go_ret2
      exact ⟨by simp [kA, kB, HC.out, hv], HB.out⟩
end Go.Proofs.YtblehhiojednhaaDoor

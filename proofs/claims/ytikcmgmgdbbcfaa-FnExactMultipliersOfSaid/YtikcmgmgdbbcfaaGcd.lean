/- The greatest common divisor, in the program and in the model; numbers that may turn a colouring. -/
import Derived.Test.YtikcmgmgdbbcfaaDiff
import Derived.Test.YtikcmgmgdbbcfaaGd
namespace Go.Proofs.Ytikcmgmgdbbcfaa
set_option linter.unusedVariables false
set_option linter.unusedSimpArgs false
open Go Go.RowKit Go.Shelf
theorem gcd_step {x y : Nat} : Nat.gcd y (x % y) = Nat.gcd x y := by rw [Nat.gcd_comm, ← Nat.gcd_rec, Nat.gcd_comm]
set_option maxRecDepth 100000 in
theorem sgcd53 (A B : Nat) (hA : A ≤ 17) (hB : B ≤ 17) (w : World) :
    Calls Try.prog 53 #[.int .i64 (A : Int), .int .i64 (B : Int)] w fun e w' => e = .returned (.int .i64 (Nat.gcd A B : Nat)) ∧ w = w' := by
  go_enter Try.func53, Try.ntmps53
  go_wp2_with fail
  go_loop [0, 1] (fun a b => ∃ x y : Nat, a = .int .i64 (x : Int) ∧ b = .int .i64 (y : Int) ∧ Hid (Nat.gcd x y = Nat.gcd A B) ∧ x ≤ 17 ∧ y ≤ 17) (fun _ b => (intOf b).toNat)
  case atStart => exact ⟨A, B, rfl, rfl, rfl, hA, hB⟩
  case round =>
    obtain ⟨x, y, rfl, rfl, hg, hx, hy⟩ := hrel
    by_cases h0 : y = 0
    · subst h0
      have H := hidd (show Nat.gcd A B = x by rw [← hg.out, Nat.gcd_zero_right])
      have hz : (((0 : Nat) : Int) != 0) = false := rfl
      go_wp2_with fail
      go_ret
      exact ⟨by rw [H.out]; rfl, rfl⟩
    · have hz : ((y : Int) != 0) = true := by rw [bne_iff_ne]; omega
      have hz2 : ((y : Int) == 0) = false := by rw [beq_eq_false_iff_ne]; omega
      have hlt := Nat.mod_lt x (show y > 0 by omega)
      go_wp2_with fail
      go_round
      case rel => exact ⟨y, x % y, rfl, by go_num, gcd_step.trans hg.out, hy, by omega⟩
      case measure => simp [intOf]; omega
set_option maxRecDepth 100000 in
theorem igcd93 (A B : Nat) (hA : A ≤ 17) (hB : B ≤ 17) (w : World) :
    Calls Try.prog 93 #[.int .i64 (A : Int), .int .i64 (B : Int)] w fun e w' => e = .returned (.int .i64 (Nat.gcd A B : Nat)) ∧ Below w.heap.size w w' := by
  go_enter Try.func93, Try.ntmps93
  go_wp2_with fail
  go_loopw [0, 1] (fun a b wr => ∃ x y : Nat, a = .int .i64 (x : Int) ∧ b = .int .i64 (y : Int) ∧ Hid (Nat.gcd x y = Nat.gcd A B) ∧ x ≤ 17 ∧ y ≤ 17 ∧ Hid (Below w.heap.size w wr)) (fun _ b _ => (intOf b).toNat)
  case atStart => exact ⟨A, B, rfl, rfl, rfl, hA, hB, Below.refl _ _⟩
  case round =>
    obtain ⟨x, y, rfl, rfl, hg, hx, hy, HB⟩ := hrel
    by_cases h0 : y = 0
    · subst h0
      have H := hidd (show Nat.gcd A B = x by rw [← hg.out, Nat.gcd_zero_right])
      have hz : (((0 : Nat) : Int) != 0) = false := rfl
      go_wp2_with fail
      go_ret
      exact ⟨by rw [H.out]; rfl, HB.out⟩
    · have hz : ((y : Int) != 0) = true := by rw [bne_iff_ne]; omega
      have hz2 : ((y : Int) == 0) = false := by rw [beq_eq_false_iff_ne]; omega
      have hlt := Nat.mod_lt x (show y > 0 by omega)
      go_wp2_with fail
      go_quiet (fail)
      go_wp2_with fail
      go_roundw
      case rel => exact ⟨y, x % y, rfl, by go_num, gcd_step.trans hg.out, hy, by omega, below_drewN HB.out _⟩
      case measure => simp [intOf]; omega
/-- May a colouring of n points be turned by t? -/
def turnB (t n : Int) : Bool := inB t 1 n && (Nat.gcd n.toNat t.toNat == 1)
set_option maxRecDepth 100000 in
theorem turns57 (t n : Int) (n1 : 1 ≤ n) (n2 : n ≤ 17) (w : World) :
    Calls Try.prog 57 #[.int .i64 t, .int .i64 n] w fun e w' => e = .returned (.bool (turnB t n)) ∧ Below w.heap.size w w' := by
  cases h1 : inB t 1 n with
  | false =>
    have H1 := hidd h1
    have H := hidd (show turnB t n = false by simp [turnB, h1])
    clear h1
    go_enter Try.func57, Try.ntmps57
    go_wp2_with (go_at_call 45; refine (within45 _ _ _ _).mono ?_; rintro e w' ⟨rfl, rfl⟩; rw [H1.out])
    go_ret
    exact ⟨by rw [H.out]; rfl, Below.refl _ _⟩
  | true =>
    have H1 := hidd h1
    have hb := inB_bd h1
    obtain ⟨T, rfl⟩ := Int.eq_ofNat_of_zero_le (show 0 ≤ t by omega)
    obtain ⟨N, rfl⟩ := Int.eq_ofNat_of_zero_le (show 0 ≤ n by omega)
    have H := hidd (show turnB (T : Int) (N : Int) = (Nat.gcd N T == 1) by unfold turnB; rw [h1]; rfl)
    clear h1
    by_cases hg : Nat.gcd N T = 1
    · have HG := hidd hg
      clear hg
      go_enter Try.func57, Try.ntmps57
      go_wp2_with (first
        | (go_at_call 45; refine (within45 _ _ _ _).mono ?_; rintro e w' ⟨rfl, rfl⟩; rw [H1.out])
        | (go_at_call 93; refine (igcd93 N T (by omega) (by omega) _).mono ?_; rintro e w' ⟨rfl, hb1⟩; rw [HG.out]))
      go_ret
      exact ⟨by rw [H.out, HG.out]; rfl, hb1⟩
    · have HG := hidd hg
      obtain ⟨g, hgg⟩ : ∃ g, g = Nat.gcd N T := ⟨_, rfl⟩
      have HGG := hidd hgg
      have hne : ((g : Int) == 1) = false := by rw [beq_eq_false_iff_ne]; omega
      clear hg hgg
      go_enter Try.func57, Try.ntmps57
      go_wp2_with (first
        | (go_at_call 45; refine (within45 _ _ _ _).mono ?_; rintro e w' ⟨rfl, rfl⟩; rw [H1.out])
        | (go_at_call 93; refine (igcd93 N T (by omega) (by omega) _).mono ?_; rintro e w' ⟨rfl, hb1⟩; rw [← HGG.out]))
      go_ret
      exact ⟨by rw [H.out, beq_eq_false_iff_ne.2 HG.out]; rfl, hb1⟩
/-- The points that t takes the points to. -/
def tl (T N : Nat) : List Int := (List.range N).map fun i => ((T * i % N : Nat) : Int)
theorem tl_ord : ∀ N, N < 18 → ∀ T, T < 18 → 1 ≤ T → T ≤ N → Nat.gcd N T = 1 → ordB (tl T N) (N : Int) = true := by decide +kernel
theorem tl_len (T N : Nat) : (tl T N).length = N := by simp [tl]
theorem turnB_ord {t n : Int} (n1 : 1 ≤ n) (n2 : n ≤ 17) (h : turnB t n = true) : ordB (tl t.toNat n.toNat) n = true := by
  unfold turnB at h
  rw [Bool.and_eq_true] at h
  have h1 := inB_bd h.1
  have h2 := beq_iff_eq.1 h.2
  have := tl_ord n.toNat (by omega) t.toNat (by omega) (by omega) (by omega) h2
  rwa [show ((n.toNat : Nat) : Int) = n by omega] at this
def tlK (T N j : Nat) : List Int := (List.range N).map fun i => if i < j then ((T * i % N : Nat) : Int) else 0
theorem tlK_zero (T N : Nat) : zrow N = (icells (tlK T N 0)).toArray := by
  rw [zrow_icells]
  congr 2
  apply List.ext_getElem
  · simp [tlK]
  · intro p h1 h2
    simp [tlK]
theorem tlK_done (T N : Nat) : tlK T N N = tl T N := by
  unfold tlK tl
  refine List.map_congr_left fun i hi => ?_
  rw [if_pos (List.mem_range.1 hi)]
theorem tlK_len (T N j : Nat) : (tlK T N j).length = N := by simp [tlK]
theorem tlK_set (T N j : Nat) : (tlK T N j).set j ((T * j % N : Nat) : Int) = tlK T N (j + 1) := by
  apply List.ext_getElem
  · simp [tlK]
  · intro p h1 h2
    rw [List.getElem_set]
    by_cases e : j = p
    · subst e; simp [tlK]
    · rw [if_neg e]
      simp only [tlK, List.getElem_map, List.getElem_range]
      by_cases h : p < j
      · rw [if_pos h, if_pos (by omega)]
      · rw [if_neg h, if_neg (by omega)]
theorem mul_rng {T i N : Nat} (h1 : T ≤ N) (h2 : i < N) (h3 : N ≤ 17) : 0 ≤ (T : Int) * (i : Int) ∧ (T : Int) * (i : Int) ≤ 289 := by
  rw [← Int.natCast_mul]
  have : T * i ≤ 17 * 17 := Nat.mul_le_mul (by omega) (by omega)
  omega
set_option maxRecDepth 100000 in
theorem times58 (t n : Int) (w : World) : Calls Try.prog 58 #[.int .i64 t, .int .i64 n] w fun e w' => e = .returned (.func (.func 94) #[] #[.pointer (some ⟨w.heap.size, 0, none⟩), .pointer (some ⟨w.heap.size + 1, 0, none⟩)]) ∧ (w.alloc (.cells #[.int .i64 t] 2)).alloc (.cells #[.int .i64 n] 2) = w' := by
  have hmf : ∀ (fn : Fn) (first cap : Array Value) (w : World), (Instr.makeFunc fn first cap).run Try.prog w = .ok (.func fn first cap) w := fun _ _ _ _ => rfl
  go_enter Try.func58, Try.ntmps58
  go_wp2
  go_ret
  exact ⟨rfl, rfl⟩
set_option maxRecDepth 100000 in
theorem take94 (T N i b0 b1 : Nat) (W : World) (hT : Blk W b0 #[.int .i64 (T : Int)] 2) (hN : Blk W b1 #[.int .i64 (N : Int)] 2) (h1 : T ≤ N) (h2 : i < N) (h3 : N ≤ 17) :
    Calls Try.prog 94 #[.int .i64 (i : Int), .pointer (some ⟨b0, 0, none⟩), .pointer (some ⟨b1, 0, none⟩)] W fun e w' => e = .returned (.int .i64 ((T * i % N : Nat) : Int)) ∧ W = w' := by
  have cT := hT.cell (j := 0) (show _ = some (Value.int .i64 (T : Int)) from rfl)
  have cN := hN.cell (j := 0) (show _ = some (Value.int .i64 (N : Int)) from rfl)
  obtain ⟨m0, m1⟩ := mul_rng h1 h2 h3
  have hz2 : ((N : Int) == 0) = false := by rw [beq_eq_false_iff_ne]; omega
  have HE := hidd (show (T : Int) * (i : Int) % (N : Int) = ((T * i % N : Nat) : Int) by simp)
  clear hT hN
  go_enter Try.func94, Try.ntmps94
  go_wp2_with fail
  go_ret
  exact ⟨by rw [HE.out]; rfl, rfl⟩
end Go.Proofs.Ytikcmgmgdbbcfaa

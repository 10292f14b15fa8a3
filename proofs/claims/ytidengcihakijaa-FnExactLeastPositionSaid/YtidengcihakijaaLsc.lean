/- l09Lists: are a number of points and a list as told? -/
import Derived.Test.YtidengcihakijaaGm
namespace Go.Proofs.Ytidengcihakijaa
set_option linter.unusedVariables false
set_option linter.unusedSimpArgs false
open Go Go.RowKit
def allW (zs : List Int) : Bool := zs.all fun z => inB z (-1) 1
theorem allW_no {zs : List Int} {j : Nat} (hj : j < zs.length) (h : inB (zs.getD j 0) (-1) 1 = false) : allW zs = false := by
  unfold allW
  rw [List.all_eq_false]
  refine ⟨zs[j], List.getElem_mem hj, ?_⟩
  rw [show zs[j] = zs.getD j 0 by simp [List.getD, hj], h]; simp
theorem allW_yes {zs : List Int} (h : ∀ j, j < zs.length → inB (zs.getD j 0) (-1) 1 = true) : allW zs = true := by
  unfold allW
  rw [List.all_eq_true]
  intro z hz
  obtain ⟨j, hj, rfl⟩ := List.getElem_of_mem hz
  have := h j hj
  rwa [show zs.getD j 0 = zs[j] by simp [List.getD, hj]] at this
theorem allW_get {zs : List Int} (h : allW zs = true) {j : Nat} (hj : j < zs.length) : -1 ≤ zs.getD j 0 ∧ zs.getD j 0 ≤ 1 := by
  unfold allW at h
  rw [List.all_eq_true] at h
  have := h zs[j] (List.getElem_mem hj)
  rw [show zs[j] = zs.getD j 0 by simp [List.getD, hj]] at this
  exact inB_bd this
theorem lst_n {n : Int} {zs : List Int} (h : inB n 1 5 = false) : lstB n zs = false := by simp [lstB, h]
theorem lst_l {n : Int} {zs : List Int} (h : ¬ (zs.length : Int) = edg n) : lstB n zs = false := by simp [lstB, h]
theorem lst_a {n : Int} {zs : List Int} (h : allW zs = false) : lstB n zs = false := by unfold allW at h; simp [lstB, h]
theorem lst_y {n : Int} {zs : List Int} (h : inB n 1 5 = true) (h2 : (zs.length : Int) = edg n) (h3 : allW zs = true) : lstB n zs = true := by unfold allW at h3; simp [lstB, h, h2, h3]
theorem lst_get {n : Int} {zs : List Int} (h : lstB n zs = true) : 1 ≤ n ∧ n ≤ 5 ∧ (zs.length : Int) = edg n ∧ allW zs = true := by
  simp only [lstB, Bool.and_eq_true, decide_eq_true_eq] at h
  have := inB_bd h.1
  exact ⟨this.1, this.2, h.2.1, h.2.2⟩
def Eqw (w wr : World) : Prop := w = wr
def lsCode (n : Int) (zs : List Int) : Int := if lstB n zs = true then 0 else 2
theorem ls_0 {n : Int} {zs : List Int} (h : lstB n zs = true) : lsCode n zs = 0 := if_pos h
theorem ls_2 {n : Int} {zs : List Int} (h : lstB n zs = false) : lsCode n zs = 2 := if_neg (by simp [h])
set_option maxRecDepth 100000 in
set_option maxHeartbeats 1000000 in
theorem lists28 (n : Int) (zs : List Int) (a : Option Addr) (cap : Nat) (w : World) (hs : SlI w a zs) (hl : zs.length ≤ 9223372036854775807) :
    Calls Try.prog 32 #[.int .i64 n, .slice a zs.length cap] w fun e w' => e = .returned (.int .i64 (lsCode n zs)) ∧ w = w' := by
  have HS := hidd hs
  clear hs
  cases c1 : inB n 1 5 with
  | false =>
    have H1 := hidd c1
    have H := hidd (ls_2 (zs := zs) (lst_n c1))
    clear c1
    go_enter Try.func32, Try.ntmps32
    go_wp2_with (go_at_call 44; refine (in49 _ _ _ _).mono ?_; rintro e w' ⟨rfl, rfl⟩; rw [H1.out])
    go_ret
    exact ⟨by rw [H.out]; rfl, rfl⟩
  | true =>
    have H1 := hidd c1
    obtain ⟨n1, n2⟩ := inB_bd c1
    have hmul := mul_bd n1 (show n ≤ 17 by omega)
    have he : n * (n - 1) / 2 = edg n := rfl
    have hm1 : IntKind.i64.wrap (n - 1) = n - 1 := IntWalk.i64_in _ (by omega)
    have hm2 : IntKind.i64.wrap (n * (n - 1)) = n * (n - 1) := IntWalk.i64_in _ (by omega)
    by_cases c2 : (zs.length : Int) = edg n
    · have hne : ((zs.length : Int) != edg n) = false := by simp [c2]
      have HE := hidd c2
      have hle := (edg_bd n1 (show n ≤ 17 by omega)).2
      clear c1 c2
      go_enter Try.func32, Try.ntmps32
      go_wp2_with (go_at_call 44; refine (in49 _ _ _ _).mono ?_; rintro e w' ⟨rfl, rfl⟩; rw [H1.out])
      clear he hm1 hm2 hne
      go_loopw [5] (fun i wr => ∃ j : Nat, j ≤ zs.length ∧ i = .int .i64 j ∧ Hid (Eqw w wr ∧ ∀ m, m < j → inB (zs.getD m 0) (-1) 1 = true)) (fun i _ => zs.length - (intOf i).toNat)
      case atStart => exact ⟨0, by omega, rfl, rfl, fun m hm => absurd hm (by omega)⟩
      case round =>
        obtain ⟨j, hj, rfl, HD⟩ := hrel
        obtain rfl : w = wr := HD.out.1
        have HA := hidd HD.out.2
        clear HD
        by_cases hlt : j < zs.length
        · rcases HS.out with hz | ⟨b, off, rfl, hc⟩
          · subst hz; simp at hlt
          · have hcj := hc j hlt
            obtain ⟨z, hz⟩ : ∃ z, z = zs.getD j 0 := ⟨_, rfl⟩
            rw [← hz] at hcj
            have HZ := hidd hz
            clear hz hc
            cases q : inB z (-1) 1 with
            | false =>
              have HQ := hidd q
              have H := hidd (ls_2 (n := n) (lst_a (allW_no hlt (by rw [← HZ.out]; exact q))))
              clear q
              go_wp2_with (go_at_call 44; refine (in49 _ _ _ _).mono ?_; rintro e w' ⟨rfl, rfl⟩; rw [HQ.out])
              go_ret
              exact ⟨by rw [H.out]; rfl, rfl⟩
            | true =>
              have HQ := hidd q
              clear q
              go_wp2_with (go_at_call 44; refine (in49 _ _ _ _).mono ?_; rintro e w' ⟨rfl, rfl⟩; rw [HQ.out])
              go_roundw
              case rel => exact ⟨j + 1, by omega, by go_num, rfl, fun m hm => by
                by_cases e : m = j
                · subst e; rw [← HZ.out]; exact HQ.out
                · exact HA.out m (by omega)⟩
              case measure => simp [intOf]; omega
        · have hje : j = zs.length := by omega
          subst hje
          have H := hidd (ls_0 (lst_y H1.out HE.out (allW_yes HA.out)))
          go_wp2_with fail
          go_ret
          exact ⟨by rw [H.out]; rfl, rfl⟩
    · have hne : ((zs.length : Int) != edg n) = true := by simp [c2]
      have H := hidd (ls_2 (lst_l c2))
      clear c1 c2
      go_enter Try.func32, Try.ntmps32
      go_wp2_with (go_at_call 44; refine (in49 _ _ _ _).mono ?_; rintro e w' ⟨rfl, rfl⟩; rw [H1.out])
      go_ret
      exact ⟨by rw [H.out]; rfl, rfl⟩
end Go.Proofs.Ytidengcihakijaa

/- Parts into colours: what a part is, in the program and in the model. -/
import Derived.Test.YthmjmlmmbmdodaaDiffSp
import Derived.Test.YthmjmlmmbmdodaaGb
import Derived.BigQuiet
namespace Go.Proofs.Ythmjmlmmbmdodaa
set_option linter.unusedVariables false
set_option linter.unusedSimpArgs false
open Go Go.RowKit Go.Shelf
/-- Is a list a part into k colours? -/
def partB (k : Int) (zs : List Int) : Bool := inB k 1 3 && (decide ((zs.length : Int) ≤ 40) && allB zs k)
theorem partB_bd {k : Int} {zs : List Int} (h : partB k zs = true) : 1 ≤ k ∧ k ≤ 3 ∧ zs.length ≤ 40 ∧ allB zs k = true := by
  simp only [partB, Bool.and_eq_true, decide_eq_true_eq] at h
  have := inB_bd h.1
  exact ⟨this.1, this.2, by omega, h.2.2⟩
def ptCode (k : Int) (zs : List Int) (kind : Int) : Int := if partB k zs = true ∧ inB kind 0 2 = true then 0 else 2
theorem ptCode_0 {k : Int} {zs : List Int} {kind : Int} (h : partB k zs = true) (h2 : inB kind 0 2 = true) : ptCode k zs kind = 0 := if_pos ⟨h, h2⟩
theorem ptCode_p {k : Int} {zs : List Int} {kind : Int} (h : partB k zs = false) : ptCode k zs kind = 2 := if_neg (by simp [h])
theorem ptCode_k {k : Int} {zs : List Int} {kind : Int} (h : inB kind 0 2 = false) : ptCode k zs kind = 2 := if_neg (by simp [h])
set_option maxRecDepth 100000 in
theorem isPart43 (k : Int) (zs : List Int) (a : Option Addr) (cap : Nat) (w : World) (hs : SlI w a zs) (hl : zs.length ≤ 9223372036854775807) :
    Calls Try.prog 43 #[.int .i64 k, .slice a zs.length cap] w fun e w' => e = .returned (.bool (partB k zs)) ∧ w = w' := by
  have HS := hidd hs
  clear hs
  cases c1 : inB k 1 3 with
  | false =>
    have H1 := hidd c1
    have H := hidd (show partB k zs = false by simp [partB, c1])
    clear c1
    go_enter Try.func43, Try.ntmps43
    go_wp2_with (go_at_call 60; refine (within45 _ _ _ _).mono ?_; rintro e w' ⟨rfl, rfl⟩; rw [H1.out])
    go_ret
    exact ⟨by rw [H.out]; rfl, rfl⟩
  | true =>
    have H1 := hidd c1
    by_cases c2 : (zs.length : Int) ≤ 40
    · have H := hidd (show partB k zs = allB zs k by simp [partB, c1, c2])
      clear c1
      go_enter Try.func43, Try.ntmps43
      go_wp2_with (first
        | (go_at_call 60; refine (within45 _ _ _ _).mono ?_; rintro e w' ⟨rfl, rfl⟩; rw [H1.out])
        | (go_at_call 61; refine (all51 zs a cap k _ HS.out hl).mono ?_; rintro e w' ⟨rfl, rfl⟩))
      go_ret
      exact ⟨by rw [H.out]; rfl, rfl⟩
    · have H := hidd (show partB k zs = false by simp [partB, c2])
      have hd : decide ((zs.length : Int) ≤ 40) = false := by simpa using c2
      clear c1 c2
      go_enter Try.func43, Try.ntmps43
      go_wp2_with (go_at_call 60; refine (within45 _ _ _ _).mono ?_; rintro e w' ⟨rfl, rfl⟩; rw [H1.out])
      go_ret
      exact ⟨by rw [H.out]; rfl, rfl⟩
set_option maxRecDepth 100000 in
theorem code33 (k : Int) (zs : List Int) (a : Option Addr) (cap : Nat) (kind : Int) (w : World) (hs : SlI w a zs) (hl : zs.length ≤ 9223372036854775807) :
    Calls Try.prog 33 #[.int .i64 k, .slice a zs.length cap, .int .i64 kind] w fun e w' => e = .returned (.int .i64 (ptCode k zs kind)) ∧ w = w' := by
  have HS := hidd hs
  clear hs
  cases c1 : inB k 1 3 with
  | false =>
    have H1 := hidd c1
    have H := hidd (ptCode_p (kind := kind) (show partB k zs = false by simp [partB, c1]))
    clear c1
    go_enter Try.func33, Try.ntmps33
    go_wp2_with (go_at_call 52; refine (in49 _ _ _ _).mono ?_; rintro e w' ⟨rfl, rfl⟩; rw [H1.out])
    go_ret
    exact ⟨by rw [H.out]; rfl, rfl⟩
  | true =>
    have H1 := hidd c1
    obtain ⟨k1, k2⟩ := inB_bd c1
    by_cases c2 : (zs.length : Int) ≤ 40
    · have hd : decide (40 < (zs.length : Int)) = false := by simpa using c2
      cases c3 : allB zs k with
      | false =>
        have H3 := hidd c3
        have H := hidd (ptCode_p (kind := kind) (show partB k zs = false by simp [partB, c3]))
        clear c1 c3
        go_enter Try.func33, Try.ntmps33
        go_wp2_with (first
          | (go_at_call 52; refine (in49 _ _ _ _).mono ?_; rintro e w' ⟨rfl, rfl⟩; rw [H1.out])
          | (go_at_call 54; refine (all50 zs a cap k _ HS.out hl (by omega) (by omega)).mono ?_; rintro e w' ⟨rfl, rfl⟩; rw [H3.out]))
        go_ret
        exact ⟨by rw [H.out]; rfl, rfl⟩
      | true =>
        have H3 := hidd c3
        have HP := hidd (show partB k zs = true by simp [partB, c1, c2, c3])
        cases c4 : inB kind 0 2 with
        | false =>
          have H4 := hidd c4
          have H := hidd (ptCode_k (k := k) (zs := zs) c4)
          clear c1 c3 c4
          go_enter Try.func33, Try.ntmps33
          go_wp2_with fail
          refine (in49 _ _ _ _).mono ?_
          rintro e w' ⟨rfl, rfl⟩
          rw [H1.out]
          go_wp2_with fail
          refine (all50 zs a cap k _ HS.out hl (by omega) (by omega)).mono ?_
          rintro e w' ⟨rfl, rfl⟩
          rw [H3.out]
          go_wp2_with fail
          refine (in49 _ _ _ _).mono ?_
          rintro e w' ⟨rfl, rfl⟩
          rw [H4.out]
          go_wp2_with fail
          go_ret
          exact ⟨by rw [H.out]; rfl, rfl⟩
        | true =>
          have H4 := hidd c4
          have H := hidd (ptCode_0 HP.out c4)
          clear c1 c3 c4
          go_enter Try.func33, Try.ntmps33
          go_wp2_with fail
          refine (in49 _ _ _ _).mono ?_
          rintro e w' ⟨rfl, rfl⟩
          rw [H1.out]
          go_wp2_with fail
          refine (all50 zs a cap k _ HS.out hl (by omega) (by omega)).mono ?_
          rintro e w' ⟨rfl, rfl⟩
          rw [H3.out]
          go_wp2_with fail
          refine (in49 _ _ _ _).mono ?_
          rintro e w' ⟨rfl, rfl⟩
          rw [H4.out]
          go_wp2_with fail
          go_ret
          exact ⟨by rw [H.out]; rfl, rfl⟩
    · have H := hidd (ptCode_p (kind := kind) (show partB k zs = false by simp [partB, c2]))
      have hd : 40 < (zs.length : Int) := by omega
      clear c1 c2
      go_enter Try.func33, Try.ntmps33
      go_wp2_with (go_at_call 52; refine (in49 _ _ _ _).mono ?_; rintro e w' ⟨rfl, rfl⟩; rw [H1.out])
      go_ret
      exact ⟨by rw [H.out]; rfl, rfl⟩
end Go.Proofs.Ythmjmlmmbmdodaa

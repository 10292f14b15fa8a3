/- IsFree: the program. -/
import Derived.Test.YthmjmlmmbmdodaaIsf
namespace Go.Proofs.Ythmjmlmmbmdodaa
set_option linter.unusedVariables false
set_option linter.unusedSimpArgs false
open Go Go.RowKit Go.Shelf
/-- What enterPart returns. -/
def enO (k : Int) (zs : List Int) (kind : Int) : Value := if ptCode k zs kind = 0 then .tuple #[kindV kind, .int .i64 0] else .tuple #[.nilIface, .int .i64 2]
theorem enO_0 {k : Int} {zs : List Int} {kind : Int} (h : ptCode k zs kind = 0) : enO k zs kind = .tuple #[kindV kind, .int .i64 0] := if_pos h
theorem enO_2 {k : Int} {zs : List Int} {kind : Int} (h : ptCode k zs kind = 2) : enO k zs kind = .tuple #[.nilIface, .int .i64 2] := if_neg (by omega)
set_option maxRecDepth 100000 in
set_option maxHeartbeats 1000000 in
theorem enter35 (k : Int) (zs : List Int) (kind : Int) (a : Option Addr) (cap : Nat) (w : World) (hs : SlI w a zs) (hl : zs.length ≤ 9223372036854775807) :
    Calls Try.prog 35 #[.int .i64 k, .slice a zs.length cap, .int .i64 kind] w fun e w' => e = .returned (enO k zs kind) ∧ w = w' := by
  have HSL := hidd hs
  clear hs
  cases c1 : inB kind 0 2 with
  | false =>
    have H1 := hidd (kindO_no c1)
    have H := hidd (enO_2 (ptCode_k (k := k) (zs := zs) c1))
    clear c1
    go_enter Try.func35, Try.ntmps35
    go_wp2_with (go_at_call 55; refine (kind55 _ _).mono ?_; rintro e w' ⟨rfl, rfl⟩; rw [H1.out])
    go_ret2
    exact ⟨by rw [H.out]; rfl, rfl⟩
  | true =>
    have H1 := hidd (kindO_yes c1)
    obtain ⟨T, tv, hkv⟩ := kindV_if kind
    have HKV := hidd hkv
    cases c2 : partB k zs with
    | false =>
      have H2 := hidd c2
      have H := hidd (enO_2 (ptCode_p (kind := kind) c2))
      rw [hkv] at H1
      clear c1 c2 hkv
      go_enter Try.func35, Try.ntmps35
      go_wp2_with (first
        | (go_at_call 55; refine (kind55 _ _).mono ?_; rintro e w' ⟨rfl, rfl⟩; rw [H1.out])
        | (go_at_call 43; refine (isPart43 _ _ _ _ _ HSL.out hl).mono ?_; rintro e w' ⟨rfl, rfl⟩; rw [H2.out]))
      go_ret2
      exact ⟨by rw [H.out]; rfl, rfl⟩
    | true =>
      have H2 := hidd c2
      have H := hidd (enO_0 (ptCode_0 c2 c1))
      rw [hkv] at H1 H
      clear c1 c2 hkv
      go_enter Try.func35, Try.ntmps35
      go_wp2_with (first
        | (go_at_call 55; refine (kind55 _ _).mono ?_; rintro e w' ⟨rfl, rfl⟩; rw [H1.out])
        | (go_at_call 43; refine (isPart43 _ _ _ _ _ HSL.out hl).mono ?_; rintro e w' ⟨rfl, rfl⟩; rw [H2.out]))
      go_ret2
      exact ⟨by rw [H.out]; rfl, rfl⟩
set_option maxRecDepth 100000 in
set_option maxHeartbeats 1000000 in
theorem impl13f (k : Int) (zs : List Int) (kind : Int) (b : Nat) (cap : Nat) (w : World) (hbw : b < w.heap.size) (hs : SlI w (some ⟨b, 0, none⟩) zs) (hl : zs.length ≤ 9223372036854775807) :
    Calls Try.prog 13 #[.int .i64 k, .slice (some ⟨b, 0, none⟩) zs.length cap, .int .i64 kind] w fun e w' => e = .returned (.tuple #[.bool (ifVal k zs kind), .int .i64 (ptCode k zs kind)]) ∧ Below w.heap.size w w' := by
  have HSL := hidd hs
  clear hs
  rcases pt_cases k zs kind with hc | ⟨hc, hp, k0, k2⟩
  · have HC := hidd hc
    have HE := hidd (enO_2 hc)
    have HV := hidd (show ifVal k zs kind = false by unfold ifVal; rw [hc]; rfl)
    clear hc
    go_enter Try.func13, Try.ntmps13
    go_wp2_with (go_at_call 35; refine (enter35 _ _ _ _ _ _ HSL.out hl).mono ?_; rintro e w' ⟨rfl, rfl⟩; rw [HE.out])
    go_ret2
    exact ⟨by rw [HV.out, HC.out]; rfl, Below.refl _ _⟩
  · have HC := hidd hc
    obtain ⟨T, tv, hkv⟩ := kindV_if kind
    have HE := hidd (enO_0 hc)
    obtain ⟨p1, p2, p3, p4⟩ := partB_bd hp
    have HV := hidd (show ifVal k zs kind = (FT zs kind).isEmpty by unfold ifVal; rw [hc, if_pos rfl])
    have HI := hidd (isfree36 zs kind k0 k2 b 0 cap w (by omega) hbw HSL.out)
    obtain ⟨v, hv⟩ : ∃ v, v = (FT zs kind).isEmpty := ⟨_, rfl⟩
    rw [← hv] at HV HI
    rw [hkv] at HE HI
    clear hc hp p4 hv hkv
    go_enter Try.func13, Try.ntmps13
    go_wp2_with (go_at_call 35; refine (enter35 _ _ _ _ _ _ HSL.out hl).mono ?_; rintro e w' ⟨rfl, rfl⟩; rw [HE.out])
    refine HI.out.mono ?_
    rintro e w1 ⟨rfl, hb1⟩
    have R := hidd hb1
    clear hb1
    go_wp2_with fail
    go_ret2
    exact ⟨by rw [HV.out, HC.out]; rfl, R.out⟩
end Go.Proofs.Ythmjmlmmbmdodaa

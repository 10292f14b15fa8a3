/- IsPosition: the program and its model. -/
import Derived.Test.YteclbaalejondaaEnt
namespace Go.Proofs.Yteclbaalejondaa
set_option linter.unusedVariables false
set_option linter.unusedSimpArgs false
open Go Go.RowKit
/-- Is it a position? -/
def ipV (n : Int) (zs : List Int) : Bool := gmCode n zs == 0
set_option maxRecDepth 100000 in
set_option maxHeartbeats 1000000 in
theorem spec10i (n : Int) (zs : List Int) (a : Option Addr) (cap : Nat) (w : World) (hs : SlI w a zs) (hl : zs.length ≤ 9223372036854775807) :
    Calls Try.prog 10 #[.int .i64 n, .slice a zs.length cap] w fun e w' => e = .returned (.bool (ipV n zs)) ∧ Below w.heap.size w w' := by
  have HL := hidd (lists28 n zs a cap w hs hl)
  cases q : lstB n zs with
  | false =>
    rw [ls_2 q] at HL
    have H := hidd (show ipV n zs = false by unfold ipV; rw [gm_2 q]; rfl)
    clear q
    go_enter Try.func10, Try.ntmps10
    go_wp2_with fail
    refine HL.out.mono ?_
    rintro e w' ⟨rfl, rfl⟩
    go_wp2_with fail
    go_ret
    exact ⟨by rw [H.out]; rfl, Below.refl _ _⟩
  | true =>
    rw [ls_0 q] at HL
    obtain ⟨N, rfl, n1, n5, hlen, hl10⟩ := lst_len q
    have HI := hidd (is29 N zs a cap w hs n1 n5 hlen)
    have H := hidd (show ipV (N : Int) zs = posB N zs by
      unfold ipV
      cases p : posB N zs with
      | false => rw [gm_1 q p]; rfl
      | true => rw [gm_0 q p]; rfl)
    generalize posB N zs = r at *
    clear q hlen
    go_enter Try.func10, Try.ntmps10
    go_wp2_with fail
    refine HL.out.mono ?_
    rintro e w' ⟨rfl, rfl⟩
    go_wp2_with fail
    refine HI.out.mono ?_
    rintro e w' ⟨rfl, rfl⟩
    go_wp2_with fail
    go_ret
    exact ⟨by rw [H.out]; rfl, Below.refl _ _⟩
set_option maxRecDepth 100000 in
set_option maxHeartbeats 1000000 in
theorem impl12i (n : Int) (zs : List Int) (a : Option Addr) (cap : Nat) (w : World) (hs : SlI w a zs) (hl : zs.length ≤ 9223372036854775807) :
    Calls Try.prog 12 #[.int .i64 n, .slice a zs.length cap] w fun e w' => e = .returned (.bool (ipV n zs)) ∧ Below w.heap.size w w' := by
  have HE := hidd (enter30 n zs a cap w hs hl)
  obtain ⟨V, hV, hVs, hV0, hV1⟩ : ∃ V : Array Value, enV n zs = .agg V ∧ (Try.prog.info? 40).map (·.size) = some V.size ∧ (psC 0 0 0).size = V.size ∧ V.all (·.oneCell') = true := by
    unfold enV
    split
    · exact ⟨psZ n.toNat zs, rfl, size40, rfl, one_ps _ _ _⟩
    · exact ⟨psC 0 0 0, rfl, size40, rfl, one_ps _ _ _⟩
  rw [hV] at HE
  have HVS := hidd (And.intro hVs (And.intro hV0 hV1))
  have H := hidd (show ipV n zs = (gmCode n zs == 0) from rfl)
  generalize gmCode n zs = c at *
  generalize ipV n zs = r at *
  have hr := H.out.symm
  have Hz := zero40
  clear hV hVs hV0 hV1 hs
  go_enter Try.func12, Try.ntmps12
  go_wp2_with fail
  refine HE.out.mono ?_
  rintro e w1 ⟨rfl, hb1⟩
  have G3 := hidd (show Blk (w1.alloc (.cells (psC 0 0 0) 40)) w1.heap.size (psC 0 0 0) 40 from Blk.new _ _ _ _ rfl)
  have G4 := hidd (show Below w.heap.size w ((w1.alloc (.cells (psC 0 0 0) 40)).setRow w1.heap.size V) from below_setRow (hb1.alloc hb1.size _) hb1.size _)
  clear hb1
  go_wp2_with (refine wpList_store_row rfl 40 (.tmp 5) (.tmp 11) rfl w1.heap.size V rfl rfl 40 _ G3.out HVS.out.1 HVS.out.2.1 HVS.out.2.2 ?_)
  go_ret
  exact ⟨rfl, G4.out⟩
end Go.Proofs.Yteclbaalejondaa

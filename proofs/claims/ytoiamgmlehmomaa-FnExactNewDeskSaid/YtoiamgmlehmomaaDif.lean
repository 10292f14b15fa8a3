/- The program's colourings by differences. -/
import Derived.Test.YtoiamgmlehmomaaGc
import Derived.Test.YtoiamgmlehmomaaGe
namespace Go.Proofs.Ytoiamgmlehmomaa
set_option linter.unusedVariables false
set_option linter.unusedSimpArgs false
open Go Go.RowKit Go.Shelf
set_option maxRecDepth 100000 in
theorem index109 (zs : List Int) (a : Option Addr) (cap : Nat) (x : Int) (w : World) (hs : SlI w a zs) (hl : zs.length ≤ 1048576) :
    Calls Try.prog 35 #[.slice a zs.length cap, .int .i64 x] w fun e w' => ∃ r, e = .returned (.int .i64 r) ∧ (0 ≤ r ↔ x ∈ zs) ∧ w = w' := by
  have HS := hidd hs
  clear hs
  go_enter Try.func35, Try.ntmps35
  go_wp2_with fail
  go_loop [8] (fun i => ∃ j : Nat, j ≤ zs.length ∧ i = .int .i64 j ∧ Hid (∀ m, m < j → zs.getD m 0 ≠ x)) (fun i => zs.length - (intOf i).toNat)
  case atStart => exact ⟨0, by omega, rfl, fun m hm => absurd hm (by omega)⟩
  case round =>
    obtain ⟨j, hj, rfl, HA⟩ := hrel
    by_cases hlt : j < zs.length
    · rcases HS.out with hz | ⟨b, off, ha, hc⟩
      · subst hz; simp at hlt
      · subst ha
        have hcj := hc j hlt
        obtain ⟨z, hz⟩ : ∃ z, z = zs.getD j 0 := ⟨_, rfl⟩
        rw [← hz] at hcj
        have HZ := hidd hz
        clear hz hc
        by_cases he : x = z
        · have heq : (x == z) = true := by simpa using he
          have HM := hidd (show x ∈ zs by
            have h2 : zs.getD j 0 = zs[j] := by simp [List.getD, hlt]
            rw [he, HZ.out, h2]; exact List.getElem_mem hlt)
          clear he
          go_wp2_with fail
          go_ret
          exact ⟨(j : Int), rfl, ⟨fun _ => HM.out, fun _ => by omega⟩, rfl⟩
        · have heq : (x == z) = false := by rw [beq_eq_false_iff_ne]; exact he
          have HE := hidd he
          clear he
          go_wp2_with fail
          go_round
          case rel => exact ⟨j + 1, by omega, by go_num, fun m hm => by
            by_cases e : m = j
            · subst e; rw [← HZ.out]; exact fun h => HE.out h.symm
            · exact HA.out m (by omega)⟩
          case measure => simp [intOf]; omega
    · have hje : j = zs.length := by omega
      subst hje
      go_wp2_with fail
      go_ret
      refine ⟨-1, rfl, ⟨fun h => absurd h (by omega), fun h => ?_⟩, rfl⟩
      obtain ⟨m, hm, hx⟩ := List.mem_iff_getElem.1 h
      exact absurd (by simpa [List.getD, hm] using hx) (HA.out m hm)
set_option maxRecDepth 100000 in
theorem contains99 (zs : List Int) (a : Option Addr) (cap : Nat) (x : Int) (w : World) (hs : SlI w a zs) (hl : zs.length ≤ 1048576) :
    Calls Try.prog 32 #[.slice a zs.length cap, .int .i64 x] w fun e w' => e = .returned (.bool (decide (x ∈ zs))) ∧ w = w' := by
  have HI := hidd (index109 zs a cap x w hs hl)
  clear hs
  go_enter Try.func32, Try.ntmps32
  go_wp2_with fail
  refine HI.out.mono ?_
  rintro e w' ⟨r, rfl, hr, rfl⟩
  by_cases hm : x ∈ zs
  · have h0 := hr.2 hm
    have H := hidd (show decide (x ∈ zs) = true from decide_eq_true hm)
    clear hr hm
    go_wp2
    go_ret
    exact ⟨by rw [H.out]; rfl, rfl⟩
  · have h0 : r < 0 := by
      have : ¬ 0 ≤ r := fun h => hm (hr.1 h)
      omega
    have hd : decide (0 ≤ r) = false := by simp; omega
    have H := hidd (show decide (x ∈ zs) = false from decide_eq_false hm)
    clear hr hm
    go_wp2
    go_ret
    exact ⟨by rw [H.out]; rfl, rfl⟩
/-- The colour by differences. -/
def dfR (zs : List Int) (lo hi : Nat) : Int := if ((hi : Int) - (lo : Int)) ∈ zs then 0 else 1
theorem dfR_bd (zs : List Int) (lo hi : Nat) : 0 ≤ dfR zs lo hi ∧ dfR zs lo hi < 256 := by unfold dfR; split <;> omega
set_option maxRecDepth 100000 in
theorem rule98 (zs : List Int) (a : Option Addr) (cap b0 : Nat) (W : World) (hB : Blk W b0 #[.slice a zs.length cap] 48) (hs : SlI W a zs) (hl : zs.length ≤ 1048576) (lo hi : Nat) (h1 : lo < hi) (h2 : hi ≤ 17) :
    Calls Try.prog 31 #[.int .i64 (lo : Int), .int .i64 (hi : Int), .pointer (some ⟨b0, 0, none⟩)] W fun e W' => e = .returned (.int .i64 (dfR zs lo hi)) ∧ Below W.heap.size W W' := by
  have c0 := hB.cell (j := 0) (show _ = some (Value.slice a zs.length cap) from rfl)
  have HC := hidd (fun x => contains99 zs a cap x W hs hl)
  clear hB hs
  by_cases hm : ((hi : Int) - (lo : Int)) ∈ zs
  · have H := hidd (show dfR zs lo hi = 0 from if_pos hm)
    have HD := hidd (show decide (((hi : Int) - (lo : Int)) ∈ zs) = true from decide_eq_true hm)
    clear hm
    go_enter Try.func31, Try.ntmps31
    go_wp2_with (go_at_call 32; refine (HC.out _).mono ?_; rintro e w' ⟨rfl, rfl⟩; rw [HD.out])
    go_ret
    exact ⟨by rw [H.out]; rfl, Below.refl _ _⟩
  · have H := hidd (show dfR zs lo hi = 1 from if_neg hm)
    have HD := hidd (show decide (((hi : Int) - (lo : Int)) ∈ zs) = false from decide_eq_false hm)
    clear hm
    go_enter Try.func31, Try.ntmps31
    go_wp2_with (go_at_call 32; refine (HC.out _).mono ?_; rintro e w' ⟨rfl, rfl⟩; rw [HD.out])
    go_ret
    exact ⟨by rw [H.out]; rfl, Below.refl _ _⟩
theorem ruleOf98 (N : Nat) (zs : List Int) (a : Option Addr) (cap b0 : Nat) (w : World) (hB : Blk w b0 #[.slice a zs.length cap] 48) (hs : SlI w a zs) (hl : zs.length ≤ 1048576) (n2 : N ≤ 17) :
    Rule N 31 #[.pointer (some ⟨b0, 0, none⟩)] (dfR zs) w := by
  intro x W hbl
  obtain ⟨hx1, hx2, hx3⟩ := x.2
  exact rule98 zs a cap b0 W (hB.below hbl hB.lt) (hs.below hbl (Nat.le_refl _)) hl x.1.2.1 x.1.2.2 hx2 (by omega)
set_option maxRecDepth 100000 in
set_option maxHeartbeats 1000000 in
theorem diff66 (N : Nat) (zs : List Int) (a : Option Addr) (cap : Nat) (w : World) (hs : SlI w a zs) (hl : zs.length ≤ 1048576) (n1 : 1 ≤ N) (n2 : N ≤ 17) :
    Calls Try.prog 24 #[.int .i64 (N : Int), .slice a zs.length cap] w fun e w' => e = .returned (.agg (ccells (N : Int) 2 (paintB N (dfR zs))).toArray) ∧ Below w.heap.size w w' := by
  have Hz := zero26
  have hmf : ∀ (fn : Fn) (first cap : Array Value) (w : World), (Instr.makeFunc fn first cap).run Try.prog w = .ok (.func fn first cap) w := fun _ _ _ _ => rfl
  have HPB := hidd (paintB_bys (N := N) (dfR_bd zs))
  have HPS := hidd (size_c26 (N : Int) 2 HPB.out)
  have HPO := hidd (size_cc 0 0 (N : Int) 2 zbl_bys HPB.out)
  have HPA := hidd (ccells_one (N : Int) 2 (paintB N (dfR zs)))
  have HSL := hidd hs
  clear hs
  go_enter Try.func24, Try.ntmps24
  go_wp2_with fail
  have hW : ∀ W, W = ((w.alloc (.cells #[.slice a zs.length cap] 48)).alloc (.cells (ccells 0 0 zbl).toArray 24)) →
      Blk W w.heap.size #[.slice a zs.length cap] 48 ∧ Blk W (w.heap.size + 1) (ccells 0 0 zbl).toArray 24 ∧ Below w.heap.size w W := by
    rintro W rfl
    exact ⟨(Blk.new _ _ _ _ rfl).alloc _, Blk.new _ _ _ _ (by simp), ((Below.refl _ _).alloc (Nat.le_refl _) _).alloc (by simp) _⟩
  have HW := hidd (hW _ rfl)
  clear hW
  refine (paint52 N 2 31 _ (dfR zs) _ n1 n2 (fun x => dfR_bd zs _ _) (enters_of Try.func31 (by kernel_rfl) rfl) (ruleOf98 N zs a cap _ _ HW.out.1 (HSL.out.below HW.out.2.2 (Nat.le_refl _)) hl n2)).mono ?_
  rintro e w1 ⟨rfl, hb1⟩
  have z1 := HW.out.2.1.below hb1 HW.out.2.1.lt
  have b1 := HW.out.2.2.trans (hb1.mono HW.out.2.2.size)
  have R := hidd (And.intro z1 (And.intro (z1.rowSame (ccells (N : Int) 2 (paintB N (dfR zs))).toArray) (below_setRow b1 (g := w.heap.size + 1) (by omega) (ccells (N : Int) 2 (paintB N (dfR zs))).toArray)))
  clear hb1 z1 b1
  go_wp2_with (refine wpList_store_row rfl 24 (.tmp 4) (.tmp 7) rfl (w.heap.size + 1) _ rfl rfl 24 _ R.out.1 HPS.out HPO.out HPA.out ?_)
  refine bodyPost_ret (results_cell_row rfl _ _ (w.heap.size + 1) 24 _ (0,0) _ rfl R.out.2.1 Try.underlying24 rfl HPS.out) rfl ⟨rfl, R.out.2.2⟩
end Go.Proofs.Ytoiamgmlehmomaa

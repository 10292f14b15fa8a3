/- Lists of numbers: the laws' copies and comparisons, and the program's test of a list. -/
import Derived.Test.YtikcmgmgdbbcfaaRes
namespace Go.Proofs.Ytikcmgmgdbbcfaa
set_option linter.unusedVariables false
set_option linter.unusedSimpArgs false
open Go Go.RowKit
def icells (zs : List Int) : List Value := zs.map (Value.int .i64)
theorem icells_len (zs : List Int) : (icells zs).length = zs.length := by simp [icells]
theorem icells_get {zs : List Int} {j : Nat} (h : j < zs.length) : (icells zs).toArray[j]? = some (.int .i64 (zs.getD j 0)) := by simp [icells, List.getD, h]
theorem sl_of_blk {w : World} {b : Nat} {zs : List Int} {t : TypeId} (h : Blk w b (icells zs).toArray t) : SlI w (some ⟨b, 0, none⟩) zs :=
  .inr ⟨b, 0, rfl, fun j hj => by rw [Nat.zero_add]; exact h.cell (icells_get hj)⟩
def zrow (n : Nat) : Array Value := madeCells #[.int .i64 0] n
theorem zrow_size (n : Nat) : (zrow n).size = n := size_madeCells _ _
theorem info2 : (Try.prog.info? 2).map (fun i => (i.zero, i.size, i.bytes)) = some (some (.int .i64 0), 1, 8) := by kernel_rfl
theorem make29 (n : Nat) (h : n ≤ 1048576) (w : World) : (Instr.makeSlice 22 (.int .i64 n) (.int .i64 n)).run Try.prog w = .ok (.slice (some ⟨w.heap.size, 0, none⟩) n n) (w.alloc (.cells (zrow n) 2)) := by
  obtain ⟨i, hi, hz0, hz1, hz2⟩ := info_parts info2
  have := run_make (P := Try.prog) w 22 2 i (.int .i64 0) Try.underlying22 hi hz0 .i64 .i64 n n (by omega) (by omega) (by rw [hz2]; omega) (by omega)
  rw [this, hz1]
  simp [zrow, Value.cells]
/-- Cells that are the numbers up to k. -/
def Cin (zs : List Int) (k : Nat) (C : Array Value) : Prop := C.size = zs.length ∧ ∀ j, j < k → C[j]? = (icells zs)[j]?
theorem Cin.step {zs : List Int} {k : Nat} {C : Array Value} (h : Cin zs k C) (hk : k < zs.length) : Cin zs (k + 1) (C.setIfInBounds k (.int .i64 (zs.getD k 0))) := by
  refine ⟨by simp [h.1], fun j hj => ?_⟩
  rw [Array.getElem?_setIfInBounds]
  by_cases e : k = j
  · subst e; rw [if_pos rfl, if_pos (by rw [h.1]; exact hk)]
    have := icells_get hk
    simpa using this.symm
  · rw [if_neg e]; exact h.2 j (by omega)
theorem Cin.done {zs : List Int} {C : Array Value} (h : Cin zs zs.length C) : C = (icells zs).toArray := by
  apply Array.ext_getElem?
  intro j
  by_cases hj : j < zs.length
  · rw [h.2 j hj]; simp
  · rw [Array.getElem?_eq_none (by rw [h.1]; omega), Array.getElem?_eq_none (by simp [icells_len]; omega)]
def Rel19 (zs : List Int) (a : Option Addr) (w : World) (k : Nat) (C : Array Value) (wr : World) : Prop := SlI wr a zs ∧ Blk wr w.heap.size C 2 ∧ Cin zs k C ∧ Below w.heap.size w wr
theorem SlI.setOwn {w wr : World} {a : Option Addr} {zs : List Int} (h : SlI w a zs) (hb : Below w.heap.size w wr) : SlI wr a zs := h.below hb (Nat.le_refl _)
set_option maxRecDepth 100000 in
set_option maxHeartbeats 400000 in
theorem copy19 (zs : List Int) (a : Option Addr) (cap : Nat) (w : World) (hs : SlI w a zs) (hl : zs.length ≤ 1048576) :
    Calls Try.prog 15 #[.slice a zs.length cap] w fun e w' => e = .returned (.slice (some ⟨w.heap.size, 0, none⟩) zs.length zs.length) ∧ Blk w' w.heap.size (icells zs).toArray 2 ∧ Below w.heap.size w w' := by
  have hmk := make29 zs.length hl
  go_enter Try.func15, Try.ntmps15
  go_wp2_with fail
  go_loopw [4] (fun i wr => ∃ k : Nat, k ≤ zs.length ∧ i = .int .i64 k ∧ ∃ C, Rel19 zs a w k C wr) (fun i _ => zs.length - (intOf i).toNat)
  case atStart =>
    have hb : Below w.heap.size w (w.alloc (.cells (zrow zs.length) 2)) := (Below.refl _ _).alloc (Nat.le_refl _) _
    exact ⟨0, by omega, rfl, _, hs.below hb (Nat.le_refl _), Blk.new _ _ _ _ rfl, ⟨zrow_size _, fun j hj => absurd hj (by omega)⟩, hb⟩
  case round =>
    obtain ⟨k, hk, rfl, C, HR⟩ := hrel
    by_cases hlt : k < zs.length
    · rcases HR.1 with hz | ⟨b, off, ha, hc⟩
      · subst hz; simp at hlt
      · subst ha
        have hck := hc k hlt
        obtain ⟨z, hz⟩ : ∃ z, z = zs.getD k 0 := ⟨_, rfl⟩
        rw [← hz] at hck
        obtain ⟨old, ho⟩ : ∃ old, wr.cell? ⟨w.heap.size, k, none⟩ = some old := ⟨_, HR.2.1.cell (Array.getElem?_eq_getElem (by rw [HR.2.2.1.1]; exact hlt))⟩
        have hf := HR.2.1.fro k
        have hst := HR.2.2.1.step hlt
        rw [← hz] at hst
        have hbe := HR.2.2.2.setCell (p := ⟨w.heap.size, k, none⟩) (Nat.le_refl _) (.int .i64 z)
        have K := hidd (show Rel19 zs (some ⟨b, off, none⟩) w (k + 1) _ _ from ⟨hs.below hbe (Nat.le_refl _), HR.2.1.same k (.int .i64 z), hst, hbe⟩)
        have HS := hidd hs
        clear hz hc hst hbe HR hs
        go_wp2_with fail
        go_roundw
        case rel => exact ⟨k + 1, by omega, by go_num, _, K.out⟩
        case measure => simp [intOf]; omega
    · have hke : k = zs.length := by omega
      subst hke
      have hC := HR.2.2.1.done
      subst hC
      go_wp2_with fail
      go_ret
      exact ⟨rfl, HR.2.1, HR.2.2.2⟩
def Rel22 (zs : List Int) (a b : Option Addr) (w : World) (wr : World) : Prop := SlI wr a zs ∧ SlI wr b zs ∧ Below w.heap.size w wr
set_option maxRecDepth 100000 in
set_option maxHeartbeats 400000 in
theorem eq22 (zs : List Int) (a b : Option Addr) (cap cap' : Nat) (w : World) (hs : SlI w a zs) (ht : SlI w b zs) (hl : zs.length ≤ 1048576) :
    Calls Try.prog 18 #[.slice a zs.length cap, .slice b zs.length cap'] w fun e w' => e = .returned (.bool true) ∧ Below w.heap.size w w' := by
  have hne : ((zs.length : Int) != (zs.length : Int)) = false := by simp
  go_enter Try.func18, Try.ntmps18
  go_wp2_with fail
  go_loopw [5] (fun i wr => ∃ k : Nat, k ≤ zs.length ∧ i = .int .i64 k ∧ Rel22 zs a b w wr) (fun i _ => zs.length - (intOf i).toNat)
  case atStart => exact ⟨0, by omega, rfl, hs, ht, Below.refl _ _⟩
  case round =>
    obtain ⟨k, hk, rfl, HR⟩ := hrel
    by_cases hlt : k < zs.length
    · rcases HR.1 with hz | ⟨x, o, ha, hc⟩
      · subst hz; simp at hlt
      · rcases HR.2.1 with hz | ⟨y, p, hb, hd⟩
        · subst hz; simp at hlt
        · subst ha
          subst hb
          have hck := hc k hlt
          have hdk := hd k hlt
          obtain ⟨z, hz⟩ : ∃ z, z = zs.getD k 0 := ⟨_, rfl⟩
          rw [← hz] at hck hdk
          have hzz : (z != z) = false := by simp
          have K := hidd HR
          clear hz hc hd HR hs ht
          go_wp2_with fail
          go_quiet (fail)
          go_wp2
          go_roundw
          case rel => exact ⟨k + 1, by omega, by go_num, K.out.1.below (below_drewN (Below.refl _ _) _) (Nat.le_refl _), K.out.2.1.below (below_drewN (Below.refl _ _) _) (Nat.le_refl _), below_drewN K.out.2.2 _⟩
          case measure => simp [intOf]; omega
    · have hke : k = zs.length := by omega
      subst hke
      go_wp2_with fail
      go_ret
      exact ⟨rfl, HR.2.2⟩
set_option maxRecDepth 100000 in
set_option maxHeartbeats 400000 in
theorem all51 (zs : List Int) (a : Option Addr) (cap : Nat) (k : Int) (w : World) (hs : SlI w a zs) (hl : zs.length ≤ 9223372036854775807) :
    Calls Try.prog 85 #[.slice a zs.length cap, .int .i64 k] w fun e w' => e = .returned (.bool (allB zs k)) ∧ w = w' := by
  go_enter Try.func85, Try.ntmps85
  go_wp2_with fail
  go_loop [9] (fun i => ∃ j : Nat, j ≤ zs.length ∧ i = .int .i64 j ∧ ∀ m, m < j → belowB (zs.getD m 0) k = true) (fun i => zs.length - (intOf i).toNat)
  case atStart => exact ⟨0, by omega, rfl, fun m hm => absurd hm (by omega)⟩
  case round =>
    obtain ⟨j, hj, rfl, hall⟩ := hrel
    have HA := hidd hall
    clear hall
    by_cases hlt : j < zs.length
    · rcases hs with hs | ⟨b, off, rfl, hc⟩
      · subst hs; simp at hlt
      · have hcj := hc j hlt
        obtain ⟨z, hz⟩ : ∃ z, z = zs.getD j 0 := ⟨_, rfl⟩
        rw [← hz] at hcj
        have HZ := hidd hz
        have HC := hidd hc
        clear hz hc
        cases hb : belowB z k with
        | true =>
          have HB := hidd hb
          clear hb
          go_wp2_with (go_at_call 97; refine (below61 _ _ _).mono ?_; rintro e w' ⟨rfl, rfl⟩; rw [HB.out])
          go_round
          case rel => exact ⟨j + 1, by omega, by go_num, fun m hm => by
            by_cases e : m = j
            · subst e; rw [← HZ.out]; exact HB.out
            · exact HA.out m (by omega)⟩
          case measure => simp [intOf]; omega
        | false =>
          have HB := hidd hb
          have H := hidd (allB_no hlt (by rw [← HZ.out]; exact hb))
          clear hb
          go_wp2_with (go_at_call 97; refine (below61 _ _ _).mono ?_; rintro e w' ⟨rfl, rfl⟩; rw [HB.out])
          go_ret
          exact ⟨by rw [H.out]; rfl, rfl⟩
    · have hje : j = zs.length := by omega
      subst hje
      have H := hidd (allB_yes HA.out)
      go_wp2_with fail
      go_ret
      exact ⟨by rw [H.out]; rfl, rfl⟩
end Go.Proofs.Ytikcmgmgdbbcfaa

/- hasTriangle: the program's search for a triangle of a player. -/
import Derived.Test.YtidengcihakijaaItt
namespace Go.Proofs.Ytidengcihakijaa
set_option linter.unusedVariables false
set_option linter.unusedSimpArgs false
open Go Go.RowKit Go.Shelf
attribute [local go_sem] Oper.semAt_some
theorem iter74 (P : Int) (hP : P = 0 ∨ P = 1) (m : Nat) (zs : List Int) (N : Nat) (hN1 : 1 ≤ N) (hN : N ≤ 5) (hlen : zs.length = eN N) (Bp Bq : Nat) (w : World) (hC : Cap7 zs N P Bp Bq w) :
    Gives (m + 1) 67 #[.pointer (some ⟨Bp, 0, none⟩), .pointer (some ⟨Bq, 0, none⟩)] encT [Bp, Bq] (triK P zs N) w := by
  rcases hP with rfl | rfl
  · exact iter74_0 m zs N hN1 hN hlen Bp Bq w hC
  · exact iter74_1 m zs N hN1 hN hlen Bp Bq w hC
/-- A position as the program holds it. -/
def psL (N : Nat) (zs : List Int) : Value := psV (N : Int) (tkn 0 zs zs.length) (tkn 1 zs zs.length)
set_option maxRecDepth 100000 in
set_option maxHeartbeats 2000000 in
theorem has57 (P : Int) (hP : P = 0 ∨ P = 1) (zs : List Int) (N : Nat) (hN1 : 1 ≤ N) (hN : N ≤ 5) (hlen : zs.length = eN N) (w : World) :
    Calls Try.prog 55 #[psL N zs, .int .i64 P] w fun e w' => e = .returned (.bool (!(triK P zs N).isEmpty)) ∧ Below w.heap.size w w' := by
  have HIT0 := hidd (fun m Bp Bq w => iter74 P hP m zs N hN1 hN hlen Bp Bq w)
  unfold psL
  have h67 := fun w => tri67 (N : Int) (tkn 0 zs zs.length) (tkn 1 zs zs.length) P w
  unfold Cap7 psZ at HIT0
  obtain ⟨t0, ht0⟩ : ∃ t, t = tkn 0 zs zs.length := ⟨_, rfl⟩
  obtain ⟨t1, ht1⟩ : ∃ t, t = tkn 1 zs zs.length := ⟨_, rfl⟩
  rw [← ht0, ← ht1] at HIT0 h67
  rw [← ht0, ← ht1, psV_eq]
  clear ht0 ht1 hlen hP
  have HT := hidd h67
  clear h67
  refine (callsIn_wide (n := 4)).1 (callsIn_of_wp_marks Try.func55 rfl trivial ?_ rfl)
  simp only [Try.ntmps55, List.size_toArray, List.length_cons, List.length_nil, Nat.reduceAdd, Nat.reduceSub, Array.replicate_succ, Array.replicate_zero, List.push_toArray, List.append_toArray, List.nil_append, List.cons_append]
  gi_wp2_with fail
  refine ⟨trivial, (callsIn_wide.2 (HT.out _)).mono ?_⟩
  rintro e w1 ⟨rfl, f1, f2, hb1⟩
  have hz : ((w.alloc (Obj.cells #[Value.int .i64 (N : Int), Value.int .u16 (t0 : Int), Value.int .u16 (t1 : Int)] 44)).alloc (Obj.cells #[Value.bool false] 4)).heap.size = w.heap.size + 1 + 1 := by simp
  have hB0 : Below w.heap.size w ((w.alloc (Obj.cells #[Value.int .i64 (N : Int), Value.int .u16 (t0 : Int), Value.int .u16 (t1 : Int)] 44)).alloc (Obj.cells #[Value.bool false] 4)) := ((Below.refl _ _).alloc (Nat.le_refl _) _).alloc (by simp) _
  have hR0 : Blk ((w.alloc (Obj.cells #[Value.int .i64 (N : Int), Value.int .u16 (t0 : Int), Value.int .u16 (t1 : Int)] 44)).alloc (Obj.cells #[Value.bool false] 4)) (w.heap.size + 1) #[.bool false] 4 := Blk.new _ _ _ _ (by simp)
  rw [hz] at f1 f2 hb1 ⊢
  have hR1 : Blk w1 (w.heap.size + 1) #[.bool false] 4 := hR0.below hb1 (by omega)
  have hB1 : Below w.heap.size w w1 := hB0.trans (hb1.mono (by omega))
  have hw1 : w.heap.size + 1 + 1 + 1 < w1.heap.size := f2.lt
  have HIT := hidd (HIT0.out 1 _ _ w1 ⟨f1, f2⟩)
  have HR := hidd (And.intro hR1 hB1)
  have HS1 := hidd (show Stab w1.heap.size (fun (pre : List Nat) Wx => pre = [] ∧ Blk Wx (w.heap.size + 1) #[.bool false] 4 ∧ Below w.heap.size w Wx) from
    fun pre A A' h hb => ⟨h.1, h.2.1.below hb (by omega), h.2.2.trans (hb.mono (by omega))⟩)
  have HS2 := hidd (show Stab w1.heap.size (fun (pre : List Nat) Wx => Blk Wx (w.heap.size + 1) #[.bool true] 4 ∧ Below w.heap.size w Wx) from
    fun pre A A' h hb => ⟨h.1.below hb (by omega), h.2.trans (hb.mono (by omega))⟩)
  clear f1 f2 hb1 hz hB0 hR0 hR1 hB1
  gi_wp2_with fail
  refine range_gives rfl (enters_of Try.func67 (by kernel_rfl) rfl) HIT.out (fun b hb => by simp only [List.mem_cons, List.not_mem_nil, or_false] at hb; omega) (fun _ => rfl)
    (fun (pre : List Nat) Wx => pre = [] ∧ Blk Wx (w.heap.size + 1) #[.bool false] 4 ∧ Below w.heap.size w Wx) (fun (pre : List Nat) Wx => Blk Wx (w.heap.size + 1) #[.bool true] 4 ∧ Below w.heap.size w Wx) HS1.out HS2.out.x ⟨rfl, HR.out.1, HR.out.2⟩
    (fun x a' Wx => a' = { tmps := #[.agg #[.int .i64 (N : Int), .int .u16 (t0 : Int), .int .u16 (t1 : Int)], .int .i64 P, .pointer (some ⟨w.heap.size, 0, none⟩), undef, .pointer (some ⟨w.heap.size + 1, 0, none⟩), .agg #[.int .i64 (N : Int), .int .u16 (t0 : Int), .int .u16 (t1 : Int)], .int .i64 P, .func (.func 67) #[] #[.pointer (some ⟨w.heap.size + 1 + 1, 0, none⟩), .pointer (some ⟨w.heap.size + 1 + 1 + 1, 0, none⟩)], .int .u16 (x : Int)], defers := [] })
    (fun x a' A l' o o' h _ _ => h) ?assign ?body ?done ?stop
  case assign =>
    intro l' pre x rest Wx Kx' hall hI hs hK
    have HK := hidd hK
    clear hK hI
    dsimp only [encT]
    gi_wp2
    exact HK.out _ _ (Below.refl _ _) (by first | (simp; done) | kernel_rfl)
  case body =>
    rintro l' pre x rest a' Wx hall hs hI rfl
    have hc := hI.2.1.cell (j := 0) (show _ = some (Value.bool false) from rfl)
    have hf := hI.2.1.fro 0
    have K := hidd (show Kx [w.heap.size + 1 + 1, w.heap.size + 1 + 1 + 1] w1.heap.size Wx (Wx.setCell ⟨w.heap.size + 1, 0, none⟩ (.bool true)) ∧ Blk (Wx.setCell ⟨w.heap.size + 1, 0, none⟩ (.bool true)) (w.heap.size + 1) #[.bool true] 4 ∧ Below w.heap.size w (Wx.setCell ⟨w.heap.size + 1, 0, none⟩ (.bool true)) from
      ⟨⟨by simp [World.setCell], fun k hk hb => heap_setCell_other Wx ⟨w.heap.size + 1, 0, none⟩ k (.bool true) (by
        show k ≠ w.heap.size + 1
        rcases hb with hb | hb
        · omega
        · simp only [List.mem_cons, List.not_mem_nil, or_false] at hb; omega)⟩, hI.2.1.same 0 (.bool true), hI.2.2.setCell (by show w.heap.size ≤ w.heap.size + 1; omega) _⟩)
    clear hI
    gi_wp2
    exact K.out
  case done =>
    intro D Wx hD hI hdef
    have hc := hI.2.1.cell (j := 0) (show _ = some (Value.bool false) from rfl)
    have hf := hI.2.1.fro 0
    have hM := hidd (show Mks w1.heap.size [D] (Wx.setCell ⟨w.heap.size + 1, 0, none⟩ (.bool false)) from (Mks.nil _ _).cons hD (by simp) ((heap_setCell_other Wx ⟨w.heap.size + 1, 0, none⟩ D (.bool false) (by show D ≠ w.heap.size + 1; omega)).trans hdef))
    have hB := hidd (And.intro (hI.2.1.same 0 (.bool false)) (hI.2.2.setCell (p := ⟨w.heap.size + 1, 0, none⟩) (by show w.heap.size ≤ w.heap.size + 1; omega) (.bool false)))
    have HE := hidd (show triK P zs N = [] from hI.1)
    clear hI hdef
    gi_wp2
    refine leave_marks (B := w1.heap.size) (v := .bool false) [D] _ hM.out (fun W' hb _ => ⟨?_, ?_, ?_⟩)
    · have hc2 := (hB.out.1.below hb (by omega)).cell (j := 0) (show _ = some (Value.bool false) from rfl)
      simp [results, Try.results55, go_sem, hc2]
    · rw [HE.out]; rfl
    · exact hB.out.2.trans (hb.mono (by omega))
  case stop =>
    intro D pre x rest Wx hD hall hIx hdef
    have hM := hidd (show Mks w1.heap.size [D] Wx from (Mks.nil _ _).cons hD (by simp) hdef)
    have hB := hidd hIx
    have HE := hidd (show (triK P zs N).isEmpty = false by rw [hall]; cases pre <;> rfl)
    clear hIx hdef hall
    gi_wp2
    refine leave_marks (B := w1.heap.size) (v := .bool true) [D] _ hM.out (fun W' hb _ => ⟨?_, ?_, ?_⟩)
    · have hc2 := (hB.out.1.below hb (by omega)).cell (j := 0) (show _ = some (Value.bool true) from rfl)
      simp [results, Try.results55, go_sem, hc2]
    · rw [HE.out]; rfl
    · exact hB.out.2.trans (hb.mono (by omega))
end Go.Proofs.Ytidengcihakijaa

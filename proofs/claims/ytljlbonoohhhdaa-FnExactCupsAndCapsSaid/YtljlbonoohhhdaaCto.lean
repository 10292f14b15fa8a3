/- Lists of lists: copies, comparison. -/
import Derived.Test.YtljlbonoohhhdaaCsz
namespace Go.Proofs.Ytljlbonoohhhdaa
set_option linter.unusedVariables false
set_option linter.unusedSimpArgs false
open Go Go.RowKit Go.Shelf
attribute [local go_sem] Oper.semAt_some
theorem make40 (n : Nat) (h : n ≤ 1048576) (w : World) : (Instr.makeSlice 40 (.int .i64 n) (.int .i64 n)).run Try.prog w = .ok (.slice (some ⟨w.heap.size, 0, none⟩) n n) (w.alloc (.cells (madeCells #[.slice none 0 0] n) 22)) := by
  obtain ⟨i, hi, hz0, hz1, hz2⟩ := info_parts infoS
  have := run_make (P := Try.prog) w 40 22 i (.slice none 0 0) under40 hi hz0 .i64 .i64 n n (by omega) (by omega) (by rw [hz2]; omega) (by omega)
  rw [this]
  simp only [Int.toNat_natCast, hz1, Nat.mul_one]
  rfl
def RelTo (L : List (List Int)) (w : World) (k : Nat) (wr : World) : Prop :=
  ∃ C, Blk wr w.heap.size C 22 ∧ C.size = L.length ∧ (∀ j, j < k → ∃ b, C[j]? = some (.slice (some ⟨b, 0, none⟩) (L.getD j []).length (L.getD j []).length) ∧ w.heap.size < b ∧ Blk wr b (icells (L.getD j [])).toArray 2) ∧ Below w.heap.size w wr
theorem RelTo.step {L : List (List Int)} {w wr w2 : World} {k : Nat} (h : RelTo L w k wr) (hk : k < L.length) (hb : Below wr.heap.size wr w2) (hB : Blk w2 wr.heap.size (icells (L.getD k [])).toArray 2) :
    RelTo L w (k + 1) (w2.setCell ⟨w.heap.size, k, none⟩ (.slice (some ⟨wr.heap.size, 0, none⟩) (L.getD k []).length (L.getD k []).length)) := by
  obtain ⟨C, h1, h2, h3, h4⟩ := h
  have hlt := h1.lt
  refine ⟨_, (h1.below hb hlt).same k _, by simpa using h2, fun j hj => ?_, (h4.trans (hb.mono h4.size)).setCell (p := ⟨w.heap.size, k, none⟩) (Nat.le_refl _) _⟩
  by_cases e : k = j
  · subst e
    exact ⟨wr.heap.size, by rw [Array.getElem?_setIfInBounds_self_of_lt (by omega)], hlt, hB.other _ _ (by show _ ≠ w.heap.size; omega)⟩
  · obtain ⟨b, hb1, hb2, hb3⟩ := h3 j (by omega)
    exact ⟨b, by rw [Array.getElem?_setIfInBounds_ne e]; exact hb1, hb2, (hb3.below hb hb3.lt).other _ _ (by show b ≠ w.heap.size; omega)⟩
theorem RelTo.old {L : List (List Int)} {w wr : World} {k : Nat} (h : RelTo L w k wr) {j : Nat} (hj : j < L.length) : (∃ v, wr.cell? ⟨w.heap.size, j, none⟩ = some v) ∧ wr.frozen? ⟨w.heap.size, j, none⟩ = false := by
  obtain ⟨C, h1, h2, h3, h4⟩ := h
  exact ⟨⟨_, h1.cell (Array.getElem?_eq_getElem (by omega))⟩, h1.fro j⟩
theorem RelTo.done {L : List (List Int)} {w wr : World} (h : RelTo L w L.length wr) : LLa wr (some ⟨w.heap.size, 0, none⟩) L := by
  obtain ⟨C, h1, h2, h3, h4⟩ := h
  refine .inr ⟨w.heap.size, 0, rfl, fun j hj => ?_⟩
  obtain ⟨b, hb1, hb2, hb3⟩ := h3 j hj
  exact ⟨some ⟨b, 0, none⟩, _, by rw [Nat.zero_add]; exact h1.cell hb1, sl_of_blk hb3⟩
set_option maxRecDepth 100000 in
set_option maxHeartbeats 1000000 in
theorem to19 (L : List (List Int)) (a : Option Addr) (cap : Nat) (w : World) (hs : LLa w a L) (hm : Sml L) :
    Calls Try.prog 19 #[.slice a L.length cap] w fun e w' => e = .returned (.slice (some ⟨w.heap.size, 0, none⟩) L.length L.length) ∧ LLa w' (some ⟨w.heap.size, 0, none⟩) L ∧ Below w.heap.size w w' := by
  have hmk := make40 L.length hm.1
  have HS := hidd hs
  have HM := hidd hm.2
  have hml := hm.1
  have HR0 := hidd (show RelTo L w 0 (w.alloc (.cells (madeCells #[.slice none 0 0] L.length) 22)) from ⟨_, Blk.new _ _ _ _ rfl, size_madeCells _ _, fun j hj => by omega, (Below.refl _ _).alloc (Nat.le_refl _) _⟩)
  clear hs hm
  go_enter Try.func19, Try.ntmps19
  go_wp2_with fail
  go_loopw [4] (fun e wr => ∃ k : Nat, k ≤ L.length ∧ e = .int .i64 (k : Int) ∧ Hid (RelTo L w k wr)) (fun e _ => L.length - (intOf e).toNat)
  case atStart => exact ⟨0, Nat.zero_le _, rfl, HR0⟩
  case round =>
    obtain ⟨k, hk, rfl, HR⟩ := hrel
    by_cases hlt : k < L.length
    · have hbw : Below w.heap.size w wr := by obtain ⟨C, _, _, _, h⟩ := HR.out; exact h
      rcases HS.out with hz | ⟨g, o, ha, hc⟩
      · subst hz; simp at hlt
      subst ha
      obtain ⟨b, c, hcell0, hsl⟩ := hc k hlt
      have hcell := (hbw.cell (p := ⟨g, o + k, none⟩) (block_lt_of_cell hcell0)).trans hcell0
      have HCP := hidd (copy19 (L.getD k []) b c wr (hsl.below hbw (Nat.le_refl _)) (HM.out k hlt))
      have HST := hidd (fun w2 => HR.out.step (w2 := w2) hlt)
      have HOL := hidd (fun w2 (hb : Below wr.heap.size wr w2) => (show (∃ v, w2.cell? ⟨w.heap.size, k, none⟩ = some v) ∧ w2.frozen? ⟨w.heap.size, k, none⟩ = false by
        obtain ⟨C, h1, h2, h3, h4⟩ := HR.out
        have h5 := h1.below hb h1.lt
        exact ⟨⟨_, h5.cell (Array.getElem?_eq_getElem (by omega))⟩, h5.fro k⟩))
      clear hc hcell0 hsl hbw
      obtain ⟨z, hz⟩ : ∃ z, z = L.getD k [] := ⟨_, rfl⟩
      rw [← hz] at hcell HCP HST
      clear hz
      go_wp2_with fail
      refine HCP.out.mono ?_
      rintro e w2 ⟨rfl, hB, hb⟩
      have HN := hidd (HST.out w2 hb hB)
      obtain ⟨⟨old, ho⟩, hf⟩ := HOL.out w2 hb
      clear hB hb hcell
      go_wp2_with fail
      go_roundw
      case rel => exact ⟨k + 1, by omega, by go_num, HN⟩
      case measure => simp [intOf]; omega
    · obtain rfl : k = L.length := by omega
      go_wp2_with fail
      go_ret
      exact ⟨rfl, HR.out.done, by obtain ⟨C, _, _, _, h⟩ := HR.out; exact h⟩
set_option maxRecDepth 100000 in
set_option maxHeartbeats 1000000 in
theorem eq21 (L : List (List Int)) (a b : Option Addr) (cap cap' : Nat) (w : World) (hs : LLa w a L) (ht : LLa w b L) (hm : Sml L) :
    Calls Try.prog 21 #[.slice a L.length cap, .slice b L.length cap'] w fun e w' => e = .returned (.bool true) ∧ Below w.heap.size w w' := by
  have hne : ((L.length : Int) != (L.length : Int)) = false := by simp
  have HS := hidd hs
  have HT := hidd ht
  have HM := hidd hm
  have hml := hm.1
  clear hs ht hm
  go_enter Try.func21, Try.ntmps21
  go_wp2_with fail
  go_loopw [5] (fun e wr => ∃ k : Nat, k ≤ L.length ∧ e = .int .i64 (k : Int) ∧ Hid (Below w.heap.size w wr)) (fun e _ => L.length - (intOf e).toNat)
  case atStart => exact ⟨0, Nat.zero_le _, rfl, Below.refl _ _⟩
  case round =>
    obtain ⟨k, hk, rfl, HR⟩ := hrel
    by_cases hlt : k < L.length
    · rcases HS.out with hz | ⟨g, o, ha, hc⟩
      · subst hz; simp at hlt
      rcases HT.out with hz | ⟨g2, o2, hb, hd⟩
      · subst hz; simp at hlt
      subst ha
      subst hb
      obtain ⟨b1, c1, p1, s1⟩ := hc k hlt
      obtain ⟨b2, c2, p2, s2⟩ := hd k hlt
      have q1 := (HR.out.cell (p := ⟨g, o + k, none⟩) (block_lt_of_cell p1)).trans p1
      have q2 := (HR.out.cell (p := ⟨g2, o2 + k, none⟩) (block_lt_of_cell p2)).trans p2
      have hzl := HM.out.2 k hlt
      obtain ⟨z, hz⟩ : ∃ z, z = L.getD k [] := ⟨_, rfl⟩
      rw [← hz] at q1 q2 s1 s2 hzl
      have HEQ := hidd (fun wX (h : Below w.heap.size w wX) => eq22 z b1 b2 c1 c2 wX (s1.below h (Nat.le_refl _)) (s2.below h (Nat.le_refl _)) hzl)
      clear hz hc hd p1 p2 s1 s2 hzl
      go_wp2_with fail
      refine wp_region_quiet_at (fun w' => Below wr.heap.size wr w') rfl (by kernel_rfl) ((Below.refl _ _).drew) ?_
      refine qs rfl (fun KQ hKQ => ?_)
      apply Exists.intro
      refine ⟨fun w' hw' => ?_, ?_⟩
      · go_simp; exact rfl
      go_simp
      refine hKQ _ ?_
      clear hKQ KQ
      refine qs rfl (fun KQ hKQ => ?_)
      apply Exists.intro
      refine ⟨fun w' hw' => ?_, ?_⟩
      · go_simp; exact rfl
      go_simp
      refine hKQ _ ?_
      clear hKQ KQ
      refine qs rfl (fun KQ hKQ => ?_)
      apply Exists.intro
      refine ⟨fun w' hw' => ?_, ?_⟩
      · go_simp; exact rfl
      go_simp
      refine hKQ _ ?_
      clear hKQ KQ
      refine qs rfl (fun KQ hKQ => ?_)
      apply Exists.intro
      refine ⟨fun w' hw' => ?_, ?_⟩
      · have hc := (hw'.cell (p := ⟨g, o + k, none⟩) (block_lt_of_cell q1)).trans q1; go_simp; exact rfl
      go_simp
      refine hKQ _ ?_
      clear hKQ KQ
      refine qs rfl (fun KQ hKQ => ?_)
      apply Exists.intro
      refine ⟨fun w' hw' => ?_, ?_⟩
      · go_simp; exact rfl
      go_simp
      refine hKQ _ ?_
      clear hKQ KQ
      refine qs rfl (fun KQ hKQ => ?_)
      apply Exists.intro
      refine ⟨fun w' hw' => ?_, ?_⟩
      · go_simp; exact rfl
      go_simp
      refine hKQ _ ?_
      clear hKQ KQ
      refine qs rfl (fun KQ hKQ => ?_)
      apply Exists.intro
      refine ⟨fun w' hw' => ?_, ?_⟩
      · go_simp; exact rfl
      go_simp
      refine hKQ _ ?_
      clear hKQ KQ
      refine qs rfl (fun KQ hKQ => ?_)
      apply Exists.intro
      refine ⟨fun w' hw' => ?_, ?_⟩
      · have hc := (hw'.cell (p := ⟨g2, o2 + k, none⟩) (block_lt_of_cell q2)).trans q2; go_simp; exact rfl
      go_simp
      refine hKQ _ ?_
      clear hKQ KQ
      refine qs rfl (fun KQ hKQ => ?_)
      apply Exists.intro
      refine ⟨fun w' hw' => ?_, ?_⟩
      · go_simp; exact (HEQ.out _ (HR.out.trans (hw'.mono HR.out.size))).mono fun _ _ h => ⟨h.1, hw'.trans (h.2.mono hw'.size)⟩
      go_simp
      refine hKQ _ ?_
      clear hKQ KQ
      refine qs rfl (fun KQ hKQ => ?_)
      apply Exists.intro
      refine ⟨fun w' hw' => ?_, ?_⟩
      · go_simp; exact rfl
      go_simp
      refine hKQ _ ?_
      clear hKQ KQ
      refine wpQuiet_nil ?_
      intro w' hw'
      have HN := hidd (HR.out.trans (hw'.mono HR.out.size))
      clear hw' q1 q2
      go_wp2_with fail
      go_roundw
      case rel => exact ⟨k + 1, by omega, by go_num, HN⟩
      case measure => simp [intOf]; omega
    · obtain rfl : k = L.length := by omega
      go_wp2_with fail
      go_ret
      exact ⟨rfl, HR.out⟩
end Go.Proofs.Ytljlbonoohhhdaa

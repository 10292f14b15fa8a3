/- points(): the points of a set as a list, ascending. -/
import Derived.Test.YtkiocedhibeieaaDoorTz
namespace Go.Proofs.YtkiocedhibeieaaDoor
set_option linter.unusedVariables false
set_option linter.unusedSimpArgs false
open Go Go.RowKit Go.Shelf
theorem make0 (n : Nat) (h : n ≤ 1048576) (w : World) : (Instr.makeSlice 25 (.int .i64 0) (.int .i64 n)).run Tryd.prog w = .ok (.slice (some ⟨w.heap.size, 0, none⟩) 0 n) (w.alloc (.cells (zrow n) 2)) := by
  obtain ⟨i, hi, hz0, hz1, hz2⟩ := info_parts info2
  have := run_make (P := Tryd.prog) w 25 2 i (.int .i64 0) Tryd.underlying25 hi hz0 .i64 .i64 0 n (by omega) (by omega) (by rw [hz2]; omega) (by omega)
  rw [this, hz1]
  simp [zrow, Value.cells]
def RelPo (w : World) (u : List Nat) (v : Value) (wr : World) : Prop := wr.ownsRow w.heap.size 2 1 v (rv u).length (icells (rv u)) ∧ Below w.heap.size w wr
theorem ones_17 {X : Nat} (h : X < 2 ^ 17) : ones X ≤ 17 := by rw [ones_cnt h]; exact cnt_le _ _
set_option maxRecDepth 100000 in
set_option maxHeartbeats 1000000 in
theorem points47 (s : List Nat) (hs : s.Pairwise (· > ·)) (h17 : ∀ q ∈ s, q < 17) (w : World) (hT : Tz w) (h0 : 0 < w.heap.size) :
    Calls Tryd.prog 47 #[.int .u32 (bitS s : Nat)] w fun e w' => ∃ a cap, e = .returned (.slice a s.length cap) ∧ OwnL w' w.heap.size a (rv s) ∧ Below w.heap.size w w' := by
  have hsz := size34 (bitS s) (bitS_lt _ h17)
  have hsl := ones_17 (bitS_lt _ h17)
  rw [ones_bitS s hs] at hsz hsl
  have HZ := hidd hsz
  have hmk := make0 s.length (by omega)
  obtain ⟨X0, hX0⟩ : ∃ X0, X0 = bitS s := ⟨_, rfl⟩
  obtain ⟨t0, hi2, hz0, hz1, hz3⟩ := info_parts info2
  have HIF := hidd (And.intro hi2 (And.intro hz0 (And.intro hz1 hz3)))
  rw [← hX0] at HZ ⊢
  have HX0 := hidd hX0
  have HT := hidd hT
  have HSS := hidd (And.intro hs h17)
  clear hsz hi2 hz0 hz1 hz3 hX0 hT hs h17
  go_enter Tryd.func47, Tryd.ntmps47
  go_wp2_with (go_at_call 55; refine (HZ.out _).mono ?_; rintro e w' ⟨rfl, rfl⟩)
  clear hmk
  go_loopw [3, 4] (fun v r wr => ∃ t u, s = t ++ u ∧ r = .int .u32 (bitS t : Nat) ∧ Hid (RelPo w u v wr)) (fun _ r _ => (intOf r).toNat)
  case atStart =>
    refine ⟨s, [], by simp, by rw [HX0.out], ⟨rfl, .inr ⟨w.heap.size, s.length, zrow s.length, rfl, Nat.le_refl _, ?_, ?_, ?_, ?_, ?_⟩⟩, ((Below.refl _ _).drew).alloc (Nat.le_refl _) _⟩
    · exact Blk.new _ _ _ _ rfl
    · simp [rv]
    · simp [maxLen]; omega
    · simp [zrow_size]
    · simp [rv, icells]
  case round =>
    obtain ⟨t, u, hst, rfl, HR⟩ := hrel
    rcases List.eq_nil_or_concat t with rfl | ⟨t', q, rfl⟩
    · have hx : ((bitS [] : Nat) : Int) = 0 := rfl
      obtain rfl : s = u := hst
      obtain ⟨a, cap, rfl, ho⟩ := own_list HR.out.1
      have K := hidd (And.intro ho HR.out.2)
      rw [hx]
      clear hx ho
      rw [rv_len]
      go_wp2_with fail
      go_ret
      exact ⟨a, cap, rfl, K.out.1, K.out.2⟩
    · rw [List.concat_eq_append] at hst ⊢
      have hbd : ∀ p ∈ t' ++ [q], p < 17 := fun p hp => HSS.out.2 p (by rw [hst]; exact List.mem_append_left _ hp)
      have hpw : ∀ p ∈ t', q < p := by
        have h := HSS.out.1
        rw [hst, List.append_assoc, List.pairwise_append] at h
        exact fun p hp => h.2.2 p hp q (by simp)
      obtain ⟨m, hm, hctz⟩ := low_form hpw hbd
      have hand := low_drop hpw hbd
      have hX17 := bitS_lt _ hbd
      have hX1 : 1 ≤ bitS (t' ++ [q]) := Nat.one_le_iff_ne_zero.2 fun e => by have := bitS_zero.1 e; simp at this
      have hTZ := fun W hW => tz32 (bitS (t' ++ [q])) (by omega) (by omega) W hW
      rw [hctz] at hTZ
      obtain ⟨X, hX⟩ : ∃ X, X = bitS (t' ++ [q]) := ⟨_, rfl⟩
      rw [← hX] at hTZ hX17 hX1 hand ⊢
      have hY : bitS t' ≤ X - 1 := by rw [← hand]; exact Nat.and_le_right
      obtain ⟨Y, hYY⟩ : ∃ Y, Y = bitS t' := ⟨_, rfl⟩
      rw [← hYY] at hand hY
      have hbt : bits .and .u32 (X : Int) ((X : Int) - 1) = (Y : Int) := by
        rw [show (X : Int) - 1 = ((X - 1 : Nat) : Int) by omega, u32_andn X _ (by omega) (by omega), hand]
      have hrv : rv (q :: u) = rv u ++ [(q : Int)] := rv_cons q u
      have HTZ := hidd hTZ
      have HQ := hidd (And.intro hst (And.intro hYY hrv))
      have hlu : (rv u).length ≤ 17 := by rw [rv_len]; have := congrArg List.length hst; simp at this; omega
      clear hm hctz hand hX hTZ hst hYY hrv hbd hpw
      have HTW := hidd (HT.out.below HR.out.2 h0)
      go_wp2_with fail
      refine (HTZ.out _ HTW.out).mono ?_
      rintro e w' ⟨rfl, rfl⟩
      have hown := HR.out.1
      have hsz := HR.out.2.size
      go_wp2_with (at_builtin; refine wpList_append_own _ rfl _ _ 25 rfl w.heap.size 2 t0 (.int .i64 0) 1 8 Tryd.underlying25 HIF.out.1 HIF.out.2.1 HIF.out.2.2.1 HIF.out.2.2.2 rfl (by decide) _ _ _ rfl (hown.alloc _) ⟨wr.heap.size, 0, none⟩ 1 1 [.int .i64 (q : Int)] rfl rfl ?c1 ?c2 ?c3 ?c4 ?c5 ?_)
      case c1 => exact one_new _ _ _
      case c2 => intro u hu; simp at hu; subst hu; rfl
      case c3 => unfold maxLen; omega
      case c4 => omega
      case c5 => simp; omega
      intro v' w2 hown' hgrow _
      have K3 := hidd (show RelPo w (q :: u) v' w2 from ⟨by rw [HQ.out.2.2, icells_app, List.length_append]; exact hown', HR.out.2.trans ((grown_step hown hgrow (by omega)).mono (by omega))⟩)
      clear hown' hgrow hown
      go_wp2
      go_roundw
      case rel => exact ⟨t', q :: u, by rw [HQ.out.1]; simp, by rw [← HQ.out.2.1], K3.out⟩
      case measure => simp [intOf]; omega
end Go.Proofs.YtkiocedhibeieaaDoor

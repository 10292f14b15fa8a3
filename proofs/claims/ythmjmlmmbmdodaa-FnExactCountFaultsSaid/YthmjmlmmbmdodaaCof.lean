/- CountFaults: the program. -/
import Derived.Test.YthmjmlmmbmdodaaImf
namespace Go.Proofs.Ythmjmlmmbmdodaa
set_option linter.unusedVariables false
set_option linter.unusedSimpArgs false
open Go Go.RowKit Go.Shelf
attribute [local go_sem] Oper.semAt_some
set_option maxRecDepth 100000 in
set_option maxHeartbeats 2000000 in
theorem impl20f (k : Int) (zs : List Int) (kind : Int) (b : Nat) (cap : Nat) (w : World) (hbw : b < w.heap.size) (hs : SlI w (some ⟨b, 0, none⟩) zs) (hl : zs.length ≤ 9223372036854775807) :
    Calls Try.prog 20 #[.int .i64 k, .slice (some ⟨b, 0, none⟩) zs.length cap, .int .i64 kind] w fun e w' => e = .returned (.tuple #[.int .i64 (cfVal k zs kind), .int .i64 (ptCode k zs kind)]) ∧ Below w.heap.size w w' := by
  have HSL := hidd hs
  clear hs
  rcases pt_cases k zs kind with hc | ⟨hc, hp, k0, k2⟩
  · have HC := hidd hc
    have HE := hidd (enO_2 hc)
    have HV := hidd (show cfVal k zs kind = 0 by unfold cfVal; rw [hc]; rfl)
    clear hc
    go_enter Try.func20, Try.ntmps20
    go_wp2_with (go_at_call 35; refine (enter35 _ _ _ _ _ _ HSL.out hl).mono ?_; rintro e w' ⟨rfl, rfl⟩; rw [HE.out])
    go_ret2
    exact ⟨by rw [HV.out, HC.out]; rfl, Below.refl _ _⟩
  · have HC := hidd hc
    obtain ⟨T, tv, hkv⟩ := kindV_if kind
    have HE := hidd (enO_0 hc)
    obtain ⟨p1, p2, p3, p4⟩ := partB_bd hp
    have HV := hidd (show cfVal k zs kind = ((FT zs kind).length : Int) by unfold cfVal; rw [hc, if_pos rfl])
    have HFL := hidd (show (FT zs kind).length ≤ 1722 by
      have h1 := fsL_len zs kind 1 zs.length
      have h2 : zs.length * (1 + zs.length) ≤ 42 * 41 := Nat.mul_le_mul (by omega) (by omega)
      unfold FT; omega)
    have HKV := hidd hkv
    rw [hkv] at HE
    have hl41 : zs.length ≤ 41 := by omega
    clear hc hp p4 hkv
    refine (callsIn_wide (n := 3)).1 (callsIn_of_wp_marks Try.func20 rfl trivial ?_ rfl)
    simp only [Try.ntmps20, List.size_toArray, List.length_cons, List.length_nil, Nat.reduceAdd, Nat.reduceSub, Array.replicate_succ, Array.replicate_zero, List.push_toArray, List.append_toArray, List.nil_append, List.cons_append]
    gi_wp2_with fail
    refine ⟨trivial, (callsIn_wide.2 (enter35 _ _ _ _ _ _ HSL.out hl)).mono ?_⟩
    rintro e w' ⟨rfl, rfl⟩
    rw [HE.out]
    gi_wp2_with fail
    refine ⟨trivial, (callsIn_wide.2 (of37 _ _ _ _ _ _)).mono ?_⟩
    rintro e w1 ⟨rfl, f1, f2, hb1⟩
    have hz : (w.alloc (Obj.cells #[Value.int .i64 0] 2)).heap.size = w.heap.size + 1 := by simp
    rw [hz] at f1 f2 hb1 ⊢
    have hB0 : Below w.heap.size w w1 := ((Below.refl _ _).alloc (Nat.le_refl _) _).trans (hb1.mono (by omega))
    have hR1 : Blk w1 w.heap.size #[.int .i64 0] 2 := (Blk.new w #[.int .i64 0] 2 _ rfl).below hb1 (by omega)
    have hw1 : w.heap.size + 1 + 1 < w1.heap.size := f2.lt
    have hcap : Cap2 zs kind b 0 cap (w.heap.size + 1) (w.heap.size + 1 + 1) w1 := ⟨f1, by rw [HKV.out]; exact f2, HSL.out.below hB0 (Nat.le_refl _)⟩
    have HIT := hidd (iter56 0 zs kind k0 k2 b 0 cap (w.heap.size + 1) (w.heap.size + 1 + 1) w1 hl41 (by omega) hcap)
    have HR := hidd (And.intro hR1 hB0)
    have HS1 := hidd (show Stab w1.heap.size (fun (pre : List Flt) Wx => Blk Wx w.heap.size #[.int .i64 (pre.length : Int)] 2 ∧ Below w.heap.size w Wx) from
      fun pre A A' h hb => ⟨h.1.below hb (by omega), h.2.trans (hb.mono (by omega))⟩)
    have HS2 := hidd (show Stab w1.heap.size (fun (pre : List Flt) (Wx : World) => False) from fun pre A A' h hb => h)
    clear f1 f2 hb1 hz hB0 hR1 hcap
    gi_wp2_with fail
    refine range_gives rfl (enters_of Try.func56 (by kernel_rfl) rfl) HIT.out (fun c hb => by simp only [List.mem_cons, List.not_mem_nil, or_false] at hb; omega) (fun _ => rfl)
      (fun (pre : List Flt) Wx => Blk Wx w.heap.size #[.int .i64 (pre.length : Int)] 2 ∧ Below w.heap.size w Wx) (fun (pre : List Flt) (Wx : World) => False) HS1.out HS2.out.x HR.out
      (fun x a' Wx => a' = { tmps := #[.int .i64 k, .slice (some ⟨b, 0, none⟩) zs.length cap, .int .i64 kind, undef, undef, undef, .int .i64 0, .int .i64 0, .iface T tv, .int .i64 0, .pointer (some ⟨w.heap.size, 0, none⟩), .tuple #[.iface T tv, .int .i64 0], .int .i64 k, .slice (some ⟨b, 0, none⟩) zs.length cap, .int .i64 kind, .tuple #[.iface T tv, .int .i64 0], .iface T tv, .int .i64 0, .int .i64 0, .bool false, undef, .slice (some ⟨b, 0, none⟩) zs.length cap, .iface T tv, .func (.func 56) #[] #[.pointer (some ⟨w.heap.size + 1, 0, none⟩), .pointer (some ⟨w.heap.size + 1 + 1, 0, none⟩)], .agg #[.int .i64 x.1, .int .i64 x.2.1, .int .i64 x.2.2], undef, undef, undef], defers := [] })
      (fun x a' A l' o o' h _ _ => h) ?assign ?body ?done ?stop
    case assign =>
      intro l' pre x rest Wx Kx' hall hI hs hK
      have HK := hidd hK
      clear hK hI
      dsimp only [encF]
      gi_wp2
      exact HK.out _ _ (Below.refl _ _) (by first | (simp; done) | kernel_rfl)
    case body =>
      rintro l' pre x rest a' Wx hall hs hI rfl
      have hcl := hI.1.cell (j := 0) (show _ = some (Value.int .i64 (pre.length : Int)) from rfl)
      have hf := hI.1.fro 0
      have hn : pre.length < 2000 := by
        have h1 := HFL.out
        unfold FT at h1
        rw [hall] at h1; simp at h1; omega
      obtain ⟨n, hn2⟩ : ∃ n, n = pre.length := ⟨_, rfl⟩
      have K := hidd (show Kx [w.heap.size + 1, w.heap.size + 1 + 1, b] w1.heap.size Wx (Wx.setCell ⟨w.heap.size, 0, none⟩ (.int .i64 ((n : Int) + 1))) ∧ Blk (Wx.setCell ⟨w.heap.size, 0, none⟩ (.int .i64 ((n : Int) + 1))) w.heap.size #[.int .i64 ((pre ++ [x]).length : Int)] 2 ∧ Below w.heap.size w (Wx.setCell ⟨w.heap.size, 0, none⟩ (.int .i64 ((n : Int) + 1))) from
        ⟨⟨by simp [World.setCell], fun k hk hb => heap_setCell_other Wx ⟨w.heap.size, 0, none⟩ k _ (by
          show k ≠ w.heap.size
          rcases hb with hb | hb
          · omega
          · simp only [List.mem_cons, List.not_mem_nil, or_false] at hb; omega)⟩, by
            have h := hI.1.same 0 (.int .i64 ((n : Int) + 1))
            rw [show ((pre ++ [x]).length : Int) = (n : Int) + 1 by rw [hn2]; simp]
            exact h, hI.2.setCell (by show w.heap.size ≤ w.heap.size; omega) _⟩)
      rw [← hn2] at hcl hn
      clear hI hall hn2
      gi_wp2
      exact K.out
    case done =>
      intro D Wx hD hI hdef
      have hcl := hI.1.cell (j := 0) (show _ = some (Value.int .i64 ((fsL zs kind 1 zs.length).length : Int)) from rfl)
      obtain ⟨n, hn⟩ : ∃ n : Nat, n = (fsL zs kind 1 zs.length).length := ⟨_, rfl⟩
      rw [← hn] at hcl
      have hM := hidd (show Mks w1.heap.size [D] Wx from (Mks.nil _ _).cons hD (by simp) hdef)
      have hB := hidd hI.2
      have HV2 := hidd (show cfVal k zs kind = (n : Int) by rw [HV.out, hn]; rfl)
      clear hI hdef hn
      gi_wp2
      refine leave_marks (B := w1.heap.size) (v := .tuple #[.int .i64 (n : Int), .int .i64 0]) [D] _ hM.out (fun W' hb _ => ⟨?_, ?_, ?_⟩)
      · simp [results, Try.results20, go_sem]
      · rw [HV2.out, HC.out]
      · exact hB.out.trans (hb.mono (by omega))
    case stop =>
      intro D pre x rest Wx hD hall hIx hdef
      exact hIx.elim
end Go.Proofs.Ythmjmlmmbmdodaa

/- ProductColouring: the program. -/
import Derived.Test.YtblehhiojednhaaPrg
namespace Go.Proofs.Ytblehhiojednhaa
set_option linter.unusedVariables false
set_option linter.unusedSimpArgs false
open Go Go.RowKit Go.Shelf
set_option maxRecDepth 100000 in
set_option maxHeartbeats 4000000 in
theorem rule15 (n k : Int) (bs : List Nat) (hb : Bys bs) (m l : Int) (cs : List Nat) (hcb : Bys cs) (bx bY : Nat) (W : World) (hx : isCol n k bs = true) (hy : isCol m l cs = true) (h17 : n * m ≤ 17)
    (hX : Blk W bx (ccells n k bs).toArray 25) (hY : Blk W bY (ccells m l cs).toArray 25) (i j : Nat) (hil : i < j) (hlt : (j : Int) < n * m) :
    Calls Try.prog 15 #[.int .i64 (i : Int), .int .i64 (j : Int), .pointer (some ⟨bY, 0, none⟩), .pointer (some ⟨bx, 0, none⟩)] W fun e w' => e = .returned (.int .i64 (prR k m.toNat bs cs i j)) ∧ Below W.heap.size W w' := by
  have HS := hidd (size_c26 n k hb)
  have HT := hidd (size_c26 m l hcb)
  have b1 := isCol_bd hx
  have b2 := isCol_bd hy
  have HK := hidd (And.intro hX hY)
  have HCS := hidd (fun e => col_small hcb hy e)
  obtain ⟨d1, d2, d3, d4⟩ := quo_facts (n := n) (m := m) (i := i) b1.1 b2.1 (by omega)
  obtain ⟨f1, f2, f3, f4⟩ := quo_facts (n := n) (m := m) (i := j) b1.1 b2.1 hlt
  have HRIJ := hidd (show prR k m.toNat bs cs i j = if i / m.toNat ≠ j / m.toNat then colAt bs ((i / m.toNat : Nat) : Int) ((j / m.toNat : Nat) : Int) else k + colAt cs ((i % m.toNat : Nat) : Int) ((j % m.toNat : Nat) : Int) from rfl)
  have HDM := hidd (show i / m.toNat = j / m.toNat → i % m.toNat ≠ j % m.toNat from fun h1 h2 => by
    have e1 := Nat.div_add_mod i m.toNat
    have e2 := Nat.div_add_mod j m.toNat
    rw [h1, h2] at e1
    omega)
  obtain ⟨V, hV⟩ : ∃ V, V = prR k m.toNat bs cs i j := ⟨_, rfl⟩
  rw [← hV] at HRIJ ⊢
  obtain ⟨qi, hqi⟩ : ∃ q : Nat, q = i / m.toNat := ⟨_, rfl⟩
  obtain ⟨qj, hqj⟩ : ∃ q : Nat, q = j / m.toNat := ⟨_, rfl⟩
  obtain ⟨ri, hri⟩ : ∃ q : Nat, q = i % m.toNat := ⟨_, rfl⟩
  obtain ⟨rj, hrj⟩ : ∃ q : Nat, q = j % m.toNat := ⟨_, rfl⟩
  rw [← hqi, ← hqj, ← hri, ← hrj] at HRIJ HDM
  rw [← hqi] at d1 d3
  rw [← hri] at d2 d4
  rw [← hqj] at f1 f3
  rw [← hrj] at f2 f4
  clear hqi hqj hri hrj hV
  have hm0 : ¬ m = 0 := by omega
  have hm1 : (m == 0) = false := by simpa using hm0
  have v1 := wrapI (n := (qi : Int)) (by omega)
  have v2 := wrapI (n := (qj : Int)) (by omega)
  have v3 := wrapI (n := (ri : Int)) (by omega)
  have v4 := wrapI (n := (rj : Int)) (by omega)
  clear hX hY hx hy
  by_cases hq : qi = qj
  · have HNE := hidd (show (ri : Int) ≠ rj by have := HDM.out hq; omega)
    have hqb : ((qi : Int) != (qj : Int)) = false := by simp [hq]
    obtain ⟨v, hv⟩ : ∃ v, v = colAt cs (ri : Int) (rj : Int) := ⟨_, rfl⟩
    have HV := hidd (show V = k + v by rw [HRIJ.out, if_neg (by omega), hv])
    have hv0 : 0 ≤ v ∧ v < 256 := by rw [hv]; exact colAt_bd hcb _ _
    have hwk := wrapI (n := k + v) (by omega)
    have HVV := hidd hv.symm
    clear hv
    go_enter Try.func15, Try.ntmps15
    go_wp2_with fail
    refine wp_region_quiet_at (fun w' => Below W.heap.size W w') rfl (by kernel_rfl) ((Below.refl _ _).drew) ?_
    refine qs rfl (fun KQ hKQ => ?_)
    apply Exists.intro
    refine ⟨fun w' hw' => ?_, ?_⟩
    · go_simp; exact rfl
    go_simp
    refine hKQ _ ?_
    clear hKQ KQ
    refine qs rfl (fun KQ hKQ => ?_)
    apply Exists.intro
    refine ⟨fun w' hw' => ?_, ?_⟩
    · go_simp; exact rfl
    go_simp
    refine hKQ _ ?_
    clear hKQ KQ
    refine qs rfl (fun KQ hKQ => ?_)
    apply Exists.intro
    refine ⟨fun w' hw' => ?_, ?_⟩
    · have e1 := (HK.out.2.below hw' HK.out.2.lt).cell (j := 0) (show _ = some (Value.int .i64 m) from rfl); go_simp; exact rfl
    go_simp
    refine hKQ _ ?_
    clear hKQ KQ
    refine qs rfl (fun KQ hKQ => ?_)
    apply Exists.intro
    refine ⟨fun w' hw' => ?_, ?_⟩
    · go_simp; exact rfl
    go_simp
    refine hKQ _ ?_
    clear hKQ KQ
    refine qs rfl (fun KQ hKQ => ?_)
    apply Exists.intro
    refine ⟨fun w' hw' => ?_, ?_⟩
    · go_simp; exact rfl
    go_simp
    refine hKQ _ ?_
    clear hKQ KQ
    refine qs rfl (fun KQ hKQ => ?_)
    apply Exists.intro
    refine ⟨fun w' hw' => ?_, ?_⟩
    · go_simp; exact rfl
    go_simp
    refine hKQ _ ?_
    clear hKQ KQ
    refine qs rfl (fun KQ hKQ => ?_)
    apply Exists.intro
    refine ⟨fun w' hw' => ?_, ?_⟩
    · have e1 := (HK.out.2.below hw' HK.out.2.lt).cell (j := 0) (show _ = some (Value.int .i64 m) from rfl); go_simp; exact rfl
    go_simp
    refine hKQ _ ?_
    clear hKQ KQ
    refine qs rfl (fun KQ hKQ => ?_)
    apply Exists.intro
    refine ⟨fun w' hw' => ?_, ?_⟩
    · go_simp; exact rfl
    go_simp
    refine hKQ _ ?_
    clear hKQ KQ
    refine qs rfl (fun KQ hKQ => ?_)
    apply Exists.intro
    refine ⟨fun w' hw' => ?_, ?_⟩
    · go_simp; exact rfl
    go_simp
    refine hKQ _ ?_
    clear hKQ KQ
    refine qs rfl (fun KQ hKQ => ?_)
    apply Exists.intro
    refine ⟨fun w' hw' => ?_, ?_⟩
    · go_simp; exact rfl
    go_simp
    refine hKQ _ ?_
    clear hKQ KQ
    refine wpQuiet_nil ?_
    intro w' hw'
    have HW2 := hidd hw'
    have HK3 := hidd (show Blk w' bx (ccells n k bs).toArray 25 ∧ Blk w' bY (ccells m l cs).toArray 25 from ⟨HK.out.1.below hw' HK.out.1.lt, HK.out.2.below hw' HK.out.2.lt⟩)
    obtain ⟨wq, hwq⟩ : ∃ wq, wq = w' := ⟨_, rfl⟩
    rw [← hwq] at HW2 HK3 ⊢
    clear hw' hwq
    go_wp2_with fail
    refine wp_region_quiet_at (fun w' => Below wq.heap.size wq w') rfl (by kernel_rfl) ((Below.refl _ _).drew) ?_
    refine qs rfl (fun KQ hKQ => ?_)
    apply Exists.intro
    refine ⟨fun w' hw' => ?_, ?_⟩
    · go_simp; exact rfl
    go_simp
    refine hKQ _ ?_
    clear hKQ KQ
    refine qs rfl (fun KQ hKQ => ?_)
    apply Exists.intro
    refine ⟨fun w' hw' => ?_, ?_⟩
    · have e1 := (HK3.out.1.below hw' HK3.out.1.lt).cell (j := 1) (show _ = some (Value.int .i64 k) from rfl); go_simp; exact rfl
    go_simp
    refine hKQ _ ?_
    clear hKQ KQ
    refine qs rfl (fun KQ hKQ => ?_)
    apply Exists.intro
    refine ⟨fun w' hw' => ?_, ?_⟩
    · exact quietRow 25 (.tmp 2) rfl bY rfl 25 _ _ (HK3.out.2.below hw' HK3.out.2.lt) Try.underlying25 rfl HT.out
    go_simp
    refine hKQ _ ?_
    clear hKQ KQ
    refine qs rfl (fun KQ hKQ => ?_)
    apply Exists.intro
    refine ⟨fun w' hw' => ?_, ?_⟩
    · go_simp; exact rfl
    go_simp
    refine hKQ _ ?_
    clear hKQ KQ
    refine qs rfl (fun KQ hKQ => ?_)
    apply Exists.intro
    refine ⟨fun w' hw' => ?_, ?_⟩
    · go_simp; exact rfl
    go_simp
    refine hKQ _ ?_
    clear hKQ KQ
    refine qs rfl (fun KQ hKQ => ?_)
    apply Exists.intro
    refine ⟨fun w' hw' => ?_, ?_⟩
    · have e1 := (HK3.out.2.below hw' HK3.out.2.lt).cell (j := 0) (show _ = some (Value.int .i64 m) from rfl); go_simp; exact rfl
    go_simp
    refine hKQ _ ?_
    clear hKQ KQ
    refine qs rfl (fun KQ hKQ => ?_)
    apply Exists.intro
    refine ⟨fun w' hw' => ?_, ?_⟩
    · go_simp; exact rfl
    go_simp
    refine hKQ _ ?_
    clear hKQ KQ
    refine qs rfl (fun KQ hKQ => ?_)
    apply Exists.intro
    refine ⟨fun w' hw' => ?_, ?_⟩
    · go_simp; exact rfl
    go_simp
    refine hKQ _ ?_
    clear hKQ KQ
    refine qs rfl (fun KQ hKQ => ?_)
    apply Exists.intro
    refine ⟨fun w' hw' => ?_, ?_⟩
    · go_simp; exact rfl
    go_simp
    refine hKQ _ ?_
    clear hKQ KQ
    refine qs rfl (fun KQ hKQ => ?_)
    apply Exists.intro
    refine ⟨fun w' hw' => ?_, ?_⟩
    · have e1 := (HK3.out.2.below hw' HK3.out.2.lt).cell (j := 0) (show _ = some (Value.int .i64 m) from rfl); go_simp; exact rfl
    go_simp
    refine hKQ _ ?_
    clear hKQ KQ
    refine qs rfl (fun KQ hKQ => ?_)
    apply Exists.intro
    refine ⟨fun w' hw' => ?_, ?_⟩
    · go_simp; exact rfl
    go_simp
    refine hKQ _ ?_
    clear hKQ KQ
    refine qs rfl (fun KQ hKQ => ?_)
    apply Exists.intro
    refine ⟨fun w' hw' => ?_, ?_⟩
    · go_simp; exact (at59 m l cs hcb m (ri : Int) (rj : Int) _ b2.2.1 (by omega) d4 (by omega) f4 HNE.out).mono fun _ _ h => ⟨by rw [h.1, HVV.out], hw'.trans (h.2.mono hw'.size)⟩
    go_simp
    refine hKQ _ ?_
    clear hKQ KQ
    refine qs rfl (fun KQ hKQ => ?_)
    apply Exists.intro
    refine ⟨fun w' hw' => ?_, ?_⟩
    · go_simp; exact rfl
    go_simp
    refine hKQ _ ?_
    clear hKQ KQ
    refine qs rfl (fun KQ hKQ => ?_)
    apply Exists.intro
    refine ⟨fun w' hw' => ?_, ?_⟩
    · go_simp; exact rfl
    go_simp
    refine hKQ _ ?_
    clear hKQ KQ
    refine wpQuiet_nil ?_
    intro w' hw'
    have HZ := hidd (HW2.out.trans (hw'.mono HW2.out.size))
    clear hw'
    go_wp2
    go_ret
    exact ⟨by rw [HV.out]; rfl, HZ.out⟩
  · have HNE := hidd (show (qi : Int) ≠ qj by omega)
    have hqb : ((qi : Int) != (qj : Int)) = true := by simp; omega
    obtain ⟨v, hv⟩ : ∃ v, v = colAt bs (qi : Int) (qj : Int) := ⟨_, rfl⟩
    have HV := hidd (show V = v by rw [HRIJ.out, if_pos hq, hv])
    have HVV := hidd hv.symm
    clear hv
    go_enter Try.func15, Try.ntmps15
    go_wp2_with fail
    refine wp_region_quiet_at (fun w' => Below W.heap.size W w') rfl (by kernel_rfl) ((Below.refl _ _).drew) ?_
    refine qs rfl (fun KQ hKQ => ?_)
    apply Exists.intro
    refine ⟨fun w' hw' => ?_, ?_⟩
    · go_simp; exact rfl
    go_simp
    refine hKQ _ ?_
    clear hKQ KQ
    refine qs rfl (fun KQ hKQ => ?_)
    apply Exists.intro
    refine ⟨fun w' hw' => ?_, ?_⟩
    · go_simp; exact rfl
    go_simp
    refine hKQ _ ?_
    clear hKQ KQ
    refine qs rfl (fun KQ hKQ => ?_)
    apply Exists.intro
    refine ⟨fun w' hw' => ?_, ?_⟩
    · have e1 := (HK.out.2.below hw' HK.out.2.lt).cell (j := 0) (show _ = some (Value.int .i64 m) from rfl); go_simp; exact rfl
    go_simp
    refine hKQ _ ?_
    clear hKQ KQ
    refine qs rfl (fun KQ hKQ => ?_)
    apply Exists.intro
    refine ⟨fun w' hw' => ?_, ?_⟩
    · go_simp; exact rfl
    go_simp
    refine hKQ _ ?_
    clear hKQ KQ
    refine qs rfl (fun KQ hKQ => ?_)
    apply Exists.intro
    refine ⟨fun w' hw' => ?_, ?_⟩
    · go_simp; exact rfl
    go_simp
    refine hKQ _ ?_
    clear hKQ KQ
    refine qs rfl (fun KQ hKQ => ?_)
    apply Exists.intro
    refine ⟨fun w' hw' => ?_, ?_⟩
    · go_simp; exact rfl
    go_simp
    refine hKQ _ ?_
    clear hKQ KQ
    refine qs rfl (fun KQ hKQ => ?_)
    apply Exists.intro
    refine ⟨fun w' hw' => ?_, ?_⟩
    · have e1 := (HK.out.2.below hw' HK.out.2.lt).cell (j := 0) (show _ = some (Value.int .i64 m) from rfl); go_simp; exact rfl
    go_simp
    refine hKQ _ ?_
    clear hKQ KQ
    refine qs rfl (fun KQ hKQ => ?_)
    apply Exists.intro
    refine ⟨fun w' hw' => ?_, ?_⟩
    · go_simp; exact rfl
    go_simp
    refine hKQ _ ?_
    clear hKQ KQ
    refine qs rfl (fun KQ hKQ => ?_)
    apply Exists.intro
    refine ⟨fun w' hw' => ?_, ?_⟩
    · go_simp; exact rfl
    go_simp
    refine hKQ _ ?_
    clear hKQ KQ
    refine qs rfl (fun KQ hKQ => ?_)
    apply Exists.intro
    refine ⟨fun w' hw' => ?_, ?_⟩
    · go_simp; exact rfl
    go_simp
    refine hKQ _ ?_
    clear hKQ KQ
    refine wpQuiet_nil ?_
    intro w' hw'
    have HW2 := hidd hw'
    have HK3 := hidd (show Blk w' bx (ccells n k bs).toArray 25 ∧ Blk w' bY (ccells m l cs).toArray 25 from ⟨HK.out.1.below hw' HK.out.1.lt, HK.out.2.below hw' HK.out.2.lt⟩)
    obtain ⟨wq, hwq⟩ : ∃ wq, wq = w' := ⟨_, rfl⟩
    rw [← hwq] at HW2 HK3 ⊢
    clear hw' hwq
    go_wp2_with (refine wpList_load_row rfl 25 (.tmp 3) rfl bx rfl 25 _ (0,0) _ HK3.out.1 Try.underlying25 rfl HS.out ?_)
    refine (at59 n k bs hb n (qi : Int) (qj : Int) _ b1.2.1 (by omega) d3 (by omega) f3 HNE.out).mono ?_
    rintro e w3 ⟨he, hb3⟩
    rw [HVV.out] at he
    subst he
    have HZ := hidd (HW2.out.trans (hb3.mono HW2.out.size))
    clear hb3
    go_wp2
    go_ret
    exact ⟨by rw [HV.out]; rfl, HZ.out⟩
end Go.Proofs.Ytblehhiojednhaa

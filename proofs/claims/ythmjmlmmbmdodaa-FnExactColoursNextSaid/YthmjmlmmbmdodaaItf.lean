/- The function that hands out the faults with z: its promise. -/
import Derived.Test.YthmjmlmmbmdodaaRng
import Derived.Test.YthmjmlmmbmdodaaLes
namespace Go.Proofs.Ythmjmlmmbmdodaa
set_option linter.unusedVariables false
set_option linter.unusedSimpArgs false
open Go Go.RowKit Go.Shelf
attribute [local go_sem] Oper.semAt_some
def encF (x : Flt) : Array Value := #[.agg #[.int .i64 x.1, .int .i64 x.2.1, .int .i64 x.2.2]]
theorem sl_at {w w' : World} {bp off : Nat} {zs : List Int} (h : SlI w (some ⟨bp, off, none⟩) zs) (e : w'.heap[bp]? = w.heap[bp]?) : SlI w' (some ⟨bp, off, none⟩) zs := by
  rcases h with h | ⟨b, o, ha, hc⟩
  · exact .inl h
  · cases ha
    refine .inr ⟨bp, off, rfl, fun j hj => ?_⟩
    have := hc j hj
    simp only [World.cell?] at this ⊢
    rw [e]; exact this
/-- The boxes of the part, of z and of the kind, and the part itself. -/
def Caps (zs : List Int) (kind : Int) (z : Nat) (bp off cap Bp Bz Bk : Nat) (W : World) : Prop :=
  Blk W Bp #[.slice (some ⟨bp, off, none⟩) zs.length cap] 22 ∧ Blk W Bz #[.int .i64 (z : Int)] 2 ∧ Blk W Bk #[kindV kind] 48 ∧ SlI W (some ⟨bp, off, none⟩) zs
theorem Caps.same {zs : List Int} {kind : Int} {z bp off cap Bp Bz Bk : Nat} {W W' : World} (h : Caps zs kind z bp off cap Bp Bz Bk W) (e : ∀ b, b ∈ [Bp, Bz, Bk, bp] → W'.heap[b]? = W.heap[b]?) : Caps zs kind z bp off cap Bp Bz Bk W' :=
  ⟨(e Bp (by simp)).trans h.1, (e Bz (by simp)).trans h.2.1, (e Bk (by simp)).trans h.2.2.1, sl_at h.2.2.2 (e bp (by simp))⟩
theorem gI_eq {zs : List Int} {m : Int} {M : Nat} (h : m = (M : Int) + 1) : gI zs m = zs.getD M 0 := by unfold gI; rw [show (m - 1).toNat = M by omega]
set_option maxRecDepth 100000 in
set_option maxHeartbeats 4000000 in
theorem iter67_0 (m : Nat) (zs : List Int) (z bp off cap Bp Bz Bk : Nat) (w : World) (z1 : 1 ≤ z) (z2 : z ≤ zs.length) (hl : zs.length ≤ 41) (hbp : bp < w.heap.size) (hC : Caps zs 0 z bp off cap Bp Bz Bk w) :
    Gives m 67 #[.pointer (some ⟨Bp, 0, none⟩), .pointer (some ⟨Bz, 0, none⟩), .pointer (some ⟨Bk, 0, none⟩)] encF [Bp, Bz, Bk, bp] (rowL zs 0 z) w := by
  intro l J Jx W hsz hbs hJ hJx hY h0
  have hC0 := hC.same hbs
  have hm : ∀ w, (method 206 78 (.agg #[]) "loop.example/g01362/impl.lesser").run Try.prog w = .ok (86, .agg #[]) w := fun _ => by kernel_rfl
  have hn : ∀ w, (nilAhead 206 78 (.agg #[]) "loop.example/g01362/impl.lesser").run Try.prog w = .ok (some false) w := fun _ => by kernel_rfl
  have hkv : kindV 0 = .iface 78 (.agg #[]) := rfl
  have hin : ∀ b, b ∈ [Bp, Bz, Bk, bp] → b < W.heap.size := fun b hb => by
    have h := hsz
    simp only [List.mem_cons, List.not_mem_nil, or_false] at hb
    rcases hb with rfl | rfl | rfl | rfl
    · exact hC0.1.lt
    · exact hC0.2.1.lt
    · exact hC0.2.2.1.lt
    · omega
  have HIN := hidd hin
  refine callsIn_of_wp Try.func67 rfl trivial ?_ rfl
  simp only [Try.ntmps67, List.size_toArray, List.length_cons, List.length_nil, Nat.reduceAdd, Nat.reduceSub, Array.replicate_succ, Array.replicate_zero, List.push_toArray, List.append_toArray, List.nil_append, List.cons_append]
  have HY := hidd hY
  have HCC := hidd hC0
  have cP := hC0.1.cell (j := 0) (show _ = some (Value.slice (some ⟨bp, off, none⟩) zs.length cap) from rfl)
  have cZ := hC0.2.1.cell (j := 0) (show _ = some (Value.int .i64 (z : Int)) from rfl)
  rcases hC0.2.2.2 with hz | ⟨b', off', ha, hc⟩
  · subst hz; simp at z2; omega
  · cases ha
    obtain ⟨Z, rfl⟩ : ∃ Z, z = Z + 1 := ⟨z - 1, by omega⟩
    have hcz := hc Z (by omega)
    obtain ⟨gz, hgz⟩ : ∃ v, v = zs.getD Z 0 := ⟨_, rfl⟩
    rw [← hgz] at hcz
    have HGZ := hidd hgz
    have hzI : ((Z + 1 : Nat) : Int) - 1 = (Z : Int) := by omega
    have hZl : (Z : Int) < (zs.length : Int) := by omega
    have hZ41 : ((Z + 1 : Nat) : Int) ≤ 41 := by omega
    have hZ0 : (0 : Int) ≤ ((Z + 1 : Nat) : Int) := by omega
    obtain ⟨ZZ, hZZ⟩ : ∃ ZZ : Int, ZZ = ((Z + 1 : Nat) : Int) := ⟨_, rfl⟩
    rw [← hZZ] at cZ hzI hZ41 hZ0
    have HZZ := hidd hZZ
    clear hC hC0 hc hgz hY hbs hin hZZ
    gi_wp2
    gi_loopw [6] (fun e wr => ∃ q y : Nat, y = q + 1 ∧ y ≤ Z + 1 ∧ e = .int .i64 (y : Int) ∧ Hid (J (frL zs 0 (Z + 1) q) wr ∧ Caps zs 0 (Z + 1) bp off cap Bp Bz Bk wr ∧ W.heap.size ≤ wr.heap.size)) (fun e _ => Z + 1 - (intOf e).toNat)
    case atStart => exact ⟨0, 1, rfl, by omega, rfl, h0, HCC.out, Nat.le_refl _⟩
    case round =>
      obtain ⟨q, y, hy, hyz, rfl, HR⟩ := hrel
      have HYQ := hidd hy
      have y1 : (1 : Int) ≤ (y : Int) := by omega
      have cP := HR.out.2.1.1.cell (j := 0) (show _ = some (Value.slice (some ⟨bp, off, none⟩) zs.length cap) from rfl)
      have cZ := HR.out.2.1.2.1.cell (j := 0) (show _ = some (Value.int .i64 ((Z + 1 : Nat) : Int)) from rfl)
      have cK := HR.out.2.1.2.2.1.cell (j := 0) (show _ = some (Value.iface 78 (.agg #[])) from rfl)
      rw [← HZZ.out] at cZ
      by_cases hlt : y < Z + 1
      · have hlI : (y : Int) < ZZ := by have := HZZ.out; omega
        clear hy
        have hok := okB_iff (kind := 0) hlI (by omega) (by omega)
        obtain ⟨x, hx⟩ : ∃ x, x = ftX 0 (y : Int) ZZ := ⟨_, rfl⟩
        have hxb : -41 ≤ x ∧ x ≤ 41 := by unfold ftX at hx; split at hx <;> omega
        obtain ⟨x0, x9⟩ := hxb
        have HFR := hidd (show frL zs 0 (Z + 1) (q + 1) = frL zs 0 (Z + 1) q ++ (if ftB zs 0 (y : Int) ZZ = true then [(x, (y : Int), ZZ)] else []) by
          rw [hx, HZZ.out, show (y : Int) = ((q + 1 : Nat) : Int) by rw [HYQ.out]]; rfl)
        have HFB := hidd (show ftB zs 0 (y : Int) ZZ = (okB 0 (y : Int) ZZ && (gI zs x == gI zs (y : Int)) && (gI zs (y : Int) == gI zs ZZ)) by
          rw [hok, hx]; rfl)
        have HGZ2 := hidd (show gI zs ZZ = gz by rw [gI_eq (show ZZ = (Z : Int) + 1 by omega)]; exact HGZ.out.symm)
        have HXX := hidd hx
        have HLE := hidd (fun W' => les86 (y : Int) ZZ W' y1 hlI hZ41)
        obtain ⟨ok, hokk⟩ : ∃ ok, ok = okB 0 (y : Int) ZZ := ⟨_, rfl⟩
        rw [← hx, ← hokk] at HLE
        rw [← hokk] at hok HFB
        have HOK := hidd hok
        clear hx hokk hok
        gi_wp2_with fail
        refine ⟨trivial, (callsIn_wide.2 (HLE.out _)).mono ?_⟩
        rintro e w1 ⟨rfl, hb1⟩
        have K1 := hidd (show J (frL zs 0 (Z + 1) q) w1 ∧ Caps zs 0 (Z + 1) bp off cap Bp Bz Bk w1 ∧ W.heap.size ≤ w1.heap.size from
          ⟨hJ _ _ _ HR.out.1 (hb1.mono HR.out.2.2), HR.out.2.1.same (fun b hb => hb1.block b (Nat.lt_of_lt_of_le (HIN.out b hb) HR.out.2.2)), Nat.le_trans HR.out.2.2 hb1.size⟩)
        clear hb1 cP cZ cK
        have cP := K1.out.2.1.1.cell (j := 0) (show _ = some (Value.slice (some ⟨bp, off, none⟩) zs.length cap) from rfl)
        have cZ := K1.out.2.1.2.1.cell (j := 0) (show _ = some (Value.int .i64 ((Z + 1 : Nat) : Int)) from rfl)
        rw [← HZZ.out] at cZ
        cases ok with
        | false =>
          have HE := hidd (show frL zs 0 (Z + 1) (q + 1) = frL zs 0 (Z + 1) q by
            rw [HFR.out, HFB.out]; simp)
          gi_wp2_with fail
          refine ⟨(fun f h => by cases h), ?_⟩
          gi_wp2_with fail
          go_roundw
          case rel => exact ⟨q + 1, y + 1, by have := HYQ.out; omega, by omega, by go_num, by rw [HE.out]; exact K1.out⟩
          case measure => simp [intOf]; omega
        | true =>
          obtain ⟨x1, x2⟩ : 1 ≤ x ∧ x ≤ (y : Int) := by
            have h := HOK.out
            simp only [Bool.true_eq, Bool.and_eq_true, decide_eq_true_eq] at h
            rw [HXX.out]; exact h.1
          obtain ⟨X, hX⟩ : ∃ X : Nat, x = (X : Int) + 1 := ⟨(x - 1).toNat, by omega⟩
          have hXI : x - 1 = (X : Int) := by omega
          have hyI : (y : Int) - 1 = (q : Int) := by have := HYQ.out; omega
          rcases K1.out.2.1.2.2.2 with hz | ⟨b2, off2, ha, hc⟩
          · subst hz; simp at z2
          · cases ha
            have cX := gI_cell hc hX (by omega)
            have cY := gI_cell hc (show (y : Int) = (q : Int) + 1 by omega) (by have := HYQ.out; omega)
            obtain ⟨gx, hgx⟩ : ∃ v, v = gI zs x := ⟨_, rfl⟩
            obtain ⟨gy, hgy⟩ : ∃ v, v = gI zs (y : Int) := ⟨_, rfl⟩
            rw [← hgx] at cX HFB
            rw [← hgy] at cY HFB
            rw [HGZ2.out] at HFB
            have hXl : (X : Int) < (zs.length : Int) := by omega
            have hql : (q : Int) < (zs.length : Int) := by have := HYQ.out; omega
            have hy41 : (y : Int) ≤ 41 := by omega
            clear hc hX hgx hgy
            cases g1 : (gx == gz) with
            | false =>
              have HE := hidd (show frL zs 0 (Z + 1) (q + 1) = frL zs 0 (Z + 1) q by
                have hne : ((gx == gy) && (gy == gz)) = false := by
                  rw [Bool.eq_false_iff]; intro h
                  rw [Bool.and_eq_true, beq_iff_eq, beq_iff_eq] at h
                  rw [h.1, h.2] at g1; simp at g1
                rw [HFR.out, HFB.out, Bool.true_and, hne]; simp)
              gi_wp2_with fail
              refine ⟨(fun f h => by cases h), ?_⟩
              gi_wp2_with fail
              go_roundw
              case rel => exact ⟨q + 1, y + 1, by have := HYQ.out; omega, by omega, by go_num, by rw [HE.out]; exact K1.out⟩
              case measure => simp [intOf]; omega
            | true =>
              cases g2 : (gy == gz) with
              | false =>
                have HE := hidd (show frL zs 0 (Z + 1) (q + 1) = frL zs 0 (Z + 1) q by
                  rw [HFR.out, HFB.out, g2]; simp)
                gi_wp2_with fail
                refine ⟨(fun f h => by cases h), ?_⟩
                gi_wp2_with fail
                go_roundw
                case rel => exact ⟨q + 1, y + 1, by have := HYQ.out; omega, by omega, by go_num, by rw [HE.out]; exact K1.out⟩
                case measure => simp [intOf]; omega
              | true =>
                have HE := hidd (show frL zs 0 (Z + 1) (q + 1) = frL zs 0 (Z + 1) q ++ [(x, (y : Int), ZZ)] by
                  have hgg : (gx == gy) = true := by
                    rw [beq_iff_eq] at g1 g2 ⊢
                    rw [g1, g2]
                  rw [HFR.out, HFB.out, hgg, g2]; rfl)
                obtain ⟨r, hr⟩ := frL_more zs 0 (Z + 1) (q + 1) (Z - (q + 1))
                have HALL := hidd (show rowL zs 0 (Z + 1) = frL zs 0 (Z + 1) q ++ (x, (y : Int), ZZ) :: r by
                  have hh := HYQ.out
                  rw [show q + 1 + (Z - (q + 1)) = Z + 1 - 1 by omega, HE.out] at hr
                  rw [rowL, hr, List.append_assoc]; rfl)
                obtain ⟨fn, tmps, assign, body, hyy, hR⟩ := HY.out (frL zs 0 (Z + 1) q) (x, (y : Int), ZZ) r w1 HALL.out K1.out.1
                have HRR := hidd hR
                clear hR hr
                dsimp only [encF] at hyy
                gi_wp2
                refine HRR.out.mono ?_
                rintro e W3 ⟨hk3, ⟨rfl, hJ3⟩ | ⟨rfl, hx3⟩⟩
                · have K3 := hidd (show J (frL zs 0 (Z + 1) (q + 1)) W3 ∧ Caps zs 0 (Z + 1) bp off cap Bp Bz Bk W3 ∧ W.heap.size ≤ W3.heap.size from
                    ⟨by rw [HE.out]; exact hJ3, K1.out.2.1.same (fun b hb => hk3.2 b (Nat.lt_of_lt_of_le (HIN.out b hb) K1.out.2.2) (.inr hb)), Nat.le_trans K1.out.2.2 hk3.1⟩)
                  clear hk3 hJ3
                  gi_wp2
                  go_roundw
                  case rel => exact ⟨q + 1, y + 1, by have := HYQ.out; omega, by omega, by go_num, K3.out⟩
                  case measure => simp [intOf]; omega
                · have X3 := hidd hx3
                  clear hx3 hk3
                  gi_wp2
                  refine bodyPost_ret (results_none rfl _ _ _) rfl ?_
                  exact ⟨⟨_, rfl⟩, .inr ⟨_, _, _, HALL.out, X3.out⟩⟩
      · have hyZ : y = Z + 1 := by omega
        have hd : decide ((y : Int) < ZZ) = false := by have := HZZ.out; simp; omega
        have K := hidd (show J (rowL zs 0 (Z + 1)) wr by
          have h := HR.out.1
          rw [show q = Z + 1 - 1 by omega] at h
          exact h)
        clear hy hyZ
        gi_wp2_with fail
        go_end0
        exact ⟨⟨_, rfl⟩, .inl K.out⟩
set_option maxRecDepth 100000 in
set_option maxHeartbeats 4000000 in
theorem iter67_1 (m : Nat) (zs : List Int) (z bp off cap Bp Bz Bk : Nat) (w : World) (z1 : 1 ≤ z) (z2 : z ≤ zs.length) (hl : zs.length ≤ 41) (hbp : bp < w.heap.size) (hC : Caps zs 1 z bp off cap Bp Bz Bk w) :
    Gives m 67 #[.pointer (some ⟨Bp, 0, none⟩), .pointer (some ⟨Bz, 0, none⟩), .pointer (some ⟨Bk, 0, none⟩)] encF [Bp, Bz, Bk, bp] (rowL zs 1 z) w := by
  intro l J Jx W hsz hbs hJ hJx hY h0
  have hC0 := hC.same hbs
  have hm : ∀ w, (method 206 79 (.agg #[]) "loop.example/g01362/impl.lesser").run Try.prog w = .ok (87, .agg #[]) w := fun _ => by kernel_rfl
  have hn : ∀ w, (nilAhead 206 79 (.agg #[]) "loop.example/g01362/impl.lesser").run Try.prog w = .ok (some false) w := fun _ => by kernel_rfl
  have hkv : kindV 1 = .iface 79 (.agg #[]) := rfl
  have hin : ∀ b, b ∈ [Bp, Bz, Bk, bp] → b < W.heap.size := fun b hb => by
    have h := hsz
    simp only [List.mem_cons, List.not_mem_nil, or_false] at hb
    rcases hb with rfl | rfl | rfl | rfl
    · exact hC0.1.lt
    · exact hC0.2.1.lt
    · exact hC0.2.2.1.lt
    · omega
  have HIN := hidd hin
  refine callsIn_of_wp Try.func67 rfl trivial ?_ rfl
  simp only [Try.ntmps67, List.size_toArray, List.length_cons, List.length_nil, Nat.reduceAdd, Nat.reduceSub, Array.replicate_succ, Array.replicate_zero, List.push_toArray, List.append_toArray, List.nil_append, List.cons_append]
  have HY := hidd hY
  have HCC := hidd hC0
  have cP := hC0.1.cell (j := 0) (show _ = some (Value.slice (some ⟨bp, off, none⟩) zs.length cap) from rfl)
  have cZ := hC0.2.1.cell (j := 0) (show _ = some (Value.int .i64 (z : Int)) from rfl)
  rcases hC0.2.2.2 with hz | ⟨b', off', ha, hc⟩
  · subst hz; simp at z2; omega
  · cases ha
    obtain ⟨Z, rfl⟩ : ∃ Z, z = Z + 1 := ⟨z - 1, by omega⟩
    have hcz := hc Z (by omega)
    obtain ⟨gz, hgz⟩ : ∃ v, v = zs.getD Z 0 := ⟨_, rfl⟩
    rw [← hgz] at hcz
    have HGZ := hidd hgz
    have hzI : ((Z + 1 : Nat) : Int) - 1 = (Z : Int) := by omega
    have hZl : (Z : Int) < (zs.length : Int) := by omega
    have hZ41 : ((Z + 1 : Nat) : Int) ≤ 41 := by omega
    have hZ0 : (0 : Int) ≤ ((Z + 1 : Nat) : Int) := by omega
    obtain ⟨ZZ, hZZ⟩ : ∃ ZZ : Int, ZZ = ((Z + 1 : Nat) : Int) := ⟨_, rfl⟩
    rw [← hZZ] at cZ hzI hZ41 hZ0
    have HZZ := hidd hZZ
    clear hC hC0 hc hgz hY hbs hin hZZ
    gi_wp2
    gi_loopw [6] (fun e wr => ∃ q y : Nat, y = q + 1 ∧ y ≤ Z + 1 ∧ e = .int .i64 (y : Int) ∧ Hid (J (frL zs 1 (Z + 1) q) wr ∧ Caps zs 1 (Z + 1) bp off cap Bp Bz Bk wr ∧ W.heap.size ≤ wr.heap.size)) (fun e _ => Z + 1 - (intOf e).toNat)
    case atStart => exact ⟨0, 1, rfl, by omega, rfl, h0, HCC.out, Nat.le_refl _⟩
    case round =>
      obtain ⟨q, y, hy, hyz, rfl, HR⟩ := hrel
      have HYQ := hidd hy
      have y1 : (1 : Int) ≤ (y : Int) := by omega
      have cP := HR.out.2.1.1.cell (j := 0) (show _ = some (Value.slice (some ⟨bp, off, none⟩) zs.length cap) from rfl)
      have cZ := HR.out.2.1.2.1.cell (j := 0) (show _ = some (Value.int .i64 ((Z + 1 : Nat) : Int)) from rfl)
      have cK := HR.out.2.1.2.2.1.cell (j := 0) (show _ = some (Value.iface 79 (.agg #[])) from rfl)
      rw [← HZZ.out] at cZ
      by_cases hlt : y < Z + 1
      · have hlI : (y : Int) < ZZ := by have := HZZ.out; omega
        clear hy
        have hok := okB_iff (kind := 1) hlI (by omega) (by omega)
        obtain ⟨x, hx⟩ : ∃ x, x = ftX 1 (y : Int) ZZ := ⟨_, rfl⟩
        have hxb : -41 ≤ x ∧ x ≤ 41 := by unfold ftX at hx; split at hx <;> omega
        obtain ⟨x0, x9⟩ := hxb
        have HFR := hidd (show frL zs 1 (Z + 1) (q + 1) = frL zs 1 (Z + 1) q ++ (if ftB zs 1 (y : Int) ZZ = true then [(x, (y : Int), ZZ)] else []) by
          rw [hx, HZZ.out, show (y : Int) = ((q + 1 : Nat) : Int) by rw [HYQ.out]]; rfl)
        have HFB := hidd (show ftB zs 1 (y : Int) ZZ = (okB 1 (y : Int) ZZ && (gI zs x == gI zs (y : Int)) && (gI zs (y : Int) == gI zs ZZ)) by
          rw [hok, hx]; rfl)
        have HGZ2 := hidd (show gI zs ZZ = gz by rw [gI_eq (show ZZ = (Z : Int) + 1 by omega)]; exact HGZ.out.symm)
        have HXX := hidd hx
        have HLE := hidd (fun W' => les87 (y : Int) ZZ W' y1 hlI hZ41)
        obtain ⟨ok, hokk⟩ : ∃ ok, ok = okB 1 (y : Int) ZZ := ⟨_, rfl⟩
        rw [← hx, ← hokk] at HLE
        rw [← hokk] at hok HFB
        have HOK := hidd hok
        clear hx hokk hok
        gi_wp2_with fail
        refine ⟨trivial, (callsIn_wide.2 (HLE.out _)).mono ?_⟩
        rintro e w1 ⟨rfl, hb1⟩
        have K1 := hidd (show J (frL zs 1 (Z + 1) q) w1 ∧ Caps zs 1 (Z + 1) bp off cap Bp Bz Bk w1 ∧ W.heap.size ≤ w1.heap.size from
          ⟨hJ _ _ _ HR.out.1 (hb1.mono HR.out.2.2), HR.out.2.1.same (fun b hb => hb1.block b (Nat.lt_of_lt_of_le (HIN.out b hb) HR.out.2.2)), Nat.le_trans HR.out.2.2 hb1.size⟩)
        clear hb1 cP cZ cK
        have cP := K1.out.2.1.1.cell (j := 0) (show _ = some (Value.slice (some ⟨bp, off, none⟩) zs.length cap) from rfl)
        have cZ := K1.out.2.1.2.1.cell (j := 0) (show _ = some (Value.int .i64 ((Z + 1 : Nat) : Int)) from rfl)
        rw [← HZZ.out] at cZ
        cases ok with
        | false =>
          have HE := hidd (show frL zs 1 (Z + 1) (q + 1) = frL zs 1 (Z + 1) q by
            rw [HFR.out, HFB.out]; simp)
          gi_wp2_with fail
          refine ⟨(fun f h => by cases h), ?_⟩
          gi_wp2_with fail
          go_roundw
          case rel => exact ⟨q + 1, y + 1, by have := HYQ.out; omega, by omega, by go_num, by rw [HE.out]; exact K1.out⟩
          case measure => simp [intOf]; omega
        | true =>
          obtain ⟨x1, x2⟩ : 1 ≤ x ∧ x ≤ (y : Int) := by
            have h := HOK.out
            simp only [Bool.true_eq, Bool.and_eq_true, decide_eq_true_eq] at h
            rw [HXX.out]; exact h.1
          obtain ⟨X, hX⟩ : ∃ X : Nat, x = (X : Int) + 1 := ⟨(x - 1).toNat, by omega⟩
          have hXI : x - 1 = (X : Int) := by omega
          have hyI : (y : Int) - 1 = (q : Int) := by have := HYQ.out; omega
          rcases K1.out.2.1.2.2.2 with hz | ⟨b2, off2, ha, hc⟩
          · subst hz; simp at z2
          · cases ha
            have cX := gI_cell hc hX (by omega)
            have cY := gI_cell hc (show (y : Int) = (q : Int) + 1 by omega) (by have := HYQ.out; omega)
            obtain ⟨gx, hgx⟩ : ∃ v, v = gI zs x := ⟨_, rfl⟩
            obtain ⟨gy, hgy⟩ : ∃ v, v = gI zs (y : Int) := ⟨_, rfl⟩
            rw [← hgx] at cX HFB
            rw [← hgy] at cY HFB
            rw [HGZ2.out] at HFB
            have hXl : (X : Int) < (zs.length : Int) := by omega
            have hql : (q : Int) < (zs.length : Int) := by have := HYQ.out; omega
            have hy41 : (y : Int) ≤ 41 := by omega
            clear hc hX hgx hgy
            cases g1 : (gx == gz) with
            | false =>
              have HE := hidd (show frL zs 1 (Z + 1) (q + 1) = frL zs 1 (Z + 1) q by
                have hne : ((gx == gy) && (gy == gz)) = false := by
                  rw [Bool.eq_false_iff]; intro h
                  rw [Bool.and_eq_true, beq_iff_eq, beq_iff_eq] at h
                  rw [h.1, h.2] at g1; simp at g1
                rw [HFR.out, HFB.out, Bool.true_and, hne]; simp)
              gi_wp2_with fail
              refine ⟨(fun f h => by cases h), ?_⟩
              gi_wp2_with fail
              go_roundw
              case rel => exact ⟨q + 1, y + 1, by have := HYQ.out; omega, by omega, by go_num, by rw [HE.out]; exact K1.out⟩
              case measure => simp [intOf]; omega
            | true =>
              cases g2 : (gy == gz) with
              | false =>
                have HE := hidd (show frL zs 1 (Z + 1) (q + 1) = frL zs 1 (Z + 1) q by
                  rw [HFR.out, HFB.out, g2]; simp)
                gi_wp2_with fail
                refine ⟨(fun f h => by cases h), ?_⟩
                gi_wp2_with fail
                go_roundw
                case rel => exact ⟨q + 1, y + 1, by have := HYQ.out; omega, by omega, by go_num, by rw [HE.out]; exact K1.out⟩
                case measure => simp [intOf]; omega
              | true =>
                have HE := hidd (show frL zs 1 (Z + 1) (q + 1) = frL zs 1 (Z + 1) q ++ [(x, (y : Int), ZZ)] by
                  have hgg : (gx == gy) = true := by
                    rw [beq_iff_eq] at g1 g2 ⊢
                    rw [g1, g2]
                  rw [HFR.out, HFB.out, hgg, g2]; rfl)
                obtain ⟨r, hr⟩ := frL_more zs 1 (Z + 1) (q + 1) (Z - (q + 1))
                have HALL := hidd (show rowL zs 1 (Z + 1) = frL zs 1 (Z + 1) q ++ (x, (y : Int), ZZ) :: r by
                  have hh := HYQ.out
                  rw [show q + 1 + (Z - (q + 1)) = Z + 1 - 1 by omega, HE.out] at hr
                  rw [rowL, hr, List.append_assoc]; rfl)
                obtain ⟨fn, tmps, assign, body, hyy, hR⟩ := HY.out (frL zs 1 (Z + 1) q) (x, (y : Int), ZZ) r w1 HALL.out K1.out.1
                have HRR := hidd hR
                clear hR hr
                dsimp only [encF] at hyy
                gi_wp2
                refine HRR.out.mono ?_
                rintro e W3 ⟨hk3, ⟨rfl, hJ3⟩ | ⟨rfl, hx3⟩⟩
                · have K3 := hidd (show J (frL zs 1 (Z + 1) (q + 1)) W3 ∧ Caps zs 1 (Z + 1) bp off cap Bp Bz Bk W3 ∧ W.heap.size ≤ W3.heap.size from
                    ⟨by rw [HE.out]; exact hJ3, K1.out.2.1.same (fun b hb => hk3.2 b (Nat.lt_of_lt_of_le (HIN.out b hb) K1.out.2.2) (.inr hb)), Nat.le_trans K1.out.2.2 hk3.1⟩)
                  clear hk3 hJ3
                  gi_wp2
                  go_roundw
                  case rel => exact ⟨q + 1, y + 1, by have := HYQ.out; omega, by omega, by go_num, K3.out⟩
                  case measure => simp [intOf]; omega
                · have X3 := hidd hx3
                  clear hx3 hk3
                  gi_wp2
                  refine bodyPost_ret (results_none rfl _ _ _) rfl ?_
                  exact ⟨⟨_, rfl⟩, .inr ⟨_, _, _, HALL.out, X3.out⟩⟩
      · have hyZ : y = Z + 1 := by omega
        have hd : decide ((y : Int) < ZZ) = false := by have := HZZ.out; simp; omega
        have K := hidd (show J (rowL zs 1 (Z + 1)) wr by
          have h := HR.out.1
          rw [show q = Z + 1 - 1 by omega] at h
          exact h)
        clear hy hyZ
        gi_wp2_with fail
        go_end0
        exact ⟨⟨_, rfl⟩, .inl K.out⟩
set_option maxRecDepth 100000 in
set_option maxHeartbeats 4000000 in
theorem iter67_2 (m : Nat) (zs : List Int) (z bp off cap Bp Bz Bk : Nat) (w : World) (z1 : 1 ≤ z) (z2 : z ≤ zs.length) (hl : zs.length ≤ 41) (hbp : bp < w.heap.size) (hC : Caps zs 2 z bp off cap Bp Bz Bk w) :
    Gives m 67 #[.pointer (some ⟨Bp, 0, none⟩), .pointer (some ⟨Bz, 0, none⟩), .pointer (some ⟨Bk, 0, none⟩)] encF [Bp, Bz, Bk, bp] (rowL zs 2 z) w := by
  intro l J Jx W hsz hbs hJ hJx hY h0
  have hC0 := hC.same hbs
  have hm : ∀ w, (method 206 80 (.agg #[]) "loop.example/g01362/impl.lesser").run Try.prog w = .ok (88, .agg #[]) w := fun _ => by kernel_rfl
  have hn : ∀ w, (nilAhead 206 80 (.agg #[]) "loop.example/g01362/impl.lesser").run Try.prog w = .ok (some false) w := fun _ => by kernel_rfl
  have hkv : kindV 2 = .iface 80 (.agg #[]) := rfl
  have hin : ∀ b, b ∈ [Bp, Bz, Bk, bp] → b < W.heap.size := fun b hb => by
    have h := hsz
    simp only [List.mem_cons, List.not_mem_nil, or_false] at hb
    rcases hb with rfl | rfl | rfl | rfl
    · exact hC0.1.lt
    · exact hC0.2.1.lt
    · exact hC0.2.2.1.lt
    · omega
  have HIN := hidd hin
  refine callsIn_of_wp Try.func67 rfl trivial ?_ rfl
  simp only [Try.ntmps67, List.size_toArray, List.length_cons, List.length_nil, Nat.reduceAdd, Nat.reduceSub, Array.replicate_succ, Array.replicate_zero, List.push_toArray, List.append_toArray, List.nil_append, List.cons_append]
  have HY := hidd hY
  have HCC := hidd hC0
  have cP := hC0.1.cell (j := 0) (show _ = some (Value.slice (some ⟨bp, off, none⟩) zs.length cap) from rfl)
  have cZ := hC0.2.1.cell (j := 0) (show _ = some (Value.int .i64 (z : Int)) from rfl)
  rcases hC0.2.2.2 with hz | ⟨b', off', ha, hc⟩
  · subst hz; simp at z2; omega
  · cases ha
    obtain ⟨Z, rfl⟩ : ∃ Z, z = Z + 1 := ⟨z - 1, by omega⟩
    have hcz := hc Z (by omega)
    obtain ⟨gz, hgz⟩ : ∃ v, v = zs.getD Z 0 := ⟨_, rfl⟩
    rw [← hgz] at hcz
    have HGZ := hidd hgz
    have hzI : ((Z + 1 : Nat) : Int) - 1 = (Z : Int) := by omega
    have hZl : (Z : Int) < (zs.length : Int) := by omega
    have hZ41 : ((Z + 1 : Nat) : Int) ≤ 41 := by omega
    have hZ0 : (0 : Int) ≤ ((Z + 1 : Nat) : Int) := by omega
    obtain ⟨ZZ, hZZ⟩ : ∃ ZZ : Int, ZZ = ((Z + 1 : Nat) : Int) := ⟨_, rfl⟩
    rw [← hZZ] at cZ hzI hZ41 hZ0
    have HZZ := hidd hZZ
    clear hC hC0 hc hgz hY hbs hin hZZ
    gi_wp2
    gi_loopw [6] (fun e wr => ∃ q y : Nat, y = q + 1 ∧ y ≤ Z + 1 ∧ e = .int .i64 (y : Int) ∧ Hid (J (frL zs 2 (Z + 1) q) wr ∧ Caps zs 2 (Z + 1) bp off cap Bp Bz Bk wr ∧ W.heap.size ≤ wr.heap.size)) (fun e _ => Z + 1 - (intOf e).toNat)
    case atStart => exact ⟨0, 1, rfl, by omega, rfl, h0, HCC.out, Nat.le_refl _⟩
    case round =>
      obtain ⟨q, y, hy, hyz, rfl, HR⟩ := hrel
      have HYQ := hidd hy
      have y1 : (1 : Int) ≤ (y : Int) := by omega
      have cP := HR.out.2.1.1.cell (j := 0) (show _ = some (Value.slice (some ⟨bp, off, none⟩) zs.length cap) from rfl)
      have cZ := HR.out.2.1.2.1.cell (j := 0) (show _ = some (Value.int .i64 ((Z + 1 : Nat) : Int)) from rfl)
      have cK := HR.out.2.1.2.2.1.cell (j := 0) (show _ = some (Value.iface 80 (.agg #[])) from rfl)
      rw [← HZZ.out] at cZ
      by_cases hlt : y < Z + 1
      · have hlI : (y : Int) < ZZ := by have := HZZ.out; omega
        clear hy
        have hok := okB_iff (kind := 2) hlI (by omega) (by omega)
        obtain ⟨x, hx⟩ : ∃ x, x = ftX 2 (y : Int) ZZ := ⟨_, rfl⟩
        have hxb : -41 ≤ x ∧ x ≤ 41 := by unfold ftX at hx; split at hx <;> omega
        obtain ⟨x0, x9⟩ := hxb
        have HFR := hidd (show frL zs 2 (Z + 1) (q + 1) = frL zs 2 (Z + 1) q ++ (if ftB zs 2 (y : Int) ZZ = true then [(x, (y : Int), ZZ)] else []) by
          rw [hx, HZZ.out, show (y : Int) = ((q + 1 : Nat) : Int) by rw [HYQ.out]]; rfl)
        have HFB := hidd (show ftB zs 2 (y : Int) ZZ = (okB 2 (y : Int) ZZ && (gI zs x == gI zs (y : Int)) && (gI zs (y : Int) == gI zs ZZ)) by
          rw [hok, hx]; rfl)
        have HGZ2 := hidd (show gI zs ZZ = gz by rw [gI_eq (show ZZ = (Z : Int) + 1 by omega)]; exact HGZ.out.symm)
        have HXX := hidd hx
        have HLE := hidd (fun W' => les88 (y : Int) ZZ W' y1 hlI hZ41)
        obtain ⟨ok, hokk⟩ : ∃ ok, ok = okB 2 (y : Int) ZZ := ⟨_, rfl⟩
        rw [← hx, ← hokk] at HLE
        rw [← hokk] at hok HFB
        have HOK := hidd hok
        clear hx hokk hok
        gi_wp2_with fail
        refine ⟨trivial, (callsIn_wide.2 (HLE.out _)).mono ?_⟩
        rintro e w1 ⟨rfl, hb1⟩
        have K1 := hidd (show J (frL zs 2 (Z + 1) q) w1 ∧ Caps zs 2 (Z + 1) bp off cap Bp Bz Bk w1 ∧ W.heap.size ≤ w1.heap.size from
          ⟨hJ _ _ _ HR.out.1 (hb1.mono HR.out.2.2), HR.out.2.1.same (fun b hb => hb1.block b (Nat.lt_of_lt_of_le (HIN.out b hb) HR.out.2.2)), Nat.le_trans HR.out.2.2 hb1.size⟩)
        clear hb1 cP cZ cK
        have cP := K1.out.2.1.1.cell (j := 0) (show _ = some (Value.slice (some ⟨bp, off, none⟩) zs.length cap) from rfl)
        have cZ := K1.out.2.1.2.1.cell (j := 0) (show _ = some (Value.int .i64 ((Z + 1 : Nat) : Int)) from rfl)
        rw [← HZZ.out] at cZ
        cases ok with
        | false =>
          have HE := hidd (show frL zs 2 (Z + 1) (q + 1) = frL zs 2 (Z + 1) q by
            rw [HFR.out, HFB.out]; simp)
          gi_wp2_with fail
          refine ⟨(fun f h => by cases h), ?_⟩
          gi_wp2_with fail
          go_roundw
          case rel => exact ⟨q + 1, y + 1, by have := HYQ.out; omega, by omega, by go_num, by rw [HE.out]; exact K1.out⟩
          case measure => simp [intOf]; omega
        | true =>
          obtain ⟨x1, x2⟩ : 1 ≤ x ∧ x ≤ (y : Int) := by
            have h := HOK.out
            simp only [Bool.true_eq, Bool.and_eq_true, decide_eq_true_eq] at h
            rw [HXX.out]; exact h.1
          obtain ⟨X, hX⟩ : ∃ X : Nat, x = (X : Int) + 1 := ⟨(x - 1).toNat, by omega⟩
          have hXI : x - 1 = (X : Int) := by omega
          have hyI : (y : Int) - 1 = (q : Int) := by have := HYQ.out; omega
          rcases K1.out.2.1.2.2.2 with hz | ⟨b2, off2, ha, hc⟩
          · subst hz; simp at z2
          · cases ha
            have cX := gI_cell hc hX (by omega)
            have cY := gI_cell hc (show (y : Int) = (q : Int) + 1 by omega) (by have := HYQ.out; omega)
            obtain ⟨gx, hgx⟩ : ∃ v, v = gI zs x := ⟨_, rfl⟩
            obtain ⟨gy, hgy⟩ : ∃ v, v = gI zs (y : Int) := ⟨_, rfl⟩
            rw [← hgx] at cX HFB
            rw [← hgy] at cY HFB
            rw [HGZ2.out] at HFB
            have hXl : (X : Int) < (zs.length : Int) := by omega
            have hql : (q : Int) < (zs.length : Int) := by have := HYQ.out; omega
            have hy41 : (y : Int) ≤ 41 := by omega
            clear hc hX hgx hgy
            cases g1 : (gx == gz) with
            | false =>
              have HE := hidd (show frL zs 2 (Z + 1) (q + 1) = frL zs 2 (Z + 1) q by
                have hne : ((gx == gy) && (gy == gz)) = false := by
                  rw [Bool.eq_false_iff]; intro h
                  rw [Bool.and_eq_true, beq_iff_eq, beq_iff_eq] at h
                  rw [h.1, h.2] at g1; simp at g1
                rw [HFR.out, HFB.out, Bool.true_and, hne]; simp)
              gi_wp2_with fail
              refine ⟨(fun f h => by cases h), ?_⟩
              gi_wp2_with fail
              go_roundw
              case rel => exact ⟨q + 1, y + 1, by have := HYQ.out; omega, by omega, by go_num, by rw [HE.out]; exact K1.out⟩
              case measure => simp [intOf]; omega
            | true =>
              cases g2 : (gy == gz) with
              | false =>
                have HE := hidd (show frL zs 2 (Z + 1) (q + 1) = frL zs 2 (Z + 1) q by
                  rw [HFR.out, HFB.out, g2]; simp)
                gi_wp2_with fail
                refine ⟨(fun f h => by cases h), ?_⟩
                gi_wp2_with fail
                go_roundw
                case rel => exact ⟨q + 1, y + 1, by have := HYQ.out; omega, by omega, by go_num, by rw [HE.out]; exact K1.out⟩
                case measure => simp [intOf]; omega
              | true =>
                have HE := hidd (show frL zs 2 (Z + 1) (q + 1) = frL zs 2 (Z + 1) q ++ [(x, (y : Int), ZZ)] by
                  have hgg : (gx == gy) = true := by
                    rw [beq_iff_eq] at g1 g2 ⊢
                    rw [g1, g2]
                  rw [HFR.out, HFB.out, hgg, g2]; rfl)
                obtain ⟨r, hr⟩ := frL_more zs 2 (Z + 1) (q + 1) (Z - (q + 1))
                have HALL := hidd (show rowL zs 2 (Z + 1) = frL zs 2 (Z + 1) q ++ (x, (y : Int), ZZ) :: r by
                  have hh := HYQ.out
                  rw [show q + 1 + (Z - (q + 1)) = Z + 1 - 1 by omega, HE.out] at hr
                  rw [rowL, hr, List.append_assoc]; rfl)
                obtain ⟨fn, tmps, assign, body, hyy, hR⟩ := HY.out (frL zs 2 (Z + 1) q) (x, (y : Int), ZZ) r w1 HALL.out K1.out.1
                have HRR := hidd hR
                clear hR hr
                dsimp only [encF] at hyy
                gi_wp2
                refine HRR.out.mono ?_
                rintro e W3 ⟨hk3, ⟨rfl, hJ3⟩ | ⟨rfl, hx3⟩⟩
                · have K3 := hidd (show J (frL zs 2 (Z + 1) (q + 1)) W3 ∧ Caps zs 2 (Z + 1) bp off cap Bp Bz Bk W3 ∧ W.heap.size ≤ W3.heap.size from
                    ⟨by rw [HE.out]; exact hJ3, K1.out.2.1.same (fun b hb => hk3.2 b (Nat.lt_of_lt_of_le (HIN.out b hb) K1.out.2.2) (.inr hb)), Nat.le_trans K1.out.2.2 hk3.1⟩)
                  clear hk3 hJ3
                  gi_wp2
                  go_roundw
                  case rel => exact ⟨q + 1, y + 1, by have := HYQ.out; omega, by omega, by go_num, K3.out⟩
                  case measure => simp [intOf]; omega
                · have X3 := hidd hx3
                  clear hx3 hk3
                  gi_wp2
                  refine bodyPost_ret (results_none rfl _ _ _) rfl ?_
                  exact ⟨⟨_, rfl⟩, .inr ⟨_, _, _, HALL.out, X3.out⟩⟩
      · have hyZ : y = Z + 1 := by omega
        have hd : decide ((y : Int) < ZZ) = false := by have := HZZ.out; simp; omega
        have K := hidd (show J (rowL zs 2 (Z + 1)) wr by
          have h := HR.out.1
          rw [show q = Z + 1 - 1 by omega] at h
          exact h)
        clear hy hyZ
        gi_wp2_with fail
        go_end0
        exact ⟨⟨_, rfl⟩, .inl K.out⟩
end Go.Proofs.Ythmjmlmmbmdodaa
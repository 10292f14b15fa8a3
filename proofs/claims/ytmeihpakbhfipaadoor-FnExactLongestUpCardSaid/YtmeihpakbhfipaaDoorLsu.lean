/- l10Ups: the model. -/
import Derived.Test.YtmeihpakbhfipaaDoorLfi
import Derived.Test.YtmeihpakbhfipaaDoorUls
namespace Go.Proofs.YtmeihpakbhfipaaDoor
set_option linter.unusedVariables false
set_option linter.unusedSimpArgs false
open Go Go.RowKit Go.Shelf
theorem lfK_lo {bs : List Nat} {c : Int} {L : Nat → Int} {p : Nat} : ∀ k, k ≤ p + 1 → lfK bs c L p k = 1
  | 0, _ => rfl
  | k + 1, h => by
    rw [lfK, lfK_lo k (by omega)]
    unfold upP
    rw [show decide (p < k) = false by simp; omega]
    simp
/-- The lengths in the round of the point p, behind the first j points. -/
def luT (bs : List Nat) (c : Int) (N d p j q : Nat) : Int := if q = p then lfK bs c (lfA bs c N d) p j else lfA bs c N d q
theorem luT_start (bs : List Nat) (c : Int) (N d p : Nat) : (fl N (lfA bs c N d)).set p 1 = fl N (luT bs c N d p (p + 1)) :=
  fl_set _ _ _ (by unfold luT; rw [if_pos rfl, lfK_lo _ (Nat.le_refl _)]) fun q _ hq => by simp [luT, hq]
theorem luT_yes (bs : List Nat) (c : Int) {N d p j : Nat} (hpj : p < j) (hc : colAt bs (p : Int) (j : Int) = c) : (fl N (luT bs c N d p j)).set p (max (luT bs c N d p j p) (luT bs c N d p j j + 1)) = fl N (luT bs c N d p (j + 1)) :=
  fl_set _ _ _ (by
    unfold luT
    rw [if_pos rfl, if_pos rfl, if_neg (by omega), lfK, if_pos (by unfold upP; simp [hpj, hc])]) fun r _ hr => by simp [luT, hr]
theorem luT_no (bs : List Nat) (c : Int) {N d p j : Nat} (hc : ¬ colAt bs (p : Int) (j : Int) = c) : fl N (luT bs c N d p j) = fl N (luT bs c N d p (j + 1)) :=
  fl_congr fun q _ => by
    unfold luT
    have h : lfK bs c (lfA bs c N d) p (j + 1) = lfK bs c (lfA bs c N d) p j := by rw [lfK, if_neg (by unfold upP; simp [hc])]
    rw [h]
theorem luT_end (bs : List Nat) (c : Int) {N d p : Nat} (hp : p = N - (d + 1)) : fl N (luT bs c N d p N) = fl N (lfA bs c N (d + 1)) := by
  subst hp
  exact fl_congr fun q _ => by unfold luT; rw [lfA]
theorem luT_bd (bs : List Nat) (c : Int) {N d p j q : Nat} (hp : p = N - (d + 1)) (hd : d < N) (hj : j ≤ N) (hq : q < N) : 0 ≤ luT bs c N d p j q ∧ luT bs c N d p j q ≤ N := by
  unfold luT
  split
  · have := lfK_bd (bs := bs) (c := c) (L := lfA bs c N d) (N := N) (p := p) (by omega) j hj (fun r hr hu => lfA_bd bs c d (by omega) r (by have := upP_lt hu; omega) (by omega))
    omega
  · have := lfA_bd0 bs c (N := N) d (by omega) q hq
    omega
/-- The colouring, the lengths as far as they are made, and all that lay before. -/
def RelUs (C : Array Value) (N : Nat) (f : Nat → Int) (w wr : World) : Prop := Blk wr w.heap.size C 28 ∧ Blk wr (w.heap.size + 1) (icells (fl N f)).toArray 2 ∧ Below w.heap.size w wr
theorem RelUs.more {C : Array Value} {N : Nat} {f : Nat → Int} {w wr w2 : World} (h : RelUs C N f w wr) (hb : Below wr.heap.size wr w2) : RelUs C N f w w2 := ⟨h.1.below hb h.1.lt, h.2.1.below hb h.2.1.lt, h.2.2.trans (hb.mono h.2.2.size)⟩
theorem RelUs.drew {C : Array Value} {N : Nat} {f : Nat → Int} {w wr : World} (h : RelUs C N f w wr) : RelUs C N f w wr.drew := h.more (Below.refl _ _).drew
theorem RelUs.store {C : Array Value} {N q : Nat} {f g : Nat → Int} {w wr : World} {v : Int} (h : RelUs C N f w wr) (e : (fl N f).set q v = fl N g) : RelUs C N g w (wr.setCell ⟨w.heap.size + 1, q, none⟩ (.int .i64 v)) :=
  ⟨h.1.other _ _ (by show _ ≠ w.heap.size + 1; omega), fl_store h.2.1 e, h.2.2.setCell (p := ⟨w.heap.size + 1, q, none⟩) (by show _ ≤ w.heap.size + 1; omega) _⟩
set_option maxRecDepth 100000 in
set_option maxHeartbeats 4000000 in
theorem ups48 (N : Nat) (k : Int) (bs : List Nat) (hb : Bys bs) (c : Int) (N1 : 1 ≤ N) (N2 : N ≤ 17) (w : World) :
    Calls Tryd.prog 48 #[.agg (ccells (N : Int) k bs).toArray, .int .i64 c] w fun e w' => e = .returned (.slice (some ⟨w.heap.size + 1, 0, none⟩) N N) ∧ Blk w' (w.heap.size + 1) (icells (fl N (lfV bs c N))).toArray 2 ∧ Below w.heap.size w w' := by
  have HS := hidd (size_c26 (N : Int) k hb)
  have HC0 := hidd (show (ccells (N : Int) k bs).toArray[0]? = some (.int .i64 (N : Int)) from rfl)
  have HAT := hidd (fun (i j : Nat) (hi : i < N) (hj : j < N) (hij : i ≠ j) W => at57 (N : Int) k bs hb (N : Int) (i : Int) (j : Int) W (by omega) (by omega) (by omega) (by omega) (by omega) (by omega))
  have hmk := make29 N (by omega)
  rw [zrow_icells] at hmk
  have HR0 := hidd (show RelUs (ccells (N : Int) k bs).toArray N (lfA bs c N 0) w ((w.alloc (.cells (ccells (N : Int) k bs).toArray 28)).alloc (.cells (icells (List.replicate N 0)).toArray 2)) from
    ⟨(Blk.new _ _ _ _ rfl).alloc _, by
      rw [show fl N (lfA bs c N 0) = List.replicate N 0 by
        apply List.ext_getElem
        · rw [fl_len]; simp
        · intro q h1 h2
          simp [fl, lfA]]
      exact Blk.new _ _ _ _ (by simp), ((Below.refl _ _).alloc (Nat.le_refl _) _).alloc (by simp) _⟩)
  have hc00 := (Blk.new w (ccells (N : Int) k bs).toArray 28 _ rfl).cell HC0.out
  have hcA : ((w.alloc (.cells (ccells (N : Int) k bs).toArray 28)).alloc (.cells (icells (List.replicate N 0)).toArray 2)).cell? ⟨w.heap.size, 0, none⟩ = some (.int .i64 (N : Int)) := HR0.out.1.cell HC0.out
  have hwN : IntKind.i64.wrap ((N : Int) - 1) = (N : Int) - 1 := IntWalk.i64_in _ (by omega)
  go_enter Tryd.func48, Tryd.ntmps48
  go_wp2_with fail
  clear hc00 hcA hwN hmk
  go_loopw [6] (fun e wr => ∃ (d : Nat) (z : Int), d ≤ N ∧ z + 1 + d = N ∧ e = .int .i64 z ∧ RelUs (ccells (N : Int) k bs).toArray N (lfA bs c N d) w wr) (fun e _ => (intOf e + 1).toNat)
  case atStart => exact ⟨0, (N : Int) - 1, by omega, by omega, rfl, HR0.out⟩
  case round =>
    obtain ⟨d, z, hd, hz, rfl, HR⟩ := hrel
    have HK := hidd HR
    clear HR
    by_cases hlt : d < N
    · obtain ⟨p, hp⟩ : ∃ p : Nat, p = N - (d + 1) := ⟨_, rfl⟩
      obtain rfl : z = (p : Int) := by omega
      have hpN : p < N := by omega
      have HP := hidd hp
      have hpI : (p : Int) < (N : Int) := by omega
      have hp0 : (0 : Int) ≤ (p : Int) := by omega
      have cp := fl_cell HK.out.2.1 hpN
      have fp := HK.out.2.1.fro p
      have K2 := hidd (HK.out.store (luT_start bs c N d p))
      have hwp : IntKind.i64.wrap ((p : Int) + 1) = (p : Int) + 1 := IntWalk.i64_in _ (by omega)
      clear hp hz
      go_wp2_with fail
      clear cp fp hwp
      go_loopw [7] (fun e wr => ∃ j : Nat, p < j ∧ j ≤ N ∧ e = .int .i64 (j : Int) ∧ RelUs (ccells (N : Int) k bs).toArray N (luT bs c N d p j) w wr) (fun e _ => N - (intOf e).toNat)
      case atStart => exact ⟨p + 1, by omega, by omega, by go_num, K2.out⟩
      case round =>
        obtain ⟨j, hpj, hj, rfl, HR⟩ := hrel
        have c0 := HR.1.cell HC0.out
        have HK2 := hidd HR
        clear HR
        by_cases hjl : j < N
        · have A1 := hidd (HAT.out p j hpN hjl (by omega))
          have hjI : (j : Int) < (N : Int) := by omega
          have hj0 : (0 : Int) ≤ (j : Int) := by omega
          have HY := hidd (fun h => luT_yes bs c (N := N) (d := d) hpj h)
          have HN := hidd (fun h => luT_no bs c (N := N) (d := d) (p := p) (j := j) h)
          have hbp := luT_bd bs c (j := j) HP.out hlt hj hpN
          have hbj := luT_bd bs c (j := j) HP.out hlt hj hjl
          have hwj : IntKind.i64.wrap ((j : Int) + 1) = (j : Int) + 1 := IntWalk.i64_in _ (by omega)
          by_cases hx : colAt bs (p : Int) (j : Int) = c
          · have HS2 := hidd (fun wX (h : RelUs (ccells (N : Int) k bs).toArray N (luT bs c N d p j) w wX) => h.store (HY.out hx))
            have ex : (colAt bs (p : Int) (j : Int) == c) = true := by simpa using hx
            generalize colAt bs (p : Int) (j : Int) = x at A1 ex hx
            clear hx HY HN
            go_wp2_with (refine wpList_load_row rfl 28 (.tmp 2) rfl w.heap.size rfl 28 _ (0,0) _ HK2.out.1 Tryd.underlying28 rfl HS.out ?_)
            refine (A1.out _).mono ?_
            rintro e w5 ⟨rfl, hb3⟩
            have G5 := hidd (HK2.out.more hb3)
            have HCJ := hidd (fun wX (h : RelUs (ccells (N : Int) k bs).toArray N (luT bs c N d p j) w wX) => fl_cell h.2.1 hjl)
            have HCP := hidd (fun wX (h : RelUs (ccells (N : Int) k bs).toArray N (luT bs c N d p j) w wX) => fl_cell h.2.1 hpN)
            obtain ⟨u, hu⟩ : ∃ u, u = luT bs c N d p j j := ⟨_, rfl⟩
            obtain ⟨y, hy⟩ : ∃ y, y = luT bs c N d p j p := ⟨_, rfl⟩
            rw [← hu] at HCJ hbj HS2
            rw [← hy] at HCP hbp HS2
            have hwu : IntKind.i64.wrap (u + 1) = u + 1 := IntWalk.i64_in _ (by omega)
            clear hb3 hu hy hbj hbp c0
            go_wp2_with fail
            refine wp_region_last_lit 13 (fun w' => RelUs (ccells (N : Int) k bs).toArray N (luT bs c N d p j) w w') rfl rfl (by kernel_rfl) (G5.out.drew) (by kernel_rfl) (by kernel_rfl) (by kernel_rfl) ?_
            simp only [List.take_succ_cons, List.take_zero, List.cons_append, List.nil_append, idle]
            refine qs rfl (fun KQ hKQ => ?_)
            apply Exists.intro
            refine ⟨fun w' hw' => ?_, ?_⟩
            · go_simp; exact rfl
            go_simp
            refine hKQ _ ?_
            clear hKQ KQ
            refine qs rfl (fun KQ hKQ => ?_)
            apply Exists.intro
            refine ⟨fun w' hw' => ?_, ?_⟩
            · go_simp; exact rfl
            go_simp
            refine hKQ _ ?_
            clear hKQ KQ
            refine qs rfl (fun KQ hKQ => ?_)
            apply Exists.intro
            refine ⟨fun w' hw' => ?_, ?_⟩
            · go_simp; exact rfl
            go_simp
            refine hKQ _ ?_
            clear hKQ KQ
            refine qs rfl (fun KQ hKQ => ?_)
            apply Exists.intro
            refine ⟨fun w' hw' => ?_, ?_⟩
            · go_simp; exact rfl
            go_simp
            refine hKQ _ ?_
            clear hKQ KQ
            refine qs rfl (fun KQ hKQ => ?_)
            apply Exists.intro
            refine ⟨fun w' hw' => ?_, ?_⟩
            · go_simp; exact rfl
            go_simp
            refine hKQ _ ?_
            clear hKQ KQ
            refine qs rfl (fun KQ hKQ => ?_)
            apply Exists.intro
            refine ⟨fun w' hw' => ?_, ?_⟩
            · have hc := HCP.out w' hw'; go_simp; exact rfl
            go_simp
            refine hKQ _ ?_
            clear hKQ KQ
            refine qs rfl (fun KQ hKQ => ?_)
            apply Exists.intro
            refine ⟨fun w' hw' => ?_, ?_⟩
            · go_simp; exact rfl
            go_simp
            refine hKQ _ ?_
            clear hKQ KQ
            refine qs rfl (fun KQ hKQ => ?_)
            apply Exists.intro
            refine ⟨fun w' hw' => ?_, ?_⟩
            · go_simp; exact rfl
            go_simp
            refine hKQ _ ?_
            clear hKQ KQ
            refine qs rfl (fun KQ hKQ => ?_)
            apply Exists.intro
            refine ⟨fun w' hw' => ?_, ?_⟩
            · go_simp; exact rfl
            go_simp
            refine hKQ _ ?_
            clear hKQ KQ
            refine qs rfl (fun KQ hKQ => ?_)
            apply Exists.intro
            refine ⟨fun w' hw' => ?_, ?_⟩
            · have hc := HCJ.out w' hw'; go_simp; exact rfl
            go_simp
            refine hKQ _ ?_
            clear hKQ KQ
            refine qs rfl (fun KQ hKQ => ?_)
            apply Exists.intro
            refine ⟨fun w' hw' => ?_, ?_⟩
            · go_simp; exact rfl
            go_simp
            refine hKQ _ ?_
            clear hKQ KQ
            refine qs rfl (fun KQ hKQ => ?_)
            apply Exists.intro
            refine ⟨fun w' hw' => ?_, ?_⟩
            · go_simp; exact rfl
            go_simp
            refine hKQ _ ?_
            clear hKQ KQ
            refine qs rfl (fun KQ hKQ => ?_)
            apply Exists.intro
            refine ⟨fun w' hw' => ?_, ?_⟩
            · go_simp; exact rfl
            go_simp
            refine hKQ _ ?_
            clear hKQ KQ
            refine qs rfl (fun KQ hKQ => ?_)
            apply Exists.intro
            refine ⟨fun w' hw' => ?_, ?_⟩
            · go_simp; exact rfl
            go_simp
            refine hKQ _ ?_
            clear hKQ KQ
            refine wpQuiet_nil ?_
            intro w' hw'
            have cE := HCP.out w' hw'
            have fE := hw'.2.1.fro p
            have hs3 := HS2.out w' hw'
            rw [mx_if] at hs3
            have HS3 := hidd hs3
            clear hs3
            clear hw'
            go_wp2_with fail
            go_roundw
            case rel => exact ⟨j + 1, by omega, by omega, by go_num, HS3.out⟩
            case measure => simp [intOf]; omega
          · have ex : (colAt bs (p : Int) (j : Int) == c) = false := by rw [beq_eq_false_iff_ne]; exact hx
            have HE := hidd (HN.out hx)
            generalize colAt bs (p : Int) (j : Int) = x at A1 ex hx
            clear hx HY HN
            go_wp2_with (refine wpList_load_row rfl 28 (.tmp 2) rfl w.heap.size rfl 28 _ (0,0) _ HK2.out.1 Tryd.underlying28 rfl HS.out ?_)
            refine (A1.out _).mono ?_
            rintro e w5 ⟨rfl, hb3⟩
            have G5 := hidd (show RelUs (ccells (N : Int) k bs).toArray N (luT bs c N d p (j + 1)) w w5 by have h := HK2.out.more hb3; unfold RelUs at h ⊢; rw [HE.out] at h; exact h)
            clear hb3 c0
            go_wp2_with fail
            go_roundw
            case rel => exact ⟨j + 1, by omega, by omega, by go_num, G5.out⟩
            case measure => simp [intOf]; omega
        · obtain rfl : j = N := by omega
          have HE := hidd (luT_end bs c HP.out)
          have G5 := hidd (show RelUs (ccells (j : Int) k bs).toArray j (lfA bs c j (d + 1)) w wr by have h := HK2.out; unfold RelUs at h ⊢; rw [HE.out] at h; exact h)
          have hwp : IntKind.i64.wrap ((p : Int) - 1) = (p : Int) - 1 := IntWalk.i64_in _ (by omega)
          go_wp2_with fail
          go_roundw
          case rel => exact ⟨d + 1, (p : Int) - 1, by omega, by have := HP.out; omega, rfl, G5.out⟩
          case measure => simp [intOf]
    · obtain rfl : d = N := by omega
      obtain rfl : z = -1 := by omega
      go_wp2_with fail
      go_ret
      exact ⟨rfl, HK.out.2.1, HK.out.2.2⟩
end Go.Proofs.YtmeihpakbhfipaaDoor

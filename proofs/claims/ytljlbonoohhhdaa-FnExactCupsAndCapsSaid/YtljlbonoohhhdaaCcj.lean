/- l10Chain and CupsAndCaps: the model. -/
import Derived.Test.YtljlbonoohhhdaaCci
namespace Go.Proofs.Ytljlbonoohhhdaa
set_option linter.unusedVariables false
set_option linter.unusedSimpArgs false
open Go Go.RowKit Go.Shelf
attribute [local go_sem] Oper.semAt_some
theorem infoS : (Try.prog.info? 22).map (fun i => (i.zero, i.size, i.bytes)) = some (some (.slice none 0 0), 1, 24) := by kernel_rfl
set_option maxRecDepth 100000 in
set_option maxHeartbeats 4000000 in
theorem chain37 (s : Int) (hs1 : s = 1 ∨ s = -1) (L : List (List Int)) (hr : rowB L = true) (a : Option Addr) (cap : Nat) (w : World) (hs : LLa w a L) :
    Calls Try.prog 37 #[.slice a L.length cap, .int .i64 s] w fun e w' => e = .returned (.int .i64 (cpJ (cupV (upS s (xL L) (yL L))) L.length)) ∧ Below w.heap.size w w' := by
  obtain ⟨n1, n2, hok⟩ := rowB_bd hr
  rcases hs with hz | ⟨g0, o, rfl, hc⟩
  · subst hz; simp at n1
  obtain ⟨n, hn⟩ : ∃ n, n = L.length := ⟨_, rfl⟩
  have HPT := hidd (fun (i : Nat) (hi : i < n) (wX : World) (hb : Below w.heap.size w wX) => (show ∃ b q c, wX.cell? ⟨g0, o + i, none⟩ = some (.slice (some ⟨b, q, none⟩) 2 c) ∧ wX.cell? ⟨b, q, none⟩ = some (.int .i64 (xL L i)) ∧ wX.cell? ⟨b, q + 1, none⟩ = some (.int .i64 (yL L i)) by
    obtain ⟨b, c, h1, h2⟩ := hc i (by omega)
    obtain ⟨b', q, e, cx, cy⟩ := two_at (h2.below hb (Nat.le_refl _)) (hok i (by omega)).1
    subst e
    rw [(hok i (by omega)).1] at h1
    exact ⟨b', q, c, (hb.cell (p := ⟨g0, o + i, none⟩) (block_lt_of_cell h1)).trans h1, cx, cy⟩))
  have HIN := hidd (fun i (hi : i < n) => And.intro (hok i (by omega)).2.1 (hok i (by omega)).2.2.1)
  obtain ⟨X, hX⟩ : ∃ X, X = xL L := ⟨_, rfl⟩
  obtain ⟨Y, hY⟩ : ∃ Y, Y = yL L := ⟨_, rfl⟩
  rw [← hX, ← hY] at HPT HIN ⊢
  rw [← hn] at n1 n2 ⊢
  have HS1 := hidd hs1
  have HLN := hidd hn
  obtain ⟨V, hV⟩ : ∃ V, V = cupV (upS s X Y) := ⟨_, rfl⟩
  have HV := hidd hV
  rw [← hV]
  clear hX hY hc hok hr hn hV hs1
  have hmk := make29 n (by omega)
  rw [show zrow n = (icells (fl n fun _ => 0)).toArray by rw [zrow_icells]; congr 1; congr 1; apply List.ext_getElem <;> simp [fl]] at hmk
  obtain ⟨t0, hi2, hz0, hz1, hz3⟩ := info_parts infoS
  have HIF := hidd (And.intro hi2 (And.intro hz0 (And.intro hz1 hz3)))
  have HR0 := hidd (show RelAp n w 0 (.slice (some ⟨w.heap.size, 0, none⟩) 0 0) (w.alloc (.cells #[] 22)) from
    ⟨fun _ => 0, ⟨rfl, .inr ⟨w.heap.size, 0, #[], rfl, Nat.le_refl _, Blk.new _ _ _ _ rfl, Nat.le_refl _, by simp [maxLen], rfl, rfl⟩⟩, fun i hi => by omega, fun i i' hi => by omega, fun i hi => by omega, (Below.refl _ _).alloc (Nat.le_refl _) _⟩)
  clear hi2 hz0 hz1 hz3
  go_enter Try.func37, Try.ntmps37
  go_wp2_with fail
  go_loopw [7, 8] (fun v e wr => ∃ j : Nat, j ≤ n ∧ e = .int .i64 (j : Int) ∧ Hid (RelAp n w j v wr)) (fun _ e _ => n - (intOf e).toNat)
  case atStart => exact ⟨0, Nat.zero_le _, rfl, HR0⟩
  case round =>
    obtain ⟨j, hj, rfl, HR⟩ := hrel
    by_cases hlt : j < n
    · obtain ⟨A, hA, h2, h3, h4, h5⟩ := HR.out
      have HA := hidd (And.intro h2 (And.intro h3 (And.intro h4 (And.intro h5 hA))))
      have hsz := h5.size
      clear h2 h3 h4 h5
      go_wp2_with (at_builtin; refine wpList_append_own _ rfl _ _ 40 rfl w.heap.size 22 t0 (.slice none 0 0) 1 24 under40 HIF.out.1 HIF.out.2.1 HIF.out.2.2.1 HIF.out.2.2.2 rfl (by decide) _ _ _ rfl ((hA.alloc _).alloc _) ⟨wr.heap.size + 1, 0, none⟩ 1 1 [.slice (some ⟨wr.heap.size, 0, none⟩) n n] rfl rfl ?c1 ?c2 ?c3 ?c4 ?c5 ?_)
      case c1 => simpa using one_new (wr.alloc (.cells (icells (fl n fun _ => 0)).toArray 2)) (.slice (some ⟨wr.heap.size, 0, none⟩) n n) _
      case c2 => intro u hu; simp at hu; subst hu; rfl
      case c3 => unfold maxLen; omega
      case c4 => omega
      case c5 => simp; omega
      intro v' w3 hown' hgrow _
      have K3 := hidd (RelAp.step HA.out.2.2.2.2 HA.out.1 HA.out.2.1 HA.out.2.2.1 HA.out.2.2.2.1 hown' hgrow)
      clear hown' hgrow hA
      go_wp2_with fail
      go_roundw
      case rel => exact ⟨j + 1, by omega, by go_num, K3⟩
      case measure => simp [intOf]; omega
    · obtain rfl : j = n := by omega
      obtain ⟨g, capv, A, rfl, hApt, hRw⟩ := HR.out.out n1 V
      have HAP := hidd hApt
      have HR1 := hidd hRw
      clear hApt hRw hmk
      go_wp2_with fail
      go_loopw [6, 9] (fun b e wr => ∃ J : Nat, 1 ≤ J ∧ J ≤ j ∧ e = .int .i64 (J : Int) ∧ b = .int .i64 (cpJ V J) ∧ Hid (RelRw j g A (fS V J 0 0) w wr)) (fun _ e _ => j - (intOf e).toNat)
      case atStart => exact ⟨1, Nat.le_refl _, n1, rfl, by rfl, HR1⟩
      case round =>
        obtain ⟨J, hJ1, hJ, rfl, rfl, HR2⟩ := hrel
        by_cases hJl : J < j
        · have cJ := HR2.out.1 J hJl
          go_wp2_with fail
          clear cJ
          go_loopw [6, 11] (fun b e wr => ∃ I : Nat, I ≤ J ∧ e = .int .i64 (I : Int) ∧ b = .int .i64 (cpI V J (cpJ V J) I) ∧ Hid (RelRw j g A (fS V J I 0) w wr)) (fun _ e _ => J - (intOf e).toNat)
          case atStart => exact ⟨0, Nat.zero_le _, rfl, rfl, HR2⟩
          case round =>
            obtain ⟨I, hI, rfl, rfl, HR3⟩ := hrel
            by_cases hIl : I < J
            · have hIj : I < j := by omega
              have cI := fl_cell (HR3.out.2.1 J hJl) hIj
              have fI := (HR3.out.2.1 J hJl).fro I
              have HR4 := hidd (HR3.out.store (G := fS V J I 2) HAP.out hJl hIj (by unfold fS; rw [if_neg (by omega), if_neg (by omega), if_pos ⟨rfl, rfl⟩]) (fun a b _ _ h => by
                unfold fS
                rw [if_neg h, if_neg h]))
              obtain ⟨u0, hu0⟩ : ∃ u, u = fS V J I 0 J I := ⟨_, rfl⟩
              rw [← hu0] at cI
              have hII : (I : Int) < (j : Int) := by omega
              clear hu0
              go_wp2_with fail
              clear cI fI
              go_loopw [12] (fun e wr => ∃ h : Nat, h ≤ I ∧ e = .int .i64 (h : Int) ∧ Hid (RelRw j g A (fS V J I (cupK (upS s X Y) (fun h => V h I) I J h)) w wr)) (fun e _ => I - (intOf e).toNat)
              case atStart => exact ⟨0, Nat.zero_le _, rfl, HR4⟩
              case round =>
                obtain ⟨h, hh, rfl, HR5⟩ := hrel
                by_cases hhl : h < I
                · obtain ⟨b0, q0, c0, p0, x0, y0⟩ := HPT.out h (by omega) wr HR5.out.2.2
                  obtain ⟨b1, q1, c1, p1, x1, y1⟩ := HPT.out I hIj wr HR5.out.2.2
                  obtain ⟨b2, q2, c2, p2, x2, y2⟩ := HPT.out J hJl wr HR5.out.2.2
                  obtain ⟨i0, k0⟩ := HIN.out h (by omega)
                  obtain ⟨i1, k1⟩ := HIN.out I hIj
                  obtain ⟨i2, k2⟩ := HIN.out J hJl
                  have hbd := bnd_bd (X := X) (Y := Y) (i := h) (j := I) (l := J) (fun q hq => by rcases hq with rfl | rfl | rfl <;> assumption) (fun q hq => by rcases hq with rfl | rfl | rfl <;> assumption)
                  have HBE := hidd (show (Y J - Y I) * (X I - X h) - (Y I - Y h) * (X J - X I) = bnd X Y h I J from rfl)
                  have HBD := hidd (fun (w' : World) (hw' : Below wr.heap.size wr w') => bend51 (X h) (Y h) (X I) (Y I) (X J) (Y J) i0 k0 i1 k1 i2 k2 b0 b1 b2 q0 q1 q2 c0 c1 c2 w'
                    ((hw'.cell (p := ⟨b0, q0, none⟩) (block_lt_of_cell x0)).trans x0) ((hw'.cell (p := ⟨b0, q0 + 1, none⟩) (block_lt_of_cell y0)).trans y0)
                    ((hw'.cell (p := ⟨b1, q1, none⟩) (block_lt_of_cell x1)).trans x1) ((hw'.cell (p := ⟨b1, q1 + 1, none⟩) (block_lt_of_cell y1)).trans y1)
                    ((hw'.cell (p := ⟨b2, q2, none⟩) (block_lt_of_cell x2)).trans x2) ((hw'.cell (p := ⟨b2, q2 + 1, none⟩) (block_lt_of_cell y2)).trans y2))
                  rw [HBE.out] at HBD
                  obtain ⟨D, hD⟩ : ∃ D, D = bnd X Y h I J := ⟨_, rfl⟩
                  rw [← hD] at HBD hbd
                  have HD := hidd hD
                  have hws : IntKind.i64.wrap (s * D) = s * D := IntWalk.i64_in _ (by rcases HS1.out with e | e <;> rw [e] <;> omega)
                  have hhN : h < j := by omega
                  have hhj : (h : Int) < (j : Int) := by omega
                  have hJL : (J : Int) < (j : Int) := by omega
                  clear x0 y0 x1 y1 x2 y2 i0 k0 i1 k1 i2 k2 hD hbd
                  go_wp2_with fail
                  refine wp_region_quiet_at (fun w' => Below wr.heap.size wr w') rfl (by kernel_rfl) ((Below.refl _ _).drew) ?_
                  refine qs rfl (fun KQ hKQ => ?_)
                  apply Exists.intro
                  refine ⟨fun w' hw' => ?_, ?_⟩
                  · go_simp; exact rfl
                  go_simp
                  refine hKQ _ ?_
                  clear hKQ KQ
                  refine qs rfl (fun KQ hKQ => ?_)
                  apply Exists.intro
                  refine ⟨fun w' hw' => ?_, ?_⟩
                  · go_simp; exact rfl
                  go_simp
                  refine hKQ _ ?_
                  clear hKQ KQ
                  refine qs rfl (fun KQ hKQ => ?_)
                  apply Exists.intro
                  refine ⟨fun w' hw' => ?_, ?_⟩
                  · go_simp; exact rfl
                  go_simp
                  refine hKQ _ ?_
                  clear hKQ KQ
                  refine qs rfl (fun KQ hKQ => ?_)
                  apply Exists.intro
                  refine ⟨fun w' hw' => ?_, ?_⟩
                  · go_simp; exact rfl
                  go_simp
                  refine hKQ _ ?_
                  clear hKQ KQ
                  refine qs rfl (fun KQ hKQ => ?_)
                  apply Exists.intro
                  refine ⟨fun w' hw' => ?_, ?_⟩
                  · have hc := (hw'.cell (p := ⟨g0, o + h, none⟩) (block_lt_of_cell p0)).trans p0; go_simp; exact rfl
                  go_simp
                  refine hKQ _ ?_
                  clear hKQ KQ
                  refine qs rfl (fun KQ hKQ => ?_)
                  apply Exists.intro
                  refine ⟨fun w' hw' => ?_, ?_⟩
                  · go_simp; exact rfl
                  go_simp
                  refine hKQ _ ?_
                  clear hKQ KQ
                  refine qs rfl (fun KQ hKQ => ?_)
                  apply Exists.intro
                  refine ⟨fun w' hw' => ?_, ?_⟩
                  · go_simp; exact rfl
                  go_simp
                  refine hKQ _ ?_
                  clear hKQ KQ
                  refine qs rfl (fun KQ hKQ => ?_)
                  apply Exists.intro
                  refine ⟨fun w' hw' => ?_, ?_⟩
                  · go_simp; exact rfl
                  go_simp
                  refine hKQ _ ?_
                  clear hKQ KQ
                  refine qs rfl (fun KQ hKQ => ?_)
                  apply Exists.intro
                  refine ⟨fun w' hw' => ?_, ?_⟩
                  · have hc := (hw'.cell (p := ⟨g0, o + I, none⟩) (block_lt_of_cell p1)).trans p1; go_simp; exact rfl
                  go_simp
                  refine hKQ _ ?_
                  clear hKQ KQ
                  refine qs rfl (fun KQ hKQ => ?_)
                  apply Exists.intro
                  refine ⟨fun w' hw' => ?_, ?_⟩
                  · go_simp; exact rfl
                  go_simp
                  refine hKQ _ ?_
                  clear hKQ KQ
                  refine qs rfl (fun KQ hKQ => ?_)
                  apply Exists.intro
                  refine ⟨fun w' hw' => ?_, ?_⟩
                  · go_simp; exact rfl
                  go_simp
                  refine hKQ _ ?_
                  clear hKQ KQ
                  refine qs rfl (fun KQ hKQ => ?_)
                  apply Exists.intro
                  refine ⟨fun w' hw' => ?_, ?_⟩
                  · go_simp; exact rfl
                  go_simp
                  refine hKQ _ ?_
                  clear hKQ KQ
                  refine qs rfl (fun KQ hKQ => ?_)
                  apply Exists.intro
                  refine ⟨fun w' hw' => ?_, ?_⟩
                  · have hc := (hw'.cell (p := ⟨g0, o + J, none⟩) (block_lt_of_cell p2)).trans p2; go_simp; exact rfl
                  go_simp
                  refine hKQ _ ?_
                  clear hKQ KQ
                  refine qs rfl (fun KQ hKQ => ?_)
                  apply Exists.intro
                  refine ⟨fun w' hw' => ?_, ?_⟩
                  · go_simp; exact (HBD.out _ hw').mono fun _ _ h => ⟨h.1, hw'.trans (h.2.mono hw'.size)⟩
                  go_simp
                  refine hKQ _ ?_
                  clear hKQ KQ
                  refine qs rfl (fun KQ hKQ => ?_)
                  apply Exists.intro
                  refine ⟨fun w' hw' => ?_, ?_⟩
                  · go_simp; exact rfl
                  go_simp
                  refine hKQ _ ?_
                  clear hKQ KQ
                  refine qs rfl (fun KQ hKQ => ?_)
                  apply Exists.intro
                  refine ⟨fun w' hw' => ?_, ?_⟩
                  · go_simp; exact rfl
                  go_simp
                  refine hKQ _ ?_
                  clear hKQ KQ
                  refine wpQuiet_nil ?_
                  intro w' hw'
                  have HR6 := hidd (HR5.out.more hw')
                  clear hw' p0 p1 p2
                  obtain ⟨E, hE⟩ : ∃ E, E = s * D := ⟨_, rfl⟩
                  rw [← hE]
                  have HEE := hidd hE
                  clear hE hws
                  by_cases hdb : E > 0
                  · have hdd : decide (E > 0) = true := decide_eq_true hdb
                    have hdd1 : decide (0 < E) = true := decide_eq_true hdb
                    have HST := hidd (show (cupK (upS s X Y) (fun h => V h I) I J (h + 1)) = if (cupK (upS s X Y) (fun h => V h I) I J h) < V h I + 1 then V h I + 1 else (cupK (upS s X Y) (fun h => V h I) I J h) by
                      rw [cupK, if_pos (by unfold upS; rw [← HD.out, ← HEE.out]; exact hdd), Int.max_def]; split <;> split <;> omega)
                    have hvb : 2 ≤ V h I ∧ V h I ≤ h + 2 := by rw [HV.out]; exact cupV_bd _ _ _
                    obtain ⟨z, hz⟩ : ∃ z, z = (cupK (upS s X Y) (fun h => V h I) I J h) := ⟨_, rfl⟩
                    rw [← hz] at HR6 HST
                    have HCO := hidd (fun wX (k : RelRw j g A (fS V J I z) w wX) => (show wX.cell? ⟨A J, I, none⟩ = some (.int .i64 z) by
                      have h1 := fl_cell (k.2.1 J hJl) hIj
                      rwa [show fS V J I z J I = z by unfold fS; rw [if_neg (by omega), if_neg (by omega), if_pos ⟨rfl, rfl⟩]] at h1))
                    have HCL := hidd (fun wX (k : RelRw j g A (fS V J I z) w wX) => (show wX.cell? ⟨A I, h, none⟩ = some (.int .i64 (V h I)) by
                      have h1 := fl_cell (k.2.1 I hIj) (show h < j by omega)
                      rwa [show fS V J I z I h = V h I by unfold fS; rw [if_pos ⟨hIl, hhl⟩]] at h1))
                    have HCI := hidd (fun wX (k : RelRw j g A (fS V J I z) w wX) => k.1 I hIj)
                    have HCF := hidd (fun wX (k : RelRw j g A (fS V J I z) w wX) => (k.2.1 J hJl).fro I)
                    have HNX := hidd (fun wX (k : RelRw j g A (fS V J I z) w wX) => k.store (G := fS V J I (cupK (upS s X Y) (fun h => V h I) I J (h + 1))) HAP.out hJl hIj (by unfold fS; rw [if_neg (by omega), if_neg (by omega), if_pos ⟨rfl, rfl⟩]) (fun a b _ _ hne => by
                      unfold fS
                      rw [if_neg hne, if_neg hne]))
                    obtain ⟨y, hy⟩ : ∃ y, y = V h I := ⟨_, rfl⟩
                    rw [HST.out] at HNX
                    rw [← hy] at HNX HCL hvb HST
                    have hwy : IntKind.i64.wrap (y + 1) = y + 1 := IntWalk.i64_in _ (by omega)
                    clear hz hy hvb
                    go_wp2_with fail
                    refine wp_region_last_lit 16 (fun w' => RelRw j g A (fS V J I z) w w') rfl rfl (by kernel_rfl) (HR6.out.drew) (by kernel_rfl) (by kernel_rfl) (by kernel_rfl) ?_
                    simp only [List.take_succ_cons, List.take_zero, List.cons_append, List.nil_append, idle]
                    refine qs rfl (fun KQ hKQ => ?_)
                    apply Exists.intro
                    refine ⟨fun w' hw' => ?_, ?_⟩
                    · go_simp; exact rfl
                    go_simp
                    refine hKQ _ ?_
                    clear hKQ KQ
                    refine qs rfl (fun KQ hKQ => ?_)
                    apply Exists.intro
                    refine ⟨fun w' hw' => ?_, ?_⟩
                    · go_simp; exact rfl
                    go_simp
                    refine hKQ _ ?_
                    clear hKQ KQ
                    refine qs rfl (fun KQ hKQ => ?_)
                    apply Exists.intro
                    refine ⟨fun w' hw' => ?_, ?_⟩
                    · go_simp; exact rfl
                    go_simp
                    refine hKQ _ ?_
                    clear hKQ KQ
                    refine qs rfl (fun KQ hKQ => ?_)
                    apply Exists.intro
                    refine ⟨fun w' hw' => ?_, ?_⟩
                    · go_simp; exact rfl
                    go_simp
                    refine hKQ _ ?_
                    clear hKQ KQ
                    refine qs rfl (fun KQ hKQ => ?_)
                    apply Exists.intro
                    refine ⟨fun w' hw' => ?_, ?_⟩
                    · go_simp; exact rfl
                    go_simp
                    refine hKQ _ ?_
                    clear hKQ KQ
                    refine qs rfl (fun KQ hKQ => ?_)
                    apply Exists.intro
                    refine ⟨fun w' hw' => ?_, ?_⟩
                    · have hc := HCO.out w' hw'; go_simp; exact rfl
                    go_simp
                    refine hKQ _ ?_
                    clear hKQ KQ
                    refine qs rfl (fun KQ hKQ => ?_)
                    apply Exists.intro
                    refine ⟨fun w' hw' => ?_, ?_⟩
                    · go_simp; exact rfl
                    go_simp
                    refine hKQ _ ?_
                    clear hKQ KQ
                    refine qs rfl (fun KQ hKQ => ?_)
                    apply Exists.intro
                    refine ⟨fun w' hw' => ?_, ?_⟩
                    · go_simp; exact rfl
                    go_simp
                    refine hKQ _ ?_
                    clear hKQ KQ
                    refine qs rfl (fun KQ hKQ => ?_)
                    apply Exists.intro
                    refine ⟨fun w' hw' => ?_, ?_⟩
                    · go_simp; exact rfl
                    go_simp
                    refine hKQ _ ?_
                    clear hKQ KQ
                    refine qs rfl (fun KQ hKQ => ?_)
                    apply Exists.intro
                    refine ⟨fun w' hw' => ?_, ?_⟩
                    · have hc := HCI.out w' hw'; go_simp; exact rfl
                    go_simp
                    refine hKQ _ ?_
                    clear hKQ KQ
                    refine qs rfl (fun KQ hKQ => ?_)
                    apply Exists.intro
                    refine ⟨fun w' hw' => ?_, ?_⟩
                    · go_simp; exact rfl
                    go_simp
                    refine hKQ _ ?_
                    clear hKQ KQ
                    refine qs rfl (fun KQ hKQ => ?_)
                    apply Exists.intro
                    refine ⟨fun w' hw' => ?_, ?_⟩
                    · go_simp; exact rfl
                    go_simp
                    refine hKQ _ ?_
                    clear hKQ KQ
                    refine qs rfl (fun KQ hKQ => ?_)
                    apply Exists.intro
                    refine ⟨fun w' hw' => ?_, ?_⟩
                    · have hc := HCL.out w' hw'; go_simp; exact rfl
                    go_simp
                    refine hKQ _ ?_
                    clear hKQ KQ
                    refine qs rfl (fun KQ hKQ => ?_)
                    apply Exists.intro
                    refine ⟨fun w' hw' => ?_, ?_⟩
                    · go_simp; exact rfl
                    go_simp
                    refine hKQ _ ?_
                    clear hKQ KQ
                    refine qs rfl (fun KQ hKQ => ?_)
                    apply Exists.intro
                    refine ⟨fun w' hw' => ?_, ?_⟩
                    · go_simp; exact rfl
                    go_simp
                    refine hKQ _ ?_
                    clear hKQ KQ
                    refine qs rfl (fun KQ hKQ => ?_)
                    apply Exists.intro
                    refine ⟨fun w' hw' => ?_, ?_⟩
                    · go_simp; exact rfl
                    go_simp
                    refine hKQ _ ?_
                    clear hKQ KQ
                    refine qs rfl (fun KQ hKQ => ?_)
                    apply Exists.intro
                    refine ⟨fun w' hw' => ?_, ?_⟩
                    · go_simp; exact rfl
                    go_simp
                    refine hKQ _ ?_
                    clear hKQ KQ
                    refine wpQuiet_nil ?_
                    intro w' hw'
                    have cE := HCO.out w' hw'
                    have fE := HCF.out w' hw'
                    have HS3 := hidd (HNX.out w' hw')
                    clear hw'
                    go_wp2_with fail
                    go_roundw
                    case rel => exact ⟨h + 1, by omega, by go_num, by rw [HST.out]; exact HS3⟩
                    case measure => simp [intOf]; omega
                  · have hdd : decide (E > 0) = false := decide_eq_false hdb
                    have hdd1 : decide (0 < E) = false := decide_eq_false hdb
                    have HST := hidd (show (cupK (upS s X Y) (fun h => V h I) I J (h + 1)) = (cupK (upS s X Y) (fun h => V h I) I J h) by rw [cupK, if_neg (by unfold upS; rw [← HD.out, ← HEE.out, hdd]; simp)])
                    go_wp2_with fail
                    go_roundw
                    case rel => exact ⟨h + 1, by omega, by go_num, by rw [HST.out]; exact HR6⟩
                    case measure => simp [intOf]; omega
                · obtain rfl : h = I := by omega
                  have HVE := hidd (show V h J = cupK (upS s X Y) (fun h' => V h' h) h J h by rw [HV.out]; exact cupV_eq _ _ _)
                  have HRN := hidd (show RelRw j g A (fS V J (h + 1) 0) w wr by
                    have hk := HR5.out
                    rw [← HVE.out] at hk
                    rwa [show fS V J h (V h J) = fS V J (h + 1) 0 from funext fun a => funext fun b => fS_next V J h a b] at hk)
                  have cO := fl_cell (HRN.out.2.1 J hJl) hIj
                  rw [show fS V J (h + 1) 0 J h = V h J by unfold fS; rw [if_neg (by omega), if_pos ⟨rfl, by omega⟩]] at cO
                  have HPI := hidd (show cpI V J (cpJ V J) (h + 1) = if cpI V J (cpJ V J) h < V h J then V h J else cpI V J (cpJ V J) h by
                    rw [cpI, Int.max_def]; split <;> split <;> omega)
                  obtain ⟨y, hy⟩ : ∃ y, y = V h J := ⟨_, rfl⟩
                  obtain ⟨x, hx⟩ : ∃ x, x = cpI V J (cpJ V J) h := ⟨_, rfl⟩
                  rw [← hy] at cO HPI
                  rw [← hx] at HPI ⊢
                  clear hx hy
                  go_wp2_with fail
                  go_roundw
                  case rel => exact ⟨h + 1, by omega, by go_num, by rw [HPI.out], HRN⟩
                  case measure => simp [intOf]; omega
            · obtain rfl : I = J := by omega
              have HRN := hidd (show RelRw j g A (fS V (I + 1) 0 0) w wr by
                have hk := HR3.out
                rwa [show fS V I I 0 = fS V (I + 1) 0 0 from funext fun a => funext fun b => fS_row V I a b] at hk)
              go_wp2_with fail
              go_roundw
              case rel => exact ⟨I + 1, by omega, by omega, by go_num, rfl, HRN⟩
              case measure => simp [intOf]; omega
        · obtain rfl : J = j := by omega
          go_wp2_with fail
          go_ret
          exact ⟨rfl, HR2.out.2.2⟩
end Go.Proofs.Ytljlbonoohhhdaa

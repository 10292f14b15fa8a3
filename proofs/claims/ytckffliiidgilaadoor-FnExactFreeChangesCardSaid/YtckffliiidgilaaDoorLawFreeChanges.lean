/- For every argument the law FnExactFreeChanges returns true: FreeChanges answers as its model does, leaves its list as it was, and each answer is a list of lists of its own. The condition is the row's own: the package's one sentinel lies as its initialiser lays it; the card ties that to the program's text. -/
import Derived.Test.YtckffliiidgilaaDoorBcf
import Derived.Test.YtckffliiidgilaaDoorTie
import Derived.Test.YtckffliiidgilaaDoorCards
import Derived.Test.YtckffliiidgilaaDoorFce
namespace Go.Proofs.YtckffliiidgilaaDoor
set_option linter.unusedVariables false
set_option linter.unusedSimpArgs false
open Go Go.RowKit Go.ChangeShapes Go.WideShapes Go.ChangeAt
theorem LLO.only {w w' : World} {B b : Nat} {a : Option Addr} {n : Nat} {f : Nat → List Int} {zs : List Int} (h : LLO w B a n f) (mk : MkOnly zs (some ⟨b, 0, none⟩) w w') (hb : b < B) : LLO w' B a n f := by
  by_cases e : zs = []
  · rw [← mk.2 e]; exact h
  · have ho := mk.1 e
    rcases h with h | ⟨g, A, C, h1, h2, h3, h4, h5, h6⟩
    · exact .inl h
    · exact .inr ⟨g, A, C, h1, h2, ho.blk h3 (fun p hp => by cases hp; show g ≠ b; omega), h4, fun j hj => ⟨(h5 j hj).1, by
        rcases (h5 j hj).2 with e | ⟨g', C', k1, k2, k3, k4⟩
        · exact .inl e
        · exact .inr ⟨g', C', k1, k2, ho.blk k3 (fun p hp => by cases hp; show g' ≠ b; omega), k4⟩⟩, h6⟩
set_option maxRecDepth 100000 in
set_option maxHeartbeats 4000000 in
theorem walk11 (n k : Int) (bs : List Nat) (hb : Bys bs) (a : Option Addr) (zs : List Int) (cap : Nat) (e0 : Addr) (w : World) (hT : Er w e0) (hs : SlI w a zs) (hl : zs.length ≤ 9223372036854775807) :
    Calls Tryd.prog 11 #[.agg (ccells n k bs).toArray, .slice a zs.length cap] w fun e w' => e = .returned (.bool true) ∧ Below w.heap.size w w' := by
  by_cases hbig : 1048576 < zs.length
  · go_enter Tryd.func11, Tryd.ntmps11
    go_wp2
    go_ret
    exact ⟨rfl, (Below.refl _ _).alloc (Nat.le_refl _) _⟩
  · have hsm : zs.length ≤ 1048576 := by omega
    have HS := hidd (size_c24 n k hb)
    have hZ : (fcV n k bs zs).length ≤ 1000 ∧ ∀ z ∈ fcV n k bs zs, z.length ≤ 1000 := ⟨Nat.le_trans (fcV_len (n := n) (k := k) (bs := bs) (zs := zs)).1 (by decide), fun z hz => Nat.le_trans ((fcV_len (n := n) (k := k) (bs := bs) (zs := zs)).2 z hz) (by decide)⟩
    have hSP := fun b c W h => spec38 n k bs hb zs b c W h hsm
    have hIM := fun b c W h1 h3 => impl39c n k bs hb zs b c e0 W h3 hsm h1
    generalize fcV n k bs zs = L at hSP hIM hZ
    generalize fcC n k bs zs = cd at hSP hIM
    have hl1 : L.length ≤ 1000 := hZ.1
    have HL2 := hidd (fun z (hz : z ∈ L) => (Nat.le_trans (hZ.2 z hz) (by omega) : z.length ≤ 1048576))
    obtain ⟨f, hf⟩ : ∃ f, f = fun j => L.getD j [] := ⟨_, rfl⟩
    have hfl : ∀ i, i < L.length → (f i).length ≤ 1000 := fun i hi => by
      rw [hf]
      exact hZ.2 _ (by simp [List.getD, hi])
    have HSP := hidd hSP
    have HIM := hidd hIM
    have HSL := hidd hs
    have HT := hidd hT
    have HF := hidd hf
    have HFL := hidd hfl
    clear hSP hIM hs hT hl hbig hf hfl hZ
    have hne2 : (cd != cd) = false := by simp
    have hm1 : ((1 + ((offF f L.length : Nat) : Int)) != (1 + ((offF f L.length : Nat) : Int))) = false := by simp
    go_enter Tryd.func11, Tryd.ntmps11
    go_wp2_with (refine wpList_load_row rfl 24 (.tmp 2) rfl w.heap.size rfl 24 _ (0,0) _ (Blk.new _ _ _ _ rfl) Tryd.underlying24 rfl HS.out ?_)
    refine (toCol_any n k bs _ hb).mono ?_
    rintro e w1 ⟨rfl, hb1⟩
    have G1 := hidd (And.intro (((Below.refl w.heap.size w).alloc (Nat.le_refl _) (.cells (ccells n k bs).toArray 24)).trans (hb1.mono (by simp))) ((Blk.new w (ccells n k bs).toArray 24 _ rfl).below hb1 (by simp)))
    clear hb1
    go_wp2_with fail
    refine (copy19 zs a cap _ (HSL.out.below G1.out.1 (Nat.le_refl _)) hsm).mono ?_
    rintro e w2 ⟨rfl, hk2, hb2⟩
    have G2 := hidd (And.intro (G1.out.1.trans (hb2.mono G1.out.1.size)) (And.intro (G1.out.2.below hb2 G1.out.2.lt) (sl_of_blk hk2)))
    clear hk2 hb2
    go_wp2_with fail
    refine (HSP.out _ _ _ G2.out.2.2).mono ?_
    rintro e w3 ⟨a0, cap0, rfl, o0, hb3⟩
    have G3 := hidd (And.intro (G2.out.1.trans (hb3.mono G2.out.1.size)) (And.intro (G2.out.2.1.below hb3 G2.out.2.1.lt) o0))
    clear hb3 o0
    go_wp2_with fail
    refine (copy19 zs a cap _ (HSL.out.below G3.out.1 (Nat.le_refl _)) hsm).mono ?_
    rintro e w4 ⟨rfl, hk4, hb4⟩
    have G4 := hidd (show Below w.heap.size w w4 ∧ Blk w4 w.heap.size (ccells n k bs).toArray 24 ∧ Below w3.heap.size w3 w4 ∧ Blk w4 w3.heap.size (icells zs).toArray 2 from ⟨G3.out.1.trans (hb4.mono G3.out.1.size), G3.out.2.1.below hb4 G3.out.2.1.lt, hb4, hk4⟩)
    clear hk4 hb4
    go_wp2_with (refine wpList_load_row rfl 24 (.tmp 2) rfl w.heap.size rfl 24 _ (0,0) _ G4.out.2.1 Tryd.underlying24 rfl HS.out ?_)
    refine (toCol_any n k bs _ hb).mono ?_
    rintro e w5 ⟨rfl, hb5⟩
    have G5 := hidd (show Below w.heap.size w w5 ∧ Blk w5 w.heap.size (ccells n k bs).toArray 24 ∧ Below w3.heap.size w3 w5 ∧ Blk w5 w3.heap.size (icells zs).toArray 2 ∧ w3.heap.size < w5.heap.size from ⟨G4.out.1.trans (hb5.mono G4.out.1.size), G4.out.2.1.below hb5 G4.out.2.1.lt, G4.out.2.2.1.trans (hb5.mono G4.out.2.2.1.size), G4.out.2.2.2.below hb5 G4.out.2.2.2.lt, Nat.lt_of_lt_of_le G4.out.2.2.2.lt hb5.size⟩)
    have HT5 := hidd (HT.out.below G5.out.1 HT.out.lt)
    clear hb5
    go_wp2_with fail
    refine (HIM.out _ _ _ HT5.out (sl_of_blk G5.out.2.2.2.1)).mono ?_
    rintro e w6 ⟨a1, cap1, rfl, o1, hb6⟩
    have G6 := hidd (show Below w.heap.size w w6 ∧ Blk w6 w.heap.size (ccells n k bs).toArray 24 ∧ Below w3.heap.size w3 w6 ∧ Blk w6 w3.heap.size (icells zs).toArray 2 ∧ LLO w6 w5.heap.size a1 L.length f ∧ w5.heap.size ≤ w6.heap.size from
      ⟨G5.out.1.trans (hb6.mono G5.out.1.size), G5.out.2.1.below hb6 G5.out.2.1.lt, G5.out.2.2.1.trans (hb6.mono G5.out.2.2.1.size), G5.out.2.2.2.1.below hb6 G5.out.2.2.2.1.lt, by rw [HF.out]; exact o1, hb6.size⟩)
    clear o1 hb6
    go_wp2_with fail
    refine (eq24 L a1 a0 _ _ _ (by have h := G6.out.2.2.2.2.1; rw [HF.out] at h; exact h.reads) (G3.out.2.2.below G6.out.2.2.1 (Nat.le_refl _)) (by omega) HL2.out).mono ?_
    rintro e w7 ⟨rfl, m7, hm7⟩
    have hb7 : Below w6.heap.size w6 w7 := by rw [hm7]; exact below_drewN (Below.refl _ _) _
    have G7 := hidd (show Below w.heap.size w w7 ∧ Blk w7 w.heap.size (ccells n k bs).toArray 24 ∧ Below w3.heap.size w3 w7 ∧ Blk w7 w3.heap.size (icells zs).toArray 2 ∧ LLO w7 w5.heap.size a1 L.length f ∧ w5.heap.size ≤ w7.heap.size from
      ⟨G6.out.1.trans (hb7.mono G6.out.1.size), G6.out.2.1.below hb7 G6.out.2.1.lt, G6.out.2.2.1.trans (hb7.mono G6.out.2.2.1.size), G6.out.2.2.2.1.below hb7 G6.out.2.2.2.1.lt, G6.out.2.2.2.2.1.below hb7 (Nat.le_refl _), Nat.le_trans G6.out.2.2.2.2.2 hb7.size⟩)
    clear hb7 hm7
    go_wp2_with fail
    refine (copy19 zs a cap _ (HSL.out.below G7.out.1 (Nat.le_refl _)) hsm).mono ?_
    rintro e w8 ⟨rfl, hk8, hb8⟩
    have G8 := hidd (show Below w.heap.size w w8 ∧ Blk w8 w.heap.size (ccells n k bs).toArray 24 ∧ Below w3.heap.size w3 w8 ∧ Blk w8 w3.heap.size (icells zs).toArray 2 ∧ LLO w8 w5.heap.size a1 L.length f ∧ w5.heap.size ≤ w8.heap.size from
      ⟨G7.out.1.trans (hb8.mono G7.out.1.size), G7.out.2.1.below hb8 G7.out.2.1.lt, G7.out.2.2.1.trans (hb8.mono G7.out.2.2.1.size), G7.out.2.2.2.1.below hb8 G7.out.2.2.2.1.lt, G7.out.2.2.2.2.1.below hb8 (Nat.le_refl _), Nat.le_trans G7.out.2.2.2.2.2 hb8.size⟩)
    have K8 := hidd (sl_of_blk hk8)
    clear hk8 hb8
    go_wp2_with fail
    refine (eq22 zs _ _ _ _ _ (sl_of_blk G8.out.2.2.2.1) K8.out hsm).mono ?_
    rintro e w9 ⟨rfl, hb9⟩
    have G9 := hidd (show Below w.heap.size w w9 ∧ Blk w9 w.heap.size (ccells n k bs).toArray 24 ∧ Below w3.heap.size w3 w9 ∧ OwnL w9 w3.heap.size (some ⟨w3.heap.size, 0, none⟩) zs ∧ LLO w9 w5.heap.size a1 L.length f ∧ w5.heap.size ≤ w9.heap.size from
      ⟨G8.out.1.trans (hb9.mono G8.out.1.size), G8.out.2.1.below hb9 G8.out.2.1.lt, G8.out.2.2.1.trans (hb9.mono G8.out.2.2.1.size), own_of_blk (G8.out.2.2.2.1.below hb9 G8.out.2.2.2.1.lt) (Nat.le_refl _), G8.out.2.2.2.2.1.below hb9 (Nat.le_refl _), Nat.le_trans G8.out.2.2.2.2.2 hb9.size⟩)
    clear hb9 K8
    go_wp2_with fail
    refine (mark29o zs.length _ _ w3.heap.size 1 zs _ rfl G9.out.2.2.2.1 hsm (by omega) (by omega)).mono ?_
    rintro e w10 ⟨rfl, o10, mk10⟩
    have hz10 := mk10.below G9.out.2.2.2.1 (Nat.le_trans (Nat.le_of_lt G5.out.2.2.2.2) G9.out.2.2.2.2.2)
    have G10 := hidd (show Below w.heap.size w w10 ∧ Blk w10 w.heap.size (ccells n k bs).toArray 24 ∧ Below w3.heap.size w3 w10 ∧ LLO w10 w5.heap.size a1 L.length f ∧ w5.heap.size ≤ w10.heap.size from
      ⟨G9.out.1.trans (hz10.mono G3.out.1.size), G9.out.2.1.below hz10 G3.out.2.1.lt, G9.out.2.2.1.trans hz10, G9.out.2.2.2.2.1.only mk10 G5.out.2.2.2.2, Nat.le_trans G9.out.2.2.2.2.2 hz10.size⟩)
    clear o10 mk10 hz10
    go_wp2_with fail
    refine (eq24 L a1 a0 _ _ _ (by have h := G10.out.2.2.2.1; rw [HF.out] at h; exact h.reads) (G3.out.2.2.below G10.out.2.2.1 (Nat.le_refl _)) (by omega) HL2.out).mono ?_
    rintro e w11 ⟨rfl, m11, hm11⟩
    have hb11 : Below w10.heap.size w10 w11 := by rw [hm11]; exact below_drewN (Below.refl _ _) _
    have G11 := hidd (show Below w.heap.size w w11 ∧ Blk w11 w.heap.size (ccells n k bs).toArray 24 ∧ Below w3.heap.size w3 w11 ∧ LLO w11 w5.heap.size a1 L.length f ∧ w5.heap.size ≤ w11.heap.size from
      ⟨G10.out.1.trans (hb11.mono G10.out.1.size), G10.out.2.1.below hb11 G10.out.2.1.lt, G10.out.2.2.1.trans (hb11.mono G10.out.2.2.1.size), G10.out.2.2.2.1.below hb11 (Nat.le_refl _), Nat.le_trans G10.out.2.2.2.2 hb11.size⟩)
    clear hb11 hm11
    go_wp2_with fail
    refine (mark25 L.length f a1 _ w5.heap.size 1 _ G11.out.2.2.2.1 G11.out.2.2.2.2 (by omega) HFL.out (by omega) (by omega)).mono ?_
    rintro e w12 ⟨rfl, o12, hb12⟩
    have G12 := hidd (show Below w.heap.size w w12 ∧ Blk w12 w.heap.size (ccells n k bs).toArray 24 ∧ Below w3.heap.size w3 w12 ∧ LLO w12 w5.heap.size a1 L.length (mkF f 1 L.length) from
      ⟨G11.out.1.trans (hb12.mono G5.out.1.size), G11.out.2.1.below hb12 G5.out.2.1.lt, G11.out.2.2.1.trans (hb12.mono G5.out.2.2.1.size), o12⟩)
    clear o12 hb12
    go_wp2_with fail
    refine (held26 L.length f a1 _ w5.heap.size 1 _ G12.out.2.2.2 (by omega) HFL.out (by omega) (by omega)).mono ?_
    rintro e w' ⟨rfl, rfl⟩
    go_wp2_with (refine wpList_load_row rfl 24 (.tmp 2) rfl w.heap.size rfl 24 _ (0,0) _ G12.out.2.1 Tryd.underlying24 rfl HS.out ?_)
    refine (toCol_any n k bs _ hb).mono ?_
    rintro e w13 ⟨rfl, hb13⟩
    have G13 := hidd (show Below w.heap.size w w13 ∧ Below w3.heap.size w3 w13 ∧ LLO w13 w5.heap.size a1 L.length (mkF f 1 L.length) from ⟨G12.out.1.trans (hb13.mono G12.out.1.size), G12.out.2.2.1.trans (hb13.mono G12.out.2.2.1.size), G12.out.2.2.2.below hb13 (Nat.le_refl _)⟩)
    clear hb13
    go_wp2_with fail
    refine (copy19 zs a cap _ (HSL.out.below G13.out.1 (Nat.le_refl _)) hsm).mono ?_
    rintro e w14 ⟨rfl, hk14, hb14⟩
    have G14 := hidd (show Below w.heap.size w w14 ∧ Below w3.heap.size w3 w14 ∧ LLO w14 w5.heap.size a1 L.length (mkF f 1 L.length) ∧ SlI w14 _ zs from ⟨G13.out.1.trans (hb14.mono G13.out.1.size), G13.out.2.1.trans (hb14.mono G13.out.2.1.size), G13.out.2.2.below hb14 (Nat.le_refl _), sl_of_blk hk14⟩)
    have HT14 := hidd (HT.out.below G14.out.1 HT.out.lt)
    clear hk14 hb14
    go_wp2_with fail
    refine (HIM.out _ _ _ HT14.out G14.out.2.2.2).mono ?_
    rintro e w15 ⟨a2, cap2, rfl, o15, hb15⟩
    have G15 := hidd (show Below w.heap.size w w15 ∧ Below w3.heap.size w3 w15 ∧ LLO w15 w5.heap.size a1 L.length (mkF f 1 L.length) ∧ LLr w15 a2 L from ⟨G14.out.1.trans (hb15.mono G14.out.1.size), G14.out.2.1.trans (hb15.mono G14.out.2.1.size), G14.out.2.2.1.below hb15 (Nat.le_refl _), o15.reads⟩)
    clear o15 hb15
    go_wp2_with fail
    refine (eq24 L a2 a0 _ _ _ G15.out.2.2.2 (G3.out.2.2.below G15.out.2.1 (Nat.le_refl _)) (by omega) HL2.out).mono ?_
    rintro e w16 ⟨rfl, m16, hm16⟩
    have hb16 : Below w15.heap.size w15 w16 := by rw [hm16]; exact below_drewN (Below.refl _ _) _
    have G16 := hidd (And.intro (G15.out.1.trans (hb16.mono G15.out.1.size)) (G15.out.2.2.1.below hb16 (Nat.le_refl _)))
    clear hb16 hm16
    go_wp2_with fail
    refine (held26 L.length f a1 _ w5.heap.size 1 _ G16.out.2 (by omega) HFL.out (by omega) (by omega)).mono ?_
    rintro e w' ⟨rfl, rfl⟩
    go_wp2
    go_ret
    exact ⟨rfl, G16.out.1⟩
set_option maxRecDepth 100000 in
theorem lifted11 (os : Os) (started : os.Started) (H : Type) (enc : TypeId × Value → H) :
    ReturnsInHanded {} Tryd.checked os 11 .any (fun w args => (Rows.fnExactFreeChangesSpec.pre enc Tryd.prog Tryd.f11 [] false w args ∧ laidMetH Tryd.prog Rows.fnExactFreeChangesRow.laid w) ∧ sizedMet enc Tryd.prog Tryd.f11 (OpenSpec.ofChange Rows.fnExactFreeChangesSpec) false w args) (Rows.fnExactFreeChangesSpec.post enc Tryd.prog Tryd.f11 false true false false) := by
  refine returnsInHanded_of_change_and (C := Tryd.checked) (X := fun w _ => laidMetH Tryd.prog Rows.fnExactFreeChangesRow.laid w) (fun _ _ _ hh h => h.of_heap hh) own started (by kernel_rfl) Tryd.func11
    (ChangeSpec.witness_at (enc := enc) (C := Tryd.checked) (X := fun w _ => laidMetH Tryd.prog Rows.fnExactFreeChangesRow.laid w) false (laidWorld os) #[.agg (ccells 0 0 zbl).toArray, .slice none 0 0] 8 rfl (by kernel_rfl) (by kernel_rfl) (by kernel_rfl) (by kernel_rfl) (by kernel_rfl) (laid_met os _)) ?_
  intro W base args ds gs before hval0 hW hcnd _ hL _
  have hval : ∀ (j : Nat) t v, Tryd.f11.params[j]? = some t → args[j]? = some v → Value.okWide Tryd.prog W .any base t v := hval0
  have hW' := hW
  obtain ⟨p, q, hA0, hV0, rfl, hfz, hnd⟩ := hW
  have hA : DataW.TrodAll enc Tryd.prog W 0 (fun _ => true) true Tryd.f11.params.toList args.toList ds p := hA0
  have hV : DataW.TrodVars enc Tryd.prog W (fun _ => true) ["loop.example/g01362/impl.errNoSizes"] gs q := hV0
  obtain ⟨e0, hT, hv0⟩ := er_of2 hL
  obtain ⟨rfl, rfl⟩ := hV.unique (vars_read enc hv0 trivial _)
  rw [Tryd.params11] at hA hval
  obtain ⟨v0, vs0, d0, ds0, p0, q0, hargs, rfl, rfl, h0, r0⟩ := trodAll_cons hA
  obtain ⟨v1, vs1, d1, ds1, p1, q1, rfl, rfl, rfl, h1, r1⟩ := trodAll_cons r0
  obtain ⟨rfl, rfl, rfl⟩ := trodAll_nil r1
  obtain rfl : args = #[v0, v1] := by cases args; simp_all
  have k0 := h0
  have lt0 := lt_of_trod k0
  obtain ⟨n0, c0, b0, rfl, hb0, _, _⟩ := open_col Tryd.underlying24 cells24 (hval 0 24 v0 rfl rfl) h0
  have k1 := h1
  have lt1 := lt_of_trod k1
  obtain ⟨a1, zs1, cap1, rfl, hs1, hl1, hz1⟩ := open_list (hval 1 25 v1 rfl rfl) h1
  clear hA0 hV0 hval0
  refine (walk11 n0 c0 b0 hb0 a1 zs1 cap1 e0 W hT hs1 hl1).mono fun e W' ⟨he, bel⟩ => ?_
  subst he
  exact ⟨_, rfl, _, _, _, [], _, [.cell 0 0], hW', trodAll_mk1 (shut_bool Tryd.underlying4 _), (trodAll_cons_mk (Below.trod laidOut read24 row24 k0 bel lt0) (trodAll_cons_mk (Below.trod laidOut read29 row29 k1 bel lt1) trodAll_mk0)), vars_read enc (var_below bel hv0) trivial _, bel.frame _, fun h => by cases h⟩
theorem fnExactFreeChanges_holds : Rows.FnExactFreeChangesSaid :=
  OpenClaim.holds_of_wide 11 Tryd.f11 rfl rfl rfl rfl rfl rfl rfl ⟨rfl, rfl, rfl, rfl, rfl⟩ rfl rfl rfl rfl rfl (by kernel_rfl) Tryd.func11 (by kernel_rfl)
    (of_decide_eq_true (by kernel_rfl)) (by unfold Func.isWrapper; first | (rw [if_pos (by decide +kernel)]; kernel_rfl) | (rw [if_neg (by decide +kernel)]; exact ⟨rfl, rfl⟩))
    (fun os started H enc _ => lifted11 os started H enc)
theorem plain11 (f : FuncId) (fn : Func) (hf : Tryd.pinned.checked.prog.funcNamed "loop.example/g01362/laws.FnExactFreeChanges" = some f) (hfn : Tryd.pinned.checked.prog.funcs[f]? = some fn) :
    true = Tryd.pinned.checked.prog.looks [] ∧ ∀ (j : Nat) t, fn.params[j]? = some t → Tryd.pinned.checked.prog.wantsStandIn t = false := by
  obtain rfl : f = 11 := Option.some.inj ((show Tryd.prog.funcNamed "loop.example/g01362/laws.FnExactFreeChanges" = some 11 by kernel_rfl).symm.trans hf) |>.symm
  obtain rfl : fn = Tryd.f11 := (Option.some.inj (Tryd.func11.symm.trans hfn)).symm
  refine ⟨by kernel_rfl, fun j t ht => ?_⟩
  rw [Tryd.params11] at ht
  have hm : t ∈ [24, 25] := by simpa using Array.mem_of_getElem? ht
  have hall : ([24, 25].all fun u => !Tryd.prog.wantsStandIn u) = true := by kernel_rfl
  exact (show Tryd.prog.wantsStandIn t = false by simpa using List.all_eq_true.1 hall t hm)
theorem fnExactFreeChanges_card : Rows.FnExactFreeChangesCardSaid :=
  Claim7.holds_tied_plain_at .later [] _ _ _ _ fnExactFreeChanges_holds (fun _ h => by cases h) (by kernel_rfl) (fun _ h => by cases h) fnExactFreeChanges_row_tie rfl ⟨rfl, rfl⟩ (by kernel_rfl) rfl plain11 (by kernel_rfl)
#print axioms fnExactFreeChanges_card
end Go.Proofs.YtckffliiidgilaaDoor

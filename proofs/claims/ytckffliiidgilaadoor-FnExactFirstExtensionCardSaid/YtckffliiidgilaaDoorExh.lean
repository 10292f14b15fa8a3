/- The extensions' function: its walk. -/
import Derived.Test.YtckffliiidgilaaDoorExg
namespace Go.Proofs.YtckffliiidgilaaDoor
set_option linter.unusedVariables false
set_option linter.unusedSimpArgs false
open Go Go.RowKit Go.Shelf
attribute [local go_sem] Oper.semAt_some
theorem lets_wide (m : Nat) {P : Program} : Lets Fence.wide m P := ⟨fun _ => trivial, fun h => (by cases h), fun f args w R h => callsIn_wide.2 h⟩
/-- While the free sets are laid. -/
structure RelW (K Y B bx N : Nat) (C : Array Value) (fr : Nat → Nat → Bool) (W : World) (gf : Nat → Nat) (c : Nat) (wr : World) : Prop where
  b : Below W.heap.size W wr
  x : Blk wr bx C 56
  f : Blk wr B (fcel gf Y c).toArray 102
  fs : ∀ c', c' < c → Blk wr (gf c') (bcl (fr c') Y Y).toArray 4 ∧ B + 3 ≤ gf c'
  t : Blk wr (B + 1) (tcel fun _ => 0).toArray 103
  cl : Blk wr (B + 2) (icells (List.replicate N 0)).toArray 2
theorem RelW.go {K Y B bx N : Nat} {C : Array Value} {fr : Nat → Nat → Bool} {W : World} {gf : Nat → Nat} {c g : Nat} {wr w1 : World} (h : RelW K Y B bx N C fr W gf c wr) (hb : Below wr.heap.size wr w1) (hg : Blk w1 g (bcl (fr c) Y Y).toArray 4) (hg2 : wr.heap.size ≤ g) (hB : B = W.heap.size) (hbx : bx < B) (hc : c < 4) :
    RelW K Y B bx N C fr W (setF gf c g) (c + 1) (w1.setCell ⟨B, c, none⟩ (.slice (some ⟨g, 0, none⟩) Y Y)) := by
  have hl := h.cl.lt
  refine ⟨(h.b.trans (hb.mono h.b.size)).setCell (by show W.heap.size ≤ B; omega) _, (h.x.below hb h.x.lt).other _ _ (by show bx ≠ B; omega), ?_, fun c' hc' => ?_, (h.t.below hb h.t.lt).other _ _ (by show B + 1 ≠ B; omega), (h.cl.below hb h.cl.lt).other _ _ (by show B + 2 ≠ B; omega)⟩
  · have h1 := (h.f.below hb h.f.lt).same c (.slice (some ⟨g, 0, none⟩) Y Y)
    rwa [fcel_set hc] at h1
  · by_cases e : c' = c
    · subst e; rw [setF_same]
      exact ⟨hg.other _ _ (by show g ≠ B; omega), by omega⟩
    · rw [setF_ne _ _ e]
      obtain ⟨h1, h2⟩ := h.fs c' (by omega)
      exact ⟨(h1.below hb h1.lt).other _ _ (by show gf c' ≠ B; omega), h2⟩
theorem RelW.done {K Y B bx N : Nat} {C : Array Value} {fr : Nat → Nat → Bool} {W : World} {gf : Nat → Nat} {wr : World} {J : Nat → List (List Int) → World → Prop} (h : RelW K Y B bx N C fr W gf K wr) (hB : B = W.heap.size) (hbx : bx < B) (hJ : ∀ D, StabD W.heap.size D (J D)) (h0 : ∀ D, J D [] W) :
    RelX N K Y B bx C fr (J wr.heap.size) wr.heap.size gf [] (stO []) (colI []) wr := by
  have hl := h.cl.lt
  refine ⟨hJ _ _ _ _ (h0 _) (Away.of_below h.b), h.x, h.f, fun c hc => ⟨(h.fs c hc).1, (h.fs c hc).2, (h.fs c hc).1.lt⟩, h.t, ⟨List.replicate N 0, by simp, h.cl, fun i hi => by simp [colI] at hi⟩, Nat.le_refl _, by omega, hbx⟩
theorem icells_rep (N : Nat) : zrow N = (icells (List.replicate N 0)).toArray := zrow_icells N
section
variable {N K Y B bx : Nat} {C : Array Value} {fr : Nat → Nat → Bool} {J : List (List Int) → World → Prop} {D : Nat} {gf : Nat → Nat} {pre : List (List Int)} {s : Nat → Nat} {cs : List Int} {wr : World}
theorem RelX.drew (h : RelX N K Y B bx C fr J D gf pre s cs wr) (hJ : StabD B D J) : RelX N K Y B bx C fr J D gf pre s cs wr.drew := h.below hJ (below_drewN (Below.refl _ _) 1)
theorem RelX.cT {c : Nat} (h : RelX N K Y B bx C fr J D gf pre s cs wr) (hc : c < 4) : wr.cell? ⟨B + 1, c, none⟩ = some (.int .u32 (s c : Int)) := h.t.cell (tcel_get hc)
theorem RelX.cF {c : Nat} (h : RelX N K Y B bx C fr J D gf pre s cs wr) (hc : c < K) (hK : K ≤ 4) : wr.cell? ⟨B, c, none⟩ = some (.slice (some ⟨gf c, 0, none⟩) Y Y) := by
  have := h.f.cell (fcel_get (gf := gf) (Y := Y) (j := K) (i := c) (by omega))
  rwa [if_pos hc] at this
theorem RelX.cE {c X : Nat} (h : RelX N K Y B bx C fr J D gf pre s cs wr) (hc : c < K) (hX : X < Y) : wr.cell? ⟨gf c, X, none⟩ = some (.bool (fr c X)) := by
  have := (h.fs c hc).1.cell (bcl_get (fr c) (M := Y) (j := Y) hX)
  rwa [decide_eq_true hX, Bool.true_and] at this
end
theorem adn_or_pow {T p : Nat} (h : T < 2 ^ p) (hp : p < 31) : adn (T ||| 2 ^ p) (2 ^ p) = T := by
  have h1 : 2 ^ p < 2 ^ 31 := Nat.pow_lt_pow_right (by omega) hp
  have h2 : (T ||| 2 ^ p) < 2 ^ 32 := Nat.or_lt_two_pow (by omega) (by omega)
  apply Nat.eq_of_testBit_eq
  intro j
  rw [adn_bit h2, Nat.testBit_or, Nat.testBit_two_pow]
  by_cases e : p = j
  · subst e; simp [Nat.testBit_lt_two_pow h]
  · simp [e]
theorem stO_cons (d : Nat) (ds : List Nat) : stO (d :: ds) = setF (stO ds) d (stO ds d ||| 2 ^ ds.length) := rfl
theorem jumps_ret {J : Nat → Act → World → Prop} {Q : Exit → Act → World → Prop} {a : Act} {w : World} (h : Q .ret a w) : jumpsTo J Q .ret a w := h
theorem stO_back (d : Nat) (ds : List Nat) : setF (stO (d :: ds)) d (stO ds d) = stO ds := by
  funext x
  by_cases e : x = d
  · subst e; rw [setF_same]
  · rw [setF_ne _ _ e, stO_cons, setF_ne _ _ e]
set_option maxRecDepth 100000 in
set_option maxHeartbeats 4000000 in
theorem iter84 (m N K : Nat) (bs : List Nat) (hb : Bys bs) (zs : List Int) (bl off cap bx : Nat) (w : World) (hl : zs.length = K) (n1 : 1 ≤ N) (hN : N ≤ 12) (k1 : 1 ≤ K) (hK : K ≤ 4) (h2 : no1 zs K) (hsz : szP zs K = true)
    (hX : Blk w bx (scl (N : Int) (K : Int) bs (some ⟨bl, off, none⟩) K cap).toArray 56) (hs : SlI w (some ⟨bl, off, none⟩) zs) (hbl : bl < w.heap.size) :
    GivesD m 84 #[.pointer (some ⟨bx, 0, none⟩)] (EncX N) [bx, bl] (exA bs N K zs) w := by
  intro l J Jx W hszW hbs hJ hY h0
  have HFR := hidd (fun c (hc : c < K) W h => frs85 N K c bs hb zs (some ⟨bl, off, none⟩) cap W h hl n1 (by omega) hK h2 hsz hc)
  have HS := hidd (size_s56 (n := (N : Int)) (k := (K : Int)) hb (some ⟨bl, off, none⟩) K cap)
  have hex := exA_f (bs := bs) (show N ≤ 17 by omega) h2
  have HSL := hidd (show ∀ W', Below W.heap.size W W' → SlI W' (some ⟨bl, off, none⟩) zs from fun W' hb' => by
    rcases hs with h | ⟨b', o', ha, hc⟩
    · exact .inl h
    · cases ha
      refine .inr ⟨bl, off, rfl, fun j hj => ?_⟩
      have := hc j hj
      simp only [World.cell?] at this ⊢
      rw [hb'.block _ (Nat.lt_of_lt_of_le hbl hszW), hbs bl (by simp)]; exact this)
  obtain ⟨Y, hYN⟩ : ∃ Y, Y = 2 ^ N := ⟨_, rfl⟩
  have hY12 : Y ≤ 4096 := by rw [hYN]; exact Nat.pow_le_pow_right (by decide) hN
  obtain ⟨fr, hfr⟩ : ∃ fr, fr = fre bs N zs := ⟨_, rfl⟩
  rw [← hfr] at hex
  obtain ⟨C, hC⟩ : ∃ C, C = (scl (N : Int) (K : Int) bs (some ⟨bl, off, none⟩) K cap).toArray := ⟨_, rfl⟩
  have hC0 := hidd (show C[0]? = some (.int .i64 (N : Int)) by rw [hC]; exact scl_fst 0 _ rfl)
  have hC1 := hidd (show C[1]? = some (.int .i64 (K : Int)) by rw [hC]; exact scl_fst 1 _ rfl)
  have HFR2 := hidd (fun c (hc : c < K) W h => (show Calls Tryd.prog 85 #[.agg C, .int .i64 (c : Int)] W fun e w' => ∃ g : Nat, e = .returned (.slice (some ⟨g, 0, none⟩) Y Y) ∧ W.heap.size ≤ g ∧ Blk w' g (bcl (fr c) Y Y).toArray 4 ∧ Below W.heap.size W w' by rw [hYN, hfr, hC]; exact HFR.out c hc W h))
  have hX' : Blk W bx C 56 := (hbs bx (by simp)).trans (by rw [hC]; exact hX)
  have hbx : bx < W.heap.size := hX'.lt
  rw [← hC] at HS
  obtain ⟨B, hB⟩ : ∃ B, B = W.heap.size := ⟨_, rfl⟩
  obtain ⟨all, hall⟩ : ∃ all, all = exA bs N K zs := ⟨_, rfl⟩
  rw [← hall] at hex hY ⊢
  have HEX := hidd hex
  have HY := hidd hY
  have HJ := hidd hJ
  have HYN := hidd hYN
  have hmk := make29 N (by omega)
  have HP0 := hidd (show RelW K Y B bx N C fr W (fun _ => 0) 0 (((W.alloc (.cells (fcel (fun _ => 0) 0 0).toArray 102)).alloc (.cells (tcel fun _ => 0).toArray 103)).alloc (.cells (zrow N) 2)) from by
    refine ⟨(((Below.refl _ _).alloc (Nat.le_refl _) _).alloc (by simp) _).alloc (by simp; omega) _, ((hX'.alloc _).alloc _).alloc _, ?_, fun c' hc' => by omega, ?_, ?_⟩
    · rw [hB]; exact ((Blk.new W (fcel (fun _ => 0) 0 0).toArray 102 _ rfl).alloc _).alloc _
    · rw [hB]; exact (Blk.new (W.alloc (.cells (fcel (fun _ => 0) 0 0).toArray 102)) (tcel fun _ => 0).toArray 103 _ (by simp)).alloc _
    · rw [hB, icells_rep]; exact Blk.new _ _ _ _ (by simp))
  have cX := (((hX'.alloc (.cells (fcel (fun _ => 0) 0 0).toArray 102)).alloc (.cells (tcel fun _ => 0).toArray 103))).cell hC0.out
  have cX2 := HP0.out.x.cell hC1.out
  have hz1 := zero102
  have hz2 := zero103
  have HB := hidd hB
  subst hB
  have HBX := hidd hbx
  have H0 := hidd h0
  clear hX hs hbs hY hJ hYN hfr hC hX' hex hb HFR hsz h2 hl hall h0
  refine callsIn_of_wp Tryd.func84 rfl trivial ?_ rfl
  simp only [Tryd.ntmps84, List.size_toArray, List.length_cons, List.length_nil, Nat.reduceAdd, Nat.reduceSub, Array.replicate_succ, Array.replicate_zero, List.push_toArray, List.append_toArray, List.nil_append, List.cons_append]
  gi_wp2_with fail
  refine wpIn_scope_two (ι := List Nat × Nat) (by rfl) (by rfl) (JF all N K Y W.heap.size bx l C fr J) (JB all N K Y W.heap.size bx l C fr J) (fun i => muO K N true i.1 i.2) (fun i => muO K N false i.1 i.2) ?back ?pass ?first
  case first =>
    intro HP
    have HPP := hidd HP
    clear HP
    gi_wp2_with fail
    gi_loopw [16] (fun e wr => ∃ c : Nat, c ≤ K ∧ e = .int .i64 (c : Int) ∧ Hid (∃ gf, RelW K Y W.heap.size bx N C fr W gf c wr)) (fun e _ => K - (intOf e).toNat)
    case atStart => exact ⟨0, Nat.zero_le _, rfl, ⟨_, HP0.out⟩⟩
    case round =>
      obtain ⟨c, hc, rfl, HR⟩ := hrel
      obtain ⟨gf, hgf⟩ := HR.out
      have HG := hidd hgf
      clear HR hgf
      obtain ⟨wo, rfl⟩ : ∃ wo : World, wo = wr := ⟨_, rfl⟩
      by_cases hlt : c < K
      · have hc4 : (c : Int) < 4 := by omega
        have HF := hidd (HFR2.out c hlt wo (HSL.out _ HG.out.b))
        gi_wp2_with (refine inLoadRow rfl 56 (.tmp 1) rfl bx rfl 56 _ _ HG.out.x Tryd.underlying56 rfl HS.out ?_)
        refine ⟨trivial, (callsIn_wide.2 HF.out).mono ?_⟩
        rintro e w1 ⟨g, rfl, hg1, hg2, hg3⟩
        have K2 := hidd (HG.out.go hg3 hg2 hg1 rfl HBX.out (by omega))
        have c1 := (HG.out.f.below hg3 HG.out.f.lt).cell (fcel_get (gf := gf) (Y := Y) (j := c) (i := c) (by omega))
        rw [if_neg (Nat.lt_irrefl c)] at c1
        have f1 := (HG.out.f.below hg3 HG.out.f.lt).fro c
        clear hg1 hg2 hg3
        gi_wp2_with fail
        go_roundw
        case rel => exact ⟨c + 1, by omega, by go_num, ⟨_, K2.out⟩⟩
        case measure => simp [intOf]; omega
      · have hck : c = K := by omega
        subst hck
        have HD := hidd (HG.out.done rfl HBX.out HJ.out H0.out)
        gi_wp2_with fail
        rename_i K3 hK3
        refine wpIn_label ?_
        refine hK3 _ _ ?_
        refine HPP.out ([], 0) _ _ ⟨wo.heap.size, gf, [], _, _, _, _, _, _, _, _, _, _, _, _, _, _, _, _, _, _, _, _, _, _, _, _, _, _, _, _, _, _, _, _, _, _, _, _, _, _, _, _, _, _, _, _, _, _, _, _, _, _, _, _, _, _, _, _, _, _, _, _, _, _, _, _, _, _, _, _, _, _, _, _, _, _, _, rfl, ⟨Nat.zero_le _, (fun d hd => by cases hd), Nat.zero_le _, HEX.out, HD.out⟩⟩
  case back =>
    rintro ⟨ds, c⟩ a wr ⟨D, gf, pre, u7, u2, u8, u9, u10, u11, u12, u13, u14, u15, u16, u17, u18, u19, u20, u21, u22, u23, u24, u25, u26, u27, u28, u29, u30, u31, u32, u33, u34, u35, u36, u37, u38, u39, u40, u41, u42, u43, u44, u45, u46, u47, u48, u49, u50, u51, u52, u53, u54, u55, u56, u57, u58, u59, u60, u61, u62, u63, u64, u65, u66, u67, u68, u69, u70, u71, u72, u73, u74, u75, u76, u77, u78, u79, u80, u81, rfl, HR⟩
    obtain ⟨wo, rfl⟩ : ∃ wo : World, wo = wr := ⟨_, rfl⟩
    dsimp only at HR ⊢
    have HA := hidd HR.out.2.2.2.1
    have HX := hidd HR.out.2.2.2.2
    cases ds with
    | nil =>
      have HJJ := hidd (show J D all wo from by rw [HA.out, show exB (okf fr) K N [] = [] from rfl, List.append_nil]; exact HX.out.j)
      have hls : ([] : List Nat).length = 0 := rfl
      clear HR HA
      gi_wp2_with fail
      refine jumps_ret ?_
      refine bodyPost_ret (results_none rfl _ _ _) rfl ?_
      exact ⟨⟨_, rfl⟩, D, by have := HX.out.hd; omega, HX.out.sz, .inl HJJ.out⟩
    | cons d ds =>
      have hlen : ds.length < N := by have := HR.out.1; simp at this; omega
      have hdK : d < K := HR.out.2.1 d (by simp)
      have hds : ∀ d ∈ ds, d < K := fun x hx => HR.out.2.1 x (List.mem_cons_of_mem _ hx)
      have HXL := hidd (show RelX N K Y W.heap.size bx C fr (J D) D gf pre (stO (d :: ds)) (colI ds ++ [(d : Int)]) wo from by rw [← colI_cons]; exact HX.out)
      have cL := HXL.out.last (by rw [colI_len]; exact hlen)
      rw [colI_len] at cL
      have hmu := hidd (muO_up (K := K) (N := N) (c := c) (d := d) (f := false) hlen HR.out.2.2.1 hds hdK)
      have hT : stO ds d < 2 ^ ds.length := stO_lt ds d
      have h17 : 2 ^ ds.length < 2 ^ 17 := Nat.pow_lt_pow_right (by omega) (by omega)
      obtain ⟨P1, hP1⟩ : ∃ P1, P1 = 2 ^ ds.length := ⟨_, rfl⟩
      have s1 : IntKind.u32.wrap (2 ^ ds.length) = (P1 : Int) := by rw [hP1]; rw [show ((2 : Int) ^ ds.length) = ((2 ^ ds.length : Nat) : Int) by simp]; exact u32_in (by omega) (by omega)
      have t1 : min ds.length 64 = ds.length := by omega
      obtain ⟨T, hTe⟩ : ∃ T, T = stO ds d := ⟨_, rfl⟩
      obtain ⟨X, hXe⟩ : ∃ X, X = stO (d :: ds) d := ⟨_, rfl⟩
      have hX2 : X = T ||| P1 := by rw [hXe, hTe, hP1]; rw [stO_cons, setF_same]
      have hX17 : X < 2 ^ 17 := by rw [hX2]; exact Nat.or_lt_two_pow (by omega) (by omega)
      have u1 := u32_andnot_nat X P1 (by omega) (by omega)
      have had : adn X P1 = T := by rw [hX2, hP1]; exact adn_or_pow (by rw [hTe]; exact hT) (by omega)
      rw [had] at u1
      have HST := hidd (show setF (stO (d :: ds)) d T = stO ds from by rw [hTe]; exact stO_back d ds)
      have HCT := hidd (fun w' (h : RelX N K Y W.heap.size bx C fr (J D) D gf pre (stO (d :: ds)) (colI ds ++ [(d : Int)]) w') => (show w'.cell? ⟨W.heap.size + 1, d, none⟩ = some (.int .u32 (X : Int)) ∧ w'.frozen? ⟨W.heap.size + 1, d, none⟩ = false from by
        rw [hXe]; exact ⟨h.cT (by omega), h.t.fro d⟩))
      have HBK := hidd (show ∀ w', RelX N K Y W.heap.size bx C fr (J D) D gf pre (stO (d :: ds)) (colI ds ++ [(d : Int)]) w' → RelX N K Y W.heap.size bx C fr (J D) D gf pre (stO ds) (colI ds) (w'.setCell ⟨W.heap.size + 1, d, none⟩ (.int .u32 (T : Int))) from fun w' h => by
        have := (h.setT (HJ.out D) (show d < 4 by omega) (v := T)).drop
        rwa [HST.out] at this)
      have HAL := hidd (show all = pre ++ exR (okf fr) K N ds (d + 1) from by rw [HA.out, exB_cons hlen])
      have hd4 : (d : Int) < 4 := by omega
      have hlN : (ds.length : Int) < (N : Int) := by omega
      have hls : (((d :: ds).length : Nat) : Int) = (ds.length : Int) + 1 := by simp
      have hn0 : ((ds.length : Int) + 1 == 0) = false := by rw [beq_eq_false_iff_ne]; omega
      have HLE := hidd (show ds.length ≤ N ∧ (∀ d ∈ ds, d < K) ∧ d + 1 ≤ K from ⟨by omega, hds, by omega⟩)
      rw [hls]
      clear hls HR HA HX hP1 hTe hXe hX2 hX17 hT h17 hds hdK had
      gi_wp2_with fail
      refine wpIn_region_tail_lit (lets_wide _) 7 (fun w' => RelX N K Y W.heap.size bx C fr (J D) D gf pre (stO (d :: ds)) (colI ds ++ [(d : Int)]) w') (by decide) (by kernel_rfl) (HXL.out.drew (HJ.out D)) (by kernel_rfl) (by kernel_rfl) (by kernel_rfl) (by kernel_rfl) (by kernel_rfl) ?_
      simp only [List.take_succ_cons, List.take_zero, List.drop_succ_cons, List.drop_zero, List.map_cons, List.map_nil, List.cons_append, List.nil_append, idle]
      refine qs rfl (fun KQ hKQ => ?_)
      apply Exists.intro
      refine ⟨fun w' hw' => ?_, ?_⟩
      · go_simp; exact rfl
      go_simp
      refine hKQ _ ?_
      clear hKQ KQ
      refine qs rfl (fun KQ hKQ => ?_)
      apply Exists.intro
      refine ⟨fun w' hw' => ?_, ?_⟩
      · go_simp; exact rfl
      go_simp
      refine hKQ _ ?_
      clear hKQ KQ
      refine qs rfl (fun KQ hKQ => ?_)
      apply Exists.intro
      refine ⟨fun w' hw' => ?_, ?_⟩
      · have e1 := (HCT.out w' hw').1; go_simp; exact rfl
      go_simp
      refine hKQ _ ?_
      clear hKQ KQ
      refine qs rfl (fun KQ hKQ => ?_)
      apply Exists.intro
      refine ⟨fun w' hw' => ?_, ?_⟩
      · go_simp; exact rfl
      go_simp
      refine hKQ _ ?_
      clear hKQ KQ
      refine qs rfl (fun KQ hKQ => ?_)
      apply Exists.intro
      refine ⟨fun w' hw' => ?_, ?_⟩
      · go_simp; exact rfl
      go_simp
      refine hKQ _ ?_
      clear hKQ KQ
      refine qs rfl (fun KQ hKQ => ?_)
      apply Exists.intro
      refine ⟨fun w' hw' => ?_, ?_⟩
      · go_simp; exact rfl
      go_simp
      refine hKQ _ ?_
      clear hKQ KQ
      refine qs rfl (fun KQ hKQ => ?_)
      apply Exists.intro
      refine ⟨fun w' hw' => ?_, ?_⟩
      · go_simp; exact rfl
      go_simp
      refine hKQ _ ?_
      clear hKQ KQ
      refine qs rfl (fun KQ hKQ => ?_)
      apply Exists.intro
      refine ⟨fun w' hw' => ?_, ?_⟩
      · go_simp; exact rfl
      go_simp
      refine hKQ _ ?_
      clear hKQ KQ
      refine wpQuiet_nil ?_
      intro w' hw'
      have HZ := hidd (HBK.out w' hw')
      have f1 := (HCT.out w' hw').2
      have e1 := (HCT.out w' hw').1
      clear hw'
      gi_wp2_with fail
      refine wpIn_goto ?_
      refine (?_ : (1 = 1 ∧ ∃ i', JF all N K Y W.heap.size bx l C fr J i' _ _ ∧ muO K N true i'.1 i'.2 < muO K N false (d :: ds) c))
      exact ⟨rfl, (ds, d + 1), ⟨D, gf, pre, _, _, _, _, _, _, _, _, _, _, _, _, _, _, _, _, _, _, _, _, _, _, _, _, _, _, _, _, _, _, _, _, _, _, _, _, _, _, _, _, _, _, _, _, _, _, _, _, _, _, _, _, _, _, _, _, _, _, _, _, _, _, _, _, _, _, _, _, _, _, _, _, _, _, _, rfl, ⟨HLE.out.1, HLE.out.2.1, HLE.out.2.2, HAL.out, HZ.out⟩⟩, hmu.out⟩
  case pass =>
    rintro ⟨ds, c0⟩ a wr ⟨D, gf, pre, u2, u8, u9, u10, u11, u12, u13, u14, u15, u16, u17, u18, u19, u20, u21, u22, u23, u24, u25, u26, u27, u28, u29, u30, u31, u32, u33, u34, u35, u36, u37, u38, u39, u40, u41, u42, u43, u44, u45, u46, u47, u48, u49, u50, u51, u52, u53, u54, u55, u56, u57, u58, u59, u60, u61, u62, u63, u64, u65, u66, u67, u68, u69, u70, u71, u72, u73, u74, u75, u76, u77, u78, u79, u80, u81, rfl, HR⟩ HB
    have HBK := hidd HB
    clear HB
    obtain ⟨wo, rfl⟩ : ∃ wo : World, wo = wr := ⟨_, rfl⟩
    dsimp only at HR HBK ⊢
    have HA := hidd HR.out.2.2.2.1
    have HX := hidd HR.out.2.2.2.2
    have HDS := hidd HR.out.2.1
    have c1 := HX.out.x.cell hC0.out
    have hlN := HR.out.1
    have hc0K := HR.out.2.2.1
    clear HR
    by_cases hfull : ds.length = N
    · have hEq : ((ds.length : Int) == (N : Int)) = true := by rw [beq_iff_eq]; omega
      have HAL := hidd (show all = pre ++ colI ds :: exB (okf fr) K N ds from by rw [HA.out, exR_full hfull])
      obtain ⟨fn, tmps, assign, body, hy, hRn⟩ := HY.out D pre (colI ds) (exB (okf fr) K N ds) #[.slice (some ⟨W.heap.size + 2, 0, none⟩) N N] wo (by have := HX.out.hd; omega) HX.out.sz HAL.out HX.out.j ⟨_, rfl, by omega, by have := HX.out.hd; omega, HX.out.full (by rw [colI_len]; exact hfull)⟩
      have HRR := hidd hRn
      have HFU := hidd hfull
      clear hRn hfull hlN
      gi_wp2_with fail
      refine HRR.out.mono ?_
      rintro e W3 ⟨hk3, ⟨rfl, hJ3⟩ | ⟨rfl, hx3⟩⟩
      · have K3 := hidd (HX.out.kept hk3 hJ3)
        have HAL2 := hidd (show all = (pre ++ [colI ds]) ++ exB (okf fr) K N ds from by rw [HAL.out]; simp)
        clear hJ3 hk3
        gi_wp2_with fail
        refine wpIn_goto ?_
        refine (?_ : ((0 = 1 ∧ ∃ i', JF all N K Y W.heap.size bx l C fr J i' _ _ ∧ muO K N true i'.1 i'.2 < muO K N true ds c0) ∨ (0 = 0 ∧ ∃ i', JB all N K Y W.heap.size bx l C fr J i' _ _ ∧ muO K N false i'.1 i'.2 < muO K N true ds c0)))
        refine .inr ⟨rfl, (ds, c0), ⟨D, gf, pre ++ [colI ds], _, _, _, _, _, _, _, _, _, _, _, _, _, _, _, _, _, _, _, _, _, _, _, _, _, _, _, _, _, _, _, _, _, _, _, _, _, _, _, _, _, _, _, _, _, _, _, _, _, _, _, _, _, _, _, _, _, _, _, _, _, _, _, _, _, _, _, _, _, _, _, _, _, _, _, _, rfl, ⟨Nat.le_of_eq HFU.out, HDS.out, hc0K, HAL2.out, K3.out⟩⟩, ?_⟩
        show muO K N false ds c0 < muO K N true ds c0
        unfold muO; simp
      · have X3 := hidd hx3
        have HSZ := hidd (show D ≤ W3.heap.size from Nat.le_trans HX.out.sz hk3.1)
        clear hx3 hk3
        gi_wp2_with fail
        refine jumps_ret ?_
        refine bodyPost_ret (results_none rfl _ _ _) rfl ?_
        exact ⟨⟨_, rfl⟩, D, by have := HX.out.hd; omega, HSZ.out, .inr ⟨_, _, _, HAL.out, X3.out⟩⟩
    · have hlen : ds.length < N := by omega
      have hEq : ((ds.length : Int) == (N : Int)) = false := by rw [beq_eq_false_iff_ne]; omega
      have HAL := hidd (show all = pre ++ (exT (okf fr) K N ds c0 ++ exB (okf fr) K N ds) from by rw [HA.out, exR_in hlen])
      clear hfull hlN HA
      gi_wp2_with fail
      gi_loopw [6, 7] (fun h e wr => h = .int .i64 (ds.length : Int) ∧ ∃ c : Nat, c0 ≤ c ∧ c ≤ K ∧ e = .int .i64 (c : Int) ∧ Hid (all = pre ++ (exT (okf fr) K N ds c ++ exB (okf fr) K N ds)) ∧ Hid (RelX N K Y W.heap.size bx C fr (J D) D gf pre (stO ds) (colI ds) wr)) (fun _ e _ => K - (intOf e).toNat)
      case atStart => exact ⟨rfl, c0, Nat.le_refl _, hc0K, rfl, HAL.out, HX.out⟩
      case round =>
        obtain ⟨rfl, c, hcc, hcK, rfl, HL, HXr⟩ := hrel
        obtain ⟨wi, rfl⟩ : ∃ wi : World, wi = wr := ⟨_, rfl⟩
        have c2 := HXr.out.x.cell hC1.out
        by_cases hlt : c < K
        · have hc4 : (c : Int) < 4 := by omega
          have hT : stO ds c < 2 ^ ds.length := stO_lt ds c
          have h17 : 2 ^ ds.length < 2 ^ N := Nat.pow_lt_pow_right (by omega) hlen
          rw [← HYN.out] at h17
          obtain ⟨P1, hP1⟩ : ∃ P1, P1 = 2 ^ ds.length := ⟨_, rfl⟩
          have s1 : IntKind.u32.wrap (2 ^ ds.length) = (P1 : Int) := by rw [hP1]; rw [show ((2 : Int) ^ ds.length) = ((2 ^ ds.length : Nat) : Int) by simp]; exact u32_in (by omega) (by omega)
          have t1 : min ds.length 64 = ds.length := by omega
          obtain ⟨T, hTe⟩ : ∃ T, T = stO ds c := ⟨_, rfl⟩
          obtain ⟨X, hXe⟩ : ∃ X, X = T ||| P1 := ⟨_, rfl⟩
          have hXY : X < Y := by rw [hXe, HYN.out]; exact Nat.or_lt_two_pow (by rw [← HYN.out]; omega) (by rw [← HYN.out]; omega)
          have u1 := u32_or_nat T P1 (by omega) (by omega)
          rw [← hXe] at u1
          obtain ⟨v, hv⟩ : ∃ v, v = fr c X := ⟨_, rfl⟩
          have hok : okf fr c ds.length (stO ds c) = v := by rw [hv, hXe, hTe, hP1]; rfl
          have HQ := hidd (fun w' (h : RelX N K Y W.heap.size bx C fr (J D) D gf pre (stO ds) (colI ds) w') => (show w'.cell? ⟨W.heap.size + 1, c, none⟩ = some (.int .u32 (T : Int)) ∧ w'.cell? ⟨W.heap.size, c, none⟩ = some (.slice (some ⟨gf c, 0, none⟩) Y Y) ∧ w'.cell? ⟨gf c, X, none⟩ = some (.bool v) ∧ w'.frozen? ⟨W.heap.size + 1, c, none⟩ = false from by
            rw [hTe, hv]; exact ⟨h.cT (by omega), h.cF hlt hK, h.cE hlt hXY, h.t.fro c⟩))
          have HSS := hidd (show setF (stO ds) c X = stO (c :: ds) from by rw [hXe, hTe, hP1]; rfl)
          have hXI : (X : Int) < (Y : Int) := by omega
          have hd1 := hidd (muO_down (K := K) (N := N) (ds := ds) hlen hcc)
          clear hXe hTe hP1 hv hT h17
          cases v with
          | true =>
            have HN := hidd (show all = pre ++ exR (okf fr) K N (c :: ds) 0 from by rw [HL.out, exT_yes hlt hok, ← exR_new (by simp; omega)])
            have HPT := hidd (fun w' (h : RelX N K Y W.heap.size bx C fr (J D) D gf pre (stO ds) (colI ds) w') => (show RelX N K Y W.heap.size bx C fr (J D) D gf pre (stO (c :: ds)) (colI ds) (w'.setCell ⟨W.heap.size + 1, c, none⟩ (.int .u32 (X : Int))) from by
              have := h.setT (HJ.out D) (show c < 4 by omega) (v := X)
              rwa [HSS.out] at this))
            have HPC := hidd (fun w' (h : RelX N K Y W.heap.size bx C fr (J D) D gf pre (stO (c :: ds)) (colI ds) w') => (show RelX N K Y W.heap.size bx C fr (J D) D gf pre (stO (c :: ds)) (colI (c :: ds)) (w'.setCell ⟨W.heap.size + 2, ds.length, none⟩ (.int .i64 (c : Int))) from by
              have := h.setC (HJ.out D) (x := (c : Int)) (by rw [colI_len]; exact hlen)
              rwa [colI_len, ← colI_cons] at this))
            have HPF := hidd (fun w' (h : RelX N K Y W.heap.size bx C fr (J D) D gf pre (stO (c :: ds)) (colI ds) w') => (show (∃ z, w'.cell? ⟨W.heap.size + 2, ds.length, none⟩ = some (.int .i64 z)) ∧ w'.frozen? ⟨W.heap.size + 2, ds.length, none⟩ = false from by
              obtain ⟨cl, h1, h2, h3⟩ := h.cl
              exact ⟨⟨_, h2.cell (icells_get (zs := cl) (j := ds.length) (by omega))⟩, h2.fro _⟩))
            have hlI : (ds.length : Int) < (N : Int) := by omega
            have hl17 : (ds.length : Int) ≤ 17 := by omega
            clear hok
            gi_wp2_with fail
            refine wpIn_region_tail_lit (lets_wide _) 10 (fun w' => RelX N K Y W.heap.size bx C fr (J D) D gf pre (stO ds) (colI ds) w') (by decide) (by kernel_rfl) (HXr.out.drew (HJ.out D)) (by kernel_rfl) (by kernel_rfl) (by kernel_rfl) (by kernel_rfl) (by kernel_rfl) ?_
            simp only [List.take_succ_cons, List.take_zero, List.drop_succ_cons, List.drop_zero, List.map_cons, List.map_nil, List.cons_append, List.nil_append, idle]
            refine qs rfl (fun KQ hKQ => ?_)
            apply Exists.intro
            refine ⟨fun w' hw' => ?_, ?_⟩
            · go_simp; exact rfl
            go_simp
            refine hKQ _ ?_
            clear hKQ KQ
            refine qs rfl (fun KQ hKQ => ?_)
            apply Exists.intro
            refine ⟨fun w' hw' => ?_, ?_⟩
            · go_simp; exact rfl
            go_simp
            refine hKQ _ ?_
            clear hKQ KQ
            refine qs rfl (fun KQ hKQ => ?_)
            apply Exists.intro
            refine ⟨fun w' hw' => ?_, ?_⟩
            · have e1 := (HQ.out w' hw').2.1; go_simp; exact rfl
            go_simp
            refine hKQ _ ?_
            clear hKQ KQ
            refine qs rfl (fun KQ hKQ => ?_)
            apply Exists.intro
            refine ⟨fun w' hw' => ?_, ?_⟩
            · go_simp; exact rfl
            go_simp
            refine hKQ _ ?_
            clear hKQ KQ
            refine qs rfl (fun KQ hKQ => ?_)
            apply Exists.intro
            refine ⟨fun w' hw' => ?_, ?_⟩
            · go_simp; exact rfl
            go_simp
            refine hKQ _ ?_
            clear hKQ KQ
            refine qs rfl (fun KQ hKQ => ?_)
            apply Exists.intro
            refine ⟨fun w' hw' => ?_, ?_⟩
            · have e1 := (HQ.out w' hw').1; go_simp; exact rfl
            go_simp
            refine hKQ _ ?_
            clear hKQ KQ
            refine qs rfl (fun KQ hKQ => ?_)
            apply Exists.intro
            refine ⟨fun w' hw' => ?_, ?_⟩
            · go_simp; exact rfl
            go_simp
            refine hKQ _ ?_
            clear hKQ KQ
            refine qs rfl (fun KQ hKQ => ?_)
            apply Exists.intro
            refine ⟨fun w' hw' => ?_, ?_⟩
            · go_simp; exact rfl
            go_simp
            refine hKQ _ ?_
            clear hKQ KQ
            refine qs rfl (fun KQ hKQ => ?_)
            apply Exists.intro
            refine ⟨fun w' hw' => ?_, ?_⟩
            · go_simp; exact rfl
            go_simp
            refine hKQ _ ?_
            clear hKQ KQ
            refine qs rfl (fun KQ hKQ => ?_)
            apply Exists.intro
            refine ⟨fun w' hw' => ?_, ?_⟩
            · go_simp; exact rfl
            go_simp
            refine hKQ _ ?_
            clear hKQ KQ
            refine qs rfl (fun KQ hKQ => ?_)
            apply Exists.intro
            refine ⟨fun w' hw' => ?_, ?_⟩
            · go_simp; exact rfl
            go_simp
            refine hKQ _ ?_
            clear hKQ KQ
            refine wpQuiet_nil ?_
            intro w' hw'
            have e1 := (HQ.out w' hw').2.2.1
            have HR2 := hidd hw'
            clear hw'
            gi_wp2_with fail
            refine wpIn_region_tail_lit (lets_wide _) 7 (fun w'' => RelX N K Y W.heap.size bx C fr (J D) D gf pre (stO ds) (colI ds) w'') (by decide) (by kernel_rfl) (HR2.out.drew (HJ.out D)) (by kernel_rfl) (by kernel_rfl) (by kernel_rfl) (by kernel_rfl) (by kernel_rfl) ?_
            simp only [List.take_succ_cons, List.take_zero, List.drop_succ_cons, List.drop_zero, List.map_cons, List.map_nil, List.cons_append, List.nil_append, idle]
            clear e1
            refine qs rfl (fun KQ hKQ => ?_)
            apply Exists.intro
            refine ⟨fun w' hw' => ?_, ?_⟩
            · go_simp; exact rfl
            go_simp
            refine hKQ _ ?_
            clear hKQ KQ
            refine qs rfl (fun KQ hKQ => ?_)
            apply Exists.intro
            refine ⟨fun w' hw' => ?_, ?_⟩
            · go_simp; exact rfl
            go_simp
            refine hKQ _ ?_
            clear hKQ KQ
            refine qs rfl (fun KQ hKQ => ?_)
            apply Exists.intro
            refine ⟨fun w' hw' => ?_, ?_⟩
            · have e1 := (HQ.out w' hw').1; go_simp; exact rfl
            go_simp
            refine hKQ _ ?_
            clear hKQ KQ
            refine qs rfl (fun KQ hKQ => ?_)
            apply Exists.intro
            refine ⟨fun w' hw' => ?_, ?_⟩
            · go_simp; exact rfl
            go_simp
            refine hKQ _ ?_
            clear hKQ KQ
            refine qs rfl (fun KQ hKQ => ?_)
            apply Exists.intro
            refine ⟨fun w' hw' => ?_, ?_⟩
            · go_simp; exact rfl
            go_simp
            refine hKQ _ ?_
            clear hKQ KQ
            refine qs rfl (fun KQ hKQ => ?_)
            apply Exists.intro
            refine ⟨fun w' hw' => ?_, ?_⟩
            · go_simp; exact rfl
            go_simp
            refine hKQ _ ?_
            clear hKQ KQ
            refine qs rfl (fun KQ hKQ => ?_)
            apply Exists.intro
            refine ⟨fun w' hw' => ?_, ?_⟩
            · go_simp; exact rfl
            go_simp
            refine hKQ _ ?_
            clear hKQ KQ
            refine qs rfl (fun KQ hKQ => ?_)
            apply Exists.intro
            refine ⟨fun w' hw' => ?_, ?_⟩
            · go_simp; exact rfl
            go_simp
            refine hKQ _ ?_
            clear hKQ KQ
            refine wpQuiet_nil ?_
            intro w' hw'
            have e1 := (HQ.out w' hw').1
            have f1 := (HQ.out w' hw').2.2.2
            have HR3 := hidd (HPT.out w' hw')
            obtain ⟨⟨z, e2⟩, f2⟩ := HPF.out _ (HPT.out w' hw')
            have HR4 := hidd (HPC.out _ (HPT.out w' hw'))
            clear hw'
            gi_wp2_with fail
            refine wpIn_goto ?_
            refine (?_ : ((1 = 1 ∧ ∃ i', JF all N K Y W.heap.size bx l C fr J i' _ _ ∧ muO K N true i'.1 i'.2 < muO K N true ds c0) ∨ (1 = 0 ∧ ∃ i', JB all N K Y W.heap.size bx l C fr J i' _ _ ∧ muO K N false i'.1 i'.2 < muO K N true ds c0)))
            exact .inl ⟨rfl, (c :: ds, 0), ⟨D, gf, pre, _, _, _, _, _, _, _, _, _, _, _, _, _, _, _, _, _, _, _, _, _, _, _, _, _, _, _, _, _, _, _, _, _, _, _, _, _, _, _, _, _, _, _, _, _, _, _, _, _, _, _, _, _, _, _, _, _, _, _, _, _, _, _, _, _, _, _, _, _, _, _, _, _, _, _, rfl, ⟨by simp; omega, (fun d hd => by rcases List.mem_cons.1 hd with rfl | h; exact hlt; exact HDS.out d h), Nat.zero_le _, HN.out, HR4.out⟩⟩, hd1.out⟩
          | false =>
            have HN := hidd (show all = pre ++ (exT (okf fr) K N ds (c + 1) ++ exB (okf fr) K N ds) from by rw [HL.out, exT_no hlt hok])
            clear hok
            gi_wp2_with fail
            refine wpIn_region_tail_lit (lets_wide _) 10 (fun w' => RelX N K Y W.heap.size bx C fr (J D) D gf pre (stO ds) (colI ds) w') (by decide) (by kernel_rfl) (HXr.out.drew (HJ.out D)) (by kernel_rfl) (by kernel_rfl) (by kernel_rfl) (by kernel_rfl) (by kernel_rfl) ?_
            simp only [List.take_succ_cons, List.take_zero, List.drop_succ_cons, List.drop_zero, List.map_cons, List.map_nil, List.cons_append, List.nil_append, idle]
            refine qs rfl (fun KQ hKQ => ?_)
            apply Exists.intro
            refine ⟨fun w' hw' => ?_, ?_⟩
            · go_simp; exact rfl
            go_simp
            refine hKQ _ ?_
            clear hKQ KQ
            refine qs rfl (fun KQ hKQ => ?_)
            apply Exists.intro
            refine ⟨fun w' hw' => ?_, ?_⟩
            · go_simp; exact rfl
            go_simp
            refine hKQ _ ?_
            clear hKQ KQ
            refine qs rfl (fun KQ hKQ => ?_)
            apply Exists.intro
            refine ⟨fun w' hw' => ?_, ?_⟩
            · have e1 := (HQ.out w' hw').2.1; go_simp; exact rfl
            go_simp
            refine hKQ _ ?_
            clear hKQ KQ
            refine qs rfl (fun KQ hKQ => ?_)
            apply Exists.intro
            refine ⟨fun w' hw' => ?_, ?_⟩
            · go_simp; exact rfl
            go_simp
            refine hKQ _ ?_
            clear hKQ KQ
            refine qs rfl (fun KQ hKQ => ?_)
            apply Exists.intro
            refine ⟨fun w' hw' => ?_, ?_⟩
            · go_simp; exact rfl
            go_simp
            refine hKQ _ ?_
            clear hKQ KQ
            refine qs rfl (fun KQ hKQ => ?_)
            apply Exists.intro
            refine ⟨fun w' hw' => ?_, ?_⟩
            · have e1 := (HQ.out w' hw').1; go_simp; exact rfl
            go_simp
            refine hKQ _ ?_
            clear hKQ KQ
            refine qs rfl (fun KQ hKQ => ?_)
            apply Exists.intro
            refine ⟨fun w' hw' => ?_, ?_⟩
            · go_simp; exact rfl
            go_simp
            refine hKQ _ ?_
            clear hKQ KQ
            refine qs rfl (fun KQ hKQ => ?_)
            apply Exists.intro
            refine ⟨fun w' hw' => ?_, ?_⟩
            · go_simp; exact rfl
            go_simp
            refine hKQ _ ?_
            clear hKQ KQ
            refine qs rfl (fun KQ hKQ => ?_)
            apply Exists.intro
            refine ⟨fun w' hw' => ?_, ?_⟩
            · go_simp; exact rfl
            go_simp
            refine hKQ _ ?_
            clear hKQ KQ
            refine qs rfl (fun KQ hKQ => ?_)
            apply Exists.intro
            refine ⟨fun w' hw' => ?_, ?_⟩
            · go_simp; exact rfl
            go_simp
            refine hKQ _ ?_
            clear hKQ KQ
            refine qs rfl (fun KQ hKQ => ?_)
            apply Exists.intro
            refine ⟨fun w' hw' => ?_, ?_⟩
            · go_simp; exact rfl
            go_simp
            refine hKQ _ ?_
            clear hKQ KQ
            refine wpQuiet_nil ?_
            intro w' hw'
            have e1 := (HQ.out w' hw').2.2.1
            have HR2 := hidd hw'
            clear hw'
            gi_wp2_with fail
            go_roundw
            case rel => exact ⟨rfl, c + 1, by omega, by omega, by go_num, HN.out, HR2.out⟩
            case measure => simp [intOf]; omega
        · have hck : c = K := by omega
          have HN := hidd (show all = pre ++ exB (okf fr) K N ds from by rw [HL.out, hck, exT_end, List.nil_append])
          have hlI : decide ((c : Int) < (K : Int)) = false := by simp; omega
          have hmu := hidd (muO_end (K := K) (N := N) (ds := ds) hcc)
          gi_wp2_with fail
          rename_i K3 hK3
          refine wpIn_label ?_
          refine hK3 _ _ ?_
          refine HBK.out (ds, c) _ _ ⟨D, gf, pre, _, _, _, _, _, _, _, _, _, _, _, _, _, _, _, _, _, _, _, _, _, _, _, _, _, _, _, _, _, _, _, _, _, _, _, _, _, _, _, _, _, _, _, _, _, _, _, _, _, _, _, _, _, _, _, _, _, _, _, _, _, _, _, _, _, _, _, _, _, _, _, _, _, _, _, _, rfl, ⟨Nat.le_of_lt hlen, HDS.out, hcK, HN.out, HXr.out⟩⟩ hmu.out
end Go.Proofs.YtckffliiidgilaaDoor

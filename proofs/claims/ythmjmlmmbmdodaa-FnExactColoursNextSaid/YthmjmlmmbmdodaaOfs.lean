/- The function that hands out all faults of a part: its walk. -/
import Derived.Test.YthmjmlmmbmdodaaOut
namespace Go.Proofs.Ythmjmlmmbmdodaa
set_option linter.unusedVariables false
set_option linter.unusedSimpArgs false
open Go Go.RowKit Go.Shelf
attribute [local go_sem] Oper.semAt_some
theorem at57g (a : Option Addr) (n cap T : Nat) (x : Value) (z : Int) (w : World) :
    Calls Try.prog 57 #[.slice a n cap, .iface T x, .int .i64 z] w fun e w' => e = .returned (.func (.func 67) #[] #[.pointer (some ⟨w.heap.size, 0, none⟩), .pointer (some ⟨w.heap.size + 1 + 1, 0, none⟩), .pointer (some ⟨w.heap.size + 1, 0, none⟩)]) ∧
      Blk w' w.heap.size #[.slice a n cap] 22 ∧ Blk w' (w.heap.size + 1) #[.iface T x] 48 ∧ Blk w' (w.heap.size + 1 + 1) #[.int .i64 z] 2 ∧ Below w.heap.size w w' := by
  refine (at57f a n cap T x z w).mono ?_
  rintro e w' ⟨h1, rfl⟩
  exact ⟨h1, ((Blk.new _ _ _ _ rfl).alloc _).alloc _, (Blk.new _ _ _ _ (by simp)).alloc _, Blk.new _ _ _ _ (by simp), (((Below.refl _ _).alloc (Nat.le_refl _) _).alloc (by simp) _).alloc (by simp; omega) _⟩
/-- The boxes of the part and of the kind, and the part itself. -/
def Cap2 (zs : List Int) (kind : Int) (bp off cap Bp Bk : Nat) (W : World) : Prop :=
  Blk W Bp #[.slice (some ⟨bp, off, none⟩) zs.length cap] 22 ∧ Blk W Bk #[kindV kind] 48 ∧ SlI W (some ⟨bp, off, none⟩) zs
theorem Cap2.same {zs : List Int} {kind : Int} {bp off cap Bp Bk : Nat} {W W' : World} (h : Cap2 zs kind bp off cap Bp Bk W) (e : ∀ b, b ∈ [Bp, Bk, bp] → W'.heap[b]? = W.heap[b]?) : Cap2 zs kind bp off cap Bp Bk W' :=
  ⟨(e Bp (by simp)).trans h.1, (e Bk (by simp)).trans h.2.1, sl_at h.2.2 (e bp (by simp))⟩
/-- What holds at each row's head. -/
def RelOf (zs : List Int) (kind : Int) (bp off cap Bp Bk Y : Nat) (J : List Flt → World → Prop) (W : World) (l : Nat) (Ds : List Nat) (xs : List Flt) (wr : World) : Prop :=
  J xs wr ∧ Cap2 zs kind bp off cap Bp Bk wr ∧ Blk wr Y #[.func (.yield l) #[] #[]] 71 ∧ Mks W.heap.size Ds wr ∧ W.heap.size ≤ wr.heap.size
theorem RelOf.below {zs : List Int} {kind : Int} {bp off cap Bp Bk Y : Nat} {J : List Flt → World → Prop} {W : World} {l : Nat} {Ds : List Nat} {xs : List Flt} {wr w2 : World} (h : RelOf zs kind bp off cap Bp Bk Y J W l Ds xs wr) (hJ : Stab W.heap.size J) (hin : ∀ b, b ∈ [Bp, Bk, bp] → b < W.heap.size) {C : Nat} (hC : W.heap.size ≤ C) (hY : Y < C) (hD : ∀ D, D ∈ Ds → D < C) (hb : Below C wr w2) :
    RelOf zs kind bp off cap Bp Bk Y J W l Ds xs w2 :=
  ⟨hJ _ _ _ h.1 (hb.mono hC), h.2.1.same (fun b hb2 => hb.block b (Nat.lt_of_lt_of_le (hin b hb2) hC)), h.2.2.1.below hb hY, h.2.2.2.1.below hD hb, Nat.le_trans h.2.2.2.2 hb.size⟩
theorem blk_put {A : World} {b l : Nat} {C : Array Value} {t : TypeId} {o : Obj} (h : Blk A b C t) (hl : A.heap[l]? = some o) (ho : o.isCells = false) (o' : Obj) : Blk (A.putObj l o') b C t :=
  (World.putObj_heap_other (fun e => by subst e; rw [show A.heap[b]? = _ from h] at hl; cases hl; cases ho)).trans h
set_option maxRecDepth 100000 in
set_option maxHeartbeats 4000000 in
theorem iter56 (m : Nat) (zs : List Int) (kind : Int) (k0 : 0 ≤ kind) (k2 : kind ≤ 2) (bp off cap Bp Bk : Nat) (w : World) (hl : zs.length ≤ 41) (hbp : bp < w.heap.size) (hC : Cap2 zs kind bp off cap Bp Bk w) :
    Gives (m + 1) 56 #[.pointer (some ⟨Bp, 0, none⟩), .pointer (some ⟨Bk, 0, none⟩)] encF [Bp, Bk, bp] (fsL zs kind 1 zs.length) w := by
  intro l J Jx W hsz hbs hJ hJx hY h0
  have hC0 := hC.same hbs
  obtain ⟨T, tv, hkv⟩ := kindV_if kind
  have hin : ∀ b, b ∈ [Bp, Bk, bp] → b < W.heap.size := fun b hb => by
    simp only [List.mem_cons, List.not_mem_nil, or_false] at hb
    rcases hb with rfl | rfl | rfl
    · exact hC0.1.lt
    · exact hC0.2.1.lt
    · omega
  have HIN := hidd hin
  have HY := hidd hY
  have HKV := hidd hkv
  have hR0 : RelOf zs kind bp off cap Bp Bk W.heap.size J W l [] (fsL zs kind 1 0) (W.alloc (.cells #[.func (.yield l) #[] #[]] 71)) := by
    have hb : Below W.heap.size W (W.alloc (.cells #[.func (.yield l) #[] #[]] 71)) := (Below.refl _ _).alloc (Nat.le_refl _) _
    exact ⟨hJ _ _ _ h0 hb, hC0.same (fun b hb2 => hb.block b (hin b hb2)), Blk.new _ _ _ _ rfl, Mks.nil _ _, hb.size⟩
  have HR0 := hidd hR0
  have cP := hR0.2.1.1.cell (j := 0) (show _ = some (Value.slice (some ⟨bp, off, none⟩) zs.length cap) from rfl)
  clear hC hC0 hbs hin hY hkv hR0 h0
  refine callsIn_of_wp_marks Try.func56 rfl trivial ?_ rfl
  simp only [Try.ntmps56, List.size_toArray, List.length_cons, List.length_nil, Nat.reduceAdd, Nat.reduceSub, Array.replicate_succ, Array.replicate_zero, List.push_toArray, List.append_toArray, List.nil_append, List.cons_append]
  gi_wp2
  refine wpIn_loop (fun a wr => ∃ (j : Nat) (Ds : List Nat) (u4 u5 u9 u10 u11 u12 u13 u14 u15 u16 u17 u18 u19 u20 u21 : Value), a = { tmps := #[.func (.yield l) #[] #[], .pointer (some ⟨Bp, 0, none⟩), .pointer (some ⟨Bk, 0, none⟩), .pointer (some ⟨W.heap.size, 0, none⟩), u4, u5, .slice (some ⟨bp, off, none⟩) zs.length cap, .int .i64 (zs.length : Int), .int .i64 (j : Int), u9, u10, u11, u12, u13, u14, u15, u16, u17, u18, u19, u20, u21], defers := Ds.map mk } ∧ j ≤ zs.length ∧ Hid (RelOf zs kind bp off cap Bp Bk W.heap.size J W l Ds (fsL zs kind 1 j) wr)) (fun a _ => zs.length - (intOf (a.tmps.getD 8 undef)).toNat) ?_ ?_
  · exact ⟨0, [], _, _, _, _, _, _, _, _, _, _, _, _, _, _, _, rfl, Nat.zero_le _, HR0⟩
  · clear cP
    rintro a wr ⟨j, Ds, u4, u5, u9, u10, u11, u12, u13, u14, u15, u16, u17, u18, u19, u20, u21, rfl, hj, HR⟩
    have cP := HR.out.2.1.1.cell (j := 0) (show _ = some (Value.slice (some ⟨bp, off, none⟩) zs.length cap) from rfl)
    have cK := HR.out.2.1.2.1.cell (j := 0) (show _ = some (kindV kind) from rfl)
    rw [HKV.out] at cK
    have hl41 : (zs.length : Int) ≤ 41 := by omega
    by_cases hlt : j < zs.length
    · gi_wp2_with fail
      refine ⟨trivial, (callsIn_wide.2 (at57g _ _ _ _ _ _ _)).mono ?_⟩
      rintro e w1 ⟨rfl, f1, f2, f3, hb1⟩
      have hWr := HR.out.2.2.2.2
      have hYr := HR.out.2.2.1.lt
      have f3lt := f3.lt
      have hW1 : W.heap.size ≤ w1.heap.size := Nat.le_trans hWr hb1.size
      have hD1 : ∀ D, D ∈ Ds → D < w1.heap.size := fun D hD => Nat.lt_of_lt_of_le (HR.out.2.2.2.1.lt hD) hb1.size
      have HR1 := hidd (HR.out.below hJ HIN.out hWr hYr (fun D hD => HR.out.2.2.2.1.lt hD) hb1)
      have hcaps : Caps zs kind (j + 1) bp off cap wr.heap.size (wr.heap.size + 1 + 1) (wr.heap.size + 1) w1 := ⟨f1, f3, by rw [HKV.out]; exact f2, HR1.out.2.1.2.2⟩
      have HIT := hidd (iter67 kind k0 k2 m zs (j + 1) bp off cap wr.heap.size (wr.heap.size + 1 + 1) (wr.heap.size + 1) w1 (by omega) (by omega) hl (by omega) hcaps)
      have hbs1 : ∀ b, b ∈ [wr.heap.size, wr.heap.size + 1 + 1, wr.heap.size + 1, bp] → b < w1.heap.size := fun b hb => by
        simp only [List.mem_cons, List.not_mem_nil, or_false] at hb
        omega
      have HBS := hidd hbs1
      have HD1 := hidd hD1
      have HST := hidd (show Stab w1.heap.size (fun pre Wx => RelOf zs kind bp off cap Bp Bk W.heap.size J W l Ds (fsL zs kind 1 j ++ pre) Wx) from
        fun pre A A' h hb => h.below hJ HIN.out hW1 (by omega) hD1 hb)
      have HSX := hidd (show StabX w1.heap.size (fun pre Wx => Jx (fsL zs kind 1 j ++ pre) Wx ∧ Mks W.heap.size Ds Wx) from
        fun pre A A' h hb hcc => ⟨hJx _ _ _ h.1 (hb.mono hW1) hcc, h.2.below hD1 hb⟩)
      have HI0 := hidd (show RelOf zs kind bp off cap Bp Bk W.heap.size J W l Ds (fsL zs kind 1 j ++ []) w1 by rw [List.append_nil]; exact HR1.out)
      clear f1 f2 f3 hb1 cP cK hcaps hbs1 hD1
      gi_wp2_with fail
      refine range_gives rfl (enters_of Try.func67 (by kernel_rfl) rfl) HIT.out HBS.out (fun _ => rfl)
        (fun pre Wx => RelOf zs kind bp off cap Bp Bk W.heap.size J W l Ds (fsL zs kind 1 j ++ pre) Wx) (fun pre Wx => Jx (fsL zs kind 1 j ++ pre) Wx ∧ Mks W.heap.size Ds Wx) HST.out HSX.out HI0.out
        (fun x a' Wx => ∃ b, a' = { tmps := #[.func (.yield l) #[] #[], .pointer (some ⟨Bp, 0, none⟩), .pointer (some ⟨Bk, 0, none⟩), .pointer (some ⟨W.heap.size, 0, none⟩), .int .i64 (j : Int), .pointer (some ⟨b, 0, none⟩), .slice (some ⟨bp, off, none⟩) zs.length cap, .int .i64 (zs.length : Int), .int .i64 (j : Int), .bool true, .int .i64 (j : Int), .slice (some ⟨bp, off, none⟩) zs.length cap, .iface T tv, .int .i64 (j : Int), .int .i64 ((j : Int) + 1), .func (.func 67) #[] #[.pointer (some ⟨wr.heap.size, 0, none⟩), .pointer (some ⟨wr.heap.size + 1 + 1, 0, none⟩), .pointer (some ⟨wr.heap.size + 1, 0, none⟩)], .agg #[.int .i64 x.1, .int .i64 x.2.1, .int .i64 x.2.2], u17, u18, u19, u20, u21], defers := [] } ∧ Blk Wx b #[.int .i64 x.1, .int .i64 x.2.1, .int .i64 x.2.2] 56)
        (fun x a' A l' o o' h hl' ho => by obtain ⟨b, h1, h2⟩ := h; exact ⟨b, h1, blk_put h2 hl' ho o'⟩) ?assign ?body ?done ?stop
      case assign =>
        intro l' pre x rest Wx Kx' hall hI hs hK
        have HK := hidd hK
        clear hK hI
        dsimp only [encF]
        gi_wp2
        refine HK.out _ _ ((Below.refl _ _).alloc (Nat.le_refl _) _) ⟨Wx.heap.size, rfl, Blk.new _ _ _ _ rfl⟩
      case body =>
        rintro l' pre x rest a' Wx hall hs hI ⟨b, rfl, hblk⟩
        have cY := hI.2.2.1.cell (j := 0) (show _ = some (Value.func (.yield l) #[] #[]) from rfl)
        obtain ⟨r, hr⟩ := fsL_more zs kind 1 (j + 1) (zs.length - (j + 1))
        have hall2 : fsL zs kind 1 zs.length = (fsL zs kind 1 j ++ pre) ++ x :: (rest ++ r) := by
          rw [show j + 1 + (zs.length - (j + 1)) = zs.length by omega, fsL, show 1 + j = j + 1 by omega, hall] at hr
          rw [hr]; simp
        obtain ⟨fn, tmps, assign, bdy, hyy, hRn⟩ := HY.out (fsL zs kind 1 j ++ pre) x (rest ++ r) Wx hall2 hI.1
        have HRR := hidd hRn
        have HI := hidd hI
        have HB := hidd hblk
        have HS := hidd hs
        clear hRn hI hblk hall hall2 hr
        dsimp only [encF] at hyy
        gi_wp2_with (refine inLoadRow rfl 56 (.tmp 5) rfl b rfl 56 _ _ HB.out Try.underlying56 rfl (by kernel_rfl) ?_)
        refine ⟨(fun h => by cases h), (round_any HRR.out).mono ?_⟩
        rintro e W3 ⟨hk3, ⟨rfl, hJ3⟩ | ⟨rfl, hx3⟩⟩
        · have KX := hidd (show Kx [wr.heap.size, wr.heap.size + 1 + 1, wr.heap.size + 1, bp] w1.heap.size Wx W3 from ⟨hk3.1, fun k hk hb => hk3.2 k hk (by
            rcases hb with hb | hb
            · exact .inl (by omega)
            · simp only [List.mem_cons, List.not_mem_nil, or_false] at hb
              rcases hb with rfl | rfl | rfl | rfl
              · exact .inl (by omega)
              · exact .inl (by omega)
              · exact .inl (by omega)
              · exact .inr (by simp))⟩)
          have KI := hidd (show RelOf zs kind bp off cap Bp Bk W.heap.size J W l Ds (fsL zs kind 1 j ++ (pre ++ [x])) W3 from
            ⟨by rw [← List.append_assoc]; exact hJ3, HI.out.2.1.same (fun b hb => hk3.2 b (Nat.lt_of_lt_of_le (HIN.out b hb) HI.out.2.2.2.2) (.inr hb)),
              (hk3.2 _ HI.out.2.2.1.lt (.inl (Nat.le_refl _))).trans HI.out.2.2.1, HI.out.2.2.2.1.kx hk3, Nat.le_trans HI.out.2.2.2.2 hk3.1⟩)
          clear hk3 hJ3
          gi_wp2
          exact ⟨KX.out, KI.out⟩
        · have KX := hidd (show Kx [wr.heap.size, wr.heap.size + 1 + 1, wr.heap.size + 1, bp] w1.heap.size Wx W3 from ⟨hk3.1, fun k hk hb => hk3.2 k hk (by
            rcases hb with hb | hb
            · exact .inl (by omega)
            · simp only [List.mem_cons, List.not_mem_nil, or_false] at hb
              rcases hb with rfl | rfl | rfl | rfl
              · exact .inl (by omega)
              · exact .inl (by omega)
              · exact .inl (by omega)
              · exact .inr (by simp))⟩)
          have KI := hidd (show Jx (fsL zs kind 1 j ++ (pre ++ [x])) W3 ∧ Mks W.heap.size Ds W3 from ⟨by rw [← List.append_assoc]; exact hx3, HI.out.2.2.2.1.kx hk3⟩)
          clear hk3 hx3
          gi_wp2
          exact ⟨KX.out, KI.out⟩
      case done =>
        intro D Wx hD hI hdef
        have hDn : ¬ D ∈ Ds := fun h => by have := HD1.out D h; omega
        have K := hidd (show RelOf zs kind bp off cap Bp Bk W.heap.size J W l (D :: Ds) (fsL zs kind 1 (j + 1)) Wx from
          ⟨by rw [fsL, show 1 + j = j + 1 by omega]; exact hI.1, hI.2.1, hI.2.2.1, hI.2.2.2.1.cons (Nat.le_trans hW1 hD) hDn hdef, hI.2.2.2.2⟩)
        clear hI hdef
        gi_wp2
        refine ⟨⟨j + 1, D :: Ds, .int .i64 (j : Int), u5, .bool true, .int .i64 (j : Int), .slice (some ⟨bp, off, none⟩) zs.length cap, .iface T tv, .int .i64 (j : Int), .int .i64 ((j : Int) + 1), .func (.func 67) #[] #[.pointer (some ⟨wr.heap.size, 0, none⟩), .pointer (some ⟨wr.heap.size + 1 + 1, 0, none⟩), .pointer (some ⟨wr.heap.size + 1, 0, none⟩)], u16, u17, u18, u19, u20, .int .i64 ((j : Int) + 1), ?_, by omega, K⟩, ?_⟩
        · rw [show ((j + 1 : Nat) : Int) = (j : Int) + 1 by omega]; rfl
        · simp [intOf]; omega
      case stop =>
        intro D pre x rest Wx hD hall hIx hdef
        obtain ⟨r, hr⟩ := fsL_more zs kind 1 (j + 1) (zs.length - (j + 1))
        have hall2 : fsL zs kind 1 zs.length = (fsL zs kind 1 j ++ pre) ++ x :: (rest ++ r) := by
          rw [show j + 1 + (zs.length - (j + 1)) = zs.length by omega, fsL, show 1 + j = j + 1 by omega, hall] at hr
          rw [hr]; simp
        have hDn : ¬ D ∈ Ds := fun h => by have := HD1.out D h; omega
        have hM := hIx.2.cons (Nat.le_trans hW1 hD) hDn hdef
        have HA := hidd hall2
        have HX := hidd hIx.1
        have HM := hidd hM
        clear hall hall2 hr hIx hdef hM
        gi_wp2
        exact leave_marks (D :: Ds) Wx HM.out (fun W' hb hcc => ⟨results_none rfl _ _ _, ⟨_, rfl⟩, .inr ⟨_, x, _, HA.out, by have h := hJx _ _ _ HX.out hb hcc; rw [← List.append_assoc] at h; exact h⟩⟩)
    · have hje : j = zs.length := by omega
      gi_wp2_with fail
      exact leave_marks Ds wr HR.out.2.2.2.1 (fun W' hb _ => ⟨results_none rfl _ _ _, ⟨_, rfl⟩, .inl (by have h := hJ _ _ _ HR.out.1 hb; rw [hje] at h; exact h)⟩)
end Go.Proofs.Ythmjmlmmbmdodaa

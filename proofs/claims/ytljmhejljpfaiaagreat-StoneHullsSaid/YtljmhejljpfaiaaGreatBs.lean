import Derived.Test.YtljmhejljpfaiaaGreatBr
namespace Go.Proofs.YtljmhejljpfaiaaGreat
set_option maxRecDepth 100000
set_option maxRecDepth 100000
open Go.RowKit Go.Shelf
attribute [local go_sem] Oper.semAt_some

/-! Outcomes -/
theorem outcomes_seq (Bst Tp Tt b o c : Nat) (nm : ByteArray) (l : List Pt) (dp dn gx gz : Int) (p : Pt) (t : Int) (w0 : World) (h3 : 0 < l.length) (h12 : l.length ≤ 1000) (hx : Bx l)
    (hd : ∀ i, i < l.length → ¬ (px l (nx l.length i) = px l i ∧ pz l (nx l.length i) = pz l i))
    (hg1 : -100 ≤ gx ∧ gx ≤ 100) (hg2 : -100 ≤ gz ∧ gz ≤ 100) (hpb : (0 ≤ p.1 ∧ p.1 ≤ 2000) ∧ (0 ≤ p.2 ∧ p.2 ≤ 2000)) (ht : 0 ≤ t ∧ t ≤ 1000)
    (hst : Blk Bst #[.string nm, .slice (some ⟨b, o, none⟩) l.length c, .int .i64 dp, .int .i64 dn, .int .i64 gx, .int .i64 gz] 39 w0) (hpp : P2 Tp p.1 p.2 w0) (htt : Blk Tt #[.int .i64 t] 3 w0) (hr : Row w0 b o l) :
    SeqX Tryz.prog 62 #[.pointer (some ⟨Bst, 0, none⟩), .pointer (some ⟨Tp, 0, none⟩), .pointer (some ⟨Tt, 0, none⟩)] enc1 (fun k => k = Bst ∨ k = Tp ∨ k = Tt ∨ k = b) (fun xs => vals xs = outc l gx gz p t) (l.length * 2000) w0 := fun n lr Bs J Jx W hW hs hpv hJ hJx hY h0 => by
  have nc : ∀ k, (k = Bst ∨ k = Tp ∨ k = Tt ∨ k = b) → Nc Bs k W := fun k hk => ⟨(hpv k hk).1, (hpv k hk).2⟩
  exact outcomes1_in n lr Bs Bst Tp Tt b o c nm l dp dn gx gz p t h3 h12 hx hd hg1 hg2 hpb ht J Jx W hJ hJx hY hs (hst.below hW) (hpp.below hW) (htt.below hW) (hr.keep hW) (nc _ (.inl rfl)) (nc _ (.inr (.inl rfl))) (nc _ (.inr (.inr (.inl rfl)))) (nc _ (.inr (.inr (.inr rfl)))) h0
theorem IsP.bd {l : List Pt} {x z : Int} (h : IsP l x z) (hx : Bx l) : (0 ≤ x ∧ x ≤ 2000) ∧ (0 ≤ z ∧ z ≤ 2000) := by
  obtain ⟨i, hi, hh⟩ := h
  have h1 := hx i hi
  have h2 := hx _ (nx_lt hi)
  unfold hit oe at hh
  simp only [Bool.and_eq_true] at hh
  exact ⟨btw_in hh.2.1 h1.1 h2.1, btw_in hh.2.2.1 h1.2 h2.2⟩
/-- what Outcomes hands back -/
def POu (s : SV) (x z t : Int) (w : World) (e : Ending) (w' : World) : Prop :=
  (∃ (v' : Value) (er : Int), e = .returned (.tuple #[v', .int .i64 er]) ∧ (∃ p n c, v' = .slice p n c) ∧ BlowE s x z t er ∧ ((er = 0 ∧ Own w' w.heap.size v' (outc s.l s.gx s.gz (x, z) t)) ∨ (er ≠ 0 ∧ v' = .slice none 0 0))) ∧ Below w.heap.size w w'
set_option maxHeartbeats 8000000 in
theorem outcomes_any (s : SV) (v : Value) (x z t : Int) (w : World) (hn : s.nm.size ≤ maxLen) (h : Pts w v s.l) :
    Calls Tryz.prog 14 #[stv s v, .agg #[.int .i64 x, .int .i64 z], .int .i64 t] w (POu s x z t w) := by
  obtain ⟨i0, hi, hz0, hz1, hz2⟩ := info_parts Tryz.info37
  obtain ⟨p, c, hv⟩ : ∃ p c, v = .slice p s.l.length c := ⟨_, _, h.2.choose_spec.choose_spec.1⟩
  subst hv
  have HC := Lib.hid (fun W (k : Below w.heap.size w W) => checkBlow_any s (.slice p s.l.length c) x z t W hn (h.keep k))
  have HPT := Lib.hid h
  obtain ⟨nm, l, dp, dn, gx, gz⟩ := s
  have HE : Hid (∀ W er, er ≠ 0 → BlowE ⟨nm, l, dp, dn, gx, gz⟩ x z t er → Below w.heap.size w W → POu ⟨nm, l, dp, dn, gx, gz⟩ x z t w (.returned (.tuple #[.slice none 0 0, .int .i64 er])) W) := fun W er h0 hb k => ⟨⟨_, er, rfl, ⟨_, _, _, rfl⟩, hb, .inr ⟨h0, rfl⟩⟩, k⟩
  have HF : Hid (∀ W vp vn vc, BlowE ⟨nm, l, dp, dn, gx, gz⟩ x z t 0 → Own W w.heap.size (.slice vp vn vc) (outc l gx gz (x, z) t) → Below w.heap.size w W → POu ⟨nm, l, dp, dn, gx, gz⟩ x z t w (.returned (.tuple #[.slice vp vn vc, .int .i64 0])) W) := fun W vp vn vc hb ho k => ⟨⟨_, 0, rfl, ⟨_, _, _, rfl⟩, hb, .inl ⟨rfl, ho⟩⟩, k⟩
  unfold stv at *
  dsimp only at *
  clear h hn
  have s0 := (StB.new w nm (.slice p l.length c) dp dn gx gz 39).keep (bl1 _ (.cells #[.int .i64 x, .int .i64 z] 37))
  have s1 : P2 (w.heap.size + 1) x z ((w.alloc (.cells #[.string nm, .slice p l.length c, .int .i64 dp, .int .i64 dn, .int .i64 gx, .int .i64 gz] 39)).alloc (.cells #[.int .i64 x, .int .i64 z] 37)) := by
    have := P2.new (w.alloc (.cells #[.string nm, .slice p l.length c, .int .i64 dp, .int .i64 dn, .int .i64 gx, .int .i64 gz] 39)) x z
    rw [World.size_alloc] at this
    exact this
  have k0 := bl2 w (.cells #[.string nm, .slice p l.length c, .int .i64 dp, .int .i64 dn, .int .i64 gx, .int .i64 gz] 39) (.cells #[.int .i64 x, .int .i64 z] 37)
  have hz0' : ((w.alloc (.cells #[.string nm, .slice p l.length c, .int .i64 dp, .int .i64 dn, .int .i64 gx, .int .i64 gz] 39)).alloc (.cells #[.int .i64 x, .int .i64 z] 37)).heap.size = w.heap.size + 2 := by simp
  refine (callsIn_wide (n := 4)).1 ?_
  refine callsIn_of_wp_marks Tryz.func14 rfl trivial ?_ rfl
  simp only [Tryz.ntmps14, List.size_toArray, List.length_cons, List.length_nil, Nat.reduceAdd, Nat.reduceSub, Array.replicate_succ, Array.replicate_zero, List.push_toArray, List.append_toArray, List.nil_append, List.cons_append]
  gi_wp2_with fail
  refine ⟨trivial, ?_⟩
  refine (callsIn_wide.2 (HC.out _ k0)).mono ?_
  rintro e w1 ⟨⟨er, rfl, hx⟩, hb1⟩
  have k1 := Below.thru k0 k0.size hb1
  have hz1' := hb1.size
  replace s0 := s0.keep hb1
  replace s1 := s1.below hb1
  clear hb1 k0
  have HX := Lib.hid hx
  have K1 := Lib.hid k1
  have hsz1 : w.heap.size + 2 ≤ w1.heap.size := by omega
  clear hz1' hz0' k1
  by_cases he : er = 0
  · subst he
    obtain ⟨⟨hvld, hisp⟩, ht⟩ : (Vld ⟨nm, l, dp, dn, gx, gz⟩ ∧ IsP l x z) ∧ (0 ≤ t ∧ t ≤ 100) := by
      rcases hx with ⟨_, h⟩ | ⟨_, _, h⟩ | ⟨_, _, h⟩ | ⟨h, h', _⟩
      · cases h
      · cases h
      · cases h
      · exact ⟨h, h'⟩
    have h3 := hvld.2.1.1
    have hbx := hvld.2.1.2.1
    have hap := hvld.2.1.apart
    have hgr := hvld.2.2
    obtain ⟨b, o, c', hpe, hrow⟩ := (HPT.out.keep K1.out).some (show 0 < l.length by have : 3 ≤ l.length := h3.1; omega)
    cases hpe
    have hpb := hisp.bd hbx
    have HV := Lib.hid (And.intro hbx (And.intro hap (And.intro hgr (And.intro hpb ht))))
    have h3' : 0 < l.length := by have : 3 ≤ l.length := h3.1; omega
    have h12' : l.length ≤ 12 := h3.2
    have HR := Lib.hid hrow
    have hbl := hrow.lt h3'
    have hb9 := bl1 w1 (.cells #[.slice none 0 0] 24)
    obtain ⟨_, _, _, _, _, _⟩ := s0.keep hb9
    obtain ⟨d0, d1⟩ := (s1.below hb9).cells
    clear hx hvld hisp ht h3 hbx hap hgr hpb hrow hb9 s0 s1
    gi_wp2_with fail
    refine ⟨trivial, ?_⟩
    refine (callsIn_wide.2 (outcomesv_any _ _ _ _ _ _ _ _ _ _ _ _)).mono ?_
    rintro e w' ⟨rfl, rfl⟩
    gi_wp2
    have hB1 : Below w1.heap.size w1 ((((w1.alloc (.cells #[.slice none 0 0] 24)).alloc (.cells #[.string nm, .slice (some ⟨b, o, none⟩) l.length c, .int .i64 dp, .int .i64 dn, .int .i64 gx, .int .i64 gz] 39)).alloc (.cells #[.int .i64 x, .int .i64 z] 37)).alloc (.cells #[.int .i64 t] 3)) := (bl3 w1 _ _ _).alloc (by simp; omega) _
    have hsz : ((((w1.alloc (.cells #[.slice none 0 0] 24)).alloc (.cells #[.string nm, .slice (some ⟨b, o, none⟩) l.length c, .int .i64 dp, .int .i64 dn, .int .i64 gx, .int .i64 gz] 39)).alloc (.cells #[.int .i64 x, .int .i64 z] 37)).alloc (.cells #[.int .i64 t] 3)).heap.size = w1.heap.size + 4 := by simp
    have hT : Boxed ((((w1.alloc (.cells #[.slice none 0 0] 24)).alloc (.cells #[.string nm, .slice (some ⟨b, o, none⟩) l.length c, .int .i64 dp, .int .i64 dn, .int .i64 gx, .int .i64 gz] 39)).alloc (.cells #[.int .i64 x, .int .i64 z] 37)).alloc (.cells #[.int .i64 t] 3)) w1.heap.size 24 (.slice none 0 0) := (((Boxed.new w1 24 (.slice none 0 0)).alloc _).alloc _).alloc _
    have hSt : Blk (w1.heap.size + 1) #[.string nm, .slice (some ⟨b, o, none⟩) l.length c, .int .i64 dp, .int .i64 dn, .int .i64 gx, .int .i64 gz] 39 ((((w1.alloc (.cells #[.slice none 0 0] 24)).alloc (.cells #[.string nm, .slice (some ⟨b, o, none⟩) l.length c, .int .i64 dp, .int .i64 dn, .int .i64 gx, .int .i64 gz] 39)).alloc (.cells #[.int .i64 x, .int .i64 z] 37)).alloc (.cells #[.int .i64 t] 3)) := by
      have := Blk.new (w1.alloc (.cells #[.slice none 0 0] 24)) #[.string nm, .slice (some ⟨b, o, none⟩) l.length c, .int .i64 dp, .int .i64 dn, .int .i64 gx, .int .i64 gz] 39
      rw [World.size_alloc] at this
      exact (this.alloc _).alloc _
    have hPp : P2 (w1.heap.size + 1 + 1) x z ((((w1.alloc (.cells #[.slice none 0 0] 24)).alloc (.cells #[.string nm, .slice (some ⟨b, o, none⟩) l.length c, .int .i64 dp, .int .i64 dn, .int .i64 gx, .int .i64 gz] 39)).alloc (.cells #[.int .i64 x, .int .i64 z] 37)).alloc (.cells #[.int .i64 t] 3)) := by
      have := P2.new ((w1.alloc (.cells #[.slice none 0 0] 24)).alloc (.cells #[.string nm, .slice (some ⟨b, o, none⟩) l.length c, .int .i64 dp, .int .i64 dn, .int .i64 gx, .int .i64 gz] 39)) x z
      simp only [World.size_alloc] at this
      exact this.alloc _
    have hTt : Blk (w1.heap.size + 1 + 1 + 1) #[.int .i64 t] 3 ((((w1.alloc (.cells #[.slice none 0 0] 24)).alloc (.cells #[.string nm, .slice (some ⟨b, o, none⟩) l.length c, .int .i64 dp, .int .i64 dn, .int .i64 gx, .int .i64 gz] 39)).alloc (.cells #[.int .i64 x, .int .i64 z] 37)).alloc (.cells #[.int .i64 t] 3)) := by
      have := Blk.new (((w1.alloc (.cells #[.slice none 0 0] 24)).alloc (.cells #[.string nm, .slice (some ⟨b, o, none⟩) l.length c, .int .i64 dp, .int .i64 dn, .int .i64 gx, .int .i64 gz] 39)).alloc (.cells #[.int .i64 x, .int .i64 z] 37)) #[.int .i64 t] 3
      simp only [World.size_alloc] at this
      exact this
    generalize ((((w1.alloc (.cells #[.slice none 0 0] 24)).alloc (.cells #[.string nm, .slice (some ⟨b, o, none⟩) l.length c, .int .i64 dp, .int .i64 dn, .int .i64 gx, .int .i64 gz] 39)).alloc (.cells #[.int .i64 x, .int .i64 z] 37)).alloc (.cells #[.int .i64 t] 3)) = w0 at *
    have hno : ∀ k, ¬ ow [w1.heap.size] w0 k := fun k => by
      rintro ⟨⟨B, n, c', hB, hq⟩, _⟩
      simp at hB; subst hB
      rw [hT.cell] at hq
      cases hq
    have hsane : Sane [w1.heap.size] w0 := fun B hB => ⟨by simp at hB; omega, fun k n c' hq => by
      simp at hB; subst hB
      rw [hT.cell] at hq
      cases hq⟩
    have hBw : Below w.heap.size w w0 := Below.thru K1.out K1.out.size hB1
    refine rangeX [w1.heap.size] (gf := 62) (lb := #[.pointer (some ⟨w1.heap.size + 1, 0, none⟩), .pointer (some ⟨w1.heap.size + 1 + 1, 0, none⟩), .pointer (some ⟨w1.heap.size + 1 + 1 + 1, 0, none⟩)]) rfl (enters_of Tryz.func62 (by kernel_rfl) rfl)
      (outcomes_seq (w1.heap.size + 1) (w1.heap.size + 1 + 1) (w1.heap.size + 1 + 1 + 1) b o c nm l dp dn gx gz (x, z) t w0 h3' (by omega) HV.out.1 HV.out.2.1 HV.out.2.2.1.2.2.2.1 HV.out.2.2.1.2.2.2.2 HV.out.2.2.2.1 (by have := HV.out.2.2.2.2; omega) hSt hPp hTt (HR.out.keep hB1)) (Below.refl _ _) (fun _ => rfl) hsane
      (fun k hk => ⟨by omega, by simp; omega, hno k⟩)
      (fun pre X => (∃ v, Boxed X w1.heap.size 24 v ∧ X.ownsRow w.heap.size 37 2 v pre.length (cls (vals pre))) ∧ Below w.heap.size w X ∧ w0.heap.size ≤ X.heap.size) (fun _ _ _ => False)
      (fun s A C h hq => ⟨⟨h.1.choose, own_ch h.1.choose_spec.1 h.1.choose_spec.2 (by simp) (by omega) hq⟩, below_ch h.2.1 hq (by omega) (Nat.le_refl _), Nat.le_trans h.2.2 hq.size⟩) (fun _ _ _ _ h _ => h)
      ⟨⟨_, hT, World.ownsRow_nil _ _ _ _⟩, hBw, Nat.le_refl _⟩
      (fun q a' X => ∃ T10, P2 T10 q.1.1 q.1.2 X ∧ a' = { tmps := #[.agg #[.string nm, .slice (some ⟨b, o, none⟩) l.length c, .int .i64 dp, .int .i64 dn, .int .i64 gx, .int .i64 gz], .agg #[.int .i64 x, .int .i64 z], .int .i64 t, .pointer (some ⟨w.heap.size, 0, none⟩), .pointer (some ⟨w.heap.size + 1, 0, none⟩), undef, .slice none 0 0, .int .i64 0, .int .i64 0, .pointer (some ⟨w1.heap.size, 0, none⟩), .pointer (some ⟨T10, 0, none⟩),
        .agg #[.string nm, .slice (some ⟨b, o, none⟩) l.length c, .int .i64 dp, .int .i64 dn, .int .i64 gx, .int .i64 gz], .agg #[.int .i64 x, .int .i64 z], .int .i64 t, .int .i64 0, .int .i64 0, .bool false, undef, .agg #[.string nm, .slice (some ⟨b, o, none⟩) l.length c, .int .i64 dp, .int .i64 dn, .int .i64 gx, .int .i64 gz], .agg #[.int .i64 x, .int .i64 z], .int .i64 t, .func (.func 62) #[] #[.pointer (some ⟨w1.heap.size + 1, 0, none⟩), .pointer (some ⟨w1.heap.size + 1 + 1, 0, none⟩), .pointer (some ⟨w1.heap.size + 1 + 1 + 1, 0, none⟩)], .agg #[.int .i64 q.1.1, .int .i64 q.1.2], undef, undef, undef, undef, undef], defers := [] })
      (fun q a' X k q0 q' hl ho ho' ⟨T3, h, e⟩ => ⟨T3, h.putObj q' hl ho, e⟩) ?assign ?body ?done ?stop
    case assign =>
      rintro lr' pre q X K ⟨⟨v, h1, h2⟩, hB, hs⟩ hsX hK
      unfold enc1
      gi_wp2
      have hb1 := bl1 X (.cells #[.int .i64 q.1.1, .int .i64 q.1.2] 37)
      have o1 := own_ch (B := w1.heap.size + 1) h1 h2 (Bs := [w1.heap.size]) (by simp) (by omega) (Ch.of_below hb1)
      exact hK _ _ (KO.of_below hb1 hsX) ⟨⟨v, o1⟩, Below.thru hB hB.size hb1, Nat.le_trans hs hb1.size⟩ ⟨X.heap.size, P2.new X _ _, rfl⟩
    case body =>
      rintro lr' pre q a' X ⟨⟨v, h1, h2⟩, hB, hs⟩ hsX ⟨T3, hp, rfl⟩ hlt
      obtain ⟨p0, p1⟩ := hp.cells
      have c1 := h1.cell
      have S0 := Lib.hid (And.intro (And.intro h1 h2) (And.intro hB hs))
      have e1 : Hid (cls (vals (pre ++ [q])) = cls (vals pre) ++ [.int .i64 q.1.1, .int .i64 q.1.2]) := by rw [vals_snoc, cls_snoc]; exact rfl
      have hX0 : w.heap.size ≤ X.heap.size := by omega
      generalize q.1.1 = xa at *
      generalize q.1.2 = xz at *
      clear hp hsX h1 hB
      gi_wp2_with (gi_at_builtin; refine wpListIn_append_own_at _ rfl (.tmp 23) (.tmp 25) 24 rfl w.heap.size 37 i0 (.agg #[.int .i64 0, .int .i64 0]) 2 16 Tryz.underlying24 hi hz0 hz1 hz2 rfl (by decide) _ _ _ rfl (h2.alloc _) ⟨X.heap.size, 0, none⟩ 1 1 [.int .i64 xa, .int .i64 xz] rfl rfl two_new (by simp [Value.oneCell']) (by unfold maxLen; omega) (by omega) (by simp; omega) ?_; intro v' w9 hown' hgrow hob; obtain ⟨vp, vn, vc, rfl⟩ := own_form hown'; have H9 := Lib.hid (And.intro hown' (And.intro hgrow hob)); have hb9 := ((S0.out.1.1.alloc _).kept hgrow (S0.out.1.1.not_row (by decide) S0.out.1.2)); have c9 := hb9.cell; have f9 := hb9.frozen; clear hown' hgrow hob hb9 c1)
      obtain ⟨⟨h1, h2'⟩, hB, hs'⟩ := S0.out
      obtain ⟨hown', hgrow, hob⟩ := H9.out
      obtain ⟨_, b2, o2, _, bel⟩ := Boxed.appended (B := w1.heap.size) h1 (by decide) h2' hX0 (by omega) hown' hgrow
      refine ⟨KO.append h1 (by decide) (by omega) h2' hown' hgrow hob, ⟨_, b2, ?_⟩, hB.trans bel, ?_⟩
      · rw [List.length_append, e1.out]
        exact o2
      · have := hgrow.size
        simp at this
        simp
        omega
    case done =>
      rintro D ys X hD hS ⟨⟨v, h1, h2⟩, hB, hs⟩ hK
      have c1 := h1.cell
      obtain ⟨vp, vn, vc, rfl⟩ := own_form h2
      have H2 : Hid (Own (X.putObj D (.deferred none)) w.heap.size (.slice vp vn vc) (outc l gx gz (x, z) t)) := by
        show World.ownsRow _ _ _ _ _ _ _
        rw [← hS, vals_length]
        exact own_of h2 fun g cap hv ⟨cur, hg⟩ => World.putObj_heap_other (fun e => by subst e; rw [hK] at hg; cases hg)
      have H3 := Lib.hid (hB.trans (belowK_b (w := w) (Nat.le_refl _) _ D _ (.deferred none) (by omega) hK rfl rfl))
      clear h1 h2 hB
      gi_wp2
      refine ⟨by simp, .inl ⟨_, _, rfl, run_takeDeferred hK, ?_⟩⟩
      exact ⟨_, by simp [results, Tryz.results14, go_sem], HF.out _ _ _ _ HX.out H2.out H3.out⟩
    case stop =>
      rintro D cc pre X _ h _
      exact h.elim
  · clear hx
    gi_wp2
    refine ⟨_, by simp [results, Tryz.results14, go_sem], HE.out _ _ he HX.out K1.out⟩
end Go.Proofs.YtljmhejljpfaiaaGreat

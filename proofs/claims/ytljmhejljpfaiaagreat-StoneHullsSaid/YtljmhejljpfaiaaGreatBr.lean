import Derived.Test.YtljmhejljpfaiaaGreatBq
namespace Go.Proofs.YtljmhejljpfaiaaGreat
set_option maxRecDepth 100000
set_option maxRecDepth 100000
open Go.RowKit Go.Shelf
attribute [local go_sem] Oper.semAt_some

/-! the iterator over the outcomes of a blow -/
set_option maxHeartbeats 8000000 in
theorem outcomes1_in (n lr : Nat) (Bs : List Nat) (Bst Tp Tt b o c : Nat) (nm : ByteArray) (l : List Pt) (dp dn gx gz : Int) (p : Pt) (t : Int) (h3 : 0 < l.length) (h12 : l.length ≤ 1000) (hx : Bx l)
    (hd : ∀ i, i < l.length → ¬ (px l (nx l.length i) = px l i ∧ pz l (nx l.length i) = pz l i))
    (hg1 : -100 ≤ gx ∧ gx ≤ 100) (hg2 : -100 ≤ gz ∧ gz ≤ 100) (hpb : (0 ≤ p.1 ∧ p.1 ≤ 2000) ∧ (0 ≤ p.2 ∧ p.2 ≤ 2000)) (ht : 0 ≤ t ∧ t ≤ 1000)
    (J Jx : List Pq → World → Prop) (W : World) (hJ : Bears W.heap.size Bs J) (hJx : Bears W.heap.size Bs Jx)
    (hY : ∀ m pre x W1, J pre W1 → Sane Bs W1 → pre.length < l.length * 2000 → YieldAt Fence.wide m Tryz.prog lr (enc1 x) W1 fun e W' =>
      (e = .returned (.bool true) ∧ J (pre ++ [x]) W' ∧ KO W.heap.size Bs W1 W') ∨ (e = .returned (.bool false) ∧ Jx (pre ++ [x]) W' ∧ KO W.heap.size Bs W1 W'))
    (hs : Sane Bs W) (hst : Blk Bst #[.string nm, .slice (some ⟨b, o, none⟩) l.length c, .int .i64 dp, .int .i64 dn, .int .i64 gx, .int .i64 gz] 39 W) (hpp : P2 Tp p.1 p.2 W) (htt : Blk Tt #[.int .i64 t] 3 W) (hr : Row W b o l)
    (nst : Nc Bs Bst W) (np : Nc Bs Tp W) (nt : Nc Bs Tt W) (nr : Nc Bs b W) (h0 : J [] W) :
    CallsIn Fence.wide n Tryz.prog 62 #[.func (.yield lr) #[] #[], .pointer (some ⟨Bst, 0, none⟩), .pointer (some ⟨Tp, 0, none⟩), .pointer (some ⟨Tt, 0, none⟩)] W fun e W' => (∃ v, e = .returned v) ∧ ((∃ xs, vals xs = outc l gx gz p t ∧ J xs W') ∨ (∃ pre, Jx pre W')) := by
  obtain ⟨pa, pc⟩ := p
  dsimp only at hpp hpb
  have HJ := Lib.hid hJ; have HJX := Lib.hid hJx; have HY := Lib.hid hY; have HS := Lib.hid hs; have H0 := Lib.hid h0; have HX := Lib.hid hx; have HD := Lib.hid hd
  have HP := Lib.hid (And.intro hst (And.intro hpp (And.intro htt hr)))
  have HN := Lib.hid (And.intro nst (And.intro np (And.intro nt nr)))
  have HG := Lib.hid (And.intro hg1 (And.intro hg2 (And.intro hpb ht)))
  have hlst := hst.lt
  have hlp := hpp.lt
  have hlt' := htt.lt
  have hlr := hr.lt h3
  have hn1 : Below W.heap.size W (W.alloc (.cells #[.func (.yield lr) #[] #[]] 66)) := bl1 W _
  have hn2 : Below W.heap.size W ((W.alloc (.cells #[.func (.yield lr) #[] #[]] 66)).alloc (.cells #[.slice (some ⟨b, o, none⟩) l.length c] 49)) := bl2 W _ _
  have cs1 := Blk.cell (i := 1) (hst.below hn1) rfl
  obtain ⟨cp0, cp1⟩ := (hpp.below hn2).cells
  clear hJ hJx hY hs h0 hx hd hst hpp htt hr nst np nt nr hn1 hn2 hg1 hg2 hpb ht
  refine callsIn_of_wp_marks Tryz.func62 rfl trivial ?_ rfl
  simp only [Tryz.ntmps62, List.size_toArray, List.length_cons, List.length_nil, Nat.reduceAdd, Nat.reduceSub, Array.replicate_succ, Array.replicate_zero, List.push_toArray, List.append_toArray, List.nil_append, List.cons_append]
  gi_wp2_with fail
  refine ⟨trivial, (fun h => by cases h), ?_⟩
  refine (callsIn_wide.2 (othersv_any _ _ _ _ _ _)).mono ?_
  rintro e w' ⟨rfl, rfl⟩
  gi_wp2
  have hB0 : Below W.heap.size W ((((W.alloc (.cells #[.func (.yield lr) #[] #[]] 66)).alloc (.cells #[.slice (some ⟨b, o, none⟩) l.length c] 49)).alloc (.cells #[.slice (some ⟨b, o, none⟩) l.length c] 49)).alloc (.cells #[.int .i64 pa, .int .i64 pc] 37)) := (bl3 W _ _ _).alloc (by simp; omega) _
  have hsz : ((((W.alloc (.cells #[.func (.yield lr) #[] #[]] 66)).alloc (.cells #[.slice (some ⟨b, o, none⟩) l.length c] 49)).alloc (.cells #[.slice (some ⟨b, o, none⟩) l.length c] 49)).alloc (.cells #[.int .i64 pa, .int .i64 pc] 37)).heap.size = W.heap.size + 4 := by simp
  have hYb : Yb W.heap.size lr ((((W.alloc (.cells #[.func (.yield lr) #[] #[]] 66)).alloc (.cells #[.slice (some ⟨b, o, none⟩) l.length c] 49)).alloc (.cells #[.slice (some ⟨b, o, none⟩) l.length c] 49)).alloc (.cells #[.int .i64 pa, .int .i64 pc] 37)) := (((Boxed.new W 66 (.func (.yield lr) #[] #[])).alloc _).alloc _).alloc _
  have hSh : Blk (W.heap.size + 1) #[.slice (some ⟨b, o, none⟩) l.length c] 49 ((((W.alloc (.cells #[.func (.yield lr) #[] #[]] 66)).alloc (.cells #[.slice (some ⟨b, o, none⟩) l.length c] 49)).alloc (.cells #[.slice (some ⟨b, o, none⟩) l.length c] 49)).alloc (.cells #[.int .i64 pa, .int .i64 pc] 37)) := by
    have := Blk.new (W.alloc (.cells #[.func (.yield lr) #[] #[]] 66)) #[.slice (some ⟨b, o, none⟩) l.length c] 49
    rw [World.size_alloc] at this
    exact (this.alloc _).alloc _
  have hBx : Boxed ((((W.alloc (.cells #[.func (.yield lr) #[] #[]] 66)).alloc (.cells #[.slice (some ⟨b, o, none⟩) l.length c] 49)).alloc (.cells #[.slice (some ⟨b, o, none⟩) l.length c] 49)).alloc (.cells #[.int .i64 pa, .int .i64 pc] 37)) (W.heap.size + 1 + 1) 49 (.slice (some ⟨b, o, none⟩) l.length c) := by
    have := Boxed.new ((W.alloc (.cells #[.func (.yield lr) #[] #[]] 66)).alloc (.cells #[.slice (some ⟨b, o, none⟩) l.length c] 49)) 49 (.slice (some ⟨b, o, none⟩) l.length c)
    simp only [World.size_alloc] at this
    exact this.alloc _
  have hPx : P2 (W.heap.size + 1 + 1 + 1) pa pc ((((W.alloc (.cells #[.func (.yield lr) #[] #[]] 66)).alloc (.cells #[.slice (some ⟨b, o, none⟩) l.length c] 49)).alloc (.cells #[.slice (some ⟨b, o, none⟩) l.length c] 49)).alloc (.cells #[.int .i64 pa, .int .i64 pc] 37)) := by
    have := P2.new (((W.alloc (.cells #[.func (.yield lr) #[] #[]] 66)).alloc (.cells #[.slice (some ⟨b, o, none⟩) l.length c] 49)).alloc (.cells #[.slice (some ⟨b, o, none⟩) l.length c] 49)) pa pc
    simp only [World.size_alloc] at this
    exact this
  generalize ((((W.alloc (.cells #[.func (.yield lr) #[] #[]] 66)).alloc (.cells #[.slice (some ⟨b, o, none⟩) l.length c] 49)).alloc (.cells #[.slice (some ⟨b, o, none⟩) l.length c] 49)).alloc (.cells #[.int .i64 pa, .int .i64 pc] 37)) = w0 at *
  have ncn : ∀ k, W.heap.size ≤ k → Nc Bs k w0 := fun k hk => by
    refine ⟨fun hm => by have := (HS.out _ hm).1; omega, ?_⟩
    rintro ⟨⟨b', n', c', hb', hq⟩, _⟩
    rw [hB0.cell (p := ⟨b', 0, none⟩) (HS.out _ hb').1] at hq
    have := (HS.out _ hb').2 _ _ _ hq
    omega
  have hS0 := (KO.of_below (B := 0) hB0 HS.out).sane HS.out
  have ot0 : OT Bs W.heap.size lr Bst Tp Tt b o c nm l dp dn gx gz (pa, pc) t w0 :=
    ⟨hYb, hSh, HP.out.1.below hB0, HP.out.2.1.below hB0, HP.out.2.2.1.below hB0, HP.out.2.2.2.below hB0, ncn _ (by omega), ncn _ (by omega), HN.out.1.below HS.out hB0 hlst, HN.out.2.1.below HS.out hB0 hlp, HN.out.2.2.1.below HS.out hB0 hlt', HN.out.2.2.2.below HS.out hB0 hlr⟩
  have hlow : ∀ X : World, w0.heap.size ≤ X.heap.size → ∀ b, b ∈ Bs → b < W.heap.size ∧ b < X.heap.size := fun X hX b hb => by
    have := (HS.out b hb).1
    omega
  have HLOW := Lib.hid hlow
  refine rangeX Bs (gf := 87) (lb := #[.pointer (some ⟨W.heap.size + 1 + 1, 0, none⟩), .pointer (some ⟨W.heap.size + 1 + 1 + 1, 0, none⟩)]) rfl (enters_of Tryz.func87 (by kernel_rfl) rfl)
    (others_seq (W.heap.size + 1 + 1) (W.heap.size + 1 + 1 + 1) b o c l (pa, pc) w0 h3 h12 HX.out HD.out ot0.row hBx hPx) (Below.refl _ _) (fun _ => rfl) hS0
    (fun k hk => by
      rcases hk with rfl | rfl | rfl
      · exact ⟨by omega, (ncn _ (by omega)).b, (ncn _ (by omega)).o⟩
      · exact ⟨ot0.row.lt h3, ot0.nr.b, ot0.nr.o⟩
      · exact ⟨by omega, (ncn _ (by omega)).b, (ncn _ (by omega)).o⟩)
    (fun pre X => (∃ cur, vals cur = (vals pre).filter (okq l gx gz (pa, pc) t) ∧ cur.length ≤ pre.length ∧ J cur X) ∧ OT Bs W.heap.size lr Bst Tp Tt b o c nm l dp dn gx gz (pa, pc) t X ∧ w0.heap.size ≤ X.heap.size)
    (fun cc _ X => cc = .ret ∧ ∃ cur, Jx cur X)
    ?bI (fun cc s A C h hc => ⟨h.1, h.2.choose, HJX.out _ _ _ h.2.choose_spec (hc.mono (by omega))⟩)
    ⟨⟨[], rfl, Nat.zero_le _, HJ.out _ _ _ H0.out (Ch.of_below hB0)⟩, ot0, Nat.le_refl _⟩
    (fun x a' X => ∃ T6, P2 T6 x.1.1 x.1.2 X ∧ a' = { tmps := #[.func (.yield lr) #[] #[], .pointer (some ⟨Bst, 0, none⟩), .pointer (some ⟨Tp, 0, none⟩), .pointer (some ⟨Tt, 0, none⟩), .pointer (some ⟨W.heap.size, 0, none⟩), .pointer (some ⟨W.heap.size + 1, 0, none⟩), .pointer (some ⟨T6, 0, none⟩), .pointer (some ⟨Bst, 1, none⟩), .slice (some ⟨b, o, none⟩) l.length c, .slice (some ⟨b, o, none⟩) l.length c, .agg #[.int .i64 pa, .int .i64 pc], .func (.func 87) #[] #[.pointer (some ⟨W.heap.size + 1 + 1, 0, none⟩), .pointer (some ⟨W.heap.size + 1 + 1 + 1, 0, none⟩)], .agg #[.int .i64 x.1.1, .int .i64 x.1.2], undef, undef, undef, undef, undef, undef, undef, undef, undef, undef, undef, undef, undef, undef, undef, undef, undef], defers := [] })
    (fun x a' X k q q' hl ho ho' ⟨T6, h, e⟩ => ⟨T6, h.putObj q' hl ho, e⟩) ?assign ?body ?done ?stop
  case bI =>
    rintro s A C ⟨⟨cur, e1, e2, h2⟩, hO, hs⟩ hc
    exact ⟨⟨cur, e1, e2, HJ.out _ _ _ h2 (hc.mono (by omega))⟩, hO.ch hc h3 (fun b hb => by have := HLOW.out _ hs b hb; omega) (by omega) (by omega) (by omega) (by omega) (by omega), Nat.le_trans hs hc.size⟩
  case assign =>
    rintro lr' pre x X K ⟨⟨cur, e1, e2, h2⟩, hO, hs⟩ hsX hK
    unfold enc1
    gi_wp2
    have hb1 := bl1 X (.cells #[.int .i64 x.1.1, .int .i64 x.1.2] 37)
    exact hK _ _ (KO.of_below hb1 hsX) ⟨⟨cur, e1, e2, HJ.out _ _ _ h2 (Ch.of_below hb1)⟩, hO.ko (KO.of_below (B := 0) hb1 hsX) h3, Nat.le_trans hs hb1.size⟩ ⟨X.heap.size, P2.new X _ _, rfl⟩
  case body =>
    rintro lr' pre ⟨⟨xa, xz⟩, hxp⟩ a' X ⟨⟨cur, e1, e2, hJ0⟩, hO, hs⟩ hsX ⟨T6, p6, rfl⟩ hlt
    dsimp only at p6 hxp ⊢
    have HI : Hid (∀ X' cu (r : Bool), okq l gx gz (pa, pc) t (xa, xz) = r → vals cu = vals cur ++ (if r then [(xa, xz)] else []) → cu.length ≤ cur.length + 1 → J cu X' → OT Bs W.heap.size lr Bst Tp Tt b o c nm l dp dn gx gz (pa, pc) t X' → w0.heap.size ≤ X'.heap.size →
      (∃ cur, vals cur = (vals (pre ++ [⟨(xa, xz), hxp⟩])).filter (okq l gx gz (pa, pc) t) ∧ cur.length ≤ (pre ++ [(⟨(xa, xz), hxp⟩ : Pq)]).length ∧ J cur X') ∧ OT Bs W.heap.size lr Bst Tp Tt b o c nm l dp dn gx gz (pa, pc) t X' ∧ w0.heap.size ≤ X'.heap.size) := fun X' cu r hr hv hl hj ho hz => by
        refine ⟨⟨cu, ?_, by rw [List.length_append]; simp only [List.length_cons, List.length_nil]; omega, hj⟩, ho, hz⟩
        rw [hv, vals_snoc, List.filter_append, e1]
        congr 1
        cases r with
        | true => rw [List.filter_cons_of_pos hr]; rfl
        | false => rw [List.filter_cons_of_neg (by simp [hr])]; rfl
    have HOK : Hid (okq l gx gz (pa, pc) t (xa, xz) = (agr gx gz pa pc xa xz t && canB l (pa, pc) (xa, xz))) := rfl
    have HA := Lib.hid (fun V => alongGrain_any nm (some ⟨b, o, none⟩) l.length c dp dn gx gz pa pc xa xz t V HG.out.1 HG.out.2.1 HG.out.2.2.1.1 HG.out.2.2.1.2 hxp.1 hxp.2 HG.out.2.2.2)
    have HCC : Hid (∀ V, Below X.heap.size X V → Calls Tryz.prog 33 #[.slice (some ⟨b, o, none⟩) l.length c, .agg #[.int .i64 pa, .int .i64 pc], .agg #[.int .i64 xa, .int .i64 xz]] V (PBt (CanC l pa pc xa xz) V)) := fun V hV => canCut_any b o c l pa pc xa xz V (hO.row.keep hV) h3 h12 HX.out
    have HCB := Lib.hid (canB_iff l (pa, pc) (xa, xz))
    obtain ⟨p0, p1⟩ := p6.cells
    obtain ⟨d0, d1⟩ := hO.pp.cells
    dsimp only at d0 d1
    have s0 := Blk.cell (i := 0) hO.st rfl
    have s1 := Blk.cell (i := 1) hO.st rfl
    have s2 := Blk.cell (i := 2) hO.st rfl
    have s3 := Blk.cell (i := 3) hO.st rfl
    have s4 := Blk.cell (i := 4) hO.st rfl
    have s5 := Blk.cell (i := 5) hO.st rfl
    have ct := Blk.cell (i := 0) hO.tt rfl
    have HO := Lib.hid hO
    have HP6 := Lib.hid p6
    have HSX := Lib.hid (And.intro hs hsX)
    have HJ0 := Lib.hid hJ0
    have HL := Lib.hid (And.intro e2 hlt)
    have HXP := Lib.hid hxp
    generalize agr gx gz pa pc xa xz t = ra at *
    clear hO p6 hs hsX e1 e2 hJ0 hlt
    gi_wp2_with fail
    refine ⟨trivial, (by first | rfl | (intro h; cases h)), ?_⟩
    refine (CallsIn.inRound _ (callsIn_wide.2 (HA.out _))).mono ?_
    rintro e w2 ⟨rfl, hb⟩
    have k2 := Lib.hid hb
    clear hb p0 p1 d0 d1 s0 s1 s2 s3 s4 s5 ct
    cases ra with
    | false =>
      gi_wp2
      refine ⟨trivial, ?_⟩
      gi_wp2
      refine ⟨(fun _ h => by cases h), ?_⟩
      gi_wp2
      exact ⟨KO.of_below k2.out HSX.out.2, HI.out _ cur false (by rw [HOK.out]; rfl) (by simp) (by omega) (HJ.out _ _ _ HJ0.out (Ch.of_below k2.out)) (HO.out.ko (KO.of_below (B := 0) k2.out HSX.out.2) h3) (Nat.le_trans HSX.out.1 k2.out.size)⟩
    | true =>
      have HO2 := Lib.hid (HO.out.ko (KO.of_below (B := 0) k2.out HSX.out.2) h3)
      obtain ⟨p0, p1⟩ := (HP6.out.below k2.out).cells
      obtain ⟨d0, d1⟩ := HO2.out.pp.cells
      dsimp only at d0 d1
      have c5 := Blk.cell (i := 0) HO2.out.sh rfl
      gi_wp2_with fail
      refine ⟨trivial, (by first | rfl | (intro h; cases h)), ?_⟩
      refine (CallsIn.inRound _ (callsIn_wide.2 (HCC.out _ k2.out))).mono ?_
      rintro e w3 ⟨⟨rc, rfl, hrc⟩, hb3⟩
      have k3 := Lib.hid (Below.thru k2.out k2.out.size hb3)
      have HRC := Lib.hid (hrc.trans HCB.out.symm)
      clear hb3 p0 p1 d0 d1 c5 hrc
      cases rc with
      | false =>
        gi_wp2
        refine ⟨(fun _ h => by cases h), ?_⟩
        gi_wp2
        exact ⟨KO.of_below k3.out HSX.out.2, HI.out _ cur false (by rw [HOK.out, show canB l (pa, pc) (xa, xz) = false by have := HRC.out; simpa using this]; rfl) (by simp) (by omega) (HJ.out _ _ _ HJ0.out (Ch.of_below k3.out)) (HO.out.ko (KO.of_below (B := 0) k3.out HSX.out.2) h3) (Nat.le_trans HSX.out.1 k3.out.size)⟩
      | true =>
        have KO0 := Lib.hid (KO.of_below (B := W.heap.size) k3.out HSX.out.2)
        have HO3 := Lib.hid (HO.out.ko KO0.out h3)
        have HS3 := Lib.hid (KO0.out.sane HSX.out.2)
        obtain ⟨p0, p1⟩ := (HP6.out.below k3.out).cells
        have cy := Boxed.cell HO3.out.y
        obtain ⟨fn, tmps, assign, body, hy', hR⟩ := HY.out (n - 1) cur ⟨(xa, xz), HXP.out⟩ w3 (HJ.out _ _ _ HJ0.out (Ch.of_below k3.out)) HS3.out (by have := HL.out; omega)
        unfold enc1 at hy'
        dsimp only at hy'
        have HR := Lib.hid hR
        clear hR
        gi_wp2_with fail
        refine ⟨(by first | rfl | (intro h; cases h)), (round_in HR.out).mono ?_⟩
        rintro e W3 hW3
        obtain ⟨bv, rfl, H3⟩ : ∃ bv : Bool, e = .returned (.bool bv) ∧ Hid ((bv = true ∧ J (cur ++ [⟨(xa, xz), hxp⟩]) W3 ∧ KO W.heap.size Bs w3 W3) ∨ (bv = false ∧ Jx (cur ++ [⟨(xa, xz), hxp⟩]) W3 ∧ KO W.heap.size Bs w3 W3)) := hW3.elim (fun h => ⟨true, h.1, .inl ⟨rfl, h.2⟩⟩) (fun h => ⟨false, h.1, .inr ⟨rfl, h.2⟩⟩)
        have KO3 : Hid (KO W.heap.size Bs w3 W3) := H3.out.elim (fun h => h.2.2) (fun h => h.2.2)
        have KOa : Hid (KO w0.heap.size Bs X W3) := ((KO0.out.trans KO3.out).mono (by omega))
        have HRT : Hid (okq l gx gz (pa, pc) t (xa, xz) = true) := by show _ = _; rw [HOK.out, show canB l (pa, pc) (xa, xz) = true by have := HRC.out; simpa using this]; rfl
        clear hW3 hy' HR p0 p1 cy
        rcases H3.out with ⟨rfl, hj3, -⟩ | ⟨rfl, hx3, -⟩
        · gi_wp2
          exact ⟨KOa.out, HI.out _ (cur ++ [⟨(xa, xz), hxp⟩]) true HRT.out (by rw [vals_snoc]; rfl) (by rw [List.length_append]; exact Nat.le_refl _) hj3 (HO3.out.ko KO3.out h3) (Nat.le_trans (Nat.le_trans HSX.out.1 k3.out.size) KO3.out.size)⟩
        · gi_wp2
          exact ⟨KOa.out, rfl, _, hx3⟩
  case done =>
    rintro D ys X hD hS ⟨⟨cur, e1, e2, h2⟩, hO, hs⟩ hK
    have EE : Hid (vals cur = outc l gx gz (pa, pc) t) := by
      show _ = _
      rw [e1, hS]; rfl
    have hJ' := HJ.out _ _ _ h2 (ch_putObj (.deferred none) hK rfl (by omega))
    clear e1 e2 hS h2 hO
    gi_wp2
    refine ⟨by simp, .inl ⟨_, _, rfl, run_takeDeferred hK, ?_⟩⟩
    exact ⟨_, results_none rfl _ _ _, ⟨_, rfl⟩, .inl ⟨cur, EE.out, hJ'⟩⟩
  case stop =>
    rintro D cc pre X hD ⟨rfl, cur, h⟩ hK
    have hJ' := HJX.out _ _ _ h (ch_putObj (.deferred none) hK rfl (by omega))
    gi_wp2
    refine ⟨by simp, .inl ⟨_, _, rfl, run_takeDeferred hK, ?_⟩⟩
    exact ⟨_, results_none rfl _ _ _, ⟨_, rfl⟩, .inr ⟨cur, hJ'⟩⟩
end Go.Proofs.YtljmhejljpfaiaaGreat

import Derived.Test.YtljmhejljpfaiaaBo
namespace Go.Proofs.Ytljmhejljpfaiaa
set_option maxRecDepth 100000
open Go.RowKit Go.Shelf
attribute [local go_sem] Oper.semAt_some

/-! the iterator over the points of a border but one -/
theorem ost_vals {N : Nat} {xs : List Pq} {p : Pt} (h : xs.length ≤ N) : (ost p (vals xs)).1.length + (ost p (vals xs)).2.2.length ≤ N := by
  have := ost_len p (vals xs)
  rw [vals_length] at this
  omega
theorem Own.form2 {w : World} {base : Nat} {v : Value} {l : List Pt} (h : Own w base v l) : ∃ vp vc, v = .slice vp l.length vc ∧ (l ≠ [] → ∃ g, vp = some ⟨g, 0, none⟩) := by
  rcases h.row with ⟨rfl, rfl⟩ | ⟨g, c, rfl, _⟩
  · exact ⟨none, 0, rfl, fun h => absurd rfl h⟩
  · exact ⟨_, c, rfl, fun _ => ⟨g, rfl⟩⟩
set_option maxHeartbeats 8000000 in
theorem others1_in (n lr : Nat) (Bs : List Nat) (Be Tp b o c : Nat) (l : List Pt) (p : Pt) (h3 : 0 < l.length) (h12 : l.length ≤ 1000) (hx : Bx l)
    (hd : ∀ i, i < l.length → ¬ (px l (nx l.length i) = px l i ∧ pz l (nx l.length i) = pz l i))
    (J Jx : List Pq → World → Prop) (W : World) (hJ : Bears W.heap.size Bs J) (hJx : Bears W.heap.size Bs Jx)
    (hY : ∀ m pre x W1, J pre W1 → Sane Bs W1 → pre.length < l.length * 2000 → YieldAt Fence.wide m Try.prog lr (enc1 x) W1 fun e W' =>
      (e = .returned (.bool true) ∧ J (pre ++ [x]) W' ∧ KO W.heap.size Bs W1 W') ∨ (e = .returned (.bool false) ∧ Jx (pre ++ [x]) W' ∧ KO W.heap.size Bs W1 W'))
    (hE : Ed Bs Be b o c l W) (hp : P2 Tp p.1 p.2 W) (hnp : Nc Bs Tp W) (h0 : J [] W) :
    CallsIn Fence.wide n Try.prog 117 #[.func (.yield lr) #[] #[], .pointer (some ⟨Be, 0, none⟩), .pointer (some ⟨Tp, 0, none⟩)] W fun e W' => (∃ v, e = .returned v) ∧ ((∃ xs, vals xs = oth l p ∧ J xs W') ∨ (∃ pre, Jx pre W')) := by
  obtain ⟨i0, hi, hz0, hz1, hz2⟩ := info_parts Try.info32
  obtain ⟨pa, pc⟩ := p
  dsimp only at hp
  have HJ := Lib.hid hJ; have HJX := Lib.hid hJx; have HY := Lib.hid hY; have HE := Lib.hid hE; have H0 := Lib.hid h0; have HX := Lib.hid hx; have HD := Lib.hid hd; have HP := Lib.hid (And.intro hp hnp)
  have hbe := hE.box.lt
  have hbr := hE.row.lt h3
  have htp := hp.lt
  have cb : (((W.alloc (.cells #[.func (.yield lr) #[] #[]] 114)).alloc (.cells #[.slice none 0 0] 31)).alloc (.cells #[.bool false] 4)).cell? ⟨Be, 0, none⟩ = some (.slice (some ⟨b, o, none⟩) l.length c) := ((bl3 W _ _ _).cell (p := ⟨Be, 0, none⟩) hbe).trans hE.box.cell
  clear hJ hJx hY hE h0 hx hd hp hnp
  refine callsIn_of_wp_marks Try.func117 rfl trivial ?_ rfl
  simp only [Try.ntmps117, List.size_toArray, List.length_cons, List.length_nil, Nat.reduceAdd, Nat.reduceSub, Array.replicate_succ, Array.replicate_zero, List.push_toArray, List.append_toArray, List.nil_append, List.cons_append]
  gi_wp2_with fail
  refine ⟨trivial, (fun h => by cases h), ?_⟩
  refine (callsIn_wide.2 (pointsv_any _ _ _ _)).mono ?_
  rintro e w' ⟨rfl, rfl⟩
  gi_wp2
  have hB0 : Below W.heap.size W ((((W.alloc (.cells #[.func (.yield lr) #[] #[]] 114)).alloc (.cells #[.slice none 0 0] 31)).alloc (.cells #[.bool false] 4)).alloc (.cells #[.slice (some ⟨b, o, none⟩) l.length c] 85)) := (bl3 W _ _ _).alloc (by simp; omega) _
  have hsz : ((((W.alloc (.cells #[.func (.yield lr) #[] #[]] 114)).alloc (.cells #[.slice none 0 0] 31)).alloc (.cells #[.bool false] 4)).alloc (.cells #[.slice (some ⟨b, o, none⟩) l.length c] 85)).heap.size = W.heap.size + 4 := by simp
  have hYb : Yb W.heap.size lr ((((W.alloc (.cells #[.func (.yield lr) #[] #[]] 114)).alloc (.cells #[.slice none 0 0] 31)).alloc (.cells #[.bool false] 4)).alloc (.cells #[.slice (some ⟨b, o, none⟩) l.length c] 85)) := (((Boxed.new W 114 (.func (.yield lr) #[] #[])).alloc _).alloc _).alloc _
  have h4 : Boxed ((((W.alloc (.cells #[.func (.yield lr) #[] #[]] 114)).alloc (.cells #[.slice none 0 0] 31)).alloc (.cells #[.bool false] 4)).alloc (.cells #[.slice (some ⟨b, o, none⟩) l.length c] 85)) (W.heap.size + 1) 31 (.slice none 0 0) := by
    have := Boxed.new (W.alloc (.cells #[.func (.yield lr) #[] #[]] 114)) 31 (.slice none 0 0)
    rw [World.size_alloc] at this
    exact (this.alloc _).alloc _
  have h5 : Boxed ((((W.alloc (.cells #[.func (.yield lr) #[] #[]] 114)).alloc (.cells #[.slice none 0 0] 31)).alloc (.cells #[.bool false] 4)).alloc (.cells #[.slice (some ⟨b, o, none⟩) l.length c] 85)) (W.heap.size + 1 + 1) 4 (.bool false) := by
    have := Boxed.new ((W.alloc (.cells #[.func (.yield lr) #[] #[]] 114)).alloc (.cells #[.slice none 0 0] 31)) 4 (.bool false)
    simp only [World.size_alloc] at this
    exact this.alloc _
  have hBx : Boxed ((((W.alloc (.cells #[.func (.yield lr) #[] #[]] 114)).alloc (.cells #[.slice none 0 0] 31)).alloc (.cells #[.bool false] 4)).alloc (.cells #[.slice (some ⟨b, o, none⟩) l.length c] 85)) (W.heap.size + 1 + 1 + 1) 85 (.slice (some ⟨b, o, none⟩) l.length c) := by
    have := Boxed.new (((W.alloc (.cells #[.func (.yield lr) #[] #[]] 114)).alloc (.cells #[.slice none 0 0] 31)).alloc (.cells #[.bool false] 4)) 85 (.slice (some ⟨b, o, none⟩) l.length c)
    simp only [World.size_alloc] at this
    exact this
  generalize ((((W.alloc (.cells #[.func (.yield lr) #[] #[]] 114)).alloc (.cells #[.slice none 0 0] 31)).alloc (.cells #[.bool false] 4)).alloc (.cells #[.slice (some ⟨b, o, none⟩) l.length c] 85)) = w0 at *
  have ncn : ∀ k, W.heap.size ≤ k → Nc Bs k w0 := fun k hk => by
    refine ⟨fun hm => by have := (HE.out.sane _ hm).1; omega, ?_⟩
    rintro ⟨⟨b', n', c', hb', hq⟩, _⟩
    rw [hB0.cell (p := ⟨b', 0, none⟩) (HE.out.sane _ hb').1] at hq
    have := (HE.out.sane _ hb').2 _ _ _ hq
    omega
  have E0 := HE.out.below hB0 h3
  have os0 : OS Bs W.heap.size (W.heap.size + 1) (W.heap.size + 1 + 1) W.heap.size Tp lr (pa, pc) (.slice none 0 0) [] false w0 :=
    ⟨h4, World.ownsRow_nil _ _ _ _, h5, hYb, HP.out.1.below hB0, ncn _ (by omega), ncn _ (by omega), ncn _ (by omega), HP.out.2.below HE.out.sane hB0 HP.out.1.lt, fun g hg => by cases hg⟩
  have hlow : ∀ X : World, w0.heap.size ≤ X.heap.size → ∀ b, b ∈ Bs → b < W.heap.size ∧ b < X.heap.size  := fun X hX b hb => by
    have := (HE.out.sane b hb).1
    omega
  have hno : ∀ k, ¬ ow Bs w0 k → ¬ ow ((W.heap.size + 1) :: (W.heap.size + 1 + 1) :: Bs) w0 k := fun k hk => by
    rintro ⟨⟨B, n', c', hB, hq⟩, r⟩
    simp only [List.mem_cons] at hB
    rcases hB with rfl | rfl | hB
    · rw [h4.cell] at hq; cases hq
    · rw [h5.cell] at hq; cases hq
    · exact hk ⟨⟨B, n', c', hB, hq⟩, r⟩
  have HLOW := Lib.hid hlow
  refine rangeX ((W.heap.size + 1) :: (W.heap.size + 1 + 1) :: Bs) (gf := 103) (lb := #[.pointer (some ⟨W.heap.size + 1 + 1 + 1, 0, none⟩)]) rfl (enters_of Try.func103 (by kernel_rfl) rfl)
    (points_seq (W.heap.size + 1 + 1 + 1) b o c l w0 h3 (by omega) HX.out HD.out E0.row hBx) (Below.refl _ _) (fun _ => rfl) (os0.sane (B := 0) E0.sane rfl)
    (fun k hk => by
      rcases hk with rfl | rfl
      · refine ⟨by omega, ?_, hno _ (ncn _ (by omega)).o⟩
        simp only [List.mem_cons, not_or]
        exact ⟨by omega, by omega, (ncn _ (by omega)).b⟩
      · refine ⟨E0.row.lt h3, ?_, hno _ E0.nr.2⟩
        simp only [List.mem_cons, not_or]
        exact ⟨by omega, by omega, E0.nr.1⟩)
    (fun pre X => ∃ v cur, OS Bs W.heap.size (W.heap.size + 1) (W.heap.size + 1 + 1) W.heap.size Tp lr (pa, pc) v (ost (pa, pc) (vals pre)).1 (ost (pa, pc) (vals pre)).2.1 X ∧ (vals cur = (ost (pa, pc) (vals pre)).2.2 ∧ pre.length ≤ l.length * 2000) ∧ J cur X ∧ (w0.heap.size ≤ X.heap.size ∧ Sane Bs X))
    (fun cc _ X => cc = .ret ∧ ∃ cur, Jx cur X)
    ?bI (fun cc s A C h hc => ⟨h.1, h.2.choose, HJX.out _ _ _ h.2.choose_spec (hc.sub (fun b hb => by simp [hb]) (by omega))⟩)
    ⟨_, [], os0, ⟨rfl, Nat.zero_le _⟩, HJ.out _ _ _ H0.out (Ch.of_below hB0), Nat.le_refl _, E0.sane⟩
    (fun x a' X => ∃ T6, P2 T6 x.1.1 x.1.2 X ∧ a' = { tmps := #[.func (.yield lr) #[] #[], .pointer (some ⟨Be, 0, none⟩), .pointer (some ⟨Tp, 0, none⟩), .pointer (some ⟨W.heap.size, 0, none⟩), .pointer (some ⟨W.heap.size + 1, 0, none⟩), .pointer (some ⟨W.heap.size + 1 + 1, 0, none⟩), .pointer (some ⟨T6, 0, none⟩), undef, undef, .slice (some ⟨b, o, none⟩) l.length c, .func (.func 103) #[] #[.pointer (some ⟨W.heap.size + 1 + 1 + 1, 0, none⟩)], .agg #[.int .i64 x.1.1, .int .i64 x.1.2], undef, undef, undef, undef, undef, undef, undef, undef, undef, undef, undef, undef, undef, undef, undef, undef, undef, undef, undef, undef, undef, undef, undef, undef, undef, undef, undef], defers := [] })
    (fun x a' X k q q' hl ho ho' ⟨T6, h, e⟩ => ⟨T6, h.putObj q' hl ho, e⟩) ?assign ?body ?done ?stop
  case bI =>
    rintro s A C ⟨v, cur, hO, h1, h2, hs, hsB⟩ hc
    have hcB : Ch W.heap.size Bs A C := hc.sub (fun b hb => by simp [hb]) (by omega)
    exact ⟨v, cur, hO.ch hc (fun b hb => by have := HLOW.out _ hs b hb; omega) (by omega) (by omega) (by omega) (by omega), h1, HJ.out _ _ _ h2 hcB, Nat.le_trans hs hc.size, hcB.sane (fun b hb => (HLOW.out _ hs b hb).1) hsB⟩
  case assign =>
    rintro lr' pre x X K ⟨v, cur, hO, h1, h2, hs, _⟩ hsX hK
    unfold enc1
    gi_wp2
    have hb1 := bl1 X (.cells #[.int .i64 x.1.1, .int .i64 x.1.2] 32)
    have hsB : Sane Bs X := fun b hb => hsX b (by simp [hb])
    exact hK _ _ (KO.of_below hb1 hsX) ⟨v, cur, hO.below hsB hb1, h1, HJ.out _ _ _ h2 (Ch.of_below hb1), Nat.le_trans hs hb1.size, (KO.of_below (B := 0) hb1 hsB).sane hsB⟩ ⟨X.heap.size, P2.new X _ _, rfl⟩
  case body =>
    rintro lr' pre ⟨⟨xa, xz⟩, hxp⟩ a' X ⟨v, cur, hO, ⟨e1, e1'⟩, hJ0, hs, hsB⟩ hsX ⟨T6, p6, rfl⟩ hlt
    dsimp only at p6 ⊢
    have hln1 := ost_vals (p := (pa, pc)) (xs := pre) (Nat.le_refl _)
    have HI : Hid (∀ X' v cu s1' mk' s3', ostep (pa, pc) (ost (pa, pc) (vals pre)) (xa, xz) = (s1', mk', s3') → OS Bs W.heap.size (W.heap.size + 1) (W.heap.size + 1 + 1) W.heap.size Tp lr (pa, pc) v s1' mk' X' → vals cu = s3' → J cu X' → (w0.heap.size ≤ X'.heap.size ∧ Sane Bs X') →
      ∃ v cur, OS Bs W.heap.size (W.heap.size + 1) (W.heap.size + 1 + 1) W.heap.size Tp lr (pa, pc) v (ost (pa, pc) (vals (pre ++ [⟨(xa, xz), hxp⟩]))).1 (ost (pa, pc) (vals (pre ++ [⟨(xa, xz), hxp⟩]))).2.1 X' ∧ (vals cur = (ost (pa, pc) (vals (pre ++ [⟨(xa, xz), hxp⟩]))).2.2 ∧ (pre ++ [(⟨(xa, xz), hxp⟩ : Pq)]).length ≤ l.length * 2000) ∧ J cur X' ∧ (w0.heap.size ≤ X'.heap.size ∧ Sane Bs X')) := fun X' v cu s1' mk' s3' h1 h2 h3 h4 h5 => by
        rw [vals_snoc, ost_snoc, h1]
        exact ⟨v, cu, h2, ⟨h3, by rw [List.length_append]; simp only [List.length_cons, List.length_nil]; omega⟩, h4, h5⟩
    generalize ost (pa, pc) (vals pre) = st at *
    obtain ⟨s1, mk, s3⟩ := st
    dsimp only at e1 hO hln1
    have hcl : cur.length = s3.length := by rw [← vals_length, e1]
    obtain ⟨p0, p1⟩ := p6.cells
    obtain ⟨d0, d1⟩ := hO.pp.cells
    dsimp only at d0 d1
    have c5 := hO.b5.cell
    have f5 := hO.b5.frozen
    have c4 := hO.b4.cell
    have f4 := hO.b4.frozen
    have cy := Boxed.cell hO.y
    obtain ⟨vp, vn, vc, rfl⟩ := own_form hO.own
    have hOwn := hO.own
    have HO := Lib.hid hO
    have HP6 := Lib.hid p6
    have HS := Lib.hid (And.intro (And.intro hs hsB) hsX)
    have HC := Lib.hid (And.intro e1 e1')
    have HJ0 := Lib.hid hJ0
    have hcase : ¬ xa = pa ∨ (xa = pa ∧ ¬ xz = pc) ∨ (xa = pa ∧ xz = pc) := by
      by_cases q1 : xa = pa
      · by_cases q2 : xz = pc
        · exact .inr (.inr ⟨q1, q2⟩)
        · exact .inr (.inl ⟨q1, q2⟩)
      · exact .inl q1
    have hX0 : W.heap.size + 4 ≤ X.heap.size := by omega
    have HXL := Lib.hid hX0
    have hbd : s1.length ≤ 2000000 := by omega
    have HOWN : Hid (X.ownsRow W.heap.size 32 2 (.slice vp vn vc) s1.length (cls s1)) := hOwn
    have HCL := Lib.hid (And.intro hcl hlt)
    clear hO p6 hs hsX hsB e1 e1' hJ0 hcl hlt hOwn
    rcases hcase with hne | ⟨rfl, hne⟩ | ⟨rfl, rfl⟩
    · skip
      have HNE : Hid (¬ ((xa, xz) : Pt) = (pa, pc)) := fun e => by
        cases e
        exact hne rfl
      cases mk with
      | false =>
        have HS1 : Hid (ostep (pa, pc) (s1, false, s3) (xa, xz) = (s1 ++ [(xa, xz)], false, s3)) := by show _ = _; unfold ostep; rw [if_neg HNE.out]; rfl
        gi_wp2_with (gi_at_builtin; refine wpListIn_append_own_at _ rfl (.tmp 19) (.tmp 21) 31 rfl W.heap.size 32 i0 (.agg #[.int .i64 0, .int .i64 0]) 2 16 Try.underlying31 hi hz0 hz1 hz2 rfl (by decide) _ _ _ rfl (HOWN.out.alloc _) ⟨X.heap.size, 0, none⟩ 1 1 [.int .i64 xa, .int .i64 xz] rfl rfl two_new (by simp [Value.oneCell']) (by unfold maxLen; omega) (by omega) (by simp; omega) ?_; intro v' w1 hown' hgrow hob; obtain ⟨vp', vn', vc', rfl⟩ := own_form hown'; have H9 := Lib.hid (And.intro hown' (And.intro hgrow hob)); have hb9 := ((HO.out.b4.alloc _).kept hgrow (HO.out.b4.not_row (by decide) HO.out.own)); have c9 := hb9.cell; have f9 := hb9.frozen; clear hown' hgrow hob hb9 c4)
        obtain ⟨hown', hgrow, hob⟩ := H9.out
        have hs' := HLOW.out _ HS.out.1.1
        obtain ⟨os', ch'⟩ := OS.append (B := W.heap.size) (q := (xa, xz)) HO.out HS.out.1.2 hs' (by omega) (Nat.le_refl _) (by omega) (by omega) (by omega) (by omega) (Boxed.not_row HO.out.y (by decide) HO.out.own) (fun e => by have := (own_cells HO.out.own e.symm).1; omega) (by omega) hown' hgrow hob
        refine ⟨KO.appendB (Bs := (W.heap.size + 1) :: (W.heap.size + 1 + 1) :: Bs) HO.out.b4 (by decide) (by simp) (by omega) HOWN.out hown' hgrow hob HS.out.2 (fun b' hb' => ?_), HI.out _ _ cur _ _ _ HS1.out os' HC.out.1 (HJ.out _ _ _ HJ0.out ch') ⟨Nat.le_trans HS.out.1.1 ch'.size, ch'.sane (fun b hb => (hs' b hb).1) HS.out.1.2⟩⟩
        simp only [List.mem_cons] at hb'
        rcases hb' with rfl | rfl | hb'
        · exact HO.out.b4.not_row (by decide) HO.out.own
        · exact HO.out.b5.not_row (by decide) HO.out.own
        · exact fun e => by have := (own_cells HO.out.own e.symm).1; have := (hs' _ hb').1; omega
      
      | true =>
        have HS1 : Hid (ostep (pa, pc) (s1, true, s3) (xa, xz) = (s1, true, s3 ++ [(xa, xz)])) := by show _ = _; unfold ostep; rw [if_neg HNE.out]; rfl
        obtain ⟨fn, tmps, assign, body, hy', hR⟩ := HY.out (n - 1) cur ⟨(xa, xz), hxp⟩ X HJ0.out HS.out.1.2 (by rw [HCL.out.1]; have := HCL.out.2; omega)
        unfold enc1 at hy'
        dsimp only at hy'
        have HR := Lib.hid hR
        clear hR
        gi_wp2_with fail
        refine ⟨(by first | rfl | (intro h; cases h)), (round_in HR.out).mono ?_⟩
        rintro e W3 hW3
        obtain ⟨bv, rfl, H3⟩ : ∃ bv : Bool, e = .returned (.bool bv) ∧ Hid ((bv = true ∧ J (cur ++ [⟨(xa, xz), hxp⟩]) W3 ∧ KO W.heap.size Bs X W3) ∨ (bv = false ∧ Jx (cur ++ [⟨(xa, xz), hxp⟩]) W3 ∧ KO W.heap.size Bs X W3)) := hW3.elim (fun h => ⟨true, h.1, .inl ⟨rfl, h.2⟩⟩) (fun h => ⟨false, h.1, .inr ⟨rfl, h.2⟩⟩)
        have KO3 : Hid (KO W.heap.size Bs X W3) := H3.out.elim (fun h => h.2.2) (fun h => h.2.2)
        have KOw : Hid (KO w0.heap.size ((W.heap.size + 1) :: (W.heap.size + 1 + 1) :: Bs) X W3) := (KO3.out.mono (by omega)).widen HO.out.b4 HO.out.own HO.out.b5 HO.out.n4 HO.out.n5
        clear hW3 hy' HR p0 p1 d0 d1 c4 c5 f4 f5 cy
        rcases H3.out with ⟨rfl, hj3, -⟩ | ⟨rfl, hx3, -⟩
        · gi_wp2
          exact ⟨KOw.out, HI.out _ _ (cur ++ [⟨(xa, xz), hxp⟩]) _ _ _ HS1.out (HO.out.ko KO3.out) (by rw [vals_snoc, HC.out.1]) hj3 ⟨Nat.le_trans HS.out.1.1 KO3.out.size, KO3.out.sane HS.out.1.2⟩⟩
        · gi_wp2
          exact ⟨KOw.out, rfl, _, hx3⟩
    · skip
      have HNE : Hid (¬ ((xa, xz) : Pt) = (xa, pc)) := fun e => by
        cases e
        exact hne rfl
      cases mk with
      | false =>
        have HS1 : Hid (ostep (xa, pc) (s1, false, s3) (xa, xz) = (s1 ++ [(xa, xz)], false, s3)) := by show _ = _; unfold ostep; rw [if_neg HNE.out]; rfl
        gi_wp2_with (gi_at_builtin; refine wpListIn_append_own_at _ rfl (.tmp 19) (.tmp 21) 31 rfl W.heap.size 32 i0 (.agg #[.int .i64 0, .int .i64 0]) 2 16 Try.underlying31 hi hz0 hz1 hz2 rfl (by decide) _ _ _ rfl (HOWN.out.alloc _) ⟨X.heap.size, 0, none⟩ 1 1 [.int .i64 xa, .int .i64 xz] rfl rfl two_new (by simp [Value.oneCell']) (by unfold maxLen; omega) (by omega) (by simp; omega) ?_; intro v' w1 hown' hgrow hob; obtain ⟨vp', vn', vc', rfl⟩ := own_form hown'; have H9 := Lib.hid (And.intro hown' (And.intro hgrow hob)); have hb9 := ((HO.out.b4.alloc _).kept hgrow (HO.out.b4.not_row (by decide) HO.out.own)); have c9 := hb9.cell; have f9 := hb9.frozen; clear hown' hgrow hob hb9 c4)
        obtain ⟨hown', hgrow, hob⟩ := H9.out
        have hs' := HLOW.out _ HS.out.1.1
        obtain ⟨os', ch'⟩ := OS.append (B := W.heap.size) (q := (xa, xz)) HO.out HS.out.1.2 hs' (by omega) (Nat.le_refl _) (by omega) (by omega) (by omega) (by omega) (Boxed.not_row HO.out.y (by decide) HO.out.own) (fun e => by have := (own_cells HO.out.own e.symm).1; omega) (by omega) hown' hgrow hob
        refine ⟨KO.appendB (Bs := (W.heap.size + 1) :: (W.heap.size + 1 + 1) :: Bs) HO.out.b4 (by decide) (by simp) (by omega) HOWN.out hown' hgrow hob HS.out.2 (fun b' hb' => ?_), HI.out _ _ cur _ _ _ HS1.out os' HC.out.1 (HJ.out _ _ _ HJ0.out ch') ⟨Nat.le_trans HS.out.1.1 ch'.size, ch'.sane (fun b hb => (hs' b hb).1) HS.out.1.2⟩⟩
        simp only [List.mem_cons] at hb'
        rcases hb' with rfl | rfl | hb'
        · exact HO.out.b4.not_row (by decide) HO.out.own
        · exact HO.out.b5.not_row (by decide) HO.out.own
        · exact fun e => by have := (own_cells HO.out.own e.symm).1; have := (hs' _ hb').1; omega
      
      | true =>
        have HS1 : Hid (ostep (xa, pc) (s1, true, s3) (xa, xz) = (s1, true, s3 ++ [(xa, xz)])) := by show _ = _; unfold ostep; rw [if_neg HNE.out]; rfl
        obtain ⟨fn, tmps, assign, body, hy', hR⟩ := HY.out (n - 1) cur ⟨(xa, xz), hxp⟩ X HJ0.out HS.out.1.2 (by rw [HCL.out.1]; have := HCL.out.2; omega)
        unfold enc1 at hy'
        dsimp only at hy'
        have HR := Lib.hid hR
        clear hR
        gi_wp2_with fail
        refine ⟨(by first | rfl | (intro h; cases h)), (round_in HR.out).mono ?_⟩
        rintro e W3 hW3
        obtain ⟨bv, rfl, H3⟩ : ∃ bv : Bool, e = .returned (.bool bv) ∧ Hid ((bv = true ∧ J (cur ++ [⟨(xa, xz), hxp⟩]) W3 ∧ KO W.heap.size Bs X W3) ∨ (bv = false ∧ Jx (cur ++ [⟨(xa, xz), hxp⟩]) W3 ∧ KO W.heap.size Bs X W3)) := hW3.elim (fun h => ⟨true, h.1, .inl ⟨rfl, h.2⟩⟩) (fun h => ⟨false, h.1, .inr ⟨rfl, h.2⟩⟩)
        have KO3 : Hid (KO W.heap.size Bs X W3) := H3.out.elim (fun h => h.2.2) (fun h => h.2.2)
        have KOw : Hid (KO w0.heap.size ((W.heap.size + 1) :: (W.heap.size + 1 + 1) :: Bs) X W3) := (KO3.out.mono (by omega)).widen HO.out.b4 HO.out.own HO.out.b5 HO.out.n4 HO.out.n5
        clear hW3 hy' HR p0 p1 d0 d1 c4 c5 f4 f5 cy
        rcases H3.out with ⟨rfl, hj3, -⟩ | ⟨rfl, hx3, -⟩
        · gi_wp2
          exact ⟨KOw.out, HI.out _ _ (cur ++ [⟨(xa, xz), hxp⟩]) _ _ _ HS1.out (HO.out.ko KO3.out) (by rw [vals_snoc, HC.out.1]) hj3 ⟨Nat.le_trans HS.out.1.1 KO3.out.size, KO3.out.sane HS.out.1.2⟩⟩
        · gi_wp2
          exact ⟨KOw.out, rfl, _, hx3⟩
    · have HS1 : Hid (ostep (xa, xz) (s1, mk, s3) (xa, xz) = (s1, true, s3)) := by show _ = _; unfold ostep; rw [if_pos rfl]
      gi_wp2
      have hs' := HLOW.out _ HS.out.1.1
      have cm : Ch W.heap.size Bs X (X.setCell ⟨W.heap.size + 1 + 1, 0, none⟩ (.bool true)) := Ch.set X _ (by omega) HO.out.n5.o
      exact ⟨KO.set (by simp) (by omega) HO.out.b5.cell (fun a n c h => by cases h), HI.out _ _ cur _ _ _ HS1.out (HO.out.mark hs' (by omega) (by omega) (by omega) (by omega) true) HC.out.1 (HJ.out _ _ _ HJ0.out cm) ⟨Nat.le_trans HS.out.1.1 cm.size, cm.sane (fun b hb => (hs' b hb).1) HS.out.1.2⟩⟩
  case done =>
    rintro D ys X hD hS ⟨v, cur, hO, ⟨e1, e1'⟩, hJ0, hs, hsB⟩ hK
    have HOT : Hid (oth l (pa, pc) = (ost (pa, pc) (vals ys)).2.2 ++ (ost (pa, pc) (vals ys)).1) := by show _ = _; unfold oth; rw [hS]
    have HMEM : Hid (∀ q, q ∈ (ost (pa, pc) (vals ys)).1 → ∃ pk : Pq, pk.1 = q) := fun q hq => by
      have := ost_mem _ _ q hq
      unfold vals at this
      obtain ⟨pk, _, h⟩ := List.mem_map.1 this
      exact ⟨pk, h⟩
    have hln1 := ost_vals (p := (pa, pc)) e1'
    clear hS
    generalize ost (pa, pc) (vals ys) = st at *
    obtain ⟨s1, mk, s3⟩ := st
    dsimp only at hO e1 HOT HMEM hln1
    obtain ⟨vp, vc, rfl, hvp⟩ := hO.own.form2
    obtain ⟨nn, hnn⟩ : ∃ nn, nn = s1.length := ⟨_, rfl⟩
    rw [← hnn] at hO hln1
    have HNN := Lib.hid hnn
    have HVP := Lib.hid hvp
    have c4 := hO.b4.cell
    have hcl : cur.length = s3.length := by rw [← vals_length, e1]
    have hnb : nn ≤ 2000000 := by omega
    have HLN : Hid (nn + cur.length ≤ l.length * 2000) := by show _ ≤ _; omega
    have H1 : Hid (∃ cu, vals cu = s3 ++ s1.take 0 ∧ cu.length = cur.length + 0 ∧ J cu X) := ⟨cur, by simp [e1], rfl, hJ0⟩
    have H2 : Hid (OS Bs W.heap.size (W.heap.size + 1) (W.heap.size + 1 + 1) W.heap.size Tp lr (pa, pc) (.slice vp nn vc) s1 mk X ∧ Sane Bs X ∧ X.heap[D]? = some (.deferred (some []))) := ⟨hO, hsB, hK⟩
    clear hO e1 e1' hJ0 hs hsB hK hvp hnn hcl hln1
    gi_wp2
    gi_loopw [30, 8] (fun i _ wr => ∃ k : Nat, k ≤ nn ∧ i = .int .i64 k ∧ Hid (∃ cu, vals cu = s3 ++ s1.take k ∧ cu.length = cur.length + k ∧ J cu wr) ∧ Hid (OS Bs W.heap.size (W.heap.size + 1) (W.heap.size + 1 + 1) W.heap.size Tp lr (pa, pc) (.slice vp nn vc) s1 mk wr ∧ Sane Bs wr ∧ wr.heap[D]? = some (.deferred (some [])))) (fun i _ _ => nn - (intOf i).toNat)
    case atStart => exact ⟨0, Nat.zero_le _, rfl, H1.out, H2.out⟩
    case round =>
      obtain ⟨k, hk, rfl, HC, HT⟩ := hrel
      clear c4
      by_cases hkt : k < nn
      · obtain ⟨cu, e1, e2, e3⟩ := HC.out
        obtain ⟨hO, hsB, hK⟩ := HT.out
        obtain ⟨g, rfl⟩ := HVP.out (fun e => by have := HNN.out; rw [e] at this; simp at this; omega)
        have hrow : Row wr g 0 s1 := by
          rcases hO.own.row with ⟨h, _⟩ | ⟨g', c', h, hr, _⟩
          · cases h
          · cases h; exact hr
        obtain ⟨ckx, ckz⟩ := hrow k (by rw [← HNN.out]; exact hkt)
        simp only [Nat.zero_add] at ckx ckz
        obtain ⟨pk, hpk⟩ := HMEM.out (px s1 k, pz s1 k) (by
          unfold px pz
          rw [List.getD_eq_getElem?_getD, List.getElem?_eq_getElem (by rw [← HNN.out]; exact hkt)]
          exact List.getElem_mem _)
        have HTK := Lib.hid (take_snoc s1 k (by rw [← HNN.out]; exact hkt))
        have HKT := Lib.hid hkt
        have hb1 := bl1 wr (.cells #[.int .i64 (px s1 k), .int .i64 (pz s1 k)] 32)
        have hsB' := (KO.of_below (B := 0) hb1 hsB).sane hsB
        obtain ⟨fn, tmps, assign, body, hy', hR⟩ := HY.out (n - 1) cu pk _ (HJ.out _ _ _ e3 (Ch.of_below hb1)) hsB' (by rw [e2]; have := HLN.out; omega)
        unfold enc1 at hy'
        rw [hpk] at hy'
        dsimp only at hy'
        have HPK := Lib.hid hpk
        have HR := Lib.hid hR
        have E1 := Lib.hid (And.intro e1 e2)
        have HT1 := Lib.hid (And.intro (hO.below hsB hb1) (And.intro hsB' ((hb1.block _ (Array.getElem?_eq_some_iff.1 hK).1).trans hK)))
        have cy := Boxed.cell HT1.out.1.y
        clear hR e1 e2 e3 HC hO hsB hK hrow hpk hsB' hb1
        gi_wp2_with fail
        refine ⟨(by first | rfl | (intro h; cases h)), HR.out.mono ?_⟩
        rintro e W3 hW3
        obtain ⟨bv, rfl, H3⟩ : ∃ bv : Bool, e = .returned (.bool bv) ∧ Hid ((bv = true ∧ J (cu ++ [pk]) W3 ∧ KO W.heap.size Bs (wr.alloc (.cells #[.int .i64 (px s1 k), .int .i64 (pz s1 k)] 32)) W3) ∨ (bv = false ∧ Jx (cu ++ [pk]) W3 ∧ KO W.heap.size Bs (wr.alloc (.cells #[.int .i64 (px s1 k), .int .i64 (pz s1 k)] 32)) W3)) := hW3.elim (fun h => ⟨true, h.1, .inl ⟨rfl, h.2⟩⟩) (fun h => ⟨false, h.1, .inr ⟨rfl, h.2⟩⟩)
        have KO3 : Hid (KO W.heap.size Bs (wr.alloc (.cells #[.int .i64 (px s1 k), .int .i64 (pz s1 k)] 32)) W3) := H3.out.elim (fun h => h.2.2) (fun h => h.2.2)
        have HT3 : Hid (OS Bs W.heap.size (W.heap.size + 1) (W.heap.size + 1 + 1) W.heap.size Tp lr (pa, pc) (.slice (some ⟨g, 0, none⟩) nn vc) s1 mk W3 ∧ Sane Bs W3 ∧ W3.heap[D]? = some (.deferred (some []))) :=
          ⟨HT1.out.1.ko KO3.out, KO3.out.sane HT1.out.2.1, KO3.out.objs _ _ (by omega) (fun ho => by obtain ⟨_, cur', U, u, hu⟩ := ho; rw [HT1.out.2.2] at hu; cases hu) HT1.out.2.2⟩
        clear hW3 hy' HR ckx ckz cy
        rcases H3.out with ⟨rfl, hj3, -⟩ | ⟨rfl, hx3, -⟩
        · gi_wp2
          go_roundw
          case rel => exact ⟨k + 1, by have := HKT.out; omega, by go_num, ⟨cu ++ [pk], by rw [vals_snoc, E1.out.1, HPK.out, HTK.out, List.append_assoc], by rw [List.length_append, E1.out.2]; rfl, hj3⟩, HT3.out⟩
          case measure =>
            have e9 : ((k : Int) + 1).toNat = k + 1 := by omega
            simp only [intOf, Int.toNat_natCast, e9]
            have := HKT.out
            omega
        · have hK := HT3.out.2.2
          have hJ' := HJX.out _ _ _ hx3 (ch_putObj (.deferred none) hK rfl (by omega))
          gi_wp2
          refine ⟨by simp, .inl ⟨_, _, rfl, run_takeDeferred hK, ?_⟩⟩
          exact ⟨_, results_none rfl _ _ _, ⟨_, rfl⟩, .inr ⟨_, hJ'⟩⟩
      · obtain rfl : k = nn := by omega
        obtain ⟨cu, e1, e2, e3⟩ := HC.out
        have hK := HT.out.2.2
        have hJ' := HJ.out _ _ _ e3 (ch_putObj (.deferred none) hK rfl (by omega))
        have EE : Hid (vals cu = oth l (pa, pc)) := by
          show _ = _
          rw [e1, HOT.out, List.take_of_length_le (by rw [HNN.out]; exact Nat.le_refl _)]
        clear e1 e2 e3
        gi_wp2
        refine ⟨by simp, .inl ⟨_, _, rfl, run_takeDeferred hK, ?_⟩⟩
        exact ⟨_, results_none rfl _ _ _, ⟨_, rfl⟩, .inl ⟨cu, EE.out, hJ'⟩⟩
  case stop =>
    rintro D cc pre X hD ⟨rfl, cur, h⟩ hK
    have hJ' := HJX.out _ _ _ h (ch_putObj (.deferred none) hK rfl (by omega))
    gi_wp2
    refine ⟨by simp, .inl ⟨_, _, rfl, run_takeDeferred hK, ?_⟩⟩
    exact ⟨_, results_none rfl _ _ _, ⟨_, rfl⟩, .inr ⟨cur, hJ'⟩⟩
end Go.Proofs.Ytljmhejljpfaiaa

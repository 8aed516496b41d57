import Derived.Test.YtljmhejljpfaiaaGreatX
namespace Go.Proofs.YtljmhejljpfaiaaGreat
set_option maxRecDepth 100000
set_option maxRecDepth 100000
open Go.RowKit Go.Shelf
attribute [local go_sem] Oper.semAt_some

/-! the iterator over the points of a border -/
theorem Nc.ch {B : Nat} {Bs : List Nat} {T : Nat} {A C : World} (h : Nc Bs T A) (hc : Ch B Bs A C) (hs : ∀ b ∈ Bs, b < B ∧ b < A.heap.size) (hT : T < A.heap.size) (hB : T < B) : Nc Bs T C := by
  refine ⟨h.b, ?_⟩
  rintro ⟨⟨b, n, c, hb, hq⟩, cur, U, u, hu⟩
  exact h.o ⟨⟨b, n, c, hb, (cell_same (a := ⟨b, 0, none⟩) (hc.block b (hs b hb).2 (.inl (hs b hb).1))).symm.trans hq⟩, cur, U, u, (hc.block T hT (.inl hB)).symm.trans hu⟩
theorem round_in {m m' : Nat} {P : Program} {l k : Nat} {f : FuncId} {tmps : Array Value} {assign body : Code} {w : World} {R : Ending → World → Prop} (h : RoundIn Fence.wide m P l f tmps assign body w R) : RoundIn (Fence.wide.inRound k) m' P l f tmps assign body w R := round_any h
theorem Nc.mem {Bs : List Nat} {W : World} {b c : Nat} (h : Nc Bs b W) (hc : c ∈ Bs) : b ≠ c := fun e => h.b (e ▸ hc)
/-- the box of the caller's function -/
def Yb (T lr : Nat) (W : World) : Prop := Boxed W T 66 (.func (.yield lr) #[] #[])
set_option maxHeartbeats 4000000 in
theorem points1_in (n lr : Nat) (Bs : List Nat) (Be b o c : Nat) (l : List Pt) (h3 : 0 < l.length) (h12 : l.length ≤ 1000000) (hx : Bx l)
    (hd : ∀ i, i < l.length → ¬ (px l (nx l.length i) = px l i ∧ pz l (nx l.length i) = pz l i))
    (J Jx : List Pq → World → Prop) (W : World) (hJ : Bears W.heap.size Bs J) (hJx : Bears W.heap.size Bs Jx)
    (hY : ∀ m pre x W1, J pre W1 → Sane Bs W1 → pre.length < l.length * 2000 → YieldAt Fence.wide m Tryz.prog lr (enc1 x) W1 fun e W' =>
      (e = .returned (.bool true) ∧ J (pre ++ [x]) W' ∧ KO W.heap.size Bs W1 W') ∨ (e = .returned (.bool false) ∧ Jx (pre ++ [x]) W' ∧ KO W.heap.size Bs W1 W'))
    (hE : Ed Bs Be b o c l W) (h0 : J [] W) :
    CallsIn Fence.wide n Tryz.prog 73 #[.func (.yield lr) #[] #[], .pointer (some ⟨Be, 0, none⟩)] W fun e W' => (∃ v, e = .returned v) ∧ ((∃ xs, vals xs = bp l ∧ J xs W') ∨ (∃ pre, Jx pre W')) := by
  have HJ := Lib.hid hJ; have HJX := Lib.hid hJx; have HY := Lib.hid hY; have HE := Lib.hid hE; have H0 := Lib.hid h0; have HX := Lib.hid hx; have HD := Lib.hid hd
  have hbe := hE.box.lt
  have hbr := hE.row.lt h3
  have hB1 : Below W.heap.size W (W.alloc (.cells #[.func (.yield lr) #[] #[]] 66)) := bl1 W _
  have cb : (W.alloc (.cells #[.func (.yield lr) #[] #[]] 66)).cell? ⟨Be, 0, none⟩ = some (.slice (some ⟨b, o, none⟩) l.length c) := (hB1.cell (p := ⟨Be, 0, none⟩) hbe).trans hE.box.cell
  clear hJ hJx hY hE h0 hx hd hB1
  refine callsIn_of_wp_marks Tryz.func73 rfl trivial ?_ rfl
  simp only [Tryz.ntmps73, List.size_toArray, List.length_cons, List.length_nil, Nat.reduceAdd, Nat.reduceSub, Array.replicate_succ, Array.replicate_zero, List.push_toArray, List.append_toArray, List.nil_append, List.cons_append]
  gi_wp2_with fail
  refine ⟨trivial, (fun h => by cases h), ?_⟩
  refine (callsIn_wide.2 (edgesv_any _ _ _ _)).mono ?_
  rintro e w' ⟨rfl, rfl⟩
  gi_wp2
  have hB0 : Below W.heap.size W ((W.alloc (.cells #[.func (.yield lr) #[] #[]] 66)).alloc (.cells #[.slice (some ⟨b, o, none⟩) l.length c] 49)) := bl2 W _ _
  have hYb : Yb W.heap.size lr ((W.alloc (.cells #[.func (.yield lr) #[] #[]] 66)).alloc (.cells #[.slice (some ⟨b, o, none⟩) l.length c] 49)) :=
    (Below.heap_alloc _ _ _ (by simp)).trans (World.alloc_heap_new W _)
  have hNy : Nc Bs W.heap.size ((W.alloc (.cells #[.func (.yield lr) #[] #[]] 66)).alloc (.cells #[.slice (some ⟨b, o, none⟩) l.length c] 49)) :=
    (Nc.new HE.out.sane _).below ((KO.of_below (B := 0) (bl1 W _) HE.out.sane).sane HE.out.sane) (bl1 _ _) (by simp)
  have hBx : Boxed ((W.alloc (.cells #[.func (.yield lr) #[] #[]] 66)).alloc (.cells #[.slice (some ⟨b, o, none⟩) l.length c] 49)) (W.heap.size + 1) 49 (.slice (some ⟨b, o, none⟩) l.length c) := by
    have := Boxed.new (W.alloc (.cells #[.func (.yield lr) #[] #[]] 66)) 49 (.slice (some ⟨b, o, none⟩) l.length c)
    rw [World.size_alloc] at this
    exact this
  have hNx : Nc Bs (W.heap.size + 1) ((W.alloc (.cells #[.func (.yield lr) #[] #[]] 66)).alloc (.cells #[.slice (some ⟨b, o, none⟩) l.length c] 49)) := by
    have := Nc.new (W := W.alloc (.cells #[.func (.yield lr) #[] #[]] 66)) ((KO.of_below (B := 0) (bl1 W _) HE.out.sane).sane HE.out.sane) (.cells #[.slice (some ⟨b, o, none⟩) l.length c] 49)
    rw [World.size_alloc] at this
    exact this
  have hsz : ((W.alloc (.cells #[.func (.yield lr) #[] #[]] 66)).alloc (.cells #[.slice (some ⟨b, o, none⟩) l.length c] 49)).heap.size = W.heap.size + 2 := by simp
  generalize (W.alloc (.cells #[.func (.yield lr) #[] #[]] 66)).alloc (.cells #[.slice (some ⟨b, o, none⟩) l.length c] 49) = w0 at *
  have E0 := HE.out.below hB0 h3
  refine rangeX Bs (gf := 85) (lb := #[.pointer (some ⟨W.heap.size + 1, 0, none⟩)]) rfl (enters_of Tryz.func85 (by kernel_rfl) rfl)
    (edges_seq (W.heap.size + 1) b o c l w0 h3 h12 E0.row hBx) (Below.refl _ _) (fun _ => rfl) E0.sane
    (fun k hk => by rcases hk with rfl | rfl
                    · exact ⟨by omega, hNx.b, hNx.o⟩
                    · exact ⟨E0.row.lt h3, E0.nr.1, E0.nr.2⟩)
    (fun pre X => (∃ cur, vals cur = bpE l pre ∧ cur.length ≤ pre.length * 2000 ∧ J cur X) ∧ (Yb W.heap.size lr X ∧ Nc Bs W.heap.size X) ∧ w0.heap.size ≤ X.heap.size) (fun cc _ X => cc = .ret ∧ ∃ cur, Jx cur X)
    ?bI (fun cc s A C h hc => ⟨h.1, h.2.choose, HJX.out _ _ _ h.2.choose_spec (hc.mono (by omega))⟩) ⟨⟨[], rfl, Nat.zero_le _, HJ.out _ _ _ H0.out (Ch.of_below hB0)⟩, ⟨hYb, hNy⟩, Nat.le_refl _⟩
    (fun x a' X => ∃ T3 T4, (P2 T3 (px l x.1) (pz l x.1) X ∧ P2 T4 (px l (nx l.length x.1)) (pz l (nx l.length x.1)) X) ∧ (Nc Bs T3 X ∧ Nc Bs T4 X) ∧ a' = { tmps := #[.func (.yield lr) #[] #[], .pointer (some ⟨Be, 0, none⟩), .pointer (some ⟨W.heap.size, 0, none⟩), .pointer (some ⟨T3, 0, none⟩), .pointer (some ⟨T4, 0, none⟩), undef, undef, undef, .slice (some ⟨b, o, none⟩) l.length c, .func (.func 85) #[] #[.pointer (some ⟨W.heap.size + 1, 0, none⟩)], .agg #[.int .i64 (px l x.1), .int .i64 (pz l x.1)], .agg #[.int .i64 (px l (nx l.length x.1)), .int .i64 (pz l (nx l.length x.1))], undef, undef, undef, undef, undef, undef, undef, undef, undef, undef, undef, undef, undef, undef, undef, undef, undef, undef, undef, undef, undef, undef, undef, undef, undef, undef, undef, undef, undef], defers := [] })
    (fun x a' X k q q' hl ho ho' ⟨T3, T4, h, hn, e⟩ => ⟨T3, T4, ⟨h.1.putObj q' hl ho, h.2.putObj q' hl ho⟩, ⟨hn.1.putObj q' hl ho ho', hn.2.putObj q' hl ho ho'⟩, e⟩) ?assign ?body ?done ?stop
  case bI =>
    rintro s A C ⟨⟨cur, h1, h1', h2⟩, ⟨hy, hn⟩, hs⟩ hc
    exact ⟨⟨cur, h1, h1', HJ.out _ _ _ h2 (hc.mono (by omega))⟩, ⟨(hc.block _ hy.lt (.inl (by omega))).trans hy, hn.ch hc (fun b hb => ⟨(E0.sane b hb).1, Nat.lt_of_lt_of_le (E0.sane b hb).1 hs⟩) hy.lt (by omega)⟩, Nat.le_trans hs hc.size⟩
  case assign =>
    rintro lr' pre x X K ⟨⟨cur, h1, h1', h2⟩, ⟨hy, hny⟩, hs⟩ hsX hK
    unfold enc2
    gi_wp2
    have hb1 := bl1 X (.cells #[.int .i64 (px l x.1), .int .i64 (pz l x.1)] 37)
    have hb2 := bl2 X (.cells #[.int .i64 (px l x.1), .int .i64 (pz l x.1)] 37) (.cells #[.int .i64 (px l (nx l.length x.1)), .int .i64 (pz l (nx l.length x.1))] 37)
    have hs1 := (KO.of_below (B := 0) hb1 hsX).sane hsX
    refine hK _ _ (KO.of_below hb2 hsX) ⟨⟨cur, h1, h1', HJ.out _ _ _ h2 (Ch.of_below hb2)⟩, ⟨(hb2.block _ hy.lt).trans hy, hny.below hsX hb2 hy.lt⟩, Nat.le_trans hs hb2.size⟩ ⟨X.heap.size, X.heap.size + 1, ⟨(P2.new X _ _).alloc _, ?_⟩, ⟨(Nc.new hsX _).below hs1 (bl1 _ _) (by simp), ?_⟩, rfl⟩
    · have := P2.new (X.alloc (.cells #[.int .i64 (px l x.1), .int .i64 (pz l x.1)] 37)) (px l (nx l.length x.1)) (pz l (nx l.length x.1))
      rw [World.size_alloc] at this
      exact this
    · have := Nc.new hs1 (.cells #[.int .i64 (px l (nx l.length x.1)), .int .i64 (pz l (nx l.length x.1))] 37)
      rw [World.size_alloc] at this
      exact this
  case body =>
    rintro lr' pre x a' X ⟨⟨cur, h1, h1', h2⟩, ⟨hy, hny⟩, hs⟩ hsX ⟨T3, T4, ⟨p3, p4⟩, ⟨n3, n4⟩, rfl⟩ hlt
    obtain ⟨c0, c1⟩ := p3.cells
    obtain ⟨d0, d1⟩ := p4.cells
    have hxi := HX.out x.1 x.2
    have hxj := HX.out (nx l.length x.1) (nx_lt x.2)
    have hdi := HD.out x.1 x.2
    have hdj := HD.out x.1 x.2
    have HS : Hid (∀ V, Calls Tryz.prog 74 #[.agg #[.int .i64 (px l x.1), .int .i64 (pz l x.1)], .agg #[.int .i64 (px l (nx l.length x.1)), .int .i64 (pz l (nx l.length x.1))]] V fun e w' =>
      e = .returned (.tuple #[.int .i64 (snE l x.1 : Nat), .agg #[.int .i64 (sxE l x.1), .int .i64 (szE l x.1)]]) ∧ Below V.heap.size V w') := fun V => steps_any _ _ _ _ V hxi.1 hxi.2 hxj.1 hxj.2 hdi
    have HM := Lib.hid (sn_le hxi.1 hxi.2 hxj.1 hxj.2)
    have HB : Hid (∀ k : Nat, k < snE l x.1 → ((0 ≤ px l x.1 + k * sxE l x.1 ∧ px l x.1 + k * sxE l x.1 ≤ 2000) ∧ (-2000 ≤ k * sxE l x.1 ∧ k * sxE l x.1 ≤ 2000)) ∧ ((0 ≤ pz l x.1 + k * szE l x.1 ∧ pz l x.1 + k * szE l x.1 ≤ 2000) ∧ (-2000 ≤ k * szE l x.1 ∧ k * szE l x.1 ≤ 2000))) := fun k hk =>
      ⟨seg_bd (sxE_mul l x.1) (by omega) hxi.1 (by omega), seg_bd (szE_mul l x.1) (by omega) hxi.2 (by omega)⟩
    have HSN := Lib.hid (bpE_snoc l pre x)
    have HM : Hid (snE l x.1 ≤ 2000) := HM.out
    have S0 : Hid ((P2 T3 (px l x.1) (pz l x.1) X ∧ Nc Bs T3 X) ∧ (Yb W.heap.size lr X ∧ Nc Bs W.heap.size X) ∧ J cur X ∧ Sane Bs X ∧ w0.heap.size ≤ X.heap.size) := ⟨⟨p3, n3⟩, ⟨hy, hny⟩, h2, hsX, hs⟩
    clear hxi hxj hdi hdj p3 p4 n3 n4 hy hny hs hsX h2
    gi_wp2_with fail
    refine ⟨trivial, (by first | rfl | (intro h; cases h)), ?_⟩
    refine (CallsIn.inRound _ (callsIn_wide.2 (HS.out _))).mono ?_
    rintro e w2 ⟨rfl, hb2⟩
    gi_wp2
    have hb3 : Below X.heap.size X (w2.alloc (.cells #[.int .i64 (sxE l x.1), .int .i64 (szE l x.1)] 37)) := Below.thru hb2 hb2.size (bl1 w2 _)
    have S1 : Hid ((KO w0.heap.size Bs X (w2.alloc (.cells #[.int .i64 (sxE l x.1), .int .i64 (szE l x.1)] 37)) ∧ Sane Bs (w2.alloc (.cells #[.int .i64 (sxE l x.1), .int .i64 (szE l x.1)] 37))) ∧ (P2 T3 (px l x.1) (pz l x.1) (w2.alloc (.cells #[.int .i64 (sxE l x.1), .int .i64 (szE l x.1)] 37)) ∧ P2 w2.heap.size (sxE l x.1) (szE l x.1) (w2.alloc (.cells #[.int .i64 (sxE l x.1), .int .i64 (szE l x.1)] 37)) ∧ Yb W.heap.size lr (w2.alloc (.cells #[.int .i64 (sxE l x.1), .int .i64 (szE l x.1)] 37))) ∧
        (Nc Bs T3 (w2.alloc (.cells #[.int .i64 (sxE l x.1), .int .i64 (szE l x.1)] 37)) ∧ Nc Bs w2.heap.size (w2.alloc (.cells #[.int .i64 (sxE l x.1), .int .i64 (szE l x.1)] 37)) ∧ Nc Bs W.heap.size (w2.alloc (.cells #[.int .i64 (sxE l x.1), .int .i64 (szE l x.1)] 37))) ∧ w0.heap.size ≤ (w2.alloc (.cells #[.int .i64 (sxE l x.1), .int .i64 (szE l x.1)] 37)).heap.size) := by
      obtain ⟨⟨p3, n3⟩, ⟨hy, hny⟩, _, hsX, hs⟩ := S0.out
      have ko := KO.of_below (B := w0.heap.size) hb3 hsX
      have s2 := (KO.of_below (B := 0) hb2 hsX).sane hsX
      exact ⟨⟨ko, ko.sane hsX⟩, ⟨p3.below hb3, P2.new _ _ _, (hb3.block _ hy.lt).trans hy⟩, ⟨n3.below hsX hb3 p3.lt, Nc.new s2 _, hny.below hsX hb3 hy.lt⟩, Nat.le_trans hs hb3.size⟩
    have J1 : Hid (J cur (w2.alloc (.cells #[.int .i64 (sxE l x.1), .int .i64 (szE l x.1)] 37))) := HJ.out _ _ _ S0.out.2.2.1 (Ch.of_below hb3)
    generalize w2.heap.size = T6 at *
    generalize w2.alloc (.cells #[.int .i64 (sxE l x.1), .int .i64 (szE l x.1)] 37) = w3 at *
    have H1 := Lib.hid h1; have H1' := Lib.hid h1'
    clear hb2 hb3 S0 c0 c1 d0 d1 h1 h1'
    gi_loopw [19] (fun i wr => ∃ k : Nat, k ≤ snE l x.1 ∧ i = .int .i64 k ∧ Hid (∃ cu, vals cu = bpE l pre ++ eps l x.1 k ∧ cu.length ≤ pre.length * 2000 + k ∧ J cu wr) ∧ Hid ((KO w0.heap.size Bs X wr ∧ Sane Bs wr) ∧ (P2 T3 (px l x.1) (pz l x.1) wr ∧ P2 T6 (sxE l x.1) (szE l x.1) wr ∧ Yb W.heap.size lr wr) ∧ (Nc Bs T3 wr ∧ Nc Bs T6 wr ∧ Nc Bs W.heap.size wr) ∧ w0.heap.size ≤ wr.heap.size)) (fun i _ => snE l x.1 - (intOf i).toNat)
    case atStart => exact ⟨0, Nat.zero_le _, rfl, ⟨cur, by simp [eps, H1.out], by have := H1'.out; omega, J1.out⟩, S1.out⟩
    case round =>
      obtain ⟨k, hk, rfl, HC, HT⟩ := hrel
      by_cases hkt : k < snE l x.1
      · obtain ⟨cu, e1, e2, e3⟩ := HC.out
        obtain ⟨⟨ko, sa⟩, ⟨q3, q6, qy⟩, ⟨m3, m6, my⟩, hs3⟩ := HT.out
        obtain ⟨a0, a1⟩ := q3.cells
        obtain ⟨g0, g1⟩ := q6.cells
        have gy := Boxed.cell qy
        have hbd := HB.out k hkt
        have HKT := Lib.hid hkt
        have hm2 : snE l x.1 ≤ 2000 := HM.out
        have v1 := IntWalk.i64_in (k * sxE l x.1) (by omega)
        have v2 := IntWalk.i64_in (k * szE l x.1) (by omega)
        have v3 := IntWalk.i64_in (px l x.1 + k * sxE l x.1) (by omega)
        have v4 := IntWalk.i64_in (pz l x.1 + k * szE l x.1) (by omega)
        have hlen : cu.length < l.length * 2000 := by
          have := HM.out
          omega
        obtain ⟨pk, hpk⟩ : ∃ pk : Pq, pk.1 = ept l x.1 k := ⟨⟨ept l x.1 k, hbd.1.1, hbd.2.1⟩, rfl⟩
        obtain ⟨fn, tmps, assign, body, hy', hR⟩ := HY.out (n - 1) cu pk wr e3 sa hlen
        unfold enc1 at hy'
        rw [hpk] at hy'
        dsimp only [ept] at hy'
        have HPK := Lib.hid hpk
        clear hlen hpk
        have HR := Lib.hid hR
        have E1 := Lib.hid (And.intro e1 e2)
        clear hR ko sa q3 q6 qy m3 m6 my hs3 hbd e1 e2 e3 HC
        gi_wp2_with fail
        refine ⟨(by first | rfl | (intro h; cases h)), (round_in HR.out).mono ?_⟩
        rintro e W3 hW3
        obtain ⟨bv, rfl, H3⟩ : ∃ bv : Bool, e = .returned (.bool bv) ∧ Hid ((bv = true ∧ J (cu ++ [pk]) W3 ∧ KO W.heap.size Bs wr W3) ∨ (bv = false ∧ Jx (cu ++ [pk]) W3 ∧ KO W.heap.size Bs wr W3)) := hW3.elim (fun h => ⟨true, h.1, .inl ⟨rfl, h.2⟩⟩) (fun h => ⟨false, h.1, .inr ⟨rfl, h.2⟩⟩)
        have KO3 : Hid (KO W.heap.size Bs wr W3) := H3.out.elim (fun h => h.2.2) (fun h => h.2.2)
        have ST : Hid ((KO w0.heap.size Bs X W3 ∧ Sane Bs W3) ∧ (P2 T3 (px l x.1) (pz l x.1) W3 ∧ P2 T6 (sxE l x.1) (szE l x.1) W3 ∧ Yb W.heap.size lr W3) ∧ (Nc Bs T3 W3 ∧ Nc Bs T6 W3 ∧ Nc Bs W.heap.size W3) ∧ w0.heap.size ≤ W3.heap.size) := by
          obtain ⟨⟨ko, sa⟩, ⟨q3, q6, qy⟩, ⟨m3, m6, my⟩, hs3⟩ := HT.out
          have k3 := KO3.out
          exact ⟨⟨ko.trans (k3.mono (by omega)), k3.sane sa⟩, ⟨q3.ko m3 k3, q6.ko m6 k3, k3.boxed qy my.b my.o⟩, ⟨m3.ko k3 q3.lt, m6.ko k3 q6.lt, my.ko k3 qy.lt⟩, Nat.le_trans hs3 k3.size⟩
        clear hW3 hy' HR
        rcases H3.out with ⟨rfl, hj3, -⟩ | ⟨rfl, hx3, -⟩
        · gi_wp2
          go_roundw
          case rel => exact ⟨k + 1, by have := HKT.out; omega, by go_num, ⟨cu ++ [pk], by rw [vals_snoc, E1.out.1, HPK.out, eps_succ, List.append_assoc], by rw [List.length_append]; have := E1.out.2; simp only [List.length_cons, List.length_nil]; omega, hj3⟩, ST.out⟩
          case measure =>
            have e9 : ((k : Int) + 1).toNat = k + 1 := by omega
            simp only [intOf, Int.toNat_natCast, e9]
            have := HKT.out
            omega
        · gi_wp2
          exact ⟨ST.out.1.1, rfl, _, hx3⟩
      · obtain rfl : k = snE l x.1 := by omega
        gi_wp2
        obtain ⟨cu, e1, e2, e3⟩ := HC.out
        obtain ⟨⟨ko, sa⟩, ⟨q3, q6, qy⟩, ⟨m3, m6, my⟩, hs3⟩ := HT.out
        refine ⟨ko, ⟨cu, e1.trans HSN.out.symm, ?_, e3⟩, ⟨qy, my⟩, hs3⟩
        rw [List.length_append]
        have := HM.out
        simp only [List.length_cons, List.length_nil]
        omega
  case done =>
    rintro D ys X hD rfl ⟨⟨cur, h1, -, h2⟩, hy, hs⟩ hK
    have hJ' := HJ.out _ _ _ h2 (ch_putObj (.deferred none) hK rfl (by omega))
    gi_wp2
    refine ⟨by simp, .inl ⟨_, _, rfl, run_takeDeferred hK, ?_⟩⟩
    exact ⟨_, results_none rfl _ _ _, ⟨_, rfl⟩, .inl ⟨cur, h1, hJ'⟩⟩
  case stop =>
    rintro D cc pre X hD ⟨rfl, cur, h⟩ hK
    have hJ' := HJX.out _ _ _ h (ch_putObj (.deferred none) hK rfl (by omega))
    gi_wp2
    refine ⟨by simp, .inl ⟨_, _, rfl, run_takeDeferred hK, ?_⟩⟩
    exact ⟨_, results_none rfl _ _ _, ⟨_, rfl⟩, .inr ⟨cur, hJ'⟩⟩
end Go.Proofs.YtljmhejljpfaiaaGreat

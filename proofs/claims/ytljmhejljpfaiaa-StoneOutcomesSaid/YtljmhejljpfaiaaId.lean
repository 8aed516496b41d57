import Derived.Test.YtljmhejljpfaiaaIa
import Derived.Test.YtljmhejljpfaiaaBs
namespace Go.Proofs.Ytljmhejljpfaiaa
set_option maxRecDepth 100000
open Go.RowKit Go.Shelf
attribute [local go_sem] Oper.semAt_some

/-! the iterators once more: what they hand over are border points -/
abbrev Bq9 (l : List Pt) := { p : Pt // IsP l p.1 p.2 }
def valsR {l : List Pt} (c : List (Bq9 l)) : List Pt := c.map (·.1)
theorem valsR_snoc {l : List Pt} (c : List (Bq9 l)) (x : Bq9 l) : valsR (c ++ [x]) = valsR c ++ [x.1] := by simp [valsR]
theorem valsR_length {l : List Pt} (c : List (Bq9 l)) : (valsR c).length = c.length := by simp [valsR]
def encR {l : List Pt} (p : Bq9 l) : Array Value := #[.agg #[.int .i64 p.1.1, .int .i64 p.1.2]]
set_option maxHeartbeats 4000000 in
theorem points1R (n lr : Nat) (Bs : List Nat) (Be b o c : Nat) (l : List Pt) (h3 : 0 < l.length) (h12 : l.length ≤ 1000000) (hx : Bx l)
    (hd : ∀ i, i < l.length → ¬ (px l (nx l.length i) = px l i ∧ pz l (nx l.length i) = pz l i)) (htr : Tr l) (h33 : 3 ≤ l.length)
    (J Jx : List (Bq9 l) → World → Prop) (W : World) (hJ : Bears W.heap.size Bs J) (hJx : Bears W.heap.size Bs Jx)
    (hY : ∀ m pre x W1, J pre W1 → Sane Bs W1 → pre.length < l.length * 2000 → YieldAt Fence.wide m Try.prog lr (encR x) W1 fun e W' =>
      (e = .returned (.bool true) ∧ J (pre ++ [x]) W' ∧ KO W.heap.size Bs W1 W') ∨ (e = .returned (.bool false) ∧ Jx (pre ++ [x]) W' ∧ KO W.heap.size Bs W1 W'))
    (hE : Ed Bs Be b o c l W) (h0 : J [] W) :
    CallsIn Fence.wide n Try.prog 103 #[.func (.yield lr) #[] #[], .pointer (some ⟨Be, 0, none⟩)] W fun e W' => (∃ v, e = .returned v) ∧ ((∃ xs, valsR xs = bp l ∧ J xs W') ∨ (∃ pre, Jx pre W')) := by
  have HJ := Lib.hid hJ; have HJX := Lib.hid hJx; have HY := Lib.hid hY; have HE := Lib.hid hE; have H0 := Lib.hid h0; have HX := Lib.hid hx; have HD := Lib.hid hd
  have hbe := hE.box.lt
  have hbr := hE.row.lt h3
  have hB1 : Below W.heap.size W (W.alloc (.cells #[.func (.yield lr) #[] #[]] 114)) := bl1 W _
  have cb : (W.alloc (.cells #[.func (.yield lr) #[] #[]] 114)).cell? ⟨Be, 0, none⟩ = some (.slice (some ⟨b, o, none⟩) l.length c) := (hB1.cell (p := ⟨Be, 0, none⟩) hbe).trans hE.box.cell
  clear hJ hJx hY hE h0 hx hd hB1
  refine callsIn_of_wp_marks Try.func103 rfl trivial ?_ rfl
  simp only [Try.ntmps103, List.size_toArray, List.length_cons, List.length_nil, Nat.reduceAdd, Nat.reduceSub, Array.replicate_succ, Array.replicate_zero, List.push_toArray, List.append_toArray, List.nil_append, List.cons_append]
  gi_wp2_with fail
  refine ⟨trivial, (fun h => by cases h), ?_⟩
  refine (callsIn_wide.2 (edgesv_any _ _ _ _)).mono ?_
  rintro e w' ⟨rfl, rfl⟩
  gi_wp2
  have hB0 : Below W.heap.size W ((W.alloc (.cells #[.func (.yield lr) #[] #[]] 114)).alloc (.cells #[.slice (some ⟨b, o, none⟩) l.length c] 85)) := bl2 W _ _
  have hYb : Yb W.heap.size lr ((W.alloc (.cells #[.func (.yield lr) #[] #[]] 114)).alloc (.cells #[.slice (some ⟨b, o, none⟩) l.length c] 85)) :=
    (Below.heap_alloc _ _ _ (by simp)).trans (World.alloc_heap_new W _)
  have hNy : Nc Bs W.heap.size ((W.alloc (.cells #[.func (.yield lr) #[] #[]] 114)).alloc (.cells #[.slice (some ⟨b, o, none⟩) l.length c] 85)) :=
    (Nc.new HE.out.sane _).below ((KO.of_below (B := 0) (bl1 W _) HE.out.sane).sane HE.out.sane) (bl1 _ _) (by simp)
  have hBx : Boxed ((W.alloc (.cells #[.func (.yield lr) #[] #[]] 114)).alloc (.cells #[.slice (some ⟨b, o, none⟩) l.length c] 85)) (W.heap.size + 1) 85 (.slice (some ⟨b, o, none⟩) l.length c) := by
    have := Boxed.new (W.alloc (.cells #[.func (.yield lr) #[] #[]] 114)) 85 (.slice (some ⟨b, o, none⟩) l.length c)
    rw [World.size_alloc] at this
    exact this
  have hNx : Nc Bs (W.heap.size + 1) ((W.alloc (.cells #[.func (.yield lr) #[] #[]] 114)).alloc (.cells #[.slice (some ⟨b, o, none⟩) l.length c] 85)) := by
    have := Nc.new (W := W.alloc (.cells #[.func (.yield lr) #[] #[]] 114)) ((KO.of_below (B := 0) (bl1 W _) HE.out.sane).sane HE.out.sane) (.cells #[.slice (some ⟨b, o, none⟩) l.length c] 85)
    rw [World.size_alloc] at this
    exact this
  have hsz : ((W.alloc (.cells #[.func (.yield lr) #[] #[]] 114)).alloc (.cells #[.slice (some ⟨b, o, none⟩) l.length c] 85)).heap.size = W.heap.size + 2 := by simp
  generalize (W.alloc (.cells #[.func (.yield lr) #[] #[]] 114)).alloc (.cells #[.slice (some ⟨b, o, none⟩) l.length c] 85) = w0 at *
  have E0 := HE.out.below hB0 h3
  refine rangeX Bs (gf := 113) (lb := #[.pointer (some ⟨W.heap.size + 1, 0, none⟩)]) rfl (enters_of Try.func113 (by kernel_rfl) rfl)
    (edges_seq (W.heap.size + 1) b o c l w0 h3 h12 E0.row hBx) (Below.refl _ _) (fun _ => rfl) E0.sane
    (fun k hk => by rcases hk with rfl | rfl
                    · exact ⟨by omega, hNx.b, hNx.o⟩
                    · exact ⟨E0.row.lt h3, E0.nr.1, E0.nr.2⟩)
    (fun pre X => (∃ cur, valsR cur = bpE l pre ∧ cur.length ≤ pre.length * 2000 ∧ J cur X) ∧ (Yb W.heap.size lr X ∧ Nc Bs W.heap.size X) ∧ w0.heap.size ≤ X.heap.size) (fun cc _ X => cc = .ret ∧ ∃ cur, Jx cur X)
    ?bI (fun cc s A C h hc => ⟨h.1, h.2.choose, HJX.out _ _ _ h.2.choose_spec (hc.mono (by omega))⟩) ⟨⟨[], rfl, Nat.zero_le _, HJ.out _ _ _ H0.out (Ch.of_below hB0)⟩, ⟨hYb, hNy⟩, Nat.le_refl _⟩
    (fun x a' X => ∃ T3 T4, (P2 T3 (px l x.1) (pz l x.1) X ∧ P2 T4 (px l (nx l.length x.1)) (pz l (nx l.length x.1)) X) ∧ (Nc Bs T3 X ∧ Nc Bs T4 X) ∧ a' = { tmps := #[.func (.yield lr) #[] #[], .pointer (some ⟨Be, 0, none⟩), .pointer (some ⟨W.heap.size, 0, none⟩), .pointer (some ⟨T3, 0, none⟩), .pointer (some ⟨T4, 0, none⟩), undef, undef, undef, .slice (some ⟨b, o, none⟩) l.length c, .func (.func 113) #[] #[.pointer (some ⟨W.heap.size + 1, 0, none⟩)], .agg #[.int .i64 (px l x.1), .int .i64 (pz l x.1)], .agg #[.int .i64 (px l (nx l.length x.1)), .int .i64 (pz l (nx l.length x.1))], undef, undef, undef, undef, undef, undef, undef, undef, undef, undef, undef, undef, undef, undef, undef, undef, undef, undef, undef, undef, undef, undef, undef, undef, undef, undef, undef, undef, undef], defers := [] })
    (fun x a' X k q q' hl ho ho' ⟨T3, T4, h, hn, e⟩ => ⟨T3, T4, ⟨h.1.putObj q' hl ho, h.2.putObj q' hl ho⟩, ⟨hn.1.putObj q' hl ho ho', hn.2.putObj q' hl ho ho'⟩, e⟩) ?assign ?body ?done ?stop
  case bI =>
    rintro s A C ⟨⟨cur, h1, h1', h2⟩, ⟨hy, hn⟩, hs⟩ hc
    exact ⟨⟨cur, h1, h1', HJ.out _ _ _ h2 (hc.mono (by omega))⟩, ⟨(hc.block _ hy.lt (.inl (by omega))).trans hy, hn.ch hc (fun b hb => ⟨(E0.sane b hb).1, Nat.lt_of_lt_of_le (E0.sane b hb).1 hs⟩) hy.lt (by omega)⟩, Nat.le_trans hs hc.size⟩
  case assign =>
    rintro lr' pre x X K ⟨⟨cur, h1, h1', h2⟩, ⟨hy, hny⟩, hs⟩ hsX hK
    unfold enc2
    gi_wp2
    have hb1 := bl1 X (.cells #[.int .i64 (px l x.1), .int .i64 (pz l x.1)] 32)
    have hb2 := bl2 X (.cells #[.int .i64 (px l x.1), .int .i64 (pz l x.1)] 32) (.cells #[.int .i64 (px l (nx l.length x.1)), .int .i64 (pz l (nx l.length x.1))] 32)
    have hs1 := (KO.of_below (B := 0) hb1 hsX).sane hsX
    refine hK _ _ (KO.of_below hb2 hsX) ⟨⟨cur, h1, h1', HJ.out _ _ _ h2 (Ch.of_below hb2)⟩, ⟨(hb2.block _ hy.lt).trans hy, hny.below hsX hb2 hy.lt⟩, Nat.le_trans hs hb2.size⟩ ⟨X.heap.size, X.heap.size + 1, ⟨(P2.new X _ _).alloc _, ?_⟩, ⟨(Nc.new hsX _).below hs1 (bl1 _ _) (by simp), ?_⟩, rfl⟩
    · have := P2.new (X.alloc (.cells #[.int .i64 (px l x.1), .int .i64 (pz l x.1)] 32)) (px l (nx l.length x.1)) (pz l (nx l.length x.1))
      rw [World.size_alloc] at this
      exact this
    · have := Nc.new hs1 (.cells #[.int .i64 (px l (nx l.length x.1)), .int .i64 (pz l (nx l.length x.1))] 32)
      rw [World.size_alloc] at this
      exact this
  case body =>
    rintro lr' pre x a' X ⟨⟨cur, h1, h1', h2⟩, ⟨hy, hny⟩, hs⟩ hsX ⟨T3, T4, ⟨p3, p4⟩, ⟨n3, n4⟩, rfl⟩ hlt
    obtain ⟨c0, c1⟩ := p3.cells
    obtain ⟨d0, d1⟩ := p4.cells
    have hxi := HX.out x.1 x.2
    have hxj := HX.out (nx l.length x.1) (nx_lt x.2)
    have hdi := HD.out x.1 x.2
    have hdj := HD.out x.1 x.2
    have HS : Hid (∀ V, Calls Try.prog 84 #[.agg #[.int .i64 (px l x.1), .int .i64 (pz l x.1)], .agg #[.int .i64 (px l (nx l.length x.1)), .int .i64 (pz l (nx l.length x.1))]] V fun e w' =>
      e = .returned (.tuple #[.int .i64 (snE l x.1 : Nat), .agg #[.int .i64 (sxE l x.1), .int .i64 (szE l x.1)]]) ∧ Below V.heap.size V w') := fun V => steps_any _ _ _ _ V hxi.1 hxi.2 hxj.1 hxj.2 hdi
    have HM := Lib.hid (sn_le hxi.1 hxi.2 hxj.1 hxj.2)
    have HB : Hid (∀ k : Nat, k < snE l x.1 → ((0 ≤ px l x.1 + k * sxE l x.1 ∧ px l x.1 + k * sxE l x.1 ≤ 2000) ∧ (-2000 ≤ k * sxE l x.1 ∧ k * sxE l x.1 ≤ 2000)) ∧ ((0 ≤ pz l x.1 + k * szE l x.1 ∧ pz l x.1 + k * szE l x.1 ≤ 2000) ∧ (-2000 ≤ k * szE l x.1 ∧ k * szE l x.1 ≤ 2000))) := fun k hk =>
      ⟨seg_bd (sxE_mul l x.1) (by omega) hxi.1 (by omega), seg_bd (szE_mul l x.1) (by omega) hxi.2 (by omega)⟩
    have HSN := Lib.hid (bpE_snoc l pre x)
    have HM : Hid (snE l x.1 ≤ 2000) := HM.out
    have S0 : Hid ((P2 T3 (px l x.1) (pz l x.1) X ∧ Nc Bs T3 X) ∧ (Yb W.heap.size lr X ∧ Nc Bs W.heap.size X) ∧ J cur X ∧ Sane Bs X ∧ w0.heap.size ≤ X.heap.size) := ⟨⟨p3, n3⟩, ⟨hy, hny⟩, h2, hsX, hs⟩
    clear hxi hxj hdi hdj p3 p4 n3 n4 hy hny hs hsX h2
    gi_wp2_with fail
    refine ⟨trivial, (by first | rfl | (intro h; cases h)), ?_⟩
    refine (CallsIn.inRound _ (callsIn_wide.2 (HS.out _))).mono ?_
    rintro e w2 ⟨rfl, hb2⟩
    gi_wp2
    have hb3 : Below X.heap.size X (w2.alloc (.cells #[.int .i64 (sxE l x.1), .int .i64 (szE l x.1)] 32)) := Below.thru hb2 hb2.size (bl1 w2 _)
    have S1 : Hid ((KO w0.heap.size Bs X (w2.alloc (.cells #[.int .i64 (sxE l x.1), .int .i64 (szE l x.1)] 32)) ∧ Sane Bs (w2.alloc (.cells #[.int .i64 (sxE l x.1), .int .i64 (szE l x.1)] 32))) ∧ (P2 T3 (px l x.1) (pz l x.1) (w2.alloc (.cells #[.int .i64 (sxE l x.1), .int .i64 (szE l x.1)] 32)) ∧ P2 w2.heap.size (sxE l x.1) (szE l x.1) (w2.alloc (.cells #[.int .i64 (sxE l x.1), .int .i64 (szE l x.1)] 32)) ∧ Yb W.heap.size lr (w2.alloc (.cells #[.int .i64 (sxE l x.1), .int .i64 (szE l x.1)] 32))) ∧
        (Nc Bs T3 (w2.alloc (.cells #[.int .i64 (sxE l x.1), .int .i64 (szE l x.1)] 32)) ∧ Nc Bs w2.heap.size (w2.alloc (.cells #[.int .i64 (sxE l x.1), .int .i64 (szE l x.1)] 32)) ∧ Nc Bs W.heap.size (w2.alloc (.cells #[.int .i64 (sxE l x.1), .int .i64 (szE l x.1)] 32))) ∧ w0.heap.size ≤ (w2.alloc (.cells #[.int .i64 (sxE l x.1), .int .i64 (szE l x.1)] 32)).heap.size) := by
      obtain ⟨⟨p3, n3⟩, ⟨hy, hny⟩, _, hsX, hs⟩ := S0.out
      have ko := KO.of_below (B := w0.heap.size) hb3 hsX
      have s2 := (KO.of_below (B := 0) hb2 hsX).sane hsX
      exact ⟨⟨ko, ko.sane hsX⟩, ⟨p3.below hb3, P2.new _ _ _, (hb3.block _ hy.lt).trans hy⟩, ⟨n3.below hsX hb3 p3.lt, Nc.new s2 _, hny.below hsX hb3 hy.lt⟩, Nat.le_trans hs hb3.size⟩
    have J1 : Hid (J cur (w2.alloc (.cells #[.int .i64 (sxE l x.1), .int .i64 (szE l x.1)] 32))) := HJ.out _ _ _ S0.out.2.2.1 (Ch.of_below hb3)
    generalize w2.heap.size = T6 at *
    generalize w2.alloc (.cells #[.int .i64 (sxE l x.1), .int .i64 (szE l x.1)] 32) = w3 at *
    have H1 := Lib.hid h1; have H1' := Lib.hid h1'
    clear hb2 hb3 S0 c0 c1 d0 d1 h1 h1'
    gi_loopw [19] (fun i wr => ∃ k : Nat, k ≤ snE l x.1 ∧ i = .int .i64 k ∧ Hid (∃ cu, valsR cu = bpE l pre ++ eps l x.1 k ∧ cu.length ≤ pre.length * 2000 + k ∧ J cu wr) ∧ Hid ((KO w0.heap.size Bs X wr ∧ Sane Bs wr) ∧ (P2 T3 (px l x.1) (pz l x.1) wr ∧ P2 T6 (sxE l x.1) (szE l x.1) wr ∧ Yb W.heap.size lr wr) ∧ (Nc Bs T3 wr ∧ Nc Bs T6 wr ∧ Nc Bs W.heap.size wr) ∧ w0.heap.size ≤ wr.heap.size)) (fun i _ => snE l x.1 - (intOf i).toNat)
    case atStart => exact ⟨0, Nat.zero_le _, rfl, ⟨cur, by simp [eps, H1.out], by have := H1'.out; omega, J1.out⟩, S1.out⟩
    case round =>
      obtain ⟨k, hk, rfl, HC, HT⟩ := hrel
      by_cases hkt : k < snE l x.1
      · obtain ⟨cu, e1, e2, e3⟩ := HC.out
        obtain ⟨⟨ko, sa⟩, ⟨q3, q6, qy⟩, ⟨m3, m6, my⟩, hs3⟩ := HT.out
        obtain ⟨a0, a1⟩ := q3.cells
        obtain ⟨g0, g1⟩ := q6.cells
        have gy := Boxed.cell qy
        have hbd := HB.out k hkt
        have HKT := Lib.hid hkt
        have hm2 : snE l x.1 ≤ 2000 := HM.out
        have v1 := IntWalk.i64_in (k * sxE l x.1) (by omega)
        have v2 := IntWalk.i64_in (k * szE l x.1) (by omega)
        have v3 := IntWalk.i64_in (px l x.1 + k * sxE l x.1) (by omega)
        have v4 := IntWalk.i64_in (pz l x.1 + k * szE l x.1) (by omega)
        have hlen : cu.length < l.length * 2000 := by
          have := HM.out
          omega
        obtain ⟨pk, hpk⟩ : ∃ pk : Bq9 l, pk.1 = ept l x.1 k := ⟨⟨ept l x.1 k, x.1, x.2, (hit_iff x.2).2 ⟨(ept_hit htr h33 x.2 hkt).2, (ept_hit htr h33 x.2 hkt).1⟩⟩, rfl⟩
        obtain ⟨fn, tmps, assign, body, hy', hR⟩ := HY.out (n - 1) cu pk wr e3 sa hlen
        unfold encR at hy'
        rw [hpk] at hy'
        dsimp only [ept] at hy'
        have HPK := Lib.hid hpk
        clear hlen hpk
        have HR := Lib.hid hR
        have E1 := Lib.hid (And.intro e1 e2)
        clear hR ko sa q3 q6 qy m3 m6 my hs3 hbd e1 e2 e3 HC
        gi_wp2_with fail
        refine ⟨(by first | rfl | (intro h; cases h)), (round_in HR.out).mono ?_⟩
        rintro e W3 hW3
        obtain ⟨bv, rfl, H3⟩ : ∃ bv : Bool, e = .returned (.bool bv) ∧ Hid ((bv = true ∧ J (cu ++ [pk]) W3 ∧ KO W.heap.size Bs wr W3) ∨ (bv = false ∧ Jx (cu ++ [pk]) W3 ∧ KO W.heap.size Bs wr W3)) := hW3.elim (fun h => ⟨true, h.1, .inl ⟨rfl, h.2⟩⟩) (fun h => ⟨false, h.1, .inr ⟨rfl, h.2⟩⟩)
        have KO3 : Hid (KO W.heap.size Bs wr W3) := H3.out.elim (fun h => h.2.2) (fun h => h.2.2)
        have ST : Hid ((KO w0.heap.size Bs X W3 ∧ Sane Bs W3) ∧ (P2 T3 (px l x.1) (pz l x.1) W3 ∧ P2 T6 (sxE l x.1) (szE l x.1) W3 ∧ Yb W.heap.size lr W3) ∧ (Nc Bs T3 W3 ∧ Nc Bs T6 W3 ∧ Nc Bs W.heap.size W3) ∧ w0.heap.size ≤ W3.heap.size) := by
          obtain ⟨⟨ko, sa⟩, ⟨q3, q6, qy⟩, ⟨m3, m6, my⟩, hs3⟩ := HT.out
          have k3 := KO3.out
          exact ⟨⟨ko.trans (k3.mono (by omega)), k3.sane sa⟩, ⟨q3.ko m3 k3, q6.ko m6 k3, k3.boxed qy my.b my.o⟩, ⟨m3.ko k3 q3.lt, m6.ko k3 q6.lt, my.ko k3 qy.lt⟩, Nat.le_trans hs3 k3.size⟩
        clear hW3 hy' HR
        rcases H3.out with ⟨rfl, hj3, -⟩ | ⟨rfl, hx3, -⟩
        · gi_wp2
          go_roundw
          case rel => exact ⟨k + 1, by have := HKT.out; omega, by go_num, ⟨cu ++ [pk], by rw [valsR_snoc, E1.out.1, HPK.out, eps_succ, List.append_assoc], by rw [List.length_append]; have := E1.out.2; simp only [List.length_cons, List.length_nil]; omega, hj3⟩, ST.out⟩
          case measure =>
            have e9 : ((k : Int) + 1).toNat = k + 1 := by omega
            simp only [intOf, Int.toNat_natCast, e9]
            have := HKT.out
            omega
        · gi_wp2
          exact ⟨ST.out.1.1, rfl, _, hx3⟩
      · obtain rfl : k = snE l x.1 := by omega
        gi_wp2
        obtain ⟨cu, e1, e2, e3⟩ := HC.out
        obtain ⟨⟨ko, sa⟩, ⟨q3, q6, qy⟩, ⟨m3, m6, my⟩, hs3⟩ := HT.out
        refine ⟨ko, ⟨cu, e1.trans HSN.out.symm, ?_, e3⟩, ⟨qy, my⟩, hs3⟩
        rw [List.length_append]
        have := HM.out
        simp only [List.length_cons, List.length_nil]
        omega
  case done =>
    rintro D ys X hD rfl ⟨⟨cur, h1, -, h2⟩, hy, hs⟩ hK
    have hJ' := HJ.out _ _ _ h2 (ch_putObj (.deferred none) hK rfl (by omega))
    gi_wp2
    refine ⟨by simp, .inl ⟨_, _, rfl, run_takeDeferred hK, ?_⟩⟩
    exact ⟨_, results_none rfl _ _ _, ⟨_, rfl⟩, .inl ⟨cur, h1, hJ'⟩⟩
  case stop =>
    rintro D cc pre X hD ⟨rfl, cur, h⟩ hK
    have hJ' := HJX.out _ _ _ h (ch_putObj (.deferred none) hK rfl (by omega))
    gi_wp2
    refine ⟨by simp, .inl ⟨_, _, rfl, run_takeDeferred hK, ?_⟩⟩
    exact ⟨_, results_none rfl _ _ _, ⟨_, rfl⟩, .inr ⟨cur, hJ'⟩⟩
theorem pointsR_seq (Be b o c : Nat) (l : List Pt) (w0 : World) (h3 : 0 < l.length) (h12 : l.length ≤ 1000000) (hx : Bx l)
    (hd : ∀ i, i < l.length → ¬ (px l (nx l.length i) = px l i ∧ pz l (nx l.length i) = pz l i)) (htr : Tr l) (h33 : 3 ≤ l.length) (hr : Row w0 b o l) (hb : Boxed w0 Be 85 (.slice (some ⟨b, o, none⟩) l.length c)) :
    SeqX (α := Bq9 l) Try.prog 103 #[.pointer (some ⟨Be, 0, none⟩)] encR (fun k => k = Be ∨ k = b) (fun xs => valsR xs = bp l) (l.length * 2000) w0 := fun n lr Bs J Jx W hW hs hp hJ hJx hY h0 =>
  points1R n lr Bs Be b o c l h3 h12 hx hd htr h33 J Jx W hJ hJx hY ⟨hr.keep hW, (hW.block Be hb.lt).trans hb, hs, hp Be (.inl rfl), hp b (.inr rfl)⟩ h0
theorem ostR_vals {l : List Pt} {N : Nat} {xs : List (Bq9 l)} {p : Pt} (h : xs.length ≤ N) : (ost p (valsR xs)).1.length + (ost p (valsR xs)).2.2.length ≤ N := by
  have := ost_len p (valsR xs)
  rw [valsR_length] at this
  omega
set_option maxHeartbeats 8000000 in
theorem others1R (n lr : Nat) (Bs : List Nat) (Be Tp b o c : Nat) (l : List Pt) (p : Pt) (h3 : 0 < l.length) (h12 : l.length ≤ 1000) (hx : Bx l)
    (hd : ∀ i, i < l.length → ¬ (px l (nx l.length i) = px l i ∧ pz l (nx l.length i) = pz l i)) (htr : Tr l) (h33 : 3 ≤ l.length)
    (J Jx : List (Bq9 l) → World → Prop) (W : World) (hJ : Bears W.heap.size Bs J) (hJx : Bears W.heap.size Bs Jx)
    (hY : ∀ m pre x W1, J pre W1 → Sane Bs W1 → pre.length < l.length * 2000 → YieldAt Fence.wide m Try.prog lr (encR x) W1 fun e W' =>
      (e = .returned (.bool true) ∧ J (pre ++ [x]) W' ∧ KO W.heap.size Bs W1 W') ∨ (e = .returned (.bool false) ∧ Jx (pre ++ [x]) W' ∧ KO W.heap.size Bs W1 W'))
    (hE : Ed Bs Be b o c l W) (hp : P2 Tp p.1 p.2 W) (hnp : Nc Bs Tp W) (h0 : J [] W) :
    CallsIn Fence.wide n Try.prog 117 #[.func (.yield lr) #[] #[], .pointer (some ⟨Be, 0, none⟩), .pointer (some ⟨Tp, 0, none⟩)] W fun e W' => (∃ v, e = .returned v) ∧ ((∃ xs, valsR xs = oth l p ∧ J xs W') ∨ (∃ pre, Jx pre W')) := by
  obtain ⟨i0, hi, hz0, hz1, hz2⟩ := info_parts Try.info32
  obtain ⟨pa, pc⟩ := p
  dsimp only at hp
  have HJ := Lib.hid hJ; have HJX := Lib.hid hJx; have HY := Lib.hid hY; have HE := Lib.hid hE; have H0 := Lib.hid h0; have HX := Lib.hid hx; have HD := Lib.hid hd; have HP := Lib.hid (And.intro hp hnp)
  have hbe := hE.box.lt
  have hbr := hE.row.lt h3
  have htp := hp.lt
  have cb : (((W.alloc (.cells #[.func (.yield lr) #[] #[]] 114)).alloc (.cells #[.slice none 0 0] 31)).alloc (.cells #[.bool false] 4)).cell? ⟨Be, 0, none⟩ = some (.slice (some ⟨b, o, none⟩) l.length c) := ((bl3 W _ _ _).cell (p := ⟨Be, 0, none⟩) hbe).trans hE.box.cell
  clear hJ hJx hY hE h0 hx hd hp hnp
  refine callsIn_of_wp_marks Try.func117 rfl trivial ?_ rfl
  simp only [Try.ntmps117, List.size_toArray, List.length_cons, List.length_nil, Nat.reduceAdd, Nat.reduceSub, Array.replicate_succ, Array.replicate_zero, List.push_toArray, List.append_toArray, List.nil_append, List.cons_append]
  gi_wp2_with fail
  refine ⟨trivial, (fun h => by cases h), ?_⟩
  refine (callsIn_wide.2 (pointsv_any _ _ _ _)).mono ?_
  rintro e w' ⟨rfl, rfl⟩
  gi_wp2
  have hB0 : Below W.heap.size W ((((W.alloc (.cells #[.func (.yield lr) #[] #[]] 114)).alloc (.cells #[.slice none 0 0] 31)).alloc (.cells #[.bool false] 4)).alloc (.cells #[.slice (some ⟨b, o, none⟩) l.length c] 85)) := (bl3 W _ _ _).alloc (by simp; omega) _
  have hsz : ((((W.alloc (.cells #[.func (.yield lr) #[] #[]] 114)).alloc (.cells #[.slice none 0 0] 31)).alloc (.cells #[.bool false] 4)).alloc (.cells #[.slice (some ⟨b, o, none⟩) l.length c] 85)).heap.size = W.heap.size + 4 := by simp
  have hYb : Yb W.heap.size lr ((((W.alloc (.cells #[.func (.yield lr) #[] #[]] 114)).alloc (.cells #[.slice none 0 0] 31)).alloc (.cells #[.bool false] 4)).alloc (.cells #[.slice (some ⟨b, o, none⟩) l.length c] 85)) := (((Boxed.new W 114 (.func (.yield lr) #[] #[])).alloc _).alloc _).alloc _
  have h4 : Boxed ((((W.alloc (.cells #[.func (.yield lr) #[] #[]] 114)).alloc (.cells #[.slice none 0 0] 31)).alloc (.cells #[.bool false] 4)).alloc (.cells #[.slice (some ⟨b, o, none⟩) l.length c] 85)) (W.heap.size + 1) 31 (.slice none 0 0) := by
    have := Boxed.new (W.alloc (.cells #[.func (.yield lr) #[] #[]] 114)) 31 (.slice none 0 0)
    rw [World.size_alloc] at this
    exact (this.alloc _).alloc _
  have h5 : Boxed ((((W.alloc (.cells #[.func (.yield lr) #[] #[]] 114)).alloc (.cells #[.slice none 0 0] 31)).alloc (.cells #[.bool false] 4)).alloc (.cells #[.slice (some ⟨b, o, none⟩) l.length c] 85)) (W.heap.size + 1 + 1) 4 (.bool false) := by
    have := Boxed.new ((W.alloc (.cells #[.func (.yield lr) #[] #[]] 114)).alloc (.cells #[.slice none 0 0] 31)) 4 (.bool false)
    simp only [World.size_alloc] at this
    exact this.alloc _
  have hBx : Boxed ((((W.alloc (.cells #[.func (.yield lr) #[] #[]] 114)).alloc (.cells #[.slice none 0 0] 31)).alloc (.cells #[.bool false] 4)).alloc (.cells #[.slice (some ⟨b, o, none⟩) l.length c] 85)) (W.heap.size + 1 + 1 + 1) 85 (.slice (some ⟨b, o, none⟩) l.length c) := by
    have := Boxed.new (((W.alloc (.cells #[.func (.yield lr) #[] #[]] 114)).alloc (.cells #[.slice none 0 0] 31)).alloc (.cells #[.bool false] 4)) 85 (.slice (some ⟨b, o, none⟩) l.length c)
    simp only [World.size_alloc] at this
    exact this
  generalize ((((W.alloc (.cells #[.func (.yield lr) #[] #[]] 114)).alloc (.cells #[.slice none 0 0] 31)).alloc (.cells #[.bool false] 4)).alloc (.cells #[.slice (some ⟨b, o, none⟩) l.length c] 85)) = w0 at *
  have ncn : ∀ k, W.heap.size ≤ k → Nc Bs k w0 := fun k hk => by
    refine ⟨fun hm => by have := (HE.out.sane _ hm).1; omega, ?_⟩
    rintro ⟨⟨b', n', c', hb', hq⟩, _⟩
    rw [hB0.cell (p := ⟨b', 0, none⟩) (HE.out.sane _ hb').1] at hq
    have := (HE.out.sane _ hb').2 _ _ _ hq
    omega
  have E0 := HE.out.below hB0 h3
  have os0 : OS Bs W.heap.size (W.heap.size + 1) (W.heap.size + 1 + 1) W.heap.size Tp lr (pa, pc) (.slice none 0 0) [] false w0 :=
    ⟨h4, World.ownsRow_nil _ _ _ _, h5, hYb, HP.out.1.below hB0, ncn _ (by omega), ncn _ (by omega), ncn _ (by omega), HP.out.2.below HE.out.sane hB0 HP.out.1.lt, fun g hg => by cases hg⟩
  have hlow : ∀ X : World, w0.heap.size ≤ X.heap.size → ∀ b, b ∈ Bs → b < W.heap.size ∧ b < X.heap.size  := fun X hX b hb => by
    have := (HE.out.sane b hb).1
    omega
  have hno : ∀ k, ¬ ow Bs w0 k → ¬ ow ((W.heap.size + 1) :: (W.heap.size + 1 + 1) :: Bs) w0 k := fun k hk => by
    rintro ⟨⟨B, n', c', hB, hq⟩, r⟩
    simp only [List.mem_cons] at hB
    rcases hB with rfl | rfl | hB
    · rw [h4.cell] at hq; cases hq
    · rw [h5.cell] at hq; cases hq
    · exact hk ⟨⟨B, n', c', hB, hq⟩, r⟩
  have HLOW := Lib.hid hlow
  refine rangeX ((W.heap.size + 1) :: (W.heap.size + 1 + 1) :: Bs) (gf := 103) (lb := #[.pointer (some ⟨W.heap.size + 1 + 1 + 1, 0, none⟩)]) rfl (enters_of Try.func103 (by kernel_rfl) rfl)
    (pointsR_seq (W.heap.size + 1 + 1 + 1) b o c l w0 h3 (by omega) HX.out HD.out htr h33 E0.row hBx) (Below.refl _ _) (fun _ => rfl) (os0.sane (B := 0) E0.sane rfl)
    (fun k hk => by
      rcases hk with rfl | rfl
      · refine ⟨by omega, ?_, hno _ (ncn _ (by omega)).o⟩
        simp only [List.mem_cons, not_or]
        exact ⟨by omega, by omega, (ncn _ (by omega)).b⟩
      · refine ⟨E0.row.lt h3, ?_, hno _ E0.nr.2⟩
        simp only [List.mem_cons, not_or]
        exact ⟨by omega, by omega, E0.nr.1⟩)
    (fun pre X => ∃ v cur, OS Bs W.heap.size (W.heap.size + 1) (W.heap.size + 1 + 1) W.heap.size Tp lr (pa, pc) v (ost (pa, pc) (valsR pre)).1 (ost (pa, pc) (valsR pre)).2.1 X ∧ (valsR cur = (ost (pa, pc) (valsR pre)).2.2 ∧ pre.length ≤ l.length * 2000) ∧ J cur X ∧ (w0.heap.size ≤ X.heap.size ∧ Sane Bs X))
    (fun cc _ X => cc = .ret ∧ ∃ cur, Jx cur X)
    ?bI (fun cc s A C h hc => ⟨h.1, h.2.choose, HJX.out _ _ _ h.2.choose_spec (hc.sub (fun b hb => by simp [hb]) (by omega))⟩)
    ⟨_, [], os0, ⟨rfl, Nat.zero_le _⟩, HJ.out _ _ _ H0.out (Ch.of_below hB0), Nat.le_refl _, E0.sane⟩
    (fun x a' X => ∃ T6, P2 T6 x.1.1 x.1.2 X ∧ a' = { tmps := #[.func (.yield lr) #[] #[], .pointer (some ⟨Be, 0, none⟩), .pointer (some ⟨Tp, 0, none⟩), .pointer (some ⟨W.heap.size, 0, none⟩), .pointer (some ⟨W.heap.size + 1, 0, none⟩), .pointer (some ⟨W.heap.size + 1 + 1, 0, none⟩), .pointer (some ⟨T6, 0, none⟩), undef, undef, .slice (some ⟨b, o, none⟩) l.length c, .func (.func 103) #[] #[.pointer (some ⟨W.heap.size + 1 + 1 + 1, 0, none⟩)], .agg #[.int .i64 x.1.1, .int .i64 x.1.2], undef, undef, undef, undef, undef, undef, undef, undef, undef, undef, undef, undef, undef, undef, undef, undef, undef, undef, undef, undef, undef, undef, undef, undef, undef, undef, undef], defers := [] })
    (fun x a' X k q q' hl ho ho' ⟨T6, h, e⟩ => ⟨T6, h.putObj q' hl ho, e⟩) ?assign ?body ?done ?stop
  case bI =>
    rintro s A C ⟨v, cur, hO, h1, h2, hs, hsB⟩ hc
    have hcB : Ch W.heap.size Bs A C := hc.sub (fun b hb => by simp [hb]) (by omega)
    exact ⟨v, cur, hO.ch hc (fun b hb => by have := HLOW.out _ hs b hb; omega) (by omega) (by omega) (by omega) (by omega), h1, HJ.out _ _ _ h2 hcB, Nat.le_trans hs hc.size, hcB.sane (fun b hb => (HLOW.out _ hs b hb).1) hsB⟩
  case assign =>
    rintro lr' pre x X K ⟨v, cur, hO, h1, h2, hs, _⟩ hsX hK
    unfold encR
    gi_wp2
    have hb1 := bl1 X (.cells #[.int .i64 x.1.1, .int .i64 x.1.2] 32)
    have hsB : Sane Bs X := fun b hb => hsX b (by simp [hb])
    exact hK _ _ (KO.of_below hb1 hsX) ⟨v, cur, hO.below hsB hb1, h1, HJ.out _ _ _ h2 (Ch.of_below hb1), Nat.le_trans hs hb1.size, (KO.of_below (B := 0) hb1 hsB).sane hsB⟩ ⟨X.heap.size, P2.new X _ _, rfl⟩
  case body =>
    rintro lr' pre ⟨⟨xa, xz⟩, hxp⟩ a' X ⟨v, cur, hO, ⟨e1, e1'⟩, hJ0, hs, hsB⟩ hsX ⟨T6, p6, rfl⟩ hlt
    dsimp only at p6 ⊢
    have hln1 := ostR_vals (p := (pa, pc)) (xs := pre) (Nat.le_refl _)
    have HI : Hid (∀ X' v cu s1' mk' s3', ostep (pa, pc) (ost (pa, pc) (valsR pre)) (xa, xz) = (s1', mk', s3') → OS Bs W.heap.size (W.heap.size + 1) (W.heap.size + 1 + 1) W.heap.size Tp lr (pa, pc) v s1' mk' X' → valsR cu = s3' → J cu X' → (w0.heap.size ≤ X'.heap.size ∧ Sane Bs X') →
      ∃ v cur, OS Bs W.heap.size (W.heap.size + 1) (W.heap.size + 1 + 1) W.heap.size Tp lr (pa, pc) v (ost (pa, pc) (valsR (pre ++ [⟨(xa, xz), hxp⟩]))).1 (ost (pa, pc) (valsR (pre ++ [⟨(xa, xz), hxp⟩]))).2.1 X' ∧ (valsR cur = (ost (pa, pc) (valsR (pre ++ [⟨(xa, xz), hxp⟩]))).2.2 ∧ (pre ++ [(⟨(xa, xz), hxp⟩ : Bq9 l)]).length ≤ l.length * 2000) ∧ J cur X' ∧ (w0.heap.size ≤ X'.heap.size ∧ Sane Bs X')) := fun X' v cu s1' mk' s3' h1 h2 h3 h4 h5 => by
        rw [valsR_snoc, ost_snoc, h1]
        exact ⟨v, cu, h2, ⟨h3, by rw [List.length_append]; simp only [List.length_cons, List.length_nil]; omega⟩, h4, h5⟩
    generalize ost (pa, pc) (valsR pre) = st at *
    obtain ⟨s1, mk, s3⟩ := st
    dsimp only at e1 hO hln1
    have hcl : cur.length = s3.length := by rw [← valsR_length, e1]
    obtain ⟨p0, p1⟩ := p6.cells
    obtain ⟨d0, d1⟩ := hO.pp.cells
    dsimp only at d0 d1
    have c5 := hO.b5.cell
    have f5 := hO.b5.frozen
    have c4 := hO.b4.cell
    have f4 := hO.b4.frozen
    have cy := Boxed.cell hO.y
    obtain ⟨vp, vn, vc, rfl⟩ := own_form hO.own
    have hOwn := hO.own
    have HO := Lib.hid hO
    have HP6 := Lib.hid p6
    have HS := Lib.hid (And.intro (And.intro hs hsB) hsX)
    have HC := Lib.hid (And.intro e1 e1')
    have HJ0 := Lib.hid hJ0
    have hcase : ¬ xa = pa ∨ (xa = pa ∧ ¬ xz = pc) ∨ (xa = pa ∧ xz = pc) := by
      by_cases q1 : xa = pa
      · by_cases q2 : xz = pc
        · exact .inr (.inr ⟨q1, q2⟩)
        · exact .inr (.inl ⟨q1, q2⟩)
      · exact .inl q1
    have hX0 : W.heap.size + 4 ≤ X.heap.size := by omega
    have HXL := Lib.hid hX0
    have hbd : s1.length ≤ 2000000 := by omega
    have HOWN : Hid (X.ownsRow W.heap.size 32 2 (.slice vp vn vc) s1.length (cls s1)) := hOwn
    have HCL := Lib.hid (And.intro hcl hlt)
    clear hO p6 hs hsX hsB e1 e1' hJ0 hcl hlt hOwn
    rcases hcase with hne | ⟨rfl, hne⟩ | ⟨rfl, rfl⟩
    · skip
      have HNE : Hid (¬ ((xa, xz) : Pt) = (pa, pc)) := fun e => by
        cases e
        exact hne rfl
      cases mk with
      | false =>
        have HS1 : Hid (ostep (pa, pc) (s1, false, s3) (xa, xz) = (s1 ++ [(xa, xz)], false, s3)) := by show _ = _; unfold ostep; rw [if_neg HNE.out]; rfl
        gi_wp2_with (gi_at_builtin; refine wpListIn_append_own_at _ rfl (.tmp 19) (.tmp 21) 31 rfl W.heap.size 32 i0 (.agg #[.int .i64 0, .int .i64 0]) 2 16 Try.underlying31 hi hz0 hz1 hz2 rfl (by decide) _ _ _ rfl (HOWN.out.alloc _) ⟨X.heap.size, 0, none⟩ 1 1 [.int .i64 xa, .int .i64 xz] rfl rfl two_new (by simp [Value.oneCell']) (by unfold maxLen; omega) (by omega) (by simp; omega) ?_; intro v' w1 hown' hgrow hob; obtain ⟨vp', vn', vc', rfl⟩ := own_form hown'; have H9 := Lib.hid (And.intro hown' (And.intro hgrow hob)); have hb9 := ((HO.out.b4.alloc _).kept hgrow (HO.out.b4.not_row (by decide) HO.out.own)); have c9 := hb9.cell; have f9 := hb9.frozen; clear hown' hgrow hob hb9 c4)
        obtain ⟨hown', hgrow, hob⟩ := H9.out
        have hs' := HLOW.out _ HS.out.1.1
        obtain ⟨os', ch'⟩ := OS.append (B := W.heap.size) (q := (xa, xz)) HO.out HS.out.1.2 hs' (by omega) (Nat.le_refl _) (by omega) (by omega) (by omega) (by omega) (Boxed.not_row HO.out.y (by decide) HO.out.own) (fun e => by have := (own_cells HO.out.own e.symm).1; omega) (by omega) hown' hgrow hob
        refine ⟨KO.appendB (Bs := (W.heap.size + 1) :: (W.heap.size + 1 + 1) :: Bs) HO.out.b4 (by decide) (by simp) (by omega) HOWN.out hown' hgrow hob HS.out.2 (fun b' hb' => ?_), HI.out _ _ cur _ _ _ HS1.out os' HC.out.1 (HJ.out _ _ _ HJ0.out ch') ⟨Nat.le_trans HS.out.1.1 ch'.size, ch'.sane (fun b hb => (hs' b hb).1) HS.out.1.2⟩⟩
        simp only [List.mem_cons] at hb'
        rcases hb' with rfl | rfl | hb'
        · exact HO.out.b4.not_row (by decide) HO.out.own
        · exact HO.out.b5.not_row (by decide) HO.out.own
        · exact fun e => by have := (own_cells HO.out.own e.symm).1; have := (hs' _ hb').1; omega
      
      | true =>
        have HS1 : Hid (ostep (pa, pc) (s1, true, s3) (xa, xz) = (s1, true, s3 ++ [(xa, xz)])) := by show _ = _; unfold ostep; rw [if_neg HNE.out]; rfl
        obtain ⟨fn, tmps, assign, body, hy', hR⟩ := HY.out (n - 1) cur ⟨(xa, xz), hxp⟩ X HJ0.out HS.out.1.2 (by rw [HCL.out.1]; have := HCL.out.2; omega)
        unfold encR at hy'
        dsimp only at hy'
        have HR := Lib.hid hR
        clear hR
        gi_wp2_with fail
        refine ⟨(by first | rfl | (intro h; cases h)), (round_in HR.out).mono ?_⟩
        rintro e W3 hW3
        obtain ⟨bv, rfl, H3⟩ : ∃ bv : Bool, e = .returned (.bool bv) ∧ Hid ((bv = true ∧ J (cur ++ [⟨(xa, xz), hxp⟩]) W3 ∧ KO W.heap.size Bs X W3) ∨ (bv = false ∧ Jx (cur ++ [⟨(xa, xz), hxp⟩]) W3 ∧ KO W.heap.size Bs X W3)) := hW3.elim (fun h => ⟨true, h.1, .inl ⟨rfl, h.2⟩⟩) (fun h => ⟨false, h.1, .inr ⟨rfl, h.2⟩⟩)
        have KO3 : Hid (KO W.heap.size Bs X W3) := H3.out.elim (fun h => h.2.2) (fun h => h.2.2)
        have KOw : Hid (KO w0.heap.size ((W.heap.size + 1) :: (W.heap.size + 1 + 1) :: Bs) X W3) := (KO3.out.mono (by omega)).widen HO.out.b4 HO.out.own HO.out.b5 HO.out.n4 HO.out.n5
        clear hW3 hy' HR p0 p1 d0 d1 c4 c5 f4 f5 cy
        rcases H3.out with ⟨rfl, hj3, -⟩ | ⟨rfl, hx3, -⟩
        · gi_wp2
          exact ⟨KOw.out, HI.out _ _ (cur ++ [⟨(xa, xz), hxp⟩]) _ _ _ HS1.out (HO.out.ko KO3.out) (by rw [valsR_snoc, HC.out.1]) hj3 ⟨Nat.le_trans HS.out.1.1 KO3.out.size, KO3.out.sane HS.out.1.2⟩⟩
        · gi_wp2
          exact ⟨KOw.out, rfl, _, hx3⟩
    · skip
      have HNE : Hid (¬ ((xa, xz) : Pt) = (xa, pc)) := fun e => by
        cases e
        exact hne rfl
      cases mk with
      | false =>
        have HS1 : Hid (ostep (xa, pc) (s1, false, s3) (xa, xz) = (s1 ++ [(xa, xz)], false, s3)) := by show _ = _; unfold ostep; rw [if_neg HNE.out]; rfl
        gi_wp2_with (gi_at_builtin; refine wpListIn_append_own_at _ rfl (.tmp 19) (.tmp 21) 31 rfl W.heap.size 32 i0 (.agg #[.int .i64 0, .int .i64 0]) 2 16 Try.underlying31 hi hz0 hz1 hz2 rfl (by decide) _ _ _ rfl (HOWN.out.alloc _) ⟨X.heap.size, 0, none⟩ 1 1 [.int .i64 xa, .int .i64 xz] rfl rfl two_new (by simp [Value.oneCell']) (by unfold maxLen; omega) (by omega) (by simp; omega) ?_; intro v' w1 hown' hgrow hob; obtain ⟨vp', vn', vc', rfl⟩ := own_form hown'; have H9 := Lib.hid (And.intro hown' (And.intro hgrow hob)); have hb9 := ((HO.out.b4.alloc _).kept hgrow (HO.out.b4.not_row (by decide) HO.out.own)); have c9 := hb9.cell; have f9 := hb9.frozen; clear hown' hgrow hob hb9 c4)
        obtain ⟨hown', hgrow, hob⟩ := H9.out
        have hs' := HLOW.out _ HS.out.1.1
        obtain ⟨os', ch'⟩ := OS.append (B := W.heap.size) (q := (xa, xz)) HO.out HS.out.1.2 hs' (by omega) (Nat.le_refl _) (by omega) (by omega) (by omega) (by omega) (Boxed.not_row HO.out.y (by decide) HO.out.own) (fun e => by have := (own_cells HO.out.own e.symm).1; omega) (by omega) hown' hgrow hob
        refine ⟨KO.appendB (Bs := (W.heap.size + 1) :: (W.heap.size + 1 + 1) :: Bs) HO.out.b4 (by decide) (by simp) (by omega) HOWN.out hown' hgrow hob HS.out.2 (fun b' hb' => ?_), HI.out _ _ cur _ _ _ HS1.out os' HC.out.1 (HJ.out _ _ _ HJ0.out ch') ⟨Nat.le_trans HS.out.1.1 ch'.size, ch'.sane (fun b hb => (hs' b hb).1) HS.out.1.2⟩⟩
        simp only [List.mem_cons] at hb'
        rcases hb' with rfl | rfl | hb'
        · exact HO.out.b4.not_row (by decide) HO.out.own
        · exact HO.out.b5.not_row (by decide) HO.out.own
        · exact fun e => by have := (own_cells HO.out.own e.symm).1; have := (hs' _ hb').1; omega
      
      | true =>
        have HS1 : Hid (ostep (xa, pc) (s1, true, s3) (xa, xz) = (s1, true, s3 ++ [(xa, xz)])) := by show _ = _; unfold ostep; rw [if_neg HNE.out]; rfl
        obtain ⟨fn, tmps, assign, body, hy', hR⟩ := HY.out (n - 1) cur ⟨(xa, xz), hxp⟩ X HJ0.out HS.out.1.2 (by rw [HCL.out.1]; have := HCL.out.2; omega)
        unfold encR at hy'
        dsimp only at hy'
        have HR := Lib.hid hR
        clear hR
        gi_wp2_with fail
        refine ⟨(by first | rfl | (intro h; cases h)), (round_in HR.out).mono ?_⟩
        rintro e W3 hW3
        obtain ⟨bv, rfl, H3⟩ : ∃ bv : Bool, e = .returned (.bool bv) ∧ Hid ((bv = true ∧ J (cur ++ [⟨(xa, xz), hxp⟩]) W3 ∧ KO W.heap.size Bs X W3) ∨ (bv = false ∧ Jx (cur ++ [⟨(xa, xz), hxp⟩]) W3 ∧ KO W.heap.size Bs X W3)) := hW3.elim (fun h => ⟨true, h.1, .inl ⟨rfl, h.2⟩⟩) (fun h => ⟨false, h.1, .inr ⟨rfl, h.2⟩⟩)
        have KO3 : Hid (KO W.heap.size Bs X W3) := H3.out.elim (fun h => h.2.2) (fun h => h.2.2)
        have KOw : Hid (KO w0.heap.size ((W.heap.size + 1) :: (W.heap.size + 1 + 1) :: Bs) X W3) := (KO3.out.mono (by omega)).widen HO.out.b4 HO.out.own HO.out.b5 HO.out.n4 HO.out.n5
        clear hW3 hy' HR p0 p1 d0 d1 c4 c5 f4 f5 cy
        rcases H3.out with ⟨rfl, hj3, -⟩ | ⟨rfl, hx3, -⟩
        · gi_wp2
          exact ⟨KOw.out, HI.out _ _ (cur ++ [⟨(xa, xz), hxp⟩]) _ _ _ HS1.out (HO.out.ko KO3.out) (by rw [valsR_snoc, HC.out.1]) hj3 ⟨Nat.le_trans HS.out.1.1 KO3.out.size, KO3.out.sane HS.out.1.2⟩⟩
        · gi_wp2
          exact ⟨KOw.out, rfl, _, hx3⟩
    · have HS1 : Hid (ostep (xa, xz) (s1, mk, s3) (xa, xz) = (s1, true, s3)) := by show _ = _; unfold ostep; rw [if_pos rfl]
      gi_wp2
      have hs' := HLOW.out _ HS.out.1.1
      have cm : Ch W.heap.size Bs X (X.setCell ⟨W.heap.size + 1 + 1, 0, none⟩ (.bool true)) := Ch.set X _ (by omega) HO.out.n5.o
      exact ⟨KO.set (by simp) (by omega) HO.out.b5.cell (fun a n c h => by cases h), HI.out _ _ cur _ _ _ HS1.out (HO.out.mark hs' (by omega) (by omega) (by omega) (by omega) true) HC.out.1 (HJ.out _ _ _ HJ0.out cm) ⟨Nat.le_trans HS.out.1.1 cm.size, cm.sane (fun b hb => (hs' b hb).1) HS.out.1.2⟩⟩
  case done =>
    rintro D ys X hD hS ⟨v, cur, hO, ⟨e1, e1'⟩, hJ0, hs, hsB⟩ hK
    have HOT : Hid (oth l (pa, pc) = (ost (pa, pc) (valsR ys)).2.2 ++ (ost (pa, pc) (valsR ys)).1) := by show _ = _; unfold oth; rw [hS]
    have HMEM : Hid (∀ q, q ∈ (ost (pa, pc) (valsR ys)).1 → ∃ pk : Bq9 l, pk.1 = q) := fun q hq => by
      have := ost_mem _ _ q hq
      unfold valsR at this
      obtain ⟨pk, _, h⟩ := List.mem_map.1 this
      exact ⟨pk, h⟩
    have hln1 := ostR_vals (p := (pa, pc)) e1'
    clear hS
    generalize ost (pa, pc) (valsR ys) = st at *
    obtain ⟨s1, mk, s3⟩ := st
    dsimp only at hO e1 HOT HMEM hln1
    obtain ⟨vp, vc, rfl, hvp⟩ := hO.own.form2
    obtain ⟨nn, hnn⟩ : ∃ nn, nn = s1.length := ⟨_, rfl⟩
    rw [← hnn] at hO hln1
    have HNN := Lib.hid hnn
    have HVP := Lib.hid hvp
    have c4 := hO.b4.cell
    have hcl : cur.length = s3.length := by rw [← valsR_length, e1]
    have hnb : nn ≤ 2000000 := by omega
    have HLN : Hid (nn + cur.length ≤ l.length * 2000) := by show _ ≤ _; omega
    have H1 : Hid (∃ cu, valsR cu = s3 ++ s1.take 0 ∧ cu.length = cur.length + 0 ∧ J cu X) := ⟨cur, by simp [e1], rfl, hJ0⟩
    have H2 : Hid (OS Bs W.heap.size (W.heap.size + 1) (W.heap.size + 1 + 1) W.heap.size Tp lr (pa, pc) (.slice vp nn vc) s1 mk X ∧ Sane Bs X ∧ X.heap[D]? = some (.deferred (some []))) := ⟨hO, hsB, hK⟩
    clear hO e1 e1' hJ0 hs hsB hK hvp hnn hcl hln1
    gi_wp2
    gi_loopw [30, 8] (fun i _ wr => ∃ k : Nat, k ≤ nn ∧ i = .int .i64 k ∧ Hid (∃ cu, valsR cu = s3 ++ s1.take k ∧ cu.length = cur.length + k ∧ J cu wr) ∧ Hid (OS Bs W.heap.size (W.heap.size + 1) (W.heap.size + 1 + 1) W.heap.size Tp lr (pa, pc) (.slice vp nn vc) s1 mk wr ∧ Sane Bs wr ∧ wr.heap[D]? = some (.deferred (some [])))) (fun i _ _ => nn - (intOf i).toNat)
    case atStart => exact ⟨0, Nat.zero_le _, rfl, H1.out, H2.out⟩
    case round =>
      obtain ⟨k, hk, rfl, HC, HT⟩ := hrel
      clear c4
      by_cases hkt : k < nn
      · obtain ⟨cu, e1, e2, e3⟩ := HC.out
        obtain ⟨hO, hsB, hK⟩ := HT.out
        obtain ⟨g, rfl⟩ := HVP.out (fun e => by have := HNN.out; rw [e] at this; simp at this; omega)
        have hrow : Row wr g 0 s1 := by
          rcases hO.own.row with ⟨h, _⟩ | ⟨g', c', h, hr, _⟩
          · cases h
          · cases h; exact hr
        obtain ⟨ckx, ckz⟩ := hrow k (by rw [← HNN.out]; exact hkt)
        simp only [Nat.zero_add] at ckx ckz
        obtain ⟨pk, hpk⟩ := HMEM.out (px s1 k, pz s1 k) (by
          unfold px pz
          rw [List.getD_eq_getElem?_getD, List.getElem?_eq_getElem (by rw [← HNN.out]; exact hkt)]
          exact List.getElem_mem _)
        have HTK := Lib.hid (take_snoc s1 k (by rw [← HNN.out]; exact hkt))
        have HKT := Lib.hid hkt
        have hb1 := bl1 wr (.cells #[.int .i64 (px s1 k), .int .i64 (pz s1 k)] 32)
        have hsB' := (KO.of_below (B := 0) hb1 hsB).sane hsB
        obtain ⟨fn, tmps, assign, body, hy', hR⟩ := HY.out (n - 1) cu pk _ (HJ.out _ _ _ e3 (Ch.of_below hb1)) hsB' (by rw [e2]; have := HLN.out; omega)
        unfold encR at hy'
        rw [hpk] at hy'
        dsimp only at hy'
        have HPK := Lib.hid hpk
        have HR := Lib.hid hR
        have E1 := Lib.hid (And.intro e1 e2)
        have HT1 := Lib.hid (And.intro (hO.below hsB hb1) (And.intro hsB' ((hb1.block _ (Array.getElem?_eq_some_iff.1 hK).1).trans hK)))
        have cy := Boxed.cell HT1.out.1.y
        clear hR e1 e2 e3 HC hO hsB hK hrow hpk hsB' hb1
        gi_wp2_with fail
        refine ⟨(by first | rfl | (intro h; cases h)), HR.out.mono ?_⟩
        rintro e W3 hW3
        obtain ⟨bv, rfl, H3⟩ : ∃ bv : Bool, e = .returned (.bool bv) ∧ Hid ((bv = true ∧ J (cu ++ [pk]) W3 ∧ KO W.heap.size Bs (wr.alloc (.cells #[.int .i64 (px s1 k), .int .i64 (pz s1 k)] 32)) W3) ∨ (bv = false ∧ Jx (cu ++ [pk]) W3 ∧ KO W.heap.size Bs (wr.alloc (.cells #[.int .i64 (px s1 k), .int .i64 (pz s1 k)] 32)) W3)) := hW3.elim (fun h => ⟨true, h.1, .inl ⟨rfl, h.2⟩⟩) (fun h => ⟨false, h.1, .inr ⟨rfl, h.2⟩⟩)
        have KO3 : Hid (KO W.heap.size Bs (wr.alloc (.cells #[.int .i64 (px s1 k), .int .i64 (pz s1 k)] 32)) W3) := H3.out.elim (fun h => h.2.2) (fun h => h.2.2)
        have HT3 : Hid (OS Bs W.heap.size (W.heap.size + 1) (W.heap.size + 1 + 1) W.heap.size Tp lr (pa, pc) (.slice (some ⟨g, 0, none⟩) nn vc) s1 mk W3 ∧ Sane Bs W3 ∧ W3.heap[D]? = some (.deferred (some []))) :=
          ⟨HT1.out.1.ko KO3.out, KO3.out.sane HT1.out.2.1, KO3.out.objs _ _ (by omega) (fun ho => by obtain ⟨_, cur', U, u, hu⟩ := ho; rw [HT1.out.2.2] at hu; cases hu) HT1.out.2.2⟩
        clear hW3 hy' HR ckx ckz cy
        rcases H3.out with ⟨rfl, hj3, -⟩ | ⟨rfl, hx3, -⟩
        · gi_wp2
          go_roundw
          case rel => exact ⟨k + 1, by have := HKT.out; omega, by go_num, ⟨cu ++ [pk], by rw [valsR_snoc, E1.out.1, HPK.out, HTK.out, List.append_assoc], by rw [List.length_append, E1.out.2]; rfl, hj3⟩, HT3.out⟩
          case measure =>
            have e9 : ((k : Int) + 1).toNat = k + 1 := by omega
            simp only [intOf, Int.toNat_natCast, e9]
            have := HKT.out
            omega
        · have hK := HT3.out.2.2
          have hJ' := HJX.out _ _ _ hx3 (ch_putObj (.deferred none) hK rfl (by omega))
          gi_wp2
          refine ⟨by simp, .inl ⟨_, _, rfl, run_takeDeferred hK, ?_⟩⟩
          exact ⟨_, results_none rfl _ _ _, ⟨_, rfl⟩, .inr ⟨_, hJ'⟩⟩
      · obtain rfl : k = nn := by omega
        obtain ⟨cu, e1, e2, e3⟩ := HC.out
        have hK := HT.out.2.2
        have hJ' := HJ.out _ _ _ e3 (ch_putObj (.deferred none) hK rfl (by omega))
        have EE : Hid (valsR cu = oth l (pa, pc)) := by
          show _ = _
          rw [e1, HOT.out, List.take_of_length_le (by rw [HNN.out]; exact Nat.le_refl _)]
        clear e1 e2 e3
        gi_wp2
        refine ⟨by simp, .inl ⟨_, _, rfl, run_takeDeferred hK, ?_⟩⟩
        exact ⟨_, results_none rfl _ _ _, ⟨_, rfl⟩, .inl ⟨cu, EE.out, hJ'⟩⟩
  case stop =>
    rintro D cc pre X hD ⟨rfl, cur, h⟩ hK
    have hJ' := HJX.out _ _ _ h (ch_putObj (.deferred none) hK rfl (by omega))
    gi_wp2
    refine ⟨by simp, .inl ⟨_, _, rfl, run_takeDeferred hK, ?_⟩⟩
    exact ⟨_, results_none rfl _ _ _, ⟨_, rfl⟩, .inr ⟨cur, hJ'⟩⟩
theorem othersR_seq (Be Tp b o c : Nat) (l : List Pt) (p : Pt) (w0 : World) (h3 : 0 < l.length) (h12 : l.length ≤ 1000) (hx : Bx l)
    (hd : ∀ i, i < l.length → ¬ (px l (nx l.length i) = px l i ∧ pz l (nx l.length i) = pz l i)) (htr : Tr l) (h33 : 3 ≤ l.length) (hr : Row w0 b o l) (hb : Boxed w0 Be 85 (.slice (some ⟨b, o, none⟩) l.length c)) (hp : P2 Tp p.1 p.2 w0) :
    SeqX (α := Bq9 l) Try.prog 117 #[.pointer (some ⟨Be, 0, none⟩), .pointer (some ⟨Tp, 0, none⟩)] encR (fun k => k = Be ∨ k = b ∨ k = Tp) (fun xs => valsR xs = oth l p) (l.length * 2000) w0 := fun n lr Bs J Jx W hW hs hpv hJ hJx hY h0 =>
  others1R n lr Bs Be Tp b o c l p h3 h12 hx hd htr h33 J Jx W hJ hJx hY ⟨hr.keep hW, (hW.block Be hb.lt).trans hb, hs, hpv Be (.inl rfl), hpv b (.inr (.inl rfl))⟩ (hp.below hW) ⟨(hpv Tp (.inr (.inr rfl))).1, (hpv Tp (.inr (.inr rfl))).2⟩ h0
set_option maxHeartbeats 8000000 in
theorem outcomes1R (n lr : Nat) (Bs : List Nat) (Bst Tp Tt b o c : Nat) (nm : ByteArray) (l : List Pt) (dp dn gx gz : Int) (p : Pt) (t : Int) (h3 : 0 < l.length) (h12 : l.length ≤ 1000) (hx : Bx l)
    (hd : ∀ i, i < l.length → ¬ (px l (nx l.length i) = px l i ∧ pz l (nx l.length i) = pz l i)) (htr : Tr l) (h33 : 3 ≤ l.length)
    (hg1 : -100 ≤ gx ∧ gx ≤ 100) (hg2 : -100 ≤ gz ∧ gz ≤ 100) (hpb : (0 ≤ p.1 ∧ p.1 ≤ 2000) ∧ (0 ≤ p.2 ∧ p.2 ≤ 2000)) (ht : 0 ≤ t ∧ t ≤ 1000)
    (J Jx : List (Bq9 l) → World → Prop) (W : World) (hJ : Bears W.heap.size Bs J) (hJx : Bears W.heap.size Bs Jx)
    (hY : ∀ m pre x W1, J pre W1 → Sane Bs W1 → pre.length < l.length * 2000 → YieldAt Fence.wide m Try.prog lr (encR x) W1 fun e W' =>
      (e = .returned (.bool true) ∧ J (pre ++ [x]) W' ∧ KO W.heap.size Bs W1 W') ∨ (e = .returned (.bool false) ∧ Jx (pre ++ [x]) W' ∧ KO W.heap.size Bs W1 W'))
    (hs : Sane Bs W) (hst : Blk Bst #[.string nm, .slice (some ⟨b, o, none⟩) l.length c, .int .i64 dp, .int .i64 dn, .int .i64 gx, .int .i64 gz] 34 W) (hpp : P2 Tp p.1 p.2 W) (htt : Blk Tt #[.int .i64 t] 3 W) (hr : Row W b o l)
    (nst : Nc Bs Bst W) (np : Nc Bs Tp W) (nt : Nc Bs Tt W) (nr : Nc Bs b W) (h0 : J [] W) :
    CallsIn Fence.wide n Try.prog 107 #[.func (.yield lr) #[] #[], .pointer (some ⟨Bst, 0, none⟩), .pointer (some ⟨Tp, 0, none⟩), .pointer (some ⟨Tt, 0, none⟩)] W fun e W' => (∃ v, e = .returned v) ∧ ((∃ xs, valsR xs = outc l gx gz p t ∧ J xs W') ∨ (∃ pre, Jx pre W')) := by
  obtain ⟨pa, pc⟩ := p
  dsimp only at hpp hpb
  have HJ := Lib.hid hJ; have HJX := Lib.hid hJx; have HY := Lib.hid hY; have HS := Lib.hid hs; have H0 := Lib.hid h0; have HX := Lib.hid hx; have HD := Lib.hid hd
  have HP := Lib.hid (And.intro hst (And.intro hpp (And.intro htt hr)))
  have HN := Lib.hid (And.intro nst (And.intro np (And.intro nt nr)))
  have HG := Lib.hid (And.intro hg1 (And.intro hg2 (And.intro hpb ht)))
  have hlst := hst.lt
  have hlp := hpp.lt
  have hlt' := htt.lt
  have hlr := hr.lt h3
  have hn1 : Below W.heap.size W (W.alloc (.cells #[.func (.yield lr) #[] #[]] 114)) := bl1 W _
  have hn2 : Below W.heap.size W ((W.alloc (.cells #[.func (.yield lr) #[] #[]] 114)).alloc (.cells #[.slice (some ⟨b, o, none⟩) l.length c] 85)) := bl2 W _ _
  have cs1 := Blk.cell (i := 1) (hst.below hn1) rfl
  obtain ⟨cp0, cp1⟩ := (hpp.below hn2).cells
  clear hJ hJx hY hs h0 hx hd hst hpp htt hr nst np nt nr hn1 hn2 hg1 hg2 hpb ht
  refine callsIn_of_wp_marks Try.func107 rfl trivial ?_ rfl
  simp only [Try.ntmps107, List.size_toArray, List.length_cons, List.length_nil, Nat.reduceAdd, Nat.reduceSub, Array.replicate_succ, Array.replicate_zero, List.push_toArray, List.append_toArray, List.nil_append, List.cons_append]
  gi_wp2_with fail
  refine ⟨trivial, (fun h => by cases h), ?_⟩
  refine (callsIn_wide.2 (othersv_any _ _ _ _ _ _)).mono ?_
  rintro e w' ⟨rfl, rfl⟩
  gi_wp2
  have hB0 : Below W.heap.size W ((((W.alloc (.cells #[.func (.yield lr) #[] #[]] 114)).alloc (.cells #[.slice (some ⟨b, o, none⟩) l.length c] 85)).alloc (.cells #[.slice (some ⟨b, o, none⟩) l.length c] 85)).alloc (.cells #[.int .i64 pa, .int .i64 pc] 32)) := (bl3 W _ _ _).alloc (by simp; omega) _
  have hsz : ((((W.alloc (.cells #[.func (.yield lr) #[] #[]] 114)).alloc (.cells #[.slice (some ⟨b, o, none⟩) l.length c] 85)).alloc (.cells #[.slice (some ⟨b, o, none⟩) l.length c] 85)).alloc (.cells #[.int .i64 pa, .int .i64 pc] 32)).heap.size = W.heap.size + 4 := by simp
  have hYb : Yb W.heap.size lr ((((W.alloc (.cells #[.func (.yield lr) #[] #[]] 114)).alloc (.cells #[.slice (some ⟨b, o, none⟩) l.length c] 85)).alloc (.cells #[.slice (some ⟨b, o, none⟩) l.length c] 85)).alloc (.cells #[.int .i64 pa, .int .i64 pc] 32)) := (((Boxed.new W 114 (.func (.yield lr) #[] #[])).alloc _).alloc _).alloc _
  have hSh : Blk (W.heap.size + 1) #[.slice (some ⟨b, o, none⟩) l.length c] 85 ((((W.alloc (.cells #[.func (.yield lr) #[] #[]] 114)).alloc (.cells #[.slice (some ⟨b, o, none⟩) l.length c] 85)).alloc (.cells #[.slice (some ⟨b, o, none⟩) l.length c] 85)).alloc (.cells #[.int .i64 pa, .int .i64 pc] 32)) := by
    have := Blk.new (W.alloc (.cells #[.func (.yield lr) #[] #[]] 114)) #[.slice (some ⟨b, o, none⟩) l.length c] 85
    rw [World.size_alloc] at this
    exact (this.alloc _).alloc _
  have hBx : Boxed ((((W.alloc (.cells #[.func (.yield lr) #[] #[]] 114)).alloc (.cells #[.slice (some ⟨b, o, none⟩) l.length c] 85)).alloc (.cells #[.slice (some ⟨b, o, none⟩) l.length c] 85)).alloc (.cells #[.int .i64 pa, .int .i64 pc] 32)) (W.heap.size + 1 + 1) 85 (.slice (some ⟨b, o, none⟩) l.length c) := by
    have := Boxed.new ((W.alloc (.cells #[.func (.yield lr) #[] #[]] 114)).alloc (.cells #[.slice (some ⟨b, o, none⟩) l.length c] 85)) 85 (.slice (some ⟨b, o, none⟩) l.length c)
    simp only [World.size_alloc] at this
    exact this.alloc _
  have hPx : P2 (W.heap.size + 1 + 1 + 1) pa pc ((((W.alloc (.cells #[.func (.yield lr) #[] #[]] 114)).alloc (.cells #[.slice (some ⟨b, o, none⟩) l.length c] 85)).alloc (.cells #[.slice (some ⟨b, o, none⟩) l.length c] 85)).alloc (.cells #[.int .i64 pa, .int .i64 pc] 32)) := by
    have := P2.new (((W.alloc (.cells #[.func (.yield lr) #[] #[]] 114)).alloc (.cells #[.slice (some ⟨b, o, none⟩) l.length c] 85)).alloc (.cells #[.slice (some ⟨b, o, none⟩) l.length c] 85)) pa pc
    simp only [World.size_alloc] at this
    exact this
  generalize ((((W.alloc (.cells #[.func (.yield lr) #[] #[]] 114)).alloc (.cells #[.slice (some ⟨b, o, none⟩) l.length c] 85)).alloc (.cells #[.slice (some ⟨b, o, none⟩) l.length c] 85)).alloc (.cells #[.int .i64 pa, .int .i64 pc] 32)) = w0 at *
  have ncn : ∀ k, W.heap.size ≤ k → Nc Bs k w0 := fun k hk => by
    refine ⟨fun hm => by have := (HS.out _ hm).1; omega, ?_⟩
    rintro ⟨⟨b', n', c', hb', hq⟩, _⟩
    rw [hB0.cell (p := ⟨b', 0, none⟩) (HS.out _ hb').1] at hq
    have := (HS.out _ hb').2 _ _ _ hq
    omega
  have hS0 := (KO.of_below (B := 0) hB0 HS.out).sane HS.out
  have ot0 : OT Bs W.heap.size lr Bst Tp Tt b o c nm l dp dn gx gz (pa, pc) t w0 :=
    ⟨hYb, hSh, HP.out.1.below hB0, HP.out.2.1.below hB0, HP.out.2.2.1.below hB0, HP.out.2.2.2.below hB0, ncn _ (by omega), ncn _ (by omega), HN.out.1.below HS.out hB0 hlst, HN.out.2.1.below HS.out hB0 hlp, HN.out.2.2.1.below HS.out hB0 hlt', HN.out.2.2.2.below HS.out hB0 hlr⟩
  have hlow : ∀ X : World, w0.heap.size ≤ X.heap.size → ∀ b, b ∈ Bs → b < W.heap.size ∧ b < X.heap.size := fun X hX b hb => by
    have := (HS.out b hb).1
    omega
  have HLOW := Lib.hid hlow
  refine rangeX Bs (gf := 117) (lb := #[.pointer (some ⟨W.heap.size + 1 + 1, 0, none⟩), .pointer (some ⟨W.heap.size + 1 + 1 + 1, 0, none⟩)]) rfl (enters_of Try.func117 (by kernel_rfl) rfl)
    (othersR_seq (W.heap.size + 1 + 1) (W.heap.size + 1 + 1 + 1) b o c l (pa, pc) w0 h3 h12 HX.out HD.out htr h33 ot0.row hBx hPx) (Below.refl _ _) (fun _ => rfl) hS0
    (fun k hk => by
      rcases hk with rfl | rfl | rfl
      · exact ⟨by omega, (ncn _ (by omega)).b, (ncn _ (by omega)).o⟩
      · exact ⟨ot0.row.lt h3, ot0.nr.b, ot0.nr.o⟩
      · exact ⟨by omega, (ncn _ (by omega)).b, (ncn _ (by omega)).o⟩)
    (fun pre X => (∃ cur, valsR cur = (valsR pre).filter (okq l gx gz (pa, pc) t) ∧ cur.length ≤ pre.length ∧ J cur X) ∧ OT Bs W.heap.size lr Bst Tp Tt b o c nm l dp dn gx gz (pa, pc) t X ∧ w0.heap.size ≤ X.heap.size)
    (fun cc _ X => cc = .ret ∧ ∃ cur, Jx cur X)
    ?bI (fun cc s A C h hc => ⟨h.1, h.2.choose, HJX.out _ _ _ h.2.choose_spec (hc.mono (by omega))⟩)
    ⟨⟨[], rfl, Nat.zero_le _, HJ.out _ _ _ H0.out (Ch.of_below hB0)⟩, ot0, Nat.le_refl _⟩
    (fun x a' X => ∃ T6, P2 T6 x.1.1 x.1.2 X ∧ a' = { tmps := #[.func (.yield lr) #[] #[], .pointer (some ⟨Bst, 0, none⟩), .pointer (some ⟨Tp, 0, none⟩), .pointer (some ⟨Tt, 0, none⟩), .pointer (some ⟨W.heap.size, 0, none⟩), .pointer (some ⟨W.heap.size + 1, 0, none⟩), .pointer (some ⟨T6, 0, none⟩), .pointer (some ⟨Bst, 1, none⟩), .slice (some ⟨b, o, none⟩) l.length c, .slice (some ⟨b, o, none⟩) l.length c, .agg #[.int .i64 pa, .int .i64 pc], .func (.func 117) #[] #[.pointer (some ⟨W.heap.size + 1 + 1, 0, none⟩), .pointer (some ⟨W.heap.size + 1 + 1 + 1, 0, none⟩)], .agg #[.int .i64 x.1.1, .int .i64 x.1.2], undef, undef, undef, undef, undef, undef, undef, undef, undef, undef, undef, undef, undef, undef, undef, undef, undef], defers := [] })
    (fun x a' X k q q' hl ho ho' ⟨T6, h, e⟩ => ⟨T6, h.putObj q' hl ho, e⟩) ?assign ?body ?done ?stop
  case bI =>
    rintro s A C ⟨⟨cur, e1, e2, h2⟩, hO, hs⟩ hc
    exact ⟨⟨cur, e1, e2, HJ.out _ _ _ h2 (hc.mono (by omega))⟩, hO.ch hc h3 (fun b hb => by have := HLOW.out _ hs b hb; omega) (by omega) (by omega) (by omega) (by omega) (by omega), Nat.le_trans hs hc.size⟩
  case assign =>
    rintro lr' pre x X K ⟨⟨cur, e1, e2, h2⟩, hO, hs⟩ hsX hK
    unfold encR
    gi_wp2
    have hb1 := bl1 X (.cells #[.int .i64 x.1.1, .int .i64 x.1.2] 32)
    exact hK _ _ (KO.of_below hb1 hsX) ⟨⟨cur, e1, e2, HJ.out _ _ _ h2 (Ch.of_below hb1)⟩, hO.ko (KO.of_below (B := 0) hb1 hsX) h3, Nat.le_trans hs hb1.size⟩ ⟨X.heap.size, P2.new X _ _, rfl⟩
  case body =>
    rintro lr' pre ⟨⟨xa, xz⟩, hxp⟩ a' X ⟨⟨cur, e1, e2, hJ0⟩, hO, hs⟩ hsX ⟨T6, p6, rfl⟩ hlt
    dsimp only at p6 hxp ⊢
    have HI : Hid (∀ X' cu (r : Bool), okq l gx gz (pa, pc) t (xa, xz) = r → valsR cu = valsR cur ++ (if r then [(xa, xz)] else []) → cu.length ≤ cur.length + 1 → J cu X' → OT Bs W.heap.size lr Bst Tp Tt b o c nm l dp dn gx gz (pa, pc) t X' → w0.heap.size ≤ X'.heap.size →
      (∃ cur, valsR cur = (valsR (pre ++ [⟨(xa, xz), hxp⟩])).filter (okq l gx gz (pa, pc) t) ∧ cur.length ≤ (pre ++ [(⟨(xa, xz), hxp⟩ : Bq9 l)]).length ∧ J cur X') ∧ OT Bs W.heap.size lr Bst Tp Tt b o c nm l dp dn gx gz (pa, pc) t X' ∧ w0.heap.size ≤ X'.heap.size) := fun X' cu r hr hv hl hj ho hz => by
        refine ⟨⟨cu, ?_, by rw [List.length_append]; simp only [List.length_cons, List.length_nil]; omega, hj⟩, ho, hz⟩
        rw [hv, valsR_snoc, List.filter_append, e1]
        congr 1
        cases r with
        | true => rw [List.filter_cons_of_pos hr]; rfl
        | false => rw [List.filter_cons_of_neg (by simp [hr])]; rfl
    have HOK : Hid (okq l gx gz (pa, pc) t (xa, xz) = (agr gx gz pa pc xa xz t && canB l (pa, pc) (xa, xz))) := rfl
    have HA := Lib.hid (fun V => alongGrain_any nm (some ⟨b, o, none⟩) l.length c dp dn gx gz pa pc xa xz t V HG.out.1 HG.out.2.1 HG.out.2.2.1.1 HG.out.2.2.1.2 (hxp.bd HX.out).1 (hxp.bd HX.out).2 HG.out.2.2.2)
    have HCC : Hid (∀ V, Below X.heap.size X V → Calls Try.prog 76 #[.slice (some ⟨b, o, none⟩) l.length c, .agg #[.int .i64 pa, .int .i64 pc], .agg #[.int .i64 xa, .int .i64 xz]] V (PBt (CanC l pa pc xa xz) V)) := fun V hV => canCut_any b o c l pa pc xa xz V (hO.row.keep hV) h3 h12 HX.out
    have HCB := Lib.hid (canB_iff l (pa, pc) (xa, xz))
    obtain ⟨p0, p1⟩ := p6.cells
    obtain ⟨d0, d1⟩ := hO.pp.cells
    dsimp only at d0 d1
    have s0 := Blk.cell (i := 0) hO.st rfl
    have s1 := Blk.cell (i := 1) hO.st rfl
    have s2 := Blk.cell (i := 2) hO.st rfl
    have s3 := Blk.cell (i := 3) hO.st rfl
    have s4 := Blk.cell (i := 4) hO.st rfl
    have s5 := Blk.cell (i := 5) hO.st rfl
    have ct := Blk.cell (i := 0) hO.tt rfl
    have HO := Lib.hid hO
    have HP6 := Lib.hid p6
    have HSX := Lib.hid (And.intro hs hsX)
    have HJ0 := Lib.hid hJ0
    have HL := Lib.hid (And.intro e2 hlt)
    have HXP := Lib.hid hxp
    generalize agr gx gz pa pc xa xz t = ra at *
    clear hO p6 hs hsX e1 e2 hJ0 hlt
    gi_wp2_with fail
    refine ⟨trivial, (by first | rfl | (intro h; cases h)), ?_⟩
    refine (CallsIn.inRound _ (callsIn_wide.2 (HA.out _))).mono ?_
    rintro e w2 ⟨rfl, hb⟩
    have k2 := Lib.hid hb
    clear hb p0 p1 d0 d1 s0 s1 s2 s3 s4 s5 ct
    cases ra with
    | false =>
      gi_wp2
      refine ⟨trivial, ?_⟩
      gi_wp2
      refine ⟨(fun _ h => by cases h), ?_⟩
      gi_wp2
      exact ⟨KO.of_below k2.out HSX.out.2, HI.out _ cur false (by rw [HOK.out]; rfl) (by simp) (by omega) (HJ.out _ _ _ HJ0.out (Ch.of_below k2.out)) (HO.out.ko (KO.of_below (B := 0) k2.out HSX.out.2) h3) (Nat.le_trans HSX.out.1 k2.out.size)⟩
    | true =>
      have HO2 := Lib.hid (HO.out.ko (KO.of_below (B := 0) k2.out HSX.out.2) h3)
      obtain ⟨p0, p1⟩ := (HP6.out.below k2.out).cells
      obtain ⟨d0, d1⟩ := HO2.out.pp.cells
      dsimp only at d0 d1
      have c5 := Blk.cell (i := 0) HO2.out.sh rfl
      gi_wp2_with fail
      refine ⟨trivial, (by first | rfl | (intro h; cases h)), ?_⟩
      refine (CallsIn.inRound _ (callsIn_wide.2 (HCC.out _ k2.out))).mono ?_
      rintro e w3 ⟨⟨rc, rfl, hrc⟩, hb3⟩
      have k3 := Lib.hid (Below.thru k2.out k2.out.size hb3)
      have HRC := Lib.hid (hrc.trans HCB.out.symm)
      clear hb3 p0 p1 d0 d1 c5 hrc
      cases rc with
      | false =>
        gi_wp2
        refine ⟨(fun _ h => by cases h), ?_⟩
        gi_wp2
        exact ⟨KO.of_below k3.out HSX.out.2, HI.out _ cur false (by rw [HOK.out, show canB l (pa, pc) (xa, xz) = false by have := HRC.out; simpa using this]; rfl) (by simp) (by omega) (HJ.out _ _ _ HJ0.out (Ch.of_below k3.out)) (HO.out.ko (KO.of_below (B := 0) k3.out HSX.out.2) h3) (Nat.le_trans HSX.out.1 k3.out.size)⟩
      | true =>
        have KO0 := Lib.hid (KO.of_below (B := W.heap.size) k3.out HSX.out.2)
        have HO3 := Lib.hid (HO.out.ko KO0.out h3)
        have HS3 := Lib.hid (KO0.out.sane HSX.out.2)
        obtain ⟨p0, p1⟩ := (HP6.out.below k3.out).cells
        have cy := Boxed.cell HO3.out.y
        obtain ⟨fn, tmps, assign, body, hy', hR⟩ := HY.out (n - 1) cur ⟨(xa, xz), HXP.out⟩ w3 (HJ.out _ _ _ HJ0.out (Ch.of_below k3.out)) HS3.out (by have := HL.out; omega)
        unfold encR at hy'
        dsimp only at hy'
        have HR := Lib.hid hR
        clear hR
        gi_wp2_with fail
        refine ⟨(by first | rfl | (intro h; cases h)), (round_in HR.out).mono ?_⟩
        rintro e W3 hW3
        obtain ⟨bv, rfl, H3⟩ : ∃ bv : Bool, e = .returned (.bool bv) ∧ Hid ((bv = true ∧ J (cur ++ [⟨(xa, xz), hxp⟩]) W3 ∧ KO W.heap.size Bs w3 W3) ∨ (bv = false ∧ Jx (cur ++ [⟨(xa, xz), hxp⟩]) W3 ∧ KO W.heap.size Bs w3 W3)) := hW3.elim (fun h => ⟨true, h.1, .inl ⟨rfl, h.2⟩⟩) (fun h => ⟨false, h.1, .inr ⟨rfl, h.2⟩⟩)
        have KO3 : Hid (KO W.heap.size Bs w3 W3) := H3.out.elim (fun h => h.2.2) (fun h => h.2.2)
        have KOa : Hid (KO w0.heap.size Bs X W3) := ((KO0.out.trans KO3.out).mono (by omega))
        have HRT : Hid (okq l gx gz (pa, pc) t (xa, xz) = true) := by show _ = _; rw [HOK.out, show canB l (pa, pc) (xa, xz) = true by have := HRC.out; simpa using this]; rfl
        clear hW3 hy' HR p0 p1 cy
        rcases H3.out with ⟨rfl, hj3, -⟩ | ⟨rfl, hx3, -⟩
        · gi_wp2
          exact ⟨KOa.out, HI.out _ (cur ++ [⟨(xa, xz), hxp⟩]) true HRT.out (by rw [valsR_snoc]; rfl) (by rw [List.length_append]; exact Nat.le_refl _) hj3 (HO3.out.ko KO3.out h3) (Nat.le_trans (Nat.le_trans HSX.out.1 k3.out.size) KO3.out.size)⟩
        · gi_wp2
          exact ⟨KOa.out, rfl, _, hx3⟩
  case done =>
    rintro D ys X hD hS ⟨⟨cur, e1, e2, h2⟩, hO, hs⟩ hK
    have EE : Hid (valsR cur = outc l gx gz (pa, pc) t) := by
      show _ = _
      rw [e1, hS]; rfl
    have hJ' := HJ.out _ _ _ h2 (ch_putObj (.deferred none) hK rfl (by omega))
    clear e1 e2 hS h2 hO
    gi_wp2
    refine ⟨by simp, .inl ⟨_, _, rfl, run_takeDeferred hK, ?_⟩⟩
    exact ⟨_, results_none rfl _ _ _, ⟨_, rfl⟩, .inl ⟨cur, EE.out, hJ'⟩⟩
  case stop =>
    rintro D cc pre X hD ⟨rfl, cur, h⟩ hK
    have hJ' := HJX.out _ _ _ h (ch_putObj (.deferred none) hK rfl (by omega))
    gi_wp2
    refine ⟨by simp, .inl ⟨_, _, rfl, run_takeDeferred hK, ?_⟩⟩
    exact ⟨_, results_none rfl _ _ _, ⟨_, rfl⟩, .inr ⟨cur, hJ'⟩⟩
theorem outcomesR_seq (Bst Tp Tt b o c : Nat) (nm : ByteArray) (l : List Pt) (dp dn gx gz : Int) (p : Pt) (t : Int) (w0 : World) (h3 : 0 < l.length) (h12 : l.length ≤ 1000) (hx : Bx l)
    (hd : ∀ i, i < l.length → ¬ (px l (nx l.length i) = px l i ∧ pz l (nx l.length i) = pz l i)) (htr : Tr l) (h33 : 3 ≤ l.length)
    (hg1 : -100 ≤ gx ∧ gx ≤ 100) (hg2 : -100 ≤ gz ∧ gz ≤ 100) (hpb : (0 ≤ p.1 ∧ p.1 ≤ 2000) ∧ (0 ≤ p.2 ∧ p.2 ≤ 2000)) (ht : 0 ≤ t ∧ t ≤ 1000)
    (hst : Blk Bst #[.string nm, .slice (some ⟨b, o, none⟩) l.length c, .int .i64 dp, .int .i64 dn, .int .i64 gx, .int .i64 gz] 34 w0) (hpp : P2 Tp p.1 p.2 w0) (htt : Blk Tt #[.int .i64 t] 3 w0) (hr : Row w0 b o l) :
    SeqX (α := Bq9 l) Try.prog 107 #[.pointer (some ⟨Bst, 0, none⟩), .pointer (some ⟨Tp, 0, none⟩), .pointer (some ⟨Tt, 0, none⟩)] encR (fun k => k = Bst ∨ k = Tp ∨ k = Tt ∨ k = b) (fun xs => valsR xs = outc l gx gz p t) (l.length * 2000) w0 := fun n lr Bs J Jx W hW hs hpv hJ hJx hY h0 => by
  have nc : ∀ k, (k = Bst ∨ k = Tp ∨ k = Tt ∨ k = b) → Nc Bs k W := fun k hk => ⟨(hpv k hk).1, (hpv k hk).2⟩
  exact outcomes1R n lr Bs Bst Tp Tt b o c nm l dp dn gx gz p t h3 h12 hx hd htr h33 hg1 hg2 hpb ht J Jx W hJ hJx hY hs (hst.below hW) (hpp.below hW) (htt.below hW) (hr.keep hW) (nc _ (.inl rfl)) (nc _ (.inr (.inl rfl))) (nc _ (.inr (.inr (.inl rfl)))) (nc _ (.inr (.inr (.inr rfl)))) h0
end Go.Proofs.Ytljmhejljpfaiaa

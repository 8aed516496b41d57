import Derived.Test.YtljmhejljpfaiaaGreatBy
namespace Go.Proofs.YtljmhejljpfaiaaGreat
set_option maxRecDepth 100000
set_option maxRecDepth 100000
open Go.RowKit Go.Shelf

/-! Turned -/
/-- a shape laid in a way, before it is put in its place -/
def tls (k : Nat) (l : List Pt) : List Pt := if 4 ≤ k then (l.map (wayf k)).reverse else l.map (wayf k)
/-- a stone laid in a way -/
def turnS (s : SV) (k : Nat) : SV := ⟨s.nm, stl (tls k s.l), s.dp, s.dn, (wayf k (s.gx, s.gz)).1, (wayf k (s.gx, s.gz)).2⟩
def zst : Value := .agg (c6 ⟨#[]⟩ (.slice none 0 0) 0 0 0 0)
def PTu (s : SV) (way : Int) (w : World) (e : Ending) (w' : World) : Prop :=
  ((¬ Vld s ∧ e = .returned (.tuple #[zst, .int .i64 2])) ∨ (Vld s ∧ ¬ (0 ≤ way ∧ way ≤ 7) ∧ e = .returned (.tuple #[zst, .int .i64 3])) ∨
   (Vld s ∧ (0 ≤ way ∧ way ≤ 7) ∧ ∃ v, e = .returned (.tuple #[stv (turnS s way.toNat) v, .int .i64 0]) ∧ Own w' w.heap.size v (turnS s way.toNat).l)) ∧ Below w.heap.size w w'
theorem wayf_sm (k : Nat) {p : Pt} {M : Int} (h1 : -M ≤ p.1 ∧ p.1 ≤ M) (h2 : -M ≤ p.2 ∧ p.2 ≤ M) : (-M ≤ (wayf k p).1 ∧ (wayf k p).1 ≤ M) ∧ (-M ≤ (wayf k p).2 ∧ (wayf k p).2 ≤ M) := by
  unfold wayf
  split <;> (dsimp only; omega)
theorem map_length (k : Nat) (l : List Pt) : (l.map (wayf k)).length = l.length := List.length_map _
theorem tls_length (k : Nat) (l : List Pt) : (tls k l).length = l.length := by
  unfold tls
  split
  · rw [List.length_reverse, List.length_map]
  · rw [List.length_map]
theorem pmem {l : List Pt} {q : Pt} (h : q ∈ l) : ∃ i, i < l.length ∧ q = (px l i, pz l i) := by
  obtain ⟨i, hi, rfl⟩ := List.mem_iff_getElem.1 h
  refine ⟨i, hi, ?_⟩
  unfold px pz
  rw [List.getD_eq_getElem?_getD, List.getElem?_eq_getElem hi]
  rfl
theorem mem_p {l : List Pt} {i : Nat} (h : i < l.length) : (px l i, pz l i) ∈ l := by
  unfold px pz
  rw [List.getD_eq_getElem?_getD, List.getElem?_eq_getElem h]
  exact List.getElem_mem _
theorem tls_sm (k : Nat) {l : List Pt} (hx : Bx l) : ∀ i, i < (tls k l).length → Sm (px (tls k l) i) ∧ Sm (pz (tls k l) i) := fun i hi => by
  have hm : ∀ q, q ∈ tls k l → q ∈ l.map (wayf k) := fun q h => by
    unfold tls at h
    split at h
    · exact List.mem_reverse.1 h
    · exact h
  have := hm _ (mem_p hi)
  obtain ⟨q, hq, e⟩ := List.mem_map.1 this
  obtain ⟨j, hj, rfl⟩ := pmem hq
  have h := hx j hj
  have hw := wayf_sm k (p := (px l j, pz l j)) (M := 2000) (by dsimp only; omega) (by dsimp only; omega)
  have e1 := congrArg Prod.fst e
  have e2 := congrArg Prod.snd e
  dsimp only at e1 e2
  unfold Sm
  omega
theorem way_enters (k : Nat) (hk : k < 8) : ∀ args w, (callFunc (65 + k) args).run Tryz.prog w = .ok (.enter (65 + k) args) w := by
  have h8 : k = 0 ∨ k = 1 ∨ k = 2 ∨ k = 3 ∨ k = 4 ∨ k = 5 ∨ k = 6 ∨ k = 7 := by omega
  rcases h8 with rfl | rfl | rfl | rfl | rfl | rfl | rfl | rfl
  · exact enters_of Tryz.func65 (by kernel_rfl) rfl
  · exact enters_of Tryz.func66 (by kernel_rfl) rfl
  · exact enters_of Tryz.func67 (by kernel_rfl) rfl
  · exact enters_of Tryz.func68 (by kernel_rfl) rfl
  · exact enters_of Tryz.func69 (by kernel_rfl) rfl
  · exact enters_of Tryz.func70 (by kernel_rfl) rfl
  · exact enters_of Tryz.func71 (by kernel_rfl) rfl
  · exact enters_of Tryz.func72 (by kernel_rfl) rfl
set_option maxHeartbeats 8000000 in
theorem turned_any (s : SV) (v : Value) (way : Int) (w : World) (hn : s.nm.size ≤ maxLen) (h : Pts w v s.l) : Calls Tryz.prog 15 #[stv s v, .int .i64 way] w (PTu s way w) := by
  obtain ⟨i0, hi, hz0, hz1, hz2⟩ := info_parts Tryz.info37
  obtain ⟨p, c, hv⟩ : ∃ p c, v = .slice p s.l.length c := ⟨_, _, h.2.choose_spec.choose_spec.1⟩
  subst hv
  have HC := Lib.hid (fun W (k : Below w.heap.size w W) => check_any s (.slice p s.l.length c) W hn (h.keep k))
  have HPT := Lib.hid h
  obtain ⟨nm, l, dp, dn, gx, gz⟩ := s
  have HE1 : Hid (∀ W, ¬ Vld ⟨nm, l, dp, dn, gx, gz⟩ → Below w.heap.size w W → PTu ⟨nm, l, dp, dn, gx, gz⟩ way w (.returned (.tuple #[zst, .int .i64 2])) W) := fun W h k => ⟨.inl ⟨h, rfl⟩, k⟩
  have HE2 : Hid (∀ W, Vld ⟨nm, l, dp, dn, gx, gz⟩ → ¬ (0 ≤ way ∧ way ≤ 7) → Below w.heap.size w W → PTu ⟨nm, l, dp, dn, gx, gz⟩ way w (.returned (.tuple #[zst, .int .i64 3])) W) := fun W h h2 k => ⟨.inr (.inl ⟨h, h2, rfl⟩), k⟩
  have HE3 : Hid (∀ W v', Vld ⟨nm, l, dp, dn, gx, gz⟩ → (0 ≤ way ∧ way ≤ 7) → Own W w.heap.size v' (stl (tls way.toNat l)) → Below w.heap.size w W → PTu ⟨nm, l, dp, dn, gx, gz⟩ way w (.returned (.tuple #[.agg (c6 nm v' dp dn (wayf way.toNat (gx, gz)).1 (wayf way.toNat (gx, gz)).2), .int .i64 0])) W) := fun W v' h h2 ho k => ⟨.inr (.inr ⟨h, h2, v', rfl, ho⟩), k⟩
  have HIN := Lib.hid (fun W => within_any way 0 7 W)
  have HIT : Hid (inB way 0 7 = decide (0 ≤ way ∧ way ≤ 7)) := rfl
  unfold stv at *
  dsimp only at *
  clear h hn
  generalize hV : Vld ⟨nm, l, dp, dn, gx, gz⟩ = V at HC
  generalize PTu ⟨nm, l, dp, dn, gx, gz⟩ way w = PP at *
  have HVV : Hid (Vld ⟨nm, l, dp, dn, gx, gz⟩ = V) := hV
  clear hV
  have k0 := bl2 w (.cells #[.string nm, .slice p l.length c, .int .i64 dp, .int .i64 dn, .int .i64 gx, .int .i64 gz] 39) (.cells #[.string ⟨#[]⟩, .slice none 0 0, .int .i64 0, .int .i64 0, .int .i64 0, .int .i64 0] 39)
  have b1 : Blk w.heap.size (c6 nm (.slice p l.length c) dp dn gx gz) 39 ((w.alloc (.cells #[.string nm, .slice p l.length c, .int .i64 dp, .int .i64 dn, .int .i64 gx, .int .i64 gz] 39)).alloc (.cells #[.string ⟨#[]⟩, .slice none 0 0, .int .i64 0, .int .i64 0, .int .i64 0, .int .i64 0] 39)) := (Blk.new w _ 39).alloc _
  have b2 : Blk (w.heap.size + 1) (c6 ⟨#[]⟩ (.slice none 0 0) 0 0 0 0) 39 ((w.alloc (.cells #[.string nm, .slice p l.length c, .int .i64 dp, .int .i64 dn, .int .i64 gx, .int .i64 gz] 39)).alloc (.cells #[.string ⟨#[]⟩, .slice none 0 0, .int .i64 0, .int .i64 0, .int .i64 0, .int .i64 0] 39)) := by
    have := Blk.new (w.alloc (.cells #[.string nm, .slice p l.length c, .int .i64 dp, .int .i64 dn, .int .i64 gx, .int .i64 gz] 39)) (c6 ⟨#[]⟩ (.slice none 0 0) 0 0 0 0) 39
    rw [World.size_alloc] at this
    exact this
  go_enter Tryz.func15, Tryz.ntmps15
  go_wp2_with fail
  refine (HC.out _ k0).mono ?_
  rintro e w1 ⟨⟨er, rfl, hx⟩, hb1⟩
  have k1 := Below.thru k0 k0.size hb1
  replace b1 := b1.below hb1
  replace b2 := b2.below hb1
  clear hb1 k0
  rcases hx with ⟨rfl, hv⟩ | ⟨rfl, hv⟩
  · have HV := Lib.hid hv
    clear hv
    cases q : inB way 0 7 with
    | false =>
      have HQ := Lib.hid q
      rw [q] at HIN
      have z0 := b2.cell (i := 0) rfl
      have z1 := b2.cell (i := 1) rfl
      have z2 := b2.cell (i := 2) rfl
      have z3 := b2.cell (i := 3) rfl
      have z4 := b2.cell (i := 4) rfl
      have z5 := b2.cell (i := 5) rfl
      have f0 := b2.frozen 0
      have f1 := b2.frozen 1
      have f2 := b2.frozen 2
      have f3 := b2.frozen 3
      have f4 := b2.frozen 4
      have f5 := b2.frozen 5
      clear b1 b2 q
      go_wp2_with (go_at_call 17; refine (HIN.out _).mono ?_; rintro e w2 ⟨rfl, rfl⟩)
      refine bodyPost_ret (v := .tuple #[zst, .int .i64 3]) (by simp [results, Tryz.results15, go_sem, zst, z0, z1, z2, z3, z4, z5]) rfl (HE2.out _ (by rw [HVV.out]; exact HV.out) (by have := HQ.out; rw [HIT.out] at this; simpa using this) (below6 k1 (by omega) _ _ _ _ _ _))
    | true =>
      have HQ := Lib.hid q
      rw [q] at HIN
      have hway : 0 ≤ way ∧ way ≤ 7 := by have := HQ.out; rw [HIT.out] at this; simpa using this
      obtain ⟨k, rfl⟩ : ∃ k : Nat, way = (k : Int) := ⟨way.toNat, by omega⟩
      have hk : k < 8 := by omega
      have HE4 : Hid (∀ W vp vn vc, Own W w.heap.size (.slice vp vn vc) (stl (tls k l)) → Below w.heap.size w W → PP (.returned (.tuple #[.agg (c6 nm (.slice vp vn vc) dp dn (wayf k (gx, gz)).1 (wayf k (gx, gz)).2), .int .i64 0])) W) := fun W vp vn vc ho kk => by
        have := HE3.out W _ (by rw [HVV.out]; exact HV.out) hway (by simpa using ho) kk
        simpa using this
      have hvld : Vld ⟨nm, l, dp, dn, gx, gz⟩ := by rw [HVV.out]; exact HV.out
      have h3 : 3 ≤ l.length ∧ l.length ≤ 12 := hvld.2.1.1
      have hbx : Bx l := hvld.2.1.2.1
      have hgr : (-100 ≤ gx ∧ gx ≤ 100) ∧ (-100 ≤ gz ∧ gz ≤ 100) := hvld.2.2.2.2.2
      obtain ⟨b, o, c', hpe, hrow⟩ := (HPT.out.keep k1).some (by show 0 < l.length; omega)
      cases hpe
      have HL := Lib.hid (fun W => laid_any k hk W)
      have HW : Hid (∀ x z W, Sm x → Sm z → Calls Tryz.prog (65 + k) #[.agg #[.int .i64 x, .int .i64 z]] W fun e w' => e = .returned (.agg #[.int .i64 (wayf k (x, z)).1, .int .i64 (wayf k (x, z)).2]) ∧ Below W.heap.size W w') := fun x z W a b => way_any k hk x z W a b
      have hen := way_enters k hk
      have HBX := Lib.hid hbx
      have HGR := Lib.hid hgr
      have HSM := Lib.hid (tls_sm k hbx)
      have HTL := Lib.hid (tls_length k l)
      have HTD : Hid (tls k l = if 4 ≤ k then (l.map (wayf k)).reverse else l.map (wayf k)) := rfl
      have HR := Lib.hid hrow
      have HK1 := Lib.hid k1
      generalize 65 + k = f at *
      obtain ⟨n, hnn⟩ : ∃ n, n = l.length := ⟨_, rfl⟩
      have HN := Lib.hid hnn
      rw [← hnn] at h3 HTL b1
      have HB1 := Lib.hid b1
      have HB2 := Lib.hid b2
      have x1 := b1.cell (i := 1) rfl
      have hbl := hrow.lt (by omega)
      have hsl := b2.lt
      try rw [← hnn]
      clear q hway hvld hbx hgr hrow k1 b1 b2 hnn
      go_wp2_with (go_at_call 17; refine (HIN.out _).mono ?_; rintro e w2 ⟨rfl, rfl⟩)
      refine (HL.out _).mono ?_
      rintro e w2 ⟨rfl, hb2⟩
      have x1' := (HB1.out.below hb2).cell (i := 1) rfl
      have K2 := Lib.hid hb2
      have hsl2 : w1.heap.size ≤ w2.heap.size := hb2.size
      clear hb2 x1
      go_wp2_with (at_make; refine wpList_make_own _ rfl _ _ 49 rfl w2.heap.size 37 i0 (.agg #[.int .i64 0, .int .i64 0]) 2 Tryz.underlying49' hi hz0 hz1 _ _ _ n rfl rfl rfl (by rw [hz2]; omega) (by unfold maxLen; omega) (by omega) ?_; intro w4 hown hgrow; have x1 := ((HB1.out.below K2.out).below ((Below.refl _ _).grown hgrow (Nat.le_refl _) (fun r e => by cases e))).cell (i := 1) rfl; clear x1')
      have O4 : Hid (Own w4 w2.heap.size (.slice (some ⟨w2.heap.size, 0, none⟩) 0 n) ((l.take 0).map (wayf k))) := hown
      have hB4 : Below w2.heap.size w2 w4 := (Below.refl _ _).grown hgrow (Nat.le_refl _) (fun r e => by cases e)
      have K4 := Lib.hid hB4
      clear hown hgrow hB4
      go_loopw [30, 10, 8] (fun i _ v wr => ∃ k2 : Nat, k2 ≤ n ∧ i = .int .i64 k2 ∧ Hid (Own wr w2.heap.size v ((l.take k2).map (wayf k))) ∧ Hid (Below w2.heap.size w2 wr)) (fun i _ _ _ => n - (intOf i).toNat)
      case atStart => exact ⟨0, Nat.zero_le _, rfl, O4.out, K4.out⟩
      case round =>
        obtain ⟨k2, hk2, rfl, HO, HB⟩ := hrel
        clear x1
        by_cases hlt2 : k2 < n
        · have hw1 := Below.thru K2.out K2.out.size HB.out
          have hrow := HR.out.keep hw1
          obtain ⟨ckx, ckz⟩ := hrow k2 (by rw [← HN.out]; exact hlt2)
          have hbb := HBX.out k2 (by rw [← HN.out]; exact hlt2)
          have HFW := Lib.hid (fun W => HW.out (px l k2) (pz l k2) W (by unfold Sm; omega) (by unfold Sm; omega))
          have HTK : Hid ((l.take (k2 + 1)).map (wayf k) = (l.take k2).map (wayf k) ++ [wayf k (px l k2, pz l k2)]) := by
            show _ = _
            rw [take_snoc l k2 (by rw [← HN.out]; exact hlt2), List.map_append]; rfl
          have hbl2 := cell_lt ckx
          clear hrow hbb hw1
          generalize px l k2 = fx at *
          generalize pz l k2 = fz at *
          generalize wayf k (fx, fz) = wp at *
          go_wp2_with fail
          refine (HFW.out _).mono ?_
          rintro e w5 ⟨rfl, hb5⟩
          have hB5 : Below w2.heap.size wr w5 := ((Below.refl _ _).alloc HB.out.size _).trans (hb5.mono (by have := HB.out.size; simp; omega))
          have hown : w5.ownsRow w2.heap.size 37 2 u8 k2 (cls ((l.take k2).map (wayf k))) := by
            have h1 := own_of HO.out (w' := w5) (fun g cap hv ⟨cur, hg⟩ => (hb5.block g (by have := (Array.getElem?_eq_some_iff.1 hg).1; simp; omega)).trans (Below.heap_alloc _ _ _ (Array.getElem?_eq_some_iff.1 hg).1))
            rw [List.length_map, List.length_take, Nat.min_eq_left (by have := HN.out; omega)] at h1
            exact h1
          have hz5 : w2.heap.size ≤ w5.heap.size := by have := hB5.size; have := HB.out.size; omega
          clear hb5
          go_wp2_with (at_builtin; refine wpList_append_own _ rfl (.tmp 34) (.tmp 38) 49 rfl w2.heap.size 37 i0 (.agg #[.int .i64 0, .int .i64 0]) 2 16 Tryz.underlying49' hi hz0 hz1 hz2 rfl (by decide) _ _ _ rfl (hown.alloc _) ⟨w5.heap.size, 0, none⟩ 1 1 [.int .i64 wp.1, .int .i64 wp.2] rfl rfl two_new (by simp [Value.oneCell']) (by unfold maxLen; omega) (by omega) (by simp; omega) ?_; intro v' w9 hown' hgrow _)
          have hB9 : Below w2.heap.size w5 w9 := ((Below.refl _ _).alloc (by omega) _).grown hgrow (by simp; omega) (fun r e => (hown.lt r e).1)
          go_wp2
          go_roundw
          case rel =>
            refine ⟨k2 + 1, by omega, by go_num, ?_, HB.out.trans (hB5.trans hB9)⟩
            rw [HTK.out]
            show World.ownsRow _ _ _ _ _ _ _
            rw [List.length_append, List.length_map, List.length_take, Nat.min_eq_left (by have := HN.out; omega), cls_snoc]
            exact hown'
          case measure => simp [intOf]; omega
        · obtain rfl : k2 = n := by omega
          have hfull : (l.take k2).map (wayf k) = l.map (wayf k) := by rw [HN.out, List.take_length]
          have HO8 : Hid (Own wr w2.heap.size u8 (l.map (wayf k))) := by rw [← hfull]; exact HO.out
          clear hfull
          have HWR := Lib.hid (Below.thru K2.out K2.out.size HB.out)
          by_cases h4 : 4 ≤ k
          · have h4i : (4 : Int) ≤ (k : Int) := by omega
            have hv7 := HO8.out.row
            rw [List.length_map, ← HN.out] at hv7
            rcases hv7 with ⟨_, h0⟩ | ⟨g, cc, rfl, hr7, hg7, hgl⟩
            · exfalso; have h9 := congrArg List.length h0; rw [List.length_map, ← HN.out] at h9; simp at h9; omega
            · have HRV := reverse_any g cc w2.heap.size (l.map (wayf k)) wr (by rw [List.length_map, ← HN.out]; exact HO8.out) (by rw [List.length_map, ← HN.out]; omega) (by rw [List.length_map, ← HN.out]; omega)
              rw [List.length_map, ← HN.out] at HRV
              have HRV := Lib.hid HRV
              clear hr7
              go_wp2_with fail
              refine HRV.out.mono ?_
              rintro e wv ⟨⟨vv, rfl⟩, horev, hbrev⟩
              have hown8 : Own wv w2.heap.size (.slice (some ⟨g, 0, none⟩) k2 cc) (tls k l) := by rw [HTD.out, if_pos h4]; exact horev
              have HWR := Lib.hid (Below.thru K2.out K2.out.size (HB.out.trans hbrev))
              have hr8 : Row wv g 0 (tls k l) := by
                rcases hown8.row with ⟨h, _⟩ | ⟨g', c', h, hr, _⟩
                · cases h
                · cases h; exact hr
              clear hown8 horev hbrev
              have HP := Lib.hid (fun W (kk : Below wv.heap.size wv W) => put_any g 0 cc (tls k l) W (hr8.keep kk) (by rw [HTL.out]; omega) (by rw [HTL.out]; omega) HSM.out)
              rw [HTL.out] at HP
              have HWG := Lib.hid (fun W => HW.out gx gz W (by have := HGR.out; unfold Sm; omega) (by have := HGR.out; unfold Sm; omega))
              have HBS : Hid (∀ W, Below wv.heap.size wv W → Blk w.heap.size (c6 nm (.slice (some ⟨b, o, none⟩) k2 c) dp dn gx gz) 39 W ∧ Blk (w.heap.size + 1) (c6 ⟨#[]⟩ (.slice none 0 0) 0 0 0 0) 39 W) := fun W kk => ⟨(HB1.out.below (Below.thru HWR.out HWR.out.size kk)), (HB2.out.below (Below.thru HWR.out HWR.out.size kk))⟩
              have HWK : Hid (∀ W, Below wv.heap.size wv W → Below w.heap.size w W) := fun W kk => (Below.thru HK1.out HK1.out.size (HWR.out.trans (kk.mono HWR.out.size)))
              generalize (wayf k (gx, gz)).1 = ga at *
              generalize (wayf k (gx, gz)).2 = gb at *
              have q0 := HBS.out wv.drew ((Below.refl _ _).drew)
              have a4 := q0.1.cell (i := 4) rfl
              have a5 := q0.1.cell (i := 5) rfl
              have hwd : w1.heap.size ≤ wv.heap.size := HWR.out.size
              clear hr8 q0
              go_wp2_with fail
              go_region_with (first
                | (go_at_call 22; refine (HP.out _ ((Below.refl _ _).drew)).mono ?_; rintro e w6 ⟨⟨v6, rfl, ho6⟩, hb6⟩; obtain ⟨vp, vn, vc, rfl⟩ := own_form ho6; have k6 := Below.thru ((Below.refl wv.heap.size wv).drew) (Nat.le_refl _) hb6; have q6 := HBS.out _ k6; have a4' := q6.1.cell (i := 4) rfl; have a5' := q6.1.cell (i := 5) rfl; have O6 := Lib.hid ho6; clear ho6 hb6 q6)
                | (refine (HWG.out _).mono ?_; rintro e w7 ⟨rfl, hb7⟩; have k7 := Below.thru k6 k6.size hb7; have O7 := Lib.hid (own_of O6.out (fun g cap hv ⟨cur, hg⟩ => hb7.block g (Array.getElem?_eq_some_iff.1 hg).1)); have K7 := Lib.hid k7; have q7 := HBS.out _ k7; have x0 := q7.1.cell (i := 0) rfl; have x1 := q7.1.cell (i := 1) rfl; have x2 := q7.1.cell (i := 2) rfl; have x3 := q7.1.cell (i := 3) rfl; have x4 := q7.1.cell (i := 4) rfl; have x5 := q7.1.cell (i := 5) rfl; have y1 := q7.1.frozen 1; have y4 := q7.1.frozen 4; have y5 := q7.1.frozen 5; have z0 := q7.2.cell (i := 0) rfl; have z1 := q7.2.cell (i := 1) rfl; have z2 := q7.2.cell (i := 2) rfl; have z3 := q7.2.cell (i := 3) rfl; have z4 := q7.2.cell (i := 4) rfl; have z5 := q7.2.cell (i := 5) rfl; have f0 := q7.2.frozen 0; have f1 := q7.2.frozen 1; have f2 := q7.2.frozen 2; have f3 := q7.2.frozen 3; have f4 := q7.2.frozen 4; have f5 := q7.2.frozen 5; clear q7 k7 hb7 a4' a5'))
              all_goals
                go_wp2
                refine bodyPost_ret (v := .tuple #[.agg (c6 nm (.slice vp vn vc) dp dn ga gb), .int .i64 0]) (by simp [results, Tryz.results15, go_sem, z0, z1, z2, z3, z4, z5]) rfl (HE4.out _ _ _ _ ?_ ?_)
                · exact Own.base (base := w1.heap.size) ((((((Own.base (l := stl (tls k l)) (b2 := w1.heap.size) O7.out hwd).set1 (by omega) _).set1 (by omega) _).set1 (by omega) _)).far6 (by omega) _ _ _ _ _ _) (by omega)
                · exact below6 ((((HWK.out _ K7.out).setCell (Nat.le_refl _) _).setCell (Nat.le_refl _) _).setCell (Nat.le_refl _) _) (by omega) _ _ _ _ _ _
          · have h4i : ¬ ((4 : Int) ≤ (k : Int)) := by omega
            have hown8 : Own wr w2.heap.size u8 (tls k l) := by rw [HTD.out, if_neg h4]; exact HO8.out
            have hv9 := hown8.row
            rw [HTL.out] at hv9
            rcases hv9 with ⟨_, h0⟩ | ⟨g, cc, rfl, hr8, hg8, hgl⟩
            · exfalso; have := HTL.out; rw [h0] at this; simp at this; omega
            · clear hown8
              have HP := Lib.hid (fun W (kk : Below wr.heap.size wr W) => put_any g 0 cc (tls k l) W (hr8.keep kk) (by rw [HTL.out]; omega) (by rw [HTL.out]; omega) HSM.out)
              rw [HTL.out] at HP
              have HWG := Lib.hid (fun W => HW.out gx gz W (by have := HGR.out; unfold Sm; omega) (by have := HGR.out; unfold Sm; omega))
              have HBS : Hid (∀ W, Below wr.heap.size wr W → Blk w.heap.size (c6 nm (.slice (some ⟨b, o, none⟩) k2 c) dp dn gx gz) 39 W ∧ Blk (w.heap.size + 1) (c6 ⟨#[]⟩ (.slice none 0 0) 0 0 0 0) 39 W) := fun W kk => ⟨(HB1.out.below (Below.thru HWR.out HWR.out.size kk)), (HB2.out.below (Below.thru HWR.out HWR.out.size kk))⟩
              have HWK : Hid (∀ W, Below wr.heap.size wr W → Below w.heap.size w W) := fun W kk => (Below.thru HK1.out HK1.out.size (HWR.out.trans (kk.mono HWR.out.size)))
              generalize (wayf k (gx, gz)).1 = ga at *
              generalize (wayf k (gx, gz)).2 = gb at *
              have q0 := HBS.out wr.drew ((Below.refl _ _).drew)
              have a4 := q0.1.cell (i := 4) rfl
              have a5 := q0.1.cell (i := 5) rfl
              have hwd : w1.heap.size ≤ wr.heap.size := HWR.out.size
              clear hr8 q0
              go_wp2_with fail
              go_region_with (first
                | (go_at_call 22; refine (HP.out _ ((Below.refl _ _).drew)).mono ?_; rintro e w6 ⟨⟨v6, rfl, ho6⟩, hb6⟩; obtain ⟨vp, vn, vc, rfl⟩ := own_form ho6; have k6 := Below.thru ((Below.refl wr.heap.size wr).drew) (Nat.le_refl _) hb6; have q6 := HBS.out _ k6; have a4' := q6.1.cell (i := 4) rfl; have a5' := q6.1.cell (i := 5) rfl; have O6 := Lib.hid ho6; clear ho6 hb6 q6)
                | (refine (HWG.out _).mono ?_; rintro e w7 ⟨rfl, hb7⟩; have k7 := Below.thru k6 k6.size hb7; have O7 := Lib.hid (own_of O6.out (fun g cap hv ⟨cur, hg⟩ => hb7.block g (Array.getElem?_eq_some_iff.1 hg).1)); have K7 := Lib.hid k7; have q7 := HBS.out _ k7; have x0 := q7.1.cell (i := 0) rfl; have x1 := q7.1.cell (i := 1) rfl; have x2 := q7.1.cell (i := 2) rfl; have x3 := q7.1.cell (i := 3) rfl; have x4 := q7.1.cell (i := 4) rfl; have x5 := q7.1.cell (i := 5) rfl; have y1 := q7.1.frozen 1; have y4 := q7.1.frozen 4; have y5 := q7.1.frozen 5; have z0 := q7.2.cell (i := 0) rfl; have z1 := q7.2.cell (i := 1) rfl; have z2 := q7.2.cell (i := 2) rfl; have z3 := q7.2.cell (i := 3) rfl; have z4 := q7.2.cell (i := 4) rfl; have z5 := q7.2.cell (i := 5) rfl; have f0 := q7.2.frozen 0; have f1 := q7.2.frozen 1; have f2 := q7.2.frozen 2; have f3 := q7.2.frozen 3; have f4 := q7.2.frozen 4; have f5 := q7.2.frozen 5; clear q7 k7 hb7 a4' a5'))
              all_goals
                go_wp2
                refine bodyPost_ret (v := .tuple #[.agg (c6 nm (.slice vp vn vc) dp dn ga gb), .int .i64 0]) (by simp [results, Tryz.results15, go_sem, z0, z1, z2, z3, z4, z5]) rfl (HE4.out _ _ _ _ ?_ ?_)
                · exact Own.base (base := w1.heap.size) ((((((Own.base (l := stl (tls k l)) (b2 := w1.heap.size) O7.out hwd).set1 (by omega) _).set1 (by omega) _).set1 (by omega) _)).far6 (by omega) _ _ _ _ _ _) (by omega)
                · exact below6 ((((HWK.out _ K7.out).setCell (Nat.le_refl _) _).setCell (Nat.le_refl _) _).setCell (Nat.le_refl _) _) (by omega) _ _ _ _ _ _
  · have HV := Lib.hid hv
    have z0 := b2.cell (i := 0) rfl
    have z1 := b2.cell (i := 1) rfl
    have z2 := b2.cell (i := 2) rfl
    have z3 := b2.cell (i := 3) rfl
    have z4 := b2.cell (i := 4) rfl
    have z5 := b2.cell (i := 5) rfl
    have f0 := b2.frozen 0
    have f1 := b2.frozen 1
    have f2 := b2.frozen 2
    have f3 := b2.frozen 3
    have f4 := b2.frozen 4
    have f5 := b2.frozen 5
    clear hv b1 b2
    go_wp2
    refine bodyPost_ret (v := .tuple #[zst, .int .i64 2]) (by simp [results, Tryz.results15, go_sem, zst, z0, z1, z2, z3, z4, z5]) rfl (HE1.out _ (by rw [HVV.out]; exact HV.out) (below6 k1 (by omega) _ _ _ _ _ _))
end Go.Proofs.YtljmhejljpfaiaaGreat

import Derived.Test.YtljmhejljpfaiaaDb
namespace Go.Proofs.Ytljmhejljpfaiaa
set_option maxRecDepth 100000
open Go.RowKit Go.Shelf

/-! the reference's Turned -/
/-- the index whose point comes to i -/
def tix (k n i : Nat) : Nat := if 4 ≤ k then n - 1 - i else i
theorem tls_at (k : Nat) (l : List Pt) (i : Nat) (hi : i < l.length) : px (tls k l) i = (wayf k (px l (tix k l.length i), pz l (tix k l.length i))).1 ∧ pz (tls k l) i = (wayf k (px l (tix k l.length i), pz l (tix k l.length i))).2 := by
  have hm : ∀ j, j < l.length → px (l.map (wayf k)) j = (wayf k (px l j, pz l j)).1 ∧ pz (l.map (wayf k)) j = (wayf k (px l j, pz l j)).2 := fun j hj => by
    have e : (px l j, pz l j) = l[j] := by
      unfold px pz
      rw [List.getD_eq_getElem?_getD, List.getElem?_eq_getElem hj]
      rfl
    rw [e]
    unfold px pz
    rw [List.getD_eq_getElem?_getD, List.getElem?_map, List.getElem?_eq_getElem hj]
    exact ⟨rfl, rfl⟩
  unfold tls tix
  split
  · have h := px_reverse (l.map (wayf k)) i (by rw [List.length_map]; exact hi)
    rw [List.length_map] at h
    rw [h.1, h.2]
    exact hm _ (by omega)
  · exact hm i hi
set_option maxHeartbeats 8000000 in
theorem rturned_any (k : Nat) (hk : k < 8) (nm : ByteArray) (b o c : Nat) (l : List Pt) (dp dn gx gz : Int) (w : World) (hr : Row w b o l) (h3 : 0 < l.length) (h12 : l.length ≤ 1000) (hx : Bx l) (hg : (-100 ≤ gx ∧ gx ≤ 100) ∧ (-100 ≤ gz ∧ gz ≤ 100)) :
    Calls Try.prog 31 #[.agg #[.string nm, .slice (some ⟨b, o, none⟩) l.length c, .int .i64 dp, .int .i64 dn, .int .i64 gx, .int .i64 gz], .int .i64 k] w fun e w' =>
      (∃ v, e = .returned (.agg (c6 nm v dp dn (wayf k (gx, gz)).1 (wayf k (gx, gz)).2)) ∧ OwnR w' w.heap.size v (stl (tls k l))) ∧ Below w.heap.size w w' := by
  obtain ⟨i0, hi, hz0, hz1, hz2⟩ := info_parts Try.info24
  have HL := Lib.hid (fun x z W h1 h2 => rlay_any k hk x z W h1 h2)
  have HR := Lib.hid hr; have HX := Lib.hid hx; have HG := Lib.hid hg
  have HT := Lib.hid (tls_at k l)
  have HTL := Lib.hid (tls_length k l)
  have HSM := Lib.hid (tls_sm k hx)
  have HTX : Hid (∀ n i, tix k n i = if 4 ≤ k then n - 1 - i else i) := fun _ _ => rfl
  obtain ⟨n, hn⟩ : ∃ n, n = l.length := ⟨_, rfl⟩
  have HN := Lib.hid hn
  rw [← hn] at h3 h12 HT HTL ⊢
  have hbw := hr.lt (by omega)
  clear hr hx hg hn
  have k0 := bl2 w (.cells (c6 nm (.slice (some ⟨b, o, none⟩) n c) dp dn gx gz) 26) (.cells (c6 ⟨#[]⟩ (.slice none 0 0) 0 0 0 0) 26)
  have b1 : Blk w.heap.size (c6 nm (.slice (some ⟨b, o, none⟩) n c) dp dn gx gz) 26 ((w.alloc (.cells (c6 nm (.slice (some ⟨b, o, none⟩) n c) dp dn gx gz) 26)).alloc (.cells (c6 ⟨#[]⟩ (.slice none 0 0) 0 0 0 0) 26)) := (Blk.new w _ _).alloc _
  have b2 : Blk (w.heap.size + 1) (c6 ⟨#[]⟩ (.slice none 0 0) 0 0 0 0) 26 ((w.alloc (.cells (c6 nm (.slice (some ⟨b, o, none⟩) n c) dp dn gx gz) 26)).alloc (.cells (c6 ⟨#[]⟩ (.slice none 0 0) 0 0 0 0) 26)) := by
    have := Blk.new (w.alloc (.cells (c6 nm (.slice (some ⟨b, o, none⟩) n c) dp dn gx gz) 26)) (c6 ⟨#[]⟩ (.slice none 0 0) 0 0 0 0) 26
    rw [World.size_alloc] at this
    exact this
  have hsz : ((w.alloc (.cells (c6 nm (.slice (some ⟨b, o, none⟩) n c) dp dn gx gz) 26)).alloc (.cells (c6 ⟨#[]⟩ (.slice none 0 0) 0 0 0 0) 26)).heap.size = w.heap.size + 2 := by simp
  have O0 : Hid (OwnR ((w.alloc (.cells (c6 nm (.slice (some ⟨b, o, none⟩) n c) dp dn gx gz) 26)).alloc (.cells (c6 ⟨#[]⟩ (.slice none 0 0) 0 0 0 0) 26)) (w.heap.size + 2) (.slice none 0 0) ((tls k l).take 0)) := World.ownsRow_nil _ _ _ _
  go_enter Try.func31, Try.ntmps31
  go_wp2
  generalize (w.alloc (.cells (c6 nm (.slice (some ⟨b, o, none⟩) n c) dp dn gx gz) 26)).alloc (.cells (c6 ⟨#[]⟩ (.slice none 0 0) 0 0 0 0) 26) = w0 at *
  have HB : Hid (∀ W, Below (w.heap.size + 2) w0 W → Blk w.heap.size (c6 nm (.slice (some ⟨b, o, none⟩) n c) dp dn gx gz) 26 W ∧ Blk (w.heap.size + 1) (c6 ⟨#[]⟩ (.slice none 0 0) 0 0 0 0) 26 W) := fun W kk => ⟨(kk.block _ (by omega)).trans b1, (kk.block _ (by omega)).trans b2⟩
  have HW := Lib.hid (fun W (kk : Below (w.heap.size + 2) w0 W) => k0.trans (kk.mono (by omega)))
  clear b1 b2 k0
  go_loopw [6, 7, 5] (fun i _ v wr => ∃ j : Nat, j ≤ n ∧ i = .int .i64 j ∧ Hid (OwnR wr (w.heap.size + 2) v ((tls k l).take j)) ∧ Hid (Below (w.heap.size + 2) w0 wr)) (fun i _ _ _ => n - (intOf i).toNat)
  case atStart => exact ⟨0, Nat.zero_le _, rfl, O0.out, Below.refl _ _⟩
  case round =>
    obtain ⟨j, hj, rfl, HO, HBW⟩ := hrel
    have q0 := HB.out _ HBW.out
    have s1 := q0.1.cell (i := 1) rfl
    have hwr : w.heap.size + 2 ≤ wr.heap.size := by have := HBW.out.size; omega
    by_cases hlt : j < n
    · obtain ⟨ix, hix⟩ : ∃ ix, ix = tix k n j := ⟨_, rfl⟩
      have hixn : ix < n := by rw [hix, HTX.out]; split <;> omega
      have htl := HT.out j hlt
      rw [← hix] at htl
      obtain ⟨ckx, ckz⟩ := HR.out.keep (HW.out _ HBW.out) ix (by rw [← HN.out]; exact hixn)
      have hbb := HX.out ix (by rw [← HN.out]; exact hixn)
      have HLY := Lib.hid (fun W => HL.out (px l ix) (pz l ix) W (by unfold Sm; omega) (by unfold Sm; omega))
      have HTK : Hid ((tls k l).take (j + 1) = (tls k l).take j ++ [wayf k (px l ix, pz l ix)]) := by
        show _ = _
        rw [take_snoc (tls k l) j (by rw [HTL.out]; exact hlt), htl.1, htl.2]
      have hown : wr.ownsRow (w.heap.size + 2) 24 2 u5 j (cls ((tls k l).take j)) := by
        have := HO.out
        unfold OwnR at this
        rw [List.length_take, Nat.min_eq_left (by rw [HTL.out]; omega)] at this
        exact this
      have HOW := Lib.hid hown
      have hbl := cell_lt ckx
      have HIX : Hid (ix = if 4 ≤ k then n - 1 - j else j) := by show _ = _; rw [hix, HTX.out]
      clear hix htl hbb q0 hown
      generalize px l ix = fx at *
      generalize pz l ix = fz at *
      generalize wayf k (fx, fz) = wp at *
      by_cases h4 : 4 ≤ k
      · have h4i : (4 : Int) ≤ (k : Int) := by omega
        have e9 : (n : Int) - 1 - (j : Int) = (ix : Int) := by have := HIX.out; rw [if_pos h4] at this; omega
        go_wp2_with fail
        refine (HLY.out _).mono ?_
        rintro e w5 ⟨rfl, hb5⟩
        have hB5 : Below (w.heap.size + 2) wr w5 := hb5.mono hwr
        have hown := own_of HOW.out (fun g cap hv ⟨cur, hg⟩ => hb5.block g (Array.getElem?_eq_some_iff.1 hg).1)
        have hz5 : w.heap.size + 2 ≤ w5.heap.size := by have := hb5.size; omega
        have HK5 := Lib.hid (HBW.out.trans hB5)
        clear hb5 hB5 s1
        go_wp2_with (at_builtin; refine wpList_append_own _ rfl (.tmp 24) (.tmp 32) 22 rfl (w.heap.size + 2) 24 i0 (.agg #[.int .i64 0, .int .i64 0]) 2 16 Try.underlying22' hi hz0 hz1 hz2 rfl (by decide) _ _ _ rfl (hown.alloc _) ⟨w5.heap.size, 0, none⟩ 1 1 [.int .i64 wp.1, .int .i64 wp.2] rfl rfl two_new (by simp [Value.oneCell']) (by unfold maxLen; omega) (by omega) (by simp; omega) ?_; intro v' w9 hown' hgrow _)
        have hB9 : Below (w.heap.size + 2) w5 w9 := ((Below.refl _ _).alloc (by omega) _).grown hgrow (by simp; omega) (fun r e => (hown.lt r e).1)
        go_wp2
        go_roundw
        case rel =>
          refine ⟨j + 1, by omega, by go_num, ?_, HK5.out.trans hB9⟩
          rw [HTK.out]
          show World.ownsRow _ _ _ _ _ _ _
          rw [List.length_append, List.length_take, Nat.min_eq_left (by rw [HTL.out]; omega), cls_snoc]
          exact hown'
        case measure => simp [intOf]; omega
      · have h4i : ¬ (4 : Int) ≤ (k : Int) := by omega
        obtain rfl : ix = j := by have := HIX.out; rw [if_neg h4] at this; exact this
        go_wp2_with fail
        refine (HLY.out _).mono ?_
        rintro e w5 ⟨rfl, hb5⟩
        have hB5 : Below (w.heap.size + 2) wr w5 := hb5.mono hwr
        have hown := own_of HOW.out (fun g cap hv ⟨cur, hg⟩ => hb5.block g (Array.getElem?_eq_some_iff.1 hg).1)
        have hz5 : w.heap.size + 2 ≤ w5.heap.size := by have := hb5.size; omega
        have HK5 := Lib.hid (HBW.out.trans hB5)
        clear hb5 hB5 s1
        go_wp2_with (at_builtin; refine wpList_append_own _ rfl (.tmp 24) (.tmp 32) 22 rfl (w.heap.size + 2) 24 i0 (.agg #[.int .i64 0, .int .i64 0]) 2 16 Try.underlying22' hi hz0 hz1 hz2 rfl (by decide) _ _ _ rfl (hown.alloc _) ⟨w5.heap.size, 0, none⟩ 1 1 [.int .i64 wp.1, .int .i64 wp.2] rfl rfl two_new (by simp [Value.oneCell']) (by unfold maxLen; omega) (by omega) (by simp; omega) ?_; intro v' w9 hown' hgrow _)
        have hB9 : Below (w.heap.size + 2) w5 w9 := ((Below.refl _ _).alloc (by omega) _).grown hgrow (by simp; omega) (fun r e => (hown.lt r e).1)
        go_wp2
        go_roundw
        case rel =>
          refine ⟨ix + 1, by omega, by go_num, ?_, HK5.out.trans hB9⟩
          rw [HTK.out]
          show World.ownsRow _ _ _ _ _ _ _
          rw [List.length_append, List.length_take, Nat.min_eq_left (by rw [HTL.out]; omega), cls_snoc]
          exact hown'
        case measure => simp [intOf]; omega
    · obtain rfl : j = n := by omega
      have hfull : (tls k l).take j = tls k l := by rw [← HTL.out, List.take_length]
      have HO8 : Hid (OwnR wr (w.heap.size + 2) u5 (tls k l)) := by rw [← hfull]; exact HO.out
      clear hfull
      have hv9 := HO8.out.row
      rw [HTL.out] at hv9
      rcases hv9 with ⟨_, h0⟩ | ⟨g, cc, rfl, hr8, hg8, hgl⟩
      · exfalso; have := HTL.out; rw [h0] at this; simp at this; omega
      · have HP := Lib.hid (fun W (kk : Below wr.heap.size wr W) => settle_any g 0 cc (tls k l) W (hr8.keep kk) (by rw [HTL.out]; omega) (by rw [HTL.out]; omega) HSM.out)
        rw [HTL.out] at HP
        have HWG := Lib.hid (fun W => HL.out gx gz W (by have := HG.out; unfold Sm; omega) (by have := HG.out; unfold Sm; omega))
        have HBS : Hid (∀ W, Below wr.heap.size wr W → Blk w.heap.size (c6 nm (.slice (some ⟨b, o, none⟩) j c) dp dn gx gz) 26 W ∧ Blk (w.heap.size + 1) (c6 ⟨#[]⟩ (.slice none 0 0) 0 0 0 0) 26 W) := fun W kk => HB.out W (HBW.out.trans (kk.mono hwr))
        have HWK : Hid (∀ W, Below wr.heap.size wr W → Below w.heap.size w W) := fun W kk => HW.out W (HBW.out.trans (kk.mono hwr))
        generalize hga : (wayf k (gx, gz)).1 = ga at *
        generalize hgb : (wayf k (gx, gz)).2 = gb at *
        have HGA := Lib.hid (And.intro hga hgb)
        clear hga hgb
        have q1 := HBS.out wr.drew ((Below.refl _ _).drew)
        have a4 := q1.1.cell (i := 4) rfl
        have a5 := q1.1.cell (i := 5) rfl
        clear hr8 q0 q1
        go_wp2_with fail
        go_region_with (first
          | (go_at_call 71; refine (HP.out _ ((Below.refl _ _).drew)).mono ?_; rintro e w6 ⟨⟨v6, rfl, ho6⟩, hb6⟩; obtain ⟨vp, vn, vc, rfl⟩ := own_form ho6; have k6 := Below.thru ((Below.refl wr.heap.size wr).drew) (Nat.le_refl _) hb6; have q6 := HBS.out _ k6; have a4' := q6.1.cell (i := 4) rfl; have a5' := q6.1.cell (i := 5) rfl; have O6 := Lib.hid ho6; clear ho6 hb6 q6)
          | (go_at_call 70; refine (HWG.out _).mono ?_; rintro e w7 ⟨rfl, hb7⟩; have k7 := Below.thru k6 k6.size hb7; have O7 := Lib.hid (O6.out.keep hb7); have K7 := Lib.hid k7; have q7 := HBS.out _ k7; have x0 := q7.1.cell (i := 0) rfl; have x1 := q7.1.cell (i := 1) rfl; have x2 := q7.1.cell (i := 2) rfl; have x3 := q7.1.cell (i := 3) rfl; have x4 := q7.1.cell (i := 4) rfl; have x5 := q7.1.cell (i := 5) rfl; have y1 := q7.1.frozen 1; have y4 := q7.1.frozen 4; have y5 := q7.1.frozen 5; have z0 := q7.2.cell (i := 0) rfl; have z1 := q7.2.cell (i := 1) rfl; have z2 := q7.2.cell (i := 2) rfl; have z3 := q7.2.cell (i := 3) rfl; have z4 := q7.2.cell (i := 4) rfl; have z5 := q7.2.cell (i := 5) rfl; have f0 := q7.2.frozen 0; have f1 := q7.2.frozen 1; have f2 := q7.2.frozen 2; have f3 := q7.2.frozen 3; have f4 := q7.2.frozen 4; have f5 := q7.2.frozen 5; clear q7 k7 hb7 a4' a5'))
        all_goals
          go_wp2
          refine bodyPost_ret (v := .agg (c6 nm (.slice vp vn vc) dp dn ga gb)) (by simp [results, Try.results31, go_sem, z0, z1, z2, z3, z4, z5]) rfl ⟨⟨.slice vp vn vc, by rw [HGA.out.1, HGA.out.2], ?_⟩, ?_⟩
          · exact OwnR.base (base := w.heap.size + 2) ((((((OwnR.base (l := stl (tls k l)) (b2 := w.heap.size + 2) O7.out hwr).set1 (by omega) _).set1 (by omega) _).set1 (by omega) _)).far6 (by omega) _ _ _ _ _ _) (by omega)
          · exact below6 ((((HWK.out _ K7.out).setCell (Nat.le_refl _) _).setCell (Nat.le_refl _) _).setCell (Nat.le_refl _) _) (by omega) _ _ _ _ _ _
end Go.Proofs.Ytljmhejljpfaiaa

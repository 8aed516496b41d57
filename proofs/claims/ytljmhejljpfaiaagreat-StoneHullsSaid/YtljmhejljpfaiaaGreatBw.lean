import Derived.Test.YtljmhejljpfaiaaGreatBs
namespace Go.Proofs.YtljmhejljpfaiaaGreat
set_option maxRecDepth 100000
set_option maxRecDepth 100000
open Go.RowKit Go.Shelf

/-! part -/
/-- steps from one index to another one, around -/
def dist (n i e : Nat) : Nat := if i ≤ e then e - i else e + n - i
theorem nx_succ {n i : Nat} (h : i + 1 < n) : nx n i = i + 1 := Nat.mod_eq_of_lt h
theorem nx_wrap {n i : Nat} (h : i + 1 = n) : nx n i = 0 := by unfold nx; rw [h, Nat.mod_self]
theorem dist_next {n i e : Nat} (hi : i < n) (he : e < n) (h : i ≠ e) : dist n i e = dist n (nx n i) e + 1 := by
  unfold dist
  rcases Nat.lt_or_ge (i + 1) n with q | q
  · rw [nx_succ q]; split <;> split <;> omega
  · rw [nx_wrap (by omega)]; split <;> split <;> omega
theorem dist_self (n i : Nat) : dist n i i = 0 := by unfold dist; simp
theorem dist_le {n i e : Nat} (hi : i < n) (he : e < n) : dist n i e ≤ n := by unfold dist; split <;> omega
/-- the corners from the one behind i on, but q -/
def wkR (l : List Pt) (q : Pt) : Nat → Nat → List Pt
  | 0, _ => []
  | k + 1, i => (if (px l (nx l.length i), pz l (nx l.length i)) = q then [] else [(px l (nx l.length i), pz l (nx l.length i))]) ++ wkR l q k (nx l.length i)
theorem wkR_succ (l : List Pt) (q : Pt) (k i : Nat) : wkR l q (k + 1) i = (if (px l (nx l.length i), pz l (nx l.length i)) = q then [] else [(px l (nx l.length i), pz l (nx l.length i))]) ++ wkR l q k (nx l.length i) := rfl
theorem B2.under {B n : Nat} {x z : Int} {w w' : World} (h : B2 B x z w) (hb : Below n w w') (hB : B < n) : B2 B x z w' :=
  ⟨(hb.cell (p := ⟨B, _, none⟩) hB).trans h.1, (hb.cell (p := ⟨B, _, none⟩) hB).trans h.2.1, (hb.frozen (p := ⟨B, _, none⟩) hB).trans h.2.2.1, (hb.frozen (p := ⟨B, _, none⟩) hB).trans h.2.2.2⟩
theorem wkR_len (l : List Pt) (q : Pt) : ∀ k i, (wkR l q k i).length ≤ k
  | 0, _ => Nat.le_refl _
  | k + 1, i => by
    have := wkR_len l q k (nx l.length i)
    unfold wkR
    rw [List.length_append]
    split
    · simp; omega
    · simp; omega
/-- the edge of a border point -/
def eo (l : List Pt) (p : Pt) : Nat := ((List.range l.length).find? (hit l p.1 p.2)).getD 0
theorem eo_of {l : List Pt} {x z r : Int} (h : PEo l x z r) (hp : IsP l x z) : r = (eo l (x, z) : Nat) ∧ eo l (x, z) < l.length ∧ hit l x z (eo l (x, z)) = true ∧ ∀ j, j < eo l (x, z) → hit l x z j = false := by
  rcases h with ⟨i, hi, rfl, h1, h2⟩ | ⟨_, h⟩
  · have e : eo l (x, z) = i := by
      unfold eo
      rw [List.find?_range_eq_some.2 ⟨h1, by simpa using hi, fun j hj => by simp [h2 j hj]⟩]
      rfl
    rw [e]
    exact ⟨rfl, hi, h1, h2⟩
  · obtain ⟨i, hi, h1⟩ := hp
    rw [h i hi] at h1
    cases h1
def partL (l : List Pt) (p q : Pt) : List Pt := ([p] ++ wkR l q (dist l.length (eo l p) (eo l q)) (eo l p)) ++ [q]
theorem Tryz.underlying49' : Tryz.prog.underlying 49 = some (.slice 37) := by kernel_rfl
set_option maxHeartbeats 8000000 in
theorem part_any (b o c : Nat) (l : List Pt) (x1 z1 x2 z2 : Int) (w : World) (hr : Row w b o l) (h3 : 0 < l.length) (h12 : l.length ≤ 1000) (hx : Bx l) (hp : IsP l x1 z1) (hq : IsP l x2 z2) :
    Calls Tryz.prog 34 #[.slice (some ⟨b, o, none⟩) l.length c, .agg #[.int .i64 x1, .int .i64 z1], .agg #[.int .i64 x2, .int .i64 z2]] w fun e w' => (∃ v, e = .returned v ∧ Own w' w.heap.size v (partL l (x1, z1) (x2, z2))) ∧ Below w.heap.size w w' := by
  obtain ⟨i0, hi, hz0, hz1, hz2⟩ := info_parts Tryz.info37
  have HP := Lib.hid (fun W (k : Below w.heap.size w W) => edgeOf_any b o c l x1 z1 W (hr.keep k) h3 h12 hx)
  have HQ := Lib.hid (fun W (k : Below w.heap.size w W) => edgeOf_any b o c l x2 z2 W (hr.keep k) h3 h12 hx)
  have HEP := Lib.hid (fun r (h : PEo l x1 z1 r) => eo_of h hp)
  have HEQ := Lib.hid (fun r (h : PEo l x2 z2 r) => eo_of h hq)
  have HR := Lib.hid hr
  have hbw := hr.lt h3
  have HL : Hid (partL l (x1, z1) (x2, z2) = ([(x1, z1)] ++ wkR l (x2, z2) (dist l.length (eo l (x1, z1)) (eo l (x2, z2))) (eo l (x1, z1))) ++ [(x2, z2)]) := rfl
  obtain ⟨n, hn⟩ : ∃ n, n = l.length := ⟨_, rfl⟩
  have HN := Lib.hid hn
  rw [← hn] at h3 h12 HP HQ HL ⊢
  generalize eo l (x1, z1) = ep at *
  generalize eo l (x2, z2) = eq at *
  clear hr hx hp hq hn
  have s2 : B2 (w.heap.size + 1) x2 z2 (((w.alloc (.cells #[.int .i64 x1, .int .i64 z1] 37)).alloc (.cells #[.int .i64 x2, .int .i64 z2] 37)).alloc (.cells #[.int .i64 x1, .int .i64 z1] 37)) := ⟨by simp [go_sem], by simp [go_sem], by simp [go_sem], by simp [go_sem]⟩
  have s1 : B2 w.heap.size x1 z1 (((w.alloc (.cells #[.int .i64 x1, .int .i64 z1] 37)).alloc (.cells #[.int .i64 x2, .int .i64 z2] 37)).alloc (.cells #[.int .i64 x1, .int .i64 z1] 37)) := ⟨by simp [go_sem], by simp [go_sem], by simp [go_sem], by simp [go_sem]⟩
  have k0 := bl3 w (.cells #[.int .i64 x1, .int .i64 z1] 37) (.cells #[.int .i64 x2, .int .i64 z2] 37) (.cells #[.int .i64 x1, .int .i64 z1] 37)
  have o0 : Hid (Own (((w.alloc (.cells #[.int .i64 x1, .int .i64 z1] 37)).alloc (.cells #[.int .i64 x2, .int .i64 z2] 37)).alloc (.cells #[.int .i64 x1, .int .i64 z1] 37)) (w.heap.size + 1 + 1) (.slice (some ⟨w.heap.size + 1 + 1, 0, none⟩) 1 1) [(x1, z1)]) := by
    refine ⟨rfl, .inr ⟨w.heap.size + 1 + 1, 1, #[.int .i64 x1, .int .i64 z1], rfl, by omega, ?_, Nat.le_refl _, by unfold maxLen; omega, rfl, rfl⟩⟩
    have := World.alloc_heap_new ((w.alloc (.cells #[.int .i64 x1, .int .i64 z1] 37)).alloc (.cells #[.int .i64 x2, .int .i64 z2] 37)) (.cells #[.int .i64 x1, .int .i64 z1] 37)
    simpa using this
  go_enter Tryz.func34, Tryz.ntmps34
  go_wp2_with fail
  refine (HQ.out _ k0).mono ?_
  rintro e w1 ⟨⟨rq, rfl, hrq⟩, hb1⟩
  obtain ⟨rfl, heq, -⟩ := HEQ.out _ hrq
  replace s1 := s1.keep hb1
  replace s2 := s2.keep hb1
  replace o0 := Lib.hid (own_of o0.out (fun g cap hv ⟨cur, hg⟩ => hb1.block g (Array.getElem?_eq_some_iff.1 hg).1))
  replace k0 := Below.thru k0 k0.size hb1
  clear hb1 hrq
  obtain ⟨c0, c1, _, _⟩ := id s1
  go_wp2_with fail
  refine (HP.out _ k0).mono ?_
  rintro e w2 ⟨⟨rp, rfl, hrp⟩, hb2⟩
  obtain ⟨rfl, hep, -⟩ := HEP.out _ hrp
  replace s2 := s2.keep hb2
  have O0 := Lib.hid (own_of o0.out (fun g cap hv ⟨cur, hg⟩ => hb2.block g (Array.getElem?_eq_some_iff.1 hg).1))
  replace k0 := Below.thru k0 k0.size hb2
  have S2 := Lib.hid (And.intro s2 k0)
  rw [← HN.out] at hep heq
  have HB := Lib.hid (And.intro hep heq)
  clear hb2 hrp c0 c1 s1 s2 o0
  go_wp2
  go_loopw [9, 7] (fun i v wr => ∃ k : Nat, i = .int .i64 k ∧ k < n ∧ Hid (∃ cur, Own wr (w.heap.size + 1 + 1) v ([(x1, z1)] ++ cur) ∧ cur ++ wkR l (x2, z2) (dist n k eq) k = wkR l (x2, z2) (dist n ep eq) ep) ∧ Hid (B2 (w.heap.size + 1) x2 z2 wr ∧ Below w.heap.size w wr)) (fun i _ _ => dist n (intOf i).toNat eq)
  case atStart => exact ⟨ep, rfl, HB.out.1, ⟨[], O0.out, rfl⟩, S2.out⟩
  case round =>
    obtain ⟨k, rfl, hk, HC, HS⟩ := hrel
    by_cases hke : k = eq
    · subst hke
      obtain ⟨cur, ho, hcur⟩ := HC.out
      rw [dist_self] at hcur
      have hcur' : cur = wkR l (x2, z2) (dist n ep k) ep := by simpa [wkR] using hcur
      have hlen := wkR_len l (x2, z2) (dist n ep k) ep
      have hd := dist_le HB.out.1 hk
      rw [← hcur'] at hlen
      have hown : wr.ownsRow (w.heap.size + 1 + 1) 37 2 u7 (1 + cur.length) (cls ([(x1, z1)] ++ cur)) := by
        have := ho
        unfold Own at this
        rw [List.length_append] at this
        exact this
      have HF : Hid (∀ W v', W.ownsRow (w.heap.size + 1 + 1) 37 2 v' (1 + cur.length + 1) (cls ([(x1, z1)] ++ cur) ++ [.int .i64 x2, .int .i64 z2]) → Own W w.heap.size v' (partL l (x1, z1) (x2, z2))) := fun W v' h => by
        refine Own.base (base := w.heap.size + 1 + 1) ?_ (by omega)
        rw [HL.out, ← hcur']
        unfold Own
        rw [List.length_append, List.length_append, cls_snoc]
        exact h
      obtain ⟨c0, c1, _, _⟩ := HS.out.1
      have hbd : cur.length ≤ 1000 := by omega
      have hsz := HS.out.2.size
      have hsz2 := cell_lt c0
      have hB := HS.out.2
      clear hcur hcur' hlen hd ho
      go_wp2_with (at_builtin; refine wpList_append_own _ rfl (.tmp 37) (.tmp 39) 49 rfl (w.heap.size + 1 + 1) 37 i0 (.agg #[.int .i64 0, .int .i64 0]) 2 16 Tryz.underlying49' hi hz0 hz1 hz2 rfl (by decide) _ _ _ rfl (hown.alloc _) ⟨wr.heap.size, 0, none⟩ 1 1 [.int .i64 x2, .int .i64 z2] rfl rfl two_new (by simp [Value.oneCell']) (by unfold maxLen; omega) (by omega) (by simp; omega) ?_; intro v' w9 hown' hgrow _)
      have hB2 : Below w.heap.size w w9 := (hB.alloc hB.size _).grown hgrow (by simp; omega) (fun r e => by have := (hown.lt r e).1; omega)
      go_wp2
      go_ret
      exact ⟨⟨_, rfl, HF.out _ _ hown'⟩, hB2⟩
    · have hj := nx_lt hk
      have hrow := HR.out.keep HS.out.2
      obtain ⟨ckx, ckz⟩ := hrow (nx n k) (by rw [← HN.out]; exact hj)
      have HW : Hid (wkR l (x2, z2) (dist n k eq) k = (if (px l (nx n k), pz l (nx n k)) = (x2, z2) then [] else [(px l (nx n k), pz l (nx n k))]) ++ wkR l (x2, z2) (dist n (nx n k) eq) (nx n k)) := by
        show _ = _
        rw [dist_next hk HB.out.2 hke, wkR_succ, ← HN.out]
      have HD := Lib.hid (dist_next hk HB.out.2 hke)
      have HKJ := Lib.hid hj
      have HX := Lib.hid (fun W => next_any (some ⟨b, o, none⟩) n c k W hk (by omega))
      obtain ⟨cur, ho, hcur⟩ := HC.out
      have hown : wr.ownsRow (w.heap.size + 1 + 1) 37 2 u7 (1 + cur.length) (cls ([(x1, z1)] ++ cur)) := by
        have := ho
        unfold Own at this
        rw [List.length_append] at this
        exact this
      have hbd : cur.length ≤ 1000 := by
        have h1 := wkR_len l (x2, z2) (dist n ep eq) ep
        have h2 := dist_le HB.out.1 HB.out.2
        rw [← hcur, List.length_append] at h1
        omega
      have HO := Lib.hid ho
      have HCU := Lib.hid hcur
      obtain ⟨d0, d1, _, _⟩ := id HS.out.1
      have c1 := cell_regrown ckx
      have c2 := cell_regrown ckz
      have c3 := cell_regrown d0
      have c4 := cell_regrown d1
      clear hrow ho hcur d0 d1
      generalize nx n k = j at *
      generalize px l j = fx at *
      generalize pz l j = fz at *
      have hcase : ¬ x2 = fx ∨ (x2 = fx ∧ ¬ z2 = fz) ∨ (x2 = fx ∧ z2 = fz) := by
        by_cases e1 : x2 = fx
        · by_cases e2 : z2 = fz
          · exact .inr (.inr ⟨e1, e2⟩)
          · exact .inr (.inl ⟨e1, e2⟩)
        · exact .inl e1
      have HNE : Hid ((¬ x2 = fx ∨ (x2 = fx ∧ ¬ z2 = fz)) → ¬ (fx, fz) = (x2, z2)) := fun h e => by
        cases e
        rcases h with h | ⟨_, h⟩ <;> exact h rfl
      rcases hcase with h | ⟨rfl, h⟩ | ⟨rfl, rfl⟩
      · have HNE2 := Lib.hid (HNE.out (.inl h))
        go_wp2_with fail
        refine (HX.out _).mono ?_
        rintro e w' ⟨rfl, rfl⟩
        go_wp2_with fail
        refine wp_region_quiet_below (by kernel_rfl) (by kernel_rfl) ?_
        repeat (any_goals (first | go_big_quiet_step (fail) | quiet_step (fail)))
        refine wpQuiet_nil ?_
        intro _ hw'
        obtain ⟨⟨dq, osq⟩, hw''⟩ := hw'
        subst hw''
        have k2 := Below.thru HS.out.2 HS.out.2.size (below_regrown wr dq osq)
        have m2 := HS.out.1.keep (below_regrown wr dq osq)
        replace ckx := c1 dq osq
        replace ckz := c2 dq osq
        have hown2 := own_of hown (fun g cap hv ⟨cur, hg⟩ => (below_regrown wr dq osq).block g (Array.getElem?_eq_some_iff.1 hg).1)
        have ho2 := own_of HO.out (fun g cap hv ⟨cur, hg⟩ => (below_regrown wr dq osq).block g (Array.getElem?_eq_some_iff.1 hg).1)
        have HO2 := Lib.hid ho2
        have K2 := Lib.hid k2
        have M2 := Lib.hid m2
        have hlt2 := cell_lt m2.1
        have hbw2 := cell_lt ckx
        clear c1 c2 c3 c4 hown ho2 k2 m2
        generalize Sort.grow (redrawn wr dq) osq = w2 at *
        go_wp2_with (at_builtin; refine wpList_append_own _ rfl (.tmp 30) (.tmp 35) 49 rfl (w.heap.size + 1 + 1) 37 i0 (.agg #[.int .i64 0, .int .i64 0]) 2 16 Tryz.underlying49' hi hz0 hz1 hz2 rfl (by decide) _ _ _ rfl (hown2.alloc _) ⟨w2.heap.size, 0, none⟩ 1 1 [.int .i64 fx, .int .i64 fz] rfl rfl two_new (by simp [Value.oneCell']) (by unfold maxLen; omega) (by omega) (by simp; omega) ?_; intro v' w9 hown' hgrow _)
        have hBg : Below (w.heap.size + 1 + 1) w2 w9 := ((Below.refl _ _).alloc (by omega) _).grown hgrow (by simp; omega) (fun r e => (hown2.lt r e).1)
        go_wp2
        go_roundw
        case rel =>
          refine ⟨j, rfl, HKJ.out, ⟨cur ++ [(fx, fz)], ?_, ?_⟩, M2.out.under hBg (by omega), K2.out.trans (hBg.mono (by omega))⟩
          · unfold Own
            rw [← List.append_assoc, cls_snoc, List.length_append, List.length_append]
            exact hown'
          · rw [← HCU.out, HW.out, if_neg HNE2.out, List.append_assoc]
        case measure => simp only [intOf, Int.toNat_natCast]; have := HD.out; omega
      · have HNE2 := Lib.hid (HNE.out (.inr ⟨rfl, h⟩))
        have h2 : ¬ fz = z2 := fun e => h e.symm
        go_wp2_with fail
        refine (HX.out _).mono ?_
        rintro e w' ⟨rfl, rfl⟩
        go_wp2_with fail
        refine wp_region_quiet_below (by kernel_rfl) (by kernel_rfl) ?_
        repeat (any_goals (first | go_big_quiet_step (fail) | quiet_step (fail)))
        refine wpQuiet_nil ?_
        intro _ hw'
        obtain ⟨⟨dq, osq⟩, hw''⟩ := hw'
        subst hw''
        have k2 := Below.thru HS.out.2 HS.out.2.size (below_regrown wr dq osq)
        have m2 := HS.out.1.keep (below_regrown wr dq osq)
        replace ckx := c1 dq osq
        replace ckz := c2 dq osq
        have hown2 := own_of hown (fun g cap hv ⟨cur, hg⟩ => (below_regrown wr dq osq).block g (Array.getElem?_eq_some_iff.1 hg).1)
        have ho2 := own_of HO.out (fun g cap hv ⟨cur, hg⟩ => (below_regrown wr dq osq).block g (Array.getElem?_eq_some_iff.1 hg).1)
        have HO2 := Lib.hid ho2
        have K2 := Lib.hid k2
        have M2 := Lib.hid m2
        have hlt2 := cell_lt m2.1
        have hbw2 := cell_lt ckx
        clear c1 c2 c3 c4 hown ho2 k2 m2
        generalize Sort.grow (redrawn wr dq) osq = w2 at *
        go_wp2_with (at_builtin; refine wpList_append_own _ rfl (.tmp 30) (.tmp 35) 49 rfl (w.heap.size + 1 + 1) 37 i0 (.agg #[.int .i64 0, .int .i64 0]) 2 16 Tryz.underlying49' hi hz0 hz1 hz2 rfl (by decide) _ _ _ rfl (hown2.alloc _) ⟨w2.heap.size, 0, none⟩ 1 1 [.int .i64 x2, .int .i64 fz] rfl rfl two_new (by simp [Value.oneCell']) (by unfold maxLen; omega) (by omega) (by simp; omega) ?_; intro v' w9 hown' hgrow _)
        have hBg : Below (w.heap.size + 1 + 1) w2 w9 := ((Below.refl _ _).alloc (by omega) _).grown hgrow (by simp; omega) (fun r e => (hown2.lt r e).1)
        go_wp2
        go_roundw
        case rel =>
          refine ⟨j, rfl, HKJ.out, ⟨cur ++ [(x2, fz)], ?_, ?_⟩, M2.out.under hBg (by omega), K2.out.trans (hBg.mono (by omega))⟩
          · unfold Own
            rw [← List.append_assoc, cls_snoc, List.length_append, List.length_append]
            exact hown'
          · rw [← HCU.out, HW.out, if_neg HNE2.out, List.append_assoc]
        case measure => simp only [intOf, Int.toNat_natCast]; have := HD.out; omega
      · clear ckx ckz
        go_wp2_with fail
        refine (HX.out _).mono ?_
        rintro e w' ⟨rfl, rfl⟩
        go_wp2_with fail
        refine wp_region_quiet_below (by kernel_rfl) (by kernel_rfl) ?_
        repeat (any_goals (first | go_big_quiet_step (fail) | quiet_step (fail)))
        refine wpQuiet_nil ?_
        intro _ hw'
        obtain ⟨⟨dq, osq⟩, hw''⟩ := hw'
        subst hw''
        have k2 := Below.thru HS.out.2 HS.out.2.size (below_regrown wr dq osq)
        have m2 := HS.out.1.keep (below_regrown wr dq osq)
        replace ckx := c1 dq osq
        replace ckz := c2 dq osq
        have ho2 := own_of HO.out (fun g cap hv ⟨cur, hg⟩ => (below_regrown wr dq osq).block g (Array.getElem?_eq_some_iff.1 hg).1)
        have HO2 := Lib.hid ho2
        have K2 := Lib.hid k2
        have M2 := Lib.hid m2
        clear c1 c2 c3 c4 hown ho2 k2 m2
        generalize Sort.grow (redrawn wr dq) osq = w2 at *
        go_wp2
        go_roundw
        case rel =>
          refine ⟨j, rfl, HKJ.out, ⟨cur, HO2.out, ?_⟩, M2.out, K2.out⟩
          rw [← HCU.out, HW.out]; simp
        case measure => simp only [intOf, Int.toNat_natCast]; have := HD.out; omega
end Go.Proofs.YtljmhejljpfaiaaGreat
namespace Go.Proofs.YtljmhejljpfaiaaGreat
set_option maxRecDepth 100000
set_option maxRecDepth 100000
open Go.RowKit Go.Shelf

/-! put: what it comes to -/
/-- the least of a number and the first k X -/
def lfR (l : List Pt) (x0 : Int) : Nat → Int
  | 0 => x0
  | k + 1 => if px l k < lfR l x0 k then px l k else lfR l x0 k
theorem lfR_le (l : List Pt) (x0 : Int) : ∀ k, lfR l x0 k ≤ x0 ∧ (∀ j, j < k → lfR l x0 k ≤ px l j) ∧ (lfR l x0 k = x0 ∨ ∃ j, j < k ∧ lfR l x0 k = px l j)
  | 0 => ⟨Int.le_refl _, fun j h => absurd h (by omega), .inl rfl⟩
  | k + 1 => by
    obtain ⟨h1, h2, h3⟩ := lfR_le l x0 k
    unfold lfR
    split
    · refine ⟨by omega, fun j hj => ?_, .inr ⟨k, by omega, rfl⟩⟩
      rcases Nat.lt_or_ge j k with q | q
      · have := h2 j q; omega
      · obtain rfl : j = k := by omega
        exact Int.le_refl _
    · refine ⟨h1, fun j hj => ?_, h3.imp id fun ⟨j, hj, e⟩ => ⟨j, by omega, e⟩⟩
      rcases Nat.lt_or_ge j k with q | q
      · exact h2 j q
      · obtain rfl : j = k := by omega
        omega
theorem mnx_le (l : List Pt) : ∀ k, mnx l k ≤ px l 0 ∧ (∀ j, j < k → mnx l k ≤ px l j) ∧ (mnx l k = px l 0 ∨ ∃ j, j < k ∧ mnx l k = px l j)
  | 0 => ⟨Int.le_refl _, fun j h => absurd h (by omega), .inl rfl⟩
  | k + 1 => by
    obtain ⟨h1, h2, h3⟩ := mnx_le l k
    unfold mnx
    split
    · refine ⟨by omega, fun j hj => ?_, .inr ⟨k, by omega, rfl⟩⟩
      rcases Nat.lt_or_ge j k with q | q
      · have := h2 j q; omega
      · obtain rfl : j = k := by omega
        exact Int.le_refl _
    · refine ⟨h1, fun j hj => ?_, h3.imp id fun ⟨j, hj, e⟩ => ⟨j, by omega, e⟩⟩
      rcases Nat.lt_or_ge j k with q | q
      · exact h2 j q
      · obtain rfl : j = k := by omega
        omega
theorem lfR_mnx (l : List Pt) (i n : Nat) (hi : i < n) : lfR l (px l i) n = mnx l n := by
  obtain ⟨a1, a2, a3⟩ := lfR_le l (px l i) n
  obtain ⟨b1, b2, b3⟩ := mnx_le l n
  have h1 : mnx l n ≤ lfR l (px l i) n := by
    rcases a3 with e | ⟨j, hj, e⟩
    · rw [e]; exact b2 i hi
    · rw [e]; exact b2 j hj
  have h2 : lfR l (px l i) n ≤ mnx l n := by
    rcases b3 with e | ⟨j, hj, e⟩
    · rw [e]; exact a2 0 (by omega)
    · rw [e]; exact a2 j hj
  omega
/-- comes before, by Z, then by X -/
def Lx (l : List Pt) (i j : Nat) : Prop := pz l i < pz l j ∨ (pz l i = pz l j ∧ px l i < px l j)
theorem fst_least (l : List Pt) : ∀ k, (∀ j, j < k → ¬ Lx l j (fst l k)) ∧ (∀ j, j < fst l k → Lx l (fst l k) j) ∧ (0 < k → fst l k < k)
  | 0 => ⟨fun j h => absurd h (by omega), fun j h => absurd h (by unfold fst; omega), fun h => absurd h (by omega)⟩
  | k + 1 => by
    obtain ⟨h1, h2, h3⟩ := fst_least l k
    unfold fst
    split
    · rename_i hlt
      have hlt' : Lx l k (fst l k) := hlt
      refine ⟨fun j hj hc => ?_, fun j hj => ?_, fun _ => by omega⟩
      · rcases Nat.lt_or_ge j k with q | q
        · have := h1 j q
          unfold Lx at *; omega
        · obtain rfl : j = k := by omega
          unfold Lx at *; omega
      · have := h1 j hj
        unfold Lx at *; omega
    · rename_i hlt
      have hlt' : ¬ Lx l k (fst l k) := hlt
      refine ⟨fun j hj => ?_, h2, fun _ => ?_⟩
      · rcases Nat.lt_or_ge j k with q | q
        · exact h1 j q
        · obtain rfl : j = k := by omega
          exact hlt'
      · rcases Nat.eq_zero_or_pos k with q | q
        · subst q; unfold fst; omega
        · have := h3 q; omega
theorem mnz_fst (l : List Pt) : ∀ k, mnz l (k + 1) = pz l (fst l (k + 1)) := fun k => by
  have h : ∀ k, mnz l k = pz l (fst l k) := by
    intro k
    induction k with
    | zero => rfl
    | succ k ih =>
      unfold mnz fst
      rw [ih]
      split <;> split <;> omega
  exact h _
theorem lowI_neg {x1 z1 x2 z2 : Int} : lowI x1 z1 x2 z2 < 0 ↔ (z1 < z2 ∨ (z1 = z2 ∧ x1 < x2)) := by
  unfold lowI ord2 cmpI
  split <;> (repeat (first | split | (split at *))) <;> omega
theorem mnL_fst (l : List Pt) : ∀ k, mnL l k = (px l (fst l (k + 1)), pz l (fst l (k + 1)))
  | 0 => by
    have e : fst l (0 + 1) = 0 := by
      unfold fst
      split
      · rfl
      · rfl
    rw [e]; rfl
  | k + 1 => by
    have ih := mnL_fst l k
    unfold mnL
    rw [ih]
    have e : fst l (k + 1 + 1) = if pz l (k + 1) < pz l (fst l (k + 1)) ∨ (pz l (k + 1) = pz l (fst l (k + 1)) ∧ px l (k + 1) < px l (fst l (k + 1))) then k + 1 else fst l (k + 1) := rfl
    rw [e]
    by_cases h : pz l (k + 1) < pz l (fst l (k + 1)) ∨ (pz l (k + 1) = pz l (fst l (k + 1)) ∧ px l (k + 1) < px l (fst l (k + 1)))
    · rw [if_pos h, if_pos (lowI_neg.2 h)]
    · rw [if_neg h, if_neg (fun q => h (lowI_neg.1 q))]
theorem index_fst {l : List Pt} {r : Int} (h3 : 0 < l.length) (h : PIx l (px l (fst l l.length)) (pz l (fst l l.length)) r) : r = (fst l l.length : Nat) := by
  obtain ⟨h1, h2, h4⟩ := fst_least l l.length
  have h4 := h4 h3
  rcases h with ⟨i, hi, rfl, ⟨e1, e2⟩, hn⟩ | ⟨_, hn⟩
  · have : ¬ i < fst l l.length := fun hlt => by
      have := h2 i hlt
      unfold Lx at this
      omega
    have : ¬ fst l l.length < i := fun hlt => hn _ hlt ⟨rfl, rfl⟩
    have : i = fst l l.length := by omega
    rw [this]
  · exact absurd ⟨rfl, rfl⟩ (hn _ h4)
/-- a shape moved and listed so that it is in its place -/
def stp (l : List Pt) (i : Nat) : Pt := (px l ((fst l l.length + i) % l.length) - mnx l l.length, pz l ((fst l l.length + i) % l.length) - mnz l l.length)
def stl (l : List Pt) : List Pt := (List.range l.length).map (stp l)
def stk (l : List Pt) (k : Nat) : List Pt := (List.range k).map (stp l)
theorem stk_succ (l : List Pt) (k : Nat) : stk l (k + 1) = stk l k ++ [stp l k] := by unfold stk; rw [List.range_succ, List.map_append]; rfl
theorem stk_length (l : List Pt) (k : Nat) : (stk l k).length = k := by simp [stk]
end Go.Proofs.YtljmhejljpfaiaaGreat
namespace Go.Proofs.YtljmhejljpfaiaaGreat
set_option maxRecDepth 100000
set_option maxRecDepth 100000
open Go.RowKit Go.Shelf

/-! put -/
theorem indexf_any (b o c : Nat) (l : List Pt) (w : World) (hr : Row w b o l) (h3 : 0 < l.length) (h12 : l.length ≤ 1000000) :
    Calls Tryz.prog 52 #[.slice (some ⟨b, o, none⟩) l.length c, .agg #[.int .i64 (px l (fst l l.length)), .int .i64 (pz l (fst l l.length))]] w fun e w' => e = .returned (.int .i64 (fst l l.length : Nat)) ∧ Below w.heap.size w w' :=
  (index_any b o c l _ _ w hr h3 h12).mono fun e w' ⟨⟨r, he, hp⟩, hb⟩ => ⟨by rw [he, index_fst h3 hp], hb⟩
theorem minf_any (b o c : Nat) (l : List Pt) (w : World) (hr : Row w b o l) (h3 : 0 < l.length) (h12 : l.length ≤ 1000000) :
    Calls Tryz.prog 51 #[.slice (some ⟨b, o, none⟩) l.length c, .func (.func 21) #[] #[]] w fun e w' => e = .returned (.agg #[.int .i64 (px l (fst l l.length)), .int .i64 (pz l (fst l l.length))]) ∧ Below w.heap.size w w' :=
  (minFunc_any b o c l w hr h3 h12).mono fun e w' ⟨he, hb⟩ => ⟨by
    have e1 : l.length - 1 + 1 = l.length := by omega
    have := mnL_fst l (l.length - 1)
    rw [e1] at this
    rw [he, this], hb⟩
theorem two_new2 {w : World} {q : Obj} {x z : Value} {T : TypeId} : ∀ j u, ([x, z] : List Value)[j]? = some u → ((w.alloc q).alloc (.cells #[x, z] T)).cell? ((⟨w.heap.size + 1, 0, none⟩ : Addr).add j) = some u := fun j u h => by
  have := two_new (w := w.alloc q) (T := T) j u h
  rw [World.size_alloc] at this
  exact this
set_option maxHeartbeats 8000000 in
theorem put_any (b o c : Nat) (l : List Pt) (w : World) (hr : Row w b o l) (h3 : 0 < l.length) (h12 : l.length ≤ 1000) (hs : ∀ i, i < l.length → Sm (px l i) ∧ Sm (pz l i)) :
    Calls Tryz.prog 22 #[.slice (some ⟨b, o, none⟩) l.length c] w fun e w' => (∃ v, e = .returned v ∧ Own w' w.heap.size v (stl l)) ∧ Below w.heap.size w w' := by
  obtain ⟨i0, hi, hz0, hz1, hz2⟩ := info_parts Tryz.info37
  have HR := Lib.hid hr
  have HM := Lib.hid (fun W (k : Below w.heap.size w W) => minf_any b o c l W (hr.keep k) h3 (by omega))
  have HI := Lib.hid (fun W (k : Below w.heap.size w W) => indexf_any b o c l W (hr.keep k) h3 (by omega))
  have HF := Lib.hid ((fst_least l l.length).2.2 h3)
  have HLM := Lib.hid (lfR_mnx l (fst l l.length) l.length ((fst_least l l.length).2.2 h3))
  have HMZ : Hid (mnz l l.length = pz l (fst l l.length)) := by
    have e1 : l.length - 1 + 1 = l.length := by omega
    have := mnz_fst l (l.length - 1)
    rw [e1] at this
    exact this
  have HSM : Hid (∀ i, i < l.length → (-20000 ≤ px l i ∧ px l i ≤ 20000) ∧ (-20000 ≤ pz l i ∧ pz l i ≤ 20000)) := hs
  have HMX : Hid (-20000 ≤ mnx l l.length ∧ mnx l l.length ≤ 20000) := by
    obtain ⟨_, _, h⟩ := mnx_le l l.length
    rcases h with h | ⟨j, hj, h⟩
    · have := HSM.out 0 h3; show _ ∧ _; omega
    · have := HSM.out j hj; show _ ∧ _; omega
  have HST : Hid (∀ i, stp l i = (px l ((fst l l.length + i) % l.length) - mnx l l.length, pz l ((fst l l.length + i) % l.length) - mnz l l.length)) := fun i => rfl
  have HSL : Hid (stl l = stk l l.length) := rfl
  have HZB := HSM.out _ HF.out
  obtain ⟨n, hn⟩ : ∃ n, n = l.length := ⟨_, rfl⟩
  have HN := Lib.hid hn
  have hbw := hr.lt h3
  rw [← hn] at h3 h12 HM HI HF HLM HMZ HMX HST HSL HZB ⊢
  have HZB := Lib.hid HZB
  generalize fst l n = st at *
  generalize hsx : px l st = sx at *
  generalize hsz : pz l st = sz at *
  have HSX := Lib.hid (And.intro hsx hsz)
  clear hr hs hn hsx hsz
  go_enter Tryz.func22, Tryz.ntmps22
  go_wp2_with fail
  refine (HM.out _ (Below.refl _ _)).mono ?_
  rintro e w1 ⟨rfl, hb1⟩
  go_wp2_with fail
  have s3 : B2 w1.heap.size sx sz (w1.alloc (.cells #[.int .i64 sx, .int .i64 sz] 37)) := ⟨by simp [go_sem], by simp [go_sem], by simp [go_sem], by simp [go_sem]⟩
  have k1 := Below.thru hb1 hb1.size (bl1 w1 (.cells #[.int .i64 sx, .int .i64 sz] 37))
  have hT3w : w.heap.size ≤ w1.heap.size := hb1.size
  generalize w1.alloc (.cells #[.int .i64 sx, .int .i64 sz] 37) = w2 at *
  generalize w1.heap.size = T3 at *
  have HIX : Hid (∀ d os, Calls Tryz.prog 52 #[.slice (some ⟨b, o, none⟩) n c, .agg #[.int .i64 sx, .int .i64 sz]] (Sort.grow (redrawn w2 d) os) fun e w'' => e = .returned (.int .i64 (st : Nat)) ∧ ∃ p : Regrown, w'' = Sort.grow (redrawn w2 p.d) p.os) := fun d os => Calls.regrown_of (HI.out _ (Below.thru k1 k1.size (below_regrown w2 d os)))
  have c1 := cell_regrown s3.1
  have c2 := cell_regrown s3.2.1
  refine wp_region_quiet_below (by kernel_rfl) (by kernel_rfl) ?_
  repeat (any_goals (first | go_big_quiet_step (exact HIX.out _ _) | quiet_step (exact HIX.out _ _)))
  refine wpQuiet_nil ?_
  intro _ hw'
  obtain ⟨⟨dq, osq⟩, hw''⟩ := hw'
  subst hw''
  have K2 := Lib.hid (Below.thru k1 k1.size (below_regrown w2 dq osq))
  have S3 := Lib.hid (s3.keep (below_regrown w2 dq osq))
  clear c1 c2 HIX s3 k1 hb1
  generalize Sort.grow (redrawn w2 dq) osq = w3 at *
  go_wp2
  go_loopw [20, 7, 5] (fun i _ lf wr => ∃ k : Nat, k ≤ n ∧ i = .int .i64 k ∧ lf = .int .i64 (lfR l sx k) ∧ Hid (B2 T3 sx sz wr ∧ Below w.heap.size w wr)) (fun i _ _ _ => n - (intOf i).toNat)
  case atStart => exact ⟨0, Nat.zero_le _, rfl, rfl, S3.out, K2.out⟩
  case round =>
    obtain ⟨k, hk, rfl, rfl, HS⟩ := hrel
    by_cases hlt : k < n
    · have hrow := HR.out.keep HS.out.2
      obtain ⟨ckx, ckz⟩ := hrow k (by rw [← HN.out]; exact hlt)
      have hb2 := Below.thru HS.out.2 HS.out.2.size (bl1 wr (.cells #[.int .i64 (px l k), .int .i64 (pz l k)] 37))
      have m2 := HS.out.1.keep (bl1 wr (.cells #[.int .i64 (px l k), .int .i64 (pz l k)] 37))
      have H2 := Lib.hid (And.intro m2 hb2)
      have HLF : Hid (lfR l sx (k + 1) = if px l k < lfR l sx k then px l k else lfR l sx k) := rfl
      clear hrow hb2 m2
      generalize px l k = fx at *
      generalize pz l k = fz at *
      generalize lfR l sx k = lk at *
      go_wp2
      go_roundw
      case rel => exact ⟨k + 1, by omega, by go_num, by rw [HLF.out], H2.out⟩
      case measure => simp [intOf]; omega
    · obtain rfl : k = n := by omega
      obtain ⟨sB, hB⟩ := HS.out
      have hT3 := cell_lt sB.1
      have HSB := Lib.hid sB
      have HBB := Lib.hid hB
      have hwl := hB.size
      rw [HLM.out]
      clear HLM HS sB hB
      generalize mnx l k = mx at *
      generalize mnz l k = mz at *
      obtain rfl : mz = sz := HMZ.out
      go_wp2_with (at_make; refine wpList_make_own _ rfl _ _ 49 rfl (T3 + 1) 37 i0 (.agg #[.int .i64 0, .int .i64 0]) 2 Tryz.underlying49' hi hz0 hz1 _ _ _ k rfl rfl rfl (by rw [hz2]; omega) (by unfold maxLen; omega) (by omega) ?_; intro w4 hown hgrow)
      have O4 : Hid (Own w4 (T3 + 1) (.slice (some ⟨wr.heap.size, 0, none⟩) 0 k) (stk l 0)) := hown
      have hB4 : Below (T3 + 1) wr w4 := (Below.refl _ _).grown hgrow (by omega) (fun r e => by cases e)
      have S4 : Hid (B2 T3 sx mz w4 ∧ Below w.heap.size w w4) := ⟨HSB.out.under hB4 (by omega), HBB.out.trans (hB4.mono (by omega))⟩
      clear hown hgrow hB4 HSB HBB
      go_wp2
      go_loopw [34, 9, 10, 8] (fun i _ _ v wr => ∃ k2 : Nat, k2 ≤ k ∧ i = .int .i64 k2 ∧ Hid (Own wr (T3 + 1) v (stk l k2)) ∧ Hid (B2 T3 sx mz wr ∧ Below w.heap.size w wr)) (fun i _ _ _ _ => k - (intOf i).toNat)
      case atStart => exact ⟨0, Nat.zero_le _, rfl, O4.out, S4.out⟩
      case round =>
        obtain ⟨k2, hk2, rfl, HO, HS⟩ := hrel
        by_cases hlt2 : k2 < k
        · have hjj : (st + k2) % k < k := Nat.mod_lt _ h3
          have hr : ((st : Int) + (k2 : Int)) % (k : Int) = (((st + k2) % k : Nat) : Int) := by rw [Int.natCast_emod]; rfl
          have h0 : ¬ (k : Int) = 0 := by omega
          have HS2 : Hid (stk l (k2 + 1) = stk l k2 ++ [(px l ((st + k2) % k) - mx, pz l ((st + k2) % k) - mz)]) := by
            show _ = _
            rw [stk_succ, HST.out]
          have hrow := HR.out.keep HS.out.2
          obtain ⟨ckx, ckz⟩ := hrow ((st + k2) % k) (by rw [← HN.out]; exact hjj)
          have hbb := HSM.out ((st + k2) % k) (by rw [← HN.out]; exact hjj)
          have hmx := HMX.out
          have hzb := HZB.out
          have hst := HF.out
          generalize (st + k2) % k = jj at *
          generalize px l jj = fx at *
          generalize pz l jj = fz at *
          have v1 := IntWalk.i64_in (fx - mx) (by omega)
          have v2 := IntWalk.i64_in (fz - mz) (by omega)
          have hown : wr.ownsRow (T3 + 1) 37 2 u8 k2 (cls (stk l k2)) := by
            have := HO.out
            unfold Own at this
            rw [stk_length] at this
            exact this
          obtain ⟨d0, d1, _, _⟩ := id HS.out.1
          have hT := cell_lt d0
          have hwl2 := HS.out.2.size
          have hbl := cell_lt ckx
          clear hrow hmx hzb
          go_wp2_with (at_builtin; refine wpList_append_own _ rfl (.tmp 46) (.tmp 57) 49 rfl (T3 + 1) 37 i0 (.agg #[.int .i64 0, .int .i64 0]) 2 16 Tryz.underlying49' hi hz0 hz1 hz2 rfl (by decide) _ _ _ rfl ((hown.alloc _).alloc _) ⟨wr.heap.size + 1, 0, none⟩ 1 1 [.int .i64 (fx - mx), .int .i64 (fz - mz)] rfl rfl two_new2 (by simp [Value.oneCell']) (by unfold maxLen; omega) (by omega) (by simp; omega) ?_; intro v' w9 hown' hgrow _)
          have hBg : Below (T3 + 1) wr w9 := (((Below.refl _ _).alloc (by omega) _).alloc (by simp; omega) _).grown hgrow (by simp; omega) (fun r e => (hown.lt r e).1)
          go_wp2
          go_roundw
          case rel =>
            refine ⟨k2 + 1, by omega, by go_num, ?_, HS.out.1.under hBg (by omega), HS.out.2.trans (hBg.mono (by omega))⟩
            rw [HS2.out]
            show World.ownsRow _ _ _ _ _ _ _
            rw [List.length_append, stk_length, cls_snoc]
            exact hown'
          case measure => simp [intOf]; omega
        · obtain rfl : k2 = k := by omega
          have HFI : Hid (Own wr w.heap.size u8 (stl l)) := Own.base (by rw [HSL.out]; exact HO.out) (by omega)
          have hB := HS.out.2
          go_wp2
          go_ret
          exact ⟨⟨_, rfl, HFI.out⟩, hB⟩
end Go.Proofs.YtljmhejljpfaiaaGreat
namespace Go.Proofs.YtljmhejljpfaiaaGreat
set_option maxRecDepth 100000
set_option maxRecDepth 100000
open Go.RowKit Go.Shelf

/-! piece -/
theorem Blk.frozen {B : Nat} {cur : Array Value} {T : TypeId} {W : World} (h : Blk B cur T W) (i : Nat) : W.frozen? ⟨B, i, none⟩ = false := by
  unfold World.frozen?
  dsimp only
  rw [show W.heap[B]? = _ from h]
  simp
theorem Blk.set {B i : Nat} {cur : Array Value} {T : TypeId} {W : World} (v : Value) (h : Blk B cur T W) : Blk B (cur.setIfInBounds i v) T (W.setCell ⟨B, i, none⟩ v) := by
  show (W.setCell ⟨B, i, none⟩ v).heap[B]? = _
  unfold World.setCell
  dsimp only
  rw [Array.getElem?_modify, if_pos rfl, show W.heap[B]? = _ from h]
  rfl
theorem Blk.far {B C i : Nat} {cur : Array Value} {T : TypeId} {W : World} (v : Value) (h : Blk B cur T W) (hn : B ≠ C) : Blk B cur T (W.setCell ⟨C, i, none⟩ v) := (Below.heap_setCell _ _ _ _ hn).trans h
/-- a stone's cells -/
abbrev c6 (nm : ByteArray) (v : Value) (dp dn gx gz : Int) : Array Value := #[.string nm, v, .int .i64 dp, .int .i64 dn, .int .i64 gx, .int .i64 gz]
theorem Own.set1 {w : World} {base T i : Nat} {v : Value} {l : List Pt} (h : Own w base v l) (hT : T < base) (u : Value) : Own (w.setCell ⟨T, i, none⟩ u) base v l := by
  obtain ⟨h1, h2 | ⟨g, cap, cur, e1, hb, hg, h3⟩⟩ := h
  · exact ⟨h1, .inl h2⟩
  · exact ⟨h1, .inr ⟨g, cap, cur, e1, hb, (Below.heap_setCell _ _ _ _ (by show g ≠ T; omega)).trans hg, h3⟩⟩
set_option maxHeartbeats 4000000 in
theorem piece_any (nm lt : ByteArray) (v0 : Value) (dp dn gx gz : Int) (b o c : Nat) (l : List Pt) (w : World) (hr : Row w b o l) (h3 : 0 < l.length) (h12 : l.length ≤ 1000) (hs : ∀ i, i < l.length → Sm (px l i) ∧ Sm (pz l i)) (hnm : nm.size + lt.size ≤ maxLen) :
    Calls Tryz.prog 35 #[.agg #[.string nm, v0, .int .i64 dp, .int .i64 dn, .int .i64 gx, .int .i64 gz], .string lt, .slice (some ⟨b, o, none⟩) l.length c] w fun e w' =>
      (∃ v, e = .returned (.agg #[.string (nm ++ lt), v, .int .i64 dp, .int .i64 dn, .int .i64 gx, .int .i64 gz]) ∧ Own w' w.heap.size v (stl l)) ∧ Below w.heap.size w w' := by
  have HP := Lib.hid (fun W (k : Below w.heap.size w W) => put_any b o c l W (hr.keep k) h3 h12 hs)
  unfold maxLen at hnm
  clear hr hs
  generalize stl l = sl at *
  generalize l.length = n at *
  go_enter Tryz.func35, Tryz.ntmps35
  go_wp2_with fail
  have k0 := bl2 w (.cells (c6 (nm ++ lt) v0 dp dn gx gz) 39) (.cells (c6 ⟨#[]⟩ (.slice none 0 0) 0 0 0 0) 39)
  have b1 : Blk w.heap.size (c6 (nm ++ lt) v0 dp dn gx gz) 39 ((w.alloc (.cells (c6 (nm ++ lt) v0 dp dn gx gz) 39)).alloc (.cells (c6 ⟨#[]⟩ (.slice none 0 0) 0 0 0 0) 39)) := (Blk.new w _ 39).alloc _
  have b2 : Blk (w.heap.size + 1) (c6 ⟨#[]⟩ (.slice none 0 0) 0 0 0 0) 39 ((w.alloc (.cells (c6 (nm ++ lt) v0 dp dn gx gz) 39)).alloc (.cells (c6 ⟨#[]⟩ (.slice none 0 0) 0 0 0 0) 39)) := by
    have := Blk.new (w.alloc (.cells (c6 (nm ++ lt) v0 dp dn gx gz) 39)) (c6 ⟨#[]⟩ (.slice none 0 0) 0 0 0 0) 39
    rw [World.size_alloc] at this
    exact this
  refine (HP.out _ k0).mono ?_
  rintro e w1 ⟨⟨v, rfl, ho⟩, hb1⟩
  have k1 := Below.thru k0 k0.size hb1
  have b1' := b1.below hb1
  have b2' := b2.below hb1
  obtain ⟨vp, vn, vc, rfl⟩ := own_form ho
  have HO := Lib.hid (ho.base (b2 := w.heap.size + 2) (by simp))
  have K1 := Lib.hid k1
  have x0 := b1'.cell (i := 0) rfl
  have x1 := b1'.cell (i := 1) rfl
  have x2 := b1'.cell (i := 2) rfl
  have x3 := b1'.cell (i := 3) rfl
  have x4 := b1'.cell (i := 4) rfl
  have x5 := b1'.cell (i := 5) rfl
  have y1 := b1'.frozen 1
  have z0 := b2'.cell (i := 0) rfl
  have z1 := b2'.cell (i := 1) rfl
  have z2 := b2'.cell (i := 2) rfl
  have z3 := b2'.cell (i := 3) rfl
  have z4 := b2'.cell (i := 4) rfl
  have z5 := b2'.cell (i := 5) rfl
  have f0 := b2'.frozen 0
  have f1 := b2'.frozen 1
  have f2 := b2'.frozen 2
  have f3 := b2'.frozen 3
  have f4 := b2'.frozen 4
  have f5 := b2'.frozen 5
  clear ho hb1 k0 k1 b1 b2 b1' b2'
  go_wp2
  refine bodyPost_ret (v := .agg (c6 (nm ++ lt) (.slice vp vn vc) dp dn gx gz)) (by simp [results, Tryz.results35, go_sem, z0, z1, z2, z3, z4, z5]) rfl ⟨⟨_, rfl, ?_⟩, ?_⟩
  · exact ((Own.set1 HO.out (by omega) _).far6 (by omega) _ _ _ _ _ _).base (by omega)
  · exact below6 (K1.out.setCell (Nat.le_refl _) _) (by omega) _ _ _ _ _ _
end Go.Proofs.YtljmhejljpfaiaaGreat

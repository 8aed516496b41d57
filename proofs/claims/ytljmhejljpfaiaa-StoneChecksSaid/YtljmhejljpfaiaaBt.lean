import Derived.Test.YtljmhejljpfaiaaBs
namespace Go.Proofs.Ytljmhejljpfaiaa
set_option maxRecDepth 100000
open Go.RowKit Go.Shelf

/-! part -/
/-- steps from one index to another one, around -/
def dist (n i e : Nat) : Nat := if i ≤ e then e - i else e + n - i
theorem nx_succ {n i : Nat} (h : i + 1 < n) : nx n i = i + 1 := Nat.mod_eq_of_lt h
theorem nx_wrap {n i : Nat} (h : i + 1 = n) : nx n i = 0 := by unfold nx; rw [h, Nat.mod_self]
theorem dist_next {n i e : Nat} (hi : i < n) (he : e < n) (h : i ≠ e) : dist n i e = dist n (nx n i) e + 1 := by
  unfold dist
  rcases Nat.lt_or_ge (i + 1) n with q | q
  · rw [nx_succ q]; split <;> split <;> omega
  · rw [nx_wrap (by omega)]; split <;> split <;> omega
theorem dist_self (n i : Nat) : dist n i i = 0 := by unfold dist; simp
theorem dist_le {n i e : Nat} (hi : i < n) (he : e < n) : dist n i e ≤ n := by unfold dist; split <;> omega
/-- the corners from the one behind i on, but q -/
def wkR (l : List Pt) (q : Pt) : Nat → Nat → List Pt
  | 0, _ => []
  | k + 1, i => (if (px l (nx l.length i), pz l (nx l.length i)) = q then [] else [(px l (nx l.length i), pz l (nx l.length i))]) ++ wkR l q k (nx l.length i)
theorem wkR_succ (l : List Pt) (q : Pt) (k i : Nat) : wkR l q (k + 1) i = (if (px l (nx l.length i), pz l (nx l.length i)) = q then [] else [(px l (nx l.length i), pz l (nx l.length i))]) ++ wkR l q k (nx l.length i) := rfl
theorem B2.under {B n : Nat} {x z : Int} {w w' : World} (h : B2 B x z w) (hb : Below n w w') (hB : B < n) : B2 B x z w' :=
  ⟨(hb.cell (p := ⟨B, _, none⟩) hB).trans h.1, (hb.cell (p := ⟨B, _, none⟩) hB).trans h.2.1, (hb.frozen (p := ⟨B, _, none⟩) hB).trans h.2.2.1, (hb.frozen (p := ⟨B, _, none⟩) hB).trans h.2.2.2⟩
theorem wkR_len (l : List Pt) (q : Pt) : ∀ k i, (wkR l q k i).length ≤ k
  | 0, _ => Nat.le_refl _
  | k + 1, i => by
    have := wkR_len l q k (nx l.length i)
    unfold wkR
    rw [List.length_append]
    split
    · simp; omega
    · simp; omega
/-- the edge of a border point -/
def eo (l : List Pt) (p : Pt) : Nat := ((List.range l.length).find? (hit l p.1 p.2)).getD 0
theorem eo_of {l : List Pt} {x z r : Int} (h : PEo l x z r) (hp : IsP l x z) : r = (eo l (x, z) : Nat) ∧ eo l (x, z) < l.length ∧ hit l x z (eo l (x, z)) = true ∧ ∀ j, j < eo l (x, z) → hit l x z j = false := by
  rcases h with ⟨i, hi, rfl, h1, h2⟩ | ⟨_, h⟩
  · have e : eo l (x, z) = i := by
      unfold eo
      rw [List.find?_range_eq_some.2 ⟨h1, by simpa using hi, fun j hj => by simp [h2 j hj]⟩]
      rfl
    rw [e]
    exact ⟨rfl, hi, h1, h2⟩
  · obtain ⟨i, hi, h1⟩ := hp
    rw [h i hi] at h1
    cases h1
def partL (l : List Pt) (p q : Pt) : List Pt := ([p] ++ wkR l q (dist l.length (eo l p) (eo l q)) (eo l p)) ++ [q]
theorem Try.underlying85' : Try.prog.underlying 85 = some (.slice 32) := by kernel_rfl
set_option maxHeartbeats 8000000 in
theorem part_any (b o c : Nat) (l : List Pt) (x1 z1 x2 z2 : Int) (w : World) (hr : Row w b o l) (h3 : 0 < l.length) (h12 : l.length ≤ 1000) (hx : Bx l) (hp : IsP l x1 z1) (hq : IsP l x2 z2) :
    Calls Try.prog 77 #[.slice (some ⟨b, o, none⟩) l.length c, .agg #[.int .i64 x1, .int .i64 z1], .agg #[.int .i64 x2, .int .i64 z2]] w fun e w' => (∃ v, e = .returned v ∧ Own w' w.heap.size v (partL l (x1, z1) (x2, z2))) ∧ Below w.heap.size w w' := by
  obtain ⟨i0, hi, hz0, hz1, hz2⟩ := info_parts Try.info32
  have HP := Lib.hid (fun W (k : Below w.heap.size w W) => edgeOf_any b o c l x1 z1 W (hr.keep k) h3 h12 hx)
  have HQ := Lib.hid (fun W (k : Below w.heap.size w W) => edgeOf_any b o c l x2 z2 W (hr.keep k) h3 h12 hx)
  have HEP := Lib.hid (fun r (h : PEo l x1 z1 r) => eo_of h hp)
  have HEQ := Lib.hid (fun r (h : PEo l x2 z2 r) => eo_of h hq)
  have HR := Lib.hid hr
  have hbw := hr.lt h3
  have HL : Hid (partL l (x1, z1) (x2, z2) = ([(x1, z1)] ++ wkR l (x2, z2) (dist l.length (eo l (x1, z1)) (eo l (x2, z2))) (eo l (x1, z1))) ++ [(x2, z2)]) := rfl
  obtain ⟨n, hn⟩ : ∃ n, n = l.length := ⟨_, rfl⟩
  have HN := Lib.hid hn
  rw [← hn] at h3 h12 HP HQ HL ⊢
  generalize eo l (x1, z1) = ep at *
  generalize eo l (x2, z2) = eq at *
  clear hr hx hp hq hn
  have s2 : B2 (w.heap.size + 1) x2 z2 (((w.alloc (.cells #[.int .i64 x1, .int .i64 z1] 32)).alloc (.cells #[.int .i64 x2, .int .i64 z2] 32)).alloc (.cells #[.int .i64 x1, .int .i64 z1] 32)) := ⟨by simp [go_sem], by simp [go_sem], by simp [go_sem], by simp [go_sem]⟩
  have s1 : B2 w.heap.size x1 z1 (((w.alloc (.cells #[.int .i64 x1, .int .i64 z1] 32)).alloc (.cells #[.int .i64 x2, .int .i64 z2] 32)).alloc (.cells #[.int .i64 x1, .int .i64 z1] 32)) := ⟨by simp [go_sem], by simp [go_sem], by simp [go_sem], by simp [go_sem]⟩
  have k0 := bl3 w (.cells #[.int .i64 x1, .int .i64 z1] 32) (.cells #[.int .i64 x2, .int .i64 z2] 32) (.cells #[.int .i64 x1, .int .i64 z1] 32)
  have o0 : Hid (Own (((w.alloc (.cells #[.int .i64 x1, .int .i64 z1] 32)).alloc (.cells #[.int .i64 x2, .int .i64 z2] 32)).alloc (.cells #[.int .i64 x1, .int .i64 z1] 32)) (w.heap.size + 1 + 1) (.slice (some ⟨w.heap.size + 1 + 1, 0, none⟩) 1 1) [(x1, z1)]) := by
    refine ⟨rfl, .inr ⟨w.heap.size + 1 + 1, 1, #[.int .i64 x1, .int .i64 z1], rfl, by omega, ?_, Nat.le_refl _, by unfold maxLen; omega, rfl, rfl⟩⟩
    have := World.alloc_heap_new ((w.alloc (.cells #[.int .i64 x1, .int .i64 z1] 32)).alloc (.cells #[.int .i64 x2, .int .i64 z2] 32)) (.cells #[.int .i64 x1, .int .i64 z1] 32)
    simpa using this
  go_enter Try.func77, Try.ntmps77
  go_wp2_with fail
  refine (HQ.out _ k0).mono ?_
  rintro e w1 ⟨⟨rq, rfl, hrq⟩, hb1⟩
  obtain ⟨rfl, heq, -⟩ := HEQ.out _ hrq
  replace s1 := s1.keep hb1
  replace s2 := s2.keep hb1
  replace o0 := Lib.hid (own_of o0.out (fun g cap hv ⟨cur, hg⟩ => hb1.block g (Array.getElem?_eq_some_iff.1 hg).1))
  replace k0 := Below.thru k0 k0.size hb1
  clear hb1 hrq
  obtain ⟨c0, c1, _, _⟩ := id s1
  go_wp2_with fail
  refine (HP.out _ k0).mono ?_
  rintro e w2 ⟨⟨rp, rfl, hrp⟩, hb2⟩
  obtain ⟨rfl, hep, -⟩ := HEP.out _ hrp
  replace s2 := s2.keep hb2
  have O0 := Lib.hid (own_of o0.out (fun g cap hv ⟨cur, hg⟩ => hb2.block g (Array.getElem?_eq_some_iff.1 hg).1))
  replace k0 := Below.thru k0 k0.size hb2
  have S2 := Lib.hid (And.intro s2 k0)
  rw [← HN.out] at hep heq
  have HB := Lib.hid (And.intro hep heq)
  clear hb2 hrp c0 c1 s1 s2 o0
  go_wp2
  go_loopw [9, 7] (fun i v wr => ∃ k : Nat, i = .int .i64 k ∧ k < n ∧ Hid (∃ cur, Own wr (w.heap.size + 1 + 1) v ([(x1, z1)] ++ cur) ∧ cur ++ wkR l (x2, z2) (dist n k eq) k = wkR l (x2, z2) (dist n ep eq) ep) ∧ Hid (B2 (w.heap.size + 1) x2 z2 wr ∧ Below w.heap.size w wr)) (fun i _ _ => dist n (intOf i).toNat eq)
  case atStart => exact ⟨ep, rfl, HB.out.1, ⟨[], O0.out, rfl⟩, S2.out⟩
  case round =>
    obtain ⟨k, rfl, hk, HC, HS⟩ := hrel
    by_cases hke : k = eq
    · subst hke
      obtain ⟨cur, ho, hcur⟩ := HC.out
      rw [dist_self] at hcur
      have hcur' : cur = wkR l (x2, z2) (dist n ep k) ep := by simpa [wkR] using hcur
      have hlen := wkR_len l (x2, z2) (dist n ep k) ep
      have hd := dist_le HB.out.1 hk
      rw [← hcur'] at hlen
      have hown : wr.ownsRow (w.heap.size + 1 + 1) 32 2 u7 (1 + cur.length) (cls ([(x1, z1)] ++ cur)) := by
        have := ho
        unfold Own at this
        rw [List.length_append] at this
        exact this
      have HF : Hid (∀ W v', W.ownsRow (w.heap.size + 1 + 1) 32 2 v' (1 + cur.length + 1) (cls ([(x1, z1)] ++ cur) ++ [.int .i64 x2, .int .i64 z2]) → Own W w.heap.size v' (partL l (x1, z1) (x2, z2))) := fun W v' h => by
        refine Own.base (base := w.heap.size + 1 + 1) ?_ (by omega)
        rw [HL.out, ← hcur']
        unfold Own
        rw [List.length_append, List.length_append, cls_snoc]
        exact h
      obtain ⟨c0, c1, _, _⟩ := HS.out.1
      have hbd : cur.length ≤ 1000 := by omega
      have hsz := HS.out.2.size
      have hsz2 := cell_lt c0
      have hB := HS.out.2
      clear hcur hcur' hlen hd ho
      go_wp2_with (at_builtin; refine wpList_append_own _ rfl (.tmp 37) (.tmp 39) 85 rfl (w.heap.size + 1 + 1) 32 i0 (.agg #[.int .i64 0, .int .i64 0]) 2 16 Try.underlying85' hi hz0 hz1 hz2 rfl (by decide) _ _ _ rfl (hown.alloc _) ⟨wr.heap.size, 0, none⟩ 1 1 [.int .i64 x2, .int .i64 z2] rfl rfl two_new (by simp [Value.oneCell']) (by unfold maxLen; omega) (by omega) (by simp; omega) ?_; intro v' w9 hown' hgrow _)
      have hB2 : Below w.heap.size w w9 := (hB.alloc hB.size _).grown hgrow (by simp; omega) (fun r e => by have := (hown.lt r e).1; omega)
      go_wp2
      go_ret
      exact ⟨⟨_, rfl, HF.out _ _ hown'⟩, hB2⟩
    · have hj := nx_lt hk
      have hrow := HR.out.keep HS.out.2
      obtain ⟨ckx, ckz⟩ := hrow (nx n k) (by rw [← HN.out]; exact hj)
      have HW : Hid (wkR l (x2, z2) (dist n k eq) k = (if (px l (nx n k), pz l (nx n k)) = (x2, z2) then [] else [(px l (nx n k), pz l (nx n k))]) ++ wkR l (x2, z2) (dist n (nx n k) eq) (nx n k)) := by
        show _ = _
        rw [dist_next hk HB.out.2 hke, wkR_succ, ← HN.out]
      have HD := Lib.hid (dist_next hk HB.out.2 hke)
      have HKJ := Lib.hid hj
      have HX := Lib.hid (fun W => next_any (some ⟨b, o, none⟩) n c k W hk (by omega))
      obtain ⟨cur, ho, hcur⟩ := HC.out
      have hown : wr.ownsRow (w.heap.size + 1 + 1) 32 2 u7 (1 + cur.length) (cls ([(x1, z1)] ++ cur)) := by
        have := ho
        unfold Own at this
        rw [List.length_append] at this
        exact this
      have hbd : cur.length ≤ 1000 := by
        have h1 := wkR_len l (x2, z2) (dist n ep eq) ep
        have h2 := dist_le HB.out.1 HB.out.2
        rw [← hcur, List.length_append] at h1
        omega
      have HO := Lib.hid ho
      have HCU := Lib.hid hcur
      obtain ⟨d0, d1, _, _⟩ := id HS.out.1
      have c1 := cell_regrown ckx
      have c2 := cell_regrown ckz
      have c3 := cell_regrown d0
      have c4 := cell_regrown d1
      clear hrow ho hcur d0 d1
      generalize nx n k = j at *
      generalize px l j = fx at *
      generalize pz l j = fz at *
      have hcase : ¬ x2 = fx ∨ (x2 = fx ∧ ¬ z2 = fz) ∨ (x2 = fx ∧ z2 = fz) := by
        by_cases e1 : x2 = fx
        · by_cases e2 : z2 = fz
          · exact .inr (.inr ⟨e1, e2⟩)
          · exact .inr (.inl ⟨e1, e2⟩)
        · exact .inl e1
      have HNE : Hid ((¬ x2 = fx ∨ (x2 = fx ∧ ¬ z2 = fz)) → ¬ (fx, fz) = (x2, z2)) := fun h e => by
        cases e
        rcases h with h | ⟨_, h⟩ <;> exact h rfl
      rcases hcase with h | ⟨rfl, h⟩ | ⟨rfl, rfl⟩
      · have HNE2 := Lib.hid (HNE.out (.inl h))
        go_wp2_with fail
        refine (HX.out _).mono ?_
        rintro e w' ⟨rfl, rfl⟩
        go_wp2_with fail
        refine wp_region_quiet_below (by kernel_rfl) (by kernel_rfl) ?_
        repeat (any_goals (first | go_big_quiet_step (fail) | quiet_step (fail)))
        refine wpQuiet_nil ?_
        intro _ hw'
        obtain ⟨⟨dq, osq⟩, hw''⟩ := hw'
        subst hw''
        have k2 := Below.thru HS.out.2 HS.out.2.size (below_regrown wr dq osq)
        have m2 := HS.out.1.keep (below_regrown wr dq osq)
        replace ckx := c1 dq osq
        replace ckz := c2 dq osq
        have hown2 := own_of hown (fun g cap hv ⟨cur, hg⟩ => (below_regrown wr dq osq).block g (Array.getElem?_eq_some_iff.1 hg).1)
        have ho2 := own_of HO.out (fun g cap hv ⟨cur, hg⟩ => (below_regrown wr dq osq).block g (Array.getElem?_eq_some_iff.1 hg).1)
        have HO2 := Lib.hid ho2
        have K2 := Lib.hid k2
        have M2 := Lib.hid m2
        have hlt2 := cell_lt m2.1
        have hbw2 := cell_lt ckx
        clear c1 c2 c3 c4 hown ho2 k2 m2
        generalize Sort.grow (redrawn wr dq) osq = w2 at *
        go_wp2_with (at_builtin; refine wpList_append_own _ rfl (.tmp 30) (.tmp 35) 85 rfl (w.heap.size + 1 + 1) 32 i0 (.agg #[.int .i64 0, .int .i64 0]) 2 16 Try.underlying85' hi hz0 hz1 hz2 rfl (by decide) _ _ _ rfl (hown2.alloc _) ⟨w2.heap.size, 0, none⟩ 1 1 [.int .i64 fx, .int .i64 fz] rfl rfl two_new (by simp [Value.oneCell']) (by unfold maxLen; omega) (by omega) (by simp; omega) ?_; intro v' w9 hown' hgrow _)
        have hBg : Below (w.heap.size + 1 + 1) w2 w9 := ((Below.refl _ _).alloc (by omega) _).grown hgrow (by simp; omega) (fun r e => (hown2.lt r e).1)
        go_wp2
        go_roundw
        case rel =>
          refine ⟨j, rfl, HKJ.out, ⟨cur ++ [(fx, fz)], ?_, ?_⟩, M2.out.under hBg (by omega), K2.out.trans (hBg.mono (by omega))⟩
          · unfold Own
            rw [← List.append_assoc, cls_snoc, List.length_append, List.length_append]
            exact hown'
          · rw [← HCU.out, HW.out, if_neg HNE2.out, List.append_assoc]
        case measure => simp only [intOf, Int.toNat_natCast]; have := HD.out; omega
      · have HNE2 := Lib.hid (HNE.out (.inr ⟨rfl, h⟩))
        have h2 : ¬ fz = z2 := fun e => h e.symm
        go_wp2_with fail
        refine (HX.out _).mono ?_
        rintro e w' ⟨rfl, rfl⟩
        go_wp2_with fail
        refine wp_region_quiet_below (by kernel_rfl) (by kernel_rfl) ?_
        repeat (any_goals (first | go_big_quiet_step (fail) | quiet_step (fail)))
        refine wpQuiet_nil ?_
        intro _ hw'
        obtain ⟨⟨dq, osq⟩, hw''⟩ := hw'
        subst hw''
        have k2 := Below.thru HS.out.2 HS.out.2.size (below_regrown wr dq osq)
        have m2 := HS.out.1.keep (below_regrown wr dq osq)
        replace ckx := c1 dq osq
        replace ckz := c2 dq osq
        have hown2 := own_of hown (fun g cap hv ⟨cur, hg⟩ => (below_regrown wr dq osq).block g (Array.getElem?_eq_some_iff.1 hg).1)
        have ho2 := own_of HO.out (fun g cap hv ⟨cur, hg⟩ => (below_regrown wr dq osq).block g (Array.getElem?_eq_some_iff.1 hg).1)
        have HO2 := Lib.hid ho2
        have K2 := Lib.hid k2
        have M2 := Lib.hid m2
        have hlt2 := cell_lt m2.1
        have hbw2 := cell_lt ckx
        clear c1 c2 c3 c4 hown ho2 k2 m2
        generalize Sort.grow (redrawn wr dq) osq = w2 at *
        go_wp2_with (at_builtin; refine wpList_append_own _ rfl (.tmp 30) (.tmp 35) 85 rfl (w.heap.size + 1 + 1) 32 i0 (.agg #[.int .i64 0, .int .i64 0]) 2 16 Try.underlying85' hi hz0 hz1 hz2 rfl (by decide) _ _ _ rfl (hown2.alloc _) ⟨w2.heap.size, 0, none⟩ 1 1 [.int .i64 x2, .int .i64 fz] rfl rfl two_new (by simp [Value.oneCell']) (by unfold maxLen; omega) (by omega) (by simp; omega) ?_; intro v' w9 hown' hgrow _)
        have hBg : Below (w.heap.size + 1 + 1) w2 w9 := ((Below.refl _ _).alloc (by omega) _).grown hgrow (by simp; omega) (fun r e => (hown2.lt r e).1)
        go_wp2
        go_roundw
        case rel =>
          refine ⟨j, rfl, HKJ.out, ⟨cur ++ [(x2, fz)], ?_, ?_⟩, M2.out.under hBg (by omega), K2.out.trans (hBg.mono (by omega))⟩
          · unfold Own
            rw [← List.append_assoc, cls_snoc, List.length_append, List.length_append]
            exact hown'
          · rw [← HCU.out, HW.out, if_neg HNE2.out, List.append_assoc]
        case measure => simp only [intOf, Int.toNat_natCast]; have := HD.out; omega
      · clear ckx ckz
        go_wp2_with fail
        refine (HX.out _).mono ?_
        rintro e w' ⟨rfl, rfl⟩
        go_wp2_with fail
        refine wp_region_quiet_below (by kernel_rfl) (by kernel_rfl) ?_
        repeat (any_goals (first | go_big_quiet_step (fail) | quiet_step (fail)))
        refine wpQuiet_nil ?_
        intro _ hw'
        obtain ⟨⟨dq, osq⟩, hw''⟩ := hw'
        subst hw''
        have k2 := Below.thru HS.out.2 HS.out.2.size (below_regrown wr dq osq)
        have m2 := HS.out.1.keep (below_regrown wr dq osq)
        replace ckx := c1 dq osq
        replace ckz := c2 dq osq
        have ho2 := own_of HO.out (fun g cap hv ⟨cur, hg⟩ => (below_regrown wr dq osq).block g (Array.getElem?_eq_some_iff.1 hg).1)
        have HO2 := Lib.hid ho2
        have K2 := Lib.hid k2
        have M2 := Lib.hid m2
        clear c1 c2 c3 c4 hown ho2 k2 m2
        generalize Sort.grow (redrawn wr dq) osq = w2 at *
        go_wp2
        go_roundw
        case rel =>
          refine ⟨j, rfl, HKJ.out, ⟨cur, HO2.out, ?_⟩, M2.out, K2.out⟩
          rw [← HCU.out, HW.out]; simp
        case measure => simp only [intOf, Int.toNat_natCast]; have := HD.out; omega
end Go.Proofs.Ytljmhejljpfaiaa

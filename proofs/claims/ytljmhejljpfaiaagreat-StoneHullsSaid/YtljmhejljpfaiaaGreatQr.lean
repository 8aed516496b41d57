import Derived.Test.YtljmhejljpfaiaaGreatQn
namespace Go.Proofs.YtljmhejljpfaiaaGreat
set_option maxRecDepth 100000
open Go.RowKit Go.Shelf

/-! the walk of Hull -/
theorem own_lenV {w : World} {base : Nat} {v : Value} {l : List Pt} (h : Own w base v l) : ∃ p c, v = .slice p l.length c := by
  rcases h.row with ⟨rfl, rfl⟩ | ⟨g, c, rfl, _⟩
  · exact ⟨_, _, rfl⟩
  · exact ⟨_, _, rfl⟩
theorem own_keep {w w' : World} {base : Nat} {v : Value} {l : List Pt} (h : Own w base v l) (hb : Below w.heap.size w w') : Own w' base v l := own_of h (fun g _cap _hv ⟨_cur, hg⟩ => hb.block g (Array.getElem?_eq_some_iff.1 hg).1)
theorem popC_le : ∀ (st : List Pt) (p : Pt), (popC st p).length ≤ st.length
  | [], _ => Nat.le_refl _
  | [_], _ => Nat.le_refl _
  | b :: a :: t, p => by
    show (if D3 a b p ≤ 0 then popC (a :: t) p else b :: a :: t).length ≤ _
    split
    · exact Nat.le_trans (popC_le (a :: t) p) (Nat.le_succ _)
    · exact Nat.le_refl _
theorem foldC_le : ∀ (T st : List Pt), (T.foldl addC st).length ≤ T.length + st.length
  | [], st => by simp
  | p :: T, st => by
    have h1 := foldC_le T (addC st p)
    have h2 := popC_le st p
    have h3 : (addC st p).length = (popC st p).length + 1 := rfl
    simp only [List.foldl_cons, List.length_cons]
    omega
theorem chn_le (S : List Pt) : (chn S).length ≤ S.length := by
  have := foldC_le S []
  simpa [chn] using this
theorem hullL_le (S : List Pt) : (hullL S).length ≤ 2 * S.length := by
  have h1 := chn_le S
  have h2 := chn_le S.reverse
  unfold hullL
  simp only [List.length_append, List.length_reverse, List.length_tail] at *
  omega
/-- a list whose points are in the bounds -/
theorem inr_mem {l : List Pt} (h : InR l) {p : Pt} (hp : p ∈ l) : (-2000 ≤ p.1 ∧ p.1 ≤ 2000) ∧ (-2000 ≤ p.2 ∧ p.2 ≤ 2000) := by
  obtain ⟨i, hi, rfl⟩ := List.mem_iff_getElem.1 hp
  have := h i hi
  unfold px pz at this
  simpa [hi] using this
theorem sm_mem {l : List Pt} (h : ∀ p, p ∈ l → (-2000 ≤ p.1 ∧ p.1 ≤ 2000) ∧ (-2000 ≤ p.2 ∧ p.2 ≤ 2000)) : ∀ i, i < l.length → Sm (px l i) ∧ Sm (pz l i) := fun i hi => by
  have := h l[i] (List.getElem_mem hi)
  unfold px pz Sm
  simp only [List.getD_eq_getElem?_getD, List.getElem?_eq_getElem hi, Option.getD_some]
  omega
/-- how the hull comes from the points -/
def HF (l H : List Pt) : Prop := l.length ≤ 1 ∧ H.length < 3 ∨ ∃ S : List Pt, S.Perm l ∧ S.Pairwise lxe ∧ H = hullL S
theorem HF.sm {l H : List Pt} (h : HF l H) (hs : InR l) (h12 : l.length ≤ 400) (h3 : 3 ≤ H.length) : H.length ≤ 1000 ∧ ∀ i, i < H.length → Sm (px H i) ∧ Sm (pz H i) := by
  rcases h with ⟨_, h⟩ | ⟨S, hp, hw, rfl⟩
  · omega
  · have hl := hp.length_eq
    have hh := hullL_le S
    refine ⟨by omega, sm_mem fun p hp' => ?_⟩
    have hne : S ≠ [] := fun e => by subst e; simp [hullL, chn] at h3
    have hf : ¬ Flt S := fun hf => by have := hull_flat hne hw hf; omega
    exact inr_mem hs (hp.mem_iff.1 ((hull_main hne hw hf).2.2.1 p hp'))
/-- what is sorted, and its hull in any later world -/
def Arnd (l : List Pt) (q : Option Addr) (m c : Nat) (W : World) : Prop :=
  ∀ W', Below W.heap.size W W' → Calls Tryz.prog 18 #[.slice q m c] W' fun e w' => (∃ q2 cc, ∃ H : List Pt, e = .returned (.slice q2 H.length cc) ∧ HF l H ∧ (3 ≤ H.length → Own w' W'.heap.size (.slice q2 H.length cc) H)) ∧ Below W'.heap.size W' w'
theorem sf_any (Be : Nat) (q : Option Addr) (c : Nat) (l : List Pt) (w : World) (hq : 0 < l.length → ∃ b o, q = some ⟨b, o, none⟩ ∧ Row w b o l) (h12 : l.length ≤ 400) (hs : InR l) (hx : Boxed w Be 24 (.slice q l.length c)) :
    Calls Tryz.prog 19 #[.func (.func 48) #[] #[.pointer (some ⟨Be, 0, none⟩)], .func (.func 21) #[] #[]] w fun e w' => (∃ q' m c', e = .returned (.slice q' m c') ∧ Arnd l q' m c' w') ∧ Below w.heap.size w w' := by
  by_cases h0 : l.length = 0
  · rw [h0] at hx
    refine (sortedf_none Be c q w hx).mono ?_
    rintro e w' ⟨⟨q', c', rfl⟩, hb⟩
    refine ⟨⟨_, _, _, rfl, fun W' _ => ?_⟩, hb⟩
    refine (around_none q' c' W').mono ?_
    rintro e w2 ⟨⟨q2, cc, rfl⟩, hb2⟩
    exact ⟨⟨q2, cc, [], rfl, .inl ⟨by omega, by simp⟩, fun h => by simp at h⟩, hb2⟩
  · obtain ⟨b, o, rfl, hr⟩ := hq (by omega)
    refine (sortedf_any Be b o c l w (by omega) (by omega) hr hx).mono ?_
    rintro e w' ⟨⟨g, c', rfl, S, hp, hw, hrow⟩, hb⟩
    refine ⟨⟨_, _, _, rfl, fun W' hb' => ?_⟩, hb⟩
    have hl := hp.length_eq
    have hsm := sm_mem (l := S) fun p hp' => inr_mem hs (hp.mem_iff.1 hp')
    have hr' := hrow.keep hb'
    rw [← hl]
    by_cases h1 : S.length = 1
    · refine (around_one g c' S W' hr' h1 hsm).mono ?_
      rintro e w2 ⟨⟨q2, cc, rfl⟩, hb2⟩
      exact ⟨⟨q2, cc, [], rfl, .inl ⟨by omega, by simp⟩, fun h => by simp at h⟩, hb2⟩
    · refine (around_any g c' S W' hr' (by omega) (by omega) hsm).mono ?_
      rintro e w2 ⟨⟨v, rfl, ho⟩, hb2⟩
      obtain ⟨p, cc, rfl⟩ := own_lenV ho
      exact ⟨⟨p, cc, hullL S, rfl, .inr ⟨S, hp, hw, rfl⟩, fun _ => ho⟩, hb2⟩
set_option maxHeartbeats 4000000 in
theorem hull_any (q : Option Addr) (c : Nat) (l : List Pt) (w : World) (hq : 0 < l.length → ∃ b o, q = some ⟨b, o, none⟩ ∧ Row w b o l) (h12 : l.length ≤ 400) :
    Calls Tryz.prog 6 #[.slice q l.length c] w fun e w' => (∃ (r : Value) (er : Int), e = .returned (.tuple #[r, .int .i64 er]) ∧ HullR l w r er w') ∧ Below w.heap.size w w' := by
  have HQ := Lib.hid hq
  obtain ⟨n, hn⟩ : ∃ n, n = l.length := ⟨_, rfl⟩
  rw [← hn] at h12 ⊢
  have HN := Lib.hid hn
  clear hq hn
  go_enter Tryz.func6, Tryz.ntmps6
  go_wp2
  go_loopw [10, 5] (fun i _ wr => ∃ k : Nat, k ≤ n ∧ i = .int .i64 k ∧ Hid (∀ j, j < k → (-2000 ≤ px l j ∧ px l j ≤ 2000) ∧ (-2000 ≤ pz l j ∧ pz l j ≤ 2000)) ∧ Hid (Below w.heap.size w wr)) (fun i _ _ => n - (intOf i).toNat)
  case atStart => exact ⟨0, Nat.zero_le _, rfl, fun j hj => absurd hj (by omega), Below.refl _ _⟩
  case round =>
    obtain ⟨k, hk, rfl, HK, HB⟩ := hrel
    by_cases hlt : k < n
    · obtain ⟨b, o, rfl, hrow⟩ := HQ.out (by rw [← HN.out]; omega)
      replace hrow := hrow.keep HB.out
      obtain ⟨ck, cz⟩ := hrow k (by rw [← HN.out]; exact hlt)
      have hbw := hrow.lt (by rw [← HN.out]; omega)
      clear hrow
      have HBn : Hid (Below w.heap.size w (wr.alloc (.cells #[.int .i64 (px l k), .int .i64 (pz l k)] 37))) := HB.out.alloc HB.out.size _
      have HK2 : Hid (inB (px l k) (-2000) 2000 = true → inB (pz l k) (-2000) 2000 = true → ∀ j, j < k + 1 → (-2000 ≤ px l j ∧ px l j ≤ 2000) ∧ (-2000 ≤ pz l j ∧ pz l j ≤ 2000)) := fun h1 h2 j hj => by
        rcases Nat.lt_or_ge j k with q | q
        · exact HK.out j q
        · obtain rfl : j = k := by omega
          simp [inB] at h1 h2
          exact ⟨h1, h2⟩
      have HNo : Hid (InR l → inB (px l k) (-2000) 2000 = true ∧ inB (pz l k) (-2000) 2000 = true) := fun h => by
        have := h k (by rw [← HN.out]; exact hlt)
        exact ⟨inB_t this.1.1 this.1.2, inB_t this.2.1 this.2.2⟩
      cases q1 : inB (px l k) (-2000) 2000 with
      | false =>
        go_wp2_with ((go_at_call 17; refine (within_any _ _ _ _).mono ?_; rintro e w' ⟨rfl, rfl⟩))
        go_ret2
        exact ⟨⟨_, _, rfl, .inl ⟨(fun h => by have := (HNo.out h).1; rw [q1] at this; cases this), rfl, rfl⟩⟩, HBn.out⟩
      | true =>
        cases q2 : inB (pz l k) (-2000) 2000 with
        | false =>
          go_wp2_with ((go_at_call 17; refine (within_any _ _ _ _).mono ?_; rintro e w' ⟨rfl, rfl⟩))
          go_ret2
          exact ⟨⟨_, _, rfl, .inl ⟨(fun h => by have := (HNo.out h).2; rw [q2] at this; cases this), rfl, rfl⟩⟩, HBn.out⟩
        | true =>
          have HK3 := Lib.hid (HK2.out q1 q2)
          go_wp2_with ((go_at_call 17; refine (within_any _ _ _ _).mono ?_; rintro e w' ⟨rfl, rfl⟩))
          go_roundw
          case rel => exact ⟨k + 1, by omega, by go_num, HK3, HBn⟩
          case measure => simp [intOf]; omega
    · obtain rfl : k = n := by omega
      have HIn : Hid (InR l) := fun i hi => HK.out i (by rw [HN.out]; exact hi)
      go_wp2_with fail
      refine (valuesv_any _ _ ⟨_, _, _, rfl⟩).mono ?_
      rintro e w1 ⟨rfl, hw1⟩
      have hb1 : Below wr.heap.size wr w1 := by rw [hw1]; exact bl1 _ _
      have hx1 : Boxed w1 wr.heap.size 24 (.slice q l.length c) := by rw [hw1, ← HN.out]; exact Boxed.new _ _ _
      have HB1 := Lib.hid (Below.thru HB.out HB.out.size hb1)
      have HS := Lib.hid (sf_any wr.heap.size q c l w1 (fun h => by obtain ⟨b, o, e, hr⟩ := HQ.out h; exact ⟨b, o, e, hr.keep HB1.out⟩) (by rw [← HN.out]; omega) HIn.out hx1)
      clear hw1 hb1 hx1
      go_wp2_with fail
      refine HS.out.mono ?_
      rintro e w2 ⟨⟨q', m, c', rfl, hA⟩, hb2⟩
      have HB2 := Lib.hid (Below.thru HB1.out HB1.out.size hb2)
      have HA := Lib.hid (hA w2 (Below.refl _ _))
      clear hA hb2 HS
      go_wp2_with fail
      refine HA.out.mono ?_
      rintro e w3 ⟨⟨q3, c3, H, rfl, hF, hO⟩, hb3⟩
      have HB3 := Lib.hid (Below.thru HB2.out HB2.out.size hb3)
      have HHF := Lib.hid hF; have HHO := Lib.hid hO
      clear hF hO HA
      by_cases h3 : H.length < 3
      · have h3' : (H.length : Int) < 3 := by omega
        go_wp2
        go_ret2
        exact ⟨⟨_, _, rfl, .inr ⟨HIn.out, H, HHF.out, .inl ⟨h3, rfl, rfl⟩⟩⟩, HB3.out⟩
      · have h3' : ¬ (H.length : Int) < 3 := by omega
        have hsm := HHF.out.sm HIn.out (by rw [← HN.out]; exact h12) (by omega)
        obtain ⟨g, cc, hve, hrg, _⟩ := own_someV (HHO.out (by omega)) (by omega)
        have HSM := Lib.hid hsm
        have HP := Lib.hid (put_any g 0 c3 H w3 hrg (by omega) hsm.1 hsm.2)
        injection hve with e1 e2 e3
        subst e1 e3; clear e2
        have HL12 := Lib.hid hsm.1
        clear hsm hrg hb3
        go_wp2_with fail
        refine HP.out.mono ?_
        rintro e w4 ⟨⟨v4, rfl, ho4⟩, hb4⟩
        have HB4 := Lib.hid (Below.thru HB3.out HB3.out.size hb4)
        obtain ⟨g4, c4, rfl, hr4, hg4, _⟩ := own_someV ho4 (by rw [stl_len]; omega)
        have HO4 := Lib.hid ho4
        have HFA := Lib.hid (farthest_any g4 0 c4 (stl H) w4 hr4 (by rw [stl_len]; omega) (by rw [stl_len]; have := HL12.out; omega))
        have HSL := Lib.hid (stl_len H)
        clear ho4 hb4 hr4
        go_wp2_with fail
        refine HFA.out.mono ?_
        rintro e w5 ⟨rfl, hb5⟩
        obtain ⟨mx, hmx⟩ : ∃ m, m = mxx (stl H) (stl H).length := ⟨_, rfl⟩
        obtain ⟨mz, hmz⟩ : ∃ m, m = mxz (stl H) (stl H).length := ⟨_, rfl⟩
        rw [← hmx, ← hmz]
        have HMX := Lib.hid hmx; have HMZ := Lib.hid hmz
        have HB5 := Lib.hid (Below.thru HB4.out HB4.out.size hb5)
        have HO5 := Lib.hid ((own_keep HO4.out hb5).base HB3.out.size)
        have HB6 : Hid (Below w.heap.size w (w5.alloc (.cells #[.int .i64 mx, .int .i64 mz] 37))) := HB5.out.alloc HB5.out.size _
        have HO6 : Hid (Own (w5.alloc (.cells #[.int .i64 mx, .int .i64 mz] 37)) w.heap.size (.slice (some ⟨g4, 0, none⟩) (stl H).length c4) (stl H)) := own_keep HO5.out (bl1 _ _)
        have hsl := HSL.out
        rw [hsl] at HO6 ⊢
        clear hb5 hmx hmz
        by_cases g1 : 12 < H.length
        · have g1' : (12 : Int) < (H.length : Int) := by omega
          go_wp2
          go_ret2
          exact ⟨⟨_, _, rfl, .inr ⟨HIn.out, H, HHF.out, .inr (.inl ⟨by omega, .inl g1, rfl, rfl⟩)⟩⟩, HB6.out⟩
        · have g1' : ¬ (12 : Int) < (H.length : Int) := by omega
          by_cases g2 : 2000 < mx
          · go_wp2
            go_ret2
            exact ⟨⟨_, _, rfl, .inr ⟨HIn.out, H, HHF.out, .inr (.inl ⟨by omega, .inr (.inl (by rw [← HMX.out]; exact g2)), rfl, rfl⟩)⟩⟩, HB6.out⟩
          · by_cases g3 : 2000 < mz
            · go_wp2
              go_ret2
              exact ⟨⟨_, _, rfl, .inr ⟨HIn.out, H, HHF.out, .inr (.inl ⟨by omega, .inr (.inr (by rw [← HMZ.out]; exact g3)), rfl, rfl⟩)⟩⟩, HB6.out⟩
            · go_wp2
              go_ret2
              exact ⟨⟨_, _, rfl, .inr ⟨HIn.out, H, HHF.out, .inr (.inr ⟨by omega, by omega, by rw [← HMX.out]; omega, by rw [← HMZ.out]; omega, rfl, HO6.out⟩)⟩⟩, HB6.out⟩
end Go.Proofs.YtljmhejljpfaiaaGreat

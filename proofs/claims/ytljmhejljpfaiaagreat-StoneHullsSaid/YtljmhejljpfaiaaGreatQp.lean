import Derived.Test.YtljmhejljpfaiaaGreatQo
namespace Go.Proofs.YtljmhejljpfaiaaGreat
set_option maxRecDepth 100000
open Go.RowKit Go.Shelf

/-! the reference's Hull -/
theorem D3_sum (o a b c : Pt) : D3 a b c = D3 o a b + D3 o b c + D3 o c a := by unfold D3; grind
def FlI (l : List Pt) (i : Nat) : Prop := ∀ k, k < l.length → D3 (px l 0, pz l 0) (px l i, pz l i) (px l k, pz l k) = 0
theorem mem_at {l : List Pt} {p : Pt} (h : p ∈ l) : ∃ i, i < l.length ∧ p = (px l i, pz l i) := by
  obtain ⟨j, hj, e⟩ := List.getElem_of_mem h
  refine ⟨j, hj, ?_⟩
  unfold px pz
  rw [List.getD_eq_getElem?_getD, List.getElem?_eq_getElem hj, ← e]; rfl
theorem at_mem {l : List Pt} {i : Nat} (h : i < l.length) : (px l i, pz l i) ∈ l := by
  have : (px l i, pz l i) = l[i] := by
    unfold px pz
    rw [List.getD_eq_getElem?_getD, List.getElem?_eq_getElem h]; rfl
  rw [this]
  exact List.getElem_mem h
theorem flt_iff (l : List Pt) : Flt l ↔ ∀ i, i < l.length → FlI l i := by
  constructor
  · intro h i hi k hk
    exact h _ _ _ (at_mem (by omega)) (at_mem hi) (at_mem hk)
  · intro h a b c ha hb hc
    obtain ⟨i, hi, rfl⟩ := mem_at ha
    obtain ⟨j, hj, rfl⟩ := mem_at hb
    obtain ⟨k, hk, rfl⟩ := mem_at hc
    rw [D3_sum (px l 0, pz l 0), h i hi j hj, h j hj k hk, h k hk i hi]; rfl
/-- the reference's step: the next corner so far -/
def wrp (p q r : Pt) : Pt := if q = p ∨ D3 p q r < 0 ∨ (D3 p q r = 0 ∧ fr2 p q < fr2 p r) then r else q
theorem fr2_nn (p q : Pt) : 0 ≤ fr2 p q := by
  have a := sq_nn (p.1 - q.1)
  have b := sq_nn (p.2 - q.2)
  unfold fr2; omega
theorem fr2_self (p : Pt) : fr2 p p = 0 := by unfold fr2; simp
theorem wrp_at {l : List Pt} {p s : Pt} (h : Nx l p s) {q : Pt} (hq : q = p ∨ q ∈ l) : wrp p q s = s := by
  unfold wrp
  by_cases e : q = p
  · rw [if_pos (.inl e)]
  · rcases hq with hq | hq
    · exact absurd hq e
    · by_cases es : q = s
      · rw [es]; split <;> rfl
      · rw [if_pos]
        rcases h.2 q hq e with k | ⟨k, k'⟩
        · exact .inr (.inl (by rw [D3_swap]; omega))
        · rcases k' with k' | k'
          · exact absurd k' es
          · exact .inr (.inr ⟨by rw [D3_swap]; omega, k'⟩)
theorem wrp_stay {l : List Pt} {p s : Pt} (h : Nx l p s) {r : Pt} (hr : r ∈ l) : wrp p s r = s := by
  unfold wrp
  by_cases e : r = p
  · subst e
    rw [if_neg]
    rintro (k | k | ⟨_, k⟩)
    · exact h.1 k
    · rw [D3_same1] at k; omega
    · have := fr2_nn r s
      rw [fr2_self] at k; omega
  · by_cases es : r = s
    · subst es; split <;> rfl
    · rw [if_neg]
      rintro (k | k | ⟨k, k'⟩)
      · exact h.1 k
      · rcases h.2 r hr e with j | ⟨j, _⟩ <;> omega
      · rcases h.2 r hr e with j | ⟨_, j | j⟩
        · omega
        · exact es j
        · omega
theorem wrp_mem {l : List Pt} {p q r : Pt} (hq : q = p ∨ q ∈ l) (hr : r ∈ l) : wrp p q r = p ∨ wrp p q r ∈ l := by
  unfold wrp
  split
  · exact .inr hr
  · exact hq
theorem wrp_fold {l : List Pt} {p s : Pt} (h : Nx l p s) : ∀ (T : List Pt) (q : Pt), (∀ x, x ∈ T → x ∈ l) → (q = p ∨ q ∈ l) → (s ∈ T ∨ q = s) → T.foldl (wrp p) q = s
  | [], q, _, _, hs => by
    rcases hs with hs | hs
    · simp at hs
    · exact hs
  | r :: T, q, hT, hq, hs => by
    have hr := hT r (by simp)
    refine wrp_fold h T (wrp p q r) (fun x hx => hT x (List.mem_cons_of_mem _ hx)) (wrp_mem hq hr) ?_
    rcases hs with hs | hs
    · rcases List.mem_cons.1 hs with rfl | hs
      · exact .inr (wrp_at h hq)
      · exact .inl hs
    · subst hs
      exact .inr (wrp_stay h hr)
theorem not_in_take {l : List Pt} (h : l.Nodup) {j : Nat} (hj : j < l.length) : ¬ l.getD j (0, 0) ∈ l.take j := by
  intro hm
  obtain ⟨i, hi, e⟩ := List.getElem_of_mem hm
  rw [List.length_take] at hi
  have hp := List.pairwise_iff_getElem.1 h i j (by omega) hj (by omega)
  apply hp
  have e2 : (l.take j)[i]'(by rw [List.length_take]; omega) = l[i]'(by omega) := by simp
  rw [← e2, e, List.getD_eq_getElem?_getD, List.getElem?_eq_getElem hj]; rfl
/-- a box of a point of the reference -/
def P3 (T : Nat) (p : Pt) (W : World) : Prop := W.heap[T]? = some (.cells #[.int .i64 p.1, .int .i64 p.2] 31 (0, 0))
theorem P3.cells {T : Nat} {p : Pt} {W : World} (h : P3 T p W) : W.cell? ⟨T, 0, none⟩ = some (.int .i64 p.1) ∧ W.cell? ⟨T, 1, none⟩ = some (.int .i64 p.2) := by
  unfold P3 at h
  exact ⟨by simp [World.cell?, h], by simp [World.cell?, h]⟩
theorem P3.frozen {T : Nat} {p : Pt} {W : World} (h : P3 T p W) (i : Nat) : W.frozen? ⟨T, i, none⟩ = false := by
  unfold World.frozen?
  dsimp only
  rw [show W.heap[T]? = _ from h]
  simp
theorem P3.lt {T : Nat} {p : Pt} {W : World} (h : P3 T p W) : T < W.heap.size := (Array.getElem?_eq_some_iff.1 h).1
theorem P3.below {T : Nat} {p : Pt} {W W' : World} (h : P3 T p W) (k : Below W.heap.size W W') : P3 T p W' := (k.block T h.lt).trans h
theorem P3.under {T B : Nat} {p : Pt} {W W' : World} (h : P3 T p W) (k : Below B W W') (hT : T < B) : P3 T p W' := (k.block T hT).trans h
theorem P3.new (W : World) (p : Pt) : P3 W.heap.size p (W.alloc (.cells #[.int .i64 p.1, .int .i64 p.2] 31)) := World.alloc_heap_new W _
theorem P3.set {T : Nat} {p r : Pt} {W : World} (h : P3 T p W) : P3 T r ((W.setCell ⟨T, 0, none⟩ (.int .i64 r.1)).setCell ⟨T, 1, none⟩ (.int .i64 r.2)) := by
  have s0 : ∀ {X : World} {i : Nat} {cur : Array Value} {v : Value}, X.heap[T]? = some (.cells cur 31 (0, 0)) → (X.setCell ⟨T, i, none⟩ v).heap[T]? = some (.cells (cur.setIfInBounds i v) 31 (0, 0)) := fun h => by
    unfold World.setCell
    dsimp only
    rw [Array.getElem?_modify, if_pos rfl, h]
    rfl
  exact s0 (s0 h)
theorem ownR_set {w : World} {base T i : Nat} {v u : Value} {l : List Pt} (h : OwnR w base v l) (hn : v.ownBlock ≠ some T) : OwnR (w.setCell ⟨T, i, none⟩ u) base v l :=
  own_of h fun g cap hv _ => Below.heap_setCell _ _ _ _ (by
    rintro rfl
    exact hn (by rw [hv]; rfl))
theorem ownR_later {w w' : World} {base : Nat} {v : Value} {l : List Pt} (h : OwnR w base v l) (hb : Below w.heap.size w w') : OwnR w' base v l :=
  own_of h fun g _ _ ⟨_, hg⟩ => hb.block g (Array.getElem?_eq_some_iff.1 hg).1
set_option maxHeartbeats 16000000 in
theorem refhull_any (b o c : Nat) (l H : List Pt) (q : Option Addr) (w : World) (hq : 0 < l.length → q = some ⟨b, o, none⟩ ∧ Row w b o l) (h12 : l.length ≤ 1000) (hs : ∀ i, i < l.length → Sm (px l i) ∧ Sm (pz l i)) (hHl : H.length ≤ 1000)
    (hH : ¬ Flt l → 3 ≤ H.length ∧ H.Nodup ∧ (∀ x, x ∈ H → x ∈ l) ∧ (∀ p, p ∈ l → lxe (H.getD 0 (0, 0)) p) ∧ ∀ k, k < H.length → Nx l (H.getD k (0, 0)) (H.getD ((k + 1) % H.length) (0, 0))) :
    Calls Tryz.prog 8 #[.slice q l.length c] w fun e w' => ((Flt l ∧ e = .returned (.tuple #[.slice none 0 0, .bool false])) ∨ (¬ Flt l ∧ ∃ v, e = .returned (.tuple #[v, .bool true]) ∧ OwnR w' w.heap.size v (stl H))) ∧ Below w.heap.size w w' := by
  have HQ := Lib.hid hq; have HS := Lib.hid hs; have HH := Lib.hid hH
  have HFL := Lib.hid (flt_iff l)
  obtain ⟨n, hn⟩ : ∃ n, n = l.length := ⟨_, rfl⟩
  have HNL := Lib.hid hn
  have HFI : Hid (∀ i, FlI l i ↔ ∀ k, k < n → D3 (px l 0, pz l 0) (px l i, pz l i) (px l k, pz l k) = 0) := fun i => by rw [hn]; exact Iff.rfl
  rw [← hn] at HQ HS HFL h12 ⊢
  clear hn hq hs hH
  go_enter Tryz.func8, Tryz.ntmps8
  go_wp2
  go_loopw [4, 5] (fun u i wr => ∃ (k : Nat) (bb : Bool), k ≤ n ∧ u = .bool bb ∧ i = .int .i64 k ∧ Hid (bb = true ↔ ∀ a, a < k → FlI l a) ∧ Hid (Below w.heap.size w wr)) (fun _ i _ => n - (intOf i).toNat)
  case atStart => exact ⟨0, true, Nat.zero_le _, rfl, rfl, ⟨fun _ a ha => absurd ha (by omega), fun _ => rfl⟩, Below.refl _ _⟩
  case round =>
    obtain ⟨k, bb, hk, rfl, rfl, HBB, HB⟩ := hrel
    by_cases hlt : k < n
    · go_wp2
      go_loopw [4, 6] (fun u i wr => ∃ (j : Nat) (b2 : Bool), j ≤ n ∧ u = .bool b2 ∧ i = .int .i64 j ∧ Hid (b2 = true ↔ (∀ a, a < k → FlI l a) ∧ ∀ m, m < j → D3 (px l 0, pz l 0) (px l k, pz l k) (px l m, pz l m) = 0) ∧ Hid (Below w.heap.size w wr)) (fun _ i _ => n - (intOf i).toNat)
      case atStart => exact ⟨0, bb, Nat.zero_le _, rfl, rfl, ⟨fun h => ⟨HBB.out.1 h, fun m hm => absurd hm (by omega)⟩, fun h => HBB.out.2 h.1⟩, HB.out⟩
      case round =>
        obtain ⟨j, b2, hj, rfl, rfl, HB2, HBW⟩ := hrel
        by_cases hjt : j < n
        · obtain ⟨rfl, hr⟩ := HQ.out (by omega)
          have hr2 := hr.keep HBW.out
          obtain ⟨a0, a1⟩ := hr2 0 (by have := HNL.out; omega)
          obtain ⟨c0, c1⟩ := hr2 k (by have := HNL.out; omega)
          obtain ⟨d0, d1⟩ := hr2 j (by have := HNL.out; omega)
          simp only [Nat.zero_mul, Nat.add_zero] at a0 a1
          have s0 := HS.out 0 (by omega); have s1 := HS.out k hlt; have s2 := HS.out j hjt
          have HT := Lib.hid (quiet_below (fun w => side_any (px l 0) (pz l 0) (px l k) (pz l k) (px l j) (pz l j) w s0.1 s0.2 s1.1 s1.2 s2.1 s2.2))
          have hD : trn (px l 0) (pz l 0) (px l k) (pz l k) (px l j) (pz l j) = D3 (px l 0, pz l 0) (px l k, pz l k) (px l j, pz l j) := by unfold trn D3; grind
          rw [hD] at HT
          have HNX : Hid (∀ b3 : Bool, b3 = (b2 && decide (D3 (px l 0, pz l 0) (px l k, pz l k) (px l j, pz l j) = 0)) → (b3 = true ↔ (∀ a, a < k → FlI l a) ∧ ∀ m, m < j + 1 → D3 (px l 0, pz l 0) (px l k, pz l k) (px l m, pz l m) = 0)) := fun b3 e => by
            rw [e, Bool.and_eq_true, decide_eq_true_eq]
            constructor
            · rintro ⟨h1, h2⟩
              refine ⟨(HB2.out.1 h1).1, fun m hm => ?_⟩
              rcases Nat.lt_or_ge m j with e | e
              · exact (HB2.out.1 h1).2 m e
              · obtain rfl : m = j := by omega
                exact h2
            · rintro ⟨h1, h2⟩
              exact ⟨HB2.out.2 ⟨h1, fun m hm => h2 m (by omega)⟩, h2 j (by omega)⟩
          have f1 := cell_regrown a0; have f2 := cell_regrown a1; have f3 := cell_regrown c0; have f4 := cell_regrown c1; have f5 := cell_regrown d0; have f6 := cell_regrown d1
          clear a0 a1 c0 c1 d0 d1 s0 s1 s2 hD hr hr2
          generalize D3 (px l 0, pz l 0) (px l k, pz l k) (px l j, pz l j) = D at *
          have hn0 : 0 < n := by omega
          cases b2 with
          | false =>
            have HN := Lib.hid (HNX.out false rfl)
            clear HNX
            go_wp2_with fail
            refine wp_region_quiet_below (by kernel_rfl) (by kernel_rfl) ?_
            repeat (any_goals (first | go_big_quiet_step (fail) | quiet_step (fail)))
            refine wpQuiet_nil ?_
            intro _ hw'
            obtain ⟨⟨dq, osq⟩, hw''⟩ := hw'
            subst hw''
            have k9 := Below.thru HBW.out HBW.out.size (below_regrown wr dq osq)
            clear f1 f2 f3 f4 f5 f6
            generalize Sort.grow (redrawn wr dq) osq = w9 at *
            go_wp2
            go_roundw
            case rel => exact ⟨j + 1, false, by omega, rfl, by go_num, HN.out, k9⟩
            case measure => simp [intOf] <;> omega
          | true =>
            by_cases hd : D = 0
            · have HN := Lib.hid (HNX.out true (by simp [hd]))
              subst hd
              clear HNX
              go_wp2_with fail
              refine wp_region_quiet_below (by kernel_rfl) (by kernel_rfl) ?_
              repeat (any_goals (first | go_big_quiet_step ((go_at_call 24; exact HT.out wr _ _)) | quiet_step ((go_at_call 24; exact HT.out wr _ _))))
              refine wpQuiet_nil ?_
              intro _ hw'
              obtain ⟨⟨dq, osq⟩, hw''⟩ := hw'
              subst hw''
              have k9 := Below.thru HBW.out HBW.out.size (below_regrown wr dq osq)
              clear f1 f2 f3 f4 f5 f6
              generalize Sort.grow (redrawn wr dq) osq = w9 at *
              go_wp2
              go_roundw
              case rel => exact ⟨j + 1, true, by omega, rfl, by go_num, Iff.intro (fun _ => HN.out.1 (by simp)) (fun _ => rfl), k9⟩
              case measure => simp [intOf] <;> omega
            · have HN := Lib.hid (HNX.out false (by simp [hd]))
              have hd2 : (D == 0) = false := by simpa using hd
              clear HNX hd
              go_wp2_with fail
              refine wp_region_quiet_below (by kernel_rfl) (by kernel_rfl) ?_
              repeat (any_goals (first | go_big_quiet_step ((go_at_call 24; exact HT.out wr _ _)) | quiet_step ((go_at_call 24; exact HT.out wr _ _))))
              refine wpQuiet_nil ?_
              intro _ hw'
              obtain ⟨⟨dq, osq⟩, hw''⟩ := hw'
              subst hw''
              have k9 := Below.thru HBW.out HBW.out.size (below_regrown wr dq osq)
              clear f1 f2 f3 f4 f5 f6
              generalize Sort.grow (redrawn wr dq) osq = w9 at *
              go_wp2
              go_roundw
              case rel => exact ⟨j + 1, false, by omega, rfl, by go_num, HN.out, k9⟩
              case measure => simp [intOf] <;> omega
        · obtain rfl : j = n := by omega
          have HN : Hid (b2 = true ↔ ∀ a, a < k + 1 → FlI l a) := by
            rw [HB2.out]
            constructor
            · rintro ⟨h1, h2⟩ a ha
              rcases Nat.lt_or_ge a k with e | e
              · exact h1 a e
              · obtain rfl : a = k := by omega
                exact (HFI.out _).2 h2
            · intro h
              exact ⟨fun a ha => h a (by omega), (HFI.out k).1 (h k (by omega))⟩
          go_wp2
          go_roundw
          case rel => exact ⟨k + 1, b2, by omega, rfl, by go_num, HN.out, HBW.out⟩
          case measure => simp [intOf] <;> omega
    · obtain rfl : k = n := by omega
      have HF : Hid (bb = true ↔ Flt l) := by
        rw [HBB.out, HFL.out]
        have := HNL.out
        exact Iff.rfl
      cases bb with
      | true =>
        have HF1 := Lib.hid (HF.out.1 rfl)
        go_wp2
        go_ret2
        exact ⟨.inl ⟨HF1.out, rfl⟩, HB.out⟩
      | false =>
        have HF1 : Hid (¬ Flt l) := fun h => by cases HF.out.2 h
        have hH := HH.out HF1.out
        have hn1 : 1 ≤ k := by
          rcases Nat.eq_zero_or_pos k with e | e
          · exfalso
            refine HF1.out fun a b c ha => ?_
            obtain ⟨i, hi, _⟩ := mem_at ha
            have := HNL.out
            omega
          · exact e
        obtain ⟨rfl, hr⟩ := HQ.out (by omega)
        have hnl := HNL.out
        have hf := first_any b o c l wr (hr.keep HB.out) (by omega) (by omega)
        rw [← hnl] at hf
        have HFA := Lib.hid hf
        have HR := Lib.hid hr
        clear hf hr hnl
        go_wp2_with fail
        refine HFA.out.mono ?_
        rintro e w1 ⟨rfl, hb1⟩
        have K1 := Lib.hid (Below.thru HB.out HB.out.size hb1)
        have hfl := fst_lt l k k (by omega) (Nat.le_refl _)
        have hmin := (fst_least l k).1
        have hFE : (px l (fst l k), pz l (fst l k)) = H.getD 0 (0, 0) := by
          have hnl := HNL.out
          refine lxe_asymm ?_ (hH.2.2.2.1 _ (at_mem (by omega)))
          obtain ⟨m, hm, e⟩ := mem_at (hH.2.2.1 (H.getD 0 (0, 0)) (by
            rw [List.getD_eq_getElem?_getD, List.getElem?_eq_getElem (by omega)]
            exact List.getElem_mem _))
          rw [e]
          have := hmin m (by omega)
          rcases lxe_total (px l (fst l k), pz l (fst l k)) (px l m, pz l m) with r | r
          · exact r
          · exact absurd r (by unfold Lx at this; unfold lxl; exact this)
        obtain ⟨f0, f1⟩ := (HR.out.keep K1.out) (fst l k) (by have := HNL.out; omega)
        generalize fst l k = fi at *
        generalize hxa : px l fi = xa at *
        generalize hza : pz l fi = za at *
        clear hb1 HFA hmin
        obtain ⟨N, hNe⟩ : ∃ N, N = H.length := ⟨_, rfl⟩
        rw [← hNe] at hH hHl
        have HNE0 := Lib.hid hNe
        have HHH := Lib.hid hH
        have hN3 := hH.1
        have HSM : Hid (∀ j, j < N → Sm (H.getD j (0, 0)).1 ∧ Sm (H.getD j (0, 0)).2) := fun j hj => by
          have hnl := HNL.out
          obtain ⟨m, hm, e⟩ := mem_at (HHH.out.2.2.1 (H.getD j (0, 0)) (by
            rw [List.getD_eq_getElem?_getD, List.getElem?_eq_getElem (by omega)]
            exact List.getElem_mem _))
          rw [e]
          exact HS.out m (by omega)
        have HFE := Lib.hid hFE
        have hBa := Lib.hid (Below.thru K1.out K1.out.size (bl2 w1 (.cells #[.int .i64 xa, .int .i64 za] 31) (.cells #[.int .i64 xa, .int .i64 za] 31)))
        have hP9 : Hid (P3 (w1.heap.size + 1) (xa, za) ((w1.alloc (.cells #[.int .i64 xa, .int .i64 za] 31)).alloc (.cells #[.int .i64 xa, .int .i64 za] 31))) := by
          have := P3.new (w1.alloc (.cells #[.int .i64 xa, .int .i64 za] 31)) (xa, za)
          rw [World.size_alloc] at this
          exact this
        have HK1 := Lib.hid K1.out.size
        obtain ⟨i0, hi, hz0, hz1, hz2⟩ := info_parts Tryz.info31
        clear hH hNe hFE hxa hza
        go_wp2
        go_loopw [8, 9] (fun u t wr => ∃ (j : Nat) (q2 : Option Addr) (c2 T : Nat), j ≤ N ∧ u = .slice q2 j c2 ∧ t = .pointer (some ⟨T, 0, none⟩) ∧ Hid (OwnR wr w.heap.size (.slice q2 j c2) (H.take j)) ∧ Hid (P3 T (H.getD (j % N) (0, 0)) wr ∧ w.heap.size ≤ T ∧ (Value.slice q2 j c2).ownBlock ≠ some T) ∧ Hid (Below w.heap.size w wr)) (fun u _ _ => match u with | .slice _ m _ => N - m | _ => 0)
        case atStart => exact ⟨0, none, 0, w1.heap.size + 1, Nat.zero_le _, rfl, rfl, World.ownsRow_nil _ _ _ _, ⟨by rw [Nat.zero_mod, ← HFE.out]; exact hP9.out, by have := HK1.out; omega, by simp [Value.ownBlock]⟩, hBa.out⟩
        case round =>
          obtain ⟨j, q2, c2, T, hj, rfl, rfl, HO, HP3, HBL⟩ := hrel
          have hjl : (H.take j).length = j := by rw [List.length_take]; have := HNE0.out; omega
          obtain ⟨gq, hgq⟩ : ∃ gq, 0 < (H.take j).length → q2 = some ⟨gq, 0, none⟩ ∧ Row wr gq 0 (H.take j) := by
            rcases HO.out.row with ⟨_, e⟩ | ⟨g, c', e, hr, _⟩
            · exact ⟨0, fun h => by rw [e] at h; simp at h⟩
            · exact ⟨g, fun _ => ⟨by injection e, hr⟩⟩
          have hjm : j % N < N := Nat.mod_lt _ (by omega)
          have hsm := HSM.out _ hjm
          have hhas := has_any q2 gq 0 c2 (H.take j) (H.getD (j % N) (0, 0)).1 (H.getD (j % N) (0, 0)).2 wr hgq (by omega)
          rw [hjl] at hhas
          obtain ⟨p0, p1⟩ := HP3.out.1.cells
          obtain ⟨x, hx⟩ : ∃ x, x = (H.getD (j % N) (0, 0)).1 := ⟨_, rfl⟩
          obtain ⟨z, hz⟩ : ∃ z, z = (H.getD (j % N) (0, 0)).2 := ⟨_, rfl⟩
          have HPE : Hid (H.getD (j % N) (0, 0) = (x, z)) := Prod.ext hx.symm hz.symm
          rw [← hx, ← hz] at hhas hsm
          rw [← hx] at p0
          rw [← hz] at p1
          have HAS := Lib.hid hhas
          have HSX := Lib.hid hsm
          clear hhas hx hz hsm hjm hgq hjl
          go_wp2_with fail
          refine HAS.out.mono ?_
          rintro e w3 ⟨⟨bv, rfl, hbv⟩, hb3⟩
          have HBV := Lib.hid hbv
          have HO3 := Lib.hid (ownR_later HO.out hb3)
          have HP33 := Lib.hid (HP3.out.1.below hb3)
          have HB3 := Lib.hid (Below.thru HBL.out HBL.out.size hb3)
          clear hbv hb3 p0 p1 HAS
          by_cases hjN : j < N
          · have hbf : bv = false := by
              cases bv with
              | false => rfl
              | true =>
                exfalso
                have h1 := HBV.out.1 rfl
                rw [← HPE.out, Nat.mod_eq_of_lt hjN] at h1
                exact not_in_take HHH.out.2.1 (by have := HNE0.out; omega) h1
            subst hbf
            obtain ⟨p0, p1⟩ := HP33.out.cells
            rw [HPE.out] at p0 p1
            have HE1 : Hid (cls (H.take (j + 1)) = cls (H.take j) ++ [.int .i64 x, .int .i64 z]) := by
              have hl := HNE0.out
              have : H.take (j + 1) = H.take j ++ [(x, z)] := by
                rw [List.take_succ_eq_append_getElem (by omega), ← HPE.out, Nat.mod_eq_of_lt hjN, List.getD_eq_getElem?_getD, List.getElem?_eq_getElem (by omega)]; rfl
              rw [this, cls_snoc]
              rfl
            have HJL : Hid ((H.take j).length = j) := by show _ = _; rw [List.length_take]; have := HNE0.out; omega
            have HO4 : Hid (w3.ownsRow w.heap.size 31 2 (.slice q2 j c2) j (cls (H.take j))) := by have h := HO3.out; unfold OwnR at h; rw [HJL.out] at h; exact h
            have HNB := Lib.hid HP3.out.2
            clear HO3 HO HP3 HBL HBV
            go_wp2_with (at_builtin; refine wpList_append_own_at _ rfl (.tmp 52) (.tmp 54) 22 rfl w.heap.size 31 i0 (.agg #[.int .i64 0, .int .i64 0]) 2 16 Tryz.underlying22' hi hz0 hz1 hz2 rfl (by decide) _ _ _ rfl (HO4.out.alloc _) ⟨w3.heap.size, 0, none⟩ 1 1 [.int .i64 x, .int .i64 z] rfl rfl two_new (by simp [Value.oneCell']) (by unfold maxLen; omega) (by omega) (by have := HB3.out.size; simp; omega) ?_; intro v' w5 hown' hgrow _ hob; obtain ⟨vp, vn, vc, rfl⟩ := own_form hown'; have H9 := Lib.hid (And.intro hown' (And.intro hgrow hob)); have hP5 : P3 T (x, z) w5 := (by have h := HP33.out; rw [HPE.out] at h; exact (hgrow.block T (by have := h.lt; simp; omega) (by have := HNB.out.2; exact fun e => this e.symm)).trans ((Below.heap_alloc _ _ _ h.lt).trans h)); have HP5 := Lib.hid hP5; obtain ⟨p2, p3⟩ := hP5.cells; clear hown' hgrow hob hP5 p0 p1)
            have HO6 : Hid (OwnR w5 w.heap.size (.slice vp vn vc) (H.take (j + 1)) ∧ vn = j + 1 ∧ (Value.slice vp vn vc).ownBlock ≠ some T) := by
              obtain ⟨ho, hg, hob⟩ := H9.out
              have hl : (H.take (j + 1)).length = j + 1 := by rw [List.length_take]; have := HNE0.out; omega
              have hO : OwnR w5 w.heap.size (.slice vp vn vc) (H.take (j + 1)) := by
                show World.ownsRow _ _ _ _ _ _ _
                rw [hl, HE1.out]; exact ho
              refine ⟨hO, ?_, ?_⟩
              · rcases hO.2 with ⟨_, e⟩ | ⟨g, cap, cur, e, _⟩
                · rw [hl] at e; omega
                · injection e with _ e2; rw [e2, hl]
              · rcases hob with e | e
                · rw [e]; exact HNB.out.2
                · rw [e]
                  have := HP33.out.lt
                  simp
                  omega
            have HB5 : Hid (Below w.heap.size w w5) := by
              obtain ⟨_, hg, _⟩ := H9.out
              refine ((HB3.out).alloc HB3.out.size _).grown hg (by have := HB3.out.size; simp; omega) (fun r e => ?_)
              rcases HO4.out.2 with ⟨e2, _⟩ | ⟨g, cap, cur, e2, hb2, _⟩
              · rw [e2] at e; cases e
              · rw [e2] at e; cases e; exact hb2
            obtain ⟨hO6, rfl, hob6⟩ := HO6.out
            have HOO := Lib.hid hO6
            have HOB := Lib.hid hob6
            clear hO6 hob6 HO6 H9
            have HNX := Lib.hid (HHH.out.2.2.2.2 j (by have := HNE0.out; omega))
            have HT10 : Hid (P3 w5.heap.size (x, z) (w5.alloc (.cells #[.int .i64 x, .int .i64 z] 31))) := P3.new w5 (x, z)
            have HBT := Lib.hid (bl1 w5 (.cells #[.int .i64 x, .int .i64 z] 31))
            go_loopw [11] (fun i wr => ∃ m : Nat, m ≤ k ∧ i = .int .i64 m ∧ Hid (P3 w5.heap.size ((l.take m).foldl (wrp (x, z)) (x, z)) wr) ∧ Hid (Below w5.heap.size w5 wr)) (fun i _ => k - (intOf i).toNat)
            case atStart => exact ⟨0, Nat.zero_le _, rfl, HT10.out, HBT.out⟩
            case round =>
              obtain ⟨m, hm, rfl, HPQ, HBQ⟩ := hrel
              by_cases hmt : m < k
              · have hnl := HNL.out
                have HST : Hid ((l.take (m + 1)).foldl (wrp (x, z)) (x, z) = wrp (x, z) ((l.take m).foldl (wrp (x, z)) (x, z)) (px l m, pz l m)) := by
                  have : l.take (m + 1) = l.take m ++ [(px l m, pz l m)] := by
                    rw [List.take_succ_eq_append_getElem (by omega)]
                    unfold px pz
                    rw [List.getD_eq_getElem?_getD, List.getElem?_eq_getElem (by omega)]; rfl
                  rw [this, List.foldl_append]; rfl
                have hqm : ∀ (T : List Pt) (q : Pt), (∀ y, y ∈ T → y ∈ l) → (Sm q.1 ∧ Sm q.2) → Sm (T.foldl (wrp (x, z)) q).1 ∧ Sm (T.foldl (wrp (x, z)) q).2 := fun T => by
                  induction T with
                  | nil => exact fun q _ h => h
                  | cons r T ih =>
                    intro q hT h
                    refine ih (wrp (x, z) q r) (fun y hy => hT y (List.mem_cons_of_mem _ hy)) ?_
                    unfold wrp
                    split
                    · obtain ⟨i, hi, e⟩ := mem_at (hT r (by simp))
                      rw [e]; exact HS.out i (by omega)
                    · exact h
                have hqs := hqm (l.take m) (x, z) (fun y hy => List.mem_of_mem_take hy) HSX.out
                have hrs := HS.out m hmt
                obtain ⟨r0, r1⟩ := (HR.out.keep (Below.thru HB5.out HB5.out.size HBQ.out)) m (by omega)
                have HP9' := Lib.hid (HP5.out.under HBQ.out HP5.out.lt)
                generalize (l.take m).foldl (wrp (x, z)) (x, z) = Q at *
                obtain ⟨qx, qz⟩ := Q
                generalize px l m = rx at *
                generalize pz l m = rz at *
                have HT := Lib.hid (quiet_below (fun w => side_any x z qx qz rx rz w HSX.out.1 HSX.out.2 hqs.1 hqs.2 hrs.1 hrs.2))
                have hD : trn x z qx qz rx rz = D3 (x, z) (qx, qz) (rx, rz) := by unfold trn D3; grind
                rw [hD] at HT
                have HF1 := Lib.hid (quiet_below (fun w => far_any x z rx rz w HSX.out.1 HSX.out.2 hrs.1 hrs.2))
                have HF2 := Lib.hid (quiet_below (fun w => far_any x z qx qz w HSX.out.1 HSX.out.2 hqs.1 hqs.2))
                obtain ⟨D, hDe⟩ : ∃ D, D = D3 (x, z) (qx, qz) (rx, rz) := ⟨_, rfl⟩
                obtain ⟨F1, hF1e⟩ : ∃ D, D = fr2 (x, z) (rx, rz) := ⟨_, rfl⟩
                obtain ⟨F2, hF2e⟩ : ∃ D, D = fr2 (x, z) (qx, qz) := ⟨_, rfl⟩
                have HDE := Lib.hid hDe; have HFE1 := Lib.hid hF1e; have HFE2 := Lib.hid hF2e
                rw [← hDe] at HT
                rw [← hF1e] at HF1
                rw [← hF2e] at HF2
                clear hD hDe hF1e hF2e hqm hqs hrs hnl
                go_upto_region 21 with fail
                have hb7 := bl1 wr (.cells #[.int .i64 rx, .int .i64 rz] 31)
                have HP7 : Hid (P3 w5.heap.size (qx, qz) (wr.alloc (.cells #[.int .i64 rx, .int .i64 rz] 31)) ∧ P3 wr.heap.size (rx, rz) (wr.alloc (.cells #[.int .i64 rx, .int .i64 rz] 31))) := ⟨HPQ.out.below hb7, P3.new wr (rx, rz)⟩
                have K7 := Lib.hid (Below.thru HBQ.out HBQ.out.size hb7)
                have hT9 := (HP9'.out.below hb7).cells
                clear hb7 r0 r1
                generalize wr.alloc (.cells #[.int .i64 rx, .int .i64 rz] 31) = w7 at *
                obtain ⟨a0, a1⟩ := HP7.out.1.cells
                obtain ⟨c0, c1⟩ := HP7.out.2.cells
                obtain ⟨d0, d1⟩ := hT9
                have f1 := cell_regrown a0; have f2 := cell_regrown a1; have f3 := cell_regrown c0; have f4 := cell_regrown c1; have f5 := cell_regrown d0; have f6 := cell_regrown d1
                clear a0 a1 c0 c1 d0 d1
                by_cases hx : qx = x
                · by_cases hz : qz = z
                  · subst hx hz
                    go_wp2_with fail
                    refine wp_region_quiet_below (by kernel_rfl) (by kernel_rfl) ?_
                    repeat (any_goals (first | go_big_quiet_step ((first | (go_at_call 24; exact HT.out w7 _ _) | (go_at_call 27; with_reducible exact HF1.out w7 _ _) | (go_at_call 27; with_reducible exact HF2.out w7 _ _))) | quiet_step ((first | (go_at_call 24; exact HT.out w7 _ _) | (go_at_call 27; with_reducible exact HF1.out w7 _ _) | (go_at_call 27; with_reducible exact HF2.out w7 _ _)))))
                    refine wpQuiet_nil ?_
                    intro _ hw'
                    obtain ⟨⟨dq, osq⟩, hw''⟩ := hw'
                    subst hw''
                    have k9 := below_regrown w7 dq osq
                    have HP9 := Lib.hid (HP7.out.1.below k9)
                    have HR9 := Lib.hid (HP7.out.2.below k9)
                    have K9 := Lib.hid (Below.thru K7.out K7.out.size k9)
                    clear f1 f2 f3 f4 f5 f6 k9
                    generalize Sort.grow (redrawn w7 dq) osq = w9 at *
                    obtain ⟨t0, t1⟩ := HR9.out.cells
                    obtain ⟨u0, u1⟩ := HP9.out.cells
                    have e0 := HP9.out.frozen 0
                    have e1 := HP9.out.frozen 1
                    go_wp2
                    go_roundw
                    case rel =>
                      refine ⟨m + 1, by omega, by go_num, ?_, (K9.out.setCell (Nat.le_refl _) _).setCell (Nat.le_refl _) _⟩
                      rw [HST.out, wrp, if_pos (.inl rfl)]
                      exact HP9.out.set
                    case measure => simp [intOf] <;> omega
                  · subst hx
                    have hz2 : (qz == z) = false := by simpa using hz
                    have HNE : Hid (¬ ((qx, qz) : Pt) = (qx, z)) := fun e => hz (congrArg Prod.snd e)
                    by_cases hd : D < 0
                    · have HW := Lib.hid hd
                      go_wp2_with fail
                      refine wp_region_quiet_below (by kernel_rfl) (by kernel_rfl) ?_
                      repeat (any_goals (first | go_big_quiet_step ((first | (go_at_call 24; exact HT.out w7 _ _) | (go_at_call 27; with_reducible exact HF1.out w7 _ _) | (go_at_call 27; with_reducible exact HF2.out w7 _ _))) | quiet_step ((first | (go_at_call 24; exact HT.out w7 _ _) | (go_at_call 27; with_reducible exact HF1.out w7 _ _) | (go_at_call 27; with_reducible exact HF2.out w7 _ _)))))
                      refine wpQuiet_nil ?_
                      intro _ hw'
                      obtain ⟨⟨dq, osq⟩, hw''⟩ := hw'
                      subst hw''
                      have k9 := below_regrown w7 dq osq
                      have HP9 := Lib.hid (HP7.out.1.below k9)
                      have HR9 := Lib.hid (HP7.out.2.below k9)
                      have K9 := Lib.hid (Below.thru K7.out K7.out.size k9)
                      clear f1 f2 f3 f4 f5 f6 k9
                      generalize Sort.grow (redrawn w7 dq) osq = w9 at *
                      obtain ⟨t0, t1⟩ := HR9.out.cells
                      obtain ⟨u0, u1⟩ := HP9.out.cells
                      have e0 := HP9.out.frozen 0
                      have e1 := HP9.out.frozen 1
                      go_wp2
                      go_roundw
                      case rel =>
                        refine ⟨m + 1, by omega, by go_num, ?_, (K9.out.setCell (Nat.le_refl _) _).setCell (Nat.le_refl _) _⟩
                        rw [HST.out, show wrp (qx, z) (qx, qz) (rx, rz) = (rx, rz) from by unfold wrp; rw [if_pos (.inr (.inl (by rw [← HDE.out]; exact HW.out)))]]
                        exact HP9.out.set
                      case measure => simp [intOf] <;> omega
                    · by_cases hd0 : D = 0
                      · subst hd0
                        by_cases hf : F2 < F1
                        · have HW := Lib.hid hf
                          go_wp2_with fail
                          refine wp_region_quiet_below (by kernel_rfl) (by kernel_rfl) ?_
                          repeat (any_goals (first | go_big_quiet_step ((first | (go_at_call 24; exact HT.out w7 _ _) | (go_at_call 27; with_reducible exact HF1.out w7 _ _) | (go_at_call 27; with_reducible exact HF2.out w7 _ _))) | quiet_step ((first | (go_at_call 24; exact HT.out w7 _ _) | (go_at_call 27; with_reducible exact HF1.out w7 _ _) | (go_at_call 27; with_reducible exact HF2.out w7 _ _)))))
                          refine wpQuiet_nil ?_
                          intro _ hw'
                          obtain ⟨⟨dq, osq⟩, hw''⟩ := hw'
                          subst hw''
                          have k9 := below_regrown w7 dq osq
                          have HP9 := Lib.hid (HP7.out.1.below k9)
                          have HR9 := Lib.hid (HP7.out.2.below k9)
                          have K9 := Lib.hid (Below.thru K7.out K7.out.size k9)
                          clear f1 f2 f3 f4 f5 f6 k9
                          generalize Sort.grow (redrawn w7 dq) osq = w9 at *
                          obtain ⟨t0, t1⟩ := HR9.out.cells
                          obtain ⟨u0, u1⟩ := HP9.out.cells
                          have e0 := HP9.out.frozen 0
                          have e1 := HP9.out.frozen 1
                          go_wp2
                          go_roundw
                          case rel =>
                            refine ⟨m + 1, by omega, by go_num, ?_, (K9.out.setCell (Nat.le_refl _) _).setCell (Nat.le_refl _) _⟩
                            rw [HST.out, show wrp (qx, z) (qx, qz) (rx, rz) = (rx, rz) from by unfold wrp; rw [if_pos (.inr (.inr ⟨HDE.out.symm, by rw [← HFE2.out, ← HFE1.out]; exact HW.out⟩))]]
                            exact HP9.out.set
                          case measure => simp [intOf] <;> omega
                        · have HW := Lib.hid hf
                          go_wp2_with fail
                          refine wp_region_quiet_below (by kernel_rfl) (by kernel_rfl) ?_
                          repeat (any_goals (first | go_big_quiet_step ((first | (go_at_call 24; exact HT.out w7 _ _) | (go_at_call 27; with_reducible exact HF1.out w7 _ _) | (go_at_call 27; with_reducible exact HF2.out w7 _ _))) | quiet_step ((first | (go_at_call 24; exact HT.out w7 _ _) | (go_at_call 27; with_reducible exact HF1.out w7 _ _) | (go_at_call 27; with_reducible exact HF2.out w7 _ _)))))
                          refine wpQuiet_nil ?_
                          intro _ hw'
                          obtain ⟨⟨dq, osq⟩, hw''⟩ := hw'
                          subst hw''
                          have k9 := below_regrown w7 dq osq
                          have HP9 := Lib.hid (HP7.out.1.below k9)
                          have HR9 := Lib.hid (HP7.out.2.below k9)
                          have K9 := Lib.hid (Below.thru K7.out K7.out.size k9)
                          clear f1 f2 f3 f4 f5 f6 k9
                          generalize Sort.grow (redrawn w7 dq) osq = w9 at *
                          obtain ⟨t0, t1⟩ := HR9.out.cells
                          obtain ⟨u0, u1⟩ := HP9.out.cells
                          go_wp2
                          go_roundw
                          case rel =>
                            refine ⟨m + 1, by omega, by go_num, ?_, K9.out⟩
                            rw [HST.out, show wrp (qx, z) (qx, qz) (rx, rz) = (qx, qz) from by unfold wrp; rw [if_neg (by rintro (h | h | ⟨_, h⟩) <;> first | exact HNE.out h | (rw [← HDE.out] at h; omega) | (rw [← HFE2.out, ← HFE1.out] at h; exact absurd h (by have := HW.out; omega)))]]
                            exact HP9.out
                          case measure => simp [intOf] <;> omega
                      · have hd1 : (D == 0) = false := by simpa using hd0
                        have HW := Lib.hid (And.intro hd hd0)
                        go_wp2_with fail
                        refine wp_region_quiet_below (by kernel_rfl) (by kernel_rfl) ?_
                        repeat (any_goals (first | go_big_quiet_step ((first | (go_at_call 24; exact HT.out w7 _ _) | (go_at_call 27; with_reducible exact HF1.out w7 _ _) | (go_at_call 27; with_reducible exact HF2.out w7 _ _))) | quiet_step ((first | (go_at_call 24; exact HT.out w7 _ _) | (go_at_call 27; with_reducible exact HF1.out w7 _ _) | (go_at_call 27; with_reducible exact HF2.out w7 _ _)))))
                        refine wpQuiet_nil ?_
                        intro _ hw'
                        obtain ⟨⟨dq, osq⟩, hw''⟩ := hw'
                        subst hw''
                        have k9 := below_regrown w7 dq osq
                        have HP9 := Lib.hid (HP7.out.1.below k9)
                        have HR9 := Lib.hid (HP7.out.2.below k9)
                        have K9 := Lib.hid (Below.thru K7.out K7.out.size k9)
                        clear f1 f2 f3 f4 f5 f6 k9
                        generalize Sort.grow (redrawn w7 dq) osq = w9 at *
                        obtain ⟨t0, t1⟩ := HR9.out.cells
                        obtain ⟨u0, u1⟩ := HP9.out.cells
                        go_wp2
                        go_roundw
                        case rel =>
                          refine ⟨m + 1, by omega, by go_num, ?_, K9.out⟩
                          rw [HST.out, show wrp (qx, z) (qx, qz) (rx, rz) = (qx, qz) from by unfold wrp; rw [if_neg (by rintro (h | h | ⟨h, _⟩) <;> first | exact HNE.out h | (rw [← HDE.out] at h; exact absurd h (by have := HW.out; omega)))]]
                          exact HP9.out
                        case measure => simp [intOf] <;> omega
                · have hx2 : (qx == x) = false := by simpa using hx
                  have HNE : Hid (¬ ((qx, qz) : Pt) = (x, z)) := fun e => hx (congrArg Prod.fst e)
                  by_cases hd : D < 0
                  · have HW := Lib.hid hd
                    go_wp2_with fail
                    refine wp_region_quiet_below (by kernel_rfl) (by kernel_rfl) ?_
                    repeat (any_goals (first | go_big_quiet_step ((first | (go_at_call 24; exact HT.out w7 _ _) | (go_at_call 27; with_reducible exact HF1.out w7 _ _) | (go_at_call 27; with_reducible exact HF2.out w7 _ _))) | quiet_step ((first | (go_at_call 24; exact HT.out w7 _ _) | (go_at_call 27; with_reducible exact HF1.out w7 _ _) | (go_at_call 27; with_reducible exact HF2.out w7 _ _)))))
                    refine wpQuiet_nil ?_
                    intro _ hw'
                    obtain ⟨⟨dq, osq⟩, hw''⟩ := hw'
                    subst hw''
                    have k9 := below_regrown w7 dq osq
                    have HP9 := Lib.hid (HP7.out.1.below k9)
                    have HR9 := Lib.hid (HP7.out.2.below k9)
                    have K9 := Lib.hid (Below.thru K7.out K7.out.size k9)
                    clear f1 f2 f3 f4 f5 f6 k9
                    generalize Sort.grow (redrawn w7 dq) osq = w9 at *
                    obtain ⟨t0, t1⟩ := HR9.out.cells
                    obtain ⟨u0, u1⟩ := HP9.out.cells
                    have e0 := HP9.out.frozen 0
                    have e1 := HP9.out.frozen 1
                    go_wp2
                    go_roundw
                    case rel =>
                      refine ⟨m + 1, by omega, by go_num, ?_, (K9.out.setCell (Nat.le_refl _) _).setCell (Nat.le_refl _) _⟩
                      rw [HST.out, show wrp (x, z) (qx, qz) (rx, rz) = (rx, rz) from by unfold wrp; rw [if_pos (.inr (.inl (by rw [← HDE.out]; exact HW.out)))]]
                      exact HP9.out.set
                    case measure => simp [intOf] <;> omega
                  · by_cases hd0 : D = 0
                    · subst hd0
                      by_cases hf : F2 < F1
                      · have HW := Lib.hid hf
                        go_wp2_with fail
                        refine wp_region_quiet_below (by kernel_rfl) (by kernel_rfl) ?_
                        repeat (any_goals (first | go_big_quiet_step ((first | (go_at_call 24; exact HT.out w7 _ _) | (go_at_call 27; with_reducible exact HF1.out w7 _ _) | (go_at_call 27; with_reducible exact HF2.out w7 _ _))) | quiet_step ((first | (go_at_call 24; exact HT.out w7 _ _) | (go_at_call 27; with_reducible exact HF1.out w7 _ _) | (go_at_call 27; with_reducible exact HF2.out w7 _ _)))))
                        refine wpQuiet_nil ?_
                        intro _ hw'
                        obtain ⟨⟨dq, osq⟩, hw''⟩ := hw'
                        subst hw''
                        have k9 := below_regrown w7 dq osq
                        have HP9 := Lib.hid (HP7.out.1.below k9)
                        have HR9 := Lib.hid (HP7.out.2.below k9)
                        have K9 := Lib.hid (Below.thru K7.out K7.out.size k9)
                        clear f1 f2 f3 f4 f5 f6 k9
                        generalize Sort.grow (redrawn w7 dq) osq = w9 at *
                        obtain ⟨t0, t1⟩ := HR9.out.cells
                        obtain ⟨u0, u1⟩ := HP9.out.cells
                        have e0 := HP9.out.frozen 0
                        have e1 := HP9.out.frozen 1
                        go_wp2
                        go_roundw
                        case rel =>
                          refine ⟨m + 1, by omega, by go_num, ?_, (K9.out.setCell (Nat.le_refl _) _).setCell (Nat.le_refl _) _⟩
                          rw [HST.out, show wrp (x, z) (qx, qz) (rx, rz) = (rx, rz) from by unfold wrp; rw [if_pos (.inr (.inr ⟨HDE.out.symm, by rw [← HFE2.out, ← HFE1.out]; exact HW.out⟩))]]
                          exact HP9.out.set
                        case measure => simp [intOf] <;> omega
                      · have HW := Lib.hid hf
                        go_wp2_with fail
                        refine wp_region_quiet_below (by kernel_rfl) (by kernel_rfl) ?_
                        repeat (any_goals (first | go_big_quiet_step ((first | (go_at_call 24; exact HT.out w7 _ _) | (go_at_call 27; with_reducible exact HF1.out w7 _ _) | (go_at_call 27; with_reducible exact HF2.out w7 _ _))) | quiet_step ((first | (go_at_call 24; exact HT.out w7 _ _) | (go_at_call 27; with_reducible exact HF1.out w7 _ _) | (go_at_call 27; with_reducible exact HF2.out w7 _ _)))))
                        refine wpQuiet_nil ?_
                        intro _ hw'
                        obtain ⟨⟨dq, osq⟩, hw''⟩ := hw'
                        subst hw''
                        have k9 := below_regrown w7 dq osq
                        have HP9 := Lib.hid (HP7.out.1.below k9)
                        have HR9 := Lib.hid (HP7.out.2.below k9)
                        have K9 := Lib.hid (Below.thru K7.out K7.out.size k9)
                        clear f1 f2 f3 f4 f5 f6 k9
                        generalize Sort.grow (redrawn w7 dq) osq = w9 at *
                        obtain ⟨t0, t1⟩ := HR9.out.cells
                        obtain ⟨u0, u1⟩ := HP9.out.cells
                        go_wp2
                        go_roundw
                        case rel =>
                          refine ⟨m + 1, by omega, by go_num, ?_, K9.out⟩
                          rw [HST.out, show wrp (x, z) (qx, qz) (rx, rz) = (qx, qz) from by unfold wrp; rw [if_neg (by rintro (h | h | ⟨_, h⟩) <;> first | exact HNE.out h | (rw [← HDE.out] at h; omega) | (rw [← HFE2.out, ← HFE1.out] at h; exact absurd h (by have := HW.out; omega)))]]
                          exact HP9.out
                        case measure => simp [intOf] <;> omega
                    · have hd1 : (D == 0) = false := by simpa using hd0
                      have HW := Lib.hid (And.intro hd hd0)
                      go_wp2_with fail
                      refine wp_region_quiet_below (by kernel_rfl) (by kernel_rfl) ?_
                      repeat (any_goals (first | go_big_quiet_step ((first | (go_at_call 24; exact HT.out w7 _ _) | (go_at_call 27; with_reducible exact HF1.out w7 _ _) | (go_at_call 27; with_reducible exact HF2.out w7 _ _))) | quiet_step ((first | (go_at_call 24; exact HT.out w7 _ _) | (go_at_call 27; with_reducible exact HF1.out w7 _ _) | (go_at_call 27; with_reducible exact HF2.out w7 _ _)))))
                      refine wpQuiet_nil ?_
                      intro _ hw'
                      obtain ⟨⟨dq, osq⟩, hw''⟩ := hw'
                      subst hw''
                      have k9 := below_regrown w7 dq osq
                      have HP9 := Lib.hid (HP7.out.1.below k9)
                      have HR9 := Lib.hid (HP7.out.2.below k9)
                      have K9 := Lib.hid (Below.thru K7.out K7.out.size k9)
                      clear f1 f2 f3 f4 f5 f6 k9
                      generalize Sort.grow (redrawn w7 dq) osq = w9 at *
                      obtain ⟨t0, t1⟩ := HR9.out.cells
                      obtain ⟨u0, u1⟩ := HP9.out.cells
                      go_wp2
                      go_roundw
                      case rel =>
                        refine ⟨m + 1, by omega, by go_num, ?_, K9.out⟩
                        rw [HST.out, show wrp (x, z) (qx, qz) (rx, rz) = (qx, qz) from by unfold wrp; rw [if_neg (by rintro (h | h | ⟨h, _⟩) <;> first | exact HNE.out h | (rw [← HDE.out] at h; exact absurd h (by have := HW.out; omega)))]]
                        exact HP9.out
                      case measure => simp [intOf] <;> omega
              · obtain rfl : m = k := by omega
                have hst : (l.take m).foldl (wrp (x, z)) (x, z) = H.getD ((j + 1) % N) (0, 0) := by
                  have hnl := HNL.out
                  have hnx := HNX.out
                  rw [show H.getD j (0, 0) = (x, z) from by rw [← HPE.out, Nat.mod_eq_of_lt hjN]] at hnx
                  rw [List.take_of_length_le (by omega)]
                  exact wrp_fold hnx l (x, z) (fun _ h => h) (.inl rfl) (.inl (HHH.out.2.2.1 _ (by
                    have : (j + 1) % N < N := Nat.mod_lt _ (by omega)
                    have hl := HNE0.out
                    rw [List.getD_eq_getElem?_getD, List.getElem?_eq_getElem (by omega)]
                    exact List.getElem_mem _)))
                have HPQ2 : Hid (P3 w5.heap.size (H.getD ((j + 1) % N) (0, 0)) wr) := by
                  have h := HPQ.out
                  rw [hst] at h
                  exact h
                obtain ⟨S, hS⟩ : ∃ S, S = H.getD ((j + 1) % N) (0, 0) := ⟨_, rfl⟩
                rw [← hS] at HPQ2
                have HSS := Lib.hid hS
                obtain ⟨sx, sz⟩ := S
                obtain ⟨u0, u1⟩ := HPQ2.out.cells
                have HPT := Lib.hid (HP5.out.under HBQ.out HP5.out.lt)
                obtain ⟨d0, d1⟩ := HPT.out.cells
                have e0 := HPT.out.frozen 0
                have e1 := HPT.out.frozen 1
                have HOW : Hid (OwnR ((wr.setCell ⟨T, 0, none⟩ (.int .i64 sx)).setCell ⟨T, 1, none⟩ (.int .i64 sz)) w.heap.size (.slice vp (j + 1) vc) (H.take (j + 1))) := ownR_set (ownR_set (ownR_later HOO.out HBQ.out) HOB.out) HOB.out
                have HSET : Hid (P3 T (sx, sz) ((wr.setCell ⟨T, 0, none⟩ (.int .i64 sx)).setCell ⟨T, 1, none⟩ (.int .i64 sz))) := HPT.out.set
                have HBW : Hid (Below w.heap.size w ((wr.setCell ⟨T, 0, none⟩ (.int .i64 sx)).setCell ⟨T, 1, none⟩ (.int .i64 sz))) := ((Below.thru HB5.out HB5.out.size HBQ.out).setCell HNB.out.1 _).setCell HNB.out.1 _
                clear hst hS HPQ HPQ2 HPT
                go_upto_region 24 with fail
                generalize (wr.setCell ⟨T, 0, none⟩ (.int .i64 sx)).setCell ⟨T, 1, none⟩ (.int .i64 sz) = w8 at *
                clear u0 u1 e0 e1 d0 d1
                obtain ⟨t0, t1⟩ := HSET.out.cells
                have HN8 : Hid (P3 w8.heap.size (sx, sz) (w8.alloc (.cells #[.int .i64 sx, .int .i64 sz] 31))) := P3.new w8 (sx, sz)
                have HB8 := Lib.hid (bl1 w8 (.cells #[.int .i64 sx, .int .i64 sz] 31))
                go_wp2
                go_roundw
                case rel =>
                  refine ⟨j + 1, vp, vc, w8.heap.size, by omega, rfl, rfl, ownR_later HOW.out HB8.out, ⟨?_, HBW.out.size, ?_⟩, Below.thru HBW.out HBW.out.size HB8.out⟩
                  · rw [← HSS.out]; exact HN8.out
                  · rcases HOW.out.row with ⟨e, _⟩ | ⟨g, cc, e, _, _, hg⟩
                    · rw [e]; simp [Value.ownBlock]
                    · rw [e]
                      simp only [Value.ownBlock]
                      intro h
                      injection h with h
                      omega
                case measure => simp <;> omega
          · obtain rfl : j = N := by omega
            have hl := HNE0.out
            have hTk : H.take j = H := List.take_of_length_le (by omega)
            have hbt : bv = true := HBV.out.2 (by
              rw [← HPE.out, Nat.mod_self, hTk, List.getD_eq_getElem?_getD, List.getElem?_eq_getElem (by omega)]
              exact List.getElem_mem _)
            subst hbt
            have hO := HO3.out
            rw [hTk] at hO
            obtain ⟨g, c3, hv, hr⟩ := hO.some (by omega)
            injection hv with e1 e2 e3
            subst e1
            have hset := settle_any g 0 c2 H w3 hr (by omega) (by omega) (fun i hi => HSM.out i (by omega))
            rw [← hl] at hset
            have HSE := Lib.hid hset
            clear hl hTk hO hr e2 e3 hset HO3 HO HP3 HBL HBV HP33
            go_wp2_with fail
            refine HSE.out.mono ?_
            rintro e w9 ⟨⟨v, rfl, hov⟩, hb9⟩
            have HRES := Lib.hid (And.intro (hov.base HB3.out.size) (Below.thru HB3.out HB3.out.size hb9))
            clear hov hb9
            go_wp2
            go_ret2
            exact ⟨.inr ⟨HF1.out, v, rfl, HRES.out.1⟩, HRES.out.2⟩
end Go.Proofs.YtljmhejljpfaiaaGreat

import Derived.Test.YtljmhejljpfaiaaGreatQf
namespace Go.Proofs.YtljmhejljpfaiaaGreat
set_option maxRecDepth 100000
open Go.RowKit Go.Shelf
attribute [local go_sem] Oper.semAt_some

/-! slices.Collect: the points of an iterator, in a new row -/
set_option maxHeartbeats 4000000 in
theorem appendSeq_any (gf Be b : Nat) (l : List Pt) (L : List (Fin l.length)) (w : World) (eg : ∀ args w, (callFunc gf args).run Tryz.prog w = .ok (.enter gf args) w)
    (hseq : SeqX Tryz.prog gf #[.pointer (some ⟨Be, 0, none⟩)] (encV l) (fun k => k = Be ∨ k = b) (fun xs => xs = L) l.length w) (hBe : Be < w.heap.size) (hb : b < w.heap.size) (h12 : l.length ≤ 1000) :
    Calls Tryz.prog 79 #[.slice none 0 0, .func (.func gf) #[] #[.pointer (some ⟨Be, 0, none⟩)]] w fun e w' => (∃ v, e = .returned v ∧ Own w' w.heap.size v (ptsF l L)) ∧ Below w.heap.size w w' := by
  obtain ⟨i0, hi, hz0, hz1, hz2⟩ := info_parts Tryz.info37
  refine (callsIn_wide (n := 4)).1 ?_
  refine callsIn_of_wp_marks Tryz.func79 rfl trivial ?_ rfl
  simp only [Tryz.ntmps79, List.size_toArray, List.length_cons, List.length_nil, Nat.reduceAdd, Nat.reduceSub, Array.replicate_succ, Array.replicate_zero, List.push_toArray, List.append_toArray, List.nil_append, List.cons_append]
  gi_wp2_with fail
  have hB1 : Below w.heap.size w (w.alloc (.cells #[.slice none 0 0] 24)) := bl1 w _
  have hT : Boxed (w.alloc (.cells #[.slice none 0 0] 24)) w.heap.size 24 (.slice none 0 0) := Boxed.new w 24 _
  have hsz : (w.alloc (.cells #[.slice none 0 0] 24)).heap.size = w.heap.size + 1 := by simp
  generalize w.alloc (.cells #[.slice none 0 0] 24) = w0 at *
  have hno : ∀ k, ¬ ow [w.heap.size] w0 k := fun k => by
    rintro ⟨⟨B, n, c', hB, hq⟩, _⟩
    simp at hB; subst hB
    rw [hT.cell] at hq
    cases hq
  have hsane : Sane [w.heap.size] w0 := fun B hB => ⟨by simp at hB; omega, fun k n c' hq => by
    simp at hB; subst hB
    rw [hT.cell] at hq
    cases hq⟩
  refine rangeX [w.heap.size] (gf := gf) (lb := #[.pointer (some ⟨Be, 0, none⟩)]) rfl eg hseq hB1 (fun _ => rfl) hsane
    (fun k hk => ⟨by omega, by simp; omega, hno k⟩)
    (fun pre X => (∃ v, Boxed X w.heap.size 24 v ∧ Own X w.heap.size v (ptsF l pre)) ∧ Below w.heap.size w X ∧ w0.heap.size ≤ X.heap.size) (fun _ _ _ => False)
    (fun s A C h hq => ⟨⟨h.1.choose, own_ch h.1.choose_spec.1 h.1.choose_spec.2 (by simp) (by omega) hq⟩, below_ch h.2.1 hq (by omega) (Nat.le_refl _), Nat.le_trans h.2.2 hq.size⟩) (fun _ _ _ _ h _ => h)
    ⟨⟨_, hT, World.ownsRow_nil _ _ _ _⟩, hB1, Nat.le_refl _⟩
    (fun x a' X => ∃ T5, P2 T5 (px l x.1) (pz l x.1) X ∧ w0.heap.size ≤ T5 ∧ a' = { tmps := #[.slice none 0 0, .func (.func gf) #[] #[.pointer (some ⟨Be, 0, none⟩)], .pointer (some ⟨w.heap.size, 0, none⟩), undef, .slice none 0 0, .pointer (some ⟨T5, 0, none⟩), .func (.func gf) #[] #[.pointer (some ⟨Be, 0, none⟩)], .agg #[.int .i64 (px l x.1), .int .i64 (pz l x.1)], undef, undef, undef, undef, undef], defers := [] })
    (fun x a' X k q q' hl ho ho' ⟨T3, h, hb, e⟩ => ⟨T3, h.putObj q' hl ho, hb, e⟩) ?assign ?body ?done ?stop
  case assign =>
    rintro lr' pre x X K ⟨⟨v, h1, h2⟩, hB, hs⟩ hsX hK
    unfold encV
    gi_wp2
    have hb1 := bl1 X (.cells #[.int .i64 (px l x.1), .int .i64 (pz l x.1)] 37)
    exact hK _ _ (KO.of_below hb1 hsX) ⟨⟨v, h1.alloc _, own_laterz h2 hb1⟩, Below.thru hB hB.size hb1, Nat.le_trans hs hb1.size⟩ ⟨X.heap.size, P2.new X _ _, hs, rfl⟩
  case body =>
    rintro lr' pre x a' X ⟨⟨v, h1, h2⟩, hB, hs⟩ hsX ⟨T5, hp, hT5, rfl⟩ hlt
    obtain ⟨p0, p1⟩ := hp.cells
    have c1 := h1.cell
    have hl : (ptsF l pre).length ≤ 1000 := by rw [ptsF_len]; omega
    have S0 := Lib.hid (And.intro (And.intro h1 h2) (And.intro hB hs))
    have h2' : X.ownsRow w.heap.size 37 2 v (ptsF l pre).length (cls (ptsF l pre)) := h2
    have e1 : Hid (cls (ptsF l (pre ++ [x])) = cls (ptsF l pre) ++ [.int .i64 (px l x.1), .int .i64 (pz l x.1)]) := by rw [ptsF_snoc, cls_snoc]; exact rfl
    have hX0 : w.heap.size ≤ X.heap.size := by omega
    generalize px l x.1 = xa at *
    generalize pz l x.1 = xz at *
    clear hp hsX h1 hB h2
    gi_wp2_with (gi_at_builtin; refine wpListIn_append_own_at _ rfl (.tmp 8) (.tmp 10) 24 rfl w.heap.size 37 i0 (.agg #[.int .i64 0, .int .i64 0]) 2 16 Tryz.underlying24 hi hz0 hz1 hz2 rfl (by decide) _ _ _ rfl (h2'.alloc _) ⟨X.heap.size, 0, none⟩ 1 1 [.int .i64 xa, .int .i64 xz] rfl rfl two_new (by simp [Value.oneCell']) (by unfold maxLen; omega) (by omega) (by simp; omega) ?_; intro v' w1 hown' hgrow hob; obtain ⟨vp, vn, vc, rfl⟩ := own_form hown'; have H9 := Lib.hid (And.intro hown' (And.intro hgrow hob)); have hb9 := ((S0.out.1.1.alloc _).kept hgrow (S0.out.1.1.not_row (by decide) S0.out.1.2)); have c9 := hb9.cell; have f9 := hb9.frozen; clear hown' hgrow hob hb9 c1)
    obtain ⟨⟨h1, h2'⟩, hB, hs'⟩ := S0.out
    obtain ⟨hown', hgrow, hob⟩ := H9.out
    obtain ⟨_, b2, o2, _, bel⟩ := Boxed.appended (B := w.heap.size) h1 (by decide) h2' hX0 (Nat.le_refl _) hown' hgrow
    refine ⟨KO.append h1 (by decide) (by omega) h2' hown' hgrow hob, ⟨_, b2, ?_⟩, hB.trans bel, ?_⟩
    · show World.ownsRow _ _ _ _ _ _ _
      rw [e1.out, ptsF_snoc, List.length_append]
      exact o2
    · have := hgrow.size
      simp at this
      simp
      omega
  case done =>
    rintro D ys X hD hS ⟨⟨v, h1, h2⟩, hB, hs⟩ hK
    have c1 := h1.cell
    have H2 : Hid (Own (X.putObj D (.deferred none)) w.heap.size v (ptsF l L)) := by
      have h2' : World.ownsRow X w.heap.size 37 2 v (ptsF l L).length (cls (ptsF l L)) := by rw [← hS]; exact h2
      exact own_of h2' fun g cap hv ⟨cur, hg⟩ => World.putObj_heap_other (fun e => by subst e; rw [hK] at hg; cases hg)
    have H3 := Lib.hid (hB.trans (belowK_b (w := w) (Nat.le_refl _) _ D _ (.deferred none) (by omega) hK rfl rfl))
    clear h1 h2 hB
    gi_wp2
    refine ⟨by simp, .inl ⟨_, _, rfl, run_takeDeferred hK, ?_⟩⟩
    exact ⟨v, by simp [results, Tryz.results79, go_sem], ⟨v, rfl, H2.out⟩, H3.out⟩
  case stop =>
    rintro D cc pre X _ h _
    exact h.elim
set_option maxHeartbeats 1000000 in
theorem collect_any (fv : Value) (w : World) (B : Nat) (l : List Pt) (h : Calls Tryz.prog 79 #[.slice none 0 0, fv] w fun e w' => (∃ v, e = .returned v ∧ Own w' B v l) ∧ Below B w w') (hf : ∃ f a b, fv = .func f a b) : Calls Tryz.prog 46 #[fv] w fun e w' => (∃ v, e = .returned v ∧ Own w' B v l) ∧ Below B w w' := by
  obtain ⟨f, a, b, rfl⟩ := hf
  have H := Lib.hid h
  clear h
  go_enter Tryz.func46, Tryz.ntmps46
  go_wp2_with fail
  refine H.out.mono ?_
  rintro e w' ⟨⟨v, rfl, ho⟩, hb⟩
  obtain ⟨q, m, c, rfl⟩ := own_form ho
  have HO := Lib.hid ho
  have HB := Lib.hid hb
  clear ho hb
  go_wp2
  go_ret
  exact ⟨⟨_, rfl, HO.out⟩, HB.out⟩
theorem valuesv_any (v : Value) (w : World) (hv : ∃ p n c, v = .slice p n c) : Calls Tryz.prog 20 #[v] w fun e w' => e = .returned (.func (.func 48) #[] #[.pointer (some ⟨w.heap.size, 0, none⟩)]) ∧ w' = w.alloc (.cells #[v] 24) := by
  obtain ⟨p, n, c, rfl⟩ := hv
  go_enter Tryz.func20, Tryz.ntmps20
  go_wp2
  go_ret
  exact ⟨rfl, rfl⟩
theorem allv_any (p : Option Addr) (n c : Nat) (w : World) : Calls Tryz.prog 44 #[.slice p n c] w fun e w' => e = .returned (.func (.func 77) #[] #[.pointer (some ⟨w.heap.size, 0, none⟩)]) ∧ w' = w.alloc (.cells #[.slice p n c] 24) := by
  go_enter Tryz.func44, Tryz.ntmps44
  go_wp2
  go_ret
  exact ⟨rfl, rfl⟩
theorem backv_any (p : Option Addr) (n c : Nat) (w : World) : Calls Tryz.prog 45 #[.slice p n c] w fun e w' => e = .returned (.func (.func 78) #[] #[.pointer (some ⟨w.heap.size, 0, none⟩)]) ∧ w' = w.alloc (.cells #[.slice p n c] 24) := by
  go_enter Tryz.func45, Tryz.ntmps45
  go_wp2
  go_ret
  exact ⟨rfl, rfl⟩
end Go.Proofs.YtljmhejljpfaiaaGreat

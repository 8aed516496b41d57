import Derived.Test.YtljmhejljpfaiaaGreatZ
namespace Go.Proofs.YtljmhejljpfaiaaGreat
set_option maxRecDepth 100000
set_option maxRecDepth 100000
open Go.RowKit Go.Shelf
attribute [local go_sem] Oper.semAt_some

/-! Border's row of points -/
theorem own_form {w : World} {base : Nat} {e : TypeId} {size : Nat} {v : Value} {n : Nat} {xs : List Value} (h : w.ownsRow base e size v n xs) : ∃ p m c, v = .slice p m c := by
  rcases h.2 with ⟨rfl, _⟩ | ⟨g, cap, cur, rfl, _⟩
  · exact ⟨_, _, _, rfl⟩
  · exact ⟨_, _, _, rfl⟩
theorem vals_length (c : List Pq) : (vals c).length = c.length := by simp [vals]
set_option maxHeartbeats 4000000 in
theorem border1_any (B0 b o c : Nat) (l : List Pt) (w : World) (hc : w.cell? ⟨B0, 1, none⟩ = some (.slice (some ⟨b, o, none⟩) l.length c)) (hr : Row w b o l) (h3 : 0 < l.length) (h12 : l.length ≤ 12) (hx : Bx l)
    (hd : ∀ i, i < l.length → ¬ (px l (nx l.length i) = px l i ∧ pz l (nx l.length i) = pz l i)) :
    Calls Tryz.prog 41 #[.pointer (some ⟨B0, 0, none⟩)] w fun e w' => (∃ v, e = .returned v ∧ Own w' w.heap.size v (bp l)) ∧ Below w.heap.size w w' := by
  obtain ⟨i0, hi, hz0, hz1, hz2⟩ := info_parts Tryz.info37
  have HR := Lib.hid hr; have HX := Lib.hid hx; have HD := Lib.hid hd
  have hbw := hr.lt h3
  have hcw := cell_lt hc
  have hc1 : (w.alloc (.cells #[.slice none 0 0] 24)).cell? ⟨B0, 1, none⟩ = some (.slice (some ⟨b, o, none⟩) l.length c) := ((bl1 w _).cell (p := ⟨B0, 1, none⟩) hcw).trans hc
  clear hr hx hd
  refine (callsIn_wide (n := 4)).1 ?_
  refine callsIn_of_wp_marks Tryz.func41 rfl trivial ?_ rfl
  simp only [Tryz.ntmps41, List.size_toArray, List.length_cons, List.length_nil, Nat.reduceAdd, Nat.reduceSub, Array.replicate_succ, Array.replicate_zero, List.push_toArray, List.append_toArray, List.nil_append, List.cons_append]
  gi_wp2_with fail
  refine ⟨trivial, ?_⟩
  refine (callsIn_wide.2 (pointsv_any _ _ _ _)).mono ?_
  rintro e w' ⟨rfl, rfl⟩
  gi_wp2
  have hB0 : Below w.heap.size w ((w.alloc (.cells #[.slice none 0 0] 24)).alloc (.cells #[.slice (some ⟨b, o, none⟩) l.length c] 49)) := bl2 w _ _
  have hT : Boxed ((w.alloc (.cells #[.slice none 0 0] 24)).alloc (.cells #[.slice (some ⟨b, o, none⟩) l.length c] 49)) w.heap.size 24 (.slice none 0 0) := (Below.heap_alloc _ _ _ (by simp)).trans (World.alloc_heap_new w _)
  have hBx : Boxed ((w.alloc (.cells #[.slice none 0 0] 24)).alloc (.cells #[.slice (some ⟨b, o, none⟩) l.length c] 49)) (w.heap.size + 1) 49 (.slice (some ⟨b, o, none⟩) l.length c) := by
    have := Boxed.new (w.alloc (.cells #[.slice none 0 0] 24)) 49 (.slice (some ⟨b, o, none⟩) l.length c)
    rw [World.size_alloc] at this
    exact this
  have hsz : ((w.alloc (.cells #[.slice none 0 0] 24)).alloc (.cells #[.slice (some ⟨b, o, none⟩) l.length c] 49)).heap.size = w.heap.size + 2 := by simp
  generalize ((w.alloc (.cells #[.slice none 0 0] 24)).alloc (.cells #[.slice (some ⟨b, o, none⟩) l.length c] 49)) = w0 at *
  have hno : ∀ k, ¬ ow [w.heap.size] w0 k := fun k => by
    rintro ⟨⟨B, n, c', hB, hq⟩, _⟩
    simp at hB; subst hB
    rw [hT.cell] at hq
    cases hq
  have hsane : Sane [w.heap.size] w0 := fun B hB => ⟨by simp at hB; omega, fun k n c' hq => by
    simp at hB; subst hB
    rw [hT.cell] at hq
    cases hq⟩
  refine rangeX [w.heap.size] (gf := 73) (lb := #[.pointer (some ⟨w.heap.size + 1, 0, none⟩)]) rfl (enters_of Tryz.func73 (by kernel_rfl) rfl)
    (points_seq (w.heap.size + 1) b o c l w0 h3 (by omega) HX.out HD.out (HR.out.keep hB0) hBx) (Below.refl _ _) (fun _ => rfl) hsane
    (fun k hk => ⟨by omega, by simp; omega, hno k⟩)
    (fun pre X => (∃ v, Boxed X w.heap.size 24 v ∧ X.ownsRow w.heap.size 37 2 v pre.length (cls (vals pre))) ∧ Below w.heap.size w X ∧ w0.heap.size ≤ X.heap.size) (fun _ _ _ => False)
    (fun s A C h hq => ⟨⟨h.1.choose, own_ch h.1.choose_spec.1 h.1.choose_spec.2 (by simp) (by omega) hq⟩, below_ch h.2.1 hq (by omega) (Nat.le_refl _), Nat.le_trans h.2.2 hq.size⟩) (fun _ _ _ _ h _ => h)
    ⟨⟨_, hT, World.ownsRow_nil _ _ _ _⟩, hB0, Nat.le_refl _⟩
    (fun x a' X => ∃ T3, P2 T3 x.1.1 x.1.2 X ∧ w0.heap.size ≤ T3 ∧ a' = { tmps := #[.pointer (some ⟨B0, 0, none⟩), .slice none 0 0, .pointer (some ⟨w.heap.size, 0, none⟩), .pointer (some ⟨T3, 0, none⟩), .pointer (some ⟨B0, 1, none⟩), .slice (some ⟨b, o, none⟩) l.length c, .func (.func 73) #[] #[.pointer (some ⟨w.heap.size + 1, 0, none⟩)], .agg #[.int .i64 x.1.1, .int .i64 x.1.2], undef, undef, undef, undef, undef], defers := [] })
    (fun x a' X k q q' hl ho ho' ⟨T3, h, hb, e⟩ => ⟨T3, h.putObj q' hl ho, hb, e⟩) ?assign ?body ?done ?stop
  case assign =>
    rintro lr' pre x X K ⟨⟨v, h1, h2⟩, hB, hs⟩ hsX hK
    unfold enc1
    gi_wp2
    have hb1 := bl1 X (.cells #[.int .i64 x.1.1, .int .i64 x.1.2] 37)
    have o1 := own_ch (B := w.heap.size + 1) h1 h2 (Bs := [w.heap.size]) (by simp) (by omega) (Ch.of_below hb1)
    exact hK _ _ (KO.of_below hb1 hsX) ⟨⟨v, o1⟩, Below.thru hB hB.size hb1, Nat.le_trans hs hb1.size⟩ ⟨X.heap.size, P2.new X _ _, hs, rfl⟩
  case body =>
    rintro lr' pre x a' X ⟨⟨v, h1, h2⟩, hB, hs⟩ hsX ⟨T3, hp, hT3, rfl⟩ hlt
    obtain ⟨p0, p1⟩ := hp.cells
    have c1 := h1.cell
    have S0 := Lib.hid (And.intro (And.intro h1 h2) (And.intro hB hs))
    have e1 : Hid (cls (vals (pre ++ [x])) = cls (vals pre) ++ [.int .i64 x.1.1, .int .i64 x.1.2]) := by rw [vals_snoc, cls_snoc]; exact rfl
    have hX0 : w.heap.size ≤ X.heap.size := by omega
    generalize x.1.1 = xa at *
    generalize x.1.2 = xz at *
    clear hp hsX h1 hB
    gi_wp2_with (gi_at_builtin; refine wpListIn_append_own_at _ rfl (.tmp 8) (.tmp 10) 24 rfl w.heap.size 37 i0 (.agg #[.int .i64 0, .int .i64 0]) 2 16 Tryz.underlying24 hi hz0 hz1 hz2 rfl (by decide) _ _ _ rfl (h2.alloc _) ⟨X.heap.size, 0, none⟩ 1 1 [.int .i64 xa, .int .i64 xz] rfl rfl two_new (by simp [Value.oneCell']) (by unfold maxLen; omega) (by omega) (by simp; omega) ?_; intro v' w1 hown' hgrow hob; obtain ⟨vp, vn, vc, rfl⟩ := own_form hown'; have H9 := Lib.hid (And.intro hown' (And.intro hgrow hob)); have hb9 := ((S0.out.1.1.alloc _).kept hgrow (S0.out.1.1.not_row (by decide) S0.out.1.2)); have c9 := hb9.cell; have f9 := hb9.frozen; clear hown' hgrow hob hb9 c1)
    obtain ⟨⟨h1, h2'⟩, hB, hs'⟩ := S0.out
    obtain ⟨hown', hgrow, hob⟩ := H9.out
    obtain ⟨_, b2, o2, _, bel⟩ := Boxed.appended (B := w.heap.size) h1 (by decide) h2' hX0 (Nat.le_refl _) hown' hgrow
    refine ⟨KO.append h1 (by decide) (by omega) h2' hown' hgrow hob, ⟨_, b2, ?_⟩, hB.trans bel, ?_⟩
    · rw [List.length_append, e1.out]
      exact o2
    · have := hgrow.size
      simp at this
      simp
      omega
  case done =>
    rintro D ys X hD hS ⟨⟨v, h1, h2⟩, hB, hs⟩ hK
    have c1 := h1.cell
    have H2 : Hid (Own (X.putObj D (.deferred none)) w.heap.size v (bp l)) := by
      show World.ownsRow _ _ _ _ _ _ _
      rw [← hS, vals_length]
      exact own_of h2 fun g cap hv ⟨cur, hg⟩ => World.putObj_heap_other (fun e => by subst e; rw [hK] at hg; cases hg)
    have H3 := Lib.hid (hB.trans (belowK_b (w := w) (Nat.le_refl _) _ D _ (.deferred none) (by omega) hK rfl rfl))
    clear h1 h2 hB
    gi_wp2
    refine ⟨by simp, .inl ⟨_, _, rfl, run_takeDeferred hK, ?_⟩⟩
    exact ⟨v, by simp [results, Tryz.results41, go_sem], ⟨v, rfl, H2.out⟩, H3.out⟩
  case stop =>
    rintro D cc pre X _ h _
    exact h.elim
end Go.Proofs.YtljmhejljpfaiaaGreat

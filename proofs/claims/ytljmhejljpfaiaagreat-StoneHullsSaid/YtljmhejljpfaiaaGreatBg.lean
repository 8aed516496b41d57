import Derived.Test.YtljmhejljpfaiaaGreatBf
namespace Go.Proofs.YtljmhejljpfaiaaGreat
set_option maxRecDepth 100000
set_option maxRecDepth 100000
open Go.RowKit Go.Shelf
attribute [local go_sem] Oper.semAt_some

/-! canCut -/
/-- both points lie on edge i -/
def both (l : List Pt) (x1 z1 x2 z2 : Int) (i : Nat) : Bool := oe x1 z1 (px l i) (pz l i) (px l (nx l.length i)) (pz l (nx l.length i)) && oe x2 z2 (px l i) (pz l i) (px l (nx l.length i)) (pz l (nx l.length i))
def CanC (l : List Pt) (x1 z1 x2 z2 : Int) : Prop := ∀ i, i < l.length → both l x1 z1 x2 z2 i = false
theorem P2.ch {B : Nat} {Bs : List Nat} {T : Nat} {x z : Int} {A C : World} (h : P2 T x z A) (hc : Ch B Bs A C) (hB : T < B) : P2 T x z C := (hc.block T h.lt (.inl hB)).trans h
set_option maxHeartbeats 4000000 in
theorem canCut_any (b o c : Nat) (l : List Pt) (x1 z1 x2 z2 : Int) (w : World) (hr : Row w b o l) (h3 : 0 < l.length) (h12 : l.length ≤ 1000) (hx : Bx l) :
    Calls Tryz.prog 33 #[.slice (some ⟨b, o, none⟩) l.length c, .agg #[.int .i64 x1, .int .i64 z1], .agg #[.int .i64 x2, .int .i64 z2]] w (PBt (CanC l x1 z1 x2 z2) w) := by
  have HR := Lib.hid hr; have HX := Lib.hid hx
  have hbw := hr.lt h3
  clear hr hx
  refine (callsIn_wide (n := 4)).1 ?_
  refine callsIn_of_wp_marks Tryz.func33 rfl trivial ?_ rfl
  simp only [Tryz.ntmps33, List.size_toArray, List.length_cons, List.length_nil, Nat.reduceAdd, Nat.reduceSub, Array.replicate_succ, Array.replicate_zero, List.push_toArray, List.append_toArray, List.nil_append, List.cons_append]
  gi_wp2_with fail
  refine ⟨trivial, ?_⟩
  refine (callsIn_wide.2 (edgesv_any _ _ _ _)).mono ?_
  rintro e w' ⟨rfl, rfl⟩
  gi_wp2
  have hB0 : Below w.heap.size w ((((w.alloc (.cells #[.int .i64 x1, .int .i64 z1] 37)).alloc (.cells #[.int .i64 x2, .int .i64 z2] 37)).alloc (.cells #[.bool false] 4)).alloc (.cells #[.slice (some ⟨b, o, none⟩) l.length c] 49)) := (bl3 w _ _ _).alloc (by simp; omega) _
  have hP : P2 w.heap.size x1 z1 ((((w.alloc (.cells #[.int .i64 x1, .int .i64 z1] 37)).alloc (.cells #[.int .i64 x2, .int .i64 z2] 37)).alloc (.cells #[.bool false] 4)).alloc (.cells #[.slice (some ⟨b, o, none⟩) l.length c] 49)) := (((P2.new w x1 z1).alloc _).alloc _).alloc _
  have hQ : P2 (w.heap.size + 1) x2 z2 ((((w.alloc (.cells #[.int .i64 x1, .int .i64 z1] 37)).alloc (.cells #[.int .i64 x2, .int .i64 z2] 37)).alloc (.cells #[.bool false] 4)).alloc (.cells #[.slice (some ⟨b, o, none⟩) l.length c] 49)) := by
    have := P2.new (w.alloc (.cells #[.int .i64 x1, .int .i64 z1] 37)) x2 z2
    rw [World.size_alloc] at this
    exact (this.alloc _).alloc _
  have hR6 : Boxed ((((w.alloc (.cells #[.int .i64 x1, .int .i64 z1] 37)).alloc (.cells #[.int .i64 x2, .int .i64 z2] 37)).alloc (.cells #[.bool false] 4)).alloc (.cells #[.slice (some ⟨b, o, none⟩) l.length c] 49)) (w.heap.size + 1 + 1) 4 (.bool false) := by
    have := Boxed.new ((w.alloc (.cells #[.int .i64 x1, .int .i64 z1] 37)).alloc (.cells #[.int .i64 x2, .int .i64 z2] 37)) 4 (.bool false)
    simp only [World.size_alloc] at this
    exact this.alloc _
  have hBx : Boxed ((((w.alloc (.cells #[.int .i64 x1, .int .i64 z1] 37)).alloc (.cells #[.int .i64 x2, .int .i64 z2] 37)).alloc (.cells #[.bool false] 4)).alloc (.cells #[.slice (some ⟨b, o, none⟩) l.length c] 49)) (w.heap.size + 1 + 1 + 1) 49 (.slice (some ⟨b, o, none⟩) l.length c) := by
    have := Boxed.new (((w.alloc (.cells #[.int .i64 x1, .int .i64 z1] 37)).alloc (.cells #[.int .i64 x2, .int .i64 z2] 37)).alloc (.cells #[.bool false] 4)) 49 (.slice (some ⟨b, o, none⟩) l.length c)
    simp only [World.size_alloc] at this
    exact this
  have hsz : ((((w.alloc (.cells #[.int .i64 x1, .int .i64 z1] 37)).alloc (.cells #[.int .i64 x2, .int .i64 z2] 37)).alloc (.cells #[.bool false] 4)).alloc (.cells #[.slice (some ⟨b, o, none⟩) l.length c] 49)).heap.size = w.heap.size + 4 := by simp
  generalize ((((w.alloc (.cells #[.int .i64 x1, .int .i64 z1] 37)).alloc (.cells #[.int .i64 x2, .int .i64 z2] 37)).alloc (.cells #[.bool false] 4)).alloc (.cells #[.slice (some ⟨b, o, none⟩) l.length c] 49)) = w0 at *
  have hno : ∀ k, ¬ ow [w.heap.size + 1 + 1] w0 k := fun k => by
    rintro ⟨⟨B, n, c', hB, hq⟩, _⟩
    simp at hB; subst hB
    rw [hR6.cell] at hq
    cases hq
  have hsane : Sane [w.heap.size + 1 + 1] w0 := fun B hB => ⟨by simp at hB; omega, fun k n c' hq => by
    simp at hB; subst hB
    rw [hR6.cell] at hq
    cases hq⟩
  refine rangeX [w.heap.size + 1 + 1] (gf := 85) (lb := #[.pointer (some ⟨w.heap.size + 1 + 1 + 1, 0, none⟩)]) rfl (enters_of Tryz.func85 (by kernel_rfl) rfl)
    (edges_seq (w.heap.size + 1 + 1 + 1) b o c l w0 h3 (by omega) (HR.out.keep hB0) hBx) (Below.refl _ _) (fun _ => rfl) hsane
    (fun k hk => ⟨by omega, by simp; omega, hno k⟩)
    (fun pre X => (P2 w.heap.size x1 z1 X ∧ P2 (w.heap.size + 1) x2 z2 X ∧ Boxed X (w.heap.size + 1 + 1) 4 (.bool false)) ∧ (Below w.heap.size w X ∧ w0.heap.size ≤ X.heap.size) ∧ ∀ i, i ∈ pre → both l x1 z1 x2 z2 i.1 = false)
    (fun cc pre X => cc = .ret ∧ Boxed X (w.heap.size + 1 + 1) 4 (.bool false) ∧ Below w.heap.size w X ∧ ∃ i, i < l.length ∧ both l x1 z1 x2 z2 i = true)
    (fun s A C h hq => ⟨⟨h.1.1.ch hq (by omega), h.1.2.1.ch hq (by omega), (hq.block _ h.1.2.2.lt (.inl (by omega))).trans h.1.2.2⟩, ⟨below_ch h.2.1.1 hq (by omega) (Nat.le_refl _), Nat.le_trans h.2.1.2 hq.size⟩, h.2.2⟩)
    (fun cc s A C h hq => ⟨h.1, (hq.block _ h.2.1.lt (.inl (by omega))).trans h.2.1, below_ch h.2.2.1 hq (by omega) (Nat.le_refl _), h.2.2.2⟩)
    ⟨⟨hP, hQ, hR6⟩, ⟨hB0, Nat.le_refl _⟩, fun i hi => by cases hi⟩
    (fun x a' X => ∃ T7 T8, (P2 T7 (px l x.1) (pz l x.1) X ∧ P2 T8 (px l (nx l.length x.1)) (pz l (nx l.length x.1)) X) ∧ a' = { tmps := #[.slice (some ⟨b, o, none⟩) l.length c, .agg #[.int .i64 x1, .int .i64 z1], .agg #[.int .i64 x2, .int .i64 z2], undef, .pointer (some ⟨w.heap.size, 0, none⟩), .pointer (some ⟨w.heap.size + 1, 0, none⟩), .pointer (some ⟨w.heap.size + 1 + 1, 0, none⟩), .pointer (some ⟨T7, 0, none⟩), .pointer (some ⟨T8, 0, none⟩), .slice (some ⟨b, o, none⟩) l.length c, .func (.func 85) #[] #[.pointer (some ⟨w.heap.size + 1 + 1 + 1, 0, none⟩)], .agg #[.int .i64 (px l x.1), .int .i64 (pz l x.1)], .agg #[.int .i64 (px l (nx l.length x.1)), .int .i64 (pz l (nx l.length x.1))], undef, undef, undef, undef, undef, undef, undef, undef, undef, undef], defers := [] })
    (fun x a' X k q q' hl ho ho' ⟨T7, T8, h, e⟩ => ⟨T7, T8, ⟨h.1.putObj q' hl ho, h.2.putObj q' hl ho⟩, e⟩) ?assign ?body ?done ?stop
  case assign =>
    rintro lr' pre x X K ⟨⟨h1, h2, h6⟩, ⟨hB, hs⟩, hpre⟩ hsX hK
    unfold enc2
    gi_wp2
    have hb2 := bl2 X (.cells #[.int .i64 (px l x.1), .int .i64 (pz l x.1)] 37) (.cells #[.int .i64 (px l (nx l.length x.1)), .int .i64 (pz l (nx l.length x.1))] 37)
    refine hK _ _ (KO.of_below hb2 hsX) ⟨⟨h1.below hb2, h2.below hb2, (hb2.block _ h6.lt).trans h6⟩, ⟨Below.thru hB hB.size hb2, Nat.le_trans hs hb2.size⟩, hpre⟩ ⟨X.heap.size, X.heap.size + 1, ⟨(P2.new X _ _).alloc _, ?_⟩, rfl⟩
    have := P2.new (X.alloc (.cells #[.int .i64 (px l x.1), .int .i64 (pz l x.1)] 37)) (px l (nx l.length x.1)) (pz l (nx l.length x.1))
    rw [World.size_alloc] at this
    exact this
  case body =>
    rintro lr' pre x a' X ⟨⟨h1, h2, h6⟩, ⟨hB, hs⟩, hpre⟩ hsX ⟨T7, T8, ⟨hp, hq⟩, rfl⟩ hlt
    have hxi := HX.out x.1 x.2
    have hxj := HX.out (nx l.length x.1) (nx_lt x.2)
    have HA := Lib.hid (fun V => onEdge_any x1 z1 (px l x.1) (pz l x.1) (px l (nx l.length x.1)) (pz l (nx l.length x.1)) V hxi.1 hxi.2 hxj.1 hxj.2)
    have HC := Lib.hid (fun V => onEdge_any x2 z2 (px l x.1) (pz l x.1) (px l (nx l.length x.1)) (pz l (nx l.length x.1)) V hxi.1 hxi.2 hxj.1 hxj.2)
    have S0 : Hid ((P2 w.heap.size x1 z1 X ∧ P2 (w.heap.size + 1) x2 z2 X ∧ Boxed X (w.heap.size + 1 + 1) 4 (.bool false)) ∧ (Below w.heap.size w X ∧ w0.heap.size ≤ X.heap.size) ∧ ∀ i, i ∈ pre → both l x1 z1 x2 z2 i.1 = false) := ⟨⟨h1, h2, h6⟩, ⟨hB, hs⟩, hpre⟩
    have S1 : Hid (Sane [w.heap.size + 1 + 1] X) := hsX
    have HN : Hid (both l x1 z1 x2 z2 x.1 = false → ∀ i, i ∈ pre ++ [x] → both l x1 z1 x2 z2 i.1 = false) := fun h i hi => by
      rcases List.mem_append.1 hi with h' | h'
      · exact S0.out.2.2 i h'
      · simp at h'; subst h'; exact h
    have HY : Hid (both l x1 z1 x2 z2 x.1 = true → ∃ i, i < l.length ∧ both l x1 z1 x2 z2 i = true) := fun h => ⟨x.1, x.2, h⟩
    have HBo : Hid (both l x1 z1 x2 z2 x.1 = (oe x1 z1 (px l x.1) (pz l x.1) (px l (nx l.length x.1)) (pz l (nx l.length x.1)) && oe x2 z2 (px l x.1) (pz l x.1) (px l (nx l.length x.1)) (pz l (nx l.length x.1)))) := rfl
    obtain ⟨p0, p1⟩ := hp.cells
    obtain ⟨q0, q1⟩ := hq.cells
    obtain ⟨r0, r1⟩ := h1.cells
    obtain ⟨t0, t1⟩ := h2.cells
    have H7 := Lib.hid (And.intro hp hq)
    clear hxi hxj h1 h2 h6 hB hs hpre hsX hp hq
    generalize oe x1 z1 (px l x.1) (pz l x.1) (px l (nx l.length x.1)) (pz l (nx l.length x.1)) = o1 at *
    generalize oe x2 z2 (px l x.1) (pz l x.1) (px l (nx l.length x.1)) (pz l (nx l.length x.1)) = o2 at *
    gi_wp2_with fail
    refine ⟨trivial, (by first | rfl | (intro h; cases h)), ?_⟩
    refine (CallsIn.inRound _ (callsIn_wide.2 (HA.out _))).mono ?_
    rintro e w2 ⟨rfl, hb⟩
    have k2 := Lib.hid hb
    cases o1 with
    | false =>
      clear hb p0 p1 q0 q1 r0 r1 t0 t1
      gi_wp2
      refine ⟨trivial, ?_⟩
      gi_wp2
      obtain ⟨⟨h1, h2, h6⟩, ⟨hB, hs⟩, _⟩ := S0.out
      exact ⟨KO.of_below k2.out S1.out, ⟨h1.below k2.out, h2.below k2.out, (k2.out.block _ h6.lt).trans h6⟩, ⟨Below.thru hB hB.size k2.out, Nat.le_trans hs k2.out.size⟩, HN.out (by rw [HBo.out]; rfl)⟩
    | true =>
      have z7 := H7.out
      obtain ⟨p0', p1'⟩ := (z7.1.below hb).cells
      obtain ⟨q0', q1'⟩ := (z7.2.below hb).cells
      obtain ⟨t0', t1'⟩ := (S0.out.1.2.1.below hb).cells
      clear hb p0 p1 q0 q1 r0 r1 t0 t1 z7
      gi_wp2_with fail
      refine ⟨trivial, (by first | rfl | (intro h; cases h)), ?_⟩
      refine (CallsIn.inRound _ (callsIn_wide.2 (HC.out _))).mono ?_
      rintro e w3 ⟨rfl, hb3⟩
      have k3 := Lib.hid (Below.thru k2.out k2.out.size hb3)
      clear hb3 p0' p1' q0' q1' t0' t1'
      cases o2 with
      | false =>
        gi_wp2
        obtain ⟨⟨h1, h2, h6⟩, ⟨hB, hs⟩, _⟩ := S0.out
        exact ⟨KO.of_below k3.out S1.out, ⟨h1.below k3.out, h2.below k3.out, (k3.out.block _ h6.lt).trans h6⟩, ⟨Below.thru hB hB.size k3.out, Nat.le_trans hs k3.out.size⟩, HN.out (by rw [HBo.out]; rfl)⟩
      | true =>
        have h6 : Boxed w3 (w.heap.size + 1 + 1) 4 (.bool false) := (k3.out.block _ S0.out.1.2.2.lt).trans S0.out.1.2.2
        have c6 := h6.cell
        have f6 := h6.frozen
        have H6 := Lib.hid h6
        clear h6
        gi_wp2
        have ks := KO.of_below (B := w0.heap.size) k3.out S1.out
        have hB := S0.out.2.1.1
        exact ⟨ks.trans (KO.set (by simp) (by omega) H6.out.cell (fun a n c h => by cases h)), rfl, H6.out.set (.bool false), (Below.thru hB hB.size k3.out).setCell (by simp; omega) _, HY.out (by rw [HBo.out]; rfl)⟩
  case done =>
    rintro D ys X hD rfl ⟨⟨_, _, h6⟩, ⟨hB, _⟩, hpre⟩ hK
    have c6 := h6.cell
    have f6 := h6.frozen
    have H6 := Lib.hid (h6.set (.bool true))
    have HK := Lib.hid hK
    have HBB := Lib.hid hB
    clear h6 hB hK
    gi_wp2
    have hK2 : (X.setCell ⟨w.heap.size + 1 + 1, 0, none⟩ (.bool true)).heap[D]? = some (.deferred (some [])) := (Below.heap_setCell _ _ _ _ (by show D ≠ w.heap.size + 1 + 1; omega)).trans HK.out
    refine ⟨by simp, .inl ⟨_, _, rfl, run_takeDeferred hK2, ?_⟩⟩
    have h9 : Boxed ((X.setCell ⟨w.heap.size + 1 + 1, 0, none⟩ (.bool true)).putObj D (.deferred none)) (w.heap.size + 1 + 1) 4 (.bool true) := (World.putObj_heap_other (by omega)).trans H6.out
    have c9 := h9.cell
    have hb9 := (HBB.out.setCell (p := ⟨w.heap.size + 1 + 1, 0, none⟩) (by simp; omega) (.bool true)).trans (belowK_b (w := w) (Nat.le_refl _) _ D _ (.deferred none) (by omega) hK2 rfl rfl)
    generalize (X.setCell ⟨w.heap.size + 1 + 1, 0, none⟩ (.bool true)).putObj D (.deferred none) = W9 at *
    exact ⟨.bool true, by simp [results, Tryz.results33, go_sem, c9], PBt.yes (fun i hi => hpre ⟨i, hi⟩ (List.mem_finRange _)) hb9⟩
  case stop =>
    rintro D cc pre X hD ⟨rfl, h6, hB, hi⟩ hK
    have H6 := Lib.hid h6
    gi_wp2
    refine ⟨by simp, .inl ⟨_, _, rfl, run_takeDeferred hK, ?_⟩⟩
    have h9 : Boxed (X.putObj D (.deferred none)) (w.heap.size + 1 + 1) 4 (.bool false) := (World.putObj_heap_other (by omega)).trans H6.out
    have c9 := h9.cell
    have hb9 := hB.trans (belowK_b (w := w) (Nat.le_refl _) _ D _ (.deferred none) (by omega) hK rfl rfl)
    generalize X.putObj D (.deferred none) = W9 at *
    exact ⟨.bool false, by simp [results, Tryz.results33, go_sem, c9], PBt.no (fun h => by obtain ⟨i, h1, h2⟩ := hi; rw [h i h1] at h2; cases h2) hb9⟩
end Go.Proofs.YtljmhejljpfaiaaGreat

import Derived.Test.YtljmhejljpfaiaaGreatQe
import Derived.Laws.EntriesVeiled
namespace Go.Proofs.YtljmhejljpfaiaaGreat
set_option maxRecDepth 100000
open Go.RowKit Go.Shelf
attribute [local go_sem] Oper.semAt_some

/-! chain: the points of an iterator, one behind the other -/
theorem popC_len : ∀ (st : List Pt) (p : Pt), (popC st p).length ≤ st.length
  | [], _ => Nat.le_refl _
  | [_], _ => Nat.le_refl _
  | b :: a :: t, p => by
    show (if D3 a b p ≤ 0 then popC (a :: t) p else b :: a :: t).length ≤ _
    have := popC_len (a :: t) p
    split
    · simp at *; omega
    · exact Nat.le_refl _
theorem popC_mem : ∀ (st : List Pt) (p : Pt) (q : Pt), q ∈ popC st p → q ∈ st
  | [], _, _, h => h
  | [_], _, _, h => h
  | b :: a :: t, p, q, h => by
    have h' : q ∈ (if D3 a b p ≤ 0 then popC (a :: t) p else b :: a :: t) := h
    split at h'
    · exact List.mem_cons_of_mem _ (popC_mem (a :: t) p q h')
    · exact h'
theorem foldC_len : ∀ (T st : List Pt), (T.foldl addC st).length ≤ st.length + T.length
  | [], st => Nat.le_refl _
  | p :: T, st => by
    have h1 := foldC_len T (addC st p)
    have h2 := popC_len st p
    have h3 : (addC st p).length = (popC st p).length + 1 := rfl
    show (T.foldl addC (addC st p)).length ≤ st.length + (T.length + 1)
    omega
theorem foldC_mem : ∀ (T st : List Pt) (q : Pt), q ∈ T.foldl addC st → q ∈ st ∨ q ∈ T
  | [], st, q, h => .inl h
  | p :: T, st, q, h => by
    rcases foldC_mem T (addC st p) q h with k | k
    · rcases List.mem_cons.1 k with rfl | k
      · exact .inr (by simp)
      · exact .inl (popC_mem st p q k)
    · exact .inr (List.mem_cons_of_mem _ k)
theorem chn_len (S : List Pt) : (chn S).length ≤ S.length := by have := foldC_len S []; unfold chn; simpa using this
theorem chn_mem (S : List Pt) (q : Pt) (h : q ∈ chn S) : q ∈ S := by
  rcases foldC_mem S [] q h with k | k
  · simp at k
  · exact k
theorem chn_snoc (S : List Pt) (p : Pt) : chn (S ++ [p]) = addC (chn S) p := by unfold chn; rw [List.foldl_append]; rfl
def ptsF (l : List Pt) (xs : List (Fin l.length)) : List Pt := xs.map fun i => (px l i.1, pz l i.1)
theorem ptsF_snoc (l : List Pt) (xs : List (Fin l.length)) (x : Fin l.length) : ptsF l (xs ++ [x]) = ptsF l xs ++ [(px l x.1, pz l x.1)] := by simp [ptsF]
theorem ptsF_len (l : List Pt) (xs : List (Fin l.length)) : (ptsF l xs).length = xs.length := by simp [ptsF]
set_option maxHeartbeats 4000000 in
theorem chain_any (gf Be b o : Nat) (l : List Pt) (L : List (Fin l.length)) (w : World) (eg : ∀ args w, (callFunc gf args).run Tryz.prog w = .ok (.enter gf args) w)
    (hseq : SeqX Tryz.prog gf #[.pointer (some ⟨Be, 0, none⟩)] (encA l) (fun k => k = Be ∨ k = b) (fun xs => xs = L) l.length w) (hBe : Be < w.heap.size) (hb : b < w.heap.size) (h12 : l.length ≤ 1000) (hs : ∀ i, i < l.length → Sm (px l i) ∧ Sm (pz l i)) :
    Calls Tryz.prog 43 #[.func (.func gf) #[] #[.pointer (some ⟨Be, 0, none⟩)]] w fun e w' => (∃ v, e = .returned v ∧ Own w' w.heap.size v (chn (ptsF l L)).reverse) ∧ Below w.heap.size w w' := by
  have HS := Lib.hid hs
  clear hs
  refine (callsIn_wide (n := 4)).1 ?_
  refine callsIn_of_wp_marks Tryz.func43 rfl trivial ?_ rfl
  simp only [Tryz.ntmps43, List.size_toArray, List.length_cons, List.length_nil, Nat.reduceAdd, Nat.reduceSub, Array.replicate_succ, Array.replicate_zero, List.push_toArray, List.append_toArray, List.nil_append, List.cons_append]
  have B3 : Boxed ((w.alloc (.cells #[.slice none 0 0] 49)).alloc (.cells #[.nilFunc] 102)) w.heap.size 49 (.slice none 0 0) := (Boxed.new w 49 _).alloc _
  have B4 : Boxed ((w.alloc (.cells #[.slice none 0 0] 49)).alloc (.cells #[.nilFunc] 102)) (w.heap.size + 1) 102 .nilFunc := by
    have := Boxed.new (w.alloc (.cells #[.slice none 0 0] 49)) 102 .nilFunc
    rw [World.size_alloc] at this
    exact this
  have c4 := B4.cell
  have f4 := B4.frozen
  have hsz0 : ((w.alloc (.cells #[.slice none 0 0] 49)).alloc (.cells #[.nilFunc] 102)).heap.size = w.heap.size + 2 := by simp
  have hB0 : Below w.heap.size w ((w.alloc (.cells #[.slice none 0 0] 49)).alloc (.cells #[.nilFunc] 102)) := bl2 w _ _
  generalize hwa : (w.alloc (.cells #[.slice none 0 0] 49)).alloc (.cells #[.nilFunc] 102) = wa at *
  gi_wp2_with fail
  obtain ⟨clo, hclo⟩ : ∃ u, u = Value.func (.func 75) #[] #[.pointer (some ⟨w.heap.size, 0, none⟩)] := ⟨_, rfl⟩
  rw [← hclo]
  obtain ⟨w0, hw0⟩ : ∃ u, u = wa.setCell ⟨w.heap.size + 1, 0, none⟩ clo := ⟨_, rfl⟩
  rw [← hw0]
  have hB1 : Below w.heap.size w w0 := by rw [hw0]; exact hB0.setCell (Nat.le_succ _) _
  have hT : Boxed w0 w.heap.size 49 (.slice none 0 0) := by
    rw [hw0]
    have h3 : wa.heap[w.heap.size]? = some (.cells #[.slice none 0 0] 49 (0, 0)) := B3
    exact (Below.heap_setCell _ _ _ _ (by show w.heap.size ≠ w.heap.size + 1; omega)).trans h3
  have hC : Boxed w0 (w.heap.size + 1) 102 clo := by rw [hw0]; exact B4.set clo
  have hsz : w0.heap.size = w.heap.size + 2 := by rw [hw0]; simpa [World.setCell] using hsz0
  clear hw0 B3 B4 c4 f4 hsz0 hB0 hwa
  have hno : ∀ k, ¬ ow [w.heap.size] w0 k := fun k => by
    rintro ⟨⟨B, n, c', hB, hq⟩, _⟩
    simp at hB; subst hB
    rw [hT.cell] at hq
    cases hq
  have hsane : Sane [w.heap.size] w0 := fun B hB => ⟨by simp at hB; omega, fun k n c' hq => by
    simp at hB; subst hB
    rw [hT.cell] at hq
    cases hq⟩
  refine rangeX [w.heap.size] (gf := gf) (lb := #[.pointer (some ⟨Be, 0, none⟩)]) rfl eg hseq hB1 (fun _ => rfl) hsane
    (fun k hk => ⟨by omega, by simp; omega, hno k⟩)
    (fun pre X => (∃ v, Boxed X w.heap.size 49 v ∧ Own X w.heap.size v (chn (ptsF l pre)).reverse) ∧ Boxed X (w.heap.size + 1) 102 clo ∧ Below w.heap.size w X ∧ w0.heap.size ≤ X.heap.size) (fun _ _ _ => False)
    (fun s A C h hq => ⟨⟨h.1.choose, own_ch h.1.choose_spec.1 h.1.choose_spec.2 (by simp) (by omega) hq⟩, (hq.block _ h.2.1.lt (.inl (by omega))).trans h.2.1, below_ch h.2.2.1 hq (by omega) (Nat.le_refl _), Nat.le_trans h.2.2.2 hq.size⟩) (fun _ _ _ _ h _ => h)
    ⟨⟨_, hT, World.ownsRow_nil _ _ _ _⟩, hC, hB1, Nat.le_refl _⟩
    (fun x a' X => ∃ T6, P2 T6 (px l x.1) (pz l x.1) X ∧ w0.heap.size ≤ T6 ∧ a' = { tmps := #[.func (.func gf) #[] #[.pointer (some ⟨Be, 0, none⟩)], undef, .slice none 0 0, .pointer (some ⟨w.heap.size, 0, none⟩), .pointer (some ⟨w.heap.size + 1, 0, none⟩), undef, .pointer (some ⟨T6, 0, none⟩), .func (.func 75) #[] #[.pointer (some ⟨w.heap.size, 0, none⟩)], .func (.func gf) #[] #[.pointer (some ⟨Be, 0, none⟩)], .int .i64 x.1, .agg #[.int .i64 (px l x.1), .int .i64 (pz l x.1)], undef, undef, undef, undef], defers := [] })
    (fun x a' X k q q' hl ho ho' ⟨T3, h, hb, e⟩ => ⟨T3, h.putObj q' hl ho, hb, e⟩) ?assign ?body ?done ?stop
  case assign =>
    rintro lr' pre x X K ⟨⟨v, h1, h2⟩, hC2, hB, hs⟩ hsX hK
    unfold encA
    gi_wp2
    have hb1 := bl1 X (.cells #[.int .i64 (px l x.1), .int .i64 (pz l x.1)] 37)
    exact hK _ _ (KO.of_below hb1 hsX) ⟨⟨v, h1.alloc _, own_laterz h2 hb1⟩, hC2.alloc _, Below.thru hB hB.size hb1, Nat.le_trans hs hb1.size⟩ ⟨X.heap.size, P2.new X _ _, hs, rfl⟩
  case body =>
    rintro lr' pre x a' X ⟨⟨v, h1, h2⟩, hC2, hB, hs⟩ hsX ⟨T6, hp, hT6, rfl⟩ hlt
    obtain ⟨p0, p1⟩ := hp.cells
    have cc := hC2.cell
    have hl : (chn (ptsF l pre)).length ≤ 1000 := by have := chn_len (ptsF l pre); rw [ptsF_len] at this; omega
    have hm : ∀ q, q ∈ chn (ptsF l pre) → Sm q.1 ∧ Sm q.2 := fun q hq => by
      obtain ⟨i, _, rfl⟩ := List.mem_map.1 (chn_mem _ _ hq)
      exact HS.out i.1 i.2
    have HA := Lib.hid (add_any w.heap.size w.heap.size w0.heap.size (chn (ptsF l pre)) (px l x.1) (pz l x.1) v X h1 h2 (Nat.le_refl _) (by omega) (by omega) hl hm (HS.out x.1 x.2).1 (HS.out x.1 x.2).2)
    have S0 := Lib.hid (And.intro hC2 (And.intro hB hs))
    have hsn : chn (ptsF l (pre ++ [x])) = addC (chn (ptsF l pre)) (px l x.1, pz l x.1) := by rw [ptsF_snoc, chn_snoc]
    have HN := Lib.hid hsn
    have HNO : Hid (¬ ow [w.heap.size] X (w.heap.size + 1)) := by
      rintro ⟨⟨B, n, c', hB', hq⟩, _⟩
      simp at hB'; subst hB'
      rw [h1.cell] at hq
      cases hq
      rcases h2.2 with ⟨e, _⟩ | ⟨g, cap, cur, e, _, hg, _⟩
      · cases e
      · cases e
        have h4 : X.heap[w.heap.size + 1]? = some (.cells #[clo] 102 (0, 0)) := hC2
        rw [hg] at h4
        cases h4
    clear hp hsX h1 h2 hB hC2 hs hl hm hsn
    generalize px l x.1 = xa at *
    generalize pz l x.1 = xz at *
    rw [hclo] at cc
    gi_wp2_with fail
    refine ⟨trivial, rfl, ?_⟩
    refine (CallsIn.inRound _ (callsIn_wide.2 HA.out)).mono ?_
    rintro e w9 ⟨rfl, ⟨v', hb', ho'⟩, hko, hbe⟩
    obtain ⟨hC2, hB, hs⟩ := S0.out
    have R9 : Hid (KO w0.heap.size [w.heap.size] X w9 ∧ ((∃ v, Boxed w9 w.heap.size 49 v ∧ Own w9 w.heap.size v (chn (ptsF l (pre ++ [x]))).reverse) ∧ Boxed w9 (w.heap.size + 1) 102 clo ∧ Below w.heap.size w w9 ∧ w0.heap.size ≤ w9.heap.size)) := by
      refine ⟨hko, ⟨v', hb', by rw [HN.out]; exact ho'⟩, ?_, hB.trans hbe, Nat.le_trans hs hko.size⟩
      exact hko.boxed hC2 (by simp) HNO.out
    clear hko hb' ho' hbe hC2 hB hs
    gi_wp2
    exact R9.out
  case done =>
    rintro D ys X hD hS ⟨⟨v, h1, h2⟩, hC2, hB, hs⟩ hK
    have c1 := h1.cell
    have H2 : Hid (Own (X.putObj D (.deferred none)) w.heap.size v (chn (ptsF l L)).reverse) := by
      have h2' : World.ownsRow X w.heap.size 37 2 v (chn (ptsF l L)).reverse.length (cls (chn (ptsF l L)).reverse) := by rw [← hS]; exact h2
      exact own_of h2' fun g cap hv ⟨cur, hg⟩ => World.putObj_heap_other (fun e => by subst e; rw [hK] at hg; cases hg)
    have H3 := Lib.hid (hB.trans (belowK_b (w := w) (Nat.le_refl _) _ D _ (.deferred none) (by omega) hK rfl rfl))
    clear h1 h2 hB hC2
    gi_wp2
    refine ⟨by simp, .inl ⟨_, _, rfl, run_takeDeferred hK, ?_⟩⟩
    exact ⟨v, by simp [results, Tryz.results43, go_sem], ⟨v, rfl, H2.out⟩, H3.out⟩
  case stop =>
    rintro D cc pre X _ h _
    exact h.elim
end Go.Proofs.YtljmhejljpfaiaaGreat

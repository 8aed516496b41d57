import Derived.Test.YtljmhejljpfaiaaBh
namespace Go.Proofs.Ytljmhejljpfaiaa
set_option maxRecDepth 100000
open Go.RowKit Go.Shelf

/-! an iterator's own boxes beside its caller's -/
theorem ow_mono {Bs Bs' : List Nat} {W : World} {k : Nat} (h : ∀ b, b ∈ Bs → b ∈ Bs') : ow Bs W k → ow Bs' W k := fun ⟨⟨b, n, c, hb, hc⟩, r⟩ => ⟨⟨b, n, c, h b hb, hc⟩, r⟩
/-- what turns nothing but the caller's own turns nothing but that and the iterator's -/
theorem KO.widen {B T4 T5 base : Nat} {Bs : List Nat} {t4 t5 e : TypeId} {size : Nat} {v : Value} {bb : Bool} {n : Nat} {xs : List Value} {W W' : World} (h : KO B Bs W W')
    (h4 : Boxed W T4 t4 v) (hr : W.ownsRow base e size v n xs) (h5 : Boxed W T5 t5 (.bool bb)) (n4 : Nc Bs T4 W) (n5 : Nc Bs T5 W) : KO B (T4 :: T5 :: Bs) W W' := by
  have h4' := h.boxed h4 n4.b n4.o
  have h5' := h.boxed h5 n5.b n5.o
  have sub : ∀ b, b ∈ Bs → b ∈ T4 :: T5 :: Bs := fun b hb => by simp [hb]
  refine ⟨h.size, fun k cur T u h1 h2 h3 => h.cells k cur T u (fun hk => h1 (sub k hk)) (fun ho => h2 (ow_mono sub ho)) h3, fun k q h1 h2 h3 => h.objs k q h1 (fun ho => h2 (ow_mono sub ho)) h3, fun k hk hn ho => ?_, fun hs b hb => ?_⟩
  · obtain ⟨⟨b, m, c, hb, hc⟩, r⟩ := ho
    simp only [List.mem_cons] at hb
    rcases hb with rfl | rfl | hb
    · rw [h4'.cell] at hc
      have hv := Option.some.inj hc
      rcases hr.2 with ⟨h0, _⟩ | ⟨g, cap, cur, h0, _, hg, _⟩
      · rw [hv] at h0; cases h0
      · rw [hv] at h0; cases h0
        exact hn ⟨⟨b, _, _, by simp, h4.cell.trans (by rw [hv])⟩, cur, e, _, hg⟩
    · rw [h5'.cell] at hc; cases hc
    · exact h.own k hk (fun ho => hn (ow_mono sub ho)) ⟨⟨b, m, c, hb, hc⟩, r⟩
  · simp only [List.mem_cons] at hb
    rcases hb with rfl | rfl | hb
    · refine ⟨h4'.lt, fun k m c hc => ?_⟩
      rw [h4'.cell, ← h4.cell] at hc
      exact Nat.lt_of_lt_of_le ((hs b (by simp)).2 k m c hc) h.size
    · refine ⟨h5'.lt, fun k m c hc => ?_⟩
      rw [h5'.cell] at hc; cases hc
    · exact h.sane (fun b' hb' => hs b' (sub b' hb')) b hb
/-- an append to one of several own rows -/
theorem KO.appendB {B T : Nat} {Bs : List Nat} {base : Nat} {t e : TypeId} {size : Nat} {v v' : Value} {n m : Nat} {xs ys : List Value} {W w1 : World} {tmp : Obj} (hv : Boxed W T t v) (hte : t ≠ e) (hTs : T ∈ Bs) (hTB : T < B)
    (hrow : W.ownsRow base e size v n xs) (hown' : w1.ownsRow base e size v' m ys) (hgrow : (W.alloc tmp).grownBy w1 v.ownBlock) (hob : v'.ownBlock = v.ownBlock ∨ v'.ownBlock = some (W.alloc tmp).heap.size)
    (hs : Sane Bs W) (hne : ∀ b, b ∈ Bs → some b ≠ v.ownBlock) : KO B Bs W (w1.setCell ⟨T, 0, none⟩ v') := by
  have hb1 : Boxed w1 T t v := (hv.alloc tmp).kept hgrow (hv.not_row hte hrow)
  have hb2 := hb1.set v'
  have hgs := hgrow.size
  rw [World.size_alloc] at hgs
  have same : ∀ k, k ≠ T → k < W.heap.size → some k ≠ v.ownBlock → (w1.setCell ⟨T, 0, none⟩ v').heap[k]? = W.heap[k]? := fun k hk hl hne =>
    (Below.heap_setCell _ _ _ _ hk).trans ((hgrow.block k (by simp; omega) hne).trans (Below.heap_alloc _ _ _ hl))
  have gc : ∀ k, some k = v.ownBlock → ow Bs W k := fun k he => by
    rcases hrow.2 with ⟨rfl, _⟩ | ⟨g, cap, cur, rfl, _, hg, _⟩
    · cases he
    · have : k = g := Option.some.inj he
      subst this
      exact ⟨⟨T, n, cap, hTs, hv.cell⟩, cur, e, _, hg⟩
  have cs : ∀ b, b ∈ Bs → b ≠ T → (w1.setCell ⟨T, 0, none⟩ v').cell? ⟨b, 0, none⟩ = W.cell? ⟨b, 0, none⟩ := fun b hb hbT => cell_same (a := ⟨b, 0, none⟩) (same b hbT (hs b hb).1 (hne b hb))
  refine ⟨by simp; omega, fun k cur T' u h1 h2 h3 => ?_, fun k q h1 h2 h3 => ?_, fun k hk hn ho => ?_, fun _ b hb => ?_⟩
  · have hl := (Array.getElem?_eq_some_iff.1 h3).1
    exact (same k (fun e => h1 (e ▸ hTs)) hl (fun he => h2 (gc k he))).trans h3
  · have hl := (Array.getElem?_eq_some_iff.1 h3).1
    exact (same k (by omega) hl (fun he => h2 (gc k he))).trans h3
  · obtain ⟨⟨b, n', c', hb, hc⟩, cur, U, u, hu⟩ := ho
    by_cases hbT : b = T
    · subst hbT
      rw [hb2.cell] at hc
      have hvk := Option.some.inj hc
      have h9 : v'.ownBlock = some k := by rw [hvk]; rfl
      rcases hob with h | h
      · exact hn (gc k (h9.symm.trans h))
      · rw [h9] at h
        have := Option.some.inj h
        simp at this
        omega
    · rw [cs b hb hbT] at hc
      refine hn ⟨⟨b, n', c', hb, hc⟩, ?_⟩
      by_cases hkT : k = T
      · subst hkT; exact ⟨_, _, _, hv⟩
      · by_cases hkg : some k = v.ownBlock
        · exact (gc k hkg).2
        · exact ⟨cur, U, u, (same k hkT hk hkg).symm.trans hu⟩
  · by_cases hbT : b = T
    · subst hbT
      refine ⟨hb2.lt, fun k n' c' hc => ?_⟩
      rw [hb2.cell] at hc
      have hvk := Option.some.inj hc
      rcases hown'.2 with ⟨h0, _⟩ | ⟨g, cap, cur, h0, _, hg, _⟩
      · rw [hvk] at h0; cases h0
      · rw [hvk] at h0; cases h0
        have := (Array.getElem?_eq_some_iff.1 hg).1
        simpa using this
    · refine ⟨by have := (hs b hb).1; simp; omega, fun k n' c' hc => ?_⟩
      rw [cs b hb hbT] at hc
      have := (hs b hb).2 k n' c' hc
      simp; omega
/-- others: what a point does to the points before, to the mark, and to the points behind -/
def ostep (p : Pt) (st : List Pt × Bool × List Pt) (q : Pt) : List Pt × Bool × List Pt :=
  if q = p then (st.1, true, st.2.2) else if st.2.1 = false then (st.1 ++ [q], false, st.2.2) else (st.1, true, st.2.2 ++ [q])
def ost (p : Pt) (l : List Pt) : List Pt × Bool × List Pt := l.foldl (ostep p) ([], false, [])
theorem ost_snoc (p : Pt) (l : List Pt) (q : Pt) : ost p (l ++ [q]) = ostep p (ost p l) q := by simp [ost]
/-- the border points but p, from the one behind p on -/
def oth (l : List Pt) (p : Pt) : List Pt := (ost p (bp l)).2.2 ++ (ost p (bp l)).1
end Go.Proofs.Ytljmhejljpfaiaa

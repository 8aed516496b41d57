import Derived.Test.YtljmhejljpfaiaaGreatY
namespace Go.Proofs.YtljmhejljpfaiaaGreat
set_option maxRecDepth 100000
set_option maxRecDepth 100000
open Go.RowKit Go.Shelf
attribute [local go_sem] Oper.semAt_some

/-! the points of a border in a row -/
theorem points_seq (Be b o c : Nat) (l : List Pt) (w0 : World) (h3 : 0 < l.length) (h12 : l.length ≤ 1000000) (hx : Bx l)
    (hd : ∀ i, i < l.length → ¬ (px l (nx l.length i) = px l i ∧ pz l (nx l.length i) = pz l i)) (hr : Row w0 b o l) (hb : Boxed w0 Be 49 (.slice (some ⟨b, o, none⟩) l.length c)) :
    SeqX Tryz.prog 73 #[.pointer (some ⟨Be, 0, none⟩)] enc1 (fun k => k = Be ∨ k = b) (fun xs => vals xs = bp l) (l.length * 2000) w0 := fun n lr Bs J Jx W hW hs hp hJ hJx hY h0 =>
  points1_in n lr Bs Be b o c l h3 h12 hx hd J Jx W hJ hJx hY ⟨hr.keep hW, (hW.block Be hb.lt).trans hb, hs, hp Be (.inl rfl), hp b (.inr rfl)⟩ h0
theorem pointsv_any (p : Option Addr) (n c : Nat) (w : World) : Calls Tryz.prog 42 #[.slice p n c] w fun e w' => e = .returned (.func (.func 73) #[] #[.pointer (some ⟨w.heap.size, 0, none⟩)]) ∧ w' = w.alloc (.cells #[.slice p n c] 49) := by
  go_enter Tryz.func42, Tryz.ntmps42
  go_wp2
  go_ret
  exact ⟨rfl, rfl⟩
theorem wpListIn_append_own_at {F : Fence} {n : Nat} {P : Program} (w : World) {ops : Array Oper} {rest : List Oper} {o : Oper} {a : Act} {Q : Exit → Act → World → Prop}
    (hg : o.guard = none) (s x : Operand) (t : TypeId) (hop : o.op = Op.call { callee := Callee.builtin Builtin.append, args := #[s, x], argTypes := #[t, t] })
    (base : Nat) (e : TypeId) (i : TypeInfo) (z : Value) (size bytes : Nat) (h1 : P.underlying t = some (.slice e)) (h2 : P.info? e = some i) (h3 : i.zero = some z) (h4 : i.size = size) (h5 : i.bytes = bytes) (h6 : z.cells.size = size) (h7 : 0 < size)
    (v : Value) (k : Nat) (xs : List Value) (hs : a.eval s = v) (hown : w.ownsRow base e size v k xs) (ad : Addr) (m c : Nat) (news : List Value) (hx : a.eval x = .slice (some ad) m c) (hn : news.length = m * size)
    (hc : ∀ j u, news[j]? = some u → w.cell? (ad.add j) = some u) (h1c : ∀ u ∈ news, u.oneCell' = true) (b1 : k + m ≤ maxLen) (b2 : (k + m) * bytes ≤ 140737488355328) (b3 : base ≤ w.heap.size)
    (hK : ∀ v' w', w'.ownsRow base e size v' (k + m) (xs ++ news) → w.grownBy w' v.ownBlock → (v'.ownBlock = v.ownBlock ∨ v'.ownBlock = some w.heap.size) → wpListIn F n P ops Q rest (a.put o.dst v') w') :
    wpListIn F n P ops Q (o :: rest) a w := by
  refine wpListIn_plain hg fun K hK' => ?_
  obtain ⟨v', w', hrun, r1, r2, _, r4⟩ := run_append_own_at (P := P) (w := w) base t o.type e i z size bytes h1 h2 h3 h4 h5 h6 h7 v k xs hown ad m c news hn hc h1c b1 b2 b3
  unfold Oper.wpIn
  refine ⟨?_, ?_⟩
  · simp [Oper.about, hop, resolve, Target.leads, Sem.run_pure]
  · rw [Oper.semAt_plain F _ _ (by rw [hop]; intro c hc'; cases hc')]
    simp [execOp, hop, resolve, invoke, builtin, hs, hx, hrun, Result.andThen]
    exact hK' _ _ (hK v' w' r1 r2 r4)
theorem own_of {w w' : World} {base : Nat} {e : TypeId} {size : Nat} {v : Value} {n : Nat} {xs : List Value} (h : w.ownsRow base e size v n xs) (hk : ∀ g cap, v = .slice (some ⟨g, 0, none⟩) n cap → (∃ cur, w.heap[g]? = some (.cells cur e (0, 0))) → w'.heap[g]? = w.heap[g]?) : w'.ownsRow base e size v n xs := by
  refine ⟨h.1, ?_⟩
  rcases h.2 with h0 | ⟨g, cap, cur, hv, hb, hg, r⟩
  · exact .inl h0
  · exact .inr ⟨g, cap, cur, hv, hb, (hk g cap hv ⟨cur, hg⟩).trans hg, r⟩
/-- a box with a row of one's own, over what a called iterator may turn -/
theorem own_ch {B T : Nat} {Bs : List Nat} {base : Nat} {t e : TypeId} {size : Nat} {v : Value} {n : Nat} {xs : List Value} {A C : World} (hb : Boxed A T t v) (h : A.ownsRow base e size v n xs) (hT : T ∈ Bs) (hTB : T < B) (hc : Ch B Bs A C) : Boxed C T t v ∧ C.ownsRow base e size v n xs :=
  ⟨(hc.block T hb.lt (.inl hTB)).trans hb, own_of h fun g cap hv ⟨cur, hg⟩ => hc.block g (Array.getElem?_eq_some_iff.1 hg).1 (.inr ⟨⟨T, n, cap, hT, by rw [← hv]; exact hb.cell⟩, cur, e, _, hg⟩)⟩
/-- an append to the caller's own row -/
theorem KO.append {B T : Nat} {base : Nat} {t e : TypeId} {size : Nat} {v v' : Value} {n m : Nat} {xs ys : List Value} {W w1 : World} {tmp : Obj} (hv : Boxed W T t v) (hte : t ≠ e) (hTB : T < B)
    (hrow : W.ownsRow base e size v n xs) (hown' : w1.ownsRow base e size v' m ys) (hgrow : (W.alloc tmp).grownBy w1 v.ownBlock) (hob : v'.ownBlock = v.ownBlock ∨ v'.ownBlock = some (W.alloc tmp).heap.size) : KO B [T] W (w1.setCell ⟨T, 0, none⟩ v') := by
  have hb1 : Boxed w1 T t v := (hv.alloc tmp).kept hgrow (hv.not_row hte hrow)
  have hb2 := hb1.set v'
  have hgs := hgrow.size
  rw [World.size_alloc] at hgs
  have same : ∀ k, k ≠ T → k < W.heap.size → some k ≠ v.ownBlock → (w1.setCell ⟨T, 0, none⟩ v').heap[k]? = W.heap[k]? := fun k hk hl hne =>
    (Below.heap_setCell _ _ _ _ hk).trans ((hgrow.block k (by simp; omega) hne).trans (Below.heap_alloc _ _ _ hl))
  have ob : ∀ k, k < W.heap.size → ¬ ow [T] W k → some k ≠ v.ownBlock := fun k hk hn he => by
    rcases hrow.2 with ⟨rfl, _⟩ | ⟨g, cap, cur, rfl, _, hg, _⟩
    · cases he
    · have : k = g := Option.some.inj he
      subst this
      exact hn ⟨⟨T, n, cap, by simp, hv.cell⟩, cur, e, _, hg⟩
  refine ⟨by simp; omega, fun k cur T' u h1 h2 h3 => ?_, fun k q h1 h2 h3 => ?_, fun k hk hn ho => ?_, fun hs b hb => ?_⟩
  · have hl := (Array.getElem?_eq_some_iff.1 h3).1
    exact (same k (by simpa using h1) hl (ob k hl h2)).trans h3
  · have hl := (Array.getElem?_eq_some_iff.1 h3).1
    exact (same k (by omega) hl (ob k hl h2)).trans h3
  · obtain ⟨⟨b, n', c', hb, hc⟩, _⟩ := ho
    simp at hb; subst hb
    rw [hb2.cell] at hc
    have hvk := Option.some.inj hc
    have h9 : v'.ownBlock = some k := by rw [hvk]; rfl
    rcases hob with h | h
    · exact ob k hk hn (h9.symm.trans h)
    · rw [h9] at h
      have := Option.some.inj h
      simp at this
      omega
  · simp at hb; subst hb
    refine ⟨hb2.lt, fun k n' c' hc => ?_⟩
    rw [hb2.cell] at hc
    have hvk := Option.some.inj hc
    rcases hown'.2 with ⟨h0, _⟩ | ⟨g, cap, cur, h0, _, hg, _⟩
    · rw [hvk] at h0; cases h0
    · rw [hvk] at h0; cases h0
      have := (Array.getElem?_eq_some_iff.1 hg).1
      simpa using this
end Go.Proofs.YtljmhejljpfaiaaGreat

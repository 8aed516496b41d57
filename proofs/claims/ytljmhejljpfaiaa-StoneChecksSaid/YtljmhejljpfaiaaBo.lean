import Derived.Test.YtljmhejljpfaiaaBn
namespace Go.Proofs.Ytljmhejljpfaiaa
set_option maxRecDepth 100000
open Go.RowKit Go.Shelf

/-! the boxes of others' iterator -/
theorem Ch.sub {B B' : Nat} {Bs Bs' : List Nat} {A C : World} (h : Ch B Bs' A C) (hsub : ∀ b, b ∈ Bs → b ∈ Bs') (hB : B' ≤ B) : Ch B' Bs A C :=
  ⟨h.os, h.tape, h.output, h.size, fun k hk hc => h.block k hk (hc.imp (fun q => Nat.lt_of_lt_of_le q hB) (ow_mono hsub))⟩
theorem Ch.set {B T o : Nat} {Bs : List Nat} (W : World) (v : Value) (hB : B ≤ T) (hn : ¬ ow Bs W T) : Ch B Bs W (W.setCell ⟨T, o, none⟩ v) :=
  ⟨rfl, rfl, rfl, by simp, fun k _ hc => Below.heap_setCell _ _ _ _ (fun e => by
    have e' : k = T := e
    subst e'
    rcases hc with h | h
    · omega
    · exact hn h)⟩
/-- the row of a value is not the caller's -/
def NcV (Bs : List Nat) (v : Value) (W : World) : Prop := ∀ g, v.ownBlock = some g → Nc Bs g W
theorem Ch.append {B T : Nat} {Bs : List Nat} {W w1 : World} {tmp : Obj} {v v' : Value} (hB : B ≤ T) (hn : ¬ ow Bs W T) (hg : ∀ g, v.ownBlock = some g → B ≤ g) (hnv : NcV Bs v W)
    (hgrow : (W.alloc tmp).grownBy w1 v.ownBlock) : Ch B Bs W (w1.setCell ⟨T, 0, none⟩ v') := by
  have hgs := hgrow.size
  rw [World.size_alloc] at hgs
  refine ⟨hgrow.os, hgrow.tape, hgrow.output, by simp; omega, fun k hk hc => ?_⟩
  have h1 : k ≠ T := fun e => by
    subst e
    rcases hc with h | h
    · omega
    · exact hn h
  have h2 : some k ≠ v.ownBlock := fun e => by
    rcases hc with h | h
    · have := hg k e.symm; omega
    · exact (hnv k e.symm).o h
  exact (Below.heap_setCell _ _ _ _ h1).trans ((hgrow.block k (by simp; omega) h2).trans (Below.heap_alloc _ _ _ hk))
/-- a block of cells that is not the caller's stays so while the caller's boxes stay -/
theorem Nc.cells {B T : Nat} {Bs Bs' : List Nat} {A C : World} (h : Nc Bs T A) (hc : Ch B Bs' A C) (hs : ∀ b ∈ Bs, b < B ∧ b < A.heap.size) (hT : ∃ cur U u, A.heap[T]? = some (.cells cur U u)) : Nc Bs T C := by
  refine ⟨h.b, ?_⟩
  rintro ⟨⟨b, n, c, hb, hq⟩, _⟩
  exact h.o ⟨⟨b, n, c, hb, (cell_same (a := ⟨b, 0, none⟩) (hc.block b (hs b hb).2 (.inl (hs b hb).1))).symm.trans hq⟩, hT⟩
theorem own_cells {w : World} {base : Nat} {e : TypeId} {size : Nat} {v : Value} {n : Nat} {xs : List Value} (h : w.ownsRow base e size v n xs) {g : Nat} (hg : v.ownBlock = some g) : base ≤ g ∧ ∃ cur, w.heap[g]? = some (.cells cur e (0, 0)) := by
  rcases h.2 with ⟨rfl, _⟩ | ⟨g', cap, cur, rfl, hb, hr, _⟩
  · cases hg
  · obtain rfl : g' = g := Option.some.inj hg
    exact ⟨hb, cur, hr⟩
/-- others' own: the points before in a row, the mark, the caller's function, the point -/
structure OS (Bs : List Nat) (base T4 T5 Ty Tp lr : Nat) (p : Pt) (v : Value) (l1 : List Pt) (m : Bool) (X : World) : Prop where
  b4 : Boxed X T4 31 v
  own : Own X base v l1
  b5 : Boxed X T5 4 (.bool m)
  y : Yb Ty lr X
  pp : P2 Tp p.1 p.2 X
  n4 : Nc Bs T4 X
  n5 : Nc Bs T5 X
  ny : Nc Bs Ty X
  np : Nc Bs Tp X
  nv : NcV Bs v X
theorem OS.ko {B : Nat} {Bs : List Nat} {base T4 T5 Ty Tp lr : Nat} {p : Pt} {v : Value} {l1 : List Pt} {m : Bool} {X C : World} (h : OS Bs base T4 T5 Ty Tp lr p v l1 m X) (k : KO B Bs X C) : OS Bs base T4 T5 Ty Tp lr p v l1 m C :=
  ⟨k.boxed h.b4 h.n4.b h.n4.o, own_of h.own (fun g cap hv ⟨cur, hg⟩ => (k.cells g cur 32 _ (h.nv g (by rw [hv]; rfl)).b (h.nv g (by rw [hv]; rfl)).o hg).trans hg.symm), k.boxed h.b5 h.n5.b h.n5.o, k.boxed h.y h.ny.b h.ny.o, h.pp.ko h.np k,
   h.n4.ko k h.b4.lt, h.n5.ko k h.b5.lt, h.ny.ko k (Boxed.lt h.y), h.np.ko k h.pp.lt, fun g hg => by
    obtain ⟨_, cur, hc⟩ := own_cells h.own hg
    exact (h.nv g hg).ko k (Array.getElem?_eq_some_iff.1 hc).1⟩
theorem OS.below {Bs : List Nat} {base T4 T5 Ty Tp lr : Nat} {p : Pt} {v : Value} {l1 : List Pt} {m : Bool} {X C : World} (h : OS Bs base T4 T5 Ty Tp lr p v l1 m X) (hs : Sane Bs X) (k : Below X.heap.size X C) : OS Bs base T4 T5 Ty Tp lr p v l1 m C :=
  h.ko (KO.of_below (B := 0) k hs)
/-- over what a called iterator turns -/
theorem OS.ch {B : Nat} {Bs : List Nat} {base T4 T5 Ty Tp lr : Nat} {p : Pt} {v : Value} {l1 : List Pt} {m : Bool} {X C : World} (h : OS Bs base T4 T5 Ty Tp lr p v l1 m X) (hc : Ch B (T4 :: T5 :: Bs) X C) (hs : ∀ b ∈ Bs, b < B ∧ b < X.heap.size)
    (h4 : T4 < B) (h5 : T5 < B) (hy : Ty < B) (hp : Tp < B) : OS Bs base T4 T5 Ty Tp lr p v l1 m C := by
  obtain ⟨b4', own'⟩ := own_ch (Bs := T4 :: T5 :: Bs) h.b4 h.own (by simp) h4 hc
  exact ⟨b4', own', (hc.block _ h.b5.lt (.inl h5)).trans h.b5, (hc.block _ (Boxed.lt h.y) (.inl hy)).trans h.y, h.pp.ch hc hp,
    h.n4.cells hc hs ⟨_, _, _, h.b4⟩, h.n5.cells hc hs ⟨_, _, _, h.b5⟩, h.ny.cells hc hs ⟨_, _, _, h.y⟩, h.np.cells hc hs ⟨_, _, _, h.pp⟩, fun g hg => by
      obtain ⟨_, cur, hq⟩ := own_cells h.own hg
      exact (h.nv g hg).cells hc hs ⟨_, _, _, hq⟩⟩
/-- the mark is set -/
theorem OS.mark {B : Nat} {Bs : List Nat} {base T4 T5 Ty Tp lr : Nat} {p : Pt} {v : Value} {l1 : List Pt} {m : Bool} {X : World} (h : OS Bs base T4 T5 Ty Tp lr p v l1 m X) (hs : ∀ b ∈ Bs, b < B ∧ b < X.heap.size) (h5 : B ≤ T5) (e4 : T4 ≠ T5) (ey : Ty ≠ T5) (ep : Tp ≠ T5) (m' : Bool) :
    OS Bs base T4 T5 Ty Tp lr p v l1 m' (X.setCell ⟨T5, 0, none⟩ (.bool m')) := by
  have hc : Ch B Bs X (X.setCell ⟨T5, 0, none⟩ (.bool m')) := Ch.set X _ h5 h.n5.o
  have nr := h.b5.not_row (by decide) h.own
  exact ⟨h.b4.other e4 _, own_of h.own (fun g cap hv _ => Below.heap_setCell _ _ _ _ (fun e => nr (by rw [hv]; exact congrArg some e.symm))), h.b5.set _, Boxed.other h.y ey _, (Below.heap_setCell _ _ _ _ ep).trans h.pp,
    h.n4.cells hc hs ⟨_, _, _, h.b4⟩, h.n5.cells hc hs ⟨_, _, _, h.b5⟩, h.ny.cells hc hs ⟨_, _, _, h.y⟩, h.np.cells hc hs ⟨_, _, _, h.pp⟩, fun g hg => by
      obtain ⟨_, cur, hq⟩ := own_cells h.own hg
      exact (h.nv g hg).cells hc hs ⟨_, _, _, hq⟩⟩
theorem OS.sane {B : Nat} {Bs : List Nat} {base T4 T5 Ty Tp lr : Nat} {p : Pt} {v : Value} {l1 : List Pt} {m : Bool} {X : World} (h : OS Bs base T4 T5 Ty Tp lr p v l1 m X) (hs : Sane Bs X) (_ : B = B) : Sane (T4 :: T5 :: Bs) X := fun b hb => by
  simp only [List.mem_cons] at hb
  rcases hb with rfl | rfl | hb
  · refine ⟨h.b4.lt, fun k n c hc => ?_⟩
    rw [h.b4.cell] at hc
    have hv := Option.some.inj hc
    obtain ⟨_, cur, hq⟩ := own_cells h.own (g := k) (by rw [hv]; rfl)
    exact (Array.getElem?_eq_some_iff.1 hq).1
  · refine ⟨h.b5.lt, fun k n c hc => ?_⟩
    rw [h.b5.cell] at hc; cases hc
  · exact hs b hb
/-- a point is put to the points before -/
theorem OS.append {B : Nat} {Bs : List Nat} {base T4 T5 Ty Tp lr : Nat} {p : Pt} {v v' : Value} {l1 : List Pt} {q : Pt} {m : Bool} {X w1 : World} {tmp : Obj} (h : OS Bs base T4 T5 Ty Tp lr p v l1 m X) (hs : Sane Bs X) (hbs : ∀ b ∈ Bs, b < B ∧ b < X.heap.size) (h4 : B ≤ T4) (hb : B ≤ base) (hbT : base ≤ T4)
    (e5 : T5 ≠ T4) (ey : Ty ≠ T4) (ep : Tp ≠ T4) (py : some Ty ≠ v.ownBlock) (pp : some Tp ≠ v.ownBlock) (hbase : base ≤ X.heap.size)
    (hown' : w1.ownsRow base 32 2 v' (l1.length + 1) (cls l1 ++ [.int .i64 q.1, .int .i64 q.2])) (hgrow : (X.alloc tmp).grownBy w1 v.ownBlock) (hob : v'.ownBlock = v.ownBlock ∨ v'.ownBlock = some (X.alloc tmp).heap.size) :
    OS Bs base T4 T5 Ty Tp lr p v' (l1 ++ [q]) m (w1.setCell ⟨T4, 0, none⟩ v') ∧ Ch B Bs X (w1.setCell ⟨T4, 0, none⟩ v') := by
  have hc : Ch B Bs X (w1.setCell ⟨T4, 0, none⟩ v') := Ch.append h4 h.n4.o (fun g hg => Nat.le_trans hb (own_cells h.own hg).1) h.nv hgrow
  have far : ∀ k, k < X.heap.size → k ≠ T4 → some k ≠ v.ownBlock → (w1.setCell ⟨T4, 0, none⟩ v').heap[k]? = X.heap[k]? := fun k hk h1 h2 =>
    (Below.heap_setCell _ _ _ _ h1).trans ((hgrow.block k (by simp; omega) h2).trans (Below.heap_alloc _ _ _ hk))
  obtain ⟨_, b2, o2, _, _⟩ := Boxed.appended (B := T4) h.b4 (by decide) h.own hbase hbT hown' hgrow
  have nb4 : some T4 ≠ v'.ownBlock := b2.not_row (by decide) o2
  refine ⟨⟨b2, ?_, (far _ h.b5.lt e5 (h.b5.not_row (by decide) h.own)).trans h.b5, (far _ (Boxed.lt h.y) ey py).trans h.y, (far _ h.pp.lt ep pp).trans h.pp,
    h.n4.cells hc hbs ⟨_, _, _, h.b4⟩, h.n5.cells hc hbs ⟨_, _, _, h.b5⟩, h.ny.cells hc hbs ⟨_, _, _, h.y⟩, h.np.cells hc hbs ⟨_, _, _, h.pp⟩, fun g hg => ?_⟩, hc⟩
  · show World.ownsRow _ _ _ _ _ _ _
    rw [List.length_append, cls_snoc]
    exact o2
  · rcases hob with he | he
    · rw [he] at hg
      obtain ⟨_, cur, hq⟩ := own_cells h.own hg
      exact (h.nv g hg).cells hc hbs ⟨_, _, _, hq⟩
    · rw [he] at hg
      obtain rfl := Option.some.inj hg
      refine ⟨fun hm => ?_, ?_⟩
      · have := (hbs _ hm).2
        simp at this
        omega
      · rintro ⟨⟨b, n, c, hbb, hq⟩, _⟩
        rw [cell_same (a := ⟨b, 0, none⟩) (hc.block b (hbs b hbb).2 (.inl (hbs b hbb).1))] at hq
        have := (hs b hbb).2 _ _ _ hq
        simp at this
        omega
theorem ost_len_gen (p : Pt) : ∀ (l : List Pt) (st : List Pt × Bool × List Pt), (l.foldl (ostep p) st).1.length + (l.foldl (ostep p) st).2.2.length ≤ st.1.length + st.2.2.length + l.length
  | [], st => by simp
  | q :: l, st => by
    have ih := ost_len_gen p l (ostep p st q)
    have : (ostep p st q).1.length + (ostep p st q).2.2.length ≤ st.1.length + st.2.2.length + 1 := by
      unfold ostep
      split
      · simp
      · split
        · simp; omega
        · simp; omega
    rw [List.foldl_cons, List.length_cons]
    omega
theorem ost_len (p : Pt) (l : List Pt) : (ost p l).1.length + (ost p l).2.2.length ≤ l.length := by
  have := ost_len_gen p l ([], false, [])
  simpa [ost] using this
theorem ost_mem_gen (p : Pt) : ∀ (l : List Pt) (st : List Pt × Bool × List Pt) (q : Pt), q ∈ (l.foldl (ostep p) st).1 → q ∈ st.1 ∨ q ∈ l
  | [], st, q, h => .inl h
  | r :: l, st, q, h => by
    rw [List.foldl_cons] at h
    rcases ost_mem_gen p l _ q h with h | h
    · unfold ostep at h
      split at h
      · exact .inl h
      · split at h
        · simp only [List.mem_append, List.mem_singleton] at h
          rcases h with h | rfl
          · exact .inl h
          · exact .inr (by simp)
        · exact .inl h
    · exact .inr (by simp [h])
theorem ost_mem (p : Pt) (l : List Pt) (q : Pt) (h : q ∈ (ost p l).1) : q ∈ l := by
  rcases ost_mem_gen p l _ q h with h | h
  · cases h
  · exact h
end Go.Proofs.Ytljmhejljpfaiaa

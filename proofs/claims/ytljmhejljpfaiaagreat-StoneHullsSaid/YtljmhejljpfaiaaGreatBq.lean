import Derived.Test.YtljmhejljpfaiaaGreatBn
namespace Go.Proofs.YtljmhejljpfaiaaGreat
set_option maxRecDepth 100000
set_option maxRecDepth 100000
open Go.RowKit Go.Shelf

/-! the boxes of others' iterator -/
theorem Ch.sub {B B' : Nat} {Bs Bs' : List Nat} {A C : World} (h : Ch B Bs' A C) (hsub : ∀ b, b ∈ Bs → b ∈ Bs') (hB : B' ≤ B) : Ch B' Bs A C :=
  ⟨h.os, h.tape, h.output, h.size, fun k hk hc => h.block k hk (hc.imp (fun q => Nat.lt_of_lt_of_le q hB) (ow_mono hsub))⟩
theorem Ch.set {B T o : Nat} {Bs : List Nat} (W : World) (v : Value) (hB : B ≤ T) (hn : ¬ ow Bs W T) : Ch B Bs W (W.setCell ⟨T, o, none⟩ v) :=
  ⟨rfl, rfl, rfl, by simp, fun k _ hc => Below.heap_setCell _ _ _ _ (fun e => by
    have e' : k = T := e
    subst e'
    rcases hc with h | h
    · omega
    · exact hn h)⟩
/-- the row of a value is not the caller's -/
def NcV (Bs : List Nat) (v : Value) (W : World) : Prop := ∀ g, v.ownBlock = some g → Nc Bs g W
theorem Ch.append {B T : Nat} {Bs : List Nat} {W w1 : World} {tmp : Obj} {v v' : Value} (hB : B ≤ T) (hn : ¬ ow Bs W T) (hg : ∀ g, v.ownBlock = some g → B ≤ g) (hnv : NcV Bs v W)
    (hgrow : (W.alloc tmp).grownBy w1 v.ownBlock) : Ch B Bs W (w1.setCell ⟨T, 0, none⟩ v') := by
  have hgs := hgrow.size
  rw [World.size_alloc] at hgs
  refine ⟨hgrow.os, hgrow.tape, hgrow.output, by simp; omega, fun k hk hc => ?_⟩
  have h1 : k ≠ T := fun e => by
    subst e
    rcases hc with h | h
    · omega
    · exact hn h
  have h2 : some k ≠ v.ownBlock := fun e => by
    rcases hc with h | h
    · have := hg k e.symm; omega
    · exact (hnv k e.symm).o h
  exact (Below.heap_setCell _ _ _ _ h1).trans ((hgrow.block k (by simp; omega) h2).trans (Below.heap_alloc _ _ _ hk))
/-- a block of cells that is not the caller's stays so while the caller's boxes stay -/
theorem Nc.cells {B T : Nat} {Bs Bs' : List Nat} {A C : World} (h : Nc Bs T A) (hc : Ch B Bs' A C) (hs : ∀ b ∈ Bs, b < B ∧ b < A.heap.size) (hT : ∃ cur U u, A.heap[T]? = some (.cells cur U u)) : Nc Bs T C := by
  refine ⟨h.b, ?_⟩
  rintro ⟨⟨b, n, c, hb, hq⟩, _⟩
  exact h.o ⟨⟨b, n, c, hb, (cell_same (a := ⟨b, 0, none⟩) (hc.block b (hs b hb).2 (.inl (hs b hb).1))).symm.trans hq⟩, hT⟩
theorem own_cells {w : World} {base : Nat} {e : TypeId} {size : Nat} {v : Value} {n : Nat} {xs : List Value} (h : w.ownsRow base e size v n xs) {g : Nat} (hg : v.ownBlock = some g) : base ≤ g ∧ ∃ cur, w.heap[g]? = some (.cells cur e (0, 0)) := by
  rcases h.2 with ⟨rfl, _⟩ | ⟨g', cap, cur, rfl, hb, hr, _⟩
  · cases hg
  · obtain rfl : g' = g := Option.some.inj hg
    exact ⟨hb, cur, hr⟩
/-- others' own: the points before in a row, the mark, the caller's function, the point -/
structure OS (Bs : List Nat) (base T4 T5 Ty Tp lr : Nat) (p : Pt) (v : Value) (l1 : List Pt) (m : Bool) (X : World) : Prop where
  b4 : Boxed X T4 24 v
  own : Own X base v l1
  b5 : Boxed X T5 4 (.bool m)
  y : Yb Ty lr X
  pp : P2 Tp p.1 p.2 X
  n4 : Nc Bs T4 X
  n5 : Nc Bs T5 X
  ny : Nc Bs Ty X
  np : Nc Bs Tp X
  nv : NcV Bs v X
theorem OS.ko {B : Nat} {Bs : List Nat} {base T4 T5 Ty Tp lr : Nat} {p : Pt} {v : Value} {l1 : List Pt} {m : Bool} {X C : World} (h : OS Bs base T4 T5 Ty Tp lr p v l1 m X) (k : KO B Bs X C) : OS Bs base T4 T5 Ty Tp lr p v l1 m C :=
  ⟨k.boxed h.b4 h.n4.b h.n4.o, own_of h.own (fun g cap hv ⟨cur, hg⟩ => (k.cells g cur 37 _ (h.nv g (by rw [hv]; rfl)).b (h.nv g (by rw [hv]; rfl)).o hg).trans hg.symm), k.boxed h.b5 h.n5.b h.n5.o, k.boxed h.y h.ny.b h.ny.o, h.pp.ko h.np k,
   h.n4.ko k h.b4.lt, h.n5.ko k h.b5.lt, h.ny.ko k (Boxed.lt h.y), h.np.ko k h.pp.lt, fun g hg => by
    obtain ⟨_, cur, hc⟩ := own_cells h.own hg
    exact (h.nv g hg).ko k (Array.getElem?_eq_some_iff.1 hc).1⟩
theorem OS.below {Bs : List Nat} {base T4 T5 Ty Tp lr : Nat} {p : Pt} {v : Value} {l1 : List Pt} {m : Bool} {X C : World} (h : OS Bs base T4 T5 Ty Tp lr p v l1 m X) (hs : Sane Bs X) (k : Below X.heap.size X C) : OS Bs base T4 T5 Ty Tp lr p v l1 m C :=
  h.ko (KO.of_below (B := 0) k hs)
/-- over what a called iterator turns -/
theorem OS.ch {B : Nat} {Bs : List Nat} {base T4 T5 Ty Tp lr : Nat} {p : Pt} {v : Value} {l1 : List Pt} {m : Bool} {X C : World} (h : OS Bs base T4 T5 Ty Tp lr p v l1 m X) (hc : Ch B (T4 :: T5 :: Bs) X C) (hs : ∀ b ∈ Bs, b < B ∧ b < X.heap.size)
    (h4 : T4 < B) (h5 : T5 < B) (hy : Ty < B) (hp : Tp < B) : OS Bs base T4 T5 Ty Tp lr p v l1 m C := by
  obtain ⟨b4', own'⟩ := own_ch (Bs := T4 :: T5 :: Bs) h.b4 h.own (by simp) h4 hc
  exact ⟨b4', own', (hc.block _ h.b5.lt (.inl h5)).trans h.b5, (hc.block _ (Boxed.lt h.y) (.inl hy)).trans h.y, h.pp.ch hc hp,
    h.n4.cells hc hs ⟨_, _, _, h.b4⟩, h.n5.cells hc hs ⟨_, _, _, h.b5⟩, h.ny.cells hc hs ⟨_, _, _, h.y⟩, h.np.cells hc hs ⟨_, _, _, h.pp⟩, fun g hg => by
      obtain ⟨_, cur, hq⟩ := own_cells h.own hg
      exact (h.nv g hg).cells hc hs ⟨_, _, _, hq⟩⟩
/-- the mark is set -/
theorem OS.mark {B : Nat} {Bs : List Nat} {base T4 T5 Ty Tp lr : Nat} {p : Pt} {v : Value} {l1 : List Pt} {m : Bool} {X : World} (h : OS Bs base T4 T5 Ty Tp lr p v l1 m X) (hs : ∀ b ∈ Bs, b < B ∧ b < X.heap.size) (h5 : B ≤ T5) (e4 : T4 ≠ T5) (ey : Ty ≠ T5) (ep : Tp ≠ T5) (m' : Bool) :
    OS Bs base T4 T5 Ty Tp lr p v l1 m' (X.setCell ⟨T5, 0, none⟩ (.bool m')) := by
  have hc : Ch B Bs X (X.setCell ⟨T5, 0, none⟩ (.bool m')) := Ch.set X _ h5 h.n5.o
  have nr := h.b5.not_row (by decide) h.own
  exact ⟨h.b4.other e4 _, own_of h.own (fun g cap hv _ => Below.heap_setCell _ _ _ _ (fun e => nr (by rw [hv]; exact congrArg some e.symm))), h.b5.set _, Boxed.other h.y ey _, (Below.heap_setCell _ _ _ _ ep).trans h.pp,
    h.n4.cells hc hs ⟨_, _, _, h.b4⟩, h.n5.cells hc hs ⟨_, _, _, h.b5⟩, h.ny.cells hc hs ⟨_, _, _, h.y⟩, h.np.cells hc hs ⟨_, _, _, h.pp⟩, fun g hg => by
      obtain ⟨_, cur, hq⟩ := own_cells h.own hg
      exact (h.nv g hg).cells hc hs ⟨_, _, _, hq⟩⟩
theorem OS.sane {B : Nat} {Bs : List Nat} {base T4 T5 Ty Tp lr : Nat} {p : Pt} {v : Value} {l1 : List Pt} {m : Bool} {X : World} (h : OS Bs base T4 T5 Ty Tp lr p v l1 m X) (hs : Sane Bs X) (_ : B = B) : Sane (T4 :: T5 :: Bs) X := fun b hb => by
  simp only [List.mem_cons] at hb
  rcases hb with rfl | rfl | hb
  · refine ⟨h.b4.lt, fun k n c hc => ?_⟩
    rw [h.b4.cell] at hc
    have hv := Option.some.inj hc
    obtain ⟨_, cur, hq⟩ := own_cells h.own (g := k) (by rw [hv]; rfl)
    exact (Array.getElem?_eq_some_iff.1 hq).1
  · refine ⟨h.b5.lt, fun k n c hc => ?_⟩
    rw [h.b5.cell] at hc; cases hc
  · exact hs b hb
/-- a point is put to the points before -/
theorem OS.append {B : Nat} {Bs : List Nat} {base T4 T5 Ty Tp lr : Nat} {p : Pt} {v v' : Value} {l1 : List Pt} {q : Pt} {m : Bool} {X w1 : World} {tmp : Obj} (h : OS Bs base T4 T5 Ty Tp lr p v l1 m X) (hs : Sane Bs X) (hbs : ∀ b ∈ Bs, b < B ∧ b < X.heap.size) (h4 : B ≤ T4) (hb : B ≤ base) (hbT : base ≤ T4)
    (e5 : T5 ≠ T4) (ey : Ty ≠ T4) (ep : Tp ≠ T4) (py : some Ty ≠ v.ownBlock) (pp : some Tp ≠ v.ownBlock) (hbase : base ≤ X.heap.size)
    (hown' : w1.ownsRow base 37 2 v' (l1.length + 1) (cls l1 ++ [.int .i64 q.1, .int .i64 q.2])) (hgrow : (X.alloc tmp).grownBy w1 v.ownBlock) (hob : v'.ownBlock = v.ownBlock ∨ v'.ownBlock = some (X.alloc tmp).heap.size) :
    OS Bs base T4 T5 Ty Tp lr p v' (l1 ++ [q]) m (w1.setCell ⟨T4, 0, none⟩ v') ∧ Ch B Bs X (w1.setCell ⟨T4, 0, none⟩ v') := by
  have hc : Ch B Bs X (w1.setCell ⟨T4, 0, none⟩ v') := Ch.append h4 h.n4.o (fun g hg => Nat.le_trans hb (own_cells h.own hg).1) h.nv hgrow
  have far : ∀ k, k < X.heap.size → k ≠ T4 → some k ≠ v.ownBlock → (w1.setCell ⟨T4, 0, none⟩ v').heap[k]? = X.heap[k]? := fun k hk h1 h2 =>
    (Below.heap_setCell _ _ _ _ h1).trans ((hgrow.block k (by simp; omega) h2).trans (Below.heap_alloc _ _ _ hk))
  obtain ⟨_, b2, o2, _, _⟩ := Boxed.appended (B := T4) h.b4 (by decide) h.own hbase hbT hown' hgrow
  have nb4 : some T4 ≠ v'.ownBlock := b2.not_row (by decide) o2
  refine ⟨⟨b2, ?_, (far _ h.b5.lt e5 (h.b5.not_row (by decide) h.own)).trans h.b5, (far _ (Boxed.lt h.y) ey py).trans h.y, (far _ h.pp.lt ep pp).trans h.pp,
    h.n4.cells hc hbs ⟨_, _, _, h.b4⟩, h.n5.cells hc hbs ⟨_, _, _, h.b5⟩, h.ny.cells hc hbs ⟨_, _, _, h.y⟩, h.np.cells hc hbs ⟨_, _, _, h.pp⟩, fun g hg => ?_⟩, hc⟩
  · show World.ownsRow _ _ _ _ _ _ _
    rw [List.length_append, cls_snoc]
    exact o2
  · rcases hob with he | he
    · rw [he] at hg
      obtain ⟨_, cur, hq⟩ := own_cells h.own hg
      exact (h.nv g hg).cells hc hbs ⟨_, _, _, hq⟩
    · rw [he] at hg
      obtain rfl := Option.some.inj hg
      refine ⟨fun hm => ?_, ?_⟩
      · have := (hbs _ hm).2
        simp at this
        omega
      · rintro ⟨⟨b, n, c, hbb, hq⟩, _⟩
        rw [cell_same (a := ⟨b, 0, none⟩) (hc.block b (hbs b hbb).2 (.inl (hbs b hbb).1))] at hq
        have := (hs b hbb).2 _ _ _ hq
        simp at this
        omega
theorem ost_len_gen (p : Pt) : ∀ (l : List Pt) (st : List Pt × Bool × List Pt), (l.foldl (ostep p) st).1.length + (l.foldl (ostep p) st).2.2.length ≤ st.1.length + st.2.2.length + l.length
  | [], st => by simp
  | q :: l, st => by
    have ih := ost_len_gen p l (ostep p st q)
    have : (ostep p st q).1.length + (ostep p st q).2.2.length ≤ st.1.length + st.2.2.length + 1 := by
      unfold ostep
      split
      · simp
      · split
        · simp; omega
        · simp; omega
    rw [List.foldl_cons, List.length_cons]
    omega
theorem ost_len (p : Pt) (l : List Pt) : (ost p l).1.length + (ost p l).2.2.length ≤ l.length := by
  have := ost_len_gen p l ([], false, [])
  simpa [ost] using this
theorem ost_mem_gen (p : Pt) : ∀ (l : List Pt) (st : List Pt × Bool × List Pt) (q : Pt), q ∈ (l.foldl (ostep p) st).1 → q ∈ st.1 ∨ q ∈ l
  | [], st, q, h => .inl h
  | r :: l, st, q, h => by
    rw [List.foldl_cons] at h
    rcases ost_mem_gen p l _ q h with h | h
    · unfold ostep at h
      split at h
      · exact .inl h
      · split at h
        · simp only [List.mem_append, List.mem_singleton] at h
          rcases h with h | rfl
          · exact .inl h
          · exact .inr (by simp)
        · exact .inl h
    · exact .inr (by simp [h])
theorem ost_mem (p : Pt) (l : List Pt) (q : Pt) (h : q ∈ (ost p l).1) : q ∈ l := by
  rcases ost_mem_gen p l _ q h with h | h
  · cases h
  · exact h
end Go.Proofs.YtljmhejljpfaiaaGreat
namespace Go.Proofs.YtljmhejljpfaiaaGreat
set_option maxRecDepth 100000
set_option maxRecDepth 100000
open Go.RowKit Go.Shelf
attribute [local go_sem] Oper.semAt_some

/-! the iterator over the points of a border but one -/
theorem ost_vals {N : Nat} {xs : List Pq} {p : Pt} (h : xs.length ≤ N) : (ost p (vals xs)).1.length + (ost p (vals xs)).2.2.length ≤ N := by
  have := ost_len p (vals xs)
  rw [vals_length] at this
  omega
theorem Own.form2 {w : World} {base : Nat} {v : Value} {l : List Pt} (h : Own w base v l) : ∃ vp vc, v = .slice vp l.length vc ∧ (l ≠ [] → ∃ g, vp = some ⟨g, 0, none⟩) := by
  rcases h.row with ⟨rfl, rfl⟩ | ⟨g, c, rfl, _⟩
  · exact ⟨none, 0, rfl, fun h => absurd rfl h⟩
  · exact ⟨_, c, rfl, fun _ => ⟨g, rfl⟩⟩
set_option maxHeartbeats 8000000 in
theorem others1_in (n lr : Nat) (Bs : List Nat) (Be Tp b o c : Nat) (l : List Pt) (p : Pt) (h3 : 0 < l.length) (h12 : l.length ≤ 1000) (hx : Bx l)
    (hd : ∀ i, i < l.length → ¬ (px l (nx l.length i) = px l i ∧ pz l (nx l.length i) = pz l i))
    (J Jx : List Pq → World → Prop) (W : World) (hJ : Bears W.heap.size Bs J) (hJx : Bears W.heap.size Bs Jx)
    (hY : ∀ m pre x W1, J pre W1 → Sane Bs W1 → pre.length < l.length * 2000 → YieldAt Fence.wide m Tryz.prog lr (enc1 x) W1 fun e W' =>
      (e = .returned (.bool true) ∧ J (pre ++ [x]) W' ∧ KO W.heap.size Bs W1 W') ∨ (e = .returned (.bool false) ∧ Jx (pre ++ [x]) W' ∧ KO W.heap.size Bs W1 W'))
    (hE : Ed Bs Be b o c l W) (hp : P2 Tp p.1 p.2 W) (hnp : Nc Bs Tp W) (h0 : J [] W) :
    CallsIn Fence.wide n Tryz.prog 87 #[.func (.yield lr) #[] #[], .pointer (some ⟨Be, 0, none⟩), .pointer (some ⟨Tp, 0, none⟩)] W fun e W' => (∃ v, e = .returned v) ∧ ((∃ xs, vals xs = oth l p ∧ J xs W') ∨ (∃ pre, Jx pre W')) := by
  obtain ⟨i0, hi, hz0, hz1, hz2⟩ := info_parts Tryz.info37
  obtain ⟨pa, pc⟩ := p
  dsimp only at hp
  have HJ := Lib.hid hJ; have HJX := Lib.hid hJx; have HY := Lib.hid hY; have HE := Lib.hid hE; have H0 := Lib.hid h0; have HX := Lib.hid hx; have HD := Lib.hid hd; have HP := Lib.hid (And.intro hp hnp)
  have hbe := hE.box.lt
  have hbr := hE.row.lt h3
  have htp := hp.lt
  have cb : (((W.alloc (.cells #[.func (.yield lr) #[] #[]] 66)).alloc (.cells #[.slice none 0 0] 24)).alloc (.cells #[.bool false] 4)).cell? ⟨Be, 0, none⟩ = some (.slice (some ⟨b, o, none⟩) l.length c) := ((bl3 W _ _ _).cell (p := ⟨Be, 0, none⟩) hbe).trans hE.box.cell
  clear hJ hJx hY hE h0 hx hd hp hnp
  refine callsIn_of_wp_marks Tryz.func87 rfl trivial ?_ rfl
  simp only [Tryz.ntmps87, List.size_toArray, List.length_cons, List.length_nil, Nat.reduceAdd, Nat.reduceSub, Array.replicate_succ, Array.replicate_zero, List.push_toArray, List.append_toArray, List.nil_append, List.cons_append]
  gi_wp2_with fail
  refine ⟨trivial, (fun h => by cases h), ?_⟩
  refine (callsIn_wide.2 (pointsv_any _ _ _ _)).mono ?_
  rintro e w' ⟨rfl, rfl⟩
  gi_wp2
  have hB0 : Below W.heap.size W ((((W.alloc (.cells #[.func (.yield lr) #[] #[]] 66)).alloc (.cells #[.slice none 0 0] 24)).alloc (.cells #[.bool false] 4)).alloc (.cells #[.slice (some ⟨b, o, none⟩) l.length c] 49)) := (bl3 W _ _ _).alloc (by simp; omega) _
  have hsz : ((((W.alloc (.cells #[.func (.yield lr) #[] #[]] 66)).alloc (.cells #[.slice none 0 0] 24)).alloc (.cells #[.bool false] 4)).alloc (.cells #[.slice (some ⟨b, o, none⟩) l.length c] 49)).heap.size = W.heap.size + 4 := by simp
  have hYb : Yb W.heap.size lr ((((W.alloc (.cells #[.func (.yield lr) #[] #[]] 66)).alloc (.cells #[.slice none 0 0] 24)).alloc (.cells #[.bool false] 4)).alloc (.cells #[.slice (some ⟨b, o, none⟩) l.length c] 49)) := (((Boxed.new W 66 (.func (.yield lr) #[] #[])).alloc _).alloc _).alloc _
  have h4 : Boxed ((((W.alloc (.cells #[.func (.yield lr) #[] #[]] 66)).alloc (.cells #[.slice none 0 0] 24)).alloc (.cells #[.bool false] 4)).alloc (.cells #[.slice (some ⟨b, o, none⟩) l.length c] 49)) (W.heap.size + 1) 24 (.slice none 0 0) := by
    have := Boxed.new (W.alloc (.cells #[.func (.yield lr) #[] #[]] 66)) 24 (.slice none 0 0)
    rw [World.size_alloc] at this
    exact (this.alloc _).alloc _
  have h5 : Boxed ((((W.alloc (.cells #[.func (.yield lr) #[] #[]] 66)).alloc (.cells #[.slice none 0 0] 24)).alloc (.cells #[.bool false] 4)).alloc (.cells #[.slice (some ⟨b, o, none⟩) l.length c] 49)) (W.heap.size + 1 + 1) 4 (.bool false) := by
    have := Boxed.new ((W.alloc (.cells #[.func (.yield lr) #[] #[]] 66)).alloc (.cells #[.slice none 0 0] 24)) 4 (.bool false)
    simp only [World.size_alloc] at this
    exact this.alloc _
  have hBx : Boxed ((((W.alloc (.cells #[.func (.yield lr) #[] #[]] 66)).alloc (.cells #[.slice none 0 0] 24)).alloc (.cells #[.bool false] 4)).alloc (.cells #[.slice (some ⟨b, o, none⟩) l.length c] 49)) (W.heap.size + 1 + 1 + 1) 49 (.slice (some ⟨b, o, none⟩) l.length c) := by
    have := Boxed.new (((W.alloc (.cells #[.func (.yield lr) #[] #[]] 66)).alloc (.cells #[.slice none 0 0] 24)).alloc (.cells #[.bool false] 4)) 49 (.slice (some ⟨b, o, none⟩) l.length c)
    simp only [World.size_alloc] at this
    exact this
  generalize ((((W.alloc (.cells #[.func (.yield lr) #[] #[]] 66)).alloc (.cells #[.slice none 0 0] 24)).alloc (.cells #[.bool false] 4)).alloc (.cells #[.slice (some ⟨b, o, none⟩) l.length c] 49)) = w0 at *
  have ncn : ∀ k, W.heap.size ≤ k → Nc Bs k w0 := fun k hk => by
    refine ⟨fun hm => by have := (HE.out.sane _ hm).1; omega, ?_⟩
    rintro ⟨⟨b', n', c', hb', hq⟩, _⟩
    rw [hB0.cell (p := ⟨b', 0, none⟩) (HE.out.sane _ hb').1] at hq
    have := (HE.out.sane _ hb').2 _ _ _ hq
    omega
  have E0 := HE.out.below hB0 h3
  have os0 : OS Bs W.heap.size (W.heap.size + 1) (W.heap.size + 1 + 1) W.heap.size Tp lr (pa, pc) (.slice none 0 0) [] false w0 :=
    ⟨h4, World.ownsRow_nil _ _ _ _, h5, hYb, HP.out.1.below hB0, ncn _ (by omega), ncn _ (by omega), ncn _ (by omega), HP.out.2.below HE.out.sane hB0 HP.out.1.lt, fun g hg => by cases hg⟩
  have hlow : ∀ X : World, w0.heap.size ≤ X.heap.size → ∀ b, b ∈ Bs → b < W.heap.size ∧ b < X.heap.size  := fun X hX b hb => by
    have := (HE.out.sane b hb).1
    omega
  have hno : ∀ k, ¬ ow Bs w0 k → ¬ ow ((W.heap.size + 1) :: (W.heap.size + 1 + 1) :: Bs) w0 k := fun k hk => by
    rintro ⟨⟨B, n', c', hB, hq⟩, r⟩
    simp only [List.mem_cons] at hB
    rcases hB with rfl | rfl | hB
    · rw [h4.cell] at hq; cases hq
    · rw [h5.cell] at hq; cases hq
    · exact hk ⟨⟨B, n', c', hB, hq⟩, r⟩
  have HLOW := Lib.hid hlow
  refine rangeX ((W.heap.size + 1) :: (W.heap.size + 1 + 1) :: Bs) (gf := 73) (lb := #[.pointer (some ⟨W.heap.size + 1 + 1 + 1, 0, none⟩)]) rfl (enters_of Tryz.func73 (by kernel_rfl) rfl)
    (points_seq (W.heap.size + 1 + 1 + 1) b o c l w0 h3 (by omega) HX.out HD.out E0.row hBx) (Below.refl _ _) (fun _ => rfl) (os0.sane (B := 0) E0.sane rfl)
    (fun k hk => by
      rcases hk with rfl | rfl
      · refine ⟨by omega, ?_, hno _ (ncn _ (by omega)).o⟩
        simp only [List.mem_cons, not_or]
        exact ⟨by omega, by omega, (ncn _ (by omega)).b⟩
      · refine ⟨E0.row.lt h3, ?_, hno _ E0.nr.2⟩
        simp only [List.mem_cons, not_or]
        exact ⟨by omega, by omega, E0.nr.1⟩)
    (fun pre X => ∃ v cur, OS Bs W.heap.size (W.heap.size + 1) (W.heap.size + 1 + 1) W.heap.size Tp lr (pa, pc) v (ost (pa, pc) (vals pre)).1 (ost (pa, pc) (vals pre)).2.1 X ∧ (vals cur = (ost (pa, pc) (vals pre)).2.2 ∧ pre.length ≤ l.length * 2000) ∧ J cur X ∧ (w0.heap.size ≤ X.heap.size ∧ Sane Bs X))
    (fun cc _ X => cc = .ret ∧ ∃ cur, Jx cur X)
    ?bI (fun cc s A C h hc => ⟨h.1, h.2.choose, HJX.out _ _ _ h.2.choose_spec (hc.sub (fun b hb => by simp [hb]) (by omega))⟩)
    ⟨_, [], os0, ⟨rfl, Nat.zero_le _⟩, HJ.out _ _ _ H0.out (Ch.of_below hB0), Nat.le_refl _, E0.sane⟩
    (fun x a' X => ∃ T6, P2 T6 x.1.1 x.1.2 X ∧ a' = { tmps := #[.func (.yield lr) #[] #[], .pointer (some ⟨Be, 0, none⟩), .pointer (some ⟨Tp, 0, none⟩), .pointer (some ⟨W.heap.size, 0, none⟩), .pointer (some ⟨W.heap.size + 1, 0, none⟩), .pointer (some ⟨W.heap.size + 1 + 1, 0, none⟩), .pointer (some ⟨T6, 0, none⟩), undef, undef, .slice (some ⟨b, o, none⟩) l.length c, .func (.func 73) #[] #[.pointer (some ⟨W.heap.size + 1 + 1 + 1, 0, none⟩)], .agg #[.int .i64 x.1.1, .int .i64 x.1.2], undef, undef, undef, undef, undef, undef, undef, undef, undef, undef, undef, undef, undef, undef, undef, undef, undef, undef, undef, undef, undef, undef, undef, undef, undef, undef, undef], defers := [] })
    (fun x a' X k q q' hl ho ho' ⟨T6, h, e⟩ => ⟨T6, h.putObj q' hl ho, e⟩) ?assign ?body ?done ?stop
  case bI =>
    rintro s A C ⟨v, cur, hO, h1, h2, hs, hsB⟩ hc
    have hcB : Ch W.heap.size Bs A C := hc.sub (fun b hb => by simp [hb]) (by omega)
    exact ⟨v, cur, hO.ch hc (fun b hb => by have := HLOW.out _ hs b hb; omega) (by omega) (by omega) (by omega) (by omega), h1, HJ.out _ _ _ h2 hcB, Nat.le_trans hs hc.size, hcB.sane (fun b hb => (HLOW.out _ hs b hb).1) hsB⟩
  case assign =>
    rintro lr' pre x X K ⟨v, cur, hO, h1, h2, hs, _⟩ hsX hK
    unfold enc1
    gi_wp2
    have hb1 := bl1 X (.cells #[.int .i64 x.1.1, .int .i64 x.1.2] 37)
    have hsB : Sane Bs X := fun b hb => hsX b (by simp [hb])
    exact hK _ _ (KO.of_below hb1 hsX) ⟨v, cur, hO.below hsB hb1, h1, HJ.out _ _ _ h2 (Ch.of_below hb1), Nat.le_trans hs hb1.size, (KO.of_below (B := 0) hb1 hsB).sane hsB⟩ ⟨X.heap.size, P2.new X _ _, rfl⟩
  case body =>
    rintro lr' pre ⟨⟨xa, xz⟩, hxp⟩ a' X ⟨v, cur, hO, ⟨e1, e1'⟩, hJ0, hs, hsB⟩ hsX ⟨T6, p6, rfl⟩ hlt
    dsimp only at p6 ⊢
    have hln1 := ost_vals (p := (pa, pc)) (xs := pre) (Nat.le_refl _)
    have HI : Hid (∀ X' v cu s1' mk' s3', ostep (pa, pc) (ost (pa, pc) (vals pre)) (xa, xz) = (s1', mk', s3') → OS Bs W.heap.size (W.heap.size + 1) (W.heap.size + 1 + 1) W.heap.size Tp lr (pa, pc) v s1' mk' X' → vals cu = s3' → J cu X' → (w0.heap.size ≤ X'.heap.size ∧ Sane Bs X') →
      ∃ v cur, OS Bs W.heap.size (W.heap.size + 1) (W.heap.size + 1 + 1) W.heap.size Tp lr (pa, pc) v (ost (pa, pc) (vals (pre ++ [⟨(xa, xz), hxp⟩]))).1 (ost (pa, pc) (vals (pre ++ [⟨(xa, xz), hxp⟩]))).2.1 X' ∧ (vals cur = (ost (pa, pc) (vals (pre ++ [⟨(xa, xz), hxp⟩]))).2.2 ∧ (pre ++ [(⟨(xa, xz), hxp⟩ : Pq)]).length ≤ l.length * 2000) ∧ J cur X' ∧ (w0.heap.size ≤ X'.heap.size ∧ Sane Bs X')) := fun X' v cu s1' mk' s3' h1 h2 h3 h4 h5 => by
        rw [vals_snoc, ost_snoc, h1]
        exact ⟨v, cu, h2, ⟨h3, by rw [List.length_append]; simp only [List.length_cons, List.length_nil]; omega⟩, h4, h5⟩
    generalize ost (pa, pc) (vals pre) = st at *
    obtain ⟨s1, mk, s3⟩ := st
    dsimp only at e1 hO hln1
    have hcl : cur.length = s3.length := by rw [← vals_length, e1]
    obtain ⟨p0, p1⟩ := p6.cells
    obtain ⟨d0, d1⟩ := hO.pp.cells
    dsimp only at d0 d1
    have c5 := hO.b5.cell
    have f5 := hO.b5.frozen
    have c4 := hO.b4.cell
    have f4 := hO.b4.frozen
    have cy := Boxed.cell hO.y
    obtain ⟨vp, vn, vc, rfl⟩ := own_form hO.own
    have hOwn := hO.own
    have HO := Lib.hid hO
    have HP6 := Lib.hid p6
    have HS := Lib.hid (And.intro (And.intro hs hsB) hsX)
    have HC := Lib.hid (And.intro e1 e1')
    have HJ0 := Lib.hid hJ0
    have hcase : ¬ xa = pa ∨ (xa = pa ∧ ¬ xz = pc) ∨ (xa = pa ∧ xz = pc) := by
      by_cases q1 : xa = pa
      · by_cases q2 : xz = pc
        · exact .inr (.inr ⟨q1, q2⟩)
        · exact .inr (.inl ⟨q1, q2⟩)
      · exact .inl q1
    have hX0 : W.heap.size + 4 ≤ X.heap.size := by omega
    have HXL := Lib.hid hX0
    have hbd : s1.length ≤ 2000000 := by omega
    have HOWN : Hid (X.ownsRow W.heap.size 37 2 (.slice vp vn vc) s1.length (cls s1)) := hOwn
    have HCL := Lib.hid (And.intro hcl hlt)
    clear hO p6 hs hsX hsB e1 e1' hJ0 hcl hlt hOwn
    rcases hcase with hne | ⟨rfl, hne⟩ | ⟨rfl, rfl⟩
    · skip
      have HNE : Hid (¬ ((xa, xz) : Pt) = (pa, pc)) := fun e => by
        cases e
        exact hne rfl
      cases mk with
      | false =>
        have HS1 : Hid (ostep (pa, pc) (s1, false, s3) (xa, xz) = (s1 ++ [(xa, xz)], false, s3)) := by show _ = _; unfold ostep; rw [if_neg HNE.out]; rfl
        gi_wp2_with (gi_at_builtin; refine wpListIn_append_own_at _ rfl (.tmp 19) (.tmp 21) 24 rfl W.heap.size 37 i0 (.agg #[.int .i64 0, .int .i64 0]) 2 16 Tryz.underlying24 hi hz0 hz1 hz2 rfl (by decide) _ _ _ rfl (HOWN.out.alloc _) ⟨X.heap.size, 0, none⟩ 1 1 [.int .i64 xa, .int .i64 xz] rfl rfl two_new (by simp [Value.oneCell']) (by unfold maxLen; omega) (by omega) (by simp; omega) ?_; intro v' w1 hown' hgrow hob; obtain ⟨vp', vn', vc', rfl⟩ := own_form hown'; have H9 := Lib.hid (And.intro hown' (And.intro hgrow hob)); have hb9 := ((HO.out.b4.alloc _).kept hgrow (HO.out.b4.not_row (by decide) HO.out.own)); have c9 := hb9.cell; have f9 := hb9.frozen; clear hown' hgrow hob hb9 c4)
        obtain ⟨hown', hgrow, hob⟩ := H9.out
        have hs' := HLOW.out _ HS.out.1.1
        obtain ⟨os', ch'⟩ := OS.append (B := W.heap.size) (q := (xa, xz)) HO.out HS.out.1.2 hs' (by omega) (Nat.le_refl _) (by omega) (by omega) (by omega) (by omega) (Boxed.not_row HO.out.y (by decide) HO.out.own) (fun e => by have := (own_cells HO.out.own e.symm).1; omega) (by omega) hown' hgrow hob
        refine ⟨KO.appendB (Bs := (W.heap.size + 1) :: (W.heap.size + 1 + 1) :: Bs) HO.out.b4 (by decide) (by simp) (by omega) HOWN.out hown' hgrow hob HS.out.2 (fun b' hb' => ?_), HI.out _ _ cur _ _ _ HS1.out os' HC.out.1 (HJ.out _ _ _ HJ0.out ch') ⟨Nat.le_trans HS.out.1.1 ch'.size, ch'.sane (fun b hb => (hs' b hb).1) HS.out.1.2⟩⟩
        simp only [List.mem_cons] at hb'
        rcases hb' with rfl | rfl | hb'
        · exact HO.out.b4.not_row (by decide) HO.out.own
        · exact HO.out.b5.not_row (by decide) HO.out.own
        · exact fun e => by have := (own_cells HO.out.own e.symm).1; have := (hs' _ hb').1; omega
      
      | true =>
        have HS1 : Hid (ostep (pa, pc) (s1, true, s3) (xa, xz) = (s1, true, s3 ++ [(xa, xz)])) := by show _ = _; unfold ostep; rw [if_neg HNE.out]; rfl
        obtain ⟨fn, tmps, assign, body, hy', hR⟩ := HY.out (n - 1) cur ⟨(xa, xz), hxp⟩ X HJ0.out HS.out.1.2 (by rw [HCL.out.1]; have := HCL.out.2; omega)
        unfold enc1 at hy'
        dsimp only at hy'
        have HR := Lib.hid hR
        clear hR
        gi_wp2_with fail
        refine ⟨(by first | rfl | (intro h; cases h)), (round_in HR.out).mono ?_⟩
        rintro e W3 hW3
        obtain ⟨bv, rfl, H3⟩ : ∃ bv : Bool, e = .returned (.bool bv) ∧ Hid ((bv = true ∧ J (cur ++ [⟨(xa, xz), hxp⟩]) W3 ∧ KO W.heap.size Bs X W3) ∨ (bv = false ∧ Jx (cur ++ [⟨(xa, xz), hxp⟩]) W3 ∧ KO W.heap.size Bs X W3)) := hW3.elim (fun h => ⟨true, h.1, .inl ⟨rfl, h.2⟩⟩) (fun h => ⟨false, h.1, .inr ⟨rfl, h.2⟩⟩)
        have KO3 : Hid (KO W.heap.size Bs X W3) := H3.out.elim (fun h => h.2.2) (fun h => h.2.2)
        have KOw : Hid (KO w0.heap.size ((W.heap.size + 1) :: (W.heap.size + 1 + 1) :: Bs) X W3) := (KO3.out.mono (by omega)).widen HO.out.b4 HO.out.own HO.out.b5 HO.out.n4 HO.out.n5
        clear hW3 hy' HR p0 p1 d0 d1 c4 c5 f4 f5 cy
        rcases H3.out with ⟨rfl, hj3, -⟩ | ⟨rfl, hx3, -⟩
        · gi_wp2
          exact ⟨KOw.out, HI.out _ _ (cur ++ [⟨(xa, xz), hxp⟩]) _ _ _ HS1.out (HO.out.ko KO3.out) (by rw [vals_snoc, HC.out.1]) hj3 ⟨Nat.le_trans HS.out.1.1 KO3.out.size, KO3.out.sane HS.out.1.2⟩⟩
        · gi_wp2
          exact ⟨KOw.out, rfl, _, hx3⟩
    · skip
      have HNE : Hid (¬ ((xa, xz) : Pt) = (xa, pc)) := fun e => by
        cases e
        exact hne rfl
      cases mk with
      | false =>
        have HS1 : Hid (ostep (xa, pc) (s1, false, s3) (xa, xz) = (s1 ++ [(xa, xz)], false, s3)) := by show _ = _; unfold ostep; rw [if_neg HNE.out]; rfl
        gi_wp2_with (gi_at_builtin; refine wpListIn_append_own_at _ rfl (.tmp 19) (.tmp 21) 24 rfl W.heap.size 37 i0 (.agg #[.int .i64 0, .int .i64 0]) 2 16 Tryz.underlying24 hi hz0 hz1 hz2 rfl (by decide) _ _ _ rfl (HOWN.out.alloc _) ⟨X.heap.size, 0, none⟩ 1 1 [.int .i64 xa, .int .i64 xz] rfl rfl two_new (by simp [Value.oneCell']) (by unfold maxLen; omega) (by omega) (by simp; omega) ?_; intro v' w1 hown' hgrow hob; obtain ⟨vp', vn', vc', rfl⟩ := own_form hown'; have H9 := Lib.hid (And.intro hown' (And.intro hgrow hob)); have hb9 := ((HO.out.b4.alloc _).kept hgrow (HO.out.b4.not_row (by decide) HO.out.own)); have c9 := hb9.cell; have f9 := hb9.frozen; clear hown' hgrow hob hb9 c4)
        obtain ⟨hown', hgrow, hob⟩ := H9.out
        have hs' := HLOW.out _ HS.out.1.1
        obtain ⟨os', ch'⟩ := OS.append (B := W.heap.size) (q := (xa, xz)) HO.out HS.out.1.2 hs' (by omega) (Nat.le_refl _) (by omega) (by omega) (by omega) (by omega) (Boxed.not_row HO.out.y (by decide) HO.out.own) (fun e => by have := (own_cells HO.out.own e.symm).1; omega) (by omega) hown' hgrow hob
        refine ⟨KO.appendB (Bs := (W.heap.size + 1) :: (W.heap.size + 1 + 1) :: Bs) HO.out.b4 (by decide) (by simp) (by omega) HOWN.out hown' hgrow hob HS.out.2 (fun b' hb' => ?_), HI.out _ _ cur _ _ _ HS1.out os' HC.out.1 (HJ.out _ _ _ HJ0.out ch') ⟨Nat.le_trans HS.out.1.1 ch'.size, ch'.sane (fun b hb => (hs' b hb).1) HS.out.1.2⟩⟩
        simp only [List.mem_cons] at hb'
        rcases hb' with rfl | rfl | hb'
        · exact HO.out.b4.not_row (by decide) HO.out.own
        · exact HO.out.b5.not_row (by decide) HO.out.own
        · exact fun e => by have := (own_cells HO.out.own e.symm).1; have := (hs' _ hb').1; omega
      
      | true =>
        have HS1 : Hid (ostep (xa, pc) (s1, true, s3) (xa, xz) = (s1, true, s3 ++ [(xa, xz)])) := by show _ = _; unfold ostep; rw [if_neg HNE.out]; rfl
        obtain ⟨fn, tmps, assign, body, hy', hR⟩ := HY.out (n - 1) cur ⟨(xa, xz), hxp⟩ X HJ0.out HS.out.1.2 (by rw [HCL.out.1]; have := HCL.out.2; omega)
        unfold enc1 at hy'
        dsimp only at hy'
        have HR := Lib.hid hR
        clear hR
        gi_wp2_with fail
        refine ⟨(by first | rfl | (intro h; cases h)), (round_in HR.out).mono ?_⟩
        rintro e W3 hW3
        obtain ⟨bv, rfl, H3⟩ : ∃ bv : Bool, e = .returned (.bool bv) ∧ Hid ((bv = true ∧ J (cur ++ [⟨(xa, xz), hxp⟩]) W3 ∧ KO W.heap.size Bs X W3) ∨ (bv = false ∧ Jx (cur ++ [⟨(xa, xz), hxp⟩]) W3 ∧ KO W.heap.size Bs X W3)) := hW3.elim (fun h => ⟨true, h.1, .inl ⟨rfl, h.2⟩⟩) (fun h => ⟨false, h.1, .inr ⟨rfl, h.2⟩⟩)
        have KO3 : Hid (KO W.heap.size Bs X W3) := H3.out.elim (fun h => h.2.2) (fun h => h.2.2)
        have KOw : Hid (KO w0.heap.size ((W.heap.size + 1) :: (W.heap.size + 1 + 1) :: Bs) X W3) := (KO3.out.mono (by omega)).widen HO.out.b4 HO.out.own HO.out.b5 HO.out.n4 HO.out.n5
        clear hW3 hy' HR p0 p1 d0 d1 c4 c5 f4 f5 cy
        rcases H3.out with ⟨rfl, hj3, -⟩ | ⟨rfl, hx3, -⟩
        · gi_wp2
          exact ⟨KOw.out, HI.out _ _ (cur ++ [⟨(xa, xz), hxp⟩]) _ _ _ HS1.out (HO.out.ko KO3.out) (by rw [vals_snoc, HC.out.1]) hj3 ⟨Nat.le_trans HS.out.1.1 KO3.out.size, KO3.out.sane HS.out.1.2⟩⟩
        · gi_wp2
          exact ⟨KOw.out, rfl, _, hx3⟩
    · have HS1 : Hid (ostep (xa, xz) (s1, mk, s3) (xa, xz) = (s1, true, s3)) := by show _ = _; unfold ostep; rw [if_pos rfl]
      gi_wp2
      have hs' := HLOW.out _ HS.out.1.1
      have cm : Ch W.heap.size Bs X (X.setCell ⟨W.heap.size + 1 + 1, 0, none⟩ (.bool true)) := Ch.set X _ (by omega) HO.out.n5.o
      exact ⟨KO.set (by simp) (by omega) HO.out.b5.cell (fun a n c h => by cases h), HI.out _ _ cur _ _ _ HS1.out (HO.out.mark hs' (by omega) (by omega) (by omega) (by omega) true) HC.out.1 (HJ.out _ _ _ HJ0.out cm) ⟨Nat.le_trans HS.out.1.1 cm.size, cm.sane (fun b hb => (hs' b hb).1) HS.out.1.2⟩⟩
  case done =>
    rintro D ys X hD hS ⟨v, cur, hO, ⟨e1, e1'⟩, hJ0, hs, hsB⟩ hK
    have HOT : Hid (oth l (pa, pc) = (ost (pa, pc) (vals ys)).2.2 ++ (ost (pa, pc) (vals ys)).1) := by show _ = _; unfold oth; rw [hS]
    have HMEM : Hid (∀ q, q ∈ (ost (pa, pc) (vals ys)).1 → ∃ pk : Pq, pk.1 = q) := fun q hq => by
      have := ost_mem _ _ q hq
      unfold vals at this
      obtain ⟨pk, _, h⟩ := List.mem_map.1 this
      exact ⟨pk, h⟩
    have hln1 := ost_vals (p := (pa, pc)) e1'
    clear hS
    generalize ost (pa, pc) (vals ys) = st at *
    obtain ⟨s1, mk, s3⟩ := st
    dsimp only at hO e1 HOT HMEM hln1
    obtain ⟨vp, vc, rfl, hvp⟩ := hO.own.form2
    obtain ⟨nn, hnn⟩ : ∃ nn, nn = s1.length := ⟨_, rfl⟩
    rw [← hnn] at hO hln1
    have HNN := Lib.hid hnn
    have HVP := Lib.hid hvp
    have c4 := hO.b4.cell
    have hcl : cur.length = s3.length := by rw [← vals_length, e1]
    have hnb : nn ≤ 2000000 := by omega
    have HLN : Hid (nn + cur.length ≤ l.length * 2000) := by show _ ≤ _; omega
    have H1 : Hid (∃ cu, vals cu = s3 ++ s1.take 0 ∧ cu.length = cur.length + 0 ∧ J cu X) := ⟨cur, by simp [e1], rfl, hJ0⟩
    have H2 : Hid (OS Bs W.heap.size (W.heap.size + 1) (W.heap.size + 1 + 1) W.heap.size Tp lr (pa, pc) (.slice vp nn vc) s1 mk X ∧ Sane Bs X ∧ X.heap[D]? = some (.deferred (some []))) := ⟨hO, hsB, hK⟩
    clear hO e1 e1' hJ0 hs hsB hK hvp hnn hcl hln1
    gi_wp2
    gi_loopw [30, 8] (fun i _ wr => ∃ k : Nat, k ≤ nn ∧ i = .int .i64 k ∧ Hid (∃ cu, vals cu = s3 ++ s1.take k ∧ cu.length = cur.length + k ∧ J cu wr) ∧ Hid (OS Bs W.heap.size (W.heap.size + 1) (W.heap.size + 1 + 1) W.heap.size Tp lr (pa, pc) (.slice vp nn vc) s1 mk wr ∧ Sane Bs wr ∧ wr.heap[D]? = some (.deferred (some [])))) (fun i _ _ => nn - (intOf i).toNat)
    case atStart => exact ⟨0, Nat.zero_le _, rfl, H1.out, H2.out⟩
    case round =>
      obtain ⟨k, hk, rfl, HC, HT⟩ := hrel
      clear c4
      by_cases hkt : k < nn
      · obtain ⟨cu, e1, e2, e3⟩ := HC.out
        obtain ⟨hO, hsB, hK⟩ := HT.out
        obtain ⟨g, rfl⟩ := HVP.out (fun e => by have := HNN.out; rw [e] at this; simp at this; omega)
        have hrow : Row wr g 0 s1 := by
          rcases hO.own.row with ⟨h, _⟩ | ⟨g', c', h, hr, _⟩
          · cases h
          · cases h; exact hr
        obtain ⟨ckx, ckz⟩ := hrow k (by rw [← HNN.out]; exact hkt)
        simp only [Nat.zero_add] at ckx ckz
        obtain ⟨pk, hpk⟩ := HMEM.out (px s1 k, pz s1 k) (by
          unfold px pz
          rw [List.getD_eq_getElem?_getD, List.getElem?_eq_getElem (by rw [← HNN.out]; exact hkt)]
          exact List.getElem_mem _)
        have HTK := Lib.hid (take_snoc s1 k (by rw [← HNN.out]; exact hkt))
        have HKT := Lib.hid hkt
        have hb1 := bl1 wr (.cells #[.int .i64 (px s1 k), .int .i64 (pz s1 k)] 37)
        have hsB' := (KO.of_below (B := 0) hb1 hsB).sane hsB
        obtain ⟨fn, tmps, assign, body, hy', hR⟩ := HY.out (n - 1) cu pk _ (HJ.out _ _ _ e3 (Ch.of_below hb1)) hsB' (by rw [e2]; have := HLN.out; omega)
        unfold enc1 at hy'
        rw [hpk] at hy'
        dsimp only at hy'
        have HPK := Lib.hid hpk
        have HR := Lib.hid hR
        have E1 := Lib.hid (And.intro e1 e2)
        have HT1 := Lib.hid (And.intro (hO.below hsB hb1) (And.intro hsB' ((hb1.block _ (Array.getElem?_eq_some_iff.1 hK).1).trans hK)))
        have cy := Boxed.cell HT1.out.1.y
        clear hR e1 e2 e3 HC hO hsB hK hrow hpk hsB' hb1
        gi_wp2_with fail
        refine ⟨(by first | rfl | (intro h; cases h)), HR.out.mono ?_⟩
        rintro e W3 hW3
        obtain ⟨bv, rfl, H3⟩ : ∃ bv : Bool, e = .returned (.bool bv) ∧ Hid ((bv = true ∧ J (cu ++ [pk]) W3 ∧ KO W.heap.size Bs (wr.alloc (.cells #[.int .i64 (px s1 k), .int .i64 (pz s1 k)] 37)) W3) ∨ (bv = false ∧ Jx (cu ++ [pk]) W3 ∧ KO W.heap.size Bs (wr.alloc (.cells #[.int .i64 (px s1 k), .int .i64 (pz s1 k)] 37)) W3)) := hW3.elim (fun h => ⟨true, h.1, .inl ⟨rfl, h.2⟩⟩) (fun h => ⟨false, h.1, .inr ⟨rfl, h.2⟩⟩)
        have KO3 : Hid (KO W.heap.size Bs (wr.alloc (.cells #[.int .i64 (px s1 k), .int .i64 (pz s1 k)] 37)) W3) := H3.out.elim (fun h => h.2.2) (fun h => h.2.2)
        have HT3 : Hid (OS Bs W.heap.size (W.heap.size + 1) (W.heap.size + 1 + 1) W.heap.size Tp lr (pa, pc) (.slice (some ⟨g, 0, none⟩) nn vc) s1 mk W3 ∧ Sane Bs W3 ∧ W3.heap[D]? = some (.deferred (some []))) :=
          ⟨HT1.out.1.ko KO3.out, KO3.out.sane HT1.out.2.1, KO3.out.objs _ _ (by omega) (fun ho => by obtain ⟨_, cur', U, u, hu⟩ := ho; rw [HT1.out.2.2] at hu; cases hu) HT1.out.2.2⟩
        clear hW3 hy' HR ckx ckz cy
        rcases H3.out with ⟨rfl, hj3, -⟩ | ⟨rfl, hx3, -⟩
        · gi_wp2
          go_roundw
          case rel => exact ⟨k + 1, by have := HKT.out; omega, by go_num, ⟨cu ++ [pk], by rw [vals_snoc, E1.out.1, HPK.out, HTK.out, List.append_assoc], by rw [List.length_append, E1.out.2]; rfl, hj3⟩, HT3.out⟩
          case measure =>
            have e9 : ((k : Int) + 1).toNat = k + 1 := by omega
            simp only [intOf, Int.toNat_natCast, e9]
            have := HKT.out
            omega
        · have hK := HT3.out.2.2
          have hJ' := HJX.out _ _ _ hx3 (ch_putObj (.deferred none) hK rfl (by omega))
          gi_wp2
          refine ⟨by simp, .inl ⟨_, _, rfl, run_takeDeferred hK, ?_⟩⟩
          exact ⟨_, results_none rfl _ _ _, ⟨_, rfl⟩, .inr ⟨_, hJ'⟩⟩
      · obtain rfl : k = nn := by omega
        obtain ⟨cu, e1, e2, e3⟩ := HC.out
        have hK := HT.out.2.2
        have hJ' := HJ.out _ _ _ e3 (ch_putObj (.deferred none) hK rfl (by omega))
        have EE : Hid (vals cu = oth l (pa, pc)) := by
          show _ = _
          rw [e1, HOT.out, List.take_of_length_le (by rw [HNN.out]; exact Nat.le_refl _)]
        clear e1 e2 e3
        gi_wp2
        refine ⟨by simp, .inl ⟨_, _, rfl, run_takeDeferred hK, ?_⟩⟩
        exact ⟨_, results_none rfl _ _ _, ⟨_, rfl⟩, .inl ⟨cu, EE.out, hJ'⟩⟩
  case stop =>
    rintro D cc pre X hD ⟨rfl, cur, h⟩ hK
    have hJ' := HJX.out _ _ _ h (ch_putObj (.deferred none) hK rfl (by omega))
    gi_wp2
    refine ⟨by simp, .inl ⟨_, _, rfl, run_takeDeferred hK, ?_⟩⟩
    exact ⟨_, results_none rfl _ _ _, ⟨_, rfl⟩, .inr ⟨cur, hJ'⟩⟩
end Go.Proofs.YtljmhejljpfaiaaGreat
namespace Go.Proofs.YtljmhejljpfaiaaGreat
set_option maxRecDepth 100000
set_option maxRecDepth 100000
open Go.RowKit Go.Shelf
attribute [local go_sem] Oper.semAt_some

/-! a block of cells -/
def Blk (B : Nat) (cur : Array Value) (T : TypeId) (W : World) : Prop := W.heap[B]? = some (.cells cur T (0, 0))
theorem Blk.lt {B : Nat} {cur : Array Value} {T : TypeId} {W : World} (h : Blk B cur T W) : B < W.heap.size := (Array.getElem?_eq_some_iff.1 h).1
theorem Blk.new (W : World) (cur : Array Value) (T : TypeId) : Blk W.heap.size cur T (W.alloc (.cells cur T)) := World.alloc_heap_new W _
theorem Blk.alloc {B : Nat} {cur : Array Value} {T : TypeId} {W : World} (h : Blk B cur T W) (q : Obj) : Blk B cur T (W.alloc q) := (Below.heap_alloc W q B h.lt).trans h
theorem Blk.below {B : Nat} {cur : Array Value} {T : TypeId} {W W' : World} (h : Blk B cur T W) (hb : Below W.heap.size W W') : Blk B cur T W' := (hb.block B h.lt).trans h
theorem Blk.ko {n B : Nat} {Bs : List Nat} {cur : Array Value} {T : TypeId} {W W' : World} (h : Blk B cur T W) (nc : Nc Bs B W) (k : KO n Bs W W') : Blk B cur T W' := k.cells B _ _ _ nc.b nc.o h
theorem Blk.ch {n B : Nat} {Bs : List Nat} {cur : Array Value} {T : TypeId} {W W' : World} (h : Blk B cur T W) (hc : Ch n Bs W W') (hB : B < n) : Blk B cur T W' := (hc.block B h.lt (.inl hB)).trans h
theorem Blk.cell {B i : Nat} {cur : Array Value} {T : TypeId} {W : World} {v : Value} (h : Blk B cur T W) (hv : cur[i]? = some v) : W.cell? ⟨B, i, none⟩ = some v := by
  unfold World.cell?
  dsimp only
  rw [show W.heap[B]? = _ from h]
  simpa using hv
theorem Row.below {w w' : World} {b o : Nat} {l : List Pt} (h : Row w b o l) (hb : Below w.heap.size w w') : Row w' b o l := h.keep hb
theorem Row.ch {n : Nat} {Bs : List Nat} {W W' : World} {b o : Nat} {l : List Pt} (h : Row W b o l) (hc : Ch n Bs W W') (hB : b < n) : Row W' b o l := fun i hi => by
  have hl := h.lt (by omega)
  exact ⟨(cell_same (a := ⟨b, _, none⟩) (hc.block b hl (.inl hB))).trans (h i hi).1, (cell_same (a := ⟨b, _, none⟩) (hc.block b hl (.inl hB))).trans (h i hi).2⟩
theorem Row.blk {W : World} {b o : Nat} {l : List Pt} (h : Row W b o l) (h3 : 0 < l.length) : ∃ cur U u, W.heap[b]? = some (.cells cur U u) := cell_blk (h 0 h3).1

/-! others, outcomes -/
theorem others_seq (Be Tp b o c : Nat) (l : List Pt) (p : Pt) (w0 : World) (h3 : 0 < l.length) (h12 : l.length ≤ 1000) (hx : Bx l)
    (hd : ∀ i, i < l.length → ¬ (px l (nx l.length i) = px l i ∧ pz l (nx l.length i) = pz l i)) (hr : Row w0 b o l) (hb : Boxed w0 Be 49 (.slice (some ⟨b, o, none⟩) l.length c)) (hp : P2 Tp p.1 p.2 w0) :
    SeqX Tryz.prog 87 #[.pointer (some ⟨Be, 0, none⟩), .pointer (some ⟨Tp, 0, none⟩)] enc1 (fun k => k = Be ∨ k = b ∨ k = Tp) (fun xs => vals xs = oth l p) (l.length * 2000) w0 := fun n lr Bs J Jx W hW hs hpv hJ hJx hY h0 =>
  others1_in n lr Bs Be Tp b o c l p h3 h12 hx hd J Jx W hJ hJx hY ⟨hr.keep hW, (hW.block Be hb.lt).trans hb, hs, hpv Be (.inl rfl), hpv b (.inr (.inl rfl))⟩ (hp.below hW) ⟨(hpv Tp (.inr (.inr rfl))).1, (hpv Tp (.inr (.inr rfl))).2⟩ h0
theorem othersv_any (q : Option Addr) (n c : Nat) (x z : Int) (w : World) : Calls Tryz.prog 63 #[.slice q n c, .agg #[.int .i64 x, .int .i64 z]] w fun e w' => e = .returned (.func (.func 87) #[] #[.pointer (some ⟨w.heap.size, 0, none⟩), .pointer (some ⟨w.heap.size + 1, 0, none⟩)]) ∧ w' = (w.alloc (.cells #[.slice q n c] 49)).alloc (.cells #[.int .i64 x, .int .i64 z] 37) := by
  go_enter Tryz.func63, Tryz.ntmps63
  go_wp2
  go_ret
  exact ⟨rfl, rfl⟩
theorem outcomesv_any (nm : ByteArray) (q : Option Addr) (n c : Nat) (dp dn gx gz x z t : Int) (w : World) : Calls Tryz.prog 37 #[.agg #[.string nm, .slice q n c, .int .i64 dp, .int .i64 dn, .int .i64 gx, .int .i64 gz], .agg #[.int .i64 x, .int .i64 z], .int .i64 t] w fun e w' =>
    e = .returned (.func (.func 62) #[] #[.pointer (some ⟨w.heap.size, 0, none⟩), .pointer (some ⟨w.heap.size + 1, 0, none⟩), .pointer (some ⟨w.heap.size + 1 + 1, 0, none⟩)]) ∧ w' = ((w.alloc (.cells #[.string nm, .slice q n c, .int .i64 dp, .int .i64 dn, .int .i64 gx, .int .i64 gz] 39)).alloc (.cells #[.int .i64 x, .int .i64 z] 37)).alloc (.cells #[.int .i64 t] 3) := by
  go_enter Tryz.func37, Tryz.ntmps37
  go_wp2
  go_ret
  exact ⟨rfl, rfl⟩
/-- can be cut -/
def canB (l : List Pt) (p q : Pt) : Bool := (List.range l.length).all fun i => !both l p.1 p.2 q.1 q.2 i
theorem canB_iff (l : List Pt) (p q : Pt) : canB l p q = true ↔ CanC l p.1 p.2 q.1 q.2 := by
  unfold canB CanC
  rw [List.all_eq_true]
  simp only [List.mem_range, Bool.not_eq_true']
/-- an outcome -/
def okq (l : List Pt) (gx gz : Int) (p : Pt) (t : Int) (q : Pt) : Bool := agr gx gz p.1 p.2 q.1 q.2 t && canB l p q
def outc (l : List Pt) (gx gz : Int) (p : Pt) (t : Int) : List Pt := (oth l p).filter (okq l gx gz p t)
/-- what the iterator over outcomes reads -/
structure OT (Bs : List Nat) (S lr Bst Tp Tt b o c : Nat) (nm : ByteArray) (l : List Pt) (dp dn gx gz : Int) (p : Pt) (t : Int) (X : World) : Prop where
  y : Yb S lr X
  sh : Blk (S + 1) #[.slice (some ⟨b, o, none⟩) l.length c] 49 X
  st : Blk Bst #[.string nm, .slice (some ⟨b, o, none⟩) l.length c, .int .i64 dp, .int .i64 dn, .int .i64 gx, .int .i64 gz] 39 X
  pp : P2 Tp p.1 p.2 X
  tt : Blk Tt #[.int .i64 t] 3 X
  row : Row X b o l
  ny : Nc Bs S X
  nsh : Nc Bs (S + 1) X
  nst : Nc Bs Bst X
  np : Nc Bs Tp X
  nt : Nc Bs Tt X
  nr : Nc Bs b X
theorem OT.ko {B : Nat} {Bs : List Nat} {S lr Bst Tp Tt b o c : Nat} {nm : ByteArray} {l : List Pt} {dp dn gx gz : Int} {p : Pt} {t : Int} {X C : World} (h : OT Bs S lr Bst Tp Tt b o c nm l dp dn gx gz p t X) (k : KO B Bs X C) (h3 : 0 < l.length) : OT Bs S lr Bst Tp Tt b o c nm l dp dn gx gz p t C :=
  ⟨k.boxed h.y h.ny.b h.ny.o, h.sh.ko h.nsh k, h.st.ko h.nst k, h.pp.ko h.np k, h.tt.ko h.nt k, k.row h.row h.nr.b h.nr.o, h.ny.ko k (Boxed.lt h.y), h.nsh.ko k h.sh.lt, h.nst.ko k h.st.lt, h.np.ko k h.pp.lt, h.nt.ko k h.tt.lt, h.nr.ko k (h.row.lt h3)⟩
theorem OT.ch {B : Nat} {Bs : List Nat} {S lr Bst Tp Tt b o c : Nat} {nm : ByteArray} {l : List Pt} {dp dn gx gz : Int} {p : Pt} {t : Int} {X C : World} (h : OT Bs S lr Bst Tp Tt b o c nm l dp dn gx gz p t X) (k : Ch B Bs X C) (h3 : 0 < l.length) (hs : ∀ b ∈ Bs, b < B ∧ b < X.heap.size) (q1 : S + 1 < B) (q2 : Bst < B) (q3 : Tp < B) (q4 : Tt < B) (q5 : b < B) :
    OT Bs S lr Bst Tp Tt b o c nm l dp dn gx gz p t C :=
  ⟨(k.block _ (Boxed.lt h.y) (.inl (by omega))).trans h.y, h.sh.ch k (by omega), h.st.ch k q2, h.pp.ch k q3, h.tt.ch k q4, h.row.ch k q5, h.ny.cells k hs ⟨_, _, _, h.y⟩, h.nsh.cells k hs ⟨_, _, _, h.sh⟩, h.nst.cells k hs ⟨_, _, _, h.st⟩, h.np.cells k hs ⟨_, _, _, h.pp⟩, h.nt.cells k hs ⟨_, _, _, h.tt⟩, h.nr.cells k hs (h.row.blk h3)⟩
end Go.Proofs.YtljmhejljpfaiaaGreat

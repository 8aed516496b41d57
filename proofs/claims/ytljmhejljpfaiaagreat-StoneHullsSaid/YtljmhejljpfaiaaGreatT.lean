import Derived.Test.YtljmhejljpfaiaaGreatS
namespace Go.Proofs.YtljmhejljpfaiaaGreat
set_option maxRecDepth 100000
set_option maxRecDepth 100000
open Go.RowKit Go.Shelf
attribute [local go_sem] Oper.semAt_some

/-- a store into a box of the caller's own, of what is no row -/
theorem KO.set {B : Nat} {Bs : List Nat} {W : World} {b o : Nat} {u v : Value} (hb : b ∈ Bs) (hB : b < B) (hc : W.cell? ⟨b, o, none⟩ = some u) (hv : ∀ a n c, v ≠ .slice a n c) : KO B Bs W (W.setCell ⟨b, o, none⟩ v) := by
  have sub : ∀ b', b' ∈ Bs → ∀ k n c, (W.setCell ⟨b, o, none⟩ v).cell? ⟨b', 0, none⟩ = some (.slice (some ⟨k, 0, none⟩) n c) → W.cell? ⟨b', 0, none⟩ = some (.slice (some ⟨k, 0, none⟩) n c) := fun b' hb' k n c h => by
    by_cases e : (⟨b, o, none⟩ : Addr) = ⟨b', 0, none⟩
    · rw [← e, World.cell?_setCell_same _ _ _ hc] at h
      exact absurd (Option.some.inj h) (hv _ _ _)
    · rw [World.cell?_setCell_other _ _ _ _ e] at h; exact h
  have hh : ∀ k, k ≠ b → (W.setCell ⟨b, o, none⟩ v).heap[k]? = W.heap[k]? := fun k hk => Below.heap_setCell _ _ _ _ hk
  refine ⟨by simp, fun k cur T u' h1 _ h3 => (hh k (fun e => h1 (e ▸ hb))).trans h3, fun k q h1 _ h3 => (hh k (by omega)).trans h3, fun k hk hn ho => hn ?_, fun hs b' hb' => ⟨by have := (hs b' hb').1; simpa using this, fun k n c h => by have := (hs b' hb').2 k n c (sub b' hb' k n c h); simpa using this⟩⟩
  obtain ⟨⟨b', n, c, hb', hq⟩, cur, T, u', hu⟩ := ho
  refine ⟨⟨b', n, c, hb', sub b' hb' _ _ _ hq⟩, ?_⟩
  by_cases e : k = b
  · subst e; exact cell_blk hc
  · exact ⟨cur, T, u', (hh k e).symm.trans hu⟩
theorem below_ch {n₀ B : Nat} {Bs : List Nat} {w A C : World} (h : Below n₀ w A) (hc : Ch B Bs A C) (hn : n₀ ≤ B) (hw : n₀ ≤ w.heap.size) : Below n₀ w C :=
  h.trans ⟨hc.os, hc.tape, hc.output, hc.size, fun k hk => hc.block k (Nat.lt_of_lt_of_le (Nat.lt_of_lt_of_le hk hw) h.size) (.inl (Nat.lt_of_lt_of_le hk hn))⟩
/-- sums over edges -/
def sm {n : Nat} (f : Fin n → Int) (pre : List (Fin n)) : Int := pre.foldl (fun s i => s + f i) 0
theorem sm_snoc {n : Nat} (f : Fin n → Int) (pre : List (Fin n)) (x : Fin n) : sm f (pre ++ [x]) = sm f pre + f x := by simp [sm]
theorem foldl_bd {n : Nat} (f : Fin n → Int) (M : Int) (h : ∀ i, -M ≤ f i ∧ f i ≤ M) : ∀ (pre : List (Fin n)) (s : Int), s - pre.length * M ≤ pre.foldl (fun s i => s + f i) s ∧ pre.foldl (fun s i => s + f i) s ≤ s + pre.length * M
  | [], s => by simp
  | x :: pre, s => by
    have := foldl_bd f M h pre (s + f x)
    have hx := h x
    rw [List.foldl_cons, List.length_cons]
    have e : ((pre.length + 1 : Nat) : Int) * M = pre.length * M + M := by rw [show ((pre.length + 1 : Nat) : Int) = (pre.length : Int) + 1 by omega, Int.add_mul, Int.one_mul]
    rw [e]
    omega
theorem sm_bd {n : Nat} (f : Fin n → Int) (M : Int) (h : ∀ i, -M ≤ f i ∧ f i ≤ M) (pre : List (Fin n)) (K : Nat) (hK : pre.length ≤ K) (hM : 0 ≤ M) : -(K * M) ≤ sm f pre ∧ sm f pre ≤ K * M := by
  have := foldl_bd f M h pre 0
  have h2 : (pre.length : Int) * M ≤ K * M := Int.mul_le_mul_of_nonneg_right (by omega) hM
  unfold sm
  omega
/-- the cross of an edge, and what it adds to the moments -/
def crs (l : List Pt) (i : Fin l.length) : Int := px l i.1 * pz l (nx l.length i.1) - px l (nx l.length i.1) * pz l i.1
def mox (l : List Pt) (i : Fin l.length) : Int := (px l i.1 + px l (nx l.length i.1)) * crs l i
def moz (l : List Pt) (i : Fin l.length) : Int := (pz l i.1 + pz l (nx l.length i.1)) * crs l i
theorem mul_bd {a b A B : Int} (ha : 0 ≤ a ∧ a ≤ A) (hb : -B ≤ b ∧ b ≤ B) (hB : 0 ≤ B) : -(A * B) ≤ a * b ∧ a * b ≤ A * B := by
  have h1 : a * b ≤ a * B := Int.mul_le_mul_of_nonneg_left hb.2 ha.1
  have h2 : a * B ≤ A * B := Int.mul_le_mul_of_nonneg_right ha.2 hB
  have h3 : a * -B ≤ a * b := Int.mul_le_mul_of_nonneg_left hb.1 ha.1
  rw [Int.mul_neg] at h3
  omega
theorem Bx.nx {l : List Pt} (h : Bx l) (i : Fin l.length) : ((0 ≤ px l i.1 ∧ px l i.1 ≤ 2000) ∧ (0 ≤ pz l i.1 ∧ pz l i.1 ≤ 2000)) ∧ ((0 ≤ px l (nx l.length i.1) ∧ px l (nx l.length i.1) ≤ 2000) ∧ (0 ≤ pz l (nx l.length i.1) ∧ pz l (nx l.length i.1) ≤ 2000)) := ⟨h _ i.2, h _ (nx_lt i.2)⟩
theorem Bx.p1 {l : List Pt} (h : Bx l) (i : Fin l.length) : -4000000 ≤ px l i.1 * pz l (Go.Proofs.YtljmhejljpfaiaaGreat.nx l.length i.1) ∧ px l i.1 * pz l (Go.Proofs.YtljmhejljpfaiaaGreat.nx l.length i.1) ≤ 4000000 := by
  have := mul_bd (A := 2000) (B := 2000) (h.nx i).1.1 (b := pz l (Go.Proofs.YtljmhejljpfaiaaGreat.nx l.length i.1)) (by have := (h.nx i).2.2; omega) (by omega); omega
theorem Bx.p2 {l : List Pt} (h : Bx l) (i : Fin l.length) : -4000000 ≤ px l (Go.Proofs.YtljmhejljpfaiaaGreat.nx l.length i.1) * pz l i.1 ∧ px l (Go.Proofs.YtljmhejljpfaiaaGreat.nx l.length i.1) * pz l i.1 ≤ 4000000 := by
  have := mul_bd (A := 2000) (B := 2000) (h.nx i).2.1 (b := pz l i.1) (by have := (h.nx i).1.2; omega) (by omega); omega
theorem Bx.crs {l : List Pt} (h : Bx l) (i : Fin l.length) : -8000000 ≤ crs l i ∧ crs l i ≤ 8000000 := by
  have h1 := h.p1 i; have h2 := h.p2 i; unfold Go.Proofs.YtljmhejljpfaiaaGreat.crs; omega
theorem Bx.mox {l : List Pt} (h : Bx l) (i : Fin l.length) : -32000000000 ≤ mox l i ∧ mox l i ≤ 32000000000 := by
  have := mul_bd (A := 4000) (B := 8000000) (a := px l i.1 + px l (Go.Proofs.YtljmhejljpfaiaaGreat.nx l.length i.1)) (by have := h.nx i; omega) (h.crs i) (by omega)
  unfold Go.Proofs.YtljmhejljpfaiaaGreat.mox; omega
theorem Bx.moz {l : List Pt} (h : Bx l) (i : Fin l.length) : -32000000000 ≤ moz l i ∧ moz l i ≤ 32000000000 := by
  have := mul_bd (A := 4000) (B := 8000000) (a := pz l i.1 + pz l (Go.Proofs.YtljmhejljpfaiaaGreat.nx l.length i.1)) (by have := h.nx i; omega) (h.crs i) (by omega)
  unfold Go.Proofs.YtljmhejljpfaiaaGreat.moz; omega
/-- a box of three integers -/
def B3 (T : TypeId) (B : Nat) (x y z : Int) (W : World) : Prop := W.heap[B]? = some (.cells #[.int .i64 x, .int .i64 y, .int .i64 z] T (0, 0))
theorem B3.ch {T : TypeId} {B : Nat} {Bs : List Nat} {n₀ : Nat} {x y z : Int} {A C : World} (h : B3 T B x y z A) (hc : Ch n₀ Bs A C) (hB : B < n₀) : B3 T B x y z C := (hc.block B (Array.getElem?_eq_some_iff.1 h).1 (.inl hB)).trans h
/-- a box with a point -/
def P2 (B : Nat) (x z : Int) (W : World) : Prop := W.heap[B]? = some (.cells #[.int .i64 x, .int .i64 z] 37 (0, 0))
theorem P2.new (W : World) (x z : Int) : P2 W.heap.size x z (W.alloc (.cells #[.int .i64 x, .int .i64 z] 37)) := World.alloc_heap_new W _
theorem P2.alloc {B : Nat} {x z : Int} {W : World} (h : P2 B x z W) (q : Obj) : P2 B x z (W.alloc q) := (Below.heap_alloc W q B (Array.getElem?_eq_some_iff.1 h).1).trans h
theorem P2.putObj {B : Nat} {x z : Int} {W : World} {l : Nat} {q : Obj} (q' : Obj) (hl : W.heap[l]? = some q) (hq : q.isCells = false) (h : P2 B x z W) : P2 B x z (W.putObj l q') :=
  (World.putObj_heap_other (fun e => by subst e; rw [show W.heap[B]? = _ from h] at hl; cases hl; cases hq)).trans h
theorem edgesv_any (p : Option Addr) (n c : Nat) (w : World) : Calls Tryz.prog 59 #[.slice p n c] w fun e w' => e = .returned (.func (.func 85) #[] #[.pointer (some ⟨w.heap.size, 0, none⟩)]) ∧ w' = w.alloc (.cells #[.slice p n c] 49) := by
  go_enter Tryz.func59, Tryz.ntmps59
  go_wp2
  go_ret
  exact ⟨rfl, rfl⟩
theorem B3.cells {T : TypeId} {B : Nat} {x y z : Int} {W : World} (h : B3 T B x y z W) : (W.cell? ⟨B, 0, none⟩ = some (.int .i64 x) ∧ W.cell? ⟨B, 1, none⟩ = some (.int .i64 y) ∧ W.cell? ⟨B, 2, none⟩ = some (.int .i64 z)) ∧ W.frozen? ⟨B, 0, none⟩ = false ∧ W.frozen? ⟨B, 1, none⟩ = false ∧ W.frozen? ⟨B, 2, none⟩ = false := by
  have h' : W.heap[B]? = _ := h
  refine ⟨⟨?_, ?_, ?_⟩, ?_, ?_, ?_⟩ <;> simp [World.cell?, World.frozen?, h']
theorem B3.putFar {T : TypeId} {B : Nat} {x y z : Int} {W : World} (h : B3 T B x y z W) {D : Nat} (hn : B ≠ D) (q : Obj) : B3 T B x y z (W.putObj D q) := (World.putObj_heap_other hn).trans h
theorem P2.cells {B : Nat} {x z : Int} {W : World} (h : P2 B x z W) : W.cell? ⟨B, 0, none⟩ = some (.int .i64 x) ∧ W.cell? ⟨B, 1, none⟩ = some (.int .i64 z) := by
  have h' : W.heap[B]? = _ := h
  refine ⟨?_, ?_⟩ <;> simp [World.cell?, h']
theorem B3.put {T : TypeId} {B : Nat} {x y z : Int} {W : World} (h : B3 T B x y z W) (x' y' z' : Int) : B3 T B x' y' z' (((W.setCell ⟨B, 0, none⟩ (.int .i64 x')).setCell ⟨B, 1, none⟩ (.int .i64 y')).setCell ⟨B, 2, none⟩ (.int .i64 z')) :=
  heap_setCell_same _ B 2 _ T _ (heap_setCell_same _ B 1 _ T _ (heap_setCell_same _ B 0 _ T _ h))
theorem B3.far {T : TypeId} {B C : Nat} {x y z : Int} {W : World} (h : B3 T B x y z W) (hn : B ≠ C) (x' y' z' : Value) : B3 T B x y z (((W.setCell ⟨C, 0, none⟩ x').setCell ⟨C, 1, none⟩ y').setCell ⟨C, 2, none⟩ z') :=
  (Below.heap_setCell _ _ _ _ hn).trans ((Below.heap_setCell _ _ _ _ hn).trans ((Below.heap_setCell _ _ _ _ hn).trans h))
theorem KO.put3 {T : TypeId} {B : Nat} {Bs : List Nat} {b : Nat} {x y z : Int} {W : World} (h : B3 T b x y z W) (hb : b ∈ Bs) (hB : b < B) (x' y' z' : Int) : KO B Bs W (((W.setCell ⟨b, 0, none⟩ (.int .i64 x')).setCell ⟨b, 1, none⟩ (.int .i64 y')).setCell ⟨b, 2, none⟩ (.int .i64 z')) := by
  obtain ⟨⟨c0, c1, c2⟩, _⟩ := h.cells
  refine ((KO.set hb hB c0 (by intro a n c e; cases e)).trans (KO.set hb hB (u := .int .i64 y) ?_ (by intro a n c e; cases e))).trans (KO.set hb hB (u := .int .i64 z) ?_ (by intro a n c e; cases e))
  · rw [World.cell?_setCell_other _ _ _ _ (by simp)]; exact c1
  · rw [World.cell?_setCell_other _ _ _ _ (by simp), World.cell?_setCell_other _ _ _ _ (by simp)]; exact c2
theorem no_ow {Bs : List Nat} {W : World} (h : ∀ B ∈ Bs, ∀ a n c, W.cell? ⟨B, 0, none⟩ ≠ some (.slice a n c)) (k : Nat) : ¬ ow Bs W k := by
  rintro ⟨⟨B, n, c, hB, hc⟩, _⟩
  exact h B hB _ _ _ hc
set_option maxHeartbeats 2000000 in
theorem moments_any (b o c : Nat) (l : List Pt) (w : World) (hr : Row w b o l) (h3 : 0 < l.length) (h12 : l.length ≤ 1000) (hs : Bx l) :
    Calls Tryz.prog 83 #[.slice (some ⟨b, o, none⟩) l.length c] w fun e w' => e = .returned (.agg #[.int .i64 (sm (crs l) (List.finRange l.length)), .int .i64 (sm (mox l) (List.finRange l.length)), .int .i64 (sm (moz l) (List.finRange l.length))]) ∧ Below w.heap.size w w' := by
  have HR := Lib.hid hr; have HS := Lib.hid hs
  have hbw := hr.lt h3
  clear hr hs
  refine (callsIn_wide (n := 4)).1 ?_
  refine callsIn_of_wp_marks Tryz.func83 rfl trivial ?_ rfl
  simp only [Tryz.ntmps83, List.size_toArray, List.length_cons, List.length_nil, Nat.reduceAdd, Nat.reduceSub, Array.replicate_succ, Array.replicate_zero, List.push_toArray, List.append_toArray, List.nil_append, List.cons_append]
  gi_wp2_with fail
  refine ⟨trivial, ?_⟩
  refine (callsIn_wide.2 (edgesv_any _ _ _ _)).mono ?_
  rintro e w' ⟨rfl, rfl⟩
  gi_wp2
  generalize hW0 : ((w.alloc (.cells #[.int .i64 0, .int .i64 0, .int .i64 0] 111)).alloc (.cells #[.int .i64 0, .int .i64 0, .int .i64 0] 111)).alloc (.cells #[.slice (some ⟨b, o, none⟩) l.length c] 49) = w0
  have hB0 : Below w.heap.size w w0 := by rw [← hW0]; exact bl3 _ _ _ _
  have hsz : w0.heap.size = w.heap.size + 3 := by rw [← hW0]; simp
  have hres : B3 111 w.heap.size 0 0 0 w0 := by
    rw [← hW0]
    exact (Below.heap_alloc _ _ _ (by simp <;> omega)).trans ((Below.heap_alloc _ _ _ (by simp)).trans (World.alloc_heap_new w _))
  have hm : B3 111 (w.heap.size + 1) 0 0 0 w0 := by
    rw [← hW0]
    have := World.alloc_heap_new (w.alloc (.cells #[.int .i64 0, .int .i64 0, .int .i64 0] 111)) (.cells #[.int .i64 0, .int .i64 0, .int .i64 0] 111)
    rw [World.size_alloc] at this
    exact (Below.heap_alloc _ _ _ (by simp)).trans this
  have hbx : Boxed w0 (w.heap.size + 1 + 1) 49 (.slice (some ⟨b, o, none⟩) l.length c) := by
    rw [← hW0]
    have := Boxed.new ((w.alloc (.cells #[.int .i64 0, .int .i64 0, .int .i64 0] 111)).alloc (.cells #[.int .i64 0, .int .i64 0, .int .i64 0] 111)) 49 (.slice (some ⟨b, o, none⟩) l.length c)
    simp only [World.size_alloc] at this
    exact this
  clear hW0
  have hno : ∀ {W : World} {x y z : Int}, B3 111 (w.heap.size + 1) x y z W → ∀ B ∈ [w.heap.size + 1], ∀ a n c, W.cell? ⟨B, 0, none⟩ ≠ some (.slice a n c) := fun h B hB a n c hc => by
    simp at hB; subst hB
    rw [h.cells.1.1] at hc; cases hc
  have hsane : Sane [w.heap.size + 1] w0 := fun B hB => ⟨by simp at hB; omega, fun k n c hc => absurd hc (hno hm B hB _ _ _)⟩
  have hpv : ∀ k, (k = w.heap.size + 1 + 1 ∨ k = b) → k < w0.heap.size ∧ k ∉ [w.heap.size + 1] ∧ ¬ ow [w.heap.size + 1] w0 k := fun k hk => ⟨by omega, by simp; omega, no_ow (hno hm) k⟩
  refine rangeX [w.heap.size + 1] (gf := 85) (lb := #[.pointer (some ⟨w.heap.size + 1 + 1, 0, none⟩)]) rfl (enters_of Tryz.func85 (by kernel_rfl) rfl)
    (edges_seq (w.heap.size + 1 + 1) b o c l w0 h3 (by omega) (HR.out.keep hB0) hbx) (Below.refl _ _) (fun _ => rfl) hsane hpv
    (fun pre W => (B3 111 (w.heap.size + 1) (sm (crs l) pre) (sm (mox l) pre) (sm (moz l) pre) W ∧ B3 111 w.heap.size 0 0 0 W) ∧ Below w.heap.size w W ∧ w0.heap.size ≤ W.heap.size) (fun _ _ _ => False)
    (fun s A C h hc => ⟨⟨h.1.1.ch hc (by omega), h.1.2.ch hc (by omega)⟩, below_ch h.2.1 hc (by omega) (Nat.le_refl _), Nat.le_trans h.2.2 hc.size⟩) (fun _ _ _ _ h _ => h) ⟨⟨hm, hres⟩, hB0, Nat.le_refl _⟩
    (fun x a' W => ∃ Bp Bq, (w0.heap.size ≤ Bp ∧ w0.heap.size ≤ Bq) ∧ (P2 Bp (px l x.1) (pz l x.1) W ∧ P2 Bq (px l (nx l.length x.1)) (pz l (nx l.length x.1)) W) ∧ a' = { tmps := #[.slice (some ⟨b, o, none⟩) l.length c, undef, .pointer (some ⟨w.heap.size, 0, none⟩), .pointer (some ⟨w.heap.size + 1, 0, none⟩), .pointer (some ⟨Bp, 0, none⟩), .pointer (some ⟨Bq, 0, none⟩), undef, .slice (some ⟨b, o, none⟩) l.length c, .func (.func 85) #[] #[.pointer (some ⟨w.heap.size + 1 + 1, 0, none⟩)], .agg #[.int .i64 (px l x.1), .int .i64 (pz l x.1)], .agg #[.int .i64 (px l (nx l.length x.1)), .int .i64 (pz l (nx l.length x.1))], undef, undef, undef, undef, undef, undef, undef, undef, undef, undef, undef, undef, undef, undef, undef, undef, undef, undef, undef, undef, undef, undef, undef, undef, undef, undef, undef, undef, undef, undef, undef, undef, undef, undef, undef, undef, undef, undef, undef], defers := [] })
    (fun x a' W l o o' hl ho _ ⟨Bp, Bq, hbb, h, e⟩ => ⟨Bp, Bq, hbb, ⟨h.1.putObj o' hl ho, h.2.putObj o' hl ho⟩, e⟩) ?assign ?body ?done ?stop
  case assign =>
    rintro lr pre x W K ⟨⟨h1, h2⟩, hB, hWW⟩ hsW hK
    unfold enc2
    gi_wp2
    have hb2 := bl2 W (.cells #[.int .i64 (px l x.1), .int .i64 (pz l x.1)] 37) (.cells #[.int .i64 (px l (nx l.length x.1)), .int .i64 (pz l (nx l.length x.1))] 37)
    have hc2 : Ch w0.heap.size [w.heap.size + 1] W _ := Ch.of_below hb2
    refine hK _ _ (KO.of_below hb2 hsW) ⟨⟨h1.ch hc2 (by omega), h2.ch hc2 (by omega)⟩, Below.thru hB hB.size hb2, Nat.le_trans hWW hb2.size⟩ ⟨W.heap.size, W.heap.size + 1, ⟨by have := hWW; omega, by have := hWW; omega⟩, ⟨(P2.new W _ _).alloc _, ?_⟩, rfl⟩
    have := P2.new (W.alloc (.cells #[.int .i64 (px l x.1), .int .i64 (pz l x.1)] 37)) (px l (nx l.length x.1)) (pz l (nx l.length x.1))
    rw [World.size_alloc] at this
    exact this
  case body =>
    rintro lr pre x a' W ⟨⟨h1, h2⟩, hB, hWW⟩ hsW ⟨Bp, Bq, ⟨hb1, hb2⟩, ⟨hp, hq⟩, rfl⟩ hlt
    have n1 : ¬ w.heap.size + 1 = Bp := by omega
    have n2 : ¬ w.heap.size + 1 = Bq := by omega
    obtain ⟨p0, p1⟩ := hp.cells
    obtain ⟨q0, q1⟩ := hq.cells
    obtain ⟨⟨c0, c1, c2⟩, f0, f1, f2⟩ := h1.cells
    have b1 := HS.out.p1 x
    have b2 := HS.out.p2 x
    have b3 := HS.out.crs x
    have b4 := HS.out.mox x
    have b5 := HS.out.moz x
    have b6 := HS.out.nx x
    have s1 := sm_bd (crs l) 8000000 HS.out.crs pre 1000 (by omega) (by omega)
    have s2 := sm_bd (mox l) 32000000000 HS.out.mox pre 1000 (by omega) (by omega)
    have s3 := sm_bd (moz l) 32000000000 HS.out.moz pre 1000 (by omega) (by omega)
    have S1 := Lib.hid (sm_snoc (crs l) pre x)
    have S2 := Lib.hid (sm_snoc (mox l) pre x)
    have S3 := Lib.hid (sm_snoc (moz l) pre x)
    have C1 : Hid (crs l x = px l x.1 * pz l (nx l.length x.1) - px l (nx l.length x.1) * pz l x.1) := rfl
    have C2 : Hid (mox l x = (px l x.1 + px l (nx l.length x.1)) * crs l x) := rfl
    have C3 : Hid (moz l x = (pz l x.1 + pz l (nx l.length x.1)) * crs l x) := rfl
    generalize px l x.1 = xa at *
    generalize pz l x.1 = za at *
    generalize px l (nx l.length x.1) = xb at *
    generalize pz l (nx l.length x.1) = zb at *
    generalize crs l x = cr at *
    generalize mox l x = cx at *
    generalize moz l x = cz at *
    generalize sm (crs l) pre = sa at *
    generalize sm (mox l) pre = sb at *
    generalize sm (moz l) pre = sc at *
    have e1 := IntWalk.i64_in (xa * zb) (by omega)
    have e2 := IntWalk.i64_in (xb * za) (by omega)
    have e3 : IntKind.i64.wrap (xa * zb - xb * za) = cr := by rw [C1.out]; exact IntWalk.i64_in _ (by rw [← C1.out]; omega)
    have e4 := IntWalk.i64_in (sa + cr) (by omega)
    have e5 := IntWalk.i64_in (xa + xb) (by omega)
    have e6 : IntKind.i64.wrap ((xa + xb) * cr) = cx := by rw [C2.out]; exact IntWalk.i64_in _ (by rw [← C2.out]; omega)
    have e7 := IntWalk.i64_in (sb + cx) (by omega)
    have e8 := IntWalk.i64_in (za + zb) (by omega)
    have e9 : IntKind.i64.wrap ((za + zb) * cr) = cz := by rw [C3.out]; exact IntWalk.i64_in _ (by rw [← C3.out]; omega)
    have e10 := IntWalk.i64_in (sc + cz) (by omega)
    clear b1 b2 b3 b4 b5 b6 s1 s2 s3 hp hq
    gi_wp2
    refine ⟨KO.put3 h1 (by simp) (by omega) _ _ _, ⟨?_, h2.far (by omega) _ _ _⟩, ((hB.setCell (by simp) _).setCell (by simp) _).setCell (by simp) _, by simpa using hWW⟩
    rw [S1.out, S2.out, S3.out]
    exact h1.put _ _ _
  case done =>
    rintro D ys W hD rfl ⟨⟨h1, h2⟩, hB, hWW⟩ hK
    obtain ⟨⟨c0, c1, c2⟩, f0, f1, f2⟩ := h1.cells
    obtain ⟨⟨r0, r1, r2⟩, q0, q1, q2⟩ := h2.cells
    have hK2 : (((W.setCell ⟨w.heap.size, 0, none⟩ (.int .i64 (sm (crs l) (List.finRange l.length)))).setCell ⟨w.heap.size, 1, none⟩ (.int .i64 (sm (mox l) (List.finRange l.length)))).setCell ⟨w.heap.size, 2, none⟩ (.int .i64 (sm (moz l) (List.finRange l.length)))).heap[D]? = some (.deferred (some [])) :=
      (Below.heap_setCell _ _ _ _ (by show D ≠ w.heap.size; omega)).trans ((Below.heap_setCell _ _ _ _ (by show D ≠ w.heap.size; omega)).trans ((Below.heap_setCell _ _ _ _ (by show D ≠ w.heap.size; omega)).trans hK))
    have H2 := Lib.hid hK2
    have R2 := Lib.hid (h2.put (sm (crs l) (List.finRange l.length)) (sm (mox l) (List.finRange l.length)) (sm (moz l) (List.finRange l.length)))
    clear hK2 h1 h2
    gi_wp2
    refine ⟨by simp, .inl ⟨_, _, rfl, run_takeDeferred H2.out, ?_⟩⟩
    have hb4 := (((hB.setCell (p := ⟨w.heap.size, 0, none⟩) (Nat.le_refl _) (.int .i64 (sm (crs l) (List.finRange l.length)))).setCell (p := ⟨w.heap.size, 1, none⟩) (Nat.le_refl _) (.int .i64 (sm (mox l) (List.finRange l.length)))).setCell (p := ⟨w.heap.size, 2, none⟩) (Nat.le_refl _) (.int .i64 (sm (moz l) (List.finRange l.length)))).trans (belowK_b (w := w) (Nat.le_refl _) _ D _ (.deferred none) (by omega) H2.out rfl rfl)
    have R3 := R2.out.putFar (D := D) (by omega) (.deferred none)
    obtain ⟨⟨g0, g1, g2⟩, _⟩ := R3.cells
    generalize ((((W.setCell ⟨w.heap.size, 0, none⟩ (.int .i64 (sm (crs l) (List.finRange l.length)))).setCell ⟨w.heap.size, 1, none⟩ (.int .i64 (sm (mox l) (List.finRange l.length)))).setCell ⟨w.heap.size, 2, none⟩ (.int .i64 (sm (moz l) (List.finRange l.length)))).putObj D (.deferred none)) = W4 at *
    exact ⟨.agg #[.int .i64 (sm (crs l) (List.finRange l.length)), .int .i64 (sm (mox l) (List.finRange l.length)), .int .i64 (sm (moz l) (List.finRange l.length))], by simp [results, Tryz.results83, go_sem, g0, g1, g2], rfl, hb4⟩
  case stop =>
    rintro D cc pre W _ h _
    exact h.elim
end Go.Proofs.YtljmhejljpfaiaaGreat

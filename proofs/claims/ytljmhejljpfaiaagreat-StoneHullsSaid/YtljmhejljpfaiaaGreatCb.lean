import Derived.Test.YtljmhejljpfaiaaGreatCa
import Derived.Deep.CutBlock
import Derived.Deep.DeepCutAuto
namespace Go.Proofs.YtljmhejljpfaiaaGreat
set_option maxRecDepth 100000
set_option maxRecDepth 100000
open Go.RowKit Go.Shelf

/-! Split -/
def pieceS (s : SV) (lt : ByteArray) (l : List Pt) : SV := ⟨s.nm ++ lt, stl l, s.dp, s.dn, s.gx, s.gz⟩
abbrev lta : ByteArray := ⟨#[97]⟩
abbrev ltb : ByteArray := ⟨#[98]⟩
/-- what makes a cut too great -/
def Big (s : SV) (p q : Pt) : Prop := s.nm.size = 16 ∨ 12 < (partL s.l q p).length ∨ 12 < (partL s.l p q).length
def SplE (s : SV) (p q : Pt) (er : Int) : Prop :=
  (¬ Vld s ∧ er = 2) ∨ (Vld s ∧ ¬ (IsP s.l p.1 p.2 ∧ IsP s.l q.1 q.2) ∧ er = 8) ∨ ((Vld s ∧ IsP s.l p.1 p.2 ∧ IsP s.l q.1 q.2) ∧ ¬ CanC s.l p.1 p.2 q.1 q.2 ∧ er = 2) ∨
  (((Vld s ∧ IsP s.l p.1 p.2 ∧ IsP s.l q.1 q.2) ∧ CanC s.l p.1 p.2 q.1 q.2) ∧ Big s p q ∧ er = 5) ∨ (((Vld s ∧ IsP s.l p.1 p.2 ∧ IsP s.l q.1 q.2) ∧ CanC s.l p.1 p.2 q.1 q.2) ∧ ¬ Big s p q ∧ er = 0)
def PSp (s : SV) (p q : Pt) (w : World) (e : Ending) (w' : World) : Prop :=
  (∃ va vb er, e = .returned (.tuple #[va, vb, .int .i64 er]) ∧ SplE s p q er ∧ ((er ≠ 0 ∧ va = zst ∧ vb = zst) ∨
    (er = 0 ∧ ∃ u1 u2, va = stv (pieceS s lta (partL s.l q p)) u1 ∧ Own w' w.heap.size u1 (stl (partL s.l q p)) ∧ vb = stv (pieceS s ltb (partL s.l p q)) u2 ∧ Own w' w.heap.size u2 (stl (partL s.l p q))))) ∧ Below w.heap.size w w'
theorem wkR_mem (l : List Pt) (q : Pt) : ∀ k i r, 0 < l.length → r ∈ wkR l q k i → ∃ j, j < l.length ∧ r = (px l j, pz l j)
  | 0, _, r, _, h => by cases h
  | k + 1, i, r, h3, h => by
    rw [wkR_succ] at h
    rcases List.mem_append.1 h with h | h
    · split at h
      · cases h
      · simp only [List.mem_singleton] at h
        exact ⟨nx l.length i, Nat.mod_lt _ h3, h⟩
    · exact wkR_mem l q k _ r h3 h
theorem partL_bx {l : List Pt} {p q : Pt} (hx : Bx l) (h3 : 0 < l.length) (hp : (0 ≤ p.1 ∧ p.1 ≤ 2000) ∧ (0 ≤ p.2 ∧ p.2 ≤ 2000)) (hq : (0 ≤ q.1 ∧ q.1 ≤ 2000) ∧ (0 ≤ q.2 ∧ q.2 ≤ 2000)) : Bx (partL l p q) := fun i hi => by
  have := mem_p hi
  unfold partL at this
  simp only [List.mem_append, List.mem_singleton] at this
  rcases this with (h | h) | h
  · have e1 := congrArg Prod.fst h; have e2 := congrArg Prod.snd h
    dsimp only at e1 e2
    unfold partL; rw [e1, e2]; exact hp
  · obtain ⟨j, hj, e⟩ := wkR_mem l q _ _ _ h3 h
    have e1 := congrArg Prod.fst e; have e2 := congrArg Prod.snd e
    dsimp only at e1 e2
    unfold partL; rw [e1, e2]; exact hx j hj
  · have e1 := congrArg Prod.fst h; have e2 := congrArg Prod.snd h
    dsimp only at e1 e2
    unfold partL; rw [e1, e2]; exact hq
theorem partL_two (l : List Pt) (p q : Pt) : 2 ≤ (partL l p q).length := by unfold partL; simp
theorem partL_len (l : List Pt) (p q : Pt) (h1 : eo l p < l.length) (h2 : eo l q < l.length) : (partL l p q).length ≤ l.length + 2 := by
  have h := wkR_len l q (dist l.length (eo l p) (eo l q)) (eo l p)
  have hd := dist_le h1 h2
  unfold partL
  simp only [List.length_append, List.length_cons, List.length_nil]
  omega
theorem eo_isp {l : List Pt} {x z : Int} (hp : IsP l x z) : eo l (x, z) < l.length := by
  obtain ⟨i, hi, h1⟩ := hp
  unfold eo
  cases h : (List.range l.length).find? (hit l x z) with
  | none =>
    have := List.find?_eq_none.1 h i (by simpa using hi)
    exact absurd h1 this
  | some j =>
    have := List.mem_of_find?_eq_some h
    simpa using this
theorem Own.some {w : World} {base : Nat} {v : Value} {l : List Pt} (h : Own w base v l) (h3 : 0 < l.length) : ∃ g c, v = .slice (some ⟨g, 0, none⟩) l.length c ∧ Row w g 0 l := by
  rcases h.row with ⟨_, h0⟩ | ⟨g, c, h1, hr, _⟩
  · subst h0; simp at h3
  · exact ⟨g, c, h1, hr⟩
set_option maxHeartbeats 16000000 in
theorem split_any (s : SV) (v : Value) (x1 z1 x2 z2 : Int) (w : World) (hn : s.nm.size ≤ 1000000) (h : Pts w v s.l) : Calls Tryz.prog 13 #[stv s v, .agg #[.int .i64 x1, .int .i64 z1], .agg #[.int .i64 x2, .int .i64 z2]] w (PSp s (x1, z1) (x2, z2) w) := by
  obtain ⟨p, c, hv⟩ : ∃ p c, v = .slice p s.l.length c := ⟨_, _, h.2.choose_spec.choose_spec.1⟩
  subst hv
  have HC := Lib.hid (fun W (k : Below w.heap.size w W) => check_any s (.slice p s.l.length c) W (by unfold maxLen; omega) (h.keep k))
  have HPT := Lib.hid h
  obtain ⟨nm, l, dp, dn, gx, gz⟩ := s
  have HER : Hid (∀ W er, er ≠ 0 → SplE ⟨nm, l, dp, dn, gx, gz⟩ (x1, z1) (x2, z2) er → Below w.heap.size w W → PSp ⟨nm, l, dp, dn, gx, gz⟩ (x1, z1) (x2, z2) w (.returned (.tuple #[zst, zst, .int .i64 er])) W) := fun W er h0 he k => ⟨⟨_, _, er, rfl, he, .inl ⟨h0, rfl, rfl⟩⟩, k⟩
  have HOK : Hid (∀ W u1 u2, SplE ⟨nm, l, dp, dn, gx, gz⟩ (x1, z1) (x2, z2) 0 → Own W w.heap.size u1 (stl (partL l (x2, z2) (x1, z1))) → Own W w.heap.size u2 (stl (partL l (x1, z1) (x2, z2))) → Below w.heap.size w W →
    PSp ⟨nm, l, dp, dn, gx, gz⟩ (x1, z1) (x2, z2) w (.returned (.tuple #[.agg (c6 (nm ++ lta) u1 dp dn gx gz), .agg (c6 (nm ++ ltb) u2 dp dn gx gz), .int .i64 0])) W) := fun W u1 u2 he o1 o2 k => ⟨⟨_, _, 0, rfl, he, .inr ⟨rfl, u1, u2, rfl, o1, rfl, o2⟩⟩, k⟩
  have HSE : Hid (∀ er, SplE ⟨nm, l, dp, dn, gx, gz⟩ (x1, z1) (x2, z2) er ↔ (¬ Vld ⟨nm, l, dp, dn, gx, gz⟩ ∧ er = 2) ∨ (Vld ⟨nm, l, dp, dn, gx, gz⟩ ∧ ¬ (IsP l x1 z1 ∧ IsP l x2 z2) ∧ er = 8) ∨ ((Vld ⟨nm, l, dp, dn, gx, gz⟩ ∧ IsP l x1 z1 ∧ IsP l x2 z2) ∧ ¬ CanC l x1 z1 x2 z2 ∧ er = 2) ∨
  (((Vld ⟨nm, l, dp, dn, gx, gz⟩ ∧ IsP l x1 z1 ∧ IsP l x2 z2) ∧ CanC l x1 z1 x2 z2) ∧ (nm.size = 16 ∨ 12 < (partL l (x2, z2) (x1, z1)).length ∨ 12 < (partL l (x1, z1) (x2, z2)).length) ∧ er = 5) ∨ (((Vld ⟨nm, l, dp, dn, gx, gz⟩ ∧ IsP l x1 z1 ∧ IsP l x2 z2) ∧ CanC l x1 z1 x2 z2) ∧ ¬ (nm.size = 16 ∨ 12 < (partL l (x2, z2) (x1, z1)).length ∨ 12 < (partL l (x1, z1) (x2, z2)).length) ∧ er = 0)) := fun er => Iff.rfl
  have HVI : Hid (Vld ⟨nm, l, dp, dn, gx, gz⟩ → (3 ≤ l.length ∧ l.length ≤ 12) ∧ Bx l ∧ nm.size ≤ 16) := fun h => ⟨h.2.1.1, h.2.1.2.1, h.1.1.2⟩
  unfold stv at *
  dsimp only at *
  clear h hn
  generalize Vld ⟨nm, l, dp, dn, gx, gz⟩ = V at *
  generalize SplE ⟨nm, l, dp, dn, gx, gz⟩ (x1, z1) (x2, z2) = SE at *
  generalize PSp ⟨nm, l, dp, dn, gx, gz⟩ (x1, z1) (x2, z2) w = PP at *
  have k0 : Below w.heap.size w (((((w.alloc (.cells #[.string nm, .slice p l.length c, .int .i64 dp, .int .i64 dn, .int .i64 gx, .int .i64 gz] 39)).alloc (.cells #[.int .i64 x1, .int .i64 z1] 37)).alloc (.cells #[.int .i64 x2, .int .i64 z2] 37)).alloc (.cells #[.string ⟨#[]⟩, .slice none 0 0, .int .i64 0, .int .i64 0, .int .i64 0, .int .i64 0] 39)).alloc (.cells #[.string ⟨#[]⟩, .slice none 0 0, .int .i64 0, .int .i64 0, .int .i64 0, .int .i64 0] 39)) := ((bl3 w _ _ _).alloc (by simp; omega) _).alloc (by simp; omega) _
  have b0 : Blk w.heap.size (c6 nm (.slice p l.length c) dp dn gx gz) 39 (((((w.alloc (.cells #[.string nm, .slice p l.length c, .int .i64 dp, .int .i64 dn, .int .i64 gx, .int .i64 gz] 39)).alloc (.cells #[.int .i64 x1, .int .i64 z1] 37)).alloc (.cells #[.int .i64 x2, .int .i64 z2] 37)).alloc (.cells #[.string ⟨#[]⟩, .slice none 0 0, .int .i64 0, .int .i64 0, .int .i64 0, .int .i64 0] 39)).alloc (.cells #[.string ⟨#[]⟩, .slice none 0 0, .int .i64 0, .int .i64 0, .int .i64 0, .int .i64 0] 39)) ∧ P2 (w.heap.size + 1) x1 z1 (((((w.alloc (.cells #[.string nm, .slice p l.length c, .int .i64 dp, .int .i64 dn, .int .i64 gx, .int .i64 gz] 39)).alloc (.cells #[.int .i64 x1, .int .i64 z1] 37)).alloc (.cells #[.int .i64 x2, .int .i64 z2] 37)).alloc (.cells #[.string ⟨#[]⟩, .slice none 0 0, .int .i64 0, .int .i64 0, .int .i64 0, .int .i64 0] 39)).alloc (.cells #[.string ⟨#[]⟩, .slice none 0 0, .int .i64 0, .int .i64 0, .int .i64 0, .int .i64 0] 39)) ∧ P2 (w.heap.size + 1 + 1) x2 z2 (((((w.alloc (.cells #[.string nm, .slice p l.length c, .int .i64 dp, .int .i64 dn, .int .i64 gx, .int .i64 gz] 39)).alloc (.cells #[.int .i64 x1, .int .i64 z1] 37)).alloc (.cells #[.int .i64 x2, .int .i64 z2] 37)).alloc (.cells #[.string ⟨#[]⟩, .slice none 0 0, .int .i64 0, .int .i64 0, .int .i64 0, .int .i64 0] 39)).alloc (.cells #[.string ⟨#[]⟩, .slice none 0 0, .int .i64 0, .int .i64 0, .int .i64 0, .int .i64 0] 39)) ∧ Blk (w.heap.size + 1 + 1 + 1) (c6 ⟨#[]⟩ (.slice none 0 0) 0 0 0 0) 39 (((((w.alloc (.cells #[.string nm, .slice p l.length c, .int .i64 dp, .int .i64 dn, .int .i64 gx, .int .i64 gz] 39)).alloc (.cells #[.int .i64 x1, .int .i64 z1] 37)).alloc (.cells #[.int .i64 x2, .int .i64 z2] 37)).alloc (.cells #[.string ⟨#[]⟩, .slice none 0 0, .int .i64 0, .int .i64 0, .int .i64 0, .int .i64 0] 39)).alloc (.cells #[.string ⟨#[]⟩, .slice none 0 0, .int .i64 0, .int .i64 0, .int .i64 0, .int .i64 0] 39)) ∧ Blk (w.heap.size + 1 + 1 + 1 + 1) (c6 ⟨#[]⟩ (.slice none 0 0) 0 0 0 0) 39 (((((w.alloc (.cells #[.string nm, .slice p l.length c, .int .i64 dp, .int .i64 dn, .int .i64 gx, .int .i64 gz] 39)).alloc (.cells #[.int .i64 x1, .int .i64 z1] 37)).alloc (.cells #[.int .i64 x2, .int .i64 z2] 37)).alloc (.cells #[.string ⟨#[]⟩, .slice none 0 0, .int .i64 0, .int .i64 0, .int .i64 0, .int .i64 0] 39)).alloc (.cells #[.string ⟨#[]⟩, .slice none 0 0, .int .i64 0, .int .i64 0, .int .i64 0, .int .i64 0] 39)) := by
    refine ⟨((((Blk.new w _ 39).alloc _).alloc _).alloc _).alloc _, ?_, ?_, ?_, ?_⟩
    · have := P2.new (w.alloc (.cells #[.string nm, .slice p l.length c, .int .i64 dp, .int .i64 dn, .int .i64 gx, .int .i64 gz] 39)) x1 z1
      rw [World.size_alloc] at this
      exact ((this.alloc _).alloc _).alloc _
    · have := P2.new ((w.alloc (.cells #[.string nm, .slice p l.length c, .int .i64 dp, .int .i64 dn, .int .i64 gx, .int .i64 gz] 39)).alloc (.cells #[.int .i64 x1, .int .i64 z1] 37)) x2 z2
      simp only [World.size_alloc] at this
      exact (this.alloc _).alloc _
    · have := Blk.new (((w.alloc (.cells #[.string nm, .slice p l.length c, .int .i64 dp, .int .i64 dn, .int .i64 gx, .int .i64 gz] 39)).alloc (.cells #[.int .i64 x1, .int .i64 z1] 37)).alloc (.cells #[.int .i64 x2, .int .i64 z2] 37)) (c6 ⟨#[]⟩ (.slice none 0 0) 0 0 0 0) 39
      simp only [World.size_alloc] at this
      exact this.alloc _
    · have := Blk.new ((((w.alloc (.cells #[.string nm, .slice p l.length c, .int .i64 dp, .int .i64 dn, .int .i64 gx, .int .i64 gz] 39)).alloc (.cells #[.int .i64 x1, .int .i64 z1] 37)).alloc (.cells #[.int .i64 x2, .int .i64 z2] 37)).alloc (.cells #[.string ⟨#[]⟩, .slice none 0 0, .int .i64 0, .int .i64 0, .int .i64 0, .int .i64 0] 39)) (c6 ⟨#[]⟩ (.slice none 0 0) 0 0 0 0) 39
      simp only [World.size_alloc] at this
      exact this
  have hsz : (((((w.alloc (.cells #[.string nm, .slice p l.length c, .int .i64 dp, .int .i64 dn, .int .i64 gx, .int .i64 gz] 39)).alloc (.cells #[.int .i64 x1, .int .i64 z1] 37)).alloc (.cells #[.int .i64 x2, .int .i64 z2] 37)).alloc (.cells #[.string ⟨#[]⟩, .slice none 0 0, .int .i64 0, .int .i64 0, .int .i64 0, .int .i64 0] 39)).alloc (.cells #[.string ⟨#[]⟩, .slice none 0 0, .int .i64 0, .int .i64 0, .int .i64 0, .int .i64 0] 39)).heap.size = w.heap.size + 5 := by simp
  go_enter Tryz.func13, Tryz.ntmps13
  go_wp2_with fail
  generalize (((((w.alloc (.cells #[.string nm, .slice p l.length c, .int .i64 dp, .int .i64 dn, .int .i64 gx, .int .i64 gz] 39)).alloc (.cells #[.int .i64 x1, .int .i64 z1] 37)).alloc (.cells #[.int .i64 x2, .int .i64 z2] 37)).alloc (.cells #[.string ⟨#[]⟩, .slice none 0 0, .int .i64 0, .int .i64 0, .int .i64 0, .int .i64 0] 39)).alloc (.cells #[.string ⟨#[]⟩, .slice none 0 0, .int .i64 0, .int .i64 0, .int .i64 0, .int .i64 0] 39)) = w0 at *
  have HBS : Hid (∀ W, Below w0.heap.size w0 W → Blk w.heap.size (c6 nm (.slice p l.length c) dp dn gx gz) 39 W ∧ P2 (w.heap.size + 1) x1 z1 W ∧ P2 (w.heap.size + 1 + 1) x2 z2 W ∧ Blk (w.heap.size + 1 + 1 + 1) (c6 ⟨#[]⟩ (.slice none 0 0) 0 0 0 0) 39 W ∧ Blk (w.heap.size + 1 + 1 + 1 + 1) (c6 ⟨#[]⟩ (.slice none 0 0) 0 0 0 0) 39 W) := fun W k => ⟨b0.1.below k, b0.2.1.below k, b0.2.2.1.below k, b0.2.2.2.1.below k, b0.2.2.2.2.below k⟩
  have K0 := Lib.hid k0
  have HWK : Hid (∀ W, Below w0.heap.size w0 W → Below w.heap.size w W) := fun W kk => Below.thru K0.out K0.out.size kk
  have HLW : Hid (∀ W, Below w0.heap.size w0 W → w.heap.size + 5 ≤ W.heap.size) := fun W kk => by have := kk.size; omega
  clear b0
  refine (HC.out _ k0).mono ?_
  rintro e w1 ⟨⟨er, rfl, hx⟩, hb1⟩
  have K1 := Lib.hid hb1
  clear hb1 k0
  rcases hx with ⟨rfl, hv⟩ | ⟨rfl, hv⟩
  · have HV := Lib.hid hv
    obtain ⟨h3, hbx, hnm⟩ := HVI.out hv
    obtain ⟨b, o, c', hpe, hrow⟩ := (HPT.out.keep (HWK.out _ K1.out)).some (by show 0 < l.length; omega)
    cases hpe
    have HI1 := Lib.hid (fun W (k : Below w1.heap.size w1 W) => isPoint_any b o c l x1 z1 W (hrow.keep k) (by omega) (by omega) hbx)
    have HI2 := Lib.hid (fun W (k : Below w1.heap.size w1 W) => isPoint_any b o c l x2 z2 W (hrow.keep k) (by omega) (by omega) hbx)
    have HCC := Lib.hid (fun W (k : Below w1.heap.size w1 W) => canCut_any b o c l x1 z1 x2 z2 W (hrow.keep k) (by omega) (by omega) hbx)
    have HPL := Lib.hid (fun W (k : Below w1.heap.size w1 W) (q1 : IsP l x2 z2) (q2 : IsP l x1 z1) => part_any b o c l x2 z2 x1 z1 W (hrow.keep k) (by omega) (by omega) hbx q1 q2)
    have HPR := Lib.hid (fun W (k : Below w1.heap.size w1 W) (q1 : IsP l x1 z1) (q2 : IsP l x2 z2) => part_any b o c l x1 z1 x2 z2 W (hrow.keep k) (by omega) (by omega) hbx q1 q2)
    have HX := Lib.hid hbx
    have HNM := Lib.hid hnm
    have H3 := Lib.hid h3
    have q1 := HBS.out _ K1.out
    have s1 := q1.1.cell (i := 1) rfl
    obtain ⟨p0, p1⟩ := q1.2.1.cells
    clear hv h3 hbx hnm hrow q1
    go_wp2_with fail
    refine (HI1.out _ (Below.refl _ _)).mono ?_
    rintro e w2 ⟨⟨bp, rfl, hbp⟩, hb2⟩
    have K2 := Lib.hid hb2
    have K2' := Lib.hid (Below.thru K1.out K1.out.size hb2)
    have HBP := Lib.hid hbp
    clear hb2 hbp s1 p0 p1
    cases bp with
    | false =>
      have q2 := HBS.out _ K2'.out
      have zc0 := q2.2.2.2.1.cell (i := 0) rfl; have zcf0 := q2.2.2.2.1.frozen 0; have zc1 := q2.2.2.2.1.cell (i := 1) rfl; have zcf1 := q2.2.2.2.1.frozen 1; have zc2 := q2.2.2.2.1.cell (i := 2) rfl; have zcf2 := q2.2.2.2.1.frozen 2; have zc3 := q2.2.2.2.1.cell (i := 3) rfl; have zcf3 := q2.2.2.2.1.frozen 3; have zc4 := q2.2.2.2.1.cell (i := 4) rfl; have zcf4 := q2.2.2.2.1.frozen 4; have zc5 := q2.2.2.2.1.cell (i := 5) rfl; have zcf5 := q2.2.2.2.1.frozen 5; have yc0 := q2.2.2.2.2.cell (i := 0) rfl; have ycf0 := q2.2.2.2.2.frozen 0; have yc1 := q2.2.2.2.2.cell (i := 1) rfl; have ycf1 := q2.2.2.2.2.frozen 1; have yc2 := q2.2.2.2.2.cell (i := 2) rfl; have ycf2 := q2.2.2.2.2.frozen 2; have yc3 := q2.2.2.2.2.cell (i := 3) rfl; have ycf3 := q2.2.2.2.2.frozen 3; have yc4 := q2.2.2.2.2.cell (i := 4) rfl; have ycf4 := q2.2.2.2.2.frozen 4; have yc5 := q2.2.2.2.2.cell (i := 5) rfl; have ycf5 := q2.2.2.2.2.frozen 5
      have hl := HLW.out _ K2'.out
      clear q2
      go_wp2
      refine bodyPost_ret (v := .tuple #[zst, zst, .int .i64 8]) (by simp [results, Tryz.results13, go_sem, zst, zc0, zc1, zc2, zc3, zc4, zc5, yc0, yc1, yc2, yc3, yc4, yc5]) rfl (HER.out _ 8 (by decide) ((HSE.out 8).2 (.inr (.inl ⟨HV.out, fun h => (by have := HBP.out; simp at this; exact this h.1), rfl⟩))) (below6 (below6 (HWK.out _ K2'.out) (by omega) _ _ _ _ _ _) (by omega) _ _ _ _ _ _))
    | true =>
      have HP1 : Hid (IsP l x1 z1) := HBP.out.1 rfl
      have q2 := HBS.out _ K2'.out
      obtain ⟨p0, p1⟩ := q2.2.2.1.cells
      clear q2 HBP
      go_wp2_with fail
      refine (HI2.out _ K2.out).mono ?_
      rintro e w3 ⟨⟨bq, rfl, hbq⟩, hb3⟩
      have K3 := Lib.hid (Below.thru K2.out K2.out.size hb3)
      have K3' := Lib.hid (Below.thru K2'.out K2'.out.size hb3)
      have HBQ := Lib.hid hbq
      clear hb3 hbq p0 p1
      cases bq with
      | false =>
        have q2 := HBS.out _ K3'.out
        have zc0 := q2.2.2.2.1.cell (i := 0) rfl; have zcf0 := q2.2.2.2.1.frozen 0; have zc1 := q2.2.2.2.1.cell (i := 1) rfl; have zcf1 := q2.2.2.2.1.frozen 1; have zc2 := q2.2.2.2.1.cell (i := 2) rfl; have zcf2 := q2.2.2.2.1.frozen 2; have zc3 := q2.2.2.2.1.cell (i := 3) rfl; have zcf3 := q2.2.2.2.1.frozen 3; have zc4 := q2.2.2.2.1.cell (i := 4) rfl; have zcf4 := q2.2.2.2.1.frozen 4; have zc5 := q2.2.2.2.1.cell (i := 5) rfl; have zcf5 := q2.2.2.2.1.frozen 5; have yc0 := q2.2.2.2.2.cell (i := 0) rfl; have ycf0 := q2.2.2.2.2.frozen 0; have yc1 := q2.2.2.2.2.cell (i := 1) rfl; have ycf1 := q2.2.2.2.2.frozen 1; have yc2 := q2.2.2.2.2.cell (i := 2) rfl; have ycf2 := q2.2.2.2.2.frozen 2; have yc3 := q2.2.2.2.2.cell (i := 3) rfl; have ycf3 := q2.2.2.2.2.frozen 3; have yc4 := q2.2.2.2.2.cell (i := 4) rfl; have ycf4 := q2.2.2.2.2.frozen 4; have yc5 := q2.2.2.2.2.cell (i := 5) rfl; have ycf5 := q2.2.2.2.2.frozen 5
        have hl := HLW.out _ K3'.out
        clear q2
        go_wp2
        refine bodyPost_ret (v := .tuple #[zst, zst, .int .i64 8]) (by simp [results, Tryz.results13, go_sem, zst, zc0, zc1, zc2, zc3, zc4, zc5, yc0, yc1, yc2, yc3, yc4, yc5]) rfl (HER.out _ 8 (by decide) ((HSE.out 8).2 (.inr (.inl ⟨HV.out, fun h => (by have := HBQ.out; simp at this; exact this h.2), rfl⟩))) (below6 (below6 (HWK.out _ K3'.out) (by omega) _ _ _ _ _ _) (by omega) _ _ _ _ _ _))
      | true =>
        have HP2 : Hid (IsP l x2 z2) := HBQ.out.1 rfl
        have q2 := HBS.out _ K3'.out
        obtain ⟨p0, p1⟩ := q2.2.1.cells
        obtain ⟨r0, r1⟩ := q2.2.2.1.cells
        clear q2 HBQ
        go_wp2_with fail
        refine (HCC.out _ K3.out).mono ?_
        rintro e w4 ⟨⟨bc, rfl, hbc⟩, hb4⟩
        have K4 := Lib.hid (Below.thru K3.out K3.out.size hb4)
        have K4' := Lib.hid (Below.thru K3'.out K3'.out.size hb4)
        have HBC := Lib.hid hbc
        clear hb4 hbc p0 p1 r0 r1
        cases bc with
        | false =>
          have q2 := HBS.out _ K4'.out
          have zc0 := q2.2.2.2.1.cell (i := 0) rfl; have zcf0 := q2.2.2.2.1.frozen 0; have zc1 := q2.2.2.2.1.cell (i := 1) rfl; have zcf1 := q2.2.2.2.1.frozen 1; have zc2 := q2.2.2.2.1.cell (i := 2) rfl; have zcf2 := q2.2.2.2.1.frozen 2; have zc3 := q2.2.2.2.1.cell (i := 3) rfl; have zcf3 := q2.2.2.2.1.frozen 3; have zc4 := q2.2.2.2.1.cell (i := 4) rfl; have zcf4 := q2.2.2.2.1.frozen 4; have zc5 := q2.2.2.2.1.cell (i := 5) rfl; have zcf5 := q2.2.2.2.1.frozen 5; have yc0 := q2.2.2.2.2.cell (i := 0) rfl; have ycf0 := q2.2.2.2.2.frozen 0; have yc1 := q2.2.2.2.2.cell (i := 1) rfl; have ycf1 := q2.2.2.2.2.frozen 1; have yc2 := q2.2.2.2.2.cell (i := 2) rfl; have ycf2 := q2.2.2.2.2.frozen 2; have yc3 := q2.2.2.2.2.cell (i := 3) rfl; have ycf3 := q2.2.2.2.2.frozen 3; have yc4 := q2.2.2.2.2.cell (i := 4) rfl; have ycf4 := q2.2.2.2.2.frozen 4; have yc5 := q2.2.2.2.2.cell (i := 5) rfl; have ycf5 := q2.2.2.2.2.frozen 5
          have hl := HLW.out _ K4'.out
          clear q2
          go_wp2
          refine bodyPost_ret (v := .tuple #[zst, zst, .int .i64 2]) (by simp [results, Tryz.results13, go_sem, zst, zc0, zc1, zc2, zc3, zc4, zc5, yc0, yc1, yc2, yc3, yc4, yc5]) rfl (HER.out _ 2 (by decide) ((HSE.out 2).2 (.inr (.inr (.inl ⟨⟨HV.out, HP1.out, HP2.out⟩, (by have := HBC.out; simpa using this), rfl⟩)))) (below6 (below6 (HWK.out _ K4'.out) (by omega) _ _ _ _ _ _) (by omega) _ _ _ _ _ _))
        | true =>
          have HCT : Hid (CanC l x1 z1 x2 z2) := HBC.out.1 rfl
          have q2 := HBS.out w4.drew K4'.out.drew
          obtain ⟨p0, p1⟩ := q2.2.1.cells
          obtain ⟨r0, r1⟩ := q2.2.2.1.cells
          have HPL2 := Lib.hid (fun W (k : Below w4.heap.size w4 W) => HPL.out W (Below.thru K4.out K4.out.size k) HP2.out HP1.out)
          have HPR2 := Lib.hid (fun W (k : Below w4.heap.size w4 W) => HPR.out W (Below.thru K4.out K4.out.size k) HP1.out HP2.out)
          have HB4 := Lib.hid (fun W (k : Below w4.heap.size w4 W) => HBS.out W (Below.thru K4'.out K4'.out.size k))
          clear q2 HBC
          go_upto_region 9 with fail
          go_cut [11, 12] (fun v1 v2 wc => ∃ g1 c1 g2 c2, v1 = .slice (some ⟨g1, 0, none⟩) (partL l (x2, z2) (x1, z1)).length c1 ∧ v2 = .slice (some ⟨g2, 0, none⟩) (partL l (x1, z1) (x2, z2)).length c2 ∧ Hid (Row wc g1 0 (partL l (x2, z2) (x1, z1)) ∧ Row wc g2 0 (partL l (x1, z1) (x2, z2)) ∧ Below w4.heap.size w4 wc))
          case first =>
            rename_i J K' hJ hK
            have q0 : w4.drew.cell? ⟨w.heap.size + 1, 0, none⟩ = some (.int .i64 x1) ∧ w4.drew.cell? ⟨w.heap.size + 1, 1, none⟩ = some (.int .i64 z1) ∧ w4.drew.cell? ⟨w.heap.size + 1 + 1, 0, none⟩ = some (.int .i64 x2) ∧ w4.drew.cell? ⟨w.heap.size + 1 + 1, 1, none⟩ = some (.int .i64 z2) := ⟨p0, p1, r0, r1⟩
            have HS6 : Hid (∀ W, Below w4.heap.size w4 W → W.cell? ⟨w.heap.size + 1, 0, none⟩ = some (.int .i64 x1) ∧ W.cell? ⟨w.heap.size + 1, 1, none⟩ = some (.int .i64 z1) ∧ W.cell? ⟨w.heap.size + 1 + 1, 0, none⟩ = some (.int .i64 x2) ∧ W.cell? ⟨w.heap.size + 1 + 1, 1, none⟩ = some (.int .i64 z2)) := fun W k => ⟨(HB4.out W k).2.1.cells.1, (HB4.out W k).2.1.cells.2, (HB4.out W k).2.2.1.cells.1, (HB4.out W k).2.2.1.cells.2⟩
            have k0 : Below w4.heap.size w4 w4.drew := (Below.refl _ _).drew
            clear p0 p1 r0 r1
            go_region_held3 (fun w' => w'.cell? ⟨w.heap.size + 1, 0, none⟩ = some (.int .i64 x1) ∧ w'.cell? ⟨w.heap.size + 1, 1, none⟩ = some (.int .i64 z1) ∧ w'.cell? ⟨w.heap.size + 1 + 1, 0, none⟩ = some (.int .i64 x2) ∧ w'.cell? ⟨w.heap.size + 1 + 1, 1, none⟩ = some (.int .i64 z2))
              (first | (with_reducible exact q2) | (with_reducible exact q1) | (with_reducible exact q0))
              (first
                | (go_at_call 34; (with_reducible refine (HPL2.out w4.drew k0).mono ?_); rintro e w6 ⟨⟨v6, rfl, ho6⟩, hb6⟩
                   have k1 := Below.thru k0 k0.size hb6; have q1 := HS6.out _ k1; obtain ⟨g1, c1, rfl, hr1⟩ := ho6.some (by have := partL_two l (x2, z2) (x1, z1); omega); have O6 := Lib.hid hr1; clear ho6 hb6 hr1)
                | (go_at_call 34; (with_reducible refine (HPR2.out w6 k1).mono ?_); rintro e w7 ⟨⟨v7, rfl, ho7⟩, hb7⟩
                   have k2 := Below.thru k1 k1.size hb7; have q2 := HS6.out _ k2; obtain ⟨g2, c2, rfl, hr2⟩ := ho7.some (by have := partL_two l (x1, z1) (x2, z2); omega); have O7 := Lib.hid (And.intro (O6.out.keep hb7) (And.intro hr2 k2)); clear ho7 hb7 hr2))
            all_goals
              refine hK _ _ (Met.intro (hJ _ _ ?_))
              (repeat apply Exists.intro)
              refine ⟨⟨_, _, _, _, rfl, rfl, O7.out⟩, rfl⟩
          obtain ⟨g1, c1, g2, c2, rfl, rfl, HCU⟩ := hcut
          have hn1 := partL_two l (x2, z2) (x1, z1)
          have hn2 := partL_two l (x1, z1) (x2, z2)
          have HL1 := Lib.hid (partL_bx (p := (x2, z2)) (q := (x1, z1)) HX.out (by have := H3.out; omega) (HP2.out.bd HX.out) (HP1.out.bd HX.out))
          have HL2 := Lib.hid (partL_bx (p := (x1, z1)) (q := (x2, z2)) HX.out (by have := H3.out; omega) (HP1.out.bd HX.out) (HP2.out.bd HX.out))
          have hm1 := partL_len l (x2, z2) (x1, z1) (eo_isp HP2.out) (eo_isp HP1.out)
          have hm2 := partL_len l (x1, z1) (x2, z2) (eo_isp HP1.out) (eo_isp HP2.out)
          have h3' := H3.out
          have hm1' : (partL l (x2, z2) (x1, z1)).length ≤ 14 := by omega
          have hm2' : (partL l (x1, z1) (x2, z2)).length ≤ 14 := by omega
          have hnms := HNM.out
          have KC := Lib.hid (Below.thru K4'.out K4'.out.size HCU.out.2.2)
          have q2 := HBS.out _ KC.out
          have s0 := q2.1.cell (i := 0) rfl
          have HB5 : Hid ((nm.size = 16 ∨ 12 < (partL l (x2, z2) (x1, z1)).length ∨ 12 < (partL l (x1, z1) (x2, z2)).length) → SE 5) := fun h => (HSE.out 5).2 (.inr (.inr (.inr (.inl ⟨⟨⟨HV.out, HP1.out, HP2.out⟩, HCT.out⟩, h, rfl⟩))))
          have HB0 : Hid (¬ (nm.size = 16 ∨ 12 < (partL l (x2, z2) (x1, z1)).length ∨ 12 < (partL l (x1, z1) (x2, z2)).length) → SE 0) := fun h => (HSE.out 0).2 (.inr (.inr (.inr (.inr ⟨⟨⟨HV.out, HP1.out, HP2.out⟩, HCT.out⟩, h, rfl⟩))))
          have HR12 := Lib.hid (And.intro HCU.out.1 HCU.out.2.1)
          have HPC1 := Lib.hid (fun W (k : Below wc.heap.size wc W) => piece_any nm ⟨#[97]⟩ (.slice (some ⟨b, o, none⟩) l.length c) dp dn gx gz g1 0 c1 (partL l (x2, z2) (x1, z1)) W (HCU.out.1.keep k) (by omega) (by omega) HL1.out.sm (by show nm.size + 1 ≤ maxLen; unfold maxLen; omega))
          have HPC2 := Lib.hid (fun W (k : Below wc.heap.size wc W) => piece_any nm ⟨#[98]⟩ (.slice (some ⟨b, o, none⟩) l.length c) dp dn gx gz g2 0 c2 (partL l (x1, z1) (x2, z2)) W (HCU.out.2.1.keep k) (by omega) (by omega) HL2.out.sm (by show nm.size + 1 ≤ maxLen; unfold maxLen; omega))
          clear hm1 hm2 h3' q2
          generalize stl (partL l (x2, z2) (x1, z1)) = sl1 at *
          generalize stl (partL l (x1, z1) (x2, z2)) = sl2 at *
          generalize (partL l (x2, z2) (x1, z1)).length = n1 at *
          generalize (partL l (x1, z1) (x2, z2)).length = n2 at *
          by_cases h16 : nm.size = 16
          · have g16 : ((nm.size : Int) == 16) = true := by rw [h16]; rfl
            have q2 := HBS.out _ KC.out
            have zc0 := q2.2.2.2.1.cell (i := 0) rfl; have zcf0 := q2.2.2.2.1.frozen 0; have zc1 := q2.2.2.2.1.cell (i := 1) rfl; have zcf1 := q2.2.2.2.1.frozen 1; have zc2 := q2.2.2.2.1.cell (i := 2) rfl; have zcf2 := q2.2.2.2.1.frozen 2; have zc3 := q2.2.2.2.1.cell (i := 3) rfl; have zcf3 := q2.2.2.2.1.frozen 3; have zc4 := q2.2.2.2.1.cell (i := 4) rfl; have zcf4 := q2.2.2.2.1.frozen 4; have zc5 := q2.2.2.2.1.cell (i := 5) rfl; have zcf5 := q2.2.2.2.1.frozen 5; have yc0 := q2.2.2.2.2.cell (i := 0) rfl; have ycf0 := q2.2.2.2.2.frozen 0; have yc1 := q2.2.2.2.2.cell (i := 1) rfl; have ycf1 := q2.2.2.2.2.frozen 1; have yc2 := q2.2.2.2.2.cell (i := 2) rfl; have ycf2 := q2.2.2.2.2.frozen 2; have yc3 := q2.2.2.2.2.cell (i := 3) rfl; have ycf3 := q2.2.2.2.2.frozen 3; have yc4 := q2.2.2.2.2.cell (i := 4) rfl; have ycf4 := q2.2.2.2.2.frozen 4; have yc5 := q2.2.2.2.2.cell (i := 5) rfl; have ycf5 := q2.2.2.2.2.frozen 5
            have hl := HLW.out _ KC.out
            have HE5 := Lib.hid (HB5.out (.inl h16))
            clear q2 h16
            go_wp2
            refine bodyPost_ret (v := .tuple #[zst, zst, .int .i64 5]) (by simp [results, Tryz.results13, go_sem, zst, zc0, zc1, zc2, zc3, zc4, zc5, yc0, yc1, yc2, yc3, yc4, yc5]) rfl (HER.out _ 5 (by decide) HE5.out (below6 (below6 (HWK.out _ KC.out) (by omega) _ _ _ _ _ _) (by omega) _ _ _ _ _ _))
          · have g16 : ((nm.size : Int) == 16) = false := by simpa using (fun h => h16 (by omega))
            by_cases hbig : 12 < n1 ∨ 12 < n2
            · have q2 := HBS.out _ KC.out
              have zc0 := q2.2.2.2.1.cell (i := 0) rfl; have zcf0 := q2.2.2.2.1.frozen 0; have zc1 := q2.2.2.2.1.cell (i := 1) rfl; have zcf1 := q2.2.2.2.1.frozen 1; have zc2 := q2.2.2.2.1.cell (i := 2) rfl; have zcf2 := q2.2.2.2.1.frozen 2; have zc3 := q2.2.2.2.1.cell (i := 3) rfl; have zcf3 := q2.2.2.2.1.frozen 3; have zc4 := q2.2.2.2.1.cell (i := 4) rfl; have zcf4 := q2.2.2.2.1.frozen 4; have zc5 := q2.2.2.2.1.cell (i := 5) rfl; have zcf5 := q2.2.2.2.1.frozen 5; have yc0 := q2.2.2.2.2.cell (i := 0) rfl; have ycf0 := q2.2.2.2.2.frozen 0; have yc1 := q2.2.2.2.2.cell (i := 1) rfl; have ycf1 := q2.2.2.2.2.frozen 1; have yc2 := q2.2.2.2.2.cell (i := 2) rfl; have ycf2 := q2.2.2.2.2.frozen 2; have yc3 := q2.2.2.2.2.cell (i := 3) rfl; have ycf3 := q2.2.2.2.2.frozen 3; have yc4 := q2.2.2.2.2.cell (i := 4) rfl; have ycf4 := q2.2.2.2.2.frozen 4; have yc5 := q2.2.2.2.2.cell (i := 5) rfl; have ycf5 := q2.2.2.2.2.frozen 5
              have hl := HLW.out _ KC.out
              have HE5 := Lib.hid (HB5.out (.inr hbig))
              clear q2
              go_wp2
              all_goals
                refine bodyPost_ret (v := .tuple #[zst, zst, .int .i64 5]) (by simp [results, Tryz.results13, go_sem, zst, zc0, zc1, zc2, zc3, zc4, zc5, yc0, yc1, yc2, yc3, yc4, yc5]) rfl (HER.out _ 5 (by decide) HE5.out (below6 (below6 (HWK.out _ KC.out) (by omega) _ _ _ _ _ _) (by omega) _ _ _ _ _ _))
            · have HE0 := Lib.hid (HB0.out (fun h => h.elim h16 hbig))
              have HWC : Hid (∀ W, Below wc.heap.size wc W → Below w0.heap.size w0 W) := fun W k => Below.thru KC.out KC.out.size k
              have q0 : Cs w.heap.size nm (.slice (some ⟨b, o, none⟩) l.length c) dp dn gx gz wc.drew := by
                have h := (HBS.out _ (HWC.out _ ((Below.refl _ _).drew))).1
                exact ⟨h.cell (i := 0) rfl, h.cell (i := 1) rfl, h.cell (i := 2) rfl, h.cell (i := 3) rfl, h.cell (i := 4) rfl, h.cell (i := 5) rfl⟩
              have k0 : Below wc.heap.size wc wc.drew := (Below.refl _ _).drew
              have hl := HLW.out _ KC.out
              go_wp2_with fail
              all_goals
                go_region_held3 (fun w' => Cs w.heap.size nm (.slice (some ⟨b, o, none⟩) l.length c) dp dn gx gz w')
                  (first | (with_reducible exact q4) | (with_reducible exact q3) | (with_reducible exact q2) | (with_reducible exact q1) | (with_reducible exact q0))
                  (first
                    | (go_at_call 35; (with_reducible refine (HPC1.out wc.drew k0).mono ?_); rintro e w6 ⟨⟨v6, rfl, ho6⟩, hb6⟩
                       have k1 := Below.thru k0 k0.size hb6; have q1 := Cs.keep q0 hb6; obtain ⟨va, vn, vv, rfl⟩ := own_form ho6; have O6 := Lib.hid ho6; clear ho6 hb6)
                    | (go_at_call 35; (with_reducible refine (HPC2.out w6 k1).mono ?_); rintro e w7 ⟨⟨v7, rfl, ho7⟩, hb7⟩
                       have k2 := Below.thru k1 k1.size hb7; have q2 := Cs.keep q1 hb7; obtain ⟨va7, vn7, vv7, rfl⟩ := own_form ho7; have O7 := Lib.hid (ho7.base (b2 := wc.heap.size) k1.size)
                       have O6' := Lib.hid (Own.base (l := sl1) (b2 := wc.heap.size) (own_of O6.out (fun g cap hv ⟨cur, hg⟩ => hb7.block g (Array.getElem?_eq_some_iff.1 hg).1)) (Nat.le_refl _))
                       have K7 := Lib.hid k2; have q5 := HBS.out _ (HWC.out _ k2); have zc0 := q5.2.2.2.1.cell (i := 0) rfl; have zcf0 := q5.2.2.2.1.frozen 0; have zc1 := q5.2.2.2.1.cell (i := 1) rfl; have zcf1 := q5.2.2.2.1.frozen 1; have zc2 := q5.2.2.2.1.cell (i := 2) rfl; have zcf2 := q5.2.2.2.1.frozen 2; have zc3 := q5.2.2.2.1.cell (i := 3) rfl; have zcf3 := q5.2.2.2.1.frozen 3; have zc4 := q5.2.2.2.1.cell (i := 4) rfl; have zcf4 := q5.2.2.2.1.frozen 4; have zc5 := q5.2.2.2.1.cell (i := 5) rfl; have zcf5 := q5.2.2.2.1.frozen 5; have yc0 := q5.2.2.2.2.cell (i := 0) rfl; have ycf0 := q5.2.2.2.2.frozen 0; have yc1 := q5.2.2.2.2.cell (i := 1) rfl; have ycf1 := q5.2.2.2.2.frozen 1; have yc2 := q5.2.2.2.2.cell (i := 2) rfl; have ycf2 := q5.2.2.2.2.frozen 2; have yc3 := q5.2.2.2.2.cell (i := 3) rfl; have ycf3 := q5.2.2.2.2.frozen 3; have yc4 := q5.2.2.2.2.cell (i := 4) rfl; have ycf4 := q5.2.2.2.2.frozen 4; have yc5 := q5.2.2.2.2.cell (i := 5) rfl; have ycf5 := q5.2.2.2.2.frozen 5; have q3 := Cs.far6 (T := w.heap.size + 1 + 1 + 1) q2 (by omega) (.string (nm ++ ⟨#[97]⟩)) (.slice va vn vv) (.int .i64 dp) (.int .i64 dn) (.int .i64 gx) (.int .i64 gz); have q4 := Cs.far6 (T := w.heap.size + 1 + 1 + 1 + 1) q3 (by omega) (.string (nm ++ ⟨#[98]⟩)) (.slice va7 vn7 vv7) (.int .i64 dp) (.int .i64 dn) (.int .i64 gx) (.int .i64 gz); clear ho7 hb7 q5))
                go_wp2
                refine bodyPost_ret (v := .tuple #[.agg (c6 (nm ++ ⟨#[97]⟩) (.slice va vn vv) dp dn gx gz), .agg (c6 (nm ++ ⟨#[98]⟩) (.slice va7 vn7 vv7) dp dn gx gz), .int .i64 0]) (by simp [results, Tryz.results13, go_sem, zc0, zc1, zc2, zc3, zc4, zc5, yc0, yc1, yc2, yc3, yc4, yc5]) rfl (HOK.out _ _ _ HE0.out ?_ ?_ ?_)
                · exact ((O6'.out.far6 (by omega) _ _ _ _ _ _).far6 (by omega) _ _ _ _ _ _).base (by omega)
                · exact ((O7.out.far6 (by omega) _ _ _ _ _ _).far6 (by omega) _ _ _ _ _ _).base (by omega)
                · exact below6 (below6 (HWK.out _ (HWC.out _ K7.out)) (by omega) _ _ _ _ _ _) (by omega) _ _ _ _ _ _
  · have HV := Lib.hid hv
    have q2 := HBS.out _ K1.out
    have zc0 := q2.2.2.2.1.cell (i := 0) rfl; have zcf0 := q2.2.2.2.1.frozen 0; have zc1 := q2.2.2.2.1.cell (i := 1) rfl; have zcf1 := q2.2.2.2.1.frozen 1; have zc2 := q2.2.2.2.1.cell (i := 2) rfl; have zcf2 := q2.2.2.2.1.frozen 2; have zc3 := q2.2.2.2.1.cell (i := 3) rfl; have zcf3 := q2.2.2.2.1.frozen 3; have zc4 := q2.2.2.2.1.cell (i := 4) rfl; have zcf4 := q2.2.2.2.1.frozen 4; have zc5 := q2.2.2.2.1.cell (i := 5) rfl; have zcf5 := q2.2.2.2.1.frozen 5; have yc0 := q2.2.2.2.2.cell (i := 0) rfl; have ycf0 := q2.2.2.2.2.frozen 0; have yc1 := q2.2.2.2.2.cell (i := 1) rfl; have ycf1 := q2.2.2.2.2.frozen 1; have yc2 := q2.2.2.2.2.cell (i := 2) rfl; have ycf2 := q2.2.2.2.2.frozen 2; have yc3 := q2.2.2.2.2.cell (i := 3) rfl; have ycf3 := q2.2.2.2.2.frozen 3; have yc4 := q2.2.2.2.2.cell (i := 4) rfl; have ycf4 := q2.2.2.2.2.frozen 4; have yc5 := q2.2.2.2.2.cell (i := 5) rfl; have ycf5 := q2.2.2.2.2.frozen 5
    have hl := HLW.out _ K1.out
    clear hv q2
    go_wp2
    refine bodyPost_ret (v := .tuple #[zst, zst, .int .i64 2]) (by simp [results, Tryz.results13, go_sem, zst, zc0, zc1, zc2, zc3, zc4, zc5, yc0, yc1, yc2, yc3, yc4, yc5]) rfl (HER.out _ 2 (by decide) ((HSE.out 2).2 (.inl ⟨HV.out, rfl⟩)) (below6 (below6 (HWK.out _ K1.out) (by omega) _ _ _ _ _ _) (by omega) _ _ _ _ _ _))
end Go.Proofs.YtljmhejljpfaiaaGreat

import Derived.Test.YtljmhejljpfaiaaId
import Derived.Test.YtljmhejljpfaiaaIc
namespace Go.Proofs.Ytljmhejljpfaiaa
set_option maxRecDepth 100000
open Go.RowKit Go.Shelf
attribute [local go_sem] Oper.semAt_some

/-! the program's Sure -/
/-- the least so far, 0 where there is none yet -/
def lev (f : Pt → Int) (L : List Pt) : Int := if L = [] then 0 else sur f L L.length
theorem sur_app (f : Pt → Int) (L : List Pt) (q : Pt) : ∀ k, k ≤ L.length → sur f (L ++ [q]) k = sur f L k
  | 0, _ => rfl
  | k + 1, hk => by
    have e : (L ++ [q]).getD k (0, 0) = L.getD k (0, 0) := by
      simp only [List.getD_eq_getElem?_getD]
      rw [List.getElem?_append_left (by omega)]
    unfold sur px pz
    rw [sur_app f L q k (by omega), e]
theorem sur_nn {f : Pt → Int} {L : List Pt} (hf : ∀ p, 0 ≤ f p) : ∀ k, 0 < k → 0 ≤ sur f L k
  | k + 1, _ => by
    unfold sur
    split
    · exact hf _
    · rename_i h
      have : ¬ sur f L k < 0 := fun q => h (.inl q)
      omega
theorem lev_snoc {f : Pt → Int} (hf : ∀ p, 0 ≤ f p) (L : List Pt) (q : Pt) : lev f (L ++ [q]) = if L = [] ∨ f q < lev f L then f q else lev f L := by
  have e : px (L ++ [q]) L.length = q.1 ∧ pz (L ++ [q]) L.length = q.2 := by unfold px pz; simp
  have h : lev f (L ++ [q]) = sur f (L ++ [q]) (L.length + 1) := by
    unfold lev
    rw [if_neg (by simp)]
    simp
  rw [h]
  show (if sur f (L ++ [q]) L.length < 0 ∨ f (px (L ++ [q]) L.length, pz (L ++ [q]) L.length) < sur f (L ++ [q]) L.length then f (px (L ++ [q]) L.length, pz (L ++ [q]) L.length) else sur f (L ++ [q]) L.length) = _
  rw [sur_app f L q _ (Nat.le_refl _), e.1, e.2]
  cases L with
  | nil => rfl
  | cons a L =>
    have hn := sur_nn (L := a :: L) hf (a :: L).length (by simp)
    have e2 : lev f (a :: L) = sur f (a :: L) (a :: L).length := by unfold lev; rw [if_neg (by simp)]
    rw [e2]
    by_cases hq : f q < sur f (a :: L) (a :: L).length
    · rw [if_pos (.inr hq), if_pos (.inr hq)]
    · rw [if_neg (fun h => h.elim (fun h => by omega) hq), if_neg (fun h => h.elim (fun h => by cases h) hq)]
/-- is there one? -/
def fnd (L : List Pt) : Bool := !L.isEmpty
/-- what Sure hands back -/
def PSu (s : SV) (x z t : Int) (w : World) (e : Ending) (w' : World) : Prop :=
  (∃ n er0 er : Int, e = .returned (.tuple #[.int .i64 n, .int .i64 er]) ∧ BlowE s x z t er0 ∧ ((er0 ≠ 0 ∧ er = er0 ∧ n = 0) ∨ (er0 = 0 ∧ outc s.l s.gx s.gz (x, z) t = [] ∧ er = 8 ∧ n = 0) ∨
    (er0 = 0 ∧ outc s.l s.gx s.gz (x, z) t ≠ [] ∧ er = 0 ∧ n = sur (grP s.l (x, z)) (outc s.l s.gx s.gz (x, z) t) (outc s.l s.gx s.gz (x, z) t).length))) ∧ Below w.heap.size w w'
/-- what the loop of Sure holds -/
structure SI (T9 T10 T11 T12 Tp b o c : Nat) (l : List Pt) (x z : Int) (f : Pt → Int) (L : List Pt) (S : Nat) (w : World) (n0 : Nat) (X : World) : Prop where
  b9 : Blk T9 #[.int .i64 (lev f L)] 2 X
  b10 : Blk T10 #[.bool (fnd L)] 4 X
  b11 : Blk T11 #[.slice (some ⟨b, o, none⟩) l.length c] 85 X
  b12 : Blk T12 #[.int .i64 (tw l)] 2 X
  pp : P2 Tp x z X
  row : Row X b o l
  bl : Below S w X
  sz : n0 ≤ X.heap.size
theorem SI.below {T9 T10 T11 T12 Tp b o c : Nat} {l : List Pt} {x z : Int} {f : Pt → Int} {L : List Pt} {S : Nat} {w : World} {n0 : Nat} {X C : World} (h : SI T9 T10 T11 T12 Tp b o c l x z f L S w n0 X) (k : Below X.heap.size X C) (hS : S ≤ X.heap.size) : SI T9 T10 T11 T12 Tp b o c l x z f L S w n0 C :=
  ⟨h.b9.below k, h.b10.below k, h.b11.below k, h.b12.below k, h.pp.below k, h.row.keep k, Below.thru h.bl hS k, Nat.le_trans h.sz k.size⟩
theorem SI.ch {T9 T10 T11 T12 Tp b o c : Nat} {l : List Pt} {x z : Int} {f : Pt → Int} {L : List Pt} {S : Nat} {w : World} {n0 : Nat} {X C : World} {B : Nat} {Bs : List Nat} (h : SI T9 T10 T11 T12 Tp b o c l x z f L S w n0 X) (k : Ch B Bs X C) (h9 : T9 < B) (h10 : T10 < B) (h11 : T11 < B) (h12 : T12 < B) (hp : Tp < B) (hb : b < B) (hS : S ≤ B) (hw : S ≤ w.heap.size) : SI T9 T10 T11 T12 Tp b o c l x z f L S w n0 C :=
  ⟨h.b9.ch k h9, h.b10.ch k h10, h.b11.ch k h11, h.b12.ch k h12, h.pp.ch k hp, h.row.ch k hb, below_ch h.bl k hS hw, Nat.le_trans h.sz k.size⟩
theorem P2.far1 {T C i : Nat} {x z : Int} {W : World} (v : Value) (h : P2 T x z W) (hn : T ≠ C) : P2 T x z (W.setCell ⟨C, i, none⟩ v) := (Below.heap_setCell _ _ _ _ hn).trans h
theorem Row.far1 {b o C i : Nat} {l : List Pt} {W : World} (v : Value) (h : Row W b o l) (hn : b ≠ C) : Row (W.setCell ⟨C, i, none⟩ v) b o l := fun j hj =>
  ⟨(cell_same (a := ⟨b, _, none⟩) (Below.heap_setCell _ _ _ _ hn)).trans (h j hj).1, (cell_same (a := ⟨b, _, none⟩) (Below.heap_setCell _ _ _ _ hn)).trans (h j hj).2⟩
set_option maxHeartbeats 16000000 in
theorem sure_any (s : SV) (v : Value) (x z t : Int) (w : World) (hn : s.nm.size ≤ maxLen) (h : Pts w v s.l) :
    Calls Try.prog 38 #[stv s v, .agg #[.int .i64 x, .int .i64 z], .int .i64 t] w (PSu s x z t w) := by
  obtain ⟨p, c, hv⟩ : ∃ p c, v = .slice p s.l.length c := ⟨_, _, h.2.choose_spec.choose_spec.1⟩
  subst hv
  have HC := Lib.hid (fun W (k : Below w.heap.size w W) => checkBlow_any s (.slice p s.l.length c) x z t W hn (h.keep k))
  have HPT := Lib.hid h
  obtain ⟨nm, l, dp, dn, gx, gz⟩ := s
  have HE : Hid (∀ W er, er ≠ 0 → BlowE ⟨nm, l, dp, dn, gx, gz⟩ x z t er → Below w.heap.size w W → PSu ⟨nm, l, dp, dn, gx, gz⟩ x z t w (.returned (.tuple #[.int .i64 0, .int .i64 er])) W) := fun W er h0 hb k => ⟨⟨0, er, er, rfl, hb, .inl ⟨h0, rfl, rfl⟩⟩, k⟩
  have HF : Hid (∀ W, BlowE ⟨nm, l, dp, dn, gx, gz⟩ x z t 0 → outc l gx gz (x, z) t = [] → Below w.heap.size w W → PSu ⟨nm, l, dp, dn, gx, gz⟩ x z t w (.returned (.tuple #[.int .i64 0, .int .i64 8])) W) := fun W hb ho k => ⟨⟨0, 0, 8, rfl, hb, .inr (.inl ⟨rfl, ho, rfl, rfl⟩)⟩, k⟩
  have HG : Hid (∀ W, BlowE ⟨nm, l, dp, dn, gx, gz⟩ x z t 0 → outc l gx gz (x, z) t ≠ [] → Below w.heap.size w W → PSu ⟨nm, l, dp, dn, gx, gz⟩ x z t w (.returned (.tuple #[.int .i64 (lev (grP l (x, z)) (outc l gx gz (x, z) t)), .int .i64 0])) W) := fun W hb ho k => ⟨⟨_, 0, 0, rfl, hb, .inr (.inr ⟨rfl, ho, rfl, by unfold lev; rw [if_neg ho]⟩)⟩, k⟩
  unfold stv at *
  dsimp only at *
  clear h hn
  have s0 := (StB.new w nm (.slice p l.length c) dp dn gx gz 34).keep (bl1 _ (.cells #[.int .i64 x, .int .i64 z] 32))
  have s1 : P2 (w.heap.size + 1) x z ((w.alloc (.cells #[.string nm, .slice p l.length c, .int .i64 dp, .int .i64 dn, .int .i64 gx, .int .i64 gz] 34)).alloc (.cells #[.int .i64 x, .int .i64 z] 32)) := by
    have := P2.new (w.alloc (.cells #[.string nm, .slice p l.length c, .int .i64 dp, .int .i64 dn, .int .i64 gx, .int .i64 gz] 34)) x z
    rw [World.size_alloc] at this
    exact this
  have k0 := bl2 w (.cells #[.string nm, .slice p l.length c, .int .i64 dp, .int .i64 dn, .int .i64 gx, .int .i64 gz] 34) (.cells #[.int .i64 x, .int .i64 z] 32)
  have hz0' : ((w.alloc (.cells #[.string nm, .slice p l.length c, .int .i64 dp, .int .i64 dn, .int .i64 gx, .int .i64 gz] 34)).alloc (.cells #[.int .i64 x, .int .i64 z] 32)).heap.size = w.heap.size + 2 := by simp
  refine (callsIn_wide (n := 4)).1 ?_
  refine callsIn_of_wp_marks Try.func38 rfl trivial ?_ rfl
  simp only [Try.ntmps38, List.size_toArray, List.length_cons, List.length_nil, Nat.reduceAdd, Nat.reduceSub, Array.replicate_succ, Array.replicate_zero, List.push_toArray, List.append_toArray, List.nil_append, List.cons_append]
  gi_wp2_with fail
  refine ⟨trivial, ?_⟩
  refine (callsIn_wide.2 (HC.out _ k0)).mono ?_
  rintro e w1 ⟨⟨er, rfl, hx⟩, hb1⟩
  have k1 := Below.thru k0 k0.size hb1
  have hz1' := hb1.size
  replace s0 := s0.keep hb1
  replace s1 := s1.below hb1
  clear hb1 k0
  have HX := Lib.hid hx
  have K1 := Lib.hid k1
  have hsz1 : w.heap.size + 2 ≤ w1.heap.size := by omega
  clear hz1' hz0' k1
  by_cases he : er = 0
  · subst he
    obtain ⟨⟨hvld, hisp⟩, ht⟩ : (Vld ⟨nm, l, dp, dn, gx, gz⟩ ∧ IsP l x z) ∧ (0 ≤ t ∧ t ≤ 100) := by
      rcases hx with ⟨_, h⟩ | ⟨_, _, h⟩ | ⟨_, _, h⟩ | ⟨h, h', _⟩
      · cases h
      · cases h
      · cases h
      · exact ⟨h, h'⟩
    have h3 := hvld.2.1.1
    have hbx := hvld.2.1.2.1
    have hap := hvld.2.1.apart
    have hgr := hvld.2.2
    have htr := hvld.2.1.tr
    obtain ⟨b, o, c', hpe, hrow⟩ := (HPT.out.keep K1.out).some (show 0 < l.length by have : 3 ≤ l.length := h3.1; omega)
    cases hpe
    have hpb := hisp.bd hbx
    have HV := Lib.hid (And.intro hbx (And.intro hap (And.intro hgr (And.intro hpb ht))))
    have HTR := Lib.hid (And.intro htr (And.intro h3 hisp))
    have h3' : 0 < l.length := by have : 3 ≤ l.length := h3.1; omega
    have h12' : l.length ≤ 12 := h3.2
    have HR := Lib.hid hrow
    have hbl := hrow.lt h3'
    have HTW := Lib.hid (fun W g o c (L : List Pt) (hr : Row W g o L) (h3 : 0 < L.length) (h12 : L.length ≤ 1000) (hx : Bx L) => twice_any g o c L W hr h3 h12 hx)
    have htb := tw_bd hbx (by omega : l.length ≤ 1000)
    have hb9 := bl2 w1 (.cells #[.int .i64 0] 2) (.cells #[.bool false] 4)
    obtain ⟨_, _, _, _, _, _⟩ := s0.keep hb9
    have hbA := bl3 w1 (.cells #[.int .i64 0] 2) (.cells #[.bool false] 4) (.cells #[.slice (some ⟨b, o, none⟩) l.length c] 85)
    have HS0 := Lib.hid (And.intro (s0.keep hbA) (And.intro (s1.below hbA) (HR.out.keep hbA)))
    have HBA := Lib.hid hbA
    clear hx hvld hisp ht h3 hbx hap hgr hpb hrow hb9 s0 s1 htr hbA
    gi_wp2_with fail
    refine ⟨trivial, ?_⟩
    refine (callsIn_wide.2 (HTW.out _ b o c l HS0.out.2.2 h3' (by omega) HV.out.1)).mono ?_
    rintro e w3 ⟨rfl, hb3⟩
    have hT9 : Blk w1.heap.size #[.int .i64 0] 2 w3 := (((Blk.new w1 #[.int .i64 0] 2).alloc _).alloc _).below hb3
    have hT10 : Blk (w1.heap.size + 1) #[.bool false] 4 w3 := by
      have := Blk.new (w1.alloc (.cells #[.int .i64 0] 2)) #[.bool false] 4
      rw [World.size_alloc] at this
      exact (this.alloc _).below hb3
    have hT11 : Blk (w1.heap.size + 1 + 1) #[.slice (some ⟨b, o, none⟩) l.length c] 85 w3 := by
      have := Blk.new ((w1.alloc (.cells #[.int .i64 0] 2)).alloc (.cells #[.bool false] 4)) #[.slice (some ⟨b, o, none⟩) l.length c] 85
      simp only [World.size_alloc] at this
      exact this.below hb3
    have hz3 : w1.heap.size + 3 ≤ w3.heap.size := by have := hb3.size; simp at this; omega
    have HS3 := Lib.hid (And.intro (HS0.out.1.keep hb3) (And.intro (HS0.out.2.1.below hb3) (HS0.out.2.2.keep hb3)))
    have K3 := Lib.hid (Below.thru K1.out K1.out.size (Below.thru HBA.out HBA.out.size hb3))
    clear hb3
    have hb4 := bl1 w3 (.cells #[.int .i64 (tw l)] 2)
    obtain ⟨_, _, _, _, _, _⟩ := HS3.out.1.keep hb4
    obtain ⟨d0, d1⟩ := (HS3.out.2.1.below hb4).cells
    clear hb4
    gi_wp2_with fail
    refine ⟨trivial, ?_⟩
    refine (callsIn_wide.2 (outcomesv_any _ _ _ _ _ _ _ _ _ _ _ _)).mono ?_
    rintro e w' ⟨rfl, rfl⟩
    gi_wp2
    have hB1 : Below w3.heap.size w3 ((((w3.alloc (.cells #[.int .i64 (tw l)] 2)).alloc (.cells #[.string nm, .slice (some ⟨b, o, none⟩) l.length c, .int .i64 dp, .int .i64 dn, .int .i64 gx, .int .i64 gz] 34)).alloc (.cells #[.int .i64 x, .int .i64 z] 32)).alloc (.cells #[.int .i64 t] 3)) := (bl3 w3 _ _ _).alloc (by simp; omega) _
    have hsz : ((((w3.alloc (.cells #[.int .i64 (tw l)] 2)).alloc (.cells #[.string nm, .slice (some ⟨b, o, none⟩) l.length c, .int .i64 dp, .int .i64 dn, .int .i64 gx, .int .i64 gz] 34)).alloc (.cells #[.int .i64 x, .int .i64 z] 32)).alloc (.cells #[.int .i64 t] 3)).heap.size = w3.heap.size + 4 := by simp
    have hT12 : Blk w3.heap.size #[.int .i64 (tw l)] 2 ((((w3.alloc (.cells #[.int .i64 (tw l)] 2)).alloc (.cells #[.string nm, .slice (some ⟨b, o, none⟩) l.length c, .int .i64 dp, .int .i64 dn, .int .i64 gx, .int .i64 gz] 34)).alloc (.cells #[.int .i64 x, .int .i64 z] 32)).alloc (.cells #[.int .i64 t] 3)) := (((Blk.new w3 _ 2).alloc _).alloc _).alloc _
    have hSt : Blk (w3.heap.size + 1) #[.string nm, .slice (some ⟨b, o, none⟩) l.length c, .int .i64 dp, .int .i64 dn, .int .i64 gx, .int .i64 gz] 34 ((((w3.alloc (.cells #[.int .i64 (tw l)] 2)).alloc (.cells #[.string nm, .slice (some ⟨b, o, none⟩) l.length c, .int .i64 dp, .int .i64 dn, .int .i64 gx, .int .i64 gz] 34)).alloc (.cells #[.int .i64 x, .int .i64 z] 32)).alloc (.cells #[.int .i64 t] 3)) := by
      have := Blk.new (w3.alloc (.cells #[.int .i64 (tw l)] 2)) #[.string nm, .slice (some ⟨b, o, none⟩) l.length c, .int .i64 dp, .int .i64 dn, .int .i64 gx, .int .i64 gz] 34
      rw [World.size_alloc] at this
      exact (this.alloc _).alloc _
    have hPp : P2 (w3.heap.size + 1 + 1) x z ((((w3.alloc (.cells #[.int .i64 (tw l)] 2)).alloc (.cells #[.string nm, .slice (some ⟨b, o, none⟩) l.length c, .int .i64 dp, .int .i64 dn, .int .i64 gx, .int .i64 gz] 34)).alloc (.cells #[.int .i64 x, .int .i64 z] 32)).alloc (.cells #[.int .i64 t] 3)) := by
      have := P2.new ((w3.alloc (.cells #[.int .i64 (tw l)] 2)).alloc (.cells #[.string nm, .slice (some ⟨b, o, none⟩) l.length c, .int .i64 dp, .int .i64 dn, .int .i64 gx, .int .i64 gz] 34)) x z
      simp only [World.size_alloc] at this
      exact this.alloc _
    have hTt : Blk (w3.heap.size + 1 + 1 + 1) #[.int .i64 t] 3 ((((w3.alloc (.cells #[.int .i64 (tw l)] 2)).alloc (.cells #[.string nm, .slice (some ⟨b, o, none⟩) l.length c, .int .i64 dp, .int .i64 dn, .int .i64 gx, .int .i64 gz] 34)).alloc (.cells #[.int .i64 x, .int .i64 z] 32)).alloc (.cells #[.int .i64 t] 3)) := by
      have := Blk.new (((w3.alloc (.cells #[.int .i64 (tw l)] 2)).alloc (.cells #[.string nm, .slice (some ⟨b, o, none⟩) l.length c, .int .i64 dp, .int .i64 dn, .int .i64 gx, .int .i64 gz] 34)).alloc (.cells #[.int .i64 x, .int .i64 z] 32)) #[.int .i64 t] 3
      simp only [World.size_alloc] at this
      exact this
    generalize ((((w3.alloc (.cells #[.int .i64 (tw l)] 2)).alloc (.cells #[.string nm, .slice (some ⟨b, o, none⟩) l.length c, .int .i64 dp, .int .i64 dn, .int .i64 gx, .int .i64 gz] 34)).alloc (.cells #[.int .i64 x, .int .i64 z] 32)).alloc (.cells #[.int .i64 t] 3)) = w0 at *
    have hT9' := hT9.below hB1
    have hT10' := hT10.below hB1
    have hno : ∀ k, ¬ ow [w1.heap.size, w1.heap.size + 1] w0 k := fun k => by
      rintro ⟨⟨B, n, c', hB, hq⟩, _⟩
      simp only [List.mem_cons, List.not_mem_nil, or_false] at hB
      rcases hB with rfl | rfl
      · rw [hT9'.cell (i := 0) rfl] at hq; cases hq
      · rw [hT10'.cell (i := 0) rfl] at hq; cases hq
    have hsane : Sane [w1.heap.size, w1.heap.size + 1] w0 := fun B hB => by
      simp only [List.mem_cons, List.not_mem_nil, or_false] at hB
      rcases hB with rfl | rfl
      · exact ⟨by omega, fun k n c' hq => by rw [hT9'.cell (i := 0) rfl] at hq; cases hq⟩
      · exact ⟨by omega, fun k n c' hq => by rw [hT10'.cell (i := 0) rfl] at hq; cases hq⟩
    have hBw : Below w.heap.size w w0 := Below.thru K3.out K3.out.size hB1
    have hF : ∀ p, 0 ≤ grP l (x, z) p := fun p => grP_nn HTR.out.1 (x, z) p
    have HFN := Lib.hid hF
    refine rangeX [w1.heap.size, w1.heap.size + 1] (gf := 107) (lb := #[.pointer (some ⟨w3.heap.size + 1, 0, none⟩), .pointer (some ⟨w3.heap.size + 1 + 1, 0, none⟩), .pointer (some ⟨w3.heap.size + 1 + 1 + 1, 0, none⟩)]) rfl (enters_of Try.func107 (by kernel_rfl) rfl)
      (outcomesR_seq (w3.heap.size + 1) (w3.heap.size + 1 + 1) (w3.heap.size + 1 + 1 + 1) b o c nm l dp dn gx gz (x, z) t w0 h3' (by omega) HV.out.1 HV.out.2.1 HTR.out.1 HTR.out.2.1.1 HV.out.2.2.1.2.2.2.1 HV.out.2.2.1.2.2.2.2 HV.out.2.2.2.1 (by have := HV.out.2.2.2.2; omega) hSt hPp hTt (HS3.out.2.2.keep hB1)) (Below.refl _ _) (fun _ => rfl) hsane
      (fun k hk => ⟨by omega, by simp; omega, hno k⟩)
      (fun pre X => SI w1.heap.size (w1.heap.size + 1) (w1.heap.size + 1 + 1) w3.heap.size (w.heap.size + 1) b o c l x z (grP l (x, z)) (valsR pre) w.heap.size w w0.heap.size X) (fun _ _ _ => False)
      (fun s A C h hq => h.ch hq (by omega) (by omega) (by omega) (by omega) (by omega) (by omega) (by omega) (Nat.le_refl _)) (fun _ _ _ _ h _ => h)
      ⟨hT9', hT10', hT11.below hB1, hT12, HS3.out.2.1.below hB1, HS3.out.2.2.keep hB1, hBw, Nat.le_refl _⟩
      (fun q a' X => ∃ T13, P2 T13 q.1.1 q.1.2 X ∧ a' = { tmps := #[.agg #[.string nm, .slice (some ⟨b, o, none⟩) l.length c, .int .i64 dp, .int .i64 dn, .int .i64 gx, .int .i64 gz], .agg #[.int .i64 x, .int .i64 z], .int .i64 t, .pointer (some ⟨w.heap.size, 0, none⟩), .pointer (some ⟨w.heap.size + 1, 0, none⟩), undef, .int .i64 0, .int .i64 0, .int .i64 0, .pointer (some ⟨w1.heap.size, 0, none⟩), .pointer (some ⟨w1.heap.size + 1, 0, none⟩), .pointer (some ⟨w1.heap.size + 1 + 1, 0, none⟩), .pointer (some ⟨w3.heap.size, 0, none⟩), .pointer (some ⟨T13, 0, none⟩), undef, undef,
        .agg #[.string nm, .slice (some ⟨b, o, none⟩) l.length c, .int .i64 dp, .int .i64 dn, .int .i64 gx, .int .i64 gz], .agg #[.int .i64 x, .int .i64 z], .int .i64 t, .int .i64 0, .int .i64 0, .bool false, undef, .pointer (some ⟨w.heap.size, 1, none⟩), .slice (some ⟨b, o, none⟩) l.length c, .slice (some ⟨b, o, none⟩) l.length c, .int .i64 (tw l), .agg #[.string nm, .slice (some ⟨b, o, none⟩) l.length c, .int .i64 dp, .int .i64 dn, .int .i64 gx, .int .i64 gz], .agg #[.int .i64 x, .int .i64 z], .int .i64 t, .func (.func 107) #[] #[.pointer (some ⟨w3.heap.size + 1, 0, none⟩), .pointer (some ⟨w3.heap.size + 1 + 1, 0, none⟩), .pointer (some ⟨w3.heap.size + 1 + 1 + 1, 0, none⟩)], .agg #[.int .i64 q.1.1, .int .i64 q.1.2], undef, undef, undef, undef, undef, undef, undef, undef, undef, undef, undef, undef, undef, undef, undef, undef, undef, undef, undef, undef, undef], defers := [] })
      (fun q a' X k q0 q' hl ho ho' ⟨T3, h, e⟩ => ⟨T3, h.putObj q' hl ho, e⟩) ?assign ?body ?done ?stop
    case assign =>
      rintro lr' pre q X K hI hsX hK
      unfold encR
      gi_wp2
      have hb1 := bl1 X (.cells #[.int .i64 q.1.1, .int .i64 q.1.2] 32)
      exact hK _ _ (KO.of_below hb1 hsX) (hI.below hb1 (by have := hI.sz; omega)) ⟨X.heap.size, P2.new X _ _, rfl⟩
    case body =>
      rintro lr' pre ⟨⟨xa, xz⟩, hq⟩ a' X hI hsX ⟨T13, hp, rfl⟩ hlt
      dsimp only at hp hq ⊢
      have HI0 := Lib.hid (And.intro hI hsX)
      obtain ⟨p0, p1⟩ := hp.cells
      have c11 := hI.b11.cell (i := 0) rfl
      obtain ⟨d0, d1⟩ := hI.pp.cells
      have hszX : w0.heap.size ≤ X.heap.size := hI.sz
      have HPART := Lib.hid (fun V (k : Below X.heap.size X V) => part_any b o c l x z xa xz V (hI.row.keep k) h3' (by omega) HV.out.1 HTR.out.2.2 hq)
      have hlp := partL_len l (x, z) (xa, xz) (eo_isp HTR.out.2.2) (eo_isp hq)
      have hl2 := partL_two l (x, z) (xa, xz)
      have HBP := Lib.hid (partL_bx (p := (x, z)) (q := (xa, xz)) HV.out.1 h3' (HTR.out.2.2.bd HV.out.1) (hq.bd HV.out.1))
      have htp := tw_bd HBP.out (by omega)
      have HGP : Hid (grP l (x, z) (xa, xz) = max (tw (partL l (x, z) (xa, xz))) (tw l - tw (partL l (x, z) (xa, xz)))) := rfl
      have HLS := Lib.hid (lev_snoc HFN.out (valsR pre) (xa, xz))
      have HVS : Hid (valsR (pre ++ [(⟨(xa, xz), hq⟩ : Bq9 l)]) = valsR pre ++ [(xa, xz)]) := valsR_snoc _ _
      clear hI hsX hp
      gi_wp2_with fail
      refine ⟨trivial, (by first | rfl | (intro h; cases h)), ?_⟩
      refine (CallsIn.inRound _ (callsIn_wide.2 (HPART.out _ (Below.refl _ _)))).mono ?_
      rintro e w2 ⟨⟨v2, rfl, ho⟩, hb2⟩
      obtain ⟨g2, c2, rfl, hr2⟩ := ho.some (by omega)
      have K2 := Lib.hid hb2
      have HR2 := Lib.hid hr2
      clear ho hb2 hr2 p0 p1 c11 d0 d1
      gi_wp2_with fail
      refine ⟨trivial, (by first | rfl | (intro h; cases h)), ?_⟩
      refine (CallsIn.inRound _ (callsIn_wide.2 (HTW.out _ g2 0 c2 _ HR2.out (by omega) (by omega) HBP.out))).mono ?_
      rintro e w4 ⟨rfl, hb4⟩
      have K4 := Lib.hid (Below.thru K2.out K2.out.size hb4)
      have hI4 := HI0.out.1.below K4.out (by omega)
      have c12 := hI4.b12.cell (i := 0) rfl
      have c9 := hI4.b9.cell (i := 0) rfl
      have f9 := hI4.b9.frozen 0
      have c10 := hI4.b10.cell (i := 0) rfl
      have f10 := hI4.b10.frozen 0
      have HI4 := Lib.hid hI4
      have HKO := Lib.hid (KO.of_below (B := w0.heap.size) K4.out HI0.out.2)
      have HEND1 : Hid (∀ gq : Int, lev (grP l (x, z)) (valsR pre ++ [(xa, xz)]) = gq → KO w0.heap.size [w1.heap.size, w1.heap.size + 1] X ((w4.setCell ⟨w1.heap.size, 0, none⟩ (.int .i64 gq)).setCell ⟨w1.heap.size + 1, 0, none⟩ (.bool true)) ∧
          SI w1.heap.size (w1.heap.size + 1) (w1.heap.size + 1 + 1) w3.heap.size (w.heap.size + 1) b o c l x z (grP l (x, z)) (valsR (pre ++ [(⟨(xa, xz), hq⟩ : Bq9 l)])) w.heap.size w w0.heap.size ((w4.setCell ⟨w1.heap.size, 0, none⟩ (.int .i64 gq)).setCell ⟨w1.heap.size + 1, 0, none⟩ (.bool true))) := fun gq hgq => by
        have h10 := HI4.out.b10.far (i := 0) (.int .i64 gq) (show w1.heap.size + 1 ≠ w1.heap.size by omega)
        refine ⟨HKO.out.trans ((KO.set (by simp) (by omega) (HI4.out.b9.cell (i := 0) rfl) (fun a n c h => by cases h)).trans (KO.set (by simp) (by omega) (h10.cell (i := 0) rfl) (fun a n c h => by cases h))), ?_⟩
        have hsz4 := HI4.out.sz
        refine ⟨?_, ?_, (HI4.out.b11.far _ (by omega)).far _ (by omega), (HI4.out.b12.far _ (by omega)).far _ (by omega), (HI4.out.pp.far1 _ (by omega)).far1 _ (by omega), (HI4.out.row.far1 _ (by omega)).far1 _ (by omega), (HI4.out.bl.setCell (show w.heap.size ≤ w1.heap.size by omega) _).setCell (show w.heap.size ≤ w1.heap.size + 1 by omega) _, by simp; exact hsz4⟩
        · have h := ((HI4.out.b9).set (i := 0) (.int .i64 gq)).far (i := 0) (.bool true) (show w1.heap.size ≠ w1.heap.size + 1 by omega)
          rw [HVS.out, hgq]
          exact h
        · have h := h10.set (i := 0) (.bool true)
          have e : fnd (valsR (pre ++ [(⟨(xa, xz), hq⟩ : Bq9 l)])) = true := by rw [HVS.out]; unfold fnd; simp
          rw [e]
          exact h
      have HEND2 : Hid (valsR pre ≠ [] → lev (grP l (x, z)) (valsR pre ++ [(xa, xz)]) = lev (grP l (x, z)) (valsR pre) → KO w0.heap.size [w1.heap.size, w1.heap.size + 1] X w4 ∧
          SI w1.heap.size (w1.heap.size + 1) (w1.heap.size + 1 + 1) w3.heap.size (w.heap.size + 1) b o c l x z (grP l (x, z)) (valsR (pre ++ [(⟨(xa, xz), hq⟩ : Bq9 l)])) w.heap.size w w0.heap.size w4) := fun hne hgq => by
        refine ⟨HKO.out, ?_, ?_, HI4.out.b11, HI4.out.b12, HI4.out.pp, HI4.out.row, HI4.out.bl, HI4.out.sz⟩
        · rw [HVS.out, hgq]
          exact HI4.out.b9
        · have e : fnd (valsR (pre ++ [(⟨(xa, xz), hq⟩ : Bq9 l)])) = fnd (valsR pre) := by
            rw [HVS.out]
            unfold fnd
            cases h : valsR pre with
            | nil => exact absurd h hne
            | cons a t => rfl
          rw [e]
          exact HI4.out.b10
      have HFE : Hid (fnd (valsR pre) = !(valsR pre).isEmpty) := rfl
      clear hI4 hb4
      generalize grP l (x, z) (xa, xz) = gq at *
      generalize lev (grP l (x, z)) (valsR pre) = lv at *
      generalize tw (partL l (x, z) (xa, xz)) = r at *
      generalize tw l = T at *
      have y1 := IntWalk.i64_in (T - r) (by omega)
      have hcs : (valsR pre = [] ∧ fnd (valsR pre) = false) ∨ (valsR pre ≠ [] ∧ fnd (valsR pre) = true) := by
        rw [HFE.out]
        cases valsR pre with
        | nil => exact .inl ⟨rfl, rfl⟩
        | cons a t => exact .inr ⟨by simp, rfl⟩
      by_cases hmx : r < T - r
      · obtain rfl : gq = T - r := by have := HGP.out; omega
        rcases hcs with ⟨hL, hf⟩ | ⟨hL, hf⟩
        · rw [hf] at c10
          have HE9 := Lib.hid (HEND1.out (T - r) (by rw [HLS.out, if_pos (.inl hL)]))
          clear hL hf
          gi_wp2
          exact HE9.out
        · rw [hf] at c10
          by_cases hlt2 : T - r < lv
          · have HE9 := Lib.hid (HEND1.out (T - r) (by rw [HLS.out, if_pos (.inr hlt2)]))
            clear hL hf
            gi_wp2
            exact HE9.out
          · have HE9 := Lib.hid (HEND2.out hL (by rw [HLS.out, if_neg (fun h => h.elim hL hlt2)]))
            clear hL hf
            gi_wp2
            exact HE9.out
      · obtain rfl : gq = r := by have := HGP.out; omega
        rcases hcs with ⟨hL, hf⟩ | ⟨hL, hf⟩
        · rw [hf] at c10
          have HE9 := Lib.hid (HEND1.out gq (by rw [HLS.out, if_pos (.inl hL)]))
          clear hL hf
          gi_wp2
          exact HE9.out
        · rw [hf] at c10
          by_cases hlt2 : gq < lv
          · have HE9 := Lib.hid (HEND1.out gq (by rw [HLS.out, if_pos (.inr hlt2)]))
            clear hL hf
            gi_wp2
            exact HE9.out
          · have HE9 := Lib.hid (HEND2.out hL (by rw [HLS.out, if_neg (fun h => h.elim hL hlt2)]))
            clear hL hf
            gi_wp2
            exact HE9.out
    case done =>
      rintro D ys X hD hS hI hK
      have c9 := hI.b9.cell (i := 0) rfl
      have c10 := hI.b10.cell (i := 0) rfl
      rw [hS] at c9 c10
      have H3 := Lib.hid (hI.bl.trans (belowK_b (w := w) (Nat.le_refl _) _ D _ (.deferred none) (by omega) hK rfl rfl))
      clear hI
      by_cases ho : outc l gx gz (x, z) t = []
      · have hf : fnd (outc l gx gz (x, z) t) = false := by rw [ho]; rfl
        rw [hf] at c10
        have HO := Lib.hid ho
        clear ho hf
        gi_wp2
        refine ⟨by simp, .inl ⟨_, _, rfl, run_takeDeferred hK, ?_⟩⟩
        exact ⟨_, by simp [results, Try.results38, go_sem], HF.out _ HX.out HO.out H3.out⟩
      · have hf : fnd (outc l gx gz (x, z) t) = true := by
          unfold fnd
          cases h : outc l gx gz (x, z) t with
          | nil => exact absurd h ho
          | cons a q => rfl
        rw [hf] at c10
        have HO := Lib.hid ho
        have HGG := Lib.hid (HG.out _ HX.out HO.out H3.out)
        clear ho hf HG HF HE
        generalize lev (grP l (x, z)) (outc l gx gz (x, z) t) = lv at *
        gi_wp2
        refine ⟨by simp, .inl ⟨_, _, rfl, run_takeDeferred hK, ?_⟩⟩
        exact ⟨_, by simp [results, Try.results38, go_sem], HGG.out⟩
    case stop =>
      rintro D cc pre X _ h _
      exact h.elim
  · clear hx
    gi_wp2
    refine ⟨_, by simp [results, Try.results38, go_sem], HE.out _ _ he HX.out K1.out⟩
end Go.Proofs.Ytljmhejljpfaiaa

import Derived.Test.YtjjomjjgoceklaaGreatTl
import Derived.Test.YtjjomjjgoceklaaGreatKca
import Derived.Test.YtjjomjjgoceklaaGreatKce
namespace Go.Proofs.YtjjomjjgoceklaaGreat
set_option maxRecDepth 100000
open Go.RowKit

/-! the reference's Of, Whole, Num, Floor, Ceil -/
theorem cf23 : CF 23 := fun W args => by go_simp
theorem cf25 : CF 25 := fun W args => by go_simp
theorem cf31 : CF 31 := fun W args => by go_simp
theorem cf35 : CF 35 := fun W args => by go_simp
theorem cf37 : CF 37 := fun W args => by go_simp
theorem rof_any (n : Int) (w : World) (hn : I64 n) : Calls Tryz.prog 23 #[.int .i64 n] w (PRA (n : Rat) w) := by
  have HN := Lib.hid hn
  clear hn
  go_enter Tryz.func23, Tryz.ntmps23
  go_wp2_with fail
  refine (zint_any n _ HN.out).mono ?_
  rintro e w1 ⟨hb1, v1, rfl, h1⟩
  have t1 : R4 w.heap.size w1 := (r4_new _ rfl).keep (hb1.mono (by simp))
  have k1 := Below.thru (bl1 w _) (by simp) hb1
  clear hb1
  go_wp2_with fail
  refine (zint_any 1 _ (by decide)).mono ?_
  rintro e w2 ⟨hb2, v2, rfl, h2⟩
  have t2 := t1.keep hb2
  have k2 := Below.thru k1 k1.size hb2
  have h1 := h1.keep hb2 (Nat.le_refl _)
  obtain ⟨s1, p1, l1, c1, rfl, h1⟩ := PRZ.box h1
  obtain ⟨s2, p2, l2, c2, rfl, h2⟩ := PRZ.box h2
  have HR : RRv w2 (.agg #[.int .i64 s1, .slice p1 l1 c1, .int .i64 s2, .slice p2 l2 c2]) n 1 := ⟨s1, p1, l1, c1, s2, p2, l2, c2, rfl, h1, h2⟩
  obtain ⟨_, _, _, _, _, _, _, _, m1, m2, m3, m4, m5, m6, m7, m8⟩ := t2.cells
  obtain ⟨n1, n2, n3, n4⟩ := four_cells m1 m2 m3 m4 (.int .i64 s1) (.slice p1 l1 c1) (.int .i64 s2) (.slice p2 l2 c2)
  have HF := Lib.hid (HR.store t2.noI (grown4r w2 w.heap.size (.int .i64 s1) (.slice p1 l1 c1) (.int .i64 s2) (.slice p2 l2 c2)))
  have KF := Lib.hid (below4r k2 (Nat.le_refl w.heap.size) (.int .i64 s1) (.slice p1 l1 c1) (.int .i64 s2) (.slice p2 l2 c2))
  clear hb2 t1 k1 t2 k2 h1 h2 HR
  unfold st4r at n1 n2 n3 n4
  go_wp2
  exact bodyPost_ret (v := .agg #[.int .i64 s1, .slice p1 l1 c1, .int .i64 s2, .slice p2 l2 c2]) (by simp [results, Tryz.results23, go_sem, n1, n2, n3, n4]) rfl ⟨KF.out, _, rfl, .of HF.out⟩
structure G25 (w0 : World) (z : Int) (w : World) : Prop where
  k : Below w0.heap.size w0 w
  a : Hr w0.heap.size z w
  t : R4 (w0.heap.size + 1) w
theorem G25.keep {w0 w w' : World} {z : Int} (h : G25 w0 z w) (hb : Below w.heap.size w w') : G25 w0 z w' := ⟨Below.thru h.k h.k.size hb, h.a.keep hb, h.t.keep hb⟩
def D25r (t : Nat) : Bool := Nat.ble 3 t && Nat.ble t 5
def tab25r (z : Int) (t : Nat) : Kd := [.r z, .r 1, krr z 1].getD (t - 3) .any
set_option maxHeartbeats 1600000 in
theorem rwhole_any (va : Value) (z : Int) (w : World) (ha : RZ w va z) : Calls Tryz.prog 25 #[va] w (PRA (z : Rat) w) := by
  obtain ⟨p, l, c, rfl⟩ := ha.agg
  have S := Lib.hid (show G25 w z ((w.alloc (.cells #[.int .i64 z.sign, .slice p l c] 41)).alloc (.cells #[.int .i64 0, .slice none 0 0, .int .i64 0, .slice none 0 0] 44)) from ⟨bl2 _ _ _, (Hr.new ha).al _, r4_new _ (by simp)⟩)
  clear ha
  go_enter Tryz.func25, Tryz.ntmps25
  go_upto_region 1 with fail
  go_cut [] (fun wx => Below w.heap.size w wx ∧ HR (w.heap.size + 1) z 1 wx)
  case first =>
    rename_i J K' hJ hK
    refine wp_region_two D25r (tab25r z) (G25 w z) 3 (fun _ _ w' => Below w.heap.size w w' ∧ HR (w.heap.size + 1) z 1 w') (by kernel_rfl) (by kernel_rfl) (by kernel_rfl) (by kernel_rfl) (by decide) (by kernel_rfl) (fun _ _ h hb => h.keep hb) (S.out.keep (Below.refl _ _).drew) ?_ ?_ ?_
    · refine .cons (fun f w' hI hs => ?_) ?_
      · obtain ⟨s, p, l, c, h1, h2⟩ := hI.a
        exact ⟨wanted_none rfl, _, rfl, .val (rn_load32 rfl (fr_old rfl rfl) h1) ⟨Below.refl _ _, h2⟩⟩
      refine .cons (fun f w' hI hs => ⟨wanted_none rfl, _, rfl, .callk rfl cf100 (PRZ.kd (zint_any 1 _ (by decide)))⟩) ?_
      refine .cons (fun f w' hI hs => ?_) .nil
      have j1 : RZ w' (f 3) z := (hs 3 (by kernel_rfl))
      have j2 : RZ w' (f 4) 1 := (hs 4 (by kernel_rfl))
      obtain ⟨s1, p1, l1, c1, e1, j1⟩ := PRZ.box j1
      obtain ⟨s2, p2, l2, c2, e2, j2⟩ := PRZ.box j2
      exact ⟨wanted_none rfl, _, rfl, .val (rn_build44 rfl ((fr_own rfl rfl).trans e1) ((fr_own rfl rfl).trans e2)) ⟨Below.refl _ _, s1, p1, l1, c1, s2, p2, l2, c2, rfl, j1, j2⟩⟩
    · refine .cons (fun f w' h => ⟨wanted_none rfl, ?_⟩) .nil
      obtain ⟨hI, hs⟩ := (if_pos rfl) ▸ h
      have hv : RRv w' (f 5) z 1 := (hs 5 (by kernel_rfl))
      obtain ⟨s1, p1, l1, c1, s2, p2, l2, c2, e1⟩ := hv.agg
      rw [e1] at hv
      have hz := hI.t
      exact .skip (rn_store44 rfl (fr_old rfl rfl) ((fr_own rfl rfl).trans e1) hz) ⟨below4r hI.k (by omega) _ _ _ _, Go.Proofs.YtjjomjjgoceklaaGreat.HR.stored hz hv⟩
    · intro f w' h
      refine hK _ _ (Met.intro (hJ _ _ ?_))
      (repeat apply Exists.intro)
      refine ⟨?_, rfl⟩
      exact h
  case rest =>
    obtain ⟨kf, s1, p1, l1, c1, s2, p2, l2, c2, e1, e2⟩ := hcut
    have i0 := cell_blk (i := 0) e1
    have i1 := cell_blk (i := 1) e1
    have i2 := cell_blk (i := 2) e1
    have i3 := cell_blk (i := 3) e1
    have KF := Lib.hid kf
    have VV1 := Lib.hid e2
    clear e1 e2 kf S
    go_wp2
    exact bodyPost_ret (v := .agg #[.int .i64 s1, .slice p1 l1 c1, .int .i64 s2, .slice p2 l2 c2]) (by simp [results, Tryz.results25, go_sem, i0, i1, i2, i3]) rfl ⟨KF.out, _, rfl, .of VV1.out⟩
theorem rnumr_any (va : Value) (a : Rat) (w : World) (ha : RA w va a) : Calls Tryz.prog 31 #[va] w (PRZ a.num w) := by
  obtain ⟨d, ⟨s1, p1, l1, c1, s2, p2, l2, c2, rfl, h1, _⟩, _⟩ := ha
  have H1 := Lib.hid h1
  clear h1
  go_enter Tryz.func31, Tryz.ntmps31
  go_wp2
  exact bodyPost_ret (v := .agg #[.int .i64 s1, .slice p1 l1 c1]) (by simp [results, Tryz.results31, go_sem]) rfl ⟨bl2 _ _ _, _, rfl, H1.out.keep (bl2 _ _ _) (Nat.le_refl _)⟩
/-! Floor, Ceil -/
structure G35 (w0 : World) (a : Rat) (w : World) : Prop where
  k : Below w0.heap.size w0 w
  a : HA w0.heap.size a w
  t : ∃ s p l c, Bz (w0.heap.size + 1) s p l c w
  g : w0.heap.size + 1 + 1 ≤ w.heap.size
theorem G35.keep {w0 w w' : World} {a : Rat} (h : G35 w0 a w) (hb : Below w.heap.size w w') : G35 w0 a w' := by
  obtain ⟨s, p, l, c, h5⟩ := h.t
  exact ⟨Below.thru h.k h.k.size hb, h.a.keep hb, ⟨s, p, l, c, blk_keep h5 hb⟩, Nat.le_trans h.g hb.size⟩
theorem HA.st {T U : Nat} {a : Rat} {w w' : World} (h : HA T a w) (hU : NoI w U) (hg : w.grownBy w' (some U)) (hne : T ≠ U) : HA T a w' := by
  obtain ⟨s1, p1, l1, c1, s2, p2, l2, c2, h1, ⟨d, h2, h3⟩, h4⟩ := h
  exact ⟨s1, p1, l1, c1, s2, p2, l2, c2, blk_other h1 hg hne, ⟨d, h2.store hU hg, h3⟩, h4.store hU hg⟩
theorem G35.put {w0 w : World} {a : Rat} (h : G35 w0 a w) {T : Nat} {s0 : Int} {p0 : Option Addr} {l0 c0 : Nat} (hT : w0.heap.size + 1 + 1 ≤ T) (hz : Bz T s0 p0 l0 c0 w) (s : Int) (p : Option Addr) (l c : Nat) : G35 w0 a (st2 w T (.int .i64 s) (.slice p l c)) := by
  have hg := grown2 w T 0 1 (.int .i64 s) (.slice p l c)
  obtain ⟨s1, p1, l1, c1, h5⟩ := h.t
  exact ⟨below2 h.k (by omega) _ _, h.a.st hz.noI hg (by omega), ⟨s1, p1, l1, c1, blk_other h5 hg (by omega)⟩, Nat.le_trans h.g hg.size⟩
def alF35 (t : Nat) : Bool := Nat.beq t 3 || Nat.beq t 4
def DF35 (t : Nat) : Bool := Nat.ble 3 t && Nat.ble t 12
def Ks2r (K : Kd) : Prop := ∀ {v : Value} {w : World} {T : Nat} {s0 : Int} {p0 : Option Addr} {l0 c0 : Nat} {s : Int} {p : Option Addr} {l c : Nat}, Bz T s0 p0 l0 c0 w → kd K v w → kd K v (st2 w T (.int .i64 s) (.slice p l c))
theorem bz_st {T U : Nat} {w : World} {s0 : Int} {p0 : Option Addr} {l0 c0 : Nat} {s1 : Int} {p1 : Option Addr} {l1 c1 : Nat} (hT : Bz T s0 p0 l0 c0 w) (hU : Bz U s1 p1 l1 c1 w) (s : Int) (p : Option Addr) (l c : Nat) : ∃ s' p' l' c', Bz U s' p' l' c' (st2 w T (.int .i64 s) (.slice p l c)) := by
  by_cases e : U = T
  · subst e; exact ⟨s, p, l, c, hT.set _ _ _ _⟩
  · exact ⟨s1, p1, l1, c1, hU.other (grown2 _ _ _ _ _ _) e⟩
theorem Ks2r.kbr {B : Nat} : Ks2r (kbr B) := fun hT ⟨U, s1, p1, l1, c1, h1, h2, h3⟩ => by
  obtain ⟨s', p', l', c', h4⟩ := bz_st hT h3 _ _ _ _
  exact ⟨U, s', p', l', c', h1, h2, h4⟩
theorem Ks2r.r {n : Int} : Ks2r (.r n) := fun hT h => RZ.store h hT.noI (grown2 _ _ _ _ _ _)
theorem Ks2r.v {y : Value} : Ks2r (.v y) := by
  intro v w T s0 p0 l0 c0 s p l c _ h
  have h1 : v = y := h
  show v = y
  exact h1
theorem Ks2r.kp {b i : Nat} : Ks2r (kp b i) := Ks2r.v
theorem Ks2r.any : Ks2r .any := fun _ _ => trivial
def kqr (n d : Int) : Kd := .c (fun v w => ∃ u x, v = .tuple #[u, x] ∧ RZ w u (n / d) ∧ RZ w x (n % d)) (fun _ _ _ ⟨u, x, e, h1, h2⟩ hb => ⟨u, x, e, h1.keep hb (Nat.le_refl _), h2.keep hb (Nat.le_refl _)⟩)
theorem Ks2r.kqr {n d : Int} : Ks2r (kqr n d) := fun hT ⟨u, x, e, h1, h2⟩ => ⟨u, x, e, h1.store hT.noI (grown2 _ _ _ _ _ _), h2.store hT.noI (grown2 _ _ _ _ _ _)⟩
theorem Ks2r.getD {L : List Kd} (h : ∀ K ∈ L, Ks2r K) (j : Nat) : Ks2r (L.getD j .any) := by
  intro v w T s0 p0 l0 c0 s p l c
  rw [List.getD_eq_getElem?_getD]
  cases hj : L[j]? with
  | none => exact fun _ _ => trivial
  | some K => exact h K (List.mem_of_getElem? hj)
def tabG35 (B C : Nat) (a : Rat) (t : Nat) : Kd := [kbr C, kbr C, kqr a.num (a.den : Int), kp B 0, .r a.num, kra a, .r (a.den : Int), kqr a.num (a.den : Int), .r (a.num / (a.den : Int)), .r (a.num % (a.den : Int))].getD (t - 3) .any
theorem Ks2r.kra {a : Rat} : Ks2r (kra a) := fun hT ⟨d, h1, h2⟩ => ⟨d, h1.store hT.noI (grown2 _ _ _ _ _ _), h2⟩
theorem kG35 {B C : Nat} {a : Rat} (t : Nat) : Ks2r (tabG35 B C a t) :=
  Ks2r.getD (by simp only [List.forall_mem_cons]; exact ⟨Ks2r.kbr, Ks2r.kbr, Ks2r.kqr, Ks2r.kp, Ks2r.r, Ks2r.kra, Ks2r.r, Ks2r.kqr, Ks2r.r, Ks2r.r, fun _ h => by cases h⟩) _
theorem cf104' : CF 104 := fun W args => by go_simp
set_option maxHeartbeats 1600000 in
theorem rfloor_any (va : Value) (a : Rat) (k : Nat) (w : World) (ha : RA w va a) (ba : Bd9 k a) (hk : k ≤ 150) : Calls Tryz.prog 35 #[va] w (PRZ (a.num / (a.den : Int)) w) := by
  obtain ⟨s1, p1, l1, c1, s2, p2, l2, c2, rfl⟩ := ha.agg
  have S := Lib.hid (show G35 w a ((w.alloc (.cells #[.int .i64 s1, .slice p1 l1 c1, .int .i64 s2, .slice p2 l2 c2] 44)).alloc (.cells #[.int .i64 0, .slice none 0 0] 41)) from ⟨bl2 _ _ _, (HA.new ha).keep (bl1 _ _), ⟨_, _, _, _, bz_new _ _ _ _ _ (by simp)⟩, by simp⟩)
  have D0 : Hid ((a.den : Int) ≠ 0) := by show _ ≠ _; have := a.den_pos; omega
  have S1 := Lib.hid (Wk.sr ba.wn hk); have S2 := Lib.hid (Wk.sr ba.wd hk)
  have HBS : Hid (∀ {N : Nat}, w.heap.size + 1 + 1 ≤ N → w.heap.size + 1 + 1 ≤ N) := fun h => h
  clear ha ba
  go_enter Tryz.func35, Tryz.ntmps35
  go_upto_region 1 with fail
  go_cut [3] (fun u wc => ∃ T, u = .pointer (some ⟨T, 0, none⟩) ∧ G35 w a wc ∧ Hr T (a.num / (a.den : Int)) wc)
  case first =>
    rename_i J K' hJ hK
    refine wp_region_alf DF35 (tabG35 w.heap.size (w.heap.size + 1 + 1) a) alF35 10 (fun i f w' => G35 w a w' ∧ (11 ≤ i → ∃ T, f 3 = .pointer (some ⟨T, 0, none⟩) ∧ Hr T (a.num / (a.den : Int)) w')) (by kernel_rfl) (by kernel_rfl) (by kernel_rfl) (by kernel_rfl) (by decide) (by kernel_rfl) (fun i f f' w' w'' hI hb he => ⟨hI.1.keep hb, fun h => by
      obtain ⟨T, h1, h2⟩ := hI.2 h
      rcases he with he | he
      · omega
      · exact ⟨T, (he 3 rfl).trans h1, h2.keep hb⟩⟩) (by kernel_rfl) (fun f => ⟨S.out.keep (Below.refl _ _).drew, fun h => absurd h (by decide)⟩) ?_ ?_ ?_
    · refine .cons (fun j f w' hj hI hs => ⟨wanted_none rfl, _, rfl, .val (rn_field44_0 rfl (fr_old rfl rfl)) ⟨⟨Below.refl _ _, rfl⟩, (fun h => by cases h)⟩⟩) ?_
      refine .cons (fun j f w' hj hI hs => ?_) ?_
      · obtain ⟨s1, p1, l1, c1, s2, p2, l2, c2, e1, e2, e3⟩ := hI.1.a
        exact ⟨wanted_none rfl, _, rfl, .val (rn_load41n rfl ((fr_own rfl rfl).trans (hs 6 (by kernel_rfl))) e1) ⟨⟨Below.refl _ _, e3⟩, (fun h => by cases h)⟩⟩
      refine .cons (fun j f w' hj hI hs => ?_) ?_
      · obtain ⟨s1, p1, l1, c1, s2, p2, l2, c2, e1, e2, e3⟩ := hI.1.a
        exact ⟨wanted_none rfl, _, rfl, .val (rn_load44 rfl (fr_old rfl rfl) e1) ⟨⟨Below.refl _ _, e2⟩, (fun h => by cases h)⟩⟩
      refine .cons (fun j f w' hj hI hs => ⟨wanted_none rfl, _, rfl, .call1 rfl cf33 rfl rfl ((PRZ.kd (rden_any _ a _ (hs 8 (by kernel_rfl)))).mono fun _ _ ⟨v, he, hr⟩ => ⟨v, he, hr, (fun h => by cases h)⟩)⟩) ?_
      refine .cons (fun j f w' hj hI hs => ⟨wanted_none rfl, _, rfl, .call2 rfl cf104' rfl rfl rfl rfl ((zquotient_any _ _ a.num (a.den : Int) _ (hs 7 (by kernel_rfl)) (hs 9 (by kernel_rfl)) S1.out S2.out D0.out).mono fun _ _ ⟨hb, u, v, he, h1, h2⟩ => ⟨_, he, ⟨hb, u, v, rfl, h1, h2⟩, (fun h => by cases h)⟩)⟩) ?_
      refine .cons (fun j f w' hj hI hs => ⟨wanted_none rfl, _, rfl, .val (rn_move rfl) ⟨⟨Below.refl _ _, by have := (hs 10 (by kernel_rfl)); rw [fr_own rfl rfl]; exact this⟩, (fun h => by cases h)⟩⟩) ?_
      refine .cons (fun j f w' hj hI hs => ?_) ?_
      · obtain ⟨u, v, e, h1, h2⟩ : ∃ u v, f 5 = .tuple #[u, v] ∧ RZ w' u (a.num / (a.den : Int)) ∧ RZ w' v (a.num % (a.den : Int)) := (hs 5 (by kernel_rfl))
        exact ⟨wanted_none rfl, _, rfl, .val (rn_extract0 rfl ((fr_own rfl rfl).trans e)) ⟨⟨Below.refl _ _, h1⟩, (fun h => by cases h)⟩⟩
      refine .cons (fun j f w' hj hI hs => ?_) ?_
      · obtain ⟨u, v, e, h1, h2⟩ : ∃ u v, f 5 = .tuple #[u, v] ∧ RZ w' u (a.num / (a.den : Int)) ∧ RZ w' v (a.num % (a.den : Int)) := (hs 5 (by kernel_rfl))
        exact ⟨wanted_none rfl, _, rfl, .val (rn_extract1 rfl ((fr_own rfl rfl).trans e)) ⟨⟨Below.refl _ _, h2⟩, (fun h => by cases h)⟩⟩
      refine .cons (fun j f w' hj hI hs => ⟨wanted_none rfl, _, rfl, .val (rn_alloc32 rfl) ⟨⟨bl1 _ _, _, _, _, _, _, rfl, HBS.out hI.1.g, bz_new _ _ _ _ _ rfl⟩, fun _ => ⟨rfl, by simp⟩⟩⟩) ?_
      refine .cons (fun j f w' hj hI hs => ⟨wanted_none rfl, _, rfl, .val (rn_alloc32 rfl) ⟨⟨bl1 _ _, _, _, _, _, _, rfl, HBS.out hI.1.g, bz_new _ _ _ _ _ rfl⟩, fun _ => ⟨rfl, by simp⟩⟩⟩) .nil
    · refine .cons (fun f w' hI hs hne => ⟨wanted_none rfl, rfl, ?_⟩) ?_
      · have h11 : RZ w' (f 11) (a.num / (a.den : Int)) := (hs 11 (by kernel_rfl))
        obtain ⟨T, s0, p0, l0, c0, e3, hB, hz⟩ : ∃ T s p l c, f 3 = .pointer (some ⟨T, 0, none⟩) ∧ w.heap.size + 1 + 1 ≤ T ∧ Bz T s p l c w' := (hs 3 (by kernel_rfl))
        obtain ⟨p, l, c, e⟩ := h11.agg
        rw [e] at h11
        exact .skip (rn_store32 rfl ((fr_own rfl rfl).trans e3) ((fr_own rfl rfl).trans e) hz) ⟨⟨⟨hI.1.put hB hz _ _ _ _, fun _ => ⟨T, e3, Hr.stored hz h11⟩⟩, fun t v => (kG35 t) hz⟩, by simp [World.setCell]⟩
      refine .cons (fun f w' hI hs hne => ⟨wanted_none rfl, rfl, ?_⟩) .nil
      have h12 : RZ w' (f 12) (a.num % (a.den : Int)) := (hs 12 (by kernel_rfl))
      obtain ⟨T, s0, p0, l0, c0, e4, hB, hz⟩ : ∃ T s p l c, f 4 = .pointer (some ⟨T, 0, none⟩) ∧ w.heap.size + 1 + 1 ≤ T ∧ Bz T s p l c w' := (hs 4 (by kernel_rfl))
      obtain ⟨T3, e3, h3⟩ := hI.2 (by decide)
      have hne2 : T3 ≠ T := by
        intro e
        have := hne 3 4 (by kernel_rfl) (by kernel_rfl) rfl rfl (by decide)
        rw [e3, e4, e] at this
        exact this rfl
      obtain ⟨p, l, c, e⟩ := h12.agg
      rw [e] at h12
      exact .skip (rn_store32 rfl ((fr_own rfl rfl).trans e4) ((fr_own rfl rfl).trans e) hz) ⟨⟨⟨hI.1.put hB hz _ _ _ _, fun _ => ⟨T3, e3, h3.st hz.noI (grown2 _ _ _ _ _ _) hne2⟩⟩, fun t v => (kG35 t) hz⟩, by simp [World.setCell]⟩
    · intro f w' hI _
      obtain ⟨T, h1, h2⟩ := hI.2 (by decide)
      refine hK _ _ (Met.intro (hJ _ _ ?_))
      (repeat apply Exists.intro)
      refine ⟨?_, rfl⟩
      exact ⟨T, h1, hI.1, h2⟩
  case rest =>
    obtain ⟨T, rfl, F, s3, p3, l3, c3, h1, h2⟩ := hcut
    obtain ⟨g1, g2, _, _⟩ := h1.cells
    obtain ⟨s4, p4, l4, c4, h3⟩ := F.t
    obtain ⟨m1, m2, m3, m4⟩ := h3.cells
    obtain ⟨n1, n2⟩ := two_cells m1 m2 (.int .i64 s3) (.slice p3 l3 c3)
    have HF := Lib.hid (h2.store h3.noI (grown2 wc (w.heap.size + 1) 0 1 (.int .i64 s3) (.slice p3 l3 c3)))
    have KF := Lib.hid (below2 F.k (show w.heap.size ≤ w.heap.size + 1 by omega) (.int .i64 s3) (.slice p3 l3 c3))
    clear F h1 h2 h3 S
    go_wp2
    exact bodyPost_ret (v := .agg #[.int .i64 s3, .slice p3 l3 c3]) (by simp [results, Tryz.results35, go_sem, n1, n2]) rfl ⟨KF.out, _, rfl, HF.out⟩
theorem rceil_any (va : Value) (a : Rat) (k : Nat) (w : World) (ha : RA w va a) (ba : Bd9 k a) (hk : k ≤ 150) : Calls Tryz.prog 37 #[va] w (PRZ (-(-a.num / (a.den : Int))) w) := by
  obtain ⟨s1, p1, l1, c1, s2, p2, l2, c2, rfl⟩ := ha.agg
  have HAA := Lib.hid (ha.keep (bl2 w (.cells #[.int .i64 s1, .slice p1 l1 c1, .int .i64 s2, .slice p2 l2 c2] 44) (.cells #[.int .i64 0, .slice none 0 0] 41)) (Nat.le_refl _))
  have BA := Lib.hid ba.neg
  clear ha
  go_enter Tryz.func37, Tryz.ntmps37
  go_wp2_with fail
  refine (rnegr_any _ a k _ HAA.out ba).mono ?_
  rintro e w1 ⟨hb1, v1, rfl, h1⟩
  have t1 : Bz (w.heap.size + 1) 0 none 0 0 w1 := (bz_new _ _ _ _ _ (by simp)).keep hb1 (by simp)
  have k1 := Below.thru (bl2 w _ _) (by simp <;> omega) hb1
  clear hb1 HAA ba
  go_wp2_with fail
  refine (rfloor_any _ (-a) k _ h1 BA.out hk).mono ?_
  rintro e w2 ⟨hb2, v2, rfl, h2⟩
  have t2 : Bz (w.heap.size + 1) 0 none 0 0 w2 := blk_keep t1 hb2
  have k2 := Below.thru k1 k1.size hb2
  clear hb2 h1 t1 k1
  go_wp2_with fail
  refine (znegr_any _ _ _ h2).mono ?_
  rintro e w3 ⟨hb3, v3, rfl, h3⟩
  rw [Rat.neg_num, Rat.neg_den] at h3
  have t3 := blk_keep t2 hb3
  have k3 := Below.thru k2 k2.size hb3
  obtain ⟨s9, p9, l9, c9, rfl, h9⟩ := PRZ.box h3
  have t3 : Bz (w.heap.size + 1) 0 none 0 0 w3 := t3
  obtain ⟨m1, m2, m3, m4⟩ := t3.cells
  obtain ⟨g1, g2⟩ := two_cells m1 m2 (.int .i64 s9) (.slice p9 l9 c9)
  have HF := Lib.hid (h9.store t3.noI (grown2 w3 (w.heap.size + 1) 0 1 (.int .i64 s9) (.slice p9 l9 c9)))
  have KF := Lib.hid (below2 k3 (show w.heap.size ≤ w.heap.size + 1 by omega) (.int .i64 s9) (.slice p9 l9 c9))
  clear hb3 h3 h9 k3 t3 h2 t2 k2
  go_wp2
  exact bodyPost_ret (v := .agg #[.int .i64 s9, .slice p9 l9 c9]) (by simp [results, Tryz.results37, go_sem, g1, g2]) rfl ⟨KF.out, _, rfl, HF.out⟩
end Go.Proofs.YtjjomjjgoceklaaGreat

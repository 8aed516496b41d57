import Derived.Test.YtljmhejljpfaiaaGd
import Derived.Test.YtljmhejljpfaiaaGf
import Derived.Test.YtljmhejljpfaiaaCe
namespace Go.Proofs.Ytljmhejljpfaiaa
set_option maxRecDepth 100000
open Go.RowKit Go.Shelf

/-! whether these are the pieces of a cut -/
theorem leftR_bx {l : List Pt} {p q : Pt} (ht : Tr l) (h3 : 3 ≤ l.length) (hx : Bx l) (hp : IsP l p.1 p.2) (hq : IsP l q.1 q.2) (hc : CanC l p.1 p.2 q.1 q.2) : Bx (leftR l p q) := fun i hi => by
  obtain ⟨ys, h1, h2⟩ := leftR_eq ht h3 hp hq hc
  have hb := partL_bx (p := q) (q := p) hx (by omega) (hq.bd hx) (hp.bd hx)
  have hm := mem_p hi
  have hm2 : (px (leftR l p q) i, pz (leftR l p q) i) ∈ partL l q p := by
    rw [h2]
    rw [h1] at hm ⊢
    rcases List.mem_cons.1 hm with e | e
    · rw [e]; simp
    · exact List.mem_append_left _ e
  obtain ⟨j, hj, e⟩ := pmem hm2
  have e1 := congrArg Prod.fst e; have e2 := congrArg Prod.snd e
  dsimp only at e1 e2
  rw [e1, e2]
  exact hb j hj
theorem leftR_two (l : List Pt) (p q : Pt) : 2 ≤ (leftR l p q).length := by unfold leftR; simp
set_option maxHeartbeats 16000000 in
theorem cutRight_any (s : SV) (p : Option Addr) (c : Nat) (x1 z1 x2 z2 : Int) (na : ByteArray) (pa : Option Addr) (ma ca : Nat) (da ea ga ha : Int) (nb : ByteArray) (pb : Option Addr) (mb cb : Nat) (db eb gb ib : Int) (er : Int) (w : World)
    (hn : s.nm.size ≤ maxLen) (h : Pts w (.slice p s.l.length c) s.l) (hE : SplE s (x1, z1) (x2, z2) er)
    (hA : er ≠ 0 → (Value.agg (c6 na (.slice pa ma ca) da ea ga ha) = zst ∧ Value.agg (c6 nb (.slice pb mb cb) db eb gb ib) = zst))
    (hO : er = 0 → ((Value.agg (c6 na (.slice pa ma ca) da ea ga ha) = stv (pieceS s lta (partL s.l (x2, z2) (x1, z1))) (.slice pa ma ca) ∧ Pts w (.slice pa ma ca) (stl (partL s.l (x2, z2) (x1, z1)))) ∧
      (Value.agg (c6 nb (.slice pb mb cb) db eb gb ib) = stv (pieceS s ltb (partL s.l (x1, z1) (x2, z2))) (.slice pb mb cb) ∧ Pts w (.slice pb mb cb) (stl (partL s.l (x1, z1) (x2, z2)))))) :
    Calls Try.prog 36 #[stv s (.slice p s.l.length c), .agg #[.int .i64 x1, .int .i64 z1], .agg #[.int .i64 x2, .int .i64 z2], .agg (c6 na (.slice pa ma ca) da ea ga ha), .agg (c6 nb (.slice pb mb cb) db eb gb ib), .int .i64 er] w fun e w' => e = .returned (.bool true) ∧ Below w.heap.size w w' := by
  have HV := Lib.hid (fun W (k : Below w.heap.size w W) => validv_any s (.slice p s.l.length c) W hn (h.keep k))
  have HPT := Lib.hid h
  obtain ⟨nm, l, dp, dn, gx, gz⟩ := s
  have HNA : Hid (er ≠ 0 → ∀ W, Calls Try.prog 30 #[.agg (c6 na (.slice pa ma ca) da ea ga ha)] W fun e w' => e = .returned (.bool true) ∧ Below W.heap.size W w') := fun h W => by rw [(hA h).1]; exact none_any W
  have HNB : Hid (er ≠ 0 → ∀ W, Calls Try.prog 30 #[.agg (c6 nb (.slice pb mb cb) db eb gb ib)] W fun e w' => e = .returned (.bool true) ∧ Below W.heap.size W w') := fun h W => by rw [(hA h).2]; exact none_any W
  have HVI : Hid (Vld ⟨nm, l, dp, dn, gx, gz⟩ → (3 ≤ l.length ∧ l.length ≤ 12) ∧ Bx l ∧ nm.size ≤ 16 ∧ Tr l) := fun h => ⟨h.2.1.1, h.2.1.2.1, h.1.1.2, h.2.1.tr⟩
  have HS5 : Hid ((¬ Vld ⟨nm, l, dp, dn, gx, gz⟩ ∧ er = 2) ∨ (Vld ⟨nm, l, dp, dn, gx, gz⟩ ∧ ¬ (IsP l x1 z1 ∧ IsP l x2 z2) ∧ er = 8) ∨ ((Vld ⟨nm, l, dp, dn, gx, gz⟩ ∧ IsP l x1 z1 ∧ IsP l x2 z2) ∧ ¬ CanC l x1 z1 x2 z2 ∧ er = 2) ∨
  (((Vld ⟨nm, l, dp, dn, gx, gz⟩ ∧ IsP l x1 z1 ∧ IsP l x2 z2) ∧ CanC l x1 z1 x2 z2) ∧ (nm.size = 16 ∨ 12 < (partL l (x2, z2) (x1, z1)).length ∨ 12 < (partL l (x1, z1) (x2, z2)).length) ∧ er = 5) ∨ (((Vld ⟨nm, l, dp, dn, gx, gz⟩ ∧ IsP l x1 z1 ∧ IsP l x2 z2) ∧ CanC l x1 z1 x2 z2) ∧ ¬ (nm.size = 16 ∨ 12 < (partL l (x2, z2) (x1, z1)).length ∨ 12 < (partL l (x1, z1) (x2, z2)).length) ∧ er = 0)) := hE
  have HSW : Hid (CanC l x1 z1 x2 z2 → CanC l x2 z2 x1 z1) := fun h i hi => by
    have := h i hi
    unfold both at *
    rw [Bool.and_comm]
    exact this
  have HSA : Hid (er = 0 → Tr l → 3 ≤ l.length → l.length ≤ 12 → IsP l x1 z1 → IsP l x2 z2 → CanC l x1 z1 x2 z2 → ∀ W v7, Below w.heap.size w W → OwnR W 0 v7 (stl (leftR l (x1, z1) (x2, z2))) → Calls Try.prog 28 #[.agg (c6 na (.slice pa ma ca) da ea ga ha), .agg (c6 (nm ++ lta) v7 dp dn gx gz)] W fun e w' => e = .returned (.bool true) ∧ Below W.heap.size W w') := fun h0 ht h3 h12 hp hq hc W v7 kk h7 => by
    have e := stl_left (p := (x1, z1)) (q := (x2, z2)) ht h3 hp hq hc
    have hm := partL_len l (x2, z2) (x1, z1) (eo_isp hq) (eo_isp hp)
    have h5 := (hO h0).1
    rw [h5.1]
    rw [e.1] at h7
    have e9 : (stl (partL l (x2, z2) (x1, z1))).length = (partL l (x2, z2) (x1, z1)).length := by simp [stl]
    exact same_any (pieceS ⟨nm, l, dp, dn, gx, gz⟩ lta (partL l (x2, z2) (x1, z1))) _ v7 W (h5.2.keep kk) (h7.pts (by rw [e9]; omega)) (by show (stl (partL l (x2, z2) (x1, z1))).length ≤ _; rw [e9]; omega)
  have HSB : Hid (er = 0 → Tr l → 3 ≤ l.length → l.length ≤ 12 → IsP l x1 z1 → IsP l x2 z2 → CanC l x1 z1 x2 z2 → ∀ W v7, Below w.heap.size w W → OwnR W 0 v7 (stl (leftR l (x2, z2) (x1, z1))) → Calls Try.prog 28 #[.agg (c6 nb (.slice pb mb cb) db eb gb ib), .agg (c6 (nm ++ ltb) v7 dp dn gx gz)] W fun e w' => e = .returned (.bool true) ∧ Below W.heap.size W w') := fun h0 ht h3 h12 hp hq hc W v7 kk h7 => by
    have e := stl_left (p := (x2, z2)) (q := (x1, z1)) ht h3 hq hp (HSW.out hc)
    have hm := partL_len l (x1, z1) (x2, z2) (eo_isp hp) (eo_isp hq)
    have h5 := (hO h0).2
    rw [h5.1]
    rw [e.1] at h7
    have e9 : (stl (partL l (x1, z1) (x2, z2))).length = (partL l (x1, z1) (x2, z2)).length := by simp [stl]
    exact same_any (pieceS ⟨nm, l, dp, dn, gx, gz⟩ ltb (partL l (x1, z1) (x2, z2))) _ v7 W (h5.2.keep kk) (h7.pts (by rw [e9]; omega)) (by show (stl (partL l (x1, z1) (x2, z2))).length ≤ _; rw [e9]; omega)
  unfold stv at *
  dsimp only at *
  clear h hn hE hA hO
  generalize Vld ⟨nm, l, dp, dn, gx, gz⟩ = V at *
  have k0 : Below w.heap.size w (((((w.alloc (.cells (c6 nm (.slice p l.length c) dp dn gx gz) 26)).alloc (.cells #[.int .i64 x1, .int .i64 z1] 24)).alloc (.cells #[.int .i64 x2, .int .i64 z2] 24)).alloc (.cells (c6 na (.slice pa ma ca) da ea ga ha) 34)).alloc (.cells (c6 nb (.slice pb mb cb) db eb gb ib) 34)) := ((bl3 w _ _ _).alloc (by simp; omega) _).alloc (by simp; omega) _
  have b0 : Blk w.heap.size (c6 nm (.slice p l.length c) dp dn gx gz) 26 (((((w.alloc (.cells (c6 nm (.slice p l.length c) dp dn gx gz) 26)).alloc (.cells #[.int .i64 x1, .int .i64 z1] 24)).alloc (.cells #[.int .i64 x2, .int .i64 z2] 24)).alloc (.cells (c6 na (.slice pa ma ca) da ea ga ha) 34)).alloc (.cells (c6 nb (.slice pb mb cb) db eb gb ib) 34)) ∧ B2 (w.heap.size + 1) x1 z1 (((((w.alloc (.cells (c6 nm (.slice p l.length c) dp dn gx gz) 26)).alloc (.cells #[.int .i64 x1, .int .i64 z1] 24)).alloc (.cells #[.int .i64 x2, .int .i64 z2] 24)).alloc (.cells (c6 na (.slice pa ma ca) da ea ga ha) 34)).alloc (.cells (c6 nb (.slice pb mb cb) db eb gb ib) 34)) ∧ B2 (w.heap.size + 1 + 1) x2 z2 (((((w.alloc (.cells (c6 nm (.slice p l.length c) dp dn gx gz) 26)).alloc (.cells #[.int .i64 x1, .int .i64 z1] 24)).alloc (.cells #[.int .i64 x2, .int .i64 z2] 24)).alloc (.cells (c6 na (.slice pa ma ca) da ea ga ha) 34)).alloc (.cells (c6 nb (.slice pb mb cb) db eb gb ib) 34)) ∧ Blk (w.heap.size + 1 + 1 + 1) (c6 na (.slice pa ma ca) da ea ga ha) 34 (((((w.alloc (.cells (c6 nm (.slice p l.length c) dp dn gx gz) 26)).alloc (.cells #[.int .i64 x1, .int .i64 z1] 24)).alloc (.cells #[.int .i64 x2, .int .i64 z2] 24)).alloc (.cells (c6 na (.slice pa ma ca) da ea ga ha) 34)).alloc (.cells (c6 nb (.slice pb mb cb) db eb gb ib) 34)) ∧ Blk (w.heap.size + 1 + 1 + 1 + 1) (c6 nb (.slice pb mb cb) db eb gb ib) 34 (((((w.alloc (.cells (c6 nm (.slice p l.length c) dp dn gx gz) 26)).alloc (.cells #[.int .i64 x1, .int .i64 z1] 24)).alloc (.cells #[.int .i64 x2, .int .i64 z2] 24)).alloc (.cells (c6 na (.slice pa ma ca) da ea ga ha) 34)).alloc (.cells (c6 nb (.slice pb mb cb) db eb gb ib) 34)) := by
    refine ⟨((((Blk.new w _ 26).alloc _).alloc _).alloc _).alloc _, ⟨by simp [go_sem], by simp [go_sem], by simp [go_sem], by simp [go_sem]⟩, ⟨by simp [go_sem], by simp [go_sem], by simp [go_sem], by simp [go_sem]⟩, ?_, ?_⟩
    · have := Blk.new (((w.alloc (.cells (c6 nm (.slice p l.length c) dp dn gx gz) 26)).alloc (.cells #[.int .i64 x1, .int .i64 z1] 24)).alloc (.cells #[.int .i64 x2, .int .i64 z2] 24)) (c6 na (.slice pa ma ca) da ea ga ha) 34
      simp only [World.size_alloc] at this
      exact this.alloc _
    · have := Blk.new ((((w.alloc (.cells (c6 nm (.slice p l.length c) dp dn gx gz) 26)).alloc (.cells #[.int .i64 x1, .int .i64 z1] 24)).alloc (.cells #[.int .i64 x2, .int .i64 z2] 24)).alloc (.cells (c6 na (.slice pa ma ca) da ea ga ha) 34)) (c6 nb (.slice pb mb cb) db eb gb ib) 34
      simp only [World.size_alloc] at this
      exact this
  go_enter Try.func36, Try.ntmps36
  go_wp2_with fail
  generalize (((((w.alloc (.cells (c6 nm (.slice p l.length c) dp dn gx gz) 26)).alloc (.cells #[.int .i64 x1, .int .i64 z1] 24)).alloc (.cells #[.int .i64 x2, .int .i64 z2] 24)).alloc (.cells (c6 na (.slice pa ma ca) da ea ga ha) 34)).alloc (.cells (c6 nb (.slice pb mb cb) db eb gb ib) 34)) = w0 at *
  have HBS : Hid (∀ W, Below w0.heap.size w0 W → Blk w.heap.size (c6 nm (.slice p l.length c) dp dn gx gz) 26 W ∧ B2 (w.heap.size + 1) x1 z1 W ∧ B2 (w.heap.size + 1 + 1) x2 z2 W ∧ Blk (w.heap.size + 1 + 1 + 1) (c6 na (.slice pa ma ca) da ea ga ha) 34 W ∧ Blk (w.heap.size + 1 + 1 + 1 + 1) (c6 nb (.slice pb mb cb) db eb gb ib) 34 W ∧ Below w.heap.size w W) := fun W k => ⟨b0.1.below k, b0.2.1.keep k, b0.2.2.1.keep k, b0.2.2.2.1.below k, b0.2.2.2.2.below k, Below.thru k0 k0.size k⟩
  have K0 := Lib.hid k0
  clear b0
  refine (HV.out _ k0).mono ?_
  rintro e w1 ⟨⟨bv, rfl, hbv⟩, hb1⟩
  have K1 := Lib.hid hb1
  have HBV := Lib.hid hbv
  clear hb1 k0 hbv
  cases bv with
  | false =>
    have HEE : er = 2 := by
      have h1 := HBV.out; have h2 := HS5.out
      clear HSA HSB HNA HNB HVI HBS HV HPT
      grind
    obtain rfl : er = 2 := HEE
    have HNA2 := Lib.hid (HNA.out (by decide))
    have HNB2 := Lib.hid (HNB.out (by decide))
    have q2 := HBS.out _ K1.out
    have zc0 := q2.2.2.2.1.cell (i := 0) rfl; have zc1 := q2.2.2.2.1.cell (i := 1) rfl; have zc2 := q2.2.2.2.1.cell (i := 2) rfl; have zc3 := q2.2.2.2.1.cell (i := 3) rfl; have zc4 := q2.2.2.2.1.cell (i := 4) rfl; have zc5 := q2.2.2.2.1.cell (i := 5) rfl
    clear q2
    go_wp2_with fail
    refine (HNA2.out _).mono ?_
    rintro e w7 ⟨rfl, hb7⟩
    have K7 := Lib.hid (Below.thru K1.out K1.out.size hb7)
    have q7 := HBS.out _ K7.out
    have yc0 := q7.2.2.2.2.1.cell (i := 0) rfl; have yc1 := q7.2.2.2.2.1.cell (i := 1) rfl; have yc2 := q7.2.2.2.2.1.cell (i := 2) rfl; have yc3 := q7.2.2.2.2.1.cell (i := 3) rfl; have yc4 := q7.2.2.2.2.1.cell (i := 4) rfl; have yc5 := q7.2.2.2.2.1.cell (i := 5) rfl
    clear hb7 q7 zc0 zc1 zc2 zc3 zc4 zc5
    go_wp2_with fail
    refine (HNB2.out _).mono ?_
    rintro e w8 ⟨rfl, hb8⟩
    have K8 := Lib.hid (HBS.out _ (Below.thru K7.out K7.out.size hb8)).2.2.2.2.2
    clear hb8 yc0 yc1 yc2 yc3 yc4 yc5
    go_wp2
    go_ret
    exact ⟨rfl, K8.out⟩
  | true =>
    have HV1 : Hid V := HBV.out.1 rfl
    obtain ⟨h3, hbx, hnm, htr⟩ := HVI.out HV1.out
    obtain ⟨b, o, c', hpe, hrow⟩ := (HPT.out.keep (HBS.out _ K1.out).2.2.2.2.2).some (by show 0 < l.length; omega)
    cases hpe
    have HI1 := Lib.hid (fun W (k : Below w1.heap.size w1 W) => isBorder_any b o c l x1 z1 W (hrow.keep k) h3.1 h3.2 hbx htr)
    have HI2 := Lib.hid (fun W (k : Below w1.heap.size w1 W) => isBorder_any b o c l x2 z2 W (hrow.keep k) h3.1 h3.2 hbx htr)
    have HCC := Lib.hid (fun W (k : Below w1.heap.size w1 W) (q1 : IsP l x1 z1) (q2 : IsP l x2 z2) => apart_any b o c l x1 z1 x2 z2 W (hrow.keep k) (by omega) (by omega) hbx (by have := q1.bd hbx; unfold Sm; omega) (by have := q2.bd hbx; unfold Sm; omega))
    have HPL := Lib.hid (fun W (k : Below w1.heap.size w1 W) (q1 : IsP l x1 z1) (q2 : IsP l x2 z2) => left_any b o c l x1 z1 x2 z2 W (hrow.keep k) (by omega) (by omega) hbx (by have := q1.bd hbx; unfold Sm; omega) (by have := q2.bd hbx; unfold Sm; omega))
    have HPR := Lib.hid (fun W (k : Below w1.heap.size w1 W) (q1 : IsP l x1 z1) (q2 : IsP l x2 z2) => left_any b o c l x2 z2 x1 z1 W (hrow.keep k) (by omega) (by omega) hbx (by have := q2.bd hbx; unfold Sm; omega) (by have := q1.bd hbx; unfold Sm; omega))
    have HX := Lib.hid hbx
    have HNM := Lib.hid hnm
    have H3 := Lib.hid h3
    have HTR := Lib.hid htr
    have q1 := HBS.out _ K1.out
    have s1 := q1.1.cell (i := 1) rfl
    obtain ⟨p0, p1, _, _⟩ := q1.2.1
    clear h3 hbx hnm htr hrow q1 HV HVI HBV HPT
    go_wp2_with fail
    refine (HI1.out _ (Below.refl _ _)).mono ?_
    rintro e w2 ⟨⟨bp, rfl, hbp⟩, hb2⟩
    have K2 := Lib.hid hb2
    have K2' := Lib.hid (Below.thru K1.out K1.out.size hb2)
    have HBP := Lib.hid hbp
    clear hb2 hbp s1 p0 p1
    cases bp with
    | false =>
      have HEE : er = 8 := by
        have h1 := HBP.out; have h2 := HS5.out; have h3 := HV1.out
        clear HSA HSB HNA HNB HBS HI1 HI2 HCC HPL HPR HX HTR HSW
        grind
      obtain rfl : er = 8 := HEE
      have HNA2 := Lib.hid (HNA.out (by decide))
      have HNB2 := Lib.hid (HNB.out (by decide))
      have q2 := HBS.out _ K2'.out
      have zc0 := q2.2.2.2.1.cell (i := 0) rfl; have zc1 := q2.2.2.2.1.cell (i := 1) rfl; have zc2 := q2.2.2.2.1.cell (i := 2) rfl; have zc3 := q2.2.2.2.1.cell (i := 3) rfl; have zc4 := q2.2.2.2.1.cell (i := 4) rfl; have zc5 := q2.2.2.2.1.cell (i := 5) rfl
      clear q2
      go_wp2_with fail
      refine (HNA2.out _).mono ?_
      rintro e w7 ⟨rfl, hb7⟩
      have K7 := Lib.hid (Below.thru K2'.out K2'.out.size hb7)
      have q7 := HBS.out _ K7.out
      have yc0 := q7.2.2.2.2.1.cell (i := 0) rfl; have yc1 := q7.2.2.2.2.1.cell (i := 1) rfl; have yc2 := q7.2.2.2.2.1.cell (i := 2) rfl; have yc3 := q7.2.2.2.2.1.cell (i := 3) rfl; have yc4 := q7.2.2.2.2.1.cell (i := 4) rfl; have yc5 := q7.2.2.2.2.1.cell (i := 5) rfl
      clear hb7 q7 zc0 zc1 zc2 zc3 zc4 zc5
      go_wp2_with fail
      refine (HNB2.out _).mono ?_
      rintro e w8 ⟨rfl, hb8⟩
      have K8 := Lib.hid (HBS.out _ (Below.thru K7.out K7.out.size hb8)).2.2.2.2.2
      clear hb8 yc0 yc1 yc2 yc3 yc4 yc5
      go_wp2
      go_ret
      exact ⟨rfl, K8.out⟩
    | true =>
      have HP1 : Hid (IsP l x1 z1) := HBP.out.1 rfl
      have q2 := HBS.out _ K2'.out
      have s1 := q2.1.cell (i := 1) rfl
      obtain ⟨p0, p1, _, _⟩ := q2.2.2.1
      clear q2 HBP
      go_wp2_with fail
      refine (HI2.out _ K2.out).mono ?_
      rintro e w3 ⟨⟨bq, rfl, hbq⟩, hb3⟩
      have K3 := Lib.hid (Below.thru K2.out K2.out.size hb3)
      have K3' := Lib.hid (Below.thru K2'.out K2'.out.size hb3)
      have HBQ := Lib.hid hbq
      clear hb3 hbq p0 p1 s1
      cases bq with
      | false =>
        have HEE : er = 8 := by
          have h1 := HBQ.out; have h2 := HS5.out; have h3 := HV1.out
          clear HSA HSB HNA HNB HBS HI1 HI2 HCC HPL HPR HX HTR HSW
          grind
        obtain rfl : er = 8 := HEE
        have HNA2 := Lib.hid (HNA.out (by decide))
        have HNB2 := Lib.hid (HNB.out (by decide))
        have q2 := HBS.out _ K3'.out
        have zc0 := q2.2.2.2.1.cell (i := 0) rfl; have zc1 := q2.2.2.2.1.cell (i := 1) rfl; have zc2 := q2.2.2.2.1.cell (i := 2) rfl; have zc3 := q2.2.2.2.1.cell (i := 3) rfl; have zc4 := q2.2.2.2.1.cell (i := 4) rfl; have zc5 := q2.2.2.2.1.cell (i := 5) rfl
        clear q2
        go_wp2_with fail
        refine (HNA2.out _).mono ?_
        rintro e w7 ⟨rfl, hb7⟩
        have K7 := Lib.hid (Below.thru K3'.out K3'.out.size hb7)
        have q7 := HBS.out _ K7.out
        have yc0 := q7.2.2.2.2.1.cell (i := 0) rfl; have yc1 := q7.2.2.2.2.1.cell (i := 1) rfl; have yc2 := q7.2.2.2.2.1.cell (i := 2) rfl; have yc3 := q7.2.2.2.2.1.cell (i := 3) rfl; have yc4 := q7.2.2.2.2.1.cell (i := 4) rfl; have yc5 := q7.2.2.2.2.1.cell (i := 5) rfl
        clear hb7 q7 zc0 zc1 zc2 zc3 zc4 zc5
        go_wp2_with fail
        refine (HNB2.out _).mono ?_
        rintro e w8 ⟨rfl, hb8⟩
        have K8 := Lib.hid (HBS.out _ (Below.thru K7.out K7.out.size hb8)).2.2.2.2.2
        clear hb8 yc0 yc1 yc2 yc3 yc4 yc5
        go_wp2
        go_ret
        exact ⟨rfl, K8.out⟩
      | true =>
        have HP2 : Hid (IsP l x2 z2) := HBQ.out.1 rfl
        have q2 := HBS.out _ K3'.out
        have s1 := q2.1.cell (i := 1) rfl
        obtain ⟨p0, p1, _, _⟩ := q2.2.1
        obtain ⟨r0, r1, _, _⟩ := q2.2.2.1
        clear q2 HBQ
        go_wp2_with fail
        refine (HCC.out _ K3.out HP1.out HP2.out).mono ?_
        rintro e w4 ⟨⟨bc, rfl, hbc⟩, hb4⟩
        have K4 := Lib.hid (Below.thru K3.out K3.out.size hb4)
        have K4' := Lib.hid (Below.thru K3'.out K3'.out.size hb4)
        have HBC := Lib.hid hbc
        clear hb4 hbc p0 p1 r0 r1 s1
        cases bc with
        | false =>
          have HEE : er = 2 := by
            have h1 := HBC.out; have h2 := HS5.out; have h3 := HV1.out; have h4 := HP1.out; have h5 := HP2.out
            clear HSA HSB HNA HNB HBS HI1 HI2 HCC HPL HPR HX HTR HSW
            grind
          obtain rfl : er = 2 := HEE
          have HNA2 := Lib.hid (HNA.out (by decide))
          have HNB2 := Lib.hid (HNB.out (by decide))
          have q2 := HBS.out _ K4'.out
          have zc0 := q2.2.2.2.1.cell (i := 0) rfl; have zc1 := q2.2.2.2.1.cell (i := 1) rfl; have zc2 := q2.2.2.2.1.cell (i := 2) rfl; have zc3 := q2.2.2.2.1.cell (i := 3) rfl; have zc4 := q2.2.2.2.1.cell (i := 4) rfl; have zc5 := q2.2.2.2.1.cell (i := 5) rfl
          clear q2
          go_wp2_with fail
          refine (HNA2.out _).mono ?_
          rintro e w7 ⟨rfl, hb7⟩
          have K7 := Lib.hid (Below.thru K4'.out K4'.out.size hb7)
          have q7 := HBS.out _ K7.out
          have yc0 := q7.2.2.2.2.1.cell (i := 0) rfl; have yc1 := q7.2.2.2.2.1.cell (i := 1) rfl; have yc2 := q7.2.2.2.2.1.cell (i := 2) rfl; have yc3 := q7.2.2.2.2.1.cell (i := 3) rfl; have yc4 := q7.2.2.2.2.1.cell (i := 4) rfl; have yc5 := q7.2.2.2.2.1.cell (i := 5) rfl
          clear hb7 q7 zc0 zc1 zc2 zc3 zc4 zc5
          go_wp2_with fail
          refine (HNB2.out _).mono ?_
          rintro e w8 ⟨rfl, hb8⟩
          have K8 := Lib.hid (HBS.out _ (Below.thru K7.out K7.out.size hb8)).2.2.2.2.2
          clear hb8 yc0 yc1 yc2 yc3 yc4 yc5
          go_wp2
          go_ret
          exact ⟨rfl, K8.out⟩
        | true =>
          have HCT : Hid (CanC l x1 z1 x2 z2) := HBC.out.1 rfl
          have q2 := HBS.out w4.drew K4'.out.drew
          have s1 := q2.1.cell (i := 1) rfl
          obtain ⟨p0, p1, _, _⟩ := q2.2.1
          obtain ⟨r0, r1, _, _⟩ := q2.2.2.1
          have HPL2 := Lib.hid (fun W (k : Below w4.heap.size w4 W) => HPL.out W (Below.thru K4.out K4.out.size k) HP1.out HP2.out)
          have HPR2 := Lib.hid (fun W (k : Below w4.heap.size w4 W) => HPR.out W (Below.thru K4.out K4.out.size k) HP1.out HP2.out)
          have HB4 := Lib.hid (fun W (k : Below w4.heap.size w4 W) => HBS.out W (Below.thru K4'.out K4'.out.size k))
          clear q2 HBC
          go_upto_region 12 with fail
          go_cut [14, 15] (fun v1 v2 wc => ∃ g1 c1 g2 c2, v1 = .slice (some ⟨g1, 0, none⟩) (leftR l (x1, z1) (x2, z2)).length c1 ∧ v2 = .slice (some ⟨g2, 0, none⟩) (leftR l (x2, z2) (x1, z1)).length c2 ∧ Hid (Row wc g1 0 (leftR l (x1, z1) (x2, z2)) ∧ Row wc g2 0 (leftR l (x2, z2) (x1, z1)) ∧ Below w4.heap.size w4 wc))
          case first =>
            rename_i J K' hJ hK
            have q0 : w4.drew.cell? ⟨w.heap.size, 1, none⟩ = some (.slice (some ⟨b, o, none⟩) l.length c) ∧ w4.drew.cell? ⟨w.heap.size + 1, 0, none⟩ = some (.int .i64 x1) ∧ w4.drew.cell? ⟨w.heap.size + 1, 1, none⟩ = some (.int .i64 z1) ∧ w4.drew.cell? ⟨w.heap.size + 1 + 1, 0, none⟩ = some (.int .i64 x2) ∧ w4.drew.cell? ⟨w.heap.size + 1 + 1, 1, none⟩ = some (.int .i64 z2) := ⟨s1, p0, p1, r0, r1⟩
            have HS6 : Hid (∀ W, Below w4.heap.size w4 W → W.cell? ⟨w.heap.size, 1, none⟩ = some (.slice (some ⟨b, o, none⟩) l.length c) ∧ W.cell? ⟨w.heap.size + 1, 0, none⟩ = some (.int .i64 x1) ∧ W.cell? ⟨w.heap.size + 1, 1, none⟩ = some (.int .i64 z1) ∧ W.cell? ⟨w.heap.size + 1 + 1, 0, none⟩ = some (.int .i64 x2) ∧ W.cell? ⟨w.heap.size + 1 + 1, 1, none⟩ = some (.int .i64 z2)) := fun W k => ⟨(HB4.out W k).1.cell (i := 1) rfl, (HB4.out W k).2.1.1, (HB4.out W k).2.1.2.1, (HB4.out W k).2.2.1.1, (HB4.out W k).2.2.1.2.1⟩
            have k0 : Below w4.heap.size w4 w4.drew := (Below.refl _ _).drew
            clear p0 p1 r0 r1 s1
            go_region_held3 (fun w' => w'.cell? ⟨w.heap.size, 1, none⟩ = some (.slice (some ⟨b, o, none⟩) l.length c) ∧ w'.cell? ⟨w.heap.size + 1, 0, none⟩ = some (.int .i64 x1) ∧ w'.cell? ⟨w.heap.size + 1, 1, none⟩ = some (.int .i64 z1) ∧ w'.cell? ⟨w.heap.size + 1 + 1, 0, none⟩ = some (.int .i64 x2) ∧ w'.cell? ⟨w.heap.size + 1 + 1, 1, none⟩ = some (.int .i64 z2))
              (first | (with_reducible exact q2) | (with_reducible exact q1) | (with_reducible exact q0))
              (first
                | (go_at_call 46; (with_reducible refine (HPL2.out w4.drew k0).mono ?_); rintro e w6 ⟨⟨v6, rfl, ho6⟩, hb6⟩
                   have k1 := Below.thru k0 k0.size hb6; have q1 := HS6.out _ k1; obtain ⟨g1, c1, rfl, hr1⟩ := ho6.some (by have := leftR_two l (x1, z1) (x2, z2); omega); have O6 := Lib.hid hr1; clear ho6 hb6 hr1)
                | (go_at_call 46; (with_reducible refine (HPR2.out w6 k1).mono ?_); rintro e w7 ⟨⟨v7, rfl, ho7⟩, hb7⟩
                   have k2 := Below.thru k1 k1.size hb7; have q2 := HS6.out _ k2; obtain ⟨g2, c2, rfl, hr2⟩ := ho7.some (by have := leftR_two l (x2, z2) (x1, z1); omega); have O7 := Lib.hid (And.intro (O6.out.keep hb7) (And.intro hr2 k2)); clear ho7 hb7 hr2))
            all_goals
              refine hK _ _ (Met.intro (hJ _ _ ?_))
              (repeat apply Exists.intro)
              refine ⟨⟨_, _, _, _, rfl, rfl, O7.out⟩, rfl⟩
          obtain ⟨g1, c1, g2, c2, rfl, rfl, HCU⟩ := hcut
          have hn1 := leftR_two l (x1, z1) (x2, z2)
          have hn2 := leftR_two l (x2, z2) (x1, z1)
          have HL1 := Lib.hid (leftR_bx (p := (x1, z1)) (q := (x2, z2)) HTR.out H3.out.1 HX.out HP1.out HP2.out HCT.out)
          have HL2 := Lib.hid (leftR_bx (p := (x2, z2)) (q := (x1, z1)) HTR.out H3.out.1 HX.out HP2.out HP1.out (HSW.out HCT.out))
          have e1 := (stl_left (p := (x1, z1)) (q := (x2, z2)) HTR.out H3.out.1 HP1.out HP2.out HCT.out).2
          have e2 := (stl_left (p := (x2, z2)) (q := (x1, z1)) HTR.out H3.out.1 HP2.out HP1.out (HSW.out HCT.out)).2
          have hm1 := partL_len l (x2, z2) (x1, z1) (eo_isp HP2.out) (eo_isp HP1.out)
          have hm2 := partL_len l (x1, z1) (x2, z2) (eo_isp HP1.out) (eo_isp HP2.out)
          have h3' := H3.out
          have hm1' : (leftR l (x1, z1) (x2, z2)).length ≤ 14 := by omega
          have hm2' : (leftR l (x2, z2) (x1, z1)).length ≤ 14 := by omega
          have hnms := HNM.out
          have KC := Lib.hid (Below.thru K4'.out K4'.out.size HCU.out.2.2)
          have q2 := HBS.out _ KC.out
          have s0 := q2.1.cell (i := 0) rfl
          have HB5 : Hid ((nm.size = 16 ∨ 12 < (leftR l (x1, z1) (x2, z2)).length ∨ 12 < (leftR l (x2, z2) (x1, z1)).length) → er = 5) := fun h => by
            rw [e1, e2] at h
            rcases HS5.out with ⟨h1, _⟩ | ⟨_, h1, _⟩ | ⟨_, h1, _⟩ | ⟨_, _, h1⟩ | ⟨_, h1, _⟩
            · exact absurd HV1.out h1
            · exact absurd ⟨HP1.out, HP2.out⟩ h1
            · exact absurd HCT.out h1
            · exact h1
            · exact absurd h h1
          have HB0 : Hid (¬ (nm.size = 16 ∨ 12 < (leftR l (x1, z1) (x2, z2)).length ∨ 12 < (leftR l (x2, z2) (x1, z1)).length) → er = 0) := fun h => by
            rw [e1, e2] at h
            rcases HS5.out with ⟨h1, _⟩ | ⟨_, h1, _⟩ | ⟨_, h1, _⟩ | ⟨_, h1, _⟩ | ⟨_, _, h1⟩
            · exact absurd HV1.out h1
            · exact absurd ⟨HP1.out, HP2.out⟩ h1
            · exact absurd HCT.out h1
            · exact absurd h1 h
            · exact h1
          have HPC1 := Lib.hid (fun W (k : Below wc.heap.size wc W) => rpiece_any nm ⟨#[97]⟩ (.slice (some ⟨b, o, none⟩) l.length c) dp dn gx gz g1 0 c1 (leftR l (x1, z1) (x2, z2)) W (HCU.out.1.keep k) (by omega) (by omega) HL1.out.sm (by show nm.size + 1 ≤ maxLen; unfold maxLen; omega))
          have HPC2 := Lib.hid (fun W (k : Below wc.heap.size wc W) => rpiece_any nm ⟨#[98]⟩ (.slice (some ⟨b, o, none⟩) l.length c) dp dn gx gz g2 0 c2 (leftR l (x2, z2) (x1, z1)) W (HCU.out.2.1.keep k) (by omega) (by omega) HL2.out.sm (by show nm.size + 1 ≤ maxLen; unfold maxLen; omega))
          have KW := Lib.hid (HBS.out _ KC.out).2.2.2.2.2
          have HSA2 : Hid (er = 0 → ∀ W v7, Below wc.heap.size wc W → OwnR W 0 v7 (stl (leftR l (x1, z1) (x2, z2))) → Calls Try.prog 28 #[.agg (c6 na (.slice pa ma ca) da ea ga ha), .agg (c6 (nm ++ lta) v7 dp dn gx gz)] W fun e w' => e = .returned (.bool true) ∧ Below W.heap.size W w') := fun h0 W v7 kk h7 => HSA.out h0 HTR.out H3.out.1 H3.out.2 HP1.out HP2.out HCT.out W v7 (Below.thru KW.out KW.out.size kk) h7
          have HSB2 : Hid (er = 0 → ∀ W v7, Below wc.heap.size wc W → OwnR W 0 v7 (stl (leftR l (x2, z2) (x1, z1))) → Calls Try.prog 28 #[.agg (c6 nb (.slice pb mb cb) db eb gb ib), .agg (c6 (nm ++ ltb) v7 dp dn gx gz)] W fun e w' => e = .returned (.bool true) ∧ Below W.heap.size W w') := fun h0 W v7 kk h7 => HSB.out h0 HTR.out H3.out.1 H3.out.2 HP1.out HP2.out HCT.out W v7 (Below.thru KW.out KW.out.size kk) h7
          clear hm1 hm2 h3' q2 e1 e2
          generalize stl (leftR l (x1, z1) (x2, z2)) = sl1 at *
          generalize stl (leftR l (x2, z2) (x1, z1)) = sl2 at *
          generalize (leftR l (x1, z1) (x2, z2)).length = n1 at *
          generalize (leftR l (x2, z2) (x1, z1)).length = n2 at *
          clear HPL HPR HPL2 HPR2 HSA HSB HI1 HI2 HCC HB4
          by_cases hbig : nm.size = 16 ∨ 12 < n1 ∨ 12 < n2
          · have HEE := HB5.out hbig
            clear HB5 HB0 HSA2 HSB2 HPC1 HPC2
            obtain rfl : er = 5 := HEE

            have HNA2 := Lib.hid (HNA.out (by decide))
            have HNB2 := Lib.hid (HNB.out (by decide))
            have q2 := HBS.out _ KC.out
            have zc0 := q2.2.2.2.1.cell (i := 0) rfl; have zc1 := q2.2.2.2.1.cell (i := 1) rfl; have zc2 := q2.2.2.2.1.cell (i := 2) rfl; have zc3 := q2.2.2.2.1.cell (i := 3) rfl; have zc4 := q2.2.2.2.1.cell (i := 4) rfl; have zc5 := q2.2.2.2.1.cell (i := 5) rfl
            have q7 := HBS.out _ KC.out
            clear q2 q7
            have hcs : ((nm.size : Int) == 16) = true ∨ (((nm.size : Int) == 16) = false ∧ (12 < n1 ∨ (¬ 12 < n1 ∧ 12 < n2))) := by
              by_cases h16 : nm.size = 16
              · exact .inl (by rw [h16]; rfl)
              · refine .inr ⟨by simpa using (fun h => h16 (by omega)), by omega⟩
            clear hbig
            rcases hcs with h16 | ⟨h16, hb | ⟨hb, hb'⟩⟩
            all_goals
              go_wp2_with fail
              refine (HNA2.out _).mono ?_
              rintro e w7 ⟨rfl, hb7⟩
              have K7 := Lib.hid (Below.thru KC.out KC.out.size hb7)
              have q7 := HBS.out _ K7.out
              have yc0 := q7.2.2.2.2.1.cell (i := 0) rfl; have yc1 := q7.2.2.2.2.1.cell (i := 1) rfl; have yc2 := q7.2.2.2.2.1.cell (i := 2) rfl; have yc3 := q7.2.2.2.2.1.cell (i := 3) rfl; have yc4 := q7.2.2.2.2.1.cell (i := 4) rfl; have yc5 := q7.2.2.2.2.1.cell (i := 5) rfl
              clear hb7 q7 zc0 zc1 zc2 zc3 zc4 zc5 s0
              go_wp2_with fail
              refine (HNB2.out _).mono ?_
              rintro e w8 ⟨rfl, hb8⟩
              have K8 := Lib.hid (HBS.out _ (Below.thru K7.out K7.out.size hb8)).2.2.2.2.2
              clear hb8 yc0 yc1 yc2 yc3 yc4 yc5
              go_wp2
              go_ret
              exact ⟨rfl, K8.out⟩
          · obtain rfl : er = 0 := HB0.out hbig
            have HSA3 := Lib.hid (HSA2.out rfl)
            have HSB3 := Lib.hid (HSB2.out rfl)
            have h16 : ((nm.size : Int) == 16) = false := by simpa using (fun h => hbig (.inl (by omega)))
            have hb1 : ¬ 12 < n1 := fun h => hbig (.inr (.inl h))
            have hb2 : ¬ 12 < n2 := fun h => hbig (.inr (.inr h))
            have HQ : Hid (∀ W, Below wc.heap.size wc W → Cs w.heap.size nm (.slice (some ⟨b, o, none⟩) l.length c) dp dn gx gz W ∧ Cs (w.heap.size + 1 + 1 + 1) na (.slice pa ma ca) da ea ga ha W ∧ Cs (w.heap.size + 1 + 1 + 1 + 1) nb (.slice pb mb cb) db eb gb ib W) := fun W kk => by
              have h := HBS.out W (Below.thru KC.out KC.out.size kk)
              exact ⟨⟨h.1.cell (i := 0) rfl, h.1.cell (i := 1) rfl, h.1.cell (i := 2) rfl, h.1.cell (i := 3) rfl, h.1.cell (i := 4) rfl, h.1.cell (i := 5) rfl⟩, ⟨h.2.2.2.1.cell (i := 0) rfl, h.2.2.2.1.cell (i := 1) rfl, h.2.2.2.1.cell (i := 2) rfl, h.2.2.2.1.cell (i := 3) rfl, h.2.2.2.1.cell (i := 4) rfl, h.2.2.2.1.cell (i := 5) rfl⟩, ⟨h.2.2.2.2.1.cell (i := 0) rfl, h.2.2.2.2.1.cell (i := 1) rfl, h.2.2.2.2.1.cell (i := 2) rfl, h.2.2.2.2.1.cell (i := 3) rfl, h.2.2.2.2.1.cell (i := 4) rfl, h.2.2.2.2.1.cell (i := 5) rfl⟩⟩
            have k0 : Below wc.heap.size wc wc.drew := (Below.refl _ _).drew
            have q0 := HQ.out _ k0
            clear hbig HB5 HB0 HSA2 HSB2 HNA HNB
            go_wp2_with fail
            go_region_held3 (fun w' => Cs w.heap.size nm (.slice (some ⟨b, o, none⟩) l.length c) dp dn gx gz w' ∧ Cs (w.heap.size + 1 + 1 + 1) na (.slice pa ma ca) da ea ga ha w' ∧ Cs (w.heap.size + 1 + 1 + 1 + 1) nb (.slice pb mb cb) db eb gb ib w')
              (first | (with_reducible exact q4) | (with_reducible exact q3) | (with_reducible exact q2) | (with_reducible exact q1) | (with_reducible exact q0))
              (first
                | (go_at_call 80; (with_reducible refine (HPC1.out wc.drew k0).mono ?_); rintro e w6 ⟨⟨v6, rfl, ho6⟩, hb6⟩
                   have k1 := Below.thru k0 k0.size hb6; have q1 := HQ.out _ k1; obtain ⟨a6, m6, c66, rfl⟩ := own_form ho6; have O6 := Lib.hid (OwnR.base (b2 := 0) ho6 (Nat.zero_le _)); clear ho6 hb6)
                | (go_at_call 28; (with_reducible refine (HSA3.out w6 _ k1 O6.out).mono ?_); rintro e w7 ⟨rfl, hb7⟩
                   have k2 := Below.thru k1 k1.size hb7; have q2 := HQ.out _ k2; clear hb7)
                | (go_at_call 80; (with_reducible refine (HPC2.out w7 k2).mono ?_); rintro e w8 ⟨⟨v8, rfl, ho8⟩, hb8⟩
                   have k3 := Below.thru k2 k2.size hb8; have q3 := HQ.out _ k3; obtain ⟨a8, m8, c88, rfl⟩ := own_form ho8; have O8 := Lib.hid (OwnR.base (b2 := 0) ho8 (Nat.zero_le _)); clear ho8 hb8)
                | (go_at_call 28; (with_reducible refine (HSB3.out w8 _ k3 O8.out).mono ?_); rintro e w9 ⟨rfl, hb9⟩
                   have k4 := Below.thru k3 k3.size hb9; have q4 := HQ.out _ k4; have K10 := Lib.hid (Below.thru KW.out KW.out.size k4); clear hb9))
            all_goals
              go_wp2
              go_ret
              exact ⟨rfl, K10.out⟩
end Go.Proofs.Ytljmhejljpfaiaa

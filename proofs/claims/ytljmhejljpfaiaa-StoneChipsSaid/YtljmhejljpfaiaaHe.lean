import Derived.Test.YtljmhejljpfaiaaHc
import Derived.BigRegion
namespace Go.Proofs.Ytljmhejljpfaiaa
set_option maxRecDepth 100000
open Go.RowKit Go.Shelf

/-! the reference's Steps -/
theorem OwnR.at {w : World} {base : Nat} {v : Value} {l : List Pt} (h : OwnR w base v l) (h3 : 0 < l.length) : ∃ g c, v = .slice (Option.some ⟨g, 0, Option.none⟩) l.length c ∧ Row w g 0 l ∧ base ≤ g := by
  rcases h.row with ⟨_, h0⟩ | ⟨g, c, h1, hr, hb, _⟩
  · subst h0; simp at h3
  · exact ⟨g, c, h1, hr, hb⟩
def RSt (l : List Pt) (corner back on : Int) (w : World) (e : Ending) (w' : World) : Prop :=
  ((¬ ChOk l corner back on ∧ e = .returned (.tuple #[.agg #[.int .i64 0, .int .i64 0], .agg #[.int .i64 0, .int .i64 0], .bool false])) ∨
   (ChOk l corner back on ∧ e = .returned (.tuple #[.agg #[.int .i64 (stK l corner.toNat (pvx l corner.toNat) back).1, .int .i64 (stK l corner.toNat (pvx l corner.toNat) back).2], .agg #[.int .i64 (stK l corner.toNat (nx l.length corner.toNat) on).1, .int .i64 (stK l corner.toNat (nx l.length corner.toNat) on).2], .bool true]))) ∧ Below w.heap.size w w'
set_option maxHeartbeats 16000000 in
theorem rsteps_any (nm : ByteArray) (b o c : Nat) (l : List Pt) (dp dn gx gz : Int) (corner back on : Int) (w : World) (hr : Row w b o l) (h3 : 3 ≤ l.length) (h12 : l.length ≤ 12) (hx : Bx l) (ht : Tr l) :
    Calls Try.prog 43 #[.agg (c6 nm (.slice (some ⟨b, o, none⟩) l.length c) dp dn gx gz), .int .i64 corner, .int .i64 back, .int .i64 on] w (RSt l corner back on w) := by
  have HR := Lib.hid (fun W (k : Below w.heap.size w W) => hr.keep k)
  have HX := Lib.hid hx; have HTR := Lib.hid ht
  have HNO : Hid (∀ W, ¬ ChOk l corner back on → Below w.heap.size w W → RSt l corner back on w (.returned (.tuple #[.agg #[.int .i64 0, .int .i64 0], .agg #[.int .i64 0, .int .i64 0], .bool false])) W) := fun W h k => ⟨.inl ⟨h, rfl⟩, k⟩
  have HYE : Hid (∀ (k : Nat) W, corner = (k : Int) → ChOk l corner back on → Below w.heap.size w W → RSt l corner back on w (.returned (.tuple #[.agg #[.int .i64 (stK l k (pvx l k) back).1, .int .i64 (stK l k (pvx l k) back).2], .agg #[.int .i64 (stK l k (nx l.length k) on).1, .int .i64 (stK l k (nx l.length k) on).2], .bool true])) W) := fun k W e h kk => ⟨.inr ⟨h, by subst e; rw [Int.toNat_natCast]⟩, kk⟩
  have HOD : Hid (ChOk l corner back on ↔ ∃ k : Nat, corner = k ∧ k < l.length ∧ (1 ≤ back ∧ back ≤ (snK l k (pvx l k) : Nat)) ∧ (1 ≤ on ∧ on ≤ (snK l k (nx l.length k) : Nat))) := Iff.rfl
  have hbw := hr.lt (by omega)
  clear hr hx ht
  generalize RSt l corner back on w = PP at *
  generalize ChOk l corner back on = OKP at *
  have k0 : Below w.heap.size w (((w.alloc (.cells (c6 nm (.slice (some ⟨b, o, none⟩) l.length c) dp dn gx gz) 26)).alloc (.cells #[.int .i64 0, .int .i64 0] 24)).alloc (.cells #[.int .i64 0, .int .i64 0] 24)) := bl3 w _ _ _
  have b0 : Blk w.heap.size (c6 nm (.slice (some ⟨b, o, none⟩) l.length c) dp dn gx gz) 26 (((w.alloc (.cells (c6 nm (.slice (some ⟨b, o, none⟩) l.length c) dp dn gx gz) 26)).alloc (.cells #[.int .i64 0, .int .i64 0] 24)).alloc (.cells #[.int .i64 0, .int .i64 0] 24)) ∧ B2 (w.heap.size + 1) 0 0 (((w.alloc (.cells (c6 nm (.slice (some ⟨b, o, none⟩) l.length c) dp dn gx gz) 26)).alloc (.cells #[.int .i64 0, .int .i64 0] 24)).alloc (.cells #[.int .i64 0, .int .i64 0] 24)) ∧ B2 (w.heap.size + 1 + 1) 0 0 (((w.alloc (.cells (c6 nm (.slice (some ⟨b, o, none⟩) l.length c) dp dn gx gz) 26)).alloc (.cells #[.int .i64 0, .int .i64 0] 24)).alloc (.cells #[.int .i64 0, .int .i64 0] 24)) := ⟨((Blk.new w _ 26).alloc _).alloc _, ⟨by simp [go_sem], by simp [go_sem], by simp [go_sem], by simp [go_sem]⟩, ⟨by simp [go_sem], by simp [go_sem], by simp [go_sem], by simp [go_sem]⟩⟩
  have hsz : (((w.alloc (.cells (c6 nm (.slice (some ⟨b, o, none⟩) l.length c) dp dn gx gz) 26)).alloc (.cells #[.int .i64 0, .int .i64 0] 24)).alloc (.cells #[.int .i64 0, .int .i64 0] 24)).heap.size = w.heap.size + 3 := by simp
  have s1 := b0.1.cell (i := 1) rfl
  by_cases hcr : 0 ≤ corner ∧ corner < (l.length : Int)
  · obtain ⟨k, rfl⟩ : ∃ k : Nat, corner = (k : Int) := ⟨corner.toNat, by omega⟩
    have hkn : k < l.length := by omega
    have hk0 : ¬ (k : Int) < 0 := by omega
    have hk1 : ¬ (l.length : Int) ≤ (k : Int) := by omega
    obtain ⟨ckx, ckz⟩ := HR.out _ k0 k hkn
    go_enter Try.func43, Try.ntmps43
    go_wp2_with fail
    generalize (((w.alloc (.cells (c6 nm (.slice (some ⟨b, o, none⟩) l.length c) dp dn gx gz) 26)).alloc (.cells #[.int .i64 0, .int .i64 0] 24)).alloc (.cells #[.int .i64 0, .int .i64 0] 24)) = w0 at *
    have HBS : Hid (∀ W, Below w0.heap.size w0 W → Blk w.heap.size (c6 nm (.slice (some ⟨b, o, none⟩) l.length c) dp dn gx gz) 26 W ∧ B2 (w.heap.size + 1) 0 0 W ∧ B2 (w.heap.size + 1 + 1) 0 0 W ∧ Below w.heap.size w W) := fun W k => ⟨b0.1.below k, b0.2.1.keep k, b0.2.2.keep k, Below.thru k0 k0.size k⟩
    have HLW : Hid (∀ W, Below w0.heap.size w0 W → w.heap.size + 3 ≤ W.heap.size) := fun W kk => by have := kk.size; omega
    have hb5 : Below w0.heap.size w0 (w0.alloc (.cells #[.int .i64 (px l k), .int .i64 (pz l k)] 24)) := bl1 _ _
    have hB5 : B2 w0.heap.size (px l k) (pz l k) (w0.alloc (.cells #[.int .i64 (px l k), .int .i64 (pz l k)] 24)) := ⟨by simp [go_sem], by simp [go_sem], by simp [go_sem], by simp [go_sem]⟩
    generalize w0.alloc (.cells #[.int .i64 (px l k), .int .i64 (pz l k)] 24) = w5 at *
    have K5 := Lib.hid hb5
    have HL5 : Hid (w.heap.size + 3 ≤ w5.heap.size) := by have := hb5.size; show _ ≤ _; omega
    have hm1 : pvx l k < l.length := Nat.mod_lt _ (by omega)
    have hm2 := nx_lt hkn
    have hn0 : ¬ (l.length : Int) = 0 := by omega
    have hr1 : ((k : Int) + (l.length : Int) - 1) % (l.length : Int) = ((pvx l k : Nat) : Int) := by
      unfold pvx
      rw [Int.natCast_emod]; congr 1; omega
    have hr2 : ((k : Int) + 1) % (l.length : Int) = ((nx l.length k : Nat) : Int) := by unfold nx; rw [Int.natCast_emod]; rfl
    have hw1 : IntKind.i64.wrap ((k : Int) + (l.length : Int)) = (k : Int) + (l.length : Int) := IntWalk.i64_in _ (by omega)
    have hw2 : IntKind.i64.wrap ((k : Int) + (l.length : Int) - 1) = (k : Int) + (l.length : Int) - 1 := IntWalk.i64_in _ (by omega)
    have hw3 : IntKind.i64.wrap ((k : Int) + 1) = (k : Int) + 1 := IntWalk.i64_in _ (by omega)
    have ht1 : ((k : Int) + (l.length : Int) - 1).tmod (l.length : Int) = ((pvx l k : Nat) : Int) := by rw [Int.tmod_eq_emod_of_nonneg (by omega)]; exact hr1
    have ht2 : ((k : Int) + 1).tmod (l.length : Int) = ((nx l.length k : Nat) : Int) := by rw [Int.tmod_eq_emod_of_nonneg (by omega)]; exact hr2
    have hj1 : (0 : Int) ≤ ((pvx l k : Nat) : Int) := by omega
    have hj2 : ((pvx l k : Nat) : Int) < (l.length : Int) := by omega
    have hj3 : (0 : Int) ≤ ((nx l.length k : Nat) : Int) := by omega
    have hj4 : ((nx l.length k : Nat) : Int) < (l.length : Int) := by omega
    have hn9 : ¬ l.length = 0 := by omega
    have hnl : ¬ l = [] := fun e => by rw [e] at hkn; simp at hkn
    have hxk := HX.out k hkn
    have hx1 := HX.out _ hm1
    have hx2 := HX.out _ hm2
    have HA1 := Lib.hid (fun W => along_any (px l k) (pz l k) (px l (pvx l k)) (pz l (pvx l k)) W hxk.1 hxk.2 hx1.1 hx1.2 (ne_pv HTR.out h3 hkn))
    have HA2 := Lib.hid (fun W => along_any (px l k) (pz l k) (px l (nx l.length k)) (pz l (nx l.length k)) W hxk.1 hxk.2 hx2.1 hx2.2 (ne_nx HTR.out h3 hkn))
    have HC : Hid (∀ W, Below w5.heap.size w5 W → W.cell? ⟨w.heap.size, 1, none⟩ = some (.slice (some ⟨b, o, none⟩) l.length c) ∧ W.cell? ⟨w.heap.size + 3, 0, none⟩ = some (.int .i64 (px l k)) ∧ W.cell? ⟨w.heap.size + 3, 1, none⟩ = some (.int .i64 (pz l k)) ∧
      W.cell? ⟨b, o + pvx l k * 2, none⟩ = some (.int .i64 (px l (pvx l k))) ∧ W.cell? ⟨b, o + pvx l k * 2 + 1, none⟩ = some (.int .i64 (pz l (pvx l k))) ∧ W.cell? ⟨b, o + nx l.length k * 2, none⟩ = some (.int .i64 (px l (nx l.length k))) ∧ W.cell? ⟨b, o + nx l.length k * 2 + 1, none⟩ = some (.int .i64 (pz l (nx l.length k)))) := fun W kk => by
      have h := HBS.out W (Below.thru K5.out K5.out.size kk)
      have hb := hB5.keep kk
      rw [hsz] at hb
      have r1 := HR.out W h.2.2.2 _ hm1
      have r2 := HR.out W h.2.2.2 _ hm2
      exact ⟨h.1.cell (i := 1) rfl, hb.1, hb.2.1, r1.1, r1.2, r2.1, r2.2⟩
    have k00 : Below w5.heap.size w5 w5.drew := (Below.refl _ _).drew
    have q00 := HC.out _ k00
    clear b0 k0 hsz s1 ckx ckz hb5 hB5 hxk hx1 hx2
    go_upto_region 5 with fail
    go_cut [13, 14] (fun v1 v2 wc => ∃ g1 c1 g2 c2, v1 = .slice (some ⟨g1, 0, none⟩) (alg (px l k) (pz l k) (px l (pvx l k)) (pz l (pvx l k))).length c1 ∧ v2 = .slice (some ⟨g2, 0, none⟩) (alg (px l k) (pz l k) (px l (nx l.length k)) (pz l (nx l.length k))).length c2 ∧ Hid ((Row wc g1 0 (alg (px l k) (pz l k) (px l (pvx l k)) (pz l (pvx l k))) ∧ Row wc g2 0 (alg (px l k) (pz l k) (px l (nx l.length k)) (pz l (nx l.length k)))) ∧ Below w5.heap.size w5 wc ∧ w5.heap.size ≤ g1 ∧ w5.heap.size ≤ g2))
    case first =>
      rename_i J K' hJ hK
      have q0 := q00
      have k0 := k00
      clear q00 k00
      go_region_held3 (fun W => W.cell? ⟨w.heap.size, 1, none⟩ = some (.slice (some ⟨b, o, none⟩) l.length c) ∧ W.cell? ⟨w.heap.size + 3, 0, none⟩ = some (.int .i64 (px l k)) ∧ W.cell? ⟨w.heap.size + 3, 1, none⟩ = some (.int .i64 (pz l k)) ∧
      W.cell? ⟨b, o + pvx l k * 2, none⟩ = some (.int .i64 (px l (pvx l k))) ∧ W.cell? ⟨b, o + pvx l k * 2 + 1, none⟩ = some (.int .i64 (pz l (pvx l k))) ∧ W.cell? ⟨b, o + nx l.length k * 2, none⟩ = some (.int .i64 (px l (nx l.length k))) ∧ W.cell? ⟨b, o + nx l.length k * 2 + 1, none⟩ = some (.int .i64 (pz l (nx l.length k))))
        (first | (with_reducible exact q2) | (with_reducible exact q1) | (with_reducible exact q0))
        (first
          | (go_at_call 85; (with_reducible refine (HA1.out w5.drew).mono ?_); rintro e w6 ⟨⟨v6, rfl, ho6⟩, hb6⟩
             have k1 := Below.thru k0 k0.size hb6; have q1 := HC.out _ k1; obtain ⟨g1, c1, rfl, hr6, hg1⟩ := OwnR.at ho6 (by rw [alg_length]; omega); have O6 := Lib.hid (And.intro hr6 hg1); clear ho6 hb6 hr6 hg1)
          | (go_at_call 85; (with_reducible refine (HA2.out w6).mono ?_); rintro e w7 ⟨⟨v7, rfl, ho7⟩, hb7⟩
             have k2 := Below.thru k1 k1.size hb7; have q2 := HC.out _ k2; obtain ⟨g2, c2, rfl, hr7, hg2⟩ := OwnR.at ho7 (by rw [alg_length]; omega); have O7 := Lib.hid (And.intro (And.intro (O6.out.1.keep hb7) hr7) (And.intro k2 (And.intro O6.out.2 (Nat.le_trans k1.size hg2)))); clear ho7 hb7 hr7 hg2))
      all_goals
        refine hK _ _ (Met.intro (hJ _ _ ?_))
        (repeat apply Exists.intro)
        refine ⟨⟨_, _, _, _, rfl, rfl, O7.out⟩, rfl⟩
    obtain ⟨g1, c1, g2, c2, rfl, rfl, HCU⟩ := hcut
    have HOE : Hid (OKP ↔ (1 ≤ back ∧ back ≤ (snK l k (pvx l k) : Nat)) ∧ (1 ≤ on ∧ on ≤ (snK l k (nx l.length k) : Nat))) := ⟨fun h => by
        obtain ⟨k', e, hk', h1, h2⟩ := HOD.out.1 h
        obtain rfl : k = k' := by omega
        exact ⟨h1, h2⟩, fun ⟨h1, h2⟩ => HOD.out.2 ⟨k, rfl, hkn, h1, h2⟩⟩
    have HP1 : Hid (∀ j : Nat, j < snK l k (pvx l k) + 1 → wc.cell? ⟨g1, j * 2, none⟩ = some (.int .i64 (stK l k (pvx l k) j).1) ∧ wc.cell? ⟨g1, j * 2 + 1, none⟩ = some (.int .i64 (stK l k (pvx l k) j).2)) := fun j hj => by
      have h := HCU.out.1.1 j (by rw [alg_length]; exact hj)
      have e := alg_at (px l k) (pz l k) (px l (pvx l k)) (pz l (pvx l k)) (k := j) hj
      rw [e.1, e.2] at h
      simp only [Nat.zero_add] at h
      exact h
    have HP2 : Hid (∀ j : Nat, j < snK l k (nx l.length k) + 1 → wc.cell? ⟨g2, j * 2, none⟩ = some (.int .i64 (stK l k (nx l.length k) j).1) ∧ wc.cell? ⟨g2, j * 2 + 1, none⟩ = some (.int .i64 (stK l k (nx l.length k) j).2)) := fun j hj => by
      have h := HCU.out.1.2 j (by rw [alg_length]; exact hj)
      have e := alg_at (px l k) (pz l k) (px l (nx l.length k)) (pz l (nx l.length k)) (k := j) hj
      rw [e.1, e.2] at h
      simp only [Nat.zero_add] at h
      exact h
    have hl1 : (alg (px l k) (pz l k) (px l (pvx l k)) (pz l (pvx l k))).length = snK l k (pvx l k) + 1 := alg_length _ _ _ _
    have hl2 : (alg (px l k) (pz l k) (px l (nx l.length k)) (pz l (nx l.length k))).length = snK l k (nx l.length k) + 1 := alg_length _ _ _ _
    have KC := Lib.hid (Below.thru K5.out K5.out.size HCU.out.2.1)
    have hg1 := HCU.out.2.2.1
    have hg2 := HCU.out.2.2.2
    have hl5 := HL5.out
    rw [hl1, hl2]
    clear hl1 hl2 hr1 hr2 hw1 hw2 hw3 ht1 ht2 hj1 hj2 hj3 hj4 HCU HC HA1 HA2 q00 k00
    generalize hn1 : snK l k (pvx l k) + 1 = n1 at *
    generalize hn2 : snK l k (nx l.length k) + 1 = n2 at *
    have hcs : back < 1 ∨ (¬ back < 1 ∧ (n1 : Int) ≤ back) ∨ (¬ back < 1 ∧ ¬ (n1 : Int) ≤ back ∧ on < 1) ∨ (¬ back < 1 ∧ ¬ (n1 : Int) ≤ back ∧ ¬ on < 1 ∧ (n2 : Int) ≤ on) ∨ (¬ back < 1 ∧ ¬ (n1 : Int) ≤ back ∧ ¬ on < 1 ∧ ¬ (n2 : Int) ≤ on) := by omega
    rcases hcs with u1 | ⟨u1, u2⟩ | ⟨u1, u2, u3⟩ | ⟨u1, u2, u3, u4⟩ | ⟨u1, u2, u3, u4⟩
    · have HF : Hid (¬ OKP) := fun h => by have := HOE.out.1 h; omega
      have q2 := HBS.out _ KC.out
      obtain ⟨zc0, zc1, zf0, zf1⟩ := q2.2.1
      obtain ⟨yc0, yc1, yf0, yf1⟩ := q2.2.2.1
      have hl := HLW.out _ KC.out
      have KK := Lib.hid q2.2.2.2
      clear q2
      go_wp2
      refine bodyPost_ret (v := .tuple #[.agg #[.int .i64 0, .int .i64 0], .agg #[.int .i64 0, .int .i64 0], .bool false]) (by simp [results, Try.results43, go_sem, zc0, zc1, yc0, yc1]) rfl (HNO.out _ HF.out (below_put (below_put KK.out (by omega) _ _) (by omega) _ _))
    · have HF : Hid (¬ OKP) := fun h => by have := HOE.out.1 h; omega
      have q2 := HBS.out _ KC.out
      obtain ⟨zc0, zc1, zf0, zf1⟩ := q2.2.1
      obtain ⟨yc0, yc1, yf0, yf1⟩ := q2.2.2.1
      have hl := HLW.out _ KC.out
      have KK := Lib.hid q2.2.2.2
      clear q2
      go_wp2
      refine bodyPost_ret (v := .tuple #[.agg #[.int .i64 0, .int .i64 0], .agg #[.int .i64 0, .int .i64 0], .bool false]) (by simp [results, Try.results43, go_sem, zc0, zc1, yc0, yc1]) rfl (HNO.out _ HF.out (below_put (below_put KK.out (by omega) _ _) (by omega) _ _))
    · have HF : Hid (¬ OKP) := fun h => by have := HOE.out.1 h; omega
      have q2 := HBS.out _ KC.out
      obtain ⟨zc0, zc1, zf0, zf1⟩ := q2.2.1
      obtain ⟨yc0, yc1, yf0, yf1⟩ := q2.2.2.1
      have hl := HLW.out _ KC.out
      have KK := Lib.hid q2.2.2.2
      clear q2
      go_wp2
      refine bodyPost_ret (v := .tuple #[.agg #[.int .i64 0, .int .i64 0], .agg #[.int .i64 0, .int .i64 0], .bool false]) (by simp [results, Try.results43, go_sem, zc0, zc1, yc0, yc1]) rfl (HNO.out _ HF.out (below_put (below_put KK.out (by omega) _ _) (by omega) _ _))
    · have HF : Hid (¬ OKP) := fun h => by have := HOE.out.1 h; omega
      have q2 := HBS.out _ KC.out
      obtain ⟨zc0, zc1, zf0, zf1⟩ := q2.2.1
      obtain ⟨yc0, yc1, yf0, yf1⟩ := q2.2.2.1
      have hl := HLW.out _ KC.out
      have KK := Lib.hid q2.2.2.2
      clear q2
      go_wp2
      refine bodyPost_ret (v := .tuple #[.agg #[.int .i64 0, .int .i64 0], .agg #[.int .i64 0, .int .i64 0], .bool false]) (by simp [results, Try.results43, go_sem, zc0, zc1, yc0, yc1]) rfl (HNO.out _ HF.out (below_put (below_put KK.out (by omega) _ _) (by omega) _ _))
    · have HF : Hid OKP := HOE.out.2 (by omega)
      obtain ⟨kb, rfl⟩ : ∃ kb : Nat, back = (kb : Int) := ⟨back.toNat, by omega⟩
      obtain ⟨ko, rfl⟩ : ∃ ko : Nat, on = (ko : Int) := ⟨on.toNat, by omega⟩
      obtain ⟨r0, r1⟩ := HP1.out kb (by omega)
      obtain ⟨t0, t1⟩ := HP2.out ko (by omega)
      have HYK := Lib.hid (fun W => HYE.out k W rfl HF.out)
      generalize (stK l k (pvx l k) kb).1 = A1 at *
      generalize (stK l k (pvx l k) kb).2 = A2 at *
      generalize (stK l k (nx l.length k) ko).1 = A3 at *
      generalize (stK l k (nx l.length k) ko).2 = A4 at *
      have q2 := HBS.out _ KC.out
      obtain ⟨zc0, zc1, zf0, zf1⟩ := q2.2.1
      obtain ⟨yc0, yc1, yf0, yf1⟩ := q2.2.2.1
      have hl := HLW.out _ KC.out
      have KK := Lib.hid q2.2.2.2
      have hne1 : ¬ g1 = w.heap.size + 1 := by omega
      have hne2 : ¬ g1 = w.heap.size + 1 + 1 := by omega
      have hne3 : ¬ g2 = w.heap.size + 1 := by omega
      have hne4 : ¬ g2 = w.heap.size + 1 + 1 := by omega
      clear q2 HYE HNO HOE HP1 HP2
      go_wp2_with fail
      go_region
      all_goals
        go_wp2
        refine bodyPost_ret (v := .tuple #[.agg #[.int .i64 A1, .int .i64 A2], .agg #[.int .i64 A3, .int .i64 A4], .bool true]) (by simp [results, Try.results43, go_sem, zc0, zc1, yc0, yc1]) rfl (HYK.out _ ((below_put (below_put KK.out (by omega) _ _) (by omega) _ _).drew))
  · have HF : Hid (¬ OKP) := fun h => by
      obtain ⟨k', e, hk', _⟩ := HOD.out.1 h
      exact hcr ⟨by omega, by omega⟩
    have hcs : corner < 0 ∨ (¬ corner < 0 ∧ (l.length : Int) ≤ corner) := by omega
    have hz := b0.2.1
    have hy := b0.2.2
    obtain ⟨zc0, zc1, zf0, zf1⟩ := hz
    obtain ⟨yc0, yc1, yf0, yf1⟩ := hy
    have KK := Lib.hid k0
    clear b0 k0 hsz
    rcases hcs with u1 | ⟨u1, u2⟩
    · go_enter Try.func43, Try.ntmps43
      go_wp2
      refine bodyPost_ret (v := .tuple #[.agg #[.int .i64 0, .int .i64 0], .agg #[.int .i64 0, .int .i64 0], .bool false]) (by simp [results, Try.results43, go_sem, zc0, zc1, yc0, yc1]) rfl (HNO.out _ HF.out (by first | exact KK.out | exact below_put (below_put KK.out (by omega) _ _) (by omega) _ _))
    · go_enter Try.func43, Try.ntmps43
      go_wp2
      refine bodyPost_ret (v := .tuple #[.agg #[.int .i64 0, .int .i64 0], .agg #[.int .i64 0, .int .i64 0], .bool false]) (by simp [results, Try.results43, go_sem, zc0, zc1, yc0, yc1]) rfl (HNO.out _ HF.out (by first | exact KK.out | exact below_put (below_put KK.out (by omega) _ _) (by omega) _ _))
end Go.Proofs.Ytljmhejljpfaiaa

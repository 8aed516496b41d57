import Derived.Test.YtljmhejljpfaiaaIb
import Derived.Test.YtljmhejljpfaiaaGg
namespace Go.Proofs.Ytljmhejljpfaiaa
set_option maxRecDepth 100000
open Go.RowKit Go.Shelf

/-! the reference's Sure -/
theorem tw_fan (l : List Pt) : ∀ j, pI l 0 j + cr2 (pc l j) (pc l 0) = rsm (fun k => D3 (pc l 0) (pc l k) (pc l (k + 1))) j
  | 0 => by show 0 + cr2 (pc l 0) (pc l 0) = 0; rw [cr2_self]; rfl
  | j + 1 => by
    have ih := tw_fan l j
    have e1 := pI_add l 0 j 1
    rw [pI_one, Nat.zero_add] at e1
    have e2 : D3 (pc l 0) (pc l j) (pc l (j + 1)) = cr2 (pc l j) (pc l (j + 1)) + cr2 (pc l (j + 1)) (pc l 0) - cr2 (pc l j) (pc l 0) := by unfold D3 cr2; grind
    show _ = rsm (fun k => D3 (pc l 0) (pc l k) (pc l (k + 1))) j + D3 (pc l 0) (pc l j) (pc l (j + 1))
    rw [e1, e2]
    omega
theorem rsm_nn {f : Nat → Int} : ∀ j, (∀ k, k < j → 0 ≤ f k) → 0 ≤ rsm f j
  | 0, _ => Int.le_refl _
  | j + 1, h => by
    have := rsm_nn j fun k hk => h k (by omega)
    have := h j (by omega)
    show 0 ≤ rsm f j + f j
    omega
theorem tw_nn {l : List Pt} (ht : Tr l) : 0 ≤ tw l := by
  have h := tw_fan l l.length
  have e : pc l l.length = pc l 0 := by have := pc_add l 0; rwa [Nat.zero_add] at this
  rw [e, cr2_self] at h
  have h2 : 0 ≤ rsm (fun k => D3 (pc l 0) (pc l k) (pc l (k + 1))) l.length := rsm_nn _ fun k hk => ht.cyc0 (by omega) (by omega) (by omega)
  rw [tw_pI]
  omega
/-- the least of the first k -/
def sur (f : Pt → Int) (L : List Pt) : Nat → Int
  | 0 => -1
  | k + 1 => if sur f L k < 0 ∨ f (px L k, pz L k) < sur f L k then f (px L k, pz L k) else sur f L k
/-- what the reference compares -/
def grR (l : List Pt) (p q : Pt) : Int := max (tw (leftR l p q)) (tw (leftR l q p))
/-- what the program does -/
def grP (l : List Pt) (p q : Pt) : Int := max (tw (partL l p q)) (tw l - tw (partL l p q))
theorem CanC.swap {l : List Pt} {x1 z1 x2 z2 : Int} (h : CanC l x1 z1 x2 z2) : CanC l x2 z2 x1 z1 := fun i hi => by
  have := h i hi
  unfold both at *
  rw [Bool.and_comm]
  exact this
theorem gr_eq {l : List Pt} {p q : Pt} (ht : Tr l) (h3 : 3 ≤ l.length) (hp : IsP l p.1 p.2) (hq : IsP l q.1 q.2) (hc : CanC l p.1 p.2 q.1 q.2) : grR l p q = grP l p q := by
  unfold grR grP
  rw [tw_left ht h3 hp hq hc, tw_left ht h3 hq hp hc.swap]
  have := areas ht h3 hp hq hc
  omega
theorem grP_nn {l : List Pt} (ht : Tr l) (p q : Pt) : 0 ≤ grP l p q := by
  have := tw_nn ht
  unfold grP
  omega
theorem sur_congr {f g : Pt → Int} {L : List Pt} (h : ∀ q, q ∈ L → f q = g q) : ∀ k, k ≤ L.length → sur f L k = sur g L k
  | 0, _ => rfl
  | k + 1, hk => by
    unfold sur
    rw [sur_congr h k (by omega), h _ (mem_p (by omega))]
set_option maxHeartbeats 16000000 in
theorem rsure_any (nm : ByteArray) (b o c g cq : Nat) (l Q : List Pt) (dp dn gx gz x z : Int) (w : World) (hr : Row w b o l) (hq : Row w g 0 Q) (h3 : 3 ≤ l.length) (h12 : l.length ≤ 12) (hx : Bx l) (ht : Tr l) (hp : IsP l x z)
    (hQ : ∀ q, q ∈ Q → IsP l q.1 q.2 ∧ CanC l x z q.1 q.2) (hQ0 : 0 < Q.length) (hQl : Q.length ≤ 30000) :
    Calls Try.prog 41 #[.agg (c6 nm (.slice (some ⟨b, o, none⟩) l.length c) dp dn gx gz), .agg #[.int .i64 x, .int .i64 z], .slice (some ⟨g, 0, none⟩) Q.length cq] w fun e w' => e = .returned (.int .i64 (sur (grR l (x, z)) Q Q.length)) ∧ Below w.heap.size w w' := by
  have HR := Lib.hid hr; have HRQ := Lib.hid hq; have HQ := Lib.hid hQ
  have hpb := hp.bd hx
  have HLF := Lib.hid (fun W (k : Below w.heap.size w W) fx fz (hf : (0 ≤ fx ∧ fx ≤ 2000) ∧ (0 ≤ fz ∧ fz ≤ 2000)) => left_any b o c l x z fx fz W (hr.keep k) (by omega) (by omega) hx (by unfold Sm; omega) (by unfold Sm; omega))
  have HRG := Lib.hid (fun W (k : Below w.heap.size w W) fx fz (hf : (0 ≤ fx ∧ fx ≤ 2000) ∧ (0 ≤ fz ∧ fz ≤ 2000)) => left_any b o c l fx fz x z W (hr.keep k) (by omega) (by omega) hx (by unfold Sm; omega) (by unfold Sm; omega))
  have HT := Lib.hid (fun fx fz (h : IsP l fx fz ∧ CanC l x z fx fz) W g c (hrow : Row W g 0 (leftR l (x, z) (fx, fz))) => rtwice_any g 0 c (leftR l (x, z) (fx, fz)) W hrow (by have := leftR_two l (x, z) (fx, fz); omega) (by
    have e := (stl_left (p := (x, z)) (q := (fx, fz)) ht h3 hp h.1 h.2).2
    have := partL_len l (fx, fz) (x, z) (eo_isp h.1) (eo_isp hp)
    omega) (leftR_bx (p := (x, z)) (q := (fx, fz)) ht h3 hx hp h.1 h.2))
  have HU := Lib.hid (fun fx fz (h : IsP l fx fz ∧ CanC l x z fx fz) W g c (hrow : Row W g 0 (leftR l (fx, fz) (x, z))) => rtwice_any g 0 c (leftR l (fx, fz) (x, z)) W hrow (by have := leftR_two l (fx, fz) (x, z); omega) (by
    have e := (stl_left (p := (fx, fz)) (q := (x, z)) ht h3 h.1 hp h.2.swap).2
    have := partL_len l (x, z) (fx, fz) (eo_isp hp) (eo_isp h.1)
    omega) (leftR_bx (p := (fx, fz)) (q := (x, z)) ht h3 hx h.1 hp h.2.swap))
  have HBQ : Hid (∀ q : Pt, q ∈ Q → (0 ≤ q.1 ∧ q.1 ≤ 2000) ∧ (0 ≤ q.2 ∧ q.2 ≤ 2000)) := fun q hq => (hQ q hq).1.bd hx
  have HS0 : Hid (sur (grR l (x, z)) Q 0 = -1) := rfl
  have HSS : Hid (∀ k, sur (grR l (x, z)) Q (k + 1) = if sur (grR l (x, z)) Q k < 0 ∨ grR l (x, z) (px Q k, pz Q k) < sur (grR l (x, z)) Q k then grR l (x, z) (px Q k, pz Q k) else sur (grR l (x, z)) Q k) := fun _ => rfl
  have HMP : Hid (∀ k, k < Q.length → (px Q k, pz Q k) ∈ Q) := fun k hk => mem_p hk
  have HGR : Hid (∀ fx fz, grR l (x, z) (fx, fz) = max (tw (leftR l (x, z) (fx, fz))) (tw (leftR l (fx, fz) (x, z)))) := fun _ _ => rfl
  have hbw := hr.lt (by omega)
  have hgw := hq.lt hQ0
  clear hr hq hx ht hp hQ h3
  generalize sur (grR l (x, z)) Q = SU at *
  obtain ⟨m, hm⟩ : ∃ m, m = Q.length := ⟨_, rfl⟩
  rw [← hm] at hQ0 hQl HMP ⊢
  have HM := Lib.hid hm
  clear hm
  have k0 : Below w.heap.size w ((w.alloc (.cells (c6 nm (.slice (some ⟨b, o, none⟩) l.length c) dp dn gx gz) 26)).alloc (.cells #[.int .i64 x, .int .i64 z] 24)) := bl2 w _ _
  have b0 : Blk w.heap.size (c6 nm (.slice (some ⟨b, o, none⟩) l.length c) dp dn gx gz) 26 ((w.alloc (.cells (c6 nm (.slice (some ⟨b, o, none⟩) l.length c) dp dn gx gz) 26)).alloc (.cells #[.int .i64 x, .int .i64 z] 24)) ∧ B2 (w.heap.size + 1) x z ((w.alloc (.cells (c6 nm (.slice (some ⟨b, o, none⟩) l.length c) dp dn gx gz) 26)).alloc (.cells #[.int .i64 x, .int .i64 z] 24)) := ⟨(Blk.new w _ 26).alloc _, ⟨by simp [go_sem], by simp [go_sem], by simp [go_sem], by simp [go_sem]⟩⟩
  go_enter Try.func41, Try.ntmps41
  go_wp2
  generalize ((w.alloc (.cells (c6 nm (.slice (some ⟨b, o, none⟩) l.length c) dp dn gx gz) 26)).alloc (.cells #[.int .i64 x, .int .i64 z] 24)) = w0 at *
  have HBS : Hid (∀ W, Below w0.heap.size w0 W → Blk w.heap.size (c6 nm (.slice (some ⟨b, o, none⟩) l.length c) dp dn gx gz) 26 W ∧ B2 (w.heap.size + 1) x z W ∧ Below w.heap.size w W) := fun W k => ⟨b0.1.below k, b0.2.keep k, Below.thru k0 k0.size k⟩
  clear b0 k0
  go_loopw [8, 9, 7] (fun i _ v wr => ∃ k : Nat, k ≤ m ∧ i = .int .i64 k ∧ v = .int .i64 (SU k) ∧ Below w0.heap.size w0 wr) (fun i _ _ _ => m - (intOf i).toNat)
  case atStart => exact ⟨0, Nat.zero_le _, rfl, by rw [HS0.out], Below.refl _ _⟩
  case round =>
    obtain ⟨k, hk, rfl, rfl, hB⟩ := hrel
    by_cases hkm : k < m
    · have HSK := Lib.hid (HSS.out k)
      have hmem := HMP.out k hkm
      have hvc := HQ.out _ hmem
      have hbd := HBQ.out _ hmem
      have KB := Lib.hid hB
      have HRK : Hid (∀ W, Below wr.heap.size wr W → Row W g 0 Q) := fun W kk => HRQ.out.keep (HBS.out W (Below.thru KB.out KB.out.size kk)).2.2
      have HCL : Hid (∀ W, Below wr.heap.size wr W → W.cell? ⟨g, k * 2, none⟩ = some (.int .i64 (px Q k)) ∧ W.cell? ⟨g, k * 2 + 1, none⟩ = some (.int .i64 (pz Q k))) := fun W kk => by
        have h := HRK.out W kk k (by rw [← HM.out]; exact hkm)
        simp only [Nat.zero_add] at h
        exact h
      dsimp only at hvc hbd
      generalize px Q k = fx at *
      generalize pz Q k = fz at *
      have HC : Hid (∀ W, Below wr.heap.size wr W → W.cell? ⟨w.heap.size, 1, none⟩ = some (.slice (some ⟨b, o, none⟩) l.length c) ∧ W.cell? ⟨w.heap.size + 1, 0, none⟩ = some (.int .i64 x) ∧ W.cell? ⟨w.heap.size + 1, 1, none⟩ = some (.int .i64 z) ∧ W.cell? ⟨g, k * 2, none⟩ = some (.int .i64 fx) ∧ W.cell? ⟨g, k * 2 + 1, none⟩ = some (.int .i64 fz)) := fun W kk => by
        have h := HBS.out W (Below.thru KB.out KB.out.size kk)
        exact ⟨h.1.cell (i := 1) rfl, h.2.1.1, h.2.1.2.1, (HCL.out W kk).1, (HCL.out W kk).2⟩
      have HL1 := Lib.hid (fun W (kk : Below wr.heap.size wr W) => HLF.out W (HBS.out W (Below.thru KB.out KB.out.size kk)).2.2 fx fz hbd)
      have HL2 := Lib.hid (fun W (kk : Below wr.heap.size wr W) => HRG.out W (HBS.out W (Below.thru KB.out KB.out.size kk)).2.2 fx fz hbd)
      have HT1 := Lib.hid (HT.out fx fz hvc)
      have HT2 := Lib.hid (HU.out fx fz hvc)
      have HG1 := Lib.hid (HGR.out fx fz)
      clear hmem hvc hbd HRK HCL HT HU HLF HRG HGR
      go_upto_region 5 with fail
      go_cut [9] (fun v wc => v = .int .i64 (grR l (x, z) (fx, fz)) ∧ Hid (Below wr.heap.size wr wc))
      case first =>
        rename_i J K' hJ hK
        have k0 : Below wr.heap.size wr wr.drew := (Below.refl _ _).drew
        have q0 := HC.out _ k0
        have hgl1 : (leftR l (x, z) (fx, fz)).length = (leftR l (x, z) (fx, fz)).length := rfl
        generalize hta : tw (leftR l (x, z) (fx, fz)) = ta at *
        generalize htb : tw (leftR l (fx, fz) (x, z)) = tb at *
        clear hta htb hgl1
        by_cases hlt : ta < tb
        · have HFE : Hid (grR l (x, z) (fx, fz) = tb) := by show _ = _; rw [HG1.out]; omega
          go_region_held3 (fun W => W.cell? ⟨w.heap.size, 1, none⟩ = some (.slice (some ⟨b, o, none⟩) l.length c) ∧ W.cell? ⟨w.heap.size + 1, 0, none⟩ = some (.int .i64 x) ∧ W.cell? ⟨w.heap.size + 1, 1, none⟩ = some (.int .i64 z) ∧ W.cell? ⟨g, k * 2, none⟩ = some (.int .i64 fx) ∧ W.cell? ⟨g, k * 2 + 1, none⟩ = some (.int .i64 fz))
            (first | (with_reducible exact q4) | (with_reducible exact q3) | (with_reducible exact q2) | (with_reducible exact q1) | (with_reducible exact q0))
            (first
              | (go_at_call 46; (with_reducible refine (HL1.out wr.drew k0).mono ?_); rintro e w6 ⟨⟨v6, rfl, ho6⟩, hb6⟩
                 have k1 := Below.thru k0 k0.size hb6; have q1 := HC.out _ k1; obtain ⟨g1, c1, rfl, hr6, -⟩ := OwnR.at' ho6 (by have := leftR_two l (x, z) (fx, fz); omega); have O6 := Lib.hid hr6; clear ho6 hb6 hr6)
              | (go_at_call 26; (with_reducible refine (HT1.out w6 _ _ O6.out).mono ?_); rintro e w7 ⟨rfl, hb7⟩
                 have k2 := Below.thru k1 k1.size hb7; have q2 := HC.out _ k2; clear hb7)
              | (go_at_call 46; (with_reducible refine (HL2.out w7 k2).mono ?_); rintro e w8 ⟨⟨v8, rfl, ho8⟩, hb8⟩
                 have k3 := Below.thru k2 k2.size hb8; have q3 := HC.out _ k3; obtain ⟨g2, c2, rfl, hr8, -⟩ := OwnR.at' ho8 (by have := leftR_two l (fx, fz) (x, z); omega); have O8 := Lib.hid hr8; clear ho8 hb8 hr8)
              | (go_at_call 26; (with_reducible refine (HT2.out w8 _ _ O8.out).mono ?_); rintro e w9 ⟨rfl, hb9⟩
                 have k4 := Below.thru k3 k3.size hb9; have q4 := HC.out _ k4; have K4 := Lib.hid k4; clear hb9))
          all_goals
            refine hK _ _ (Met.intro (hJ _ _ ?_))
            (repeat apply Exists.intro)
            refine ⟨⟨by (rw [HFE.out]; try rw [if_neg (by omega)]), K4.out⟩, rfl⟩
        · have HFE : Hid (grR l (x, z) (fx, fz) = ta) := by show _ = _; rw [HG1.out]; omega
          go_region_held3 (fun W => W.cell? ⟨w.heap.size, 1, none⟩ = some (.slice (some ⟨b, o, none⟩) l.length c) ∧ W.cell? ⟨w.heap.size + 1, 0, none⟩ = some (.int .i64 x) ∧ W.cell? ⟨w.heap.size + 1, 1, none⟩ = some (.int .i64 z) ∧ W.cell? ⟨g, k * 2, none⟩ = some (.int .i64 fx) ∧ W.cell? ⟨g, k * 2 + 1, none⟩ = some (.int .i64 fz))
            (first | (with_reducible exact q4) | (with_reducible exact q3) | (with_reducible exact q2) | (with_reducible exact q1) | (with_reducible exact q0))
            (first
              | (go_at_call 46; (with_reducible refine (HL1.out wr.drew k0).mono ?_); rintro e w6 ⟨⟨v6, rfl, ho6⟩, hb6⟩
                 have k1 := Below.thru k0 k0.size hb6; have q1 := HC.out _ k1; obtain ⟨g1, c1, rfl, hr6, -⟩ := OwnR.at' ho6 (by have := leftR_two l (x, z) (fx, fz); omega); have O6 := Lib.hid hr6; clear ho6 hb6 hr6)
              | (go_at_call 26; (with_reducible refine (HT1.out w6 _ _ O6.out).mono ?_); rintro e w7 ⟨rfl, hb7⟩
                 have k2 := Below.thru k1 k1.size hb7; have q2 := HC.out _ k2; clear hb7)
              | (go_at_call 46; (with_reducible refine (HL2.out w7 k2).mono ?_); rintro e w8 ⟨⟨v8, rfl, ho8⟩, hb8⟩
                 have k3 := Below.thru k2 k2.size hb8; have q3 := HC.out _ k3; obtain ⟨g2, c2, rfl, hr8, -⟩ := OwnR.at' ho8 (by have := leftR_two l (fx, fz) (x, z); omega); have O8 := Lib.hid hr8; clear ho8 hb8 hr8)
              | (go_at_call 26; (with_reducible refine (HT2.out w8 _ _ O8.out).mono ?_); rintro e w9 ⟨rfl, hb9⟩
                 have k4 := Below.thru k3 k3.size hb9; have q4 := HC.out _ k4; have K4 := Lib.hid k4; clear hb9))
          all_goals
            refine hK _ _ (Met.intro (hJ _ _ ?_))
            (repeat apply Exists.intro)
            refine ⟨⟨by (rw [HFE.out]; try rw [if_neg (by omega)]), K4.out⟩, rfl⟩
      obtain ⟨rfl, HWC⟩ := hcut
      have hB2 := Below.thru KB.out KB.out.size HWC.out
      clear HC HL1 HL2 HT1 HT2 HWC hB
      generalize grR l (x, z) (fx, fz) = n at *
      generalize SU k = sk at *
      have hcs : sk < 0 ∨ (¬ sk < 0 ∧ n < sk) ∨ (¬ sk < 0 ∧ ¬ n < sk) := by omega
      rcases hcs with u1 | ⟨u1, u2⟩ | ⟨u1, u2⟩
      · have HE : Hid (SU (k + 1) = n) := by show _ = _; rw [HSK.out, if_pos (.inl u1)]
        go_wp2
        go_roundw
        case rel => exact ⟨k + 1, by omega, by go_num, by rw [HE.out], hB2⟩
        case measure => simp [intOf]; omega
      · have HE : Hid (SU (k + 1) = n) := by show _ = _; rw [HSK.out, if_pos (.inr u2)]
        go_wp2
        go_roundw
        case rel => exact ⟨k + 1, by omega, by go_num, by rw [HE.out], hB2⟩
        case measure => simp [intOf]; omega
      · have HE : Hid (SU (k + 1) = sk) := by show _ = _; rw [HSK.out, if_neg (fun h => h.elim u1 u2)]
        go_wp2
        go_roundw
        case rel => exact ⟨k + 1, by omega, by go_num, by rw [HE.out], hB2⟩
        case measure => simp [intOf]; omega
    · obtain rfl : k = m := by omega
      have HK := Lib.hid (HBS.out _ hB).2.2
      go_wp2
      go_ret
      exact ⟨rfl, HK.out⟩
end Go.Proofs.Ytljmhejljpfaiaa

import Derived.Test.YtljmhejljpfaiaaGreatQr
import Derived.Test.YtljmhejljpfaiaaGreatQp
import Derived.Test.YtljmhejljpfaiaaGreatDb
namespace Go.Proofs.YtljmhejljpfaiaaGreat
set_option maxRecDepth 100000
open Go.RowKit Go.Shelf

/-! StoneHulls -/
/-- what the reference wants of the hull -/
def RefH (l H : List Pt) : Prop := 3 ≤ H.length ∧ H.Nodup ∧ (∀ x, x ∈ H → x ∈ l) ∧ (∀ p, p ∈ l → lxe (H.getD 0 (0, 0)) p) ∧ ∀ k, k < H.length → Nx l (H.getD k (0, 0)) (H.getD ((k + 1) % H.length) (0, 0))
theorem flt_perm {S l : List Pt} (h : S.Perm l) : Flt S ↔ Flt l :=
  ⟨fun f a b c ha hb hc => f a b c (h.mem_iff.2 ha) (h.mem_iff.2 hb) (h.mem_iff.2 hc), fun f a b c ha hb hc => f a b c (h.mem_iff.1 ha) (h.mem_iff.1 hb) (h.mem_iff.1 hc)⟩
theorem flt_few {l : List Pt} (h : l.length ≤ 1) : Flt l := by
  match l, h with
  | [], _ => exact fun a b c ha => by simp at ha
  | [p], _ => exact flat_one (c := p) fun q hq => by simpa using hq
theorem HF.facts {l H : List Pt} (h : HF l H) (h12 : l.length ≤ 400) : (Flt l ↔ H.length < 3) ∧ (¬ Flt l → RefH l H) ∧ H.length ≤ 1000 := by
  rcases h with ⟨h1, h2⟩ | ⟨S, hp, hw, rfl⟩
  · exact ⟨⟨fun _ => h2, fun _ => flt_few h1⟩, fun hf => absurd (flt_few h1) hf, by omega⟩
  · have hl := hp.length_eq
    have hh := hullL_le S
    by_cases hne : S = []
    · subst hne
      have : l = [] := List.length_eq_zero_iff.1 (by simpa using hl.symm)
      subst this
      exact ⟨⟨fun _ => by simp [hullL, chn], fun _ => flt_few (by simp)⟩, fun hf => absurd (flt_few (by simp)) hf, by omega⟩
    · by_cases hf : Flt S
      · exact ⟨⟨fun _ => hull_flat hne hw hf, fun _ => (flt_perm hp).1 hf⟩, fun h => absurd ((flt_perm hp).1 hf) h, by omega⟩
      · have hm := hull_main hne hw hf
        have hfl : ¬ Flt l := fun h => hf ((flt_perm hp).2 h)
        refine ⟨⟨fun h => absurd h hfl, fun h => by omega⟩, fun _ => ⟨hm.1, hm.2.1, fun x hx => hp.mem_iff.1 (hm.2.2.1 x hx), fun p hp' => hm.2.2.2.1 p (hp.mem_iff.2 hp'), fun k hk => ?_⟩, by omega⟩
        obtain ⟨n1, n2⟩ := hm.2.2.2.2 k hk
        exact ⟨n1, fun q hq hne => n2 q (hp.mem_iff.2 hq) hne⟩
/-- what Hull answered, where the points are in the bounds -/
def HullI (l : List Pt) (w w' : World) (ra : Option Addr) (rm rc : Nat) (er : Int) : Prop :=
  ∃ H : List Pt, (Flt l ↔ H.length < 3) ∧ (¬ Flt l → RefH l H) ∧ H.length ≤ 1000 ∧
    ((H.length < 3 ∧ rm = 0 ∧ er = 2) ∨ (3 ≤ H.length ∧ (12 < H.length ∨ 2000 < mxx (stl H) (stl H).length ∨ 2000 < mxz (stl H) (stl H).length) ∧ rm = 0 ∧ er = 5) ∨
      (3 ≤ H.length ∧ H.length ≤ 12 ∧ mxx (stl H) (stl H).length ≤ 2000 ∧ mxz (stl H) (stl H).length ≤ 2000 ∧ er = 0 ∧ Own w' w.heap.size (.slice ra rm rc) (stl H)))
theorem HullR.facts {l : List Pt} {w w' : World} {r : Value} {er : Int} (h : HullR l w r er w') (h12 : l.length ≤ 400) :
    ∃ ra rm rc, r = .slice ra rm rc ∧ (¬ InR l → rm = 0 ∧ er = 3) ∧ (InR l → HullI l w w' ra rm rc er) := by
  rcases h with ⟨h1, rfl, rfl⟩ | ⟨h1, H, hF, h2⟩
  · exact ⟨_, _, _, rfl, fun _ => ⟨rfl, rfl⟩, fun h => absurd h h1⟩
  · have hF : HF l H := hF
    obtain ⟨f1, f2, f3⟩ := hF.facts h12
    rcases h2 with ⟨a1, rfl, rfl⟩ | ⟨a1, a2, rfl, rfl⟩ | ⟨a1, a2, a3, a4, rfl, ho⟩
    · exact ⟨_, _, _, rfl, fun h => absurd h1 h, fun _ => ⟨H, f1, f2, f3, .inl ⟨a1, rfl, rfl⟩⟩⟩
    · exact ⟨_, _, _, rfl, fun h => absurd h1 h, fun _ => ⟨H, f1, f2, f3, .inr (.inl ⟨a1, a2, rfl, rfl⟩)⟩⟩
    · obtain ⟨p, c, rfl⟩ := own_lenV ho
      exact ⟨_, _, _, rfl, fun h => absurd h1 h, fun _ => ⟨H, f1, f2, f3, .inr (.inr ⟨a1, a2, a3, a4, rfl, ho⟩)⟩⟩
def PTz (w : World) (e : Ending) (w' : World) : Prop := e = .returned (.bool true) ∧ Below w.heap.size w w'
set_option maxHeartbeats 2000000 in
theorem hullsL_any (p : Option Addr) (c : Nat) (l : List Pt) (w : World) (hlm : l.length ≤ maxLen) (h : l.length ≤ 1000000 → Pts w (.slice p l.length c) l) : Calls Tryz.prog 3 #[.slice p l.length c] w (PTz w) := by
  unfold maxLen at hlm
  by_cases h40 : 40 < l.length
  · have h40' : (40 : Int) < (l.length : Int) := by omega
    clear h
    generalize l.length = n at *
    go_enter Tryz.func3, Tryz.ntmps3
    go_wp2_with fail
    refine (wakes_any _).mono ?_
    rintro e w2 ⟨rfl, hb2⟩
    go_wp2
    go_ret
    exact ⟨rfl, hb2⟩
  · have hP := h (by omega)
    clear h
    have HPT := Lib.hid hP
    obtain ⟨p', b, o, c', e, hp, hr⟩ := hP.row'
    injection e with e1 e2 e3
    subst e1
    have HPO := Lib.hid (points_any p b o c l w hp hr (by omega))
    have HL : Hid (l.length ≤ 40) := (by omega : l.length ≤ 40)
    have HROW := Lib.hid (And.intro hp hr)
    obtain ⟨n, hn⟩ : ∃ n, n = l.length := ⟨_, rfl⟩
    rw [← hn] at h40 hlm HPO HPT ⊢
    have HN := Lib.hid hn
    have h40' : ¬ (40 : Int) < (n : Int) := by omega
    clear hn hp hr hP e2 e3
    go_enter Tryz.func3, Tryz.ntmps3
    go_wp2_with fail
    refine HPO.out.mono ?_
    rintro e w1 ⟨⟨v1, rfl, ho1⟩, hb1⟩
    have K1 := Lib.hid hb1
    have HOA := Lib.hid ho1
    have hpts1 : Pts w1 v1 l := ho1.pts (by have := HL.out; omega)
    obtain ⟨p1, c1, rfl⟩ := own_lenV ho1
    have HHU := Lib.hid (hull_any p1 c1 l w1 (fun h0 => by obtain ⟨b, o, c, e, hr⟩ := hpts1.some h0; injection e with e1; exact ⟨b, o, e1, hr⟩) (by have := HL.out; omega))
    have hln := HN.out
    rw [← hln] at HHU HOA ⊢
    clear ho1 hb1 hpts1 HPO hln
    go_wp2_with fail
    refine HHU.out.mono ?_
    rintro e w2 ⟨⟨r, er, rfl, hR⟩, hb2⟩
    obtain ⟨ra, rm, rc, rfl, hR1, hR2⟩ := hR.facts (by have := HL.out; omega)
    have K2 := Lib.hid (Below.thru K1.out K1.out.size hb2)
    have K12 := Lib.hid hb2
    have HR1 := Lib.hid hR1; have HR2 := Lib.hid hR2
    clear hR hR1 hR2 hb2 HHU
    go_wp2
    go_loopw [6] (fun i wr => ∃ k : Nat, k ≤ n ∧ i = .int .i64 k ∧ Hid (∀ j, j < k → (-2000 ≤ px l j ∧ px l j ≤ 2000) ∧ (-2000 ≤ pz l j ∧ pz l j ≤ 2000)) ∧ wr = w2) (fun i _ => n - (intOf i).toNat)
    case atStart => exact ⟨0, Nat.zero_le _, rfl, fun j hj => absurd hj (by omega), rfl⟩
    case round =>
      obtain ⟨k, hk, rfl, HK, rfl⟩ := hrel
      by_cases hlt : k < n
      · obtain rfl : p = some ⟨b, o, none⟩ := HROW.out.1 (fun e => by have := HN.out; rw [e] at this; simp at this; omega)
        have hrow := HROW.out.2.keep K2.out
        obtain ⟨ck, cz⟩ := hrow k (by rw [← HN.out]; exact hlt)
        clear hrow
        have HK2 : Hid (inB (px l k) (-2000) 2000 = true → inB (pz l k) (-2000) 2000 = true → ∀ j, j < k + 1 → (-2000 ≤ px l j ∧ px l j ≤ 2000) ∧ (-2000 ≤ pz l j ∧ pz l j ≤ 2000)) := fun h1 h2 j hj => by
          rcases Nat.lt_or_ge j k with q | q
          · exact HK.out j q
          · obtain rfl : j = k := by omega
            simp [inB] at h1 h2
            exact ⟨h1, h2⟩
        have HNo : Hid (InR l → inB (px l k) (-2000) 2000 = true ∧ inB (pz l k) (-2000) 2000 = true) := fun h => by
          have := h k (by rw [← HN.out]; exact hlt)
          exact ⟨inB_t this.1.1 this.1.2, inB_t this.2.1 this.2.2⟩
        cases q1 : inB (px l k) (-2000) 2000 with
        | false =>
          obtain ⟨rfl, rfl⟩ := HR1.out (fun h => by have := (HNo.out h).1; rw [q1] at this; cases this)
          clear HR1 HR2
          go_wp2_with fail
          refine (in_any _ _ _ _).mono ?_
          rintro e w' ⟨rfl, rfl⟩
          go_wp2_with fail
          refine (wakes_any _).mono ?_
          rintro e w3 ⟨rfl, hb3⟩
          go_wp2
          go_ret
          exact ⟨rfl, Below.thru K2.out K2.out.size hb3⟩
        | true =>
          cases q2 : inB (pz l k) (-2000) 2000 with
          | false =>
            obtain ⟨rfl, rfl⟩ := HR1.out (fun h => by have := (HNo.out h).2; rw [q2] at this; cases this)
            clear HR1 HR2
            go_wp2_with fail
            refine (in_any _ _ _ _).mono ?_
            rintro e w' ⟨rfl, rfl⟩
            go_wp2_with fail
            refine (in_any _ _ _ _).mono ?_
            rintro e w' ⟨rfl, rfl⟩
            go_wp2_with fail
            refine (wakes_any _).mono ?_
            rintro e w3 ⟨rfl, hb3⟩
            go_wp2
            go_ret
            exact ⟨rfl, Below.thru K2.out K2.out.size hb3⟩
          | true =>
            have HK3 := Lib.hid (HK2.out q1 q2)
            go_wp2_with ((go_at_call 7; refine (in_any _ _ _ _).mono ?_; rintro e w' ⟨rfl, rfl⟩))
            go_roundw
            case rel => exact ⟨k + 1, by omega, by go_num, HK3, trivial⟩
            case measure => simp [intOf]; omega
      · obtain rfl : k = n := by omega
        have HIn : Hid (InR l) := fun i hi => HK.out i (by rw [HN.out]; exact hi)
        obtain ⟨H, f1, f2, f3, f4⟩ := HR2.out HIn.out
        have HF4 := Lib.hid f4
        have HF3 := Lib.hid f3
        have HF1 := Lib.hid f1
        have HRH := Lib.hid (refhull_any b o c l H p wr (fun h0 => ⟨HROW.out.1 (fun e => by rw [e] at h0; simp at h0), HROW.out.2.keep K2.out⟩) (by have := HL.out; omega) (fun i hi => by have := HIn.out i hi; unfold Sm; omega) f3 f2)
        have hln := HN.out
        rw [← hln] at HRH
        clear f1 f2 f3 f4 HR1 HR2 hln
        go_wp2_with fail
        refine HRH.out.mono ?_
        rintro e w3 ⟨hcase, hb3⟩
        have K3 := Lib.hid (Below.thru K2.out K2.out.size hb3)
        have K23 := Lib.hid hb3
        clear hb3 HRH
        rcases hcase with ⟨hfl, rfl⟩ | ⟨hfl, v, rfl, hov⟩
        · have hlt3 := HF1.out.1 hfl
          obtain ⟨rfl, rfl⟩ : rm = 0 ∧ er = 2 := by
            rcases HF4.out with ⟨_, a, b⟩ | ⟨a, _⟩ | ⟨a, _⟩
            · exact ⟨a, b⟩
            · omega
            · omega
          clear HF4
          go_wp2_with fail
          refine (wakes_any _).mono ?_
          rintro e w4 ⟨rfl, hb4⟩
          go_wp2
          go_ret
          exact ⟨rfl, Below.thru K3.out K3.out.size hb4⟩
        · have hge3 : ¬ H.length < 3 := fun h => hfl (HF1.out.2 h)
          have HOV := Lib.hid hov
          obtain ⟨g, cg, rfl, hrg⟩ := hov.some (by rw [stl_len]; omega)
          have HHI := Lib.hid (high_any g 0 cg (stl H) w3 hrg (by rw [stl_len]; omega) (by rw [stl_len]; have := HF3.out; omega))
          have HSL := Lib.hid (stl_len H)
          clear hov hrg
          go_wp2_with fail
          refine HHI.out.mono ?_
          rintro e w4 ⟨rfl, hb4⟩
          obtain ⟨mx, hmx⟩ : ∃ m, m = mxx (stl H) (stl H).length := ⟨_, rfl⟩
          obtain ⟨mz, hmz⟩ : ∃ m, m = mxz (stl H) (stl H).length := ⟨_, rfl⟩
          have K4 := Lib.hid (Below.thru K3.out K3.out.size hb4)
          have K5 : Hid (Below w.heap.size w (w4.alloc (.cells #[.int .i64 mx, .int .i64 mz] 31))) := K4.out.alloc K4.out.size _
          have K35 : Hid (Below w3.heap.size w3 (w4.alloc (.cells #[.int .i64 mx, .int .i64 mz] 31))) := hb4.alloc hb4.size _
          have hf4 := HF4.out
          rw [← hmx, ← hmz] at hf4 ⊢
          rw [HSL.out] at HOV ⊢
          have hlen := HF3.out
          obtain ⟨m, hm⟩ : ∃ m, m = H.length := ⟨_, rfl⟩
          have HM := Lib.hid hm
          rw [← hm] at hf4 HOV hge3 hlen ⊢
          have HQ1 : Hid (er = 0 → Own wr w1.heap.size (.slice ra rm rc) (stl H)) := fun h0 => by
            rcases hf4 with ⟨a, _⟩ | ⟨_, _, _, a⟩ | ⟨_, _, _, _, _, a⟩
            · omega
            · omega
            · exact a
          have hcl : (er = 5 ∧ rm = 0 ∧ (12 < m ∨ 2000 < mx ∨ 2000 < mz)) ∨ (er = 0 ∧ m ≤ 12 ∧ mx ≤ 2000 ∧ mz ≤ 2000) := by
            rcases hf4 with ⟨a, _⟩ | ⟨_, a, b, c⟩ | ⟨_, a, b, c, d, _⟩
            · omega
            · exact .inl ⟨c, b, a⟩
            · exact .inr ⟨d, a, b, c⟩
          clear hf4 HF4 hmx hmz hb4 HHI hm hfl HF1 HF3
          rcases hcl with ⟨rfl, rfl, hbig⟩ | ⟨rfl, s1, s2, s3⟩
          · have fin : ∀ W, Below (w4.alloc (.cells #[.int .i64 mx, .int .i64 mz] 31)).heap.size (w4.alloc (.cells #[.int .i64 mx, .int .i64 mz] 31)) W → Below w.heap.size w W := fun W hb => Below.thru K5.out K5.out.size hb
            have FIN := Lib.hid fin
            clear fin
            by_cases g1 : 12 < m
            · have g1' : (12 : Int) < (m : Int) := by omega
              clear hbig
              go_wp2_with fail
              refine (wakes_any _).mono ?_
              rintro e w6 ⟨rfl, hb6⟩
              go_wp2
              go_ret
              exact ⟨rfl, FIN.out _ hb6⟩
            · have g1' : ¬ (12 : Int) < (m : Int) := by omega
              by_cases g2 : 2000 < mx
              · clear hbig
                go_wp2_with fail
                refine (wakes_any _).mono ?_
                rintro e w6 ⟨rfl, hb6⟩
                go_wp2
                go_ret
                exact ⟨rfl, FIN.out _ hb6⟩
              · have g3 : 2000 < mz := by omega
                clear hbig
                go_wp2_with fail
                refine (wakes_any _).mono ?_
                rintro e w6 ⟨rfl, hb6⟩
                go_wp2
                go_ret
                exact ⟨rfl, FIN.out _ hb6⟩
          · have g1' : ¬ (12 : Int) < (m : Int) := by omega
            have K13 := Below.thru K12.out K12.out.size K23.out
            have K15 := Below.thru K13 K13.size K35.out
            have HC1 := Lib.hid (fun W (kb : Below (w4.alloc (.cells #[.int .i64 mx, .int .i64 mz] 31)).heap.size (w4.alloc (.cells #[.int .i64 mx, .int .i64 mz] 31)) W) => samePoints_any (.slice ra rm rc) (.slice (some ⟨g, 0, none⟩) m cg) (stl H) W
              (((HQ1.out rfl).pts (by rw [stl_len, ← HM.out]; omega)).keep (Below.thru (Below.thru K23.out K23.out.size K35.out) (Below.thru K23.out K23.out.size K35.out).size kb))
              ((HOV.out.pts (by rw [stl_len, ← HM.out]; omega)).keep (Below.thru K35.out K35.out.size kb)) (by rw [stl_len, ← HM.out]; omega))
            have HC2 := Lib.hid (fun W (kb : Below (w4.alloc (.cells #[.int .i64 mx, .int .i64 mz] 31)).heap.size (w4.alloc (.cells #[.int .i64 mx, .int .i64 mz] 31)) W) => samePoints_any (.slice p1 k c1) (.slice p k c) l W
              ((HOA.out.pts (by have := HL.out; omega)).keep (Below.thru K15 K15.size kb))
              (HPT.out.keep (Below.thru K5.out K5.out.size kb)) (by have := HL.out; omega))
            clear K13 K15
            go_wp2_with fail
            refine (HC1.out _ (Below.refl _ _)).mono ?_
            rintro e w6 ⟨rfl, hb6⟩
            have K6 := Lib.hid hb6
            clear hb6
            go_wp2_with fail
            refine (HC2.out _ K6.out).mono ?_
            rintro e w7 ⟨rfl, hb7⟩
            have K7 := Lib.hid (Below.thru K6.out K6.out.size hb7)
            clear hb7
            go_wp2_with fail
            refine (wakes_any _).mono ?_
            rintro e w8 ⟨rfl, hb8⟩
            have K8 := Lib.hid (Below.thru K7.out K7.out.size hb8)
            clear hb8
            go_wp2
            go_ret
            exact ⟨rfl, Below.thru K5.out K5.out.size K8.out⟩
end Go.Proofs.YtljmhejljpfaiaaGreat

import Derived.Test.YtljmhejljpfaiaaGreatB
namespace Go.Proofs.YtljmhejljpfaiaaGreat
set_option maxRecDepth 100000
set_option maxRecDepth 100000
open Go.RowKit

theorem upq {w : World} {a : Addr} {v : Value} (h : ∀ d os, (Sort.grow (redrawn w d) os).cell? a = some v) (d0 : Nat) (os0 : Array Obj) : ∀ d os, (Sort.grow (redrawn (Sort.grow (redrawn w d0) os0) d) os).cell? a = some v := cell_regrown (h d0 os0)
/-- the least X of the first k points, and of the first one -/
def mnx (l : List Pt) : Nat → Int
  | 0 => px l 0
  | k + 1 => if px l k < mnx l k then px l k else mnx l k
/-- all numbers from 0 to 2000 -/
def Bx (l : List Pt) : Prop := ∀ i, i < l.length → (0 ≤ px l i ∧ px l i ≤ 2000) ∧ (0 ≤ pz l i ∧ pz l i ≤ 2000)
/-- the program's test of a shape -/
def Pl (l : List Pt) : Prop := (3 ≤ l.length ∧ l.length ≤ 12) ∧ Bx l ∧ mnx l l.length = 0 ∧ pz l 0 = 0 ∧ 0 < pz l (l.length - 1) ∧ Cv l
theorem Bx.sm {l : List Pt} (h : Bx l) : ∀ i, i < l.length → Sm (px l i) ∧ Sm (pz l i) := fun i hi => by have := h i hi; unfold Sm; omega
set_option maxHeartbeats 1000000 in
theorem inPlace_few (p : Option Addr) (c : Nat) (l : List Pt) (w : World) (hn : ¬ (3 ≤ l.length ∧ l.length ≤ 12)) (hm : l.length ≤ maxLen) : Calls Tryz.prog 56 #[.slice p l.length c] w (PBt (Pl l) w) := by
  unfold maxLen at hm
  have h1 : inB (l.length : Int) 3 12 = false := by unfold inB; simp; omega
  have HN := Lib.hid hn
  clear hn
  go_enter Tryz.func56, Tryz.ntmps56
  go_wp2_with ((go_at_call 17; refine (within_any _ _ _ _).mono ?_; rintro e w' ⟨rfl, rfl⟩))
  go_ret
  exact PBt.no (fun h => HN.out h.1) (Below.refl _ _)
set_option maxHeartbeats 1000000 in
theorem inPlace_some (b o c : Nat) (l : List Pt) (w : World) (hr : Row w b o l) (h3 : 3 ≤ l.length) (h12 : l.length ≤ 12) : Calls Tryz.prog 56 #[.slice (some ⟨b, o, none⟩) l.length c] w (PBt (Pl l) w) := by
  have HR := Lib.hid hr
  obtain ⟨n, hn⟩ : ∃ n, n = l.length := ⟨_, rfl⟩
  rw [← hn] at h3 h12 ⊢
  have HN := Lib.hid hn
  have h1 : inB (n : Int) 3 12 = true := inB_t (by omega) (by omega)
  have HF := Lib.hid (hr 0 (by omega))
  have c0x := HF.out.1
  simp only [Nat.zero_mul, Nat.add_zero] at c0x
  clear hr hn
  go_enter Tryz.func56, Tryz.ntmps56
  go_wp2_with ((go_at_call 17; refine (within_any _ _ _ _).mono ?_; rintro e w' ⟨rfl, rfl⟩))
  clear h1
  go_loopw [16, 3] (fun i m wr => ∃ k : Nat, k ≤ n ∧ i = .int .i64 k ∧ m = .int .i64 (mnx l k) ∧ Hid (∀ j, j < k → (0 ≤ px l j ∧ px l j ≤ 2000) ∧ (0 ≤ pz l j ∧ pz l j ≤ 2000)) ∧ Below w.heap.size w wr) (fun i _ _ => n - (intOf i).toNat)
  case atStart => exact ⟨0, Nat.zero_le _, rfl, rfl, fun j hj => absurd hj (by omega), Below.refl _ _⟩
  case round =>
    obtain ⟨k, hk, rfl, rfl, HK, hB⟩ := hrel
    by_cases hlt : k < n
    · have hrow := HR.out.keep hB
      obtain ⟨ck, cz⟩ := hrow k (by rw [← HN.out]; exact hlt)
      have hbw := hrow.lt (by rw [← HN.out]; omega)
      clear hrow
      have hBn := hB.alloc hB.size (.cells #[.int .i64 (px l k), .int .i64 (pz l k)] 37)
      have HK2 : Hid (inB (px l k) 0 2000 = true → inB (pz l k) 0 2000 = true → ∀ j, j < k + 1 → (0 ≤ px l j ∧ px l j ≤ 2000) ∧ (0 ≤ pz l j ∧ pz l j ≤ 2000)) := fun h1 h2 j hj => by
        rcases Nat.lt_or_ge j k with q | q
        · exact HK.out j q
        · obtain rfl : j = k := by omega
          simp [inB] at h1 h2
          exact ⟨h1, h2⟩
      have HNo : Hid (Pl l → inB (px l k) 0 2000 = true ∧ inB (pz l k) 0 2000 = true) := fun h => by
        have := h.2.1 k (by rw [← HN.out]; exact hlt)
        exact ⟨inB_t this.1.1 this.1.2, inB_t this.2.1 this.2.2⟩
      cases q1 : inB (px l k) 0 2000 with
      | false =>
        go_wp2_with ((go_at_call 17; refine (within_any _ _ _ _).mono ?_; rintro e w' ⟨rfl, rfl⟩))
        go_ret
        exact PBt.no (fun h => by have := (HNo.out h).1; rw [q1] at this; cases this) hBn
      | true =>
        cases q2 : inB (pz l k) 0 2000 with
        | false =>
          go_wp2_with ((go_at_call 17; refine (within_any _ _ _ _).mono ?_; rintro e w' ⟨rfl, rfl⟩))
          go_ret
          exact PBt.no (fun h => by have := (HNo.out h).2; rw [q2] at this; cases this) hBn
        | true =>
          have HK3 := Lib.hid (HK2.out q1 q2)
          go_wp2_with ((go_at_call 17; refine (within_any _ _ _ _).mono ?_; rintro e w' ⟨rfl, rfl⟩))
          go_roundw
          case rel => exact ⟨k + 1, by omega, by go_num, rfl, HK3, hBn⟩
          case measure => simp [intOf]; omega
    · obtain rfl : k = n := by omega
      have hrow := HR.out.keep hB
      obtain ⟨d0x, d0z⟩ := hrow 0 (by rw [← HN.out]; omega)
      obtain ⟨dlx, dlz⟩ := hrow (k - 1) (by rw [← HN.out]; omega)
      simp only [Nat.zero_mul, Nat.add_zero] at d0x d0z
      have HBx : Hid (Bx l) := fun i hi => HK.out i (by rw [HN.out]; exact hi)
      have HCV := Lib.hid (convex_any b o c l wr (HR.out.keep hB) (by rw [← HN.out]; exact h3) (by rw [← HN.out]; exact h12) HBx.out.sm)
      rw [← HN.out] at HCV
      have HPl : Hid (mnx l k = 0 → pz l 0 = 0 → 0 < pz l (k - 1) → Cv l → Pl l) := fun h1 h2 h4 h5 => by
        have e := HN.out
        subst e
        exact ⟨⟨h3, h12⟩, HBx.out, h1, h2, h4, h5⟩
      have HPn : Hid (Pl l → mnx l k = 0 ∧ pz l 0 = 0 ∧ 0 < pz l (k - 1) ∧ Cv l) := fun h => by
        have e := HN.out
        subst e
        exact h.2.2
      have hb1 : (k : Int) - 1 = ((k - 1 : Nat) : Int) := by omega
      have hi1 : ((k - 1 : Nat) : Int) < (k : Int) := by omega
      have hi0 : (0 : Int) ≤ ((k - 1 : Nat) : Int) := by omega
      have hto : ((k - 1 : Nat) : Int).toNat = k - 1 := by omega
      generalize hK1 : k - 1 = k1 at *
      by_cases g1 : mnx l k = 0
      · by_cases g2 : pz l 0 = 0
        · by_cases g3 : 0 < pz l k1
          · have g1' : (mnx l k == 0) = true := by simpa using g1
            have g2' : (pz l 0 == 0) = true := by simpa using g2
            have HQ : Hid (Cv l → Pl l) := HPl.out g1 g2 g3
            clear g1 g2
            go_wp2_with fail
            refine (HCV.out).mono ?_
            rintro e w' ⟨⟨bv, rfl, hbv⟩, hb⟩
            have HBV := Lib.hid hbv
            clear hbv
            go_wp2
            go_ret
            cases bv
            · exact PBt.no (fun h => by have := HBV.out.2 (HPn.out h).2.2.2; cases this) (Below.thru hB hB.size hb)
            · exact PBt.yes (HQ.out (HBV.out.1 rfl)) (Below.thru hB hB.size hb)
          · go_wp2
            go_ret
            exact PBt.no (fun h => by have := (HPn.out h).2.2.1; omega) hB
        · have g2' : (pz l 0 == 0) = false := by simpa using g2
          have HG := Lib.hid g2
          clear g2
          go_wp2
          go_ret
          exact PBt.no (fun h => HG.out (HPn.out h).2.1) hB
      · have g1' : (mnx l k == 0) = false := by simpa using g1
        have HG := Lib.hid g1
        clear g1
        go_wp2
        go_ret
        exact PBt.no (fun h => HG.out (HPn.out h).1) hB
end Go.Proofs.YtljmhejljpfaiaaGreat

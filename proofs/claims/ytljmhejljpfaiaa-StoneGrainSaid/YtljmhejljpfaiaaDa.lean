import Derived.Test.YtljmhejljpfaiaaCd
namespace Go.Proofs.Ytljmhejljpfaiaa
set_option maxRecDepth 100000
open Go.RowKit Go.Shelf

/-! what the law compares with: equal points, equal stones, no stone; the reference's lay -/
theorem Pts.row' {w : World} {v : Value} {l : List Pt} (h : Pts w v l) : ∃ p b o c, v = .slice p l.length c ∧ (l ≠ [] → p = Option.some ⟨b, o, Option.none⟩) ∧ Row w b o l := by
  obtain ⟨_, p, c, rfl, rfl | ⟨b, o, rfl, hr, _⟩⟩ := h
  · exact ⟨p, 0, 0, c, rfl, fun h => absurd rfl h, fun i hi => absurd hi (by simp)⟩
  · exact ⟨_, b, o, c, rfl, fun _ => rfl, hr⟩
set_option maxHeartbeats 2000000 in
theorem samePoints_any (v1 v2 : Value) (l : List Pt) (w : World) (h1 : Pts w v1 l) (h2 : Pts w v2 l) (hm : l.length ≤ 1000000) : Calls Try.prog 33 #[v1, v2] w fun e w' => e = .returned (.bool true) ∧ Below w.heap.size w w' := by
  obtain ⟨p1, b1, o1, c1, rfl, hp1, hr1⟩ := h1.row'
  obtain ⟨p2, b2, o2, c2, rfl, hp2, hr2⟩ := h2.row'
  have HR1 := Lib.hid hr1; have HR2 := Lib.hid hr2; have HP1 := Lib.hid hp1; have HP2 := Lib.hid hp2
  obtain ⟨n, hn⟩ : ∃ n, n = l.length := ⟨_, rfl⟩
  rw [← hn] at hm ⊢
  have HN := Lib.hid hn
  clear hr1 hr2 hp1 hp2 hn h1 h2
  go_enter Try.func33, Try.ntmps33
  go_wp2
  go_loopw [5] (fun i wr => ∃ k : Nat, k ≤ n ∧ i = .int .i64 k ∧ Below w.heap.size w wr) (fun i _ => n - (intOf i).toNat)
  case atStart => exact ⟨0, Nat.zero_le _, rfl, Below.refl _ _⟩
  case round =>
    obtain ⟨k, hk, rfl, hB⟩ := hrel
    by_cases hlt : k < n
    · obtain rfl : p1 = some ⟨b1, o1, none⟩ := HP1.out (fun e => by have := HN.out; rw [e] at this; simp at this; omega)
      obtain rfl : p2 = some ⟨b2, o2, none⟩ := HP2.out (fun e => by have := HN.out; rw [e] at this; simp at this; omega)
      obtain ⟨ckx, ckz⟩ := HR1.out.keep hB k (by rw [← HN.out]; exact hlt)
      obtain ⟨dkx, dkz⟩ := HR2.out.keep hB k (by rw [← HN.out]; exact hlt)
      have f1 := cell_regrown ckx
      have f2 := cell_regrown ckz
      have f3 := cell_regrown dkx
      have f4 := cell_regrown dkz
      clear ckx ckz dkx dkz
      go_wp2_with fail
      refine wp_region_quiet_below (by kernel_rfl) (by kernel_rfl) ?_
      repeat (any_goals (first | go_big_quiet_step (fail) | quiet_step (fail)))
      refine wpQuiet_nil ?_
      intro _ hw'
      obtain ⟨⟨dq, osq⟩, hw''⟩ := hw'
      subst hw''
      have k2 := Below.thru hB hB.size (below_regrown wr dq osq)
      clear f1 f2 f3 f4
      generalize Sort.grow (redrawn wr dq) osq = w1 at *
      go_wp2
      go_roundw
      case rel => exact ⟨k + 1, by omega, by go_num, k2⟩
      case measure => simp [intOf]; omega
    · obtain rfl : k = n := by omega
      go_wp2
      go_ret
      exact ⟨rfl, hB⟩
set_option maxHeartbeats 2000000 in
theorem same_any (s : SV) (v1 v2 : Value) (w : World) (h1 : Pts w v1 s.l) (h2 : Pts w v2 s.l) (hm : s.l.length ≤ 1000000) : Calls Try.prog 28 #[stv s v1, stv s v2] w fun e w' => e = .returned (.bool true) ∧ Below w.heap.size w w' := by
  have HS := Lib.hid (fun W (k : Below w.heap.size w W) => samePoints_any v1 v2 s.l W (h1.keep k) (h2.keep k) hm)
  obtain ⟨p1, b1, o1, c1, rfl, _, _⟩ := h1.row'
  obtain ⟨p2, b2, o2, c2, rfl, _, _⟩ := h2.row'
  obtain ⟨nm, l, dp, dn, gx, gz⟩ := s
  unfold stv
  dsimp only at *
  clear h1 h2 hm
  generalize l.length = n at *
  have k0 := bl2 w (.cells #[.string nm, .slice p1 n c1, .int .i64 dp, .int .i64 dn, .int .i64 gx, .int .i64 gz] 34) (.cells #[.string nm, .slice p2 n c2, .int .i64 dp, .int .i64 dn, .int .i64 gx, .int .i64 gz] 26)
  go_enter Try.func28, Try.ntmps28
  go_wp2_with fail
  refine (HS.out _ k0).mono ?_
  rintro e w1 ⟨rfl, hb⟩
  have k1 := Below.thru k0 k0.size hb
  clear hb
  go_wp2
  go_ret
  exact ⟨rfl, k1⟩
set_option maxHeartbeats 1000000 in
theorem none_any (w : World) : Calls Try.prog 30 #[zst] w fun e w' => e = .returned (.bool true) ∧ Below w.heap.size w w' := by
  unfold zst
  go_enter Try.func30, Try.ntmps30
  go_wp2
  go_ret
  exact ⟨rfl, bl1 _ _⟩
/-- a quarter turn -/
def rot (p : Pt) : Pt := (-p.2, p.1)
def rotk : Nat → Pt → Pt
  | 0, p => p
  | k + 1, p => rot (rotk k p)
theorem rotk_sm (k : Nat) {p : Pt} {M : Int} (h1 : -M ≤ p.1 ∧ p.1 ≤ M) (h2 : -M ≤ p.2 ∧ p.2 ≤ M) : (-M ≤ (rotk k p).1 ∧ (rotk k p).1 ≤ M) ∧ (-M ≤ (rotk k p).2 ∧ (rotk k p).2 ≤ M) := by
  induction k with
  | zero => exact ⟨h1, h2⟩
  | succ k ih => unfold rotk rot; dsimp only; omega
/-- the point that is turned -/
def fl0 (k : Nat) (p : Pt) : Pt := if 4 ≤ k then (-p.1, p.2) else p
theorem rotk_way (k : Nat) (hk : k < 8) (p : Pt) : rotk (k % 4) (fl0 k p) = wayf k p := by
  obtain ⟨x, z⟩ := p
  have h8 : k = 0 ∨ k = 1 ∨ k = 2 ∨ k = 3 ∨ k = 4 ∨ k = 5 ∨ k = 6 ∨ k = 7 := by omega
  rcases h8 with rfl | rfl | rfl | rfl | rfl | rfl | rfl | rfl <;> simp [rotk, rot, fl0, wayf]
set_option maxHeartbeats 4000000 in
theorem rlay_any (k : Nat) (hk : k < 8) (x z : Int) (w : World) (h1 : Sm x) (h2 : Sm z) : Calls Try.prog 70 #[.agg #[.int .i64 x, .int .i64 z], .int .i64 k] w fun e w' => e = .returned (.agg #[.int .i64 (wayf k (x, z)).1, .int .i64 (wayf k (x, z)).2]) ∧ Below w.heap.size w w' := by
  have HW := Lib.hid (rotk_way k hk (x, z))
  have e1 := IntWalk.i64_in (-x) (by unfold Sm at h1; omega)
  obtain ⟨m, hm⟩ : ∃ m : Nat, m = k % 4 := ⟨_, rfl⟩
  have hr : (k : Int) % 4 = (m : Int) := by rw [hm]; omega
  have hm4 : m < 4 := by omega
  rw [← hm] at HW
  have HB : Hid (∀ i, (-20000 ≤ (rotk i (fl0 k (x, z))).1 ∧ (rotk i (fl0 k (x, z))).1 ≤ 20000) ∧ (-20000 ≤ (rotk i (fl0 k (x, z))).2 ∧ (rotk i (fl0 k (x, z))).2 ≤ 20000)) := fun i => by
    unfold Sm at *
    refine rotk_sm i ?_ ?_
    · unfold fl0; split <;> dsimp only <;> omega
    · unfold fl0; split <;> dsimp only <;> omega
  have HRK : Hid (∀ i p, rotk (i + 1) p = (-(rotk i p).2, (rotk i p).1)) := fun _ _ => rfl
  clear hm h1 h2
  by_cases h4 : 4 ≤ k
  · have h4i : (4 : Int) ≤ (k : Int) := by omega
    have HF : Hid (fl0 k (x, z) = (-x, z)) := by show _ = _; unfold fl0; rw [if_pos h4]
    have H0 : Hid (rotk 0 (fl0 k (x, z)) = (-x, z)) := HF.out
    go_enter Try.func70, Try.ntmps70
    go_wp2
    go_loopw [5] (fun i wr => ∃ j : Nat, j ≤ m ∧ i = .int .i64 j ∧ Hid (B2 w.heap.size (rotk j (fl0 k (x, z))).1 (rotk j (fl0 k (x, z))).2 wr ∧ B2 (w.heap.size + 1) 0 0 wr ∧ Below w.heap.size w wr)) (fun i _ => m - (intOf i).toNat)
    case atStart => exact ⟨0, Nat.zero_le _, rfl, by rw [H0.out]; exact ⟨by simp [go_sem], by simp [go_sem], by simp [go_sem], by simp [go_sem]⟩, ⟨by simp [go_sem], by simp [go_sem], by simp [go_sem], by simp [go_sem]⟩, bl2 _ _ _⟩
    case round =>
      obtain ⟨j, hj, rfl, HS⟩ := hrel
      have hb := HB.out j
      have HRJ := Lib.hid (HRK.out j (fl0 k (x, z)))
      obtain ⟨hS, hS1, hBl⟩ := HS.out
      obtain ⟨a0, a1, a2, a3⟩ := id hS
      by_cases hlt : j < m
      · generalize rotk j (fl0 k (x, z)) = pj at *
        obtain ⟨ja, jc⟩ := pj
        dsimp only at *
        have v1 := IntWalk.i64_in (-jc) (by omega)
        have HS9 := Lib.hid (And.intro hS (And.intro hS1 hBl))
        clear hS hS1 hBl hb
        go_wp2
        go_roundw
        case rel => exact ⟨j + 1, by omega, by go_num, by rw [HRJ.out]; exact HS9.out.1.put _ _, HS9.out.2.1.far (by omega) _ _, below_put HS9.out.2.2 (Nat.le_refl _) _ _⟩
        case measure => simp [intOf]; omega
      · obtain rfl : j = m := by omega
        obtain ⟨r0, r1, r2, r3⟩ := id hS1
        rw [HW.out] at a0 a1
        have hBB := Lib.hid hBl
        clear hS hS1 hBl hb HS
        generalize hpw : wayf k (x, z) = pw at *
        have HPW := Lib.hid hpw
        clear hpw
        go_wp2
        exact bodyPost_ret (v := .agg #[.int .i64 pw.1, .int .i64 pw.2]) (by simp [results, Try.results70, go_sem, r0, r1]) rfl ⟨by rw [HPW.out], below_put hBB.out (Nat.le_succ _) _ _⟩
  · have h4i : ¬ (4 : Int) ≤ (k : Int) := by omega
    have H0 : Hid (rotk 0 (fl0 k (x, z)) = (x, z)) := by show _ = _; unfold rotk fl0; rw [if_neg h4]
    go_enter Try.func70, Try.ntmps70
    go_wp2
    go_loopw [5] (fun i wr => ∃ j : Nat, j ≤ m ∧ i = .int .i64 j ∧ Hid (B2 w.heap.size (rotk j (fl0 k (x, z))).1 (rotk j (fl0 k (x, z))).2 wr ∧ B2 (w.heap.size + 1) 0 0 wr ∧ Below w.heap.size w wr)) (fun i _ => m - (intOf i).toNat)
    case atStart => exact ⟨0, Nat.zero_le _, rfl, by rw [H0.out]; exact ⟨by simp [go_sem], by simp [go_sem], by simp [go_sem], by simp [go_sem]⟩, ⟨by simp [go_sem], by simp [go_sem], by simp [go_sem], by simp [go_sem]⟩, bl2 _ _ _⟩
    case round =>
      obtain ⟨j, hj, rfl, HS⟩ := hrel
      have hb := HB.out j
      have HRJ := Lib.hid (HRK.out j (fl0 k (x, z)))
      obtain ⟨hS, hS1, hBl⟩ := HS.out
      obtain ⟨a0, a1, a2, a3⟩ := id hS
      by_cases hlt : j < m
      · generalize rotk j (fl0 k (x, z)) = pj at *
        obtain ⟨ja, jc⟩ := pj
        dsimp only at *
        have v1 := IntWalk.i64_in (-jc) (by omega)
        have HS9 := Lib.hid (And.intro hS (And.intro hS1 hBl))
        clear hS hS1 hBl hb
        go_wp2
        go_roundw
        case rel => exact ⟨j + 1, by omega, by go_num, by rw [HRJ.out]; exact HS9.out.1.put _ _, HS9.out.2.1.far (by omega) _ _, below_put HS9.out.2.2 (Nat.le_refl _) _ _⟩
        case measure => simp [intOf]; omega
      · obtain rfl : j = m := by omega
        obtain ⟨r0, r1, r2, r3⟩ := id hS1
        rw [HW.out] at a0 a1
        have hBB := Lib.hid hBl
        clear hS hS1 hBl hb HS
        generalize hpw : wayf k (x, z) = pw at *
        have HPW := Lib.hid hpw
        clear hpw
        go_wp2
        exact bodyPost_ret (v := .agg #[.int .i64 pw.1, .int .i64 pw.2]) (by simp [results, Try.results70, go_sem, r0, r1]) rfl ⟨by rw [HPW.out], below_put hBB.out (Nat.le_succ _) _ _⟩
end Go.Proofs.Ytljmhejljpfaiaa

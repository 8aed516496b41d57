import Derived.Test.YtljmhejljpfaiaaGreatCd
namespace Go.Proofs.YtljmhejljpfaiaaGreat
set_option maxRecDepth 100000
set_option maxRecDepth 100000
open Go.RowKit Go.Shelf

/-! what the law compares with: equal points, equal stones, no stone; the reference's lay -/
theorem Pts.row' {w : World} {v : Value} {l : List Pt} (h : Pts w v l) : ∃ p b o c, v = .slice p l.length c ∧ (l ≠ [] → p = Option.some ⟨b, o, Option.none⟩) ∧ Row w b o l := by
  obtain ⟨_, p, c, rfl, rfl | ⟨b, o, rfl, hr, _⟩⟩ := h
  · exact ⟨p, 0, 0, c, rfl, fun h => absurd rfl h, fun i hi => absurd hi (by simp)⟩
  · exact ⟨_, b, o, c, rfl, fun _ => rfl, hr⟩
set_option maxHeartbeats 2000000 in
theorem samePoints_any (v1 v2 : Value) (l : List Pt) (w : World) (h1 : Pts w v1 l) (h2 : Pts w v2 l) (hm : l.length ≤ 1000000) : Calls Tryz.prog 10 #[v1, v2] w fun e w' => e = .returned (.bool true) ∧ Below w.heap.size w w' := by
  obtain ⟨p1, b1, o1, c1, rfl, hp1, hr1⟩ := h1.row'
  obtain ⟨p2, b2, o2, c2, rfl, hp2, hr2⟩ := h2.row'
  have HR1 := Lib.hid hr1; have HR2 := Lib.hid hr2; have HP1 := Lib.hid hp1; have HP2 := Lib.hid hp2
  obtain ⟨n, hn⟩ : ∃ n, n = l.length := ⟨_, rfl⟩
  rw [← hn] at hm ⊢
  have HN := Lib.hid hn
  clear hr1 hr2 hp1 hp2 hn h1 h2
  go_enter Tryz.func10, Tryz.ntmps10
  go_wp2
  go_loopw [5] (fun i wr => ∃ k : Nat, k ≤ n ∧ i = .int .i64 k ∧ Below w.heap.size w wr) (fun i _ => n - (intOf i).toNat)
  case atStart => exact ⟨0, Nat.zero_le _, rfl, Below.refl _ _⟩
  case round =>
    obtain ⟨k, hk, rfl, hB⟩ := hrel
    by_cases hlt : k < n
    · obtain rfl : p1 = some ⟨b1, o1, none⟩ := HP1.out (fun e => by have := HN.out; rw [e] at this; simp at this; omega)
      obtain rfl : p2 = some ⟨b2, o2, none⟩ := HP2.out (fun e => by have := HN.out; rw [e] at this; simp at this; omega)
      obtain ⟨ckx, ckz⟩ := HR1.out.keep hB k (by rw [← HN.out]; exact hlt)
      obtain ⟨dkx, dkz⟩ := HR2.out.keep hB k (by rw [← HN.out]; exact hlt)
      have f1 := cell_regrown ckx
      have f2 := cell_regrown ckz
      have f3 := cell_regrown dkx
      have f4 := cell_regrown dkz
      clear ckx ckz dkx dkz
      go_wp2_with fail
      refine wp_region_quiet_below (by kernel_rfl) (by kernel_rfl) ?_
      repeat (any_goals (first | go_big_quiet_step (fail) | quiet_step (fail)))
      refine wpQuiet_nil ?_
      intro _ hw'
      obtain ⟨⟨dq, osq⟩, hw''⟩ := hw'
      subst hw''
      have k2 := Below.thru hB hB.size (below_regrown wr dq osq)
      clear f1 f2 f3 f4
      generalize Sort.grow (redrawn wr dq) osq = w1 at *
      go_wp2
      go_roundw
      case rel => exact ⟨k + 1, by omega, by go_num, k2⟩
      case measure => simp [intOf]; omega
    · obtain rfl : k = n := by omega
      go_wp2
      go_ret
      exact ⟨rfl, hB⟩
/-- a quarter turn -/
def rot (p : Pt) : Pt := (-p.2, p.1)
def rotk : Nat → Pt → Pt
  | 0, p => p
  | k + 1, p => rot (rotk k p)
theorem rotk_sm (k : Nat) {p : Pt} {M : Int} (h1 : -M ≤ p.1 ∧ p.1 ≤ M) (h2 : -M ≤ p.2 ∧ p.2 ≤ M) : (-M ≤ (rotk k p).1 ∧ (rotk k p).1 ≤ M) ∧ (-M ≤ (rotk k p).2 ∧ (rotk k p).2 ≤ M) := by
  induction k with
  | zero => exact ⟨h1, h2⟩
  | succ k ih => unfold rotk rot; dsimp only; omega
/-- the point that is turned -/
def fl0 (k : Nat) (p : Pt) : Pt := if 4 ≤ k then (-p.1, p.2) else p
theorem rotk_way (k : Nat) (hk : k < 8) (p : Pt) : rotk (k % 4) (fl0 k p) = wayf k p := by
  obtain ⟨x, z⟩ := p
  have h8 : k = 0 ∨ k = 1 ∨ k = 2 ∨ k = 3 ∨ k = 4 ∨ k = 5 ∨ k = 6 ∨ k = 7 := by omega
  rcases h8 with rfl | rfl | rfl | rfl | rfl | rfl | rfl | rfl <;> simp [rotk, rot, fl0, wayf]
end Go.Proofs.YtljmhejljpfaiaaGreat

import Derived.Test.YtljmhejljpfaiaaGreatQc
import Derived.Test.YtljmhejljpfaiaaGreatCd
import Derived.Test.YtljmhejljpfaiaaGreatDb
import Derived.Laws.StructEq
namespace Go.Proofs.YtljmhejljpfaiaaGreat
set_option maxRecDepth 100000
open Go.RowKit Go.Shelf

/-! the reference's far and has -/
theorem i64wz (a : Int) (h : -9223372036854775808 ≤ a ∧ a ≤ 9223372036854775807) : IntKind.i64.wrap a = a := by rw [IntKind.wrap_i64]; omega
theorem sq_sm {d : Int} (h : -40000 ≤ d ∧ d ≤ 40000) : 0 ≤ d * d ∧ d * d ≤ 1600000000 := by
  refine ⟨sq_nn d, ?_⟩
  have := mul_sm (A := 40000) (B := 40000) (a := d) (b := d) h h (by omega)
  omega
set_option maxHeartbeats 2000000 in
theorem far_any (ax az bx bz : Int) (w : World) (h1 : Sm ax) (h2 : Sm az) (h3 : Sm bx) (h4 : Sm bz) : Calls Tryz.prog 27 #[.agg #[.int .i64 ax, .int .i64 az], .agg #[.int .i64 bx, .int .i64 bz]] w fun e w' => e = .returned (.int .i64 (fr2 (ax, az) (bx, bz))) ∧ Below w.heap.size w w' := by
  unfold Sm at *
  have HR : Hid (fr2 (ax, az) (bx, bz) = (ax - bx) * (ax - bx) + (az - bz) * (az - bz)) := rfl
  obtain ⟨d1, hd1⟩ : ∃ d, d = ax - bx := ⟨_, rfl⟩
  obtain ⟨d2, hd2⟩ : ∃ d, d = az - bz := ⟨_, rfl⟩
  have q1 := sq_sm (d := d1) (by omega)
  have q2 := sq_sm (d := d2) (by omega)
  have e1 : IntKind.i64.wrap (ax - bx) = d1 := by rw [hd1]; exact i64wz _ (by omega)
  have e2 : IntKind.i64.wrap (az - bz) = d2 := by rw [hd2]; exact i64wz _ (by omega)
  rw [← hd1, ← hd2] at HR
  obtain ⟨m1, hm1⟩ : ∃ d, d = d1 * d1 := ⟨_, rfl⟩
  obtain ⟨m2, hm2⟩ : ∃ d, d = d2 * d2 := ⟨_, rfl⟩
  have e3 : IntKind.i64.wrap (d1 * d1) = m1 := by rw [hm1]; exact i64wz _ (by omega)
  have e4 : IntKind.i64.wrap (d2 * d2) = m2 := by rw [hm2]; exact i64wz _ (by omega)
  rw [← hm1, ← hm2] at HR
  have e5 : IntKind.i64.wrap (m1 + m2) = m1 + m2 := i64wz _ (by omega)
  have k0 := Lib.hid (bl2 w (.cells #[.int .i64 ax, .int .i64 az] 31) (.cells #[.int .i64 bx, .int .i64 bz] 31))
  clear hd1 hd2 hm1 hm2 q1 q2 h1 h2 h3 h4
  go_enter Tryz.func27, Tryz.ntmps27
  go_wp2
  go_ret
  exact ⟨by rw [HR.out]; rfl, k0.out⟩
set_option maxHeartbeats 2000000 in
theorem has_any (q : Option Addr) (b o c : Nat) (l : List Pt) (x z : Int) (w : World) (hq : 0 < l.length → q = some ⟨b, o, none⟩ ∧ Row w b o l) (h12 : l.length ≤ 1000000) : Calls Tryz.prog 26 #[.slice q l.length c, .agg #[.int .i64 x, .int .i64 z]] w (PBt ((x, z) ∈ l) w) := by
  have HQ := Lib.hid hq
  have HM : Hid ((x, z) ∈ l ↔ ∃ j, j < l.length ∧ px l j = x ∧ pz l j = z) := by
    constructor
    · intro h
      obtain ⟨j, hj, e⟩ := List.getElem_of_mem h
      have : l.getD j (0, 0) = (x, z) := by rw [List.getD_eq_getElem?_getD, List.getElem?_eq_getElem hj, e]; rfl
      exact ⟨j, hj, by unfold px; rw [this], by unfold pz; rw [this]⟩
    · rintro ⟨j, hj, rfl, rfl⟩
      have : (px l j, pz l j) = l[j] := by
        unfold px pz
        rw [List.getD_eq_getElem?_getD, List.getElem?_eq_getElem hj]; rfl
      rw [this]
      exact List.getElem_mem hj
  obtain ⟨n, hn⟩ : ∃ n, n = l.length := ⟨_, rfl⟩
  rw [← hn] at HQ HM h12 ⊢
  have HNL := Lib.hid hn
  have k0 := Lib.hid (bl1 w (.cells #[.int .i64 x, .int .i64 z] 31))
  have s0 : (w.alloc (.cells #[.int .i64 x, .int .i64 z] 31)).cell? ⟨w.heap.size, 0, none⟩ = some (.int .i64 x) := by simp [go_sem]
  have s1 : (w.alloc (.cells #[.int .i64 x, .int .i64 z] 31)).cell? ⟨w.heap.size, 1, none⟩ = some (.int .i64 z) := by simp [go_sem]
  have hsz : w.heap.size < (w.alloc (.cells #[.int .i64 x, .int .i64 z] 31)).heap.size := by simp
  have HS : Hid (∀ W, Below (w.alloc (.cells #[.int .i64 x, .int .i64 z] 31)).heap.size (w.alloc (.cells #[.int .i64 x, .int .i64 z] 31)) W → W.cell? ⟨w.heap.size, 0, none⟩ = some (.int .i64 x) ∧ W.cell? ⟨w.heap.size, 1, none⟩ = some (.int .i64 z)) := fun W k =>
    ⟨(k.cell (p := ⟨w.heap.size, 0, none⟩) hsz).trans s0, (k.cell (p := ⟨w.heap.size, 1, none⟩) hsz).trans s1⟩
  clear hn s0 s1 hsz hq
  go_enter Tryz.func26, Tryz.ntmps26
  go_wp2
  generalize w.alloc (.cells #[.int .i64 x, .int .i64 z] 31) = w0 at *
  go_loopw [5] (fun i wr => ∃ k : Nat, k ≤ n ∧ i = .int .i64 k ∧ Hid (∀ j, j < k → ¬ (px l j = x ∧ pz l j = z)) ∧ Hid (Below w0.heap.size w0 wr)) (fun i _ => n - (intOf i).toNat)
  case atStart => exact ⟨0, Nat.zero_le _, rfl, fun j hj => absurd hj (by omega), Below.refl _ _⟩
  case round =>
    obtain ⟨k, hk, rfl, HK, HB⟩ := hrel
    by_cases hlt : k < n
    · obtain ⟨rfl, hr⟩ := HQ.out (by omega)
      have hr2 := hr.keep (Below.thru k0.out k0.out.size HB.out)
      have hnl : n = l.length := HNL.out
      obtain ⟨c1, c2⟩ := hr2 k (by omega)
      obtain ⟨c3, c4⟩ := HS.out _ HB.out
      have f1 := cell_regrown c1; have f2 := cell_regrown c2; have f3 := cell_regrown c3; have f4 := cell_regrown c4
      have HMK := Lib.hid (fun (h : px l k = x ∧ pz l k = z) => HM.out.2 ⟨k, by omega, h⟩)
      have HKK : Hid (¬ (px l k = x ∧ pz l k = z) → ∀ j, j < k + 1 → ¬ (px l j = x ∧ pz l j = z)) := fun h j hj => by
        rcases Nat.lt_or_ge j k with q | q
        · exact HK.out j q
        · obtain rfl : j = k := by omega
          exact h
      clear c1 c2 c3 c4 hr hr2 hnl
      generalize px l k = a at *
      generalize pz l k = d at *
      by_cases hx : a = x
      · subst hx
        by_cases hz : d = z
        · subst hz
          have HIN := Lib.hid (HMK.out ⟨rfl, rfl⟩)
          clear HMK HKK
          go_wp2_with fail
          refine wp_region_quiet_below (by kernel_rfl) (by kernel_rfl) ?_
          repeat (any_goals (first | go_big_quiet_step (fail) | quiet_step (fail)))
          refine wpQuiet_nil ?_
          intro _ hw'
          obtain ⟨⟨dq, osq⟩, hw''⟩ := hw'
          subst hw''
          have k9 := Below.thru HB.out HB.out.size (below_regrown wr dq osq)
          clear f1 f2 f3 f4
          generalize Sort.grow (redrawn wr dq) osq = w9 at *
          have K9 := Lib.hid (Below.thru k0.out k0.out.size k9)
          clear k9
          go_wp2
          go_ret
          exact ⟨⟨true, rfl, by simp [HIN.out]⟩, K9.out⟩
        · have hz2 : (d == z) = false := by simpa using hz
          go_wp2_with fail
          refine wp_region_quiet_below (by kernel_rfl) (by kernel_rfl) ?_
          repeat (any_goals (first | go_big_quiet_step (fail) | quiet_step (fail)))
          refine wpQuiet_nil ?_
          intro _ hw'
          obtain ⟨⟨dq, osq⟩, hw''⟩ := hw'
          subst hw''
          have k9 := Below.thru HB.out HB.out.size (below_regrown wr dq osq)
          clear f1 f2 f3 f4
          generalize Sort.grow (redrawn wr dq) osq = w9 at *
          go_wp2
          go_roundw
          case rel => exact ⟨k + 1, by omega, by go_num, HKK.out (fun h => hz h.2), k9⟩
          case measure => simp [intOf] <;> omega
      · have hx2 : (a == x) = false := by simpa using hx
        go_wp2_with fail
        refine wp_region_quiet_below (by kernel_rfl) (by kernel_rfl) ?_
        repeat (any_goals (first | go_big_quiet_step (fail) | quiet_step (fail)))
        refine wpQuiet_nil ?_
        intro _ hw'
        obtain ⟨⟨dq, osq⟩, hw''⟩ := hw'
        subst hw''
        have k9 := Below.thru HB.out HB.out.size (below_regrown wr dq osq)
        clear f1 f2 f3 f4
        generalize Sort.grow (redrawn wr dq) osq = w9 at *
        go_wp2
        go_roundw
        case rel => exact ⟨k + 1, by omega, by go_num, HKK.out (fun h => hx h.1), k9⟩
        case measure => simp [intOf] <;> omega
    · obtain rfl : k = n := by omega
      have HN : Hid (¬ (x, z) ∈ l) := fun h => by
        obtain ⟨j, hj, h1⟩ := HM.out.1 h
        exact HK.out j hj h1
      have K9 := Lib.hid (Below.thru k0.out k0.out.size HB.out)
      go_wp2
      go_ret
      exact ⟨⟨false, rfl, by simp [HN.out]⟩, K9.out⟩
end Go.Proofs.YtljmhejljpfaiaaGreat

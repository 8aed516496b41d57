import Derived.Test.YtljmhejljpfaiaaBc
import Derived.Deep.QuietTactic
import Derived.BigQuiet
namespace Go.Proofs.Ytljmhejljpfaiaa
set_option maxRecDepth 100000
open Go.RowKit Go.Shelf

/-! Twice, Centre -/
/-- Twice -/
def PTw (s : SV) (w : World) (e : Ending) (w' : World) : Prop := (∃ r x : Int, e = .returned (.tuple #[.int .i64 r, .int .i64 x]) ∧ ((Vld s ∧ x = 0 ∧ r = tw s.l) ∨ (¬ Vld s ∧ x = 2 ∧ r = 0))) ∧ Below w.heap.size w w'
theorem twicev_any (s : SV) (v : Value) (w : World) (h : Pts w v s.l) (hv : Vld s) : Calls Try.prog 56 #[v] w fun e w' => e = .returned (.int .i64 (tw s.l)) ∧ Below w.heap.size w w' := by
  have h3 := hv.2.1.1
  obtain ⟨b, o, c, rfl, hr⟩ := h.some (by omega)
  exact twice_any b o c s.l w hr (by omega) (by omega) hv.2.1.2.1
set_option maxHeartbeats 2000000 in
theorem askT_any (s : SV) (v : Value) (w : World) (hn : s.nm.size ≤ maxLen) (h : Pts w v s.l) : Calls Try.prog 55 #[stv s v, .func (.func 56) #[v] #[]] w (PTw s w) := by
  obtain ⟨p, c, hv⟩ : ∃ p c, v = .slice p s.l.length c := ⟨_, _, h.2.choose_spec.choose_spec.1⟩
  subst hv
  have HC := Lib.hid (fun W (k : Below w.heap.size w W) => check_any s (.slice p s.l.length c) W hn (h.keep k))
  have HW := Lib.hid (fun W (k : Below w.heap.size w W) (hv : Vld s) => twicev_any s (.slice p s.l.length c) W (h.keep k) hv)
  obtain ⟨nm, l, dp, dn, gx, gz⟩ := s
  have HP : Hid (∀ W r x, Below w.heap.size w W → ((Vld ⟨nm, l, dp, dn, gx, gz⟩ ∧ x = 0 ∧ r = tw l) ∨ (¬ Vld ⟨nm, l, dp, dn, gx, gz⟩ ∧ x = 2 ∧ r = 0)) → PTw ⟨nm, l, dp, dn, gx, gz⟩ w (.returned (.tuple #[.int .i64 r, .int .i64 x])) W) := fun W r x k hx => ⟨⟨r, x, rfl, hx⟩, k⟩
  unfold stv at *
  dsimp only at *
  clear h hn
  generalize l.length = n at *
  go_enter Try.func55, Try.ntmps55
  go_wp2_with fail
  refine (HC.out _ (bl1 w _)).mono ?_
  rintro e w1 ⟨⟨x, rfl, hx⟩, hb1⟩
  have k1 := Below.thru (bl1 w _) (by simp) hb1
  clear hb1
  rcases hx with ⟨rfl, hv⟩ | ⟨rfl, hv⟩
  · have HV := Lib.hid hv
    clear hv
    go_wp2_with fail
    refine (HW.out w1 k1 HV.out).mono ?_
    rintro e w2 ⟨rfl, hb2⟩
    have k2 := Below.thru k1 k1.size hb2
    clear hb2 k1
    go_wp2
    exact bodyPost_ret (v := .tuple #[.int .i64 (tw l), .int .i64 0]) (by simp [results, Try.results55, go_sem]) rfl (HP.out _ _ _ k2 (.inl ⟨HV.out, rfl, rfl⟩))
  · have HV := Lib.hid hv
    clear hv
    go_wp2
    exact bodyPost_ret (v := .tuple #[.int .i64 0, .int .i64 2]) (by simp [results, Try.results55, go_sem]) rfl (HP.out _ _ _ k1 (.inr ⟨HV.out, rfl, rfl⟩))
set_option maxHeartbeats 2000000 in
theorem twiceF_any (s : SV) (v : Value) (w : World) (hn : s.nm.size ≤ maxLen) (h : Pts w v s.l) : Calls Try.prog 18 #[stv s v] w (PTw s w) := by
  obtain ⟨p, c, hv⟩ : ∃ p c, v = .slice p s.l.length c := ⟨_, _, h.2.choose_spec.choose_spec.1⟩
  subst hv
  have HC := Lib.hid (fun W (k : Below w.heap.size w W) => askT_any s (.slice p s.l.length c) W hn (h.keep k))
  have HP : Hid (∀ W W' r x, Below w.heap.size w W → PTw s W (.returned (.tuple #[.int .i64 r, .int .i64 x])) W' → PTw s w (.returned (.tuple #[.int .i64 r, .int .i64 x])) W') := fun W W' r x k ⟨hx, k2⟩ => ⟨hx, Below.thru k k.size k2⟩
  obtain ⟨nm, l, dp, dn, gx, gz⟩ := s
  unfold stv at *
  dsimp only at *
  clear h hn
  generalize l.length = n at *
  go_enter Try.func18, Try.ntmps18
  go_wp2_with fail
  refine (HC.out _ (bl1 w _)).mono ?_
  rintro e w1 ⟨⟨r, x, rfl, hx⟩, hb1⟩
  have H1 := Lib.hid (HP.out _ _ r x (bl1 w _) ⟨⟨r, x, rfl, hx⟩, hb1⟩)
  clear hb1 hx
  go_wp2
  exact bodyPost_ret (v := .tuple #[.int .i64 r, .int .i64 x]) (by simp [results, Try.results18, go_sem]) rfl H1.out
/-- three numbers and an error -/
def PM3 (s : SV) (a b c : Int) (w : World) (e : Ending) (w' : World) : Prop := (∃ x y z f : Int, e = .returned (.tuple #[.agg #[.int .i64 x, .int .i64 y, .int .i64 z], .int .i64 f]) ∧ ((Vld s ∧ f = 0 ∧ x = a ∧ y = b ∧ z = c) ∨ (¬ Vld s ∧ f = 2 ∧ x = 0 ∧ y = 0 ∧ z = 0))) ∧ Below w.heap.size w w'
/-- the moments' sums -/
def mx3 (l : List Pt) : Int := sm (mox l) (List.finRange l.length)
def mz3 (l : List Pt) : Int := sm (moz l) (List.finRange l.length)
theorem momentsv_any (s : SV) (v : Value) (w : World) (h : Pts w v s.l) (hv : Vld s) : Calls Try.prog 59 #[v] w fun e w' => e = .returned (.agg #[.int .i64 (tw s.l), .int .i64 (mx3 s.l), .int .i64 (mz3 s.l)]) ∧ Below w.heap.size w w' := by
  have h3 := hv.2.1.1
  obtain ⟨b, o, c, rfl, hr⟩ := h.some (by omega)
  exact moments_any b o c s.l w hr (by omega) (by omega) hv.2.1.2.1
theorem B3.keep {T : TypeId} {B : Nat} {x y z : Int} {A C : World} (h : B3 T B x y z A) (hb : Below A.heap.size A C) : B3 T B x y z C := (hb.block B (Array.getElem?_eq_some_iff.1 h).1).trans h
set_option maxHeartbeats 4000000 in
theorem askM_any (s : SV) (v : Value) (w : World) (hn : s.nm.size ≤ maxLen) (h : Pts w v s.l) : Calls Try.prog 58 #[stv s v, .func (.func 59) #[v] #[]] w (PM3 s (tw s.l) (mx3 s.l) (mz3 s.l) w) := by
  obtain ⟨p, c, hv⟩ : ∃ p c, v = .slice p s.l.length c := ⟨_, _, h.2.choose_spec.choose_spec.1⟩
  subst hv
  have HC := Lib.hid (fun W (k : Below w.heap.size w W) => check_any s (.slice p s.l.length c) W hn (h.keep k))
  have HW := Lib.hid (fun W (k : Below w.heap.size w W) (hv : Vld s) => momentsv_any s (.slice p s.l.length c) W (h.keep k) hv)
  obtain ⟨nm, l, dp, dn, gx, gz⟩ := s
  have HP : Hid (∀ W x y z f, Below w.heap.size w W → ((Vld ⟨nm, l, dp, dn, gx, gz⟩ ∧ f = 0 ∧ x = tw l ∧ y = mx3 l ∧ z = mz3 l) ∨ (¬ Vld ⟨nm, l, dp, dn, gx, gz⟩ ∧ f = 2 ∧ x = 0 ∧ y = 0 ∧ z = 0)) → PM3 ⟨nm, l, dp, dn, gx, gz⟩ (tw l) (mx3 l) (mz3 l) w (.returned (.tuple #[.agg #[.int .i64 x, .int .i64 y, .int .i64 z], .int .i64 f])) W) := fun W x y z f k hx => ⟨⟨x, y, z, f, rfl, hx⟩, k⟩
  unfold stv at *
  dsimp only at *
  clear h hn
  generalize l.length = n at *
  have k0 := bl2 w (.cells #[.string nm, .slice p n c, .int .i64 dp, .int .i64 dn, .int .i64 gx, .int .i64 gz] 34) (.cells #[.int .i64 0, .int .i64 0, .int .i64 0] 90)
  have m0 : B3 90 (w.heap.size + 1) 0 0 0 ((w.alloc (.cells #[.string nm, .slice p n c, .int .i64 dp, .int .i64 dn, .int .i64 gx, .int .i64 gz] 34)).alloc (.cells #[.int .i64 0, .int .i64 0, .int .i64 0] 90)) := by
    have e : (w.alloc (.cells #[.string nm, .slice p n c, .int .i64 dp, .int .i64 dn, .int .i64 gx, .int .i64 gz] 34)).heap.size = w.heap.size + 1 := by simp
    rw [← e]
    exact World.alloc_heap_new _ _
  have K0 := Lib.hid k0
  have M0 := Lib.hid m0
  clear k0 m0
  go_enter Try.func58, Try.ntmps58
  go_wp2_with fail
  refine (HC.out _ K0.out).mono ?_
  rintro e w1 ⟨⟨x, rfl, hx⟩, hb1⟩
  have K1 := Lib.hid (Below.thru K0.out K0.out.size hb1)
  have M1 := Lib.hid (M0.out.keep hb1)
  clear hb1
  obtain ⟨T4, hT⟩ : ∃ T4, T4 = w.heap.size + 1 := ⟨_, rfl⟩
  have hTw : w.heap.size ≤ T4 := by omega
  rw [← hT] at M1
  simp only [← hT]
  clear hT M0
  rcases hx with ⟨rfl, hv⟩ | ⟨rfl, hv⟩
  · have HV := Lib.hid hv
    clear hv
    go_wp2_with fail
    refine (HW.out w1 K1.out HV.out).mono ?_
    rintro e w2 ⟨rfl, hb2⟩
    have K2 := Lib.hid (Below.thru K1.out K1.out.size hb2)
    obtain ⟨⟨c0, c1, c2⟩, c3, c4, c5⟩ := (M1.out.keep hb2).cells
    clear hb2
    generalize tw l = a at *
    generalize mx3 l = b at *
    generalize mz3 l = d at *
    go_wp2
    exact bodyPost_ret (v := .tuple #[.agg #[.int .i64 a, .int .i64 b, .int .i64 d], .int .i64 0]) (by simp [results, Try.results58, go_sem, c0, c1, c2]) rfl (HP.out _ _ _ _ _ (((K2.out.setCell hTw _).setCell hTw _).setCell hTw _) (.inl ⟨HV.out, rfl, rfl, rfl, rfl⟩))
  · have HV := Lib.hid hv
    clear hv
    have k7 := bl1 w1 (.cells #[.int .i64 0, .int .i64 0, .int .i64 0] 90)
    obtain ⟨⟨c0, c1, c2⟩, c3, c4, c5⟩ := (M1.out.keep k7).cells
    have K7 := Lib.hid (Below.thru K1.out K1.out.size k7)
    have m7 : B3 90 w1.heap.size 0 0 0 (w1.alloc (.cells #[.int .i64 0, .int .i64 0, .int .i64 0] 90)) := World.alloc_heap_new _ _
    obtain ⟨⟨d0, d1, d2⟩, d3, d4, d5⟩ := m7.cells
    clear k7 m7
    go_wp2
    exact bodyPost_ret (v := .tuple #[.agg #[.int .i64 0, .int .i64 0, .int .i64 0], .int .i64 2]) (by simp [results, Try.results58, go_sem, c0, c1, c2]) rfl (HP.out _ _ _ _ _ (((K7.out.setCell hTw _).setCell hTw _).setCell hTw _) (.inr ⟨HV.out, rfl, rfl, rfl, rfl⟩))
end Go.Proofs.Ytljmhejljpfaiaa
namespace Go.Proofs.Ytljmhejljpfaiaa
set_option maxRecDepth 100000
open Go.RowKit Go.Shelf

/-! Centre, Extent, Bed -/
/-- Centre -/
def PCe (s : SV) (w : World) (e : Ending) (w' : World) : Prop := (∃ x y z f : Int, e = .returned (.tuple #[.int .i64 x, .int .i64 y, .int .i64 z, .int .i64 f]) ∧ ((Vld s ∧ f = 0 ∧ x = mx3 s.l ∧ y = mz3 s.l ∧ z = 3 * tw s.l) ∨ (¬ Vld s ∧ f = 2 ∧ x = 0 ∧ y = 0 ∧ z = 0))) ∧ Below w.heap.size w w'
set_option maxHeartbeats 4000000 in
theorem centreF_any (s : SV) (v : Value) (w : World) (hn : s.nm.size ≤ maxLen) (h : Pts w v s.l) : Calls Try.prog 20 #[stv s v] w (PCe s w) := by
  obtain ⟨p, c, hv⟩ : ∃ p c, v = .slice p s.l.length c := ⟨_, _, h.2.choose_spec.choose_spec.1⟩
  subst hv
  have HC := Lib.hid (fun W (k : Below w.heap.size w W) => askM_any s (.slice p s.l.length c) W hn (h.keep k))
  have HT : Hid (∀ x y z f : Int, ((Vld s ∧ f = 0 ∧ x = tw s.l ∧ y = mx3 s.l ∧ z = mz3 s.l) ∨ (¬ Vld s ∧ f = 2 ∧ x = 0 ∧ y = 0 ∧ z = 0)) → (-8000000000 ≤ x ∧ x ≤ 8000000000) ∧ ∀ W, Below w.heap.size w W → PCe s w (.returned (.tuple #[.int .i64 y, .int .i64 z, .int .i64 (3 * x), .int .i64 f])) W) := by
    intro x y z f hx
    rcases hx with ⟨hv, rfl, rfl, rfl, rfl⟩ | ⟨hv, rfl, rfl, rfl, rfl⟩
    · exact ⟨tw_bd hv.2.1.2.1 (by have := hv.2.1.1; omega), fun W k => ⟨⟨_, _, _, _, rfl, .inl ⟨hv, rfl, rfl, rfl, rfl⟩⟩, k⟩⟩
    · exact ⟨by omega, fun W k => ⟨⟨_, _, _, _, rfl, .inr ⟨hv, rfl, rfl, rfl, rfl⟩⟩, k⟩⟩
  obtain ⟨nm, l, dp, dn, gx, gz⟩ := s
  unfold stv at *
  dsimp only at *
  clear h hn
  generalize l.length = n at *
  go_enter Try.func20, Try.ntmps20
  go_wp2_with fail
  refine (HC.out _ (bl1 w _)).mono ?_
  rintro e w1 ⟨⟨x, y, z, f, rfl, hx⟩, hb1⟩
  obtain ⟨hxb, hx⟩ := HT.out _ _ _ _ hx
  have K1 := Lib.hid (Below.thru (bl1 w _) (by simp) hb1)
  have HX := Lib.hid hx
  have e1 := IntWalk.i64_in (3 * x) (by omega)
  clear hb1 hx
  go_wp2_with fail
  have m7 : B3 90 w1.heap.size x y z (w1.alloc (.cells #[.int .i64 x, .int .i64 y, .int .i64 z] 90)) := World.alloc_heap_new _ _
  obtain ⟨⟨c0, c1, c2⟩, -⟩ := m7.cells
  have K7 := Lib.hid (Below.thru K1.out K1.out.size (bl1 w1 (.cells #[.int .i64 x, .int .i64 y, .int .i64 z] 90)))
  clear m7
  generalize w1.alloc (.cells #[.int .i64 x, .int .i64 y, .int .i64 z] 90) = w7 at *
  generalize w1.heap.size = T6 at *
  have f0 := cell_regrown c0
  have f1 := cell_regrown c1
  have f2 := cell_regrown c2
  refine wp_region_quiet_below (by kernel_rfl) (by kernel_rfl) ?_
  repeat (any_goals (first | go_big_quiet_step (fail) | quiet_step (fail)))
  refine wpQuiet_nil ?_
  intro _ hw'
  obtain ⟨⟨dq, osq⟩, hw''⟩ := hw'
  subst hw''
  have k9 := Below.thru K7.out K7.out.size (below_regrown w7 dq osq)
  clear f0 f1 f2 c0 c1 c2
  generalize Sort.grow (redrawn w7 dq) osq = w9 at *
  go_wp2
  exact bodyPost_ret (v := .tuple #[.int .i64 y, .int .i64 z, .int .i64 (3 * x), .int .i64 f]) (by simp [results, Try.results20, go_sem]) rfl (HX.out _ k9)
end Go.Proofs.Ytljmhejljpfaiaa
namespace Go.Proofs.Ytljmhejljpfaiaa
set_option maxRecDepth 100000
open Go.RowKit Go.Shelf

/-! Extent -/
theorem B2.cells {B : Nat} {x z : Int} {w : World} (h : B2 B x z w) : (w.cell? ⟨B, 0, none⟩ = some (.int .i64 x) ∧ w.cell? ⟨B, 1, none⟩ = some (.int .i64 z)) ∧ w.frozen? ⟨B, 0, none⟩ = false ∧ w.frozen? ⟨B, 1, none⟩ = false := ⟨⟨h.1, h.2.1⟩, h.2.2⟩
theorem B2.new (w : World) (x z : Int) (T : TypeId) : B2 w.heap.size x z (w.alloc (.cells #[.int .i64 x, .int .i64 z] T)) := ⟨by simp [go_sem], by simp [go_sem], by simp [go_sem], by simp [go_sem]⟩
set_option maxHeartbeats 4000000 in
theorem farthest_any (b o c : Nat) (l : List Pt) (w : World) (hr : Row w b o l) (h3 : 1 ≤ l.length) (h12 : l.length ≤ 1000000) :
    Calls Try.prog 61 #[.slice (some ⟨b, o, none⟩) l.length c] w fun e w' => e = .returned (.agg #[.int .i64 (mxx l l.length), .int .i64 (mxz l l.length)]) ∧ Below w.heap.size w w' := by
  have HR := Lib.hid hr
  obtain ⟨n, hn⟩ : ∃ n, n = l.length := ⟨_, rfl⟩
  rw [← hn] at h3 h12 ⊢
  have HN := Lib.hid hn
  obtain ⟨c0x, c0z⟩ := hr 0 (by omega)
  simp only [Nat.zero_mul, Nat.add_zero] at c0x c0z
  have hbw := hr.lt (by omega)
  have HSX : Hid (∀ k, mxx l (k + 1) = if mxx l k < px l k then px l k else mxx l k) := fun _ => rfl
  have HSZ : Hid (∀ k, mxz l (k + 1) = if mxz l k < pz l k then pz l k else mxz l k) := fun _ => rfl
  clear hr hn
  go_enter Try.func61, Try.ntmps61
  go_wp2
  go_loopw [11, 5] (fun i _ wr => ∃ k : Nat, k ≤ n ∧ i = .int .i64 k ∧ Hid (B2 (w.heap.size + 1) (mxx l k) (mxz l k) wr ∧ B2 w.heap.size 0 0 wr ∧ Below w.heap.size w wr)) (fun i _ _ => n - (intOf i).toNat)
  case atStart => exact ⟨0, Nat.zero_le _, rfl, ⟨by simp [go_sem]; rfl, by simp [go_sem]; rfl, by simp [go_sem], by simp [go_sem]⟩, ⟨by simp [go_sem], by simp [go_sem], by simp [go_sem], by simp [go_sem]⟩, bl2 _ _ _⟩
  case round =>
    obtain ⟨k, hk, rfl, HS⟩ := hrel
    by_cases hlt : k < n
    · have hrow := HR.out.keep HS.out.2.2
      obtain ⟨ck, cz⟩ := hrow k (by rw [← HN.out]; exact hlt)
      have hbr := hrow.lt (by rw [← HN.out]; omega)
      have hsx := HSX.out k
      have hsz := HSZ.out k
      have HS5 : Hid (B2 (w.heap.size + 1) (mxx l k) (mxz l k) (wr.alloc (.cells #[.int .i64 (px l k), .int .i64 (pz l k)] 32)) ∧ B2 w.heap.size 0 0 (wr.alloc (.cells #[.int .i64 (px l k), .int .i64 (pz l k)] 32)) ∧ Below w.heap.size w (wr.alloc (.cells #[.int .i64 (px l k), .int .i64 (pz l k)] 32))) :=
        ⟨HS.out.1.keep (bl1 _ _), HS.out.2.1.keep (bl1 _ _), Below.thru HS.out.2.2 HS.out.2.2.size (bl1 _ _)⟩
      obtain ⟨⟨b0, b1⟩, f0, f1⟩ := HS5.out.1.cells
      obtain ⟨⟨d0, d1⟩, g0, g1⟩ := (B2.new wr (px l k) (pz l k) 32).cells
      generalize mxx l k = mx at *
      generalize mxz l k = mz at *
      generalize px l k = ax at *
      generalize pz l k = az at *
      clear hrow HS
      go_wp2
      all_goals
        go_roundw
        case rel =>
          refine ⟨k + 1, by omega, by go_num, ?_, B2.far HS5.out.2.1 (by omega) _ _, below_put HS5.out.2.2 (Nat.le_succ _) _ _⟩
          rw [hsx, hsz]
          exact B2.put HS5.out.1 _ _
        case measure => simp [intOf]; omega
    · obtain rfl : k = n := by omega
      obtain ⟨⟨b0, b1⟩, f0, f1⟩ := HS.out.1.cells
      obtain ⟨⟨r0, r1⟩, q0, q1⟩ := HS.out.2.1.cells
      go_wp2
      exact bodyPost_ret (v := .agg #[.int .i64 (mxx l k), .int .i64 (mxz l k)]) (by simp [results, Try.results61, go_sem, r0, r1]) rfl ⟨rfl, below_put HS.out.2.2 (Nat.le_refl _) _ _⟩
end Go.Proofs.Ytljmhejljpfaiaa
namespace Go.Proofs.Ytljmhejljpfaiaa
set_option maxRecDepth 100000
open Go.RowKit Go.Shelf

/-! Extent, Bed -/
/-- two numbers and an error -/
def PM2 (s : SV) (a b : Int) (w : World) (e : Ending) (w' : World) : Prop := (∃ x y f : Int, e = .returned (.tuple #[.agg #[.int .i64 x, .int .i64 y], .int .i64 f]) ∧ ((Vld s ∧ f = 0 ∧ x = a ∧ y = b) ∨ (¬ Vld s ∧ f = 2 ∧ x = 0 ∧ y = 0))) ∧ Below w.heap.size w w'
def PE2 (s : SV) (a b : Int) (w : World) (e : Ending) (w' : World) : Prop := (∃ x y f : Int, e = .returned (.tuple #[.int .i64 x, .int .i64 y, .int .i64 f]) ∧ ((Vld s ∧ f = 0 ∧ x = a ∧ y = b) ∨ (¬ Vld s ∧ f = 2 ∧ x = 0 ∧ y = 0))) ∧ Below w.heap.size w w'
def hx (l : List Pt) : Int := mxx l l.length
def hz (l : List Pt) : Int := mxz l l.length
theorem farthestv_any (s : SV) (v : Value) (w : World) (h : Pts w v s.l) (hv : Vld s) : Calls Try.prog 61 #[v] w fun e w' => e = .returned (.agg #[.int .i64 (hx s.l), .int .i64 (hz s.l)]) ∧ Below w.heap.size w w' := by
  have h3 := hv.2.1.1
  obtain ⟨b, o, c, rfl, hr⟩ := h.some (by omega)
  exact farthest_any b o c s.l w hr (by omega) (by omega)
/-- the bed's two ends -/
def bdl (l : List Pt) : Int := px l 0
def bdr (l : List Pt) : Int := if pz l 1 = 0 then px l 1 else px l 0
set_option maxHeartbeats 4000000 in
theorem bottom_any (b o c : Nat) (l : List Pt) (w : World) (hr : Row w b o l) (h3 : 2 ≤ l.length) (h12 : l.length ≤ 1000000) :
    Calls Try.prog 63 #[.slice (some ⟨b, o, none⟩) l.length c] w fun e w' => e = .returned (.agg #[.int .i64 (bdl l), .int .i64 (bdr l)]) ∧ Below w.heap.size w w' := by
  have k1 := bl1 w (.cells #[.int .i64 0, .int .i64 0] 98)
  obtain ⟨⟨d0, d1⟩, d3, d4⟩ := (B2.new w 0 0 98).cells
  obtain ⟨a0, a1⟩ := (hr.keep k1) 0 (by omega)
  obtain ⟨e0, e1⟩ := (hr.keep k1) 1 (by omega)
  have hrl := hr.lt (by omega)
  have K1 := Lib.hid k1
  simp only [Nat.zero_mul, Nat.add_zero, Nat.one_mul] at a0 a1 e0 e1
  have HB : Hid ((pz l 1 = 0 → bdr l = px l 1) ∧ (¬ pz l 1 = 0 → bdr l = px l 0)) := by constructor <;> intro h <;> unfold bdr <;> simp [h]
  unfold bdl
  clear k1 hr
  generalize bdr l = br at *
  generalize px l 0 = x0 at *
  generalize pz l 0 = z0 at *
  generalize px l 1 = x1 at *
  generalize pz l 1 = z1 at *
  generalize l.length = n at *
  go_enter Try.func63, Try.ntmps63
  by_cases hz : z1 = 0
  · have hbr := HB.out.1 hz
    go_wp2_with fail
    go_region
    go_wp2
    exact bodyPost_ret (v := .agg #[.int .i64 x0, .int .i64 x1]) (by simp [results, Try.results63, go_sem]) rfl ⟨by rw [hbr], (bl1 w _).drew⟩
  · have hbr := HB.out.2 hz
    go_wp2_with fail
    go_region
    go_wp2
    exact bodyPost_ret (v := .agg #[.int .i64 x0, .int .i64 x0]) (by simp [results, Try.results63, go_sem]) rfl ⟨by rw [hbr], (bl1 w _).drew⟩
theorem bottomv_any (s : SV) (v : Value) (w : World) (h : Pts w v s.l) (hv : Vld s) : Calls Try.prog 63 #[v] w fun e w' => e = .returned (.agg #[.int .i64 (bdl s.l), .int .i64 (bdr s.l)]) ∧ Below w.heap.size w w' := by
  have h3 := hv.2.1.1
  obtain ⟨b, o, c, rfl, hr⟩ := h.some (by omega)
  exact bottom_any b o c s.l w hr (by omega) (by omega)
set_option maxHeartbeats 4000000 in
theorem askE_any (s : SV) (v : Value) (w : World) (hn : s.nm.size ≤ maxLen) (h : Pts w v s.l) : Calls Try.prog 60 #[stv s v, .func (.func 61) #[v] #[]] w (PM2 s (hx s.l) (hz s.l) w) := by
  obtain ⟨p, c, hv⟩ : ∃ p c, v = .slice p s.l.length c := ⟨_, _, h.2.choose_spec.choose_spec.1⟩
  subst hv
  have HC := Lib.hid (fun W (k : Below w.heap.size w W) => check_any s (.slice p s.l.length c) W hn (h.keep k))
  have HW := Lib.hid (fun W (k : Below w.heap.size w W) (hv : Vld s) => farthestv_any s (.slice p s.l.length c) W (h.keep k) hv)
  obtain ⟨nm, l, dp, dn, gx, gz⟩ := s
  have HP : Hid (∀ W x y f, Below w.heap.size w W → ((Vld ⟨nm, l, dp, dn, gx, gz⟩ ∧ f = 0 ∧ x = hx l ∧ y = hz l) ∨ (¬ Vld ⟨nm, l, dp, dn, gx, gz⟩ ∧ f = 2 ∧ x = 0 ∧ y = 0)) → PM2 ⟨nm, l, dp, dn, gx, gz⟩ (hx l) (hz l) w (.returned (.tuple #[.agg #[.int .i64 x, .int .i64 y], .int .i64 f])) W) := fun W x y f k hx => ⟨⟨x, y, f, rfl, hx⟩, k⟩
  unfold stv at *
  dsimp only at *
  clear h hn
  generalize l.length = n at *
  have K0 := Lib.hid (bl2 w (.cells #[.string nm, .slice p n c, .int .i64 dp, .int .i64 dn, .int .i64 gx, .int .i64 gz] 34) (.cells #[.int .i64 0, .int .i64 0] 32))
  have M0 : Hid (B2 (w.heap.size + 1) 0 0 ((w.alloc (.cells #[.string nm, .slice p n c, .int .i64 dp, .int .i64 dn, .int .i64 gx, .int .i64 gz] 34)).alloc (.cells #[.int .i64 0, .int .i64 0] 32))) := by
    have e : (w.alloc (.cells #[.string nm, .slice p n c, .int .i64 dp, .int .i64 dn, .int .i64 gx, .int .i64 gz] 34)).heap.size = w.heap.size + 1 := by simp
    rw [← e]
    exact B2.new _ _ _ _
  go_enter Try.func60, Try.ntmps60
  go_wp2_with fail
  refine (HC.out _ K0.out).mono ?_
  rintro e w1 ⟨⟨x, rfl, hx⟩, hb1⟩
  have K1 := Lib.hid (Below.thru K0.out K0.out.size hb1)
  have M1 := Lib.hid (M0.out.keep hb1)
  clear hb1
  obtain ⟨T4, hT⟩ : ∃ T4, T4 = w.heap.size + 1 := ⟨_, rfl⟩
  have hTw : w.heap.size ≤ T4 := by omega
  rw [← hT] at M1
  simp only [← hT]
  clear hT M0
  rcases hx with ⟨rfl, hv⟩ | ⟨rfl, hv⟩
  · have HV := Lib.hid hv
    clear hv
    go_wp2_with fail
    refine (HW.out w1 K1.out HV.out).mono ?_
    rintro e w2 ⟨rfl, hb2⟩
    have K2 := Lib.hid (Below.thru K1.out K1.out.size hb2)
    obtain ⟨⟨c0, c1⟩, c3, c4⟩ := (M1.out.keep hb2).cells
    clear hb2
    generalize hx l = a at *
    generalize hz l = b at *
    go_wp2
    exact bodyPost_ret (v := .tuple #[.agg #[.int .i64 a, .int .i64 b], .int .i64 0]) (by simp [results, Try.results60, go_sem, c0, c1]) rfl (HP.out _ _ _ _ ((K2.out.setCell hTw _).setCell hTw _) (.inl ⟨HV.out, rfl, rfl, rfl⟩))
  · have HV := Lib.hid hv
    clear hv
    have k7 := bl1 w1 (.cells #[.int .i64 0, .int .i64 0] 32)
    obtain ⟨⟨c0, c1⟩, c3, c4⟩ := (M1.out.keep k7).cells
    have K7 := Lib.hid (Below.thru K1.out K1.out.size k7)
    obtain ⟨⟨d0, d1⟩, d3, d4⟩ := (B2.new w1 0 0 32).cells
    clear k7
    go_wp2
    exact bodyPost_ret (v := .tuple #[.agg #[.int .i64 0, .int .i64 0], .int .i64 2]) (by simp [results, Try.results60, go_sem, c0, c1]) rfl (HP.out _ _ _ _ ((K7.out.setCell hTw _).setCell hTw _) (.inr ⟨HV.out, rfl, rfl, rfl⟩))
set_option maxHeartbeats 4000000 in
theorem extentF_any (s : SV) (v : Value) (w : World) (hn : s.nm.size ≤ maxLen) (h : Pts w v s.l) : Calls Try.prog 21 #[stv s v] w (PE2 s (hx s.l) (hz s.l) w) := by
  obtain ⟨p, c, hv⟩ : ∃ p c, v = .slice p s.l.length c := ⟨_, _, h.2.choose_spec.choose_spec.1⟩
  subst hv
  have HC := Lib.hid (fun W (k : Below w.heap.size w W) => askE_any s (.slice p s.l.length c) W hn (h.keep k))
  have HT : Hid (∀ x y f : Int, ((Vld s ∧ f = 0 ∧ x = hx s.l ∧ y = hz s.l) ∨ (¬ Vld s ∧ f = 2 ∧ x = 0 ∧ y = 0)) → ∀ W, Below w.heap.size w W → PE2 s (hx s.l) (hz s.l) w (.returned (.tuple #[.int .i64 x, .int .i64 y, .int .i64 f])) W) := fun x y f hx W k => ⟨⟨x, y, f, rfl, hx⟩, k⟩
  obtain ⟨nm, l, dp, dn, gx, gz⟩ := s
  unfold stv at *
  dsimp only at *
  clear h hn
  generalize l.length = n at *
  go_enter Try.func21, Try.ntmps21
  go_wp2_with fail
  refine (HC.out _ (bl1 w _)).mono ?_
  rintro e w1 ⟨⟨x, y, f, rfl, hx⟩, hb1⟩
  have HX := Lib.hid (HT.out _ _ _ hx)
  have K1 := Lib.hid (Below.thru (bl1 w _) (by simp) hb1)
  clear hb1 hx
  go_wp2_with fail
  obtain ⟨⟨c0, c1⟩, -⟩ := (B2.new w1 x y 32).cells
  have K7 := Lib.hid (Below.thru K1.out K1.out.size (bl1 w1 (.cells #[.int .i64 x, .int .i64 y] 32)))
  generalize w1.alloc (.cells #[.int .i64 x, .int .i64 y] 32) = w7 at *
  generalize w1.heap.size = T6 at *
  have f0 := cell_regrown c0
  have f1 := cell_regrown c1
  refine wp_region_quiet_below (by kernel_rfl) (by kernel_rfl) ?_
  repeat (any_goals (first | go_big_quiet_step (fail) | quiet_step (fail)))
  refine wpQuiet_nil ?_
  intro _ hw'
  obtain ⟨⟨dq, osq⟩, hw''⟩ := hw'
  subst hw''
  have k9 := Below.thru K7.out K7.out.size (below_regrown w7 dq osq)
  clear f0 f1 c0 c1
  generalize Sort.grow (redrawn w7 dq) osq = w9 at *
  go_wp2
  exact bodyPost_ret (v := .tuple #[.int .i64 x, .int .i64 y, .int .i64 f]) (by simp [results, Try.results21, go_sem]) rfl (HX.out _ k9)
set_option maxHeartbeats 4000000 in
theorem askB_any (s : SV) (v : Value) (w : World) (hn : s.nm.size ≤ maxLen) (h : Pts w v s.l) : Calls Try.prog 62 #[stv s v, .func (.func 63) #[v] #[]] w (PM2 s (bdl s.l) (bdr s.l) w) := by
  obtain ⟨p, c, hv⟩ : ∃ p c, v = .slice p s.l.length c := ⟨_, _, h.2.choose_spec.choose_spec.1⟩
  subst hv
  have HC := Lib.hid (fun W (k : Below w.heap.size w W) => check_any s (.slice p s.l.length c) W hn (h.keep k))
  have HW := Lib.hid (fun W (k : Below w.heap.size w W) (hv : Vld s) => bottomv_any s (.slice p s.l.length c) W (h.keep k) hv)
  obtain ⟨nm, l, dp, dn, gx, gz⟩ := s
  have HP : Hid (∀ W x y f, Below w.heap.size w W → ((Vld ⟨nm, l, dp, dn, gx, gz⟩ ∧ f = 0 ∧ x = bdl l ∧ y = bdr l) ∨ (¬ Vld ⟨nm, l, dp, dn, gx, gz⟩ ∧ f = 2 ∧ x = 0 ∧ y = 0)) → PM2 ⟨nm, l, dp, dn, gx, gz⟩ (bdl l) (bdr l) w (.returned (.tuple #[.agg #[.int .i64 x, .int .i64 y], .int .i64 f])) W) := fun W x y f k hx => ⟨⟨x, y, f, rfl, hx⟩, k⟩
  unfold stv at *
  dsimp only at *
  clear h hn
  generalize l.length = n at *
  have K0 := Lib.hid (bl2 w (.cells #[.string nm, .slice p n c, .int .i64 dp, .int .i64 dn, .int .i64 gx, .int .i64 gz] 34) (.cells #[.int .i64 0, .int .i64 0] 98))
  have M0 : Hid (B2 (w.heap.size + 1) 0 0 ((w.alloc (.cells #[.string nm, .slice p n c, .int .i64 dp, .int .i64 dn, .int .i64 gx, .int .i64 gz] 34)).alloc (.cells #[.int .i64 0, .int .i64 0] 98))) := by
    have e : (w.alloc (.cells #[.string nm, .slice p n c, .int .i64 dp, .int .i64 dn, .int .i64 gx, .int .i64 gz] 34)).heap.size = w.heap.size + 1 := by simp
    rw [← e]
    exact B2.new _ _ _ _
  go_enter Try.func62, Try.ntmps62
  go_wp2_with fail
  refine (HC.out _ K0.out).mono ?_
  rintro e w1 ⟨⟨x, rfl, hx⟩, hb1⟩
  have K1 := Lib.hid (Below.thru K0.out K0.out.size hb1)
  have M1 := Lib.hid (M0.out.keep hb1)
  clear hb1
  obtain ⟨T4, hT⟩ : ∃ T4, T4 = w.heap.size + 1 := ⟨_, rfl⟩
  have hTw : w.heap.size ≤ T4 := by omega
  rw [← hT] at M1
  simp only [← hT]
  clear hT M0
  rcases hx with ⟨rfl, hv⟩ | ⟨rfl, hv⟩
  · have HV := Lib.hid hv
    clear hv
    go_wp2_with fail
    refine (HW.out w1 K1.out HV.out).mono ?_
    rintro e w2 ⟨rfl, hb2⟩
    have K2 := Lib.hid (Below.thru K1.out K1.out.size hb2)
    obtain ⟨⟨c0, c1⟩, c3, c4⟩ := (M1.out.keep hb2).cells
    clear hb2
    generalize bdl l = a at *
    generalize bdr l = b at *
    go_wp2
    exact bodyPost_ret (v := .tuple #[.agg #[.int .i64 a, .int .i64 b], .int .i64 0]) (by simp [results, Try.results62, go_sem, c0, c1]) rfl (HP.out _ _ _ _ ((K2.out.setCell hTw _).setCell hTw _) (.inl ⟨HV.out, rfl, rfl, rfl⟩))
  · have HV := Lib.hid hv
    clear hv
    have k7 := bl1 w1 (.cells #[.int .i64 0, .int .i64 0] 98)
    obtain ⟨⟨c0, c1⟩, c3, c4⟩ := (M1.out.keep k7).cells
    have K7 := Lib.hid (Below.thru K1.out K1.out.size k7)
    obtain ⟨⟨d0, d1⟩, d3, d4⟩ := (B2.new w1 0 0 98).cells
    clear k7
    go_wp2
    exact bodyPost_ret (v := .tuple #[.agg #[.int .i64 0, .int .i64 0], .int .i64 2]) (by simp [results, Try.results62, go_sem, c0, c1]) rfl (HP.out _ _ _ _ ((K7.out.setCell hTw _).setCell hTw _) (.inr ⟨HV.out, rfl, rfl, rfl⟩))
set_option maxHeartbeats 4000000 in
theorem bedF_any (s : SV) (v : Value) (w : World) (hn : s.nm.size ≤ maxLen) (h : Pts w v s.l) : Calls Try.prog 22 #[stv s v] w (PE2 s (bdl s.l) (bdr s.l) w) := by
  obtain ⟨p, c, hv⟩ : ∃ p c, v = .slice p s.l.length c := ⟨_, _, h.2.choose_spec.choose_spec.1⟩
  subst hv
  have HC := Lib.hid (fun W (k : Below w.heap.size w W) => askB_any s (.slice p s.l.length c) W hn (h.keep k))
  have HT : Hid (∀ x y f : Int, ((Vld s ∧ f = 0 ∧ x = bdl s.l ∧ y = bdr s.l) ∨ (¬ Vld s ∧ f = 2 ∧ x = 0 ∧ y = 0)) → ∀ W, Below w.heap.size w W → PE2 s (bdl s.l) (bdr s.l) w (.returned (.tuple #[.int .i64 x, .int .i64 y, .int .i64 f])) W) := fun x y f hx W k => ⟨⟨x, y, f, rfl, hx⟩, k⟩
  obtain ⟨nm, l, dp, dn, gx, gz⟩ := s
  unfold stv at *
  dsimp only at *
  clear h hn
  generalize l.length = n at *
  go_enter Try.func22, Try.ntmps22
  go_wp2_with fail
  refine (HC.out _ (bl1 w _)).mono ?_
  rintro e w1 ⟨⟨x, y, f, rfl, hx⟩, hb1⟩
  have HX := Lib.hid (HT.out _ _ _ hx)
  have K1 := Lib.hid (Below.thru (bl1 w _) (by simp) hb1)
  clear hb1 hx
  go_wp2_with fail
  obtain ⟨⟨c0, c1⟩, -⟩ := (B2.new w1 x y 98).cells
  have K7 := Lib.hid (Below.thru K1.out K1.out.size (bl1 w1 (.cells #[.int .i64 x, .int .i64 y] 98)))
  generalize w1.alloc (.cells #[.int .i64 x, .int .i64 y] 98) = w7 at *
  generalize w1.heap.size = T6 at *
  have f0 := cell_regrown c0
  have f1 := cell_regrown c1
  refine wp_region_quiet_below (by kernel_rfl) (by kernel_rfl) ?_
  repeat (any_goals (first | go_big_quiet_step (fail) | quiet_step (fail)))
  refine wpQuiet_nil ?_
  intro _ hw'
  obtain ⟨⟨dq, osq⟩, hw''⟩ := hw'
  subst hw''
  have k9 := Below.thru K7.out K7.out.size (below_regrown w7 dq osq)
  clear f0 f1 c0 c1
  generalize Sort.grow (redrawn w7 dq) osq = w9 at *
  go_wp2
  exact bodyPost_ret (v := .tuple #[.int .i64 x, .int .i64 y, .int .i64 f]) (by simp [results, Try.results22, go_sem]) rfl (HX.out _ k9)
end Go.Proofs.Ytljmhejljpfaiaa

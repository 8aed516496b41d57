import Derived.Test.YtljmhejljpfaiaaBc
import Derived.Deep.QuietTactic
import Derived.BigQuiet
namespace Go.Proofs.Ytljmhejljpfaiaa
set_option maxRecDepth 100000
open Go.RowKit Go.Shelf

/-! Twice, Centre -/
/-- Twice -/
def PTw (s : SV) (w : World) (e : Ending) (w' : World) : Prop := (∃ r x : Int, e = .returned (.tuple #[.int .i64 r, .int .i64 x]) ∧ ((Vld s ∧ x = 0 ∧ r = tw s.l) ∨ (¬ Vld s ∧ x = 2 ∧ r = 0))) ∧ Below w.heap.size w w'
theorem twicev_any (s : SV) (v : Value) (w : World) (h : Pts w v s.l) (hv : Vld s) : Calls Try.prog 56 #[v] w fun e w' => e = .returned (.int .i64 (tw s.l)) ∧ Below w.heap.size w w' := by
  have h3 := hv.2.1.1
  obtain ⟨b, o, c, rfl, hr⟩ := h.some (by omega)
  exact twice_any b o c s.l w hr (by omega) (by omega) hv.2.1.2.1
set_option maxHeartbeats 2000000 in
theorem askT_any (s : SV) (v : Value) (w : World) (hn : s.nm.size ≤ maxLen) (h : Pts w v s.l) : Calls Try.prog 55 #[stv s v, .func (.func 56) #[v] #[]] w (PTw s w) := by
  obtain ⟨p, c, hv⟩ : ∃ p c, v = .slice p s.l.length c := ⟨_, _, h.2.choose_spec.choose_spec.1⟩
  subst hv
  have HC := Lib.hid (fun W (k : Below w.heap.size w W) => check_any s (.slice p s.l.length c) W hn (h.keep k))
  have HW := Lib.hid (fun W (k : Below w.heap.size w W) (hv : Vld s) => twicev_any s (.slice p s.l.length c) W (h.keep k) hv)
  obtain ⟨nm, l, dp, dn, gx, gz⟩ := s
  have HP : Hid (∀ W r x, Below w.heap.size w W → ((Vld ⟨nm, l, dp, dn, gx, gz⟩ ∧ x = 0 ∧ r = tw l) ∨ (¬ Vld ⟨nm, l, dp, dn, gx, gz⟩ ∧ x = 2 ∧ r = 0)) → PTw ⟨nm, l, dp, dn, gx, gz⟩ w (.returned (.tuple #[.int .i64 r, .int .i64 x])) W) := fun W r x k hx => ⟨⟨r, x, rfl, hx⟩, k⟩
  unfold stv at *
  dsimp only at *
  clear h hn
  generalize l.length = n at *
  go_enter Try.func55, Try.ntmps55
  go_wp2_with fail
  refine (HC.out _ (bl1 w _)).mono ?_
  rintro e w1 ⟨⟨x, rfl, hx⟩, hb1⟩
  have k1 := Below.thru (bl1 w _) (by simp) hb1
  clear hb1
  rcases hx with ⟨rfl, hv⟩ | ⟨rfl, hv⟩
  · have HV := Lib.hid hv
    clear hv
    go_wp2_with fail
    refine (HW.out w1 k1 HV.out).mono ?_
    rintro e w2 ⟨rfl, hb2⟩
    have k2 := Below.thru k1 k1.size hb2
    clear hb2 k1
    go_wp2
    exact bodyPost_ret (v := .tuple #[.int .i64 (tw l), .int .i64 0]) (by simp [results, Try.results55, go_sem]) rfl (HP.out _ _ _ k2 (.inl ⟨HV.out, rfl, rfl⟩))
  · have HV := Lib.hid hv
    clear hv
    go_wp2
    exact bodyPost_ret (v := .tuple #[.int .i64 0, .int .i64 2]) (by simp [results, Try.results55, go_sem]) rfl (HP.out _ _ _ k1 (.inr ⟨HV.out, rfl, rfl⟩))
set_option maxHeartbeats 2000000 in
theorem twiceF_any (s : SV) (v : Value) (w : World) (hn : s.nm.size ≤ maxLen) (h : Pts w v s.l) : Calls Try.prog 18 #[stv s v] w (PTw s w) := by
  obtain ⟨p, c, hv⟩ : ∃ p c, v = .slice p s.l.length c := ⟨_, _, h.2.choose_spec.choose_spec.1⟩
  subst hv
  have HC := Lib.hid (fun W (k : Below w.heap.size w W) => askT_any s (.slice p s.l.length c) W hn (h.keep k))
  have HP : Hid (∀ W W' r x, Below w.heap.size w W → PTw s W (.returned (.tuple #[.int .i64 r, .int .i64 x])) W' → PTw s w (.returned (.tuple #[.int .i64 r, .int .i64 x])) W') := fun W W' r x k ⟨hx, k2⟩ => ⟨hx, Below.thru k k.size k2⟩
  obtain ⟨nm, l, dp, dn, gx, gz⟩ := s
  unfold stv at *
  dsimp only at *
  clear h hn
  generalize l.length = n at *
  go_enter Try.func18, Try.ntmps18
  go_wp2_with fail
  refine (HC.out _ (bl1 w _)).mono ?_
  rintro e w1 ⟨⟨r, x, rfl, hx⟩, hb1⟩
  have H1 := Lib.hid (HP.out _ _ r x (bl1 w _) ⟨⟨r, x, rfl, hx⟩, hb1⟩)
  clear hb1 hx
  go_wp2
  exact bodyPost_ret (v := .tuple #[.int .i64 r, .int .i64 x]) (by simp [results, Try.results18, go_sem]) rfl H1.out
/-- three numbers and an error -/
def PM3 (s : SV) (a b c : Int) (w : World) (e : Ending) (w' : World) : Prop := (∃ x y z f : Int, e = .returned (.tuple #[.agg #[.int .i64 x, .int .i64 y, .int .i64 z], .int .i64 f]) ∧ ((Vld s ∧ f = 0 ∧ x = a ∧ y = b ∧ z = c) ∨ (¬ Vld s ∧ f = 2 ∧ x = 0 ∧ y = 0 ∧ z = 0))) ∧ Below w.heap.size w w'
/-- the moments' sums -/
def mx3 (l : List Pt) : Int := sm (mox l) (List.finRange l.length)
def mz3 (l : List Pt) : Int := sm (moz l) (List.finRange l.length)
theorem momentsv_any (s : SV) (v : Value) (w : World) (h : Pts w v s.l) (hv : Vld s) : Calls Try.prog 59 #[v] w fun e w' => e = .returned (.agg #[.int .i64 (tw s.l), .int .i64 (mx3 s.l), .int .i64 (mz3 s.l)]) ∧ Below w.heap.size w w' := by
  have h3 := hv.2.1.1
  obtain ⟨b, o, c, rfl, hr⟩ := h.some (by omega)
  exact moments_any b o c s.l w hr (by omega) (by omega) hv.2.1.2.1
theorem B3.keep {T : TypeId} {B : Nat} {x y z : Int} {A C : World} (h : B3 T B x y z A) (hb : Below A.heap.size A C) : B3 T B x y z C := (hb.block B (Array.getElem?_eq_some_iff.1 h).1).trans h
set_option maxHeartbeats 4000000 in
theorem askM_any (s : SV) (v : Value) (w : World) (hn : s.nm.size ≤ maxLen) (h : Pts w v s.l) : Calls Try.prog 58 #[stv s v, .func (.func 59) #[v] #[]] w (PM3 s (tw s.l) (mx3 s.l) (mz3 s.l) w) := by
  obtain ⟨p, c, hv⟩ : ∃ p c, v = .slice p s.l.length c := ⟨_, _, h.2.choose_spec.choose_spec.1⟩
  subst hv
  have HC := Lib.hid (fun W (k : Below w.heap.size w W) => check_any s (.slice p s.l.length c) W hn (h.keep k))
  have HW := Lib.hid (fun W (k : Below w.heap.size w W) (hv : Vld s) => momentsv_any s (.slice p s.l.length c) W (h.keep k) hv)
  obtain ⟨nm, l, dp, dn, gx, gz⟩ := s
  have HP : Hid (∀ W x y z f, Below w.heap.size w W → ((Vld ⟨nm, l, dp, dn, gx, gz⟩ ∧ f = 0 ∧ x = tw l ∧ y = mx3 l ∧ z = mz3 l) ∨ (¬ Vld ⟨nm, l, dp, dn, gx, gz⟩ ∧ f = 2 ∧ x = 0 ∧ y = 0 ∧ z = 0)) → PM3 ⟨nm, l, dp, dn, gx, gz⟩ (tw l) (mx3 l) (mz3 l) w (.returned (.tuple #[.agg #[.int .i64 x, .int .i64 y, .int .i64 z], .int .i64 f])) W) := fun W x y z f k hx => ⟨⟨x, y, z, f, rfl, hx⟩, k⟩
  unfold stv at *
  dsimp only at *
  clear h hn
  generalize l.length = n at *
  have k0 := bl2 w (.cells #[.string nm, .slice p n c, .int .i64 dp, .int .i64 dn, .int .i64 gx, .int .i64 gz] 34) (.cells #[.int .i64 0, .int .i64 0, .int .i64 0] 90)
  have m0 : B3 90 (w.heap.size + 1) 0 0 0 ((w.alloc (.cells #[.string nm, .slice p n c, .int .i64 dp, .int .i64 dn, .int .i64 gx, .int .i64 gz] 34)).alloc (.cells #[.int .i64 0, .int .i64 0, .int .i64 0] 90)) := by
    have e : (w.alloc (.cells #[.string nm, .slice p n c, .int .i64 dp, .int .i64 dn, .int .i64 gx, .int .i64 gz] 34)).heap.size = w.heap.size + 1 := by simp
    rw [← e]
    exact World.alloc_heap_new _ _
  have K0 := Lib.hid k0
  have M0 := Lib.hid m0
  clear k0 m0
  go_enter Try.func58, Try.ntmps58
  go_wp2_with fail
  refine (HC.out _ K0.out).mono ?_
  rintro e w1 ⟨⟨x, rfl, hx⟩, hb1⟩
  have K1 := Lib.hid (Below.thru K0.out K0.out.size hb1)
  have M1 := Lib.hid (M0.out.keep hb1)
  clear hb1
  obtain ⟨T4, hT⟩ : ∃ T4, T4 = w.heap.size + 1 := ⟨_, rfl⟩
  have hTw : w.heap.size ≤ T4 := by omega
  rw [← hT] at M1
  simp only [← hT]
  clear hT M0
  rcases hx with ⟨rfl, hv⟩ | ⟨rfl, hv⟩
  · have HV := Lib.hid hv
    clear hv
    go_wp2_with fail
    refine (HW.out w1 K1.out HV.out).mono ?_
    rintro e w2 ⟨rfl, hb2⟩
    have K2 := Lib.hid (Below.thru K1.out K1.out.size hb2)
    obtain ⟨⟨c0, c1, c2⟩, c3, c4, c5⟩ := (M1.out.keep hb2).cells
    clear hb2
    generalize tw l = a at *
    generalize mx3 l = b at *
    generalize mz3 l = d at *
    go_wp2
    exact bodyPost_ret (v := .tuple #[.agg #[.int .i64 a, .int .i64 b, .int .i64 d], .int .i64 0]) (by simp [results, Try.results58, go_sem, c0, c1, c2]) rfl (HP.out _ _ _ _ _ (((K2.out.setCell hTw _).setCell hTw _).setCell hTw _) (.inl ⟨HV.out, rfl, rfl, rfl, rfl⟩))
  · have HV := Lib.hid hv
    clear hv
    have k7 := bl1 w1 (.cells #[.int .i64 0, .int .i64 0, .int .i64 0] 90)
    obtain ⟨⟨c0, c1, c2⟩, c3, c4, c5⟩ := (M1.out.keep k7).cells
    have K7 := Lib.hid (Below.thru K1.out K1.out.size k7)
    have m7 : B3 90 w1.heap.size 0 0 0 (w1.alloc (.cells #[.int .i64 0, .int .i64 0, .int .i64 0] 90)) := World.alloc_heap_new _ _
    obtain ⟨⟨d0, d1, d2⟩, d3, d4, d5⟩ := m7.cells
    clear k7 m7
    go_wp2
    exact bodyPost_ret (v := .tuple #[.agg #[.int .i64 0, .int .i64 0, .int .i64 0], .int .i64 2]) (by simp [results, Try.results58, go_sem, c0, c1, c2]) rfl (HP.out _ _ _ _ _ (((K7.out.setCell hTw _).setCell hTw _).setCell hTw _) (.inr ⟨HV.out, rfl, rfl, rfl, rfl⟩))
end Go.Proofs.Ytljmhejljpfaiaa

import Derived.Test.YtljmhejljpfaiaaFc
namespace Go.Proofs.Ytljmhejljpfaiaa
set_option maxRecDepth 100000
open Go.RowKit Go.Shelf

/-! Extent, Bed -/
/-- two numbers and an error -/
def PM2 (s : SV) (a b : Int) (w : World) (e : Ending) (w' : World) : Prop := (∃ x y f : Int, e = .returned (.tuple #[.agg #[.int .i64 x, .int .i64 y], .int .i64 f]) ∧ ((Vld s ∧ f = 0 ∧ x = a ∧ y = b) ∨ (¬ Vld s ∧ f = 2 ∧ x = 0 ∧ y = 0))) ∧ Below w.heap.size w w'
def PE2 (s : SV) (a b : Int) (w : World) (e : Ending) (w' : World) : Prop := (∃ x y f : Int, e = .returned (.tuple #[.int .i64 x, .int .i64 y, .int .i64 f]) ∧ ((Vld s ∧ f = 0 ∧ x = a ∧ y = b) ∨ (¬ Vld s ∧ f = 2 ∧ x = 0 ∧ y = 0))) ∧ Below w.heap.size w w'
def hx (l : List Pt) : Int := mxx l l.length
def hz (l : List Pt) : Int := mxz l l.length
theorem farthestv_any (s : SV) (v : Value) (w : World) (h : Pts w v s.l) (hv : Vld s) : Calls Try.prog 61 #[v] w fun e w' => e = .returned (.agg #[.int .i64 (hx s.l), .int .i64 (hz s.l)]) ∧ Below w.heap.size w w' := by
  have h3 := hv.2.1.1
  obtain ⟨b, o, c, rfl, hr⟩ := h.some (by omega)
  exact farthest_any b o c s.l w hr (by omega) (by omega)
/-- the bed's two ends -/
def bdl (l : List Pt) : Int := px l 0
def bdr (l : List Pt) : Int := if pz l 1 = 0 then px l 1 else px l 0
set_option maxHeartbeats 4000000 in
theorem bottom_any (b o c : Nat) (l : List Pt) (w : World) (hr : Row w b o l) (h3 : 2 ≤ l.length) (h12 : l.length ≤ 1000000) :
    Calls Try.prog 63 #[.slice (some ⟨b, o, none⟩) l.length c] w fun e w' => e = .returned (.agg #[.int .i64 (bdl l), .int .i64 (bdr l)]) ∧ Below w.heap.size w w' := by
  have k1 := bl1 w (.cells #[.int .i64 0, .int .i64 0] 98)
  obtain ⟨⟨d0, d1⟩, d3, d4⟩ := (B2.new w 0 0 98).cells
  obtain ⟨a0, a1⟩ := (hr.keep k1) 0 (by omega)
  obtain ⟨e0, e1⟩ := (hr.keep k1) 1 (by omega)
  have hrl := hr.lt (by omega)
  have K1 := Lib.hid k1
  simp only [Nat.zero_mul, Nat.add_zero, Nat.one_mul] at a0 a1 e0 e1
  have HB : Hid ((pz l 1 = 0 → bdr l = px l 1) ∧ (¬ pz l 1 = 0 → bdr l = px l 0)) := by constructor <;> intro h <;> unfold bdr <;> simp [h]
  unfold bdl
  clear k1 hr
  generalize bdr l = br at *
  generalize px l 0 = x0 at *
  generalize pz l 0 = z0 at *
  generalize px l 1 = x1 at *
  generalize pz l 1 = z1 at *
  generalize l.length = n at *
  go_enter Try.func63, Try.ntmps63
  by_cases hz : z1 = 0
  · have hbr := HB.out.1 hz
    go_wp2_with fail
    go_region
    go_wp2
    exact bodyPost_ret (v := .agg #[.int .i64 x0, .int .i64 x1]) (by simp [results, Try.results63, go_sem]) rfl ⟨by rw [hbr], (bl1 w _).drew⟩
  · have hbr := HB.out.2 hz
    go_wp2_with fail
    go_region
    go_wp2
    exact bodyPost_ret (v := .agg #[.int .i64 x0, .int .i64 x0]) (by simp [results, Try.results63, go_sem]) rfl ⟨by rw [hbr], (bl1 w _).drew⟩
theorem bottomv_any (s : SV) (v : Value) (w : World) (h : Pts w v s.l) (hv : Vld s) : Calls Try.prog 63 #[v] w fun e w' => e = .returned (.agg #[.int .i64 (bdl s.l), .int .i64 (bdr s.l)]) ∧ Below w.heap.size w w' := by
  have h3 := hv.2.1.1
  obtain ⟨b, o, c, rfl, hr⟩ := h.some (by omega)
  exact bottom_any b o c s.l w hr (by omega) (by omega)
set_option maxHeartbeats 4000000 in
theorem askE_any (s : SV) (v : Value) (w : World) (hn : s.nm.size ≤ maxLen) (h : Pts w v s.l) : Calls Try.prog 60 #[stv s v, .func (.func 61) #[v] #[]] w (PM2 s (hx s.l) (hz s.l) w) := by
  obtain ⟨p, c, hv⟩ : ∃ p c, v = .slice p s.l.length c := ⟨_, _, h.2.choose_spec.choose_spec.1⟩
  subst hv
  have HC := Lib.hid (fun W (k : Below w.heap.size w W) => check_any s (.slice p s.l.length c) W hn (h.keep k))
  have HW := Lib.hid (fun W (k : Below w.heap.size w W) (hv : Vld s) => farthestv_any s (.slice p s.l.length c) W (h.keep k) hv)
  obtain ⟨nm, l, dp, dn, gx, gz⟩ := s
  have HP : Hid (∀ W x y f, Below w.heap.size w W → ((Vld ⟨nm, l, dp, dn, gx, gz⟩ ∧ f = 0 ∧ x = hx l ∧ y = hz l) ∨ (¬ Vld ⟨nm, l, dp, dn, gx, gz⟩ ∧ f = 2 ∧ x = 0 ∧ y = 0)) → PM2 ⟨nm, l, dp, dn, gx, gz⟩ (hx l) (hz l) w (.returned (.tuple #[.agg #[.int .i64 x, .int .i64 y], .int .i64 f])) W) := fun W x y f k hx => ⟨⟨x, y, f, rfl, hx⟩, k⟩
  unfold stv at *
  dsimp only at *
  clear h hn
  generalize l.length = n at *
  have K0 := Lib.hid (bl2 w (.cells #[.string nm, .slice p n c, .int .i64 dp, .int .i64 dn, .int .i64 gx, .int .i64 gz] 34) (.cells #[.int .i64 0, .int .i64 0] 32))
  have M0 : Hid (B2 (w.heap.size + 1) 0 0 ((w.alloc (.cells #[.string nm, .slice p n c, .int .i64 dp, .int .i64 dn, .int .i64 gx, .int .i64 gz] 34)).alloc (.cells #[.int .i64 0, .int .i64 0] 32))) := by
    have e : (w.alloc (.cells #[.string nm, .slice p n c, .int .i64 dp, .int .i64 dn, .int .i64 gx, .int .i64 gz] 34)).heap.size = w.heap.size + 1 := by simp
    rw [← e]
    exact B2.new _ _ _ _
  go_enter Try.func60, Try.ntmps60
  go_wp2_with fail
  refine (HC.out _ K0.out).mono ?_
  rintro e w1 ⟨⟨x, rfl, hx⟩, hb1⟩
  have K1 := Lib.hid (Below.thru K0.out K0.out.size hb1)
  have M1 := Lib.hid (M0.out.keep hb1)
  clear hb1
  obtain ⟨T4, hT⟩ : ∃ T4, T4 = w.heap.size + 1 := ⟨_, rfl⟩
  have hTw : w.heap.size ≤ T4 := by omega
  rw [← hT] at M1
  simp only [← hT]
  clear hT M0
  rcases hx with ⟨rfl, hv⟩ | ⟨rfl, hv⟩
  · have HV := Lib.hid hv
    clear hv
    go_wp2_with fail
    refine (HW.out w1 K1.out HV.out).mono ?_
    rintro e w2 ⟨rfl, hb2⟩
    have K2 := Lib.hid (Below.thru K1.out K1.out.size hb2)
    obtain ⟨⟨c0, c1⟩, c3, c4⟩ := (M1.out.keep hb2).cells
    clear hb2
    generalize hx l = a at *
    generalize hz l = b at *
    go_wp2
    exact bodyPost_ret (v := .tuple #[.agg #[.int .i64 a, .int .i64 b], .int .i64 0]) (by simp [results, Try.results60, go_sem, c0, c1]) rfl (HP.out _ _ _ _ ((K2.out.setCell hTw _).setCell hTw _) (.inl ⟨HV.out, rfl, rfl, rfl⟩))
  · have HV := Lib.hid hv
    clear hv
    have k7 := bl1 w1 (.cells #[.int .i64 0, .int .i64 0] 32)
    obtain ⟨⟨c0, c1⟩, c3, c4⟩ := (M1.out.keep k7).cells
    have K7 := Lib.hid (Below.thru K1.out K1.out.size k7)
    obtain ⟨⟨d0, d1⟩, d3, d4⟩ := (B2.new w1 0 0 32).cells
    clear k7
    go_wp2
    exact bodyPost_ret (v := .tuple #[.agg #[.int .i64 0, .int .i64 0], .int .i64 2]) (by simp [results, Try.results60, go_sem, c0, c1]) rfl (HP.out _ _ _ _ ((K7.out.setCell hTw _).setCell hTw _) (.inr ⟨HV.out, rfl, rfl, rfl⟩))
set_option maxHeartbeats 4000000 in
theorem extentF_any (s : SV) (v : Value) (w : World) (hn : s.nm.size ≤ maxLen) (h : Pts w v s.l) : Calls Try.prog 21 #[stv s v] w (PE2 s (hx s.l) (hz s.l) w) := by
  obtain ⟨p, c, hv⟩ : ∃ p c, v = .slice p s.l.length c := ⟨_, _, h.2.choose_spec.choose_spec.1⟩
  subst hv
  have HC := Lib.hid (fun W (k : Below w.heap.size w W) => askE_any s (.slice p s.l.length c) W hn (h.keep k))
  have HT : Hid (∀ x y f : Int, ((Vld s ∧ f = 0 ∧ x = hx s.l ∧ y = hz s.l) ∨ (¬ Vld s ∧ f = 2 ∧ x = 0 ∧ y = 0)) → ∀ W, Below w.heap.size w W → PE2 s (hx s.l) (hz s.l) w (.returned (.tuple #[.int .i64 x, .int .i64 y, .int .i64 f])) W) := fun x y f hx W k => ⟨⟨x, y, f, rfl, hx⟩, k⟩
  obtain ⟨nm, l, dp, dn, gx, gz⟩ := s
  unfold stv at *
  dsimp only at *
  clear h hn
  generalize l.length = n at *
  go_enter Try.func21, Try.ntmps21
  go_wp2_with fail
  refine (HC.out _ (bl1 w _)).mono ?_
  rintro e w1 ⟨⟨x, y, f, rfl, hx⟩, hb1⟩
  have HX := Lib.hid (HT.out _ _ _ hx)
  have K1 := Lib.hid (Below.thru (bl1 w _) (by simp) hb1)
  clear hb1 hx
  go_wp2_with fail
  obtain ⟨⟨c0, c1⟩, -⟩ := (B2.new w1 x y 32).cells
  have K7 := Lib.hid (Below.thru K1.out K1.out.size (bl1 w1 (.cells #[.int .i64 x, .int .i64 y] 32)))
  generalize w1.alloc (.cells #[.int .i64 x, .int .i64 y] 32) = w7 at *
  generalize w1.heap.size = T6 at *
  have f0 := cell_regrown c0
  have f1 := cell_regrown c1
  refine wp_region_quiet_below (by kernel_rfl) (by kernel_rfl) ?_
  repeat (any_goals (first | go_big_quiet_step (fail) | quiet_step (fail)))
  refine wpQuiet_nil ?_
  intro _ hw'
  obtain ⟨⟨dq, osq⟩, hw''⟩ := hw'
  subst hw''
  have k9 := Below.thru K7.out K7.out.size (below_regrown w7 dq osq)
  clear f0 f1 c0 c1
  generalize Sort.grow (redrawn w7 dq) osq = w9 at *
  go_wp2
  exact bodyPost_ret (v := .tuple #[.int .i64 x, .int .i64 y, .int .i64 f]) (by simp [results, Try.results21, go_sem]) rfl (HX.out _ k9)
set_option maxHeartbeats 4000000 in
theorem askB_any (s : SV) (v : Value) (w : World) (hn : s.nm.size ≤ maxLen) (h : Pts w v s.l) : Calls Try.prog 62 #[stv s v, .func (.func 63) #[v] #[]] w (PM2 s (bdl s.l) (bdr s.l) w) := by
  obtain ⟨p, c, hv⟩ : ∃ p c, v = .slice p s.l.length c := ⟨_, _, h.2.choose_spec.choose_spec.1⟩
  subst hv
  have HC := Lib.hid (fun W (k : Below w.heap.size w W) => check_any s (.slice p s.l.length c) W hn (h.keep k))
  have HW := Lib.hid (fun W (k : Below w.heap.size w W) (hv : Vld s) => bottomv_any s (.slice p s.l.length c) W (h.keep k) hv)
  obtain ⟨nm, l, dp, dn, gx, gz⟩ := s
  have HP : Hid (∀ W x y f, Below w.heap.size w W → ((Vld ⟨nm, l, dp, dn, gx, gz⟩ ∧ f = 0 ∧ x = bdl l ∧ y = bdr l) ∨ (¬ Vld ⟨nm, l, dp, dn, gx, gz⟩ ∧ f = 2 ∧ x = 0 ∧ y = 0)) → PM2 ⟨nm, l, dp, dn, gx, gz⟩ (bdl l) (bdr l) w (.returned (.tuple #[.agg #[.int .i64 x, .int .i64 y], .int .i64 f])) W) := fun W x y f k hx => ⟨⟨x, y, f, rfl, hx⟩, k⟩
  unfold stv at *
  dsimp only at *
  clear h hn
  generalize l.length = n at *
  have K0 := Lib.hid (bl2 w (.cells #[.string nm, .slice p n c, .int .i64 dp, .int .i64 dn, .int .i64 gx, .int .i64 gz] 34) (.cells #[.int .i64 0, .int .i64 0] 98))
  have M0 : Hid (B2 (w.heap.size + 1) 0 0 ((w.alloc (.cells #[.string nm, .slice p n c, .int .i64 dp, .int .i64 dn, .int .i64 gx, .int .i64 gz] 34)).alloc (.cells #[.int .i64 0, .int .i64 0] 98))) := by
    have e : (w.alloc (.cells #[.string nm, .slice p n c, .int .i64 dp, .int .i64 dn, .int .i64 gx, .int .i64 gz] 34)).heap.size = w.heap.size + 1 := by simp
    rw [← e]
    exact B2.new _ _ _ _
  go_enter Try.func62, Try.ntmps62
  go_wp2_with fail
  refine (HC.out _ K0.out).mono ?_
  rintro e w1 ⟨⟨x, rfl, hx⟩, hb1⟩
  have K1 := Lib.hid (Below.thru K0.out K0.out.size hb1)
  have M1 := Lib.hid (M0.out.keep hb1)
  clear hb1
  obtain ⟨T4, hT⟩ : ∃ T4, T4 = w.heap.size + 1 := ⟨_, rfl⟩
  have hTw : w.heap.size ≤ T4 := by omega
  rw [← hT] at M1
  simp only [← hT]
  clear hT M0
  rcases hx with ⟨rfl, hv⟩ | ⟨rfl, hv⟩
  · have HV := Lib.hid hv
    clear hv
    go_wp2_with fail
    refine (HW.out w1 K1.out HV.out).mono ?_
    rintro e w2 ⟨rfl, hb2⟩
    have K2 := Lib.hid (Below.thru K1.out K1.out.size hb2)
    obtain ⟨⟨c0, c1⟩, c3, c4⟩ := (M1.out.keep hb2).cells
    clear hb2
    generalize bdl l = a at *
    generalize bdr l = b at *
    go_wp2
    exact bodyPost_ret (v := .tuple #[.agg #[.int .i64 a, .int .i64 b], .int .i64 0]) (by simp [results, Try.results62, go_sem, c0, c1]) rfl (HP.out _ _ _ _ ((K2.out.setCell hTw _).setCell hTw _) (.inl ⟨HV.out, rfl, rfl, rfl⟩))
  · have HV := Lib.hid hv
    clear hv
    have k7 := bl1 w1 (.cells #[.int .i64 0, .int .i64 0] 98)
    obtain ⟨⟨c0, c1⟩, c3, c4⟩ := (M1.out.keep k7).cells
    have K7 := Lib.hid (Below.thru K1.out K1.out.size k7)
    obtain ⟨⟨d0, d1⟩, d3, d4⟩ := (B2.new w1 0 0 98).cells
    clear k7
    go_wp2
    exact bodyPost_ret (v := .tuple #[.agg #[.int .i64 0, .int .i64 0], .int .i64 2]) (by simp [results, Try.results62, go_sem, c0, c1]) rfl (HP.out _ _ _ _ ((K7.out.setCell hTw _).setCell hTw _) (.inr ⟨HV.out, rfl, rfl, rfl⟩))
set_option maxHeartbeats 4000000 in
theorem bedF_any (s : SV) (v : Value) (w : World) (hn : s.nm.size ≤ maxLen) (h : Pts w v s.l) : Calls Try.prog 22 #[stv s v] w (PE2 s (bdl s.l) (bdr s.l) w) := by
  obtain ⟨p, c, hv⟩ : ∃ p c, v = .slice p s.l.length c := ⟨_, _, h.2.choose_spec.choose_spec.1⟩
  subst hv
  have HC := Lib.hid (fun W (k : Below w.heap.size w W) => askB_any s (.slice p s.l.length c) W hn (h.keep k))
  have HT : Hid (∀ x y f : Int, ((Vld s ∧ f = 0 ∧ x = bdl s.l ∧ y = bdr s.l) ∨ (¬ Vld s ∧ f = 2 ∧ x = 0 ∧ y = 0)) → ∀ W, Below w.heap.size w W → PE2 s (bdl s.l) (bdr s.l) w (.returned (.tuple #[.int .i64 x, .int .i64 y, .int .i64 f])) W) := fun x y f hx W k => ⟨⟨x, y, f, rfl, hx⟩, k⟩
  obtain ⟨nm, l, dp, dn, gx, gz⟩ := s
  unfold stv at *
  dsimp only at *
  clear h hn
  generalize l.length = n at *
  go_enter Try.func22, Try.ntmps22
  go_wp2_with fail
  refine (HC.out _ (bl1 w _)).mono ?_
  rintro e w1 ⟨⟨x, y, f, rfl, hx⟩, hb1⟩
  have HX := Lib.hid (HT.out _ _ _ hx)
  have K1 := Lib.hid (Below.thru (bl1 w _) (by simp) hb1)
  clear hb1 hx
  go_wp2_with fail
  obtain ⟨⟨c0, c1⟩, -⟩ := (B2.new w1 x y 98).cells
  have K7 := Lib.hid (Below.thru K1.out K1.out.size (bl1 w1 (.cells #[.int .i64 x, .int .i64 y] 98)))
  generalize w1.alloc (.cells #[.int .i64 x, .int .i64 y] 98) = w7 at *
  generalize w1.heap.size = T6 at *
  have f0 := cell_regrown c0
  have f1 := cell_regrown c1
  refine wp_region_quiet_below (by kernel_rfl) (by kernel_rfl) ?_
  repeat (any_goals (first | go_big_quiet_step (fail) | quiet_step (fail)))
  refine wpQuiet_nil ?_
  intro _ hw'
  obtain ⟨⟨dq, osq⟩, hw''⟩ := hw'
  subst hw''
  have k9 := Below.thru K7.out K7.out.size (below_regrown w7 dq osq)
  clear f0 f1 c0 c1
  generalize Sort.grow (redrawn w7 dq) osq = w9 at *
  go_wp2
  exact bodyPost_ret (v := .tuple #[.int .i64 x, .int .i64 y, .int .i64 f]) (by simp [results, Try.results22, go_sem]) rfl (HX.out _ k9)
end Go.Proofs.Ytljmhejljpfaiaa

import Derived.Test.YtljmhejljpfaiaaGreatBc
import Derived.Deep.QuietTactic
import Derived.BigQuiet
namespace Go.Proofs.YtljmhejljpfaiaaGreat
set_option maxRecDepth 100000
set_option maxRecDepth 100000
open Go.RowKit Go.Shelf

/-! Twice, Centre -/
/-- Twice -/
def PTw (s : SV) (w : World) (e : Ending) (w' : World) : Prop := (∃ r x : Int, e = .returned (.tuple #[.int .i64 r, .int .i64 x]) ∧ ((Vld s ∧ x = 0 ∧ r = tw s.l) ∨ (¬ Vld s ∧ x = 2 ∧ r = 0))) ∧ Below w.heap.size w w'
theorem twicev_any (s : SV) (v : Value) (w : World) (h : Pts w v s.l) (hv : Vld s) : Calls Tryz.prog 54 #[v] w fun e w' => e = .returned (.int .i64 (tw s.l)) ∧ Below w.heap.size w w' := by
  have h3 := hv.2.1.1
  obtain ⟨b, o, c, rfl, hr⟩ := h.some (by omega)
  exact twice_any b o c s.l w hr (by omega) (by omega) hv.2.1.2.1
set_option maxHeartbeats 2000000 in
theorem askT_any (s : SV) (v : Value) (w : World) (hn : s.nm.size ≤ maxLen) (h : Pts w v s.l) : Calls Tryz.prog 29 #[stv s v, .func (.func 54) #[v] #[]] w (PTw s w) := by
  obtain ⟨p, c, hv⟩ : ∃ p c, v = .slice p s.l.length c := ⟨_, _, h.2.choose_spec.choose_spec.1⟩
  subst hv
  have HC := Lib.hid (fun W (k : Below w.heap.size w W) => check_any s (.slice p s.l.length c) W hn (h.keep k))
  have HW := Lib.hid (fun W (k : Below w.heap.size w W) (hv : Vld s) => twicev_any s (.slice p s.l.length c) W (h.keep k) hv)
  obtain ⟨nm, l, dp, dn, gx, gz⟩ := s
  have HP : Hid (∀ W r x, Below w.heap.size w W → ((Vld ⟨nm, l, dp, dn, gx, gz⟩ ∧ x = 0 ∧ r = tw l) ∨ (¬ Vld ⟨nm, l, dp, dn, gx, gz⟩ ∧ x = 2 ∧ r = 0)) → PTw ⟨nm, l, dp, dn, gx, gz⟩ w (.returned (.tuple #[.int .i64 r, .int .i64 x])) W) := fun W r x k hx => ⟨⟨r, x, rfl, hx⟩, k⟩
  unfold stv at *
  dsimp only at *
  clear h hn
  generalize l.length = n at *
  go_enter Tryz.func29, Tryz.ntmps29
  go_wp2_with fail
  refine (HC.out _ (bl1 w _)).mono ?_
  rintro e w1 ⟨⟨x, rfl, hx⟩, hb1⟩
  have k1 := Below.thru (bl1 w _) (by simp) hb1
  clear hb1
  rcases hx with ⟨rfl, hv⟩ | ⟨rfl, hv⟩
  · have HV := Lib.hid hv
    clear hv
    go_wp2_with fail
    refine (HW.out w1 k1 HV.out).mono ?_
    rintro e w2 ⟨rfl, hb2⟩
    have k2 := Below.thru k1 k1.size hb2
    clear hb2 k1
    go_wp2
    exact bodyPost_ret (v := .tuple #[.int .i64 (tw l), .int .i64 0]) (by simp [results, Tryz.results29, go_sem]) rfl (HP.out _ _ _ k2 (.inl ⟨HV.out, rfl, rfl⟩))
  · have HV := Lib.hid hv
    clear hv
    go_wp2
    exact bodyPost_ret (v := .tuple #[.int .i64 0, .int .i64 2]) (by simp [results, Tryz.results29, go_sem]) rfl (HP.out _ _ _ k1 (.inr ⟨HV.out, rfl, rfl⟩))
/-- three numbers and an error -/
def PM3 (s : SV) (a b c : Int) (w : World) (e : Ending) (w' : World) : Prop := (∃ x y z f : Int, e = .returned (.tuple #[.agg #[.int .i64 x, .int .i64 y, .int .i64 z], .int .i64 f]) ∧ ((Vld s ∧ f = 0 ∧ x = a ∧ y = b ∧ z = c) ∨ (¬ Vld s ∧ f = 2 ∧ x = 0 ∧ y = 0 ∧ z = 0))) ∧ Below w.heap.size w w'
/-- the moments' sums -/
def mx3 (l : List Pt) : Int := sm (mox l) (List.finRange l.length)
def mz3 (l : List Pt) : Int := sm (moz l) (List.finRange l.length)
theorem momentsv_any (s : SV) (v : Value) (w : World) (h : Pts w v s.l) (hv : Vld s) : Calls Tryz.prog 83 #[v] w fun e w' => e = .returned (.agg #[.int .i64 (tw s.l), .int .i64 (mx3 s.l), .int .i64 (mz3 s.l)]) ∧ Below w.heap.size w w' := by
  have h3 := hv.2.1.1
  obtain ⟨b, o, c, rfl, hr⟩ := h.some (by omega)
  exact moments_any b o c s.l w hr (by omega) (by omega) hv.2.1.2.1
theorem B3.keep {T : TypeId} {B : Nat} {x y z : Int} {A C : World} (h : B3 T B x y z A) (hb : Below A.heap.size A C) : B3 T B x y z C := (hb.block B (Array.getElem?_eq_some_iff.1 h).1).trans h
end Go.Proofs.YtljmhejljpfaiaaGreat
namespace Go.Proofs.YtljmhejljpfaiaaGreat
set_option maxRecDepth 100000
set_option maxRecDepth 100000
open Go.RowKit Go.Shelf

/-! Centre, Extent, Bed -/
/-- Centre -/
def PCe (s : SV) (w : World) (e : Ending) (w' : World) : Prop := (∃ x y z f : Int, e = .returned (.tuple #[.int .i64 x, .int .i64 y, .int .i64 z, .int .i64 f]) ∧ ((Vld s ∧ f = 0 ∧ x = mx3 s.l ∧ y = mz3 s.l ∧ z = 3 * tw s.l) ∨ (¬ Vld s ∧ f = 2 ∧ x = 0 ∧ y = 0 ∧ z = 0))) ∧ Below w.heap.size w w'
end Go.Proofs.YtljmhejljpfaiaaGreat
namespace Go.Proofs.YtljmhejljpfaiaaGreat
set_option maxRecDepth 100000
set_option maxRecDepth 100000
open Go.RowKit Go.Shelf

/-! Extent -/
theorem B2.cells {B : Nat} {x z : Int} {w : World} (h : B2 B x z w) : (w.cell? ⟨B, 0, none⟩ = some (.int .i64 x) ∧ w.cell? ⟨B, 1, none⟩ = some (.int .i64 z)) ∧ w.frozen? ⟨B, 0, none⟩ = false ∧ w.frozen? ⟨B, 1, none⟩ = false := ⟨⟨h.1, h.2.1⟩, h.2.2⟩
theorem B2.new (w : World) (x z : Int) (T : TypeId) : B2 w.heap.size x z (w.alloc (.cells #[.int .i64 x, .int .i64 z] T)) := ⟨by simp [go_sem], by simp [go_sem], by simp [go_sem], by simp [go_sem]⟩
set_option maxHeartbeats 4000000 in
theorem farthest_any (b o c : Nat) (l : List Pt) (w : World) (hr : Row w b o l) (h3 : 1 ≤ l.length) (h12 : l.length ≤ 1000000) :
    Calls Tryz.prog 23 #[.slice (some ⟨b, o, none⟩) l.length c] w fun e w' => e = .returned (.agg #[.int .i64 (mxx l l.length), .int .i64 (mxz l l.length)]) ∧ Below w.heap.size w w' := by
  have HR := Lib.hid hr
  obtain ⟨n, hn⟩ : ∃ n, n = l.length := ⟨_, rfl⟩
  rw [← hn] at h3 h12 ⊢
  have HN := Lib.hid hn
  obtain ⟨c0x, c0z⟩ := hr 0 (by omega)
  simp only [Nat.zero_mul, Nat.add_zero] at c0x c0z
  have hbw := hr.lt (by omega)
  have HSX : Hid (∀ k, mxx l (k + 1) = if mxx l k < px l k then px l k else mxx l k) := fun _ => rfl
  have HSZ : Hid (∀ k, mxz l (k + 1) = if mxz l k < pz l k then pz l k else mxz l k) := fun _ => rfl
  clear hr hn
  go_enter Tryz.func23, Tryz.ntmps23
  go_wp2
  go_loopw [11, 5] (fun i _ wr => ∃ k : Nat, k ≤ n ∧ i = .int .i64 k ∧ Hid (B2 (w.heap.size + 1) (mxx l k) (mxz l k) wr ∧ B2 w.heap.size 0 0 wr ∧ Below w.heap.size w wr)) (fun i _ _ => n - (intOf i).toNat)
  case atStart => exact ⟨0, Nat.zero_le _, rfl, ⟨by simp [go_sem]; rfl, by simp [go_sem]; rfl, by simp [go_sem], by simp [go_sem]⟩, ⟨by simp [go_sem], by simp [go_sem], by simp [go_sem], by simp [go_sem]⟩, bl2 _ _ _⟩
  case round =>
    obtain ⟨k, hk, rfl, HS⟩ := hrel
    by_cases hlt : k < n
    · have hrow := HR.out.keep HS.out.2.2
      obtain ⟨ck, cz⟩ := hrow k (by rw [← HN.out]; exact hlt)
      have hbr := hrow.lt (by rw [← HN.out]; omega)
      have hsx := HSX.out k
      have hsz := HSZ.out k
      have HS5 : Hid (B2 (w.heap.size + 1) (mxx l k) (mxz l k) (wr.alloc (.cells #[.int .i64 (px l k), .int .i64 (pz l k)] 37)) ∧ B2 w.heap.size 0 0 (wr.alloc (.cells #[.int .i64 (px l k), .int .i64 (pz l k)] 37)) ∧ Below w.heap.size w (wr.alloc (.cells #[.int .i64 (px l k), .int .i64 (pz l k)] 37))) :=
        ⟨HS.out.1.keep (bl1 _ _), HS.out.2.1.keep (bl1 _ _), Below.thru HS.out.2.2 HS.out.2.2.size (bl1 _ _)⟩
      obtain ⟨⟨b0, b1⟩, f0, f1⟩ := HS5.out.1.cells
      obtain ⟨⟨d0, d1⟩, g0, g1⟩ := (B2.new wr (px l k) (pz l k) 37).cells
      generalize mxx l k = mx at *
      generalize mxz l k = mz at *
      generalize px l k = ax at *
      generalize pz l k = az at *
      clear hrow HS
      go_wp2
      all_goals
        go_roundw
        case rel =>
          refine ⟨k + 1, by omega, by go_num, ?_, B2.far HS5.out.2.1 (by omega) _ _, below_put HS5.out.2.2 (Nat.le_succ _) _ _⟩
          rw [hsx, hsz]
          exact B2.put HS5.out.1 _ _
        case measure => simp [intOf]; omega
    · obtain rfl : k = n := by omega
      obtain ⟨⟨b0, b1⟩, f0, f1⟩ := HS.out.1.cells
      obtain ⟨⟨r0, r1⟩, q0, q1⟩ := HS.out.2.1.cells
      go_wp2
      exact bodyPost_ret (v := .agg #[.int .i64 (mxx l k), .int .i64 (mxz l k)]) (by simp [results, Tryz.results23, go_sem, r0, r1]) rfl ⟨rfl, below_put HS.out.2.2 (Nat.le_refl _) _ _⟩
end Go.Proofs.YtljmhejljpfaiaaGreat
namespace Go.Proofs.YtljmhejljpfaiaaGreat
set_option maxRecDepth 100000
set_option maxRecDepth 100000
open Go.RowKit Go.Shelf

/-! Extent, Bed -/
/-- two numbers and an error -/
def PM2 (s : SV) (a b : Int) (w : World) (e : Ending) (w' : World) : Prop := (∃ x y f : Int, e = .returned (.tuple #[.agg #[.int .i64 x, .int .i64 y], .int .i64 f]) ∧ ((Vld s ∧ f = 0 ∧ x = a ∧ y = b) ∨ (¬ Vld s ∧ f = 2 ∧ x = 0 ∧ y = 0))) ∧ Below w.heap.size w w'
def PE2 (s : SV) (a b : Int) (w : World) (e : Ending) (w' : World) : Prop := (∃ x y f : Int, e = .returned (.tuple #[.int .i64 x, .int .i64 y, .int .i64 f]) ∧ ((Vld s ∧ f = 0 ∧ x = a ∧ y = b) ∨ (¬ Vld s ∧ f = 2 ∧ x = 0 ∧ y = 0))) ∧ Below w.heap.size w w'
def hx (l : List Pt) : Int := mxx l l.length
def hz (l : List Pt) : Int := mxz l l.length
theorem farthestv_any (s : SV) (v : Value) (w : World) (h : Pts w v s.l) (hv : Vld s) : Calls Tryz.prog 23 #[v] w fun e w' => e = .returned (.agg #[.int .i64 (hx s.l), .int .i64 (hz s.l)]) ∧ Below w.heap.size w w' := by
  have h3 := hv.2.1.1
  obtain ⟨b, o, c, rfl, hr⟩ := h.some (by omega)
  exact farthest_any b o c s.l w hr (by omega) (by omega)
/-- the bed's two ends -/
def bdl (l : List Pt) : Int := px l 0
def bdr (l : List Pt) : Int := if pz l 1 = 0 then px l 1 else px l 0
end Go.Proofs.YtljmhejljpfaiaaGreat

import Derived.Test.YtljmhejljpfaiaaGreatT
import Derived.Test.YtljmhejljpfaiaaGreatK
import Derived.Lib.QuietBelow
import Derived.Deep.QuietTactic
import Derived.BigQuiet
namespace Go.Proofs.YtljmhejljpfaiaaGreat
set_option maxRecDepth 100000
set_option maxRecDepth 100000
open Go.RowKit

/-! the doubled area, and the weight -/
/-- the doubled area -/
def tw (l : List Pt) : Int := sm (crs l) (List.finRange l.length)
theorem tw_bd {l : List Pt} (h : Bx l) (hl : l.length ≤ 1000) : -8000000000 ≤ tw l ∧ tw l ≤ 8000000000 := by
  have := sm_bd (crs l) 8000000 h.crs (List.finRange l.length) 1000 (by rw [List.length_finRange]; exact hl) (by omega)
  unfold tw; omega
theorem field90 (x y z : Value) (W : World) : (Instr.field 111 (.agg #[x, y, z]) 0).run Tryz.prog W = .ok x W := by kernel_rfl
set_option maxHeartbeats 1000000 in
theorem twice_any (b o c : Nat) (l : List Pt) (w : World) (hr : Row w b o l) (h3 : 0 < l.length) (h12 : l.length ≤ 1000) (hs : Bx l) :
    Calls Tryz.prog 54 #[.slice (some ⟨b, o, none⟩) l.length c] w fun e w' => e = .returned (.int .i64 (tw l)) ∧ Below w.heap.size w w' := by
  have HM := Lib.hid (moments_any b o c l w hr h3 h12 hs)
  have HF := field90 (.int .i64 (sm (crs l) (List.finRange l.length))) (.int .i64 (sm (mox l) (List.finRange l.length))) (.int .i64 (sm (moz l) (List.finRange l.length)))
  clear hr hs
  go_enter Tryz.func54, Tryz.ntmps54
  go_wp2_with fail
  refine HM.out.mono ?_
  rintro e w1 ⟨rfl, hb⟩
  go_wp2
  go_ret
  exact ⟨rfl, hb⟩
set_option maxHeartbeats 2000000 in
theorem weight_any (nm : ByteArray) (b o c : Nat) (l : List Pt) (dp dn gx gz : Int) (w : World) (hr : Row w b o l) (h3 : 0 < l.length) (h12 : l.length ≤ 1000) (hs : Bx l) (hb : Bd dp dn gx gz) :
    Calls Tryz.prog 30 #[.agg #[.string nm, .slice (some ⟨b, o, none⟩) l.length c, .int .i64 dp, .int .i64 dn, .int .i64 gx, .int .i64 gz]] w fun e w' => e = .returned (.int .i64 (tw l * dp * dn)) ∧ Below w.heap.size w w' := by
  have hB0 := bl1 w (.cells #[.string nm, .slice (some ⟨b, o, none⟩) l.length c, .int .i64 dp, .int .i64 dn, .int .i64 gx, .int .i64 gz] 39)
  have hS := StB.new w nm (.slice (some ⟨b, o, none⟩) l.length c) dp dn gx gz 39
  have ht := tw_bd hs h12
  have hdp : 1 ≤ dp ∧ dp ≤ 2000 := hb.1
  have hdn : 1 ≤ dn ∧ dn ≤ 10000 := hb.2.1
  have ht2 := mul_bd (A := 2000) (B := 8000000000) (a := dp) (b := tw l) (by omega) ht (by omega)
  have ht3 := mul_bd (A := 10000) (B := 16000000000000) (a := dn) (b := dp * tw l) (by omega) (by omega) (by omega)
  rw [Int.mul_comm dp] at ht2 ht3
  rw [Int.mul_comm dn] at ht3
  have e1 := IntWalk.i64_in (tw l * dp) (by omega)
  have e2 := IntWalk.i64_in (tw l * dp * dn) (by omega)
  have HT : Hid (∀ (d : Nat) (os : Array Obj), Calls Tryz.prog 54 #[.slice (some ⟨b, o, none⟩) l.length c] (Sort.grow (redrawn (w.alloc (.cells #[.string nm, .slice (some ⟨b, o, none⟩) l.length c, .int .i64 dp, .int .i64 dn, .int .i64 gx, .int .i64 gz] 39)) d) os) fun e w'' => e = .returned (.int .i64 (tw l)) ∧ ∃ p : Regrown, w'' = Sort.grow (redrawn (w.alloc (.cells #[.string nm, .slice (some ⟨b, o, none⟩) l.length c, .int .i64 dp, .int .i64 dn, .int .i64 gx, .int .i64 gz] 39)) p.d) p.os) := fun d os =>
    Calls.regrown_of (twice_any b o c l _ ((hr.keep hB0).keep (below_regrown _ d os)) h3 h12 hs)
  have c1 := cell_regrown hS.c1
  have c2 := cell_regrown hS.c2
  have c3 := cell_regrown hS.c3
  generalize tw l = t at *
  clear hr hs hb ht ht2 ht3 hdp hdn hS h3 h12
  go_enter Tryz.func30, Tryz.ntmps30
  go_wp2_with fail
  refine wp_region_quiet_below (by kernel_rfl) (by kernel_rfl) ?_
  repeat (any_goals (first | go_big_quiet_step (exact HT.out _ _) | quiet_step (exact HT.out _ _)))
  refine wpQuiet_nil ?_
  intro _ hw'
  obtain ⟨⟨dq, osq⟩, hw''⟩ := hw'
  subst hw''
  have hBq := Below.thru hB0 hB0.size (below_regrown _ dq osq)
  generalize Sort.grow (redrawn _ dq) osq = w1 at *
  go_wp2
  go_ret
  exact ⟨rfl, hBq⟩
end Go.Proofs.YtljmhejljpfaiaaGreat
namespace Go.Proofs.YtljmhejljpfaiaaGreat
set_option maxRecDepth 100000
set_option maxRecDepth 100000
open Go.RowKit

/-! the steps of an edge -/
theorem size_any (n : Int) (w : World) (h : -1000000000 ≤ n ∧ n ≤ 1000000000) : Calls Tryz.prog 88 #[.int .i64 n] w fun e w' => e = .returned (.int .i64 (n.natAbs : Int)) ∧ w = w' := by
  have e1 := IntWalk.i64_in (-n) (by omega)
  go_enter Tryz.func88, Tryz.ntmps88
  go_wp2
  all_goals
    go_ret
    refine ⟨?_, rfl⟩
    show Ending.returned (Value.int IntKind.i64 _) = _
    congr 2
    omega
set_option maxHeartbeats 1000000 in
theorem divisor_any (a b : Nat) (w : World) (ha : a ≤ 1000000000) (hb : b ≤ 1000000000) : Calls Tryz.prog 89 #[.int .i64 (a : Int), .int .i64 (b : Int)] w fun e w' => e = .returned (.int .i64 (Nat.gcd a b : Nat)) ∧ Below w.heap.size w w' := by
  obtain ⟨g, hg⟩ : ∃ g, g = Nat.gcd a b := ⟨_, rfl⟩
  rw [← hg]
  have HG := Lib.hid hg
  have HA := Lib.hid ha; have HB := Lib.hid hb
  clear hg ha hb
  go_enter Tryz.func89, Tryz.ntmps89
  go_wp2
  go_loopw [0, 1] (fun x y wr => ∃ p q : Nat, (p ≤ 1000000000 ∧ q ≤ 1000000000) ∧ Nat.gcd p q = g ∧ x = .int .i64 p ∧ y = .int .i64 q ∧ Below w.heap.size w wr) (fun _ y _ => (intOf y).toNat)
  case atStart => exact ⟨a, b, ⟨HA.out, HB.out⟩, HG.out.symm, rfl, rfl, Below.refl _ _⟩
  case round =>
    obtain ⟨p, q, hpq, hG, rfl, rfl, hBw⟩ := hrel
    have HP := Lib.hid hpq; have HGG := Lib.hid hG
    clear hpq hG
    by_cases h0 : q = 0
    · subst h0
      have e0 : ((0 : Nat) : Int) = 0 := rfl
      rw [e0]
      go_wp2
      go_ret
      have := HGG.out
      rw [Nat.gcd_zero_right] at this
      subst this
      exact ⟨rfl, hBw⟩
    · have h1 : ¬ (q : Int) = 0 := by omega
      have h2 : ((q : Int) != 0) = true := by simpa using h0
      have hr : (p : Int).tmod (q : Int) = ((p % q : Nat) : Int) := by rw [Int.natCast_emod]; exact Int.tmod_eq_emod_of_nonneg (by omega)
      have hr2 : (p : Int) % (q : Int) = ((p % q : Nat) : Int) := by rw [Int.natCast_emod]
      have HL : Hid (p % q < q) := Nat.mod_lt _ (by omega)
      have HGC : Hid (Nat.gcd q (p % q) = g) := by
        show Nat.gcd q (p % q) = g
        rw [Nat.gcd_comm, ← Nat.gcd_rec, Nat.gcd_comm]; exact HGG.out
      generalize p % q = r at *
      clear h0
      go_wp2_with fail
      refine wp_region_quiet_below (by kernel_rfl) (by kernel_rfl) ?_
      repeat (any_goals (first | go_big_quiet_step (fail) | quiet_step (fail)))
      refine wpQuiet_nil ?_
      intro _ hw'
      obtain ⟨⟨dq, osq⟩, hw''⟩ := hw'
      subst hw''
      have hBq := Below.thru hBw hBw.size (below_regrown _ dq osq)
      generalize Sort.grow (redrawn _ dq) osq = w1 at *
      clear hBw
      go_wp2
      go_roundw
      case rel => exact ⟨q, r, ⟨HP.out.2, by have := HL.out; have := HP.out.2; omega⟩, HGC.out, rfl, rfl, hBq⟩
      case measure => simp only [intOf, Int.toNat_natCast]; exact HL.out
end Go.Proofs.YtljmhejljpfaiaaGreat
namespace Go.Proofs.YtljmhejljpfaiaaGreat
set_option maxRecDepth 100000
set_option maxRecDepth 100000
open Go.RowKit

/-! steps -/
/-- the number of steps of an edge -/
def sn (x1 z1 x2 z2 : Int) : Nat := Nat.gcd (x2 - x1).natAbs (z2 - z1).natAbs
theorem sn_pos {x1 z1 x2 z2 : Int} (h : ¬ (x2 = x1 ∧ z2 = z1)) : 0 < sn x1 z1 x2 z2 := by
  unfold sn
  rcases Nat.eq_zero_or_pos (x2 - x1).natAbs with e | e
  · rw [e, Nat.gcd_zero_left]; omega
  · exact Nat.gcd_pos_of_pos_left _ e
theorem tdiv_bd {a n : Int} (ha : -4000 ≤ a ∧ a ≤ 4000) (_hn : 1 ≤ n) : -4000 ≤ a.tdiv n ∧ a.tdiv n ≤ 4000 := by
  have h2 : (a.tdiv n).natAbs ≤ a.natAbs := by rw [Int.natAbs_tdiv]; exact Nat.div_le_self _ _
  omega
set_option maxHeartbeats 2000000 in
theorem steps_any (x1 z1 x2 z2 : Int) (w : World) (b1 : 0 ≤ x1 ∧ x1 ≤ 2000) (b2 : 0 ≤ z1 ∧ z1 ≤ 2000) (b3 : 0 ≤ x2 ∧ x2 ≤ 2000) (b4 : 0 ≤ z2 ∧ z2 ≤ 2000) (hne : ¬ (x2 = x1 ∧ z2 = z1)) :
    Calls Tryz.prog 74 #[.agg #[.int .i64 x1, .int .i64 z1], .agg #[.int .i64 x2, .int .i64 z2]] w fun e w' =>
      e = .returned (.tuple #[.int .i64 (sn x1 z1 x2 z2 : Nat), .agg #[.int .i64 ((x2 - x1).tdiv (sn x1 z1 x2 z2 : Nat)), .int .i64 ((z2 - z1).tdiv (sn x1 z1 x2 z2 : Nat))]]) ∧ Below w.heap.size w w' := by
  have hp := sn_pos hne
  have e1 := IntWalk.i64_in (x2 - x1) (by omega)
  have e2 := IntWalk.i64_in (z2 - z1) (by omega)
  have d1 := tdiv_bd (a := x2 - x1) (n := (sn x1 z1 x2 z2 : Nat)) (by omega) (by omega)
  have d2 := tdiv_bd (a := z2 - z1) (n := (sn x1 z1 x2 z2 : Nat)) (by omega) (by omega)
  have HX := Lib.hid (fun W => size_any (x2 - x1) W (by omega))
  have HZ := Lib.hid (fun W => size_any (z2 - z1) W (by omega))
  have HG : Hid (∀ W, Calls Tryz.prog 89 #[.int .i64 ((x2 - x1).natAbs : Int), .int .i64 ((z2 - z1).natAbs : Int)] W fun e w' => e = .returned (.int .i64 (sn x1 z1 x2 z2 : Nat)) ∧ Below W.heap.size W w') := fun W => divisor_any _ _ W (by omega) (by omega)
  generalize sn x1 z1 x2 z2 = n at *
  have h0 : ¬ (n : Int) = 0 := by omega
  have f1 := IntWalk.i64_in ((x2 - x1).tdiv (n : Int)) (by omega)
  have f2 := IntWalk.i64_in ((z2 - z1).tdiv (n : Int)) (by omega)
  clear b1 b2 b3 b4 hne d1 d2 hp
  go_enter Tryz.func74, Tryz.ntmps74
  go_wp2_with fail
  have s1 : B2 w.heap.size x1 z1 (((w.alloc (.cells #[.int .i64 x1, .int .i64 z1] 37)).alloc (.cells #[.int .i64 x2, .int .i64 z2] 37)).alloc (.cells #[.int .i64 0, .int .i64 0] 37)) := ⟨by simp [go_sem], by simp [go_sem], by simp [go_sem], by simp [go_sem]⟩
  have s2 : B2 (w.heap.size + 1) x2 z2 (((w.alloc (.cells #[.int .i64 x1, .int .i64 z1] 37)).alloc (.cells #[.int .i64 x2, .int .i64 z2] 37)).alloc (.cells #[.int .i64 0, .int .i64 0] 37)) := ⟨by simp [go_sem], by simp [go_sem], by simp [go_sem], by simp [go_sem]⟩
  have s3 : B2 (w.heap.size + 1 + 1) 0 0 (((w.alloc (.cells #[.int .i64 x1, .int .i64 z1] 37)).alloc (.cells #[.int .i64 x2, .int .i64 z2] 37)).alloc (.cells #[.int .i64 0, .int .i64 0] 37)) := ⟨by simp [go_sem], by simp [go_sem], by simp [go_sem], by simp [go_sem]⟩
  have hB0 := bl3 w (.cells #[.int .i64 x1, .int .i64 z1] 37) (.cells #[.int .i64 x2, .int .i64 z2] 37) (.cells #[.int .i64 0, .int .i64 0] 37)
  generalize ((w.alloc (.cells #[.int .i64 x1, .int .i64 z1] 37)).alloc (.cells #[.int .i64 x2, .int .i64 z2] 37)).alloc (.cells #[.int .i64 0, .int .i64 0] 37) = w0 at *
  have c1 := cell_regrown s1.1
  have c2 := cell_regrown s1.2.1
  have c3 := cell_regrown s2.1
  have c4 := cell_regrown s2.2.1
  refine wp_region_quiet_below (by kernel_rfl) (by kernel_rfl) ?_
  repeat (any_goals (first | go_big_quiet_step (first | exact quiet_same HX.out w0 _ _ | exact quiet_same HZ.out w0 _ _ | exact quiet_below HG.out w0 _ _) | quiet_step (first | exact quiet_same HX.out w0 _ _ | exact quiet_same HZ.out w0 _ _ | exact quiet_below HG.out w0 _ _)))
  refine wpQuiet_nil ?_
  intro _ hw'
  obtain ⟨⟨dq, osq⟩, hw''⟩ := hw'
  subst hw''
  clear c1 c2 c3 c4
  replace s1 := s1.keep (below_regrown w0 dq osq)
  replace s2 := s2.keep (below_regrown w0 dq osq)
  replace s3 := s3.keep (below_regrown w0 dq osq)
  have hBq := Below.thru hB0 hB0.size (below_regrown w0 dq osq)
  generalize Sort.grow (redrawn w0 dq) osq = w1 at *
  clear hB0
  obtain ⟨a1, a2, a3, a4⟩ := s1
  obtain ⟨p1, p2, p3, p4⟩ := s2
  obtain ⟨r1, r2, r3, r4⟩ := id s3
  go_wp2_with fail
  go_region
  have s4 := (B2.put s3 ((x2 - x1).tdiv (n : Int)) ((z2 - z1).tdiv (n : Int))).drew
  obtain ⟨g1, g2, _, _⟩ := s4
  go_wp2
  exact bodyPost_ret (v := .tuple #[.int .i64 (n : Int), .agg #[.int .i64 ((x2 - x1).tdiv (n : Int)), .int .i64 ((z2 - z1).tdiv (n : Int))]]) (by simp [results, Tryz.results74, go_sem, g1, g2]) rfl ⟨rfl, (below_put hBq (by omega) _ _).drew⟩
end Go.Proofs.YtljmhejljpfaiaaGreat
namespace Go.Proofs.YtljmhejljpfaiaaGreat
set_option maxRecDepth 100000
set_option maxRecDepth 100000
open Go.RowKit Go.Shelf

/-! the points of a border -/
theorem seg_bd {a d s : Int} {n k : Nat} (h : (n : Int) * s = d) (hk : k ≤ n) (ha : 0 ≤ a ∧ a ≤ 2000) (hd : 0 ≤ a + d ∧ a + d ≤ 2000) : (0 ≤ a + k * s ∧ a + k * s ≤ 2000) ∧ (-2000 ≤ k * s ∧ k * s ≤ 2000) := by
  rcases Int.le_total 0 s with hs | hs
  · have h1 : (0 : Int) ≤ k * s := Int.mul_nonneg (by omega) hs
    have h2 : (k : Int) * s ≤ n * s := Int.mul_le_mul_of_nonneg_right (by omega) hs
    omega
  · have h1 : (k : Int) * s ≤ 0 := Int.mul_nonpos_of_nonneg_of_nonpos (by omega) hs
    have h2 : (n : Int) * s ≤ k * s := Int.mul_le_mul_of_nonpos_right (by omega) hs
    omega
/-- edge i: its number of steps, one of them, its points -/
def snE (l : List Pt) (i : Nat) : Nat := sn (px l i) (pz l i) (px l (nx l.length i)) (pz l (nx l.length i))
def sxE (l : List Pt) (i : Nat) : Int := (px l (nx l.length i) - px l i).tdiv (snE l i : Nat)
def szE (l : List Pt) (i : Nat) : Int := (pz l (nx l.length i) - pz l i).tdiv (snE l i : Nat)
theorem sxE_mul (l : List Pt) (i : Nat) : (snE l i : Int) * sxE l i = px l (nx l.length i) - px l i := by
  unfold sxE
  refine Int.mul_tdiv_cancel' (Int.ofNat_dvd_left.2 ?_)
  exact Nat.gcd_dvd_left _ _
theorem szE_mul (l : List Pt) (i : Nat) : (snE l i : Int) * szE l i = pz l (nx l.length i) - pz l i := by
  unfold szE
  refine Int.mul_tdiv_cancel' (Int.ofNat_dvd_left.2 ?_)
  exact Nat.gcd_dvd_right _ _
def ept (l : List Pt) (i k : Nat) : Pt := (px l i + k * sxE l i, pz l i + k * szE l i)
def eps (l : List Pt) (i : Nat) (k : Nat) : List Pt := (List.range k).map (ept l i)
theorem eps_succ (l : List Pt) (i k : Nat) : eps l i (k + 1) = eps l i k ++ [ept l i k] := by unfold eps; rw [List.range_succ, List.map_append]; rfl
/-- the points of the border, from the first corner on -/
def bpE (l : List Pt) (pre : List (Fin l.length)) : List Pt := pre.flatMap fun i => eps l i.1 (snE l i.1)
def bp (l : List Pt) : List Pt := bpE l (List.finRange l.length)
theorem bpE_snoc (l : List Pt) (pre : List (Fin l.length)) (x : Fin l.length) : bpE l (pre ++ [x]) = bpE l pre ++ eps l x.1 (snE l x.1) := by simp [bpE]
/-- a point whose numbers are in the bounds -/
abbrev Pq := { p : Pt // (0 ≤ p.1 ∧ p.1 ≤ 2000) ∧ (0 ≤ p.2 ∧ p.2 ≤ 2000) }
def vals (c : List Pq) : List Pt := c.map (·.1)
theorem vals_snoc (c : List Pq) (x : Pq) : vals (c ++ [x]) = vals c ++ [x.1] := by simp [vals]
def enc1 (p : Pq) : Array Value := #[.agg #[.int .i64 p.1.1, .int .i64 p.1.2]]
theorem sn_le {x1 z1 x2 z2 : Int} (b1 : 0 ≤ x1 ∧ x1 ≤ 2000) (b2 : 0 ≤ z1 ∧ z1 ≤ 2000) (b3 : 0 ≤ x2 ∧ x2 ≤ 2000) (b4 : 0 ≤ z2 ∧ z2 ≤ 2000) : sn x1 z1 x2 z2 ≤ 2000 := by
  unfold sn
  rcases Nat.eq_zero_or_pos (x2 - x1).natAbs with e | e
  · rw [e, Nat.gcd_zero_left]; omega
  · have := Nat.gcd_le_left (z2 - z1).natAbs e; omega
/-- a box that is not the caller's -/
structure Nc (Bs : List Nat) (T : Nat) (W : World) : Prop where
  b : T ∉ Bs
  o : ¬ ow Bs W T
theorem Nc.ko {B : Nat} {Bs : List Nat} {T : Nat} {W W' : World} (h : Nc Bs T W) (k : KO B Bs W W') (hl : T < W.heap.size) : Nc Bs T W' := ⟨h.b, k.own _ hl h.o⟩
theorem Nc.new {Bs : List Nat} {W : World} (hs : Sane Bs W) (q : Obj) : Nc Bs W.heap.size (W.alloc q) := by
  refine ⟨fun h => Nat.lt_irrefl _ (hs _ h).1, ?_⟩
  rintro ⟨⟨b, n, c, hb, hc⟩, _⟩
  have e : (W.alloc q).cell? ⟨b, 0, none⟩ = W.cell? ⟨b, 0, none⟩ := (bl1 W q).cell (p := ⟨b, 0, none⟩) (hs b hb).1
  rw [e] at hc
  exact Nat.lt_irrefl _ ((hs b hb).2 _ _ _ hc)
theorem Nc.below {Bs : List Nat} {T : Nat} {W W' : World} (h : Nc Bs T W) (hs : Sane Bs W) (k : Below W.heap.size W W') (hl : T < W.heap.size) : Nc Bs T W' := h.ko (KO.of_below (B := 0) k hs) hl
theorem Nc.putObj {Bs : List Nat} {T l : Nat} {W : World} {o : Obj} (o' : Obj) (hl : W.heap[l]? = some o) (_ho : o.isCells = false) (ho' : o'.isCells = false) (h : Nc Bs T W) : Nc Bs T (W.putObj l o') := by
  refine ⟨h.b, ?_⟩
  rintro ⟨⟨b, n, c, hb, hc⟩, cur, U, u, hu⟩
  have hlt := (Array.getElem?_eq_some_iff.1 hl).1
  have e1 : b ≠ l := by
    rintro rfl
    obtain ⟨_, _, _, h3⟩ := cell_blk hc
    rw [World.putObj_heap_same hlt] at h3
    cases h3; cases ho'
  have e2 : T ≠ l := by
    rintro rfl
    rw [World.putObj_heap_same hlt] at hu
    cases hu; cases ho'
  exact h.o ⟨⟨b, n, c, hb, (cell_same (a := ⟨b, 0, none⟩) (World.putObj_heap_other e1)).symm.trans hc⟩, cur, U, u, (World.putObj_heap_other e2).symm.trans hu⟩
theorem P2.ko {B : Nat} {Bs : List Nat} {T : Nat} {x z : Int} {W W' : World} (h : P2 T x z W) (n : Nc Bs T W) (k : KO B Bs W W') : P2 T x z W' := k.cells T _ _ _ n.b n.o h
theorem P2.lt {T : Nat} {x z : Int} {W : World} (h : P2 T x z W) : T < W.heap.size := (Array.getElem?_eq_some_iff.1 h).1
theorem P2.below {T : Nat} {x z : Int} {W W' : World} (h : P2 T x z W) (hb : Below W.heap.size W W') : P2 T x z W' := (hb.block T h.lt).trans h
end Go.Proofs.YtljmhejljpfaiaaGreat

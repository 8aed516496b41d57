import Derived.Test.YtjjomjjgoceklaaGreatKcc
import Derived.Laws.CopyOwn
import Derived.Test.YtjjomjjgoceklaaGreatKai
namespace Go.Proofs.YtjjomjjgoceklaaGreat
set_option maxRecDepth 100000
open Go.RowKit

theorem Lh.xy {a b x0 y0 A B C D x y e : Int} (h : Lh a b x0 y0 A B C D x y e) : (1 ≤ x ∧ x ≤ Mx) ∧ (0 ≤ y ∧ y ≤ Mx) := by
  have hMx : Mx = 4611686018427387904 := rfl
  obtain ⟨_, _, he, _, sa, sb, sc, sd, u1, v1, w0, z0, uM, vM, wM, zM, _, aM, bM, cM, dM, _, _⟩ := h
  rcases he with rfl | rfl <;> omega
theorem Lh.prods {a b x0 y0 A B C D x y e q : Int} (h : Lh a b x0 y0 A B C D x y e) (h' : Lh a b x0 y0 C D (A - q * C) (B - q * D) y (x - q * y) (-e)) :
    (-Mx ≤ q * C ∧ q * C ≤ Mx) ∧ (-Mx ≤ q * D ∧ q * D ≤ Mx) ∧ (-Mx ≤ q * y ∧ q * y ≤ Mx) := by
  have hMx : Mx = 4611686018427387904 := rfl
  obtain ⟨⟨hx, hx'⟩, hy, hy'⟩ := h.xy
  obtain ⟨_, hz, hz'⟩ := h'.xy
  have he := h.he
  have sa := h.sa; have sb := h.sb; have sc := h.sc; have sd := h.sd
  have sa' := h'.sa; have sb' := h'.sb; have sc' := h'.sc; have sd' := h'.sd
  have aM := h.aM; have bM := h.bM; have cM := h'.cM; have dM := h'.dM
  generalize q * C = m1 at *
  generalize q * D = m2 at *
  generalize q * y = m3 at *
  rcases he with rfl | rfl <;> omega
theorem Lh.dec {a b x0 y0 A B C D x y e q : Int} (h : Lh a b x0 y0 A B C D x y e) (hw : y + C ≠ 0) (hz : y + D ≠ 0) (q1 : q = (x + A) / (y + C)) (q2 : q = (x + B) / (y + D)) : x - q * y < y ∧ 1 ≤ y ∧ (A - q * C) + (x - q * y) < y + C := by
  obtain ⟨f1, f2, f3, f4⟩ := Lh.q_facts (u := x + A) (w := y + C) (by have := h.u1; omega) (by have := h.w0; omega)
  obtain ⟨g1, g2, g3, g4⟩ := Lh.q_facts (u := x + B) (w := y + D) (by have := h.v1; omega) (by have := h.z0; omega)
  rw [← q1] at f1 f2 f3 f4
  rw [← q2] at g1 g2 g3 g4
  have m1 : x + A - q * (y + C) = x - q * y + (A - q * C) := by grind
  have m2 : x + B - q * (y + D) = x - q * y + (B - q * D) := by grind
  rw [m1] at f3
  rw [m2] at g3
  have he := h.he
  have sa := h.sa; have sb := h.sb; have sc := h.sc; have sd := h.sd; have w0 := h.w0; have z0 := h.z0
  rcases he with rfl | rfl
  · have k : 0 ≤ -C * q := Int.mul_nonneg (by omega) (by omega)
    have k' : q * C = -(-C * q) := by grind
    omega
  · have k : 0 ≤ -D * q := Int.mul_nonneg (by omega) (by omega)
    have k' : q * D = -(-D * q) := by grind
    omega
/-- the highest bits of a number of at most n words -/
theorem highest_val {ws : List Nat} {n s : Nat} (hw : Wds ws) (hn : 2 ≤ n) (hl : ws.length ≤ n) (hs : s ≤ 63) : val ws / (WB ^ (n - 2) * 2 ^ (66 - s)) = up1 (ws.getD (n - 1) 0) (ws.getD (n - 2) 0) s / 4 := by
  have e1 : val ws = val (ws.take (n - 2)) + WB ^ (n - 2) * (ws.getD (n - 2) 0 + WB * ws.getD (n - 1) 0) := by
    have h1 := val_take_succ ws (n - 1)
    rw [show n - 1 + 1 = n by omega, List.take_of_length_le hl, show n - 1 = n - 2 + 1 by omega, val_take_succ ws (n - 2)] at h1
    rw [h1, show n - 1 = n - 2 + 1 by omega, Nat.pow_succ, Nat.mul_add, Nat.mul_assoc]
    omega
  have hlt := val_take_lt hw (n - 2)
  have hp : 0 < WB ^ (n - 2) := Nat.pow_pos WB_pos
  rw [← Nat.div_div_eq_div_mul, e1, Nat.add_mul_div_left _ _ hp, Nat.div_eq_of_lt hlt, Nat.zero_add]
  rw [show 66 - s = (64 - s) + 2 by omega, Nat.pow_add, ← Nat.div_div_eq_div_mul]
  unfold up1
  have e2 : WB = 2 ^ (64 - s) * 2 ^ s := by rw [WB_pow, ← Nat.pow_add]; congr 1; omega
  have e3 : (ws.getD (n - 2) 0 + WB * ws.getD (n - 1) 0) / 2 ^ (64 - s) = ws.getD (n - 1) 0 * 2 ^ s + ws.getD (n - 2) 0 / 2 ^ (64 - s) := by
    rw [e2, Nat.mul_assoc, Nat.add_mul_div_left _ _ (Nat.pow_pos (by decide)), Nat.add_comm, Nat.mul_comm (2 ^ s)]
  rw [e3]
theorem up1_lt' {hi lo s : Nat} (hs : s ≤ 63) (h : hi * 2 ^ s < WB) (hlo : Wd lo) : up1 hi lo s < WB := by
  unfold up1
  have e2 : WB = 2 ^ (64 - s) * 2 ^ s := by rw [WB_pow, ← Nat.pow_add]; congr 1; omega
  have h1 : lo / 2 ^ (64 - s) < 2 ^ s := carry_lt (by omega) hlo
  have h2 : hi + 1 ≤ 2 ^ (64 - s) := by
    rw [e2] at h
    exact Nat.lt_of_mul_lt_mul_right h
  have h3 : (hi + 1) * 2 ^ s ≤ 2 ^ (64 - s) * 2 ^ s := Nat.mul_le_mul_right _ h2
  rw [Nat.add_mul, ← e2] at h3
  omega
def PHi (x : Nat) (w : World) (e : Ending) (w' : World) : Prop := Below w.heap.size w w' ∧ e = .returned (.int .i64 (x : Int))
theorem hi_fin {hi lo s : Nat} (hs : s ≤ 63) (h : hi * 2 ^ s < WB) (hlo : Wd lo) : IntKind.i64.wrap (bits .or .u64 (IntKind.u64.wrap ((hi : Int) * 2 ^ s)) ((lo : Int) / 2 ^ (64 - s)) / 4) = ((up1 hi lo s / 4 : Nat) : Int) := by
  have hl : lo / 2 ^ (64 - s) < WB := Nat.lt_of_le_of_lt (Nat.div_le_self _ _) hlo
  rw [wshl hi s h, dshr lo (64 - s), or64 _ _ h hl, or_parts hs hlo]
  have h1 := up1_lt' hs h hlo
  have e : ((up1 hi lo s : Nat) : Int) / 4 = ((up1 hi lo s / 4 : Nat) : Int) := by omega
  rw [e]
  exact IntWalk.i64_in _ (by unfold WB at h1; omega)
set_option maxRecDepth 100000 in
set_option maxHeartbeats 800000 in
theorem highest_any (v : Value) (ws : List Nat) (n s : Nat) (w : World) (h : Sl w v ws) (hn : 2 ≤ n) (hn2 : n ≤ 4000) (hl : ws.length ≤ n) (hs : s ≤ 63) (hb : ws.getD (n - 1) 0 * 2 ^ s < WB) :
    Calls Tryz.prog 164 #[v, .int .i64 (n : Int), .int .i64 (s : Int)] w (PHi (val ws / (WB ^ (n - 2) * 2 ^ (66 - s))) w) := by
  have hws := h.1
  obtain ⟨p, cw, rfl, hg⟩ := h.opened' w.heap.size (Nat.le_refl _)
  obtain ⟨X, hX⟩ : ∃ X, X = val ws / (WB ^ (n - 2) * 2 ^ (66 - s)) := ⟨_, rfl⟩
  have HX := Lib.hid (hX.trans (highest_val hws hn hl hs))
  rw [← hX]
  clear hX
  have HB := Lib.hid hb
  have WS := Lib.hid hws
  obtain ⟨L, hL⟩ : ∃ L, L = ws.length := ⟨_, rfl⟩
  have HL := Lib.hid hL
  have hsI : (s : Int) ≤ 63 := by omega
  obtain ⟨t, ht⟩ : ∃ t, t = 64 - s := ⟨_, rfl⟩
  have e4 : (64 : Int) - (s : Int) = (t : Int) := by omega
  have e5 : IntKind.i64.wrap (t : Int) = (t : Int) := IntWalk.i64_in _ (by omega)
  have HT := Lib.hid ht
  rcases Nat.lt_or_ge ws.length (n - 1) with h1 | h1
  · have d1 : ws.getD (n - 1) 0 = 0 := by rw [List.getD_eq_getElem?_getD, List.getElem?_eq_none (by omega)]; rfl
    have d2 : ws.getD (n - 2) 0 = 0 := by rw [List.getD_eq_getElem?_getD, List.getElem?_eq_none (by omega)]; rfl
    rw [d1, d2] at HX
    have c1 : ¬ (n : Int) ≤ (L : Int) := by omega
    have c2 : ¬ (n : Int) - 1 ≤ (L : Int) := by omega
    rw [← hL]
    clear h hws hg hb hL ht h1 d1 d2 hl
    go_enter Tryz.func164, Tryz.ntmps164
    go_wp2
    go_quiet (fail)
    go_wp2
    go_ret
    refine ⟨below_drewN (Below.refl _ _) _, ?_⟩
    have := hi_fin (hi := 0) (lo := 0) hs (by rw [Nat.zero_mul]; exact WB_pos) Wd.zero
    rw [show (((0 : Nat) : Int)) * 2 ^ s = 0 by simp, show (((0 : Nat) : Int)) / 2 ^ (64 - s) = 0 by simp, show IntKind.u64.wrap 0 = 0 from rfl] at this
    rw [HX.out, ← this, IntWalk.i64_left]
    rfl
  · obtain ⟨b2, o2, hp, hbg2, hbl2, hcell2⟩ := hg (n - 2) (by omega)
    subst hp
    obtain ⟨n2, hn2'⟩ : ∃ k, k = n - 2 := ⟨_, rfl⟩
    have e7 : (n : Int) - 2 = (n2 : Int) := by omega
    rw [← hn2'] at hcell2
    have wlo := hws.getD n2
    obtain ⟨lo, hlo⟩ : ∃ lo, lo = ws.getD n2 0 := ⟨_, rfl⟩
    rw [← hlo] at hcell2 wlo
    rw [← hn2', ← hlo] at HX
    have HLO := Lib.hid wlo
    have c2 : (n : Int) - 1 ≤ (L : Int) := by omega
    have c3 : (n2 : Int) < (L : Int) := by omega
    rcases Nat.lt_or_ge ws.length n with h2 | h2
    · have d1 : ws.getD (n - 1) 0 = 0 := by rw [List.getD_eq_getElem?_getD, List.getElem?_eq_none (by omega)]; rfl
      rw [d1] at HX
      have c1 : ¬ (n : Int) ≤ (L : Int) := by omega
      rw [← hL]
      clear h hws hg hb hL ht h1 h2 d1 hl hn2' hlo wlo
      go_enter Tryz.func164, Tryz.ntmps164
      go_wp2
      go_quiet (fail)
      go_wp2
      go_ret
      refine ⟨below_drewN (Below.refl _ _) _, ?_⟩
      have := hi_fin (hi := 0) hs (by rw [Nat.zero_mul]; exact WB_pos) HLO.out
      rw [show (((0 : Nat) : Int)) * 2 ^ s = 0 by simp, show IntKind.u64.wrap 0 = 0 from rfl, ← HT.out] at this
      rw [HX.out, ← this, IntWalk.i64_left]
      rfl
    · obtain ⟨b1, o1, hp, hbg1, hbl1, hcell1⟩ := hg (n - 1) (by omega)
      simp only [Option.some.injEq, Addr.mk.injEq, and_true] at hp
      obtain ⟨rfl, rfl⟩ := hp
      obtain ⟨n1, hn1'⟩ : ∃ k, k = n - 1 := ⟨_, rfl⟩
      have e8 : (n : Int) - 1 = (n1 : Int) := by omega
      rw [e8] at c2
      rw [← hn1'] at hcell1
      obtain ⟨hi, hhi⟩ : ∃ hi, hi = ws.getD n1 0 := ⟨_, rfl⟩
      rw [← hhi] at hcell1
      rw [← hn1', ← hhi] at HX HB
      have c1 : (n : Int) ≤ (L : Int) := by omega
      have c4 : (n1 : Int) < (L : Int) := by omega
      rw [← hL]
      clear h hws hg hb hL ht h1 h2 hl hn2' hlo wlo hn1' hhi
      go_enter Tryz.func164, Tryz.ntmps164
      go_wp2
      go_quiet (fail)
      go_wp2
      go_ret
      refine ⟨below_drewN (Below.refl _ _) _, ?_⟩
      have := hi_fin hs HB.out HLO.out
      rw [← HT.out] at this
      rw [HX.out, ← this, IntWalk.i64_left]
      rfl
end Go.Proofs.YtjjomjjgoceklaaGreat
namespace Go.Proofs.YtjjomjjgoceklaaGreat
set_option maxRecDepth 100000
open Go.RowKit

/-- the box of four coefficients -/
def Sb (T : Nat) (A B C D : Int) (w : World) : Prop := w.heap[T]? = some (.cells #[.int .i64 A, .int .i64 B, .int .i64 C, .int .i64 D] 162 (0, 0))
def st4 (w : World) (T : Nat) (a b c d : Value) : World := (((w.setCell ⟨T, 0, none⟩ a).setCell ⟨T, 1, none⟩ b).setCell ⟨T, 2, none⟩ c).setCell ⟨T, 3, none⟩ d
theorem Sb.set {T : Nat} {A B C D : Int} {w : World} (h : Sb T A B C D w) (A' B' C' D' : Int) : Sb T A' B' C' D' (st4 w T (.int .i64 A') (.int .i64 B') (.int .i64 C') (.int .i64 D')) := by
  have h' : w.heap[T]? = _ := h
  unfold Sb st4
  simp [World.setCell, Array.getElem?_modify, h']
theorem Sb.cells {T : Nat} {A B C D : Int} {w : World} (h : Sb T A B C D w) : w.cell? ⟨T, 0, none⟩ = some (.int .i64 A) ∧ w.cell? ⟨T, 1, none⟩ = some (.int .i64 B) ∧ w.cell? ⟨T, 2, none⟩ = some (.int .i64 C) ∧ w.cell? ⟨T, 3, none⟩ = some (.int .i64 D) ∧
    w.frozen? ⟨T, 0, none⟩ = false ∧ w.frozen? ⟨T, 1, none⟩ = false ∧ w.frozen? ⟨T, 2, none⟩ = false ∧ w.frozen? ⟨T, 3, none⟩ = false := by
  have h' : w.heap[T]? = _ := h
  exact ⟨by simp [World.cell?, h'], by simp [World.cell?, h'], by simp [World.cell?, h'], by simp [World.cell?, h'], by simp [World.frozen?, h'], by simp [World.frozen?, h'], by simp [World.frozen?, h'], by simp [World.frozen?, h']⟩
theorem Sb.keep {T : Nat} {A B C D : Int} {w w' : World} (h : Sb T A B C D w) (hb : Below w.heap.size w w') : Sb T A B C D w' := blk_keep h hb
theorem grown4 (w : World) (T : Nat) (a b c d : Value) : w.grownBy (st4 w T a b c d) (some T) :=
  only_setCell (only_setCell (only_setCell (only_setCell (World.grownBy.refl w (some T)) (p := ⟨T, 0, none⟩) rfl a) (p := ⟨T, 1, none⟩) rfl b) (p := ⟨T, 2, none⟩) rfl c) (p := ⟨T, 3, none⟩) rfl d
theorem below4 {B : Nat} {w0 w : World} (h : Below B w0 w) {T : Nat} (hT : B ≤ T) (a b c d : Value) : Below B w0 (st4 w T a b c d) := (((h.setCell hT a).setCell hT b).setCell hT c).setCell hT d
theorem Sb.other {T U : Nat} {A B C D : Int} {w w' : World} (h : Sb T A B C D w) (hg : w.grownBy w' (some U)) (hne : T ≠ U) : Sb T A B C D w' := blk_other h hg hne
def PFs (a b : Int) (w : World) (e : Ending) (w' : World) : Prop := Below w.heap.size w w' ∧ ∃ A B C D x y x0 y0 ε : Int, e = .returned (.agg #[.int .i64 A, .int .i64 B, .int .i64 C, .int .i64 D]) ∧ Lh a b x0 y0 A B C D x y ε
theorem i64_fit {n m : Int} (h : m = n) (h1 : -Mx - Mx ≤ n) (h2 : n ≤ Mx) : IntKind.i64.wrap n = m := by
  subst h
  refine IntWalk.i64_in _ ?_
  have : Mx = 4611686018427387904 := rfl
  omega
set_option maxRecDepth 100000 in
set_option maxHeartbeats 1600000 in
theorem foresee_any (va vb : Value) (aw bw : List Nat) (w : World) (ha : Sl w va aw) (hb : Sl w vb bw) (na : Nrm aw) (la : aw.length ≤ 4000) (h2 : 2 ≤ aw.length) (hl : bw.length ≤ aw.length) (hle : val bw ≤ val aw) :
    Calls Tryz.prog 149 #[va, vb] w (PFs (val aw) (val bw) w) := by
  have wa := ha.1
  have wb := hb.1
  have HA := Lib.hid ha
  have HB := Lib.hid hb
  have HLE := Lib.hid hle
  have WA := Lib.hid wa
  have WBB := Lib.hid wb
  obtain ⟨pa, ca, rfl, hga⟩ := ha.opened' w.heap.size (Nat.le_refl _)
  obtain ⟨pb, cb, rfl, _⟩ := hb.opened' w.heap.size (Nat.le_refl _)
  obtain ⟨n, hn⟩ : ∃ n, n = aw.length := ⟨_, rfl⟩
  obtain ⟨m, hm⟩ : ∃ m, m = bw.length := ⟨_, rfl⟩
  obtain ⟨n1, hn1⟩ : ∃ n1, n1 = n - 1 := ⟨_, rfl⟩
  obtain ⟨bd, od, hpd, hbg, hbl, hcell⟩ := hga n1 (by omega)
  subst hpd
  obtain ⟨t, ht⟩ : ∃ t, t = aw.getD n1 0 := ⟨_, rfl⟩
  rw [← ht] at hcell
  have ht0 : 0 < t := by
    rw [ht]
    rcases Nat.eq_zero_or_pos (aw.getD n1 0) with h | h
    · exfalso
      unfold Nrm at na
      rw [List.getLast?_eq_getElem?, show aw.length - 1 = n1 by omega] at na
      rw [List.getD_eq_getElem?_getD, List.getElem?_eq_getElem (by omega)] at h
      rw [List.getElem?_eq_getElem (by omega)] at na
      simp at h na
      omega
    · exact h
  have htw : Wd t := by rw [ht]; exact wa.getD _
  obtain ⟨s, hs, hbl', hs1, hs2⟩ := lz_spec t ht0 htw
  -- the other one's top word
  have hs3 : bw.getD n1 0 * 2 ^ s < WB := by
    rcases Nat.lt_or_ge m n with h | h
    · rw [List.getD_eq_getElem?_getD, List.getElem?_eq_none (by omega)]
      simp [WB_pos]
    · refine Nat.lt_of_le_of_lt (Nat.mul_le_mul_right _ ?_) hs1
      rw [ht]
      have e1 := val_take_succ aw n1
      have e2 := val_take_succ bw n1
      rw [List.take_of_length_le (by omega)] at e1 e2
      have l1 := val_take_lt wa n1
      rcases Nat.lt_or_ge (aw.getD n1 0) (bw.getD n1 0) with h' | h'
      · have : WB ^ n1 * (aw.getD n1 0 + 1) ≤ WB ^ n1 * bw.getD n1 0 := Nat.mul_le_mul_left _ h'
        rw [Nat.mul_add] at this
        omega
      · exact h'
  obtain ⟨X, hX⟩ : ∃ X, X = val aw / (WB ^ (n - 2) * 2 ^ (66 - s)) := ⟨_, rfl⟩
  obtain ⟨Y, hY⟩ : ∃ Y, Y = val bw / (WB ^ (n - 2) * 2 ^ (66 - s)) := ⟨_, rfl⟩
  have hHp : 0 < WB ^ (n - 2) * 2 ^ (66 - s) := Nat.mul_pos (Nat.pow_pos WB_pos) (Nat.pow_pos (by decide))
  have hXv : X = up1 t (aw.getD (n - 2) 0) s / 4 := by rw [hX, highest_val wa (by omega) (by omega) hs, ht, hn1]
  have hXr : 2305843009213693952 ≤ X ∧ X < 4611686018427387904 := by
    rw [hXv]
    have h1 := up1_lt' (lo := aw.getD (n - 2) 0) hs hs1 (wa.getD _)
    have h3 : t * 2 ^ s ≤ up1 t (aw.getD (n - 2) 0) s := Nat.le_add_right _ _
    unfold WB at h1 hs2
    omega
  have hYX : Y ≤ X := by rw [hX, hY]; exact Nat.div_le_div_right hle
  have L0 : Lh (val aw : Int) (val bw : Int) (X : Int) (Y : Int) 1 0 0 1 (X : Int) (Y : Int) 1 := Lh.start (by omega) (by unfold Mx; omega) (by omega) (by omega)
  have HX := Lib.hid hX; have HY := Lib.hid hY; have HHP := Lib.hid hHp; have L0 := Lib.hid L0
  have HXR := Lib.hid hXr; have HYX := Lib.hid hYX
  have HBL := Lib.hid hbl'; have HS1 := Lib.hid hs1; have HS3 := Lib.hid hs3; have HTW := Lib.hid htw; have HT := Lib.hid ht
  have HN := Lib.hid hn; have HM := Lib.hid hm; have HN1 := Lib.hid hn1; have HLL := Lib.hid hl
  have e1 : (n : Int) - 1 = (n1 : Int) := by omega
  have e3 : (n1 : Int) < (n : Int) := by omega
  rw [← hn, ← hm]
  rw [← hn] at h2 la
  clear ha hb na wa wb hga hle hbl' hs1 hs2 hs3 htw ht hn hm hn1 hl hX hY hHp hXv hXr hYX
  go_enter Tryz.func149, Tryz.ntmps149
  go_upto_region 2 with fail
  generalize hW : World.alloc (World.alloc w _) _ = W
  have B4 : Sb w.heap.size 0 0 0 0 W := by rw [← hW]; exact blk_keep (Go.Deep.blk_alloc_new _ _) (bl1 _ _)
  have B5 : Sb (w.heap.size + 1) 1 0 0 1 W := by rw [← hW]; have := Go.Deep.blk_alloc_new (w.alloc (.cells #[.int .i64 0, .int .i64 0, .int .i64 0, .int .i64 0] 162)) (.cells #[.int .i64 1, .int .i64 0, .int .i64 0, .int .i64 1] 162); rw [World.size_alloc] at this; exact this
  have k0 : Below w.heap.size w W := by rw [← hW]; exact bl2 _ _ _
  clear hW
  have c0 := (k0.cell (p := ⟨bd, od + n1, none⟩) hbl).trans hcell
  have B4 := Lib.hid B4; have B5 := Lib.hid B5; have K0 := Lib.hid k0
  clear hcell k0
  go_wp2_with fail
  refine (Tryz.bits_LeadingZeros64 (t : Int) _ (by omega) (by have := HTW.out; unfold Wd WB at this; omega)).mono ?_
  rintro e w' ⟨rfl, hw0⟩
  obtain rfl := hw0.symm
  rw [Int.toNat_natCast, HBL.out]
  go_wp2_with fail
  have HA0 := HA.out.keep K0.out (Nat.le_refl _)
  rw [← HN.out] at HA0
  refine (highest_any _ aw n s _ HA0 h2 la (by have := HN.out; omega) hs (by rw [← HN1.out, ← HT.out]; exact HS1.out)).mono ?_
  rintro e w1 ⟨hb1, rfl⟩
  rw [← HX.out]
  have HB0 := HB.out.keep (Below.thru K0.out K0.out.size hb1) (Nat.le_refl _)
  rw [← HM.out] at HB0
  have K1 := Lib.hid (Below.thru K0.out K0.out.size hb1)
  have B4 := Lib.hid (B4.out.keep hb1)
  have B5 := Lib.hid (B5.out.keep hb1)
  clear hb1 HA0 c0
  go_wp2_with fail
  refine (highest_any _ bw n s _ HB0 h2 la (by have := HN.out; have := HLL.out; omega) hs (by rw [← HN1.out]; exact HS3.out)).mono ?_
  rintro e w2 ⟨hb2, rfl⟩
  rw [← HY.out]
  have K2 := Lib.hid (Below.thru K1.out K1.out.size hb2)
  have B4 := Lib.hid (B4.out.keep hb2)
  have B5 := Lib.hid (B5.out.keep hb2)
  clear hb2 HB0 K1 K0
  have hMx : Mx = 4611686018427387904 := rfl
  have HMX := Lib.hid hMx
  clear hMx
  go_wp2
  go_loopw [7, 8] (fun xv yv wr => ∃ A B C D x y ε : Int, xv = .int .i64 x ∧ yv = .int .i64 y ∧ Hid (Lh (val aw : Int) (val bw : Int) (X : Int) (Y : Int) A B C D x y ε) ∧ Hid (Sb w.heap.size 0 0 0 0 wr) ∧ Hid (Sb (w.heap.size + 1) A B C D wr) ∧ Hid (Below w.heap.size w wr)) (fun _ yv _ => (intOf yv).toNat)
  case atStart => exact ⟨1, 0, 0, 1, X, Y, 1, rfl, rfl, L0.out, B4.out, B5.out, K2.out⟩
  case round =>
    obtain ⟨A, B, C, D, x, y, ε, rfl, rfl, HL, H4, H5, HK⟩ := hrel
    obtain ⟨c0, c1, c2, c3, f0, f1, f2, f3⟩ := H5.out.cells
    obtain ⟨⟨hx1, hxM⟩, hy0, hyM⟩ := HL.out.xy
    have hM := HMX.out
    have u1 := HL.out.u1; have uM := HL.out.uM; have v1 := HL.out.v1; have vM := HL.out.vM; have w0 := HL.out.w0; have wM := HL.out.wM; have z0 := HL.out.z0; have zM := HL.out.zM
    obtain ⟨u, hu⟩ : ∃ u, u = x + A := ⟨_, rfl⟩
    obtain ⟨v, hv⟩ : ∃ v, v = x + B := ⟨_, rfl⟩
    obtain ⟨wv, hwv⟩ : ∃ wv, wv = y + C := ⟨_, rfl⟩
    obtain ⟨zv, hzv⟩ : ∃ zv, zv = y + D := ⟨_, rfl⟩
    have e4 : IntKind.i64.wrap (x + A) = u := i64_fit hu (by omega) uM
    have e5 : IntKind.i64.wrap (x + B) = v := i64_fit hv (by omega) vM
    have e6 : IntKind.i64.wrap (y + C) = wv := i64_fit hwv (by omega) wM
    have e7 : IntKind.i64.wrap (y + D) = zv := i64_fit hzv (by omega) zM
    rw [← hu] at u1 uM; rw [← hv] at v1 vM; rw [← hwv] at w0 wM; rw [← hzv] at z0 zM
    have HU := Lib.hid hu; have HV := Lib.hid hv; have HWV := Lib.hid hwv; have HZV := Lib.hid hzv
    clear hu hv hwv hzv
    obtain ⟨q0, q1, q2, q3, j0, j1, j2, j3⟩ := H4.out.cells
    have R4 := H4.out.set A B C D
    obtain ⟨g0, g1, g2, g3, _⟩ := R4.cells
    unfold st4 at g0 g1 g2 g3
    clear R4
    by_cases hw : wv = 0
    · have hw' : (wv != 0) = false := by simpa using hw
      clear hw hx1 hxM hy0 hyM hM u1 uM v1 vM w0 wM z0 zM
      go_wp2
      exact bodyPost_ret (v := .agg #[.int .i64 A, .int .i64 B, .int .i64 C, .int .i64 D]) (by simp [results, Tryz.results149, go_sem, g0, g1, g2, g3]) rfl ⟨below4 HK.out (Nat.le_refl _) _ _ _ _, A, B, C, D, x, y, _, _, ε, rfl, HL.out⟩
    · have hw' : (wv != 0) = true := by simpa using hw
      by_cases hz : zv = 0
      · have hz' : (zv != 0) = false := by simpa using hz
        clear hw hz hx1 hxM hy0 hyM hM u1 uM v1 vM w0 wM z0 zM
        go_wp2
        exact bodyPost_ret (v := .agg #[.int .i64 A, .int .i64 B, .int .i64 C, .int .i64 D]) (by simp [results, Tryz.results149, go_sem, g0, g1, g2, g3]) rfl ⟨below4 HK.out (Nat.le_refl _) _ _ _ _, A, B, C, D, x, y, _, _, ε, rfl, HL.out⟩
      · have hz' : (zv != 0) = true := by simpa using hz
        have hwp : 0 < wv := by omega
        have hzp : 0 < zv := by omega
        have hu0 : 0 ≤ u := by omega
        have hv0 : 0 ≤ v := by omega
        obtain ⟨q, hq⟩ : ∃ q, q = u / wv := ⟨_, rfl⟩
        obtain ⟨r, hr⟩ : ∃ r, r = v / zv := ⟨_, rfl⟩
        have hqb : 0 ≤ q ∧ q ≤ Mx := by rw [hq]; exact ⟨Int.ediv_nonneg hu0 (by omega), Int.le_trans (Int.ediv_le_self _ hu0) uM⟩
        have hrb : 0 ≤ r ∧ r ≤ Mx := by rw [hr]; exact ⟨Int.ediv_nonneg hv0 (by omega), Int.le_trans (Int.ediv_le_self _ hv0) vM⟩
        have d1 : u.tdiv wv = q := by rw [Int.tdiv_eq_ediv_of_nonneg hu0]; exact hq.symm
        have d2 : v.tdiv zv = r := by rw [Int.tdiv_eq_ediv_of_nonneg hv0]; exact hr.symm
        have e8 : IntKind.i64.wrap q = q := IntWalk.i64_in _ (by omega)
        have e9 : IntKind.i64.wrap r = r := IntWalk.i64_in _ (by omega)
        have HQ := Lib.hid hq; have HR := Lib.hid hr
        have hwn : ¬ wv = 0 := hw
        have hzn : ¬ zv = 0 := hz
        clear hq hr
        by_cases hqr : q = r
        · subst hqr
          have ST := HL.out.step (q := q) (H := ((WB ^ (n - 2) * 2 ^ (66 - s) : Nat) : Int)) (α := ((val aw % (WB ^ (n - 2) * 2 ^ (66 - s)) : Nat) : Int)) (β := ((val bw % (WB ^ (n - 2) * 2 ^ (66 - s)) : Nat) : Int)) (by have := HHP.out; omega) (by omega) (by have := Nat.mod_lt (val aw) HHP.out; omega) (by omega) (by have := Nat.mod_lt (val bw) HHP.out; omega)
            (by rw [HX.out]; exact_mod_cast (Nat.div_add_mod' (val aw) (WB ^ (n - 2) * 2 ^ (66 - s))).symm) (by rw [HY.out]; exact_mod_cast (Nat.div_add_mod' (val bw) (WB ^ (n - 2) * 2 ^ (66 - s))).symm) (by have := HXR.out; omega) (by have := HXR.out; have := HYX.out; omega)
            (by rw [← HWV.out]; exact hw) (by rw [← HZV.out]; exact hz) (by rw [← HU.out, ← HWV.out]; exact HQ.out) (by rw [← HV.out, ← HZV.out]; exact HR.out)
          obtain ⟨ST, hq1, _⟩ := ST
          obtain ⟨p1, p2, p3⟩ := HL.out.prods ST
          obtain ⟨dy, dy1, -⟩ := HL.out.dec (q := q) (by rw [← HWV.out]; exact hw) (by rw [← HZV.out]; exact hz) (by rw [← HU.out, ← HWV.out]; exact HQ.out) (by rw [← HV.out, ← HZV.out]; exact HR.out)
          obtain ⟨_, hy1, hy1M⟩ := ST.xy
          have cM' := ST.cM; have dM' := ST.dM
          obtain ⟨m1, hm1⟩ : ∃ m, m = q * C := ⟨_, rfl⟩
          obtain ⟨m2, hm2⟩ : ∃ m, m = q * D := ⟨_, rfl⟩
          obtain ⟨m3, hm3⟩ : ∃ m, m = q * y := ⟨_, rfl⟩
          have w1 : IntKind.i64.wrap (q * C) = m1 := i64_fit hm1 (by omega) (by omega)
          have w2 : IntKind.i64.wrap (q * D) = m2 := i64_fit hm2 (by omega) (by omega)
          have w3 : IntKind.i64.wrap (q * y) = m3 := i64_fit hm3 (by omega) (by omega)
          rw [← hm1, ← hm2, ← hm3] at ST
          rw [← hm1] at cM'; rw [← hm2] at dM'; rw [← hm3] at dy hy1 hy1M
          obtain ⟨C1, hC1⟩ : ∃ c, c = A - m1 := ⟨_, rfl⟩
          obtain ⟨D1, hD1⟩ : ∃ c, c = B - m2 := ⟨_, rfl⟩
          obtain ⟨y1, hY1⟩ : ∃ c, c = x - m3 := ⟨_, rfl⟩
          have w4 : IntKind.i64.wrap (A - m1) = C1 := i64_fit hC1 (by omega) (by omega)
          have w5 : IntKind.i64.wrap (B - m2) = D1 := i64_fit hD1 (by omega) (by omega)
          have w6 : IntKind.i64.wrap (x - m3) = y1 := i64_fit hY1 (by omega) (by omega)
          rw [← hC1, ← hD1, ← hY1] at ST
          rw [← hY1] at dy hy1 hy1M
          have STH := Lib.hid ST
          have S5 := Lib.hid (H5.out.set C D C1 D1)
          have S4 := Lib.hid (H4.out.other (grown4 wr (w.heap.size + 1) (.int .i64 C) (.int .i64 D) (.int .i64 C1) (.int .i64 D1)) (by omega))
          have SK := Lib.hid (below4 HK.out (show w.heap.size ≤ w.heap.size + 1 by omega) (.int .i64 C) (.int .i64 D) (.int .i64 C1) (.int .i64 D1))
          have hqq : (q != q) = false := by simp
          have DY := Lib.hid dy; have DY1 := Lib.hid dy1
          clear hm1 hm2 hm3 hC1 hD1 hY1 ST p1 p2 p3 cM' dM' g0 g1 g2 g3 q0 q1 q2 q3 j0 j1 j2 j3 HQ HR hx1 hxM hy0 hyM hM u1 uM v1 vM w0 wM z0 zM hqb hrb dy dy1 hy1 hy1M hq1 hw hz
          go_wp2
          go_roundw
          case rel => exact ⟨C, D, C1, D1, y, y1, _, rfl, rfl, STH.out, S4.out, S5.out, SK.out⟩
          case measure => have := DY.out; have := DY1.out; simp [intOf]; omega
        · have hqr' : (q != r) = true := by simpa using hqr
          clear hqr hw hz hx1 hxM hy0 hyM hM u1 uM v1 vM w0 wM z0 zM hqb hrb
          go_wp2
          exact bodyPost_ret (v := .agg #[.int .i64 A, .int .i64 B, .int .i64 C, .int .i64 D]) (by simp [results, Tryz.results149, go_sem, g0, g1, g2, g3]) rfl ⟨below4 HK.out (Nat.le_refl _) _ _ _ _, A, B, C, D, x, y, _, _, ε, rfl, HL.out⟩
end Go.Proofs.YtjjomjjgoceklaaGreat
namespace Go.Proofs.YtjjomjjgoceklaaGreat
set_option maxRecDepth 100000
open Go.RowKit

theorem untaken_any (A B C D : Int) (w : World) : Calls Tryz.prog 150 #[.agg #[.int .i64 A, .int .i64 B, .int .i64 C, .int .i64 D]] w fun e w' => Below w.heap.size w w' ∧ e = .returned (.bool (B == 0)) := by
  go_enter Tryz.func150, Tryz.ntmps150
  go_wp2
  go_ret
  exact ⟨bl1 _ _, rfl⟩
theorem combine_val {N a b j k o1 o2 c1 c2 : Nat} {Z : Int} (hZ : Z = j * a - k * b) (h0 : 0 ≤ Z) (hN : Z < N) (ho : o2 < N) (e1 : o1 + N * c1 = 0 + j * a) (e2 : o2 + k * b = o1 + N * c2) : (o2 : Int) = Z := by
  have e : (o2 : Int) + N * c1 = Z + N * c2 := by
    have h1 : ((o1 : Int) + N * c1) = j * a := by exact_mod_cast (by omega : o1 + N * c1 = j * a)
    have h2 : (o2 : Int) + k * b = o1 + N * c2 := by exact_mod_cast e2
    rw [hZ]
    omega
  rcases Nat.lt_trichotomy c1 c2 with h | h | h
  · have : (N : Int) * (c1 + 1) ≤ N * c2 := Int.mul_le_mul_of_nonneg_left (by omega) (by omega)
    rw [Int.mul_add] at this
    omega
  · rw [h] at e; omega
  · have : (N : Int) * (c2 + 1) ≤ N * c1 := Int.mul_le_mul_of_nonneg_left (by omega) (by omega)
    rw [Int.mul_add] at this
    omega
def PCo (Z : Int) (w : World) (e : Ending) (w' : World) : Prop := Below w.heap.size w w' ∧ ∃ (v : Value) (us : List Nat), e = .returned v ∧ Sl w' v (norm us) ∧ Wds us ∧ (val us : Int) = Z
set_option maxRecDepth 100000 in
set_option maxHeartbeats 800000 in
theorem combine_pos (pa pb : Option Addr) (ca cb n jn kn : Nat) (aw bw : List Nat) (w : World) (ha : Sl w (.slice pa n ca) aw) (hb : Sl w (.slice pb n cb) bw) (la : aw.length = n) (lb : bw.length = n) (hn : n ≤ 4000) (hj : (jn : Int) ≤ Mx) (hk : (kn : Int) ≤ Mx) (Z : Int) (hZ : Z = jn * val aw - kn * val bw) (h0 : 0 ≤ Z) (hN : Z < (WB ^ n : Nat)) :
    (Calls Tryz.prog 151 #[.slice pa n ca, .slice pb n cb, .int .i64 (jn : Int), .int .i64 (-(kn : Int))] w (PCo Z w)) ∧ (0 < jn → Calls Tryz.prog 151 #[.slice pb n cb, .slice pa n ca, .int .i64 (-(kn : Int)), .int .i64 (jn : Int)] w (PCo Z w)) := by
  have hM : Mx = 4611686018427387904 := rfl
  have wa := ha.1
  have wb := hb.1
  obtain ⟨pa', ca', ea, hga⟩ := ha.opened' w.heap.size (Nat.le_refl _)
  obtain ⟨pb', cb', eb, hgb⟩ := hb.opened' w.heap.size (Nat.le_refl _)
  simp only [Value.slice.injEq] at ea eb
  obtain ⟨rfl, -, rfl⟩ := ea
  obtain ⟨rfl, -, rfl⟩ := eb
  have hmk := mk_words n (by omega)
  have wj : Wd jn := by unfold Wd WB; omega
  have wk : Wd kn := by unfold Wd WB; omega
  have e1 : IntKind.u64.wrap (jn : Int) = (jn : Int) := wuN _ wj
  have e2 : IntKind.u64.wrap (kn : Int) = (kn : Int) := wuN _ wk
  have e3 : IntKind.i64.wrap (kn : Int) = (kn : Int) := IntWalk.i64_in _ (by omega)
  have WJ := Lib.hid wj; have WK := Lib.hid wk; have WA := Lib.hid wa; have WBB := Lib.hid wb
  have GA := Lib.hid hga; have GB := Lib.hid hgb
  have HZ := Lib.hid hZ; have H0 := Lib.hid h0; have HNN := Lib.hid hN
  have LA := Lib.hid la; have LB := Lib.hid lb
  have core : ∀ w1 : World, Below w.heap.size w w1 → w1 = w.alloc (.cells (madeCells #[.int .u64 0] n) 23) → Calls Tryz.prog 152 #[.slice (some ⟨w.heap.size, 0, none⟩) n n, .slice pa n ca, .int .u64 (jn : Int)] w1 (PAm (List.replicate n 0) aw [] [] jn n w.heap.size w1) := by
    intro w1 hb1 e
    subst e
    have := addMultiple_any w.heap.size n jn ca n pa [] (List.replicate n 0) [] aw (w.alloc (.cells (madeCells #[.int .u64 0] n) 23)) (by rw [List.nil_append, List.append_nil, wf_zeros]; exact row_new _ _) (by rw [LA.out]; simp) (by rw [LA.out]; simp) (Wds.zeros _) WA.out (GA.out.keep hb1 (Nat.le_refl _)) WJ.out (by rw [LA.out]; omega)
    rw [LA.out] at this
    exact this
  have CORE := Lib.hid core
  clear core ha hb wa wb hga hgb hZ h0 hN la lb wj wk
  constructor
  · have e4 : ¬ (0 : Int) < -(kn : Int) := by omega
    go_enter Tryz.func151, Tryz.ntmps151
    go_wp2_with fail
    refine (CORE.out _ (bl1 _ _) rfl).mono ?_
    rintro e w2 ⟨o1, c1, rfl, h1, h2, h3, h4, h5, h6, _⟩
    rw [LA.out] at h1 h4
    rw [val_zeros] at h4
    rw [List.nil_append, List.append_nil] at h5
    have kb := (bl1 w (.cells (madeCells #[.int .u64 0] n) 23)).grown h6 (by simp) (fun j e => by cases e; exact Nat.le_refl _)
    have H4 := Lib.hid h4
    have KB := Lib.hid kb
    have ht := takeMultiple_any w.heap.size n kn cb n pb [] o1 [] bw w2 (by rw [List.nil_append, List.append_nil]; exact h5) (by rw [LB.out]; simp) (by rw [LB.out]; exact h1) h2 WBB.out (GB.out.keep kb (Nat.le_refl _)) WK.out (by rw [LB.out]; omega)
    rw [LB.out] at ht
    have HT := Lib.hid ht
    clear ht h1 h2 h3 h4 h5 h6 kb
    go_wp2_with fail
    refine HT.out.mono ?_
    rintro e w3 ⟨o2, c2, rfl, h1, h2, h3, h4, h5, h6, _⟩
    rw [LB.out] at h1 h4
    rw [List.nil_append, List.append_nil] at h5
    have hz := combine_val (N := WB ^ n) HZ.out H0.out HNN.out (by have := val_lt o2 h2; rw [h1] at this; exact this) H4.out h4
    have K3 := Lib.hid (KB.out.grown h6 KB.out.size (fun j e => by cases e; exact Nat.le_refl _))
    have hsl := Sl.of_row (cap := n) h5 h1 h2 (by omega) (Nat.le_refl _)
    have HSL := Lib.hid hsl
    have HZV := Lib.hid hz
    have HW := Lib.hid h2
    clear h1 h2 h3 h4 h5 h6 hz hsl
    go_wp2_with (go_at_call 143; refine (trim_any _ _ _ HSL.out).mono ?_; rintro e w' ⟨rfl, v', rfl, hv'⟩)
    go_ret
    exact ⟨K3.out, _, o2, rfl, hv', HW.out, HZV.out⟩
  · intro hjp
    have e4 : (0 : Int) < (jn : Int) := by omega
    clear hjp
    go_enter Tryz.func151, Tryz.ntmps151
    go_wp2_with fail
    refine (CORE.out _ (bl1 _ _) rfl).mono ?_
    rintro e w2 ⟨o1, c1, rfl, h1, h2, h3, h4, h5, h6, _⟩
    rw [LA.out] at h1 h4
    rw [val_zeros] at h4
    rw [List.nil_append, List.append_nil] at h5
    have kb := (bl1 w (.cells (madeCells #[.int .u64 0] n) 23)).grown h6 (by simp) (fun j e => by cases e; exact Nat.le_refl _)
    have H4 := Lib.hid h4
    have KB := Lib.hid kb
    have ht := takeMultiple_any w.heap.size n kn cb n pb [] o1 [] bw w2 (by rw [List.nil_append, List.append_nil]; exact h5) (by rw [LB.out]; simp) (by rw [LB.out]; exact h1) h2 WBB.out (GB.out.keep kb (Nat.le_refl _)) WK.out (by rw [LB.out]; omega)
    rw [LB.out] at ht
    have HT := Lib.hid ht
    clear ht h1 h2 h3 h4 h5 h6 kb
    go_wp2_with fail
    refine HT.out.mono ?_
    rintro e w3 ⟨o2, c2, rfl, h1, h2, h3, h4, h5, h6, _⟩
    rw [LB.out] at h1 h4
    rw [List.nil_append, List.append_nil] at h5
    have hz := combine_val (N := WB ^ n) HZ.out H0.out HNN.out (by have := val_lt o2 h2; rw [h1] at this; exact this) H4.out h4
    have K3 := Lib.hid (KB.out.grown h6 KB.out.size (fun j e => by cases e; exact Nat.le_refl _))
    have hsl := Sl.of_row (cap := n) h5 h1 h2 (by omega) (Nat.le_refl _)
    have HSL := Lib.hid hsl
    have HZV := Lib.hid hz
    have HW := Lib.hid h2
    clear h1 h2 h3 h4 h5 h6 hz hsl
    go_wp2_with (go_at_call 143; refine (trim_any _ _ _ HSL.out).mono ?_; rintro e w' ⟨rfl, v', rfl, hv'⟩)
    go_ret
    exact ⟨K3.out, _, o2, rfl, hv', HW.out, HZV.out⟩
end Go.Proofs.YtjjomjjgoceklaaGreat
namespace Go.Proofs.YtjjomjjgoceklaaGreat
set_option maxRecDepth 100000
open Go.RowKit

theorem cf151 : CF 151 := fun W args => by go_simp
theorem combine_any (px py : Option Addr) (cx cy n : Nat) (xs ys : List Nat) (j k : Int) (w : World) (ha : Sl w (.slice px n cx) xs) (hb : Sl w (.slice py n cy) ys) (la : xs.length = n) (lb : ys.length = n) (hn : n ≤ 4000) (hs : (0 ≤ j ∧ k ≤ 0) ∨ (j ≤ 0 ∧ 0 ≤ k)) (hj : -Mx ≤ j ∧ j ≤ Mx) (hk : -Mx ≤ k ∧ k ≤ Mx) (hx : 0 < val xs) (h0 : 0 ≤ j * val xs + k * val ys) (hN : j * val xs + k * val ys < (WB ^ n : Nat)) :
    Calls Tryz.prog 151 #[.slice px n cx, .slice py n cy, .int .i64 j, .int .i64 k] w (PCo (j * val xs + k * val ys) w) := by
  have case1 : 0 ≤ j → k ≤ 0 → Calls Tryz.prog 151 #[.slice px n cx, .slice py n cy, .int .i64 j, .int .i64 k] w (PCo (j * val xs + k * val ys) w) := by
    intro h1 h2
    have := (combine_pos px py cx cy n j.toNat (-k).toNat xs ys w ha hb la lb hn (by omega) (by omega) (j * val xs + k * val ys) (by rw [Int.toNat_of_nonneg h1, Int.toNat_of_nonneg (by omega : 0 ≤ -k), Int.neg_mul]; omega) h0 hN).1
    rw [Int.toNat_of_nonneg h1, Int.toNat_of_nonneg (by omega : 0 ≤ -k), Int.neg_neg] at this
    exact this
  rcases hs with ⟨h1, h2⟩ | ⟨h1, h2⟩
  · exact case1 h1 h2
  · by_cases hk0 : k = 0
    · by_cases hj0 : j = 0
      · exact case1 (by omega) (by omega)
      · exfalso
        rw [hk0, Int.zero_mul, Int.add_zero] at h0
        have : j * (val xs : Int) < 0 := Int.mul_neg_of_neg_of_pos (by omega) (by omega)
        omega
    · have := (combine_pos py px cy cx n k.toNat (-j).toNat ys xs w hb ha lb la hn (by omega) (by omega) (j * val xs + k * val ys) (by rw [Int.toNat_of_nonneg h2, Int.toNat_of_nonneg (by omega : 0 ≤ -j), Int.neg_mul]; omega) h0 hN).2 (by omega)
      rw [Int.toNat_of_nonneg h2, Int.toNat_of_nonneg (by omega : 0 ≤ -j), Int.neg_neg] at this
      exact this
section
variable {ρ : Operand → Value} {o : Oper} {w : World} {t : Operand} {b : Nat}
theorem rn_field118_0 (ho : o.op = .fieldAddr 162 t 0) (he : ρ t = .pointer (some ⟨b, 0, none⟩)) : (execOp ρ o).run Tryz.prog w = .ok (.value (.pointer (some ⟨b, 0, none⟩))) w := by
  unfold execOp; rw [ho]; simp [go_sem, he]
theorem rn_field118_1 (ho : o.op = .fieldAddr 162 t 1) (he : ρ t = .pointer (some ⟨b, 0, none⟩)) : (execOp ρ o).run Tryz.prog w = .ok (.value (.pointer (some ⟨b, 1, none⟩))) w := by
  unfold execOp; rw [ho]; simp [go_sem, he]
theorem rn_field118_2 (ho : o.op = .fieldAddr 162 t 2) (he : ρ t = .pointer (some ⟨b, 0, none⟩)) : (execOp ρ o).run Tryz.prog w = .ok (.value (.pointer (some ⟨b, 2, none⟩))) w := by
  unfold execOp; rw [ho]; simp [go_sem, he]
theorem rn_field118_3 (ho : o.op = .fieldAddr 162 t 3) (he : ρ t = .pointer (some ⟨b, 0, none⟩)) : (execOp ρ o).run Tryz.prog w = .ok (.value (.pointer (some ⟨b, 3, none⟩))) w := by
  unfold execOp; rw [ho]; simp [go_sem, he]
theorem rn_call4 {n : FuncId} {x1 x2 x3 x4 : Operand} {ts : Array TypeId} (ho : o.op = .call { callee := .value (.func n), args := #[x1, x2, x3, x4], argTypes := ts }) (hf : ρ (.func n) = .func (.func n) #[] #[]) (hcf : CF n) : (execOp ρ o).run Tryz.prog w = .ok (.enter n #[ρ x1, ρ x2, ρ x3, ρ x4]) w := by
  unfold execOp; rw [ho]; simp [go_sem, resolve, hf, invoke, hcf w]
end
/-- words of value x, without a zero at the end -/
def kNr (x : Nat) : Kd := .c (fun v w => ∃ us : List Nat, Sl w v us ∧ Nrm us ∧ val us = x) fun _ _ _ ⟨us, h, e⟩ hb => ⟨us, h.keep hb (Nat.le_refl _), e⟩
def D87 (t : Nat) : Bool := Nat.beq t 0 || Nat.beq t 1 || (Nat.ble 39 t && Nat.ble t 52)
def tab87 (av pv : Value) (T : Nat) (A B C D : Int) (a1 b1 : Nat) (d : Nat) : Kd := if d = 0 then kNr a1 else if d = 1 then kNr b1 else
  [.v av, .v pv, .v (.pointer (some ⟨T, 0, none⟩)), .v (.int .i64 A), .v (.pointer (some ⟨T, 1, none⟩)), .v (.int .i64 B), kNr a1, .v av, .v pv, .v (.pointer (some ⟨T, 2, none⟩)), .v (.int .i64 C), .v (.pointer (some ⟨T, 3, none⟩)), .v (.int .i64 D), kNr b1].getD (d - 39) .any
/-- words copied to the front of a new row of zeros -/
theorem copy_row {w : World} {g n m : Nat} {ys : List Nat} (hg : w.heap[g]? = some (.cells (madeCells #[.int .u64 0] n) 23 (0, 0))) (hl : ys.length = m) (hm : m ≤ n) :
    (w.setRow g ((madeCells #[.int .u64 0] n).toList.take 0 ++ (wv ys ++ (madeCells #[.int .u64 0] n).toList.drop (0 + (wv ys).length))).toArray).rowIs g 23 n (wf (ys ++ List.replicate (n - m) 0)) := by
  refine ⟨_, setRow_heap w g _ _ 23 _ hg, ?_, fun i hi => ?_⟩
  · simp [wv, size_madeCells, hl]; omega
  · simp only [List.take_zero, List.nil_append, List.getElem?_toArray]
    unfold wf
    rcases Nat.lt_or_ge i m with h | h
    · rw [List.getElem?_append_left (by simp [wv]; omega), List.getD_eq_getElem?_getD, List.getElem?_append_left (by omega)]
      simp [wv, h, hl]
    · rw [List.getElem?_append_right (by simp [wv]; omega), List.getD_eq_getElem?_getD, List.getElem?_append_right (by omega)]
      simp only [wv, List.length_map, List.getElem?_drop]
      rw [show 0 + ys.length + (i - ys.length) = i by omega]
      have h2 : i - ys.length < n - m := by omega
      simp [madeCells, hi, Nat.mod_one, h2]
theorem gcd_swap_mod (a b : Nat) : Nat.gcd b (a % b) = Nat.gcd a b := by rw [Nat.gcd_comm b, ← Nat.gcd_rec, Nat.gcd_comm]
def PCd (g : Nat) (w : World) (e : Ending) (w' : World) : Prop := Below w.heap.size w w' ∧ ∃ (v : Value) (us : List Nat), e = .returned v ∧ Sl w' v us ∧ Nrm us ∧ val us = g
/-- where the two numbers stand, the greater first -/
structure Cd (w0 : World) (G : Nat) (xs ys : List Nat) (av bv : Value) (w : World) : Prop where
  k : Below w0.heap.size w0 w
  a : Sl w av xs
  b : Sl w bv ys
  na : Nrm xs
  nb : Nrm ys
  le : val ys ≤ val xs
  g : Nat.gcd (val xs) (val ys) = G
  la : xs.length ≤ 1000
set_option maxRecDepth 100000 in
set_option maxHeartbeats 1600000 in
theorem commonDivisor_le (va vb : Value) (xs0 ys0 : List Nat) (w : World) (ha : Sl w va xs0) (hb : Sl w vb ys0) (na : Nrm xs0) (nb : Nrm ys0) (la : xs0.length ≤ 1000) (lb : ys0.length ≤ 1000) : Calls Tryz.prog 132 #[va, vb] w (PCd (Nat.gcd (val xs0) (val ys0)) w) := by
  obtain ⟨G, hG⟩ : ∃ G, G = Nat.gcd (val xs0) (val ys0) := ⟨_, rfl⟩
  have key : ∀ (av bv : Value) (xs ys : List Nat) (w1 : World), Below w.heap.size w w1 → val ys ≤ val xs → (av = va ∧ bv = vb ∧ xs = xs0 ∧ ys = ys0) ∨ (av = vb ∧ bv = va ∧ xs = ys0 ∧ ys = xs0) → Cd w G xs ys av bv w1 := by
    rintro av bv xs ys w1 hb1 hle (⟨rfl, rfl, rfl, rfl⟩ | ⟨rfl, rfl, rfl, rfl⟩)
    · exact ⟨hb1, ha.keep hb1 (Nat.le_refl _), hb.keep hb1 (Nat.le_refl _), na, nb, hle, hG.symm, la⟩
    · exact ⟨hb1, hb.keep hb1 (Nat.le_refl _), ha.keep hb1 (Nat.le_refl _), nb, na, hle, by rw [Nat.gcd_comm]; exact hG.symm, lb⟩
  have KEY := Lib.hid key
  have HA := Lib.hid ha; have HB := Lib.hid hb; have NA := Lib.hid na; have NB := Lib.hid nb
  obtain ⟨pa, ca, rfl, _⟩ := ha.opened
  obtain ⟨pb, cb, rfl, _⟩ := hb.opened
  rw [← hG]
  have HG := Lib.hid hG
  have LA := Lib.hid la; have LB := Lib.hid lb
  clear hG key ha hb na nb la lb
  go_enter Tryz.func132, Tryz.ntmps132
  go_wp2_with fail
  refine (compareWords_any _ _ xs0 ys0 _ HA.out HB.out NA.out NB.out).mono ?_
  rintro e w1 ⟨hb1, rfl⟩
  have HB1 := Lib.hid hb1
  clear hb1
  obtain ⟨cz, hcz⟩ : ∃ cz, cz = cmpN (val xs0) (val ys0) := ⟨_, rfl⟩
  rw [← hcz]
  have HCZ := Lib.hid hcz
  clear hcz
  go_upto_if 14 with fail
  go_cut [0, 1] (fun v0 v1 wc => ∃ xs ys : List Nat, Cd w G xs ys v0 v1 wc)
  case first =>
    by_cases hlt : val xs0 < val ys0
    · have CD1 := Lib.hid (KEY.out _ _ _ _ _ HB1.out (Nat.le_of_lt hlt) (.inr ⟨rfl, rfl, rfl, rfl⟩))
      have hz : cz < 0 := by rw [HCZ.out, cmpN_lt hlt]; decide
      clear hlt KEY
      go_wp2
      go_meet
      case rel => exact ⟨_, _, CD1.out⟩
    · have CD1 := Lib.hid (KEY.out _ _ _ _ _ HB1.out (by omega) (.inl ⟨rfl, rfl, rfl, rfl⟩))
      have hz : ¬ cz < 0 := by
        rw [HCZ.out]
        rcases Nat.lt_or_ge (val ys0) (val xs0) with h | h
        · rw [cmpN_gt h]; decide
        · rw [cmpN_eq (by omega)]; decide
      clear hlt KEY
      go_wp2
      go_meet
      case rel => exact ⟨_, _, CD1.out⟩
  case rest =>
    obtain ⟨xs1, ys1, CD1⟩ := hcut
    have CD1 := Lib.hid CD1
    clear KEY HG HCZ HB1
    go_wp2
    go_loopg [0, 1] (val ys1) (fun gy av bv wr => ∃ xs ys : List Nat, Hid (Cd w G xs ys av bv wr) ∧ Hid (gy = val ys))
    case atStart => exact ⟨xs1, ys1, CD1.out, rfl⟩
    case round =>
      obtain ⟨xs, ys, HC, HGY⟩ := hrel
      obtain ⟨pa, ca, rfl, _⟩ := HC.out.a.opened
      obtain ⟨pb, cb, rfl, hgb⟩ := HC.out.b.opened
      obtain ⟨n, hn⟩ : ∃ n, n = xs.length := ⟨_, rfl⟩
      obtain ⟨m, hm⟩ : ∃ m, m = ys.length := ⟨_, rfl⟩
      have hla := HC.out.la
      have hmn : m ≤ n := by
        rw [hm, hn]
        exact nrm_len HC.out.nb rfl (Nat.lt_of_le_of_lt HC.out.le (val_lt _ HC.out.a.1))
      have HNX := Lib.hid hn; have HMY := Lib.hid hm
      rw [← hn] at hla ⊢
      rw [← hm] at hgb ⊢
      have HGB := Lib.hid hgb.2
      clear hn hm hgb
      by_cases hlen : 1 < m
      · have hlen' : (1 : Int) < (m : Int) := by omega
        have HA1 := HC.out.a
        have HB1 := HC.out.b
        rw [← HNX.out] at HA1
        rw [← HMY.out] at HB1
        have HA1 := Lib.hid HA1; have HB1 := Lib.hid HB1
        have hy0 : 0 < val ys := by
          have := val_ge ys HC.out.nb (by intro e; rw [e] at HMY; have := HMY.out; simp at this; omega)
          exact Nat.lt_of_lt_of_le (Nat.pow_pos WB_pos) this
        have HY0 := Lib.hid hy0
        have HX0 : Hid (0 < val xs) := Nat.lt_of_lt_of_le hy0 HC.out.le
        clear hy0
        go_wp2_with fail
        refine (foresee_any _ _ xs ys _ HA1.out HB1.out HC.out.na (by have := HNX.out; omega) (by have := HNX.out; omega) (by have := HNX.out; have := HMY.out; omega) HC.out.le).mono ?_
        rintro e w2 ⟨hb2, A, B, C, D, x, y, x0, y0, ε, rfl, HL⟩
        have HL := Lib.hid HL
        have HB2 := Lib.hid hb2
        have hb2s := hb2.size
        clear hb2
        go_wp2_with fail
        refine (untaken_any A B C D _).mono ?_
        rintro e w3 ⟨hb3, rfl⟩
        have S3 : Sb w2.heap.size A B C D w3 := (show Sb w2.heap.size A B C D (w2.alloc (.cells #[.int .i64 A, .int .i64 B, .int .i64 C, .int .i64 D] 162)) from Go.Deep.blk_alloc_new _ _).keep hb3
        have K3 := Lib.hid (Below.thru (Below.thru HB2.out HB2.out.size (bl1 _ _)) (by simp; omega) hb3)
        have hb3s := hb3.size
        simp only [World.size_alloc] at hb3s
        have S3 := Lib.hid S3
        clear hb3
        by_cases hB : B = 0
        · have hB' : (B == 0) = true := by simpa using hB
          clear hB
          rw [hB']
          go_wp2_with fail
          refine (divideWords_any _ _ xs ys _ (HA1.out.keep K3.out (Nat.le_refl _)) (HB1.out.keep K3.out (Nat.le_refl _)) HC.out.na HC.out.nb (by have := HNX.out; omega) (by have := HMY.out; omega)).mono ?_
          rintro e w4 ⟨hb4, qv, rv, qs, rs, rfl, _, _, _, hr1, hr2, hr3⟩
          have HR1 := Lib.hid hr1; have HR2 := Lib.hid hr2; have HR3 := Lib.hid hr3
          have K4 := Lib.hid (Below.thru K3.out K3.out.size hb4)
          have hbB : Hid (Sl w4 (.slice pb m cb) ys) := HB1.out.keep K4.out (Nat.le_refl _)
          clear hb4 hr1 hr2 hr3
          go_wp2
          go_roundg (val rs)
          case measure => rw [HR3.out, HGY.out]; exact Nat.mod_lt _ HY0.out
          case rel =>
            refine ⟨ys, rs, ⟨Below.thru HC.out.k HC.out.k.size K4.out, ?_, HR1.out, HC.out.nb, HR2.out, ?_, ?_, ?_⟩, rfl⟩
            · have := hbB.out; exact this
            · rw [HR3.out]; exact Nat.le_of_lt (Nat.mod_lt _ HY0.out)
            · rw [HR3.out, gcd_swap_mod]; exact HC.out.g
            · have := HMY.out; omega
        · have hB' : (B == 0) = false := by simpa using hB
          have hfin : 0 ≤ C * (val xs : Int) + D * (val ys : Int) ∧ C * (val xs : Int) + D * (val ys : Int) < A * (val xs : Int) + B * (val ys : Int) ∧ A * (val xs : Int) + B * (val ys : Int) ≤ (val ys : Int) := by
            rcases HL.out.fin with h | h
            · exact absurd h.2.1 hB
            · exact h.2
          rw [hB']
          clear hB
          have SGA := Lib.hid (sgn_opp HL.out.he HL.out.sa HL.out.sb)
          have SGB := Lib.hid ((sgn_opp (e := ε) (P := D) (Q := C) HL.out.he (by have := HL.out.sd; omega) HL.out.sc).elim (fun h => Or.inr ⟨h.2, h.1⟩) (fun h => Or.inl ⟨h.2, h.1⟩) : (0 ≤ C ∧ D ≤ 0) ∨ (C ≤ 0 ∧ 0 ≤ D))
          have BA := Lib.hid HL.out.aM; have BB := Lib.hid HL.out.bM; have BC := Lib.hid HL.out.cM; have BD := Lib.hid HL.out.dM
          obtain ⟨a1, ha1⟩ : ∃ a1 : Nat, (a1 : Int) = A * (val xs : Int) + B * (val ys : Int) := ⟨(A * (val xs : Int) + B * (val ys : Int)).toNat, by omega⟩
          obtain ⟨b1, hb1⟩ : ∃ b1 : Nat, (b1 : Int) = C * (val xs : Int) + D * (val ys : Int) := ⟨(C * (val xs : Int) + D * (val ys : Int)).toNat, by omega⟩
          have hltm : val ys < WB ^ m := by have := val_lt ys HC.out.b.1; rw [← HMY.out] at this; exact this
          have hltn : val ys < WB ^ n := Nat.lt_of_lt_of_le hltm (Nat.pow_le_pow_right WB_pos hmn)
          have HLM := Lib.hid hltm
          have PA0 : Hid (0 ≤ A * (val xs : Int) + B * (val ys : Int)) := by show _ ≤ _; omega
          have PAN : Hid (A * (val xs : Int) + B * (val ys : Int) < ((WB ^ n : Nat) : Int)) := by show _ < _; omega
          have PB0 : Hid (0 ≤ C * (val xs : Int) + D * (val ys : Int)) := by show _ ≤ _; omega
          have PBN : Hid (C * (val xs : Int) + D * (val ys : Int) < ((WB ^ n : Nat) : Int)) := by show _ < _; omega
          have PAE := Lib.hid ha1; have PBE := Lib.hid hb1
          have ORD : Hid (b1 < a1 ∧ a1 ≤ val ys) := by show _ ∧ _; omega
          have GCD : Hid (Nat.gcd a1 b1 = G) := by
            have h := gcd_det (a := (val xs : Int)) (b := (val ys : Int)) HL.out.he HL.out.det
            rw [← ha1, ← hb1, Int.gcd_natCast_natCast, Int.gcd_natCast_natCast] at h
            show _ = _
            rw [h]; exact HC.out.g
          have VP : Hid (val (ys ++ List.replicate (n - m) 0) = val ys) := by show _ = _; rw [val_append, val_zeros, Nat.mul_zero, Nat.add_zero]
          have WP : Hid (Wds (ys ++ List.replicate (n - m) 0)) := by
            intro x hx
            rcases List.mem_append.1 hx with hx | hx
            · exact HC.out.b.1 x hx
            · exact Wds.zeros _ x hx
          have hmk := mk_words n (by omega)
          obtain ⟨b0, o0, hpb, hb0, _⟩ := HGB.out 0 (by have := HMY.out; omega)
          subst hpb
          have SRC : Hid (∀ W, Below wr.heap.size wr W → ∀ j v, (wv ys)[j]? = some v → W.cell? (Addr.add ⟨b0, o0, none⟩ j) = some v) := by
            intro W hW j v hj
            have hjl : j < ys.length := by
              have := (List.getElem?_eq_some_iff.1 hj).1
              simpa [wv] using this
            obtain ⟨b', o', he, hb', hc'⟩ := HGB.out j (by rw [HMY.out]; exact hjl)
            simp only [Option.some.injEq, Addr.mk.injEq, and_true] at he
            obtain ⟨rfl, rfl⟩ := he
            have : (Addr.add ⟨b0, o0, none⟩ j) = ⟨b0, o0 + j, none⟩ := by simp [Addr.add]
            rw [this, hW.cell (p := ⟨b0, o0 + j, none⟩) hb', hc']
            simp [wv, hjl] at hj
            rw [← hj]
            simp [List.getD_eq_getElem?_getD, hjl]
          clear hfin ha1 hb1 hltm hltn
          go_upto_region 9 with fail
          generalize hW : World.alloc w3 _ = W
          have BLK : Hid (W.heap[w3.heap.size]? = some (.cells (madeCells #[.int .u64 0] n) 23 (0, 0))) := by show _ = _; rw [← hW]; exact Go.Deep.blk_alloc_new _ _
          have KR4 := Lib.hid (show Below wr.heap.size wr W by rw [← hW]; exact Below.thru K3.out K3.out.size (bl1 _ _))
          have S4 := Lib.hid (show Sb w2.heap.size A B C D W by rw [← hW]; exact S3.out.keep (bl1 _ _))
          have hw3 : w3.heap.size < W.heap.size := by rw [← hW]; simp
          have hw23 : w2.heap.size < w3.heap.size := by omega
          clear hW hmk S3 K3
          go_wp2_with (refine wpList_copy_own rfl (.tmp 36) (.tmp 37) 138 138 rfl 23 Tryz.underlying138 (by kernel_rfl) w3.heap.size 0 n n ⟨b0, o0, none⟩ m cb rfl rfl _ 23 BLK.out (wv ys) (by have := HMY.out; simp [wv, Nat.min_eq_left hmn, ← this]) (SRC.out W KR4.out) (by simp [wv, size_madeCells]; have := HMY.out; omega) (by simp [wv, Value.oneCell']) ?_)
          have row5 := copy_row BLK.out HMY.out.symm hmn
          generalize hW5 : World.setRow W _ _ = W5 at *
          have KR5 := Lib.hid (show Below wr.heap.size wr W5 by rw [← hW5]; exact below_setRow KR4.out (by omega) _)
          have g5 : W.grownBy W5 (some w3.heap.size) := by rw [← hW5]; exact ⟨rfl, rfl, rfl, by simp [World.setRow], fun k hk hne => setRow_other W w3.heap.size k _ (fun e => hne (by rw [e]))⟩
          have S5 := Lib.hid (S4.out.other g5 (by omega))
          have HA5 := Lib.hid (HA1.out.keep KR5.out (Nat.le_refl _))
          have HP5 := Lib.hid (Sl.of_row (cap := n) row5 (by rw [List.length_append, List.length_replicate]; have := HMY.out; omega) WP.out (by omega) (Nat.le_refl _))
          clear hW5 row5 g5 S4 KR4 BLK SRC
          go_upto_region 10 with fail
          focus
            refine wp_region_kdo D87 (tab87 (.slice pa n ca) (.slice (some ⟨w3.heap.size, 0, none⟩) n n) w2.heap.size A B C D a1 b1) (fun w' => Below wr.heap.size wr w' ∧ Sl w' (.slice pa n ca) xs ∧ Sl w' (.slice (some ⟨w3.heap.size, 0, none⟩) n n) (ys ++ List.replicate (n - m) 0) ∧ Sb w2.heap.size A B C D w') (by kernel_rfl) (by kernel_rfl) (by kernel_rfl) (by kernel_rfl) (fun _ _ h hb => ⟨Below.thru h.1 h.1.size hb, h.2.1.keep hb (Nat.le_refl _), h.2.2.1.keep hb (Nat.le_refl _), h.2.2.2.keep hb⟩) ⟨KR5.out.drew, HA5.out.keep (Below.refl _ _).drew (Nat.le_refl _), HP5.out.keep (Below.refl _ _).drew (Nat.le_refl _), S5.out.keep (Below.refl _ _).drew⟩ ?_ ?_
            ·   refine .cons (fun f w' hI hs ho => ⟨wanted_none rfl, _, rfl, .val (rn_move rfl) ⟨Below.refl _ _, (fr_own rfl rfl).trans (ho 0 (by kernel_rfl))⟩⟩) ?_
                refine .cons (fun f w' hI hs ho => ⟨wanted_none rfl, _, rfl, .val (rn_move rfl) ⟨Below.refl _ _, fr_old rfl rfl⟩⟩) ?_
                refine .cons (fun f w' hI hs ho => ⟨wanted_none rfl, _, rfl, .val (rn_field118_0 rfl (fr_old rfl rfl)) ⟨Below.refl _ _, rfl⟩⟩) ?_
                refine .cons (fun f w' hI hs ho => ⟨wanted_none rfl, _, rfl, .val (rn_loadI rfl ((fr_own rfl rfl).trans (hs 41 (by kernel_rfl))) hI.2.2.2.cells.1) ⟨Below.refl _ _, rfl⟩⟩) ?_
                refine .cons (fun f w' hI hs ho => ⟨wanted_none rfl, _, rfl, .val (rn_field118_1 rfl (fr_old rfl rfl)) ⟨Below.refl _ _, rfl⟩⟩) ?_
                refine .cons (fun f w' hI hs ho => ⟨wanted_none rfl, _, rfl, .val (rn_loadI rfl ((fr_own rfl rfl).trans (hs 43 (by kernel_rfl))) hI.2.2.2.cells.2.1) ⟨Below.refl _ _, rfl⟩⟩) ?_
                refine .cons (fun f w' hI hs ho => ⟨wanted_none rfl, _, rfl, ?_⟩) ?_
                · refine .inr (.inr ⟨151, _, rn_call4 rfl rfl cf151, ?_⟩)
                  rw [fr_own (t := 39) rfl rfl, fr_own (t := 40) rfl rfl, fr_own (t := 42) rfl rfl, fr_own (t := 44) rfl rfl]
                  rw [show f 39 = _ from (hs 39 (by kernel_rfl)), show f 40 = _ from (hs 40 (by kernel_rfl)), show f 42 = _ from (hs 42 (by kernel_rfl)), show f 44 = _ from (hs 44 (by kernel_rfl))]
                  have hc := combine_any pa (some ⟨w3.heap.size, 0, none⟩) ca n n xs (ys ++ List.replicate (n - m) 0) A B w' hI.2.1 hI.2.2.1 HNX.out.symm (by rw [List.length_append, List.length_replicate]; have := HMY.out; omega) (by omega) SGA.out BA.out BB.out HX0.out (by rw [VP.out]; exact PA0.out) (by rw [VP.out]; exact PAN.out)
                  rw [VP.out] at hc
                  refine hc.mono ?_
                  rintro e w5 ⟨hb, v', us, rfl, h1, _, h3⟩
                  exact ⟨v', rfl, hb, norm us, h1, norm_nrm _, by rw [val_norm]; have := PAE.out; omega⟩
                refine .cons (fun f w' hI hs ho => ⟨wanted_none rfl, _, rfl, .val (rn_move rfl) ⟨Below.refl _ _, (fr_own rfl rfl).trans (ho 0 (by kernel_rfl))⟩⟩) ?_
                refine .cons (fun f w' hI hs ho => ⟨wanted_none rfl, _, rfl, .val (rn_move rfl) ⟨Below.refl _ _, fr_old rfl rfl⟩⟩) ?_
                refine .cons (fun f w' hI hs ho => ⟨wanted_none rfl, _, rfl, .val (rn_field118_2 rfl (fr_old rfl rfl)) ⟨Below.refl _ _, rfl⟩⟩) ?_
                refine .cons (fun f w' hI hs ho => ⟨wanted_none rfl, _, rfl, .val (rn_loadI rfl ((fr_own rfl rfl).trans (hs 48 (by kernel_rfl))) hI.2.2.2.cells.2.2.1) ⟨Below.refl _ _, rfl⟩⟩) ?_
                refine .cons (fun f w' hI hs ho => ⟨wanted_none rfl, _, rfl, .val (rn_field118_3 rfl (fr_old rfl rfl)) ⟨Below.refl _ _, rfl⟩⟩) ?_
                refine .cons (fun f w' hI hs ho => ⟨wanted_none rfl, _, rfl, .val (rn_loadI rfl ((fr_own rfl rfl).trans (hs 50 (by kernel_rfl))) hI.2.2.2.cells.2.2.2.1) ⟨Below.refl _ _, rfl⟩⟩) ?_
                refine .cons (fun f w' hI hs ho => ⟨wanted_none rfl, _, rfl, ?_⟩) ?_
                · refine .inr (.inr ⟨151, _, rn_call4 rfl rfl cf151, ?_⟩)
                  rw [fr_own (t := 46) rfl rfl, fr_own (t := 47) rfl rfl, fr_own (t := 49) rfl rfl, fr_own (t := 51) rfl rfl]
                  rw [show f 46 = _ from (hs 46 (by kernel_rfl)), show f 47 = _ from (hs 47 (by kernel_rfl)), show f 49 = _ from (hs 49 (by kernel_rfl)), show f 51 = _ from (hs 51 (by kernel_rfl))]
                  have hc := combine_any pa (some ⟨w3.heap.size, 0, none⟩) ca n n xs (ys ++ List.replicate (n - m) 0) C D w' hI.2.1 hI.2.2.1 HNX.out.symm (by rw [List.length_append, List.length_replicate]; have := HMY.out; omega) (by omega) SGB.out BC.out BD.out HX0.out (by rw [VP.out]; exact PB0.out) (by rw [VP.out]; exact PBN.out)
                  rw [VP.out] at hc
                  refine hc.mono ?_
                  rintro e w5 ⟨hb, v', us, rfl, h1, _, h3⟩
                  exact ⟨v', rfl, hb, norm us, h1, norm_nrm _, by rw [val_norm]; have := PBE.out; omega⟩
                refine .cons (fun f w' hI hs ho => ⟨wanted_none rfl, _, rfl, .val (rn_assign rfl) ⟨Below.refl _ _, by have := (hs 45 (by kernel_rfl)); rw [fr_own rfl rfl]; exact this⟩⟩) ?_
                refine .cons (fun f w' hI hs ho => ⟨wanted_none rfl, _, rfl, .val (rn_assign rfl) ⟨Below.refl _ _, by have := (hs 52 (by kernel_rfl)); rw [fr_own rfl rfl]; exact this⟩⟩) ?_
                exact .nil
            · intro f w' hI hk
              obtain ⟨us, h1, h2, h3⟩ : ∃ us : List Nat, Sl w' (f 0) us ∧ Nrm us ∧ val us = a1 := hk 0 (by kernel_rfl)
              obtain ⟨vs, h4, h5, h6⟩ : ∃ us : List Nat, Sl w' (f 1) us ∧ Nrm us ∧ val us = b1 := hk 1 (by kernel_rfl)
              have kf := hI.1
              have REL := Lib.hid (show Cd w G us vs (f 0) (f 1) w' from ⟨Below.thru HC.out.k HC.out.k.size kf, h1, h4, h2, h5, by rw [h3, h6]; exact Nat.le_of_lt ORD.out.1, by rw [h3, h6]; exact GCD.out, Nat.le_trans (nrm_len h2 h3 (Nat.lt_of_le_of_lt ORD.out.2 HLM.out)) (by omega)⟩)
              have H6 := Lib.hid h6
              have MS : Hid (b1 < gk) := by show _ < _; rw [HGY.out]; have := ORD.out; omega
              clear h1 h2 h3 h4 h5 h6 kf hk hI
              go_step
              first | (go_step; go_roundg b1) | (apply_assumption; go_roundg b1)
              case measure => exact MS.out
              case rel => exact ⟨us, vs, REL.out, H6.out.symm⟩
      · have hlen' : ¬ (1 : Int) < (m : Int) := by omega
        have HA1 := HC.out.a
        rw [← HNX.out] at HA1
        have HA1 := Lib.hid HA1
        by_cases hm0 : m = 0
        · subst hm0
          have hy : ys = [] := List.length_eq_zero_iff.1 HMY.out.symm
          have HGx : Hid (val xs = G) := by show _ = _; have := HC.out.g; rw [hy] at this; simpa [val] using this
          have KK := Lib.hid HC.out.k
          have NX := Lib.hid HC.out.na
          clear hy HC
          rw [show ((0 : Nat) : Int) = 0 from rfl] at *
          go_wp2
          go_ret
          exact ⟨KK.out, _, xs, rfl, HA1.out, NX.out, HGx.out⟩
        · have hm1 : m = 1 := by omega
          subst hm1
          obtain ⟨yy, hyy⟩ : ∃ yy, ys = [yy] := by
            have := HMY.out
            match ys, this with
            | [yy], _ => exact ⟨yy, rfl⟩
          subst hyy
          obtain ⟨b0, o0, rfl, hb0, hc0⟩ := HGB.out 0 (by simp)
          have hc0 : wr.cell? ⟨b0, o0, none⟩ = some (.int .u64 (yy : Int)) := by simpa using hc0
          have wy : Wd yy := HC.out.b.1 yy (by simp)
          have hy0 : 0 < yy := by
            have := HC.out.nb
            unfold Nrm at this
            simp at this
            omega
          have WY := Lib.hid wy; have HY0 := Lib.hid hy0
          have HGx : Hid (Nat.gcd (val xs) yy = G) := by show _ = _; have := HC.out.g; simpa [val] using this
          clear wy hy0
          rw [show ((1 : Nat) : Int) = 1 from rfl] at *
          go_wp2_with fail
          refine (divideByWord_any _ xs yy _ HA1.out (by have := HNX.out; omega) WY.out HY0.out).mono ?_
          rintro e w4 ⟨hb4, k, c, qs, r, rfl, _, _, hr, E⟩
          have c4 := (hb4.cell (p := ⟨b0, o0, none⟩) hb0).trans hc0
          have HR : Hid (r = val xs % yy) := (div_uniq' E hr).2
          have WR : Hid (Wd r) := Nat.lt_trans hr WY.out
          have K4 := Lib.hid (Below.thru HC.out.k HC.out.k.size hb4)
          clear hb4 hr E hc0
          go_wp2_with fail
          refine (commonWord_any yy r WY.out WR.out _).mono ?_
          rintro e w5 ⟨hb5, rfl⟩
          have K5 := Lib.hid (Below.thru K4.out K4.out.size hb5)
          have GE : Hid (Nat.gcd yy r = G) := by show _ = _; rw [HR.out, gcd_swap_mod]; exact HGx.out
          have GP : Hid (0 < Nat.gcd yy r) := Nat.gcd_pos_of_pos_left _ HY0.out
          have GW : Hid (Wd (Nat.gcd yy r)) := gcd_wd WY.out WR.out
          generalize Nat.gcd yy r = gg at *
          clear hb5 c4
          go_wp2
          go_ret
          refine ⟨Below.thru K5.out K5.out.size (bl1 _ _), _, [gg], rfl, ⟨?_, by simp, .inr ⟨w5.heap.size, 0, 1, rfl, by simp, by simp, ?_⟩⟩, by have := GP.out; simp [Nrm]; omega, by simp [val, GE.out]⟩
          · intro x hx; simp only [List.mem_singleton] at hx; rw [hx]; exact GW.out
          · intro i hi
            have : i = 0 := by simp at hi; omega
            subst this
            have := cell_alloc_new1 w5 (.int .u64 (gg : Int)) 23
            simp at this ⊢
end Go.Proofs.YtjjomjjgoceklaaGreat
namespace Go.Proofs.YtjjomjjgoceklaaGreat
set_option maxRecDepth 100000
open Go.RowKit

theorem cf122 : CF 122 := fun W args => by go_simp
theorem cf133 : CF 133 := fun W args => by go_simp
theorem cf132 : CF 132 := fun W args => by go_simp
theorem cf148 : CF 148 := fun W args => by go_simp
theorem cf147 : CF 147 := fun W args => by go_simp
/-- box T holds the digits of n -/
def Hd (T n : Nat) (w : World) : Prop := ∃ (x : Int) (p : Option Addr), w.heap[T]? = some (.cells #[.int .u64 x, .pointer p] 26 (0, 0)) ∧ Dg w (.agg #[.int .u64 x, .pointer p]) n
theorem Hd.keep {T n : Nat} {w w' : World} (h : Hd T n w) (hb : Below w.heap.size w w') : Hd T n w' := by
  obtain ⟨x, p, h1, h2⟩ := h
  exact ⟨x, p, blk_keep h1 hb, h2.keep hb (Nat.le_refl _)⟩
theorem Hd.new {w : World} {n : Nat} {x : Int} {p : Option Addr} (h : Dg w (.agg #[.int .u64 x, .pointer p]) n) : Hd w.heap.size n (w.alloc (.cells #[.int .u64 x, .pointer p] 26)) := ⟨x, p, Go.Deep.blk_alloc_new _ _, h.keep (bl1 _ _) (Nat.le_refl _)⟩
theorem Hd.small {T n : Nat} {w : World} (h : Hd T n w) (hn : Wd n) : w.heap[T]? = some (.cells #[.int .u64 (n : Int), .pointer none] 26 (0, 0)) := by
  obtain ⟨x, p, h1, h2⟩ := h
  have := h2.small hn
  simp at this
  obtain ⟨rfl, rfl⟩ := this
  exact h1
section
variable {ρ : Operand → Value} {o : Oper} {w : World} {t : Operand}
theorem rn_load27 {T : Nat} {x : Int} {p : Option Addr} (ho : o.op = .load 26 t) (he : ρ t = .pointer (some ⟨T, 0, none⟩)) (h : w.heap[T]? = some (.cells #[.int .u64 x, .pointer p] 26 (0, 0))) : (execOp ρ o).run Tryz.prog w = .ok (.value (.agg #[.int .u64 x, .pointer p])) w := by
  have h1 : w.cell? ⟨T, 0, none⟩ = some (.int .u64 x) := by simp [World.cell?, h]
  have h2 : w.cell? ⟨T, 1, none⟩ = some (.pointer p) := by simp [World.cell?, h]
  unfold execOp; rw [ho]; simp [go_sem, he, h1, h2]
theorem rn_field27_0 {b : Nat} (ho : o.op = .fieldAddr 26 t 0) (he : ρ t = .pointer (some ⟨b, 0, none⟩)) : (execOp ρ o).run Tryz.prog w = .ok (.value (.pointer (some ⟨b, 0, none⟩))) w := by
  unfold execOp; rw [ho]; simp [go_sem, he]
theorem rn_ext0 {x y : Value} (ho : o.op = .extract t 0) (he : ρ t = .tuple #[x, y]) : (execOp ρ o).run Tryz.prog w = .ok (.value x) w := by
  unfold execOp; rw [ho]; simp [go_sem, he]
theorem rn_ext1 {x y : Value} (ho : o.op = .extract t 1) (he : ρ t = .tuple #[x, y]) : (execOp ρ o).run Tryz.prog w = .ok (.value y) w := by
  unfold execOp; rw [ho]; simp [go_sem, he]
theorem rn_store27 {x : Operand} {T : Nat} {y : Int} {p : Option Addr} (ho : o.op = .store 26 t x) (he : ρ t = .pointer (some ⟨T, 0, none⟩)) (hx : ρ x = .agg #[.int .u64 y, .pointer p]) (h : Rs T w) : (execOp ρ o).run Tryz.prog w = .ok .skip ((w.setCell ⟨T, 0, none⟩ (.int .u64 y)).setCell ⟨T, 1, none⟩ (.pointer p)) := by
  obtain ⟨_, _, h1, h2, h3, h4⟩ := h.cells
  unfold execOp; rw [ho]; simp [go_sem, he, hx, h1, h2, h3, h4]
end
theorem Rs.stored {T : Nat} {w : World} (h : Rs T w) (x : Int) (p : Option Addr) : ((w.setCell ⟨T, 0, none⟩ (.int .u64 x)).setCell ⟨T, 1, none⟩ (.pointer p)).heap[T]? = some (.cells #[.int .u64 x, .pointer p] 26 (0, 0)) := by
  obtain ⟨x0, p0, h⟩ := h
  simp [World.setCell, Array.getElem?_modify, h]
/-- the boxes of over -/
structure S88 (w0 : World) (a d : Nat) (w : World) : Prop where
  k : Below w0.heap.size w0 w
  a : Hd w0.heap.size a w
  d : Hd (w0.heap.size + 1) d w
  r4 : Rs (w0.heap.size + 2) w
  r5 : Rs (w0.heap.size + 3) w
theorem S88.keep {w0 : World} {a d : Nat} {w w' : World} (h : S88 w0 a d w) (hb : Below w.heap.size w w') : S88 w0 a d w' :=
  ⟨Below.thru h.k h.k.size hb, h.a.keep hb, h.d.keep hb, Rs.keep h.r4 hb h.r4.lt, Rs.keep h.r5 hb h.r5.lt⟩
theorem s88_new {w : World} {a d : Nat} {xa xd : Int} {pa pd : Option Addr} (ha : Dg w (.agg #[.int .u64 xa, .pointer pa]) a) (hd : Dg w (.agg #[.int .u64 xd, .pointer pd]) d) :
    S88 w a d ((((w.alloc (.cells #[.int .u64 xa, .pointer pa] 26)).alloc (.cells #[.int .u64 xd, .pointer pd] 26)).alloc (.cells #[.int .u64 0, .pointer none] 26)).alloc (.cells #[.int .u64 0, .pointer none] 26)) := by
  have hd1 := Hd.new (hd.keep (bl1 w (.cells #[.int .u64 xa, .pointer pa] 26)) (Nat.le_refl _))
  rw [World.size_alloc] at hd1
  exact ⟨(bl3 _ _ _ _).alloc (by simp; omega) _, (((Hd.new ha).keep (bl1 _ _)).keep (bl1 _ _)).keep (bl1 _ _), (hd1.keep (bl1 _ _)).keep (bl1 _ _), (rs_new _ (by simp)).alloc _, rs_new _ (by simp)⟩
/-- two words of results -/
def kQR (q r : Nat) : Kd := .c (fun v w => ∃ (qv rv : Value) (qs rs : List Nat), v = .tuple #[qv, rv] ∧ Sl w qv qs ∧ Nrm qs ∧ val qs = q ∧ Sl w rv rs ∧ Nrm rs ∧ val rs = r) fun _ _ _ ⟨qv, rv, qs, rs, h, h1, h2, h3, h4, h5⟩ hb => ⟨qv, rv, qs, rs, h, h1.keep hb (Nat.le_refl _), h2, h3, h4.keep hb (Nat.le_refl _), h5⟩
def kQ1 (q r : Nat) : Kd := .c (fun v w => ∃ (qv : Value) (qs : List Nat), v = .tuple #[qv, .int .u64 (r : Int)] ∧ Sl w qv qs ∧ Nrm qs ∧ val qs = q) fun _ _ _ ⟨qv, qs, h, h1, h2⟩ hb => ⟨qv, qs, h, h1.keep hb (Nat.le_refl _), h2⟩
def D88a (t : Nat) : Bool := Nat.beq t 6 || Nat.beq t 7 || (Nat.ble 30 t && Nat.ble t 37)
def tab88a (T a d : Nat) (t : Nat) : Kd := if t = 6 then kNr (a / d) else if t = 7 then .v (.int .u64 ((a % d : Nat) : Int)) else
  [kQ1 (a / d) (a % d), .g a, kNr a, .v (.pointer (some ⟨T, 0, none⟩)), .v (.int .u64 (d : Int)), kQ1 (a / d) (a % d), kNr (a / d), .v (.int .u64 ((a % d : Nat) : Int))].getD (t - 30) .any
def D88b (t : Nat) : Bool := Nat.beq t 8 || Nat.beq t 9 || (Nat.ble 42 t && Nat.ble t 49)
def tab88b (a d : Nat) (t : Nat) : Kd := if t = 8 then kNr (a / d) else if t = 9 then kNr (a % d) else
  [kQR (a / d) (a % d), .g a, kNr a, .g d, kNr d, kQR (a / d) (a % d), kNr (a / d), kNr (a % d)].getD (t - 42) .any
theorem words_kd {n : Nat} {v : Value} {w : World} (h : Dg w v n) : Calls Tryz.prog 133 #[v] w fun e w' => ∃ v', e = .returned v' ∧ (Below w.heap.size w w' ∧ kd (kNr n) v' w') :=
  (words_any v n w h).mono fun _ _ ⟨hb, v1, ws, he, hs, hn, hv⟩ => ⟨v1, he, hb, ws, hs, hn, hv⟩
/-- the end of over -/
theorem over_fin {w W : World} {a d : Nat} (S : S88 w a d W) {q r : Nat} {xq xr : Int} {pq pr : Option Addr} (hq : Dg W (.agg #[.int .u64 xq, .pointer pq]) q) (hr : Dg W (.agg #[.int .u64 xr, .pointer pr]) r) :
    let W1 := (((W.setCell ⟨w.heap.size + 2, 0, none⟩ (.int .u64 xq)).setCell ⟨w.heap.size + 2, 1, none⟩ (.pointer pq)).setCell ⟨w.heap.size + 3, 0, none⟩ (.int .u64 xr)).setCell ⟨w.heap.size + 3, 1, none⟩ (.pointer pr)
    (W1.cell? ⟨w.heap.size + 2, 0, none⟩ = some (.int .u64 xq) ∧ W1.cell? ⟨w.heap.size + 2, 1, none⟩ = some (.pointer pq) ∧ W1.cell? ⟨w.heap.size + 3, 0, none⟩ = some (.int .u64 xr) ∧ W1.cell? ⟨w.heap.size + 3, 1, none⟩ = some (.pointer pr)) ∧
    Below w.heap.size w W1 ∧ Dg W1 (.agg #[.int .u64 xq, .pointer pq]) q ∧ Dg W1 (.agg #[.int .u64 xr, .pointer pr]) r := by
  intro W1
  have g1 : W.grownBy ((W.setCell ⟨w.heap.size + 2, 0, none⟩ (.int .u64 xq)).setCell ⟨w.heap.size + 2, 1, none⟩ (.pointer pq)) (some (w.heap.size + 2)) := grown2 _ _ _ _ _ _
  have r5' := S.r5.other g1 (by omega)
  have g2 : ((W.setCell ⟨w.heap.size + 2, 0, none⟩ (.int .u64 xq)).setCell ⟨w.heap.size + 2, 1, none⟩ (.pointer pq)).grownBy W1 (some (w.heap.size + 3)) := grown2 _ _ _ _ _ _
  have b4 := blk_other (S.r4.stored xq pq) g2 (show w.heap.size + 2 ≠ w.heap.size + 3 by omega)
  have b5 := r5'.stored xr pr
  refine ⟨⟨by simp [World.cell?, W1] at b4 ⊢; simp [b4], by simp [World.cell?, W1] at b4 ⊢; simp [b4], ?_, ?_⟩, ?_, (hq.store S.r4.odd g1).store r5'.odd g2, (hr.store S.r4.odd g1).store r5'.odd g2⟩
  · show W1.cell? _ = _
    have b5' : W1.heap[w.heap.size + 3]? = _ := b5
    simp [World.cell?, b5']
  · show W1.cell? _ = _
    have b5' : W1.heap[w.heap.size + 3]? = _ := b5
    simp [World.cell?, b5']
  · exact (((S.k.setCell (by simp) _).setCell (by simp) _).setCell (by simp) _).setCell (by simp) _

set_option maxRecDepth 100000 in
set_option maxHeartbeats 1600000 in
theorem over_word (a d : Nat) (sa : Sz a) (hb : WB ≤ a) (hd : Wd d) (hz : d ≠ 0) : OverC a d := by
  intro va vd w h1 h2
  obtain rfl := h2.small hd
  rcases id h1 with ⟨wa, _⟩ | ⟨ba, sva, wsa, rfl, _⟩
  · exfalso; unfold Wd at wa; omega
  have S0 := Lib.hid (s88_new h1 h2)
  have SA := Lib.hid sa
  have WD := Lib.hid hd
  clear h1 h2 sa hd hb
  go_enter Tryz.func130, Tryz.ntmps130
  go_wp2_with (go_at_call 123; first | ((with_reducible refine (isSmall_small _ _).mono ?_); rintro e w1 ⟨rfl, rfl⟩) | ((with_reducible refine (isSmall_big _ _ _).mono ?_); rintro e w1 ⟨rfl, rfl⟩))
  generalize hW : World.alloc _ (Obj.cells #[Value.int IntKind.u64 (d : Int), Value.pointer none] 26) = W
  have S : S88 w a d W := by rw [← hW]; exact S0.out.keep (bl2 _ _ _)
  have S := Lib.hid S
  clear S0 hW
  go_cut [6, 7] (fun v6 v7 wc => ∃ qs : List Nat, Sl wc v6 qs ∧ Nrm qs ∧ val qs = a / d ∧ v7 = .int .u64 ((a % d : Nat) : Int) ∧ S88 w a d wc)
  case first =>
    rename_i J K' hJ hK
    refine wp_region_kd D88a (tab88a (w.heap.size + 1) a d) (S88 w a d) (by kernel_rfl) (by kernel_rfl) (by kernel_rfl) (by kernel_rfl) (fun _ _ h hb => h.keep hb) (S.out.keep (Below.refl _ _).drew) ?_ ?_
    ·
      refine .cons (fun f w' hI hs => ?_) ?_
      · obtain ⟨x, p, h1, h2⟩ := hI.a
        exact ⟨wanted_none rfl, _, rfl, .val (rn_load27 rfl (fr_old rfl rfl) h1) ⟨Below.refl _ _, h2⟩⟩
      refine .cons (fun f w' hI hs => ⟨wanted_none rfl, _, rfl, .call1 rfl cf133 rfl rfl (words_kd (hs 31 (by kernel_rfl)))⟩) ?_
      refine .cons (fun f w' hI hs => ⟨wanted_none rfl, _, rfl, .val (rn_field27_0 rfl (fr_old rfl rfl)) ⟨Below.refl _ _, rfl⟩⟩) ?_
      refine .cons (fun f w' hI hs => ⟨wanted_none rfl, _, rfl, .val (rn_loadW rfl ((fr_own rfl rfl).trans (hs 33 (by kernel_rfl))) (n := (d : Int)) ?_) ⟨Below.refl _ _, rfl⟩⟩) ?_
      · have := hI.d.small WD.out
        simp [World.cell?, this]
      refine .cons (fun f w' hI hs => ⟨wanted_none rfl, _, rfl, .call2 rfl cf147 rfl rfl rfl rfl ?_⟩) ?_
      · obtain ⟨ws, h1, h2, h3⟩ : ∃ us : List Nat, Sl w' (f 32) us ∧ Nrm us ∧ val us = a := (hs 32 (by kernel_rfl))
        rw [show f 34 = _ from (hs 34 (by kernel_rfl))]
        refine (divideByWord_any _ ws d _ h1 (Nat.le_trans (SA.out.len h2 h3) (by omega)) WD.out (by omega)).mono ?_
        rintro e w5 ⟨hb, k, c, qs, r, rfl, hq, _, hr, E⟩
        obtain ⟨e1, e2⟩ := div_uniq' E hr
        rw [h3] at e1 e2
        exact ⟨_, rfl, hb, _, norm qs, by rw [e2], hq, norm_nrm _, by rw [val_norm, e1]⟩
      refine .cons (fun f w' hI hs => ⟨wanted_none rfl, _, rfl, .val (rn_move rfl) ⟨Below.refl _ _, by have := (hs 35 (by kernel_rfl)); rw [fr_own rfl rfl]; exact this⟩⟩) ?_
      refine .cons (fun f w' hI hs => ⟨wanted_none rfl, _, rfl, ?_⟩) ?_
      · obtain ⟨qv, qs, h1, h2⟩ : ∃ (qv : Value) (qs : List Nat), f 30 = .tuple #[qv, .int .u64 ((a % d : Nat) : Int)] ∧ Sl w' qv qs ∧ Nrm qs ∧ val qs = a / d := (hs 30 (by kernel_rfl))
        exact .val (rn_ext0 rfl ((fr_own rfl rfl).trans h1)) ⟨Below.refl _ _, qs, h2⟩
      refine .cons (fun f w' hI hs => ⟨wanted_none rfl, _, rfl, ?_⟩) ?_
      · obtain ⟨qv, qs, h1, h2⟩ : ∃ (qv : Value) (qs : List Nat), f 30 = .tuple #[qv, .int .u64 ((a % d : Nat) : Int)] ∧ Sl w' qv qs ∧ Nrm qs ∧ val qs = a / d := (hs 30 (by kernel_rfl))
        exact .val (rn_ext1 rfl ((fr_own rfl rfl).trans h1)) ⟨Below.refl _ _, rfl⟩
      refine .cons (fun f w' hI hs => ⟨wanted_none rfl, _, rfl, .val (rn_assign rfl) ⟨Below.refl _ _, by have := (hs 36 (by kernel_rfl)); rw [fr_own rfl rfl]; exact this⟩⟩) ?_
      refine .cons (fun f w' hI hs => ⟨wanted_none rfl, _, rfl, .val (rn_assign rfl) ⟨Below.refl _ _, by have := (hs 37 (by kernel_rfl)); rw [fr_own rfl rfl]; exact this⟩⟩) ?_
      exact .nil
    · intro f w' hI hk
      obtain ⟨qs, h1, h2, h3⟩ : ∃ us : List Nat, Sl w' (f 6) us ∧ Nrm us ∧ val us = a / d := hk 6 (by kernel_rfl)
      have h7 : f 7 = .int .u64 ((a % d : Nat) : Int) := hk 7 (by kernel_rfl)
      refine hK _ _ (Met.intro (hJ _ _ ?_))
      (repeat apply Exists.intro)
      refine ⟨?_, rfl⟩
      exact ⟨qs, h1, h2, h3, h7, hI⟩
  case rest =>
    obtain ⟨qs, h1, h2, h3, rfl, S1⟩ := hcut
    obtain ⟨p6, c6, rfl, _⟩ := h1.opened
    have HS := Lib.hid h1; have HN := Lib.hid h2; have HV := Lib.hid h3
    have S1 := Lib.hid S1
    have WR : Hid (Wd (a % d)) := Nat.lt_trans (Nat.mod_lt _ (by omega)) WD.out
    generalize hr : a % d = r at *
    have HR := Lib.hid hr
    clear h1 h2 h3 S hr
    go_wp2_with fail
    refine (digitsOf_any _ qs _ HS.out HN.out).mono ?_
    rintro e w5 ⟨hb5, v5, rfl, hd5⟩
    rw [HV.out] at hd5
    obtain ⟨x5, p5, rfl⟩ := hd5.agg
    have S5 := S1.out.keep hb5
    obtain ⟨⟨g1, g2, g3, g4⟩, g5, g6, g7⟩ := over_fin S5 hd5 (Dg.of_small w5 WR.out)
    obtain ⟨_, _, m1, m2, m3, m4⟩ := S5.r4.cells
    obtain ⟨_, _, n1, n2, n3, n4⟩ := S5.r5.cells
    have G5 := Lib.hid g5; have G6 := Lib.hid g6; have G7 := Lib.hid g7
    clear g5 g6 g7 hd5 S5 hb5 S1
    go_wp2
    exact bodyPost_ret (v := .tuple #[.agg #[.int .u64 x5, .pointer p5], .agg #[.int .u64 (r : Int), .pointer none]]) (by simp [results, Tryz.results130, go_sem, g1, g2, g3, g4]) rfl ⟨G5.out, _, _, rfl, G6.out, G7.out.cast HR.out.symm⟩
set_option maxRecDepth 100000 in
set_option maxHeartbeats 1600000 in
theorem over_words (a d : Nat) (sa : Sz a) (hb : WB ≤ d) : OverC a d := by
  intro va vd w h1 h2
  have S0 : ∀ xa pa xd pd, va = .agg #[.int .u64 xa, .pointer pa] → vd = .agg #[.int .u64 xd, .pointer pd] → Hid (S88 w a d ((((w.alloc (.cells #[.int .u64 xa, .pointer pa] 26)).alloc (.cells #[.int .u64 xd, .pointer pd] 26)).alloc (.cells #[.int .u64 0, .pointer none] 26)).alloc (.cells #[.int .u64 0, .pointer none] 26))) := by
    rintro xa pa xd pd rfl rfl
    exact s88_new h1 h2
  have S0 := Lib.hid S0
  have SA := Lib.hid sa
  have DB := Lib.hid hb
  rcases h2 with ⟨wd, _⟩ | ⟨bd, svd, wsd, rfl, _⟩
  · exfalso; unfold Wd at wd; omega
  rcases h1 with ⟨wa, rfl⟩ | ⟨ba, sva, wsa, rfl, _⟩
  all_goals
    have S0 := S0.out _ _ _ _ rfl rfl
    clear sa hb
    go_enter Tryz.func130, Tryz.ntmps130
    go_wp2_with (go_at_call 123; first | ((with_reducible refine (isSmall_small _ _).mono ?_); rintro e w1 ⟨rfl, rfl⟩) | ((with_reducible refine (isSmall_big _ _ _).mono ?_); rintro e w1 ⟨rfl, rfl⟩))
    generalize hW : World.alloc _ (Obj.cells #[Value.int IntKind.u64 0, Value.pointer (some ⟨bd, 0, none⟩)] 26) = W
    have S : S88 w a d W := by rw [← hW]; first | exact S0.out.keep (bl3 _ _ _ _) | exact S0.out.keep (bl2 _ _ _)
    have S := Lib.hid S
    clear S0 hW
    go_cut [8, 9] (fun v8 v9 wc => ∃ qs rs : List Nat, Sl wc v8 qs ∧ Nrm qs ∧ val qs = a / d ∧ Sl wc v9 rs ∧ Nrm rs ∧ val rs = a % d ∧ S88 w a d wc)
    case first =>
      rename_i J K' hJ hK
      refine wp_region_kd D88b (tab88b a d) (S88 w a d) (by kernel_rfl) (by kernel_rfl) (by kernel_rfl) (by kernel_rfl) (fun _ _ h hb => h.keep hb) (S.out.keep (Below.refl _ _).drew) ?_ ?_
      ·
        refine .cons (fun f w' hI hs => ?_) ?_
        · obtain ⟨x, p, h1, h2⟩ := hI.a
          exact ⟨wanted_none rfl, _, rfl, .val (rn_load27 rfl (fr_old rfl rfl) h1) ⟨Below.refl _ _, h2⟩⟩
        refine .cons (fun f w' hI hs => ⟨wanted_none rfl, _, rfl, .call1 rfl cf133 rfl rfl (words_kd (hs 43 (by kernel_rfl)))⟩) ?_
        refine .cons (fun f w' hI hs => ?_) ?_
        · obtain ⟨x, p, h1, h2⟩ := hI.d
          exact ⟨wanted_none rfl, _, rfl, .val (rn_load27 rfl (fr_old rfl rfl) h1) ⟨Below.refl _ _, h2⟩⟩
        refine .cons (fun f w' hI hs => ⟨wanted_none rfl, _, rfl, .call1 rfl cf133 rfl rfl (words_kd (hs 45 (by kernel_rfl)))⟩) ?_
        refine .cons (fun f w' hI hs => ⟨wanted_none rfl, _, rfl, .call2 rfl cf148 rfl rfl rfl rfl ?_⟩) ?_
        · obtain ⟨ws, h1, h2, h3⟩ : ∃ us : List Nat, Sl w' (f 44) us ∧ Nrm us ∧ val us = a := (hs 44 (by kernel_rfl))
          obtain ⟨us, h4, h5, h6⟩ : ∃ us : List Nat, Sl w' (f 46) us ∧ Nrm us ∧ val us = d := (hs 46 (by kernel_rfl))
          refine (divideWords_any _ _ ws us _ h1 h4 h2 h5 (Nat.le_trans (SA.out.len h2 h3) (by omega)) ?_).mono ?_
          · rcases Nat.lt_or_ge us.length 2 with h | h
            · exfalso
              have hv := val_lt us h4.1
              have hp : WB ^ us.length ≤ WB ^ 1 := Nat.pow_le_pow_right WB_pos (by omega)
              rw [Nat.pow_one] at hp
              have := DB.out
              omega
            · exact h
          · rintro e w5 ⟨hb, qv, rv, qs, rs, rfl, k1, k2, k3, k4, k5, k6⟩
            rw [h3, h6] at k3 k6
            exact ⟨_, rfl, hb, qv, rv, qs, rs, rfl, k1, k2, k3, k4, k5, k6⟩
        refine .cons (fun f w' hI hs => ⟨wanted_none rfl, _, rfl, .val (rn_move rfl) ⟨Below.refl _ _, by have := (hs 47 (by kernel_rfl)); rw [fr_own rfl rfl]; exact this⟩⟩) ?_
        refine .cons (fun f w' hI hs => ⟨wanted_none rfl, _, rfl, ?_⟩) ?_
        · obtain ⟨qv, rv, qs, rs, h, h1, h2, h3, h4, h5, h6⟩ : ∃ (qv rv : Value) (qs rs : List Nat), f 42 = .tuple #[qv, rv] ∧ Sl w' qv qs ∧ Nrm qs ∧ val qs = a / d ∧ Sl w' rv rs ∧ Nrm rs ∧ val rs = a % d := (hs 42 (by kernel_rfl))
          exact .val (rn_ext0 rfl ((fr_own rfl rfl).trans h)) ⟨Below.refl _ _, qs, h1, h2, h3⟩
        refine .cons (fun f w' hI hs => ⟨wanted_none rfl, _, rfl, ?_⟩) ?_
        · obtain ⟨qv, rv, qs, rs, h, h1, h2, h3, h4, h5, h6⟩ : ∃ (qv rv : Value) (qs rs : List Nat), f 42 = .tuple #[qv, rv] ∧ Sl w' qv qs ∧ Nrm qs ∧ val qs = a / d ∧ Sl w' rv rs ∧ Nrm rs ∧ val rs = a % d := (hs 42 (by kernel_rfl))
          exact .val (rn_ext1 rfl ((fr_own rfl rfl).trans h)) ⟨Below.refl _ _, rs, h4, h5, h6⟩
        refine .cons (fun f w' hI hs => ⟨wanted_none rfl, _, rfl, .val (rn_assign rfl) ⟨Below.refl _ _, by have := (hs 48 (by kernel_rfl)); rw [fr_own rfl rfl]; exact this⟩⟩) ?_
        refine .cons (fun f w' hI hs => ⟨wanted_none rfl, _, rfl, .val (rn_assign rfl) ⟨Below.refl _ _, by have := (hs 49 (by kernel_rfl)); rw [fr_own rfl rfl]; exact this⟩⟩) ?_
        exact .nil
      · intro f w' hI hk
        obtain ⟨qs, h1, h2, h3⟩ : ∃ us : List Nat, Sl w' (f 8) us ∧ Nrm us ∧ val us = a / d := hk 8 (by kernel_rfl)
        obtain ⟨rs, h4, h5, h6⟩ : ∃ us : List Nat, Sl w' (f 9) us ∧ Nrm us ∧ val us = a % d := hk 9 (by kernel_rfl)
        refine hK _ _ (Met.intro (hJ _ _ ?_))
        (repeat apply Exists.intro)
        refine ⟨?_, rfl⟩
        exact ⟨qs, rs, h1, h2, h3, h4, h5, h6, hI⟩
    case rest =>
      obtain ⟨qs, rs, h1, h2, h3, h4, h5, h6, S1⟩ := hcut
      obtain ⟨p6, c6, rfl, _⟩ := h1.opened
      obtain ⟨p7, c7, rfl, _⟩ := h4.opened
      have HS := Lib.hid h1; have HN := Lib.hid h2; have HV := Lib.hid h3
      have HS2 := Lib.hid h4; have HN2 := Lib.hid h5; have HV2 := Lib.hid h6
      have S1 := Lib.hid S1
      clear h1 h2 h3 h4 h5 h6 S
      go_wp2_with fail
      refine (digitsOf_any _ qs _ HS.out HN.out).mono ?_
      rintro e w5 ⟨hb5, v5, rfl, hd5⟩
      rw [HV.out] at hd5
      obtain ⟨x5, p5, rfl⟩ := hd5.agg
      have S5 := Lib.hid (S1.out.keep hb5)
      have HS3 := Lib.hid (HS2.out.keep hb5 (Nat.le_refl _))
      have HD5 := Lib.hid hd5
      clear hb5 hd5 S1
      go_wp2_with fail
      refine (digitsOf_any _ rs _ HS3.out HN2.out).mono ?_
      rintro e w6 ⟨hb6, v6, rfl, hd6⟩
      rw [HV2.out] at hd6
      obtain ⟨x6, p6, rfl⟩ := hd6.agg
      have S6 := S5.out.keep hb6
      have hd5 := HD5.out.keep hb6 (Nat.le_refl _)
      obtain ⟨⟨g1, g2, g3, g4⟩, g5, g6, g7⟩ := over_fin S6 hd5 hd6
      obtain ⟨_, _, m1, m2, m3, m4⟩ := S6.r4.cells
      obtain ⟨_, _, n1, n2, n3, n4⟩ := S6.r5.cells
      have G5 := Lib.hid g5; have G6 := Lib.hid g6; have G7 := Lib.hid g7
      clear g5 g6 g7 hd5 hd6 S6 hb6 S5
      go_wp2
      exact bodyPost_ret (v := .tuple #[.agg #[.int .u64 x5, .pointer p5], .agg #[.int .u64 x6, .pointer p6]]) (by simp [results, Tryz.results130, go_sem, g1, g2, g3, g4]) rfl ⟨G5.out, _, _, rfl, G6.out, G7.out⟩
theorem over_all (a d : Nat) (sa : Sz a) (hz : d ≠ 0) : OverC a d := by
  rcases Nat.lt_or_ge d WB with hd | hd
  · rcases Nat.lt_or_ge a WB with ha | ha
    · exact over_small a d ha hd hz
    · exact over_word a d sa ha hd hz
  · exact over_words a d sa hd
end Go.Proofs.YtjjomjjgoceklaaGreat
namespace Go.Proofs.YtjjomjjgoceklaaGreat
set_option maxRecDepth 100000
open Go.RowKit

structure S60 (w0 : World) (a d : Nat) (w : World) : Prop where
  k : Below w0.heap.size w0 w
  a : Hd w0.heap.size a w
  d : Hd (w0.heap.size + 1) d w
  r4 : Rs (w0.heap.size + 2) w
theorem S60.keep {w0 : World} {a d : Nat} {w w' : World} (h : S60 w0 a d w) (hb : Below w.heap.size w w') : S60 w0 a d w' :=
  ⟨Below.thru h.k h.k.size hb, h.a.keep hb, h.d.keep hb, Rs.keep h.r4 hb h.r4.lt⟩
theorem s60_new {w : World} {a d : Nat} {xa xd : Int} {pa pd : Option Addr} (ha : Dg w (.agg #[.int .u64 xa, .pointer pa]) a) (hd : Dg w (.agg #[.int .u64 xd, .pointer pd]) d) :
    S60 w a d (((w.alloc (.cells #[.int .u64 xa, .pointer pa] 26)).alloc (.cells #[.int .u64 xd, .pointer pd] 26)).alloc (.cells #[.int .u64 0, .pointer none] 26)) := by
  have hd1 := Hd.new (hd.keep (bl1 w (.cells #[.int .u64 xa, .pointer pa] 26)) (Nat.le_refl _))
  rw [World.size_alloc] at hd1
  exact ⟨bl3 _ _ _ _, ((Hd.new ha).keep (bl1 _ _)).keep (bl1 _ _), hd1.keep (bl1 _ _), rs_new _ (by simp)⟩
def D60 (t : Nat) : Bool := Nat.ble 17 t && Nat.ble t 22
def tab60 (a d : Nat) (t : Nat) : Kd := [.g a, kNr a, .g d, kNr d, kNr (Nat.gcd a d), .g (Nat.gcd a d)].getD (t - 17) .any
set_option maxRecDepth 100000 in
set_option maxHeartbeats 1600000 in
theorem common_words (a d : Nat) (sa : Sz a) (sd : Sz d) (hb : WB ≤ a ∨ WB ≤ d) : CommonC a d := by
  intro va vd w h1 h2
  have S0 : ∀ xa pa xd pd, va = .agg #[.int .u64 xa, .pointer pa] → vd = .agg #[.int .u64 xd, .pointer pd] → Hid (S60 w a d (((w.alloc (.cells #[.int .u64 xa, .pointer pa] 26)).alloc (.cells #[.int .u64 xd, .pointer pd] 26)).alloc (.cells #[.int .u64 0, .pointer none] 26))) := by
    rintro xa pa xd pd rfl rfl
    exact s60_new h1 h2
  have S0 := Lib.hid S0
  have SA := Lib.hid sa; have SD := Lib.hid sd
  have HB := Lib.hid hb
  have bad : ∀ {v1 v2 : Value}, ¬ (Wd a ∧ Wd d ∧ v1 = v2) := by rintro _ _ ⟨h, h', _⟩; unfold Wd at h h'; omega
  rcases h2 with ⟨wd, rfl⟩ | ⟨bd, svd, wsd, rfl, _⟩
  all_goals
    rcases h1 with ⟨wa, rfl⟩ | ⟨ba, sva, wsa, rfl, _⟩
  · exact absurd ⟨wa, wd, rfl⟩ (bad (v1 := undef) (v2 := undef))
  all_goals
    have S0 := S0.out _ _ _ _ rfl rfl
    clear sa sd hb bad HB
    go_enter Tryz.func108, Tryz.ntmps108
    go_wp2_with (go_at_call 123; first | ((with_reducible refine (isSmall_small _ _).mono ?_); rintro e w1 ⟨rfl, rfl⟩) | ((with_reducible refine (isSmall_big _ _ _).mono ?_); rintro e w1 ⟨rfl, rfl⟩))
    generalize hW : World.alloc _ _ = W
    have S : S60 w a d W := by rw [← hW]; first | exact S0.out.keep (bl2 _ _ _) | exact S0.out.keep (bl1 _ _)
    have S := Lib.hid S
    clear S0 hW
    go_cut [] (fun wc => Below w.heap.size w wc ∧ Hd (w.heap.size + 2) (Nat.gcd a d) wc)
    case first =>
      rename_i J K' hJ hK
      refine wp_region_two D60 (tab60 a d) (S60 w a d) 6 (fun _ _ w' => Below w.heap.size w w' ∧ Hd (w.heap.size + 2) (Nat.gcd a d) w') (by kernel_rfl) (by kernel_rfl) (by kernel_rfl) (by kernel_rfl) (by decide) (by kernel_rfl) (fun _ _ h hb => h.keep hb) (S.out.keep (Below.refl _ _).drew) ?_ ?_ ?_
      ·
        refine .cons (fun f w' hI hs => ?_) ?_
        · obtain ⟨x, p, h1, h2⟩ := hI.a
          exact ⟨wanted_none rfl, _, rfl, .val (rn_load27 rfl (fr_old rfl rfl) h1) ⟨Below.refl _ _, h2⟩⟩
        refine .cons (fun f w' hI hs => ⟨wanted_none rfl, _, rfl, .call1 rfl cf133 rfl rfl (words_kd (hs 17 (by kernel_rfl)))⟩) ?_
        refine .cons (fun f w' hI hs => ?_) ?_
        · obtain ⟨x, p, h1, h2⟩ := hI.d
          exact ⟨wanted_none rfl, _, rfl, .val (rn_load27 rfl (fr_old rfl rfl) h1) ⟨Below.refl _ _, h2⟩⟩
        refine .cons (fun f w' hI hs => ⟨wanted_none rfl, _, rfl, .call1 rfl cf133 rfl rfl (words_kd (hs 19 (by kernel_rfl)))⟩) ?_
        refine .cons (fun f w' hI hs => ⟨wanted_none rfl, _, rfl, .call2 rfl cf132 rfl rfl rfl rfl ?_⟩) ?_
        · obtain ⟨ws, h1, h2, h3⟩ : ∃ us : List Nat, Sl w' (f 18) us ∧ Nrm us ∧ val us = a := (hs 18 (by kernel_rfl))
          obtain ⟨us, h4, h5, h6⟩ : ∃ us : List Nat, Sl w' (f 20) us ∧ Nrm us ∧ val us = d := (hs 20 (by kernel_rfl))
          refine (commonDivisor_le _ _ ws us _ h1 h4 h2 h5 (SA.out.len h2 h3) (SD.out.len h5 h6)).mono ?_
          rintro e w5 ⟨hb, v, gs, rfl, k1, k2, k3⟩
          rw [h3, h6] at k3
          exact ⟨_, rfl, hb, gs, k1, k2, k3⟩
        refine .cons (fun f w' hI hs => ⟨wanted_none rfl, _, rfl, .call1 rfl cf122 rfl rfl ?_⟩) ?_
        · obtain ⟨gs, h1, h2, h3⟩ : ∃ us : List Nat, Sl w' (f 21) us ∧ Nrm us ∧ val us = Nat.gcd a d := (hs 21 (by kernel_rfl))
          refine (digitsOf_any _ gs _ h1 h2).mono ?_
          rintro e w5 ⟨hb, v, rfl, k1⟩
          rw [h3] at k1
          exact ⟨_, rfl, hb, k1⟩
        exact .nil
      · refine .cons (fun f w' h => ⟨wanted_none rfl, ?_⟩) .nil
        obtain ⟨hI, hs⟩ := (if_pos rfl) ▸ h
        have h22 : Dg w' (f 22) (Nat.gcd a d) := hs 22 (by kernel_rfl)
        obtain ⟨x, p, e⟩ := h22.agg
        rw [e] at h22
        exact .skip (rn_store27 rfl (fr_old rfl rfl) ((fr_own rfl rfl).trans e) hI.r4) ⟨(hI.k.setCell (p := ⟨w.heap.size + 2, 0, none⟩) (Nat.le_add_right _ 2) _).setCell (p := ⟨w.heap.size + 2, 1, none⟩) (Nat.le_add_right _ 2) _, x, p, hI.r4.stored x p, h22.store hI.r4.odd (grown2 _ _ _ _ _ _)⟩
      · intro f w' h
        refine hK _ _ (Met.intro (hJ _ _ ?_))
        (repeat apply Exists.intro)
        refine ⟨?_, rfl⟩
        exact h
    case rest =>
      obtain ⟨kf, x, p, h1, h2⟩ := hcut
      have g1 : wc.cell? ⟨w.heap.size + 2, 0, none⟩ = some (.int .u64 x) := by simp [World.cell?, h1]
      have g2 : wc.cell? ⟨w.heap.size + 2, 1, none⟩ = some (.pointer p) := by simp [World.cell?, h1]
      have KF := Lib.hid kf; have V2 := Lib.hid h2
      clear h1 h2 kf S
      go_wp2
      exact bodyPost_ret (v := .agg #[.int .u64 x, .pointer p]) (by simp [results, Tryz.results108, go_sem, g1, g2]) rfl ⟨KF.out, _, rfl, V2.out⟩
theorem common_all (a d : Nat) (sa : Sz a) (sd : Sz d) : CommonC a d := by
  rcases Nat.lt_or_ge a WB with ha | ha
  · rcases Nat.lt_or_ge d WB with hd | hd
    · exact common_small a d ha hd
    · exact common_words a d sa sd (.inr hd)
  · exact common_words a d sa sd (.inl ha)
end Go.Proofs.YtjjomjjgoceklaaGreat

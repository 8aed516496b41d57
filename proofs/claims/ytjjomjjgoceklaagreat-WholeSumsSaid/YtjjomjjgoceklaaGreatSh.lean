import Derived.Test.YtjjomjjgoceklaaGreatSe
import Derived.Test.YtjjomjjgoceklaaGreatKbg
import Derived.Test.YtjjomjjgoceklaaGreatSf
namespace Go.Proofs.YtjjomjjgoceklaaGreat
set_option maxRecDepth 100000
open Go.RowKit

/-! V.Text, R.Sign -/
theorem cf80 : CF 80 := fun W args => by go_simp
theorem PTr.kd {n : Int} {d : Nat} {w : World} {g : FuncId} {args : Array Value} (h : Calls Tryz.prog g args w (PTr n d w)) : Calls Tryz.prog g args w fun e w' => ∃ v, e = .returned v ∧ (Below w.heap.size w w' ∧ Go.Proofs.YtjjomjjgoceklaaGreat.kd (.v (.string (txtR n d))) v w') :=
  h.mono fun _ _ ⟨hb, he⟩ => ⟨_, he, hb, rfl⟩
theorem rn_add9 {ρ : Operand → Value} {o : Oper} {w : World} {t c : Operand} {s u : ByteArray} (ho : o.op = .binOp .add 9 t c 9) (h1 : ρ t = .string s) (h2 : ρ c = .string u) (hs : s.size + u.size ≤ 9223372036854775807) : (execOp ρ o).run Tryz.prog w = .ok (.value (.string (s ++ u))) w := by
  unfold execOp; rw [ho]; simp [go_sem, h1, h2, hs]
theorem addsz {s u : ByteArray} {a b : Nat} (h1 : s.size ≤ a) (h2 : u.size ≤ b) (h : a + b ≤ 9223372036854775807) : s.size + u.size ≤ 9223372036854775807 := by omega
theorem catsz {s u : ByteArray} {a b : Nat} (h1 : s.size ≤ a) (h2 : u.size ≤ b) : (s ++ u).size ≤ a + b := by rw [ByteArray.size_append]; omega
structure S46 (w0 : World) (n m : Int) (d e : Nat) (w : World) : Prop where
  k : Below w0.heap.size w0 w
  x : Vq w0.heap.size 0 n d w
  z : Vq w0.heap.size 5 m e w
theorem S46.keep {w0 w w' : World} {n m : Int} {d e : Nat} (h : S46 w0 n m d e w) (hb : Below w.heap.size w w') : S46 w0 n m d e w' := ⟨Below.thru h.k h.k.size hb, h.x.keep hb, h.z.keep hb⟩
theorem rsign_any (v : Value) (n : Int) (d : Nat) (w : World) (h : Rr w v n d) : Calls Tryz.prog 15 #[v] w fun e w' => Below w.heap.size w w' ∧ e = .returned (.int .i64 n.sign) := by
  obtain ⟨s, x, p, y, q, rfl⟩ := h.agg
  have HR := Lib.hid ((h.keep (bl1 w (.cells #[.bool s, .int .u64 x, .pointer p, .int .u64 y, .pointer q] 33)) (Nat.le_refl _)).num)
  clear h
  go_enter Tryz.func15, Tryz.ntmps15
  go_wp2_with fail
  refine (sign_any _ n _ HR.out).mono ?_
  rintro e w1 ⟨hb1, rfl⟩
  have k1 := Below.thru (bl1 w _) (by simp) hb1
  go_wp2
  go_ret
  exact ⟨k1, rfl⟩
end Go.Proofs.YtjjomjjgoceklaaGreat
namespace Go.Proofs.YtjjomjjgoceklaaGreat
set_option maxRecDepth 100000
open Go.RowKit

/-! R.Cmp -/
theorem cf110 : CF 110 := fun W args => by go_simp
structure S52 (w0 : World) (an bn : Int) (p q : Nat) (w : World) : Prop where
  k : Below w0.heap.size w0 w
  a : Hq w0.heap.size an p w
  b : Hq (w0.heap.size + 1) bn q w
theorem S52.keep {w0 w w' : World} {an bn : Int} {p q : Nat} (h : S52 w0 an bn p q w) (hb : Below w.heap.size w w') : S52 w0 an bn p q w' := ⟨Below.thru h.k h.k.size hb, h.a.keep hb, h.b.keep hb⟩
theorem s52_new {w : World} {an bn : Int} {p q : Nat} {s1 : Bool} {x1 y1 : Int} {p1 q1 : Option Addr} {s2 : Bool} {x2 y2 : Int} {p2 q2 : Option Addr} (ha : Rr w (.agg #[.bool s1, .int .u64 x1, .pointer p1, .int .u64 y1, .pointer q1]) an p) (hb : Rr w (.agg #[.bool s2, .int .u64 x2, .pointer p2, .int .u64 y2, .pointer q2]) bn q) :
    S52 w an bn p q ((w.alloc (.cells #[.bool s1, .int .u64 x1, .pointer p1, .int .u64 y1, .pointer q1] 33)).alloc (.cells #[.bool s2, .int .u64 x2, .pointer p2, .int .u64 y2, .pointer q2] 33)) :=
  ⟨bl2 _ _ _, ⟨s1, x1, y1, p1, q1, blk_keep (Go.Deep.blk_alloc_new _ _) (bl1 _ _), ha.keep (bl2 _ _ _) (Nat.le_refl _)⟩,
    ⟨s2, x2, y2, p2, q2, by have := Go.Deep.blk_alloc_new (w.alloc (.cells #[.bool s1, .int .u64 x1, .pointer p1, .int .u64 y1, .pointer q1] 33)) (.cells #[.bool s2, .int .u64 x2, .pointer p2, .int .u64 y2, .pointer q2] 33); rw [World.size_alloc] at this; exact this, hb.keep (bl2 _ _ _) (Nat.le_refl _)⟩⟩
def D52 (t : Nat) : Bool := Nat.ble 4 t && Nat.ble t 15
def tab52 (S : Nat) (an bn : Int) (p q : Nat) (t : Nat) : Kd := [ki (sgnZ (an * q) (bn * p)), kp S 0, .z an, .q bn q, .g q, .z (an * q), kp (S + 1) 0, .z bn, .q an p, .g p, .z (bn * p), ki (sgnZ (an * q) (bn * p))].getD (t - 4) .any
set_option maxHeartbeats 800000 in
theorem rcmp_any (va vb : Value) (an bn : Int) (p q : Nat) (w : World) (ha : Rr w va an p) (hb : Rr w vb bn q) (sa : Sz an.natAbs) (sb : Sz bn.natAbs) (sp : Sz p) (sq : Sz q) : Calls Tryz.prog 52 #[va, vb] w (PSg (an * q) (bn * p) w) := by
  have SA := Lib.hid sa; have SB := Lib.hid sb; have SP := Lib.hid sp; have SQ := Lib.hid sq
  obtain ⟨s1, x1, p1, y1, q1, rfl⟩ := ha.agg
  obtain ⟨s2, x2, p2, y2, q2, rfl⟩ := hb.agg
  have S0 := Lib.hid (s52_new ha hb)
  clear ha hb sa sb sp sq
  go_enter Tryz.func52, Tryz.ntmps52
  go_wp2_with fail
  go_cut [4] (fun v wc => v = .int .i64 (sgnZ (an * q) (bn * p)) ∧ Below w.heap.size w wc)
  case first =>
    rename_i J K' hJ hK
    refine wp_region_kd D52 (tab52 w.heap.size an bn p q) (S52 w an bn p q) (by kernel_rfl) (by kernel_rfl) (by kernel_rfl) (by kernel_rfl) (fun _ _ h hb => h.keep hb) (S0.out.keep (Below.refl _ _).drew) ?_ ?_
    · refine .cons (fun f w' hI hs => ⟨wanted_none rfl, _, rfl, .val (rn_field61_0 rfl (fr_old rfl rfl)) ⟨Below.refl _ _, rfl⟩⟩) ?_
      refine .cons (fun f w' hI hs => ?_) ?_
      · obtain ⟨s, x, p', h1, h2⟩ := hI.a.b3
        exact ⟨wanted_none rfl, _, rfl, .val (rn_load29 rfl ((fr_own rfl rfl).trans (hs 5 (by kernel_rfl))) h1) ⟨Below.refl _ _, h2⟩⟩
      refine .cons (fun f w' hI hs => ?_) ?_
      · obtain ⟨s, x, y, p', q', h1, h2⟩ := hI.b
        exact ⟨wanted_none rfl, _, rfl, .val (rn_load61 rfl (fr_old rfl rfl) h1) ⟨Below.refl _ _, h2⟩⟩
      refine .cons (fun f w' hI hs => ⟨wanted_none rfl, _, rfl, .call1 rfl cf105 rfl rfl (PDg.kd (under_any _ bn q _ (hs 7 (by kernel_rfl))))⟩) ?_
      refine .cons (fun f w' hI hs => ⟨wanted_none rfl, _, rfl, .call2 rfl cf110 rfl rfl rfl rfl (PZ.kd (multiple_any _ _ an q _ (hs 6 (by kernel_rfl)) (hs 8 (by kernel_rfl)) SA.out SQ.out))⟩) ?_
      refine .cons (fun f w' hI hs => ⟨wanted_none rfl, _, rfl, .val (rn_field61_0 rfl (fr_old rfl rfl)) ⟨Below.refl _ _, rfl⟩⟩) ?_
      refine .cons (fun f w' hI hs => ?_) ?_
      · obtain ⟨s, x, p', h1, h2⟩ := hI.b.b3
        exact ⟨wanted_none rfl, _, rfl, .val (rn_load29 rfl ((fr_own rfl rfl).trans (hs 10 (by kernel_rfl))) h1) ⟨Below.refl _ _, h2⟩⟩
      refine .cons (fun f w' hI hs => ?_) ?_
      · obtain ⟨s, x, y, p', q', h1, h2⟩ := hI.a
        exact ⟨wanted_none rfl, _, rfl, .val (rn_load61 rfl (fr_old rfl rfl) h1) ⟨Below.refl _ _, h2⟩⟩
      refine .cons (fun f w' hI hs => ⟨wanted_none rfl, _, rfl, .call1 rfl cf105 rfl rfl (PDg.kd (under_any _ an p _ (hs 12 (by kernel_rfl))))⟩) ?_
      refine .cons (fun f w' hI hs => ⟨wanted_none rfl, _, rfl, .call2 rfl cf110 rfl rfl rfl rfl (PZ.kd (multiple_any _ _ bn p _ (hs 11 (by kernel_rfl)) (hs 13 (by kernel_rfl)) SB.out SP.out))⟩) ?_
      refine .cons (fun f w' hI hs => ⟨wanted_none rfl, _, rfl, .call2 rfl cf77 rfl rfl rfl rfl (PSg.kdn (zcmp_any _ _ (an * q) (bn * p) _ (hs 9 (by kernel_rfl)) (hs 14 (by kernel_rfl))))⟩) ?_
      refine .cons (fun f w' hI hs => ⟨wanted_none rfl, _, rfl, .val (rn_assign rfl) ⟨Below.refl _ _, ((fr_own rfl rfl).trans (hs 15 (by kernel_rfl)))⟩⟩) .nil
    · intro f w' hI hk
      have h2 : f 4 = .int .i64 (sgnZ (an * q) (bn * p)) := hk 4 (by kernel_rfl)
      refine hK _ _ (Met.intro (hJ _ _ ?_))
      (repeat apply Exists.intro)
      refine ⟨?_, rfl⟩
      exact ⟨h2, hI.k⟩
  case rest =>
    obtain ⟨rfl, kf⟩ := hcut
    go_wp2
    go_ret
    exact ⟨kf, rfl⟩

/-! the ratios' functions as the rationals' -/
section
variable {va vb : Value} {a b : Rat} {k l : Nat} {w : World}
theorem Bd9.szn (h : Bd9 k a) (hk : k ≤ 1000) : Sz a.num.natAbs := wb_sz h.1 hk
theorem Bd9.szd (h : Bd9 k a) (hk : k ≤ 1000) : Sz a.den := wb_sz h.2 hk
theorem raddR (ha : Rr w va a.num a.den) (hb : Rr w vb b.num b.den) (ba : Bd9 k a) (bb : Bd9 l b) (hk : k + l + 1 ≤ 1000) : Calls Tryz.prog 42 #[va, vb] w (PRq (a + b) w) := by
  have hp := a.den_pos
  have hq := b.den_pos
  have m1 : a.num.natAbs * b.den < WB ^ (k + l) := wb_mul ba.1 bb.2
  have m2 : b.num.natAbs * a.den < WB ^ (k + l) := by rw [Nat.add_comm k l]; exact wb_mul bb.1 ba.2
  have n1 : (a.num * (b.den / Nat.gcd a.den b.den : Nat)).natAbs < WB ^ (k + l) := by
    rw [Int.natAbs_mul, Int.natAbs_natCast]; exact Nat.lt_of_le_of_lt (Nat.mul_le_mul_left _ (Nat.div_le_self _ _)) m1
  have n2 : (b.num * (a.den / Nat.gcd a.den b.den : Nat)).natAbs < WB ^ (k + l) := by
    rw [Int.natAbs_mul, Int.natAbs_natCast]; exact Nat.lt_of_le_of_lt (Nat.mul_le_mul_left _ (Nat.div_le_self _ _)) m2
  have ba' := ba.mono (l := k + l + 1) (by omega)
  have bb' := bb.mono (l := k + l + 1) (by omega)
  have h := radd_any (WB ^ (k + l + 1)) va vb a.num b.num a.den b.den w ha hb (num_all _ hk) ba'.2 bb'.2 _ rfl (Nat.lt_of_le_of_lt (Int.natAbs_add_le _ _) (wb_add n1 n2)) (ba.szn (by omega)) (bb.szn (by omega)) (ba.szd (by omega)) (bb.szd (by omega)) (wb_sz n1 (by omega)) (wb_sz n2 (by omega))
  have e := rat_of_div (den_ne a b) (Nat.mul_pos (Nat.div_pos (Nat.gcd_le_left _ hp) (Nat.gcd_pos_of_pos_left _ hp)) (Nat.div_pos (Nat.le_trans (Nat.gcd_le_right _ (Nat.gcd_pos_of_pos_left _ hp)) (Nat.gcd_le_right _ hq)) (Nat.gcd_pos_of_pos_right _ (Nat.gcd_pos_of_pos_left _ hp)))) (cop_all hp hq a.reduced b.reduced _ rfl) (sum_eq rfl)
  rw [← rat_add] at e
  rw [e.1, e.2] at h
  exact h
theorem rmulR (ha : Rr w va a.num a.den) (hb : Rr w vb b.num b.den) (ba : Bd9 k a) (bb : Bd9 l b) (hk : k + l ≤ 1000) : Calls Tryz.prog 46 #[va, vb] w (PRq (a * b) w) := by
  have hp := a.den_pos
  have hq := b.den_pos
  have h := rmul_any va vb a.num b.num a.den b.den w ha hb (ba.szn (by omega)) (bb.szn (by omega)) (ba.szd (by omega)) (bb.szd (by omega))
  have e := rat_of_div (den_ne a b) (Nat.mul_pos (Nat.div_pos (Nat.gcd_le_right _ hp) (Nat.gcd_pos_of_pos_right _ hp)) (Nat.div_pos (Nat.gcd_le_right _ hq) (Nat.gcd_pos_of_pos_right _ hq))) (mul_low hp hq a.reduced b.reduced) prod_eq
  rw [← rat_mul] at e
  rw [e.1, e.2] at h
  exact h
theorem rnegR (ha : Rr w va a.num a.den) : Calls Tryz.prog 48 #[va] w (PRq (-a) w) := rneg_any va a.num a.den w ha
theorem rsubR (ha : Rr w va a.num a.den) (hb : Rr w vb b.num b.den) (ba : Bd9 k a) (bb : Bd9 l b) (hk : k + l + 1 ≤ 1000) : Calls Tryz.prog 44 #[va, vb] w (PRq (a - b) w) := by
  rw [Rat.sub_eq_add_neg]
  exact rsub_any va vb a.num b.num (a + -b).num a.den b.den (a + -b).den w ha hb fun W v1 v2 h1 h2 => raddR (b := -b) h1 h2 ba bb.neg hk
theorem rcmpR (ha : Rr w va a.num a.den) (hb : Rr w vb b.num b.den) (ba : Bd9 k a) (bb : Bd9 l b) (hk : k ≤ 1000) (hl : l ≤ 1000) : Calls Tryz.prog 52 #[va, vb] w fun e w' => Below w.heap.size w w' ∧ e = .returned (.int .i64 (cmpQ a b)) := by
  rw [← cmpQ_of]
  exact rcmp_any va vb a.num b.num a.den b.den w ha hb (ba.szn hk) (bb.szn hl) (ba.szd hk) (bb.szd hl)
end
end Go.Proofs.YtjjomjjgoceklaaGreat
namespace Go.Proofs.YtjjomjjgoceklaaGreat
set_option maxRecDepth 100000
open Go.RowKit

/-! R.Div -/
theorem cf87 : CF 87 := fun W args => by go_simp
section
variable {ρ : Operand → Value} {o : Oper} {w : World} {t : Operand}
theorem rn_field29_0 {b : Nat} (ho : o.op = .fieldAddr 28 t 0) (he : ρ t = .pointer (some ⟨b, 0, none⟩)) : (execOp ρ o).run Tryz.prog w = .ok (.value (.pointer (some ⟨b, 0, none⟩))) w := by
  unfold execOp; rw [ho]; simp [go_sem, he]
theorem rn_load4 {b i : Nat} {s : Bool} (ho : o.op = .load 4 t) (he : ρ t = .pointer (some ⟨b, i, none⟩)) (h : w.cell? ⟨b, i, none⟩ = some (.bool s)) : (execOp ρ o).run Tryz.prog w = .ok (.value (.bool s)) w := by
  unfold execOp; rw [ho]; simp [go_sem, he, h]
theorem rn_alloc61 (ho : o.op = .alloc 33) : (execOp ρ o).run Tryz.prog w = .ok (.value (.pointer (some ⟨w.heap.size, 0, none⟩))) (w.alloc (.cells #[.bool false, .int .u64 0, .pointer none, .int .u64 0, .pointer none] 33)) := by
  unfold execOp; rw [ho]; simp [go_sem]
end
def Ks5 (K : Kd) : Prop := ∀ {v : Value} {w : World} {T : Nat} {s : Bool} {x y : Int} {p q : Option Addr}, Rq T w → kd K v w → kd K v (st5 w T (.bool s) (.int .u64 x) (.pointer p) (.int .u64 y) (.pointer q))
theorem rq_st5 {T U : Nat} {w : World} (hT : Rq T w) (hU : Rq U w) (s : Bool) (x y : Int) (p q : Option Addr) : Rq U (st5 w T (.bool s) (.int .u64 x) (.pointer p) (.int .u64 y) (.pointer q)) := by
  by_cases e : U = T
  · subst e
    obtain ⟨_, _, _, _, _, h⟩ := hU
    exact ⟨s, x, p, y, q, by simp [World.setCell, Array.getElem?_modify, h]⟩
  · exact hU.other (grown5 _ _ _ _ _ _ _) e
def kbq (B : Nat) : Kd := .c (fun v w => ∃ T, v = .pointer (some ⟨T, 0, none⟩) ∧ B ≤ T ∧ Rq T w) fun _ _ _ ⟨T, h1, h2, h3⟩ hb => ⟨T, h1, h2, h3.keep hb h3.lt⟩
theorem Ks5.z {n : Int} : Ks5 (.z n) := fun hT h => Zr.store h hT.odd (grown5 _ _ _ _ _ _ _)
theorem Ks5.q {n : Int} {d : Nat} : Ks5 (.q n d) := fun hT h => Rr.store h hT.odd (grown5 _ _ _ _ _ _ _)
theorem Ks5.g {n : Nat} : Ks5 (.g n) := fun hT h => Dg.store h hT.odd (grown5 _ _ _ _ _ _ _)
theorem Ks5.v {y : Value} : Ks5 (.v y) := by
  intro v w T s x z p q _ h
  have h1 : v = y := h
  show v = y
  exact h1
theorem Ks5.kp {b i : Nat} : Ks5 (kp b i) := Ks5.v
theorem Ks5.any : Ks5 .any := fun _ _ => trivial
theorem Ks5.kbq {B : Nat} : Ks5 (kbq B) := fun hT ⟨U, h1, h2, h3⟩ => ⟨U, h1, h2, rq_st5 hT h3 _ _ _ _ _⟩
theorem Ks5.getD {L : List Kd} (h : ∀ K ∈ L, Ks5 K) (j : Nat) : Ks5 (L.getD j .any) := by
  intro v w T s x y p q
  rw [List.getD_eq_getElem?_getD]
  cases hj : L[j]? with
  | none => exact fun _ _ => trivial
  | some K => exact h K (List.mem_of_getElem? hj)
def DV3 (t : Nat) : Bool := Nat.beq t 6 || (Nat.ble 12 t && Nat.ble t 21)
def alV3 (t : Nat) : Bool := Nat.beq t 6
def tabV3 (B S : Nat) (bn : Int) (q : Nat) (s2 : Bool) (t : Nat) : Kd := [kbq B, .any, .any, .any, .any, .any, .q bn q, .g q, kp (S + 1) 0, kp (S + 1) 0, .v (.bool s2), .z (if s2 = true then -(q : Int) else (q : Int)), kp (S + 1) 0, kp (S + 1) 1, .g bn.natAbs, .q (if s2 = true then -(q : Int) else (q : Int)) bn.natAbs].getD (t - 6) .any
theorem kV3 {B S : Nat} {bn : Int} {q : Nat} {s2 : Bool} (t : Nat) : Ks5 (tabV3 B S bn q s2 t) :=
  Ks5.getD (by simp only [List.forall_mem_cons]; exact ⟨Ks5.kbq, Ks5.any, Ks5.any, Ks5.any, Ks5.any, Ks5.any, Ks5.q, Ks5.g, Ks5.kp, Ks5.kp, Ks5.v, Ks5.z, Ks5.kp, Ks5.kp, Ks5.g, Ks5.q, fun _ h => by cases h⟩) _
set_option maxHeartbeats 1600000 in
theorem rdiv_any (va vb : Value) (an bn n2 : Int) (p q d2 : Nat) (w : World) (ha : Rr w va an p) (hb : Rr w vb bn q) (h0 : bn ≠ 0)
    (hm : ∀ W v1 v2, Rr W v1 an p → Rr W v2 (bn.sign * q) bn.natAbs → Calls Tryz.prog 46 #[v1, v2] W (PR n2 d2 W)) : Calls Tryz.prog 39 #[va, vb] w (PRe n2 d2 0 w) := by
  obtain ⟨s1, x1, p1, y1, q1, rfl⟩ := ha.agg
  obtain ⟨s2, x2, p2, y2, q2, rfl⟩ := hb.agg
  have hsg : (if s2 = true then -(q : Int) else (q : Int)) = bn.sign * q := by
    obtain ⟨s', x', p', e, _, g1, g2⟩ := hb.num.dg
    simp only [Value.agg.injEq, Array.mk.injEq, List.cons.injEq, and_true, Value.bool.injEq, Value.int.injEq, Value.pointer.injEq, true_and] at e
    obtain ⟨rfl, rfl, rfl⟩ := e
    cases s2 with
    | true => rw [if_pos rfl, Int.sign_eq_neg_one_of_neg (g1 rfl)]; omega
    | false => rw [if_neg (by decide), Int.sign_eq_one_of_pos (by have := g2 rfl; omega)]; omega
  rw [← hsg] at hm
  have POS : Hid (0 < bn.natAbs) := by show 0 < _; omega
  have LOW : Hid (Nat.gcd (if s2 = true then -(q : Int) else (q : Int)).natAbs bn.natAbs = 1) := by
    show _ = 1
    have e : (if s2 = true then -(q : Int) else (q : Int)).natAbs = q := by split <;> simp
    rw [e, Nat.gcd_comm]; exact hb.gcd
  have HM := Lib.hid hm
  have HD := Lib.hid hb.num.dig
  have HZ : Hid (bn.natAbs ≠ 0) := by show _ ≠ 0; omega
  have S0 : S76 w an bn p q (((w.alloc (.cells #[.bool s1, .int .u64 x1, .pointer p1, .int .u64 y1, .pointer q1] 33)).alloc (.cells #[.bool s2, .int .u64 x2, .pointer p2, .int .u64 y2, .pointer q2] 33)).alloc (.cells #[.bool false, .int .u64 0, .pointer none, .int .u64 0, .pointer none] 33)) :=
    ⟨bl3 _ _ _ _, ⟨s1, x1, y1, p1, q1, blk_keep (blk_keep (Go.Deep.blk_alloc_new _ _) (bl1 _ _)) (bl1 _ _), ha.keep (bl3 _ _ _ _) (Nat.le_refl _)⟩,
      ⟨s2, x2, y2, p2, q2, blk_keep (by have := Go.Deep.blk_alloc_new (w.alloc (.cells #[.bool s1, .int .u64 x1, .pointer p1, .int .u64 y1, .pointer q1] 33)) (.cells #[.bool s2, .int .u64 x2, .pointer p2, .int .u64 y2, .pointer q2] 33); rw [World.size_alloc] at this; exact this) (bl1 _ _), hb.keep (bl3 _ _ _ _) (Nat.le_refl _)⟩, rq_new _ (by simp)⟩
  have B0 : (((w.alloc (.cells #[.bool s1, .int .u64 x1, .pointer p1, .int .u64 y1, .pointer q1] 33)).alloc (.cells #[.bool s2, .int .u64 x2, .pointer p2, .int .u64 y2, .pointer q2] 33)).alloc (.cells #[.bool false, .int .u64 0, .pointer none, .int .u64 0, .pointer none] 33)).heap[w.heap.size + 1]? = some (.cells #[.bool s2, .int .u64 x2, .pointer p2, .int .u64 y2, .pointer q2] 33 (0, 0)) :=
    blk_keep (by have := Go.Deep.blk_alloc_new (w.alloc (.cells #[.bool s1, .int .u64 x1, .pointer p1, .int .u64 y1, .pointer q1] 33)) (.cells #[.bool s2, .int .u64 x2, .pointer p2, .int .u64 y2, .pointer q2] 33); rw [World.size_alloc] at this; exact this) (bl1 _ _)
  have S := Lib.hid S0
  have BB := Lib.hid B0
  clear ha hb S0 B0 hm hsg
  go_enter Tryz.func39, Tryz.ntmps39
  go_wp2_with fail
  refine (isZero_no _ (HD.out.keep (bl3 _ _ _ _) (Nat.le_refl _)) HZ.out).mono ?_
  rintro e w1 ⟨rfl, c1, t1, hw⟩
  have hb1 := show Below _ _ w1 from hw ▸ bl2 _ _ _
  have S := Lib.hid (S.out.keep hb1)
  have BB := Lib.hid (blk_keep BB.out hb1)
  clear hw hb1
  go_upto_region 3 with fail
  go_cut [6] (fun u we => ∃ T, u = .pointer (some ⟨T, 0, none⟩) ∧ Hq T (if s2 = true then -(q : Int) else (q : Int)) bn.natAbs we ∧ Below w1.heap.size w1 we)
  case first =>
    rename_i J K' hJ hK
    refine wp_region_alf DV3 (tabV3 w1.heap.size w.heap.size bn q s2) alV3 11 (fun i f w' => Below w1.heap.size w1 w' ∧ (12 ≤ i → ∃ T, f 6 = .pointer (some ⟨T, 0, none⟩) ∧ Hq T (if s2 = true then -(q : Int) else (q : Int)) bn.natAbs w')) (by kernel_rfl) (by kernel_rfl) (by kernel_rfl) (by kernel_rfl) (by decide) (by kernel_rfl) (fun i f f' w' w'' hI hb he => ⟨Below.thru hI.1 hI.1.size hb, fun h => by
      obtain ⟨T, h1, h2⟩ := hI.2 h
      rcases he with he | he
      · omega
      · exact ⟨T, (he 6 rfl).trans h1, h2.keep hb⟩⟩) (by kernel_rfl) (fun f => ⟨(Below.refl _ _).drew, fun h => absurd h (by decide)⟩) ?_ ?_ ?_
    · refine .cons (fun j f w' hj hI hs => ?_) ?_
      · obtain ⟨s, x, y, p', q', h1, h2⟩ := S.out.b.keep hI.1
        exact ⟨wanted_none rfl, _, rfl, .val (rn_load61 rfl (fr_old rfl rfl) h1) ⟨⟨Below.refl _ _, h2⟩, (fun h => by cases h)⟩⟩
      refine .cons (fun j f w' hj hI hs => ⟨wanted_none rfl, _, rfl, .call1 rfl cf105 rfl rfl ((PDg.kd (under_any _ bn q _ (hs 12 (by kernel_rfl)))).mono fun _ _ ⟨v, he, hr⟩ => ⟨v, he, hr, (fun h => by cases h)⟩)⟩) ?_
      refine .cons (fun j f w' hj hI hs => ⟨wanted_none rfl, _, rfl, .val (rn_field61_0 rfl (fr_old rfl rfl)) ⟨⟨Below.refl _ _, rfl⟩, (fun h => by cases h)⟩⟩) ?_
      refine .cons (fun j f w' hj hI hs => ⟨wanted_none rfl, _, rfl, .val (rn_field29_0 rfl ((fr_own rfl rfl).trans (hs 14 (by kernel_rfl)))) ⟨⟨Below.refl _ _, rfl⟩, (fun h => by cases h)⟩⟩) ?_
      refine .cons (fun j f w' hj hI hs => ⟨wanted_none rfl, _, rfl, .val (rn_load4 rfl ((fr_own rfl rfl).trans (hs 15 (by kernel_rfl))) (cell_blk (i := 0) (blk_keep BB.out hI.1))) ⟨⟨Below.refl _ _, rfl⟩, (fun h => by cases h)⟩⟩) ?_
      refine .cons (fun j f w' hj hI hs => ⟨wanted_none rfl, _, rfl, .call2 rfl cf87 rfl rfl rfl rfl (by rw [show f 16 = Value.bool s2 from (hs 16 (by kernel_rfl))]; exact (PZ.kd (signed_any _ q s2 _ (hs 13 (by kernel_rfl)))).mono fun _ _ ⟨v, he, hr⟩ => ⟨v, he, hr, (fun h => by cases h)⟩)⟩) ?_
      refine .cons (fun j f w' hj hI hs => ⟨wanted_none rfl, _, rfl, .val (rn_field61_0 rfl (fr_old rfl rfl)) ⟨⟨Below.refl _ _, rfl⟩, (fun h => by cases h)⟩⟩) ?_
      refine .cons (fun j f w' hj hI hs => ⟨wanted_none rfl, _, rfl, .val (rn_field29_1 rfl ((fr_own rfl rfl).trans (hs 18 (by kernel_rfl)))) ⟨⟨Below.refl _ _, rfl⟩, (fun h => by cases h)⟩⟩) ?_
      refine .cons (fun j f w' hj hI hs => ?_) ?_
      · obtain ⟨x, p', h1, h2, h3⟩ := (S.out.b.keep hI.1).dgp
        exact ⟨wanted_none rfl, _, rfl, .val (rn_load27c rfl ((fr_own rfl rfl).trans (hs 19 (by kernel_rfl))) h1 h2) ⟨⟨Below.refl _ _, h3⟩, (fun h => by cases h)⟩⟩
      refine .cons (fun j f w' hj hI hs => ⟨wanted_none rfl, _, rfl, .call2 rfl cf107 rfl rfl rfl rfl ((PR.kd (lowest_any _ _ (if s2 = true then -(q : Int) else (q : Int)) bn.natAbs _ (hs 17 (by kernel_rfl)) (hs 20 (by kernel_rfl)) POS.out LOW.out)).mono fun _ _ ⟨v, he, hr⟩ => ⟨v, he, hr, (fun h => by cases h)⟩)⟩) ?_
      refine .cons (fun j f w' hj hI hs => ⟨wanted_none rfl, _, rfl, .val (rn_alloc61 rfl) ⟨⟨bl1 _ _, _, rfl, hI.1.size, _, _, _, _, _, Go.Deep.blk_alloc_new _ _⟩, fun _ => ⟨rfl, by simp⟩⟩⟩) .nil
    · refine .cons (fun f w' hI hs hne => ⟨wanted_none rfl, rfl, ?_⟩) .nil
      have h1 : Rr w' (f 21) (if s2 = true then -(q : Int) else (q : Int)) bn.natAbs := (hs 21 (by kernel_rfl))
      obtain ⟨T, e, hB, hz⟩ : ∃ T, f 6 = .pointer (some ⟨T, 0, none⟩) ∧ w1.heap.size ≤ T ∧ Rq T w' := (hs 6 (by kernel_rfl))
      obtain ⟨s8, x8, p8, y8, q8, e1⟩ := h1.agg
      rw [e1] at h1
      exact .skip (rn_store61 rfl ((fr_own rfl rfl).trans e) ((fr_own rfl rfl).trans e1) hz) ⟨⟨⟨below5 hI.1 hB _ _ _ _ _, fun _ => ⟨T, e, Hq.stored hz h1⟩⟩, fun t v => (kV3 t) hz⟩, by simp [World.setCell]⟩
    · intro f w' hI _
      obtain ⟨T, h1, h2⟩ := hI.2 (by decide)
      refine hK _ _ (Met.intro (hJ _ _ ?_))
      (repeat apply Exists.intro)
      refine ⟨?_, rfl⟩
      exact ⟨T, h1, h2, hI.1⟩
  case rest =>
    obtain ⟨T, rfl, hQ, kW⟩ := hcut
    have S := S.out.keep kW
    obtain ⟨sa, xa, ya, pa, qa, ca, ra⟩ := S.a
    obtain ⟨sb, xb, yb, pb, qb, cb, rb⟩ := hQ
    have a1 := cell_blk (i := 0) ca
    have a2 := cell_blk (i := 1) ca
    have a3 := cell_blk (i := 2) ca
    have a4 := cell_blk (i := 3) ca
    have a5 := cell_blk (i := 4) ca
    have b1 := cell_blk (i := 0) cb
    have b2 := cell_blk (i := 1) cb
    have b3 := cell_blk (i := 2) cb
    have b4 := cell_blk (i := 3) cb
    have b5 := cell_blk (i := 4) cb
    have RA := Lib.hid ra; have RB := Lib.hid rb
    have SK := Lib.hid S.k; have ST := Lib.hid S.t
    clear ra rb ca cb S kW
    go_wp2_with fail
    refine (HM.out _ _ _ RA.out RB.out).mono ?_
    rintro e w5 ⟨hb5, v5, rfl, h5⟩
    have t5 := ST.out.keep hb5 ST.out.lt
    have k5 := Below.thru SK.out SK.out.size hb5
    obtain ⟨s7, x7, p7, y7, r7, rfl⟩ := h5.agg
    have H5 := Lib.hid h5
    clear hb5 h5 a1 a2 a3 a4 a5 b1 b2 b3 b4 b5 RA RB
    have HF := Lib.hid (H5.out.store t5.odd (grown5 w5 (w.heap.size + 1 + 1) (.bool s7) (.int .u64 x7) (.pointer p7) (.int .u64 y7) (.pointer r7)))
    obtain ⟨_, _, _, _, _, m1, m2, m3, m4, m5, m6, m7, m8, m9, m10⟩ := t5.cells
    obtain ⟨n1, n2, n3, n4, n5⟩ := five_cells m1 m2 m3 m4 m5 (.bool s7) (.int .u64 x7) (.pointer p7) (.int .u64 y7) (.pointer r7)
    have KF := Lib.hid k5
    clear k5 t5
    unfold st5 at n1 n2 n3 n4 n5
    go_wp2
    exact bodyPost_ret (v := .tuple #[.agg #[.bool s7, .int .u64 x7, .pointer p7, .int .u64 y7, .pointer r7], .int .i64 0]) (by simp [results, Tryz.results39, go_sem, n1, n2, n3, n4, n5]) rfl ⟨below5 KF.out (by omega) _ _ _ _ _, _, rfl, HF.out⟩
theorem Bd9.inv {k : Nat} {b : Rat} (h : Bd9 k b) (h0 : b ≠ 0) : Bd9 k b⁻¹ := by
  have hn : b.num ≠ 0 := fun e => h0 (Rat.num_eq_zero.1 e)
  constructor
  · rw [Rat.num_inv, Int.natAbs_mul, Int.natAbs_sign_of_ne_zero hn, Nat.one_mul, Int.natAbs_natCast]; exact h.2
  · rw [Rat.den_inv, if_neg hn]; exact h.1
theorem rdivR {va vb : Value} {a b : Rat} {k l : Nat} {w : World} (ha : Rr w va a.num a.den) (hb : Rr w vb b.num b.den) (ba : Bd9 k a) (bb : Bd9 l b) (hk : k + l ≤ 1000) (h0 : b ≠ 0) : Calls Tryz.prog 39 #[va, vb] w (PRe (a / b).num (a / b).den 0 w) := by
  have hn : b.num ≠ 0 := fun e => h0 (Rat.num_eq_zero.1 e)
  rw [Rat.div_def]
  refine rdiv_any va vb a.num b.num _ a.den b.den _ w ha hb hn fun W v1 v2 h1 h2 => rmulR (b := b⁻¹) h1 ?_ ba (bb.inv h0) hk
  rw [Rat.num_inv, Rat.den_inv, if_neg hn]
  exact h2
end Go.Proofs.YtjjomjjgoceklaaGreat

import Derived.Test.YtjjomjjgoceklaaGreatVe
import Derived.Test.YtjjomjjgoceklaaGreatKbg
import Derived.Test.YtjjomjjgoceklaaGreatVf
namespace Go.Proofs.YtjjomjjgoceklaaGreat
set_option maxRecDepth 100000
open Go.RowKit

/-! V.Text, R.Sign -/
theorem cf80 : CF 80 := fun W args => by go_simp
theorem PTr.kd {n : Int} {d : Nat} {w : World} {g : FuncId} {args : Array Value} (h : Calls Tryz.prog g args w (PTr n d w)) : Calls Tryz.prog g args w fun e w' => ∃ v, e = .returned v ∧ (Below w.heap.size w w' ∧ Go.Proofs.YtjjomjjgoceklaaGreat.kd (.v (.string (txtR n d))) v w') :=
  h.mono fun _ _ ⟨hb, he⟩ => ⟨_, he, hb, rfl⟩
theorem rn_add9 {ρ : Operand → Value} {o : Oper} {w : World} {t c : Operand} {s u : ByteArray} (ho : o.op = .binOp .add 9 t c 9) (h1 : ρ t = .string s) (h2 : ρ c = .string u) (hs : s.size + u.size ≤ 9223372036854775807) : (execOp ρ o).run Tryz.prog w = .ok (.value (.string (s ++ u))) w := by
  unfold execOp; rw [ho]; simp [go_sem, h1, h2, hs]
theorem addsz {s u : ByteArray} {a b : Nat} (h1 : s.size ≤ a) (h2 : u.size ≤ b) (h : a + b ≤ 9223372036854775807) : s.size + u.size ≤ 9223372036854775807 := by omega
theorem catsz {s u : ByteArray} {a b : Nat} (h1 : s.size ≤ a) (h2 : u.size ≤ b) : (s ++ u).size ≤ a + b := by rw [ByteArray.size_append]; omega
structure S46 (w0 : World) (n m : Int) (d e : Nat) (w : World) : Prop where
  k : Below w0.heap.size w0 w
  x : Vq w0.heap.size 0 n d w
  z : Vq w0.heap.size 5 m e w
theorem S46.keep {w0 w w' : World} {n m : Int} {d e : Nat} (h : S46 w0 n m d e w) (hb : Below w.heap.size w w') : S46 w0 n m d e w' := ⟨Below.thru h.k h.k.size hb, h.x.keep hb, h.z.keep hb⟩
end Go.Proofs.YtjjomjjgoceklaaGreat
namespace Go.Proofs.YtjjomjjgoceklaaGreat
set_option maxRecDepth 100000
open Go.RowKit

/-! R.Cmp -/
theorem cf110 : CF 110 := fun W args => by go_simp
structure S52 (w0 : World) (an bn : Int) (p q : Nat) (w : World) : Prop where
  k : Below w0.heap.size w0 w
  a : Hq w0.heap.size an p w
  b : Hq (w0.heap.size + 1) bn q w
theorem S52.keep {w0 w w' : World} {an bn : Int} {p q : Nat} (h : S52 w0 an bn p q w) (hb : Below w.heap.size w w') : S52 w0 an bn p q w' := ⟨Below.thru h.k h.k.size hb, h.a.keep hb, h.b.keep hb⟩
theorem s52_new {w : World} {an bn : Int} {p q : Nat} {s1 : Bool} {x1 y1 : Int} {p1 q1 : Option Addr} {s2 : Bool} {x2 y2 : Int} {p2 q2 : Option Addr} (ha : Rr w (.agg #[.bool s1, .int .u64 x1, .pointer p1, .int .u64 y1, .pointer q1]) an p) (hb : Rr w (.agg #[.bool s2, .int .u64 x2, .pointer p2, .int .u64 y2, .pointer q2]) bn q) :
    S52 w an bn p q ((w.alloc (.cells #[.bool s1, .int .u64 x1, .pointer p1, .int .u64 y1, .pointer q1] 33)).alloc (.cells #[.bool s2, .int .u64 x2, .pointer p2, .int .u64 y2, .pointer q2] 33)) :=
  ⟨bl2 _ _ _, ⟨s1, x1, y1, p1, q1, blk_keep (Go.Deep.blk_alloc_new _ _) (bl1 _ _), ha.keep (bl2 _ _ _) (Nat.le_refl _)⟩,
    ⟨s2, x2, y2, p2, q2, by have := Go.Deep.blk_alloc_new (w.alloc (.cells #[.bool s1, .int .u64 x1, .pointer p1, .int .u64 y1, .pointer q1] 33)) (.cells #[.bool s2, .int .u64 x2, .pointer p2, .int .u64 y2, .pointer q2] 33); rw [World.size_alloc] at this; exact this, hb.keep (bl2 _ _ _) (Nat.le_refl _)⟩⟩
def D52 (t : Nat) : Bool := Nat.ble 4 t && Nat.ble t 15
def tab52 (S : Nat) (an bn : Int) (p q : Nat) (t : Nat) : Kd := [ki (sgnZ (an * q) (bn * p)), kp S 0, .z an, .q bn q, .g q, .z (an * q), kp (S + 1) 0, .z bn, .q an p, .g p, .z (bn * p), ki (sgnZ (an * q) (bn * p))].getD (t - 4) .any
set_option maxHeartbeats 800000 in
theorem rcmp_any (va vb : Value) (an bn : Int) (p q : Nat) (w : World) (ha : Rr w va an p) (hb : Rr w vb bn q) (sa : Sz an.natAbs) (sb : Sz bn.natAbs) (sp : Sz p) (sq : Sz q) : Calls Tryz.prog 52 #[va, vb] w (PSg (an * q) (bn * p) w) := by
  have SA := Lib.hid sa; have SB := Lib.hid sb; have SP := Lib.hid sp; have SQ := Lib.hid sq
  obtain ⟨s1, x1, p1, y1, q1, rfl⟩ := ha.agg
  obtain ⟨s2, x2, p2, y2, q2, rfl⟩ := hb.agg
  have S0 := Lib.hid (s52_new ha hb)
  clear ha hb sa sb sp sq
  go_enter Tryz.func52, Tryz.ntmps52
  go_wp2_with fail
  go_cut [4] (fun v wc => v = .int .i64 (sgnZ (an * q) (bn * p)) ∧ Below w.heap.size w wc)
  case first =>
    rename_i J K' hJ hK
    refine wp_region_kd D52 (tab52 w.heap.size an bn p q) (S52 w an bn p q) (by kernel_rfl) (by kernel_rfl) (by kernel_rfl) (by kernel_rfl) (fun _ _ h hb => h.keep hb) (S0.out.keep (Below.refl _ _).drew) ?_ ?_
    · refine .cons (fun f w' hI hs => ⟨wanted_none rfl, _, rfl, .val (rn_field61_0 rfl (fr_old rfl rfl)) ⟨Below.refl _ _, rfl⟩⟩) ?_
      refine .cons (fun f w' hI hs => ?_) ?_
      · obtain ⟨s, x, p', h1, h2⟩ := hI.a.b3
        exact ⟨wanted_none rfl, _, rfl, .val (rn_load29 rfl ((fr_own rfl rfl).trans (hs 5 (by kernel_rfl))) h1) ⟨Below.refl _ _, h2⟩⟩
      refine .cons (fun f w' hI hs => ?_) ?_
      · obtain ⟨s, x, y, p', q', h1, h2⟩ := hI.b
        exact ⟨wanted_none rfl, _, rfl, .val (rn_load61 rfl (fr_old rfl rfl) h1) ⟨Below.refl _ _, h2⟩⟩
      refine .cons (fun f w' hI hs => ⟨wanted_none rfl, _, rfl, .call1 rfl cf105 rfl rfl (PDg.kd (under_any _ bn q _ (hs 7 (by kernel_rfl))))⟩) ?_
      refine .cons (fun f w' hI hs => ⟨wanted_none rfl, _, rfl, .call2 rfl cf110 rfl rfl rfl rfl (PZ.kd (multiple_any _ _ an q _ (hs 6 (by kernel_rfl)) (hs 8 (by kernel_rfl)) SA.out SQ.out))⟩) ?_
      refine .cons (fun f w' hI hs => ⟨wanted_none rfl, _, rfl, .val (rn_field61_0 rfl (fr_old rfl rfl)) ⟨Below.refl _ _, rfl⟩⟩) ?_
      refine .cons (fun f w' hI hs => ?_) ?_
      · obtain ⟨s, x, p', h1, h2⟩ := hI.b.b3
        exact ⟨wanted_none rfl, _, rfl, .val (rn_load29 rfl ((fr_own rfl rfl).trans (hs 10 (by kernel_rfl))) h1) ⟨Below.refl _ _, h2⟩⟩
      refine .cons (fun f w' hI hs => ?_) ?_
      · obtain ⟨s, x, y, p', q', h1, h2⟩ := hI.a
        exact ⟨wanted_none rfl, _, rfl, .val (rn_load61 rfl (fr_old rfl rfl) h1) ⟨Below.refl _ _, h2⟩⟩
      refine .cons (fun f w' hI hs => ⟨wanted_none rfl, _, rfl, .call1 rfl cf105 rfl rfl (PDg.kd (under_any _ an p _ (hs 12 (by kernel_rfl))))⟩) ?_
      refine .cons (fun f w' hI hs => ⟨wanted_none rfl, _, rfl, .call2 rfl cf110 rfl rfl rfl rfl (PZ.kd (multiple_any _ _ bn p _ (hs 11 (by kernel_rfl)) (hs 13 (by kernel_rfl)) SB.out SP.out))⟩) ?_
      refine .cons (fun f w' hI hs => ⟨wanted_none rfl, _, rfl, .call2 rfl cf77 rfl rfl rfl rfl (PSg.kdn (zcmp_any _ _ (an * q) (bn * p) _ (hs 9 (by kernel_rfl)) (hs 14 (by kernel_rfl))))⟩) ?_
      refine .cons (fun f w' hI hs => ⟨wanted_none rfl, _, rfl, .val (rn_assign rfl) ⟨Below.refl _ _, ((fr_own rfl rfl).trans (hs 15 (by kernel_rfl)))⟩⟩) .nil
    · intro f w' hI hk
      have h2 : f 4 = .int .i64 (sgnZ (an * q) (bn * p)) := hk 4 (by kernel_rfl)
      refine hK _ _ (Met.intro (hJ _ _ ?_))
      (repeat apply Exists.intro)
      refine ⟨?_, rfl⟩
      exact ⟨h2, hI.k⟩
  case rest =>
    obtain ⟨rfl, kf⟩ := hcut
    go_wp2
    go_ret
    exact ⟨kf, rfl⟩

/-! the ratios' functions as the rationals' -/
section
variable {va vb : Value} {a b : Rat} {k l : Nat} {w : World}
theorem Bd9.szn (h : Bd9 k a) (hk : k ≤ 1000) : Sz a.num.natAbs := wb_sz h.1 hk
theorem Bd9.szd (h : Bd9 k a) (hk : k ≤ 1000) : Sz a.den := wb_sz h.2 hk
theorem raddR (ha : Rr w va a.num a.den) (hb : Rr w vb b.num b.den) (ba : Bd9 k a) (bb : Bd9 l b) (hk : k + l + 1 ≤ 1000) : Calls Tryz.prog 42 #[va, vb] w (PRq (a + b) w) := by
  have hp := a.den_pos
  have hq := b.den_pos
  have m1 : a.num.natAbs * b.den < WB ^ (k + l) := wb_mul ba.1 bb.2
  have m2 : b.num.natAbs * a.den < WB ^ (k + l) := by rw [Nat.add_comm k l]; exact wb_mul bb.1 ba.2
  have n1 : (a.num * (b.den / Nat.gcd a.den b.den : Nat)).natAbs < WB ^ (k + l) := by
    rw [Int.natAbs_mul, Int.natAbs_natCast]; exact Nat.lt_of_le_of_lt (Nat.mul_le_mul_left _ (Nat.div_le_self _ _)) m1
  have n2 : (b.num * (a.den / Nat.gcd a.den b.den : Nat)).natAbs < WB ^ (k + l) := by
    rw [Int.natAbs_mul, Int.natAbs_natCast]; exact Nat.lt_of_le_of_lt (Nat.mul_le_mul_left _ (Nat.div_le_self _ _)) m2
  have ba' := ba.mono (l := k + l + 1) (by omega)
  have bb' := bb.mono (l := k + l + 1) (by omega)
  have h := radd_any (WB ^ (k + l + 1)) va vb a.num b.num a.den b.den w ha hb (num_all _ hk) ba'.2 bb'.2 _ rfl (Nat.lt_of_le_of_lt (Int.natAbs_add_le _ _) (wb_add n1 n2)) (ba.szn (by omega)) (bb.szn (by omega)) (ba.szd (by omega)) (bb.szd (by omega)) (wb_sz n1 (by omega)) (wb_sz n2 (by omega))
  have e := rat_of_div (den_ne a b) (Nat.mul_pos (Nat.div_pos (Nat.gcd_le_left _ hp) (Nat.gcd_pos_of_pos_left _ hp)) (Nat.div_pos (Nat.le_trans (Nat.gcd_le_right _ (Nat.gcd_pos_of_pos_left _ hp)) (Nat.gcd_le_right _ hq)) (Nat.gcd_pos_of_pos_right _ (Nat.gcd_pos_of_pos_left _ hp)))) (cop_all hp hq a.reduced b.reduced _ rfl) (sum_eq rfl)
  rw [← rat_add] at e
  rw [e.1, e.2] at h
  exact h
theorem rcmpR (ha : Rr w va a.num a.den) (hb : Rr w vb b.num b.den) (ba : Bd9 k a) (bb : Bd9 l b) (hk : k ≤ 1000) (hl : l ≤ 1000) : Calls Tryz.prog 52 #[va, vb] w fun e w' => Below w.heap.size w w' ∧ e = .returned (.int .i64 (cmpQ a b)) := by
  rw [← cmpQ_of]
  exact rcmp_any va vb a.num b.num a.den b.den w ha hb (ba.szn hk) (bb.szn hl) (ba.szd hk) (bb.szd hl)
end
end Go.Proofs.YtjjomjjgoceklaaGreat
namespace Go.Proofs.YtjjomjjgoceklaaGreat
set_option maxRecDepth 100000
open Go.RowKit

/-! R.Div -/
section
variable {ρ : Operand → Value} {o : Oper} {w : World} {t : Operand}
end
def Ks5 (K : Kd) : Prop := ∀ {v : Value} {w : World} {T : Nat} {s : Bool} {x y : Int} {p q : Option Addr}, Rq T w → kd K v w → kd K v (st5 w T (.bool s) (.int .u64 x) (.pointer p) (.int .u64 y) (.pointer q))
theorem Ks5.z {n : Int} : Ks5 (.z n) := fun hT h => Zr.store h hT.odd (grown5 _ _ _ _ _ _ _)
theorem Ks5.q {n : Int} {d : Nat} : Ks5 (.q n d) := fun hT h => Rr.store h hT.odd (grown5 _ _ _ _ _ _ _)
theorem Ks5.g {n : Nat} : Ks5 (.g n) := fun hT h => Dg.store h hT.odd (grown5 _ _ _ _ _ _ _)
theorem Ks5.v {y : Value} : Ks5 (.v y) := by
  intro v w T s x z p q _ h
  have h1 : v = y := h
  show v = y
  exact h1
theorem Ks5.kp {b i : Nat} : Ks5 (kp b i) := Ks5.v
theorem Ks5.any : Ks5 .any := fun _ _ => trivial
theorem Ks5.getD {L : List Kd} (h : ∀ K ∈ L, Ks5 K) (j : Nat) : Ks5 (L.getD j .any) := by
  intro v w T s x y p q
  rw [List.getD_eq_getElem?_getD]
  cases hj : L[j]? with
  | none => exact fun _ _ => trivial
  | some K => exact h K (List.mem_of_getElem? hj)
end Go.Proofs.YtjjomjjgoceklaaGreat

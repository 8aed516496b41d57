import Derived.Test.YtjjomjjgoceklaaGreatKdd
import Derived.Test.YtjjomjjgoceklaaGreatKbi
namespace Go.Proofs.YtjjomjjgoceklaaGreat
set_option maxRecDepth 100000
open Go.RowKit

/-! the law WholeField -/
theorem PRq.kd {r : Rat} {w : World} {g : FuncId} {args : Array Value} (h : Calls Tryz.prog g args w (PRq r w)) : Calls Tryz.prog g args w fun e w' => ∃ v, e = .returned v ∧ (Below w.heap.size w w' ∧ Go.Proofs.YtjjomjjgoceklaaGreat.kd (.q r.num r.den) v w') := h.mono fun _ _ ⟨hb, v, he, hv⟩ => ⟨v, he, hb, hv⟩
theorem PCq.kd {a b : Rat} {w : World} {g : FuncId} {args : Array Value} (h : Calls Tryz.prog g args w fun e w' => Below w.heap.size w w' ∧ e = .returned (.int .i64 (cmpQ a b))) : Calls Tryz.prog g args w fun e w' => ∃ v, e = .returned v ∧ (Below w.heap.size w w' ∧ Go.Proofs.YtjjomjjgoceklaaGreat.kd (ki (cmpQ a b)) v w') := h.mono fun _ _ ⟨hb, he⟩ => ⟨_, he, hb, rfl⟩
theorem Bd9.sub {k l : Nat} {a b : Rat} (ha : Bd9 k a) (hb : Bd9 l b) : Bd9 (k + l + 1) (a - b) := by rw [Rat.sub_eq_add_neg]; exact ha.add hb.neg
theorem Bd9.div {k l : Nat} {a b : Rat} (ha : Bd9 k a) (hb : Bd9 l b) (h0 : b ≠ 0) : Bd9 (k + l) (a / b) := by rw [Rat.div_def]; exact ha.mul (hb.inv h0)
theorem Bd9.wn {k : Nat} {a : Rat} (h : Bd9 k a) : Wk k a.num := h.1
theorem Bd9.wd {k : Nat} {a : Rat} (h : Bd9 k a) : Wk k (a.den : Int) := by unfold Wk; rw [Int.natAbs_natCast]; exact h.2
theorem rnum_any (v : Value) (n : Int) (d : Nat) (w : World) (h : Rr w v n d) : Calls Tryz.prog 30 #[v] w (PZ n w) := by
  obtain ⟨s, x, p, y, q, rfl⟩ := h.agg
  have HR := Lib.hid h.num
  clear h
  go_enter Tryz.func30, Tryz.ntmps30
  go_wp2
  exact bodyPost_ret (v := .agg #[.bool s, .int .u64 x, .pointer p]) (by simp [results, Tryz.results30, go_sem]) rfl ⟨bl2 _ _ _, _, rfl, HR.out.keep (bl2 _ _ _) (Nat.le_refl _)⟩
section
variable {ρ : Operand → Value} {o : Oper} {w : World} {t c : Operand} {n m : Int} {r : Bool}
theorem rn_eqlI (ho : o.op = .binOp .eql 3 t c 3) (h1 : ρ t = .int .i64 n) (h2 : ρ c = .int .i64 m) (hc : (n == m) = r) : (execOp ρ o).run Tryz.prog w = .ok (.value (.bool r)) w := by
  subst hc; unfold execOp; rw [ho]; simp [go_sem, h1, h2]
theorem rn_neqI (ho : o.op = .binOp .neq 3 t c 3) (h1 : ρ t = .int .i64 n) (h2 : ρ c = .int .i64 m) (hc : (n != m) = r) : (execOp ρ o).run Tryz.prog w = .ok (.value (.bool r)) w := by
  subst hc; unfold execOp; rw [ho]; simp [go_sem, h1, h2, bne]
theorem rn_gtrI (ho : o.op = .binOp .gtr 3 t c 3) (h1 : ρ t = .int .i64 n) (h2 : ρ c = .int .i64 m) (hc : decide (m < n) = r) : (execOp ρ o).run Tryz.prog w = .ok (.value (.bool r)) w := by
  subst hc; unfold execOp; rw [ho]; simp [go_sem, h1, h2]
theorem rn_lssI (ho : o.op = .binOp .lss 3 t c 3) (h1 : ρ t = .int .i64 n) (h2 : ρ c = .int .i64 m) (hc : decide (n < m) = r) : (execOp ρ o).run Tryz.prog w = .ok (.value (.bool r)) w := by
  subst hc; unfold execOp; rw [ho]; simp [go_sem, h1, h2]
theorem rn_leqI (ho : o.op = .binOp .leq 3 t c 3) (h1 : ρ t = .int .i64 n) (h2 : ρ c = .int .i64 m) (hc : decide (n ≤ m) = r) : (execOp ρ o).run Tryz.prog w = .ok (.value (.bool r)) w := by
  subst hc; unfold execOp; rw [ho]; simp [go_sem, h1, h2]
theorem rn_eqlO (ho : o.op = .binOp .eql 29 t c 29) (h1 : ρ t = .int .i64 n) (h2 : ρ c = .int .i64 m) (hc : (n == m) = r) : (execOp ρ o).run Tryz.prog w = .ok (.value (.bool r)) w := by
  subst hc; unfold execOp; rw [ho]; simp [go_sem, h1, h2]
end
theorem OpR.callk {o : Oper} {a0 : Act} {D : Nat → Bool} {f : Nat → Value} {w : World} {R : Value → World → Prop} {n : FuncId} {x : Value} {ts : Array TypeId} (ho : o.op = .call { callee := .value (.func n), args := #[.const x], argTypes := ts }) (hcf : CF n)
    (h : Calls Tryz.prog n #[x] w fun e w' => ∃ v, e = .returned v ∧ R v w') : OpR Tryz.prog o (fr a0 D f) w R := .inr (.inr ⟨n, _, rn_call1 ho rfl hcf, h⟩)
theorem cf52 : CF 52 := fun W args => by go_simp
theorem cf30 : CF 30 := fun W args => by go_simp
theorem rn_neg3 {ρ : Operand → Value} {o : Oper} {w : World} {t : Operand} {n m : Int} (ho : o.op = .unOp .neg 3 t) (h1 : ρ t = .int .i64 n) (hc : IntKind.i64.wrap (-n) = m) : (execOp ρ o).run Tryz.prog w = .ok (.value (.int .i64 m)) w := by
  subst hc; unfold execOp; rw [ho]; simp [go_sem, h1]
theorem rn_neq29 {ρ : Operand → Value} {o : Oper} {w : World} {t c : Operand} {n m : Int} {r : Bool} (ho : o.op = .binOp .neq 29 t c 29) (h1 : ρ t = .int .i64 n) (h2 : ρ c = .int .i64 m) (hc : (n != m) = r) : (execOp ρ o).run Tryz.prog w = .ok (.value (.bool r)) w := by
  subst hc; unfold execOp; rw [ho]; simp [go_sem, h1, h2, bne]
theorem cmpQ_bd (a b : Rat) : -1 ≤ cmpQ a b ∧ cmpQ a b ≤ 1 := by unfold cmpQ; split; omega; split <;> omega
/-- three ratios in boxes -/
structure F3 (w0 : World) (a b c : Rat) (Ta Tb Tc : Nat) (w : World) : Prop where
  k : Below w0.heap.size w0 w
  a : Hq Ta a.num a.den w
  b : Hq Tb b.num b.den w
  c : Hq Tc c.num c.den w
theorem F3.keep {w0 : World} {a b c : Rat} {Ta Tb Tc : Nat} {w w' : World} (h : F3 w0 a b c Ta Tb Tc w) (hb : Below w.heap.size w w') : F3 w0 a b c Ta Tb Tc w' := ⟨Below.thru h.k h.k.size hb, h.a.keep hb, h.b.keep hb, h.c.keep hb⟩
structure F4q (w0 : World) (a b c q : Rat) (Ta Tb Tc Tq : Nat) (w : World) : Prop where
  f : F3 w0 a b c Ta Tb Tc w
  q : Hq Tq q.num q.den w
theorem F4q.keep {w0 : World} {a b c q : Rat} {Ta Tb Tc Tq : Nat} {w w' : World} (h : F4q w0 a b c q Ta Tb Tc Tq w) (hb : Below w.heap.size w w') : F4q w0 a b c q Ta Tb Tc Tq w' := ⟨h.f.keep hb, h.q.keep hb⟩
structure F1s (w0 : World) (s : Rat) (T : Nat) (w : World) : Prop where
  k : Below w0.heap.size w0 w
  s : Hq T s.num s.den w
theorem F1s.keep {w0 : World} {s : Rat} {T : Nat} {w w' : World} (h : F1s w0 s T w) (hb : Below w.heap.size w w') : F1s w0 s T w' := ⟨Below.thru h.k h.k.size hb, h.s.keep hb⟩
/-- the box of a Num -/
def Xn (T : Nat) (A B : Int) (w : World) : Prop := w.heap[T]? = some (.cells #[.int .i64 A, .int .i64 B] 65 (0, 0))
theorem Xn.keep {T : Nat} {A B : Int} {w w' : World} (h : Xn T A B w) (hb : Below w.heap.size w w') : Xn T A B w' := blk_keep h hb
theorem Xn.cells {T : Nat} {A B : Int} {w : World} (h : Xn T A B w) : w.cell? ⟨T, 0, none⟩ = some (.int .i64 A) ∧ w.cell? ⟨T, 1, none⟩ = some (.int .i64 B) := by
  have h' : w.heap[T]? = _ := h
  constructor <;> simp [World.cell?, h']
theorem xn_new (w : World) (A B : Int) {T : Nat} (hT : T = w.heap.size) : Xn T A B (w.alloc (.cells #[.int .i64 A, .int .i64 B] 65)) := by subst hT; exact Go.Deep.blk_alloc_new _ _
def tabH4 (a b c : Rat) (d : Nat) : Kd := [.q a.num a.den, .q b.num b.den, .q (a + b).num (a + b).den, .q b.num b.den, .q a.num a.den, .q (b + a).num (b + a).den, (ki (cmpQ (a + b) (b + a))), (.v (.bool false)), (.v (.bool false)), .q a.num a.den, .q b.num b.den, .q c.num c.den, .q (b + c).num (b + c).den, .q (a * (b + c)).num (a * (b + c)).den, .q a.num a.den, .q b.num b.den, .q (a * b).num (a * b).den, .q a.num a.den, .q c.num c.den, .q (a * c).num (a * c).den, .q ((a * b) + (a * c)).num ((a * b) + (a * c)).den, (ki (cmpQ (a * (b + c)) ((a * b) + (a * c)))), (.v (.bool false)), (.v (.bool false)), (.v (.bool false)), .q a.num a.den, .q b.num b.den, .q (a - b).num (a - b).den, .q b.num b.den, .q ((a - b) + b).num ((a - b) + b).den, .q a.num a.den, (ki (cmpQ ((a - b) + b) a)), (.v (.bool false)), (.v (.bool false)), (.v (.bool false)), .q a.num a.den, .q b.num b.den, (ki (cmpQ a b)), .q a.num a.den, .q c.num c.den, .q (a + c).num (a + c).den, .q b.num b.den, .q c.num c.den, .q (b + c).num (b + c).den, (ki (cmpQ (a + c) (b + c))), (.v (.bool false)), (.v (.bool false)), (.v (.bool false)), .q a.num a.den, .q b.num b.den, (ki (cmpQ a b)), .q b.num b.den, .q a.num a.den, (ki (cmpQ b a)), (ki (cmpQ a b)), (.v (.bool false)), (.v (.bool false))].getD (d - 31) .any
def DH4 (t : Nat) : Bool := (Nat.ble 31 t && Nat.ble t 87)
def tabH8 (a b : Rat) (d : Nat) : Kd := [(ki 0), (.v (.bool false)), (.v (.bool false)), .q (a / b).num (a / b).den, .q b.num b.den, .q ((a / b) * b).num ((a / b) * b).den, .q a.num a.den, (ki (cmpQ ((a / b) * b) a)), (.v (.bool false)), (.v (.bool false))].getD (d - 97) .any
def DH8 (t : Nat) : Bool := (Nat.ble 97 t && Nat.ble t 106)
def tabH10 (w : World) (a b c : Rat) (d : Nat) : Kd := if d = 15 then (kbq w.heap.size) else [.q a.num a.den, .q b.num b.den, .q (a + b).num (a + b).den, .q c.num c.den, .q ((a + b) * c).num ((a + b) * c).den].getD (d - 107) .any
def DH10 (t : Nat) : Bool := Nat.beq t 15 || (Nat.ble 107 t && Nat.ble t 111)
def tabH11 (s : Rat) (d : Nat) : Kd := if d = 6 then (.v (.bool true)) else [.q s.num s.den, .z s.num, .q s.num s.den, .z (s.den : Int), .z (Int.gcd s.num (s.den : Int) : Int), .z 1, (ki (sgnZ (Int.gcd s.num (s.den : Int) : Int) 1)), (.v (.bool true)), (.v (.bool true)), .q s.num s.den, .z (s.den : Int), (ki (s.den : Int).sign), (.v (.bool true)), (.v (.bool true)), (.v (.bool true)), (.v (.bool true)), (.v (.bool true))].getD (d - 112) .any
def DH11 (t : Nat) : Bool := Nat.beq t 6 || (Nat.ble 112 t && Nat.ble t 128)
set_option maxHeartbeats 6400000 in
theorem field_any (N1 D1 N2 D2 N3 D3 : Int) (w : World) (hN1 : I64 N1) (hD1 : I64 D1) (hN2 : I64 N2) (hD2 : I64 D2) (hN3 : I64 N3) (hD3 : I64 D3) : Calls Tryz.prog 8 #[.agg #[.int .i64 N1, .int .i64 D1], .agg #[.int .i64 N2, .int .i64 D2], .agg #[.int .i64 N3, .int .i64 D3]] w (PB true w) := by
  obtain ⟨a, Ba, ca⟩ := both_all N1 D1 hN1 hD1
  obtain ⟨b, Bb, cb⟩ := both_all N2 D2 hN2 hD2
  obtain ⟨c, Bc, cc⟩ := both_all N3 D3 hN3 hD3
  have CA := Lib.hid ca; have CB := Lib.hid cb; have CC := Lib.hid cc
  clear ca cb cc
  go_enter Tryz.func8, Tryz.ntmps8
  go_wp2_with fail
  have X2 : Xn (w.heap.size + 1) N2 D2 (((w.alloc (.cells #[.int .i64 N1, .int .i64 D1] 65)).alloc (.cells #[.int .i64 N2, .int .i64 D2] 65)).alloc (.cells #[.int .i64 N3, .int .i64 D3] 65)) := blk_al (xn_new _ N2 D2 (by simp)) _
  have X3 : Xn (w.heap.size + 1 + 1) N3 D3 (((w.alloc (.cells #[.int .i64 N1, .int .i64 D1] 65)).alloc (.cells #[.int .i64 N2, .int .i64 D2] 65)).alloc (.cells #[.int .i64 N3, .int .i64 D3] 65)) := xn_new _ N3 D3 (by simp)
  have k0 := bl3 w (.cells #[.int .i64 N1, .int .i64 D1] 65) (.cells #[.int .i64 N2, .int .i64 D2] 65) (.cells #[.int .i64 N3, .int .i64 D3] 65)
  refine (CA.out _).mono ?_
  rintro e w1 ⟨hb, u, v, rfl, hu, hv⟩
  have X3 := X3.keep hb
  have X2 := X2.keep hb
  have k1 := Below.thru k0 k0.size hb
  obtain ⟨s1, x1, p1, y1, q1, rfl⟩ := hu.agg
  obtain ⟨t1, f1, l1, g1, t1', f1', l1', g1', rfl⟩ := hv.agg
  have H1 := Lib.hid ((Hq.new hu).keep (bl1 _ (.cells #[.int .i64 t1, .slice f1 l1 g1, .int .i64 t1', .slice f1' l1' g1'] 44)))
  have X3 := X3.keep (bl2 w1 (.cells #[.bool s1, .int .u64 x1, .pointer p1, .int .u64 y1, .pointer q1] 33) (.cells #[.int .i64 t1, .slice f1 l1 g1, .int .i64 t1', .slice f1' l1' g1'] 44))
  have X2 := X2.keep (bl2 w1 (.cells #[.bool s1, .int .u64 x1, .pointer p1, .int .u64 y1, .pointer q1] 33) (.cells #[.int .i64 t1, .slice f1 l1 g1, .int .i64 t1', .slice f1' l1' g1'] 44))
  have k1 := Below.thru k1 k1.size (bl2 w1 (.cells #[.bool s1, .int .u64 x1, .pointer p1, .int .u64 y1, .pointer q1] 33) (.cells #[.int .i64 t1, .slice f1 l1 g1, .int .i64 t1', .slice f1' l1' g1'] 44))
  clear hu hv hb k0
  obtain ⟨d1, d2⟩ := X2.cells
  clear X2
  go_wp2_with fail
  refine (CB.out _).mono ?_
  rintro e w2 ⟨hb, u, v, rfl, hu, hv⟩
  have X3 := X3.keep hb
  have k2 := Below.thru k1 k1.size hb
  have H1 := Lib.hid (H1.out.keep hb)
  obtain ⟨s2, x2, p2, y2, q2, rfl⟩ := hu.agg
  obtain ⟨t2, f2, l2, g2, t2', f2', l2', g2', rfl⟩ := hv.agg
  have H2 := Lib.hid ((Hq.new hu).keep (bl1 _ (.cells #[.int .i64 t2, .slice f2 l2 g2, .int .i64 t2', .slice f2' l2' g2'] 44)))
  have X3 := X3.keep (bl2 w2 (.cells #[.bool s2, .int .u64 x2, .pointer p2, .int .u64 y2, .pointer q2] 33) (.cells #[.int .i64 t2, .slice f2 l2 g2, .int .i64 t2', .slice f2' l2' g2'] 44))
  have k2 := Below.thru k2 k2.size (bl2 w2 (.cells #[.bool s2, .int .u64 x2, .pointer p2, .int .u64 y2, .pointer q2] 33) (.cells #[.int .i64 t2, .slice f2 l2 g2, .int .i64 t2', .slice f2' l2' g2'] 44))
  have H1 := Lib.hid (H1.out.keep (bl2 w2 (.cells #[.bool s2, .int .u64 x2, .pointer p2, .int .u64 y2, .pointer q2] 33) (.cells #[.int .i64 t2, .slice f2 l2 g2, .int .i64 t2', .slice f2' l2' g2'] 44)))
  clear hu hv hb k1
  obtain ⟨d1, d2⟩ := X3.cells
  clear X3
  go_wp2_with fail
  refine (CC.out _).mono ?_
  rintro e w3 ⟨hb, u, v, rfl, hu, hv⟩
  have k3 := Below.thru k2 k2.size hb
  have H1 := Lib.hid (H1.out.keep hb)
  have H2 := Lib.hid (H2.out.keep hb)
  obtain ⟨s3, x3, p3, y3, q3, rfl⟩ := hu.agg
  obtain ⟨t3, f3, l3, g3, t3', f3', l3', g3', rfl⟩ := hv.agg
  have H3 := Lib.hid ((Hq.new hu).keep (bl1 _ (.cells #[.int .i64 t3, .slice f3 l3 g3, .int .i64 t3', .slice f3' l3' g3'] 44)))
  have k3 := Below.thru k3 k3.size (bl2 w3 (.cells #[.bool s3, .int .u64 x3, .pointer p3, .int .u64 y3, .pointer q3] 33) (.cells #[.int .i64 t3, .slice f3 l3 g3, .int .i64 t3', .slice f3' l3' g3'] 44))
  have H1 := Lib.hid (H1.out.keep (bl2 w3 (.cells #[.bool s3, .int .u64 x3, .pointer p3, .int .u64 y3, .pointer q3] 33) (.cells #[.int .i64 t3, .slice f3 l3 g3, .int .i64 t3', .slice f3' l3' g3'] 44)))
  have H2 := Lib.hid (H2.out.keep (bl2 w3 (.cells #[.bool s3, .int .u64 x3, .pointer p3, .int .u64 y3, .pointer q3] 33) (.cells #[.int .i64 t3, .slice f3 l3 g3, .int .i64 t3', .slice f3' l3' g3'] 44)))
  clear hu hv hb k2
  have S := Lib.hid (show F3 w a b c w1.heap.size w2.heap.size w3.heap.size _ from ⟨k3, H1.out, H2.out, H3.out⟩)
  clear k3 H1 H2 H3
  go_wp2_with fail
  go_cut [87] (fun v wc => v = .bool false ∧ F3 w a b c w1.heap.size w2.heap.size w3.heap.size wc)
  case first =>
    rename_i J K' hJ hK
    have T1 : (cmpQ (a + b) (b + a) != 0) = false := by rw [Rat.add_comm b a, cmpQ_self]; rfl
    have T2 : (cmpQ (a * (b + c)) ((a * b) + (a * c)) != 0) = false := by rw [Rat.mul_add, cmpQ_self]; rfl
    have T3 : (cmpQ ((a - b) + b) a != 0) = false := by rw [Rat.sub_add_cancel, cmpQ_self]; rfl
    have T4 : (cmpQ a b != cmpQ (a + c) (b + c)) = false := by rw [cmpQ_add]; simp
    have T5 : IntKind.i64.wrap (-cmpQ b a) = cmpQ a b := by
      rw [cmpQ_neg a b]
      have h := cmpQ_bd b a
      exact IntWalk.i64_in _ (by omega)
    have T6 : (cmpQ a b != cmpQ a b) = false := by simp
    refine wp_region_kd DH4 (tabH4 a b c) (F3 w a b c w1.heap.size w2.heap.size w3.heap.size) (by kernel_rfl) (by kernel_rfl) (by kernel_rfl) (by kernel_rfl) (fun _ _ h hb => h.keep hb) (S.out.keep (Below.refl _ _).drew) ?_ ?_
    ·
      refine .cons (fun f w' hI hs => ?_) ?_
      · obtain ⟨s, x, y, p, q, h1, h2⟩ := hI.a
        exact ⟨wanted_none rfl, _, rfl, .val (rn_load61 rfl (fr_old rfl rfl) h1) ⟨Below.refl _ _, h2⟩⟩
      refine .cons (fun f w' hI hs => ?_) ?_
      · obtain ⟨s, x, y, p, q, h1, h2⟩ := hI.b
        exact ⟨wanted_none rfl, _, rfl, .val (rn_load61 rfl (fr_old rfl rfl) h1) ⟨Below.refl _ _, h2⟩⟩
      refine .cons (fun f w' hI hs => ⟨wanted_none rfl, _, rfl, .call2 rfl cf42 rfl rfl rfl rfl (PRq.kd (raddR (a := a) (b := b) (hs 31 (by kernel_rfl)) (hs 32 (by kernel_rfl)) Ba Bb (by decide)))⟩) ?_
      refine .cons (fun f w' hI hs => ?_) ?_
      · obtain ⟨s, x, y, p, q, h1, h2⟩ := hI.b
        exact ⟨wanted_none rfl, _, rfl, .val (rn_load61 rfl (fr_old rfl rfl) h1) ⟨Below.refl _ _, h2⟩⟩
      refine .cons (fun f w' hI hs => ?_) ?_
      · obtain ⟨s, x, y, p, q, h1, h2⟩ := hI.a
        exact ⟨wanted_none rfl, _, rfl, .val (rn_load61 rfl (fr_old rfl rfl) h1) ⟨Below.refl _ _, h2⟩⟩
      refine .cons (fun f w' hI hs => ⟨wanted_none rfl, _, rfl, .call2 rfl cf42 rfl rfl rfl rfl (PRq.kd (raddR (a := b) (b := a) (hs 34 (by kernel_rfl)) (hs 35 (by kernel_rfl)) Bb Ba (by decide)))⟩) ?_
      refine .cons (fun f w' hI hs => ⟨wanted_none rfl, _, rfl, .call2 rfl cf52 rfl rfl rfl rfl (PCq.kd (rcmpR (a := (a + b)) (b := (b + a)) (hs 33 (by kernel_rfl)) (hs 36 (by kernel_rfl)) (Bd9.add Ba Bb) (Bd9.add Bb Ba) (by decide) (by decide)))⟩) ?_
      refine .cons (fun f w' hI hs => ⟨wanted_none rfl, _, rfl, .val (rn_neqI rfl ((fr_own rfl rfl).trans (hs 37 (by kernel_rfl))) rfl T1) ⟨Below.refl _ _, rfl⟩⟩) ?_
      refine .cons (fun f w' hI hs => ⟨wanted_none rfl, _, rfl, .val (rn_move rfl) ⟨Below.refl _ _, ((fr_own rfl rfl).trans (hs 38 (by kernel_rfl)))⟩⟩) ?_
      refine .cons (fun f w' hI hs => ?_) ?_
      · obtain ⟨s, x, y, p, q, h1, h2⟩ := hI.a
        exact ⟨wanted_some rfl (by kernel_rfl) rfl rfl (hs 39 (by kernel_rfl)), _, rfl, .val (rn_load61 rfl (fr_old rfl rfl) h1) ⟨Below.refl _ _, h2⟩⟩
      refine .cons (fun f w' hI hs => ?_) ?_
      · obtain ⟨s, x, y, p, q, h1, h2⟩ := hI.b
        exact ⟨wanted_some rfl (by kernel_rfl) rfl rfl (hs 39 (by kernel_rfl)), _, rfl, .val (rn_load61 rfl (fr_old rfl rfl) h1) ⟨Below.refl _ _, h2⟩⟩
      refine .cons (fun f w' hI hs => ?_) ?_
      · obtain ⟨s, x, y, p, q, h1, h2⟩ := hI.c
        exact ⟨wanted_some rfl (by kernel_rfl) rfl rfl (hs 39 (by kernel_rfl)), _, rfl, .val (rn_load61 rfl (fr_old rfl rfl) h1) ⟨Below.refl _ _, h2⟩⟩
      refine .cons (fun f w' hI hs => ⟨wanted_some rfl (by kernel_rfl) rfl rfl (hs 39 (by kernel_rfl)), _, rfl, .call2 rfl cf42 rfl rfl rfl rfl (PRq.kd (raddR (a := b) (b := c) (hs 41 (by kernel_rfl)) (hs 42 (by kernel_rfl)) Bb Bc (by decide)))⟩) ?_
      refine .cons (fun f w' hI hs => ⟨wanted_some rfl (by kernel_rfl) rfl rfl (hs 39 (by kernel_rfl)), _, rfl, .call2 rfl cf46 rfl rfl rfl rfl (PRq.kd (rmulR (a := a) (b := (b + c)) (hs 40 (by kernel_rfl)) (hs 43 (by kernel_rfl)) Ba (Bd9.add Bb Bc) (by decide)))⟩) ?_
      refine .cons (fun f w' hI hs => ?_) ?_
      · obtain ⟨s, x, y, p, q, h1, h2⟩ := hI.a
        exact ⟨wanted_some rfl (by kernel_rfl) rfl rfl (hs 39 (by kernel_rfl)), _, rfl, .val (rn_load61 rfl (fr_old rfl rfl) h1) ⟨Below.refl _ _, h2⟩⟩
      refine .cons (fun f w' hI hs => ?_) ?_
      · obtain ⟨s, x, y, p, q, h1, h2⟩ := hI.b
        exact ⟨wanted_some rfl (by kernel_rfl) rfl rfl (hs 39 (by kernel_rfl)), _, rfl, .val (rn_load61 rfl (fr_old rfl rfl) h1) ⟨Below.refl _ _, h2⟩⟩
      refine .cons (fun f w' hI hs => ⟨wanted_some rfl (by kernel_rfl) rfl rfl (hs 39 (by kernel_rfl)), _, rfl, .call2 rfl cf46 rfl rfl rfl rfl (PRq.kd (rmulR (a := a) (b := b) (hs 45 (by kernel_rfl)) (hs 46 (by kernel_rfl)) Ba Bb (by decide)))⟩) ?_
      refine .cons (fun f w' hI hs => ?_) ?_
      · obtain ⟨s, x, y, p, q, h1, h2⟩ := hI.a
        exact ⟨wanted_some rfl (by kernel_rfl) rfl rfl (hs 39 (by kernel_rfl)), _, rfl, .val (rn_load61 rfl (fr_old rfl rfl) h1) ⟨Below.refl _ _, h2⟩⟩
      refine .cons (fun f w' hI hs => ?_) ?_
      · obtain ⟨s, x, y, p, q, h1, h2⟩ := hI.c
        exact ⟨wanted_some rfl (by kernel_rfl) rfl rfl (hs 39 (by kernel_rfl)), _, rfl, .val (rn_load61 rfl (fr_old rfl rfl) h1) ⟨Below.refl _ _, h2⟩⟩
      refine .cons (fun f w' hI hs => ⟨wanted_some rfl (by kernel_rfl) rfl rfl (hs 39 (by kernel_rfl)), _, rfl, .call2 rfl cf46 rfl rfl rfl rfl (PRq.kd (rmulR (a := a) (b := c) (hs 48 (by kernel_rfl)) (hs 49 (by kernel_rfl)) Ba Bc (by decide)))⟩) ?_
      refine .cons (fun f w' hI hs => ⟨wanted_some rfl (by kernel_rfl) rfl rfl (hs 39 (by kernel_rfl)), _, rfl, .call2 rfl cf42 rfl rfl rfl rfl (PRq.kd (raddR (a := (a * b)) (b := (a * c)) (hs 47 (by kernel_rfl)) (hs 50 (by kernel_rfl)) (Bd9.mul Ba Bb) (Bd9.mul Ba Bc) (by decide)))⟩) ?_
      refine .cons (fun f w' hI hs => ⟨wanted_some rfl (by kernel_rfl) rfl rfl (hs 39 (by kernel_rfl)), _, rfl, .call2 rfl cf52 rfl rfl rfl rfl (PCq.kd (rcmpR (a := (a * (b + c))) (b := ((a * b) + (a * c))) (hs 44 (by kernel_rfl)) (hs 51 (by kernel_rfl)) (Bd9.mul Ba (Bd9.add Bb Bc)) (Bd9.add (Bd9.mul Ba Bb) (Bd9.mul Ba Bc)) (by decide) (by decide)))⟩) ?_
      refine .cons (fun f w' hI hs => ⟨wanted_some rfl (by kernel_rfl) rfl rfl (hs 39 (by kernel_rfl)), _, rfl, .val (rn_neqI rfl ((fr_own rfl rfl).trans (hs 52 (by kernel_rfl))) rfl T2) ⟨Below.refl _ _, rfl⟩⟩) ?_
      refine .cons (fun f w' hI hs => ⟨wanted_none rfl, _, rfl, .val (rn_pick_f rfl ((fr_own rfl rfl).trans (hs 39 (by kernel_rfl)))) ⟨Below.refl _ _, ((fr_own rfl rfl).trans (hs 53 (by kernel_rfl)))⟩⟩) ?_
      refine .cons (fun f w' hI hs => ⟨wanted_none rfl, _, rfl, .val (rn_move rfl) ⟨Below.refl _ _, ((fr_own rfl rfl).trans (hs 54 (by kernel_rfl)))⟩⟩) ?_
      refine .cons (fun f w' hI hs => ?_) ?_
      · obtain ⟨s, x, y, p, q, h1, h2⟩ := hI.a
        exact ⟨wanted_some rfl (by kernel_rfl) rfl rfl (hs 55 (by kernel_rfl)), _, rfl, .val (rn_load61 rfl (fr_old rfl rfl) h1) ⟨Below.refl _ _, h2⟩⟩
      refine .cons (fun f w' hI hs => ?_) ?_
      · obtain ⟨s, x, y, p, q, h1, h2⟩ := hI.b
        exact ⟨wanted_some rfl (by kernel_rfl) rfl rfl (hs 55 (by kernel_rfl)), _, rfl, .val (rn_load61 rfl (fr_old rfl rfl) h1) ⟨Below.refl _ _, h2⟩⟩
      refine .cons (fun f w' hI hs => ⟨wanted_some rfl (by kernel_rfl) rfl rfl (hs 55 (by kernel_rfl)), _, rfl, .call2 rfl cf44 rfl rfl rfl rfl (PRq.kd (rsubR (a := a) (b := b) (hs 56 (by kernel_rfl)) (hs 57 (by kernel_rfl)) Ba Bb (by decide)))⟩) ?_
      refine .cons (fun f w' hI hs => ?_) ?_
      · obtain ⟨s, x, y, p, q, h1, h2⟩ := hI.b
        exact ⟨wanted_some rfl (by kernel_rfl) rfl rfl (hs 55 (by kernel_rfl)), _, rfl, .val (rn_load61 rfl (fr_old rfl rfl) h1) ⟨Below.refl _ _, h2⟩⟩
      refine .cons (fun f w' hI hs => ⟨wanted_some rfl (by kernel_rfl) rfl rfl (hs 55 (by kernel_rfl)), _, rfl, .call2 rfl cf42 rfl rfl rfl rfl (PRq.kd (raddR (a := (a - b)) (b := b) (hs 58 (by kernel_rfl)) (hs 59 (by kernel_rfl)) (Bd9.sub Ba Bb) Bb (by decide)))⟩) ?_
      refine .cons (fun f w' hI hs => ?_) ?_
      · obtain ⟨s, x, y, p, q, h1, h2⟩ := hI.a
        exact ⟨wanted_some rfl (by kernel_rfl) rfl rfl (hs 55 (by kernel_rfl)), _, rfl, .val (rn_load61 rfl (fr_old rfl rfl) h1) ⟨Below.refl _ _, h2⟩⟩
      refine .cons (fun f w' hI hs => ⟨wanted_some rfl (by kernel_rfl) rfl rfl (hs 55 (by kernel_rfl)), _, rfl, .call2 rfl cf52 rfl rfl rfl rfl (PCq.kd (rcmpR (a := ((a - b) + b)) (b := a) (hs 60 (by kernel_rfl)) (hs 61 (by kernel_rfl)) (Bd9.add (Bd9.sub Ba Bb) Bb) Ba (by decide) (by decide)))⟩) ?_
      refine .cons (fun f w' hI hs => ⟨wanted_some rfl (by kernel_rfl) rfl rfl (hs 55 (by kernel_rfl)), _, rfl, .val (rn_neqI rfl ((fr_own rfl rfl).trans (hs 62 (by kernel_rfl))) rfl T3) ⟨Below.refl _ _, rfl⟩⟩) ?_
      refine .cons (fun f w' hI hs => ⟨wanted_none rfl, _, rfl, .val (rn_pick_f rfl ((fr_own rfl rfl).trans (hs 55 (by kernel_rfl)))) ⟨Below.refl _ _, ((fr_own rfl rfl).trans (hs 63 (by kernel_rfl)))⟩⟩) ?_
      refine .cons (fun f w' hI hs => ⟨wanted_none rfl, _, rfl, .val (rn_move rfl) ⟨Below.refl _ _, ((fr_own rfl rfl).trans (hs 64 (by kernel_rfl)))⟩⟩) ?_
      refine .cons (fun f w' hI hs => ?_) ?_
      · obtain ⟨s, x, y, p, q, h1, h2⟩ := hI.a
        exact ⟨wanted_some rfl (by kernel_rfl) rfl rfl (hs 65 (by kernel_rfl)), _, rfl, .val (rn_load61 rfl (fr_old rfl rfl) h1) ⟨Below.refl _ _, h2⟩⟩
      refine .cons (fun f w' hI hs => ?_) ?_
      · obtain ⟨s, x, y, p, q, h1, h2⟩ := hI.b
        exact ⟨wanted_some rfl (by kernel_rfl) rfl rfl (hs 65 (by kernel_rfl)), _, rfl, .val (rn_load61 rfl (fr_old rfl rfl) h1) ⟨Below.refl _ _, h2⟩⟩
      refine .cons (fun f w' hI hs => ⟨wanted_some rfl (by kernel_rfl) rfl rfl (hs 65 (by kernel_rfl)), _, rfl, .call2 rfl cf52 rfl rfl rfl rfl (PCq.kd (rcmpR (a := a) (b := b) (hs 66 (by kernel_rfl)) (hs 67 (by kernel_rfl)) Ba Bb (by decide) (by decide)))⟩) ?_
      refine .cons (fun f w' hI hs => ?_) ?_
      · obtain ⟨s, x, y, p, q, h1, h2⟩ := hI.a
        exact ⟨wanted_some rfl (by kernel_rfl) rfl rfl (hs 65 (by kernel_rfl)), _, rfl, .val (rn_load61 rfl (fr_old rfl rfl) h1) ⟨Below.refl _ _, h2⟩⟩
      refine .cons (fun f w' hI hs => ?_) ?_
      · obtain ⟨s, x, y, p, q, h1, h2⟩ := hI.c
        exact ⟨wanted_some rfl (by kernel_rfl) rfl rfl (hs 65 (by kernel_rfl)), _, rfl, .val (rn_load61 rfl (fr_old rfl rfl) h1) ⟨Below.refl _ _, h2⟩⟩
      refine .cons (fun f w' hI hs => ⟨wanted_some rfl (by kernel_rfl) rfl rfl (hs 65 (by kernel_rfl)), _, rfl, .call2 rfl cf42 rfl rfl rfl rfl (PRq.kd (raddR (a := a) (b := c) (hs 69 (by kernel_rfl)) (hs 70 (by kernel_rfl)) Ba Bc (by decide)))⟩) ?_
      refine .cons (fun f w' hI hs => ?_) ?_
      · obtain ⟨s, x, y, p, q, h1, h2⟩ := hI.b
        exact ⟨wanted_some rfl (by kernel_rfl) rfl rfl (hs 65 (by kernel_rfl)), _, rfl, .val (rn_load61 rfl (fr_old rfl rfl) h1) ⟨Below.refl _ _, h2⟩⟩
      refine .cons (fun f w' hI hs => ?_) ?_
      · obtain ⟨s, x, y, p, q, h1, h2⟩ := hI.c
        exact ⟨wanted_some rfl (by kernel_rfl) rfl rfl (hs 65 (by kernel_rfl)), _, rfl, .val (rn_load61 rfl (fr_old rfl rfl) h1) ⟨Below.refl _ _, h2⟩⟩
      refine .cons (fun f w' hI hs => ⟨wanted_some rfl (by kernel_rfl) rfl rfl (hs 65 (by kernel_rfl)), _, rfl, .call2 rfl cf42 rfl rfl rfl rfl (PRq.kd (raddR (a := b) (b := c) (hs 72 (by kernel_rfl)) (hs 73 (by kernel_rfl)) Bb Bc (by decide)))⟩) ?_
      refine .cons (fun f w' hI hs => ⟨wanted_some rfl (by kernel_rfl) rfl rfl (hs 65 (by kernel_rfl)), _, rfl, .call2 rfl cf52 rfl rfl rfl rfl (PCq.kd (rcmpR (a := (a + c)) (b := (b + c)) (hs 71 (by kernel_rfl)) (hs 74 (by kernel_rfl)) (Bd9.add Ba Bc) (Bd9.add Bb Bc) (by decide) (by decide)))⟩) ?_
      refine .cons (fun f w' hI hs => ⟨wanted_some rfl (by kernel_rfl) rfl rfl (hs 65 (by kernel_rfl)), _, rfl, .val (rn_neqI rfl ((fr_own rfl rfl).trans (hs 68 (by kernel_rfl))) ((fr_own rfl rfl).trans (hs 75 (by kernel_rfl))) T4) ⟨Below.refl _ _, rfl⟩⟩) ?_
      refine .cons (fun f w' hI hs => ⟨wanted_none rfl, _, rfl, .val (rn_pick_f rfl ((fr_own rfl rfl).trans (hs 65 (by kernel_rfl)))) ⟨Below.refl _ _, ((fr_own rfl rfl).trans (hs 76 (by kernel_rfl)))⟩⟩) ?_
      refine .cons (fun f w' hI hs => ⟨wanted_none rfl, _, rfl, .val (rn_move rfl) ⟨Below.refl _ _, ((fr_own rfl rfl).trans (hs 77 (by kernel_rfl)))⟩⟩) ?_
      refine .cons (fun f w' hI hs => ?_) ?_
      · obtain ⟨s, x, y, p, q, h1, h2⟩ := hI.a
        exact ⟨wanted_some rfl (by kernel_rfl) rfl rfl (hs 78 (by kernel_rfl)), _, rfl, .val (rn_load61 rfl (fr_old rfl rfl) h1) ⟨Below.refl _ _, h2⟩⟩
      refine .cons (fun f w' hI hs => ?_) ?_
      · obtain ⟨s, x, y, p, q, h1, h2⟩ := hI.b
        exact ⟨wanted_some rfl (by kernel_rfl) rfl rfl (hs 78 (by kernel_rfl)), _, rfl, .val (rn_load61 rfl (fr_old rfl rfl) h1) ⟨Below.refl _ _, h2⟩⟩
      refine .cons (fun f w' hI hs => ⟨wanted_some rfl (by kernel_rfl) rfl rfl (hs 78 (by kernel_rfl)), _, rfl, .call2 rfl cf52 rfl rfl rfl rfl (PCq.kd (rcmpR (a := a) (b := b) (hs 79 (by kernel_rfl)) (hs 80 (by kernel_rfl)) Ba Bb (by decide) (by decide)))⟩) ?_
      refine .cons (fun f w' hI hs => ?_) ?_
      · obtain ⟨s, x, y, p, q, h1, h2⟩ := hI.b
        exact ⟨wanted_some rfl (by kernel_rfl) rfl rfl (hs 78 (by kernel_rfl)), _, rfl, .val (rn_load61 rfl (fr_old rfl rfl) h1) ⟨Below.refl _ _, h2⟩⟩
      refine .cons (fun f w' hI hs => ?_) ?_
      · obtain ⟨s, x, y, p, q, h1, h2⟩ := hI.a
        exact ⟨wanted_some rfl (by kernel_rfl) rfl rfl (hs 78 (by kernel_rfl)), _, rfl, .val (rn_load61 rfl (fr_old rfl rfl) h1) ⟨Below.refl _ _, h2⟩⟩
      refine .cons (fun f w' hI hs => ⟨wanted_some rfl (by kernel_rfl) rfl rfl (hs 78 (by kernel_rfl)), _, rfl, .call2 rfl cf52 rfl rfl rfl rfl (PCq.kd (rcmpR (a := b) (b := a) (hs 82 (by kernel_rfl)) (hs 83 (by kernel_rfl)) Bb Ba (by decide) (by decide)))⟩) ?_
      refine .cons (fun f w' hI hs => ⟨wanted_some rfl (by kernel_rfl) rfl rfl (hs 78 (by kernel_rfl)), _, rfl, .val (rn_neg3 rfl ((fr_own rfl rfl).trans (hs 84 (by kernel_rfl))) T5) ⟨Below.refl _ _, rfl⟩⟩) ?_
      refine .cons (fun f w' hI hs => ⟨wanted_some rfl (by kernel_rfl) rfl rfl (hs 78 (by kernel_rfl)), _, rfl, .val (rn_neqI rfl ((fr_own rfl rfl).trans (hs 81 (by kernel_rfl))) ((fr_own rfl rfl).trans (hs 85 (by kernel_rfl))) T6) ⟨Below.refl _ _, rfl⟩⟩) ?_
      refine .cons (fun f w' hI hs => ⟨wanted_none rfl, _, rfl, .val (rn_pick_f rfl ((fr_own rfl rfl).trans (hs 78 (by kernel_rfl)))) ⟨Below.refl _ _, ((fr_own rfl rfl).trans (hs 86 (by kernel_rfl)))⟩⟩) ?_
      exact .nil
    · intro f w' hI hk
      have h87 : f 87 = .bool false := hk 87 (by kernel_rfl)
      refine hK _ _ (Met.intro (hJ _ _ ?_))
      (repeat apply Exists.intro)
      refine ⟨?_, rfl⟩
      exact ⟨h87, hI⟩
  case rest =>
    obtain ⟨rfl, S1⟩ := hcut
    clear S
    have S := Lib.hid S1
    clear S1
    obtain ⟨sb, xb, yb, pb, qb, hb1, hb2⟩ := S.out.b
    have g1 := cell_blk (i := 0) hb1
    have g2 := cell_blk (i := 1) hb1
    have g3 := cell_blk (i := 2) hb1
    have g4 := cell_blk (i := 3) hb1
    have g5 := cell_blk (i := 4) hb1
    have VB := Lib.hid hb2
    clear hb1 hb2
    go_wp2_with fail
    refine (rsign_any _ b.num b.den _ VB.out).mono ?_
    rintro e w5 ⟨hb5, rfl⟩
    have S := Lib.hid (S.out.keep hb5)
    clear hb5 g1 g2 g3 g4 g5 VB
    go_upto_if 90 with fail
    go_cut [] (fun wc => F3 w a b c w1.heap.size w2.heap.size w3.heap.size wc)
    case first =>
      by_cases h0 : b = 0
      · have h1 : (b.num.sign != 0) = false := by rw [h0]; rfl
        clear h0
        go_wp2
        go_meet
        case rel => exact S.out
      · have h1 : (b.num.sign != 0) = true := by
          rw [bne_iff_ne]
          intro e
          exact h0 (Rat.num_eq_zero.1 (Int.sign_eq_zero_iff_zero.1 e))
        have HB0 := Lib.hid h0
        clear h0
        obtain ⟨sa, xa, ya, pa, qa, ha1, ha2⟩ := S.out.a
        obtain ⟨sb, xb, yb, pb, qb, hb1, hb2⟩ := S.out.b
        have g1 := cell_blk (i := 0) ha1
        have g2 := cell_blk (i := 1) ha1
        have g3 := cell_blk (i := 2) ha1
        have g4 := cell_blk (i := 3) ha1
        have g5 := cell_blk (i := 4) ha1
        have g6 := cell_blk (i := 0) hb1
        have g7 := cell_blk (i := 1) hb1
        have g8 := cell_blk (i := 2) hb1
        have g9 := cell_blk (i := 3) hb1
        have g0 := cell_blk (i := 4) hb1
        have VA := Lib.hid ha2; have VB := Lib.hid hb2
        clear ha1 ha2 hb1 hb2
        go_wp2_with fail
        refine (rdivR VA.out VB.out Ba Bb (by decide) HB0.out).mono ?_
        rintro e w6 ⟨hb6, v6, rfl, h6⟩
        obtain ⟨s6, x6, p6, y6, q6, rfl⟩ := h6.agg
        have SQ := Lib.hid (show F4q w a b c (a / b) w1.heap.size w2.heap.size w3.heap.size w6.heap.size _ from ⟨(S.out.keep hb6).keep (bl1 _ _), Hq.new h6⟩)
        clear hb6 h6 g1 g2 g3 g4 g5 g6 g7 g8 g9 g0 VA VB
        go_upto_region 8 with fail
        go_cut [106] (fun v wc => v = .bool false ∧ F3 w a b c w1.heap.size w2.heap.size w3.heap.size wc)
        case first =>
          rename_i J K' hJ hK
          have T7 : (cmpQ ((a / b) * b) a != 0) = false := by rw [Rat.div_mul_cancel HB0.out, cmpQ_self]; rfl
          refine wp_region_kd DH8 (tabH8 a b) (F4q w a b c (a / b) w1.heap.size w2.heap.size w3.heap.size w6.heap.size) (by kernel_rfl) (by kernel_rfl) (by kernel_rfl) (by kernel_rfl) (fun _ _ h hb => h.keep hb) (SQ.out.keep (Below.refl _ _).drew) ?_ ?_
          ·
            refine .cons (fun f w' hI hs => ⟨wanted_none rfl, _, rfl, .val (rn_move rfl) ⟨Below.refl _ _, fr_old rfl rfl⟩⟩) ?_
            refine .cons (fun f w' hI hs => ⟨wanted_none rfl, _, rfl, .val (rn_neq29 rfl ((fr_own rfl rfl).trans (hs 97 (by kernel_rfl))) rfl rfl) ⟨Below.refl _ _, rfl⟩⟩) ?_
            refine .cons (fun f w' hI hs => ⟨wanted_none rfl, _, rfl, .val (rn_move rfl) ⟨Below.refl _ _, ((fr_own rfl rfl).trans (hs 98 (by kernel_rfl)))⟩⟩) ?_
            refine .cons (fun f w' hI hs => ?_) ?_
            · obtain ⟨s, x, y, p, q, h1, h2⟩ := hI.q
              exact ⟨wanted_some rfl (by kernel_rfl) rfl rfl (hs 99 (by kernel_rfl)), _, rfl, .val (rn_load61 rfl (fr_old rfl rfl) h1) ⟨Below.refl _ _, h2⟩⟩
            refine .cons (fun f w' hI hs => ?_) ?_
            · obtain ⟨s, x, y, p, q, h1, h2⟩ := hI.f.b
              exact ⟨wanted_some rfl (by kernel_rfl) rfl rfl (hs 99 (by kernel_rfl)), _, rfl, .val (rn_load61 rfl (fr_old rfl rfl) h1) ⟨Below.refl _ _, h2⟩⟩
            refine .cons (fun f w' hI hs => ⟨wanted_some rfl (by kernel_rfl) rfl rfl (hs 99 (by kernel_rfl)), _, rfl, .call2 rfl cf46 rfl rfl rfl rfl (PRq.kd (rmulR (a := (a / b)) (b := b) (hs 100 (by kernel_rfl)) (hs 101 (by kernel_rfl)) (Bd9.div Ba Bb HB0.out) Bb (by decide)))⟩) ?_
            refine .cons (fun f w' hI hs => ?_) ?_
            · obtain ⟨s, x, y, p, q, h1, h2⟩ := hI.f.a
              exact ⟨wanted_some rfl (by kernel_rfl) rfl rfl (hs 99 (by kernel_rfl)), _, rfl, .val (rn_load61 rfl (fr_old rfl rfl) h1) ⟨Below.refl _ _, h2⟩⟩
            refine .cons (fun f w' hI hs => ⟨wanted_some rfl (by kernel_rfl) rfl rfl (hs 99 (by kernel_rfl)), _, rfl, .call2 rfl cf52 rfl rfl rfl rfl (PCq.kd (rcmpR (a := ((a / b) * b)) (b := a) (hs 102 (by kernel_rfl)) (hs 103 (by kernel_rfl)) (Bd9.mul (Bd9.div Ba Bb HB0.out) Bb) Ba (by decide) (by decide)))⟩) ?_
            refine .cons (fun f w' hI hs => ⟨wanted_some rfl (by kernel_rfl) rfl rfl (hs 99 (by kernel_rfl)), _, rfl, .val (rn_neqI rfl ((fr_own rfl rfl).trans (hs 104 (by kernel_rfl))) rfl T7) ⟨Below.refl _ _, rfl⟩⟩) ?_
            refine .cons (fun f w' hI hs => ⟨wanted_none rfl, _, rfl, .val (rn_pick_f rfl ((fr_own rfl rfl).trans (hs 99 (by kernel_rfl)))) ⟨Below.refl _ _, ((fr_own rfl rfl).trans (hs 105 (by kernel_rfl)))⟩⟩) ?_
            exact .nil
          · intro f w' hI hk
            have h106 : f 106 = .bool false := hk 106 (by kernel_rfl)
            refine hK _ _ (Met.intro (hJ _ _ ?_))
            (repeat apply Exists.intro)
            refine ⟨?_, rfl⟩
            exact ⟨h106, hI.f⟩
        case rest =>
          obtain ⟨rfl, S1⟩ := hcut
          have S2 := Lib.hid S1
          clear S1
          go_wp2
          go_meet
          case rel => exact S2.out
    case rest =>
      clear S
      have S := Lib.hid hcut
      clear hcut
      obtain ⟨s, hs⟩ : ∃ s, s = (a + b) * c := ⟨_, rfl⟩
      have Bs : Bd9 4 s := by rw [hs]; exact (Ba.add Bb).mul Bc
      have HS := Lib.hid hs
      clear hs
      go_upto_region 10 with fail
      go_cut [15] (fun v wc => ∃ T, v = .pointer (some ⟨T, 0, none⟩) ∧ F1s w s T wc)
      case first =>
        rename_i J K' hJ hK
        refine wp_region_two DH10 (tabH10 w a b c) (F3 w a b c w1.heap.size w2.heap.size w3.heap.size) 6 (fun _ f w' => ∃ T, f 15 = .pointer (some ⟨T, 0, none⟩) ∧ F1s w s T w') (by kernel_rfl) (by kernel_rfl) (by kernel_rfl) (by kernel_rfl) (by decide) (by kernel_rfl) (fun _ _ h hb => h.keep hb) (S.out.keep (Below.refl _ _).drew) ?_ ?_ ?_
        ·
          refine .cons (fun f w' hI hs => ?_) ?_
          · obtain ⟨s, x, y, p, q, h1, h2⟩ := hI.a
            exact ⟨wanted_none rfl, _, rfl, .val (rn_load61 rfl (fr_old rfl rfl) h1) ⟨Below.refl _ _, h2⟩⟩
          refine .cons (fun f w' hI hs => ?_) ?_
          · obtain ⟨s, x, y, p, q, h1, h2⟩ := hI.b
            exact ⟨wanted_none rfl, _, rfl, .val (rn_load61 rfl (fr_old rfl rfl) h1) ⟨Below.refl _ _, h2⟩⟩
          refine .cons (fun f w' hI hs => ⟨wanted_none rfl, _, rfl, .call2 rfl cf42 rfl rfl rfl rfl (PRq.kd (raddR (a := a) (b := b) (hs 107 (by kernel_rfl)) (hs 108 (by kernel_rfl)) Ba Bb (by decide)))⟩) ?_
          refine .cons (fun f w' hI hs => ?_) ?_
          · obtain ⟨s, x, y, p, q, h1, h2⟩ := hI.c
            exact ⟨wanted_none rfl, _, rfl, .val (rn_load61 rfl (fr_old rfl rfl) h1) ⟨Below.refl _ _, h2⟩⟩
          refine .cons (fun f w' hI hs => ⟨wanted_none rfl, _, rfl, .call2 rfl cf46 rfl rfl rfl rfl (PRq.kd (rmulR (a := (a + b)) (b := c) (hs 109 (by kernel_rfl)) (hs 110 (by kernel_rfl)) (Bd9.add Ba Bb) Bc (by decide)))⟩) ?_
          refine .cons (fun f w' hI hs => ⟨wanted_none rfl, _, rfl, .val (rn_alloc61 rfl) ⟨bl1 _ _, _, rfl, hI.k.size, rq_new _ rfl⟩⟩) ?_
          exact .nil
        · refine .cons (fun f w' h => ⟨wanted_none rfl, ?_⟩) .nil
          obtain ⟨hI, hs⟩ := (if_pos rfl) ▸ h
          obtain ⟨T, e15, hT, hq⟩ : ∃ T, f 15 = .pointer (some ⟨T, 0, none⟩) ∧ w.heap.size ≤ T ∧ Rq T w' := hs 15 (by kernel_rfl)
          have h1 : Rr w' (f 111) ((a + b) * c).num ((a + b) * c).den := hs 111 (by kernel_rfl)
          rw [← HS.out] at h1
          obtain ⟨s9, x9, p9, y9, q9, e9⟩ := h1.agg
          rw [e9] at h1
          exact .skip (rn_store61 rfl ((fr_own rfl rfl).trans e15) ((fr_own rfl rfl).trans e9) hq) ⟨T, e15, below5 hI.k hT _ _ _ _ _, Hq.stored hq h1⟩
        · intro f w' h
          refine hK _ _ (Met.intro (hJ _ _ ?_))
          (repeat apply Exists.intro)
          refine ⟨?_, rfl⟩
          exact h
      case rest =>
        obtain ⟨Ts, rfl, SS⟩ := hcut
        have SS := Lib.hid SS
        clear S
        go_upto_region 11 with fail
        go_cut [6] (fun v wc => v = .bool true ∧ F1s w s Ts wc)
        case first =>
          rename_i J K' hJ hK
          have T8 : (sgnZ (Int.gcd s.num (s.den : Int) : Int) 1 == 0) = true := by
            have : Int.gcd s.num (s.den : Int) = 1 := by unfold Int.gcd; rw [Int.natAbs_natCast]; exact s.reduced
            rw [this]; rfl
          have T9 : decide (0 < ((s.den : Int)).sign) = true := by
            have := s.den_pos
            rw [Int.sign_eq_one_of_pos (by omega)]; rfl
          refine wp_region_kd DH11 (tabH11 s) (F1s w s Ts) (by kernel_rfl) (by kernel_rfl) (by kernel_rfl) (by kernel_rfl) (fun _ _ h hb => h.keep hb) (SS.out.keep (Below.refl _ _).drew) ?_ ?_
          ·
            refine .cons (fun f w' hI hs => ?_) ?_
            · obtain ⟨s, x, y, p, q, h1, h2⟩ := hI.s
              exact ⟨wanted_none rfl, _, rfl, .val (rn_load61 rfl (fr_old rfl rfl) h1) ⟨Below.refl _ _, h2⟩⟩
            refine .cons (fun f w' hI hs => ⟨wanted_none rfl, _, rfl, .call1 rfl cf30 rfl rfl (PZ.kd (rnum_any _ s.num s.den _ (hs 112 (by kernel_rfl))))⟩) ?_
            refine .cons (fun f w' hI hs => ?_) ?_
            · obtain ⟨s, x, y, p, q, h1, h2⟩ := hI.s
              exact ⟨wanted_none rfl, _, rfl, .val (rn_load61 rfl (fr_old rfl rfl) h1) ⟨Below.refl _ _, h2⟩⟩
            refine .cons (fun f w' hI hs => ⟨wanted_none rfl, _, rfl, .call1 rfl cf32 rfl rfl (PZ.kd (den_any _ s.num s.den _ (hs 114 (by kernel_rfl))))⟩) ?_
            refine .cons (fun f w' hI hs => ⟨wanted_none rfl, _, rfl, .call2 rfl cf76 rfl rfl rfl rfl (PZ.kd (gcd_any _ _ s.num (s.den : Int) _ (hs 113 (by kernel_rfl)) (hs 115 (by kernel_rfl)) (common_all _ _ (Wk.sz (Bd9.wn Bs) (by decide)) (Wk.sz (Bd9.wd Bs) (by decide)))))⟩) ?_
            refine .cons (fun f w' hI hs => ⟨wanted_none rfl, _, rfl, .callk rfl cf78 (PZ.kd (int_any (1) _ (by unfold I64; omega)))⟩) ?_
            refine .cons (fun f w' hI hs => ⟨wanted_none rfl, _, rfl, .call2 rfl cf77 rfl rfl rfl rfl (PSg.kdn (zcmp_any _ _ (Int.gcd s.num (s.den : Int) : Int) 1 _ (hs 116 (by kernel_rfl)) (hs 117 (by kernel_rfl))))⟩) ?_
            refine .cons (fun f w' hI hs => ⟨wanted_none rfl, _, rfl, .val (rn_eqlI rfl ((fr_own rfl rfl).trans (hs 118 (by kernel_rfl))) rfl T8) ⟨Below.refl _ _, rfl⟩⟩) ?_
            refine .cons (fun f w' hI hs => ⟨wanted_none rfl, _, rfl, .val (rn_move rfl) ⟨Below.refl _ _, ((fr_own rfl rfl).trans (hs 119 (by kernel_rfl)))⟩⟩) ?_
            refine .cons (fun f w' hI hs => ?_) ?_
            · obtain ⟨s, x, y, p, q, h1, h2⟩ := hI.s
              exact ⟨wanted_some rfl (by kernel_rfl) rfl rfl (hs 120 (by kernel_rfl)), _, rfl, .val (rn_load61 rfl (fr_old rfl rfl) h1) ⟨Below.refl _ _, h2⟩⟩
            refine .cons (fun f w' hI hs => ⟨wanted_some rfl (by kernel_rfl) rfl rfl (hs 120 (by kernel_rfl)), _, rfl, .call1 rfl cf32 rfl rfl (PZ.kd (den_any _ s.num s.den _ (hs 121 (by kernel_rfl))))⟩) ?_
            refine .cons (fun f w' hI hs => ⟨wanted_some rfl (by kernel_rfl) rfl rfl (hs 120 (by kernel_rfl)), _, rfl, .call1 rfl cf14 rfl rfl (PSi.kdn (sign_any _ (s.den : Int) _ (hs 122 (by kernel_rfl))))⟩) ?_
            refine .cons (fun f w' hI hs => ⟨wanted_some rfl (by kernel_rfl) rfl rfl (hs 120 (by kernel_rfl)), _, rfl, .val (rn_gtrI rfl ((fr_own rfl rfl).trans (hs 123 (by kernel_rfl))) rfl T9) ⟨Below.refl _ _, rfl⟩⟩) ?_
            refine .cons (fun f w' hI hs => ⟨wanted_none rfl, _, rfl, .val (rn_pick_t rfl ((fr_own rfl rfl).trans (hs 120 (by kernel_rfl)))) ⟨Below.refl _ _, ((fr_own rfl rfl).trans (hs 124 (by kernel_rfl)))⟩⟩) ?_
            refine .cons (fun f w' hI hs => ⟨wanted_none rfl, _, rfl, .val (rn_move rfl) ⟨Below.refl _ _, ((fr_own rfl rfl).trans (hs 125 (by kernel_rfl)))⟩⟩) ?_
            refine .cons (fun f w' hI hs => ⟨wanted_some rfl (by kernel_rfl) rfl rfl (hs 126 (by kernel_rfl)), _, rfl, .call0 rfl cf11 (PB.kd (awake_any _))⟩) ?_
            refine .cons (fun f w' hI hs => ⟨wanted_none rfl, _, rfl, .val (rn_pick_t rfl ((fr_own rfl rfl).trans (hs 126 (by kernel_rfl)))) ⟨Below.refl _ _, ((fr_own rfl rfl).trans (hs 127 (by kernel_rfl)))⟩⟩) ?_
            refine .cons (fun f w' hI hs => ⟨wanted_none rfl, _, rfl, .val (rn_assign rfl) ⟨Below.refl _ _, ((fr_own rfl rfl).trans (hs 128 (by kernel_rfl)))⟩⟩) ?_
            exact .nil
          · intro f w' hI hk
            have h6 : f 6 = .bool true := hk 6 (by kernel_rfl)
            refine hK _ _ (Met.intro (hJ _ _ ?_))
            (repeat apply Exists.intro)
            refine ⟨?_, rfl⟩
            exact ⟨h6, hI⟩
        case rest =>
          obtain ⟨rfl, S9⟩ := hcut
          have k9 := S9.k
          clear S9 SS
          go_wp2
          go_ret
          exact ⟨k9, rfl⟩
end Go.Proofs.YtjjomjjgoceklaaGreat

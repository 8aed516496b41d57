import Derived.Test.YtjjomjjgoceklaaGreatUd
namespace Go.Proofs.YtjjomjjgoceklaaGreat
set_option maxRecDepth 100000
open Go.RowKit

/-! what R.Mul needs: numbers; tables that a store keeps; boxes of digits -/
theorem mul_low {an bn : Int} {p q : Nat} (hp : 0 < p) (hq : 0 < q) (ha : Nat.gcd an.natAbs p = 1) (hb : Nat.gcd bn.natAbs q = 1) :
    Nat.gcd (Int.tdiv an (Nat.gcd an.natAbs q : Nat) * Int.tdiv bn (Nat.gcd bn.natAbs p : Nat)).natAbs ((p / Nat.gcd bn.natAbs p) * (q / Nat.gcd an.natAbs q)) = 1 := by
  rw [Int.natAbs_mul, Int.natAbs_tdiv, Int.natAbs_tdiv, Int.natAbs_natCast, Int.natAbs_natCast]
  generalize an.natAbs = a at *
  generalize bn.natAbs = b at *
  have hg : 0 < Nat.gcd a q := Nat.gcd_pos_of_pos_right _ hq
  have hh : 0 < Nat.gcd b p := Nat.gcd_pos_of_pos_right _ hp
  have ha : Nat.Coprime a p := ha
  have hb : Nat.Coprime b q := hb
  have c1 : Nat.Coprime (a / Nat.gcd a q) (p / Nat.gcd b p) := Nat.Coprime.coprime_dvd_left (Nat.div_dvd_of_dvd (Nat.gcd_dvd_left a q)) (Nat.Coprime.coprime_dvd_right (Nat.div_dvd_of_dvd (Nat.gcd_dvd_right b p)) ha)
  have c2 : Nat.Coprime (a / Nat.gcd a q) (q / Nat.gcd a q) := Nat.coprime_div_gcd_div_gcd hg
  have c3 : Nat.Coprime (b / Nat.gcd b p) (p / Nat.gcd b p) := Nat.coprime_div_gcd_div_gcd hh
  have c4 : Nat.Coprime (b / Nat.gcd b p) (q / Nat.gcd a q) := Nat.Coprime.coprime_dvd_left (Nat.div_dvd_of_dvd (Nat.gcd_dvd_left b p)) (Nat.Coprime.coprime_dvd_right (Nat.div_dvd_of_dvd (Nat.gcd_dvd_right a q)) hb)
  exact Nat.Coprime.mul_right (Nat.Coprime.mul_left c1 c3) (Nat.Coprime.mul_left c2 c4)
/-- what a slot holds outlives a store into a box of digits -/
def Ks2 (K : Kd) : Prop := ∀ {v : Value} {w : World} {T : Nat} {x : Int} {p : Option Addr}, Rs T w → kd K v w → kd K v (st2 w T (.int .u64 x) (.pointer p))
/-- and into a box of an integer -/
def Ks3 (K : Kd) : Prop := ∀ {v : Value} {w : World} {T : Nat} {s : Bool} {x : Int} {p : Option Addr}, Rz T w → kd K v w → kd K v (st3 w T (.bool s) (.int .u64 x) (.pointer p))
theorem rs_st2 {T U : Nat} {w : World} (hT : Rs T w) (hU : Rs U w) (x : Int) (p : Option Addr) : Rs U (st2 w T (.int .u64 x) (.pointer p)) := by
  by_cases e : U = T
  · subst e; exact ⟨x, p, hU.stored x p⟩
  · exact hU.other (grown2 _ _ _ _ _ _) e
def kbs (B : Nat) : Kd := .c (fun v w => ∃ T, v = .pointer (some ⟨T, 0, none⟩) ∧ B ≤ T ∧ Rs T w) fun _ _ _ ⟨T, h1, h2, h3⟩ hb => ⟨T, h1, h2, h3.keep hb h3.lt⟩
theorem Ks2.z {n : Int} : Ks2 (.z n) := fun hT h => Zr.store h hT.odd (grown2 _ _ _ _ _ _)
theorem Ks2.q {n : Int} {d : Nat} : Ks2 (.q n d) := fun hT h => Rr.store h hT.odd (grown2 _ _ _ _ _ _)
theorem Ks2.g {n : Nat} : Ks2 (.g n) := fun hT h => Dg.store h hT.odd (grown2 _ _ _ _ _ _)
theorem Ks2.v {y : Value} : Ks2 (.v y) := fun _ h => h
theorem Ks2.kp {b i : Nat} : Ks2 (kp b i) := fun _ h => h
theorem Ks2.any : Ks2 .any := fun _ _ => trivial
theorem Ks2.kbs {B : Nat} : Ks2 (kbs B) := fun hT ⟨U, h1, h2, h3⟩ => ⟨U, h1, h2, rs_st2 hT h3 _ _⟩
theorem Ks3.z {n : Int} : Ks3 (.z n) := fun hT h => Zr.store h hT.odd (grown3 _ _ _ _ _ _ _ _)
theorem Ks3.q {n : Int} {d : Nat} : Ks3 (.q n d) := fun hT h => Rr.store h hT.odd (grown3 _ _ _ _ _ _ _ _)
theorem Ks3.g {n : Nat} : Ks3 (.g n) := fun hT h => Dg.store h hT.odd (grown3 _ _ _ _ _ _ _ _)
theorem Ks3.v {y : Value} : Ks3 (.v y) := fun _ h => h
theorem Ks3.kp {b i : Nat} : Ks3 (kp b i) := fun _ h => h
theorem Ks3.any : Ks3 .any := fun _ _ => trivial
theorem Ks3.kbz {B : Nat} : Ks3 (kbz B) := fun hT ⟨U, h1, h2, h3⟩ => ⟨U, h1, h2, rz_st3 hT h3 _ _ _⟩
theorem Ks2.getD {L : List Kd} (h : ∀ K ∈ L, Ks2 K) (j : Nat) : Ks2 (L.getD j .any) := by
  intro v w T x p
  rw [List.getD_eq_getElem?_getD]
  cases hj : L[j]? with
  | none => exact fun _ _ => trivial
  | some K => exact h K (List.mem_of_getElem? hj)
theorem Ks3.getD {L : List Kd} (h : ∀ K ∈ L, Ks3 K) (j : Nat) : Ks3 (L.getD j .any) := by
  intro v w T s x p
  rw [List.getD_eq_getElem?_getD]
  cases hj : L[j]? with
  | none => exact fun _ _ => trivial
  | some K => exact h K (List.mem_of_getElem? hj)
theorem Hd.rs {T n : Nat} {w : World} (h : Hd T n w) : Rs T w := by obtain ⟨x, p, h, _⟩ := h; exact ⟨x, p, h⟩
theorem Hd.stored {T n : Nat} {w : World} {x : Int} {p : Option Addr} (h : Rs T w) (hd : Dg w (.agg #[.int .u64 x, .pointer p]) n) : Hd T n (st2 w T (.int .u64 x) (.pointer p)) := ⟨x, p, h.stored x p, hd.store h.odd (grown2 _ _ _ _ _ _)⟩
theorem Hd.st {T U n : Nat} {w w' : World} (h : Hd T n w) (hU : Odd U w) (hg : w.grownBy w' (some U)) (hne : T ≠ U) : Hd T n w' := by
  obtain ⟨x, p, h1, h2⟩ := h
  exact ⟨x, p, blk_other h1 hg hne, h2.store hU hg⟩
theorem PDg.kd {n : Nat} {w : World} {g : FuncId} {args : Array Value} (h : Calls Tryz.prog g args w (PDg n w)) : Calls Tryz.prog g args w fun e w' => ∃ v, e = .returned v ∧ (Below w.heap.size w w' ∧ Go.Proofs.YtjjomjjgoceklaaGreat.kd (.g n) v w') := h.mono fun _ _ ⟨hb, v, he, hv⟩ => ⟨v, he, hb, hv⟩
section
variable {ρ : Operand → Value} {o : Oper} {w : World} {t : Operand}
theorem rn_alloc27 (ho : o.op = .alloc 26) : (execOp ρ o).run Tryz.prog w = .ok (.value (.pointer (some ⟨w.heap.size, 0, none⟩))) (w.alloc (.cells #[.int .u64 0, .pointer none] 26)) := by
  unfold execOp; rw [ho]; simp [go_sem]
theorem rn_field29_1 {b : Nat} (ho : o.op = .fieldAddr 28 t 1) (he : ρ t = .pointer (some ⟨b, 0, none⟩)) : (execOp ρ o).run Tryz.prog w = .ok (.value (.pointer (some ⟨b, 1, none⟩))) w := by
  unfold execOp; rw [ho]; simp [go_sem, he]
end
theorem Hq.dgp {T : Nat} {n : Int} {d : Nat} {w : World} (h : Hq T n d w) : ∃ (x : Int) (p : Option Addr), w.cell? ⟨T, 1, none⟩ = some (.int .u64 x) ∧ w.cell? ⟨T, 1 + 1, none⟩ = some (.pointer p) ∧ Dg w (.agg #[.int .u64 x, .pointer p]) n.natAbs := by
  obtain ⟨s, x, y, p, q, h1, h2⟩ := h
  exact ⟨x, p, cell_blk (i := 1) h1, cell_blk (i := 2) h1, h2.num.dig⟩
theorem Hq.b3 {T : Nat} {n : Int} {d : Nat} {w : World} (h : Hq T n d w) : ∃ (s : Bool) (x : Int) (p : Option Addr), B3 T s x p w ∧ Zr w (.agg #[.bool s, .int .u64 x, .pointer p]) n := by
  obtain ⟨s, x, y, p, q, h1, h2⟩ := h
  exact ⟨s, x, p, ⟨cell_blk (i := 0) h1, cell_blk (i := 1) h1, cell_blk (i := 2) h1⟩, h2.num⟩

/-! R.Mul -/
theorem cf108 : CF 108 := fun W args => by go_simp
theorem cf105 : CF 105 := fun W args => by go_simp
theorem cf111 : CF 111 := fun W args => by go_simp
theorem cf109 : CF 109 := fun W args => by go_simp
theorem cf112 : CF 112 := fun W args => by go_simp
theorem cf107 : CF 107 := fun W args => by go_simp
theorem hz3 {T : Nat} {w : World} {s : Bool} {x : Int} {p : Option Addr} (h : w.heap[T]? = some (.cells #[.bool s, .int .u64 x, .pointer p] 28 (0, 0))) : B3 T s x p w := ⟨cell_blk (i := 0) h, cell_blk (i := 1) h, cell_blk (i := 2) h⟩
def M1D (t : Nat) : Bool := Nat.beq t 5 || Nat.beq t 6 || (Nat.ble 10 t && Nat.ble t 13)
def M1al (t : Nat) : Bool := Nat.beq t 5 || Nat.beq t 6
def M1t (B : Nat) (an bn : Int) (p q : Nat) (t : Nat) : Kd := [kbs B, kbs B, .any, .any, .any, .q an p, .g p, .q bn q, .g q].getD (t - 5) .any
theorem M1k {B : Nat} {an bn : Int} {p q : Nat} (t : Nat) : Ks2 (M1t B an bn p q t) := Ks2.getD (by simp only [List.forall_mem_cons]; exact ⟨Ks2.kbs, Ks2.kbs, Ks2.any, Ks2.any, Ks2.any, Ks2.q, Ks2.g, Ks2.q, Ks2.g, fun _ h => by cases h⟩) _
def M2D (t : Nat) : Bool := Nat.beq t 7 || Nat.beq t 8 || (Nat.ble 14 t && Nat.ble t 23)
def M2al (t : Nat) : Bool := Nat.beq t 7 || Nat.beq t 8
def M2t (B S : Nat) (an bn : Int) (p q : Nat) (t : Nat) : Kd := [kbs B, kbs B, .any, .any, .any, .any, .any, kp S 0, kp S 1, .g an.natAbs, .g q, .g (Nat.gcd an.natAbs q), kp (S + 1) 0, kp (S + 1) 1, .g bn.natAbs, .g p, .g (Nat.gcd bn.natAbs p)].getD (t - 7) .any
theorem M2k {B S : Nat} {an bn : Int} {p q : Nat} (t : Nat) : Ks2 (M2t B S an bn p q t) := Ks2.getD (by simp only [List.forall_mem_cons]; exact ⟨Ks2.kbs, Ks2.kbs, Ks2.any, Ks2.any, Ks2.any, Ks2.any, Ks2.any, Ks2.kp, Ks2.kp, Ks2.g, Ks2.g, Ks2.g, Ks2.kp, Ks2.kp, Ks2.g, Ks2.g, Ks2.g, fun _ h => by cases h⟩) _
def M3D (t : Nat) : Bool := Nat.beq t 9 || (Nat.ble 24 t && Nat.ble t 32)
def M3al (t : Nat) : Bool := Nat.beq t 9
def M3t (B S : Nat) (an bn : Int) (g h : Nat) (t : Nat) : Kd := if t = 9 then kbz B else [kp S 0, .z an, .g g, .z (Int.tdiv an g), kp (S + 1) 0, .z bn, .g h, .z (Int.tdiv bn h), .z (Int.tdiv an g * Int.tdiv bn h)].getD (t - 24) .any
theorem M3k {B S : Nat} {an bn : Int} {g h : Nat} (t : Nat) : Ks3 (M3t B S an bn g h t) := by
  unfold M3t
  split
  · exact Ks3.kbz
  · exact Ks3.getD (by simp only [List.forall_mem_cons]; exact ⟨Ks3.kp, Ks3.z, Ks3.g, Ks3.z, Ks3.kp, Ks3.z, Ks3.g, Ks3.z, Ks3.z, fun _ h => by cases h⟩) _
def M4D (t : Nat) : Bool := Nat.ble 33 t && Nat.ble t 41
def M4t (n : Int) (p q g h : Nat) (t : Nat) : Kd := [.z n, .g p, .g h, .g (p / h), .g q, .g g, .g (q / g), .g ((p / h) * (q / g)), .q n ((p / h) * (q / g))].getD (t - 33) .any
set_option maxRecDepth 100000 in
set_option maxHeartbeats 3200000 in
theorem rmul_any (va vb : Value) (an bn : Int) (p q : Nat) (w : World) (ha : Rr w va an p) (hb : Rr w vb bn q) (sa : Sz an.natAbs) (sb : Sz bn.natAbs) (sp : Sz p) (sq : Sz q) :
    Calls Tryz.prog 46 #[va, vb] w (PR (Int.tdiv an (Nat.gcd an.natAbs q : Nat) * Int.tdiv bn (Nat.gcd bn.natAbs p : Nat)) ((p / Nat.gcd bn.natAbs p) * (q / Nat.gcd an.natAbs q)) w) := by
  have LOW := Lib.hid (mul_low ha.pos hb.pos ha.gcd hb.gcd)
  have hp := ha.pos
  have hq := hb.pos
  have GP : Hid (Nat.gcd an.natAbs q ≠ 0) := by show _ ≠ 0; have := Nat.gcd_pos_of_pos_right an.natAbs hq; omega
  have HPo : Hid (Nat.gcd bn.natAbs p ≠ 0) := by show _ ≠ 0; have := Nat.gcd_pos_of_pos_right bn.natAbs hp; omega
  have POS : Hid (0 < (p / Nat.gcd bn.natAbs p) * (q / Nat.gcd an.natAbs q)) := by
    show 0 < _
    exact Nat.mul_pos (Nat.div_pos (Nat.gcd_le_right _ hp) (Nat.gcd_pos_of_pos_right _ hp)) (Nat.div_pos (Nat.gcd_le_right _ hq) (Nat.gcd_pos_of_pos_right _ hq))
  have SA := Lib.hid sa; have SB := Lib.hid sb; have SP := Lib.hid sp; have SQ := Lib.hid sq
  clear sa sb sp sq hp hq
  obtain ⟨s1, x1, p1, y1, q1, rfl⟩ := ha.agg
  obtain ⟨s2, x2, p2, y2, q2, rfl⟩ := hb.agg
  have S0 : S76 w an bn p q (((w.alloc (.cells #[.bool s1, .int .u64 x1, .pointer p1, .int .u64 y1, .pointer q1] 33)).alloc (.cells #[.bool s2, .int .u64 x2, .pointer p2, .int .u64 y2, .pointer q2] 33)).alloc (.cells #[.bool false, .int .u64 0, .pointer none, .int .u64 0, .pointer none] 33)) :=
    ⟨bl3 _ _ _ _, ⟨s1, x1, y1, p1, q1, blk_keep (blk_keep (Go.Deep.blk_alloc_new _ _) (bl1 _ _)) (bl1 _ _), ha.keep (bl3 _ _ _ _) (Nat.le_refl _)⟩,
      ⟨s2, x2, y2, p2, q2, blk_keep (by have := Go.Deep.blk_alloc_new (w.alloc (.cells #[.bool s1, .int .u64 x1, .pointer p1, .int .u64 y1, .pointer q1] 33)) (.cells #[.bool s2, .int .u64 x2, .pointer p2, .int .u64 y2, .pointer q2] 33); rw [World.size_alloc] at this; exact this) (bl1 _ _), hb.keep (bl3 _ _ _ _) (Nat.le_refl _)⟩, rq_new _ (by simp)⟩
  have S := Lib.hid S0
  clear ha hb S0
  go_enter Tryz.func46, Tryz.ntmps46
  go_upto_region 1 with fail
  generalize World.alloc _ (Obj.cells #[Value.bool false, Value.int IntKind.u64 0, Value.pointer none, Value.int IntKind.u64 0, Value.pointer none] 33) = W at *
  go_cut [5, 6] (fun u5 u6 wc => ∃ P Q, u5 = .pointer (some ⟨P, 0, none⟩) ∧ u6 = .pointer (some ⟨Q, 0, none⟩) ∧ W.heap.size ≤ P ∧ W.heap.size ≤ Q ∧ Hd P p wc ∧ Hd Q q wc ∧ Below W.heap.size W wc)
  case first =>
    rename_i J K' hJ hK
    refine wp_region_alf M1D (M1t W.heap.size an bn p q) M1al 6 (fun i f w' => Below W.heap.size W w' ∧ (6+1 ≤ i → ∃ T, f 5 = .pointer (some ⟨T, 0, none⟩) ∧ W.heap.size ≤ T ∧ Hd T (p) w') ∧ (6+2 ≤ i → ∃ T, f 6 = .pointer (some ⟨T, 0, none⟩) ∧ W.heap.size ≤ T ∧ Hd T (q) w')) (by kernel_rfl) (by kernel_rfl) (by kernel_rfl) (by kernel_rfl) (by decide) (by kernel_rfl) (fun i f f' w' w'' hI hb he => ⟨Below.thru hI.1 hI.1.size hb, fun h => by
        obtain ⟨T, h1, h2, h3⟩ := hI.2.1 h
        rcases he with he | he
        · omega
        · exact ⟨T, (he 5 rfl).trans h1, h2, h3.keep hb⟩, fun h => by
        obtain ⟨T, h1, h2, h3⟩ := hI.2.2 h
        rcases he with he | he
        · omega
        · exact ⟨T, (he 6 rfl).trans h1, h2, h3.keep hb⟩⟩) (by kernel_rfl) (fun f => ⟨(Below.refl _ _).drew, fun h => absurd h (by decide), fun h => absurd h (by decide)⟩) ?_ ?_ ?_
    · refine .cons (fun j f w' hj hI hs => ?_) ?_
      · obtain ⟨s, x, y, p', q', h1, h2⟩ := S.out.a.keep hI.1
        exact ⟨wanted_none rfl, _, rfl, .val (rn_load61 rfl (fr_old rfl rfl) h1) ⟨⟨Below.refl _ _, h2⟩, (fun h => by cases h)⟩⟩
      refine .cons (fun j f w' hj hI hs => ⟨wanted_none rfl, _, rfl, .call1 rfl cf105 rfl rfl ((PDg.kd (under_any _ an p _ (hs 10 (by kernel_rfl)))).mono fun _ _ ⟨v, he, hr⟩ => ⟨v, he, hr, (fun h => by cases h)⟩)⟩) ?_
      refine .cons (fun j f w' hj hI hs => ?_) ?_
      · obtain ⟨s, x, y, p', q', h1, h2⟩ := S.out.b.keep hI.1
        exact ⟨wanted_none rfl, _, rfl, .val (rn_load61 rfl (fr_old rfl rfl) h1) ⟨⟨Below.refl _ _, h2⟩, (fun h => by cases h)⟩⟩
      refine .cons (fun j f w' hj hI hs => ⟨wanted_none rfl, _, rfl, .call1 rfl cf105 rfl rfl ((PDg.kd (under_any _ bn q _ (hs 12 (by kernel_rfl)))).mono fun _ _ ⟨v, he, hr⟩ => ⟨v, he, hr, (fun h => by cases h)⟩)⟩) ?_
      refine .cons (fun j f w' hj hI hs => ⟨wanted_none rfl, _, rfl, .val (rn_alloc27 rfl) ⟨⟨bl1 _ _, _, rfl, hI.1.size, _, _, Go.Deep.blk_alloc_new _ _⟩, fun _ => ⟨rfl, by simp⟩⟩⟩) ?_
      refine .cons (fun j f w' hj hI hs => ⟨wanted_none rfl, _, rfl, .val (rn_alloc27 rfl) ⟨⟨bl1 _ _, _, rfl, hI.1.size, _, _, Go.Deep.blk_alloc_new _ _⟩, fun _ => ⟨rfl, by simp⟩⟩⟩) .nil
    · refine .cons (fun f w' hI hs hne => ⟨wanted_none rfl, rfl, ?_⟩) ?_
      · have h1 : Dg w' (f 11) (p) := (hs 11 (by kernel_rfl))
        obtain ⟨T, e, hB, hz⟩ : ∃ T, f 5 = .pointer (some ⟨T, 0, none⟩) ∧ W.heap.size ≤ T ∧ Rs T w' := (hs 5 (by kernel_rfl))
        obtain ⟨x1, p1, e1⟩ := h1.agg
        rw [e1] at h1
        exact .skip (rn_store27 rfl ((fr_own rfl rfl).trans e) ((fr_own rfl rfl).trans e1) hz) ⟨⟨⟨below2 hI.1 hB _ _, fun _ => ⟨T, e, hB, Hd.stored hz h1⟩, fun h => absurd h (by decide)⟩, fun t v => (M1k t) hz⟩, by simp [World.setCell]⟩
      refine .cons (fun f w' hI hs hne => ⟨wanted_none rfl, rfl, ?_⟩) .nil
      have h1 : Dg w' (f 13) (q) := (hs 13 (by kernel_rfl))
      obtain ⟨T, e, hB, hz⟩ : ∃ T, f 6 = .pointer (some ⟨T, 0, none⟩) ∧ W.heap.size ≤ T ∧ Rs T w' := (hs 6 (by kernel_rfl))
      obtain ⟨T5, e5, hB5, h5⟩ := hI.2.1 (by decide)
      have hne2 : T5 ≠ T := by
        intro e'
        have := hne 5 6 (by kernel_rfl) (by kernel_rfl) rfl rfl (by decide)
        rw [e5, e, e'] at this
        exact this rfl
      obtain ⟨x1, p1, e1⟩ := h1.agg
      rw [e1] at h1
      exact .skip (rn_store27 rfl ((fr_own rfl rfl).trans e) ((fr_own rfl rfl).trans e1) hz) ⟨⟨⟨below2 hI.1 hB _ _, fun _ => ⟨T5, e5, hB5, h5.st hz.odd (grown2 _ _ _ _ _ _) hne2⟩, fun _ => ⟨T, e, hB, Hd.stored hz h1⟩⟩, fun t v => (M1k t) hz⟩, by simp [World.setCell]⟩
    · intro f w' hI _
      obtain ⟨T5, h1, h2, h3⟩ := hI.2.1 (by decide)
      obtain ⟨T6, h4, h5, h6⟩ := hI.2.2 (by decide)
      refine hK _ _ (Met.intro (hJ _ _ ?_))
      (repeat apply Exists.intro)
      refine ⟨?_, rfl⟩
      exact ⟨T5, T6, h1, h4, h2, h5, h3, h6, hI.1⟩
  case rest =>
    obtain ⟨P, Q, rfl, rfl, lP, lQ, hdP, hdQ, kW⟩ := hcut
    have S := Lib.hid (S.out.keep kW)
    have HP := Lib.hid hdP; have HQ := Lib.hid hdQ
    clear hdP hdQ kW lP lQ
    go_upto_region 2 with fail
    go_cut [7, 8] (fun u5 u6 we => ∃ P Q, u5 = .pointer (some ⟨P, 0, none⟩) ∧ u6 = .pointer (some ⟨Q, 0, none⟩) ∧ wc.heap.size ≤ P ∧ wc.heap.size ≤ Q ∧ Hd P (Nat.gcd an.natAbs q) we ∧ Hd Q (Nat.gcd bn.natAbs p) we ∧ Below wc.heap.size wc we)
    case first =>
      rename_i J K' hJ hK
      refine wp_region_alf M2D (M2t wc.heap.size w.heap.size an bn p q) M2al 12 (fun i f w' => Below wc.heap.size wc w' ∧ (12+1 ≤ i → ∃ T, f 7 = .pointer (some ⟨T, 0, none⟩) ∧ wc.heap.size ≤ T ∧ Hd T (Nat.gcd an.natAbs q) w') ∧ (12+2 ≤ i → ∃ T, f 8 = .pointer (some ⟨T, 0, none⟩) ∧ wc.heap.size ≤ T ∧ Hd T (Nat.gcd bn.natAbs p) w')) (by kernel_rfl) (by kernel_rfl) (by kernel_rfl) (by kernel_rfl) (by decide) (by kernel_rfl) (fun i f f' w' w'' hI hb he => ⟨Below.thru hI.1 hI.1.size hb, fun h => by
          obtain ⟨T, h1, h2, h3⟩ := hI.2.1 h
          rcases he with he | he
          · omega
          · exact ⟨T, (he 7 rfl).trans h1, h2, h3.keep hb⟩, fun h => by
          obtain ⟨T, h1, h2, h3⟩ := hI.2.2 h
          rcases he with he | he
          · omega
          · exact ⟨T, (he 8 rfl).trans h1, h2, h3.keep hb⟩⟩) (by kernel_rfl) (fun f => ⟨(Below.refl _ _).drew, fun h => absurd h (by decide), fun h => absurd h (by decide)⟩) ?_ ?_ ?_
      · refine .cons (fun j f w' hj hI hs => ⟨wanted_none rfl, _, rfl, .val (rn_field61_0 rfl (fr_old rfl rfl)) ⟨⟨Below.refl _ _, rfl⟩, (fun h => by cases h)⟩⟩) ?_
        refine .cons (fun j f w' hj hI hs => ⟨wanted_none rfl, _, rfl, .val (rn_field29_1 rfl ((fr_own rfl rfl).trans (hs 14 (by kernel_rfl)))) ⟨⟨Below.refl _ _, rfl⟩, (fun h => by cases h)⟩⟩) ?_
        refine .cons (fun j f w' hj hI hs => ?_) ?_
        · obtain ⟨x, p', h1, h2, h3⟩ := (S.out.a.keep hI.1).dgp
          exact ⟨wanted_none rfl, _, rfl, .val (rn_load27c rfl ((fr_own rfl rfl).trans (hs 15 (by kernel_rfl))) h1 h2) ⟨⟨Below.refl _ _, h3⟩, (fun h => by cases h)⟩⟩
        refine .cons (fun j f w' hj hI hs => ?_) ?_
        · obtain ⟨x, p', h1, h2⟩ := HQ.out.keep hI.1
          exact ⟨wanted_none rfl, _, rfl, .val (rn_load27 rfl (fr_old rfl rfl) h1) ⟨⟨Below.refl _ _, h2⟩, (fun h => by cases h)⟩⟩
        refine .cons (fun j f w' hj hI hs => ⟨wanted_none rfl, _, rfl, .call2 rfl cf108 rfl rfl rfl rfl ((PDg.kd (common_all an.natAbs q SA.out SQ.out _ _ _ (hs 16 (by kernel_rfl)) (hs 17 (by kernel_rfl)))).mono fun _ _ ⟨v, he, hr⟩ => ⟨v, he, hr, (fun h => by cases h)⟩)⟩) ?_
        refine .cons (fun j f w' hj hI hs => ⟨wanted_none rfl, _, rfl, .val (rn_field61_0 rfl (fr_old rfl rfl)) ⟨⟨Below.refl _ _, rfl⟩, (fun h => by cases h)⟩⟩) ?_
        refine .cons (fun j f w' hj hI hs => ⟨wanted_none rfl, _, rfl, .val (rn_field29_1 rfl ((fr_own rfl rfl).trans (hs 19 (by kernel_rfl)))) ⟨⟨Below.refl _ _, rfl⟩, (fun h => by cases h)⟩⟩) ?_
        refine .cons (fun j f w' hj hI hs => ?_) ?_
        · obtain ⟨x, p', h1, h2, h3⟩ := (S.out.b.keep hI.1).dgp
          exact ⟨wanted_none rfl, _, rfl, .val (rn_load27c rfl ((fr_own rfl rfl).trans (hs 20 (by kernel_rfl))) h1 h2) ⟨⟨Below.refl _ _, h3⟩, (fun h => by cases h)⟩⟩
        refine .cons (fun j f w' hj hI hs => ?_) ?_
        · obtain ⟨x, p', h1, h2⟩ := HP.out.keep hI.1
          exact ⟨wanted_none rfl, _, rfl, .val (rn_load27 rfl (fr_old rfl rfl) h1) ⟨⟨Below.refl _ _, h2⟩, (fun h => by cases h)⟩⟩
        refine .cons (fun j f w' hj hI hs => ⟨wanted_none rfl, _, rfl, .call2 rfl cf108 rfl rfl rfl rfl ((PDg.kd (common_all bn.natAbs p SB.out SP.out _ _ _ (hs 21 (by kernel_rfl)) (hs 22 (by kernel_rfl)))).mono fun _ _ ⟨v, he, hr⟩ => ⟨v, he, hr, (fun h => by cases h)⟩)⟩) ?_
        refine .cons (fun j f w' hj hI hs => ⟨wanted_none rfl, _, rfl, .val (rn_alloc27 rfl) ⟨⟨bl1 _ _, _, rfl, hI.1.size, _, _, Go.Deep.blk_alloc_new _ _⟩, fun _ => ⟨rfl, by simp⟩⟩⟩) ?_
        refine .cons (fun j f w' hj hI hs => ⟨wanted_none rfl, _, rfl, .val (rn_alloc27 rfl) ⟨⟨bl1 _ _, _, rfl, hI.1.size, _, _, Go.Deep.blk_alloc_new _ _⟩, fun _ => ⟨rfl, by simp⟩⟩⟩) .nil
      · refine .cons (fun f w' hI hs hne => ⟨wanted_none rfl, rfl, ?_⟩) ?_
        · have h1 : Dg w' (f 18) (Nat.gcd an.natAbs q) := (hs 18 (by kernel_rfl))
          obtain ⟨T, e, hB, hz⟩ : ∃ T, f 7 = .pointer (some ⟨T, 0, none⟩) ∧ wc.heap.size ≤ T ∧ Rs T w' := (hs 7 (by kernel_rfl))
          obtain ⟨x1, p1, e1⟩ := h1.agg
          rw [e1] at h1
          exact .skip (rn_store27 rfl ((fr_own rfl rfl).trans e) ((fr_own rfl rfl).trans e1) hz) ⟨⟨⟨below2 hI.1 hB _ _, fun _ => ⟨T, e, hB, Hd.stored hz h1⟩, fun h => absurd h (by decide)⟩, fun t v => (M2k t) hz⟩, by simp [World.setCell]⟩
        refine .cons (fun f w' hI hs hne => ⟨wanted_none rfl, rfl, ?_⟩) .nil
        have h1 : Dg w' (f 23) (Nat.gcd bn.natAbs p) := (hs 23 (by kernel_rfl))
        obtain ⟨T, e, hB, hz⟩ : ∃ T, f 8 = .pointer (some ⟨T, 0, none⟩) ∧ wc.heap.size ≤ T ∧ Rs T w' := (hs 8 (by kernel_rfl))
        obtain ⟨T5, e5, hB5, h5⟩ := hI.2.1 (by decide)
        have hne2 : T5 ≠ T := by
          intro e'
          have := hne 7 8 (by kernel_rfl) (by kernel_rfl) rfl rfl (by decide)
          rw [e5, e, e'] at this
          exact this rfl
        obtain ⟨x1, p1, e1⟩ := h1.agg
        rw [e1] at h1
        exact .skip (rn_store27 rfl ((fr_own rfl rfl).trans e) ((fr_own rfl rfl).trans e1) hz) ⟨⟨⟨below2 hI.1 hB _ _, fun _ => ⟨T5, e5, hB5, h5.st hz.odd (grown2 _ _ _ _ _ _) hne2⟩, fun _ => ⟨T, e, hB, Hd.stored hz h1⟩⟩, fun t v => (M2k t) hz⟩, by simp [World.setCell]⟩
      · intro f w' hI _
        obtain ⟨T5, h1, h2, h3⟩ := hI.2.1 (by decide)
        obtain ⟨T6, h4, h5, h6⟩ := hI.2.2 (by decide)
        refine hK _ _ (Met.intro (hJ _ _ ?_))
        (repeat apply Exists.intro)
        refine ⟨?_, rfl⟩
        exact ⟨T5, T6, h1, h4, h2, h5, h3, h6, hI.1⟩
    case rest =>
      obtain ⟨Gb, Hb, rfl, rfl, lG, lH, hdG, hdH, kW⟩ := hcut
      have S := Lib.hid (S.out.keep kW)
      have HP := Lib.hid (HP.out.keep kW); have HQ := Lib.hid (HQ.out.keep kW)
      have HG := Lib.hid hdG; have HH := Lib.hid hdH
      clear hdG hdH kW lG lH
      generalize Nat.gcd an.natAbs q = g at *
      generalize Nat.gcd bn.natAbs p = h at *
      go_upto_region 3 with fail
      go_cut [9] (fun u9 we => ∃ T, u9 = .pointer (some ⟨T, 0, none⟩) ∧ Hz T (Int.tdiv an g * Int.tdiv bn h) we ∧ Below wc.heap.size wc we)
      case first =>
        rename_i J K' hJ hK
        refine wp_region_alf M3D (M3t wc.heap.size w.heap.size an bn g h) M3al 10 (fun i f w' => Below wc.heap.size wc w' ∧ (11 ≤ i → ∃ T, f 9 = .pointer (some ⟨T, 0, none⟩) ∧ Hz T (Int.tdiv an g * Int.tdiv bn h) w')) (by kernel_rfl) (by kernel_rfl) (by kernel_rfl) (by kernel_rfl) (by decide) (by kernel_rfl) (fun i f f' w' w'' hI hb he => ⟨Below.thru hI.1 hI.1.size hb, fun h => by
          obtain ⟨T, h1, h2⟩ := hI.2 h
          rcases he with he | he
          · omega
          · exact ⟨T, (he 9 rfl).trans h1, h2.keep hb⟩⟩) (by kernel_rfl) (fun f => ⟨(Below.refl _ _).drew, fun h => absurd h (by decide)⟩) ?_ ?_ ?_
        · refine .cons (fun j f w' hj hI hs => ⟨wanted_none rfl, _, rfl, .val (rn_field61_0 rfl (fr_old rfl rfl)) ⟨⟨Below.refl _ _, rfl⟩, (fun h => by cases h)⟩⟩) ?_
          refine .cons (fun j f w' hj hI hs => ?_) ?_
          · obtain ⟨s, x, p', h1, h2⟩ := (S.out.a.keep hI.1).b3
            exact ⟨wanted_none rfl, _, rfl, .val (rn_load29 rfl ((fr_own rfl rfl).trans (hs 24 (by kernel_rfl))) h1) ⟨⟨Below.refl _ _, h2⟩, (fun h => by cases h)⟩⟩
          refine .cons (fun j f w' hj hI hs => ?_) ?_
          · obtain ⟨x, p', h1, h2⟩ := HG.out.keep hI.1
            exact ⟨wanted_none rfl, _, rfl, .val (rn_load27 rfl (fr_old rfl rfl) h1) ⟨⟨Below.refl _ _, h2⟩, (fun h => by cases h)⟩⟩
          refine .cons (fun j f w' hj hI hs => ⟨wanted_none rfl, _, rfl, .call2 rfl cf111 rfl rfl rfl rfl ((PZ.kd (part_any _ _ an g _ (hs 25 (by kernel_rfl)) (hs 26 (by kernel_rfl)) (fun _ => over_all _ _ SA.out GP.out))).mono fun _ _ ⟨v, he, hr⟩ => ⟨v, he, hr, (fun h => by cases h)⟩)⟩) ?_
          refine .cons (fun j f w' hj hI hs => ⟨wanted_none rfl, _, rfl, .val (rn_field61_0 rfl (fr_old rfl rfl)) ⟨⟨Below.refl _ _, rfl⟩, (fun h => by cases h)⟩⟩) ?_
          refine .cons (fun j f w' hj hI hs => ?_) ?_
          · obtain ⟨s, x, p', h1, h2⟩ := (S.out.b.keep hI.1).b3
            exact ⟨wanted_none rfl, _, rfl, .val (rn_load29 rfl ((fr_own rfl rfl).trans (hs 28 (by kernel_rfl))) h1) ⟨⟨Below.refl _ _, h2⟩, (fun h => by cases h)⟩⟩
          refine .cons (fun j f w' hj hI hs => ?_) ?_
          · obtain ⟨x, p', h1, h2⟩ := HH.out.keep hI.1
            exact ⟨wanted_none rfl, _, rfl, .val (rn_load27 rfl (fr_old rfl rfl) h1) ⟨⟨Below.refl _ _, h2⟩, (fun h => by cases h)⟩⟩
          refine .cons (fun j f w' hj hI hs => ⟨wanted_none rfl, _, rfl, .call2 rfl cf111 rfl rfl rfl rfl ((PZ.kd (part_any _ _ bn h _ (hs 29 (by kernel_rfl)) (hs 30 (by kernel_rfl)) (fun _ => over_all _ _ SB.out HPo.out))).mono fun _ _ ⟨v, he, hr⟩ => ⟨v, he, hr, (fun h => by cases h)⟩)⟩) ?_
          refine .cons (fun j f w' hj hI hs => ⟨wanted_none rfl, _, rfl, .call2 rfl cf96 rfl rfl rfl rfl ((PZ.kd (zmul_any _ _ (Int.tdiv an g) (Int.tdiv bn h) _ (hs 27 (by kernel_rfl)) (hs 31 (by kernel_rfl)) (by rw [Int.natAbs_tdiv, Int.natAbs_natCast]; exact SA.out.le (Nat.div_le_self _ _)) (by rw [Int.natAbs_tdiv, Int.natAbs_natCast]; exact SB.out.le (Nat.div_le_self _ _)))).mono fun _ _ ⟨v, he, hr⟩ => ⟨v, he, hr, (fun h => by cases h)⟩)⟩) ?_
          refine .cons (fun j f w' hj hI hs => ⟨wanted_none rfl, _, rfl, .val (rn_alloc29 rfl) ⟨⟨bl1 _ _, _, rfl, hI.1.size, _, _, _, Go.Deep.blk_alloc_new _ _⟩, fun _ => ⟨rfl, by simp⟩⟩⟩) .nil
        · refine .cons (fun f w' hI hs hne => ⟨wanted_none rfl, rfl, ?_⟩) .nil
          have h1 : Zr w' (f 32) (Int.tdiv an g * Int.tdiv bn h) := (hs 32 (by kernel_rfl))
          obtain ⟨T, e, hB, hz⟩ : ∃ T, f 9 = .pointer (some ⟨T, 0, none⟩) ∧ wc.heap.size ≤ T ∧ Rz T w' := (hs 9 (by kernel_rfl))
          obtain ⟨s1, x1, p1, n1, e1, _⟩ := id h1
          rw [e1] at h1
          exact .skip (rn_store29 rfl ((fr_own rfl rfl).trans e) ((fr_own rfl rfl).trans e1) hz) ⟨⟨⟨below3 hI.1 hB _ _ _, fun _ => ⟨T, e, Hz.stored hz h1⟩⟩, fun t v => (M3k t) hz⟩, by simp [World.setCell]⟩
        · intro f w' hI _
          obtain ⟨T, h1, h2⟩ := hI.2 (by decide)
          refine hK _ _ (Met.intro (hJ _ _ ?_))
          (repeat apply Exists.intro)
          refine ⟨?_, rfl⟩
          exact ⟨T, h1, h2, hI.1⟩
      case rest =>
        obtain ⟨T, rfl, hzN, kW⟩ := hcut
        have S := Lib.hid (S.out.keep kW)
        have HP := Lib.hid (HP.out.keep kW); have HQ := Lib.hid (HQ.out.keep kW)
        have HG := Lib.hid (HG.out.keep kW); have HH := Lib.hid (HH.out.keep kW)
        have HN := Lib.hid hzN
        clear hzN kW
        generalize hn : Int.tdiv an g * Int.tdiv bn h = n at *
        go_upto_region 4 with fail
        go_cut [] (fun we => Below w.heap.size w we ∧ Hq (w.heap.size + 1 + 1) n ((p / h) * (q / g)) we)
        case first =>
          rename_i J K' hJ hK
          refine wp_region_two M4D (M4t n p q g h) (fun w' => Below wc.heap.size wc w') 9 (fun _ _ we => Below w.heap.size w we ∧ Hq (w.heap.size + 1 + 1) n ((p / h) * (q / g)) we) (by kernel_rfl) (by kernel_rfl) (by kernel_rfl) (by kernel_rfl) (by decide) (by kernel_rfl) (fun _ _ h hb => Below.thru h h.size hb) (Below.refl _ _).drew ?_ ?_ ?_
          · refine .cons (fun f w' hI hs => ?_) ?_
            · obtain ⟨s, x, p', h1, h2⟩ := HN.out.keep hI
              exact ⟨wanted_none rfl, _, rfl, .val (rn_load29 rfl (fr_old rfl rfl) (hz3 h1)) ⟨Below.refl _ _, h2⟩⟩
            refine .cons (fun f w' hI hs => ?_) ?_
            · obtain ⟨x, p', h1, h2⟩ := HP.out.keep hI
              exact ⟨wanted_none rfl, _, rfl, .val (rn_load27 rfl (fr_old rfl rfl) h1) ⟨Below.refl _ _, h2⟩⟩
            refine .cons (fun f w' hI hs => ?_) ?_
            · obtain ⟨x, p', h1, h2⟩ := HH.out.keep hI
              exact ⟨wanted_none rfl, _, rfl, .val (rn_load27 rfl (fr_old rfl rfl) h1) ⟨Below.refl _ _, h2⟩⟩
            refine .cons (fun f w' hI hs => ⟨wanted_none rfl, _, rfl, .call2 rfl cf109 rfl rfl rfl rfl (PDg.kd (share_any _ _ p h _ (hs 34 (by kernel_rfl)) (hs 35 (by kernel_rfl)) (fun _ => over_all _ _ SP.out HPo.out)))⟩) ?_
            refine .cons (fun f w' hI hs => ?_) ?_
            · obtain ⟨x, p', h1, h2⟩ := HQ.out.keep hI
              exact ⟨wanted_none rfl, _, rfl, .val (rn_load27 rfl (fr_old rfl rfl) h1) ⟨Below.refl _ _, h2⟩⟩
            refine .cons (fun f w' hI hs => ?_) ?_
            · obtain ⟨x, p', h1, h2⟩ := HG.out.keep hI
              exact ⟨wanted_none rfl, _, rfl, .val (rn_load27 rfl (fr_old rfl rfl) h1) ⟨Below.refl _ _, h2⟩⟩
            refine .cons (fun f w' hI hs => ⟨wanted_none rfl, _, rfl, .call2 rfl cf109 rfl rfl rfl rfl (PDg.kd (share_any _ _ q g _ (hs 37 (by kernel_rfl)) (hs 38 (by kernel_rfl)) (fun _ => over_all _ _ SQ.out GP.out)))⟩) ?_
            refine .cons (fun f w' hI hs => ⟨wanted_none rfl, _, rfl, .call2 rfl cf112 rfl rfl rfl rfl (PDg.kd (times_any _ _ (p / h) (q / g) _ (hs 36 (by kernel_rfl)) (hs 39 (by kernel_rfl)) (SP.out.le (Nat.div_le_self _ _)) (SQ.out.le (Nat.div_le_self _ _))))⟩) ?_
            refine .cons (fun f w' hI hs => ⟨wanted_none rfl, _, rfl, .call2 rfl cf107 rfl rfl rfl rfl (PR.kd (lowest_any _ _ n ((p / h) * (q / g)) _ (hs 33 (by kernel_rfl)) (hs 40 (by kernel_rfl)) POS.out LOW.out))⟩) .nil
          · refine .cons (fun f w' hx => ⟨wanted_none rfl, ?_⟩) .nil
            obtain ⟨hI, hs⟩ := (if_pos rfl) ▸ hx
            have S := S.out.keep hI
            have h8 : Rr w' (f 41) n ((p / h) * (q / g)) := hs 41 (by kernel_rfl)
            obtain ⟨s8, x8, p8, y8, q8, e8⟩ := h8.agg
            rw [e8] at h8
            exact .skip (rn_store61 rfl (fr_old rfl rfl) ((fr_own rfl rfl).trans e8) S.t) ⟨below5 S.k (by omega) _ _ _ _ _, Hq.stored S.t h8⟩
          · intro f w' hx
            refine hK _ _ (Met.intro (hJ _ _ ?_))
            (repeat apply Exists.intro)
            refine ⟨?_, rfl⟩
            exact hx
        case rest =>
          obtain ⟨kf, s1, x1, y1, p1, q1, h1, h2⟩ := hcut
          have i1 := cell_blk (i := 0) h1
          have i2 := cell_blk (i := 1) h1
          have i3 := cell_blk (i := 2) h1
          have i4 := cell_blk (i := 3) h1
          have i5 := cell_blk (i := 4) h1
          have KF := Lib.hid kf
          have V := Lib.hid h2
          clear h1 h2 kf
          go_wp2
          exact bodyPost_ret (v := .agg #[.bool s1, .int .u64 x1, .pointer p1, .int .u64 y1, .pointer q1]) (by simp [results, Tryz.results46, go_sem, i1, i2, i3, i4, i5]) rfl ⟨KF.out, _, rfl, V.out⟩
end Go.Proofs.YtjjomjjgoceklaaGreat

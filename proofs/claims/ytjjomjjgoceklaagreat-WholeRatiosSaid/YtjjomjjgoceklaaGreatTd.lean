import Derived.Test.YtjjomjjgoceklaaGreatTc
namespace Go.Proofs.YtjjomjjgoceklaaGreat
set_option maxRecDepth 100000
open Go.RowKit

/-! R.Floor -/
section
variable {ρ : Operand → Value} {o : Oper} {w : World} {t : Operand}
theorem rn_load61 {T : Nat} {s : Bool} {x y : Int} {p q : Option Addr} (ho : o.op = .load 33 t) (he : ρ t = .pointer (some ⟨T, 0, none⟩)) (h : w.heap[T]? = some (.cells #[.bool s, .int .u64 x, .pointer p, .int .u64 y, .pointer q] 33 (0, 0))) : (execOp ρ o).run Tryz.prog w = .ok (.value (.agg #[.bool s, .int .u64 x, .pointer p, .int .u64 y, .pointer q])) w := by
  have i1 := cell_blk (i := 0) h
  have i2 := cell_blk (i := 1) h
  have i3 := cell_blk (i := 2) h
  have i4 := cell_blk (i := 3) h
  have i5 := cell_blk (i := 4) h
  unfold execOp; rw [ho]; simp [go_sem, he, i1, i2, i3, i4, i5]
theorem rn_extract0 {u v : Value} (ho : o.op = .extract t 0) (he : ρ t = .tuple #[u, v]) : (execOp ρ o).run Tryz.prog w = .ok (.value u) w := by
  unfold execOp; rw [ho]; simp [go_sem, he]
theorem rn_extract1 {u v : Value} (ho : o.op = .extract t 1) (he : ρ t = .tuple #[u, v]) : (execOp ρ o).run Tryz.prog w = .ok (.value v) w := by
  unfold execOp; rw [ho]; simp [go_sem, he]
end
theorem cf106 : CF 106 := fun W args => by go_simp
theorem cf32 : CF 32 := fun W args => by go_simp
def ktup (a b : Int) : Kd := .c (fun v w => ∃ x y, v = .tuple #[x, y] ∧ Zr w x a ∧ Zr w y b) (fun _ _ _ ⟨x, y, h1, h2, h3⟩ hb => ⟨x, y, h1, h2.keep hb (Nat.le_refl _), h3.keep hb (Nat.le_refl _)⟩)
structure F5 (w0 : World) (s : Bool) (x y : Int) (p q : Option Addr) (n : Int) (d : Nat) (w : World) : Prop where
  g : w0.heap.size + 1 + 1 ≤ w.heap.size
  k : Below w0.heap.size w0 w
  a : w.heap[w0.heap.size]? = some (.cells #[.bool s, .int .u64 x, .pointer p, .int .u64 y, .pointer q] 33 (0, 0))
  r : Rr w (.agg #[.bool s, .int .u64 x, .pointer p, .int .u64 y, .pointer q]) n d
  t : Rz (w0.heap.size + 1) w
section
variable {w0 w w' : World} {s : Bool} {x y : Int} {p q : Option Addr} {n : Int} {d : Nat}
theorem F5.keep (h : F5 w0 s x y p q n d w) (hb : Below w.heap.size w w') : F5 w0 s x y p q n d w' := ⟨Nat.le_trans h.g hb.size, Below.thru h.k h.k.size hb, blk_keep h.a hb, h.r.keep hb (Nat.le_refl _), h.t.keep hb h.t.lt⟩
theorem F5.b3 (h : F5 w0 s x y p q n d w) : B3 w0.heap.size s x p w := by refine ⟨?_, ?_, ?_⟩ <;> simp [World.cell?, h.a]
theorem F5.z (h : F5 w0 s x y p q n d w) : Zr w (.agg #[.bool s, .int .u64 x, .pointer p]) n := h.r.zr'
theorem F5.put (h : F5 w0 s x y p q n d w) {T : Nat} (hT : w0.heap.size + 1 + 1 ≤ T) (hz : Rz T w) (s' : Bool) (x' : Int) (p' : Option Addr) : F5 w0 s x y p q n d (st3 w T (.bool s') (.int .u64 x') (.pointer p')) := by
  have hg : w.grownBy (st3 w T (.bool s') (.int .u64 x') (.pointer p')) (some T) := grown3 _ _ _ _ _ _ _ _
  exact ⟨Nat.le_trans h.g hg.size, below3 h.k (by omega) _ _ _, blk_other h.a hg (by omega), h.r.store hz.odd hg, h.t.other hg (by omega)⟩
end
theorem rz_st3 {T U : Nat} {w : World} (hT : Rz T w) (hU : Rz U w) (s : Bool) (x : Int) (p : Option Addr) : Rz U (st3 w T (.bool s) (.int .u64 x) (.pointer p)) := by
  by_cases e : U = T
  · subst e; exact ⟨s, x, p, hU.stored s x p⟩
  · exact hU.other (grown3 _ _ _ _ _ _ _ _) e
def DF1 (t : Nat) : Bool := Nat.ble 3 t && Nat.ble t 12
def alF1 (t : Nat) : Bool := Nat.beq t 3 || Nat.beq t 4
def tabF1 (S B : Nat) (n : Int) (d : Nat) (t : Nat) : Kd := [kbz B, kbz B, ktup (n / d) (n % d), kp S 0, .z n, .q n d, .z (d : Int), ktup (n / d) (n % d), .z (n / d), .z (n % d)].getD (t - 3) .any
theorem tabF1_st {S B d T : Nat} {n : Int} {w : World} (hT : Rz T w) (s : Bool) (x : Int) (p : Option Addr) (t : Nat) (v : Value) (h : kd (tabF1 S B n d t) v w) : kd (tabF1 S B n d t) v (st3 w T (.bool s) (.int .u64 x) (.pointer p)) := by
  have hg : w.grownBy (st3 w T (.bool s) (.int .u64 x) (.pointer p)) (some T) := grown3 _ _ _ _ _ _ _ _
  have tup : kd (ktup (n / d) (n % d)) v w → kd (ktup (n / d) (n % d)) v (st3 w T (.bool s) (.int .u64 x) (.pointer p)) := fun ⟨x, y, h1, h2, h3⟩ => ⟨x, y, h1, h2.store hT.odd hg, h3.store hT.odd hg⟩
  have bz : kd (kbz B) v w → kd (kbz B) v (st3 w T (.bool s) (.int .u64 x) (.pointer p)) := fun ⟨U, h1, h2, h3⟩ => ⟨U, h1, h2, rz_st3 hT h3 s x p⟩
  unfold tabF1 at *
  generalize t - 3 = j at *
  match j with
  | 0 => exact bz h
  | 1 => exact bz h
  | 2 => exact tup h
  | 3 => exact h
  | 4 => exact Zr.store h hT.odd hg
  | 5 => exact Rr.store h hT.odd hg
  | 6 => exact Zr.store h hT.odd hg
  | 7 => exact tup h
  | 8 => exact Zr.store h hT.odd hg
  | 9 => exact Zr.store h hT.odd hg
  | j + 10 => trivial
set_option maxRecDepth 100000 in
set_option maxHeartbeats 1600000 in
theorem floor_any (v : Value) (n : Int) (d : Nat) (w : World) (h : Rr w v n d) (hov : OverC n.natAbs d) (sn : Sz n.natAbs) (sd : Sz d) : Calls Tryz.prog 34 #[v] w (PZ (n / d) w) := by
  have hd0 := h.pos'
  obtain ⟨s, x, p, y, q, rfl⟩ := h.agg
  have S0 : F5 w s x y p q n d ((w.alloc (.cells #[.bool s, .int .u64 x, .pointer p, .int .u64 y, .pointer q] 33)).alloc (.cells #[.bool false, .int .u64 0, .pointer none] 28)) :=
    ⟨by simp, bl2 _ _ _, blk_keep (Go.Deep.blk_alloc_new _ _) (bl1 _ _), h.keep (bl2 _ _ _) (Nat.le_refl _), rz_new _ (by simp)⟩
  have S0 := Lib.hid S0
  have HD0 : Hid ((d : Int) ≠ 0) := by show _ ≠ _; omega
  have HOV : Hid (OverC n.natAbs (d : Int).natAbs) := by rw [Int.natAbs_natCast]; exact hov
  have SN := Lib.hid sn
  have SDD : Hid (Sz (d : Int).natAbs) := by rw [Int.natAbs_natCast]; exact sd
  have HBS : Hid (∀ {N : Nat}, w.heap.size + 1 + 1 ≤ N → w.heap.size + 1 + 1 ≤ N) := fun h => h
  clear h hov sn sd hd0
  go_enter Tryz.func34, Tryz.ntmps34
  go_wp2_with fail
  go_cut [3] (fun u wc => ∃ T, u = .pointer (some ⟨T, 0, none⟩) ∧ F5 w s x y p q n d wc ∧ Hz T (n / d) wc)
  case first =>
    rename_i J K' hJ hK
    refine wp_region_alf DF1 (tabF1 w.heap.size (w.heap.size + 1 + 1) n d) alF1 10 (fun i f w' => F5 w s x y p q n d w' ∧ (11 ≤ i → ∃ T, f 3 = .pointer (some ⟨T, 0, none⟩) ∧ Hz T (n / d) w')) (by kernel_rfl) (by kernel_rfl) (by kernel_rfl) (by kernel_rfl) (by decide) (by kernel_rfl) (fun i f f' w' w'' hI hb he => ⟨hI.1.keep hb, fun h => by
      obtain ⟨T, h1, h2⟩ := hI.2 h
      rcases he with he | he
      · omega
      · exact ⟨T, (he 3 rfl).trans h1, h2.keep hb⟩⟩) (by kernel_rfl) (fun f => ⟨S0.out.keep (Below.refl _ _).drew, fun h => by omega⟩) ?_ ?_ ?_
    · refine .cons (fun j f w' hj hI hs => ⟨wanted_none rfl, _, rfl, .val (rn_field61_0 rfl (fr_old rfl rfl)) ⟨⟨Below.refl _ _, rfl⟩, (fun h => by cases h)⟩⟩) ?_
      refine .cons (fun j f w' hj hI hs => ⟨wanted_none rfl, _, rfl, .val (rn_load29 rfl ((fr_own rfl rfl).trans (hs 6 (by kernel_rfl))) hI.1.b3) ⟨⟨Below.refl _ _, hI.1.z⟩, (fun h => by cases h)⟩⟩) ?_
      refine .cons (fun j f w' hj hI hs => ⟨wanted_none rfl, _, rfl, .val (rn_load61 rfl (fr_old rfl rfl) hI.1.a) ⟨⟨Below.refl _ _, hI.1.r⟩, (fun h => by cases h)⟩⟩) ?_
      refine .cons (fun j f w' hj hI hs => ⟨wanted_none rfl, _, rfl, .call1 rfl cf32 rfl rfl ((den_any _ n d _ (hs 8 (by kernel_rfl))).mono fun _ _ ⟨hb, v, he, hv⟩ => ⟨v, he, ⟨hb, hv⟩, (fun h => by cases h)⟩)⟩) ?_
      refine .cons (fun j f w' hj hI hs => ⟨wanted_none rfl, _, rfl, .call2 rfl cf106 rfl rfl rfl rfl ((divide_any _ _ n (d : Int) _ (hs 7 (by kernel_rfl)) (hs 9 (by kernel_rfl)) HD0.out HOV.out SN.out SDD.out).mono fun _ _ ⟨hb, u, v, he, h1, h2⟩ => ⟨_, he, ⟨hb, u, v, rfl, h1, h2⟩, (fun h => by cases h)⟩)⟩) ?_
      refine .cons (fun j f w' hj hI hs => ⟨wanted_none rfl, _, rfl, .val (rn_move rfl) ⟨⟨Below.refl _ _, by have := (hs 10 (by kernel_rfl)); rw [fr_own rfl rfl]; exact this⟩, (fun h => by cases h)⟩⟩) ?_
      refine .cons (fun j f w' hj hI hs => ?_) ?_
      · obtain ⟨u, v, e, h1, h2⟩ : ∃ u v, f 5 = .tuple #[u, v] ∧ Zr w' u (n / d) ∧ Zr w' v (n % d) := (hs 5 (by kernel_rfl))
        exact ⟨wanted_none rfl, _, rfl, .val (rn_extract0 rfl ((fr_own rfl rfl).trans e)) ⟨⟨Below.refl _ _, h1⟩, (fun h => by cases h)⟩⟩
      refine .cons (fun j f w' hj hI hs => ?_) ?_
      · obtain ⟨u, v, e, h1, h2⟩ : ∃ u v, f 5 = .tuple #[u, v] ∧ Zr w' u (n / d) ∧ Zr w' v (n % d) := (hs 5 (by kernel_rfl))
        exact ⟨wanted_none rfl, _, rfl, .val (rn_extract1 rfl ((fr_own rfl rfl).trans e)) ⟨⟨Below.refl _ _, h2⟩, (fun h => by cases h)⟩⟩
      refine .cons (fun j f w' hj hI hs => ⟨wanted_none rfl, _, rfl, .val (rn_alloc29 rfl) ⟨⟨bl1 _ _, _, rfl, HBS.out hI.1.g, _, _, _, Go.Deep.blk_alloc_new _ _⟩, fun _ => ⟨rfl, by simp⟩⟩⟩) ?_
      refine .cons (fun j f w' hj hI hs => ⟨wanted_none rfl, _, rfl, .val (rn_alloc29 rfl) ⟨⟨bl1 _ _, _, rfl, HBS.out hI.1.g, _, _, _, Go.Deep.blk_alloc_new _ _⟩, fun _ => ⟨rfl, by simp⟩⟩⟩) .nil
    · refine .cons (fun f w' hI hs hne => ⟨wanted_none rfl, rfl, ?_⟩) ?_
      · have h11 : Zr w' (f 11) (n / d) := (hs 11 (by kernel_rfl))
        obtain ⟨T, e3, hB, hz⟩ : ∃ T, f 3 = .pointer (some ⟨T, 0, none⟩) ∧ w.heap.size + 1 + 1 ≤ T ∧ Rz T w' := (hs 3 (by kernel_rfl))
        obtain ⟨s1, x1, p1, n1, e, _⟩ := id h11
        rw [e] at h11
        exact .skip (rn_store29 rfl ((fr_own rfl rfl).trans e3) ((fr_own rfl rfl).trans e) hz) ⟨⟨⟨hI.1.put hB hz _ _ _, fun _ => ⟨T, e3, Hz.stored hz h11⟩⟩, tabF1_st hz s1 x1 p1⟩, by simp [World.setCell]⟩
      refine .cons (fun f w' hI hs hne => ⟨wanted_none rfl, rfl, ?_⟩) .nil
      have h12 : Zr w' (f 12) (n % d) := (hs 12 (by kernel_rfl))
      obtain ⟨T, e4, hB, hz⟩ : ∃ T, f 4 = .pointer (some ⟨T, 0, none⟩) ∧ w.heap.size + 1 + 1 ≤ T ∧ Rz T w' := (hs 4 (by kernel_rfl))
      obtain ⟨T3, e3, h3⟩ := hI.2 (by decide)
      have hne2 : T3 ≠ T := by
        intro e
        have := hne 3 4 (by kernel_rfl) (by kernel_rfl) rfl rfl (by decide)
        rw [e3, e4, e] at this
        exact this rfl
      obtain ⟨s1, x1, p1, n1, e, _⟩ := id h12
      rw [e] at h12
      exact .skip (rn_store29 rfl ((fr_own rfl rfl).trans e4) ((fr_own rfl rfl).trans e) hz) ⟨⟨⟨hI.1.put hB hz _ _ _, fun _ => ⟨T3, e3, h3.st hz.odd (grown3 _ _ _ _ _ _ _ _) hne2⟩⟩, tabF1_st hz s1 x1 p1⟩, by simp [World.setCell]⟩
    · intro f w' hI _
      obtain ⟨T, h1, h2⟩ := hI.2 (by decide)
      refine hK _ _ (Met.intro (hJ _ _ ?_))
      (repeat apply Exists.intro)
      refine ⟨?_, rfl⟩
      exact ⟨T, h1, hI.1, h2⟩
  case rest =>
    obtain ⟨T, rfl, F, s1, x1, p1, h1, h2⟩ := hcut
    obtain ⟨g1, g2, g3⟩ := b3_blk h1
    obtain ⟨_, _, _, m1, m2, m3, m4, m5, m6⟩ := F.t.cells
    obtain ⟨i1, i2, i3⟩ := three_cells m1 m2 m3 (.bool s1) (.int .u64 x1) (.pointer p1)
    have KF := Lib.hid F.k
    have TT := Lib.hid F.t
    have V := Lib.hid h2
    clear h1 h2 F S0
    go_wp2
    exact bodyPost_ret (v := .agg #[.bool s1, .int .u64 x1, .pointer p1]) (by simp [results, Tryz.results34, go_sem, i1, i2, i3]) rfl ⟨below3 KF.out (by omega) _ _ _, _, rfl, V.out.store TT.out.odd (grown3 _ _ _ _ _ _ _ _)⟩
end Go.Proofs.YtjjomjjgoceklaaGreat
namespace Go.Proofs.YtjjomjjgoceklaaGreat
set_option maxRecDepth 100000
open Go.RowKit

/-! R.Ceil -/
set_option maxRecDepth 100000 in
theorem ceil_any (v : Value) (n : Int) (d : Nat) (w : World) (h : Rr w v n d) (hov : OverC n.natAbs d) (sn : Sz n.natAbs) (sd : Sz d) : Calls Tryz.prog 36 #[v] w (PZ (-(-n / d)) w) := by
  obtain ⟨s, x, p, y, q, rfl⟩ := h.agg
  have HR := Lib.hid (h.keep (bl2 w (.cells #[.bool s, .int .u64 x, .pointer p, .int .u64 y, .pointer q] 33) (.cells #[.bool false, .int .u64 0, .pointer none] 28)) (Nat.le_refl _))
  have HOV : Hid (OverC (-n).natAbs d) := by rw [Int.natAbs_neg]; exact hov
  have SN : Hid (Sz (-n).natAbs) := by rw [Int.natAbs_neg]; exact sn
  have SDD := Lib.hid sd
  clear h hov sn sd
  go_enter Tryz.func36, Tryz.ntmps36
  go_wp2_with fail
  refine (rneg_any _ n d _ HR.out).mono ?_
  rintro e w1 ⟨hb1, v1, rfl, h1⟩
  have t1 : Rz (w.heap.size + 1) w1 := Rz.keep (rz_new _ (by simp)) hb1 (by simp)
  have k1 := Below.thru (bl2 w _ _) (by simp; omega) hb1
  have z1 : w.heap.size + 1 < w1.heap.size := t1.lt
  clear hb1
  go_wp2_with fail
  refine (floor_any _ (-n) d _ h1 HOV.out SN.out SDD.out).mono ?_
  rintro e w2 ⟨hb2, v2, rfl, h2⟩
  have t2 := t1.keep hb2 (by omega)
  have k2 := Below.thru k1 k1.size hb2
  clear hb2 t1 k1 h1
  go_wp2_with fail
  refine (neg_any _ (-n / d) _ h2).mono ?_
  rintro e w3 ⟨hb3, v3, rfl, h3⟩
  have t3 := t2.keep hb3 t2.lt
  have k3 := Below.thru k2 k2.size hb3
  clear hb3 t2 k2 h2
  obtain ⟨s1, x1, p1, n1, rfl, h4⟩ := h3
  have V := Lib.hid (show Zr w3 (.agg #[.bool s1, .int .u64 x1, .pointer p1]) (-(-n / d)) from ⟨s1, x1, p1, n1, rfl, h4⟩)
  have TT := Lib.hid t3
  obtain ⟨_, _, _, m1, m2, m3, m4, m5, m6⟩ := t3.cells
  obtain ⟨i1, i2, i3⟩ := three_cells m1 m2 m3 (.bool s1) (.int .u64 x1) (.pointer p1)
  have KF := Lib.hid k3
  clear h4 t3 k3
  go_wp2
  exact bodyPost_ret (v := .agg #[.bool s1, .int .u64 x1, .pointer p1]) (by simp [results, Tryz.results36, go_sem, i1, i2, i3]) rfl ⟨below3 KF.out (by omega) _ _ _, _, rfl, V.out.store TT.out.odd (grown3 _ _ _ _ _ _ _ _)⟩
end Go.Proofs.YtjjomjjgoceklaaGreat
namespace Go.Proofs.YtjjomjjgoceklaaGreat
set_option maxRecDepth 100000
open Go.RowKit

/-! R.Sub -/
theorem PR.kd {n : Int} {d : Nat} {w : World} {g : FuncId} {args : Array Value} (h : Calls Tryz.prog g args w (PR n d w)) : Calls Tryz.prog g args w fun e w' => ∃ v, e = .returned v ∧ (Below w.heap.size w w' ∧ Go.Proofs.YtjjomjjgoceklaaGreat.kd (.q n d) v w') := h.mono fun _ _ ⟨hb, v, he, hv⟩ => ⟨v, he, hb, hv⟩
/-- a box with a ratio -/
def Hq (T : Nat) (n : Int) (d : Nat) (w : World) : Prop := ∃ (s : Bool) (x y : Int) (p q : Option Addr), w.heap[T]? = some (.cells #[.bool s, .int .u64 x, .pointer p, .int .u64 y, .pointer q] 33 (0, 0)) ∧ Rr w (.agg #[.bool s, .int .u64 x, .pointer p, .int .u64 y, .pointer q]) n d
theorem Hq.keep {T : Nat} {n : Int} {d : Nat} {w w' : World} (h : Hq T n d w) (hb : Below w.heap.size w w') : Hq T n d w' := by
  obtain ⟨s, x, y, p, q, h1, h2⟩ := h
  exact ⟨s, x, y, p, q, blk_keep h1 hb, h2.keep hb (Nat.le_refl _)⟩
theorem Hq.rq {T : Nat} {n : Int} {d : Nat} {w : World} (h : Hq T n d w) : Rq T w := by obtain ⟨s, x, y, p, q, h1, _⟩ := h; exact ⟨s, x, p, y, q, h1⟩
theorem Hq.stored {T : Nat} {n : Int} {d : Nat} {w : World} {s : Bool} {x y : Int} {p q : Option Addr} (h : Rq T w) (hz : Rr w (.agg #[.bool s, .int .u64 x, .pointer p, .int .u64 y, .pointer q]) n d) : Hq T n d (st5 w T (.bool s) (.int .u64 x) (.pointer p) (.int .u64 y) (.pointer q)) := by
  refine ⟨s, x, y, p, q, ?_, hz.store h.odd (grown5 _ _ _ _ _ _ _)⟩
  obtain ⟨_, _, _, _, _, hT⟩ := h
  simp [World.setCell, Array.getElem?_modify, hT]
structure S76 (w0 : World) (an bn : Int) (p q : Nat) (w : World) : Prop where
  k : Below w0.heap.size w0 w
  a : Hq w0.heap.size an p w
  b : Hq (w0.heap.size + 1) bn q w
  t : Rq (w0.heap.size + 1 + 1) w
theorem S76.keep {w0 w w' : World} {an bn : Int} {p q : Nat} (h : S76 w0 an bn p q w) (hb : Below w.heap.size w w') : S76 w0 an bn p q w' := ⟨Below.thru h.k h.k.size hb, h.a.keep hb, h.b.keep hb, h.t.keep hb h.t.lt⟩
end Go.Proofs.YtjjomjjgoceklaaGreat
namespace Go.Proofs.YtjjomjjgoceklaaGreat
set_option maxRecDepth 100000
open Go.RowKit

/-! V.Cross, V.Dot -/
/-- from cell o on block T holds a ratio's five cells -/
def At5 (T o : Nat) (s : Bool) (x : Int) (p : Option Addr) (y : Int) (q : Option Addr) (w : World) : Prop := ∃ (c : Array Value) (t : TypeId), w.heap[T]? = some (.cells c t (0, 0)) ∧ ∀ i, i < 5 → c[o + i]? = (#[Value.bool s, .int .u64 x, .pointer p, .int .u64 y, .pointer q] : Array Value)[i]?
def Vq (T o : Nat) (n : Int) (d : Nat) (w : World) : Prop := ∃ (s : Bool) (x : Int) (p : Option Addr) (y : Int) (q : Option Addr), At5 T o s x p y q w ∧ Rr w (.agg #[.bool s, .int .u64 x, .pointer p, .int .u64 y, .pointer q]) n d
theorem Vq.keep {T o : Nat} {n : Int} {d : Nat} {w w' : World} (h : Vq T o n d w) (hb : Below w.heap.size w w') : Vq T o n d w' := by
  obtain ⟨s, x, p, y, q, ⟨c, t, h1, h3⟩, h2⟩ := h
  exact ⟨s, x, p, y, q, ⟨c, t, blk_keep h1 hb, h3⟩, h2.keep hb (Nat.le_refl _)⟩
section
variable {ρ : Operand → Value} {o : Oper} {w : World} {t : Operand}
end
structure SV (w0 : World) (ax bx az bz : Int) (cx ex cz ez : Nat) (w : World) : Prop where
  k : Below w0.heap.size w0 w
  ax : Vq w0.heap.size 0 ax cx w
  az : Vq w0.heap.size 5 az cz w
  bx : Vq (w0.heap.size + 1) 0 bx ex w
  bz : Vq (w0.heap.size + 1) 5 bz ez w
  t : Rq (w0.heap.size + 1 + 1) w
theorem SV.keep {w0 w w' : World} {ax bx az bz : Int} {cx ex cz ez : Nat} (h : SV w0 ax bx az bz cx ex cz ez w) (hb : Below w.heap.size w w') : SV w0 ax bx az bz cx ex cz ez w' :=
  ⟨Below.thru h.k h.k.size hb, Vq.keep h.ax hb, Vq.keep h.az hb, Vq.keep h.bx hb, Vq.keep h.bz hb, h.t.keep hb h.t.lt⟩
end Go.Proofs.YtjjomjjgoceklaaGreat

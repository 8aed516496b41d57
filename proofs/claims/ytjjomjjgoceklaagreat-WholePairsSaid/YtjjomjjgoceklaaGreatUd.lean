import Derived.Test.YtjjomjjgoceklaaGreatUc
namespace Go.Proofs.YtjjomjjgoceklaaGreat
set_option maxRecDepth 100000
open Go.RowKit

/-! R.Floor -/
section
variable {ρ : Operand → Value} {o : Oper} {w : World} {t : Operand}
theorem rn_load61 {T : Nat} {s : Bool} {x y : Int} {p q : Option Addr} (ho : o.op = .load 33 t) (he : ρ t = .pointer (some ⟨T, 0, none⟩)) (h : w.heap[T]? = some (.cells #[.bool s, .int .u64 x, .pointer p, .int .u64 y, .pointer q] 33 (0, 0))) : (execOp ρ o).run Tryz.prog w = .ok (.value (.agg #[.bool s, .int .u64 x, .pointer p, .int .u64 y, .pointer q])) w := by
  have i1 := cell_blk (i := 0) h
  have i2 := cell_blk (i := 1) h
  have i3 := cell_blk (i := 2) h
  have i4 := cell_blk (i := 3) h
  have i5 := cell_blk (i := 4) h
  unfold execOp; rw [ho]; simp [go_sem, he, i1, i2, i3, i4, i5]
end
structure F5 (w0 : World) (s : Bool) (x y : Int) (p q : Option Addr) (n : Int) (d : Nat) (w : World) : Prop where
  g : w0.heap.size + 1 + 1 ≤ w.heap.size
  k : Below w0.heap.size w0 w
  a : w.heap[w0.heap.size]? = some (.cells #[.bool s, .int .u64 x, .pointer p, .int .u64 y, .pointer q] 33 (0, 0))
  r : Rr w (.agg #[.bool s, .int .u64 x, .pointer p, .int .u64 y, .pointer q]) n d
  t : Rz (w0.heap.size + 1) w
section
variable {w0 w w' : World} {s : Bool} {x y : Int} {p q : Option Addr} {n : Int} {d : Nat}
theorem F5.keep (h : F5 w0 s x y p q n d w) (hb : Below w.heap.size w w') : F5 w0 s x y p q n d w' := ⟨Nat.le_trans h.g hb.size, Below.thru h.k h.k.size hb, blk_keep h.a hb, h.r.keep hb (Nat.le_refl _), h.t.keep hb h.t.lt⟩
theorem F5.b3 (h : F5 w0 s x y p q n d w) : B3 w0.heap.size s x p w := by refine ⟨?_, ?_, ?_⟩ <;> simp [World.cell?, h.a]
theorem F5.z (h : F5 w0 s x y p q n d w) : Zr w (.agg #[.bool s, .int .u64 x, .pointer p]) n := h.r.zr'
theorem F5.put (h : F5 w0 s x y p q n d w) {T : Nat} (hT : w0.heap.size + 1 + 1 ≤ T) (hz : Rz T w) (s' : Bool) (x' : Int) (p' : Option Addr) : F5 w0 s x y p q n d (st3 w T (.bool s') (.int .u64 x') (.pointer p')) := by
  have hg : w.grownBy (st3 w T (.bool s') (.int .u64 x') (.pointer p')) (some T) := grown3 _ _ _ _ _ _ _ _
  exact ⟨Nat.le_trans h.g hg.size, below3 h.k (by omega) _ _ _, blk_other h.a hg (by omega), h.r.store hz.odd hg, h.t.other hg (by omega)⟩
end
theorem rz_st3 {T U : Nat} {w : World} (hT : Rz T w) (hU : Rz U w) (s : Bool) (x : Int) (p : Option Addr) : Rz U (st3 w T (.bool s) (.int .u64 x) (.pointer p)) := by
  by_cases e : U = T
  · subst e; exact ⟨s, x, p, hU.stored s x p⟩
  · exact hU.other (grown3 _ _ _ _ _ _ _ _) e
end Go.Proofs.YtjjomjjgoceklaaGreat
namespace Go.Proofs.YtjjomjjgoceklaaGreat
set_option maxRecDepth 100000
open Go.RowKit

/-! R.Ceil -/
end Go.Proofs.YtjjomjjgoceklaaGreat
namespace Go.Proofs.YtjjomjjgoceklaaGreat
set_option maxRecDepth 100000
open Go.RowKit

/-! R.Sub -/
theorem cf48 : CF 48 := fun W args => by go_simp
theorem cf42 : CF 42 := fun W args => by go_simp
theorem PR.kd {n : Int} {d : Nat} {w : World} {g : FuncId} {args : Array Value} (h : Calls Tryz.prog g args w (PR n d w)) : Calls Tryz.prog g args w fun e w' => ∃ v, e = .returned v ∧ (Below w.heap.size w w' ∧ Go.Proofs.YtjjomjjgoceklaaGreat.kd (.q n d) v w') := h.mono fun _ _ ⟨hb, v, he, hv⟩ => ⟨v, he, hb, hv⟩
/-- a box with a ratio -/
def Hq (T : Nat) (n : Int) (d : Nat) (w : World) : Prop := ∃ (s : Bool) (x y : Int) (p q : Option Addr), w.heap[T]? = some (.cells #[.bool s, .int .u64 x, .pointer p, .int .u64 y, .pointer q] 33 (0, 0)) ∧ Rr w (.agg #[.bool s, .int .u64 x, .pointer p, .int .u64 y, .pointer q]) n d
theorem Hq.keep {T : Nat} {n : Int} {d : Nat} {w w' : World} (h : Hq T n d w) (hb : Below w.heap.size w w') : Hq T n d w' := by
  obtain ⟨s, x, y, p, q, h1, h2⟩ := h
  exact ⟨s, x, y, p, q, blk_keep h1 hb, h2.keep hb (Nat.le_refl _)⟩
theorem Hq.rq {T : Nat} {n : Int} {d : Nat} {w : World} (h : Hq T n d w) : Rq T w := by obtain ⟨s, x, y, p, q, h1, _⟩ := h; exact ⟨s, x, p, y, q, h1⟩
theorem Hq.stored {T : Nat} {n : Int} {d : Nat} {w : World} {s : Bool} {x y : Int} {p q : Option Addr} (h : Rq T w) (hz : Rr w (.agg #[.bool s, .int .u64 x, .pointer p, .int .u64 y, .pointer q]) n d) : Hq T n d (st5 w T (.bool s) (.int .u64 x) (.pointer p) (.int .u64 y) (.pointer q)) := by
  refine ⟨s, x, y, p, q, ?_, hz.store h.odd (grown5 _ _ _ _ _ _ _)⟩
  obtain ⟨_, _, _, _, _, hT⟩ := h
  simp [World.setCell, Array.getElem?_modify, hT]
structure S76 (w0 : World) (an bn : Int) (p q : Nat) (w : World) : Prop where
  k : Below w0.heap.size w0 w
  a : Hq w0.heap.size an p w
  b : Hq (w0.heap.size + 1) bn q w
  t : Rq (w0.heap.size + 1 + 1) w
theorem S76.keep {w0 w w' : World} {an bn : Int} {p q : Nat} (h : S76 w0 an bn p q w) (hb : Below w.heap.size w w') : S76 w0 an bn p q w' := ⟨Below.thru h.k h.k.size hb, h.a.keep hb, h.b.keep hb, h.t.keep hb h.t.lt⟩
def D76 (t : Nat) : Bool := Nat.ble 5 t && Nat.ble t 8
def tab76 (an bn n2 : Int) (p q d2 : Nat) (t : Nat) : Kd := [.q an p, .q bn q, .q (-bn) q, .q n2 d2].getD (t - 5) .any
set_option maxRecDepth 100000 in
set_option maxHeartbeats 800000 in
theorem rsub_any (va vb : Value) (an bn n2 : Int) (p q d2 : Nat) (w : World) (ha : Rr w va an p) (hb : Rr w vb bn q) (hadd : ∀ W v1 v2, Rr W v1 an p → Rr W v2 (-bn) q → Calls Tryz.prog 42 #[v1, v2] W (PR n2 d2 W)) : Calls Tryz.prog 44 #[va, vb] w (PR n2 d2 w) := by
  obtain ⟨s1, x1, p1, y1, q1, rfl⟩ := ha.agg
  obtain ⟨s2, x2, p2, y2, q2, rfl⟩ := hb.agg
  have S0 : S76 w an bn p q (((w.alloc (.cells #[.bool s1, .int .u64 x1, .pointer p1, .int .u64 y1, .pointer q1] 33)).alloc (.cells #[.bool s2, .int .u64 x2, .pointer p2, .int .u64 y2, .pointer q2] 33)).alloc (.cells #[.bool false, .int .u64 0, .pointer none, .int .u64 0, .pointer none] 33)) :=
    ⟨bl3 _ _ _ _, ⟨s1, x1, y1, p1, q1, blk_keep (blk_keep (Go.Deep.blk_alloc_new _ _) (bl1 _ _)) (bl1 _ _), ha.keep (bl3 _ _ _ _) (Nat.le_refl _)⟩,
      ⟨s2, x2, y2, p2, q2, blk_keep (by have := Go.Deep.blk_alloc_new (w.alloc (.cells #[.bool s1, .int .u64 x1, .pointer p1, .int .u64 y1, .pointer q1] 33)) (.cells #[.bool s2, .int .u64 x2, .pointer p2, .int .u64 y2, .pointer q2] 33); rw [World.size_alloc] at this; exact this) (bl1 _ _), hb.keep (bl3 _ _ _ _) (Nat.le_refl _)⟩, rq_new _ (by simp)⟩
  have S0 := Lib.hid S0
  have HA := Lib.hid hadd
  clear ha hb hadd
  go_enter Tryz.func44, Tryz.ntmps44
  go_wp2_with fail
  go_cut [] (fun wc => Below w.heap.size w wc ∧ Hq (w.heap.size + 1 + 1) n2 d2 wc)
  case first =>
    rename_i J K' hJ hK
    refine wp_region_two D76 (tab76 an bn n2 p q d2) (fun w' => S76 w an bn p q w') 4 (fun _ _ wc => Below w.heap.size w wc ∧ Hq (w.heap.size + 1 + 1) n2 d2 wc) (by kernel_rfl) (by kernel_rfl) (by kernel_rfl) (by kernel_rfl) (by decide) (by kernel_rfl) (fun _ _ h hb => h.keep hb) (S0.out.keep (Below.refl _ _).drew) ?_ ?_ ?_
    · refine .cons (fun f w' hI hs => ?_) ?_
      · obtain ⟨s, x, y, p, q, h1, h2⟩ := hI.a
        exact ⟨wanted_none rfl, _, rfl, .val (rn_load61 rfl (fr_old rfl rfl) h1) ⟨Below.refl _ _, h2⟩⟩
      refine .cons (fun f w' hI hs => ?_) ?_
      · obtain ⟨s, x, y, p, q, h1, h2⟩ := hI.b
        exact ⟨wanted_none rfl, _, rfl, .val (rn_load61 rfl (fr_old rfl rfl) h1) ⟨Below.refl _ _, h2⟩⟩
      refine .cons (fun f w' hI hs => ⟨wanted_none rfl, _, rfl, .call1 rfl cf48 rfl rfl (PR.kd (rneg_any _ bn q _ (hs 6 (by kernel_rfl))))⟩) ?_
      exact .cons (fun f w' hI hs => ⟨wanted_none rfl, _, rfl, .call2 rfl cf42 rfl rfl rfl rfl (PR.kd (HA.out w' _ _ (hs 5 (by kernel_rfl)) (hs 7 (by kernel_rfl))))⟩) .nil
    · refine .cons (fun f w' h => ⟨wanted_none rfl, ?_⟩) .nil
      obtain ⟨hI, hs⟩ := (if_pos rfl) ▸ h
      have h8 : Rr w' (f 8) n2 d2 := hs 8 (by kernel_rfl)
      obtain ⟨s8, x8, p8, y8, q8, e8⟩ := h8.agg
      rw [e8] at h8
      exact .skip (rn_store61 rfl (fr_old rfl rfl) ((fr_own rfl rfl).trans e8) hI.t) ⟨below5 hI.k (by omega) _ _ _ _ _, Hq.stored hI.t h8⟩
    · intro f w' h
      refine hK _ _ (Met.intro (hJ _ _ ?_))
      (repeat apply Exists.intro)
      refine ⟨?_, rfl⟩
      exact h
  case rest =>
    obtain ⟨kf, s1, x1, y1, p1, q1, h1, h2⟩ := hcut
    have i1 := cell_blk (i := 0) h1
    have i2 := cell_blk (i := 1) h1
    have i3 := cell_blk (i := 2) h1
    have i4 := cell_blk (i := 3) h1
    have i5 := cell_blk (i := 4) h1
    have KF := Lib.hid kf
    have V := Lib.hid h2
    clear h1 h2 kf S0
    go_wp2
    exact bodyPost_ret (v := .agg #[.bool s1, .int .u64 x1, .pointer p1, .int .u64 y1, .pointer q1]) (by simp [results, Tryz.results44, go_sem, i1, i2, i3, i4, i5]) rfl ⟨KF.out, _, rfl, V.out⟩
end Go.Proofs.YtjjomjjgoceklaaGreat
namespace Go.Proofs.YtjjomjjgoceklaaGreat
set_option maxRecDepth 100000
open Go.RowKit

/-! V.Cross, V.Dot -/
theorem cf46 : CF 46 := fun W args => by go_simp
theorem cf44 : CF 44 := fun W args => by go_simp
/-- from cell o on block T holds a ratio's five cells -/
def At5 (T o : Nat) (s : Bool) (x : Int) (p : Option Addr) (y : Int) (q : Option Addr) (w : World) : Prop := ∃ (c : Array Value) (t : TypeId), w.heap[T]? = some (.cells c t (0, 0)) ∧ ∀ i, i < 5 → c[o + i]? = (#[Value.bool s, .int .u64 x, .pointer p, .int .u64 y, .pointer q] : Array Value)[i]?
def Vq (T o : Nat) (n : Int) (d : Nat) (w : World) : Prop := ∃ (s : Bool) (x : Int) (p : Option Addr) (y : Int) (q : Option Addr), At5 T o s x p y q w ∧ Rr w (.agg #[.bool s, .int .u64 x, .pointer p, .int .u64 y, .pointer q]) n d
theorem Vq.keep {T o : Nat} {n : Int} {d : Nat} {w w' : World} (h : Vq T o n d w) (hb : Below w.heap.size w w') : Vq T o n d w' := by
  obtain ⟨s, x, p, y, q, ⟨c, t, h1, h3⟩, h2⟩ := h
  exact ⟨s, x, p, y, q, ⟨c, t, blk_keep h1 hb, h3⟩, h2.keep hb (Nat.le_refl _)⟩
section
variable {ρ : Operand → Value} {o : Oper} {w : World} {t : Operand}
theorem rn_field71_0 {b : Nat} (ho : o.op = .fieldAddr 84 t 0) (he : ρ t = .pointer (some ⟨b, 0, none⟩)) : (execOp ρ o).run Tryz.prog w = .ok (.value (.pointer (some ⟨b, 0, none⟩))) w := by
  unfold execOp; rw [ho]; simp [go_sem, he]
theorem rn_field71_1 {b : Nat} (ho : o.op = .fieldAddr 84 t 1) (he : ρ t = .pointer (some ⟨b, 0, none⟩)) : (execOp ρ o).run Tryz.prog w = .ok (.value (.pointer (some ⟨b, 5, none⟩))) w := by
  unfold execOp; rw [ho]; simp [go_sem, he]
theorem rn_load61c {T k : Nat} {s : Bool} {x y : Int} {p q : Option Addr} (ho : o.op = .load 33 t) (he : ρ t = .pointer (some ⟨T, k, none⟩)) (h : At5 T k s x p y q w) : (execOp ρ o).run Tryz.prog w = .ok (.value (.agg #[.bool s, .int .u64 x, .pointer p, .int .u64 y, .pointer q])) w := by
  obtain ⟨c, t, h1, h2⟩ := h
  have i1 : w.cell? ⟨T, k, none⟩ = some (.bool s) := (cell_blk h1).trans (h2 0 (by omega))
  have i2 : w.cell? ⟨T, k + 1, none⟩ = some (.int .u64 x) := (cell_blk h1).trans (h2 1 (by omega))
  have i3 : w.cell? ⟨T, k + 2, none⟩ = some (.pointer p) := (cell_blk h1).trans (h2 2 (by omega))
  have i4 : w.cell? ⟨T, k + 3, none⟩ = some (.int .u64 y) := (cell_blk h1).trans (h2 3 (by omega))
  have i5 : w.cell? ⟨T, k + 4, none⟩ = some (.pointer q) := (cell_blk h1).trans (h2 4 (by omega))
  unfold execOp; rw [ho]; simp [go_sem, he, i1, i2, i3, i4, i5]
end
structure SV (w0 : World) (ax bx az bz : Int) (cx ex cz ez : Nat) (w : World) : Prop where
  k : Below w0.heap.size w0 w
  ax : Vq w0.heap.size 0 ax cx w
  az : Vq w0.heap.size 5 az cz w
  bx : Vq (w0.heap.size + 1) 0 bx ex w
  bz : Vq (w0.heap.size + 1) 5 bz ez w
  t : Rq (w0.heap.size + 1 + 1) w
theorem SV.keep {w0 w w' : World} {ax bx az bz : Int} {cx ex cz ez : Nat} (h : SV w0 ax bx az bz cx ex cz ez w) (hb : Below w.heap.size w w') : SV w0 ax bx az bz cx ex cz ez w' :=
  ⟨Below.thru h.k h.k.size hb, Vq.keep h.ax hb, Vq.keep h.az hb, Vq.keep h.bx hb, Vq.keep h.bz hb, h.t.keep hb h.t.lt⟩
def D44 (t : Nat) : Bool := Nat.ble 5 t && Nat.ble t 15
def tab44 (Sa Sb : Nat) (ax bx az bz m1 m2 l : Int) (cx ex cz ez k1 k2 k : Nat) (t : Nat) : Kd := [kp Sa 0, .q ax cx, kp Sb 5, .q bz ez, .q m1 k1, kp Sa 5, .q az cz, kp Sb 0, .q bx ex, .q m2 k2, .q l k].getD (t - 5) .any
set_option maxRecDepth 100000 in
set_option maxHeartbeats 1600000 in
theorem vcross_any (a1 b1 : Bool) (a2 a4 a7 a9 b2 b4 b7 b9 : Int) (a6 b6 : Bool) (a3 a5 a8 a10 b3 b5 b8 b10 : Option Addr) (ax bx az bz m1 m2 l : Int) (cx ex cz ez k1 k2 k : Nat) (w : World)
    (hax : Rr w (.agg #[.bool a1, .int .u64 a2, .pointer a3, .int .u64 a4, .pointer a5]) ax cx) (haz : Rr w (.agg #[.bool a6, .int .u64 a7, .pointer a8, .int .u64 a9, .pointer a10]) az cz)
    (hbx : Rr w (.agg #[.bool b1, .int .u64 b2, .pointer b3, .int .u64 b4, .pointer b5]) bx ex) (hbz : Rr w (.agg #[.bool b6, .int .u64 b7, .pointer b8, .int .u64 b9, .pointer b10]) bz ez)
    (hm1 : ∀ W v1 v2, Rr W v1 ax cx → Rr W v2 bz ez → Calls Tryz.prog 46 #[v1, v2] W (PR m1 k1 W)) (hm2 : ∀ W v1 v2, Rr W v1 az cz → Rr W v2 bx ex → Calls Tryz.prog 46 #[v1, v2] W (PR m2 k2 W))
    (hl : ∀ W v1 v2, Rr W v1 m1 k1 → Rr W v2 m2 k2 → Calls Tryz.prog 44 #[v1, v2] W (PR l k W)) :
    Calls Tryz.prog 70 #[.agg #[.bool a1, .int .u64 a2, .pointer a3, .int .u64 a4, .pointer a5, .bool a6, .int .u64 a7, .pointer a8, .int .u64 a9, .pointer a10], .agg #[.bool b1, .int .u64 b2, .pointer b3, .int .u64 b4, .pointer b5, .bool b6, .int .u64 b7, .pointer b8, .int .u64 b9, .pointer b10]] w (PR l k w) := by
  have S0 : SV w ax bx az bz cx ex cz ez (((w.alloc (.cells #[.bool a1, .int .u64 a2, .pointer a3, .int .u64 a4, .pointer a5, .bool a6, .int .u64 a7, .pointer a8, .int .u64 a9, .pointer a10] 84)).alloc (.cells #[.bool b1, .int .u64 b2, .pointer b3, .int .u64 b4, .pointer b5, .bool b6, .int .u64 b7, .pointer b8, .int .u64 b9, .pointer b10] 84)).alloc (.cells #[.bool false, .int .u64 0, .pointer none, .int .u64 0, .pointer none] 33)) := by
    have hA := blk_keep (blk_keep (Go.Deep.blk_alloc_new w (.cells #[.bool a1, .int .u64 a2, .pointer a3, .int .u64 a4, .pointer a5, .bool a6, .int .u64 a7, .pointer a8, .int .u64 a9, .pointer a10] 84)) (bl1 _ (.cells #[.bool b1, .int .u64 b2, .pointer b3, .int .u64 b4, .pointer b5, .bool b6, .int .u64 b7, .pointer b8, .int .u64 b9, .pointer b10] 84))) (bl1 _ (.cells #[.bool false, .int .u64 0, .pointer none, .int .u64 0, .pointer none] 33))
    have hB := Go.Deep.blk_alloc_new (w.alloc (.cells #[.bool a1, .int .u64 a2, .pointer a3, .int .u64 a4, .pointer a5, .bool a6, .int .u64 a7, .pointer a8, .int .u64 a9, .pointer a10] 84)) (.cells #[.bool b1, .int .u64 b2, .pointer b3, .int .u64 b4, .pointer b5, .bool b6, .int .u64 b7, .pointer b8, .int .u64 b9, .pointer b10] 84)
    rw [World.size_alloc] at hB
    have hB := blk_keep hB (bl1 _ (.cells #[.bool false, .int .u64 0, .pointer none, .int .u64 0, .pointer none] 33))
    have kp := bl3 w (.cells #[.bool a1, .int .u64 a2, .pointer a3, .int .u64 a4, .pointer a5, .bool a6, .int .u64 a7, .pointer a8, .int .u64 a9, .pointer a10] 84) (.cells #[.bool b1, .int .u64 b2, .pointer b3, .int .u64 b4, .pointer b5, .bool b6, .int .u64 b7, .pointer b8, .int .u64 b9, .pointer b10] 84) (.cells #[.bool false, .int .u64 0, .pointer none, .int .u64 0, .pointer none] 33)
    exact ⟨kp, ⟨_, _, _, _, _, ⟨_, _, hA, fun i hi => by rcases i with _ | _ | _ | _ | _ | i <;> first | rfl | omega⟩, hax.keep kp (Nat.le_refl _)⟩, ⟨_, _, _, _, _, ⟨_, _, hA, fun i hi => by rcases i with _ | _ | _ | _ | _ | i <;> first | rfl | omega⟩, haz.keep kp (Nat.le_refl _)⟩,
      ⟨_, _, _, _, _, ⟨_, _, hB, fun i hi => by rcases i with _ | _ | _ | _ | _ | i <;> first | rfl | omega⟩, hbx.keep kp (Nat.le_refl _)⟩, ⟨_, _, _, _, _, ⟨_, _, hB, fun i hi => by rcases i with _ | _ | _ | _ | _ | i <;> first | rfl | omega⟩, hbz.keep kp (Nat.le_refl _)⟩, rq_new _ (by simp)⟩
  have S0 := Lib.hid S0
  have HM1 := Lib.hid hm1; have HM2 := Lib.hid hm2; have HL := Lib.hid hl
  clear hax haz hbx hbz hm1 hm2 hl
  go_enter Tryz.func70, Tryz.ntmps70
  go_wp2_with fail
  go_cut [] (fun wc => Below w.heap.size w wc ∧ Hq (w.heap.size + 1 + 1) l k wc)
  case first =>
    rename_i J K' hJ hK
    refine wp_region_two D44 (tab44 w.heap.size (w.heap.size + 1) ax bx az bz m1 m2 l cx ex cz ez k1 k2 k) (fun w' => SV w ax bx az bz cx ex cz ez w') 11 (fun _ _ wc => Below w.heap.size w wc ∧ Hq (w.heap.size + 1 + 1) l k wc) (by kernel_rfl) (by kernel_rfl) (by kernel_rfl) (by kernel_rfl) (by decide) (by kernel_rfl) (fun _ _ h hb => h.keep hb) (S0.out.keep (Below.refl _ _).drew) ?_ ?_ ?_
    · refine .cons (fun f w' hI hs => ⟨wanted_none rfl, _, rfl, .val (rn_field71_0 rfl (fr_old rfl rfl)) ⟨Below.refl _ _, rfl⟩⟩) ?_
      refine .cons (fun f w' hI hs => ?_) ?_
      · obtain ⟨s, x, p, y, q, h1, h2⟩ := hI.ax
        exact ⟨wanted_none rfl, _, rfl, .val (rn_load61c rfl ((fr_own rfl rfl).trans (hs 5 (by kernel_rfl))) h1) ⟨Below.refl _ _, h2⟩⟩
      refine .cons (fun f w' hI hs => ⟨wanted_none rfl, _, rfl, .val (rn_field71_1 rfl (fr_old rfl rfl)) ⟨Below.refl _ _, rfl⟩⟩) ?_
      refine .cons (fun f w' hI hs => ?_) ?_
      · obtain ⟨s, x, p, y, q, h1, h2⟩ := hI.bz
        exact ⟨wanted_none rfl, _, rfl, .val (rn_load61c rfl ((fr_own rfl rfl).trans (hs 7 (by kernel_rfl))) h1) ⟨Below.refl _ _, h2⟩⟩
      refine .cons (fun f w' hI hs => ⟨wanted_none rfl, _, rfl, .call2 rfl cf46 rfl rfl rfl rfl (PR.kd (HM1.out w' _ _ (hs 6 (by kernel_rfl)) (hs 8 (by kernel_rfl))))⟩) ?_
      refine .cons (fun f w' hI hs => ⟨wanted_none rfl, _, rfl, .val (rn_field71_1 rfl (fr_old rfl rfl)) ⟨Below.refl _ _, rfl⟩⟩) ?_
      refine .cons (fun f w' hI hs => ?_) ?_
      · obtain ⟨s, x, p, y, q, h1, h2⟩ := hI.az
        exact ⟨wanted_none rfl, _, rfl, .val (rn_load61c rfl ((fr_own rfl rfl).trans (hs 10 (by kernel_rfl))) h1) ⟨Below.refl _ _, h2⟩⟩
      refine .cons (fun f w' hI hs => ⟨wanted_none rfl, _, rfl, .val (rn_field71_0 rfl (fr_old rfl rfl)) ⟨Below.refl _ _, rfl⟩⟩) ?_
      refine .cons (fun f w' hI hs => ?_) ?_
      · obtain ⟨s, x, p, y, q, h1, h2⟩ := hI.bx
        exact ⟨wanted_none rfl, _, rfl, .val (rn_load61c rfl ((fr_own rfl rfl).trans (hs 12 (by kernel_rfl))) h1) ⟨Below.refl _ _, h2⟩⟩
      refine .cons (fun f w' hI hs => ⟨wanted_none rfl, _, rfl, .call2 rfl cf46 rfl rfl rfl rfl (PR.kd (HM2.out w' _ _ (hs 11 (by kernel_rfl)) (hs 13 (by kernel_rfl))))⟩) ?_
      refine .cons (fun f w' hI hs => ⟨wanted_none rfl, _, rfl, .call2 rfl cf44 rfl rfl rfl rfl (PR.kd (HL.out w' _ _ (hs 9 (by kernel_rfl)) (hs 14 (by kernel_rfl))))⟩) .nil
    · refine .cons (fun f w' h => ⟨wanted_none rfl, ?_⟩) .nil
      obtain ⟨hI, hs⟩ := (if_pos rfl) ▸ h
      have h8 : Rr w' (f 15) l k := hs 15 (by kernel_rfl)
      obtain ⟨s8, x8, p8, y8, q8, e8⟩ := h8.agg
      rw [e8] at h8
      exact .skip (rn_store61 rfl (fr_old rfl rfl) ((fr_own rfl rfl).trans e8) hI.t) ⟨below5 hI.k (by omega) _ _ _ _ _, Hq.stored hI.t h8⟩
    · intro f w' h
      refine hK _ _ (Met.intro (hJ _ _ ?_))
      (repeat apply Exists.intro)
      refine ⟨?_, rfl⟩
      exact h
  case rest =>
    obtain ⟨kf, s1, x1, y1, p1, q1, h1, h2⟩ := hcut
    have i1 := cell_blk (i := 0) h1
    have i2 := cell_blk (i := 1) h1
    have i3 := cell_blk (i := 2) h1
    have i4 := cell_blk (i := 3) h1
    have i5 := cell_blk (i := 4) h1
    have KF := Lib.hid kf
    have V := Lib.hid h2
    clear h1 h2 kf S0
    go_wp2
    exact bodyPost_ret (v := .agg #[.bool s1, .int .u64 x1, .pointer p1, .int .u64 y1, .pointer q1]) (by simp [results, Tryz.results70, go_sem, i1, i2, i3, i4, i5]) rfl ⟨KF.out, _, rfl, V.out⟩
def D45 (t : Nat) : Bool := Nat.ble 5 t && Nat.ble t 15
def tab45 (Sa Sb : Nat) (ax bx az bz m1 m2 l : Int) (cx ex cz ez k1 k2 k : Nat) (t : Nat) : Kd := [kp Sa 0, .q ax cx, kp Sb 0, .q bx ex, .q m1 k1, kp Sa 5, .q az cz, kp Sb 5, .q bz ez, .q m2 k2, .q l k].getD (t - 5) .any
set_option maxRecDepth 100000 in
set_option maxHeartbeats 1600000 in
theorem vdot_any (a1 b1 : Bool) (a2 a4 a7 a9 b2 b4 b7 b9 : Int) (a6 b6 : Bool) (a3 a5 a8 a10 b3 b5 b8 b10 : Option Addr) (ax bx az bz m1 m2 l : Int) (cx ex cz ez k1 k2 k : Nat) (w : World)
    (hax : Rr w (.agg #[.bool a1, .int .u64 a2, .pointer a3, .int .u64 a4, .pointer a5]) ax cx) (haz : Rr w (.agg #[.bool a6, .int .u64 a7, .pointer a8, .int .u64 a9, .pointer a10]) az cz)
    (hbx : Rr w (.agg #[.bool b1, .int .u64 b2, .pointer b3, .int .u64 b4, .pointer b5]) bx ex) (hbz : Rr w (.agg #[.bool b6, .int .u64 b7, .pointer b8, .int .u64 b9, .pointer b10]) bz ez)
    (hm1 : ∀ W v1 v2, Rr W v1 ax cx → Rr W v2 bx ex → Calls Tryz.prog 46 #[v1, v2] W (PR m1 k1 W)) (hm2 : ∀ W v1 v2, Rr W v1 az cz → Rr W v2 bz ez → Calls Tryz.prog 46 #[v1, v2] W (PR m2 k2 W))
    (hl : ∀ W v1 v2, Rr W v1 m1 k1 → Rr W v2 m2 k2 → Calls Tryz.prog 42 #[v1, v2] W (PR l k W)) :
    Calls Tryz.prog 68 #[.agg #[.bool a1, .int .u64 a2, .pointer a3, .int .u64 a4, .pointer a5, .bool a6, .int .u64 a7, .pointer a8, .int .u64 a9, .pointer a10], .agg #[.bool b1, .int .u64 b2, .pointer b3, .int .u64 b4, .pointer b5, .bool b6, .int .u64 b7, .pointer b8, .int .u64 b9, .pointer b10]] w (PR l k w) := by
  have S0 : SV w ax bx az bz cx ex cz ez (((w.alloc (.cells #[.bool a1, .int .u64 a2, .pointer a3, .int .u64 a4, .pointer a5, .bool a6, .int .u64 a7, .pointer a8, .int .u64 a9, .pointer a10] 84)).alloc (.cells #[.bool b1, .int .u64 b2, .pointer b3, .int .u64 b4, .pointer b5, .bool b6, .int .u64 b7, .pointer b8, .int .u64 b9, .pointer b10] 84)).alloc (.cells #[.bool false, .int .u64 0, .pointer none, .int .u64 0, .pointer none] 33)) := by
    have hA := blk_keep (blk_keep (Go.Deep.blk_alloc_new w (.cells #[.bool a1, .int .u64 a2, .pointer a3, .int .u64 a4, .pointer a5, .bool a6, .int .u64 a7, .pointer a8, .int .u64 a9, .pointer a10] 84)) (bl1 _ (.cells #[.bool b1, .int .u64 b2, .pointer b3, .int .u64 b4, .pointer b5, .bool b6, .int .u64 b7, .pointer b8, .int .u64 b9, .pointer b10] 84))) (bl1 _ (.cells #[.bool false, .int .u64 0, .pointer none, .int .u64 0, .pointer none] 33))
    have hB := Go.Deep.blk_alloc_new (w.alloc (.cells #[.bool a1, .int .u64 a2, .pointer a3, .int .u64 a4, .pointer a5, .bool a6, .int .u64 a7, .pointer a8, .int .u64 a9, .pointer a10] 84)) (.cells #[.bool b1, .int .u64 b2, .pointer b3, .int .u64 b4, .pointer b5, .bool b6, .int .u64 b7, .pointer b8, .int .u64 b9, .pointer b10] 84)
    rw [World.size_alloc] at hB
    have hB := blk_keep hB (bl1 _ (.cells #[.bool false, .int .u64 0, .pointer none, .int .u64 0, .pointer none] 33))
    have kp := bl3 w (.cells #[.bool a1, .int .u64 a2, .pointer a3, .int .u64 a4, .pointer a5, .bool a6, .int .u64 a7, .pointer a8, .int .u64 a9, .pointer a10] 84) (.cells #[.bool b1, .int .u64 b2, .pointer b3, .int .u64 b4, .pointer b5, .bool b6, .int .u64 b7, .pointer b8, .int .u64 b9, .pointer b10] 84) (.cells #[.bool false, .int .u64 0, .pointer none, .int .u64 0, .pointer none] 33)
    exact ⟨kp, ⟨_, _, _, _, _, ⟨_, _, hA, fun i hi => by rcases i with _ | _ | _ | _ | _ | i <;> first | rfl | omega⟩, hax.keep kp (Nat.le_refl _)⟩, ⟨_, _, _, _, _, ⟨_, _, hA, fun i hi => by rcases i with _ | _ | _ | _ | _ | i <;> first | rfl | omega⟩, haz.keep kp (Nat.le_refl _)⟩,
      ⟨_, _, _, _, _, ⟨_, _, hB, fun i hi => by rcases i with _ | _ | _ | _ | _ | i <;> first | rfl | omega⟩, hbx.keep kp (Nat.le_refl _)⟩, ⟨_, _, _, _, _, ⟨_, _, hB, fun i hi => by rcases i with _ | _ | _ | _ | _ | i <;> first | rfl | omega⟩, hbz.keep kp (Nat.le_refl _)⟩, rq_new _ (by simp)⟩
  have S0 := Lib.hid S0
  have HM1 := Lib.hid hm1; have HM2 := Lib.hid hm2; have HL := Lib.hid hl
  clear hax haz hbx hbz hm1 hm2 hl
  go_enter Tryz.func68, Tryz.ntmps68
  go_wp2_with fail
  go_cut [] (fun wc => Below w.heap.size w wc ∧ Hq (w.heap.size + 1 + 1) l k wc)
  case first =>
    rename_i J K' hJ hK
    refine wp_region_two D45 (tab45 w.heap.size (w.heap.size + 1) ax bx az bz m1 m2 l cx ex cz ez k1 k2 k) (fun w' => SV w ax bx az bz cx ex cz ez w') 11 (fun _ _ wc => Below w.heap.size w wc ∧ Hq (w.heap.size + 1 + 1) l k wc) (by kernel_rfl) (by kernel_rfl) (by kernel_rfl) (by kernel_rfl) (by decide) (by kernel_rfl) (fun _ _ h hb => h.keep hb) (S0.out.keep (Below.refl _ _).drew) ?_ ?_ ?_
    · refine .cons (fun f w' hI hs => ⟨wanted_none rfl, _, rfl, .val (rn_field71_0 rfl (fr_old rfl rfl)) ⟨Below.refl _ _, rfl⟩⟩) ?_
      refine .cons (fun f w' hI hs => ?_) ?_
      · obtain ⟨s, x, p, y, q, h1, h2⟩ := hI.ax
        exact ⟨wanted_none rfl, _, rfl, .val (rn_load61c rfl ((fr_own rfl rfl).trans (hs 5 (by kernel_rfl))) h1) ⟨Below.refl _ _, h2⟩⟩
      refine .cons (fun f w' hI hs => ⟨wanted_none rfl, _, rfl, .val (rn_field71_0 rfl (fr_old rfl rfl)) ⟨Below.refl _ _, rfl⟩⟩) ?_
      refine .cons (fun f w' hI hs => ?_) ?_
      · obtain ⟨s, x, p, y, q, h1, h2⟩ := hI.bx
        exact ⟨wanted_none rfl, _, rfl, .val (rn_load61c rfl ((fr_own rfl rfl).trans (hs 7 (by kernel_rfl))) h1) ⟨Below.refl _ _, h2⟩⟩
      refine .cons (fun f w' hI hs => ⟨wanted_none rfl, _, rfl, .call2 rfl cf46 rfl rfl rfl rfl (PR.kd (HM1.out w' _ _ (hs 6 (by kernel_rfl)) (hs 8 (by kernel_rfl))))⟩) ?_
      refine .cons (fun f w' hI hs => ⟨wanted_none rfl, _, rfl, .val (rn_field71_1 rfl (fr_old rfl rfl)) ⟨Below.refl _ _, rfl⟩⟩) ?_
      refine .cons (fun f w' hI hs => ?_) ?_
      · obtain ⟨s, x, p, y, q, h1, h2⟩ := hI.az
        exact ⟨wanted_none rfl, _, rfl, .val (rn_load61c rfl ((fr_own rfl rfl).trans (hs 10 (by kernel_rfl))) h1) ⟨Below.refl _ _, h2⟩⟩
      refine .cons (fun f w' hI hs => ⟨wanted_none rfl, _, rfl, .val (rn_field71_1 rfl (fr_old rfl rfl)) ⟨Below.refl _ _, rfl⟩⟩) ?_
      refine .cons (fun f w' hI hs => ?_) ?_
      · obtain ⟨s, x, p, y, q, h1, h2⟩ := hI.bz
        exact ⟨wanted_none rfl, _, rfl, .val (rn_load61c rfl ((fr_own rfl rfl).trans (hs 12 (by kernel_rfl))) h1) ⟨Below.refl _ _, h2⟩⟩
      refine .cons (fun f w' hI hs => ⟨wanted_none rfl, _, rfl, .call2 rfl cf46 rfl rfl rfl rfl (PR.kd (HM2.out w' _ _ (hs 11 (by kernel_rfl)) (hs 13 (by kernel_rfl))))⟩) ?_
      refine .cons (fun f w' hI hs => ⟨wanted_none rfl, _, rfl, .call2 rfl cf42 rfl rfl rfl rfl (PR.kd (HL.out w' _ _ (hs 9 (by kernel_rfl)) (hs 14 (by kernel_rfl))))⟩) .nil
    · refine .cons (fun f w' h => ⟨wanted_none rfl, ?_⟩) .nil
      obtain ⟨hI, hs⟩ := (if_pos rfl) ▸ h
      have h8 : Rr w' (f 15) l k := hs 15 (by kernel_rfl)
      obtain ⟨s8, x8, p8, y8, q8, e8⟩ := h8.agg
      rw [e8] at h8
      exact .skip (rn_store61 rfl (fr_old rfl rfl) ((fr_own rfl rfl).trans e8) hI.t) ⟨below5 hI.k (by omega) _ _ _ _ _, Hq.stored hI.t h8⟩
    · intro f w' h
      refine hK _ _ (Met.intro (hJ _ _ ?_))
      (repeat apply Exists.intro)
      refine ⟨?_, rfl⟩
      exact h
  case rest =>
    obtain ⟨kf, s1, x1, y1, p1, q1, h1, h2⟩ := hcut
    have i1 := cell_blk (i := 0) h1
    have i2 := cell_blk (i := 1) h1
    have i3 := cell_blk (i := 2) h1
    have i4 := cell_blk (i := 3) h1
    have i5 := cell_blk (i := 4) h1
    have KF := Lib.hid kf
    have V := Lib.hid h2
    clear h1 h2 kf S0
    go_wp2
    exact bodyPost_ret (v := .agg #[.bool s1, .int .u64 x1, .pointer p1, .int .u64 y1, .pointer q1]) (by simp [results, Tryz.results68, go_sem, i1, i2, i3, i4, i5]) rfl ⟨KF.out, _, rfl, V.out⟩
end Go.Proofs.YtjjomjjgoceklaaGreat

import Derived.Test.YtjjomjjgoceklaaGreatUb
import Derived.Test.YtjjomjjgoceklaaGreatKcd
import Derived.Test.YtjjomjjgoceklaaGreatUkce
namespace Go.Proofs.YtjjomjjgoceklaaGreat
set_option maxRecDepth 100000
open Go.RowKit

/-! z; R.Div by zero -/
end Go.Proofs.YtjjomjjgoceklaaGreat
namespace Go.Proofs.YtjjomjjgoceklaaGreat
set_option maxRecDepth 100000
open Go.RowKit

/-! R.Neg -/
theorem Rr.dg' {w : World} {s : Bool} {x y : Int} {p q : Option Addr} {n : Int} {d : Nat} (h : Rr w (.agg #[.bool s, .int .u64 x, .pointer p, .int .u64 y, .pointer q]) n d) : Dg w (.agg #[.int .u64 y, .pointer q]) (if d = 1 then 0 else d) := by
  obtain ⟨_, _, _, _, _, e, _, h2, _⟩ := h
  simp only [Value.agg.injEq, Array.mk.injEq, List.cons.injEq, and_true, Value.bool.injEq, Value.int.injEq, Value.pointer.injEq, true_and] at e
  obtain ⟨_, _, _, rfl, rfl⟩ := e
  exact h2
theorem Rr.zr' {w : World} {s : Bool} {x y : Int} {p q : Option Addr} {n : Int} {d : Nat} (h : Rr w (.agg #[.bool s, .int .u64 x, .pointer p, .int .u64 y, .pointer q]) n d) : Zr w (.agg #[.bool s, .int .u64 x, .pointer p]) n := by
  obtain ⟨_, _, _, _, _, e, h2, _⟩ := h
  simp only [Value.agg.injEq, Array.mk.injEq, List.cons.injEq, and_true, Value.bool.injEq, Value.int.injEq, Value.pointer.injEq, true_and] at e
  obtain ⟨rfl, rfl, rfl, _, _⟩ := e
  exact h2
theorem Rr.pos' {w : World} {v : Value} {n : Int} {d : Nat} (h : Rr w v n d) : 0 < d := by obtain ⟨_, _, _, _, _, _, _, _, h, _⟩ := h; exact h
theorem Rr.low {w : World} {v : Value} {n : Int} {d : Nat} (h : Rr w v n d) : Nat.gcd n.natAbs d = 1 := by obtain ⟨_, _, _, _, _, _, _, _, _, h⟩ := h; exact h
section
variable {ρ : Operand → Value} {o : Oper} {w : World} {t x1 x2 : Operand}
theorem rn_field61_0 {b : Nat} (ho : o.op = .fieldAddr 33 t 0) (he : ρ t = .pointer (some ⟨b, 0, none⟩)) : (execOp ρ o).run Tryz.prog w = .ok (.value (.pointer (some ⟨b, 0, none⟩))) w := by
  unfold execOp; rw [ho]; simp [go_sem, he]
theorem rn_field61_1 {b : Nat} (ho : o.op = .fieldAddr 33 t 1) (he : ρ t = .pointer (some ⟨b, 0, none⟩)) : (execOp ρ o).run Tryz.prog w = .ok (.value (.pointer (some ⟨b, 3, none⟩))) w := by
  unfold execOp; rw [ho]; simp [go_sem, he]
theorem rn_load27c {T i : Nat} {x : Int} {p : Option Addr} (ho : o.op = .load 26 t) (he : ρ t = .pointer (some ⟨T, i, none⟩)) (h1 : w.cell? ⟨T, i, none⟩ = some (.int .u64 x)) (h2 : w.cell? ⟨T, i + 1, none⟩ = some (.pointer p)) : (execOp ρ o).run Tryz.prog w = .ok (.value (.agg #[.int .u64 x, .pointer p])) w := by
  unfold execOp; rw [ho]; simp [go_sem, he, h1, h2]
theorem rn_build61 {s : Bool} {x y : Int} {p q : Option Addr} (ho : o.op = .build 33 #[(0, x1), (1, x2)]) (h1 : ρ x1 = .agg #[.bool s, .int .u64 x, .pointer p]) (h2 : ρ x2 = .agg #[.int .u64 y, .pointer q]) : (execOp ρ o).run Tryz.prog w = .ok (.value (.agg #[.bool s, .int .u64 x, .pointer p, .int .u64 y, .pointer q])) w := by
  unfold execOp; rw [ho]; simp [go_sem, h1, h2]
theorem rn_store61 {T : Nat} {s : Bool} {x y : Int} {p q : Option Addr} (ho : o.op = .store 33 t x1) (he : ρ t = .pointer (some ⟨T, 0, none⟩)) (hx : ρ x1 = .agg #[.bool s, .int .u64 x, .pointer p, .int .u64 y, .pointer q]) (h : Rq T w) : (execOp ρ o).run Tryz.prog w = .ok .skip (st5 w T (.bool s) (.int .u64 x) (.pointer p) (.int .u64 y) (.pointer q)) := by
  obtain ⟨_, _, _, _, _, m1, m2, m3, m4, m5, m6, m7, m8, m9, m10⟩ := h.cells
  unfold execOp; rw [ho]; simp [go_sem, he, hx, m1, m2, m3, m4, m5, m6, m7, m8, m9, m10]
end
structure N5 (w0 : World) (s : Bool) (x y : Int) (p q : Option Addr) (n : Int) (d : Nat) (w : World) : Prop where
  k : Below w0.heap.size w0 w
  a : w.heap[w0.heap.size]? = some (.cells #[.bool s, .int .u64 x, .pointer p, .int .u64 y, .pointer q] 33 (0, 0))
  r : Rr w (.agg #[.bool s, .int .u64 x, .pointer p, .int .u64 y, .pointer q]) n d
  t : Rq (w0.heap.size + 1) w
section
variable {w0 w w' : World} {s : Bool} {x y : Int} {p q : Option Addr} {n : Int} {d : Nat}
theorem Rq.lt {T : Nat} {w : World} (h : Rq T w) : T < w.heap.size := by obtain ⟨_, _, _, _, _, h⟩ := h; exact blk_lt h
theorem N5.keep (h : N5 w0 s x y p q n d w) (hb : Below w.heap.size w w') : N5 w0 s x y p q n d w' := ⟨Below.thru h.k h.k.size hb, blk_keep h.a hb, h.r.keep hb (Nat.le_refl _), h.t.keep hb h.t.lt⟩
theorem N5.b3 (h : N5 w0 s x y p q n d w) : B3 w0.heap.size s x p w := by refine ⟨?_, ?_, ?_⟩ <;> simp [World.cell?, h.a]
theorem N5.z (h : N5 w0 s x y p q n d w) : Zr w (.agg #[.bool s, .int .u64 x, .pointer p]) n := h.r.zr'
theorem N5.c3 (h : N5 w0 s x y p q n d w) : w.cell? ⟨w0.heap.size, 3, none⟩ = some (.int .u64 y) ∧ w.cell? ⟨w0.heap.size, 3 + 1, none⟩ = some (.pointer q) := by constructor <;> simp [World.cell?, h.a]
end
theorem cell_blk {w : World} {T i : Nat} {c : Array Value} {t : TypeId} (h : w.heap[T]? = some (.cells c t (0, 0))) : w.cell? ⟨T, i, none⟩ = c[i]? := by simp [World.cell?, h]
def DN1 (t : Nat) : Bool := Nat.ble 3 t && Nat.ble t 8
def tabN1 (S : Nat) (n : Int) (d : Nat) (y : Int) (q : Option Addr) (t : Nat) : Kd := [kp S 0, .z n, .z (-n), kp S 3, .v (.agg #[.int .u64 y, .pointer q]), .q (-n) d].getD (t - 3) .any
set_option maxRecDepth 100000 in
set_option maxHeartbeats 800000 in
theorem rneg_any (v : Value) (n : Int) (d : Nat) (w : World) (h : Rr w v n d) : Calls Tryz.prog 48 #[v] w (PR (-n) d w) := by
  obtain ⟨s, x, p, y, q, rfl⟩ := h.agg
  have S0 : N5 w s x y p q n d ((w.alloc (.cells #[.bool s, .int .u64 x, .pointer p, .int .u64 y, .pointer q] 33)).alloc (.cells #[.bool false, .int .u64 0, .pointer none, .int .u64 0, .pointer none] 33)) :=
    ⟨bl2 _ _ _, blk_keep (Go.Deep.blk_alloc_new _ _) (bl1 _ _), h.keep (bl2 _ _ _) (Nat.le_refl _), rq_new _ (by simp)⟩
  have S0 := Lib.hid S0
  clear h
  go_enter Tryz.func48, Tryz.ntmps48
  go_wp2_with fail
  go_cut [] (fun wc => Below w.heap.size w wc ∧ ∃ (s : Bool) (x y : Int) (p q : Option Addr), wc.heap[w.heap.size + 1]? = some (.cells #[.bool s, .int .u64 x, .pointer p, .int .u64 y, .pointer q] 33 (0, 0)) ∧ Rr wc (.agg #[.bool s, .int .u64 x, .pointer p, .int .u64 y, .pointer q]) (-n) d)
  case first =>
    rename_i J K' hJ hK
    refine wp_region_two DN1 (tabN1 w.heap.size n d y q) (fun w' => N5 w s x y p q n d w') 6 (fun _ _ wc => Below w.heap.size w wc ∧ ∃ (s : Bool) (x y : Int) (p q : Option Addr), wc.heap[w.heap.size + 1]? = some (.cells #[.bool s, .int .u64 x, .pointer p, .int .u64 y, .pointer q] 33 (0, 0)) ∧ Rr wc (.agg #[.bool s, .int .u64 x, .pointer p, .int .u64 y, .pointer q]) (-n) d) (by kernel_rfl) (by kernel_rfl) (by kernel_rfl) (by kernel_rfl) (by decide) (by kernel_rfl) (fun _ _ h hb => h.keep hb) (S0.out.keep (Below.refl _ _).drew) ?_ ?_ ?_
    · refine .cons (fun f w' hI hs => ⟨wanted_none rfl, _, rfl, .val (rn_field61_0 rfl (fr_old rfl rfl)) ⟨Below.refl _ _, rfl⟩⟩) ?_
      refine .cons (fun f w' hI hs => ⟨wanted_none rfl, _, rfl, .val (rn_load29 rfl ((fr_own rfl rfl).trans (hs 3 (by kernel_rfl))) hI.b3) ⟨Below.refl _ _, hI.z⟩⟩) ?_
      refine .cons (fun f w' hI hs => ⟨wanted_none rfl, _, rfl, .call1 rfl cf81 rfl rfl (PZ.kd (neg_any _ n _ (hs 4 (by kernel_rfl))))⟩) ?_
      refine .cons (fun f w' hI hs => ⟨wanted_none rfl, _, rfl, .val (rn_field61_1 rfl (fr_old rfl rfl)) ⟨Below.refl _ _, rfl⟩⟩) ?_
      refine .cons (fun f w' hI hs => ⟨wanted_none rfl, _, rfl, .val (rn_load27c rfl ((fr_own rfl rfl).trans (hs 6 (by kernel_rfl))) hI.c3.1 hI.c3.2) ⟨Below.refl _ _, rfl⟩⟩) ?_
      refine .cons (fun f w' hI hs => ?_) .nil
      have h5 : Zr w' (f 5) (-n) := (hs 5 (by kernel_rfl))
      have h7 : f 7 = .agg #[.int .u64 y, .pointer q] := (hs 7 (by kernel_rfl))
      obtain ⟨s', x', p', n', e5, h6⟩ := id h5
      refine ⟨wanted_none rfl, _, rfl, .val (rn_build61 rfl ((fr_own rfl rfl).trans e5) ((fr_own rfl rfl).trans h7)) ⟨Below.refl _ _, ?_⟩⟩
      rw [e5] at h5
      exact ⟨s', x', p', y, q, rfl, h5, hI.r.dg', hI.r.pos', by rw [Int.natAbs_neg]; exact hI.r.low⟩
    · refine .cons (fun f w' h => ⟨wanted_none rfl, ?_⟩) .nil
      obtain ⟨hI, hs⟩ := (if_pos rfl) ▸ h
      have h8 : Rr w' (f 8) (-n) d := hs 8 (by kernel_rfl)
      obtain ⟨s8, x8, p8, y8, q8, e8⟩ := h8.agg
      rw [e8] at h8
      refine .skip (rn_store61 rfl (fr_old rfl rfl) ((fr_own rfl rfl).trans e8) hI.t) ⟨below5 hI.k (by omega) _ _ _ _ _, s8, x8, y8, p8, q8, ?_, h8.store hI.t.odd (grown5 _ _ _ _ _ _ _)⟩
      obtain ⟨_, _, _, _, _, hT⟩ := hI.t
      simp [World.setCell, Array.getElem?_modify, hT]
    · intro f w' h
      refine hK _ _ (Met.intro (hJ _ _ ?_))
      (repeat apply Exists.intro)
      refine ⟨?_, rfl⟩
      exact h
  case rest =>
    obtain ⟨kf, s1, x1, y1, p1, q1, h1, h2⟩ := hcut
    have c5 := (⟨s1, x1, p1, y1, q1, h1⟩ : Rq (w.heap.size + 1) _)
    have i1 := cell_blk (i := 0) h1
    have i2 := cell_blk (i := 1) h1
    have i3 := cell_blk (i := 2) h1
    have i4 := cell_blk (i := 3) h1
    have i5 := cell_blk (i := 4) h1
    have KF := Lib.hid kf
    have V := Lib.hid h2
    clear h1 h2 kf c5 S0
    go_wp2
    exact bodyPost_ret (v := .agg #[.bool s1, .int .u64 x1, .pointer p1, .int .u64 y1, .pointer q1]) (by simp [results, Tryz.results48, go_sem, i1, i2, i3, i4, i5]) rfl ⟨KF.out, _, rfl, V.out⟩
end Go.Proofs.YtjjomjjgoceklaaGreat
namespace Go.Proofs.YtjjomjjgoceklaaGreat
set_option maxRecDepth 100000
open Go.RowKit

/-- the new blocks so far: all there, all different -/
def Als (al : Nat → Bool) (ops : Array Oper) (L : Nat → Bool) (f : Nat → Value) (w : World) : Prop :=
  (∀ i o d, ops[i]? = some o → L i = true → o.dst = some d → al d = true → ∃ T, f d = .pointer (some ⟨T, 0, none⟩) ∧ T < w.heap.size) ∧
  (∀ i j oi oj d d', ops[i]? = some oi → ops[j]? = some oj → L i = true → L j = true → oi.dst = some d → oj.dst = some d' → al d = true → al d' = true → d ≠ d' → f d ≠ f d')
theorem Als.step {al : Nat → Bool} {ops : Array Oper} {L : Nat → Bool} {f : Nat → Value} {w w' : World} {n : Nat} {o : Oper} {d : Nat} {v : Value} (h : Als al ops L f w) (_hu : uniqB ops = true) (ho : ops[n]? = some o) (hd : o.dst = some d) (hs : w.heap.size ≤ w'.heap.size)
    (hal : al d = true → v = .pointer (some ⟨w.heap.size, 0, none⟩) ∧ w.heap.size < w'.heap.size) : Als al ops (dn L n) (updo f o.dst v) w' := by
  rw [hd]
  have old : ∀ i oi di, ops[i]? = some oi → dn L n i = true → oi.dst = some di → al di = true → di ≠ d → ∃ T, f di = .pointer (some ⟨T, 0, none⟩) ∧ T < w.heap.size := by
    intro i oi di hi hL hdi ha hne
    unfold dn at hL
    by_cases e : i = n
    · subst e; rw [ho] at hi; cases hi; rw [hd] at hdi; cases hdi; exact absurd rfl hne
    · rw [if_neg e] at hL; exact h.1 i oi di hi hL hdi ha
  have oldL : ∀ i oi di, ops[i]? = some oi → dn L n i = true → oi.dst = some di → di ≠ d → L i = true := by
    intro i oi di hi hL hdi hne
    unfold dn at hL
    by_cases e : i = n
    · subst e; rw [ho] at hi; cases hi; rw [hd] at hdi; cases hdi; exact absurd rfl hne
    · rw [if_neg e] at hL; exact hL
  constructor
  · intro i oi di hi hL hdi ha
    simp only [updo, upd]
    by_cases e : di = d
    · subst e; rw [if_pos rfl]; exact ⟨_, (hal ha).1, (hal ha).2⟩
    · rw [if_neg e]
      obtain ⟨T, h1, h2⟩ := old i oi di hi hL hdi ha e
      exact ⟨T, h1, by omega⟩
  · intro i j oi oj di dj hi hj hLi hLj hdi hdj hai haj hne
    simp only [updo, upd]
    by_cases e : di = d
    · subst e
      rw [if_pos rfl, if_neg (fun h => hne h.symm), (hal hai).1]
      obtain ⟨T, h1, h2⟩ := old j oj dj hj hLj hdj haj (fun h => hne h.symm)
      rw [h1]; intro e; simp at e <;> omega
    · rw [if_neg e]
      by_cases e2 : dj = d
      · subst e2
        rw [if_pos rfl, (hal haj).1]
        obtain ⟨T, h1, h2⟩ := old i oi di hi hLi hdi hai e
        rw [h1]; intro e; simp at e <;> omega
      · rw [if_neg e2]
        exact h.2 i j oi oj di dj hi hj (oldL i oi di hi hLi hdi e) (oldL j oj dj hj hLj hdj e2) hdi hdj hai haj hne
theorem Als.tail {al : Nat → Bool} {ops : Array Oper} {L : Nat → Bool} {f : Nat → Value} {w w' : World} {n : Nat} {o : Oper} (h : Als al ops L f w) (ho : ops[n]? = some o) (hd : o.dst = none) (hs : w.heap.size ≤ w'.heap.size) : Als al ops (dn L n) f w' := by
  have old : ∀ i oi di, ops[i]? = some oi → dn L n i = true → oi.dst = some di → L i = true := by
    intro i oi di hi hL hdi
    unfold dn at hL
    by_cases e : i = n
    · subst e; rw [ho] at hi; cases hi; rw [hd] at hdi; cases hdi
    · rw [if_neg e] at hL; exact hL
  constructor
  · intro i oi di hi hL hdi ha
    obtain ⟨T, h1, h2⟩ := h.1 i oi di hi (old i oi di hi hL hdi) hdi ha
    exact ⟨T, h1, by omega⟩
  · intro i j oi oj di dj hi hj hLi hLj hdi hdj
    exact h.2 i j oi oj di dj hi hj (old i oi di hi hLi hdi) (old j oj dj hj hLj hdj) hdi hdj
section
variable {P : Program} {ops : Array Oper} {Q : Exit → Act → World → Prop}
end
end Go.Proofs.YtjjomjjgoceklaaGreat
namespace Go.Proofs.YtjjomjjgoceklaaGreat
set_option maxRecDepth 100000
open Go.RowKit

/-- each new block stands before the first store -/
def alB (ops : Array Oper) (al : Nat → Bool) (m : Nat) : Bool := (List.range ops.size).all fun n => match (ops[n]?).bind (·.dst) with | some d => !al d || (edgesOf ops m).contains n | none => true
theorem alB_spec {ops : Array Oper} {al : Nat → Bool} {m n d : Nat} {o : Oper} (h : alB ops al m = true) (ho : ops[n]? = some o) (hd : o.dst = some d) (ha : al d = true) : n ∈ edgesOf ops m := by
  have h1 := List.all_eq_true.1 h n (List.mem_range.2 (Array.getElem?_eq_some_iff.1 ho).1)
  simp only [ho, Option.bind_some, hd, ha, Bool.not_true, Bool.false_or] at h1
  exact List.contains_iff_mem.1 h1
section
variable {P : Program} {ops : Array Oper} {Q : Exit → Act → World → Prop}
/-- the same; what is kept may speak of the new blocks as soon as a store is done -/
theorem wp_region_alf {id : Nat} {a0 : Act} {w : World} (D : Nat → Bool) (tab : Nat → Kd) (al : Nat → Bool) (m : Nat) (I : Nat → (Nat → Value) → World → Prop) (hm : P.follows .mixedOrders = true) (hback : backB .any ops = true) (hu : uniqB ops = true) (hch : tailB ops m = true) (hms : m ≤ ops.size)
    (hD : (ops.toList.filterMap (·.dst)).all D = true) (hI : ∀ i f f' w w', I i f w → Below w.heap.size w w' → (i = m ∨ ∀ d, al d = true → f' d = f d) → I i f' w') (ham : alB ops al m = true) (h0 : ∀ f, I m f { w with drawn := w.drawn + 1 })
    (hstep : AllFrom (fun i o => ∀ s f w, (∀ j, m ≤ j → j < s → (edgesOf ops j).contains i = false) → I s f w → (∀ d, (predD ops i).contains d = true → kd (tab d) (f d) w) →
      Region.wanted o (yielded ops (fr a0 D f).tmps) = true ∧ ∃ d, o.dst = some d ∧ OpR P o (fr a0 D f) w fun v w' => (Below w.heap.size w w' ∧ kd (tab d) v w') ∧ (al d = true → v = .pointer (some ⟨w.heap.size, 0, none⟩) ∧ w.heap.size < w'.heap.size)) 0 (ops.toList.take m))
    (htail : AllFrom (fun i o => ∀ f w, I i f w → (∀ d, (predD ops i).contains d = true → kd (tab d) (f d) w) → (∀ d d', (predD ops i).contains d = true → (predD ops i).contains d' = true → al d = true → al d' = true → d ≠ d' → f d ≠ f d') →
      Region.wanted o (yielded ops (fr a0 D f).tmps) = true ∧ o.dst = none ∧ OpR P o (fr a0 D f) w fun _ w' => (I (i + 1) f w' ∧ ∀ d v, kd (tab d) v w → kd (tab d) v w') ∧ w.heap.size ≤ w'.heap.size) m (ops.toList.drop m))
    (hend : ∀ f w, I ops.size f w → (∀ d, (ops.toList.filterMap (·.dst)).contains d = true → kd (tab d) (f d) w) → Q .normal (fr a0 D f) w) : (Code.region id ops true).wp P Q a0 w := by
  let J : (Nat → Bool) → (Nat → Value) → World → Prop := fun L f w => Closed ops L ∧ ∃ i, (m ≤ i ∧ i ≤ ops.size) ∧ (∀ j, m ≤ j → j < i → L j = true) ∧ (∀ j, i ≤ j → L j = false) ∧ I i f w ∧ KdAll tab ops L f w ∧ Als al ops L f w
  have hclosed : ∀ (L : Nat → Bool) (n : Nat), Closed ops L → (∀ j ∈ edgesOf ops n, L j = true) → Closed ops (dn L n) := by
    intro L n hcl hedge i hi j hj
    unfold dn at hi ⊢
    by_cases e : i = n
    · subst e
      split
      · rfl
      · exact hedge j hj
    · rw [if_neg e] at hi
      split
      · rfl
      · exact hcl i hi j hj
  refine wp_region_fr D J hm hback hD ⟨_, fr_self a0 D, (by intro i h; cases h), m, ⟨Nat.le_refl _, hms⟩, fun j h1 h2 => by omega, fun _ _ => rfl, h0 _, (by intro i o d _ h; cases h), ⟨(by intro i o d _ h; cases h), (by intro i j oi oj d d' _ _ h; cases h)⟩⟩ ?_ ?_
  · refine .of fun n o ho => ?_
    rw [Nat.zero_add]
    rintro L f w ⟨hcl, i, ⟨hi1, hi2⟩, hdone, hfar, hIw, hk, hals⟩ hL hdep
    have ho : ops[n]? = some o := by simpa using ho
    have hn : n < ops.size := (Array.getElem?_eq_some_iff.1 ho).1
    have hedge : ∀ j ∈ edgesOf ops n, L j = true := by
      intro j hj
      unfold edgesOf at hj
      rw [ho] at hj
      obtain ⟨e, he, rfl⟩ := List.mem_map.1 hj
      obtain ⟨he1, he2⟩ := List.mem_filter.1 he
      exact hdep e (by simpa using he1) he2
    have hpr := predGo_ok hcl n _ hedge
    have hpre : ∀ d, (predD ops n).contains d = true → kd (tab d) (f d) w := by
      intro d hd
      unfold predD at hd
      obtain ⟨j, hj, hjd⟩ := List.mem_filterMap.1 (List.contains_iff_mem.1 hd)
      obtain ⟨oj, hoj, hdj⟩ := Option.bind_eq_some_iff.1 hjd
      exact hk j oj d hoj (hpr j hj) hdj
    rcases Nat.lt_or_ge n m with hnm | hnm
    · have hg := hstep.get (i := n) (o := o) (by rw [List.getElem?_take_of_lt hnm]; simpa using ho)
      rw [Nat.zero_add] at hg
      obtain ⟨hw, d, hd, hr⟩ := hg i f w (fun j h1 h2 => by
        cases hc : (edgesOf ops j).contains n with
        | false => rfl
        | true => rw [hcl j (hdone j h1 h2) n (List.contains_iff_mem.1 hc)] at hL; cases hL) hIw hpre
      refine ⟨hw, ?_⟩
      have him : ∀ d, o.dst = some d → ∀ v, i = m ∨ ∀ d', al d' = true → updo f o.dst v d' = f d' := by
        intro d hd v
        rcases Nat.lt_or_ge m i with hmi | hmi
        · right
          intro d' had
          rw [hd]
          simp only [updo, upd]
          rw [if_neg]
          intro e
          subst e
          have := hcl m (hdone m (Nat.le_refl _) hmi) n (alB_spec ham ho hd had)
          rw [this] at hL
          cases hL
        · left; omega
      have step : ∀ v w', ((Below w.heap.size w w' ∧ kd (tab d) v w') ∧ (al d = true → v = .pointer (some ⟨w.heap.size, 0, none⟩) ∧ w.heap.size < w'.heap.size)) → J (dn L n) (updo f o.dst v) w' := by
        rintro v w' ⟨⟨hb, hkd⟩, hal⟩
        refine ⟨hclosed _ _ hcl hedge, i, ⟨hi1, hi2⟩, fun j h1 h2 => by unfold dn; rw [if_neg (by omega)]; exact hdone j h1 h2, fun j hj => by unfold dn; rw [if_neg (by omega)]; exact hfar j hj, hI _ _ _ _ _ hIw hb (him d hd v), ?_, hals.step hu ho hd hb.size hal⟩
        intro i' p d' hp hi' hd'
        rw [hd]
        unfold dn at hi'
        by_cases e : i' = n
        · subst e
          rw [ho] at hp
          cases hp
          rw [hd] at hd'
          cases hd'
          simpa [updo, upd] using hkd
        · rw [if_neg e] at hi'
          have hne : d' ≠ d := fun he => e (uniq_spec hu hp ho (he ▸ hd') hd)
          simp only [updo, upd, if_neg hne]
          exact (hk i' p d' hp hi' hd').keep hb
      rcases hr with ⟨v, w', h1, h2⟩ | ⟨w', h1, h2⟩ | ⟨g, args, h1, h2⟩
      · exact .inl ⟨v, w', h1, step _ _ h2⟩
      · exact .inr (.inl ⟨w', h1, step _ _ h2⟩)
      · exact .inr (.inr ⟨g, args, h1, h2.mono fun e w' ⟨v, he, hr⟩ => ⟨v, he, step _ _ hr⟩⟩)
    · have hin : i = n := by
        rcases Nat.lt_trichotomy i n with h | h | h
        · have h1 := hedge _ (tail_spec hch hn (by omega))
          rw [hfar (n - 1) (by omega)] at h1
          cases h1
        · exact h
        · have := hdone n hnm h; rw [this] at hL; cases hL
      subst hin
      have hg := htail.get (i := i - m) (o := o) (by rw [List.getElem?_drop, show m + (i - m) = i by omega]; simpa using ho)
      rw [show m + (i - m) = i by omega] at hg
      obtain ⟨hw, hdn, hr⟩ := hg f w hIw hpre (fun d d' h1 h2 => by
        unfold predD at h1 h2
        obtain ⟨j, hj, hjd⟩ := List.mem_filterMap.1 (List.contains_iff_mem.1 h1)
        obtain ⟨oj, hoj, hdj⟩ := Option.bind_eq_some_iff.1 hjd
        obtain ⟨j', hj', hjd'⟩ := List.mem_filterMap.1 (List.contains_iff_mem.1 h2)
        obtain ⟨oj', hoj', hdj'⟩ := Option.bind_eq_some_iff.1 hjd'
        exact hals.2 j j' oj oj' d d' hoj hoj' (hpr j hj) (hpr j' hj') hdj hdj')
      refine ⟨hw, ?_⟩
      have step : ∀ v w', ((I (i + 1) f w' ∧ ∀ d v, kd (tab d) v w → kd (tab d) v w') ∧ w.heap.size ≤ w'.heap.size) → J (dn L i) (updo f o.dst v) w' := by
        rintro v w' ⟨⟨hI', hkk⟩, hsz⟩
        rw [hdn]
        refine ⟨hclosed _ _ hcl hedge, i + 1, ⟨by omega, hn⟩, fun j h1 h2 => by unfold dn; split; rfl; exact hdone j h1 (by omega), fun j hj => by unfold dn; rw [if_neg (by omega)]; exact hfar j (by omega), hI', ?_, hals.tail ho hdn hsz⟩
        intro i' p d' hp hi' hd'
        unfold dn at hi'
        by_cases e : i' = i
        · subst e
          rw [ho] at hp
          cases hp
          rw [hdn] at hd'
          cases hd'
        · rw [if_neg e] at hi'
          exact hkk _ _ (hk i' p d' hp hi' hd')
      rcases hr with ⟨v, w', h1, h2⟩ | ⟨w', h1, h2⟩ | ⟨g, args, h1, h2⟩
      · exact .inl ⟨v, w', h1, step _ _ h2⟩
      · exact .inr (.inl ⟨w', h1, step _ _ h2⟩)
      · exact .inr (.inr ⟨g, args, h1, h2.mono fun e w' ⟨v, he, hr⟩ => ⟨v, he, step _ _ hr⟩⟩)
  · rintro L f w ⟨_, i, ⟨hi1, hi2⟩, _, hfar, hIw, hk, _⟩ hall
    have hie : i = ops.size := by
      rcases Nat.lt_or_ge i ops.size with h | h
      · have := hfar i (Nat.le_refl _); rw [hall i h] at this; cases this
      · omega
    subst hie
    refine hend f w hIw fun d hd => ?_
    obtain ⟨o, ho, hod⟩ := List.mem_filterMap.1 (List.contains_iff_mem.1 hd)
    obtain ⟨i, hi⟩ := List.getElem?_of_mem ho
    have hi' : ops[i]? = some o := by simpa using hi
    exact hk i o d hi' (hall i (Array.getElem?_eq_some_iff.1 hi').1) hod
end
end Go.Proofs.YtjjomjjgoceklaaGreat

import Derived.Test.YtljmhejljpfaiaaHd
import Derived.Test.YtljmhejljpfaiaaBw
import Derived.Test.YtljmhejljpfaiaaIf
import Derived.Test.YtljmhejljpfaiaaLg
import Derived.Laws.StructEq
namespace Go.Proofs.Ytljmhejljpfaiaa
set_option maxRecDepth 100000
open Go.RowKit
section
variable {P : Program} {ops : Array Oper} {Q : Exit → Act → World → Prop}
/-- the same; the last operations may have a slot that is no new block's -/
theorem wp_region_ald {id : Nat} {a0 : Act} {w : World} (D : Nat → Bool) (tab : Nat → Kd) (al : Nat → Bool) (m : Nat) (I : Nat → (Nat → Value) → World → Prop) (hm : P.follows .mixedOrders = true) (hback : backB .any ops = true) (hu : uniqB ops = true) (hch : tailB ops m = true) (hms : m ≤ ops.size)
    (hD : (ops.toList.filterMap (·.dst)).all D = true) (hI : ∀ i f f' w w', I i f w → Below w.heap.size w w' → (i = m ∨ ∀ d, al d = true → f' d = f d) → I i f' w') (ham : alB ops al m = true) (h0 : ∀ f, I m f { w with drawn := w.drawn + 1 })
    (hstep : AllFrom (fun i o => ∀ s f w, (∀ j, m ≤ j → j < s → (edgesOf ops j).contains i = false) → I s f w → (∀ d, (predD ops i).contains d = true → kd (tab d) (f d) w) →
      Region.wanted o (yielded ops (fr a0 D f).tmps) = true ∧ ∃ d, o.dst = some d ∧ OpR P o (fr a0 D f) w fun v w' => (Below w.heap.size w w' ∧ kd (tab d) v w') ∧ (al d = true → v = .pointer (some ⟨w.heap.size, 0, none⟩) ∧ w.heap.size < w'.heap.size)) 0 (ops.toList.take m))
    (htail : AllFrom (fun i o => ∀ f w, I i f w → (∀ d, (predD ops i).contains d = true → kd (tab d) (f d) w) → (∀ d d', (predD ops i).contains d = true → (predD ops i).contains d' = true → al d = true → al d' = true → d ≠ d' → f d ≠ f d') →
      Region.wanted o (yielded ops (fr a0 D f).tmps) = true ∧ (∀ d, o.dst = some d → al d = false) ∧ OpR P o (fr a0 D f) w fun v w' => (I (i + 1) (updo f o.dst v) w' ∧ (∀ d v, kd (tab d) v w → kd (tab d) v w') ∧ (∀ d, o.dst = some d → kd (tab d) v w')) ∧ w.heap.size ≤ w'.heap.size) m (ops.toList.drop m))
    (hend : ∀ f w, I ops.size f w → (∀ d, (ops.toList.filterMap (·.dst)).contains d = true → kd (tab d) (f d) w) → Q .normal (fr a0 D f) w) : (Code.region id ops true).wp P Q a0 w := by
  let J : (Nat → Bool) → (Nat → Value) → World → Prop := fun L f w => Closed ops L ∧ ∃ i, (m ≤ i ∧ i ≤ ops.size) ∧ (∀ j, m ≤ j → j < i → L j = true) ∧ (∀ j, i ≤ j → L j = false) ∧ I i f w ∧ KdAll tab ops L f w ∧ Als al ops L f w
  have hclosed : ∀ (L : Nat → Bool) (n : Nat), Closed ops L → (∀ j ∈ edgesOf ops n, L j = true) → Closed ops (dn L n) := by
    intro L n hcl hedge i hi j hj
    unfold dn at hi ⊢
    by_cases e : i = n
    · subst e
      split
      · rfl
      · exact hedge j hj
    · rw [if_neg e] at hi
      split
      · rfl
      · exact hcl i hi j hj
  refine wp_region_fr D J hm hback hD ⟨_, fr_self a0 D, (by intro i h; cases h), m, ⟨Nat.le_refl _, hms⟩, fun j h1 h2 => by omega, fun _ _ => rfl, h0 _, (by intro i o d _ h; cases h), ⟨(by intro i o d _ h; cases h), (by intro i j oi oj d d' _ _ h; cases h)⟩⟩ ?_ ?_
  · refine .of fun n o ho => ?_
    rw [Nat.zero_add]
    rintro L f w ⟨hcl, i, ⟨hi1, hi2⟩, hdone, hfar, hIw, hk, hals⟩ hL hdep
    have ho : ops[n]? = some o := by simpa using ho
    have hn : n < ops.size := (Array.getElem?_eq_some_iff.1 ho).1
    have hedge : ∀ j ∈ edgesOf ops n, L j = true := by
      intro j hj
      unfold edgesOf at hj
      rw [ho] at hj
      obtain ⟨e, he, rfl⟩ := List.mem_map.1 hj
      obtain ⟨he1, he2⟩ := List.mem_filter.1 he
      exact hdep e (by simpa using he1) he2
    have hpr := predGo_ok hcl n _ hedge
    have hpre : ∀ d, (predD ops n).contains d = true → kd (tab d) (f d) w := by
      intro d hd
      unfold predD at hd
      obtain ⟨j, hj, hjd⟩ := List.mem_filterMap.1 (List.contains_iff_mem.1 hd)
      obtain ⟨oj, hoj, hdj⟩ := Option.bind_eq_some_iff.1 hjd
      exact hk j oj d hoj (hpr j hj) hdj
    rcases Nat.lt_or_ge n m with hnm | hnm
    · have hg := hstep.get (i := n) (o := o) (by rw [List.getElem?_take_of_lt hnm]; simpa using ho)
      rw [Nat.zero_add] at hg
      obtain ⟨hw, d, hd, hr⟩ := hg i f w (fun j h1 h2 => by
        cases hc : (edgesOf ops j).contains n with
        | false => rfl
        | true => rw [hcl j (hdone j h1 h2) n (List.contains_iff_mem.1 hc)] at hL; cases hL) hIw hpre
      refine ⟨hw, ?_⟩
      have him : ∀ d, o.dst = some d → ∀ v, i = m ∨ ∀ d', al d' = true → updo f o.dst v d' = f d' := by
        intro d hd v
        rcases Nat.lt_or_ge m i with hmi | hmi
        · right
          intro d' had
          rw [hd]
          simp only [updo, upd]
          rw [if_neg]
          intro e
          subst e
          have := hcl m (hdone m (Nat.le_refl _) hmi) n (alB_spec ham ho hd had)
          rw [this] at hL
          cases hL
        · left; omega
      have step : ∀ v w', ((Below w.heap.size w w' ∧ kd (tab d) v w') ∧ (al d = true → v = .pointer (some ⟨w.heap.size, 0, none⟩) ∧ w.heap.size < w'.heap.size)) → J (dn L n) (updo f o.dst v) w' := by
        rintro v w' ⟨⟨hb, hkd⟩, hal⟩
        refine ⟨hclosed _ _ hcl hedge, i, ⟨hi1, hi2⟩, fun j h1 h2 => by unfold dn; rw [if_neg (by omega)]; exact hdone j h1 h2, fun j hj => by unfold dn; rw [if_neg (by omega)]; exact hfar j hj, hI _ _ _ _ _ hIw hb (him d hd v), ?_, hals.step hu ho hd hb.size hal⟩
        intro i' p d' hp hi' hd'
        rw [hd]
        unfold dn at hi'
        by_cases e : i' = n
        · subst e
          rw [ho] at hp
          cases hp
          rw [hd] at hd'
          cases hd'
          simpa [updo, upd] using hkd
        · rw [if_neg e] at hi'
          have hne : d' ≠ d := fun he => e (uniq_spec hu hp ho (he ▸ hd') hd)
          simp only [updo, upd, if_neg hne]
          exact (hk i' p d' hp hi' hd').keep hb
      rcases hr with ⟨v, w', h1, h2⟩ | ⟨w', h1, h2⟩ | ⟨g, args, h1, h2⟩
      · exact .inl ⟨v, w', h1, step _ _ h2⟩
      · exact .inr (.inl ⟨w', h1, step _ _ h2⟩)
      · exact .inr (.inr ⟨g, args, h1, h2.mono fun e w' ⟨v, he, hr⟩ => ⟨v, he, step _ _ hr⟩⟩)
    · have hin : i = n := by
        rcases Nat.lt_trichotomy i n with h | h | h
        · have h1 := hedge _ (tail_spec hch hn (by omega))
          rw [hfar (n - 1) (by omega)] at h1
          cases h1
        · exact h
        · have := hdone n hnm h; rw [this] at hL; cases hL
      subst hin
      have hg := htail.get (i := i - m) (o := o) (by rw [List.getElem?_drop, show m + (i - m) = i by omega]; simpa using ho)
      rw [show m + (i - m) = i by omega] at hg
      obtain ⟨hw, hdn, hr⟩ := hg f w hIw hpre (fun d d' h1 h2 => by
        unfold predD at h1 h2
        obtain ⟨j, hj, hjd⟩ := List.mem_filterMap.1 (List.contains_iff_mem.1 h1)
        obtain ⟨oj, hoj, hdj⟩ := Option.bind_eq_some_iff.1 hjd
        obtain ⟨j', hj', hjd'⟩ := List.mem_filterMap.1 (List.contains_iff_mem.1 h2)
        obtain ⟨oj', hoj', hdj'⟩ := Option.bind_eq_some_iff.1 hjd'
        exact hals.2 j j' oj oj' d d' hoj hoj' (hpr j hj) (hpr j' hj') hdj hdj')
      refine ⟨hw, ?_⟩
      have step : ∀ v w', ((I (i + 1) (updo f o.dst v) w' ∧ (∀ d v, kd (tab d) v w → kd (tab d) v w') ∧ (∀ d, o.dst = some d → kd (tab d) v w')) ∧ w.heap.size ≤ w'.heap.size) → J (dn L i) (updo f o.dst v) w' := by
        rintro v w' ⟨⟨hI', hkk, hkn⟩, hsz⟩
        have hA : Als al ops (dn L i) (updo f o.dst v) w' := by
          cases hd : o.dst with
          | none => exact hals.tail ho hd hsz
          | some d =>
            rw [← hd]
            exact hals.step hu ho hd hsz (fun h => by rw [hdn d hd] at h; cases h)
        refine ⟨hclosed _ _ hcl hedge, i + 1, ⟨by omega, hn⟩, fun j h1 h2 => by unfold dn; split; rfl; exact hdone j h1 (by omega), fun j hj => by unfold dn; rw [if_neg (by omega)]; exact hfar j (by omega), hI', ?_, hA⟩
        intro i' p d' hp hi' hd'
        unfold dn at hi'
        by_cases e : i' = i
        · subst e
          rw [ho] at hp
          cases hp
          have hq := hkn d' hd'
          rw [hd']
          simpa [updo, upd] using hq
        · rw [if_neg e] at hi'
          have hq := hkk _ _ (hk i' p d' hp hi' hd')
          cases hd : o.dst with
          | none => exact hq
          | some d =>
            have hne : d' ≠ d := fun he => e (uniq_spec hu hp ho (he ▸ hd') hd)
            simp only [updo, upd, if_neg hne]
            exact hq
      rcases hr with ⟨v, w', h1, h2⟩ | ⟨w', h1, h2⟩ | ⟨g, args, h1, h2⟩
      · exact .inl ⟨v, w', h1, step _ _ h2⟩
      · exact .inr (.inl ⟨w', h1, step _ _ h2⟩)
      · exact .inr (.inr ⟨g, args, h1, h2.mono fun e w' ⟨v, he, hr⟩ => ⟨v, he, step _ _ hr⟩⟩)
  · rintro L f w ⟨_, i, ⟨hi1, hi2⟩, _, hfar, hIw, hk, _⟩ hall
    have hie : i = ops.size := by
      rcases Nat.lt_or_ge i ops.size with h | h
      · have := hfar i (Nat.le_refl _); rw [hall i h] at this; cases this
      · omega
    subst hie
    refine hend f w hIw fun d hd => ?_
    obtain ⟨o, ho, hod⟩ := List.mem_filterMap.1 (List.contains_iff_mem.1 hd)
    obtain ⟨i, hi⟩ := List.getElem?_of_mem ho
    have hi' : ops[i]? = some o := by simpa using hi
    exact hk i o d hi' (hall i (Array.getElem?_eq_some_iff.1 hi').1) hod
end
/-! more operations of a region, one by one -/
section
variable {ρ : Operand → Value} {o : Oper} {w : World} {t x y z c : Operand}
theorem cf35 : CF 35 := fun W args => by go_simp
theorem rn_load34 {b : Nat} {nm : ByteArray} {v : Value} {dp dn gx gz : Int} (ho : o.op = .load 34 t) (he : ρ t = .pointer (some ⟨b, 0, none⟩)) (h : w.heap[b]? = some (.cells (c6 nm v dp dn gx gz) 34 (0, 0))) : (execOp ρ o).run Try.prog w = .ok (.value (.agg (c6 nm v dp dn gx gz))) w := by
  have h0 : w.cell? ⟨b, 0, none⟩ = some (.string nm) := by simp [World.cell?, h]
  have h1 : w.cell? ⟨b, 1, none⟩ = some v := by simp [World.cell?, h]
  have h2 : w.cell? ⟨b, 2, none⟩ = some (.int .i64 dp) := by simp [World.cell?, h]
  have h3 : w.cell? ⟨b, 3, none⟩ = some (.int .i64 dn) := by simp [World.cell?, h]
  have h4 : w.cell? ⟨b, 4, none⟩ = some (.int .i64 gx) := by simp [World.cell?, h]
  have h5 : w.cell? ⟨b, 5, none⟩ = some (.int .i64 gz) := by simp [World.cell?, h]
  unfold execOp; rw [ho]; simp [go_sem, he, h0, h1, h2, h3, h4, h5]
theorem rn_extract2 {u v s : Value} (ho : o.op = .extract t 2) (h1 : ρ t = .tuple #[u, v, s]) : (execOp ρ o).run Try.prog w = .ok (.value s) w := by
  unfold execOp; rw [ho]; simp [go_sem, h1]
theorem rn_extract0t {u v s : Value} (ho : o.op = .extract t 0) (h1 : ρ t = .tuple #[u, v, s]) : (execOp ρ o).run Try.prog w = .ok (.value u) w := by
  unfold execOp; rw [ho]; simp [go_sem, h1]
theorem rn_extract1t {u v s : Value} (ho : o.op = .extract t 1) (h1 : ρ t = .tuple #[u, v, s]) : (execOp ρ o).run Try.prog w = .ok (.value v) w := by
  unfold execOp; rw [ho]; simp [go_sem, h1]
theorem rn_alloc34 (ho : o.op = .alloc 34) : (execOp ρ o).run Try.prog w = .ok (.value (.pointer (some ⟨w.heap.size, 0, none⟩))) (w.alloc (.cells (c6 ⟨#[]⟩ (.slice none 0 0) 0 0 0 0) 34)) := by
  unfold execOp; rw [ho]; simp [go_sem]
theorem rn_store34 {T : Nat} {n0 nm : ByteArray} {v0 : Value} {q : Option Addr} {m cp : Nat} {a0 b0 e0 d0 dp dn gx gz : Int} (ho : o.op = .store 34 t x) (he : ρ t = .pointer (some ⟨T, 0, none⟩)) (hx : ρ x = .agg (c6 nm (.slice q m cp) dp dn gx gz)) (h : w.heap[T]? = some (.cells (c6 n0 v0 a0 b0 e0 d0) 34 (0, 0))) :
    (execOp ρ o).run Try.prog w = .ok .skip ((((((w.setCell ⟨T, 0, none⟩ (.string nm)).setCell ⟨T, 1, none⟩ (.slice q m cp)).setCell ⟨T, 2, none⟩ (.int .i64 dp)).setCell ⟨T, 3, none⟩ (.int .i64 dn)).setCell ⟨T, 4, none⟩ (.int .i64 gx)).setCell ⟨T, 5, none⟩ (.int .i64 gz)) := by
  have h0 : w.cell? ⟨T, 0, none⟩ = some (.string n0) := by simp [World.cell?, h]
  have h1 : w.cell? ⟨T, 1, none⟩ = some v0 := by simp [World.cell?, h]
  have h2 : w.cell? ⟨T, 2, none⟩ = some (.int .i64 a0) := by simp [World.cell?, h]
  have h3 : w.cell? ⟨T, 3, none⟩ = some (.int .i64 b0) := by simp [World.cell?, h]
  have h4 : w.cell? ⟨T, 4, none⟩ = some (.int .i64 e0) := by simp [World.cell?, h]
  have h5 : w.cell? ⟨T, 5, none⟩ = some (.int .i64 d0) := by simp [World.cell?, h]
  have hf : ∀ j, w.frozen? ⟨T, j, none⟩ = false := fun j => by simp [World.frozen?, h]
  unfold execOp; rw [ho]; simp [go_sem, he, hx, h0, h1, h2, h3, h4, h5, hf]
theorem rn_call3 {n : FuncId} {ts : Array TypeId} (ho : o.op = .call { callee := .value (.func n), args := #[x, y, z], argTypes := ts }) (hf : ρ (.func n) = .func (.func n) #[] #[]) (hcf : CF n) : (execOp ρ o).run Try.prog w = .ok (.enter n #[ρ x, ρ y, ρ z]) w := by
  unfold execOp; rw [ho]; simp [go_sem, hf]; exact hcf _ _
end
theorem OpR.call3 {o : Oper} {a0 : Act} {D : Nat → Bool} {f : Nat → Value} {w : World} {R : Value → World → Prop} {n : FuncId} {tx ty tz : Nat} {ts : Array TypeId} (ho : o.op = .call { callee := .value (.func n), args := #[.tmp tx, .tmp ty, .tmp tz], argTypes := ts }) (hcf : CF n) (hx : D tx = true) (hx' : (a0.tmps[tx]?).isSome = true) (hy : D ty = true) (hy' : (a0.tmps[ty]?).isSome = true) (hz : D tz = true) (hz' : (a0.tmps[tz]?).isSome = true)
    (h : Calls Try.prog n #[f tx, f ty, f tz] w fun e w' => ∃ v, e = .returned v ∧ R v w') : OpR Try.prog o (fr a0 D f) w R := by
  refine .inr (.inr ⟨n, _, rn_call3 ho rfl hcf, ?_⟩)
  rw [fr_own hx hx', fr_own hy hy', fr_own hz hz']
  exact h
/-- a new box of a stone -/
def kP34 (W : Nat) : Kd := .c (fun v w => ∃ T, v = .pointer (some ⟨T, 0, none⟩) ∧ W ≤ T ∧ ∃ (nm : ByteArray) (u : Value) (dp dn gx gz : Int), w.heap[T]? = some (.cells (c6 nm u dp dn gx gz) 34 (0, 0)))
  (fun _ _ _ ⟨T, h1, h2, n, u, a, b, c, d, h3⟩ hb => ⟨T, h1, h2, n, u, a, b, c, d, (hb.block T (Array.getElem?_eq_some_iff.1 h3).1).trans h3⟩)
theorem set_at {T i : Nat} {cur : Array Value} {ty : TypeId} {v : Value} {w : World} (h : w.heap[T]? = some (.cells cur ty (0, 0))) : (w.setCell ⟨T, i, none⟩ v).heap[T]? = some (.cells (cur.setIfInBounds i v) ty (0, 0)) := by
  unfold World.setCell
  dsimp only
  rw [Array.getElem?_modify, if_pos rfl, h]
  rfl
theorem blk34_st {T : Nat} {n0 nm : ByteArray} {v0 v : Value} {a0 b0 e0 d0 dp dn gx gz : Int} {w : World} (h : w.heap[T]? = some (.cells (c6 n0 v0 a0 b0 e0 d0) 34 (0, 0))) : ((((((w.setCell ⟨T, 0, none⟩ (.string nm)).setCell ⟨T, 1, none⟩ v).setCell ⟨T, 2, none⟩ (.int .i64 dp)).setCell ⟨T, 3, none⟩ (.int .i64 dn)).setCell ⟨T, 4, none⟩ (.int .i64 gx)).setCell ⟨T, 5, none⟩ (.int .i64 gz)).heap[T]? = some (.cells (c6 nm v dp dn gx gz) 34 (0, 0)) :=
  set_at (set_at (set_at (set_at (set_at (set_at h)))))
theorem blk2_far' {T C i j : Nat} {o : Obj} {p q : Value} {w : World} (h : w.heap[C]? = some o) (hn : C ≠ T) : ((w.setCell ⟨T, i, none⟩ p).setCell ⟨T, j, none⟩ q).heap[C]? = some o :=
  (Below.heap_setCell _ _ _ _ hn).trans ((Below.heap_setCell _ _ _ _ hn).trans h)
theorem blk6_far {T C : Nat} {o : Obj} {p0 p1 p2 p3 p4 p5 : Value} {w : World} (h : w.heap[C]? = some o) (hn : C ≠ T) : ((((((w.setCell ⟨T, 0, none⟩ p0).setCell ⟨T, 1, none⟩ p1).setCell ⟨T, 2, none⟩ p2).setCell ⟨T, 3, none⟩ p3).setCell ⟨T, 4, none⟩ p4).setCell ⟨T, 5, none⟩ p5).heap[C]? = some o :=
  blk2_far' (blk2_far' (blk2_far' h hn) hn) hn
/-- a table: two new boxes of stones, all other slots hold what is known -/
def tabG (a1 a2 : Nat) (vals : Nat → Value) (W d : Nat) : Kd := if d = a1 then kP34 W else if d = a2 then kP34 W else .v (vals d)
set_option maxHeartbeats 2000000 in
theorem tabG_st {a1 a2 : Nat} {vals : Nat → Value} {W T : Nat} {w : World} {n0 nm : ByteArray} {v0 u : Value} {a0 b0 e0 d0 dp dn gx gz : Int} (h : w.heap[T]? = some (.cells (c6 n0 v0 a0 b0 e0 d0) 34 (0, 0))) (d : Nat) (v : Value) (hk : kd (tabG a1 a2 vals W d) v w) :
    kd (tabG a1 a2 vals W d) v ((((((w.setCell ⟨T, 0, none⟩ (.string nm)).setCell ⟨T, 1, none⟩ u).setCell ⟨T, 2, none⟩ (.int .i64 dp)).setCell ⟨T, 3, none⟩ (.int .i64 dn)).setCell ⟨T, 4, none⟩ (.int .i64 gx)).setCell ⟨T, 5, none⟩ (.int .i64 gz)) := by
  have kp : ∀ v, kd (kP34 W) v w → kd (kP34 W) v ((((((w.setCell ⟨T, 0, none⟩ (.string nm)).setCell ⟨T, 1, none⟩ u).setCell ⟨T, 2, none⟩ (.int .i64 dp)).setCell ⟨T, 3, none⟩ (.int .i64 dn)).setCell ⟨T, 4, none⟩ (.int .i64 gx)).setCell ⟨T, 5, none⟩ (.int .i64 gz)) := by
    rintro v ⟨C, h1, h2, n, y, a, b, c, e, h3⟩
    by_cases eq : C = T
    · subst eq; exact ⟨C, h1, h2, nm, u, dp, dn, gx, gz, blk34_st (v := u) h3⟩
    · exact ⟨C, h1, h2, n, y, a, b, c, e, blk6_far h3 eq⟩
  unfold tabG at hk ⊢
  split at hk
  · rw [if_pos ‹_›]; exact kp v hk
  · rw [if_neg ‹_›]
    split at hk
    · rw [if_pos ‹_›]; exact kp v hk
    · rw [if_neg ‹_›]; exact hk
end Go.Proofs.Ytljmhejljpfaiaa
namespace Go.Proofs.Ytljmhejljpfaiaa
set_option maxRecDepth 100000
open Go.RowKit Go.Shelf

/-! plain mathematics: outcomes of greater tolerances, and of none -/
theorem agr_mono {gx gz x1 z1 x2 z2 t u : Int} (h : t ≤ u) (ha : agr gx gz x1 z1 x2 z2 t = true) : agr gx gz x1 z1 x2 z2 u = true := by
  unfold agr at ha ⊢
  rw [decide_eq_true_eq] at ha ⊢
  have := Int.mul_le_mul_of_nonneg_right h (show 0 ≤ (((x2 - x1) * gx + (z2 - z1) * gz).natAbs : Int) by omega)
  omega
theorem agr_zero {gx gz x1 z1 x2 z2 : Int} (ha : agr gx gz x1 z1 x2 z2 0 = true) : (x2 - x1) * gz = (z2 - z1) * gx := by
  unfold agr at ha
  rw [decide_eq_true_eq, Int.zero_mul] at ha
  omega
theorem filter_sub {α : Type} {f g : α → Bool} (h : ∀ a, f a = true → g a = true) : ∀ l : List α, (l.filter f).Sublist (l.filter g)
  | [] => List.Sublist.refl _
  | a :: l => by
    have ih := filter_sub h l
    rw [List.filter_cons, List.filter_cons]
    by_cases hf : f a = true
    · rw [if_pos hf, if_pos (h a hf)]; exact ih.cons_cons a
    · rw [if_neg hf]
      split
      · exact ih.cons a
      · exact ih
theorem outc_sub (l : List Pt) (gx gz : Int) (p : Pt) {t u : Int} (h : t ≤ u) : (outc l gx gz p t).Sublist (outc l gx gz p u) :=
  filter_sub (fun q hq => by
    unfold okq at hq ⊢
    rw [Bool.and_eq_true] at hq ⊢
    exact ⟨agr_mono h hq.1, hq.2⟩) _
theorem outc_zero {l : List Pt} {gx gz : Int} {p q : Pt} (h : q ∈ outc l gx gz p 0) : (q.1 - p.1) * gz = (q.2 - p.2) * gx := by
  have h2 := (List.mem_filter.1 h).2
  unfold okq at h2
  rw [Bool.and_eq_true] at h2
  exact agr_zero h2.1
/-- what the walk through both rows keeps -/
def SubI (A B : List Pt) (k a : Nat) : Prop := (A.drop k).Sublist (B.drop a)
theorem SubI.lt {A B : List Pt} {k a : Nat} (h : SubI A B k a) (hk : k < A.length) : a < B.length := by
  rcases Nat.lt_or_ge a B.length with q | q
  · exact q
  · unfold SubI at h
    rw [List.drop_eq_nil_of_le q] at h
    have := List.sublist_nil.1 h
    rw [List.drop_eq_getElem_cons hk] at this
    cases this
theorem sub_next {a b : Pt} {A B : List Pt} (h : (a :: A).Sublist (b :: B)) (hne : b ≠ a) : (a :: A).Sublist B := by
  cases h with
  | cons _ h => exact h
  | cons_cons _ h => exact absurd rfl hne
theorem SubI.next {A B : List Pt} {k a : Nat} (h : SubI A B k a) (hk : k < A.length) (ha : a < B.length) (hne : ¬ (px B a = px A k ∧ pz B a = pz A k)) : SubI A B k (a + 1) := by
  unfold SubI at h ⊢
  rw [List.drop_eq_getElem_cons hk, List.drop_eq_getElem_cons ha] at h
  rw [List.drop_eq_getElem_cons hk]
  refine sub_next h fun e => hne ?_
  unfold px pz
  simp [hk, ha, e]
theorem SubI.step {A B : List Pt} {k a : Nat} (h : SubI A B k a) (hk : k < A.length) (_ha : a < B.length) : SubI A B (k + 1) a := by
  unfold SubI at h ⊢
  rw [List.drop_eq_getElem_cons hk] at h
  exact (List.sublist_cons_self _ _).trans h
/-- what is sure is the least -/
theorem sur_le {f : Pt → Int} {L : List Pt} (hf : ∀ p, 0 ≤ f p) : ∀ n k, k < n → sur f L n ≤ f (px L k, pz L k)
  | n + 1, k, hk => by
    have e : sur f L (n + 1) = if sur f L n < 0 ∨ f (px L n, pz L n) < sur f L n then f (px L n, pz L n) else sur f L n := rfl
    rw [e]
    rcases Nat.lt_or_ge k n with q | q
    · have ih := sur_le (L := L) hf n k q
      have h0 := sur_nn (L := L) hf n (by omega)
      split
      · rename_i h; rcases h with h | h <;> omega
      · exact ih
    · obtain rfl : k = n := by omega
      split
      · exact Int.le_refl _
      · rename_i h
        have : ¬ f (px L k, pz L k) < sur f L k := fun q => h (.inr q)
        omega
/-- both pieces of an outcome's cut -/
theorem grain_tw {l : List Pt} {p q : Pt} (ht : Tr l) (h3 : 3 ≤ l.length) (hp : IsP l p.1 p.2) (hq : IsP l q.1 q.2) (hc : CanC l p.1 p.2 q.1 q.2) : max (tw (stl (partL l q p))) (tw (stl (partL l p q))) = grP l p q := by
  have a1 := (stl_mx3 ht h3 hp hq hc).1
  have b1 := (stl_mx3 (p := q) (q := p) ht h3 hq hp (canC_sw hc)).1
  have c1 := areas ht h3 hp hq hc
  unfold grP
  rw [a1, b1]
  omega
/-- a cut along an outcome is one that can be made -/
theorem grain_split {s : SV} {x1 z1 x2 z2 er : Int} (hv : Vld s) (h10 : s.l.length ≤ 10) (h16 : s.nm.size ≠ 16) (hp : IsP s.l x1 z1) (hq : IsP s.l x2 z2) (hc : CanC s.l x1 z1 x2 z2) (h : SplE s (x1, z1) (x2, z2) er) : er = 0 := by
  rcases h with ⟨h, _⟩ | ⟨_, h, _⟩ | ⟨_, h, _⟩ | ⟨_, h, _⟩ | ⟨_, _, h⟩
  · exact absurd hv h
  · exact absurd ⟨hp, hq⟩ h
  · exact absurd hc h
  · have a := partL_len s.l (x2, z2) (x1, z1) (eo_isp hq) (eo_isp hp)
    have b := partL_len s.l (x1, z1) (x2, z2) (eo_isp hp) (eo_isp hq)
    rcases h with h | h | h
    · exact absurd h h16
    · omega
    · omega
  · exact h
end Go.Proofs.Ytljmhejljpfaiaa
namespace Go.Proofs.Ytljmhejljpfaiaa
set_option maxRecDepth 100000
open Go.RowKit Go.Shelf

/-! a region that cuts a stone in two: what its slots hold -/
theorem own_later {w w' : World} {base : Nat} {v : Value} {l : List Pt} (h : Own w base v l) (hb : Below w.heap.size w w') : Own w' base v l := by
  obtain ⟨h1, h2 | ⟨g, cap, cur, e1, hg0, hg, h3⟩⟩ := h
  · exact ⟨h1, .inl h2⟩
  · exact ⟨h1, .inr ⟨g, cap, cur, e1, hg0, (hb.block g (Array.getElem?_eq_some_iff.1 hg).1).trans hg, h3⟩⟩
/-- a store into a box of stones leaves rows of points -/
theorem own_st34 {w : World} {base T : Nat} {cur : Array Value} {v p0 p1 p2 p3 p4 p5 : Value} {l : List Pt} (h : Own w base v l) (hT : w.heap[T]? = some (.cells cur 34 (0, 0))) : Own ((((((w.setCell ⟨T, 0, none⟩ p0).setCell ⟨T, 1, none⟩ p1).setCell ⟨T, 2, none⟩ p2).setCell ⟨T, 3, none⟩ p3).setCell ⟨T, 4, none⟩ p4).setCell ⟨T, 5, none⟩ p5) base v l := by
  obtain ⟨h1, h2 | ⟨g, cap, cur', e1, hb, hg, h3⟩⟩ := h
  · exact ⟨h1, .inl h2⟩
  · refine ⟨h1, .inr ⟨g, cap, cur', e1, hb, blk6_far hg ?_, h3⟩⟩
    rintro rfl
    rw [hT] at hg
    cases hg
/-- a piece's value, its row of its own -/
def PcV (P : SV) (W : Nat) (v : Value) (w : World) : Prop := ∃ pa ma ca, v = .agg (c6 P.nm (.slice pa ma ca) P.dp P.dn P.gx P.gz) ∧ Own w W (.slice pa ma ca) P.l
theorem PcV.later {P : SV} {W : Nat} {v : Value} {w w' : World} (h : PcV P W v w) (hb : Below w.heap.size w w') : PcV P W v w' := by
  obtain ⟨pa, ma, ca, e, ho⟩ := h
  exact ⟨pa, ma, ca, e, own_later ho hb⟩
theorem PcV.base {P : SV} {W B : Nat} {v : Value} {w : World} (h : PcV P W v w) (hb : B ≤ W) : PcV P B v w := by
  obtain ⟨pa, ma, ca, e, ho⟩ := h
  exact ⟨pa, ma, ca, e, ho.base hb⟩
def kPc (P : SV) (W : Nat) : Kd := .c (fun v w => PcV P W v w) (fun _ _ _ h hb => h.later hb)
def kPq (PA PB : SV) (W : Nat) : Kd := .c (fun v w => ∃ a b, v = .tuple #[a, b, .int .i64 0] ∧ PcV PA W a w ∧ PcV PB W b w) (fun _ _ _ ⟨a, b, e, h1, h2⟩ hb => ⟨a, b, e, h1.later hb, h2.later hb⟩)
/-- the table: two boxes, the pair of pieces twice, each piece, all others known -/
def tabH (a1 a2 q1 q2 c1 c2 : Nat) (PA PB : SV) (vals : Nat → Value) (W d : Nat) : Kd :=
  if d = a1 then kP34 W else if d = a2 then kP34 W else if d = q1 then kPq PA PB W else if d = q2 then kPq PA PB W else if d = c1 then kPc PA W else if d = c2 then kPc PB W else .v (vals d)
set_option maxHeartbeats 4000000 in
theorem tabH_st {a1 a2 q1 q2 c1 c2 : Nat} {PA PB : SV} {vals : Nat → Value} {W T : Nat} {w : World} {n0 nm : ByteArray} {v0 u : Value} {a0 b0 e0 d0 dp dn gx gz : Int} (h : w.heap[T]? = some (.cells (c6 n0 v0 a0 b0 e0 d0) 34 (0, 0))) (d : Nat) (v : Value) (hk : kd (tabH a1 a2 q1 q2 c1 c2 PA PB vals W d) v w) :
    kd (tabH a1 a2 q1 q2 c1 c2 PA PB vals W d) v ((((((w.setCell ⟨T, 0, none⟩ (.string nm)).setCell ⟨T, 1, none⟩ u).setCell ⟨T, 2, none⟩ (.int .i64 dp)).setCell ⟨T, 3, none⟩ (.int .i64 dn)).setCell ⟨T, 4, none⟩ (.int .i64 gx)).setCell ⟨T, 5, none⟩ (.int .i64 gz)) := by
  have kp : ∀ v, kd (kP34 W) v w → kd (kP34 W) v ((((((w.setCell ⟨T, 0, none⟩ (.string nm)).setCell ⟨T, 1, none⟩ u).setCell ⟨T, 2, none⟩ (.int .i64 dp)).setCell ⟨T, 3, none⟩ (.int .i64 dn)).setCell ⟨T, 4, none⟩ (.int .i64 gx)).setCell ⟨T, 5, none⟩ (.int .i64 gz)) := by
    rintro v ⟨C, h1, h2, n, y, a, b, c, e, h3⟩
    by_cases eq : C = T
    · subst eq; exact ⟨C, h1, h2, nm, u, dp, dn, gx, gz, blk34_st (v := u) h3⟩
    · exact ⟨C, h1, h2, n, y, a, b, c, e, blk6_far h3 eq⟩
  have kc : ∀ (P : SV) v, PcV P W v w → PcV P W v ((((((w.setCell ⟨T, 0, none⟩ (.string nm)).setCell ⟨T, 1, none⟩ u).setCell ⟨T, 2, none⟩ (.int .i64 dp)).setCell ⟨T, 3, none⟩ (.int .i64 dn)).setCell ⟨T, 4, none⟩ (.int .i64 gx)).setCell ⟨T, 5, none⟩ (.int .i64 gz)) := by
    rintro P v ⟨pa, ma, ca, e, ho⟩
    exact ⟨pa, ma, ca, e, own_st34 ho h⟩
  generalize hw : (((((w.setCell ⟨T, 0, none⟩ (.string nm)).setCell ⟨T, 1, none⟩ u).setCell ⟨T, 2, none⟩ (.int .i64 dp)).setCell ⟨T, 3, none⟩ (.int .i64 dn)).setCell ⟨T, 4, none⟩ (.int .i64 gx)).setCell ⟨T, 5, none⟩ (.int .i64 gz) = w' at *
  clear hw
  unfold tabH at hk ⊢
  split at hk
  · rw [if_pos ‹_›]; exact kp v hk
  · rw [if_neg ‹_›]
    split at hk
    · rw [if_pos ‹_›]; exact kp v hk
    · rw [if_neg ‹_›]
      split at hk
      · rw [if_pos ‹_›]
        obtain ⟨a, b, e, p1, p2⟩ := hk
        exact ⟨a, b, e, kc _ _ p1, kc _ _ p2⟩
      · rw [if_neg ‹_›]
        split at hk
        · rw [if_pos ‹_›]
          obtain ⟨a, b, e, p1, p2⟩ := hk
          exact ⟨a, b, e, kc _ _ p1, kc _ _ p2⟩
        · rw [if_neg ‹_›]
          split at hk
          · rw [if_pos ‹_›]; exact kc _ _ hk
          · rw [if_neg ‹_›]
            split at hk
            · rw [if_pos ‹_›]; exact kc _ _ hk
            · rw [if_neg ‹_›]; exact hk
/-- a store of a stone into a box: the world behind it, by what is known of it -/
theorem OpR.st34 {o : Oper} {a : Act} {t x : Operand} {T : Nat} {n0 nm : ByteArray} {v0 : Value} {q : Option Addr} {m cp : Nat} {a0 b0 e0 d0 dp dn gx gz : Int} {w w0 : World} {R : Value → World → Prop} (ho : o.op = .store 34 t x) (he : a.eval t = .pointer (some ⟨T, 0, none⟩)) (hx : a.eval x = .agg (c6 nm (.slice q m cp) dp dn gx gz)) (h : w.heap[T]? = some (.cells (c6 n0 v0 a0 b0 e0 d0) 34 (0, 0)))
    (hB : Below w0.heap.size w0 w) (hW : w0.heap.size ≤ T)
    (hR : ∀ w', Below w0.heap.size w0 w' → w'.heap[T]? = some (.cells (c6 nm (.slice q m cp) dp dn gx gz) 34 (0, 0)) → (∀ C ob, w.heap[C]? = some ob → C ≠ T → w'.heap[C]? = some ob) → (∀ base v l, Own w base v l → Own w' base v l) →
      (∀ a1 a2 q1 q2 c1 c2 PA PB vals W d v, kd (tabH a1 a2 q1 q2 c1 c2 PA PB vals W d) v w → kd (tabH a1 a2 q1 q2 c1 c2 PA PB vals W d) v w') → w.heap.size ≤ w'.heap.size → R undef w') : OpR Try.prog o a w R :=
  .inr (.inl ⟨_, rn_store34 ho he hx h, hR _ (below6 hB hW _ _ _ _ _ _) (blk34_st h) (fun _ _ hc hn => blk6_far hc hn) (fun _ _ _ hO => own_st34 hO h) (fun _ _ _ _ _ _ _ _ _ _ d v hk => tabH_st h d v hk) (by simp [World.setCell])⟩)
end Go.Proofs.Ytljmhejljpfaiaa
namespace Go.Proofs.Ytljmhejljpfaiaa
set_option maxRecDepth 100000
open Go.RowKit Go.Shelf

/-! StoneGrain -/
/-- a row that is somewhere, if it has a point -/
def RwQ (W : World) (pp : Option Addr) (Q : List Pt) : Prop := 0 < Q.length → ∃ g, pp = some ⟨g, 0, none⟩ ∧ Row W g 0 Q
theorem RwQ.keep {W W' : World} {pp : Option Addr} {Q : List Pt} (h : RwQ W pp Q) (k : Below W.heap.size W W') : RwQ W' pp Q := fun h0 => by
  obtain ⟨g, e, hr⟩ := h h0
  exact ⟨g, e, hr.keep k⟩
theorem outq_any (s : SV) (v : Value) (x z t : Int) (w : World) (hn : s.nm.size ≤ maxLen) (h : Pts w v s.l) (hv : Vld s) (hp : IsP s.l x z) (ht : 0 ≤ t ∧ t ≤ 100) :
    Calls Try.prog 37 #[stv s v, .agg #[.int .i64 x, .int .i64 z], .int .i64 t] w fun e w' => (∃ pp cc, e = .returned (.tuple #[.slice pp (outc s.l s.gx s.gz (x, z) t).length cc, .int .i64 0]) ∧ RwQ w' pp (outc s.l s.gx s.gz (x, z) t)) ∧ Below w.heap.size w w' :=
  (outcomes_any s v x z t w hn h).mono fun e w' ⟨⟨v', er, he, _, hb, ho⟩, hk⟩ => ⟨by
    have h0 : er = 0 := blowE_one hb (.inr (.inr (.inr ⟨⟨hv, hp⟩, ht, rfl⟩)))
    subst h0
    rcases ho with ⟨_, ho⟩ | ⟨ho, _⟩
    · rcases ho.row with ⟨rfl, h0⟩ | ⟨g, cc, rfl, hr, _⟩
      · exact ⟨none, 0, by rw [he, h0]; rfl, fun q => by rw [h0] at q; simp at q⟩
      · exact ⟨_, cc, he, fun _ => ⟨g, rfl, hr⟩⟩
    · exact absurd rfl ho, hk⟩
theorem sureq_any (s : SV) (v : Value) (x z t : Int) (w : World) (hn : s.nm.size ≤ maxLen) (h : Pts w v s.l) (hv : Vld s) (hp : IsP s.l x z) (ht : 0 ≤ t ∧ t ≤ 100) :
    Calls Try.prog 38 #[stv s v, .agg #[.int .i64 x, .int .i64 z], .int .i64 t] w fun e w' => (∃ nn er, e = .returned (.tuple #[.int .i64 nn, .int .i64 er]) ∧ (((outc s.l s.gx s.gz (x, z) t).length = 0 ∧ er = 8) ∨ (0 < (outc s.l s.gx s.gz (x, z) t).length ∧ er = 0 ∧ ∀ k, k < (outc s.l s.gx s.gz (x, z) t).length → nn ≤ grP s.l (x, z) (px (outc s.l s.gx s.gz (x, z) t) k, pz (outc s.l s.gx s.gz (x, z) t) k)))) ∧ Below w.heap.size w w' :=
  (sure_any s v x z t w hn h).mono fun e w' ⟨⟨nn, er0, er, he, hb, ho⟩, hk⟩ => ⟨by
    have h0 : er0 = 0 := blowE_one hb (.inr (.inr (.inr ⟨⟨hv, hp⟩, ht, rfl⟩)))
    subst h0
    refine ⟨nn, er, he, ?_⟩
    rcases ho with ⟨ho, _⟩ | ⟨_, ho, h8, _⟩ | ⟨_, ho, h0, h1⟩
    · exact absurd rfl ho
    · exact .inl ⟨by rw [ho]; rfl, h8⟩
    · refine .inr ⟨?_, h0, fun k hk => by rw [h1]; exact sur_le (grP_nn hv.2.1.tr _) _ _ hk⟩
      exact List.length_pos_iff.2 ho, hk⟩
theorem ans_twice {s : SV} {v : Value} {w : World} (hn : s.nm.size ≤ maxLen) (h : Pts w v s.l) (hv : Vld s) : Ans 18 #[stv s v] w (.tuple #[.int .i64 (tw s.l), .int .i64 0]) := fun W k =>
  (twiceF_any s v W hn (h.keep k)).mono fun e w' ⟨⟨r, x, he, hx⟩, hb⟩ => ⟨by
    rcases hx with ⟨_, rfl, rfl⟩ | ⟨hx, _⟩
    · exact he
    · exact absurd hv hx, hb⟩
theorem PcV.ans {P : SV} {W : Nat} {v : Value} {w : World} (h : PcV P W v w) (hv : Vld P) : Ans 18 #[v] w (.tuple #[.int .i64 (tw P.l), .int .i64 0]) := by
  obtain ⟨pa, ma, ca, rfl, ho⟩ := h
  have n1 : P.nm.size ≤ maxLen := by have := hv.1.1; unfold maxLen; omega
  exact ans_twice n1 (ho.pts (by have := hv.2.1.1.2; exact Nat.le_trans this (by omega))) hv
/-- a cut along an outcome -/
theorem cutq_any (s : SV) (x1 z1 x2 z2 : Int) (hn : s.nm.size ≤ maxLen) (hv : Vld s) (h10 : s.l.length ≤ 10) (h16 : s.nm.size ≠ 16) (hp : IsP s.l x1 z1) (hq : IsP s.l x2 z2) (hc : CanC s.l x1 z1 x2 z2) :
    ∃ PA PB TA TB, (∀ W a m, Pts W (.slice a s.l.length m) s.l → Calls Try.prog 35 #[stv s (.slice a s.l.length m), .agg #[.int .i64 x1, .int .i64 z1], .agg #[.int .i64 x2, .int .i64 z2]] W fun e w' => (∃ a b, e = .returned (.tuple #[a, b, .int .i64 0]) ∧ PcV PA W.heap.size a w' ∧ PcV PB W.heap.size b w') ∧ Below W.heap.size W w') ∧
      (∀ W v B, PcV PA B v W → Ans 18 #[v] W (.tuple #[.int .i64 TA, .int .i64 0])) ∧ (∀ W v B, PcV PB B v W → Ans 18 #[v] W (.tuple #[.int .i64 TB, .int .i64 0])) ∧ max TA TB = grP s.l (x1, z1) (x2, z2) := by
  have hE : SplE s (x1, z1) (x2, z2) 0 := by
    refine .inr (.inr (.inr (.inr ⟨⟨⟨hv, hp, hq⟩, hc⟩, ?_, rfl⟩)))
    have a := partL_len s.l (x2, z2) (x1, z1) (eo_isp hq) (eo_isp hp)
    have b := partL_len s.l (x1, z1) (x2, z2) (eo_isp hp) (eo_isp hq)
    rintro (h | h | h)
    · exact h16 h
    · omega
    · omega
  obtain ⟨va, vb, _, _⟩ := pieces_vld hE
  refine ⟨pieceS s lta (partL s.l (x2, z2) (x1, z1)), pieceS s ltb (partL s.l (x1, z1) (x2, z2)), _, _, fun W p c h => ?_, fun W v B h => h.ans va, fun W v B h => h.ans vb, grain_tw (p := (x1, z1)) (q := (x2, z2)) hv.2.1.tr hv.2.1.1.1 hp hq hc⟩
  refine (splith_any s p c x1 z1 x2 z2 W hn h).mono fun e w' ⟨⟨na, pa, ma, ca, da, ea, ga, ha, nb, pb, mb, cb, db, eb, gb, ib, er, he, hE2, _, hO⟩, hk⟩ => ⟨?_, hk⟩
  have h0 := grain_split hv h10 h16 hp hq hc hE2
  subst h0
  obtain ⟨⟨eA, oA⟩, eB, oB⟩ := hO rfl
  exact ⟨_, _, he, ⟨pa, ma, ca, eA, oA⟩, ⟨pb, mb, cb, eB, oB⟩⟩
def D34g (t : Nat) : Bool := Nat.beq t 27 || Nat.beq t 28 || Nat.beq t 29 || (Nat.ble 212 t && Nat.ble t 222)
def al34g (t : Nat) : Bool := Nat.beq t 27 || Nat.beq t 28
def vals34 (st : Value) (x z : Int) (g nA cp m : Nat) (qx qz : Int) (d : Nat) : Value :=
  if d = 29 then .int .i64 0 else
  [undef, st, .agg #[.int .i64 x, .int .i64 z], .slice (some ⟨g, 0, none⟩) nA cp, .int .i64 m, .pointer (some ⟨g, 0 + m * 2, none⟩), .agg #[.int .i64 qx, .int .i64 qz], undef, undef, undef, .int .i64 0].getD (d - 212) undef
set_option maxHeartbeats 16000000 in
theorem grainL_any (s : SV) (p : Option Addr) (c : Nat) (i : Int) (a b : Nat) (ha : a < 256) (hb : b < 256) (w : World) (hn : s.nm.size ≤ maxLen) (hlm : s.l.length ≤ maxLen) (h : s.l.length ≤ 1000000 → Pts w (.slice p s.l.length c) s.l) : Calls Try.prog 13 #[stv s (.slice p s.l.length c), .int .i64 i, .int .u8 a, .int .u8 b] w (PT w) := by
  have HV := Lib.hid (fun W (k : Below w.heap.size w W) (hm : s.l.length ≤ 1000000) => validv_any s (.slice p s.l.length c) W hn ((h hm).keep k))
  have HS := Lib.hid (fun W (k : Below w.heap.size w W) (hm : s.l.length ≤ 1000000) => stonev_any s (.slice p s.l.length c) W ((h hm).keep k) hm)
  have HBD : Hid (∀ W v, Vld s → Pts W v s.l → Calls Try.prog 32 #[stv s v] W fun e w' => (∃ g cp, e = .returned (.tuple #[.slice (some ⟨g, 0, none⟩) (bp s.l).length cp, .int .i64 0]) ∧ Row w' g 0 (bp s.l)) ∧ Below W.heap.size W w') := fun W v hv hp => (border_any s v W hn hp).mono fun e w' ⟨⟨r, x, he, _, hx⟩, hb⟩ => ⟨by
    rcases hx with ⟨_, rfl, ho⟩ | ⟨hx, _⟩
    · rcases ho.row with ⟨_, h0⟩ | ⟨g, cp, rfl, hr, _, _⟩
      · have := bp_pos hv.2.1.tr hv.2.1.1.1; rw [h0] at this; simp at this
      · exact ⟨g, cp, he, hr⟩
    · exact absurd hv hx, hb⟩
  have HN : Hid (Vld s → 0 < (bp s.l).length ∧ (bp s.l).length ≤ 24000) := fun hv => ⟨bp_pos hv.2.1.tr hv.2.1.1.1, bp_len3 hv.2.1⟩
  have HIP : Hid (Vld s → ∀ j, j < (bp s.l).length → IsP s.l (px (bp s.l) j) (pz (bp s.l) j)) := fun hv j hj => (bp_mem hv.2.1.tr hv.2.1.1.1 _).1 (px_mem hj)
  have HHI : Hid (∀ W, Below w.heap.size w W → Vld s → s.l.length ≤ 1000000 → Calls Try.prog 25 #[.slice p s.l.length c] W fun e w' => e = .returned (.agg #[.int .i64 (mxx s.l s.l.length), .int .i64 (mxz s.l s.l.length)]) ∧ Below W.heap.size W w') := fun W k hv hm => by
    have h3 := hv.2.1.1
    obtain ⟨b, o, c', hpe, hrow⟩ := ((h hm).keep k).some (by omega)
    cases hpe
    exact high_any b o c s.l W hrow (by omega) (by omega)
  have HOU : Hid (∀ W v x z t, Pts W v s.l → Vld s → IsP s.l x z → (0 ≤ t ∧ t ≤ 100) → Calls Try.prog 37 #[stv s v, .agg #[.int .i64 x, .int .i64 z], .int .i64 t] W fun e w' => (∃ pp cc, e = .returned (.tuple #[.slice pp (outc s.l s.gx s.gz (x, z) t).length cc, .int .i64 0]) ∧ RwQ w' pp (outc s.l s.gx s.gz (x, z) t)) ∧ Below W.heap.size W w') := fun W v x z t hp hv hi ht => outq_any s v x z t W hn hp hv hi ht
  have HSU : Hid (∀ W v x z t, Pts W v s.l → Vld s → IsP s.l x z → (0 ≤ t ∧ t ≤ 100) → Calls Try.prog 38 #[stv s v, .agg #[.int .i64 x, .int .i64 z], .int .i64 t] W fun e w' => (∃ nn er, e = .returned (.tuple #[.int .i64 nn, .int .i64 er]) ∧ (((outc s.l s.gx s.gz (x, z) t).length = 0 ∧ er = 8) ∨ (0 < (outc s.l s.gx s.gz (x, z) t).length ∧ er = 0 ∧ ∀ k, k < (outc s.l s.gx s.gz (x, z) t).length → nn ≤ grP s.l (x, z) (px (outc s.l s.gx s.gz (x, z) t) k, pz (outc s.l s.gx s.gz (x, z) t) k)))) ∧ Below W.heap.size W w') := fun W v x z t hp hv hi ht => sureq_any s v x z t W hn hp hv hi ht
  have HSP : Hid (∀ x1 z1 t k, Vld s → s.l.length ≤ 10 → s.nm.size ≠ 16 → IsP s.l x1 z1 → k < (outc s.l s.gx s.gz (x1, z1) t).length → ∃ PA PB TA TB, (∀ W a m, Pts W (.slice a s.l.length m) s.l → Calls Try.prog 35 #[stv s (.slice a s.l.length m), .agg #[.int .i64 x1, .int .i64 z1], .agg #[.int .i64 (px (outc s.l s.gx s.gz (x1, z1) t) k), .int .i64 (pz (outc s.l s.gx s.gz (x1, z1) t) k)]] W fun e w' => (∃ a b, e = .returned (.tuple #[a, b, .int .i64 0]) ∧ PcV PA W.heap.size a w' ∧ PcV PB W.heap.size b w') ∧ Below W.heap.size W w') ∧
      (∀ W v B, PcV PA B v W → Ans 18 #[v] W (.tuple #[.int .i64 TA, .int .i64 0])) ∧ (∀ W v B, PcV PB B v W → Ans 18 #[v] W (.tuple #[.int .i64 TB, .int .i64 0])) ∧ max TA TB = grP s.l (x1, z1) (px (outc s.l s.gx s.gz (x1, z1) t) k, pz (outc s.l s.gx s.gz (x1, z1) t) k)) := fun x1 z1 t k hv h10 h16 hi hk => by
    obtain ⟨i2, c2⟩ := outc_mem hv.2.1.tr hv.2.1.1.1 hi (px_mem hk)
    exact cutq_any s x1 z1 _ _ hn hv h10 h16 hi i2 c2
  have HOL : Hid (∀ x z t, Vld s → IsP s.l x z → (outc s.l s.gx s.gz (x, z) t).length ≤ 24000) := fun x z t hv hi => outc_len hv.2.1.tr hv.2.1.1.1 hv.2.1.1.2 hv.2.1.2.1 hi
  have HQB : Hid (∀ x z t k, Vld s → IsP s.l x z → k < (outc s.l s.gx s.gz (x, z) t).length → ((0 ≤ px (outc s.l s.gx s.gz (x, z) t) k ∧ px (outc s.l s.gx s.gz (x, z) t) k ≤ 2000) ∧ (0 ≤ pz (outc s.l s.gx s.gz (x, z) t) k ∧ pz (outc s.l s.gx s.gz (x, z) t) k ≤ 2000)) ∧ ((0 ≤ x ∧ x ≤ 2000) ∧ (0 ≤ z ∧ z ≤ 2000)) ∧ ((-100 ≤ s.gx ∧ s.gx ≤ 100) ∧ (-100 ≤ s.gz ∧ s.gz ≤ 100))) := fun x z t k hv hi hk => by
    obtain ⟨i2, _⟩ := outc_mem hv.2.1.tr hv.2.1.1.1 hi (px_mem hk)
    exact ⟨i2.bd hv.2.1.2.1, hi.bd hv.2.1.2.1, hv.2.2.2.2.2⟩
  have HQ0 : Hid (∀ x z k, k < (outc s.l s.gx s.gz (x, z) 0).length → (px (outc s.l s.gx s.gz (x, z) 0) k - x) * s.gz = (pz (outc s.l s.gx s.gz (x, z) 0) k - z) * s.gx) := fun x z k hk => outc_zero (px_mem hk)
  have HSB : Hid (∀ x z t u, t ≤ u → SubI (outc s.l s.gx s.gz (x, z) t) (outc s.l s.gx s.gz (x, z) u) 0 0) := fun x z t u ht => outc_sub s.l s.gx s.gz (x, z) ht
  have hn1 := hn
  obtain ⟨nm, l, dp, dn, gx, gz⟩ := s
  have HSL : Hid (∀ (W : World) (base : Nat) (v : Value), Own W base v l → ∃ a m, v = .slice a l.length m) := fun W base v h => by
    rcases h.row with ⟨rfl, h0⟩ | ⟨g, c, h1, _⟩
    · exact ⟨none, 0, by rw [h0]; rfl⟩
    · exact ⟨_, _, h1⟩
  unfold maxLen at hn1 hlm
  unfold stv at *
  dsimp only at *
  have HP : Hid (∀ (W W' : World) (base : Nat) (v : Value), l.length ≤ 1000000 → Own W base v l → Below W.heap.size W W' → Pts W' v l) := fun W W' base v hb h k => (h.pts (by omega)).keep k
  clear h hn
  generalize hVe : Vld ⟨nm, l, dp, dn, gx, gz⟩ = V at *
  clear hVe
  generalize mxx l l.length = MX at *
  generalize mxz l l.length = MZ at *
  generalize bp l = L at *
  obtain ⟨n, hnn⟩ : ∃ n, n = l.length := ⟨_, rfl⟩
  rw [← hnn] at hlm HV HS HHI HSP HSL HP ⊢
  clear hnn
  obtain ⟨N, hNN⟩ : ∃ N, N = L.length := ⟨_, rfl⟩
  have HRL : Hid (∀ W g, Row W g 0 L → ∀ j, j < N → W.cell? ⟨g, 0 + j * 2, none⟩ = some (.int .i64 (px L j)) ∧ W.cell? ⟨g, 0 + j * 2 + 1, none⟩ = some (.int .i64 (pz L j))) := fun W g hr j hj => hr j (by rw [← hNN]; exact hj)
  rw [← hNN] at HBD HN HIP
  clear hNN
  obtain ⟨lo, hlo⟩ : ∃ lo, lo = a % 101 := ⟨_, rfl⟩
  obtain ⟨mo, hmo⟩ : ∃ mo, mo = b % 50 := ⟨_, rfl⟩
  have ea : (a : Int) % 101 = (lo : Int) := by omega
  have eb : (b : Int) % 50 = (mo : Int) := by omega
  have hlo8 : lo ≤ 100 := by omega
  have hmo8 : mo < 50 := by omega
  have ww1 := IntWalk.i64_in (lo : Int) (by omega)
  have ww2 := IntWalk.i64_in (mo : Int) (by omega)
  have ww3 := IntWalk.i64_in ((lo : Int) + (mo : Int)) (by omega)
  clear hlo hmo
  obtain ⟨wx, hwx⟩ : ∃ wx, wx = w.alloc (.cells (c6 nm (.slice p n c) dp dn gx gz) 26) := ⟨_, rfl⟩
  have k1 : Below w.heap.size w wx := by rw [hwx]; exact bl1 w (.cells (c6 nm (.slice p n c) dp dn gx gz) 26)
  have b1 : Blk w.heap.size (c6 nm (.slice p n c) dp dn gx gz) 26 wx := by rw [hwx]; exact Blk.new w _ 26
  have HB1 : Hid (∀ W, Below wx.heap.size wx W → Blk w.heap.size (c6 nm (.slice p n c) dp dn gx gz) 26 W ∧ Below w.heap.size w W) := fun W k => ⟨b1.below k, Below.thru k1 k1.size k⟩
  have K1 := Lib.hid k1
  have HWX := Lib.hid hwx
  have s0 := b1.cell (i := 0) rfl; have s1 := b1.cell (i := 1) rfl; have s2 := b1.cell (i := 2) rfl; have s3 := b1.cell (i := 3) rfl; have s4 := b1.cell (i := 4) rfl; have s5 := b1.cell (i := 5) rfl
  clear b1 k1 hwx
  go_enter Try.func13, Try.ntmps13
  go_upto_region 1 with fail
  rw [← HWX.out]
  go_cut [68] (fun cc wc => ∃ bb : Bool, cc = .bool bb ∧ Hid (bb = true ∨ (n ≤ 10 ∧ nm.size ≠ 16 ∧ V)) ∧ Hid (Below wx.heap.size wx wc))
  case first =>
    rename_i J K' hJ hK
    by_cases h20 : 20 < n
    · go_wp2
      all_goals
        refine Met.intro (hJ _ _ ?_)
        (repeat apply Exists.intro)
        exact ⟨⟨_, rfl, .inl rfl, Below.refl _ _⟩, rfl⟩
    · go_wp2_with fail
      refine (HV.out _ K1.out (by omega)).mono ?_
      rintro e w2 ⟨⟨bv, rfl, hbv⟩, hb2⟩
      have K2 := Lib.hid hb2
      have HBV := Lib.hid hbv
      clear hb2 hbv s0 s1 s2 s3 s4 s5
      cases bv with
      | false =>
        go_wp2
        all_goals
          refine Met.intro (hJ _ _ ?_)
          (repeat apply Exists.intro)
          exact ⟨⟨_, rfl, .inl rfl, K2.out⟩, rfl⟩
      | true =>
        have HV1 : Hid V := HBV.out.1 rfl
        have s1 := (HB1.out _ K2.out).1.cell (i := 1) rfl
        have hf0 := fun W => field24_0 (.int .i64 MX) (.int .i64 MZ) W
        have hf1 := fun W => field24_1 (.int .i64 MX) (.int .i64 MZ) W
        go_wp2_with fail
        refine (HHI.out _ (HB1.out _ K2.out).2 HV1.out (by omega)).mono ?_
        rintro e w3 ⟨rfl, hb3⟩
        have K3 := Lib.hid (Below.thru K2.out K2.out.size hb3)
        clear hb3 s1
        by_cases g1 : 200 < MX
        · go_wp2
          all_goals
            refine Met.intro (hJ _ _ ?_)
            (repeat apply Exists.intro)
            exact ⟨⟨_, rfl, .inl rfl, K3.out⟩, rfl⟩
        · have s1 := (HB1.out _ K3.out).1.cell (i := 1) rfl
          go_wp2_with fail
          refine (HHI.out _ (HB1.out _ K3.out).2 HV1.out (by omega)).mono ?_
          rintro e w4 ⟨rfl, hb4⟩
          have K4 := Lib.hid (Below.thru K3.out K3.out.size hb4)
          clear hb4 s1
          by_cases g2 : 200 < MZ
          · go_wp2
            all_goals
              refine Met.intro (hJ _ _ ?_)
              (repeat apply Exists.intro)
              exact ⟨⟨_, rfl, .inl rfl, K4.out⟩, rfl⟩
          · have s0 := (HB1.out _ K4.out).1.cell (i := 0) rfl
            have s1 := (HB1.out _ K4.out).1.cell (i := 1) rfl
            by_cases g3 : nm.size = 16
            · go_wp2
              all_goals
                refine Met.intro (hJ _ _ ?_)
                (repeat apply Exists.intro)
                exact ⟨⟨_, rfl, .inl (by first | rfl | (simp; omega)), K4.out⟩, rfl⟩
            · have g3' : ¬ (nm.size : Int) = 16 := by omega
              by_cases g4 : 10 < n
              · go_wp2
                all_goals
                  refine Met.intro (hJ _ _ ?_)
                  (repeat apply Exists.intro)
                  exact ⟨⟨_, rfl, .inl (by first | rfl | (simp; omega)), K4.out⟩, rfl⟩
              · go_wp2
                all_goals
                  refine Met.intro (hJ _ _ ?_)
                  (repeat apply Exists.intro)
                  exact ⟨⟨_, rfl, .inr ⟨by omega, g3, HV1.out⟩, K4.out⟩, rfl⟩
  obtain ⟨bb, rfl, HBB, HWC⟩ := hcut
  clear HHI HWX s0 s1 s2 s3 s4 s5
  cases bb with
  | true =>
    go_wp2_with fail
    refine (wakes_any _).mono ?_
    rintro e wd ⟨rfl, hbd⟩
    have k8 := (HB1.out _ (Below.thru HWC.out HWC.out.size hbd)).2
    clear hbd
    go_wp2
    go_ret
    exact ⟨rfl, k8⟩
  | false =>
    obtain ⟨h10, h16, hV1⟩ : n ≤ 10 ∧ nm.size ≠ 16 ∧ V := HBB.out.elim (fun h => by cases h) id
    have HV1 := Lib.hid hV1; have H16 := Lib.hid h16
    clear hV1 h16 HBB
    have qc := HB1.out _ HWC.out
    have KW := Lib.hid qc.2
    have s0 := qc.1.cell (i := 0) rfl; have s1 := qc.1.cell (i := 1) rfl; have s2 := qc.1.cell (i := 2) rfl; have s3 := qc.1.cell (i := 3) rfl; have s4 := qc.1.cell (i := 4) rfl; have s5 := qc.1.cell (i := 5) rfl
    go_wp2_with fail
    refine (HS.out _ KW.out (by omega)).mono ?_
    rintro e w2 ⟨⟨v5, rfl, ho5⟩, hb2⟩
    have K2 := Lib.hid (Below.thru HWC.out HWC.out.size hb2)
    obtain ⟨a5, c5, rfl⟩ := HSL.out _ _ _ ho5
    have HO5 := Lib.hid ho5
    clear hb2 ho5 qc s0 s1 s2 s3 s4 s5
    obtain ⟨w3, hw3⟩ : ∃ w3, w3 = w2.alloc (.cells (c6 nm (.slice a5 n c5) dp dn gx gz) 34) := ⟨_, rfl⟩
    have hb3 : Below w2.heap.size w2 w3 := by rw [hw3]; exact bl1 w2 _
    have K3 := Lib.hid (Below.thru K2.out K2.out.size hb3)
    have b7 : Blk w2.heap.size (c6 nm (.slice a5 n c5) dp dn gx gz) 34 w3 := by rw [hw3]; exact Blk.new _ _ _
    have HP5 := Lib.hid (HP.out _ _ _ _ (by omega) HO5.out hb3)
    have HB3 : Hid (∀ W, Below w3.heap.size w3 W → (Blk w.heap.size (c6 nm (.slice p n c) dp dn gx gz) 26 W ∧ Blk w2.heap.size (c6 nm (.slice a5 n c5) dp dn gx gz) 34 W) ∧ Below w.heap.size w W) := fun W k => by
      have q := HB1.out _ (Below.thru K3.out K3.out.size k)
      exact ⟨⟨q.1, b7.below k⟩, q.2⟩
    have HW3 := Lib.hid hw3
    have s0 := b7.cell (i := 0) rfl; have s1 := b7.cell (i := 1) rfl; have s2 := b7.cell (i := 2) rfl; have s3 := b7.cell (i := 3) rfl; have s4 := b7.cell (i := 4) rfl; have s5 := b7.cell (i := 5) rfl
    rw [hw3] at s0 s1 s2 s3 s4 s5
    clear hw3 b7 hb3
    go_wp2_with fail
    rw [← HW3.out]
    clear s0 s1 s2 s3 s4 s5
    refine (HBD.out w3 _ HV1.out HP5.out).mono ?_
    rintro e w4 ⟨⟨g, cp, rfl, hrow⟩, hb4⟩
    have KW4 := Lib.hid hb4
    obtain ⟨hN, hN24⟩ := HN.out HV1.out
    obtain ⟨ui, m1, hui, hr1, hm1, hw1⟩ := uidx i hN hN24
    have huN : IntKind.u64.wrap (N : Int) = (N : Int) := by rw [IntKind.wrap_u64]; omega
    have hN0 : ¬ (N : Int) = 0 := by omega
    have hN1 : ¬ N = 0 := by omega
    have HI1 := Lib.hid (HIP.out HV1.out m1 hm1)
    obtain ⟨ckx, ckz⟩ := HRL.out w4 g hrow m1 hm1
    simp only [Nat.zero_add] at ckx ckz
    generalize px L m1 = x at *
    generalize pz L m1 = z at *
    have q4 := HB3.out _ KW4.out
    have s0 := q4.1.2.cell (i := 0) rfl; have s1 := q4.1.2.cell (i := 1) rfl; have s2 := q4.1.2.cell (i := 2) rfl; have s3 := q4.1.2.cell (i := 3) rfl; have s4 := q4.1.2.cell (i := 4) rfl; have s5 := q4.1.2.cell (i := 5) rfl
    obtain ⟨w5, hw5⟩ : ∃ w5, w5 = w4.alloc (.cells #[.int .i64 x, .int .i64 z] 32) := ⟨_, rfl⟩
    have hb5 : Below w4.heap.size w4 w5 := by rw [hw5]; exact bl1 w4 _
    have b12 : Blk w4.heap.size #[.int .i64 x, .int .i64 z] 32 w5 := by rw [hw5]; exact Blk.new _ _ _
    have HB5 : Hid (∀ W, Below w5.heap.size w5 W → ((Blk w.heap.size (c6 nm (.slice p n c) dp dn gx gz) 26 W ∧ Blk w2.heap.size (c6 nm (.slice a5 n c5) dp dn gx gz) 34 W) ∧ Blk w4.heap.size #[.int .i64 x, .int .i64 z] 32 W) ∧ Below w.heap.size w W ∧ Below w3.heap.size w3 W) := fun W k => by
      have kk := Below.thru KW4.out KW4.out.size (Below.thru hb5 hb5.size k)
      have q := HB3.out _ kk
      exact ⟨⟨q.1, b12.below k⟩, q.2, kk⟩
    have HW5 := Lib.hid hw5
    have q5 := HB5.out _ (Below.refl _ _)
    have HP5' := Lib.hid (HP5.out.keep q5.2.2)
    clear s0 s1 s2 s3 s4 s5
    have s0 := q5.1.1.2.cell (i := 0) rfl; have s1 := q5.1.1.2.cell (i := 1) rfl; have s2 := q5.1.1.2.cell (i := 2) rfl; have s3 := q5.1.1.2.cell (i := 3) rfl; have s4 := q5.1.1.2.cell (i := 4) rfl; have s5 := q5.1.1.2.cell (i := 5) rfl
    have xc0 := q5.1.2.cell (i := 0) rfl; have xc1 := q5.1.2.cell (i := 1) rfl
    rw [hw5] at s0 s1 s2 s3 s4 s5 xc0 xc1
    clear hb4 hrow hb5 b12 q4 q5 hlm hn1
    go_upto_region 9 with fail
    rw [← hw5]
    rw [← hw5] at s0 s1 s2 s3 s4 s5 xc0 xc1
    clear hw5
    go_cut [14] (fun v wc => ∃ hi : Int, v = .int .i64 hi ∧ Hid ((lo : Int) ≤ hi ∧ hi ≤ 100) ∧ Hid (wc = w5))
    case first =>
      rename_i J K' hJ hK
      go_wp2
      all_goals
        refine Met.intro (hJ _ _ ?_)
        (repeat apply Exists.intro)
        exact ⟨⟨_, rfl, ⟨by omega, by omega⟩, rfl⟩, rfl⟩
    obtain ⟨hi, rfl, HHL, HWQ⟩ := hcut
    rw [HWQ.out]
    clear HWQ
    go_wp2_with fail
    refine (HOU.out w5 _ x z lo HP5'.out HV1.out HI1.out (by omega)).mono ?_
    rintro e w6 ⟨⟨ppa, cca, rfl, hqa⟩, hb6⟩
    have HQA := Lib.hid hqa
    have K6 := Lib.hid hb6
    have q6 := HB5.out _ K6.out
    clear hqa hb6 s0 s1 s2 s3 s4 s5 xc0 xc1
    have s0 := q6.1.1.2.cell (i := 0) rfl; have s1 := q6.1.1.2.cell (i := 1) rfl; have s2 := q6.1.1.2.cell (i := 2) rfl; have s3 := q6.1.1.2.cell (i := 3) rfl; have s4 := q6.1.1.2.cell (i := 4) rfl; have s5 := q6.1.1.2.cell (i := 5) rfl
    have xc0 := q6.1.2.cell (i := 0) rfl; have xc1 := q6.1.2.cell (i := 1) rfl
    clear q6
    go_wp2_with fail
    refine (HOU.out w6 _ x z hi (HP5'.out.keep K6.out) HV1.out HI1.out (by have := HHL.out; omega)).mono ?_
    rintro e w7 ⟨⟨ppb, ccb, rfl, hqb⟩, hb7⟩
    have HQB2 := Lib.hid hqb
    have K67 := Lib.hid hb7
    have K7 := Lib.hid (Below.thru K6.out K6.out.size hb7)
    have q7 := HB5.out _ K7.out
    clear hqb hb7 s0 s1 s2 s3 s4 s5 xc0 xc1
    have s0 := q7.1.1.2.cell (i := 0) rfl; have s1 := q7.1.1.2.cell (i := 1) rfl; have s2 := q7.1.1.2.cell (i := 2) rfl; have s3 := q7.1.1.2.cell (i := 3) rfl; have s4 := q7.1.1.2.cell (i := 4) rfl; have s5 := q7.1.1.2.cell (i := 5) rfl
    have xc0 := q7.1.2.cell (i := 0) rfl; have xc1 := q7.1.2.cell (i := 1) rfl
    clear q7
    go_wp2_with fail
    refine (HOU.out w7 _ x z 0 (HP5'.out.keep K7.out) HV1.out HI1.out (by omega)).mono ?_
    rintro e w8 ⟨⟨ppz, ccz, rfl, hqz⟩, hb8⟩
    have HRA := Lib.hid ((HQA.out.keep K67.out).keep hb8)
    have HRB := Lib.hid (HQB2.out.keep hb8)
    have HRZ := Lib.hid hqz
    have K8 := Lib.hid (Below.thru K7.out K7.out.size hb8)
    have HB8 : Hid (∀ W, Below w8.heap.size w8 W → ((Blk w.heap.size (c6 nm (.slice p n c) dp dn gx gz) 26 W ∧ Blk w2.heap.size (c6 nm (.slice a5 n c5) dp dn gx gz) 34 W) ∧ Blk w4.heap.size #[.int .i64 x, .int .i64 z] 32 W) ∧ Below w.heap.size w W ∧ Pts W (.slice a5 n c5) l) := fun W k => by
      have kk := Below.thru K8.out K8.out.size k
      have q := HB5.out _ kk
      exact ⟨q.1, q.2.1, HP5'.out.keep kk⟩
    have HSI := Lib.hid (HSB.out x z lo hi HHL.out.1)
    have HZ := Lib.hid (fun k hk => HQ0.out x z k hk)
    have HZB := Lib.hid (fun k hk => HQB.out x z 0 k HV1.out HI1.out hk)
    have HSU1 := Lib.hid (fun W v hp => HSU.out W v x z lo hp HV1.out HI1.out (by omega))
    have HSP1 := Lib.hid (fun k hk => HSP.out x z lo k HV1.out (by omega) H16.out HI1.out hk)
    have hLA := HOL.out x z lo HV1.out HI1.out
    have hLB := HOL.out x z hi HV1.out HI1.out
    have hLZ := HOL.out x z 0 HV1.out HI1.out
    clear hqz hb8 s0 s1 s2 s3 s4 s5 xc0 xc1 HSB HQ0 HQB HSU HSP HOL HOU HQA HQB2 K6 K67 K7 HBD HN HIP HRL HV HS HSL HP HB1 HB3 HB5 HW5 HW3 HHL ea eb ww1 ww2 ww3 hui hr1 hw1 huN ckx ckz
    generalize outc l gx gz (x, z) (lo : Int) = QA at *
    generalize outc l gx gz (x, z) hi = QB at *
    generalize outc l gx gz (x, z) 0 = QZ at *
    obtain ⟨nA, hnA⟩ : ∃ nA, nA = QA.length := ⟨_, rfl⟩
    obtain ⟨nB, hnB⟩ : ∃ nB, nB = QB.length := ⟨_, rfl⟩
    obtain ⟨nZ, hnZ⟩ : ∃ nZ, nZ = QZ.length := ⟨_, rfl⟩
    have HAC : Hid (∀ W k, Below w8.heap.size w8 W → k < nA → ∃ g, ppa = some ⟨g, 0, none⟩ ∧ W.cell? ⟨g, k * 2, none⟩ = some (.int .i64 (px QA k)) ∧ W.cell? ⟨g, k * 2 + 1, none⟩ = some (.int .i64 (pz QA k))) := fun W k kk hk => by
      obtain ⟨g, e, hr⟩ := (HRA.out.keep kk) (by omega)
      have := hr k (by omega)
      rw [Nat.zero_add] at this
      exact ⟨g, e, this⟩
    have HBC : Hid (∀ W k, Below w8.heap.size w8 W → k < nB → ∃ g, ppb = some ⟨g, 0, none⟩ ∧ W.cell? ⟨g, k * 2, none⟩ = some (.int .i64 (px QB k)) ∧ W.cell? ⟨g, k * 2 + 1, none⟩ = some (.int .i64 (pz QB k))) := fun W k kk hk => by
      obtain ⟨g, e, hr⟩ := (HRB.out.keep kk) (by omega)
      have := hr k (by omega)
      rw [Nat.zero_add] at this
      exact ⟨g, e, this⟩
    have HZC : Hid (∀ W k, Below w8.heap.size w8 W → k < nZ → ∃ g, ppz = some ⟨g, 0, none⟩ ∧ W.cell? ⟨g, k * 2, none⟩ = some (.int .i64 (px QZ k)) ∧ W.cell? ⟨g, k * 2 + 1, none⟩ = some (.int .i64 (pz QZ k))) := fun W k kk hk => by
      obtain ⟨g, e, hr⟩ := (HRZ.out.keep kk) (by omega)
      have := hr k (by omega)
      rw [Nat.zero_add] at this
      exact ⟨g, e, this⟩
    have HLT : Hid (∀ k j, SubI QA QB k j → k < nA → j < nB) := fun k j h hk => by have := h.lt (by omega); omega
    have HNX : Hid (∀ k j, SubI QA QB k j → k < nA → j < nB → ¬ (px QB j = px QA k ∧ pz QB j = pz QA k) → SubI QA QB k (j + 1)) := fun k j h hk hj hne => h.next (by omega) (by omega) hne
    have HST : Hid (∀ k j, SubI QA QB k j → k < nA → j < nB → SubI QA QB (k + 1) j) := fun k j h hk hj => h.step (by omega) (by omega)
    rw [← hnA] at hLA HSU1 HSP1 ⊢
    rw [← hnB] at hLB ⊢
    rw [← hnZ] at hLZ HZ HZB ⊢
    clear hnA hnB hnZ HRA HRB HRZ
    go_wp2
    go_loopw [21, 22] (fun u v wr => ∃ k j : Nat, k ≤ nA ∧ j ≤ nB ∧ u = .int .i64 j ∧ v = .int .i64 k ∧ Hid (SubI QA QB k j) ∧ Hid (Below w8.heap.size w8 wr)) (fun _ v _ => nA - (intOf v).toNat)
    case atStart => exact ⟨0, 0, Nat.zero_le _, Nat.zero_le _, rfl, rfl, HSI.out, Below.refl _ _⟩
    case round =>
      obtain ⟨k, j, hk, hj, rfl, rfl, HS1, HB⟩ := hrel
      by_cases hlt : k < nA
      · go_wp2
        go_loopw [21] (fun u wq => ∃ j : Nat, j ≤ nB ∧ u = .int .i64 j ∧ Hid (SubI QA QB k j) ∧ Hid (Below w8.heap.size w8 wq)) (fun u _ => nB - (intOf u).toNat)
        case atStart => exact ⟨j, hj, rfl, HS1.out, HB.out⟩
        case round =>
          obtain ⟨j, hj, rfl, HS2, HB2⟩ := hrel
          have hjl := HLT.out k j HS2.out hlt
          obtain ⟨ga, rfl, ca0, ca1⟩ := HAC.out _ k HB2.out hlt
          obtain ⟨gb, rfl, cb0, cb1⟩ := HBC.out _ j HB2.out hjl
          have HNX1 := Lib.hid (HNX.out k j HS2.out hlt hjl)
          have HST1 := Lib.hid (HST.out k j HS2.out hlt hjl)
          have f1 := cell_regrown ca0; have f2 := cell_regrown ca1; have f3 := cell_regrown cb0; have f4 := cell_regrown cb1
          clear ca0 ca1 cb0 cb1
          generalize px QA k = ax at *
          generalize pz QA k = az at *
          generalize px QB j = bx at *
          generalize pz QB j = bz at *
          by_cases hx : bx = ax
          · subst hx
            by_cases hz : bz = az
            · subst hz
              go_wp2_with fail
              refine wp_region_quiet_below (by kernel_rfl) (by kernel_rfl) ?_
              repeat (any_goals (first | go_big_quiet_step (fail) | quiet_step (fail)))
              refine wpQuiet_nil ?_
              intro _ hw'
              obtain ⟨⟨dq, osq⟩, hw''⟩ := hw'
              subst hw''
              have k9 := Below.thru HB2.out HB2.out.size (below_regrown wr dq osq)
              clear f1 f2 f3 f4
              generalize Sort.grow (redrawn wr dq) osq = w9 at *
              go_wp2
              go_roundw
              case rel => exact ⟨k + 1, j, by omega, hj, rfl, by go_num, HST1.out, k9⟩
              case measure => simp [intOf]; omega
            · have hz2 : (bz == az) = false := by simpa using hz
              go_wp2_with fail
              refine wp_region_quiet_below (by kernel_rfl) (by kernel_rfl) ?_
              repeat (any_goals (first | go_big_quiet_step (fail) | quiet_step (fail)))
              refine wpQuiet_nil ?_
              intro _ hw'
              obtain ⟨⟨dq, osq⟩, hw''⟩ := hw'
              subst hw''
              have k9 := Below.thru HB2.out HB2.out.size (below_regrown wr dq osq)
              clear f1 f2 f3 f4
              generalize Sort.grow (redrawn wr dq) osq = w9 at *
              go_wp2
              go_roundw
              case rel => exact ⟨j + 1, by omega, by go_num, HNX1.out (fun h => hz h.2), k9⟩
              case measure => simp [intOf]; omega
          · have hx2 : (bx == ax) = false := by simpa using hx
            go_wp2_with fail
            refine wp_region_quiet_below (by kernel_rfl) (by kernel_rfl) ?_
            repeat (any_goals (first | go_big_quiet_step (fail) | quiet_step (fail)))
            refine wpQuiet_nil ?_
            intro _ hw'
            obtain ⟨⟨dq, osq⟩, hw''⟩ := hw'
            subst hw''
            have k9 := Below.thru HB2.out HB2.out.size (below_regrown wr dq osq)
            clear f1 f2 f3 f4
            generalize Sort.grow (redrawn wr dq) osq = w9 at *
            go_wp2
            go_roundw
            case rel => exact ⟨j + 1, by omega, by go_num, HNX1.out (fun h => hx h.1), k9⟩
            case measure => simp [intOf]; omega
      · go_wp2
        go_loopw [23] (fun v wr => ∃ m : Nat, m ≤ nZ ∧ v = .int .i64 m ∧ Hid (Below w8.heap.size w8 wr)) (fun v _ => nZ - (intOf v).toNat)
        case atStart => exact ⟨0, Nat.zero_le _, rfl, HB.out⟩
        case round =>
          obtain ⟨m, hm, rfl, HB3⟩ := hrel
          by_cases hmz : m < nZ
          · obtain ⟨gq, rfl, cz0, cz1⟩ := HZC.out _ m HB3.out hmz
            have hz0 := HZ.out m hmz
            obtain ⟨hzb, hxb, hgb⟩ := HZB.out m hmz
            have q := HB8.out _ HB3.out
            have cg4 := q.1.1.1.cell (i := 4) rfl
            have cg5 := q.1.1.1.cell (i := 5) rfl
            have cp0 := q.1.2.cell (i := 0) rfl
            have cp1 := q.1.2.cell (i := 1) rfl
            have f1 := cell_regrown cz0; have f2 := cell_regrown cz1; have f3 := cell_regrown cg4; have f4 := cell_regrown cg5; have f5 := cell_regrown cp0; have f6 := cell_regrown cp1
            clear q cz0 cz1 cg4 cg5 cp0 cp1
            generalize px QZ m = zx at *
            generalize pz QZ m = zz at *
            have hu1 := mul_sm (A := 2000) (B := 100) (a := zx - x) (b := gz) (by omega) hgb.2 (by omega)
            have hu2 := mul_sm (A := 2000) (B := 100) (a := zz - z) (b := gx) (by omega) hgb.1 (by omega)
            obtain ⟨d1, hd1⟩ : ∃ d, d = zx - x := ⟨_, rfl⟩
            obtain ⟨d2, hd2⟩ : ∃ d, d = zz - z := ⟨_, rfl⟩
            have e1 : IntKind.i64.wrap (zx - x) = d1 := by rw [hd1]; exact i64w _ (by omega)
            have e3 : IntKind.i64.wrap (zz - z) = d2 := by rw [hd2]; exact i64w _ (by omega)
            rw [← hd1] at hu1 hz0
            rw [← hd2] at hu2 hz0
            obtain ⟨u1, hu⟩ : ∃ u, u = d1 * gz := ⟨_, rfl⟩
            have e2 : IntKind.i64.wrap (d1 * gz) = u1 := by rw [hu]; exact i64w _ (by omega)
            have e4 : IntKind.i64.wrap (d2 * gx) = u1 := by rw [hu, hz0]; exact i64w _ (by omega)
            have e1' : wrap64 (zx - x) = d1 := by first | exact e1 | (rw [← e1]; rfl) | (have h := e1; simpa [go_sem] using h) | (have h := e1; rw [IntKind.wrap_i64] at h; unfold wrap64; omega)
            have e2' : wrap64 (d1 * gz) = u1 := by first | exact e2 | (rw [← e2]; rfl) | (have h := e2; simpa [go_sem] using h) | (have h := e2; rw [IntKind.wrap_i64] at h; unfold wrap64; omega)
            have e3' : wrap64 (zz - z) = d2 := by first | exact e3 | (rw [← e3]; rfl) | (have h := e3; simpa [go_sem] using h) | (have h := e3; rw [IntKind.wrap_i64] at h; unfold wrap64; omega)
            have e4' : wrap64 (d2 * gx) = u1 := by first | exact e4 | (rw [← e4]; rfl) | (have h := e4; simpa [go_sem] using h) | (have h := e4; rw [IntKind.wrap_i64] at h; unfold wrap64; omega)
            clear hd1 hd2 hu
            clear hz0 hu1 hu2 hzb hxb hgb
            go_wp2_with fail
            refine wp_region_quiet_below (by kernel_rfl) (by kernel_rfl) ?_
            repeat (any_goals (first | go_big_quiet_step (fail) | quiet_step (fail)))
            refine wpQuiet_nil ?_
            intro _ hw'
            obtain ⟨⟨dq, osq⟩, hw''⟩ := hw'
            subst hw''
            have k9 := Below.thru HB3.out HB3.out.size (below_regrown wr dq osq)
            clear f1 f2 f3 f4 f5 f6
            generalize Sort.grow (redrawn wr dq) osq = w9 at *
            go_wp2
            go_roundw
            case rel => exact ⟨m + 1, by omega, by go_num, k9⟩
            case measure => simp [intOf]; omega
          · have q := HB8.out _ HB3.out
            have HPW := Lib.hid q.2.2
            have s0 := q.1.1.2.cell (i := 0) rfl; have s1 := q.1.1.2.cell (i := 1) rfl; have s2 := q.1.1.2.cell (i := 2) rfl; have s3 := q.1.1.2.cell (i := 3) rfl; have s4 := q.1.1.2.cell (i := 4) rfl; have s5 := q.1.1.2.cell (i := 5) rfl
            have xc0 := q.1.2.cell (i := 0) rfl; have xc1 := q.1.2.cell (i := 1) rfl
            clear q
            go_wp2_with fail
            refine (HSU1.out wr _ HPW.out).mono ?_
            rintro e w9 ⟨⟨nn, er, rfl, hsu⟩, hb9⟩
            have K9 := Lib.hid (Below.thru HB3.out HB3.out.size hb9)
            clear hb9 s0 s1 s2 s3 s4 s5 xc0 xc1
            rcases hsu with ⟨h0, rfl⟩ | ⟨hp0, rfl, hle⟩
            · go_wp2_with fail
              refine (wakes_any _).mono ?_
              rintro e wd ⟨rfl, hbd⟩
              have k8 := (HB8.out _ (Below.thru K9.out K9.out.size hbd)).2.1
              clear hbd
              go_wp2
              go_ret
              exact ⟨rfl, k8⟩
            · have hA0 : ((nA : Int) == 0) = false := by simp; omega
              have HLE := Lib.hid hle
              clear hle
              go_wp2
              go_loopw [26] (fun v wr => ∃ m : Nat, m ≤ nA ∧ v = .int .i64 m ∧ Hid (Below w8.heap.size w8 wr)) (fun v _ => nA - (intOf v).toNat)
              case atStart => exact ⟨0, Nat.zero_le _, rfl, K9.out⟩
              case round =>
                obtain ⟨m, hm, rfl, HB4⟩ := hrel
                by_cases hma : m < nA
                · obtain ⟨PA, PB, TA, TB, hcl, hTA, hTB, hmx⟩ := HSP1.out m hma
                  have hle := HLE.out m hma
                  rw [← hmx] at hle
                  have HCL := Lib.hid hcl; have HTA := Lib.hid hTA; have HTB := Lib.hid hTB
                  clear hcl hTA hTB hmx
                  obtain ⟨gq, rfl, _, _⟩ := HAC.out wr m HB4.out hma
                  have HPP : Hid (∀ W, Below wr.heap.size wr W → W.heap[w2.heap.size]? = some (.cells (c6 nm (.slice a5 n c5) dp dn gx gz) 34 (0, 0)) ∧ W.cell? ⟨w4.heap.size, 0, none⟩ = some (.int .i64 x) ∧ W.cell? ⟨w4.heap.size, 1, none⟩ = some (.int .i64 z) ∧ (W.cell? ⟨gq, 0 + m * 2, none⟩ = some (.int .i64 (px QA m)) ∧ W.cell? ⟨gq, 0 + m * 2 + 1, none⟩ = some (.int .i64 (pz QA m))) ∧ Pts W (.slice a5 n c5) l) := fun W kk => by
                    have k8 := Below.thru HB4.out HB4.out.size kk
                    have q := HB8.out _ k8
                    obtain ⟨g', e, c0, c1⟩ := HAC.out W m k8 hma
                    cases e
                    rw [Nat.zero_add]
                    exact ⟨q.1.1.2, q.1.2.cell (i := 0) rfl, q.1.2.cell (i := 1) rfl, ⟨c0, c1⟩, q.2.2⟩
                  generalize px QA m = qx at *
                  generalize pz QA m = qz at *
                  go_upto_region 34 with fail
                  go_cut [27, 28, 29] from 206 to 241 (fun u27 u28 u29 wc => ∃ T27 T28, u27 = .pointer (some ⟨T27, 0, none⟩) ∧ u28 = .pointer (some ⟨T28, 0, none⟩) ∧ u29 = .int .i64 0 ∧ Hid ((∃ q m' c', wc.heap[T27]? = some (.cells (c6 PA.nm (.slice q m' c') PA.dp PA.dn PA.gx PA.gz) 34 (0, 0)) ∧ Own wc wr.heap.size (.slice q m' c') PA.l) ∧ (∃ q m' c', wc.heap[T28]? = some (.cells (c6 PB.nm (.slice q m' c') PB.dp PB.dn PB.gx PB.gz) 34 (0, 0)) ∧ Own wc wr.heap.size (.slice q m' c') PB.l)) ∧ Hid (Below wr.heap.size wr wc))
                  case first =>
                    rename_i J K' hJ hK
                    refine wp_region_ald D34g (tabH 27 28 219 212 220 221 PA PB (vals34 (.agg (c6 nm (.slice a5 n c5) dp dn gx gz)) x z gq nA cca m qx qz) wr.heap.size) al34g 13
                      (fun i f w' => Below wr.heap.size wr w' ∧ (14 ≤ i → ∃ T, f 27 = .pointer (some ⟨T, 0, none⟩) ∧ wr.heap.size ≤ T ∧ (∃ q m' c', w'.heap[T]? = some (.cells (c6 PA.nm (.slice q m' c') PA.dp PA.dn PA.gx PA.gz) 34 (0, 0)) ∧ Own w' wr.heap.size (.slice q m' c') PA.l)) ∧ (15 ≤ i → ∃ T, f 28 = .pointer (some ⟨T, 0, none⟩) ∧ wr.heap.size ≤ T ∧ (∃ q m' c', w'.heap[T]? = some (.cells (c6 PB.nm (.slice q m' c') PB.dp PB.dn PB.gx PB.gz) 34 (0, 0)) ∧ Own w' wr.heap.size (.slice q m' c') PB.l)))
                      (by kernel_rfl) (by kernel_rfl) (by kernel_rfl) (by kernel_rfl) (by decide) (by kernel_rfl) (fun i f f' w' w'' hI hb he => ⟨Below.thru hI.1 hI.1.size hb, fun h => by
                        obtain ⟨T, h1, h2, q, m', c', h3, h4⟩ := hI.2.1 h
                        rcases he with he | he
                        · omega
                        · exact ⟨T, (he 27 rfl).trans h1, h2, q, m', c', (hb.block T (Array.getElem?_eq_some_iff.1 h3).1).trans h3, own_later h4 hb⟩, fun h => by
                        obtain ⟨T, h1, h2, q, m', c', h3, h4⟩ := hI.2.2 h
                        rcases he with he | he
                        · omega
                        · exact ⟨T, (he 28 rfl).trans h1, h2, q, m', c', (hb.block T (Array.getElem?_eq_some_iff.1 h3).1).trans h3, own_later h4 hb⟩⟩) (by kernel_rfl) (fun f => ⟨(Below.refl _ _).drew, fun h => by omega, fun h => by omega⟩) ?_ ?_ ?_
                    · refine .cons (fun j f w' hj hI hs => ⟨wanted_none rfl, _, rfl, .val (rn_load34 rfl (fr_old rfl rfl) (HPP.out w' hI.1).1) ⟨⟨Below.refl _ _, rfl⟩, (fun h => by cases h)⟩⟩) ?_
                      refine .cons (fun j f w' hj hI hs => ⟨wanted_none rfl, _, rfl, .val (rn_load32 rfl (fr_old rfl rfl) (HPP.out w' hI.1).2.1 (HPP.out w' hI.1).2.2.1) ⟨⟨Below.refl _ _, rfl⟩, (fun h => by cases h)⟩⟩) ?_
                      refine .cons (fun j f w' hj hI hs => ⟨wanted_none rfl, _, rfl, .val (rn_move rfl) ⟨⟨Below.refl _ _, fr_old rfl rfl⟩, (fun h => by cases h)⟩⟩) ?_
                      refine .cons (fun j f w' hj hI hs => ⟨wanted_none rfl, _, rfl, .val (rn_move rfl) ⟨⟨Below.refl _ _, fr_old rfl rfl⟩, (fun h => by cases h)⟩⟩) ?_
                      refine .cons (fun j f w' hj hI hs => ⟨wanted_none rfl, _, rfl, .val (rn_idx31 rfl ((fr_own rfl rfl).trans (hs 215 (by kernel_rfl))) ((fr_own rfl rfl).trans (hs 216 (by kernel_rfl))) hma) ⟨⟨Below.refl _ _, rfl⟩, (fun h => by cases h)⟩⟩) ?_
                      refine .cons (fun j f w' hj hI hs => ⟨wanted_none rfl, _, rfl, .val (rn_load32 rfl ((fr_own rfl rfl).trans (hs 217 (by kernel_rfl))) (HPP.out w' hI.1).2.2.2.1.1 (HPP.out w' hI.1).2.2.2.1.2) ⟨⟨Below.refl _ _, rfl⟩, (fun h => by cases h)⟩⟩) ?_
                      refine .cons (fun j f w' hj hI hs => ⟨wanted_none rfl, _, rfl, OpR.call3 rfl cf35 rfl rfl rfl rfl rfl rfl (by
                        rw [show f 213 = _ from hs 213 (by kernel_rfl), show f 214 = _ from hs 214 (by kernel_rfl), show f 218 = _ from hs 218 (by kernel_rfl)]
                        exact (HCL.out w' _ _ (HPP.out w' hI.1).2.2.2.2).mono fun _ w'' ⟨⟨va, vb, he, pA, pB⟩, hb⟩ => ⟨_, he, ⟨hb, va, vb, rfl, pA.base hI.1.size, pB.base hI.1.size⟩, (fun h => by cases h)⟩)⟩) ?_
                      refine .cons (fun j f w' hj hI hs => ⟨wanted_none rfl, _, rfl, .val (rn_move rfl) ⟨⟨Below.refl _ _, by
                        obtain ⟨va, vb, e, pA, pB⟩ : ∃ a b, f 219 = .tuple #[a, b, .int .i64 0] ∧ PcV PA wr.heap.size a w' ∧ PcV PB wr.heap.size b w' := hs 219 (by kernel_rfl)
                        exact ⟨va, vb, (fr_own rfl rfl).trans e, pA, pB⟩⟩, (fun h => by cases h)⟩⟩) ?_
                      refine .cons (fun j f w' hj hI hs => ⟨wanted_none rfl, _, rfl, by
                        obtain ⟨va, vb, e, pA, pB⟩ : ∃ a b, f 212 = .tuple #[a, b, .int .i64 0] ∧ PcV PA wr.heap.size a w' ∧ PcV PB wr.heap.size b w' := hs 212 (by kernel_rfl)
                        exact .inl ⟨_, _, rn_extract0t rfl ((fr_own rfl rfl).trans e), ⟨⟨Below.refl _ _, pA⟩, (fun h => by cases h)⟩⟩⟩) ?_
                      refine .cons (fun j f w' hj hI hs => ⟨wanted_none rfl, _, rfl, by
                        obtain ⟨va, vb, e, pA, pB⟩ : ∃ a b, f 212 = .tuple #[a, b, .int .i64 0] ∧ PcV PA wr.heap.size a w' ∧ PcV PB wr.heap.size b w' := hs 212 (by kernel_rfl)
                        exact .inl ⟨_, _, rn_extract1t rfl ((fr_own rfl rfl).trans e), ⟨⟨Below.refl _ _, pB⟩, (fun h => by cases h)⟩⟩⟩) ?_
                      refine .cons (fun j f w' hj hI hs => ⟨wanted_none rfl, _, rfl, by
                        obtain ⟨va, vb, e, pA, pB⟩ : ∃ a b, f 212 = .tuple #[a, b, .int .i64 0] ∧ PcV PA wr.heap.size a w' ∧ PcV PB wr.heap.size b w' := hs 212 (by kernel_rfl)
                        exact .inl ⟨_, _, rn_extract2 rfl ((fr_own rfl rfl).trans e), ⟨⟨Below.refl _ _, rfl⟩, (fun h => by cases h)⟩⟩⟩) ?_
                      refine .cons (fun j f w' hj hI hs => ⟨wanted_none rfl, _, rfl, .val (rn_alloc34 rfl) ⟨⟨bl1 _ _, _, rfl, hI.1.size, _, _, _, _, _, _, World.alloc_heap_new _ _⟩, fun _ => ⟨rfl, by simp⟩⟩⟩) ?_
                      refine .cons (fun j f w' hj hI hs => ⟨wanted_none rfl, _, rfl, .val (rn_alloc34 rfl) ⟨⟨bl1 _ _, _, rfl, hI.1.size, _, _, _, _, _, _, World.alloc_heap_new _ _⟩, fun _ => ⟨rfl, by simp⟩⟩⟩) .nil
                    · refine .cons (fun f w' hI hs hne => ⟨wanted_none rfl, (fun d h => by cases h), ?_⟩) ?_
                      · obtain ⟨q, m', c', e20, o20⟩ : PcV PA wr.heap.size (f 220) w' := (hs 220 (by kernel_rfl))
                        obtain ⟨T, e5, hW, n0, u0, a0, b0, c0, d0, hT⟩ : ∃ T, f 27 = .pointer (some ⟨T, 0, none⟩) ∧ wr.heap.size ≤ T ∧ ∃ (nm : ByteArray) (u : Value) (dp dn gx gz : Int), w'.heap[T]? = some (.cells (c6 nm u dp dn gx gz) 34 (0, 0)) := (hs 27 (by kernel_rfl))
                        exact OpR.st34 rfl ((fr_own rfl rfl).trans e5) ((fr_own rfl rfl).trans e20) hT hI.1 hW fun w1 hb hat _ hown htab hsz => ⟨⟨⟨hb, fun _ => ⟨T, e5, hW, q, m', c', hat, hown _ _ _ o20⟩, fun h => by omega⟩, fun d v hk => htab _ _ _ _ _ _ _ _ _ _ d v hk, (fun d h => by cases h)⟩, hsz⟩
                      refine .cons (fun f w' hI hs hne => ⟨wanted_none rfl, (fun d h => by cases h), ?_⟩) ?_
                      · obtain ⟨q, m', c', e21, o21⟩ : PcV PB wr.heap.size (f 221) w' := (hs 221 (by kernel_rfl))
                        obtain ⟨T, e6, hW, n0, u0, a0, b0, c0, d0, hT⟩ : ∃ T, f 28 = .pointer (some ⟨T, 0, none⟩) ∧ wr.heap.size ≤ T ∧ ∃ (nm : ByteArray) (u : Value) (dp dn gx gz : Int), w'.heap[T]? = some (.cells (c6 nm u dp dn gx gz) 34 (0, 0)) := (hs 28 (by kernel_rfl))
                        obtain ⟨T5, e5, hW5, q5, m5, c5', h5, o5⟩ := hI.2.1 (by decide)
                        have hne2 : T5 ≠ T := by
                          intro e
                          have := hne 27 28 (by kernel_rfl) (by kernel_rfl) rfl rfl (by decide)
                          rw [e5, e6, e] at this
                          exact this rfl
                        exact OpR.st34 rfl ((fr_own rfl rfl).trans e6) ((fr_own rfl rfl).trans e21) hT hI.1 hW fun w1 hb hat hfar hown htab hsz => ⟨⟨⟨hb, fun _ => ⟨T5, e5, hW5, q5, m5, c5', hfar _ _ h5 hne2, hown _ _ _ o5⟩, fun _ => ⟨T, e6, hW, q, m', c', hat, hown _ _ _ o21⟩⟩, fun d v hk => htab _ _ _ _ _ _ _ _ _ _ d v hk, (fun d h => by cases h)⟩, hsz⟩
                      refine .cons (fun f w' hI hs hne => ⟨wanted_none rfl, (fun d h => by cases h; rfl), ?_⟩) .nil
                      have h22 : f 222 = _ := (hs 222 (by kernel_rfl))
                      obtain ⟨T5, e5, hW5, h5⟩ := hI.2.1 (by decide)
                      obtain ⟨T6, e6, hW6, h6⟩ := hI.2.2 (by decide)
                      exact .inl ⟨_, _, rn_assign rfl, ⟨⟨hI.1, fun _ => ⟨T5, e5, hW5, h5⟩, fun _ => ⟨T6, e6, hW6, h6⟩⟩, fun d v hk => hk, (fun d h => by cases h; exact (fr_own rfl rfl).trans h22)⟩, Nat.le_refl _⟩
                    · intro f w' hI hs
                      obtain ⟨T5, e5, hW5, h5⟩ := hI.2.1 (by decide)
                      obtain ⟨T6, e6, hW6, h6⟩ := hI.2.2 (by decide)
                      have h29 : f 29 = _ := (hs 29 (by kernel_rfl))
                      refine hK _ _ (Met.intro (hJ _ _ ?_))
                      (repeat apply Exists.intro)
                      refine ⟨⟨T5, T6, e5, e6, h29, ⟨h5, h6⟩, hI.1⟩, rfl⟩
                  obtain ⟨T27, T28, rfl, rfl, rfl, HBX, HBW⟩ := hcut
                  obtain ⟨⟨q1, m1', c1', b27, o27⟩, q2, m2', c2', b28, o28⟩ := HBX.out
                  have HAA := Lib.hid (HTA.out wc _ _ ⟨q1, m1', c1', rfl, o27⟩)
                  have HAB := Lib.hid (HTB.out wc _ _ ⟨q2, m2', c2', rfl, o28⟩)
                  generalize wc = w20 at *
                  have B27 : Blk T27 (c6 PA.nm (.slice q1 m1' c1') PA.dp PA.dn PA.gx PA.gz) 34 w20 := b27
                  have B28 : Blk T28 (c6 PB.nm (.slice q2 m2' c2') PB.dp PB.dn PB.gx PB.gz) 34 w20 := b28
                  have HBK : Hid (∀ W, Below w20.heap.size w20 W → Blk T28 (c6 PB.nm (.slice q2 m2' c2') PB.dp PB.dn PB.gx PB.gz) 34 W) := fun W k => B28.below k
                  have zc0 := B27.cell (i := 0) rfl; have zc1 := B27.cell (i := 1) rfl; have zc2 := B27.cell (i := 2) rfl; have zc3 := B27.cell (i := 3) rfl; have zc4 := B27.cell (i := 4) rfl; have zc5 := B27.cell (i := 5) rfl
                  clear b27 b28 o27 o28 HBX B27 B28
                  go_wp2_with fail
                  refine (HAA.out w20 (Below.refl _ _)).mono ?_
                  rintro e w21 ⟨rfl, hb21⟩
                  have K21 := Lib.hid hb21
                  have B28 := HBK.out _ K21.out
                  have yc0 := B28.cell (i := 0) rfl; have yc1 := B28.cell (i := 1) rfl; have yc2 := B28.cell (i := 2) rfl; have yc3 := B28.cell (i := 3) rfl; have yc4 := B28.cell (i := 4) rfl; have yc5 := B28.cell (i := 5) rfl
                  clear hb21 B28 zc0 zc1 zc2 zc3 zc4 zc5
                  go_wp2_with fail
                  refine (HAB.out w21 K21.out).mono ?_
                  rintro e w22 ⟨rfl, hb22⟩
                  have K22 := Lib.hid (Below.thru HB4.out HB4.out.size (Below.thru HBW.out HBW.out.size (Below.thru K21.out K21.out.size hb22)))
                  clear hb22 yc0 yc1 yc2 yc3 yc4 yc5
                  go_upto_region 37 with fail
                  go_cut [241] from 206 to 241 (fun v wq => v = .bool false ∧ Hid (wq = w22))
                  case first =>
                    rename_i J K' hJ hK
                    go_wp2
                    all_goals
                      refine Met.intro (hJ _ _ ?_)
                      (repeat apply Exists.intro)
                      exact ⟨⟨by first | rfl | (simp; omega), rfl⟩, rfl⟩
                  obtain ⟨rfl, HWQ⟩ := hcut
                  rw [HWQ.out]
                  go_wp2
                  go_roundw
                  case rel => exact ⟨m + 1, by omega, by go_num, K22.out⟩
                  case measure => simp [intOf]; omega
                · go_wp2_with fail
                  refine (wakes_any _).mono ?_
                  rintro e wd ⟨rfl, hbd⟩
                  have k8 := (HB8.out _ (Below.thru HB4.out HB4.out.size hbd)).2.1
                  clear hbd
                  go_wp2
                  go_ret
                  exact ⟨rfl, k8⟩
end Go.Proofs.Ytljmhejljpfaiaa

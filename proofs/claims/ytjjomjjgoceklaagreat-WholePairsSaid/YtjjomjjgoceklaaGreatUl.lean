import Derived.Test.YtjjomjjgoceklaaGreatKca
import Derived.Test.YtjjomjjgoceklaaGreatUj
import Derived.Test.YtjjomjjgoceklaaGreatUd
namespace Go.Proofs.YtjjomjjgoceklaaGreat
set_option maxRecDepth 100000
open Go.RowKit

/-! the laws of regions in the order of their text -/
section
variable {P : Program} {ops : Array Oper} {Q : Exit → Act → World → Prop}
theorem wp_region_fr0 {id : Nat} {a0 : Act} {w : World} (D : Nat → Bool) (J : (Nat → Bool) → (Nat → Value) → World → Prop) (hback : backB .any ops = true)
    (hD : (ops.toList.filterMap (·.dst)).all D = true)
    (hf : ∃ f, fr a0 D f = a0 ∧ J (fun _ => false) f w)
    (hstep : AllFrom (fun i o => ∀ L f w, J L f w → L i = false → (∀ e ∈ o.after, Region.binds .any e = true → L e.on = true) →
      Region.wanted o (yielded ops (fr a0 D f).tmps) = true ∧ OpR P o (fr a0 D f) w fun v w' => J (dn L i) (updo f o.dst v) w') 0 ops.toList)
    (hend : ∀ L f w, J L f w → (∀ i, i < ops.size → L i = true) → Q .normal (fr a0 D f) w) : (Code.region id ops false).wp P Q a0 w := by
  obtain ⟨f0, hf0, hJ0⟩ := hf
  refine wp_region_inv0 hback (fun L a w => ∃ f, a = fr a0 D f ∧ J L f w) ⟨f0, hf0.symm, hJ0⟩ ?_ ?_
  · rintro L a w i o ho ⟨f, rfl, hJ⟩ hL hd
    have hg := hstep.get (i := i) (o := o) (by simpa using ho)
    rw [Nat.zero_add] at hg
    obtain ⟨hw, hr⟩ := hg L f w hJ hL hd
    unfold wpOp
    simp only [ho, hw, if_true]
    refine .inl (hr.wp fun v w' hR => ⟨_, fr_put _ _ _ _ _ fun t ht => ?_, hR⟩)
    have hmem : t ∈ ops.toList.filterMap (·.dst) := List.mem_filterMap.2 ⟨o, by rw [Array.mem_toList_iff]; exact Array.mem_of_getElem? ho, ht⟩
    exact List.all_eq_true.1 hD t hmem
  · rintro L a w ⟨f, rfl, hJ⟩ hall
    exact hend L f w hJ hall
theorem wp_region_kdt0 {id : Nat} {a0 : Act} {w : World} (D : Nat → Bool) (tab : Nat → Kd) (I : World → Prop) (m : Nat) (T : Nat → (Nat → Value) → World → Prop) (hback : backB .any ops = true) (hu : uniqB ops = true) (hch : chainB ops m = true) (hms : m < ops.size)
    (hD : (ops.toList.filterMap (·.dst)).all D = true) (hI : ∀ w w', I w → Below w.heap.size w w' → I w') (h0 : I w)
    (hstep : AllFrom (fun i o => i < m → ∀ f w, I w → (∀ d, (predD ops i).contains d = true → kd (tab d) (f d) w) →
      Region.wanted o (yielded ops (fr a0 D f).tmps) = true ∧ ∃ d, o.dst = some d ∧ OpR P o (fr a0 D f) w fun v w' => Below w.heap.size w w' ∧ kd (tab d) v w') 0 ops.toList)
    (htail : AllFrom (fun i o => m ≤ i → ∀ f w, (if i = m then (I w ∧ ∀ d, (predD ops i).contains d = true → kd (tab d) (f d) w) else T i f w) →
      Region.wanted o (yielded ops (fr a0 D f).tmps) = true ∧ OpR P o (fr a0 D f) w fun v w' => T (i + 1) (updo f o.dst v) w') 0 ops.toList)
    (hend : ∀ f w, T ops.size f w → Q .normal (fr a0 D f) w) : (Code.region id ops false).wp P Q a0 w := by
  let J : (Nat → Bool) → (Nat → Value) → World → Prop := fun L f w => Closed ops L ∧ ((∃ i, (m < i ∧ i ≤ ops.size) ∧ (∀ j, j < i → L j = true) ∧ (∀ j, i ≤ j → L j = false) ∧ T i f w) ∨ ((∀ j, m ≤ j → L j = false) ∧ I w ∧ KdAll tab ops L f w))
  have hclosed : ∀ (L : Nat → Bool) (n : Nat), Closed ops L → (∀ j ∈ edgesOf ops n, L j = true) → Closed ops (dn L n) := by
    intro L n hcl hedge i hi j hj
    unfold dn at hi ⊢
    by_cases e : i = n
    · subst e
      split
      · rfl
      · exact hedge j hj
    · rw [if_neg e] at hi
      split
      · rfl
      · exact hcl i hi j hj
  refine wp_region_fr0 D J hback hD ⟨_, fr_self a0 D, (by intro i h; cases h), .inr ⟨fun _ _ => rfl, h0, (by intro i o d _ h; cases h)⟩⟩ ?_ ?_
  · suffices key : ∀ (n : Nat) (l : List Oper), (∀ i o, l[i]? = some o → ops[n + i]? = some o) →
        AllFrom (fun i o => i < m → ∀ f w, I w → (∀ d, (predD ops i).contains d = true → kd (tab d) (f d) w) → Region.wanted o (yielded ops (fr a0 D f).tmps) = true ∧ ∃ d, o.dst = some d ∧ OpR P o (fr a0 D f) w fun v w' => Below w.heap.size w w' ∧ kd (tab d) v w') n l →
        AllFrom (fun i o => m ≤ i → ∀ f w, (if i = m then (I w ∧ ∀ d, (predD ops i).contains d = true → kd (tab d) (f d) w) else T i f w) → Region.wanted o (yielded ops (fr a0 D f).tmps) = true ∧ OpR P o (fr a0 D f) w fun v w' => T (i + 1) (updo f o.dst v) w') n l →
        AllFrom (fun i o => ∀ L f w, J L f w → L i = false → (∀ e ∈ o.after, Region.binds .any e = true → L e.on = true) →
          Region.wanted o (yielded ops (fr a0 D f).tmps) = true ∧ OpR P o (fr a0 D f) w fun v w' => J (dn L i) (updo f o.dst v) w') n l from key 0 _ (fun i o h => by simpa using h) hstep htail
    intro n l
    induction l generalizing n with
    | nil => intro _ _ _; trivial
    | cons o os ih =>
      intro hget hall htl
      refine ⟨?_, ih (n + 1) (fun i p h => by rw [show n + 1 + i = n + (i + 1) by omega]; exact hget _ _ (by simpa using h)) hall.2 htl.2⟩
      rintro L f w ⟨hcl, hJ⟩ hL hdep
      have ho : ops[n]? = some o := hget 0 o (by simp)
      have hn : n < ops.size := (Array.getElem?_eq_some_iff.1 ho).1
      have hedge : ∀ j ∈ edgesOf ops n, L j = true := by
        intro j hj
        unfold edgesOf at hj
        rw [ho] at hj
        obtain ⟨e, he, rfl⟩ := List.mem_map.1 hj
        obtain ⟨he1, he2⟩ := List.mem_filter.1 he
        exact hdep e (by simpa using he1) he2
      have hpr := predGo_ok hcl n _ hedge
      have hpre : KdAll tab ops L f w → ∀ d, (predD ops n).contains d = true → kd (tab d) (f d) w := by
        intro hk d hd
        unfold predD at hd
        obtain ⟨j, hj, hjd⟩ := List.mem_filterMap.1 (List.contains_iff_mem.1 hd)
        obtain ⟨oj, hoj, hdj⟩ := Option.bind_eq_some_iff.1 hjd
        exact hk j oj d hoj (hpr j hj) hdj
      rcases Nat.lt_or_ge n m with hnm | hnm
      · rcases hJ with ⟨i, hi, hall', _, _⟩ | ⟨hfar, hIw, hk⟩
        · rw [hall' n (by omega)] at hL; cases hL
        obtain ⟨hw, d, hd, hr⟩ := hall.1 hnm f w hIw (hpre hk)
        refine ⟨hw, ?_⟩
        have step : ∀ v w', (Below w.heap.size w w' ∧ kd (tab d) v w') → J (dn L n) (updo f o.dst v) w' := by
          rintro v w' ⟨hb, hkd⟩
          refine ⟨hclosed _ _ hcl hedge, .inr ⟨fun j hj => by unfold dn; rw [if_neg (by omega)]; exact hfar j hj, hI _ _ hIw hb, ?_⟩⟩
          intro i p d' hp hi hd'
          rw [hd]
          unfold dn at hi
          by_cases e : i = n
          · subst e
            rw [ho] at hp
            cases hp
            rw [hd] at hd'
            cases hd'
            simpa [updo, upd] using hkd
          · rw [if_neg e] at hi
            have hne : d' ≠ d := fun he => e (uniq_spec hu hp ho (he ▸ hd') hd)
            simp only [updo, upd, if_neg hne]
            exact (hk i p d' hp hi hd').keep hb
        rcases hr with ⟨v, w', h1, h2⟩ | ⟨w', h1, h2⟩ | ⟨g, args, h1, h2⟩
        · exact .inl ⟨v, w', h1, step _ _ h2⟩
        · exact .inr (.inl ⟨w', h1, step _ _ h2⟩)
        · exact .inr (.inr ⟨g, args, h1, h2.mono fun e w' ⟨v, he, hr⟩ => ⟨v, he, step _ _ hr⟩⟩)
      · have hprev : ∀ j, j < n → L j = true := fun j hj => hpr j (chain_spec hch hn hnm hj)
        have harg : if n = m then (I w ∧ ∀ d, (predD ops n).contains d = true → kd (tab d) (f d) w) else T n f w := by
          rcases hJ with ⟨i, hi, hall', hfar, hT⟩ | ⟨hfar, hIw, hk⟩
          · have hin : i = n := by
              rcases Nat.lt_trichotomy i n with h | h | h
              · have := hfar i (Nat.le_refl _); rw [hprev i h] at this; cases this
              · exact h
              · have := hall' n h; rw [this] at hL; cases hL
            subst hin
            rw [if_neg (by omega)]
            exact hT
          · by_cases e : n = m
            · rw [if_pos e]; exact ⟨hIw, hpre hk⟩
            · have := hfar m (Nat.le_refl _); rw [hprev m (by omega)] at this; cases this
        obtain ⟨hw, hr⟩ := htl.1 hnm f w harg
        have hrest : ∀ j, n < j → L j = false := by
          rcases hJ with ⟨i, hi, hall', hfar, hT⟩ | ⟨hfar, _, _⟩
          · intro j hj
            refine hfar j ?_
            rcases Nat.lt_or_ge n i with h | h
            · rw [hall' n h] at hL; cases hL
            · omega
          · intro j hj; exact hfar j (by omega)
        refine ⟨hw, ?_⟩
        have step : ∀ v w', T (n + 1) (updo f o.dst v) w' → J (dn L n) (updo f o.dst v) w' := fun v w' hT =>
          ⟨hclosed _ _ hcl hedge, .inl ⟨n + 1, ⟨by omega, hn⟩, fun j hj => by unfold dn; split; rfl; exact hprev j (by omega), fun j hj => by unfold dn; rw [if_neg (by omega)]; exact hrest j (by omega), hT⟩⟩
        rcases hr with ⟨v, w', h1, h2⟩ | ⟨w', h1, h2⟩ | ⟨g, args, h1, h2⟩
        · exact .inl ⟨v, w', h1, step _ _ h2⟩
        · exact .inr (.inl ⟨w', h1, step _ _ h2⟩)
        · exact .inr (.inr ⟨g, args, h1, h2.mono fun e w' ⟨v, he, hr⟩ => ⟨v, he, step _ _ hr⟩⟩)
  · rintro L f w ⟨_, hJ⟩ hall
    rcases hJ with ⟨i, hi, _, hfar, hT⟩ | ⟨hfar, _, _⟩
    · rcases Nat.lt_or_ge i ops.size with h | h
      · have := hfar i (Nat.le_refl _); rw [hall i h] at this; cases this
      · obtain rfl : i = ops.size := by omega
        exact hend f w hT
    · have := hfar m (Nat.le_refl _); rw [hall m hms] at this; cases this
theorem wp_region_two0 {id : Nat} {a0 : Act} {w : World} (D : Nat → Bool) (tab : Nat → Kd) (I : World → Prop) (m : Nat) (T : Nat → (Nat → Value) → World → Prop) (hback : backB .any ops = true) (hu : uniqB ops = true) (hch : chainB ops m = true) (hms : m < ops.size)
    (hD : (ops.toList.filterMap (·.dst)).all D = true) (hI : ∀ w w', I w → Below w.heap.size w w' → I w') (h0 : I w)
    (hstep : AllFrom (fun i o => ∀ f w, I w → (∀ d, (predD ops i).contains d = true → kd (tab d) (f d) w) →
      Region.wanted o (yielded ops (fr a0 D f).tmps) = true ∧ ∃ d, o.dst = some d ∧ OpR P o (fr a0 D f) w fun v w' => Below w.heap.size w w' ∧ kd (tab d) v w') 0 (ops.toList.take m))
    (htail : AllFrom (fun i o => ∀ f w, (if i = m then (I w ∧ ∀ d, (predD ops i).contains d = true → kd (tab d) (f d) w) else T i f w) →
      Region.wanted o (yielded ops (fr a0 D f).tmps) = true ∧ OpR P o (fr a0 D f) w fun v w' => T (i + 1) (updo f o.dst v) w') m (ops.toList.drop m))
    (hend : ∀ f w, T ops.size f w → Q .normal (fr a0 D f) w) : (Code.region id ops false).wp P Q a0 w := by
  refine wp_region_kdt0 D tab I m T hback hu hch hms hD hI h0 ?_ ?_ hend
  · refine .of fun i o ho => ?_
    rw [Nat.zero_add]
    intro hi
    have := hstep.get (i := i) (o := o) (by rw [List.getElem?_take_of_lt hi]; exact ho)
    rw [Nat.zero_add] at this
    exact this
  · refine .of fun i o ho => ?_
    rw [Nat.zero_add]
    intro hi
    have := htail.get (i := i - m) (o := o) (by rw [List.getElem?_drop, show m + (i - m) = i by omega]; exact ho)
    rw [show m + (i - m) = i by omega] at this
    exact this
end
end Go.Proofs.YtjjomjjgoceklaaGreat
namespace Go.Proofs.YtjjomjjgoceklaaGreat
set_option maxRecDepth 100000
open Go.RowKit

/-! pairs in boxes; pair, Dot, Cross, parts, Scale in both ways -/
def Vv (w : World) (v : Value) (a b : Rat) : Prop := ∃ (s1 : Bool) (x1 : Int) (p1 : Option Addr) (y1 : Int) (q1 : Option Addr) (s2 : Bool) (x2 : Int) (p2 : Option Addr) (y2 : Int) (q2 : Option Addr), v = .agg #[.bool s1, .int .u64 x1, .pointer p1, .int .u64 y1, .pointer q1, .bool s2, .int .u64 x2, .pointer p2, .int .u64 y2, .pointer q2] ∧ Rr w (.agg #[.bool s1, .int .u64 x1, .pointer p1, .int .u64 y1, .pointer q1]) a.num a.den ∧ Rr w (.agg #[.bool s2, .int .u64 x2, .pointer p2, .int .u64 y2, .pointer q2]) b.num b.den
def RVv (w : World) (v : Value) (a b : Rat) : Prop := ∃ (t1 : Int) (f1 : Option Addr) (l1 c1 : Nat) (u1 : Int) (hh1 : Option Addr) (m1 cc1 : Nat) (t2 : Int) (f2 : Option Addr) (l2 c2 : Nat) (u2 : Int) (hh2 : Option Addr) (m2 cc2 : Nat), v = .agg #[.int .i64 t1, .slice f1 l1 c1, .int .i64 u1, .slice hh1 m1 cc1, .int .i64 t2, .slice f2 l2 c2, .int .i64 u2, .slice hh2 m2 cc2] ∧ RRv w (.agg #[.int .i64 t1, .slice f1 l1 c1, .int .i64 u1, .slice hh1 m1 cc1]) a.num (a.den : Int) ∧ RRv w (.agg #[.int .i64 t2, .slice f2 l2 c2, .int .i64 u2, .slice hh2 m2 cc2]) b.num (b.den : Int)
theorem Vv.keep {w w' : World} {v : Value} {a b : Rat} {B : Nat} (h : Vv w v a b) (hb : Below B w w') (hB : w.heap.size ≤ B) : Vv w' v a b := by
  obtain ⟨s1, x1, p1, y1, q1, s2, x2, p2, y2, q2, e, h1, h2⟩ := h
  exact ⟨s1, x1, p1, y1, q1, s2, x2, p2, y2, q2, e, h1.keep hb hB, h2.keep hb hB⟩
theorem Vv.store {w w' : World} {v : Value} {a b : Rat} {T : Nat} (h : Vv w v a b) (hT : Odd T w) (hg : w.grownBy w' (some T)) : Vv w' v a b := by
  obtain ⟨s1, x1, p1, y1, q1, s2, x2, p2, y2, q2, e, h1, h2⟩ := h
  exact ⟨s1, x1, p1, y1, q1, s2, x2, p2, y2, q2, e, h1.store hT hg, h2.store hT hg⟩
theorem RVv.keep {w w' : World} {v : Value} {a b : Rat} {B : Nat} (h : RVv w v a b) (hb : Below B w w') (hB : w.heap.size ≤ B) : RVv w' v a b := by
  obtain ⟨t1, f1, l1, c1, u1, hh1, m1, cc1, t2, f2, l2, c2, u2, hh2, m2, cc2, e, h1, h2⟩ := h
  exact ⟨t1, f1, l1, c1, u1, hh1, m1, cc1, t2, f2, l2, c2, u2, hh2, m2, cc2, e, h1.keep hb hB, h2.keep hb hB⟩
theorem RVv.store {w w' : World} {v : Value} {a b : Rat} {T : Nat} (h : RVv w v a b) (hT : NoI w T) (hg : w.grownBy w' (some T)) : RVv w' v a b := by
  obtain ⟨t1, f1, l1, c1, u1, hh1, m1, cc1, t2, f2, l2, c2, u2, hh2, m2, cc2, e, h1, h2⟩ := h
  exact ⟨t1, f1, l1, c1, u1, hh1, m1, cc1, t2, f2, l2, c2, u2, hh2, m2, cc2, e, h1.store hT hg, h2.store hT hg⟩
theorem Vv.agg {w : World} {v : Value} {a b : Rat} (h : Vv w v a b) : ∃ (s1 : Bool) (x1 : Int) (p1 : Option Addr) (y1 : Int) (q1 : Option Addr) (s2 : Bool) (x2 : Int) (p2 : Option Addr) (y2 : Int) (q2 : Option Addr), v = .agg #[.bool s1, .int .u64 x1, .pointer p1, .int .u64 y1, .pointer q1, .bool s2, .int .u64 x2, .pointer p2, .int .u64 y2, .pointer q2] := by
  obtain ⟨s1, x1, p1, y1, q1, s2, x2, p2, y2, q2, e, _⟩ := h
  exact ⟨s1, x1, p1, y1, q1, s2, x2, p2, y2, q2, e⟩
theorem RVv.agg {w : World} {v : Value} {a b : Rat} (h : RVv w v a b) : ∃ (t1 : Int) (f1 : Option Addr) (l1 c1 : Nat) (u1 : Int) (hh1 : Option Addr) (m1 cc1 : Nat) (t2 : Int) (f2 : Option Addr) (l2 c2 : Nat) (u2 : Int) (hh2 : Option Addr) (m2 cc2 : Nat), v = .agg #[.int .i64 t1, .slice f1 l1 c1, .int .i64 u1, .slice hh1 m1 cc1, .int .i64 t2, .slice f2 l2 c2, .int .i64 u2, .slice hh2 m2 cc2] := by
  obtain ⟨t1, f1, l1, c1, u1, hh1, m1, cc1, t2, f2, l2, c2, u2, hh2, m2, cc2, e, _⟩ := h
  exact ⟨t1, f1, l1, c1, u1, hh1, m1, cc1, t2, f2, l2, c2, u2, hh2, m2, cc2, e⟩
/-- boxes of pairs, whatever they hold -/
def B10 (T : Nat) (w : World) : Prop := ∃ (s1 : Bool) (x1 : Int) (p1 : Option Addr) (y1 : Int) (q1 : Option Addr) (s2 : Bool) (x2 : Int) (p2 : Option Addr) (y2 : Int) (q2 : Option Addr), w.heap[T]? = some (.cells #[.bool s1, .int .u64 x1, .pointer p1, .int .u64 y1, .pointer q1, .bool s2, .int .u64 x2, .pointer p2, .int .u64 y2, .pointer q2] 84 (0, 0))
def B8 (T : Nat) (w : World) : Prop := ∃ (t1 : Int) (f1 : Option Addr) (l1 c1 : Nat) (u1 : Int) (hh1 : Option Addr) (m1 cc1 : Nat) (t2 : Int) (f2 : Option Addr) (l2 c2 : Nat) (u2 : Int) (hh2 : Option Addr) (m2 cc2 : Nat), w.heap[T]? = some (.cells #[.int .i64 t1, .slice f1 l1 c1, .int .i64 u1, .slice hh1 m1 cc1, .int .i64 t2, .slice f2 l2 c2, .int .i64 u2, .slice hh2 m2 cc2] 86 (0, 0))
theorem B10.lt {T : Nat} {w : World} (h : B10 T w) : T < w.heap.size := by obtain ⟨s1, x1, p1, y1, q1, s2, x2, p2, y2, q2, h⟩ := h; exact blk_lt h
theorem B10.keep {T : Nat} {w w' : World} (h : B10 T w) (hb : Below w.heap.size w w') : B10 T w' := by obtain ⟨s1, x1, p1, y1, q1, s2, x2, p2, y2, q2, h⟩ := h; exact ⟨s1, x1, p1, y1, q1, s2, x2, p2, y2, q2, blk_keep h hb⟩
theorem B10.other {T U : Nat} {w w' : World} (h : B10 T w) (hg : w.grownBy w' (some U)) (hne : T ≠ U) : B10 T w' := by obtain ⟨s1, x1, p1, y1, q1, s2, x2, p2, y2, q2, h⟩ := h; exact ⟨s1, x1, p1, y1, q1, s2, x2, p2, y2, q2, blk_other h hg hne⟩
theorem B10.noI {T : Nat} {w : World} (h : B10 T w) : NoI w T := by obtain ⟨s1, x1, p1, y1, q1, s2, x2, p2, y2, q2, h⟩ := h; exact ⟨_, _, _, h, by decide⟩
theorem B10.odd {T : Nat} {w : World} (h : B10 T w) : Odd T w := by
  obtain ⟨s1, x1, p1, y1, q1, s2, x2, p2, y2, q2, h⟩ := h
  have hc : ∀ o, w.cell? ⟨T, o, none⟩ = (#[Value.bool s1, .int .u64 x1, .pointer p1, .int .u64 y1, .pointer q1, .bool s2, .int .u64 x2, .pointer p2, .int .u64 y2, .pointer q2] : Array Value)[o]? := fun o => by simp [World.cell?, h]
  refine ⟨fun o x' y' h1 h2 => ?_, fun p l c h1 => ?_⟩
  · rw [hc] at h1 h2
    match o with
    | 0 => simp at h1
    | 1 => simp at h2
    | 2 => simp at h1
    | 3 => simp at h2
    | 4 => simp at h1
    | 5 => simp at h1
    | 6 => simp at h2
    | 7 => simp at h1
    | 8 => simp at h2
    | 9 => simp at h1
    | o + 10 => simp at h1
  · rw [hc] at h1; simp at h1
theorem B10.cells {T : Nat} {w : World} (h : B10 T w) : ∃ (s1 : Bool) (x1 : Int) (p1 : Option Addr) (y1 : Int) (q1 : Option Addr) (s2 : Bool) (x2 : Int) (p2 : Option Addr) (y2 : Int) (q2 : Option Addr), w.cell? ⟨T, 0, none⟩ = some (.bool s1) ∧ w.cell? ⟨T, 1, none⟩ = some (.int .u64 x1) ∧ w.cell? ⟨T, 2, none⟩ = some (.pointer p1) ∧ w.cell? ⟨T, 3, none⟩ = some (.int .u64 y1) ∧ w.cell? ⟨T, 4, none⟩ = some (.pointer q1) ∧ w.cell? ⟨T, 5, none⟩ = some (.bool s2) ∧ w.cell? ⟨T, 6, none⟩ = some (.int .u64 x2) ∧ w.cell? ⟨T, 7, none⟩ = some (.pointer p2) ∧ w.cell? ⟨T, 8, none⟩ = some (.int .u64 y2) ∧ w.cell? ⟨T, 9, none⟩ = some (.pointer q2) ∧ w.frozen? ⟨T, 0, none⟩ = false ∧ w.frozen? ⟨T, 1, none⟩ = false ∧ w.frozen? ⟨T, 2, none⟩ = false ∧ w.frozen? ⟨T, 3, none⟩ = false ∧ w.frozen? ⟨T, 4, none⟩ = false ∧ w.frozen? ⟨T, 5, none⟩ = false ∧ w.frozen? ⟨T, 6, none⟩ = false ∧ w.frozen? ⟨T, 7, none⟩ = false ∧ w.frozen? ⟨T, 8, none⟩ = false ∧ w.frozen? ⟨T, 9, none⟩ = false := by
  obtain ⟨s1, x1, p1, y1, q1, s2, x2, p2, y2, q2, h⟩ := h
  refine ⟨s1, x1, p1, y1, q1, s2, x2, p2, y2, q2, ?_, ?_, ?_, ?_, ?_, ?_, ?_, ?_, ?_, ?_, ?_, ?_, ?_, ?_, ?_, ?_, ?_, ?_, ?_, ?_⟩ <;> simp [World.cell?, World.frozen?, h]
@[reducible] def st10 (w : World) (T : Nat) (v0 v1 v2 v3 v4 v5 v6 v7 v8 v9 : Value) : World := (((((((((w.setCell ⟨T, 0, none⟩ v0).setCell ⟨T, 1, none⟩ v1).setCell ⟨T, 2, none⟩ v2).setCell ⟨T, 3, none⟩ v3).setCell ⟨T, 4, none⟩ v4).setCell ⟨T, 5, none⟩ v5).setCell ⟨T, 6, none⟩ v6).setCell ⟨T, 7, none⟩ v7).setCell ⟨T, 8, none⟩ v8).setCell ⟨T, 9, none⟩ v9
theorem grown10 (w : World) (T : Nat) (v0 v1 v2 v3 v4 v5 v6 v7 v8 v9 : Value) : w.grownBy (st10 w T v0 v1 v2 v3 v4 v5 v6 v7 v8 v9) (some T) := only_setCell (p := ⟨T, 9, none⟩) (only_setCell (p := ⟨T, 8, none⟩) (only_setCell (p := ⟨T, 7, none⟩) (only_setCell (p := ⟨T, 6, none⟩) (only_setCell (p := ⟨T, 5, none⟩) (only_setCell (p := ⟨T, 4, none⟩) (only_setCell (p := ⟨T, 3, none⟩) (grown3 w T 0 1 2 v0 v1 v2) rfl _) rfl _) rfl _) rfl _) rfl _) rfl _) rfl _
theorem below10 {B T : Nat} {a w : World} (h : Below B a w) (hT : B ≤ T) (v0 v1 v2 v3 v4 v5 v6 v7 v8 v9 : Value) : Below B a (st10 w T v0 v1 v2 v3 v4 v5 v6 v7 v8 v9) :=
  ((((((((((h.setCell (by simp <;> omega) _).setCell (by simp <;> omega) _).setCell (by simp <;> omega) _).setCell (by simp <;> omega) _).setCell (by simp <;> omega) _).setCell (by simp <;> omega) _).setCell (by simp <;> omega) _).setCell (by simp <;> omega) _).setCell (by simp <;> omega) _).setCell (by simp <;> omega) _)
theorem B8.lt {T : Nat} {w : World} (h : B8 T w) : T < w.heap.size := by obtain ⟨t1, f1, l1, c1, u1, hh1, m1, cc1, t2, f2, l2, c2, u2, hh2, m2, cc2, h⟩ := h; exact blk_lt h
theorem B8.keep {T : Nat} {w w' : World} (h : B8 T w) (hb : Below w.heap.size w w') : B8 T w' := by obtain ⟨t1, f1, l1, c1, u1, hh1, m1, cc1, t2, f2, l2, c2, u2, hh2, m2, cc2, h⟩ := h; exact ⟨t1, f1, l1, c1, u1, hh1, m1, cc1, t2, f2, l2, c2, u2, hh2, m2, cc2, blk_keep h hb⟩
theorem B8.other {T U : Nat} {w w' : World} (h : B8 T w) (hg : w.grownBy w' (some U)) (hne : T ≠ U) : B8 T w' := by obtain ⟨t1, f1, l1, c1, u1, hh1, m1, cc1, t2, f2, l2, c2, u2, hh2, m2, cc2, h⟩ := h; exact ⟨t1, f1, l1, c1, u1, hh1, m1, cc1, t2, f2, l2, c2, u2, hh2, m2, cc2, blk_other h hg hne⟩
theorem B8.noI {T : Nat} {w : World} (h : B8 T w) : NoI w T := by obtain ⟨t1, f1, l1, c1, u1, hh1, m1, cc1, t2, f2, l2, c2, u2, hh2, m2, cc2, h⟩ := h; exact ⟨_, _, _, h, by decide⟩
theorem B8.odd {T : Nat} {w : World} (h : B8 T w) : Odd T w := by
  obtain ⟨t1, f1, l1, c1, u1, hh1, m1, cc1, t2, f2, l2, c2, u2, hh2, m2, cc2, h⟩ := h
  have hc : ∀ o, w.cell? ⟨T, o, none⟩ = (#[Value.int .i64 t1, .slice f1 l1 c1, .int .i64 u1, .slice hh1 m1 cc1, .int .i64 t2, .slice f2 l2 c2, .int .i64 u2, .slice hh2 m2 cc2] : Array Value)[o]? := fun o => by simp [World.cell?, h]
  refine ⟨fun o x' y' h1 h2 => ?_, fun p l c h1 => ?_⟩
  · rw [hc] at h1 h2
    match o with
    | 0 => simp at h1
    | 1 => simp at h2
    | 2 => simp at h1
    | 3 => simp at h2
    | 4 => simp at h1
    | 5 => simp at h2
    | 6 => simp at h1
    | 7 => simp at h2
    | o + 8 => simp at h1
  · rw [hc] at h1; simp at h1
theorem B8.cells {T : Nat} {w : World} (h : B8 T w) : ∃ (t1 : Int) (f1 : Option Addr) (l1 c1 : Nat) (u1 : Int) (hh1 : Option Addr) (m1 cc1 : Nat) (t2 : Int) (f2 : Option Addr) (l2 c2 : Nat) (u2 : Int) (hh2 : Option Addr) (m2 cc2 : Nat), w.cell? ⟨T, 0, none⟩ = some (.int .i64 t1) ∧ w.cell? ⟨T, 1, none⟩ = some (.slice f1 l1 c1) ∧ w.cell? ⟨T, 2, none⟩ = some (.int .i64 u1) ∧ w.cell? ⟨T, 3, none⟩ = some (.slice hh1 m1 cc1) ∧ w.cell? ⟨T, 4, none⟩ = some (.int .i64 t2) ∧ w.cell? ⟨T, 5, none⟩ = some (.slice f2 l2 c2) ∧ w.cell? ⟨T, 6, none⟩ = some (.int .i64 u2) ∧ w.cell? ⟨T, 7, none⟩ = some (.slice hh2 m2 cc2) ∧ w.frozen? ⟨T, 0, none⟩ = false ∧ w.frozen? ⟨T, 1, none⟩ = false ∧ w.frozen? ⟨T, 2, none⟩ = false ∧ w.frozen? ⟨T, 3, none⟩ = false ∧ w.frozen? ⟨T, 4, none⟩ = false ∧ w.frozen? ⟨T, 5, none⟩ = false ∧ w.frozen? ⟨T, 6, none⟩ = false ∧ w.frozen? ⟨T, 7, none⟩ = false := by
  obtain ⟨t1, f1, l1, c1, u1, hh1, m1, cc1, t2, f2, l2, c2, u2, hh2, m2, cc2, h⟩ := h
  refine ⟨t1, f1, l1, c1, u1, hh1, m1, cc1, t2, f2, l2, c2, u2, hh2, m2, cc2, ?_, ?_, ?_, ?_, ?_, ?_, ?_, ?_, ?_, ?_, ?_, ?_, ?_, ?_, ?_, ?_⟩ <;> simp [World.cell?, World.frozen?, h]
@[reducible] def st8 (w : World) (T : Nat) (v0 v1 v2 v3 v4 v5 v6 v7 : Value) : World := (((((((w.setCell ⟨T, 0, none⟩ v0).setCell ⟨T, 1, none⟩ v1).setCell ⟨T, 2, none⟩ v2).setCell ⟨T, 3, none⟩ v3).setCell ⟨T, 4, none⟩ v4).setCell ⟨T, 5, none⟩ v5).setCell ⟨T, 6, none⟩ v6).setCell ⟨T, 7, none⟩ v7
theorem grown8 (w : World) (T : Nat) (v0 v1 v2 v3 v4 v5 v6 v7 : Value) : w.grownBy (st8 w T v0 v1 v2 v3 v4 v5 v6 v7) (some T) := only_setCell (p := ⟨T, 7, none⟩) (only_setCell (p := ⟨T, 6, none⟩) (only_setCell (p := ⟨T, 5, none⟩) (only_setCell (p := ⟨T, 4, none⟩) (only_setCell (p := ⟨T, 3, none⟩) (grown3 w T 0 1 2 v0 v1 v2) rfl _) rfl _) rfl _) rfl _) rfl _
theorem below8 {B T : Nat} {a w : World} (h : Below B a w) (hT : B ≤ T) (v0 v1 v2 v3 v4 v5 v6 v7 : Value) : Below B a (st8 w T v0 v1 v2 v3 v4 v5 v6 v7) :=
  ((((((((h.setCell (by simp <;> omega) _).setCell (by simp <;> omega) _).setCell (by simp <;> omega) _).setCell (by simp <;> omega) _).setCell (by simp <;> omega) _).setCell (by simp <;> omega) _).setCell (by simp <;> omega) _).setCell (by simp <;> omega) _)
/-- a box with a pair -/
def Hvv (T : Nat) (a b : Rat) (w : World) : Prop := ∃ (s1 : Bool) (x1 : Int) (p1 : Option Addr) (y1 : Int) (q1 : Option Addr) (s2 : Bool) (x2 : Int) (p2 : Option Addr) (y2 : Int) (q2 : Option Addr), w.heap[T]? = some (.cells #[.bool s1, .int .u64 x1, .pointer p1, .int .u64 y1, .pointer q1, .bool s2, .int .u64 x2, .pointer p2, .int .u64 y2, .pointer q2] 84 (0, 0)) ∧ Vv w (.agg #[.bool s1, .int .u64 x1, .pointer p1, .int .u64 y1, .pointer q1, .bool s2, .int .u64 x2, .pointer p2, .int .u64 y2, .pointer q2]) a b
theorem Hvv.keep {T : Nat} {a b : Rat} {w w' : World} (h : Hvv T a b w) (hb : Below w.heap.size w w') : Hvv T a b w' := by
  obtain ⟨s1, x1, p1, y1, q1, s2, x2, p2, y2, q2, h1, h2⟩ := h
  exact ⟨s1, x1, p1, y1, q1, s2, x2, p2, y2, q2, blk_keep h1 hb, h2.keep hb (Nat.le_refl _)⟩
theorem Hvv.bx {T : Nat} {a b : Rat} {w : World} (h : Hvv T a b w) : B10 T w := by
  obtain ⟨s1, x1, p1, y1, q1, s2, x2, p2, y2, q2, h1, h2⟩ := h
  exact ⟨s1, x1, p1, y1, q1, s2, x2, p2, y2, q2, h1⟩
theorem Hvv.new {w : World} {a b : Rat} {s1 : Bool} {x1 : Int} {p1 : Option Addr} {y1 : Int} {q1 : Option Addr} {s2 : Bool} {x2 : Int} {p2 : Option Addr} {y2 : Int} {q2 : Option Addr} (h : Vv w (.agg #[.bool s1, .int .u64 x1, .pointer p1, .int .u64 y1, .pointer q1, .bool s2, .int .u64 x2, .pointer p2, .int .u64 y2, .pointer q2]) a b) : Hvv w.heap.size a b (w.alloc (.cells #[.bool s1, .int .u64 x1, .pointer p1, .int .u64 y1, .pointer q1, .bool s2, .int .u64 x2, .pointer p2, .int .u64 y2, .pointer q2] 84)) :=
  ⟨s1, x1, p1, y1, q1, s2, x2, p2, y2, q2, Go.Deep.blk_alloc_new _ _, h.keep (bl1 _ _) (Nat.le_refl _)⟩
theorem Hvv.stored {T : Nat} {w : World} {a b : Rat} {s1 : Bool} {x1 : Int} {p1 : Option Addr} {y1 : Int} {q1 : Option Addr} {s2 : Bool} {x2 : Int} {p2 : Option Addr} {y2 : Int} {q2 : Option Addr} (hT : B10 T w) (h : Vv w (.agg #[.bool s1, .int .u64 x1, .pointer p1, .int .u64 y1, .pointer q1, .bool s2, .int .u64 x2, .pointer p2, .int .u64 y2, .pointer q2]) a b) : Hvv T a b (st10 w T (.bool s1) (.int .u64 x1) (.pointer p1) (.int .u64 y1) (.pointer q1) (.bool s2) (.int .u64 x2) (.pointer p2) (.int .u64 y2) (.pointer q2)) := by
  refine ⟨s1, x1, p1, y1, q1, s2, x2, p2, y2, q2, ?_, h.store hT.odd (grown10 _ _ _ _ _ _ _ _ _ _ _ _)⟩
  obtain ⟨_, _, _, _, _, _, _, _, _, _, hT⟩ := hT
  simp [World.setCell, Array.getElem?_modify, hT]
theorem Hvv.st {T U : Nat} {a b : Rat} {w w' : World} (h : Hvv T a b w) (hU : Odd U w) (hg : w.grownBy w' (some U)) (hne : T ≠ U) : Hvv T a b w' := by
  obtain ⟨s1, x1, p1, y1, q1, s2, x2, p2, y2, q2, h1, h2⟩ := h
  exact ⟨s1, x1, p1, y1, q1, s2, x2, p2, y2, q2, blk_other h1 hg hne, h2.store hU hg⟩
theorem b10_new (w : World) {T : Nat} (hT : T = w.heap.size) : B10 T (w.alloc (.cells #[.bool false, .int .u64 0, .pointer none, .int .u64 0, .pointer none, .bool false, .int .u64 0, .pointer none, .int .u64 0, .pointer none] 84)) := by
  subst hT; exact ⟨_, _, _, _, _, _, _, _, _, _, Go.Deep.blk_alloc_new _ _⟩
section
variable {ρ : Operand → Value} {o : Oper} {w : World} {t z1 z2 : Operand}
theorem rn_load84 {T : Nat} {s1 : Bool} {x1 : Int} {p1 : Option Addr} {y1 : Int} {q1 : Option Addr} {s2 : Bool} {x2 : Int} {p2 : Option Addr} {y2 : Int} {q2 : Option Addr} (ho : o.op = .load 84 t) (he : ρ t = .pointer (some ⟨T, 0, none⟩)) (h : w.heap[T]? = some (.cells #[.bool s1, .int .u64 x1, .pointer p1, .int .u64 y1, .pointer q1, .bool s2, .int .u64 x2, .pointer p2, .int .u64 y2, .pointer q2] 84 (0, 0))) : (execOp ρ o).run Tryz.prog w = .ok (.value (.agg #[.bool s1, .int .u64 x1, .pointer p1, .int .u64 y1, .pointer q1, .bool s2, .int .u64 x2, .pointer p2, .int .u64 y2, .pointer q2])) w := by
  have j0 : w.cell? ⟨T, 0, none⟩ = some (.bool s1) := by simp [World.cell?, h]
  have j1 : w.cell? ⟨T, 1, none⟩ = some (.int .u64 x1) := by simp [World.cell?, h]
  have j2 : w.cell? ⟨T, 2, none⟩ = some (.pointer p1) := by simp [World.cell?, h]
  have j3 : w.cell? ⟨T, 3, none⟩ = some (.int .u64 y1) := by simp [World.cell?, h]
  have j4 : w.cell? ⟨T, 4, none⟩ = some (.pointer q1) := by simp [World.cell?, h]
  have j5 : w.cell? ⟨T, 5, none⟩ = some (.bool s2) := by simp [World.cell?, h]
  have j6 : w.cell? ⟨T, 6, none⟩ = some (.int .u64 x2) := by simp [World.cell?, h]
  have j7 : w.cell? ⟨T, 7, none⟩ = some (.pointer p2) := by simp [World.cell?, h]
  have j8 : w.cell? ⟨T, 8, none⟩ = some (.int .u64 y2) := by simp [World.cell?, h]
  have j9 : w.cell? ⟨T, 9, none⟩ = some (.pointer q2) := by simp [World.cell?, h]
  unfold execOp; rw [ho]; simp [go_sem, he, j0, j1, j2, j3, j4, j5, j6, j7, j8, j9]
theorem rn_store84 {T : Nat} {s1 : Bool} {x1 : Int} {p1 : Option Addr} {y1 : Int} {q1 : Option Addr} {s2 : Bool} {x2 : Int} {p2 : Option Addr} {y2 : Int} {q2 : Option Addr} (ho : o.op = .store 84 t z1) (he : ρ t = .pointer (some ⟨T, 0, none⟩)) (hx : ρ z1 = .agg #[.bool s1, .int .u64 x1, .pointer p1, .int .u64 y1, .pointer q1, .bool s2, .int .u64 x2, .pointer p2, .int .u64 y2, .pointer q2]) (h : B10 T w) : (execOp ρ o).run Tryz.prog w = .ok .skip (st10 w T (.bool s1) (.int .u64 x1) (.pointer p1) (.int .u64 y1) (.pointer q1) (.bool s2) (.int .u64 x2) (.pointer p2) (.int .u64 y2) (.pointer q2)) := by
  obtain ⟨_, _, _, _, _, _, _, _, _, _, j0, j1, j2, j3, j4, j5, j6, j7, j8, j9, j10, j11, j12, j13, j14, j15, j16, j17, j18, j19⟩ := h.cells
  unfold execOp; rw [ho]; simp [go_sem, he, hx, j0, j1, j2, j3, j4, j5, j6, j7, j8, j9, j10, j11, j12, j13, j14, j15, j16, j17, j18, j19]
end
/-- a box with a pair -/
def HV (T : Nat) (a b : Rat) (w : World) : Prop := ∃ (t1 : Int) (f1 : Option Addr) (l1 c1 : Nat) (u1 : Int) (hh1 : Option Addr) (m1 cc1 : Nat) (t2 : Int) (f2 : Option Addr) (l2 c2 : Nat) (u2 : Int) (hh2 : Option Addr) (m2 cc2 : Nat), w.heap[T]? = some (.cells #[.int .i64 t1, .slice f1 l1 c1, .int .i64 u1, .slice hh1 m1 cc1, .int .i64 t2, .slice f2 l2 c2, .int .i64 u2, .slice hh2 m2 cc2] 86 (0, 0)) ∧ RVv w (.agg #[.int .i64 t1, .slice f1 l1 c1, .int .i64 u1, .slice hh1 m1 cc1, .int .i64 t2, .slice f2 l2 c2, .int .i64 u2, .slice hh2 m2 cc2]) a b
theorem HV.keep {T : Nat} {a b : Rat} {w w' : World} (h : HV T a b w) (hb : Below w.heap.size w w') : HV T a b w' := by
  obtain ⟨t1, f1, l1, c1, u1, hh1, m1, cc1, t2, f2, l2, c2, u2, hh2, m2, cc2, h1, h2⟩ := h
  exact ⟨t1, f1, l1, c1, u1, hh1, m1, cc1, t2, f2, l2, c2, u2, hh2, m2, cc2, blk_keep h1 hb, h2.keep hb (Nat.le_refl _)⟩
theorem HV.bx {T : Nat} {a b : Rat} {w : World} (h : HV T a b w) : B8 T w := by
  obtain ⟨t1, f1, l1, c1, u1, hh1, m1, cc1, t2, f2, l2, c2, u2, hh2, m2, cc2, h1, h2⟩ := h
  exact ⟨t1, f1, l1, c1, u1, hh1, m1, cc1, t2, f2, l2, c2, u2, hh2, m2, cc2, h1⟩
theorem HV.new {w : World} {a b : Rat} {t1 : Int} {f1 : Option Addr} {l1 c1 : Nat} {u1 : Int} {hh1 : Option Addr} {m1 cc1 : Nat} {t2 : Int} {f2 : Option Addr} {l2 c2 : Nat} {u2 : Int} {hh2 : Option Addr} {m2 cc2 : Nat} (h : RVv w (.agg #[.int .i64 t1, .slice f1 l1 c1, .int .i64 u1, .slice hh1 m1 cc1, .int .i64 t2, .slice f2 l2 c2, .int .i64 u2, .slice hh2 m2 cc2]) a b) : HV w.heap.size a b (w.alloc (.cells #[.int .i64 t1, .slice f1 l1 c1, .int .i64 u1, .slice hh1 m1 cc1, .int .i64 t2, .slice f2 l2 c2, .int .i64 u2, .slice hh2 m2 cc2] 86)) :=
  ⟨t1, f1, l1, c1, u1, hh1, m1, cc1, t2, f2, l2, c2, u2, hh2, m2, cc2, Go.Deep.blk_alloc_new _ _, h.keep (bl1 _ _) (Nat.le_refl _)⟩
theorem HV.stored {T : Nat} {w : World} {a b : Rat} {t1 : Int} {f1 : Option Addr} {l1 c1 : Nat} {u1 : Int} {hh1 : Option Addr} {m1 cc1 : Nat} {t2 : Int} {f2 : Option Addr} {l2 c2 : Nat} {u2 : Int} {hh2 : Option Addr} {m2 cc2 : Nat} (hT : B8 T w) (h : RVv w (.agg #[.int .i64 t1, .slice f1 l1 c1, .int .i64 u1, .slice hh1 m1 cc1, .int .i64 t2, .slice f2 l2 c2, .int .i64 u2, .slice hh2 m2 cc2]) a b) : HV T a b (st8 w T (.int .i64 t1) (.slice f1 l1 c1) (.int .i64 u1) (.slice hh1 m1 cc1) (.int .i64 t2) (.slice f2 l2 c2) (.int .i64 u2) (.slice hh2 m2 cc2)) := by
  refine ⟨t1, f1, l1, c1, u1, hh1, m1, cc1, t2, f2, l2, c2, u2, hh2, m2, cc2, ?_, h.store hT.noI (grown8 _ _ _ _ _ _ _ _ _ _)⟩
  obtain ⟨_, _, _, _, _, _, _, _, _, _, _, _, _, _, _, _, hT⟩ := hT
  simp [World.setCell, Array.getElem?_modify, hT]
theorem HV.st {T U : Nat} {a b : Rat} {w w' : World} (h : HV T a b w) (hU : NoI w U) (hg : w.grownBy w' (some U)) (hne : T ≠ U) : HV T a b w' := by
  obtain ⟨t1, f1, l1, c1, u1, hh1, m1, cc1, t2, f2, l2, c2, u2, hh2, m2, cc2, h1, h2⟩ := h
  exact ⟨t1, f1, l1, c1, u1, hh1, m1, cc1, t2, f2, l2, c2, u2, hh2, m2, cc2, blk_other h1 hg hne, h2.store hU hg⟩
theorem b8_new (w : World) {T : Nat} (hT : T = w.heap.size) : B8 T (w.alloc (.cells #[.int .i64 0, .slice none 0 0, .int .i64 0, .slice none 0 0, .int .i64 0, .slice none 0 0, .int .i64 0, .slice none 0 0] 86)) := by
  subst hT; exact ⟨_, _, _, _, _, _, _, _, _, _, _, _, _, _, _, _, Go.Deep.blk_alloc_new _ _⟩
section
variable {ρ : Operand → Value} {o : Oper} {w : World} {t z1 z2 : Operand}
theorem rn_load86 {T : Nat} {t1 : Int} {f1 : Option Addr} {l1 c1 : Nat} {u1 : Int} {hh1 : Option Addr} {m1 cc1 : Nat} {t2 : Int} {f2 : Option Addr} {l2 c2 : Nat} {u2 : Int} {hh2 : Option Addr} {m2 cc2 : Nat} (ho : o.op = .load 86 t) (he : ρ t = .pointer (some ⟨T, 0, none⟩)) (h : w.heap[T]? = some (.cells #[.int .i64 t1, .slice f1 l1 c1, .int .i64 u1, .slice hh1 m1 cc1, .int .i64 t2, .slice f2 l2 c2, .int .i64 u2, .slice hh2 m2 cc2] 86 (0, 0))) : (execOp ρ o).run Tryz.prog w = .ok (.value (.agg #[.int .i64 t1, .slice f1 l1 c1, .int .i64 u1, .slice hh1 m1 cc1, .int .i64 t2, .slice f2 l2 c2, .int .i64 u2, .slice hh2 m2 cc2])) w := by
  have j0 : w.cell? ⟨T, 0, none⟩ = some (.int .i64 t1) := by simp [World.cell?, h]
  have j1 : w.cell? ⟨T, 1, none⟩ = some (.slice f1 l1 c1) := by simp [World.cell?, h]
  have j2 : w.cell? ⟨T, 2, none⟩ = some (.int .i64 u1) := by simp [World.cell?, h]
  have j3 : w.cell? ⟨T, 3, none⟩ = some (.slice hh1 m1 cc1) := by simp [World.cell?, h]
  have j4 : w.cell? ⟨T, 4, none⟩ = some (.int .i64 t2) := by simp [World.cell?, h]
  have j5 : w.cell? ⟨T, 5, none⟩ = some (.slice f2 l2 c2) := by simp [World.cell?, h]
  have j6 : w.cell? ⟨T, 6, none⟩ = some (.int .i64 u2) := by simp [World.cell?, h]
  have j7 : w.cell? ⟨T, 7, none⟩ = some (.slice hh2 m2 cc2) := by simp [World.cell?, h]
  unfold execOp; rw [ho]; simp [go_sem, he, j0, j1, j2, j3, j4, j5, j6, j7]
theorem rn_store86 {T : Nat} {t1 : Int} {f1 : Option Addr} {l1 c1 : Nat} {u1 : Int} {hh1 : Option Addr} {m1 cc1 : Nat} {t2 : Int} {f2 : Option Addr} {l2 c2 : Nat} {u2 : Int} {hh2 : Option Addr} {m2 cc2 : Nat} (ho : o.op = .store 86 t z1) (he : ρ t = .pointer (some ⟨T, 0, none⟩)) (hx : ρ z1 = .agg #[.int .i64 t1, .slice f1 l1 c1, .int .i64 u1, .slice hh1 m1 cc1, .int .i64 t2, .slice f2 l2 c2, .int .i64 u2, .slice hh2 m2 cc2]) (h : B8 T w) : (execOp ρ o).run Tryz.prog w = .ok .skip (st8 w T (.int .i64 t1) (.slice f1 l1 c1) (.int .i64 u1) (.slice hh1 m1 cc1) (.int .i64 t2) (.slice f2 l2 c2) (.int .i64 u2) (.slice hh2 m2 cc2)) := by
  obtain ⟨_, _, _, _, _, _, _, _, _, _, _, _, _, _, _, _, j0, j1, j2, j3, j4, j5, j6, j7, j8, j9, j10, j11, j12, j13, j14, j15⟩ := h.cells
  unfold execOp; rw [ho]; simp [go_sem, he, hx, j0, j1, j2, j3, j4, j5, j6, j7, j8, j9, j10, j11, j12, j13, j14, j15]
end
section
variable {ρ : Operand → Value} {o : Oper} {w : World} {t z1 z2 : Operand}
theorem rn_build84 {s1 : Bool} {x1 : Int} {p1 : Option Addr} {y1 : Int} {q1 : Option Addr} {s2 : Bool} {x2 : Int} {p2 : Option Addr} {y2 : Int} {q2 : Option Addr} (ho : o.op = .build 84 #[(0, z1), (1, z2)]) (e1 : ρ z1 = .agg #[.bool s1, .int .u64 x1, .pointer p1, .int .u64 y1, .pointer q1]) (e2 : ρ z2 = .agg #[.bool s2, .int .u64 x2, .pointer p2, .int .u64 y2, .pointer q2]) : (execOp ρ o).run Tryz.prog w = .ok (.value (.agg #[.bool s1, .int .u64 x1, .pointer p1, .int .u64 y1, .pointer q1, .bool s2, .int .u64 x2, .pointer p2, .int .u64 y2, .pointer q2])) w := by
  unfold execOp; rw [ho]; simp [go_sem, e1, e2]
theorem rn_build86 {t1 : Int} {f1 : Option Addr} {l1 c1 : Nat} {u1 : Int} {hh1 : Option Addr} {m1 cc1 : Nat} {t2 : Int} {f2 : Option Addr} {l2 c2 : Nat} {u2 : Int} {hh2 : Option Addr} {m2 cc2 : Nat} (ho : o.op = .build 86 #[(0, z1), (1, z2)]) (e1 : ρ z1 = .agg #[.int .i64 t1, .slice f1 l1 c1, .int .i64 u1, .slice hh1 m1 cc1]) (e2 : ρ z2 = .agg #[.int .i64 t2, .slice f2 l2 c2, .int .i64 u2, .slice hh2 m2 cc2]) : (execOp ρ o).run Tryz.prog w = .ok (.value (.agg #[.int .i64 t1, .slice f1 l1 c1, .int .i64 u1, .slice hh1 m1 cc1, .int .i64 t2, .slice f2 l2 c2, .int .i64 u2, .slice hh2 m2 cc2])) w := by
  unfold execOp; rw [ho]; simp [go_sem, e1, e2]
end
def kvv (a b : Rat) : Kd := .c (fun v w => Vv w v a b) fun _ _ _ h hb => h.keep hb (Nat.le_refl _)
def krv (a b : Rat) : Kd := .c (fun v w => RVv w v a b) fun _ _ _ h hb => h.keep hb (Nat.le_refl _)
def PVv (a b : Rat) (w : World) (e : Ending) (w' : World) : Prop := Below w.heap.size w w' ∧ ∃ v, e = .returned v ∧ Vv w' v a b
theorem PVv.kd {a b : Rat} {w : World} {g : FuncId} {args : Array Value} (h : Calls Tryz.prog g args w (PVv a b w)) : Calls Tryz.prog g args w fun e w' => ∃ v, e = .returned v ∧ (Below w.heap.size w w' ∧ Go.Proofs.YtjjomjjgoceklaaGreat.kd (kvv a b) v w') := h.mono fun _ _ ⟨hb, v, he, hv⟩ => ⟨v, he, hb, hv⟩
/-! Dot, Cross of rationals -/
theorem dotR {u v : Value} {a b c d : Rat} {w : World} {k : Nat} (hu : Vv w u a b) (hv : Vv w v c d) (ba : Bd9 k a) (bb : Bd9 k b) (bc : Bd9 k c) (bd : Bd9 k d) (hk : 4 * k + 1 ≤ 1000) : Calls Tryz.prog 68 #[u, v] w (PRq (a * c + b * d) w) := by
  obtain ⟨s1, x1, p1, y1, q1, s2, x2, p2, y2, q2, rfl, h1, h2⟩ := hu
  obtain ⟨s3, x3, p3, y3, q3, s4, x4, p4, y4, q4, rfl, h3, h4⟩ := hv
  exact vdot_any s1 s3 x1 y1 x2 y2 x3 y3 x4 y4 s2 s4 p1 q1 p2 q2 p3 q3 p4 q4 a.num c.num b.num d.num (a * c).num (b * d).num (a * c + b * d).num a.den c.den b.den d.den (a * c).den (b * d).den (a * c + b * d).den w h1 h2 h3 h4
    (fun W v1 v2 g1 g2 => rmulR g1 g2 ba bc (by omega)) (fun W v1 v2 g1 g2 => rmulR g1 g2 bb bd (by omega)) (fun W v1 v2 g1 g2 => raddR g1 g2 (ba.mul bc) (bb.mul bd) (by omega))
theorem crossR {u v : Value} {a b c d : Rat} {w : World} {k : Nat} (hu : Vv w u a b) (hv : Vv w v c d) (ba : Bd9 k a) (bb : Bd9 k b) (bc : Bd9 k c) (bd : Bd9 k d) (hk : 4 * k + 1 ≤ 1000) : Calls Tryz.prog 70 #[u, v] w (PRq (a * d - b * c) w) := by
  obtain ⟨s1, x1, p1, y1, q1, s2, x2, p2, y2, q2, rfl, h1, h2⟩ := hu
  obtain ⟨s3, x3, p3, y3, q3, s4, x4, p4, y4, q4, rfl, h3, h4⟩ := hv
  exact vcross_any s1 s3 x1 y1 x2 y2 x3 y3 x4 y4 s2 s4 p1 q1 p2 q2 p3 q3 p4 q4 a.num c.num b.num d.num (a * d).num (b * c).num (a * d - b * c).num a.den c.den b.den d.den (a * d).den (b * c).den (a * d - b * c).den w h1 h2 h3 h4
    (fun W v1 v2 g1 g2 => rmulR g1 g2 ba bd (by omega)) (fun W v1 v2 g1 g2 => rmulR g1 g2 bb bc (by omega)) (fun W v1 v2 g1 g2 => rsubR g1 g2 (ba.mul bd) (bb.mul bc) (by omega))
/-! pair -/
structure PB4 (w0 : World) (a b : Rat) (T1 T2 T3 T4 : Nat) (w : World) : Prop where
  k : Below w0.heap.size w0 w
  u : B10 (w0.heap.size + 1 + 1) w
  v : B8 (w0.heap.size + 1 + 1 + 1) w
  qa : Hq T1 a.num a.den w
  ra : HR T2 a.num (a.den : Int) w
  qb : Hq T3 b.num b.den w
  rb : HR T4 b.num (b.den : Int) w
theorem PB4.keep {w0 w w' : World} {a b : Rat} {T1 T2 T3 T4 : Nat} (h : PB4 w0 a b T1 T2 T3 T4 w) (hb : Below w.heap.size w w') : PB4 w0 a b T1 T2 T3 T4 w' :=
  ⟨Below.thru h.k h.k.size hb, h.u.keep hb, h.v.keep hb, h.qa.keep hb, h.ra.keep hb, h.qb.keep hb, h.rb.keep hb⟩
def tab60p (a b : Rat) (t : Nat) : Kd := [.q a.num a.den, .q b.num b.den, kvv a b, krr a.num (a.den : Int), krr b.num (b.den : Int), krv a b].getD (t - 20) .any
def D60p (t : Nat) : Bool := Nat.ble 20 t && Nat.ble t 25
theorem tab60p_st {a b : Rat} {U : Nat} {w w' : World} (hU : Odd U w) (hN : NoI w U) (hg : w.grownBy w' (some U)) (d : Nat) (v : Value) (h : kd (tab60p a b d) v w) : kd (tab60p a b d) v w' := by
  unfold tab60p at h ⊢
  match hd : d - 20 with
  | 0 => rw [hd] at h; exact Rr.store h hU hg
  | 1 => rw [hd] at h; exact Rr.store h hU hg
  | 2 => rw [hd] at h; exact Vv.store h hU hg
  | 3 => rw [hd] at h; exact RRv.store h hN hg
  | 4 => rw [hd] at h; exact RRv.store h hN hg
  | 5 => rw [hd] at h; exact RVv.store h hN hg
  | n + 6 => exact trivial
def PPr (a b : Rat) (w : World) (e : Ending) (w' : World) : Prop := Below w.heap.size w w' ∧ ∃ u v, e = .returned (.tuple #[u, v]) ∧ Vv w' u a b ∧ RVv w' v a b
set_option maxHeartbeats 3200000 in
theorem pair_r (N1 D1 N2 D2 : Int) (a b : Rat) (w : World) (ca : ∀ w, Calls Tryz.prog 38 #[.agg #[.int .i64 N1, .int .i64 D1]] w (PBq a w)) (cb : ∀ w, Calls Tryz.prog 38 #[.agg #[.int .i64 N2, .int .i64 D2]] w (PBq b w)) :
    Calls Tryz.prog 60 #[.agg #[.int .i64 N1, .int .i64 D1], .agg #[.int .i64 N2, .int .i64 D2]] w (PPr a b w) := by
  have CA := Lib.hid ca; have CB := Lib.hid cb
  clear ca cb
  have k0 : Below w.heap.size w ((((w.alloc (.cells #[.int .i64 N1, .int .i64 D1] 65)).alloc (.cells #[.int .i64 N2, .int .i64 D2] 65)).alloc (.cells #[.bool false, .int .u64 0, .pointer none, .int .u64 0, .pointer none, .bool false, .int .u64 0, .pointer none, .int .u64 0, .pointer none] 84)).alloc (.cells #[.int .i64 0, .slice none 0 0, .int .i64 0, .slice none 0 0, .int .i64 0, .slice none 0 0, .int .i64 0, .slice none 0 0] 86)) := Below.thru (bl2 w (.cells #[.int .i64 N1, .int .i64 D1] 65) (.cells #[.int .i64 N2, .int .i64 D2] 65)) (by simp; omega) (bl2 ((w.alloc (.cells #[.int .i64 N1, .int .i64 D1] 65)).alloc (.cells #[.int .i64 N2, .int .i64 D2] 65)) (.cells #[.bool false, .int .u64 0, .pointer none, .int .u64 0, .pointer none, .bool false, .int .u64 0, .pointer none, .int .u64 0, .pointer none] 84) (.cells #[.int .i64 0, .slice none 0 0, .int .i64 0, .slice none 0 0, .int .i64 0, .slice none 0 0, .int .i64 0, .slice none 0 0] 86))
  have X2 : Xn (w.heap.size + 1) N2 D2 ((((w.alloc (.cells #[.int .i64 N1, .int .i64 D1] 65)).alloc (.cells #[.int .i64 N2, .int .i64 D2] 65)).alloc (.cells #[.bool false, .int .u64 0, .pointer none, .int .u64 0, .pointer none, .bool false, .int .u64 0, .pointer none, .int .u64 0, .pointer none] 84)).alloc (.cells #[.int .i64 0, .slice none 0 0, .int .i64 0, .slice none 0 0, .int .i64 0, .slice none 0 0, .int .i64 0, .slice none 0 0] 86)) := blk_al (blk_al (xn_new _ N2 D2 (by simp)) _) _
  have U0 : B10 (w.heap.size + 1 + 1) ((((w.alloc (.cells #[.int .i64 N1, .int .i64 D1] 65)).alloc (.cells #[.int .i64 N2, .int .i64 D2] 65)).alloc (.cells #[.bool false, .int .u64 0, .pointer none, .int .u64 0, .pointer none, .bool false, .int .u64 0, .pointer none, .int .u64 0, .pointer none] 84)).alloc (.cells #[.int .i64 0, .slice none 0 0, .int .i64 0, .slice none 0 0, .int .i64 0, .slice none 0 0, .int .i64 0, .slice none 0 0] 86)) := (b10_new ((w.alloc (.cells #[.int .i64 N1, .int .i64 D1] 65)).alloc (.cells #[.int .i64 N2, .int .i64 D2] 65)) (by simp)).keep (bl1 _ _)
  have V0 : B8 (w.heap.size + 1 + 1 + 1) ((((w.alloc (.cells #[.int .i64 N1, .int .i64 D1] 65)).alloc (.cells #[.int .i64 N2, .int .i64 D2] 65)).alloc (.cells #[.bool false, .int .u64 0, .pointer none, .int .u64 0, .pointer none, .bool false, .int .u64 0, .pointer none, .int .u64 0, .pointer none] 84)).alloc (.cells #[.int .i64 0, .slice none 0 0, .int .i64 0, .slice none 0 0, .int .i64 0, .slice none 0 0, .int .i64 0, .slice none 0 0] 86)) := b8_new (((w.alloc (.cells #[.int .i64 N1, .int .i64 D1] 65)).alloc (.cells #[.int .i64 N2, .int .i64 D2] 65)).alloc (.cells #[.bool false, .int .u64 0, .pointer none, .int .u64 0, .pointer none, .bool false, .int .u64 0, .pointer none, .int .u64 0, .pointer none] 84)) (by simp)
  have K0 := Lib.hid (And.intro k0 (And.intro U0 V0))
  have X2 := Lib.hid X2
  clear k0 U0 V0
  go_enter Tryz.func60, Tryz.ntmps60
  go_wp2_with fail
  refine (CA.out _).mono ?_
  rintro e w1 ⟨hb, u, v, rfl, hu, hv⟩
  have k1 := Below.thru K0.out.1 K0.out.1.size hb
  have U1 := K0.out.2.1.keep hb
  have V1 := K0.out.2.2.keep hb
  have z1 : w.heap.size + 4 ≤ w1.heap.size := by have := V1.lt; omega
  have X2 := X2.out.keep hb
  obtain ⟨s1, x1, p1, y1, q1, rfl⟩ := hu.agg
  obtain ⟨t1, f1, l1, c1, u1, hh1, m1, cc1, rfl⟩ := hv.agg
  have A1 := (Hq.new hu).keep (bl1 _ (.cells #[.int .i64 t1, .slice f1 l1 c1, .int .i64 u1, .slice hh1 m1 cc1] 44))
  have RA1 := HR.new (hv.keep (bl1 w1 (.cells #[.bool s1, .int .u64 x1, .pointer p1, .int .u64 y1, .pointer q1] 33)) (Nat.le_refl _))
  rw [World.size_alloc] at RA1
  have kk := bl2 w1 (.cells #[.bool s1, .int .u64 x1, .pointer p1, .int .u64 y1, .pointer q1] 33) (.cells #[.int .i64 t1, .slice f1 l1 c1, .int .i64 u1, .slice hh1 m1 cc1] 44)
  have X2 := X2.keep kk
  have K1 := Lib.hid (And.intro (Below.thru k1 k1.size kk) (And.intro (U1.keep kk) (And.intro (V1.keep kk) (And.intro A1 RA1))))
  obtain ⟨d1, d2⟩ := X2.cells
  clear hu hv hb k1 U1 V1 A1 RA1 kk X2 K0
  go_wp2_with fail
  refine (CB.out _).mono ?_
  rintro e w2 ⟨hb, u, v, rfl, hu, hv⟩
  obtain ⟨k1, U1, V1, A1, RA1⟩ := K1.out
  have k2 := Below.thru k1 k1.size hb
  have U2 := U1.keep hb
  have V2 := V1.keep hb
  have A2 := A1.keep hb
  have RA2 := RA1.keep hb
  have z2 : w1.heap.size + 2 ≤ w2.heap.size := by have := RA2.r4.lt; omega
  obtain ⟨s2, x2, p2, y2, q2, rfl⟩ := hu.agg
  obtain ⟨t2, f2, l2, c2, u2, hh2, m2, cc2, rfl⟩ := hv.agg
  have B2 := (Hq.new hu).keep (bl1 _ (.cells #[.int .i64 t2, .slice f2 l2 c2, .int .i64 u2, .slice hh2 m2 cc2] 44))
  have RB2 := HR.new (hv.keep (bl1 w2 (.cells #[.bool s2, .int .u64 x2, .pointer p2, .int .u64 y2, .pointer q2] 33)) (Nat.le_refl _))
  rw [World.size_alloc] at RB2
  have kk := bl2 w2 (.cells #[.bool s2, .int .u64 x2, .pointer p2, .int .u64 y2, .pointer q2] 33) (.cells #[.int .i64 t2, .slice f2 l2 c2, .int .i64 u2, .slice hh2 m2 cc2] 44)
  have S : PB4 w a b w1.heap.size (w1.heap.size + 1) w2.heap.size (w2.heap.size + 1) _ := ⟨Below.thru k2 k2.size kk, U2.keep kk, V2.keep kk, A2.keep kk, RA2.keep kk, B2, RB2⟩
  have S := Lib.hid S
  clear hu hv hb k1 U1 V1 A1 RA1 k2 U2 V2 A2 RA2 B2 RB2 kk K1 d1 d2
  go_upto_region 3 with fail
  go_cut [] (fun wx => Below w.heap.size w wx ∧ Hvv (w.heap.size + 1 + 1) a b wx ∧ HV (w.heap.size + 1 + 1 + 1) a b wx)
  case first =>
    rename_i J K' hJ hK
    refine wp_region_flt D60p (tab60p a b) 6 (fun s w' => PB4 w a b w1.heap.size (w1.heap.size + 1) w2.heap.size (w2.heap.size + 1) w' ∧ (7 ≤ s → Hvv (w.heap.size + 1 + 1) a b w') ∧ (8 ≤ s → HV (w.heap.size + 1 + 1 + 1) a b w')) (by kernel_rfl) (by kernel_rfl) (by kernel_rfl) (by kernel_rfl) (by decide) (by kernel_rfl) (fun _ _ _ h hb => ⟨h.1.keep hb, fun h3 => (h.2.1 h3).keep hb, fun h3 => (h.2.2 h3).keep hb⟩) ⟨S.out.keep (Below.refl _ _).drew, fun h => by omega, fun h => by omega⟩ ?_ ?_ ?_
    · refine .cons (fun s f w' hI hs => ?_) ?_
      · obtain ⟨s, x, y, p, q, h1, h2⟩ := hI.1.qa
        exact ⟨wanted_none rfl, _, rfl, .val (rn_load61 rfl (fr_old rfl rfl) h1) ⟨Below.refl _ _, h2⟩⟩
      refine .cons (fun s f w' hI hs => ?_) ?_
      · obtain ⟨s, x, y, p, q, h1, h2⟩ := hI.1.qb
        exact ⟨wanted_none rfl, _, rfl, .val (rn_load61 rfl (fr_old rfl rfl) h1) ⟨Below.refl _ _, h2⟩⟩
      refine .cons (fun s f w' hI hs => ?_) ?_
      · have h1 : Rr w' (f 20) a.num a.den := hs 20 (by kernel_rfl)
        have h2 : Rr w' (f 21) b.num b.den := hs 21 (by kernel_rfl)
        obtain ⟨s1, x1, p1, y1, q1, e1⟩ := h1.agg
        obtain ⟨s2, x2, p2, y2, q2, e2⟩ := h2.agg
        rw [e1] at h1; rw [e2] at h2
        exact ⟨wanted_none rfl, _, rfl, .val (rn_build84 rfl ((fr_own rfl rfl).trans e1) ((fr_own rfl rfl).trans e2)) ⟨Below.refl _ _, _, _, _, _, _, _, _, _, _, _, rfl, h1, h2⟩⟩
      refine .cons (fun s f w' hI hs => ?_) ?_
      · obtain ⟨t1, f1, l1, g1, u1, h1, m1, k1, e1, e2⟩ := hI.1.ra
        exact ⟨wanted_none rfl, _, rfl, .val (rn_load44 rfl (fr_old rfl rfl) e1) ⟨Below.refl _ _, e2⟩⟩
      refine .cons (fun s f w' hI hs => ?_) ?_
      · obtain ⟨t1, f1, l1, g1, u1, h1, m1, k1, e1, e2⟩ := hI.1.rb
        exact ⟨wanted_none rfl, _, rfl, .val (rn_load44 rfl (fr_old rfl rfl) e1) ⟨Below.refl _ _, e2⟩⟩
      refine .cons (fun s f w' hI hs => ?_) .nil
      have j1 : RRv w' (f 23) a.num (a.den : Int) := hs 23 (by kernel_rfl)
      have j2 : RRv w' (f 24) b.num (b.den : Int) := hs 24 (by kernel_rfl)
      obtain ⟨t1, f1, l1, c1, u1, hh1, m1, cc1, e1⟩ := j1.agg
      obtain ⟨t2, f2, l2, c2, u2, hh2, m2, cc2, e2⟩ := j2.agg
      rw [e1] at j1; rw [e2] at j2
      exact ⟨wanted_none rfl, _, rfl, .val (rn_build86 rfl ((fr_own rfl rfl).trans e1) ((fr_own rfl rfl).trans e2)) ⟨Below.refl _ _, _, _, _, _, _, _, _, _, _, _, _, _, _, _, _, _, rfl, j1, j2⟩⟩
    · refine .cons (fun f w' hI hs => ⟨wanted_none rfl, rfl, ?_⟩) ?_
      · have hv : Vv w' (f 22) a b := hs 22 (by kernel_rfl)
        obtain ⟨s1, x1, p1, y1, q1, s2, x2, p2, y2, q2, e⟩ := hv.agg
        rw [e] at hv
        have hz := hI.1.u
        have hg := grown10 w' (w.heap.size + 1 + 1) (.bool s1) (.int .u64 x1) (.pointer p1) (.int .u64 y1) (.pointer q1) (.bool s2) (.int .u64 x2) (.pointer p2) (.int .u64 y2) (.pointer q2)
        exact .skip (rn_store84 rfl (fr_old rfl rfl) ((fr_own rfl rfl).trans e) hz) ⟨⟨⟨below10 hI.1.k (by omega) _ _ _ _ _ _ _ _ _ _, (Hvv.stored hz hv).bx, hI.1.v.other hg (by omega), hI.1.qa.st hz.odd hg (by omega), hI.1.ra.st hz.noI hg (by omega), hI.1.qb.st hz.odd hg (by omega), hI.1.rb.st hz.noI hg (by omega)⟩, fun _ => Hvv.stored hz hv, fun h => by omega⟩, tab60p_st hz.odd hz.noI hg⟩
      refine .cons (fun f w' hI hs => ⟨wanted_none rfl, rfl, ?_⟩) .nil
      have hv : RVv w' (f 25) a b := hs 25 (by kernel_rfl)
      obtain ⟨t1, f1, l1, c1, u1, hh1, m1, cc1, t2, f2, l2, c2, u2, hh2, m2, cc2, e⟩ := hv.agg
      rw [e] at hv
      have hz := hI.1.v
      have hg := grown8 w' (w.heap.size + 1 + 1 + 1) (.int .i64 t1) (.slice f1 l1 c1) (.int .i64 u1) (.slice hh1 m1 cc1) (.int .i64 t2) (.slice f2 l2 c2) (.int .i64 u2) (.slice hh2 m2 cc2)
      exact .skip (rn_store86 rfl (fr_old rfl rfl) ((fr_own rfl rfl).trans e) hz) ⟨⟨⟨below8 hI.1.k (by omega) _ _ _ _ _ _ _ _, hI.1.u.other hg (by omega), (HV.stored hz hv).bx, hI.1.qa.st hz.odd hg (by omega), hI.1.ra.st hz.noI hg (by omega), hI.1.qb.st hz.odd hg (by omega), hI.1.rb.st hz.noI hg (by omega)⟩, fun _ => (hI.2.1 (by decide)).st hz.odd hg (by omega), fun _ => HV.stored hz hv⟩, tab60p_st hz.odd hz.noI hg⟩
    · intro f w' h _
      refine hK _ _ (Met.intro (hJ _ _ ?_))
      (repeat apply Exists.intro)
      refine ⟨?_, rfl⟩
      exact ⟨h.1.k, h.2.1 (by decide), h.2.2 (by decide)⟩
  case rest =>
    obtain ⟨kf, ⟨s1, x1, p1, y1, q1, s2, x2, p2, y2, q2, e1, e2⟩, ⟨t1, f1, l1, c1, u1, hh1, m1, cc1, t2, f2, l2, c2, u2, hh2, m2, cc2, e3, e4⟩⟩ := hcut
    have i0 := cell_blk (i := 0) e1
    have i1 := cell_blk (i := 1) e1
    have i2 := cell_blk (i := 2) e1
    have i3 := cell_blk (i := 3) e1
    have i4 := cell_blk (i := 4) e1
    have i5 := cell_blk (i := 5) e1
    have i6 := cell_blk (i := 6) e1
    have i7 := cell_blk (i := 7) e1
    have i8 := cell_blk (i := 8) e1
    have i9 := cell_blk (i := 9) e1
    have j0 := cell_blk (i := 0) e3
    have j1 := cell_blk (i := 1) e3
    have j2 := cell_blk (i := 2) e3
    have j3 := cell_blk (i := 3) e3
    have j4 := cell_blk (i := 4) e3
    have j5 := cell_blk (i := 5) e3
    have j6 := cell_blk (i := 6) e3
    have j7 := cell_blk (i := 7) e3
    have KF := Lib.hid kf
    have VV1 := Lib.hid e2
    have VV2 := Lib.hid e4
    clear e1 e2 e3 e4 kf S
    go_wp2
    exact bodyPost_ret (v := .tuple #[.agg #[.bool s1, .int .u64 x1, .pointer p1, .int .u64 y1, .pointer q1, .bool s2, .int .u64 x2, .pointer p2, .int .u64 y2, .pointer q2], .agg #[.int .i64 t1, .slice f1 l1 c1, .int .i64 u1, .slice hh1 m1 cc1, .int .i64 t2, .slice f2 l2 c2, .int .i64 u2, .slice hh2 m2 cc2]]) (by simp [results, Tryz.results60, go_sem, i0, i1, i2, i3, i4, i5, i6, i7, i8, i9, j0, j1, j2, j3, j4, j5, j6, j7]) rfl ⟨KF.out, _, _, rfl, VV1.out, VV2.out⟩
/-! parts -/
theorem Hvv.x {T : Nat} {a b : Rat} {w : World} (h : Hvv T a b w) : Vq T 0 a.num a.den w := by
  obtain ⟨s1, x1, p1, y1, q1, s2, x2, p2, y2, q2, hB, hv⟩ := h
  obtain ⟨_, _, _, _, _, _, _, _, _, _, e, g1, _⟩ := hv
  simp only [Value.agg.injEq, Array.mk.injEq, List.cons.injEq, and_true, Value.bool.injEq, Value.int.injEq, Value.pointer.injEq, true_and] at e
  obtain ⟨rfl, rfl, rfl, rfl, rfl, rfl, rfl, rfl, rfl, rfl⟩ := e
  exact ⟨_, _, _, _, _, ⟨_, _, hB, fun i hi => by rcases i with _ | _ | _ | _ | _ | i <;> first | rfl | omega⟩, g1⟩
theorem Hvv.z {T : Nat} {a b : Rat} {w : World} (h : Hvv T a b w) : Vq T 5 b.num b.den w := by
  obtain ⟨s1, x1, p1, y1, q1, s2, x2, p2, y2, q2, hB, hv⟩ := h
  obtain ⟨_, _, _, _, _, _, _, _, _, _, e, _, g1⟩ := hv
  simp only [Value.agg.injEq, Array.mk.injEq, List.cons.injEq, and_true, Value.bool.injEq, Value.int.injEq, Value.pointer.injEq, true_and] at e
  obtain ⟨rfl, rfl, rfl, rfl, rfl, rfl, rfl, rfl, rfl, rfl⟩ := e
  exact ⟨_, _, _, _, _, ⟨_, _, hB, fun i hi => by rcases i with _ | _ | _ | _ | _ | i <;> first | rfl | omega⟩, g1⟩
theorem rn_call2v {ρ : Operand → Value} {o : Oper} {w : World} {n : FuncId} {t x y : Operand} {ts : Array TypeId} (ho : o.op = .call { callee := .value t, args := #[x, y], argTypes := ts }) (hf : ρ t = .func (.func n) #[] #[]) (hcf : CF n) : (execOp ρ o).run Tryz.prog w = .ok (.enter n #[ρ x, ρ y]) w := by
  unfold execOp; rw [ho]; simp [go_sem, hf]; exact hcf _ _
theorem rn_call3f {ρ : Operand → Value} {o : Oper} {w : World} {n : FuncId} {x y z : Operand} {ts : Array TypeId} (ho : o.op = .call { callee := .value (.func n), args := #[x, y, z], argTypes := ts }) (hf : ρ (.func n) = .func (.func n) #[] #[]) (hcf : CF n) : (execOp ρ o).run Tryz.prog w = .ok (.enter n #[ρ x, ρ y, ρ z]) w := by
  unfold execOp; rw [ho]; simp [go_sem, hf]; exact hcf _ _
theorem OpR.call2v {o : Oper} {a0 : Act} {D : Nat → Bool} {f : Nat → Value} {w : World} {R : Value → World → Prop} {n : FuncId} {tf tx ty : Nat} {ts : Array TypeId} (ho : o.op = .call { callee := .value (.tmp tf), args := #[.tmp tx, .tmp ty], argTypes := ts }) (hcf : CF n) (hf : D tf = true) (hf' : (a0.tmps[tf]?).isSome = true) (hfv : f tf = .func (.func n) #[] #[]) (hx : D tx = true) (hx' : (a0.tmps[tx]?).isSome = true) (hy : D ty = true) (hy' : (a0.tmps[ty]?).isSome = true)
    (h : Calls Tryz.prog n #[f tx, f ty] w fun e w' => ∃ v, e = .returned v ∧ R v w') : OpR Tryz.prog o (fr a0 D f) w R := by
  have e1 : (fr a0 D f).eval (.tmp tf) = .func (.func n) #[] #[] := (fr_own hf hf').trans hfv
  refine .inr (.inr ⟨n, _, rn_call2v ho e1 hcf, ?_⟩)
  rw [fr_own hx hx', fr_own hy hy']
  exact h
structure SP (w0 : World) (a b c d : Rat) (w : World) : Prop where
  k : Below w0.heap.size w0 w
  u : Hvv w0.heap.size a b w
  v : Hvv (w0.heap.size + 1) c d w
  t : B10 (w0.heap.size + 1 + 1) w
theorem SP.keep {w0 w w' : World} {a b c d : Rat} (h : SP w0 a b c d w) (hb : Below w.heap.size w w') : SP w0 a b c d w' := ⟨Below.thru h.k h.k.size hb, h.u.keep hb, h.v.keep hb, h.t.keep hb⟩
def D116 (t : Nat) : Bool := Nat.ble 7 t && Nat.ble t 19
def tab116 (n B : Nat) (a b c d e g : Rat) (t : Nat) : Kd := [.v (.func (.func n) #[] #[]), kp B 0, .q a.num a.den, kp (B + 1) 0, .q c.num c.den, .q e.num e.den, .v (.func (.func n) #[] #[]), kp B 5, .q b.num b.den, kp (B + 1) 5, .q d.num d.den, .q g.num g.den, kvv e g].getD (t - 7) .any
set_option maxHeartbeats 1600000 in
theorem parts_any (n : FuncId) (va vb : Value) (a b c d e g : Rat) (w : World) (ha : Vv w va a b) (hb : Vv w vb c d) (hcf : CF n)
    (h1 : ∀ W v1 v2, Rr W v1 a.num a.den → Rr W v2 c.num c.den → Calls Tryz.prog n #[v1, v2] W (PRq e W)) (h2 : ∀ W v1 v2, Rr W v1 b.num b.den → Rr W v2 d.num d.den → Calls Tryz.prog n #[v1, v2] W (PRq g W)) :
    Calls Tryz.prog 116 #[va, vb, .func (.func n) #[] #[]] w (PVv e g w) := by
  have H1 := Lib.hid h1; have H2 := Lib.hid h2; have HCF := Lib.hid hcf
  obtain ⟨s1, x1, p1, y1, q1, s2, x2, p2, y2, q2, rfl⟩ := ha.agg
  obtain ⟨s3, x3, p3, y3, q3, s4, x4, p4, y4, q4, rfl⟩ := hb.agg
  have S0 : SP w a b c d (((w.alloc (.cells #[.bool s1, .int .u64 x1, .pointer p1, .int .u64 y1, .pointer q1, .bool s2, .int .u64 x2, .pointer p2, .int .u64 y2, .pointer q2] 84)).alloc (.cells #[.bool s3, .int .u64 x3, .pointer p3, .int .u64 y3, .pointer q3, .bool s4, .int .u64 x4, .pointer p4, .int .u64 y4, .pointer q4] 84)).alloc (.cells #[.bool false, .int .u64 0, .pointer none, .int .u64 0, .pointer none, .bool false, .int .u64 0, .pointer none, .int .u64 0, .pointer none] 84)) := by
    refine ⟨bl3 _ _ _ _, ((Hvv.new ha).keep (bl1 _ _)).keep (bl1 _ _), ?_, b10_new _ (by simp)⟩
    have := Hvv.new (hb.keep (bl1 w (.cells #[.bool s1, .int .u64 x1, .pointer p1, .int .u64 y1, .pointer q1, .bool s2, .int .u64 x2, .pointer p2, .int .u64 y2, .pointer q2] 84)) (Nat.le_refl _))
    rw [World.size_alloc] at this
    exact this.keep (bl1 _ _)
  have S := Lib.hid S0
  clear ha hb S0 h1 h2 hcf
  go_enter Tryz.func116, Tryz.ntmps116
  go_upto_region 1 with fail
  go_cut [] (fun wx => Below w.heap.size w wx ∧ Hvv (w.heap.size + 1 + 1) e g wx)
  case first =>
    rename_i J K' hJ hK
    refine wp_region_two D116 (tab116 n w.heap.size a b c d e g) (SP w a b c d) 13 (fun _ _ w' => Below w.heap.size w w' ∧ Hvv (w.heap.size + 1 + 1) e g w') (by kernel_rfl) (by kernel_rfl) (by kernel_rfl) (by kernel_rfl) (by decide) (by kernel_rfl) (fun _ _ h hb => h.keep hb) (S.out.keep (Below.refl _ _).drew) ?_ ?_ ?_
    · refine .cons (fun f w' hI hs => ⟨wanted_none rfl, _, rfl, .val (rn_move rfl) ⟨Below.refl _ _, fr_old rfl rfl⟩⟩) ?_
      refine .cons (fun f w' hI hs => ⟨wanted_none rfl, _, rfl, .val (rn_field71_0 rfl (fr_old rfl rfl)) ⟨Below.refl _ _, rfl⟩⟩) ?_
      refine .cons (fun f w' hI hs => ?_) ?_
      · obtain ⟨s, x, p, y, q, h1, h2⟩ := hI.u.x
        exact ⟨wanted_none rfl, _, rfl, .val (rn_load61c rfl ((fr_own rfl rfl).trans (hs 8 (by kernel_rfl))) h1) ⟨Below.refl _ _, h2⟩⟩
      refine .cons (fun f w' hI hs => ⟨wanted_none rfl, _, rfl, .val (rn_field71_0 rfl (fr_old rfl rfl)) ⟨Below.refl _ _, rfl⟩⟩) ?_
      refine .cons (fun f w' hI hs => ?_) ?_
      · obtain ⟨s, x, p, y, q, h1, h2⟩ := hI.v.x
        exact ⟨wanted_none rfl, _, rfl, .val (rn_load61c rfl ((fr_own rfl rfl).trans (hs 10 (by kernel_rfl))) h1) ⟨Below.refl _ _, h2⟩⟩
      refine .cons (fun f w' hI hs => ⟨wanted_none rfl, _, rfl, .call2v rfl HCF.out rfl rfl (hs 7 (by kernel_rfl)) rfl rfl rfl rfl (PRq.kd (H1.out _ _ _ (hs 9 (by kernel_rfl)) (hs 11 (by kernel_rfl))))⟩) ?_
      refine .cons (fun f w' hI hs => ⟨wanted_none rfl, _, rfl, .val (rn_move rfl) ⟨Below.refl _ _, fr_old rfl rfl⟩⟩) ?_
      refine .cons (fun f w' hI hs => ⟨wanted_none rfl, _, rfl, .val (rn_field71_1 rfl (fr_old rfl rfl)) ⟨Below.refl _ _, rfl⟩⟩) ?_
      refine .cons (fun f w' hI hs => ?_) ?_
      · obtain ⟨s, x, p, y, q, h1, h2⟩ := hI.u.z
        exact ⟨wanted_none rfl, _, rfl, .val (rn_load61c rfl ((fr_own rfl rfl).trans (hs 14 (by kernel_rfl))) h1) ⟨Below.refl _ _, h2⟩⟩
      refine .cons (fun f w' hI hs => ⟨wanted_none rfl, _, rfl, .val (rn_field71_1 rfl (fr_old rfl rfl)) ⟨Below.refl _ _, rfl⟩⟩) ?_
      refine .cons (fun f w' hI hs => ?_) ?_
      · obtain ⟨s, x, p, y, q, h1, h2⟩ := hI.v.z
        exact ⟨wanted_none rfl, _, rfl, .val (rn_load61c rfl ((fr_own rfl rfl).trans (hs 16 (by kernel_rfl))) h1) ⟨Below.refl _ _, h2⟩⟩
      refine .cons (fun f w' hI hs => ⟨wanted_none rfl, _, rfl, .call2v rfl HCF.out rfl rfl (hs 13 (by kernel_rfl)) rfl rfl rfl rfl (PRq.kd (H2.out _ _ _ (hs 15 (by kernel_rfl)) (hs 17 (by kernel_rfl))))⟩) ?_
      refine .cons (fun f w' hI hs => ?_) .nil
      have j1 : Rr w' (f 12) e.num e.den := hs 12 (by kernel_rfl)
      have j2 : Rr w' (f 18) g.num g.den := hs 18 (by kernel_rfl)
      obtain ⟨s1, x1, p1, y1, q1, e1⟩ := j1.agg
      obtain ⟨s2, x2, p2, y2, q2, e2⟩ := j2.agg
      rw [e1] at j1; rw [e2] at j2
      exact ⟨wanted_none rfl, _, rfl, .val (rn_build84 rfl ((fr_own rfl rfl).trans e1) ((fr_own rfl rfl).trans e2)) ⟨Below.refl _ _, _, _, _, _, _, _, _, _, _, _, rfl, j1, j2⟩⟩
    · refine .cons (fun f w' h => ⟨wanted_none rfl, ?_⟩) .nil
      obtain ⟨hI, hs⟩ := (if_pos rfl) ▸ h
      have hv : Vv w' (f 19) e g := hs 19 (by kernel_rfl)
      obtain ⟨s1, x1, p1, y1, q1, s2, x2, p2, y2, q2, e1⟩ := hv.agg
      rw [e1] at hv
      have hz := hI.t
      exact .skip (rn_store84 rfl (fr_old rfl rfl) ((fr_own rfl rfl).trans e1) hz) ⟨below10 hI.k (by omega) _ _ _ _ _ _ _ _ _ _, Hvv.stored hz hv⟩
    · intro f w' h
      refine hK _ _ (Met.intro (hJ _ _ ?_))
      (repeat apply Exists.intro)
      refine ⟨?_, rfl⟩
      exact h
  case rest =>
    obtain ⟨kf, s1, x1, p1, y1, q1, s2, x2, p2, y2, q2, e1, e2⟩ := hcut
    have i0 := cell_blk (i := 0) e1
    have i1 := cell_blk (i := 1) e1
    have i2 := cell_blk (i := 2) e1
    have i3 := cell_blk (i := 3) e1
    have i4 := cell_blk (i := 4) e1
    have i5 := cell_blk (i := 5) e1
    have i6 := cell_blk (i := 6) e1
    have i7 := cell_blk (i := 7) e1
    have i8 := cell_blk (i := 8) e1
    have i9 := cell_blk (i := 9) e1
    have KF := Lib.hid kf
    have VV1 := Lib.hid e2
    clear e1 e2 kf S
    go_wp2
    exact bodyPost_ret (v := .agg #[.bool s1, .int .u64 x1, .pointer p1, .int .u64 y1, .pointer q1, .bool s2, .int .u64 x2, .pointer p2, .int .u64 y2, .pointer q2]) (by simp [results, Tryz.results116, go_sem, i0, i1, i2, i3, i4, i5, i6, i7, i8, i9]) rfl ⟨KF.out, _, rfl, VV1.out⟩
/-! Scale -/
theorem cf116 : CF 116 := fun W args => by go_simp
structure SS66 (w0 : World) (a b k : Rat) (w : World) : Prop where
  kb : Below w0.heap.size w0 w
  u : Hvv w0.heap.size a b w
  v : Hq (w0.heap.size + 1) k.num k.den w
  t : B10 (w0.heap.size + 1 + 1) w
theorem SS66.keep {w0 w w' : World} {a b k : Rat} (h : SS66 w0 a b k w) (hb : Below w.heap.size w w') : SS66 w0 a b k w' := ⟨Below.thru h.kb h.kb.size hb, h.u.keep hb, h.v.keep hb, h.t.keep hb⟩
def D66 (t : Nat) : Bool := Nat.ble 5 t && Nat.ble t 9
def tab66 (a b k : Rat) (t : Nat) : Kd := [kvv a b, .q k.num k.den, .q k.num k.den, kvv k k, kvv (a * k) (b * k)].getD (t - 5) .any
theorem OpR.call3f {o : Oper} {a0 : Act} {D : Nat → Bool} {f : Nat → Value} {w : World} {R : Value → World → Prop} {n g : FuncId} {tx ty : Nat} {ts : Array TypeId} (ho : o.op = .call { callee := .value (.func n), args := #[.tmp tx, .tmp ty, .func g], argTypes := ts }) (hcf : CF n) (hx : D tx = true) (hx' : (a0.tmps[tx]?).isSome = true) (hy : D ty = true) (hy' : (a0.tmps[ty]?).isSome = true)
    (h : Calls Tryz.prog n #[f tx, f ty, .func (.func g) #[] #[]] w fun e w' => ∃ v, e = .returned v ∧ R v w') : OpR Tryz.prog o (fr a0 D f) w R := by
  refine .inr (.inr ⟨n, _, rn_call3f ho rfl hcf, ?_⟩)
  rw [fr_own hx hx', fr_own hy hy']
  exact h
set_option maxHeartbeats 1600000 in
theorem scale_any (va vk : Value) (a b k : Rat) (m l : Nat) (w : World) (ha : Vv w va a b) (hk : Rr w vk k.num k.den) (ba : Bd9 m a) (bb : Bd9 m b) (bk : Bd9 l k) (hl : m + l ≤ 1000) : Calls Tryz.prog 66 #[va, vk] w (PVv (a * k) (b * k) w) := by
  obtain ⟨s1, x1, p1, y1, q1, s2, x2, p2, y2, q2, rfl⟩ := ha.agg
  obtain ⟨s3, x3, p3, y3, q3, rfl⟩ := hk.agg
  have S0 : SS66 w a b k (((w.alloc (.cells #[.bool s1, .int .u64 x1, .pointer p1, .int .u64 y1, .pointer q1, .bool s2, .int .u64 x2, .pointer p2, .int .u64 y2, .pointer q2] 84)).alloc (.cells #[.bool s3, .int .u64 x3, .pointer p3, .int .u64 y3, .pointer q3] 33)).alloc (.cells #[.bool false, .int .u64 0, .pointer none, .int .u64 0, .pointer none, .bool false, .int .u64 0, .pointer none, .int .u64 0, .pointer none] 84)) := by
    refine ⟨bl3 _ _ _ _, ((Hvv.new ha).keep (bl1 _ _)).keep (bl1 _ _), ?_, b10_new _ (by simp)⟩
    have := Hq.new (hk.keep (bl1 w (.cells #[.bool s1, .int .u64 x1, .pointer p1, .int .u64 y1, .pointer q1, .bool s2, .int .u64 x2, .pointer p2, .int .u64 y2, .pointer q2] 84)) (Nat.le_refl _))
    rw [World.size_alloc] at this
    exact this.keep (bl1 _ _)
  have S := Lib.hid S0
  clear ha hk S0
  go_enter Tryz.func66, Tryz.ntmps66
  go_upto_region 1 with fail
  go_cut [] (fun wx => Below w.heap.size w wx ∧ Hvv (w.heap.size + 1 + 1) (a * k) (b * k) wx)
  case first =>
    rename_i J K' hJ hK
    refine wp_region_two0 D66 (tab66 a b k) (SS66 w a b k) 5 (fun _ _ w' => Below w.heap.size w w' ∧ Hvv (w.heap.size + 1 + 1) (a * k) (b * k) w') (by kernel_rfl) (by kernel_rfl) (by kernel_rfl) (by decide) (by kernel_rfl) (fun _ _ h hb => h.keep hb) S.out ?_ ?_ ?_
    · refine .cons (fun f w' hI hs => ?_) ?_
      · obtain ⟨s1, x1, p1, y1, q1, s2, x2, p2, y2, q2, h1, h2⟩ := hI.u
        exact ⟨wanted_none rfl, _, rfl, .val (rn_load84 rfl (fr_old rfl rfl) h1) ⟨Below.refl _ _, h2⟩⟩
      refine .cons (fun f w' hI hs => ?_) ?_
      · obtain ⟨s, x, y, p, q, h1, h2⟩ := hI.v
        exact ⟨wanted_none rfl, _, rfl, .val (rn_load61 rfl (fr_old rfl rfl) h1) ⟨Below.refl _ _, h2⟩⟩
      refine .cons (fun f w' hI hs => ?_) ?_
      · obtain ⟨s, x, y, p, q, h1, h2⟩ := hI.v
        exact ⟨wanted_none rfl, _, rfl, .val (rn_load61 rfl (fr_old rfl rfl) h1) ⟨Below.refl _ _, h2⟩⟩
      refine .cons (fun f w' hI hs => ?_) ?_
      · have j1 : Rr w' (f 6) k.num k.den := hs 6 (by kernel_rfl)
        have j2 : Rr w' (f 7) k.num k.den := hs 7 (by kernel_rfl)
        obtain ⟨s1, x1, p1, y1, q1, e1⟩ := j1.agg
        obtain ⟨s2, x2, p2, y2, q2, e2⟩ := j2.agg
        rw [e1] at j1; rw [e2] at j2
        exact ⟨wanted_none rfl, _, rfl, .val (rn_build84 rfl ((fr_own rfl rfl).trans e1) ((fr_own rfl rfl).trans e2)) ⟨Below.refl _ _, _, _, _, _, _, _, _, _, _, _, rfl, j1, j2⟩⟩
      exact .cons (fun f w' hI hs => ⟨wanted_none rfl, _, rfl, .call3f rfl cf116 rfl rfl rfl rfl (PVv.kd (parts_any 46 _ _ a b k k (a * k) (b * k) _ (hs 5 (by kernel_rfl)) (hs 8 (by kernel_rfl)) cf46 (fun W v1 v2 g1 g2 => rmulR g1 g2 ba bk hl) (fun W v1 v2 g1 g2 => rmulR g1 g2 bb bk hl)))⟩) .nil
    · refine .cons (fun f w' h => ⟨wanted_none rfl, ?_⟩) .nil
      obtain ⟨hI, hs⟩ := (if_pos rfl) ▸ h
      have hv : Vv w' (f 9) (a * k) (b * k) := hs 9 (by kernel_rfl)
      obtain ⟨s1, x1, p1, y1, q1, s2, x2, p2, y2, q2, e1⟩ := hv.agg
      rw [e1] at hv
      have hz := hI.t
      exact .skip (rn_store84 rfl (fr_old rfl rfl) ((fr_own rfl rfl).trans e1) hz) ⟨below10 hI.kb (by omega) _ _ _ _ _ _ _ _ _ _, Hvv.stored hz hv⟩
    · intro f w' h
      refine hK _ _ (Met.intro (hJ _ _ ?_))
      (repeat apply Exists.intro)
      refine ⟨?_, rfl⟩
      exact h
  case rest =>
    obtain ⟨kf, s1, x1, p1, y1, q1, s2, x2, p2, y2, q2, e1, e2⟩ := hcut
    have i0 := cell_blk (i := 0) e1
    have i1 := cell_blk (i := 1) e1
    have i2 := cell_blk (i := 2) e1
    have i3 := cell_blk (i := 3) e1
    have i4 := cell_blk (i := 4) e1
    have i5 := cell_blk (i := 5) e1
    have i6 := cell_blk (i := 6) e1
    have i7 := cell_blk (i := 7) e1
    have i8 := cell_blk (i := 8) e1
    have i9 := cell_blk (i := 9) e1
    have KF := Lib.hid kf
    have VV1 := Lib.hid e2
    clear e1 e2 kf S
    go_wp2
    exact bodyPost_ret (v := .agg #[.bool s1, .int .u64 x1, .pointer p1, .int .u64 y1, .pointer q1, .bool s2, .int .u64 x2, .pointer p2, .int .u64 y2, .pointer q2]) (by simp [results, Tryz.results66, go_sem, i0, i1, i2, i3, i4, i5, i6, i7, i8, i9]) rfl ⟨KF.out, _, rfl, VV1.out⟩
end Go.Proofs.YtjjomjjgoceklaaGreat

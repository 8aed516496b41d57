import Derived.Test.YtjjomjjgoceklaaGreatKbc
import Derived.Test.YtjjomjjgoceklaaGreatKbd
namespace Go.Proofs.YtjjomjjgoceklaaGreat
set_option maxRecDepth 100000
open Go.RowKit

section
variable {P : Program} {ops : Array Oper} {Q : Exit → Act → World → Prop}
/-- from m on each operation comes behind all that stand before it -/
def chainB (ops : Array Oper) (m : Nat) : Bool := (List.range ops.size).all fun i => decide (i < m) || (List.range i).all fun j => (predGo ops i (edgesOf ops i)).contains j
theorem chain_spec {m : Nat} (h : chainB ops m = true) {i : Nat} (hi : i < ops.size) (hm : m ≤ i) {j : Nat} (hj : j < i) : j ∈ predGo ops i (edgesOf ops i) := by
  have h1 := List.all_eq_true.1 h i (List.mem_range.2 hi)
  have h2 : decide (i < m) = false := by simpa using hm
  rw [h2, Bool.false_or] at h1
  simpa using List.all_eq_true.1 h1 j (List.mem_range.2 hj)
/-- .. and stores at its end -/
theorem wp_region_kdt {id : Nat} {a0 : Act} {w : World} (D : Nat → Bool) (tab : Nat → Kd) (I : World → Prop) (m : Nat) (T : Nat → (Nat → Value) → World → Prop) (hm : P.follows .mixedOrders = true) (hback : backB .any ops = true) (hu : uniqB ops = true) (hch : chainB ops m = true) (hms : m < ops.size)
    (hD : (ops.toList.filterMap (·.dst)).all D = true) (hI : ∀ w w', I w → Below w.heap.size w w' → I w') (h0 : I { w with drawn := w.drawn + 1 })
    (hstep : AllFrom (fun i o => i < m → ∀ f w, I w → (∀ d, (predD ops i).contains d = true → kd (tab d) (f d) w) →
      Region.wanted o (yielded ops (fr a0 D f).tmps) = true ∧ ∃ d, o.dst = some d ∧ OpR P o (fr a0 D f) w fun v w' => Below w.heap.size w w' ∧ kd (tab d) v w') 0 ops.toList)
    (htail : AllFrom (fun i o => m ≤ i → ∀ f w, (if i = m then (I w ∧ ∀ d, (predD ops i).contains d = true → kd (tab d) (f d) w) else T i f w) →
      Region.wanted o (yielded ops (fr a0 D f).tmps) = true ∧ OpR P o (fr a0 D f) w fun v w' => T (i + 1) (updo f o.dst v) w') 0 ops.toList)
    (hend : ∀ f w, T ops.size f w → Q .normal (fr a0 D f) w) : (Code.region id ops true).wp P Q a0 w := by
  let J : (Nat → Bool) → (Nat → Value) → World → Prop := fun L f w => Closed ops L ∧ ((∃ i, (m < i ∧ i ≤ ops.size) ∧ (∀ j, j < i → L j = true) ∧ (∀ j, i ≤ j → L j = false) ∧ T i f w) ∨ ((∀ j, m ≤ j → L j = false) ∧ I w ∧ KdAll tab ops L f w))
  have hclosed : ∀ (L : Nat → Bool) (n : Nat), Closed ops L → (∀ j ∈ edgesOf ops n, L j = true) → Closed ops (dn L n) := by
    intro L n hcl hedge i hi j hj
    unfold dn at hi ⊢
    by_cases e : i = n
    · subst e
      split
      · rfl
      · exact hedge j hj
    · rw [if_neg e] at hi
      split
      · rfl
      · exact hcl i hi j hj
  refine wp_region_fr D J hm hback hD ⟨_, fr_self a0 D, (by intro i h; cases h), .inr ⟨fun _ _ => rfl, h0, (by intro i o d _ h; cases h)⟩⟩ ?_ ?_
  · suffices key : ∀ (n : Nat) (l : List Oper), (∀ i o, l[i]? = some o → ops[n + i]? = some o) →
        AllFrom (fun i o => i < m → ∀ f w, I w → (∀ d, (predD ops i).contains d = true → kd (tab d) (f d) w) → Region.wanted o (yielded ops (fr a0 D f).tmps) = true ∧ ∃ d, o.dst = some d ∧ OpR P o (fr a0 D f) w fun v w' => Below w.heap.size w w' ∧ kd (tab d) v w') n l →
        AllFrom (fun i o => m ≤ i → ∀ f w, (if i = m then (I w ∧ ∀ d, (predD ops i).contains d = true → kd (tab d) (f d) w) else T i f w) → Region.wanted o (yielded ops (fr a0 D f).tmps) = true ∧ OpR P o (fr a0 D f) w fun v w' => T (i + 1) (updo f o.dst v) w') n l →
        AllFrom (fun i o => ∀ L f w, J L f w → L i = false → (∀ e ∈ o.after, Region.binds .any e = true → L e.on = true) →
          Region.wanted o (yielded ops (fr a0 D f).tmps) = true ∧ OpR P o (fr a0 D f) w fun v w' => J (dn L i) (updo f o.dst v) w') n l from key 0 _ (fun i o h => by simpa using h) hstep htail
    intro n l
    induction l generalizing n with
    | nil => intro _ _ _; trivial
    | cons o os ih =>
      intro hget hall htl
      refine ⟨?_, ih (n + 1) (fun i p h => by rw [show n + 1 + i = n + (i + 1) by omega]; exact hget _ _ (by simpa using h)) hall.2 htl.2⟩
      rintro L f w ⟨hcl, hJ⟩ hL hdep
      have ho : ops[n]? = some o := hget 0 o (by simp)
      have hn : n < ops.size := (Array.getElem?_eq_some_iff.1 ho).1
      have hedge : ∀ j ∈ edgesOf ops n, L j = true := by
        intro j hj
        unfold edgesOf at hj
        rw [ho] at hj
        obtain ⟨e, he, rfl⟩ := List.mem_map.1 hj
        obtain ⟨he1, he2⟩ := List.mem_filter.1 he
        exact hdep e (by simpa using he1) he2
      have hpr := predGo_ok hcl n _ hedge
      have hpre : KdAll tab ops L f w → ∀ d, (predD ops n).contains d = true → kd (tab d) (f d) w := by
        intro hk d hd
        unfold predD at hd
        obtain ⟨j, hj, hjd⟩ := List.mem_filterMap.1 (List.contains_iff_mem.1 hd)
        obtain ⟨oj, hoj, hdj⟩ := Option.bind_eq_some_iff.1 hjd
        exact hk j oj d hoj (hpr j hj) hdj
      rcases Nat.lt_or_ge n m with hnm | hnm
      · rcases hJ with ⟨i, hi, hall', _, _⟩ | ⟨hfar, hIw, hk⟩
        · rw [hall' n (by omega)] at hL; cases hL
        obtain ⟨hw, d, hd, hr⟩ := hall.1 hnm f w hIw (hpre hk)
        refine ⟨hw, ?_⟩
        have step : ∀ v w', (Below w.heap.size w w' ∧ kd (tab d) v w') → J (dn L n) (updo f o.dst v) w' := by
          rintro v w' ⟨hb, hkd⟩
          refine ⟨hclosed _ _ hcl hedge, .inr ⟨fun j hj => by unfold dn; rw [if_neg (by omega)]; exact hfar j hj, hI _ _ hIw hb, ?_⟩⟩
          intro i p d' hp hi hd'
          rw [hd]
          unfold dn at hi
          by_cases e : i = n
          · subst e
            rw [ho] at hp
            cases hp
            rw [hd] at hd'
            cases hd'
            simpa [updo, upd] using hkd
          · rw [if_neg e] at hi
            have hne : d' ≠ d := fun he => e (uniq_spec hu hp ho (he ▸ hd') hd)
            simp only [updo, upd, if_neg hne]
            exact (hk i p d' hp hi hd').keep hb
        rcases hr with ⟨v, w', h1, h2⟩ | ⟨w', h1, h2⟩ | ⟨g, args, h1, h2⟩
        · exact .inl ⟨v, w', h1, step _ _ h2⟩
        · exact .inr (.inl ⟨w', h1, step _ _ h2⟩)
        · exact .inr (.inr ⟨g, args, h1, h2.mono fun e w' ⟨v, he, hr⟩ => ⟨v, he, step _ _ hr⟩⟩)
      · have hprev : ∀ j, j < n → L j = true := fun j hj => hpr j (chain_spec hch hn hnm hj)
        have harg : if n = m then (I w ∧ ∀ d, (predD ops n).contains d = true → kd (tab d) (f d) w) else T n f w := by
          rcases hJ with ⟨i, hi, hall', hfar, hT⟩ | ⟨hfar, hIw, hk⟩
          · have hin : i = n := by
              rcases Nat.lt_trichotomy i n with h | h | h
              · have := hfar i (Nat.le_refl _); rw [hprev i h] at this; cases this
              · exact h
              · have := hall' n h; rw [this] at hL; cases hL
            subst hin
            rw [if_neg (by omega)]
            exact hT
          · by_cases e : n = m
            · rw [if_pos e]; exact ⟨hIw, hpre hk⟩
            · have := hfar m (Nat.le_refl _); rw [hprev m (by omega)] at this; cases this
        obtain ⟨hw, hr⟩ := htl.1 hnm f w harg
        have hrest : ∀ j, n < j → L j = false := by
          rcases hJ with ⟨i, hi, hall', hfar, hT⟩ | ⟨hfar, _, _⟩
          · intro j hj
            refine hfar j ?_
            rcases Nat.lt_or_ge n i with h | h
            · rw [hall' n h] at hL; cases hL
            · omega
          · intro j hj; exact hfar j (by omega)
        refine ⟨hw, ?_⟩
        have step : ∀ v w', T (n + 1) (updo f o.dst v) w' → J (dn L n) (updo f o.dst v) w' := fun v w' hT =>
          ⟨hclosed _ _ hcl hedge, .inl ⟨n + 1, ⟨by omega, hn⟩, fun j hj => by unfold dn; split; rfl; exact hprev j (by omega), fun j hj => by unfold dn; rw [if_neg (by omega)]; exact hrest j (by omega), hT⟩⟩
        rcases hr with ⟨v, w', h1, h2⟩ | ⟨w', h1, h2⟩ | ⟨g, args, h1, h2⟩
        · exact .inl ⟨v, w', h1, step _ _ h2⟩
        · exact .inr (.inl ⟨w', h1, step _ _ h2⟩)
        · exact .inr (.inr ⟨g, args, h1, h2.mono fun e w' ⟨v, he, hr⟩ => ⟨v, he, step _ _ hr⟩⟩)
  · rintro L f w ⟨_, hJ⟩ hall
    rcases hJ with ⟨i, hi, _, hfar, hT⟩ | ⟨hfar, _, _⟩
    · rcases Nat.lt_or_ge i ops.size with h | h
      · have := hfar i (Nat.le_refl _); rw [hall i h] at this; cases this
      · obtain rfl : i = ops.size := by omega
        exact hend f w hT
    · have := hfar m (Nat.le_refl _); rw [hall m hms] at this; cases this
theorem AllFrom.of {G : Nat → Oper → Prop} {n : Nat} {l : List Oper} (h : ∀ i o, l[i]? = some o → G (n + i) o) : AllFrom G n l := by
  induction l generalizing n with
  | nil => trivial
  | cons x xs ih => exact ⟨h 0 x (by simp), ih fun i o ho => by have := h (i + 1) o (by simpa using ho); rwa [show n + (i + 1) = n + 1 + i by omega] at this⟩
/-- the same, the two parts apart -/
theorem wp_region_two {id : Nat} {a0 : Act} {w : World} (D : Nat → Bool) (tab : Nat → Kd) (I : World → Prop) (m : Nat) (T : Nat → (Nat → Value) → World → Prop) (hm : P.follows .mixedOrders = true) (hback : backB .any ops = true) (hu : uniqB ops = true) (hch : chainB ops m = true) (hms : m < ops.size)
    (hD : (ops.toList.filterMap (·.dst)).all D = true) (hI : ∀ w w', I w → Below w.heap.size w w' → I w') (h0 : I { w with drawn := w.drawn + 1 })
    (hstep : AllFrom (fun i o => ∀ f w, I w → (∀ d, (predD ops i).contains d = true → kd (tab d) (f d) w) →
      Region.wanted o (yielded ops (fr a0 D f).tmps) = true ∧ ∃ d, o.dst = some d ∧ OpR P o (fr a0 D f) w fun v w' => Below w.heap.size w w' ∧ kd (tab d) v w') 0 (ops.toList.take m))
    (htail : AllFrom (fun i o => ∀ f w, (if i = m then (I w ∧ ∀ d, (predD ops i).contains d = true → kd (tab d) (f d) w) else T i f w) →
      Region.wanted o (yielded ops (fr a0 D f).tmps) = true ∧ OpR P o (fr a0 D f) w fun v w' => T (i + 1) (updo f o.dst v) w') m (ops.toList.drop m))
    (hend : ∀ f w, T ops.size f w → Q .normal (fr a0 D f) w) : (Code.region id ops true).wp P Q a0 w := by
  refine wp_region_kdt D tab I m T hm hback hu hch hms hD hI h0 ?_ ?_ hend
  · refine .of fun i o ho => ?_
    rw [Nat.zero_add]
    intro hi
    have := hstep.get (i := i) (o := o) (by rw [List.getElem?_take_of_lt hi]; exact ho)
    rw [Nat.zero_add] at this
    exact this
  · refine .of fun i o ho => ?_
    rw [Nat.zero_add]
    intro hi
    have := htail.get (i := i - m) (o := o) (by rw [List.getElem?_drop, show m + (i - m) = i by omega]; exact ho)
    rw [show m + (i - m) = i by omega] at this
    exact this
/-- among the operations from m on each comes behind the former -/
def tailB (ops : Array Oper) (m : Nat) : Bool := (List.range ops.size).all fun i => decide (i ≤ m) || (edgesOf ops i).contains (i - 1)
theorem tail_spec {m : Nat} (h : tailB ops m = true) {i : Nat} (hi : i < ops.size) (hm : m < i) : (i - 1) ∈ edgesOf ops i := by
  have h1 := List.all_eq_true.1 h i (List.mem_range.2 hi)
  have h2 : decide (i ≤ m) = false := by simpa using hm
  rw [h2, Bool.false_or] at h1
  simpa using h1
/-- loads, calls and new blocks in whatever order, the stores from m on one behind the other between them -/
theorem wp_region_flt {id : Nat} {a0 : Act} {w : World} (D : Nat → Bool) (tab : Nat → Kd) (m : Nat) (I : Nat → World → Prop) (hm : P.follows .mixedOrders = true) (hback : backB .any ops = true) (hu : uniqB ops = true) (hch : tailB ops m = true) (hms : m ≤ ops.size)
    (hD : (ops.toList.filterMap (·.dst)).all D = true) (hI : ∀ i w w', I i w → Below w.heap.size w w' → I i w') (h0 : I m { w with drawn := w.drawn + 1 })
    (hstep : AllFrom (fun i o => ∀ s f w, I s w → (∀ d, (predD ops i).contains d = true → kd (tab d) (f d) w) →
      Region.wanted o (yielded ops (fr a0 D f).tmps) = true ∧ ∃ d, o.dst = some d ∧ OpR P o (fr a0 D f) w fun v w' => Below w.heap.size w w' ∧ kd (tab d) v w') 0 (ops.toList.take m))
    (htail : AllFrom (fun i o => ∀ f w, I i w → (∀ d, (predD ops i).contains d = true → kd (tab d) (f d) w) →
      Region.wanted o (yielded ops (fr a0 D f).tmps) = true ∧ o.dst = none ∧ OpR P o (fr a0 D f) w fun _ w' => I (i + 1) w' ∧ ∀ d v, kd (tab d) v w → kd (tab d) v w') m (ops.toList.drop m))
    (hend : ∀ f w, I ops.size w → (∀ d, (ops.toList.filterMap (·.dst)).contains d = true → kd (tab d) (f d) w) → Q .normal (fr a0 D f) w) : (Code.region id ops true).wp P Q a0 w := by
  let J : (Nat → Bool) → (Nat → Value) → World → Prop := fun L f w => Closed ops L ∧ ∃ i, (m ≤ i ∧ i ≤ ops.size) ∧ (∀ j, m ≤ j → j < i → L j = true) ∧ (∀ j, i ≤ j → L j = false) ∧ I i w ∧ KdAll tab ops L f w
  have hclosed : ∀ (L : Nat → Bool) (n : Nat), Closed ops L → (∀ j ∈ edgesOf ops n, L j = true) → Closed ops (dn L n) := by
    intro L n hcl hedge i hi j hj
    unfold dn at hi ⊢
    by_cases e : i = n
    · subst e
      split
      · rfl
      · exact hedge j hj
    · rw [if_neg e] at hi
      split
      · rfl
      · exact hcl i hi j hj
  refine wp_region_fr D J hm hback hD ⟨_, fr_self a0 D, (by intro i h; cases h), m, ⟨Nat.le_refl _, hms⟩, fun j h1 h2 => by omega, fun _ _ => rfl, h0, (by intro i o d _ h; cases h)⟩ ?_ ?_
  · refine .of fun n o ho => ?_
    rw [Nat.zero_add]
    rintro L f w ⟨hcl, i, ⟨hi1, hi2⟩, hdone, hfar, hIw, hk⟩ hL hdep
    have ho : ops[n]? = some o := by simpa using ho
    have hn : n < ops.size := (Array.getElem?_eq_some_iff.1 ho).1
    have hedge : ∀ j ∈ edgesOf ops n, L j = true := by
      intro j hj
      unfold edgesOf at hj
      rw [ho] at hj
      obtain ⟨e, he, rfl⟩ := List.mem_map.1 hj
      obtain ⟨he1, he2⟩ := List.mem_filter.1 he
      exact hdep e (by simpa using he1) he2
    have hpr := predGo_ok hcl n _ hedge
    have hpre : ∀ d, (predD ops n).contains d = true → kd (tab d) (f d) w := by
      intro d hd
      unfold predD at hd
      obtain ⟨j, hj, hjd⟩ := List.mem_filterMap.1 (List.contains_iff_mem.1 hd)
      obtain ⟨oj, hoj, hdj⟩ := Option.bind_eq_some_iff.1 hjd
      exact hk j oj d hoj (hpr j hj) hdj
    rcases Nat.lt_or_ge n m with hnm | hnm
    · have hg := hstep.get (i := n) (o := o) (by rw [List.getElem?_take_of_lt hnm]; simpa using ho)
      rw [Nat.zero_add] at hg
      obtain ⟨hw, d, hd, hr⟩ := hg i f w hIw hpre
      refine ⟨hw, ?_⟩
      have step : ∀ v w', (Below w.heap.size w w' ∧ kd (tab d) v w') → J (dn L n) (updo f o.dst v) w' := by
        rintro v w' ⟨hb, hkd⟩
        refine ⟨hclosed _ _ hcl hedge, i, ⟨hi1, hi2⟩, fun j h1 h2 => by unfold dn; rw [if_neg (by omega)]; exact hdone j h1 h2, fun j hj => by unfold dn; rw [if_neg (by omega)]; exact hfar j hj, hI _ _ _ hIw hb, ?_⟩
        intro i' p d' hp hi' hd'
        rw [hd]
        unfold dn at hi'
        by_cases e : i' = n
        · subst e
          rw [ho] at hp
          cases hp
          rw [hd] at hd'
          cases hd'
          simpa [updo, upd] using hkd
        · rw [if_neg e] at hi'
          have hne : d' ≠ d := fun he => e (uniq_spec hu hp ho (he ▸ hd') hd)
          simp only [updo, upd, if_neg hne]
          exact (hk i' p d' hp hi' hd').keep hb
      rcases hr with ⟨v, w', h1, h2⟩ | ⟨w', h1, h2⟩ | ⟨g, args, h1, h2⟩
      · exact .inl ⟨v, w', h1, step _ _ h2⟩
      · exact .inr (.inl ⟨w', h1, step _ _ h2⟩)
      · exact .inr (.inr ⟨g, args, h1, h2.mono fun e w' ⟨v, he, hr⟩ => ⟨v, he, step _ _ hr⟩⟩)
    · have hin : i = n := by
        rcases Nat.lt_trichotomy i n with h | h | h
        · have h1 := hedge _ (tail_spec hch hn (by omega))
          rw [hfar (n - 1) (by omega)] at h1
          cases h1
        · exact h
        · have := hdone n hnm h; rw [this] at hL; cases hL
      subst hin
      have hg := htail.get (i := i - m) (o := o) (by rw [List.getElem?_drop, show m + (i - m) = i by omega]; simpa using ho)
      rw [show m + (i - m) = i by omega] at hg
      obtain ⟨hw, hdn, hr⟩ := hg f w hIw hpre
      refine ⟨hw, ?_⟩
      have step : ∀ v w', (I (i + 1) w' ∧ ∀ d v, kd (tab d) v w → kd (tab d) v w') → J (dn L i) (updo f o.dst v) w' := by
        rintro v w' ⟨hI', hkk⟩
        rw [hdn]
        refine ⟨hclosed _ _ hcl hedge, i + 1, ⟨by omega, hn⟩, fun j h1 h2 => by unfold dn; split; rfl; exact hdone j h1 (by omega), fun j hj => by unfold dn; rw [if_neg (by omega)]; exact hfar j (by omega), hI', ?_⟩
        intro i' p d' hp hi' hd'
        unfold dn at hi'
        by_cases e : i' = i
        · subst e
          rw [ho] at hp
          cases hp
          rw [hdn] at hd'
          cases hd'
        · rw [if_neg e] at hi'
          exact hkk _ _ (hk i' p d' hp hi' hd')
      rcases hr with ⟨v, w', h1, h2⟩ | ⟨w', h1, h2⟩ | ⟨g, args, h1, h2⟩
      · exact .inl ⟨v, w', h1, step _ _ h2⟩
      · exact .inr (.inl ⟨w', h1, step _ _ h2⟩)
      · exact .inr (.inr ⟨g, args, h1, h2.mono fun e w' ⟨v, he, hr⟩ => ⟨v, he, step _ _ hr⟩⟩)
  · rintro L f w ⟨_, i, ⟨hi1, hi2⟩, _, hfar, hIw, hk⟩ hall
    have hie : i = ops.size := by
      rcases Nat.lt_or_ge i ops.size with h | h
      · have := hfar i (Nat.le_refl _); rw [hall i h] at this; cases this
      · omega
    subst hie
    refine hend f w hIw fun d hd => ?_
    obtain ⟨o, ho, hod⟩ := List.mem_filterMap.1 (List.contains_iff_mem.1 hd)
    obtain ⟨i, hi⟩ := List.getElem?_of_mem ho
    have hi' : ops[i]? = some o := by simpa using hi
    exact hk i o d hi' (hall i (Array.getElem?_eq_some_iff.1 hi').1) hod
end
section
variable {o : Oper} {w : World} {R : Value → World → Prop}
theorem OpR.val {P : Program} {a : Act} {v : Value} {w' : World} (h : (execOp a.eval o).run P w = .ok (.value v) w') (hR : R v w') : OpR P o a w R := .inl ⟨v, w', h, hR⟩
theorem OpR.skip {P : Program} {a : Act} {w' : World} (h : (execOp a.eval o).run P w = .ok .skip w') (hR : R undef w') : OpR P o a w R := .inr (.inl ⟨w', h, hR⟩)
end
end Go.Proofs.YtjjomjjgoceklaaGreat

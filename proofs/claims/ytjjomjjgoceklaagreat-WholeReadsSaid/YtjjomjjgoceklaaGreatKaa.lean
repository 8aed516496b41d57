import Derived.Orders
import Derived.RegionTactic
import Derived.WalkKit
import Derived.Lib.Hide
/-
A region that draws its order, proved once for all orders: a relation on what has been done, the frame and the world, kept by each operation whose predecessors are done.
-/
namespace Go.Proofs.YtjjomjjgoceklaaGreat
set_option maxRecDepth 100000
open Go.RowKit

section
variable {P : Program} {ops : Array Oper} {Q : Exit → Act → World → Prop} {md : Region.Mode}

/-- what is done, and operation i with it -/
def dn (L : Nat → Bool) (i : Nat) : Nat → Bool := fun j => if j = i then true else L j
/-- each edge goes back to a smaller number -/
def backB (md : Region.Mode) (ops : Array Oper) : Bool := (List.range ops.size).all fun i => ((ops[i]?).map fun o => o.after.all fun e => !Region.binds md e || decide (e.on < i)).getD true
theorem backB_spec (h : backB md ops = true) {i : Nat} {o : Oper} (ho : ops[i]? = some o) : ∀ e ∈ o.after, Region.binds md e = true → e.on < i := by
  have hi : i < ops.size := (Array.getElem?_eq_some_iff.1 ho).1
  have h1 := List.all_eq_true.1 h i (List.mem_range.2 hi)
  rw [ho] at h1
  simp only [Option.map_some, Option.getD_some] at h1
  intro e he hb
  have h2 := (Array.all_eq_true_iff_forall_mem.1 h1) e he
  simp only [hb, Bool.not_true, Bool.false_or, decide_eq_true_eq] at h2
  exact h2
def liOf (listed : Array Bool) : Nat → Bool := fun i => listed.getD i false
def open' (n : Nat) (L : Nat → Bool) : Nat := ((List.range n).filter fun i => !L i).length
theorem open_dn {n : Nat} {L : Nat → Bool} {i : Nat} (hi : i < n) (hL : L i = false) : open' n (dn L i) + 1 = open' n L := by
  unfold open'
  induction n with
  | zero => omega
  | succ n ih =>
    rw [List.range_succ, List.filter_append, List.filter_append, List.length_append, List.length_append]
    rcases Nat.lt_or_ge i n with h | h
    · have := ih h
      have e : dn L i n = L n := by unfold dn; rw [if_neg (by omega)]
      simp only [List.filter_cons, List.filter_nil, e]
      omega
    · obtain rfl : i = n := by omega
      have e : (List.range i).filter (fun j => !dn L i j) = (List.range i).filter fun j => !L j := by
        apply List.filter_congr
        intro j hj
        have := List.mem_range.1 hj
        unfold dn
        rw [if_neg (by omega)]
      rw [e]
      simp [dn, hL]
theorem liOf_set {listed : Array Bool} {i : Nat} (hi : i < listed.size) : liOf (listed.setIfInBounds i true) = dn (liOf listed) i := by
  funext j
  unfold liOf dn
  by_cases h : j = i
  · subst h; simp [Array.getD_eq_getD_getElem?, hi]
  · simp [Array.getD_eq_getD_getElem?, h, Array.getElem?_setIfInBounds_ne (Ne.symm h)]

theorem wpAny_inv (hback : backB md ops = true) (Φ : (Nat → Bool) → Act → World → Prop)
    (hstep : ∀ L a w i o, ops[i]? = some o → Φ L a w → L i = false → (∀ e ∈ o.after, Region.binds md e = true → L e.on = true) → wpOp P ops Q i (Φ (dn L i)) a w)
    (hend : ∀ L a w, Φ L a w → (∀ i, i < ops.size → L i = true) → Q .normal a w) :
    ∀ fuel (listed : Array Bool) a w, listed.size = ops.size → open' ops.size (liOf listed) ≤ fuel → Φ (liOf listed) a w → wpAny P md ops Q fuel listed a w := by
  have key : ∀ (listed : Array Bool), listed.size = ops.size → Region.ready md ops listed = [] → ∀ i, i < ops.size → liOf listed i = true := by
    intro listed hs hr i
    induction i using Nat.strongRecOn with
    | ind i ih =>
      intro hi
      cases hL : liOf listed i with
      | true => rfl
      | false =>
        exfalso
        have hmem : i ∈ Region.ready md ops listed := by
          unfold Region.ready
          rw [List.mem_filter]
          refine ⟨List.mem_range.2 hi, ?_⟩
          have ho : ops[i]? = some ops[i] := Array.getElem?_eq_getElem hi
          rw [ho]
          simp only [Option.map_some, Option.getD_some, Bool.and_eq_true, Bool.not_eq_true']
          refine ⟨?_, ?_⟩
          · unfold liOf at hL
            rw [Array.getD_eq_getD_getElem?] at hL ⊢
            rw [Array.getElem?_eq_getElem (by omega)] at hL ⊢
            exact hL
          · rw [Array.all_eq_true_iff_forall_mem]
            intro e he
            cases hb : Region.binds md e with
            | false => rfl
            | true =>
              have h1 := backB_spec hback ho e he hb
              have h2 := ih e.on h1 (by omega)
              unfold liOf at h2
              simp [h2]
        rw [hr] at hmem
        cases hmem
  intro fuel
  induction fuel with
  | zero =>
    intro listed a w hs hf hΦ
    have hr : Region.ready md ops listed = [] := by
      cases hr : Region.ready md ops listed with
      | nil => rfl
      | cons i rs =>
        exfalso
        have hm : i ∈ Region.ready md ops listed := by rw [hr]; exact List.mem_cons_self
        unfold Region.ready at hm
        rw [List.mem_filter] at hm
        have hi := List.mem_range.1 hm.1
        have hL : liOf listed i = false := by
          have := (Bool.and_eq_true _ _ ▸ hm.2 : _ ∧ _).1
          unfold liOf
          rw [Array.getD_eq_getD_getElem?] at this ⊢
          rw [Array.getElem?_eq_getElem (by omega)] at this ⊢
          simpa using this
        have : i ∈ (List.range ops.size).filter fun i => !liOf listed i := List.mem_filter.2 ⟨hm.1, by rw [hL]; rfl⟩
        have h0 : ((List.range ops.size).filter fun i => !liOf listed i).length = 0 := Nat.le_zero.1 hf
        rw [List.length_eq_zero_iff.1 h0] at this
        cases this
    exact ⟨hr, hend _ _ _ hΦ (key listed hs hr)⟩
  | succ fuel ih =>
    intro listed a w hs hf hΦ
    refine ⟨fun hr => hend _ _ _ hΦ (key listed hs hr), fun i hi => ?_⟩
    unfold Region.ready at hi
    rw [List.mem_filter] at hi
    have hlt := List.mem_range.1 hi.1
    obtain ⟨h1, h2⟩ := (Bool.and_eq_true _ _ ▸ hi.2 : _ ∧ _)
    have ho : ops[i]? = some ops[i] := Array.getElem?_eq_getElem hlt
    have hL : liOf listed i = false := by
      unfold liOf
      rw [Array.getD_eq_getD_getElem?] at h1 ⊢
      rw [Array.getElem?_eq_getElem (by omega)] at h1 ⊢
      simpa using h1
    rw [ho] at h2
    simp only [Option.map_some, Option.getD_some] at h2
    have hdeps : ∀ e ∈ ops[i].after, Region.binds md e = true → liOf listed e.on = true := by
      intro e he hb
      have := (Array.all_eq_true_iff_forall_mem.1 h2) e he
      simpa [hb, liOf] using this
    refine wpOp_mono (fun a' w' hh => ?_) (hstep _ a w i _ ho hΦ hL hdeps)
    have hset := liOf_set (listed := listed) (i := i) (by omega)
    refine ih _ a' w' (by simpa using hs) ?_ (by rw [hset]; exact hh)
    rw [hset]
    have := open_dn hlt hL
    omega

theorem wp_region_inv {id : Nat} {a : Act} {w : World} (hm : P.follows .mixedOrders = true) (hback : backB .any ops = true) (Φ : (Nat → Bool) → Act → World → Prop)
    (h0 : Φ (fun _ => false) a { w with drawn := w.drawn + 1 })
    (hstep : ∀ L a w i o, ops[i]? = some o → Φ L a w → L i = false → (∀ e ∈ o.after, Region.binds .any e = true → L e.on = true) → wpOp P ops Q i (Φ (dn L i)) a w)
    (hend : ∀ L a w, Φ L a w → (∀ i, i < ops.size → L i = true) → Q .normal a w) : (Code.region id ops true).wp P Q a w := by
  refine wp_region_any hm (wpAny_inv hback Φ hstep hend _ _ _ _ (by simp) ?_ ?_)
  · unfold open'; exact Nat.le_trans (List.length_filter_le _ _) (by simp)
  · have : liOf (Array.replicate ops.size false) = fun _ => false := by
      funext i
      unfold liOf
      rw [Array.getD_eq_getD_getElem?, Array.getElem?_replicate]
      split <;> rfl
    rw [this]
    exact h0
end
end Go.Proofs.YtjjomjjgoceklaaGreat
namespace Go.Proofs.YtjjomjjgoceklaaGreat
set_option maxRecDepth 100000
open Go.RowKit

/-- a frame's slots: those of D by f, the others as they were -/
def over : Nat → List Value → (Nat → Bool) → (Nat → Value) → List Value
  | _, [], _, _ => []
  | n, x :: xs, D, f => (match D n with | true => f n | false => x) :: over (n + 1) xs D f
theorem over_get (n : Nat) (l : List Value) (D : Nat → Bool) (f : Nat → Value) (t : Nat) : (over n l D f)[t]? = (l[t]?).map fun x => match D (n + t) with | true => f (n + t) | false => x := by
  induction l generalizing n t with
  | nil => simp [over]
  | cons x xs ih =>
    cases t with
    | zero => simp [over]
    | succ t => simp only [over, List.getElem?_cons_succ, ih]; rw [show n + 1 + t = n + (t + 1) by omega]
def fr (a0 : Act) (D : Nat → Bool) (f : Nat → Value) : Act := { a0 with tmps := (over 0 a0.tmps.toList D f).toArray }
theorem fr_get (a0 : Act) (D : Nat → Bool) (f : Nat → Value) (t : Nat) : (fr a0 D f).tmps[t]? = (a0.tmps[t]?).map fun x => match D t with | true => f t | false => x := by
  have := over_get 0 a0.tmps.toList D f t
  simpa [fr] using this
def upd (f : Nat → Value) (d : Nat) (v : Value) : Nat → Value := fun t => if t = d then v else f t
def updo (f : Nat → Value) (d : Option Nat) (v : Value) : Nat → Value := match d with | none => f | some d => upd f d v
theorem over_upd (n : Nat) (l : List Value) (D : Nat → Bool) (f : Nat → Value) (d : Nat) (v : Value) (hd : D (n + d) = true) : (over n l D f).set d v = over n l D (upd f (n + d) v) := by
  induction l generalizing n d with
  | nil => simp [over]
  | cons x xs ih =>
    cases d with
    | zero =>
      simp only [Nat.add_zero] at hd
      simp only [over, List.set_cons_zero, hd, upd, Nat.add_zero, if_pos]
      congr 1
      suffices h : ∀ (m : Nat) (l : List Value), n < m → over m l D f = over m l D (fun t => if t = n then v else f t) by exact h _ _ (Nat.lt_succ_self n)
      intro m l
      induction l generalizing m with
      | nil => intro _; rfl
      | cons y ys ih' =>
        intro hm
        simp only [over]
        rw [← ih' (m + 1) (by omega), if_neg (by omega)]
    | succ d =>
      simp only [over, List.set_cons_succ]
      rw [ih (n + 1) d (by rw [show n + 1 + d = n + (d + 1) by omega]; exact hd), show n + 1 + d = n + (d + 1) by omega]
      have : upd f (n + (d + 1)) v n = f n := by unfold upd; rw [if_neg (by omega)]
      rw [this]
theorem fr_put (a0 : Act) (D : Nat → Bool) (f : Nat → Value) (d : Option Nat) (v : Value) (hd : ∀ t, d = some t → D t = true) : (fr a0 D f).put d v = fr a0 D (updo f d v) := by
  cases d with
  | none => rfl
  | some t =>
    have := over_upd 0 a0.tmps.toList D f t v (by rw [Nat.zero_add]; exact hd t rfl)
    rw [Nat.zero_add] at this
    simp only [fr, Act.put, updo, List.setIfInBounds_toArray, this]

/-- what an operation comes to: a value, nothing, or a call that returns -/
def OpR (P : Program) (o : Oper) (a : Act) (w : World) (R : Value → World → Prop) : Prop :=
  (∃ v w', (execOp a.eval o).run P w = .ok (.value v) w' ∧ R v w') ∨
  (∃ w', (execOp a.eval o).run P w = .ok .skip w' ∧ R undef w') ∨
  (∃ f args, (execOp a.eval o).run P w = .ok (.enter f args) w ∧ Calls P f args w fun e w' => ∃ v, e = .returned v ∧ R v w')
theorem OpR.wp {P : Program} {o : Oper} {a : Act} {w : World} {R : Value → World → Prop} {K : Act → World → Prop} {Q : Exit → Act → World → Prop} (h : OpR P o a w R) (hK : ∀ v w', R v w' → K (a.put o.dst v) w') : o.wp P a w K Q := by
  unfold Oper.wp
  rcases h with ⟨v, w', h, hr⟩ | ⟨w', h, hr⟩ | ⟨f, args, h, hc⟩
  · rw [h]; exact hK _ _ hr
  · rw [h]; exact hK _ _ hr
  · rw [h, Oper.upon_enter]
    refine hc.mono ?_
    rintro e w' ⟨v, rfl, hr⟩
    exact hK _ _ hr
def AllFrom (G : Nat → Oper → Prop) : Nat → List Oper → Prop
  | _, [] => True
  | n, o :: os => G n o ∧ AllFrom G (n + 1) os
theorem AllFrom.get {G : Nat → Oper → Prop} {n : Nat} {l : List Oper} (h : AllFrom G n l) {i : Nat} {o : Oper} (ho : l[i]? = some o) : G (n + i) o := by
  induction l generalizing n i with
  | nil => simp at ho
  | cons x xs ih =>
    cases i with
    | zero => simp at ho; subst ho; exact h.1
    | succ i => have := ih h.2 (by simpa using ho); rw [show n + 1 + i = n + (i + 1) by omega] at this; exact this
theorem AllFrom.cons {G : Nat → Oper → Prop} {n : Nat} {o : Oper} {os : List Oper} (h1 : G n o) (h2 : AllFrom G (n + 1) os) : AllFrom G n (o :: os) := ⟨h1, h2⟩
theorem AllFrom.nil {G : Nat → Oper → Prop} {n : Nat} : AllFrom G n [] := trivial
section
variable {P : Program} {ops : Array Oper} {Q : Exit → Act → World → Prop}
theorem wp_region_fr {id : Nat} {a0 : Act} {w : World} (D : Nat → Bool) (J : (Nat → Bool) → (Nat → Value) → World → Prop) (hm : P.follows .mixedOrders = true) (hback : backB .any ops = true)
    (hD : (ops.toList.filterMap (·.dst)).all D = true)
    (hf : ∃ f, fr a0 D f = a0 ∧ J (fun _ => false) f { w with drawn := w.drawn + 1 })
    (hstep : AllFrom (fun i o => ∀ L f w, J L f w → L i = false → (∀ e ∈ o.after, Region.binds .any e = true → L e.on = true) →
      Region.wanted o (yielded ops (fr a0 D f).tmps) = true ∧ OpR P o (fr a0 D f) w fun v w' => J (dn L i) (updo f o.dst v) w') 0 ops.toList)
    (hend : ∀ L f w, J L f w → (∀ i, i < ops.size → L i = true) → Q .normal (fr a0 D f) w) : (Code.region id ops true).wp P Q a0 w := by
  obtain ⟨f0, hf0, hJ0⟩ := hf
  refine wp_region_inv hm hback (fun L a w => ∃ f, a = fr a0 D f ∧ J L f w) ⟨f0, hf0.symm, hJ0⟩ ?_ ?_
  · rintro L a w i o ho ⟨f, rfl, hJ⟩ hL hd
    have hg := hstep.get (i := i) (o := o) (by simpa using ho)
    rw [Nat.zero_add] at hg
    obtain ⟨hw, hr⟩ := hg L f w hJ hL hd
    unfold wpOp
    simp only [ho, hw, if_true]
    refine .inl (hr.wp fun v w' hR => ⟨_, fr_put _ _ _ _ _ fun t ht => ?_, hR⟩)
    have hmem : t ∈ ops.toList.filterMap (·.dst) := List.mem_filterMap.2 ⟨o, by rw [Array.mem_toList_iff]; exact Array.mem_of_getElem? ho, ht⟩
    exact List.all_eq_true.1 hD t hmem
  · rintro L a w ⟨f, rfl, hJ⟩ hall
    exact hend L f w hJ hall
end
theorem fr_self (a0 : Act) (D : Nat → Bool) : fr a0 D (fun t => a0.tmps.getD t undef) = a0 := by
  have : over 0 a0.tmps.toList D (fun t => a0.tmps.getD t undef) = a0.tmps.toList := by
    apply List.ext_getElem?
    intro t
    rw [over_get]
    cases h : a0.tmps.toList[t]? with
    | none => rfl
    | some x =>
      simp only [Option.map_some, Nat.zero_add]
      have : a0.tmps[t]? = some x := by simpa using h
      split
      · rw [Array.getD_eq_getD_getElem?, this]; rfl
      · rfl
  cases a0
  simp only [fr] at *
  rw [this]
end Go.Proofs.YtjjomjjgoceklaaGreat

import Derived.Orders
import Derived.RegionTactic
import Derived.WalkKit
import Derived.Lib.Hide
import Derived.RowKit3
import Derived.Below
/-
A region that draws its order, proved once for all orders: a relation on what has been done, the frame and the world, kept by each operation whose predecessors are done.
-/
namespace Go.Proofs.YtljmhejljpfaiaaGreat
set_option maxRecDepth 100000
open Go.RowKit

section
variable {P : Program} {ops : Array Oper} {Q : Exit → Act → World → Prop} {md : Region.Mode}

/-- what is done, and operation i with it -/
def dn (L : Nat → Bool) (i : Nat) : Nat → Bool := fun j => if j = i then true else L j
/-- each edge goes back to a smaller number -/
def backB (md : Region.Mode) (ops : Array Oper) : Bool := (List.range ops.size).all fun i => ((ops[i]?).map fun o => o.after.all fun e => !Region.binds md e || decide (e.on < i)).getD true
theorem backB_spec (h : backB md ops = true) {i : Nat} {o : Oper} (ho : ops[i]? = some o) : ∀ e ∈ o.after, Region.binds md e = true → e.on < i := by
  have hi : i < ops.size := (Array.getElem?_eq_some_iff.1 ho).1
  have h1 := List.all_eq_true.1 h i (List.mem_range.2 hi)
  rw [ho] at h1
  simp only [Option.map_some, Option.getD_some] at h1
  intro e he hb
  have h2 := (Array.all_eq_true_iff_forall_mem.1 h1) e he
  simp only [hb, Bool.not_true, Bool.false_or, decide_eq_true_eq] at h2
  exact h2
def liOf (listed : Array Bool) : Nat → Bool := fun i => listed.getD i false
def open' (n : Nat) (L : Nat → Bool) : Nat := ((List.range n).filter fun i => !L i).length
theorem open_dn {n : Nat} {L : Nat → Bool} {i : Nat} (hi : i < n) (hL : L i = false) : open' n (dn L i) + 1 = open' n L := by
  unfold open'
  induction n with
  | zero => omega
  | succ n ih =>
    rw [List.range_succ, List.filter_append, List.filter_append, List.length_append, List.length_append]
    rcases Nat.lt_or_ge i n with h | h
    · have := ih h
      have e : dn L i n = L n := by unfold dn; rw [if_neg (by omega)]
      simp only [List.filter_cons, List.filter_nil, e]
      omega
    · obtain rfl : i = n := by omega
      have e : (List.range i).filter (fun j => !dn L i j) = (List.range i).filter fun j => !L j := by
        apply List.filter_congr
        intro j hj
        have := List.mem_range.1 hj
        unfold dn
        rw [if_neg (by omega)]
      rw [e]
      simp [dn, hL]
theorem liOf_set {listed : Array Bool} {i : Nat} (hi : i < listed.size) : liOf (listed.setIfInBounds i true) = dn (liOf listed) i := by
  funext j
  unfold liOf dn
  by_cases h : j = i
  · subst h; simp [Array.getD_eq_getD_getElem?, hi]
  · simp [Array.getD_eq_getD_getElem?, h, Array.getElem?_setIfInBounds_ne (Ne.symm h)]

theorem wpAny_inv (hback : backB md ops = true) (Φ : (Nat → Bool) → Act → World → Prop)
    (hstep : ∀ L a w i o, ops[i]? = some o → Φ L a w → L i = false → (∀ e ∈ o.after, Region.binds md e = true → L e.on = true) → wpOp P ops Q i (Φ (dn L i)) a w)
    (hend : ∀ L a w, Φ L a w → (∀ i, i < ops.size → L i = true) → Q .normal a w) :
    ∀ fuel (listed : Array Bool) a w, listed.size = ops.size → open' ops.size (liOf listed) ≤ fuel → Φ (liOf listed) a w → wpAny P md ops Q fuel listed a w := by
  have key : ∀ (listed : Array Bool), listed.size = ops.size → Region.ready md ops listed = [] → ∀ i, i < ops.size → liOf listed i = true := by
    intro listed hs hr i
    induction i using Nat.strongRecOn with
    | ind i ih =>
      intro hi
      cases hL : liOf listed i with
      | true => rfl
      | false =>
        exfalso
        have hmem : i ∈ Region.ready md ops listed := by
          unfold Region.ready
          rw [List.mem_filter]
          refine ⟨List.mem_range.2 hi, ?_⟩
          have ho : ops[i]? = some ops[i] := Array.getElem?_eq_getElem hi
          rw [ho]
          simp only [Option.map_some, Option.getD_some, Bool.and_eq_true, Bool.not_eq_true']
          refine ⟨?_, ?_⟩
          · unfold liOf at hL
            rw [Array.getD_eq_getD_getElem?] at hL ⊢
            rw [Array.getElem?_eq_getElem (by omega)] at hL ⊢
            exact hL
          · rw [Array.all_eq_true_iff_forall_mem]
            intro e he
            cases hb : Region.binds md e with
            | false => rfl
            | true =>
              have h1 := backB_spec hback ho e he hb
              have h2 := ih e.on h1 (by omega)
              unfold liOf at h2
              simp [h2]
        rw [hr] at hmem
        cases hmem
  intro fuel
  induction fuel with
  | zero =>
    intro listed a w hs hf hΦ
    have hr : Region.ready md ops listed = [] := by
      cases hr : Region.ready md ops listed with
      | nil => rfl
      | cons i rs =>
        exfalso
        have hm : i ∈ Region.ready md ops listed := by rw [hr]; exact List.mem_cons_self
        unfold Region.ready at hm
        rw [List.mem_filter] at hm
        have hi := List.mem_range.1 hm.1
        have hL : liOf listed i = false := by
          have := (Bool.and_eq_true _ _ ▸ hm.2 : _ ∧ _).1
          unfold liOf
          rw [Array.getD_eq_getD_getElem?] at this ⊢
          rw [Array.getElem?_eq_getElem (by omega)] at this ⊢
          simpa using this
        have : i ∈ (List.range ops.size).filter fun i => !liOf listed i := List.mem_filter.2 ⟨hm.1, by rw [hL]; rfl⟩
        have h0 : ((List.range ops.size).filter fun i => !liOf listed i).length = 0 := Nat.le_zero.1 hf
        rw [List.length_eq_zero_iff.1 h0] at this
        cases this
    exact ⟨hr, hend _ _ _ hΦ (key listed hs hr)⟩
  | succ fuel ih =>
    intro listed a w hs hf hΦ
    refine ⟨fun hr => hend _ _ _ hΦ (key listed hs hr), fun i hi => ?_⟩
    unfold Region.ready at hi
    rw [List.mem_filter] at hi
    have hlt := List.mem_range.1 hi.1
    obtain ⟨h1, h2⟩ := (Bool.and_eq_true _ _ ▸ hi.2 : _ ∧ _)
    have ho : ops[i]? = some ops[i] := Array.getElem?_eq_getElem hlt
    have hL : liOf listed i = false := by
      unfold liOf
      rw [Array.getD_eq_getD_getElem?] at h1 ⊢
      rw [Array.getElem?_eq_getElem (by omega)] at h1 ⊢
      simpa using h1
    rw [ho] at h2
    simp only [Option.map_some, Option.getD_some] at h2
    have hdeps : ∀ e ∈ ops[i].after, Region.binds md e = true → liOf listed e.on = true := by
      intro e he hb
      have := (Array.all_eq_true_iff_forall_mem.1 h2) e he
      simpa [hb, liOf] using this
    refine wpOp_mono (fun a' w' hh => ?_) (hstep _ a w i _ ho hΦ hL hdeps)
    have hset := liOf_set (listed := listed) (i := i) (by omega)
    refine ih _ a' w' (by simpa using hs) ?_ (by rw [hset]; exact hh)
    rw [hset]
    have := open_dn hlt hL
    omega

theorem wp_region_inv {id : Nat} {a : Act} {w : World} (hm : P.follows .mixedOrders = true) (hback : backB .any ops = true) (Φ : (Nat → Bool) → Act → World → Prop)
    (h0 : Φ (fun _ => false) a { w with drawn := w.drawn + 1 })
    (hstep : ∀ L a w i o, ops[i]? = some o → Φ L a w → L i = false → (∀ e ∈ o.after, Region.binds .any e = true → L e.on = true) → wpOp P ops Q i (Φ (dn L i)) a w)
    (hend : ∀ L a w, Φ L a w → (∀ i, i < ops.size → L i = true) → Q .normal a w) : (Code.region id ops true).wp P Q a w := by
  refine wp_region_any hm (wpAny_inv hback Φ hstep hend _ _ _ _ (by simp) ?_ ?_)
  · unfold open'; exact Nat.le_trans (List.length_filter_le _ _) (by simp)
  · have : liOf (Array.replicate ops.size false) = fun _ => false := by
      funext i
      unfold liOf
      rw [Array.getD_eq_getD_getElem?, Array.getElem?_replicate]
      split <;> rfl
    rw [this]
    exact h0
end
end Go.Proofs.YtljmhejljpfaiaaGreat
namespace Go.Proofs.YtljmhejljpfaiaaGreat
set_option maxRecDepth 100000
open Go.RowKit

/-- a frame's slots: those of D by f, the others as they were -/
def over : Nat → List Value → (Nat → Bool) → (Nat → Value) → List Value
  | _, [], _, _ => []
  | n, x :: xs, D, f => (match D n with | true => f n | false => x) :: over (n + 1) xs D f
theorem over_length (n : Nat) (l : List Value) (D : Nat → Bool) (f : Nat → Value) : (over n l D f).length = l.length := by
  induction l generalizing n with
  | nil => rfl
  | cons x xs ih => simp [over, ih]
theorem over_get (n : Nat) (l : List Value) (D : Nat → Bool) (f : Nat → Value) (t : Nat) : (over n l D f)[t]? = (l[t]?).map fun x => match D (n + t) with | true => f (n + t) | false => x := by
  induction l generalizing n t with
  | nil => simp [over]
  | cons x xs ih =>
    cases t with
    | zero => simp [over]
    | succ t => simp only [over, List.getElem?_cons_succ, ih]; rw [show n + 1 + t = n + (t + 1) by omega]
def fr (a0 : Act) (D : Nat → Bool) (f : Nat → Value) : Act := { a0 with tmps := (over 0 a0.tmps.toList D f).toArray }
theorem fr_get (a0 : Act) (D : Nat → Bool) (f : Nat → Value) (t : Nat) : (fr a0 D f).tmps[t]? = (a0.tmps[t]?).map fun x => match D t with | true => f t | false => x := by
  have := over_get 0 a0.tmps.toList D f t
  simpa [fr] using this
def upd (f : Nat → Value) (d : Nat) (v : Value) : Nat → Value := fun t => if t = d then v else f t
def updo (f : Nat → Value) (d : Option Nat) (v : Value) : Nat → Value := match d with | none => f | some d => upd f d v
theorem over_upd (n : Nat) (l : List Value) (D : Nat → Bool) (f : Nat → Value) (d : Nat) (v : Value) (hd : D (n + d) = true) : (over n l D f).set d v = over n l D (upd f (n + d) v) := by
  induction l generalizing n d with
  | nil => simp [over]
  | cons x xs ih =>
    cases d with
    | zero =>
      simp only [Nat.add_zero] at hd
      simp only [over, List.set_cons_zero, hd, upd, Nat.add_zero, if_pos]
      congr 1
      suffices h : ∀ (m : Nat) (l : List Value), n < m → over m l D f = over m l D (fun t => if t = n then v else f t) by exact h _ _ (Nat.lt_succ_self n)
      intro m l
      induction l generalizing m with
      | nil => intro _; rfl
      | cons y ys ih' =>
        intro hm
        simp only [over]
        rw [← ih' (m + 1) (by omega), if_neg (by omega)]
    | succ d =>
      simp only [over, List.set_cons_succ]
      rw [ih (n + 1) d (by rw [show n + 1 + d = n + (d + 1) by omega]; exact hd), show n + 1 + d = n + (d + 1) by omega]
      have : upd f (n + (d + 1)) v n = f n := by unfold upd; rw [if_neg (by omega)]
      rw [this]
theorem fr_put (a0 : Act) (D : Nat → Bool) (f : Nat → Value) (d : Option Nat) (v : Value) (hd : ∀ t, d = some t → D t = true) : (fr a0 D f).put d v = fr a0 D (updo f d v) := by
  cases d with
  | none => rfl
  | some t =>
    have := over_upd 0 a0.tmps.toList D f t v (by rw [Nat.zero_add]; exact hd t rfl)
    rw [Nat.zero_add] at this
    simp only [fr, Act.put, updo, List.setIfInBounds_toArray, this]

/-- what an operation comes to: a value, nothing, or a call that returns -/
def OpR (P : Program) (o : Oper) (a : Act) (w : World) (R : Value → World → Prop) : Prop :=
  (∃ v w', (execOp a.eval o).run P w = .ok (.value v) w' ∧ R v w') ∨
  (∃ w', (execOp a.eval o).run P w = .ok .skip w' ∧ R undef w') ∨
  (∃ f args, (execOp a.eval o).run P w = .ok (.enter f args) w ∧ Calls P f args w fun e w' => ∃ v, e = .returned v ∧ R v w')
theorem OpR.wp {P : Program} {o : Oper} {a : Act} {w : World} {R : Value → World → Prop} {K : Act → World → Prop} {Q : Exit → Act → World → Prop} (h : OpR P o a w R) (hK : ∀ v w', R v w' → K (a.put o.dst v) w') : o.wp P a w K Q := by
  unfold Oper.wp
  rcases h with ⟨v, w', h, hr⟩ | ⟨w', h, hr⟩ | ⟨f, args, h, hc⟩
  · rw [h]; exact hK _ _ hr
  · rw [h]; exact hK _ _ hr
  · rw [h, Oper.upon_enter]
    refine hc.mono ?_
    rintro e w' ⟨v, rfl, hr⟩
    exact hK _ _ hr
def AllFrom (G : Nat → Oper → Prop) : Nat → List Oper → Prop
  | _, [] => True
  | n, o :: os => G n o ∧ AllFrom G (n + 1) os
theorem AllFrom.get {G : Nat → Oper → Prop} {n : Nat} {l : List Oper} (h : AllFrom G n l) {i : Nat} {o : Oper} (ho : l[i]? = some o) : G (n + i) o := by
  induction l generalizing n i with
  | nil => simp at ho
  | cons x xs ih =>
    cases i with
    | zero => simp at ho; subst ho; exact h.1
    | succ i => have := ih h.2 (by simpa using ho); rw [show n + 1 + i = n + (i + 1) by omega] at this; exact this
theorem AllFrom.cons {G : Nat → Oper → Prop} {n : Nat} {o : Oper} {os : List Oper} (h1 : G n o) (h2 : AllFrom G (n + 1) os) : AllFrom G n (o :: os) := ⟨h1, h2⟩
theorem AllFrom.nil {G : Nat → Oper → Prop} {n : Nat} : AllFrom G n [] := trivial
/-- each operation's slot is one of D, and no two have one -/
def dstB (D : Nat → Bool) (ops : Array Oper) : Bool :=
  (ops.toList.filterMap (·.dst)).all D && (ops.toList.filterMap (·.dst)).Nodup
section
variable {P : Program} {ops : Array Oper} {Q : Exit → Act → World → Prop}
theorem wp_region_fr {id : Nat} {a0 : Act} {w : World} (D : Nat → Bool) (J : (Nat → Bool) → (Nat → Value) → World → Prop) (hm : P.follows .mixedOrders = true) (hback : backB .any ops = true)
    (hD : (ops.toList.filterMap (·.dst)).all D = true)
    (hf : ∃ f, fr a0 D f = a0 ∧ J (fun _ => false) f { w with drawn := w.drawn + 1 })
    (hstep : AllFrom (fun i o => ∀ L f w, J L f w → L i = false → (∀ e ∈ o.after, Region.binds .any e = true → L e.on = true) →
      Region.wanted o (yielded ops (fr a0 D f).tmps) = true ∧ OpR P o (fr a0 D f) w fun v w' => J (dn L i) (updo f o.dst v) w') 0 ops.toList)
    (hend : ∀ L f w, J L f w → (∀ i, i < ops.size → L i = true) → Q .normal (fr a0 D f) w) : (Code.region id ops true).wp P Q a0 w := by
  obtain ⟨f0, hf0, hJ0⟩ := hf
  refine wp_region_inv hm hback (fun L a w => ∃ f, a = fr a0 D f ∧ J L f w) ⟨f0, hf0.symm, hJ0⟩ ?_ ?_
  · rintro L a w i o ho ⟨f, rfl, hJ⟩ hL hd
    have hg := hstep.get (i := i) (o := o) (by simpa using ho)
    rw [Nat.zero_add] at hg
    obtain ⟨hw, hr⟩ := hg L f w hJ hL hd
    unfold wpOp
    simp only [ho, hw, if_true]
    refine .inl (hr.wp fun v w' hR => ⟨_, fr_put _ _ _ _ _ fun t ht => ?_, hR⟩)
    have hmem : t ∈ ops.toList.filterMap (·.dst) := List.mem_filterMap.2 ⟨o, by rw [Array.mem_toList_iff]; exact Array.mem_of_getElem? ho, ht⟩
    exact List.all_eq_true.1 hD t hmem
  · rintro L a w ⟨f, rfl, hJ⟩ hall
    exact hend L f w hJ hall
end
theorem fr_self (a0 : Act) (D : Nat → Bool) : fr a0 D (fun t => a0.tmps.getD t undef) = a0 := by
  have : over 0 a0.tmps.toList D (fun t => a0.tmps.getD t undef) = a0.tmps.toList := by
    apply List.ext_getElem?
    intro t
    rw [over_get]
    cases h : a0.tmps.toList[t]? with
    | none => rfl
    | some x =>
      simp only [Option.map_some, Nat.zero_add]
      have : a0.tmps[t]? = some x := by simpa using h
      split
      · rw [Array.getD_eq_getD_getElem?, this]; rfl
      · rfl
  cases a0
  simp only [fr] at *
  rw [this]
end Go.Proofs.YtljmhejljpfaiaaGreat
namespace Go.Proofs.YtljmhejljpfaiaaGreat
set_option maxRecDepth 100000
open Go.RowKit

/-- what a slot holds: an integer of the program, of the reference, a ratio, digits, a value -/
inductive Kd where
  | v (x : Value) | any
  | c (C : Value → World → Prop) (h : ∀ v w w', C v w → Below w.heap.size w w' → C v w')
def kd : Kd → Value → World → Prop
  | .v y, x, _ => x = y
  | .any, _, _ => True
  | .c C _, x, w => C x w
theorem kd.keep {k : Kd} {x : Value} {w w' : World} (h : kd k x w) (hb : Below w.heap.size w w') : kd k x w' := by
  cases k with
  | v y => exact h
  | any => trivial
  | c C hC => exact hC _ _ _ h hb

/-- the operations before i, by their edges -/
def edgesOf (ops : Array Oper) (i : Nat) : List Nat := match ops[i]? with | some o => (o.after.toList.filter (Region.binds .any)).map (·.on) | none => []
def predGo (ops : Array Oper) : Nat → List Nat → List Nat
  | 0, m => m
  | k + 1, m => predGo ops k (if m.contains k then edgesOf ops k ++ m else m)
/-- the slots of the operations before i -/
def predD (ops : Array Oper) (i : Nat) : List Nat := (predGo ops i (edgesOf ops i)).filterMap fun j => (ops[j]?).bind (·.dst)
def Closed (ops : Array Oper) (L : Nat → Bool) : Prop := ∀ i, L i = true → ∀ j ∈ edgesOf ops i, L j = true
theorem predGo_ok {ops : Array Oper} {L : Nat → Bool} (hc : Closed ops L) (k : Nat) (m : List Nat) (hm : ∀ j ∈ m, L j = true) : ∀ j ∈ predGo ops k m, L j = true := by
  induction k generalizing m with
  | zero => exact hm
  | succ k ih =>
    simp only [predGo]
    refine ih _ ?_
    split
    · rename_i h
      intro j hj
      rcases List.mem_append.1 hj with hj | hj
      · exact hc k (hm k (by simpa using h)) j hj
      · exact hm j hj
    · exact hm
def KdAll (tab : Nat → Kd) (ops : Array Oper) (L : Nat → Bool) (f : Nat → Value) (w : World) : Prop := ∀ i o d, ops[i]? = some o → L i = true → o.dst = some d → kd (tab d) (f d) w
/-- the slots' own list names each slot once -/
def uniqB (ops : Array Oper) : Bool := decide (ops.toList.filterMap (·.dst)).Nodup
theorem uniq_spec {ops : Array Oper} (h : uniqB ops = true) {i j : Nat} {o p : Oper} {d : Nat} (hi : ops[i]? = some o) (hj : ops[j]? = some p) (ho : o.dst = some d) (hp : p.dst = some d) : i = j := by
  have hn : (ops.toList.filterMap (·.dst)).Nodup := of_decide_eq_true h
  have h1 : ops.toList[i]? = some o := by simpa using hi
  have h2 : ops.toList[j]? = some p := by simpa using hj
  generalize ops.toList = l at *
  clear hi hj h
  induction l generalizing i j with
  | nil => simp at h1
  | cons x xs ih =>
    have hmem : ∀ {k : Nat} {q : Oper}, xs[k]? = some q → q.dst = some d → d ∈ xs.filterMap (·.dst) := fun {k q} hk hq => List.mem_filterMap.2 ⟨q, List.mem_of_getElem? hk, hq⟩
    have hn' : (xs.filterMap (·.dst)).Nodup := by
      rw [List.filterMap_cons] at hn
      split at hn
      · exact hn
      · exact (List.nodup_cons.1 hn).2
    cases i with
    | zero =>
      simp at h1
      subst h1
      cases j with
      | zero => rfl
      | succ j =>
        rw [List.filterMap_cons_some ho] at hn
        exact absurd (hmem (by simpa using h2) hp) (List.nodup_cons.1 hn).1
    | succ i =>
      cases j with
      | zero =>
        simp at h2
        subst h2
        rw [List.filterMap_cons_some hp] at hn
        exact absurd (hmem (by simpa using h1) ho) (List.nodup_cons.1 hn).1
      | succ j => exact congrArg (· + 1) (ih (i := i) (j := j) hn' (by simpa using h1) (by simpa using h2))
section
variable {P : Program} {ops : Array Oper} {Q : Exit → Act → World → Prop}
/-- a region of loads, calls and new blocks, in whatever order -/
theorem wp_region_kd {id : Nat} {a0 : Act} {w : World} (D : Nat → Bool) (tab : Nat → Kd) (I : World → Prop) (hm : P.follows .mixedOrders = true) (hback : backB .any ops = true) (hu : uniqB ops = true)
    (hD : (ops.toList.filterMap (·.dst)).all D = true) (hI : ∀ w w', I w → Below w.heap.size w w' → I w') (h0 : I { w with drawn := w.drawn + 1 })
    (hstep : AllFrom (fun i o => ∀ f w, I w → (∀ d, (predD ops i).contains d = true → kd (tab d) (f d) w) →
      Region.wanted o (yielded ops (fr a0 D f).tmps) = true ∧ ∃ d, o.dst = some d ∧ OpR P o (fr a0 D f) w fun v w' => Below w.heap.size w w' ∧ kd (tab d) v w') 0 ops.toList)
    (hend : ∀ f w, I w → (∀ d, (ops.toList.filterMap (·.dst)).contains d = true → kd (tab d) (f d) w) → Q .normal (fr a0 D f) w) : (Code.region id ops true).wp P Q a0 w := by
  refine wp_region_fr D (fun L f w => I w ∧ Closed ops L ∧ KdAll tab ops L f w) hm hback hD ⟨_, fr_self a0 D, h0, (by intro i h; cases h), (by intro i o d _ h; cases h)⟩ ?_ ?_
  · suffices key : ∀ (n : Nat) (l : List Oper), (∀ i o, l[i]? = some o → ops[n + i]? = some o) →
        AllFrom (fun i o => ∀ f w, I w → (∀ d, (predD ops i).contains d = true → kd (tab d) (f d) w) → Region.wanted o (yielded ops (fr a0 D f).tmps) = true ∧ ∃ d, o.dst = some d ∧ OpR P o (fr a0 D f) w fun v w' => Below w.heap.size w w' ∧ kd (tab d) v w') n l →
        AllFrom (fun i o => ∀ L f w, (I w ∧ Closed ops L ∧ KdAll tab ops L f w) → L i = false → (∀ e ∈ o.after, Region.binds .any e = true → L e.on = true) →
          Region.wanted o (yielded ops (fr a0 D f).tmps) = true ∧ OpR P o (fr a0 D f) w fun v w' => (I w' ∧ Closed ops (dn L i) ∧ KdAll tab ops (dn L i) (updo f o.dst v) w')) n l from key 0 _ (fun i o h => by simpa using h) hstep
    intro n l
    induction l generalizing n with
    | nil => intro _ _; trivial
    | cons o os ih =>
      intro hget hall
      refine ⟨?_, ih (n + 1) (fun i p h => by rw [show n + 1 + i = n + (i + 1) by omega]; exact hget _ _ (by simpa using h)) hall.2⟩
      rintro L f w ⟨hIw, hcl, hk⟩ hL hdep
      have ho : ops[n]? = some o := hget 0 o (by simp)
      have hedge : ∀ j ∈ edgesOf ops n, L j = true := by
        intro j hj
        unfold edgesOf at hj
        rw [ho] at hj
        obtain ⟨e, he, rfl⟩ := List.mem_map.1 hj
        obtain ⟨he1, he2⟩ := List.mem_filter.1 he
        exact hdep e (by simpa using he1) he2
      have hpre : ∀ d, (predD ops n).contains d = true → kd (tab d) (f d) w := by
        intro d hd
        unfold predD at hd
        obtain ⟨j, hj, hjd⟩ := List.mem_filterMap.1 (List.contains_iff_mem.1 hd)
        have hLj := predGo_ok hcl n _ hedge j hj
        obtain ⟨oj, hoj, hdj⟩ := Option.bind_eq_some_iff.1 hjd
        exact hk j oj d hoj hLj hdj
      obtain ⟨hw, d, hd, hr⟩ := hall.1 f w hIw hpre
      refine ⟨hw, ?_⟩
      have step : ∀ v w', (Below w.heap.size w w' ∧ kd (tab d) v w') → I w' ∧ Closed ops (dn L n) ∧ KdAll tab ops (dn L n) (updo f o.dst v) w' := by
        rintro v w' ⟨hb, hkd⟩
        refine ⟨hI _ _ hIw hb, ?_, ?_⟩
        · intro i hi j hj
          unfold dn at hi ⊢
          by_cases e : i = n
          · subst e
            split
            · rfl
            · exact hedge j hj
          · rw [if_neg e] at hi
            split
            · rfl
            · exact hcl i hi j hj
        · intro i p d' hp hi hd'
          rw [hd]
          unfold dn at hi
          by_cases e : i = n
          · subst e
            rw [ho] at hp
            cases hp
            rw [hd] at hd'
            cases hd'
            simpa [updo, upd] using hkd
          · rw [if_neg e] at hi
            have hne : d' ≠ d := fun he => e (uniq_spec hu hp ho (he ▸ hd') hd)
            simp only [updo, upd, if_neg hne]
            exact (hk i p d' hp hi hd').keep hb
      rcases hr with ⟨v, w', h1, h2⟩ | ⟨w', h1, h2⟩ | ⟨g, args, h1, h2⟩
      · exact .inl ⟨v, w', h1, step _ _ h2⟩
      · exact .inr (.inl ⟨w', h1, step _ _ h2⟩)
      · exact .inr (.inr ⟨g, args, h1, h2.mono fun e w' ⟨v, he, hr⟩ => ⟨v, he, step _ _ hr⟩⟩)
  · rintro L f w ⟨hIw, _, hk⟩ hall
    refine hend f w hIw fun d hd => ?_
    obtain ⟨o, ho, hod⟩ := List.mem_filterMap.1 (List.contains_iff_mem.1 hd)
    obtain ⟨i, hi⟩ := List.getElem?_of_mem ho
    have hi' : ops[i]? = some o := by simpa using hi
    exact hk i o d hi' (hall i (Array.getElem?_eq_some_iff.1 hi').1) hod
end
theorem fr_old {a0 : Act} {D : Nat → Bool} {f : Nat → Value} {t : Nat} {v : Value} (hD : D t = false) (h : a0.tmps[t]? = some v) : (fr a0 D f).eval (.tmp t) = v := by
  have := fr_get a0 D f t
  rw [h] at this
  simp only [Option.map_some, hD] at this
  show (fr a0 D f).tmps.getD t undef = _
  rw [Array.getD_eq_getD_getElem?, this]
  rfl
theorem fr_own {a0 : Act} {D : Nat → Bool} {f : Nat → Value} {t : Nat} (hD : D t = true) (h : (a0.tmps[t]?).isSome = true) : (fr a0 D f).eval (.tmp t) = f t := by
  obtain ⟨v, hv⟩ := Option.isSome_iff_exists.1 h
  have := fr_get a0 D f t
  rw [hv] at this
  simp only [Option.map_some, hD] at this
  show (fr a0 D f).tmps.getD t undef = _
  rw [Array.getD_eq_getD_getElem?, this]
  rfl
theorem wanted_none {o : Oper} {y : Nat → Option Bool} (h : o.guard = none) : Region.wanted o y = true := by unfold Region.wanted; rw [h]
theorem wanted_some {ops : Array Oper} {o : Oper} {a0 : Act} {D : Nat → Bool} {f : Nat → Value} {g d : Nat} {b : Bool} (h : o.guard = some (g, b)) (hg : (ops[g]?).bind (·.dst) = some d) (hD : D d = true) (hs : (a0.tmps[d]?).isSome = true) (hf : f d = .bool b) :
    Region.wanted o (yielded ops (fr a0 D f).tmps) = true := by
  obtain ⟨v, hv⟩ := Option.isSome_iff_exists.1 hs
  have := fr_get a0 D f d
  rw [hv] at this
  simp only [Option.map_some, hD, hf] at this
  unfold Region.wanted yielded
  rw [h]
  simp [hg, this]
end Go.Proofs.YtljmhejljpfaiaaGreat
namespace Go.Proofs.YtljmhejljpfaiaaGreat
set_option maxRecDepth 100000
open Go.RowKit

section
variable {P : Program} {ops : Array Oper} {Q : Exit → Act → World → Prop}
/-- from m on each operation comes behind all that stand before it -/
def chainB (ops : Array Oper) (m : Nat) : Bool := (List.range ops.size).all fun i => decide (i < m) || (List.range i).all fun j => (predGo ops i (edgesOf ops i)).contains j
theorem chain_spec {m : Nat} (h : chainB ops m = true) {i : Nat} (hi : i < ops.size) (hm : m ≤ i) {j : Nat} (hj : j < i) : j ∈ predGo ops i (edgesOf ops i) := by
  have h1 := List.all_eq_true.1 h i (List.mem_range.2 hi)
  have h2 : decide (i < m) = false := by simpa using hm
  rw [h2, Bool.false_or] at h1
  simpa using List.all_eq_true.1 h1 j (List.mem_range.2 hj)
/-- .. and stores at its end -/
theorem wp_region_kdt {id : Nat} {a0 : Act} {w : World} (D : Nat → Bool) (tab : Nat → Kd) (I : World → Prop) (m : Nat) (T : Nat → (Nat → Value) → World → Prop) (hm : P.follows .mixedOrders = true) (hback : backB .any ops = true) (hu : uniqB ops = true) (hch : chainB ops m = true) (hms : m < ops.size)
    (hD : (ops.toList.filterMap (·.dst)).all D = true) (hI : ∀ w w', I w → Below w.heap.size w w' → I w') (h0 : I { w with drawn := w.drawn + 1 })
    (hstep : AllFrom (fun i o => i < m → ∀ f w, I w → (∀ d, (predD ops i).contains d = true → kd (tab d) (f d) w) →
      Region.wanted o (yielded ops (fr a0 D f).tmps) = true ∧ ∃ d, o.dst = some d ∧ OpR P o (fr a0 D f) w fun v w' => Below w.heap.size w w' ∧ kd (tab d) v w') 0 ops.toList)
    (htail : AllFrom (fun i o => m ≤ i → ∀ f w, (if i = m then (I w ∧ ∀ d, (predD ops i).contains d = true → kd (tab d) (f d) w) else T i f w) →
      Region.wanted o (yielded ops (fr a0 D f).tmps) = true ∧ OpR P o (fr a0 D f) w fun v w' => T (i + 1) (updo f o.dst v) w') 0 ops.toList)
    (hend : ∀ f w, T ops.size f w → Q .normal (fr a0 D f) w) : (Code.region id ops true).wp P Q a0 w := by
  let J : (Nat → Bool) → (Nat → Value) → World → Prop := fun L f w => Closed ops L ∧ ((∃ i, (m < i ∧ i ≤ ops.size) ∧ (∀ j, j < i → L j = true) ∧ (∀ j, i ≤ j → L j = false) ∧ T i f w) ∨ ((∀ j, m ≤ j → L j = false) ∧ I w ∧ KdAll tab ops L f w))
  have hclosed : ∀ (L : Nat → Bool) (n : Nat), Closed ops L → (∀ j ∈ edgesOf ops n, L j = true) → Closed ops (dn L n) := by
    intro L n hcl hedge i hi j hj
    unfold dn at hi ⊢
    by_cases e : i = n
    · subst e
      split
      · rfl
      · exact hedge j hj
    · rw [if_neg e] at hi
      split
      · rfl
      · exact hcl i hi j hj
  refine wp_region_fr D J hm hback hD ⟨_, fr_self a0 D, (by intro i h; cases h), .inr ⟨fun _ _ => rfl, h0, (by intro i o d _ h; cases h)⟩⟩ ?_ ?_
  · suffices key : ∀ (n : Nat) (l : List Oper), (∀ i o, l[i]? = some o → ops[n + i]? = some o) →
        AllFrom (fun i o => i < m → ∀ f w, I w → (∀ d, (predD ops i).contains d = true → kd (tab d) (f d) w) → Region.wanted o (yielded ops (fr a0 D f).tmps) = true ∧ ∃ d, o.dst = some d ∧ OpR P o (fr a0 D f) w fun v w' => Below w.heap.size w w' ∧ kd (tab d) v w') n l →
        AllFrom (fun i o => m ≤ i → ∀ f w, (if i = m then (I w ∧ ∀ d, (predD ops i).contains d = true → kd (tab d) (f d) w) else T i f w) → Region.wanted o (yielded ops (fr a0 D f).tmps) = true ∧ OpR P o (fr a0 D f) w fun v w' => T (i + 1) (updo f o.dst v) w') n l →
        AllFrom (fun i o => ∀ L f w, J L f w → L i = false → (∀ e ∈ o.after, Region.binds .any e = true → L e.on = true) →
          Region.wanted o (yielded ops (fr a0 D f).tmps) = true ∧ OpR P o (fr a0 D f) w fun v w' => J (dn L i) (updo f o.dst v) w') n l from key 0 _ (fun i o h => by simpa using h) hstep htail
    intro n l
    induction l generalizing n with
    | nil => intro _ _ _; trivial
    | cons o os ih =>
      intro hget hall htl
      refine ⟨?_, ih (n + 1) (fun i p h => by rw [show n + 1 + i = n + (i + 1) by omega]; exact hget _ _ (by simpa using h)) hall.2 htl.2⟩
      rintro L f w ⟨hcl, hJ⟩ hL hdep
      have ho : ops[n]? = some o := hget 0 o (by simp)
      have hn : n < ops.size := (Array.getElem?_eq_some_iff.1 ho).1
      have hedge : ∀ j ∈ edgesOf ops n, L j = true := by
        intro j hj
        unfold edgesOf at hj
        rw [ho] at hj
        obtain ⟨e, he, rfl⟩ := List.mem_map.1 hj
        obtain ⟨he1, he2⟩ := List.mem_filter.1 he
        exact hdep e (by simpa using he1) he2
      have hpr := predGo_ok hcl n _ hedge
      have hpre : KdAll tab ops L f w → ∀ d, (predD ops n).contains d = true → kd (tab d) (f d) w := by
        intro hk d hd
        unfold predD at hd
        obtain ⟨j, hj, hjd⟩ := List.mem_filterMap.1 (List.contains_iff_mem.1 hd)
        obtain ⟨oj, hoj, hdj⟩ := Option.bind_eq_some_iff.1 hjd
        exact hk j oj d hoj (hpr j hj) hdj
      rcases Nat.lt_or_ge n m with hnm | hnm
      · rcases hJ with ⟨i, hi, hall', _, _⟩ | ⟨hfar, hIw, hk⟩
        · rw [hall' n (by omega)] at hL; cases hL
        obtain ⟨hw, d, hd, hr⟩ := hall.1 hnm f w hIw (hpre hk)
        refine ⟨hw, ?_⟩
        have step : ∀ v w', (Below w.heap.size w w' ∧ kd (tab d) v w') → J (dn L n) (updo f o.dst v) w' := by
          rintro v w' ⟨hb, hkd⟩
          refine ⟨hclosed _ _ hcl hedge, .inr ⟨fun j hj => by unfold dn; rw [if_neg (by omega)]; exact hfar j hj, hI _ _ hIw hb, ?_⟩⟩
          intro i p d' hp hi hd'
          rw [hd]
          unfold dn at hi
          by_cases e : i = n
          · subst e
            rw [ho] at hp
            cases hp
            rw [hd] at hd'
            cases hd'
            simpa [updo, upd] using hkd
          · rw [if_neg e] at hi
            have hne : d' ≠ d := fun he => e (uniq_spec hu hp ho (he ▸ hd') hd)
            simp only [updo, upd, if_neg hne]
            exact (hk i p d' hp hi hd').keep hb
        rcases hr with ⟨v, w', h1, h2⟩ | ⟨w', h1, h2⟩ | ⟨g, args, h1, h2⟩
        · exact .inl ⟨v, w', h1, step _ _ h2⟩
        · exact .inr (.inl ⟨w', h1, step _ _ h2⟩)
        · exact .inr (.inr ⟨g, args, h1, h2.mono fun e w' ⟨v, he, hr⟩ => ⟨v, he, step _ _ hr⟩⟩)
      · have hprev : ∀ j, j < n → L j = true := fun j hj => hpr j (chain_spec hch hn hnm hj)
        have harg : if n = m then (I w ∧ ∀ d, (predD ops n).contains d = true → kd (tab d) (f d) w) else T n f w := by
          rcases hJ with ⟨i, hi, hall', hfar, hT⟩ | ⟨hfar, hIw, hk⟩
          · have hin : i = n := by
              rcases Nat.lt_trichotomy i n with h | h | h
              · have := hfar i (Nat.le_refl _); rw [hprev i h] at this; cases this
              · exact h
              · have := hall' n h; rw [this] at hL; cases hL
            subst hin
            rw [if_neg (by omega)]
            exact hT
          · by_cases e : n = m
            · rw [if_pos e]; exact ⟨hIw, hpre hk⟩
            · have := hfar m (Nat.le_refl _); rw [hprev m (by omega)] at this; cases this
        obtain ⟨hw, hr⟩ := htl.1 hnm f w harg
        have hrest : ∀ j, n < j → L j = false := by
          rcases hJ with ⟨i, hi, hall', hfar, hT⟩ | ⟨hfar, _, _⟩
          · intro j hj
            refine hfar j ?_
            rcases Nat.lt_or_ge n i with h | h
            · rw [hall' n h] at hL; cases hL
            · omega
          · intro j hj; exact hfar j (by omega)
        refine ⟨hw, ?_⟩
        have step : ∀ v w', T (n + 1) (updo f o.dst v) w' → J (dn L n) (updo f o.dst v) w' := fun v w' hT =>
          ⟨hclosed _ _ hcl hedge, .inl ⟨n + 1, ⟨by omega, hn⟩, fun j hj => by unfold dn; split; rfl; exact hprev j (by omega), fun j hj => by unfold dn; rw [if_neg (by omega)]; exact hrest j (by omega), hT⟩⟩
        rcases hr with ⟨v, w', h1, h2⟩ | ⟨w', h1, h2⟩ | ⟨g, args, h1, h2⟩
        · exact .inl ⟨v, w', h1, step _ _ h2⟩
        · exact .inr (.inl ⟨w', h1, step _ _ h2⟩)
        · exact .inr (.inr ⟨g, args, h1, h2.mono fun e w' ⟨v, he, hr⟩ => ⟨v, he, step _ _ hr⟩⟩)
  · rintro L f w ⟨_, hJ⟩ hall
    rcases hJ with ⟨i, hi, _, hfar, hT⟩ | ⟨hfar, _, _⟩
    · rcases Nat.lt_or_ge i ops.size with h | h
      · have := hfar i (Nat.le_refl _); rw [hall i h] at this; cases this
      · obtain rfl : i = ops.size := by omega
        exact hend f w hT
    · have := hfar m (Nat.le_refl _); rw [hall m hms] at this; cases this
theorem AllFrom.of {G : Nat → Oper → Prop} {n : Nat} {l : List Oper} (h : ∀ i o, l[i]? = some o → G (n + i) o) : AllFrom G n l := by
  induction l generalizing n with
  | nil => trivial
  | cons x xs ih => exact ⟨h 0 x (by simp), ih fun i o ho => by have := h (i + 1) o (by simpa using ho); rwa [show n + (i + 1) = n + 1 + i by omega] at this⟩
/-- the same, the two parts apart -/
theorem wp_region_two {id : Nat} {a0 : Act} {w : World} (D : Nat → Bool) (tab : Nat → Kd) (I : World → Prop) (m : Nat) (T : Nat → (Nat → Value) → World → Prop) (hm : P.follows .mixedOrders = true) (hback : backB .any ops = true) (hu : uniqB ops = true) (hch : chainB ops m = true) (hms : m < ops.size)
    (hD : (ops.toList.filterMap (·.dst)).all D = true) (hI : ∀ w w', I w → Below w.heap.size w w' → I w') (h0 : I { w with drawn := w.drawn + 1 })
    (hstep : AllFrom (fun i o => ∀ f w, I w → (∀ d, (predD ops i).contains d = true → kd (tab d) (f d) w) →
      Region.wanted o (yielded ops (fr a0 D f).tmps) = true ∧ ∃ d, o.dst = some d ∧ OpR P o (fr a0 D f) w fun v w' => Below w.heap.size w w' ∧ kd (tab d) v w') 0 (ops.toList.take m))
    (htail : AllFrom (fun i o => ∀ f w, (if i = m then (I w ∧ ∀ d, (predD ops i).contains d = true → kd (tab d) (f d) w) else T i f w) →
      Region.wanted o (yielded ops (fr a0 D f).tmps) = true ∧ OpR P o (fr a0 D f) w fun v w' => T (i + 1) (updo f o.dst v) w') m (ops.toList.drop m))
    (hend : ∀ f w, T ops.size f w → Q .normal (fr a0 D f) w) : (Code.region id ops true).wp P Q a0 w := by
  refine wp_region_kdt D tab I m T hm hback hu hch hms hD hI h0 ?_ ?_ hend
  · refine .of fun i o ho => ?_
    rw [Nat.zero_add]
    intro hi
    have := hstep.get (i := i) (o := o) (by rw [List.getElem?_take_of_lt hi]; exact ho)
    rw [Nat.zero_add] at this
    exact this
  · refine .of fun i o ho => ?_
    rw [Nat.zero_add]
    intro hi
    have := htail.get (i := i - m) (o := o) (by rw [List.getElem?_drop, show m + (i - m) = i by omega]; exact ho)
    rw [show m + (i - m) = i by omega] at this
    exact this
/-- among the operations from m on each comes behind the former -/
def tailB (ops : Array Oper) (m : Nat) : Bool := (List.range ops.size).all fun i => decide (i ≤ m) || (edgesOf ops i).contains (i - 1)
theorem tail_spec {m : Nat} (h : tailB ops m = true) {i : Nat} (hi : i < ops.size) (hm : m < i) : (i - 1) ∈ edgesOf ops i := by
  have h1 := List.all_eq_true.1 h i (List.mem_range.2 hi)
  have h2 : decide (i ≤ m) = false := by simpa using hm
  rw [h2, Bool.false_or] at h1
  simpa using h1
/-- loads, calls and new blocks in whatever order, the stores from m on one behind the other between them -/
theorem wp_region_flt {id : Nat} {a0 : Act} {w : World} (D : Nat → Bool) (tab : Nat → Kd) (m : Nat) (I : Nat → World → Prop) (hm : P.follows .mixedOrders = true) (hback : backB .any ops = true) (hu : uniqB ops = true) (hch : tailB ops m = true) (hms : m ≤ ops.size)
    (hD : (ops.toList.filterMap (·.dst)).all D = true) (hI : ∀ i w w', I i w → Below w.heap.size w w' → I i w') (h0 : I m { w with drawn := w.drawn + 1 })
    (hstep : AllFrom (fun i o => ∀ s f w, I s w → (∀ d, (predD ops i).contains d = true → kd (tab d) (f d) w) →
      Region.wanted o (yielded ops (fr a0 D f).tmps) = true ∧ ∃ d, o.dst = some d ∧ OpR P o (fr a0 D f) w fun v w' => Below w.heap.size w w' ∧ kd (tab d) v w') 0 (ops.toList.take m))
    (htail : AllFrom (fun i o => ∀ f w, I i w → (∀ d, (predD ops i).contains d = true → kd (tab d) (f d) w) →
      Region.wanted o (yielded ops (fr a0 D f).tmps) = true ∧ o.dst = none ∧ OpR P o (fr a0 D f) w fun _ w' => I (i + 1) w' ∧ ∀ d v, kd (tab d) v w → kd (tab d) v w') m (ops.toList.drop m))
    (hend : ∀ f w, I ops.size w → (∀ d, (ops.toList.filterMap (·.dst)).contains d = true → kd (tab d) (f d) w) → Q .normal (fr a0 D f) w) : (Code.region id ops true).wp P Q a0 w := by
  let J : (Nat → Bool) → (Nat → Value) → World → Prop := fun L f w => Closed ops L ∧ ∃ i, (m ≤ i ∧ i ≤ ops.size) ∧ (∀ j, m ≤ j → j < i → L j = true) ∧ (∀ j, i ≤ j → L j = false) ∧ I i w ∧ KdAll tab ops L f w
  have hclosed : ∀ (L : Nat → Bool) (n : Nat), Closed ops L → (∀ j ∈ edgesOf ops n, L j = true) → Closed ops (dn L n) := by
    intro L n hcl hedge i hi j hj
    unfold dn at hi ⊢
    by_cases e : i = n
    · subst e
      split
      · rfl
      · exact hedge j hj
    · rw [if_neg e] at hi
      split
      · rfl
      · exact hcl i hi j hj
  refine wp_region_fr D J hm hback hD ⟨_, fr_self a0 D, (by intro i h; cases h), m, ⟨Nat.le_refl _, hms⟩, fun j h1 h2 => by omega, fun _ _ => rfl, h0, (by intro i o d _ h; cases h)⟩ ?_ ?_
  · refine .of fun n o ho => ?_
    rw [Nat.zero_add]
    rintro L f w ⟨hcl, i, ⟨hi1, hi2⟩, hdone, hfar, hIw, hk⟩ hL hdep
    have ho : ops[n]? = some o := by simpa using ho
    have hn : n < ops.size := (Array.getElem?_eq_some_iff.1 ho).1
    have hedge : ∀ j ∈ edgesOf ops n, L j = true := by
      intro j hj
      unfold edgesOf at hj
      rw [ho] at hj
      obtain ⟨e, he, rfl⟩ := List.mem_map.1 hj
      obtain ⟨he1, he2⟩ := List.mem_filter.1 he
      exact hdep e (by simpa using he1) he2
    have hpr := predGo_ok hcl n _ hedge
    have hpre : ∀ d, (predD ops n).contains d = true → kd (tab d) (f d) w := by
      intro d hd
      unfold predD at hd
      obtain ⟨j, hj, hjd⟩ := List.mem_filterMap.1 (List.contains_iff_mem.1 hd)
      obtain ⟨oj, hoj, hdj⟩ := Option.bind_eq_some_iff.1 hjd
      exact hk j oj d hoj (hpr j hj) hdj
    rcases Nat.lt_or_ge n m with hnm | hnm
    · have hg := hstep.get (i := n) (o := o) (by rw [List.getElem?_take_of_lt hnm]; simpa using ho)
      rw [Nat.zero_add] at hg
      obtain ⟨hw, d, hd, hr⟩ := hg i f w hIw hpre
      refine ⟨hw, ?_⟩
      have step : ∀ v w', (Below w.heap.size w w' ∧ kd (tab d) v w') → J (dn L n) (updo f o.dst v) w' := by
        rintro v w' ⟨hb, hkd⟩
        refine ⟨hclosed _ _ hcl hedge, i, ⟨hi1, hi2⟩, fun j h1 h2 => by unfold dn; rw [if_neg (by omega)]; exact hdone j h1 h2, fun j hj => by unfold dn; rw [if_neg (by omega)]; exact hfar j hj, hI _ _ _ hIw hb, ?_⟩
        intro i' p d' hp hi' hd'
        rw [hd]
        unfold dn at hi'
        by_cases e : i' = n
        · subst e
          rw [ho] at hp
          cases hp
          rw [hd] at hd'
          cases hd'
          simpa [updo, upd] using hkd
        · rw [if_neg e] at hi'
          have hne : d' ≠ d := fun he => e (uniq_spec hu hp ho (he ▸ hd') hd)
          simp only [updo, upd, if_neg hne]
          exact (hk i' p d' hp hi' hd').keep hb
      rcases hr with ⟨v, w', h1, h2⟩ | ⟨w', h1, h2⟩ | ⟨g, args, h1, h2⟩
      · exact .inl ⟨v, w', h1, step _ _ h2⟩
      · exact .inr (.inl ⟨w', h1, step _ _ h2⟩)
      · exact .inr (.inr ⟨g, args, h1, h2.mono fun e w' ⟨v, he, hr⟩ => ⟨v, he, step _ _ hr⟩⟩)
    · have hin : i = n := by
        rcases Nat.lt_trichotomy i n with h | h | h
        · have h1 := hedge _ (tail_spec hch hn (by omega))
          rw [hfar (n - 1) (by omega)] at h1
          cases h1
        · exact h
        · have := hdone n hnm h; rw [this] at hL; cases hL
      subst hin
      have hg := htail.get (i := i - m) (o := o) (by rw [List.getElem?_drop, show m + (i - m) = i by omega]; simpa using ho)
      rw [show m + (i - m) = i by omega] at hg
      obtain ⟨hw, hdn, hr⟩ := hg f w hIw hpre
      refine ⟨hw, ?_⟩
      have step : ∀ v w', (I (i + 1) w' ∧ ∀ d v, kd (tab d) v w → kd (tab d) v w') → J (dn L i) (updo f o.dst v) w' := by
        rintro v w' ⟨hI', hkk⟩
        rw [hdn]
        refine ⟨hclosed _ _ hcl hedge, i + 1, ⟨by omega, hn⟩, fun j h1 h2 => by unfold dn; split; rfl; exact hdone j h1 (by omega), fun j hj => by unfold dn; rw [if_neg (by omega)]; exact hfar j (by omega), hI', ?_⟩
        intro i' p d' hp hi' hd'
        unfold dn at hi'
        by_cases e : i' = i
        · subst e
          rw [ho] at hp
          cases hp
          rw [hdn] at hd'
          cases hd'
        · rw [if_neg e] at hi'
          exact hkk _ _ (hk i' p d' hp hi' hd')
      rcases hr with ⟨v, w', h1, h2⟩ | ⟨w', h1, h2⟩ | ⟨g, args, h1, h2⟩
      · exact .inl ⟨v, w', h1, step _ _ h2⟩
      · exact .inr (.inl ⟨w', h1, step _ _ h2⟩)
      · exact .inr (.inr ⟨g, args, h1, h2.mono fun e w' ⟨v, he, hr⟩ => ⟨v, he, step _ _ hr⟩⟩)
  · rintro L f w ⟨_, i, ⟨hi1, hi2⟩, _, hfar, hIw, hk⟩ hall
    have hie : i = ops.size := by
      rcases Nat.lt_or_ge i ops.size with h | h
      · have := hfar i (Nat.le_refl _); rw [hall i h] at this; cases this
      · omega
    subst hie
    refine hend f w hIw fun d hd => ?_
    obtain ⟨o, ho, hod⟩ := List.mem_filterMap.1 (List.contains_iff_mem.1 hd)
    obtain ⟨i, hi⟩ := List.getElem?_of_mem ho
    have hi' : ops[i]? = some o := by simpa using hi
    exact hk i o d hi' (hall i (Array.getElem?_eq_some_iff.1 hi').1) hod
end
section
variable {o : Oper} {w : World} {R : Value → World → Prop}
theorem OpR.val {P : Program} {a : Act} {v : Value} {w' : World} (h : (execOp a.eval o).run P w = .ok (.value v) w') (hR : R v w') : OpR P o a w R := .inl ⟨v, w', h, hR⟩
theorem OpR.skip {P : Program} {a : Act} {w' : World} (h : (execOp a.eval o).run P w = .ok .skip w') (hR : R undef w') : OpR P o a w R := .inr (.inl ⟨w', h, hR⟩)
end
end Go.Proofs.YtljmhejljpfaiaaGreat
namespace Go.Proofs.YtljmhejljpfaiaaGreat
set_option maxRecDepth 100000
set_option maxRecDepth 100000
open Go.RowKit

/-- the new blocks so far: all there, all different -/
def Als (al : Nat → Bool) (ops : Array Oper) (L : Nat → Bool) (f : Nat → Value) (w : World) : Prop :=
  (∀ i o d, ops[i]? = some o → L i = true → o.dst = some d → al d = true → ∃ T, f d = .pointer (some ⟨T, 0, none⟩) ∧ T < w.heap.size) ∧
  (∀ i j oi oj d d', ops[i]? = some oi → ops[j]? = some oj → L i = true → L j = true → oi.dst = some d → oj.dst = some d' → al d = true → al d' = true → d ≠ d' → f d ≠ f d')
theorem Als.step {al : Nat → Bool} {ops : Array Oper} {L : Nat → Bool} {f : Nat → Value} {w w' : World} {n : Nat} {o : Oper} {d : Nat} {v : Value} (h : Als al ops L f w) (_hu : uniqB ops = true) (ho : ops[n]? = some o) (hd : o.dst = some d) (hs : w.heap.size ≤ w'.heap.size)
    (hal : al d = true → v = .pointer (some ⟨w.heap.size, 0, none⟩) ∧ w.heap.size < w'.heap.size) : Als al ops (dn L n) (updo f o.dst v) w' := by
  rw [hd]
  have old : ∀ i oi di, ops[i]? = some oi → dn L n i = true → oi.dst = some di → al di = true → di ≠ d → ∃ T, f di = .pointer (some ⟨T, 0, none⟩) ∧ T < w.heap.size := by
    intro i oi di hi hL hdi ha hne
    unfold dn at hL
    by_cases e : i = n
    · subst e; rw [ho] at hi; cases hi; rw [hd] at hdi; cases hdi; exact absurd rfl hne
    · rw [if_neg e] at hL; exact h.1 i oi di hi hL hdi ha
  have oldL : ∀ i oi di, ops[i]? = some oi → dn L n i = true → oi.dst = some di → di ≠ d → L i = true := by
    intro i oi di hi hL hdi hne
    unfold dn at hL
    by_cases e : i = n
    · subst e; rw [ho] at hi; cases hi; rw [hd] at hdi; cases hdi; exact absurd rfl hne
    · rw [if_neg e] at hL; exact hL
  constructor
  · intro i oi di hi hL hdi ha
    simp only [updo, upd]
    by_cases e : di = d
    · subst e; rw [if_pos rfl]; exact ⟨_, (hal ha).1, (hal ha).2⟩
    · rw [if_neg e]
      obtain ⟨T, h1, h2⟩ := old i oi di hi hL hdi ha e
      exact ⟨T, h1, by omega⟩
  · intro i j oi oj di dj hi hj hLi hLj hdi hdj hai haj hne
    simp only [updo, upd]
    by_cases e : di = d
    · subst e
      rw [if_pos rfl, if_neg (fun h => hne h.symm), (hal hai).1]
      obtain ⟨T, h1, h2⟩ := old j oj dj hj hLj hdj haj (fun h => hne h.symm)
      rw [h1]; intro e; simp at e <;> omega
    · rw [if_neg e]
      by_cases e2 : dj = d
      · subst e2
        rw [if_pos rfl, (hal haj).1]
        obtain ⟨T, h1, h2⟩ := old i oi di hi hLi hdi hai e
        rw [h1]; intro e; simp at e <;> omega
      · rw [if_neg e2]
        exact h.2 i j oi oj di dj hi hj (oldL i oi di hi hLi hdi e) (oldL j oj dj hj hLj hdj e2) hdi hdj hai haj hne
theorem Als.tail {al : Nat → Bool} {ops : Array Oper} {L : Nat → Bool} {f : Nat → Value} {w w' : World} {n : Nat} {o : Oper} (h : Als al ops L f w) (ho : ops[n]? = some o) (hd : o.dst = none) (hs : w.heap.size ≤ w'.heap.size) : Als al ops (dn L n) f w' := by
  have old : ∀ i oi di, ops[i]? = some oi → dn L n i = true → oi.dst = some di → L i = true := by
    intro i oi di hi hL hdi
    unfold dn at hL
    by_cases e : i = n
    · subst e; rw [ho] at hi; cases hi; rw [hd] at hdi; cases hdi
    · rw [if_neg e] at hL; exact hL
  constructor
  · intro i oi di hi hL hdi ha
    obtain ⟨T, h1, h2⟩ := h.1 i oi di hi (old i oi di hi hL hdi) hdi ha
    exact ⟨T, h1, by omega⟩
  · intro i j oi oj di dj hi hj hLi hLj hdi hdj
    exact h.2 i j oi oj di dj hi hj (old i oi di hi hLi hdi) (old j oj dj hj hLj hdj) hdi hdj
section
variable {P : Program} {ops : Array Oper} {Q : Exit → Act → World → Prop}
/-- the same, and the new blocks (slots of al) are all different -/
theorem wp_region_als {id : Nat} {a0 : Act} {w : World} (D : Nat → Bool) (tab : Nat → Kd) (al : Nat → Bool) (m : Nat) (I : Nat → World → Prop) (hm : P.follows .mixedOrders = true) (hback : backB .any ops = true) (hu : uniqB ops = true) (hch : tailB ops m = true) (hms : m ≤ ops.size)
    (hD : (ops.toList.filterMap (·.dst)).all D = true) (hI : ∀ i w w', I i w → Below w.heap.size w w' → I i w') (h0 : I m { w with drawn := w.drawn + 1 })
    (hstep : AllFrom (fun i o => ∀ s f w, (∀ j, m ≤ j → j < s → (edgesOf ops j).contains i = false) → I s w → (∀ d, (predD ops i).contains d = true → kd (tab d) (f d) w) →
      Region.wanted o (yielded ops (fr a0 D f).tmps) = true ∧ ∃ d, o.dst = some d ∧ OpR P o (fr a0 D f) w fun v w' => (Below w.heap.size w w' ∧ kd (tab d) v w') ∧ (al d = true → v = .pointer (some ⟨w.heap.size, 0, none⟩) ∧ w.heap.size < w'.heap.size)) 0 (ops.toList.take m))
    (htail : AllFrom (fun i o => ∀ f w, I i w → (∀ d, (predD ops i).contains d = true → kd (tab d) (f d) w) → (∀ d d', (predD ops i).contains d = true → (predD ops i).contains d' = true → al d = true → al d' = true → d ≠ d' → f d ≠ f d') →
      Region.wanted o (yielded ops (fr a0 D f).tmps) = true ∧ o.dst = none ∧ OpR P o (fr a0 D f) w fun _ w' => (I (i + 1) w' ∧ ∀ d v, kd (tab d) v w → kd (tab d) v w') ∧ w.heap.size ≤ w'.heap.size) m (ops.toList.drop m))
    (hend : ∀ f w, I ops.size w → (∀ d, (ops.toList.filterMap (·.dst)).contains d = true → kd (tab d) (f d) w) → Q .normal (fr a0 D f) w) : (Code.region id ops true).wp P Q a0 w := by
  let J : (Nat → Bool) → (Nat → Value) → World → Prop := fun L f w => Closed ops L ∧ ∃ i, (m ≤ i ∧ i ≤ ops.size) ∧ (∀ j, m ≤ j → j < i → L j = true) ∧ (∀ j, i ≤ j → L j = false) ∧ I i w ∧ KdAll tab ops L f w ∧ Als al ops L f w
  have hclosed : ∀ (L : Nat → Bool) (n : Nat), Closed ops L → (∀ j ∈ edgesOf ops n, L j = true) → Closed ops (dn L n) := by
    intro L n hcl hedge i hi j hj
    unfold dn at hi ⊢
    by_cases e : i = n
    · subst e
      split
      · rfl
      · exact hedge j hj
    · rw [if_neg e] at hi
      split
      · rfl
      · exact hcl i hi j hj
  refine wp_region_fr D J hm hback hD ⟨_, fr_self a0 D, (by intro i h; cases h), m, ⟨Nat.le_refl _, hms⟩, fun j h1 h2 => by omega, fun _ _ => rfl, h0, (by intro i o d _ h; cases h), ⟨(by intro i o d _ h; cases h), (by intro i j oi oj d d' _ _ h; cases h)⟩⟩ ?_ ?_
  · refine .of fun n o ho => ?_
    rw [Nat.zero_add]
    rintro L f w ⟨hcl, i, ⟨hi1, hi2⟩, hdone, hfar, hIw, hk, hals⟩ hL hdep
    have ho : ops[n]? = some o := by simpa using ho
    have hn : n < ops.size := (Array.getElem?_eq_some_iff.1 ho).1
    have hedge : ∀ j ∈ edgesOf ops n, L j = true := by
      intro j hj
      unfold edgesOf at hj
      rw [ho] at hj
      obtain ⟨e, he, rfl⟩ := List.mem_map.1 hj
      obtain ⟨he1, he2⟩ := List.mem_filter.1 he
      exact hdep e (by simpa using he1) he2
    have hpr := predGo_ok hcl n _ hedge
    have hpre : ∀ d, (predD ops n).contains d = true → kd (tab d) (f d) w := by
      intro d hd
      unfold predD at hd
      obtain ⟨j, hj, hjd⟩ := List.mem_filterMap.1 (List.contains_iff_mem.1 hd)
      obtain ⟨oj, hoj, hdj⟩ := Option.bind_eq_some_iff.1 hjd
      exact hk j oj d hoj (hpr j hj) hdj
    rcases Nat.lt_or_ge n m with hnm | hnm
    · have hg := hstep.get (i := n) (o := o) (by rw [List.getElem?_take_of_lt hnm]; simpa using ho)
      rw [Nat.zero_add] at hg
      obtain ⟨hw, d, hd, hr⟩ := hg i f w (fun j h1 h2 => by
        cases hc : (edgesOf ops j).contains n with
        | false => rfl
        | true => rw [hcl j (hdone j h1 h2) n (List.contains_iff_mem.1 hc)] at hL; cases hL) hIw hpre
      refine ⟨hw, ?_⟩
      have step : ∀ v w', ((Below w.heap.size w w' ∧ kd (tab d) v w') ∧ (al d = true → v = .pointer (some ⟨w.heap.size, 0, none⟩) ∧ w.heap.size < w'.heap.size)) → J (dn L n) (updo f o.dst v) w' := by
        rintro v w' ⟨⟨hb, hkd⟩, hal⟩
        refine ⟨hclosed _ _ hcl hedge, i, ⟨hi1, hi2⟩, fun j h1 h2 => by unfold dn; rw [if_neg (by omega)]; exact hdone j h1 h2, fun j hj => by unfold dn; rw [if_neg (by omega)]; exact hfar j hj, hI _ _ _ hIw hb, ?_, hals.step hu ho hd hb.size hal⟩
        intro i' p d' hp hi' hd'
        rw [hd]
        unfold dn at hi'
        by_cases e : i' = n
        · subst e
          rw [ho] at hp
          cases hp
          rw [hd] at hd'
          cases hd'
          simpa [updo, upd] using hkd
        · rw [if_neg e] at hi'
          have hne : d' ≠ d := fun he => e (uniq_spec hu hp ho (he ▸ hd') hd)
          simp only [updo, upd, if_neg hne]
          exact (hk i' p d' hp hi' hd').keep hb
      rcases hr with ⟨v, w', h1, h2⟩ | ⟨w', h1, h2⟩ | ⟨g, args, h1, h2⟩
      · exact .inl ⟨v, w', h1, step _ _ h2⟩
      · exact .inr (.inl ⟨w', h1, step _ _ h2⟩)
      · exact .inr (.inr ⟨g, args, h1, h2.mono fun e w' ⟨v, he, hr⟩ => ⟨v, he, step _ _ hr⟩⟩)
    · have hin : i = n := by
        rcases Nat.lt_trichotomy i n with h | h | h
        · have h1 := hedge _ (tail_spec hch hn (by omega))
          rw [hfar (n - 1) (by omega)] at h1
          cases h1
        · exact h
        · have := hdone n hnm h; rw [this] at hL; cases hL
      subst hin
      have hg := htail.get (i := i - m) (o := o) (by rw [List.getElem?_drop, show m + (i - m) = i by omega]; simpa using ho)
      rw [show m + (i - m) = i by omega] at hg
      obtain ⟨hw, hdn, hr⟩ := hg f w hIw hpre (fun d d' h1 h2 => by
        unfold predD at h1 h2
        obtain ⟨j, hj, hjd⟩ := List.mem_filterMap.1 (List.contains_iff_mem.1 h1)
        obtain ⟨oj, hoj, hdj⟩ := Option.bind_eq_some_iff.1 hjd
        obtain ⟨j', hj', hjd'⟩ := List.mem_filterMap.1 (List.contains_iff_mem.1 h2)
        obtain ⟨oj', hoj', hdj'⟩ := Option.bind_eq_some_iff.1 hjd'
        exact hals.2 j j' oj oj' d d' hoj hoj' (hpr j hj) (hpr j' hj') hdj hdj')
      refine ⟨hw, ?_⟩
      have step : ∀ v w', ((I (i + 1) w' ∧ ∀ d v, kd (tab d) v w → kd (tab d) v w') ∧ w.heap.size ≤ w'.heap.size) → J (dn L i) (updo f o.dst v) w' := by
        rintro v w' ⟨⟨hI', hkk⟩, hsz⟩
        rw [hdn]
        refine ⟨hclosed _ _ hcl hedge, i + 1, ⟨by omega, hn⟩, fun j h1 h2 => by unfold dn; split; rfl; exact hdone j h1 (by omega), fun j hj => by unfold dn; rw [if_neg (by omega)]; exact hfar j (by omega), hI', ?_, hals.tail ho hdn hsz⟩
        intro i' p d' hp hi' hd'
        unfold dn at hi'
        by_cases e : i' = i
        · subst e
          rw [ho] at hp
          cases hp
          rw [hdn] at hd'
          cases hd'
        · rw [if_neg e] at hi'
          exact hkk _ _ (hk i' p d' hp hi' hd')
      rcases hr with ⟨v, w', h1, h2⟩ | ⟨w', h1, h2⟩ | ⟨g, args, h1, h2⟩
      · exact .inl ⟨v, w', h1, step _ _ h2⟩
      · exact .inr (.inl ⟨w', h1, step _ _ h2⟩)
      · exact .inr (.inr ⟨g, args, h1, h2.mono fun e w' ⟨v, he, hr⟩ => ⟨v, he, step _ _ hr⟩⟩)
  · rintro L f w ⟨_, i, ⟨hi1, hi2⟩, _, hfar, hIw, hk, _⟩ hall
    have hie : i = ops.size := by
      rcases Nat.lt_or_ge i ops.size with h | h
      · have := hfar i (Nat.le_refl _); rw [hall i h] at this; cases this
      · omega
    subst hie
    refine hend f w hIw fun d hd => ?_
    obtain ⟨o, ho, hod⟩ := List.mem_filterMap.1 (List.contains_iff_mem.1 hd)
    obtain ⟨i, hi⟩ := List.getElem?_of_mem ho
    have hi' : ops[i]? = some o := by simpa using hi
    exact hk i o d hi' (hall i (Array.getElem?_eq_some_iff.1 hi').1) hod
end
end Go.Proofs.YtljmhejljpfaiaaGreat
namespace Go.Proofs.YtljmhejljpfaiaaGreat
set_option maxRecDepth 100000
set_option maxRecDepth 100000
open Go.RowKit

/-- each new block stands before the first store -/
def alB (ops : Array Oper) (al : Nat → Bool) (m : Nat) : Bool := (List.range ops.size).all fun n => match (ops[n]?).bind (·.dst) with | some d => !al d || (edgesOf ops m).contains n | none => true
theorem alB_spec {ops : Array Oper} {al : Nat → Bool} {m n d : Nat} {o : Oper} (h : alB ops al m = true) (ho : ops[n]? = some o) (hd : o.dst = some d) (ha : al d = true) : n ∈ edgesOf ops m := by
  have h1 := List.all_eq_true.1 h n (List.mem_range.2 (Array.getElem?_eq_some_iff.1 ho).1)
  simp only [ho, Option.bind_some, hd, ha, Bool.not_true, Bool.false_or] at h1
  exact List.contains_iff_mem.1 h1
section
variable {P : Program} {ops : Array Oper} {Q : Exit → Act → World → Prop}
/-- the same; what is kept may speak of the new blocks as soon as a store is done -/
theorem wp_region_alf {id : Nat} {a0 : Act} {w : World} (D : Nat → Bool) (tab : Nat → Kd) (al : Nat → Bool) (m : Nat) (I : Nat → (Nat → Value) → World → Prop) (hm : P.follows .mixedOrders = true) (hback : backB .any ops = true) (hu : uniqB ops = true) (hch : tailB ops m = true) (hms : m ≤ ops.size)
    (hD : (ops.toList.filterMap (·.dst)).all D = true) (hI : ∀ i f f' w w', I i f w → Below w.heap.size w w' → (i = m ∨ ∀ d, al d = true → f' d = f d) → I i f' w') (ham : alB ops al m = true) (h0 : ∀ f, I m f { w with drawn := w.drawn + 1 })
    (hstep : AllFrom (fun i o => ∀ s f w, (∀ j, m ≤ j → j < s → (edgesOf ops j).contains i = false) → I s f w → (∀ d, (predD ops i).contains d = true → kd (tab d) (f d) w) →
      Region.wanted o (yielded ops (fr a0 D f).tmps) = true ∧ ∃ d, o.dst = some d ∧ OpR P o (fr a0 D f) w fun v w' => (Below w.heap.size w w' ∧ kd (tab d) v w') ∧ (al d = true → v = .pointer (some ⟨w.heap.size, 0, none⟩) ∧ w.heap.size < w'.heap.size)) 0 (ops.toList.take m))
    (htail : AllFrom (fun i o => ∀ f w, I i f w → (∀ d, (predD ops i).contains d = true → kd (tab d) (f d) w) → (∀ d d', (predD ops i).contains d = true → (predD ops i).contains d' = true → al d = true → al d' = true → d ≠ d' → f d ≠ f d') →
      Region.wanted o (yielded ops (fr a0 D f).tmps) = true ∧ o.dst = none ∧ OpR P o (fr a0 D f) w fun _ w' => (I (i + 1) f w' ∧ ∀ d v, kd (tab d) v w → kd (tab d) v w') ∧ w.heap.size ≤ w'.heap.size) m (ops.toList.drop m))
    (hend : ∀ f w, I ops.size f w → (∀ d, (ops.toList.filterMap (·.dst)).contains d = true → kd (tab d) (f d) w) → Q .normal (fr a0 D f) w) : (Code.region id ops true).wp P Q a0 w := by
  let J : (Nat → Bool) → (Nat → Value) → World → Prop := fun L f w => Closed ops L ∧ ∃ i, (m ≤ i ∧ i ≤ ops.size) ∧ (∀ j, m ≤ j → j < i → L j = true) ∧ (∀ j, i ≤ j → L j = false) ∧ I i f w ∧ KdAll tab ops L f w ∧ Als al ops L f w
  have hclosed : ∀ (L : Nat → Bool) (n : Nat), Closed ops L → (∀ j ∈ edgesOf ops n, L j = true) → Closed ops (dn L n) := by
    intro L n hcl hedge i hi j hj
    unfold dn at hi ⊢
    by_cases e : i = n
    · subst e
      split
      · rfl
      · exact hedge j hj
    · rw [if_neg e] at hi
      split
      · rfl
      · exact hcl i hi j hj
  refine wp_region_fr D J hm hback hD ⟨_, fr_self a0 D, (by intro i h; cases h), m, ⟨Nat.le_refl _, hms⟩, fun j h1 h2 => by omega, fun _ _ => rfl, h0 _, (by intro i o d _ h; cases h), ⟨(by intro i o d _ h; cases h), (by intro i j oi oj d d' _ _ h; cases h)⟩⟩ ?_ ?_
  · refine .of fun n o ho => ?_
    rw [Nat.zero_add]
    rintro L f w ⟨hcl, i, ⟨hi1, hi2⟩, hdone, hfar, hIw, hk, hals⟩ hL hdep
    have ho : ops[n]? = some o := by simpa using ho
    have hn : n < ops.size := (Array.getElem?_eq_some_iff.1 ho).1
    have hedge : ∀ j ∈ edgesOf ops n, L j = true := by
      intro j hj
      unfold edgesOf at hj
      rw [ho] at hj
      obtain ⟨e, he, rfl⟩ := List.mem_map.1 hj
      obtain ⟨he1, he2⟩ := List.mem_filter.1 he
      exact hdep e (by simpa using he1) he2
    have hpr := predGo_ok hcl n _ hedge
    have hpre : ∀ d, (predD ops n).contains d = true → kd (tab d) (f d) w := by
      intro d hd
      unfold predD at hd
      obtain ⟨j, hj, hjd⟩ := List.mem_filterMap.1 (List.contains_iff_mem.1 hd)
      obtain ⟨oj, hoj, hdj⟩ := Option.bind_eq_some_iff.1 hjd
      exact hk j oj d hoj (hpr j hj) hdj
    rcases Nat.lt_or_ge n m with hnm | hnm
    · have hg := hstep.get (i := n) (o := o) (by rw [List.getElem?_take_of_lt hnm]; simpa using ho)
      rw [Nat.zero_add] at hg
      obtain ⟨hw, d, hd, hr⟩ := hg i f w (fun j h1 h2 => by
        cases hc : (edgesOf ops j).contains n with
        | false => rfl
        | true => rw [hcl j (hdone j h1 h2) n (List.contains_iff_mem.1 hc)] at hL; cases hL) hIw hpre
      refine ⟨hw, ?_⟩
      have him : ∀ d, o.dst = some d → ∀ v, i = m ∨ ∀ d', al d' = true → updo f o.dst v d' = f d' := by
        intro d hd v
        rcases Nat.lt_or_ge m i with hmi | hmi
        · right
          intro d' had
          rw [hd]
          simp only [updo, upd]
          rw [if_neg]
          intro e
          subst e
          have := hcl m (hdone m (Nat.le_refl _) hmi) n (alB_spec ham ho hd had)
          rw [this] at hL
          cases hL
        · left; omega
      have step : ∀ v w', ((Below w.heap.size w w' ∧ kd (tab d) v w') ∧ (al d = true → v = .pointer (some ⟨w.heap.size, 0, none⟩) ∧ w.heap.size < w'.heap.size)) → J (dn L n) (updo f o.dst v) w' := by
        rintro v w' ⟨⟨hb, hkd⟩, hal⟩
        refine ⟨hclosed _ _ hcl hedge, i, ⟨hi1, hi2⟩, fun j h1 h2 => by unfold dn; rw [if_neg (by omega)]; exact hdone j h1 h2, fun j hj => by unfold dn; rw [if_neg (by omega)]; exact hfar j hj, hI _ _ _ _ _ hIw hb (him d hd v), ?_, hals.step hu ho hd hb.size hal⟩
        intro i' p d' hp hi' hd'
        rw [hd]
        unfold dn at hi'
        by_cases e : i' = n
        · subst e
          rw [ho] at hp
          cases hp
          rw [hd] at hd'
          cases hd'
          simpa [updo, upd] using hkd
        · rw [if_neg e] at hi'
          have hne : d' ≠ d := fun he => e (uniq_spec hu hp ho (he ▸ hd') hd)
          simp only [updo, upd, if_neg hne]
          exact (hk i' p d' hp hi' hd').keep hb
      rcases hr with ⟨v, w', h1, h2⟩ | ⟨w', h1, h2⟩ | ⟨g, args, h1, h2⟩
      · exact .inl ⟨v, w', h1, step _ _ h2⟩
      · exact .inr (.inl ⟨w', h1, step _ _ h2⟩)
      · exact .inr (.inr ⟨g, args, h1, h2.mono fun e w' ⟨v, he, hr⟩ => ⟨v, he, step _ _ hr⟩⟩)
    · have hin : i = n := by
        rcases Nat.lt_trichotomy i n with h | h | h
        · have h1 := hedge _ (tail_spec hch hn (by omega))
          rw [hfar (n - 1) (by omega)] at h1
          cases h1
        · exact h
        · have := hdone n hnm h; rw [this] at hL; cases hL
      subst hin
      have hg := htail.get (i := i - m) (o := o) (by rw [List.getElem?_drop, show m + (i - m) = i by omega]; simpa using ho)
      rw [show m + (i - m) = i by omega] at hg
      obtain ⟨hw, hdn, hr⟩ := hg f w hIw hpre (fun d d' h1 h2 => by
        unfold predD at h1 h2
        obtain ⟨j, hj, hjd⟩ := List.mem_filterMap.1 (List.contains_iff_mem.1 h1)
        obtain ⟨oj, hoj, hdj⟩ := Option.bind_eq_some_iff.1 hjd
        obtain ⟨j', hj', hjd'⟩ := List.mem_filterMap.1 (List.contains_iff_mem.1 h2)
        obtain ⟨oj', hoj', hdj'⟩ := Option.bind_eq_some_iff.1 hjd'
        exact hals.2 j j' oj oj' d d' hoj hoj' (hpr j hj) (hpr j' hj') hdj hdj')
      refine ⟨hw, ?_⟩
      have step : ∀ v w', ((I (i + 1) f w' ∧ ∀ d v, kd (tab d) v w → kd (tab d) v w') ∧ w.heap.size ≤ w'.heap.size) → J (dn L i) (updo f o.dst v) w' := by
        rintro v w' ⟨⟨hI', hkk⟩, hsz⟩
        rw [hdn]
        refine ⟨hclosed _ _ hcl hedge, i + 1, ⟨by omega, hn⟩, fun j h1 h2 => by unfold dn; split; rfl; exact hdone j h1 (by omega), fun j hj => by unfold dn; rw [if_neg (by omega)]; exact hfar j (by omega), hI', ?_, hals.tail ho hdn hsz⟩
        intro i' p d' hp hi' hd'
        unfold dn at hi'
        by_cases e : i' = i
        · subst e
          rw [ho] at hp
          cases hp
          rw [hdn] at hd'
          cases hd'
        · rw [if_neg e] at hi'
          exact hkk _ _ (hk i' p d' hp hi' hd')
      rcases hr with ⟨v, w', h1, h2⟩ | ⟨w', h1, h2⟩ | ⟨g, args, h1, h2⟩
      · exact .inl ⟨v, w', h1, step _ _ h2⟩
      · exact .inr (.inl ⟨w', h1, step _ _ h2⟩)
      · exact .inr (.inr ⟨g, args, h1, h2.mono fun e w' ⟨v, he, hr⟩ => ⟨v, he, step _ _ hr⟩⟩)
  · rintro L f w ⟨_, i, ⟨hi1, hi2⟩, _, hfar, hIw, hk, _⟩ hall
    have hie : i = ops.size := by
      rcases Nat.lt_or_ge i ops.size with h | h
      · have := hfar i (Nat.le_refl _); rw [hall i h] at this; cases this
      · omega
    subst hie
    refine hend f w hIw fun d hd => ?_
    obtain ⟨o, ho, hod⟩ := List.mem_filterMap.1 (List.contains_iff_mem.1 hd)
    obtain ⟨i, hi⟩ := List.getElem?_of_mem ho
    have hi' : ops[i]? = some o := by simpa using hi
    exact hk i o d hi' (hall i (Array.getElem?_eq_some_iff.1 hi').1) hod
end
end Go.Proofs.YtljmhejljpfaiaaGreat

import Derived.Test.YtjjomjjgoceklaaAn
import Derived.Lib.Hide
namespace Go.Proofs.Ytjjomjjgoceklaa
open Go.RowKit

/-- a frame's slots: those of D by f, the others as they were -/
def over : Nat → List Value → (Nat → Bool) → (Nat → Value) → List Value
  | _, [], _, _ => []
  | n, x :: xs, D, f => (match D n with | true => f n | false => x) :: over (n + 1) xs D f
theorem over_length (n : Nat) (l : List Value) (D : Nat → Bool) (f : Nat → Value) : (over n l D f).length = l.length := by
  induction l generalizing n with
  | nil => rfl
  | cons x xs ih => simp [over, ih]
theorem over_get (n : Nat) (l : List Value) (D : Nat → Bool) (f : Nat → Value) (t : Nat) : (over n l D f)[t]? = (l[t]?).map fun x => match D (n + t) with | true => f (n + t) | false => x := by
  induction l generalizing n t with
  | nil => simp [over]
  | cons x xs ih =>
    cases t with
    | zero => simp [over]
    | succ t => simp only [over, List.getElem?_cons_succ, ih]; rw [show n + 1 + t = n + (t + 1) by omega]
def fr (a0 : Act) (D : Nat → Bool) (f : Nat → Value) : Act := { a0 with tmps := (over 0 a0.tmps.toList D f).toArray }
theorem fr_get (a0 : Act) (D : Nat → Bool) (f : Nat → Value) (t : Nat) : (fr a0 D f).tmps[t]? = (a0.tmps[t]?).map fun x => match D t with | true => f t | false => x := by
  have := over_get 0 a0.tmps.toList D f t
  simpa [fr] using this
def upd (f : Nat → Value) (d : Nat) (v : Value) : Nat → Value := fun t => if t = d then v else f t
def updo (f : Nat → Value) (d : Option Nat) (v : Value) : Nat → Value := match d with | none => f | some d => upd f d v
theorem over_upd (n : Nat) (l : List Value) (D : Nat → Bool) (f : Nat → Value) (d : Nat) (v : Value) (hd : D (n + d) = true) : (over n l D f).set d v = over n l D (upd f (n + d) v) := by
  induction l generalizing n d with
  | nil => simp [over]
  | cons x xs ih =>
    cases d with
    | zero =>
      simp only [Nat.add_zero] at hd
      simp only [over, List.set_cons_zero, hd, upd, Nat.add_zero, if_pos]
      congr 1
      suffices h : ∀ (m : Nat) (l : List Value), n < m → over m l D f = over m l D (fun t => if t = n then v else f t) by exact h _ _ (Nat.lt_succ_self n)
      intro m l
      induction l generalizing m with
      | nil => intro _; rfl
      | cons y ys ih' =>
        intro hm
        simp only [over]
        rw [← ih' (m + 1) (by omega), if_neg (by omega)]
    | succ d =>
      simp only [over, List.set_cons_succ]
      rw [ih (n + 1) d (by rw [show n + 1 + d = n + (d + 1) by omega]; exact hd), show n + 1 + d = n + (d + 1) by omega]
      have : upd f (n + (d + 1)) v n = f n := by unfold upd; rw [if_neg (by omega)]
      rw [this]
theorem fr_put (a0 : Act) (D : Nat → Bool) (f : Nat → Value) (d : Option Nat) (v : Value) (hd : ∀ t, d = some t → D t = true) : (fr a0 D f).put d v = fr a0 D (updo f d v) := by
  cases d with
  | none => rfl
  | some t =>
    have := over_upd 0 a0.tmps.toList D f t v (by rw [Nat.zero_add]; exact hd t rfl)
    rw [Nat.zero_add] at this
    simp only [fr, Act.put, updo, List.setIfInBounds_toArray, this]

/-- what an operation comes to: a value, nothing, or a call that returns -/
def OpR (P : Program) (o : Oper) (a : Act) (w : World) (R : Value → World → Prop) : Prop :=
  (∃ v w', (execOp a.eval o).run P w = .ok (.value v) w' ∧ R v w') ∨
  (∃ w', (execOp a.eval o).run P w = .ok .skip w' ∧ R undef w') ∨
  (∃ f args, (execOp a.eval o).run P w = .ok (.enter f args) w ∧ Calls P f args w fun e w' => ∃ v, e = .returned v ∧ R v w')
theorem OpR.wp {P : Program} {o : Oper} {a : Act} {w : World} {R : Value → World → Prop} {K : Act → World → Prop} {Q : Exit → Act → World → Prop} (h : OpR P o a w R) (hK : ∀ v w', R v w' → K (a.put o.dst v) w') : o.wp P a w K Q := by
  unfold Oper.wp
  rcases h with ⟨v, w', h, hr⟩ | ⟨w', h, hr⟩ | ⟨f, args, h, hc⟩
  · rw [h]; exact hK _ _ hr
  · rw [h]; exact hK _ _ hr
  · rw [h, Oper.upon_enter]
    refine hc.mono ?_
    rintro e w' ⟨v, rfl, hr⟩
    exact hK _ _ hr
def AllFrom (G : Nat → Oper → Prop) : Nat → List Oper → Prop
  | _, [] => True
  | n, o :: os => G n o ∧ AllFrom G (n + 1) os
theorem AllFrom.get {G : Nat → Oper → Prop} {n : Nat} {l : List Oper} (h : AllFrom G n l) {i : Nat} {o : Oper} (ho : l[i]? = some o) : G (n + i) o := by
  induction l generalizing n i with
  | nil => simp at ho
  | cons x xs ih =>
    cases i with
    | zero => simp at ho; subst ho; exact h.1
    | succ i => have := ih h.2 (by simpa using ho); rw [show n + 1 + i = n + (i + 1) by omega] at this; exact this
theorem AllFrom.cons {G : Nat → Oper → Prop} {n : Nat} {o : Oper} {os : List Oper} (h1 : G n o) (h2 : AllFrom G (n + 1) os) : AllFrom G n (o :: os) := ⟨h1, h2⟩
theorem AllFrom.nil {G : Nat → Oper → Prop} {n : Nat} : AllFrom G n [] := trivial
/-- each operation's slot is one of D, and no two have one -/
def dstB (D : Nat → Bool) (ops : Array Oper) : Bool :=
  (ops.toList.filterMap (·.dst)).all D && (ops.toList.filterMap (·.dst)).Nodup
section
variable {P : Program} {ops : Array Oper} {Q : Exit → Act → World → Prop}
theorem wp_region_fr {id : Nat} {a0 : Act} {w : World} (D : Nat → Bool) (J : (Nat → Bool) → (Nat → Value) → World → Prop) (hm : P.follows .mixedOrders = true) (hback : backB .any ops = true)
    (hD : (ops.toList.filterMap (·.dst)).all D = true)
    (hf : ∃ f, fr a0 D f = a0 ∧ J (fun _ => false) f { w with drawn := w.drawn + 1 })
    (hstep : AllFrom (fun i o => ∀ L f w, J L f w → L i = false → (∀ e ∈ o.after, Region.binds .any e = true → L e.on = true) →
      Region.wanted o (yielded ops (fr a0 D f).tmps) = true ∧ OpR P o (fr a0 D f) w fun v w' => J (dn L i) (updo f o.dst v) w') 0 ops.toList)
    (hend : ∀ L f w, J L f w → (∀ i, i < ops.size → L i = true) → Q .normal (fr a0 D f) w) : (Code.region id ops true).wp P Q a0 w := by
  obtain ⟨f0, hf0, hJ0⟩ := hf
  refine wp_region_inv hm hback (fun L a w => ∃ f, a = fr a0 D f ∧ J L f w) ⟨f0, hf0.symm, hJ0⟩ ?_ ?_
  · rintro L a w i o ho ⟨f, rfl, hJ⟩ hL hd
    have hg := hstep.get (i := i) (o := o) (by simpa using ho)
    rw [Nat.zero_add] at hg
    obtain ⟨hw, hr⟩ := hg L f w hJ hL hd
    unfold wpOp
    simp only [ho, hw, if_true]
    refine .inl (hr.wp fun v w' hR => ⟨_, fr_put _ _ _ _ _ fun t ht => ?_, hR⟩)
    have hmem : t ∈ ops.toList.filterMap (·.dst) := List.mem_filterMap.2 ⟨o, by rw [Array.mem_toList_iff]; exact Array.mem_of_getElem? ho, ht⟩
    exact List.all_eq_true.1 hD t hmem
  · rintro L a w ⟨f, rfl, hJ⟩ hall
    exact hend L f w hJ hall
end
theorem fr_self (a0 : Act) (D : Nat → Bool) : fr a0 D (fun t => a0.tmps.getD t undef) = a0 := by
  have : over 0 a0.tmps.toList D (fun t => a0.tmps.getD t undef) = a0.tmps.toList := by
    apply List.ext_getElem?
    intro t
    rw [over_get]
    cases h : a0.tmps.toList[t]? with
    | none => rfl
    | some x =>
      simp only [Option.map_some, Nat.zero_add]
      have : a0.tmps[t]? = some x := by simpa using h
      split
      · rw [Array.getD_eq_getD_getElem?, this]; rfl
      · rfl
  cases a0
  simp only [fr] at *
  rw [this]
end Go.Proofs.Ytjjomjjgoceklaa

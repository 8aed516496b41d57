import Derived.Orders
import Derived.RegionTactic
import Derived.WalkKit
/-
A region that draws its order, proved once for all orders: a relation on what has been done, the frame and the world, kept by each operation whose predecessors are done.
-/
namespace Go.Proofs.Ytjjomjjgoceklaa
open Go.RowKit

section
variable {P : Program} {ops : Array Oper} {Q : Exit → Act → World → Prop} {md : Region.Mode}

/-- what is done, and operation i with it -/
def dn (L : Nat → Bool) (i : Nat) : Nat → Bool := fun j => if j = i then true else L j
/-- each edge goes back to a smaller number -/
def backB (md : Region.Mode) (ops : Array Oper) : Bool := (List.range ops.size).all fun i => ((ops[i]?).map fun o => o.after.all fun e => !Region.binds md e || decide (e.on < i)).getD true
theorem backB_spec (h : backB md ops = true) {i : Nat} {o : Oper} (ho : ops[i]? = some o) : ∀ e ∈ o.after, Region.binds md e = true → e.on < i := by
  have hi : i < ops.size := (Array.getElem?_eq_some_iff.1 ho).1
  have h1 := List.all_eq_true.1 h i (List.mem_range.2 hi)
  rw [ho] at h1
  simp only [Option.map_some, Option.getD_some] at h1
  intro e he hb
  have h2 := (Array.all_eq_true_iff_forall_mem.1 h1) e he
  simp only [hb, Bool.not_true, Bool.false_or, decide_eq_true_eq] at h2
  exact h2
def liOf (listed : Array Bool) : Nat → Bool := fun i => listed.getD i false
def open' (n : Nat) (L : Nat → Bool) : Nat := ((List.range n).filter fun i => !L i).length
theorem open_dn {n : Nat} {L : Nat → Bool} {i : Nat} (hi : i < n) (hL : L i = false) : open' n (dn L i) + 1 = open' n L := by
  unfold open'
  induction n with
  | zero => omega
  | succ n ih =>
    rw [List.range_succ, List.filter_append, List.filter_append, List.length_append, List.length_append]
    rcases Nat.lt_or_ge i n with h | h
    · have := ih h
      have e : dn L i n = L n := by unfold dn; rw [if_neg (by omega)]
      simp only [List.filter_cons, List.filter_nil, e]
      omega
    · obtain rfl : i = n := by omega
      have e : (List.range i).filter (fun j => !dn L i j) = (List.range i).filter fun j => !L j := by
        apply List.filter_congr
        intro j hj
        have := List.mem_range.1 hj
        unfold dn
        rw [if_neg (by omega)]
      rw [e]
      simp [dn, hL]
theorem liOf_set {listed : Array Bool} {i : Nat} (hi : i < listed.size) : liOf (listed.setIfInBounds i true) = dn (liOf listed) i := by
  funext j
  unfold liOf dn
  by_cases h : j = i
  · subst h; simp [Array.getD_eq_getD_getElem?, hi]
  · simp [Array.getD_eq_getD_getElem?, h, Array.getElem?_setIfInBounds_ne (Ne.symm h)]

theorem wpAny_inv (hback : backB md ops = true) (Φ : (Nat → Bool) → Act → World → Prop)
    (hstep : ∀ L a w i o, ops[i]? = some o → Φ L a w → L i = false → (∀ e ∈ o.after, Region.binds md e = true → L e.on = true) → wpOp P ops Q i (Φ (dn L i)) a w)
    (hend : ∀ L a w, Φ L a w → (∀ i, i < ops.size → L i = true) → Q .normal a w) :
    ∀ fuel (listed : Array Bool) a w, listed.size = ops.size → open' ops.size (liOf listed) ≤ fuel → Φ (liOf listed) a w → wpAny P md ops Q fuel listed a w := by
  have key : ∀ (listed : Array Bool), listed.size = ops.size → Region.ready md ops listed = [] → ∀ i, i < ops.size → liOf listed i = true := by
    intro listed hs hr i
    induction i using Nat.strongRecOn with
    | ind i ih =>
      intro hi
      cases hL : liOf listed i with
      | true => rfl
      | false =>
        exfalso
        have hmem : i ∈ Region.ready md ops listed := by
          unfold Region.ready
          rw [List.mem_filter]
          refine ⟨List.mem_range.2 hi, ?_⟩
          have ho : ops[i]? = some ops[i] := Array.getElem?_eq_getElem hi
          rw [ho]
          simp only [Option.map_some, Option.getD_some, Bool.and_eq_true, Bool.not_eq_true']
          refine ⟨?_, ?_⟩
          · unfold liOf at hL
            rw [Array.getD_eq_getD_getElem?] at hL ⊢
            rw [Array.getElem?_eq_getElem (by omega)] at hL ⊢
            exact hL
          · rw [Array.all_eq_true_iff_forall_mem]
            intro e he
            cases hb : Region.binds md e with
            | false => rfl
            | true =>
              have h1 := backB_spec hback ho e he hb
              have h2 := ih e.on h1 (by omega)
              unfold liOf at h2
              simp [h2]
        rw [hr] at hmem
        cases hmem
  intro fuel
  induction fuel with
  | zero =>
    intro listed a w hs hf hΦ
    have hr : Region.ready md ops listed = [] := by
      cases hr : Region.ready md ops listed with
      | nil => rfl
      | cons i rs =>
        exfalso
        have hm : i ∈ Region.ready md ops listed := by rw [hr]; exact List.mem_cons_self
        unfold Region.ready at hm
        rw [List.mem_filter] at hm
        have hi := List.mem_range.1 hm.1
        have hL : liOf listed i = false := by
          have := (Bool.and_eq_true _ _ ▸ hm.2 : _ ∧ _).1
          unfold liOf
          rw [Array.getD_eq_getD_getElem?] at this ⊢
          rw [Array.getElem?_eq_getElem (by omega)] at this ⊢
          simpa using this
        have : i ∈ (List.range ops.size).filter fun i => !liOf listed i := List.mem_filter.2 ⟨hm.1, by rw [hL]; rfl⟩
        have h0 : ((List.range ops.size).filter fun i => !liOf listed i).length = 0 := Nat.le_zero.1 hf
        rw [List.length_eq_zero_iff.1 h0] at this
        cases this
    exact ⟨hr, hend _ _ _ hΦ (key listed hs hr)⟩
  | succ fuel ih =>
    intro listed a w hs hf hΦ
    refine ⟨fun hr => hend _ _ _ hΦ (key listed hs hr), fun i hi => ?_⟩
    unfold Region.ready at hi
    rw [List.mem_filter] at hi
    have hlt := List.mem_range.1 hi.1
    obtain ⟨h1, h2⟩ := (Bool.and_eq_true _ _ ▸ hi.2 : _ ∧ _)
    have ho : ops[i]? = some ops[i] := Array.getElem?_eq_getElem hlt
    have hL : liOf listed i = false := by
      unfold liOf
      rw [Array.getD_eq_getD_getElem?] at h1 ⊢
      rw [Array.getElem?_eq_getElem (by omega)] at h1 ⊢
      simpa using h1
    rw [ho] at h2
    simp only [Option.map_some, Option.getD_some] at h2
    have hdeps : ∀ e ∈ ops[i].after, Region.binds md e = true → liOf listed e.on = true := by
      intro e he hb
      have := (Array.all_eq_true_iff_forall_mem.1 h2) e he
      simpa [hb, liOf] using this
    refine wpOp_mono (fun a' w' hh => ?_) (hstep _ a w i _ ho hΦ hL hdeps)
    have hset := liOf_set (listed := listed) (i := i) (by omega)
    refine ih _ a' w' (by simpa using hs) ?_ (by rw [hset]; exact hh)
    rw [hset]
    have := open_dn hlt hL
    omega

theorem wp_region_inv {id : Nat} {a : Act} {w : World} (hm : P.follows .mixedOrders = true) (hback : backB .any ops = true) (Φ : (Nat → Bool) → Act → World → Prop)
    (h0 : Φ (fun _ => false) a { w with drawn := w.drawn + 1 })
    (hstep : ∀ L a w i o, ops[i]? = some o → Φ L a w → L i = false → (∀ e ∈ o.after, Region.binds .any e = true → L e.on = true) → wpOp P ops Q i (Φ (dn L i)) a w)
    (hend : ∀ L a w, Φ L a w → (∀ i, i < ops.size → L i = true) → Q .normal a w) : (Code.region id ops true).wp P Q a w := by
  refine wp_region_any hm (wpAny_inv hback Φ hstep hend _ _ _ _ (by simp) ?_ ?_)
  · unfold open'; exact Nat.le_trans (List.length_filter_le _ _) (by simp)
  · have : liOf (Array.replicate ops.size false) = fun _ => false := by
      funext i
      unfold liOf
      rw [Array.getD_eq_getD_getElem?, Array.getElem?_replicate]
      split <;> rfl
    rw [this]
    exact h0
end
end Go.Proofs.Ytjjomjjgoceklaa

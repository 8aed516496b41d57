import Derived.Test.YtjjomjjgoceklaaGreatKaa
import Derived.Test.YtjjomjjgoceklaaGreatKba
import Derived.Test.YtjjomjjgoceklaaGreatKbb
namespace Go.Proofs.YtjjomjjgoceklaaGreat
set_option maxRecDepth 100000
open Go.RowKit

/-- what a slot holds: an integer of the program, of the reference, a ratio, digits, a value -/
inductive Kd where
  | z (n : Int) | r (n : Int) | q (n : Int) (d : Nat) | g (n : Nat) | v (x : Value) | any
  | c (C : Value → World → Prop) (h : ∀ v w w', C v w → Below w.heap.size w w' → C v w')
def kd : Kd → Value → World → Prop
  | .z n, x, w => Zr w x n
  | .r n, x, w => RZ w x n
  | .q n d, x, w => Rr w x n d
  | .g n, x, w => Dg w x n
  | .v y, x, _ => x = y
  | .any, _, _ => True
  | .c C _, x, w => C x w
theorem kd.keep {k : Kd} {x : Value} {w w' : World} (h : kd k x w) (hb : Below w.heap.size w w') : kd k x w' := by
  cases k with
  | z n => exact Zr.keep h hb (Nat.le_refl _)
  | r n => exact RZ.keep h hb (Nat.le_refl _)
  | q n d => exact Rr.keep h hb (Nat.le_refl _)
  | g n => exact Dg.keep h hb (Nat.le_refl _)
  | v y => exact h
  | any => trivial
  | c C hC => exact hC _ _ _ h hb

/-- the operations before i, by their edges -/
def edgesOf (ops : Array Oper) (i : Nat) : List Nat := match ops[i]? with | some o => (o.after.toList.filter (Region.binds .any)).map (·.on) | none => []
def predGo (ops : Array Oper) : Nat → List Nat → List Nat
  | 0, m => m
  | k + 1, m => predGo ops k (if m.contains k then edgesOf ops k ++ m else m)
/-- the slots of the operations before i -/
def predD (ops : Array Oper) (i : Nat) : List Nat := (predGo ops i (edgesOf ops i)).filterMap fun j => (ops[j]?).bind (·.dst)
def Closed (ops : Array Oper) (L : Nat → Bool) : Prop := ∀ i, L i = true → ∀ j ∈ edgesOf ops i, L j = true
theorem predGo_ok {ops : Array Oper} {L : Nat → Bool} (hc : Closed ops L) (k : Nat) (m : List Nat) (hm : ∀ j ∈ m, L j = true) : ∀ j ∈ predGo ops k m, L j = true := by
  induction k generalizing m with
  | zero => exact hm
  | succ k ih =>
    simp only [predGo]
    refine ih _ ?_
    split
    · rename_i h
      intro j hj
      rcases List.mem_append.1 hj with hj | hj
      · exact hc k (hm k (by simpa using h)) j hj
      · exact hm j hj
    · exact hm
def KdAll (tab : Nat → Kd) (ops : Array Oper) (L : Nat → Bool) (f : Nat → Value) (w : World) : Prop := ∀ i o d, ops[i]? = some o → L i = true → o.dst = some d → kd (tab d) (f d) w
/-- the slots' own list names each slot once -/
def uniqB (ops : Array Oper) : Bool := decide (ops.toList.filterMap (·.dst)).Nodup
theorem uniq_spec {ops : Array Oper} (h : uniqB ops = true) {i j : Nat} {o p : Oper} {d : Nat} (hi : ops[i]? = some o) (hj : ops[j]? = some p) (ho : o.dst = some d) (hp : p.dst = some d) : i = j := by
  have hn : (ops.toList.filterMap (·.dst)).Nodup := of_decide_eq_true h
  have h1 : ops.toList[i]? = some o := by simpa using hi
  have h2 : ops.toList[j]? = some p := by simpa using hj
  generalize ops.toList = l at *
  clear hi hj h
  induction l generalizing i j with
  | nil => simp at h1
  | cons x xs ih =>
    have hmem : ∀ {k : Nat} {q : Oper}, xs[k]? = some q → q.dst = some d → d ∈ xs.filterMap (·.dst) := fun {k q} hk hq => List.mem_filterMap.2 ⟨q, List.mem_of_getElem? hk, hq⟩
    have hn' : (xs.filterMap (·.dst)).Nodup := by
      rw [List.filterMap_cons] at hn
      split at hn
      · exact hn
      · exact (List.nodup_cons.1 hn).2
    cases i with
    | zero =>
      simp at h1
      subst h1
      cases j with
      | zero => rfl
      | succ j =>
        rw [List.filterMap_cons_some ho] at hn
        exact absurd (hmem (by simpa using h2) hp) (List.nodup_cons.1 hn).1
    | succ i =>
      cases j with
      | zero =>
        simp at h2
        subst h2
        rw [List.filterMap_cons_some hp] at hn
        exact absurd (hmem (by simpa using h1) ho) (List.nodup_cons.1 hn).1
      | succ j => exact congrArg (· + 1) (ih (i := i) (j := j) hn' (by simpa using h1) (by simpa using h2))
section
variable {P : Program} {ops : Array Oper} {Q : Exit → Act → World → Prop}
/-- a region of loads, calls and new blocks, in whatever order -/
theorem wp_region_kd {id : Nat} {a0 : Act} {w : World} (D : Nat → Bool) (tab : Nat → Kd) (I : World → Prop) (hm : P.follows .mixedOrders = true) (hback : backB .any ops = true) (hu : uniqB ops = true)
    (hD : (ops.toList.filterMap (·.dst)).all D = true) (hI : ∀ w w', I w → Below w.heap.size w w' → I w') (h0 : I { w with drawn := w.drawn + 1 })
    (hstep : AllFrom (fun i o => ∀ f w, I w → (∀ d, (predD ops i).contains d = true → kd (tab d) (f d) w) →
      Region.wanted o (yielded ops (fr a0 D f).tmps) = true ∧ ∃ d, o.dst = some d ∧ OpR P o (fr a0 D f) w fun v w' => Below w.heap.size w w' ∧ kd (tab d) v w') 0 ops.toList)
    (hend : ∀ f w, I w → (∀ d, (ops.toList.filterMap (·.dst)).contains d = true → kd (tab d) (f d) w) → Q .normal (fr a0 D f) w) : (Code.region id ops true).wp P Q a0 w := by
  refine wp_region_fr D (fun L f w => I w ∧ Closed ops L ∧ KdAll tab ops L f w) hm hback hD ⟨_, fr_self a0 D, h0, (by intro i h; cases h), (by intro i o d _ h; cases h)⟩ ?_ ?_
  · suffices key : ∀ (n : Nat) (l : List Oper), (∀ i o, l[i]? = some o → ops[n + i]? = some o) →
        AllFrom (fun i o => ∀ f w, I w → (∀ d, (predD ops i).contains d = true → kd (tab d) (f d) w) → Region.wanted o (yielded ops (fr a0 D f).tmps) = true ∧ ∃ d, o.dst = some d ∧ OpR P o (fr a0 D f) w fun v w' => Below w.heap.size w w' ∧ kd (tab d) v w') n l →
        AllFrom (fun i o => ∀ L f w, (I w ∧ Closed ops L ∧ KdAll tab ops L f w) → L i = false → (∀ e ∈ o.after, Region.binds .any e = true → L e.on = true) →
          Region.wanted o (yielded ops (fr a0 D f).tmps) = true ∧ OpR P o (fr a0 D f) w fun v w' => (I w' ∧ Closed ops (dn L i) ∧ KdAll tab ops (dn L i) (updo f o.dst v) w')) n l from key 0 _ (fun i o h => by simpa using h) hstep
    intro n l
    induction l generalizing n with
    | nil => intro _ _; trivial
    | cons o os ih =>
      intro hget hall
      refine ⟨?_, ih (n + 1) (fun i p h => by rw [show n + 1 + i = n + (i + 1) by omega]; exact hget _ _ (by simpa using h)) hall.2⟩
      rintro L f w ⟨hIw, hcl, hk⟩ hL hdep
      have ho : ops[n]? = some o := hget 0 o (by simp)
      have hedge : ∀ j ∈ edgesOf ops n, L j = true := by
        intro j hj
        unfold edgesOf at hj
        rw [ho] at hj
        obtain ⟨e, he, rfl⟩ := List.mem_map.1 hj
        obtain ⟨he1, he2⟩ := List.mem_filter.1 he
        exact hdep e (by simpa using he1) he2
      have hpre : ∀ d, (predD ops n).contains d = true → kd (tab d) (f d) w := by
        intro d hd
        unfold predD at hd
        obtain ⟨j, hj, hjd⟩ := List.mem_filterMap.1 (List.contains_iff_mem.1 hd)
        have hLj := predGo_ok hcl n _ hedge j hj
        obtain ⟨oj, hoj, hdj⟩ := Option.bind_eq_some_iff.1 hjd
        exact hk j oj d hoj hLj hdj
      obtain ⟨hw, d, hd, hr⟩ := hall.1 f w hIw hpre
      refine ⟨hw, ?_⟩
      have step : ∀ v w', (Below w.heap.size w w' ∧ kd (tab d) v w') → I w' ∧ Closed ops (dn L n) ∧ KdAll tab ops (dn L n) (updo f o.dst v) w' := by
        rintro v w' ⟨hb, hkd⟩
        refine ⟨hI _ _ hIw hb, ?_, ?_⟩
        · intro i hi j hj
          unfold dn at hi ⊢
          by_cases e : i = n
          · subst e
            split
            · rfl
            · exact hedge j hj
          · rw [if_neg e] at hi
            split
            · rfl
            · exact hcl i hi j hj
        · intro i p d' hp hi hd'
          rw [hd]
          unfold dn at hi
          by_cases e : i = n
          · subst e
            rw [ho] at hp
            cases hp
            rw [hd] at hd'
            cases hd'
            simpa [updo, upd] using hkd
          · rw [if_neg e] at hi
            have hne : d' ≠ d := fun he => e (uniq_spec hu hp ho (he ▸ hd') hd)
            simp only [updo, upd, if_neg hne]
            exact (hk i p d' hp hi hd').keep hb
      rcases hr with ⟨v, w', h1, h2⟩ | ⟨w', h1, h2⟩ | ⟨g, args, h1, h2⟩
      · exact .inl ⟨v, w', h1, step _ _ h2⟩
      · exact .inr (.inl ⟨w', h1, step _ _ h2⟩)
      · exact .inr (.inr ⟨g, args, h1, h2.mono fun e w' ⟨v, he, hr⟩ => ⟨v, he, step _ _ hr⟩⟩)
  · rintro L f w ⟨hIw, _, hk⟩ hall
    refine hend f w hIw fun d hd => ?_
    obtain ⟨o, ho, hod⟩ := List.mem_filterMap.1 (List.contains_iff_mem.1 hd)
    obtain ⟨i, hi⟩ := List.getElem?_of_mem ho
    have hi' : ops[i]? = some o := by simpa using hi
    exact hk i o d hi' (hall i (Array.getElem?_eq_some_iff.1 hi').1) hod
end
theorem fr_old {a0 : Act} {D : Nat → Bool} {f : Nat → Value} {t : Nat} {v : Value} (hD : D t = false) (h : a0.tmps[t]? = some v) : (fr a0 D f).eval (.tmp t) = v := by
  have := fr_get a0 D f t
  rw [h] at this
  simp only [Option.map_some, hD] at this
  show (fr a0 D f).tmps.getD t undef = _
  rw [Array.getD_eq_getD_getElem?, this]
  rfl
theorem fr_own {a0 : Act} {D : Nat → Bool} {f : Nat → Value} {t : Nat} (hD : D t = true) (h : (a0.tmps[t]?).isSome = true) : (fr a0 D f).eval (.tmp t) = f t := by
  obtain ⟨v, hv⟩ := Option.isSome_iff_exists.1 h
  have := fr_get a0 D f t
  rw [hv] at this
  simp only [Option.map_some, hD] at this
  show (fr a0 D f).tmps.getD t undef = _
  rw [Array.getD_eq_getD_getElem?, this]
  rfl
theorem wanted_none {o : Oper} {y : Nat → Option Bool} (h : o.guard = none) : Region.wanted o y = true := by unfold Region.wanted; rw [h]
theorem wanted_some {ops : Array Oper} {o : Oper} {a0 : Act} {D : Nat → Bool} {f : Nat → Value} {g d : Nat} {b : Bool} (h : o.guard = some (g, b)) (hg : (ops[g]?).bind (·.dst) = some d) (hD : D d = true) (hs : (a0.tmps[d]?).isSome = true) (hf : f d = .bool b) :
    Region.wanted o (yielded ops (fr a0 D f).tmps) = true := by
  obtain ⟨v, hv⟩ := Option.isSome_iff_exists.1 hs
  have := fr_get a0 D f d
  rw [hv] at this
  simp only [Option.map_some, hD, hf] at this
  unfold Region.wanted yielded
  rw [h]
  simp [hg, this]
/-- function n is entered -/
def CF (n : FuncId) : Prop := ∀ (W : World) (args : Array Value), (callFunc n args).run Tryz.prog W = .ok (.enter n args) W
section
variable {ρ : Operand → Value} {o : Oper} {w : World}
theorem rn_load29 {t : Operand} {B : Nat} {s : Bool} {x : Int} {p : Option Addr} (ho : o.op = .load 28 t) (he : ρ t = .pointer (some ⟨B, 0, none⟩)) (h : B3 B s x p w) : (execOp ρ o).run Tryz.prog w = .ok (.value (.agg #[.bool s, .int .u64 x, .pointer p])) w := by
  obtain ⟨h1, h2, h3⟩ := h
  unfold execOp; rw [ho]; simp [go_sem, he, h1, h2, h3]
theorem rn_call2 {n : FuncId} {x y : Operand} {ts : Array TypeId} (ho : o.op = .call { callee := .value (.func n), args := #[x, y], argTypes := ts }) (hf : ρ (.func n) = .func (.func n) #[] #[]) (hcf : CF n) : (execOp ρ o).run Tryz.prog w = .ok (.enter n #[ρ x, ρ y]) w := by
  unfold execOp; rw [ho]; simp [go_sem, hf]; exact hcf _ _
theorem rn_call1 {n : FuncId} {x : Operand} {ts : Array TypeId} (ho : o.op = .call { callee := .value (.func n), args := #[x], argTypes := ts }) (hf : ρ (.func n) = .func (.func n) #[] #[]) (hcf : CF n) : (execOp ρ o).run Tryz.prog w = .ok (.enter n #[ρ x]) w := by
  unfold execOp; rw [ho]; simp [go_sem, hf]; exact hcf _ _
theorem rn_call0 {n : FuncId} {ts : Array TypeId} (ho : o.op = .call { callee := .value (.func n), args := #[], argTypes := ts }) (hf : ρ (.func n) = .func (.func n) #[] #[]) (hcf : CF n) : (execOp ρ o).run Tryz.prog w = .ok (.enter n #[]) w := by
  unfold execOp; rw [ho]; simp [go_sem, hf]; exact hcf _ _
theorem rn_neq {t c : Operand} {n m : Int} (ho : o.op = .binOp .neq 3 t c 3) (he : ρ t = .int .i64 n) (hc : ρ c = .int .i64 m) : (execOp ρ o).run Tryz.prog w = .ok (.value (.bool (n != m))) w := by
  unfold execOp; rw [ho]; simp [go_sem, he, hc]
theorem rn_eql {t c : Operand} {n m : Int} (ho : o.op = .binOp .eql 3 t c 3) (he : ρ t = .int .i64 n) (hc : ρ c = .int .i64 m) : (execOp ρ o).run Tryz.prog w = .ok (.value (.bool (n == m))) w := by
  unfold execOp; rw [ho]; simp [go_sem, he, hc]
theorem rn_move {t : Operand} (ho : o.op = .move t) : (execOp ρ o).run Tryz.prog w = .ok (.value (ρ t)) w := by
  unfold execOp; rw [ho]; rfl
theorem rn_assign {t : Operand} (ho : o.op = .assign t) : (execOp ρ o).run Tryz.prog w = .ok (.value (ρ t)) w := by
  unfold execOp; rw [ho]; rfl
theorem rn_pick {c x y : Operand} {b : Bool} (ho : o.op = .pick c x y) (hc : ρ c = .bool b) : (execOp ρ o).run Tryz.prog w = .ok (.value (if b then ρ x else ρ y)) w := by
  unfold execOp; rw [ho]; cases b <;> simp [go_sem, hc]
end
theorem cf78 : CF 78 := fun W args => by go_simp
theorem cf100 : CF 100 := fun W args => by go_simp
theorem cf97 : CF 97 := fun W args => by go_simp
theorem cf98 : CF 98 := fun W args => by go_simp
theorem cf128 : CF 128 := fun W args => by go_simp
theorem cf96 : CF 96 := fun W args => by go_simp
theorem cf99 : CF 99 := fun W args => by go_simp
theorem cf81 : CF 81 := fun W args => by go_simp
theorem cf14 : CF 14 := fun W args => by go_simp
theorem cf77 : CF 77 := fun W args => by go_simp
theorem cf103 : CF 103 := fun W args => by go_simp
theorem cf11 : CF 11 := fun W args => by go_simp
end Go.Proofs.YtjjomjjgoceklaaGreat

import Derived.Test.YtjjomjjgoceklaaGreatVr
namespace Go.Proofs.YtjjomjjgoceklaaGreat
set_option maxRecDepth 100000
open Go.RowKit

/-! appends to rows of ratios; a region with appends to two rows -/
theorem Tryz.und78 : Tryz.prog.underlying 78 = some (.slice 33) := by kernel_rfl
theorem Tryz.und79 : Tryz.prog.underlying 79 = some (.slice 44) := by kernel_rfl
theorem Tryz.inf33 : (Tryz.prog.info? 33).map (fun i => (i.zero, i.size, i.bytes)) = some (some (.agg #[.bool false, .int .u64 0, .pointer none, .int .u64 0, .pointer none]), 5, 40) := by kernel_rfl
theorem Tryz.inf44 : (Tryz.prog.info? 44).map (fun i => (i.zero, i.size, i.bytes)) = some (some (.agg #[.int .i64 0, .slice none 0 0, .int .i64 0, .slice none 0 0]), 4, 64) := by kernel_rfl
section
variable {ρ : Operand → Value} {o : Oper} {w : World} {x y : Operand}
theorem rn_build78 {s1 : Bool} {x1 : Int} {p1 : Option Addr} {y1 : Int} {q1 : Option Addr} (ho : o.op = .buildSlice 78 1 #[(0, x)]) (h1 : ρ x = .agg #[.bool s1, .int .u64 x1, .pointer p1, .int .u64 y1, .pointer q1]) : (execOp ρ o).run Tryz.prog w = .ok (.value (.slice (some ⟨w.heap.size, 0, none⟩) 1 1)) (w.alloc (.cells #[.bool s1, .int .u64 x1, .pointer p1, .int .u64 y1, .pointer q1] 33)) := by
  unfold execOp; rw [ho]; simp [go_sem, h1]
theorem rn_build79 {t1 : Int} {f1 : Option Addr} {l1 c1 : Nat} {u1 : Int} {hh1 : Option Addr} {m1 cc1 : Nat} (ho : o.op = .buildSlice 79 1 #[(0, x)]) (h1 : ρ x = .agg #[.int .i64 t1, .slice f1 l1 c1, .int .i64 u1, .slice hh1 m1 cc1]) : (execOp ρ o).run Tryz.prog w = .ok (.value (.slice (some ⟨w.heap.size, 0, none⟩) 1 1)) (w.alloc (.cells #[.int .i64 t1, .slice f1 l1 c1, .int .i64 u1, .slice hh1 m1 cc1] 44)) := by
  unfold execOp; rw [ho]; simp [go_sem, h1]
end
section
variable {P : Program} {ops : Array Oper} {Q : Exit → Act → World → Prop}
/-- operations that each keep what the others left, the state told by what is done -/
theorem wp_region_st {id : Nat} {a0 : Act} {W : World} (D : Nat → Bool) (tab : Nat → Kd) (I : (Nat → Bool) → (Nat → Value) → World → Prop) (hm : P.follows .mixedOrders = true) (hback : backB .any ops = true) (hu : uniqB ops = true)
    (hD : (ops.toList.filterMap (·.dst)).all D = true) (h0 : I (fun _ => false) (fun t => a0.tmps.getD t undef) { W with drawn := W.drawn + 1 })
    (hstep : AllFrom (fun i o => ∀ L f w, L i = false → I L f w → (∀ d, (predD ops i).contains d = true → kd (tab d) (f d) w) → (∀ j ∈ edgesOf ops i, L j = true) → ∃ d, o.dst = some d ∧
      Region.wanted o (yielded ops (fr a0 D f).tmps) = true ∧ OpR P o (fr a0 D f) w fun v w' => I (dn L i) (updo f o.dst v) w' ∧ kd (tab d) v w' ∧ ∀ d' u, kd (tab d') u w → kd (tab d') u w') 0 ops.toList)
    (hend : ∀ L f w, I L f w → (∀ i, i < ops.size → L i = true) → Q .normal (fr a0 D f) w) : (Code.region id ops true).wp P Q a0 W := by
  refine wp_region_inv hm hback (fun L a w => ∃ f, a = fr a0 D f ∧ I L f w ∧ Closed ops L ∧ KdAll tab ops L f w) ⟨_, (fr_self a0 D).symm, h0, (by intro i h; cases h), (by intro i o d _ h; cases h)⟩ ?_ ?_
  · rintro L a w n o ho ⟨f, rfl, hIw, hcl, hk⟩ hL hdep
    have hg := hstep.get (i := n) (o := o) (by simpa using ho)
    rw [Nat.zero_add] at hg
    have hedge : ∀ j ∈ edgesOf ops n, L j = true := by
      intro j hj
      unfold edgesOf at hj
      rw [ho] at hj
      obtain ⟨e, he, rfl⟩ := List.mem_map.1 hj
      obtain ⟨he1, he2⟩ := List.mem_filter.1 he
      exact hdep e (by simpa using he1) he2
    have hpre : ∀ d, (predD ops n).contains d = true → kd (tab d) (f d) w := by
      intro d hd
      unfold predD at hd
      obtain ⟨j, hj, hjd⟩ := List.mem_filterMap.1 (List.contains_iff_mem.1 hd)
      have hLj := predGo_ok hcl n _ hedge j hj
      obtain ⟨oj, hoj, hdj⟩ := Option.bind_eq_some_iff.1 hjd
      exact hk j oj d hoj hLj hdj
    obtain ⟨d, hd, hw, hr⟩ := hg L f w hL hIw hpre hedge
    have step : ∀ v w', (I (dn L n) (updo f o.dst v) w' ∧ kd (tab d) v w' ∧ ∀ d' u, kd (tab d') u w → kd (tab d') u w') → I (dn L n) (updo f o.dst v) w' ∧ Closed ops (dn L n) ∧ KdAll tab ops (dn L n) (updo f o.dst v) w' := by
      rintro v w' ⟨hI2, hkd, hst⟩
      refine ⟨hI2, ?_, ?_⟩
      · intro i hi j hj
        unfold dn at hi ⊢
        by_cases e : i = n
        · subst e
          split
          · rfl
          · exact hedge j hj
        · rw [if_neg e] at hi
          split
          · rfl
          · exact hcl i hi j hj
      · intro i p d' hp hi hd'
        rw [hd]
        unfold dn at hi
        by_cases e : i = n
        · subst e
          rw [ho] at hp
          cases hp
          rw [hd] at hd'
          cases hd'
          simpa [updo, upd] using hkd
        · rw [if_neg e] at hi
          have hne : d' ≠ d := fun he => e (uniq_spec hu hp ho (he ▸ hd') hd)
          simp only [updo, upd, if_neg hne]
          exact hst _ _ (hk i p d' hp hi hd')
    have hDd : ∀ t, o.dst = some t → D t = true := fun t ht =>
      List.all_eq_true.1 hD t (List.mem_filterMap.2 ⟨o, by rw [Array.mem_toList_iff]; exact Array.mem_of_getElem? ho, ht⟩)
    unfold wpOp
    simp only [ho, hw, if_true]
    exact .inl (hr.wp fun v w' hR => ⟨_, fr_put _ _ _ _ _ hDd, step v w' hR⟩)
  · rintro L a w ⟨f, rfl, hIw, _, _⟩ hall
    exact hend L f w hIw hall
end
end Go.Proofs.YtjjomjjgoceklaaGreat
namespace Go.Proofs.YtjjomjjgoceklaaGreat
set_option maxRecDepth 100000
open Go.RowKit

/-! appends to a row of which every cell's kind is known, the spare ones too -/
/-- each cell of the row's block is of its kind -/
def KRow (K : Nat → Value → Prop) (w : World) (v : Value) : Prop := ∀ g cur t f, v.ownBlock = some g → w.heap[g]? = some (.cells cur t f) → ∀ j u, cur[j]? = some u → K j u
theorem k_mod {K : Nat → Value → Prop} {size : Nat} (hper : ∀ j u, K (j + size) u ↔ K j u) (hs : 0 < size) (u : Value) : ∀ j, K j u ↔ K (j % size) u := by
  intro j
  induction j using Nat.strongRecOn with
  | ind j ih =>
    by_cases h : j < size
    · rw [Nat.mod_eq_of_lt h]
    · have e : j = (j - size) + size := by omega
      rw [Nat.mod_eq_sub_mod (by omega), ← ih (j - size) (by omega)]
      conv => lhs; rw [e]
      exact hper _ u
theorem zero_kind {K : Nat → Value → Prop} {z : Array Value} {n : Nat} (hper : ∀ j u, K (j + z.size) u ↔ K j u) (hz : ∀ j u, z[j]? = some u → K j u) (j : Nat) (u : Value) (h : (Builtin.zeroCells z n)[j]? = some u) : K j u := by
  unfold Builtin.zeroCells at h
  obtain ⟨hj, hu⟩ := Array.getElem?_eq_some_iff.1 h
  simp only [Array.size_map, Array.size_range] at hj
  have hs : 0 < z.size := by
    rcases Nat.eq_zero_or_pos z.size with e | e
    · rw [e] at hj; simp at hj
    · exact e
  have hm : j % z.size < z.size := Nat.mod_lt _ hs
  simp only [Array.getElem_map, Array.getElem_range] at hu
  rw [k_mod hper hs]
  refine hz _ _ ?_
  rw [Array.getElem?_eq_getElem hm, ← hu, getElem!_pos z _ hm]
theorem app_kinds {P : Program} (w : World) (base : Nat) (t ty e : TypeId) (i : TypeInfo) (z : Value) (size bytes : Nat) (ht : P.underlying t = some (.slice e)) (hi : P.info? e = some i) (hz : i.zero = some z)
    (hsize : i.size = size) (hby : i.bytes = bytes) (hzs : z.cells.size = size) (hsz : 0 < size) (K : Nat → Value → Prop) (hper : ∀ j u, K (j + size) u ↔ K j u) (hzk : ∀ j u, z.cells[j]? = some u → K j u)
    (v : Value) (n : Nat) (xs : List Value) (hown : w.ownsRow base e size v n xs) (hk : KRow K w v)
    (a : Addr) (c : Nat) (news : List Value) (hl : news.length = 1 * size) (hnews : ∀ j u, news[j]? = some u → w.cell? (a.add j) = some u) (h1 : ∀ u ∈ news, u.oneCell' = true) (hkn : ∀ j u, news[j]? = some u → K j u)
    (h63 : n + 1 ≤ maxLen) (hbytes : (n + 1) * bytes ≤ 140737488355328) (hbase : base ≤ w.heap.size) :
    ∃ v' w', (Builtin.append_ #[t, t] ty #[v, .slice (some a) 1 c]).run P w = .ok v' w' ∧ w'.ownsRow base e size v' (n + 1) (xs ++ news) ∧ w.grownBy w' v.ownBlock ∧ KRow K w' v' := by
  obtain ⟨v', w', hr, ho, hg, _⟩ := run_append_own (P := P) w base t ty e i z size bytes ht hi hz hsize hby hzs hsz v n xs hown a 1 c news hl hnews h1 h63 hbytes hbase
  refine ⟨v', w', hr, ho, hg, ?_⟩
  subst hsize
  subst hby
  have hsmall : n + 1 ≤ 9223372036854775807 := by simp only [maxLen] at h63; omega
  have hlk : ∀ r u, K r u → K (n * i.size + r) u := by
    intro r u h
    rw [k_mod hper hsz] at h ⊢
    rwa [Nat.mul_comm, Nat.mul_add_mod]
  have hlk1 : ∀ r u, K r u → K ((n + 1) * i.size + r) u := by
    intro r u h
    rw [k_mod hper hsz] at h ⊢
    rwa [Nat.mul_comm, Nat.mul_add_mod]
  rcases hown.2 with ⟨rfl, rfl⟩ | ⟨g, cap, cur, rfl, hbg, hgc, hnc, hcm, hcs, htake⟩
  · have hr2 := run_append_nil (P := P) w t ty e i z ht hi hz a 1 c news hl hnews (by omega) (by omega) (by simp only [Nat.zero_add] at hbytes; omega)
    rw [hr] at hr2
    simp only [Result.ok.injEq] at hr2
    obtain ⟨rfl, rfl⟩ := hr2
    intro g cur t' f hb hh j u hj
    simp only [Value.ownBlock, Option.some.injEq] at hb
    subst hb
    have hh2 := heap_alloc_new w.drew (.cells (news.toArray ++ Builtin.zeroCells z.cells (grownCap w 1 0 e - 1)) e)
    rw [show w.drew.heap.size = w.heap.size from rfl] at hh2
    rw [hh2] at hh
    simp only [Option.some.injEq, Obj.cells.injEq] at hh
    obtain ⟨rfl, _⟩ := hh
    rw [Array.getElem?_append] at hj
    split at hj
    · exact hkn j u (by simpa using hj)
    · rename_i hlt
      have := zero_kind (K := K) (by rw [hzs]; exact hper) hzk _ _ hj
      have h2 := hlk1 _ _ this
      simp only [List.size_toArray, hl] at h2 hlt
      rwa [show (0 + 1) * i.size + (j - 1 * i.size) = j by omega] at h2
  · by_cases hroom : n + 1 ≤ cap
    · have hfit : n * i.size + news.length ≤ cur.size := by rw [hl, hcs, ← Nat.add_mul]; exact Nat.mul_le_mul_right _ hroom
      have hr2 := run_append_room (P := P) w t ty e i ht hi g n cap cur hgc a 1 c news hl hnews h1 hroom hfit
      rw [hr] at hr2
      simp only [Result.ok.injEq] at hr2
      obtain ⟨rfl, rfl⟩ := hr2
      intro g' cur' t' f hb hh j u hj
      simp only [Value.ownBlock, Option.some.injEq] at hb
      subst hb
      rw [setRow_heap w g cur _ e _ hgc] at hh
      simp only [Option.some.injEq, Obj.cells.injEq] at hh
      obtain ⟨rfl, _⟩ := hh
      have hc := hk g cur e (0, 0) rfl hgc
      simp only [List.getElem?_toArray, List.append_assoc] at hj
      rw [List.getElem?_append] at hj
      split at hj
      · rw [List.getElem?_take] at hj
        split at hj
        · exact hc j u (by simpa using hj)
        · cases hj
      · rename_i hlt
        have hlen : (cur.toList.take (n * i.size)).length = n * i.size := by rw [List.length_take, Array.length_toList]; omega
        rw [hlen] at hj hlt
        rw [List.getElem?_append] at hj
        split at hj
        · have := hlk _ _ (hkn _ u hj)
          rwa [show n * i.size + (j - n * i.size) = j by omega] at this
        · rename_i hlt2
          rw [List.getElem?_drop] at hj
          have := hc _ u (by simpa using hj)
          rwa [show n * i.size + news.length + (j - n * i.size - news.length) = j by omega] at this
    · have holds : ∀ j u, xs[j]? = some u → w.cell? ((⟨g, 0, none⟩ : Addr).add j) = some u := hown.cells (g := g) rfl
      have hr2 := run_append_grow (P := P) w t ty e i z ht hi hz ⟨g, 0, none⟩ n cap xs hown.1 holds a 1 c news hl hnews (by omega) (by omega) (growslice_fits (by omega) hbytes)
      rw [hr] at hr2
      simp only [Result.ok.injEq] at hr2
      obtain ⟨rfl, rfl⟩ := hr2
      intro g' cur' t' f hb hh j u hj
      simp only [Value.ownBlock, Option.some.injEq] at hb
      subst hb
      have hh2 := heap_alloc_new w.drew (.cells (xs.toArray ++ news.toArray ++ Builtin.zeroCells z.cells (grownCap w (n + 1) cap e - (n + 1))) e)
      rw [show w.drew.heap.size = w.heap.size from rfl] at hh2
      rw [hh2] at hh
      simp only [Option.some.injEq, Obj.cells.injEq] at hh
      obtain ⟨rfl, _⟩ := hh
      have hc := hk g cur e (0, 0) rfl hgc
      have hx := hown.1
      rw [Array.getElem?_append] at hj
      split at hj
      · rw [Array.getElem?_append] at hj
        split at hj
        · refine hc j u ?_
          rw [← htake] at hj
          simp only [List.getElem?_toArray, List.getElem?_take] at hj
          split at hj
          · simpa using hj
          · cases hj
        · rename_i hlt
          simp only [List.size_toArray, hx] at hj hlt
          have := hlk _ _ (hkn _ u (by simpa using hj))
          rwa [show n * i.size + (j - n * i.size) = j by omega] at this
      · rename_i hlt
        have := zero_kind (K := K) (by rw [hzs]; exact hper) hzk _ _ hj
        have h2 := hlk1 _ _ this
        simp only [Array.size_append, List.size_toArray, hl, hx, ← Nat.add_mul] at h2 hlt
        rwa [show (n + 1) * i.size + (j - (n + 1) * i.size) = j by omega] at h2
end Go.Proofs.YtjjomjjgoceklaaGreat
namespace Go.Proofs.YtjjomjjgoceklaaGreat
set_option maxRecDepth 100000
open Go.RowKit

/-! rows of ratios that grow -/
def K5 (j : Nat) (u : Value) : Prop := match j % 5 with
  | 0 => ∃ b, u = .bool b
  | 1 => ∃ x, u = .int .u64 x
  | 2 => ∃ p, u = .pointer p
  | 3 => ∃ x, u = .int .u64 x
  | _ => ∃ p, u = .pointer p
def K4 (j : Nat) (u : Value) : Prop := match j % 4 with
  | 0 => ∃ x, u = .int .i64 x
  | 1 => ∃ p l c, u = .slice p l c
  | 2 => ∃ x, u = .int .i64 x
  | _ => ∃ p l c, u = .slice p l c
theorem K5.per (j : Nat) (u : Value) : K5 (j + 5) u ↔ K5 j u := by unfold K5; rw [Nat.add_mod_right]
theorem K4.per (j : Nat) (u : Value) : K4 (j + 4) u ↔ K4 j u := by unfold K4; rw [Nat.add_mod_right]
theorem K5.u64 {j : Nat} {x : Int} (h : K5 j (.int .u64 x)) : j % 5 = 1 ∨ j % 5 = 3 := by
  have hj : j % 5 < 5 := Nat.mod_lt _ (by omega)
  unfold K5 at h
  match e : j % 5, hj with
  | 0, _ => rw [e] at h; obtain ⟨_, h⟩ := h; cases h
  | 1, _ => exact .inl rfl
  | 2, _ => rw [e] at h; obtain ⟨_, h⟩ := h; cases h
  | 3, _ => exact .inr rfl
  | 4, _ => rw [e] at h; obtain ⟨_, h⟩ := h; cases h
theorem K4.u64 {j : Nat} {x : Int} (h : K4 j (.int .u64 x)) : False := by
  have hj : j % 4 < 4 := Nat.mod_lt _ (by omega)
  unfold K4 at h
  match e : j % 4, hj with
  | 0, _ => rw [e] at h; obtain ⟨_, h⟩ := h; cases h
  | 1, _ => rw [e] at h; obtain ⟨_, _, _, h⟩ := h; cases h
  | 2, _ => rw [e] at h; obtain ⟨_, h⟩ := h; cases h
  | 3, _ => rw [e] at h; obtain ⟨_, _, _, h⟩ := h; cases h
theorem own_block {w : World} {base : Nat} {e : TypeId} {size n : Nat} {v : Value} {xs : List Value} {g : Nat} (h : w.ownsRow base e size v n xs) (hg : v.ownBlock = some g) : ∃ cur, w.heap[g]? = some (.cells cur e (0, 0)) := by
  rcases h.2 with ⟨rfl, _⟩ | ⟨g', cap, cur, rfl, _, hh, _⟩
  · cases hg
  · simp only [Value.ownBlock, Option.some.injEq] at hg
    subst hg
    exact ⟨cur, hh⟩
theorem own_mv {w w' : World} {base : Nat} {e : TypeId} {size n : Nat} {v : Value} {xs : List Value} {T : Option Nat} (h : w.ownsRow base e size v n xs) (hg : w.grownBy w' T) (hne : ∀ g, T = some g → v.ownBlock ≠ some g) : w'.ownsRow base e size v n xs := by
  refine ⟨h.1, ?_⟩
  rcases h.2 with h2 | ⟨g', cap, cur, rfl, hb, hh, h3⟩
  · exact .inl h2
  · exact .inr ⟨g', cap, cur, rfl, hb, (hg.block g' (blk_lt hh) (fun e => hne g' e.symm (by simp [Value.ownBlock]))).trans hh, h3⟩
/-- a block that may be written: no list of digits lies there -/
def Safe (w : World) (T : Option Nat) : Prop := ∀ g, T = some g → g < w.heap.size ∧ Odd g w ∧ NoI w g
theorem grown_belowN {w w' : World} (hb : Below w.heap.size w w') : w.grownBy w' none := ⟨hb.os, hb.tape, hb.output, hb.size, fun k hk _ => hb.block k hk⟩
theorem safe_none (w : World) : Safe w none := fun _ h => by cases h
theorem below_grownN {w w' : World} (hg : w.grownBy w' none) : Below w.heap.size w w' := ⟨hg.os, hg.tape, hg.output, hg.size, fun k hk => hg.block k hk (by simp)⟩
theorem rr_mv {w w' : World} {v : Value} {n : Int} {d : Nat} {T : Option Nat} (h : Rr w v n d) (hs : Safe w T) (hg : w.grownBy w' T) : Rr w' v n d := by
  cases T with
  | none => exact h.keep (below_grownN hg) (Nat.le_refl _)
  | some g => exact h.store (hs g rfl).2.1 hg
theorem ra_mv {w w' : World} {v : Value} {a : Rat} {T : Option Nat} (h : RA w v a) (hs : Safe w T) (hg : w.grownBy w' T) : RA w' v a := by
  cases T with
  | none => exact h.keep (below_grownN hg) (Nat.le_refl _)
  | some g => exact h.store (hs g rfl).2.2 hg
theorem rz_mv {w w' : World} {v : Value} {a : Int} {T : Option Nat} (h : RZ w v a) (hs : Safe w T) (hg : w.grownBy w' T) : RZ w' v a := by
  cases T with
  | none => exact h.keep (below_grownN hg) (Nat.le_refl _)
  | some g => exact h.store (hs g rfl).2.2 hg
structure RowA (base : Nat) (w : World) (v : Value) (k : Nat) (l : Nat → Rat) : Prop where
  own : ∃ xs, w.ownsRow base 33 5 v k xs
  kd : KRow K5 w v
  row : SQ w v k l
theorem RowA.safe {base k : Nat} {w : World} {v : Value} {l : Nat → Rat} (h : RowA base w v k l) : Safe w v.ownBlock := by
  intro g hg
  obtain ⟨xs, ho⟩ := h.own
  obtain ⟨cur, hh⟩ := own_block ho hg
  have hk := h.kd g cur 33 (0, 0) hg hh
  have hc : ∀ j, w.cell? ⟨g, j, none⟩ = cur[j]? := fun j => by simp [World.cell?, hh]
  refine ⟨blk_lt hh, ⟨fun o x y h1 h2 => ?_, fun p l c h1 => ?_⟩, ⟨cur, 33, (0, 0), hh, by decide⟩⟩
  · rw [hc] at h1 h2
    have k1 := (hk _ _ h1).u64
    have k2 := (hk _ _ h2).u64
    omega
  · rw [hc] at h1
    have := hk _ _ h1
    simp [K5] at this
theorem RowA.mv {base k : Nat} {w w' : World} {v : Value} {l : Nat → Rat} {T : Option Nat} (h : RowA base w v k l) (hs : Safe w T) (hg : w.grownBy w' T) (hne : ∀ g, T = some g → v.ownBlock ≠ some g) : RowA base w' v k l := by
  obtain ⟨xs, ho⟩ := h.own
  refine ⟨⟨xs, own_mv ho hg hne⟩, fun g cur t f hb hh j u hj => ?_, ?_⟩
  · obtain ⟨cur2, h2⟩ := own_block ho hb
    rw [hg.block g (blk_lt h2) (fun e => hne g e.symm hb)] at hh
    exact h.kd g cur t f hb hh j u hj
  · rcases h.row with h2 | ⟨b, cap, rfl, hb, hx⟩
    · exact .inl h2
    · refine .inr ⟨b, cap, rfl, Nat.lt_of_lt_of_le hb hg.size, fun i hi => ?_⟩
      have cw : ∀ j, w'.cell? ⟨b, j, none⟩ = w.cell? ⟨b, j, none⟩ := fun j => World.cell?_of_block (hg.block b hb (fun e => hne b e.symm (by simp [Value.ownBlock])))
      obtain ⟨s1, x1, p1, y1, q1, d1, d2, d3, d4, d5, hr⟩ := hx i hi
      exact ⟨s1, x1, p1, y1, q1, (cw (i * 5)).trans d1, (cw (i * 5 + 1)).trans d2, (cw (i * 5 + 2)).trans d3, (cw (i * 5 + 3)).trans d4, (cw (i * 5 + 4)).trans d5, rr_mv hr hs hg⟩
theorem RowA.nil (base : Nat) (w : World) (l : Nat → Rat) : RowA base w (.slice none 0 0) 0 l := ⟨⟨[], World.ownsRow_nil w base 33 5⟩, fun g cur t f h => by simp [Value.ownBlock] at h, .inl ⟨rfl, rfl⟩⟩
theorem RowA.app {ρ : Operand → Value} {o : Oper} {w : World} {x y : Operand} {base k T : Nat} {v : Value} {l : Nat → Rat} {s1 : Bool} {x1 : Int} {p1 : Option Addr} {y1 : Int} {q1 : Option Addr} (h : RowA base w v k l) (ho : o.op = .call { callee := .builtin .append, args := #[x, y], argTypes := #[78, 78] }) (h1 : ρ x = v) (h2 : ρ y = .slice (some ⟨T, 0, none⟩) 1 1) (hT : w.heap[T]? = some (.cells #[.bool s1, .int .u64 x1, .pointer p1, .int .u64 y1, .pointer q1] 33 (0, 0)))
    (hr : Rr w (.agg #[.bool s1, .int .u64 x1, .pointer p1, .int .u64 y1, .pointer q1]) (l k).num (l k).den) (hk : k ≤ 100) (hbase : base ≤ w.heap.size) :
    ∃ v' w', (execOp ρ o).run Tryz.prog w = .ok (.value v') w' ∧ RowA base w' v' (k + 1) l ∧ w.grownBy w' v.ownBlock := by
  obtain ⟨xs, hown⟩ := h.own
  obtain ⟨i0, hi, hz0, hz1, hz2⟩ := info_parts Tryz.inf33
  obtain ⟨v', w', hrun, h3, h4, h5⟩ := app_kinds (P := Tryz.prog) w base 78 o.type 33 i0 _ 5 40 Tryz.und78 hi hz0 hz1 hz2 rfl (by decide) K5 K5.per
    (fun j u hj => by
      match j, hj with
      | 0, hj => simp [Value.cells] at hj; subst hj; simp [K5]
      | 1, hj => simp [Value.cells] at hj; subst hj; simp [K5]
      | 2, hj => simp [Value.cells] at hj; subst hj; simp [K5]
      | 3, hj => simp [Value.cells] at hj; subst hj; simp [K5]
      | 4, hj => simp [Value.cells] at hj; subst hj; simp [K5]
      | j + 5, hj => simp [Value.cells] at hj) v k xs hown h.kd ⟨T, 0, none⟩ 1 [.bool s1, .int .u64 x1, .pointer p1, .int .u64 y1, .pointer q1] rfl
    (fun j u hj => by
      match j, hj with
      | 0, hj => simp at hj; subst hj; simp [Addr.add, World.cell?, hT]
      | 1, hj => simp at hj; subst hj; simp [Addr.add, World.cell?, hT]
      | 2, hj => simp at hj; subst hj; simp [Addr.add, World.cell?, hT]
      | 3, hj => simp at hj; subst hj; simp [Addr.add, World.cell?, hT]
      | 4, hj => simp at hj; subst hj; simp [Addr.add, World.cell?, hT]) (by simp [Value.oneCell'])
    (fun j u hj => by
      match j, hj with
      | 0, hj => simp at hj; subst hj; simp [K5]
      | 1, hj => simp at hj; subst hj; simp [K5]
      | 2, hj => simp at hj; subst hj; simp [K5]
      | 3, hj => simp at hj; subst hj; simp [K5]
      | 4, hj => simp at hj; subst hj; simp [K5]
      | j + 5, hj => simp at hj) (by unfold maxLen; omega) (by omega) hbase
  refine ⟨v', w', ?_, ⟨⟨_, h3⟩, h5, ?_⟩, h4⟩
  · unfold execOp
    simp only [ho, resolve, invoke, builtin, Sem.run_bind, Sem.run_pure, Result.andThen_ok, List.map_toArray, List.map_cons, List.map_nil, h1, h2, hrun]
  · obtain ⟨g, cap, rfl⟩ := ownsRow_succ' h3
    have hl := hown.1
    have ca : ∀ j, j < (k + 1) * 5 → w'.cell? ⟨g, j, none⟩ = (xs ++ [.bool s1, .int .u64 x1, .pointer p1, .int .u64 y1, .pointer q1])[j]? := fun j hj => h3.cellAt j hj
    refine .inr ⟨g, cap, rfl, (h3.lt g rfl).2, fun i hi => ?_⟩
    by_cases hik : i < k
    · rcases h.row with ⟨_, h0⟩ | ⟨b, cap2, rfl, hb, hx⟩
      · omega
      · obtain ⟨s1, x1, p1, y1, q1, d1, d2, d3, d4, d5, hr2⟩ := hx i hik
        have old : ∀ j, j < k * 5 → w'.cell? ⟨g, j, none⟩ = w.cell? ⟨b, j, none⟩ := fun j hj => by
          rw [ca j (by omega), List.getElem?_append_left (by omega)]
          exact (hown.cellAt j hj).symm
        exact ⟨s1, x1, p1, y1, q1, (old _ (by omega)).trans d1, (old _ (by omega)).trans d2, (old _ (by omega)).trans d3, (old _ (by omega)).trans d4, (old _ (by omega)).trans d5, rr_mv hr2 h.safe h4⟩
    · obtain rfl : i = k := by omega
      refine ⟨s1, x1, p1, y1, q1, ?_, ?_, ?_, ?_, ?_, rr_mv hr h.safe h4⟩
      · rw [ca _ (by omega), List.getElem?_append_right (by omega), hl]; simp
      · rw [ca _ (by omega), List.getElem?_append_right (by omega), hl]; simp
      · rw [ca _ (by omega), List.getElem?_append_right (by omega), hl]; simp
      · rw [ca _ (by omega), List.getElem?_append_right (by omega), hl]; simp
      · rw [ca _ (by omega), List.getElem?_append_right (by omega), hl]; simp
structure RowB (base : Nat) (w : World) (v : Value) (k : Nat) (l : Nat → Rat) : Prop where
  own : ∃ xs, w.ownsRow base 44 4 v k xs
  kd : KRow K4 w v
  row : SA w v k l
theorem RowB.safe {base k : Nat} {w : World} {v : Value} {l : Nat → Rat} (h : RowB base w v k l) : Safe w v.ownBlock := by
  intro g hg
  obtain ⟨xs, ho⟩ := h.own
  obtain ⟨cur, hh⟩ := own_block ho hg
  have hk := h.kd g cur 44 (0, 0) hg hh
  have hc : ∀ j, w.cell? ⟨g, j, none⟩ = cur[j]? := fun j => by simp [World.cell?, hh]
  refine ⟨blk_lt hh, ⟨fun o x y h1 h2 => ?_, fun p l c h1 => ?_⟩, ⟨cur, 44, (0, 0), hh, by decide⟩⟩
  · rw [hc] at h1 h2
    have k1 := (hk _ _ h1).u64
    have k2 := (hk _ _ h2).u64
    exact k1
  · rw [hc] at h1
    have := hk _ _ h1
    simp [K4] at this
theorem RowB.mv {base k : Nat} {w w' : World} {v : Value} {l : Nat → Rat} {T : Option Nat} (h : RowB base w v k l) (hs : Safe w T) (hg : w.grownBy w' T) (hne : ∀ g, T = some g → v.ownBlock ≠ some g) : RowB base w' v k l := by
  obtain ⟨xs, ho⟩ := h.own
  refine ⟨⟨xs, own_mv ho hg hne⟩, fun g cur t f hb hh j u hj => ?_, ?_⟩
  · obtain ⟨cur2, h2⟩ := own_block ho hb
    rw [hg.block g (blk_lt h2) (fun e => hne g e.symm hb)] at hh
    exact h.kd g cur t f hb hh j u hj
  · rcases h.row with h2 | ⟨b, cap, rfl, hb, hx⟩
    · exact .inl h2
    · refine .inr ⟨b, cap, rfl, Nat.lt_of_lt_of_le hb hg.size, fun i hi => ?_⟩
      have cw : ∀ j, w'.cell? ⟨b, j, none⟩ = w.cell? ⟨b, j, none⟩ := fun j => World.cell?_of_block (hg.block b hb (fun e => hne b e.symm (by simp [Value.ownBlock])))
      obtain ⟨t1, f1, l1, c1, u1, hh1, m1, cc1, d1, d2, d3, d4, hr⟩ := hx i hi
      exact ⟨t1, f1, l1, c1, u1, hh1, m1, cc1, (cw (i * 4)).trans d1, (cw (i * 4 + 1)).trans d2, (cw (i * 4 + 2)).trans d3, (cw (i * 4 + 3)).trans d4, ra_mv hr hs hg⟩
theorem RowB.nil (base : Nat) (w : World) (l : Nat → Rat) : RowB base w (.slice none 0 0) 0 l := ⟨⟨[], World.ownsRow_nil w base 44 4⟩, fun g cur t f h => by simp [Value.ownBlock] at h, .inl ⟨rfl, rfl⟩⟩
theorem RowB.app {ρ : Operand → Value} {o : Oper} {w : World} {x y : Operand} {base k T : Nat} {v : Value} {l : Nat → Rat} {t1 : Int} {f1 : Option Addr} {l1 c1 : Nat} {u1 : Int} {hh1 : Option Addr} {m1 cc1 : Nat} (h : RowB base w v k l) (ho : o.op = .call { callee := .builtin .append, args := #[x, y], argTypes := #[79, 79] }) (h1 : ρ x = v) (h2 : ρ y = .slice (some ⟨T, 0, none⟩) 1 1) (hT : w.heap[T]? = some (.cells #[.int .i64 t1, .slice f1 l1 c1, .int .i64 u1, .slice hh1 m1 cc1] 44 (0, 0)))
    (hr : RA w (.agg #[.int .i64 t1, .slice f1 l1 c1, .int .i64 u1, .slice hh1 m1 cc1]) (l k)) (hk : k ≤ 100) (hbase : base ≤ w.heap.size) :
    ∃ v' w', (execOp ρ o).run Tryz.prog w = .ok (.value v') w' ∧ RowB base w' v' (k + 1) l ∧ w.grownBy w' v.ownBlock := by
  obtain ⟨xs, hown⟩ := h.own
  obtain ⟨i0, hi, hz0, hz1, hz2⟩ := info_parts Tryz.inf44
  obtain ⟨v', w', hrun, h3, h4, h5⟩ := app_kinds (P := Tryz.prog) w base 79 o.type 44 i0 _ 4 64 Tryz.und79 hi hz0 hz1 hz2 rfl (by decide) K4 K4.per
    (fun j u hj => by
      match j, hj with
      | 0, hj => simp [Value.cells] at hj; subst hj; simp [K4]
      | 1, hj => simp [Value.cells] at hj; subst hj; simp [K4]
      | 2, hj => simp [Value.cells] at hj; subst hj; simp [K4]
      | 3, hj => simp [Value.cells] at hj; subst hj; simp [K4]
      | j + 4, hj => simp [Value.cells] at hj) v k xs hown h.kd ⟨T, 0, none⟩ 1 [.int .i64 t1, .slice f1 l1 c1, .int .i64 u1, .slice hh1 m1 cc1] rfl
    (fun j u hj => by
      match j, hj with
      | 0, hj => simp at hj; subst hj; simp [Addr.add, World.cell?, hT]
      | 1, hj => simp at hj; subst hj; simp [Addr.add, World.cell?, hT]
      | 2, hj => simp at hj; subst hj; simp [Addr.add, World.cell?, hT]
      | 3, hj => simp at hj; subst hj; simp [Addr.add, World.cell?, hT]) (by simp [Value.oneCell'])
    (fun j u hj => by
      match j, hj with
      | 0, hj => simp at hj; subst hj; simp [K4]
      | 1, hj => simp at hj; subst hj; simp [K4]
      | 2, hj => simp at hj; subst hj; simp [K4]
      | 3, hj => simp at hj; subst hj; simp [K4]
      | j + 4, hj => simp at hj) (by unfold maxLen; omega) (by omega) hbase
  refine ⟨v', w', ?_, ⟨⟨_, h3⟩, h5, ?_⟩, h4⟩
  · unfold execOp
    simp only [ho, resolve, invoke, builtin, Sem.run_bind, Sem.run_pure, Result.andThen_ok, List.map_toArray, List.map_cons, List.map_nil, h1, h2, hrun]
  · obtain ⟨g, cap, rfl⟩ := ownsRow_succ' h3
    have hl := hown.1
    have ca : ∀ j, j < (k + 1) * 4 → w'.cell? ⟨g, j, none⟩ = (xs ++ [.int .i64 t1, .slice f1 l1 c1, .int .i64 u1, .slice hh1 m1 cc1])[j]? := fun j hj => h3.cellAt j hj
    refine .inr ⟨g, cap, rfl, (h3.lt g rfl).2, fun i hi => ?_⟩
    by_cases hik : i < k
    · rcases h.row with ⟨_, h0⟩ | ⟨b, cap2, rfl, hb, hx⟩
      · omega
      · obtain ⟨t1, f1, l1, c1, u1, hh1, m1, cc1, d1, d2, d3, d4, hr2⟩ := hx i hik
        have old : ∀ j, j < k * 4 → w'.cell? ⟨g, j, none⟩ = w.cell? ⟨b, j, none⟩ := fun j hj => by
          rw [ca j (by omega), List.getElem?_append_left (by omega)]
          exact (hown.cellAt j hj).symm
        exact ⟨t1, f1, l1, c1, u1, hh1, m1, cc1, (old _ (by omega)).trans d1, (old _ (by omega)).trans d2, (old _ (by omega)).trans d3, (old _ (by omega)).trans d4, ra_mv hr2 h.safe h4⟩
    · obtain rfl : i = k := by omega
      refine ⟨t1, f1, l1, c1, u1, hh1, m1, cc1, ?_, ?_, ?_, ?_, ra_mv hr h.safe h4⟩
      · rw [ca _ (by omega), List.getElem?_append_right (by omega), hl]; simp
      · rw [ca _ (by omega), List.getElem?_append_right (by omega), hl]; simp
      · rw [ca _ (by omega), List.getElem?_append_right (by omega), hl]; simp
      · rw [ca _ (by omega), List.getElem?_append_right (by omega), hl]; simp
end Go.Proofs.YtjjomjjgoceklaaGreat

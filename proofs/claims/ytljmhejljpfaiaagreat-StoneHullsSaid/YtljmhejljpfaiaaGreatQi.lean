import Derived.Test.YtljmhejljpfaiaaGreatQg
import Derived.Test.YtljmhejljpfaiaaGreatQc
import Derived.Test.YtljmhejljpfaiaaGreatHd
import Derived.ArgAppend
import Derived.Deep.DeepCutAuto
namespace Go.Proofs.YtljmhejljpfaiaaGreat
set_option maxRecDepth 100000
open Go.RowKit Go.Shelf

/-! around: both chains -/
theorem ptsF_all (l : List Pt) : ptsF l (List.finRange l.length) = l := by
  unfold ptsF
  refine List.ext_getElem (by simp) fun i h1 h2 => ?_
  simp only [List.getElem_map, List.getElem_finRange]
  unfold px pz
  simp [h2]
theorem ptsF_rev (l : List Pt) : ptsF l (List.finRange l.length).reverse = l.reverse := by
  have := ptsF_all l
  unfold ptsF at *
  rw [List.map_reverse, this]
theorem foldC_pos : ∀ (T st : List Pt), 0 < st.length → st.length ≤ 1 ∨ True → 0 < (T.foldl addC st).length
  | [], st, h, _ => h
  | p :: T, st, _, _ => foldC_pos T (addC st p) (by show 0 < (p :: popC st p).length; simp) (.inr trivial)
theorem popC_pos : ∀ (st : List Pt) (p : Pt), 0 < st.length → 0 < (popC st p).length
  | [], _, h => h
  | [_], _, h => h
  | b :: a :: t, p, _ => by
    show 0 < (if D3 a b p ≤ 0 then popC (a :: t) p else b :: a :: t).length
    split
    · exact popC_pos (a :: t) p (by simp)
    · simp
theorem foldC_two : ∀ (T st : List Pt), 0 < T.length → 0 < st.length → 2 ≤ (T.foldl addC st).length
  | [], _, h, _ => by simp at h
  | [p], st, _, h => by
    have := popC_pos st p h
    show 2 ≤ (popC st p).length + 1
    omega
  | p :: q :: T, st, _, h => foldC_two (q :: T) (addC st p) (by simp) (by show 0 < (popC st p).length + 1; omega)
theorem chn_two {S : List Pt} (h : 2 ≤ S.length) : 2 ≤ (chn S).length := by
  match S, h with
  | a :: b :: T, _ => exact foldC_two (b :: T) (addC [] a) (by simp) (by show 0 < (popC [] a).length + 1; omega)
/-- append to a slice that has no room, as one step of a region that draws -/
theorem step_append_grows {P : Program} {ops : Array Oper} {o : Oper} {a : Act} {w : World} {K : Act → World → Prop} {Q : Exit → Act → World → Prop} {E : Prop}
    (hg : o.guard = none) (s x : Operand) (t : TypeId) (hop : o.op = Op.call { callee := Callee.builtin Builtin.append, args := #[s, x], argTypes := #[t, t] })
    (e : TypeId) (i : TypeInfo) (z : Value) (size bytes : Nat) (h1 : P.underlying t = some (.slice e)) (h2 : P.info? e = some i) (h3 : i.zero = some z) (h4 : i.size = size) (h5 : i.bytes = bytes) (h6 : z.cells.size = size) (h7 : 0 < size)
    (b : Addr) (n cap : Nat) (olds : List Value) (hs : a.eval s = .slice (some b) n cap) (hlo : olds.length = n * size) (holds : ∀ j u, olds[j]? = some u → w.cell? (b.add j) = some u)
    (ad : Addr) (m c : Nat) (news : List Value) (hx : a.eval x = .slice (some ad) m c) (hn : news.length = m * size) (hc : ∀ j u, news[j]? = some u → w.cell? (ad.add j) = some u)
    (hfull : cap < n + m) (b1 : n + m ≤ maxLen) (b2 : (n + m) * bytes ≤ 140737488355328)
    (hK : ∀ v' w', w'.ownsRow w.heap.size e size v' (n + m) (olds ++ news) → w.grownBy w' none → K (a.put o.dst v') w') :
    if Region.wanted o (yielded ops a.tmps) = true then Oper.wp P o a w K Q else E := by
  have hw : Region.wanted o (yielded ops a.tmps) = true := by simp [Region.wanted, hg]
  rw [if_pos hw]
  obtain ⟨v', w', hrun, r1, r2⟩ := run_append_arg_grows (P := P) w t o.type e i z size bytes h1 h2 h3 h4 h5 h6 h7 b n cap olds hlo holds ad m c news hn hc hfull b1 b2
  unfold Oper.wp
  simp [execOp, hop, resolve, invoke, builtin, hs, hx, hrun, Result.andThen]
  exact hK v' w' r1 r2
theorem addr_add0 (g j : Nat) : (⟨g, 0, none⟩ : Addr).add j = ⟨g, j, none⟩ := by
  unfold Addr.add
  split <;> simp_all
theorem cls_append (a b : List Pt) : cls (a ++ b) = cls a ++ cls b := by unfold cls; rw [List.flatMap_append]
theorem row_cls {w : World} {g : Nat} {l : List Pt} (hr : Row w g 0 l) (k : Nat) (hk : k ≤ l.length) : ∀ j u, (cls (l.take k))[j]? = some u → w.cell? ((⟨g, 0, none⟩ : Addr).add j) = some u := by
  induction k with
  | zero => intro j u h; simp [cls] at h
  | succ k ih =>
    intro j u h
    have hs : l.take (k + 1) = l.take k ++ [(px l k, pz l k)] := by
      rw [List.take_succ_eq_append_getElem (by omega)]
      unfold px pz
      have : l.getD k (0, 0) = l[k] := by simp [List.getD_eq_getElem?_getD, List.getElem?_eq_getElem (show k < l.length by omega)]
      rw [this]
    have hlen : (cls (l.take k)).length = k * 2 := by rw [cls_length, List.length_take]; omega
    rw [hs, cls_snoc] at h
    rcases Nat.lt_or_ge j (k * 2) with q | q
    · rw [List.getElem?_append_left (by omega)] at h
      exact ih (by omega) j u h
    · rw [List.getElem?_append_right (by omega), hlen] at h
      obtain ⟨r0, r1⟩ := hr k (by omega)
      have hj : j - k * 2 = 0 ∨ j - k * 2 = 1 ∨ 2 ≤ j - k * 2 := by omega
      rcases hj with e | e | e
      · rw [e] at h
        simp at h; subst h
        obtain rfl : j = k * 2 := by omega
        rw [addr_add0]; simpa using r0
      · rw [e] at h
        simp at h; subst h
        obtain rfl : j = k * 2 + 1 := by omega
        rw [addr_add0]; simpa using r1
      · rw [List.getElem?_eq_none (by simpa using e)] at h
        cases h
theorem hullL_eq (S : List Pt) : hullL S = (chn S).reverse.take ((chn S).length - 1) ++ (chn S.reverse).reverse.take ((chn S.reverse).length - 1) := by
  have : ∀ L : List Pt, L.tail.reverse = L.reverse.take (L.length - 1) := fun L => by
    cases L with
    | nil => rfl
    | cons a t => simp
  unfold hullL
  rw [this, this]
section
variable {P : Program} {ops : Array Oper} {Q : Exit → Act → World → Prop}
/-- the same; the last operations may have a slot that is no new block's -/
theorem wp_region_aldz {id : Nat} {a0 : Act} {w : World} (D : Nat → Bool) (tab : Nat → Kd) (al : Nat → Bool) (m : Nat) (I : Nat → (Nat → Value) → World → Prop) (hm : P.follows .mixedOrders = true) (hback : backB .any ops = true) (hu : uniqB ops = true) (hch : tailB ops m = true) (hms : m ≤ ops.size)
    (hD : (ops.toList.filterMap (·.dst)).all D = true) (hI : ∀ i f f' w w', I i f w → Below w.heap.size w w' → (i = m ∨ ∀ d, al d = true → f' d = f d) → I i f' w') (ham : alB ops al m = true) (h0 : ∀ f, I m f { w with drawn := w.drawn + 1 })
    (hstep : AllFrom (fun i o => ∀ s f w, (∀ j, m ≤ j → j < s → (edgesOf ops j).contains i = false) → I s f w → (∀ d, (predD ops i).contains d = true → kd (tab d) (f d) w) →
      Region.wanted o (yielded ops (fr a0 D f).tmps) = true ∧ ∃ d, o.dst = some d ∧ OpR P o (fr a0 D f) w fun v w' => (Below w.heap.size w w' ∧ kd (tab d) v w') ∧ (al d = true → v = .pointer (some ⟨w.heap.size, 0, none⟩) ∧ w.heap.size < w'.heap.size)) 0 (ops.toList.take m))
    (htail : AllFrom (fun i o => ∀ f w, I i f w → (∀ d, (predD ops i).contains d = true → kd (tab d) (f d) w) → (∀ d d', (predD ops i).contains d = true → (predD ops i).contains d' = true → al d = true → al d' = true → d ≠ d' → f d ≠ f d') →
      Region.wanted o (yielded ops (fr a0 D f).tmps) = true ∧ (∀ d, o.dst = some d → al d = false) ∧ OpR P o (fr a0 D f) w fun v w' => (I (i + 1) (updo f o.dst v) w' ∧ (∀ d v, kd (tab d) v w → kd (tab d) v w') ∧ (∀ d, o.dst = some d → kd (tab d) v w')) ∧ w.heap.size ≤ w'.heap.size) m (ops.toList.drop m))
    (hend : ∀ f w, I ops.size f w → (∀ d, (ops.toList.filterMap (·.dst)).contains d = true → kd (tab d) (f d) w) → Q .normal (fr a0 D f) w) : (Code.region id ops true).wp P Q a0 w := by
  let J : (Nat → Bool) → (Nat → Value) → World → Prop := fun L f w => Closed ops L ∧ ∃ i, (m ≤ i ∧ i ≤ ops.size) ∧ (∀ j, m ≤ j → j < i → L j = true) ∧ (∀ j, i ≤ j → L j = false) ∧ I i f w ∧ KdAll tab ops L f w ∧ Als al ops L f w
  have hclosed : ∀ (L : Nat → Bool) (n : Nat), Closed ops L → (∀ j ∈ edgesOf ops n, L j = true) → Closed ops (dn L n) := by
    intro L n hcl hedge i hi j hj
    unfold dn at hi ⊢
    by_cases e : i = n
    · subst e
      split
      · rfl
      · exact hedge j hj
    · rw [if_neg e] at hi
      split
      · rfl
      · exact hcl i hi j hj
  refine wp_region_fr D J hm hback hD ⟨_, fr_self a0 D, (by intro i h; cases h), m, ⟨Nat.le_refl _, hms⟩, fun j h1 h2 => by omega, fun _ _ => rfl, h0 _, (by intro i o d _ h; cases h), ⟨(by intro i o d _ h; cases h), (by intro i j oi oj d d' _ _ h; cases h)⟩⟩ ?_ ?_
  · refine .of fun n o ho => ?_
    rw [Nat.zero_add]
    rintro L f w ⟨hcl, i, ⟨hi1, hi2⟩, hdone, hfar, hIw, hk, hals⟩ hL hdep
    have ho : ops[n]? = some o := by simpa using ho
    have hn : n < ops.size := (Array.getElem?_eq_some_iff.1 ho).1
    have hedge : ∀ j ∈ edgesOf ops n, L j = true := by
      intro j hj
      unfold edgesOf at hj
      rw [ho] at hj
      obtain ⟨e, he, rfl⟩ := List.mem_map.1 hj
      obtain ⟨he1, he2⟩ := List.mem_filter.1 he
      exact hdep e (by simpa using he1) he2
    have hpr := predGo_ok hcl n _ hedge
    have hpre : ∀ d, (predD ops n).contains d = true → kd (tab d) (f d) w := by
      intro d hd
      unfold predD at hd
      obtain ⟨j, hj, hjd⟩ := List.mem_filterMap.1 (List.contains_iff_mem.1 hd)
      obtain ⟨oj, hoj, hdj⟩ := Option.bind_eq_some_iff.1 hjd
      exact hk j oj d hoj (hpr j hj) hdj
    rcases Nat.lt_or_ge n m with hnm | hnm
    · have hg := hstep.get (i := n) (o := o) (by rw [List.getElem?_take_of_lt hnm]; simpa using ho)
      rw [Nat.zero_add] at hg
      obtain ⟨hw, d, hd, hr⟩ := hg i f w (fun j h1 h2 => by
        cases hc : (edgesOf ops j).contains n with
        | false => rfl
        | true => rw [hcl j (hdone j h1 h2) n (List.contains_iff_mem.1 hc)] at hL; cases hL) hIw hpre
      refine ⟨hw, ?_⟩
      have him : ∀ d, o.dst = some d → ∀ v, i = m ∨ ∀ d', al d' = true → updo f o.dst v d' = f d' := by
        intro d hd v
        rcases Nat.lt_or_ge m i with hmi | hmi
        · right
          intro d' had
          rw [hd]
          simp only [updo, upd]
          rw [if_neg]
          intro e
          subst e
          have := hcl m (hdone m (Nat.le_refl _) hmi) n (alB_spec ham ho hd had)
          rw [this] at hL
          cases hL
        · left; omega
      have step : ∀ v w', ((Below w.heap.size w w' ∧ kd (tab d) v w') ∧ (al d = true → v = .pointer (some ⟨w.heap.size, 0, none⟩) ∧ w.heap.size < w'.heap.size)) → J (dn L n) (updo f o.dst v) w' := by
        rintro v w' ⟨⟨hb, hkd⟩, hal⟩
        refine ⟨hclosed _ _ hcl hedge, i, ⟨hi1, hi2⟩, fun j h1 h2 => by unfold dn; rw [if_neg (by omega)]; exact hdone j h1 h2, fun j hj => by unfold dn; rw [if_neg (by omega)]; exact hfar j hj, hI _ _ _ _ _ hIw hb (him d hd v), ?_, hals.step hu ho hd hb.size hal⟩
        intro i' p d' hp hi' hd'
        rw [hd]
        unfold dn at hi'
        by_cases e : i' = n
        · subst e
          rw [ho] at hp
          cases hp
          rw [hd] at hd'
          cases hd'
          simpa [updo, upd] using hkd
        · rw [if_neg e] at hi'
          have hne : d' ≠ d := fun he => e (uniq_spec hu hp ho (he ▸ hd') hd)
          simp only [updo, upd, if_neg hne]
          exact (hk i' p d' hp hi' hd').keep hb
      rcases hr with ⟨v, w', h1, h2⟩ | ⟨w', h1, h2⟩ | ⟨g, args, h1, h2⟩
      · exact .inl ⟨v, w', h1, step _ _ h2⟩
      · exact .inr (.inl ⟨w', h1, step _ _ h2⟩)
      · exact .inr (.inr ⟨g, args, h1, h2.mono fun e w' ⟨v, he, hr⟩ => ⟨v, he, step _ _ hr⟩⟩)
    · have hin : i = n := by
        rcases Nat.lt_trichotomy i n with h | h | h
        · have h1 := hedge _ (tail_spec hch hn (by omega))
          rw [hfar (n - 1) (by omega)] at h1
          cases h1
        · exact h
        · have := hdone n hnm h; rw [this] at hL; cases hL
      subst hin
      have hg := htail.get (i := i - m) (o := o) (by rw [List.getElem?_drop, show m + (i - m) = i by omega]; simpa using ho)
      rw [show m + (i - m) = i by omega] at hg
      obtain ⟨hw, hdn, hr⟩ := hg f w hIw hpre (fun d d' h1 h2 => by
        unfold predD at h1 h2
        obtain ⟨j, hj, hjd⟩ := List.mem_filterMap.1 (List.contains_iff_mem.1 h1)
        obtain ⟨oj, hoj, hdj⟩ := Option.bind_eq_some_iff.1 hjd
        obtain ⟨j', hj', hjd'⟩ := List.mem_filterMap.1 (List.contains_iff_mem.1 h2)
        obtain ⟨oj', hoj', hdj'⟩ := Option.bind_eq_some_iff.1 hjd'
        exact hals.2 j j' oj oj' d d' hoj hoj' (hpr j hj) (hpr j' hj') hdj hdj')
      refine ⟨hw, ?_⟩
      have step : ∀ v w', ((I (i + 1) (updo f o.dst v) w' ∧ (∀ d v, kd (tab d) v w → kd (tab d) v w') ∧ (∀ d, o.dst = some d → kd (tab d) v w')) ∧ w.heap.size ≤ w'.heap.size) → J (dn L i) (updo f o.dst v) w' := by
        rintro v w' ⟨⟨hI', hkk, hkn⟩, hsz⟩
        have hA : Als al ops (dn L i) (updo f o.dst v) w' := by
          cases hd : o.dst with
          | none => exact hals.tail ho hd hsz
          | some d =>
            rw [← hd]
            exact hals.step hu ho hd hsz (fun h => by rw [hdn d hd] at h; cases h)
        refine ⟨hclosed _ _ hcl hedge, i + 1, ⟨by omega, hn⟩, fun j h1 h2 => by unfold dn; split; rfl; exact hdone j h1 (by omega), fun j hj => by unfold dn; rw [if_neg (by omega)]; exact hfar j (by omega), hI', ?_, hA⟩
        intro i' p d' hp hi' hd'
        unfold dn at hi'
        by_cases e : i' = i
        · subst e
          rw [ho] at hp
          cases hp
          have hq := hkn d' hd'
          rw [hd']
          simpa [updo, upd] using hq
        · rw [if_neg e] at hi'
          have hq := hkk _ _ (hk i' p d' hp hi' hd')
          cases hd : o.dst with
          | none => exact hq
          | some d =>
            have hne : d' ≠ d := fun he => e (uniq_spec hu hp ho (he ▸ hd') hd)
            simp only [updo, upd, if_neg hne]
            exact hq
      rcases hr with ⟨v, w', h1, h2⟩ | ⟨w', h1, h2⟩ | ⟨g, args, h1, h2⟩
      · exact .inl ⟨v, w', h1, step _ _ h2⟩
      · exact .inr (.inl ⟨w', h1, step _ _ h2⟩)
      · exact .inr (.inr ⟨g, args, h1, h2.mono fun e w' ⟨v, he, hr⟩ => ⟨v, he, step _ _ hr⟩⟩)
  · rintro L f w ⟨_, i, ⟨hi1, hi2⟩, _, hfar, hIw, hk, _⟩ hall
    have hie : i = ops.size := by
      rcases Nat.lt_or_ge i ops.size with h | h
      · have := hfar i (Nat.le_refl _); rw [hall i h] at this; cases this
      · omega
    subst hie
    refine hend f w hIw fun d hd => ?_
    obtain ⟨o, ho, hod⟩ := List.mem_filterMap.1 (List.contains_iff_mem.1 hd)
    obtain ⟨i, hi⟩ := List.getElem?_of_mem ho
    have hi' : ops[i]? = some o := by simpa using hi
    exact hk i o d hi' (hall i (Array.getElem?_eq_some_iff.1 hi').1) hod
end
section
variable {ρ : Operand → Value} {o : Oper} {w : World} {t x y z c : Operand}
theorem rn_slice49 {b n cp k : Nat} (ho : o.op = .slice 49 t none (some x) (some y)) (h1 : ρ t = .slice (some ⟨b, 0, none⟩) n cp) (h2 : ρ x = .int .i64 (k : Int)) (h3 : ρ y = .int .i64 (k : Int)) (hk : k ≤ cp) : (execOp ρ o).run Tryz.prog w = .ok (.value (.slice (some ⟨b, 0, none⟩) k k)) w := by
  unfold execOp; rw [ho]; simp [go_sem, h1, h2, h3, hk, run_underlying Tryz.underlying49']
theorem rn_appendz {b ad : Nat} {i : TypeInfo} {n m : Nat} {olds news : List Value} (ho : o.op = .call { callee := .builtin .append, args := #[x, y], argTypes := #[49, 49] }) (hx : ρ x = .slice (some ⟨b, 0, none⟩) n n) (hy : ρ y = .slice (some ⟨ad, 0, none⟩) m m)
    (hi : Tryz.prog.info? 37 = some i) (hz0 : i.zero = some (.agg #[.int .i64 0, .int .i64 0])) (hz1 : i.size = 2) (hz2 : i.bytes = 16) (hlo : olds.length = n * 2) (holds : ∀ j u, olds[j]? = some u → w.cell? ((⟨b, 0, none⟩ : Addr).add j) = some u)
    (hln : news.length = m * 2) (hnews : ∀ j u, news[j]? = some u → w.cell? ((⟨ad, 0, none⟩ : Addr).add j) = some u) (hm : 0 < m) (hb1 : n + m ≤ maxLen) (hb2 : (n + m) * 16 ≤ 140737488355328) :
    ∃ v' w', (execOp ρ o).run Tryz.prog w = .ok (.value v') w' ∧ w'.ownsRow w.heap.size 37 2 v' (n + m) (olds ++ news) ∧ w.grownBy w' none := by
  obtain ⟨v', w', hrun, r1, r2⟩ := run_append_arg_grows (P := Tryz.prog) w 49 o.type 37 i (.agg #[.int .i64 0, .int .i64 0]) 2 16 Tryz.underlying49' hi hz0 hz1 hz2 rfl (by decide) ⟨b, 0, none⟩ n n olds hlo holds ⟨ad, 0, none⟩ m m news hln hnews (by omega) hb1 hb2
  refine ⟨v', w', ?_, r1, r2⟩
  simp [execOp, ho, resolve, invoke, builtin, hx, hy, hrun, Result.andThen]
end
theorem OpR.appendz {o : Oper} {a : Act} {w : World} {R : Value → World → Prop} {x y : Operand} {b ad : Nat} {i : TypeInfo} {n m : Nat} {olds news : List Value} (ho : o.op = .call { callee := .builtin .append, args := #[x, y], argTypes := #[49, 49] }) (hx : a.eval x = .slice (some ⟨b, 0, none⟩) n n) (hy : a.eval y = .slice (some ⟨ad, 0, none⟩) m m)
    (hi : Tryz.prog.info? 37 = some i) (hz0 : i.zero = some (.agg #[.int .i64 0, .int .i64 0])) (hz1 : i.size = 2) (hz2 : i.bytes = 16) (hlo : olds.length = n * 2) (holds : ∀ j u, olds[j]? = some u → w.cell? ((⟨b, 0, none⟩ : Addr).add j) = some u)
    (hln : news.length = m * 2) (hnews : ∀ j u, news[j]? = some u → w.cell? ((⟨ad, 0, none⟩ : Addr).add j) = some u) (hm : 0 < m) (hb1 : n + m ≤ maxLen) (hb2 : (n + m) * 16 ≤ 140737488355328)
    (hR : ∀ v' w', w'.ownsRow w.heap.size 37 2 v' (n + m) (olds ++ news) → w.grownBy w' none → R v' w') : OpR Tryz.prog o a w R := by
  obtain ⟨v', w', hrun, r1, r2⟩ := rn_appendz ho hx hy hi hz0 hz1 hz2 hlo holds hln hnews hm hb1 hb2
  exact .inl ⟨v', w', hrun, hR v' w' r1 r2⟩
def D5z (t : Nat) : Bool := Nat.beq t 2 || (Nat.ble 22 t && Nat.ble t 30)
def kOw (B : Nat) (l : List Pt) : Kd := .c (fun v w => Own w B v l) (fun _ _ _ h hb => own_laterz h hb)
def tab5z (gu U cu u1 gd D cd d1 B : Nat) (l : List Pt) (d : Nat) : Kd :=
  if d = 2 then kOw B l else if d = 30 then kOw B l else
  .v ([.slice (some ⟨gu, 0, none⟩) U cu, .int .i64 u1, .int .i64 u1, .slice (some ⟨gu, 0, none⟩) u1 u1, .slice (some ⟨gd, 0, none⟩) D cd, .int .i64 d1, .int .i64 d1, .slice (some ⟨gd, 0, none⟩) d1 d1].getD (d - 22) undef)
theorem tab5z_keep {gu U cu u1 gd D cd d1 B : Nat} {l : List Pt} {w w' : World} (hb : Below w.heap.size w w') (d : Nat) (v : Value) (h : kd (tab5z gu U cu u1 gd D cd d1 B l d) v w) : kd (tab5z gu U cu u1 gd D cd d1 B l d) v w' := by
  unfold tab5z at h ⊢
  split at h
  · rw [if_pos ‹_›]; exact own_laterz h hb
  · rw [if_neg ‹_›]
    split at h
    · rw [if_pos ‹_›]; exact own_laterz h hb
    · rw [if_neg ‹_›]; exact h
set_option maxHeartbeats 8000000 in
theorem around_any (g c : Nat) (S : List Pt) (w : World) (hr : Row w g 0 S) (h1 : 2 ≤ S.length) (h12 : S.length ≤ 1000) (hs : ∀ i, i < S.length → Sm (px S i) ∧ Sm (pz S i)) :
    Calls Tryz.prog 18 #[.slice (some ⟨g, 0, none⟩) S.length c] w fun e w' => (∃ v, e = .returned v ∧ Own w' w.heap.size v (hullL S)) ∧ Below w.heap.size w w' := by
  obtain ⟨i0, hi, hz0, hz1, hz2⟩ := info_parts Tryz.info37
  have hg := hr.lt (by omega)
  have HR := Lib.hid hr; have HS := Lib.hid hs
  have HG := Lib.hid hg
  have H1 := Lib.hid (And.intro h1 h12)
  have hn0 : ¬ (S.length : Int) = 0 := by omega
  have hn1 : ¬ S.length = 0 := by omega
  clear hr hs hg h1 h12
  go_enter Tryz.func18, Tryz.ntmps18
  go_wp2_with fail
  refine (allv_any _ _ _ _).mono ?_
  rintro e w1 ⟨rfl, hw1⟩
  have hb1 : Below w.heap.size w w1 := by rw [hw1]; exact bl1 _ _
  have hx1 : Boxed w1 w.heap.size 24 (.slice (some ⟨g, 0, none⟩) S.length c) := by rw [hw1]; exact Boxed.new _ _ _
  have hz1' : w.heap.size < w1.heap.size := by rw [hw1]; simp
  have HC1 := Lib.hid (chain_any 77 w.heap.size g 0 S (List.finRange S.length) w1 (enters_of Tryz.func77 (by kernel_rfl) rfl) (all_seq w.heap.size g 0 c S w1 (by have := H1.out; omega) (by have := H1.out; omega) (HR.out.keep hb1) hx1) hz1' (by have := HG.out; omega) H1.out.2 HS.out)
  have K1 := Lib.hid hb1
  clear hw1 hb1 hx1 hz1'
  go_wp2_with fail
  refine HC1.out.mono ?_
  rintro e w2 ⟨⟨v1, rfl, ho1⟩, hb2⟩
  have K2 := Lib.hid (Below.thru K1.out K1.out.size hb2)
  rw [ptsF_all] at ho1
  obtain ⟨U, hU⟩ : ∃ U, U = (chn S).reverse := ⟨_, rfl⟩
  rw [← hU] at ho1
  have hU2 : 2 ≤ U.length := by have := chn_two H1.out.1; rw [hU]; simpa using this
  have HUE := Lib.hid hU
  obtain ⟨gu, cu, rfl, hru, hgu, hcu, hbu, _⟩ := own_someV ho1 (by omega)
  clear hU
  have HRU := Lib.hid hru; have HGU := Lib.hid (And.intro hgu hcu)
  clear ho1 hb2 hru hgu hcu hbu
  go_wp2_with fail
  refine (backv_any _ _ _ _).mono ?_
  rintro e w3 ⟨rfl, hw3⟩
  have hb3 : Below w2.heap.size w2 w3 := by rw [hw3]; exact bl1 _ _
  have hx3 : Boxed w3 w2.heap.size 24 (.slice (some ⟨g, 0, none⟩) S.length c) := by rw [hw3]; exact Boxed.new _ _ _
  have hz3' : w2.heap.size < w3.heap.size := by rw [hw3]; simp
  have HC3 := Lib.hid (chain_any 78 w2.heap.size g 0 S (List.finRange S.length).reverse w3 (enters_of Tryz.func78 (by kernel_rfl) rfl) (back_seq w2.heap.size g 0 c S w3 (by have := H1.out; omega) (by have := H1.out; omega) (HR.out.keep (Below.thru K2.out K2.out.size hb3)) hx3) hz3' (by have := HG.out; have := K2.out.size; omega) H1.out.2 HS.out)
  have K3 := Lib.hid (Below.thru K2.out K2.out.size hb3)
  have HRU3 := Lib.hid (HRU.out.keep hb3)
  clear hw3 hb3 hx3 hz3'
  go_wp2_with fail
  refine HC3.out.mono ?_
  rintro e w4 ⟨⟨v3, rfl, ho3⟩, hb4⟩
  have K4 := Lib.hid (Below.thru K3.out K3.out.size hb4)
  rw [ptsF_rev] at ho3
  obtain ⟨D, hD⟩ : ∃ D, D = (chn S.reverse).reverse := ⟨_, rfl⟩
  rw [← hD] at ho3
  have hD2 : 2 ≤ D.length := by have := chn_two (S := S.reverse) (by simpa using H1.out.1); rw [hD]; simpa using this
  have HDE := Lib.hid hD
  obtain ⟨gd, cd, rfl, hrd, hgd, hcd, _⟩ := own_someV ho3 (by omega)
  clear hD
  have HRD := Lib.hid hrd
  have HRU4 := Lib.hid (HRU3.out.keep hb4)
  have hcu := HGU.out.2
  clear ho3 hb4 hrd hgd HC1 HC3 HRU HRU3
  have HHL := Lib.hid (hullL_eq S)
  have HSM := Lib.hid H1.out.2
  have hUe : (chn S).length = U.length := by rw [HUE.out]; simp
  have hDe : (chn S.reverse).length = D.length := by rw [HDE.out]; simp
  have hUl : U.length ≤ S.length := by rw [← hUe]; exact chn_len S
  have hDl : D.length ≤ S.length := by rw [← hDe]; have := chn_len S.reverse; rwa [List.length_reverse] at this
  rw [hUe, hDe, ← HUE.out, ← HDE.out] at HHL
  clear hUe hDe
  obtain ⟨u1, hu1⟩ : ∃ u, u = U.length - 1 := ⟨_, rfl⟩
  obtain ⟨d1, hd1⟩ : ∃ u, u = D.length - 1 := ⟨_, rfl⟩
  have e1 : IntKind.i64.wrap ((U.length : Int) - 1) = (u1 : Int) := by rw [IntKind.wrap_i64]; have := HSM.out; omega
  have e2 : IntKind.i64.wrap ((D.length : Int) - 1) = (d1 : Int) := by rw [IntKind.wrap_i64]; have := HSM.out; omega
  rw [← hu1, ← hd1] at HHL
  have hc1 : u1 ≤ cu := by omega
  have hc2 : d1 ≤ cd := by omega
  have HLE : Hid (u1 ≤ U.length ∧ d1 ≤ D.length ∧ 1 ≤ d1 ∧ u1 + d1 ≤ 2000) := by have := HSM.out; exact ⟨by omega, by omega, by omega, by omega⟩
  have HUC := Lib.hid (row_cls HRU4.out u1 HLE.out.1)
  have HDC := Lib.hid (row_cls HRD.out d1 HLE.out.2.1)
  have lu : (cls (U.take u1)).length = u1 * 2 := by rw [cls_length, List.length_take]; have := HLE.out; omega
  have ld : (cls (D.take d1)).length = d1 * 2 := by rw [cls_length, List.length_take]; have := HLE.out; omega
  clear hu1 hd1 hcu hcd hU2 hD2 hUl hDl HUE HDE
  go_upto_region 5 with fail
  go_cut [2] (fun v wc => ∃ q m cc, v = .slice q m cc ∧ Hid (Own wc w.heap.size (.slice q m cc) (hullL S)) ∧ Hid (Below w.heap.size w wc))
  case first =>
    rename_i J K' hJ hK
    refine wp_region_aldz D5z (tab5z gu U.length cu u1 gd D.length cd d1 w.heap.size (hullL S)) (fun _ => false) 8 (fun _ _ w' => Below w4.heap.size w4 w') (by kernel_rfl) (by kernel_rfl) (by kernel_rfl) (by kernel_rfl) (by decide) (by kernel_rfl) (fun i f f' w' w'' hI hb _ => Below.thru hI hI.size hb) (by kernel_rfl) (fun f => (Below.refl _ _).drew) ?_ ?_ ?_
    · refine .cons (fun j f w' hj hI hs => ⟨wanted_none rfl, _, rfl, .val (rn_move rfl) ⟨⟨Below.refl _ _, fr_old rfl rfl⟩, (fun h => by cases h)⟩⟩) ?_
      refine .cons (fun j f w' hj hI hs => ⟨wanted_none rfl, _, rfl, .val (rn_move rfl) ⟨⟨Below.refl _ _, fr_old rfl rfl⟩, (fun h => by cases h)⟩⟩) ?_
      refine .cons (fun j f w' hj hI hs => ⟨wanted_none rfl, _, rfl, .val (rn_move rfl) ⟨⟨Below.refl _ _, fr_old rfl rfl⟩, (fun h => by cases h)⟩⟩) ?_
      refine .cons (fun j f w' hj hI hs => ⟨wanted_none rfl, _, rfl, .val (rn_slice49 rfl ((fr_own rfl rfl).trans (hs 22 (by kernel_rfl))) ((fr_own rfl rfl).trans (hs 23 (by kernel_rfl))) ((fr_own rfl rfl).trans (hs 24 (by kernel_rfl))) hc1) ⟨⟨Below.refl _ _, rfl⟩, (fun h => by cases h)⟩⟩) ?_
      refine .cons (fun j f w' hj hI hs => ⟨wanted_none rfl, _, rfl, .val (rn_move rfl) ⟨⟨Below.refl _ _, fr_old rfl rfl⟩, (fun h => by cases h)⟩⟩) ?_
      refine .cons (fun j f w' hj hI hs => ⟨wanted_none rfl, _, rfl, .val (rn_move rfl) ⟨⟨Below.refl _ _, fr_old rfl rfl⟩, (fun h => by cases h)⟩⟩) ?_
      refine .cons (fun j f w' hj hI hs => ⟨wanted_none rfl, _, rfl, .val (rn_move rfl) ⟨⟨Below.refl _ _, fr_old rfl rfl⟩, (fun h => by cases h)⟩⟩) ?_
      refine .cons (fun j f w' hj hI hs => ⟨wanted_none rfl, _, rfl, .val (rn_slice49 rfl ((fr_own rfl rfl).trans (hs 26 (by kernel_rfl))) ((fr_own rfl rfl).trans (hs 27 (by kernel_rfl))) ((fr_own rfl rfl).trans (hs 28 (by kernel_rfl))) hc2) ⟨⟨Below.refl _ _, rfl⟩, (fun h => by cases h)⟩⟩) .nil
    · refine .cons (fun f w' hI hs hne => ⟨wanted_none rfl, (fun d h => by rfl), ?_⟩) ?_
      · refine OpR.appendz rfl ((fr_own rfl rfl).trans (hs 25 (by kernel_rfl))) ((fr_own rfl rfl).trans (hs 29 (by kernel_rfl))) hi hz0 hz1 hz2 lu (row_cls (HRU4.out.keep hI) u1 HLE.out.1) ld (row_cls (HRD.out.keep hI) d1 HLE.out.2.1) (by have := HLE.out; omega) (by have := HLE.out; unfold maxLen; omega) (by have := HLE.out; omega) fun v' w9 r1 r2 => ?_
        have hb9 : Below w'.heap.size w' w9 := (Below.refl _ _).grown r2 (Nat.le_refl _) (fun r e => by cases e)
        refine ⟨⟨Below.thru hI hI.size hb9, fun d v hk => tab5z_keep hb9 d v hk, fun d h => ?_⟩, hb9.size⟩
        cases h
        have r9 : Own w9 w'.heap.size v' (hullL S) := by
          show World.ownsRow _ _ _ _ _ _ _
          rw [HHL.out, List.length_append, List.length_take, List.length_take, Nat.min_eq_left HLE.out.1, Nat.min_eq_left HLE.out.2.1, cls_append]
          exact r1
        exact r9.base (Nat.le_trans K4.out.size hI.size)
      refine .cons (fun f w' hI hs hne => ⟨wanted_none rfl, (fun d h => by rfl), ?_⟩) .nil
      have h30 : Own w' w.heap.size (f 30) (hullL S) := (hs 30 (by kernel_rfl))
      exact .inl ⟨_, _, rn_assign rfl, ⟨hI, fun d v hk => hk, (fun d h => by cases h; exact Eq.mpr (congrArg (fun u => Own w' w.heap.size u (hullL S)) (fr_own rfl rfl)) h30)⟩, Nat.le_refl _⟩
    · intro f w' hI hs
      have h2 : Own w' w.heap.size (f 2) (hullL S) := (hs 2 (by kernel_rfl))
      obtain ⟨q, m, cc, e2⟩ := own_form h2
      rw [e2] at h2
      refine hK _ _ (Met.intro (hJ _ _ ?_))
      (repeat apply Exists.intro)
      refine ⟨⟨_, _, _, e2, h2, Below.thru K4.out K4.out.size hI⟩, rfl⟩
  obtain ⟨q, m, cc, rfl, HF, HB9⟩ := hcut
  go_wp2
  go_ret
  exact ⟨⟨_, rfl, HF.out⟩, HB9.out⟩
end Go.Proofs.YtljmhejljpfaiaaGreat

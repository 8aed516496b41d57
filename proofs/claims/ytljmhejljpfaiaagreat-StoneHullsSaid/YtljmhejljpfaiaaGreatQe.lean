import Derived.Test.YtljmhejljpfaiaaGreatQd
import Derived.Test.YtljmhejljpfaiaaGreatQa
import Derived.Test.YtljmhejljpfaiaaGreatBw
namespace Go.Proofs.YtljmhejljpfaiaaGreat
set_option maxRecDepth 100000
open Go.RowKit Go.Shelf
attribute [local go_sem] Oper.semAt_some

/-! chain's closure: a point is added to the chain -/
theorem own_laterz {w w' : World} {base : Nat} {v : Value} {l : List Pt} (h : Own w base v l) (hb : Below w.heap.size w w') : Own w' base v l := by
  obtain ⟨h1, h2 | ⟨g, cap, cur, e1, hg0, hg, h3⟩⟩ := h
  · exact ⟨h1, .inl h2⟩
  · exact ⟨h1, .inr ⟨g, cap, cur, e1, hg0, (hb.block g (Array.getElem?_eq_some_iff.1 hg).1).trans hg, h3⟩⟩
theorem own_popz {w : World} {base g cap : Nat} {l : List Pt} {q : Pt} (h : Own w base (.slice (some ⟨g, 0, none⟩) (l.length + 1) cap) (l ++ [q])) : Own w base (.slice (some ⟨g, 0, none⟩) l.length cap) l := by
  obtain ⟨_, ⟨h2, _⟩ | ⟨g', cap', cur, e1, hg0, hg, hn, hc, hs, ht⟩⟩ := h
  · cases h2
  · injection e1 with e2 e3 e4
    cases e2
    subst e4
    refine ⟨cls_length l, .inr ⟨g, cap, cur, rfl, hg0, hg, by simp at hn; omega, hc, hs, ?_⟩⟩
    rw [List.length_append, List.length_singleton] at ht
    have h3 : (cur.toList.take ((l.length + 1) * 2)).take (l.length * 2) = (cls (l ++ [q])).take (l.length * 2) := by rw [ht]
    rw [List.take_take, Nat.min_eq_left (by omega), cls_snoc, ← cls_length l, List.take_left'  rfl] at h3
    rw [← cls_length l]
    exact h3
theorem own_someV {w : World} {base : Nat} {v : Value} {l : List Pt} (h : Own w base v l) (h0 : 0 < l.length) : ∃ g c, v = .slice (some ⟨g, 0, none⟩) l.length c ∧ Row w g 0 l ∧ g < w.heap.size ∧ l.length ≤ c ∧ base ≤ g ∧ ∃ cur, w.heap[g]? = some (.cells cur 37 (0, 0)) := by
  have hr := h.row
  obtain ⟨_, ⟨rfl, h2⟩ | ⟨g, cap, cur, e1, hg0, hg, hn, hc, hs, ht⟩⟩ := h
  · omega
  · rcases hr with ⟨_, hl⟩ | ⟨g', c', e, hr, _⟩
    · rw [hl] at h0; simp at h0
    · rw [e] at e1; cases e1
      exact ⟨g, cap, e, hr, (Array.getElem?_eq_some_iff.1 hg).1, hn, hg0, cur, hg⟩
theorem own_setz {w : World} {base T : Nat} {v u u' : Value} {l : List Pt} (h : Own w base v l) (hb : Boxed w T 49 u) : Own (w.setCell ⟨T, 0, none⟩ u') base v l :=
  own_of h fun g cap _ ⟨cur, hg⟩ => Below.heap_setCell _ _ _ _ (by
    rintro rfl
    have h2 : w.heap[g]? = some (.cells #[u] 49 (0, 0)) := hb
    rw [hg] at h2
    cases h2)
theorem sane_one {W : World} {T base : Nat} {t : TypeId} {v : Value} {l : List Pt} (hb : Boxed W T t v) (ho : Own W base v l) : Sane [T] W := fun B hB => by
  simp at hB; subst hB
  refine ⟨hb.lt, fun k n c hq => ?_⟩
  rw [hb.cell] at hq
  rcases ho.2 with ⟨rfl, _⟩ | ⟨g, cap, cur, rfl, _, hg, _⟩
  · cases hq
  · cases hq; exact (Array.getElem?_eq_some_iff.1 hg).1
/-- the box is given a shorter slice of the same row -/
theorem KO.setBox {B T : Nat} {t : TypeId} {W : World} {g n n' c c' : Nat} (hv : Boxed W T t (.slice (some ⟨g, 0, none⟩) n c)) (hTB : T < B) : KO B [T] W (W.setCell ⟨T, 0, none⟩ (.slice (some ⟨g, 0, none⟩) n' c')) := by
  have hb2 := hv.set (.slice (some ⟨g, 0, none⟩) n' c')
  have far : ∀ k, k ≠ T → (W.setCell ⟨T, 0, none⟩ (.slice (some ⟨g, 0, none⟩) n' c')).heap[k]? = W.heap[k]? := fun k hk => Below.heap_setCell _ _ _ _ hk
  refine ⟨by simp [World.setCell], fun k cur U u hk _ h => (far k (by simpa using hk)).trans h, fun k o hk _ h => (far k (by omega)).trans h, fun k _ hn ho => ?_, fun hs b hb => ?_⟩
  · obtain ⟨⟨b, m, d, hbb, hq⟩, cur, U, u, hu⟩ := ho
    simp at hbb; subst hbb
    rw [hb2.cell] at hq
    cases hq
    refine hn ⟨⟨b, n, c, by simp, hv.cell⟩, ?_⟩
    by_cases e : g = b
    · subst e; exact ⟨_, _, _, hv⟩
    · exact ⟨cur, U, u, (far g e).symm.trans hu⟩
  · simp at hb; subst hb
    refine ⟨by simpa [World.setCell] using hv.lt, fun k m d hq => ?_⟩
    rw [hb2.cell] at hq
    cases hq
    have := (hs b (by simp)).2 g n c hv.cell
    simpa [World.setCell] using this
theorem wpList_append_own_at {P : Program} (w : World) {ops : Array Oper} {rest : List Oper} {o : Oper} {a : Act} {Q : Exit → Act → World → Prop}
    (hg : o.guard = none) (s x : Operand) (t : TypeId) (hop : o.op = Op.call { callee := Callee.builtin Builtin.append, args := #[s, x], argTypes := #[t, t] })
    (base : Nat) (e : TypeId) (i : TypeInfo) (z : Value) (size bytes : Nat) (h1 : P.underlying t = some (.slice e)) (h2 : P.info? e = some i) (h3 : i.zero = some z) (h4 : i.size = size) (h5 : i.bytes = bytes) (h6 : z.cells.size = size) (h7 : 0 < size)
    (v : Value) (k : Nat) (xs : List Value) (hs : a.eval s = v) (hown : w.ownsRow base e size v k xs) (ad : Addr) (m c : Nat) (news : List Value) (hx : a.eval x = .slice (some ad) m c) (hn : news.length = m * size)
    (hc : ∀ j u, news[j]? = some u → w.cell? (ad.add j) = some u) (h1c : ∀ u ∈ news, u.oneCell' = true) (b1 : k + m ≤ maxLen) (b2 : (k + m) * bytes ≤ 140737488355328) (b3 : base ≤ w.heap.size)
    (hK : ∀ v' w', w'.ownsRow base e size v' (k + m) (xs ++ news) → w.grownBy w' v.ownBlock → (v'.ownBlock = v.ownBlock ∨ v'.ownBlock = some w.heap.size) → wpList P ops Q rest (a.put o.dst v') w') :
    wpList P ops Q (o :: rest) a w := by
  refine wpList_plain hg fun K hK' => ?_
  obtain ⟨v', w', hrun, r1, r2, _, r4⟩ := run_append_own_at (P := P) (w := w) base t o.type e i z size bytes h1 h2 h3 h4 h5 h6 h7 v k xs hown ad m c news hn hc h1c b1 b2 b3
  unfold Oper.wp
  simp [execOp, hop, resolve, invoke, builtin, hs, hx, hrun, Result.andThen]
  exact hK' _ _ (hK v' w' r1 r2 r4)
set_option maxHeartbeats 8000000 in
theorem add_any (T base B : Nat) (st : List Pt) (x z : Int) (v : Value) (w : World) (hb : Boxed w T 49 v) (ho : Own w base v st.reverse) (hbT : base ≤ T) (hTB : T < B) (hbw : base ≤ w.heap.size) (hlen : st.length ≤ 1000) (hsm : ∀ q, q ∈ st → Sm q.1 ∧ Sm q.2) (hx : Sm x) (hz : Sm z) :
    Calls Tryz.prog 75 #[.agg #[.int .i64 x, .int .i64 z], .pointer (some ⟨T, 0, none⟩)] w fun e w' => e = .returned (.tuple #[]) ∧ (∃ v', Boxed w' T 49 v' ∧ Own w' base v' (addC st (x, z)).reverse) ∧ KO B [T] w w' ∧ Below base w w' := by
  obtain ⟨i0, hi, hz0, hz1, hz2⟩ := info_parts Tryz.info37
  have HSM := Lib.hid hsm; have HTB := Lib.hid hTB; have HBT := Lib.hid hbT; have HBW := Lib.hid hbw
  have HX := Lib.hid (And.intro hx hz)
  have b1 := bl1 w (.cells #[.int .i64 x, .int .i64 z] 37)
  have H0 := Lib.hid (And.intro (hb.alloc (.cells #[.int .i64 x, .int .i64 z] 37)) (own_laterz ho b1))
  have H1 := Lib.hid (And.intro (P2.new w x z) (And.intro (KO.of_below (B := B) b1 (sane_one hb ho)) (b1.mono hbw)))
  have hTw := Lib.hid hb.lt
  clear hb ho hbT hTB hbw hsm hx hz b1
  go_enter Tryz.func75, Tryz.ntmps75
  go_wp2
  generalize w.alloc (.cells #[.int .i64 x, .int .i64 z] 37) = w1 at *
  go_loopw [22] (fun _ wr => ∃ (st1 : List Pt) (v1 : Value), st1.length ≤ 1000 ∧ Hid (popC st1 (x, z) = popC st (x, z) ∧ ∀ q, q ∈ st1 → q ∈ st) ∧ Hid (Boxed wr T 49 v1) ∧ Hid (Own wr base v1 st1.reverse) ∧ Hid (P2 w.heap.size x z wr) ∧ Hid (KO B [T] w wr) ∧ Hid (Below base w wr)) (fun _ wr => match wr.cell? ⟨T, 0, none⟩ with | some (.slice _ n _) => n | _ => 0)
  case atStart => exact ⟨st, v, hlen, ⟨rfl, fun q h => h⟩, H0.out.1, H0.out.2, H1.out.1, H1.out.2.1, H1.out.2.2⟩
  case round =>
    obtain ⟨st1, v1, hl1, HPOP, HBX, HOW, HPX, HKO, HBE⟩ := hrel
    have cb := HBX.out.cell
    obtain ⟨p0, p1⟩ := HPX.out.cells
    match st1, hl1, HPOP, HOW with
    | [], _, HPOP, HOW =>
      obtain ⟨q, m, c, rfl⟩ := own_form HOW.out
      obtain rfl : m = 0 := by
        rcases HOW.out.2 with ⟨e, _⟩ | ⟨_, _, _, e, _⟩ <;> (cases e; rfl)
      have hstop : popC ([] : List Pt) (x, z) = [] := rfl
      obtain ⟨st1, hst1⟩ : ∃ s : List Pt, s = [] := ⟨_, rfl⟩
      rw [← hst1] at HPOP HOW hstop
      have hsl : st1.length = 0 := by rw [hst1]; rfl
      clear hst1
      have f1 := cell_regrown cb
      clear cb p0 p1
      go_wp2_with fail
      refine wp_region_quiet_below (by kernel_rfl) (by kernel_rfl) ?_
      repeat (any_goals (first | go_big_quiet_step (fail) | quiet_step (fail)))
      refine wpQuiet_nil ?_
      intro _ hw'
      obtain ⟨⟨dq, osq⟩, hw''⟩ := hw'
      subst hw''
      have k9 := below_regrown wr dq osq
      have HX9 : Hid (Boxed (Sort.grow (redrawn wr dq) osq) T 49 (.slice q 0 c)) := (k9.block T HBX.out.lt).trans HBX.out
      have HO9 : Hid (World.ownsRow (Sort.grow (redrawn wr dq) osq) base 37 2 (.slice q 0 c) st1.reverse.length (cls st1.reverse)) := own_laterz HOW.out k9
      have HK9 : Hid (KO B [T] w (Sort.grow (redrawn wr dq) osq)) := HKO.out.trans (KO.of_below k9 (sane_one HBX.out HOW.out))
      have HB9 : Hid (Below base w (Sort.grow (redrawn wr dq) osq)) := HBE.out.trans (k9.mono (Nat.le_trans HBW.out HBE.out.size))
      have HP9 : Hid (P2 w.heap.size x z (Sort.grow (redrawn wr dq) osq)) := HPX.out.below k9
      generalize Sort.grow (redrawn wr dq) osq = w9 at *
      have cb := HX9.out.cell
      have cf := HX9.out.frozen
      obtain ⟨p0, p1⟩ := HP9.out.cells
      have HL9 : Hid (base ≤ w9.heap.size) := Nat.le_trans HBW.out HB9.out.size
      clear f1
      go_wp2_with (at_builtin; refine wpList_append_own_at _ rfl (.tmp 28) (.tmp 30) 49 rfl base 37 i0 (.agg #[.int .i64 0, .int .i64 0]) 2 16 Tryz.underlying49' hi hz0 hz1 hz2 rfl (by decide) _ _ _ rfl (HO9.out.alloc _) ⟨w9.heap.size, 0, none⟩ 1 1 [.int .i64 x, .int .i64 z] rfl rfl two_new (by simp [Value.oneCell']) (by unfold maxLen; simp; omega) (by simp; omega) (by have := HL9.out; simp; omega) ?_; intro v' w8 hown' hgrow hob; obtain ⟨vp, vn, vc, rfl⟩ := own_form hown'; have H9 := Lib.hid (And.intro hown' (And.intro hgrow hob)); have hb9 := ((HX9.out.alloc _).kept hgrow (HX9.out.not_row (by decide) HO9.out)); have c9 := hb9.cell; have f9 := hb9.frozen; clear hown' hgrow hob hb9 cb)
      obtain ⟨hown', hgrow, hob⟩ := H9.out
      obtain ⟨_, b2, o2, _, bel⟩ := Boxed.appended (B := T) HX9.out (by decide) HO9.out HL9.out HBT.out hown' hgrow
      go_end0
      refine ⟨rfl, ⟨_, b2, ?_⟩, HK9.out.trans (KO.append HX9.out (by decide) HTB.out HO9.out hown' hgrow hob), HB9.out.trans bel⟩
      have ep : (addC st (x, z)).reverse = st1.reverse ++ [(x, z)] := by unfold addC; rw [← HPOP.out.1, hstop, List.reverse_cons]
      show World.ownsRow _ _ _ _ _ _ _
      rw [ep, List.length_append, cls_snoc]
      exact o2
    | [s], _, HPOP, HOW =>
      obtain ⟨g, c, rfl, _⟩ := own_someV HOW.out (by simp)
      have hstop : popC [s] (x, z) = [s] := rfl
      obtain ⟨st1, hst1⟩ : ∃ t : List Pt, t = [s] := ⟨_, rfl⟩
      rw [List.length_reverse, List.length_singleton] at HBX HOW cb
      rw [← hst1] at HPOP HOW hstop
      have hsl : st1.length = 1 := by rw [hst1]; rfl
      clear hst1
      have f1 := cell_regrown cb
      clear cb p0 p1
      go_wp2_with fail
      refine wp_region_quiet_below (by kernel_rfl) (by kernel_rfl) ?_
      repeat (any_goals (first | go_big_quiet_step (fail) | quiet_step (fail)))
      refine wpQuiet_nil ?_
      intro _ hw'
      obtain ⟨⟨dq, osq⟩, hw''⟩ := hw'
      subst hw''
      have k9 := below_regrown wr dq osq
      have HX9 : Hid (Boxed (Sort.grow (redrawn wr dq) osq) T 49 (.slice (some ⟨g, 0, none⟩) 1 c)) := (k9.block T HBX.out.lt).trans HBX.out
      have HO9 : Hid (World.ownsRow (Sort.grow (redrawn wr dq) osq) base 37 2 (.slice (some ⟨g, 0, none⟩) 1 c) st1.reverse.length (cls st1.reverse)) := own_laterz HOW.out k9
      have HK9 : Hid (KO B [T] w (Sort.grow (redrawn wr dq) osq)) := HKO.out.trans (KO.of_below k9 (sane_one HBX.out HOW.out))
      have HB9 : Hid (Below base w (Sort.grow (redrawn wr dq) osq)) := HBE.out.trans (k9.mono (Nat.le_trans HBW.out HBE.out.size))
      have HP9 : Hid (P2 w.heap.size x z (Sort.grow (redrawn wr dq) osq)) := HPX.out.below k9
      generalize Sort.grow (redrawn wr dq) osq = w9 at *
      have cb := HX9.out.cell
      have cf := HX9.out.frozen
      obtain ⟨p0, p1⟩ := HP9.out.cells
      have HL9 : Hid (base ≤ w9.heap.size) := Nat.le_trans HBW.out HB9.out.size
      clear f1
      go_wp2_with (at_builtin; refine wpList_append_own_at _ rfl (.tmp 28) (.tmp 30) 49 rfl base 37 i0 (.agg #[.int .i64 0, .int .i64 0]) 2 16 Tryz.underlying49' hi hz0 hz1 hz2 rfl (by decide) _ _ _ rfl (HO9.out.alloc _) ⟨w9.heap.size, 0, none⟩ 1 1 [.int .i64 x, .int .i64 z] rfl rfl two_new (by simp [Value.oneCell']) (by unfold maxLen; simp; omega) (by simp; omega) (by have := HL9.out; simp; omega) ?_; intro v' w8 hown' hgrow hob; obtain ⟨vp, vn, vc, rfl⟩ := own_form hown'; have H9 := Lib.hid (And.intro hown' (And.intro hgrow hob)); have hb9 := ((HX9.out.alloc _).kept hgrow (HX9.out.not_row (by decide) HO9.out)); have c9 := hb9.cell; have f9 := hb9.frozen; clear hown' hgrow hob hb9 cb)
      obtain ⟨hown', hgrow, hob⟩ := H9.out
      obtain ⟨_, b2, o2, _, bel⟩ := Boxed.appended (B := T) HX9.out (by decide) HO9.out HL9.out HBT.out hown' hgrow
      go_end0
      refine ⟨rfl, ⟨_, b2, ?_⟩, HK9.out.trans (KO.append HX9.out (by decide) HTB.out HO9.out hown' hgrow hob), HB9.out.trans bel⟩
      have ep : (addC st (x, z)).reverse = st1.reverse ++ [(x, z)] := by unfold addC; rw [← HPOP.out.1, hstop, List.reverse_cons]
      show World.ownsRow _ _ _ _ _ _ _
      rw [ep, List.length_append, cls_snoc]
      exact o2
    | b :: a :: t, hl1, HPOP, HOW =>
      obtain ⟨g, c, rfl, hrow, hg, hmc, _⟩ := own_someV HOW.out (by simp)
      have ra := hrow t.length (by first | (simp; done) | (simp; omega))
      have rb := hrow (t.length + 1) (by first | (simp; done) | (simp; omega))
      have ea : px (b :: a :: t).reverse t.length = a.1 ∧ pz (b :: a :: t).reverse t.length = a.2 := by
        have : (b :: a :: t).reverse.getD t.length (0, 0) = a := by simp
        unfold px pz; rw [this]; exact ⟨rfl, rfl⟩
      have eb : px (b :: a :: t).reverse (t.length + 1) = b.1 ∧ pz (b :: a :: t).reverse (t.length + 1) = b.2 := by
        have : (b :: a :: t).reverse.getD (t.length + 1) (0, 0) = b := by simp
        unfold px pz; rw [this]; exact ⟨rfl, rfl⟩
      rw [ea.1, ea.2] at ra
      rw [eb.1, eb.2] at rb
      have sa := HSM.out a (HPOP.out.2 a (by simp))
      have sb := HSM.out b (HPOP.out.2 b (by simp))
      have hlm : (b :: a :: t).reverse.length = t.length + 2 := by simp
      obtain ⟨m, hm⟩ : ∃ m, m = t.length := ⟨_, rfl⟩
      obtain ⟨m1, hm1⟩ : ∃ m1, m1 = m + 1 := ⟨_, rfl⟩
      obtain ⟨n2, hn2⟩ : ∃ n2, n2 = m + 2 := ⟨_, rfl⟩
      rw [hlm, ← hm, ← hn2] at HBX HOW cb hmc
      rw [← hm] at ra rb
      rw [← hm1] at rb
      have hl9 : m + 2 ≤ 1000 := by simp at hl1; omega
      have HSL : Hid (t.length = m ∧ m1 = m + 1 ∧ n2 = m + 2) := ⟨hm.symm, hm1, hn2⟩
      have hgm : 1 < (n2 : Int) := by omega
      have hi1 : m < n2 := by omega
      have hi2 : m1 < n2 := by omega
      have e1 : IntKind.i64.wrap ((n2 : Int) - 2) = (m : Int) := by rw [IntKind.wrap_i64]; omega
      have e1' : wrap64 ((n2 : Int) - 2) = (m : Int) := by have h := e1; rw [IntKind.wrap_i64] at h; unfold wrap64; omega
      have e2 : IntKind.i64.wrap ((n2 : Int) - 1) = (m1 : Int) := by rw [IntKind.wrap_i64]; omega
      have e2' : wrap64 ((n2 : Int) - 1) = (m1 : Int) := by have h := e2; rw [IntKind.wrap_i64] at h; unfold wrap64; omega
      clear hm hm1 hn2 hlm ea eb hrow
      rw [Nat.zero_add] at ra rb
      obtain ⟨ra0, ra1⟩ := ra
      obtain ⟨rb0, rb1⟩ := rb
      have HT := Lib.hid (quiet_below (fun w => turn_any a.1 a.2 b.1 b.2 x z w sa.1 sa.2 sb.1 sb.2 HX.out.1 HX.out.2))
      have hD : trn a.1 a.2 b.1 b.2 x z = D3 a b (x, z) := by unfold trn D3; grind
      rw [hD] at HT
      obtain ⟨D, hDe⟩ : ∃ D, D = D3 a b (x, z) := ⟨_, rfl⟩
      rw [← hDe] at HT
      have HDE := Lib.hid hDe
      clear hD hDe sa sb hl1
      have f1 := cell_regrown cb; have f2 := cell_regrown ra0; have f3 := cell_regrown ra1; have f4 := cell_regrown rb0; have f5 := cell_regrown rb1; have f6 := cell_regrown p0; have f7 := cell_regrown p1
      clear cb ra0 ra1 rb0 rb1 p0 p1
      by_cases hd : D ≤ 0
      · go_wp2_with fail
        refine wp_region_quiet_below (by kernel_rfl) (by kernel_rfl) ?_
        repeat (any_goals (first | go_big_quiet_step ((go_at_call 76; exact HT.out wr _ _)) | quiet_step ((go_at_call 76; exact HT.out wr _ _))))
        refine wpQuiet_nil ?_
        intro _ hw'
        obtain ⟨⟨dq, osq⟩, hw''⟩ := hw'
        subst hw''
        have HOW2 := HOW
        obtain ⟨st1, hst1⟩ : ∃ s : List Pt, s = b :: a :: t := ⟨_, rfl⟩
        rw [← hst1] at HOW
        have k9 := below_regrown wr dq osq
        have HX9 : Hid (Boxed (Sort.grow (redrawn wr dq) osq) T 49 (.slice (some ⟨g, 0, none⟩) n2 c)) := (k9.block T HBX.out.lt).trans HBX.out
        have HO9 : Hid (World.ownsRow (Sort.grow (redrawn wr dq) osq) base 37 2 (.slice (some ⟨g, 0, none⟩) n2 c) st1.reverse.length (cls st1.reverse)) := own_laterz HOW.out k9
        have HK9 : Hid (KO B [T] w (Sort.grow (redrawn wr dq) osq)) := HKO.out.trans (KO.of_below k9 (sane_one HBX.out HOW.out))
        have HB9 : Hid (Below base w (Sort.grow (redrawn wr dq) osq)) := HBE.out.trans (k9.mono (Nat.le_trans HBW.out HBE.out.size))
        have HP9 : Hid (P2 w.heap.size x z (Sort.grow (redrawn wr dq) osq)) := HPX.out.below k9
        generalize Sort.grow (redrawn wr dq) osq = w9 at *
        have cb := HX9.out.cell
        have cf := HX9.out.frozen
        obtain ⟨p0, p1⟩ := HP9.out.cells
        have HL9 : Hid (base ≤ w9.heap.size) := Nat.le_trans HBW.out HB9.out.size
        clear f1 f2 f3 f4 f5 f6 f7
        go_wp2
        go_roundw
        case rel =>
          rw [hst1] at HO9
          have hrev : (b :: a :: t).reverse = (a :: t).reverse ++ [b] := List.reverse_cons
          have hO : Own w9 base (.slice (some ⟨g, 0, none⟩) ((a :: t).reverse.length + 1) c) ((a :: t).reverse ++ [b]) := by
            have h := HO9.out
            rw [hrev] at h
            have e : (a :: t).reverse.length + 1 = n2 := by simp; have := HSL.out; omega
            rw [e]; exact h
          have hO2 := own_popz hO
          have e : (a :: t).reverse.length = m1 := by simp; have := HSL.out; omega
          rw [e] at hO2
          refine ⟨a :: t, _, by simp; have := HSL.out; omega, ⟨?_, fun q hq => HPOP.out.2 q (List.mem_cons_of_mem _ hq)⟩, HX9.out.set _, own_setz hO2 HX9.out, ?_, HK9.out.trans (KO.setBox HX9.out HTB.out), HB9.out.setCell HBT.out _⟩
          · rw [← HPOP.out.1]
            show _ = if D3 a b (x, z) ≤ 0 then popC (a :: t) (x, z) else _
            rw [if_pos (by rw [← HDE.out]; exact hd)]
          · exact (Below.heap_setCell _ _ _ _ (by have := hTw.out; show w.heap.size ≠ T; omega)).trans HP9.out
        case measure =>
          rw [(HX9.out.set _).cell, HBX.out.cell]
          show m1 < n2
          exact hi2
      · go_wp2_with fail
        refine wp_region_quiet_below (by kernel_rfl) (by kernel_rfl) ?_
        repeat (any_goals (first | go_big_quiet_step ((go_at_call 76; exact HT.out wr _ _)) | quiet_step ((go_at_call 76; exact HT.out wr _ _))))
        refine wpQuiet_nil ?_
        intro _ hw'
        obtain ⟨⟨dq, osq⟩, hw''⟩ := hw'
        subst hw''
        have hstop : popC (b :: a :: t) (x, z) = b :: a :: t := by
          show (if D3 a b (x, z) ≤ 0 then _ else _) = _
          rw [if_neg (by rw [← HDE.out]; omega)]
        have hsl : (b :: a :: t).length ≤ 1002 := by simp [HSL.out.1]; omega
        obtain ⟨st1, hst1⟩ : ∃ s : List Pt, s = b :: a :: t := ⟨_, rfl⟩
        rw [← hst1] at HPOP HOW hstop hsl
        clear hst1
        have k9 := below_regrown wr dq osq
        have HX9 : Hid (Boxed (Sort.grow (redrawn wr dq) osq) T 49 (.slice (some ⟨g, 0, none⟩) n2 c)) := (k9.block T HBX.out.lt).trans HBX.out
        have HO9 : Hid (World.ownsRow (Sort.grow (redrawn wr dq) osq) base 37 2 (.slice (some ⟨g, 0, none⟩) n2 c) st1.reverse.length (cls st1.reverse)) := own_laterz HOW.out k9
        have HK9 : Hid (KO B [T] w (Sort.grow (redrawn wr dq) osq)) := HKO.out.trans (KO.of_below k9 (sane_one HBX.out HOW.out))
        have HB9 : Hid (Below base w (Sort.grow (redrawn wr dq) osq)) := HBE.out.trans (k9.mono (Nat.le_trans HBW.out HBE.out.size))
        have HP9 : Hid (P2 w.heap.size x z (Sort.grow (redrawn wr dq) osq)) := HPX.out.below k9
        generalize Sort.grow (redrawn wr dq) osq = w9 at *
        have cb := HX9.out.cell
        have cf := HX9.out.frozen
        obtain ⟨p0, p1⟩ := HP9.out.cells
        have HL9 : Hid (base ≤ w9.heap.size) := Nat.le_trans HBW.out HB9.out.size
        clear f1 f2 f3 f4 f5 f6 f7
        go_wp2_with (at_builtin; refine wpList_append_own_at _ rfl (.tmp 28) (.tmp 30) 49 rfl base 37 i0 (.agg #[.int .i64 0, .int .i64 0]) 2 16 Tryz.underlying49' hi hz0 hz1 hz2 rfl (by decide) _ _ _ rfl (HO9.out.alloc _) ⟨w9.heap.size, 0, none⟩ 1 1 [.int .i64 x, .int .i64 z] rfl rfl two_new (by simp [Value.oneCell']) (by unfold maxLen; simp; omega) (by simp; omega) (by have := HL9.out; simp; omega) ?_; intro v' w8 hown' hgrow hob; obtain ⟨vp, vn, vc, rfl⟩ := own_form hown'; have H9 := Lib.hid (And.intro hown' (And.intro hgrow hob)); have hb9 := ((HX9.out.alloc _).kept hgrow (HX9.out.not_row (by decide) HO9.out)); have c9 := hb9.cell; have f9 := hb9.frozen; clear hown' hgrow hob hb9 cb)
        obtain ⟨hown', hgrow, hob⟩ := H9.out
        obtain ⟨_, b2, o2, _, bel⟩ := Boxed.appended (B := T) HX9.out (by decide) HO9.out HL9.out HBT.out hown' hgrow
        go_end0
        refine ⟨rfl, ⟨_, b2, ?_⟩, HK9.out.trans (KO.append HX9.out (by decide) HTB.out HO9.out hown' hgrow hob), HB9.out.trans bel⟩
        have ep : (addC st (x, z)).reverse = st1.reverse ++ [(x, z)] := by unfold addC; rw [← HPOP.out.1, hstop, List.reverse_cons]
        show World.ownsRow _ _ _ _ _ _ _
        rw [ep, List.length_append, cls_snoc]
        exact o2
end Go.Proofs.YtljmhejljpfaiaaGreat

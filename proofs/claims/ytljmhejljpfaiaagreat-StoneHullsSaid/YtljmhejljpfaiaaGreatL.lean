import Derived.Test.YtljmhejljpfaiaaGreatK
import Derived.StillTailTactics
import Derived.Maps.AppendAt
import Derived.Deep.RegionLaw
namespace Go.Proofs.YtljmhejljpfaiaaGreat
set_option maxRecDepth 100000
set_option maxRecDepth 100000
open Go.RowKit

/-- the cells of points -/
def cls (l : List Pt) : List Value := l.flatMap fun p => [.int .i64 p.1, .int .i64 p.2]
theorem cls_nil : cls [] = [] := rfl
theorem cls_snoc (l : List Pt) (p : Pt) : cls (l ++ [p]) = cls l ++ [.int .i64 p.1, .int .i64 p.2] := by unfold cls; rw [List.flatMap_append]; rfl
theorem cls_length (l : List Pt) : (cls l).length = l.length * 2 := by
  induction l with
  | nil => rfl
  | cons p l ih =>
    have e : cls (p :: l) = .int .i64 p.1 :: .int .i64 p.2 :: cls l := rfl
    rw [e, List.length_cons, List.length_cons, ih, List.length_cons]; omega
theorem cls_get (l : List Pt) : ∀ i, i < l.length → (cls l)[i * 2]? = some (.int .i64 (px l i)) ∧ (cls l)[i * 2 + 1]? = some (.int .i64 (pz l i)) := by
  induction l with
  | nil => intro i h; simp at h
  | cons p l ih =>
    intro i hi
    cases i with
    | zero => exact ⟨rfl, rfl⟩
    | succ i =>
      have := ih i (by simpa using hi)
      rw [show (i + 1) * 2 = i * 2 + 1 + 1 by omega]
      exact this
theorem take_snoc (l : List Pt) (k : Nat) (h : k < l.length) : l.take (k + 1) = l.take k ++ [(px l k, pz l k)] := by
  rw [List.take_succ_eq_append_getElem h]
  unfold px pz
  rw [List.getD_eq_getElem?_getD, List.getElem?_eq_getElem h]
  rfl
/-- a row of points of one's own -/
def Own (w : World) (base : Nat) (v : Value) (l : List Pt) : Prop := w.ownsRow base 37 2 v l.length (cls l)
theorem Own.row {w : World} {base : Nat} {v : Value} {l : List Pt} (h : Own w base v l) : (v = .slice none 0 0 ∧ l = []) ∨ ∃ g c, v = .slice (some ⟨g, 0, none⟩) l.length c ∧ Row w g 0 l ∧ base ≤ g ∧ g < w.heap.size := by
  obtain ⟨_, ⟨rfl, h0⟩ | ⟨g, cap, cur, rfl, hb, hg, hc, hm, hs, ht⟩⟩ := h
  · exact .inl ⟨rfl, List.length_eq_zero_iff.1 h0⟩
  · refine .inr ⟨g, cap, rfl, fun i hi => ?_, hb, (Array.getElem?_eq_some_iff.1 hg).1⟩
    have get : ∀ j u, j < l.length * 2 → (cls l)[j]? = some u → w.cell? ⟨g, j, none⟩ = some u := fun j u hj hu => by
      rw [← ht, List.getElem?_take_of_lt hj] at hu
      unfold World.cell?
      dsimp only
      rw [hg]
      simpa using hu
    have := cls_get l i hi
    exact ⟨by rw [Nat.zero_add]; exact get _ _ (by omega) this.1, by rw [Nat.zero_add]; exact get _ _ (by omega) this.2⟩
theorem Own.pts {w : World} {base : Nat} {v : Value} {l : List Pt} (h : Own w base v l) (hl : l.length ≤ 4611686018427387904) : Pts w v l := by
  rcases h.row with ⟨rfl, rfl⟩ | ⟨g, c, rfl, hr, _, hg⟩
  · exact ⟨hl, none, 0, rfl, .inl rfl⟩
  · exact ⟨hl, _, c, rfl, .inr ⟨g, 0, rfl, hr, hg⟩⟩
theorem Tryz.info37 : (Tryz.prog.info? 37).map (fun i => (i.zero, i.size, i.bytes)) = some (some (.agg #[.int .i64 0, .int .i64 0]), 2, 16) := by kernel_rfl
theorem two_new {w : World} {x z : Value} {T : TypeId} : ∀ j u, ([x, z] : List Value)[j]? = some u → (w.alloc (.cells #[x, z] T)).cell? ((⟨w.heap.size, 0, none⟩ : Addr).add j) = some u := fun j u h => by
  match j, h with
  | 0, h => simp at h; subst h; simp [Addr.add, go_sem]
  | 1, h => simp at h; subst h; simp [Addr.add, go_sem]
/-- append to a row of one's own, as one step of a region that draws -/
theorem step_append_own {P : Program} {ops : Array Oper} {o : Oper} {a : Act} {w : World} {K : Act → World → Prop} {Q : Exit → Act → World → Prop} {E : Prop}
    (hg : o.guard = none) (s x : Operand) (t : TypeId) (hop : o.op = Op.call { callee := Callee.builtin Builtin.append, args := #[s, x], argTypes := #[t, t] })
    (base : Nat) (e : TypeId) (i : TypeInfo) (z : Value) (size bytes : Nat) (h1 : P.underlying t = some (.slice e)) (h2 : P.info? e = some i) (h3 : i.zero = some z) (h4 : i.size = size) (h5 : i.bytes = bytes) (h6 : z.cells.size = size) (h7 : 0 < size)
    (v : Value) (n : Nat) (xs : List Value) (hs : a.eval s = v) (hown : w.ownsRow base e size v n xs)
    (ad : Addr) (m c : Nat) (news : List Value) (hx : a.eval x = .slice (some ad) m c) (hn : news.length = m * size) (hc : ∀ j u, news[j]? = some u → w.cell? (ad.add j) = some u) (h1c : ∀ u ∈ news, u.oneCell' = true)
    (b1 : n + m ≤ maxLen) (b2 : (n + m) * bytes ≤ 140737488355328) (hbase : base ≤ w.heap.size)
    (hK : ∀ v' w', w'.ownsRow base e size v' (n + m) (xs ++ news) → w.grownBy w' v.ownBlock → (v' = .slice none 0 0 ↔ v = .slice none 0 0 ∧ m = 0) → K (a.put o.dst v') w') :
    if Region.wanted o (yielded ops a.tmps) = true then Oper.wp P o a w K Q else E := by
  have hw : Region.wanted o (yielded ops a.tmps) = true := by simp [Region.wanted, hg]
  rw [if_pos hw]
  obtain ⟨v', w', hrun, r1, r2, r3⟩ := run_append_own (P := P) w base t o.type e i z size bytes h1 h2 h3 h4 h5 h6 h7 v n xs hown ad m c news hn hc h1c b1 b2 hbase
  unfold Oper.wp
  simp [execOp, hop, resolve, invoke, builtin, hs, hx, hrun, Result.andThen]
  exact hK v' w' r1 r2 r3
set_option maxHeartbeats 1000000 in
theorem points_any (p : Option Addr) (b o c : Nat) (l : List Pt) (w : World) (hp : l ≠ [] → p = some ⟨b, o, none⟩) (hr : Row w b o l) (hm : l.length ≤ 1000000) :
    Calls Tryz.prog 5 #[.slice p l.length c] w fun e w' => (∃ v, e = .returned v ∧ Own w' w.heap.size v l) ∧ Below w.heap.size w w' := by
  obtain ⟨i0, hi, hz0, hz1, hz2⟩ := info_parts Tryz.info37
  have HR := Lib.hid hr; have HP := Lib.hid hp
  obtain ⟨n, hn⟩ : ∃ n, n = l.length := ⟨_, rfl⟩
  rw [← hn] at hm ⊢
  have HN := Lib.hid hn
  clear hr hn hp
  go_enter Tryz.func5, Tryz.ntmps5
  go_wp2
  go_loopw [4, 3] (fun i v wr => ∃ k : Nat, k ≤ n ∧ i = .int .i64 k ∧ wr.ownsRow w.heap.size 37 2 v k (cls (l.take k)) ∧ Below w.heap.size w wr) (fun i _ _ => n - (intOf i).toNat)
  case atStart => exact ⟨0, Nat.zero_le _, rfl, World.ownsRow_nil _ _ _ _, Below.refl _ _⟩
  case round =>
    obtain ⟨k, hk, rfl, hown, hB⟩ := hrel
    by_cases hlt : k < n
    · obtain rfl : p = some ⟨b, o, none⟩ := HP.out (fun e => by have := HN.out; rw [e] at this; simp at this; omega)
      have hrow := HR.out.keep hB
      obtain ⟨ck, cz⟩ := hrow k (by rw [← HN.out]; exact hlt)
      clear hrow
      have HS := Lib.hid (take_snoc l k (by rw [← HN.out]; exact hlt))
      generalize px l k = x at *
      generalize pz l k = z at *
      go_wp2
      replace hown : wr.drew.ownsRow w.heap.size 37 2 u3 k (cls (l.take k)) := hown
      replace hB : Below w.heap.size w wr.drew := hB.drew
      go_region_law (refine step_append_own rfl (.tmp 11) (.tmp 23) 24 rfl w.heap.size 37 i0 (.agg #[.int .i64 0, .int .i64 0]) 2 16 Tryz.underlying24 hi hz0 hz1 hz2 rfl (by decide) _ _ _ rfl (hown.alloc _) ⟨wr.heap.size, 0, none⟩ 1 1 [.int .i64 x, .int .i64 z] rfl rfl two_new (by simp [Value.oneCell']) (by unfold maxLen; omega) (by omega) (by have := hB.size; simp at this; simp; omega) ?_; intro v' w1 hown' hgrow _)
      all_goals
        have hB2 : Below w.heap.size w w1 := (hB.alloc hB.size _).grown hgrow (by have := hB.size; simp at this; simp; omega) (fun r e => (hown.lt r e).1)
        rw [show cls (l.take k) ++ [.int .i64 x, .int .i64 z] = cls (l.take (k + 1)) by rw [HS.out, cls_snoc]] at hown'
        go_wp2
        go_roundw
        case rel => exact ⟨k + 1, by omega, by go_num, hown', hB2⟩
        case measure => simp [intOf]; omega
    · obtain rfl : k = n := by omega
      go_wp2
      go_ret
      refine ⟨⟨_, rfl, ?_⟩, hB⟩
      rw [HN.out, List.take_length] at hown
      exact hown
end Go.Proofs.YtljmhejljpfaiaaGreat

import Derived.Test.YtljmhejljpfaiaaGreatQb
namespace Go.Proofs.YtljmhejljpfaiaaGreat
open Go.RowKit

/-! plain mathematics: the border that the program lists -/
def Flt (S : List Pt) : Prop := ∀ a b c, a ∈ S → b ∈ S → c ∈ S → D3 a b c = 0
theorem nx_tail' {P : List Pt} {R : Pt → Pt → Prop} : ∀ (L : List Pt), NxAll P L → L.Pairwise R → ∀ x, x ∈ L.tail → ∃ s, s ∈ L ∧ Nx P x s ∧ R s x
  | [], _, _, x, hx => by simp at hx
  | [_], _, _, x, hx => by simp at hx
  | c :: b :: t, h, hr, x, hx => by
    rcases List.mem_cons.1 hx with rfl | hx
    · exact ⟨c, by simp, h.1, (List.pairwise_cons.1 hr).1 x (by simp)⟩
    · obtain ⟨s, h1, h2, h3⟩ := nx_tail' (b :: t) h.2 (List.pairwise_cons.1 hr).2 x hx
      exact ⟨s, List.mem_cons_of_mem _ h1, h2, h3⟩
theorem NxAll_append {P : List Pt} (T : List Pt) : ∀ (c : Pt) (D : List Pt), NxAll P (c :: D) → NxAll P ((c :: D).getLast (by simp) :: T) → NxAll P (c :: D ++ T)
  | _, [], _, h => h
  | c, b :: D, h1, h2 => ⟨h1.1, NxAll_append T b D h1.2 (by rwa [List.getLast_cons (by simp)] at h2)⟩
theorem NxAll_get {P : List Pt} : ∀ (L : List Pt), NxAll P L → ∀ i, i + 1 < L.length → Nx P (L.getD (i + 1) (0, 0)) (L.getD i (0, 0))
  | [], _, i, h => by simp at h
  | [_], _, i, h => by simp at h
  | c :: b :: t, h, 0, _ => h.1
  | c :: b :: t, h, i + 1, hi => NxAll_get (b :: t) h.2 i (by simpa using hi)
theorem flat_one {S : List Pt} {c : Pt} (h : ∀ q, q ∈ S → q = c) : Flt S := fun a b d ha hb hd => by
  rw [h a ha, h b hb, h d hd, D3_same]
/-- all points on one line -/
theorem flat_line {S : List Pt} {b c : Pt} (hne : b ≠ c) (h : ∀ q, q ∈ S → D3 b c q = 0) : Flt S := fun p q r hp hq hr => by
  have h1 := h p hp
  have h2 := h q hq
  have h3 := h r hr
  have e1 : (c.1 - b.1) * D3 p q r = (q.1 - p.1) * (D3 b c r - D3 b c p) - (r.1 - p.1) * (D3 b c q - D3 b c p) := by unfold D3; grind
  have e2 : (c.2 - b.2) * D3 p q r = (q.2 - p.2) * (D3 b c r - D3 b c p) - (r.2 - p.2) * (D3 b c q - D3 b c p) := by unfold D3; grind
  rw [h1, h2, h3] at e1 e2
  simp only [Int.sub_self, Int.mul_zero] at e1 e2
  rcases Int.mul_eq_zero.1 e1 with k | k
  · rcases Int.mul_eq_zero.1 e2 with k' | k'
    · exact absurd (Prod.ext (by omega) (by omega)) hne
    · exact k'
  · exact k
theorem upc_flat {P st : List Pt} (h : Upc P st) (hf : Flt P) : st.length ≤ 2 := by
  obtain ⟨c, r, rfl, _, h2, h3⟩ := h.ex
  rcases h3 with ⟨b, rfl, _, _⟩ | ⟨h3, _⟩
  · simp
  · match r, h2, h3 with
    | [], _, _ => simp
    | [_], _, _ => simp
    | b :: a :: t, h2, h3 =>
      have := h3.2.2.1 a t rfl
      rw [hf a b c (h2 a (by simp)) (h2 b (by simp)) (h2 c (by simp))] at this
      omega
/-- what a chain is, if not all points lie on one line -/
theorem upc_true {P st : List Pt} (h : Upc P st) (hf : ¬ Flt P) : ∃ c b r, st = c :: b :: r ∧ (∀ q, q ∈ P → lxe q c) ∧ (∀ x, x ∈ c :: b :: r → x ∈ P) ∧ EdgesOk P (c :: b :: r) ∧ (∀ q, q ∈ P → lxe ((c :: b :: r).getLast (by simp)) q) := by
  obtain ⟨c, r, rfl, h1, h2, h3⟩ := h.ex
  rcases h3 with ⟨b, rfl, _, h4⟩ | ⟨h3, h4⟩
  · exact absurd (flat_one h4) hf
  · cases r with
    | nil => exact absurd (flat_one fun q hq => lxe_asymm (h1 q hq) (h4 q hq)) hf
    | cons b r => exact ⟨c, b, r, rfl, h1, h2, h3, h4⟩
theorem flt_ng {S : List Pt} (h : Flt (S.reverse.map ngP)) : Flt S := fun a b c ha hb hc => by
  have := h (ngP a) (ngP b) (ngP c) (List.mem_map_of_mem (List.mem_reverse.2 ha)) (List.mem_map_of_mem (List.mem_reverse.2 hb)) (List.mem_map_of_mem (List.mem_reverse.2 hc))
  rwa [D3_ng] at this
theorem flt_ng' {S : List Pt} (h : Flt S) : Flt (S.reverse.map ngP) := fun a b c ha hb hc => by
  obtain ⟨a', ha', rfl⟩ := List.mem_map.1 ha
  obtain ⟨b', hb', rfl⟩ := List.mem_map.1 hb
  obtain ⟨c', hc', rfl⟩ := List.mem_map.1 hc
  rw [D3_ng]
  exact h a' b' c' (List.mem_reverse.1 ha') (List.mem_reverse.1 hb') (List.mem_reverse.1 hc')
/-- the border of the hull, as the program lists it -/
def hullL (S : List Pt) : List Pt := (chn S).tail.reverse ++ (chn S.reverse).tail.reverse
theorem chn_upc' {S : List Pt} (hne : S ≠ []) (hs : S.Pairwise lxe) : Upc S (chn S) := by
  cases S with
  | nil => exact absurd rfl hne
  | cons p T => exact chn_upc hs
theorem hull_flat {S : List Pt} (hne : S ≠ []) (hs : S.Pairwise lxe) (hf : Flt S) : (hullL S).length < 3 := by
  have hN : (S.reverse.map ngP).Pairwise lxe := by
    rw [List.pairwise_map, List.pairwise_reverse]
    exact hs.imp fun h => lxe_ng h
  have h1 := upc_flat (chn_upc' hne hs) hf
  have h2 := upc_flat (chn_upc' (by simpa using hne) hN) (flt_ng' hf)
  rw [chn_ng, List.length_map] at h2
  unfold hullL
  rw [List.length_append, List.length_reverse, List.length_reverse, List.length_tail, List.length_tail]
  omega
theorem getD_last {L : List Pt} (h : L ≠ []) : L.getD (L.length - 1) (0, 0) = L.getLast h := by
  have hl := List.length_pos_iff.2 h
  rw [List.getD_eq_getElem?_getD, List.getElem?_eq_getElem (by omega)]
  simp [List.getLast_eq_getElem]
theorem getD_rev {L : List Pt} {k : Nat} (h : k < L.length) : L.reverse.getD k (0, 0) = L.getD (L.length - 1 - k) (0, 0) := by
  rw [List.getD_eq_getElem?_getD, List.getD_eq_getElem?_getD, List.getElem?_reverse h]
/-- the hull of points that do not all lie on one line -/
theorem hull_main {S : List Pt} (hne : S ≠ []) (hs : S.Pairwise lxe) (hf : ¬ Flt S) :
    3 ≤ (hullL S).length ∧ (hullL S).Nodup ∧ (∀ x, x ∈ hullL S → x ∈ S) ∧ (∀ q, q ∈ S → lxe ((hullL S).getD 0 (0, 0)) q) ∧ ∀ k, k < (hullL S).length → Nx S ((hullL S).getD k (0, 0)) ((hullL S).getD ((k + 1) % (hullL S).length) (0, 0)) := by
  have hN : (S.reverse.map ngP).Pairwise lxe := by
    rw [List.pairwise_map, List.pairwise_reverse]
    exact hs.imp fun h => lxe_ng h
  obtain ⟨c, b, r, eU, u1, u2, u3, u4⟩ := upc_true (chn_upc' hne hs) hf
  obtain ⟨nd, ne, nr, eN, n1, n2, n3, n4⟩ := upc_true (chn_upc' (by simpa using hne) hN) (fun h => hf (flt_ng h))
  rw [chn_ng] at eN
  obtain ⟨d, D1, eD, rfl, eD1⟩ := List.map_eq_cons_iff.1 eN
  obtain ⟨e, D2, rfl, rfl, rfl⟩ := List.map_eq_cons_iff.1 eD1
  have mN : ∀ q, q ∈ S → ngP q ∈ S.reverse.map ngP := fun q hq => List.mem_map_of_mem (List.mem_reverse.2 hq)
  have mN' : ∀ q, ngP q ∈ S.reverse.map ngP → q ∈ S := fun q hq => by
    obtain ⟨q', h1, h2⟩ := List.mem_map.1 hq
    rw [← ngP_inj h2]; exact List.mem_reverse.1 h1
  have d1 : ∀ q, q ∈ S → lxe d q := fun q hq => by
    rcases n1 _ (mN q hq) with k | k
    · exact .inl (lxl_ng.1 k)
    · exact .inr (ngP_inj k).symm
  have d2 : ∀ x, x ∈ d :: e :: D2 → x ∈ S := fun x hx => mN' x (n2 _ (by rw [← List.map_cons, ← List.map_cons]; exact List.mem_map_of_mem hx))
  have elast : ((ngP d :: ngP e :: D2.map ngP).getLast (by simp)) = ngP ((d :: e :: D2).getLast (by simp)) := by
    have : (ngP d :: ngP e :: D2.map ngP) = (d :: e :: D2).map ngP := rfl
    simp only [this, List.getLast_map]
  have d4 : ∀ q, q ∈ S → lxe q ((d :: e :: D2).getLast (by simp)) := fun q hq => by
    have := n4 _ (mN q hq)
    rw [elast] at this
    rcases this with k | k
    · exact .inl (lxl_ng.1 k)
    · exact .inr (ngP_inj k).symm
  have nxU : NxAll S (c :: b :: r) := edges_nx r b c u3 (fun q hq _ => u1 q hq) u4
  have nxD : NxAll S (d :: e :: D2) := by
    have := edges_nx (D2.map ngP) (ngP e) (ngP d) n3 (fun q hq _ => n1 q hq) n4
    have h2 : NxAll (S.reverse.map ngP) ((d :: e :: D2).map ngP) := this
    have h3 := NxAll_ng (P := S.reverse) _ h2
    have conv : ∀ L, NxAll S.reverse L → NxAll S L := fun L => by
      induction L with
      | nil => exact fun _ => trivial
      | cons a t ih =>
        cases t with
        | nil => exact fun _ => trivial
        | cons b t => exact fun h => ⟨⟨h.1.1, fun q hq => h.1.2 q (List.mem_reverse.2 hq)⟩, ih h.2⟩
    exact conv _ h3
  have sU := edges_sorted (b :: r) c u3
  have sD : (d :: e :: D2).Pairwise lxl := by
    have := edges_sorted (ngP e :: D2.map ngP) (ngP d) n3
    have h2 : ((d :: e :: D2).map ngP).Pairwise (fun a b => lxl b a) := this
    rw [List.pairwise_map] at h2
    exact h2.imp fun h => lxl_ng.1 h
  have hcl : (d :: e :: D2).getLast (by simp) = c := lxe_asymm (u1 _ (d2 _ (List.getLast_mem _))) (d4 c (u2 c (by simp)))
  have hdl : (c :: b :: r).getLast (by simp) = d := lxe_asymm (u4 d (d2 d (by simp))) (d1 _ (u2 _ (List.getLast_mem _)))
  have eH : hullL S = (e :: D2 ++ (b :: r)).reverse := by
    unfold hullL
    rw [eU, eD, List.reverse_append]; rfl
  have nxR : NxAll S (d :: (e :: D2 ++ (b :: r))) := NxAll_append (b :: r) d (e :: D2) nxD (by rw [hcl]; exact nxU)
  obtain ⟨T, hT⟩ : ∃ T, T = e :: D2 ++ (b :: r) := ⟨_, rfl⟩
  have hTl : T.length = (D2.length + 1) + (r.length + 1) := by rw [hT]; simp; omega
  have lastT : T.getD (T.length - 1) (0, 0) = d := by
    have hne : T ≠ [] := by rw [hT]; simp
    have h1 : T.getLast hne = (b :: r).getLast (by simp) := by
      subst hT
      exact List.getLast_append_of_ne_nil (by simp) (by simp)
    have h2 : (c :: b :: r).getLast (by simp) = (b :: r).getLast (by simp) := List.getLast_cons (by simp)
    rw [getD_last hne, h1, ← h2, hdl]
  rw [← hT] at nxR eH
  have h3 : 3 ≤ T.length := by
    rcases Nat.lt_or_ge T.length 3 with q | q
    · exfalso
      have l1 : D2.length = 0 := by omega
      have l2 : r.length = 0 := by omega
      obtain rfl := List.length_eq_zero_iff.1 l1
      obtain rfl := List.length_eq_zero_iff.1 l2
      have hec : e = c := hcl
      have hbd : b = d := hdl
      subst hec hbd
      refine hf (flat_line (b := b) (c := e) (fun h => ?_) fun q hq => ?_)
      · have := u3.1
        rw [h] at this; exact lxl_irr e this
      · have k1 := u3.2.1 q hq
        have k2 := n3.2.1 _ (mN q hq)
        rw [D3_ng] at k2
        have k3 : D3 e b q = -D3 b e q := by unfold D3; grind
        omega
    · exact q
  have mem : ∀ x, x ∈ T → x ∈ S := fun x hx => by
    rw [hT] at hx
    rcases List.mem_append.1 hx with hx | hx
    · exact d2 x (List.mem_cons_of_mem _ hx)
    · exact u2 x (List.mem_cons_of_mem _ hx)
  have nod : T.Nodup := by
    rw [hT]
    refine List.nodup_append.2 ⟨?_, ?_, ?_⟩
    · exact ((List.pairwise_cons.1 sD).2).imp fun {a b} h e => by rw [e] at h; exact lxl_irr _ h
    · exact ((List.pairwise_cons.1 sU).2).imp fun {a b} h e => by rw [e] at h; exact lxl_irr _ h
    · intro x hx y hy exy
      subst exy
      obtain ⟨s, m1, k1, k2⟩ := nx_tail' _ nxU sU x hy
      obtain ⟨s', m2, k3, k4⟩ := nx_tail' _ nxD sD x hx
      have := k1.uniq k3 (u2 s m1) (d2 s' m2)
      subst this
      exact lxl_irr _ (lxl_trans k2 k4)
  rw [eH]
  have hlen : T.reverse.length = T.length := List.length_reverse
  have C0 : T.reverse.getD 0 (0, 0) = d := by rw [getD_rev (by omega), Nat.sub_zero, lastT]
  refine ⟨by omega, (List.reverse_perm T).nodup_iff.2 nod, fun x hx => mem x (List.mem_reverse.1 hx), fun q hq => by rw [C0]; exact d1 q hq, fun k hk => ?_⟩
  rw [hlen] at hk ⊢
  have hg := NxAll_get _ nxR (T.length - 1 - k) (by simp; omega)
  rcases Nat.lt_or_ge (k + 1) T.length with q | q
  · rw [Nat.mod_eq_of_lt q, getD_rev hk, getD_rev q]
    have e1 : (d :: T).getD (T.length - 1 - k + 1) (0, 0) = T.getD (T.length - 1 - k) (0, 0) := rfl
    have e2 : (d :: T).getD (T.length - 1 - k) (0, 0) = T.getD (T.length - 1 - (k + 1)) (0, 0) := by
      rw [show T.length - 1 - k = (T.length - 1 - (k + 1)) + 1 by omega]; rfl
    rw [e1, e2] at hg
    exact hg
  · obtain rfl : k = T.length - 1 := by omega
    rw [show T.length - 1 + 1 = T.length by omega, Nat.mod_self, C0, getD_rev hk]
    rw [show T.length - 1 - (T.length - 1) = 0 by omega] at hg ⊢
    exact hg
end Go.Proofs.YtljmhejljpfaiaaGreat

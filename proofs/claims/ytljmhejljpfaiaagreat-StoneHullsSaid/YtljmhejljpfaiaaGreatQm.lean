import Derived.Test.YtljmhejljpfaiaaGreatQk
import Derived.Test.YtljmhejljpfaiaaGreatQj
import Derived.Test.YtljmhejljpfaiaaGreatQh
import Derived.Shelf.SlicesQ.Reverse
namespace Go.Proofs.YtljmhejljpfaiaaGreat
set_option maxRecDepth 100000
open Go.RowKit Go.Shelf Go.Sort

/-! slices.SortedFunc by 'lower' -/
def encP (x : Pt) : List Value := [.int .i64 x.1, .int .i64 x.2]
def cfP (x y : Pt) : Int := lowI x.1 x.2 y.1 y.2
theorem ltP (x y : Pt) : ltOf cfP x y = true ↔ lxl x y := by
  unfold ltOf cfP lowI ord2 cmpI lxl
  simp only [decide_eq_true_eq]
  (repeat' split) <;> omega
theorem ltP' (x y : Pt) : ltOf cfP x y = false ↔ ¬ lxl x y := by
  rw [← ltP]; simp
theorem swoP : SWO (ltOf cfP) where
  irrefl x := (ltP' x x).2 (lxl_irr x)
  trans x y z h1 h2 := (ltP x z).2 (lxl_trans ((ltP x y).1 h1) ((ltP y z).1 h2))
  ntrans x y z h1 h2 := (ltP' x z).2 fun h3 => by
    have h1 := (ltP' x y).1 h1
    have h2 := (ltP' y z).1 h2
    rcases lxe_total y x with k | k
    · rcases lxe_total z y with k' | k'
      · exact lxl_irr x (lxl_lxe h3 (lxe_trans k' k))
      · exact h2 k'
    · exact h1 k
theorem cmpP (blk off size : Nat) (w : World) : CmpLays Tryz.prog 21 #[] encP 2 cfP blk off size w := fun _ _ _ _ x y =>
  lowerq_any x.1 x.2 y.1 y.2 _
theorem holdsP {w : World} {base g c : Nat} {l : List Pt} (h : Own w base (.slice (some ⟨g, 0, none⟩) l.length c) l) (h0 : 0 < l.length) : HoldsK encP 2 w g 0 l.toArray := fun j hj => by
  obtain ⟨g', c', e, hr, _, _, _, cur, hg⟩ := own_someV h h0
  cases e
  rw [size_flatK, List.size_toArray] at hj
  have hi : j / 2 < l.length := by omega
  obtain ⟨r0, r1⟩ := hr (j / 2) hi
  refine ⟨?_, by simp [World.frozen?, hg]⟩
  rw [get_flatK _ _ _ _ (by simpa using hj)]
  have e1 : l.toArray[j / 2]! = (px l (j / 2), pz l (j / 2)) := by
    unfold px pz
    simp [hi]
  rw [e1]
  rcases Nat.mod_two_eq_zero_or_one j with k | k
  · rw [k]
    have : 0 + j = 0 + j / 2 * 2 := by omega
    rw [this]
    exact r0
  · rw [k]
    have : 0 + j = 0 + j / 2 * 2 + 1 := by omega
    rw [this]
    exact r1
theorem below_sortW {w : World} {base g n : Nat} {d : Array Pt} {os : Array Obj} (hb : base ≤ g) (hw : base ≤ w.heap.size) : Below base w (sortWorldK encP 2 w g 0 n d os) := by
  unfold sortWorldK putRowK putRow mapBlock
  refine ⟨rfl, rfl, rfl, ?_, fun k hk => ?_⟩
  · simp [Sort.grow, Sort.ahead]
  · show ((w.heap.modify g _) ++ os)[k]? = _
    rw [Array.getElem?_append_left (by rw [Array.size_modify]; omega), Array.getElem?_modify, if_neg (by omega)]
set_option maxHeartbeats 2000000 in
theorem sort_any (g c base : Nat) (l : List Pt) (w : World) (hO : Own w base (.slice (some ⟨g, 0, none⟩) l.length c) l) (h0 : 0 < l.length) (h12 : l.length ≤ 1000) (hw : base ≤ w.heap.size) :
    Calls Tryz.prog 47 #[.slice (some ⟨g, 0, none⟩) l.length c, .func (.func 21) #[] #[]] w fun e w' => e = .returned (.tuple #[]) ∧ (∃ S : List Pt, S.Perm l ∧ S.Pairwise lxe ∧ Row w' g 0 S) ∧ Below base w w' := by
  have hH := holdsP hO h0
  obtain ⟨g', c', e, hr, hg, _, hb, _⟩ := own_someV hO h0
  cases e
  have eg : ∀ args w, (callFunc 21 args).run Tryz.prog w = .ok (.enter 21 args) w := enters_of Tryz.func21 (by kernel_rfl) rfl
  have hcon := AnyQ.slices_SortFunc Tryz.sortPt 2 Tryz.isAgg37 Tryz.sizeOf37 encP (fun _ => rfl) (fun x v hv => by simp [encP] at hv; rcases hv with rfl | rfl <;> rfl) cfP swoP 21 #[] g 0 c l.toArray w eg (cmpP g 0 l.toArray.size w) hH hg (by simp; omega)
  change Calls Tryz.prog 47 _ _ _ at hcon
  rw [List.size_toArray] at hcon
  refine hcon.mono ?_
  rintro e w' ⟨he, d', n, os, hp, hs, hw'⟩
  have hsz : d'.size = l.length := by have := hp.1; simpa using this
  have hH2 : HoldsK encP 2 w' g 0 d' := (show SWK encP 2 w g 0 d' w' from ⟨n, os, hw'⟩).holds hg hH (by simpa using hsz)
  refine ⟨he, ⟨d'.toList, ?_, ?_, fun i hi => ?_⟩, ?_⟩
  · have := hp.2.2
    rw [Array.extract_eq_self_of_le (by omega), Array.extract_eq_self_of_le (by simp)] at this
    exact this
  · rw [List.pairwise_iff_getElem]
    intro i j hi hj hij
    have h := hs i j (Nat.zero_le _) hij (by simp at hj; omega)
    rw [ltP'] at h
    simp at hi hj
    rw [getElem!_pos d' j hj, getElem!_pos d' i hi] at h
    rcases lxe_total d'[i] d'[j] with k | k
    · simpa using k
    · exact absurd k h
  · simp at hi
    have hc := HoldsK.cells hH2 (fun _ => rfl) (i := i) hi
    have e1 : d'[i]! = (px d'.toList i, pz d'.toList i) := by
      unfold px pz
      simp [hi]
    rw [e1] at hc
    have k0 := hc 0 _ rfl
    have k1 := hc 1 _ rfl
    exact ⟨by simpa [Addr.add] using k0, by simpa [Addr.add] using k1⟩
  · rw [hw']; exact below_sortW hb hw
end Go.Proofs.YtljmhejljpfaiaaGreat
namespace Go.Proofs.YtljmhejljpfaiaaGreat
set_option maxRecDepth 100000
open Go.RowKit Go.Shelf

/-! slices.SortedFunc over slices.Values -/
set_option maxHeartbeats 2000000 in
theorem sortedf_any (Be b o c : Nat) (l : List Pt) (w : World) (h0 : 0 < l.length) (h12 : l.length ≤ 1000) (hr : Row w b o l) (hx : Boxed w Be 24 (.slice (some ⟨b, o, none⟩) l.length c)) :
    Calls Tryz.prog 19 #[.func (.func 48) #[] #[.pointer (some ⟨Be, 0, none⟩)], .func (.func 21) #[] #[]] w fun e w' => (∃ g c', e = .returned (.slice (some ⟨g, 0, none⟩) l.length c') ∧ ∃ S : List Pt, S.Perm l ∧ S.Pairwise lxe ∧ Row w' g 0 S) ∧ Below w.heap.size w w' := by
  have hb := hr.lt h0
  have hC := Lib.hid (collect_any (.func (.func 48) #[] #[.pointer (some ⟨Be, 0, none⟩)]) w w.heap.size (ptsF l (List.finRange l.length)) (appendSeq_any 48 Be b l (List.finRange l.length) w (enters_of Tryz.func48 (by kernel_rfl) rfl) (values_seq Be b o c l w h0 (by omega) hr hx) hx.lt hb h12) ⟨_, _, _, rfl⟩)
  have HL := Lib.hid (And.intro h0 h12)
  clear hr hx hb h0 h12
  go_enter Tryz.func19, Tryz.ntmps19
  go_wp2_with fail
  refine hC.out.mono ?_
  rintro e w1 ⟨⟨v, rfl, ho⟩, hb1⟩
  rw [ptsF_all] at ho
  obtain ⟨g, c', rfl, _⟩ := own_someV ho HL.out.1
  have HS := Lib.hid (sort_any g c' w.heap.size l w1 ho HL.out.1 HL.out.2 hb1.size)
  have K1 := Lib.hid hb1
  clear ho hb1 hC
  go_wp2_with fail
  refine HS.out.mono ?_
  rintro e w2 ⟨rfl, hS, hb2⟩
  have HSS := Lib.hid hS
  have K2 := Lib.hid (K1.out.trans hb2)
  clear hS hb2 HS
  go_wp2
  go_ret
  exact ⟨⟨_, _, rfl, HSS.out⟩, K2.out⟩
end Go.Proofs.YtljmhejljpfaiaaGreat

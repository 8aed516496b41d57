import Derived.Test.YtljmhejljpfaiaaGreatQm
import Derived.Test.YtljmhejljpfaiaaGreatFd
import Derived.Shelf.SlSortCmp.NoneTotal
namespace Go.Proofs.YtljmhejljpfaiaaGreat
set_option maxRecDepth 100000
open Go.RowKit Go.Shelf
attribute [local go_sem] Oper.semAt_some

/-! no points -/
theorem values_seq0 (Be c : Nat) (q : Option Addr) (w0 : World) (Pv : Nat → Prop) (hb : Boxed w0 Be 24 (.slice q 0 c)) : SeqX Tryz.prog 48 #[.pointer (some ⟨Be, 0, none⟩)] (encV []) Pv (fun xs => xs = List.finRange ([] : List Pt).length) ([] : List Pt).length w0 := fun n lr Bs J Jx W hW _ _ _ _ _ h0 => by
  have H0 := Lib.hid h0
  have hx : Boxed W Be 24 (.slice q 0 c) := (hW.block Be hb.lt).trans hb
  have cb := hx.cell
  clear h0
  refine callsIn_of_wp Tryz.func48 rfl trivial ?_ rfl
  simp only [Tryz.ntmps48, List.size_toArray, List.length_cons, List.length_nil, Nat.reduceAdd, Nat.reduceSub, Array.replicate_succ, Array.replicate_zero, List.push_toArray, List.append_toArray, List.nil_append, List.cons_append]
  gi_wp2
  gi_loopw [7] (fun i wr => i = .int .i64 0 ∧ Hid (J [] wr)) (fun _ _ => 0)
  case atStart => exact ⟨rfl, H0.out⟩
  case round =>
    obtain ⟨rfl, HJ⟩ := hrel
    gi_wp2
    go_end0
    exact ⟨⟨_, rfl⟩, .inl ⟨_, rfl, HJ.out⟩⟩
set_option maxHeartbeats 2000000 in
theorem sortedf_none (Be c : Nat) (q : Option Addr) (w : World) (hx : Boxed w Be 24 (.slice q 0 c)) :
    Calls Tryz.prog 19 #[.func (.func 48) #[] #[.pointer (some ⟨Be, 0, none⟩)], .func (.func 21) #[] #[]] w fun e w' => (∃ q' c', e = .returned (.slice q' 0 c')) ∧ Below w.heap.size w w' := by
  have hC := Lib.hid (collect_any (.func (.func 48) #[] #[.pointer (some ⟨Be, 0, none⟩)]) w w.heap.size (ptsF [] (List.finRange ([] : List Pt).length)) (appendSeq_any 48 Be Be [] (List.finRange ([] : List Pt).length) w (enters_of Tryz.func48 (by kernel_rfl) rfl) (values_seq0 Be c q w _ hx) hx.lt hx.lt (by simp)) ⟨_, _, _, rfl⟩)
  clear hx
  go_enter Tryz.func19, Tryz.ntmps19
  go_wp2_with fail
  refine hC.out.mono ?_
  rintro e w1 ⟨⟨v, rfl, ho⟩, hb1⟩
  obtain ⟨p, m, c', rfl⟩ := own_form ho
  obtain rfl : m = 0 := by
    rcases ho.2 with ⟨e, _⟩ | ⟨_, _, _, e, _⟩
    · cases e; rfl
    · injection e
  have hS := AnyF.slices_SortFunc_none Tryz.sortPt p c' (.func (.func 21) #[] #[]) w1
  change Calls Tryz.prog 47 _ _ _ at hS
  have HS := Lib.hid hS
  have K1 := Lib.hid hb1
  clear ho hb1 hC hS
  go_wp2_with fail
  refine HS.out.mono ?_
  rintro e w2 ⟨rfl, rfl⟩
  go_wp2
  go_ret
  exact ⟨⟨_, _, rfl⟩, K1.out⟩
/-! Hull -/
/-- the points are in the bounds -/
def InR (l : List Pt) : Prop := ∀ i, i < l.length → (-2000 ≤ px l i ∧ px l i ≤ 2000) ∧ (-2000 ≤ pz l i ∧ pz l i ≤ 2000)
/-- what Hull answers -/
def HullR (l : List Pt) (w : World) (r : Value) (er : Int) (w' : World) : Prop :=
  (¬ InR l ∧ r = .slice none 0 0 ∧ er = 3) ∨ (InR l ∧ ∃ H : List Pt, (l.length ≤ 1 ∧ H.length < 3 ∨ ∃ S : List Pt, S.Perm l ∧ S.Pairwise lxe ∧ H = hullL S) ∧
    ((H.length < 3 ∧ r = .slice none 0 0 ∧ er = 2) ∨ (3 ≤ H.length ∧ (12 < H.length ∨ 2000 < mxx (stl H) (stl H).length ∨ 2000 < mxz (stl H) (stl H).length) ∧ r = .slice none 0 0 ∧ er = 5) ∨
      (3 ≤ H.length ∧ H.length ≤ 12 ∧ mxx (stl H) (stl H).length ≤ 2000 ∧ mxz (stl H) (stl H).length ≤ 2000 ∧ er = 0 ∧ Own w' w.heap.size r (stl H))))
theorem stl_len (l : List Pt) : (stl l).length = l.length := by unfold stl; simp
end Go.Proofs.YtljmhejljpfaiaaGreat

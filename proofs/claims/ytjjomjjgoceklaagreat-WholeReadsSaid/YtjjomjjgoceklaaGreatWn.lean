import Derived.Test.YtjjomjjgoceklaaGreatWl
import Derived.Test.YtjjomjjgoceklaaGreatKca
import Derived.Test.YtjjomjjgoceklaaGreatKce
namespace Go.Proofs.YtjjomjjgoceklaaGreat
set_option maxRecDepth 100000
open Go.RowKit

/-! the reference's Of, Whole, Num, Floor, Ceil -/
structure G25 (w0 : World) (z : Int) (w : World) : Prop where
  k : Below w0.heap.size w0 w
  a : Hr w0.heap.size z w
  t : R4 (w0.heap.size + 1) w
theorem G25.keep {w0 w w' : World} {z : Int} (h : G25 w0 z w) (hb : Below w.heap.size w w') : G25 w0 z w' := ⟨Below.thru h.k h.k.size hb, h.a.keep hb, h.t.keep hb⟩
def D25r (t : Nat) : Bool := Nat.ble 3 t && Nat.ble t 5
def tab25r (z : Int) (t : Nat) : Kd := [.r z, .r 1, krr z 1].getD (t - 3) .any
set_option maxHeartbeats 1600000 in
theorem rwhole_any (va : Value) (z : Int) (w : World) (ha : RZ w va z) : Calls Tryz.prog 25 #[va] w (PRA (z : Rat) w) := by
  obtain ⟨p, l, c, rfl⟩ := ha.agg
  have S := Lib.hid (show G25 w z ((w.alloc (.cells #[.int .i64 z.sign, .slice p l c] 41)).alloc (.cells #[.int .i64 0, .slice none 0 0, .int .i64 0, .slice none 0 0] 44)) from ⟨bl2 _ _ _, (Hr.new ha).al _, r4_new _ (by simp)⟩)
  clear ha
  go_enter Tryz.func25, Tryz.ntmps25
  go_upto_region 1 with fail
  go_cut [] (fun wx => Below w.heap.size w wx ∧ HR (w.heap.size + 1) z 1 wx)
  case first =>
    rename_i J K' hJ hK
    refine wp_region_two D25r (tab25r z) (G25 w z) 3 (fun _ _ w' => Below w.heap.size w w' ∧ HR (w.heap.size + 1) z 1 w') (by kernel_rfl) (by kernel_rfl) (by kernel_rfl) (by kernel_rfl) (by decide) (by kernel_rfl) (fun _ _ h hb => h.keep hb) (S.out.keep (Below.refl _ _).drew) ?_ ?_ ?_
    · refine .cons (fun f w' hI hs => ?_) ?_
      · obtain ⟨s, p, l, c, h1, h2⟩ := hI.a
        exact ⟨wanted_none rfl, _, rfl, .val (rn_load32 rfl (fr_old rfl rfl) h1) ⟨Below.refl _ _, h2⟩⟩
      refine .cons (fun f w' hI hs => ⟨wanted_none rfl, _, rfl, .callk rfl cf100 (PRZ.kd (zint_any 1 _ (by decide)))⟩) ?_
      refine .cons (fun f w' hI hs => ?_) .nil
      have j1 : RZ w' (f 3) z := (hs 3 (by kernel_rfl))
      have j2 : RZ w' (f 4) 1 := (hs 4 (by kernel_rfl))
      obtain ⟨s1, p1, l1, c1, e1, j1⟩ := PRZ.box j1
      obtain ⟨s2, p2, l2, c2, e2, j2⟩ := PRZ.box j2
      exact ⟨wanted_none rfl, _, rfl, .val (rn_build44 rfl ((fr_own rfl rfl).trans e1) ((fr_own rfl rfl).trans e2)) ⟨Below.refl _ _, s1, p1, l1, c1, s2, p2, l2, c2, rfl, j1, j2⟩⟩
    · refine .cons (fun f w' h => ⟨wanted_none rfl, ?_⟩) .nil
      obtain ⟨hI, hs⟩ := (if_pos rfl) ▸ h
      have hv : RRv w' (f 5) z 1 := (hs 5 (by kernel_rfl))
      obtain ⟨s1, p1, l1, c1, s2, p2, l2, c2, e1⟩ := hv.agg
      rw [e1] at hv
      have hz := hI.t
      exact .skip (rn_store44 rfl (fr_old rfl rfl) ((fr_own rfl rfl).trans e1) hz) ⟨below4r hI.k (by omega) _ _ _ _, Go.Proofs.YtjjomjjgoceklaaGreat.HR.stored hz hv⟩
    · intro f w' h
      refine hK _ _ (Met.intro (hJ _ _ ?_))
      (repeat apply Exists.intro)
      refine ⟨?_, rfl⟩
      exact h
  case rest =>
    obtain ⟨kf, s1, p1, l1, c1, s2, p2, l2, c2, e1, e2⟩ := hcut
    have i0 := cell_blk (i := 0) e1
    have i1 := cell_blk (i := 1) e1
    have i2 := cell_blk (i := 2) e1
    have i3 := cell_blk (i := 3) e1
    have KF := Lib.hid kf
    have VV1 := Lib.hid e2
    clear e1 e2 kf S
    go_wp2
    exact bodyPost_ret (v := .agg #[.int .i64 s1, .slice p1 l1 c1, .int .i64 s2, .slice p2 l2 c2]) (by simp [results, Tryz.results25, go_sem, i0, i1, i2, i3]) rfl ⟨KF.out, _, rfl, .of VV1.out⟩
/-! Floor, Ceil -/
structure G35 (w0 : World) (a : Rat) (w : World) : Prop where
  k : Below w0.heap.size w0 w
  a : HA w0.heap.size a w
  t : ∃ s p l c, Bz (w0.heap.size + 1) s p l c w
  g : w0.heap.size + 1 + 1 ≤ w.heap.size
theorem G35.keep {w0 w w' : World} {a : Rat} (h : G35 w0 a w) (hb : Below w.heap.size w w') : G35 w0 a w' := by
  obtain ⟨s, p, l, c, h5⟩ := h.t
  exact ⟨Below.thru h.k h.k.size hb, h.a.keep hb, ⟨s, p, l, c, blk_keep h5 hb⟩, Nat.le_trans h.g hb.size⟩
theorem HA.st {T U : Nat} {a : Rat} {w w' : World} (h : HA T a w) (hU : NoI w U) (hg : w.grownBy w' (some U)) (hne : T ≠ U) : HA T a w' := by
  obtain ⟨s1, p1, l1, c1, s2, p2, l2, c2, h1, ⟨d, h2, h3⟩, h4⟩ := h
  exact ⟨s1, p1, l1, c1, s2, p2, l2, c2, blk_other h1 hg hne, ⟨d, h2.store hU hg, h3⟩, h4.store hU hg⟩
theorem G35.put {w0 w : World} {a : Rat} (h : G35 w0 a w) {T : Nat} {s0 : Int} {p0 : Option Addr} {l0 c0 : Nat} (hT : w0.heap.size + 1 + 1 ≤ T) (hz : Bz T s0 p0 l0 c0 w) (s : Int) (p : Option Addr) (l c : Nat) : G35 w0 a (st2 w T (.int .i64 s) (.slice p l c)) := by
  have hg := grown2 w T 0 1 (.int .i64 s) (.slice p l c)
  obtain ⟨s1, p1, l1, c1, h5⟩ := h.t
  exact ⟨below2 h.k (by omega) _ _, h.a.st hz.noI hg (by omega), ⟨s1, p1, l1, c1, blk_other h5 hg (by omega)⟩, Nat.le_trans h.g hg.size⟩
def Ks2r (K : Kd) : Prop := ∀ {v : Value} {w : World} {T : Nat} {s0 : Int} {p0 : Option Addr} {l0 c0 : Nat} {s : Int} {p : Option Addr} {l c : Nat}, Bz T s0 p0 l0 c0 w → kd K v w → kd K v (st2 w T (.int .i64 s) (.slice p l c))
theorem Ks2r.r {n : Int} : Ks2r (.r n) := fun hT h => RZ.store h hT.noI (grown2 _ _ _ _ _ _)
theorem Ks2r.v {y : Value} : Ks2r (.v y) := by
  intro v w T s0 p0 l0 c0 s p l c _ h
  have h1 : v = y := h
  show v = y
  exact h1
theorem Ks2r.kp {b i : Nat} : Ks2r (kp b i) := Ks2r.v
theorem Ks2r.any : Ks2r .any := fun _ _ => trivial
theorem Ks2r.getD {L : List Kd} (h : ∀ K ∈ L, Ks2r K) (j : Nat) : Ks2r (L.getD j .any) := by
  intro v w T s0 p0 l0 c0 s p l c
  rw [List.getD_eq_getElem?_getD]
  cases hj : L[j]? with
  | none => exact fun _ _ => trivial
  | some K => exact h K (List.mem_of_getElem? hj)
theorem Ks2r.kra {a : Rat} : Ks2r (kra a) := fun hT ⟨d, h1, h2⟩ => ⟨d, h1.store hT.noI (grown2 _ _ _ _ _ _), h2⟩
end Go.Proofs.YtjjomjjgoceklaaGreat

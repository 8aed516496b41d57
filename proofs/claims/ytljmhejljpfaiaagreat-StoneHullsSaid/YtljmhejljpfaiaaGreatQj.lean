import Derived.Test.YtljmhejljpfaiaaGreatQi
import Derived.Deep.Upon
namespace Go.Proofs.YtljmhejljpfaiaaGreat
set_option maxRecDepth 100000
open Go.RowKit Go.Shelf

/-! around: one point, and none -/
theorem chn_one {S : List Pt} (h : S.length = 1) : (chn S).length = 1 := by
  match S, h with
  | [_], _ => rfl
theorem OpR.append0 {o : Oper} {a : Act} {w : World} {R : Value → World → Prop} {x y : Operand} {b ad : Nat} (ho : o.op = .call { callee := .builtin .append, args := #[x, y], argTypes := #[49, 49] }) (hx : a.eval x = .slice (some ⟨b, 0, none⟩) 0 0) (hy : a.eval y = .slice (some ⟨ad, 0, none⟩) 0 0)
    (hR : R (.slice (some ⟨b, 0, none⟩) 0 0) w) : OpR Tryz.prog o a w R := by
  refine .inl ⟨_, w, ?_, hR⟩
  simp [execOp, ho, resolve, invoke, builtin, hx, hy, Result.andThen]
  simp [go_sem, Builtin.append_, run_underlying Tryz.underlying49']
def tab0z (gu cu gd D cd : Nat) (d : Nat) : Kd :=
  if d = 2 then .v (.slice (some ⟨gu, 0, none⟩) 0 0) else if d = 30 then .v (.slice (some ⟨gu, 0, none⟩) 0 0) else
  .v ([.slice (some ⟨gu, 0, none⟩) 1 cu, .int .i64 0, .int .i64 0, .slice (some ⟨gu, 0, none⟩) 0 0, .slice (some ⟨gd, 0, none⟩) D cd, .int .i64 0, .int .i64 0, .slice (some ⟨gd, 0, none⟩) 0 0].getD (d - 22) undef)
theorem tab0z_keep {gu cu gd D cd : Nat} {w w' : World} (d : Nat) (v : Value) (h : kd (tab0z gu cu gd D cd d) v w) : kd (tab0z gu cu gd D cd d) v w' := by
  unfold tab0z at h ⊢
  split at h
  · rw [if_pos ‹_›]; exact h
  · rw [if_neg ‹_›]
    split at h
    · rw [if_pos ‹_›]; exact h
    · rw [if_neg ‹_›]; exact h
set_option maxHeartbeats 8000000 in
theorem around_one (g c : Nat) (S : List Pt) (w : World) (hr : Row w g 0 S) (h1 : S.length = 1) (hs : ∀ i, i < S.length → Sm (px S i) ∧ Sm (pz S i)) :
    Calls Tryz.prog 18 #[.slice (some ⟨g, 0, none⟩) S.length c] w fun e w' => (∃ q cc, e = .returned (.slice q 0 cc)) ∧ Below w.heap.size w w' := by
  obtain ⟨i0, hi, hz0, hz1, hz2⟩ := info_parts Tryz.info37
  have hg := hr.lt (by omega)
  have HR := Lib.hid hr; have HS := Lib.hid hs
  have HG := Lib.hid hg
  have H1 : Hid (S.length = 1 ∧ S.length ≤ 1000) := ⟨h1, by omega⟩
  have hn0 : ¬ (S.length : Int) = 0 := by omega
  have hn1 : ¬ S.length = 0 := by omega
  clear hr hs hg h1
  go_enter Tryz.func18, Tryz.ntmps18
  go_wp2_with fail
  refine (allv_any _ _ _ _).mono ?_
  rintro e w1 ⟨rfl, hw1⟩
  have hb1 : Below w.heap.size w w1 := by rw [hw1]; exact bl1 _ _
  have hx1 : Boxed w1 w.heap.size 24 (.slice (some ⟨g, 0, none⟩) S.length c) := by rw [hw1]; exact Boxed.new _ _ _
  have hz1' : w.heap.size < w1.heap.size := by rw [hw1]; simp
  have HC1 := Lib.hid (chain_any 77 w.heap.size g 0 S (List.finRange S.length) w1 (enters_of Tryz.func77 (by kernel_rfl) rfl) (all_seq w.heap.size g 0 c S w1 (by have := H1.out; omega) (by have := H1.out; omega) (HR.out.keep hb1) hx1) hz1' (by have := HG.out; omega) H1.out.2 HS.out)
  have K1 := Lib.hid hb1
  clear hw1 hb1 hx1 hz1'
  go_wp2_with fail
  refine HC1.out.mono ?_
  rintro e w2 ⟨⟨v1, rfl, ho1⟩, hb2⟩
  have K2 := Lib.hid (Below.thru K1.out K1.out.size hb2)
  rw [ptsF_all] at ho1
  obtain ⟨U, hU⟩ : ∃ U, U = (chn S).reverse := ⟨_, rfl⟩
  rw [← hU] at ho1
  have hU2 : U.length = 1 := by rw [hU, List.length_reverse]; exact chn_one H1.out.1
  have HUE := Lib.hid hU
  obtain ⟨gu, cu, rfl, hru, hgu, hcu, hbu, _⟩ := own_someV ho1 (by omega)
  clear hU
  have HRU := Lib.hid hru; have HGU := Lib.hid (And.intro hgu hcu)
  clear ho1 hb2 hru hgu hcu hbu
  go_wp2_with fail
  refine (backv_any _ _ _ _).mono ?_
  rintro e w3 ⟨rfl, hw3⟩
  have hb3 : Below w2.heap.size w2 w3 := by rw [hw3]; exact bl1 _ _
  have hx3 : Boxed w3 w2.heap.size 24 (.slice (some ⟨g, 0, none⟩) S.length c) := by rw [hw3]; exact Boxed.new _ _ _
  have hz3' : w2.heap.size < w3.heap.size := by rw [hw3]; simp
  have HC3 := Lib.hid (chain_any 78 w2.heap.size g 0 S (List.finRange S.length).reverse w3 (enters_of Tryz.func78 (by kernel_rfl) rfl) (back_seq w2.heap.size g 0 c S w3 (by have := H1.out; omega) (by have := H1.out; omega) (HR.out.keep (Below.thru K2.out K2.out.size hb3)) hx3) hz3' (by have := HG.out; have := K2.out.size; omega) H1.out.2 HS.out)
  have K3 := Lib.hid (Below.thru K2.out K2.out.size hb3)
  have HRU3 := Lib.hid (HRU.out.keep hb3)
  clear hw3 hb3 hx3 hz3'
  go_wp2_with fail
  refine HC3.out.mono ?_
  rintro e w4 ⟨⟨v3, rfl, ho3⟩, hb4⟩
  have K4 := Lib.hid (Below.thru K3.out K3.out.size hb4)
  rw [ptsF_rev] at ho3
  obtain ⟨D, hD⟩ : ∃ D, D = (chn S.reverse).reverse := ⟨_, rfl⟩
  rw [← hD] at ho3
  have hD2 : D.length = 1 := by rw [hD, List.length_reverse]; exact chn_one (by simpa using H1.out.1)
  have HDE := Lib.hid hD
  obtain ⟨gd, cd, rfl, hrd, hgd, hcd, _⟩ := own_someV ho3 (by omega)
  clear hD
  have HRD := Lib.hid hrd
  have HRU4 := Lib.hid (HRU3.out.keep hb4)
  have hcu := HGU.out.2
  clear ho3 hb4 hrd hgd HC1 HC3 HRU HRU3
  have e1 : IntKind.i64.wrap ((U.length : Int) - 1) = 0 := by rw [IntKind.wrap_i64]; omega
  have e2 : IntKind.i64.wrap ((D.length : Int) - 1) = 0 := by rw [IntKind.wrap_i64]; omega
  clear HUE HDE hU2 hD2 hcu hcd
  go_upto_region 5 with fail
  go_cut [2] (fun v wc => ∃ q cc, v = .slice q 0 cc ∧ Hid (Below w.heap.size w wc))
  case first =>
    rename_i J K' hJ hK
    refine wp_region_aldz D5z (tab0z gu cu gd D.length cd) (fun _ => false) 8 (fun _ _ w' => Below w4.heap.size w4 w') (by kernel_rfl) (by kernel_rfl) (by kernel_rfl) (by kernel_rfl) (by decide) (by kernel_rfl) (fun i f f' w' w'' hI hb _ => Below.thru hI hI.size hb) (by kernel_rfl) (fun f => (Below.refl _ _).drew) ?_ ?_ ?_
    · refine .cons (fun j f w' hj hI hs => ⟨wanted_none rfl, _, rfl, .val (rn_move rfl) ⟨⟨Below.refl _ _, fr_old rfl rfl⟩, (fun h => by cases h)⟩⟩) ?_
      refine .cons (fun j f w' hj hI hs => ⟨wanted_none rfl, _, rfl, .val (rn_move rfl) ⟨⟨Below.refl _ _, fr_old rfl rfl⟩, (fun h => by cases h)⟩⟩) ?_
      refine .cons (fun j f w' hj hI hs => ⟨wanted_none rfl, _, rfl, .val (rn_move rfl) ⟨⟨Below.refl _ _, fr_old rfl rfl⟩, (fun h => by cases h)⟩⟩) ?_
      refine .cons (fun j f w' hj hI hs => ⟨wanted_none rfl, _, rfl, .val (rn_slice49 rfl ((fr_own rfl rfl).trans (hs 22 (by kernel_rfl))) ((fr_own rfl rfl).trans (hs 23 (by kernel_rfl))) ((fr_own rfl rfl).trans (hs 24 (by kernel_rfl))) (Nat.zero_le _)) ⟨⟨Below.refl _ _, rfl⟩, (fun h => by cases h)⟩⟩) ?_
      refine .cons (fun j f w' hj hI hs => ⟨wanted_none rfl, _, rfl, .val (rn_move rfl) ⟨⟨Below.refl _ _, fr_old rfl rfl⟩, (fun h => by cases h)⟩⟩) ?_
      refine .cons (fun j f w' hj hI hs => ⟨wanted_none rfl, _, rfl, .val (rn_move rfl) ⟨⟨Below.refl _ _, fr_old rfl rfl⟩, (fun h => by cases h)⟩⟩) ?_
      refine .cons (fun j f w' hj hI hs => ⟨wanted_none rfl, _, rfl, .val (rn_move rfl) ⟨⟨Below.refl _ _, fr_old rfl rfl⟩, (fun h => by cases h)⟩⟩) ?_
      refine .cons (fun j f w' hj hI hs => ⟨wanted_none rfl, _, rfl, .val (rn_slice49 rfl ((fr_own rfl rfl).trans (hs 26 (by kernel_rfl))) ((fr_own rfl rfl).trans (hs 27 (by kernel_rfl))) ((fr_own rfl rfl).trans (hs 28 (by kernel_rfl))) (Nat.zero_le _)) ⟨⟨Below.refl _ _, rfl⟩, (fun h => by cases h)⟩⟩) .nil
    · refine .cons (fun f w' hI hs hne => ⟨wanted_none rfl, (fun d h => by rfl), ?_⟩) ?_
      · refine OpR.append0 rfl ((fr_own rfl rfl).trans (hs 25 (by kernel_rfl))) ((fr_own rfl rfl).trans (hs 29 (by kernel_rfl))) ?_
        exact ⟨⟨hI, fun d v hk => tab0z_keep d v hk, fun d h => by cases h; rfl⟩, Nat.le_refl _⟩
      refine .cons (fun f w' hI hs hne => ⟨wanted_none rfl, (fun d h => by rfl), ?_⟩) .nil
      have h30 : f 30 = _ := (hs 30 (by kernel_rfl))
      exact .inl ⟨_, _, rn_assign rfl, ⟨hI, fun d v hk => tab0z_keep d v hk, (fun d h => by cases h; exact (fr_own rfl rfl).trans h30)⟩, Nat.le_refl _⟩
    · intro f w' hI hs
      have h2 : f 2 = _ := (hs 2 (by kernel_rfl))
      refine hK _ _ (Met.intro (hJ _ _ ?_))
      (repeat apply Exists.intro)
      refine ⟨⟨_, _, h2, Below.thru K4.out K4.out.size hI⟩, rfl⟩
  obtain ⟨q, cc, rfl, HB9⟩ := hcut
  go_wp2
  go_ret
  exact ⟨⟨_, _, rfl⟩, HB9.out⟩
set_option maxHeartbeats 1000000 in
theorem around_none (q : Option Addr) (c : Nat) (w : World) : Calls Tryz.prog 18 #[.slice q 0 c] w fun e w' => (∃ q cc, e = .returned (.slice q 0 cc)) ∧ Below w.heap.size w w' := by
  go_enter Tryz.func18, Tryz.ntmps18
  go_wp2
  go_ret
  exact ⟨⟨_, _, rfl⟩, Below.refl _ _⟩
end Go.Proofs.YtljmhejljpfaiaaGreat

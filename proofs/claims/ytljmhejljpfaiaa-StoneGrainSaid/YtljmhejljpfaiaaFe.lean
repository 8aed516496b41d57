import Derived.Test.YtljmhejljpfaiaaDi
import Derived.Test.YtljmhejljpfaiaaFd
namespace Go.Proofs.Ytljmhejljpfaiaa
set_option maxRecDepth 100000
open Go.RowKit Go.Shelf

/-! the reference's cross -/
def DB6 (t : Nat) : Bool := Nat.beq t 5 || Nat.beq t 6 || (Nat.ble 7 t && Nat.ble t 13)
def alB6 (t : Nat) : Bool := Nat.beq t 5 || Nat.beq t 6
def tabB6 (b o n c k : Nat) (x z x2 z2 : Int) (W d : Nat) : Kd :=
  if d = 5 then kP W else if d = 6 then kP W else
    [.v (.slice (some ⟨b, o, none⟩) n c), .v (.int .i64 k), .v (.pointer (some ⟨b, o + k * 2, none⟩)), .v (.agg #[.int .i64 x, .int .i64 z]), .v (.slice (some ⟨b, o, none⟩) n c), .v (.int .i64 k), .v (.agg #[.int .i64 x2, .int .i64 z2])].getD (d - 7) .any
theorem tabB6_st {b o n c k : Nat} {x z x2 z2 : Int} {W T : Nat} {w : World} {p0 q0 p q : Int} (h : w.heap[T]? = some (.cells #[.int .i64 p0, .int .i64 q0] 24 (0, 0))) (d : Nat) (v : Value) (hk : kd (tabB6 b o n c k x z x2 z2 W d) v w) :
    kd (tabB6 b o n c k x z x2 z2 W d) v ((w.setCell ⟨T, 0, none⟩ (.int .i64 p)).setCell ⟨T, 1, none⟩ (.int .i64 q)) := by
  have kp : ∀ v, kd (kP W) v w → kd (kP W) v ((w.setCell ⟨T, 0, none⟩ (.int .i64 p)).setCell ⟨T, 1, none⟩ (.int .i64 q)) := by
    rintro v ⟨C, h1, h2, x, z, h3⟩
    by_cases e : C = T
    · subst e; exact ⟨C, h1, h2, p, q, blk2_st h3⟩
    · exact ⟨C, h1, h2, x, z, blk2_far h3 e⟩
  unfold tabB6 at hk ⊢
  split at hk
  · rw [if_pos ‹_›]; exact kp v hk
  · rw [if_neg ‹_›]
    split at hk
    · rw [if_pos ‹_›]; exact kp v hk
    · rw [if_neg ‹_›]
      generalize d - 7 = j at *
      match j, hk with
      | 0, hk => exact hk
      | 1, hk => exact hk
      | 2, hk => exact hk
      | 3, hk => exact hk
      | 4, hk => exact hk
      | 5, hk => exact hk
      | 6, hk => exact hk
      | j + 7, _ => trivial
/-- the cross product of an edge -/
def crR (l : List Pt) (k : Nat) : Int := px l k * pz l (nx l.length k) - px l (nx l.length k) * pz l k
set_option maxHeartbeats 16000000 in
theorem rcross_any (b o c k : Nat) (l : List Pt) (w : World) (hr : Row w b o l) (hk : k < l.length) (h12 : l.length ≤ 1000) (hx : Bx l) :
    Calls Try.prog 65 #[.slice (some ⟨b, o, none⟩) l.length c, .int .i64 k] w fun e w' => e = .returned (.int .i64 (crR l k)) ∧ Below w.heap.size w w' := by
  have hxi := hx k hk
  have hxj := hx _ (nx_lt hk)
  have HCK := Lib.hid (fun W (kk : Below w.heap.size w W) => hr.keep kk k hk)
  have HNK := Lib.hid (fun W (kk : Below w.heap.size w W) => rnext_any b o c k l W (hr.keep kk) hk (by omega))
  have hbw := hr.lt (by omega)
  have hkn := hk
  unfold crR
  clear hr hx hk
  generalize px l (nx l.length k) = jx at *
  generalize pz l (nx l.length k) = jz at *
  generalize px l k = ax at *
  generalize pz l k = az at *
  generalize l.length = n at *
  have hm1 := mul_bd (A := 2000) (B := 2000) (a := ax) (b := jz) (by omega) (by omega) (by omega)
  have hm2 := mul_bd (A := 2000) (B := 2000) (a := jx) (b := az) (by omega) (by omega) (by omega)
  have e1 := IntWalk.i64_in (ax * jz) (by omega)
  have e2 := IntWalk.i64_in (jx * az) (by omega)
  have e3 := IntWalk.i64_in (ax * jz - jx * az) (by omega)
  clear hm1 hm2 hxi hxj
  go_enter Try.func65, Try.ntmps65
  go_wp2_with fail
  go_cut [5, 6] (fun u5 u6 wc => ∃ T5 T6, u5 = .pointer (some ⟨T5, 0, none⟩) ∧ u6 = .pointer (some ⟨T6, 0, none⟩) ∧ Hid ((wc.heap[T5]? = some (.cells #[.int .i64 ax, .int .i64 az] 24 (0, 0)) ∧ wc.heap[T6]? = some (.cells #[.int .i64 jx, .int .i64 jz] 24 (0, 0))) ∧ Below w.heap.size w wc ∧ w.heap.size ≤ T5 ∧ w.heap.size ≤ T6))
  case first =>
    rename_i J K' hJ hK
    refine wp_region_alf DB6 (tabB6 b o n c k (ax) (az) (jx) (jz) w.heap.size) alB6 9
      (fun i f w' => Below w.heap.size w w' ∧ (10 ≤ i → ∃ T5, f 5 = .pointer (some ⟨T5, 0, none⟩) ∧ w.heap.size ≤ T5 ∧ w'.heap[T5]? = some (.cells #[.int .i64 (ax), .int .i64 (az)] 24 (0, 0))) ∧ (11 ≤ i → ∃ T6, f 6 = .pointer (some ⟨T6, 0, none⟩) ∧ w.heap.size ≤ T6 ∧ w'.heap[T6]? = some (.cells #[.int .i64 (jx), .int .i64 (jz)] 24 (0, 0))))
      (by kernel_rfl) (by kernel_rfl) (by kernel_rfl) (by kernel_rfl) (by decide) (by kernel_rfl) (fun i f f' w' w'' hI hb he => ⟨Below.thru hI.1 hI.1.size hb, fun h => by
        obtain ⟨T, h1, h2, h3⟩ := hI.2.1 h
        rcases he with he | he
        · omega
        · exact ⟨T, (he 5 rfl).trans h1, h2, (hb.block T (Array.getElem?_eq_some_iff.1 h3).1).trans h3⟩, fun h => by
        obtain ⟨T, h1, h2, h3⟩ := hI.2.2 h
        rcases he with he | he
        · omega
        · exact ⟨T, (he 6 rfl).trans h1, h2, (hb.block T (Array.getElem?_eq_some_iff.1 h3).1).trans h3⟩⟩) (by kernel_rfl) (fun f => ⟨(Below.refl _ _).drew, fun h => by omega, fun h => by omega⟩) ?_ ?_ ?_
    · refine .cons (fun j f w' hj hI hs => ⟨wanted_none rfl, _, rfl, .val (rn_move rfl) ⟨⟨Below.refl _ _, fr_old rfl rfl⟩, (fun h => by cases h)⟩⟩) ?_
      refine .cons (fun j f w' hj hI hs => ⟨wanted_none rfl, _, rfl, .val (rn_move rfl) ⟨⟨Below.refl _ _, fr_old rfl rfl⟩, (fun h => by cases h)⟩⟩) ?_
      refine .cons (fun j f w' hj hI hs => ⟨wanted_none rfl, _, rfl, .val (rn_idx22 rfl ((fr_own rfl rfl).trans (hs 7 (by kernel_rfl))) ((fr_own rfl rfl).trans (hs 8 (by kernel_rfl))) hkn) ⟨⟨Below.refl _ _, rfl⟩, (fun h => by cases h)⟩⟩) ?_
      refine .cons (fun j f w' hj hI hs => ⟨wanted_none rfl, _, rfl, .val (rn_load24 rfl ((fr_own rfl rfl).trans (hs 9 (by kernel_rfl))) (HCK.out w' (hI.1)).1 (HCK.out w' (hI.1)).2) ⟨⟨Below.refl _ _, rfl⟩, (fun h => by cases h)⟩⟩) ?_
      refine .cons (fun j f w' hj hI hs => ⟨wanted_none rfl, _, rfl, .val (rn_move rfl) ⟨⟨Below.refl _ _, fr_old rfl rfl⟩, (fun h => by cases h)⟩⟩) ?_
      refine .cons (fun j f w' hj hI hs => ⟨wanted_none rfl, _, rfl, .val (rn_move rfl) ⟨⟨Below.refl _ _, fr_old rfl rfl⟩, (fun h => by cases h)⟩⟩) ?_
      refine .cons (fun j f w' hj hI hs => ⟨wanted_none rfl, _, rfl, .call2 rfl cf64 rfl rfl rfl rfl (by
        rw [show f 11 = _ from hs 11 (by kernel_rfl), show f 12 = _ from hs 12 (by kernel_rfl)]
        exact (HNK.out w' (hI.1)).mono fun _ _ ⟨he, hb⟩ => ⟨_, he, ⟨hb, rfl⟩, (fun h => by cases h)⟩)⟩) ?_
      refine .cons (fun j f w' hj hI hs => ⟨wanted_none rfl, _, rfl, .val (rn_alloc24 rfl) ⟨⟨bl1 _ _, _, rfl, hI.1.size, 0, 0, World.alloc_heap_new _ _⟩, fun _ => ⟨rfl, by simp⟩⟩⟩) ?_
      refine .cons (fun j f w' hj hI hs => ⟨wanted_none rfl, _, rfl, .val (rn_alloc24 rfl) ⟨⟨bl1 _ _, _, rfl, hI.1.size, 0, 0, World.alloc_heap_new _ _⟩, fun _ => ⟨rfl, by simp⟩⟩⟩) .nil
    · refine .cons (fun f w' hI hs hne => ⟨wanted_none rfl, rfl, ?_⟩) ?_
      · have h10 : f 10 = _ := (hs 10 (by kernel_rfl))
        obtain ⟨T, e5, hW, x0, z0, hT⟩ : ∃ T, f 5 = .pointer (some ⟨T, 0, none⟩) ∧ w.heap.size ≤ T ∧ ∃ x z : Int, w'.heap[T]? = some (.cells #[.int .i64 x, .int .i64 z] 24 (0, 0)) := (hs 5 (by kernel_rfl))
        exact .skip (rn_store24 rfl ((fr_own rfl rfl).trans e5) ((fr_own rfl rfl).trans h10) hT) ⟨⟨⟨(hI.1.setCell hW _).setCell hW _, fun _ => ⟨T, e5, hW, blk2_st hT⟩, fun h => by omega⟩, fun d v hk => tabB6_st hT d v hk⟩, by simp [World.setCell]⟩
      refine .cons (fun f w' hI hs hne => ⟨wanted_none rfl, rfl, ?_⟩) .nil
      have h13 : f 13 = _ := (hs 13 (by kernel_rfl))
      obtain ⟨T, e6, hW, x0, z0, hT⟩ : ∃ T, f 6 = .pointer (some ⟨T, 0, none⟩) ∧ w.heap.size ≤ T ∧ ∃ x z : Int, w'.heap[T]? = some (.cells #[.int .i64 x, .int .i64 z] 24 (0, 0)) := (hs 6 (by kernel_rfl))
      obtain ⟨T5, e5, hW5, h5⟩ := hI.2.1 (by decide)
      have hne2 : T5 ≠ T := by
        intro e
        have := hne 5 6 (by kernel_rfl) (by kernel_rfl) rfl rfl (by decide)
        rw [e5, e6, e] at this
        exact this rfl
      exact .skip (rn_store24 rfl ((fr_own rfl rfl).trans e6) ((fr_own rfl rfl).trans h13) hT) ⟨⟨⟨(hI.1.setCell hW _).setCell hW _, fun _ => ⟨T5, e5, hW5, blk2_far h5 hne2⟩, fun _ => ⟨T, e6, hW, blk2_st hT⟩⟩, fun d v hk => tabB6_st hT d v hk⟩, by simp [World.setCell]⟩
    · intro f w' hI hs
      obtain ⟨T5, e5, hW5, h5⟩ := hI.2.1 (by decide)
      obtain ⟨T6, e6, hW6, h6⟩ := hI.2.2 (by decide)
      refine hK _ _ (Met.intro (hJ _ _ ?_))
      (repeat apply Exists.intro)
      refine ⟨⟨T5, T6, e5, e6, ⟨h5, h6⟩, hI.1, hW5, hW6⟩, rfl⟩
  obtain ⟨T5, T6, rfl, rfl, HTT⟩ := hcut
  have c50 : wc.cell? ⟨T5, 0, none⟩ = some (.int .i64 ax) := by simp [World.cell?, HTT.out.1.1]
  have c51 : wc.cell? ⟨T5, 1, none⟩ = some (.int .i64 az) := by simp [World.cell?, HTT.out.1.1]
  have c60 : wc.cell? ⟨T6, 0, none⟩ = some (.int .i64 jx) := by simp [World.cell?, HTT.out.1.2]
  have c61 : wc.cell? ⟨T6, 1, none⟩ = some (.int .i64 jz) := by simp [World.cell?, HTT.out.1.2]
  go_wp2
  go_ret
  exact ⟨rfl, HTT.out.2.1⟩
end Go.Proofs.Ytljmhejljpfaiaa

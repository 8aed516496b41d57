import Derived.Test.YtljmhejljpfaiaaFf
namespace Go.Proofs.Ytljmhejljpfaiaa
set_option maxRecDepth 100000
open Go.RowKit Go.Shelf

/-! the reference's Centre -/
def DB7 (t : Nat) : Bool := Nat.beq t 8 || Nat.beq t 9 || (Nat.ble 16 t && Nat.ble t 22)
def alB7 (t : Nat) : Bool := Nat.beq t 8 || Nat.beq t 9
def tabB7 (b o n c k : Nat) (x z x2 z2 : Int) (W d : Nat) : Kd :=
  if d = 8 then kP W else if d = 9 then kP W else
    [.v (.slice (some ⟨b, o, none⟩) n c), .v (.int .i64 k), .v (.pointer (some ⟨b, o + k * 2, none⟩)), .v (.agg #[.int .i64 x, .int .i64 z]), .v (.slice (some ⟨b, o, none⟩) n c), .v (.int .i64 k), .v (.agg #[.int .i64 x2, .int .i64 z2])].getD (d - 16) .any
theorem tabB7_st {b o n c k : Nat} {x z x2 z2 : Int} {W T : Nat} {w : World} {p0 q0 p q : Int} (h : w.heap[T]? = some (.cells #[.int .i64 p0, .int .i64 q0] 24 (0, 0))) (d : Nat) (v : Value) (hk : kd (tabB7 b o n c k x z x2 z2 W d) v w) :
    kd (tabB7 b o n c k x z x2 z2 W d) v ((w.setCell ⟨T, 0, none⟩ (.int .i64 p)).setCell ⟨T, 1, none⟩ (.int .i64 q)) := by
  have kp : ∀ v, kd (kP W) v w → kd (kP W) v ((w.setCell ⟨T, 0, none⟩ (.int .i64 p)).setCell ⟨T, 1, none⟩ (.int .i64 q)) := by
    rintro v ⟨C, h1, h2, x, z, h3⟩
    by_cases e : C = T
    · subst e; exact ⟨C, h1, h2, p, q, blk2_st h3⟩
    · exact ⟨C, h1, h2, x, z, blk2_far h3 e⟩
  unfold tabB7 at hk ⊢
  split at hk
  · rw [if_pos ‹_›]; exact kp v hk
  · rw [if_neg ‹_›]
    split at hk
    · rw [if_pos ‹_›]; exact kp v hk
    · rw [if_neg ‹_›]
      generalize d - 16 = j at *
      match j, hk with
      | 0, hk => exact hk
      | 1, hk => exact hk
      | 2, hk => exact hk
      | 3, hk => exact hk
      | 4, hk => exact hk
      | 5, hk => exact hk
      | 6, hk => exact hk
      | j + 7, _ => trivial
def mxR (l : List Pt) (k : Nat) : Int := (px l k + px l (nx l.length k)) * crR l k
def mzR (l : List Pt) (k : Nat) : Int := (pz l k + pz l (nx l.length k)) * crR l k
theorem mx3_rsm (l : List Pt) : mx3 l = rsm (mxR l) l.length := sm_rsm (mxR l)
theorem mz3_rsm (l : List Pt) : mz3 l = rsm (mzR l) l.length := sm_rsm (mzR l)
set_option maxHeartbeats 16000000 in
theorem rcentre_any (b o c : Nat) (l : List Pt) (w : World) (hr : Row w b o l) (h3 : 0 < l.length) (h12 : l.length ≤ 1000) (hx : Bx l) :
    Calls Try.prog 23 #[.slice (some ⟨b, o, none⟩) l.length c] w fun e w' => e = .returned (.tuple #[.int .i64 (mx3 l), .int .i64 (mz3 l), .int .i64 (3 * tw l)]) ∧ Below w.heap.size w w' := by
  rw [mx3_rsm, mz3_rsm]
  have HR := Lib.hid hr; have HX := Lib.hid hx
  have HNX := Lib.hid (fun W i (k : Below w.heap.size w W) (h : i < l.length) => rnext_any b o c i l W (hr.keep k) h (by omega))
  have HCR := Lib.hid (fun W i (k : Below w.heap.size w W) (h : i < l.length) => rcross_any b o c i l W (hr.keep k) h h12 hx)
  have HTW := Lib.hid (fun W (k : Below w.heap.size w W) => rtwice_any b o c l W (hr.keep k) h3 h12 hx)
  have htw := tw_bd hx h12
  have HBX := Lib.hid (rsm_bd (mxR l) 32000000000 l.length (fun k hk => hx.mox ⟨k, hk⟩))
  have HBZ := Lib.hid (rsm_bd (mzR l) 32000000000 l.length (fun k hk => hx.moz ⟨k, hk⟩))
  have HMX : Hid (∀ k, k < l.length → -32000000000 ≤ mxR l k ∧ mxR l k ≤ 32000000000) := fun k hk => hx.mox ⟨k, hk⟩
  have HMZ : Hid (∀ k, k < l.length → -32000000000 ≤ mzR l k ∧ mzR l k ≤ 32000000000) := fun k hk => hx.moz ⟨k, hk⟩
  have e9 := IntWalk.i64_in (3 * tw l) (by omega)
  have HSX : Hid (∀ k, rsm (mxR l) (k + 1) = rsm (mxR l) k + mxR l k) := fun _ => rfl
  have HSZ : Hid (∀ k, rsm (mzR l) (k + 1) = rsm (mzR l) k + mzR l k) := fun _ => rfl
  have HZ : Hid (rsm (mxR l) 0 = 0 ∧ rsm (mzR l) 0 = 0) := ⟨rfl, rfl⟩
  obtain ⟨n, hn⟩ : ∃ n, n = l.length := ⟨_, rfl⟩
  have HN := Lib.hid hn
  have HDX : Hid (∀ k, mxR l k = (px l k + px l (nx n k)) * crR l k) := fun k => by unfold mxR; rw [hn]
  have HDZ : Hid (∀ k, mzR l k = (pz l k + pz l (nx n k)) * crR l k) := fun k => by unfold mzR; rw [hn]
  have hbw := hr.lt h3
  rw [← hn] at h3 h12 HNX HCR HTW HBX HBZ HMX HMZ ⊢
  generalize tw l = t at *
  clear hr hx hn htw
  go_enter Try.func23, Try.ntmps23
  go_wp2
  go_loopw [7, 5, 6] (fun i sx sz wr => ∃ k : Nat, k ≤ n ∧ i = .int .i64 k ∧ sx = .int .i64 (rsm (mxR l) k) ∧ sz = .int .i64 (rsm (mzR l) k) ∧ Hid (Below w.heap.size w wr)) (fun i _ _ _ => n - (intOf i).toNat)
  case atStart => exact ⟨0, Nat.zero_le _, rfl, by rw [HZ.out.1], by rw [HZ.out.2], Below.refl _ _⟩
  case round =>
    obtain ⟨k, hk, rfl, rfl, rfl, HB⟩ := hrel
    by_cases hlt : k < n
    · have hj := nx_lt hlt
      have hxi := HX.out k (by rw [← HN.out]; exact hlt)
      have hxj := HX.out (nx n k) (by rw [← HN.out]; exact hj)
      have HCK : Hid (∀ W, Below w.heap.size w W → W.cell? ⟨b, o + k * 2, none⟩ = some (.int .i64 (px l k)) ∧ W.cell? ⟨b, o + k * 2 + 1, none⟩ = some (.int .i64 (pz l k))) := fun W kk => HR.out.keep kk k (by rw [← HN.out]; exact hlt)
      have HNK := Lib.hid (fun W (kk : Below w.heap.size w W) => HNX.out W k kk hlt)
      have HCC := Lib.hid (fun W (kk : Below w.heap.size w W) => HCR.out W k kk hlt)
      have hkn := hlt
      go_wp2_with fail
      go_cut [8, 9] (fun u5 u6 wc => ∃ T5 T6, u5 = .pointer (some ⟨T5, 0, none⟩) ∧ u6 = .pointer (some ⟨T6, 0, none⟩) ∧ Hid ((wc.heap[T5]? = some (.cells #[.int .i64 (px l k), .int .i64 (pz l k)] 24 (0, 0)) ∧ wc.heap[T6]? = some (.cells #[.int .i64 (px l (nx n k)), .int .i64 (pz l (nx n k))] 24 (0, 0))) ∧ Below wr.heap.size wr wc ∧ wr.heap.size ≤ T5 ∧ wr.heap.size ≤ T6))
      case first =>
        rename_i J K' hJ hK
        refine wp_region_alf DB7 (tabB7 b o n c k (px l k) (pz l k) (px l (nx n k)) (pz l (nx n k)) wr.heap.size) alB7 9
          (fun i f w' => Below wr.heap.size wr w' ∧ (10 ≤ i → ∃ T5, f 8 = .pointer (some ⟨T5, 0, none⟩) ∧ wr.heap.size ≤ T5 ∧ w'.heap[T5]? = some (.cells #[.int .i64 (px l k), .int .i64 (pz l k)] 24 (0, 0))) ∧ (11 ≤ i → ∃ T6, f 9 = .pointer (some ⟨T6, 0, none⟩) ∧ wr.heap.size ≤ T6 ∧ w'.heap[T6]? = some (.cells #[.int .i64 (px l (nx n k)), .int .i64 (pz l (nx n k))] 24 (0, 0))))
          (by kernel_rfl) (by kernel_rfl) (by kernel_rfl) (by kernel_rfl) (by decide) (by kernel_rfl) (fun i f f' w' w'' hI hb he => ⟨Below.thru hI.1 hI.1.size hb, fun h => by
            obtain ⟨T, h1, h2, h3⟩ := hI.2.1 h
            rcases he with he | he
            · omega
            · exact ⟨T, (he 8 rfl).trans h1, h2, (hb.block T (Array.getElem?_eq_some_iff.1 h3).1).trans h3⟩, fun h => by
            obtain ⟨T, h1, h2, h3⟩ := hI.2.2 h
            rcases he with he | he
            · omega
            · exact ⟨T, (he 9 rfl).trans h1, h2, (hb.block T (Array.getElem?_eq_some_iff.1 h3).1).trans h3⟩⟩) (by kernel_rfl) (fun f => ⟨(Below.refl _ _).drew, fun h => by omega, fun h => by omega⟩) ?_ ?_ ?_
        · refine .cons (fun j f w' hj hI hs => ⟨wanted_none rfl, _, rfl, .val (rn_move rfl) ⟨⟨Below.refl _ _, fr_old rfl rfl⟩, (fun h => by cases h)⟩⟩) ?_
          refine .cons (fun j f w' hj hI hs => ⟨wanted_none rfl, _, rfl, .val (rn_move rfl) ⟨⟨Below.refl _ _, fr_old rfl rfl⟩, (fun h => by cases h)⟩⟩) ?_
          refine .cons (fun j f w' hj hI hs => ⟨wanted_none rfl, _, rfl, .val (rn_idx22 rfl ((fr_own rfl rfl).trans (hs 16 (by kernel_rfl))) ((fr_own rfl rfl).trans (hs 17 (by kernel_rfl))) hkn) ⟨⟨Below.refl _ _, rfl⟩, (fun h => by cases h)⟩⟩) ?_
          refine .cons (fun j f w' hj hI hs => ⟨wanted_none rfl, _, rfl, .val (rn_load24 rfl ((fr_own rfl rfl).trans (hs 18 (by kernel_rfl))) (HCK.out w' (Below.thru HB.out HB.out.size hI.1)).1 (HCK.out w' (Below.thru HB.out HB.out.size hI.1)).2) ⟨⟨Below.refl _ _, rfl⟩, (fun h => by cases h)⟩⟩) ?_
          refine .cons (fun j f w' hj hI hs => ⟨wanted_none rfl, _, rfl, .val (rn_move rfl) ⟨⟨Below.refl _ _, fr_old rfl rfl⟩, (fun h => by cases h)⟩⟩) ?_
          refine .cons (fun j f w' hj hI hs => ⟨wanted_none rfl, _, rfl, .val (rn_move rfl) ⟨⟨Below.refl _ _, fr_old rfl rfl⟩, (fun h => by cases h)⟩⟩) ?_
          refine .cons (fun j f w' hj hI hs => ⟨wanted_none rfl, _, rfl, .call2 rfl cf64 rfl rfl rfl rfl (by
            rw [show f 20 = _ from hs 20 (by kernel_rfl), show f 21 = _ from hs 21 (by kernel_rfl)]
            exact (HNK.out w' (Below.thru HB.out HB.out.size hI.1)).mono fun _ _ ⟨he, hb⟩ => ⟨_, he, ⟨hb, by rw [HN.out]; rfl⟩, (fun h => by cases h)⟩)⟩) ?_
          refine .cons (fun j f w' hj hI hs => ⟨wanted_none rfl, _, rfl, .val (rn_alloc24 rfl) ⟨⟨bl1 _ _, _, rfl, hI.1.size, 0, 0, World.alloc_heap_new _ _⟩, fun _ => ⟨rfl, by simp⟩⟩⟩) ?_
          refine .cons (fun j f w' hj hI hs => ⟨wanted_none rfl, _, rfl, .val (rn_alloc24 rfl) ⟨⟨bl1 _ _, _, rfl, hI.1.size, 0, 0, World.alloc_heap_new _ _⟩, fun _ => ⟨rfl, by simp⟩⟩⟩) .nil
        · refine .cons (fun f w' hI hs hne => ⟨wanted_none rfl, rfl, ?_⟩) ?_
          · have h19 : f 19 = _ := (hs 19 (by kernel_rfl))
            obtain ⟨T, e5, hW, x0, z0, hT⟩ : ∃ T, f 8 = .pointer (some ⟨T, 0, none⟩) ∧ wr.heap.size ≤ T ∧ ∃ x z : Int, w'.heap[T]? = some (.cells #[.int .i64 x, .int .i64 z] 24 (0, 0)) := (hs 8 (by kernel_rfl))
            exact .skip (rn_store24 rfl ((fr_own rfl rfl).trans e5) ((fr_own rfl rfl).trans h19) hT) ⟨⟨⟨(hI.1.setCell hW _).setCell hW _, fun _ => ⟨T, e5, hW, blk2_st hT⟩, fun h => by omega⟩, fun d v hk => tabB7_st hT d v hk⟩, by simp [World.setCell]⟩
          refine .cons (fun f w' hI hs hne => ⟨wanted_none rfl, rfl, ?_⟩) .nil
          have h22 : f 22 = _ := (hs 22 (by kernel_rfl))
          obtain ⟨T, e6, hW, x0, z0, hT⟩ : ∃ T, f 9 = .pointer (some ⟨T, 0, none⟩) ∧ wr.heap.size ≤ T ∧ ∃ x z : Int, w'.heap[T]? = some (.cells #[.int .i64 x, .int .i64 z] 24 (0, 0)) := (hs 9 (by kernel_rfl))
          obtain ⟨T5, e5, hW5, h5⟩ := hI.2.1 (by decide)
          have hne2 : T5 ≠ T := by
            intro e
            have := hne 8 9 (by kernel_rfl) (by kernel_rfl) rfl rfl (by decide)
            rw [e5, e6, e] at this
            exact this rfl
          exact .skip (rn_store24 rfl ((fr_own rfl rfl).trans e6) ((fr_own rfl rfl).trans h22) hT) ⟨⟨⟨(hI.1.setCell hW _).setCell hW _, fun _ => ⟨T5, e5, hW5, blk2_far h5 hne2⟩, fun _ => ⟨T, e6, hW, blk2_st hT⟩⟩, fun d v hk => tabB7_st hT d v hk⟩, by simp [World.setCell]⟩
        · intro f w' hI hs
          obtain ⟨T5, e5, hW5, h5⟩ := hI.2.1 (by decide)
          obtain ⟨T6, e6, hW6, h6⟩ := hI.2.2 (by decide)
          refine hK _ _ (Met.intro (hJ _ _ ?_))
          (repeat apply Exists.intro)
          refine ⟨⟨T5, T6, e5, e6, ⟨h5, h6⟩, hI.1, hW5, hW6⟩, rfl⟩
      obtain ⟨T5, T6, rfl, rfl, HTT⟩ := hcut
      have HBC := Lib.hid (Below.thru HB.out HB.out.size HTT.out.2.1)
      have hbx := HBX.out k hk
      have hbz := HBZ.out k hk
      have hmx := HMX.out k hlt
      have hmz := HMZ.out k hlt
      have HS1 := Lib.hid (HSX.out k)
      have HS2 := Lib.hid (HSZ.out k)
      rw [HDX.out] at HS1 hmx
      rw [HDZ.out] at HS2 hmz
      have HT1 : Hid (∀ (d : Nat) (os : Array Obj), Calls Try.prog 65 #[.slice (some ⟨b, o, none⟩) n c, .int .i64 k] (Sort.grow (redrawn wc d) os) fun e w'' => e = .returned (.int .i64 (crR l k)) ∧ ∃ p : Regrown, w'' = Sort.grow (redrawn wc p.d) p.os) := fun d os =>
        Calls.regrown_of (HCC.out _ (Below.thru HBC.out HBC.out.size (below_regrown wc d os)))
      have c50 : wc.cell? ⟨T5, 0, none⟩ = some (.int .i64 (px l k)) := by simp [World.cell?, HTT.out.1.1]
      have c51 : wc.cell? ⟨T5, 1, none⟩ = some (.int .i64 (pz l k)) := by simp [World.cell?, HTT.out.1.1]
      have c60 : wc.cell? ⟨T6, 0, none⟩ = some (.int .i64 (px l (nx n k))) := by simp [World.cell?, HTT.out.1.2]
      have c61 : wc.cell? ⟨T6, 1, none⟩ = some (.int .i64 (pz l (nx n k))) := by simp [World.cell?, HTT.out.1.2]
      generalize crR l k = ck at *
      generalize px l (nx n k) = jx at *
      generalize pz l (nx n k) = jz at *
      generalize px l k = ax at *
      generalize pz l k = az at *
      generalize hsx : rsm (mxR l) k = s1 at *
      generalize hsz : rsm (mzR l) k = s2 at *
      have e1 := IntWalk.i64_in (ax + jx) (by omega)
      have e2 := IntWalk.i64_in (az + jz) (by omega)
      have e3 := IntWalk.i64_in ((ax + jx) * ck) (by omega)
      have e4 := IntWalk.i64_in ((az + jz) * ck) (by omega)
      have e5 := IntWalk.i64_in (s1 + (ax + jx) * ck) (by omega)
      have e6 := IntWalk.i64_in (s2 + (az + jz) * ck) (by omega)
      have f1 := cell_regrown c50
      have f3 := cell_regrown c60
      clear hbx hbz hmx hmz hsx hsz
      go_wp2_with fail
      refine wp_region_quiet_below (by kernel_rfl) (by kernel_rfl) ?_
      repeat (any_goals (first | go_big_quiet_step (exact HT1.out _ _) | quiet_step (exact HT1.out _ _)))
      refine wpQuiet_nil ?_
      intro _ hw'
      obtain ⟨⟨dq, osq⟩, hw''⟩ := hw'
      subst hw''
      have HBD := Lib.hid (Below.thru HBC.out HBC.out.size (below_regrown wc dq osq))
      have d51 := cell_regrown (d := dq) (os := osq) c51
      have d61 := cell_regrown (d := dq) (os := osq) c61
      clear f1 f3 c50 c51 c60 c61 HT1 HTT
      generalize Sort.grow (redrawn wc dq) osq = wd at *
      have HT2 : Hid (∀ (d : Nat) (os : Array Obj), Calls Try.prog 65 #[.slice (some ⟨b, o, none⟩) n c, .int .i64 k] (Sort.grow (redrawn wd d) os) fun e w'' => e = .returned (.int .i64 ck) ∧ ∃ p : Regrown, w'' = Sort.grow (redrawn wd p.d) p.os) := fun d os =>
        Calls.regrown_of (HCC.out _ (Below.thru HBD.out HBD.out.size (below_regrown wd d os)))
      have f2 := cell_regrown d51
      have f4 := cell_regrown d61
      go_wp2_with fail
      refine wp_region_quiet_below (by kernel_rfl) (by kernel_rfl) ?_
      repeat (any_goals (first | go_big_quiet_step (exact HT2.out _ _) | quiet_step (exact HT2.out _ _)))
      refine wpQuiet_nil ?_
      intro _ hw'
      obtain ⟨⟨dq2, osq2⟩, hw''⟩ := hw'
      subst hw''
      have HBE := Lib.hid (Below.thru HBD.out HBD.out.size (below_regrown wd dq2 osq2))
      clear f2 f4 d51 d61 HT2
      generalize Sort.grow (redrawn wd dq2) osq2 = we at *
      go_wp2
      go_roundw
      case rel => exact ⟨k + 1, by omega, by go_num, by rw [HS1.out], by rw [HS2.out], HBE.out⟩
      case measure => simp [intOf]; omega
    · obtain rfl : k = n := by omega
      go_wp2_with fail
      refine (HTW.out wr HB.out).mono ?_
      rintro e w1 ⟨rfl, hb1⟩
      have K1 := Lib.hid (Below.thru HB.out HB.out.size hb1)
      clear hb1
      go_wp2
      exact bodyPost_ret (v := .tuple #[.int .i64 (rsm (mxR l) k), .int .i64 (rsm (mzR l) k), .int .i64 (3 * t)]) (by simp [results, Try.results23, go_sem]) rfl ⟨rfl, K1.out⟩
end Go.Proofs.Ytljmhejljpfaiaa

import Derived.Test.YtljmhejljpfaiaaDb
import Derived.Test.YtljmhejljpfaiaaDh
import Derived.Test.YtljmhejljpfaiaaEb
import Derived.Deep.CutBlock
import Derived.Deep.DeepCutAuto
namespace Go.Proofs.Ytljmhejljpfaiaa
set_option maxRecDepth 100000
open Go.RowKit Go.Shelf

/-! the reference's Border -/
/-- the points of the first k edges -/
def rbp (l : List Pt) (k : Nat) : List Pt := (List.range k).flatMap fun i => rps l i (lngE l i)
theorem rbp_succ (l : List Pt) (k : Nat) : rbp l (k + 1) = rbp l k ++ rps l k (lngE l k) := by unfold rbp; rw [List.range_succ, List.flatMap_append]; simp
theorem rps_len (l : List Pt) (i k : Nat) : (rps l i k).length ≤ k := by
  unfold rps
  rw [List.length_map]
  exact Nat.le_trans (List.length_filter_le _ _) (by simp)
theorem lngE_le {l : List Pt} (hx : Bx l) {i : Nat} (hi : i < l.length) : lngE l i ≤ 2000 := by
  have h1 := hx i hi
  have h2 := hx _ (nx_lt hi)
  unfold lngE
  omega
theorem rbp_len {l : List Pt} (hx : Bx l) : ∀ k, k ≤ l.length → (rbp l k).length ≤ k * 2000
  | 0, _ => by simp [rbp]
  | k + 1, h => by
    have ih := rbp_len hx k (by omega)
    have h1 := rps_len l k (lngE l k)
    have h2 := lngE_le hx (i := k) (by omega)
    rw [rbp_succ, List.length_append]
    omega
theorem rbp_bp {l : List Pt} (hd : ∀ i, i < l.length → ¬ (px l (nx l.length i) = px l i ∧ pz l (nx l.length i) = pz l i)) : rbp l l.length = bp l := by
  unfold rbp bp bpE
  have h : (List.range l.length) = (List.finRange l.length).map (·.1) := by
    refine List.ext_getElem (by simp) fun i h1 h2 => ?_
    simp
  rw [h, List.flatMap_map]
  show List.flatten _ = List.flatten _
  refine congrArg List.flatten (List.map_congr_left fun i _ => ?_)
  exact rps_eps l i.1 (hd i.1 i.2)
/-- append to a row of one's own, as one step of a region that draws: where the new row lies -/
theorem step_append_own_at {P : Program} {ops : Array Oper} {o : Oper} {a : Act} {w : World} {K : Act → World → Prop} {Q : Exit → Act → World → Prop} {E : Prop}
    (hg : o.guard = none) (s x : Operand) (t : TypeId) (hop : o.op = Op.call { callee := Callee.builtin Builtin.append, args := #[s, x], argTypes := #[t, t] })
    (base : Nat) (e : TypeId) (i : TypeInfo) (z : Value) (size bytes : Nat) (h1 : P.underlying t = some (.slice e)) (h2 : P.info? e = some i) (h3 : i.zero = some z) (h4 : i.size = size) (h5 : i.bytes = bytes) (h6 : z.cells.size = size) (h7 : 0 < size)
    (v : Value) (n : Nat) (xs : List Value) (hs : a.eval s = v) (hown : w.ownsRow base e size v n xs)
    (ad : Addr) (m c : Nat) (news : List Value) (hx : a.eval x = .slice (some ad) m c) (hn : news.length = m * size) (hc : ∀ j u, news[j]? = some u → w.cell? (ad.add j) = some u) (h1c : ∀ u ∈ news, u.oneCell' = true)
    (b1 : n + m ≤ maxLen) (b2 : (n + m) * bytes ≤ 140737488355328) (hbase : base ≤ w.heap.size)
    (hK : ∀ v' w', w'.ownsRow base e size v' (n + m) (xs ++ news) → w.grownBy w' v.ownBlock → (v'.ownBlock = v.ownBlock ∨ v'.ownBlock = some w.heap.size) → K (a.put o.dst v') w') :
    if Region.wanted o (yielded ops a.tmps) = true then Oper.wp P o a w K Q else E := by
  have hw : Region.wanted o (yielded ops a.tmps) = true := by simp [Region.wanted, hg]
  rw [if_pos hw]
  obtain ⟨v', w', hrun, r1, r2, _, r4⟩ := run_append_own_at (P := P) (w := w) base t o.type e i z size bytes h1 h2 h3 h4 h5 h6 h7 v n xs hown ad m c news hn hc h1c b1 b2 hbase
  unfold Oper.wp
  simp [execOp, hop, resolve, invoke, builtin, hs, hx, hrun, Result.andThen]
  exact hK v' w' r1 r2 r4
def DB5 (t : Nat) : Bool := Nat.beq t 5 || Nat.beq t 6 || (Nat.ble 17 t && Nat.ble t 23)
def alB5 (t : Nat) : Bool := Nat.beq t 5 || Nat.beq t 6
def tabB5 (b o n c k : Nat) (x z x2 z2 : Int) (W d : Nat) : Kd :=
  if d = 5 then kP W else if d = 6 then kP W else
    [.v (.slice (some ⟨b, o, none⟩) n c), .v (.int .i64 k), .v (.pointer (some ⟨b, o + k * 2, none⟩)), .v (.agg #[.int .i64 x, .int .i64 z]), .v (.slice (some ⟨b, o, none⟩) n c), .v (.int .i64 k), .v (.agg #[.int .i64 x2, .int .i64 z2])].getD (d - 17) .any
theorem tabB5_st {b o n c k : Nat} {x z x2 z2 : Int} {W T : Nat} {w : World} {p0 q0 p q : Int} (h : w.heap[T]? = some (.cells #[.int .i64 p0, .int .i64 q0] 24 (0, 0))) (d : Nat) (v : Value) (hk : kd (tabB5 b o n c k x z x2 z2 W d) v w) :
    kd (tabB5 b o n c k x z x2 z2 W d) v ((w.setCell ⟨T, 0, none⟩ (.int .i64 p)).setCell ⟨T, 1, none⟩ (.int .i64 q)) := by
  have kp : ∀ v, kd (kP W) v w → kd (kP W) v ((w.setCell ⟨T, 0, none⟩ (.int .i64 p)).setCell ⟨T, 1, none⟩ (.int .i64 q)) := by
    rintro v ⟨C, h1, h2, x, z, h3⟩
    by_cases e : C = T
    · subst e; exact ⟨C, h1, h2, p, q, blk2_st h3⟩
    · exact ⟨C, h1, h2, x, z, blk2_far h3 e⟩
  unfold tabB5 at hk ⊢
  split at hk
  · rw [if_pos ‹_›]; exact kp v hk
  · rw [if_neg ‹_›]
    split at hk
    · rw [if_pos ‹_›]; exact kp v hk
    · rw [if_neg ‹_›]
      generalize d - 17 = j at *
      match j, hk with
      | 0, hk => exact hk
      | 1, hk => exact hk
      | 2, hk => exact hk
      | 3, hk => exact hk
      | 4, hk => exact hk
      | 5, hk => exact hk
      | 6, hk => exact hk
      | j + 7, _ => trivial
set_option maxHeartbeats 16000000 in
theorem rborder_any (b o c : Nat) (l : List Pt) (w : World) (hr : Row w b o l) (h3 : 0 < l.length) (h12 : l.length ≤ 12) (hx : Bx l)
    (hd : ∀ i, i < l.length → ¬ (px l (nx l.length i) = px l i ∧ pz l (nx l.length i) = pz l i)) :
    Calls Try.prog 34 #[.slice (some ⟨b, o, none⟩) l.length c] w fun e w' => (∃ v, e = .returned v ∧ OwnR w' w.heap.size v (bp l)) ∧ Below w.heap.size w w' := by
  obtain ⟨i0, hi, hz0, hz1, hz2⟩ := info_parts Try.info24
  have HR := Lib.hid hr; have HX := Lib.hid hx; have HD := Lib.hid hd
  have HNX := Lib.hid (fun W i (k : Below w.heap.size w W) (h : i < l.length) => rnext_any b o c i l W (hr.keep k) h (by omega))
  have HBP := Lib.hid (rbp_bp hd)
  have HLE := Lib.hid (rbp_len hx)
  have HLG := Lib.hid (fun i (h : i < l.length) => lngE_le hx h)
  obtain ⟨n, hn⟩ : ∃ n, n = l.length := ⟨_, rfl⟩
  have HN := Lib.hid hn
  have hbw := hr.lt h3
  rw [← hn] at h3 h12 HNX HBP HLE HLG ⊢
  clear hr hx hd hn
  go_enter Try.func34, Try.ntmps34
  go_wp2
  go_loopw [4, 3] (fun i v wr => ∃ k : Nat, k ≤ n ∧ i = .int .i64 k ∧ Hid (OwnR wr w.heap.size v (rbp l k)) ∧ Hid (Below w.heap.size w wr)) (fun i _ _ => n - (intOf i).toNat)
  case atStart => exact ⟨0, Nat.zero_le _, rfl, World.ownsRow_nil _ _ _ _, Below.refl _ _⟩
  case round =>
    obtain ⟨k, hk, rfl, HO, HB⟩ := hrel
    by_cases hlt : k < n
    · have hj := nx_lt hlt
      have hxi := HX.out k (by rw [← HN.out]; exact hlt)
      have hxj := HX.out (nx n k) (by rw [← HN.out]; exact hj)
      have hrow := HR.out.keep HB.out
      obtain ⟨ckx, ckz⟩ := hrow k (by rw [← HN.out]; exact hlt)
      have HCK : Hid (∀ W, Below w.heap.size w W → W.cell? ⟨b, o + k * 2, none⟩ = some (.int .i64 (px l k)) ∧ W.cell? ⟨b, o + k * 2 + 1, none⟩ = some (.int .i64 (pz l k))) := fun W kk => HR.out.keep kk k (by rw [← HN.out]; exact hlt)
      have HNK := Lib.hid (fun W (kk : Below w.heap.size w W) => HNX.out W k kk hlt)
      have hkn := hlt
      clear hrow ckx ckz
      go_wp2_with fail
      go_cut [5, 6] (fun u5 u6 wc => ∃ T5 T6, u5 = .pointer (some ⟨T5, 0, none⟩) ∧ u6 = .pointer (some ⟨T6, 0, none⟩) ∧ Hid ((wc.heap[T5]? = some (.cells #[.int .i64 (px l k), .int .i64 (pz l k)] 24 (0, 0)) ∧ wc.heap[T6]? = some (.cells #[.int .i64 (px l (nx n k)), .int .i64 (pz l (nx n k))] 24 (0, 0))) ∧ Below wr.heap.size wr wc ∧ wr.heap.size ≤ T5 ∧ wr.heap.size ≤ T6))
      case first =>
        rename_i J K' hJ hK
        refine wp_region_alf DB5 (tabB5 b o n c k (px l k) (pz l k) (px l (nx n k)) (pz l (nx n k)) wr.heap.size) alB5 9
          (fun i f w' => Below wr.heap.size wr w' ∧ (10 ≤ i → ∃ T5, f 5 = .pointer (some ⟨T5, 0, none⟩) ∧ wr.heap.size ≤ T5 ∧ w'.heap[T5]? = some (.cells #[.int .i64 (px l k), .int .i64 (pz l k)] 24 (0, 0))) ∧ (11 ≤ i → ∃ T6, f 6 = .pointer (some ⟨T6, 0, none⟩) ∧ wr.heap.size ≤ T6 ∧ w'.heap[T6]? = some (.cells #[.int .i64 (px l (nx n k)), .int .i64 (pz l (nx n k))] 24 (0, 0))))
          (by kernel_rfl) (by kernel_rfl) (by kernel_rfl) (by kernel_rfl) (by decide) (by kernel_rfl) (fun i f f' w' w'' hI hb he => ⟨Below.thru hI.1 hI.1.size hb, fun h => by
            obtain ⟨T, h1, h2, h3⟩ := hI.2.1 h
            rcases he with he | he
            · omega
            · exact ⟨T, (he 5 rfl).trans h1, h2, (hb.block T (Array.getElem?_eq_some_iff.1 h3).1).trans h3⟩, fun h => by
            obtain ⟨T, h1, h2, h3⟩ := hI.2.2 h
            rcases he with he | he
            · omega
            · exact ⟨T, (he 6 rfl).trans h1, h2, (hb.block T (Array.getElem?_eq_some_iff.1 h3).1).trans h3⟩⟩) (by kernel_rfl) (fun f => ⟨(Below.refl _ _).drew, fun h => by omega, fun h => by omega⟩) ?_ ?_ ?_
        · refine .cons (fun j f w' hj hI hs => ⟨wanted_none rfl, _, rfl, .val (rn_move rfl) ⟨⟨Below.refl _ _, fr_old rfl rfl⟩, (fun h => by cases h)⟩⟩) ?_
          refine .cons (fun j f w' hj hI hs => ⟨wanted_none rfl, _, rfl, .val (rn_move rfl) ⟨⟨Below.refl _ _, fr_old rfl rfl⟩, (fun h => by cases h)⟩⟩) ?_
          refine .cons (fun j f w' hj hI hs => ⟨wanted_none rfl, _, rfl, .val (rn_idx22 rfl ((fr_own rfl rfl).trans (hs 17 (by kernel_rfl))) ((fr_own rfl rfl).trans (hs 18 (by kernel_rfl))) hkn) ⟨⟨Below.refl _ _, rfl⟩, (fun h => by cases h)⟩⟩) ?_
          refine .cons (fun j f w' hj hI hs => ⟨wanted_none rfl, _, rfl, .val (rn_load24 rfl ((fr_own rfl rfl).trans (hs 19 (by kernel_rfl))) (HCK.out w' (Below.thru HB.out HB.out.size hI.1)).1 (HCK.out w' (Below.thru HB.out HB.out.size hI.1)).2) ⟨⟨Below.refl _ _, rfl⟩, (fun h => by cases h)⟩⟩) ?_
          refine .cons (fun j f w' hj hI hs => ⟨wanted_none rfl, _, rfl, .val (rn_move rfl) ⟨⟨Below.refl _ _, fr_old rfl rfl⟩, (fun h => by cases h)⟩⟩) ?_
          refine .cons (fun j f w' hj hI hs => ⟨wanted_none rfl, _, rfl, .val (rn_move rfl) ⟨⟨Below.refl _ _, fr_old rfl rfl⟩, (fun h => by cases h)⟩⟩) ?_
          refine .cons (fun j f w' hj hI hs => ⟨wanted_none rfl, _, rfl, .call2 rfl cf64 rfl rfl rfl rfl (by
            rw [show f 21 = _ from hs 21 (by kernel_rfl), show f 22 = _ from hs 22 (by kernel_rfl)]
            exact (HNK.out w' (Below.thru HB.out HB.out.size hI.1)).mono fun _ _ ⟨he, hb⟩ => ⟨_, he, ⟨hb, by rw [HN.out]; rfl⟩, (fun h => by cases h)⟩)⟩) ?_
          refine .cons (fun j f w' hj hI hs => ⟨wanted_none rfl, _, rfl, .val (rn_alloc24 rfl) ⟨⟨bl1 _ _, _, rfl, hI.1.size, 0, 0, World.alloc_heap_new _ _⟩, fun _ => ⟨rfl, by simp⟩⟩⟩) ?_
          refine .cons (fun j f w' hj hI hs => ⟨wanted_none rfl, _, rfl, .val (rn_alloc24 rfl) ⟨⟨bl1 _ _, _, rfl, hI.1.size, 0, 0, World.alloc_heap_new _ _⟩, fun _ => ⟨rfl, by simp⟩⟩⟩) .nil
        · refine .cons (fun f w' hI hs hne => ⟨wanted_none rfl, rfl, ?_⟩) ?_
          · have h20 : f 20 = _ := (hs 20 (by kernel_rfl))
            obtain ⟨T, e5, hW, x0, z0, hT⟩ : ∃ T, f 5 = .pointer (some ⟨T, 0, none⟩) ∧ wr.heap.size ≤ T ∧ ∃ x z : Int, w'.heap[T]? = some (.cells #[.int .i64 x, .int .i64 z] 24 (0, 0)) := (hs 5 (by kernel_rfl))
            exact .skip (rn_store24 rfl ((fr_own rfl rfl).trans e5) ((fr_own rfl rfl).trans h20) hT) ⟨⟨⟨(hI.1.setCell hW _).setCell hW _, fun _ => ⟨T, e5, hW, blk2_st hT⟩, fun h => by omega⟩, fun d v hk => tabB5_st hT d v hk⟩, by simp [World.setCell]⟩
          refine .cons (fun f w' hI hs hne => ⟨wanted_none rfl, rfl, ?_⟩) .nil
          have h23 : f 23 = _ := (hs 23 (by kernel_rfl))
          obtain ⟨T, e6, hW, x0, z0, hT⟩ : ∃ T, f 6 = .pointer (some ⟨T, 0, none⟩) ∧ wr.heap.size ≤ T ∧ ∃ x z : Int, w'.heap[T]? = some (.cells #[.int .i64 x, .int .i64 z] 24 (0, 0)) := (hs 6 (by kernel_rfl))
          obtain ⟨T5, e5, hW5, h5⟩ := hI.2.1 (by decide)
          have hne2 : T5 ≠ T := by
            intro e
            have := hne 5 6 (by kernel_rfl) (by kernel_rfl) rfl rfl (by decide)
            rw [e5, e6, e] at this
            exact this rfl
          exact .skip (rn_store24 rfl ((fr_own rfl rfl).trans e6) ((fr_own rfl rfl).trans h23) hT) ⟨⟨⟨(hI.1.setCell hW _).setCell hW _, fun _ => ⟨T5, e5, hW5, blk2_far h5 hne2⟩, fun _ => ⟨T, e6, hW, blk2_st hT⟩⟩, fun d v hk => tabB5_st hT d v hk⟩, by simp [World.setCell]⟩
        · intro f w' hI hs
          obtain ⟨T5, e5, hW5, h5⟩ := hI.2.1 (by decide)
          obtain ⟨T6, e6, hW6, h6⟩ := hI.2.2 (by decide)
          refine hK _ _ (Met.intro (hJ _ _ ?_))
          (repeat apply Exists.intro)
          refine ⟨⟨T5, T6, e5, e6, ⟨h5, h6⟩, hI.1, hW5, hW6⟩, rfl⟩
      obtain ⟨T5, T6, rfl, rfl, HTT⟩ := hcut
      obtain ⟨dx, hdx⟩ : ∃ dx, dx = px l (nx n k) - px l k := ⟨_, rfl⟩
      obtain ⟨dz, hdz⟩ : ∃ dz, dz = pz l (nx n k) - pz l k := ⟨_, rfl⟩
      obtain ⟨lg, hlg⟩ : ∃ lg, lg = lngE l k := ⟨_, rfl⟩
      have hlgv : (lg : Int) = max (dx.natAbs : Int) (dz.natAbs : Int) := by
        rw [hlg]; unfold lngE; rw [← HN.out, ← hdx, ← hdz]; omega
      have hlgp : 0 < lg := by
        have := HD.out k (by rw [← HN.out]; exact hlt)
        rw [← HN.out] at this
        rw [hlg]; unfold lngE; rw [← HN.out]; omega
      have hlg2 : lg ≤ 2000 := by have := HLG.out k hlt; omega
      have hbdx : -2000 ≤ dx ∧ dx ≤ 2000 := by omega
      have hbdz : -2000 ≤ dz ∧ dz ≤ 2000 := by omega
      have HWH : Hid (∀ q, rps l k (q + 1) = rps l k q ++ (if (((dx * q).tmod lg == 0) && ((dz * q).tmod lg == 0)) then [(px l k + (dx * q).tdiv lg, pz l k + (dz * q).tdiv lg)] else [])) := fun q => by
        rw [rps_succ]; unfold whE whp; rw [← hlg, ← HN.out, ← hdx, ← hdz]
      have HRB : Hid (rbp l (k + 1) = rbp l k ++ rps l k lg) := by show _ = _; rw [rbp_succ, hlg]
      have HRL := Lib.hid (fun q => rps_len l k q)
      have HRK := Lib.hid (HLE.out k hk)
      have e1 : px l (nx n k) - px l k = dx := hdx.symm
      have e2 : pz l (nx n k) - pz l k = dz := hdz.symm
      have v1 := IntWalk.i64_in (px l (nx n k) - px l k) (by omega)
      have v2 := IntWalk.i64_in (pz l (nx n k) - pz l k) (by omega)
      have c50 : wc.cell? ⟨T5, 0, none⟩ = some (.int .i64 (px l k)) := by simp [World.cell?, HTT.out.1.1]
      have c51 : wc.cell? ⟨T5, 1, none⟩ = some (.int .i64 (pz l k)) := by simp [World.cell?, HTT.out.1.1]
      have c60 : wc.cell? ⟨T6, 0, none⟩ = some (.int .i64 (px l (nx n k))) := by simp [World.cell?, HTT.out.1.2]
      have c61 : wc.cell? ⟨T6, 1, none⟩ = some (.int .i64 (pz l (nx n k))) := by simp [World.cell?, HTT.out.1.2]
      have f1 := cell_regrown c50
      have f2 := cell_regrown c51
      have f3 := cell_regrown c60
      have f4 := cell_regrown c61
      clear hlg hdx hdz c50 c51 c60 c61
      generalize px l (nx n k) = jx at *
      generalize pz l (nx n k) = jz at *
      generalize px l k = ax at *
      generalize pz l k = az at *
      go_wp2_with fail
      refine wp_region_quiet_below (by kernel_rfl) (by kernel_rfl) ?_
      repeat (any_goals (first | go_big_quiet_step (fail) | quiet_step (fail)))
      refine wpQuiet_nil ?_
      intro _ hw'
      obtain ⟨⟨dq, osq⟩, hw''⟩ := hw'
      subst hw''
      have HB2 : Hid (Below wr.heap.size wr (Sort.grow (redrawn wc dq) osq) ∧ (Sort.grow (redrawn wc dq) osq).heap[T5]? = some (.cells #[.int .i64 ax, .int .i64 az] 24 (0, 0)) ∧ wr.heap.size ≤ T5) :=
        ⟨Below.thru HTT.out.2.1 HTT.out.2.1.size (below_regrown wc dq osq), ((below_regrown wc dq osq).block _ (Array.getElem?_eq_some_iff.1 HTT.out.1.1).1).trans HTT.out.1.1, HTT.out.2.2.1⟩
      clear f1 f2 f3 f4 v1 v2 e1 e2
      generalize Sort.grow (redrawn wc dq) osq = w7 at *
      have v3 := IntWalk.i64_in (-dx) (by omega)
      have v4 := IntWalk.i64_in (-dz) (by omega)
      go_upto_region 7 with fail
      go_cut [9] (fun u9 wx => u9 = .int .i64 (lg : Nat) ∧ wx = w7)
      case first =>
        rename_i J K' hJ hK
        go_wp2
        all_goals
          refine Met.intro (hJ _ _ ?_)
          (repeat apply Exists.intro)
          refine ⟨⟨?_, rfl⟩, rfl⟩
          congr 1
          omega
      obtain ⟨rfl, rfl⟩ := hcut
      have H0 : Hid (OwnR wc w.heap.size u3 (rbp l k ++ rps l k 0) ∧ (∀ g, u3.ownBlock = some g → g ≠ T5)) := by
        refine ⟨?_, fun g hg e => ?_⟩
        · have : rps l k 0 = [] := rfl
          rw [this, List.append_nil]
          exact own_of HO.out (fun g cap hv ⟨cur, hg⟩ => HB2.out.1.block g (Array.getElem?_eq_some_iff.1 hg).1)
        · obtain ⟨_, cur, hc⟩ := own_cells HO.out hg
          have := (Array.getElem?_eq_some_iff.1 hc).1
          have := HB2.out.2.2
          omega
      have H1 : Hid (Below w.heap.size w wc ∧ wc.heap[T5]? = some (.cells #[.int .i64 ax, .int .i64 az] 24 (0, 0))) := ⟨Below.thru HB.out HB.out.size HB2.out.1, HB2.out.2.1⟩
      have hT5w : w.heap.size ≤ T5 := by have := HB.out.size; have := HB2.out.2.2; omega
      clear v3 v4 hlgv HB2 HTT HO HB HCK HNK
      go_wp2
      go_loopw [10, 3] (fun j v wq => ∃ q : Nat, q ≤ lg ∧ j = .int .i64 q ∧ Hid (OwnR wq w.heap.size v (rbp l k ++ rps l k q) ∧ (∀ g, v.ownBlock = some g → g ≠ T5)) ∧ Hid (Below w.heap.size w wq ∧ wq.heap[T5]? = some (.cells #[.int .i64 ax, .int .i64 az] 24 (0, 0)))) (fun j _ _ => lg - (intOf j).toNat)
      case atStart => exact ⟨0, Nat.zero_le _, rfl, H0.out, H1.out⟩
      case round =>
        obtain ⟨q, hq, rfl, HO, HB⟩ := hrel
        by_cases hlt2 : q < lg
        · have hmx := mul_sm (a := dx) (b := (q : Int)) (A := 2000) (B := 2000) hbdx (by omega) (by omega)
          have hmz := mul_sm (a := dz) (b := (q : Int)) (A := 2000) (B := 2000) hbdz (by omega) (by omega)
          have HWQ := Lib.hid (HWH.out q)
          have HQ2 := Lib.hid hlt2
          have hrl := HRL.out q
          have hrk := HRK.out
          have w1 := IntWalk.i64_in (dx * q) (by omega)
          have w2 := IntWalk.i64_in (dz * q) (by omega)
          generalize hu1 : dx * (q : Int) = u1 at *
          generalize hu2 : dz * (q : Int) = u2 at *
          have t1 : (u1.tmod lg).natAbs ≤ u1.natAbs := by rw [Int.natAbs_tmod]; exact Nat.mod_le _ _
          have t2 : (u2.tmod lg).natAbs ≤ u2.natAbs := by rw [Int.natAbs_tmod]; exact Nat.mod_le _ _
          have t3 : (u1.tdiv lg).natAbs ≤ u1.natAbs := by rw [Int.natAbs_tdiv]; exact Nat.div_le_self _ _
          have t4 : (u2.tdiv lg).natAbs ≤ u2.natAbs := by rw [Int.natAbs_tdiv]; exact Nat.div_le_self _ _
          have hlg0 : ¬ (lg : Int) = 0 := by omega
          have hlg9 : ¬ lg = 0 := by omega
          generalize hr1 : u1.tmod (lg : Int) = r1 at *
          generalize hr2 : u2.tmod (lg : Int) = r2 at *
          generalize hd1 : u1.tdiv (lg : Int) = d1 at *
          generalize hd2 : u2.tdiv (lg : Int) = d2 at *
          have w3 := IntWalk.i64_in r1 (by omega)
          have w4 := IntWalk.i64_in r2 (by omega)
          have w5 := IntWalk.i64_in d1 (by omega)
          have w6 := IntWalk.i64_in d2 (by omega)
          have w8 := IntWalk.i64_in (ax + d1) (by omega)
          have w9 := IntWalk.i64_in (az + d2) (by omega)
          clear t1 t2 t3 t4 hmx hmz
          have HW2 : Hid (rbp l k ++ rps l k (q + 1) = (rbp l k ++ rps l k q) ++ (if ((r1 == 0) && (r2 == 0)) then [(ax + d1, az + d2)] else [])) := by show _ = _; rw [HWQ.out, List.append_assoc]
          have hlen : (rbp l k ++ rps l k q).length ≤ 30000 := by rw [List.length_append]; omega
          have HG := Lib.hid HO.out.2
          have hown : wr.ownsRow w.heap.size 24 2 u3 (rbp l k ++ rps l k q).length (cls (rbp l k ++ rps l k q)) := HO.out.1
          clear HO HWQ hrl hrk
          generalize rbp l k ++ rps l k q = L0 at *
          cases hb1 : (r1 == 0) with
          | false =>
            have hp1 : ¬ r1 = 0 := by simpa using hb1
            have HW3 : Hid (rbp l k ++ rps l k (q + 1) = L0) := by show _ = _; have := HW2.out; rw [hb1] at this; simpa using this
            have HWN := Lib.hid hown
            clear hown hb1
            go_wp2
            go_roundw
            case rel => exact ⟨q + 1, by omega, by go_num, ⟨by rw [HW3.out]; exact HWN.out, HG.out⟩, HB.out⟩
            case measure => simp [intOf]; omega
          | true =>
            cases hb2 : (r2 == 0) with
            | false =>
              have hp2 : ¬ r2 = 0 := by simpa using hb2
              have HW3 : Hid (rbp l k ++ rps l k (q + 1) = L0) := by show _ = _; have := HW2.out; rw [hb1, hb2] at this; simpa using this
              have HWN := Lib.hid hown
              clear hown hb2
              go_wp2
              go_roundw
              case rel => exact ⟨q + 1, by omega, by go_num, ⟨by rw [HW3.out]; exact HWN.out, HG.out⟩, HB.out⟩
              case measure => simp [intOf]; omega
            | true =>
              have HW3 : Hid (rbp l k ++ rps l k (q + 1) = L0 ++ [(ax + d1, az + d2)]) := by show _ = _; have := HW2.out; rw [hb1, hb2] at this; simpa using this
              have hT0 : wr.cell? ⟨T5, 0, none⟩ = some (.int .i64 ax) := by simp [World.cell?, HB.out.2]
              have hT1 : wr.cell? ⟨T5, 1, none⟩ = some (.int .i64 az) := by simp [World.cell?, HB.out.2]
              have hTl := cell_lt hT0
              have hwl := HB.out.1.size
              go_wp2
              replace hown : wr.drew.ownsRow w.heap.size 24 2 u3 L0.length (cls L0) := hown
              have HB4 : Hid (Below w.heap.size w wr.drew ∧ wr.drew.heap[T5]? = some (.cells #[.int .i64 ax, .int .i64 az] 24 (0, 0))) := ⟨HB.out.1.drew, HB.out.2⟩
              go_region_law (refine step_append_own_at rfl (.tmp 62) (.tmp 80) 22 rfl w.heap.size 24 i0 (.agg #[.int .i64 0, .int .i64 0]) 2 16 Try.underlying22' hi hz0 hz1 hz2 rfl (by decide) _ _ _ rfl (hown.alloc _) ⟨wr.heap.size, 0, none⟩ 1 1 [.int .i64 (ax + d1), .int .i64 (az + d2)] rfl rfl two_new (by simp [Value.oneCell']) (by unfold maxLen; omega) (by omega) (by simp; omega) ?_; intro v' w1 hown' hgrow hob)
              all_goals
                have HBN : Hid (Below w.heap.size w w1 ∧ w1.heap[T5]? = some (.cells #[.int .i64 ax, .int .i64 az] 24 (0, 0))) := by
                  refine ⟨(HB4.out.1.alloc HB4.out.1.size _).grown hgrow (by simp; omega) (fun r e => (hown.lt r e).1), ?_⟩
                  refine (hgrow.block T5 (by simp; omega) (fun e => HG.out T5 e.symm rfl)).trans ?_
                  exact ((bl1 wr.drew _).block T5 hTl).trans HB4.out.2
                have HON : Hid (OwnR w1 w.heap.size v' (L0 ++ [(ax + d1, az + d2)]) ∧ (∀ g, v'.ownBlock = some g → g ≠ T5)) := by
                  refine ⟨?_, fun g hg e => ?_⟩
                  · show World.ownsRow _ _ _ _ _ _ _
                    rw [List.length_append, cls_snoc]
                    exact hown'
                  · rcases hob with h | h
                    · exact HG.out g (h.symm.trans hg) e
                    · have e2 := Option.some.inj (h.symm.trans hg)
                      simp at e2
                      omega
                clear hown hown' hgrow hob hT0 hT1
                go_wp2
                go_roundw
                case rel => exact ⟨q + 1, by omega, by go_num, by rw [HW3.out]; exact HON.out, HBN.out⟩
                case measure => simp [intOf]; omega
        · obtain rfl : q = lg := by omega
          have HF : Hid (OwnR wr w.heap.size u3 (rbp l (k + 1))) := by rw [HRB.out]; exact HO.out.1
          have HB3 := Lib.hid HB.out.1
          clear HO HB
          go_wp2
          go_roundw
          case rel => exact ⟨k + 1, by omega, by go_num, HF.out, HB3.out⟩
          case measure => simp [intOf]; omega
    · obtain rfl : k = n := by omega
      have HFI : Hid (OwnR wr w.heap.size u3 (bp l)) := by rw [← HBP.out]; exact HO.out
      have hB := HB.out
      go_wp2
      go_ret
      exact ⟨⟨_, rfl, HFI.out⟩, hB⟩
end Go.Proofs.Ytljmhejljpfaiaa

import Derived.Test.YtljmhejljpfaiaaPc
import Derived.Test.YtljmhejljpfaiaaHd
import Derived.Test.YtljmhejljpfaiaaEb
import Derived.Test.YtljmhejljpfaiaaFa
import Derived.Test.YtljmhejljpfaiaaBc
import Derived.Test.YtljmhejljpfaiaaCe
namespace Go.Proofs.Ytljmhejljpfaiaa
set_option maxRecDepth 100000
open Go.RowKit Go.Shelf

/-! StonePick: from Pick's theorem to the program's border and area -/
theorem mxx_ge (l : List Pt) : ∀ k i, i < k → px l i ≤ mxx l k
  | 0, _, h => by omega
  | k + 1, i, h => by
    show _ ≤ if mxx l k < px l k then px l k else mxx l k
    rcases Nat.lt_or_ge i k with q | q
    · have := mxx_ge l k i q; split <;> omega
    · obtain rfl : i = k := by omega
      split <;> omega
theorem mxz_ge (l : List Pt) : ∀ k i, i < k → pz l i ≤ mxz l k
  | 0, _, h => by omega
  | k + 1, i, h => by
    show _ ≤ if mxz l k < pz l k then pz l k else mxz l k
    rcases Nat.lt_or_ge i k with q | q
    · have := mxz_ge l k i q; split <;> omega
    · obtain rfl : i = k := by omega
      split <;> omega
def cX (l : List Pt) (k : Nat) : Int := (pc l k).1
def cZ (l : List Pt) (k : Nat) : Int := (pc l k).2
theorem cX_lt {l : List Pt} {k : Nat} (h : k < l.length) : cX l k = px l k := by unfold cX; rw [pc_lt h]
theorem cZ_lt {l : List Pt} {k : Nat} (h : k < l.length) : cZ l k = pz l k := by unfold cZ; rw [pc_lt h]
theorem pick_cx {l : List Pt} (h : Pl l) (hx : mxx l l.length ≤ 60) (hz : mxz l l.length ≤ 60) : Cx (cX l) (cZ l) l.length := by
  have ht := h.tr
  have h3 := h.1.1
  have hb := h.2.1
  have e0 : pc l l.length = pc l 0 := by have := pc_add l 0; rwa [Nat.zero_add] at this
  have bd : ∀ k, (0 ≤ cX l k ∧ cX l k ≤ 60) ∧ (0 ≤ cZ l k ∧ cZ l k ≤ 60) := fun k => by
    have hk : k % l.length < l.length := Nat.mod_lt _ (by omega)
    have e1 : cX l k = px l (k % l.length) := rfl
    have e2 : cZ l k = pz l (k % l.length) := rfl
    have := hb _ hk
    have := mxx_ge l _ _ hk
    have := mxz_ge l _ _ hk
    omega
  refine ⟨h3, by unfold cX; rw [e0], by unfold cZ; rw [e0], fun k m hk hm => ?_, fun k m hk hm h1 h2 h4 => ?_, ?_, ?_, fun k h1 h2 => ?_, (bd 1).2.1, fun k => (bd k).1, fun k => (bd k).2⟩
  · show 0 ≤ D3 (pc l k) (pc l (k + 1)) (pc l m)
    rcases Nat.lt_or_ge k m with q | q
    · exact ht.cyc0 (by omega) q (by omega)
    · rw [← pc_add l m]; exact ht.cyc0 (by omega) (by omega) (by omega)
  · show 0 < D3 (pc l k) (pc l (k + 1)) (pc l m)
    rcases Nat.lt_or_ge k m with q | q
    · exact ht.cyc _ _ _ (by omega) (by omega) (by omega)
    · rw [← pc_add l m]; exact ht.cyc _ _ _ (by omega) (by omega) (by omega)
  · rw [cZ_lt (by omega)]; exact h.2.2.2.1
  · rw [cZ_lt (by omega)]; exact h.2.2.2.2.1
  · rw [cZ_lt h2]
    have := h.2.2.2.2.2.up h.up h1 h2
    rw [pt_2, pt_2, h.2.2.2.1] at this
    exact this
theorem bpE_lenI (l : List Pt) : ∀ pre : List (Fin l.length), ((bpE l pre).length : Int) = sm (fun i => (snE l i.1 : Int)) pre := by
  have : ∀ (L : List (Fin l.length)) (a : Int), L.foldl (fun s i => s + (snE l i.1 : Int)) a = a + ((bpE l L).length : Int) := fun L => by
    induction L with
    | nil => intro a; simp [bpE]
    | cons x L ih =>
      intro a
      have e : bpE l (x :: L) = eps l x.1 (snE l x.1) ++ bpE l L := by simp [bpE]
      rw [List.foldl_cons, ih, e, List.length_append]
      have : (eps l x.1 (snE l x.1)).length = snE l x.1 := by simp [eps]
      omega
  intro pre
  unfold sm
  rw [this]; omega
theorem bp_S (l : List Pt) : ((bp l).length : Int) = bpS (cX l) (cZ l) l.length := by
  unfold bp bpS
  rw [bpE_lenI, sm_rsm (fun i => (snE l i : Int))]
  refine rsm_congr _ fun i hi => ?_
  rw [cX_lt hi, cZ_lt hi]
  rfl
theorem tw_S (l : List Pt) : tw l = twS (cX l) (cZ l) l.length := by
  rw [tw_pI]
  unfold pI twS
  refine rsm_congr _ fun i _ => ?_
  rw [Nat.zero_add]
  rfl
/-- the points inside of a column, of the first columns -/
def inC (l : List Pt) (a m : Nat) : Int := rsm (fun b => inI (cX l) (cZ l) l.length a b) m
def inA (l : List Pt) (k : Nat) : Int := rsm (fun a => inC l a 61) k
theorem pick_all {l : List Pt} (h : Pl l) (hx : mxx l l.length ≤ 60) (hz : mxz l l.length ≤ 60) : 2 * inA l 61 + ((bp l).length : Int) - 2 = tw l := by
  have := (pick_cx h hx hz).pick
  rw [ks_swap (fun b a => inI (cX l) (cZ l) l.length a b) 61 61] at this
  rw [bp_S, tw_S]
  exact this
theorem inI_bd (x z : Nat → Int) (n : Nat) (a b : Int) : 0 ≤ inI x z n a b ∧ inI x z n a b ≤ 1 := by unfold inI; split <;> omega
theorem inC_bd (l : List Pt) (a : Nat) : ∀ m, 0 ≤ inC l a m ∧ inC l a m ≤ m
  | 0 => ⟨Int.le_refl _, Int.le_refl _⟩
  | m + 1 => by
    have h1 := inC_bd l a m
    have h2 := inI_bd (cX l) (cZ l) l.length a m
    show 0 ≤ inC l a m + inI (cX l) (cZ l) l.length a m ∧ inC l a m + inI (cX l) (cZ l) l.length a m ≤ ((m + 1 : Nat) : Int)
    omega
theorem inA_bd (l : List Pt) : ∀ k, 0 ≤ inA l k ∧ inA l k ≤ k * 61
  | 0 => ⟨Int.le_refl _, Int.le_refl _⟩
  | k + 1 => by
    have h1 := inA_bd l k
    have h2 := inC_bd l k 61
    show 0 ≤ inA l k + inC l k 61 ∧ inA l k + inC l k 61 ≤ ((k + 1 : Nat) : Int) * 61
    omega
/-- whether the first edges have a point on their left -/
def alF (l : List Pt) (a b : Int) (i : Nat) : Bool := (List.range i).all fun k => decide (0 < Dk (cX l) (cZ l) k a b)
theorem alF_succ (l : List Pt) (a b : Int) (i : Nat) : alF l a b (i + 1) = (alF l a b i && decide (0 < Dk (cX l) (cZ l) i a b)) := by unfold alF; rw [List.range_succ]; simp
theorem inC_succ (l : List Pt) (a m : Nat) : inC l a (m + 1) = inC l a m + (if alF l a m l.length then 1 else 0) := rfl
theorem inA_succ (l : List Pt) (k : Nat) : inA l (k + 1) = inA l k + inC l k 61 := rfl
theorem inC_zero (l : List Pt) (a : Nat) : inC l a 0 = 0 := rfl
theorem inA_zero (l : List Pt) : inA l 0 = 0 := rfl
theorem alF_zero (l : List Pt) (a b : Int) : alF l a b 0 = true := rfl
/-- the test of an edge -/
theorem Dk_at {l : List Pt} {i : Nat} (hi : i < l.length) (a b : Int) : Dk (cX l) (cZ l) i a b = (px l ((i + 1) % l.length) - px l i) * (b - pz l i) - (pz l ((i + 1) % l.length) - pz l i) * (a - px l i) := by
  unfold Dk
  rw [cX_lt hi, cZ_lt hi]
  show (px l ((i + 1) % l.length) - px l i) * (b - pz l i) - (a - px l i) * (pz l ((i + 1) % l.length) - pz l i) = _
  rw [Int.mul_comm (a - px l i)]
/-! a region that reads two corners into new boxes -/
section
variable {ρ : Operand → Value} {o : Oper} {w : World} {t x y z c : Operand}
theorem und31k : Try.prog.underlying 31 = some (.slice 32) := by kernel_rfl
theorem rn_len31k {p : Option Addr} {n cp : Nat} (ho : o.op = .call { callee := .builtin .len, args := #[t], argTypes := #[31] }) (h1 : ρ t = .slice p n cp) : (execOp ρ o).run Try.prog w = .ok (.value (.int .i64 (n : Int))) w := by
  unfold execOp; rw [ho]; simp [go_sem, h1, Builtin.len_, run_underlying und31k, goInt, Result.andThen]
end
/-- a table: two new boxes, all other slots hold what is known -/
def ktabE (a1 a2 : Nat) (vals : Nat → Value) (W d : Nat) : Kd := if d = a1 then kP32 W else if d = a2 then kP32 W else .v (vals d)
theorem ktabE_st {a1 a2 : Nat} {vals : Nat → Value} {W T : Nat} {w : World} {p0 q0 p q : Int} (h : w.heap[T]? = some (.cells #[.int .i64 p0, .int .i64 q0] 32 (0, 0))) (d : Nat) (v : Value) (hk : kd (ktabE a1 a2 vals W d) v w) :
    kd (ktabE a1 a2 vals W d) v ((w.setCell ⟨T, 0, none⟩ (.int .i64 p)).setCell ⟨T, 1, none⟩ (.int .i64 q)) := by
  have kp : ∀ v, kd (kP32 W) v w → kd (kP32 W) v ((w.setCell ⟨T, 0, none⟩ (.int .i64 p)).setCell ⟨T, 1, none⟩ (.int .i64 q)) := by
    rintro v ⟨C, h1, h2, x, z, h3⟩
    by_cases e : C = T
    · subst e; exact ⟨C, h1, h2, p, q, blk32_st h3⟩
    · exact ⟨C, h1, h2, x, z, blk2_far h3 e⟩
  unfold ktabE at hk ⊢
  split at hk
  · rw [if_pos ‹_›]; exact kp v hk
  · rw [if_neg ‹_›]
    split at hk
    · rw [if_pos ‹_›]; exact kp v hk
    · rw [if_neg ‹_›]; exact hk
theorem i64wk (a : Int) (h : -9223372036854775808 ≤ a ∧ a ≤ 9223372036854775807) : IntKind.i64.wrap a = a := IntWalk.i64_in a (by omega)
theorem field24k_0 (x y : Value) (W : World) : (Instr.field 24 (.agg #[x, y]) 0).run Try.prog W = .ok x W := by kernel_rfl
theorem field24k_1 (x y : Value) (W : World) : (Instr.field 24 (.agg #[x, y]) 1).run Try.prog W = .ok y W := by kernel_rfl
def D17k (t : Nat) : Bool := Nat.beq t 13 || Nat.beq t 14 || (Nat.ble 66 t && Nat.ble t 80)
def al17k (t : Nat) : Bool := Nat.beq t 13 || Nat.beq t 14
def vals17 (T g n cp i j : Nat) (x1 z1 x2 z2 : Int) (d : Nat) : Value :=
  [.pointer (some ⟨T, 1, none⟩), .slice (some ⟨g, 0, none⟩) n cp, .int .i64 i, .pointer (some ⟨g, 0 + i * 2, none⟩), .agg #[.int .i64 x1, .int .i64 z1],
   .pointer (some ⟨T, 1, none⟩), .slice (some ⟨g, 0, none⟩) n cp, .int .i64 i, .int .i64 ((i : Int) + 1), .pointer (some ⟨T, 1, none⟩), .slice (some ⟨g, 0, none⟩) n cp, .int .i64 n, .int .i64 j, .pointer (some ⟨g, 0 + j * 2, none⟩), .agg #[.int .i64 x2, .int .i64 z2]].getD (d - 66) undef
set_option maxHeartbeats 16000000 in
theorem pickL_any (s : SV) (p : Option Addr) (c : Nat) (w : World) (hn : s.nm.size ≤ maxLen) (hlm : s.l.length ≤ maxLen) (h : s.l.length ≤ 1000000 → Pts w (.slice p s.l.length c) s.l) : Calls Try.prog 12 #[stv s (.slice p s.l.length c)] w (PT w) := by
  have HV := Lib.hid (fun W (k : Below w.heap.size w W) (hm : s.l.length ≤ 1000000) => validv_any s (.slice p s.l.length c) W hn ((h hm).keep k))
  have HS := Lib.hid (fun W (k : Below w.heap.size w W) (hm : s.l.length ≤ 1000000) => stonev_any s (.slice p s.l.length c) W ((h hm).keep k) hm)
  have HBD : Hid (∀ W v, Vld s → Pts W v s.l → Calls Try.prog 32 #[stv s v] W fun e w' => (∃ pp cp, e = .returned (.tuple #[.slice pp (bp s.l).length cp, .int .i64 0])) ∧ Below W.heap.size W w') := fun W v hv hp => (border_any s v W hn hp).mono fun e w' ⟨⟨r, x, he, _, hx⟩, hb⟩ => ⟨by
    rcases hx with ⟨_, rfl, ho⟩ | ⟨hx, _⟩
    · rcases ho.row with ⟨rfl, h0⟩ | ⟨g, cp, rfl, _, _, _⟩
      · exact ⟨none, 0, by rw [he, h0]; rfl⟩
      · exact ⟨_, cp, he⟩
    · exact absurd hv hx, hb⟩
  have HTW : Hid (∀ W v, Vld s → Pts W v s.l → Calls Try.prog 18 #[stv s v] W fun e w' => e = .returned (.tuple #[.int .i64 (tw s.l), .int .i64 0]) ∧ Below W.heap.size W w') := fun W v hv hp => (twiceF_any s v W hn hp).mono fun e w' ⟨⟨r, x, he, hx⟩, hb⟩ => ⟨by
    rcases hx with ⟨_, rfl, rfl⟩ | ⟨hx, _⟩
    · exact he
    · exact absurd hv hx, hb⟩
  have HHI : Hid (∀ W, Below w.heap.size w W → Vld s → s.l.length ≤ 1000000 → Calls Try.prog 25 #[.slice p s.l.length c] W fun e w' => e = .returned (.agg #[.int .i64 (mxx s.l s.l.length), .int .i64 (mxz s.l s.l.length)]) ∧ Below W.heap.size W w') := fun W k hv hm => by
    have h3 := hv.2.1.1
    obtain ⟨b, o, c', hpe, hrow⟩ := ((h hm).keep k).some (by omega)
    cases hpe
    exact high_any b o c s.l W hrow (by omega) (by omega)
  have HPK : Hid (Vld s → mxx s.l s.l.length ≤ 60 → mxz s.l s.l.length ≤ 60 → 2 * inA s.l 61 + ((bp s.l).length : Int) - 2 = tw s.l ∧ (-8000000000 ≤ tw s.l ∧ tw s.l ≤ 8000000000) ∧ (3 ≤ s.l.length ∧ s.l.length ≤ 12) ∧ (∀ i, i < s.l.length → (0 ≤ px s.l i ∧ px s.l i ≤ 2000) ∧ (0 ≤ pz s.l i ∧ pz s.l i ≤ 2000))) := fun hv hx hz => ⟨pick_all hv.2.1 hx hz, tw_bd hv.2.1.2.1 (by have := hv.2.1.1; omega), hv.2.1.1, hv.2.1.2.1⟩
  have HDK : Hid (∀ i, i < s.l.length → ∀ a b, Dk (cX s.l) (cZ s.l) i a b = (px s.l ((i + 1) % s.l.length) - px s.l i) * (b - pz s.l i) - (pz s.l ((i + 1) % s.l.length) - pz s.l i) * (a - px s.l i)) := fun i hi a b => Dk_at hi a b
  have HIC : Hid (∀ a m, inC s.l a (m + 1) = inC s.l a m + (if alF s.l a m s.l.length then 1 else 0)) := fun a m => inC_succ s.l a m
  have hn1 := hn
  obtain ⟨nm, l, dp, dn, gx, gz⟩ := s
  have HSL : Hid (∀ (W : World) (base : Nat) (v : Value), Own W base v l → 0 < l.length → ∃ a m, v = .slice (some ⟨a, 0, none⟩) l.length m ∧ ∀ W', Below W.heap.size W W' → Row W' a 0 l) := fun W base v h h0 => by
    rcases h.row with ⟨rfl, h0'⟩ | ⟨g, c, h1, hr, _⟩
    · rw [h0'] at h0; simp at h0
    · exact ⟨_, _, h1, fun W' k => hr.keep k⟩
  unfold maxLen at hn1 hlm
  unfold stv at *
  dsimp only at *
  have HP : Hid (∀ (W W' : World) (base : Nat) (v : Value), l.length ≤ 1000000 → Own W base v l → Below W.heap.size W W' → Pts W' v l) := fun W W' base v hb h k => (h.pts (by omega)).keep k
  clear h hn
  generalize hVe : Vld { nm := nm, l := l, dp := dp, dn := dn, gx := gx, gz := gz } = V at *
  clear hVe
  generalize mxx l l.length = MX at *
  generalize mxz l l.length = MZ at *
  obtain ⟨n, hnn⟩ : ∃ n, n = l.length := ⟨_, rfl⟩
  obtain ⟨N, hNN⟩ : ∃ N, N = (bp l).length := ⟨_, rfl⟩
  have HRL : Hid (∀ W g, Row W g 0 l → ∀ j, j < n → W.cell? ⟨g, 0 + j * 2, none⟩ = some (.int .i64 (px l j)) ∧ W.cell? ⟨g, 0 + j * 2 + 1, none⟩ = some (.int .i64 (pz l j))) := fun W g hr j hj => hr j (by rw [← hnn]; exact hj)
  rw [← hnn] at hlm HV HS HHI HSL HP HPK HDK HIC ⊢
  rw [← hNN] at HBD HPK
  clear hnn hNN
  obtain ⟨wx, hwx⟩ : ∃ wx, wx = w.alloc (.cells (c6 nm (.slice p n c) dp dn gx gz) 26) := ⟨_, rfl⟩
  have k1 : Below w.heap.size w wx := by rw [hwx]; exact bl1 w (.cells (c6 nm (.slice p n c) dp dn gx gz) 26)
  have b1 : Blk w.heap.size (c6 nm (.slice p n c) dp dn gx gz) 26 wx := by rw [hwx]; exact Blk.new w _ 26
  have HB1 : Hid (∀ W, Below wx.heap.size wx W → Blk w.heap.size (c6 nm (.slice p n c) dp dn gx gz) 26 W ∧ Below w.heap.size w W) := fun W k => ⟨b1.below k, Below.thru k1 k1.size k⟩
  have K1 := Lib.hid k1
  have HWX := Lib.hid hwx
  have s0 := b1.cell (i := 0) rfl; have s1 := b1.cell (i := 1) rfl; have s2 := b1.cell (i := 2) rfl; have s3 := b1.cell (i := 3) rfl; have s4 := b1.cell (i := 4) rfl; have s5 := b1.cell (i := 5) rfl
  clear b1 k1 hwx
  go_enter Try.func12, Try.ntmps12
  go_upto_region 1 with fail
  rw [← HWX.out]
  go_cut [37] (fun cc wc => ∃ bb : Bool, cc = .bool bb ∧ Hid (bb = true ∨ (V ∧ MX ≤ 60 ∧ MZ ≤ 60 ∧ n ≤ 20)) ∧ Hid (Below wx.heap.size wx wc))
  case first =>
    rename_i J K' hJ hK
    by_cases h20 : 20 < n
    · go_wp2
      all_goals
        refine Met.intro (hJ _ _ ?_)
        (repeat apply Exists.intro)
        exact ⟨⟨_, rfl, .inl rfl, Below.refl _ _⟩, rfl⟩
    · go_wp2_with fail
      refine (HV.out _ K1.out (by omega)).mono ?_
      rintro e w2 ⟨⟨bv, rfl, hbv⟩, hb2⟩
      have K2 := Lib.hid hb2
      have HBV := Lib.hid hbv
      clear hb2 hbv s0 s1 s2 s3 s4 s5
      cases bv with
      | false =>
        go_wp2
        all_goals
          refine Met.intro (hJ _ _ ?_)
          (repeat apply Exists.intro)
          exact ⟨⟨_, rfl, .inl rfl, K2.out⟩, rfl⟩
      | true =>
        have HV1 : Hid V := HBV.out.1 rfl
        have s1 := (HB1.out _ K2.out).1.cell (i := 1) rfl
        have hf0 := fun W => field24k_0 (.int .i64 MX) (.int .i64 MZ) W
        have hf1 := fun W => field24k_1 (.int .i64 MX) (.int .i64 MZ) W
        go_wp2_with fail
        refine (HHI.out _ (HB1.out _ K2.out).2 HV1.out (by omega)).mono ?_
        rintro e w3 ⟨rfl, hb3⟩
        have K3 := Lib.hid (Below.thru K2.out K2.out.size hb3)
        clear hb3 s1
        by_cases g1 : 60 < MX
        · go_wp2
          all_goals
            refine Met.intro (hJ _ _ ?_)
            (repeat apply Exists.intro)
            exact ⟨⟨_, rfl, .inl rfl, K3.out⟩, rfl⟩
        · have s1 := (HB1.out _ K3.out).1.cell (i := 1) rfl
          go_wp2_with fail
          refine (HHI.out _ (HB1.out _ K3.out).2 HV1.out (by omega)).mono ?_
          rintro e w4 ⟨rfl, hb4⟩
          have K4 := Lib.hid (Below.thru K3.out K3.out.size hb4)
          clear hb4 s1
          by_cases g2 : 60 < MZ
          · go_wp2
            all_goals
              refine Met.intro (hJ _ _ ?_)
              (repeat apply Exists.intro)
              exact ⟨⟨_, rfl, .inl rfl, K4.out⟩, rfl⟩
          · go_wp2
            all_goals
              refine Met.intro (hJ _ _ ?_)
              (repeat apply Exists.intro)
              exact ⟨⟨_, rfl, .inr ⟨HV1.out, by omega, by omega, by omega⟩, K4.out⟩, rfl⟩
  obtain ⟨bb, rfl, HBB, HWC⟩ := hcut
  clear HHI HWX s0 s1 s2 s3 s4 s5
  cases bb with
  | true =>
    go_wp2_with fail
    refine (wakes_any _).mono ?_
    rintro e wd ⟨rfl, hbd⟩
    have k8 := (HB1.out _ (Below.thru HWC.out HWC.out.size hbd)).2
    clear hbd
    go_wp2
    go_ret
    exact ⟨rfl, k8⟩
  | false =>
    obtain ⟨hV1, hx60, hz60, hn20⟩ : V ∧ MX ≤ 60 ∧ MZ ≤ 60 ∧ n ≤ 20 := HBB.out.elim (fun h => by cases h) id
    have HV1 := Lib.hid hV1
    obtain ⟨hpk, htb, h312, hbx⟩ := HPK.out hV1 hx60 hz60
    have HPI := Lib.hid hpk; have HBX := Lib.hid hbx
    have hA61 := inA_bd l 61
    clear hV1 HBB HPK hbx hx60 hz60
    have qc := HB1.out _ HWC.out
    have KW := Lib.hid qc.2
    have s0 := qc.1.cell (i := 0) rfl; have s1 := qc.1.cell (i := 1) rfl; have s2 := qc.1.cell (i := 2) rfl; have s3 := qc.1.cell (i := 3) rfl; have s4 := qc.1.cell (i := 4) rfl; have s5 := qc.1.cell (i := 5) rfl
    go_wp2_with fail
    refine (HS.out _ KW.out (by omega)).mono ?_
    rintro e w2 ⟨⟨v5, rfl, ho5⟩, hb2⟩
    have K2 := Lib.hid (Below.thru HWC.out HWC.out.size hb2)
    obtain ⟨g, c5, rfl, hrow⟩ := HSL.out _ _ _ ho5 (by omega)
    have HO5 := Lib.hid ho5
    have HROW := Lib.hid hrow
    clear hb2 ho5 hrow qc s0 s1 s2 s3 s4 s5
    obtain ⟨w3, hw3⟩ : ∃ w3, w3 = w2.alloc (.cells (c6 nm (.slice (some ⟨g, 0, none⟩) n c5) dp dn gx gz) 34) := ⟨_, rfl⟩
    have hb3 : Below w2.heap.size w2 w3 := by rw [hw3]; exact bl1 w2 _
    have K3 := Lib.hid (Below.thru K2.out K2.out.size hb3)
    have b7 : Blk w2.heap.size (c6 nm (.slice (some ⟨g, 0, none⟩) n c5) dp dn gx gz) 34 w3 := by rw [hw3]; exact Blk.new _ _ _
    have HP5 := Lib.hid (HP.out _ _ _ _ (by omega) HO5.out hb3)
    have HB3 : Hid (∀ W, Below w3.heap.size w3 W → Blk w2.heap.size (c6 nm (.slice (some ⟨g, 0, none⟩) n c5) dp dn gx gz) 34 W ∧ Below w.heap.size w W ∧ Pts W (.slice (some ⟨g, 0, none⟩) n c5) l ∧ ∀ j, j < n → W.cell? ⟨g, 0 + j * 2, none⟩ = some (.int .i64 (px l j)) ∧ W.cell? ⟨g, 0 + j * 2 + 1, none⟩ = some (.int .i64 (pz l j))) := fun W k => by
      have q := HB1.out _ (Below.thru K3.out K3.out.size k)
      exact ⟨b7.below k, q.2, HP5.out.keep k, HRL.out W g (HROW.out W (Below.thru hb3 hb3.size k))⟩
    have HW3 := Lib.hid hw3
    have s0 := b7.cell (i := 0) rfl; have s1 := b7.cell (i := 1) rfl; have s2 := b7.cell (i := 2) rfl; have s3 := b7.cell (i := 3) rfl; have s4 := b7.cell (i := 4) rfl; have s5 := b7.cell (i := 5) rfl
    rw [hw3] at s0 s1 s2 s3 s4 s5
    clear hw3 b7 hb3
    go_wp2_with fail
    rw [← HW3.out]
    clear s0 s1 s2 s3 s4 s5
    refine (HBD.out w3 _ HV1.out HP5.out).mono ?_
    rintro e w4 ⟨⟨pp, cp, rfl⟩, hb4⟩
    have KW4 := Lib.hid hb4
    have q4 := HB3.out _ KW4.out
    have s0 := q4.1.cell (i := 0) rfl; have s1 := q4.1.cell (i := 1) rfl; have s2 := q4.1.cell (i := 2) rfl; have s3 := q4.1.cell (i := 3) rfl; have s4 := q4.1.cell (i := 4) rfl; have s5 := q4.1.cell (i := 5) rfl
    clear hb4 q4
    go_wp2_with fail
    clear s0 s1 s2 s3 s4 s5
    refine (HTW.out w4 _ HV1.out (HB3.out _ KW4.out).2.2.1).mono ?_
    rintro e w5 ⟨rfl, hb5⟩
    have KW5 := Lib.hid (Below.thru KW4.out KW4.out.size hb5)
    clear hb5 HBD HTW HS HV HP HP5 HO5 HROW HRL HSL HB1 K1 K2 K3 HWC KW
    have HB5 : Hid (∀ W, Below w5.heap.size w5 W → Blk w2.heap.size (c6 nm (.slice (some ⟨g, 0, none⟩) n c5) dp dn gx gz) 34 W ∧ Below w.heap.size w W ∧ ∀ j, j < n → W.cell? ⟨g, 0 + j * 2, none⟩ = some (.int .i64 (px l j)) ∧ W.cell? ⟨g, 0 + j * 2 + 1, none⟩ = some (.int .i64 (pz l j))) := fun W k => by
      have q := HB3.out _ (Below.thru KW5.out KW5.out.size k)
      exact ⟨q.1, q.2.1, q.2.2.2⟩
    generalize htw : tw l = TW at *
    clear htw
    go_wp2
    go_loopw [8, 9] (fun u v wr => ∃ k : Nat, k ≤ 61 ∧ u = .int .i64 (inA l k) ∧ v = .int .i64 k ∧ Hid (Below w5.heap.size w5 wr)) (fun _ v _ => 61 - (intOf v).toNat)
    case atStart => exact ⟨0, by omega, by rw [inA_zero], rfl, Below.refl _ _⟩
    case round =>
      obtain ⟨k, hk, rfl, rfl, HK⟩ := hrel
      have hbA := inA_bd l k
      by_cases hlt : k ≤ 60
      · go_wp2
        go_loopw [8, 10] (fun u v wr => ∃ m : Nat, m ≤ 61 ∧ u = .int .i64 (inA l k + inC l k m) ∧ v = .int .i64 m ∧ Hid (Below w5.heap.size w5 wr)) (fun _ v _ => 61 - (intOf v).toNat)
        case atStart => exact ⟨0, by omega, by rw [inC_zero, Int.add_zero], rfl, HK.out⟩
        case round =>
          obtain ⟨m, hm, rfl, rfl, HK2⟩ := hrel
          have hbC := inC_bd l k m
          by_cases hmt : m ≤ 60
          · go_wp2
            go_loopw [11, 12] (fun u v wr => ∃ i : Nat, i ≤ n ∧ u = .bool (alF l k m i) ∧ v = .int .i64 i ∧ Hid (Below w5.heap.size w5 wr)) (fun _ v _ => n - (intOf v).toNat)
            case atStart => exact ⟨0, by omega, by rw [alF_zero], rfl, HK2.out⟩
            case round =>
              obtain ⟨i, hi, rfl, rfl, HK3⟩ := hrel
              have q := HB5.out _ HK3.out
              have s0 := q.1.cell (i := 0) rfl; have s1 := q.1.cell (i := 1) rfl; have s2 := q.1.cell (i := 2) rfl; have s3 := q.1.cell (i := 3) rfl; have s4 := q.1.cell (i := 4) rfl; have s5 := q.1.cell (i := 5) rfl
              by_cases hil : i < n
              · have HPP : Hid (∀ W, Below wr.heap.size wr W → W.cell? ⟨w2.heap.size, 1, none⟩ = some (.slice (some ⟨g, 0, none⟩) n c5) ∧ (W.cell? ⟨g, 0 + i * 2, none⟩ = some (.int .i64 (px l i)) ∧ W.cell? ⟨g, 0 + i * 2 + 1, none⟩ = some (.int .i64 (pz l i))) ∧ W.cell? ⟨g, 0 + (i + 1) % n * 2, none⟩ = some (.int .i64 (px l ((i + 1) % n))) ∧ W.cell? ⟨g, 0 + (i + 1) % n * 2 + 1, none⟩ = some (.int .i64 (pz l ((i + 1) % n)))) := fun W kk => by
                  have q := HB5.out _ (Below.thru HK3.out HK3.out.size kk)
                  exact ⟨q.1.cell (i := 1) rfl, q.2.2 i hil, q.2.2 _ (Nat.mod_lt _ (by omega))⟩
                have hjl : (i + 1) % n < n := Nat.mod_lt _ (by omega)
                have hb1 := HBX.out i hil
                have hb2 := HBX.out _ hjl
                have hdk := HDK.out i hil (k : Int) (m : Int)
                have hsu := alF_succ l k m i
                have hn0 : ¬ (n : Int) = 0 := by omega
                have hw1 : IntKind.i64.wrap ((i : Int) + 1) = (i : Int) + 1 := by rw [IntKind.wrap_i64]; omega
                have hrm : ((i : Int) + 1).tmod (n : Int) = (((i + 1) % n : Nat) : Int) := by
                  rw [Int.tmod_eq_emod_of_nonneg (by omega)]; rfl
                rw [hdk] at hsu
                clear hdk
                generalize (i + 1) % n = j at *
                generalize px l i = x1 at *
                generalize pz l i = z1 at *
                generalize px l j = x2 at *
                generalize pz l j = z2 at *
                go_upto_region 17 with fail
                clear s0 s1 s2 s3 s4 s5 q
                go_cut [13, 14] (fun u v wc => ∃ T U, u = .pointer (some ⟨T, 0, none⟩) ∧ v = .pointer (some ⟨U, 0, none⟩) ∧ Hid (wc.heap[T]? = some (.cells #[.int .i64 x1, .int .i64 z1] 32 (0, 0)) ∧ wc.heap[U]? = some (.cells #[.int .i64 x2, .int .i64 z2] 32 (0, 0))) ∧ Hid (Below wr.heap.size wr wc) ∧ wr.heap.size ≤ T ∧ wr.heap.size ≤ U)
                case first =>
                  rename_i J K' hJ hK
                  refine wp_region_alf D17k (ktabE 13 14 (vals17 w2.heap.size g n c5 i j x1 z1 x2 z2) wr.heap.size) al17k 17
                    (fun i f w' => Below wr.heap.size wr w' ∧ (18 ≤ i → ∃ T, f 13 = .pointer (some ⟨T, 0, none⟩) ∧ wr.heap.size ≤ T ∧ w'.heap[T]? = some (.cells #[.int .i64 x1, .int .i64 z1] 32 (0, 0))) ∧ (19 ≤ i → ∃ T, f 14 = .pointer (some ⟨T, 0, none⟩) ∧ wr.heap.size ≤ T ∧ w'.heap[T]? = some (.cells #[.int .i64 x2, .int .i64 z2] 32 (0, 0))))
                    (by kernel_rfl) (by kernel_rfl) (by kernel_rfl) (by kernel_rfl) (by decide) (by kernel_rfl) (fun i f f' w' w'' hI hb he => ⟨Below.thru hI.1 hI.1.size hb, fun h => by
                      obtain ⟨T, h1, h2, h3⟩ := hI.2.1 h
                      rcases he with he | he
                      · omega
                      · exact ⟨T, (he 13 rfl).trans h1, h2, (hb.block T (Array.getElem?_eq_some_iff.1 h3).1).trans h3⟩, fun h => by
                      obtain ⟨T, h1, h2, h3⟩ := hI.2.2 h
                      rcases he with he | he
                      · omega
                      · exact ⟨T, (he 14 rfl).trans h1, h2, (hb.block T (Array.getElem?_eq_some_iff.1 h3).1).trans h3⟩⟩) (by kernel_rfl) (fun f => ⟨(Below.refl _ _).drew, fun h => by omega, fun h => by omega⟩) ?_ ?_ ?_
                  · refine .cons (fun j f w' hj hI hs => ⟨wanted_none rfl, _, rfl, .val (rn_field34 rfl (fr_old rfl rfl)) ⟨⟨Below.refl _ _, rfl⟩, (fun h => by cases h)⟩⟩) ?_
                    refine .cons (fun j f w' hj hI hs => ⟨wanted_none rfl, _, rfl, .val (rn_load31 rfl ((fr_own rfl rfl).trans (hs 66 (by kernel_rfl))) (HPP.out w' hI.1).1) ⟨⟨Below.refl _ _, rfl⟩, (fun h => by cases h)⟩⟩) ?_
                    refine .cons (fun j f w' hj hI hs => ⟨wanted_none rfl, _, rfl, .val (rn_move rfl) ⟨⟨Below.refl _ _, fr_old rfl rfl⟩, (fun h => by cases h)⟩⟩) ?_
                    refine .cons (fun j f w' hj hI hs => ⟨wanted_none rfl, _, rfl, .val (rn_idx31 rfl ((fr_own rfl rfl).trans (hs 67 (by kernel_rfl))) ((fr_own rfl rfl).trans (hs 68 (by kernel_rfl))) hil) ⟨⟨Below.refl _ _, rfl⟩, (fun h => by cases h)⟩⟩) ?_
                    refine .cons (fun j f w' hj hI hs => ⟨wanted_none rfl, _, rfl, .val (rn_load32 rfl ((fr_own rfl rfl).trans (hs 69 (by kernel_rfl))) (HPP.out w' hI.1).2.1.1 (HPP.out w' hI.1).2.1.2) ⟨⟨Below.refl _ _, rfl⟩, (fun h => by cases h)⟩⟩) ?_
                    refine .cons (fun j f w' hj hI hs => ⟨wanted_none rfl, _, rfl, .val (rn_field34 rfl (fr_old rfl rfl)) ⟨⟨Below.refl _ _, rfl⟩, (fun h => by cases h)⟩⟩) ?_
                    refine .cons (fun j f w' hj hI hs => ⟨wanted_none rfl, _, rfl, .val (rn_load31 rfl ((fr_own rfl rfl).trans (hs 71 (by kernel_rfl))) (HPP.out w' hI.1).1) ⟨⟨Below.refl _ _, rfl⟩, (fun h => by cases h)⟩⟩) ?_
                    refine .cons (fun j f w' hj hI hs => ⟨wanted_none rfl, _, rfl, .val (rn_move rfl) ⟨⟨Below.refl _ _, fr_old rfl rfl⟩, (fun h => by cases h)⟩⟩) ?_
                    refine .cons (fun j f w' hj hI hs => ⟨wanted_none rfl, _, rfl, .val (rn_add3 rfl ((fr_own rfl rfl).trans (hs 73 (by kernel_rfl))) rfl hw1) ⟨⟨Below.refl _ _, rfl⟩, (fun h => by cases h)⟩⟩) ?_
                    refine .cons (fun j f w' hj hI hs => ⟨wanted_none rfl, _, rfl, .val (rn_field34 rfl (fr_old rfl rfl)) ⟨⟨Below.refl _ _, rfl⟩, (fun h => by cases h)⟩⟩) ?_
                    refine .cons (fun j f w' hj hI hs => ⟨wanted_none rfl, _, rfl, .val (rn_load31 rfl ((fr_own rfl rfl).trans (hs 75 (by kernel_rfl))) (HPP.out w' hI.1).1) ⟨⟨Below.refl _ _, rfl⟩, (fun h => by cases h)⟩⟩) ?_
                    refine .cons (fun j f w' hj hI hs => ⟨wanted_none rfl, _, rfl, .val (rn_len31k rfl ((fr_own rfl rfl).trans (hs 76 (by kernel_rfl)))) ⟨⟨Below.refl _ _, rfl⟩, (fun h => by cases h)⟩⟩) ?_
                    refine .cons (fun j f w' hj hI hs => ⟨wanted_none rfl, _, rfl, .val (rn_rem3 rfl ((fr_own rfl rfl).trans (hs 74 (by kernel_rfl))) ((fr_own rfl rfl).trans (hs 77 (by kernel_rfl))) hn0 hrm) ⟨⟨Below.refl _ _, rfl⟩, (fun h => by cases h)⟩⟩) ?_
                    refine .cons (fun j f w' hj hI hs => ⟨wanted_none rfl, _, rfl, .val (rn_idx31 rfl ((fr_own rfl rfl).trans (hs 72 (by kernel_rfl))) ((fr_own rfl rfl).trans (hs 78 (by kernel_rfl))) hjl) ⟨⟨Below.refl _ _, rfl⟩, (fun h => by cases h)⟩⟩) ?_
                    refine .cons (fun j f w' hj hI hs => ⟨wanted_none rfl, _, rfl, .val (rn_load32 rfl ((fr_own rfl rfl).trans (hs 79 (by kernel_rfl))) (HPP.out w' hI.1).2.2.1 (HPP.out w' hI.1).2.2.2) ⟨⟨Below.refl _ _, rfl⟩, (fun h => by cases h)⟩⟩) ?_
                    refine .cons (fun j f w' hj hI hs => ⟨wanted_none rfl, _, rfl, .val (rn_alloc32 rfl) ⟨⟨bl1 _ _, _, rfl, hI.1.size, 0, 0, World.alloc_heap_new _ _⟩, fun _ => ⟨rfl, by simp⟩⟩⟩) ?_
                    refine .cons (fun j f w' hj hI hs => ⟨wanted_none rfl, _, rfl, .val (rn_alloc32 rfl) ⟨⟨bl1 _ _, _, rfl, hI.1.size, 0, 0, World.alloc_heap_new _ _⟩, fun _ => ⟨rfl, by simp⟩⟩⟩) .nil
                  · refine .cons (fun f w' hI hs hne => ⟨wanted_none rfl, rfl, ?_⟩) ?_
                    · have h20 : f 70 = _ := (hs 70 (by kernel_rfl))
                      obtain ⟨T, e5, hW, x0, z0, hT⟩ : ∃ T, f 13 = .pointer (some ⟨T, 0, none⟩) ∧ wr.heap.size ≤ T ∧ ∃ x z : Int, w'.heap[T]? = some (.cells #[.int .i64 x, .int .i64 z] 32 (0, 0)) := (hs 13 (by kernel_rfl))
                      exact .skip (rn_store32 rfl ((fr_own rfl rfl).trans e5) ((fr_own rfl rfl).trans h20) hT) ⟨⟨⟨(hI.1.setCell hW _).setCell hW _, fun _ => ⟨T, e5, hW, blk32_st hT⟩, fun h => by omega⟩, fun d v hk => ktabE_st hT d v hk⟩, by simp [World.setCell]⟩
                    refine .cons (fun f w' hI hs hne => ⟨wanted_none rfl, rfl, ?_⟩) .nil
                    have h23 : f 80 = _ := (hs 80 (by kernel_rfl))
                    obtain ⟨T, e6, hW, x0, z0, hT⟩ : ∃ T, f 14 = .pointer (some ⟨T, 0, none⟩) ∧ wr.heap.size ≤ T ∧ ∃ x z : Int, w'.heap[T]? = some (.cells #[.int .i64 x, .int .i64 z] 32 (0, 0)) := (hs 14 (by kernel_rfl))
                    obtain ⟨T5, e5, hW5, h5⟩ := hI.2.1 (by decide)
                    have hne2 : T5 ≠ T := by
                      intro e
                      have := hne 13 14 (by kernel_rfl) (by kernel_rfl) rfl rfl (by decide)
                      rw [e5, e6, e] at this
                      exact this rfl
                    exact .skip (rn_store32 rfl ((fr_own rfl rfl).trans e6) ((fr_own rfl rfl).trans h23) hT) ⟨⟨⟨(hI.1.setCell hW _).setCell hW _, fun _ => ⟨T5, e5, hW5, blk2_far h5 hne2⟩, fun _ => ⟨T, e6, hW, blk32_st hT⟩⟩, fun d v hk => ktabE_st hT d v hk⟩, by simp [World.setCell]⟩
                  · intro f w' hI hs
                    obtain ⟨T5, e5, hW5, h5⟩ := hI.2.1 (by decide)
                    obtain ⟨T6, e6, hW6, h6⟩ := hI.2.2 (by decide)
                    refine hK _ _ (Met.intro (hJ _ _ ?_))
                    (repeat apply Exists.intro)
                    refine ⟨⟨T5, T6, e5, e6, ⟨h5, h6⟩, hI.1, hW5, hW6⟩, rfl⟩
                obtain ⟨T, U, rfl, rfl, HTU, HKW, hT, hU⟩ := hcut
                have K9 := Lib.hid (Below.thru HK3.out HK3.out.size HKW.out)
                have t0 : wc.cell? ⟨T, 0, none⟩ = some (.int .i64 x1) := by simp [World.cell?, HTU.out.1]
                have t1 : wc.cell? ⟨T, 1, none⟩ = some (.int .i64 z1) := by simp [World.cell?, HTU.out.1]
                have u0 : wc.cell? ⟨U, 0, none⟩ = some (.int .i64 x2) := by simp [World.cell?, HTU.out.2]
                have u1 : wc.cell? ⟨U, 1, none⟩ = some (.int .i64 z2) := by simp [World.cell?, HTU.out.2]
                clear HPP hn0 hw1 hrm hjl hT hU HTU HKW
                cases ha : alF l k m i with
                | false =>
                  rw [ha, Bool.false_and] at hsu
                  go_wp2
                  go_roundw
                  case rel => exact ⟨i + 1, by omega, by rw [hsu], by go_num, K9.out⟩
                  case measure => simp [intOf]; omega
                | true =>
                  rw [ha, Bool.true_and] at hsu
                  have p1 := mul_sm (A := 2100) (B := 2100) (a := x2 - x1) (b := (m : Int) - z1) (by omega) (by omega) (by omega)
                  have p2 := mul_sm (A := 2100) (B := 2100) (a := z2 - z1) (b := (k : Int) - x1) (by omega) (by omega) (by omega)
                  obtain ⟨d1, hd1⟩ : ∃ d, d = x2 - x1 := ⟨_, rfl⟩
                  obtain ⟨d2, hd2⟩ : ∃ d, d = (m : Int) - z1 := ⟨_, rfl⟩
                  obtain ⟨d3, hd3⟩ : ∃ d, d = z2 - z1 := ⟨_, rfl⟩
                  obtain ⟨d4, hd4⟩ : ∃ d, d = (k : Int) - x1 := ⟨_, rfl⟩
                  have e1 : IntKind.i64.wrap (x2 - x1) = d1 := by rw [hd1]; exact i64wk _ (by omega)
                  have e2 : IntKind.i64.wrap ((m : Int) - z1) = d2 := by rw [hd2]; exact i64wk _ (by omega)
                  have e3 : IntKind.i64.wrap (z2 - z1) = d3 := by rw [hd3]; exact i64wk _ (by omega)
                  have e4 : IntKind.i64.wrap ((k : Int) - x1) = d4 := by rw [hd4]; exact i64wk _ (by omega)
                  rw [← hd1, ← hd2] at p1
                  rw [← hd3, ← hd4] at p2
                  rw [← hd1, ← hd2, ← hd3, ← hd4] at hsu
                  obtain ⟨m1, hm1⟩ : ∃ d, d = d1 * d2 := ⟨_, rfl⟩
                  obtain ⟨m2, hm2⟩ : ∃ d, d = d3 * d4 := ⟨_, rfl⟩
                  have e5 : IntKind.i64.wrap (d1 * d2) = m1 := by rw [hm1]; exact i64wk _ (by omega)
                  have e6 : IntKind.i64.wrap (d3 * d4) = m2 := by rw [hm2]; exact i64wk _ (by omega)
                  rw [← hm1] at p1 hsu
                  rw [← hm2] at p2 hsu
                  have e7 : IntKind.i64.wrap (m1 - m2) = m1 - m2 := i64wk _ (by omega)
                  clear hd1 hd2 hd3 hd4 hm1 hm2 hb1 hb2
                  by_cases hD : 0 < m1 - m2
                  · rw [decide_eq_true hD] at hsu
                    go_wp2
                    go_roundw
                    case rel => exact ⟨i + 1, by omega, by rw [hsu]; simp; omega, by go_num, K9.out⟩
                    case measure => simp [intOf]; omega
                  · rw [decide_eq_false hD] at hsu
                    go_wp2
                    go_roundw
                    case rel => exact ⟨i + 1, by omega, by rw [hsu]; simp; omega, by go_num, K9.out⟩
                    case measure => simp [intOf]; omega
              · obtain rfl : i = n := by omega
                clear q
                have hsu := HIC.out k m
                cases ha : alF l k m i with
                | false =>
                  rw [ha] at hsu
                  simp only [Bool.false_eq_true, if_false, Int.add_zero] at hsu
                  go_wp2
                  go_roundw
                  case rel => exact ⟨m + 1, by omega, by rw [hsu], by go_num, HK3.out⟩
                  case measure => simp [intOf]; omega
                | true =>
                  rw [ha, if_pos rfl] at hsu
                  go_wp2
                  go_roundw
                  case rel => exact ⟨m + 1, by omega, by rw [hsu]; go_num, by go_num, HK3.out⟩
                  case measure => simp [intOf]; omega
          · obtain rfl : m = 61 := by omega
            have hsu := inA_succ l k
            go_wp2
            go_roundw
            case rel => exact ⟨k + 1, by omega, by rw [hsu], by go_num, HK2.out⟩
            case measure => simp [intOf]; omega
      · obtain rfl : k = 61 := by omega
        have hpe := HPI.out
        generalize inA l 61 = I at *
        go_wp2_with fail
        refine (wakes_any _).mono ?_
        rintro e wd ⟨rfl, hbd⟩
        have k8 := (HB5.out _ (Below.thru HK.out HK.out.size hbd)).2.1
        clear hbd
        go_wp2
        go_ret
        exact ⟨rfl, k8⟩
end Go.Proofs.Ytljmhejljpfaiaa

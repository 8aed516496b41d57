import Derived.Test.YtjjomjjgoceklaaZb
import Derived.RangeFuncNested
import Derived.RangeFuncBound
import Derived.RangeFuncCalls
import Derived.RangeFuncLeaves
import Derived.RangeFuncBox
import Derived.Shelf.Abstract
import Derived.Shelf.RegionOpen
import Derived.OwnWalkIn
import Derived.TacticsInMore
import Derived.LoopNIn
import Derived.LoopIn
import Derived.Maps.AppendAt
namespace Go.Proofs.Ytjjomjjgoceklaa
open Go.RowKit Go.Shelf
attribute [local go_sem] Oper.semAt_some

/-- the blocks of words lie as they lay -/
def KW (W W' : World) : Prop := W.heap.size ≤ W'.heap.size ∧ ∀ (b : Nat) (cur : Array Value), W.heap[b]? = some (.cells cur 24 (0, 0)) → W'.heap[b]? = some (.cells cur 24 (0, 0))
theorem KW.refl (W : World) : KW W W := ⟨Nat.le_refl _, fun _ _ h => h⟩
theorem KW.trans {A B C : World} (h : KW A B) (k : KW B C) : KW A C := ⟨Nat.le_trans h.1 k.1, fun b c hb => k.2 b c (h.2 b c hb)⟩
theorem KW.alloc (W : World) (o : Obj) : KW W (W.alloc o) := ⟨by simp, fun b c hb => (Below.heap_alloc W o b (Array.getElem?_eq_some_iff.1 hb).1).trans hb⟩
theorem KW.below {B : Nat} {W W' : World} (h : Below B W W') (hB : W.heap.size ≤ B) : KW W W' := ⟨h.size, fun b _c hb => (h.block b (Nat.lt_of_lt_of_le (Array.getElem?_eq_some_iff.1 hb).1 hB)).trans hb⟩
theorem KW.putObj {W : World} {l : Nat} {o : Obj} (o' : Obj) (hl : W.heap[l]? = some o) (ho : o.isCells = false) : KW W (W.putObj l o') :=
  ⟨by simp, fun b c hb => by
    by_cases e : b = l
    · subst e; rw [hl] at hb; cases hb; cases ho
    · exact (World.putObj_heap_other e).trans hb⟩
/-- a turn of one block that is no block of words -/
theorem KW.grown {W W' : World} {row : Option Nat} (hg : W.grownBy W' row) (h : ∀ j cur, row = some j → W.heap[j]? = some (.cells cur 24 (0, 0)) → False) : KW W W' :=
  ⟨hg.size, fun b c hb => (hg.block b (Array.getElem?_eq_some_iff.1 hb).1 (fun e => h b c e.symm hb)).trans hb⟩
theorem below_grown {W W' : World} (h : Below W.heap.size W W') : W.grownBy W' none := ⟨h.os, h.tape, h.output, h.size, fun k hk _ => h.block k hk⟩

theorem u64_div (a u : Nat) (h : a < 10 ^ 19) : IntKind.u64.wrap ((a : Int) / (u : Int)) = ((a / u : Nat) : Int) := by
  rw [IntKind.wrap_u64, ← Int.natCast_ediv]
  have := Nat.div_le_self a u
  generalize a / u = q at *
  omega
/-- what lies behind the calls of yield for digits -/
def YD (N : Nat) (J Jx : List (Fin 10) → World → Prop) (e : Ending) (W' : World) : Prop :=
  (∃ v, e = .returned v) ∧ ((∃ ys, ys = decL N ∧ J ys W') ∨ (∃ pre, True ∧ Jx pre W'))
theorem YD.stop {N : Nat} {J Jx : List (Fin 10) → World → Prop} {v : Value} {W' : World} {pre : List (Fin 10)} (h : Jx pre W') : YD N J Jx (.returned v) W' := ⟨⟨_, rfl⟩, .inr ⟨_, trivial, h⟩⟩

set_option maxRecDepth 100000 in
set_option maxHeartbeats 2000000 in
theorem dec1_in (n : Nat) (hn : 1 ≤ n) (l B N : Nat) (x : Int) (p : Option Addr) (hG : GrC N) (J Jx : List (Fin 10) → World → Prop)
    (hJ : ∀ s W W', J s W → W.grownBy W' none → J s W')
    (hY : ∀ pre d W, J pre W → pre.length < nd N → YieldAt Fence.wide (n - 1) Try.prog l #[.int .u8 ((Fin.val d : Nat) : Int)] W fun e W' =>
      (e = .returned (.bool true) ∧ J (pre ++ [d]) W' ∧ KW W W') ∨ (e = .returned (.bool false) ∧ Jx (pre ++ [d]) W'))
    (W : World) (c0 : W.cell? ⟨B, 0, none⟩ = some (.int .u64 x)) (c1 : W.cell? ⟨B, 1, none⟩ = some (.pointer p)) (hd : Dg W (.agg #[.int .u64 x, .pointer p]) N) (h0 : J [] W) :
    CallsIn Fence.wide n Try.prog 94 #[.func (.yield l) #[] #[], .pointer (some ⟨B, 0, none⟩)] W (YD N J Jx) := by
  refine callsIn_of_wp Try.func94 rfl trivial ?_ rfl
  simp only [Try.ntmps94, List.size_toArray, List.length_cons, List.length_nil, Nat.reduceAdd, Nat.reduceSub, Array.replicate_succ, Array.replicate_zero, List.push_toArray, List.append_toArray, List.nil_append, List.cons_append]
  have HD := Lib.hid hd
  clear hd
  gi_wp2_with fail
  refine ⟨trivial, ?_⟩
  refine (callsIn_wide.2 (hG _ _ HD.out)).mono ?_
  rintro e w1 ⟨hb1, g, cap, gs, cur, rfl, hblk, hcur, hgs, hlen⟩
  have J1 := Lib.hid (hJ _ _ _ h0 (below_grown hb1))
  obtain ⟨m, hm⟩ : ∃ m, gs.length = m + 1 := ⟨gs.length - 1, by have := hgs.1; omega⟩
  rw [hm] at hlen hcur ⊢
  have HM := Lib.hid hm
  have HG := Lib.hid hgs
  have HC := Lib.hid hcur
  have HBK := Lib.hid hblk
  have gl9 : gs.getD m 0 < 10 ^ 19 := hgs.lt (by omega)
  have hcell : ∀ (wr : World), KW w1 wr → ∀ i, i < m + 1 → wr.cell? ⟨g, i, none⟩ = some (.int .u64 ((gs.getD i 0 : Nat) : Int)) := fun wr hk i hi => by
    unfold World.cell?
    dsimp only
    rw [hk.2 _ _ HBK.out]
    exact HC.out i hi
  have HCL := Lib.hid hcell
  have c2 := hcell w1 (KW.refl _) m (Nat.lt_succ_self _)
  have HND : Hid (∀ K, 1 ≤ K → gs.getD m 0 < 10 ^ K → (K = 1 ∨ 10 ^ (K - 1) ≤ gs.getD m 0) → K + 19 * m = nd N) := fun K a b c => by
    have h := hgs.nd (K := K) a (by rw [hm]; exact b) (by rw [hm]; exact c)
    rw [hm] at h
    exact h
  clear hcell hcur hblk hgs hm c0 c1 h0 hb1
  generalize hgl : gs.getD m 0 = gl at *
  have HGL := Lib.hid hgl
  have HG9 := Lib.hid gl9
  clear hgl gl9
  gi_wp2
  gi_loopw [5] (fun u wr => wr = w1 ∧ ∃ (k v : Nat), u = .int .u64 (v : Int) ∧ Hid (v = 10 ^ k) ∧ k ≤ 18 ∧ Hid (k = 0 ∨ 10 ^ k ≤ gl)) (fun u _ => T19 - (intOf u).toNat)
  case atStart => exact ⟨rfl, 0, 1, rfl, rfl, by omega, .inl rfl⟩
  case round =>
    obtain ⟨rfl, k, u, rfl, HU, hk, HK⟩ := hrel
    have hu0 : 0 < u := by rw [HU.out]; exact Nat.pow_pos (by decide)
    have hdv := u64_div gl u HG9.out
    obtain ⟨dd, hdd⟩ : ∃ dd, dd = gl / u := ⟨_, rfl⟩
    rw [← hdd] at hdv
    have HDD := Lib.hid hdd
    by_cases hge : 10 ≤ gl / u
    · have hk17 : k ≤ 17 := by
        rcases Nat.lt_or_ge 17 k with h | h
        · exfalso
          obtain rfl : k = 18 := by omega
          have h1 := HU.out
          have h2 := HG9.out
          have h3 : 10 * u ≤ gl := by have := (Nat.le_div_iff_mul_le hu0).1 hge; omega
          rw [h1] at h3
          omega
        · exact h
      have hu1 : u ≤ 100000000000000000 := by
        rw [HU.out]
        exact Nat.le_trans (Nat.pow_le_pow_right (by decide) hk17) (by decide)
      have HK2 : Hid (k + 1 = 0 ∨ 10 ^ (k + 1) ≤ gl) := .inr (by
        have h3 : 10 * u ≤ gl := by have := (Nat.le_div_iff_mul_le hu0).1 hge; omega
        rw [HU.out] at h3
        rw [Nat.pow_succ]; omega)
      have HU2 : Hid (10 * u = 10 ^ (k + 1)) := by show _ = _; rw [HU.out, Nat.pow_succ]; omega
      have hge2 : (10 : Int) ≤ (dd : Int) := by omega
      have hge3 : 10 ≤ dd := by omega
      clear hdd
      have hw := ten_wrap u (by omega)
      clear hge
      gi_wp2
      go_roundw
      case rel => exact ⟨trivial, k + 1, 10 * u, by go_num, HU2.out, by omega, HK2.out⟩
      case measure => 
        have : (10 : Nat) ^ 19 = T19 := by decide
        simp [intOf]; unfold T19; omega
    · have hu1 : u ≤ 1000000000000000000 := by
        rw [HU.out]
        exact Nat.le_trans (Nat.pow_le_pow_right (by decide) hk) (by decide)
      have hge2 : (dd : Int) < 10 := by omega
      have hge3 : dd < 10 := by omega
      have HND2 : Hid (k + 1 + 19 * m = nd N) := by
        refine HND.out (k + 1) (by omega) ?_ ?_
        · rw [Nat.pow_succ, ← HU.out]
          have := (Nat.div_lt_iff_lt_mul hu0).1 (show gl / u < 10 by omega)
          omega
        · rcases HK.out with h | h
          · left; omega
          · right; exact h
      clear hdd hge
      obtain ⟨w2, rfl⟩ : ∃ wo : World, wo = wr := ⟨_, rfl⟩
      gi_wp2
      gi_loopw [5, 6] (fun u i wr2 => ∃ (ci : Int) (left : Nat) (v : Nat), i = .int .i64 ci ∧ u = .int .u64 (v : Int) ∧ J ((decL N).take (nd N - left)) wr2 ∧ KW w2 wr2 ∧ Hid (left ≤ nd N) ∧
          Hid ((ci = -1 ∧ left = 0) ∨ ∃ j k2 : Nat, ci = j ∧ j ≤ m ∧ k2 ≤ 18 ∧ v = 10 ^ k2 ∧ left = 19 * j + k2 + 1)) (fun _ i _ => (intOf i + 1).toNat)
      case atStart => exact ⟨(m : Int), nd N, u, rfl, rfl, by rw [Nat.sub_self]; exact J1.out, KW.refl _, Nat.le_refl _, .inr ⟨m, k, rfl, Nat.le_refl _, hk, HU.out, by have := HND2.out; omega⟩⟩
      case round =>
        obtain ⟨ci, left, v, rfl, rfl, HJ, hkw, HLE, HCI⟩ := hrel
        rcases HCI.out with ⟨rfl, rfl⟩ | ⟨j, k2, rfl, hjm, hk2, hv, hleft⟩
        · gi_wp2
          go_end0
          exact ⟨⟨_, rfl⟩, .inl ⟨_, rfl, by rw [Nat.sub_zero, List.take_of_length_le (by rw [decL_length]; exact Nat.le_refl _)] at HJ; exact HJ⟩⟩
        · obtain ⟨w3, rfl⟩ : ∃ wo : World, wo = wr := ⟨_, rfl⟩
          gi_wp2
          gi_loopw [5] (fun u wr3 => ∃ (left2 v2 : Nat), u = .int .u64 (v2 : Int) ∧ J ((decL N).take (nd N - left2)) wr3 ∧ KW w2 wr3 ∧ Hid (left2 ≤ nd N) ∧
              Hid ((v2 = 0 ∧ left2 = 19 * j) ∨ ∃ k3 : Nat, k3 ≤ 18 ∧ v2 = 10 ^ k3 ∧ left2 = 19 * j + k3 + 1)) (fun u _ => (intOf u).toNat)
          case atStart => exact ⟨left, v, rfl, HJ, hkw, HLE.out, .inr ⟨k2, hk2, hv, hleft⟩⟩
          case round =>
            obtain ⟨left2, v2, rfl, HJ2, hkw2, HLE2, HV2⟩ := hrel
            rcases HV2.out with ⟨rfl, hl2⟩ | ⟨k3, hk3, hv3, hl2⟩
            · gi_wp2
              go_roundw
              case rel => exact ⟨(j : Int) - 1, left2, 1000000000000000000, rfl, rfl, HJ2, hkw2, HLE2.out, by
                show _ ∨ _
                cases j with
                | zero => left; exact ⟨by simp, by omega⟩
                | succ j' => right; exact ⟨j', 18, by omega, by omega, by omega, by decide, by omega⟩⟩
              case measure => simp [intOf]
            · have hv0 : 0 < v2 := by rw [hv3]; exact Nat.pow_pos (by decide)
              have hv1 : v2 ≤ 1000000000000000000 := by
                rw [hv3]
                exact Nat.le_trans (Nat.pow_le_pow_right (by decide) hk3) (by decide)
              have cj := HCL.out wr hkw2 j (by omega)
              have hlj : gs.getD j 0 < 10 ^ 19 := HG.out.lt (by rw [HM.out]; omega)
              have hdj := HG.out.dig (i := j) (k := k3) (by rw [HM.out]; omega) (by omega)
              have hl3 := HLE2.out
              have hle : ((decL N).take (nd N - left2)).length < nd N := by rw [List.length_take, decL_length]; omega
              have htk := padL_take (nd N) N (nd N - left2) (by omega)
              rw [show nd N - 1 - (nd N - left2) = 19 * j + k3 by omega] at htk
              obtain ⟨fn, tmps, assign, body, hy, hR⟩ := hY _ (digAt N (19 * j + k3)) wr HJ2 hle
              have hdv3 := u64_div (gs.getD j 0) v2 hlj
              have hdv4 : IntKind.u64.wrap ((v2 : Int) / 10) = ((v2 / 10 : Nat) : Int) := u64_div v2 10 (by omega)
              generalize digAt N (19 * j + k3) = dg at *
              have hval : gs.getD j 0 / v2 % 10 = dg.val := by rw [hv3, ← hdj]; rfl
              generalize gs.getD j 0 = gj at *
              generalize hd3 : gj / v2 = d3 at *
              generalize hd4 : v2 / 10 = d4 at *
              have hval2 : (d3 : Int) % 10 = ((dg.val : Nat) : Int) := by omega
              have hlt10 := dg.isLt
              have HV4 : Hid ((d4 = 0 ∧ left2 - 1 = 19 * j) ∨ ∃ k4 : Nat, k4 ≤ 18 ∧ d4 = 10 ^ k4 ∧ left2 - 1 = 19 * j + k4 + 1) := by
                cases k3 with
                | zero => left; rw [Nat.pow_zero] at hv3; omega
                | succ k4 => right; exact ⟨k4, by omega, by rw [Nat.pow_succ] at hv3; omega, by omega⟩
              have hvd : d4 < v2 := by omega
              have HT : Hid ((decL N).take (nd N - (left2 - 1)) = (decL N).take (nd N - left2) ++ [dg]) := by
                show _ = _
                rw [show nd N - (left2 - 1) = nd N - left2 + 1 by omega]; exact htk
              have HL4 : Hid (left2 - 1 ≤ nd N) := by show _ ≤ _; omega
              clear hd3 hd4 hv3 hl2 htk hle hdj hl3 hval hv hleft
              gi_wp2
              refine hR.mono ?_
              rintro e W3 (⟨rfl, hJ3, hk3'⟩ | ⟨rfl, hJx3⟩)
              · gi_wp2
                go_roundw
                case rel => exact ⟨left2 - 1, d4, rfl, by rw [HT.out]; exact hJ3, hkw2.trans hk3', HL4.out, HV4.out⟩
                case measure => simp [intOf]; omega
              · gi_wp2
                exact bodyPost_ret (results_none rfl _ _ _) rfl (YD.stop hJx3)
/-- the iterator of decimal digits -/
theorem dec_stops (n : Nat) (hn : 1 ≤ n) (B N : Nat) (x : Int) (p : Option Addr) (hG : GrC N) (w : World) (hB : B < w.heap.size)
    (c0 : w.cell? ⟨B, 0, none⟩ = some (.int .u64 x)) (c1 : w.cell? ⟨B, 1, none⟩ = some (.pointer p)) (hd : Dg w (.agg #[.int .u64 x, .pointer p]) N) :
    SeqStopsK Fence.wide n Try.prog 94 #[.pointer (some ⟨B, 0, none⟩)] (fun d : Fin 10 => #[.int .u8 ((Fin.val d : Nat) : Int)]) KW (fun ys => ys = decL N) (fun _ => True) (nd N) w := fun l J Jx W hW hJ _ hY h0 =>
  dec1_in n hn l B N x p hG J Jx (fun s A C h g => hJ s A C none h g (fun r e => by cases e)) hY W ((hW.cell (p := ⟨B, 0, none⟩) hB).trans c0) ((hW.cell (p := ⟨B, 1, none⟩) hB).trans c1) (hd.keep hW (Nat.le_refl _)) h0
end Go.Proofs.Ytjjomjjgoceklaa

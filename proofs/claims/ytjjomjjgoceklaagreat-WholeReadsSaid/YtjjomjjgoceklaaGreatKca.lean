import Derived.Test.YtjjomjjgoceklaaGreatKac
import Derived.IntWalk
import Derived.Lib.ItoaNum
import Derived.Lib.BitFns
import Derived.Test.YtjjomjjgoceklaaGreatKbe
import Derived.Test.YtjjomjjgoceklaaGreatKae
import Derived.Outline
import Derived.Deep.Cut
import Derived.Deep.DeepCutAuto
import Derived.Deep.CutBlock
import Derived.Laws.BitsLemmas
import Derived.Test.YtjjomjjgoceklaaGreatKbf
import Derived.Test.YtjjomjjgoceklaaGreatKbh
import Derived.Maps.AppendAt
namespace Go.Proofs.YtjjomjjgoceklaaGreat
set_option maxRecDepth 100000
open Go.RowKit

/-! plain: a division of two words by one, half a word at a time -/
/-- half a word -/
def HB : Nat := 4294967296
theorem HB_pos : 0 < HB := by decide
/-- the guess q and its rest r of (u, v) by (y1, y0) -/
def Qh (u v y1 y0 q r : Nat) : Prop := q * y1 + r = u ∧ (u * HB + v) / (y1 * HB + y0) ≤ q ∧ q ≤ HB + 1
theorem qh_lt {u v y1 y0 : Nat} (hu : u < y1 * HB + y0) (hv : v < HB) : (u * HB + v) / (y1 * HB + y0) < HB := by
  rw [Nat.div_lt_iff_lt_mul (by omega)]
  have : (u + 1) * HB ≤ (y1 * HB + y0) * HB := Nat.mul_le_mul_right _ hu
  rw [Nat.add_mul] at this
  rw [Nat.mul_comm HB]
  omega
theorem qh_iff {u v y1 y0 q r : Nat} (hy : 0 < y1 * HB + y0) (h : q * y1 + r = u) : q ≤ (u * HB + v) / (y1 * HB + y0) ↔ q * y0 ≤ HB * r + v := by
  rw [Nat.le_div_iff_mul_le hy, ← h, Nat.mul_add, ← Nat.mul_assoc, Nat.add_mul, Nat.mul_comm r HB]
  omega
theorem qh_start {u v y1 y0 : Nat} (h1 : HB ≤ 2 * y1) (hu : u < y1 * HB + y0) (h0 : y0 < HB) (hv : v < HB) : Qh u v y1 y0 (u / y1) (u % y1) := by
  have hB := HB_pos
  have hp : 0 < y1 := by omega
  refine ⟨by rw [Nat.mul_comm]; exact Nat.div_add_mod u y1, ?_, ?_⟩
  · rw [Nat.le_div_iff_mul_le hp]
    have h2 : (u * HB + v) / (y1 * HB + y0) * (y1 * HB + y0) ≤ u * HB + v := Nat.div_mul_le_self _ _
    generalize (u * HB + v) / (y1 * HB + y0) = Q at *
    rw [Nat.mul_add, ← Nat.mul_assoc] at h2
    apply Nat.le_of_lt_succ
    apply Nat.lt_of_mul_lt_mul_right (a := HB)
    rw [Nat.succ_mul]
    omega
  · apply Nat.le_of_lt_succ
    rw [Nat.div_lt_iff_lt_mul hp]
    rw [show (HB + 1 + 1) * y1 = y1 * HB + 2 * y1 by rw [Nat.add_mul, Nat.add_mul, Nat.mul_comm HB]; omega]
    omega
theorem qh_done {u v y1 y0 q r : Nat} (hy : 0 < y1 * HB + y0) (h : Qh u v y1 y0 q r) (hc : q * y0 ≤ HB * r + v) : q = (u * HB + v) / (y1 * HB + y0) :=
  Nat.le_antisymm ((qh_iff hy h.1).2 hc) h.2.1
theorem qh_next {u v y1 y0 q r : Nat} (hu : u < y1 * HB + y0) (hv : v < HB) (h : Qh u v y1 y0 q r) (hc : HB ≤ q ∨ HB * r + v < q * y0) :
    1 ≤ q ∧ Qh u v y1 y0 (q - 1) (r + y1) ∧ q - 1 ≤ HB := by
  have hq := qh_lt hu hv
  have hlt : (u * HB + v) / (y1 * HB + y0) < q := by
    rcases hc with hc | hc
    · omega
    · apply Nat.lt_of_not_le
      intro hle
      have := (qh_iff (by omega) h.1).1 hle
      omega
  obtain ⟨h1, h2, h3⟩ := h
  have hq1 : 1 ≤ q := Nat.lt_of_le_of_lt (Nat.zero_le _) hlt
  refine ⟨hq1, ⟨?_, Nat.le_sub_one_of_lt hlt, by omega⟩, by omega⟩
  obtain ⟨p, rfl⟩ : ∃ p, q = p + 1 := ⟨q - 1, by omega⟩
  rw [Nat.add_mul] at h1
  simp only [Nat.add_sub_cancel]
  omega
theorem qh_break {u v y1 y0 q r : Nat} (hy : 0 < y1 * HB + y0) (h0 : y0 < HB) (h : Qh u v y1 y0 q r) (hq : q ≤ HB) (hr : HB ≤ r) : q = (u * HB + v) / (y1 * HB + y0) := by
  refine qh_done hy h ?_
  have h1 : q * y0 ≤ HB * y0 := Nat.mul_le_mul_right _ hq
  have h2 : HB * y0 ≤ HB * r := Nat.mul_le_mul_left _ (by omega)
  omega
/-- both halves together -/
theorem two_halves (u v1 v0 y : Nat) (hy : 0 < y) :
    ((u * HB + v1) / y) * HB + (((u * HB + v1) % y) * HB + v0) / y = (u * (HB * HB) + v1 * HB + v0) / y ∧ (((u * HB + v1) % y) * HB + v0) % y = (u * (HB * HB) + v1 * HB + v0) % y := by
  have e := Nat.div_add_mod (u * HB + v1) y
  generalize hq : (u * HB + v1) / y = q at *
  generalize hr : (u * HB + v1) % y = r at *
  have e2 : u * (HB * HB) + v1 * HB + v0 = (r * HB + v0) + y * (q * HB) := by
    have : (y * q + r) * HB = (u * HB + v1) * HB := by rw [e]
    rw [Nat.add_mul, Nat.add_mul, Nat.mul_assoc, Nat.mul_assoc] at this
    omega
  constructor
  · rw [e2, Nat.add_mul_div_left _ _ hy]; omega
  · rw [e2, Nat.add_mul_mod_self_left]
/-- shifted up, divided, shifted down -/
theorem shifted (n d s : Nat) : (n * 2 ^ s) / (d * 2 ^ s) = n / d ∧ (n * 2 ^ s) % (d * 2 ^ s) / 2 ^ s = n % d := by
  have hp : 0 < 2 ^ s := Nat.pow_pos (by decide)
  constructor
  · exact Nat.mul_div_mul_right _ _ hp
  · rw [Nat.mul_mod_mul_right, Nat.mul_div_cancel _ hp]
theorem WB_HB : WB = HB * HB := by decide
theorem WB_pow : WB = 2 ^ 64 := by decide
/-- the shift that sets the highest bit -/
theorem lz_spec (y : Nat) (h0 : 0 < y) (hy : Wd y) : ∃ s : Nat, s ≤ 63 ∧ (64 : Int) - (Lib.bitLen y : Int) = (s : Int) ∧ y * 2 ^ s < WB ∧ WB ≤ 2 * (y * 2 ^ s) := by
  have hw : WB = 2 ^ 64 := rfl
  unfold Wd at hy
  obtain ⟨h1, h2, h3⟩ := Lib.bitLenAux_bounds 64 y (hw ▸ hy) (by omega)
  have hl := Lib.bitLen_le y 64 (Nat.le_refl _) (hw ▸ hy)
  unfold Lib.bitLen at hl ⊢
  generalize Lib.bitLenAux 64 y = L at *
  refine ⟨64 - L, by omega, by omega, ?_, ?_⟩
  · rw [hw, show (2 : Nat) ^ 64 = 2 ^ L * 2 ^ (64 - L) by rw [← Nat.pow_add]; congr 1; omega]
    exact (Nat.mul_lt_mul_right (Nat.pow_pos (by decide))).2 h3
  · rw [hw, show (2 : Nat) ^ 64 = 2 * (2 ^ (L - 1) * 2 ^ (64 - L)) by rw [← Nat.pow_add, ← Nat.pow_succ']; congr 1; omega]
    exact Nat.mul_le_mul_left _ (Nat.mul_le_mul_right _ h2)
/-- the highest words, shifted -/
def up1 (hi lo s : Nat) : Nat := hi * 2 ^ s + lo / 2 ^ (64 - s)
def up0 (lo s : Nat) : Nat := lo * 2 ^ s % WB
theorem up_eq {hi lo s : Nat} (hs : s ≤ 63) : up1 hi lo s * WB + up0 lo s = (hi * WB + lo) * 2 ^ s := by
  have hw : WB = 2 ^ (64 - s) * 2 ^ s := by rw [WB_pow, ← Nat.pow_add]; congr 1; omega
  have e : lo * 2 ^ s / WB = lo / 2 ^ (64 - s) := by rw [hw]; exact Nat.mul_div_mul_right _ _ (Nat.pow_pos (by decide))
  have h := Nat.div_add_mod (lo * 2 ^ s) WB
  rw [e] at h
  unfold up1 up0
  rw [Nat.add_mul, Nat.add_mul, Nat.mul_right_comm hi (2 ^ s) WB, Nat.mul_comm (lo / _) WB]
  generalize lo * 2 ^ s = X at *
  omega
theorem up1_lt {hi lo y s : Nat} (hs : s ≤ 63) (hlt : hi < y) (hlo : Wd lo) : up1 hi lo s < y * 2 ^ s := by
  have h := up_eq (hi := hi) (lo := lo) hs
  have h1 : (hi * WB + lo) * 2 ^ s < (y * 2 ^ s) * WB := by
    rw [Nat.mul_right_comm y]
    refine (Nat.mul_lt_mul_right (Nat.pow_pos (by decide))).2 ?_
    have : (hi + 1) * WB ≤ y * WB := Nat.mul_le_mul_right _ hlt
    rw [Nat.add_mul] at this
    unfold Wd at hlo
    omega
  apply Nat.lt_of_mul_lt_mul_right (a := WB)
  omega
theorem up0_lt (lo s : Nat) : up0 lo s < WB := Nat.mod_lt _ WB_pos
theorem or_parts {hi lo s : Nat} (hs : s ≤ 63) (hlo : Wd lo) : (hi * 2 ^ s) ||| (lo / 2 ^ (64 - s)) = up1 hi lo s := by
  have hb : lo / 2 ^ (64 - s) < 2 ^ s := by
    rw [Nat.div_lt_iff_lt_mul (Nat.pow_pos (by decide)), ← Nat.pow_add, show s + (64 - s) = 64 by omega]
    exact hlo
  unfold up1
  rw [← Nat.shiftLeft_eq, Nat.shiftLeft_add_eq_or_of_lt hb]
/-- the whole division -/
theorem div64_all {hi lo y s q1 q0 r : Nat} (hs : s ≤ 63) (hy : 0 < y)
    (h1 : q1 = (up1 hi lo s * HB + up0 lo s / HB) / (y * 2 ^ s)) (h2 : q0 = (((up1 hi lo s * HB + up0 lo s / HB) % (y * 2 ^ s)) * HB + up0 lo s % HB) / (y * 2 ^ s)) (h3 : r = (((up1 hi lo s * HB + up0 lo s / HB) % (y * 2 ^ s)) * HB + up0 lo s % HB) % (y * 2 ^ s) / 2 ^ s) :
    q1 * HB + q0 = (hi * WB + lo) / y ∧ r = (hi * WB + lo) % y := by
  have hp : 0 < y * 2 ^ s := Nat.mul_pos hy (Nat.pow_pos (by decide))
  obtain ⟨a, b⟩ := two_halves (up1 hi lo s) (up0 lo s / HB) (up0 lo s % HB) (y * 2 ^ s) hp
  have e : up1 hi lo s * (HB * HB) + up0 lo s / HB * HB + up0 lo s % HB = (hi * WB + lo) * 2 ^ s := by
    rw [← WB_HB, ← up_eq hs, Nat.add_assoc, Nat.div_add_mod']
  rw [e] at a b
  obtain ⟨c, d⟩ := shifted (hi * WB + lo) y s
  rw [c] at a
  rw [h1, h2, h3]
  exact ⟨a, by rw [b, d]⟩
end Go.Proofs.YtjjomjjgoceklaaGreat
namespace Go.Proofs.YtjjomjjgoceklaaGreat
set_option maxRecDepth 100000
open Go.RowKit

section
variable {P : Program} {ops : Array Oper} {Q : Exit → Act → World → Prop}
/-- a region in the order of its text -/
theorem wp_region_inv0 {id : Nat} {a : Act} {w : World} (hback : backB .any ops = true) (Φ : (Nat → Bool) → Act → World → Prop) (h0 : Φ (fun _ => false) a w)
    (hstep : ∀ L a w i o, ops[i]? = some o → Φ L a w → L i = false → (∀ e ∈ o.after, Region.binds .any e = true → L e.on = true) → wpOp P ops Q i (Φ (dn L i)) a w)
    (hend : ∀ L a w, Φ L a w → (∀ i, i < ops.size → L i = true) → Q .normal a w) : (Code.region id ops false).wp P Q a w := by
  refine wp_region ?_
  rw [List.range_eq_range']
  suffices key : ∀ (n k : Nat) (a : Act) (w : World), k + n = ops.size → Φ (fun j => decide (j < k)) a w → wpOps P ops Q (List.range' k n) a w by
    refine key ops.size 0 a w (by omega) ?_
    have : (fun j => decide (j < 0)) = fun _ => false := by funext j; simp
    rw [this]; exact h0
  intro n
  induction n with
  | zero => intro k a w hk hΦ; exact hend _ _ _ hΦ (fun i hi => by simp; omega)
  | succ n ih =>
    intro k a w hk hΦ
    rw [List.range'_succ, wpOps_cons]
    have hlt : k < ops.size := by omega
    have ho : ops[k]? = some ops[k] := Array.getElem?_eq_getElem hlt
    refine wpOp_mono (fun a' w' hh => ih (k + 1) a' w' (by omega) ?_) (hstep _ a w k _ ho hΦ (by simp) (fun e he hb => by simpa using backB_spec hback ho e he hb))
    have : dn (fun j => decide (j < k)) k = fun j => decide (j < k + 1) := by
      funext j
      unfold dn
      by_cases e : j = k
      · simp [e]
      · rw [if_neg e]
        by_cases h : j < k
        · simp [h, show j < k + 1 by omega]
        · simp [h, show ¬ j < k + 1 by omega]
    rw [this] at hh
    exact hh
/-- loads, calls, new blocks and what is passed over, whichever way the region is run -/
theorem kd_core {G : Prop} {a0 : Act} {W : World} (D : Nat → Bool) (tab : Nat → Kd) (I : World → Prop) (hu : uniqB ops = true)
    (hD : (ops.toList.filterMap (·.dst)).all D = true) (hI : ∀ w w', I w → Below w.heap.size w w' → I w') (h0 : I W)
    (run : ∀ Φ : (Nat → Bool) → Act → World → Prop, Φ (fun _ => false) a0 W →
      (∀ L a w i o, ops[i]? = some o → Φ L a w → L i = false → (∀ e ∈ o.after, Region.binds .any e = true → L e.on = true) → wpOp P ops Q i (Φ (dn L i)) a w) →
      (∀ L a w, Φ L a w → (∀ i, i < ops.size → L i = true) → Q .normal a w) → G)
    (hstep : AllFrom (fun i o => ∀ f w, I w → (∀ d, (predD ops i).contains d = true → kd (tab d) (f d) w) → ∃ d, o.dst = some d ∧
      ((Region.wanted o (yielded ops (fr a0 D f).tmps) = true ∧ OpR P o (fr a0 D f) w fun v w' => Below w.heap.size w w' ∧ kd (tab d) v w') ∨
        (Region.wanted o (yielded ops (fr a0 D f).tmps) = false ∧ kd (tab d) undef w))) 0 ops.toList)
    (hend : ∀ f w, I w → (∀ d, (ops.toList.filterMap (·.dst)).contains d = true → kd (tab d) (f d) w) → Q .normal (fr a0 D f) w) : G := by
  refine run (fun L a w => ∃ f, a = fr a0 D f ∧ I w ∧ Closed ops L ∧ KdAll tab ops L f w) ⟨_, (fr_self a0 D).symm, h0, (by intro i h; cases h), (by intro i o d _ h; cases h)⟩ ?_ ?_
  · rintro L a w n o ho ⟨f, rfl, hIw, hcl, hk⟩ hL hdep
    have hg := hstep.get (i := n) (o := o) (by simpa using ho)
    rw [Nat.zero_add] at hg
    have hedge : ∀ j ∈ edgesOf ops n, L j = true := by
      intro j hj
      unfold edgesOf at hj
      rw [ho] at hj
      obtain ⟨e, he, rfl⟩ := List.mem_map.1 hj
      obtain ⟨he1, he2⟩ := List.mem_filter.1 he
      exact hdep e (by simpa using he1) he2
    have hpre : ∀ d, (predD ops n).contains d = true → kd (tab d) (f d) w := by
      intro d hd
      unfold predD at hd
      obtain ⟨j, hj, hjd⟩ := List.mem_filterMap.1 (List.contains_iff_mem.1 hd)
      have hLj := predGo_ok hcl n _ hedge j hj
      obtain ⟨oj, hoj, hdj⟩ := Option.bind_eq_some_iff.1 hjd
      exact hk j oj d hoj hLj hdj
    obtain ⟨d, hd, hr⟩ := hg f w hIw hpre
    have step : ∀ v w', (Below w.heap.size w w' ∧ kd (tab d) v w') → I w' ∧ Closed ops (dn L n) ∧ KdAll tab ops (dn L n) (updo f o.dst v) w' := by
      rintro v w' ⟨hb, hkd⟩
      refine ⟨hI _ _ hIw hb, ?_, ?_⟩
      · intro i hi j hj
        unfold dn at hi ⊢
        by_cases e : i = n
        · subst e
          split
          · rfl
          · exact hedge j hj
        · rw [if_neg e] at hi
          split
          · rfl
          · exact hcl i hi j hj
      · intro i p d' hp hi hd'
        rw [hd]
        unfold dn at hi
        by_cases e : i = n
        · subst e
          rw [ho] at hp
          cases hp
          rw [hd] at hd'
          cases hd'
          simpa [updo, upd] using hkd
        · rw [if_neg e] at hi
          have hne : d' ≠ d := fun he => e (uniq_spec hu hp ho (he ▸ hd') hd)
          simp only [updo, upd, if_neg hne]
          exact (hk i p d' hp hi hd').keep hb
    have hDd : ∀ t, o.dst = some t → D t = true := fun t ht =>
      List.all_eq_true.1 hD t (List.mem_filterMap.2 ⟨o, by rw [Array.mem_toList_iff]; exact Array.mem_of_getElem? ho, ht⟩)
    unfold wpOp
    rcases hr with ⟨hw, hr⟩ | ⟨hw, hr⟩
    · simp only [ho, hw, if_true]
      exact .inl (hr.wp fun v w' hR => ⟨_, fr_put _ _ _ _ _ hDd, step v w' hR⟩)
    · simp only [ho, hw, Bool.false_eq_true, if_false]
      exact ⟨_, fr_put _ _ _ _ _ hDd, step _ _ ⟨Below.refl _ _, hr⟩⟩
  · rintro L a w ⟨f, rfl, hIw, _, hk⟩ hall
    refine hend f w hIw fun d hd => ?_
    obtain ⟨o, ho, hod⟩ := List.mem_filterMap.1 (List.contains_iff_mem.1 hd)
    obtain ⟨i, hi⟩ := List.getElem?_of_mem ho
    have hi' : ops[i]? = some o := by simpa using hi
    exact hk i o d hi' (hall i (Array.getElem?_eq_some_iff.1 hi').1) hod
theorem wp_region_ks {id : Nat} {a0 : Act} {w : World} (D : Nat → Bool) (tab : Nat → Kd) (I : World → Prop) (hback : backB .any ops = true) (hu : uniqB ops = true)
    (hD : (ops.toList.filterMap (·.dst)).all D = true) (hI : ∀ w w', I w → Below w.heap.size w w' → I w') (h0 : I w)
    (hstep : AllFrom (fun i o => ∀ f w, I w → (∀ d, (predD ops i).contains d = true → kd (tab d) (f d) w) → ∃ d, o.dst = some d ∧
      ((Region.wanted o (yielded ops (fr a0 D f).tmps) = true ∧ OpR P o (fr a0 D f) w fun v w' => Below w.heap.size w w' ∧ kd (tab d) v w') ∨
        (Region.wanted o (yielded ops (fr a0 D f).tmps) = false ∧ kd (tab d) undef w))) 0 ops.toList)
    (hend : ∀ f w, I w → (∀ d, (ops.toList.filterMap (·.dst)).contains d = true → kd (tab d) (f d) w) → Q .normal (fr a0 D f) w) : (Code.region id ops false).wp P Q a0 w :=
  kd_core D tab I hu hD hI h0 (fun Φ a b c => wp_region_inv0 hback Φ a b c) hstep hend
end
theorem wanted_not {ops : Array Oper} {o : Oper} {a0 : Act} {D : Nat → Bool} {f : Nat → Value} {g d : Nat} {b b' : Bool} (h : o.guard = some (g, b)) (hg : (ops[g]?).bind (·.dst) = some d) (hD : D d = true) (hs : (a0.tmps[d]?).isSome = true) (hf : f d = .bool b') (hne : (b' == b) = false) :
    Region.wanted o (yielded ops (fr a0 D f).tmps) = false := by
  obtain ⟨v, hv⟩ := Option.isSome_iff_exists.1 hs
  have := fr_get a0 D f d
  rw [hv] at this
  simp only [Option.map_some, hD, hf] at this
  unfold Region.wanted yielded
  rw [h]
  simp [hg, this]
  simpa using hne
end Go.Proofs.YtjjomjjgoceklaaGreat
namespace Go.Proofs.YtjjomjjgoceklaaGreat
set_option maxRecDepth 100000
open Go.RowKit

theorem wu64 (n : Int) (h0 : 0 ≤ n) (h1 : n < 2 ^ 64) : IntKind.u64.wrap n = n := by rw [IntKind.wrap_u64]; omega
theorem wuN (n : Nat) (h : n < WB) : IntKind.u64.wrap (n : Int) = (n : Int) := wu64 _ (by omega) (by unfold WB at h; omega)
theorem or64 (a b : Nat) (ha : a < WB) (hb : b < WB) : bits .or .u64 (a : Int) (b : Int) = ((a ||| b : Nat) : Int) := (bits_nat .u64 64 (by decide) wu64 a b (by unfold WB at ha; omega) (by unfold WB at hb; omega)).2
theorem and64 (a : Nat) (ha : a < WB) : bits .and .u64 (a : Int) 4294967295 = ((a % HB : Nat) : Int) := by
  have h := (bits_nat .u64 64 (by decide) wu64 a 4294967295 (by unfold WB at ha; omega) (by decide)).1
  have e : a &&& 4294967295 = a % HB := Nat.and_two_pow_sub_one_eq_mod a 32
  rw [e] at h
  exact h
theorem wshl (a s : Nat) (h : a * 2 ^ s < WB) : IntKind.u64.wrap ((a : Int) * 2 ^ s) = ((a * 2 ^ s : Nat) : Int) := by
  have := wuN _ h
  simpa using this
theorem wshl0 (a s : Nat) : IntKind.u64.wrap ((a : Int) * 2 ^ s) = ((up0 a s : Nat) : Int) := by
  unfold up0
  have : ((a : Int) * 2 ^ s) = ((a * 2 ^ s : Nat) : Int) := by simp
  rw [this]
  generalize a * 2 ^ s = n
  rw [IntKind.wrap_u64]; unfold WB; omega
theorem dshr (a s : Nat) : (a : Int) / 2 ^ s = ((a / 2 ^ s : Nat) : Int) := by simp
theorem dHB (a : Nat) : (a : Int) / 4294967296 = ((a / HB : Nat) : Int) := by unfold HB; omega
theorem mulw (q y0 : Nat) (hq : q ≤ HB + 1) (hy : y0 < HB) : IntKind.u64.wrap ((q : Int) * (y0 : Int)) = ((q * y0 : Nat) : Int) := by
  rw [← Int.natCast_mul]
  refine wuN _ ?_
  have : q * y0 ≤ (HB + 1) * (HB - 1) := Nat.mul_le_mul hq (by omega)
  have e : (HB + 1) * (HB - 1) < WB := by decide
  omega
theorem mulh (r : Nat) (hr : r < HB) : IntKind.u64.wrap (4294967296 * (r : Int)) = ((HB * r : Nat) : Int) := by
  have e : (4294967296 * (r : Int)) = ((HB * r : Nat) : Int) := by rw [Int.natCast_mul]; rfl
  rw [e]
  refine wuN _ ?_
  have : HB * r ≤ HB * (HB - 1) := Nat.mul_le_mul_left _ (by omega)
  have e : HB * (HB - 1) < WB := by decide
  omega
theorem addh (r v : Nat) (hr : r < HB) (hv : v < HB) : IntKind.u64.wrap (((HB * r : Nat) : Int) + (v : Int)) = ((HB * r + v : Nat) : Int) := by
  rw [← Int.natCast_add]
  refine wuN _ ?_
  have : HB * r ≤ HB * (HB - 1) := Nat.mul_le_mul_left _ (by omega)
  have e : HB * (HB - 1) + HB = WB := by decide
  omega
theorem subw (q : Nat) (h : 1 ≤ q) (hq : q < WB) : IntKind.u64.wrap ((q : Int) - 1) = ((q - 1 : Nat) : Int) := by
  rw [show (q : Int) - 1 = ((q - 1 : Nat) : Int) by omega]; exact wuN _ (by omega)
theorem subw2 (q : Nat) (h : 1 ≤ q) (hq : q ≤ HB + 1) : IntKind.u64.wrap ((q : Int) - 1) = ((q - 1 : Nat) : Int) := by
  have e : HB + 1 < WB := by decide
  exact subw q h (by omega)
theorem un21 {u v ys q r : Nat} (h0 : 0 < ys) (hq : q = (u * HB + v) / ys) (hr : r = (u * HB + v) % ys) (hy : ys < WB) : IntKind.u64.wrap (IntKind.u64.wrap (IntKind.u64.wrap ((u : Int) * 4294967296) + (v : Int)) - IntKind.u64.wrap ((q : Int) * (ys : Int))) = (r : Int) := by
  have h : q * ys + r = u * HB + v := by rw [hq, hr]; exact Nat.div_add_mod' _ _
  have hr2 : r < WB := by rw [hr]; exact Nat.lt_trans (Nat.mod_lt _ h0) hy
  have e1 : (q : Int) * (ys : Int) = ((q * ys : Nat) : Int) := by simp
  rw [e1]
  generalize q * ys = A at *
  unfold HB at h
  unfold WB at hr2
  rw [IntKind.wrap_u64, IntKind.wrap_u64, IntKind.wrap_u64, IntKind.wrap_u64]
  omega
theorem qfin (q1 q0 : Nat) (h : q1 * HB + q0 < WB) : IntKind.u64.wrap (IntKind.u64.wrap ((q1 : Int) * 4294967296) + (q0 : Int)) = ((q1 * HB + q0 : Nat) : Int) := by
  unfold HB WB at *
  rw [IntKind.wrap_u64, IntKind.wrap_u64]
  omega
theorem div_wd {hi lo y : Nat} (_hy : Wd y) (hlo : Wd lo) (hlt : hi < y) : (hi * WB + lo) / y < WB := by
  rw [Nat.div_lt_iff_lt_mul (by omega)]
  have : (hi + 1) * WB ≤ y * WB := Nat.mul_le_mul_right _ hlt
  rw [Nat.add_mul] at this
  rw [Nat.mul_comm WB]
  unfold Wd at hlo
  omega
theorem addw (r y1 : Nat) (hr : r < HB) (hy : y1 < HB) : IntKind.u64.wrap ((r : Int) + (y1 : Int)) = ((r + y1 : Nat) : Int) := by
  rw [← Int.natCast_add]; exact wuN _ (by have e : HB + HB < WB := by decide
                                          omega)
theorem tge (q : Nat) (h : HB ≤ q) : decide ((4294967296 : Int) ≤ (q : Int)) = true := by unfold HB at h; simp; omega
theorem tlt (q : Nat) (h : ¬ HB ≤ q) : decide ((4294967296 : Int) ≤ (q : Int)) = false := by unfold HB at h; simp; omega
theorem divq (u y1 : Nat) : (u : Int) / (y1 : Int) = ((u / y1 : Nat) : Int) := by simp
theorem modq (u y1 : Nat) (hu : u < WB) : IntKind.u64.wrap ((u : Int) - IntKind.u64.wrap (((u / y1 : Nat) : Int) * (y1 : Int))) = ((u % y1 : Nat) : Int) := by
  have h : u / y1 * y1 + u % y1 = u := Nat.div_add_mod' u y1
  rw [← Int.natCast_mul, wuN _ (by omega), show (u : Int) - ((u / y1 * y1 : Nat) : Int) = ((u % y1 : Nat) : Int) by omega]
  exact wuN _ (by omega)
theorem tgtI (a b : Nat) (h : a < b) : decide ((a : Int) < (b : Int)) = true := by simpa using h
theorem tngI (a b : Nat) (h : ¬ a < b) : decide ((a : Int) < (b : Int)) = false := by simpa using h
section
variable {ρ : Operand → Value} {o : Oper} {w : World} {t x : Operand} {a b c : Int} {r : Bool}
theorem rn_mul64 (ho : o.op = .binOp .mul 23 t x 23) (h1 : ρ t = .int .u64 a) (h2 : ρ x = .int .u64 b) (hc : IntKind.u64.wrap (a * b) = c) : (execOp ρ o).run Tryz.prog w = .ok (.value (.int .u64 c)) w := by
  unfold execOp; rw [ho]; simp [go_sem, h1, h2, hc]
theorem rn_add64 (ho : o.op = .binOp .add 23 t x 23) (h1 : ρ t = .int .u64 a) (h2 : ρ x = .int .u64 b) (hc : IntKind.u64.wrap (a + b) = c) : (execOp ρ o).run Tryz.prog w = .ok (.value (.int .u64 c)) w := by
  unfold execOp; rw [ho]; simp [go_sem, h1, h2, hc]
theorem rn_geq64 (ho : o.op = .binOp .geq 23 t x 23) (h1 : ρ t = .int .u64 a) (h2 : ρ x = .int .u64 b) (hc : decide (b ≤ a) = r) : (execOp ρ o).run Tryz.prog w = .ok (.value (.bool r)) w := by
  unfold execOp; rw [ho]; simp [go_sem, h1, h2, ← hc]
theorem rn_gtr64 (ho : o.op = .binOp .gtr 23 t x 23) (h1 : ρ t = .int .u64 a) (h2 : ρ x = .int .u64 b) (hc : decide (b < a) = r) : (execOp ρ o).run Tryz.prog w = .ok (.value (.bool r)) w := by
  unfold execOp; rw [ho]; simp [go_sem, h1, h2, ← hc]
theorem rn_pick_t' {z : Operand} (ho : o.op = .pick t x z) (hc : ρ t = .bool true) : (execOp ρ o).run Tryz.prog w = .ok (.value (ρ x)) w := rn_pick ho hc
theorem rn_pick_f' {z : Operand} (ho : o.op = .pick t x z) (hc : ρ t = .bool false) : (execOp ρ o).run Tryz.prog w = .ok (.value (ρ z)) w := rn_pick ho hc
end
def DD1 (t : Nat) : Bool := Nat.ble 67 t && Nat.ble t 78
def DD2 (t : Nat) : Bool := Nat.ble 102 t && Nat.ble t 113
/-- the state of a division's loop -/
def Qr (u v y1 y0 q r : Nat) : Prop := Qh u v y1 y0 q r ∧ r < HB
set_option maxRecDepth 100000 in
set_option maxHeartbeats 1600000 in
theorem div64_hi (hi lo y s : Nat) (w : World) (h0 : 0 < hi) (hlt : hi < y) (hy : Wd y) (hlo : Wd lo) (hs : s ≤ 63) (hb : (64 : Int) - (Lib.bitLen y : Int) = (s : Int)) (h1 : y * 2 ^ s < WB) (h2 : WB ≤ 2 * (y * 2 ^ s)) :
    Calls Tryz.prog 158 #[.int .u64 (hi : Int), .int .u64 (lo : Int), .int .u64 (y : Int)] w fun e w' => Below w.heap.size w w' ∧ e = .returned (.tuple #[.int .u64 (((hi * WB + lo) / y : Nat) : Int), .int .u64 (((hi * WB + lo) % y : Nat) : Int)]) := by
  have t1 : ((y : Int) == 0) = false := by rw [beq_eq_false_iff_ne]; omega
  have t2 : decide (y ≤ hi) = false := by simp; omega
  have t3 : ((hi : Int) == 0) = false := by rw [beq_eq_false_iff_ne]; omega
  have hhi : hi * 2 ^ s < WB := Nat.lt_of_le_of_lt (Nat.mul_le_mul_right _ (Nat.le_of_lt hlt)) h1
  have hlos : lo / 2 ^ (64 - s) < WB := Nat.lt_of_le_of_lt (Nat.div_le_self _ _) hlo
  have E1 := Lib.hid (wshl y s h1); have E2 := Lib.hid (wshl hi s hhi); have E3 := Lib.hid (wshl0 lo s); have E4 := Lib.hid (dshr lo (64 - s))
  have E5 := Lib.hid ((or64 _ _ hhi hlos).trans (by rw [or_parts hs hlo])); have E6 := Lib.hid (and64 _ h1); have E7 := Lib.hid (dHB (y * 2 ^ s)); have E8 := Lib.hid (and64 _ (up0_lt lo s)); have E9 := Lib.hid (dHB (up0 lo s))
  have HB' := Lib.hid hb
  have H1 := Lib.hid h1
  have H2 := Lib.hid h2
  have HY := Lib.hid hy
  have HLO := Lib.hid hlo
  have H0 := Lib.hid h0
  have HU := Lib.hid (up1_lt hs hlt hlo)
  clear hb h1 h2 hy hlo h0 hhi hlos
  go_enter Tryz.func158, Tryz.ntmps158
  go_wp2_with fail
  refine (Tryz.bits_LeadingZeros64 (y : Int) _ (by omega) (by have := HY.out; unfold Wd WB at this; omega)).mono ?_
  rintro e w' ⟨rfl, hw0⟩
  obtain rfl := hw0.symm
  rw [Int.toNat_natCast, HB'.out]
  go_upto_region 15 with fail
  rw [E1.out, E2.out, E3.out, E4.out, E5.out, E6.out, E7.out, E8.out, E9.out]
  clear E1 E2 E3 E4 E5 E6 E7 E8 E9
  obtain ⟨ys, hys⟩ : ∃ ys, ys = y * 2 ^ s := ⟨_, rfl⟩
  rw [← hys] at H1 H2 HU ⊢
  obtain ⟨y1, hy1⟩ : ∃ y1, y1 = ys / HB := ⟨_, rfl⟩
  obtain ⟨y0, hy0⟩ : ∃ y0, y0 = ys % HB := ⟨_, rfl⟩
  obtain ⟨u, hu⟩ : ∃ u, u = up1 hi lo s := ⟨_, rfl⟩
  obtain ⟨v, hv⟩ : ∃ v, v = up0 lo s := ⟨_, rfl⟩
  rw [← hy1, ← hy0, ← hu, ← hv]
  rw [← hu] at HU
  obtain ⟨v1, hv1⟩ : ∃ v1, v1 = v / HB := ⟨_, rfl⟩
  obtain ⟨v0, hv0⟩ : ∃ v0, v0 = v % HB := ⟨_, rfl⟩
  rw [← hv1, ← hv0]
  have hw1 := H1.out; have hw2 := H2.out
  have HYS : Hid (y1 * HB + y0 = ys) := by show _ = _; rw [hy1, hy0]; exact Nat.div_add_mod' _ _
  have HY0 : Hid (y0 < HB) := by show _ < _; rw [hy0]; exact Nat.mod_lt _ HB_pos
  have HY1 : Hid (y1 < HB) := by show _ < _; rw [hy1, Nat.div_lt_iff_lt_mul HB_pos, ← WB_HB]; exact hw1
  have HYT : Hid (HB ≤ 2 * y1) := by show _ ≤ _; rw [hy1]; unfold HB; unfold WB at hw2; omega
  have HV1 : Hid (v1 < HB) := by show _ < _; rw [hv1, Nat.div_lt_iff_lt_mul HB_pos, ← WB_HB, hv]; exact up0_lt _ _
  have HV0 : Hid (v0 < HB) := by show _ < _; rw [hv0]; exact Nat.mod_lt _ HB_pos
  have HU1 : Hid (u < y1 * HB + y0) := by show _ < _; rw [HYS.out]; exact HU.out
  have HYP : Hid (0 < y1 * HB + y0) := Nat.lt_of_le_of_lt (Nat.zero_le _) HU1.out
  have DV := Lib.hid (show (∀ q1 q0 r, q1 = (u * HB + v1) / ys → q0 = (((u * HB + v1) % ys) * HB + v0) / ys → r = (((u * HB + v1) % ys) * HB + v0) % ys / 2 ^ s → q1 * HB + q0 = (hi * WB + lo) / y ∧ r = (hi * WB + lo) % y) by
    intro q1 q0 r a b c
    rw [hu, hv1, hv0, hv, hys] at *
    exact div64_all hs (by omega) a b c)
  clear hys hy1 hy0 hu hv hv1 hv0 hw1 hw2
  have S10 := Lib.hid (qh_start HYT.out HU1.out HY0.out HV1.out)
  have y1p : 0 < y1 := by have := HYT.out; have := HB_pos; omega
  have Q10 : Hid (Qr u v1 y1 y0 (u / y1) (u % y1)) := ⟨S10.out, Nat.lt_trans (Nat.mod_lt _ y1p) HY1.out⟩
  have R15 := Lib.hid (divq u y1)
  have R16 := Lib.hid (modq u y1 (by have := HU.out; have := H1.out; omega))
  have W15 := Lib.hid (wuN (u / y1) (Nat.lt_of_le_of_lt (Nat.div_le_self _ _) (by have := HU.out; have := H1.out; omega)))
  go_upto_region 16 with fail
  rw [R15.out, W15.out]
  generalize u / y1 = q0 at *
  generalize u % y1 = r0 at *
  clear R15 W15
  go_upto_block 0 with fail
  rw [R16.out]
  clear R16
  go_cut [15] (fun qv wc => qv = .int .u64 (((u * HB + v1) / (y1 * HB + y0) : Nat) : Int) ∧ Below w.heap.size w wc)
  case first =>
    have KB1 := Lib.hid (Below.refl w.heap.size w)
    go_wp2_with fail
    go_loopw [15, 16] (fun qv rv wr => ∃ q r : Nat, qv = .int .u64 (q : Int) ∧ rv = .int .u64 (r : Int) ∧ Hid (Qr u v1 y1 y0 q r) ∧ Below w.heap.size w wr) (fun qv _ _ => (intOf qv).toNat)
    case atStart => exact ⟨_, _, rfl, rfl, Q10.out, KB1.out⟩
    case round =>
      obtain ⟨q, r, rfl, rfl, HQ, hbel⟩ := hrel
      have HBel := Lib.hid hbel
      obtain ⟨hqh, hrB⟩ := HQ.out
      have hq2 := hqh.2.2
      have M1 := Lib.hid (mulw q y0 (by have := hqh.2.2; omega) HY0.out)
      have M2 := Lib.hid (mulh r hrB)
      have M3 := Lib.hid (addh r v1 hrB HV1.out)
      by_cases hc : HB ≤ q ∨ HB * r + v1 < q * y0
      · obtain ⟨g1, g2, g3⟩ := qh_next HU1.out HV1.out hqh hc
        have N1 := Lib.hid (subw2 q g1 hq2)
        obtain ⟨t, ht⟩ : ∃ t, t = r + y1 := ⟨_, rfl⟩
        have N2 : Hid (IntKind.u64.wrap ((r : Int) + (y1 : Int)) = (t : Int)) := by show _ = _; rw [ht]; exact addw r y1 hrB HY1.out
        rw [← ht] at g2
        clear ht
        have NX := Lib.hid g2
        have NB := Lib.hid g3
        have G1 := Lib.hid g1
        by_cases hb : HB ≤ t
        · have FIN := Lib.hid (qh_break (by have := HYP.out; omega) HY0.out g2 g3 hb)
          have T3 := Lib.hid hb
          by_cases hcq : HB ≤ q
          · have T1 := Lib.hid hcq
            clear hc hqh hrB hq2 g1 g2 g3 hb hcq
            go_upto_region 17 with fail
            go_cut [78] (fun v wc => v = .bool true ∧ Below w.heap.size w wc)
            case first =>
              rename_i J K' hJ hK
              refine wp_region_ks DD1 (fun d => [.v (.int .u64 (q : Int)), .v (.bool true), .v (.bool true), .any, .any, .any, .any, .any, .any, .any, .any, .v (.bool true)].getD (d - 67) .any) (fun wc => Below w.heap.size w wc) (by kernel_rfl) (by kernel_rfl) (by kernel_rfl) (fun _ _ h hb => Below.thru h h.size hb) HBel.out ?_ ?_
              · refine .cons (fun f w2 hI hs => ⟨_, rfl, .inl ⟨wanted_none rfl, .val (rn_move rfl) ⟨Below.refl _ _, fr_old rfl rfl⟩⟩⟩) ?_
                refine .cons (fun f w2 hI hs => ⟨_, rfl, .inl ⟨wanted_none rfl, .val (rn_geq64 rfl ((fr_own rfl rfl).trans (hs 67 (by kernel_rfl))) rfl (tge q T1.out)) ⟨Below.refl _ _, rfl⟩⟩⟩) ?_
                refine .cons (fun f w2 hI hs => ⟨_, rfl, .inl ⟨wanted_none rfl, .val (rn_move rfl) ⟨Below.refl _ _, ((fr_own rfl rfl).trans (hs 68 (by kernel_rfl)))⟩⟩⟩) ?_
                refine .cons (fun f w2 hI hs => ⟨_, rfl, .inr ⟨wanted_not rfl (by kernel_rfl) rfl rfl (hs 69 (by kernel_rfl)) rfl, trivial⟩⟩) ?_
                refine .cons (fun f w2 hI hs => ⟨_, rfl, .inr ⟨wanted_not rfl (by kernel_rfl) rfl rfl (hs 69 (by kernel_rfl)) rfl, trivial⟩⟩) ?_
                refine .cons (fun f w2 hI hs => ⟨_, rfl, .inr ⟨wanted_not rfl (by kernel_rfl) rfl rfl (hs 69 (by kernel_rfl)) rfl, trivial⟩⟩) ?_
                refine .cons (fun f w2 hI hs => ⟨_, rfl, .inr ⟨wanted_not rfl (by kernel_rfl) rfl rfl (hs 69 (by kernel_rfl)) rfl, trivial⟩⟩) ?_
                refine .cons (fun f w2 hI hs => ⟨_, rfl, .inr ⟨wanted_not rfl (by kernel_rfl) rfl rfl (hs 69 (by kernel_rfl)) rfl, trivial⟩⟩) ?_
                refine .cons (fun f w2 hI hs => ⟨_, rfl, .inr ⟨wanted_not rfl (by kernel_rfl) rfl rfl (hs 69 (by kernel_rfl)) rfl, trivial⟩⟩) ?_
                refine .cons (fun f w2 hI hs => ⟨_, rfl, .inr ⟨wanted_not rfl (by kernel_rfl) rfl rfl (hs 69 (by kernel_rfl)) rfl, trivial⟩⟩) ?_
                refine .cons (fun f w2 hI hs => ⟨_, rfl, .inr ⟨wanted_not rfl (by kernel_rfl) rfl rfl (hs 69 (by kernel_rfl)) rfl, trivial⟩⟩) ?_
                refine .cons (fun f w2 hI hs => ⟨_, rfl, .inl ⟨wanted_none rfl, .val (rn_pick_t' rfl ((fr_own rfl rfl).trans (hs 69 (by kernel_rfl)))) ⟨Below.refl _ _, rfl⟩⟩⟩) .nil
              · intro f w2 hI hk
                have h78 : f 78 = .bool true := hk 78 (by kernel_rfl)
                refine hK _ _ (Met.intro (hJ _ _ ?_))
                (repeat apply Exists.intro)
                refine ⟨?_, rfl⟩
                exact ⟨h78, hI⟩
            case rest =>
              obtain ⟨rfl, hbel⟩ := hcut
              have n1 := N1.out
              have n2 := N2.out
              go_upto_if 85 with fail
              rw [tge t T3.out]
              go_wp2
              go_meet
              case rel => exact ⟨by rw [FIN.out], hbel⟩
          · have T1 := Lib.hid hcq
            have T2 := Lib.hid (hc.resolve_left hcq)
            clear hc hqh hrB hq2 g1 g2 g3 hb hcq
            go_upto_region 17 with fail
            go_cut [78] (fun v wc => v = .bool true ∧ Below w.heap.size w wc)
            case first =>
              rename_i J K' hJ hK
              refine wp_region_ks DD1 (fun d => [.v (.int .u64 (q : Int)), .v (.bool false), .v (.bool false), .v (.int .u64 (q : Int)), .v (.int .u64 (y0 : Int)), .v (.int .u64 ((q * y0 : Nat) : Int)), .v (.int .u64 (r : Int)), .v (.int .u64 ((HB * r : Nat) : Int)), .v (.int .u64 (v1 : Int)), .v (.int .u64 ((HB * r + v1 : Nat) : Int)), .v (.bool true), .v (.bool true)].getD (d - 67) .any) (fun wc => Below w.heap.size w wc) (by kernel_rfl) (by kernel_rfl) (by kernel_rfl) (fun _ _ h hb => Below.thru h h.size hb) HBel.out ?_ ?_
              · refine .cons (fun f w2 hI hs => ⟨_, rfl, .inl ⟨wanted_none rfl, .val (rn_move rfl) ⟨Below.refl _ _, fr_old rfl rfl⟩⟩⟩) ?_
                refine .cons (fun f w2 hI hs => ⟨_, rfl, .inl ⟨wanted_none rfl, .val (rn_geq64 rfl ((fr_own rfl rfl).trans (hs 67 (by kernel_rfl))) rfl (tlt q T1.out)) ⟨Below.refl _ _, rfl⟩⟩⟩) ?_
                refine .cons (fun f w2 hI hs => ⟨_, rfl, .inl ⟨wanted_none rfl, .val (rn_move rfl) ⟨Below.refl _ _, ((fr_own rfl rfl).trans (hs 68 (by kernel_rfl)))⟩⟩⟩) ?_
                refine .cons (fun f w2 hI hs => ⟨_, rfl, .inl ⟨wanted_some rfl (by kernel_rfl) rfl rfl (hs 69 (by kernel_rfl)), .val (rn_move rfl) ⟨Below.refl _ _, fr_old rfl rfl⟩⟩⟩) ?_
                refine .cons (fun f w2 hI hs => ⟨_, rfl, .inl ⟨wanted_some rfl (by kernel_rfl) rfl rfl (hs 69 (by kernel_rfl)), .val (rn_move rfl) ⟨Below.refl _ _, fr_old rfl rfl⟩⟩⟩) ?_
                refine .cons (fun f w2 hI hs => ⟨_, rfl, .inl ⟨wanted_some rfl (by kernel_rfl) rfl rfl (hs 69 (by kernel_rfl)), .val (rn_mul64 rfl ((fr_own rfl rfl).trans (hs 70 (by kernel_rfl))) ((fr_own rfl rfl).trans (hs 71 (by kernel_rfl))) M1.out) ⟨Below.refl _ _, rfl⟩⟩⟩) ?_
                refine .cons (fun f w2 hI hs => ⟨_, rfl, .inl ⟨wanted_some rfl (by kernel_rfl) rfl rfl (hs 69 (by kernel_rfl)), .val (rn_move rfl) ⟨Below.refl _ _, fr_old rfl rfl⟩⟩⟩) ?_
                refine .cons (fun f w2 hI hs => ⟨_, rfl, .inl ⟨wanted_some rfl (by kernel_rfl) rfl rfl (hs 69 (by kernel_rfl)), .val (rn_mul64 rfl rfl ((fr_own rfl rfl).trans (hs 73 (by kernel_rfl))) M2.out) ⟨Below.refl _ _, rfl⟩⟩⟩) ?_
                refine .cons (fun f w2 hI hs => ⟨_, rfl, .inl ⟨wanted_some rfl (by kernel_rfl) rfl rfl (hs 69 (by kernel_rfl)), .val (rn_move rfl) ⟨Below.refl _ _, fr_old rfl rfl⟩⟩⟩) ?_
                refine .cons (fun f w2 hI hs => ⟨_, rfl, .inl ⟨wanted_some rfl (by kernel_rfl) rfl rfl (hs 69 (by kernel_rfl)), .val (rn_add64 rfl ((fr_own rfl rfl).trans (hs 74 (by kernel_rfl))) ((fr_own rfl rfl).trans (hs 75 (by kernel_rfl))) M3.out) ⟨Below.refl _ _, rfl⟩⟩⟩) ?_
                refine .cons (fun f w2 hI hs => ⟨_, rfl, .inl ⟨wanted_some rfl (by kernel_rfl) rfl rfl (hs 69 (by kernel_rfl)), .val (rn_gtr64 rfl ((fr_own rfl rfl).trans (hs 72 (by kernel_rfl))) ((fr_own rfl rfl).trans (hs 76 (by kernel_rfl))) (tgtI _ _ T2.out)) ⟨Below.refl _ _, rfl⟩⟩⟩) ?_
                refine .cons (fun f w2 hI hs => ⟨_, rfl, .inl ⟨wanted_none rfl, .val (rn_pick_f' rfl ((fr_own rfl rfl).trans (hs 69 (by kernel_rfl)))) ⟨Below.refl _ _, ((fr_own rfl rfl).trans (hs 77 (by kernel_rfl)))⟩⟩⟩) .nil
              · intro f w2 hI hk
                have h78 : f 78 = .bool true := hk 78 (by kernel_rfl)
                refine hK _ _ (Met.intro (hJ _ _ ?_))
                (repeat apply Exists.intro)
                refine ⟨?_, rfl⟩
                exact ⟨h78, hI⟩
            case rest =>
              obtain ⟨rfl, hbel⟩ := hcut
              have n1 := N1.out
              have n2 := N2.out
              go_upto_if 85 with fail
              rw [tge t T3.out]
              go_wp2
              go_meet
              case rel => exact ⟨by rw [FIN.out], hbel⟩
        · have T3 := Lib.hid hb
          have QN : Hid (Qr u v1 y1 y0 (q - 1) t) := ⟨g2, by omega⟩
          by_cases hcq : HB ≤ q
          · have T1 := Lib.hid hcq
            clear hc hqh hrB hq2 g2 g3 hb hcq
            go_upto_region 17 with fail
            go_cut [78] (fun v wc => v = .bool true ∧ Below w.heap.size w wc)
            case first =>
              rename_i J K' hJ hK
              refine wp_region_ks DD1 (fun d => [.v (.int .u64 (q : Int)), .v (.bool true), .v (.bool true), .any, .any, .any, .any, .any, .any, .any, .any, .v (.bool true)].getD (d - 67) .any) (fun wc => Below w.heap.size w wc) (by kernel_rfl) (by kernel_rfl) (by kernel_rfl) (fun _ _ h hb => Below.thru h h.size hb) HBel.out ?_ ?_
              · refine .cons (fun f w2 hI hs => ⟨_, rfl, .inl ⟨wanted_none rfl, .val (rn_move rfl) ⟨Below.refl _ _, fr_old rfl rfl⟩⟩⟩) ?_
                refine .cons (fun f w2 hI hs => ⟨_, rfl, .inl ⟨wanted_none rfl, .val (rn_geq64 rfl ((fr_own rfl rfl).trans (hs 67 (by kernel_rfl))) rfl (tge q T1.out)) ⟨Below.refl _ _, rfl⟩⟩⟩) ?_
                refine .cons (fun f w2 hI hs => ⟨_, rfl, .inl ⟨wanted_none rfl, .val (rn_move rfl) ⟨Below.refl _ _, ((fr_own rfl rfl).trans (hs 68 (by kernel_rfl)))⟩⟩⟩) ?_
                refine .cons (fun f w2 hI hs => ⟨_, rfl, .inr ⟨wanted_not rfl (by kernel_rfl) rfl rfl (hs 69 (by kernel_rfl)) rfl, trivial⟩⟩) ?_
                refine .cons (fun f w2 hI hs => ⟨_, rfl, .inr ⟨wanted_not rfl (by kernel_rfl) rfl rfl (hs 69 (by kernel_rfl)) rfl, trivial⟩⟩) ?_
                refine .cons (fun f w2 hI hs => ⟨_, rfl, .inr ⟨wanted_not rfl (by kernel_rfl) rfl rfl (hs 69 (by kernel_rfl)) rfl, trivial⟩⟩) ?_
                refine .cons (fun f w2 hI hs => ⟨_, rfl, .inr ⟨wanted_not rfl (by kernel_rfl) rfl rfl (hs 69 (by kernel_rfl)) rfl, trivial⟩⟩) ?_
                refine .cons (fun f w2 hI hs => ⟨_, rfl, .inr ⟨wanted_not rfl (by kernel_rfl) rfl rfl (hs 69 (by kernel_rfl)) rfl, trivial⟩⟩) ?_
                refine .cons (fun f w2 hI hs => ⟨_, rfl, .inr ⟨wanted_not rfl (by kernel_rfl) rfl rfl (hs 69 (by kernel_rfl)) rfl, trivial⟩⟩) ?_
                refine .cons (fun f w2 hI hs => ⟨_, rfl, .inr ⟨wanted_not rfl (by kernel_rfl) rfl rfl (hs 69 (by kernel_rfl)) rfl, trivial⟩⟩) ?_
                refine .cons (fun f w2 hI hs => ⟨_, rfl, .inr ⟨wanted_not rfl (by kernel_rfl) rfl rfl (hs 69 (by kernel_rfl)) rfl, trivial⟩⟩) ?_
                refine .cons (fun f w2 hI hs => ⟨_, rfl, .inl ⟨wanted_none rfl, .val (rn_pick_t' rfl ((fr_own rfl rfl).trans (hs 69 (by kernel_rfl)))) ⟨Below.refl _ _, rfl⟩⟩⟩) .nil
              · intro f w2 hI hk
                have h78 : f 78 = .bool true := hk 78 (by kernel_rfl)
                refine hK _ _ (Met.intro (hJ _ _ ?_))
                (repeat apply Exists.intro)
                refine ⟨?_, rfl⟩
                exact ⟨h78, hI⟩
            case rest =>
              obtain ⟨rfl, hbel⟩ := hcut
              have n1 := N1.out
              have n2 := N2.out
              go_upto_if 85 with fail
              rw [tlt t T3.out]
              go_wp2
              go_roundw
              case rel => exact ⟨q - 1, t, rfl, rfl, QN.out, hbel⟩
              case measure => have := G1.out; simp [intOf]; omega
          · have T1 := Lib.hid hcq
            have T2 := Lib.hid (hc.resolve_left hcq)
            clear hc hqh hrB hq2 g2 g3 hb hcq
            go_upto_region 17 with fail
            go_cut [78] (fun v wc => v = .bool true ∧ Below w.heap.size w wc)
            case first =>
              rename_i J K' hJ hK
              refine wp_region_ks DD1 (fun d => [.v (.int .u64 (q : Int)), .v (.bool false), .v (.bool false), .v (.int .u64 (q : Int)), .v (.int .u64 (y0 : Int)), .v (.int .u64 ((q * y0 : Nat) : Int)), .v (.int .u64 (r : Int)), .v (.int .u64 ((HB * r : Nat) : Int)), .v (.int .u64 (v1 : Int)), .v (.int .u64 ((HB * r + v1 : Nat) : Int)), .v (.bool true), .v (.bool true)].getD (d - 67) .any) (fun wc => Below w.heap.size w wc) (by kernel_rfl) (by kernel_rfl) (by kernel_rfl) (fun _ _ h hb => Below.thru h h.size hb) HBel.out ?_ ?_
              · refine .cons (fun f w2 hI hs => ⟨_, rfl, .inl ⟨wanted_none rfl, .val (rn_move rfl) ⟨Below.refl _ _, fr_old rfl rfl⟩⟩⟩) ?_
                refine .cons (fun f w2 hI hs => ⟨_, rfl, .inl ⟨wanted_none rfl, .val (rn_geq64 rfl ((fr_own rfl rfl).trans (hs 67 (by kernel_rfl))) rfl (tlt q T1.out)) ⟨Below.refl _ _, rfl⟩⟩⟩) ?_
                refine .cons (fun f w2 hI hs => ⟨_, rfl, .inl ⟨wanted_none rfl, .val (rn_move rfl) ⟨Below.refl _ _, ((fr_own rfl rfl).trans (hs 68 (by kernel_rfl)))⟩⟩⟩) ?_
                refine .cons (fun f w2 hI hs => ⟨_, rfl, .inl ⟨wanted_some rfl (by kernel_rfl) rfl rfl (hs 69 (by kernel_rfl)), .val (rn_move rfl) ⟨Below.refl _ _, fr_old rfl rfl⟩⟩⟩) ?_
                refine .cons (fun f w2 hI hs => ⟨_, rfl, .inl ⟨wanted_some rfl (by kernel_rfl) rfl rfl (hs 69 (by kernel_rfl)), .val (rn_move rfl) ⟨Below.refl _ _, fr_old rfl rfl⟩⟩⟩) ?_
                refine .cons (fun f w2 hI hs => ⟨_, rfl, .inl ⟨wanted_some rfl (by kernel_rfl) rfl rfl (hs 69 (by kernel_rfl)), .val (rn_mul64 rfl ((fr_own rfl rfl).trans (hs 70 (by kernel_rfl))) ((fr_own rfl rfl).trans (hs 71 (by kernel_rfl))) M1.out) ⟨Below.refl _ _, rfl⟩⟩⟩) ?_
                refine .cons (fun f w2 hI hs => ⟨_, rfl, .inl ⟨wanted_some rfl (by kernel_rfl) rfl rfl (hs 69 (by kernel_rfl)), .val (rn_move rfl) ⟨Below.refl _ _, fr_old rfl rfl⟩⟩⟩) ?_
                refine .cons (fun f w2 hI hs => ⟨_, rfl, .inl ⟨wanted_some rfl (by kernel_rfl) rfl rfl (hs 69 (by kernel_rfl)), .val (rn_mul64 rfl rfl ((fr_own rfl rfl).trans (hs 73 (by kernel_rfl))) M2.out) ⟨Below.refl _ _, rfl⟩⟩⟩) ?_
                refine .cons (fun f w2 hI hs => ⟨_, rfl, .inl ⟨wanted_some rfl (by kernel_rfl) rfl rfl (hs 69 (by kernel_rfl)), .val (rn_move rfl) ⟨Below.refl _ _, fr_old rfl rfl⟩⟩⟩) ?_
                refine .cons (fun f w2 hI hs => ⟨_, rfl, .inl ⟨wanted_some rfl (by kernel_rfl) rfl rfl (hs 69 (by kernel_rfl)), .val (rn_add64 rfl ((fr_own rfl rfl).trans (hs 74 (by kernel_rfl))) ((fr_own rfl rfl).trans (hs 75 (by kernel_rfl))) M3.out) ⟨Below.refl _ _, rfl⟩⟩⟩) ?_
                refine .cons (fun f w2 hI hs => ⟨_, rfl, .inl ⟨wanted_some rfl (by kernel_rfl) rfl rfl (hs 69 (by kernel_rfl)), .val (rn_gtr64 rfl ((fr_own rfl rfl).trans (hs 72 (by kernel_rfl))) ((fr_own rfl rfl).trans (hs 76 (by kernel_rfl))) (tgtI _ _ T2.out)) ⟨Below.refl _ _, rfl⟩⟩⟩) ?_
                refine .cons (fun f w2 hI hs => ⟨_, rfl, .inl ⟨wanted_none rfl, .val (rn_pick_f' rfl ((fr_own rfl rfl).trans (hs 69 (by kernel_rfl)))) ⟨Below.refl _ _, ((fr_own rfl rfl).trans (hs 77 (by kernel_rfl)))⟩⟩⟩) .nil
              · intro f w2 hI hk
                have h78 : f 78 = .bool true := hk 78 (by kernel_rfl)
                refine hK _ _ (Met.intro (hJ _ _ ?_))
                (repeat apply Exists.intro)
                refine ⟨?_, rfl⟩
                exact ⟨h78, hI⟩
            case rest =>
              obtain ⟨rfl, hbel⟩ := hcut
              have n1 := N1.out
              have n2 := N2.out
              go_upto_if 85 with fail
              rw [tlt t T3.out]
              go_wp2
              go_roundw
              case rel => exact ⟨q - 1, t, rfl, rfl, QN.out, hbel⟩
              case measure => have := G1.out; simp [intOf]; omega
      · have FIN := Lib.hid (qh_done (by have := HYP.out; omega) hqh (by omega))
        have T1 := Lib.hid (fun h => hc (.inl h))
        have T2 := Lib.hid (fun h => hc (.inr h))
        clear hc hqh hrB hq2
        go_upto_region 17 with fail
        go_cut [78] (fun v wc => v = .bool false ∧ Below w.heap.size w wc)
        case first =>
          rename_i J K' hJ hK
          refine wp_region_ks DD1 (fun d => [.v (.int .u64 (q : Int)), .v (.bool false), .v (.bool false), .v (.int .u64 (q : Int)), .v (.int .u64 (y0 : Int)), .v (.int .u64 ((q * y0 : Nat) : Int)), .v (.int .u64 (r : Int)), .v (.int .u64 ((HB * r : Nat) : Int)), .v (.int .u64 (v1 : Int)), .v (.int .u64 ((HB * r + v1 : Nat) : Int)), .v (.bool false), .v (.bool false)].getD (d - 67) .any) (fun wc => Below w.heap.size w wc) (by kernel_rfl) (by kernel_rfl) (by kernel_rfl) (fun _ _ h hb => Below.thru h h.size hb) HBel.out ?_ ?_
          · refine .cons (fun f w2 hI hs => ⟨_, rfl, .inl ⟨wanted_none rfl, .val (rn_move rfl) ⟨Below.refl _ _, fr_old rfl rfl⟩⟩⟩) ?_
            refine .cons (fun f w2 hI hs => ⟨_, rfl, .inl ⟨wanted_none rfl, .val (rn_geq64 rfl ((fr_own rfl rfl).trans (hs 67 (by kernel_rfl))) rfl (tlt q T1.out)) ⟨Below.refl _ _, rfl⟩⟩⟩) ?_
            refine .cons (fun f w2 hI hs => ⟨_, rfl, .inl ⟨wanted_none rfl, .val (rn_move rfl) ⟨Below.refl _ _, ((fr_own rfl rfl).trans (hs 68 (by kernel_rfl)))⟩⟩⟩) ?_
            refine .cons (fun f w2 hI hs => ⟨_, rfl, .inl ⟨wanted_some rfl (by kernel_rfl) rfl rfl (hs 69 (by kernel_rfl)), .val (rn_move rfl) ⟨Below.refl _ _, fr_old rfl rfl⟩⟩⟩) ?_
            refine .cons (fun f w2 hI hs => ⟨_, rfl, .inl ⟨wanted_some rfl (by kernel_rfl) rfl rfl (hs 69 (by kernel_rfl)), .val (rn_move rfl) ⟨Below.refl _ _, fr_old rfl rfl⟩⟩⟩) ?_
            refine .cons (fun f w2 hI hs => ⟨_, rfl, .inl ⟨wanted_some rfl (by kernel_rfl) rfl rfl (hs 69 (by kernel_rfl)), .val (rn_mul64 rfl ((fr_own rfl rfl).trans (hs 70 (by kernel_rfl))) ((fr_own rfl rfl).trans (hs 71 (by kernel_rfl))) M1.out) ⟨Below.refl _ _, rfl⟩⟩⟩) ?_
            refine .cons (fun f w2 hI hs => ⟨_, rfl, .inl ⟨wanted_some rfl (by kernel_rfl) rfl rfl (hs 69 (by kernel_rfl)), .val (rn_move rfl) ⟨Below.refl _ _, fr_old rfl rfl⟩⟩⟩) ?_
            refine .cons (fun f w2 hI hs => ⟨_, rfl, .inl ⟨wanted_some rfl (by kernel_rfl) rfl rfl (hs 69 (by kernel_rfl)), .val (rn_mul64 rfl rfl ((fr_own rfl rfl).trans (hs 73 (by kernel_rfl))) M2.out) ⟨Below.refl _ _, rfl⟩⟩⟩) ?_
            refine .cons (fun f w2 hI hs => ⟨_, rfl, .inl ⟨wanted_some rfl (by kernel_rfl) rfl rfl (hs 69 (by kernel_rfl)), .val (rn_move rfl) ⟨Below.refl _ _, fr_old rfl rfl⟩⟩⟩) ?_
            refine .cons (fun f w2 hI hs => ⟨_, rfl, .inl ⟨wanted_some rfl (by kernel_rfl) rfl rfl (hs 69 (by kernel_rfl)), .val (rn_add64 rfl ((fr_own rfl rfl).trans (hs 74 (by kernel_rfl))) ((fr_own rfl rfl).trans (hs 75 (by kernel_rfl))) M3.out) ⟨Below.refl _ _, rfl⟩⟩⟩) ?_
            refine .cons (fun f w2 hI hs => ⟨_, rfl, .inl ⟨wanted_some rfl (by kernel_rfl) rfl rfl (hs 69 (by kernel_rfl)), .val (rn_gtr64 rfl ((fr_own rfl rfl).trans (hs 72 (by kernel_rfl))) ((fr_own rfl rfl).trans (hs 76 (by kernel_rfl))) (tngI _ _ T2.out)) ⟨Below.refl _ _, rfl⟩⟩⟩) ?_
            refine .cons (fun f w2 hI hs => ⟨_, rfl, .inl ⟨wanted_none rfl, .val (rn_pick_f' rfl ((fr_own rfl rfl).trans (hs 69 (by kernel_rfl)))) ⟨Below.refl _ _, ((fr_own rfl rfl).trans (hs 77 (by kernel_rfl)))⟩⟩⟩) .nil
          · intro f w2 hI hk
            have h78 : f 78 = .bool false := hk 78 (by kernel_rfl)
            refine hK _ _ (Met.intro (hJ _ _ ?_))
            (repeat apply Exists.intro)
            refine ⟨?_, rfl⟩
            exact ⟨h78, hI⟩
        case rest =>
          obtain ⟨rfl, hbel⟩ := hcut
          go_wp2
          go_meet
          case rel => exact ⟨by rw [FIN.out], hbel⟩

  case rest =>
    obtain ⟨rfl, hbel⟩ := hcut
    rw [HYS.out]
    obtain ⟨q1, hq1⟩ : ∃ q1, q1 = (u * HB + v1) / ys := ⟨_, rfl⟩
    obtain ⟨u2, hu2⟩ : ∃ u2, u2 = (u * HB + v1) % ys := ⟨_, rfl⟩
    have U21 := Lib.hid (un21 (by have := HYP.out; rw [HYS.out] at this; exact this) hq1 hu2 H1.out)
    have HU2 : Hid (u2 < y1 * HB + y0) := by show _ < _; rw [hu2, HYS.out]; exact Nat.mod_lt _ (by have := HYP.out; rw [HYS.out] at this; exact this)
    have HQ1 := Lib.hid hq1
    have HU3 := Lib.hid hu2
    rw [← hq1]
    clear hq1 hu2
    have S20 := Lib.hid (qh_start HYT.out HU2.out HY0.out HV0.out)
    have Q20 : Hid (Qr u2 v0 y1 y0 (u2 / y1) (u2 % y1)) := ⟨S20.out, Nat.lt_trans (Nat.mod_lt _ y1p) HY1.out⟩
    have R22 := Lib.hid (divq u2 y1)
    have hu2w : u2 < WB := by have := HU2.out; rw [HYS.out] at this; have := H1.out; omega
    have R23 := Lib.hid (modq u2 y1 hu2w)
    have W22 := Lib.hid (wuN (u2 / y1) (Nat.lt_of_le_of_lt (Nat.div_le_self _ _) hu2w))
    have HUW := Lib.hid hu2w
    clear hu2w
    have KB2 := Lib.hid hbel
    go_upto_region 22 with fail
    rw [U21.out]
    go_upto_region 23 with fail
    rw [R22.out, W22.out]
    generalize u2 / y1 = q20 at *
    generalize u2 % y1 = r20 at *
    clear R22 W22
    go_upto_block 2 with fail
    rw [R23.out]
    clear R23
    go_cut [18] (fun qv wc => qv = .int .u64 (((u2 * HB + v0) / (y1 * HB + y0) : Nat) : Int) ∧ Below w.heap.size w wc)
    case first =>
      go_wp2_with fail
      go_loopw [18, 16] (fun qv rv wr => ∃ q r : Nat, qv = .int .u64 (q : Int) ∧ rv = .int .u64 (r : Int) ∧ Hid (Qr u2 v0 y1 y0 q r) ∧ Below w.heap.size w wr) (fun qv _ _ => (intOf qv).toNat)
      case atStart => exact ⟨_, _, rfl, rfl, Q20.out, KB2.out⟩
      case round =>
        obtain ⟨q, r, rfl, rfl, HQ, hbel⟩ := hrel
        have HBel := Lib.hid hbel
        obtain ⟨hqh, hrB⟩ := HQ.out
        have hq2 := hqh.2.2
        have M1 := Lib.hid (mulw q y0 (by have := hqh.2.2; omega) HY0.out)
        have M2 := Lib.hid (mulh r hrB)
        have M3 := Lib.hid (addh r v0 hrB HV0.out)
        by_cases hc : HB ≤ q ∨ HB * r + v0 < q * y0
        · obtain ⟨g1, g2, g3⟩ := qh_next HU2.out HV0.out hqh hc
          have N1 := Lib.hid (subw2 q g1 hq2)
          obtain ⟨t, ht⟩ : ∃ t, t = r + y1 := ⟨_, rfl⟩
          have N2 : Hid (IntKind.u64.wrap ((r : Int) + (y1 : Int)) = (t : Int)) := by show _ = _; rw [ht]; exact addw r y1 hrB HY1.out
          rw [← ht] at g2
          clear ht
          have NX := Lib.hid g2
          have NB := Lib.hid g3
          have G1 := Lib.hid g1
          by_cases hb : HB ≤ t
          · have FIN := Lib.hid (qh_break (by have := HYP.out; omega) HY0.out g2 g3 hb)
            have T3 := Lib.hid hb
            by_cases hcq : HB ≤ q
            · have T1 := Lib.hid hcq
              clear hc hqh hrB hq2 g1 g2 g3 hb hcq
              go_upto_region 24 with fail
              go_cut [113] (fun v wc => v = .bool true ∧ Below w.heap.size w wc)
              case first =>
                rename_i J K' hJ hK
                refine wp_region_ks DD2 (fun d => [.v (.int .u64 (q : Int)), .v (.bool true), .v (.bool true), .any, .any, .any, .any, .any, .any, .any, .any, .v (.bool true)].getD (d - 102) .any) (fun wc => Below w.heap.size w wc) (by kernel_rfl) (by kernel_rfl) (by kernel_rfl) (fun _ _ h hb => Below.thru h h.size hb) HBel.out ?_ ?_
                · refine .cons (fun f w2 hI hs => ⟨_, rfl, .inl ⟨wanted_none rfl, .val (rn_move rfl) ⟨Below.refl _ _, fr_old rfl rfl⟩⟩⟩) ?_
                  refine .cons (fun f w2 hI hs => ⟨_, rfl, .inl ⟨wanted_none rfl, .val (rn_geq64 rfl ((fr_own rfl rfl).trans (hs 102 (by kernel_rfl))) rfl (tge q T1.out)) ⟨Below.refl _ _, rfl⟩⟩⟩) ?_
                  refine .cons (fun f w2 hI hs => ⟨_, rfl, .inl ⟨wanted_none rfl, .val (rn_move rfl) ⟨Below.refl _ _, ((fr_own rfl rfl).trans (hs 103 (by kernel_rfl)))⟩⟩⟩) ?_
                  refine .cons (fun f w2 hI hs => ⟨_, rfl, .inr ⟨wanted_not rfl (by kernel_rfl) rfl rfl (hs 104 (by kernel_rfl)) rfl, trivial⟩⟩) ?_
                  refine .cons (fun f w2 hI hs => ⟨_, rfl, .inr ⟨wanted_not rfl (by kernel_rfl) rfl rfl (hs 104 (by kernel_rfl)) rfl, trivial⟩⟩) ?_
                  refine .cons (fun f w2 hI hs => ⟨_, rfl, .inr ⟨wanted_not rfl (by kernel_rfl) rfl rfl (hs 104 (by kernel_rfl)) rfl, trivial⟩⟩) ?_
                  refine .cons (fun f w2 hI hs => ⟨_, rfl, .inr ⟨wanted_not rfl (by kernel_rfl) rfl rfl (hs 104 (by kernel_rfl)) rfl, trivial⟩⟩) ?_
                  refine .cons (fun f w2 hI hs => ⟨_, rfl, .inr ⟨wanted_not rfl (by kernel_rfl) rfl rfl (hs 104 (by kernel_rfl)) rfl, trivial⟩⟩) ?_
                  refine .cons (fun f w2 hI hs => ⟨_, rfl, .inr ⟨wanted_not rfl (by kernel_rfl) rfl rfl (hs 104 (by kernel_rfl)) rfl, trivial⟩⟩) ?_
                  refine .cons (fun f w2 hI hs => ⟨_, rfl, .inr ⟨wanted_not rfl (by kernel_rfl) rfl rfl (hs 104 (by kernel_rfl)) rfl, trivial⟩⟩) ?_
                  refine .cons (fun f w2 hI hs => ⟨_, rfl, .inr ⟨wanted_not rfl (by kernel_rfl) rfl rfl (hs 104 (by kernel_rfl)) rfl, trivial⟩⟩) ?_
                  refine .cons (fun f w2 hI hs => ⟨_, rfl, .inl ⟨wanted_none rfl, .val (rn_pick_t' rfl ((fr_own rfl rfl).trans (hs 104 (by kernel_rfl)))) ⟨Below.refl _ _, rfl⟩⟩⟩) .nil
                · intro f w2 hI hk
                  have h78 : f 113 = .bool true := hk 113 (by kernel_rfl)
                  refine hK _ _ (Met.intro (hJ _ _ ?_))
                  (repeat apply Exists.intro)
                  refine ⟨?_, rfl⟩
                  exact ⟨h78, hI⟩
              case rest =>
                obtain ⟨rfl, hbel⟩ := hcut
                have n1 := N1.out
                have n2 := N2.out
                go_upto_if 120 with fail
                rw [tge t T3.out]
                go_wp2
                go_meet
                case rel => exact ⟨by rw [FIN.out], hbel⟩
            · have T1 := Lib.hid hcq
              have T2 := Lib.hid (hc.resolve_left hcq)
              clear hc hqh hrB hq2 g1 g2 g3 hb hcq
              go_upto_region 24 with fail
              go_cut [113] (fun v wc => v = .bool true ∧ Below w.heap.size w wc)
              case first =>
                rename_i J K' hJ hK
                refine wp_region_ks DD2 (fun d => [.v (.int .u64 (q : Int)), .v (.bool false), .v (.bool false), .v (.int .u64 (q : Int)), .v (.int .u64 (y0 : Int)), .v (.int .u64 ((q * y0 : Nat) : Int)), .v (.int .u64 (r : Int)), .v (.int .u64 ((HB * r : Nat) : Int)), .v (.int .u64 (v0 : Int)), .v (.int .u64 ((HB * r + v0 : Nat) : Int)), .v (.bool true), .v (.bool true)].getD (d - 102) .any) (fun wc => Below w.heap.size w wc) (by kernel_rfl) (by kernel_rfl) (by kernel_rfl) (fun _ _ h hb => Below.thru h h.size hb) HBel.out ?_ ?_
                · refine .cons (fun f w2 hI hs => ⟨_, rfl, .inl ⟨wanted_none rfl, .val (rn_move rfl) ⟨Below.refl _ _, fr_old rfl rfl⟩⟩⟩) ?_
                  refine .cons (fun f w2 hI hs => ⟨_, rfl, .inl ⟨wanted_none rfl, .val (rn_geq64 rfl ((fr_own rfl rfl).trans (hs 102 (by kernel_rfl))) rfl (tlt q T1.out)) ⟨Below.refl _ _, rfl⟩⟩⟩) ?_
                  refine .cons (fun f w2 hI hs => ⟨_, rfl, .inl ⟨wanted_none rfl, .val (rn_move rfl) ⟨Below.refl _ _, ((fr_own rfl rfl).trans (hs 103 (by kernel_rfl)))⟩⟩⟩) ?_
                  refine .cons (fun f w2 hI hs => ⟨_, rfl, .inl ⟨wanted_some rfl (by kernel_rfl) rfl rfl (hs 104 (by kernel_rfl)), .val (rn_move rfl) ⟨Below.refl _ _, fr_old rfl rfl⟩⟩⟩) ?_
                  refine .cons (fun f w2 hI hs => ⟨_, rfl, .inl ⟨wanted_some rfl (by kernel_rfl) rfl rfl (hs 104 (by kernel_rfl)), .val (rn_move rfl) ⟨Below.refl _ _, fr_old rfl rfl⟩⟩⟩) ?_
                  refine .cons (fun f w2 hI hs => ⟨_, rfl, .inl ⟨wanted_some rfl (by kernel_rfl) rfl rfl (hs 104 (by kernel_rfl)), .val (rn_mul64 rfl ((fr_own rfl rfl).trans (hs 105 (by kernel_rfl))) ((fr_own rfl rfl).trans (hs 106 (by kernel_rfl))) M1.out) ⟨Below.refl _ _, rfl⟩⟩⟩) ?_
                  refine .cons (fun f w2 hI hs => ⟨_, rfl, .inl ⟨wanted_some rfl (by kernel_rfl) rfl rfl (hs 104 (by kernel_rfl)), .val (rn_move rfl) ⟨Below.refl _ _, fr_old rfl rfl⟩⟩⟩) ?_
                  refine .cons (fun f w2 hI hs => ⟨_, rfl, .inl ⟨wanted_some rfl (by kernel_rfl) rfl rfl (hs 104 (by kernel_rfl)), .val (rn_mul64 rfl rfl ((fr_own rfl rfl).trans (hs 108 (by kernel_rfl))) M2.out) ⟨Below.refl _ _, rfl⟩⟩⟩) ?_
                  refine .cons (fun f w2 hI hs => ⟨_, rfl, .inl ⟨wanted_some rfl (by kernel_rfl) rfl rfl (hs 104 (by kernel_rfl)), .val (rn_move rfl) ⟨Below.refl _ _, fr_old rfl rfl⟩⟩⟩) ?_
                  refine .cons (fun f w2 hI hs => ⟨_, rfl, .inl ⟨wanted_some rfl (by kernel_rfl) rfl rfl (hs 104 (by kernel_rfl)), .val (rn_add64 rfl ((fr_own rfl rfl).trans (hs 109 (by kernel_rfl))) ((fr_own rfl rfl).trans (hs 110 (by kernel_rfl))) M3.out) ⟨Below.refl _ _, rfl⟩⟩⟩) ?_
                  refine .cons (fun f w2 hI hs => ⟨_, rfl, .inl ⟨wanted_some rfl (by kernel_rfl) rfl rfl (hs 104 (by kernel_rfl)), .val (rn_gtr64 rfl ((fr_own rfl rfl).trans (hs 107 (by kernel_rfl))) ((fr_own rfl rfl).trans (hs 111 (by kernel_rfl))) (tgtI _ _ T2.out)) ⟨Below.refl _ _, rfl⟩⟩⟩) ?_
                  refine .cons (fun f w2 hI hs => ⟨_, rfl, .inl ⟨wanted_none rfl, .val (rn_pick_f' rfl ((fr_own rfl rfl).trans (hs 104 (by kernel_rfl)))) ⟨Below.refl _ _, ((fr_own rfl rfl).trans (hs 112 (by kernel_rfl)))⟩⟩⟩) .nil
                · intro f w2 hI hk
                  have h78 : f 113 = .bool true := hk 113 (by kernel_rfl)
                  refine hK _ _ (Met.intro (hJ _ _ ?_))
                  (repeat apply Exists.intro)
                  refine ⟨?_, rfl⟩
                  exact ⟨h78, hI⟩
              case rest =>
                obtain ⟨rfl, hbel⟩ := hcut
                have n1 := N1.out
                have n2 := N2.out
                go_upto_if 120 with fail
                rw [tge t T3.out]
                go_wp2
                go_meet
                case rel => exact ⟨by rw [FIN.out], hbel⟩
          · have T3 := Lib.hid hb
            have QN : Hid (Qr u2 v0 y1 y0 (q - 1) t) := ⟨g2, by omega⟩
            by_cases hcq : HB ≤ q
            · have T1 := Lib.hid hcq
              clear hc hqh hrB hq2 g2 g3 hb hcq
              go_upto_region 24 with fail
              go_cut [113] (fun v wc => v = .bool true ∧ Below w.heap.size w wc)
              case first =>
                rename_i J K' hJ hK
                refine wp_region_ks DD2 (fun d => [.v (.int .u64 (q : Int)), .v (.bool true), .v (.bool true), .any, .any, .any, .any, .any, .any, .any, .any, .v (.bool true)].getD (d - 102) .any) (fun wc => Below w.heap.size w wc) (by kernel_rfl) (by kernel_rfl) (by kernel_rfl) (fun _ _ h hb => Below.thru h h.size hb) HBel.out ?_ ?_
                · refine .cons (fun f w2 hI hs => ⟨_, rfl, .inl ⟨wanted_none rfl, .val (rn_move rfl) ⟨Below.refl _ _, fr_old rfl rfl⟩⟩⟩) ?_
                  refine .cons (fun f w2 hI hs => ⟨_, rfl, .inl ⟨wanted_none rfl, .val (rn_geq64 rfl ((fr_own rfl rfl).trans (hs 102 (by kernel_rfl))) rfl (tge q T1.out)) ⟨Below.refl _ _, rfl⟩⟩⟩) ?_
                  refine .cons (fun f w2 hI hs => ⟨_, rfl, .inl ⟨wanted_none rfl, .val (rn_move rfl) ⟨Below.refl _ _, ((fr_own rfl rfl).trans (hs 103 (by kernel_rfl)))⟩⟩⟩) ?_
                  refine .cons (fun f w2 hI hs => ⟨_, rfl, .inr ⟨wanted_not rfl (by kernel_rfl) rfl rfl (hs 104 (by kernel_rfl)) rfl, trivial⟩⟩) ?_
                  refine .cons (fun f w2 hI hs => ⟨_, rfl, .inr ⟨wanted_not rfl (by kernel_rfl) rfl rfl (hs 104 (by kernel_rfl)) rfl, trivial⟩⟩) ?_
                  refine .cons (fun f w2 hI hs => ⟨_, rfl, .inr ⟨wanted_not rfl (by kernel_rfl) rfl rfl (hs 104 (by kernel_rfl)) rfl, trivial⟩⟩) ?_
                  refine .cons (fun f w2 hI hs => ⟨_, rfl, .inr ⟨wanted_not rfl (by kernel_rfl) rfl rfl (hs 104 (by kernel_rfl)) rfl, trivial⟩⟩) ?_
                  refine .cons (fun f w2 hI hs => ⟨_, rfl, .inr ⟨wanted_not rfl (by kernel_rfl) rfl rfl (hs 104 (by kernel_rfl)) rfl, trivial⟩⟩) ?_
                  refine .cons (fun f w2 hI hs => ⟨_, rfl, .inr ⟨wanted_not rfl (by kernel_rfl) rfl rfl (hs 104 (by kernel_rfl)) rfl, trivial⟩⟩) ?_
                  refine .cons (fun f w2 hI hs => ⟨_, rfl, .inr ⟨wanted_not rfl (by kernel_rfl) rfl rfl (hs 104 (by kernel_rfl)) rfl, trivial⟩⟩) ?_
                  refine .cons (fun f w2 hI hs => ⟨_, rfl, .inr ⟨wanted_not rfl (by kernel_rfl) rfl rfl (hs 104 (by kernel_rfl)) rfl, trivial⟩⟩) ?_
                  refine .cons (fun f w2 hI hs => ⟨_, rfl, .inl ⟨wanted_none rfl, .val (rn_pick_t' rfl ((fr_own rfl rfl).trans (hs 104 (by kernel_rfl)))) ⟨Below.refl _ _, rfl⟩⟩⟩) .nil
                · intro f w2 hI hk
                  have h78 : f 113 = .bool true := hk 113 (by kernel_rfl)
                  refine hK _ _ (Met.intro (hJ _ _ ?_))
                  (repeat apply Exists.intro)
                  refine ⟨?_, rfl⟩
                  exact ⟨h78, hI⟩
              case rest =>
                obtain ⟨rfl, hbel⟩ := hcut
                have n1 := N1.out
                have n2 := N2.out
                go_upto_if 120 with fail
                rw [tlt t T3.out]
                go_wp2
                go_roundw
                case rel => exact ⟨q - 1, t, rfl, rfl, QN.out, hbel⟩
                case measure => have := G1.out; simp [intOf]; omega
            · have T1 := Lib.hid hcq
              have T2 := Lib.hid (hc.resolve_left hcq)
              clear hc hqh hrB hq2 g2 g3 hb hcq
              go_upto_region 24 with fail
              go_cut [113] (fun v wc => v = .bool true ∧ Below w.heap.size w wc)
              case first =>
                rename_i J K' hJ hK
                refine wp_region_ks DD2 (fun d => [.v (.int .u64 (q : Int)), .v (.bool false), .v (.bool false), .v (.int .u64 (q : Int)), .v (.int .u64 (y0 : Int)), .v (.int .u64 ((q * y0 : Nat) : Int)), .v (.int .u64 (r : Int)), .v (.int .u64 ((HB * r : Nat) : Int)), .v (.int .u64 (v0 : Int)), .v (.int .u64 ((HB * r + v0 : Nat) : Int)), .v (.bool true), .v (.bool true)].getD (d - 102) .any) (fun wc => Below w.heap.size w wc) (by kernel_rfl) (by kernel_rfl) (by kernel_rfl) (fun _ _ h hb => Below.thru h h.size hb) HBel.out ?_ ?_
                · refine .cons (fun f w2 hI hs => ⟨_, rfl, .inl ⟨wanted_none rfl, .val (rn_move rfl) ⟨Below.refl _ _, fr_old rfl rfl⟩⟩⟩) ?_
                  refine .cons (fun f w2 hI hs => ⟨_, rfl, .inl ⟨wanted_none rfl, .val (rn_geq64 rfl ((fr_own rfl rfl).trans (hs 102 (by kernel_rfl))) rfl (tlt q T1.out)) ⟨Below.refl _ _, rfl⟩⟩⟩) ?_
                  refine .cons (fun f w2 hI hs => ⟨_, rfl, .inl ⟨wanted_none rfl, .val (rn_move rfl) ⟨Below.refl _ _, ((fr_own rfl rfl).trans (hs 103 (by kernel_rfl)))⟩⟩⟩) ?_
                  refine .cons (fun f w2 hI hs => ⟨_, rfl, .inl ⟨wanted_some rfl (by kernel_rfl) rfl rfl (hs 104 (by kernel_rfl)), .val (rn_move rfl) ⟨Below.refl _ _, fr_old rfl rfl⟩⟩⟩) ?_
                  refine .cons (fun f w2 hI hs => ⟨_, rfl, .inl ⟨wanted_some rfl (by kernel_rfl) rfl rfl (hs 104 (by kernel_rfl)), .val (rn_move rfl) ⟨Below.refl _ _, fr_old rfl rfl⟩⟩⟩) ?_
                  refine .cons (fun f w2 hI hs => ⟨_, rfl, .inl ⟨wanted_some rfl (by kernel_rfl) rfl rfl (hs 104 (by kernel_rfl)), .val (rn_mul64 rfl ((fr_own rfl rfl).trans (hs 105 (by kernel_rfl))) ((fr_own rfl rfl).trans (hs 106 (by kernel_rfl))) M1.out) ⟨Below.refl _ _, rfl⟩⟩⟩) ?_
                  refine .cons (fun f w2 hI hs => ⟨_, rfl, .inl ⟨wanted_some rfl (by kernel_rfl) rfl rfl (hs 104 (by kernel_rfl)), .val (rn_move rfl) ⟨Below.refl _ _, fr_old rfl rfl⟩⟩⟩) ?_
                  refine .cons (fun f w2 hI hs => ⟨_, rfl, .inl ⟨wanted_some rfl (by kernel_rfl) rfl rfl (hs 104 (by kernel_rfl)), .val (rn_mul64 rfl rfl ((fr_own rfl rfl).trans (hs 108 (by kernel_rfl))) M2.out) ⟨Below.refl _ _, rfl⟩⟩⟩) ?_
                  refine .cons (fun f w2 hI hs => ⟨_, rfl, .inl ⟨wanted_some rfl (by kernel_rfl) rfl rfl (hs 104 (by kernel_rfl)), .val (rn_move rfl) ⟨Below.refl _ _, fr_old rfl rfl⟩⟩⟩) ?_
                  refine .cons (fun f w2 hI hs => ⟨_, rfl, .inl ⟨wanted_some rfl (by kernel_rfl) rfl rfl (hs 104 (by kernel_rfl)), .val (rn_add64 rfl ((fr_own rfl rfl).trans (hs 109 (by kernel_rfl))) ((fr_own rfl rfl).trans (hs 110 (by kernel_rfl))) M3.out) ⟨Below.refl _ _, rfl⟩⟩⟩) ?_
                  refine .cons (fun f w2 hI hs => ⟨_, rfl, .inl ⟨wanted_some rfl (by kernel_rfl) rfl rfl (hs 104 (by kernel_rfl)), .val (rn_gtr64 rfl ((fr_own rfl rfl).trans (hs 107 (by kernel_rfl))) ((fr_own rfl rfl).trans (hs 111 (by kernel_rfl))) (tgtI _ _ T2.out)) ⟨Below.refl _ _, rfl⟩⟩⟩) ?_
                  refine .cons (fun f w2 hI hs => ⟨_, rfl, .inl ⟨wanted_none rfl, .val (rn_pick_f' rfl ((fr_own rfl rfl).trans (hs 104 (by kernel_rfl)))) ⟨Below.refl _ _, ((fr_own rfl rfl).trans (hs 112 (by kernel_rfl)))⟩⟩⟩) .nil
                · intro f w2 hI hk
                  have h78 : f 113 = .bool true := hk 113 (by kernel_rfl)
                  refine hK _ _ (Met.intro (hJ _ _ ?_))
                  (repeat apply Exists.intro)
                  refine ⟨?_, rfl⟩
                  exact ⟨h78, hI⟩
              case rest =>
                obtain ⟨rfl, hbel⟩ := hcut
                have n1 := N1.out
                have n2 := N2.out
                go_upto_if 120 with fail
                rw [tlt t T3.out]
                go_wp2
                go_roundw
                case rel => exact ⟨q - 1, t, rfl, rfl, QN.out, hbel⟩
                case measure => have := G1.out; simp [intOf]; omega
        · have FIN := Lib.hid (qh_done (by have := HYP.out; omega) hqh (by omega))
          have T1 := Lib.hid (fun h => hc (.inl h))
          have T2 := Lib.hid (fun h => hc (.inr h))
          clear hc hqh hrB hq2
          go_upto_region 24 with fail
          go_cut [113] (fun v wc => v = .bool false ∧ Below w.heap.size w wc)
          case first =>
            rename_i J K' hJ hK
            refine wp_region_ks DD2 (fun d => [.v (.int .u64 (q : Int)), .v (.bool false), .v (.bool false), .v (.int .u64 (q : Int)), .v (.int .u64 (y0 : Int)), .v (.int .u64 ((q * y0 : Nat) : Int)), .v (.int .u64 (r : Int)), .v (.int .u64 ((HB * r : Nat) : Int)), .v (.int .u64 (v0 : Int)), .v (.int .u64 ((HB * r + v0 : Nat) : Int)), .v (.bool false), .v (.bool false)].getD (d - 102) .any) (fun wc => Below w.heap.size w wc) (by kernel_rfl) (by kernel_rfl) (by kernel_rfl) (fun _ _ h hb => Below.thru h h.size hb) HBel.out ?_ ?_
            · refine .cons (fun f w2 hI hs => ⟨_, rfl, .inl ⟨wanted_none rfl, .val (rn_move rfl) ⟨Below.refl _ _, fr_old rfl rfl⟩⟩⟩) ?_
              refine .cons (fun f w2 hI hs => ⟨_, rfl, .inl ⟨wanted_none rfl, .val (rn_geq64 rfl ((fr_own rfl rfl).trans (hs 102 (by kernel_rfl))) rfl (tlt q T1.out)) ⟨Below.refl _ _, rfl⟩⟩⟩) ?_
              refine .cons (fun f w2 hI hs => ⟨_, rfl, .inl ⟨wanted_none rfl, .val (rn_move rfl) ⟨Below.refl _ _, ((fr_own rfl rfl).trans (hs 103 (by kernel_rfl)))⟩⟩⟩) ?_
              refine .cons (fun f w2 hI hs => ⟨_, rfl, .inl ⟨wanted_some rfl (by kernel_rfl) rfl rfl (hs 104 (by kernel_rfl)), .val (rn_move rfl) ⟨Below.refl _ _, fr_old rfl rfl⟩⟩⟩) ?_
              refine .cons (fun f w2 hI hs => ⟨_, rfl, .inl ⟨wanted_some rfl (by kernel_rfl) rfl rfl (hs 104 (by kernel_rfl)), .val (rn_move rfl) ⟨Below.refl _ _, fr_old rfl rfl⟩⟩⟩) ?_
              refine .cons (fun f w2 hI hs => ⟨_, rfl, .inl ⟨wanted_some rfl (by kernel_rfl) rfl rfl (hs 104 (by kernel_rfl)), .val (rn_mul64 rfl ((fr_own rfl rfl).trans (hs 105 (by kernel_rfl))) ((fr_own rfl rfl).trans (hs 106 (by kernel_rfl))) M1.out) ⟨Below.refl _ _, rfl⟩⟩⟩) ?_
              refine .cons (fun f w2 hI hs => ⟨_, rfl, .inl ⟨wanted_some rfl (by kernel_rfl) rfl rfl (hs 104 (by kernel_rfl)), .val (rn_move rfl) ⟨Below.refl _ _, fr_old rfl rfl⟩⟩⟩) ?_
              refine .cons (fun f w2 hI hs => ⟨_, rfl, .inl ⟨wanted_some rfl (by kernel_rfl) rfl rfl (hs 104 (by kernel_rfl)), .val (rn_mul64 rfl rfl ((fr_own rfl rfl).trans (hs 108 (by kernel_rfl))) M2.out) ⟨Below.refl _ _, rfl⟩⟩⟩) ?_
              refine .cons (fun f w2 hI hs => ⟨_, rfl, .inl ⟨wanted_some rfl (by kernel_rfl) rfl rfl (hs 104 (by kernel_rfl)), .val (rn_move rfl) ⟨Below.refl _ _, fr_old rfl rfl⟩⟩⟩) ?_
              refine .cons (fun f w2 hI hs => ⟨_, rfl, .inl ⟨wanted_some rfl (by kernel_rfl) rfl rfl (hs 104 (by kernel_rfl)), .val (rn_add64 rfl ((fr_own rfl rfl).trans (hs 109 (by kernel_rfl))) ((fr_own rfl rfl).trans (hs 110 (by kernel_rfl))) M3.out) ⟨Below.refl _ _, rfl⟩⟩⟩) ?_
              refine .cons (fun f w2 hI hs => ⟨_, rfl, .inl ⟨wanted_some rfl (by kernel_rfl) rfl rfl (hs 104 (by kernel_rfl)), .val (rn_gtr64 rfl ((fr_own rfl rfl).trans (hs 107 (by kernel_rfl))) ((fr_own rfl rfl).trans (hs 111 (by kernel_rfl))) (tngI _ _ T2.out)) ⟨Below.refl _ _, rfl⟩⟩⟩) ?_
              refine .cons (fun f w2 hI hs => ⟨_, rfl, .inl ⟨wanted_none rfl, .val (rn_pick_f' rfl ((fr_own rfl rfl).trans (hs 104 (by kernel_rfl)))) ⟨Below.refl _ _, ((fr_own rfl rfl).trans (hs 112 (by kernel_rfl)))⟩⟩⟩) .nil
            · intro f w2 hI hk
              have h78 : f 113 = .bool false := hk 113 (by kernel_rfl)
              refine hK _ _ (Met.intro (hJ _ _ ?_))
              (repeat apply Exists.intro)
              refine ⟨?_, rfl⟩
              exact ⟨h78, hI⟩
          case rest =>
            obtain ⟨rfl, hbel⟩ := hcut
            go_wp2
            go_meet
            case rel => exact ⟨by rw [FIN.out], hbel⟩

    case rest =>
      obtain ⟨rfl, hbel⟩ := hcut
      rw [HYS.out]
      have D1 := DV.out q1 _ _ HQ1.out rfl rfl
      rw [← HU3.out] at D1
      obtain ⟨q3, hq3⟩ : ∃ q3, q3 = (u2 * HB + v0) / ys := ⟨_, rfl⟩
      obtain ⟨u4, hu4⟩ : ∃ u4, u4 = (u2 * HB + v0) % ys := ⟨_, rfl⟩
      rw [← hq3, ← hu4] at D1
      rw [← hq3]
      have U28 := Lib.hid (un21 (by have := HYP.out; rw [HYS.out] at this; exact this) hq3 hu4 H1.out)
      have QF := Lib.hid (qfin q1 q3 (by rw [D1.1]; exact div_wd HY.out HLO.out hlt))
      have RF := Lib.hid (dshr u4 s)
      have F1 := Lib.hid D1.1
      have F2 := Lib.hid D1.2
      have HBEL := Lib.hid hbel
      clear hq3 hu4 D1 hbel
      go_wp2
      go_ret2
      refine ⟨HBEL.out, ?_⟩
      show Ending.returned (.tuple #[.int .u64 (IntKind.u64.wrap (IntKind.u64.wrap ((q1 : Int) * 4294967296) + (q3 : Int))), .int .u64 (IntKind.u64.wrap (IntKind.u64.wrap (IntKind.u64.wrap ((u2 : Int) * 4294967296) + (v0 : Int)) - IntKind.u64.wrap ((q3 : Int) * (ys : Int))) / 2 ^ s)]) = _
      rw [QF.out, U28.out, RF.out, F1.out, F2.out]
set_option maxRecDepth 100000 in
set_option maxHeartbeats 800000 in
theorem div64_zero (lo y : Nat) (w : World) (h0 : 0 < y) (hy : Wd y) (hlo : Wd lo) :
    Calls Tryz.prog 158 #[.int .u64 0, .int .u64 (lo : Int), .int .u64 (y : Int)] w fun e w' => Below w.heap.size w w' ∧ e = .returned (.tuple #[.int .u64 ((lo / y : Nat) : Int), .int .u64 ((lo % y : Nat) : Int)]) := by
  have t1 : ((y : Int) == 0) = false := by rw [beq_eq_false_iff_ne]; omega
  have t2 : decide ((y : Int) ≤ 0) = false := by simp; omega
  have t4 : ¬ ((y : Int) = 0) := by omega
  have e1 := (divq lo y).symm
  have e2 : IntKind.u64.wrap ((lo / y : Nat) : Int) = ((lo / y : Nat) : Int) := wuN _ (Nat.lt_of_le_of_lt (Nat.div_le_self _ _) hlo)
  have E2 := Lib.hid e2
  have E1 := Lib.hid e1
  have HY := Lib.hid hy
  have HLO := Lib.hid hlo
  clear e1 e2 hy hlo
  go_enter Tryz.func158, Tryz.ntmps158
  go_wp2
  go_quiet (fail)
  go_wp2
  go_ret2
  refine ⟨below_drewN (Below.refl _ _) _, ?_⟩
  show Ending.returned (.tuple #[.int .u64 (IntKind.u64.wrap ((lo : Int) / (y : Int))), .int .u64 ((lo : Int) % (y : Int))]) = _
  rw [← E1.out, E2.out, Int.natCast_emod]
/-- math/bits.Div64, where the high word is below the divisor -/
theorem div64_any (hi lo y : Nat) (w : World) (hlt : hi < y) (hy : Wd y) (hlo : Wd lo) :
    Calls Tryz.prog 158 #[.int .u64 (hi : Int), .int .u64 (lo : Int), .int .u64 (y : Int)] w fun e w' => Below w.heap.size w w' ∧ ∃ q r : Nat, e = .returned (.tuple #[.int .u64 (q : Int), .int .u64 (r : Int)]) ∧ Wd q ∧ r < y ∧ hi * WB + lo = q * y + r := by
  rcases Nat.eq_zero_or_pos hi with h0 | h0
  · subst h0
    refine (div64_zero lo y w (by omega) hy hlo).mono ?_
    rintro e w' ⟨hb, rfl⟩
    exact ⟨hb, _, _, rfl, Nat.lt_of_le_of_lt (Nat.div_le_self _ _) hlo, Nat.mod_lt _ (by omega), by rw [Nat.zero_mul, Nat.zero_add]; exact (Nat.div_add_mod' _ _).symm⟩
  · obtain ⟨s, hs, hb, h1, h2⟩ := lz_spec y (by omega) hy
    refine (div64_hi hi lo y s w h0 hlt hy hlo hs hb h1 h2).mono ?_
    rintro e w' ⟨hb, rfl⟩
    exact ⟨hb, _, _, rfl, div_wd hy hlo hlt, Nat.mod_lt _ (by omega), (Nat.div_add_mod' _ _).symm⟩
end Go.Proofs.YtjjomjjgoceklaaGreat
namespace Go.Proofs.YtjjomjjgoceklaaGreat
set_option maxRecDepth 100000
open Go.RowKit

theorem row_down {w : World} {b t n i : Nat} {tail : List Nat} (h : w.rowIs b t n (wf (List.replicate (i + 1) 0 ++ tail))) (q : Nat) : (w.setCell ⟨b, i, none⟩ (.int .u64 (q : Int))).rowIs b t n (wf (List.replicate i 0 ++ q :: tail)) := by
  refine (h.set i _).congr (fun j _ => ?_)
  unfold wf
  by_cases e : j = i
  · subst e; simp [List.getD_eq_getElem?_getD]
  · rw [if_neg e]
    simp only [List.getD_eq_getElem?_getD]
    rcases Nat.lt_or_ge j i with h1 | h1
    · rw [List.getElem?_append_left (by simp; omega), List.getElem?_append_left (by simp; omega)]
      simp [h1, show j < i + 1 by omega]
    · rw [List.getElem?_append_right (by simp; omega), List.getElem?_append_right (by simp; omega)]
      simp only [List.length_replicate]
      rw [show j - i = (j - (i + 1)) + 1 by omega, List.getElem?_cons_succ]
theorem dw_step {ws tail : List Nat} {i d r q r' x : Nat} (hi : i < ws.length) (hx : ws.getD i 0 = x) (H : val (ws.drop (i + 1)) = val tail * d + r) (E : r * WB + x = q * d + r') : val (ws.drop i) = val (q :: tail) * d + r' := by
  rw [drop_getD ws i hi, hx]
  simp only [val]
  rw [H, Nat.mul_add, Nat.add_mul, Nat.mul_comm WB r, Nat.mul_assoc WB]
  omega
/-- trim, where the slice lies -/
theorem trim_at (b o n cap : Nat) (ws : List Nat) (w : World) (h1 : Wds ws) (h2 : ws.length ≤ 4096) (hn0 : ws.length = n) (hc : n ≤ cap) (hlt : b < w.heap.size) (hcell : ∀ i, i < n → w.cell? ⟨b, o + i, none⟩ = some (.int .u64 ((ws.getD i 0 : Nat) : Int))) :
    Calls Tryz.prog 143 #[.slice (some ⟨b, o, none⟩) n cap] w fun e w' => w = w' ∧ ∃ k : Nat, e = .returned (.slice (some ⟨b, o, none⟩) k cap) ∧ Sl w (.slice (some ⟨b, o, none⟩) k cap) (norm ws) := by
  subst hn0
  have hn : norm (ws.take ws.length) = norm ws := by rw [List.take_length]
  go_enter Tryz.func143, Tryz.ntmps143
  go_wp2
  go_loop [0] (fun t => ∃ k : Nat, k ≤ ws.length ∧ Hid (norm (ws.take k) = norm ws) ∧ t = .slice (some ⟨b, o, none⟩) k cap) lenOf
  case atStart => exact ⟨ws.length, Nat.le_refl _, hn, rfl⟩
  case round =>
    obtain ⟨k, hk, HN, rfl⟩ := hrel
    cases k with
    | zero =>
      go_wp2
      go_ret
      have hs := Sl.take h1 h2 hc hlt hcell (Nat.zero_le _)
      exact ⟨rfl, 0, rfl, by rw [← HN.out]; exact hs⟩
    | succ j =>
      have hj := hcell j (by omega)
      have HT := Lib.hid (take_succ_getD ws j (by omega))
      by_cases hz : ws.getD j 0 = 0
      · rw [hz] at hj
        have HZ := Lib.hid hz
        clear hz hcell hn
        go_wp2
        go_round
        case rel => exact ⟨j, by omega, by show _ = _; rw [← HN.out, HT.out, HZ.out, norm_snoc_zero], rfl⟩
        case measure => simp [lenOf]
      · have hne : (((ws.getD j 0 : Nat) : Int) == 0) = false := by
          rw [beq_eq_false_iff_ne]; exact fun e => hz (by omega)
        have HC := Lib.hid hcell
        generalize ws.getD j 0 = x at *
        clear hcell hn
        have HZ := Lib.hid hz
        clear hz
        go_wp2
        go_ret
        refine ⟨rfl, j + 1, rfl, ?_⟩
        rw [← HN.out, HT.out, norm_snoc _ _ HZ.out, ← HT.out]
        exact Sl.take h1 h2 hc hlt HC.out hk
def PDw (ws : List Nat) (d : Nat) (w : World) (e : Ending) (w' : World) : Prop := Below w.heap.size w w' ∧ ∃ (k c : Nat) (qs : List Nat) (r : Nat), e = .returned (.tuple #[.slice (some ⟨w.heap.size, 0, none⟩) k c, .int .u64 (r : Int)]) ∧ Sl w' (.slice (some ⟨w.heap.size, 0, none⟩) k c) (norm qs) ∧ Wds qs ∧ r < d ∧ val ws = val qs * d + r
set_option maxRecDepth 100000 in
set_option maxHeartbeats 800000 in
theorem divideByWord_any (v : Value) (ws : List Nat) (d : Nat) (w : World) (h : Sl w v ws) (hl : ws.length ≤ 4000) (hd : Wd d) (h0 : 0 < d) : Calls Tryz.prog 147 #[v, .int .u64 (d : Int)] w (PDw ws d w) := by
  have hws := h.1
  obtain ⟨p, cw, rfl, hg⟩ := h.opened' w.heap.size (Nat.le_refl _)
  have hmk := mk_words ws.length (by omega)
  have WS := Lib.hid hws
  have HG := Lib.hid hg
  have HD := Lib.hid hd
  clear h hws hg hd
  go_enter Tryz.func147, Tryz.ntmps147
  go_wp2
  clear hmk
  go_loopw [5, 6] (fun rv iv wr => ∃ (j r : Nat) (tail : List Nat), j ≤ ws.length ∧ iv = .int .i64 ((j : Int) - 1) ∧ rv = .int .u64 (r : Int) ∧ Hid (r < d) ∧ Hid (tail.length + j = ws.length) ∧ Wds tail ∧ wr.rowIs w.heap.size 23 ws.length (wf (List.replicate j 0 ++ tail)) ∧ Below w.heap.size w wr ∧ Hid (val (ws.drop j) = val tail * d + r)) (fun _ iv _ => (intOf iv + 1).toNat)
  case atStart => exact ⟨ws.length, 0, [], Nat.le_refl _, rfl, rfl, h0, by show _ = _; simp, Wds.nil, (row_new _ _).congr (fun j _ => by simp [wf, List.getD_eq_getElem?_getD, List.getElem?_replicate]; split <;> rfl), (Below.refl _ _).alloc (Nat.le_refl _) _, by show _ = _; simp [val]⟩
  case round =>
    obtain ⟨j, r, tail, hj, rfl, rfl, HR, HL, hw, hrow, hbel, HV⟩ := hrel
    cases j with
    | zero =>
      have hrow0 : wr.rowIs w.heap.size 23 ws.length (wf tail) := by simpa using hrow
      have hlt := hrow0.lt
      have hcl : ∀ i, i < ws.length → wr.cell? ⟨w.heap.size, 0 + i, none⟩ = some (.int .u64 ((tail.getD i 0 : Nat) : Int)) := fun i hi => by rw [Nat.zero_add]; exact hrow0.cell hi
      have HCL := Lib.hid hcl
      clear hcl hrow hrow0
      go_wp2_with (go_at_call 143; refine (trim_at w.heap.size 0 ws.length ws.length tail _ hw (by have := HL.out; omega) (by have := HL.out; omega) (Nat.le_refl _) hlt HCL.out).mono ?_; rintro e w' ⟨rfl, k, rfl, hv'⟩)
      exact bodyPost_ret (v := .tuple #[.slice (some ⟨w.heap.size, 0, none⟩) k ws.length, .int .u64 (r : Int)]) (by simp [results, Tryz.results147, go_sem]) rfl ⟨hbel, k, ws.length, tail, r, rfl, hv', hw, HR.out, by have := HV.out; simpa using this⟩
    | succ i =>
      have e1 : ((i + 1 : Nat) : Int) - 1 = (i : Int) := by omega
      rw [e1]
      obtain ⟨b, o, rfl, hbg, hbl, hcell⟩ := HG.out i (by omega)
      have wx := WS.out.getD i
      generalize hx : ws.getD i 0 = x at *
      have HX := Lib.hid hx
      have WX := Lib.hid wx
      have c1 := (hbel.cell (p := ⟨b, o + i, none⟩) hbl).trans hcell
      have b1 : (i : Int) < (ws.length : Int) := by omega
      clear hx wx hcell e1
      go_wp2_with fail
      refine (div64_any r x d _ HR.out HD.out WX.out).mono ?_
      rintro e w2 ⟨hb2, q, r', rfl, hq, hr', E⟩
      have hrow2 := hrow.of_block (hb2.block _ hrow.lt)
      have hbel2 := Below.thru hbel (by have := hbel.size; omega) hb2
      have c3 := hrow2.cell (i := i) (by omega)
      have c4 := hrow2.frozen i
      have HE := Lib.hid E
      have HR' := Lib.hid hr'
      have hlt := hrow.lt
      clear E hr' c1 hrow hbel hb2
      go_wp2
      go_roundw
      case rel => exact ⟨i, r', q :: tail, by omega, rfl, rfl, HR'.out, by show _ = _; have := HL.out; simp; omega, (by intro y hy; rcases List.mem_cons.1 hy with rfl | hy; exact hq; exact hw y hy), row_down hrow2 q, hbel2.setCell (Nat.le_refl _) _, dw_step (by omega) HX.out HV.out HE.out⟩
      case measure => simp [intOf]
end Go.Proofs.YtjjomjjgoceklaaGreat
namespace Go.Proofs.YtjjomjjgoceklaaGreat
set_option maxRecDepth 100000
open Go.RowKit

/-- words as values -/
def wv (l : List Nat) : List Value := l.map fun (x : Nat) => Value.int .u64 (x : Int)
theorem wv_snoc (l : List Nat) (x : Nat) : wv (l ++ [x]) = wv l ++ [.int .u64 (x : Int)] := by simp [wv]
theorem T19_eq : T19 = 10 ^ 19 := by decide
theorem gk_bound {n k : Nat} (h : Sz n) (hk : k = 0 ∨ 1 ≤ n / 10 ^ (19 * k)) : k ≤ 1100 := by
  rcases hk with hk | hk
  · omega
  · obtain ⟨j, hj, hn⟩ := h
    have hp : 0 < 10 ^ (19 * k) := Nat.pow_pos (by decide)
    have h1 : 10 ^ (19 * k) ≤ n := by
      have := (Nat.le_div_iff_mul_le hp).1 hk
      omega
    have h2 : WB ^ j ≤ 10 ^ (20 * j) := by rw [Nat.pow_mul]; exact Nat.pow_le_pow_left (by decide) j
    have h3 : 10 ^ (19 * k) < 10 ^ (20 * j) := by omega
    have h4 := (Nat.pow_lt_pow_iff_right (by decide : 1 < 10)).1 h3
    omega
theorem pgr_own {n : Nat} {w w' : World} {base : Nat} {v : Value} {gs : List Nat} (hb : Below w.heap.size w w') (h : w'.ownsRow base 23 1 v gs.length (wv gs)) (hg : Gs n gs) (hl : gs.length ≤ 4096) : PGr n w (.returned v) w' := by
  have h1 := hg.1
  obtain ⟨_, ⟨_, h0⟩ | ⟨g, cap, cur, rfl, _, hh, _, _, _, ht⟩⟩ := h
  · omega
  · refine ⟨hb, g, cap, gs, cur, rfl, hh, fun i hi => ?_, hg, hl⟩
    have h2 : (cur.toList.take (gs.length * 1))[i]? = (wv gs)[i]? := by rw [ht]
    rw [List.getElem?_take_of_lt (by omega)] at h2
    have h3 : cur.toList[i]? = some (.int .u64 ((gs.getD i 0 : Nat) : Int)) := by rw [h2]; simp [wv, hi, List.getD_eq_getElem?_getD]
    simpa using h3
theorem gs_push {n k m : Nat} {out : List Nat} (hl : out.length = k) (ho : ∀ i, i < k → out.getD i 0 = n / 10 ^ (19 * i) % 10 ^ 19) (hm : m = n / 10 ^ (19 * k)) : ∀ i, i < k + 1 → (out ++ [m % 10 ^ 19]).getD i 0 = n / 10 ^ (19 * i) % 10 ^ 19 := by
  intro i hi
  simp only [List.getD_eq_getElem?_getD]
  by_cases h : i < k
  · rw [List.getElem?_append_left (by omega), ← List.getD_eq_getElem?_getD]; exact ho i h
  · obtain rfl : i = k := by omega
    rw [List.getElem?_append_right (by omega), hl, hm]
    simp
theorem gs_one {n k m : Nat} {out : List Nat} (hl : out.length = k) (ho : ∀ i, i < k → out.getD i 0 = n / 10 ^ (19 * i) % 10 ^ 19) (hm : m = n / 10 ^ (19 * k)) (hk : k = 0 ∨ 1 ≤ m) (ht : m < 10 ^ 19) : Gs n (out ++ [m]) := by
  have hp : 0 < 10 ^ (19 * k) := Nat.pow_pos (by decide)
  have e : m % 10 ^ 19 = m := Nat.mod_eq_of_lt ht
  have h1 := gs_push hl ho hm
  rw [e] at h1
  refine ⟨by simp, fun i hi => h1 i (by simp at hi; omega), ?_, ?_⟩
  · simp only [List.length_append, List.length_singleton, hl]
    rw [hm, Nat.div_lt_iff_lt_mul hp, ← Nat.pow_add] at ht
    rw [show 19 * (k + 1) = 19 + 19 * k by omega]
    exact ht
  · simp only [List.length_append, List.length_singleton, hl, Nat.add_sub_cancel]
    rcases hk with h | h
    · left; omega
    · right; rw [hm] at h; have := (Nat.le_div_iff_mul_le hp).1 h; omega
theorem gs_two {n k m : Nat} {out : List Nat} (hl : out.length = k) (ho : ∀ i, i < k → out.getD i 0 = n / 10 ^ (19 * i) % 10 ^ 19) (hm : m = n / 10 ^ (19 * k)) (ht : 10 ^ 19 ≤ m) (hw : Wd m) : Gs n (out ++ [m % 10 ^ 19] ++ [m / 10 ^ 19]) := by
  have h1 := gs_push hl ho hm
  have e : m / 10 ^ 19 = n / 10 ^ (19 * (k + 1)) := by rw [hm, Nat.div_div_eq_div_mul, ← Nat.pow_add, Nat.mul_succ]
  exact gs_one (k := k + 1) (by simp [hl]) h1 e (.inr (by unfold Wd WB at hw; omega)) (by unfold Wd WB at hw; omega)
theorem val_big {ws : List Nat} (hn : Nrm ws) (h : 1 < ws.length) : WB ≤ val ws := by
  have h1 := val_ge ws hn (by intro e; rw [e] at h; simp at h)
  have h2 : WB ^ 1 ≤ WB ^ (ws.length - 1) := Nat.pow_le_pow_right WB_pos (by omega)
  rw [Nat.pow_one] at h2
  omega
theorem divT (v : Value) (ws : List Nat) (w : World) (h : Sl w v ws) (hl : ws.length ≤ 4000) : Calls Tryz.prog 147 #[v, .int .u64 10000000000000000000] w (PDw ws T19 w) := by
  have := divideByWord_any v ws T19 w h hl (by unfold Wd T19 WB; omega) (by decide)
  have e : ((T19 : Nat) : Int) = 10000000000000000000 := by unfold T19; rfl
  rw [e] at this
  exact this
theorem modT (x : Nat) : (x : Int) % 10000000000000000000 = ((x % T19 : Nat) : Int) := by unfold T19; omega
theorem quoT (x : Nat) : (x : Int) / 10000000000000000000 = ((x / T19 : Nat) : Int) := by unfold T19; omega
theorem div_uniq {m q r d : Nat} (h : m = q * d + r) (hr : r < d) : q = m / d ∧ r = m % d := by
  have hd : 0 < d := by omega
  refine ⟨?_, ?_⟩
  · rw [h, Nat.mul_comm, Nat.mul_add_div hd, Nat.div_eq_of_lt hr, Nat.add_zero]
  · rw [h, Nat.mul_comm, Nat.mul_add_mod, Nat.mod_eq_of_lt hr]
theorem cell_one_w (w : World) (x : Value) : ∀ (j : Nat) (u : Value), [x][j]? = some u → (w.alloc (.cells #[x] 23)).cell? (Addr.add ⟨w.heap.size, 0, none⟩ j) = some u := by
  intro j u hj
  match j, hj with
  | 0, hj => simp at hj; subst hj; simp [Addr.add, go_sem]
theorem remT (x : Nat) : ((x : Int)).tmod 10000000000000000000 = ((x % T19 : Nat) : Int) := by rw [Int.tmod_eq_emod_of_nonneg (by omega)]; exact modT x
theorem quoW (x : Nat) (h : Wd x) : IntKind.u64.wrap ((x : Int).tdiv 10000000000000000000) = ((x / T19 : Nat) : Int) := by
  rw [Int.tdiv_eq_ediv_of_nonneg (by omega), quoT]
  exact wuN _ (Nat.lt_of_le_of_lt (Nat.div_le_self _ _) h)
section
variable {ρ : Operand → Value} {o : Oper} {w : World} {t x y : Operand} {a b c : Int}
theorem rn_index0 {b o' cp : Nat} (ho : o.op = .indexAddr 138 t (.const (.int .i64 0))) (h1 : ρ t = .slice (some ⟨b, o', none⟩) 1 cp) (h2 : ρ (.const (.int .i64 0)) = .int .i64 0) : (execOp ρ o).run Tryz.prog w = .ok (.value (.pointer (some ⟨b, o', none⟩))) w := by
  unfold execOp; rw [ho]; simp [go_sem, h1, h2]
theorem rn_loadW {b i : Nat} {n : Int} (ho : o.op = .load 23 t) (he : ρ t = .pointer (some ⟨b, i, none⟩)) (h : w.cell? ⟨b, i, none⟩ = some (.int .u64 n)) : (execOp ρ o).run Tryz.prog w = .ok (.value (.int .u64 n)) w := by
  unfold execOp; rw [ho]; simp [go_sem, he, h]
theorem rn_remT (ho : o.op = .binOp .rem 23 t (.const (.int .u64 10000000000000000000)) 23) (h1 : ρ t = .int .u64 a) (h2 : ρ (.const (.int .u64 10000000000000000000)) = .int .u64 10000000000000000000) : (execOp ρ o).run Tryz.prog w = .ok (.value (.int .u64 (a.tmod 10000000000000000000))) w := by
  unfold execOp; rw [ho]; simp [go_sem, h1, h2]
theorem rn_quoT (ho : o.op = .binOp .quo 23 t (.const (.int .u64 10000000000000000000)) 23) (h1 : ρ t = .int .u64 a) (h2 : ρ (.const (.int .u64 10000000000000000000)) = .int .u64 10000000000000000000) : (execOp ρ o).run Tryz.prog w = .ok (.value (.int .u64 (IntKind.u64.wrap (a.tdiv 10000000000000000000)))) w := by
  unfold execOp; rw [ho]; simp [go_sem, h1, h2]
theorem rn_build2 (ho : o.op = .buildSlice 138 2 #[(0, x), (1, y)]) (h1 : ρ x = .int .u64 a) (h2 : ρ y = .int .u64 b) : (execOp ρ o).run Tryz.prog w = .ok (.value (.slice (some ⟨w.heap.size, 0, none⟩) 2 2)) (w.alloc (.cells #[.int .u64 a, .int .u64 b] 23)) := by
  unfold execOp; rw [ho]; simp [go_sem, h1, h2]
theorem rn_append2 {base : Nat} {v : Value} {n T : Nat} {xs : List Value} (ho : o.op = .call { callee := .builtin .append, args := #[x, y], argTypes := #[138, 138] }) (h1 : ρ x = v) (h2 : ρ y = .slice (some ⟨T, 0, none⟩) 2 2) (hT : w.heap[T]? = some (.cells #[.int .u64 a, .int .u64 b] 23 (0, 0)))
    (hown : w.ownsRow base 23 1 v n xs) (h63 : n + 2 ≤ maxLen) (hby : (n + 2) * 8 ≤ 140737488355328) (hbase : base ≤ w.heap.size) :
    ∃ v' w', (execOp ρ o).run Tryz.prog w = .ok (.value v') w' ∧ w'.ownsRow base 23 1 v' (n + 2) (xs ++ [.int .u64 a, .int .u64 b]) ∧ w.grownBy w' v.ownBlock := by
  obtain ⟨i0, hi, hz0, hz1, hz2⟩ := info_parts Tryz.info23
  obtain ⟨v', w', hr, h3, h4, _⟩ := run_append_own (P := Tryz.prog) w base 138 o.type 23 i0 (.int .u64 0) 1 8 Tryz.underlying138 hi hz0 hz1 hz2 rfl (by decide) v n xs hown ⟨T, 0, none⟩ 2 2 [.int .u64 a, .int .u64 b] rfl
    (fun j u hj => by
      match j, hj with
      | 0, hj => simp at hj; subst hj; simp [Addr.add, World.cell?, hT]
      | 1, hj => simp at hj; subst hj; simp [Addr.add, World.cell?, hT]) (by simp [Value.oneCell']) h63 hby hbase
  refine ⟨v', w', ?_, h3, h4⟩
  unfold execOp
  simp only [ho, resolve, invoke, builtin, Sem.run_bind, Sem.run_pure, Result.andThen_ok, List.map_toArray, List.map_cons, List.map_nil, h1, h2, hr]
end
def D95 (t : Nat) : Bool := Nat.beq t 2 || (Nat.ble 36 t && Nat.ble t 46)
def tab95 (u : Value) (b o c g W : Nat) (d : Nat) : Kd := if d = 2 then .any else [.v u, .v (.slice (some ⟨b, o, none⟩) 1 c), .v (.pointer (some ⟨b, o, none⟩)), .v (.int .u64 (g : Int)), .v (.int .u64 ((g % T19 : Nat) : Int)), .v (.slice (some ⟨b, o, none⟩) 1 c), .v (.pointer (some ⟨b, o, none⟩)), .v (.int .u64 (g : Int)), .v (.int .u64 ((g / T19 : Nat) : Int)),
  .c (fun v w => ∃ T, v = .slice (some ⟨T, 0, none⟩) 2 2 ∧ W ≤ T ∧ w.heap[T]? = some (.cells #[.int .u64 ((g % T19 : Nat) : Int), .int .u64 ((g / T19 : Nat) : Int)] 23 (0, 0))) (fun _ _ _ ⟨T, h1, h3, h2⟩ hb => ⟨T, h1, h3, blk_keep h2 hb⟩), .any].getD (d - 36) .any
theorem app2_op {R : Value → World → Prop} {a0 : Act} {x y : Operand} {o : Oper} {w : World} {a b : Int} {base : Nat} {v : Value} {n T : Nat} {xs : List Value} (ho : o.op = .call { callee := .builtin .append, args := #[x, y], argTypes := #[138, 138] }) (h1 : a0.eval x = v) (h2 : a0.eval y = .slice (some ⟨T, 0, none⟩) 2 2) (hT : w.heap[T]? = some (.cells #[.int .u64 a, .int .u64 b] 23 (0, 0)))
    (hown : w.ownsRow base 23 1 v n xs) (h63 : n + 2 ≤ maxLen) (hby : (n + 2) * 8 ≤ 140737488355328) (hbase : base ≤ w.heap.size)
    (hR : ∀ v' w', w'.ownsRow base 23 1 v' (n + 2) (xs ++ [.int .u64 a, .int .u64 b]) → w.grownBy w' v.ownBlock → R v' w') : OpR Tryz.prog o a0 w R := by
  obtain ⟨v', w', hr, h3, h4⟩ := rn_append2 (ρ := a0.eval) ho h1 h2 hT hown h63 hby hbase
  exact .val hr (hR v' w' h3 h4)
/-- words stay while another row grows -/
theorem Sl.moved {w w' : World} {b o n c : Nat} {ws : List Nat} {row : Option Nat} (h : Sl w (.slice (some ⟨b, o, none⟩) n c) ws) (hg : w.grownBy w' row) (hne : row = some b → False) : Sl w' (.slice (some ⟨b, o, none⟩) n c) ws := by
  obtain ⟨h1, h2, ⟨h, _⟩ | ⟨b', o', c', he, hc, hlt, hcell⟩⟩ := h
  · simp at h
  · simp only [Value.slice.injEq, Option.some.injEq, Addr.mk.injEq, and_true] at he
    obtain ⟨⟨rfl, rfl⟩, rfl, rfl⟩ := he
    exact ⟨h1, h2, .inr ⟨_, _, _, rfl, hc, Nat.lt_of_lt_of_le hlt hg.size, fun i hi => (World.cell?_of_block (a := ⟨b, o + i, none⟩) (hg.block b hlt (fun e => hne e.symm))).trans (hcell i hi)⟩⟩
set_option maxRecDepth 100000 in
set_option maxHeartbeats 1600000 in
theorem groups_any (v : Value) (n : Nat) (w : World) (h : Dg w v n) (sz : Sz n) : Calls Tryz.prog 140 #[v] w (PGr n w) := by
  have H := Lib.hid h
  have SZ := Lib.hid sz
  obtain ⟨x, p, rfl⟩ := h.agg
  clear h sz
  obtain ⟨i0, hi, hz0, hz1, hz2⟩ := info_parts Tryz.info23
  go_enter Tryz.func140, Tryz.ntmps140
  go_wp2_with fail
  refine (words_any _ n _ (H.out.keep (bl1 _ _) (Nat.le_refl _))).mono ?_
  rintro e w1 ⟨hb1, v1, ws, rfl, hs, hn, hv⟩
  have k1 := Below.thru (bl1 w _) (by simp) hb1
  have z1 : w.heap.size + 1 ≤ w1.heap.size := Nat.le_trans (by simp) hb1.size
  have hl1 := SZ.out.len hn hv
  have HS := Lib.hid hs
  have HN := Lib.hid hn
  have HV := Lib.hid hv
  obtain ⟨p1, c1, rfl, _⟩ := hs.opened
  clear hs hn hv hb1
  go_wp2
  go_loopg [3, 4] n (fun g gr t wr => ∃ (k : Nat) (out wsk : List Nat), Hid (Sl wr t wsk) ∧ Hid (Nrm wsk) ∧ wsk.length ≤ 1000 ∧ Hid (val wsk = g) ∧ Hid (g = n / 10 ^ (19 * k)) ∧ Hid (out.length = k) ∧ wr.ownsRow (w.heap.size + 1) 23 1 gr k (wv out) ∧ Hid (∀ i, i < k → out.getD i 0 = n / 10 ^ (19 * i) % 10 ^ 19) ∧ Hid (k = 0 ∨ 1 ≤ g) ∧ Below w.heap.size w wr)
  case atStart => exact ⟨0, [], ws, HS.out, HN.out, hl1, HV.out, by show _ = _; simp, rfl, World.ownsRow_nil _ _ _ _, (by intro i hi; omega), .inl rfl, k1⟩
  case round =>
    obtain ⟨k, out, wsk, HS, HN, hlk, HV, HG, HL, hown, HO, HK, hbel⟩ := hrel
    have hkb := gk_bound SZ.out (by rw [← HG.out]; exact HK.out)
    obtain ⟨pt, ct, rfl, _, hcells⟩ := HS.out.opened
    have HCL := Lib.hid hcells
    have hbsz := hbel.size
    clear hcells
    by_cases hlen : 1 < wsk.length
    · have HB1 := Lib.hid (val_big HN.out hlen)
      have HOW := Lib.hid hown
      have HBE := Lib.hid hbel
      clear hown hbel
      go_wp2_with fail
      refine (divT _ wsk _ HS.out (by omega)).mono ?_
      rintro e w2 ⟨hb2, kv, cv, qs, r, rfl, hq, hqs, hr, E⟩
      have hown2 := HOW.out.kept (below_grown hb2) (Classical.em _)
      have hbel2 := Below.thru HBE.out hbsz hb2
      have hb2s := hb2.size
      obtain ⟨hq1, hr1⟩ := div_uniq E hr
      rw [HV.out] at hq1 hr1
      have hown0 := hown2.alloc (.cells #[.int .u64 (r : Int)] 23)
      have HQ := Lib.hid hq
      have HQ1 := Lib.hid hq1
      have HR1 := Lib.hid hr1
      have HVN := Lib.hid (val_norm qs)
      have HO2 := Lib.hid hown2
      have HB2 := Lib.hid hbel2
      have GB : Hid (WB ≤ gk) := by show _ ≤ _; have := HB1.out; rw [HV.out] at this; exact this
      have hrow : u3.ownBlock ≠ some wr.heap.size := by
        intro e
        obtain ⟨_, ⟨rfl, _⟩ | ⟨g, cap, cur, rfl, _, hh, _⟩⟩ := HOW.out
        · simp [Value.ownBlock] at e
        · simp [Value.ownBlock] at e
          exact absurd (blk_lt hh) (by omega)
      have HRW := Lib.hid hrow
      have hfr : wr.heap.size < w2.heap.size ∨ kv = 0 := by
        obtain ⟨_, _, ⟨h, _⟩ | ⟨b, o, c, h, _, hlt, _⟩⟩ := hq
        · simp at h
        · simp at h; left; rw [h.1.1]; exact hlt
      have HFR := Lib.hid hfr
      clear hq hq1 hr1 hown2 hbel2 hb2 hr E hqs hrow hfr
      go_wp2_with (at_builtin; refine wpList_append_own _ rfl _ _ 138 rfl (w.heap.size + 1) 23 i0 (.int .u64 0) 1 8 Tryz.underlying138 hi hz0 hz1 hz2 rfl (by decide) _ _ _ rfl hown0 ⟨w2.heap.size, 0, none⟩ 1 1 [.int .u64 (r : Int)] rfl rfl (cell_one_w _ _) (by simp [Value.oneCell']) (by unfold maxLen; omega) (by omega) (by simp; omega) ?_; intro v'' w3 hown' hgrow _)
      have hown3 := hown'
      rw [← wv_snoc] at hown3
      have HO3 := Lib.hid hown3
      have HBL := Lib.hid ((HB2.out.alloc (show w.heap.size ≤ w2.heap.size by omega) (.cells #[.int .u64 (r : Int)] 23)).grown hgrow (by simp; omega) (fun j e => Nat.le_of_succ_le (hown0.lt j e).1))
      have HS3 : Hid (Sl w3 (.slice (some ⟨wr.heap.size, 0, none⟩) kv cv) (norm qs)) := by
        have h1 := HQ.out.keep (bl1 w2 (.cells #[.int .u64 (r : Int)] 23)) (Nat.le_refl _)
        exact h1.moved hgrow (fun e => HRW.out e)
      have HG1 : Hid (gk / T19 = n / 10 ^ (19 * (k + 1))) := by show _ = _; rw [HG.out, Nat.div_div_eq_div_mul, T19_eq, ← Nat.pow_add, Nat.mul_succ]
      have HO1 : Hid (∀ i, i < k + 1 → (out ++ [r]).getD i 0 = n / 10 ^ (19 * i) % 10 ^ 19) := by have := gs_push HL.out HO.out HG.out; rw [← T19_eq, ← HR1.out] at this; rw [T19_eq] at this; exact this
      have HV1 : Hid (val (norm qs) = gk / T19) := by show _ = _; rw [HVN.out, HQ1.out]
      have HK1 : Hid (1 ≤ gk / T19) := by show _ ≤ _; have := GB.out; unfold WB at this; unfold T19; omega
      have HM1 : Hid (gk / T19 < gk) := by show _ < _; have := GB.out; unfold WB at this; unfold T19; omega
      have HL1 : Hid ((norm qs).length ≤ 1000) := by
        obtain ⟨j, hj, hn⟩ := SZ.out
        refine Nat.le_trans (nrm_len (norm_nrm _) HV1.out (k := j) ?_) hj
        refine Nat.lt_of_le_of_lt ?_ hn
        rw [HG1.out]
        exact Nat.div_le_self _ _
      clear hown' hown3 hgrow hown0
      go_wp2
      go_roundg (gk / T19)
      case measure => exact HM1.out
      case rel => exact ⟨k + 1, out ++ [r], norm qs, HS3.out, norm_nrm _, HL1.out, HV1.out, HG1.out, by show _ = _; simp [HL.out], HO3.out, HO1.out, .inr HK1.out, HBL.out⟩
    · have HOW := Lib.hid hown
      have HBE := Lib.hid hbel
      clear hown hbel
      rcases List.eq_nil_or_concat wsk with rfl | ⟨l', x, hl'⟩
      · have hg0 : gk = 0 := by rw [← HV.out]; rfl
        have hk0 : k = 0 := by rcases HK.out with h | h <;> omega
        subst hk0
        have ho0 : out = [] := List.length_eq_zero_iff.1 HL.out
        subst ho0
        have hn0 : n = 0 := by have := HG.out; rw [hg0] at this; simpa using this.symm
        have HN0 := Lib.hid hn0
        have hown0 := HOW.out.alloc (.cells #[.int .u64 0] 23)
        rw [List.length_nil]
        clear hg0 hn0 HV HG HK HL HO
        go_wp2_with (at_builtin; refine wpList_append_own _ rfl _ _ 138 rfl (w.heap.size + 1) 23 i0 (.int .u64 0) 1 8 Tryz.underlying138 hi hz0 hz1 hz2 rfl (by decide) _ _ _ rfl hown0 ⟨wr.heap.size, 0, none⟩ 1 1 [.int .u64 0] rfl rfl (cell_one_w _ _) (by simp [Value.oneCell']) (by unfold maxLen; omega) (by omega) (by simp; omega) ?_; intro v'' w3 hown' hgrow _)
        have HO3 : Hid (w3.ownsRow (w.heap.size + 1) 23 1 v'' 1 (wv [0])) := hown'
        have HBL := Lib.hid ((HBE.out.alloc hbsz (.cells #[.int .u64 0] 23)).grown hgrow (by simp; omega) (fun j e => Nat.le_of_succ_le (hown0.lt j e).1))
        clear hown' hgrow hown0
        go_wp2
        go_ret
        exact pgr_own HBL.out HO3.out (by rw [HN0.out]; exact Gs.one (by decide)) (by simp)
      · rw [List.concat_eq_append] at hl'
        subst hl'
        have hl0 : l' = [] := List.length_eq_zero_iff.1 (by simp only [List.length_append, List.length_singleton] at hlen; omega)
        subst hl0
        have hgx : gk = x := by rw [← HV.out]; simp [val]
        subst hgx
        obtain ⟨b1, o1, rfl, hlt1, hc1⟩ := HCL.out 0 (by simp)
        have hc1 : wr.cell? ⟨b1, o1, none⟩ = some (.int .u64 (gk : Int)) := by simpa using hc1
        have hx0 : Hid (gk ≠ 0) := by have := HN.out; unfold Nrm at this; show _ ≠ _; simpa using this
        have hxw : Hid (Wd gk) := HS.out.1 gk (by simp)
        rw [show ([] ++ [gk] : List Nat).length = 1 from rfl]
        clear HS HCL HN HV hlen
        by_cases ht : gk < T19
        · have HT := Lib.hid ht
          have hown0 := HOW.out.alloc (.cells #[.int .u64 (gk : Int)] 23)
          clear ht
          go_upto_region 9 with fail
          go_upto_if 29 with fail
          rw [decide_eq_true (show (gk : Int) < 10000000000000000000 by have := HT.out; unfold T19 at this; omega)]
          go_upto_region 10 with fail
          go_wp2_with (at_builtin; refine wpList_append_own _ rfl _ _ 138 rfl (w.heap.size + 1) 23 i0 (.int .u64 0) 1 8 Tryz.underlying138 hi hz0 hz1 hz2 rfl (by decide) _ _ _ rfl hown0 ⟨wr.heap.size, 0, none⟩ 1 1 [.int .u64 (gk : Int)] rfl rfl (cell_one_w _ _) (by simp [Value.oneCell']) (by unfold maxLen; omega) (by omega) (by simp; omega) ?_; intro v'' w3 hown' hgrow _)
          rw [← wv_snoc] at hown'
          have HO3 := Lib.hid hown'
          have HBL := Lib.hid ((HBE.out.alloc hbsz (.cells #[.int .u64 (gk : Int)] 23)).grown hgrow (by simp; omega) (fun j e => Nat.le_of_succ_le (hown0.lt j e).1))
          clear hown' hgrow hown0
          go_wp2
          go_ret
          refine pgr_own HBL.out (gs := out ++ [gk]) (by rw [show (out ++ [gk]).length = k + 1 by simp [HL.out]]; exact HO3.out) (gs_one HL.out HO.out HG.out HK.out (by have := HT.out; rw [T19_eq] at this; exact this)) (by simp [HL.out]; omega)
        · have HT := Lib.hid ht
          clear ht
          go_upto_region 9 with fail
          go_upto_if 29 with fail
          rw [decide_eq_false (show ¬ (gk : Int) < 10000000000000000000 by have := HT.out; unfold T19 at this; omega)]
          go_upto_region 11 with fail
          have HC1 := Lib.hid hc1
          go_cut [2] (fun v wc => wc.ownsRow (w.heap.size + 1) 23 1 v (k + 2) (wv (out ++ [gk % T19] ++ [gk / T19])) ∧ Below w.heap.size w wc)
          case first =>
            rename_i J K' hJ hK
            refine wp_region_two D95 (tab95 u3 b1 o1 ct gk wr.heap.size) (fun w' => Below wr.heap.size wr w') 10 (fun i f w' => w'.ownsRow (w.heap.size + 1) 23 1 (if i = 11 then f 46 else f 2) (k + 2) (wv (out ++ [gk % T19] ++ [gk / T19])) ∧ Below w.heap.size w w') (by kernel_rfl) (by kernel_rfl) (by kernel_rfl) (by kernel_rfl) (by decide) (by kernel_rfl) (fun _ _ h hb => Below.thru h h.size hb) (Below.refl _ _).drew ?_ ?_ ?_
            · refine .cons (fun f w' hI hs => ⟨wanted_none rfl, _, rfl, .val (rn_move rfl) ⟨Below.refl _ _, fr_old rfl rfl⟩⟩) ?_
              refine .cons (fun f w' hI hs => ⟨wanted_none rfl, _, rfl, .val (rn_move rfl) ⟨Below.refl _ _, fr_old rfl rfl⟩⟩) ?_
              refine .cons (fun f w' hI hs => ⟨wanted_none rfl, _, rfl, .val (rn_index0 rfl ((fr_own rfl rfl).trans (hs 37 (by kernel_rfl))) rfl) ⟨Below.refl _ _, rfl⟩⟩) ?_
              refine .cons (fun f w' hI hs => ⟨wanted_none rfl, _, rfl, .val (rn_loadW rfl ((fr_own rfl rfl).trans (hs 38 (by kernel_rfl))) ((hI.cell (p := ⟨b1, o1, none⟩) hlt1).trans HC1.out)) ⟨Below.refl _ _, rfl⟩⟩) ?_
              refine .cons (fun f w' hI hs => ⟨wanted_none rfl, _, rfl, .val (rn_remT rfl ((fr_own rfl rfl).trans (hs 39 (by kernel_rfl))) rfl) ⟨Below.refl _ _, by show _ = _; rw [remT]⟩⟩) ?_
              refine .cons (fun f w' hI hs => ⟨wanted_none rfl, _, rfl, .val (rn_move rfl) ⟨Below.refl _ _, fr_old rfl rfl⟩⟩) ?_
              refine .cons (fun f w' hI hs => ⟨wanted_none rfl, _, rfl, .val (rn_index0 rfl ((fr_own rfl rfl).trans (hs 41 (by kernel_rfl))) rfl) ⟨Below.refl _ _, rfl⟩⟩) ?_
              refine .cons (fun f w' hI hs => ⟨wanted_none rfl, _, rfl, .val (rn_loadW rfl ((fr_own rfl rfl).trans (hs 42 (by kernel_rfl))) ((hI.cell (p := ⟨b1, o1, none⟩) hlt1).trans HC1.out)) ⟨Below.refl _ _, rfl⟩⟩) ?_
              refine .cons (fun f w' hI hs => ⟨wanted_none rfl, _, rfl, .val (rn_quoT rfl ((fr_own rfl rfl).trans (hs 43 (by kernel_rfl))) rfl) ⟨Below.refl _ _, by show _ = _; rw [quoW _ hxw.out]⟩⟩) ?_
              refine .cons (fun f w' hI hs => ⟨wanted_none rfl, _, rfl, .val (rn_build2 rfl ((fr_own rfl rfl).trans (hs 40 (by kernel_rfl))) ((fr_own rfl rfl).trans (hs 44 (by kernel_rfl)))) ⟨bl1 _ _, _, rfl, hI.size, Go.Deep.blk_alloc_new _ _⟩⟩) .nil
            · refine .cons (fun f w' h => ⟨wanted_none rfl, ?_⟩) ?_
              · obtain ⟨hI, hs⟩ := (if_pos rfl) ▸ h
                obtain ⟨T, hT, hTW, hTh⟩ : ∃ T, f 45 = .slice (some ⟨T, 0, none⟩) 2 2 ∧ wr.heap.size ≤ T ∧ w'.heap[T]? = some (.cells #[.int .u64 ((gk % T19 : Nat) : Int), .int .u64 ((gk / T19 : Nat) : Int)] 23 (0, 0)) := hs 45 (by kernel_rfl)
                have h36 : f 36 = u3 := hs 36 (by kernel_rfl)
                have hown1 := HOW.out.kept (below_grown hI) (Classical.em _)
                have hIs := hI.size
                have hTl := blk_lt hTh
                refine app2_op rfl ((fr_own rfl rfl).trans h36) ((fr_own rfl rfl).trans hT) hTh hown1 (by unfold maxLen; omega) (by omega) (by omega) ?_
                intro v' w1 ho1 hg1
                exact ⟨by rw [if_pos rfl]; simpa [updo, upd, wv] using ho1, (Below.thru HBE.out hbsz hI).grown hg1 (by omega) (fun j e => Nat.le_of_succ_le (hown1.lt j e).1)⟩
              refine .cons (fun f w' h => ⟨wanted_none rfl, .val (rn_assign rfl) ?_⟩) .nil
              have h : w'.ownsRow (w.heap.size + 1) 23 1 (f 46) (k + 2) (wv (out ++ [gk % T19] ++ [gk / T19])) ∧ Below w.heap.size w w' := h
              refine ⟨?_, h.2⟩
              rw [fr_own rfl rfl]
              exact h.1
            · intro f w' h
              refine hK _ _ (Met.intro (hJ _ _ ?_))
              (repeat apply Exists.intro)
              refine ⟨?_, rfl⟩
              exact h
          case rest =>
            obtain ⟨ho, hb⟩ := hcut
            have HO3 := Lib.hid ho
            have HB3 := Lib.hid hb
            clear ho hb
            go_wp2
            go_ret
            refine pgr_own HB3.out (gs := out ++ [gk % T19] ++ [gk / T19]) (by rw [show (out ++ [gk % T19] ++ [gk / T19]).length = k + 2 by simp [HL.out]]; exact HO3.out) ?_ (by simp [HL.out]; omega)
            have := gs_two HL.out HO.out HG.out (by have := HT.out; rw [T19_eq] at this; omega) hxw.out
            rw [← T19_eq] at this
            exact this
end Go.Proofs.YtjjomjjgoceklaaGreat

import Derived.Test.YtjjomjjgoceklaaS
import Derived.WalkSpells
namespace Go.Proofs.Ytjjomjjgoceklaa
open Go.RowKit

/-- the number of the first n decimal digits -/
def dec (s : ByteArray) : Nat → Nat
  | 0 => 0
  | n + 1 => 10 * dec s n + (byteAt s n - 48)
/-- t is s from k on -/
def Rest (s t : ByteArray) (k : Nat) : Prop := t.size + k = s.size ∧ ∀ j, j < t.size → byteAt t j = byteAt s (k + j)

theorem extract_size (t : ByteArray) (a b : Nat) (hb : b ≤ t.size) : (t.extract a b).size = b - a := by
  rw [ByteArray.size_extract]; omega
theorem byteAt_extract (t : ByteArray) (a b j : Nat) (hb : b ≤ t.size) (hj : a + j < b) : byteAt (t.extract a b) j = byteAt t (a + j) := by
  have h1 : j < (t.extract a b).size := by rw [extract_size t a b hb]; omega
  have h2 : a + j < t.size := by omega
  rw [byteAt_get h1, byteAt_get h2, ByteArray.getElem_extract]
theorem dec_lt (s : ByteArray) (n : Nat) (hd : ∀ j, j < n → 48 ≤ byteAt s j ∧ byteAt s j ≤ 57) : dec s n < 10 ^ n := by
  induction n with
  | zero => simp [dec]
  | succ n ih =>
    have h1 := ih (fun j hj => hd j (by omega))
    have h2 := hd n (by omega)
    simp only [dec, Nat.pow_succ]
    omega
theorem dec_add (s t : ByteArray) (k : Nat) (hR : Rest s t k) (n : Nat) (hn : n ≤ t.size) : dec s (k + n) = 10 ^ n * dec s k + dec t n := by
  induction n with
  | zero => simp [dec]
  | succ n ih =>
    have h1 := ih (by omega)
    have h2 := hR.2 n (by omega)
    rw [← Nat.add_assoc]
    simp only [dec, h1, h2, Nat.pow_succ, Nat.mul_add]
    rw [Nat.mul_comm (10 ^ n) 10, Nat.mul_assoc]
    omega
theorem pow10_wd (n : Nat) (h : n ≤ 19) : 10 ^ n ≤ 10000000000000000000 := by
  have : 10 ^ n ≤ 10 ^ 19 := Nat.pow_le_pow_right (by omega) h
  omega
theorem dig_wrap (g x : Nat) (hg : g ≤ 1000000000000000000) (h1 : 48 ≤ x) (h2 : x ≤ 57) : IntKind.u64.wrap (IntKind.u64.wrap ((g : Int) * 10) + ((x : Int) - 48)) = ((10 * g + (x - 48) : Nat) : Int) := by
  rw [IntKind.wrap_u64, IntKind.wrap_u64]; omega
theorem ten_wrap (u : Nat) (hu : u ≤ 1000000000000000000) : IntKind.u64.wrap ((u : Int) * 10) = ((10 * u : Nat) : Int) := by
  rw [IntKind.wrap_u64]; omega
theorem Rest.next {s t : ByteArray} {k n : Nat} (h : Rest s t k) (hn : n ≤ t.size) : Rest s (t.extract n t.size) (k + n) := by
  have h1 := extract_size t n t.size (Nat.le_refl _)
  refine ⟨by have := h.1; omega, fun j hj => ?_⟩
  rw [h1] at hj
  rw [byteAt_extract t n t.size j (Nat.le_refl _) (by omega), h.2 (n + j) (by omega), Nat.add_assoc]
theorem dec_len {ws : List Nat} {s : ByteArray} {k : Nat} (hn : Nrm ws) (hv : val ws = dec s k) (hd : ∀ j, j < k → 48 ≤ byteAt s j ∧ byteAt s j ≤ 57) : ws.length ≤ k := by
  refine nrm_len hn hv (Nat.lt_of_lt_of_le (dec_lt s k hd) (Nat.pow_le_pow_left ?_ k))
  unfold WB; omega
def strLen : Value → Nat | .string b => b.size | _ => 0
set_option maxHeartbeats 800000 in
set_option maxRecDepth 100000 in
theorem readDigits_any (s : ByteArray) (w : World) (hs : s.size ≤ 1000) (hd : ∀ j, j < s.size → 48 ≤ byteAt s j ∧ byteAt s j ≤ 57) : Calls Try.prog 68 #[.string s] w (PDg (dec s s.size) w) := by
  have HDg := Lib.hid hd
  clear hd
  go_enter Try.func68, Try.ntmps68
  go_wp2
  go_loopw [0, 3] (fun t v wr => ∃ (k : Nat) (tt : ByteArray) (ws : List Nat), k ≤ s.size ∧ t = .string tt ∧ Rest s tt k ∧ Below w.heap.size w wr ∧ w.heap.size < wr.heap.size ∧ Rs w.heap.size wr ∧ Sl wr v ws ∧ Nrm ws ∧ Hid (val ws = dec s k)) (fun t _ _ => strLen t)
  case atStart => exact ⟨0, s, [], Nat.zero_le _, rfl, ⟨rfl, fun j _ => by rw [Nat.zero_add]⟩, bl1 _ _, by simp, rs_new _ rfl, ⟨Wds.nil, by simp, .inl ⟨rfl, rfl⟩⟩, by simp [Nrm], rfl⟩
  case round =>
    obtain ⟨k, t, ws, hk, rfl, hR, hbel, hlt0, hrs, hsl, hnrm, HV⟩ := hrel
    obtain ⟨p, cap, rfl, _, _⟩ := hsl.opened
    have hts : t.size ≤ 1000 := by have := hR.1; omega
    by_cases hlt : 0 < t.size
    · obtain ⟨n, hn⟩ : ∃ n : Nat, n = (t.size - 1) % 19 + 1 := ⟨_, rfl⟩
      have hn1 : n ≤ 19 := by omega
      have hn2 : n ≤ t.size := by have := Nat.mod_le (t.size - 1) 19; omega
      have e0 : ((t.size : Int) - 1) % 19 + 1 = (n : Int) := by omega
      have HN := Lib.hid hn
      have HSL := Lib.hid hsl
      obtain ⟨c, W, hconv, hb1, hsz, hcell⟩ := bytes_conv (t.extract 0 n) wr
      have hes := extract_size t 0 n hn2
      rw [Nat.sub_zero] at hes
      rw [hes] at hconv hcell
      have hdt : ∀ j, j < t.size → 48 ≤ byteAt t j ∧ byteAt t j ≤ 57 := fun j hj => by
        rw [hR.2 j hj]; exact HDg.out _ (by have := hR.1; omega)
      have HDT := Lib.hid hdt
      have HC := Lib.hid hcell
      clear hn hsl hcell hdt hes
      go_wp2
      clear hconv
      go_loop [5, 6, 22] (fun g u i => ∃ j gg uu : Nat, j ≤ n ∧ i = .int .i64 j ∧ g = .int .u64 gg ∧ u = .int .u64 uu ∧ Hid (gg = dec t j) ∧ Hid (uu = 10 ^ j)) (fun _ _ i => n - (intOf i).toNat)
      case atStart => exact ⟨0, 0, 1, Nat.zero_le _, rfl, rfl, rfl, rfl, rfl⟩
      case round =>
        obtain ⟨j, gg, uu, hj, rfl, rfl, rfl, HG, HU⟩ := hrel
        by_cases hjn : j < n
        · have hc := HC.out j hjn
          rw [byteAt_extract t 0 n j hn2 (by omega), Nat.zero_add] at hc
          have hx := HDT.out j (by omega)
          generalize hxx : byteAt t j = x at hc hx
          have HX := Lib.hid hxx
          have hx1 : (48 : Int) ≤ (x : Int) := by omega
          have hx2 : (x : Int) ≤ 57 := by omega
          have hg1 : gg < 10 ^ j := by rw [HG.out]; exact dec_lt t j (fun i hi => HDT.out i (by omega))
          have hp := pow10_wd (j + 1) (by omega)
          rw [Nat.pow_succ] at hp
          obtain ⟨g10, hg10⟩ : ∃ g10 : Nat, g10 = 10 * gg + (x - 48) := ⟨_, rfl⟩
          obtain ⟨u10, hu10⟩ : ∃ u10 : Nat, u10 = 10 ^ (j + 1) := ⟨_, rfl⟩
          have hgb : gg ≤ 1000000000000000000 := by omega
          have hub : uu ≤ 1000000000000000000 := by rw [HU.out]; omega
          have HGB := Lib.hid hgb; have HUB := Lib.hid hub
          have HG10 := Lib.hid hg10; have HU10 := Lib.hid hu10
          clear hxx hx hg1 hp hg10 hu10 hgb hub
          go_wp2
          go_round
          case rel => exact ⟨j + 1, g10, u10, by omega, by go_num, by rw [dig_wrap gg x HGB.out (by omega) (by omega), HG10.out], by rw [ten_wrap uu HUB.out, HU10.out, HU.out, Nat.pow_succ, Nat.mul_comm], by show _ = _; rw [HG10.out, HG.out, ← HX.out]; rfl, HU10.out⟩
          case measure => simp [intOf]; omega
        · obtain rfl : j = n := by omega
          have wg : Wd gg := by
            have h1 : gg < 10 ^ j := by rw [HG.out]; exact dec_lt t j (fun i hi => HDT.out i (by omega))
            have h2 := pow10_wd j hn1
            unfold Wd WB; omega
          have wu : Wd uu := by
            have h2 := pow10_wd j hn1
            rw [← HU.out] at h2
            unfold Wd WB; omega
          have hlen : ws.length ≤ 4000 := by
            have := dec_len hnrm HV.out (fun i hi => HDg.out i (by omega))
            omega
          have hslW := HSL.out.keep hb1 (Nat.le_refl _)
          have HSW := Lib.hid hslW
          have HLEN := Lib.hid hlen
          clear hslW hlen hjn
          go_wp2_with fail
          refine (extend_any _ ws uu gg W HSW.out HLEN.out wu wg).mono ?_
          rintro e w2 ⟨l, hl1, hl2, hb2, v2, rfl, hs2⟩
          have k1 := Below.thru hbel hbel.size hb1
          have k2 := Below.thru k1 k1.size hb2
          have r2 := (hrs.keep hb1 hlt0).keep hb2 (Nat.lt_of_lt_of_le hlt0 hb1.size)
          have z2 : w.heap.size < w2.heap.size := Nat.lt_of_lt_of_le hlt0 (Nat.le_trans hb1.size hb2.size)
          have HL2 := Lib.hid hl2
          clear hl2
          have hR2 := hR.next hn2
          have hk2 : k + j ≤ s.size := by have := hR.1; omega
          go_wp2
          go_roundw
          case rel => exact ⟨k + j, t.extract j t.size, norm l, hk2, rfl, hR2, k2, z2, r2, hs2, norm_nrm _, by show _ = _; rw [val_norm, HL2.out, HU.out, HG.out, HV.out, dec_add s t k hR j hn2]⟩
          case measure =>
            simp only [strLen]
            rw [extract_size t j t.size (Nat.le_refl _)]
            have := HN.out
            omega
    · have h0 : t.size = 0 := by omega
      obtain rfl : k = s.size := by have := hR.1; omega
      have HSL := Lib.hid hsl
      have H0 := Lib.hid h0
      clear hsl h0
      go_wp2_with fail
      refine (digitsOf_any _ ws wr HSL.out hnrm).mono ?_
      rintro e w2 ⟨hb2, v2, rfl, hs2⟩
      obtain ⟨x4, p4, rfl⟩ := hs2.agg
      have r2 := hrs.keep hb2 hlt0
      obtain ⟨_, _, m1, m2, m3, m4⟩ := r2.cells
      obtain ⟨n1, n2⟩ := two_cells m1 m2 (.int .u64 x4) (.pointer p4)
      have k2 := Below.thru hbel hbel.size hb2
      go_wp2
      exact bodyPost_ret (v := .agg #[.int .u64 x4, .pointer p4]) (by simp [results, Try.results68, go_sem, n1, n2]) rfl ⟨(k2.setCell (by simp) _).setCell (by simp) _, _, rfl, (hs2.store r2.odd (grown2 _ _ _ _ _ _)).cast HV.out⟩
end Go.Proofs.Ytjjomjjgoceklaa

import Derived.Test.YtjjomjjgoceklaaGreatKbh
import Derived.Deep.CutBlock
namespace Go.Proofs.YtjjomjjgoceklaaGreat
set_option maxRecDepth 100000
open Go.RowKit

def NewZ (W : World) (z : Int) (v : Value) (w : World) : Prop := ∃ T, v = .pointer (some ⟨T, 0, none⟩) ∧ W.heap.size ≤ T ∧ Hz T z w ∧ Below W.heap.size W w
def NewR (W : World) (z : Int) (v : Value) (w : World) : Prop := ∃ T, v = .pointer (some ⟨T, 0, none⟩) ∧ W.heap.size ≤ T ∧ Hr T z w ∧ Below W.heap.size W w
def kp (b i : Nat) : Kd := .v (.pointer (some ⟨b, i, none⟩))
def ki (n : Int) : Kd := .v (.int .i64 n)
/-- the box of a Big -/
def Xb (T : Nat) (A B C P : Int) (w : World) : Prop := w.heap[T]? = some (.cells #[.int .i64 A, .int .i64 B, .int .i64 C, .int .u8 P] 50 (0, 0))
theorem Xb.cells {T : Nat} {A B C P : Int} {w : World} (h' : Xb T A B C P w) : w.cell? ⟨T, 0, none⟩ = some (.int .i64 A) ∧ w.cell? ⟨T, 1, none⟩ = some (.int .i64 B) ∧ w.cell? ⟨T, 2, none⟩ = some (.int .i64 C) ∧ w.cell? ⟨T, 3, none⟩ = some (.int .u8 P) := by
  have h' : w.heap[T]? = _ := h'
  refine ⟨?_, ?_, ?_, ?_⟩ <;> simp [World.cell?, h']
theorem Xb.keep {T : Nat} {A B C P : Int} {w w' : World} (h : Xb T A B C P w) (hb : Below w.heap.size w w') : Xb T A B C P w' := blk_keep h hb
theorem Xb.c {T : Nat} {A B C P : Int} {w w' : World} (h : Xb T A B C P w) (hb : Below w.heap.size w w') : w'.cell? ⟨T, 0, none⟩ = some (.int .i64 A) ∧ w'.cell? ⟨T, 1, none⟩ = some (.int .i64 B) ∧ w'.cell? ⟨T, 2, none⟩ = some (.int .i64 C) ∧ w'.cell? ⟨T, 3, none⟩ = some (.int .u8 P) := (h.keep hb).cells
theorem blk_al {w : World} {T : Nat} {x : Obj} (h : w.heap[T]? = some x) (o : Obj) : (w.alloc o).heap[T]? = some x := blk_keep h (bl1 w o)
def tab1 (T W : Nat) (A B C : Int) (d : Nat) : Kd := [kbz W, .any, .any, .any, .any, kp T 0, ki A, .z A, kp T 1, ki B, .z B, .z (A * B), kp T 2, ki C, .z C, .z (A * B + C)].getD (d - 4) .any
def D1 (t : Nat) : Bool := Nat.beq t 4 || (Nat.ble 9 t && Nat.ble t 19)
def tab2 (T W : Nat) (A B C : Int) (d : Nat) : Kd := if d = 5 then kbr W else [kp T 0, ki A, .r A, kp T 1, ki B, .r B, .r (A * B), kp T 2, ki C, .r C, .r (A * B + C)].getD (d - 20) .any
def D2 (t : Nat) : Bool := Nat.beq t 5 || (Nat.ble 20 t && Nat.ble t 30)
/-- the boxes of BothZ -/
structure PS (w0 : World) (A B C P z zp zq : Int) (TA TB Tp Tq : Nat) (w : World) : Prop where
  k : Below w0.heap.size w0 w
  x : Xb w0.heap.size A B C P w
  r : Rz (w0.heap.size + 1) w
  b : Bz (w0.heap.size + 1 + 1) 0 none 0 0 w
  ha : Hz TA z w
  hb : Hr TB z w
  hp : Hz Tp zp w
  hq : Hr Tq zq w
theorem PS.keep {w0 : World} {A B C P z zp zq : Int} {TA TB Tp Tq : Nat} {w w' : World} (h : PS w0 A B C P z zp zq TA TB Tp Tq w) (hb : Below w.heap.size w w') : PS w0 A B C P z zp zq TA TB Tp Tq w' :=
  ⟨Below.thru h.k h.k.size hb, h.x.keep hb, h.r.keep hb h.r.lt, blk_keep h.b hb, h.ha.keep hb, h.hb.keep hb, h.hp.keep hb, h.hq.keep hb⟩
theorem PS.setP {w0 : World} {A B C P z zp zq : Int} {TA TB Tp Tq : Nat} {w : World} (h : PS w0 A B C P z zp zq TA TB Tp Tq w) (h1 : w0.heap.size + 3 ≤ Tp) (h2 : TA ≠ Tp) (h3 : TB ≠ Tp) (h4 : Tq ≠ Tp) {n : Int} {s : Bool} {y : Int} {p : Option Addr} (hn : Zr w (.agg #[.bool s, .int .u64 y, .pointer p]) n) :
    PS w0 A B C P z n zq TA TB Tp Tq (st3 w Tp (.bool s) (.int .u64 y) (.pointer p)) := by
  have hg : w.grownBy (st3 w Tp (.bool s) (.int .u64 y) (.pointer p)) (some Tp) := grown3 _ _ _ _ _ _ _ _
  have hz := h.hp.rz
  exact ⟨below3 h.k (by omega) _ _ _, blk_other h.x hg (by omega), h.r.other hg (by omega), blk_other h.b hg (by omega), h.ha.st hz.odd hg h2, h.hb.st hz.noI hg h3, Hz.stored hz hn, h.hq.st hz.noI hg h4⟩
theorem PS.setQ {w0 : World} {A B C P z zp zq : Int} {TA TB Tp Tq : Nat} {w : World} (h : PS w0 A B C P z zp zq TA TB Tp Tq w) (h1 : w0.heap.size + 3 ≤ Tq) (h2 : TA ≠ Tq) (h3 : TB ≠ Tq) (h4 : Tp ≠ Tq) {n : Int} {s : Int} {p : Option Addr} {l c : Nat} (hn : RZ w (.agg #[.int .i64 s, .slice p l c]) n) :
    PS w0 A B C P z zp n TA TB Tp Tq (st2 w Tq (.int .i64 s) (.slice p l c)) := by
  have hg : w.grownBy (st2 w Tq (.int .i64 s) (.slice p l c)) (some Tq) := grown2 _ _ _ _ _ _
  obtain ⟨s0, p0, l0, c0, hz⟩ := h.hq.bz
  exact ⟨below2 h.k (by omega) _ _, blk_other h.x hg (by omega), h.r.other hg (by omega), blk_other h.b hg (by omega), h.ha.st hz.odd hg h2, h.hb.st hz.noI hg h3, h.hp.st hz.odd hg h4, Hr.stored hz hn⟩
theorem b3_blk {T : Nat} {s : Bool} {x : Int} {p : Option Addr} {w : World} (h : w.heap[T]? = some (.cells #[.bool s, .int .u64 x, .pointer p] 28 (0, 0))) : B3 T s x p w := by
  refine ⟨?_, ?_, ?_⟩ <;> simp [World.cell?, h]
theorem Wk.pow {k : Nat} {z : Int} (h : Wk k z) : ∀ n, Wk (k * (n + 1)) (z ^ (n + 1))
  | 0 => by rw [show z ^ (0 + 1) = z by rw [Int.pow_succ]; simp, Nat.zero_add, Nat.mul_one]; exact h
  | n + 1 => by rw [Int.pow_succ, Nat.mul_add, Nat.mul_one]; exact (Wk.pow h n).mul h
/-- the result's boxes -/
structure E8 (w0 : World) (z : Int) (Tp Tq : Nat) (w : World) : Prop where
  k : Below w0.heap.size w0 w
  hp : Hz Tp z w
  hq : Hr Tq z w
  r : Rz (w0.heap.size + 1) w
  b : ∃ s p l c, Bz (w0.heap.size + 1 + 1) s p l c w
theorem E8.keep {w0 : World} {z : Int} {Tp Tq : Nat} {w w' : World} (h : E8 w0 z Tp Tq w) (hb : Below w.heap.size w w') : E8 w0 z Tp Tq w' := by
  obtain ⟨s, p, l, c, h5⟩ := h.b
  exact ⟨Below.thru h.k h.k.size hb, h.hp.keep hb, h.hq.keep hb, h.r.keep hb h.r.lt, s, p, l, c, blk_keep h5 hb⟩
def tab8 (z : Int) (d : Nat) : Kd := [.z z, .r z].getD (d - 46) .any
def D8 (t : Nat) : Bool := Nat.ble 46 t && Nat.ble t 47
theorem tab8_st {z : Int} {U : Nat} {w w' : World} (hU : Odd U w) (hN : NoI w U) (hg : w.grownBy w' (some U)) (d : Nat) (v : Value) (h : kd (tab8 z d) v w) : kd (tab8 z d) v w' := by
  unfold tab8 at h ⊢
  match hd : d - 46 with
  | 0 => rw [hd] at h; exact Zr.store h hU hg
  | 1 => rw [hd] at h; exact RZ.store h hN hg
  | n + 2 => exact trivial
def PBz (z : Int) (w : World) (e : Ending) (w' : World) : Prop := Below w.heap.size w w' ∧ ∃ u v, e = .returned (.tuple #[u, v]) ∧ Zr w' u z ∧ RZ w' v z
def tab7 (z zk : Int) (d : Nat) : Kd := [.z zk, .z z, .z (zk * z), .r zk, .r z, .r (zk * z)].getD (d - 40) .any
def D7 (t : Nat) : Bool := Nat.ble 40 t && Nat.ble t 45

set_option maxRecDepth 100000 in
set_option maxHeartbeats 1600000 in
theorem bothz_r (A B C P z : Int) (r : Nat) (w : World) (hA : I64 A) (hB : I64 B) (hC : I64 C) (hP0 : 0 ≤ P) (hP1 : P ≤ 255) (hr4 : r < 4) (hr : P % 4 = (r : Int)) (hz : A * B + C = z) :
    Calls Tryz.prog 21 #[.agg #[.int .i64 A, .int .i64 B, .int .i64 C, .int .u8 P]] w (PBz (z ^ (r + 1)) w) := by
  have WA := Wk.i64 hA; have WB' := Wk.i64 hB; have WC := Wk.i64 hC
  have WAB := WA.mul WB'
  have WZ : Wk 3 (A * B + C) := WAB.add (WC.mono (by decide))
  have hA := Lib.hid hA; have hB := Lib.hid hB; have hC := Lib.hid hC
  have HRR := Lib.hid hr; have HZE := Lib.hid hz
  clear hr hz
  go_enter Tryz.func21, Tryz.ntmps21
  go_upto_region 1 with fail
  generalize hW : World.alloc _ (Obj.cells #[Value.int .i64 0, Value.slice none 0 0] 41) = W
  have X0 : Xb w.heap.size A B C P W := by rw [← hW]; exact blk_al (blk_al (Go.Deep.blk_alloc_new _ _) _) _
  have R0 : Rz (w.heap.size + 1) W := by rw [← hW]; exact Rz.alloc (rz_new _ (by simp)) _
  have B0 : Bz (w.heap.size + 1 + 1) 0 none 0 0 W := by rw [← hW]; exact bz_new _ _ _ _ _ (by simp)
  have k0 : Below w.heap.size w W := by rw [← hW]; exact bl3 _ _ _ _
  have z0 : w.heap.size + 3 ≤ W.heap.size := by rw [← hW]; simp
  clear hW
  have X0 := Lib.hid X0
  go_cut [4] (fun v wc => NewZ W (A * B + C) v wc)
  case first =>
    rename_i J K' hJ hK
    refine wp_region_two D1 (tab1 w.heap.size W.heap.size A B C) (fun w' => Below W.heap.size W w') 12 (fun _ f w' => NewZ W (A * B + C) (f 4) w') (by kernel_rfl) (by kernel_rfl) (by kernel_rfl) (by kernel_rfl) (by decide) (by kernel_rfl) (fun _ _ h hb => Below.thru h h.size hb) (Below.refl _ _).drew ?_ ?_ ?_
    · refine .cons (fun f w' hI hs => ⟨wanted_none rfl, _, rfl, .val (rn_field23_0 rfl (fr_old rfl rfl)) ⟨Below.refl _ _, rfl⟩⟩) ?_
      refine .cons (fun f w' hI hs => ⟨wanted_none rfl, _, rfl, .val (rn_loadI rfl ((fr_own rfl rfl).trans (hs 9 (by kernel_rfl))) (X0.out.c hI).1) ⟨Below.refl _ _, rfl⟩⟩) ?_
      refine .cons (fun f w' hI hs => ⟨wanted_none rfl, _, rfl, .call1 rfl cf78 rfl rfl (by rw [show f 10 = _ from (hs 10 (by kernel_rfl))]; exact PZ.kd (int_any A _ hA.out))⟩) ?_
      refine .cons (fun f w' hI hs => ⟨wanted_none rfl, _, rfl, .val (rn_field23_1 rfl (fr_old rfl rfl)) ⟨Below.refl _ _, rfl⟩⟩) ?_
      refine .cons (fun f w' hI hs => ⟨wanted_none rfl, _, rfl, .val (rn_loadI rfl ((fr_own rfl rfl).trans (hs 12 (by kernel_rfl))) (X0.out.c hI).2.1) ⟨Below.refl _ _, rfl⟩⟩) ?_
      refine .cons (fun f w' hI hs => ⟨wanted_none rfl, _, rfl, .call1 rfl cf78 rfl rfl (by rw [show f 13 = _ from (hs 13 (by kernel_rfl))]; exact PZ.kd (int_any B _ hB.out))⟩) ?_
      refine .cons (fun f w' hI hs => ⟨wanted_none rfl, _, rfl, .call2 rfl cf96 rfl rfl rfl rfl (PZ.kd (zmul_any _ _ A B _ (hs 11 (by kernel_rfl)) (hs 14 (by kernel_rfl)) (Wk.sz WA (by decide)) (Wk.sz WB' (by decide))))⟩) ?_
      refine .cons (fun f w' hI hs => ⟨wanted_none rfl, _, rfl, .val (rn_field23_2 rfl (fr_old rfl rfl)) ⟨Below.refl _ _, rfl⟩⟩) ?_
      refine .cons (fun f w' hI hs => ⟨wanted_none rfl, _, rfl, .val (rn_loadI rfl ((fr_own rfl rfl).trans (hs 16 (by kernel_rfl))) (X0.out.c hI).2.2.1) ⟨Below.refl _ _, rfl⟩⟩) ?_
      refine .cons (fun f w' hI hs => ⟨wanted_none rfl, _, rfl, .call1 rfl cf78 rfl rfl (by rw [show f 17 = _ from (hs 17 (by kernel_rfl))]; exact PZ.kd (int_any C _ hC.out))⟩) ?_
      refine .cons (fun f w' hI hs => ⟨wanted_none rfl, _, rfl, .call2 rfl cf97 rfl rfl rfl rfl (PZ.kd (zadd_any _ _ (A * B) C _ (hs 15 (by kernel_rfl)) (hs 18 (by kernel_rfl)) (Wk.sz (Wk.mul WA WB') (by decide)) (Wk.sz WC (by decide))))⟩) ?_
      refine .cons (fun f w' hI hs => ⟨wanted_none rfl, _, rfl, .val (rn_alloc29 rfl) ⟨bl1 _ _, _, rfl, hI.size, rz_new _ rfl⟩⟩) ?_
      exact .nil
    · refine .cons (fun f w' h => ⟨wanted_none rfl, ?_⟩) .nil
      obtain ⟨hI, hs⟩ := (if_pos rfl) ▸ h
      obtain ⟨T, hT, hTW, hTz⟩ : ∃ T, f 4 = .pointer (some ⟨T, 0, none⟩) ∧ W.heap.size ≤ T ∧ Rz T w' := hs 4 (by kernel_rfl)
      have h19 : Zr w' (f 19) (A * B + C) := hs 19 (by kernel_rfl)
      obtain ⟨s, x, p, _, e19, _⟩ := id h19
      rw [e19] at h19
      exact .skip (rn_store29 rfl ((fr_own rfl rfl).trans hT) ((fr_own rfl rfl).trans e19) hTz) ⟨T, hT, hTW, Hz.stored hTz h19, below3 hI hTW _ _ _⟩
    · intro f w' h
      refine hK _ _ (Met.intro (hJ _ _ ?_))
      (repeat apply Exists.intro)
      refine ⟨?_, rfl⟩
      exact h
  case rest =>
    obtain ⟨TA, rfl, hTA, HA1, kA⟩ := hcut
    have X1 := Lib.hid (X0.out.keep kA)
    have R1 := R0.keep kA R0.lt
    have B1 : Bz (w.heap.size + 1 + 1) 0 none 0 0 wc := blk_keep B0 kA
    have k1 := Below.thru k0 k0.size kA
    have z1 := kA.size
    have lTA : TA < wc.heap.size := HA1.rz.lt
    clear X0 R0 B0 k0 kA
    go_upto_region 2 with fail
    generalize wc = w1 at *
    go_cut [5] (fun v w2 => NewR w1 (A * B + C) v w2)
    case first =>
      rename_i J K' hJ hK
      refine wp_region_two D2 (tab2 w.heap.size w1.heap.size A B C) (fun w' => Below w1.heap.size w1 w') 12 (fun _ f w' => NewR w1 (A * B + C) (f 5) w') (by kernel_rfl) (by kernel_rfl) (by kernel_rfl) (by kernel_rfl) (by decide) (by kernel_rfl) (fun _ _ h hb => Below.thru h h.size hb) (Below.refl _ _).drew ?_ ?_ ?_
      · refine .cons (fun f w' hI hs => ⟨wanted_none rfl, _, rfl, .val (rn_field23_0 rfl (fr_old rfl rfl)) ⟨Below.refl _ _, rfl⟩⟩) ?_
        refine .cons (fun f w' hI hs => ⟨wanted_none rfl, _, rfl, .val (rn_loadI rfl ((fr_own rfl rfl).trans (hs 20 (by kernel_rfl))) (X1.out.c hI).1) ⟨Below.refl _ _, rfl⟩⟩) ?_
        refine .cons (fun f w' hI hs => ⟨wanted_none rfl, _, rfl, .call1 rfl cf100 rfl rfl (by rw [show f 21 = _ from (hs 21 (by kernel_rfl))]; exact PRZ.kd (zint_any A _ hA.out))⟩) ?_
        refine .cons (fun f w' hI hs => ⟨wanted_none rfl, _, rfl, .val (rn_field23_1 rfl (fr_old rfl rfl)) ⟨Below.refl _ _, rfl⟩⟩) ?_
        refine .cons (fun f w' hI hs => ⟨wanted_none rfl, _, rfl, .val (rn_loadI rfl ((fr_own rfl rfl).trans (hs 23 (by kernel_rfl))) (X1.out.c hI).2.1) ⟨Below.refl _ _, rfl⟩⟩) ?_
        refine .cons (fun f w' hI hs => ⟨wanted_none rfl, _, rfl, .call1 rfl cf100 rfl rfl (by rw [show f 24 = _ from (hs 24 (by kernel_rfl))]; exact PRZ.kd (zint_any B _ hB.out))⟩) ?_
        refine .cons (fun f w' hI hs => ⟨wanted_none rfl, _, rfl, .call2 rfl cf99 rfl rfl rfl rfl (PRZ.kd (zmulr_any _ _ A B _ (hs 22 (by kernel_rfl)) (hs 25 (by kernel_rfl)) (Wk.sr WA (by decide)) (Wk.sr WB' (by decide))))⟩) ?_
        refine .cons (fun f w' hI hs => ⟨wanted_none rfl, _, rfl, .val (rn_field23_2 rfl (fr_old rfl rfl)) ⟨Below.refl _ _, rfl⟩⟩) ?_
        refine .cons (fun f w' hI hs => ⟨wanted_none rfl, _, rfl, .val (rn_loadI rfl ((fr_own rfl rfl).trans (hs 27 (by kernel_rfl))) (X1.out.c hI).2.2.1) ⟨Below.refl _ _, rfl⟩⟩) ?_
        refine .cons (fun f w' hI hs => ⟨wanted_none rfl, _, rfl, .call1 rfl cf100 rfl rfl (by rw [show f 28 = _ from (hs 28 (by kernel_rfl))]; exact PRZ.kd (zint_any C _ hC.out))⟩) ?_
        refine .cons (fun f w' hI hs => ⟨wanted_none rfl, _, rfl, .call2 rfl cf98 rfl rfl rfl rfl (PRZ.kd (zaddr_any _ _ (A * B) C _ (hs 26 (by kernel_rfl)) (hs 29 (by kernel_rfl)) (Wk.sr (Wk.mul WA WB') (by decide)) (Wk.sr WC (by decide))))⟩) ?_
        refine .cons (fun f w' hI hs => ⟨wanted_none rfl, _, rfl, .val (rn_alloc32 rfl) ⟨bl1 _ _, _, _, _, _, _, rfl, hI.size, bz_new _ _ _ _ _ rfl⟩⟩) ?_
        exact .nil
      · refine .cons (fun f w' h => ⟨wanted_none rfl, ?_⟩) .nil
        obtain ⟨hI, hs⟩ := (if_pos rfl) ▸ h
        obtain ⟨T, s0, p0, l0, c0, hT, hTW, hTz⟩ : ∃ T s p l c, f 5 = .pointer (some ⟨T, 0, none⟩) ∧ w1.heap.size ≤ T ∧ Bz T s p l c w' := hs 5 (by kernel_rfl)
        have h30 : RZ w' (f 30) (A * B + C) := hs 30 (by kernel_rfl)
        obtain ⟨p, l, c, e30⟩ := h30.agg
        rw [e30] at h30
        exact .skip (rn_store32 rfl ((fr_own rfl rfl).trans hT) ((fr_own rfl rfl).trans e30) hTz) ⟨T, hT, hTW, Hr.stored hTz h30, below2 hI hTW _ _⟩
      · intro f w' h
        refine hK _ _ (Met.intro (hJ _ _ ?_))
        (repeat apply Exists.intro)
        refine ⟨?_, rfl⟩
        exact h
    case rest =>
      obtain ⟨TB, rfl, hTB, HB1, kB⟩ := hcut
      have X2 := Lib.hid (X1.out.keep kB)
      have R2 := R1.keep kB R1.lt
      have B2 : Bz (w.heap.size + 1 + 1) 0 none 0 0 wc := blk_keep B1 kB
      have HA2 := HA1.keep kB
      have k2 := Below.thru k1 k1.size kB
      have z2 := kB.size
      clear X1 R1 B1 HA1 k1 kB
      generalize wc = w2 at *
      go_wp2
      go_cut [6, 7] (fun v6 v7 w3 => ∃ Tp Tq, v6 = .pointer (some ⟨Tp, 0, none⟩) ∧ v7 = .pointer (some ⟨Tq, 0, none⟩) ∧ w2.heap.size ≤ Tp ∧ w2.heap.size ≤ Tq ∧ Tp ≠ Tq ∧ Hz Tp (A * B + C) w3 ∧ Hr Tq (A * B + C) w3 ∧ Below w2.heap.size w2 w3)
      case first =>
        obtain ⟨sa, xa, pa, ha, hza⟩ := HA2
        obtain ⟨sb, pb, lb, cb, hb, hzb⟩ := HB1
        obtain ⟨d1, d2, _, _⟩ := hb.cells
        have ltA := blk_lt ha
        have ltB := blk_lt hb
        have key : ∀ W', Below w2.heap.size w2 W' → W'.cell? ⟨TA, 0, none⟩ = some (.bool sa) ∧ W'.cell? ⟨TA, 1, none⟩ = some (.int .u64 xa) ∧ W'.cell? ⟨TA, 2, none⟩ = some (.pointer pa) ∧ W'.cell? ⟨TB, 0, none⟩ = some (.int .i64 sb) ∧ W'.cell? ⟨TB, 1, none⟩ = some (.slice pb lb cb) := by
          intro W' hb'
          have ha' := blk_keep ha hb'
          have hb'' := blk_keep hb hb'
          refine ⟨?_, ?_, ?_, ?_, ?_⟩ <;> simp [World.cell?, ha', hb'']
        have KEY := Lib.hid key
        clear key
        go_region_held3 (fun w' => w'.cell? ⟨TA, 0, none⟩ = some (.bool sa) ∧ w'.cell? ⟨TA, 1, none⟩ = some (.int .u64 xa) ∧ w'.cell? ⟨TA, 2, none⟩ = some (.pointer pa) ∧ w'.cell? ⟨TB, 0, none⟩ = some (.int .i64 sb) ∧ w'.cell? ⟨TB, 1, none⟩ = some (.slice pb lb cb)) ((refine KEY.out _ ?_; repeat (first | exact Below.refl _ _ | refine Below.drew ?_ | refine Below.alloc ?_ (by simp) _ | refine Below.setCell ?_ (by simp) _))) (fail)
        · go_wp2_with fail
          go_meet
          case rel =>
            have n1 := (Hz.new hza).keep (bl1 _ (.cells #[.int .i64 sb, .slice pb lb cb] 41))
            have n2 := Hr.new (hzb.keep (bl1 w2 (.cells #[.bool sa, .int .u64 xa, .pointer pa] 28)) (Nat.le_refl _))
            rw [World.size_alloc] at n2
            exact ⟨_, _, rfl, rfl, Nat.le_refl _, by omega, by omega, n1.keep (Below.refl _ _).drew, n2.keep (Below.refl _ _).drew, (bl2 _ _ _).drew⟩
        · go_wp2_with fail
          go_meet
          case rel =>
            have n1 := (Hr.new hzb).keep (bl1 _ (.cells #[.bool sa, .int .u64 xa, .pointer pa] 28))
            have n2 := Hz.new (hza.keep (bl1 w2 (.cells #[.int .i64 sb, .slice pb lb cb] 41)) (Nat.le_refl _))
            rw [World.size_alloc] at n2
            exact ⟨_, _, rfl, rfl, by omega, Nat.le_refl _, by omega, n2.keep (Below.refl _ _).drew, n1.keep (Below.refl _ _).drew, (bl2 _ _ _).drew⟩
      case rest =>
        obtain ⟨Tp, Tq, rfl, rfl, hTp, hTq, hpq, hp, hq, kP⟩ := hcut
        have PS0 : PS w A B C P (A * B + C) (A * B + C) (A * B + C) TA TB Tp Tq wc := ⟨Below.thru k2 k2.size kP, X2.out.keep kP, R2.keep kP R2.lt, blk_keep B2 kP, HA2.keep kP, HB1.keep kP, hp, hq⟩
        have n1 : w.heap.size + 3 ≤ TA := by omega
        have n2 : TA < w2.heap.size := HA2.rz.lt
        have n3 : TB < w2.heap.size := by obtain ⟨_, _, _, _, h, _⟩ := HB1; exact blk_lt h
        have hP4 := HRR.out
        rw [HZE.out] at PS0 WZ
        have PS0 := Lib.hid PS0
        clear R2 B2 HA2 HB1 k2 hp hq kP X2
        have WZ := Lib.hid WZ
        clear WAB WA WB' WC
        go_wp2
        go_loopw [8] (fun i wr => ∃ k : Nat, k ≤ r ∧ i = .int .u8 k ∧ PS w A B C P z (z ^ (k + 1)) (z ^ (k + 1)) TA TB Tp Tq wr) (fun i _ => r - (intOf i).toNat)
        case atStart => exact ⟨0, Nat.zero_le _, rfl, by rw [show z ^ (0 + 1) = z by rw [Int.pow_succ]; simp]; exact PS0.out⟩
        case round =>
          obtain ⟨k, hk, rfl, S⟩ := hrel
          obtain ⟨_, _, _, x4⟩ := S.x.cells
          by_cases hlt : k < r
          · have hlt' : (k : Int) < (r : Int) := by omega
            have hb1 : (k : Int) + 1 ≤ 255 := by omega
            have S := Lib.hid S
            go_upto_block 1 with fail
            go_cut [] (fun w2 => PS w A B C P z (z ^ (k + 1 + 1)) (z ^ (k + 1 + 1)) TA TB Tp Tq w2)
            case first =>
              rename_i J K' hJ hK
              go_wp2_with fail
              have W1 : Wk (3 * (k + 1)) (z ^ (k + 1)) := Wk.pow WZ.out k
              refine wp_region_two D7 (tab7 z (z ^ (k + 1))) (fun w' => PS w A B C P z (z ^ (k + 1)) (z ^ (k + 1)) TA TB Tp Tq w') 6 (fun i f w' => if i = 7 then PS w A B C P z (z ^ (k + 1 + 1)) (z ^ (k + 1)) TA TB Tp Tq w' ∧ RZ w' (f 45) (z ^ (k + 1 + 1)) else PS w A B C P z (z ^ (k + 1 + 1)) (z ^ (k + 1 + 1)) TA TB Tp Tq w') (by kernel_rfl) (by kernel_rfl) (by kernel_rfl) (by kernel_rfl) (by decide) (by kernel_rfl) (fun _ _ h hb => h.keep hb) (S.out.keep (Below.refl _ _).drew) ?_ ?_ ?_
              · refine .cons (fun f w' hI hs => ?_) ?_
                · obtain ⟨s, x, p, h1, h2⟩ := hI.hp
                  exact ⟨wanted_none rfl, _, rfl, .val (rn_load29 rfl (fr_old rfl rfl) (b3_blk h1)) ⟨Below.refl _ _, h2⟩⟩
                refine .cons (fun f w' hI hs => ?_) ?_
                · obtain ⟨s, x, p, h1, h2⟩ := hI.ha
                  exact ⟨wanted_none rfl, _, rfl, .val (rn_load29 rfl (fr_old rfl rfl) (b3_blk h1)) ⟨Below.refl _ _, h2⟩⟩
                refine .cons (fun f w' hI hs => ⟨wanted_none rfl, _, rfl, .call2 rfl cf96 rfl rfl rfl rfl (PZ.kd (zmul_any _ _ (z ^ (k + 1)) z _ (hs 40 (by kernel_rfl)) (hs 41 (by kernel_rfl)) (W1.sz (by omega)) (WZ.out.sz (by decide))))⟩) ?_
                refine .cons (fun f w' hI hs => ?_) ?_
                · obtain ⟨s, p, l, c, h1, h2⟩ := hI.hq
                  exact ⟨wanted_none rfl, _, rfl, .val (rn_load32 rfl (fr_old rfl rfl) h1) ⟨Below.refl _ _, h2⟩⟩
                refine .cons (fun f w' hI hs => ?_) ?_
                · obtain ⟨s, p, l, c, h1, h2⟩ := hI.hb
                  exact ⟨wanted_none rfl, _, rfl, .val (rn_load32 rfl (fr_old rfl rfl) h1) ⟨Below.refl _ _, h2⟩⟩
                refine .cons (fun f w' hI hs => ⟨wanted_none rfl, _, rfl, .call2 rfl cf99 rfl rfl rfl rfl (PRZ.kd (zmulr_any _ _ (z ^ (k + 1)) z _ (hs 43 (by kernel_rfl)) (hs 44 (by kernel_rfl)) (W1.sr (by omega)) (WZ.out.sr (by decide))))⟩) ?_
                exact .nil
              · refine .cons (fun f w' h => ⟨wanted_none rfl, ?_⟩) ?_
                · obtain ⟨hI, hs⟩ := (if_pos rfl) ▸ h
                  have h42 : Zr w' (f 42) (z ^ (k + 1) * z) := hs 42 (by kernel_rfl)
                  have h45 : RZ w' (f 45) (z ^ (k + 1) * z) := hs 45 (by kernel_rfl)
                  rw [← Int.pow_succ] at h42 h45
                  obtain ⟨s, x, p, _, e, _⟩ := id h42
                  rw [e] at h42
                  have hg : w'.grownBy (st3 w' Tp (.bool s) (.int .u64 x) (.pointer p)) (some Tp) := grown3 _ _ _ _ _ _ _ _
                  exact .skip (rn_store29 rfl (fr_old rfl rfl) ((fr_own rfl rfl).trans e) hI.hp.rz) ⟨hI.setP (by omega) (by omega) (by omega) (by omega) h42, h45.store hI.hp.rz.noI hg⟩
                refine .cons (fun f w' h => ⟨wanted_none rfl, ?_⟩) .nil
                obtain ⟨hI, h45⟩ : PS w A B C P z (z ^ (k + 1 + 1)) (z ^ (k + 1)) TA TB Tp Tq w' ∧ RZ w' (f 45) (z ^ (k + 1 + 1)) := h
                obtain ⟨p, l, c, e⟩ := h45.agg
                rw [e] at h45
                obtain ⟨s0, p0, l0, c0, hz⟩ := hI.hq.bz
                exact .skip (rn_store32 rfl (fr_old rfl rfl) ((fr_own rfl rfl).trans e) hz) (hI.setQ (by omega) (by omega) (by omega) (by omega) h45)
              · intro f w' h
                refine hK _ _ (Met.intro (hJ _ _ ?_))
                (repeat apply Exists.intro)
                refine ⟨?_, rfl⟩
                exact h
            case rest =>
              have HC := Lib.hid hcut
              go_wp2
              go_roundw
              case rel => exact ⟨k + 1, by omega, by go_num, HC.out⟩
              case measure => simp [intOf]; omega
          · have hle : (r : Int) ≤ (k : Int) := by omega
            obtain rfl : k = r := by omega
            have S := Lib.hid S
            go_wp2_with fail
            have E0 : E8 w (z ^ (k + 1)) Tp Tq wr := ⟨S.out.k, S.out.hp, S.out.hq, S.out.r, _, _, _, _, S.out.b⟩
            have E0 := Lib.hid E0
            clear S
            go_cut [] (fun wx => Below w.heap.size w wx ∧ Hz (w.heap.size + 1) (z ^ (k + 1)) wx ∧ Hr (w.heap.size + 1 + 1) (z ^ (k + 1)) wx)
            case first =>
              rename_i J K' hJ hK
              refine wp_region_flt D8 (tab8 (z ^ (k + 1))) 2 (fun s w' => E8 w (z ^ (k + 1)) Tp Tq w' ∧ (3 ≤ s → Hz (w.heap.size + 1) (z ^ (k + 1)) w') ∧ (4 ≤ s → Hr (w.heap.size + 1 + 1) (z ^ (k + 1)) w')) (by kernel_rfl) (by kernel_rfl) (by kernel_rfl) (by kernel_rfl) (by decide) (by kernel_rfl) (fun _ _ _ h hb => ⟨h.1.keep hb, fun h3 => (h.2.1 h3).keep hb, fun h3 => (h.2.2 h3).keep hb⟩) ⟨E0.out.keep (Below.refl _ _).drew, fun h => by omega, fun h => by omega⟩ ?_ ?_ ?_
              · refine .cons (fun s f w' hI hs => ?_) ?_
                · obtain ⟨s, x, p, h1, h2⟩ := hI.1.hp
                  exact ⟨wanted_none rfl, _, rfl, .val (rn_load29 rfl (fr_old rfl rfl) (b3_blk h1)) ⟨Below.refl _ _, h2⟩⟩
                refine .cons (fun s f w' hI hs => ?_) .nil
                obtain ⟨s, p, l, c, h1, h2⟩ := hI.1.hq
                exact ⟨wanted_none rfl, _, rfl, .val (rn_load32 rfl (fr_old rfl rfl) h1) ⟨Below.refl _ _, h2⟩⟩
              · refine .cons (fun f w' hI hs => ⟨wanted_none rfl, rfl, ?_⟩) ?_
                · have h46 : Zr w' (f 46) (z ^ (k + 1)) := hs 46 (by kernel_rfl)
                  obtain ⟨s, x, p, _, e, _⟩ := id h46
                  rw [e] at h46
                  have hg : w'.grownBy (st3 w' (w.heap.size + 1) (.bool s) (.int .u64 x) (.pointer p)) (some (w.heap.size + 1)) := grown3 _ _ _ _ _ _ _ _
                  have hz := hI.1.r
                  obtain ⟨s0, p0, l0, c0, hb0⟩ := hI.1.b
                  exact .skip (rn_store29 rfl (fr_old rfl rfl) ((fr_own rfl rfl).trans e) hz) ⟨⟨⟨below3 hI.1.k (by omega) _ _ _, hI.1.hp.st hz.odd hg (by omega), hI.1.hq.st hz.noI hg (by omega), (Hz.stored hz h46).rz, _, _, _, _, blk_other hb0 hg (by omega)⟩, fun _ => Hz.stored hz h46, fun h => by omega⟩, tab8_st hz.odd hz.noI hg⟩
                refine .cons (fun f w' hI hs => ⟨wanted_none rfl, rfl, ?_⟩) .nil
                have h47 : RZ w' (f 47) (z ^ (k + 1)) := hs 47 (by kernel_rfl)
                obtain ⟨p, l, c, e⟩ := h47.agg
                rw [e] at h47
                have hg : w'.grownBy (st2 w' (w.heap.size + 1 + 1) (.int .i64 (z ^ (k + 1)).sign) (.slice p l c)) (some (w.heap.size + 1 + 1)) := grown2 _ _ _ _ _ _
                obtain ⟨s0, p0, l0, c0, hb0⟩ := hI.1.b
                exact .skip (rn_store32 rfl (fr_old rfl rfl) ((fr_own rfl rfl).trans e) hb0) ⟨⟨⟨below2 hI.1.k (by omega) _ _, hI.1.hp.st hb0.odd hg (by omega), hI.1.hq.st hb0.noI hg (by omega), hI.1.r.other hg (by omega), _, _, _, _, hb0.set _ _ _ _⟩, fun _ => (hI.2.1 (by decide)).st hb0.odd hg (by omega), fun _ => Hr.stored hb0 h47⟩, tab8_st hb0.odd hb0.noI hg⟩
              · intro f w' h _
                refine hK _ _ (Met.intro (hJ _ _ ?_))
                (repeat apply Exists.intro)
                refine ⟨?_, rfl⟩
                exact ⟨h.1.k, h.2.1 (by decide), h.2.2 (by decide)⟩
            case rest =>
              obtain ⟨kf, ⟨s1, x1, p1, h1, h2⟩, ⟨s2, p2, l2, c2, h3, h4⟩⟩ := hcut
              obtain ⟨g1, g2, g3⟩ := b3_blk h1
              obtain ⟨g4, g5, _, _⟩ := h3.cells
              have KF := Lib.hid kf
              have V1 := Lib.hid h2
              have V2 := Lib.hid h4
              clear h1 h2 h3 h4 kf E0
              go_wp2
              exact bodyPost_ret (v := .tuple #[.agg #[.bool s1, .int .u64 x1, .pointer p1], .agg #[.int .i64 s2, .slice p2 l2 c2]]) (by simp [results, Tryz.results21, go_sem, g1, g2, g3, g4, g5]) rfl ⟨KF.out, _, _, rfl, V1.out, V2.out⟩
/-- at any Big: one integer, of at most 12 words -/
theorem bothz_all (A B C P : Int) (hA : I64 A) (hB : I64 B) (hC : I64 C) (hP : 0 ≤ P ∧ P ≤ 255) :
    ∃ y, Wk 12 y ∧ ∀ w, Calls Tryz.prog 21 #[.agg #[.int .i64 A, .int .i64 B, .int .i64 C, .int .u8 P]] w (PBz y w) := by
  have WZ : Wk 3 (A * B + C) := ((Wk.i64 hA).mul (Wk.i64 hB)).add ((Wk.i64 hC).mono (by decide))
  exact ⟨(A * B + C) ^ ((P % 4).toNat + 1), (WZ.pow _).mono (by omega), fun w => bothz_r A B C P _ _ w hA hB hC hP.1 hP.2 (by omega) (by omega) rfl⟩
end Go.Proofs.YtjjomjjgoceklaaGreat
namespace Go.Proofs.YtjjomjjgoceklaaGreat
set_option maxRecDepth 100000
open Go.RowKit

theorem sgnZ_self (a : Int) : sgnZ a a = 0 := by unfold sgnZ; rw [if_neg (by omega), if_pos rfl]
theorem PSg.kd {a b : Int} {w : World} {n : FuncId} {args : Array Value} (h : Calls Tryz.prog n args w (PSg a b w)) (h0 : sgnZ a b = 0) : Calls Tryz.prog n args w fun e w' => ∃ v, e = .returned v ∧ (Below w.heap.size w w' ∧ Go.Proofs.YtjjomjjgoceklaaGreat.kd (ki 0) v w') :=
  h.mono fun _ _ ⟨hb, he⟩ => ⟨_, he, hb, by show _ = _; rw [h0]⟩
theorem PSi.kd {a : Int} {w : World} {n : FuncId} {args : Array Value} (h : Calls Tryz.prog n args w fun e w' => Below w.heap.size w w' ∧ e = .returned (.int .i64 a.sign)) (h0 : a.sign = 0) : Calls Tryz.prog n args w fun e w' => ∃ v, e = .returned v ∧ (Below w.heap.size w w' ∧ Go.Proofs.YtjjomjjgoceklaaGreat.kd (ki 0) v w') :=
  h.mono fun _ _ ⟨hb, he⟩ => ⟨_, he, hb, by show _ = _; rw [h0]⟩
theorem PB.kd {b : Bool} {w : World} {n : FuncId} {args : Array Value} (h : Calls Tryz.prog n args w (PB b w)) : Calls Tryz.prog n args w fun e w' => ∃ v, e = .returned v ∧ (Below w.heap.size w w' ∧ Go.Proofs.YtjjomjjgoceklaaGreat.kd (.v (.bool b)) v w') :=
  h.mono fun _ _ ⟨hb, he⟩ => ⟨_, he, hb, rfl⟩
theorem rn_pick_t {ρ : Operand → Value} {o : Oper} {w : World} {c x y : Operand} (ho : o.op = .pick c x y) (hc : ρ c = .bool true) : (execOp ρ o).run Tryz.prog w = .ok (.value (ρ x)) w := rn_pick ho hc
theorem rn_pick_f {ρ : Operand → Value} {o : Oper} {w : World} {c x y : Operand} (ho : o.op = .pick c x y) (hc : ρ c = .bool false) : (execOp ρ o).run Tryz.prog w = .ok (.value (ρ y)) w := rn_pick ho hc
/-- three integers in boxes -/
structure R3 (w0 : World) (y z t : Int) (Ta Tb Tc : Nat) (w : World) : Prop where
  k : Below w0.heap.size w0 w
  a : Hz Ta y w
  b : Hz Tb z w
  c : Hz Tc t w
theorem R3.keep {w0 : World} {y z t : Int} {Ta Tb Tc : Nat} {w w' : World} (h : R3 w0 y z t Ta Tb Tc w) (hb : Below w.heap.size w w') : R3 w0 y z t Ta Tb Tc w' :=
  ⟨Below.thru h.k h.k.size hb, h.a.keep hb, h.b.keep hb, h.c.keep hb⟩
theorem xb_new (w : World) (A B C P : Int) {T : Nat} (hT : T = w.heap.size) : Xb T A B C P (w.alloc (.cells #[.int .i64 A, .int .i64 B, .int .i64 C, .int .u8 P] 50)) := by subst hT; exact Go.Deep.blk_alloc_new _ _
end Go.Proofs.YtjjomjjgoceklaaGreat

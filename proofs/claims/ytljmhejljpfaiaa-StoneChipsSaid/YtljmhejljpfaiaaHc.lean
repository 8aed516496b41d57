import Derived.Test.YtljmhejljpfaiaaHb
import Derived.Test.YtljmhejljpfaiaaGh
import Derived.Test.YtljmhejljpfaiaaHd
import Derived.Deep.CutBlock
import Derived.Deep.DeepCutAuto
namespace Go.Proofs.Ytljmhejljpfaiaa
set_option maxRecDepth 100000
open Go.RowKit Go.Shelf

/-! Chip -/
/-- the slots of the two regions that count steps -/
def D8 (t : Nat) : Bool := Nat.beq t 14 || Nat.beq t 15 || (Nat.ble 42 t && Nat.ble t 56)
def al8 (t : Nat) : Bool := Nat.beq t 15
def vals8 (B b o n c k m : Nat) (ax az mx mz : Int) (g : Nat) (sx sz : Int) (d : Nat) : Value :=
  if d = 14 then .int .i64 g else
  [.tuple #[.int .i64 g, .agg #[.int .i64 sx, .int .i64 sz]], .agg #[.int .i64 ax, .int .i64 az], .pointer (some ⟨B, 1, none⟩), .slice (some ⟨b, o, none⟩) n c, .int .i64 k, .int .i64 n, .int .i64 ((k : Int) + n), .int .i64 ((k : Int) + n - 1), .int .i64 n, .int .i64 m, .pointer (some ⟨b, o + m * 2, none⟩), .agg #[.int .i64 mx, .int .i64 mz], .tuple #[.int .i64 g, .agg #[.int .i64 sx, .int .i64 sz]], .int .i64 g, .agg #[.int .i64 sx, .int .i64 sz]].getD (d - 42) undef
def D9 (t : Nat) : Bool := Nat.beq t 16 || Nat.beq t 17 || (Nat.ble 57 t && Nat.ble t 69)
def al9 (t : Nat) : Bool := Nat.beq t 17
def vals9 (B b o n c k m : Nat) (ax az mx mz : Int) (g : Nat) (sx sz : Int) (d : Nat) : Value :=
  if d = 16 then .int .i64 g else
  [.tuple #[.int .i64 g, .agg #[.int .i64 sx, .int .i64 sz]], .agg #[.int .i64 ax, .int .i64 az], .pointer (some ⟨B, 1, none⟩), .slice (some ⟨b, o, none⟩) n c, .int .i64 k, .int .i64 ((k : Int) + 1), .int .i64 n, .int .i64 m, .pointer (some ⟨b, o + m * 2, none⟩), .agg #[.int .i64 mx, .int .i64 mz], .tuple #[.int .i64 g, .agg #[.int .i64 sx, .int .i64 sz]], .int .i64 g, .agg #[.int .i64 sx, .int .i64 sz]].getD (d - 57) undef
/-- Split's answer, its rows of one's own -/
def PSo (s : SV) (x1 z1 x2 z2 : Int) (base : Nat) (e : Ending) (w' : World) : Prop :=
  (∃ na pa ma ca da ea ga ha nb pb mb cb db eb gb ib er, e = .returned (.tuple #[.agg (c6 na (.slice pa ma ca) da ea ga ha), .agg (c6 nb (.slice pb mb cb) db eb gb ib), .int .i64 er]) ∧ SplE s (x1, z1) (x2, z2) er ∧
    (er ≠ 0 → (Value.agg (c6 na (.slice pa ma ca) da ea ga ha) = zst ∧ Value.agg (c6 nb (.slice pb mb cb) db eb gb ib) = zst)) ∧
    (er = 0 → ((Value.agg (c6 na (.slice pa ma ca) da ea ga ha) = stv (pieceS s lta (partL s.l (x2, z2) (x1, z1))) (.slice pa ma ca) ∧ Own w' base (.slice pa ma ca) (stl (partL s.l (x2, z2) (x1, z1)))) ∧
      (Value.agg (c6 nb (.slice pb mb cb) db eb gb ib) = stv (pieceS s ltb (partL s.l (x1, z1) (x2, z2))) (.slice pb mb cb) ∧ Own w' base (.slice pb mb cb) (stl (partL s.l (x1, z1) (x2, z2)))))))
theorem splito_any (s : SV) (p : Option Addr) (c : Nat) (x1 z1 x2 z2 : Int) (w : World) (hn : s.nm.size ≤ maxLen) (h : Pts w (.slice p s.l.length c) s.l) : Calls Try.prog 35 #[stv s (.slice p s.l.length c), .agg #[.int .i64 x1, .int .i64 z1], .agg #[.int .i64 x2, .int .i64 z2]] w fun e w' => PSo s x1 z1 x2 z2 w.heap.size e w' ∧ Below w.heap.size w w' :=
  (split_all s p c x1 z1 x2 z2 w hn h).mono fun e w' ⟨⟨va, vb, er, he, hE, hx⟩, hk⟩ => ⟨by
    rcases hx with ⟨h0, rfl, rfl⟩ | ⟨h0, u1, u2, rfl, o1, rfl, o2⟩
    · exact ⟨_, _, _, _, _, _, _, _, _, _, _, _, _, _, _, _, er, he, hE, fun _ => ⟨rfl, rfl⟩, fun h => absurd h h0⟩
    · subst h0
      obtain ⟨a1, m1, c1, rfl⟩ := o1.form
      obtain ⟨a2, m2, c2, rfl⟩ := o2.form
      exact ⟨_, _, _, _, _, _, _, _, _, _, _, _, _, _, _, _, 0, he, hE, fun h => absurd rfl h, fun _ => ⟨⟨rfl, o1⟩, ⟨rfl, o2⟩⟩⟩, hk⟩
def PCh (s : SV) (corner back on : Int) (w : World) (e : Ending) (w' : World) : Prop :=
  ((¬ Vld s ∧ e = .returned (.tuple #[zst, zst, .int .i64 2])) ∨ (Vld s ∧ ¬ ChOk s.l corner back on ∧ e = .returned (.tuple #[zst, zst, .int .i64 3])) ∨
    (Vld s ∧ ChOk s.l corner back on ∧ PSo s (stK s.l corner.toNat (pvx s.l corner.toNat) back).1 (stK s.l corner.toNat (pvx s.l corner.toNat) back).2 (stK s.l corner.toNat (nx s.l.length corner.toNat) on).1 (stK s.l corner.toNat (nx s.l.length corner.toNat) on).2 w.heap.size e w')) ∧ Below w.heap.size w w'
theorem ne_pc {l : List Pt} (ht : Tr l) (h3 : 3 ≤ l.length) {k m : Nat} (hk : k < l.length) (hm : m < l.length) (h : k ≠ m) : ¬ (px l m = px l k ∧ pz l m = pz l k) := fun ⟨e1, e2⟩ => by
  have e : pc l m = pc l k := by rw [pc_lt hk, pc_lt hm, e1, e2]
  rcases Nat.lt_or_gt_of_ne h with q | q
  · exact ht.inj h3 q (by omega) e.symm
  · exact ht.inj h3 q (by omega) e
theorem ne_pv {l : List Pt} (ht : Tr l) (h3 : 3 ≤ l.length) {k : Nat} (hk : k < l.length) : ¬ (px l (pvx l k) = px l k ∧ pz l (pvx l k) = pz l k) := by
  refine ne_pc ht h3 hk (Nat.mod_lt _ (by omega)) ?_
  unfold pvx
  rcases Nat.eq_zero_or_pos k with e | e
  · rw [e, Nat.mod_eq_of_lt (by omega)]; omega
  · rw [show k + l.length - 1 = (k - 1) + l.length by omega, Nat.add_mod_right, Nat.mod_eq_of_lt (by omega)]; omega
theorem ne_nx {l : List Pt} (ht : Tr l) (h3 : 3 ≤ l.length) {k : Nat} (hk : k < l.length) : ¬ (px l (nx l.length k) = px l k ∧ pz l (nx l.length k) = pz l k) := by
  refine ne_pc ht h3 hk (nx_lt hk) ?_
  rcases Nat.lt_or_ge (k + 1) l.length with q | q
  · rw [nx_succ q]; omega
  · rw [nx_wrap (by omega)]; omega
set_option maxHeartbeats 16000000 in
theorem chip_any (s : SV) (p : Option Addr) (c : Nat) (corner back on : Int) (w : World) (hn : s.nm.size ≤ maxLen) (h : Pts w (.slice p s.l.length c) s.l) : Calls Try.prog 42 #[stv s (.slice p s.l.length c), .int .i64 corner, .int .i64 back, .int .i64 on] w (PCh s corner back on w) := by
  have HC := Lib.hid (fun W (k : Below w.heap.size w W) => check_any s (.slice p s.l.length c) W hn (h.keep k))
  have HPT := Lib.hid h
  have HSP := Lib.hid (fun W (k : Below w.heap.size w W) x1 z1 x2 z2 => splito_any s p c x1 z1 x2 z2 W hn (h.keep k))
  obtain ⟨nm, l, dp, dn, gx, gz⟩ := s
  have HVI : Hid (Vld ⟨nm, l, dp, dn, gx, gz⟩ → (3 ≤ l.length ∧ l.length ≤ 12) ∧ Bx l ∧ Tr l) := fun h => ⟨h.2.1.1, h.2.1.2.1, h.2.1.tr⟩
  have HE2 : Hid (∀ W, ¬ Vld ⟨nm, l, dp, dn, gx, gz⟩ → Below w.heap.size w W → PCh ⟨nm, l, dp, dn, gx, gz⟩ corner back on w (.returned (.tuple #[zst, zst, .int .i64 2])) W) := fun W h k => ⟨.inl ⟨h, rfl⟩, k⟩
  have HEK : Hid (∀ (k : Nat) W er na pa ma ca da ea ga ha nb pb mb cb db eb gb ib, corner = (k : Int) → Vld ⟨nm, l, dp, dn, gx, gz⟩ → ChOk l corner back on → SplE ⟨nm, l, dp, dn, gx, gz⟩ (stK l k (pvx l k) back) (stK l k (nx l.length k) on) er →
      (er ≠ 0 → (Value.agg (c6 na (.slice pa ma ca) da ea ga ha) = zst ∧ Value.agg (c6 nb (.slice pb mb cb) db eb gb ib) = zst)) →
      (er = 0 → ((Value.agg (c6 na (.slice pa ma ca) da ea ga ha) = stv (pieceS ⟨nm, l, dp, dn, gx, gz⟩ lta (partL l (stK l k (nx l.length k) on) (stK l k (pvx l k) back))) (.slice pa ma ca) ∧ Own W w.heap.size (.slice pa ma ca) (stl (partL l (stK l k (nx l.length k) on) (stK l k (pvx l k) back)))) ∧
      (Value.agg (c6 nb (.slice pb mb cb) db eb gb ib) = stv (pieceS ⟨nm, l, dp, dn, gx, gz⟩ ltb (partL l (stK l k (pvx l k) back) (stK l k (nx l.length k) on))) (.slice pb mb cb) ∧ Own W w.heap.size (.slice pb mb cb) (stl (partL l (stK l k (pvx l k) back) (stK l k (nx l.length k) on)))))) → Below w.heap.size w W →
      PCh ⟨nm, l, dp, dn, gx, gz⟩ corner back on w (.returned (.tuple #[.agg (c6 na (.slice pa ma ca) da ea ga ha), .agg (c6 nb (.slice pb mb cb) db eb gb ib), .int .i64 er])) W) := fun k W er na pa ma ca da ea ga ha nb pb mb cb db eb gb ib hk hv hc hE hA hO hb => ⟨.inr (.inr ⟨hv, hc, na, pa, ma, ca, da, ea, ga, ha, nb, pb, mb, cb, db, eb, gb, ib, er, rfl, by subst hk; rw [Int.toNat_natCast]; exact hE, hA, by subst hk; rw [Int.toNat_natCast]; exact hO⟩), hb⟩
  have HE3 : Hid (∀ W, Vld ⟨nm, l, dp, dn, gx, gz⟩ → ¬ ChOk l corner back on → Below w.heap.size w W → PCh ⟨nm, l, dp, dn, gx, gz⟩ corner back on w (.returned (.tuple #[zst, zst, .int .i64 3])) W) := fun W h h2 k => ⟨.inr (.inl ⟨h, h2, rfl⟩), k⟩
  unfold stv at *
  dsimp only at *
  clear h hn
  generalize hVV : Vld ⟨nm, l, dp, dn, gx, gz⟩ = V at *
  have HVE := Lib.hid hVV
  have k0 : Below w.heap.size w (((w.alloc (.cells (c6 nm (.slice p l.length c) dp dn gx gz) 34)).alloc (.cells (c6 ⟨#[]⟩ (.slice none 0 0) 0 0 0 0) 34)).alloc (.cells (c6 ⟨#[]⟩ (.slice none 0 0) 0 0 0 0) 34)) := bl3 w _ _ _
  have b0 : Blk w.heap.size (c6 nm (.slice p l.length c) dp dn gx gz) 34 (((w.alloc (.cells (c6 nm (.slice p l.length c) dp dn gx gz) 34)).alloc (.cells (c6 ⟨#[]⟩ (.slice none 0 0) 0 0 0 0) 34)).alloc (.cells (c6 ⟨#[]⟩ (.slice none 0 0) 0 0 0 0) 34)) ∧ Blk (w.heap.size + 1) (c6 ⟨#[]⟩ (.slice none 0 0) 0 0 0 0) 34 (((w.alloc (.cells (c6 nm (.slice p l.length c) dp dn gx gz) 34)).alloc (.cells (c6 ⟨#[]⟩ (.slice none 0 0) 0 0 0 0) 34)).alloc (.cells (c6 ⟨#[]⟩ (.slice none 0 0) 0 0 0 0) 34)) ∧ Blk (w.heap.size + 1 + 1) (c6 ⟨#[]⟩ (.slice none 0 0) 0 0 0 0) 34 (((w.alloc (.cells (c6 nm (.slice p l.length c) dp dn gx gz) 34)).alloc (.cells (c6 ⟨#[]⟩ (.slice none 0 0) 0 0 0 0) 34)).alloc (.cells (c6 ⟨#[]⟩ (.slice none 0 0) 0 0 0 0) 34)) := by
    refine ⟨((Blk.new w _ 34).alloc _).alloc _, ?_, ?_⟩
    · have := Blk.new (w.alloc (.cells (c6 nm (.slice p l.length c) dp dn gx gz) 34)) (c6 ⟨#[]⟩ (.slice none 0 0) 0 0 0 0) 34
      simp only [World.size_alloc] at this
      exact this.alloc _
    · have := Blk.new ((w.alloc (.cells (c6 nm (.slice p l.length c) dp dn gx gz) 34)).alloc (.cells (c6 ⟨#[]⟩ (.slice none 0 0) 0 0 0 0) 34)) (c6 ⟨#[]⟩ (.slice none 0 0) 0 0 0 0) 34
      simp only [World.size_alloc] at this
      exact this
  have hsz : (((w.alloc (.cells (c6 nm (.slice p l.length c) dp dn gx gz) 34)).alloc (.cells (c6 ⟨#[]⟩ (.slice none 0 0) 0 0 0 0) 34)).alloc (.cells (c6 ⟨#[]⟩ (.slice none 0 0) 0 0 0 0) 34)).heap.size = w.heap.size + 3 := by simp
  clear hVV
  generalize PCh ⟨nm, l, dp, dn, gx, gz⟩ corner back on w = PP at *
  go_enter Try.func42, Try.ntmps42
  go_wp2_with fail
  generalize (((w.alloc (.cells (c6 nm (.slice p l.length c) dp dn gx gz) 34)).alloc (.cells (c6 ⟨#[]⟩ (.slice none 0 0) 0 0 0 0) 34)).alloc (.cells (c6 ⟨#[]⟩ (.slice none 0 0) 0 0 0 0) 34)) = w0 at *
  have HBS : Hid (∀ W, Below w0.heap.size w0 W → Blk w.heap.size (c6 nm (.slice p l.length c) dp dn gx gz) 34 W ∧ Blk (w.heap.size + 1) (c6 ⟨#[]⟩ (.slice none 0 0) 0 0 0 0) 34 W ∧ Blk (w.heap.size + 1 + 1) (c6 ⟨#[]⟩ (.slice none 0 0) 0 0 0 0) 34 W ∧ Below w.heap.size w W) := fun W k => ⟨b0.1.below k, b0.2.1.below k, b0.2.2.below k, Below.thru k0 k0.size k⟩
  have HLW : Hid (∀ W, Below w0.heap.size w0 W → w.heap.size + 3 ≤ W.heap.size) := fun W kk => by have := kk.size; omega
  clear b0
  refine (HC.out _ k0).mono ?_
  rintro e w1 ⟨⟨er, rfl, hx⟩, hb1⟩
  have K1 := Lib.hid hb1
  clear hb1 k0 hsz
  rcases hx with ⟨rfl, hv⟩ | ⟨rfl, hv⟩
  · have HV := Lib.hid hv
    obtain ⟨h3, hbx, htr⟩ := HVI.out hv
    obtain ⟨b, o, c', hpe, hrow⟩ := (HPT.out.keep (HBS.out _ K1.out).2.2.2).some (by show 0 < l.length; omega)
    cases hpe
    have HR := Lib.hid (fun W (k : Below w1.heap.size w1 W) => hrow.keep k)
    have HX := Lib.hid hbx
    have H3 := Lib.hid h3
    have HTR := Lib.hid htr
    have q1 := HBS.out _ K1.out
    have s1 := q1.1.cell (i := 1) rfl
    have HWI := Lib.hid (fun a n W => within_any a 0 n W)
    clear hv hbx htr hrow q1 HVI HPT
    go_wp2_with fail
    refine (within_any _ _ _ _).mono ?_
    rintro e w2 ⟨rfl, hw2⟩
    subst hw2
    by_cases hcr : 0 ≤ corner ∧ corner ≤ (l.length : Int) - 1
    · obtain ⟨k, rfl⟩ : ∃ k : Nat, corner = (k : Int) := ⟨corner.toNat, by omega⟩
      have hkn : k < l.length := by omega
      have hin : inB (k : Int) 0 ((l.length : Int) - 1) = true := inB_t hcr.1 hcr.2
      rw [hin]
      clear hin
      obtain ⟨ckx, ckz⟩ := HR.out w1 (Below.refl _ _) k hkn
      have HBX0 := Lib.hid (fun W (k : Below w1.heap.size w1 W) => HR.out W k)
      go_wp2_with fail
      have hb5 : Below w1.heap.size w1 (w1.alloc (.cells #[.int .i64 (px l k), .int .i64 (pz l k)] 32)) := bl1 _ _
      have hB5 : B2 w1.heap.size (px l k) (pz l k) (w1.alloc (.cells #[.int .i64 (px l k), .int .i64 (pz l k)] 32)) := ⟨by simp [go_sem], by simp [go_sem], by simp [go_sem], by simp [go_sem]⟩
      generalize w1.alloc (.cells #[.int .i64 (px l k), .int .i64 (pz l k)] 32) = w5 at *
      have K5 := Lib.hid (Below.thru K1.out K1.out.size hb5)
      have HBX : Hid (∀ W, Below w5.heap.size w5 W → W.cell? ⟨w.heap.size, 1, none⟩ = some (.slice (some ⟨b, o, none⟩) l.length c) ∧ B2 w1.heap.size (px l k) (pz l k) W ∧ Row W b o l ∧ Below w0.heap.size w0 W) := fun W kk => ⟨(HBS.out W (Below.thru K5.out K5.out.size kk)).1.cell (i := 1) rfl, hB5.keep kk, HR.out W (Below.thru hb5 hb5.size kk), Below.thru K5.out K5.out.size kk⟩
      clear hb5 hB5 HBX0 s1 ckx ckz
      have hwk := HX.out k hkn
      have hn0 : ¬ (l.length : Int) = 0 := by omega
      -- the edge before
      have HG1 : Hid (∀ W, Calls Try.prog 84 #[.agg #[.int .i64 (px l k), .int .i64 (pz l k)], .agg #[.int .i64 (px l (pvx l k)), .int .i64 (pz l (pvx l k))]] W fun e w' => e = .returned (.tuple #[.int .i64 (snK l k (pvx l k) : Nat), .agg #[.int .i64 ((px l (pvx l k) - px l k).tdiv (snK l k (pvx l k) : Nat)), .int .i64 ((pz l (pvx l k) - pz l k).tdiv (snK l k (pvx l k) : Nat))]]) ∧ Below W.heap.size W w') := fun W => by
        have hm : pvx l k < l.length := Nat.mod_lt _ (by omega)
        have hxm := HX.out _ hm
        exact steps_any _ _ _ _ W hwk.1 hwk.2 hxm.1 hxm.2 (ne_pv HTR.out h3.1 hkn)
      have HG2 : Hid (∀ W, Calls Try.prog 84 #[.agg #[.int .i64 (px l k), .int .i64 (pz l k)], .agg #[.int .i64 (px l (nx l.length k)), .int .i64 (pz l (nx l.length k))]] W fun e w' => e = .returned (.tuple #[.int .i64 (snK l k (nx l.length k) : Nat), .agg #[.int .i64 ((px l (nx l.length k) - px l k).tdiv (snK l k (nx l.length k) : Nat)), .int .i64 ((pz l (nx l.length k) - pz l k).tdiv (snK l k (nx l.length k) : Nat))]]) ∧ Below W.heap.size W w') := fun W => by
        have hm := nx_lt hkn
        have hxm := HX.out _ hm
        exact steps_any _ _ _ _ W hwk.1 hwk.2 hxm.1 hxm.2 (ne_nx HTR.out h3.1 hkn)
      have hmn : pvx l k < l.length := Nat.mod_lt _ (by omega)
      have hw1 : IntKind.i64.wrap ((k : Int) + (l.length : Int)) = (k : Int) + (l.length : Int) := IntWalk.i64_in _ (by omega)
      have hw2 : IntKind.i64.wrap ((k : Int) + (l.length : Int) - 1) = (k : Int) + (l.length : Int) - 1 := IntWalk.i64_in _ (by omega)
      have hrm : ((k : Int) + (l.length : Int) - 1).tmod (l.length : Int) = ((pvx l k : Nat) : Int) := by
        unfold pvx
        rw [Int.tmod_eq_emod_of_nonneg (by omega), Int.natCast_emod]
        congr 1
        omega
      have HS84 := HG1
      go_cut [14, 15] (fun u14 u15 wc => u14 = .int .i64 (snK l k (pvx l k) : Nat) ∧ ∃ T, u15 = .pointer (some ⟨T, 0, none⟩) ∧ Hid (wc.heap[T]? = some (.cells #[.int .i64 ((px l (pvx l k) - px l k).tdiv (snK l k (pvx l k) : Nat)), .int .i64 ((pz l (pvx l k) - pz l k).tdiv (snK l k (pvx l k) : Nat))] 32 (0, 0)) ∧ Below w5.heap.size w5 wc ∧ w5.heap.size ≤ T))
      case first =>
        rename_i J K' hJ hK
        refine wp_region_alf D8 (tabC 15 (vals8 w.heap.size b o l.length c k (pvx l k) (px l k) (pz l k) (px l (pvx l k)) (pz l (pvx l k)) (snK l k (pvx l k)) ((px l (pvx l k) - px l k).tdiv (snK l k (pvx l k) : Nat)) ((pz l (pvx l k) - pz l k).tdiv (snK l k (pvx l k) : Nat))) w5.heap.size) al8 17
          (fun i f w' => Below w5.heap.size w5 w' ∧ (18 ≤ i → ∃ T, f 15 = .pointer (some ⟨T, 0, none⟩) ∧ w5.heap.size ≤ T ∧ w'.heap[T]? = some (.cells #[.int .i64 ((px l (pvx l k) - px l k).tdiv (snK l k (pvx l k) : Nat)), .int .i64 ((pz l (pvx l k) - pz l k).tdiv (snK l k (pvx l k) : Nat))] 32 (0, 0))))
          (by kernel_rfl) (by kernel_rfl) (by kernel_rfl) (by kernel_rfl) (by decide) (by kernel_rfl) (fun i f f' w' w'' hI hb he => ⟨Below.thru hI.1 hI.1.size hb, fun h => by
            obtain ⟨T, h1, h2, h3⟩ := hI.2 h
            rcases he with he | he
            · omega
            · exact ⟨T, (he 15 rfl).trans h1, h2, (hb.block T (Array.getElem?_eq_some_iff.1 h3).1).trans h3⟩⟩) (by kernel_rfl) (fun f => ⟨(Below.refl _ _).drew, fun h => by omega⟩) ?_ ?_ ?_
        · refine .cons (fun j f w' hj hI hs => ⟨wanted_none rfl, _, rfl, .val (rn_load32 rfl (fr_old rfl rfl) (HBX.out w' hI.1).2.1.1 (HBX.out w' hI.1).2.1.2.1) ⟨⟨Below.refl _ _, rfl⟩, (fun h => by cases h)⟩⟩) ?_
          refine .cons (fun j f w' hj hI hs => ⟨wanted_none rfl, _, rfl, .val (rn_field34 rfl (fr_old rfl rfl)) ⟨⟨Below.refl _ _, rfl⟩, (fun h => by cases h)⟩⟩) ?_
          refine .cons (fun j f w' hj hI hs => ⟨wanted_none rfl, _, rfl, .val (rn_load31 rfl ((fr_own rfl rfl).trans (hs 44 (by kernel_rfl))) (HBX.out w' hI.1).1) ⟨⟨Below.refl _ _, rfl⟩, (fun h => by cases h)⟩⟩) ?_
          refine .cons (fun j f w' hj hI hs => ⟨wanted_none rfl, _, rfl, .val (rn_move rfl) ⟨⟨Below.refl _ _, fr_old rfl rfl⟩, (fun h => by cases h)⟩⟩) ?_
          refine .cons (fun j f w' hj hI hs => ⟨wanted_none rfl, _, rfl, .val (rn_move rfl) ⟨⟨Below.refl _ _, fr_old rfl rfl⟩, (fun h => by cases h)⟩⟩) ?_
          refine .cons (fun j f w' hj hI hs => ⟨wanted_none rfl, _, rfl, .val (rn_add3 rfl ((fr_own rfl rfl).trans (hs 46 (by kernel_rfl))) ((fr_own rfl rfl).trans (hs 47 (by kernel_rfl))) hw1) ⟨⟨Below.refl _ _, rfl⟩, (fun h => by cases h)⟩⟩) ?_
          refine .cons (fun j f w' hj hI hs => ⟨wanted_none rfl, _, rfl, .val (rn_sub3 rfl ((fr_own rfl rfl).trans (hs 48 (by kernel_rfl))) rfl hw2) ⟨⟨Below.refl _ _, rfl⟩, (fun h => by cases h)⟩⟩) ?_
          refine .cons (fun j f w' hj hI hs => ⟨wanted_none rfl, _, rfl, .val (rn_move rfl) ⟨⟨Below.refl _ _, fr_old rfl rfl⟩, (fun h => by cases h)⟩⟩) ?_
          refine .cons (fun j f w' hj hI hs => ⟨wanted_none rfl, _, rfl, .val (rn_rem3 rfl ((fr_own rfl rfl).trans (hs 49 (by kernel_rfl))) ((fr_own rfl rfl).trans (hs 50 (by kernel_rfl))) hn0 hrm) ⟨⟨Below.refl _ _, rfl⟩, (fun h => by cases h)⟩⟩) ?_
          refine .cons (fun j f w' hj hI hs => ⟨wanted_none rfl, _, rfl, .val (rn_idx31 rfl ((fr_own rfl rfl).trans (hs 45 (by kernel_rfl))) ((fr_own rfl rfl).trans (hs 51 (by kernel_rfl))) hmn) ⟨⟨Below.refl _ _, rfl⟩, (fun h => by cases h)⟩⟩) ?_
          refine .cons (fun j f w' hj hI hs => ⟨wanted_none rfl, _, rfl, .val (rn_load32 rfl ((fr_own rfl rfl).trans (hs 52 (by kernel_rfl))) ((HBX.out w' hI.1).2.2.1 (pvx l k) hmn).1 ((HBX.out w' hI.1).2.2.1 (pvx l k) hmn).2) ⟨⟨Below.refl _ _, rfl⟩, (fun h => by cases h)⟩⟩) ?_
          refine .cons (fun j f w' hj hI hs => ⟨wanted_none rfl, _, rfl, .call2 rfl cf84 rfl rfl rfl rfl (by
            rw [show f 43 = _ from hs 43 (by kernel_rfl), show f 53 = _ from hs 53 (by kernel_rfl)]
            exact (HS84.out w').mono fun _ _ ⟨he, hb⟩ => ⟨_, he, ⟨hb, rfl⟩, (fun h => by cases h)⟩)⟩) ?_
          refine .cons (fun j f w' hj hI hs => ⟨wanted_none rfl, _, rfl, .val (rn_move rfl) ⟨⟨Below.refl _ _, (fr_own rfl rfl).trans (hs 54 (by kernel_rfl))⟩, (fun h => by cases h)⟩⟩) ?_
          refine .cons (fun j f w' hj hI hs => ⟨wanted_none rfl, _, rfl, .val (rn_extract0 rfl ((fr_own rfl rfl).trans (hs 42 (by kernel_rfl)))) ⟨⟨Below.refl _ _, rfl⟩, (fun h => by cases h)⟩⟩) ?_
          refine .cons (fun j f w' hj hI hs => ⟨wanted_none rfl, _, rfl, .val (rn_extract1 rfl ((fr_own rfl rfl).trans (hs 42 (by kernel_rfl)))) ⟨⟨Below.refl _ _, rfl⟩, (fun h => by cases h)⟩⟩) ?_
          refine .cons (fun j f w' hj hI hs => ⟨wanted_none rfl, _, rfl, .val (rn_alloc32 rfl) ⟨⟨bl1 _ _, _, rfl, hI.1.size, 0, 0, World.alloc_heap_new _ _⟩, fun _ => ⟨rfl, by simp⟩⟩⟩) ?_
          refine .cons (fun j f w' hj hI hs => ⟨wanted_none rfl, _, rfl, .val (rn_assign rfl) ⟨⟨Below.refl _ _, (fr_own rfl rfl).trans (hs 55 (by kernel_rfl))⟩, (fun h => by cases h)⟩⟩) .nil
        · refine .cons (fun f w' hI hs hne => ⟨wanted_none rfl, rfl, ?_⟩) .nil
          have h56 : f 56 = _ := (hs 56 (by kernel_rfl))
          obtain ⟨T, e5, hW, x0, z0, hT⟩ : ∃ T, f 15 = .pointer (some ⟨T, 0, none⟩) ∧ w5.heap.size ≤ T ∧ ∃ x z : Int, w'.heap[T]? = some (.cells #[.int .i64 x, .int .i64 z] 32 (0, 0)) := (hs 15 (by kernel_rfl))
          exact .skip (rn_store32 rfl ((fr_own rfl rfl).trans e5) ((fr_own rfl rfl).trans h56) hT) ⟨⟨⟨(hI.1.setCell hW _).setCell hW _, fun _ => ⟨T, e5, hW, blk32_st hT⟩⟩, fun d v hk => tabC_st hT d v hk⟩, by simp [World.setCell]⟩
        · intro f w' hI hs
          obtain ⟨T5, e5, hW5, h5⟩ := hI.2 (by decide)
          have h14 : f 14 = _ := (hs 14 (by kernel_rfl))
          refine hK _ _ (Met.intro (hJ _ _ ?_))
          (repeat apply Exists.intro)
          refine ⟨⟨h14, T5, e5, h5, hI.1, hW5⟩, rfl⟩
      obtain ⟨rfl, T15, rfl, HT15⟩ := hcut
      generalize wc = w6 at *
      have K6 := Lib.hid HT15.out.2.1
      replace HBX : Hid (∀ W, Below w6.heap.size w6 W → W.cell? ⟨w.heap.size, 1, none⟩ = some (.slice (some ⟨b, o, none⟩) l.length c) ∧ B2 w1.heap.size (px l k) (pz l k) W ∧ Row W b o l ∧ Below w0.heap.size w0 W ∧ W.heap[T15]? = some (.cells #[.int .i64 ((px l (pvx l k) - px l k).tdiv (snK l k (pvx l k) : Nat)), .int .i64 ((pz l (pvx l k) - pz l k).tdiv (snK l k (pvx l k) : Nat))] 32 (0, 0))) := fun W kk => by
        have h := HBX.out W (Below.thru K6.out K6.out.size kk)
        exact ⟨h.1, h.2.1, h.2.2.1, h.2.2.2, (kk.block _ (Array.getElem?_eq_some_iff.1 HT15.out.1).1).trans HT15.out.1⟩
      go_wp2_with fail
      have hmn := nx_lt hkn
      have hw1 : IntKind.i64.wrap ((k : Int) + 1) = (k : Int) + 1 := IntWalk.i64_in _ (by omega)
      have hrm : ((k : Int) + 1).tmod (l.length : Int) = ((nx l.length k : Nat) : Int) := by
        unfold nx
        rw [Int.tmod_eq_emod_of_nonneg (by omega), Int.natCast_emod]
        rfl
      have HS84 := HG2
      go_cut [16, 17] (fun u16 u17 wc => u16 = .int .i64 (snK l k (nx l.length k) : Nat) ∧ ∃ T, u17 = .pointer (some ⟨T, 0, none⟩) ∧ Hid (wc.heap[T]? = some (.cells #[.int .i64 ((px l (nx l.length k) - px l k).tdiv (snK l k (nx l.length k) : Nat)), .int .i64 ((pz l (nx l.length k) - pz l k).tdiv (snK l k (nx l.length k) : Nat))] 32 (0, 0)) ∧ Below w6.heap.size w6 wc ∧ w6.heap.size ≤ T))
      case first =>
        rename_i J K' hJ hK
        refine wp_region_alf D9 (tabC 17 (vals9 w.heap.size b o l.length c k (nx l.length k) (px l k) (pz l k) (px l (nx l.length k)) (pz l (nx l.length k)) (snK l k (nx l.length k)) ((px l (nx l.length k) - px l k).tdiv (snK l k (nx l.length k) : Nat)) ((pz l (nx l.length k) - pz l k).tdiv (snK l k (nx l.length k) : Nat))) w6.heap.size) al9 15
          (fun i f w' => Below w6.heap.size w6 w' ∧ (16 ≤ i → ∃ T, f 17 = .pointer (some ⟨T, 0, none⟩) ∧ w6.heap.size ≤ T ∧ w'.heap[T]? = some (.cells #[.int .i64 ((px l (nx l.length k) - px l k).tdiv (snK l k (nx l.length k) : Nat)), .int .i64 ((pz l (nx l.length k) - pz l k).tdiv (snK l k (nx l.length k) : Nat))] 32 (0, 0))))
          (by kernel_rfl) (by kernel_rfl) (by kernel_rfl) (by kernel_rfl) (by decide) (by kernel_rfl) (fun i f f' w' w'' hI hb he => ⟨Below.thru hI.1 hI.1.size hb, fun h => by
            obtain ⟨T, h1, h2, h3⟩ := hI.2 h
            rcases he with he | he
            · omega
            · exact ⟨T, (he 17 rfl).trans h1, h2, (hb.block T (Array.getElem?_eq_some_iff.1 h3).1).trans h3⟩⟩) (by kernel_rfl) (fun f => ⟨(Below.refl _ _).drew, fun h => by omega⟩) ?_ ?_ ?_
        · refine .cons (fun j f w' hj hI hs => ⟨wanted_none rfl, _, rfl, .val (rn_load32 rfl (fr_old rfl rfl) (HBX.out w' hI.1).2.1.1 (HBX.out w' hI.1).2.1.2.1) ⟨⟨Below.refl _ _, rfl⟩, (fun h => by cases h)⟩⟩) ?_
          refine .cons (fun j f w' hj hI hs => ⟨wanted_none rfl, _, rfl, .val (rn_field34 rfl (fr_old rfl rfl)) ⟨⟨Below.refl _ _, rfl⟩, (fun h => by cases h)⟩⟩) ?_
          refine .cons (fun j f w' hj hI hs => ⟨wanted_none rfl, _, rfl, .val (rn_load31 rfl ((fr_own rfl rfl).trans (hs 59 (by kernel_rfl))) (HBX.out w' hI.1).1) ⟨⟨Below.refl _ _, rfl⟩, (fun h => by cases h)⟩⟩) ?_
          refine .cons (fun j f w' hj hI hs => ⟨wanted_none rfl, _, rfl, .val (rn_move rfl) ⟨⟨Below.refl _ _, fr_old rfl rfl⟩, (fun h => by cases h)⟩⟩) ?_
          refine .cons (fun j f w' hj hI hs => ⟨wanted_none rfl, _, rfl, .val (rn_add3 rfl ((fr_own rfl rfl).trans (hs 61 (by kernel_rfl))) rfl hw1) ⟨⟨Below.refl _ _, rfl⟩, (fun h => by cases h)⟩⟩) ?_
          refine .cons (fun j f w' hj hI hs => ⟨wanted_none rfl, _, rfl, .val (rn_move rfl) ⟨⟨Below.refl _ _, fr_old rfl rfl⟩, (fun h => by cases h)⟩⟩) ?_
          refine .cons (fun j f w' hj hI hs => ⟨wanted_none rfl, _, rfl, .val (rn_rem3 rfl ((fr_own rfl rfl).trans (hs 62 (by kernel_rfl))) ((fr_own rfl rfl).trans (hs 63 (by kernel_rfl))) hn0 hrm) ⟨⟨Below.refl _ _, rfl⟩, (fun h => by cases h)⟩⟩) ?_
          refine .cons (fun j f w' hj hI hs => ⟨wanted_none rfl, _, rfl, .val (rn_idx31 rfl ((fr_own rfl rfl).trans (hs 60 (by kernel_rfl))) ((fr_own rfl rfl).trans (hs 64 (by kernel_rfl))) hmn) ⟨⟨Below.refl _ _, rfl⟩, (fun h => by cases h)⟩⟩) ?_
          refine .cons (fun j f w' hj hI hs => ⟨wanted_none rfl, _, rfl, .val (rn_load32 rfl ((fr_own rfl rfl).trans (hs 65 (by kernel_rfl))) ((HBX.out w' hI.1).2.2.1 (nx l.length k) hmn).1 ((HBX.out w' hI.1).2.2.1 (nx l.length k) hmn).2) ⟨⟨Below.refl _ _, rfl⟩, (fun h => by cases h)⟩⟩) ?_
          refine .cons (fun j f w' hj hI hs => ⟨wanted_none rfl, _, rfl, .call2 rfl cf84 rfl rfl rfl rfl (by
            rw [show f 58 = _ from hs 58 (by kernel_rfl), show f 66 = _ from hs 66 (by kernel_rfl)]
            exact (HS84.out w').mono fun _ _ ⟨he, hb⟩ => ⟨_, he, ⟨hb, rfl⟩, (fun h => by cases h)⟩)⟩) ?_
          refine .cons (fun j f w' hj hI hs => ⟨wanted_none rfl, _, rfl, .val (rn_move rfl) ⟨⟨Below.refl _ _, (fr_own rfl rfl).trans (hs 67 (by kernel_rfl))⟩, (fun h => by cases h)⟩⟩) ?_
          refine .cons (fun j f w' hj hI hs => ⟨wanted_none rfl, _, rfl, .val (rn_extract0 rfl ((fr_own rfl rfl).trans (hs 57 (by kernel_rfl)))) ⟨⟨Below.refl _ _, rfl⟩, (fun h => by cases h)⟩⟩) ?_
          refine .cons (fun j f w' hj hI hs => ⟨wanted_none rfl, _, rfl, .val (rn_extract1 rfl ((fr_own rfl rfl).trans (hs 57 (by kernel_rfl)))) ⟨⟨Below.refl _ _, rfl⟩, (fun h => by cases h)⟩⟩) ?_
          refine .cons (fun j f w' hj hI hs => ⟨wanted_none rfl, _, rfl, .val (rn_alloc32 rfl) ⟨⟨bl1 _ _, _, rfl, hI.1.size, 0, 0, World.alloc_heap_new _ _⟩, fun _ => ⟨rfl, by simp⟩⟩⟩) ?_
          refine .cons (fun j f w' hj hI hs => ⟨wanted_none rfl, _, rfl, .val (rn_assign rfl) ⟨⟨Below.refl _ _, (fr_own rfl rfl).trans (hs 68 (by kernel_rfl))⟩, (fun h => by cases h)⟩⟩) .nil
        · refine .cons (fun f w' hI hs hne => ⟨wanted_none rfl, rfl, ?_⟩) .nil
          have h56 : f 69 = _ := (hs 69 (by kernel_rfl))
          obtain ⟨T, e5, hW, x0, z0, hT⟩ : ∃ T, f 17 = .pointer (some ⟨T, 0, none⟩) ∧ w6.heap.size ≤ T ∧ ∃ x z : Int, w'.heap[T]? = some (.cells #[.int .i64 x, .int .i64 z] 32 (0, 0)) := (hs 17 (by kernel_rfl))
          exact .skip (rn_store32 rfl ((fr_own rfl rfl).trans e5) ((fr_own rfl rfl).trans h56) hT) ⟨⟨⟨(hI.1.setCell hW _).setCell hW _, fun _ => ⟨T, e5, hW, blk32_st hT⟩⟩, fun d v hk => tabC_st hT d v hk⟩, by simp [World.setCell]⟩
        · intro f w' hI hs
          obtain ⟨T5, e5, hW5, h5⟩ := hI.2 (by decide)
          have h14 : f 16 = _ := (hs 16 (by kernel_rfl))
          refine hK _ _ (Met.intro (hJ _ _ ?_))
          (repeat apply Exists.intro)
          refine ⟨⟨h14, T5, e5, h5, hI.1, hW5⟩, rfl⟩
      obtain ⟨rfl, T17, rfl, HT17⟩ := hcut
      generalize wc = w7 at *
      have hm1 : pvx l k < l.length := Nat.mod_lt _ (by omega)
      have hm2 := nx_lt hkn
      have hxm1 := HX.out _ hm1
      have hxm2 := HX.out _ hm2
      have hq1 : (snK l k (pvx l k) : Int) * ((px l (pvx l k) - px l k).tdiv (snK l k (pvx l k) : Nat)) = px l (pvx l k) - px l k := Int.mul_tdiv_cancel' (Int.ofNat_dvd_left.2 (Nat.gcd_dvd_left _ _))
      have hq2 : (snK l k (pvx l k) : Int) * ((pz l (pvx l k) - pz l k).tdiv (snK l k (pvx l k) : Nat)) = pz l (pvx l k) - pz l k := Int.mul_tdiv_cancel' (Int.ofNat_dvd_left.2 (Nat.gcd_dvd_right _ _))
      have hq3 : (snK l k (nx l.length k) : Int) * ((px l (nx l.length k) - px l k).tdiv (snK l k (nx l.length k) : Nat)) = px l (nx l.length k) - px l k := Int.mul_tdiv_cancel' (Int.ofNat_dvd_left.2 (Nat.gcd_dvd_left _ _))
      have hq4 : (snK l k (nx l.length k) : Int) * ((pz l (nx l.length k) - pz l k).tdiv (snK l k (nx l.length k) : Nat)) = pz l (nx l.length k) - pz l k := Int.mul_tdiv_cancel' (Int.ofNat_dvd_left.2 (Nat.gcd_dvd_right _ _))
      have HQ := Lib.hid (And.intro (And.intro hwk (And.intro hxm1 hxm2)) (And.intro (And.intro hq1 hq2) (And.intro hq3 hq4)))
      have HST1 : Hid (∀ b : Int, stK l k (pvx l k) b = (px l k + b * ((px l (pvx l k) - px l k).tdiv (snK l k (pvx l k) : Nat)), pz l k + b * ((pz l (pvx l k) - pz l k).tdiv (snK l k (pvx l k) : Nat)))) := fun _ => rfl
      have HST2 : Hid (∀ b : Int, stK l k (nx l.length k) b = (px l k + b * ((px l (nx l.length k) - px l k).tdiv (snK l k (nx l.length k) : Nat)), pz l k + b * ((pz l (nx l.length k) - pz l k).tdiv (snK l k (nx l.length k) : Nat)))) := fun _ => rfl
      have HCH : Hid (ChOk l (k : Int) back on ↔ (1 ≤ back ∧ back ≤ (snK l k (pvx l k) : Nat)) ∧ (1 ≤ on ∧ on ≤ (snK l k (nx l.length k) : Nat))) := ⟨fun ⟨k', e, hk', h1, h2⟩ => by
          obtain rfl : k = k' := by omega
          exact ⟨h1, h2⟩, fun ⟨h1, h2⟩ => ⟨k, rfl, hkn, h1, h2⟩⟩
      have K7 := Lib.hid HT17.out.2.1
      have HB7 : Hid (∀ W, Below w7.heap.size w7 W → B2 w1.heap.size (px l k) (pz l k) W ∧ W.heap[T15]? = some (.cells #[.int .i64 ((px l (pvx l k) - px l k).tdiv (snK l k (pvx l k) : Nat)), .int .i64 ((pz l (pvx l k) - pz l k).tdiv (snK l k (pvx l k) : Nat))] 32 (0, 0)) ∧ W.heap[T17]? = some (.cells #[.int .i64 ((px l (nx l.length k) - px l k).tdiv (snK l k (nx l.length k) : Nat)), .int .i64 ((pz l (nx l.length k) - pz l k).tdiv (snK l k (nx l.length k) : Nat))] 32 (0, 0)) ∧ Below w0.heap.size w0 W) := fun W kk => by
        have h := HBX.out W (Below.thru K7.out K7.out.size kk)
        exact ⟨h.2.1, h.2.2.2.2, (kk.block _ (Array.getElem?_eq_some_iff.1 HT17.out.1).1).trans HT17.out.1, h.2.2.2.1⟩
      have KZ := Lib.hid (HB7.out w7 (Below.refl _ _)).2.2.2
      have HBA : Hid (∀ p q : Value, B2 w1.heap.size (px l k) (pz l k) (w7.alloc (.cells #[p, q] 32)) ∧ (w7.alloc (.cells #[p, q] 32)).heap[T17]? = some (.cells #[.int .i64 ((px l (nx l.length k) - px l k).tdiv (snK l k (nx l.length k) : Nat)), .int .i64 ((pz l (nx l.length k) - pz l k).tdiv (snK l k (nx l.length k) : Nat))] 32 (0, 0))) := fun p q => ⟨(HB7.out _ (bl1 _ _)).1, (HB7.out _ (bl1 _ _)).2.2.1⟩
      have q7 := HB7.out w7 (Below.refl _ _)
      obtain ⟨a0, a1, _, _⟩ := q7.1
      have d0 : w7.cell? ⟨T15, 0, none⟩ = some (.int .i64 ((px l (pvx l k) - px l k).tdiv (snK l k (pvx l k) : Nat))) := by simp [World.cell?, q7.2.1]
      have d1 : w7.cell? ⟨T15, 1, none⟩ = some (.int .i64 ((pz l (pvx l k) - pz l k).tdiv (snK l k (pvx l k) : Nat))) := by simp [World.cell?, q7.2.1]
      have f0 : w7.cell? ⟨T17, 0, none⟩ = some (.int .i64 ((px l (nx l.length k) - px l k).tdiv (snK l k (nx l.length k) : Nat))) := by simp [World.cell?, q7.2.2.1]
      have f1 : w7.cell? ⟨T17, 1, none⟩ = some (.int .i64 ((pz l (nx l.length k) - pz l k).tdiv (snK l k (nx l.length k) : Nat))) := by simp [World.cell?, q7.2.2.1]
      clear q7 hxm1 hxm2 hq1 hq2 hq3 hq4 hwk hw1 hrm HS84 HBX HT15 HT17 HG1 HG2 HB7
      generalize (px l (pvx l k) - px l k).tdiv (snK l k (pvx l k) : Nat) = sx1 at *
      generalize (pz l (pvx l k) - pz l k).tdiv (snK l k (pvx l k) : Nat) = sz1 at *
      generalize (px l (nx l.length k) - px l k).tdiv (snK l k (nx l.length k) : Nat) = sx2 at *
      generalize (pz l (nx l.length k) - pz l k).tdiv (snK l k (nx l.length k) : Nat) = sz2 at *
      generalize snK l k (pvx l k) = g1 at *
      generalize snK l k (nx l.length k) = g2 at *
      go_wp2_with fail
      refine (within_any _ _ _ _).mono ?_
      rintro e w8 ⟨rfl, hw8⟩
      subst hw8
      by_cases hb1 : 1 ≤ back ∧ back ≤ (g1 : Int)
      · rw [inB_t hb1.1 hb1.2]
        go_wp2_with fail
        refine (within_any _ _ _ _).mono ?_
        rintro e w8 ⟨rfl, hw8⟩
        subst hw8
        by_cases hb2 : 1 ≤ on ∧ on ≤ (g2 : Int)
        · rw [inB_t hb2.1 hb2.2]
          have HOK := Lib.hid (HCH.out.2 ⟨hb1, hb2⟩)
          obtain ⟨kb, rfl⟩ : ∃ kb : Nat, back = (kb : Int) := ⟨back.toNat, by omega⟩
          obtain ⟨ko, rfl⟩ : ∃ ko : Nat, on = (ko : Int) := ⟨on.toNat, by omega⟩
          have hQ := HQ.out
          have s1 := seg_bd (k := kb) hQ.2.1.1 (by omega) hQ.1.1.1 (by omega)
          have s2 := seg_bd (k := kb) hQ.2.1.2 (by omega) hQ.1.1.2 (by omega)
          have s3 := seg_bd (k := ko) hQ.2.2.1 (by omega) hQ.1.1.1 (by omega)
          have s4 := seg_bd (k := ko) hQ.2.2.2 (by omega) hQ.1.1.2 (by omega)
          have HP1 := Lib.hid (HST1.out kb)
          have HP2 := Lib.hid (HST2.out ko)
          have v1 := IntWalk.i64_in ((kb : Int) * sx1) (by omega)
          have v2 := IntWalk.i64_in ((kb : Int) * sz1) (by omega)
          have v3 := IntWalk.i64_in ((ko : Int) * sx2) (by omega)
          have v4 := IntWalk.i64_in ((ko : Int) * sz2) (by omega)
          generalize hu1 : (kb : Int) * sx1 = t1 at *
          generalize hu2 : (kb : Int) * sz1 = t2 at *
          generalize hu3 : (ko : Int) * sx2 = t3 at *
          generalize hu4 : (ko : Int) * sz2 = t4 at *
          have v5 := IntWalk.i64_in (px l k + t1) (by omega)
          have v6 := IntWalk.i64_in (pz l k + t2) (by omega)
          have v7 := IntWalk.i64_in (px l k + t3) (by omega)
          have v8 := IntWalk.i64_in (pz l k + t4) (by omega)
          clear s1 s2 s3 s4 hQ HQ HST1 HST2 HCH
          generalize hX1 : px l k + t1 = X1 at *
          generalize hZ1 : pz l k + t2 = Z1 at *
          generalize hX2 : px l k + t3 = X2 at *
          generalize hZ2 : pz l k + t4 = Z2 at *
          obtain ⟨w8, hw8⟩ : ∃ w8, w8 = (w7.alloc (.cells #[.int .i64 X1, .int .i64 Z1] 32)).alloc (.cells #[.int .i64 X2, .int .i64 Z2] 32) := ⟨_, rfl⟩
          have hb8 : Below w7.heap.size w7 w8 := by rw [hw8]; exact bl2 w7 _ _
          have K8 := Lib.hid (Below.thru KZ.out KZ.out.size hb8)
          have HW8 := Lib.hid hw8
          have q8 := HBS.out _ K8.out
          have s0 := q8.1.cell (i := 0) rfl; have s1 := q8.1.cell (i := 1) rfl; have s2 := q8.1.cell (i := 2) rfl; have s3 := q8.1.cell (i := 3) rfl; have s4 := q8.1.cell (i := 4) rfl; have s5 := q8.1.cell (i := 5) rfl
          rw [hw8] at s0 s1 s2 s3 s4 s5
          clear hw8 q8 hb8
          have qa := HBA.out (.int .i64 X1) (.int .i64 Z1)
          obtain ⟨aa0, aa1, _, _⟩ := qa.1
          have ff0 : (w7.alloc (.cells #[.int .i64 X1, .int .i64 Z1] 32)).cell? ⟨T17, 0, none⟩ = some (.int .i64 sx2) := by simp only [World.cell?, qa.2]; rfl
          have ff1 : (w7.alloc (.cells #[.int .i64 X1, .int .i64 Z1] 32)).cell? ⟨T17, 1, none⟩ = some (.int .i64 sz2) := by simp only [World.cell?, qa.2]; rfl
          clear qa
          go_wp2_with fail
          rw [← HW8.out]
          clear s0 s1 s2 s3 s4 s5 a0 a1 d0 d1 f0 f1 aa0 aa1 ff0 ff1
          refine (HSP.out w8 (HBS.out _ K8.out).2.2.2 _ _ _ _).mono ?_
          rintro e w9 ⟨⟨na, pa, ma, ca, da, ea, ga, ha, nb, pb, mb, cb, db, eb, gb, ib, er, rfl, hE, hA, hO⟩, hb9⟩
          have K9 := Lib.hid (Below.thru K8.out K8.out.size hb9)
          have HE9 := Lib.hid hE
          have HA9 := Lib.hid hA
          have HO9 := Lib.hid hO
          have hl8 := HLW.out _ K8.out
          have q9 := HBS.out _ K9.out
          have zc0 := q9.2.1.cell (i := 0) rfl; have zc1 := q9.2.1.cell (i := 1) rfl; have zc2 := q9.2.1.cell (i := 2) rfl; have zc3 := q9.2.1.cell (i := 3) rfl; have zc4 := q9.2.1.cell (i := 4) rfl; have zc5 := q9.2.1.cell (i := 5) rfl; have zcf0 := q9.2.1.frozen 0; have zcf1 := q9.2.1.frozen 1; have zcf2 := q9.2.1.frozen 2; have zcf3 := q9.2.1.frozen 3; have zcf4 := q9.2.1.frozen 4; have zcf5 := q9.2.1.frozen 5
          have yc0 := q9.2.2.1.cell (i := 0) rfl; have yc1 := q9.2.2.1.cell (i := 1) rfl; have yc2 := q9.2.2.1.cell (i := 2) rfl; have yc3 := q9.2.2.1.cell (i := 3) rfl; have yc4 := q9.2.2.1.cell (i := 4) rfl; have yc5 := q9.2.2.1.cell (i := 5) rfl; have ycf0 := q9.2.2.1.frozen 0; have ycf1 := q9.2.2.1.frozen 1; have ycf2 := q9.2.2.1.frozen 2; have ycf3 := q9.2.2.1.frozen 3; have ycf4 := q9.2.2.1.frozen 4; have ycf5 := q9.2.2.1.frozen 5
          have hl := HLW.out _ K9.out
          clear q9 hE hA hO hb9
          go_wp2
          refine bodyPost_ret (v := .tuple #[.agg (c6 na (.slice pa ma ca) da ea ga ha), .agg (c6 nb (.slice pb mb cb) db eb gb ib), .int .i64 er]) (by simp [results, Try.results42, go_sem, zc0, zc1, zc2, zc3, zc4, zc5, yc0, yc1, yc2, yc3, yc4, yc5]) rfl (HEK.out k _ er na pa ma ca da ea ga ha nb pb mb cb db eb gb ib rfl HV.out HOK.out (by rw [HP1.out, HP2.out]; exact HE9.out) HA9.out (fun h0 => ?_) (below6 (below6 (HBS.out _ K9.out).2.2.2 (by omega) _ _ _ _ _ _) (by omega) _ _ _ _ _ _))
          have hO := HO9.out h0
          rw [HP1.out, HP2.out]
          exact ⟨⟨hO.1.1, ((Own.far6 (Own.far6 hO.1.2 (by omega) _ _ _ _ _ _) (by omega) _ _ _ _ _ _).base (by omega))⟩, ⟨hO.2.1, ((Own.far6 (Own.far6 hO.2.2 (by omega) _ _ _ _ _ _) (by omega) _ _ _ _ _ _).base (by omega))⟩⟩
        · have hin : inB on 1 (g2 : Int) = false := by simpa [inB] using fun h => Int.not_le.1 (fun h2 => hb2 ⟨h, h2⟩)
          rw [hin]
          have HNO : Hid (¬ ChOk l (k : Int) back on) := fun h => hb2 (HCH.out.1 h).2
          clear hin a0 a1 d0 d1 f0 f1
          have q2 := HBS.out _ KZ.out
          have zc0 := q2.2.1.cell (i := 0) rfl; have zc1 := q2.2.1.cell (i := 1) rfl; have zc2 := q2.2.1.cell (i := 2) rfl; have zc3 := q2.2.1.cell (i := 3) rfl; have zc4 := q2.2.1.cell (i := 4) rfl; have zc5 := q2.2.1.cell (i := 5) rfl; have zcf0 := q2.2.1.frozen 0; have zcf1 := q2.2.1.frozen 1; have zcf2 := q2.2.1.frozen 2; have zcf3 := q2.2.1.frozen 3; have zcf4 := q2.2.1.frozen 4; have zcf5 := q2.2.1.frozen 5
          have yc0 := q2.2.2.1.cell (i := 0) rfl; have yc1 := q2.2.2.1.cell (i := 1) rfl; have yc2 := q2.2.2.1.cell (i := 2) rfl; have yc3 := q2.2.2.1.cell (i := 3) rfl; have yc4 := q2.2.2.1.cell (i := 4) rfl; have yc5 := q2.2.2.1.cell (i := 5) rfl; have ycf0 := q2.2.2.1.frozen 0; have ycf1 := q2.2.2.1.frozen 1; have ycf2 := q2.2.2.1.frozen 2; have ycf3 := q2.2.2.1.frozen 3; have ycf4 := q2.2.2.1.frozen 4; have ycf5 := q2.2.2.1.frozen 5
          have hl := HLW.out _ KZ.out
          clear q2
          go_wp2
          refine bodyPost_ret (v := .tuple #[zst, zst, .int .i64 3]) (by simp [results, Try.results42, go_sem, zst, zc0, zc1, zc2, zc3, zc4, zc5, yc0, yc1, yc2, yc3, yc4, yc5]) rfl (HE3.out _ HV.out HNO.out (below6 (below6 (HBS.out _ KZ.out).2.2.2 (by omega) _ _ _ _ _ _) (by omega) _ _ _ _ _ _))
      · have hin : inB back 1 (g1 : Int) = false := by simpa [inB] using fun h => Int.not_le.1 (fun h2 => hb1 ⟨h, h2⟩)
        rw [hin]
        have HNO : Hid (¬ ChOk l (k : Int) back on) := fun h => hb1 (HCH.out.1 h).1
        clear hin a0 a1 d0 d1 f0 f1
        have q2 := HBS.out _ KZ.out
        have zc0 := q2.2.1.cell (i := 0) rfl; have zc1 := q2.2.1.cell (i := 1) rfl; have zc2 := q2.2.1.cell (i := 2) rfl; have zc3 := q2.2.1.cell (i := 3) rfl; have zc4 := q2.2.1.cell (i := 4) rfl; have zc5 := q2.2.1.cell (i := 5) rfl; have zcf0 := q2.2.1.frozen 0; have zcf1 := q2.2.1.frozen 1; have zcf2 := q2.2.1.frozen 2; have zcf3 := q2.2.1.frozen 3; have zcf4 := q2.2.1.frozen 4; have zcf5 := q2.2.1.frozen 5
        have yc0 := q2.2.2.1.cell (i := 0) rfl; have yc1 := q2.2.2.1.cell (i := 1) rfl; have yc2 := q2.2.2.1.cell (i := 2) rfl; have yc3 := q2.2.2.1.cell (i := 3) rfl; have yc4 := q2.2.2.1.cell (i := 4) rfl; have yc5 := q2.2.2.1.cell (i := 5) rfl; have ycf0 := q2.2.2.1.frozen 0; have ycf1 := q2.2.2.1.frozen 1; have ycf2 := q2.2.2.1.frozen 2; have ycf3 := q2.2.2.1.frozen 3; have ycf4 := q2.2.2.1.frozen 4; have ycf5 := q2.2.2.1.frozen 5
        have hl := HLW.out _ KZ.out
        clear q2
        go_wp2
        refine bodyPost_ret (v := .tuple #[zst, zst, .int .i64 3]) (by simp [results, Try.results42, go_sem, zst, zc0, zc1, zc2, zc3, zc4, zc5, yc0, yc1, yc2, yc3, yc4, yc5]) rfl (HE3.out _ HV.out HNO.out (below6 (below6 (HBS.out _ KZ.out).2.2.2 (by omega) _ _ _ _ _ _) (by omega) _ _ _ _ _ _))
    · have hin : inB corner 0 ((l.length : Int) - 1) = false := by simpa [inB] using fun h => Int.not_le.1 (fun h2 => hcr ⟨h, h2⟩)
      rw [hin]
      have HNO : Hid (¬ ChOk l corner back on) := fun ⟨k, e, hk, _⟩ => hcr ⟨by omega, by omega⟩
      clear hin hcr s1
      have q2 := HBS.out _ K1.out
      have zc0 := q2.2.1.cell (i := 0) rfl; have zc1 := q2.2.1.cell (i := 1) rfl; have zc2 := q2.2.1.cell (i := 2) rfl; have zc3 := q2.2.1.cell (i := 3) rfl; have zc4 := q2.2.1.cell (i := 4) rfl; have zc5 := q2.2.1.cell (i := 5) rfl; have zcf0 := q2.2.1.frozen 0; have zcf1 := q2.2.1.frozen 1; have zcf2 := q2.2.1.frozen 2; have zcf3 := q2.2.1.frozen 3; have zcf4 := q2.2.1.frozen 4; have zcf5 := q2.2.1.frozen 5
      have yc0 := q2.2.2.1.cell (i := 0) rfl; have yc1 := q2.2.2.1.cell (i := 1) rfl; have yc2 := q2.2.2.1.cell (i := 2) rfl; have yc3 := q2.2.2.1.cell (i := 3) rfl; have yc4 := q2.2.2.1.cell (i := 4) rfl; have yc5 := q2.2.2.1.cell (i := 5) rfl; have ycf0 := q2.2.2.1.frozen 0; have ycf1 := q2.2.2.1.frozen 1; have ycf2 := q2.2.2.1.frozen 2; have ycf3 := q2.2.2.1.frozen 3; have ycf4 := q2.2.2.1.frozen 4; have ycf5 := q2.2.2.1.frozen 5
      have hl := HLW.out _ K1.out
      clear q2
      go_wp2
      refine bodyPost_ret (v := .tuple #[zst, zst, .int .i64 3]) (by simp [results, Try.results42, go_sem, zst, zc0, zc1, zc2, zc3, zc4, zc5, yc0, yc1, yc2, yc3, yc4, yc5]) rfl (HE3.out _ HV.out HNO.out (below6 (below6 (HBS.out _ K1.out).2.2.2 (by omega) _ _ _ _ _ _) (by omega) _ _ _ _ _ _))
  · have HV := Lib.hid hv
    clear hv
    have q2 := HBS.out _ K1.out
    have zc0 := q2.2.1.cell (i := 0) rfl; have zc1 := q2.2.1.cell (i := 1) rfl; have zc2 := q2.2.1.cell (i := 2) rfl; have zc3 := q2.2.1.cell (i := 3) rfl; have zc4 := q2.2.1.cell (i := 4) rfl; have zc5 := q2.2.1.cell (i := 5) rfl; have zcf0 := q2.2.1.frozen 0; have zcf1 := q2.2.1.frozen 1; have zcf2 := q2.2.1.frozen 2; have zcf3 := q2.2.1.frozen 3; have zcf4 := q2.2.1.frozen 4; have zcf5 := q2.2.1.frozen 5
    have yc0 := q2.2.2.1.cell (i := 0) rfl; have yc1 := q2.2.2.1.cell (i := 1) rfl; have yc2 := q2.2.2.1.cell (i := 2) rfl; have yc3 := q2.2.2.1.cell (i := 3) rfl; have yc4 := q2.2.2.1.cell (i := 4) rfl; have yc5 := q2.2.2.1.cell (i := 5) rfl; have ycf0 := q2.2.2.1.frozen 0; have ycf1 := q2.2.2.1.frozen 1; have ycf2 := q2.2.2.1.frozen 2; have ycf3 := q2.2.2.1.frozen 3; have ycf4 := q2.2.2.1.frozen 4; have ycf5 := q2.2.2.1.frozen 5
    have hl := HLW.out _ K1.out
    clear q2
    go_wp2
    refine bodyPost_ret (v := .tuple #[zst, zst, .int .i64 2]) (by simp [results, Try.results42, go_sem, zst, zc0, zc1, zc2, zc3, zc4, zc5, yc0, yc1, yc2, yc3, yc4, yc5]) rfl (HE2.out _ HV.out (below6 (below6 (HBS.out _ K1.out).2.2.2 (by omega) _ _ _ _ _ _) (by omega) _ _ _ _ _ _))
end Go.Proofs.Ytljmhejljpfaiaa

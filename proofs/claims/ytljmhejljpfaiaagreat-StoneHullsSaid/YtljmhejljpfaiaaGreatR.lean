import Derived.RangeFuncNested
import Derived.RangeFuncBound
import Derived.RangeFuncCalls
import Derived.RangeFuncLeaves
import Derived.RangeFuncBox
import Derived.Shelf.Abstract
import Derived.Shelf.RegionOpen
import Derived.OwnWalkIn
import Derived.TacticsInMore
import Derived.LoopNIn
import Derived.LoopIn
import Derived.Maps.AppendAt
/-
A range over a function whose iterator itself ranges over functions and has boxes of its own. The caller says which boxes are its own ('Bs': what they hold, and the rows that they lead to, is its own); the iterator may turn whatever else has been laid since it was called, and relies on a round to turn nothing but the caller's own.
-/
namespace Go.Proofs.YtljmhejljpfaiaaGreat
set_option maxRecDepth 100000
open Go.RowKit Go.Shelf

/-- block k is a row to which one of the boxes leads -/
def ow (Bs : List Nat) (W : World) (k : Nat) : Prop := (∃ B n c, B ∈ Bs ∧ W.cell? ⟨B, 0, none⟩ = some (.slice (some ⟨k, 0, none⟩) n c)) ∧ ∃ cur T u, W.heap[k]? = some (.cells cur T u)
/-- no box leads beyond what there is -/
def Sane (Bs : List Nat) (W : World) : Prop := ∀ B ∈ Bs, B < W.heap.size ∧ ∀ k n c, W.cell? ⟨B, 0, none⟩ = some (.slice (some ⟨k, 0, none⟩) n c) → k < W.heap.size
/-- what the caller bears: whatever lay below B, and its own rows, lie as they lay -/
structure Ch (B : Nat) (Bs : List Nat) (W W' : World) : Prop where
  os : W'.os = W.os
  tape : W'.tape = W.tape
  output : W'.output = W.output
  size : W.heap.size ≤ W'.heap.size
  block : ∀ k, k < W.heap.size → k < B ∨ ow Bs W k → W'.heap[k]? = W.heap[k]?
def Bears {β : Type} (B : Nat) (Bs : List Nat) (J : β → World → Prop) : Prop := ∀ s W W', J s W → Ch B Bs W W' → J s W'
/-- what a round promises: nothing but the caller's own has turned -/
structure KO (B : Nat) (Bs : List Nat) (W W' : World) : Prop where
  size : W.heap.size ≤ W'.heap.size
  cells : ∀ k cur T u, k ∉ Bs → ¬ ow Bs W k → W.heap[k]? = some (.cells cur T u) → W'.heap[k]? = some (.cells cur T u)
  objs : ∀ k o, B ≤ k → ¬ ow Bs W k → W.heap[k]? = some o → W'.heap[k]? = some o
  own : ∀ k, k < W.heap.size → ¬ ow Bs W k → ¬ ow Bs W' k
  sane : Sane Bs W → Sane Bs W'
theorem cell_same {W W' : World} {a : Addr} (h : W'.heap[a.block]? = W.heap[a.block]?) : W'.cell? a = W.cell? a := World.cell?_of_block h
theorem Ch.refl (B : Nat) (Bs : List Nat) (W : World) : Ch B Bs W W := ⟨rfl, rfl, rfl, Nat.le_refl _, fun _ _ _ => rfl⟩
theorem Ch.ow_iff {B : Nat} {Bs : List Nat} {W W' : World} (h : Ch B Bs W W') (hs : ∀ b ∈ Bs, b < B ∧ b < W.heap.size) {k : Nat} (hk : k < W.heap.size) : ow Bs W k → ow Bs W' k := by
  rintro ⟨⟨b, n, c, hb, hc⟩, cur, T, u, hu⟩
  exact ⟨⟨b, n, c, hb, (cell_same (a := ⟨b, 0, none⟩) (h.block b (hs b hb).2 (.inl (hs b hb).1))).trans hc⟩, cur, T, u, (h.block k hk (.inr ⟨⟨b, n, c, hb, hc⟩, cur, T, u, hu⟩)).trans hu⟩
theorem Ch.trans {B : Nat} {Bs : List Nat} {X Y Z : World} (h : Ch B Bs X Y) (k : Ch B Bs Y Z) (hs : ∀ b ∈ Bs, b < B ∧ b < X.heap.size) : Ch B Bs X Z :=
  ⟨k.os.trans h.os, k.tape.trans h.tape, k.output.trans h.output, Nat.le_trans h.size k.size, fun i hi hc =>
    (k.block i (Nat.lt_of_lt_of_le hi h.size) (hc.imp id fun ho => h.ow_iff hs hi ho)).trans (h.block i hi hc)⟩
theorem Ch.mono {B B' : Nat} {Bs : List Nat} {X Y : World} (h : Ch B Bs X Y) (hb : B' ≤ B) : Ch B' Bs X Y := ⟨h.os, h.tape, h.output, h.size, fun k hk hc => h.block k hk (hc.imp (fun h => Nat.lt_of_lt_of_le h hb) id)⟩
theorem Ch.alloc {B : Nat} {Bs : List Nat} (W : World) (o : Obj) : Ch B Bs W (W.alloc o) := ⟨rfl, rfl, rfl, by simp, fun k hk _ => Below.heap_alloc W o k hk⟩
theorem Ch.drew {B : Nat} {Bs : List Nat} (W : World) : Ch B Bs W W.drew := ⟨rfl, rfl, rfl, Nat.le_refl _, fun _ _ _ => rfl⟩
theorem Ch.of_below {B : Nat} {Bs : List Nat} {W W' : World} (h : Below W.heap.size W W') : Ch B Bs W W' := ⟨h.os, h.tape, h.output, h.size, fun k hk _ => h.block k hk⟩
theorem Ch.sane {B : Nat} {Bs : List Nat} {W W' : World} (h : Ch B Bs W W') (hs : ∀ b ∈ Bs, b < B) (k : Sane Bs W) : Sane Bs W' := fun b hb => by
  have e : W'.cell? ⟨b, 0, none⟩ = W.cell? ⟨b, 0, none⟩ := cell_same (a := ⟨b, 0, none⟩) (h.block b (k b hb).1 (.inl (hs b hb)))
  exact ⟨Nat.lt_of_lt_of_le (k b hb).1 h.size, fun q n c hq => Nat.lt_of_lt_of_le ((k b hb).2 q n c (e.symm.trans hq)) h.size⟩
theorem KO.refl (B : Nat) (Bs : List Nat) (W : World) : KO B Bs W W := ⟨Nat.le_refl _, fun _ _ _ _ _ _ h => h, fun _ _ _ _ h => h, fun _ _ h => h, id⟩
theorem KO.trans {B : Nat} {Bs : List Nat} {X Y Z : World} (h : KO B Bs X Y) (k : KO B Bs Y Z) : KO B Bs X Z :=
  ⟨Nat.le_trans h.size k.size, fun i cur T u h1 h2 h3 => k.cells i cur T u h1 (h.own i (Array.getElem?_eq_some_iff.1 h3).1 h2) (h.cells i cur T u h1 h2 h3),
   fun i o h1 h2 h3 => k.objs i o h1 (h.own i (Array.getElem?_eq_some_iff.1 h3).1 h2) (h.objs i o h1 h2 h3), fun i hi h2 => k.own i (Nat.lt_of_lt_of_le hi h.size) (h.own i hi h2), fun hs => k.sane (h.sane hs)⟩
theorem KO.mono {B B' : Nat} {Bs : List Nat} {X Y : World} (h : KO B Bs X Y) (hb : B ≤ B') : KO B' Bs X Y := ⟨h.size, h.cells, fun k o hk => h.objs k o (Nat.le_trans hb hk), h.own, h.sane⟩
/-- new blocks alone -/
theorem KO.of_below {B : Nat} {Bs : List Nat} {W W' : World} (h : Below W.heap.size W W') (hs : Sane Bs W) : KO B Bs W W' := by
  have hc : ∀ b, b ∈ Bs → W'.cell? ⟨b, 0, none⟩ = W.cell? ⟨b, 0, none⟩ := fun b hb => h.cell (p := ⟨b, 0, none⟩) (hs b hb).1
  refine ⟨h.size, fun k cur T u _ _ hk => (h.block k (Array.getElem?_eq_some_iff.1 hk).1).trans hk, fun k o _ _ hk => (h.block k (Array.getElem?_eq_some_iff.1 hk).1).trans hk, fun k hk hn ho => ?_, fun hs b hb => ⟨Nat.lt_of_lt_of_le (hs b hb).1 h.size, fun q n c hq => Nat.lt_of_lt_of_le ((hs b hb).2 q n c ((hc b hb).symm.trans hq)) h.size⟩⟩
  obtain ⟨⟨b, n, c, hb, hq⟩, cur, T, u, hu⟩ := ho
  exact hn ⟨⟨b, n, c, hb, (hc b hb).symm.trans hq⟩, cur, T, u, (h.block k hk).symm.trans hu⟩
theorem KO.drew {B : Nat} {Bs : List Nat} (W : World) : KO B Bs W W.drew := ⟨Nat.le_refl _, fun _ _ _ _ _ _ h => h, fun _ _ _ _ h => h, fun _ _ h => h, id⟩
/-- a block of book-keeping is turned -/
theorem ch_putObj {B l : Nat} {Bs : List Nat} {W : World} {o : Obj} (o' : Obj) (hl : W.heap[l]? = some o) (ho : o.isCells = false) (hB : B ≤ l) : Ch B Bs W (W.putObj l o') :=
  ⟨rfl, rfl, rfl, by simp, fun k _ hc => World.putObj_heap_other (fun e => by
    subst e
    rcases hc with h | ⟨_, cur, T, u, h⟩
    · omega
    · rw [hl] at h; cases h; cases ho)⟩
theorem ko_putObj {B l : Nat} {Bs : List Nat} {W : World} {o : Obj} (o' : Obj) (hl : W.heap[l]? = some o) (ho : o.isCells = false) (ho' : o'.isCells = false) (hB : l < B) (hs : ∀ b ∈ Bs, b < l) : KO B Bs W (W.putObj l o') := by
  have hc : ∀ b, b ∈ Bs → (W.putObj l o').cell? ⟨b, 0, none⟩ = W.cell? ⟨b, 0, none⟩ := fun b hb => cell_same (a := ⟨b, 0, none⟩) (World.putObj_heap_other (fun e => by have := hs b hb; have e' : b = l := e; omega))
  refine ⟨by simp, fun k cur T u _ _ hk => (World.putObj_heap_other (fun e => by subst e; rw [hl] at hk; cases hk; cases ho)).trans hk, fun k q hk _ hq => (World.putObj_heap_other (by omega)).trans hq, fun k hk hn hw => ?_, fun h b hb => ⟨by have := (h b hb).1; simpa using this, fun q n c hq => by have := (h b hb).2 q n c ((hc b hb).symm.trans hq); simpa using this⟩⟩
  obtain ⟨⟨b, n, c, hb, hq⟩, cur, T, u, hu⟩ := hw
  refine hn ⟨⟨b, n, c, hb, (hc b hb).symm.trans hq⟩, ?_⟩
  by_cases e : k = l
  · subst e
    rw [World.putObj_heap_same (Array.getElem?_eq_some_iff.1 hl).1] at hu
    cases hu; cases ho'
  · exact ⟨cur, T, u, (World.putObj_heap_other e).symm.trans hu⟩

theorem round_any {m m' : Nat} {P : Program} {l : Nat} {f : FuncId} {tmps : Array Value} {assign body : Code} {w : World} {R : Ending → World → Prop} (h : RoundIn Fence.wide m P l f tmps assign body w R) : RoundIn Fence.wide m' P l f tmps assign body w R :=
  ⟨h.1, fun c cs _ => h.2 c cs (room_wide _)⟩
/-- what the iterator hands over, whatever boxes the caller has -/
def SeqX {α : Type} (P : Program) (g : Nat) (lb : Array Value) (encs : α → Array Value) (Pv : Nat → Prop) (S : List α → Prop) (N : Nat) (w0 : World) : Prop :=
  ∀ (n l : Nat) (Bs : List Nat) (J Jx : List α → World → Prop) (W : World), Below w0.heap.size w0 W → Sane Bs W → (∀ k, Pv k → k ∉ Bs ∧ ¬ ow Bs W k) → Bears W.heap.size Bs J → Bears W.heap.size Bs Jx →
    (∀ m pre x W1, J pre W1 → Sane Bs W1 → pre.length < N → YieldAt Fence.wide m P l (encs x) W1 fun e W' =>
      (e = .returned (.bool true) ∧ J (pre ++ [x]) W' ∧ KO W.heap.size Bs W1 W') ∨ (e = .returned (.bool false) ∧ Jx (pre ++ [x]) W' ∧ KO W.heap.size Bs W1 W')) →
    J [] W → CallsIn Fence.wide n P g (#[.func (.yield l) #[] #[]] ++ lb) W fun e W' => (∃ v, e = .returned v) ∧ ((∃ xs, S xs ∧ J xs W') ∨ (∃ pre, Jx pre W'))

/-- how a round's body may be left -/
def postX {α : Type} (B : Nat) (Bs : List Nat) (I : List α → World → Prop) (Ix : Code → List α → World → Prop) (xs : List α) (W : World) : Exit → Act → World → Prop
  | .normal, _, W' => KO B Bs W W' ∧ I xs W'
  | .ret, _, W' => KO B Bs W W' ∧ Ix .ret xs W'
  | .exit id, _, W' => KO B Bs W W' ∧ Ix (.exit id) xs W'
  | .goto t, _, W' => KO B Bs W W' ∧ Ix (.goto t) xs W'
  | .panic _, _, _ => False
  | .outgrown, _, _ => False
theorem rangeX {α : Type} {P : Program} {n : Nat} {g : Operand} {ps : Array Tmp} {assign body : Code} {Q : Exit → Act → World → Prop} {a : Act} {w : World} (Bs : List Nat)
    {gf : Nat} {lb : Array Value} (hg : a.eval g = .func (.func gf) #[] lb) (eg : ∀ args w, (callFunc gf args).run P w = .ok (.enter gf args) w)
    {encs : α → Array Value} {Pv : Nat → Prop} {S : List α → Prop} {N : Nat} {w0 : World} (hseq : SeqX P gf lb encs Pv S N w0) (hb0 : Below w0.heap.size w0 w) (hps : ∀ x, (encs x).size = ps.size)
    (hsane : Sane Bs w) (hpv : ∀ k, Pv k → k < w.heap.size ∧ k ∉ Bs ∧ ¬ ow Bs w k)
    (I : List α → World → Prop) (Ix : Code → List α → World → Prop) (hI : Bears w.heap.size Bs I) (hIx : ∀ c, Bears w.heap.size Bs (Ix c)) (h0 : I [] w)
    (Ax : α → Act → World → Prop) (hAx : ∀ x a' (W : World) (l : Nat) (o o' : Obj), W.heap[l]? = some o → o.isCells = false → o'.isCells = false → Ax x a' W → Ax x a' (W.putObj l o'))
    (hassign : ∀ (l : Nat) (pre : List α) (x : α) (W : World) (K : Act → World → Prop), I pre W → Sane Bs W → (∀ a' W', KO w.heap.size Bs W W' → I pre W' → Ax x a' W' → K a' W') →
      assign.wpIn (Fence.wide.inRound l) 0 P (Exit.then K (fun _ _ _ => False)) { tmps := (ps.zip (encs x)).foldl (fun t (p, v) => t.setIfInBounds p v) a.tmps, defers := [] } W)
    (hbody : ∀ (l : Nat) (pre : List α) (x : α) (a' : Act) (W : World), I pre W → Sane Bs W → Ax x a' W → pre.length < N → body.wpIn (Fence.wide.inRound l) 0 P (postX w.heap.size Bs I Ix (pre ++ [x]) W) a' W)
    (hdone : ∀ (D : Nat) (xs : List α) (W : World), w.heap.size ≤ D → S xs → I xs W → W.heap[D]? = some (.deferred (some [])) → Q .normal { a with defers := { target := .collected D, args := #[] } :: a.defers } W)
    (hstop : ∀ (D : Nat) (c : Code) (pre : List α) (W : World), w.heap.size ≤ D → Ix c pre W → W.heap[D]? = some (.deferred (some [])) → c.wpIn Fence.wide n P Q { a with defers := { target := .collected D, args := #[] } :: a.defers } W) :
    (Code.rangeFunc g ps assign body).wpIn Fence.wide n P Q a w := by
  refine wpIn_rangeFunc fun fn _ => ?_
  show ∃ (l : Nat) (mark : List Deferred) (w₁ : World) (d : Deferred) (w₁' : World) (f : FuncId) (args : Array Value) (w₂ : World), (Instr.enterLoop fn a.tmps ps assign body none).run P w = .ok (l, mark) w₁ ∧ _
  obtain ⟨rec, hrec⟩ : ∃ rec : LoopState → Option Code → Loop, rec = fun st pe => { state := st, pending := pe, fn, tmps := a.tmps, params := ps, assign, body, defers := w.heap.size } := ⟨_, rfl⟩
  obtain ⟨V, hV⟩ : ∃ V, (w.alloc (.deferred (some []))).alloc (.loop (rec .ready none)) = V := ⟨_, rfl⟩
  have hVs : V.heap.size = w.heap.size + 1 + 1 := by rw [← hV]; simp
  have hVl : V.heap[w.heap.size + 1]? = some (.loop (rec .ready none)) := by
    rw [← hV]; have := World.alloc_heap_new (w.alloc (.deferred (some []))) (.loop (rec .ready none)); rwa [World.size_alloc] at this
  have hVd : V.heap[w.heap.size]? = some (.deferred (some [])) := by
    rw [← hV]; exact (Below.heap_alloc _ _ _ (by simp)).trans (World.alloc_heap_new w _)
  have hBV : Below w.heap.size w V := by rw [← hV]; exact ((Below.refl _ w).alloc (Nat.le_refl _) _).alloc (by simp) _
  have cV : Ch w.heap.size Bs w V := Ch.of_below hBV
  have hlow : ∀ b ∈ Bs, b < w.heap.size := fun b hb => (hsane b hb).1
  refine ⟨w.heap.size + 1, [{ target := .collected w.heap.size, args := #[] }], V, { target := .fn (.func gf) lb, args := #[.func (.yield (w.heap.size + 1)) #[] #[]] }, V, gf,
    #[.func (.yield (w.heap.size + 1)) #[] #[]] ++ lb, V, ?_, ?_, fun _ _ => trivial, ?_, ?_, ?_⟩
  · rw [← hV, hrec]; exact run_enterLoop_outer _ _ _ _ _
  · simp only [resolve, hg]
    simp [go_sem]
  · simp [invoke, go_sem, eg]
  · intro h; exact absurd h (by decide)
  refine (hseq (n - 1) (w.heap.size + 1) Bs
    (fun pre W => I pre W ∧ W.heap[w.heap.size + 1]? = some (.loop (rec .ready none)) ∧ W.heap[w.heap.size]? = some (.deferred (some [])))
    (fun pre W => ∃ c, Ix c pre W ∧ W.heap[w.heap.size + 1]? = some (.loop (rec .done (some c))) ∧ W.heap[w.heap.size]? = some (.deferred (some [])))
    V (hb0.trans (hBV.mono hb0.size)) (cV.sane hlow hsane) (fun k hk => ⟨(hpv k hk).2.1, fun ho => ?_⟩) ?_ ?_ ?_ ⟨hI _ _ _ h0 cV, hVl, hVd⟩).mono ?_
  · obtain ⟨⟨b, m, c, hb, hq⟩, cur, T, u, hu⟩ := ho
    refine (hpv k hk).2.2 ⟨⟨b, m, c, hb, ?_⟩, cur, T, u, (hBV.block k (hpv k hk).1).symm.trans hu⟩
    exact (hBV.cell (p := ⟨b, 0, none⟩) (hlow b hb)).symm.trans hq
  · rintro s A C ⟨h1, h2, h3⟩ hc
    refine ⟨hI _ _ _ h1 (hc.mono (by omega)), (hc.block _ (Array.getElem?_eq_some_iff.1 h2).1 (.inl (by omega))).trans h2, (hc.block _ (Array.getElem?_eq_some_iff.1 h3).1 (.inl (by omega))).trans h3⟩
  · rintro s A C ⟨c, h1, h2, h3⟩ hc
    refine ⟨c, hIx c _ _ _ h1 (hc.mono (by omega)), (hc.block _ (Array.getElem?_eq_some_iff.1 h2).1 (.inl (by omega))).trans h2, (hc.block _ (Array.getElem?_eq_some_iff.1 h3).1 (.inl (by omega))).trans h3⟩
  · -- one round
    rintro m pre x W ⟨hi, hl, hd⟩ hsW hlen
    have hy := run_yield (P := P) (args := encs x) hl (by rw [hrec]; exact hps x)
    rw [hrec] at hy
    refine ⟨fn, _, assign, body, hy, round_any (roundIn_of_wpIn trivial (hassign _ pre x W _ hi hsW fun a' X hX hiX hax => ?_))⟩
    have nol : ∀ {Y : World} {k : Nat} {o : Obj}, Y.heap[k]? = some o → o.isCells = false → ¬ ow Bs Y k := by
      rintro Y k o hk ho ⟨_, cur, T, u, h⟩
      rw [hk] at h; cases h; cases ho
    have hlX := hX.objs _ _ (Nat.le_succ _) (nol hl rfl) hl
    have hdX := hX.objs _ _ (Nat.le_refl _) (nol hd rfl) hd
    have hltX : w.heap.size + 1 < X.heap.size := (Array.getElem?_eq_some_iff.1 hlX).1
    refine ⟨_, run_beginRound hlX (by rw [hrec]), ?_⟩
    have cb : Ch w.heap.size Bs X (X.putObj (w.heap.size + 1) (.loop { rec .ready none with state := .busy })) := ch_putObj _ hlX rfl (Nat.le_succ _)
    have kb : KO V.heap.size Bs X (X.putObj (w.heap.size + 1) (.loop { rec .ready none with state := .busy })) := ko_putObj _ hlX rfl rfl (by omega) (fun b hb => by have := hlow b hb; omega)
    have hlY : (X.putObj (w.heap.size + 1) (.loop { rec .ready none with state := .busy })).heap[w.heap.size + 1]? = some (.loop { rec .ready none with state := .busy }) := World.putObj_heap_same hltX
    have hdY : (X.putObj (w.heap.size + 1) (.loop { rec .ready none with state := .busy })).heap[w.heap.size]? = some (.deferred (some [])) := (World.putObj_heap_other (by omega)).trans hdX
    refine wpIn_mono (hbody _ pre x a' _ (hI _ _ _ hiX cb) (kb.sane (hX.sane hsW)) (hAx x a' _ _ _ _ hlX rfl rfl hax) hlen) ?_
    have fin : ∀ (jump : Option Code) (Z : World), KO w.heap.size Bs (X.putObj (w.heap.size + 1) (.loop { rec .ready none with state := .busy })) Z →
        (Instr.endRound (w.heap.size + 1) jump).run P Z = .ok (.bool jump.isNone) (Z.putObj (w.heap.size + 1) (.loop (rec (if jump.isNone then .ready else .done) jump))) ∧
        (Z.putObj (w.heap.size + 1) (.loop (rec (if jump.isNone then .ready else .done) jump))).heap[w.heap.size + 1]? = some (.loop (rec (if jump.isNone then .ready else .done) jump)) ∧
        (Z.putObj (w.heap.size + 1) (.loop (rec (if jump.isNone then .ready else .done) jump))).heap[w.heap.size]? = some (.deferred (some [])) ∧
        Ch w.heap.size Bs Z (Z.putObj (w.heap.size + 1) (.loop (rec (if jump.isNone then .ready else .done) jump))) ∧
        KO V.heap.size Bs W (Z.putObj (w.heap.size + 1) (.loop (rec (if jump.isNone then .ready else .done) jump))) := fun jump Z hZ => by
      have hlZ := hZ.objs _ _ (Nat.le_succ _) (nol hlY rfl) hlY
      have hdZ := hZ.objs _ _ (Nat.le_refl _) (nol hdY rfl) hdY
      have he := run_endRound (P := P) jump hlZ
      have k2 : KO V.heap.size Bs Z (Z.putObj (w.heap.size + 1) (.loop (rec (if jump.isNone then .ready else .done) jump))) := ko_putObj _ hlZ rfl rfl (by omega) (fun b hb => by have := hlow b hb; omega)
      refine ⟨by rw [hrec] at he ⊢; exact he, World.putObj_heap_same (Array.getElem?_eq_some_iff.1 hlZ).1, (World.putObj_heap_other (by omega)).trans hdZ, ch_putObj _ hlZ rfl (Nat.le_succ _), ((hX.mono (by omega)).trans kb).trans ((hZ.mono (by omega)).trans k2)⟩
    rintro e a3 Z hp
    cases e with
    | normal =>
      obtain ⟨r1, r2, r3, r4, r5⟩ := fin none Z hp.1
      exact ⟨_, _, r1, .inl ⟨rfl, ⟨hI _ _ _ hp.2 r4, r2, r3⟩, r5⟩⟩
    | ret =>
      obtain ⟨r1, r2, r3, r4, r5⟩ := fin (some .ret) Z hp.1
      exact ⟨_, _, r1, .inr ⟨rfl, ⟨.ret, hIx _ _ _ _ hp.2 r4, r2, r3⟩, r5⟩⟩
    | exit id =>
      obtain ⟨r1, r2, r3, r4, r5⟩ := fin (some (.exit id)) Z hp.1
      exact ⟨_, _, r1, .inr ⟨rfl, ⟨(.exit id), hIx _ _ _ _ hp.2 r4, r2, r3⟩, r5⟩⟩
    | goto t =>
      obtain ⟨r1, r2, r3, r4, r5⟩ := fin (some (.goto t)) Z hp.1
      exact ⟨_, _, r1, .inr ⟨rfl, ⟨(.goto t), hIx _ _ _ _ hp.2 r4, r2, r3⟩, r5⟩⟩
    | panic ch => exact hp.elim
    | outgrown => exact hp.elim
  · rintro e X ⟨⟨v, rfl⟩, (⟨xs, hS, hi, hl, hd⟩ | ⟨pre, c, hi, hl, hd⟩)⟩
    · exact ⟨none, _, by have := run_endLoop (P := P) hl (by rw [hrec]; simp); rw [hrec] at this; exact this, hdone _ xs _ (Nat.le_refl _) hS (hI _ _ _ hi (ch_putObj _ hl rfl (Nat.le_succ _))) ((World.putObj_heap_other (by omega)).trans hd)⟩
    · exact ⟨some c, _, by have := run_endLoop (P := P) hl (by rw [hrec]; simp); rw [hrec] at this; exact this, hstop _ c pre _ (Nat.le_refl _) (hIx c _ _ _ hi (ch_putObj _ hl rfl (Nat.le_succ _))) ((World.putObj_heap_other (by omega)).trans hd)⟩
end Go.Proofs.YtljmhejljpfaiaaGreat

import Derived.Test.YtljmhejljpfaiaaBp
namespace Go.Proofs.Ytljmhejljpfaiaa
set_option maxRecDepth 100000
open Go.RowKit Go.Shelf
attribute [local go_sem] Oper.semAt_some

/-! a block of cells -/
def Blk (B : Nat) (cur : Array Value) (T : TypeId) (W : World) : Prop := W.heap[B]? = some (.cells cur T (0, 0))
theorem Blk.lt {B : Nat} {cur : Array Value} {T : TypeId} {W : World} (h : Blk B cur T W) : B < W.heap.size := (Array.getElem?_eq_some_iff.1 h).1
theorem Blk.new (W : World) (cur : Array Value) (T : TypeId) : Blk W.heap.size cur T (W.alloc (.cells cur T)) := World.alloc_heap_new W _
theorem Blk.alloc {B : Nat} {cur : Array Value} {T : TypeId} {W : World} (h : Blk B cur T W) (q : Obj) : Blk B cur T (W.alloc q) := (Below.heap_alloc W q B h.lt).trans h
theorem Blk.below {B : Nat} {cur : Array Value} {T : TypeId} {W W' : World} (h : Blk B cur T W) (hb : Below W.heap.size W W') : Blk B cur T W' := (hb.block B h.lt).trans h
theorem Blk.ko {n B : Nat} {Bs : List Nat} {cur : Array Value} {T : TypeId} {W W' : World} (h : Blk B cur T W) (nc : Nc Bs B W) (k : KO n Bs W W') : Blk B cur T W' := k.cells B _ _ _ nc.b nc.o h
theorem Blk.ch {n B : Nat} {Bs : List Nat} {cur : Array Value} {T : TypeId} {W W' : World} (h : Blk B cur T W) (hc : Ch n Bs W W') (hB : B < n) : Blk B cur T W' := (hc.block B h.lt (.inl hB)).trans h
theorem Blk.cell {B i : Nat} {cur : Array Value} {T : TypeId} {W : World} {v : Value} (h : Blk B cur T W) (hv : cur[i]? = some v) : W.cell? ⟨B, i, none⟩ = some v := by
  unfold World.cell?
  dsimp only
  rw [show W.heap[B]? = _ from h]
  simpa using hv
theorem Row.below {w w' : World} {b o : Nat} {l : List Pt} (h : Row w b o l) (hb : Below w.heap.size w w') : Row w' b o l := h.keep hb
theorem Row.ch {n : Nat} {Bs : List Nat} {W W' : World} {b o : Nat} {l : List Pt} (h : Row W b o l) (hc : Ch n Bs W W') (hB : b < n) : Row W' b o l := fun i hi => by
  have hl := h.lt (by omega)
  exact ⟨(cell_same (a := ⟨b, _, none⟩) (hc.block b hl (.inl hB))).trans (h i hi).1, (cell_same (a := ⟨b, _, none⟩) (hc.block b hl (.inl hB))).trans (h i hi).2⟩
theorem Row.blk {W : World} {b o : Nat} {l : List Pt} (h : Row W b o l) (h3 : 0 < l.length) : ∃ cur U u, W.heap[b]? = some (.cells cur U u) := cell_blk (h 0 h3).1

/-! others, outcomes -/
theorem others_seq (Be Tp b o c : Nat) (l : List Pt) (p : Pt) (w0 : World) (h3 : 0 < l.length) (h12 : l.length ≤ 1000) (hx : Bx l)
    (hd : ∀ i, i < l.length → ¬ (px l (nx l.length i) = px l i ∧ pz l (nx l.length i) = pz l i)) (hr : Row w0 b o l) (hb : Boxed w0 Be 85 (.slice (some ⟨b, o, none⟩) l.length c)) (hp : P2 Tp p.1 p.2 w0) :
    SeqX Try.prog 117 #[.pointer (some ⟨Be, 0, none⟩), .pointer (some ⟨Tp, 0, none⟩)] enc1 (fun k => k = Be ∨ k = b ∨ k = Tp) (fun xs => vals xs = oth l p) (l.length * 2000) w0 := fun n lr Bs J Jx W hW hs hpv hJ hJx hY h0 =>
  others1_in n lr Bs Be Tp b o c l p h3 h12 hx hd J Jx W hJ hJx hY ⟨hr.keep hW, (hW.block Be hb.lt).trans hb, hs, hpv Be (.inl rfl), hpv b (.inr (.inl rfl))⟩ (hp.below hW) ⟨(hpv Tp (.inr (.inr rfl))).1, (hpv Tp (.inr (.inr rfl))).2⟩ h0
theorem othersv_any (q : Option Addr) (n c : Nat) (x z : Int) (w : World) : Calls Try.prog 108 #[.slice q n c, .agg #[.int .i64 x, .int .i64 z]] w fun e w' => e = .returned (.func (.func 117) #[] #[.pointer (some ⟨w.heap.size, 0, none⟩), .pointer (some ⟨w.heap.size + 1, 0, none⟩)]) ∧ w' = (w.alloc (.cells #[.slice q n c] 85)).alloc (.cells #[.int .i64 x, .int .i64 z] 32) := by
  go_enter Try.func108, Try.ntmps108
  go_wp2
  go_ret
  exact ⟨rfl, rfl⟩
theorem outcomesv_any (nm : ByteArray) (q : Option Addr) (n c : Nat) (dp dn gx gz x z t : Int) (w : World) : Calls Try.prog 82 #[.agg #[.string nm, .slice q n c, .int .i64 dp, .int .i64 dn, .int .i64 gx, .int .i64 gz], .agg #[.int .i64 x, .int .i64 z], .int .i64 t] w fun e w' =>
    e = .returned (.func (.func 107) #[] #[.pointer (some ⟨w.heap.size, 0, none⟩), .pointer (some ⟨w.heap.size + 1, 0, none⟩), .pointer (some ⟨w.heap.size + 1 + 1, 0, none⟩)]) ∧ w' = ((w.alloc (.cells #[.string nm, .slice q n c, .int .i64 dp, .int .i64 dn, .int .i64 gx, .int .i64 gz] 34)).alloc (.cells #[.int .i64 x, .int .i64 z] 32)).alloc (.cells #[.int .i64 t] 3) := by
  go_enter Try.func82, Try.ntmps82
  go_wp2
  go_ret
  exact ⟨rfl, rfl⟩
/-- can be cut -/
def canB (l : List Pt) (p q : Pt) : Bool := (List.range l.length).all fun i => !both l p.1 p.2 q.1 q.2 i
theorem canB_iff (l : List Pt) (p q : Pt) : canB l p q = true ↔ CanC l p.1 p.2 q.1 q.2 := by
  unfold canB CanC
  rw [List.all_eq_true]
  simp only [List.mem_range, Bool.not_eq_true']
/-- an outcome -/
def okq (l : List Pt) (gx gz : Int) (p : Pt) (t : Int) (q : Pt) : Bool := agr gx gz p.1 p.2 q.1 q.2 t && canB l p q
def outc (l : List Pt) (gx gz : Int) (p : Pt) (t : Int) : List Pt := (oth l p).filter (okq l gx gz p t)
/-- what the iterator over outcomes reads -/
structure OT (Bs : List Nat) (S lr Bst Tp Tt b o c : Nat) (nm : ByteArray) (l : List Pt) (dp dn gx gz : Int) (p : Pt) (t : Int) (X : World) : Prop where
  y : Yb S lr X
  sh : Blk (S + 1) #[.slice (some ⟨b, o, none⟩) l.length c] 85 X
  st : Blk Bst #[.string nm, .slice (some ⟨b, o, none⟩) l.length c, .int .i64 dp, .int .i64 dn, .int .i64 gx, .int .i64 gz] 34 X
  pp : P2 Tp p.1 p.2 X
  tt : Blk Tt #[.int .i64 t] 3 X
  row : Row X b o l
  ny : Nc Bs S X
  nsh : Nc Bs (S + 1) X
  nst : Nc Bs Bst X
  np : Nc Bs Tp X
  nt : Nc Bs Tt X
  nr : Nc Bs b X
theorem OT.ko {B : Nat} {Bs : List Nat} {S lr Bst Tp Tt b o c : Nat} {nm : ByteArray} {l : List Pt} {dp dn gx gz : Int} {p : Pt} {t : Int} {X C : World} (h : OT Bs S lr Bst Tp Tt b o c nm l dp dn gx gz p t X) (k : KO B Bs X C) (h3 : 0 < l.length) : OT Bs S lr Bst Tp Tt b o c nm l dp dn gx gz p t C :=
  ⟨k.boxed h.y h.ny.b h.ny.o, h.sh.ko h.nsh k, h.st.ko h.nst k, h.pp.ko h.np k, h.tt.ko h.nt k, k.row h.row h.nr.b h.nr.o, h.ny.ko k (Boxed.lt h.y), h.nsh.ko k h.sh.lt, h.nst.ko k h.st.lt, h.np.ko k h.pp.lt, h.nt.ko k h.tt.lt, h.nr.ko k (h.row.lt h3)⟩
theorem OT.ch {B : Nat} {Bs : List Nat} {S lr Bst Tp Tt b o c : Nat} {nm : ByteArray} {l : List Pt} {dp dn gx gz : Int} {p : Pt} {t : Int} {X C : World} (h : OT Bs S lr Bst Tp Tt b o c nm l dp dn gx gz p t X) (k : Ch B Bs X C) (h3 : 0 < l.length) (hs : ∀ b ∈ Bs, b < B ∧ b < X.heap.size) (q1 : S + 1 < B) (q2 : Bst < B) (q3 : Tp < B) (q4 : Tt < B) (q5 : b < B) :
    OT Bs S lr Bst Tp Tt b o c nm l dp dn gx gz p t C :=
  ⟨(k.block _ (Boxed.lt h.y) (.inl (by omega))).trans h.y, h.sh.ch k (by omega), h.st.ch k q2, h.pp.ch k q3, h.tt.ch k q4, h.row.ch k q5, h.ny.cells k hs ⟨_, _, _, h.y⟩, h.nsh.cells k hs ⟨_, _, _, h.sh⟩, h.nst.cells k hs ⟨_, _, _, h.st⟩, h.np.cells k hs ⟨_, _, _, h.pp⟩, h.nt.cells k hs ⟨_, _, _, h.tt⟩, h.nr.cells k hs (h.row.blk h3)⟩
end Go.Proofs.Ytljmhejljpfaiaa

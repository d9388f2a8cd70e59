/-
  Lists of structs that came in, opened, whatever their elements: what their cells hold. Metadata, ballots, and steps (a bool, a ballot, a small number, a list of bools) that came in.
-/
import Derived.Test.YtgcinagkbdcgiaaGreatDoorM00
import Derived.Test.YtgcinagkbdcgiaaGreatDoorM03
import Derived.Test.YtgcinagkbdcgiaaGreatDoorM08
import Derived.Test.YtgcinagkbdcgiaaGreatDoorM10
import Derived.Test.YtgcinagkbdcgiaaGreatDoorM11
import Derived.Test.YtgcinagkbdcgiaaGreatDoorM12
import Derived.Test.YtgcinagkbdcgiaaGreatDoorM13
import Derived.Test.YtgcinagkbdcgiaaGreatDoorM14
import Derived.Test.YtgcinagkbdcgiaaGreatDoorM15
import Derived.Test.YtgcinagkbdcgiaaGreatDoorM18
import Derived.Test.YtgcinagkbdcgiaaGreatDoorM20
import Derived.Test.YtgcinagkbdcgiaaGreatDoorM22
import Derived.ChangeMaps5
import Derived.RangeFuncWrites
import Derived.RangeFuncNested
import Derived.RangeFuncGives
import Derived.Deep.DeepCutAuto
import Derived.RegionTactic
namespace Go.Proofs.YtgcinagkbdcgiaaGreatDoor
set_option maxRecDepth 100000
section
open Go Go.RowKit Go.ChangeShapes Go.WideShapes Go.Deep
structure Ls {α : Type} (cells : α → List Value) (N : Nat) (w : World) (B : Nat) (A : Option Addr) (n c : Nat) (l : List α) : Prop where
  len : l.length = n
  cap : n ≤ c
  most : c ≤ 9223372036854775807
  rd : 0 < n → ∃ g o, A = some ⟨g, o, none⟩ ∧ g < B ∧ ∀ j a, l[j]? = some a → ∀ k v, (cells a)[k]? = some v → w.cell? ⟨g, o + (j * N + k), none⟩ = some v
  nil_ : A = none → c = 0
theorem Ls.below {α : Type} {cells : α → List Value} {N : Nat} {w w' : World} {B : Nat} {A : Option Addr} {n c : Nat} {l : List α} (h : Ls cells N w B A n c l) (hb : Below B w w') : Ls cells N w' B A n c l :=
  ⟨h.len, h.cap, h.most, fun hn => by
    obtain ⟨g, o, e, hg, hc⟩ := h.rd hn
    exact ⟨g, o, e, hg, fun j a ha k v hv => (hb.cell (p := ⟨g, o + (j * N + k), none⟩) hg).trans (hc j a ha k v hv)⟩, h.nil_⟩
theorem Ls.at_ {α : Type} {cells : α → List Value} {N : Nat} {w : World} {B : Nat} {A : Option Addr} {n c : Nat} {l : List α} (h : Ls cells N w B A n c l) {j : Nat} (hj : j < n) :
    ∃ g o a, A = some ⟨g, o, none⟩ ∧ g < B ∧ l[j]? = some a ∧ ∀ k v, (cells a)[k]? = some v → w.cell? ⟨g, o + (j * N + k), none⟩ = some v := by
  obtain ⟨g, o, e, hg, hc⟩ := h.rd (by omega)
  have hj' : j < l.length := by rw [h.len]; exact hj
  have ha : l[j]? = some l[j] := List.getElem?_eq_getElem hj'
  exact ⟨g, o, l[j], e, hg, ha, fun k v hv => hc j _ ha k v hv⟩
section
variable {H : Type} {enc : TypeId × Value → H} {P : Program} {w : World} {base : Nat} {spare : Nat → Bool} {held : Bool}
theorem trod_list {α : Type} [Inhabited α] {cells : α → List Value} {N : Nat} {Ok : α → Prop} (hN : ∀ a, (cells a).length = N) (h0 : 0 < N) {t e : TypeId} (ht : P.underlying t = some (.slice e)) (hce : P.cellsOf e = N)
    (one : ∀ {fuel : Nat} {cs : List Value} {x : DataW H × List MemPlace}, DataW.trod enc P w base spare held fuel e cs = some x → ∃ a, cs = cells a ∧ Ok a) {fuel : Nat} {cs : List Value} {x : DataW H × List MemPlace} (h : DataW.trod enc P w base spare held fuel t cs = some x) :
    ∃ (A : Option Addr) (n c : Nat) (l : List α), cs = [.slice A n c] ∧ Ls cells N w w.heap.size A n c l ∧ ∀ a ∈ l, Ok a := by
  rcases open_slice ht h with ⟨rfl, _⟩ | ⟨a, len, cap, m, n, D, Pl, rfl, _, hl, hm, hmm, _, hi⟩
  · exact ⟨none, 0, 0, [], rfl, ⟨rfl, Nat.le_refl _, by omega, fun h => absurd h (by omega), fun _ => rfl⟩, fun a ha => (by cases ha)⟩
  · have hle : len ≤ m := by rw [hmm]; split <;> omega
    have each : ∀ i, i < len → ∃ b : α, (∀ k v, (cells b)[k]? = some v → w.cell? ((a.add (i * N)).add k) = some v) ∧ Ok b := fun i hil => by
      obtain ⟨cs', h1, h2⟩ := hi i (by omega)
      rw [hce] at h1
      obtain ⟨_, _, hcell⟩ := World.cells?_some h1
      obtain ⟨b, rfl, hb⟩ := one h2
      refine ⟨b, fun k v hv => ?_, hb⟩
      have hk5 : k < N := by rw [← hN b]; exact (List.getElem?_eq_some_iff.1 hv).1
      rw [hcell k hk5, hv]
    obtain ⟨f, hf⟩ := choose_lt each
    refine ⟨some a, len, cap, (List.range len).map f, rfl, ⟨by simp, hl, by unfold maxLen at hm; exact hm, fun hn => ?_, fun h => by cases h⟩, fun b hb => ?_⟩
    · obtain ⟨g, o, spot⟩ := a
      have hc := (hf 0 hn).1 0 _ (List.getElem?_eq_getElem (by rw [hN]; exact h0))
      have hspot : spot = none := by simpa [Addr.add] using World.cell?_spot hc
      subst hspot
      refine ⟨g, o, rfl, ?_, fun j b hb k v hv => ?_⟩
      · have := World.block_lt_of_cell? w _ hc
        simpa [Addr.add] using this
      · rw [List.getElem?_map] at hb
        obtain ⟨i, hi2, rfl⟩ := Option.map_eq_some_iff.1 hb
        obtain ⟨hjl, hji⟩ := List.getElem?_eq_some_iff.1 hi2
        simp at hjl hji
        subst hji
        have := (hf j hjl).1 k v hv
        rw [Addr.add_lit, Addr.add_lit, Nat.add_assoc] at this
        exact this
    · obtain ⟨i, hil, rfl⟩ := List.mem_map.1 hb
      exact (hf i (List.mem_range.1 hil)).2
theorem open_list {α : Type} [Inhabited α] {cells : α → List Value} {N : Nat} {Ok : α → Prop} (hN : ∀ a, (cells a).length = N) (h0 : 0 < N) {t e : TypeId} (ht : P.underlying t = some (.slice e)) (hce : P.cellsOf e = N)
    (one : ∀ {fuel : Nat} {cs : List Value} {x : DataW H × List MemPlace}, DataW.trod enc P w base spare held fuel e cs = some x → ∃ a, cs = cells a ∧ Ok a) {r : Reach} {b0 : Nat} {v : Value} {d : DataW H} {p : List MemPlace}
    (hv : Value.okWide P w r b0 t v) (h : DataW.Trod enc P w base spare held t v d p) : ∃ (A : Option Addr) (n c : Nat) (l : List α), v = .slice A n c ∧ Ls cells N w w.heap.size A n c l ∧ ∀ a ∈ l, Ok a := by
  obtain ⟨A, n, c, rfl⟩ := okWide_slice ht hv
  obtain ⟨fuel, hf⟩ := h
  obtain ⟨A', n', c', l, hcs, hl⟩ := trod_list hN h0 ht hce one hf
  simp [Value.cells] at hcs
  obtain ⟨rfl, rfl, rfl⟩ := hcs
  exact ⟨_, _, _, l, rfl, hl⟩
structure Bal where
  x : Int := 0
  y : Int := 0
instance : Inhabited Bal := ⟨{}⟩
def Bal.cells (b : Bal) : List Value := [.int .i64 b.x, .int .i64 b.y]
structure StepU where
  p : Bool := false
  x : Int := 0
  y : Int := 0
  w : Int := 0
  kA : Option Addr := none
  kn : Nat := 0
  kc : Nat := 0
  kl : List Bool := []
instance : Inhabited StepU := ⟨{}⟩
def StepU.cells (s : StepU) : List Value := [.bool s.p, .int .i64 s.x, .int .i64 s.y, .int .i8 s.w, .slice s.kA s.kn s.kc]
structure StepU.Ok (s : StepU) (w : World) (B : Nat) : Prop where
  power : (Lit.int .i8 s.w).wf = true
  keep : Vs w B s.kA s.kn s.kc (s.kl.map .bool)
end
end
section
open Go Go.RowKit Go.ChangeShapes Go.WideShapes Go.Deep
def Ent.cells (e : Ent) : List Value := [.int .u8 (e.k : Nat), .int .i64 e.cl, .int .i64 e.sq, .int .u8 (e.ok : Nat), .string e.key, .string e.old, .string e.val]
structure Ent.Wf (e : Ent) : Prop where
  k : e.k < 256
  ok : e.ok < 256
  cl : (Lit.int .i64 e.cl).wf = true
  sq : (Lit.int .i64 e.sq).wf = true
  key : e.key.size ≤ maxLen
  old : e.old.size ≤ maxLen
  val : e.val.size ≤ maxLen
section
variable {H : Type} {enc : TypeId × Value → H} {P : Program} {w : World} {base : Nat} {spare : Nat → Bool} {held : Bool}
end
end
section
open Go Go.RowKit Go.ChangeShapes Go.WideShapes Go.Deep
structure Rec.Wf (p : Rec) : Prop where
  st : p.st < 256
  ix : (Lit.int .i64 p.ix).wf = true
  bx : (Lit.int .i64 p.bx).wf = true
  yb : (Lit.int .i64 p.yb).wf = true
  wh : (Lit.int .i64 p.wh).wf = true
structure CopL.Wf (c : CopL) : Prop where
  st : c.st < 256
  ix : (Lit.int .i64 c.ix).wf = true
  bx : (Lit.int .i64 c.bx).wf = true
  yb : (Lit.int .i64 c.yb).wf = true
  e : c.e.Wf
def CopL.cells (c : CopL) : List Value := [.int .u8 (c.st : Nat), .int .i64 c.ix, .int .i64 c.bx, .int .i64 c.yb, .int .u8 (c.e.k : Nat), .int .i64 c.e.cl, .int .i64 c.e.sq, .int .u8 (c.e.ok : Nat), .string c.e.key, .string c.e.old, .string c.e.val]
section
variable {H : Type} {enc : TypeId × Value → H} {P : Program} {w : World} {base : Nat} {spare : Nat → Bool} {held : Bool}
end
end
section
open Go Go.RowKit Go.ChangeShapes Go.WideShapes Go.Deep
structure PutA.Wf (a : PutA) : Prop where
  at_ : a.at_ < 256
  x : (Lit.int .i64 a.x).wf = true
  y : (Lit.int .i64 a.y).wf = true
  e : a.e.Wf
def PutA.cells (a : PutA) : List Value := [.int .u8 (a.at_ : Nat), .int .i64 a.x, .int .i64 a.y, .int .u8 (a.e.k : Nat), .int .i64 a.e.cl, .int .i64 a.e.sq, .int .u8 (a.e.ok : Nat), .string a.e.key, .string a.e.old, .string a.e.val]
instance : Inhabited PutA := ⟨{}⟩
structure FltA where
  k : Nat := 0
  s : Nat := 0
  n : Nat := 0
instance : Inhabited FltA := ⟨{}⟩
structure FltA.Wf (a : FltA) : Prop where
  k : a.k < 256
  s : a.s < 65536
  n : a.n < 65536
def FltA.cells (a : FltA) : List Value := [.int .u8 (a.k : Nat), .int .u16 (a.s : Nat), .int .u16 (a.n : Nat)]
theorem bounds_u16 {z : Int} (h : (Lit.int .u16 z).wf = true) : 0 ≤ z ∧ z < 65536 := by
  simp [Lit.wf, IntKind.min, IntKind.max, IntKind.bits, IntKind.signed] at h
  omega
section
variable {H : Type} {enc : TypeId × Value → H} {P : Program} {w : World} {base : Nat} {spare : Nat → Bool} {held : Bool}
structure FltTy (P : Program) (e t8 t16 : TypeId) : Prop where
  fs : ∃ f0 f1 f2 : Field, P.underlying e = some (.struct #[f0, f1, f2]) ∧ (f0.type = t8 ∧ f0.offset = 0) ∧ (f1.type = t16 ∧ f1.offset = 1) ∧ (f2.type = t16 ∧ f2.offset = 2)
  cells : P.cellsOf e = 3
  u8 : P.underlying t8 = some (.int .u8)
  u16 : P.underlying t16 = some (.int .u16)
  one : P.cellsOf t8 = 1 ∧ P.cellsOf t16 = 1
theorem trod_flt {e t8 t16 : TypeId} (T : FltTy P e t8 t16) {fuel : Nat} {cs : List Value} {x : DataW H × List MemPlace} (h : DataW.trod enc P w base spare held fuel e cs = some x) : ∃ a : FltA, cs = a.cells ∧ a.Wf := by
  obtain ⟨f0, f1, f2, hs, ⟨y0, o0⟩, ⟨y1, o1⟩, y2, o2⟩ := T.fs
  obtain ⟨xs, n, _, _, hcl, hxl, hg⟩ := DataW.trod_struct hs h
  rw [T.cells] at hcl
  match cs, hcl, xs, hxl with
  | [c0, c1, c2], _, [x0, x1, x2], _ =>
    have g0 := hg 0 f0 rfl
    have g1 := hg 1 f1 rfl
    have g2 := hg 2 f2 rfl
    rw [y0, o0, T.one.1] at g0
    rw [y1, o1, T.one.2] at g1
    rw [y2, o2, T.one.2] at g2
    obtain ⟨z0, e0, _, w0⟩ := DataW.trod_int T.u8 (show DataW.trod enc P w base spare held n t8 [c0] = some x0 from g0)
    obtain ⟨z1, e1, _, w1⟩ := DataW.trod_int T.u16 (show DataW.trod enc P w base spare held n t16 [c1] = some x1 from g1)
    obtain ⟨z2, e2, _, w2⟩ := DataW.trod_int T.u16 (show DataW.trod enc P w base spare held n t16 [c2] = some x2 from g2)
    have h0 := bounds_u8 w0
    have h1 := bounds_u16 w1
    have h2 := bounds_u16 w2
    obtain ⟨k, rfl⟩ := Int.eq_ofNat_of_zero_le h0.1
    obtain ⟨s, rfl⟩ := Int.eq_ofNat_of_zero_le h1.1
    obtain ⟨m, rfl⟩ := Int.eq_ofNat_of_zero_le h2.1
    injection e0 with e0 _
    injection e1 with e1 _
    injection e2 with e2 _
    refine ⟨⟨k, s, m⟩, ?_, ⟨by dsimp only; omega, by dsimp only; omega, by dsimp only; omega⟩⟩
    rw [e0, e1, e2]
    rfl
end
end
section
open Go Go.RowKit Go.ChangeShapes Go.WideShapes Go.Deep
theorem flt_ty : FltTy Tryz.prog 195 5 193 := ⟨⟨_, _, _, Tryz.underlying195, ⟨rfl, rfl⟩, ⟨rfl, rfl⟩, rfl, rfl⟩, by kernel_rfl, Tryz.underlying5, Tryz.underlying193, by kernel_rfl, by kernel_rfl⟩
theorem open_t97 {H : Type} {enc : TypeId × Value → H} {w : World} {base : Nat} {held : Bool} {r : Reach} {b0 : Nat} {v : Value} {d : DataW H} {p : List MemPlace}
    (hv : Value.okWide Tryz.prog w r b0 97 v) (h : DataW.Trod enc Tryz.prog w base (fun _ => true) held 97 v d p) : ∃ (A : Option Addr) (n c : Nat) (l : List FltA), v = .slice A n c ∧ Ls FltA.cells 3 w w.heap.size A n c l ∧ ∀ a ∈ l, a.Wf :=
  open_list (cells := FltA.cells) (N := 3) (Ok := fun e => e.Wf) (fun _ => rfl) (by omega) Tryz.underlying97 (by kernel_rfl) (fun h => trod_flt flt_ty h) hv h
end
section
open Go Go.RowKit
def SeqBd {α : Type} (F : Fence) (n : Nat) (P : Program) (gf : Nat) (bd : Array Value) (enc : α → Array Value) (S : List α → Prop) (N : Nat) (w : World) : Prop :=
  ∀ (l : Nat) (J : List α → World → Prop) (W : World), Below w.heap.size w W → AbidesFrom W.heap.size J → (∀ s U, J s U → Below w.heap.size w U) →
    (∀ pre x U, J pre U → pre.length < N → YieldAt F (n - 1) P l (enc x) U fun e U' => e = .returned (.bool true) ∧ J (pre ++ [x]) U') → J [] W →
    CallsIn F n P gf (bd ++ #[.func (.yield l) #[] #[]]) W fun e W' => (∃ v, e = .returned v) ∧ ∃ xs, S xs ∧ J xs W'
def roundBd {α : Type} (B : Nat) (I : List α → World → Prop) (xs : List α) (W : World) : Exit → Act → World → Prop
  | .normal, _, W' => KeepsFrom B W W' ∧ I xs W'
  | _, _, _ => False
theorem range_bd {F : Fence} {n : Nat} {P : Program} {α : Type} {g : Operand} {ps : Array Tmp} {assign body : Code} {Q : Exit → Act → World → Prop} {a : Act} {w : World}
    (hro : F.round = none) (h1 : 1 ≤ n) {gf : Nat} {bd : Array Value} (hg : a.eval g = .func (.func gf) bd #[]) (hFg : F.fn gf) (eg : ∀ args w, (callFunc gf args).run P w = .ok (.enter gf args) w)
    {enc : α → Array Value} {S : List α → Prop} {N : Nat} {w0 : World} (hseq : SeqBd F (n - 1) P gf bd enc S N w0) (hw0 : Below w0.heap.size w0 w) (hps : ∀ x, (enc x).size = ps.size)
    (I : List α → World → Prop) (hI : OwnFrom w.heap.size I) (hB : ∀ s U, I s U → Below w0.heap.size w0 U) (h0 : I [] w) (a₁ : α → Act)
    (hassign : ∀ (l : Nat) (x : α) (W : World) (K : Act → World → Prop), K (a₁ x) W →
      assign.wpIn (F.inRound l) (n - 1 - 1) P (Exit.then K (fun _ _ _ => False)) { tmps := (ps.zip (enc x)).foldl (fun t (p, v) => t.setIfInBounds p v) a.tmps, defers := [] } W)
    (hbody : ∀ (l : Nat) (pre : List α) (x : α) (W : World), I pre W → pre.length < N → body.wpIn (F.inRound l) (n - 1 - 1) P (roundBd w.heap.size I (pre ++ [x]) W) (a₁ x) W)
    (hdone : ∀ (D : Nat) (xs : List α) (W : World), w.heap.size ≤ D → S xs → I xs W → W.heap[D]? = some (.deferred (some [])) → Q .normal { a with defers := { target := .collected D, args := #[] } :: a.defers } W) :
    (Code.rangeFunc g ps assign body).wpIn F n P Q a w := by
  refine wpIn_rangeFunc fun fn hfn => ?_
  rw [hro]
  generalize hD : w.heap.size = D
  let rec_ : LoopState → Option Code → Loop := fun st pe => { state := st, pending := pe, fn, tmps := a.tmps, params := ps, assign, body, defers := D }
  have hloop : ∃ W1, (w.alloc (.deferred (some []))).alloc (.loop (rec_ .ready none)) = W1 ∧ W1.heap[D + 1]? = some (.loop (rec_ .ready none)) ∧ W1.heap[D]? = some (.deferred (some [])) ∧ W1.heap.size = D + 2 ∧ Below D w W1 ∧ I [] W1 := by
    refine ⟨_, rfl, ?_, ?_, by simp [hD], ?_, hI.alloc _ (hI.alloc _ h0)⟩
    · have := World.alloc_heap_new (w.alloc (.deferred (some []))) (.loop (rec_ .ready none))
      rwa [World.size_alloc, hD] at this
    · have := World.alloc_heap_new w (.deferred (some []))
      rw [hD] at this
      exact (Below.heap_alloc _ _ _ (by simp [hD])).trans this
    · rw [← hD]
      exact ((Below.refl _ w).alloc (Nat.le_refl _) _).alloc (by simp) _
  obtain ⟨W1, hW1, hL1, hK1, hsz, hb1, hI1⟩ := hloop
  refine ⟨D + 1, [{ target := .collected D, args := #[] }], W1, { target := .fn (.func gf) #[], args := bd ++ #[.func (.yield (D + 1)) #[] #[]] }, W1, gf, bd ++ #[.func (.yield (D + 1)) #[] #[]], W1, ?_, ?_, ?_, ?_, fun _ => h1, ?_⟩
  · rw [← hW1, ← hD]
    have := run_enterLoop_outer (P := P) (w := w) fn a.tmps ps assign body
    rw [hD] at this ⊢
    exact this
  · simp only [resolve, hg]
    simp [go_sem]
  · intro f' hf'
    simp [Target.leads] at hf'
    subst hf'
    exact hFg
  · simp [invoke, go_sem, eg]
  · refine (hseq (D + 1) (fun pre U => I pre U ∧ U.heap[D + 1]? = some (.loop (rec_ .ready none)) ∧ U.heap[D]? = some (.deferred (some []))) W1 (hw0.trans (hb1.mono (by rw [← hD]; exact hw0.size))) ?_ (fun s U h => hB s U h.1) ?_ ⟨hI1, hL1, hK1⟩).mono ?_
    · intro s A B row hs hgr hr
      refine ⟨hI s A B row hs.1 hgr fun r e => ?_, (grownBy_keeps hgr (fun r e => (hr r e).2) hs.2.1 rfl).trans hs.2.1, (grownBy_keeps hgr (fun r e => (hr r e).2) hs.2.2 rfl).trans hs.2.2⟩
      obtain ⟨h2, o, ho, hw⟩ := hr r e
      exact ⟨by omega, o, ho, Obj.not_cells_of_walk hw⟩
    · rintro pre x U ⟨hi, hl, hk⟩ hN
      have hlt : D + 1 < U.heap.size := (Array.getElem?_eq_some_iff.1 hl).1
      refine ⟨fn, _, assign, body, run_yield (P := P) (args := enc x) hl (hps x), roundIn_of_wpIn hfn (hassign _ x U _ ⟨_, run_beginRound hl rfl, ?_⟩)⟩
      have hbl : (U.putObj (D + 1) (.loop { rec_ .ready none with state := .busy })).heap[D + 1]? = some (.loop { rec_ .ready none with state := .busy }) := World.putObj_heap_same hlt
      have hbk : (U.putObj (D + 1) (.loop { rec_ .ready none with state := .busy })).heap[D]? = some (.deferred (some [])) := (World.putObj_heap_other (by omega)).trans hk
      refine wpIn_mono (hbody _ pre x _ (hI.putObj _ hi (by omega) hl rfl) hN) ?_
      intro e a3 W3 hp
      cases e with
      | normal =>
        obtain ⟨hk3, hi3⟩ := hp
        have hl3 := hk3.same _ _ (by omega) hbl rfl
        have hd3 := hk3.same _ _ (by omega) hbk rfl
        exact ⟨_, _, run_endRound (P := P) none hl3, rfl, hI.putObj _ hi3 (by omega) hl3 rfl, World.putObj_heap_same (Array.getElem?_eq_some_iff.1 hl3).1, (World.putObj_heap_other (by omega)).trans hd3⟩
      | ret => exact hp.elim
      | exit id => exact hp.elim
      | goto t => exact hp.elim
      | panic ch => exact hp.elim
      | outgrown => exact hp.elim
    · rintro e W2 ⟨⟨v, rfl⟩, xs, hS, hi, hl, hk⟩
      exact ⟨none, _, run_endLoop (P := P) hl (by simp [rec_]), hdone _ xs _ (by omega) hS (hI.putObj _ hi (by omega) hl rfl) ((World.putObj_heap_other (by omega)).trans hk)⟩
end
section
open Go Go.RowKit
theorem getS_six {l : List Nat} (h : 6 ≤ l.length) : getS l 0 6 = (num ((l.drop 0).take 6), 6, 0) := getS_yes (by decide) (by omega) (by omega) (by omega)
theorem getS_oneY {l : List Nat} {a : Nat} (h : a + 1 ≤ l.length) : getS l (a : Int) 1 = (num ((l.drop a).take 1), a + 1, 0) := getS_yes (by decide) (by omega) (by omega) (by omega)
theorem yparse_of (A : Option Addr) (n c : Nat) (l : List Nat) (w : World) (hL : LaidY w) (hb : By w A n c l) (hm : n ≤ 1000) :
    Calls Tryz.prog 175 #[.slice A n c] w fun e w' => e = .returned (.tuple #[.agg #[.int .i64 ((manS l).ix : Int), .int .i64 ((manS l).ar : Int), .int .i64 ((manS l).ct : Int)], .int .i64 (manE l)]) ∧ Ext w w' := by
  have hlen := hb.len
  have no : manB l = false → ∀ e : Ending, ∀ w' : World, (e = .returned (.tuple #[.agg #[.int .i64 0, .int .i64 0, .int .i64 0], .int .i64 130]) ∧ Ext w w') → (e = .returned (.tuple #[.agg #[.int .i64 ((manS l).ix : Int), .int .i64 ((manS l).ar : Int), .int .i64 ((manS l).ct : Int)], .int .i64 (manE l)]) ∧ Ext w w') := fun hf e w' h => by
    unfold manS manE
    rw [if_neg (by rw [hf]; simp), if_neg (by rw [hf]; simp)]
    exact h
  have short : l.length ≠ 8 → manB l = false := fun h => by
    unfold manB
    rw [decide_eq_false h]
    rfl
  by_cases h6 : l.length < 6
  · exact (yparse_g0 A n c l w hL hb hm (getS_short (by decide) (by omega) (by omega) (by omega))).mono (no (short (by omega)))
  have g0 := getS_six (l := l) (by omega)
  by_cases h7 : l.length < 7
  · exact (yparse_g1 A n c l w hL hb hm _ g0 (getS_short (by decide) (by omega) (by omega) (by omega))).mono (no (short (by omega)))
  have g1 := getS_oneY (l := l) (a := 6) (by omega)
  by_cases h8 : l.length < 8
  · exact (yparse_g2 A n c l w hL hb hm _ _ g0 g1 (getS_short (by decide) (by omega) (by omega) (by omega))).mono (no (short (by omega)))
  have g2 := getS_oneY (l := l) (a := 7) (by omega)
  by_cases hn : n = 8
  case neg => exact (yparse_len A n c l w hL hb hm _ _ _ g0 g1 g2 hn).mono (no (short (by omega)))
  have hl8 : l.length = 8 := by omega
  have hmb : manB l = manOk (manR l) := by unfold manB; rw [decide_eq_true hl8]; rfl
  have bad : ¬ (1 ≤ (manR l).ix ∧ (manR l).ix ≤ 1099511627752 ∧ (manR l).ar ≤ 1 ∧ 1 ≤ (manR l).ct ∧ (manR l).ct ≤ 8) → manB l = false := fun h => by rw [hmb]; exact decide_eq_false h
  cases hix : inI 1 ((manR l).ix : Int) 1099511627752 with
  | false =>
    refine (yparse_ix A n c l w hL hb hm _ _ _ g0 g1 g2 hn hix).mono (no (bad fun h => ?_))
    rw [inI_iff.2 (by omega)] at hix
    cases hix
  | true =>
  have b0 := inI_iff.1 hix
  cases har : inI 0 ((manR l).ar : Int) 1 with
  | false =>
    refine (yparse_ar A n c l w hL hb hm _ _ _ g0 g1 g2 hn hix har).mono (no (bad fun h => ?_))
    rw [inI_iff.2 (by omega)] at har
    cases har
  | true =>
  have b1 := inI_iff.1 har
  cases hct : inI 1 ((manR l).ct : Int) 8 with
  | false =>
    refine (yparse_ct A n c l w hL hb hm _ _ _ g0 g1 g2 hn hix har hct).mono (no (bad fun h => ?_))
    rw [inI_iff.2 (by omega)] at hct
    cases hct
  | true =>
  have b2 := inI_iff.1 hct
  have hy : manB l = true := by rw [hmb]; exact manOk_iff.2 (by omega)
  refine (yparse_yes A n c l w hL hb hm _ _ _ g0 g1 g2 hn hix har hct).mono fun e w' h => ?_
  unfold manS manE
  rw [if_pos hy, if_pos hy]
  exact h
theorem three_cellsY {w : World} {g : Nat} {x0 x1 x2 : Value} {t : TypeId} (h : w.heap[g]? = some (.cells #[x0, x1, x2] t (0, 0))) :
    (w.cell? ⟨g, 0, none⟩ = some x0 ∧ w.cell? ⟨g, 1, none⟩ = some x1 ∧ w.cell? ⟨g, 2, none⟩ = some x2) ∧ (w.frozen? ⟨g, 0, none⟩ = false ∧ w.frozen? ⟨g, 1, none⟩ = false ∧ w.frozen? ⟨g, 2, none⟩ = false) :=
  ⟨⟨cell_of_row w g 0 _ _ _ h, cell_of_row w g 1 _ _ _ h, cell_of_row w g 2 _ _ _ h⟩, ⟨frozen_of_row w g 0 _ _ h, frozen_of_row w g 1 _ _ h, frozen_of_row w g 2 _ _ h⟩⟩
theorem three_extY {w w' : World} (h : Ext w w') {g : Nat} (hg : w.heap.size ≤ g) (x0 x1 x2 : Value) :
    Ext w (((w'.setCell ⟨g, 0, none⟩ x0).setCell ⟨g, 1, none⟩ x1).setCell ⟨g, 2, none⟩ x2) :=
  ((h.setCell (p := ⟨g, 0, none⟩) hg _).setCell (p := ⟨g, 1, none⟩) hg _).setCell (p := ⟨g, 2, none⟩) hg _
def LoadsY (w : World) (p : Option Addr) (r : Int) (V : Nat) (B : List Nat) (E : Int) : Prop :=
  ∀ W, Ext w W → Calls Tryz.prog 174 #[.pointer p, .int .i64 r, .int .i64 2] W fun e w' => ∃ A N, e = .returned (.tuple #[.int .i64 (V : Int), .slice A N N, .int .i64 E]) ∧ By w' A N N B ∧ Ext W w'
def ldE3 (V : Nat) (B : List Nat) (E : Int) : Int := if E ≠ 0 then E else if V = 0 then 0 else manE B
def ldS3 (V : Nat) (B : List Nat) (E : Int) : ShM := if E ≠ 0 then {} else if V = 0 then {} else manS B
set_option maxHeartbeats 1600000 in
theorem yload_of {w : World} {p : Option Addr} {r : Int} {V : Nat} {B : List Nat} {E : Int} (h : LoadsY w p r V B E) (hL : LaidY w) (hB : B.length ≤ 43) :
    Calls Tryz.prog 88 #[.pointer p, .int .i64 r] w fun e w' => e = .returned (.tuple #[.agg #[.int .i64 ((ldS3 V B E).ix : Int), .int .i64 ((ldS3 V B E).ar : Int), .int .i64 ((ldS3 V B E).ct : Int)], .int .i64 (ldE3 V B E)]) ∧ Ext w w' := by
  have hx := (Ext.refl w).alloc (.cells #[.int .i64 0, .int .i64 0, .int .i64 0] 158)
  have HZ := Lib.hid (heap_alloc_new w (.cells #[.int .i64 0, .int .i64 0, .int .i64 0] 158))
  have HX := Lib.hid hx
  have HL := Lib.hid hL
  have HLD := Lib.hid (h _ hx)
  have HE : Hid (ldE3 V B E = if E ≠ 0 then E else if V = 0 then 0 else manE B) := Lib.hid rfl
  have HF : Hid (ldS3 V B E = if E ≠ 0 then {} else if V = 0 then {} else manS B) := Lib.hid rfl
  have HBL := Lib.hid hB
  clear hx h hL hB
  by_cases h0 : E = 0
  · subst h0
    by_cases hv : V = 0
    · subst hv
      have HE2 : Hid (ldE3 0 B 0 = 0 ∧ ldS3 0 B 0 = {}) := Lib.hid ⟨by rw [HE.out]; simp, by rw [HF.out]; simp⟩
      rw [HE2.out.1, HE2.out.2]
      go_enter Tryz.func88, Tryz.ntmps88
      go_wp2_with fail
      refine HLD.out.mono ?_
      rintro e w1 ⟨A, N, rfl, hb, hx⟩
      have HZ := Lib.hid ((hx.block _ (Array.getElem?_eq_some_iff.1 HZ.out).1).trans HZ.out)
      have HX := Lib.hid (HX.out.trans hx)
      clear hb hx
      obtain ⟨⟨d0, d1, d2⟩, f0, f1, f2⟩ := three_cellsY HZ.out
      go_wp2_with fail
      refine bodyPost_ret (v := .tuple #[.agg #[.int .i64 0, .int .i64 0, .int .i64 0], .int .i64 0]) ?_ rfl ⟨rfl, three_extY HX.out (Nat.le_refl _) _ _ _⟩
      simp [results, Tryz.results88, go_sem, d0, d1, d2]
    · have hv' : ((V : Int) == 0) = false := by simpa using hv
      have HE2 : Hid (ldE3 V B 0 = manE B ∧ ldS3 V B 0 = manS B) := Lib.hid ⟨by rw [HE.out]; simp [hv], by rw [HF.out]; simp [hv]⟩
      rw [HE2.out.1, HE2.out.2]
      clear hv
      go_enter Tryz.func88, Tryz.ntmps88
      go_wp2_with fail
      refine HLD.out.mono ?_
      rintro e w1 ⟨A, N, rfl, hb, hx⟩
      have HB := Lib.hid hb
      have hN : N ≤ 1000 := by
        have h1 := hb.len
        have h2 := HBL.out
        omega
      have HZ := Lib.hid ((hx.block _ (Array.getElem?_eq_some_iff.1 HZ.out).1).trans HZ.out)
      have HX := Lib.hid (HX.out.trans hx)
      clear hb hx
      go_wp2_with fail
      refine (yparse_of A N N B _ (HL.out.ext HX.out) HB.out hN).mono ?_
      rintro e w2 ⟨rfl, hx⟩
      have HZ := Lib.hid ((hx.block _ (Array.getElem?_eq_some_iff.1 HZ.out).1).trans HZ.out)
      have HX := Lib.hid (HX.out.trans hx)
      clear hx hN
      obtain ⟨⟨d0, d1, d2⟩, f0, f1, f2⟩ := three_cellsY HZ.out
      go_wp2_with fail
      refine bodyPost_ret (v := .tuple #[.agg #[.int .i64 ((manS B).ix : Int), .int .i64 ((manS B).ar : Int), .int .i64 ((manS B).ct : Int)], .int .i64 (manE B)]) ?_ rfl ⟨rfl, three_extY HX.out (Nat.le_refl _) _ _ _⟩
      simp [results, Tryz.results88, go_sem, d0, d1, d2]
  · have hne : (E != 0) = true := by simpa using h0
    have HE2 : Hid (ldE3 V B E = E ∧ ldS3 V B E = {}) := Lib.hid ⟨by rw [HE.out]; simp [h0], by rw [HF.out]; simp [h0]⟩
    rw [HE2.out.1, HE2.out.2]
    clear h0
    go_enter Tryz.func88, Tryz.ntmps88
    go_wp2_with fail
    refine HLD.out.mono ?_
    rintro e w1 ⟨A, N, rfl, hb, hx⟩
    have HZ := Lib.hid ((hx.block _ (Array.getElem?_eq_some_iff.1 HZ.out).1).trans HZ.out)
    have HX := Lib.hid (HX.out.trans hx)
    clear hb hx
    obtain ⟨⟨d0, d1, d2⟩, f0, f1, f2⟩ := three_cellsY HZ.out
    go_wp2_with fail
    refine bodyPost_ret (v := .tuple #[.agg #[.int .i64 0, .int .i64 0, .int .i64 0], .int .i64 E]) ?_ rfl ⟨rfl, three_extY HX.out (Nat.le_refl _) _ _ _⟩
    simp [results, Tryz.results88, go_sem, d0, d1, d2]
end
section
open Go Go.RowKit
theorem LoadsY.of {w : World} {d : Nat} {F : Nat → Prop} {m : DM} (h : PDisk w d F m) (hL : LaidY w) (r : Int) (hk : knownC m.size r 2 = 0) (hfew : m.waits.length ≤ 1000000) : LoadsY w (some ⟨d, 0, none⟩) r (m.loadV r 2) (m.loadB r 2) (m.loadE r 2) :=
  fun _ hx => Load_of (h.ext hx) (hL.f.ext hx) r 2 hfew hk
set_option maxHeartbeats 1600000 in
theorem yopen_bad {p : Option Addr} {r : Int} {V : Nat} {B : List Nat} {E : Int} (c : Int) (sz : Nat) (w : World) (h0 : sz ≠ 0) (hc : inI 1 c 1099511627776 = true) (hsz : Calls Tryz.prog 54 #[.pointer p] w fun e w' => e = .returned (.int .i64 (sz : Int)) ∧ w = w')
    (h : LoadsY w p r V B E) (hL : LaidY w) (hB : B.length ≤ 43) (hE : ldE3 V B E ≠ 0) :
    Calls Tryz.prog 27 #[.pointer p, .int .i64 r, .int .i64 c] w fun e w' => e = .returned (.tuple #[.pointer none, .int .i64 (ldE3 V B E)]) ∧ Ext w w' := by
  have HS := Lib.hid hsz
  have HC := Lib.hid hc
  have HD := Lib.hid (yload_of h hL hB)
  obtain ⟨G, hG⟩ : ∃ G, ldE3 V B E = G := ⟨_, rfl⟩
  rw [hG] at HD hE ⊢
  have hne : ((sz : Int) == 0) = false := by simpa using h0
  have hGn : (G != 0) = true := by simpa using hE
  clear hsz hc h0 h hL hB hG hE
  go_enter Tryz.func27, Tryz.ntmps27
  go_wp2_with fail
  refine HS.out.mono ?_
  rintro e w1 ⟨rfl, rfl⟩
  go_wp2_with fail
  refine (ywithin_of 1 c 1099511627776 _).mono ?_
  rw [HC.out]
  rintro e w1 ⟨rfl, rfl⟩
  go_wp2_with fail
  refine HD.out.mono ?_
  rintro e w1 ⟨rfl, hx⟩
  have HX := Lib.hid hx
  clear hx
  go_wp2_with fail
  go_ret2
  exact ⟨rfl, HX.out.alloc _⟩
end
section
open Go Go.RowKit
set_option maxHeartbeats 1000000 in
theorem zparse_own (A : Option Addr) (n c : Nat) (l : List Nat) (w : World) (hL : Laid w) (hb : By w A n c l) (hn : n ≤ 140737488355000) :
    Calls Tryz.prog 207 #[.slice A n c] w fun e w' => ∃ A' N' c', e = .returned (.tuple #[.int .i64 ((paZ l).1 : Nat), .slice A' N' c', .int .i64 (paZ l).2.2]) ∧ By w' A' N' c' (paZ l).2.1 ∧ (∀ p, A' = some p → w.heap.size ≤ p.block) ∧ Ext w w' := by
  have hg := get_by A l n c 0 1 w hL hb (by omega)
  have HB := Lib.hid hb
  have hlen := hb.len
  cases l with
  | nil =>
    rw [getS_nilZ] at hg
    have HG := Lib.hid hg
    clear hL hb hg hlen
    go_enter Tryz.func207, Tryz.ntmps207
    go_wp2_with fail
    refine HG.out.mono ?_
    rintro e w1 ⟨rfl, hx⟩
    have HX := Lib.hid hx
    clear hx
    go_wp2_with fail
    refine bodyPost_ret (v := .tuple #[.int .i64 0, .slice none 0 0, .int .i64 120]) (by simp [results, Tryz.results207, go_sem]) rfl ?_
    exact ⟨none, 0, 0, rfl, By.nil_ _, (fun p hp => by cases hp), HX.out⟩
  | cons x r =>
    rw [getS_cons] at hg
    have HG := Lib.hid hg
    have e : paZ (x :: r) = if 1 ≤ x ∧ x ≤ 8 ∧ r.length ≤ 80 then (x, r, 0) else (0, [], 120) := rfl
    rw [e]
    rw [List.length_cons] at hlen
    have hx9 : x < 256 := hb.rd.lt x (List.mem_cons_self ..)
    clear hL hb hg e
    cases hin : inZ 1 (x : Int) 8 with
    | false =>
      have hno : ¬ (1 ≤ x ∧ x ≤ 8 ∧ r.length ≤ 80) := fun h => by
        have := inZ_iff.2 (show (1 : Int) ≤ (x : Int) ∧ (x : Int) ≤ 8 by omega)
        rw [hin] at this
        cases this
      rw [if_neg hno]
      have HIN := Lib.hid hin
      clear hno hin hlen
      go_enter Tryz.func207, Tryz.ntmps207
      go_wp2_with fail
      refine HG.out.mono ?_
      rintro e w1 ⟨rfl, hx⟩
      have HX := Lib.hid hx
      clear hx
      go_wp2_with fail
      refine (zcount_of _ _).mono ?_
      rw [HIN.out]
      rintro e w2 ⟨rfl, rfl⟩
      go_wp2_with fail
      refine bodyPost_ret (v := .tuple #[.int .i64 0, .slice none 0 0, .int .i64 120]) (by simp [results, Tryz.results207, go_sem]) rfl ?_
      exact ⟨none, 0, 0, rfl, By.nil_ _, (fun p hp => by cases hp), HX.out⟩
    | true =>
      have hx8 := inZ_iff.1 hin
      have HIN := Lib.hid hin
      clear hin
      by_cases h80 : 81 < n
      · rw [if_neg (by omega)]
        clear hlen hx8
        go_enter Tryz.func207, Tryz.ntmps207
        go_wp2_with fail
        refine HG.out.mono ?_
        rintro e w1 ⟨rfl, hx⟩
        have HX := Lib.hid hx
        clear hx
        go_wp2_with fail
        refine (zcount_of _ _).mono ?_
        rw [HIN.out]
        rintro e w2 ⟨rfl, rfl⟩
        go_wp2_with fail
        refine bodyPost_ret (v := .tuple #[.int .i64 0, .slice none 0 0, .int .i64 120]) (by simp [results, Tryz.results207, go_sem]) rfl ?_
        exact ⟨none, 0, 0, rfl, By.nil_ _, (fun p hp => by cases hp), HX.out⟩
      · rw [if_pos (by omega)]
        have hcut := fun W => zcut_one A n c (by omega) W
        have hn1 : 1 ≤ n := by omega
        clear hlen hx8
        go_enter Tryz.func207, Tryz.ntmps207
        go_wp2_with fail
        refine HG.out.mono ?_
        rintro e w1 ⟨rfl, hx⟩
        have HX := Lib.hid hx
        have HB1 := Lib.hid (By.tail1 (HB.out.ext hx))
        clear hx
        go_wp2_with fail
        refine (zcount_of _ _).mono ?_
        rw [HIN.out]
        rintro e w2 ⟨rfl, rfl⟩
        go_wp2_with fail
        refine (sclone_by _ _ _ _ _ HB1.out (by omega)).mono ?_
        rintro e w3 ⟨A', c', rfl, hby, hx, hown⟩
        have HFR : Hid (∀ p, A' = some p → w.heap.size ≤ p.block) := Lib.hid fun p hp => Nat.le_trans HX.out.size ((hown.lt p.block (by rw [hp]; rfl)).1)
        have HX3 := Lib.hid (HX.out.trans hx)
        have HBY := Lib.hid hby
        clear hby hx hown
        go_wp2_with fail
        refine bodyPost_ret (v := .tuple #[.int .i64 (x : Int), .slice A' (n - 1) c', .int .i64 0]) (by simp [results, Tryz.results207, go_sem]) rfl ?_
        exact ⟨A', n - 1, c', rfl, HBY.out, HFR.out, HX3.out⟩
end
section
open Go Go.RowKit
def DM.gotL (m : DM) (S : Int) : Nat → List Nat
  | 0 => []
  | k + 1 => DM.gotL m S k ++ (m.read (S + (k : Int))).1
def DM.gotB (m : DM) (S : Int) (W : Nat) : Bool := anyIn (fun s => decide ((m.read s).2 ≠ 0)) S W
def DM.plcL (m : DM) (S : Int) (W : Nat) : List Nat := if m.gotB S W = true then [] else m.gotL S W
theorem read_bad {m : DM} {s : Int} (h : (m.read s).2 ≠ 0) : (m.read s).1 = [] := by
  unfold DM.read at h ⊢
  split at h
  · rename_i hu; rw [if_pos hu]
  · rename_i hu
    rw [if_neg hu]
    split at h
    · rename_i hh; rw [if_pos hh]
    · rename_i hh
      rw [if_neg hh]
      split at h
      · exact absurd rfl h
      · split at h
        · rename_i hd; rw [if_pos hd]
        · exact absurd rfl h
theorem read_goodS {m : DM} (hok : m.Ok) {s : Int} (h : (m.read s).2 = 0) : Sect (m.read s).1 := by
  unfold DM.read at h ⊢
  split at h
  · cases h
  · rename_i hu
    rw [if_neg hu]
    split at h
    · cases h
    · rename_i hh
      rw [if_neg hh]
      split at h
      · rename_i b hl
        exact (hok.waits _ (lastW_mem hl)).2
      · split at h
        · cases h
        · rename_i hd
          rw [if_neg hd]
          have hlt := DM.has_lt hh
          rw [List.getD_eq_getElem?_getD, List.getElem?_eq_getElem hlt, Option.getD_some]
          exact hok.rests _ (List.getElem_mem hlt)
theorem read_new {m : DM} (hok : m.Ok) (s : Int) : (∀ b ∈ (m.read s).1, b < 256) ∧ (m.read s).1.length ≤ 64 := by
  by_cases h : (m.read s).2 = 0
  · have := read_goodS hok h
    exact ⟨this.2, by rw [this.1]; omega⟩
  · rw [read_bad h]
    exact ⟨fun b hb => (by cases hb), by simp⟩
theorem read_nilS {m : DM} (hok : m.Ok) {s : Int} : (m.read s).1 = [] ↔ (m.read s).2 ≠ 0 := by
  refine ⟨fun h h0 => ?_, read_bad⟩
  have := (read_goodS hok h0).1
  rw [h] at this
  cases this
theorem stM_nil (r g p : Int) : stM [] r g p = 2 ∧ (∀ k, mfl [] r g p k = 0) ∧ mbl [] r g p = [] := by
  have hz : szB [] = false := by decide
  have hg := size_bad hz
  refine ⟨nilW_bad r g p, fun k => ?_, ?_⟩
  · rw [(mine_bad hg).2.1, ofl_no hg]
  · rw [(mine_bad hg).2.2, obl_no hg]
end
section
open Go Go.RowKit
section
variable {w W W' : World} {g g1 : Nat} {x y a b d : Int}
end
end
section
open Go Go.RowKit
theorem mbl_len (l : List Nat) (x y z : Int) : (mbl l x y z).length ≤ l.length := by
  unfold mbl obl
  split
  · split
    · unfold bodyOf; rw [List.length_take, List.length_drop]; omega
    · simp
  · simp
section
variable {w : World} {g d s : Nat} {r inc : Int} {F : Nat → Prop} {m : DM}
end
end
end Go.Proofs.YtgcinagkbdcgiaaGreatDoor

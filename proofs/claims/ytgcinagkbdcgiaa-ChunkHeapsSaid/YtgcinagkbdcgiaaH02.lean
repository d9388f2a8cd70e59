/-
  The contracts of the program's nearest and May.
-/
import Derived.Test.YtgcinagkbdcgiaaH00
import Derived.Test.YtgcinagkbdcgiaaH01
import Derived.Deep.RegionHeld3
import Derived.Laws.Tables
import Derived.Laws.CopyOwn
import Derived.IntWalk
import Derived.Test.YtgcinagkbdcgiaaProg
import Derived.Lib.AppendZeros
import Derived.OwnWalk
import Derived.Outline
import Derived.WalkKit
import Derived.WalkSpells
import Derived.BigQuiet
import Derived.Lib.Hide
import Derived.Laws.Bits64
import Derived.Deep.DeepFit
import Derived.Laws.BitsAllLaws
import Derived.WalkLawsBesides
import Derived.Deep.QuietTactic
import Derived.Laws.OwnMore
import Derived.Lib.SmallJoins
import Derived.Deep.MidRow
import Derived.LaidEqlPtr
import Derived.Deep.WholeRow
import Derived.StillTailTactics
import Derived.RangeFuncNested
import Derived.RangeFuncBound
import Derived.RangeFuncCalls
import Derived.RangeFuncLeaves
import Derived.Shelf.Abstract
import Derived.Shelf.RegionOpen
import Derived.OwnWalkIn
import Derived.TacticsInMore
import Derived.LoopNIn
import Derived.LoopIn
import Derived.Deep.AppendLies
import Derived.Deep.DeepCutAuto
import Derived.OrdersIn
import Derived.TacticsIn
import Derived.Laws.IdiomArrays
import Derived.Maps.AppendAt
import Derived.Maps.OwnSet
import Derived.Maps.Keyed
namespace Go.Proofs.Ytgcinagkbdcgiaa
set_option maxRecDepth 100000
section
open Go Go.RowKit
theorem Ext.cell {a b : World} {p : Addr} {v : Value} (k : Ext a b) (h : a.cell? p = some v) : b.cell? p = some v := (Below.cell k (World.block_lt_of_cell? a _ h)).trans h
end
section
open Go Go.RowKit
structure Parts (w : World) (B : Nat) (G : Option Addr) (m : Nat) (ps : List (Value × List Nat)) : Prop where
  len : ps.length = m
  at_ : 0 < m → ∃ g o, G = some ⟨g, o, none⟩ ∧ g < B ∧ ∀ j p, ps[j]? = some p → w.cell? ⟨g, o + j, none⟩ = some p.1
  each : ∀ p ∈ ps, ∃ A n c, p.1 = .slice A n c ∧ Bs w B A n c p.2
theorem Parts.below {w w' : World} {B : Nat} {G : Option Addr} {m : Nat} {ps : List (Value × List Nat)} (h : Parts w B G m ps) (hb : Below B w w') : Parts w' B G m ps := by
  refine ⟨h.len, fun hm => ?_, fun p hp => ?_⟩
  · obtain ⟨g, o, e, hg, hc⟩ := h.at_ hm
    exact ⟨g, o, e, hg, fun j p hp => (hb.cell (p := ⟨g, o + j, none⟩) hg).trans (hc j p hp)⟩
  · obtain ⟨A, n, c, e, hbs⟩ := h.each p hp
    exact ⟨A, n, c, e, hbs.below hb⟩
end
section
open Go Go.RowKit
def Piece (B : Nat) (w' : World) (A' : Option Addr) (N n : Nat) (l : List Nat) : Prop := 0 < N → ∃ g c', A' = some ⟨g, 17, none⟩ ∧ 17 + N ≤ n ∧ w'.ownsRow B 5 1 (.slice (some ⟨g, 0, none⟩) n c') n (vb l)
end
section
open Go Go.RowKit
theorem Piece.ne {B : Nat} {w' : World} {A' : Option Addr} {N n h0 : Nat} {l : List Nat} (h : Piece B w' A' N n l) (hb : h0 < B) : ∀ g o, A' = some ⟨g, o, none⟩ → 0 < N → h0 ≠ g := by
  intro g o e hN
  obtain ⟨g', c', e', _, ho⟩ := h hN
  rw [e] at e'
  injection e' with e'
  injection e' with e1 _
  subst e1
  have := (ho.lt g rfl).1
  omega
end
section
open Go Go.RowKit
structure Mod (F : Nat → Prop) (w w' : World) : Prop where
  os : w'.os = w.os
  tape : w'.tape = w.tape
  output : w'.output = w.output
  size : w.heap.size ≤ w'.heap.size
  block : ∀ k, k < w.heap.size → ¬ F k → w'.heap[k]? = w.heap[k]?
section
variable {F G : Nat → Prop} {a b c w w' : World}
theorem Mod.refl (F : Nat → Prop) (w : World) : Mod F w w := ⟨rfl, rfl, rfl, Nat.le_refl _, fun _ _ _ => rfl⟩
theorem Mod.trans (h : Mod F a b) (k : Mod G b c) (hG : ∀ i, G i → F i ∨ a.heap.size ≤ i) : Mod F a c :=
  ⟨k.os.trans h.os, k.tape.trans h.tape, k.output.trans h.output, Nat.le_trans h.size k.size, fun i hi hf =>
    (k.block i (Nat.lt_of_lt_of_le hi h.size) fun hg => (hG i hg).elim hf fun hl => absurd hi (by omega)).trans (h.block i hi hf)⟩
theorem Mod.of_ext (h : Ext w w') : Mod F w w' := ⟨h.os, h.tape, h.output, h.size, fun k hk _ => h.block k hk⟩
theorem Mod.ext (h : Mod F a b) (k : Ext b c) : Mod F a c := h.trans (F := F) (G := F) (Mod.of_ext k) fun _ hi => .inl hi
theorem Mod.mono (h : Mod F w w') (hG : ∀ i, F i → G i) : Mod G w w' := ⟨h.os, h.tape, h.output, h.size, fun k hk hg => h.block k hk fun hf => hg (hG k hf)⟩
theorem Mod.alloc (h : Mod F a b) (o : Obj) : Mod F a (b.alloc o) := h.ext ((Ext.refl b).alloc o)
theorem Mod.setCell (h : Mod F a b) {p : Addr} (hp : F p.block ∨ a.heap.size ≤ p.block) (v : Value) : Mod F a (b.setCell p v) :=
  ⟨h.os, h.tape, h.output, Nat.le_trans h.size (by simp [World.setCell]), fun k hk hf => (Below.heap_setCell _ _ _ _ (fun e => by
    subst e
    exact hp.elim hf fun hl => absurd hk (by omega))).trans (h.block k hk hf)⟩
theorem Mod.grown {row : Option Nat} (h : Mod F a b) (hg : b.grownBy c row) (hr : ∀ k, row = some k → F k ∨ a.heap.size ≤ k) : Mod F a c :=
  ⟨hg.os.trans h.os, hg.tape.trans h.tape, hg.output.trans h.output, Nat.le_trans h.size hg.size, fun k hk hf =>
    (hg.block k (Nat.lt_of_lt_of_le hk h.size) (fun e => (hr k e.symm).elim hf fun hl => absurd hk (by omega))).trans (h.block k hk hf)⟩
theorem Mod.to_ext (h : Mod F w w') (hF : ∀ i, F i → w.heap.size ≤ i) : Ext w w' := ⟨h.os, h.tape, h.output, h.size, fun k hk => h.block k hk fun hf => absurd (hF k hf) (by omega)⟩
theorem Below.mod {B : Nat} (h : Below B a b) (k : Mod F b c) (hB : B ≤ b.heap.size) (hF : ∀ i, F i → B ≤ i) : Below B a c :=
  h.trans ⟨k.os, k.tape, k.output, k.size, fun i hi => k.block i (by omega) fun hf => absurd (hF i hf) (by omega)⟩
def Off (F : Nat → Prop) (A : Option Addr) : Prop := ∀ p, A = some p → ¬ F p.block
theorem Bs.mod {B : Nat} {A : Option Addr} {n cp : Nat} {l : List Nat} (h : Bs w B A n cp l) (k : Mod F w w') (hB : B ≤ w.heap.size) (ho : Off F A) : Bs w' B A n cp l :=
  ⟨h.len, h.cap, h.most, ⟨h.rd.1, fun hn => by
    obtain ⟨g, o, e, hg, hc⟩ := h.rd.2 hn
    refine ⟨g, o, e, hg, fun j x hx => ?_⟩
    rw [← hc j x hx]
    exact World.cell?_of_block (a := ⟨g, o + j, none⟩) (k.block g (by omega) (ho _ e))⟩, h.nil_⟩
theorem By.mod {A : Option Addr} {n cp : Nat} {l : List Nat} (h : By w A n cp l) (k : Mod F w w') (ho : Off F A) : By w' A n cp l := (Bs.mod h k (Nat.le_refl _) ho).more k.size
theorem heap_mod {g : Nat} {o : Obj} (h : w.heap[g]? = some o) (k : Mod F w w') (hg : ¬ F g) : w'.heap[g]? = some o := (k.block g (Array.getElem?_eq_some_iff.1 h).1 hg).trans h
theorem own_mod {base e size n : Nat} {v : Value} {xs : List Value} (h : w.ownsRow base e size v n xs) (k : Mod F w w') (hv : ∀ i, v.ownBlock = some i → ¬ F i) : w'.ownsRow base e size v n xs := by
  refine ⟨h.1, ?_⟩
  rcases h.2 with h0 | ⟨g, cap, cur, rfl, hb, hg, h1⟩
  · exact .inl h0
  · exact .inr ⟨g, cap, cur, rfl, hb, heap_mod hg k (hv g rfl), h1⟩
end
end
section
open Go Go.RowKit
def secC (r m : List Nat) (l : Bool) : List Value := vb r ++ (vb m ++ [.bool l])
def DM.sec (m : DM) (s : Nat) : List Value := secC (m.rest.getD s []) (m.meant.getD s []) (m.lost.getD s false)
theorem row_set {w : World} {g t : Nat} {fr : Nat × Nat} {cs cs' : Array Value} (i : Nat) (h : w.heap[g]? = some (.cells cs t fr)) (x : Value) (e : cs.setIfInBounds i x = cs') : (w.setCell ⟨g, i, none⟩ x).heap[g]? = some (.cells cs' t fr) := by
  subst e
  rw [setCell_eq_setRow w g i cs t fr x h]
  exact setRow_heap w g _ _ _ _ h
end
section
open Go Go.RowKit
def ZsAt (w : World) (A : Option Addr) (k : Nat) (zs : List Int) : Prop := zs.length = k ∧ k ≤ 1000 ∧ (0 < k → ∃ b, A = some ⟨b, 0, none⟩ ∧ ∀ (j : Nat) (z : Int), zs[j]? = some z → w.cell? ⟨b, j, none⟩ = some (.int .i64 z))
theorem ZsAt.nil_ (w : World) : ZsAt w none 0 [] := ⟨rfl, by omega, fun h => absurd h (by omega)⟩
end
section
open Go Go.RowKit
structure New (B : Nat) (w : World) (A : Option Addr) (n : Nat) (l : List Nat) : Prop where
  len : l.length = n
  lt : ∀ b ∈ l, b < 256
  at_ : (n = 0 ∧ A = none) ∨ ∃ g t, A = some ⟨g, 0, none⟩ ∧ B ≤ g ∧ w.heap[g]? = some (.cells (vb l).toArray t (0, 0))
  le : n ≤ 64
theorem New.by {B : Nat} {w : World} {A : Option Addr} {n : Nat} {l : List Nat} (h : New B w A n l) : By w A n n l := by
  have hn : n ≤ 9223372036854775807 := by have := h.le; omega
  rcases h.at_ with ⟨rfl, rfl⟩ | ⟨g, t, rfl, _, hg⟩
  · rw [List.eq_nil_of_length_eq_zero h.len]
    exact By.nil_ w
  · exact By.of_row hg (fun j x hx => vb_at hx) h.lt h.len (Nat.le_refl _) hn
theorem New.mod {B : Nat} {w w' : World} {A : Option Addr} {n : Nat} {l : List Nat} {F : Nat → Prop} (h : New B w A n l) (k : Mod F w w') (hF : ∀ p, A = some p → ¬ F p.block) : New B w' A n l := by
  refine ⟨h.len, h.lt, ?_, h.le⟩
  rcases h.at_ with h0 | ⟨g, t, e, hb, hg⟩
  · exact .inl h0
  · exact .inr ⟨g, t, e, hb, heap_mod hg k (hF _ e)⟩
theorem New.ext {B : Nat} {w w' : World} {A : Option Addr} {n : Nat} {l : List Nat} (h : New B w A n l) (k : Ext w w') : New B w' A n l := h.mod (F := fun _ => False) (Mod.of_ext k) fun _ _ h => h
theorem New.base {B B' : Nat} {w : World} {A : Option Addr} {n : Nat} {l : List Nat} (h : New B w A n l) (hB : B' ≤ B) : New B' w A n l :=
  ⟨h.len, h.lt, h.at_.imp id fun ⟨g, t, e, hb, hg⟩ => ⟨g, t, e, Nat.le_trans hB hb, hg⟩, h.le⟩
theorem New.alloc (w : World) (l : List Nat) (t : TypeId) (hl : Sect l) {B : Nat} (hB : B ≤ w.heap.size) : New B (w.alloc (.cells (vb l).toArray t)) (some ⟨w.heap.size, 0, none⟩) 64 l :=
  ⟨hl.1, hl.2, .inr ⟨_, t, rfl, hB, heap_alloc_new w _⟩, Nat.le_refl _⟩
end
section
open Go Go.RowKit
theorem ZsAt.one (w : World) (s : Int) (t : TypeId) : ZsAt (w.alloc (.cells #[.int .i64 s] t)) (some ⟨w.heap.size, 0, none⟩) 1 [s] := by
  refine ⟨rfl, by omega, fun _ => ⟨_, rfl, fun j z hz => ?_⟩⟩
  rw [World.cell?_alloc_new]
  have hj : j < 1 := (List.getElem?_eq_some_iff.1 hz).1
  obtain rfl : j = 0 := by omega
  simp at hz
  subst hz
  rfl
end
section
open Go Go.RowKit
theorem Mod.then {F : Nat → Prop} {a b c : World} (h : Mod F a b) (k : Mod F b c) : Mod F a c := h.trans k fun _ hi => .inl hi
end
section
open Go Go.RowKit Go.Shelf
attribute [local go_sem] Oper.semAt_some
end
section
open Go Go.RowKit Go.Shelf
attribute [local go_sem] Oper.semAt_some
theorem calls_marks {f : FuncId} {fn : Func} {c : Code} {args : Array Value} {w : World} {R : Ending → World → Prop} (hf : Try.prog.funcs[f]? = some fn) (hb : fn.body = some c)
    (h : c.wp Try.prog (bodyPostM Fence.wide 9 Try.prog fn R) { tmps := args ++ Array.replicate (fn.ntmps - args.size) undef, defers := [] } w) : Calls Try.prog f args w R :=
  (callsIn_wide (n := 9)).1 (callsIn_of_wp_marks hf hb trivial (wpIn_wide.2 h) rfl)
theorem retM1 {fn : Func} {R : Ending → World → Prop} {a : Act} {w : World} {v : Value} {D : Nat} (hd : a.defers = [{ target := .collected D, args := #[] }]) (hK : w.heap[D]? = some (.deferred (some [])))
    (hr : (results fn a.tmps).run Try.prog (w.putObj D (.deferred none)) = .ok v (w.putObj D (.deferred none))) (hR : R (.returned v) (w.putObj D (.deferred none))) : bodyPostM Fence.wide 9 Try.prog fn R .ret a w := by
  show LeavesInM Fence.wide 9 Try.prog fn a.tmps R a.defers .returning w
  rw [hd]
  exact ⟨by simp, .inl ⟨_, _, rfl, run_takeDeferred hK, v, hr, hR⟩⟩
end
section
open Go Go.RowKit
theorem Vs.mod {w w' : World} {B : Nat} {A : Option Addr} {n c : Nat} {vs : List Value} {F : Nat → Prop} (h : Vs w B A n c vs) (k : Mod F w w') (hB : B ≤ w.heap.size) (ho : 0 < n → Off F A) : Vs w' B A n c vs :=
  ⟨h.len, h.cap, h.most, fun hn => by
    obtain ⟨g, o, e, hg, hc⟩ := h.rd hn
    refine ⟨g, o, e, hg, fun j v hv => ?_⟩
    rw [← hc j v hv]
    exact World.cell?_of_block (a := ⟨g, o + j, none⟩) (k.block g (by omega) (ho hn _ e)), h.nil_⟩
end
section
open Go Go.RowKit
section
variable {w : World} {d : Nat} {F : Nat → Prop} {m : DM}
end
end
section
open Go Go.RowKit Go.Shelf
attribute [local go_sem] Oper.semAt_some
theorem grown_of_ext {w w' : World} (h : Ext w w') : w.grownBy w' none := ⟨h.os, h.tape, h.output, h.size, fun k hk _ => h.block k hk⟩
theorem mod_cell {G : Nat → Prop} {w w' : World} (k : Mod G w w') {g i : Nat} {v : Value} (hg : ¬ G g) (h : w.cell? ⟨g, i, none⟩ = some v) : w'.cell? ⟨g, i, none⟩ = some v :=
  (World.cell?_of_block (a := ⟨g, i, none⟩) (k.block g (World.block_lt_of_cell? w _ h) hg)).trans h
theorem ext_of_cell {w w' : World} {g i : Nat} {v : Value} (h : Ext w w') (hc : w.cell? ⟨g, i, none⟩ = some v) : w'.cell? ⟨g, i, none⟩ = some v := (Below.cell h (p := ⟨g, i, none⟩) (World.block_lt_of_cell? w _ hc)).trans hc
theorem mod_put {G : Nat → Prop} {w W : World} (l : Nat) (o o' : Obj) (hG : ∀ k, w.heap.size ≤ k → G k) (hl : w.heap.size ≤ l) (_ : W.heap[l]? = some o) : Mod G W (W.putObj l o') :=
  (Mod.refl G W).grown (grownBy_putObj' W l o') (fun k e => by cases e; exact .inl (hG l hl))
end
section
open Go Go.RowKit Go.Shelf
attribute [local go_sem] Oper.semAt_some
end
section
open Go Go.RowKit Go.Lib
theorem own_madeZ (w : World) : (w.alloc (.cells #[] 5)).ownsRow w.heap.size 5 1 (.slice (some ⟨w.heap.size, 0, none⟩) 0 0) 0 (vb []) := World.ownsRow_made w #[] 0 (Nat.le_refl _) (Nat.zero_le _) rfl
theorem sclone_by (A : Option Addr) (l : List Nat) (n c : Nat) (w : World) (hb : By w A n c l) (hm : n ≤ 140737488355328) :
    Calls Try.prog 38 #[.slice A n c] w fun e w' => ∃ A' c', e = .returned (.slice A' n c') ∧ By w' A' n c' l ∧ Ext w w' ∧ w'.ownsRow w.heap.size 5 1 (.slice A' n c') n (vb l) := by
  obtain ⟨i0, hi, hz0, hz1, hz2⟩ := info_parts byte_info
  have q22 : ∀ (w : World) (a : Option Addr) (n c n' c' : Nat), (binOp .eql 30 (.slice a n c) (.slice none n' c')).run Try.prog w = .ok (.bool a.isNone) w := fun w a n c n' c' => Lib.run_eql_slice_nil w _ _ a n c n' c' Try.underlying30
  have HB := Lib.hid hb
  cases A with
  | none =>
    obtain rfl := Bs.nil_ hb rfl
    have hn : n = 0 := by have := Bs.cap hb; omega
    subst hn
    have hl0 : l = [] := List.eq_nil_of_length_eq_zero (Bs.len hb)
    subst hl0
    clear hb
    go_enter Try.func38, Try.ntmps38
    go_wp2_with fail
    go_ret
    exact ⟨none, 0, rfl, By.nil_ _, Ext.refl _, World.ownsRow_nil _ _ _ _⟩
  | some ad =>
    have HX := Lib.hid ((Ext.refl w).alloc (.cells #[] 5))
    have HO := Lib.hid (own_madeZ w)
    clear hb
    go_enter Try.func38, Try.ntmps38
    go_wp2_with (at_builtin; refine wpList_append_by rfl _ _ 30 rfl w.heap.size 5 i0 Try.underlying30 hi hz0 hz1 hz2 _ 0 (vb []) rfl HO.out (some ad) n c l rfl (HB.out.ext HX.out) (by omega) (Ext.size HX.out) ?_)
    intro v2 w2 hown hg
    obtain ⟨hx, A2, c2, rfl, hb2, ho2⟩ := app_step (l1 := []) HX.out HO.out hg hown (by simp) HB.out.rd.lt
    have HX2 := Lib.hid hx
    have HB2 := Lib.hid hb2
    have HO2 := Lib.hid ho2
    clear hx hb2 ho2 hown hg
    go_wp2_with fail
    go_ret
    exact ⟨A2, c2, rfl, HB2.out, HX2.out, HO2.out⟩
end
section
open Go Go.RowKit Go.ChangeShapes Go.WideShapes Go.Deep
structure Lst where
  A : Option Addr := none
  n : Nat := 0
  c : Nat := 0
  l : List Nat := []
instance : Inhabited Lst := ⟨{}⟩
def Lst.Ok (a : Lst) (w : World) (B : Nat) : Prop := Bs w B a.A a.n a.c a.l
structure Lsts (w : World) (B : Nat) (A : Option Addr) (n c : Nat) (l : List Lst) : Prop where
  len : l.length = n
  cap : n ≤ c
  most : c ≤ 9223372036854775807
  each : ∀ a ∈ l, a.Ok w B
  rd : 0 < n → ∃ g o, A = some ⟨g, o, none⟩ ∧ g < B ∧ ∀ j a, l[j]? = some a → w.cell? ⟨g, o + j, none⟩ = some (.slice a.A a.n a.c)
  nil_ : A = none → c = 0
theorem Lsts.below {w w' : World} {B : Nat} {A : Option Addr} {n c : Nat} {l : List Lst} (h : Lsts w B A n c l) (hb : Below B w w') : Lsts w' B A n c l :=
  ⟨h.len, h.cap, h.most, fun a ha => (h.each a ha).below hb, fun hn => by
    obtain ⟨g, o, e, hg, hc⟩ := h.rd hn
    exact ⟨g, o, e, hg, fun j a ha => (hb.cell (p := ⟨g, o + j, none⟩) hg).trans (hc j a ha)⟩, h.nil_⟩
theorem Lsts.more {w : World} {B B' : Nat} {A : Option Addr} {n c : Nat} {l : List Lst} (h : Lsts w B A n c l) (hB : B ≤ B') : Lsts w B' A n c l :=
  ⟨h.len, h.cap, h.most, fun a ha => (h.each a ha).more hB, fun hn => by
    obtain ⟨g, o, e, hg, hc⟩ := h.rd hn
    exact ⟨g, o, e, by omega, hc⟩, h.nil_⟩
theorem Lsts.at_ {w : World} {B : Nat} {A : Option Addr} {n c : Nat} {l : List Lst} (h : Lsts w B A n c l) {j : Nat} (hj : j < n) : ∃ g o a, A = some ⟨g, o, none⟩ ∧ g < B ∧ l[j]? = some a ∧ Bs w B a.A a.n a.c a.l ∧
    w.cell? ⟨g, o + j, none⟩ = some (.slice a.A a.n a.c) := by
  obtain ⟨g, o, e, hg, hc⟩ := h.rd (by omega)
  have hj' : j < l.length := by rw [h.len]; exact hj
  have ha : l[j]? = some l[j] := List.getElem?_eq_getElem hj'
  exact ⟨g, o, l[j], e, hg, ha, h.each _ (List.getElem_mem hj'), hc j _ ha⟩
section
variable {H : Type} {enc : TypeId × Value → H} {P : Program} {w : World} {base : Nat} {spare : Nat → Bool} {held : Bool}
end
end
section
open Go Go.RowKit Go.Shelf
attribute [local go_sem] Oper.semAt_some
def Lst.val (a : Lst) : Value := .slice a.A a.n a.c
def ByO (W : World) (b : Nat) (a : Lst) : Prop := By W a.A a.n a.c a.l ∧ W.ownsRow b 5 1 a.val a.n (vb a.l)
def LsOk (W : World) (b : Nat) (v : Value) (L : List Lst) : Prop := ∀ a ∈ L, ByO W b a ∧ ∀ p, a.A = some p → b < p.block ∧ p.block < W.heap.size ∧ v.ownBlock ≠ some p.block
theorem own_fresh {w w' : World} {A : Option Addr} {n c : Nat} {e : TypeId} {xs : List Value} (h : w'.ownsRow w.heap.size e 1 (.slice A n c) n xs) : ∀ p, A = some p → w.heap.size ≤ p.block ∧ p.block < w'.heap.size := fun p hp => by
  subst hp
  exact h.lt p.block rfl
theorem ownsRow_ext {w w' : World} {b e sz n : Nat} {v : Value} {xs : List Value} (h : w.ownsRow b e sz v n xs) (k : Ext w w') : w'.ownsRow b e sz v n xs := own_mod h (Mod.of_ext (F := fun _ => False) k) fun _ _ hf => hf
theorem By.grown {W W' : World} {A : Option Addr} {n c : Nat} {l : List Nat} {row : Option Nat} (h : By W A n c l) (hg : W.grownBy W' row) (hr : ∀ r, row = some r → ∃ o : Obj, W.heap[r]? = some o ∧ o.isCells = false) : By W' A n c l := by
  cases l with
  | nil => exact ⟨h.len, h.cap, h.most, Rd.nil_, Bs.nil_ h⟩
  | cons x l =>
    obtain ⟨g, o, hA, hlt, hc⟩ := h.rd.2 (by simp)
    have h0 := hc 0 x rfl
    have hm : Mod (fun k => some k = row) W W' := ⟨hg.os, hg.tape, hg.output, hg.size, fun k hk hf => hg.block k hk hf⟩
    refine By.mod h hm ?_
    intro p hp hf
    rw [hA] at hp
    injection hp with hp
    subst hp
    obtain ⟨ob, ho, hcl⟩ := hr g hf.symm
    unfold World.cell? at h0
    rw [show (⟨g, o + 0, none⟩ : Addr).block = g from rfl, ho] at h0
    cases ob <;> simp [Obj.isCells] at hcl h0
theorem ByO.mod {W W' : World} {b : Nat} {a : Lst} {F : Nat → Prop} (h : ByO W b a) (k : Mod F W W') (ho : ∀ p, a.A = some p → ¬ F p.block) : ByO W' b a :=
  ⟨By.mod h.1 k ho, own_mod h.2 k fun i hi => by
    cases hA : a.A with
    | none => rw [Lst.val, hA] at hi; cases hi
    | some p =>
      rw [Lst.val, hA] at hi
      have hi : some p.block = some i := hi
      injection hi with hi
      subst hi
      exact ho p hA⟩
theorem ByO.ext {W W' : World} {b : Nat} {a : Lst} (h : ByO W b a) (k : Ext W W') : ByO W' b a := ⟨By.ext h.1 k, ownsRow_ext h.2 k⟩
theorem ByO.grown {W W' : World} {b : Nat} {a : Lst} {row : Option Nat} (h : ByO W b a) (hg : W.grownBy W' row) (hr : ∀ r, row = some r → ∃ o : Obj, W.heap[r]? = some o ∧ o.isCells = false) : ByO W' b a := by
  have hm : Mod (fun k => some k = row) W W' := ⟨hg.os, hg.tape, hg.output, hg.size, fun k hk hf => hg.block k hk hf⟩
  refine ⟨By.grown h.1 hg hr, own_mod h.2 hm fun i hi hf => ?_⟩
  obtain ⟨o, ho, hc⟩ := hr i hf.symm
  rcases h.2.2 with ⟨hv, _⟩ | ⟨g, cap, cur, hv, _, hgo, _⟩
  · rw [hv] at hi; cases hi
  · rw [hv] at hi
    have hi : some g = some i := hi
    injection hi with hi
    subst hi
    rw [hgo] at ho
    cases ho
    cases hc
theorem LsOk.grown {W W' : World} {b : Nat} {v : Value} {L : List Lst} {row : Option Nat} (h : LsOk W b v L) (hg : W.grownBy W' row) (hr : ∀ r, row = some r → ∃ o : Obj, W.heap[r]? = some o ∧ o.isCells = false) : LsOk W' b v L := fun a ha =>
  ⟨(h a ha).1.grown hg hr, fun p hp => by
    obtain ⟨h1, h2, h3⟩ := (h a ha).2 p hp
    exact ⟨h1, Nat.lt_of_lt_of_le h2 hg.size, h3⟩⟩
theorem LsOk.more {W w1 w2 : World} {b g cap m : Nat} {v : Value} {L : List Lst} {tmp : Obj} {a0 : Lst} (h : LsOk W b v L) (hb : b < W.heap.size) (hvo : ∀ k, v.ownBlock = some k → k < W.heap.size) (hx : Ext W w1) (hby : ByO w1 b a0) (hfr : ∀ p, a0.A = some p → W.heap.size ≤ p.block ∧ p.block < w1.heap.size)
    (hg : (w1.alloc tmp).grownBy w2 v.ownBlock) (hgl : v.ownBlock = some g ∨ g = (w1.alloc tmp).heap.size) (u : Value) : LsOk (w2.setCell ⟨b, 0, none⟩ u) b (.slice (some ⟨g, 0, none⟩) m cap) (L ++ [a0]) := by
  have hs1 := hx.size
  have hs2 : (w1.alloc tmp).heap.size = w1.heap.size + 1 := World.size_alloc _ _
  have hs3 := hg.size
  have hs4 : (w2.setCell ⟨b, 0, none⟩ u).heap.size = w2.heap.size := by simp [World.setCell]
  have hm : Mod (fun k => k = b ∨ some k = v.ownBlock) w1 (w2.setCell ⟨b, 0, none⟩ u) := by
    have h1 : Mod (fun k => k = b ∨ some k = v.ownBlock) w1 (w1.alloc tmp) := Mod.of_ext ((Ext.refl w1).alloc tmp)
    have h2 : Mod (fun k => k = b ∨ some k = v.ownBlock) w1 w2 := h1.grown hg fun k hk => .inl (.inr hk.symm)
    exact Mod.setCell h2 (p := ⟨b, 0, none⟩) (.inl (.inl rfl)) u
  intro a ha
  rcases List.mem_append.1 ha with ha | ha
  · obtain ⟨h1, h2⟩ := h a ha
    refine ⟨ByO.mod (h1.ext hx) hm fun p hp hf => ?_, fun p hp => ?_⟩
    · obtain ⟨q1, _, q3⟩ := h2 p hp
      rcases hf with hf | hf
      · omega
      · exact q3 hf.symm
    · obtain ⟨q1, q2, q3⟩ := h2 p hp
      refine ⟨q1, by omega, fun e => ?_⟩
      injection e with e
      rcases hgl with hgl | hgl
      · have e2 : g = p.block := e
        rw [e2] at hgl; exact q3 hgl
      · have : g = p.block := e
        omega
  · rw [List.mem_singleton] at ha
    subst ha
    refine ⟨ByO.mod hby hm fun p hp hf => ?_, fun p hp => ?_⟩
    · obtain ⟨q1, q2⟩ := hfr p hp
      rcases hf with hf | hf
      · omega
      · have := hvo _ hf.symm
        omega
    · obtain ⟨q1, q2⟩ := hfr p hp
      refine ⟨by omega, by omega, fun e => ?_⟩
      injection e with e
      have e2 : g = p.block := e
      rcases hgl with hgl | hgl
      · have := hvo _ hgl
        omega
      · omega
end
section
open Go Go.RowKit Go.Maps
def RV : Value → Option (DataW Value × List MemPlace) := fun v => some (.held v, [])
def optV : Option Lst → Value
  | none => .slice none 0 0
  | some a => a.val
def updZ (f : Int → Option Lst) (k : Int) (o : Option Lst) : Int → Option Lst := fun j => if j = k then o else f j
theorem lawZ : Keyed Try.prog 3 := int_keyed Try.underlying3
theorem zeroZ (w : World) : (zeroValue 30).run Try.prog w = .ok (.slice none 0 0) w := by kernel_rfl
theorem keyZ_is (k : Int) (_ : (Lit.int .i64 k).wf = true) : WideAt.IsKeyLit (.int .i64 k) := by
  first | trivial | (simp [WideAt.IsKeyLit])
structure MapZ (w : World) (bm nb : Nat) (f : Int → Option Lst) : Prop where
  own : ∃ D : DataW Value, w.ownsMap Try.prog 3 RV bm nb D ∧ ∀ k : Int, (Lit.int .i64 k).wf = true → Maps.has D (.int .i64 k) = (f k).isSome ∧ ∀ a, f k = some a → ∀ z, D.atKey (.int .i64 k) z = .held a.val
theorem MapZ.new (w : World) : MapZ (w.alloc (.map #[] 0)) w.heap.size 0 fun _ => none :=
  ⟨_, World.ownsMap_made w Try.prog 3 RV, fun k _ => ⟨rfl, fun a h => by cases h⟩⟩
theorem MapZ.lt {w : World} {bm nb : Nat} {f : Int → Option Lst} (h : MapZ w bm nb f) : bm < w.heap.size := by
  obtain ⟨D, ho, _⟩ := h.own
  exact ho.lt
theorem MapZ.mod {w w' : World} {bm nb : Nat} {f : Int → Option Lst} {F : Nat → Prop} (h : MapZ w bm nb f) (hm : Mod F w w') (hF : ¬ F bm) : MapZ w' bm nb f := by
  obtain ⟨D, ⟨es, clock, hb, r⟩, hd⟩ := h.own
  exact ⟨D, ⟨es, clock, heap_mod hb hm hF, r⟩, hd⟩
theorem MapZ.ext {w w' : World} {bm nb : Nat} {f : Int → Option Lst} (h : MapZ w bm nb f) (hx : Ext w w') : MapZ w' bm nb f := h.mod (F := fun _ => False) (Mod.of_ext hx) fun hf => hf
theorem MapZ.look {w : World} {bm nb : Nat} {f : Int → Option Lst} (h : MapZ w bm nb f) {k : Int} (hk : (Lit.int .i64 k).wf = true) :
    (Instr.lookup 69 (.map (some bm)) (.int .i64 k) true).run Try.prog w = .ok (.tuple #[optV (f k), .bool (f k).isSome]) w := by
  obtain ⟨D, ho, hd⟩ := h.own
  obtain ⟨hh, ha⟩ := hd k hk
  obtain ⟨v, ps, hrun, hR⟩ := ho.look_ok lawZ Try.underlying69 (zeroZ w) (zd := .held (.slice none 0 0)) (zp := []) rfl (keyOf_int_mk Try.underlying3 hk)
  rw [hrun, hh]
  unfold RV at hR
  injection hR with hR
  injection hR with hR _
  cases hf : f k with
  | none =>
    rw [hf] at hh
    rw [atKey_of_not_has hh] at hR
    injection hR with hR
    rw [hR]
    rfl
  | some a =>
    rw [ha a hf] at hR
    injection hR with hR
    rw [hR]
    rfl
theorem lit_ne {j k : Int} (h : j ≠ k) : (Lit.int .i64 j) ≠ (Lit.int .i64 k) := fun e => h (by injection e)
theorem MapZ.store {w : World} {bm nb : Nat} {f : Int → Option Lst} (h : MapZ w bm nb f) {k : Int} (hk : (Lit.int .i64 k).wf = true) (hn : nb < maxLen) (a : Lst) :
    ∃ w', (Instr.mapUpdate 69 (.map (some bm)) (.int .i64 k) (.slice a.A a.n a.c)).run Try.prog w = .ok () w' ∧ MapZ w' bm (nb + 1) (updZ f k (some a)) ∧ w.mapTurned w' bm := by
  obtain ⟨D, ho, hd⟩ := h.own
  obtain ⟨w', hrun, ho2, ht⟩ := ho.store lawZ Try.underlying69 hn (keyOf_int_mk Try.underlying3 hk) (val := .slice a.A a.n a.c) (d := .held (.slice a.A a.n a.c)) (ps := []) rfl
  have hM := ho.isMap
  refine ⟨w', hrun, ⟨_, ho2, fun j hj => ?_⟩, ht⟩
  by_cases hjk : j = k
  · subst hjk
    unfold updZ
    rw [if_pos rfl]
    refine ⟨has_put_same hM (keyZ_is j hj) _, fun b hb z => ?_⟩
    injection hb with hb
    subst hb
    exact atKey_put_same hM (keyZ_is j hj) _ _
  · unfold updZ
    rw [if_neg hjk]
    refine ⟨(has_put_other (lit_ne hjk) _).trans (hd j hj).1, fun b hb z => ?_⟩
    rw [atKey_put_other (lit_ne hjk)]
    exact (hd j hj).2 b hb z
theorem MapZ.drop {w : World} {bm nb : Nat} {f : Int → Option Lst} (h : MapZ w bm nb f) {k : Int} (hk : (Lit.int .i64 k).wf = true) (ty : TypeId) :
    ∃ w', (Builtin.delete_ #[69, 3] ty #[.map (some bm), .int .i64 k]).run Try.prog w = .ok (.tuple #[]) w' ∧ MapZ w' bm nb (updZ f k none) ∧ w.mapTurned w' bm := by
  obtain ⟨D, ho, hd⟩ := h.own
  obtain ⟨w', hrun, ho2, ht⟩ := ho.drop lawZ Try.underlying69 (keyOf_int_mk Try.underlying3 hk) ty
  refine ⟨w', hrun, ⟨_, ho2, fun j hj => ?_⟩, ht⟩
  by_cases hjk : j = k
  · subst hjk
    unfold updZ
    rw [if_pos rfl]
    exact ⟨has_del_same, fun b hb => by cases hb⟩
  · unfold updZ
    rw [if_neg hjk]
    refine ⟨(has_del_other (lit_ne hjk)).trans (hd j hj).1, fun b hb z => ?_⟩
    rw [atKey_del_other (lit_ne hjk)]
    exact (hd j hj).2 b hb z
theorem turned_mod {w w' : World} {b : Nat} (h : w.mapTurned w' b) : Mod (fun k => k = b) w w' := by
  have hg := h.grown
  exact ⟨hg.os, hg.tape, hg.output, hg.size, fun k hk hf => hg.block k hk (fun e => hf (by injection e))⟩
end
end Go.Proofs.Ytgcinagkbdcgiaa
